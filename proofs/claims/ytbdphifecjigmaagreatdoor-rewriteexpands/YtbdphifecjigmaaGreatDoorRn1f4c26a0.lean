import Derived.Test.YtbdphifecjigmaaGreatDoorRn8f80f976
namespace Go.Proofs.YtbdphifecjigmaaGreatDoor.Cir
end Go.Proofs.YtbdphifecjigmaaGreatDoor.Cir
namespace Go.Proofs.YtbdphifecjigmaaGreatDoor.Gt
end Go.Proofs.YtbdphifecjigmaaGreatDoor.Gt
namespace Go.Proofs.YtbdphifecjigmaaGreatDoor.Oct
end Go.Proofs.YtbdphifecjigmaaGreatDoor.Oct
namespace Go.Proofs.YtbdphifecjigmaaGreatDoor.Tok
end Go.Proofs.YtbdphifecjigmaaGreatDoor.Tok
set_option maxRecDepth 100000
set_option maxHeartbeats 2000000
namespace Go.Proofs.YtbdphifecjigmaaGreatDoor.Rwt
open Go.RowKit Go.Shelf Go.Proofs.YtbdphifecjigmaaGreatDoor.Oct Go.Proofs.YtbdphifecjigmaaGreatDoor.Tok Go.Proofs.YtbdphifecjigmaaGreatDoor.Gt Go.Proofs.YtbdphifecjigmaaGreatDoor.Cir
def lkO (lk : COp) (x : Int × List Int) : COp := ⟨lk.kind, x.1, x.2, lk.bit, lk.cond, lk.whn⟩
def PW (V : World) (B g : Nat) (lk : COp) (lv : Value) (n : Nat) (l : List COp) (e : Ending) (w' : World) : Prop := e = .returned (.tuple #[]) /\ (∃ ao' c', Pen w' B g lk lv ao' n c' l) /\ Below B V w'
theorem ns_row {V : World} {g : Nat} {zs : List Int} (h : V.heap[g]? = some (.cells (zs.map (Value.int .i64)).toArray 3 (0, 0))) : Ns V (some ⟨g, 0, none⟩) zs := .inr ⟨g, 0, rfl, fun j z hj => (cell_of_row _ _ _ _ _ _ h).trans (by simp [hj])⟩
theorem rWn {V : World} {B g : Nat} {lk : COp} {lv : Value} {ao : Option Addr} {n c : Nat} {l : List COp} (h : Pen V B g lk lv ao n c l) (hlv : ∃ al nl cl, lv = .slice al nl cl) (k : Int) (zs : List Int) (hz : zs.length <= 1000) (hn : n <= 100000) :
    Calls Tryz.prog 28 #[.pointer (some ⟨g, 0, none⟩), .int .i64 k, .slice (some ⟨V.heap.size, 0, none⟩) zs.length zs.length] (V.alloc (.cells (zs.map (Value.int .i64)).toArray 3)) (PW V B g lk lv (n + 1) (l ++ [lkO lk (k, zs)])) := by
  have hb := bnew V (.cells (zs.map (Value.int .i64)).toArray 3)
  refine (rWrite (h.below hb) hlv k (some ⟨V.heap.size, 0, none⟩) zs.length zs hz (ns_row (heap_alloc_new _ _)) hn).mono ?_
  rintro e w' ⟨rfl, h1, h2⟩
  exact ⟨rfl, h1, (hb.mono h.vs).trans h2⟩
theorem rTwo12 {V : World} {B g : Nat} {lk : COp} {lv : Value} {ao : Option Addr} {n c : Nat} {l : List COp} (h : Pen V B g lk lv ao n c l) (hlv : ∃ al nl cl, lv = .slice al nl cl) (t u : Int) (hn : n <= 90000) :
    Calls Tryz.prog 26 #[.pointer (some ⟨g, 0, none⟩), .int .i64 12, .int .i64 t, .int .i64 u] V (PW V B g lk lv (n + 3) (l ++ [(6, [u]), (11, [t, u]), (5, [u])].map (lkO lk))) := by
  have hlv' := hlv
  have HP := hide h
  clear h
  go_enter Tryz.func26, Tryz.ntmps26
  go_wp2_with fail
  refine (rWn HP.out hlv' 6 [u] (by simp) (by omega)).mono ?_
  rintro e w1 ⟨rfl, ⟨a1, c1, hp1⟩, hb1⟩
  have HP1 := hide hp1
  have HB1 := hide (hb1)
  clear hp1 hb1
  go_wp2_with fail
  refine (rWn HP1.out hlv' 11 [t, u] (by simp) (by omega)).mono ?_
  rintro e w2 ⟨rfl, ⟨a2, c2, hp2⟩, hb2⟩
  have HP2 := hide hp2
  have HB2 := hide (HB1.out.trans hb2)
  clear hp2 hb2
  go_wp2_with fail
  refine (rWn HP2.out hlv' 5 [u] (by simp) (by omega)).mono ?_
  rintro e w3 ⟨rfl, ⟨a3, c3, hp3⟩, hb3⟩
  have HP3 := hide hp3
  have HB3 := hide (HB2.out.trans hb3)
  clear hp3 hb3
  go_wp2_with fail
  go_end0
  refine ⟨rfl, ⟨a3, c3, ?_⟩, HB3.out⟩
  have hq := HP3.out
  simp only [List.append_assoc, List.cons_append, List.nil_append, List.map_cons, List.map_nil] at hq ⊢
  exact hq
theorem rTwo13 {V : World} {B g : Nat} {lk : COp} {lv : Value} {ao : Option Addr} {n c : Nat} {l : List COp} (h : Pen V B g lk lv ao n c l) (hlv : ∃ al nl cl, lv = .slice al nl cl) (t u : Int) (hn : n <= 90000) :
    Calls Tryz.prog 26 #[.pointer (some ⟨g, 0, none⟩), .int .i64 13, .int .i64 t, .int .i64 u] V (PW V B g lk lv (n + 3) (l ++ [(9, [u]), (11, [t, u]), (10, [u])].map (lkO lk))) := by
  have hlv' := hlv
  have HP := hide h
  clear h
  go_enter Tryz.func26, Tryz.ntmps26
  go_wp2_with fail
  refine (rWn HP.out hlv' 9 [u] (by simp) (by omega)).mono ?_
  rintro e w1 ⟨rfl, ⟨a1, c1, hp1⟩, hb1⟩
  have HP1 := hide hp1
  have HB1 := hide (hb1)
  clear hp1 hb1
  go_wp2_with fail
  refine (rWn HP1.out hlv' 11 [t, u] (by simp) (by omega)).mono ?_
  rintro e w2 ⟨rfl, ⟨a2, c2, hp2⟩, hb2⟩
  have HP2 := hide hp2
  have HB2 := hide (HB1.out.trans hb2)
  clear hp2 hb2
  go_wp2_with fail
  refine (rWn HP2.out hlv' 10 [u] (by simp) (by omega)).mono ?_
  rintro e w3 ⟨rfl, ⟨a3, c3, hp3⟩, hb3⟩
  have HP3 := hide hp3
  have HB3 := hide (HB2.out.trans hb3)
  clear hp3 hb3
  go_wp2_with fail
  go_end0
  refine ⟨rfl, ⟨a3, c3, ?_⟩, HB3.out⟩
  have hq := HP3.out
  simp only [List.append_assoc, List.cons_append, List.nil_append, List.map_cons, List.map_nil] at hq ⊢
  exact hq
theorem rTwo14 {V : World} {B g : Nat} {lk : COp} {lv : Value} {ao : Option Addr} {n c : Nat} {l : List COp} (h : Pen V B g lk lv ao n c l) (hlv : ∃ al nl cl, lv = .slice al nl cl) (t u : Int) (hn : n <= 90000) :
    Calls Tryz.prog 26 #[.pointer (some ⟨g, 0, none⟩), .int .i64 14, .int .i64 t, .int .i64 u] V (PW V B g lk lv (n + 3) (l ++ [(11, [t, u]), (11, [u, t]), (11, [t, u])].map (lkO lk))) := by
  have hlv' := hlv
  have HP := hide h
  clear h
  go_enter Tryz.func26, Tryz.ntmps26
  go_wp2_with fail
  refine (rWn HP.out hlv' 11 [t, u] (by simp) (by omega)).mono ?_
  rintro e w1 ⟨rfl, ⟨a1, c1, hp1⟩, hb1⟩
  have HP1 := hide hp1
  have HB1 := hide (hb1)
  clear hp1 hb1
  go_wp2_with fail
  refine (rWn HP1.out hlv' 11 [u, t] (by simp) (by omega)).mono ?_
  rintro e w2 ⟨rfl, ⟨a2, c2, hp2⟩, hb2⟩
  have HP2 := hide hp2
  have HB2 := hide (HB1.out.trans hb2)
  clear hp2 hb2
  go_wp2_with fail
  refine (rWn HP2.out hlv' 11 [t, u] (by simp) (by omega)).mono ?_
  rintro e w3 ⟨rfl, ⟨a3, c3, hp3⟩, hb3⟩
  have HP3 := hide hp3
  have HB3 := hide (HB2.out.trans hb3)
  clear hp3 hb3
  go_wp2_with fail
  go_end0
  refine ⟨rfl, ⟨a3, c3, ?_⟩, HB3.out⟩
  have hq := HP3.out
  simp only [List.append_assoc, List.cons_append, List.nil_append, List.map_cons, List.map_nil] at hq ⊢
  exact hq
theorem rTwo15 {V : World} {B g : Nat} {lk : COp} {lv : Value} {ao : Option Addr} {n c : Nat} {l : List COp} (h : Pen V B g lk lv ao n c l) (hlv : ∃ al nl cl, lv = .slice al nl cl) (t u : Int) (hn : n <= 80000) :
    Calls Tryz.prog 26 #[.pointer (some ⟨g, 0, none⟩), .int .i64 15, .int .i64 t, .int .i64 u] V (PW V B g lk lv (n + 8) (l ++ [(5, [t]), (5, [u]), (9, [u]), (11, [t, u]), (10, [u]), (11, [t, u]), (11, [u, t]), (11, [t, u])].map (lkO lk))) := by
  have hlv' := hlv
  have HP := hide h
  clear h
  go_enter Tryz.func26, Tryz.ntmps26
  go_wp2_with fail
  refine (rWn HP.out hlv' 5 [t] (by simp) (by omega)).mono ?_
  rintro e w1 ⟨rfl, ⟨a1, c1, hp1⟩, hb1⟩
  have HP1 := hide hp1
  have HB1 := hide (hb1)
  clear hp1 hb1
  go_wp2_with fail
  refine (rWn HP1.out hlv' 5 [u] (by simp) (by omega)).mono ?_
  rintro e w2 ⟨rfl, ⟨a2, c2, hp2⟩, hb2⟩
  have HP2 := hide hp2
  have HB2 := hide (HB1.out.trans hb2)
  clear hp2 hb2
  go_wp2_with fail
  refine (rTwo13 HP2.out hlv' t u (by omega)).mono ?_
  rintro e w3 ⟨rfl, ⟨a3, c3, hp3⟩, hb3⟩
  have HP3 := hide hp3
  have HB3 := hide (HB2.out.trans hb3)
  clear hp3 hb3
  go_wp2_with fail
  refine (rTwo14 HP3.out hlv' t u (by omega)).mono ?_
  rintro e w4 ⟨rfl, ⟨a4, c4, hp4⟩, hb4⟩
  have HP4 := hide hp4
  have HB4 := hide (HB3.out.trans hb4)
  clear hp4 hb4
  go_wp2_with fail
  go_end0
  refine ⟨rfl, ⟨a4, c4, ?_⟩, HB4.out⟩
  have hq := HP4.out
  simp only [List.append_assoc, List.cons_append, List.nil_append, List.map_cons, List.map_nil] at hq ⊢
  exact hq
theorem rTwo16 {V : World} {B g : Nat} {lk : COp} {lv : Value} {ao : Option Addr} {n c : Nat} {l : List COp} (h : Pen V B g lk lv ao n c l) (hlv : ∃ al nl cl, lv = .slice al nl cl) (t u : Int) (hn : n <= 80000) :
    Calls Tryz.prog 26 #[.pointer (some ⟨g, 0, none⟩), .int .i64 16, .int .i64 t, .int .i64 u] V (PW V B g lk lv (n + 8) (l ++ [(11, [t, u]), (11, [u, t]), (11, [t, u]), (9, [u]), (11, [t, u]), (10, [u]), (6, [t]), (6, [u])].map (lkO lk))) := by
  have hlv' := hlv
  have HP := hide h
  clear h
  go_enter Tryz.func26, Tryz.ntmps26
  go_wp2_with fail
  refine (rTwo14 HP.out hlv' t u (by omega)).mono ?_
  rintro e w1 ⟨rfl, ⟨a1, c1, hp1⟩, hb1⟩
  have HP1 := hide hp1
  have HB1 := hide (hb1)
  clear hp1 hb1
  go_wp2_with fail
  refine (rTwo13 HP1.out hlv' t u (by omega)).mono ?_
  rintro e w2 ⟨rfl, ⟨a2, c2, hp2⟩, hb2⟩
  have HP2 := hide hp2
  have HB2 := hide (HB1.out.trans hb2)
  clear hp2 hb2
  go_wp2_with fail
  refine (rWn HP2.out hlv' 6 [t] (by simp) (by omega)).mono ?_
  rintro e w3 ⟨rfl, ⟨a3, c3, hp3⟩, hb3⟩
  have HP3 := hide hp3
  have HB3 := hide (HB2.out.trans hb3)
  clear hp3 hb3
  go_wp2_with fail
  refine (rWn HP3.out hlv' 6 [u] (by simp) (by omega)).mono ?_
  rintro e w4 ⟨rfl, ⟨a4, c4, hp4⟩, hb4⟩
  have HP4 := hide hp4
  have HB4 := hide (HB3.out.trans hb4)
  clear hp4 hb4
  go_wp2_with fail
  go_end0
  refine ⟨rfl, ⟨a4, c4, ?_⟩, HB4.out⟩
  have hq := HP4.out
  simp only [List.append_assoc, List.cons_append, List.nil_append, List.map_cons, List.map_nil] at hq ⊢
  exact hq
theorem rTwo17 {V : World} {B g : Nat} {lk : COp} {lv : Value} {ao : Option Addr} {n c : Nat} {l : List COp} (h : Pen V B g lk lv ao n c l) (hlv : ∃ al nl cl, lv = .slice al nl cl) (t u : Int) (hn : n <= 90000) :
    Calls Tryz.prog 26 #[.pointer (some ⟨g, 0, none⟩), .int .i64 17, .int .i64 t, .int .i64 u] V (PW V B g lk lv (n + 6) (l ++ [(5, [t]), (7, [t]), (5, [t]), (6, [u]), (8, [u]), (6, [u])].map (lkO lk))) := by
  have hlv' := hlv
  have HP := hide h
  clear h
  go_enter Tryz.func26, Tryz.ntmps26
  go_wp2_with fail
  refine (rWn HP.out hlv' 5 [t] (by simp) (by omega)).mono ?_
  rintro e w1 ⟨rfl, ⟨a1, c1, hp1⟩, hb1⟩
  have HP1 := hide hp1
  have HB1 := hide (hb1)
  clear hp1 hb1
  go_wp2_with fail
  refine (rWn HP1.out hlv' 7 [t] (by simp) (by omega)).mono ?_
  rintro e w2 ⟨rfl, ⟨a2, c2, hp2⟩, hb2⟩
  have HP2 := hide hp2
  have HB2 := hide (HB1.out.trans hb2)
  clear hp2 hb2
  go_wp2_with fail
  refine (rWn HP2.out hlv' 5 [t] (by simp) (by omega)).mono ?_
  rintro e w3 ⟨rfl, ⟨a3, c3, hp3⟩, hb3⟩
  have HP3 := hide hp3
  have HB3 := hide (HB2.out.trans hb3)
  clear hp3 hb3
  go_wp2_with fail
  refine (rWn HP3.out hlv' 6 [u] (by simp) (by omega)).mono ?_
  rintro e w4 ⟨rfl, ⟨a4, c4, hp4⟩, hb4⟩
  have HP4 := hide hp4
  have HB4 := hide (HB3.out.trans hb4)
  clear hp4 hb4
  go_wp2_with fail
  refine (rWn HP4.out hlv' 8 [u] (by simp) (by omega)).mono ?_
  rintro e w5 ⟨rfl, ⟨a5, c5, hp5⟩, hb5⟩
  have HP5 := hide hp5
  have HB5 := hide (HB4.out.trans hb5)
  clear hp5 hb5
  go_wp2_with fail
  refine (rWn HP5.out hlv' 6 [u] (by simp) (by omega)).mono ?_
  rintro e w6 ⟨rfl, ⟨a6, c6, hp6⟩, hb6⟩
  have HP6 := hide hp6
  have HB6 := hide (HB5.out.trans hb6)
  clear hp6 hb6
  go_wp2_with fail
  go_end0
  refine ⟨rfl, ⟨a6, c6, ?_⟩, HB6.out⟩
  have hq := HP6.out
  simp only [List.append_assoc, List.cons_append, List.nil_append, List.map_cons, List.map_nil] at hq ⊢
  exact hq
theorem rThree19 {V : World} {B g : Nat} {lk : COp} {lv : Value} {ao : Option Addr} {n c : Nat} {l : List COp} (h : Pen V B g lk lv ao n c l) (hlv : ∃ al nl cl, lv = .slice al nl cl) (t u v : Int) (hn : n <= 90000) :
    Calls Tryz.prog 27 #[.pointer (some ⟨g, 0, none⟩), .int .i64 19, .int .i64 t, .int .i64 u, .int .i64 v] V (PW V B g lk lv (n + 3) (l ++ [(9, [v]), (18, [t, u, v]), (10, [v])].map (lkO lk))) := by
  have hlv' := hlv
  have HP := hide h
  clear h
  go_enter Tryz.func27, Tryz.ntmps27
  go_wp2_with fail
  refine (rWn HP.out hlv' 9 [v] (by simp) (by omega)).mono ?_
  rintro e w1 ⟨rfl, ⟨a1, c1, hp1⟩, hb1⟩
  have HP1 := hide hp1
  have HB1 := hide (hb1)
  clear hp1 hb1
  go_wp2_with fail
  refine (rWn HP1.out hlv' 18 [t, u, v] (by simp) (by omega)).mono ?_
  rintro e w2 ⟨rfl, ⟨a2, c2, hp2⟩, hb2⟩
  have HP2 := hide hp2
  have HB2 := hide (HB1.out.trans hb2)
  clear hp2 hb2
  go_wp2_with fail
  refine (rWn HP2.out hlv' 10 [v] (by simp) (by omega)).mono ?_
  rintro e w3 ⟨rfl, ⟨a3, c3, hp3⟩, hb3⟩
  have HP3 := hide hp3
  have HB3 := hide (HB2.out.trans hb3)
  clear hp3 hb3
  go_wp2_with fail
  go_end0
  refine ⟨rfl, ⟨a3, c3, ?_⟩, HB3.out⟩
  have hq := HP3.out
  simp only [List.append_assoc, List.cons_append, List.nil_append, List.map_cons, List.map_nil] at hq ⊢
  exact hq
theorem rThree20 {V : World} {B g : Nat} {lk : COp} {lv : Value} {ao : Option Addr} {n c : Nat} {l : List COp} (h : Pen V B g lk lv ao n c l) (hlv : ∃ al nl cl, lv = .slice al nl cl) (t u v : Int) (hn : n <= 90000) :
    Calls Tryz.prog 27 #[.pointer (some ⟨g, 0, none⟩), .int .i64 20, .int .i64 t, .int .i64 u, .int .i64 v] V (PW V B g lk lv (n + 3) (l ++ [(11, [v, u]), (18, [t, u, v]), (11, [v, u])].map (lkO lk))) := by
  have hlv' := hlv
  have HP := hide h
  clear h
  go_enter Tryz.func27, Tryz.ntmps27
  go_wp2_with fail
  refine (rWn HP.out hlv' 11 [v, u] (by simp) (by omega)).mono ?_
  rintro e w1 ⟨rfl, ⟨a1, c1, hp1⟩, hb1⟩
  have HP1 := hide hp1
  have HB1 := hide (hb1)
  clear hp1 hb1
  go_wp2_with fail
  refine (rWn HP1.out hlv' 18 [t, u, v] (by simp) (by omega)).mono ?_
  rintro e w2 ⟨rfl, ⟨a2, c2, hp2⟩, hb2⟩
  have HP2 := hide hp2
  have HB2 := hide (HB1.out.trans hb2)
  clear hp2 hb2
  go_wp2_with fail
  refine (rWn HP2.out hlv' 11 [v, u] (by simp) (by omega)).mono ?_
  rintro e w3 ⟨rfl, ⟨a3, c3, hp3⟩, hb3⟩
  have HP3 := hide hp3
  have HB3 := hide (HB2.out.trans hb3)
  clear hp3 hb3
  go_wp2_with fail
  go_end0
  refine ⟨rfl, ⟨a3, c3, ?_⟩, HB3.out⟩
  have hq := HP3.out
  simp only [List.append_assoc, List.cons_append, List.nil_append, List.map_cons, List.map_nil] at hq ⊢
  exact hq
end Go.Proofs.YtbdphifecjigmaaGreatDoor.Rwt
