import Derived.Test.YtbdphifecjigmaaGreatDoorRn1f4c26a0
namespace Go.Proofs.YtbdphifecjigmaaGreatDoor.Cir
end Go.Proofs.YtbdphifecjigmaaGreatDoor.Cir
namespace Go.Proofs.YtbdphifecjigmaaGreatDoor.Gt
end Go.Proofs.YtbdphifecjigmaaGreatDoor.Gt
namespace Go.Proofs.YtbdphifecjigmaaGreatDoor.Oct
end Go.Proofs.YtbdphifecjigmaaGreatDoor.Oct
namespace Go.Proofs.YtbdphifecjigmaaGreatDoor.Tok
end Go.Proofs.YtbdphifecjigmaaGreatDoor.Tok
set_option maxRecDepth 100000
set_option maxHeartbeats 2000000
namespace Go.Proofs.YtbdphifecjigmaaGreatDoor.Rwt
open Go.RowKit Go.Shelf Go.Proofs.YtbdphifecjigmaaGreatDoor.Oct Go.Proofs.YtbdphifecjigmaaGreatDoor.Tok Go.Proofs.YtbdphifecjigmaaGreatDoor.Gt Go.Proofs.YtbdphifecjigmaaGreatDoor.Cir
def ex12 (t u : Int) : List (Int × List Int) := [(6, [u]), (11, [t, u]), (5, [u])]
def ex13 (t u : Int) : List (Int × List Int) := [(9, [u]), (11, [t, u]), (10, [u])]
def ex14 (t u : Int) : List (Int × List Int) := [(11, [t, u]), (11, [u, t]), (11, [t, u])]
def ex15 (t u : Int) : List (Int × List Int) := [(5, [t]), (5, [u]), (9, [u]), (11, [t, u]), (10, [u]), (11, [t, u]), (11, [u, t]), (11, [t, u])]
def ex16 (t u : Int) : List (Int × List Int) := [(11, [t, u]), (11, [u, t]), (11, [t, u]), (9, [u]), (11, [t, u]), (10, [u]), (6, [t]), (6, [u])]
def ex17 (t u : Int) : List (Int × List Int) := [(5, [t]), (7, [t]), (5, [t]), (6, [u]), (8, [u]), (6, [u])]
def ex19 (t u v : Int) : List (Int × List Int) := [(9, [v]), (18, [t, u, v]), (10, [v])]
def ex20 (t u v : Int) : List (Int × List Int) := [(11, [v, u]), (18, [t, u, v]), (11, [v, u])]
def exP (k : Int) (qs : List Int) : List (Int × List Int) :=
  if k = 12 then ex12 (qs.getD 0 0) (qs.getD 1 0) else
  if k = 13 then ex13 (qs.getD 0 0) (qs.getD 1 0) else
  if k = 14 then ex14 (qs.getD 0 0) (qs.getD 1 0) else
  if k = 15 then ex15 (qs.getD 0 0) (qs.getD 1 0) else
  if k = 16 then ex16 (qs.getD 0 0) (qs.getD 1 0) else
  if k = 17 then ex17 (qs.getD 0 0) (qs.getD 1 0) else
  if k = 19 then ex19 (qs.getD 0 0) (qs.getD 1 0) (qs.getD 2 0) else
  if k = 20 then ex20 (qs.getD 0 0) (qs.getD 1 0) (qs.getD 2 0) else
  [(k, qs)]
theorem rExpand12 {V : World} {B g : Nat} {lk : COp} {lv : Value} {ao : Option Addr} {n c : Nat} {l : List COp} (h : Pen V B g lk lv ao n c l) (hlv : ∃ al nl cl, lv = .slice al nl cl) (gq oq cq m : Nat) (t u : Int) (hgq : gq < B) (hm : 2 <= m) (hm2 : m <= 1000) (x0 : V.cell? ⟨gq, oq, none⟩ = some (.int .i64 t)) (x1 : V.cell? ⟨gq, oq + 1, none⟩ = some (.int .i64 u)) (hn : n <= 80000) :
    Calls Tryz.prog 12 #[.pointer (some ⟨g, 0, none⟩), .int .i64 12, .slice (some ⟨gq, oq, none⟩) m cq] V (PW V B g lk lv (n + 3) (l ++ (ex12 t u).map (lkO lk))) := by
  have c1 : Calls Tryz.prog 26 #[.pointer (some ⟨g, 0, none⟩), .int .i64 12, .int .i64 t, .int .i64 u] V.drew (PW V B g lk lv (n + 3) (l ++ (ex12 t u).map (lkO lk))) := (rTwo12 (h.below (Below.refl _ _).drew) hlv t u (by omega)).mono (fun e w' ⟨q1, q2, q3⟩ => ⟨q1, q2, q3.os, q3.tape, q3.output, q3.size, q3.block⟩)
  have hlt := World.block_lt_of_cell? _ _ x0
  have HSV : Hid (∀ X, Below B V X -> X.cell? ⟨gq, oq, none⟩ = some (.int .i64 t) /\ X.cell? ⟨gq, oq + 1, none⟩ = some (.int .i64 u)) := hide (fun X hb => ⟨(hb.cell (p := ⟨gq, oq, none⟩) hgq).trans x0, (hb.cell (p := ⟨gq, oq + 1, none⟩) hgq).trans x1⟩)
  have i0n : 0 < m := by omega
  have i0 : (0 : Int) < (m : Int) := by omega
  have i1 : (1 : Int) < (m : Int) := by omega
  have HD0 : Hid (Below B V V.drew) := hide (Below.refl _ _).drew
  clear h hlv
  go_enter Tryz.func12, Tryz.ntmps12
  go_wp2_with fail
  go_region_held3 (fun X => X.cell? ⟨gq, oq, none⟩ = some (.int .i64 t) /\ X.cell? ⟨gq, oq + 1, none⟩ = some (.int .i64 u))
    (first | exact HSV.out _ HD0.out | exact HSV.out _ (by assumption))
    (first
      | (go_at_call 26; refine c1.mono ?_; rintro e w1 ⟨rfl, h1, h2⟩))
  go_wp2_with fail
  go_end0
  exact ⟨rfl, h1, h2⟩
theorem rExpand13 {V : World} {B g : Nat} {lk : COp} {lv : Value} {ao : Option Addr} {n c : Nat} {l : List COp} (h : Pen V B g lk lv ao n c l) (hlv : ∃ al nl cl, lv = .slice al nl cl) (gq oq cq m : Nat) (t u : Int) (hgq : gq < B) (hm : 2 <= m) (hm2 : m <= 1000) (x0 : V.cell? ⟨gq, oq, none⟩ = some (.int .i64 t)) (x1 : V.cell? ⟨gq, oq + 1, none⟩ = some (.int .i64 u)) (hn : n <= 80000) :
    Calls Tryz.prog 12 #[.pointer (some ⟨g, 0, none⟩), .int .i64 13, .slice (some ⟨gq, oq, none⟩) m cq] V (PW V B g lk lv (n + 3) (l ++ (ex13 t u).map (lkO lk))) := by
  have c1 : Calls Tryz.prog 26 #[.pointer (some ⟨g, 0, none⟩), .int .i64 13, .int .i64 t, .int .i64 u] V.drew (PW V B g lk lv (n + 3) (l ++ (ex13 t u).map (lkO lk))) := (rTwo13 (h.below (Below.refl _ _).drew) hlv t u (by omega)).mono (fun e w' ⟨q1, q2, q3⟩ => ⟨q1, q2, q3.os, q3.tape, q3.output, q3.size, q3.block⟩)
  have hlt := World.block_lt_of_cell? _ _ x0
  have HSV : Hid (∀ X, Below B V X -> X.cell? ⟨gq, oq, none⟩ = some (.int .i64 t) /\ X.cell? ⟨gq, oq + 1, none⟩ = some (.int .i64 u)) := hide (fun X hb => ⟨(hb.cell (p := ⟨gq, oq, none⟩) hgq).trans x0, (hb.cell (p := ⟨gq, oq + 1, none⟩) hgq).trans x1⟩)
  have i0n : 0 < m := by omega
  have i0 : (0 : Int) < (m : Int) := by omega
  have i1 : (1 : Int) < (m : Int) := by omega
  have HD0 : Hid (Below B V V.drew) := hide (Below.refl _ _).drew
  clear h hlv
  go_enter Tryz.func12, Tryz.ntmps12
  go_wp2_with fail
  go_region_held3 (fun X => X.cell? ⟨gq, oq, none⟩ = some (.int .i64 t) /\ X.cell? ⟨gq, oq + 1, none⟩ = some (.int .i64 u))
    (first | exact HSV.out _ HD0.out | exact HSV.out _ (by assumption))
    (first
      | (go_at_call 26; refine c1.mono ?_; rintro e w1 ⟨rfl, h1, h2⟩))
  go_wp2_with fail
  go_end0
  exact ⟨rfl, h1, h2⟩
theorem rExpand14 {V : World} {B g : Nat} {lk : COp} {lv : Value} {ao : Option Addr} {n c : Nat} {l : List COp} (h : Pen V B g lk lv ao n c l) (hlv : ∃ al nl cl, lv = .slice al nl cl) (gq oq cq m : Nat) (t u : Int) (hgq : gq < B) (hm : 2 <= m) (hm2 : m <= 1000) (x0 : V.cell? ⟨gq, oq, none⟩ = some (.int .i64 t)) (x1 : V.cell? ⟨gq, oq + 1, none⟩ = some (.int .i64 u)) (hn : n <= 80000) :
    Calls Tryz.prog 12 #[.pointer (some ⟨g, 0, none⟩), .int .i64 14, .slice (some ⟨gq, oq, none⟩) m cq] V (PW V B g lk lv (n + 3) (l ++ (ex14 t u).map (lkO lk))) := by
  have c1 : Calls Tryz.prog 26 #[.pointer (some ⟨g, 0, none⟩), .int .i64 14, .int .i64 t, .int .i64 u] V.drew (PW V B g lk lv (n + 3) (l ++ (ex14 t u).map (lkO lk))) := (rTwo14 (h.below (Below.refl _ _).drew) hlv t u (by omega)).mono (fun e w' ⟨q1, q2, q3⟩ => ⟨q1, q2, q3.os, q3.tape, q3.output, q3.size, q3.block⟩)
  have hlt := World.block_lt_of_cell? _ _ x0
  have HSV : Hid (∀ X, Below B V X -> X.cell? ⟨gq, oq, none⟩ = some (.int .i64 t) /\ X.cell? ⟨gq, oq + 1, none⟩ = some (.int .i64 u)) := hide (fun X hb => ⟨(hb.cell (p := ⟨gq, oq, none⟩) hgq).trans x0, (hb.cell (p := ⟨gq, oq + 1, none⟩) hgq).trans x1⟩)
  have i0n : 0 < m := by omega
  have i0 : (0 : Int) < (m : Int) := by omega
  have i1 : (1 : Int) < (m : Int) := by omega
  have HD0 : Hid (Below B V V.drew) := hide (Below.refl _ _).drew
  clear h hlv
  go_enter Tryz.func12, Tryz.ntmps12
  go_wp2_with fail
  go_region_held3 (fun X => X.cell? ⟨gq, oq, none⟩ = some (.int .i64 t) /\ X.cell? ⟨gq, oq + 1, none⟩ = some (.int .i64 u))
    (first | exact HSV.out _ HD0.out | exact HSV.out _ (by assumption))
    (first
      | (go_at_call 26; refine c1.mono ?_; rintro e w1 ⟨rfl, h1, h2⟩))
  go_wp2_with fail
  go_end0
  exact ⟨rfl, h1, h2⟩
theorem rExpand15 {V : World} {B g : Nat} {lk : COp} {lv : Value} {ao : Option Addr} {n c : Nat} {l : List COp} (h : Pen V B g lk lv ao n c l) (hlv : ∃ al nl cl, lv = .slice al nl cl) (gq oq cq m : Nat) (t u : Int) (hgq : gq < B) (hm : 2 <= m) (hm2 : m <= 1000) (x0 : V.cell? ⟨gq, oq, none⟩ = some (.int .i64 t)) (x1 : V.cell? ⟨gq, oq + 1, none⟩ = some (.int .i64 u)) (hn : n <= 80000) :
    Calls Tryz.prog 12 #[.pointer (some ⟨g, 0, none⟩), .int .i64 15, .slice (some ⟨gq, oq, none⟩) m cq] V (PW V B g lk lv (n + 8) (l ++ (ex15 t u).map (lkO lk))) := by
  have c1 : Calls Tryz.prog 26 #[.pointer (some ⟨g, 0, none⟩), .int .i64 15, .int .i64 t, .int .i64 u] V.drew (PW V B g lk lv (n + 8) (l ++ (ex15 t u).map (lkO lk))) := (rTwo15 (h.below (Below.refl _ _).drew) hlv t u (by omega)).mono (fun e w' ⟨q1, q2, q3⟩ => ⟨q1, q2, q3.os, q3.tape, q3.output, q3.size, q3.block⟩)
  have hlt := World.block_lt_of_cell? _ _ x0
  have HSV : Hid (∀ X, Below B V X -> X.cell? ⟨gq, oq, none⟩ = some (.int .i64 t) /\ X.cell? ⟨gq, oq + 1, none⟩ = some (.int .i64 u)) := hide (fun X hb => ⟨(hb.cell (p := ⟨gq, oq, none⟩) hgq).trans x0, (hb.cell (p := ⟨gq, oq + 1, none⟩) hgq).trans x1⟩)
  have i0n : 0 < m := by omega
  have i0 : (0 : Int) < (m : Int) := by omega
  have i1 : (1 : Int) < (m : Int) := by omega
  have HD0 : Hid (Below B V V.drew) := hide (Below.refl _ _).drew
  clear h hlv
  go_enter Tryz.func12, Tryz.ntmps12
  go_wp2_with fail
  go_region_held3 (fun X => X.cell? ⟨gq, oq, none⟩ = some (.int .i64 t) /\ X.cell? ⟨gq, oq + 1, none⟩ = some (.int .i64 u))
    (first | exact HSV.out _ HD0.out | exact HSV.out _ (by assumption))
    (first
      | (go_at_call 26; refine c1.mono ?_; rintro e w1 ⟨rfl, h1, h2⟩))
  go_wp2_with fail
  go_end0
  exact ⟨rfl, h1, h2⟩
theorem rExpand16 {V : World} {B g : Nat} {lk : COp} {lv : Value} {ao : Option Addr} {n c : Nat} {l : List COp} (h : Pen V B g lk lv ao n c l) (hlv : ∃ al nl cl, lv = .slice al nl cl) (gq oq cq m : Nat) (t u : Int) (hgq : gq < B) (hm : 2 <= m) (hm2 : m <= 1000) (x0 : V.cell? ⟨gq, oq, none⟩ = some (.int .i64 t)) (x1 : V.cell? ⟨gq, oq + 1, none⟩ = some (.int .i64 u)) (hn : n <= 80000) :
    Calls Tryz.prog 12 #[.pointer (some ⟨g, 0, none⟩), .int .i64 16, .slice (some ⟨gq, oq, none⟩) m cq] V (PW V B g lk lv (n + 8) (l ++ (ex16 t u).map (lkO lk))) := by
  have c1 : Calls Tryz.prog 26 #[.pointer (some ⟨g, 0, none⟩), .int .i64 16, .int .i64 t, .int .i64 u] V.drew (PW V B g lk lv (n + 8) (l ++ (ex16 t u).map (lkO lk))) := (rTwo16 (h.below (Below.refl _ _).drew) hlv t u (by omega)).mono (fun e w' ⟨q1, q2, q3⟩ => ⟨q1, q2, q3.os, q3.tape, q3.output, q3.size, q3.block⟩)
  have hlt := World.block_lt_of_cell? _ _ x0
  have HSV : Hid (∀ X, Below B V X -> X.cell? ⟨gq, oq, none⟩ = some (.int .i64 t) /\ X.cell? ⟨gq, oq + 1, none⟩ = some (.int .i64 u)) := hide (fun X hb => ⟨(hb.cell (p := ⟨gq, oq, none⟩) hgq).trans x0, (hb.cell (p := ⟨gq, oq + 1, none⟩) hgq).trans x1⟩)
  have i0n : 0 < m := by omega
  have i0 : (0 : Int) < (m : Int) := by omega
  have i1 : (1 : Int) < (m : Int) := by omega
  have HD0 : Hid (Below B V V.drew) := hide (Below.refl _ _).drew
  clear h hlv
  go_enter Tryz.func12, Tryz.ntmps12
  go_wp2_with fail
  go_region_held3 (fun X => X.cell? ⟨gq, oq, none⟩ = some (.int .i64 t) /\ X.cell? ⟨gq, oq + 1, none⟩ = some (.int .i64 u))
    (first | exact HSV.out _ HD0.out | exact HSV.out _ (by assumption))
    (first
      | (go_at_call 26; refine c1.mono ?_; rintro e w1 ⟨rfl, h1, h2⟩))
  go_wp2_with fail
  go_end0
  exact ⟨rfl, h1, h2⟩
theorem rExpand17 {V : World} {B g : Nat} {lk : COp} {lv : Value} {ao : Option Addr} {n c : Nat} {l : List COp} (h : Pen V B g lk lv ao n c l) (hlv : ∃ al nl cl, lv = .slice al nl cl) (gq oq cq m : Nat) (t u : Int) (hgq : gq < B) (hm : 2 <= m) (hm2 : m <= 1000) (x0 : V.cell? ⟨gq, oq, none⟩ = some (.int .i64 t)) (x1 : V.cell? ⟨gq, oq + 1, none⟩ = some (.int .i64 u)) (hn : n <= 80000) :
    Calls Tryz.prog 12 #[.pointer (some ⟨g, 0, none⟩), .int .i64 17, .slice (some ⟨gq, oq, none⟩) m cq] V (PW V B g lk lv (n + 6) (l ++ (ex17 t u).map (lkO lk))) := by
  have c1 : Calls Tryz.prog 26 #[.pointer (some ⟨g, 0, none⟩), .int .i64 17, .int .i64 t, .int .i64 u] V.drew (PW V B g lk lv (n + 6) (l ++ (ex17 t u).map (lkO lk))) := (rTwo17 (h.below (Below.refl _ _).drew) hlv t u (by omega)).mono (fun e w' ⟨q1, q2, q3⟩ => ⟨q1, q2, q3.os, q3.tape, q3.output, q3.size, q3.block⟩)
  have hlt := World.block_lt_of_cell? _ _ x0
  have HSV : Hid (∀ X, Below B V X -> X.cell? ⟨gq, oq, none⟩ = some (.int .i64 t) /\ X.cell? ⟨gq, oq + 1, none⟩ = some (.int .i64 u)) := hide (fun X hb => ⟨(hb.cell (p := ⟨gq, oq, none⟩) hgq).trans x0, (hb.cell (p := ⟨gq, oq + 1, none⟩) hgq).trans x1⟩)
  have i0n : 0 < m := by omega
  have i0 : (0 : Int) < (m : Int) := by omega
  have i1 : (1 : Int) < (m : Int) := by omega
  have HD0 : Hid (Below B V V.drew) := hide (Below.refl _ _).drew
  clear h hlv
  go_enter Tryz.func12, Tryz.ntmps12
  go_wp2_with fail
  go_region_held3 (fun X => X.cell? ⟨gq, oq, none⟩ = some (.int .i64 t) /\ X.cell? ⟨gq, oq + 1, none⟩ = some (.int .i64 u))
    (first | exact HSV.out _ HD0.out | exact HSV.out _ (by assumption))
    (first
      | (go_at_call 26; refine c1.mono ?_; rintro e w1 ⟨rfl, h1, h2⟩))
  go_wp2_with fail
  go_end0
  exact ⟨rfl, h1, h2⟩
theorem rExpand19 {V : World} {B g : Nat} {lk : COp} {lv : Value} {ao : Option Addr} {n c : Nat} {l : List COp} (h : Pen V B g lk lv ao n c l) (hlv : ∃ al nl cl, lv = .slice al nl cl) (gq oq cq m : Nat) (t u v : Int) (hgq : gq < B) (hm : 3 <= m) (hm2 : m <= 1000) (x0 : V.cell? ⟨gq, oq, none⟩ = some (.int .i64 t)) (x1 : V.cell? ⟨gq, oq + 1, none⟩ = some (.int .i64 u)) (x2 : V.cell? ⟨gq, oq + 2, none⟩ = some (.int .i64 v)) (hn : n <= 80000) :
    Calls Tryz.prog 12 #[.pointer (some ⟨g, 0, none⟩), .int .i64 19, .slice (some ⟨gq, oq, none⟩) m cq] V (PW V B g lk lv (n + 3) (l ++ (ex19 t u v).map (lkO lk))) := by
  have c1 : Calls Tryz.prog 27 #[.pointer (some ⟨g, 0, none⟩), .int .i64 19, .int .i64 t, .int .i64 u, .int .i64 v] V.drew (PW V B g lk lv (n + 3) (l ++ (ex19 t u v).map (lkO lk))) := (rThree19 (h.below (Below.refl _ _).drew) hlv t u v (by omega)).mono (fun e w' ⟨q1, q2, q3⟩ => ⟨q1, q2, q3.os, q3.tape, q3.output, q3.size, q3.block⟩)
  have hlt := World.block_lt_of_cell? _ _ x0
  have HSV : Hid (∀ X, Below B V X -> X.cell? ⟨gq, oq, none⟩ = some (.int .i64 t) /\ X.cell? ⟨gq, oq + 1, none⟩ = some (.int .i64 u) /\ X.cell? ⟨gq, oq + 2, none⟩ = some (.int .i64 v)) := hide (fun X hb => ⟨(hb.cell (p := ⟨gq, oq, none⟩) hgq).trans x0, (hb.cell (p := ⟨gq, oq + 1, none⟩) hgq).trans x1, (hb.cell (p := ⟨gq, oq + 2, none⟩) hgq).trans x2⟩)
  have i0n : 0 < m := by omega
  have i0 : (0 : Int) < (m : Int) := by omega
  have i1 : (1 : Int) < (m : Int) := by omega
  have i2 : (2 : Int) < (m : Int) := by omega
  have HD0 : Hid (Below B V V.drew) := hide (Below.refl _ _).drew
  clear h hlv
  go_enter Tryz.func12, Tryz.ntmps12
  go_wp2_with fail
  go_region_held3 (fun X => X.cell? ⟨gq, oq, none⟩ = some (.int .i64 t) /\ X.cell? ⟨gq, oq + 1, none⟩ = some (.int .i64 u) /\ X.cell? ⟨gq, oq + 2, none⟩ = some (.int .i64 v))
    (first | exact HSV.out _ HD0.out | exact HSV.out _ (by assumption))
    (first
      | (go_at_call 27; refine c1.mono ?_; rintro e w1 ⟨rfl, h1, h2⟩))
  go_wp2_with fail
  go_end0
  exact ⟨rfl, h1, h2⟩
theorem rExpand20 {V : World} {B g : Nat} {lk : COp} {lv : Value} {ao : Option Addr} {n c : Nat} {l : List COp} (h : Pen V B g lk lv ao n c l) (hlv : ∃ al nl cl, lv = .slice al nl cl) (gq oq cq m : Nat) (t u v : Int) (hgq : gq < B) (hm : 3 <= m) (hm2 : m <= 1000) (x0 : V.cell? ⟨gq, oq, none⟩ = some (.int .i64 t)) (x1 : V.cell? ⟨gq, oq + 1, none⟩ = some (.int .i64 u)) (x2 : V.cell? ⟨gq, oq + 2, none⟩ = some (.int .i64 v)) (hn : n <= 80000) :
    Calls Tryz.prog 12 #[.pointer (some ⟨g, 0, none⟩), .int .i64 20, .slice (some ⟨gq, oq, none⟩) m cq] V (PW V B g lk lv (n + 3) (l ++ (ex20 t u v).map (lkO lk))) := by
  have c1 : Calls Tryz.prog 27 #[.pointer (some ⟨g, 0, none⟩), .int .i64 20, .int .i64 t, .int .i64 u, .int .i64 v] V.drew (PW V B g lk lv (n + 3) (l ++ (ex20 t u v).map (lkO lk))) := (rThree20 (h.below (Below.refl _ _).drew) hlv t u v (by omega)).mono (fun e w' ⟨q1, q2, q3⟩ => ⟨q1, q2, q3.os, q3.tape, q3.output, q3.size, q3.block⟩)
  have hlt := World.block_lt_of_cell? _ _ x0
  have HSV : Hid (∀ X, Below B V X -> X.cell? ⟨gq, oq, none⟩ = some (.int .i64 t) /\ X.cell? ⟨gq, oq + 1, none⟩ = some (.int .i64 u) /\ X.cell? ⟨gq, oq + 2, none⟩ = some (.int .i64 v)) := hide (fun X hb => ⟨(hb.cell (p := ⟨gq, oq, none⟩) hgq).trans x0, (hb.cell (p := ⟨gq, oq + 1, none⟩) hgq).trans x1, (hb.cell (p := ⟨gq, oq + 2, none⟩) hgq).trans x2⟩)
  have i0n : 0 < m := by omega
  have i0 : (0 : Int) < (m : Int) := by omega
  have i1 : (1 : Int) < (m : Int) := by omega
  have i2 : (2 : Int) < (m : Int) := by omega
  have HD0 : Hid (Below B V V.drew) := hide (Below.refl _ _).drew
  clear h hlv
  go_enter Tryz.func12, Tryz.ntmps12
  go_wp2_with fail
  go_region_held3 (fun X => X.cell? ⟨gq, oq, none⟩ = some (.int .i64 t) /\ X.cell? ⟨gq, oq + 1, none⟩ = some (.int .i64 u) /\ X.cell? ⟨gq, oq + 2, none⟩ = some (.int .i64 v))
    (first | exact HSV.out _ HD0.out | exact HSV.out _ (by assumption))
    (first
      | (go_at_call 27; refine c1.mono ?_; rintro e w1 ⟨rfl, h1, h2⟩))
  go_wp2_with fail
  go_end0
  exact ⟨rfl, h1, h2⟩
theorem rExpandD {V : World} {B g : Nat} {lk : COp} {lv : Value} {ao : Option Addr} {n c : Nat} {l : List COp} (h : Pen V B g lk lv ao n c l) (hlv : ∃ al nl cl, lv = .slice al nl cl) (k : Int) (aq : Option Addr) (cq : Nat) (qs : List Int) (hq : qs.length <= 1000) (hN : Ns V aq qs) (hn : n <= 80000) (d12 : k ≠ 12) (d13 : k ≠ 13) (d14 : k ≠ 14) (d15 : k ≠ 15) (d16 : k ≠ 16) (d17 : k ≠ 17) (d19 : k ≠ 19) (d20 : k ≠ 20) :
    Calls Tryz.prog 12 #[.pointer (some ⟨g, 0, none⟩), .int .i64 k, .slice aq qs.length cq] V (PW V B g lk lv (n + 1) (l ++ [lkO lk (k, qs)])) := by
  have c1 := rWrite h hlv k aq cq qs hq hN (by omega)
  have e12 : (k == 12) = false := beq_eq_false_iff_ne.2 d12
  have e13 : (k == 13) = false := beq_eq_false_iff_ne.2 d13
  have e14 : (k == 14) = false := beq_eq_false_iff_ne.2 d14
  have e15 : (k == 15) = false := beq_eq_false_iff_ne.2 d15
  have e16 : (k == 16) = false := beq_eq_false_iff_ne.2 d16
  have e17 : (k == 17) = false := beq_eq_false_iff_ne.2 d17
  have e19 : (k == 19) = false := beq_eq_false_iff_ne.2 d19
  have e20 : (k == 20) = false := beq_eq_false_iff_ne.2 d20
  clear h hlv hN d12 d13 d14 d15 d16 d17 d19 d20
  go_enter Tryz.func12, Tryz.ntmps12
  go_wp2_with fail
  refine c1.mono ?_
  rintro e w1 ⟨rfl, h1, h2⟩
  go_wp2_with fail
  go_end0
  exact ⟨rfl, h1, h2⟩
theorem rExpand {V : World} {B g : Nat} {lk : COp} {lv : Value} {ao : Option Addr} {n c : Nat} {l : List COp} (h : Pen V B g lk lv ao n c l) (hlv : ∃ al nl cl, lv = .slice al nl cl) (k : Int) (aq : Option Addr) (cq : Nat) (qs : List Int) (hq : qs.length <= 1000) (hN : Ns V aq qs) (hgB : ∀ g' off, aq = some ⟨g', off, none⟩ -> qs ≠ [] -> g' < B) (hn : n <= 80000) (h2 : 12 <= k /\ k <= 17 -> 2 <= qs.length) (h3 : k = 19 ∨ k = 20 -> 3 <= qs.length) :
    Calls Tryz.prog 12 #[.pointer (some ⟨g, 0, none⟩), .int .i64 k, .slice aq qs.length cq] V (PW V B g lk lv (n + (exP k qs).length) (l ++ (exP k qs).map (lkO lk))) := by
  unfold exP
  have two : 2 <= qs.length -> ∃ gq oq t u, aq = some ⟨gq, oq, none⟩ /\ gq < B /\ V.cell? ⟨gq, oq, none⟩ = some (.int .i64 t) /\ V.cell? ⟨gq, oq + 1, none⟩ = some (.int .i64 u) /\ qs.getD 0 0 = t /\ qs.getD 1 0 = u := fun hl => by
    obtain ⟨gq, oq, rfl, hc⟩ := hN.resolve_left (fun e => by rw [e] at hl; simp at hl)
    exact ⟨gq, oq, qs[0], qs[1], rfl, hgB gq oq rfl (fun e => by rw [e] at hl; simp at hl), hc 0 _ (List.getElem?_eq_getElem (by omega)), hc 1 _ (List.getElem?_eq_getElem (by omega)), by simp [List.getD, List.getElem?_eq_getElem (show 0 < qs.length by omega)], by simp [List.getD, List.getElem?_eq_getElem (show 1 < qs.length by omega)]⟩
  have three : 3 <= qs.length -> ∃ gq oq t u v, aq = some ⟨gq, oq, none⟩ /\ gq < B /\ V.cell? ⟨gq, oq, none⟩ = some (.int .i64 t) /\ V.cell? ⟨gq, oq + 1, none⟩ = some (.int .i64 u) /\ V.cell? ⟨gq, oq + 2, none⟩ = some (.int .i64 v) /\ qs.getD 0 0 = t /\ qs.getD 1 0 = u /\ qs.getD 2 0 = v := fun hl => by
    obtain ⟨gq, oq, rfl, hc⟩ := hN.resolve_left (fun e => by rw [e] at hl; simp at hl)
    exact ⟨gq, oq, qs[0], qs[1], qs[2], rfl, hgB gq oq rfl (fun e => by rw [e] at hl; simp at hl), hc 0 _ (List.getElem?_eq_getElem (by omega)), hc 1 _ (List.getElem?_eq_getElem (by omega)), hc 2 _ (List.getElem?_eq_getElem (by omega)), by simp [List.getD, List.getElem?_eq_getElem (show 0 < qs.length by omega)], by simp [List.getD, List.getElem?_eq_getElem (show 1 < qs.length by omega)], by simp [List.getD, List.getElem?_eq_getElem (show 2 < qs.length by omega)]⟩
  by_cases e12 : k = 12
  . subst e12
    rw [if_pos rfl]
    have hl := h2 (by decide)
    obtain ⟨gq, oq, t, u, rfl, hb, x0, x1, ht, hu⟩ := two hl
    rw [ht, hu]
    exact rExpand12 h hlv gq oq cq qs.length t u hb hl hq x0 x1 hn
  rw [if_neg e12]
  by_cases e13 : k = 13
  . subst e13
    rw [if_pos rfl]
    have hl := h2 (by decide)
    obtain ⟨gq, oq, t, u, rfl, hb, x0, x1, ht, hu⟩ := two hl
    rw [ht, hu]
    exact rExpand13 h hlv gq oq cq qs.length t u hb hl hq x0 x1 hn
  rw [if_neg e13]
  by_cases e14 : k = 14
  . subst e14
    rw [if_pos rfl]
    have hl := h2 (by decide)
    obtain ⟨gq, oq, t, u, rfl, hb, x0, x1, ht, hu⟩ := two hl
    rw [ht, hu]
    exact rExpand14 h hlv gq oq cq qs.length t u hb hl hq x0 x1 hn
  rw [if_neg e14]
  by_cases e15 : k = 15
  . subst e15
    rw [if_pos rfl]
    have hl := h2 (by decide)
    obtain ⟨gq, oq, t, u, rfl, hb, x0, x1, ht, hu⟩ := two hl
    rw [ht, hu]
    exact rExpand15 h hlv gq oq cq qs.length t u hb hl hq x0 x1 hn
  rw [if_neg e15]
  by_cases e16 : k = 16
  . subst e16
    rw [if_pos rfl]
    have hl := h2 (by decide)
    obtain ⟨gq, oq, t, u, rfl, hb, x0, x1, ht, hu⟩ := two hl
    rw [ht, hu]
    exact rExpand16 h hlv gq oq cq qs.length t u hb hl hq x0 x1 hn
  rw [if_neg e16]
  by_cases e17 : k = 17
  . subst e17
    rw [if_pos rfl]
    have hl := h2 (by decide)
    obtain ⟨gq, oq, t, u, rfl, hb, x0, x1, ht, hu⟩ := two hl
    rw [ht, hu]
    exact rExpand17 h hlv gq oq cq qs.length t u hb hl hq x0 x1 hn
  rw [if_neg e17]
  by_cases e19 : k = 19
  . subst e19
    rw [if_pos rfl]
    have hl := h3 (by decide)
    obtain ⟨gq, oq, t, u, v, rfl, hb, x0, x1, x2, ht, hu, hv⟩ := three hl
    rw [ht, hu, hv]
    exact rExpand19 h hlv gq oq cq qs.length t u v hb hl hq x0 x1 x2 hn
  rw [if_neg e19]
  by_cases e20 : k = 20
  . subst e20
    rw [if_pos rfl]
    have hl := h3 (by decide)
    obtain ⟨gq, oq, t, u, v, rfl, hb, x0, x1, x2, ht, hu, hv⟩ := three hl
    rw [ht, hu, hv]
    exact rExpand20 h hlv gq oq cq qs.length t u v hb hl hq x0 x1 x2 hn
  rw [if_neg e20]
  exact rExpandD h hlv k aq cq qs hq hN hn e12 e13 e14 e15 e16 e17 e19 e20
end Go.Proofs.YtbdphifecjigmaaGreatDoor.Rwt
