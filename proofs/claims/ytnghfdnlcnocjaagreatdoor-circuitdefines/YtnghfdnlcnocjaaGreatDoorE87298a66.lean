import Derived.Test.YtnghfdnlcnocjaaGreatDoorE6e7ce4bf
set_option maxRecDepth 100000
set_option maxHeartbeats 600000
namespace Go.Proofs.YtnghfdnlcnocjaaGreatDoor.Cir
open Go.RowKit Go.Shelf Go.Proofs.YtnghfdnlcnocjaaGreatDoor.Oct Go.Proofs.YtnghfdnlcnocjaaGreatDoor.Tok Go.Proofs.YtnghfdnlcnocjaaGreatDoor.Gt
theorem cRoom (R : Nat) (L : Ly) (d : Dc) (ao : Option Addr) (no co n : Nat) (t : T) (ts : List T) (hn : no + n <= 4611686018427387904) (w : World) (hR : Rt w R (xOf L d) (.slice ao no co) ts) :
    Calls Tryz.prog 114 #[.pointer (some ⟨R, 0, none⟩), .int .i64 (n : Int), tkV t] w fun e w' => e = .returned (if 4096 < no + n then erV 86 t else .nilIface) /\ Below w.heap.size w w' := by
  have c3 := fun W => cRefuse 86 t W
  have hlt := hR.lt
  have h8 := hR.cells.2.2.2.2.2.2.2
  have hwr : IntKind.i64.wrap ((no : Int) + (n : Int)) = ((no + n : Nat) : Int) := by rw [wrapN _ (by omega) (by omega)]; omega
  obtain ⟨kind, text, num, o', line, col⟩ := t
  unfold tkV at c3 ⊢
  simp only at c3 ⊢
  by_cases h : 4096 < no + n
  . rw [if_pos h]
    have hd1 : decide (((no + n : Nat) : Int) > 4096) = true := decide_eq_true (by omega)
    have hd2 : decide ((4096 : Int) < ((no + n : Nat) : Int)) = true := decide_eq_true (by omega)
    generalize ((no + n : Nat) : Int) = z at *
    clear h hn
    go_enter Tryz.func114, Tryz.ntmps114
    go_wp2_with (first | (go_at_call 87; refine (c3 _).mono ?_; rintro e w3 ⟨rfl, hb3⟩))
    go_ret
    exact ⟨rfl, (bnew _ _).trans (hb3.mono (by simp))⟩
  . rw [if_neg h]
    have hd1 : decide (((no + n : Nat) : Int) > 4096) = false := decide_eq_false (by omega)
    have hd2 : decide ((4096 : Int) < ((no + n : Nat) : Int)) = false := decide_eq_false (by omega)
    generalize ((no + n : Nat) : Int) = z at *
    clear h hn
    go_enter Tryz.func114, Tryz.ntmps114
    go_wp2_with fail
    go_ret
    exact ⟨rfl, bnew _ _⟩
def PCa (B : Nat) (w : World) (P : Res Df) (e : Ending) (w' : World) : Prop := Below w.heap.size w w' /\ match P with
  | .no c t => ∃ (a b : Int) (ao : Option Addr) (k m : Nat), e = .returned (.tuple #[.agg #[.int .i64 a, .int .i64 b, .slice ao k m], erV c t])
  | .ok g _ => ∃ (a b : Int) (ao : Option Addr) (k m : Nat), e = .returned (.tuple #[.agg #[.int .i64 a, .int .i64 b, .slice ao k m], .nilIface]) /\ DefD w' B w'.heap.size g (.agg #[.int .i64 a, .int .i64 b, .slice ao k m])
theorem allD3 (a b : Int) (ao : Option Addr) (k c : Nat) : (#[Value.int .i64 a, .int .i64 b, .slice ao k c]).all (·.oneCell') = true := by simp [Value.oneCell']
theorem Below.row {B : Nat} {a w : World} (h : Below B a w) (g : Nat) (cs : Array Value) (hg : B <= g) : Below B a (w.setRow g cs) :=
  ⟨h.os, h.tape, h.output, by rw [show (w.setRow g cs).heap.size = w.heap.size by simp [World.setRow]]; exact h.size, fun k hk => (setRow_other _ _ _ _ (by omega)).trans (h.block k hk)⟩
theorem DefV.row {w : World} {B : Nat} {g : Df} {u : Value} (h : DefV w B g u) {k : Nat} {cs : Array Value} {fr : Nat × Nat} (cs' : Array Value) (hk : w.heap[k]? = some (.cells cs 174 fr)) : DefV (w.setRow k cs') B g u := by
  obtain ⟨d, ao, k', c, h1, h2, h3⟩ := h
  refine ⟨d, ao, k', c, h1, SpAt.block (fun b _ cs2 fr2 hb => setRow_other _ _ _ _ (fun e => ?_)) (fun b _ cs2 fr2 hb => setRow_other _ _ _ _ (fun e => ?_)) _ _ _ _ _ h2, h3⟩
  all_goals
    subst e
    rw [hk] at hb
    simp at hb
theorem DefD.row {w : World} {B C : Nat} {g : Df} {u : Value} (h : DefD w B C g u) {k : Nat} {cs : Array Value} {fr : Nat × Nat} (cs' : Array Value) (hk : w.heap[k]? = some (.cells cs 174 fr)) : DefD (w.setRow k cs') B C g u := by
  refine h.block fun b cs2 fr2 t ht hb => setRow_other _ _ _ _ (fun e => ?_)
  subst e
  rw [hk] at hb
  simp only [Option.some.injEq, Obj.cells.injEq] at hb
  rcases ht with rfl | rfl
  . exact absurd hb.2.1 (by decide)
  . exact absurd hb.2.1 (by decide)
theorem cCallee (R : Nat) (L : Ly) (w0 : World) (B N : Nat) (d : Dc) (o : Value) (ts : List T) (t : T) (hTx : t.text.length <= 140737488355328) (us : List T) (w : World) (hR : Rt w R (xOf L d) o ts) (hD : Rdr w0 w R L B N d) :
    Calls Tryz.prog 120 #[.pointer (some ⟨R, 0, none⟩), tkV t] w (PCa B w (pCallee d t us)) := by
  have hlt := hR.lt
  have eG := erG
  have eN := erN
  have c1 := fun V (h : Below w.heap.size w V) => cGateOf R B L.md N d t.text hTx V (hD.below h).hB (hD.below h).tb (hR.below h).cells.2.2.2.2.2.2.1 (hD.below h).md
  have c2 := fun W => cIsName t W
  have c3 := fun W => cRefuse 82 t W
  have c4 := fun W => cRefuse 81 t W
  unfold pCallee
  unfold GPost at c1
  obtain ⟨kind, text, num, o', line, col⟩ := t
  unfold tkV at c2 c3 c4 ⊢
  simp only at c1 c2 c3 c4 ⊢
  have hA : ((w.alloc (.cells #[.int .i64 (kind : Int), .string ⟨text.toArray⟩, .int .i64 (num : Int), .int .i64 (o' : Int), .int .i64 (line : Int), .int .i64 (col : Int)] 100)).alloc (.cells #[.int .i64 0, .int .i64 0, .slice none 0 0] 174)).heap[w.heap.size + 1]? = some (.cells #[.int .i64 0, .int .i64 0, .slice none 0 0] 174 (0, 0)) := by
    have := heap_alloc_new (w.alloc (.cells #[.int .i64 (kind : Int), .string ⟨text.toArray⟩, .int .i64 (num : Int), .int .i64 (o' : Int), .int .i64 (line : Int), .int .i64 (col : Int)] 100)) (.cells #[.int .i64 0, .int .i64 0, .slice none 0 0] 174)
    simpa using this
  have hA' : ((w.alloc (.cells #[.int .i64 (kind : Int), .string ⟨text.toArray⟩, .int .i64 (num : Int), .int .i64 (o' : Int), .int .i64 (line : Int), .int .i64 (col : Int)] 100)).alloc (.cells #[.int .i64 0, .int .i64 0, .slice none 0 0] 174)).heap[w.heap.size]? = some (.cells #[.int .i64 (kind : Int), .string ⟨text.toArray⟩, .int .i64 (num : Int), .int .i64 (o' : Int), .int .i64 (line : Int), .int .i64 (col : Int)] 100 (0, 0)) :=
    (Below.heap_alloc _ _ _ (by simp)).trans (heap_alloc_new _ _)
  generalize hN : isN ⟨kind, text, num, o', line, col⟩ = bN at *
  clear hN
  cases bN with
  | false =>
    simp only [Bool.false_eq_true, if_false]
    clear c1
    go_enter Tryz.func120, Tryz.ntmps120
    go_wp2_with (first
      | (go_at_call 139; refine (c2 _).mono ?_; rintro e w1 ⟨rfl, hb1⟩; obtain ⟨hc1, hf1⟩ := bcell hb1; have hz1 := hb1.size)
      | (go_at_call 87; refine (c4 _).mono ?_; rintro e w3 ⟨rfl, hb3⟩; have hA3 := (hb3.block (w.heap.size + 1) (by simp at hz1; omega)).trans ((hb1.block (w.heap.size + 1) (by simp)).trans hA))
      | refine wpList_store_row rfl _ _ _ rfl (w.heap.size + 1) _ rfl rfl _ _ hA3 (by exact infoDf) (by rfl) (allD3 _ _ _ _ _) ?_)
    refine bodyPost_ret (results_ct rfl _ _ (w.heap.size + 1) _ _ _ _ rfl (setRow_heap _ _ _ _ _ _ hA3) Tryz.underlying174 rfl (by exact infoDf)) rfl ?_
    have hw1 : Below w.heap.size w w1 := (((bnew _ _).trans ((bnew _ _).mono (by simp))).trans (hb1.mono (by simp; omega)))
    exact ⟨Below.row (hw1.trans (hb3.mono hw1.size)) _ _ (by omega), _, _, _, _, _, rfl⟩
  | true =>
  simp only [if_true]
  cases hG : gOfD d text with
  | none =>
    rw [hG] at c1
    simp only [Option.isSome_none] at c1 ⊢
    go_enter Tryz.func120, Tryz.ntmps120
    go_wp2_with (first
      | (go_at_call 139; refine (c2 _).mono ?_; rintro e w1 ⟨rfl, hb1⟩))
    have hz1 := hb1.size
    have hA1 : w1.heap[w.heap.size + 1]? = _ := (hb1.block (w.heap.size + 1) (by simp)).trans hA
    have hA2 : w1.heap[w.heap.size]? = _ := (hb1.block w.heap.size (by simp; omega)).trans hA'
    have hw1 : Below w.heap.size w w1 := (((bnew _ _).trans ((bnew _ _).mono (by simp))).trans (hb1.mono (by simp; omega)))
    have hl1 : w.heap.size + 1 < w1.heap.size := by simp at hz1; omega
    have hx1 : w1.cell? ⟨w.heap.size, 1, none⟩ = some (.string ⟨text.toArray⟩) := cell_of_row _ _ 1 _ _ _ hA2
    have HX0 : Hid (w1.drew.cell? ⟨w.heap.size, 1, none⟩ = some (.string ⟨text.toArray⟩)) := hide hx1
    have HX1 : Hid (∀ (V : World), Below w1.heap.size w1 V -> V.cell? ⟨w.heap.size, 1, none⟩ = some (.string ⟨text.toArray⟩)) := hide (fun V h => (h.cell (p := ⟨w.heap.size, 1, none⟩) (show w.heap.size < w1.heap.size by omega)).trans hx1)
    have HX2 : Hid (∀ (V : World) u0 u1 u2, V.cell? ⟨w.heap.size, 1, none⟩ = some (.string ⟨text.toArray⟩) -> (((V.setCell ⟨w1.heap.size, 0, none⟩ u0).setCell ⟨w1.heap.size, 1, none⟩ u1).setCell ⟨w1.heap.size, 2, none⟩ u2).cell? ⟨w.heap.size, 1, none⟩ = some (.string ⟨text.toArray⟩)) := hide (fun V u0 u1 u2 h => by rw [World.cell?_setCell_far _ _ _ _ (show w1.heap.size ≠ w.heap.size by omega), World.cell?_setCell_far _ _ _ _ (show w1.heap.size ≠ w.heap.size by omega), World.cell?_setCell_far _ _ _ _ (show w1.heap.size ≠ w.heap.size by omega)]; exact h)
    have HX3 : Hid (∀ (V : World) o', V.cell? ⟨w.heap.size, 1, none⟩ = some (.string ⟨text.toArray⟩) -> (V.alloc o').cell? ⟨w.heap.size, 1, none⟩ = some (.string ⟨text.toArray⟩)) := hide (fun V o' h => ((bnew V o').cell (p := ⟨w.heap.size, 1, none⟩) (World.block_lt_of_cell? _ _ h)).trans h)
    have HA0 : Hid (Below w1.heap.size w1 w1.drew) := hide (Below.refl _ _).drew
    have HA1 : Hid (∀ o', Below w1.heap.size w1 (w1.alloc o').drew) := hide (fun o' => (bnew w1 o').drew)
    have HC := hide (fun V (h : Below w1.heap.size w1 V) => c1 V (hw1.trans (h.mono hw1.size)))
    go_region_held3 (fun V => V.cell? ⟨w.heap.size, 1, none⟩ = some (.string ⟨text.toArray⟩))
      (first | (with_reducible exact HX0.out) | (with_reducible exact HX1.out _ (HA1.out _)) | (with_reducible assumption) | (with_reducible exact HX2.out _ _ _ _ (by assumption)) | (with_reducible exact HX3.out _ _ (by assumption)))
      (first
        | (go_at_call 140; (with_reducible refine Calls.mono (HC.out _ (HA1.out _)) ?_); rintro e w2 ⟨a, b, ao, k, c, rfl, hb2, hDf⟩; have hbb := Below.trans (HA1.out _) (hb2.mono (HA1.out _).size); have hS := HX1.out _ hbb; have hz : w2.heap[w1.heap.size]? = some (.cells #[.int .i64 0, .int .i64 0, .slice none 0 0] 174 (0, 0)) := (hb2.block w1.heap.size (by simp)).trans (heap_alloc_new w1 _); have z0 : w2.cell? ⟨w1.heap.size, 0, none⟩ = some (.int .i64 0) := cell_of_row _ _ 0 _ _ _ hz; have z1 : w2.cell? ⟨w1.heap.size, 1, none⟩ = some (.int .i64 0) := cell_of_row _ _ 1 _ _ _ hz; have z2 : w2.cell? ⟨w1.heap.size, 2, none⟩ = some (.slice none 0 0) := cell_of_row _ _ 2 _ _ _ hz; have zf : ∀ j, w2.frozen? ⟨w1.heap.size, j, none⟩ = false := fun j => by simp [World.frozen?, hz])
        | (go_at_call 140; (with_reducible refine Calls.mono (HC.out _ HA0.out) ?_); rintro e w2 ⟨a, b, ao, k, c, rfl, hb2, hDf⟩; have hbb := Below.trans HA0.out (hb2.mono HA0.out.size); have hS := HX1.out _ hbb))
    . have hVb1 : Below w1.heap.size w1 (w2.alloc (.cells #[.int .i64 a, .int .i64 b, .slice ao k c] 174)) := hbb.trans ((bnew _ _).mono hbb.size)
      have hVb2 : Below w2.heap.size w2 (w2.alloc (.cells #[.int .i64 a, .int .i64 b, .slice ao k c] 174)) := bnew _ _
      have hDV := fun {V} (h : Below w2.heap.size w2 V) => h
      have hVg : (w2.alloc (.cells #[.int .i64 a, .int .i64 b, .slice ao k c] 174)).heap[w2.heap.size]? = some (.cells #[.int .i64 a, .int .i64 b, .slice ao k c] 174 (0, 0)) := heap_alloc_new _ _
      generalize (w2.alloc (.cells #[.int .i64 a, .int .i64 b, .slice ao k c] 174)) = V at *
      clear hS
      have hVr : V.heap[w.heap.size + 1]? = some (.cells #[.int .i64 0, .int .i64 0, .slice none 0 0] 174 (0, 0)) := (hVb1.block _ hl1).trans hA1
      have hVt := (hVb1.block w.heap.size (by omega)).trans hA2
      have hVb : Below w.heap.size w V := hw1.trans (hVb1.mono hw1.size)
      have hVs := hVb1.size
      have q0 : V.cell? ⟨w.heap.size, 0, none⟩ = some (.int .i64 (kind : Int)) := cell_of_row _ _ 0 _ _ _ hVt
      have q1 : V.cell? ⟨w.heap.size, 1, none⟩ = some (.string ⟨text.toArray⟩) := cell_of_row _ _ 1 _ _ _ hVt
      have q2 : V.cell? ⟨w.heap.size, 2, none⟩ = some (.int .i64 (num : Int)) := cell_of_row _ _ 2 _ _ _ hVt
      have q3 : V.cell? ⟨w.heap.size, 3, none⟩ = some (.int .i64 (o' : Int)) := cell_of_row _ _ 3 _ _ _ hVt
      have q4 : V.cell? ⟨w.heap.size, 4, none⟩ = some (.int .i64 (line : Int)) := cell_of_row _ _ 4 _ _ _ hVt
      have q5 : V.cell? ⟨w.heap.size, 5, none⟩ = some (.int .i64 (col : Int)) := cell_of_row _ _ 5 _ _ _ hVt
      have g0 : V.cell? ⟨w2.heap.size, 0, none⟩ = some (.int .i64 a) := cell_of_row _ _ 0 _ _ _ hVg
      have g1 : V.cell? ⟨w2.heap.size, 1, none⟩ = some (.int .i64 b) := cell_of_row _ _ 1 _ _ _ hVg
      have g2 : V.cell? ⟨w2.heap.size, 2, none⟩ = some (.slice ao k c) := cell_of_row _ _ 2 _ _ _ hVg
      have hgV : w2.heap.size < V.heap.size := (Array.getElem?_eq_some_iff.1 hVg).1
      go_wp2_with (first
        | (go_at_call 87; refine (c3 _).mono ?_; rintro e w3 ⟨rfl, hb3⟩; have hA3 := (hb3.block (w.heap.size + 1) (by omega)).trans hVr)
        | refine wpList_store_row rfl _ _ _ rfl (w.heap.size + 1) _ rfl rfl _ _ hA3 (by exact infoDf) (by rfl) (allD3 _ _ _ _ _) ?_)
      refine bodyPost_ret (results_ct rfl _ _ (w.heap.size + 1) _ _ _ _ rfl (setRow_heap _ _ _ _ _ _ hA3) Tryz.underlying174 rfl (by exact infoDf)) rfl ?_
      exact ⟨Below.row (hVb.trans (hb3.mono hVb.size)) _ _ (by omega), _, _, _, _, _, rfl⟩
    . have hVb1 : Below w1.heap.size w1 (((w2.setCell ⟨w1.heap.size, 0, none⟩ (.int .i64 a)).setCell ⟨w1.heap.size, 1, none⟩ (.int .i64 b)).setCell ⟨w1.heap.size, 2, none⟩ (.slice ao k c)) := ((hbb.setCell (p := ⟨w1.heap.size, 0, none⟩) (Nat.le_refl _) _).setCell (p := ⟨w1.heap.size, 1, none⟩) (Nat.le_refl _) _).setCell (p := ⟨w1.heap.size, 2, none⟩) (Nat.le_refl _) _
      have hE : (((w2.setCell ⟨w1.heap.size, 0, none⟩ (.int .i64 a)).setCell ⟨w1.heap.size, 1, none⟩ (.int .i64 b)).setCell ⟨w1.heap.size, 2, none⟩ (.slice ao k c)) = w2.setRow w1.heap.size #[.int .i64 a, .int .i64 b, .slice ao k c] := by
        rw [setCell_eq_setRow w2 _ 0 _ _ _ _ hz, setCell_eq_setRow _ _ 1 _ _ _ _ (setRow_heap _ _ _ _ _ _ hz), setRow_setRow, setCell_eq_setRow _ _ 2 _ _ _ _ (setRow_heap _ _ _ _ _ _ hz), setRow_setRow]
        rfl
      have hVg : (((w2.setCell ⟨w1.heap.size, 0, none⟩ (.int .i64 a)).setCell ⟨w1.heap.size, 1, none⟩ (.int .i64 b)).setCell ⟨w1.heap.size, 2, none⟩ (.slice ao k c)).heap[w1.heap.size]? = some (.cells #[.int .i64 a, .int .i64 b, .slice ao k c] 174 (0, 0)) := by
        rw [hE]
        exact setRow_heap _ _ _ _ _ _ hz
      clear hE
      generalize (((w2.setCell ⟨w1.heap.size, 0, none⟩ (.int .i64 a)).setCell ⟨w1.heap.size, 1, none⟩ (.int .i64 b)).setCell ⟨w1.heap.size, 2, none⟩ (.slice ao k c)) = V at *
      clear hS z0 z1 z2 zf hz
      have hVr : V.heap[w.heap.size + 1]? = some (.cells #[.int .i64 0, .int .i64 0, .slice none 0 0] 174 (0, 0)) := (hVb1.block _ hl1).trans hA1
      have hVt := (hVb1.block w.heap.size (by omega)).trans hA2
      have hVb : Below w.heap.size w V := hw1.trans (hVb1.mono hw1.size)
      have hVs := hVb1.size
      have q0 : V.cell? ⟨w.heap.size, 0, none⟩ = some (.int .i64 (kind : Int)) := cell_of_row _ _ 0 _ _ _ hVt
      have q1 : V.cell? ⟨w.heap.size, 1, none⟩ = some (.string ⟨text.toArray⟩) := cell_of_row _ _ 1 _ _ _ hVt
      have q2 : V.cell? ⟨w.heap.size, 2, none⟩ = some (.int .i64 (num : Int)) := cell_of_row _ _ 2 _ _ _ hVt
      have q3 : V.cell? ⟨w.heap.size, 3, none⟩ = some (.int .i64 (o' : Int)) := cell_of_row _ _ 3 _ _ _ hVt
      have q4 : V.cell? ⟨w.heap.size, 4, none⟩ = some (.int .i64 (line : Int)) := cell_of_row _ _ 4 _ _ _ hVt
      have q5 : V.cell? ⟨w.heap.size, 5, none⟩ = some (.int .i64 (col : Int)) := cell_of_row _ _ 5 _ _ _ hVt
      have g0 : V.cell? ⟨w1.heap.size, 0, none⟩ = some (.int .i64 a) := cell_of_row _ _ 0 _ _ _ hVg
      have g1 : V.cell? ⟨w1.heap.size, 1, none⟩ = some (.int .i64 b) := cell_of_row _ _ 1 _ _ _ hVg
      have g2 : V.cell? ⟨w1.heap.size, 2, none⟩ = some (.slice ao k c) := cell_of_row _ _ 2 _ _ _ hVg
      have hgV : w1.heap.size < V.heap.size := (Array.getElem?_eq_some_iff.1 hVg).1
      go_wp2_with (first
        | (go_at_call 87; refine (c3 _).mono ?_; rintro e w3 ⟨rfl, hb3⟩; have hA3 := (hb3.block (w.heap.size + 1) (by omega)).trans hVr)
        | refine wpList_store_row rfl _ _ _ rfl (w.heap.size + 1) _ rfl rfl _ _ hA3 (by exact infoDf) (by rfl) (allD3 _ _ _ _ _) ?_)
      refine bodyPost_ret (results_ct rfl _ _ (w.heap.size + 1) _ _ _ _ rfl (setRow_heap _ _ _ _ _ _ hA3) Tryz.underlying174 rfl (by exact infoDf)) rfl ?_
      exact ⟨Below.row (hVb.trans (hb3.mono hVb.size)) _ _ (by omega), _, _, _, _, _, rfl⟩
  | some g =>
    rw [hG] at c1
    simp only [Option.isSome_some] at c1 ⊢
    go_enter Tryz.func120, Tryz.ntmps120
    go_wp2_with (first
      | (go_at_call 139; refine (c2 _).mono ?_; rintro e w1 ⟨rfl, hb1⟩))
    have hz1 := hb1.size
    have hA1 : w1.heap[w.heap.size + 1]? = _ := (hb1.block (w.heap.size + 1) (by simp)).trans hA
    have hA2 : w1.heap[w.heap.size]? = _ := (hb1.block w.heap.size (by simp; omega)).trans hA'
    have hw1 : Below w.heap.size w w1 := (((bnew _ _).trans ((bnew _ _).mono (by simp))).trans (hb1.mono (by simp; omega)))
    have hl1 : w.heap.size + 1 < w1.heap.size := by simp at hz1; omega
    have hx1 : w1.cell? ⟨w.heap.size, 1, none⟩ = some (.string ⟨text.toArray⟩) := cell_of_row _ _ 1 _ _ _ hA2
    have HX0 : Hid (w1.drew.cell? ⟨w.heap.size, 1, none⟩ = some (.string ⟨text.toArray⟩)) := hide hx1
    have HX1 : Hid (∀ (V : World), Below w1.heap.size w1 V -> V.cell? ⟨w.heap.size, 1, none⟩ = some (.string ⟨text.toArray⟩)) := hide (fun V h => (h.cell (p := ⟨w.heap.size, 1, none⟩) (show w.heap.size < w1.heap.size by omega)).trans hx1)
    have HX2 : Hid (∀ (V : World) u0 u1 u2, V.cell? ⟨w.heap.size, 1, none⟩ = some (.string ⟨text.toArray⟩) -> (((V.setCell ⟨w1.heap.size, 0, none⟩ u0).setCell ⟨w1.heap.size, 1, none⟩ u1).setCell ⟨w1.heap.size, 2, none⟩ u2).cell? ⟨w.heap.size, 1, none⟩ = some (.string ⟨text.toArray⟩)) := hide (fun V u0 u1 u2 h => by rw [World.cell?_setCell_far _ _ _ _ (show w1.heap.size ≠ w.heap.size by omega), World.cell?_setCell_far _ _ _ _ (show w1.heap.size ≠ w.heap.size by omega), World.cell?_setCell_far _ _ _ _ (show w1.heap.size ≠ w.heap.size by omega)]; exact h)
    have HX3 : Hid (∀ (V : World) o', V.cell? ⟨w.heap.size, 1, none⟩ = some (.string ⟨text.toArray⟩) -> (V.alloc o').cell? ⟨w.heap.size, 1, none⟩ = some (.string ⟨text.toArray⟩)) := hide (fun V o' h => ((bnew V o').cell (p := ⟨w.heap.size, 1, none⟩) (World.block_lt_of_cell? _ _ h)).trans h)
    have HA0 : Hid (Below w1.heap.size w1 w1.drew) := hide (Below.refl _ _).drew
    have HA1 : Hid (∀ o', Below w1.heap.size w1 (w1.alloc o').drew) := hide (fun o' => (bnew w1 o').drew)
    have HC := hide (fun V (h : Below w1.heap.size w1 V) => c1 V (hw1.trans (h.mono hw1.size)))
    go_region_held3 (fun V => V.cell? ⟨w.heap.size, 1, none⟩ = some (.string ⟨text.toArray⟩))
      (first | (with_reducible exact HX0.out) | (with_reducible exact HX1.out _ (HA1.out _)) | (with_reducible assumption) | (with_reducible exact HX2.out _ _ _ _ (by assumption)) | (with_reducible exact HX3.out _ _ (by assumption)))
      (first
        | (go_at_call 140; (with_reducible refine Calls.mono (HC.out _ (HA1.out _)) ?_); rintro e w2 ⟨a, b, ao, k, c, rfl, hb2, hDf⟩; have hbb := Below.trans (HA1.out _) (hb2.mono (HA1.out _).size); have hS := HX1.out _ hbb; have hz : w2.heap[w1.heap.size]? = some (.cells #[.int .i64 0, .int .i64 0, .slice none 0 0] 174 (0, 0)) := (hb2.block w1.heap.size (by simp)).trans (heap_alloc_new w1 _); have z0 : w2.cell? ⟨w1.heap.size, 0, none⟩ = some (.int .i64 0) := cell_of_row _ _ 0 _ _ _ hz; have z1 : w2.cell? ⟨w1.heap.size, 1, none⟩ = some (.int .i64 0) := cell_of_row _ _ 1 _ _ _ hz; have z2 : w2.cell? ⟨w1.heap.size, 2, none⟩ = some (.slice none 0 0) := cell_of_row _ _ 2 _ _ _ hz; have zf : ∀ j, w2.frozen? ⟨w1.heap.size, j, none⟩ = false := fun j => by simp [World.frozen?, hz])
        | (go_at_call 140; (with_reducible refine Calls.mono (HC.out _ HA0.out) ?_); rintro e w2 ⟨a, b, ao, k, c, rfl, hb2, hDf⟩; have hbb := Below.trans HA0.out (hb2.mono HA0.out.size); have hS := HX1.out _ hbb))
    . have hVb1 : Below w1.heap.size w1 (w2.alloc (.cells #[.int .i64 a, .int .i64 b, .slice ao k c] 174)) := hbb.trans ((bnew _ _).mono hbb.size)
      have hVb2 : Below w2.heap.size w2 (w2.alloc (.cells #[.int .i64 a, .int .i64 b, .slice ao k c] 174)) := bnew _ _
      have hDV := fun {V} (h : Below w2.heap.size w2 V) => (hDf _ rfl).below h
      have hVg : (w2.alloc (.cells #[.int .i64 a, .int .i64 b, .slice ao k c] 174)).heap[w2.heap.size]? = some (.cells #[.int .i64 a, .int .i64 b, .slice ao k c] 174 (0, 0)) := heap_alloc_new _ _
      generalize (w2.alloc (.cells #[.int .i64 a, .int .i64 b, .slice ao k c] 174)) = V at *
      clear hS
      have hVr : V.heap[w.heap.size + 1]? = some (.cells #[.int .i64 0, .int .i64 0, .slice none 0 0] 174 (0, 0)) := (hVb1.block _ hl1).trans hA1
      have hVt := (hVb1.block w.heap.size (by omega)).trans hA2
      have hVb : Below w.heap.size w V := hw1.trans (hVb1.mono hw1.size)
      have hVs := hVb1.size
      have q0 : V.cell? ⟨w.heap.size, 0, none⟩ = some (.int .i64 (kind : Int)) := cell_of_row _ _ 0 _ _ _ hVt
      have q1 : V.cell? ⟨w.heap.size, 1, none⟩ = some (.string ⟨text.toArray⟩) := cell_of_row _ _ 1 _ _ _ hVt
      have q2 : V.cell? ⟨w.heap.size, 2, none⟩ = some (.int .i64 (num : Int)) := cell_of_row _ _ 2 _ _ _ hVt
      have q3 : V.cell? ⟨w.heap.size, 3, none⟩ = some (.int .i64 (o' : Int)) := cell_of_row _ _ 3 _ _ _ hVt
      have q4 : V.cell? ⟨w.heap.size, 4, none⟩ = some (.int .i64 (line : Int)) := cell_of_row _ _ 4 _ _ _ hVt
      have q5 : V.cell? ⟨w.heap.size, 5, none⟩ = some (.int .i64 (col : Int)) := cell_of_row _ _ 5 _ _ _ hVt
      have g0 : V.cell? ⟨w2.heap.size, 0, none⟩ = some (.int .i64 a) := cell_of_row _ _ 0 _ _ _ hVg
      have g1 : V.cell? ⟨w2.heap.size, 1, none⟩ = some (.int .i64 b) := cell_of_row _ _ 1 _ _ _ hVg
      have g2 : V.cell? ⟨w2.heap.size, 2, none⟩ = some (.slice ao k c) := cell_of_row _ _ 2 _ _ _ hVg
      have hgV : w2.heap.size < V.heap.size := (Array.getElem?_eq_some_iff.1 hVg).1
      have hD3 := hDV hVb2
      go_wp2_with (first
        | refine wpList_store_row rfl _ _ _ rfl (w.heap.size + 1) _ rfl rfl _ _ hVr (by exact infoDf) (by rfl) (allD3 _ _ _ _ _) ?_)
      refine bodyPost_ret (results_ct rfl _ _ (w.heap.size + 1) _ _ _ _ rfl (setRow_heap _ _ _ _ _ _ hVr) Tryz.underlying174 rfl (by exact infoDf)) rfl ?_
      exact ⟨Below.row hVb _ _ (by omega), _, _, _, _, _, rfl, (hD3.row _ hVr).mono (by simp [World.setRow]; omega)⟩
    . have hVb1 : Below w1.heap.size w1 (((w2.setCell ⟨w1.heap.size, 0, none⟩ (.int .i64 a)).setCell ⟨w1.heap.size, 1, none⟩ (.int .i64 b)).setCell ⟨w1.heap.size, 2, none⟩ (.slice ao k c)) := ((hbb.setCell (p := ⟨w1.heap.size, 0, none⟩) (Nat.le_refl _) _).setCell (p := ⟨w1.heap.size, 1, none⟩) (Nat.le_refl _) _).setCell (p := ⟨w1.heap.size, 2, none⟩) (Nat.le_refl _) _
      have hE : (((w2.setCell ⟨w1.heap.size, 0, none⟩ (.int .i64 a)).setCell ⟨w1.heap.size, 1, none⟩ (.int .i64 b)).setCell ⟨w1.heap.size, 2, none⟩ (.slice ao k c)) = w2.setRow w1.heap.size #[.int .i64 a, .int .i64 b, .slice ao k c] := by
        rw [setCell_eq_setRow w2 _ 0 _ _ _ _ hz, setCell_eq_setRow _ _ 1 _ _ _ _ (setRow_heap _ _ _ _ _ _ hz), setRow_setRow, setCell_eq_setRow _ _ 2 _ _ _ _ (setRow_heap _ _ _ _ _ _ hz), setRow_setRow]
        rfl
      have hVg : (((w2.setCell ⟨w1.heap.size, 0, none⟩ (.int .i64 a)).setCell ⟨w1.heap.size, 1, none⟩ (.int .i64 b)).setCell ⟨w1.heap.size, 2, none⟩ (.slice ao k c)).heap[w1.heap.size]? = some (.cells #[.int .i64 a, .int .i64 b, .slice ao k c] 174 (0, 0)) := by
        rw [hE]
        exact setRow_heap _ _ _ _ _ _ hz
      have hD3 : DefD (((w2.setCell ⟨w1.heap.size, 0, none⟩ (.int .i64 a)).setCell ⟨w1.heap.size, 1, none⟩ (.int .i64 b)).setCell ⟨w1.heap.size, 2, none⟩ (.slice ao k c)) B w2.heap.size g (.agg #[.int .i64 a, .int .i64 b, .slice ao k c]) := by
        rw [hE]
        exact (hDf _ rfl).row _ hz
      have hqs : w2.heap.size <= (((w2.setCell ⟨w1.heap.size, 0, none⟩ (.int .i64 a)).setCell ⟨w1.heap.size, 1, none⟩ (.int .i64 b)).setCell ⟨w1.heap.size, 2, none⟩ (.slice ao k c)).heap.size := by
        rw [hE]
        simp [World.setRow]
      clear hE
      generalize (((w2.setCell ⟨w1.heap.size, 0, none⟩ (.int .i64 a)).setCell ⟨w1.heap.size, 1, none⟩ (.int .i64 b)).setCell ⟨w1.heap.size, 2, none⟩ (.slice ao k c)) = V at *
      clear hS z0 z1 z2 zf hz
      have hVr : V.heap[w.heap.size + 1]? = some (.cells #[.int .i64 0, .int .i64 0, .slice none 0 0] 174 (0, 0)) := (hVb1.block _ hl1).trans hA1
      have hVt := (hVb1.block w.heap.size (by omega)).trans hA2
      have hVb : Below w.heap.size w V := hw1.trans (hVb1.mono hw1.size)
      have hVs := hVb1.size
      have q0 : V.cell? ⟨w.heap.size, 0, none⟩ = some (.int .i64 (kind : Int)) := cell_of_row _ _ 0 _ _ _ hVt
      have q1 : V.cell? ⟨w.heap.size, 1, none⟩ = some (.string ⟨text.toArray⟩) := cell_of_row _ _ 1 _ _ _ hVt
      have q2 : V.cell? ⟨w.heap.size, 2, none⟩ = some (.int .i64 (num : Int)) := cell_of_row _ _ 2 _ _ _ hVt
      have q3 : V.cell? ⟨w.heap.size, 3, none⟩ = some (.int .i64 (o' : Int)) := cell_of_row _ _ 3 _ _ _ hVt
      have q4 : V.cell? ⟨w.heap.size, 4, none⟩ = some (.int .i64 (line : Int)) := cell_of_row _ _ 4 _ _ _ hVt
      have q5 : V.cell? ⟨w.heap.size, 5, none⟩ = some (.int .i64 (col : Int)) := cell_of_row _ _ 5 _ _ _ hVt
      have g0 : V.cell? ⟨w1.heap.size, 0, none⟩ = some (.int .i64 a) := cell_of_row _ _ 0 _ _ _ hVg
      have g1 : V.cell? ⟨w1.heap.size, 1, none⟩ = some (.int .i64 b) := cell_of_row _ _ 1 _ _ _ hVg
      have g2 : V.cell? ⟨w1.heap.size, 2, none⟩ = some (.slice ao k c) := cell_of_row _ _ 2 _ _ _ hVg
      have hgV : w1.heap.size < V.heap.size := (Array.getElem?_eq_some_iff.1 hVg).1
      go_wp2_with (first
        | refine wpList_store_row rfl _ _ _ rfl (w.heap.size + 1) _ rfl rfl _ _ hVr (by exact infoDf) (by rfl) (allD3 _ _ _ _ _) ?_)
      refine bodyPost_ret (results_ct rfl _ _ (w.heap.size + 1) _ _ _ _ rfl (setRow_heap _ _ _ _ _ _ hVr) Tryz.underlying174 rfl (by exact infoDf)) rfl ?_
      exact ⟨Below.row hVb _ _ (by omega), _, _, _, _, _, rfl, (hD3.row _ hVr).mono (by simp [World.setRow]; omega)⟩
end Go.Proofs.YtnghfdnlcnocjaaGreatDoor.Cir
