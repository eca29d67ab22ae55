/- Package token: whole and Name, as they are walked. -/
import Derived.Test.YtinbbcojilogeaaDoorKi
namespace Go.Proofs.YtinbbcojilogeaaDoor.Tok
open Go.RowKit Go.Shelf Go.Proofs.YtinbbcojilogeaaDoor.Oct

theorem below_in {w w1 : World} {o : Obj} (hb : Below (w.alloc o).heap.size (w.alloc o) w1) (o' : Obj) : Below w.heap.size w (w1.alloc o') :=
  ((below_new w o).trans (hb.mono (by simp))).alloc (Nat.le_trans (by simp) hb.size) _
/-- Is a text just this one token? -/
def wholeB (l : List UInt8) (kd : Int) (tx : List UInt8) (nm : Int) : Bool := match cut l with
  | .tok k t v n => n == l.length && ((k : Int) == kd && t == tx && (v : Int) == nm)
  | .bad _ => false
set_option maxHeartbeats 1000000 in
theorem nWhole (l : List UInt8) (hl : l.length ≤ 140737488355328) (kd nm o1 o2 o3 : Int) (tx : List UInt8) (w : World) (hT : Tw w) :
    Calls Tryd.prog 25 #[str l, .agg #[.int .i64 kd, .string ⟨tx.toArray⟩, .int .i64 nm, .int .i64 o1, .int .i64 o2, .int .i64 o3]] w fun e w' => e = .returned (.bool (wholeB l kd tx nm)) ∧ Below w.heap.size w w' := by
  have hsz := size_str l
  have c := fun o => nCut l hl (w.alloc o) (hT.below (below_new w o))
  unfold wholeB
  cases hC : cut l with
  | bad er =>
    have her : er ≠ 0 := fun e => cut_bad_ne _ (by rw [← e]; exact hC)
    have her1 : ((er : Int) == 0) = false := by rw [beq_eq_false_iff_ne]; omega
    rw [hC] at c
    simp only [cutV, tokV] at c
    unfold str at *
    generalize (⟨l.toArray⟩ : ByteArray) = s at *
    go_enter Tryd.func25, Tryd.ntmps25
    go_wp2_with fail
    refine (c _).mono ?_
    rintro e w1 ⟨rfl, hb1⟩
    go_wp2_with fail
    go_ret
    exact ⟨rfl, below_in hb1 _⟩
  | tok k t v n =>
    rw [hC] at c
    simp only [cutV, tokV] at c
    unfold str at *
    generalize (⟨l.toArray⟩ : ByteArray) = s at *
    by_cases hn : n = l.length
    · subst hn
      go_enter Tryd.func25, Tryd.ntmps25
      go_wp2_with fail
      refine (c _).mono ?_
      rintro e w1 ⟨rfl, hb1⟩
      have hg1 := (hb1.block w.heap.size (by simp)).trans (heap_alloc_new _ _)
      have g0 : ∀ o, (w1.alloc o).cell? ⟨w.heap.size, 0, none⟩ = some (.int .i64 kd) := fun o => cell_of_row _ _ 0 _ _ _ (((below_new w1 o).block w.heap.size (Array.getElem?_eq_some_iff.1 hg1).1).trans hg1)
      have g1 : ∀ o, (w1.alloc o).cell? ⟨w.heap.size, 1, none⟩ = some (.string ⟨tx.toArray⟩) := fun o => cell_of_row _ _ 1 _ _ _ (((below_new w1 o).block w.heap.size (Array.getElem?_eq_some_iff.1 hg1).1).trans hg1)
      have g2 : ∀ o, (w1.alloc o).cell? ⟨w.heap.size, 2, none⟩ = some (.int .i64 nm) := fun o => cell_of_row _ _ 2 _ _ _ (((below_new w1 o).block w.heap.size (Array.getElem?_eq_some_iff.1 hg1).1).trans hg1)
      have g3 : ∀ o, (w1.alloc o).cell? ⟨w.heap.size, 3, none⟩ = some (.int .i64 0) := fun o => cell_of_row _ _ 3 _ _ _ (((below_new w1 o).block w.heap.size (Array.getElem?_eq_some_iff.1 hg1).1).trans hg1)
      have g4 : ∀ o, (w1.alloc o).cell? ⟨w.heap.size, 4, none⟩ = some (.int .i64 0) := fun o => cell_of_row _ _ 4 _ _ _ (((below_new w1 o).block w.heap.size (Array.getElem?_eq_some_iff.1 hg1).1).trans hg1)
      have g5 : ∀ o, (w1.alloc o).cell? ⟨w.heap.size, 5, none⟩ = some (.int .i64 0) := fun o => cell_of_row _ _ 5 _ _ _ (((below_new w1 o).block w.heap.size (Array.getElem?_eq_some_iff.1 hg1).1).trans hg1)
      go_wp2_with fail
      all_goals (go_ret; refine ⟨?_, below_in hb1 _⟩; simp_all)
    · have hn1 : ((n : Int) == (l.length : Int)) = false := by rw [beq_eq_false_iff_ne]; omega
      go_enter Tryd.func25, Tryd.ntmps25
      go_wp2_with fail
      refine (c _).mono ?_
      rintro e w1 ⟨rfl, hb1⟩
      go_wp2_with fail
      go_ret
      refine ⟨?_, below_in hb1 _⟩
      rw [show (n == l.length) = false from beq_eq_false_iff_ne.2 hn]
      rfl
end Go.Proofs.YtinbbcojilogeaaDoor.Tok
