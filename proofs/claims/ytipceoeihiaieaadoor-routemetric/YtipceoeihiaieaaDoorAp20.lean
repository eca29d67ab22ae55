/- Layer 20: Check, num, alive. -/
import Derived.Test.YtipceoeihiaieaaDoorAo20
import Derived.Test.YtipceoeihiaieaaDoorKn20
namespace Go.Proofs.YtipceoeihiaieaaDoor.Rou
open Go.RowKit Go.Proofs.YtipceoeihiaieaaDoor.Ev

set_option maxRecDepth 100000 in
theorem rNumZ (z : Int) (w : World) : Calls Tryd.prog 5 #[.int .i64 z] w fun e w' => e = .returned (.int .i64 z) ∧ w' = w := by
  go_enter Tryd.func5, Tryd.ntmps5
  go_wp2_with fail
  go_ret
  exact ⟨rfl, rfl⟩
/-- OK, or no map: the number tells. -/
def CkP (e : Ending) (X : Prop) : Prop := (e = .returned (.int .i64 0) ∧ X) ∨ (e = .returned (.int .i64 200) ∧ ¬ X)
set_option maxRecDepth 100000 in
set_option maxHeartbeats 1000000 in
theorem rCheck (N : Int) (ps : List Pr) (ao : Option Addr) (k : Nat) (hl : ps.length ≤ 1000000000000000) (w : World) (hA : PA w ao ps) : Calls Tryd.prog 16 #[.agg #[.int .i64 N, .slice ao ps.length k]] w fun e w' => CkP e (RtP N ps) ∧ Below w.heap.size w w' := by
  have HBM : Hid (Below w.heap.size w (w.alloc (.cells #[.int .i64 N, .slice ao ps.length k] 24))) := hide (bnew w (.cells #[.int .i64 N, .slice ao ps.length k] 24))
  obtain ⟨x0, x1, x2⟩ := m_cells (heap_alloc_new w (.cells #[.int .i64 N, .slice ao ps.length k] 24))
  have cc := rChart N ps ao k hl (w.alloc (.cells #[.int .i64 N, .slice ao ps.length k] 24)) (hA.below HBM.out)
  replace cc := cc.mono (R' := fun e w' => (∃ p z, e = .returned (.tuple #[p, .int .i64 z]) ∧ ((z = 0 ∧ RtP N ps) ∨ (z = 200 ∧ ¬ RtP N ps))) ∧ Below (w.alloc (.cells #[.int .i64 N, .slice ao ps.length k] 24)).heap.size (w.alloc (.cells #[.int .i64 N, .slice ao ps.length k] 24)) w') (fun e w' h => ⟨by
    rcases h.1 with ⟨h1, C, _, _, _, h2, -⟩ | ⟨h1, h2⟩
    · exact ⟨_, 0, h2, .inl ⟨rfl, h1⟩⟩
    · exact ⟨_, 200, h2, .inr ⟨rfl, h1⟩⟩, h.2⟩)
  generalize ps.length = n at *
  clear hA
  go_enter Tryd.func16, Tryd.ntmps16
  go_wp2_with (go_at_call 8; (with_reducible refine Calls.mono cc ?_); rintro e w1 ⟨⟨p, z, rfl, hz⟩, hb1⟩; have HZ := hide hz; have HB1 := hide (bkp HBM.out hb1); clear hz hb1 cc)
  go_ret
  refine ⟨?_, HB1.out⟩
  rcases HZ.out with ⟨rfl, h⟩ | ⟨rfl, h⟩
  · exact .inl ⟨rfl, h⟩
  · exact .inr ⟨rfl, h⟩
theorem cell_lt {W : World} {a : Addr} {v : Value} (h : W.cell? a = some v) : a.block < W.heap.size := by
  rcases Nat.lt_or_ge a.block W.heap.size with h1 | h1
  · exact h1
  · exfalso
    unfold World.cell? at h
    rw [Array.getElem?_eq_none h1] at h
    simp at h
/-- The table of the gates, as alive reads it. -/
def GT (w : World) : Prop := ∀ (i : Nat) v, Nob.lv0[i]? = some v → w.cell? ⟨0, i, none⟩ = some v
theorem GT.below {w w' : World} (h : GT w) (hb : Below w.heap.size w w') : GT w' := fun i v hi => cellB (h i v hi) hb
theorem root_wr : ∀ b, b ≤ 0 → Nob.root0.wr.testBit b = false := by
  have h : (List.range 1).all (fun b => !Nob.root0.wr.testBit b) = true := by decide +kernel
  intro b hb
  have := List.all_eq_true.1 h b (by simp; omega)
  simpa using this
theorem rAlive (w : World) (h : GT w) : Calls Tryd.prog 6 #[] w fun e w' => e = .returned (.bool true) ∧ Below w.heap.size w w' := by
  have h6 : 0 < w.heap.size := cell_lt (h 0 _ rfl)
  refine SumOk.calls Nob.root0_ok rfl rfl rfl (fun b hb => ?_) (fun b vs hm i v hi => ?_)
  · have hb : b = 0 := by
      simp only [Nob.GL, Nat.beq_eq] at hb
      exact hb
    subst hb
    refine ⟨?_, root_wr 0 (Nat.le_refl _), h6⟩
    change 0 < 1000
    omega
  · change (b, Blk.ro vs) ∈ [(0, Blk.ro Nob.lv0)] at hm
    simp only [List.mem_cons, Prod.mk.injEq, Blk.ro.injEq, List.not_mem_nil, or_false] at hm
    obtain ⟨rfl, rfl⟩ := hm
    exact h i v hi
end Go.Proofs.YtipceoeihiaieaaDoor.Rou
