/- Package gate: placed. -/
import Derived.Test.YtnhdgellckcnbaaDoorAr
namespace Go.Proofs.YtnhdgellckcnbaaDoor.Gt
open Go.RowKit Go.Proofs.YtnhdgellckcnbaaDoor.Oct Go.Proofs.YtnhdgellckcnbaaDoor.Dy

theorem make_i (n : Nat) (hn : n ≤ 4096) (w : World) : (Instr.makeSlice 42 (.int .i64 (n : Int)) (.int .i64 (n : Int))).run Tryd.prog w = .ok (.slice (some ⟨w.heap.size, 0, none⟩) n n) (w.alloc (.cells (madeCells #[.int .i64 0] n) 3)) :=
  run_make_row' 42 3 (.int .i64 0) 8 Tryd.underlying42 infoI rfl .i64 .i64 n (by omega) (by omega) w
/-- Where a gate's qubits stand among all. -/
def posP (la lq : List Int) : List Nat := lq.map fun q => (ixP la q).getD 0
/-- Places of which the first ones are laid. -/
def atF (l : List Nat) (i j : Nat) : Value := if j < i then .int .i64 ((l.getD j 0 : Nat) : Int) else .int .i64 0
theorem at_succ (l : List Nat) (i : Nat) : (fun j => if j = i then Value.int .i64 ((l.getD i 0 : Nat) : Int) else atF l i j) = atF l (i + 1) := by
  funext j
  unfold atF
  by_cases h : j = i
  · rw [if_pos h, if_pos (by omega), h]
  · rw [if_neg h]
    by_cases h2 : j < i
    · rw [if_pos h2, if_pos (by omega)]
    · rw [if_neg h2, if_neg (by omega)]
/-- What placed answers: its closure, with where its two variables lie. -/
def PPost (k : Nat) (la lq : List Int) (w : World) (e : Ending) (w' : World) : Prop :=
  ∃ ba bm gat gm, e = .returned (.func (.func 72) #[] #[.pointer (some ⟨ba, 0, none⟩), .pointer (some ⟨bm, 0, none⟩)]) ∧ w'.cell? ⟨ba, 0, none⟩ = some (.slice (some ⟨gat, 0, none⟩) lq.length lq.length) ∧ Nr w' gat (posP la lq) ∧ Mt w' bm (rowsN k) (rowsN k * rowsN k) (mz k) (-1) gm (mbs k) ∧ Below w.heap.size w w'
set_option maxRecDepth 100000 in
set_option maxHeartbeats 2000000 in
theorem gPlaced (k : Nat) (h1 : 1 ≤ k) (h2 : k ≤ 20) (ao ao' : Option Addr) (c c' : Nat) (lq la : List Int) (hlq : lq.length ≤ 4096) (hla : la.length ≤ 4096) (hin : ∀ q ∈ lq, q ∈ la) (w : World) (hT : Tb w) (hD : Td w) (hQ : Ns w ao lq) (hA : Ns w ao' la) :
    Calls Tryd.prog 53 #[.int .i64 (k : Int), .slice ao lq.length c, .slice ao' la.length c'] w (PPost k la lq w) := by
  have cM := gMat k h1 h2 w hT hD
  have hmk := make_i lq.length hlq
  have cI := fun v w hN => sIndex ao' c' la v (by omega) w hN
  have hle := rowsN_le k
  have HIN := hide hin
  have HQ := hide hQ
  have HA := hide hA
  unfold MPost at cM
  have HPL : Hid ((posP la lq).length = lq.length) := hide (by unfold posP; simp)
  unfold PPost
  obtain ⟨m, hm⟩ : ∃ m, lq.length = m := ⟨_, rfl⟩
  have HM := hide hm
  rw [hm] at hmk hlq ⊢
  generalize la.length = La at *
  clear hin hQ hA hT hD hm
  go_enter Tryd.func53, Tryd.ntmps53
  go_wp2_with fail
  refine cM.mono ?_
  rintro e w1 ⟨gm, rfl, hRm, hgm, q1⟩
  clear cM
  generalize hOM : (Obj.cells #[.int .i64 (rowsN k : Int), .slice (some ⟨gm, 0, none⟩) (rowsN k * rowsN k) (rowsN k * rowsN k)] 25) = OM at *
  have h0 := heap3_0 w1 OM (.cells (madeCells #[.int .i64 0] m) 3) (.cells #[.slice (some ⟨w1.heap.size + 1, 0, none⟩) m m] 42)
  have h3 := heap3_2 w1 OM (.cells (madeCells #[.int .i64 0] m) 3) (.cells #[.slice (some ⟨w1.heap.size + 1, 0, none⟩) m m] 42)
  have hR0 := (rk_made (w1.alloc OM) m 3 (.int .i64 0)).below (below_new _ (.cells #[.slice (some ⟨w1.heap.size + 1, 0, none⟩) m m] 42))
  rw [size_alloc w1] at hR0
  have b0 : Below w1.heap.size w1 (((w1.alloc OM).alloc (.cells (madeCells #[.int .i64 0] m) 3)).alloc (.cells #[.slice (some ⟨w1.heap.size + 1, 0, none⟩) m m] 42)) := ((below_new w1 _).trans ((below_new _ _).mono (by simp))).trans ((below_new _ _).mono (by simp; omega))
  have hRm0 := hRm.below b0
  have hb0 := q1.trans (b0.mono q1.size)
  have hw1s := q1.size
  clear hRm b0
  subst hOM
  go_wp2_with fail
  generalize hW0 : ((w1.alloc (.cells #[.int .i64 (rowsN k : Int), .slice (some ⟨gm, 0, none⟩) (rowsN k * rowsN k) (rowsN k * rowsN k)] 25)).alloc (.cells (madeCells #[.int .i64 0] m) 3)).alloc (.cells #[.slice (some ⟨w1.heap.size + 1, 0, none⟩) m m] 42) = W0 at *
  clear hW0 hmk q1
  go_loopw [10, 11, 22] (fun _ _ vi wr => ∃ i : Nat, vi = .int .i64 (i : Int) ∧ i ≤ m ∧ Rk wr (w1.heap.size + 1) 3 m (atF (posP la lq) i) ∧ wr.heap[w1.heap.size]? = some (.cells #[.int .i64 (rowsN k : Int), .slice (some ⟨gm, 0, none⟩) (rowsN k * rowsN k) (rowsN k * rowsN k)] 25) ∧ wr.heap[w1.heap.size + 1 + 1]? = some (.cells #[.slice (some ⟨w1.heap.size + 1, 0, none⟩) m m] 42) ∧ Rk wr gm 34 (rowsN k * rowsN k) (fun j => cx (mbs k j)) ∧ Below w.heap.size w wr) (fun _ _ vi _ => m - (Go.RowKit.intOf vi).toNat)
  case atStart => exact ⟨0, rfl, by omega, hR0, h0, h3, hRm0, hb0⟩
  case round =>
    clear hR0 h0 h3 hRm0 hb0
    obtain ⟨i, rfl, hi, hR, h0, h3, hRm, hb⟩ := hrel
    by_cases h : i < m
    · have hd : decide ((i : Int) < (m : Int)) = true := decide_eq_true (by omega)
      have hlt : i < lq.length := by rw [HM.out]; exact h
      obtain ⟨z, hz⟩ : ∃ z, lq[i]? = some z := ⟨_, List.getElem?_eq_getElem hlt⟩
      obtain ⟨p, hp⟩ : ∃ p, ixP la z = some p := by
        cases e : ixP la z with
        | none => exact absurd (HIN.out z (List.mem_of_getElem? hz)) (ixP_none.1 e)
        | some p => exact ⟨p, rfl⟩
      have hpos : (posP la lq).getD i 0 = p := by
        unfold posP
        rw [List.getD_eq_getElem?_getD, List.getElem?_map, hz]
        simp [hp]
      obtain ⟨g, off, rfl, hcs⟩ := (HQ.out.below hb).resolve_left (fun e => by rw [e] at hz; simp at hz)
      have hcell := hcs i z hz
      have k3 := cell_of_row _ _ 0 _ _ _ h3
      simp only [List.getElem?_toArray, List.getElem?_cons_zero] at k3
      have cI1 := cI z (wr.drew) (HA.out.below hb.drew)
      rw [hp] at cI1
      have xf := hR.frozen i
      have xc := hR.cell i h
      have HS := hide (at_succ (posP la lq) i)
      rw [hpos] at HS
      have hS := Rk.set (w := wr.drew) hR i (.int .i64 (p : Int))
      rw [HS.out] at hS
      have h02 := (Below.heap_setCell wr.drew ⟨w1.heap.size + 1, i, none⟩ (.int .i64 (p : Int)) w1.heap.size (by simp)).trans h0
      have h32 := (Below.heap_setCell wr.drew ⟨w1.heap.size + 1, i, none⟩ (.int .i64 (p : Int)) (w1.heap.size + 1 + 1) (by simp)).trans h3
      have hRm2 := Rk.far (w := wr.drew) hRm (a := ⟨w1.heap.size + 1, i, none⟩) (by show gm ≠ w1.heap.size + 1; intro e; obtain ⟨c1, a1, _⟩ := hRm; obtain ⟨c2, a2, _⟩ := hR; rw [e, a2] at a1; cases a1) (.int .i64 (p : Int))
      have hb2 := hb.drew.setCell (p := ⟨w1.heap.size + 1, i, none⟩) (by simp; omega) (.int .i64 (p : Int))
      have H1 := hide hS
      have H2 := hide h02
      have H3 := hide h32
      have H4 := hide hRm2
      have H5 := hide hb2
      clear hS h02 h32 hRm2 hb2 HS hcs hz hp hpos hR h0 h3 hRm hb cI HQ HA HIN
      go_wp2_with fail
      go_region_with (first | (go_at_call 71; refine cI1.mono ?_; rintro e' w4 ⟨rfl, hw4⟩; obtain rfl := hw4.symm))
      all_goals
        go_wp2_with fail
        exact ⟨⟨i + 1, by go_num, by omega, H1.out, H2.out, H3.out, H4.out, H5.out⟩, by simp [Go.RowKit.intOf]; omega⟩
    · obtain rfl : i = m := by omega
      go_wp2_with fail
      go_ret
      refine ⟨w1.heap.size + 1 + 1, w1.heap.size, w1.heap.size + 1, gm, rfl, cell_of_row _ _ 0 _ _ _ h3, ?_, ⟨cell_of_row _ _ 0 _ _ _ h0, cell_of_row _ _ 1 _ _ _ h0, hRm, (mv_kind h2 hRm).val, (mv_kind h2 hRm).le⟩, hb⟩
      unfold Nr
      rw [HPL.out, HM.out]
      exact hR.congr (fun j hj => if_pos hj)
end Go.Proofs.YtnhdgellckcnbaaDoor.Gt
