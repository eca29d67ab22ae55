import Derived.Test.YtkbodljmkhnebabGreatDoorJe724614f
import Derived.Test.YtkbodljmkhnebabGreatDoorJb7ca7e14
import Derived.Test.YtkbodljmkhnebabGreatDoorJ1b48f478
set_option maxRecDepth 100000
set_option maxHeartbeats 4000000
namespace Go.Proofs.YtkbodljmkhnebabGreatDoor.Cir
open Go.RowKit Go.Shelf Go.Proofs.YtkbodljmkhnebabGreatDoor.Oct Go.Proofs.YtkbodljmkhnebabGreatDoor.Tok Go.Proofs.YtkbodljmkhnebabGreatDoor.Gt
theorem eEmbed_80 (c : Circ) (ao : Option Addr) (k : Nat) (qs bs : List Int) (aq ab : Option Addr) (cq cb : Nat) (n m : Int) (hk : (chkC c).2 ≠ 0) (hlq : qs.length <= 1000000000000000) (hlb : bs.length <= 1000000000000000) (w : World) (hC : Ci w c ao k) (hNq : Ns w aq qs) (hNb : Ns w ab bs) : Calls Tryz.prog 12 #[cV c ao k, .slice aq qs.length cq, .slice ab bs.length cb, .int .i64 n, .int .i64 m] w fun e w' => e = .returned (.tuple #[.agg #[.int .i64 0, .int .i64 0, .slice none 0 0], .int .i64 80]) /\ Below w.heap.size w w' := by
  have c1 := fun V (h : Below w.heap.size w V) => eMay c ao k V (hC.below h)
  have c3 := fun V (h : Below w.heap.size w V) => eUnlike aq cq qs n hlq V (hNq.below h)
  have c4 := fun V (h : Below w.heap.size w V) => eUnlike ab cb bs m hlb V (hNb.below h)
  have f1 : ((chkC c).2 == 0) = false := by simpa using hk
  rw [f1] at c1
  obtain ⟨q0, b0, l0⟩ := c
  unfold cV at *
  simp only at *
  obtain ⟨n0, hn0⟩ : ∃ n0, l0.length = n0 := ⟨_, rfl⟩
  obtain ⟨nq, hnq⟩ : ∃ nq, qs.length = nq := ⟨_, rfl⟩
  obtain ⟨nb, hnb⟩ : ∃ nb, bs.length = nb := ⟨_, rfl⟩
  have HN0 := hide hn0
  have HNQ := hide hnq
  have HNB := hide hnb
  simp only [hn0, hnq, hnb] at *
  clear hn0 hnq hnb
  have HW : Hid (Below w.heap.size w ((w.alloc (.cells #[.int .i64 q0, .int .i64 b0, .slice ao n0 k] 24)).alloc (.cells #[.int .i64 0, .int .i64 0, .slice none 0 0] 24)) /\ ((w.alloc (.cells #[.int .i64 q0, .int .i64 b0, .slice ao n0 k] 24)).alloc (.cells #[.int .i64 0, .int .i64 0, .slice none 0 0] 24)).heap[w.heap.size]? = some (.cells #[.int .i64 q0, .int .i64 b0, .slice ao n0 k] 24) /\ ((w.alloc (.cells #[.int .i64 q0, .int .i64 b0, .slice ao n0 k] 24)).alloc (.cells #[.int .i64 0, .int .i64 0, .slice none 0 0] 24)).heap[w.heap.size + 1]? = some (.cells #[.int .i64 0, .int .i64 0, .slice none 0 0] 24)) := hide (by
    obtain ⟨m1, m2⟩ := may_keep (w := w) (Below.refl ((w.alloc (.cells #[.int .i64 q0, .int .i64 b0, .slice ao n0 k] 24)).alloc (.cells #[.int .i64 0, .int .i64 0, .slice none 0 0] 24)).heap.size ((w.alloc (.cells #[.int .i64 q0, .int .i64 b0, .slice ao n0 k] 24)).alloc (.cells #[.int .i64 0, .int .i64 0, .slice none 0 0] 24)))
    exact ⟨(bnew _ _).trans ((bnew _ _).mono (by simp)), m1, m2⟩)
  generalize hW0 : ((w.alloc (.cells #[.int .i64 q0, .int .i64 b0, .slice ao n0 k] 24)).alloc (.cells #[.int .i64 0, .int .i64 0, .slice none 0 0] 24)) = W0 at HW
  have HZ := hide hW0
  have HP : Hid (∀ V, Below W0.heap.size W0 V -> Below w.heap.size w V /\ V.heap[w.heap.size]? = some (.cells #[.int .i64 q0, .int .i64 b0, .slice ao n0 k] 24) /\ V.heap[w.heap.size + 1]? = some (.cells #[.int .i64 0, .int .i64 0, .slice none 0 0] 24)) := hide (fun V h => ⟨HW.out.1.trans (h.mono HW.out.1.size), (h.block _ (Array.getElem?_eq_some_iff.1 HW.out.2.1).1).trans HW.out.2.1, (h.block _ (Array.getElem?_eq_some_iff.1 HW.out.2.2).1).trans HW.out.2.2⟩)
  clear hW0
  clear hk f1 hC hNq hNb
  go_enter Tryz.func12, Tryz.ntmps12
  go_wp2_with fail
  rw [HZ.out]
  go_wp2_with (first
    | (go_at_call 24; (with_reducible refine Calls.mono (c1 _ HW.out.1) ?_); rintro e w1 ⟨rfl, hb1⟩; have hbW := hb1; obtain ⟨p1, m1, m2⟩ := HP.out w1 hb1; obtain ⟨x0, x1, x2, x3⟩ := def_cells m1; obtain ⟨u0, u1, u2, u3⟩ := def_cells m2; have uf : ∀ i, w1.frozen? ⟨w.heap.size + 1, i, none⟩ = false := fun i => (by simp [World.frozen?, m2]))
    | (go_at_call_of 31 (Value.slice aq nq cq); (with_reducible refine Calls.mono (c3 _ p1) ?_); rintro e w2 ⟨rfl, hb2⟩; have hbW2 := Below.trans hbW (hb2.mono hbW.size); obtain ⟨p2, m1, m2⟩ := HP.out w2 hbW2; obtain ⟨x0, x1, x2, x3⟩ := def_cells m1; obtain ⟨u0, u1, u2, u3⟩ := def_cells m2; have uf : ∀ i, w2.frozen? ⟨w.heap.size + 1, i, none⟩ = false := fun i => (by simp [World.frozen?, m2]))
    | (go_at_call 31; (with_reducible refine Calls.mono (c4 _ p2) ?_); rintro e w3 ⟨rfl, hb3⟩; have hbW3 := Below.trans hbW2 (hb3.mono hbW2.size); obtain ⟨p3, m1, m2⟩ := HP.out w3 hbW3; obtain ⟨x0, x1, x2, x3⟩ := def_cells m1; obtain ⟨u0, u1, u2, u3⟩ := def_cells m2; have uf : ∀ i, w3.frozen? ⟨w.heap.size + 1, i, none⟩ = false := fun i => (by simp [World.frozen?, m2])))
  rw [c3_set _ _ _ _ _ _ _ _ _ m2]
  refine bodyPost_ret (results_ct rfl _ _ (w.heap.size + 1) _ #[.int .i64 0, .int .i64 0, .slice none 0 0] _ _ rfl (setRow_heap _ _ _ _ _ _ m2) Tryz.underlying24 rfl (by exact infoCi)) rfl ?_
  exact ⟨rfl, Below.row p1 _ _ (by omega)⟩
theorem eEmbed_2 (c : Circ) (ao : Option Addr) (k : Nat) (qs bs : List Int) (aq ab : Option Addr) (cq cb : Nat) (n m : Int) (hk : (chkC c).2 = 0) (hf : ¬ fitP c qs bs n m) (hlq : qs.length <= 1000000000000000) (hlb : bs.length <= 1000000000000000) (w : World) (hC : Ci w c ao k) (hNq : Ns w aq qs) (hNb : Ns w ab bs) : Calls Tryz.prog 12 #[cV c ao k, .slice aq qs.length cq, .slice ab bs.length cb, .int .i64 n, .int .i64 m] w fun e w' => e = .returned (.tuple #[.agg #[.int .i64 0, .int .i64 0, .slice none 0 0], .int .i64 2]) /\ Below w.heap.size w w' := by
  have c1 := fun V (h : Below w.heap.size w V) => eMay c ao k V (hC.below h)
  have c3 := fun V (h : Below w.heap.size w V) => eUnlike aq cq qs n hlq V (hNq.below h)
  have c4 := fun V (h : Below w.heap.size w V) => eUnlike ab cb bs m hlb V (hNb.below h)
  rw [hk] at c1
  simp only [beq_self_eq_true] at c1
  unfold fitP cntP wiP at hf
  generalize apaP qs n = f4 at *
  generalize apaP bs m = f5 at *
  obtain ⟨q0, b0, l0⟩ := c
  unfold cV at *
  simp only at *
  obtain ⟨n0, hn0⟩ : ∃ n0, l0.length = n0 := ⟨_, rfl⟩
  obtain ⟨nq, hnq⟩ : ∃ nq, qs.length = nq := ⟨_, rfl⟩
  obtain ⟨nb, hnb⟩ : ∃ nb, bs.length = nb := ⟨_, rfl⟩
  have HN0 := hide hn0
  have HNQ := hide hnq
  have HNB := hide hnb
  simp only [hn0, hnq, hnb] at *
  clear hn0 hnq hnb
  have HW : Hid (Below w.heap.size w ((w.alloc (.cells #[.int .i64 q0, .int .i64 b0, .slice ao n0 k] 24)).alloc (.cells #[.int .i64 0, .int .i64 0, .slice none 0 0] 24)) /\ ((w.alloc (.cells #[.int .i64 q0, .int .i64 b0, .slice ao n0 k] 24)).alloc (.cells #[.int .i64 0, .int .i64 0, .slice none 0 0] 24)).heap[w.heap.size]? = some (.cells #[.int .i64 q0, .int .i64 b0, .slice ao n0 k] 24) /\ ((w.alloc (.cells #[.int .i64 q0, .int .i64 b0, .slice ao n0 k] 24)).alloc (.cells #[.int .i64 0, .int .i64 0, .slice none 0 0] 24)).heap[w.heap.size + 1]? = some (.cells #[.int .i64 0, .int .i64 0, .slice none 0 0] 24)) := hide (by
    obtain ⟨m1, m2⟩ := may_keep (w := w) (Below.refl ((w.alloc (.cells #[.int .i64 q0, .int .i64 b0, .slice ao n0 k] 24)).alloc (.cells #[.int .i64 0, .int .i64 0, .slice none 0 0] 24)).heap.size ((w.alloc (.cells #[.int .i64 q0, .int .i64 b0, .slice ao n0 k] 24)).alloc (.cells #[.int .i64 0, .int .i64 0, .slice none 0 0] 24)))
    exact ⟨(bnew _ _).trans ((bnew _ _).mono (by simp)), m1, m2⟩)
  generalize hW0 : ((w.alloc (.cells #[.int .i64 q0, .int .i64 b0, .slice ao n0 k] 24)).alloc (.cells #[.int .i64 0, .int .i64 0, .slice none 0 0] 24)) = W0 at HW
  have HZ := hide hW0
  have HP : Hid (∀ V, Below W0.heap.size W0 V -> Below w.heap.size w V /\ V.heap[w.heap.size]? = some (.cells #[.int .i64 q0, .int .i64 b0, .slice ao n0 k] 24) /\ V.heap[w.heap.size + 1]? = some (.cells #[.int .i64 0, .int .i64 0, .slice none 0 0] 24)) := hide (fun V h => ⟨HW.out.1.trans (h.mono HW.out.1.size), (h.block _ (Array.getElem?_eq_some_iff.1 HW.out.2.1).1).trans HW.out.2.1, (h.block _ (Array.getElem?_eq_some_iff.1 HW.out.2.2).1).trans HW.out.2.2⟩)
  clear hW0
  clear hk hC hNq hNb
  by_cases h1 : (nq : Int) = q0
  . have g1 : ((nq : Int) == q0) = true := by simpa using h1
    have g1' : ((nq : Int) != q0) = false := by simpa using h1
    by_cases h2 : (nb : Int) = b0
    . have g2 : ((nb : Int) == b0) = true := by simpa using h2
      have g2' : ((nb : Int) != b0) = false := by simpa using h2
      by_cases h3 : n < 0
      . have g3 : decide (n < 0) = true := decide_eq_true h3
        clear hf h1 h2
        go_enter Tryz.func12, Tryz.ntmps12
        go_wp2_with fail
        rw [HZ.out]
        go_wp2_with (first
          | (go_at_call 24; (with_reducible refine Calls.mono (c1 _ HW.out.1) ?_); rintro e w1 ⟨rfl, hb1⟩; have hbW := hb1; obtain ⟨p1, m1, m2⟩ := HP.out w1 hb1; obtain ⟨x0, x1, x2, x3⟩ := def_cells m1; obtain ⟨u0, u1, u2, u3⟩ := def_cells m2; have uf : ∀ i, w1.frozen? ⟨w.heap.size + 1, i, none⟩ = false := fun i => (by simp [World.frozen?, m2]))
          | (go_at_call_of 31 (Value.slice aq nq cq); (with_reducible refine Calls.mono (c3 _ p1) ?_); rintro e w2 ⟨rfl, hb2⟩; have hbW2 := Below.trans hbW (hb2.mono hbW.size); obtain ⟨p2, m1, m2⟩ := HP.out w2 hbW2; obtain ⟨x0, x1, x2, x3⟩ := def_cells m1; obtain ⟨u0, u1, u2, u3⟩ := def_cells m2; have uf : ∀ i, w2.frozen? ⟨w.heap.size + 1, i, none⟩ = false := fun i => (by simp [World.frozen?, m2]))
          | (go_at_call 31; (with_reducible refine Calls.mono (c4 _ p2) ?_); rintro e w3 ⟨rfl, hb3⟩; have hbW3 := Below.trans hbW2 (hb3.mono hbW2.size); obtain ⟨p3, m1, m2⟩ := HP.out w3 hbW3; obtain ⟨x0, x1, x2, x3⟩ := def_cells m1; obtain ⟨u0, u1, u2, u3⟩ := def_cells m2; have uf : ∀ i, w3.frozen? ⟨w.heap.size + 1, i, none⟩ = false := fun i => (by simp [World.frozen?, m2])))
        rw [c3_set _ _ _ _ _ _ _ _ _ m2]
        refine bodyPost_ret (results_ct rfl _ _ (w.heap.size + 1) _ #[.int .i64 0, .int .i64 0, .slice none 0 0] _ _ rfl (setRow_heap _ _ _ _ _ _ m2) Tryz.underlying24 rfl (by exact infoCi)) rfl ?_
        exact ⟨rfl, Below.row p1 _ _ (by omega)⟩
      . have g3 : decide (n < 0) = false := decide_eq_false h3
        by_cases h4 : 64 < n
        . have g4 : decide (n > 64) = true := decide_eq_true h4
          have g4' : decide (64 < n) = true := decide_eq_true h4
          clear hf h1 h2
          go_enter Tryz.func12, Tryz.ntmps12
          go_wp2_with fail
          rw [HZ.out]
          go_wp2_with (first
            | (go_at_call 24; (with_reducible refine Calls.mono (c1 _ HW.out.1) ?_); rintro e w1 ⟨rfl, hb1⟩; have hbW := hb1; obtain ⟨p1, m1, m2⟩ := HP.out w1 hb1; obtain ⟨x0, x1, x2, x3⟩ := def_cells m1; obtain ⟨u0, u1, u2, u3⟩ := def_cells m2; have uf : ∀ i, w1.frozen? ⟨w.heap.size + 1, i, none⟩ = false := fun i => (by simp [World.frozen?, m2]))
            | (go_at_call_of 31 (Value.slice aq nq cq); (with_reducible refine Calls.mono (c3 _ p1) ?_); rintro e w2 ⟨rfl, hb2⟩; have hbW2 := Below.trans hbW (hb2.mono hbW.size); obtain ⟨p2, m1, m2⟩ := HP.out w2 hbW2; obtain ⟨x0, x1, x2, x3⟩ := def_cells m1; obtain ⟨u0, u1, u2, u3⟩ := def_cells m2; have uf : ∀ i, w2.frozen? ⟨w.heap.size + 1, i, none⟩ = false := fun i => (by simp [World.frozen?, m2]))
            | (go_at_call 31; (with_reducible refine Calls.mono (c4 _ p2) ?_); rintro e w3 ⟨rfl, hb3⟩; have hbW3 := Below.trans hbW2 (hb3.mono hbW2.size); obtain ⟨p3, m1, m2⟩ := HP.out w3 hbW3; obtain ⟨x0, x1, x2, x3⟩ := def_cells m1; obtain ⟨u0, u1, u2, u3⟩ := def_cells m2; have uf : ∀ i, w3.frozen? ⟨w.heap.size + 1, i, none⟩ = false := fun i => (by simp [World.frozen?, m2])))
          rw [c3_set _ _ _ _ _ _ _ _ _ m2]
          refine bodyPost_ret (results_ct rfl _ _ (w.heap.size + 1) _ #[.int .i64 0, .int .i64 0, .slice none 0 0] _ _ rfl (setRow_heap _ _ _ _ _ _ m2) Tryz.underlying24 rfl (by exact infoCi)) rfl ?_
          exact ⟨rfl, Below.row p1 _ _ (by omega)⟩
        . have g4 : decide (n > 64) = false := decide_eq_false h4
          have g4' : decide (64 < n) = false := decide_eq_false h4
          by_cases h5 : m < 0
          . have g5 : decide (m < 0) = true := decide_eq_true h5
            clear hf h1 h2
            go_enter Tryz.func12, Tryz.ntmps12
            go_wp2_with fail
            rw [HZ.out]
            go_wp2_with (first
              | (go_at_call 24; (with_reducible refine Calls.mono (c1 _ HW.out.1) ?_); rintro e w1 ⟨rfl, hb1⟩; have hbW := hb1; obtain ⟨p1, m1, m2⟩ := HP.out w1 hb1; obtain ⟨x0, x1, x2, x3⟩ := def_cells m1; obtain ⟨u0, u1, u2, u3⟩ := def_cells m2; have uf : ∀ i, w1.frozen? ⟨w.heap.size + 1, i, none⟩ = false := fun i => (by simp [World.frozen?, m2]))
              | (go_at_call_of 31 (Value.slice aq nq cq); (with_reducible refine Calls.mono (c3 _ p1) ?_); rintro e w2 ⟨rfl, hb2⟩; have hbW2 := Below.trans hbW (hb2.mono hbW.size); obtain ⟨p2, m1, m2⟩ := HP.out w2 hbW2; obtain ⟨x0, x1, x2, x3⟩ := def_cells m1; obtain ⟨u0, u1, u2, u3⟩ := def_cells m2; have uf : ∀ i, w2.frozen? ⟨w.heap.size + 1, i, none⟩ = false := fun i => (by simp [World.frozen?, m2]))
              | (go_at_call 31; (with_reducible refine Calls.mono (c4 _ p2) ?_); rintro e w3 ⟨rfl, hb3⟩; have hbW3 := Below.trans hbW2 (hb3.mono hbW2.size); obtain ⟨p3, m1, m2⟩ := HP.out w3 hbW3; obtain ⟨x0, x1, x2, x3⟩ := def_cells m1; obtain ⟨u0, u1, u2, u3⟩ := def_cells m2; have uf : ∀ i, w3.frozen? ⟨w.heap.size + 1, i, none⟩ = false := fun i => (by simp [World.frozen?, m2])))
            rw [c3_set _ _ _ _ _ _ _ _ _ m2]
            refine bodyPost_ret (results_ct rfl _ _ (w.heap.size + 1) _ #[.int .i64 0, .int .i64 0, .slice none 0 0] _ _ rfl (setRow_heap _ _ _ _ _ _ m2) Tryz.underlying24 rfl (by exact infoCi)) rfl ?_
            exact ⟨rfl, Below.row p1 _ _ (by omega)⟩
          . have g5 : decide (m < 0) = false := decide_eq_false h5
            by_cases h6 : 64 < m
            . have g6 : decide (m > 64) = true := decide_eq_true h6
              have g6' : decide (64 < m) = true := decide_eq_true h6
              clear hf h1 h2
              go_enter Tryz.func12, Tryz.ntmps12
              go_wp2_with fail
              rw [HZ.out]
              go_wp2_with (first
                | (go_at_call 24; (with_reducible refine Calls.mono (c1 _ HW.out.1) ?_); rintro e w1 ⟨rfl, hb1⟩; have hbW := hb1; obtain ⟨p1, m1, m2⟩ := HP.out w1 hb1; obtain ⟨x0, x1, x2, x3⟩ := def_cells m1; obtain ⟨u0, u1, u2, u3⟩ := def_cells m2; have uf : ∀ i, w1.frozen? ⟨w.heap.size + 1, i, none⟩ = false := fun i => (by simp [World.frozen?, m2]))
                | (go_at_call_of 31 (Value.slice aq nq cq); (with_reducible refine Calls.mono (c3 _ p1) ?_); rintro e w2 ⟨rfl, hb2⟩; have hbW2 := Below.trans hbW (hb2.mono hbW.size); obtain ⟨p2, m1, m2⟩ := HP.out w2 hbW2; obtain ⟨x0, x1, x2, x3⟩ := def_cells m1; obtain ⟨u0, u1, u2, u3⟩ := def_cells m2; have uf : ∀ i, w2.frozen? ⟨w.heap.size + 1, i, none⟩ = false := fun i => (by simp [World.frozen?, m2]))
                | (go_at_call 31; (with_reducible refine Calls.mono (c4 _ p2) ?_); rintro e w3 ⟨rfl, hb3⟩; have hbW3 := Below.trans hbW2 (hb3.mono hbW2.size); obtain ⟨p3, m1, m2⟩ := HP.out w3 hbW3; obtain ⟨x0, x1, x2, x3⟩ := def_cells m1; obtain ⟨u0, u1, u2, u3⟩ := def_cells m2; have uf : ∀ i, w3.frozen? ⟨w.heap.size + 1, i, none⟩ = false := fun i => (by simp [World.frozen?, m2])))
              rw [c3_set _ _ _ _ _ _ _ _ _ m2]
              refine bodyPost_ret (results_ct rfl _ _ (w.heap.size + 1) _ #[.int .i64 0, .int .i64 0, .slice none 0 0] _ _ rfl (setRow_heap _ _ _ _ _ _ m2) Tryz.underlying24 rfl (by exact infoCi)) rfl ?_
              exact ⟨rfl, Below.row p1 _ _ (by omega)⟩
            . have g6 : decide (m > 64) = false := decide_eq_false h6
              have g6' : decide (64 < m) = false := decide_eq_false h6
              have HF : Hid (f4 = false ∨ (f4 = true /\ f5 = false)) := hide (by
                have e1 : (decide (0 <= n) && decide (n < 65) && (decide (0 <= m) && decide (m < 65))) = true := by simp; omega
                cases f4 <;> cases f5 <;> simp_all)
              clear hf h1 h2
              rcases HF.out with rfl | ⟨rfl, rfl⟩
              . clear HF
                go_enter Tryz.func12, Tryz.ntmps12
                go_wp2_with fail
                rw [HZ.out]
                go_wp2_with (first
                  | (go_at_call 24; (with_reducible refine Calls.mono (c1 _ HW.out.1) ?_); rintro e w1 ⟨rfl, hb1⟩; have hbW := hb1; obtain ⟨p1, m1, m2⟩ := HP.out w1 hb1; obtain ⟨x0, x1, x2, x3⟩ := def_cells m1; obtain ⟨u0, u1, u2, u3⟩ := def_cells m2; have uf : ∀ i, w1.frozen? ⟨w.heap.size + 1, i, none⟩ = false := fun i => (by simp [World.frozen?, m2]))
                  | (go_at_call_of 31 (Value.slice aq nq cq); (with_reducible refine Calls.mono (c3 _ p1) ?_); rintro e w2 ⟨rfl, hb2⟩; have hbW2 := Below.trans hbW (hb2.mono hbW.size); obtain ⟨p2, m1, m2⟩ := HP.out w2 hbW2; obtain ⟨x0, x1, x2, x3⟩ := def_cells m1; obtain ⟨u0, u1, u2, u3⟩ := def_cells m2; have uf : ∀ i, w2.frozen? ⟨w.heap.size + 1, i, none⟩ = false := fun i => (by simp [World.frozen?, m2]))
                  | (go_at_call 31; (with_reducible refine Calls.mono (c4 _ p2) ?_); rintro e w3 ⟨rfl, hb3⟩; have hbW3 := Below.trans hbW2 (hb3.mono hbW2.size); obtain ⟨p3, m1, m2⟩ := HP.out w3 hbW3; obtain ⟨x0, x1, x2, x3⟩ := def_cells m1; obtain ⟨u0, u1, u2, u3⟩ := def_cells m2; have uf : ∀ i, w3.frozen? ⟨w.heap.size + 1, i, none⟩ = false := fun i => (by simp [World.frozen?, m2])))
                rw [c3_set _ _ _ _ _ _ _ _ _ m2]
                refine bodyPost_ret (results_ct rfl _ _ (w.heap.size + 1) _ #[.int .i64 0, .int .i64 0, .slice none 0 0] _ _ rfl (setRow_heap _ _ _ _ _ _ m2) Tryz.underlying24 rfl (by exact infoCi)) rfl ?_
                exact ⟨rfl, Below.row p2 _ _ (by omega)⟩
              . clear HF
                go_enter Tryz.func12, Tryz.ntmps12
                go_wp2_with fail
                rw [HZ.out]
                go_wp2_with (first
                  | (go_at_call 24; (with_reducible refine Calls.mono (c1 _ HW.out.1) ?_); rintro e w1 ⟨rfl, hb1⟩; have hbW := hb1; obtain ⟨p1, m1, m2⟩ := HP.out w1 hb1; obtain ⟨x0, x1, x2, x3⟩ := def_cells m1; obtain ⟨u0, u1, u2, u3⟩ := def_cells m2; have uf : ∀ i, w1.frozen? ⟨w.heap.size + 1, i, none⟩ = false := fun i => (by simp [World.frozen?, m2]))
                  | (go_at_call_of 31 (Value.slice aq nq cq); (with_reducible refine Calls.mono (c3 _ p1) ?_); rintro e w2 ⟨rfl, hb2⟩; have hbW2 := Below.trans hbW (hb2.mono hbW.size); obtain ⟨p2, m1, m2⟩ := HP.out w2 hbW2; obtain ⟨x0, x1, x2, x3⟩ := def_cells m1; obtain ⟨u0, u1, u2, u3⟩ := def_cells m2; have uf : ∀ i, w2.frozen? ⟨w.heap.size + 1, i, none⟩ = false := fun i => (by simp [World.frozen?, m2]))
                  | (go_at_call 31; (with_reducible refine Calls.mono (c4 _ p2) ?_); rintro e w3 ⟨rfl, hb3⟩; have hbW3 := Below.trans hbW2 (hb3.mono hbW2.size); obtain ⟨p3, m1, m2⟩ := HP.out w3 hbW3; obtain ⟨x0, x1, x2, x3⟩ := def_cells m1; obtain ⟨u0, u1, u2, u3⟩ := def_cells m2; have uf : ∀ i, w3.frozen? ⟨w.heap.size + 1, i, none⟩ = false := fun i => (by simp [World.frozen?, m2])))
                rw [c3_set _ _ _ _ _ _ _ _ _ m2]
                refine bodyPost_ret (results_ct rfl _ _ (w.heap.size + 1) _ #[.int .i64 0, .int .i64 0, .slice none 0 0] _ _ rfl (setRow_heap _ _ _ _ _ _ m2) Tryz.underlying24 rfl (by exact infoCi)) rfl ?_
                exact ⟨rfl, Below.row p3 _ _ (by omega)⟩
    . have g2 : ((nb : Int) == b0) = false := by simpa using h2
      have g2' : ((nb : Int) != b0) = true := by simpa using h2
      clear hf h1 h2
      go_enter Tryz.func12, Tryz.ntmps12
      go_wp2_with fail
      rw [HZ.out]
      go_wp2_with (first
        | (go_at_call 24; (with_reducible refine Calls.mono (c1 _ HW.out.1) ?_); rintro e w1 ⟨rfl, hb1⟩; have hbW := hb1; obtain ⟨p1, m1, m2⟩ := HP.out w1 hb1; obtain ⟨x0, x1, x2, x3⟩ := def_cells m1; obtain ⟨u0, u1, u2, u3⟩ := def_cells m2; have uf : ∀ i, w1.frozen? ⟨w.heap.size + 1, i, none⟩ = false := fun i => (by simp [World.frozen?, m2]))
        | (go_at_call_of 31 (Value.slice aq nq cq); (with_reducible refine Calls.mono (c3 _ p1) ?_); rintro e w2 ⟨rfl, hb2⟩; have hbW2 := Below.trans hbW (hb2.mono hbW.size); obtain ⟨p2, m1, m2⟩ := HP.out w2 hbW2; obtain ⟨x0, x1, x2, x3⟩ := def_cells m1; obtain ⟨u0, u1, u2, u3⟩ := def_cells m2; have uf : ∀ i, w2.frozen? ⟨w.heap.size + 1, i, none⟩ = false := fun i => (by simp [World.frozen?, m2]))
        | (go_at_call 31; (with_reducible refine Calls.mono (c4 _ p2) ?_); rintro e w3 ⟨rfl, hb3⟩; have hbW3 := Below.trans hbW2 (hb3.mono hbW2.size); obtain ⟨p3, m1, m2⟩ := HP.out w3 hbW3; obtain ⟨x0, x1, x2, x3⟩ := def_cells m1; obtain ⟨u0, u1, u2, u3⟩ := def_cells m2; have uf : ∀ i, w3.frozen? ⟨w.heap.size + 1, i, none⟩ = false := fun i => (by simp [World.frozen?, m2])))
      rw [c3_set _ _ _ _ _ _ _ _ _ m2]
      refine bodyPost_ret (results_ct rfl _ _ (w.heap.size + 1) _ #[.int .i64 0, .int .i64 0, .slice none 0 0] _ _ rfl (setRow_heap _ _ _ _ _ _ m2) Tryz.underlying24 rfl (by exact infoCi)) rfl ?_
      exact ⟨rfl, Below.row p1 _ _ (by omega)⟩
  . have g1 : ((nq : Int) == q0) = false := by simpa using h1
    have g1' : ((nq : Int) != q0) = true := by simpa using h1
    clear hf h1
    go_enter Tryz.func12, Tryz.ntmps12
    go_wp2_with fail
    rw [HZ.out]
    go_wp2_with (first
      | (go_at_call 24; (with_reducible refine Calls.mono (c1 _ HW.out.1) ?_); rintro e w1 ⟨rfl, hb1⟩; have hbW := hb1; obtain ⟨p1, m1, m2⟩ := HP.out w1 hb1; obtain ⟨x0, x1, x2, x3⟩ := def_cells m1; obtain ⟨u0, u1, u2, u3⟩ := def_cells m2; have uf : ∀ i, w1.frozen? ⟨w.heap.size + 1, i, none⟩ = false := fun i => (by simp [World.frozen?, m2]))
      | (go_at_call_of 31 (Value.slice aq nq cq); (with_reducible refine Calls.mono (c3 _ p1) ?_); rintro e w2 ⟨rfl, hb2⟩; have hbW2 := Below.trans hbW (hb2.mono hbW.size); obtain ⟨p2, m1, m2⟩ := HP.out w2 hbW2; obtain ⟨x0, x1, x2, x3⟩ := def_cells m1; obtain ⟨u0, u1, u2, u3⟩ := def_cells m2; have uf : ∀ i, w2.frozen? ⟨w.heap.size + 1, i, none⟩ = false := fun i => (by simp [World.frozen?, m2]))
      | (go_at_call 31; (with_reducible refine Calls.mono (c4 _ p2) ?_); rintro e w3 ⟨rfl, hb3⟩; have hbW3 := Below.trans hbW2 (hb3.mono hbW2.size); obtain ⟨p3, m1, m2⟩ := HP.out w3 hbW3; obtain ⟨x0, x1, x2, x3⟩ := def_cells m1; obtain ⟨u0, u1, u2, u3⟩ := def_cells m2; have uf : ∀ i, w3.frozen? ⟨w.heap.size + 1, i, none⟩ = false := fun i => (by simp [World.frozen?, m2])))
    rw [c3_set _ _ _ _ _ _ _ _ _ m2]
    refine bodyPost_ret (results_ct rfl _ _ (w.heap.size + 1) _ #[.int .i64 0, .int .i64 0, .slice none 0 0] _ _ rfl (setRow_heap _ _ _ _ _ _ m2) Tryz.underlying24 rfl (by exact infoCi)) rfl ?_
    exact ⟨rfl, Below.row p1 _ _ (by omega)⟩
theorem OpsOwn.off {w : World} {B g n c : Nat} {l : List COp} (h : OpsOwn w B (some ⟨g, 0, none⟩) n c l) {i : Nat} {o : COp} (hi : l[i]? = some o) {x : Nat} {cs : Array Value} {fr : Nat × Nat} (hx : w.heap[x]? = some (.cells cs 24 fr)) : x ≠ g /\ ∀ gr cr, w.cell? ⟨g, i * 6 + 2, none⟩ = some (.slice (some ⟨gr, 0, none⟩) o.qs.length cr) -> x ≠ gr := by
  obtain ⟨xs, h1, h2, h3, h4, -⟩ := h
  rw [h2, List.getElem?_map] at hi
  obtain ⟨y, hy, rfl⟩ := Option.map_eq_some_iff.1 hi
  obtain ⟨ao, cr, e, hrow⟩ := h4 y (List.mem_of_getElem? hy)
  refine ⟨fun e' => ?_, fun gr cr' hc e' => ?_⟩
  . subst e'
    exact own_ne h3 hx (by decide) rfl
  . rw [own_at h3 _ _ (opC_at xs i y hy 2 y.2 rfl), e] at hc
    simp only [Option.some.injEq, Value.slice.injEq] at hc
    subst e'
    exact own_ne hrow hx (by decide) (by rw [hc.1]; rfl)
theorem c2_set (w : World) (g : Nat) (a b c a' b' : Value) (t : TypeId) (h : w.heap[g]? = some (.cells #[a, b, c] t (0, 0))) : (w.setCell ⟨g, 0, none⟩ a').setCell ⟨g, 1, none⟩ b' = w.setRow g #[a', b', c] := by
  rw [setCell_eq_setRow w g 0 _ t _ _ h, setCell_eq_setRow _ g 1 _ t _ _ (setRow_heap w g _ _ t _ h), setRow_setRow]
  rfl
theorem eEmbed_ok (c : Circ) (ao : Option Addr) (k : Nat) (qs bs : List Int) (aq ab : Option Addr) (cq cb : Nat) (n m : Int) (hS : Szs c.ops) (hk : (chkC c).2 = 0) (hf : fitP c qs bs n m) (hlq : qs.length <= 1000000000000000) (hlb : bs.length <= 1000000000000000) (w : World) (hC : Ci w c ao k) (hNq : Ns w aq qs) (hNb : Ns w ab bs) : Calls Tryz.prog 12 #[cV c ao k, .slice aq qs.length cq, .slice ab bs.length cb, .int .i64 n, .int .i64 m] w fun e w' => ∃ (co : Option Addr) (cap : Nat), e = .returned (.tuple #[.agg #[.int .i64 n, .int .i64 m, .slice co c.ops.length cap], .int .i64 0]) /\ OpsOwn w' w.heap.size co c.ops.length cap (c.ops.map (reO (lk qs) (lk bs))) /\ Below w.heap.size w w' := by
  have c1 := fun V (h : Below w.heap.size w V) => eMay c ao k V (hC.below h)
  have c3 := fun V (h : Below w.heap.size w V) => eUnlike aq cq qs n hlq V (hNq.below h)
  have c4 := fun V (h : Below w.heap.size w V) => eUnlike ab cb bs m hlb V (hNb.below h)
  have c5 := fun V (h : Below w.heap.size w V) => eCopyO c ao k hS V (hC.below h)
  have HOK := hide (chkC_ok hk).2.2.2.2.2
  have HSz := hide hS
  rw [hk] at c1
  simp only [beq_self_eq_true] at c1
  unfold fitP at hf
  obtain ⟨h1, h2, h3, h4, h5⟩ := hf
  rw [h4] at c3
  rw [h5] at c4
  have HQ : Hid (∀ V, Below w.heap.size w V -> ∀ z : Nat, (z : Int) < c.q -> ∃ ga offa, aq = some ⟨ga, offa, none⟩ /\ ga < V.heap.size /\ V.cell? ⟨ga, offa + z, none⟩ = some (.int .i64 (lk qs (z : Int)))) := hide (fun V hV z hz => by
    have hat := lk_at qs (z : Int) (by omega) (by omega)
    rw [Int.toNat_natCast] at hat
    obtain ⟨ga, offa, e, hc⟩ := (hNq.below hV).resolve_left (fun e => by rw [e] at hat; simp at hat)
    exact ⟨ga, offa, e, World.block_lt_of_cell? _ _ (hc z _ hat), hc z _ hat⟩)
  have HBt : Hid (∀ V, Below w.heap.size w V -> ∀ z : Nat, (z : Int) < c.b -> ∃ ga offa, ab = some ⟨ga, offa, none⟩ /\ ga < V.heap.size /\ V.cell? ⟨ga, offa + z, none⟩ = some (.int .i64 (lk bs (z : Int)))) := hide (fun V hV z hz => by
    have hat := lk_at bs (z : Int) (by omega) (by omega)
    rw [Int.toNat_natCast] at hat
    obtain ⟨ga, offa, e, hc⟩ := (hNb.below hV).resolve_left (fun e => by rw [e] at hat; simp at hat)
    exact ⟨ga, offa, e, World.block_lt_of_cell? _ _ (hc z _ hat), hc z _ hat⟩)
  have g34 : decide (n < 0) = false /\ decide (n > 64) = false /\ decide (64 < n) = false /\ decide (m < 0) = false /\ decide (m > 64) = false /\ decide (64 < m) = false := by
    unfold cntP wiP at h3
    simp only [Bool.and_eq_true, decide_eq_true_eq] at h3
    refine ⟨decide_eq_false (by omega), decide_eq_false (by omega), decide_eq_false (by omega), decide_eq_false (by omega), decide_eq_false (by omega), decide_eq_false (by omega)⟩
  obtain ⟨g3, g4, g4', g5, g6, g6'⟩ := g34
  obtain ⟨q0, b0, l0⟩ := c
  unfold cV at *
  simp only at *
  obtain ⟨n0, hn0⟩ : ∃ n0, l0.length = n0 := ⟨_, rfl⟩
  obtain ⟨nq, hnq⟩ : ∃ nq, qs.length = nq := ⟨_, rfl⟩
  obtain ⟨nb, hnb⟩ : ∃ nb, bs.length = nb := ⟨_, rfl⟩
  have HN0 := hide hn0
  have HNQ := hide hnq
  have HNB := hide hnb
  simp only [hn0, hnq, hnb] at c1 c3 c4 c5 h1 h2 ⊢
  clear hn0 hnq hnb
  have HW : Hid (Below w.heap.size w ((w.alloc (.cells #[.int .i64 q0, .int .i64 b0, .slice ao n0 k] 24)).alloc (.cells #[.int .i64 0, .int .i64 0, .slice none 0 0] 24)) /\ ((w.alloc (.cells #[.int .i64 q0, .int .i64 b0, .slice ao n0 k] 24)).alloc (.cells #[.int .i64 0, .int .i64 0, .slice none 0 0] 24)).heap[w.heap.size]? = some (.cells #[.int .i64 q0, .int .i64 b0, .slice ao n0 k] 24) /\ ((w.alloc (.cells #[.int .i64 q0, .int .i64 b0, .slice ao n0 k] 24)).alloc (.cells #[.int .i64 0, .int .i64 0, .slice none 0 0] 24)).heap[w.heap.size + 1]? = some (.cells #[.int .i64 0, .int .i64 0, .slice none 0 0] 24)) := hide (by
    obtain ⟨m1, m2⟩ := may_keep (w := w) (Below.refl ((w.alloc (.cells #[.int .i64 q0, .int .i64 b0, .slice ao n0 k] 24)).alloc (.cells #[.int .i64 0, .int .i64 0, .slice none 0 0] 24)).heap.size ((w.alloc (.cells #[.int .i64 q0, .int .i64 b0, .slice ao n0 k] 24)).alloc (.cells #[.int .i64 0, .int .i64 0, .slice none 0 0] 24)))
    exact ⟨(bnew _ _).trans ((bnew _ _).mono (by simp)), m1, m2⟩)
  generalize hW0 : ((w.alloc (.cells #[.int .i64 q0, .int .i64 b0, .slice ao n0 k] 24)).alloc (.cells #[.int .i64 0, .int .i64 0, .slice none 0 0] 24)) = W0 at HW
  have HZ := hide hW0
  have HP : Hid (∀ V, Below W0.heap.size W0 V -> Below w.heap.size w V /\ V.heap[w.heap.size]? = some (.cells #[.int .i64 q0, .int .i64 b0, .slice ao n0 k] 24) /\ V.heap[w.heap.size + 1]? = some (.cells #[.int .i64 0, .int .i64 0, .slice none 0 0] 24)) := hide (fun V h => ⟨HW.out.1.trans (h.mono HW.out.1.size), (h.block _ (Array.getElem?_eq_some_iff.1 HW.out.2.1).1).trans HW.out.2.1, (h.block _ (Array.getElem?_eq_some_iff.1 HW.out.2.2).1).trans HW.out.2.2⟩)
  clear hW0
  have g1 : ((nq : Int) == q0) = true := by simpa using h1
  have g1' : ((nq : Int) != q0) = false := by simpa using h1
  have g2 : ((nb : Int) == b0) = true := by simpa using h2
  have g2' : ((nb : Int) != b0) = false := by simpa using h2
  have HH1 := hide h1
  have HH2 := hide h2
  have hsl : n0 <= 2199023255552 := by rw [← HN0.out]; exact HSz.out.1
  clear hk h1 h2 h3 h4 h5 hC hNq hNb hS
  go_enter Tryz.func12, Tryz.ntmps12
  go_wp2_with fail
  rw [HZ.out]
  go_wp2_with (first
    | (go_at_call 24; (with_reducible refine Calls.mono (c1 _ HW.out.1) ?_); rintro e w1 ⟨rfl, hb1⟩; have hbW := hb1; obtain ⟨p1, m1, m2⟩ := HP.out w1 hb1; obtain ⟨x0, x1, x2, x3⟩ := def_cells m1; obtain ⟨u0, u1, u2, u3⟩ := def_cells m2; have uf : ∀ i, w1.frozen? ⟨w.heap.size + 1, i, none⟩ = false := fun i => (by simp [World.frozen?, m2]))
    | (go_at_call_of 31 (Value.slice aq nq cq); (with_reducible refine Calls.mono (c3 _ p1) ?_); rintro e w2 ⟨rfl, hb2⟩; have hbW2 := Below.trans hbW (hb2.mono hbW.size); obtain ⟨p2, m1, m2⟩ := HP.out w2 hbW2; obtain ⟨x0, x1, x2, x3⟩ := def_cells m1; obtain ⟨u0, u1, u2, u3⟩ := def_cells m2; have uf : ∀ i, w2.frozen? ⟨w.heap.size + 1, i, none⟩ = false := fun i => (by simp [World.frozen?, m2]))
    | (go_at_call 31; (with_reducible refine Calls.mono (c4 _ p2) ?_); rintro e w3 ⟨rfl, hb3⟩; have hbW3 := Below.trans hbW2 (hb3.mono hbW2.size); obtain ⟨p3, m1, m2⟩ := HP.out w3 hbW3; obtain ⟨x0, x1, x2, x3⟩ := def_cells m1; obtain ⟨u0, u1, u2, u3⟩ := def_cells m2; have uf : ∀ i, w3.frozen? ⟨w.heap.size + 1, i, none⟩ = false := fun i => (by simp [World.frozen?, m2]))
    | (go_at_call 6; (with_reducible refine Calls.mono (c5 _ p3) ?_); rintro e w4 ⟨bo, j, rfl, hO4, hb4⟩; have hbW4 := Below.trans hbW3 (hb4.mono hbW3.size); obtain ⟨p4, m1, m2⟩ := HP.out w4 hbW4; have HO4 := hide (hO4.base p3.size); have HB4 := hide p4; have HM2 := hide m2; clear hO4))
  have HS0 : Hid (Below w.heap.size w (w4.alloc (.cells #[.int .i64 n, .int .i64 m, .slice bo n0 j] 24)) /\ (w4.alloc (.cells #[.int .i64 n, .int .i64 m, .slice bo n0 j] 24)).heap[w.heap.size + 1]? = some (.cells #[.int .i64 0, .int .i64 0, .slice none 0 0] 24) /\ (w4.alloc (.cells #[.int .i64 n, .int .i64 m, .slice bo n0 j] 24)).heap[w4.heap.size]? = some (.cells #[.int .i64 n, .int .i64 m, .slice bo n0 j] 24) /\ OpsOwn (w4.alloc (.cells #[.int .i64 n, .int .i64 m, .slice bo n0 j] 24)) w.heap.size bo n0 j l0) := hide (by
    have hlt := (Array.getElem?_eq_some_iff.1 HM2.out).1
    refine ⟨HB4.out.trans ((bnew _ _).mono HB4.out.size), (Below.heap_alloc _ _ _ hlt).trans HM2.out, heap_alloc_new _ _, ?_⟩
    exact HO4.out.below (bnew w4 (.cells #[.int .i64 n, .int .i64 m, .slice bo n0 j] 24)))
  generalize (w4.alloc (.cells #[.int .i64 n, .int .i64 m, .slice bo n0 j] 24)) = WD at *
  by_cases hz0 : n0 = 0
  . have HZ0 := hide hz0
    have hd : decide ((0 : Int) < (n0 : Int)) = false := decide_eq_false (by omega)
    have hd' : decide (0 < n0) = false := decide_eq_false (by omega)
    obtain ⟨y0, y1, y2, y3⟩ := def_cells HS0.out.2.2.1
    obtain ⟨s0, s1, s2, s3⟩ := def_cells HS0.out.2.1
    have sf : ∀ i, WD.frozen? ⟨w.heap.size + 1, i, none⟩ = false := fun i => by simp [World.frozen?, HS0.out.2.1]
    have HF : Hid (OpsOwn WD w.heap.size bo n0 j (l0.map (reO (lk qs) (lk bs)))) := hide (by
      have e : l0 = [] := List.length_eq_zero_iff.1 (by rw [HN0.out]; exact hz0)
      have := HS0.out.2.2.2
      rw [e] at this ⊢
      exact this)
    clear hz0
    refine wp_loop_rounds 1 ?_
    rw [rounds_succ]
    go_wp2_with fail
    rw [c3_set _ _ _ _ _ _ _ _ _ HS0.out.2.1]
    refine bodyPost_ret (results_ct rfl _ _ (w.heap.size + 1) _ #[.int .i64 n, .int .i64 m, .slice bo n0 j] _ _ rfl (setRow_heap _ _ _ _ _ _ HS0.out.2.1) Tryz.underlying24 rfl (by exact infoCi)) rfl ?_
    exact ⟨bo, j, rfl, HF.out.row HS0.out.2.1 (by decide) (by decide) _, Below.row HS0.out.1 _ _ (by omega)⟩
  . obtain ⟨g, rfl⟩ : ∃ g, bo = some ⟨g, 0, none⟩ := by
      obtain ⟨xs, -, -, h3, -, -⟩ := HS0.out.2.2.2
      obtain ⟨g, e, -⟩ := own_some h3 (by omega)
      exact ⟨g, e⟩
    go_loopw [13] (fun vi wr => ∃ i : Nat, vi = .int .i64 (i : Int) /\ i <= n0 /\ Below w.heap.size w wr /\ wr.heap[w.heap.size + 1]? = some (.cells #[.int .i64 0, .int .i64 0, .slice none 0 0] 24) /\ wr.heap[w4.heap.size]? = some (.cells #[.int .i64 n, .int .i64 m, .slice (some ⟨g, 0, none⟩) n0 j] 24) /\ OpsOwn wr w.heap.size (some ⟨g, 0, none⟩) n0 j (mxL (lk qs) (lk bs) l0 i)) (fun vi _ => n0 - (Go.RowKit.intOf vi).toNat)
    case atStart => exact ⟨0, rfl, Nat.zero_le _, HS0.out.1, HS0.out.2.1, HS0.out.2.2.1, by rw [mxL_zero]; exact HS0.out.2.2.2⟩
    case round =>
      obtain ⟨i, rfl, hi, hbr, hrz, hdb, hOr⟩ := hrel
      obtain ⟨y0, y1, y2, y3⟩ := def_cells hdb
      by_cases h : i < n0
      . have hd : decide ((i : Int) < (n0 : Int)) = true := decide_eq_true (by omega)
        have hkk : (i : Int) < (n0 : Int) := by omega
        obtain ⟨o, ho⟩ : ∃ o, l0[i]? = some o := ⟨_, List.getElem?_eq_getElem (by rw [HN0.out]; exact h)⟩
        have hom := List.mem_of_getElem? ho
        have hmb := HSz.out.2 o hom
        have HRG := hide (may_rng (HOK.out o hom))
        have HREL := hide (And.intro hbr (And.intro hrz (And.intro hdb hOr)))
        have HOO := hide ho
        have HLE := hide (mxL_lt (lk qs) (lk bs) l0 i o ho)
        obtain ⟨mr, hmr⟩ : ∃ mr, o.qs.length = mr := ⟨_, rfl⟩
        have HMR := hide hmr
        rw [hmr] at hmb
        clear ho hom hOr hbr hrz hdb hmr
        go_wp2_with fail
        go_loopw [14] (fun vk wr => ∃ k' : Nat, vk = .int .i64 (k' : Int) /\ k' <= mr /\ Below w.heap.size w wr /\ wr.heap[w.heap.size + 1]? = some (.cells #[.int .i64 0, .int .i64 0, .slice none 0 0] 24) /\ wr.heap[w4.heap.size]? = some (.cells #[.int .i64 n, .int .i64 m, .slice (some ⟨g, 0, none⟩) n0 j] 24) /\ OpsOwn wr w.heap.size (some ⟨g, 0, none⟩) n0 j ((mxL (lk qs) (lk bs) l0 i).set i { o with qs := mqL (lk qs) o.qs k' })) (fun vk _ => mr - (Go.RowKit.intOf vk).toNat)
        case atStart => exact ⟨0, rfl, Nat.zero_le _, HREL.out.1, HREL.out.2.1, HREL.out.2.2.1, by rw [mqL_zero, set_same (mxL_at (lk qs) (lk bs) l0 i o HOO.out)]; exact HREL.out.2.2.2⟩
        case round =>
          clear y0 y1 y2 y3
          obtain ⟨k', rfl, hk', hbr, hrz, hdb, hOr⟩ := hrel
          obtain ⟨y0, y1, y2, y3⟩ := def_cells hdb
          have hli := set_at (mxL (lk qs) (lk bs) l0 i) i { o with qs := mqL (lk qs) o.qs k' } HLE.out
          obtain ⟨ar, cr, g1', g2', j0, j2, j3, j4, jf, jb, jc, jr⟩ := hOr.one hli
          obtain ⟨hoff, hoffr⟩ := hOr.off hli hdb
          obtain ⟨hofr, hofrr⟩ := hOr.off hli hrz
          simp only at j0 j2 j3 j4 jr jb jc hoffr hofrr
          have hml : (mqL (lk qs) o.qs k').length = mr := by rw [← HMR.out]; unfold mqL; simp; omega
          rw [hml] at j2 hoffr hofrr
          by_cases hk : k' < mr
          . have hd2 : decide ((k' : Int) < (mr : Int)) = true := decide_eq_true (by omega)
            have hkk2 : (k' : Int) < (mr : Int) := by omega
            obtain ⟨z0, hz0'⟩ : ∃ z, o.qs[k']? = some z := ⟨_, List.getElem?_eq_getElem (by rw [HMR.out]; exact hk)⟩
            have hrg := HRG.out.1 z0 (List.mem_of_getElem? hz0')
            obtain ⟨z, rfl⟩ := Int.eq_ofNat_of_zero_le hrg.1
            obtain ⟨gr, rfl, r1, r2, r3, r4, r5, r6⟩ := jr k' z (mqL_at (lk qs) o.qs k' z hz0')
            obtain ⟨ga, offa, haq, hga, hcell⟩ := HQ.out wr hbr z hrg.2
            subst haq
            have hzn : (z : Int) < (nq : Int) := by have := HH1.out; omega
            have HK : Hid (∀ V, Below wr.heap.size wr V -> V.cell? ⟨w4.heap.size, 2, none⟩ = some (.slice (some ⟨g, 0, none⟩) n0 j) /\ w4.heap.size < V.heap.size /\ V.cell? ⟨g, i * 6 + 2, none⟩ = some (.slice (some ⟨gr, 0, none⟩) mr cr) /\ g < V.heap.size /\ V.cell? ⟨gr, k', none⟩ = some (.int .i64 (z : Int)) /\ V.frozen? ⟨gr, k', none⟩ = false /\ gr < V.heap.size /\ V.cell? ⟨ga, offa + z, none⟩ = some (.int .i64 (lk qs (z : Int))) /\ ga < V.heap.size) := hide (fun V hV => ⟨(hV.cell (p := ⟨w4.heap.size, 2, none⟩) y3).trans y2, Nat.lt_of_lt_of_le y3 hV.size, (hV.cell (p := ⟨g, i * 6 + 2, none⟩) g2').trans j2, Nat.lt_of_lt_of_le g2' hV.size, (hV.cell (p := ⟨gr, k', none⟩) r2).trans r4, (hV.frozen (p := ⟨gr, k', none⟩) r2).trans r5, Nat.lt_of_lt_of_le r2 hV.size, (hV.cell (p := ⟨ga, offa + z, none⟩) hga).trans hcell, Nat.lt_of_lt_of_le hga hV.size⟩)
            have HF : Hid (∀ V, Below wr.heap.size wr V -> (Below w.heap.size w (V.setCell ⟨gr, k', none⟩ (.int .i64 (lk qs (z : Int)))) /\ (V.setCell ⟨gr, k', none⟩ (.int .i64 (lk qs (z : Int)))).heap[w.heap.size + 1]? = some (.cells #[.int .i64 0, .int .i64 0, .slice none 0 0] 24) /\ (V.setCell ⟨gr, k', none⟩ (.int .i64 (lk qs (z : Int)))).heap[w4.heap.size]? = some (.cells #[.int .i64 n, .int .i64 m, .slice (some ⟨g, 0, none⟩) n0 j] 24) /\ OpsOwn (V.setCell ⟨gr, k', none⟩ (.int .i64 (lk qs (z : Int)))) w.heap.size (some ⟨g, 0, none⟩) n0 j ((mxL (lk qs) (lk bs) l0 i).set i { o with qs := mqL (lk qs) o.qs (k' + 1) }))) := hide (fun V hV => by
              obtain ⟨ax, cx, -, -, -, x2, -, -, -, -, -, xr⟩ := (hOr.below hV).one hli
              obtain ⟨gr', e', -, -, -, -, -, x6⟩ := xr k' z (mqL_at (lk qs) o.qs k' z hz0')
              simp only at x2
              rw [(hV.cell (p := ⟨g, i * 6 + 2, none⟩) g2').trans j2] at x2
              simp only [Option.some.injEq, Value.slice.injEq] at x2
              rw [e'] at x2
              have e4 : gr = gr' := by simpa using x2.1
              subst e4
              refine ⟨(hbr.trans (hV.mono hbr.size)).setCell (p := ⟨gr, k', none⟩) r1 _, (Below.heap_setCell _ _ _ _ (hofrr gr cr j2)).trans ((hV.block _ (Array.getElem?_eq_some_iff.1 hrz).1).trans hrz), (Below.heap_setCell _ _ _ _ (hoffr gr cr j2)).trans ((hV.block _ y3).trans hdb), ?_⟩
              have := x6 (lk qs (z : Int))
              rw [List.set_set] at this
              simp only at this
              rw [mqL_succ (lk qs) o.qs k' z hz0'] at this
              exact this)
            clear hOr jr jb jc r6 hbr hrz hdb hz0' hofrr hoffr hli hrg hofr hoff
            go_wp2_with fail
            refine wp_region_quiet_last (C := fun W => Below wr.heap.size wr W) (by kernel_rfl) 20 rfl (by kernel_rfl) (by kernel_rfl) (below_drewN (Below.refl _ _) 1) ?_
            simp only [List.take_succ_cons, List.take_zero]
            repeat
              refine wpQuiet_step (fun K hK => ?_)
              go_simp
              first
                | (refine hK _ ?_; clear hK K)
                | (apply Exists.intro
                   refine ⟨fun W hW => ?_, hK _ ?_⟩
                   first
                     | with_reducible rfl
                     | (obtain ⟨a0, a1, a2, a3, a4, a5, a6, a7, a8⟩ := HK.out W hW; go_simp; rfl)
                   clear hK K)
            refine wpQuiet_nil ?_
            intro W hW
            obtain ⟨a0, a1, a2, a3, a4, a5, a6, a7, a8⟩ := HK.out W hW
            have HWf := hide (HF.out W hW)
            clear hW HK HF
            go_wp2_with fail
            go_roundw
            case rel => exact ⟨k' + 1, by go_num, by omega, HWf.out⟩
            case measure => simp [Go.RowKit.intOf]; omega
          . obtain rfl : mr = k' := by omega
            have HOe : Hid (OpsOwn wr w.heap.size (some ⟨g, 0, none⟩) n0 j ((mxL (lk qs) (lk bs) l0 i).set i { o with qs := o.qs.map (lk qs) })) := hide (by
              have := hOr
              rwa [mqL_end (lk qs) o.qs mr (by rw [HMR.out]; exact Nat.le_refl _)] at this)
            obtain ⟨-, -, -, -, -, -, -, -, -, eb, ec, -⟩ := HOe.out.one (set_at _ i { o with qs := o.qs.map (lk qs) } HLE.out)
            simp only [List.set_set] at eb ec
            have HEB := hide eb
            have HEC := hide ec
            have HR := hide (And.intro hbr (And.intro hrz hdb))
            have HOF := hide (And.intro hoff hofr)
            clear eb ec hOr jr jb jc hli hofrr hoffr hoff hofr
            by_cases hk2 : o.kind = 2
            . have hrb := HRG.out.2.1 hk2
              have eK : (o.kind == 2) = true := by simpa using hk2
              obtain ⟨bz, hbz⟩ := Int.eq_ofNat_of_zero_le hrb.1
              have HBZ := hide hbz
              rw [hbz] at j3
              obtain ⟨ga, offa, hab, hga, hcell⟩ := HBt.out wr hbr bz (by rw [← hbz]; exact hrb.2)
              subst hab
              have hzn : (bz : Int) < (nb : Int) := by have := HH2.out; have := hrb.2; omega
              have HK : Hid (∀ V, Below wr.heap.size wr V -> V.cell? ⟨w4.heap.size, 2, none⟩ = some (.slice (some ⟨g, 0, none⟩) n0 j) /\ w4.heap.size < V.heap.size /\ V.cell? ⟨g, i * 6 + 3, none⟩ = some (.int .i64 (bz : Int)) /\ V.frozen? ⟨g, i * 6 + 3, none⟩ = false /\ g < V.heap.size /\ V.cell? ⟨ga, offa + bz, none⟩ = some (.int .i64 (lk bs (bz : Int))) /\ ga < V.heap.size) := hide (fun V hV => ⟨(hV.cell (p := ⟨w4.heap.size, 2, none⟩) y3).trans y2, Nat.lt_of_lt_of_le y3 hV.size, (hV.cell (p := ⟨g, i * 6 + 3, none⟩) g2').trans j3, (hV.frozen (p := ⟨g, i * 6 + 3, none⟩) g2').trans (jf _), Nat.lt_of_lt_of_le g2' hV.size, (hV.cell (p := ⟨ga, offa + bz, none⟩) hga).trans hcell, Nat.lt_of_lt_of_le hga hV.size⟩)
              have HF : Hid (∀ V, Below wr.heap.size wr V -> (Below w.heap.size w (V.setCell ⟨g, i * 6 + 3, none⟩ (.int .i64 (lk bs (bz : Int)))) /\ (V.setCell ⟨g, i * 6 + 3, none⟩ (.int .i64 (lk bs (bz : Int)))).heap[w.heap.size + 1]? = some (.cells #[.int .i64 0, .int .i64 0, .slice none 0 0] 24) /\ (V.setCell ⟨g, i * 6 + 3, none⟩ (.int .i64 (lk bs (bz : Int)))).heap[w4.heap.size]? = some (.cells #[.int .i64 n, .int .i64 m, .slice (some ⟨g, 0, none⟩) n0 j] 24) /\ OpsOwn (V.setCell ⟨g, i * 6 + 3, none⟩ (.int .i64 (lk bs (bz : Int)))) w.heap.size (some ⟨g, 0, none⟩) n0 j ((mxL (lk qs) (lk bs) l0 i).set i { o with qs := o.qs.map (lk qs), bit := lk bs (bz : Int) }))) := hide (fun V hV => by
                obtain ⟨-, -, -, -, -, -, -, -, -, xb, -, -⟩ := (HOe.out.below hV).one (set_at _ i { o with qs := o.qs.map (lk qs) } HLE.out)
                have := xb (lk bs (bz : Int))
                simp only [List.set_set] at this
                exact ⟨(HR.out.1.trans (hV.mono HR.out.1.size)).setCell (p := ⟨g, i * 6 + 3, none⟩) g1' _, (Below.heap_setCell _ _ _ _ HOF.out.2).trans ((hV.block _ (Array.getElem?_eq_some_iff.1 HR.out.2.1).1).trans HR.out.2.1), (Below.heap_setCell _ _ _ _ HOF.out.1).trans ((hV.block _ y3).trans HR.out.2.2), this⟩)
              clear hbr hrz hdb hrb hbz
              by_cases hcn : o.cond = -1
              . have eC1 : decide (o.cond ≥ 0) = false := decide_eq_false (by omega)
                have eC2 : decide (0 <= o.cond) = false := decide_eq_false (by omega)
                go_wp2_with fail
                refine wp_region_quiet_last2 (C := fun W => Below wr.heap.size wr W) (by kernel_rfl) 13 rfl (by kernel_rfl) (by kernel_rfl) (below_drewN (Below.refl _ _) 1) ?_
                simp only [List.take_succ_cons, List.take_zero]
                repeat
                  refine wpQuiet_step (fun K hK => ?_)
                  go_simp
                  first
                    | (refine hK _ ?_; clear hK K)
                    | (apply Exists.intro
                       refine ⟨fun W hW => ?_, hK _ ?_⟩
                       first
                         | with_reducible rfl
                         | (obtain ⟨a0, a1, a2, a3, a4, a5, a6⟩ := HK.out W hW; go_simp; rfl)
                       clear hK K)
                refine wpQuiet_nil ?_
                intro W hW
                obtain ⟨a0, a1, a2, a3, a4, a5, a6⟩ := HK.out W hW
                have HWf := hide (HF.out W hW)
                clear hW HK HF
                obtain ⟨t1, t2, t3, t4⟩ := HWf.out
                obtain ⟨q0', q1', q2', q3'⟩ := def_cells t3
                obtain ⟨-, -, -, q5', -, -, -, q4', -, -, -, -⟩ := t4.one (set_at _ i _ HLE.out)
                simp only at q4'
                clear t1 t2 t3 t4
                go_wp2_with fail
                go_roundw
                case rel =>
                  refine ⟨i + 1, by go_num, by omega, HWf.out.1, HWf.out.2.1, HWf.out.2.2.1, ?_⟩
                  rw [← mxL_succ (lk qs) (lk bs) l0 i o HOO.out]
                  have := HWf.out.2.2.2
                  simpa [reO, hk2, hcn, HBZ.out] using this
                case measure => simp [Go.RowKit.intOf]; omega
              . have eC1 : decide (o.cond ≥ 0) = true := decide_eq_true (HRG.out.2.2 hcn).1
                have eC2 : decide (0 <= o.cond) = true := decide_eq_true (HRG.out.2.2 hcn).1
                go_wp2_with fail
                refine wp_region_quiet_last2 (C := fun W => Below wr.heap.size wr W) (by kernel_rfl) 13 rfl (by kernel_rfl) (by kernel_rfl) (below_drewN (Below.refl _ _) 1) ?_
                simp only [List.take_succ_cons, List.take_zero]
                repeat
                  refine wpQuiet_step (fun K hK => ?_)
                  go_simp
                  first
                    | (refine hK _ ?_; clear hK K)
                    | (apply Exists.intro
                       refine ⟨fun W hW => ?_, hK _ ?_⟩
                       first
                         | with_reducible rfl
                         | (obtain ⟨a0, a1, a2, a3, a4, a5, a6⟩ := HK.out W hW; go_simp; rfl)
                       clear hK K)
                refine wpQuiet_nil ?_
                intro W hW
                obtain ⟨a0, a1, a2, a3, a4, a5, a6⟩ := HK.out W hW
                have HWf := hide (HF.out W hW)
                clear hW HK HF
                obtain ⟨t1, t2, t3, t4⟩ := HWf.out
                obtain ⟨q0', q1', q2', q3'⟩ := def_cells t3
                obtain ⟨-, -, -, q5', -, -, -, q4', -, -, -, -⟩ := t4.one (set_at _ i _ HLE.out)
                simp only at q4'
                clear t1 t2 t3 t4
                go_wp2_with fail
                generalize W.setCell ⟨g, i * 6 + 3, none⟩ (.int .i64 (lk bs (bz : Int))) = wx at *
                clear q0' q1' q2' q3' q4' q5'
                have hrc := HRG.out.2.2 hcn
                obtain ⟨cz, hcz⟩ := Int.eq_ofNat_of_zero_le hrc.1
                have HCZ := hide hcz
                obtain ⟨v1, v2, v3, v4⟩ := HWf.out
                obtain ⟨ga2, offa2, hab2, hga2, hcell2⟩ := HBt.out wx v1 cz (by rw [← hcz]; exact hrc.2)
                cases hab2
                obtain ⟨-, -, e1, e2, -, -, -, e4, ef, -, xc, -⟩ := v4.one (set_at _ i _ HLE.out)
                simp only at e4
                rw [hcz] at e4
                obtain ⟨f1, -⟩ := v4.off (set_at _ i _ HLE.out) v3
                obtain ⟨f2, -⟩ := v4.off (set_at _ i _ HLE.out) v2
                obtain ⟨d0, d1, d2, d3⟩ := def_cells v3
                have hzc : (cz : Int) < (nb : Int) := by have := HH2.out; have := hrc.2; omega
                have HK2 : Hid (∀ V, Below wx.heap.size wx V -> V.cell? ⟨w4.heap.size, 2, none⟩ = some (.slice (some ⟨g, 0, none⟩) n0 j) /\ w4.heap.size < V.heap.size /\ V.cell? ⟨g, i * 6 + 4, none⟩ = some (.int .i64 (cz : Int)) /\ V.frozen? ⟨g, i * 6 + 4, none⟩ = false /\ g < V.heap.size /\ V.cell? ⟨ga, offa + cz, none⟩ = some (.int .i64 (lk bs (cz : Int))) /\ ga < V.heap.size) := hide (fun V hV => ⟨(hV.cell (p := ⟨w4.heap.size, 2, none⟩) d3).trans d2, Nat.lt_of_lt_of_le d3 hV.size, (hV.cell (p := ⟨g, i * 6 + 4, none⟩) e2).trans e4, (hV.frozen (p := ⟨g, i * 6 + 4, none⟩) e2).trans (ef _), Nat.lt_of_lt_of_le e2 hV.size, (hV.cell (p := ⟨ga, offa + cz, none⟩) hga2).trans hcell2, Nat.lt_of_lt_of_le hga2 hV.size⟩)
                have HF2 : Hid (∀ V, Below wx.heap.size wx V -> (Below w.heap.size w (V.setCell ⟨g, i * 6 + 4, none⟩ (.int .i64 (lk bs (cz : Int)))) /\ (V.setCell ⟨g, i * 6 + 4, none⟩ (.int .i64 (lk bs (cz : Int)))).heap[w.heap.size + 1]? = some (.cells #[.int .i64 0, .int .i64 0, .slice none 0 0] 24) /\ (V.setCell ⟨g, i * 6 + 4, none⟩ (.int .i64 (lk bs (cz : Int)))).heap[w4.heap.size]? = some (.cells #[.int .i64 n, .int .i64 m, .slice (some ⟨g, 0, none⟩) n0 j] 24) /\ OpsOwn (V.setCell ⟨g, i * 6 + 4, none⟩ (.int .i64 (lk bs (cz : Int)))) w.heap.size (some ⟨g, 0, none⟩) n0 j (mxL (lk qs) (lk bs) l0 (i + 1)))) := hide (fun V hV => by
                  obtain ⟨-, -, -, -, -, -, -, -, -, -, xc', -⟩ := (v4.below hV).one (set_at _ i _ HLE.out)
                  have := xc' (lk bs (cz : Int))
                  simp only [List.set_set] at this
                  refine ⟨(v1.trans (hV.mono v1.size)).setCell (p := ⟨g, i * 6 + 4, none⟩) e1 _, (Below.heap_setCell _ _ _ _ f2).trans ((hV.block _ (Array.getElem?_eq_some_iff.1 v2).1).trans v2), (Below.heap_setCell _ _ _ _ f1).trans ((hV.block _ d3).trans v3), ?_⟩
                  rw [← mxL_succ (lk qs) (lk bs) l0 i o HOO.out]
                  simpa [reO, hk2, hcn, HBZ.out, HCZ.out] using this)
                clear v1 v2 v3 v4 xc f1 f2 hrc hcz e1
                refine wp_region_quiet_last2 (C := fun W => Below wx.heap.size wx W) (by kernel_rfl) 13 rfl (by kernel_rfl) (by kernel_rfl) (below_drewN (Below.refl _ _) 1) ?_
                simp only [List.take_succ_cons, List.take_zero]
                repeat
                  refine wpQuiet_step (fun K hK => ?_)
                  go_simp
                  first
                    | (refine hK _ ?_; clear hK K)
                    | (apply Exists.intro
                       refine ⟨fun W hW => ?_, hK _ ?_⟩
                       first
                         | with_reducible rfl
                         | (obtain ⟨a0, a1, a2, a3, a4, a5, a6⟩ := HK2.out W hW; go_simp; rfl)
                       clear hK K)
                refine wpQuiet_nil ?_
                intro W hW
                obtain ⟨a0, a1, a2, a3, a4, a5, a6⟩ := HK2.out W hW
                have HWg := hide (HF2.out W hW)
                clear hW HK2 HF2
                go_wp2_with fail
                go_roundw
                case rel => exact ⟨i + 1, by go_num, by omega, HWg.out⟩
                case measure => simp [Go.RowKit.intOf]; omega
            . have eK : (o.kind == 2) = false := by simpa using hk2
              by_cases hcn : o.cond = -1
              . have eC1 : decide (o.cond ≥ 0) = false := decide_eq_false (by omega)
                have eC2 : decide (0 <= o.cond) = false := decide_eq_false (by omega)
                have HFin : Hid (OpsOwn wr w.heap.size (some ⟨g, 0, none⟩) n0 j (mxL (lk qs) (lk bs) l0 (i + 1))) := hide (by
                  rw [← mxL_succ (lk qs) (lk bs) l0 i o HOO.out]
                  have := HOe.out
                  simpa [reO, hk2, hcn] using this)
                clear hbr hrz hdb hk2 hcn
                go_wp2_with fail
                go_roundw
                case rel => exact ⟨i + 1, by go_num, by omega, HR.out.1, HR.out.2.1, HR.out.2.2, HFin.out⟩
                case measure => simp [Go.RowKit.intOf]; omega
              . have eC1 : decide (o.cond ≥ 0) = true := decide_eq_true (HRG.out.2.2 hcn).1
                have eC2 : decide (0 <= o.cond) = true := decide_eq_true (HRG.out.2.2 hcn).1
                have HV := hide (And.intro HR.out.1 (And.intro HR.out.2.1 (And.intro HR.out.2.2 HOe.out)))
                clear hbr hrz hdb
                have hrc := HRG.out.2.2 hcn
                obtain ⟨cz, hcz⟩ := Int.eq_ofNat_of_zero_le hrc.1
                have HCZ := hide hcz
                obtain ⟨v1, v2, v3, v4⟩ := HV.out
                obtain ⟨ga2, offa2, hab2, hga2, hcell2⟩ := HBt.out wr v1 cz (by rw [← hcz]; exact hrc.2)
                subst hab2
                obtain ⟨-, -, e1, e2, -, -, -, e4, ef, -, xc, -⟩ := v4.one (set_at _ i _ HLE.out)
                simp only at e4
                rw [hcz] at e4
                obtain ⟨f1, -⟩ := v4.off (set_at _ i _ HLE.out) v3
                obtain ⟨f2, -⟩ := v4.off (set_at _ i _ HLE.out) v2
                obtain ⟨d0, d1, d2, d3⟩ := def_cells v3
                have hzc : (cz : Int) < (nb : Int) := by have := HH2.out; have := hrc.2; omega
                have HK2 : Hid (∀ V, Below wr.heap.size wr V -> V.cell? ⟨w4.heap.size, 2, none⟩ = some (.slice (some ⟨g, 0, none⟩) n0 j) /\ w4.heap.size < V.heap.size /\ V.cell? ⟨g, i * 6 + 4, none⟩ = some (.int .i64 (cz : Int)) /\ V.frozen? ⟨g, i * 6 + 4, none⟩ = false /\ g < V.heap.size /\ V.cell? ⟨ga2, offa2 + cz, none⟩ = some (.int .i64 (lk bs (cz : Int))) /\ ga2 < V.heap.size) := hide (fun V hV => ⟨(hV.cell (p := ⟨w4.heap.size, 2, none⟩) d3).trans d2, Nat.lt_of_lt_of_le d3 hV.size, (hV.cell (p := ⟨g, i * 6 + 4, none⟩) e2).trans e4, (hV.frozen (p := ⟨g, i * 6 + 4, none⟩) e2).trans (ef _), Nat.lt_of_lt_of_le e2 hV.size, (hV.cell (p := ⟨ga2, offa2 + cz, none⟩) hga2).trans hcell2, Nat.lt_of_lt_of_le hga2 hV.size⟩)
                have HF2 : Hid (∀ V, Below wr.heap.size wr V -> (Below w.heap.size w (V.setCell ⟨g, i * 6 + 4, none⟩ (.int .i64 (lk bs (cz : Int)))) /\ (V.setCell ⟨g, i * 6 + 4, none⟩ (.int .i64 (lk bs (cz : Int)))).heap[w.heap.size + 1]? = some (.cells #[.int .i64 0, .int .i64 0, .slice none 0 0] 24) /\ (V.setCell ⟨g, i * 6 + 4, none⟩ (.int .i64 (lk bs (cz : Int)))).heap[w4.heap.size]? = some (.cells #[.int .i64 n, .int .i64 m, .slice (some ⟨g, 0, none⟩) n0 j] 24) /\ OpsOwn (V.setCell ⟨g, i * 6 + 4, none⟩ (.int .i64 (lk bs (cz : Int)))) w.heap.size (some ⟨g, 0, none⟩) n0 j (mxL (lk qs) (lk bs) l0 (i + 1)))) := hide (fun V hV => by
                  obtain ⟨-, -, -, -, -, -, -, -, -, -, xc', -⟩ := (v4.below hV).one (set_at _ i _ HLE.out)
                  have := xc' (lk bs (cz : Int))
                  simp only [List.set_set] at this
                  refine ⟨(v1.trans (hV.mono v1.size)).setCell (p := ⟨g, i * 6 + 4, none⟩) e1 _, (Below.heap_setCell _ _ _ _ f2).trans ((hV.block _ (Array.getElem?_eq_some_iff.1 v2).1).trans v2), (Below.heap_setCell _ _ _ _ f1).trans ((hV.block _ d3).trans v3), ?_⟩
                  rw [← mxL_succ (lk qs) (lk bs) l0 i o HOO.out]
                  simpa [reO, hk2, hcn, HCZ.out] using this)
                clear v1 v2 v3 v4 xc f1 f2 hrc hcz e1
                go_wp2_with fail
                refine wp_region_quiet_last2 (C := fun W => Below wr.heap.size wr W) (by kernel_rfl) 13 rfl (by kernel_rfl) (by kernel_rfl) (below_drewN (Below.refl _ _) 1) ?_
                simp only [List.take_succ_cons, List.take_zero]
                repeat
                  refine wpQuiet_step (fun K hK => ?_)
                  go_simp
                  first
                    | (refine hK _ ?_; clear hK K)
                    | (apply Exists.intro
                       refine ⟨fun W hW => ?_, hK _ ?_⟩
                       first
                         | with_reducible rfl
                         | (obtain ⟨a0, a1, a2, a3, a4, a5, a6⟩ := HK2.out W hW; go_simp; rfl)
                       clear hK K)
                refine wpQuiet_nil ?_
                intro W hW
                obtain ⟨a0, a1, a2, a3, a4, a5, a6⟩ := HK2.out W hW
                have HWg := hide (HF2.out W hW)
                clear hW HK2 HF2
                go_wp2_with fail
                go_roundw
                case rel => exact ⟨i + 1, by go_num, by omega, HWg.out⟩
                case measure => simp [Go.RowKit.intOf]; omega
      . obtain rfl : n0 = i := by omega
        have HF : Hid (OpsOwn wr w.heap.size (some ⟨g, 0, none⟩) n0 j (l0.map (reO (lk qs) (lk bs)))) := hide (by
          have := hOr
          rwa [mxL_end (lk qs) (lk bs) l0 n0 (by rw [HN0.out]; exact Nat.le_refl _)] at this)
        have HR := hide (And.intro hbr hrz)
        obtain ⟨s0, s1, s2, s3⟩ := def_cells hrz
        have sf : ∀ i, wr.frozen? ⟨w.heap.size + 1, i, none⟩ = false := fun i => by simp [World.frozen?, hrz]
        clear hOr hbr hrz hdb
        go_wp2_with fail
        rw [c3_set _ _ _ _ _ _ _ _ _ HR.out.2]
        refine bodyPost_ret (results_ct rfl _ _ (w.heap.size + 1) _ #[.int .i64 n, .int .i64 m, .slice (some ⟨g, 0, none⟩) n0 j] _ _ rfl (setRow_heap _ _ _ _ _ _ HR.out.2) Tryz.underlying24 rfl (by exact infoCi)) rfl ?_
        exact ⟨some ⟨g, 0, none⟩, j, rfl, HF.out.row HR.out.2 (by decide) (by decide) _, Below.row HR.out.1 _ _ (by omega)⟩
def OpsE (w : World) (B E : Nat) (ao : Option Addr) (n c : Nat) (ops : List COp) : Prop := ∃ xs : List (COp × Value), n = xs.length /\ ops = xs.map (·.1) /\ w.ownsRow B 37 6 (.slice ao n c) n (xs.flatMap opC) /\ (∀ x ∈ xs, RowO w B x.2 x.1.qs) /\ Pw xs /\ ∀ x ∈ xs, ∀ g, x.2.ownBlock = some g -> g < E
theorem OpsOwn.upto {w : World} {B : Nat} {ao : Option Addr} {n c : Nat} {l : List COp} (h : OpsOwn w B ao n c l) : OpsE w B w.heap.size ao n c l := by
  obtain ⟨xs, h1, h2, h3, h4, h5⟩ := h
  exact ⟨xs, h1, h2, h3, h4, h5, fun x hx g hg => ((h4 x hx).lt hg).2⟩
theorem OpsE.own {w : World} {B E : Nat} {ao : Option Addr} {n c : Nat} {l : List COp} (h : OpsE w B E ao n c l) : OpsOwn w B ao n c l := by
  obtain ⟨xs, h1, h2, h3, h4, h5, -⟩ := h
  exact ⟨xs, h1, h2, h3, h4, h5⟩
theorem OpsE.base {w : World} {B B' E : Nat} {ao : Option Addr} {n c : Nat} {l : List COp} (h : OpsE w B E ao n c l) (hb : B' <= B) : OpsE w B' E ao n c l := by
  obtain ⟨xs, h1, h2, h3, h4, h5, h6⟩ := h
  refine ⟨xs, h1, h2, ⟨h3.1, ?_⟩, fun x hx => (h4 x hx).base hb, h5, h6⟩
  rcases h3.2 with h2 | ⟨g, cap, cur, e1, e2, e3⟩
  . exact .inl h2
  . exact .inr ⟨g, cap, cur, e1, Nat.le_trans hb e2, e3⟩
theorem OpsE.below {w w' : World} {B E : Nat} {ao : Option Addr} {n c : Nat} {l : List COp} (h : OpsE w B E ao n c l) (hb : Below w.heap.size w w') : OpsE w' B E ao n c l := by
  obtain ⟨xs, h1, h2, h3, h4, h5, h6⟩ := h
  exact ⟨xs, h1, h2, own_of_block h3 (fun k hk => hb.block k (own_lt h3 k hk).2), fun x hx => (h4 x hx).below hb, h5, h6⟩
theorem OpsE.row {w : World} {B E : Nat} {ao : Option Addr} {n c : Nat} {ops : List COp} (h : OpsE w B E ao n c ops) {g : Nat} {cs : Array Value} {fr : Nat × Nat} (hg : w.heap[g]? = some (.cells cs 24 fr)) (cs' : Array Value) : OpsE (w.setRow g cs') B E ao n c ops := by
  obtain ⟨xs, e1, e2, e3, e4, e5, e6⟩ := h
  refine ⟨xs, e1, e2, own_of_block e3 (fun k hk => setRow_other _ _ _ _ (fun e => ?_)), fun x hx => (e4 x hx).block (fun b cs2 fr2 hb => setRow_other _ _ _ _ (fun e => ?_)), e5, e6⟩
  . subst e
    exact own_ne e3 hg (by decide) hk
  . subst e
    rw [hg] at hb
    simp at hb
theorem run_append_opsE {w : World} {B E : Nat} {ao1 ao2 : Option Addr} {n1 c1 n2 c2 : Nat} {l1 l2 : List COp} (h1 : OpsE w B E ao1 n1 c1 l1) (h2 : OpsOwn w E ao2 n2 c2 l2) (hB : B <= E) (hE : E <= w.heap.size) (hlen : n1 + n2 <= 2199023255552) (ty : TypeId) :
    ∃ ao cap w', (Builtin.append_ #[22, 22] ty #[.slice ao1 n1 c1, .slice ao2 n2 c2]).run Tryz.prog w = .ok (.slice ao (n1 + n2) cap) w' /\ OpsOwn w' B ao (n1 + n2) cap (l1 ++ l2) /\ w.grownBy w' (ob ao1) := by
  obtain ⟨i0, hi, hz0, hz1, hz2⟩ := info_parts infoOp
  obtain ⟨xs1, a1, a2, e3, e4, a5, a6⟩ := h1
  obtain ⟨xs2, b1, b2, b3, b4, b5⟩ := h2
  have hcross : ∀ x ∈ xs1, ∀ y ∈ xs2, ∀ g, x.2.ownBlock = some g -> y.2.ownBlock = some g -> False := fun x hx y hy g hg1 hg2 => by
    have q1 := a6 x hx g hg1
    have q2 := ((b4 y hy).lt hg2).1
    omega
  have hPw : Pw (xs1 ++ xs2) := by
    unfold Pw
    rw [List.pairwise_append]
    exact ⟨a5, b5, hcross⟩
  have fin : ∀ (w' : World) (ao : Option Addr) (cap : Nat), w'.ownsRow B 37 6 (.slice ao (n1 + n2) cap) (n1 + n2) (xs1.flatMap opC ++ xs2.flatMap opC) -> w.grownBy w' (ob ao1) -> OpsOwn w' B ao (n1 + n2) cap (l1 ++ l2) := fun w' ao cap ho hg => by
    have hno : ∀ (b : Nat) (cs : Array Value) (fr : Nat × Nat), w.heap[b]? = some (Obj.cells cs 3 fr) -> w'.heap[b]? = w.heap[b]? := fun b cs fr hbb => hg.block b (Array.getElem?_eq_some_iff.1 hbb).1 (own_ne e3 hbb (by decide)).symm
    refine ⟨xs1 ++ xs2, by rw [List.length_append, ← a1, ← b1], by rw [List.map_append, ← a2, ← b2], by rw [List.flatMap_append]; exact ho, fun x hx => ?_, hPw⟩
    rcases List.mem_append.1 hx with hx | hx
    . exact (e4 x hx).block hno
    . exact ((b4 x hx).base hB).block hno
  rcases b3.2 with ⟨hv, h0⟩ | ⟨g, cap2, cur, hv, -⟩
  . have hx2 : xs2 = [] := List.length_eq_zero_iff.1 (by rw [← b1]; exact h0)
    subst hx2
    rw [hv]
    subst h0
    refine ⟨ao1, c1, w, run_append_owned_none (P := Tryz.prog) (w := w) B _ ty _ i0 6 Tryz.underlying22 hi _ n1 _ e3, fin w ao1 c1 ?_ (grown_refl _ _), grown_refl _ _⟩
    simpa using e3
  . simp only [Value.slice.injEq] at hv
    obtain ⟨rfl, -, rfl⟩ := hv
    obtain ⟨v', w', hr, ho, hg, _, _⟩ := run_append_own_at (P := Tryz.prog) w B 22 ty 37 i0 _ 6 64 Tryz.underlying22 hi hz0 hz1 hz2 rfl (by decide) _ n1 _ e3 ⟨g, 0, none⟩ n2 c2 (xs2.flatMap opC) b3.1 (fun j u hu => by rw [Addr.add_lit, Nat.zero_add]; exact own_at b3 _ _ hu) (opC_one (w := w) fun x hx => (b4 x hx).isI) (by unfold maxLen; omega) (by omega) (by omega)
    rw [ob_eq] at hg
    obtain ⟨ao, cap, rfl⟩ : ∃ ao cap, v' = .slice ao (n1 + n2) cap := by
      rcases ho.2 with ⟨e, e0⟩ | ⟨g', cap', cur', e, -⟩
      . exact ⟨none, 0, by rw [e, e0]⟩
      . exact ⟨_, cap', e⟩
    exact ⟨ao, cap, w', hr, fin w' ao cap ho hg, hg⟩
theorem list_app_opsE {ops : Array Oper} {rest : List Oper} {o : Oper} {a : Act} {Q : Exit -> Act -> World -> Prop} {w : World} (hgd : o.guard = none) (s x : Operand)
    (ho : o.op = .call { callee := .builtin .append, args := #[s, x], argTypes := #[22, 22] }) {B E : Nat} {ao1 ao2 : Option Addr} {n1 c1 n2 c2 : Nat} {l1 l2 : List COp} (hs : a.eval s = .slice ao1 n1 c1) (hx : a.eval x = .slice ao2 n2 c2)
    (h1 : OpsE w B E ao1 n1 c1 l1) (h2 : OpsOwn w E ao2 n2 c2 l2) (hB : B <= E) (hE : E <= w.heap.size) (hlen : n1 + n2 <= 2199023255552)
    (h : ∀ ao cap w', OpsOwn w' B ao (n1 + n2) cap (l1 ++ l2) -> w.grownBy w' (ob ao1) -> wpList Tryz.prog ops Q rest (a.put o.dst (.slice ao (n1 + n2) cap)) w') : wpList Tryz.prog ops Q (o :: rest) a w := by
  refine wpList_plain hgd fun K hK => ?_
  obtain ⟨ao, cap, w', hr, h3, h4⟩ := run_append_opsE h1 h2 hB hE hlen o.type
  unfold Oper.wp execOp
  simp only [ho, resolve, invoke, builtin, Sem.run_bind, Sem.run_pure, Result.andThen_ok, List.map_toArray, List.map_cons, List.map_nil, hs, hx, hr]
  exact hK _ _ (h ao cap w' h3 h4)
abbrev Zc : Obj := .cells #[.int .i64 0, .int .i64 0, .slice none 0 0] 24
structure Pr2 (W0 : World) (B n1 n2 : Nat) (l1 l2 : List COp) (x y : Option Nat) (d1 : Option (Nat × Option Addr × Nat)) (d2 : Option (Option Addr × Nat)) (V : World) : Prop where
  bel : Below W0.heap.size W0 V
  hx : ∀ g, x = some g -> W0.heap.size <= g /\ V.heap[g]? = some Zc
  hy : ∀ g, y = some g -> W0.heap.size <= g /\ V.heap[g]? = some Zc
  ne : ∀ g, x = some g -> y = some g -> False
  h1 : ∀ E bo j, d1 = some (E, bo, j) -> OpsE V B E bo n1 j l1 /\ E <= V.heap.size /\ W0.heap.size <= E
  h2 : ∀ bo j, d2 = some (bo, j) -> ∃ E bo1 j1, d1 = some (E, bo1, j1) /\ OpsOwn V E bo n2 j l2
section
variable {W0 V v : World} {B n1 n2 : Nat} {l1 l2 : List COp} {x y : Option Nat} {d1 : Option (Nat × Option Addr × Nat)} {d2 : Option (Option Addr × Nat)}
theorem Pr2.start (h : Below W0.heap.size W0 V) : Pr2 W0 B n1 n2 l1 l2 none none none none V := ⟨h, (fun _ e => by cases e), (fun _ e => by cases e), (fun _ e => by cases e), (fun _ _ _ e => by cases e), (fun _ _ e => by cases e)⟩
theorem Pr2.next (h : Pr2 W0 B n1 n2 l1 l2 x y d1 d2 V) (hb : Below V.heap.size V v) : Pr2 W0 B n1 n2 l1 l2 x y d1 d2 v :=
  ⟨h.bel.trans (hb.mono h.bel.size), fun g e => ⟨(h.hx g e).1, (hb.block g (Array.getElem?_eq_some_iff.1 (h.hx g e).2).1).trans (h.hx g e).2⟩, fun g e => ⟨(h.hy g e).1, (hb.block g (Array.getElem?_eq_some_iff.1 (h.hy g e).2).1).trans (h.hy g e).2⟩, h.ne, fun E bo j e => ⟨(h.h1 E bo j e).1.below hb, Nat.le_trans (h.h1 E bo j e).2.1 hb.size, (h.h1 E bo j e).2.2⟩, fun bo j e => by
    obtain ⟨E, bo1, j1, e1, hO⟩ := h.h2 bo j e
    exact ⟨E, bo1, j1, e1, hO.below hb⟩⟩
theorem Pr2.allocX (h : Pr2 W0 B n1 n2 l1 l2 none y d1 d2 V) : Pr2 W0 B n1 n2 l1 l2 (some V.heap.size) y d1 d2 (V.alloc Zc) := by
  have h' := h.next (bnew V Zc)
  refine ⟨h'.bel, fun g e => ?_, h'.hy, fun g e e2 => ?_, h'.h1, h'.h2⟩
  . cases e
    exact ⟨h.bel.size, heap_alloc_new _ _⟩
  . cases e
    have := (Array.getElem?_eq_some_iff.1 (h.hy _ e2).2).1
    omega
theorem Pr2.allocY (h : Pr2 W0 B n1 n2 l1 l2 x none d1 d2 V) : Pr2 W0 B n1 n2 l1 l2 x (some V.heap.size) d1 d2 (V.alloc Zc) := by
  have h' := h.next (bnew V Zc)
  refine ⟨h'.bel, h'.hx, fun g e => ?_, fun g e2 e => ?_, h'.h1, h'.h2⟩
  . cases e
    exact ⟨h.bel.size, heap_alloc_new _ _⟩
  . cases e
    have := (Array.getElem?_eq_some_iff.1 (h.hx _ e2).2).1
    omega
theorem Pr2.call1 (h : Pr2 W0 B n1 n2 l1 l2 x y none none V) (hb : Below V.heap.size V v) {bo : Option Addr} {j : Nat} (hO : OpsOwn v V.heap.size bo n1 j l1) (hB : B <= W0.heap.size) : Pr2 W0 B n1 n2 l1 l2 x y (some (v.heap.size, bo, j)) none v := by
  have h' := h.next hb
  refine ⟨h'.bel, h'.hx, h'.hy, h'.ne, fun E bo' j' e => ?_, (fun _ _ e => by cases e)⟩
  cases e
  exact ⟨hO.upto.base (Nat.le_trans hB h.bel.size), Nat.le_refl _, h'.bel.size⟩
theorem Pr2.call2 {d : Nat × Option Addr × Nat} (h : Pr2 W0 B n1 n2 l1 l2 x y (some d) none V) (hb : Below V.heap.size V v) {bo : Option Addr} {j : Nat} (hO : OpsOwn v V.heap.size bo n2 j l2) : Pr2 W0 B n1 n2 l1 l2 x y (some d) (some (bo, j)) v := by
  have h' := h.next hb
  refine ⟨h'.bel, h'.hx, h'.hy, h'.ne, h'.h1, fun bo' j' e => ?_⟩
  cases e
  obtain ⟨E, bo1, j1⟩ := d
  exact ⟨E, bo1, j1, rfl, hO.base (h.h1 E bo1 j1 rfl).2.1⟩
theorem Pr2.done {gx gy E j1 j2 : Nat} {bo1 bo2 : Option Addr} (h : Pr2 W0 B n1 n2 l1 l2 (some gx) (some gy) (some (E, bo1, j1)) (some (bo2, j2)) V) (c1 c2 : Array Value) : Below W0.heap.size W0 ((V.setRow gx c1).setRow gy c2) /\ ((V.setRow gx c1).setRow gy c2).heap[gx]? = some (.cells c1 24 (0, 0)) /\ ((V.setRow gx c1).setRow gy c2).heap[gy]? = some (.cells c2 24 (0, 0)) /\ gx ≠ gy /\ OpsE ((V.setRow gx c1).setRow gy c2) B E bo1 n1 j1 l1 /\ OpsOwn ((V.setRow gx c1).setRow gy c2) E bo2 n2 j2 l2 /\ E <= ((V.setRow gx c1).setRow gy c2).heap.size /\ W0.heap.size <= E /\ W0.heap.size <= gx /\ W0.heap.size <= gy := by
  obtain ⟨a1, a2⟩ := h.hx gx rfl
  obtain ⟨b1, b2⟩ := h.hy gy rfl
  have hne : gx ≠ gy := fun e => h.ne gx rfl (by rw [e])
  obtain ⟨o1, o2, o3⟩ := h.h1 E bo1 j1 rfl
  obtain ⟨E', bo', j', e', p1⟩ := h.h2 bo2 j2 rfl
  cases e'
  have b3 : (V.setRow gx c1).heap[gy]? = some Zc := (setRow_other _ _ _ _ hne.symm).trans b2
  refine ⟨Below.row (Below.row h.bel _ _ a1) _ _ b1, (setRow_other _ _ _ _ hne).trans (setRow_heap _ _ _ _ _ _ a2), setRow_heap _ _ _ _ _ _ b3, hne, (o1.row a2 _).row b3 _, (p1.row a2 (by decide) (by decide) _).row b3 (by decide) (by decide) _, by simpa [World.setRow] using o2, o3, a1, b1⟩
end
end Go.Proofs.YtkbodljmkhnebabGreatDoor.Cir
