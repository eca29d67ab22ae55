import Derived.Test.YtoickolhekhgmaaGreatDoorEn411ea6bd
namespace Go.Proofs.YtoickolhekhgmaaGreatDoor.Gt
end Go.Proofs.YtoickolhekhgmaaGreatDoor.Gt
namespace Go.Proofs.YtoickolhekhgmaaGreatDoor.Oct
end Go.Proofs.YtoickolhekhgmaaGreatDoor.Oct
set_option maxRecDepth 100000
set_option maxHeartbeats 4000000
namespace Go.Proofs.YtoickolhekhgmaaGreatDoor.Pau
open Go.RowKit Go.Shelf Go.Proofs.YtoickolhekhgmaaGreatDoor.Oct Go.Proofs.YtoickolhekhgmaaGreatDoor.Gt
theorem cl_conv : ∀ k : Fin 18, 1 <= k.1 -> clB (tab.getD k.1 r0) = true := by decide
theorem cl_in {k : Int} (h : 1 <= k /\ k < 18) : clB (rw' k) = true := by
  unfold rw'
  rw [if_pos (by omega)]
  exact cl_conv ⟨k.toNat, by omega⟩ (by show 1 <= k.toNat; omega)
theorem cl_iff {k : Int} : clB (rw' k) = decide (1 <= k /\ k < 18) := by
  by_cases h : 1 <= k /\ k < 18
  . rw [decide_eq_true h]; exact cl_in h
  . rw [decide_eq_false h]
    cases hc : clB (rw' k) with
    | false => rfl
    | true => exact absurd (cl_rng hc) (by omega)
def imN (k : Int) : Nat := if 1 <= k /\ k < 18 then 2 * ar k.toNat else 0
theorem dImages (k : Int) (w : World) : Calls Tryz.prog 43 #[.int .i64 k] w fun e w' => ∃ a, e = .returned (.slice a (imN k) (imN k)) /\ Below w.heap.size w w' := by
  unfold imN
  by_cases h : 1 <= k /\ k < 18
  . rw [if_pos h]
    have ek : ((k.toNat : Nat) : Int) = k := by omega
    have := dImages_ok k.toNat (by omega) (by omega) w
    rw [ek] at this
    refine this.mono ?_
    rintro e w' ⟨g, rfl, -, hb⟩
    exact ⟨_, rfl, hb⟩
  . rw [if_neg h]
    refine (dImages_no k h w).mono ?_
    rintro e w' ⟨rfl, rfl⟩
    exact ⟨_, rfl, Below.refl _ _⟩
theorem dThrough_no (p : P) (hp : Wd p) (k : Int) (l : List Int) (hf : thrOk k l p = false) (hl : l.length <= 1000000000000000) (ao : Option Addr) (c : Nat) (w : World) (hN : Ns w ao l) :
    Calls Tryz.prog 15 #[pV p, .int .i64 k, .slice ao l.length c] w fun e w' => e = .returned (.tuple #[pV oP, .int .i64 130]) /\ Below w.heap.size w w' := by
  have c0 := fun W => dImages k W
  have c1 := fun W => dRight p hp W
  have c3 := fun W (h : Below w.heap.size w W) => hCheck k ao c l p.n hl W (hN.below h)
  unfold thrOk at hf
  rw [chk_same, cl_iff] at hf
  generalize hck : hchP k l p.n = z1 at *
  have hi : (decide (1 <= k /\ k < 18) = false /\ imN k = 0) ∨ (decide (1 <= k /\ k < 18) = true /\ 1 <= imN k) := by
    unfold imN
    by_cases h : 1 <= k /\ k < 18
    . right
      rw [if_pos h]
      exact ⟨decide_eq_true h, by have := ar_pos k.toNat; omega⟩
    . left
      rw [if_neg h]
      exact ⟨decide_eq_false h, rfl⟩
  generalize imN k = m2 at *
  generalize decide (1 <= k /\ k < 18) = b1 at *
  generalize rt p = r at *
  obtain ⟨n, x, z, ph⟩ := p
  unfold oP pV at *
  simp only at *
  obtain ⟨G1, G2⟩ := At4.two w (.int .i64 n) (.int .u64 (x : Int)) (.int .u64 (z : Int)) (.int .i64 ph) (.int .i64 0) (.int .u64 0) (.int .u64 0) (.int .i64 0)
  have HG1 := hide G1
  have HG2 := hide G2
  have HBw := hide (bkp (bnew w (.cells #[.int .i64 n, .int .u64 (x : Int), .int .u64 (z : Int), .int .i64 ph] 27)) (bnew _ (.cells #[.int .i64 0, .int .u64 0, .int .u64 0, .int .i64 0] 27)))
  clear G1 G2 hN hp
  generalize l.length = m at *
  go_enter Tryz.func15, Tryz.ntmps15
  go_wp2_with fail
  refine (c0 _).mono ?_
  rintro e w0 ⟨ga, rfl, hb0⟩
  have HB0 := hide (bkp HBw.out hb0)
  have K1 := hide (HG1.out.below hb0)
  have K2 := hide (HG2.out.below hb0)
  obtain ⟨x0, x1, x2, x3, x4⟩ := K1.out.cells
  clear hb0 HG1 HG2 HBw c0
  go_wp2_with fail
  refine (c1 _).mono ?_
  rintro e w1 ⟨rfl, hb1⟩
  have HB1 := hide (bkp HB0.out hb1)
  have L1 := hide (K1.out.below hb1)
  have L2 := hide (K2.out.below hb1)
  clear hb1 K1 K2 HB0 c1 x0 x1 x2 x3 x4
  obtain ⟨x0, x1, x2, x3, x4⟩ := L1.out.cells
  cases r
  . have hR := L2.out
    clear c3 hi hf
    unfold At4 at hR
    go_wp2_with (first
      | (refine wpList_store_row rfl _ _ _ rfl (w.heap.size + 1) _ rfl rfl _ _ hR (by exact infoP) (by rfl) (allP _ _ _ _) ?_))
    refine bodyPost_ret (results_ct rfl _ _ (w.heap.size + 1) _ _ _ _ rfl (setRow_heap _ _ _ _ _ _ hR) Tryz.underlying27 rfl (by exact infoP)) rfl ?_
    exact ⟨rfl, below_setRow HB1.out (by omega) _⟩
  . rcases hi with ⟨rfl, rfl⟩ | ⟨rfl, hi⟩
    . have hR := L2.out
      clear c3 hf
      unfold At4 at hR
      go_wp2_with (first
        | (refine wpList_store_row rfl _ _ _ rfl (w.heap.size + 1) _ rfl rfl _ _ hR (by exact infoP) (by rfl) (allP _ _ _ _) ?_))
      refine bodyPost_ret (results_ct rfl _ _ (w.heap.size + 1) _ _ _ _ rfl (setRow_heap _ _ _ _ _ _ hR) Tryz.underlying27 rfl (by exact infoP)) rfl ?_
      exact ⟨rfl, below_setRow HB1.out (by omega) _⟩
    . have hme : ((m2 : Int) == 0) = false := beq_eq_false_iff_ne.2 (by omega)
      have hz : z1 ≠ 0 := fun e => by subst e; simp at hf
      have hz' : (z1 != 0) = true := bne_iff_ne.2 hz
      clear hf hz hck
      go_wp2_with fail
      refine (c3 _ HB1.out).mono ?_
      rintro e w3 ⟨rfl, hb3⟩
      have hR := L2.out.below hb3
      have HB3 := hide (bkp HB1.out hb3)
      clear hb3 x0 x1 x2 x3 x4 L1 L2 c3
      unfold At4 at hR
      go_wp2_with (first
        | (refine wpList_store_row rfl _ _ _ rfl (w.heap.size + 1) _ rfl rfl _ _ hR (by exact infoP) (by rfl) (allP _ _ _ _) ?_))
      refine bodyPost_ret (results_ct rfl _ _ (w.heap.size + 1) _ _ _ _ rfl (setRow_heap _ _ _ _ _ _ hR) Tryz.underlying27 rfl (by exact infoP)) rfl ?_
      exact ⟨rfl, below_setRow HB3.out (by omega) _⟩
theorem chk_nd {k : Int} {l : List Int} {n : Int} (h : chkP k l n = 0) (hq : (rw' k).q = 1 ∨ (rw' k).q = 2) : (l.map Int.toNat).Nodup /\ (l.length : Int) = (rw' k).q := by
  unfold chkP at h
  split at h
  . cases h
  . split at h
    . cases h
    . rename_i h1 h2
      have h2' : apP (rw' k).q l = true := by simpa using h2
      unfold apP at h2'
      rw [Bool.and_eq_true] at h2'
      have hlen := of_decide_eq_true h2'.1
      refine ⟨?_, hlen⟩
      have hg := h2'.2
      match l, hlen, hg with
      | [], _, _ => exact List.nodup_nil
      | [a], _, _ => simp
      | [a, b], _, hg =>
        simp [apG] at hg
        have h0 : 0 <= a := hg.1
        have h3 : 0 <= b /\ ¬ b = a := hg.2
        show [a.toNat, b.toNat].Nodup
        simp only [List.nodup_cons, List.mem_singleton, List.not_mem_nil, not_false_eq_true, List.nodup_nil, and_true]
        omega
      | a :: b :: c :: t, hlen, _ => simp at hlen; omega
theorem dThrough (p : P) (hp : Wd p) (k : Int) (l : List Int) (hl : l.length <= 1000000000000000) (ao : Option Addr) (c : Nat) (w : World) (hN : Ns w ao l) :
    Calls Tryz.prog 15 #[pV p, .int .i64 k, .slice ao l.length c] w fun e w' => e = .returned (.tuple #[pV (thrR k l p).1, .int .i64 (thrR k l p).2]) /\ Below w.heap.size w w' := by
  unfold thrR
  cases hf : thrOk k l p with
  | false =>
    rw [if_neg (by decide)]
    exact dThrough_no p hp k l hf hl ao c w hN
  | true =>
    rw [if_pos rfl]
    unfold thrOk at hf
    rw [Bool.and_eq_true, Bool.and_eq_true, decide_eq_true_eq] at hf
    obtain ⟨⟨h1, h2⟩, h3⟩ := hf
    obtain ⟨k1, k2, k3⟩ := cl_rng h2
    have hn := (rt_iff.1 h1).2.1
    obtain ⟨e1, e2⟩ := chk_qs h3 (by rw [k3]; split <;> omega) hn (by rw [k3]; split <;> omega)
    obtain ⟨e3, e4⟩ := chk_nd h3 (by rw [k3]; split <;> omega)
    have ek : ((k.toNat : Nat) : Int) = k := by omega
    have hlen : (l.map Int.toNat).length = l.length := List.length_map ..
    have hq : Ql k.toNat (l.map Int.toNat) p.n := ⟨by omega, by omega, by
      rw [hlen]
      unfold ar
      rw [k3] at e4
      split at e4 <;> split <;> omega, e3, e2.inn, hn⟩
    have := dThrough_ok p hp h1 k.toNat (l.map Int.toNat) hq (by rw [ek, e1, ← chk_same]; exact h3) ao c w (by rw [e1]; exact hN)
    rw [ek, thf_same hq h1 _ (Nat.le_of_eq hq.len), hlen] at this
    show Calls Tryz.prog _ _ _ fun e w' => e = .returned (.tuple #[pV (thf k.toNat (l.map Int.toNat) p (l.map Int.toNat).length), .int .i64 0]) /\ _
    rw [hlen]
    exact this
end Go.Proofs.YtoickolhekhgmaaGreatDoor.Pau
