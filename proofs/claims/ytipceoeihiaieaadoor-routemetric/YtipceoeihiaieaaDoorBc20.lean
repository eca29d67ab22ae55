/- Layer 20: the program's step. -/
import Derived.Test.YtipceoeihiaieaaDoorBb20
namespace Go.Proofs.YtipceoeihiaieaaDoor.Rou
open Go.RowKit

theorem find_take {α : Type} (P : α → Bool) (l : List α) (t : Nat) (p : α) (hp : l[t]? = some p) (hn : ∀ x, x ∈ l.take t → P x = false) (h : P p = true) : l.find? P = some p := by
  have e : l = l.take t ++ p :: l.drop (t + 1) := by
    have h1 := List.take_append_drop t l
    have hlt := (List.getElem?_eq_some_iff.1 hp).1
    rw [List.drop_eq_getElem_cons hlt, (List.getElem?_eq_some_iff.1 hp).2] at h1
    exact h1.symm
  rw [e, List.find?_append, List.find?_eq_none.2 (fun x hx e => by rw [hn x hx] at e; cases e)]
  simp [h]
set_option maxRecDepth 100000 in
set_option maxHeartbeats 4000000 in
theorem rNearer (B C Z a : Nat) (N : Int) (ao : Nat → Option Addr) (cp : Nat → Nat) (L : Nat → List Pr) (far : List Int) (ha : a < 64) (hlen : far.length = 64) (hb : ∀ k, k < 64 → -1 ≤ far.getD k 0 ∧ far.getD k 0 ≤ 64) (hr : ∀ p, p ∈ L a → 0 ≤ p.2 ∧ p.2 < 64) (hs : (L a).length ≤ 1000) (w : World) (hC : Ch w B C N ao cp L) (hZ : IB w Z far) : Calls Tryd.prog 35 #[.pointer (some ⟨C, 0, none⟩), .int .i64 (a : Int), .pointer (some ⟨Z, 0, none⟩)] w fun e w' => e = .returned (.int .i64 (near far (L a) a)) ∧ Below w.heap.size w w' := by
  have x0 := hC.cell.2.1 a ha
  have x1 := hC.cell.2.2.2
  have HZ := hide hZ
  have HLN := hide hlen
  have HR := hide hr
  have hPA := (hC.own a ha).at
  have HPA := hide hPA
  have haI : (a : Int) < 64 := by omega
  obtain ⟨fb1, fb2⟩ := hb a ha
  obtain ⟨m, hm⟩ : ∃ m, (L a).length = m := ⟨_, rfl⟩
  have HM := hide hm
  rw [hm] at x0 hs
  have HNR : Hid (∀ z : Int, ((∃ p, (L a).find? (fun p => decide (far.getD p.2.toNat 0 = far.getD a 0 - 1)) = some p ∧ p.2 = z) ∨ ((L a).find? (fun p => decide (far.getD p.2.toNat 0 = far.getD a 0 - 1)) = none ∧ z = (a : Int))) → near far (L a) a = z) := hide (fun z h => by
    unfold near
    rcases h with ⟨p, h1, h2⟩ | ⟨h1, h2⟩
    · rw [h1]; exact h2
    · rw [h1]; exact h2.symm)
  generalize near far (L a) a = R at *
  generalize hao : ao a = aa at *
  have HAO := hide hao
  clear hZ hr hPA hm hC hao
  go_enter Tryd.func35, Tryd.ntmps35
  go_wp2_with fail
  go_loopw [16] (fun vt wr => ∃ t : Nat, vt = .int .i64 (t : Int) ∧ t ≤ m ∧ Hid (Below w.heap.size w wr) ∧ Hid (∀ p, p ∈ (L a).take t → decide (far.getD p.2.toNat 0 = far.getD a 0 - 1) = false)) (fun vt _ => m - (Go.RowKit.intOf vt).toNat)
  case atStart => exact ⟨0, rfl, Nat.zero_le _, hide (Below.refl _ _), hide (fun p hp => by simp at hp)⟩
  case round =>
    obtain ⟨t, rfl, ht, HB, HT⟩ := hrel
    by_cases h : t < m
    · have hd : decide ((t : Int) < (m : Int)) = true := decide_eq_true (by omega)
      have htt : (t : Int) < (m : Int) := by omega
      obtain ⟨⟨pu, pv⟩, hp⟩ : ∃ p, (L a)[t]? = some p := ⟨_, List.getElem?_eq_getElem (by rw [HM.out]; exact h)⟩
      have hpr := HR.out _ (List.mem_of_getElem? hp)
      simp only at hpr
      obtain ⟨b, rfl⟩ : ∃ b : Nat, pv = (b : Int) := ⟨pv.toNat, by omega⟩
      have hb64 : b < 64 := by omega
      have hbI : (b : Int) < 64 := by omega
      have HP := hide hp
      have hpa := HPA.out.below HB.out
      rcases hpa with hpa | ⟨gp, op, rfl, hpa⟩
      · rw [hpa] at hp
        simp at hp
      obtain ⟨k2, k3⟩ := hpa t _ hp
      simp only at k2 k3
      have hgp := World.block_lt_of_cell? _ _ k2
      have hz2 : IB (wr.alloc (.cells #[.int .i64 pu, .int .i64 (b : Int)] 33)) Z far := ((bkp HB.out (bnew wr (.cells #[.int .i64 pu, .int .i64 (b : Int)] 33))).block Z (Array.getElem?_eq_some_iff.1 HZ.out).1).trans HZ.out
      obtain ⟨z0, z1, z2⟩ := hz2.cell (j := a) (by rw [HLN.out]; exact ha)
      obtain ⟨y0, y1, y2⟩ := hz2.cell (j := b) (by rw [HLN.out]; exact hb64)
      obtain ⟨p0, p1, p2⟩ := m_cells (heap_alloc_new wr (.cells #[.int .i64 pu, .int .i64 (b : Int)] 33))
      have HB2 := hide (bkp HB.out (bnew wr (.cells #[.int .i64 pu, .int .i64 (b : Int)] 33)))
      have hwr : IntKind.i64.wrap (far.getD a 0 - 1) = far.getD a 0 - 1 := by
        rw [IntKind.wrap_i64]
        omega
      clear hp hpa hz2
      by_cases he : far.getD b 0 = far.getD a 0 - 1
      · have e1 : (far.getD b 0 == far.getD a 0 - 1) = true := beq_iff_eq.2 he
        have HF : Hid (R = (b : Int)) := hide (HNR.out b (.inl ⟨_, find_take _ _ t _ HP.out HT.out (by simp only [Int.toNat_natCast]; exact decide_eq_true he), rfl⟩))
        generalize far.getD b 0 = fb at *
        generalize far.getD a 0 = fa at *
        clear he
        go_wp2_with fail
        go_region
        go_wp2_with fail
        go_ret
        exact ⟨by rw [HF.out]; rfl, drewB HB2.out⟩
      · have e1 : (far.getD b 0 == far.getD a 0 - 1) = false := beq_eq_false_iff_ne.2 he
        have HT2 : Hid (∀ p, p ∈ (L a).take (t + 1) → decide (far.getD p.2.toNat 0 = far.getD a 0 - 1) = false) := hide (fun p hpm => by
          rw [List.take_add_one, HP.out] at hpm
          rcases List.mem_append.1 hpm with h1 | h1
          · exact HT.out p h1
          · have := List.mem_singleton.1 h1
            subst this
            simp only [Int.toNat_natCast]
            exact decide_eq_false he)
        obtain ⟨fb, hfb⟩ : ∃ x, far.getD b 0 = x := ⟨_, rfl⟩
        rw [hfb] at y0 e1
        obtain ⟨fa, hfa⟩ : ∃ x, far.getD a 0 = x := ⟨_, rfl⟩
        rw [hfa] at z0 hwr e1
        clear he
        go_wp2_with fail
        go_region
        go_wp2_with fail
        go_roundw
        case rel => exact ⟨t + 1, by go_num, by omega, hide (drewB HB2.out), HT2⟩
        case measure => simp [Go.RowKit.intOf]; omega
    · have hte : t = m := by omega
      have hd : decide ((t : Int) < (m : Int)) = false := decide_eq_false (by omega)
      have HF : Hid (R = (a : Int)) := hide (HNR.out a (.inr ⟨List.find?_eq_none.2 (fun p hp e => by
        have := HT.out p (by rw [hte, ← HM.out, List.take_length]; exact hp)
        rw [this] at e
        cases e), rfl⟩))
      go_wp2_with fail
      go_ret
      exact ⟨by rw [HF.out]; rfl, HB.out⟩
end Go.Proofs.YtipceoeihiaieaaDoor.Rou
