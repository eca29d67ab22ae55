/- The document's one, as it is walked: the end, a name, a quoted text. -/
import Derived.Test.YtinbbcojilogeaaDoorMg
namespace Go.Proofs.YtinbbcojilogeaaDoor.Tok
open Go.RowKit Go.Shelf Go.Proofs.YtinbbcojilogeaaDoor.Oct

def Alls (p : UInt8 → Bool) (s : ByteArray) (a b : Nat) : Prop := ∀ j, a ≤ j → j < b → ∃ c, By s j c ∧ p c = true
theorem inW_false (c : UInt8) (h : inW c = false) : isL c = false ∧ isD c = false := by simpa [inW] using h
set_option maxRecDepth 100000 in
set_option maxHeartbeats 2000000 in
theorem one_end (s : ByteArray) (L i : Nat) (w : World) (hsz : s.size = L) (h : L ≤ i) : Calls Tryd.prog 32 #[.string s, .int .i64 (i : Int)] w fun e w' => (∃ x, e = .returned (oneV (.tok 0 [] 0 0) i x)) ∧ Below w.heap.size w w' := by
  have h' : (L : Int) ≤ (i : Int) := by omega
  have hu : s.size = L := hsz
  clear hu
  go_enter Tryd.func32, Tryd.ntmps32
  go_wp2_with fail
  refine bodyPost_ret (results_ctt rfl _ _ w.heap.size _ _ _ _ rfl (heap_alloc_new _ _) Tryd.underlying37 rfl infoTok) rfl ?_
  exact ⟨⟨0, rfl⟩, below_new _ _⟩
set_option maxRecDepth 100000 in
set_option maxHeartbeats 2000000 in
theorem one_name (s sw : ByteArray) (L i K : Nat) (b : UInt8) (w : World) (hL : L ≤ 140737488355328) (hsz : s.size = L) (hiK : i < K) (hKL : K ≤ L) (hb : By s i b) (hbl : isL b = true) (Hall : Hid (Alls inW s i K)) (Hend : Hid (Stop s L K inW)) (hxw : s.extract i K = sw) (tl : List UInt8) (htl : (⟨tl.toArray⟩ : ByteArray) = sw) (C : Cut) (HC : Hid (C = if 32 < K - i then .bad 42 else .tok 1 tl 0 (K - i))) :
    Calls Tryd.prog 32 #[.string s, .int .i64 (i : Int)] w fun e w' => (∃ x, e = .returned (oneV C i x)) ∧ Below w.heap.size w w' := by
  have hb0 := hb (by omega)
  have h' : ¬ (L : Int) ≤ (i : Int) := by omega
  have cb := fun w => dLetter b w
  rw [hbl] at cb
  have Htl := hide htl
  clear htl hb hbl
  go_enter Tryd.func32, Tryd.ntmps32
  go_wp2_with (go_at_call 26; refine (cb _).mono ?_; rintro e w1 ⟨rfl, hw⟩; obtain rfl := hw.symm)
  clear cb
  go_loopw [7] (fun x wz => wz = w.alloc (.cells #[.int .i64 0, .string ⟨#[]⟩, .int .i64 0, .int .i64 0, .int .i64 0, .int .i64 0] 37) ∧ ∃ j : Nat, i ≤ j ∧ j ≤ K ∧ x = .int .i64 (j : Int)) (fun x _ => K - (RowKit.intOf x).toNat)
  case atStart => exact ⟨rfl, i, Nat.le_refl _, by omega, rfl⟩
  case round =>
    rcases hrel with ⟨rfl, j, h1j, h2j, rfl⟩
    by_cases hjk : j < K
    · obtain ⟨c, hc1, hc2⟩ := Hall.out j h1j hjk
      have hcj := hc1 (by omega)
      have hjL : (j : Int) < (L : Int) := by omega
      have cl := fun w => dLetter c w
      have cd := fun w => dDigit c w
      cases hcl : isL c with
      | true =>
        rw [hcl] at cl
        clear hc1 hc2 hcl hb0 cd
        go_wp2_with (go_at_call 26; refine (cl _).mono ?_; rintro e w1 ⟨rfl, hw⟩; obtain rfl := hw.symm)
        exact ⟨⟨trivial, j + 1, by omega, by omega, by go_num⟩, by simp [RowKit.intOf]; omega⟩
      | false =>
        have hcd : isD c = true := by simpa [inW, hcl] using hc2
        rw [hcl] at cl
        rw [hcd] at cd
        clear hc1 hc2 hcl hcd hb0
        go_wp2_with (first | (go_at_call 26; refine (cl _).mono ?_; rintro e w1 ⟨rfl, hw⟩; obtain rfl := hw.symm) | (go_at_call 27; refine (cd _).mono ?_; rintro e w1 ⟨rfl, hw⟩; obtain rfl := hw.symm))
        exact ⟨⟨trivial, j + 1, by omega, by omega, by go_num⟩, by simp [RowKit.intOf]; omega⟩
    · obtain rfl : K = j := by omega
      clear hjk h1j h2j
      by_cases h32 : 32 < K - i
      · have h32' : (32 : Int) < (K : Int) - (i : Int) := by omega
        have HC2 : Hid (C = .bad 42) := hide (by rw [HC.out, if_pos h32])
        clear HC h32
        rcases Hend.out with hE | ⟨hE, c, hc, hd⟩
        · have hE' : ¬ (K : Int) < (L : Int) := by omega
          clear hE
          go_wp2_with fail
          refine bodyPost_ret (results_ctt rfl _ _ w.heap.size _ _ _ _ rfl (heap_alloc_new _ _) Tryd.underlying37 rfl infoTok) rfl ?_
          rw [HC2.out]
          exact ⟨⟨_, rfl⟩, below_new _ _⟩
        · have hE' : (K : Int) < (L : Int) := by omega
          have hc' := hc (by omega)
          obtain ⟨hf1, hf2⟩ := inW_false c hd
          have cl := fun w => dLetter c w
          have cd := fun w => dDigit c w
          rw [hf1] at cl
          rw [hf2] at cd
          clear hc hd hf1 hf2
          go_wp2_with (first | (go_at_call 26; refine (cl _).mono ?_; rintro e w1 ⟨rfl, hw⟩; obtain rfl := hw.symm) | (go_at_call 27; refine (cd _).mono ?_; rintro e w1 ⟨rfl, hw⟩; obtain rfl := hw.symm))
          refine bodyPost_ret (results_ctt rfl _ _ w.heap.size _ _ _ _ rfl (heap_alloc_new _ _) Tryd.underlying37 rfl infoTok) rfl ?_
          rw [HC2.out]
          exact ⟨⟨_, rfl⟩, below_new _ _⟩
      · have h32' : ¬ (32 : Int) < (K : Int) - (i : Int) := by omega
        have HC2 : Hid (C = .tok 1 tl 0 (K - i)) := hide (by rw [HC.out, if_neg h32])
        clear HC h32
        have hKe : i + (K - i) = K := by omega
        have HKe := hide hKe
        clear hKe
        rcases Hend.out with hE | ⟨hE, c, hc, hd⟩
        · have hE' : ¬ (K : Int) < (L : Int) := by omega
          clear hE
          go_wp2_with fail
          refine bodyPost_ret (results_ctt rfl _ _ w.heap.size _ _ _ _ rfl (heap_alloc_new _ _) Tryd.underlying37 rfl infoTok) rfl ?_
          refine ⟨⟨0, ?_⟩, below_new _ _⟩
          rw [HC2.out, oneV, tokV, HKe.out, Htl.out]
          rfl
        · have hE' : (K : Int) < (L : Int) := by omega
          have hc' := hc (by omega)
          obtain ⟨hf1, hf2⟩ := inW_false c hd
          have cl := fun w => dLetter c w
          have cd := fun w => dDigit c w
          rw [hf1] at cl
          rw [hf2] at cd
          clear hc hd hf1 hf2
          go_wp2_with (first | (go_at_call 26; refine (cl _).mono ?_; rintro e w1 ⟨rfl, hw⟩; obtain rfl := hw.symm) | (go_at_call 27; refine (cd _).mono ?_; rintro e w1 ⟨rfl, hw⟩; obtain rfl := hw.symm))
          refine bodyPost_ret (results_ctt rfl _ _ w.heap.size _ _ _ _ rfl (heap_alloc_new _ _) Tryd.underlying37 rfl infoTok) rfl ?_
          refine ⟨⟨0, ?_⟩, below_new _ _⟩
          rw [HC2.out, oneV, tokV, HKe.out, Htl.out]
          rfl
set_option maxRecDepth 100000 in
set_option maxHeartbeats 2000000 in
theorem one_quo (C : Cut) (tl : List UInt8) (s sw : ByteArray) (L i K : Nat) (b : UInt8) (w : World) (hL : L ≤ 140737488355328) (hsz : s.size = L) (hiK : i + 1 ≤ K) (hKL : K ≤ L) (hb : By s i b) (hbl : isL b = false) (hbd : isD b = false) (h34 : ((b.toNat : Int) == 34) = true) (Hall : Hid (Alls inQ s (i + 1) K)) (Hend : Hid ((K = L ∧ C = .bad 43) ∨ (K < L ∧ By s K 10 ∧ C = .bad 43) ∨ (K < L ∧ By s K 34 ∧ C = .tok 4 tl 0 (K - i + 1)))) (hxw : s.extract (i + 1) K = sw) (htl : (⟨tl.toArray⟩ : ByteArray) = sw) :
    Calls Tryd.prog 32 #[.string s, .int .i64 (i : Int)] w fun e w' => (∃ x, e = .returned (oneV C i x)) ∧ Below w.heap.size w w' := by
  have hb0 := hb (by omega)
  have h' : ¬ (L : Int) ≤ (i : Int) := by
    rcases Hend.out with ⟨h, _⟩ | ⟨h, _⟩ | ⟨h, _⟩ <;> omega
  have cb := fun w => dLetter b w
  have cd := fun w => dDigit b w
  rw [hbl] at cb
  rw [hbd] at cd
  have Htl := hide htl
  clear htl hb hbl hbd
  go_enter Tryd.func32, Tryd.ntmps32
  go_wp2_with (first | (go_at_call 26; refine (cb _).mono ?_; rintro e w1 ⟨rfl, hw⟩; obtain rfl := hw.symm) | (go_at_call 27; refine (cd _).mono ?_; rintro e w1 ⟨rfl, hw⟩; obtain rfl := hw.symm))
  clear cb cd
  go_loopw [8] (fun x wz => wz = w.alloc (.cells #[.int .i64 0, .string ⟨#[]⟩, .int .i64 0, .int .i64 0, .int .i64 0, .int .i64 0] 37) ∧ ∃ j : Nat, i + 1 ≤ j ∧ j ≤ K ∧ x = .int .i64 (j : Int)) (fun x _ => K - (RowKit.intOf x).toNat)
  case atStart => exact ⟨rfl, i + 1, Nat.le_refl _, by omega, by go_num⟩
  case round =>
    rcases hrel with ⟨rfl, j, h1j, h2j, rfl⟩
    by_cases hjk : j < K
    · obtain ⟨c, hc1, hc2⟩ := Hall.out j h1j hjk
      have hcj := hc1 (by omega)
      have hjL : (j : Int) < (L : Int) := by omega
      have hq : c.toNat ≠ 34 ∧ c.toNat ≠ 10 := by simpa [inQ] using hc2
      have q1 : ((c.toNat : Int) == 34) = false := by rw [beq_eq_false_iff_ne]; omega
      have q2 : ((c.toNat : Int) == 10) = false := by rw [beq_eq_false_iff_ne]; omega
      have q3 : ((c.toNat : Int) != 10) = true := by rw [bne, q2]; rfl
      clear hc1 hc2 hq hb0
      go_wp2_with fail
      exact ⟨⟨trivial, j + 1, by omega, by omega, by go_num⟩, by simp [RowKit.intOf]; omega⟩
    · obtain rfl : K = j := by omega
      clear hjk h1j h2j
      rcases Hend.out with ⟨hE, hC⟩ | ⟨hE, hc, hC⟩ | ⟨hE, hc, hC⟩
      · have hE' : ¬ (K : Int) < (L : Int) := by omega
        have HC := hide hC
        clear hE hC Hend
        go_wp2_with fail
        refine bodyPost_ret (results_ctt rfl _ _ w.heap.size _ _ _ _ rfl (heap_alloc_new _ _) Tryd.underlying37 rfl infoTok) rfl ?_
        rw [HC.out]
        exact ⟨⟨_, rfl⟩, below_new _ _⟩
      · have hE' : (K : Int) < (L : Int) := by omega
        have hc' := hc (by omega)
        have HC := hide hC
        clear hC Hend hc
        go_wp2_with fail
        refine bodyPost_ret (results_ctt rfl _ _ w.heap.size _ _ _ _ rfl (heap_alloc_new _ _) Tryd.underlying37 rfl infoTok) rfl ?_
        rw [HC.out]
        exact ⟨⟨_, rfl⟩, below_new _ _⟩
      · have hE' : (K : Int) < (L : Int) := by omega
        have hc' := hc (by omega)
        have HC := hide hC
        have HKe : Hid (i + (K - i + 1) = K + 1) := hide (by omega)
        clear hC Hend hc
        go_wp2_with fail
        refine bodyPost_ret (results_ctt rfl _ _ w.heap.size _ _ _ _ rfl (heap_alloc_new _ _) Tryd.underlying37 rfl infoTok) rfl ?_
        refine ⟨⟨0, ?_⟩, below_new _ _⟩
        rw [HC.out, oneV, tokV, HKe.out, Htl.out]
        rfl
end Go.Proofs.YtinbbcojilogeaaDoor.Tok
