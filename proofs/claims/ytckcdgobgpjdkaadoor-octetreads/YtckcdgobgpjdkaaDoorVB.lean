/- unicode/utf8's Valid at every slice of bytes, as it is walked. -/
import Derived.Test.YtckcdgobgpjdkaaDoorWb
import Derived.Lib.ValidLaws
import Derived.Shelf.Unicode.ValidAny
namespace Go.Proofs.YtckcdgobgpjdkaaDoor.Oct
open Go.RowKit
open Go.Lib (validD)

def lenV : Value → Nat | .slice _ n _ => n | _ => 0
theorem Bs.drop {w : World} {g off : Nat} {l : List UInt8} (h : Bs w (some ⟨g, off, none⟩) l) (k : Nat) : Bs w (some ⟨g, off + k, none⟩) (l.drop k) := fun j b hj => by
  rw [List.getElem?_drop] at hj
  obtain ⟨g', o', e, hc⟩ := h (k + j) b hj
  cases e
  exact ⟨g, off + k, rfl, by rw [Nat.add_assoc]; exact hc⟩
theorem Bs.none_left {w : World} {ao : Option Addr} : Bs w ao ([] : List UInt8) := fun j b hj => by simp at hj
/-- The slice that the loop goes over. -/
structure Sl (w0 w : World) (g off n : Nat) (t : List UInt8) (ANS : Bool) : Prop where
  bel : Below w0.heap.size w0 w
  bs : Bs w (some ⟨g, off, none⟩) t
  len : t.length = n
  val : validD t = ANS
theorem Sl.drew {w0 w : World} {g off n : Nat} {t : List UInt8} {ANS : Bool} (h : Sl w0 w g off n t ANS) (q : Nat) : Sl w0 (w.drewN q) g off n t ANS :=
  ⟨h.bel.trans (below_drewN (Below.refl _ _) _), h.bs.below (below_drewN (Below.refl _ _) _), h.len, h.val⟩
/-- ASCII bytes are passed by. -/
theorem Sl.skip {w0 w : World} {g off n : Nat} {t : List UInt8} {ANS : Bool} (h : Sl w0 w g off n t ANS) (k : Nat) (ha : ∀ b ∈ t.take k, b.toNat < 128) (off' : Nat) (ho : off' = off + k ∨ n ≤ k) : Sl w0 w g off' (n - k) (t.drop k) ANS := by
  refine ⟨h.bel, ?_, by rw [List.length_drop, h.len], by rw [← Lib.validD_ascii k t ha]; exact h.val⟩
  rcases ho with rfl | hk
  · exact h.bs.drop k
  · rw [List.drop_of_length_le (by rw [h.len]; exact hk)]
    exact Bs.none_left
theorem asc_add {t : List UInt8} {a b : Nat} (h1 : ∀ x ∈ t.take a, x.toNat < 128) (h2 : ∀ x ∈ (t.drop a).take b, x.toNat < 128) : ∀ x ∈ t.take (a + b), x.toNat < 128 := fun x hx => by
  rw [List.take_add] at hx
  rcases List.mem_append.1 hx with h | h
  · exact h1 x h
  · exact h2 x h

set_option maxHeartbeats 8000000 in
set_option maxRecDepth 1000000 in
theorem Valid_any (g off c : Nat) (l : List UInt8) (w : World) (hT : Tabs w) (hb : Bs w (some ⟨g, off, none⟩) l) (hc : l.length ≤ c) (_hmax : l.length ≤ 9223372036854775800) :
    Calls Tryd.prog 68 #[.slice (some ⟨g, off, none⟩) l.length c] w fun e w' => e = .returned (.bool (validD l)) ∧ Below w.heap.size w w' := by
  have mixed : Tryd.prog.follows .mixedOrders = true := by kernel_rfl
  obtain ⟨ANS, hANS⟩ : ∃ a, validD l = a := ⟨_, rfl⟩
  rw [hANS]
  obtain ⟨N, hN⟩ : ∃ N, l.length = N := ⟨_, rfl⟩
  have hS0 : Sl w w g off N l ANS := ⟨Below.refl _ _, hb, hN, hANS⟩
  rw [hN] at hc ⊢
  clear hANS hN hb
  go_enter Tryd.func68, Tryd.ntmps68
  go_wp2
  go_loopw [0] (fun p wr => ∃ n off1 t, n ≤ N ∧ p = .slice (some ⟨g, off1, none⟩) n n ∧ Sl w wr g off1 n t ANS) (fun p _ => lenV p)
  case atStart => exact ⟨N, off, l, Nat.le_refl _, rfl, hS0⟩
  case round =>
    clear hS0
    obtain ⟨n, off1, t, hnN, rfl, hS⟩ := hrel
    by_cases hn0 : n = 0
    · subst hn0
      have ha : ANS = true := by rw [← hS.val, List.eq_nil_of_length_eq_zero hS.len]; rfl
      subst ha
      go_wp2
      go_ret
      exact ⟨rfl, hS.bel⟩
    · have hnz : (0 : Int) < (n : Int) := by omega
      obtain ⟨b, hb⟩ : ∃ b, t[0]? = some b := ⟨t[0]'(by rw [hS.len]; omega), by simp⟩
      obtain ⟨g', o', e, hcell⟩ := hS.bs 0 b hb
      cases e
      rw [Nat.add_zero] at hcell
      have hb256 := b.toNat_lt
      by_cases hasc : b.toNat < 128
      · have hascz : (b.toNat : Int) < 128 := by omega
        have h1 : ∀ x ∈ t.take 1, x.toNat < 128 := fun x hx => by
          rw [List.take_add_one, hb] at hx
          simp at hx
          subst hx
          exact hasc
        clear hb
        generalize b.toNat = bn at *
        by_cases hn1 : n = 1
        · subst hn1
          have hS1 := hS.skip 1 h1 off1 (.inr (Nat.le_refl _))
          clear hS h1
          go_wp2_with fail
          exact ⟨⟨0, off1, t.drop 1, Nat.zero_le _, rfl, by simpa using hS1⟩, by simp [lenV]⟩
        · obtain ⟨m, rfl⟩ : ∃ m, n = m + 1 := ⟨n - 1, by omega⟩
          have hS1 := hS.skip 1 h1 (off1 + 1) (.inl rfl)
          rw [Nat.add_sub_cancel] at hS1
          clear hS h1
          generalize t.drop 1 = t1 at *
          by_cases c8 : 8 < m
          · have c8z : (8 : Int) < (m : Int) := by omega
            obtain ⟨k, rfl⟩ : ∃ k, m = k + 8 := ⟨m - 8, by omega⟩
            obtain ⟨A1, lA1, kA1, cA1⟩ := word_any wr g (off1 + 1) (k + 8) t1 hS1.bs (by rw [hS1.len]; omega)
            rw [hS1.len] at cA1
            have hand1 : bits .and .u64 (A1 : Int) 9259542123273814144 = ((A1 &&& M8 : Nat) : Int) := u64_and_nat A1 9259542123273814144 lA1 (by decide)
            generalize A1 &&& M8 = Z1 at *
            by_cases hz1 : Z1 = 0
            · have hz1b : ((Z1 : Int) == 0) = true := by rw [hz1]; rfl
              have hS2 := hS1.skip 8 (kA1 hz1) (off1 + 1 + 8) (.inl rfl)
              rw [Nat.add_sub_cancel] at hS2
              clear kA1 hS1 hz1
              go_wp2_with fail
              generalize off1 + 1 = o1 at *
              refine (cA1 _ rfl).mono ?_
              rintro e w1 ⟨rfl, q1, rfl⟩
              go_wp2_with fail
              have hS3 := hS2.drew q1
              clear hS2 cA1
              generalize wr.drewN q1 = wq at *
              generalize t1.drop 8 = t2 at *
              generalize o1 + 8 = o2 at *
              by_cases c16 : 16 < k
              · have c16z : (16 : Int) < (k : Int) := by omega
                obtain ⟨j, rfl⟩ : ∃ j, k = j + 16 := ⟨k - 16, by omega⟩
                have c16p : (16 : Int) < (j : Int) + 16 := by omega
                have c16d : decide ((16 : Int) < (j : Int) + 16) = true := decide_eq_true c16p
                have s8z : (8 : Int) ≤ (j : Int) + 16 := by omega
                obtain ⟨A2, lA2, kA2, cA2⟩ := word_any wq g o2 (j + 16) t2 hS3.bs (by rw [hS3.len]; omega)
                obtain ⟨A3, lA3, kA3, cA3⟩ := word_any wq g (o2 + 8) (j + 8) (t2.drop 8) (hS3.bs.drop 8) (by rw [List.length_drop, hS3.len]; omega)
                rw [hS3.len] at cA2
                rw [List.length_drop, hS3.len, show j + 16 - 8 = j + 8 by omega] at cA3
                have cB2 := fun q => cA2 (wq.drewN q) rfl
                have cB3 := fun q => cA3 (wq.drewN q) rfl
                clear cA2 cA3
                have hor2 : bits .or .u64 (A2 : Int) (A3 : Int) = ((A2 ||| A3 : Nat) : Int) := u64_or_nat A2 A3 lA2 lA3
                have lor2 := or_lt64 lA2 lA3
                have k2 : (A2 ||| A3) &&& M8 = 0 → ∀ x ∈ t2.take 16, x.toNat < 128 := fun h0 => by
                  obtain ⟨e1, e2⟩ := (Lib.or_mask A2 A3 _).1 h0
                  exact asc_add (kA2 e1) (kA3 e2)
                generalize A2 ||| A3 = O2 at *
                have hand2 : bits .and .u64 (O2 : Int) 9259542123273814144 = ((O2 &&& M8 : Nat) : Int) := u64_and_nat O2 9259542123273814144 lor2 (by decide)
                generalize O2 &&& M8 = Z2 at *
                clear kA2 kA3 lor2
                by_cases hz2 : Z2 = 0
                · as_aux_lemma =>
                    have hz2b : ((Z2 : Int) == 0) = true := by rw [hz2]; rfl
                    have hS4 := hS3.skip 16 (k2 hz2) (o2 + 16) (.inl rfl)
                    rw [Nat.add_sub_cancel] at hS4
                    clear k2 hS3 hz2
                    go_big_quiet_o (first | (go_at_call 69; with_reducible refine Calls.quiet_of (cB2 _)) | (go_at_call 69; with_reducible refine Calls.quiet_of (cB3 _)))
                    have hS5 := hS4.drew nq
                    clear hS4 cB2 cB3
                    generalize wq.drewN nq = wz at *
                    generalize t2.drop 16 = tz at *
                    go_wp2_with fail
                    generalize o2 + 16 = o3 at *
                    go_loopw [0] (fun p wx => ∃ n off1 t, n ≤ j ∧ p = .slice (some ⟨g, off1, none⟩) n n ∧ Sl w wx g off1 n t ANS) (fun p _ => lenV p)
                    case atStart => exact ⟨j, o3, _, Nat.le_refl _, rfl, hS5⟩
                    case round =>
                      clear hS5
                      obtain ⟨n, o4, t3, hnj, rfl, hS⟩ := hrel
                      by_cases c32 : 32 < n
                      · obtain ⟨m, rfl⟩ : ∃ m, n = m + 32 := ⟨n - 32, by omega⟩
                        have c32p : (32 : Int) < (m : Int) + 32 := by omega
                        have c32d : decide ((32 : Int) < (m : Int) + 32) = true := decide_eq_true c32p
                        have s8p : (8 : Int) ≤ (m : Int) + 32 := by omega
                        have s16p : (16 : Int) ≤ (m : Int) + 32 := by omega
                        have s24p : (24 : Int) ≤ (m : Int) + 32 := by omega
                        have s32p : (32 : Int) ≤ (m : Int) + 32 := by omega
                        obtain ⟨D0, lD0, kD0, cD0⟩ := word_any wr g o4 (m + 32) t3 hS.bs (by rw [hS.len]; omega)
                        obtain ⟨D1, lD1, kD1, cD1⟩ := word_any wr g (o4 + 8) (m + 24) (t3.drop 8) (hS.bs.drop 8) (by rw [List.length_drop, hS.len]; omega)
                        obtain ⟨D2, lD2, kD2, cD2⟩ := word_any wr g (o4 + 16) (m + 16) (t3.drop 16) (hS.bs.drop 16) (by rw [List.length_drop, hS.len]; omega)
                        obtain ⟨D3, lD3, kD3, cD3⟩ := word_any wr g (o4 + 24) (m + 8) (t3.drop 24) (hS.bs.drop 24) (by rw [List.length_drop, hS.len]; omega)
                        rw [hS.len] at cD0
                        rw [List.length_drop, hS.len, show m + 32 - 8 = m + 24 by omega] at cD1
                        rw [List.length_drop, hS.len, show m + 32 - 16 = m + 16 by omega] at cD2
                        rw [List.length_drop, hS.len, show m + 32 - 24 = m + 8 by omega] at cD3
                        have cE0 := fun q => cD0 (wr.drewN q) rfl
                        have cE1 := fun q => cD1 (wr.drewN q) rfl
                        have cE2 := fun q => cD2 (wr.drewN q) rfl
                        have cE3 := fun q => cD3 (wr.drewN q) rfl
                        clear cD0 cD1 cD2 cD3
                        have ho1 : bits .or .u64 (D0 : Int) (D1 : Int) = ((D0 ||| D1 : Nat) : Int) := u64_or_nat D0 D1 lD0 lD1
                        have ho2 : bits .or .u64 (D2 : Int) (D3 : Int) = ((D2 ||| D3 : Nat) : Int) := u64_or_nat D2 D3 lD2 lD3
                        have lo1 := or_lt64 lD0 lD1
                        have lo2 := or_lt64 lD2 lD3
                        have ho3 : bits .or .u64 ((D0 ||| D1 : Nat) : Int) ((D2 ||| D3 : Nat) : Int) = (((D0 ||| D1) ||| (D2 ||| D3) : Nat) : Int) := u64_or_nat _ _ lo1 lo2
                        have lo3 := or_lt64 lo1 lo2
                        have k3 : ((D0 ||| D1) ||| (D2 ||| D3)) &&& M8 = 0 → ∀ x ∈ t3.take 32, x.toNat < 128 := fun h0 => by
                          obtain ⟨e01, e23⟩ := (Lib.or_mask _ _ _).1 h0
                          obtain ⟨e0, e1⟩ := (Lib.or_mask _ _ _).1 e01
                          obtain ⟨e2, e3⟩ := (Lib.or_mask _ _ _).1 e23
                          exact asc_add (asc_add (asc_add (kD0 e0) (kD1 e1)) (kD2 e2)) (kD3 e3)
                        clear kD0 kD1 kD2 kD3
                        generalize D0 ||| D1 = P1 at *
                        generalize D2 ||| D3 = P2 at *
                        generalize P1 ||| P2 = P3 at *
                        have hand3 : bits .and .u64 (P3 : Int) 9259542123273814144 = ((P3 &&& M8 : Nat) : Int) := u64_and_nat P3 9259542123273814144 lo3 (by decide)
                        generalize P3 &&& M8 = Z3 at *
                        clear lo1 lo2 lo3
                        by_cases hz3 : Z3 = 0
                        · have hz3b : ((Z3 : Int) == 0) = true := by rw [hz3]; rfl
                          have hS6 := hS.skip 32 (k3 hz3) (o4 + 32) (.inl rfl)
                          rw [Nat.add_sub_cancel] at hS6
                          clear k3 hz3
                          go_wp2_with fail
                          go_big_quiet_o (first | (go_at_call 69; with_reducible refine Calls.quiet_of (cE0 _)) | (go_at_call 69; with_reducible refine Calls.quiet_of (cE1 _)) | (go_at_call 69; with_reducible refine Calls.quiet_of (cE2 _)) | (go_at_call 69; with_reducible refine Calls.quiet_of (cE3 _)))
                          go_wp2_with fail
                          exact ⟨⟨m, o4 + 32, t3.drop 32, by omega, rfl, hS6.drew nq⟩, by simp [lenV]⟩
                        · have hz3b : ((Z3 : Int) == 0) = false := by rw [beq_eq_false_iff_ne]; omega
                          clear k3
                          go_wp2_with fail
                          go_big_quiet_o (first | (go_at_call 69; with_reducible refine Calls.quiet_of (cE0 _)) | (go_at_call 69; with_reducible refine Calls.quiet_of (cE1 _)) | (go_at_call 69; with_reducible refine Calls.quiet_of (cE2 _)) | (go_at_call 69; with_reducible refine Calls.quiet_of (cE3 _)))
                          go_wp2_with fail
                          exact ⟨⟨m + 32, o4, t3, by omega, rfl, hS.drew nq⟩, by simp [lenV]; omega⟩
                      · have c32z : ¬ ((32 : Int) < (n : Int)) := by omega
                        have c32b : decide ((32 : Int) < (n : Int)) = false := decide_eq_false c32z
                        go_wp2_with fail
                        go_big_quiet_o (fail)
                        go_wp2_with fail
                        exact ⟨⟨n, o4, t3, by omega, rfl, hS.drew nq⟩, by simp [lenV]; omega⟩
                · as_aux_lemma =>
                    have hz2b : ((Z2 : Int) == 0) = false := by rw [beq_eq_false_iff_ne]; omega
                    clear k2
                    go_big_quiet_o (first | (go_at_call 69; with_reducible refine Calls.quiet_of (cB2 _)) | (go_at_call 69; with_reducible refine Calls.quiet_of (cB3 _)))
                    go_wp2
                    exact ⟨⟨j + 16, o2, t2, by omega, rfl, hS3.drew nq⟩, by simp [lenV]⟩
              · as_aux_lemma =>
                  have c16z : ¬ ((16 : Int) < (k : Int)) := by omega
                  have c16b : decide ((16 : Int) < (k : Int)) = false := decide_eq_false c16z
                  go_big_quiet_o (fail)
                  go_wp2
                  exact ⟨⟨k, o2, t2, by omega, rfl, hS3.drew nq⟩, by simp [lenV]; omega⟩
            · as_aux_lemma =>
                have hz1b : ((Z1 : Int) == 0) = false := by rw [beq_eq_false_iff_ne]; omega
                clear kA1
                go_wp2_with fail
                generalize off1 + 1 = o1 at *
                refine (cA1 _ rfl).mono ?_
                rintro e w1 ⟨rfl, q1, rfl⟩
                go_wp2_with fail
                exact ⟨⟨k + 8, o1, t1, by omega, rfl, hS1.drew q1⟩, by simp [lenV]⟩
          · have c8z : ¬ ((8 : Int) < (m : Int)) := by omega
            go_wp2_with fail
            exact ⟨⟨m, off1 + 1, t1, by omega, rfl, hS1⟩, by simp [lenV]⟩
      · have hge : 128 ≤ b.toNat := by omega
        have hascz : ¬ ((b.toNat : Int) < 128) := by omega
        have hTr := Utf8Tabs_below hT hS.bel
        have hne : t ≠ [] := fun h => by rw [h] at hb; simp at hb
        have hd0 : t.getD 0 0 = b := by rw [List.getD_eq_getElem?_getD, hb]; rfl
        have hlead := Lib.validD_lead t hne (by rw [hd0]; exact hge)
        have hcs : ∀ i, i < n → wr.cell? ⟨g, off1 + i, none⟩ = some (.int .u8 ((t.getD i 0).toNat : Int)) := fun i hi => by
          obtain ⟨g', o', e, hc⟩ := hS.bs i (t[i]'(by rw [hS.len]; exact hi)) (by simp)
          cases e
          rw [List.getD_eq_getElem?_getD, List.getElem?_eq_getElem (by rw [hS.len]; exact hi)]
          exact hc
        have hgl : g < wr.heap.size := World.block_lt_of_cell? wr _ hcell
        have l1 := (t.getD 1 0).toNat_lt
        have l2 := (t.getD 2 0).toNat_lt
        have l3 := (t.getD 3 0).toNat_lt
        rw [hd0, hS.len, hS.val] at hlead
        have hcs1 := hcs 1
        have hcs2 := hcs 2
        have hcs3 := hcs 3
        clear hcs hd0 hb
        generalize (t.getD 1 0).toNat = x1 at *
        generalize (t.getD 2 0).toNat = x2 at *
        generalize (t.getD 3 0).toNat = x3 at *
        have hc0 : wr.cell? ⟨1, b.toNat, none⟩ = some (.int .u8 (Lib.firstT b.toNat)) := hTr.1 b.toNat hb256
        have hXlt : Lib.firstT b.toNat < 256 := by rcases Lib.firstT_cases b.toNat with h | h | h | h | h | h | h | h | h <;> omega
        obtain ⟨X, hX⟩ : ∃ X, Lib.firstT b.toNat = X := ⟨_, rfl⟩
        rw [hX] at hc0 hXlt hlead
        have h7 := and7 ⟨X, hXlt⟩
        simp only at h7
        have ha0 : wr.cell? ⟨2, X / 16 * 2, none⟩ = some (.int .u8 (Lib.accLo (X / 16))) := by rw [Nat.mul_comm]; exact (hTr.2 (X / 16) (by omega)).1
        have ha1 : wr.cell? ⟨2, X / 16 * 2 + 1, none⟩ = some (.int .u8 (Lib.accHi (X / 16))) := by rw [Nat.mul_comm]; exact (hTr.2 (X / 16) (by omega)).2
        obtain ⟨LO, hLO⟩ : ∃ LO, Lib.accLo (X / 16) = LO := ⟨_, rfl⟩
        obtain ⟨HI, hHI⟩ : ∃ HI, Lib.accHi (X / 16) = HI := ⟨_, rfl⟩
        rw [hLO] at ha0 hlead
        rw [hHI] at ha1 hlead
        obtain ⟨SZ, hSZ⟩ : ∃ SZ, X % 8 = SZ := ⟨_, rfl⟩
        rw [hSZ] at hlead
        clear hTr hX hLO hHI hne
        generalize b.toNat = bn at *
        by_cases s2 : SZ = 2
        · as_aux_lemma =>
            subst s2
            have hSZz : (X : Int) % 8 = 2 := by omega
            simp only [Lib.checkN, Nat.reduceEqDiff, if_true, if_false] at hlead
            go_wp2_with fail
            go_cut [103] from 85 to 103 (fun c wx => c = .bool (decide (n < 2 ∨ x1 < LO ∨ HI < x1)) ∧ Below w.heap.size w wx ∧ Below wr.heap.size wr wx)
            case first =>
              clear hlead
              by_cases q0 : n < 2
              · have q0z : (n : Int) < (2 : Int) := by omega
                go_big_quiet_o (fail)
                go_wp2
                go_meet
                exact ⟨congrArg Value.bool (decide_eq_true (p := n < 2 ∨ x1 < LO ∨ HI < x1) (by omega)).symm, below_drewNv (hS.bel.alloc hS.bel.size _) _, below_drewNv ((Below.refl _ _).alloc (Nat.le_refl _) _) _⟩
              · have q0z : ¬ ((n : Int) < (2 : Int)) := by omega
                have hz1 : (1 : Int) < (n : Int) := by omega
                have hy1 := hcs1 (by omega)
                clear hcs1 hcs2 hcs3
                by_cases q1 : x1 < LO
                · have q1z : (x1 : Int) < (LO : Int) := by omega
                  go_big_quiet_o (fail)
                  go_wp2
                  go_meet
                  exact ⟨congrArg Value.bool (decide_eq_true (p := n < 2 ∨ x1 < LO ∨ HI < x1) (by omega)).symm, below_drewNv (hS.bel.alloc hS.bel.size _) _, below_drewNv ((Below.refl _ _).alloc (Nat.le_refl _) _) _⟩
                · have q1z : ¬ ((x1 : Int) < (LO : Int)) := by omega
                  by_cases q2 : HI < x1
                  · have q2z : (HI : Int) < (x1 : Int) := by omega
                    go_big_quiet_o (fail)
                    go_wp2
                    go_meet
                    exact ⟨congrArg Value.bool (decide_eq_true (p := n < 2 ∨ x1 < LO ∨ HI < x1) (by omega)).symm, below_drewNv (hS.bel.alloc hS.bel.size _) _, below_drewNv ((Below.refl _ _).alloc (Nat.le_refl _) _) _⟩
                  · have q2z : ¬ ((HI : Int) < (x1 : Int)) := by omega
                    go_big_quiet_o (fail)
                    go_wp2
                    go_meet
                    exact ⟨congrArg Value.bool (decide_eq_false (p := n < 2 ∨ x1 < LO ∨ HI < x1) (by omega)).symm, below_drewNv (hS.bel.alloc hS.bel.size _) _, below_drewNv ((Below.refl _ _).alloc (Nat.le_refl _) _) _⟩
            case rest =>
              obtain ⟨rfl, hbc, hbr⟩ := hcut
              have hbs := hS.bs.below hbr
              have hlen := hS.len
              clear hS hcs1 hcs2 hcs3
              by_cases hb : n < 2 ∨ x1 < LO ∨ HI < x1
              · have hbd : decide (n < 2 ∨ x1 < LO ∨ HI < x1) = true := decide_eq_true hb
                rw [if_pos hb] at hlead
                go_wp2
                all_goals (go_ret; exact ⟨by first | rfl | rw [hlead], hbc⟩)
              · have hbd : decide (n < 2 ∨ x1 < LO ∨ HI < x1) = false := decide_eq_false hb
                rw [if_neg hb] at hlead
                have hval : validD (t.drop 2) = ANS := hlead.symm
                by_cases hnk : n = 2
                · subst hnk
                  go_wp2_with fail
                  exact ⟨⟨0, off1, t.drop 2, Nat.zero_le _, rfl, ⟨hbc, by rw [List.drop_of_length_le (by omega)]; exact Bs.none_left, by rw [List.length_drop, hlen], hval⟩⟩, by simp [lenV]⟩
                · obtain ⟨m, rfl⟩ : ∃ m, n = m + 2 := ⟨n - 2, by omega⟩
                  have skp : (2 : Int) ≤ (m : Int) + 2 := by omega
                  go_wp2_with fail
                  exact ⟨⟨m, off1 + 2, t.drop 2, by omega, rfl, ⟨hbc, hbs.drop 2, by rw [List.length_drop, hlen]; omega, hval⟩⟩, by simp [lenV]⟩
        by_cases s3 : SZ = 3
        · as_aux_lemma =>
            subst s3
            have hSZz : (X : Int) % 8 = 3 := by omega
            simp only [Lib.checkN, Nat.reduceEqDiff, if_true, if_false] at hlead
            go_wp2_with fail
            go_cut [138] from 108 to 138 (fun c wx => c = .bool (decide (n < 3 ∨ x1 < LO ∨ HI < x1 ∨ x2 < 128 ∨ 191 < x2)) ∧ Below w.heap.size w wx ∧ Below wr.heap.size wr wx)
            case first =>
              clear hlead
              by_cases q0 : n < 3
              · have q0z : (n : Int) < (3 : Int) := by omega
                go_big_quiet_o (fail)
                go_wp2
                go_meet
                exact ⟨congrArg Value.bool (decide_eq_true (p := n < 3 ∨ x1 < LO ∨ HI < x1 ∨ x2 < 128 ∨ 191 < x2) (by omega)).symm, below_drewNv (hS.bel.alloc hS.bel.size _) _, below_drewNv ((Below.refl _ _).alloc (Nat.le_refl _) _) _⟩
              · have q0z : ¬ ((n : Int) < (3 : Int)) := by omega
                have hz1 : (1 : Int) < (n : Int) := by omega
                have hy1 := hcs1 (by omega)
                have hz2 : (2 : Int) < (n : Int) := by omega
                have hy2 := hcs2 (by omega)
                clear hcs1 hcs2 hcs3
                by_cases q1 : x1 < LO
                · have q1z : (x1 : Int) < (LO : Int) := by omega
                  go_big_quiet_o (fail)
                  go_wp2
                  go_meet
                  exact ⟨congrArg Value.bool (decide_eq_true (p := n < 3 ∨ x1 < LO ∨ HI < x1 ∨ x2 < 128 ∨ 191 < x2) (by omega)).symm, below_drewNv (hS.bel.alloc hS.bel.size _) _, below_drewNv ((Below.refl _ _).alloc (Nat.le_refl _) _) _⟩
                · have q1z : ¬ ((x1 : Int) < (LO : Int)) := by omega
                  by_cases q2 : HI < x1
                  · have q2z : (HI : Int) < (x1 : Int) := by omega
                    go_big_quiet_o (fail)
                    go_wp2
                    go_meet
                    exact ⟨congrArg Value.bool (decide_eq_true (p := n < 3 ∨ x1 < LO ∨ HI < x1 ∨ x2 < 128 ∨ 191 < x2) (by omega)).symm, below_drewNv (hS.bel.alloc hS.bel.size _) _, below_drewNv ((Below.refl _ _).alloc (Nat.le_refl _) _) _⟩
                  · have q2z : ¬ ((HI : Int) < (x1 : Int)) := by omega
                    by_cases q3 : x2 < 128
                    · have q3z : (x2 : Int) < (128 : Int) := by omega
                      go_big_quiet_o (fail)
                      go_wp2
                      go_meet
                      exact ⟨congrArg Value.bool (decide_eq_true (p := n < 3 ∨ x1 < LO ∨ HI < x1 ∨ x2 < 128 ∨ 191 < x2) (by omega)).symm, below_drewNv (hS.bel.alloc hS.bel.size _) _, below_drewNv ((Below.refl _ _).alloc (Nat.le_refl _) _) _⟩
                    · have q3z : ¬ ((x2 : Int) < (128 : Int)) := by omega
                      by_cases q4 : 191 < x2
                      · have q4z : (191 : Int) < (x2 : Int) := by omega
                        go_big_quiet_o (fail)
                        go_wp2
                        go_meet
                        exact ⟨congrArg Value.bool (decide_eq_true (p := n < 3 ∨ x1 < LO ∨ HI < x1 ∨ x2 < 128 ∨ 191 < x2) (by omega)).symm, below_drewNv (hS.bel.alloc hS.bel.size _) _, below_drewNv ((Below.refl _ _).alloc (Nat.le_refl _) _) _⟩
                      · have q4z : ¬ ((191 : Int) < (x2 : Int)) := by omega
                        go_big_quiet_o (fail)
                        go_wp2
                        go_meet
                        exact ⟨congrArg Value.bool (decide_eq_false (p := n < 3 ∨ x1 < LO ∨ HI < x1 ∨ x2 < 128 ∨ 191 < x2) (by omega)).symm, below_drewNv (hS.bel.alloc hS.bel.size _) _, below_drewNv ((Below.refl _ _).alloc (Nat.le_refl _) _) _⟩
            case rest =>
              obtain ⟨rfl, hbc, hbr⟩ := hcut
              have hbs := hS.bs.below hbr
              have hlen := hS.len
              clear hS hcs1 hcs2 hcs3
              by_cases hb : n < 3 ∨ x1 < LO ∨ HI < x1 ∨ x2 < 128 ∨ 191 < x2
              · have hbd : decide (n < 3 ∨ x1 < LO ∨ HI < x1 ∨ x2 < 128 ∨ 191 < x2) = true := decide_eq_true hb
                rw [if_pos hb] at hlead
                go_wp2
                all_goals (go_ret; exact ⟨by first | rfl | rw [hlead], hbc⟩)
              · have hbd : decide (n < 3 ∨ x1 < LO ∨ HI < x1 ∨ x2 < 128 ∨ 191 < x2) = false := decide_eq_false hb
                rw [if_neg hb] at hlead
                have hval : validD (t.drop 3) = ANS := hlead.symm
                by_cases hnk : n = 3
                · subst hnk
                  go_wp2_with fail
                  exact ⟨⟨0, off1, t.drop 3, Nat.zero_le _, rfl, ⟨hbc, by rw [List.drop_of_length_le (by omega)]; exact Bs.none_left, by rw [List.length_drop, hlen], hval⟩⟩, by simp [lenV]⟩
                · obtain ⟨m, rfl⟩ : ∃ m, n = m + 3 := ⟨n - 3, by omega⟩
                  have skp : (3 : Int) ≤ (m : Int) + 3 := by omega
                  go_wp2_with fail
                  exact ⟨⟨m, off1 + 3, t.drop 3, by omega, rfl, ⟨hbc, hbs.drop 3, by rw [List.length_drop, hlen]; omega, hval⟩⟩, by simp [lenV]⟩
        by_cases s4 : SZ = 4
        · as_aux_lemma =>
            subst s4
            have hSZz : (X : Int) % 8 = 4 := by omega
            simp only [Lib.checkN, Nat.reduceEqDiff, if_true, if_false] at hlead
            go_wp2_with fail
            go_cut [185] from 143 to 185 (fun c wx => c = .bool (decide (n < 4 ∨ x1 < LO ∨ HI < x1 ∨ x2 < 128 ∨ 191 < x2 ∨ x3 < 128 ∨ 191 < x3)) ∧ Below w.heap.size w wx ∧ Below wr.heap.size wr wx)
            case first =>
              clear hlead
              by_cases q0 : n < 4
              · have q0z : (n : Int) < (4 : Int) := by omega
                go_big_quiet_o (fail)
                go_wp2
                go_meet
                exact ⟨congrArg Value.bool (decide_eq_true (p := n < 4 ∨ x1 < LO ∨ HI < x1 ∨ x2 < 128 ∨ 191 < x2 ∨ x3 < 128 ∨ 191 < x3) (by omega)).symm, below_drewNv (hS.bel.alloc hS.bel.size _) _, below_drewNv ((Below.refl _ _).alloc (Nat.le_refl _) _) _⟩
              · have q0z : ¬ ((n : Int) < (4 : Int)) := by omega
                have hz1 : (1 : Int) < (n : Int) := by omega
                have hy1 := hcs1 (by omega)
                have hz2 : (2 : Int) < (n : Int) := by omega
                have hy2 := hcs2 (by omega)
                have hz3 : (3 : Int) < (n : Int) := by omega
                have hy3 := hcs3 (by omega)
                clear hcs1 hcs2 hcs3
                by_cases q1 : x1 < LO
                · have q1z : (x1 : Int) < (LO : Int) := by omega
                  go_big_quiet_o (fail)
                  go_wp2
                  go_meet
                  exact ⟨congrArg Value.bool (decide_eq_true (p := n < 4 ∨ x1 < LO ∨ HI < x1 ∨ x2 < 128 ∨ 191 < x2 ∨ x3 < 128 ∨ 191 < x3) (by omega)).symm, below_drewNv (hS.bel.alloc hS.bel.size _) _, below_drewNv ((Below.refl _ _).alloc (Nat.le_refl _) _) _⟩
                · have q1z : ¬ ((x1 : Int) < (LO : Int)) := by omega
                  by_cases q2 : HI < x1
                  · have q2z : (HI : Int) < (x1 : Int) := by omega
                    go_big_quiet_o (fail)
                    go_wp2
                    go_meet
                    exact ⟨congrArg Value.bool (decide_eq_true (p := n < 4 ∨ x1 < LO ∨ HI < x1 ∨ x2 < 128 ∨ 191 < x2 ∨ x3 < 128 ∨ 191 < x3) (by omega)).symm, below_drewNv (hS.bel.alloc hS.bel.size _) _, below_drewNv ((Below.refl _ _).alloc (Nat.le_refl _) _) _⟩
                  · have q2z : ¬ ((HI : Int) < (x1 : Int)) := by omega
                    by_cases q3 : x2 < 128
                    · have q3z : (x2 : Int) < (128 : Int) := by omega
                      go_big_quiet_o (fail)
                      go_wp2
                      go_meet
                      exact ⟨congrArg Value.bool (decide_eq_true (p := n < 4 ∨ x1 < LO ∨ HI < x1 ∨ x2 < 128 ∨ 191 < x2 ∨ x3 < 128 ∨ 191 < x3) (by omega)).symm, below_drewNv (hS.bel.alloc hS.bel.size _) _, below_drewNv ((Below.refl _ _).alloc (Nat.le_refl _) _) _⟩
                    · have q3z : ¬ ((x2 : Int) < (128 : Int)) := by omega
                      by_cases q4 : 191 < x2
                      · have q4z : (191 : Int) < (x2 : Int) := by omega
                        go_big_quiet_o (fail)
                        go_wp2
                        go_meet
                        exact ⟨congrArg Value.bool (decide_eq_true (p := n < 4 ∨ x1 < LO ∨ HI < x1 ∨ x2 < 128 ∨ 191 < x2 ∨ x3 < 128 ∨ 191 < x3) (by omega)).symm, below_drewNv (hS.bel.alloc hS.bel.size _) _, below_drewNv ((Below.refl _ _).alloc (Nat.le_refl _) _) _⟩
                      · have q4z : ¬ ((191 : Int) < (x2 : Int)) := by omega
                        by_cases q5 : x3 < 128
                        · have q5z : (x3 : Int) < (128 : Int) := by omega
                          go_big_quiet_o (fail)
                          go_wp2
                          go_meet
                          exact ⟨congrArg Value.bool (decide_eq_true (p := n < 4 ∨ x1 < LO ∨ HI < x1 ∨ x2 < 128 ∨ 191 < x2 ∨ x3 < 128 ∨ 191 < x3) (by omega)).symm, below_drewNv (hS.bel.alloc hS.bel.size _) _, below_drewNv ((Below.refl _ _).alloc (Nat.le_refl _) _) _⟩
                        · have q5z : ¬ ((x3 : Int) < (128 : Int)) := by omega
                          by_cases q6 : 191 < x3
                          · have q6z : (191 : Int) < (x3 : Int) := by omega
                            go_big_quiet_o (fail)
                            go_wp2
                            go_meet
                            exact ⟨congrArg Value.bool (decide_eq_true (p := n < 4 ∨ x1 < LO ∨ HI < x1 ∨ x2 < 128 ∨ 191 < x2 ∨ x3 < 128 ∨ 191 < x3) (by omega)).symm, below_drewNv (hS.bel.alloc hS.bel.size _) _, below_drewNv ((Below.refl _ _).alloc (Nat.le_refl _) _) _⟩
                          · have q6z : ¬ ((191 : Int) < (x3 : Int)) := by omega
                            go_big_quiet_o (fail)
                            go_wp2
                            go_meet
                            exact ⟨congrArg Value.bool (decide_eq_false (p := n < 4 ∨ x1 < LO ∨ HI < x1 ∨ x2 < 128 ∨ 191 < x2 ∨ x3 < 128 ∨ 191 < x3) (by omega)).symm, below_drewNv (hS.bel.alloc hS.bel.size _) _, below_drewNv ((Below.refl _ _).alloc (Nat.le_refl _) _) _⟩
            case rest =>
              obtain ⟨rfl, hbc, hbr⟩ := hcut
              have hbs := hS.bs.below hbr
              have hlen := hS.len
              clear hS hcs1 hcs2 hcs3
              by_cases hb : n < 4 ∨ x1 < LO ∨ HI < x1 ∨ x2 < 128 ∨ 191 < x2 ∨ x3 < 128 ∨ 191 < x3
              · have hbd : decide (n < 4 ∨ x1 < LO ∨ HI < x1 ∨ x2 < 128 ∨ 191 < x2 ∨ x3 < 128 ∨ 191 < x3) = true := decide_eq_true hb
                rw [if_pos hb] at hlead
                go_wp2
                all_goals (go_ret; exact ⟨by first | rfl | rw [hlead], hbc⟩)
              · have hbd : decide (n < 4 ∨ x1 < LO ∨ HI < x1 ∨ x2 < 128 ∨ 191 < x2 ∨ x3 < 128 ∨ 191 < x3) = false := decide_eq_false hb
                rw [if_neg hb] at hlead
                have hval : validD (t.drop 4) = ANS := hlead.symm
                by_cases hnk : n = 4
                · subst hnk
                  go_wp2_with fail
                  exact ⟨⟨0, off1, t.drop 4, Nat.zero_le _, rfl, ⟨hbc, by rw [List.drop_of_length_le (by omega)]; exact Bs.none_left, by rw [List.length_drop, hlen], hval⟩⟩, by simp [lenV]⟩
                · obtain ⟨m, rfl⟩ : ∃ m, n = m + 4 := ⟨n - 4, by omega⟩
                  have skp : (4 : Int) ≤ (m : Int) + 4 := by omega
                  go_wp2_with fail
                  exact ⟨⟨m, off1 + 4, t.drop 4, by omega, rfl, ⟨hbc, hbs.drop 4, by rw [List.length_drop, hlen]; omega, hval⟩⟩, by simp [lenV]⟩
        · have e2 : ¬ ((X : Int) % 8 = 2) := by omega
          have e3 : ¬ ((X : Int) % 8 = 3) := by omega
          have e4 : ¬ ((X : Int) % 8 = 4) := by omega
          have e2b : (((X : Int) % 8) == 2) = false := by simp; omega
          have e3b : (((X : Int) % 8) == 3) = false := by simp; omega
          have e4b : (((X : Int) % 8) == 4) = false := by simp; omega
          simp only [Lib.checkN, s2, s3, s4, if_false] at hlead
          go_wp2
          all_goals (go_ret; exact ⟨by first | rfl | rw [hlead], hS.bel.alloc hS.bel.size _⟩)
end Go.Proofs.YtckcdgobgpjdkaaDoor.Oct
