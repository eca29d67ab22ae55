/- The document's exact sum: a float's parts taken off. -/
import Derived.Test.YtnpdfkcjjedamaaGreatDoorZc
namespace Go.Proofs.YtnpdfkcjjedamaaGreatDoor.Sca
open Go.RowKit Go.Lib Go.Shelf

set_option maxRecDepth 100000 in
set_option maxHeartbeats 1000000 in
theorem qAdd_minus (g c m k s pl p0 p1 p2 : Nat) (e : Int) (a : List Int) (w : World) (hk : k ≤ 64) (_hs : s < 32) (hpl : pl < 2100) (he : e + 1074 = (pl : Int)) (hq1 : (pl : Int) / 32 = (k : Int)) (hq2 : (pl : Int) % 32 = (s : Int))
    (h0 : bits .and .u64 (IntKind.u64.wrap ((m : Int) * 2 ^ s)) 4294967295 = (p0 : Int)) (h1 : bits .and .u64 ((m : Int) / 2 ^ (32 - s)) 4294967295 = (p1 : Int)) (h2 : 0 < s → (m : Int) / 2 ^ (64 - s) = (p2 : Int)) (h3 : s = 0 → p2 = 0) (hp0 : p0 < 4294967296) (hp1 : p1 < 4294967296) (hp2 : p2 < 4294967296)
    (hb : ∀ (i : Nat) x, a[i]? = some x → -1125899906842624 < x ∧ x < 1125899906842624) (h : Qw w g a) :
    Calls Tryz.prog 31 #[.slice (some ⟨g, 0, none⟩) 72 c, .int .u64 (m : Int), .int .i64 e, .bool true] w fun e' w' => e' = .returned (.tuple #[]) ∧ ∃ a', Qw w' g a' ∧ w.grownBy w' (some g) ∧ valq a' = valq a - ((pvn [p0, p1, p2] * 4294967296 ^ k : Nat) : Int) ∧ (∀ (i : Nat) x x0, a'[i]? = some x → a[i]? = some x0 → x0 - 4294967296 < x ∧ x < x0 + 4294967296) := by
  have mixed := mixed_ok
  have HB : Hid (∀ (i : Nat) x, a[i]? = some x → -1125899906842624 < x ∧ x < 1125899906842624) := hb
  have hgl : g < w.heap.size := World.block_lt_of_cell? w ⟨g, 0, none⟩ (h.cell 0 _ (List.getElem?_eq_getElem (by rw [h.len]; omega)))
  clear hb
  have hz1 : (0 : Int) ≤ (s : Int) := by omega
  have hz2 : (0 : Int) ≤ 32 - (s : Int) := by omega
  have hz3 : (0 : Int) ≤ 64 - (s : Int) := by omega
  have hP : ∀ (j : Nat) p, [p0, p1, p2][j]? = some p → p < 4294967296 := fun j p hj => by
    match j, hj with
    | 0, hj => simp at hj; omega
    | 1, hj => simp at hj; omega
    | 2, hj => simp at hj; omega
  have HP : Hid (∀ (j : Nat) p, [p0, p1, p2][j]? = some p → p < 4294967296) := hP
  have hlen : ∀ j, j < 3 → ∃ p, [p0, p1, p2][j]? = some p := fun j hj => ⟨_, List.getElem?_eq_getElem (by simpa using hj)⟩
  have HN : Hid (∀ j, j < 3 → ∃ p, [p0, p1, p2][j]? = some p) := hlen
  clear hP hlen
  by_cases hs0 : s = 0
  · have hp20 : p2 = 0 := h3 hs0
    have hsz : decide (0 < s) = false := decide_eq_false (by omega)
    have hsy : decide ((0 : Int) < (s : Int)) = false := decide_eq_false (by omega)
    have hQ0 : Qw (w.alloc (.cells #[.int .i64 (p0 : Int), .int .i64 (p1 : Int), .int .i64 0] 2)) g a := ⟨h.len, (heap_alloc_old w _ hgl).trans h.blk⟩
    have hG0 : w.grownBy (w.alloc (.cells #[.int .i64 (p0 : Int), .int .i64 (p1 : Int), .int .i64 0] 2)) (some g) := ⟨rfl, rfl, rfl, by simp, fun i hi _ => heap_alloc_old w _ hi⟩
    have HC0 : Hid (∀ (j : Nat) p, [p0, p1, p2][j]? = some p → (w.alloc (.cells #[.int .i64 (p0 : Int), .int .i64 (p1 : Int), .int .i64 0] 2)).cell? ⟨w.heap.size, j, none⟩ = some (.int .i64 (p : Int))) := fun j p hj => by
      match j, hj with
      | 0, hj => simp at hj; subst hj; simp
      | 1, hj => simp at hj; subst hj; simp
      | 2, hj => simp at hj; subst hj; simp; omega
    have HPP : Hid (pvn [p0, p1, p2] = pvn ([p0, p1, p2].take 3)) := rfl
    clear h2 h3 hs0 hp20
    generalize hPPe : [p0, p1, p2] = PP at *
    clear hPPe
    go_enter Tryz.func31, Tryz.ntmps31
    go_wp2
    generalize w.alloc (.cells #[.int .i64 (p0 : Int), .int .i64 (p1 : Int), .int .i64 0] 2) = W0 at *
    clear h0 h1 he hq1 hq2 hz1 hz2 hz3 hsz hsy
    go_loopw [12] (fun vi wr => ∃ (i : Nat) (ar : List Int), vi = .int .i64 (i : Int) ∧ i ≤ 3 ∧ Qw wr g ar ∧ w.grownBy wr (some g) ∧ Hid (∀ (j : Nat) p, PP[j]? = some p → wr.cell? ⟨w.heap.size, j, none⟩ = some (.int .i64 (p : Int))) ∧ Hid (valq ar = valq a - ((pvn (PP.take i) * 4294967296 ^ k : Nat) : Int)) ∧ Hid (∀ j, k + i ≤ j → ar[j]? = a[j]?) ∧ Hid (∀ (i : Nat) x x0, ar[i]? = some x → a[i]? = some x0 → x0 - 4294967296 < x ∧ x < x0 + 4294967296)) (fun vi _ => 3 - (Go.RowKit.intOf vi).toNat)
    case atStart => exact ⟨0, a, rfl, by omega, hQ0, hG0, HC0, by show _ = _; simp [pvn], fun _ _ => rfl, fun i x x0 h1 h2 => by rw [h1] at h2; cases h2; omega⟩
    case round =>
      obtain ⟨i, ar, rfl, hi, hQ, hG, HC, HV, HA, HD⟩ := hrel
      clear hQ0 hG0 HC0 h
      by_cases hi3 : i < 3
      · have hiz : decide ((i : Int) < 3) = true := decide_eq_true (by omega)
        obtain ⟨p, hp⟩ := HN.out i hi3
        have hpl2 := HP.out i p hp
        have hpc := HC.out i p hp
        obtain ⟨ki, hki⟩ : ∃ ki, k + i = ki := ⟨_, rfl⟩
        have hkiz : (k : Int) + (i : Int) = (ki : Int) := by omega
        have hki0 : (0 : Int) ≤ (ki : Int) := by omega
        have hki1 : (ki : Int) < 72 := by omega
        have hi0 : (0 : Int) ≤ (i : Int) := by omega
        have hi1 : (i : Int) < 3 := by omega
        obtain ⟨x, hx, hxc⟩ := hQ.at ki (by omega)
        have hax : a[ki]? = some x := by rw [← HA.out ki (by omega)]; exact hx
        have hxb := HB.out ki x hax
        have hxf := hQ.free ki
        obtain ⟨y, hy⟩ : ∃ y, x - (p : Int) = y := ⟨_, rfl⟩
        have hyw : IntKind.i64.wrap (x - (p : Int)) = y := by rw [hy]; simp [IntKind.wrap, IntKind.bits, IntKind.signed]; omega
        have hQ2 := (hQ.set ki y).drew
        have hG2 := grown_drew (hG.trans (grown_set wr g ki (.int .i64 y)))
        have HC2 : Hid (∀ (j : Nat) p, PP[j]? = some p → (wr.setCell ⟨g, ki, none⟩ (.int .i64 y)).drew.cell? ⟨w.heap.size, j, none⟩ = some (.int .i64 (p : Int))) := fun j p hj => (Go.Proofs.YtnpdfkcjjedamaaGreatDoor.Sca.cell_far2 wr ⟨g, ki, none⟩ ⟨w.heap.size, j, none⟩ _ (by simp; omega)).trans (HC.out j p hj)
        have HV2 : Hid (valq (ar.set ki y) = valq a - ((pvn (PP.take (i + 1)) * 4294967296 ^ k : Nat) : Int)) := by
          show _ = _
          have h1 := valq_set ar ki x y hx
          have h2 := pvn_take PP i p hp
          rw [h1, HV.out, h2, ← hy, ← hki, Int.natCast_mul, Int.natCast_mul, Int.natCast_add, Int.natCast_mul, Int.natCast_pow, Int.natCast_pow]
          exact sub_word _ _ _ _ _ _ _
        have HA2 : Hid (∀ j, k + (i + 1) ≤ j → (ar.set ki y)[j]? = a[j]?) := fun j hj => by
          rw [List.getElem?_set_ne (by omega)]
          exact HA.out j (by omega)
        have HD2 : Hid (∀ (i : Nat) z x0, (ar.set ki y)[i]? = some z → a[i]? = some x0 → x0 - 4294967296 < z ∧ z < x0 + 4294967296) := fun j z x0 h1 h2 => by
          by_cases e : ki = j
          · subst e
            rw [List.getElem?_set_self (by rw [hQ.len]; omega)] at h1
            cases h1
            rw [hax] at h2
            cases h2
            omega
          · rw [List.getElem?_set_ne e] at h1
            exact HD.out j z x0 h1 h2
        clear HC HV HA HD hQ hG hp hki hx hax
        go_wp2
        go_region
        generalize (wr.setCell ⟨g, ki, none⟩ (.int .i64 y)).drew = wz at *
        clear hxc hxf hpc
        go_wp2
        exact ⟨⟨i + 1, ar.set ki y, by go_num, by omega, hQ2, hG2, HC2, HV2, HA2, HD2⟩, by simp [Go.RowKit.intOf]; omega⟩
      · obtain rfl : i = 3 := by omega
        go_wp2
        go_end0
        exact ⟨rfl, ar, hQ, hG, by rw [HPP.out]; exact HV.out, HD.out⟩
  · have hsz : decide (0 < s) = true := decide_eq_true (by omega)
    have hsy : decide ((0 : Int) < (s : Int)) = true := decide_eq_true (by omega)
    have h2' := h2 (by omega)
    have hQ0 : Qw (w.alloc (.cells #[.int .i64 (p0 : Int), .int .i64 (p1 : Int), .int .i64 (p2 : Int)] 2)) g a := ⟨h.len, (heap_alloc_old w _ hgl).trans h.blk⟩
    have hG0 : w.grownBy (w.alloc (.cells #[.int .i64 (p0 : Int), .int .i64 (p1 : Int), .int .i64 (p2 : Int)] 2)) (some g) := ⟨rfl, rfl, rfl, by simp, fun i hi _ => heap_alloc_old w _ hi⟩
    have HC0 : Hid (∀ (j : Nat) p, [p0, p1, p2][j]? = some p → (w.alloc (.cells #[.int .i64 (p0 : Int), .int .i64 (p1 : Int), .int .i64 (p2 : Int)] 2)).cell? ⟨w.heap.size, j, none⟩ = some (.int .i64 (p : Int))) := fun j p hj => by
      match j, hj with
      | 0, hj => simp at hj; subst hj; simp
      | 1, hj => simp at hj; subst hj; simp
      | 2, hj => simp at hj; subst hj; simp
    have HPP : Hid (pvn [p0, p1, p2] = pvn ([p0, p1, p2].take 3)) := rfl
    clear h2 h3 hs0
    generalize hPPe : [p0, p1, p2] = PP at *
    clear hPPe
    go_enter Tryz.func31, Tryz.ntmps31
    go_wp2
    generalize w.alloc (.cells #[.int .i64 (p0 : Int), .int .i64 (p1 : Int), .int .i64 (p2 : Int)] 2) = W0 at *
    clear h0 h1 he hq1 hq2 hz1 hz2 hz3 hsz hsy
    go_loopw [12] (fun vi wr => ∃ (i : Nat) (ar : List Int), vi = .int .i64 (i : Int) ∧ i ≤ 3 ∧ Qw wr g ar ∧ w.grownBy wr (some g) ∧ Hid (∀ (j : Nat) p, PP[j]? = some p → wr.cell? ⟨w.heap.size, j, none⟩ = some (.int .i64 (p : Int))) ∧ Hid (valq ar = valq a - ((pvn (PP.take i) * 4294967296 ^ k : Nat) : Int)) ∧ Hid (∀ j, k + i ≤ j → ar[j]? = a[j]?) ∧ Hid (∀ (i : Nat) x x0, ar[i]? = some x → a[i]? = some x0 → x0 - 4294967296 < x ∧ x < x0 + 4294967296)) (fun vi _ => 3 - (Go.RowKit.intOf vi).toNat)
    case atStart => exact ⟨0, a, rfl, by omega, hQ0, hG0, HC0, by show _ = _; simp [pvn], fun _ _ => rfl, fun i x x0 h1 h2 => by rw [h1] at h2; cases h2; omega⟩
    case round =>
      obtain ⟨i, ar, rfl, hi, hQ, hG, HC, HV, HA, HD⟩ := hrel
      clear hQ0 hG0 HC0 h
      by_cases hi3 : i < 3
      · have hiz : decide ((i : Int) < 3) = true := decide_eq_true (by omega)
        obtain ⟨p, hp⟩ := HN.out i hi3
        have hpl2 := HP.out i p hp
        have hpc := HC.out i p hp
        obtain ⟨ki, hki⟩ : ∃ ki, k + i = ki := ⟨_, rfl⟩
        have hkiz : (k : Int) + (i : Int) = (ki : Int) := by omega
        have hki0 : (0 : Int) ≤ (ki : Int) := by omega
        have hki1 : (ki : Int) < 72 := by omega
        have hi0 : (0 : Int) ≤ (i : Int) := by omega
        have hi1 : (i : Int) < 3 := by omega
        obtain ⟨x, hx, hxc⟩ := hQ.at ki (by omega)
        have hax : a[ki]? = some x := by rw [← HA.out ki (by omega)]; exact hx
        have hxb := HB.out ki x hax
        have hxf := hQ.free ki
        obtain ⟨y, hy⟩ : ∃ y, x - (p : Int) = y := ⟨_, rfl⟩
        have hyw : IntKind.i64.wrap (x - (p : Int)) = y := by rw [hy]; simp [IntKind.wrap, IntKind.bits, IntKind.signed]; omega
        have hQ2 := (hQ.set ki y).drew
        have hG2 := grown_drew (hG.trans (grown_set wr g ki (.int .i64 y)))
        have HC2 : Hid (∀ (j : Nat) p, PP[j]? = some p → (wr.setCell ⟨g, ki, none⟩ (.int .i64 y)).drew.cell? ⟨w.heap.size, j, none⟩ = some (.int .i64 (p : Int))) := fun j p hj => (Go.Proofs.YtnpdfkcjjedamaaGreatDoor.Sca.cell_far2 wr ⟨g, ki, none⟩ ⟨w.heap.size, j, none⟩ _ (by simp; omega)).trans (HC.out j p hj)
        have HV2 : Hid (valq (ar.set ki y) = valq a - ((pvn (PP.take (i + 1)) * 4294967296 ^ k : Nat) : Int)) := by
          show _ = _
          have h1 := valq_set ar ki x y hx
          have h2 := pvn_take PP i p hp
          rw [h1, HV.out, h2, ← hy, ← hki, Int.natCast_mul, Int.natCast_mul, Int.natCast_add, Int.natCast_mul, Int.natCast_pow, Int.natCast_pow]
          exact sub_word _ _ _ _ _ _ _
        have HA2 : Hid (∀ j, k + (i + 1) ≤ j → (ar.set ki y)[j]? = a[j]?) := fun j hj => by
          rw [List.getElem?_set_ne (by omega)]
          exact HA.out j (by omega)
        have HD2 : Hid (∀ (i : Nat) z x0, (ar.set ki y)[i]? = some z → a[i]? = some x0 → x0 - 4294967296 < z ∧ z < x0 + 4294967296) := fun j z x0 h1 h2 => by
          by_cases e : ki = j
          · subst e
            rw [List.getElem?_set_self (by rw [hQ.len]; omega)] at h1
            cases h1
            rw [hax] at h2
            cases h2
            omega
          · rw [List.getElem?_set_ne e] at h1
            exact HD.out j z x0 h1 h2
        clear HC HV HA HD hQ hG hp hki hx hax
        go_wp2
        go_region
        generalize (wr.setCell ⟨g, ki, none⟩ (.int .i64 y)).drew = wz at *
        clear hxc hxf hpc
        go_wp2
        exact ⟨⟨i + 1, ar.set ki y, by go_num, by omega, hQ2, hG2, HC2, HV2, HA2, HD2⟩, by simp [Go.RowKit.intOf]; omega⟩
      · obtain rfl : i = 3 := by omega
        go_wp2
        go_end0
        exact ⟨rfl, ar, hQ, hG, by rw [HPP.out]; exact HV.out, HD.out⟩
end Go.Proofs.YtnpdfkcjjedamaaGreatDoor.Sca
