import Derived.Test.YtllfplkefbhnfabDoorKe0af0e8d
set_option maxRecDepth 100000
set_option maxHeartbeats 4000000
namespace Go.Proofs.YtllfplkefbhnfabDoor.Tbl
open Go.RowKit Go.Shelf Go.Proofs.YtllfplkefbhnfabDoor.Pau Go.Proofs.YtllfplkefbhnfabDoor.Gt
def ulG (n : Int) : List Int -> Nat -> Bool
  | [], _ => true
  | q :: l, m => decide (0 <= q) && decide (q < n) && decide (bt m q.toNat = 0) && ulG n l (m ||| 2 ^ q.toNat)
def ulB (n : Int) (l : List Int) : Bool := ulG n l 0
def mkG : List Int -> Nat -> Nat
  | [], m => m
  | q :: l, m => mkG l (m ||| 2 ^ q.toNat)
theorem or_run (m q : Nat) (hm : m < 18446744073709551616) (hq : q < 64) : bits .or .u64 (m : Int) ((2 ^ q : Nat) : Int) = ((m ||| 2 ^ q : Nat) : Int) := u64_or_nat _ _ hm (pow_lt64 hq)
theorem or_lt64 {m q : Nat} (hm : m < 18446744073709551616) (hq : q < 64) : m ||| 2 ^ q < 18446744073709551616 := Nat.or_lt_two_pow (n := 64) hm (pow_lt64 hq)
theorem tUnlike (l : List Int) (hl : l.length <= 1000000000000000) (n : Nat) (hn : n <= 64) (ao : Option Addr) (c : Nat) (w : World) (hN : Ns w ao l) :
    Calls Tryd.prog 51 #[.slice ao l.length c, .int .i64 (n : Int)] w fun e w' => e = .returned (.bool (ulB (n : Int) l)) /\ Below w.heap.size w w' := by
  have HN := hide hN
  obtain ⟨k, hk⟩ : ∃ k, l.length = k := ⟨_, rfl⟩
  have HL := hide hk
  rw [hk] at hl ⊢
  unfold ulB
  have HR : Hid (ulG (n : Int) l 0 = ulG (n : Int) (l.drop 0) 0) := hide (by rw [List.drop_zero])
  have hb2 := Pau.bit_run
  have hsh := shl_one
  have hor := or_run
  generalize ulG (n : Int) l 0 = R at *
  clear hN hk
  go_enter Tryd.func51, Tryd.ntmps51
  go_wp2_with fail
  go_loopw [5, 10] (fun vm vi wr => ∃ i m : Nat, vm = .int .u64 (m : Int) /\ vi = .int .i64 (i : Int) /\ i <= k /\ m < 18446744073709551616 /\ Hid (R = ulG (n : Int) (l.drop i) m) /\ Below w.heap.size w wr) (fun _ vi _ => k - (Go.RowKit.intOf vi).toNat)
  case atStart => exact ⟨0, 0, rfl, rfl, Nat.zero_le _, by decide, HR, Below.refl _ _⟩
  case round =>
    obtain ⟨i, m, rfl, rfl, hi, hm, HS, hb⟩ := hrel
    clear HR
    by_cases h : i < k
    . have hd : decide ((i : Int) < (k : Int)) = true := decide_eq_true (by omega)
      obtain ⟨q, hq⟩ : ∃ q, l[i]? = some q := ⟨_, List.getElem?_eq_getElem (by rw [HL.out]; exact h)⟩
      have hne : l ≠ [] := fun e => by rw [e] at hq; simp at hq
      obtain ⟨g, off, rfl, hc⟩ := (HN.out.below hb).resolve_left hne
      have a0 := hc i q hq
      have a1 := World.block_lt_of_cell? _ _ a0
      have hdr : l.drop i = q :: l.drop (i + 1) := by
        have hlt := (List.getElem?_eq_some_iff.1 hq).1
        have he := (List.getElem?_eq_some_iff.1 hq).2
        rw [List.drop_eq_getElem_cons hlt, he]
      have HS2 : Hid (R = (decide (0 <= q) && decide (q < (n : Int)) && decide (bt m q.toNat = 0) && ulG (n : Int) (l.drop (i + 1)) (m ||| 2 ^ q.toNat))) := hide (by rw [HS.out, hdr, ulG])
      clear hq hne hc hdr HS
      by_cases h0 : q < 0
      . have d0 : decide (q < 0) = true := decide_eq_true h0
        have hR : R = false := by rw [HS2.out, decide_eq_false (show ¬ 0 <= q by omega)]; rfl
        subst hR
        clear HS2 hb2 hsh hor
        go_wp2_with fail
        go_ret
        exact ⟨rfl, hb⟩
      . have d0 : decide (q < 0) = false := decide_eq_false h0
        by_cases h1 : (n : Int) <= q
        . have d1 : decide ((n : Int) <= q) = true := decide_eq_true h1
          have hR : R = false := by rw [HS2.out, decide_eq_false (show ¬ q < (n : Int) by omega)]; simp
          subst hR
          clear HS2 hb2 hsh hor
          go_wp2_with fail
          go_ret
          exact ⟨rfl, hb⟩
        . have d1 : decide ((n : Int) <= q) = false := decide_eq_false h1
          obtain ⟨x, rfl⟩ : ∃ x : Nat, q = (x : Int) := ⟨q.toNat, by omega⟩
          rw [Int.toNat_natCast] at HS2
          have hx : x < 64 := by omega
          have hx64 : (x : Int) <= 64 := by omega
          have b2 := hb2 m x hm
          have s1 := hsh x hx
          have o1 := hor m x hm hx
          have HLT := hide (or_lt64 hm hx)
          have hbl := bt_lt m x
          have HS3 : Hid (R = (decide (bt m x = 0) && ulG (n : Int) (l.drop (i + 1)) (m ||| 2 ^ x))) := hide (by rw [HS2.out, decide_eq_true (show (0 : Int) <= (x : Int) by omega), decide_eq_true (show (x : Int) < (n : Int) by omega)]; simp)
          clear HS2 hb2 hsh hor
          generalize bt m x = y at *
          generalize m ||| 2 ^ x = m2 at *
          have hy : y = 0 ∨ y = 1 := by omega
          rcases hy with rfl | rfl
          . have HS4 : Hid (R = ulG (n : Int) (l.drop (i + 1)) m2) := hide (by rw [HS3.out]; simp)
            clear HS3
            go_wp2_with fail
            go_roundw
            case rel => exact ⟨i + 1, m2, by rw [show (2 : Int) ^ x = ((2 ^ x : Nat) : Int) by simp, o1], by go_num, by omega, HLT.out, HS4, hb⟩
            case measure => simp [Go.RowKit.intOf]; omega
          . have hR : R = false := by rw [HS3.out]; simp
            subst hR
            clear HS3
            go_wp2_with fail
            go_ret
            exact ⟨rfl, hb⟩
    . obtain rfl : k = i := by omega
      have hR : R = true := by
        rw [HS.out, List.drop_eq_nil_of_le (by rw [HL.out]; exact Nat.le_refl _)]
        rfl
      subst hR
      clear HS
      go_wp2_with fail
      go_ret
      exact ⟨rfl, hb⟩
end Go.Proofs.YtllfplkefbhnfabDoor.Tbl
