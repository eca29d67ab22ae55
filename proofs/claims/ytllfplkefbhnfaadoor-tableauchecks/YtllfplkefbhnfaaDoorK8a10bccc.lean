import Derived.Test.YtllfplkefbhnfaaDoorK85b12123
set_option maxRecDepth 100000
set_option maxHeartbeats 1000000
namespace Go.Proofs.YtllfplkefbhnfaaDoor.Gt
open Go.RowKit Go.Proofs.YtllfplkefbhnfaaDoor.Oct
def mxG (l : List Int) : Nat -> Int
  | 0 => l.getD 0 0
  | m + 1 => if mxG l m < l.getD (m + 1) 0 then l.getD (m + 1) 0 else mxG l m
theorem sMax (ao : Option Addr) (c : Nat) (l : List Int) (hl : l.length <= 1000000000000000) (h0 : 0 < l.length) (w : World) (hN : Ns w ao l) : Calls Tryd.prog 55 #[.slice ao l.length c] w fun e w' => e = .returned (.int .i64 (mxG l (l.length - 1))) /\ w' = w := by
  have HN := hide hN
  clear hN
  obtain ⟨n, hn⟩ : ∃ n, l.length = n := ⟨_, rfl⟩
  have HL := hide hn
  rw [hn] at hl h0 ⊢
  have hne : l ≠ [] := fun e => by rw [e] at hn; simp at hn; omega
  obtain ⟨g, off, rfl, hc⟩ := HN.out.resolve_left hne
  have hlt1 : ¬ (n : Int) < 1 := by omega
  have hc0 : w.cell? ⟨g, off, none⟩ = some (.int .i64 (mxG l 0)) := by
    have := hc 0 (l.getD 0 0) (by rw [List.getD_eq_getElem?_getD, List.getElem?_eq_getElem (by omega)]; rfl)
    rw [Nat.add_zero] at this
    exact this
  have HC := hide hc
  clear hc hn hne
  go_enter Tryd.func55, Tryd.ntmps55
  go_wp2_with fail
  go_loop [3, 4] (fun vm vi => ∃ i : Nat, vm = .int .i64 (mxG l i) /\ vi = .int .i64 ((i : Int) + 1) /\ i < n) (fun _ vi => n - (Go.RowKit.intOf vi).toNat)
  case atStart => exact ⟨0, rfl, rfl, h0⟩
  case round =>
    obtain ⟨i, rfl, rfl, hi⟩ := hrel
    by_cases h : i + 1 < n
    . have hd : decide ((i : Int) + 1 < (n : Int)) = true := decide_eq_true (by omega)
      have hcell : w.cell? ⟨g, off + (i + 1), none⟩ = some (.int .i64 (l.getD (i + 1) 0)) := HC.out (i + 1) _ (by rw [List.getD_eq_getElem?_getD, List.getElem?_eq_getElem (by rw [HL.out]; exact h)]; rfl)
      have hmx : Hid (mxG l (i + 1) = if mxG l i < l.getD (i + 1) 0 then l.getD (i + 1) 0 else mxG l i) := hide rfl
      generalize l.getD (i + 1) 0 = z at *
      generalize mxG l i = m at *
      clear hc0
      go_wp2_with fail
      exact ⟨⟨i + 1, by rw [hmx.out], by go_num, by omega⟩, by simp [Go.RowKit.intOf]; omega⟩
    . obtain rfl : n = i + 1 := by omega
      go_wp2_with fail
      go_ret
      exact ⟨rfl, rfl⟩
theorem mxG_ge (l : List Int) (n : Int) : ∀ m, n <= mxG l m ↔ ∃ j, j <= m /\ n <= l.getD j 0
  | 0 => by
    rw [mxG]
    exact ⟨fun h => ⟨0, by omega, h⟩, fun ⟨j, hj, h⟩ => by obtain rfl : j = 0 := by omega
                                                           exact h⟩
  | m + 1 => by
    have ih := mxG_ge l n m
    rw [mxG]
    constructor
    . intro h
      by_cases c : n <= l.getD (m + 1) 0
      . exact ⟨m + 1, by omega, c⟩
      . obtain ⟨j, hj, h'⟩ := ih.1 (by split at h <;> omega)
        exact ⟨j, by omega, h'⟩
    . rintro ⟨j, hj, h⟩
      by_cases e : j = m + 1
      . rw [e] at h; split <;> omega
      . have := ih.2 ⟨j, by omega, h⟩
        split <;> omega
def chkP (k : Int) (l : List Int) (n : Int) : Int := if !knB (rw' k) then 60 else if !apP (rw' k).q l then 61 else if n <= mxG l (l.length - 1) then 61 else 0
theorem gCheck (k : Int) (ao : Option Addr) (c : Nat) (l : List Int) (n : Int) (hl : l.length <= 1000000000000000) (hc : l.length <= c) (w : World) (hT : Tb w) (hN : Ns w ao l) : Calls Tryd.prog 36 #[.int .i64 k, .slice ao l.length c, .int .i64 n] w fun e w' => e = .returned (.int .i64 (chkP k l n)) /\ Below w.heap.size w w' := by
  have cK := gKnown k w hT
  have cA := fun w hT hN => gApart k ao c l hl hc w hT hN
  have cM := fun h0 w hN => sMax ao c l hl h0 w hN
  unfold chkP
  rw [show decide (0 < (rw' k).q) = knB (rw' k) from rfl] at cK
  have hkq : knB (rw' k) = true -> apP (rw' k).q l = true -> 0 < l.length := by
    intro h1 h2
    unfold knB at h1
    unfold apP at h2
    rw [Bool.and_eq_true] at h2
    have a := of_decide_eq_true h1
    have b := of_decide_eq_true h2.1
    omega
  generalize knB (rw' k) = kn at *
  generalize apP (rw' k).q l = ap at *
  generalize mxG l (l.length - 1) = mx at *
  cases kn
  . clear cA cM hkq
    go_enter Tryd.func36, Tryd.ntmps36
    go_wp2_with fail
    refine cK.mono ?_
    rintro e w1 ⟨rfl, q1⟩
    go_wp2_with fail
    go_ret
    exact ⟨rfl, q1⟩
  . cases ap
    . clear cM hkq
      go_enter Tryd.func36, Tryd.ntmps36
      go_wp2_with fail
      refine cK.mono ?_
      rintro e w1 ⟨rfl, q1⟩
      go_wp2_with fail
      refine (cA _ (hT.below q1) (hN.below q1)).mono ?_
      rintro e w2 ⟨rfl, q2⟩
      go_wp2_with fail
      go_ret
      exact ⟨rfl, q1.trans (q2.mono q1.size)⟩
    . have h0 := hkq rfl rfl
      have cM2 := fun w hN => cM h0 w hN
      clear hkq cM
      by_cases hm : n <= mx
      . have hd : decide (n <= mx) = true := decide_eq_true hm
        go_enter Tryd.func36, Tryd.ntmps36
        go_wp2_with fail
        refine cK.mono ?_
        rintro e w1 ⟨rfl, q1⟩
        go_wp2_with fail
        refine (cA _ (hT.below q1) (hN.below q1)).mono ?_
        rintro e w2 ⟨rfl, q2⟩
        have q12 := q1.trans (q2.mono q1.size)
        go_wp2_with fail
        refine (cM2 _ (hN.below q12)).mono ?_
        rintro e w3 ⟨rfl, rfl⟩
        go_wp2_with fail
        go_ret
        exact ⟨by simp, q12⟩
      . have hd : decide (n <= mx) = false := decide_eq_false hm
        go_enter Tryd.func36, Tryd.ntmps36
        go_wp2_with fail
        refine cK.mono ?_
        rintro e w1 ⟨rfl, q1⟩
        go_wp2_with fail
        refine (cA _ (hT.below q1) (hN.below q1)).mono ?_
        rintro e w2 ⟨rfl, q2⟩
        have q12 := q1.trans (q2.mono q1.size)
        go_wp2_with fail
        refine (cM2 _ (hN.below q12)).mono ?_
        rintro e w3 ⟨rfl, rfl⟩
        go_wp2_with fail
        go_ret
        exact ⟨by simp, q12⟩
def bitN (p z : Nat) : Nat := p / 2 ^ z % 2
theorem bitN_lt (p z : Nat) : bitN p z < 2 := Nat.mod_lt _ (by decide)
theorem and_one : ∀ a : Fin 64, bits .and .i64 (a.1 : Int) 1 = ((a.1 % 2 : Nat) : Int) := by decide +kernel
theorem div_cast (p z : Nat) : (p : Int) / 2 ^ z = ((p / 2 ^ z : Nat) : Int) := by
  rw [Int.natCast_ediv, Int.natCast_pow]
  rfl
theorem bit_run (p z : Nat) (hp : p < 64) : bits .and .i64 ((p : Int) / 2 ^ z) 1 = ((bitN p z : Nat) : Int) := by
  rw [div_cast]
  have : p / 2 ^ z < 64 := Nat.lt_of_le_of_lt (Nat.div_le_self _ _) hp
  exact and_one ⟨_, this⟩
theorem pow_run (z : Nat) (h : z < 6) : wrap64 ((2 : Int) ^ z) = 2 ^ z := by
  have : ∀ z : Fin 6, wrap64 ((2 : Int) ^ z.1) = 2 ^ z.1 := by decide +kernel
  exact this ⟨z, h⟩
end Go.Proofs.YtllfplkefbhnfaaDoor.Gt
