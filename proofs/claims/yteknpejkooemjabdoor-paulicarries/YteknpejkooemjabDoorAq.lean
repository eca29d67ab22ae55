/- Max and Check; Clone; gather and scatter. -/
import Derived.Test.YteknpejkooemjabDoorAp
namespace Go.Proofs.YteknpejkooemjabDoor.Gt
open Go.RowKit Go.Proofs.YteknpejkooemjabDoor.Oct

/-- The greatest of the first numbers. -/
def mxG (l : List Int) : Nat → Int
  | 0 => l.getD 0 0
  | m + 1 => if mxG l m < l.getD (m + 1) 0 then l.getD (m + 1) 0 else mxG l m
set_option maxRecDepth 100000 in
set_option maxHeartbeats 1000000 in
theorem sMax (ao : Option Addr) (c : Nat) (l : List Int) (hl : l.length ≤ 1000000000000000) (h0 : 0 < l.length) (w : World) (hN : Ns w ao l) : Calls Tryd.prog 43 #[.slice ao l.length c] w fun e w' => e = .returned (.int .i64 (mxG l (l.length - 1))) ∧ w' = w := by
  have HN := hide hN
  clear hN
  obtain ⟨n, hn⟩ : ∃ n, l.length = n := ⟨_, rfl⟩
  have HL := hide hn
  rw [hn] at hl h0 ⊢
  have hne : l ≠ [] := fun e => by rw [e] at hn; simp at hn; omega
  obtain ⟨g, off, rfl, hc⟩ := HN.out.resolve_left hne
  have hlt1 : ¬ (n : Int) < 1 := by omega
  have hc0 : w.cell? ⟨g, off, none⟩ = some (.int .i64 (mxG l 0)) := by
    have := hc 0 (l.getD 0 0) (by rw [List.getD_eq_getElem?_getD, List.getElem?_eq_getElem (by omega)]; rfl)
    rw [Nat.add_zero] at this
    exact this
  have HC := hide hc
  clear hc hn hne
  go_enter Tryd.func43, Tryd.ntmps43
  go_wp2_with fail
  go_loop [3, 4] (fun vm vi => ∃ i : Nat, vm = .int .i64 (mxG l i) ∧ vi = .int .i64 ((i : Int) + 1) ∧ i < n) (fun _ vi => n - (Go.RowKit.intOf vi).toNat)
  case atStart => exact ⟨0, rfl, rfl, h0⟩
  case round =>
    obtain ⟨i, rfl, rfl, hi⟩ := hrel
    by_cases h : i + 1 < n
    · have hd : decide ((i : Int) + 1 < (n : Int)) = true := decide_eq_true (by omega)
      have hcell : w.cell? ⟨g, off + (i + 1), none⟩ = some (.int .i64 (l.getD (i + 1) 0)) := HC.out (i + 1) _ (by rw [List.getD_eq_getElem?_getD, List.getElem?_eq_getElem (by rw [HL.out]; exact h)]; rfl)
      have hmx : Hid (mxG l (i + 1) = if mxG l i < l.getD (i + 1) 0 then l.getD (i + 1) 0 else mxG l i) := hide rfl
      generalize l.getD (i + 1) 0 = z at *
      generalize mxG l i = m at *
      clear hc0
      go_wp2_with fail
      exact ⟨⟨i + 1, by rw [hmx.out], by go_num, by omega⟩, by simp [Go.RowKit.intOf]; omega⟩
    · obtain rfl : n = i + 1 := by omega
      go_wp2_with fail
      go_ret
      exact ⟨rfl, rfl⟩
theorem mxG_ge (l : List Int) (n : Int) : ∀ m, n ≤ mxG l m ↔ ∃ j, j ≤ m ∧ n ≤ l.getD j 0
  | 0 => by
    rw [mxG]
    exact ⟨fun h => ⟨0, by omega, h⟩, fun ⟨j, hj, h⟩ => by obtain rfl : j = 0 := by omega
                                                           exact h⟩
  | m + 1 => by
    have ih := mxG_ge l n m
    rw [mxG]
    constructor
    · intro h
      by_cases c : n ≤ l.getD (m + 1) 0
      · exact ⟨m + 1, by omega, c⟩
      · obtain ⟨j, hj, h'⟩ := ih.1 (by split at h <;> omega)
        exact ⟨j, by omega, h'⟩
    · rintro ⟨j, hj, h⟩
      by_cases e : j = m + 1
      · rw [e] at h; split <;> omega
      · have := ih.2 ⟨j, by omega, h⟩
        split <;> omega
/-- What Check answers. -/
def chkP (k : Int) (l : List Int) (n : Int) : Int := if !knB (rw' k) then 60 else if !apP (rw' k).q l then 61 else if n ≤ mxG l (l.length - 1) then 61 else 0
set_option maxRecDepth 100000 in
set_option maxHeartbeats 1000000 in
theorem gCheck (k : Int) (ao : Option Addr) (c : Nat) (l : List Int) (n : Int) (hl : l.length ≤ 1000000000000000) (hc : l.length ≤ c) (w : World) (hT : Tb w) (hN : Ns w ao l) : Calls Tryd.prog 30 #[.int .i64 k, .slice ao l.length c, .int .i64 n] w fun e w' => e = .returned (.int .i64 (chkP k l n)) ∧ Below w.heap.size w w' := by
  have cK := gKnown k w hT
  have cA := fun w hT hN => gApart k ao c l hl hc w hT hN
  have cM := fun h0 w hN => sMax ao c l hl h0 w hN
  unfold chkP
  rw [show decide (0 < (rw' k).q) = knB (rw' k) from rfl] at cK
  have hkq : knB (rw' k) = true → apP (rw' k).q l = true → 0 < l.length := by
    intro h1 h2
    unfold knB at h1
    unfold apP at h2
    rw [Bool.and_eq_true] at h2
    have a := of_decide_eq_true h1
    have b := of_decide_eq_true h2.1
    omega
  generalize knB (rw' k) = kn at *
  generalize apP (rw' k).q l = ap at *
  generalize mxG l (l.length - 1) = mx at *
  cases kn
  · clear cA cM hkq
    go_enter Tryd.func30, Tryd.ntmps30
    go_wp2_with fail
    refine cK.mono ?_
    rintro e w1 ⟨rfl, q1⟩
    go_wp2_with fail
    go_ret
    exact ⟨rfl, q1⟩
  · cases ap
    · clear cM hkq
      go_enter Tryd.func30, Tryd.ntmps30
      go_wp2_with fail
      refine cK.mono ?_
      rintro e w1 ⟨rfl, q1⟩
      go_wp2_with fail
      refine (cA _ (hT.below q1) (hN.below q1)).mono ?_
      rintro e w2 ⟨rfl, q2⟩
      go_wp2_with fail
      go_ret
      exact ⟨rfl, q1.trans (q2.mono q1.size)⟩
    · have h0 := hkq rfl rfl
      have cM2 := fun w hN => cM h0 w hN
      clear hkq cM
      by_cases hm : n ≤ mx
      · have hd : decide (n ≤ mx) = true := decide_eq_true hm
        go_enter Tryd.func30, Tryd.ntmps30
        go_wp2_with fail
        refine cK.mono ?_
        rintro e w1 ⟨rfl, q1⟩
        go_wp2_with fail
        refine (cA _ (hT.below q1) (hN.below q1)).mono ?_
        rintro e w2 ⟨rfl, q2⟩
        have q12 := q1.trans (q2.mono q1.size)
        go_wp2_with fail
        refine (cM2 _ (hN.below q12)).mono ?_
        rintro e w3 ⟨rfl, rfl⟩
        go_wp2_with fail
        go_ret
        exact ⟨by simp, q12⟩
      · have hd : decide (n ≤ mx) = false := decide_eq_false hm
        go_enter Tryd.func30, Tryd.ntmps30
        go_wp2_with fail
        refine cK.mono ?_
        rintro e w1 ⟨rfl, q1⟩
        go_wp2_with fail
        refine (cA _ (hT.below q1) (hN.below q1)).mono ?_
        rintro e w2 ⟨rfl, q2⟩
        have q12 := q1.trans (q2.mono q1.size)
        go_wp2_with fail
        refine (cM2 _ (hN.below q12)).mono ?_
        rintro e w3 ⟨rfl, rfl⟩
        go_wp2_with fail
        go_ret
        exact ⟨by simp, q12⟩
theorem infoI : (Tryd.prog.info? 3).map (fun i => (i.zero, i.size, i.bytes)) = some (some (.int .i64 0), 1, 8) := by kernel_rfl
/-- A bit. -/
def bitN (p z : Nat) : Nat := p / 2 ^ z % 2
theorem bitN_lt (p z : Nat) : bitN p z < 2 := Nat.mod_lt _ (by decide)
theorem and_one : ∀ a : Fin 64, bits .and .i64 (a.1 : Int) 1 = ((a.1 % 2 : Nat) : Int) := by decide +kernel
theorem or_small : ∀ a b : Fin 64, bits .or .i64 (a.1 : Int) (b.1 : Int) = ((a.1 ||| b.1 : Nat) : Int) := by decide +kernel
theorem andNot_small : ∀ (a : Fin 64) (z : Fin 6), bits .andNot .i64 (a.1 : Int) (2 ^ z.1) = ((a.1 - bitN a.1 z.1 * 2 ^ z.1 : Nat) : Int) := by decide +kernel
theorem div_cast (p z : Nat) : (p : Int) / 2 ^ z = ((p / 2 ^ z : Nat) : Int) := by
  rw [Int.natCast_ediv, Int.natCast_pow]
  rfl
theorem bit_run (p z : Nat) (hp : p < 64) : bits .and .i64 ((p : Int) / 2 ^ z) 1 = ((bitN p z : Nat) : Int) := by
  rw [div_cast]
  have : p / 2 ^ z < 64 := Nat.lt_of_le_of_lt (Nat.div_le_self _ _) hp
  exact and_one ⟨_, this⟩
theorem shl_run (b i : Nat) (hb : b < 2) (hi : i < 6) : wrap64 ((b : Int) * 2 ^ i) = ((b * 2 ^ i : Nat) : Int) := by
  have : ∀ (b : Fin 2) (i : Fin 6), wrap64 ((b.1 : Int) * 2 ^ i.1) = ((b.1 * 2 ^ i.1 : Nat) : Int) := by decide +kernel
  exact this ⟨b, hb⟩ ⟨i, hi⟩
theorem shl_lt (b i : Nat) (hb : b < 2) (hi : i < 6) : b * 2 ^ i < 64 := by
  have : ∀ (b : Fin 2) (i : Fin 6), b.1 * 2 ^ i.1 < 64 := by decide +kernel
  exact this ⟨b, hb⟩ ⟨i, hi⟩
theorem or_lt {a b : Nat} (ha : a < 64) (hb : b < 64) : a ||| b < 64 := Nat.or_lt_two_pow (n := 6) ha hb
/-- What gather answers of the first qubits. -/
def gaG (p : Nat) (l : List Nat) : Nat → Nat
  | 0 => 0
  | i + 1 => gaG p l i ||| bitN p (l.getD i 0) * 2 ^ i
theorem gaG_lt (p : Nat) (l : List Nat) : ∀ i, i ≤ 6 → gaG p l i < 64
  | 0, _ => by rw [gaG]; decide
  | i + 1, h => or_lt (gaG_lt p l i (by omega)) (shl_lt _ _ (bitN_lt _ _) (by omega))
/-- Small numbers in a row. -/
def Nr (w : World) (g : Nat) (l : List Nat) : Prop := Rk w g 3 l.length (fun j => .int .i64 ((l.getD j 0 : Nat) : Int))
theorem pow_run (z : Nat) (h : z < 6) : wrap64 ((2 : Int) ^ z) = 2 ^ z := by
  have : ∀ z : Fin 6, wrap64 ((2 : Int) ^ z.1) = 2 ^ z.1 := by decide +kernel
  exact this ⟨z, h⟩
/-- What scatter answers behind the first qubits. -/
def scG (p x : Nat) (l : List Nat) : Nat → Nat
  | 0 => p
  | i + 1 => (scG p x l i - bitN (scG p x l i) (l.getD i 0) * 2 ^ (l.getD i 0)) ||| bitN x i * 2 ^ (l.getD i 0)
theorem scG_lt (p x : Nat) (l : List Nat) (hp : p < 64) : ∀ i, (∀ j, j < i → l.getD j 0 < 6) → scG p x l i < 64
  | 0, _ => hp
  | i + 1, h => or_lt (Nat.lt_of_le_of_lt (Nat.sub_le _ _) (scG_lt p x l hp i (fun j hj => h j (by omega)))) (shl_lt _ _ (bitN_lt _ _) (h i (by omega)))
end Go.Proofs.YteknpejkooemjabDoor.Gt
