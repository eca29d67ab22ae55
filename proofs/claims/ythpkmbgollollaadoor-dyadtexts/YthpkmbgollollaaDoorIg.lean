/- The document's number. -/
import Derived.Test.YthpkmbgollollaaDoorIf
namespace Go.Proofs.YthpkmbgollollaaDoor.Dy
open Go.RowKit Go.Lib Go.Shelf Go.Proofs.YthpkmbgollollaaDoor.Sca

/-- Digits, as they are read: none, where they are too many. -/
def nz : List UInt8 → Nat → Int → Option (Int × Nat)
  | [], j, v => some (v, j)
  | c :: r, j, v => if 48 ≤ c.toNat ∧ c.toNat ≤ 57 then (if 18 < j then none else nz r (j + 1) (IntKind.i64.wrap (10 * v + ((c.toNat : Int) - 48)))) else some (v, j)
/-- The number that stands at a place, and where it ends. -/
def numZ (l : List UInt8) (i : Nat) : Option (Int × Nat) := match nz (l.drop i) 0 0 with
  | none => none
  | some (v, j) => if j = 0 ∨ v < 0 then none else some (v, i + j)
def nV (o : Option (Int × Nat)) : Value := match o with
  | none => .tuple #[.int .i64 0, .int .i64 (-1)]
  | some (v, k) => .tuple #[.int .i64 v, .int .i64 (k : Int)]
theorem nz_j : ∀ (l : List UInt8) (j : Nat) (v : Int) (p : Int × Nat), nz l j v = some p → j ≤ p.2 ∧ p.2 ≤ j + l.length
  | [], j, v, p, h => by cases h; exact ⟨Nat.le_refl _, Nat.le_refl _⟩
  | c :: r, j, v, p, h => by
    unfold nz at h
    split at h
    · split at h
      · cases h
      · have := nz_j r _ _ p h
        rw [List.length_cons]
        omega
    · cases h
      exact ⟨Nat.le_refl _, Nat.le_add_right _ _⟩
theorem nz_v : ∀ (l : List UInt8) (j : Nat) (v : Int) (p : Int × Nat), i64 v → nz l j v = some p → i64 p.1
  | [], j, v, p, hv, h => by cases h; exact hv
  | c :: r, j, v, p, hv, h => by
    unfold nz at h
    split at h
    · split at h
      · cases h
      · exact nz_v r _ _ p (by rw [wrapI]; constructor <;> omega) h
    · cases h
      exact hv
theorem numZ_bd {l : List UInt8} {i : Nat} {v : Int} {k : Nat} (h : numZ l i = some (v, k)) (hi : i ≤ l.length) : i < k ∧ k ≤ l.length ∧ 0 ≤ v ∧ v ≤ 9223372036854775807 := by
  unfold numZ at h
  cases hn : nz (l.drop i) 0 0 with
  | none => rw [hn] at h; cases h
  | some p =>
    rw [hn] at h
    obtain ⟨a, b⟩ := p
    dsimp only at h
    split at h
    · cases h
    · cases h
      have h1 := nz_j _ _ _ _ hn
      have h2 := nz_v _ _ _ _ (by decide) hn
      rw [List.length_drop] at h1
      dsimp only at h1 h2
      omega
set_option maxRecDepth 100000 in
set_option maxHeartbeats 1000000 in
theorem zNumber (l : List UInt8) (i : Nat) (hi : i ≤ l.length) (hl : l.length ≤ 140737488351300) (w : World) : Calls Tryd.prog 53 #[.string ⟨l.toArray⟩, .int .i64 (i : Int)] w fun e w' => e = .returned (nV (numZ l i)) ∧ w' = w := by
  have hat : ∀ k (h : k < (⟨l.toArray⟩ : ByteArray).size) (hk : k < l.length), (⟨l.toArray⟩ : ByteArray)[k]'h = l[k] := fun k h hk => by
    show l.toArray[k]'_ = _
    simp
  have hsz := size_str l
  generalize (⟨l.toArray⟩ : ByteArray) = s at *
  obtain ⟨R, HR⟩ : ∃ R, Hid (nV (numZ l i) = R) := ⟨_, hidP rfl⟩
  rw [HR.out]
  go_enter Tryd.func53, Tryd.ntmps53
  go_wp2_with fail
  go_loopw [6, 7] (fun vv vk wr => ∃ (k : Nat) (v : Int), vv = .int .i64 v ∧ vk = .int .i64 (k : Int) ∧ i ≤ k ∧ k ≤ l.length ∧ k - i ≤ 19 ∧ i64 v ∧ Hid (nz (l.drop k) (k - i) v = nz (l.drop i) 0 0) ∧ wr = w) (fun _ vk _ => l.length - (RowKit.intOf vk).toNat)
  case atStart => exact ⟨i, 0, rfl, rfl, Nat.le_refl _, hi, by omega, by decide, hidP (by rw [Nat.sub_self]), rfl⟩
  case round =>
    obtain ⟨k, v, rfl, rfl, hik, hkl, hk19, hv, HN, rfl⟩ := hrel
    have hend : ∀ (hs : nz (l.drop k) (k - i) v = some (v, k - i)), R = nV (if k = i ∨ v < 0 then none else some (v, k)) := fun hs => by
      rw [← HR.out]
      unfold numZ
      rw [← HN.out, hs]
      dsimp only
      congr 1
      by_cases h1 : k = i ∨ v < 0
      · rw [if_pos h1, if_pos (by omega)]
      · rw [if_neg h1, if_neg (by omega), show i + (k - i) = k by omega]
    by_cases hlt : k < l.length
    · have hltz : (k : Int) < (l.length : Int) := by omega
      have hc := hat k (by omega) hlt
      have hd : l.drop k = l[k] :: l.drop (k + 1) := List.drop_eq_getElem_cons hlt
      have hks : k < s.size := by omega
      generalize l[k] = c at *
      have hc256 : (c.toNat : Int) < 256 := by have := UInt8.toNat_lt c; omega
      by_cases h48 : 48 ≤ c.toNat
      · have h48z : (48 : Int) ≤ (c.toNat : Int) := by omega
        by_cases h57 : c.toNat ≤ 57
        · have h57z : (c.toNat : Int) ≤ 57 := by omega
          by_cases h18 : 18 < k - i
          · have h18z : (18 : Int) < (k : Int) - (i : Int) := by omega
            have hR : R = nV none := by
              rw [← HR.out]
              unfold numZ
              rw [← HN.out, hd, nz, if_pos ⟨h48, h57⟩, if_pos h18]
            subst hR
            clear hend HN HR hd hat
            go_wp2_with fail
            go_ret2
            exact ⟨rfl, rfl⟩
          · have h18z : ¬ (18 : Int) < (k : Int) - (i : Int) := by omega
            have h18y : decide ((18 : Int) < (k : Int) - (i : Int)) = false := decide_eq_false h18z
            have HN2 : Hid (nz (l.drop (k + 1)) (k + 1 - i) (IntKind.i64.wrap (10 * v + ((c.toNat : Int) - 48))) = nz (l.drop i) 0 0) := hidP (by
              rw [← HN.out, hd, nz, if_pos ⟨h48, h57⟩, if_neg h18, show k + 1 - i = k - i + 1 by omega])
            have hu8 : IntKind.u8.wrap ((c.toNat : Int) - 48) = (c.toNat : Int) - 48 := by rw [IntKind.wrap_u8]; omega
            have hwr : wrap64 (wrap64 (10 * v) + ((c.toNat : Int) - 48)) = IntKind.i64.wrap (10 * v + ((c.toNat : Int) - 48)) := by
              rw [wrapI]
              unfold wrap64
              omega
            have hv2 : i64 (IntKind.i64.wrap (10 * v + ((c.toNat : Int) - 48))) := by rw [wrapI]; constructor <;> omega
            clear hend HN hd hat
            go_wp2_with fail
            exact ⟨⟨k + 1, _, by rw [hwr], by simp, by omega, by omega, by omega, hv2, HN2, trivial⟩, by simp [RowKit.intOf]; omega⟩
        · have h57z : ¬ (c.toNat : Int) ≤ 57 := by omega
          have h57y : decide ((c.toNat : Int) ≤ 57) = false := decide_eq_false h57z
          have hR := hend (by rw [hd, nz, if_neg (fun h => h57 h.2)])
          clear hend HN HR hat hd
          by_cases h1 : k = i
          · rw [if_pos (.inl h1)] at hR
            subst hR
            subst h1
            go_wp2_with fail
            go_ret2
            exact ⟨rfl, rfl⟩
          · have h1z : ((k : Int) == (i : Int)) = false := by rw [beq_eq_false_iff_ne]; omega
            by_cases h2 : v < 0
            · rw [if_pos (.inr h2)] at hR
              subst hR
              go_wp2_with fail
              go_ret2
              exact ⟨rfl, rfl⟩
            · have h2z : decide (v < 0) = false := decide_eq_false h2
              rw [if_neg (by omega)] at hR
              subst hR
              go_wp2_with fail
              go_ret2
              exact ⟨rfl, rfl⟩
      · have h48z : ¬ (48 : Int) ≤ (c.toNat : Int) := by omega
        have h48y : decide ((48 : Int) ≤ (c.toNat : Int)) = false := decide_eq_false h48z
        have hR := hend (by rw [hd, nz, if_neg (fun h => h48 h.1)])
        clear hend HN HR hat hd
        by_cases h1 : k = i
        · rw [if_pos (.inl h1)] at hR
          subst hR
          subst h1
          go_wp2_with fail
          go_ret2
          exact ⟨rfl, rfl⟩
        · have h1z : ((k : Int) == (i : Int)) = false := by rw [beq_eq_false_iff_ne]; omega
          by_cases h2 : v < 0
          · rw [if_pos (.inr h2)] at hR
            subst hR
            go_wp2_with fail
            go_ret2
            exact ⟨rfl, rfl⟩
          · have h2z : decide (v < 0) = false := decide_eq_false h2
            rw [if_neg (by omega)] at hR
            subst hR
            go_wp2_with fail
            go_ret2
            exact ⟨rfl, rfl⟩
    · have hltz : ¬ (k : Int) < (l.length : Int) := by omega
      have hlty : decide ((k : Int) < (l.length : Int)) = false := decide_eq_false hltz
      have hR := hend (by rw [List.drop_of_length_le (by omega)]; rfl)
      clear hend HN HR hat 
      by_cases h1 : k = i
      · rw [if_pos (.inl h1)] at hR
        subst hR
        subst h1
        go_wp2_with fail
        go_ret2
        exact ⟨rfl, rfl⟩
      · have h1z : ((k : Int) == (i : Int)) = false := by rw [beq_eq_false_iff_ne]; omega
        by_cases h2 : v < 0
        · rw [if_pos (.inr h2)] at hR
          subst hR
          go_wp2_with fail
          go_ret2
          exact ⟨rfl, rfl⟩
        · have h2z : decide (v < 0) = false := decide_eq_false h2
          rw [if_neg (by omega)] at hR
          subst hR
          go_wp2_with fail
          go_ret2
          exact ⟨rfl, rfl⟩
end Go.Proofs.YthpkmbgollollaaDoor.Dy
