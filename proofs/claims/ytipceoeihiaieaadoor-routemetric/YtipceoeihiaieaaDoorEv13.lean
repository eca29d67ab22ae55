/- A region that draws its order: the states on the way. -/
import Derived.Test.YtipceoeihiaieaaDoorEv12
namespace Go.Proofs.YtipceoeihiaieaaDoor.Ev
open Go
open ren (renR renL)
open plain (plainR plainL)

/-- What has been done is closed under what stands ahead. -/
def Closed (bs : List Nat) (D : Nat → Bool) : Prop := ∀ j, D j = true → ∀ i, (bs.getD j 0).testBit i = true → D i = true
def Dn (D : Nat → Bool) (i : Nat) : Nat → Bool := fun j => D j || decide (j = i)

section
variable {call : ACall} {P : Program} {GL : Nat → Bool} {aops : Array Oper} {bs : List Nat} {r : List (Value × H)} {T : Tm} {h : H} {D : Nat → Bool} {g0 : Nat → Option Blk} {K0 : Nat → Prop}

theorem sizes (hl : ∀ k, k < aops.toList.length → Le (rH0 r h k) (rH r k)) : ∀ {i j : Nat}, i ≤ j → j ≤ aops.toList.length → (rH0 r h i).size ≤ (rH0 r h j).size := by
  intro i j hij
  induction j with
  | zero => intro _; have : i = 0 := by omega
            rw [this]; exact Nat.le_refl _
  | succ j ih =>
    intro hj
    rcases Nat.lt_or_ge i (j + 1) with h1 | h1
    · exact Nat.le_trans (ih (by omega) (by omega)) (hl j (by omega)).size
    · have : i = j + 1 := by omega
      rw [this]; exact Nat.le_refl _
theorem rH0_succ (k : Nat) : (rH0 r h (k + 1)).size = (rH r k).size ∧ ∀ b, (rH0 r h (k + 1)).get b = (rH r k).get b := ⟨rfl, fun _ => rfl⟩

theorem Gn_hit {g : Nat → Option Blk} {h1 : H} {b : Nat} (hb : h1.wr.testBit b = true) : Gn g h1 b = h1.get b := by unfold Gn; rw [hb]; rfl
theorem Gn_miss {g : Nat → Option Blk} {h1 : H} {b : Nat} (hb : h1.wr.testBit b = false) : Gn g h1 b = g b := by unfold Gn; rw [hb]; rfl

/-- Where an operation looks, all is as it was reckoned. -/
theorem foot (hl : ∀ k, k < aops.toList.length → Le (rH0 r h k) (rH r k)) {i : Nat} {b : Nat} (h0 : g0 b = h.get b)
    (hlow : ∀ j, j < i → (rH r j).wr.testBit b = true → D j = true) (hhigh : ∀ j, i ≤ j → D j = true → (rH r j).wr.testBit b = false) :
    ∀ k, k ≤ aops.toList.length → gs r D g0 k b = if k ≤ i then (rH0 r h k).get b else (rH0 r h i).get b := by
  intro k
  induction k with
  | zero => intro _; simp only [gs, Nat.zero_le, if_true]; exact h0
  | succ k ih =>
    intro hk
    have ih := ih (by omega)
    rcases Nat.lt_or_ge k i with hki | hki
    · rw [if_pos (by omega : k ≤ i)] at ih
      rw [if_pos (by omega : k + 1 ≤ i)]
      rw [(rH0_succ k).2]
      cases hw : (rH r k).wr.testBit b
      · rw [(hl k (by omega)).same b hw, ← ih]
        simp only [gs]
        split
        · rw [Gn_miss hw]
        · rfl
      · simp only [gs]
        rw [if_pos (hlow k hki hw), Gn_hit hw]
    · have he : gs r D g0 k b = (rH0 r h i).get b := by
        rw [ih]
        split
        · next hle => have : k = i := by omega
                      rw [this]
        · rfl
      rw [if_neg (by omega : ¬ k + 1 ≤ i), ← he]
      simp only [gs]
      split
      · next hD => rw [Gn_miss (hhigh k hki hD)]
      · rfl

theorem ts_n : ∀ k, (ts aops.toList r T D k).n = T.n
  | 0 => rfl
  | k + 1 => by
    simp only [ts]
    split
    · rw [Tm.put_n, ts_n k]
    · exact ts_n k
theorem rT_n : ∀ k, (rT aops.toList r T k).n = T.n
  | 0 => rfl
  | k + 1 => by simp only [rT]; rw [Tm.put_n, rT_n k]
theorem tput_miss {T : Tm} {d : Option Tmp} {v : Value} {t : Nat} (h : d ≠ some t) : (T.put d v).get t = T.get t := by
  rw [Tm.get_put, if_neg (fun x => h x.1)]
theorem tfoot {i : Nat} {t : Nat} (hlow : ∀ j, j < i → dstAt aops.toList j = some t → D j = true) (hhigh : ∀ j, i ≤ j → D j = true → dstAt aops.toList j ≠ some t) :
    ∀ k, (ts aops.toList r T D k).get t = if k ≤ i then (rT aops.toList r T k).get t else (rT aops.toList r T i).get t := by
  intro k
  induction k with
  | zero => simp only [ts, rT, Nat.zero_le, if_true]
  | succ k ih =>
    rcases Nat.lt_or_ge k i with hki | hki
    · rw [if_pos (by omega : k ≤ i)] at ih
      rw [if_pos (by omega : k + 1 ≤ i)]
      by_cases hw : dstAt aops.toList k = some t
      · simp only [ts, rT]
        rw [if_pos (hlow k hki hw), Tm.get_put, Tm.get_put, ts_n, rT_n, ih]
      · simp only [ts, rT]
        rw [tput_miss hw, ← ih]
        split
        · rw [tput_miss hw]
        · rfl
    · have he : (ts aops.toList r T D k).get t = (rT aops.toList r T i).get t := by
        rw [ih]
        split
        · next hle => have : k = i := by omega
                      rw [this]
        · rfl
      rw [if_neg (by omega : ¬ k + 1 ≤ i), ← he]
      simp only [ts]
      split
      · next hD => rw [tput_miss (hhigh k hki hD)]
      · rfl

theorem ks_iff {b : Nat} : ∀ {k : Nat}, ks r h D K0 k b ↔ K0 b ∨ ∃ j, j < k ∧ D j = true ∧ (rH0 r h j).size ≤ b ∧ b < (rH r j).size := by
  intro k
  induction k with
  | zero => simp [ks]
  | succ k ih =>
    simp only [ks]
    split
    · next hDk =>
      unfold Kn
      rw [ih]
      constructor
      · rintro ((h1 | ⟨j, h1, h2⟩) | h1)
        · exact .inl h1
        · exact .inr ⟨j, by omega, h2⟩
        · exact .inr ⟨k, Nat.lt_succ_self k, hDk, h1⟩
      · rintro (h1 | ⟨j, h1, h2⟩)
        · exact .inl (.inl h1)
        · rcases Nat.lt_or_ge j k with h3 | h3
          · exact .inl (.inr ⟨j, h3, h2⟩)
          · have : j = k := by omega
            subst this
            exact .inr h2.2
    · next hDk =>
      rw [ih]
      constructor
      · rintro (h1 | ⟨j, h1, h2⟩)
        · exact .inl h1
        · exact .inr ⟨j, by omega, h2⟩
      · rintro (h1 | ⟨j, h1, h2⟩)
        · exact .inl h1
        · rcases Nat.lt_or_ge j k with h3 | h3
          · exact .inr ⟨j, h3, h2⟩
          · have : j = k := by omega
            subst this
            exact absurd h2.1 hDk

theorem Dn_at {i : Nat} : Dn D i i = true := by unfold Dn; simp
theorem Dn_ne {i j : Nat} (h : j ≠ i) : Dn D i j = D j := by unfold Dn; simp [h]

theorem ks_next {i : Nat} (hi : i < aops.toList.length) (hDi : D i = false) :
    Kn (ks r h D K0 aops.toList.length) (rH0 r h i).size (rH r i).size = ks r h (Dn D i) K0 aops.toList.length := by
  funext b
  apply propext
  rw [ks_iff]
  unfold Kn
  rw [ks_iff]
  constructor
  · rintro ((h1 | ⟨j, h1, h2, h3⟩) | h1)
    · exact .inl h1
    · exact .inr ⟨j, h1, by unfold Dn; rw [h2]; rfl, h3⟩
    · exact .inr ⟨i, hi, Dn_at, h1⟩
  · rintro (h1 | ⟨j, h1, h2, h3⟩)
    · exact .inl (.inl h1)
    · by_cases e : j = i
      · subst e; exact .inr h3
      · rw [Dn_ne e] at h2; exact .inl (.inr ⟨j, h1, h2, h3⟩)

theorem gs_next {i : Nat} (hi : i < aops.toList.length) (hDi : D i = false) (hhigh : ∀ b, (rH r i).wr.testBit b = true → ∀ j, i < j → D j = true → (rH r j).wr.testBit b = false) :
    Gn (gs r D g0 aops.toList.length) (rH r i) = gs r (Dn D i) g0 aops.toList.length := by
  funext b
  cases hw : (rH r i).wr.testBit b
  · rw [Gn_miss hw]
    have : ∀ k, gs r D g0 k b = gs r (Dn D i) g0 k b := by
      intro k
      induction k with
      | zero => rfl
      | succ k ih =>
        simp only [gs]
        by_cases e : k = i
        · subst e
          rw [if_neg (by rw [hDi]; simp), if_pos Dn_at, Gn_miss hw, ih]
        · rw [Dn_ne e]
          split
          · unfold Gn; rw [ih]
          · exact ih
    exact this _
  · rw [Gn_hit hw]
    have : ∀ k, i < k → k ≤ aops.toList.length → gs r (Dn D i) g0 k b = (rH r i).get b := by
      intro k
      induction k with
      | zero => intro h; omega
      | succ k ih =>
        intro h1 h2
        simp only [gs]
        by_cases e : k = i
        · subst e; rw [if_pos Dn_at, Gn_hit hw]
        · rw [Dn_ne e]
          have := ih (by omega) (by omega)
          split
          · next hD => rw [Gn_miss (hhigh b hw k (by omega) hD), this]
          · exact this
    exact (this _ hi (Nat.le_refl _)).symm

theorem ts_next {i : Nat} (hi : i < aops.toList.length) (hDi : D i = false) (hhigh : ∀ t, dstAt aops.toList i = some t → ∀ j, i < j → D j = true → dstAt aops.toList j ≠ some t) (t : Nat) :
    ((ts aops.toList r T D aops.toList.length).put (dstAt aops.toList i) (rV r i)).get t = (ts aops.toList r T (Dn D i) aops.toList.length).get t := by
  by_cases hw : dstAt aops.toList i = some t
  · rw [Tm.get_put, ts_n]
    have h1 : ∀ k, i < k → k ≤ aops.toList.length → (ts aops.toList r T (Dn D i) k).get t = if dstAt aops.toList i = some t ∧ t < T.n then rV r i else (ts aops.toList r T D k).get t := by
      intro k
      induction k with
      | zero => intro h; omega
      | succ k ih =>
        intro h1 h2
        simp only [ts]
        by_cases e : k = i
        · subst e
          rw [if_pos Dn_at, if_neg (show ¬ D k = true by rw [hDi]; simp), Tm.get_put, ts_n]
          have h3 : ∀ q, q ≤ k → (ts aops.toList r T (Dn D k) q).get t = (ts aops.toList r T D q).get t := by
            intro q
            induction q with
            | zero => intro _; rfl
            | succ q ihq =>
              intro hq
              simp only [ts]
              rw [Dn_ne (by omega)]
              split
              · rw [Tm.get_put, Tm.get_put, ts_n, ts_n, ihq (by omega)]
              · exact ihq (by omega)
          rw [h3 k (Nat.le_refl _)]
        · rw [Dn_ne e]
          have := ih (by omega) (by omega)
          split
          · next hD => rw [tput_miss (hhigh t hw k (by omega) hD), this, tput_miss (hhigh t hw k (by omega) hD)]
          · exact this
    rw [h1 _ hi (Nat.le_refl _)]
  · rw [tput_miss hw]
    have : ∀ k, (ts aops.toList r T D k).get t = (ts aops.toList r T (Dn D i) k).get t := by
      intro k
      induction k with
      | zero => rfl
      | succ k ih =>
        simp only [ts]
        by_cases e : k = i
        · subst e
          rw [if_neg (by rw [hDi]; simp), if_pos Dn_at, tput_miss hw, ih]
        · rw [Dn_ne e]
          split
          · rw [Tm.get_put, Tm.get_put, ts_n, ts_n, ih]
          · exact ih
    exact this _
end
end Go.Proofs.YtipceoeihiaieaaDoor.Ev
