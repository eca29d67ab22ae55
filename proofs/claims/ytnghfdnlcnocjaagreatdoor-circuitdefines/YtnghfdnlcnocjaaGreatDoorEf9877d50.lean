import Derived.Lib.DecodeN
import Derived.Lib.AtoiAll
import Derived.Lib.ItoaNum
namespace Go.Proofs.YtnghfdnlcnocjaaGreatDoor.Tok
def isD (b : UInt8) : Bool := decide (48 <= b.toNat) && decide (b.toNat <= 57)
def isL (b : UInt8) : Bool := (decide (97 <= b.toNat) && decide (b.toNat <= 122)) || (decide (65 <= b.toNat) && decide (b.toNat <= 90)) || b.toNat == 95
def inW (b : UInt8) : Bool := isL b || isD b
def inLn (b : UInt8) : Bool := b.toNat != 10
def inQ (b : UInt8) : Bool := b.toNat != 34 && b.toNat != 10
def blank (b : UInt8) : Bool := b.toNat == 32 || b.toNat == 9 || b.toNat == 10 || b.toNat == 13
def sp (p : UInt8 -> Bool) : List UInt8 -> Nat
  | [] => 0
  | a :: r => if p a then sp p r + 1 else 0
theorem sp_le (p : UInt8 -> Bool) : ∀ l : List UInt8, sp p l <= l.length
  | [] => Nat.le_refl _
  | a :: r => by
    have := sp_le p r
    unfold sp
    split <;> simp <;> omega
theorem sp_cons_true {p : UInt8 -> Bool} {a : UInt8} (r : List UInt8) (h : p a = true) : sp p (a :: r) = sp p r + 1 := by simp [sp, h]
theorem sp_cons_false {p : UInt8 -> Bool} {a : UInt8} (r : List UInt8) (h : p a = false) : sp p (a :: r) = 0 := by simp [sp, h]
theorem sp_all (p : UInt8 -> Bool) : ∀ l : List UInt8, ∀ b ∈ l.take (sp p l), p b = true
  | [] => by simp
  | a :: r => by
    unfold sp
    split
    . rename_i h
      intro b hb
      rw [List.take_succ_cons] at hb
      rcases List.mem_cons.1 hb with rfl | hb
      . exact h
      . exact sp_all p r b hb
    . simp
def dv (acc : Nat) : List UInt8 -> Nat
  | [] => acc
  | c :: r => dv (acc * 10 + (c.toNat - 48)) r
theorem dv_le (l : List UInt8) (acc : Nat) : acc <= dv acc l := by
  induction l generalizing acc with
  | nil => exact Nat.le_refl _
  | cons c r ih => exact Nat.le_trans (by omega) (ih _)
theorem isD_iff (b : UInt8) : isD b = true ↔ 48 <= b.toNat /\ b.toNat <= 57 := by simp [isD]
theorem pu_dv (U : Nat) (hU : U = 18446744073709551616) : ∀ (l : List UInt8) (acc : Nat), acc < U -> (∀ b ∈ l, isD b = true) ->
    Lib.parseUint10 acc l = if dv acc l < U then .ok (dv acc l) else .range
  | [], acc, ha, _ => (if_pos ha).symm
  | c :: r, acc, ha, hd => by
    have hc := (isD_iff c).1 (hd c (by simp))
    have hm := dv_le r (acc * 10 + (c.toNat - 48))
    have e : dv acc (c :: r) = dv (acc * 10 + (c.toNat - 48)) r := rfl
    rw [Lib.parseUint10, if_pos hc]
    by_cases h1 : 1844674407370955162 <= acc
    . rw [if_pos h1, if_neg (by omega)]
    . rw [if_neg h1]
      by_cases h2 : 18446744073709551616 <= acc * 10 + (c.toNat - 48)
      . rw [if_pos h2, if_neg (by omega)]
      . rw [if_neg h2, pu_dv U hU r _ (by omega) (fun b hb => hd b (by simp [hb])), e]
theorem atoi_dv (l : List UInt8) (h0 : l ≠ []) (hd : ∀ b ∈ l, isD b = true) :
    Lib.atoiAll l = if dv 0 l < 9223372036854775808 then .ok (dv 0 l : Int) else .range := by
  cases l with
  | nil => exact absurd rfl h0
  | cons c r =>
    have hc := (isD_iff c).1 (hd c (by simp))
    have hp := pu_dv _ rfl (c :: r) 0 (by omega) hd
    have hn : ¬ (c.toNat = 43 ∨ c.toNat = 45) := by omega
    have hn2 : ¬ c.toNat = 45 := by omega
    have hpm : Lib.parseMag (if c.toNat = 43 ∨ c.toNat = 45 then r else c :: r) = Lib.parseUint10 0 (c :: r) := by rw [if_neg hn]; rfl
    rw [Lib.atoiAll]
    generalize dv 0 (c :: r) = D at *
    simp only [hpm, hp]
    by_cases h1 : D < 9223372036854775808
    . rw [if_pos h1, if_pos (by omega)]
      simp only []
      rw [if_neg (by omega), if_neg (by omega), if_neg hn2]
    . rw [if_neg h1]
      by_cases h2 : D < 18446744073709551616
      . rw [if_pos h2]
        simp only []
        rw [if_pos ⟨hn2, by omega⟩]
      . rw [if_neg h2]
inductive Cut where
  | tok (kind : Nat) (text : List UInt8) (num : Nat) (n : Nat)
  | bad (e : Nat)
  deriving DecidableEq
def cName (l : List UInt8) : Cut := if 32 < sp inW l then .bad 42 else .tok 1 (l.take (sp inW l)) 0 (sp inW l)
def frac : List UInt8 -> Nat
  | [] => 0
  | a :: r => if a = 46 then (if sp isD r = 0 then 0 else 1 + sp isD r) else 0
def cNum (l : List UInt8) : Cut :=
  if (1 < sp isD l /\ l.head? = some 48) ∨ 0 < sp isL (l.drop (sp isD l + frac (l.drop (sp isD l)))) then .bad 41
  else if 0 < frac (l.drop (sp isD l)) then .tok 3 (l.take (sp isD l + frac (l.drop (sp isD l)))) 0 (sp isD l + frac (l.drop (sp isD l)))
  else if 1000000000 < dv 0 (l.take (sp isD l)) then .bad 41
  else .tok 2 [] (dv 0 (l.take (sp isD l))) (sp isD l)
def cQuoT (t : List UInt8) (n : Nat) : List UInt8 -> Cut
  | [] => .bad 43
  | b :: _ => if b = 34 then .tok 4 t 0 (n + 2) else .bad 43
def cQuo (l : List UInt8) : Cut := cQuoT ((l.drop 1).take (sp inQ (l.drop 1))) (sp inQ (l.drop 1)) ((l.drop 1).drop (sp inQ (l.drop 1)))
def marks : List (List UInt8) := [[59], [44], [40], [41], [91], [93], [123], [125], [45, 62], [61, 61]]
def cMarkF (l : List UInt8) : List (List UInt8) -> Cut
  | [] => .bad 40
  | m :: r => if m.isPrefixOf l then .tok 5 m 0 m.length else cMarkF l r
def cMark (l : List UInt8) : Cut := cMarkF l marks
def cut (l : List UInt8) : Cut := match l with
  | [] => .tok 0 [] 0 0
  | a :: _ => if isL a then cName l else if isD a then cNum l else if a = 34 then cQuo l else cMark l
def gp : Bool -> List UInt8 -> Nat
  | _, [] => 0
  | true, a :: r => if a.toNat = 10 then gp false r + 1 else gp true r + 1
  | false, a :: r => if blank a then gp false r + 1 else if a = 47 /\ r.head? = some 47 then gp true r + 1 else 0
theorem gp_le : ∀ (b : Bool) (l : List UInt8), gp b l <= l.length
  | b, [] => by cases b <;> exact Nat.le_refl _
  | true, a :: r => by
    have h1 := gp_le true r
    have h2 := gp_le false r
    unfold gp
    split <;> simp <;> omega
  | false, a :: r => by
    have h1 := gp_le true r
    have h2 := gp_le false r
    unfold gp
    split
    . simp; omega
    . split <;> simp; omega
theorem gp_blank {a : UInt8} (r : List UInt8) (h : blank a = true) : gp false (a :: r) = gp false r + 1 := by simp [gp, h]
theorem gp_true (a : UInt8) (r : List UInt8) : gp true (a :: r) = if a.toNat = 10 then gp false r + 1 else gp true r + 1 := by simp [gp]
theorem gp_line : ∀ l : List UInt8, gp true l = sp inLn l + gp false (l.drop (sp inLn l))
  | [] => rfl
  | a :: r => by
    have ih := gp_line r
    rw [gp_true]
    by_cases h : a.toNat = 10
    . have hb : inLn a = false := by simp [inLn, h]
      rw [if_pos h, sp_cons_false r hb, List.drop_zero, gp_blank r (by simp [blank, h])]
      omega
    . have hb : inLn a = true := by simpa [inLn] using h
      rw [if_neg h, ih, sp_cons_true r hb, List.drop_succ_cons]
      omega
theorem gp_com (l : List UInt8) (h : ([47, 47] : List UInt8).isPrefixOf l = true) : gp false l = sp inLn l + gp false (l.drop (sp inLn l)) := by
  rw [← gp_line]
  cases l with
  | nil => simp at h
  | cons a r =>
    cases r with
    | nil => simp at h
    | cons b r =>
      simp at h
      obtain ⟨rfl, rfl⟩ := h
      rfl
theorem gp_stop (l : List UInt8) (a : UInt8) (r : List UInt8) (hl : l = a :: r) (h : blank a = false) (h2 : ([47, 47] : List UInt8).isPrefixOf l = false) : gp false l = 0 := by
  subst hl
  unfold gp
  rw [if_neg (by simp [h]), if_neg]
  rintro ⟨rfl, hr⟩
  cases r with
  | nil => simp at hr
  | cons b t => simp at hr; subst hr; simp at h2
def wid (l : List UInt8) : Nat := (Lib.decodeN l.length (l.getD 0 0).toNat (l.getD 1 0).toNat (l.getD 2 0).toNat (l.getD 3 0).toNat).2
def stp (a : UInt8) (p : Nat × Nat) : Nat × Nat := if a.toNat = 10 then (p.1 + 1, 1) else (p.1, p.2 + 1)
def adv : Nat -> Nat -> List UInt8 -> Nat × Nat -> Nat × Nat
  | _, 0, _, p => p
  | _, _ + 1, [], p => p
  | j + 1, k + 1, _ :: r, p => adv j k r p
  | 0, k + 1, a :: r, p => adv (wid (a :: r) - 1) k r (stp a p)
theorem adv_zero (j : Nat) (l : List UInt8) (p : Nat × Nat) : adv j 0 l p = p := by cases j <;> rfl
theorem adv_nil (j k : Nat) (p : Nat × Nat) : adv j k [] p = p := by cases k <;> cases j <;> rfl
theorem adv_skip : ∀ (j k : Nat) (l : List UInt8) (p : Nat × Nat), adv j k l p = adv 0 (k - j) (l.drop j) p
  | 0, k, l, p => by simp
  | j + 1, 0, l, p => by simp [adv_zero]
  | j + 1, k + 1, [], p => by simp [adv_nil]
  | j + 1, k + 1, a :: r, p => by
    rw [adv, adv_skip j k r p, List.drop_succ_cons, Nat.add_sub_add_right]
theorem adv_rune (k : Nat) (a : UInt8) (r : List UInt8) (p : Nat × Nat) (hw : 1 <= wid (a :: r)) : adv 0 (k + 1) (a :: r) p = adv 0 (k + 1 - wid (a :: r)) ((a :: r).drop (wid (a :: r))) (stp a p) := by
  rw [adv, adv_skip]
  obtain ⟨w, hww⟩ : ∃ w, wid (a :: r) = w + 1 := ⟨wid (a :: r) - 1, by omega⟩
  rw [hww, List.drop_succ_cons, show w + 1 - 1 = w from rfl, show k + 1 - (w + 1) = k - w by omega]
theorem wid_pos (l : List UInt8) : 1 <= wid l := by
  unfold wid Lib.decodeN
  repeat' split
  all_goals simp
theorem wid_high (l : List UInt8) (h : 1 < wid l) : wid l <= l.length /\ ∀ i, i < wid l -> 128 <= (l.getD i 0).toNat := by
  unfold wid Lib.decodeN at h ⊢
  split at h
  . simp at h
  . rename_i h0
    rw [if_neg h0]
    split at h
    . rename_i h1
      rw [if_pos h1]
      split at h
      . rename_i h2
        rw [if_pos h2]
        refine ⟨by simp; omega, fun i hi => ?_⟩
        have : i = 0 ∨ i = 1 := by simp at hi; omega
        rcases this with rfl | rfl <;> omega
      . simp at h
    . rename_i h1
      rw [if_neg h1]
      split at h
      . rename_i h2
        rw [if_pos h2]
        split at h
        . rename_i h3
          rw [if_pos h3]
          refine ⟨by simp; omega, fun i hi => ?_⟩
          have : i = 0 ∨ i = 1 ∨ i = 2 := by simp at hi; omega
          rcases this with rfl | rfl | rfl <;> omega
        . simp at h
      . rename_i h2
        rw [if_neg h2]
        split at h
        . rename_i h3
          rw [if_pos h3]
          split at h
          . rename_i h4
            rw [if_pos h4]
            refine ⟨by simp; omega, fun i hi => ?_⟩
            have : i = 0 ∨ i = 1 ∨ i = 2 ∨ i = 3 := by simp at hi; omega
            rcases this with rfl | rfl | rfl | rfl <;> omega
          . simp at h
        . simp at h
theorem wid_le (a : UInt8) (r : List UInt8) : wid (a :: r) <= (a :: r).length := by
  by_cases h : 1 < wid (a :: r)
  . exact (wid_high _ h).1
  . have := wid_pos (a :: r); simp; omega
theorem adv_bd : ∀ (k j : Nat) (l : List UInt8) (p : Nat × Nat), (adv j k l p).1 <= p.1 + k /\ ((adv j k l p).2 <= p.2 + k ∨ (adv j k l p).2 <= k + 1)
  | 0, j, l, p => by rw [adv_zero]; omega
  | k + 1, j, [], p => by rw [adv_nil]; omega
  | k + 1, j + 1, a :: r, p => by have := adv_bd k j r p; rw [adv]; omega
  | k + 1, 0, a :: r, p => by
    have := adv_bd k (wid (a :: r) - 1) r (stp a p)
    rw [adv]
    unfold stp at this ⊢
    split at this
    . rename_i h; rw [if_pos h]; simp at this ⊢; omega
    . rename_i h; rw [if_neg h]; simp at this ⊢; omega
def spotAt (l : List UInt8) (off : Nat) : Nat × Nat := adv 0 off l (1, 1)
structure T where
  kind : Nat
  text : List UInt8
  num : Nat
  off : Nat
  line : Nat
  col : Nat
  deriving DecidableEq
structure Flt where
  code : Nat
  off : Nat
  line : Nat
  col : Nat
  deriving DecidableEq
inductive Sc where
  | ok (ts : List T)
  | bad (f : Flt)
  deriving DecidableEq
def Sc.pre (ts : List T) : Sc -> Sc
  | .ok us => .ok (ts ++ us)
  | .bad f => .bad f
theorem Sc.pre_nil (x : Sc) : Sc.pre [] x = x := by cases x <;> rfl
theorem Sc.pre_pre (a b : List T) (x : Sc) : Sc.pre a (Sc.pre b x) = Sc.pre (a ++ b) x := by cases x <;> simp [Sc.pre]
def scan : Nat -> List UInt8 -> Nat -> Nat × Nat -> Sc
  | 0, _, _, _ => .ok []
  | f + 1, l, off, p => match cut (l.drop (gp false l)) with
    | .bad e => .bad ⟨e, off + gp false l, (adv 0 (gp false l) l p).1, (adv 0 (gp false l) l p).2⟩
    | .tok k t v n =>
      if k = 0 then .ok [⟨k, t, v, off + gp false l, (adv 0 (gp false l) l p).1, (adv 0 (gp false l) l p).2⟩]
      else Sc.pre [⟨k, t, v, off + gp false l, (adv 0 (gp false l) l p).1, (adv 0 (gp false l) l p).2⟩]
        (scan f ((l.drop (gp false l)).drop n) (off + gp false l + n) (adv 0 n (l.drop (gp false l)) (adv 0 (gp false l) l p)))
def scanAll (l : List UInt8) : Sc := scan (l.length + 1) l 0 (1, 1)
end Go.Proofs.YtnghfdnlcnocjaaGreatDoor.Tok
