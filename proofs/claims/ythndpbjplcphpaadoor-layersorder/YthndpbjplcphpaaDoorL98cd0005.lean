import Derived.Test.YthndpbjplcphpaaDoorLa2de857c
namespace Go.Proofs.YthndpbjplcphpaaDoor.Lay
open Go.RowKit Go.Shelf Go.Proofs.YthndpbjplcphpaaDoor.Oct Go.Proofs.YthndpbjplcphpaaDoor.Tok Go.Proofs.YthndpbjplcphpaaDoor.Gt Go.Proofs.YthndpbjplcphpaaDoor.Cir
theorem tc_comm (o p : COp) : tc o p = tc p o := by
  rw [Bool.eq_iff_iff, tc_iff, tc_iff]
  exact ⟨fun ⟨x, h1, h2⟩ => ⟨x, h2, h1⟩, fun ⟨x, h1, h2⟩ => ⟨x, h2, h1⟩⟩
theorem ev_step {ops : List COp} {f : Nat -> Int} (h : EV ops f) {j i : Nat} (hj : j < i) (hi : i < ops.length) (ht : tc (oa ops i) (oa ops j) = true) : f j + ln (oa ops i) <= f i := by
  have h1 := h i _ (oa_some hi)
  have h2 := ((mx_le (B := mx ops f (oa ops i) i) i).1 (Int.le_refl _)).2 j hj ht
  omega
theorem ev_ln {ops : List COp} {f : Nat -> Int} (h : EV ops f) {i : Nat} (hi : i < ops.length) : ln (oa ops i) <= f i := by
  have h1 := h i _ (oa_some hi)
  have h2 := mx_nn (ops := ops) (f := f) (o := oa ops i) i
  omega
theorem lv_step {ops : List COp} {d : Int} {g : Nat -> Int} (h : LV ops d g) {j i : Nat} (hj : j < i) (hi : i < ops.length) (ht : tc (oa ops i) (oa ops j) = true) : g j + ln (oa ops i) <= g i := by
  have h1 := h j _ (oa_some (by omega))
  have h2 := ((le_mn (B := mn ops g d j (oa ops j) (ops.length - 1 - j)) (ops.length - 1 - j)).1 (Int.le_refl _)).2 (i - j - 1) (by omega)
  have e : j + 1 + (i - j - 1) = i := by omega
  rw [e, tc_comm] at h2
  have := h2 ht
  omega
theorem gr_le {f : Nat -> Int} {B : Int} : ∀ n, gr f n <= B ↔ 0 <= B /\ ∀ j, j < n -> f j <= B
  | 0 => by rw [gr]; exact ⟨fun h => ⟨h, fun j hj => by omega⟩, fun h => h.1⟩
  | n + 1 => by
    rw [gr, Int.max_le, gr_le n]
    constructor
    . rintro ⟨⟨h0, h1⟩, h2⟩
      refine ⟨h0, fun j hj => ?_⟩
      by_cases e : j = n
      . subst e; exact h2
      . exact h1 j (by omega)
    . rintro ⟨h0, h1⟩
      exact ⟨⟨h0, fun j hj => h1 j (by omega)⟩, h1 n (by omega)⟩
theorem le_gr {f : Nat -> Int} {n j : Nat} (hj : j < n) : f j <= gr f n := ((gr_le (B := gr f n) n).1 (Int.le_refl _)).2 j hj
theorem ev_lv {ops : List COp} {f g : Nat -> Int} (h : EV ops f) (hL : LV ops (gr f ops.length) g) : ∀ i, i < ops.length -> f i <= g i := by
  have key : ∀ m i, ops.length - i <= m -> i < ops.length -> f i <= g i := by
    intro m
    induction m with
    | zero => intro i h1 h2; omega
    | succ m ih =>
      intro i h1 h2
      rw [hL i _ (oa_some h2)]
      refine (le_mn _).2 ⟨le_gr h2, fun j hj ht => ?_⟩
      have h3 := ih (i + 1 + j) (by omega) (by omega)
      rw [tc_comm] at ht
      have h4 := ev_step h (j := i) (i := i + 1 + j) (by omega) (by omega) ht
      omega
  exact fun i hi => key _ i (Nat.le_refl _) hi
structure Ord (n : Nat) (p : List Nat) : Prop where
  len : p.length = n
  lt : ∀ i ∈ p, i < n
  all : ∀ i, i < n -> i ∈ p
  nd : p.Nodup
def Keeps (ops : List COp) (p : List Nat) : Prop := ∀ (s t a b : Nat), s < t -> p[s]? = some a -> p[t]? = some b -> tc (oa ops b) (oa ops a) = true -> a < b
theorem oa_map (ops : List COp) {p : List Nat} {t a : Nat} (h : p[t]? = some a) : oa (p.map (oa ops)) t = oa ops a := oa_at (by rw [List.getElem?_map, h]; rfl)
theorem nd_at {p : List Nat} (h : p.Nodup) {s t a : Nat} (hs : p[s]? = some a) (ht : p[t]? = some a) : s = t := by
  obtain ⟨h1, e1⟩ := List.getElem?_eq_some_iff.1 hs
  obtain ⟨h2, e2⟩ := List.getElem?_eq_some_iff.1 ht
  have hp := List.pairwise_iff_getElem.1 h
  rcases Nat.lt_trichotomy s t with hlt | heq | hgt
  . exact absurd (e1.trans e2.symm) (hp s t h1 h2 hlt)
  . exact heq
  . exact absurd (e2.trans e1.symm) (hp t s h2 h1 hgt)
theorem ev_perm {ops : List COp} {f : Nat -> Int} (h : EV ops f) {p : List Nat} (hp : Ord ops.length p) (hk : Keeps ops p) : EV (p.map (oa ops)) (fun t => f (p.getD t 0)) := by
  intro t o ho
  rw [List.getElem?_map] at ho
  obtain ⟨b, hb, rfl⟩ := Option.map_eq_some_iff.1 ho
  have hbl := hp.lt b (List.mem_of_getElem? hb)
  have eb : p.getD t 0 = b := by simp [List.getD, hb]
  simp only [eb]
  rw [h b _ (oa_some hbl)]
  have key : ∀ B, mx ops f (oa ops b) b <= B ↔ mx (p.map (oa ops)) (fun t => f (p.getD t 0)) (oa ops b) t <= B := by
    intro B
    rw [mx_le, mx_le]
    constructor
    . rintro ⟨h0, h1⟩
      refine ⟨h0, fun s hs ht => ?_⟩
      have hsl : s < p.length := by have := (List.getElem?_eq_some_iff.1 hb).1; omega
      obtain ⟨a, ha⟩ : ∃ a, p[s]? = some a := ⟨_, List.getElem?_eq_getElem hsl⟩
      rw [oa_map ops ha] at ht
      have ea : p.getD s 0 = a := by simp [List.getD, ha]
      simp only [ea]
      exact h1 a (hk s t a b hs ha hb ht) ht
    . rintro ⟨h0, h1⟩
      refine ⟨h0, fun j hj ht => ?_⟩
      obtain ⟨s, hs⟩ := List.mem_iff_getElem?.1 (hp.all j (by omega))
      have ej : p.getD s 0 = j := by simp [List.getD, hs]
      have hst : s < t := by
        rcases Nat.lt_trichotomy s t with hlt | heq | hgt
        . exact hlt
        . subst heq
          rw [hs] at hb
          cases hb
          omega
        . have := hk t s b j hgt hb hs (by rw [tc_comm]; exact ht)
          omega
      have := h1 s hst (by rw [oa_map ops hs]; exact ht)
      simp only [ej] at this
      exact this
  have e1 := (key _).2 (Int.le_refl _)
  have e2 := (key _).1 (Int.le_refl _)
  omega
theorem gr_perm {f : Nat -> Int} {n : Nat} {p : List Nat} (hp : Ord n p) : gr (fun t => f (p.getD t 0)) n = gr f n := by
  have e1 : gr (fun t => f (p.getD t 0)) n <= gr f n := (gr_le n).2 ⟨((gr_le (f := f) (B := gr f n) n).1 (Int.le_refl _)).1, fun t ht => by
    have hl : t < p.length := by rw [hp.len]; exact ht
    have ea : p.getD t 0 = p[t] := by simp [List.getD, List.getElem?_eq_getElem hl]
    simp only [ea]
    exact le_gr (hp.lt _ (List.getElem_mem hl))⟩
  have e2 : gr f n <= gr (fun t => f (p.getD t 0)) n := (gr_le n).2 ⟨((gr_le (f := fun t => f (p.getD t 0)) (B := gr (fun t => f (p.getD t 0)) n) n).1 (Int.le_refl _)).1, fun j hj => by
    obtain ⟨s, hs⟩ := List.mem_iff_getElem?.1 (hp.all j hj)
    have hl := (List.getElem?_eq_some_iff.1 hs).1
    rw [hp.len] at hl
    have := le_gr (f := fun t => f (p.getD t 0)) hl
    have ej : p.getD s 0 = j := by simp [List.getD, hs]
    simp only [ej] at this
    exact this⟩
  omega
theorem keeps_sorted {ops : List COp} {f : Nat -> Int} (h : EV ops f) {p : List Nat} (hp : Ord ops.length p)
    (hs : ∀ (s t a b : Nat), s < t -> p[s]? = some a -> p[t]? = some b -> f a < f b ∨ f a = f b /\ (ln (oa ops b) < ln (oa ops a) ∨ ln (oa ops b) = ln (oa ops a) /\ a < b)) : Keeps ops p := by
  intro s t a b hst ha hb ht
  have hal := hp.lt a (List.mem_of_getElem? ha)
  have h0 := ln_rng (oa ops a)
  have h1 := ln_rng (oa ops b)
  have h2 := hs s t a b hst ha hb
  rcases Nat.lt_trichotomy a b with hlt | heq | hgt
  . exact hlt
  . subst heq
    exact absurd (nd_at hp.nd ha hb) (by omega)
  . have h3 := ev_step h hgt hal (by rw [tc_comm]; exact ht)
    omega
end Go.Proofs.YthndpbjplcphpaaDoor.Lay
