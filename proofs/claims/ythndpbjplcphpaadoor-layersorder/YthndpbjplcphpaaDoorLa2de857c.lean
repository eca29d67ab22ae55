import Derived.Test.YthndpbjplcphpaaDoorL03c0f94f
namespace Go.Proofs.YthndpbjplcphpaaDoor.Lay
open Go.RowKit Go.Shelf Go.Proofs.YthndpbjplcphpaaDoor.Oct Go.Proofs.YthndpbjplcphpaaDoor.Tok Go.Proofs.YthndpbjplcphpaaDoor.Gt Go.Proofs.YthndpbjplcphpaaDoor.Cir
def wr (o : COp) : List Int := if o.kind = 2 then o.qs ++ [64 + o.bit] else if o.cond ≠ -1 then o.qs ++ [64 + o.cond] else o.qs
def ln (o : COp) : Int := if o.kind = 4 then 0 else 1
theorem ln_rng (o : COp) : 0 <= ln o /\ ln o <= 1 := by unfold ln; split <;> decide
def tc (o p : COp) : Bool := (wr o).any fun x => decide (x ∈ wr p)
theorem tc_iff {o p : COp} : tc o p = true ↔ ∃ x, x ∈ wr o /\ x ∈ wr p := by
  unfold tc
  rw [List.any_eq_true]
  constructor
  . rintro ⟨x, h1, h2⟩; exact ⟨x, h1, of_decide_eq_true h2⟩
  . rintro ⟨x, h1, h2⟩; exact ⟨x, h1, decide_eq_true h2⟩
abbrev O0 : COp := ⟨0, 0, [], 0, 0, 0⟩
def oa (ops : List COp) (k : Nat) : COp := ops.getD k O0
theorem oa_at {ops : List COp} {i : Nat} {o : COp} (h : ops[i]? = some o) : oa ops i = o := by unfold oa; simp [List.getD, h]
theorem oa_some {ops : List COp} {i : Nat} (h : i < ops.length) : ops[i]? = some (oa ops i) := by unfold oa; simp [List.getD, List.getElem?_eq_getElem h]
structure Wk (o : COp) : Prop where
  qs : ∀ z ∈ o.qs, 0 <= z /\ z < 64
  nd : o.qs.Nodup
  len : o.qs.length <= 64
  m : o.kind = 2 -> 0 <= o.bit /\ o.bit < 64 /\ o.cond = -1
  c : o.cond ≠ -1 -> 0 <= o.cond /\ o.cond < 64
theorem apG_nd {l : List Int} : ∀ (m i : Nat), apG l m i = true -> i + m = l.length -> ∀ j, i <= j -> j < l.length -> l.getD j 0 ∉ l.take j
  | 0, i, _, he, j, h1, h2 => by omega
  | m + 1, i, h, he, j, h1, h2 => by
    rw [apG] at h
    simp only [Bool.and_eq_true, Bool.not_eq_true', decide_eq_false_iff_not, decide_eq_true_eq] at h
    by_cases hj : j = i
    . subst hj; exact h.1.2
    . exact apG_nd m (i + 1) h.2 (by omega) j (by omega) h2
theorem chk_nodup {k : Int} {l : List Int} {n : Int} (h : chkP k l n = 0) : l.Nodup := by
  unfold chkP at h
  split at h
  . cases h
  . split at h
    . cases h
    . rename_i ha
      have ha' : apP (rw' k).q l = true := by simpa using ha
      unfold apP at ha'
      rw [Bool.and_eq_true] at ha'
      rw [List.nodup_iff_pairwise_ne, List.pairwise_iff_getElem]
      intro i j hi hj hij e
      refine apG_nd _ _ ha'.2 (by omega) j (Nat.zero_le _) hj ?_
      have e2 : l.getD j 0 = l[i] := by rw [e]; simp [List.getD, List.getElem?_eq_getElem hj]
      rw [e2]
      exact List.mem_take_iff_getElem.2 ⟨i, by omega, rfl⟩
theorem may_nd {q b : Int} {o : COp} (h : mayP q b o = true) : o.qs.Nodup /\ (o.kind = 2 -> o.cond = -1) := by
  have hap : apaP o.qs q = true -> o.qs.Nodup := fun h => by
    unfold apaP at h
    rw [Bool.and_eq_true, decide_eq_true_eq] at h
    exact h.1
  have hng : noGP o = true -> o.cond = -1 := fun h => by
    unfold noGP freeP at h
    simp only [Bool.and_eq_true, decide_eq_true_eq] at h
    exact h.2.1
  unfold mayP at h
  split at h
  . simp only [Bool.and_eq_true, decide_eq_true_eq] at h
    exact ⟨chk_nodup h.1.1, fun e => by omega⟩
  . split at h
    . simp only [Bool.and_eq_true, decide_eq_true_eq] at h
      exact ⟨hap h.1.2, fun _ => hng h.1.1.1⟩
    . split at h
      . simp only [Bool.and_eq_true, decide_eq_true_eq] at h
        exact ⟨hap h.1.2, fun _ => hng h.1.1.1⟩
      . split at h
        . simp only [Bool.and_eq_true, decide_eq_true_eq] at h
          exact ⟨hap h.1.2, fun _ => hng h.1.1.1⟩
        . cases h
theorem may_wk {q b : Int} {o : COp} (hq0 : 0 <= q) (hq : q <= 64) (hb : b <= 64) (h : mayP q b o = true) : Wk o := by
  have h1 := may_in hq0 hq hb h
  have h2 := may_rng h
  have h3 := may_nd h
  refine ⟨fun z hz => ?_, h3.1, h1.1, fun e => ?_, fun e => ?_⟩
  . have := h2.1 z hz; omega
  . have := h2.2.1 e
    exact ⟨this.1, by omega, h3.2 e⟩
  . have := h2.2.2 e; omega
theorem wr_rng {o : COp} (h : Wk o) : ∀ x ∈ wr o, 0 <= x /\ x < 128 := by
  intro x hx
  unfold wr at hx
  split at hx
  . rename_i e
    have := h.m e
    rcases List.mem_append.1 hx with hx | hx
    . have := h.qs x hx; omega
    . simp at hx; omega
  . split at hx
    . rename_i e
      have := h.c e
      rcases List.mem_append.1 hx with hx | hx
      . have := h.qs x hx; omega
      . simp at hx; omega
    . have := h.qs x hx; omega
theorem nodup_snoc {l : List Int} {x : Int} (h : l.Nodup) (hx : x ∉ l) : (l ++ [x]).Nodup := by
  rw [List.nodup_append]
  exact ⟨h, by simp, fun a ha b hb e => by simp at hb; subst hb; subst e; exact hx ha⟩
theorem wr_nd {o : COp} (h : Wk o) : (wr o).Nodup := by
  unfold wr
  split
  . rename_i e
    have := h.m e
    exact nodup_snoc h.nd fun hx => by have := h.qs _ hx; omega
  . split
    . rename_i e
      have := h.c e
      exact nodup_snoc h.nd fun hx => by have := h.qs _ hx; omega
    . exact h.nd
theorem wr_len {o : COp} (h : Wk o) : (wr o).length <= 65 := by
  have := h.len
  unfold wr
  split
  . simp; omega
  . split
    . simp; omega
    . omega
def mx (ops : List COp) (f : Nat -> Int) (o : COp) : Nat -> Int
  | 0 => 0
  | k + 1 => if tc o (oa ops k) then max (mx ops f o k) (f k) else mx ops f o k
def EV (ops : List COp) (f : Nat -> Int) : Prop := ∀ i o, ops[i]? = some o -> f i = mx ops f o i + ln o
theorem mx_le {ops : List COp} {f : Nat -> Int} {o : COp} {B : Int} : ∀ k, mx ops f o k <= B ↔ 0 <= B /\ ∀ j, j < k -> tc o (oa ops j) = true -> f j <= B
  | 0 => by rw [mx]; exact ⟨fun h => ⟨h, fun j hj => by omega⟩, fun h => h.1⟩
  | k + 1 => by
    rw [mx]
    have ih := mx_le (ops := ops) (f := f) (o := o) (B := B) k
    split
    . rename_i ht
      rw [Int.max_le, ih]
      constructor
      . rintro ⟨⟨h0, h1⟩, h2⟩
        refine ⟨h0, fun j hj ht => ?_⟩
        by_cases e : j = k
        . subst e; exact h2
        . exact h1 j (by omega) ht
      . rintro ⟨h0, h1⟩
        exact ⟨⟨h0, fun j hj => h1 j (by omega)⟩, h1 k (by omega) ht⟩
    . rename_i ht
      rw [ih]
      constructor
      . rintro ⟨h0, h1⟩
        refine ⟨h0, fun j hj ht' => ?_⟩
        by_cases e : j = k
        . subst e; exact absurd ht' ht
        . exact h1 j (by omega) ht'
      . rintro ⟨h0, h1⟩
        exact ⟨h0, fun j hj => h1 j (by omega)⟩
theorem mx_congr {ops : List COp} {f g : Nat -> Int} {o : COp} : ∀ k, (∀ j, j < k -> f j = g j) -> mx ops f o k = mx ops g o k
  | 0, _ => rfl
  | k + 1, h => by rw [mx, mx, mx_congr k (fun j hj => h j (by omega)), h k (by omega)]
theorem ev_exists (ops : List COp) : ∃ f, EV ops f := by
  have key : ∀ n, ∃ f : Nat -> Int, ∀ i, i < n -> f i = mx ops f (oa ops i) i + ln (oa ops i) := by
    intro n
    induction n with
    | zero => exact ⟨fun _ => 0, fun i hi => by omega⟩
    | succ n ih =>
      obtain ⟨f, hf⟩ := ih
      refine ⟨fun i => if i = n then mx ops f (oa ops n) n + ln (oa ops n) else f i, fun i hi => ?_⟩
      have e : mx ops (fun i => if i = n then mx ops f (oa ops n) n + ln (oa ops n) else f i) (oa ops i) i = mx ops f (oa ops i) i := mx_congr i fun j hj => by show ite _ _ _ = _; rw [if_neg (by omega)]
      rw [e]
      by_cases hn : i = n
      . subst hn; simp
      . show ite _ _ _ = _
        rw [if_neg hn]
        exact hf i (by omega)
  obtain ⟨f, hf⟩ := key ops.length
  refine ⟨f, fun i o ho => ?_⟩
  have := hf i (List.getElem?_eq_some_iff.1 ho).1
  rw [oa_at ho] at this
  exact this
theorem mx_nn {ops : List COp} {f : Nat -> Int} {o : COp} (k : Nat) : 0 <= mx ops f o k := ((mx_le (B := mx ops f o k) k).1 (Int.le_refl _)).1
theorem ev_rng {ops : List COp} {f : Nat -> Int} (h : EV ops f) : ∀ i, i < ops.length -> 0 <= f i /\ f i <= (i : Int) + 1 := by
  have key : ∀ n i, i < n -> i < ops.length -> 0 <= f i /\ f i <= (i : Int) + 1 := by
    intro n
    induction n with
    | zero => intro i hi; omega
    | succ n ih =>
      intro i hi hl
      have hp := ln_rng (oa ops i)
      rw [h i _ (oa_some hl)]
      have h0 := mx_nn (ops := ops) (f := f) (o := oa ops i) i
      have h1 : mx ops f (oa ops i) i <= (i : Int) := (mx_le i).2 ⟨by omega, fun j hj _ => by have := ih j (by omega) (by omega); omega⟩
      omega
  intro i hi
  exact key (i + 1) i (by omega) hi
theorem mx_rng {ops : List COp} {f : Nat -> Int} (h : EV ops f) {o : COp} (i : Nat) (hi : i <= ops.length) : 0 <= mx ops f o i /\ mx ops f o i <= (i : Int) :=
  ⟨mx_nn i, (mx_le i).2 ⟨by omega, fun j hj _ => by have := ev_rng h j (by omega); omega⟩⟩
def la (ops : List COp) (x : Int) : Nat -> Int
  | 0 => -1
  | k + 1 => if x ∈ wr (oa ops k) then (k : Int) else la ops x k
theorem la_spec (ops : List COp) (x : Int) : ∀ n, (la ops x n = -1 /\ ∀ j, j < n -> x ∉ wr (oa ops j)) ∨ ∃ k : Nat, k < n /\ la ops x n = (k : Int) /\ x ∈ wr (oa ops k) /\ ∀ j, k < j -> j < n -> x ∉ wr (oa ops j)
  | 0 => .inl ⟨rfl, fun j hj => by omega⟩
  | n + 1 => by
    rw [la]
    by_cases hx : x ∈ wr (oa ops n)
    . rw [if_pos hx]
      exact .inr ⟨n, by omega, rfl, hx, fun j h1 h2 => by omega⟩
    . rw [if_neg hx]
      rcases la_spec ops x n with ⟨h1, h2⟩ | ⟨k, h1, h2, h3, h4⟩
      . refine .inl ⟨h1, fun j hj => ?_⟩
        by_cases e : j = n
        . subst e; exact hx
        . exact h2 j (by omega)
      . refine .inr ⟨k, by omega, h2, h3, fun j hj1 hj2 => ?_⟩
        by_cases e : j = n
        . subst e; exact hx
        . exact h4 j hj1 (by omega)
def mw (ops : List COp) (f : Nat -> Int) (i : Nat) (l : List Int) : Int := l.foldl (fun m x => if la ops x i = -1 then m else max m (f (la ops x i).toNat)) 0
theorem mw_snoc (ops : List COp) (f : Nat -> Int) (i : Nat) (l : List Int) (x : Int) : mw ops f i (l ++ [x]) = if la ops x i = -1 then mw ops f i l else max (mw ops f i l) (f (la ops x i).toNat) := by
  unfold mw; rw [List.foldl_append]; rfl
theorem mw_take {ops : List COp} {f : Nat -> Int} {i : Nat} {l : List Int} {j : Nat} {x : Int} (hx : l[j]? = some x) : mw ops f i (l.take (j + 1)) = if la ops x i = -1 then mw ops f i (l.take j) else max (mw ops f i (l.take j)) (f (la ops x i).toNat) := by
  rw [List.take_add_one, hx]; exact mw_snoc _ _ _ _ _
theorem mw_le {ops : List COp} {f : Nat -> Int} {i : Nat} {B : Int} (l : List Int) : mw ops f i l <= B ↔ 0 <= B /\ ∀ x ∈ l, la ops x i ≠ -1 -> f (la ops x i).toNat <= B := by
  have key : ∀ (l : List Int) (m : Int), l.foldl (fun m x => if la ops x i = -1 then m else max m (f (la ops x i).toNat)) m <= B ↔ m <= B /\ ∀ x ∈ l, la ops x i ≠ -1 -> f (la ops x i).toNat <= B := by
    intro l
    induction l with
    | nil => intro m; simp
    | cons x r ih =>
      intro m
      rw [List.foldl_cons, ih]
      split
      . rename_i e
        constructor
        . rintro ⟨h1, h2⟩
          exact ⟨h1, fun y hy => by rcases List.mem_cons.1 hy with rfl | hy; exact fun h => absurd e h; exact h2 y hy⟩
        . rintro ⟨h1, h2⟩
          exact ⟨h1, fun y hy => h2 y (List.mem_cons_of_mem _ hy)⟩
      . rename_i e
        rw [Int.max_le]
        constructor
        . rintro ⟨⟨h1, h3⟩, h2⟩
          exact ⟨h1, fun y hy => by rcases List.mem_cons.1 hy with rfl | hy; exact fun _ => h3; exact h2 y hy⟩
        . rintro ⟨h1, h2⟩
          exact ⟨⟨h1, h2 x List.mem_cons_self e⟩, fun y hy => h2 y (List.mem_cons_of_mem _ hy)⟩
  exact key l 0
theorem ev_mono {ops : List COp} {f : Nat -> Int} (h : EV ops f) {x : Int} {j k : Nat} (hjk : j < k) (hk : k < ops.length) (h1 : x ∈ wr (oa ops j)) (h2 : x ∈ wr (oa ops k)) : f j <= f k := by
  have e := h k _ (oa_some hk)
  have hp := ln_rng (oa ops k)
  have := ((mx_le (ops := ops) (f := f) (o := oa ops k) (B := mx ops f (oa ops k) k) k).1 (Int.le_refl _)).2 j hjk (tc_iff.2 ⟨x, h2, h1⟩)
  omega
theorem mw_eq {ops : List COp} {f : Nat -> Int} (h : EV ops f) {i : Nat} (hi : i < ops.length) : mw ops f i (wr (oa ops i)) = mx ops f (oa ops i) i := by
  refine Int.le_antisymm ((mw_le _).2 ⟨mx_nn i, fun x hx hn => ?_⟩) ((mx_le i).2 ⟨((mw_le (B := mw ops f i (wr (oa ops i))) (wr (oa ops i))).1 (Int.le_refl _)).1, fun j hj ht => ?_⟩)
  . rcases la_spec ops x i with ⟨h1, -⟩ | ⟨k, h1, h2, h3, h4⟩
    . exact absurd h1 hn
    . rw [h2, Int.toNat_natCast]
      exact ((mx_le (ops := ops) (f := f) (o := oa ops i) (B := mx ops f (oa ops i) i) i).1 (Int.le_refl _)).2 k h1 (tc_iff.2 ⟨x, hx, h3⟩)
  . obtain ⟨x, hx, hx2⟩ := tc_iff.1 ht
    have hb := ((mw_le (ops := ops) (f := f) (i := i) (B := mw ops f i (wr (oa ops i))) (wr (oa ops i))).1 (Int.le_refl _)).2 x hx
    rcases la_spec ops x i with ⟨h1, h2⟩ | ⟨k, h1, h2, h3, h4⟩
    . exact absurd hx2 (h2 j hj)
    . rw [h2, Int.toNat_natCast] at hb
      have hb := hb (by omega)
      rcases Nat.lt_trichotomy j k with hjk | hjk | hjk
      . have := ev_mono h hjk (by omega) hx2 h3; omega
      . subst hjk; exact hb
      . exact absurd hx2 (h4 j hjk hj)
def gr (f : Nat -> Int) : Nat -> Int
  | 0 => 0
  | k + 1 => max (gr f k) (f k)
theorem gr_rng {f : Nat -> Int} : ∀ n, (∀ i, i < n -> 0 <= f i /\ f i <= (i : Int) + 1) -> 0 <= gr f n /\ gr f n <= (n : Int)
  | 0, _ => ⟨Int.le_refl _, by rw [gr]; exact Int.le_refl _⟩
  | n + 1, h => by
    have h1 := gr_rng n fun i hi => h i (by omega)
    have h2 := h n (by omega)
    rw [gr]
    omega
def mn (ops : List COp) (f : Nat -> Int) (d : Int) (i : Nat) (o : COp) : Nat -> Int
  | 0 => d
  | k + 1 => if tc o (oa ops (i + 1 + k)) then min (mn ops f d i o k) (f (i + 1 + k) - ln (oa ops (i + 1 + k))) else mn ops f d i o k
def LV (ops : List COp) (d : Int) (f : Nat -> Int) : Prop := ∀ i o, ops[i]? = some o -> f i = mn ops f d i o (ops.length - 1 - i)
theorem le_mn {ops : List COp} {f : Nat -> Int} {d : Int} {i : Nat} {o : COp} {B : Int} : ∀ k, B <= mn ops f d i o k ↔ B <= d /\ ∀ j, j < k -> tc o (oa ops (i + 1 + j)) = true -> B <= f (i + 1 + j) - ln (oa ops (i + 1 + j))
  | 0 => by rw [mn]; exact ⟨fun h => ⟨h, fun j hj => by omega⟩, fun h => h.1⟩
  | k + 1 => by
    rw [mn]
    have ih := le_mn (ops := ops) (f := f) (d := d) (i := i) (o := o) (B := B) k
    split
    . rename_i ht
      rw [Int.le_min, ih]
      constructor
      . rintro ⟨⟨h0, h1⟩, h2⟩
        refine ⟨h0, fun j hj ht => ?_⟩
        by_cases e : j = k
        . subst e; exact h2
        . exact h1 j (by omega) ht
      . rintro ⟨h0, h1⟩
        exact ⟨⟨h0, fun j hj => h1 j (by omega)⟩, h1 k (by omega) ht⟩
    . rename_i ht
      rw [ih]
      constructor
      . rintro ⟨h0, h1⟩
        refine ⟨h0, fun j hj ht' => ?_⟩
        by_cases e : j = k
        . subst e; exact absurd ht' ht
        . exact h1 j (by omega) ht'
      . rintro ⟨h0, h1⟩
        exact ⟨h0, fun j hj => h1 j (by omega)⟩
theorem mn_congr {ops : List COp} {f g : Nat -> Int} {d : Int} {i : Nat} {o : COp} : ∀ k, (∀ j, j < k -> f (i + 1 + j) = g (i + 1 + j)) -> mn ops f d i o k = mn ops g d i o k
  | 0, _ => rfl
  | k + 1, h => by rw [mn, mn, mn_congr k (fun j hj => h j (by omega)), h k (by omega)]
theorem lv_exists (ops : List COp) (d : Int) : ∃ f, LV ops d f := by
  have key : ∀ m, m <= ops.length -> ∃ f : Nat -> Int, ∀ i, ops.length - m <= i -> i < ops.length -> f i = mn ops f d i (oa ops i) (ops.length - 1 - i) := by
    intro m
    induction m with
    | zero => intro _; exact ⟨fun _ => 0, fun i h1 h2 => by omega⟩
    | succ m ih =>
      intro hm
      obtain ⟨f, hf⟩ := ih (by omega)
      obtain ⟨n, hn⟩ : ∃ n, n = ops.length - (m + 1) := ⟨_, rfl⟩
      refine ⟨fun i => if i = n then mn ops f d n (oa ops n) (ops.length - 1 - n) else f i, fun i h1 h2 => ?_⟩
      have e : mn ops (fun i => if i = n then mn ops f d n (oa ops n) (ops.length - 1 - n) else f i) d i (oa ops i) (ops.length - 1 - i) = mn ops f d i (oa ops i) (ops.length - 1 - i) := mn_congr _ fun j hj => by show ite _ _ _ = _; rw [if_neg (by omega)]
      rw [e]
      by_cases hi : i = n
      . subst hi; simp
      . show ite _ _ _ = _
        rw [if_neg hi]
        exact hf i (by omega) h2
  obtain ⟨f, hf⟩ := key ops.length (Nat.le_refl _)
  refine ⟨f, fun i o ho => ?_⟩
  have := hf i (by omega) (List.getElem?_eq_some_iff.1 ho).1
  rw [oa_at ho] at this
  exact this
theorem mn_led {ops : List COp} {f : Nat -> Int} {d : Int} {i : Nat} {o : COp} (k : Nat) : mn ops f d i o k <= d := ((le_mn (B := mn ops f d i o k) k).1 (Int.le_refl _)).1
theorem lv_rng {ops : List COp} {d : Int} {f : Nat -> Int} (h : LV ops d f) : ∀ i, i < ops.length -> d - (ops.length : Int) <= f i - (i : Int) - 1 + 0 /\ f i <= d := by
  have key : ∀ m i, ops.length - i <= m -> i < ops.length -> d - (ops.length : Int) <= f i - (i : Int) - 1 /\ f i <= d := by
    intro m
    induction m with
    | zero => intro i h1 h2; omega
    | succ m ih =>
      intro i h1 h2
      rw [h i _ (oa_some h2)]
      refine ⟨?_, mn_led _⟩
      have : d - (ops.length : Int) + (i : Int) + 1 <= mn ops f d i (oa ops i) (ops.length - 1 - i) := (le_mn _).2 ⟨by omega, fun j hj _ => by
        have h3 := ih (i + 1 + j) (by omega) (by omega)
        have h4 := ln_rng (oa ops (i + 1 + j))
        omega⟩
      omega
  intro i hi
  have := key _ i (Nat.le_refl _) hi
  omega
def lb (ops : List COp) (x : Int) : Nat -> Int
  | 0 => -1
  | m + 1 => if x ∈ wr (oa ops (ops.length - 1 - m)) then ((ops.length - 1 - m : Nat) : Int) else lb ops x m
theorem lb_spec (ops : List COp) (x : Int) : ∀ m, m <= ops.length -> (lb ops x m = -1 /\ ∀ j, ops.length - m <= j -> j < ops.length -> x ∉ wr (oa ops j)) ∨ ∃ k : Nat, ops.length - m <= k /\ k < ops.length /\ lb ops x m = (k : Int) /\ x ∈ wr (oa ops k) /\ ∀ j, ops.length - m <= j -> j < k -> x ∉ wr (oa ops j)
  | 0, _ => .inl ⟨rfl, fun j h1 h2 => by omega⟩
  | m + 1, hm => by
    rw [lb]
    by_cases hx : x ∈ wr (oa ops (ops.length - 1 - m))
    . rw [if_pos hx]
      exact .inr ⟨ops.length - 1 - m, by omega, by omega, rfl, hx, fun j h1 h2 => by omega⟩
    . rw [if_neg hx]
      rcases lb_spec ops x m (by omega) with ⟨h1, h2⟩ | ⟨k, h0, h1, h2, h3, h4⟩
      . refine .inl ⟨h1, fun j hj hj2 => ?_⟩
        by_cases e : j = ops.length - 1 - m
        . subst e; exact hx
        . exact h2 j (by omega) hj2
      . refine .inr ⟨k, by omega, h1, h2, h3, fun j hj1 hj2 => ?_⟩
        by_cases e : j = ops.length - 1 - m
        . subst e; exact hx
        . exact h4 j (by omega) hj2
def mb (ops : List COp) (f : Nat -> Int) (d : Int) (m : Nat) (l : List Int) : Int := l.foldl (fun v x => if lb ops x m = -1 then v else min v (f (lb ops x m).toNat - ln (oa ops (lb ops x m).toNat))) d
theorem mb_take {ops : List COp} {f : Nat -> Int} {d : Int} {m : Nat} {l : List Int} {j : Nat} {x : Int} (hx : l[j]? = some x) : mb ops f d m (l.take (j + 1)) = if lb ops x m = -1 then mb ops f d m (l.take j) else min (mb ops f d m (l.take j)) (f (lb ops x m).toNat - ln (oa ops (lb ops x m).toNat)) := by
  rw [List.take_add_one, hx]; unfold mb; rw [Option.toList_some, List.foldl_append]; rfl
theorem le_mb {ops : List COp} {f : Nat -> Int} {d : Int} {m : Nat} {B : Int} (l : List Int) : B <= mb ops f d m l ↔ B <= d /\ ∀ x ∈ l, lb ops x m ≠ -1 -> B <= f (lb ops x m).toNat - ln (oa ops (lb ops x m).toNat) := by
  unfold mb
  induction l generalizing d with
  | nil => simp
  | cons x r ih =>
    rw [List.foldl_cons, ih]
    split
    . rename_i e
      constructor
      . rintro ⟨h1, h2⟩
        exact ⟨h1, fun y hy => by rcases List.mem_cons.1 hy with rfl | hy; exact fun h => absurd e h; exact h2 y hy⟩
      . rintro ⟨h1, h2⟩
        exact ⟨h1, fun y hy => h2 y (List.mem_cons_of_mem _ hy)⟩
    . rename_i e
      rw [Int.le_min]
      constructor
      . rintro ⟨⟨h1, h3⟩, h2⟩
        exact ⟨h1, fun y hy => by rcases List.mem_cons.1 hy with rfl | hy; exact fun _ => h3; exact h2 y hy⟩
      . rintro ⟨h1, h2⟩
        exact ⟨⟨h1, h2 x List.mem_cons_self e⟩, fun y hy => h2 y (List.mem_cons_of_mem _ hy)⟩
theorem lv_mono {ops : List COp} {d : Int} {f : Nat -> Int} (h : LV ops d f) {x : Int} {j k : Nat} (hjk : j < k) (hk : k < ops.length) (h1 : x ∈ wr (oa ops j)) (h2 : x ∈ wr (oa ops k)) : f j <= f k - ln (oa ops k) := by
  have e := h j _ (oa_some (show j < ops.length by omega))
  have := ((le_mn (ops := ops) (f := f) (d := d) (i := j) (o := oa ops j) (B := mn ops f d j (oa ops j) (ops.length - 1 - j)) (ops.length - 1 - j)).1 (Int.le_refl _)).2 (k - j - 1) (by omega) (by rw [show j + 1 + (k - j - 1) = k by omega]; exact tc_iff.2 ⟨x, h1, h2⟩)
  rw [show j + 1 + (k - j - 1) = k by omega] at this
  omega
theorem mb_eq {ops : List COp} {d : Int} {f : Nat -> Int} (h : LV ops d f) {i : Nat} (hi : i < ops.length) : mb ops f d (ops.length - 1 - i) (wr (oa ops i)) = mn ops f d i (oa ops i) (ops.length - 1 - i) := by
  refine Int.le_antisymm ((le_mn _).2 ⟨((le_mb (B := mb ops f d (ops.length - 1 - i) (wr (oa ops i))) (wr (oa ops i))).1 (Int.le_refl _)).1, fun j hj ht => ?_⟩) ((le_mb _).2 ⟨mn_led _, fun x hx hn => ?_⟩)
  . obtain ⟨x, hx, hx2⟩ := tc_iff.1 ht
    have hb := ((le_mb (ops := ops) (f := f) (d := d) (m := ops.length - 1 - i) (B := mb ops f d (ops.length - 1 - i) (wr (oa ops i))) (wr (oa ops i))).1 (Int.le_refl _)).2 x hx
    rcases lb_spec ops x (ops.length - 1 - i) (by omega) with ⟨h1, h2⟩ | ⟨k, h0, h1, h2, h3, h4⟩
    . exact absurd hx2 (h2 _ (by omega) (by omega))
    . rw [h2, Int.toNat_natCast] at hb
      have hb := hb (by omega)
      rcases Nat.lt_trichotomy k (i + 1 + j) with hjk | hjk | hjk
      . have := lv_mono h hjk (by omega) h3 hx2
        have := ln_rng (oa ops k)
        omega
      . subst hjk; exact hb
      . exact absurd hx2 (h4 _ (by omega) hjk)
  . rcases lb_spec ops x (ops.length - 1 - i) (by omega) with ⟨h1, -⟩ | ⟨k, h0, h1, h2, h3, h4⟩
    . exact absurd h1 hn
    . rw [h2, Int.toNat_natCast]
      have := ((le_mn (ops := ops) (f := f) (d := d) (i := i) (o := oa ops i) (B := mn ops f d i (oa ops i) (ops.length - 1 - i)) (ops.length - 1 - i)).1 (Int.le_refl _)).2 (k - i - 1) (by omega) (by rw [show i + 1 + (k - i - 1) = k by omega]; exact tc_iff.2 ⟨x, hx, h3⟩)
      rw [show i + 1 + (k - i - 1) = k by omega] at this
      exact this
def hit (M : Int -> Bool) (o : COp) : Bool := !decide (o.kind = 4) && (wr o).any M
def cn (M : Int -> Bool) (l : List (Nat × COp)) : (Int -> Bool) × List Int := l.foldl (fun s p => if hit s.1 p.2 then (fun x => s.1 x || decide (x ∈ wr p.2), s.2 ++ [(p.1 : Int)]) else s) (M, [])
theorem cn_snoc (M : Int -> Bool) (l : List (Nat × COp)) (p : Nat × COp) : cn M (l ++ [p]) = if hit (cn M l).1 p.2 then (fun x => (cn M l).1 x || decide (x ∈ wr p.2), (cn M l).2 ++ [(p.1 : Int)]) else cn M l := by
  unfold cn; rw [List.foldl_append]; rfl
theorem cn_len (M : Int -> Bool) (l : List (Nat × COp)) : (cn M l).2.length <= l.length := by
  unfold cn
  have key : ∀ (l : List (Nat × COp)) (s : (Int -> Bool) × List Int), (l.foldl (fun s p => if hit s.1 p.2 then (fun x => s.1 x || decide (x ∈ wr p.2), s.2 ++ [(p.1 : Int)]) else s) s).2.length <= s.2.length + l.length := by
    intro l
    induction l with
    | nil => intro s; simp
    | cons p r ih =>
      intro s
      rw [List.foldl_cons]
      refine Nat.le_trans (ih _) ?_
      split <;> simp <;> omega
  have := key l (M, [])
  simpa using this
def wd (o : COp) : List Int := o.qs ++ (if o.kind = 2 then [100 + o.bit] else []) ++ (if 0 <= o.cond then [100 + o.cond] else [])
def ph (x : Int) : Int := if x < 64 then x else x + 36
theorem ph_inj {x y : Int} (h : ph x = ph y) : x = y := by
  unfold ph at h
  split at h <;> split at h <;> omega
theorem wd_eq {o : COp} (h : Wk o) : wd o = (wr o).map ph := by
  have hq : o.qs.map ph = o.qs := by
    rw [List.map_congr_left (g := id) (fun z hz => by have := h.qs z hz; unfold ph; rw [if_pos (by omega)]; rfl), List.map_id]
  unfold wd wr
  by_cases h2 : o.kind = 2
  . have := h.m h2
    rw [if_pos h2, if_pos h2, if_neg (by omega), List.map_append, hq, List.append_nil]
    simp only [List.map_cons, List.map_nil]
    unfold ph
    rw [if_neg (by omega)]
    congr 2
    omega
  . rw [if_neg h2, if_neg h2, List.append_nil]
    by_cases h3 : o.cond = -1
    . rw [if_neg (by omega), if_neg (by simp [h3]), List.append_nil, hq]
    . have := h.c h3
      rw [if_pos (by omega), if_pos h3, List.map_append, hq]
      simp only [List.map_cons, List.map_nil]
      unfold ph
      rw [if_neg (by omega)]
      congr 2
      omega
def mt (a b : List Int) : Bool := a.any fun x => decide (x ∈ b)
theorem mt_wd {o p : COp} (ho : Wk o) (hp : Wk p) : mt (wd o) (wd p) = tc o p := by
  rw [wd_eq ho, wd_eq hp, Bool.eq_iff_iff, tc_iff]
  unfold mt
  rw [List.any_eq_true]
  constructor
  . rintro ⟨x, h1, h2⟩
    obtain ⟨y, hy, rfl⟩ := List.mem_map.1 h1
    obtain ⟨z, hz, e⟩ := List.mem_map.1 (of_decide_eq_true h2)
    exact ⟨y, hy, by rw [← ph_inj e]; exact hz⟩
  . rintro ⟨x, h1, h2⟩
    exact ⟨ph x, List.mem_map.2 ⟨x, h1, rfl⟩, decide_eq_true (List.mem_map.2 ⟨x, h2, rfl⟩)⟩
end Go.Proofs.YthndpbjplcphpaaDoor.Lay
