import Derived.Test.YthndpbjplcphpaaDoorQ648835f0
set_option maxRecDepth 100000
set_option maxHeartbeats 4000000
namespace Go.Proofs.YthndpbjplcphpaaDoor.Lay
open Go.RowKit Go.Shelf Go.Proofs.YthndpbjplcphpaaDoor.Oct Go.Proofs.YthndpbjplcphpaaDoor.Tok Go.Proofs.YthndpbjplcphpaaDoor.Gt Go.Proofs.YthndpbjplcphpaaDoor.Cir
def wr (o : COp) : List Int := if o.kind = 2 then o.qs ++ [64 + o.bit] else if o.cond ≠ -1 then o.qs ++ [64 + o.cond] else o.qs
def ln (o : COp) : Int := if o.kind = 4 then 0 else 1
theorem ln_rng (o : COp) : 0 <= ln o /\ ln o <= 1 := by unfold ln; split <;> decide
def tc (o p : COp) : Bool := (wr o).any fun x => decide (x ∈ wr p)
theorem tc_iff {o p : COp} : tc o p = true ↔ ∃ x, x ∈ wr o /\ x ∈ wr p := by
  unfold tc
  rw [List.any_eq_true]
  constructor
  . rintro ⟨x, h1, h2⟩; exact ⟨x, h1, of_decide_eq_true h2⟩
  . rintro ⟨x, h1, h2⟩; exact ⟨x, h1, decide_eq_true h2⟩
abbrev O0 : COp := ⟨0, 0, [], 0, 0, 0⟩
def oa (ops : List COp) (k : Nat) : COp := ops.getD k O0
theorem oa_at {ops : List COp} {i : Nat} {o : COp} (h : ops[i]? = some o) : oa ops i = o := by unfold oa; simp [List.getD, h]
theorem oa_some {ops : List COp} {i : Nat} (h : i < ops.length) : ops[i]? = some (oa ops i) := by unfold oa; simp [List.getD, List.getElem?_eq_getElem h]
structure Wk (o : COp) : Prop where
  qs : ∀ z ∈ o.qs, 0 <= z /\ z < 64
  nd : o.qs.Nodup
  len : o.qs.length <= 64
  m : o.kind = 2 -> 0 <= o.bit /\ o.bit < 64 /\ o.cond = -1
  c : o.cond ≠ -1 -> 0 <= o.cond /\ o.cond < 64
theorem apG_nd {l : List Int} : ∀ (m i : Nat), apG l m i = true -> i + m = l.length -> ∀ j, i <= j -> j < l.length -> l.getD j 0 ∉ l.take j
  | 0, i, _, he, j, h1, h2 => by omega
  | m + 1, i, h, he, j, h1, h2 => by
    rw [apG] at h
    simp only [Bool.and_eq_true, Bool.not_eq_true', decide_eq_false_iff_not, decide_eq_true_eq] at h
    by_cases hj : j = i
    . subst hj; exact h.1.2
    . exact apG_nd m (i + 1) h.2 (by omega) j (by omega) h2
theorem chk_nodup {k : Int} {l : List Int} {n : Int} (h : chkP k l n = 0) : l.Nodup := by
  unfold chkP at h
  split at h
  . cases h
  . split at h
    . cases h
    . rename_i ha
      have ha' : apP (rw' k).q l = true := by simpa using ha
      unfold apP at ha'
      rw [Bool.and_eq_true] at ha'
      rw [List.nodup_iff_pairwise_ne, List.pairwise_iff_getElem]
      intro i j hi hj hij e
      refine apG_nd _ _ ha'.2 (by omega) j (Nat.zero_le _) hj ?_
      have e2 : l.getD j 0 = l[i] := by rw [e]; simp [List.getD, List.getElem?_eq_getElem hj]
      rw [e2]
      exact List.mem_take_iff_getElem.2 ⟨i, by omega, rfl⟩
theorem may_nd {q b : Int} {o : COp} (h : mayP q b o = true) : o.qs.Nodup /\ (o.kind = 2 -> o.cond = -1) := by
  have hap : apaP o.qs q = true -> o.qs.Nodup := fun h => by
    unfold apaP at h
    rw [Bool.and_eq_true, decide_eq_true_eq] at h
    exact h.1
  have hng : noGP o = true -> o.cond = -1 := fun h => by
    unfold noGP freeP at h
    simp only [Bool.and_eq_true, decide_eq_true_eq] at h
    exact h.2.1
  unfold mayP at h
  split at h
  . simp only [Bool.and_eq_true, decide_eq_true_eq] at h
    exact ⟨chk_nodup h.1.1, fun e => by omega⟩
  . split at h
    . simp only [Bool.and_eq_true, decide_eq_true_eq] at h
      exact ⟨hap h.1.2, fun _ => hng h.1.1.1⟩
    . split at h
      . simp only [Bool.and_eq_true, decide_eq_true_eq] at h
        exact ⟨hap h.1.2, fun _ => hng h.1.1.1⟩
      . split at h
        . simp only [Bool.and_eq_true, decide_eq_true_eq] at h
          exact ⟨hap h.1.2, fun _ => hng h.1.1.1⟩
        . cases h
theorem may_wk {q b : Int} {o : COp} (hq0 : 0 <= q) (hq : q <= 64) (hb : b <= 64) (h : mayP q b o = true) : Wk o := by
  have h1 := may_in hq0 hq hb h
  have h2 := may_rng h
  have h3 := may_nd h
  refine ⟨fun z hz => ?_, h3.1, h1.1, fun e => ?_, fun e => ?_⟩
  . have := h2.1 z hz; omega
  . have := h2.2.1 e
    exact ⟨this.1, by omega, h3.2 e⟩
  . have := h2.2.2 e; omega
theorem wr_rng {o : COp} (h : Wk o) : ∀ x ∈ wr o, 0 <= x /\ x < 128 := by
  intro x hx
  unfold wr at hx
  split at hx
  . rename_i e
    have := h.m e
    rcases List.mem_append.1 hx with hx | hx
    . have := h.qs x hx; omega
    . simp at hx; omega
  . split at hx
    . rename_i e
      have := h.c e
      rcases List.mem_append.1 hx with hx | hx
      . have := h.qs x hx; omega
      . simp at hx; omega
    . have := h.qs x hx; omega
theorem nodup_snoc {l : List Int} {x : Int} (h : l.Nodup) (hx : x ∉ l) : (l ++ [x]).Nodup := by
  rw [List.nodup_append]
  exact ⟨h, by simp, fun a ha b hb e => by simp at hb; subst hb; subst e; exact hx ha⟩
theorem wr_nd {o : COp} (h : Wk o) : (wr o).Nodup := by
  unfold wr
  split
  . rename_i e
    have := h.m e
    exact nodup_snoc h.nd fun hx => by have := h.qs _ hx; omega
  . split
    . rename_i e
      have := h.c e
      exact nodup_snoc h.nd fun hx => by have := h.qs _ hx; omega
    . exact h.nd
theorem wr_len {o : COp} (h : Wk o) : (wr o).length <= 65 := by
  have := h.len
  unfold wr
  split
  . simp; omega
  . split
    . simp; omega
    . omega
def mx (ops : List COp) (f : Nat -> Int) (o : COp) : Nat -> Int
  | 0 => 0
  | k + 1 => if tc o (oa ops k) then max (mx ops f o k) (f k) else mx ops f o k
def EV (ops : List COp) (f : Nat -> Int) : Prop := ∀ i o, ops[i]? = some o -> f i = mx ops f o i + ln o
theorem mx_le {ops : List COp} {f : Nat -> Int} {o : COp} {B : Int} : ∀ k, mx ops f o k <= B ↔ 0 <= B /\ ∀ j, j < k -> tc o (oa ops j) = true -> f j <= B
  | 0 => by rw [mx]; exact ⟨fun h => ⟨h, fun j hj => by omega⟩, fun h => h.1⟩
  | k + 1 => by
    rw [mx]
    have ih := mx_le (ops := ops) (f := f) (o := o) (B := B) k
    split
    . rename_i ht
      rw [Int.max_le, ih]
      constructor
      . rintro ⟨⟨h0, h1⟩, h2⟩
        refine ⟨h0, fun j hj ht => ?_⟩
        by_cases e : j = k
        . subst e; exact h2
        . exact h1 j (by omega) ht
      . rintro ⟨h0, h1⟩
        exact ⟨⟨h0, fun j hj => h1 j (by omega)⟩, h1 k (by omega) ht⟩
    . rename_i ht
      rw [ih]
      constructor
      . rintro ⟨h0, h1⟩
        refine ⟨h0, fun j hj ht' => ?_⟩
        by_cases e : j = k
        . subst e; exact absurd ht' ht
        . exact h1 j (by omega) ht'
      . rintro ⟨h0, h1⟩
        exact ⟨h0, fun j hj => h1 j (by omega)⟩
theorem mx_congr {ops : List COp} {f g : Nat -> Int} {o : COp} : ∀ k, (∀ j, j < k -> f j = g j) -> mx ops f o k = mx ops g o k
  | 0, _ => rfl
  | k + 1, h => by rw [mx, mx, mx_congr k (fun j hj => h j (by omega)), h k (by omega)]
theorem ev_exists (ops : List COp) : ∃ f, EV ops f := by
  have key : ∀ n, ∃ f : Nat -> Int, ∀ i, i < n -> f i = mx ops f (oa ops i) i + ln (oa ops i) := by
    intro n
    induction n with
    | zero => exact ⟨fun _ => 0, fun i hi => by omega⟩
    | succ n ih =>
      obtain ⟨f, hf⟩ := ih
      refine ⟨fun i => if i = n then mx ops f (oa ops n) n + ln (oa ops n) else f i, fun i hi => ?_⟩
      have e : mx ops (fun i => if i = n then mx ops f (oa ops n) n + ln (oa ops n) else f i) (oa ops i) i = mx ops f (oa ops i) i := mx_congr i fun j hj => by show ite _ _ _ = _; rw [if_neg (by omega)]
      rw [e]
      by_cases hn : i = n
      . subst hn; simp
      . show ite _ _ _ = _
        rw [if_neg hn]
        exact hf i (by omega)
  obtain ⟨f, hf⟩ := key ops.length
  refine ⟨f, fun i o ho => ?_⟩
  have := hf i (List.getElem?_eq_some_iff.1 ho).1
  rw [oa_at ho] at this
  exact this
theorem mx_nn {ops : List COp} {f : Nat -> Int} {o : COp} (k : Nat) : 0 <= mx ops f o k := ((mx_le (B := mx ops f o k) k).1 (Int.le_refl _)).1
theorem ev_rng {ops : List COp} {f : Nat -> Int} (h : EV ops f) : ∀ i, i < ops.length -> 0 <= f i /\ f i <= (i : Int) + 1 := by
  have key : ∀ n i, i < n -> i < ops.length -> 0 <= f i /\ f i <= (i : Int) + 1 := by
    intro n
    induction n with
    | zero => intro i hi; omega
    | succ n ih =>
      intro i hi hl
      have hp := ln_rng (oa ops i)
      rw [h i _ (oa_some hl)]
      have h0 := mx_nn (ops := ops) (f := f) (o := oa ops i) i
      have h1 : mx ops f (oa ops i) i <= (i : Int) := (mx_le i).2 ⟨by omega, fun j hj _ => by have := ih j (by omega) (by omega); omega⟩
      omega
  intro i hi
  exact key (i + 1) i (by omega) hi
theorem mx_rng {ops : List COp} {f : Nat -> Int} (h : EV ops f) {o : COp} (i : Nat) (hi : i <= ops.length) : 0 <= mx ops f o i /\ mx ops f o i <= (i : Int) :=
  ⟨mx_nn i, (mx_le i).2 ⟨by omega, fun j hj _ => by have := ev_rng h j (by omega); omega⟩⟩
def la (ops : List COp) (x : Int) : Nat -> Int
  | 0 => -1
  | k + 1 => if x ∈ wr (oa ops k) then (k : Int) else la ops x k
theorem la_spec (ops : List COp) (x : Int) : ∀ n, (la ops x n = -1 /\ ∀ j, j < n -> x ∉ wr (oa ops j)) ∨ ∃ k : Nat, k < n /\ la ops x n = (k : Int) /\ x ∈ wr (oa ops k) /\ ∀ j, k < j -> j < n -> x ∉ wr (oa ops j)
  | 0 => .inl ⟨rfl, fun j hj => by omega⟩
  | n + 1 => by
    rw [la]
    by_cases hx : x ∈ wr (oa ops n)
    . rw [if_pos hx]
      exact .inr ⟨n, by omega, rfl, hx, fun j h1 h2 => by omega⟩
    . rw [if_neg hx]
      rcases la_spec ops x n with ⟨h1, h2⟩ | ⟨k, h1, h2, h3, h4⟩
      . refine .inl ⟨h1, fun j hj => ?_⟩
        by_cases e : j = n
        . subst e; exact hx
        . exact h2 j (by omega)
      . refine .inr ⟨k, by omega, h2, h3, fun j hj1 hj2 => ?_⟩
        by_cases e : j = n
        . subst e; exact hx
        . exact h4 j hj1 (by omega)
def mw (ops : List COp) (f : Nat -> Int) (i : Nat) (l : List Int) : Int := l.foldl (fun m x => if la ops x i = -1 then m else max m (f (la ops x i).toNat)) 0
theorem mw_snoc (ops : List COp) (f : Nat -> Int) (i : Nat) (l : List Int) (x : Int) : mw ops f i (l ++ [x]) = if la ops x i = -1 then mw ops f i l else max (mw ops f i l) (f (la ops x i).toNat) := by
  unfold mw; rw [List.foldl_append]; rfl
theorem mw_take {ops : List COp} {f : Nat -> Int} {i : Nat} {l : List Int} {j : Nat} {x : Int} (hx : l[j]? = some x) : mw ops f i (l.take (j + 1)) = if la ops x i = -1 then mw ops f i (l.take j) else max (mw ops f i (l.take j)) (f (la ops x i).toNat) := by
  rw [List.take_add_one, hx]; exact mw_snoc _ _ _ _ _
theorem mw_le {ops : List COp} {f : Nat -> Int} {i : Nat} {B : Int} (l : List Int) : mw ops f i l <= B ↔ 0 <= B /\ ∀ x ∈ l, la ops x i ≠ -1 -> f (la ops x i).toNat <= B := by
  have key : ∀ (l : List Int) (m : Int), l.foldl (fun m x => if la ops x i = -1 then m else max m (f (la ops x i).toNat)) m <= B ↔ m <= B /\ ∀ x ∈ l, la ops x i ≠ -1 -> f (la ops x i).toNat <= B := by
    intro l
    induction l with
    | nil => intro m; simp
    | cons x r ih =>
      intro m
      rw [List.foldl_cons, ih]
      split
      . rename_i e
        constructor
        . rintro ⟨h1, h2⟩
          exact ⟨h1, fun y hy => by rcases List.mem_cons.1 hy with rfl | hy; exact fun h => absurd e h; exact h2 y hy⟩
        . rintro ⟨h1, h2⟩
          exact ⟨h1, fun y hy => h2 y (List.mem_cons_of_mem _ hy)⟩
      . rename_i e
        rw [Int.max_le]
        constructor
        . rintro ⟨⟨h1, h3⟩, h2⟩
          exact ⟨h1, fun y hy => by rcases List.mem_cons.1 hy with rfl | hy; exact fun _ => h3; exact h2 y hy⟩
        . rintro ⟨h1, h2⟩
          exact ⟨⟨h1, h2 x List.mem_cons_self e⟩, fun y hy => h2 y (List.mem_cons_of_mem _ hy)⟩
  exact key l 0
theorem ev_mono {ops : List COp} {f : Nat -> Int} (h : EV ops f) {x : Int} {j k : Nat} (hjk : j < k) (hk : k < ops.length) (h1 : x ∈ wr (oa ops j)) (h2 : x ∈ wr (oa ops k)) : f j <= f k := by
  have e := h k _ (oa_some hk)
  have hp := ln_rng (oa ops k)
  have := ((mx_le (ops := ops) (f := f) (o := oa ops k) (B := mx ops f (oa ops k) k) k).1 (Int.le_refl _)).2 j hjk (tc_iff.2 ⟨x, h2, h1⟩)
  omega
theorem mw_eq {ops : List COp} {f : Nat -> Int} (h : EV ops f) {i : Nat} (hi : i < ops.length) : mw ops f i (wr (oa ops i)) = mx ops f (oa ops i) i := by
  refine Int.le_antisymm ((mw_le _).2 ⟨mx_nn i, fun x hx hn => ?_⟩) ((mx_le i).2 ⟨((mw_le (B := mw ops f i (wr (oa ops i))) (wr (oa ops i))).1 (Int.le_refl _)).1, fun j hj ht => ?_⟩)
  . rcases la_spec ops x i with ⟨h1, -⟩ | ⟨k, h1, h2, h3, h4⟩
    . exact absurd h1 hn
    . rw [h2, Int.toNat_natCast]
      exact ((mx_le (ops := ops) (f := f) (o := oa ops i) (B := mx ops f (oa ops i) i) i).1 (Int.le_refl _)).2 k h1 (tc_iff.2 ⟨x, hx, h3⟩)
  . obtain ⟨x, hx, hx2⟩ := tc_iff.1 ht
    have hb := ((mw_le (ops := ops) (f := f) (i := i) (B := mw ops f i (wr (oa ops i))) (wr (oa ops i))).1 (Int.le_refl _)).2 x hx
    rcases la_spec ops x i with ⟨h1, h2⟩ | ⟨k, h1, h2, h3, h4⟩
    . exact absurd hx2 (h2 j hj)
    . rw [h2, Int.toNat_natCast] at hb
      have hb := hb (by omega)
      rcases Nat.lt_trichotomy j k with hjk | hjk | hjk
      . have := ev_mono h hjk (by omega) hx2 h3; omega
      . subst hjk; exact hb
      . exact absurd hx2 (h4 j hjk hj)
def gr (f : Nat -> Int) : Nat -> Int
  | 0 => 0
  | k + 1 => max (gr f k) (f k)
theorem gr_rng {f : Nat -> Int} : ∀ n, (∀ i, i < n -> 0 <= f i /\ f i <= (i : Int) + 1) -> 0 <= gr f n /\ gr f n <= (n : Int)
  | 0, _ => ⟨Int.le_refl _, by rw [gr]; exact Int.le_refl _⟩
  | n + 1, h => by
    have h1 := gr_rng n fun i hi => h i (by omega)
    have h2 := h n (by omega)
    rw [gr]
    omega
def mn (ops : List COp) (f : Nat -> Int) (d : Int) (i : Nat) (o : COp) : Nat -> Int
  | 0 => d
  | k + 1 => if tc o (oa ops (i + 1 + k)) then min (mn ops f d i o k) (f (i + 1 + k) - ln (oa ops (i + 1 + k))) else mn ops f d i o k
def LV (ops : List COp) (d : Int) (f : Nat -> Int) : Prop := ∀ i o, ops[i]? = some o -> f i = mn ops f d i o (ops.length - 1 - i)
theorem le_mn {ops : List COp} {f : Nat -> Int} {d : Int} {i : Nat} {o : COp} {B : Int} : ∀ k, B <= mn ops f d i o k ↔ B <= d /\ ∀ j, j < k -> tc o (oa ops (i + 1 + j)) = true -> B <= f (i + 1 + j) - ln (oa ops (i + 1 + j))
  | 0 => by rw [mn]; exact ⟨fun h => ⟨h, fun j hj => by omega⟩, fun h => h.1⟩
  | k + 1 => by
    rw [mn]
    have ih := le_mn (ops := ops) (f := f) (d := d) (i := i) (o := o) (B := B) k
    split
    . rename_i ht
      rw [Int.le_min, ih]
      constructor
      . rintro ⟨⟨h0, h1⟩, h2⟩
        refine ⟨h0, fun j hj ht => ?_⟩
        by_cases e : j = k
        . subst e; exact h2
        . exact h1 j (by omega) ht
      . rintro ⟨h0, h1⟩
        exact ⟨⟨h0, fun j hj => h1 j (by omega)⟩, h1 k (by omega) ht⟩
    . rename_i ht
      rw [ih]
      constructor
      . rintro ⟨h0, h1⟩
        refine ⟨h0, fun j hj ht' => ?_⟩
        by_cases e : j = k
        . subst e; exact absurd ht' ht
        . exact h1 j (by omega) ht'
      . rintro ⟨h0, h1⟩
        exact ⟨h0, fun j hj => h1 j (by omega)⟩
theorem mn_led {ops : List COp} {f : Nat -> Int} {d : Int} {i : Nat} {o : COp} (k : Nat) : mn ops f d i o k <= d := ((le_mn (B := mn ops f d i o k) k).1 (Int.le_refl _)).1
theorem lv_rng {ops : List COp} {d : Int} {f : Nat -> Int} (h : LV ops d f) : ∀ i, i < ops.length -> d - (ops.length : Int) <= f i - (i : Int) - 1 + 0 /\ f i <= d := by
  have key : ∀ m i, ops.length - i <= m -> i < ops.length -> d - (ops.length : Int) <= f i - (i : Int) - 1 /\ f i <= d := by
    intro m
    induction m with
    | zero => intro i h1 h2; omega
    | succ m ih =>
      intro i h1 h2
      rw [h i _ (oa_some h2)]
      refine ⟨?_, mn_led _⟩
      have : d - (ops.length : Int) + (i : Int) + 1 <= mn ops f d i (oa ops i) (ops.length - 1 - i) := (le_mn _).2 ⟨by omega, fun j hj _ => by
        have h3 := ih (i + 1 + j) (by omega) (by omega)
        have h4 := ln_rng (oa ops (i + 1 + j))
        omega⟩
      omega
  intro i hi
  have := key _ i (Nat.le_refl _) hi
  omega
def lb (ops : List COp) (x : Int) : Nat -> Int
  | 0 => -1
  | m + 1 => if x ∈ wr (oa ops (ops.length - 1 - m)) then ((ops.length - 1 - m : Nat) : Int) else lb ops x m
theorem lb_spec (ops : List COp) (x : Int) : ∀ m, m <= ops.length -> (lb ops x m = -1 /\ ∀ j, ops.length - m <= j -> j < ops.length -> x ∉ wr (oa ops j)) ∨ ∃ k : Nat, ops.length - m <= k /\ k < ops.length /\ lb ops x m = (k : Int) /\ x ∈ wr (oa ops k) /\ ∀ j, ops.length - m <= j -> j < k -> x ∉ wr (oa ops j)
  | 0, _ => .inl ⟨rfl, fun j h1 h2 => by omega⟩
  | m + 1, hm => by
    rw [lb]
    by_cases hx : x ∈ wr (oa ops (ops.length - 1 - m))
    . rw [if_pos hx]
      exact .inr ⟨ops.length - 1 - m, by omega, by omega, rfl, hx, fun j h1 h2 => by omega⟩
    . rw [if_neg hx]
      rcases lb_spec ops x m (by omega) with ⟨h1, h2⟩ | ⟨k, h0, h1, h2, h3, h4⟩
      . refine .inl ⟨h1, fun j hj hj2 => ?_⟩
        by_cases e : j = ops.length - 1 - m
        . subst e; exact hx
        . exact h2 j (by omega) hj2
      . refine .inr ⟨k, by omega, h1, h2, h3, fun j hj1 hj2 => ?_⟩
        by_cases e : j = ops.length - 1 - m
        . subst e; exact hx
        . exact h4 j (by omega) hj2
def mb (ops : List COp) (f : Nat -> Int) (d : Int) (m : Nat) (l : List Int) : Int := l.foldl (fun v x => if lb ops x m = -1 then v else min v (f (lb ops x m).toNat - ln (oa ops (lb ops x m).toNat))) d
theorem mb_take {ops : List COp} {f : Nat -> Int} {d : Int} {m : Nat} {l : List Int} {j : Nat} {x : Int} (hx : l[j]? = some x) : mb ops f d m (l.take (j + 1)) = if lb ops x m = -1 then mb ops f d m (l.take j) else min (mb ops f d m (l.take j)) (f (lb ops x m).toNat - ln (oa ops (lb ops x m).toNat)) := by
  rw [List.take_add_one, hx]; unfold mb; rw [Option.toList_some, List.foldl_append]; rfl
theorem le_mb {ops : List COp} {f : Nat -> Int} {d : Int} {m : Nat} {B : Int} (l : List Int) : B <= mb ops f d m l ↔ B <= d /\ ∀ x ∈ l, lb ops x m ≠ -1 -> B <= f (lb ops x m).toNat - ln (oa ops (lb ops x m).toNat) := by
  unfold mb
  induction l generalizing d with
  | nil => simp
  | cons x r ih =>
    rw [List.foldl_cons, ih]
    split
    . rename_i e
      constructor
      . rintro ⟨h1, h2⟩
        exact ⟨h1, fun y hy => by rcases List.mem_cons.1 hy with rfl | hy; exact fun h => absurd e h; exact h2 y hy⟩
      . rintro ⟨h1, h2⟩
        exact ⟨h1, fun y hy => h2 y (List.mem_cons_of_mem _ hy)⟩
    . rename_i e
      rw [Int.le_min]
      constructor
      . rintro ⟨⟨h1, h3⟩, h2⟩
        exact ⟨h1, fun y hy => by rcases List.mem_cons.1 hy with rfl | hy; exact fun _ => h3; exact h2 y hy⟩
      . rintro ⟨h1, h2⟩
        exact ⟨⟨h1, h2 x List.mem_cons_self e⟩, fun y hy => h2 y (List.mem_cons_of_mem _ hy)⟩
theorem lv_mono {ops : List COp} {d : Int} {f : Nat -> Int} (h : LV ops d f) {x : Int} {j k : Nat} (hjk : j < k) (hk : k < ops.length) (h1 : x ∈ wr (oa ops j)) (h2 : x ∈ wr (oa ops k)) : f j <= f k - ln (oa ops k) := by
  have e := h j _ (oa_some (show j < ops.length by omega))
  have := ((le_mn (ops := ops) (f := f) (d := d) (i := j) (o := oa ops j) (B := mn ops f d j (oa ops j) (ops.length - 1 - j)) (ops.length - 1 - j)).1 (Int.le_refl _)).2 (k - j - 1) (by omega) (by rw [show j + 1 + (k - j - 1) = k by omega]; exact tc_iff.2 ⟨x, h1, h2⟩)
  rw [show j + 1 + (k - j - 1) = k by omega] at this
  omega
theorem mb_eq {ops : List COp} {d : Int} {f : Nat -> Int} (h : LV ops d f) {i : Nat} (hi : i < ops.length) : mb ops f d (ops.length - 1 - i) (wr (oa ops i)) = mn ops f d i (oa ops i) (ops.length - 1 - i) := by
  refine Int.le_antisymm ((le_mn _).2 ⟨((le_mb (B := mb ops f d (ops.length - 1 - i) (wr (oa ops i))) (wr (oa ops i))).1 (Int.le_refl _)).1, fun j hj ht => ?_⟩) ((le_mb _).2 ⟨mn_led _, fun x hx hn => ?_⟩)
  . obtain ⟨x, hx, hx2⟩ := tc_iff.1 ht
    have hb := ((le_mb (ops := ops) (f := f) (d := d) (m := ops.length - 1 - i) (B := mb ops f d (ops.length - 1 - i) (wr (oa ops i))) (wr (oa ops i))).1 (Int.le_refl _)).2 x hx
    rcases lb_spec ops x (ops.length - 1 - i) (by omega) with ⟨h1, h2⟩ | ⟨k, h0, h1, h2, h3, h4⟩
    . exact absurd hx2 (h2 _ (by omega) (by omega))
    . rw [h2, Int.toNat_natCast] at hb
      have hb := hb (by omega)
      rcases Nat.lt_trichotomy k (i + 1 + j) with hjk | hjk | hjk
      . have := lv_mono h hjk (by omega) h3 hx2
        have := ln_rng (oa ops k)
        omega
      . subst hjk; exact hb
      . exact absurd hx2 (h4 _ (by omega) hjk)
  . rcases lb_spec ops x (ops.length - 1 - i) (by omega) with ⟨h1, -⟩ | ⟨k, h0, h1, h2, h3, h4⟩
    . exact absurd h1 hn
    . rw [h2, Int.toNat_natCast]
      have := ((le_mn (ops := ops) (f := f) (d := d) (i := i) (o := oa ops i) (B := mn ops f d i (oa ops i) (ops.length - 1 - i)) (ops.length - 1 - i)).1 (Int.le_refl _)).2 (k - i - 1) (by omega) (by rw [show i + 1 + (k - i - 1) = k by omega]; exact tc_iff.2 ⟨x, hx, h3⟩)
      rw [show i + 1 + (k - i - 1) = k by omega] at this
      exact this
def hit (M : Int -> Bool) (o : COp) : Bool := !decide (o.kind = 4) && (wr o).any M
def cn (M : Int -> Bool) (l : List (Nat × COp)) : (Int -> Bool) × List Int := l.foldl (fun s p => if hit s.1 p.2 then (fun x => s.1 x || decide (x ∈ wr p.2), s.2 ++ [(p.1 : Int)]) else s) (M, [])
theorem cn_snoc (M : Int -> Bool) (l : List (Nat × COp)) (p : Nat × COp) : cn M (l ++ [p]) = if hit (cn M l).1 p.2 then (fun x => (cn M l).1 x || decide (x ∈ wr p.2), (cn M l).2 ++ [(p.1 : Int)]) else cn M l := by
  unfold cn; rw [List.foldl_append]; rfl
theorem cn_len (M : Int -> Bool) (l : List (Nat × COp)) : (cn M l).2.length <= l.length := by
  unfold cn
  have key : ∀ (l : List (Nat × COp)) (s : (Int -> Bool) × List Int), (l.foldl (fun s p => if hit s.1 p.2 then (fun x => s.1 x || decide (x ∈ wr p.2), s.2 ++ [(p.1 : Int)]) else s) s).2.length <= s.2.length + l.length := by
    intro l
    induction l with
    | nil => intro s; simp
    | cons p r ih =>
      intro s
      rw [List.foldl_cons]
      refine Nat.le_trans (ih _) ?_
      split <;> simp <;> omega
  have := key l (M, [])
  simpa using this
def wd (o : COp) : List Int := o.qs ++ (if o.kind = 2 then [100 + o.bit] else []) ++ (if 0 <= o.cond then [100 + o.cond] else [])
def ph (x : Int) : Int := if x < 64 then x else x + 36
theorem ph_inj {x y : Int} (h : ph x = ph y) : x = y := by
  unfold ph at h
  split at h <;> split at h <;> omega
theorem wd_eq {o : COp} (h : Wk o) : wd o = (wr o).map ph := by
  have hq : o.qs.map ph = o.qs := by
    rw [List.map_congr_left (g := id) (fun z hz => by have := h.qs z hz; unfold ph; rw [if_pos (by omega)]; rfl), List.map_id]
  unfold wd wr
  by_cases h2 : o.kind = 2
  . have := h.m h2
    rw [if_pos h2, if_pos h2, if_neg (by omega), List.map_append, hq, List.append_nil]
    simp only [List.map_cons, List.map_nil]
    unfold ph
    rw [if_neg (by omega)]
    congr 2
    omega
  . rw [if_neg h2, if_neg h2, List.append_nil]
    by_cases h3 : o.cond = -1
    . rw [if_neg (by omega), if_neg (by simp [h3]), List.append_nil, hq]
    . have := h.c h3
      rw [if_pos (by omega), if_pos h3, List.map_append, hq]
      simp only [List.map_cons, List.map_nil]
      unfold ph
      rw [if_neg (by omega)]
      congr 2
      omega
def mt (a b : List Int) : Bool := a.any fun x => decide (x ∈ b)
theorem mt_wd {o p : COp} (ho : Wk o) (hp : Wk p) : mt (wd o) (wd p) = tc o p := by
  rw [wd_eq ho, wd_eq hp, Bool.eq_iff_iff, tc_iff]
  unfold mt
  rw [List.any_eq_true]
  constructor
  . rintro ⟨x, h1, h2⟩
    obtain ⟨y, hy, rfl⟩ := List.mem_map.1 h1
    obtain ⟨z, hz, e⟩ := List.mem_map.1 (of_decide_eq_true h2)
    exact ⟨y, hy, by rw [← ph_inj e]; exact hz⟩
  . rintro ⟨x, h1, h2⟩
    exact ⟨ph x, List.mem_map.2 ⟨x, h1, rfl⟩, decide_eq_true (List.mem_map.2 ⟨x, h2, rfl⟩)⟩
end Go.Proofs.YthndpbjplcphpaaDoor.Lay
namespace Go.Proofs.YthndpbjplcphpaaDoor.Gt
open Go
section
variable {P : Program} {C : World -> Prop} {Q : Exit -> Act -> World -> Prop} {md : Region.Mode} {ops : Array Oper} {N : Nat}
structure Front2 (md : Region.Mode) (ops : Array Oper) (N : Nat) : Prop where
  size : ops.size = N + 2
  low : ∀ i o, i < N -> ops[i]? = some o -> o.guard = none /\ ∀ e ∈ o.after, e.on < i
  last : ∃ o, ops[N]? = some o /\ ∀ e ∈ o.after, e.on < N
  fin : ∃ o, ops[N + 1]? = some o /\ (∀ e ∈ o.after, e.on < N + 1) /\ ∃ e ∈ o.after, Region.binds md e = true /\ e.on = N
  cover : ∀ j, j < N -> ∃ i o, j < i /\ i <= N /\ ops[i]? = some o /\ ∃ e ∈ o.after, Region.binds md e = true /\ e.on = j
end
end Go.Proofs.YthndpbjplcphpaaDoor.Gt
namespace Go.Proofs.YthndpbjplcphpaaDoor.Lay
open Go.RowKit Go.Shelf Go.Proofs.YthndpbjplcphpaaDoor.Oct Go.Proofs.YthndpbjplcphpaaDoor.Tok Go.Proofs.YthndpbjplcphpaaDoor.Gt Go.Proofs.YthndpbjplcphpaaDoor.Cir
theorem lLength (g off : Nat) (o : COp) (aq : Option Addr) (cq : Nat) (w : World) (h : Oc w g off o aq cq) : Calls Tryd.prog 51 #[.pointer (some ⟨g, off, none⟩)] w fun e w' => e = .returned (.int .i64 (ln o)) /\ w' = w := by
  have hk := h.kind
  have hlt := World.block_lt_of_cell? _ _ hk
  unfold ln
  obtain ⟨kind, gate, qs, bit, cond, whn⟩ := o
  simp only at *
  clear h
  by_cases e : kind = 4
  . subst e
    rw [if_pos rfl]
    go_enter Tryd.func51, Tryd.ntmps51
    go_wp2_with fail
    go_ret
    exact ⟨rfl, rfl⟩
  . rw [if_neg e]
    have e1 : (kind == 4) = false := by simpa using e
    go_enter Tryd.func51, Tryd.ntmps51
    go_wp2_with fail
    go_ret
    exact ⟨rfl, rfl⟩
theorem lGreatest (f : Nat -> Int) (n g c : Nat) (hn : n <= 1000000) (hf : ∀ i, i < n -> 0 <= f i /\ f i <= (i : Int) + 1) (w : World) (h : Rk w g 3 n (fun j => .int .i64 (f j))) : Calls Tryd.prog 40 #[.slice (some ⟨g, 0, none⟩) n c] w fun e w' => e = .returned (.int .i64 (gr f n)) /\ w' = w := by
  have HR := hide h
  have HF := hide hf
  clear h hf
  go_enter Tryd.func40, Tryd.ntmps40
  go_wp2_with fail
  go_loopw [3, 5, 8] (fun vs _ vi wr => wr = w /\ ∃ (i : Nat) (s : Int), i <= n /\ Hid (s = gr f i) /\ vs = .int .i64 s /\ vi = .int .i64 (i : Int)) (fun _ _ vi _ => n - (intOf vi).toNat)
  case atStart => exact ⟨rfl, 0, 0, Nat.zero_le _, hide rfl, rfl, rfl⟩
  case round =>
    obtain ⟨rfl, i, s, hi, HS, rfl, rfl⟩ := hrel
    by_cases h : i < n
    . have hd : decide ((i : Int) < (n : Int)) = true := decide_eq_true (by omega)
      have hc := HR.out.cell i h
      have hlt := HR.out.lt
      have HS' : Hid (max s (f i) = gr f (i + 1)) := hide (by rw [gr, HS.out])
      generalize f i = z at *
      go_wp2_with fail
      exact ⟨⟨trivial, i + 1, _, by omega, HS', by split <;> (congr 1; omega), by go_num⟩, by simp [intOf]; omega⟩
    . obtain rfl : n = i := by omega
      have hd : decide ((n : Int) < (n : Int)) = false := decide_eq_false (by omega)
      go_wp2_with fail
      go_ret
      rw [HS.out]
      exact ⟨rfl, rfl⟩
def av (f : Nat -> Value) : Array Value := ((List.range 128).map f).toArray
theorem av_size (f : Nat -> Value) : (av f).size = 128 := by simp [av]
theorem av_at (f : Nat -> Value) (i : Nat) (h : i < 128) : (av f)[i]? = some (f i) := by simp [av, h]
theorem av_congr {f g : Nat -> Value} (h : ∀ i, i < 128 -> f i = g i) : av f = av g := by
  unfold av
  rw [List.map_congr_left fun i hi => h i (List.mem_range.1 hi)]
theorem av_set (f : Nat -> Value) (i : Nat) (v : Value) : (av f).setIfInBounds i v = av (fun j => if j = i then v else f j) := by
  apply Array.ext_getElem?
  intro k
  rw [Array.getElem?_setIfInBounds]
  by_cases hk : k < 128
  . by_cases e : i = k
    . subst e; rw [if_pos rfl, if_pos (by rw [av_size]; exact hk), av_at _ i hk, if_pos rfl]
    . rw [if_neg e, av_at _ k hk, av_at _ k hk, if_neg (fun h => e h.symm)]
  . have e1 : (av f)[k]? = none := Array.getElem?_eq_none (by rw [av_size]; omega)
    have e2 : (av (fun j => if j = i then v else f j))[k]? = none := Array.getElem?_eq_none (by rw [av_size]; omega)
    rw [e1, e2]
    split
    . rename_i e; subst e; rw [if_neg (by rw [av_size]; exact hk)]
    . rfl
theorem av_one {f : Nat -> Value} (h : ∀ i, (f i).oneCell' = true) : (av f).all (·.oneCell') = true := by
  unfold av
  rw [List.all_toArray, List.all_eq_true]
  intro x hx
  obtain ⟨i, -, rfl⟩ := List.mem_map.1 hx
  exact h i
def Ar (w : World) (g : Nat) (t : TypeId) (f : Nat -> Value) : Prop := w.heap[g]? = some (.cells (av f) t (0, 0))
namespace Ar
variable {w w' : World} {g : Nat} {t : TypeId} {f f' : Nat -> Value}
theorem rk (h : Ar w g t f) : Rk w g t 128 f := ⟨_, h, by rw [av_size]; exact Nat.le_refl _, fun i hi => av_at f i hi⟩
theorem congr (h : Ar w g t f) (e : ∀ i, i < 128 -> f i = f' i) : Ar w g t f' := by unfold Ar at *; rw [h, av_congr e]
theorem of_block (h : Ar w g t f) (e : w'.heap[g]? = w.heap[g]?) : Ar w' g t f := e.trans h
theorem lt (h : Ar w g t f) : g < w.heap.size := h.rk.lt
theorem below (h : Ar w g t f) (hb : Below w.heap.size w w') : Ar w' g t f := h.of_block (hb.block g h.lt)
theorem set (h : Ar w g t f) (i : Nat) (v : Value) : Ar (w.setCell ⟨g, i, none⟩ v) g t (fun j => if j = i then v else f j) := by
  unfold Ar at *
  rw [setCell_eq_setRow w g i _ t _ v h, setRow_heap _ _ _ _ _ _ h, av_set]
theorem far (h : Ar w g t f) {a : Addr} (ha : g ≠ a.block) (v : Value) : Ar (w.setCell a v) g t f := h.of_block (Below.heap_setCell _ _ _ _ ha)
end Ar
theorem infoL : (Tryd.prog.info? 79).map (·.size) = some 128 := by kernel_rfl
theorem infoM : (Tryd.prog.info? 63).map (·.size) = some 128 := by kernel_rfl
theorem zeroL : Tryd.zeroCells79 = av fun _ => .int .i64 0 := by kernel_rfl
theorem zeroM : Tryd.zeroCells63 = av fun _ => .bool false := by kernel_rfl
theorem lNoneMet (w : World) : Calls Tryd.prog 49 #[] w fun e w' => e = .returned (.agg (av fun _ => .int .i64 (-1))) /\ Below w.heap.size w w' := by
  go_enter Tryd.func49, Tryd.ntmps49
  go_wp2_with fail
  rw [zeroL]
  have hb0 : Below w.heap.size w ((w.alloc (.cells (av fun _ => .int .i64 0) 79)).alloc (.cells (av fun _ => .int .i64 0) 79)) := (bnew _ _).trans ((bnew _ _).mono (by simp))
  have h0 : Ar ((w.alloc (.cells (av fun _ => .int .i64 0) 79)).alloc (.cells (av fun _ => .int .i64 0) 79)) w.heap.size 79 (fun _ => .int .i64 0) := Ar.below (w := w.alloc (.cells (av fun _ => .int .i64 0) 79)) (heap_alloc_new _ _) (bnew _ _)
  have h1 : Ar ((w.alloc (.cells (av fun _ => .int .i64 0) 79)).alloc (.cells (av fun _ => .int .i64 0) 79)) (w.heap.size + 1) 79 (fun _ => .int .i64 0) := by
    have := heap_alloc_new (w.alloc (.cells (av fun _ => .int .i64 0) 79)) (.cells (av fun _ => .int .i64 0) 79)
    rw [World.size_alloc] at this
    exact this
  generalize ((w.alloc (.cells (av fun _ => .int .i64 0) 79)).alloc (.cells (av fun _ => .int .i64 0) 79)) = w0 at *
  go_loopw [2, 3] (fun _ vi wr => ∃ i : Nat, i <= 128 /\ vi = .int .i64 (i : Int) /\ Hid (Ar wr w.heap.size 79 (fun _ => .int .i64 0)) /\ Hid (Ar wr (w.heap.size + 1) 79 (fun j => .int .i64 (if j < i then -1 else 0))) /\ Hid (Below w.heap.size w wr)) (fun _ vi _ => 128 - (intOf vi).toNat)
  case atStart => exact ⟨0, by omega, rfl, hide h0, hide (h1.congr fun i hi => by rw [if_neg (by omega)]), hide hb0⟩
  case round =>
    clear h0 h1 hb0
    obtain ⟨i, hi, rfl, H0, H1, HB⟩ := hrel
    by_cases h : i < 128
    . have hd : decide ((i : Int) < 128) = true := decide_eq_true (by omega)
      have hc := H1.out.rk.cell i h
      have hf := H1.out.rk.frozen i
      have hlt := H1.out.lt
      have hi1 : (i : Int) < 128 := by omega
      go_wp2_with fail
      refine ⟨⟨i + 1, by omega, by go_num, hide (H0.out.far (a := ⟨w.heap.size + 1, i, none⟩) (by simp) _), hide ((H1.out.set i _).congr fun j hj => ?_), hide (HB.out.setCell (p := ⟨w.heap.size + 1, i, none⟩) (by simp) _)⟩, by simp [intOf]; omega⟩
      by_cases e : j = i
      . subst e; rw [if_pos rfl, if_pos (by omega)]
      . rw [if_neg e]; congr 1; split <;> split <;> omega
    . obtain rfl : i = 128 := by omega
      have hd : decide (((128 : Nat) : Int) < 128) = false := by decide
      have H2 : Hid (Ar wr (w.heap.size + 1) 79 (fun _ => .int .i64 (-1))) := hide (H1.out.congr fun j hj => by rw [if_pos hj])
      go_wp2_with (first
        | refine wpList_load_row rfl _ _ rfl (w.heap.size + 1) (by rfl) _ _ _ _ H2.out Tryd.underlying79 rfl (by rw [av_size]; exact infoL) ?_
        | refine wpList_store_row rfl _ _ _ rfl w.heap.size _ (by rfl) (by rfl) _ _ H0.out (by rw [av_size]; exact infoL) (by rw [av_size, av_size]) (av_one fun _ => rfl) ?_)
      refine bodyPost_ret (results_c rfl _ _ w.heap.size _ _ _ _ (by rfl) (setRow_heap _ _ _ _ _ _ H0.out) Tryd.underlying79 rfl (by rw [av_size]; exact infoL)) rfl ?_
      exact ⟨rfl, Below.row HB.out _ _ (Nat.le_refl _)⟩
theorem ns_cell {w : World} {ao : Option Addr} {l : List Int} (h : Ns w ao l) {j : Nat} {z : Int} (hz : l[j]? = some z) : ∃ g off, ao = some ⟨g, off, none⟩ /\ w.cell? ⟨g, off + j, none⟩ = some (.int .i64 z) := by
  rcases h with rfl | ⟨g, off, e, h⟩
  . simp at hz
  . exact ⟨g, off, e, h j z hz⟩
theorem lSome (M : Int -> Bool) (g : Nat) {t : TypeId} (l : List Int) (ao : Option Addr) (c : Nat) (hl : ∀ x ∈ l, 0 <= x /\ x < 128) (hn : l.length <= 1000000) (w : World) (h : Rk w g t 128 (fun j => .bool (M (j : Int)))) (hN : Ns w ao l) : Calls Tryd.prog 54 #[.pointer (some ⟨g, 0, none⟩), .slice ao l.length c] w fun e w' => e = .returned (.bool (l.any M)) /\ w' = w := by
  have HR := hide h
  have HN := hide hN
  have HX := hide hl
  clear h hN hl
  obtain ⟨n, hnl⟩ : ∃ n, l.length = n := ⟨_, rfl⟩
  have HL := hide hnl
  rw [hnl] at hn ⊢
  clear hnl
  go_enter Tryd.func54, Tryd.ntmps54
  go_wp2_with fail
  go_loopw [4, 6, 9] (fun _ _ vi wr => wr = w /\ ∃ i : Nat, i <= n /\ Hid ((l.take i).any M = false) /\ vi = .int .i64 (i : Int)) (fun _ _ vi _ => n - (intOf vi).toNat)
  case atStart => exact ⟨rfl, 0, Nat.zero_le _, hide rfl, rfl⟩
  case round =>
    obtain ⟨rfl, i, hi, HS, rfl⟩ := hrel
    by_cases h : i < n
    . have hd : decide ((i : Int) < (n : Int)) = true := decide_eq_true (by omega)
      obtain ⟨z, hz⟩ : ∃ z, l[i]? = some z := ⟨_, List.getElem?_eq_getElem (by rw [HL.out]; exact h)⟩
      have hz64 := HX.out z (List.mem_of_getElem? hz)
      obtain ⟨j, rfl⟩ : ∃ j : Nat, z = (j : Int) := ⟨z.toNat, by omega⟩
      obtain ⟨g', off', rfl, hc⟩ := ns_cell HN.out hz
      have hlt' := World.block_lt_of_cell? _ _ hc
      have hb := HR.out.cell j (by omega)
      have hlt := HR.out.lt
      have HZ := hide hz
      clear hz
      cases hM : M (j : Int)
      . rw [hM] at hb
        have HS' : Hid ((l.take (i + 1)).any M = false) := hide (by rw [List.take_add_one, HZ.out, List.any_append, HS.out]; simp [hM])
        go_wp2_with fail
        exact ⟨⟨trivial, i + 1, by omega, HS', by go_num⟩, by simp [intOf]; omega⟩
      . rw [hM] at hb
        have HF : Hid (l.any M = true) := hide (List.any_eq_true.2 ⟨_, List.mem_of_getElem? HZ.out, hM⟩)
        go_wp2_with fail
        go_ret
        rw [HF.out]
        exact ⟨rfl, rfl⟩
    . obtain rfl : n = i := by omega
      have hd : decide ((n : Int) < (n : Int)) = false := decide_eq_false (by omega)
      have HF : Hid (l.any M = false) := hide (by have := HS.out; rw [← HL.out, List.take_length] at this; exact this)
      go_wp2_with fail
      go_ret
      rw [HF.out]
      exact ⟨rfl, rfl⟩
def NsF (w : World) (ao : Option Addr) (l : List Int) (m : Nat) : Prop := l = [] ∨ ∃ g off, ao = some ⟨g, off, none⟩ /\ g ≠ m /\ ∀ (j : Nat) z, l[j]? = some z -> w.cell? ⟨g, off + j, none⟩ = some (.int .i64 z)
theorem NsF.ns {w : World} {ao : Option Addr} {l : List Int} {m : Nat} (h : NsF w ao l m) : Ns w ao l := by
  rcases h with h | ⟨g, off, e, -, h⟩
  . exact .inl h
  . exact .inr ⟨g, off, e, h⟩
theorem Ns.apart {w : World} {ao : Option Addr} {l : List Int} {m : Nat} (h : Ns w ao l) (hm : ∀ g off, ao = some ⟨g, off, none⟩ -> l ≠ [] -> g ≠ m) : NsF w ao l m := by
  by_cases hl : l = []
  . exact .inl hl
  . rcases h with h | ⟨g, off, e, h⟩
    . exact absurd h hl
    . exact .inr ⟨g, off, e, hm g off e hl, h⟩
theorem NsF.set {w : World} {ao : Option Addr} {l : List Int} {m : Nat} (h : NsF w ao l m) (i : Nat) (v : Value) : NsF (w.setCell ⟨m, i, none⟩ v) ao l m := by
  rcases h with h | ⟨g, off, e, hg, h⟩
  . exact .inl h
  . refine .inr ⟨g, off, e, hg, fun j z hz => ?_⟩
    rw [World.cell?_of_block (w := w) (Below.heap_setCell _ _ _ _ hg)]
    exact h j z hz
theorem NsF.below {w w' : World} {ao : Option Addr} {l : List Int} {m : Nat} (h : NsF w ao l m) (hb : Below w.heap.size w w') : NsF w' ao l m := by
  by_cases hl : l = []
  . exact .inl hl
  . rcases h with h | ⟨g, off, e, hg, h⟩
    . exact absurd h hl
    . exact .inr ⟨g, off, e, hg, fun j z hz => (hb.cell (p := ⟨g, off + j, none⟩) (World.block_lt_of_cell? _ _ (h j z hz))).trans (h j z hz)⟩
theorem own_ns {w : World} {B g c n : Nat} {l : List Int} (h : w.ownsRow B 3 1 (.slice (some ⟨g, 0, none⟩) n c) n (l.map (Value.int .i64))) : Ns w (some ⟨g, 0, none⟩) l /\ B <= g /\ n <= c := by
  have hl : n = l.length := by have := h.1; simp at this; omega
  subst hl
  have hR : RowO w B (.slice (some ⟨g, 0, none⟩) l.length c) l := ⟨_, _, rfl, h⟩
  obtain ⟨aq, cq, e, hle, hn⟩ := hR.isI.ns
  simp only [Value.slice.injEq] at e
  obtain ⟨rfl, -, rfl⟩ := e
  exact ⟨hn, (hR.lt rfl).1, hle⟩
theorem wrapI (x : Int) (h0 : -1000000000 <= x) (h1 : x <= 1000000000) : IntKind.i64.wrap x = x := by
  rw [IntKind.wrap_i64]; omega
def WPost (w : World) (o : COp) (aq : Option Addr) (e : Ending) (w' : World) : Prop := ∃ ao c, e = .returned (.slice ao (wr o).length c) /\ (wr o).length <= c /\ (∀ m, m < w.heap.size -> (∀ g off, aq = some ⟨g, off, none⟩ -> o.qs ≠ [] -> g ≠ m) -> NsF w' ao (wr o) m) /\ Below w.heap.size w w'
theorem step_app1 {ops : Array Oper} {o : Oper} {a : Act} {K : Act -> World -> Prop} {Q : Exit -> Act -> World -> Prop} {E : Prop} {w : World} (hgd : o.guard = none) (s x : Operand)
    (ho : o.op = .call { callee := .builtin .append, args := #[s, x], argTypes := #[25, 25] }) {B n c : Nat} {ao : Option Addr} {l : List Int} (hR : w.ownsRow B 3 1 (.slice ao n c) n (l.map (Value.int .i64))) (hB : B <= w.heap.size) (H : Nat) (z : Int) (hz : w.cell? ⟨H, 0, none⟩ = some (.int .i64 z)) (hn : n <= 1000000000) (hs : a.eval s = .slice ao n c) (hx : a.eval x = .slice (some ⟨H, 0, none⟩) 1 1)
    (h : ∀ g cap w', w'.ownsRow B 3 1 (.slice (some ⟨g, 0, none⟩) (n + 1) cap) (n + 1) ((l ++ [z]).map (Value.int .i64)) -> w.grownBy w' (ob ao) -> (ob ao = some g ∨ w.heap.size <= g) -> K (a.put o.dst (.slice (some ⟨g, 0, none⟩) (n + 1) cap)) w') :
    if Region.wanted o (yielded ops a.tmps) = true then Oper.wp Tryd.prog o a w K Q else E := by
  obtain ⟨i0, hi, hz0, hz1, hz2⟩ := info_parts Gt.infoI
  refine step_append_lies _ hgd s x 25 ho B 3 i0 _ 1 8 Tryd.underlying25 hi hz0 hz1 hz2 rfl (by decide) _ n _ hs hR ⟨H, 0, none⟩ 1 1 [.int .i64 z] hx rfl (fun j u hu => by
    cases j with
    | zero => simp at hu; subst hu; rw [Addr.add_lit]; exact hz
    | succ j => simp at hu) (by simp [Value.oneCell']) (by decide) (by unfold maxLen; omega) (by omega) hB _ rfl ?_
  intro g cap w' ho' hg hat _
  rw [ob_eq] at hg hat
  refine h g cap w' (by rw [List.map_append]; exact ho') hg ?_
  rcases hat with e | e
  . exact .inl e
  . right; omega
theorem lWires (g off : Nat) (o : COp) (aq : Option Addr) (cq : Nat) (hW : Wk o) (w : World) (h : Oc w g off o aq cq) : Calls Tryd.prog 50 #[.pointer (some ⟨g, off, none⟩)] w (WPost w o aq) := by
  have hk := h.kind
  have h2 := h.qs
  have h3 := h.bit
  have h4 := h.cond
  have hlt := World.block_lt_of_cell? _ _ hk
  have HN := hide h.ns
  have hr := h.room
  have hlen := hW.len
  have hbit : o.kind = 2 -> 0 <= o.bit /\ o.bit < 64 := fun e => ⟨(hW.m e).1, (hW.m e).2.1⟩
  have hcond := hW.c
  have HOC : Hid (∀ V, Below w.heap.size w V -> V.cell? ⟨g, off, none⟩ = some (.int .i64 o.kind) /\ V.cell? ⟨g, off + 1, none⟩ = some (.int .i64 o.gate) /\ V.cell? ⟨g, off + 2, none⟩ = some (.slice aq o.qs.length cq) /\ V.cell? ⟨g, off + 3, none⟩ = some (.int .i64 o.bit) /\ V.cell? ⟨g, off + 4, none⟩ = some (.int .i64 o.cond) /\ V.cell? ⟨g, off + 5, none⟩ = some (.int .i64 o.whn) /\ g < V.heap.size) := hide (fun V hb => by
    have h' := h.below hb
    exact ⟨h'.kind, h'.gate, h'.qs, h'.bit, h'.cond, h'.whn, World.block_lt_of_cell? _ _ h'.kind⟩)
  have c4 := fun V (hb : Below w.heap.size w V) => sCloneO aq cq o.qs (by omega) V (h.ns.below hb)
  clear h hW
  by_cases e2 : o.kind = 2
  . have hb := hbit e2
    have HWR : Hid (wr o = o.qs ++ [64 + o.bit]) := hide (by unfold wr; rw [if_pos e2])
    have HWL : Hid ((wr o).length = o.qs.length + 1) := hide (by rw [HWR.out]; simp)
    obtain ⟨kind, gate, qs, bit, cond, whn⟩ := o
    simp only at *
    subst e2
    generalize qs.length = m at *
    clear hcond hbit h4
    have hwr : IntKind.i64.wrap (64 + bit) = 64 + bit := wrapI _ (by omega) (by omega)
    go_enter Tryd.func50, Tryd.ntmps50
    go_wp2_with fail
    refine wp_region_held_drew (S := (fun V : World => Below w.heap.size w V)) (by kernel_rfl) (Below.refl w.heap.size w).drew (fun hHeld => ?_)
    refine take_to (i := 0) (d := 9) (v := ?_) rfl rfl (by kernel_rfl) (by kernel_rfl) (by kernel_rfl) (fun _ _ _ h => h) (Or.inl ⟨by rfl, ?_⟩) (by assumption) ?_
    rotate_left 1
    . intro W hSw
      obtain ⟨s0, s1, s2, s3, s4, s5, hlt⟩ := HOC.out W hSw
      go_simp
      with_reducible rfl
    simp only [Act.put, List.setIfInBounds_toArray, List.set_cons_zero, List.set_cons_succ]
    refine take_to (i := 1) (d := 10) (v := ?_) rfl rfl (by kernel_rfl) (by kernel_rfl) (by kernel_rfl) (fun _ _ _ h => h) (Or.inl ⟨by rfl, ?_⟩) (by assumption) ?_
    rotate_left 1
    . intro W hSw
      obtain ⟨s0, s1, s2, s3, s4, s5, hlt⟩ := HOC.out W hSw
      go_simp
      with_reducible rfl
    simp only [Act.put, List.setIfInBounds_toArray, List.set_cons_zero, List.set_cons_succ]
    refine take_to (i := 2) (d := 11) (v := ?_) rfl rfl (by kernel_rfl) (by kernel_rfl) (by kernel_rfl) (fun _ _ _ h => h) (Or.inl ⟨by rfl, ?_⟩) (by assumption) ?_
    rotate_left 1
    . intro W hSw
      obtain ⟨s0, s1, s2, s3, s4, s5, hlt⟩ := HOC.out W hSw
      go_simp
      with_reducible rfl
    simp only [Act.put, List.setIfInBounds_toArray, List.set_cons_zero, List.set_cons_succ]
    refine take_to (i := 3) (d := 12) (v := ?_) rfl rfl (by kernel_rfl) (by kernel_rfl) (by kernel_rfl) (fun _ _ _ h => h) (Or.inl ⟨by rfl, ?_⟩) (by assumption) ?_
    rotate_left 1
    . intro W hSw
      obtain ⟨s0, s1, s2, s3, s4, s5, hlt⟩ := HOC.out W hSw
      go_simp
      with_reducible rfl
    simp only [Act.put, List.setIfInBounds_toArray, List.set_cons_zero, List.set_cons_succ]
    refine take_to (i := 5) (d := 14) (v := ?_) rfl rfl (by kernel_rfl) (by kernel_rfl) (by kernel_rfl) (fun _ _ _ h => h) (Or.inl ⟨by rfl, ?_⟩) (by assumption) ?_
    rotate_left 1
    . intro W hSw
      obtain ⟨s0, s1, s2, s3, s4, s5, hlt⟩ := HOC.out W hSw
      go_simp
      with_reducible rfl
    simp only [Act.put, List.setIfInBounds_toArray, List.set_cons_zero, List.set_cons_succ]
    refine take_to (i := 6) (d := 15) (v := ?_) rfl rfl (by kernel_rfl) (by kernel_rfl) (by kernel_rfl) (fun _ _ _ h => h) (Or.inl ⟨by rfl, ?_⟩) (by assumption) ?_
    rotate_left 1
    . intro W hSw
      obtain ⟨s0, s1, s2, s3, s4, s5, hlt⟩ := HOC.out W hSw
      go_simp
      with_reducible rfl
    simp only [Act.put, List.setIfInBounds_toArray, List.set_cons_zero, List.set_cons_succ]
    refine take_to (i := 7) (d := 16) (v := ?_) rfl rfl (by kernel_rfl) (by kernel_rfl) (by kernel_rfl) (fun _ _ _ h => h) (Or.inl ⟨by rfl, ?_⟩) (by assumption) ?_
    rotate_left 1
    . intro W hSw
      obtain ⟨s0, s1, s2, s3, s4, s5, hlt⟩ := HOC.out W hSw
      go_simp
      with_reducible rfl
    simp only [Act.put, List.setIfInBounds_toArray, List.set_cons_zero, List.set_cons_succ]
    refine take_to (i := 8) (d := 17) (v := ?_) rfl rfl (by kernel_rfl) (by kernel_rfl) (by kernel_rfl) (fun _ _ _ h => h) (Or.inl ⟨by rfl, ?_⟩) (by assumption) ?_
    rotate_left 1
    . intro W hSw
      obtain ⟨s0, s1, s2, s3, s4, s5, hlt⟩ := HOC.out W hSw
      go_simp
      with_reducible rfl
    simp only [Act.put, List.setIfInBounds_toArray, List.set_cons_zero, List.set_cons_succ]
    refine take_to (i := 9) (d := 18) (v := ?_) rfl rfl (by kernel_rfl) (by kernel_rfl) (by kernel_rfl) (fun _ _ _ h => h) (Or.inl ⟨by rfl, ?_⟩) (by assumption) ?_
    rotate_left 1
    . intro W hSw
      obtain ⟨s0, s1, s2, s3, s4, s5, hlt⟩ := HOC.out W hSw
      go_simp
      with_reducible rfl
    simp only [Act.put, List.setIfInBounds_toArray, List.set_cons_zero, List.set_cons_succ]
    refine wpAnyH_ready (rs := [4, 10]) (by kernel_rfl) (by simp) ?_
    refine AllReadyH.cons (o := { dst := some 13, op := Op.call { callee := Callee.value (Operand.func 72), args := #[Operand.tmp 12], argTypes := #[25] }, type := 25, pos := "wires.go:19", after := #[{ on := 3, ground := Ground.data }], guard := none }) rfl (fun K hK => ?_) (AllReadyH.cons (o := { dst := some 19, op := Op.buildSlice 25 1 #[(0, Operand.tmp 18)], type := 25, pos := "wires.go:19", after := #[{ on := 9, ground := Ground.data }], guard := none }) rfl (fun K hK => ?_) AllReadyH.nil)
    . go_simp
      go_at_call 72
      refine (c4 _ hHeld).mono ?_
      rintro e w1 ⟨a1, c1, rfl, hR, hb⟩
      have hb' := Below.trans hHeld (hb.mono hHeld.size)
      have HR := hide (hR.base hHeld.size)
      go_wp2_with fail
      refine hK.out _ _ (show Below w.heap.size w w1 from hb') (fun hHeld => ?_)
      clear hK K hb' hR hb
      try simp only [Act.put, List.setIfInBounds_toArray, List.set_cons_zero, List.set_cons_succ]
      refine wpAnyH_ready (rs := [10]) (by kernel_rfl) (by simp) ?_
      refine AllReadyH.cons (o := { dst := some 19, op := Op.buildSlice 25 1 #[(0, Operand.tmp 18)], type := 25, pos := "wires.go:19", after := #[{ on := 9, ground := Ground.data }], guard := none }) rfl (fun K hK => ?_) AllReadyH.nil
      go_simp
      refine hK.out _ _ (show Below w.heap.size w _ from (hHeld.alloc hHeld.size (.cells #[.int .i64 (64 + bit)] 3))) (fun hHeld => ?_)
      clear hK K
      replace HR := hide (HR.out.below (bnew w1 (.cells #[.int .i64 (64 + bit)] 3)))
      have HX : Hid ((w1.alloc (.cells #[.int .i64 (64 + bit)] 3)).cell? ⟨w1.heap.size, 0, none⟩ = some (.int .i64 (64 + bit))) := hide (cell_of_row _ _ _ _ _ _ (heap_alloc_new w1 _))
      try simp only [Act.put, List.setIfInBounds_toArray, List.set_cons_zero, List.set_cons_succ]
      refine wpAnyH_ready (rs := [11]) (by kernel_rfl) (by simp) ?_
      refine AllReadyH.cons (o := { dst := some 20, op := Op.call { callee := Callee.builtin Builtin.append, args := #[Operand.tmp 13, Operand.tmp 19], argTypes := #[25, 25] }, type := 25, pos := "wires.go:19", after := #[{ on := 4, ground := Ground.data }, { on := 10, ground := Ground.data }, { on := 4, ground := Ground.chain }], guard := none }) rfl (fun K hK => ?_) AllReadyH.nil
      obtain ⟨a2, c2, e2, hO⟩ := HR.out
      simp only [Value.slice.injEq] at e2
      obtain ⟨rfl, e3, rfl⟩ := e2
      rw [← e3] at hO
      clear e3
      refine step_app1 rfl (.tmp 13) (.tmp 19) rfl hO hHeld.size w1.heap.size (64 + bit) HX.out (by omega) (by rfl) (by rfl) ?_
      intro g6 c6 w6 hown hgr _
      have hb6 : Below w.heap.size w w6 := hHeld.grown hgr hHeld.size (fun x hx => (own_lt hO x hx).1)
      have HO6 := hide hown
      refine hK.out _ _ (show Below w.heap.size w w6 from hb6) (fun hHeld => ?_)
      clear hK K
      try simp only [Act.put, List.setIfInBounds_toArray, List.set_cons_zero, List.set_cons_succ]
      refine take_to (i := 12) (d := 2) (v := ?_) rfl rfl (by kernel_rfl) (by kernel_rfl) (by kernel_rfl) (fun _ _ _ h => h) (Or.inl ⟨by rfl, ?_⟩) (by assumption) ?_
      rotate_left 1
      . intro W hSw
        obtain ⟨s0, s1, s2, s3, s4, s5, hlt⟩ := HOC.out W hSw
        go_simp
        with_reducible rfl
      simp only [Act.put, List.setIfInBounds_toArray, List.set_cons_zero, List.set_cons_succ]
      refine wpAnyH_done (by kernel_rfl) ?_ _
      go_wp2_with fail
      go_ret
      obtain ⟨n1, n2, n3⟩ := own_ns HO6.out
      exact ⟨some ⟨g6, 0, none⟩, c6, by rw [HWL.out]; rfl, by rw [HWL.out]; exact n3, fun M hM _ => by rw [HWR.out]; exact Ns.apart n1 (fun g off e _ => by simp only [Option.some.injEq, Addr.mk.injEq] at e; omega), hb6⟩
    . go_simp
      refine hK.out _ _ (show Below w.heap.size w _ from (hHeld.alloc hHeld.size (.cells #[.int .i64 (64 + bit)] 3))) (fun hHeld => ?_)
      clear hK K
      have HX0 : Hid ((w.drew.alloc (.cells #[.int .i64 (64 + bit)] 3)).cell? ⟨w.heap.size, 0, none⟩ = some (.int .i64 (64 + bit))) := hide (cell_of_row _ _ _ _ _ _ (heap_alloc_new w.drew _))
      try simp only [Act.put, List.setIfInBounds_toArray, List.set_cons_zero, List.set_cons_succ]
      refine wpAnyH_ready (rs := [4]) (by kernel_rfl) (by simp) ?_
      refine AllReadyH.cons (o := { dst := some 13, op := Op.call { callee := Callee.value (Operand.func 72), args := #[Operand.tmp 12], argTypes := #[25] }, type := 25, pos := "wires.go:19", after := #[{ on := 3, ground := Ground.data }], guard := none }) rfl (fun K hK => ?_) AllReadyH.nil
      go_simp
      go_at_call 72
      refine (c4 _ hHeld).mono ?_
      rintro e w1 ⟨a1, c1, rfl, hR, hb⟩
      have hb' := Below.trans hHeld (hb.mono hHeld.size)
      have HR := hide (hR.base hHeld.size)
      have HX := hide ((hb.cell (p := ⟨w.heap.size, 0, none⟩) (World.block_lt_of_cell? _ _ HX0.out)).trans HX0.out)
      go_wp2_with fail
      refine hK.out _ _ (show Below w.heap.size w w1 from hb') (fun hHeld => ?_)
      clear hK K hb' hR hb
      try simp only [Act.put, List.setIfInBounds_toArray, List.set_cons_zero, List.set_cons_succ]
      refine wpAnyH_ready (rs := [11]) (by kernel_rfl) (by simp) ?_
      refine AllReadyH.cons (o := { dst := some 20, op := Op.call { callee := Callee.builtin Builtin.append, args := #[Operand.tmp 13, Operand.tmp 19], argTypes := #[25, 25] }, type := 25, pos := "wires.go:19", after := #[{ on := 4, ground := Ground.data }, { on := 10, ground := Ground.data }, { on := 4, ground := Ground.chain }], guard := none }) rfl (fun K hK => ?_) AllReadyH.nil
      obtain ⟨a2, c2, e2, hO⟩ := HR.out
      simp only [Value.slice.injEq] at e2
      obtain ⟨rfl, e3, rfl⟩ := e2
      rw [← e3] at hO
      clear e3
      refine step_app1 rfl (.tmp 13) (.tmp 19) rfl hO hHeld.size w.heap.size (64 + bit) HX.out (by omega) (by rfl) (by rfl) ?_
      intro g6 c6 w6 hown hgr _
      have hb6 : Below w.heap.size w w6 := hHeld.grown hgr hHeld.size (fun x hx => (own_lt hO x hx).1)
      have HO6 := hide hown
      refine hK.out _ _ (show Below w.heap.size w w6 from hb6) (fun hHeld => ?_)
      clear hK K
      try simp only [Act.put, List.setIfInBounds_toArray, List.set_cons_zero, List.set_cons_succ]
      refine take_to (i := 12) (d := 2) (v := ?_) rfl rfl (by kernel_rfl) (by kernel_rfl) (by kernel_rfl) (fun _ _ _ h => h) (Or.inl ⟨by rfl, ?_⟩) (by assumption) ?_
      rotate_left 1
      . intro W hSw
        obtain ⟨s0, s1, s2, s3, s4, s5, hlt⟩ := HOC.out W hSw
        go_simp
        with_reducible rfl
      simp only [Act.put, List.setIfInBounds_toArray, List.set_cons_zero, List.set_cons_succ]
      refine wpAnyH_done (by kernel_rfl) ?_ _
      go_wp2_with fail
      go_ret
      obtain ⟨n1, n2, n3⟩ := own_ns HO6.out
      exact ⟨some ⟨g6, 0, none⟩, c6, by rw [HWL.out]; rfl, by rw [HWL.out]; exact n3, fun M hM _ => by rw [HWR.out]; exact Ns.apart n1 (fun g off e _ => by simp only [Option.some.injEq, Addr.mk.injEq] at e; omega), hb6⟩
  . by_cases e3 : o.cond = -1
    . have HWR : Hid (wr o = o.qs) := hide (by unfold wr; rw [if_neg e2, if_neg (by simp [e3])])
      have HWL : Hid ((wr o).length = o.qs.length) := hide (by rw [HWR.out])
      obtain ⟨kind, gate, qs, bit, cond, whn⟩ := o
      simp only at *
      subst e3
      generalize qs.length = m at *
      have d1 : (kind == 2) = false := by simpa using e2
      clear hcond hbit
      go_enter Tryd.func50, Tryd.ntmps50
      go_wp2_with fail
      go_ret
      exact ⟨aq, cq, by rw [HWL.out]; rfl, by rw [HWL.out]; exact hr, fun M hM hA => by rw [HWR.out]; exact Ns.apart HN.out hA, Below.refl _ _⟩
    . have hb := hcond e3
      have HWR : Hid (wr o = o.qs ++ [64 + o.cond]) := hide (by unfold wr; rw [if_neg e2, if_pos e3])
      have HWL : Hid ((wr o).length = o.qs.length + 1) := hide (by rw [HWR.out]; simp)
      obtain ⟨kind, gate, qs, bit, cond, whn⟩ := o
      simp only at *
      generalize qs.length = m at *
      have d1 : (kind == 2) = false := by simpa using e2
      have d2 : (cond == -1) = false := by simpa using e3
      clear hcond hbit
      have hwr : IntKind.i64.wrap (64 + cond) = 64 + cond := wrapI _ (by omega) (by omega)
      go_enter Tryd.func50, Tryd.ntmps50
      go_wp2_with fail
      refine wp_region_held_drew (S := (fun V : World => Below w.heap.size w V)) (by kernel_rfl) (Below.refl w.heap.size w).drew (fun hHeld => ?_)
      refine take_to (i := 0) (d := 27) (v := ?_) rfl rfl (by kernel_rfl) (by kernel_rfl) (by kernel_rfl) (fun _ _ _ h => h) (Or.inl ⟨by rfl, ?_⟩) (by assumption) ?_
      rotate_left 1
      . intro W hSw
        obtain ⟨s0, s1, s2, s3, s4, s5, hlt⟩ := HOC.out W hSw
        go_simp
        with_reducible rfl
      simp only [Act.put, List.setIfInBounds_toArray, List.set_cons_zero, List.set_cons_succ]
      refine take_to (i := 1) (d := 28) (v := ?_) rfl rfl (by kernel_rfl) (by kernel_rfl) (by kernel_rfl) (fun _ _ _ h => h) (Or.inl ⟨by rfl, ?_⟩) (by assumption) ?_
      rotate_left 1
      . intro W hSw
        obtain ⟨s0, s1, s2, s3, s4, s5, hlt⟩ := HOC.out W hSw
        go_simp
        with_reducible rfl
      simp only [Act.put, List.setIfInBounds_toArray, List.set_cons_zero, List.set_cons_succ]
      refine take_to (i := 2) (d := 29) (v := ?_) rfl rfl (by kernel_rfl) (by kernel_rfl) (by kernel_rfl) (fun _ _ _ h => h) (Or.inl ⟨by rfl, ?_⟩) (by assumption) ?_
      rotate_left 1
      . intro W hSw
        obtain ⟨s0, s1, s2, s3, s4, s5, hlt⟩ := HOC.out W hSw
        go_simp
        with_reducible rfl
      simp only [Act.put, List.setIfInBounds_toArray, List.set_cons_zero, List.set_cons_succ]
      refine take_to (i := 3) (d := 30) (v := ?_) rfl rfl (by kernel_rfl) (by kernel_rfl) (by kernel_rfl) (fun _ _ _ h => h) (Or.inl ⟨by rfl, ?_⟩) (by assumption) ?_
      rotate_left 1
      . intro W hSw
        obtain ⟨s0, s1, s2, s3, s4, s5, hlt⟩ := HOC.out W hSw
        go_simp
        with_reducible rfl
      simp only [Act.put, List.setIfInBounds_toArray, List.set_cons_zero, List.set_cons_succ]
      refine take_to (i := 5) (d := 32) (v := ?_) rfl rfl (by kernel_rfl) (by kernel_rfl) (by kernel_rfl) (fun _ _ _ h => h) (Or.inl ⟨by rfl, ?_⟩) (by assumption) ?_
      rotate_left 1
      . intro W hSw
        obtain ⟨s0, s1, s2, s3, s4, s5, hlt⟩ := HOC.out W hSw
        go_simp
        with_reducible rfl
      simp only [Act.put, List.setIfInBounds_toArray, List.set_cons_zero, List.set_cons_succ]
      refine take_to (i := 6) (d := 33) (v := ?_) rfl rfl (by kernel_rfl) (by kernel_rfl) (by kernel_rfl) (fun _ _ _ h => h) (Or.inl ⟨by rfl, ?_⟩) (by assumption) ?_
      rotate_left 1
      . intro W hSw
        obtain ⟨s0, s1, s2, s3, s4, s5, hlt⟩ := HOC.out W hSw
        go_simp
        with_reducible rfl
      simp only [Act.put, List.setIfInBounds_toArray, List.set_cons_zero, List.set_cons_succ]
      refine take_to (i := 7) (d := 34) (v := ?_) rfl rfl (by kernel_rfl) (by kernel_rfl) (by kernel_rfl) (fun _ _ _ h => h) (Or.inl ⟨by rfl, ?_⟩) (by assumption) ?_
      rotate_left 1
      . intro W hSw
        obtain ⟨s0, s1, s2, s3, s4, s5, hlt⟩ := HOC.out W hSw
        go_simp
        with_reducible rfl
      simp only [Act.put, List.setIfInBounds_toArray, List.set_cons_zero, List.set_cons_succ]
      refine take_to (i := 8) (d := 35) (v := ?_) rfl rfl (by kernel_rfl) (by kernel_rfl) (by kernel_rfl) (fun _ _ _ h => h) (Or.inl ⟨by rfl, ?_⟩) (by assumption) ?_
      rotate_left 1
      . intro W hSw
        obtain ⟨s0, s1, s2, s3, s4, s5, hlt⟩ := HOC.out W hSw
        go_simp
        with_reducible rfl
      simp only [Act.put, List.setIfInBounds_toArray, List.set_cons_zero, List.set_cons_succ]
      refine take_to (i := 9) (d := 36) (v := ?_) rfl rfl (by kernel_rfl) (by kernel_rfl) (by kernel_rfl) (fun _ _ _ h => h) (Or.inl ⟨by rfl, ?_⟩) (by assumption) ?_
      rotate_left 1
      . intro W hSw
        obtain ⟨s0, s1, s2, s3, s4, s5, hlt⟩ := HOC.out W hSw
        go_simp
        with_reducible rfl
      simp only [Act.put, List.setIfInBounds_toArray, List.set_cons_zero, List.set_cons_succ]
      refine wpAnyH_ready (rs := [4, 10]) (by kernel_rfl) (by simp) ?_
      refine AllReadyH.cons (o := { dst := some 31, op := Op.call { callee := Callee.value (Operand.func 72), args := #[Operand.tmp 30], argTypes := #[25] }, type := 25, pos := "wires.go:21", after := #[{ on := 3, ground := Ground.data }], guard := none }) rfl (fun K hK => ?_) (AllReadyH.cons (o := { dst := some 37, op := Op.buildSlice 25 1 #[(0, Operand.tmp 36)], type := 25, pos := "wires.go:21", after := #[{ on := 9, ground := Ground.data }], guard := none }) rfl (fun K hK => ?_) AllReadyH.nil)
      . go_simp
        go_at_call 72
        refine (c4 _ hHeld).mono ?_
        rintro e w1 ⟨a1, c1, rfl, hR, hb⟩
        have hb' := Below.trans hHeld (hb.mono hHeld.size)
        have HR := hide (hR.base hHeld.size)
        go_wp2_with fail
        refine hK.out _ _ (show Below w.heap.size w w1 from hb') (fun hHeld => ?_)
        clear hK K hb' hR hb
        try simp only [Act.put, List.setIfInBounds_toArray, List.set_cons_zero, List.set_cons_succ]
        refine wpAnyH_ready (rs := [10]) (by kernel_rfl) (by simp) ?_
        refine AllReadyH.cons (o := { dst := some 37, op := Op.buildSlice 25 1 #[(0, Operand.tmp 36)], type := 25, pos := "wires.go:21", after := #[{ on := 9, ground := Ground.data }], guard := none }) rfl (fun K hK => ?_) AllReadyH.nil
        go_simp
        refine hK.out _ _ (show Below w.heap.size w _ from (hHeld.alloc hHeld.size (.cells #[.int .i64 (64 + cond)] 3))) (fun hHeld => ?_)
        clear hK K
        replace HR := hide (HR.out.below (bnew w1 (.cells #[.int .i64 (64 + cond)] 3)))
        have HX : Hid ((w1.alloc (.cells #[.int .i64 (64 + cond)] 3)).cell? ⟨w1.heap.size, 0, none⟩ = some (.int .i64 (64 + cond))) := hide (cell_of_row _ _ _ _ _ _ (heap_alloc_new w1 _))
        try simp only [Act.put, List.setIfInBounds_toArray, List.set_cons_zero, List.set_cons_succ]
        refine wpAnyH_ready (rs := [11]) (by kernel_rfl) (by simp) ?_
        refine AllReadyH.cons (o := { dst := some 38, op := Op.call { callee := Callee.builtin Builtin.append, args := #[Operand.tmp 31, Operand.tmp 37], argTypes := #[25, 25] }, type := 25, pos := "wires.go:21", after := #[{ on := 4, ground := Ground.data }, { on := 10, ground := Ground.data }, { on := 4, ground := Ground.chain }], guard := none }) rfl (fun K hK => ?_) AllReadyH.nil
        obtain ⟨a2, c2, e2, hO⟩ := HR.out
        simp only [Value.slice.injEq] at e2
        obtain ⟨rfl, e3, rfl⟩ := e2
        rw [← e3] at hO
        clear e3
        refine step_app1 rfl (.tmp 31) (.tmp 37) rfl hO hHeld.size w1.heap.size (64 + cond) HX.out (by omega) (by rfl) (by rfl) ?_
        intro g6 c6 w6 hown hgr _
        have hb6 : Below w.heap.size w w6 := hHeld.grown hgr hHeld.size (fun x hx => (own_lt hO x hx).1)
        have HO6 := hide hown
        refine hK.out _ _ (show Below w.heap.size w w6 from hb6) (fun hHeld => ?_)
        clear hK K
        try simp only [Act.put, List.setIfInBounds_toArray, List.set_cons_zero, List.set_cons_succ]
        refine take_to (i := 12) (d := 2) (v := ?_) rfl rfl (by kernel_rfl) (by kernel_rfl) (by kernel_rfl) (fun _ _ _ h => h) (Or.inl ⟨by rfl, ?_⟩) (by assumption) ?_
        rotate_left 1
        . intro W hSw
          obtain ⟨s0, s1, s2, s3, s4, s5, hlt⟩ := HOC.out W hSw
          go_simp
          with_reducible rfl
        simp only [Act.put, List.setIfInBounds_toArray, List.set_cons_zero, List.set_cons_succ]
        refine wpAnyH_done (by kernel_rfl) ?_ _
        go_wp2_with fail
        go_ret
        obtain ⟨n1, n2, n3⟩ := own_ns HO6.out
        exact ⟨some ⟨g6, 0, none⟩, c6, by rw [HWL.out]; rfl, by rw [HWL.out]; exact n3, fun M hM _ => by rw [HWR.out]; exact Ns.apart n1 (fun g off e _ => by simp only [Option.some.injEq, Addr.mk.injEq] at e; omega), hb6⟩
      . go_simp
        refine hK.out _ _ (show Below w.heap.size w _ from (hHeld.alloc hHeld.size (.cells #[.int .i64 (64 + cond)] 3))) (fun hHeld => ?_)
        clear hK K
        have HX0 : Hid ((w.drew.alloc (.cells #[.int .i64 (64 + cond)] 3)).cell? ⟨w.heap.size, 0, none⟩ = some (.int .i64 (64 + cond))) := hide (cell_of_row _ _ _ _ _ _ (heap_alloc_new w.drew _))
        try simp only [Act.put, List.setIfInBounds_toArray, List.set_cons_zero, List.set_cons_succ]
        refine wpAnyH_ready (rs := [4]) (by kernel_rfl) (by simp) ?_
        refine AllReadyH.cons (o := { dst := some 31, op := Op.call { callee := Callee.value (Operand.func 72), args := #[Operand.tmp 30], argTypes := #[25] }, type := 25, pos := "wires.go:21", after := #[{ on := 3, ground := Ground.data }], guard := none }) rfl (fun K hK => ?_) AllReadyH.nil
        go_simp
        go_at_call 72
        refine (c4 _ hHeld).mono ?_
        rintro e w1 ⟨a1, c1, rfl, hR, hb⟩
        have hb' := Below.trans hHeld (hb.mono hHeld.size)
        have HR := hide (hR.base hHeld.size)
        have HX := hide ((hb.cell (p := ⟨w.heap.size, 0, none⟩) (World.block_lt_of_cell? _ _ HX0.out)).trans HX0.out)
        go_wp2_with fail
        refine hK.out _ _ (show Below w.heap.size w w1 from hb') (fun hHeld => ?_)
        clear hK K hb' hR hb
        try simp only [Act.put, List.setIfInBounds_toArray, List.set_cons_zero, List.set_cons_succ]
        refine wpAnyH_ready (rs := [11]) (by kernel_rfl) (by simp) ?_
        refine AllReadyH.cons (o := { dst := some 38, op := Op.call { callee := Callee.builtin Builtin.append, args := #[Operand.tmp 31, Operand.tmp 37], argTypes := #[25, 25] }, type := 25, pos := "wires.go:21", after := #[{ on := 4, ground := Ground.data }, { on := 10, ground := Ground.data }, { on := 4, ground := Ground.chain }], guard := none }) rfl (fun K hK => ?_) AllReadyH.nil
        obtain ⟨a2, c2, e2, hO⟩ := HR.out
        simp only [Value.slice.injEq] at e2
        obtain ⟨rfl, e3, rfl⟩ := e2
        rw [← e3] at hO
        clear e3
        refine step_app1 rfl (.tmp 31) (.tmp 37) rfl hO hHeld.size w.heap.size (64 + cond) HX.out (by omega) (by rfl) (by rfl) ?_
        intro g6 c6 w6 hown hgr _
        have hb6 : Below w.heap.size w w6 := hHeld.grown hgr hHeld.size (fun x hx => (own_lt hO x hx).1)
        have HO6 := hide hown
        refine hK.out _ _ (show Below w.heap.size w w6 from hb6) (fun hHeld => ?_)
        clear hK K
        try simp only [Act.put, List.setIfInBounds_toArray, List.set_cons_zero, List.set_cons_succ]
        refine take_to (i := 12) (d := 2) (v := ?_) rfl rfl (by kernel_rfl) (by kernel_rfl) (by kernel_rfl) (fun _ _ _ h => h) (Or.inl ⟨by rfl, ?_⟩) (by assumption) ?_
        rotate_left 1
        . intro W hSw
          obtain ⟨s0, s1, s2, s3, s4, s5, hlt⟩ := HOC.out W hSw
          go_simp
          with_reducible rfl
        simp only [Act.put, List.setIfInBounds_toArray, List.set_cons_zero, List.set_cons_succ]
        refine wpAnyH_done (by kernel_rfl) ?_ _
        go_wp2_with fail
        go_ret
        obtain ⟨n1, n2, n3⟩ := own_ns HO6.out
        exact ⟨some ⟨g6, 0, none⟩, c6, by rw [HWL.out]; rfl, by rw [HWL.out]; exact n3, fun M hM _ => by rw [HWR.out]; exact Ns.apart n1 (fun g off e _ => by simp only [Option.some.injEq, Addr.mk.injEq] at e; omega), hb6⟩
end Go.Proofs.YthndpbjplcphpaaDoor.Lay
