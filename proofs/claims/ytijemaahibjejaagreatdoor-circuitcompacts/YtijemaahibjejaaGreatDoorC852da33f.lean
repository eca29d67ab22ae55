import Derived.Test.YtijemaahibjejaaGreatDoorCdbd2819e
import Derived.Shelf.Sort.Plain
import Derived.Shelf.Slices.In.SortNone
import Derived.Shelf.Slices.CompactI
import Derived.Sort.OwnSortedInts
set_option maxRecDepth 100000
set_option maxHeartbeats 4000000
namespace Go.Proofs.YtijemaahibjejaaGreatDoor.Cir
open Go.RowKit Go.Shelf Go.Proofs.YtijemaahibjejaaGreatDoor.Oct Go.Proofs.YtijemaahibjejaaGreatDoor.Tok Go.Proofs.YtijemaahibjejaaGreatDoor.Gt
theorem srt_ext : ∀ (a b : List Int), a.Pairwise (· < ·) -> b.Pairwise (· < ·) -> (∀ x, x ∈ a ↔ x ∈ b) -> a = b
  | [], [], _, _, _ => rfl
  | [], y :: b, _, _, h => by have := (h y).2 (by simp); cases this
  | x :: a, [], _, _, h => by have := (h x).1 (by simp); cases this
  | x :: a, y :: b, ha, hb, h => by
    rw [List.pairwise_cons] at ha hb
    have e : x = y := by
      rcases List.mem_cons.1 ((h x).1 (by simp)) with e | e
      . exact e
      . rcases List.mem_cons.1 ((h y).2 (by simp)) with e2 | e2
        . exact e2.symm
        . have h1 := hb.1 x e
          have h2 := ha.1 y e2
          omega
    subst e
    congr 1
    refine srt_ext a b ha.2 hb.2 fun z => ⟨fun hz => ?_, fun hz => ?_⟩
    . rcases List.mem_cons.1 ((h z).1 (by simp [hz])) with e | e
      . have := ha.1 z hz
        omega
      . exact e
    . rcases List.mem_cons.1 ((h z).2 (by simp [hz])) with e | e
      . have := hb.1 z hz
        omega
      . exact e
def rise (l : List Int) : List Int := Lib.compact (l.mergeSort fun x y => decide (x <= y))
theorem comp_inv (d : Array Int) (hs : ∀ i j, i <= j -> j < d.size -> d[i]! <= d[j]!) : ∀ m, m <= d.size -> (Lib.compactUpTo d m).Pairwise (· < ·) /\ ∀ x, x ∈ Lib.compactUpTo d m ↔ ∃ j, j < m /\ d[j]! = x
  | 0, _ => ⟨List.Pairwise.nil, fun x => ⟨fun h => (by cases h), fun ⟨j, h, _⟩ => absurd h (Nat.not_lt_zero _)⟩⟩
  | m + 1, hm => by
    obtain ⟨h1, h2⟩ := comp_inv d hs m (by omega)
    rw [Lib.compactUpTo_succ]
    by_cases hk : Lib.keeps d m = true
    . rw [if_pos hk]
      constructor
      . rw [List.pairwise_append]
        refine ⟨h1, List.pairwise_singleton _ _, fun a ha b hb => ?_⟩
        rw [List.mem_singleton] at hb
        subst hb
        obtain ⟨j, hj, rfl⟩ := (h2 a).1 ha
        have e1 := hs j (m - 1) (by omega) (by omega)
        have e2 := hs (m - 1) m (by omega) (by omega)
        have e3 : d[m]! ≠ d[m - 1]! := by
          unfold Lib.keeps at hk
          have := of_decide_eq_true hk
          rcases this with h | h
          . omega
          . exact h
        omega
      . intro x
        rw [List.mem_append, h2, List.mem_singleton]
        constructor
        . rintro (⟨j, hj, e⟩ | e)
          . exact ⟨j, by omega, e⟩
          . exact ⟨m, by omega, e.symm⟩
        . rintro ⟨j, hj, e⟩
          by_cases hjm : j = m
          . subst hjm
            exact .inr e.symm
          . exact .inl ⟨j, by omega, e⟩
    . have hk' : Lib.keeps d m = false := by simpa using hk
      rw [if_neg hk, List.append_nil]
      refine ⟨h1, fun x => ?_⟩
      rw [h2]
      have hz : m ≠ 0 /\ d[m]! = d[m - 1]! := by
        unfold Lib.keeps at hk'
        have := of_decide_eq_false hk'
        refine ⟨fun e => this (.inl e), ?_⟩
        by_cases e : d[m]! = d[m - 1]!
        . exact e
        . exact absurd (.inr e) this
      constructor
      . rintro ⟨j, hj, e⟩
        exact ⟨j, by omega, e⟩
      . rintro ⟨j, hj, e⟩
        by_cases hjm : j = m
        . subst hjm
          exact ⟨j - 1, by omega, by rw [← hz.2]; exact e⟩
        . exact ⟨j, by omega, e⟩
theorem rise_all (l : List Int) : (rise l).Pairwise (· < ·) /\ ∀ x, x ∈ rise l ↔ x ∈ l := by
  have hs := List.pairwise_mergeSort (le := fun x y : Int => decide (x <= y)) (by intro a b c; simp only [decide_eq_true_eq]; omega) (by intro a b; simp only [Bool.or_eq_true, decide_eq_true_eq]; omega) l
  unfold rise
  have hm : ∀ x, x ∈ l.mergeSort (fun x y => decide (x <= y)) ↔ x ∈ l := fun x => List.mem_mergeSort
  generalize l.mergeSort (fun x y => decide (x <= y)) = s at *
  have hg : ∀ j, j < s.length -> s.toArray[j]! = s.getD j 0 := fun j hj => by simp [List.getD, hj]
  have key : ∀ i j, i <= j -> j < s.toArray.size -> s.toArray[i]! <= s.toArray[j]! := fun i j hij hj => by
    have hj' : j < s.length := by simpa using hj
    rw [hg i (by omega), hg j hj']
    by_cases e : i = j
    . subst e; exact Int.le_refl _
    . rw [List.pairwise_iff_getElem] at hs
      have := hs i j (by omega) hj' (by omega)
      simpa [List.getD, List.getElem?_eq_getElem hj', List.getElem?_eq_getElem (show i < s.length by omega)] using this
  obtain ⟨h1, h2⟩ := comp_inv s.toArray key s.length (by simp)
  refine ⟨h1, fun x => ?_⟩
  rw [← hm x]
  refine (h2 x).trans ⟨?_, fun hx => ?_⟩
  . rintro ⟨j, hj, rfl⟩
    rw [hg j hj]
    simp [List.getD, List.getElem?_eq_getElem hj]
  . obtain ⟨j, hj, rfl⟩ := List.getElem_of_mem hx
    exact ⟨j, hj, by rw [hg j hj]; simp [List.getD, List.getElem?_eq_getElem hj]⟩
def ixI (l : List Int) (x : Int) : Int := ixV (ixP l x)
theorem idx_mem (x : Int) : ∀ (l : List Int), x ∈ l -> ∃ k : Nat, l[k]? = some x /\ ixP l x = some k
  | [], h => by cases h
  | z :: l, h => by
    rw [ixP]
    by_cases e : x = z
    . rw [if_pos e]
      exact ⟨0, by rw [e]; rfl, rfl⟩
    . obtain ⟨k, h1, h2⟩ := idx_mem x l (by
        rcases List.mem_cons.1 h with h | h
        . exact absurd h e
        . exact h)
      refine ⟨k + 1, by simpa using h1, ?_⟩
      rw [if_neg e, h2]
      rfl
theorem ix_mem {x : Int} {l : List Int} (h : x ∈ l) : ∃ k : Nat, l[k]? = some x /\ ixI l x = (k : Int) := by
  obtain ⟨k, h1, h2⟩ := idx_mem x l h
  exact ⟨k, h1, by unfold ixI; rw [h2]; rfl⟩
theorem ix_at {x : Int} {l : List Int} (hs : l.Pairwise (· < ·)) {k : Nat} (h : l[k]? = some x) : ixI l x = (k : Int) := by
  obtain ⟨j, h1, h2⟩ := ix_mem (List.mem_of_getElem? h)
  obtain ⟨a1, a2⟩ := List.getElem?_eq_some_iff.1 h
  obtain ⟨b1, b2⟩ := List.getElem?_eq_some_iff.1 h1
  rw [h2]
  rw [List.pairwise_iff_getElem] at hs
  rcases Nat.lt_trichotomy j k with c | c | c
  . have := hs j k b1 a1 c
    omega
  . rw [c]
  . have := hs k j a1 b1 c
    omega
theorem ix_inj {x y : Int} {l : List Int} (hx : x ∈ l) (hy : y ∈ l) (h : ixI l x = ixI l y) : x = y := by
  obtain ⟨j, h1, h2⟩ := ix_mem hx
  obtain ⟨k, h3, h4⟩ := ix_mem hy
  have : j = k := by omega
  subst this
  rw [h1] at h3
  exact Option.some.inj h3
theorem ix_rng {x : Int} {l : List Int} (hx : x ∈ l) : 0 <= ixI l x /\ ixI l x < (l.length : Int) := by
  obtain ⟨j, h1, h2⟩ := ix_mem hx
  have := (List.getElem?_eq_some_iff.1 h1).1
  omega
def flN (U : List Int) (n : Nat) : List Int := ((List.range n).filter fun k : Nat => decide ((k : Int) ∈ U)).map fun k : Nat => (k : Int)
theorem flN_yes (U : List Int) (n : Nat) (h : (n : Int) ∈ U) : flN U (n + 1) = flN U n ++ [(n : Int)] := by
  unfold flN
  rw [List.range_succ, List.filter_append, List.map_append]
  simp [h]
theorem flN_no (U : List Int) (n : Nat) (h : (n : Int) ∉ U) : flN U (n + 1) = flN U n := by
  unfold flN
  rw [List.range_succ, List.filter_append, List.map_append]
  simp [h]
theorem flN_len (U : List Int) : ∀ n, (flN U n).length <= n
  | 0 => Nat.le_refl _
  | n + 1 => by
    have := flN_len U n
    by_cases h : (n : Int) ∈ U
    . rw [flN_yes U n h, List.length_append]
      simp
      omega
    . rw [flN_no U n h]
      omega
theorem flN_mem (U : List Int) (n : Nat) (x : Int) : x ∈ flN U n ↔ x ∈ U /\ 0 <= x /\ x < (n : Int) := by
  unfold flN
  rw [List.mem_map]
  constructor
  . rintro ⟨k, hk, rfl⟩
    rw [List.mem_filter, List.mem_range, decide_eq_true_eq] at hk
    exact ⟨hk.2, by omega, by omega⟩
  . rintro ⟨h1, h2, h3⟩
    have e : ((x.toNat : Nat) : Int) = x := by omega
    refine ⟨x.toNat, ?_, e⟩
    rw [List.mem_filter, List.mem_range, decide_eq_true_eq, e]
    exact ⟨by omega, h1⟩
theorem flN_srt (U : List Int) : ∀ n, (flN U n).Pairwise (· < ·)
  | 0 => List.Pairwise.nil
  | n + 1 => by
    by_cases h : (n : Int) ∈ U
    . rw [flN_yes U n h, List.pairwise_append]
      refine ⟨flN_srt U n, List.pairwise_singleton _ _, fun a ha b hb => ?_⟩
      rw [List.mem_singleton] at hb
      subst hb
      exact ((flN_mem U n a).1 ha).2.2
    . rw [flN_no U n h]
      exact flN_srt U n
theorem rise_flN (U : List Int) (n : Nat) (h : ∀ x ∈ U, 0 <= x /\ x < (n : Int)) : rise U = flN U n := by
  obtain ⟨h1, h2⟩ := rise_all U
  refine srt_ext _ _ h1 (flN_srt U n) fun x => ?_
  rw [h2, flN_mem]
  exact ⟨fun hx => ⟨hx, h x hx⟩, fun hx => hx.1⟩
theorem flN_pre (U : List Int) (m : Nat) : ∀ n, m <= n -> ∃ r, flN U n = flN U m ++ r
  | 0, h => by
    have : m = 0 := by omega
    subst this
    exact ⟨[], rfl⟩
  | n + 1, h => by
    by_cases e : m = n + 1
    . subst e
      exact ⟨[], by simp⟩
    . obtain ⟨r, hr⟩ := flN_pre U m n (by omega)
      by_cases hn : (n : Int) ∈ U
      . exact ⟨r ++ [(n : Int)], by rw [flN_yes U n hn, hr, List.append_assoc]⟩
      . exact ⟨r, by rw [flN_no U n hn, hr]⟩
theorem flN_at (U : List Int) (n j : Nat) (hj : j < n) (h : (j : Int) ∈ U) : (flN U n)[(flN U j).length]? = some (j : Int) := by
  obtain ⟨r, hr⟩ := flN_pre U (j + 1) n (by omega)
  rw [hr, flN_yes U j h, List.append_assoc, List.getElem?_append_right (Nat.le_refl _), Nat.sub_self]
  rfl
def nwN (U : List Int) (n k : Nat) : List Int := (List.range n).map fun j => if j < k /\ (j : Int) ∈ U then ((flN U j).length : Int) else 0
theorem nwN_len (U : List Int) (n k : Nat) : (nwN U n k).length = n := by simp [nwN]
theorem nwN_zero (U : List Int) (n : Nat) : nwN U n 0 = List.replicate n 0 := by
  apply List.ext_getElem?
  intro j
  unfold nwN
  by_cases h : j < n <;> simp [h]
theorem nwN_yes (U : List Int) (n k : Nat) (hk : k < n) (h : (k : Int) ∈ U) : (nwN U n k).set k ((flN U k).length : Int) = nwN U n (k + 1) := by
  apply List.ext_getElem?
  intro j
  rw [List.getElem?_set, nwN_len]
  by_cases e : k = j
  . subst e
    simp [nwN, hk, h]
  . rw [if_neg e]
    unfold nwN
    rw [List.getElem?_map, List.getElem?_map]
    by_cases hj : j < n
    . rw [List.getElem?_eq_getElem (by simpa using hj)]
      simp only [List.getElem_range, Option.map_some]
      have : (j < k /\ (j : Int) ∈ U) ↔ (j < k + 1 /\ (j : Int) ∈ U) := ⟨fun h => ⟨by omega, h.2⟩, fun h => ⟨by omega, h.2⟩⟩
      simp only [this]
    . rw [List.getElem?_eq_none (by simpa using hj)]
      rfl
theorem nwN_no (U : List Int) (n k : Nat) (h : (k : Int) ∉ U) : nwN U n (k + 1) = nwN U n k := by
  unfold nwN
  apply List.map_congr_left
  intro j _
  have : (j < k /\ (j : Int) ∈ U) ↔ (j < k + 1 /\ (j : Int) ∈ U) := ⟨fun h => ⟨by omega, h.2⟩, fun h' => ⟨by
    by_cases e : j = k
    . subst e; exact absurd h'.2 h
    . omega, h'.2⟩⟩
  simp only [this]
theorem nwN_at (U : List Int) (n : Nat) (x : Int) (hx : x ∈ U) (h0 : 0 <= x) (h1 : x < (n : Int)) : (nwN U n n)[x.toNat]? = some (ixI (flN U n) x) := by
  have e : ((x.toNat : Nat) : Int) = x := by omega
  have hU : ((x.toNat : Nat) : Int) ∈ U := by rw [e]; exact hx
  have hl : x.toNat < n := by omega
  have hi := ix_at (flN_srt U n) (flN_at U n x.toNat hl hU)
  rw [e] at hi
  rw [hi]
  unfold nwN
  rw [List.getElem?_map, List.getElem?_range hl, Option.map_some, if_pos ⟨hl, hU⟩]
theorem lk_ix {x : Int} {l : List Int} (hx : x ∈ l) : lk l (ixI l x) = x := by
  obtain ⟨j, h1, h2⟩ := ix_mem hx
  rw [h2]
  unfold lk
  simp [List.getD, h1]
def bO (o : COp) : List Int := (if o.kind = 2 then [o.bit] else []) ++ (if o.cond ≠ -1 then [o.cond] else [])
def usQ (ops : List COp) : List Int := ops.flatMap (·.qs)
def usB (ops : List COp) : List Int := ops.flatMap bO
def cmpO (c : Circ) : Circ := ⟨((rise (usQ c.ops)).length : Int), ((rise (usB c.ops)).length : Int), c.ops.map (reO (ixI (rise (usQ c.ops))) (ixI (rise (usB c.ops))))⟩
theorem usQ_mem {ops : List COp} {o : COp} (ho : o ∈ ops) {z : Int} (hz : z ∈ o.qs) : z ∈ rise (usQ ops) := ((rise_all _).2 z).2 (List.mem_flatMap.2 ⟨o, ho, hz⟩)
theorem usB_bit {ops : List COp} {o : COp} (ho : o ∈ ops) (h : o.kind = 2) : o.bit ∈ rise (usB ops) := ((rise_all _).2 _).2 (List.mem_flatMap.2 ⟨o, ho, by simp [bO, h]⟩)
theorem usB_cond {ops : List COp} {o : COp} (ho : o ∈ ops) (h : o.cond ≠ -1) : o.cond ∈ rise (usB ops) := ((rise_all _).2 _).2 (List.mem_flatMap.2 ⟨o, ho, by simp [bO, h]⟩)
theorem usQ_rng {c : Circ} (hk : (chkC c).2 = 0) : ∀ x ∈ usQ c.ops, 0 <= x /\ x < c.q := fun x hx => by
  obtain ⟨o, ho, hz⟩ := List.mem_flatMap.1 hx
  exact (may_rng ((chkC_ok hk).2.2.2.2.2 o ho)).1 x hz
theorem usB_rng {c : Circ} (hk : (chkC c).2 = 0) : ∀ x ∈ usB c.ops, 0 <= x /\ x < c.b := fun x hx => by
  obtain ⟨o, ho, hz⟩ := List.mem_flatMap.1 hx
  have hr := may_rng ((chkC_ok hk).2.2.2.2.2 o ho)
  unfold bO at hz
  rw [List.mem_append] at hz
  rcases hz with hz | hz
  . split at hz
    . rename_i h
      rw [List.mem_singleton] at hz
      subst hz
      exact hr.2.1 h
    . cases hz
  . split at hz
    . rename_i h
      rw [List.mem_singleton] at hz
      subst hz
      exact hr.2.2 h
    . cases hz
theorem cmp_q {c : Circ} (hk : (chkC c).2 = 0) : rise (usQ c.ops) = flN (usQ c.ops) c.q.toNat := rise_flN _ _ fun x hx => by
  have := usQ_rng hk x hx
  have := (chkC_ok hk).1
  omega
theorem cmp_b {c : Circ} (hk : (chkC c).2 = 0) : rise (usB c.ops) = flN (usB c.ops) c.b.toNat := rise_flN _ _ fun x hx => by
  have := usB_rng hk x hx
  have := (chkC_ok hk).2.2.1
  omega
theorem apG_of (l : List Int) : ∀ m i, (∀ j, i <= j -> j < i + m -> 0 <= l.getD j 0 /\ l.getD j 0 ∉ l.take j) -> apG l m i = true
  | 0, _, _ => rfl
  | m + 1, i, h => by
    unfold apG
    have h0 := h i (Nat.le_refl _) (by omega)
    rw [Bool.and_eq_true, Bool.and_eq_true, decide_eq_true_eq]
    refine ⟨⟨h0.1, by simpa using h0.2⟩, apG_of l m (i + 1) fun j h1 h2 => h j (by omega) (by omega)⟩
theorem mxG_lt (l : List Int) (n : Int) : ∀ m, (∀ j, j <= m -> l.getD j 0 < n) -> mxG l m < n
  | 0, h => h 0 (Nat.le_refl _)
  | m + 1, h => by
    unfold mxG
    split
    . exact h (m + 1) (Nat.le_refl _)
    . exact mxG_lt l n m fun j hj => h j (by omega)
theorem nodup_map {l : List Int} {f : Int -> Int} (h : l.Nodup) (hf : ∀ x ∈ l, ∀ y ∈ l, f x = f y -> x = y) : (l.map f).Nodup := by
  rw [List.nodup_iff_pairwise_ne] at h ⊢
  rw [List.pairwise_map]
  exact h.imp_of_mem fun ha hb hab e => hab (hf _ ha _ hb e)
theorem apG_nod (l : List Int) (h : apG l l.length 0 = true) : l.Nodup := by
  have key : ∀ m i, apG l m i = true -> ∀ j, i <= j -> j < i + m -> l.getD j 0 ∉ l.take j := by
    intro m
    induction m with
    | zero => intro i _ j h1 h2; omega
    | succ m ih =>
      intro i hm j h1 h2
      unfold apG at hm
      rw [Bool.and_eq_true, Bool.and_eq_true] at hm
      by_cases e : i = j
      . subst e
        simpa using hm.1.2
      . exact ih (i + 1) hm.2 j (by omega) (by omega)
  rw [List.nodup_iff_pairwise_ne, List.pairwise_iff_getElem]
  intro i j hi hj hij e
  refine key l.length 0 h j (by omega) (by omega) ?_
  have e2 : l.getD j 0 = l[j] := by simp [List.getD, List.getElem?_eq_getElem hj]
  rw [e2, ← e]
  exact List.mem_take_iff_getElem.2 ⟨i, by omega, rfl⟩
theorem chk_map (k : Int) (l : List Int) (n n' : Int) (f : Int -> Int) (h : chkP k l n = 0) (hf : ∀ x ∈ l, ∀ y ∈ l, f x = f y -> x = y) (hr : ∀ x ∈ l, 0 <= f x /\ f x < n') : chkP k (l.map f) n' = 0 := by
  unfold chkP at h ⊢
  split at h
  . cases h
  . rename_i hk
    rw [if_neg hk]
    split at h
    . cases h
    . rename_i ha
      have ha' : apP (rw' k).q l = true := by simpa using ha
      unfold apP at ha'
      rw [Bool.and_eq_true, decide_eq_true_eq] at ha'
      have hkn : 0 < (rw' k).q := by
        have : knB (rw' k) = true := by simpa using hk
        unfold knB at this
        exact of_decide_eq_true this
      have hlen : 0 < l.length := by omega
      have hg : ∀ j, j < l.length -> ∃ x ∈ l, (l.map f).getD j 0 = f x := fun j hj => ⟨l[j], List.getElem_mem hj, by simp [List.getD, List.getElem?_eq_getElem hj]⟩
      have hnd := nodup_map (apG_nod l ha'.2) hf
      have hap : apP (rw' k).q (l.map f) = true := by
        unfold apP
        rw [Bool.and_eq_true, decide_eq_true_eq, List.length_map]
        refine ⟨ha'.1, apG_of _ _ _ fun j _ hj => ?_⟩
        have hj' : j < l.length := by omega
        obtain ⟨x, hx, e⟩ := hg j hj'
        refine ⟨by rw [e]; exact (hr x hx).1, fun hm => ?_⟩
        obtain ⟨i, hi, e2⟩ := List.mem_take_iff_getElem.1 hm
        have hlm : j < (l.map f).length := by simpa using hj'
        have e3 : (l.map f).getD j 0 = (l.map f)[j] := by simp [List.getD, List.getElem?_eq_getElem hj']
        rw [List.nodup_iff_pairwise_ne, List.pairwise_iff_getElem] at hnd
        exact hnd i j (by omega) hlm (by omega) (by rw [e2, e3])
      rw [if_neg (by simp [hap]), List.length_map, if_neg]
      have := mxG_lt (l.map f) n' (l.length - 1) fun j hj => by
        obtain ⟨x, hx, e⟩ := hg j (by omega)
        rw [e]
        exact (hr x hx).2
      omega
theorem apa_map {l : List Int} {n n' : Int} {f : Int -> Int} (h : apaP l n = true) (hf : ∀ x ∈ l, ∀ y ∈ l, f x = f y -> x = y) (hr : ∀ x ∈ l, 0 <= f x /\ f x < n') : apaP (l.map f) n' = true := by
  unfold apaP at h ⊢
  rw [Bool.and_eq_true, decide_eq_true_eq, List.all_eq_true] at h ⊢
  refine ⟨nodup_map h.1 hf, fun x hx => ?_⟩
  obtain ⟨y, hy, rfl⟩ := List.mem_map.1 hx
  have := hr y hy
  unfold wiP
  rw [Bool.and_eq_true, decide_eq_true_eq, decide_eq_true_eq]
  exact this
theorem may_map {q b q' b' : Int} {o : COp} {fq fb : Int -> Int} (h : mayP q b o = true) (hf : ∀ x ∈ o.qs, ∀ y ∈ o.qs, fq x = fq y -> x = y) (hr : ∀ x ∈ o.qs, 0 <= fq x /\ fq x < q') (hb : o.kind = 2 -> 0 <= fb o.bit /\ fb o.bit < b') (hc : o.cond ≠ -1 -> 0 <= fb o.cond /\ fb o.cond < b') : mayP q' b' (reO fq fb o) = true := by
  have hng : noGP o = true -> noGP (reO fq fb o) = true := fun h => by
    unfold noGP freeP at h ⊢
    simp only [Bool.and_eq_true, decide_eq_true_eq] at h ⊢
    simp [reO, h]
  unfold mayP at h ⊢
  have ek : (reO fq fb o).kind = o.kind := rfl
  have eg : (reO fq fb o).gate = o.gate := rfl
  have eq' : (reO fq fb o).qs = o.qs.map fq := rfl
  have eb : o.kind ≠ 2 -> (reO fq fb o).bit = o.bit := fun h => by simp [reO, h]
  rw [ek, eg, eq', List.length_map]
  by_cases h1 : o.kind = 1
  . rw [if_pos h1] at h ⊢
    rw [eb (by omega)]
    simp only [Bool.and_eq_true, decide_eq_true_eq, Bool.or_eq_true] at h ⊢
    refine ⟨⟨chk_map _ _ q q' fq h.1.1 hf hr, h.1.2⟩, ?_⟩
    rcases h.2 with h3 | h3
    . left
      unfold freeP at h3 ⊢
      simp only [Bool.and_eq_true, decide_eq_true_eq] at h3 ⊢
      simp [reO, h3]
    . right
      unfold askP wiP at h3 ⊢
      simp only [Bool.and_eq_true, decide_eq_true_eq] at h3 ⊢
      have hcn : o.cond ≠ -1 := by omega
      have := hc hcn
      refine ⟨?_, h3.2⟩
      simp only [reO, if_pos hcn]
      exact this
  . rw [if_neg h1] at h ⊢
    by_cases h2 : o.kind = 2
    . rw [if_pos h2] at h ⊢
      simp only [Bool.and_eq_true, decide_eq_true_eq] at h ⊢
      refine ⟨⟨⟨hng h.1.1.1, h.1.1.2⟩, apa_map h.1.2 hf hr⟩, ?_⟩
      unfold wiP
      simp only [Bool.and_eq_true, decide_eq_true_eq, reO, if_pos h2]
      exact hb h2
    . rw [if_neg h2] at h ⊢
      rw [eb h2]
      by_cases h3 : o.kind = 3
      . rw [if_pos h3] at h ⊢
        simp only [Bool.and_eq_true, decide_eq_true_eq] at h ⊢
        exact ⟨⟨⟨hng h.1.1.1, h.1.1.2⟩, apa_map h.1.2 hf hr⟩, h.2⟩
      . rw [if_neg h3] at h ⊢
        by_cases h4 : o.kind = 4
        . rw [if_pos h4] at h ⊢
          simp only [Bool.and_eq_true, decide_eq_true_eq] at h ⊢
          exact ⟨⟨⟨hng h.1.1.1, h.1.1.2⟩, apa_map h.1.2 hf hr⟩, h.2⟩
        . rw [if_neg h4] at h
          cases h
theorem cmp_chk {c : Circ} (hk : (chkC c).2 = 0) : (chkC (cmpO c)).2 = 0 := by
  obtain ⟨h1, h2, h3, h4, h5, h6⟩ := chkC_ok hk
  have lq : ((rise (usQ c.ops)).length : Int) <= 64 := by
    rw [cmp_q hk]
    have := flN_len (usQ c.ops) c.q.toNat
    omega
  have lb : ((rise (usB c.ops)).length : Int) <= 64 := by
    rw [cmp_b hk]
    have := flN_len (usB c.ops) c.b.toNat
    omega
  have hc : cntP (cmpO c).q (cmpO c).b = true := by
    show (wiP ((rise (usQ c.ops)).length : Int) 65 && wiP ((rise (usB c.ops)).length : Int) 65) = true
    unfold wiP
    simp only [Bool.and_eq_true, decide_eq_true_eq]
    omega
  have hl : ¬ 4096 < (cmpO c).ops.length := by
    simp only [cmpO, List.length_map]
    omega
  unfold chkC
  rw [hc, decide_eq_false hl]
  simp only [Bool.not_true, Bool.or_false, Bool.false_eq_true, if_false]
  rw [badI_none]
  intro o ho
  obtain ⟨x, hx, rfl⟩ := List.mem_map.1 ho
  refine may_map (h6 x hx) (fun a ha b hb e => ix_inj (usQ_mem hx ha) (usQ_mem hx hb) e) (fun a ha => ix_rng (usQ_mem hx ha)) (fun h => ix_rng (usB_bit hx h)) (fun h => ix_rng (usB_cond hx h))
theorem rise_apa {U : List Int} {n : Int} (h : ∀ x ∈ U, 0 <= x /\ x < n) : apaP (rise U) n = true := by
  unfold apaP
  rw [Bool.and_eq_true, decide_eq_true_eq, List.all_eq_true]
  refine ⟨?_, fun x hx => ?_⟩
  . rw [List.nodup_iff_pairwise_ne]
    exact (rise_all U).1.imp fun h => by omega
  . have := h x (((rise_all U).2 x).1 hx)
    unfold wiP
    simp only [Bool.and_eq_true, decide_eq_true_eq]
    exact this
theorem cmp_back {c : Circ} (hk : (chkC c).2 = 0) : embP (cmpO c) (rise (usQ c.ops)) (rise (usB c.ops)) c.q c.b = (c, 0) := by
  obtain ⟨h1, h2, h3, h4, h5, h6⟩ := chkC_ok hk
  unfold embP
  rw [if_neg (by rw [cmp_chk hk]; simp), if_pos]
  . congr 1
    obtain ⟨q, b, ops⟩ := c
    simp only [cmpO, List.map_map, Circ.mk.injEq, true_and]
    have key : ∀ o ∈ ops, (reO (lk (rise (usQ ops))) (lk (rise (usB ops))) ∘ reO (ixI (rise (usQ ops))) (ixI (rise (usB ops)))) o = o := fun o ho => by
      obtain ⟨kd, gt, qs, bt, cd, wn⟩ := o
      simp only [Function.comp, reO, List.map_map, COp.mk.injEq, true_and, and_true]
      refine ⟨?_, ?_, ?_⟩
      . conv => rhs; rw [← List.map_id qs]
        apply List.map_congr_left
        intro z hz
        exact lk_ix (usQ_mem ho hz)
      . by_cases e : kd = 2
        . rw [if_pos e, if_pos e]
          exact lk_ix (usB_bit ho e)
        . rw [if_neg e, if_neg e]
      . by_cases e : cd ≠ -1
        . have hr := ix_rng (usB_cond ho e)
          simp only at hr
          rw [if_pos e, if_pos (by omega)]
          exact lk_ix (usB_cond ho e)
        . rw [if_neg e, if_neg e]
    conv => rhs; rw [← List.map_id ops]
    exact List.map_congr_left key
  . refine ⟨rfl, rfl, ?_, rise_apa (usQ_rng hk), rise_apa (usB_rng hk)⟩
    unfold cntP wiP
    simp only [Bool.and_eq_true, decide_eq_true_eq]
    omega
def cmpP (c : Circ) : Circ × List Int × List Int × Int := if (chkC c).2 ≠ 0 then (nulC, [], [], 80) else (cmpO c, rise (usQ c.ops), rise (usB c.ops), 0)
end Go.Proofs.YtijemaahibjejaaGreatDoor.Cir
namespace Go.Proofs
open Go.Shelf
def Tryz.laysSort_ren : Go.Shelf.Ren := ⟨fun | 189 => 61 | 125 => 88 | 257 => 87 | 128 => 126 | 129 => 127 | 294 => 117 | 295 => 118 | 296 => 119 | 297 => 120 | 298 => 121 | 299 => 122 | 216 => 123 | 300 => 124 | 301 => 125 | 328 => 156 | 329 => 157 | 330 => 158 | 331 => 159 | 332 => 160 | 215 => 161 | 343 => 184 | n => n, fun | 28 => 26 | 3 => 3 | 46 => 146 | 0 => 0 | 51 => 184 | 53 => 186 | 4 => 4 | 183 => 177 | 182 => 176 | 131 => 181 | 5 => 5 | 9 => 9 | 218 => 229 | 222 => 233 | 228 => 256 | 229 => 69 | n => n, fun | n => n⟩
theorem Tryz.laysSort : Go.Proofs.Lays.n189 Tryz.prog Tryz.laysSort_ren := {
  mixed := by kernel_rfl
  f125 := Tryz.func88.trans (congrArg some (by kernel_rfl))
  f128 := Tryz.func126.trans (congrArg some (by kernel_rfl))
  f129 := Tryz.func127.trans (congrArg some (by kernel_rfl))
  f189 := Tryz.func61.trans (congrArg some (by kernel_rfl))
  f215 := Tryz.func161.trans (congrArg some (by kernel_rfl))
  f216 := Tryz.func123.trans (congrArg some (by kernel_rfl))
  f257 := Tryz.func87.trans (congrArg some (by kernel_rfl))
  f294 := Tryz.func117.trans (congrArg some (by kernel_rfl))
  f295 := Tryz.func118.trans (congrArg some (by kernel_rfl))
  f296 := Tryz.func119.trans (congrArg some (by kernel_rfl))
  f297 := Tryz.func120.trans (congrArg some (by kernel_rfl))
  f298 := Tryz.func121.trans (congrArg some (by kernel_rfl))
  f299 := Tryz.func122.trans (congrArg some (by kernel_rfl))
  f300 := Tryz.func124.trans (congrArg some (by kernel_rfl))
  f301 := Tryz.func125.trans (congrArg some (by kernel_rfl))
  f328 := Tryz.func156.trans (congrArg some (by kernel_rfl))
  f329 := Tryz.func157.trans (congrArg some (by kernel_rfl))
  f330 := Tryz.func158.trans (congrArg some (by kernel_rfl))
  f331 := Tryz.func159.trans (congrArg some (by kernel_rfl))
  f332 := Tryz.func160.trans (congrArg some (by kernel_rfl))
  f343 := Tryz.func184.trans (congrArg some (by kernel_rfl))
  t0 := Tryz.underlying0
  a0 := Tryz.isAgg0
  z0 := Tryz.sizeOf0
  v0 := Tryz.zeroValue0
  t3 := Tryz.underlying3
  a3 := Tryz.isAgg3
  z3 := Tryz.sizeOf3
  v3 := Tryz.zeroValue3
  t4 := Tryz.underlying4
  a4 := Tryz.isAgg4
  z4 := Tryz.sizeOf4
  v4 := Tryz.zeroValue4
  t5 := Tryz.underlying5
  a5 := Tryz.isAgg5
  z5 := Tryz.sizeOf5
  v5 := Tryz.zeroValue5
  t9 := Tryz.underlying9
  a9 := Tryz.isAgg9
  z9 := Tryz.sizeOf9
  v9 := Tryz.zeroValue9
  t28 := Tryz.underlying26
  a28 := Tryz.isAgg26
  z28 := Tryz.sizeOf26
  v28 := Tryz.zeroValue26
  t46 := Tryz.underlying146
  a46 := Tryz.isAgg146
  z46 := Tryz.sizeOf146
  v46 := Tryz.zeroValue146
  t51 := Tryz.underlying184
  a51 := Tryz.isAgg184
  z51 := Tryz.sizeOf184
  v51 := Tryz.zeroValue184
  t53 := Tryz.underlying186
  a53 := Tryz.isAgg186
  z53 := Tryz.sizeOf186
  v53 := Tryz.zeroValue186
  t131 := Tryz.underlying181
  a131 := Tryz.isAgg181
  z131 := Tryz.sizeOf181
  v131 := Tryz.zeroValue181
  t182 := Tryz.underlying176
  a182 := Tryz.isAgg176
  z182 := Tryz.sizeOf176
  v182 := Tryz.zeroValue176
  t183 := Tryz.underlying177
  a183 := Tryz.isAgg177
  z183 := Tryz.sizeOf177
  v183 := Tryz.zeroValue177
  t218 := Tryz.underlying229
  a218 := Tryz.isAgg229
  z218 := Tryz.sizeOf229
  v218 := Tryz.zeroValue229
  t222 := Tryz.underlying233
  a222 := Tryz.isAgg233
  z222 := Tryz.sizeOf233
  v222 := Tryz.zeroValue233
  t228 := Tryz.underlying256
  a228 := Tryz.isAgg256
  z228 := Tryz.sizeOf256
  v228 := Tryz.zeroValue256
  t229 := Tryz.underlying69
  a229 := Tryz.isAgg69
  z229 := Tryz.sizeOf69
  v229 := Tryz.zeroValue69 }
def Tryz.laysCompact_ren : Go.Shelf.Ren := ⟨fun | 20 => 62 | n => n, fun | 22 => 26 | 3 => 3 | 4 => 4 | 0 => 0 | n => n, fun | n => n⟩
theorem Tryz.laysCompact : Go.Proofs.Lays2.n20 Tryz.prog Tryz.laysCompact_ren := {
  mixed := by kernel_rfl
  f20 := Tryz.func62.trans (congrArg some (by kernel_rfl))
  t0 := Tryz.underlying0
  a0 := Tryz.isAgg0
  z0 := Tryz.sizeOf0
  v0 := Tryz.zeroValue0
  t3 := Tryz.underlying3
  a3 := Tryz.isAgg3
  z3 := Tryz.sizeOf3
  v3 := Tryz.zeroValue3
  t4 := Tryz.underlying4
  a4 := Tryz.isAgg4
  z4 := Tryz.sizeOf4
  v4 := Tryz.zeroValue4
  t22 := Tryz.underlying26
  a22 := Tryz.isAgg26
  z22 := Tryz.sizeOf26
  v22 := Tryz.zeroValue26
  i3 := by kernel_rfl }
end Go.Proofs
namespace Go.Proofs.YtijemaahibjejaaGreatDoor.Cir
open Go.RowKit Go.Shelf Go.Proofs.YtijemaahibjejaaGreatDoor.Oct Go.Proofs.YtijemaahibjejaaGreatDoor.Tok Go.Proofs.YtijemaahibjejaaGreatDoor.Gt
abbrev OwnI (w : World) (B : Nat) (ao : Option Addr) (c : Nat) (l : List Int) : Prop := w.ownsRow B 3 1 (.slice ao l.length c) l.length (l.map (Value.int .i64))
theorem cSortO (B : Nat) (ao : Option Addr) (c : Nat) (l : List Int) (hl : l.length <= 1000000000000000) (w : World) (h : OwnI w B ao c l) : Calls Tryz.prog 61 #[.slice ao l.length c] w fun e w' => e = .returned (.tuple #[]) /\ OwnI w' B ao c (l.mergeSort fun x y => decide (x <= y)) /\ w.grownBy w' (ob ao) := by
  rcases h.2 with ⟨hv, h0⟩ | ⟨g, cap, cur, hv, hbase, hb, h1, h2, h3, h4⟩
  . obtain rfl : l = [] := List.length_eq_zero_iff.1 h0
    refine (Any.slices_Sort_int_none Tryz.laysSort ao c w).mono ?_
    rintro e w' ⟨rfl, rfl⟩
    exact ⟨rfl, by simpa [OwnI] using h, grown_refl _ _⟩
  . simp only [Value.slice.injEq] at hv
    obtain ⟨rfl, -, rfl⟩ := hv
    refine (Any.slices_Sort_int Tryz.laysSort g 0 c l w (holds_of_blockI hb (by simpa using h4)) (Array.getElem?_eq_some_iff.1 hb).1 (by omega)).mono ?_
    rintro e w' ⟨rfl, n, os, rfl⟩
    refine ⟨rfl, ?_, grownBy_sortedI _⟩
    have := ownsRow_sortedI (n := n) (os := os) (ts := l.mergeSort fun x y => decide (x <= y)) (by simp) hbase hb h1 h2 h3
    unfold OwnI
    rwa [show (l.mergeSort fun x y => decide (x <= y)).length = l.length by simp]
theorem compact_len (l : List Int) : (Lib.compact l).length <= l.length := by
  unfold Lib.compact Lib.compactUpTo
  rw [List.length_map]
  exact Nat.le_trans (List.length_filter_le _ _) (by simp)
theorem cCompactO (B : Nat) (ao : Option Addr) (c : Nat) (l : List Int) (hl : l.length <= 1000000000000000) (w : World) (h : OwnI w B ao c l) : Calls Tryz.prog 62 #[.slice ao l.length c] w fun e w' => e = .returned (.slice ao (Lib.compact l).length c) /\ OwnI w' B ao c (Lib.compact l) /\ w.grownBy w' (ob ao) := by
  have hcl := compact_len l
  rcases h.2 with ⟨hv, h0⟩ | ⟨g, cap, cur, hv, hbase, hb, h1, h2, h3, h4⟩
  . obtain rfl : l = [] := List.length_eq_zero_iff.1 h0
    have e0 : Lib.compact ([] : List Int) = [] := rfl
    refine (Any.slices_Compact_int_empty Tryz.laysCompact ao c w).mono ?_
    rintro e w' ⟨rfl, rfl⟩
    exact ⟨by rw [e0]; rfl, by rw [e0]; exact h, grown_refl _ _⟩
  . simp only [Value.slice.injEq] at hv
    obtain ⟨rfl, -, rfl⟩ := hv
    refine (Any.slices_Compact_int Tryz.laysCompact g 0 c l w (holds_of_blockI hb (by simpa using h4)) (by omega) h1).mono ?_
    rintro e w' ⟨rfl, n, rfl⟩
    have e1 := Go.Sort.grow_empty (Go.Sort.putRow (Value.int .i64) (Go.Sort.ahead w n) g 0 (Lib.compact l ++ List.replicate (l.length - (Lib.compact l).length) 0).toArray)
    rw [← e1]
    refine ⟨rfl, ?_, grownBy_sortedI _⟩
    refine ⟨by simp, .inr ⟨g, c, _, rfl, hbase, heap_sortedI _ hb, by omega, h2, by simp [Go.Sort.putCells, h3], ?_⟩⟩
    have hlen : (Lib.compact l ++ List.replicate (l.length - (Lib.compact l).length) 0).length = l.length := by
      rw [List.length_append, List.length_replicate]
      omega
    have ht := take_putCellsI cur (Lib.compact l ++ List.replicate (l.length - (Lib.compact l).length) 0) (by rw [hlen]; omega)
    rw [hlen] at ht
    have e2 : ((Go.Sort.putCells (Value.int .i64) 0 (Lib.compact l ++ List.replicate (l.length - (Lib.compact l).length) 0).toArray cur).toList.take ((Lib.compact l).length * 1)) = (((Go.Sort.putCells (Value.int .i64) 0 (Lib.compact l ++ List.replicate (l.length - (Lib.compact l).length) 0).toArray cur).toList.take l.length).take (Lib.compact l).length) := by
      rw [List.take_take, Nat.mul_one, Nat.min_eq_left hcl]
    rw [e2, ht, List.map_append, List.take_append_of_le_length (by simp), List.take_of_length_le (by simp)]
theorem cRising (B : Nat) (ao : Option Addr) (c : Nat) (l : List Int) (hl : l.length <= 1000000000000000) (w : World) (h : OwnI w B ao c l) : Calls Tryz.prog 36 #[.slice ao l.length c] w fun e w' => e = .returned (.slice ao (rise l).length c) /\ OwnI w' B ao c (rise l) /\ w.grownBy w' (ob ao) := by
  have c1 := cSortO B ao c l hl w h
  have c2 := fun V h => cCompactO B ao c (l.mergeSort fun x y => decide (x <= y)) (by simpa using hl) V h
  have hn : (l.mergeSort fun x y => decide (x <= y)).length = l.length := by simp
  simp only [hn] at c2
  unfold rise
  generalize (l.mergeSort fun x y => decide (x <= y)) = s at *
  generalize l.length = n at *
  clear h hl hn
  go_enter Tryz.func36, Tryz.ntmps36
  go_wp2_with (first
    | (go_at_call 61; (with_reducible refine Calls.mono c1 ?_); rintro e w1 ⟨rfl, hO1, hg1⟩)
    | (go_at_call 62; (with_reducible refine Calls.mono (c2 _ hO1) ?_); rintro e w2 ⟨rfl, hO2, hg2⟩))
  go_ret
  exact ⟨rfl, hO2, hg1.trans hg2⟩
theorem app_rowO {ops : Array Oper} {rest : List Oper} {o : Oper} {a : Act} {Q : Exit -> Act -> World -> Prop} {w : World} (hgd : o.guard = none) (s x : Operand)
    (ho : o.op = .call { callee := .builtin .append, args := #[s, x], argTypes := #[26, 26] }) (B : Nat) (ao1 : Option Addr) (n1 c1 : Nat) (l1 : List Int) (hs : a.eval s = .slice ao1 n1 c1) (hn1 : l1.length = n1) (h1 : w.ownsRow B 3 1 (.slice ao1 n1 c1) n1 (l1.map (Value.int .i64)))
    (ao : Option Addr) (c : Nat) (l : List Int) (n : Nat) (hn : l.length = n) (hx : a.eval x = .slice ao n c) (hN : Ns w ao l) (h0 : 0 < n) (hl : n1 + n <= 17592186044416) (hB : B <= w.heap.size)
    (h : ∀ g c' w', w'.ownsRow B 3 1 (.slice (some ⟨g, 0, none⟩) (n1 + n) c') (n1 + n) ((l1 ++ l).map (Value.int .i64)) -> w.grownBy w' (ob ao1) -> (ob ao1 = some g ∨ w.heap.size <= g) -> wpList Tryz.prog ops Q rest (a.put o.dst (.slice (some ⟨g, 0, none⟩) (n1 + n) c')) w') : wpList Tryz.prog ops Q (o :: rest) a w := by
  obtain ⟨i0, hi, hz0, hz1, hz2⟩ := info_parts Gt.infoI
  subst hn hn1
  have hne : l ≠ [] := fun e => by rw [e] at h0; simp at h0
  obtain ⟨g, off, rfl, hc⟩ := hN.resolve_left hne
  refine wpList_append_lies w hgd s x 26 ho B 3 i0 (.int .i64 0) 1 8 Tryz.underlying26 hi hz0 hz1 hz2 rfl (by decide) _ l1.length _ hs h1 ⟨g, off, none⟩ l.length c (l.map (Value.int .i64)) hx (by simp) (fun j u hu => ?_) (fun u hu => ?_) h0 (by unfold maxLen; omega) (by omega) hB _ rfl ?_
  . rw [Addr.add_lit]
    rw [List.getElem?_map] at hu
    obtain ⟨z, hz, rfl⟩ := Option.map_eq_some_iff.1 hu
    exact hc j z hz
  . obtain ⟨z, _, rfl⟩ := List.mem_map.1 hu
    rfl
  . intro g2 cap w2 hown2 hgrow hat hlt
    rw [ob_eq] at hgrow hat
    rw [← List.map_append] at hown2
    refine h g2 cap w2 hown2 hgrow ?_
    rcases hat with e | e
    . exact .inl e
    . exact .inr (by omega)
theorem may_qs {q b : Int} {o : COp} (hq : q <= 64) (h : mayP q b o = true) : 0 < o.qs.length /\ o.qs.length <= 64 := by
  have hr := (may_rng h).1
  have hnd : 0 < o.qs.length /\ o.qs.Nodup := by
    unfold mayP at h
    by_cases h1 : o.kind = 1
    . rw [if_pos h1] at h
      simp only [Bool.and_eq_true, decide_eq_true_eq] at h
      have hc := h.1.1
      unfold chkP at hc
      split at hc
      . cases hc
      . rename_i hk
        split at hc
        . cases hc
        . rename_i ha
          have ha' : apP (rw' o.gate).q o.qs = true := by simpa using ha
          unfold apP at ha'
          rw [Bool.and_eq_true, decide_eq_true_eq] at ha'
          have hkn : 0 < (rw' o.gate).q := by
            have : knB (rw' o.gate) = true := by simpa using hk
            unfold knB at this
            exact of_decide_eq_true this
          exact ⟨by omega, apG_nod _ ha'.2⟩
    . rw [if_neg h1] at h
      have key : apaP o.qs q = true -> o.qs.Nodup := fun h => by
        unfold apaP at h
        rw [Bool.and_eq_true, decide_eq_true_eq] at h
        exact h.1
      by_cases h2 : o.kind = 2
      . rw [if_pos h2] at h
        simp only [Bool.and_eq_true, decide_eq_true_eq] at h
        exact ⟨by have := h.1.1.2; omega, key h.1.2⟩
      . rw [if_neg h2] at h
        by_cases h3 : o.kind = 3
        . rw [if_pos h3] at h
          simp only [Bool.and_eq_true, decide_eq_true_eq] at h
          exact ⟨by have := h.1.1.2; omega, key h.1.2⟩
        . rw [if_neg h3] at h
          by_cases h4 : o.kind = 4
          . rw [if_pos h4] at h
            simp only [Bool.and_eq_true, decide_eq_true_eq] at h
            exact ⟨h.1.1.2, key h.1.2⟩
          . rw [if_neg h4] at h
            cases h
  exact ⟨hnd.1, nodup_len 64 o.qs hnd.2 fun x hx => by have := hr x hx; omega⟩
theorem flat_len {f : COp -> List Int} {m : Nat} : ∀ l : List COp, (∀ o ∈ l, (f o).length <= m) -> (l.flatMap f).length <= m * l.length
  | [], _ => by simp
  | o :: r, h => by
    have h1 := flat_len (f := f) (m := m) r fun x hx => h x (by simp [hx])
    have h2 := h o (by simp)
    rw [List.flatMap_cons, List.length_append, List.length_cons, Nat.mul_add]
    omega
theorem bO_len (o : COp) : (bO o).length <= 2 := by
  unfold bO
  rw [List.length_append]
  split <;> split <;> simp
theorem us_take {f : COp -> List Int} (ops : List COp) (i : Nat) (o : COp) (h : ops[i]? = some o) : (ops.take (i + 1)).flatMap f = (ops.take i).flatMap f ++ f o := by
  rw [List.take_add_one, h, List.flatMap_append]
  simp
structure UB (w wr : World) (aq : Option Addr) (cq : Nat) (ab : Option Addr) (cb : Nat) (U V : List Int) : Prop where
  bel : Below w.heap.size w wr
  q : OwnI wr w.heap.size aq cq U
  b : OwnI wr w.heap.size ab cb V
  ne : ∀ g, ob aq = some g -> ob ab = some g -> False
theorem OwnI.lt {w : World} {B : Nat} {ao : Option Addr} {c : Nat} {l : List Int} (h : OwnI w B ao c l) {g : Nat} (hg : ob ao = some g) : B <= g /\ g < w.heap.size := own_lt h g hg
theorem OwnI.grown {w w' : World} {B : Nat} {ao : Option Addr} {c : Nat} {l : List Int} {row : Option Nat} (h : OwnI w B ao c l) (hg : w.grownBy w' row) (hn : ∀ g, ob ao = some g -> row ≠ some g) : OwnI w' B ao c l :=
  own_of_block h fun k hk => hg.block k (own_lt h k hk).2 (fun e => hn k hk e.symm)
theorem UB.alloc {w wr : World} {aq ab : Option Addr} {cq cb : Nat} {U V : List Int} (h : UB w wr aq cq ab cb U V) (o : Obj) : UB w (wr.alloc o) aq cq ab cb U V :=
  ⟨h.bel.trans ((bnew wr o).mono h.bel.size), h.q.grown (World.grownBy_alloc wr o none) (fun _ _ e => by cases e), h.b.grown (World.grownBy_alloc wr o none) (fun _ _ e => by cases e), h.ne⟩
theorem UB.pushQ {w wr w2 : World} {aq ab : Option Addr} {cq cb : Nat} {U V : List Int} (h : UB w wr aq cq ab cb U V) (hg : wr.grownBy w2 (ob aq)) {g c' n : Nat} {U' : List Int} (hn : U'.length = n) (ho : w2.ownsRow w.heap.size 3 1 (.slice (some ⟨g, 0, none⟩) n c') n (U'.map (Value.int .i64))) (ha : ob aq = some g ∨ wr.heap.size <= g) : UB w w2 (some ⟨g, 0, none⟩) c' ab cb U' V := by
  subst hn
  refine ⟨h.bel.grown hg h.bel.size (fun _ hk => (h.q.lt hk).1), ho, h.b.grown hg (fun k hk e => h.ne k e hk), fun k h1 h2 => ?_⟩
  have e : g = k := by simpa [ob] using h1
  subst e
  rcases ha with ha | ha
  . exact h.ne g ha h2
  . have := (h.b.lt h2).2
    omega
theorem UB.swap {w wr : World} {aq ab : Option Addr} {cq cb : Nat} {U V : List Int} (h : UB w wr aq cq ab cb U V) : UB w wr ab cb aq cq V U := ⟨h.bel, h.b, h.q, fun g h1 h2 => h.ne g h2 h1⟩
theorem UB.turn {w wr w2 : World} {aq ab : Option Addr} {cq cb : Nat} {U V : List Int} (h : UB w wr aq cq ab cb U V) (hg : wr.grownBy w2 (ob aq)) {U' : List Int} (ho : OwnI w2 w.heap.size aq cq U') : UB w w2 aq cq ab cb U' V :=
  ⟨h.bel.grown hg h.bel.size (fun _ hk => (h.q.lt hk).1), ho, h.b.grown hg (fun k hk e => h.ne k e hk), h.ne⟩
theorem op_cells {w : World} {g : Nat} {a0 a1 a2 a3 a4 a5 : Value} {t : TypeId} (h : w.heap[g]? = some (.cells #[a0, a1, a2, a3, a4, a5] t)) : w.cell? ⟨g, 0, none⟩ = some a0 /\ w.cell? ⟨g, 2, none⟩ = some a2 /\ w.cell? ⟨g, 3, none⟩ = some a3 /\ w.cell? ⟨g, 4, none⟩ = some a4 /\ g < w.heap.size :=
  ⟨cell_of_row _ _ _ _ _ _ h, cell_of_row _ _ _ _ _ _ h, cell_of_row _ _ _ _ _ _ h, cell_of_row _ _ _ _ _ _ h, (Array.getElem?_eq_some_iff.1 h).1⟩
theorem keep_box {w w' : World} {row : Option Nat} {b : Nat} {o : Obj} (hg : w.grownBy w' row) (hk : row ≠ some b) (h : w.heap[b]? = some o) : w'.heap[b]? = some o := (hg.block b (Array.getElem?_eq_some_iff.1 h).1 (fun e => hk e.symm)).trans h
theorem own_num {w : World} {B : Nat} {ao : Option Addr} {c n : Nat} {l : List Int} (hn : l.length = n) (h : OwnI w B ao c l) : w.ownsRow B 3 1 (.slice ao n c) n (l.map (Value.int .i64)) := by
  subst hn
  exact h
theorem ne_new {b W g : Nat} {ao : Option Addr} (hl : b < W) (hk : ob ao ≠ some b) (ha : ob ao = some g ∨ W <= g) : ob (some ⟨g, 0, none⟩) ≠ some b := by
  intro e
  have e' : g = b := by simpa [ob] using e
  subst e'
  rcases ha with h | h
  . exact hk h
  . omega
theorem cUsed (ops : List COp) (ao : Option Addr) (k : Nat) (hl : ops.length <= 4096) (hq : ∀ o ∈ ops, 0 < o.qs.length /\ o.qs.length <= 64) (w : World) (hO : OpsIn w ao ops) : Calls Tryz.prog 14 #[.slice ao ops.length k] w fun e w' => ∃ aq cq ab cb, e = .returned (.tuple #[.slice aq (rise (usQ ops)).length cq, .slice ab (rise (usB ops)).length cb]) /\ UB w w' aq cq ab cb (rise (usQ ops)) (rise (usB ops)) := by
  have HUQ : Hid (∀ i, (usQ (ops.take i)).length <= 262144) := hide (fun i => by
    have := flat_len (f := fun o => o.qs) (m := 64) (ops.take i) (fun o ho => (hq o (List.mem_of_mem_take ho)).2)
    have h2 : (ops.take i).length <= ops.length := by rw [List.length_take]; omega
    unfold usQ
    omega)
  have HUB : Hid (∀ i, (usB (ops.take i)).length <= 8192) := hide (fun i => by
    have := flat_len (f := bO) (m := 2) (ops.take i) (fun o _ => bO_len o)
    have h2 : (ops.take i).length <= ops.length := by rw [List.length_take]; omega
    unfold usB
    omega)
  have HO := hide hO
  have HQ := hide hq
  obtain ⟨n, hn⟩ : ∃ n, ops.length = n := ⟨_, rfl⟩
  have HL := hide hn
  rw [hn] at hl ⊢
  clear hn hO hq
  have CR := hide (fun V l c ao (h : l.length <= 1000000) (hO : OwnI V w.heap.size ao c l) => cRising w.heap.size ao c l (by omega) V hO)
  go_enter Tryz.func14, Tryz.ntmps14
  go_wp2_with fail
  go_loopw [4, 5, 10] (fun v4 v5 v10 wr => ∃ (i : Nat) (aq : Option Addr) (cq : Nat) (ab : Option Addr) (cb : Nat), v10 = .int .i64 (i : Int) /\ i <= n /\ v4 = .slice aq (usQ (ops.take i)).length cq /\ v5 = .slice ab (usB (ops.take i)).length cb /\ UB w wr aq cq ab cb (usQ (ops.take i)) (usB (ops.take i))) (fun _ _ v10 _ => n - (Go.RowKit.intOf v10).toNat)
  case atStart => exact ⟨0, none, 0, none, 0, rfl, Nat.zero_le _, rfl, rfl, ⟨Below.refl _ _, ⟨rfl, .inl ⟨rfl, rfl⟩⟩, ⟨rfl, .inl ⟨rfl, rfl⟩⟩, fun g h => by cases h⟩⟩
  case round =>
    obtain ⟨i, aq, cq, ab, cb, rfl, hi, rfl, rfl, hub⟩ := hrel
    by_cases h : i < n
    . have hd : decide ((i : Int) < (n : Int)) = true := decide_eq_true (by omega)
      have hkk : (i : Int) < (n : Int) := by omega
      obtain ⟨o, ho⟩ : ∃ o, ops[i]? = some o := ⟨_, List.getElem?_eq_getElem (by rw [HL.out]; exact h)⟩
      have hom := List.mem_of_getElem? ho
      obtain ⟨hq0, hq64⟩ := HQ.out o hom
      obtain ⟨g, off, ar, cr, rfl, hgl0, hoc0⟩ := HO.out.at ho
      have hoc := hoc0.below hub.bel
      have hgl : g < wr.heap.size := Nat.lt_of_lt_of_le hgl0 hub.bel.size
      have k0 := hoc.kind
      have k1 := hoc.gate
      have k2 := hoc.qs
      have k3 := hoc.bit
      have k4 := hoc.cond
      have k5 := hoc.whn
      have HNs := hide hoc.ns
      have HU1 : Hid (usQ (ops.take (i + 1)) = usQ (ops.take i) ++ o.qs) := hide (us_take ops i o ho)
      have HU2 : Hid (usB (ops.take (i + 1)) = usB (ops.take i) ++ bO o) := hide (us_take ops i o ho)
      have hb1 := HUQ.out i
      have hb2 := HUB.out i
      generalize usQ (ops.take i) = U at *
      generalize usB (ops.take i) = V at *
      obtain ⟨kd, gt, qs, bt, cd, wn⟩ := o
      simp only at k0 k1 k2 k3 k4 k5 hq0 hq64
      obtain ⟨m, hm⟩ : ∃ m, qs.length = m := ⟨_, rfl⟩
      have HM := hide hm
      obtain ⟨nu, hnu⟩ : ∃ nu, U.length = nu := ⟨_, rfl⟩
      have HNU := hide hnu
      obtain ⟨nv, hnv⟩ : ∃ nv, V.length = nv := ⟨_, rfl⟩
      have HNV := hide hnv
      rw [hm] at hq0 hq64 k2
      rw [hnu] at hb1 ⊢
      rw [hnv] at hb2 ⊢
      have HUBa' := hide (hub.alloc (.cells #[.int .i64 kd, .int .i64 gt, .slice ar m cr, .int .i64 bt, .int .i64 cd, .int .i64 wn] 40))
      have HNa := hide (HNs.out.below (bnew wr (.cells #[.int .i64 kd, .int .i64 gt, .slice ar m cr, .int .i64 bt, .int .i64 cd, .int .i64 wn] 40)))
      have HBx := hide (heap_alloc_new wr (.cells #[.int .i64 kd, .int .i64 gt, .slice ar m cr, .int .i64 bt, .int .i64 cd, .int .i64 wn] 40))
      have HKq : Hid (ob aq ≠ some wr.heap.size) := hide (fun e => by have := (hub.q.lt e).2; omega)
      have HKb : Hid (ob ab ≠ some wr.heap.size) := hide (fun e => by have := (hub.b.lt e).2; omega)
      have HUBa := HUBa'
      have HQa : Hid ((wr.alloc (.cells #[.int .i64 kd, .int .i64 gt, .slice ar m cr, .int .i64 bt, .int .i64 cd, .int .i64 wn] 40)).ownsRow w.heap.size 3 1 (.slice aq nu cq) nu (U.map (Value.int .i64))) := hide (own_num HNU.out HUBa.out.q)
      clear hub hoc hoc0 ho hom hnu hnv hm
      by_cases hk : kd = 2
      . have eK : (kd == 2) = true := by simpa using hk
        by_cases hc : cd = -1
        . have eD : (cd != -1) = false := by simpa using hc
          have hbo : usB (ops.take (i + 1)) = V ++ [bt] := by rw [HU2.out]; simp [bO, hk, hc]
          have HBO := hide hbo
          clear hbo hk hc
          go_wp2_with (first
            | (at_builtin; refine app_rowO rfl _ _ rfl w.heap.size aq nu cq U rfl HNU.out HQa.out ar cr qs m HM.out rfl HNa.out hq0 (by omega) HUBa.out.bel.size ?_; intro g1 c1 w2 hown2 hgr2 hat2; have HX2 := hide (keep_box hgr2 HKq.out HBx.out); have UB2 := hide (UB.pushQ HUBa.out hgr2 (U' := U ++ qs) (n := nu + m) (by rw [List.length_append, HNU.out, HM.out]) hown2 hat2); have UB2n := HNV; have UB2r := hide (own_num HNV.out UB2.out.b); have UB2x := HX2; have UB2k := HKb; have UB2l : Hid (wr.heap.size < w2.heap.size) := hide (op_cells HX2.out).2.2.2.2; obtain ⟨b20, b22, b23, b24, b25⟩ := op_cells HX2.out; clear hown2 hgr2 hat2)
            | (at_builtin; refine push rfl _ _ 26 rfl 3 Tryz.underlying26 _ 1 8 infoI rfl (by decide) w.heap.size ab (nv) cb _ rfl UB2r.out [.int .i64 bt] _ rfl rfl (by simp [Value.oneCell']) _ rfl rfl (by omega) (by omega) UB2.out.bel.size ?_; intro g3 c3 w3 hown3 hgr3 hat3; have HX3 := hide (keep_box hgr3 UB2k.out UB2x.out); have UB3 := hide ((UB.pushQ UB2.out.swap hgr3 (U' := V ++ [bt]) (n := nv + 1) (by rw [List.length_append, UB2n.out]; rfl) (by rw [List.map_append]; exact hown3) hat3).swap); have UB3n : Hid ((V ++ [bt]).length = nv + 1) := hide (by rw [List.length_append, UB2n.out]; rfl); have UB3r := hide (own_num UB3n.out UB3.out.b); have UB3x := HX3; have UB3k : Hid (ob (some ⟨g3, 0, none⟩) ≠ some wr.heap.size) := hide (ne_new UB2l.out UB2k.out hat3); have UB3l := hide (Nat.lt_of_lt_of_le UB2l.out hgr3.size); obtain ⟨b30, b32, b33, b34, b35⟩ := op_cells HX3.out; clear hown3 hgr3 hat3))
          go_roundw
          case rel => exact ⟨i + 1, some ⟨g1, 0, none⟩, c1, (some ⟨g3, 0, none⟩), c3, by go_num, by omega, by rw [HU1.out, List.length_append, HNU.out, HM.out], by rw [HBO.out, UB3n.out], by rw [HU1.out, HBO.out]; exact UB3.out⟩
          case measure => simp [Go.RowKit.intOf]; omega
        . have eD : (cd != -1) = true := by simpa using hc
          have hbo : usB (ops.take (i + 1)) = V ++ [bt] ++ [cd] := by rw [HU2.out]; simp [bO, hk, hc]
          have HBO := hide hbo
          clear hbo hk hc
          go_wp2_with (first
            | (at_builtin; refine app_rowO rfl _ _ rfl w.heap.size aq nu cq U rfl HNU.out HQa.out ar cr qs m HM.out rfl HNa.out hq0 (by omega) HUBa.out.bel.size ?_; intro g1 c1 w2 hown2 hgr2 hat2; have HX2 := hide (keep_box hgr2 HKq.out HBx.out); have UB2 := hide (UB.pushQ HUBa.out hgr2 (U' := U ++ qs) (n := nu + m) (by rw [List.length_append, HNU.out, HM.out]) hown2 hat2); have UB2n := HNV; have UB2r := hide (own_num HNV.out UB2.out.b); have UB2x := HX2; have UB2k := HKb; have UB2l : Hid (wr.heap.size < w2.heap.size) := hide (op_cells HX2.out).2.2.2.2; obtain ⟨b20, b22, b23, b24, b25⟩ := op_cells HX2.out; clear hown2 hgr2 hat2)
            | (at_builtin; refine push rfl _ _ 26 rfl 3 Tryz.underlying26 _ 1 8 infoI rfl (by decide) w.heap.size ab (nv) cb _ rfl UB2r.out [.int .i64 bt] _ rfl rfl (by simp [Value.oneCell']) _ rfl rfl (by omega) (by omega) UB2.out.bel.size ?_; intro g3 c3 w3 hown3 hgr3 hat3; have HX3 := hide (keep_box hgr3 UB2k.out UB2x.out); have UB3 := hide ((UB.pushQ UB2.out.swap hgr3 (U' := V ++ [bt]) (n := nv + 1) (by rw [List.length_append, UB2n.out]; rfl) (by rw [List.map_append]; exact hown3) hat3).swap); have UB3n : Hid ((V ++ [bt]).length = nv + 1) := hide (by rw [List.length_append, UB2n.out]; rfl); have UB3r := hide (own_num UB3n.out UB3.out.b); have UB3x := HX3; have UB3k : Hid (ob (some ⟨g3, 0, none⟩) ≠ some wr.heap.size) := hide (ne_new UB2l.out UB2k.out hat3); have UB3l := hide (Nat.lt_of_lt_of_le UB2l.out hgr3.size); obtain ⟨b30, b32, b33, b34, b35⟩ := op_cells HX3.out; clear hown3 hgr3 hat3)
            | (at_builtin; refine push rfl _ _ 26 rfl 3 Tryz.underlying26 _ 1 8 infoI rfl (by decide) w.heap.size (some ⟨g3, 0, none⟩) ((nv + 1)) c3 _ rfl UB3r.out [.int .i64 cd] _ rfl rfl (by simp [Value.oneCell']) _ rfl rfl (by omega) (by omega) UB3.out.bel.size ?_; intro g4 c4 w4 hown4 hgr4 hat4; have HX4 := hide (keep_box hgr4 UB3k.out UB3x.out); have UB4 := hide ((UB.pushQ UB3.out.swap hgr4 (U' := (V ++ [bt]) ++ [cd]) (n := (nv + 1) + 1) (by rw [List.length_append, UB3n.out]; rfl) (by rw [List.map_append]; exact hown4) hat4).swap); have UB4n : Hid (((V ++ [bt]) ++ [cd]).length = (nv + 1) + 1) := hide (by rw [List.length_append, UB3n.out]; rfl); have UB4r := hide (own_num UB4n.out UB4.out.b); have UB4x := HX4; have UB4k : Hid (ob (some ⟨g4, 0, none⟩) ≠ some wr.heap.size) := hide (ne_new UB3l.out UB3k.out hat4); have UB4l := hide (Nat.lt_of_lt_of_le UB3l.out hgr4.size); obtain ⟨b40, b42, b43, b44, b45⟩ := op_cells HX4.out; clear hown4 hgr4 hat4))
          go_roundw
          case rel => exact ⟨i + 1, some ⟨g1, 0, none⟩, c1, (some ⟨g4, 0, none⟩), c4, by go_num, by omega, by rw [HU1.out, List.length_append, HNU.out, HM.out], by rw [HBO.out, UB4n.out], by rw [HU1.out, HBO.out]; exact UB4.out⟩
          case measure => simp [Go.RowKit.intOf]; omega
      . have eK : (kd == 2) = false := by simpa using hk
        by_cases hc : cd = -1
        . have eD : (cd != -1) = false := by simpa using hc
          have hbo : usB (ops.take (i + 1)) = V := by rw [HU2.out]; simp [bO, hk, hc]
          have HBO := hide hbo
          clear hbo hk hc
          go_wp2_with (first
            | (at_builtin; refine app_rowO rfl _ _ rfl w.heap.size aq nu cq U rfl HNU.out HQa.out ar cr qs m HM.out rfl HNa.out hq0 (by omega) HUBa.out.bel.size ?_; intro g1 c1 w2 hown2 hgr2 hat2; have HX2 := hide (keep_box hgr2 HKq.out HBx.out); have UB2 := hide (UB.pushQ HUBa.out hgr2 (U' := U ++ qs) (n := nu + m) (by rw [List.length_append, HNU.out, HM.out]) hown2 hat2); have UB2n := HNV; have UB2r := hide (own_num HNV.out UB2.out.b); have UB2x := HX2; have UB2k := HKb; have UB2l : Hid (wr.heap.size < w2.heap.size) := hide (op_cells HX2.out).2.2.2.2; obtain ⟨b20, b22, b23, b24, b25⟩ := op_cells HX2.out; clear hown2 hgr2 hat2))
          go_roundw
          case rel => exact ⟨i + 1, some ⟨g1, 0, none⟩, c1, ab, cb, by go_num, by omega, by rw [HU1.out, List.length_append, HNU.out, HM.out], by rw [HBO.out, UB2n.out], by rw [HU1.out, HBO.out]; exact UB2.out⟩
          case measure => simp [Go.RowKit.intOf]; omega
        . have eD : (cd != -1) = true := by simpa using hc
          have hbo : usB (ops.take (i + 1)) = V ++ [cd] := by rw [HU2.out]; simp [bO, hk, hc]
          have HBO := hide hbo
          clear hbo hk hc
          go_wp2_with (first
            | (at_builtin; refine app_rowO rfl _ _ rfl w.heap.size aq nu cq U rfl HNU.out HQa.out ar cr qs m HM.out rfl HNa.out hq0 (by omega) HUBa.out.bel.size ?_; intro g1 c1 w2 hown2 hgr2 hat2; have HX2 := hide (keep_box hgr2 HKq.out HBx.out); have UB2 := hide (UB.pushQ HUBa.out hgr2 (U' := U ++ qs) (n := nu + m) (by rw [List.length_append, HNU.out, HM.out]) hown2 hat2); have UB2n := HNV; have UB2r := hide (own_num HNV.out UB2.out.b); have UB2x := HX2; have UB2k := HKb; have UB2l : Hid (wr.heap.size < w2.heap.size) := hide (op_cells HX2.out).2.2.2.2; obtain ⟨b20, b22, b23, b24, b25⟩ := op_cells HX2.out; clear hown2 hgr2 hat2)
            | (at_builtin; refine push rfl _ _ 26 rfl 3 Tryz.underlying26 _ 1 8 infoI rfl (by decide) w.heap.size ab (nv) cb _ rfl UB2r.out [.int .i64 cd] _ rfl rfl (by simp [Value.oneCell']) _ rfl rfl (by omega) (by omega) UB2.out.bel.size ?_; intro g3 c3 w3 hown3 hgr3 hat3; have HX3 := hide (keep_box hgr3 UB2k.out UB2x.out); have UB3 := hide ((UB.pushQ UB2.out.swap hgr3 (U' := V ++ [cd]) (n := nv + 1) (by rw [List.length_append, UB2n.out]; rfl) (by rw [List.map_append]; exact hown3) hat3).swap); have UB3n : Hid ((V ++ [cd]).length = nv + 1) := hide (by rw [List.length_append, UB2n.out]; rfl); have UB3r := hide (own_num UB3n.out UB3.out.b); have UB3x := HX3; have UB3k : Hid (ob (some ⟨g3, 0, none⟩) ≠ some wr.heap.size) := hide (ne_new UB2l.out UB2k.out hat3); have UB3l := hide (Nat.lt_of_lt_of_le UB2l.out hgr3.size); obtain ⟨b30, b32, b33, b34, b35⟩ := op_cells HX3.out; clear hown3 hgr3 hat3))
          go_roundw
          case rel => exact ⟨i + 1, some ⟨g1, 0, none⟩, c1, (some ⟨g3, 0, none⟩), c3, by go_num, by omega, by rw [HU1.out, List.length_append, HNU.out, HM.out], by rw [HBO.out, UB3n.out], by rw [HU1.out, HBO.out]; exact UB3.out⟩
          case measure => simp [Go.RowKit.intOf]; omega
    . obtain rfl : n = i := by omega
      have e : ops.take n = ops := List.take_of_length_le (by rw [HL.out]; exact Nat.le_refl _)
      have hb1 := HUQ.out n
      have hb2 := HUB.out n
      rw [e] at hb1 hb2 hub ⊢
      have c1 := CR.out wr (usQ ops) cq aq (by omega) hub.q
      have c2 := fun V h => CR.out V (usB ops) cb ab (by omega) h
      have HU := hide hub
      clear hub HUQ HUB CR
      generalize (usQ ops).length = nu at *
      generalize (usB ops).length = nv at *
      go_wp2_with (first
        | (go_at_call 36; (with_reducible refine Calls.mono c1 ?_); rintro e w1 ⟨rfl, hO1, hg1⟩; have HU1 := hide (HU.out.turn hg1 hO1))
        | (go_at_call 36; (with_reducible refine Calls.mono (c2 _ HU1.out.b) ?_); rintro e w2 ⟨rfl, hO2, hg2⟩; have HU2 := hide (HU1.out.swap.turn hg2 hO2).swap))
      go_ret2
      exact ⟨aq, cq, ab, cb, rfl, HU2.out⟩
theorem cCm1 (q : Int) (b1 : Nat) (aq : Option Addr) (cq : Nat) (l : List Int) (hl : l.length <= 1000000000000000) (w : World) (hbx : w.cell? ⟨b1, 0, none⟩ = some (.slice aq l.length cq)) (hN : Ns w aq l) : Calls Tryz.prog 16 #[.int .i64 q, .pointer (some ⟨b1, 0, none⟩)] w fun e w' => e = .returned (.int .i64 (ixI l q)) /\ w' = w := by
  have c1 := sIndex aq cq l q hl w hN
  have hb := World.block_lt_of_cell? w _ hbx
  unfold ixI
  generalize ixV (ixP l q) = R at *
  generalize l.length = n at *
  clear hN
  go_enter Tryz.func16, Tryz.ntmps16
  go_wp2_with (go_at_call 17; (with_reducible refine Calls.mono c1 ?_); rintro e w1 ⟨rfl, hw⟩; obtain rfl := hw.symm)
  go_ret
  exact ⟨rfl, rfl⟩
theorem cCm2 (q : Int) (b1 : Nat) (aq : Option Addr) (cq : Nat) (l : List Int) (hl : l.length <= 1000000000000000) (w : World) (hbx : w.cell? ⟨b1, 0, none⟩ = some (.slice aq l.length cq)) (hN : Ns w aq l) : Calls Tryz.prog 18 #[.int .i64 q, .pointer (some ⟨b1, 0, none⟩)] w fun e w' => e = .returned (.int .i64 (ixI l q)) /\ w' = w := by
  have c1 := sIndex aq cq l q hl w hN
  have hb := World.block_lt_of_cell? w _ hbx
  unfold ixI
  generalize ixV (ixP l q) = R at *
  generalize l.length = n at *
  clear hN
  go_enter Tryz.func18, Tryz.ntmps18
  go_wp2_with (go_at_call 17; (with_reducible refine Calls.mono c1 ?_); rintro e w1 ⟨rfl, hw⟩; obtain rfl := hw.symm)
  go_ret
  exact ⟨rfl, rfl⟩
theorem cRenumC (ops : List COp) (ao : Option Addr) (k : Nat) (hS : Szs ops) (fq fb : Int -> Int) (p1 p2 : Nat) (w : World) (hO : OpsIn w ao ops)
    (hq : ∀ W, Below w.heap.size w W -> ∀ o ∈ ops, ∀ q ∈ o.qs, Calls Tryz.prog 16 #[.int .i64 q, .pointer (some ⟨p1, 0, none⟩)] W fun e w' => e = .returned (.int .i64 (fq q)) /\ w' = W)
    (hb : ∀ W, Below w.heap.size w W -> ∀ o ∈ ops, o.kind = 2 -> Calls Tryz.prog 18 #[.int .i64 o.bit, .pointer (some ⟨p2, 0, none⟩)] W fun e w' => e = .returned (.int .i64 (fb o.bit)) /\ w' = W)
    (hc : ∀ W, Below w.heap.size w W -> ∀ o ∈ ops, o.cond ≠ -1 -> Calls Tryz.prog 18 #[.int .i64 o.cond, .pointer (some ⟨p2, 0, none⟩)] W fun e w' => e = .returned (.int .i64 (fb o.cond)) /\ w' = W) :
    Calls Tryz.prog 15 #[.slice ao ops.length k, .func (.func 16) #[] #[.pointer (some ⟨p1, 0, none⟩)], .func (.func 18) #[] #[.pointer (some ⟨p2, 0, none⟩)]] w fun e w' => ∃ g, e = .returned (.slice (some ⟨g, 0, none⟩) ops.length ops.length) /\ OpsOwn w' w.heap.size (some ⟨g, 0, none⟩) ops.length ops.length (ops.map (reO fq fb)) /\ Below w.heap.size w w' := by
  have c0 := cCopyOpsO ops ao k hS w hO
  have HQ := hide hq
  have HB := hide hb
  have HC := hide hc
  have hsl := hS.1
  have HSz := hide hS.2
  obtain ⟨n, hn⟩ : ∃ n, ops.length = n := ⟨_, rfl⟩
  have HL := hide hn
  rw [hn] at c0 hsl ⊢
  clear hn hq hb hc hO hS
  go_enter Tryz.func15, Tryz.ntmps15
  go_wp2_with (first | (go_at_call 37; refine c0.mono ?_; rintro e w1 ⟨g, rfl, hO1, hb1⟩; have HO1 := hide hO1; have HB1 := hide hb1; clear hO1 hb1 c0))
  go_loopw [16] (fun vi wr => ∃ i : Nat, vi = .int .i64 (i : Int) /\ i <= n /\ Below w.heap.size w wr /\ OpsOwn wr w.heap.size (some ⟨g, 0, none⟩) n n (mxL fq fb ops i)) (fun vi _ => n - (Go.RowKit.intOf vi).toNat)
  case atStart => exact ⟨0, rfl, Nat.zero_le _, HB1.out, by rw [mxL_zero]; exact HO1.out⟩
  case round =>
    obtain ⟨i, rfl, hi, hbr, hOr⟩ := hrel
    by_cases h : i < n
    . have hd : decide ((i : Int) < (n : Int)) = true := decide_eq_true (by omega)
      have hkk : (i : Int) < (n : Int) := by omega
      obtain ⟨o, ho⟩ : ∃ o, ops[i]? = some o := ⟨_, List.getElem?_eq_getElem (by rw [HL.out]; exact h)⟩
      have hom := List.mem_of_getElem? ho
      have hmb := HSz.out o hom
      obtain ⟨aq, cq, g1, g2, k0, k2, k3, k4, kf, -, -, -⟩ := hOr.one (mxL_at fq fb ops i o ho)
      have HOr := hide hOr
      have HBr := hide hbr
      have HOO := hide ho
      have HOM := hide hom
      have HG := hide (And.intro g1 k2)
      clear ho hom hOr hbr
      obtain ⟨m, hm⟩ : ∃ m, o.qs.length = m := ⟨_, rfl⟩
      have HM := hide hm
      rw [hm] at k2 hmb HG
      clear hm
      go_wp2_with fail
      go_loopw [27] (fun vk wr => ∃ k' : Nat, vk = .int .i64 (k' : Int) /\ k' <= m /\ Below w.heap.size w wr /\ wr.cell? ⟨g, i * 6 + 2, none⟩ = some (.slice aq m cq) /\ OpsOwn wr w.heap.size (some ⟨g, 0, none⟩) n n ((mxL fq fb ops i).set i { o with qs := mqL fq o.qs k' })) (fun vk _ => m - (Go.RowKit.intOf vk).toNat)
      case atStart => exact ⟨0, rfl, Nat.zero_le _, HBr.out, HG.out.2, by rw [mqL_zero, set_same (mxL_at fq fb ops i o HOO.out)]; exact HOr.out⟩
      case round =>
        obtain ⟨k', rfl, hk', hbr, hhd, hOr⟩ := hrel
        have hli := set_at (mxL fq fb ops i) i { o with qs := mqL fq o.qs k' } (mxL_lt fq fb ops i o HOO.out)
        obtain ⟨aq', cq', g1', g2', j0, j2, j3, j4, jf, jb, jc, jr⟩ := hOr.one hli
        simp only at j0 j2 j3 j4 jr jb jc
        rw [hhd] at j2
        simp only [Option.some.injEq, Value.slice.injEq] at j2
        obtain ⟨rfl, -, rfl⟩ := j2
        have HBr2 := hide hbr
        have HOr2 := hide hOr
        have HJB := hide jb
        have HJC := hide jc
        by_cases hk : k' < m
        . have hd2 : decide ((k' : Int) < (m : Int)) = true := decide_eq_true (by omega)
          have hkk2 : (k' : Int) < (m : Int) := by omega
          obtain ⟨z, hz⟩ : ∃ z, o.qs[k']? = some z := ⟨_, List.getElem?_eq_getElem (by rw [HM.out]; exact hk)⟩
          obtain ⟨gr, rfl, r1, r2, r3, r4, r5, r6⟩ := jr k' z (mqL_at fq o.qs k' z hz)
          have cA := fun V (hV : Below wr.heap.size wr V) => HQ.out V (hbr.trans (hV.mono hbr.size)) o HOM.out z (List.mem_of_getElem? hz)
          have HK : Hid (∀ V, Below wr.heap.size wr V -> V.cell? ⟨g, i * 6 + 2, none⟩ = some (.slice (some ⟨gr, 0, none⟩) m cq) /\ V.cell? ⟨gr, k', none⟩ = some (.int .i64 z) /\ V.frozen? ⟨gr, k', none⟩ = false /\ g < V.heap.size /\ gr < V.heap.size) := hide (fun V hV => ⟨(hV.cell (p := ⟨g, i * 6 + 2, none⟩) g2').trans hhd, (hV.cell (p := ⟨gr, k', none⟩) r2).trans r4, (hV.frozen (p := ⟨gr, k', none⟩) r2).trans r5, Nat.lt_of_lt_of_le g2' hV.size, Nat.lt_of_lt_of_le r2 hV.size⟩)
          have HF : Hid (∀ V, Below wr.heap.size wr V -> OpsOwn (V.setCell ⟨gr, k', none⟩ (.int .i64 (fq z))) w.heap.size (some ⟨g, 0, none⟩) n n ((mxL fq fb ops i).set i { o with qs := mqL fq o.qs (k' + 1) }) /\ Below w.heap.size w (V.setCell ⟨gr, k', none⟩ (.int .i64 (fq z))) /\ (V.setCell ⟨gr, k', none⟩ (.int .i64 (fq z))).cell? ⟨g, i * 6 + 2, none⟩ = some (.slice (some ⟨gr, 0, none⟩) m cq)) := hide (fun V hV => by
            obtain ⟨ax, cx, -, -, -, x2, -, -, -, -, -, xr⟩ := (hOr.below hV).one hli
            obtain ⟨gr', e', -, -, -, -, -, x6⟩ := xr k' z (mqL_at fq o.qs k' z hz)
            rw [(hV.cell (p := ⟨g, i * 6 + 2, none⟩) g2').trans hhd] at x2
            simp only [Option.some.injEq, Value.slice.injEq] at x2
            rw [e'] at x2
            have e4 : gr = gr' := by simpa using x2.1
            subst e4
            refine ⟨?_, (hbr.trans (hV.mono hbr.size)).setCell (p := ⟨gr, k', none⟩) r1 _, (World.cell?_of_block (w := V) (Below.heap_setCell _ _ _ _ (by show g ≠ gr; omega))).trans ((hV.cell (p := ⟨g, i * 6 + 2, none⟩) g2').trans hhd)⟩
            have := x6 (fq z)
            rw [List.set_set] at this
            simp only at this
            rw [mqL_succ fq o.qs k' z hz] at this
            exact this)
          clear hOr jr jb jc r6 hbr hz
          go_wp2_with fail
          refine wp_region_quiet_last (C := fun W => Below wr.heap.size wr W) (by kernel_rfl) 9 rfl (by kernel_rfl) (by kernel_rfl) (below_drewN (Below.refl _ _) 1) ?_
          simp only [List.take_succ_cons, List.take_zero]
          repeat
            refine wpQuiet_step (fun K hK => ?_)
            go_simp
            first
              | (refine hK _ ?_; clear hK K)
              | (apply Exists.intro
                 refine ⟨fun W hW => ?_, hK _ ?_⟩
                 first
                   | ((with_reducible refine Calls.mono (cA _ hW) ?_); rintro e x ⟨rfl, rfl⟩; exact ⟨rfl, hW⟩)
                   | (obtain ⟨a0, a1, a2, a3, a4⟩ := HK.out W hW; go_simp; rfl)
                 clear hK K)
          refine wpQuiet_nil ?_
          intro W hW
          obtain ⟨a0, a1, a2, a3, a4⟩ := HK.out W hW
          have HW := hide (HF.out W hW)
          clear hW HK HF
          go_wp2_with fail
          go_roundw
          case rel => exact ⟨k' + 1, by go_num, by omega, HW.out.2.1, HW.out.2.2, HW.out.1⟩
          case measure => simp [Go.RowKit.intOf]; omega
        . obtain rfl : m = k' := by omega
          have HOe : Hid (OpsOwn wr w.heap.size (some ⟨g, 0, none⟩) n n ((mxL fq fb ops i).set i { o with qs := o.qs.map fq })) := hide (by
            have := HOr2.out
            rwa [mqL_end fq o.qs m (by rw [HM.out]; exact Nat.le_refl _)] at this)
          have hle := mxL_lt fq fb ops i o HOO.out
          have HLE := hide hle
          clear hOr jr jb jc HOr2 HJB HJC hli hle
          obtain ⟨-, -, -, -, -, -, -, -, -, eb, ec, -⟩ := HOe.out.one (set_at _ i { o with qs := o.qs.map fq } HLE.out)
          simp only [List.set_set] at eb ec
          have HEB := hide eb
          have HEC := hide ec
          clear eb ec
          by_cases hk2 : o.kind = 2
          . have cB := HB.out wr hbr o HOM.out hk2
            have eK : (o.kind == 2) = true := by simpa using hk2
            obtain ⟨-, -, -, x2', x0, -, x3, x4, xf, -, xc, -⟩ := (HEB.out (fb o.bit)).one (set_at _ i _ HLE.out)
            simp only [List.set_set] at x0 x3 x4 xc
            have HXC := hide xc
            have HXB := hide (hbr.setCell (p := ⟨g, i * 6 + 3, none⟩) g1 (.int .i64 (fb o.bit)))
            by_cases hcn : o.cond = -1
            . have eC : (o.cond == -1) = true := by simpa using hcn
              have eD : (o.cond != -1) = false := by simpa using hcn
              have HFin : Hid (OpsOwn (wr.setCell ⟨g, i * 6 + 3, none⟩ (.int .i64 (fb o.bit))) w.heap.size (some ⟨g, 0, none⟩) n n (mxL fq fb ops (i + 1))) := hide (by
                have := HEB.out (fb o.bit)
                rw [← mxL_succ fq fb ops i o HOO.out]
                simpa [reO, hk2, hcn] using this)
              clear hbr xc hk2 hcn
              go_wp2_with (first | (go_at_call 18; (with_reducible refine Calls.mono cB ?_); rintro e w5 ⟨rfl, hw⟩; obtain rfl := hw.symm))
              go_roundw
              case rel => exact ⟨i + 1, by go_num, by omega, HXB.out, HFin.out⟩
              case measure => simp [Go.RowKit.intOf]; omega
            . have cC := HC.out _ HXB.out o HOM.out hcn
              have eC : (o.cond == -1) = false := by simpa using hcn
              have eD : (o.cond != -1) = true := by simpa using hcn
              have HFin : Hid (OpsOwn ((wr.setCell ⟨g, i * 6 + 3, none⟩ (.int .i64 (fb o.bit))).setCell ⟨g, i * 6 + 4, none⟩ (.int .i64 (fb o.cond))) w.heap.size (some ⟨g, 0, none⟩) n n (mxL fq fb ops (i + 1))) := hide (by
                have := HXC.out (fb o.cond)
                rw [← mxL_succ fq fb ops i o HOO.out]
                simpa [reO, hk2, hcn] using this)
              have HXB2 := hide (HXB.out.setCell (p := ⟨g, i * 6 + 4, none⟩) g1 (.int .i64 (fb o.cond)))
              clear hbr xc hk2 hcn
              go_wp2_with (first | (go_at_call 18; (with_reducible refine Calls.mono cB ?_); rintro e w5 ⟨rfl, hw⟩; obtain rfl := hw.symm) | (go_at_call 18; (with_reducible refine Calls.mono cC ?_); rintro e w5 ⟨rfl, hw⟩; obtain rfl := hw.symm))
              go_roundw
              case rel => exact ⟨i + 1, by go_num, by omega, HXB2.out, HFin.out⟩
              case measure => simp [Go.RowKit.intOf]; omega
          . have eK : (o.kind == 2) = false := by simpa using hk2
            by_cases hcn : o.cond = -1
            . have eC : (o.cond == -1) = true := by simpa using hcn
              have eD : (o.cond != -1) = false := by simpa using hcn
              have HFin : Hid (OpsOwn wr w.heap.size (some ⟨g, 0, none⟩) n n (mxL fq fb ops (i + 1))) := hide (by
                have := HOe.out
                rw [← mxL_succ fq fb ops i o HOO.out]
                simpa [reO, hk2, hcn] using this)
              clear hbr hk2 hcn
              go_wp2_with fail
              go_roundw
              case rel => exact ⟨i + 1, by go_num, by omega, HBr2.out, HFin.out⟩
              case measure => simp [Go.RowKit.intOf]; omega
            . have cC := HC.out wr hbr o HOM.out hcn
              have eC : (o.cond == -1) = false := by simpa using hcn
              have eD : (o.cond != -1) = true := by simpa using hcn
              have HFin : Hid (OpsOwn (wr.setCell ⟨g, i * 6 + 4, none⟩ (.int .i64 (fb o.cond))) w.heap.size (some ⟨g, 0, none⟩) n n (mxL fq fb ops (i + 1))) := hide (by
                have := HEC.out (fb o.cond)
                rw [← mxL_succ fq fb ops i o HOO.out]
                simpa [reO, hk2, hcn] using this)
              have HXB2 := hide (hbr.setCell (p := ⟨g, i * 6 + 4, none⟩) g1 (.int .i64 (fb o.cond)))
              clear hbr hk2 hcn
              go_wp2_with (first | (go_at_call 18; (with_reducible refine Calls.mono cC ?_); rintro e w5 ⟨rfl, hw⟩; obtain rfl := hw.symm))
              go_roundw
              case rel => exact ⟨i + 1, by go_num, by omega, HXB2.out, HFin.out⟩
              case measure => simp [Go.RowKit.intOf]; omega
    . obtain rfl : n = i := by omega
      have HF : Hid (OpsOwn wr w.heap.size (some ⟨g, 0, none⟩) n n (ops.map (reO fq fb))) := hide (by
        have := hOr
        rwa [mxL_end fq fb ops n (by rw [HL.out]; exact Nat.le_refl _)] at this)
      have HBr := hide hbr
      clear hOr hbr
      go_wp2_with fail
      go_ret
      exact ⟨g, rfl, HF.out, HBr.out⟩
theorem results_cttt {P : Program} {fn : Func} {p u v x : Tmp} {ty : TypeId} (h : fn.results = #[.cell p ty, .tmp u, .tmp v, .tmp x]) (tmps : Array Value) (w : World) (g : Nat) (t : TypeId) (cs : Array Value) (fr : Nat × Nat) (d : TypeDesc)
    (hp : tmps.getD p undef = .pointer (some ⟨g, 0, none⟩)) (hg : w.heap[g]? = some (.cells cs t fr))
    (hu : P.underlying ty = some d) (hd : (match d with | .struct _ | .array _ _ => true | _ => false) = true) (hi : (P.info? ty).map (·.size) = some cs.size) :
    (results fn tmps).run P w = .ok (.tuple #[.agg cs, tmps.getD u undef, tmps.getD v undef, tmps.getD x undef]) w := by
  have hp' : tmps[p]?.getD undef = .pointer (some ⟨g, 0, none⟩) := by simpa using hp
  simp [results, h, hp', asAddr, run_loadVar_row w g t ty cs fr d hg hu hd hi, Result.andThen]
theorem OwnI.ns {w : World} {B : Nat} {ao : Option Addr} {c : Nat} {l : List Int} (h : OwnI w B ao c l) : Ns w ao l := by
  obtain ⟨aq, cq, e, -, hn⟩ := (RowO.isI (w := w) (B := B) ⟨ao, c, rfl, h⟩).ns
  simp only [Value.slice.injEq] at e
  rw [e.1]
  exact hn
theorem OwnI.below {w w' : World} {B : Nat} {ao : Option Addr} {c : Nat} {l : List Int} (h : OwnI w B ao c l) (hb : Below w.heap.size w w') : OwnI w' B ao c l := own_of_block h fun k hk => hb.block k (own_lt h k hk).2
theorem OwnI.base {w : World} {B B' : Nat} {ao : Option Addr} {c : Nat} {l : List Int} (h : OwnI w B ao c l) (hb : B' <= B) : OwnI w B' ao c l := by
  refine ⟨h.1, ?_⟩
  rcases h.2 with h2 | ⟨g, cap, cur, e1, e2, e3⟩
  . exact .inl h2
  . exact .inr ⟨g, cap, cur, e1, Nat.le_trans hb e2, e3⟩
theorem OwnI.nil (w : World) (B : Nat) : OwnI w B none 0 [] := ⟨rfl, .inl ⟨rfl, rfl⟩⟩
theorem OwnI.row {w : World} {B : Nat} {ao : Option Addr} {c : Nat} {l : List Int} (h : OwnI w B ao c l) {g : Nat} {cs : Array Value} {t : TypeId} {fr : Nat × Nat} (hg : w.heap[g]? = some (.cells cs t fr)) (h1 : t ≠ 3) (cs' : Array Value) : OwnI (w.setRow g cs') B ao c l :=
  own_of_block h fun k hk => setRow_other _ _ _ _ fun e => by subst e; exact own_ne h hg h1 hk
theorem cmp_boxes (w : World) (q0 b0 : Int) (ao : Option Addr) (n0 k : Nat) : Below w.heap.size w ((w.alloc (.cells #[.int .i64 q0, .int .i64 b0, .slice ao n0 k] 24)).alloc (.cells #[.int .i64 0, .int .i64 0, .slice none 0 0] 24)) /\ ((w.alloc (.cells #[.int .i64 q0, .int .i64 b0, .slice ao n0 k] 24)).alloc (.cells #[.int .i64 0, .int .i64 0, .slice none 0 0] 24)).heap[w.heap.size]? = some (.cells #[.int .i64 q0, .int .i64 b0, .slice ao n0 k] 24) /\ ((w.alloc (.cells #[.int .i64 q0, .int .i64 b0, .slice ao n0 k] 24)).alloc (.cells #[.int .i64 0, .int .i64 0, .slice none 0 0] 24)).heap[w.heap.size + 1]? = some (.cells #[.int .i64 0, .int .i64 0, .slice none 0 0] 24) := by
  refine ⟨(bnew _ _).trans ((bnew _ _).mono (by simp)), (Below.heap_alloc _ _ _ (by simp)).trans (heap_alloc_new _ _), ?_⟩
  have := heap_alloc_new (w.alloc (.cells #[.int .i64 q0, .int .i64 b0, .slice ao n0 k] 24)) (.cells #[.int .i64 0, .int .i64 0, .slice none 0 0] 24)
  simpa using this
theorem cCompact_80 (c : Circ) (ao : Option Addr) (k : Nat) (hk : (chkC c).2 ≠ 0) (w : World) (hT : Tb w) (hC : Ci w c ao k) : Calls Tryz.prog 5 #[cV c ao k] w fun e w' => e = .returned (.tuple #[.agg #[.int .i64 0, .int .i64 0, .slice none 0 0], .slice none 0 0, .slice none 0 0, .int .i64 (chkC c).2]) /\ Below w.heap.size w w' := by
  have c1 := fun V (h : Below w.heap.size w V) => cCheck c ao k V (hT.below h) (hC.below h)
  obtain ⟨q0, b0, l0⟩ := c
  unfold cV at *
  simp only at *
  generalize (chkC ⟨q0, b0, l0⟩).1 = z1 at *
  generalize (chkC ⟨q0, b0, l0⟩).2 = z2 at *
  generalize l0.length = n0 at *
  have e2 : (z2 == 0) = false := by simpa using hk
  have e2' : (z2 != 0) = true := by simpa using hk
  have HW := hide (cmp_boxes w q0 b0 ao n0 k)
  generalize hW0 : ((w.alloc (.cells #[.int .i64 q0, .int .i64 b0, .slice ao n0 k] 24)).alloc (.cells #[.int .i64 0, .int .i64 0, .slice none 0 0] 24)) = W0 at HW
  have HZ := hide hW0
  have HP : Hid (∀ V, Below W0.heap.size W0 V -> Below w.heap.size w V /\ V.heap[w.heap.size]? = some (.cells #[.int .i64 q0, .int .i64 b0, .slice ao n0 k] 24) /\ V.heap[w.heap.size + 1]? = some (.cells #[.int .i64 0, .int .i64 0, .slice none 0 0] 24)) := hide (fun V h => ⟨HW.out.1.trans (h.mono HW.out.1.size), (h.block _ (Array.getElem?_eq_some_iff.1 HW.out.2.1).1).trans HW.out.2.1, (h.block _ (Array.getElem?_eq_some_iff.1 HW.out.2.2).1).trans HW.out.2.2⟩)
  clear hW0 hC hT hk
  go_enter Tryz.func5, Tryz.ntmps5
  go_wp2_with fail
  rw [HZ.out]
  go_wp2_with (first
    | (go_at_call 13; (with_reducible refine Calls.mono (c1 _ HW.out.1) ?_); rintro e w1 ⟨rfl, hb1⟩; obtain ⟨p1, m1, m4⟩ := HP.out w1 hb1; obtain ⟨x0, x1, x2, x3⟩ := def_cells m1; obtain ⟨u0, u1, u2, u3⟩ := def_cells m4; have uf : ∀ i, w1.frozen? ⟨w.heap.size + 1, i, none⟩ = false := fun i => (by simp [World.frozen?, m4])))
  rw [c3_set _ _ _ _ _ _ _ _ _ m4]
  refine bodyPost_ret (results_cttt rfl _ _ (w.heap.size + 1) _ #[.int .i64 0, .int .i64 0, .slice none 0 0] _ _ rfl (setRow_heap _ _ _ _ _ _ m4) Tryz.underlying24 rfl (by exact infoCi)) rfl ?_
  exact ⟨rfl, Below.row p1 _ _ (by omega)⟩
theorem cCompact_ok (c : Circ) (ao : Option Addr) (k : Nat) (hS : Szs c.ops) (hk : (chkC c).2 = 0) (w : World) (hT : Tb w) (hC : Ci w c ao k) : Calls Tryz.prog 5 #[cV c ao k] w fun e w' => ∃ g aq cq ab cb, e = .returned (.tuple #[.agg #[.int .i64 ((rise (usQ c.ops)).length : Int), .int .i64 ((rise (usB c.ops)).length : Int), .slice (some ⟨g, 0, none⟩) c.ops.length c.ops.length], .slice aq (rise (usQ c.ops)).length cq, .slice ab (rise (usB c.ops)).length cb, .int .i64 0]) /\ OpsOwn w' w.heap.size (some ⟨g, 0, none⟩) c.ops.length c.ops.length (cmpO c).ops /\ OwnI w' w.heap.size aq cq (rise (usQ c.ops)) /\ OwnI w' w.heap.size ab cb (rise (usB c.ops)) /\ Below w.heap.size w w' := by
  obtain ⟨h1, h2, h3, h4, h5, h6⟩ := chkC_ok hk
  have lq : (rise (usQ c.ops)).length <= 64 := by
    rw [cmp_q hk]
    have := flN_len (usQ c.ops) c.q.toNat
    omega
  have lb : (rise (usB c.ops)).length <= 64 := by
    rw [cmp_b hk]
    have := flN_len (usB c.ops) c.b.toNat
    omega
  have c1 := fun V (h : Below w.heap.size w V) => cCheck c ao k V (hT.below h) (hC.below h)
  rw [hk] at c1
  have c2 := fun V (h : Below w.heap.size w V) => cUsed c.ops ao k h5 (fun o ho => may_qs h2 (h6 o ho)) V (hC.ops.below h)
  have c5 := fun p1 p2 aq cq ab cb V (hV : Below w.heap.size w V) (k1 : V.cell? ⟨p1, 0, none⟩ = some (.slice aq (rise (usQ c.ops)).length cq)) (k2 : V.cell? ⟨p2, 0, none⟩ = some (.slice ab (rise (usB c.ops)).length cb)) (n1 : Ns V aq (rise (usQ c.ops))) (n2 : Ns V ab (rise (usB c.ops))) =>
    cRenumC c.ops ao k hS (ixI (rise (usQ c.ops))) (ixI (rise (usB c.ops))) p1 p2 V (hC.ops.below hV) (fun W hW o ho q hq => cCm1 q p1 aq cq (rise (usQ c.ops)) (by omega) W ((hW.cell (p := ⟨p1, 0, none⟩) (World.block_lt_of_cell? V _ k1)).trans k1) (n1.below hW))
      (fun W hW o ho _ => cCm2 o.bit p2 ab cb (rise (usB c.ops)) (by omega) W ((hW.cell (p := ⟨p2, 0, none⟩) (World.block_lt_of_cell? V _ k2)).trans k2) (n2.below hW))
      (fun W hW o ho _ => cCm2 o.cond p2 ab cb (rise (usB c.ops)) (by omega) W ((hW.cell (p := ⟨p2, 0, none⟩) (World.block_lt_of_cell? V _ k2)).trans k2) (n2.below hW))
  have eo : (cmpO c).ops = c.ops.map (reO (ixI (rise (usQ c.ops))) (ixI (rise (usB c.ops)))) := rfl
  rw [eo]
  generalize c.ops.map (reO (ixI (rise (usQ c.ops))) (ixI (rise (usB c.ops)))) = RO at *
  generalize rise (usQ c.ops) = RQ at *
  generalize rise (usB c.ops) = RB at *
  clear h1 h2 h3 h4 h5 h6 eo hk hS
  obtain ⟨q0, b0, l0⟩ := c
  unfold cV at *
  simp only at *
  generalize (chkC ⟨q0, b0, l0⟩).1 = z1 at *
  generalize l0.length = n0 at *
  obtain ⟨nq, hnq⟩ : ∃ nq, RQ.length = nq := ⟨_, rfl⟩
  obtain ⟨nb, hnb⟩ : ∃ nb, RB.length = nb := ⟨_, rfl⟩
  simp only [hnq, hnb] at c2 c5 lq lb ⊢
  have HNQ := hide hnq
  have HNB := hide hnb
  clear hnq hnb
  have HW := hide (cmp_boxes w q0 b0 ao n0 k)
  generalize hW0 : ((w.alloc (.cells #[.int .i64 q0, .int .i64 b0, .slice ao n0 k] 24)).alloc (.cells #[.int .i64 0, .int .i64 0, .slice none 0 0] 24)) = W0 at HW
  have HZ := hide hW0
  have HP : Hid (∀ V, Below W0.heap.size W0 V -> Below w.heap.size w V /\ V.heap[w.heap.size]? = some (.cells #[.int .i64 q0, .int .i64 b0, .slice ao n0 k] 24) /\ V.heap[w.heap.size + 1]? = some (.cells #[.int .i64 0, .int .i64 0, .slice none 0 0] 24)) := hide (fun V h => ⟨HW.out.1.trans (h.mono HW.out.1.size), (h.block _ (Array.getElem?_eq_some_iff.1 HW.out.2.1).1).trans HW.out.2.1, (h.block _ (Array.getElem?_eq_some_iff.1 HW.out.2.2).1).trans HW.out.2.2⟩)
  clear hW0 hC hT
  go_enter Tryz.func5, Tryz.ntmps5
  go_wp2_with fail
  rw [HZ.out]
  go_upto_region 5 with (first
    | (go_at_call 13; (with_reducible refine Calls.mono (c1 _ HW.out.1) ?_); rintro e w1 ⟨rfl, hb1⟩; obtain ⟨p1, m1, m4⟩ := HP.out w1 hb1; have HB1 := hide hb1; obtain ⟨x0, x1, x2, x3⟩ := def_cells m1)
    | (go_at_call 14; (with_reducible refine Calls.mono (c2 _ p1) ?_); rintro e w2 ⟨aq, cq, ab, cb, rfl, hub⟩; have HUBx := hide hub; have HB2 := hide (HB1.out.trans (hub.bel.mono HB1.out.size)); have HS1 := hide p1.size; clear hub x0 x1 x2 x3 m1 m4 p1 hb1))
  have HW3 : Hid (Below W0.heap.size W0 ((w2.alloc (.cells #[.slice aq nq cq] 26)).alloc (.cells #[.slice ab nb cb] 26)) /\ ((w2.alloc (.cells #[.slice aq nq cq] 26)).alloc (.cells #[.slice ab nb cb] 26)).heap[w2.heap.size]? = some (.cells #[.slice aq nq cq] 26) /\ ((w2.alloc (.cells #[.slice aq nq cq] 26)).alloc (.cells #[.slice ab nb cb] 26)).heap[w2.heap.size + 1]? = some (.cells #[.slice ab nb cb] 26) /\ OwnI ((w2.alloc (.cells #[.slice aq nq cq] 26)).alloc (.cells #[.slice ab nb cb] 26)) w.heap.size aq cq RQ /\ OwnI ((w2.alloc (.cells #[.slice aq nq cq] 26)).alloc (.cells #[.slice ab nb cb] 26)) w.heap.size ab cb RB) := hide (by
    refine ⟨(HB2.out.trans ((bnew _ _).mono HB2.out.size)).trans ((bnew _ _).mono (by have := HB2.out.size; simp; omega)), (Below.heap_alloc _ _ _ (by simp)).trans (heap_alloc_new _ _), ?_, ((HUBx.out.q.base HS1.out).below (bnew _ _)).below (bnew _ _), ((HUBx.out.b.base HS1.out).below (bnew _ _)).below (bnew _ _)⟩
    have := heap_alloc_new (w2.alloc (.cells #[.slice aq nq cq] 26)) (.cells #[.slice ab nb cb] 26)
    simpa using this)
  generalize ((w2.alloc (.cells #[.slice aq nq cq] 26)).alloc (.cells #[.slice ab nb cb] 26)) = W3 at *
  obtain ⟨p3, m1, m4⟩ := HP.out W3 HW3.out.1
  obtain ⟨x0, x1, x2, x3⟩ := def_cells m1
  have y1 := cell_one HW3.out.2.1
  have y2 := cell_one HW3.out.2.2.1
  have c6 := c5 w2.heap.size (w2.heap.size + 1) aq cq ab cb W3 p3 y1 y2 HW3.out.2.2.2.1.ns HW3.out.2.2.2.2.ns
  have HP3 := hide p3
  have HM4 := hide m4
  clear p3 m1 m4 c5 c2 c1
  go_upto_region 6 with (go_at_call 15; (with_reducible refine Calls.mono c6 ?_); rintro e w5 ⟨g5, rfl, hO5, hb5⟩)
  have p5 := HP3.out.trans (hb5.mono HP3.out.size)
  have HO5 := hide (hO5.base HP3.out.size)
  have m5 := (hb5.block _ (Array.getElem?_eq_some_iff.1 HM4.out).1).trans HM4.out
  have b1 := (hb5.block _ (Array.getElem?_eq_some_iff.1 HW3.out.2.1).1).trans HW3.out.2.1
  have b2 := (hb5.block _ (Array.getElem?_eq_some_iff.1 HW3.out.2.2.1).1).trans HW3.out.2.2.1
  have HOQ := hide (HW3.out.2.2.2.1.below hb5)
  have HOB := hide (HW3.out.2.2.2.2.below hb5)
  obtain ⟨v0, v1, v2, v3⟩ := def_cells m5
  have vf : ∀ i, w5.frozen? ⟨w.heap.size + 1, i, none⟩ = false := fun i => by simp [World.frozen?, m5]
  have z1' := cell_one b1
  have z2' := cell_one b2
  have z3 := (Array.getElem?_eq_some_iff.1 b1).1
  have z4 := (Array.getElem?_eq_some_iff.1 b2).1
  have HM5 := hide m5
  have HP5 := hide p5
  clear hO5 hb5 b1 b2 m5 p5 x0 x1 x2 x3 y1 y2 c6
  have hgt : w.heap.size + 1 < w2.heap.size := Nat.lt_of_lt_of_le (Array.getElem?_eq_some_iff.1 HW.out.2.2).1 HB2.out.size
  obtain ⟨G, hG⟩ : ∃ G, w.heap.size + 1 = G := ⟨_, rfl⟩
  obtain ⟨P1, hP1⟩ : ∃ P1, w2.heap.size = P1 := ⟨_, rfl⟩
  obtain ⟨P2, hP2⟩ : ∃ P2, P1 + 1 = P2 := ⟨_, rfl⟩
  have HG := hide hG
  have HGt : Hid (w.heap.size <= G) := hide (by omega)
  rw [hG] at hgt v0 v1 v2 v3 HM5 ⊢
  simp only [hG] at vf
  rw [hP1] at hgt z1' z2' z3 z4 ⊢
  rw [hP2] at z2' z4 ⊢
  have hn1 : ¬ P1 = G := by omega
  have hn2 : ¬ G = P1 := by omega
  have hn3 : ¬ P2 = G := by omega
  have hn4 : ¬ G = P2 := by omega
  clear hG hP1 hP2 hgt
  generalize hVV : w5 = V5 at *
  clear hVV
  go_region
  go_wp2_with fail
  rw [c3_set _ _ _ _ _ _ _ _ _ HM5.out]
  refine bodyPost_ret (results_cttt rfl _ _ G _ #[.int .i64 (nq : Int), .int .i64 (nb : Int), .slice (some ⟨g5, 0, none⟩) n0 n0] _ _ rfl (by exact setRow_heap _ _ _ _ _ _ HM5.out) Tryz.underlying24 rfl (by exact infoCi)) rfl ?_
  exact ⟨g5, aq, cq, ab, cb, rfl, (HO5.out.row HM5.out (by decide) (by decide) _).below (Below.refl _ _).drew, (HOQ.out.row HM5.out (by decide) _).below (Below.refl _ _).drew, (HOB.out.row HM5.out (by decide) _).below (Below.refl _ _).drew, (Below.row HP5.out _ _ HGt.out).drew⟩
theorem cCompactA (c : Circ) (ao : Option Addr) (k : Nat) (hS : Szs c.ops) (w : World) (hT : Tb w) (hC : Ci w c ao k) : Calls Tryz.prog 5 #[cV c ao k] w fun e w' => ∃ (co : Option Addr) (cap : Nat) (aq : Option Addr) (cq : Nat) (ab : Option Addr) (cb : Nat), e = .returned (.tuple #[cV (cmpP c).1 co cap, .slice aq (cmpP c).2.1.length cq, .slice ab (cmpP c).2.2.1.length cb, .int .i64 (cmpP c).2.2.2]) /\ OpsOwn w' w.heap.size co (cmpP c).1.ops.length cap (cmpP c).1.ops /\ OwnI w' w.heap.size aq cq (cmpP c).2.1 /\ OwnI w' w.heap.size ab cb (cmpP c).2.2.1 /\ Below w.heap.size w w' := by
  unfold cmpP
  by_cases hk : (chkC c).2 ≠ 0
  . rw [if_pos hk]
    refine (cCompact_80 c ao k hk w hT hC).mono ?_
    rintro e w' ⟨rfl, hb⟩
    exact ⟨none, 0, none, 0, none, 0, by rw [chk80 c hk]; rfl, OpsOwn.nil _ _, OwnI.nil _ _, OwnI.nil _ _, hb⟩
  . rw [if_neg hk]
    refine (cCompact_ok c ao k hS (by omega) w hT hC).mono ?_
    rintro e w' ⟨g, aq, cq, ab, cb, rfl, hO, hq, hb', hb⟩
    have hl : (cmpO c).ops.length = c.ops.length := by simp [cmpO]
    exact ⟨some ⟨g, 0, none⟩, c.ops.length, aq, cq, ab, cb, by unfold cV; rw [hl]; rfl, by rw [hl]; exact hO, hq, hb', hb⟩
end Go.Proofs.YtijemaahibjejaaGreatDoor.Cir
