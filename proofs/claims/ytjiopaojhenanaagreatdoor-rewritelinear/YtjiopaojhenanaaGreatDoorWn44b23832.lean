import Derived.Deep.RegionHeld3
import Derived.Test.YtjiopaojhenanaaGreatDoorWn58674206
namespace Go.Proofs.YtjiopaojhenanaaGreatDoor.Gt
end Go.Proofs.YtjiopaojhenanaaGreatDoor.Gt
namespace Go.Proofs.YtjiopaojhenanaaGreatDoor.Oct
end Go.Proofs.YtjiopaojhenanaaGreatDoor.Oct
namespace Go.Proofs.YtjiopaojhenanaaGreatDoor.Tok
end Go.Proofs.YtjiopaojhenanaaGreatDoor.Tok
namespace Go.Proofs.YtjiopaojhenanaaGreatDoor.Cir
open Go
section
variable {P : Program} {Q : Exit -> Act -> World -> Prop} {md : Region.Mode} {ops : Array Oper} {N : Nat}
def frB (md : Region.Mode) (ops : Array Oper) (N : Nat) : Bool :=
  decide (ops.size = N + 1) && (List.range N).all (fun i => ((ops[i]?).map fun o => o.guard.isNone && o.after.all fun e => decide (e.on < i)).getD false)
    && ((ops[N]?).map fun o => o.after.all fun e => decide (e.on < N)).getD false
    && (List.range N).all (fun j => (List.range (N + 1)).any fun i => decide (j < i) && ((ops[i]?).map fun o => o.after.any fun e => Region.binds md e && (e.on == j)).getD false)
structure Fr (md : Region.Mode) (ops : Array Oper) (N : Nat) : Prop where
  size : ops.size = N + 1
  low : ∀ i o, i < N -> ops[i]? = some o -> o.guard = none /\ ∀ e ∈ o.after, e.on < i
  last : ∃ o, ops[N]? = some o /\ ∀ e ∈ o.after, e.on < N
  cover : ∀ j, j < N -> ∃ i o, j < i /\ i <= N /\ ops[i]? = some o /\ ∃ e ∈ o.after, Region.binds md e = true /\ e.on = j
theorem fr_of (h : frB md ops N = true) : Fr md ops N := by
  unfold frB at h
  rw [Bool.and_eq_true, Bool.and_eq_true, Bool.and_eq_true] at h
  obtain ⟨⟨⟨h1, h2⟩, h3⟩, h5⟩ := h
  refine ⟨of_decide_eq_true h1, fun i o hi ho => ?_, ?_, fun j hj => ?_⟩
  . have := List.all_eq_true.1 h2 i (List.mem_range.2 hi)
    rw [ho] at this
    simp only [Option.map_some, Option.getD_some, Bool.and_eq_true, Option.isNone_iff_eq_none, Array.all_eq_true_iff_forall_mem, decide_eq_true_eq] at this
    exact this
  . cases ho : ops[N]? with
    | none => rw [ho] at h3; simp at h3
    | some o =>
      rw [ho] at h3
      simp only [Option.map_some, Option.getD_some, Array.all_eq_true_iff_forall_mem, decide_eq_true_eq] at h3
      exact ⟨o, rfl, h3⟩
  . have := List.all_eq_true.1 h5 j (List.mem_range.2 hj)
    rw [List.any_eq_true] at this
    obtain ⟨i, hi, hb⟩ := this
    rw [Bool.and_eq_true, decide_eq_true_eq] at hb
    cases ho : ops[i]? with
    | none => rw [ho] at hb; simp at hb
    | some o =>
      rw [ho] at hb
      simp only [Option.map_some, Option.getD_some] at hb
      have h6 := hb.2
      rw [Array.any_eq_true'] at h6
      obtain ⟨e, he, hb2⟩ := h6
      rw [Bool.and_eq_true, beq_iff_eq] at hb2
      have := List.mem_range.1 hi
      exact ⟨i, o, hb.1, by omega, ho, e, he, hb2.1, hb2.2⟩
def ClL (md : Region.Mode) (ops : Array Oper) (N : Nat) (listed : Array Bool) : Prop := ∀ i o, i < N -> listed.getD i false = true -> ops[i]? = some o -> ∀ e ∈ o.after, Region.binds md e = true -> listed.getD e.on false = true
theorem fr_get {i : Nat} (hf : Fr md ops N) (hi : i < N) : ops.pop[i]? = ops[i]? := by
  have := hf.size
  rw [Array.getElem?_pop, if_pos (by omega)]
theorem fr_none (hf : Fr md ops N) {i : Nat} (hi : N <= i) : ops.pop[i]? = none := by
  have := hf.size
  rw [Array.getElem?_eq_none]
  simp
  omega
theorem fr_ready (hf : Fr md ops N) {listed : Array Bool} {i : Nat} : i ∈ Region.ready md ops.pop listed ↔ i ∈ Region.ready md ops listed /\ i < N := by
  rw [mem_ready, mem_ready]
  constructor
  . rintro ⟨h1, o, ho, h2⟩
    have hi : i < N := by
      rcases Nat.lt_or_ge i N with h | h
      . exact h
      . rw [fr_none hf h] at ho; cases ho
    rw [fr_get hf hi] at ho
    exact ⟨⟨h1, o, ho, h2⟩, hi⟩
  . rintro ⟨⟨h1, o, ho, h2⟩, hi⟩
    exact ⟨h1, o, by rw [fr_get hf hi]; exact ho, h2⟩
theorem fr_all (hf : Fr md ops N) {listed : Array Bool} (hs : listed.size = N + 1) (h : Region.ready md ops.pop listed = []) : ∀ j, j < N -> listed.getD j false = true := by
  intro j
  induction j using Nat.strongRecOn with
  | ind j ih =>
    intro hj
    cases hl : listed.getD j false
    . exfalso
      have hlt : j < ops.size := by rw [hf.size]; omega
      have hm : j ∈ Region.ready md ops.pop listed := by
        refine (fr_ready hf).2 ⟨mem_ready.2 ⟨?_, ops[j], Array.getElem?_eq_getElem hlt, fun e he _ => ?_⟩, hj⟩
        . have : j < listed.size := by omega
          simp [Array.getD, this] at hl ⊢
          exact hl
        . have := (hf.low j ops[j] hj (Array.getElem?_eq_getElem hlt)).2 e he
          exact ih e.on this (by omega)
      rw [h] at hm
      cases hm
    . rfl
theorem fr_waits (hf : Fr md ops N) {listed : Array Bool} (hc : ClL md ops N listed) (h : N ∈ Region.ready md ops listed) : ∀ d j, j + d = N -> 0 < d -> listed.getD j false = true := by
  intro d
  induction d using Nat.strongRecOn with
  | ind d ih =>
    intro j hj hd
    obtain ⟨i, o, h1, h2, ho, e, he, hb, rfl⟩ := hf.cover j (by omega)
    by_cases hi : i = N
    . subst hi
      obtain ⟨_, o', ho', h3⟩ := mem_ready.1 h
      rw [ho] at ho'
      cases ho'
      exact h3 e he hb
    . have := ih (N - i) (by omega) i (by omega) (by omega)
      exact hc i o (by omega) this ho e he hb
theorem fr_none_ready (hf : Fr md ops N) {listed : Array Bool} (hs : listed.size = N + 1) (hl : ∀ j, j < N -> listed.getD j false = true) : Region.ready md ops.pop listed = [] := by
  refine List.eq_nil_iff_forall_not_mem.2 fun j hj => ?_
  obtain ⟨hj1, hjN⟩ := (fr_ready hf).1 hj
  have a := hl j hjN
  have b := (mem_ready.1 hj1).1
  have h' : j < listed.size := by omega
  simp [Array.getD, h'] at a b
  rw [a] at b
  cases b
theorem fr_lt (hf : Fr md ops N) {listed : Array Bool} {i : Nat} (h : i ∈ Region.ready md ops listed) : i <= N := by
  obtain ⟨_, o, ho, _⟩ := mem_ready.1 h
  have := (Array.getElem?_eq_some_iff.1 ho).1
  rw [hf.size] at this
  omega
theorem getD_ne {listed : Array Bool} {i j : Nat} (h : j ≠ i) (d : Bool) : (listed.setIfInBounds i true).getD j d = listed.getD j d := by
  simp only [Array.getD_eq_getD_getElem?, Array.getElem?_setIfInBounds]
  rw [if_neg (fun e => h e.symm)]
theorem getD_eq {listed : Array Bool} {i : Nat} (h : i < listed.size) (d : Bool) : (listed.setIfInBounds i true).getD i d = true := by
  simp only [Array.getD_eq_getD_getElem?, Array.getElem?_setIfInBounds]
  simp [h]
theorem any_end : ∀ (fuel : Nat) {listed : Array Bool} {a : Act} {w : World}, Region.ready md ops listed = [] -> Q .normal a w -> wpAny P md ops Q fuel listed a w
  | 0, _, _, _, h, hq => ⟨h, hq⟩
  | _ + 1, _, _, _, h, hq => ⟨fun _ => hq, fun i hi => by rw [h] at hi; cases hi⟩
theorem fr_done (hf : Fr md ops N) {listed : Array Bool} (hs : listed.size = N + 1) (h : Region.ready md ops.pop listed = []) : Region.ready md ops (listed.setIfInBounds N true) = [] := by
  refine List.eq_nil_iff_forall_not_mem.2 fun j hj => ?_
  have hj1 := (mem_ready.1 hj).1
  have hle := fr_lt hf hj
  by_cases e : j = N
  . subst e
    rw [getD_eq (by omega)] at hj1
    cases hj1
  . have := fr_all hf hs h j (by omega)
    rw [getD_ne e] at hj1
    have hl : j < listed.size := by omega
    simp [Array.getD, hl] at this hj1
    rw [this] at hj1
    cases hj1
def QL (P : Program) (ops : Array Oper) (Q : Exit -> Act -> World -> Prop) (N : Nat) : Exit -> Act -> World -> Prop
  | .normal, a, w => wpOp P ops Q N (fun a' w' => Q .normal a' w') a w
  | e, a, w => Q e a w
theorem wp_QL (o : Oper) (a : Act) (w : World) (K : Act -> World -> Prop) (h : o.wp P a w K (QL P ops Q N)) : o.wp P a w K Q := by
  unfold Oper.wp at h ⊢
  generalize (execOp a.eval o).run P w = r at h
  cases r with
  | ok x w' => cases x <;> exact h
  | _ => exact h
theorem any_of_fr (hf : Fr md ops N) : ∀ (fuel : Nat) (listed : Array Bool) (a : Act) (w : World), listed.size = N + 1 -> listed.getD N true = false -> ClL md ops N listed ->
    wpAny P md ops.pop (QL P ops Q N) fuel listed a w -> wpAny P md ops Q (fuel + 1) listed a w := by
  have stop : ∀ (fuel : Nat) (listed : Array Bool) (a : Act) (w : World), listed.size = N + 1 -> listed.getD N true = false -> Region.ready md ops.pop listed = [] ->
      QL P ops Q N .normal a w -> wpAny P md ops Q (fuel + 1) listed a w := by
    intro fuel listed a w hs hN h hq
    have hall := fr_all hf hs h
    refine ⟨fun h0 => ?_, fun i hi => ?_⟩
    . obtain ⟨o, ho, h1⟩ := hf.last
      have : N ∈ Region.ready md ops listed := mem_ready.2 ⟨hN, o, ho, fun e he _ => hall e.on (h1 e he)⟩
      rw [h0] at this
      cases this
    . have hiN : i = N := by
        have h1 := fr_lt hf hi
        rcases Nat.lt_or_ge i N with h' | h'
        . have := (fr_ready hf).2 ⟨hi, h'⟩
          rw [h] at this
          cases this
        . omega
      subst hiN
      exact wpOp_mono (fun a'' w'' h'' => any_end fuel (fr_done hf hs h) h'') hq
  intro fuel
  induction fuel with
  | zero =>
    intro listed a w hs hN hc h
    exact stop 0 listed a w hs hN h.1 h.2
  | succ fuel ih =>
    intro listed a w hs hN hc h
    by_cases h0 : Region.ready md ops.pop listed = []
    . exact stop (fuel + 1) listed a w hs hN h0 (h.1 h0)
    . refine ⟨fun h1 => ?_, fun i hi => ?_⟩
      . exfalso
        obtain ⟨i, hi⟩ := List.exists_mem_of_ne_nil _ h0
        have := ((fr_ready hf).1 hi).1
        rw [h1] at this
        cases this
      . have hne : i ≠ N := fun e => h0 (fr_none_ready hf hs (fun j hj => fr_waits hf hc (e ▸ hi) (N - j) j (by omega) (by omega)))
        have hlt : i < N := by have := fr_lt hf hi; omega
        have hq := h.2 i ((fr_ready hf).2 ⟨hi, hlt⟩)
        obtain ⟨hun, o, ho, hall⟩ := mem_ready.1 hi
        have hg := (hf.low i o hlt ho).1
        have hw : ∀ y, Region.wanted o y = true := fun y => by simp [Region.wanted, hg]
        have hc' : ClL md ops N (listed.setIfInBounds i true) := by
          intro j oj hj hl hoj e he hb
          by_cases e1 : j = i
          . subst e1
            rw [ho] at hoj
            cases hoj
            have h1 := hall e he hb
            have h2 := (hf.low j o hlt ho).2 e he
            rw [getD_ne (by omega)]
            exact h1
          . rw [getD_ne e1] at hl
            have h1 := hc j oj hj hl hoj e he hb
            by_cases e2 : e.on = i
            . rw [e2]; exact getD_eq (by omega) false
            . rw [getD_ne e2]; exact h1
        unfold wpOp at hq ⊢
        rw [fr_get hf hlt, ho] at hq
        simp only [ho, hw, if_true] at hq ⊢
        have step : ∀ a' w', wpAny P md ops.pop (QL P ops Q N) fuel (listed.setIfInBounds i true) a' w' -> wpAny P md ops Q (fuel + 1) (listed.setIfInBounds i true) a' w' := fun a' w' h' =>
          ih _ a' w' (by simpa using hs) (by rw [getD_ne (fun e => hne e.symm)]; exact hN) hc' h'
        rcases hq with hq | ⟨hq1, hq2⟩
        . exact .inl (Oper.wp_mono step (wp_QL o a w _ hq))
        . exact .inr ⟨hq1, hq2⟩
theorem region_front {id : Nat} {a : Act} {w : World} {l : List Oper} {S : World -> Prop} (hm : P.follows .mixedOrders = true) (n : Nat) (hF : frB .any l.toArray n = true) (hS : S w.drew)
    (h : S w.drew -> wpAnyH P .any (l.take n).toArray (QL P l.toArray Q n) S n (Array.replicate (n + 1) false) a w.drew) : (Code.region id l.toArray true).wp P Q a w := by
  have hf := fr_of hF
  have hsz : l.length = n + 1 := by simpa using hf.size
  have hpop : l.toArray.pop = (l.take n).toArray := by
    apply Array.ext'
    simp [List.dropLast_eq_take, hsz]
  refine wp_region_any hm ?_
  have H := wpAny_of_held _ _ _ _ (h hS)
  rw [← hpop] at H
  have := any_of_fr hf n (Array.replicate (n + 1) false) a _ (by simp) (by simp) (fun i o hi hl => by simp [Array.getD] at hl) H
  simpa [hsz] using this
end
end Go.Proofs.YtjiopaojhenanaaGreatDoor.Cir
namespace Go.Proofs.YtjiopaojhenanaaGreatDoor.Cir
open Go.RowKit Go.Shelf Go.Proofs.YtjiopaojhenanaaGreatDoor.Oct Go.Proofs.YtjiopaojhenanaaGreatDoor.Tok Go.Proofs.YtjiopaojhenanaaGreatDoor.Gt
theorem take_to {P : Program} {md : Region.Mode} {ops : Array Oper} {Q : Exit -> Act -> World -> Prop} {S : World -> Prop} {i d : Nat} {oi : Oper} {v : Value} {fuel : Nat} {listed : Array Bool} {a : Act} {w : World} (hi : ops[i]? = some oi) (hd : oi.dst = some d) (hs : Region.noSelect ops = true) (hf : Region.free md ops listed i = true) (hr : (Region.ready md ops listed).contains i = true)
    (hQ : ∀ c a w, Q (.panic c) (a.put (some d) v) w -> Q (.panic c) a w) (hy : YieldsIf P ops S oi v a) (hS : S w) (h : wpAnyH P md ops Q S fuel (listed.setIfInBounds i true) (a.put (some d) v) w) : wpAnyH P md ops Q S (fuel + 1) listed a w :=
  wpAnyH_take hi hs hf hr (by rw [hd]; exact hQ) hy hS (by rw [hd]; exact h)
theorem ql_last {P : Program} {ops : Array Oper} {Q : Exit -> Act -> World -> Prop} {N : Nat} {o : Oper} {a : Act} {w : World} (ho : ops[N]? = some o) (h : ∀ K : Act -> World -> Prop, Shut (∀ a w, Q .normal a w -> K a w) -> if Region.wanted o (yielded ops a.tmps) = true then Oper.wp P o a w K Q else K (a.put o.dst undef) w) : QL P ops Q N .normal a w :=
  wpOp_step ho (fun K hK => h K hK)
end Go.Proofs.YtjiopaojhenanaaGreatDoor.Cir
