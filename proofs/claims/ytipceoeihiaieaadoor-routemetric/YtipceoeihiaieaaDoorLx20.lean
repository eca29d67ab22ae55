/- A long region's own order, looked at fast: what each operation writes, looks at and waits for, listed once. -/
import Derived.Deep.Quiet
import Derived.KernelRfl
namespace Go.Proofs.YtipceoeihiaieaaDoor.Gt
open Go

/-- Where an operation writes, what it looks at, whom it waits for. -/
abbrev LD := Option Nat × List Nat × List Nat
def ldOf (md : Region.Mode) (ops : Array Oper) (o : Oper) : LD := (o.dst, o.looksAt ops, (o.after.toList.filter (Region.binds md)).map (·.on))
def apD (x y : LD) : Bool :=
  (match x.1 with
   | some d => !y.2.1.contains d && y.1 != some d
   | none => true) &&
  (match y.1 with
   | some d => !x.2.1.contains d
   | none => true)
def fastL : Nat → List LD → Bool
  | _, [] => true
  | k, x :: l => x.2.2.all (fun e => decide (e < k)) && (l.all (fun y => y.2.2.contains k || apD x y) && fastL (k + 1) l)

section
variable {ops : Array Oper} {md : Region.Mode}
theorem ld_apart (x y : Oper) : apD (ldOf md ops x) (ldOf md ops y) = x.apart ops y := rfl
/-- The first k have come up. -/
structure Upk (ops : Array Oper) (k : Nat) (listed : Array Bool) : Prop where
  size : listed.size = ops.size
  at_ : ∀ j, j < ops.size → listed[j]? = some (decide (j < k))
theorem Upk.get {k : Nat} {listed : Array Bool} (h : Upk ops k listed) {j : Nat} (hj : j < ops.size) (d : Bool) : listed.getD j d = decide (j < k) := by
  rw [Array.getD_eq_getD_getElem?, h.at_ j hj]
  rfl
theorem Upk.next {k : Nat} {listed : Array Bool} (h : Upk ops k listed) (hk : k < ops.size) : Upk ops (k + 1) (listed.setIfInBounds k true) := by
  refine ⟨by simpa using h.size, fun j hj => ?_⟩
  rw [Array.getElem?_setIfInBounds]
  by_cases e : k = j
  · subst e
    rw [if_pos rfl, if_pos (by rw [h.size]; exact hk), decide_eq_true (Nat.lt_succ_self k)]
  · rw [if_neg e, h.at_ j hj]
    congr 1
    exact decide_eq_decide.2 (by omega)
theorem upk_zero : Upk ops 0 (Array.replicate ops.size false) := ⟨by simp, fun j hj => by simp [hj]⟩
theorem ready_in {j : Nat} {listed : Array Bool} (h : j ∈ Region.ready md ops listed) : j < ops.size ∧ listed.getD j true = false := by
  obtain ⟨h1, o, ho, _⟩ := mem_ready.1 h
  exact ⟨(Array.getElem?_eq_some_iff.1 ho).1, h1⟩
theorem lexFrom_fast (D : List LD) (hD : ∀ (k : Nat) (o : Oper), ops[k]? = some o → D[k]? = some (ldOf md ops o)) (hl : D.length = ops.size) : ∀ (l : List LD) (k : Nat) (listed : Array Bool), D.drop k = l → k ≤ ops.size → Upk ops k listed → fastL k l = true → Region.lexFrom md ops l.length k listed = true
  | [], k, listed, hd, hk, hu, _ => by
    have hk2 : ops.size ≤ k := by rw [← hl]; exact List.drop_eq_nil_iff.1 hd
    show (Region.ready md ops listed).isEmpty = true
    rw [List.isEmpty_iff]
    refine List.eq_nil_iff_forall_not_mem.2 fun j hj => ?_
    obtain ⟨h1, h2⟩ := ready_in hj
    rw [hu.get h1, decide_eq_true (by omega)] at h2
    cases h2
  | x :: l, k, listed, hd, hk, hu, hf => by
    have hx : D[k]? = some x := by
      have := congrArg (·[0]?) hd
      simpa using this
    have hkl : k < ops.size := by rw [← hl]; exact (List.getElem?_eq_some_iff.1 hx).1
    obtain ⟨o, ho⟩ : ∃ o, ops[k]? = some o := ⟨_, Array.getElem?_eq_getElem hkl⟩
    have hxo : x = ldOf md ops o := by
      have := hD k o ho
      rw [hx] at this
      exact Option.some.inj this
    have hdl : D.drop (k + 1) = l := by
      have := congrArg List.tail hd
      simpa using this
    simp only [fastL, Bool.and_eq_true, List.all_eq_true, decide_eq_true_eq] at hf
    obtain ⟨f1, f2, f3⟩ := hf
    simp only [List.length_cons, Region.lexFrom, Bool.and_eq_true]
    refine ⟨⟨?_, ?_⟩, lexFrom_fast D hD hl l (k + 1) _ hdl hkl (hu.next hkl) f3⟩
    · refine List.contains_iff_mem.2 (mem_ready.2 ⟨?_, o, ho, fun e he hb => ?_⟩)
      · rw [hu.get hkl, decide_eq_false (Nat.lt_irrefl k)]
      · have : e.on < k := f1 e.on (by
          rw [hxo]
          exact List.mem_map.2 ⟨e, List.mem_filter.2 ⟨Array.mem_toList_iff.2 he, hb⟩, rfl⟩)
        rw [hu.get (by omega), decide_eq_true this]
    · unfold Region.free
      simp only [ho, List.all_eq_true, List.mem_range]
      intro j hj
      by_cases e : j = k
      · simp [e]
      · by_cases h2 : j < k
        · rw [hu.get hj, decide_eq_true h2]
          simp
        · obtain ⟨oj, hoj⟩ : ∃ oj, ops[j]? = some oj := ⟨_, Array.getElem?_eq_getElem hj⟩
          have hm : ldOf md ops oj ∈ l := by
            rw [← hdl]
            refine List.mem_of_getElem? (i := j - (k + 1)) ?_
            rw [List.getElem?_drop, show k + 1 + (j - (k + 1)) = j by omega]
            exact hD j oj hoj
          have := f2 _ hm
          rw [hxo, ld_apart] at this
          simp only [hoj]
          rcases Bool.or_eq_true_iff.1 this with h3 | h3
          · have h4 := List.contains_iff_mem.1 h3
            obtain ⟨e2, he2, e3⟩ := List.mem_map.1 h4
            obtain ⟨q1, q2⟩ := List.mem_filter.1 he2
            have h5 : oj.after.any (fun e => Region.binds md e && e.on == k) = true := by
              rw [Array.any_eq_true']
              exact ⟨e2, Array.mem_toList_iff.1 q1, by rw [q2, e3]; simp⟩
            rw [h5]
            simp
          · rw [h3]
            simp
theorem lexB_fast (D : List LD) (hs : Region.noSelect ops = true) (hD : ops.toList.map (ldOf md ops) = D) (hF : fastL 0 D = true) : Region.lexB md ops = true := by
  unfold Region.lexB
  rw [hs, Bool.true_and]
  have hl : D.length = ops.size := by rw [← hD]; simp
  have := lexFrom_fast (md := md) D (fun k o ho => by rw [← hD, List.getElem?_map, Array.getElem?_toList, ho]; rfl) hl D 0 (Array.replicate ops.size false) rfl (Nat.zero_le _) upk_zero hF
  rw [hl] at this
  exact this
end
end Go.Proofs.YtipceoeihiaieaaDoor.Gt
