/- What operations do with renamed blocks, further. -/
import Derived.Test.YtipceoeihiaieaaDoorEv4
namespace Go.Proofs.YtipceoeihiaieaaDoor.Ev
open Go
open ren (renR renL)
open plain (plainR plainL)
section
variable {P : Program} {m : Mp} {α β : Type}

theorem sim_asIntOf (v : Value) : Sim P Eq m (asIntOf v) (asIntOf (ren m v)) := by
  cases v with
  | int k n => simp only [ren]; exact .pure rfl
  | pointer a => cases a <;> exact .halt
  | _ => exact .halt
theorem sim_asInt (v : Value) : Sim P Eq m (asInt v) (asInt (ren m v)) := by
  unfold asInt
  refine Sim.bnd (sim_asIntOf v) ?_
  rintro x _ rfl
  exact .pure rfl
theorem sim_asBool (v : Value) : Sim P Eq m (asBool v) (asBool (ren m v)) := by
  cases v with
  | bool b => simp only [ren]; exact .pure rfl
  | _ => exact .halt
theorem sim_asAgg (v : Value) : Sim P (fun x y => y = renR m x) m (asAgg v) (asAgg (ren m v)) := by
  cases v with
  | agg c => simp only [ren]; exact .pure rfl
  | _ => exact .halt
theorem sim_sureAddr (v : Value) : Sim P (fun x y => y = renA m x) m (Instr.sureAddr v) (Instr.sureAddr (ren m v)) := by
  cases v with
  | pointer a =>
    cases a with
    | none => exact .halt
    | some a => rw [ren_ptr]; exact .pure rfl
  | _ => exact .halt
theorem sim_asAddr (v : Value) : Sim P (fun x y => y = renA m x) m (asAddr v) (asAddr (ren m v)) := by
  cases v with
  | pointer a =>
    cases a with
    | none => exact .doom (doom_runtime (α := Addr) .nilDeref)
    | some a => rw [ren_ptr]; exact .pure rfl
  | _ => exact .halt
theorem Sim.ite {R : α → α → Prop} {c : Prop} [Decidable c] {s t s' t' : Sem α} (h1 : Sim P R m s s') (h2 : Sim P R m t t') : Sim P R m (if c then s else t) (if c then s' else t') := by
  split
  · exact h1
  · exact h2

theorem sim_part (t : TypeId) (cs : Array Value) (off : Nat) : Sim P (RV m) m (part t cs off) (part t (renR m cs) off) := by
  unfold part
  refine Sim.bnd (Still.isAgg t).sim ?_
  rintro b _ rfl
  cases b
  · simp only [Bool.false_eq_true, if_false, renR_get]
    cases cs[off]? with
    | none => exact .halt
    | some v => exact .pure rfl
  · simp only [if_true]
    refine Sim.bnd (Still.sizeOf t).sim ?_
    rintro n _ rfl
    rw [← renR_extract]
    exact .pure (ren_agg _).symm

theorem sim_field (t : TypeId) (v : Value) (i : Nat) : Sim P (RV m) m (Instr.field t v i) (Instr.field t (ren m v) i) := by
  unfold Instr.field
  refine Sim.bnd (Still.underlying t).sim ?_
  rintro d _ rfl
  split
  · split
    · refine Sim.bnd (sim_asAgg v) ?_
      rintro c _ rfl
      exact sim_part _ _ _
    · exact .halt
  · exact .halt

theorem doom_byteOf {a : Addr} (h : a.spot = none) : ∀ hh, arun P (byteOf a) hh = none := by
  unfold byteOf
  rw [h]
  exact fun _ => rfl
theorem doom_partAt (a : Addr) (i j : Nat) : ∀ hh, arun P (partAt a i j) hh = none := by
  unfold partAt
  refine doom_bind fun b => ?_
  exact doom_first (doom_byteOf rfl)
theorem sim_fieldPlace (a : Addr) (f : Field) : Sim P (fun x y => y = renA m x) m (fieldPlace a f) (fieldPlace (renA m a) f) := by
  unfold fieldPlace
  refine Sim.bnd (Still.sizeOf _).sim ?_
  rintro n _ rfl
  by_cases h : n = 0
  · rw [if_pos h]; exact .doom (doom_partAt _ _ _)
  · rw [if_neg h, if_neg h, ← renA_add]; exact .pure rfl
theorem sim_fieldAt (t : TypeId) (v : Value) (i : Nat) : Sim P (RV m) m (Instr.fieldAt t v i) (Instr.fieldAt t (ren m v) i) := by
  unfold Instr.fieldAt
  refine Sim.bnd (Still.underlying t).sim ?_
  rintro d _ rfl
  split
  · split
    · refine Sim.bnd (sim_sureAddr v) ?_
      rintro a _ rfl
      refine Sim.bnd (sim_fieldPlace a _) ?_
      rintro b _ rfl
      exact .pure (ren_ptr b).symm
    · exact .halt
  · exact .halt

theorem sim_indexAt (t : TypeId) (v ix : Value) : Sim P (RV m) m (Instr.indexAt t v ix) (Instr.indexAt t (ren m v) (ren m ix)) := by
  unfold Instr.indexAt
  refine Sim.bnd (sim_asIntOf ix) ?_
  rintro ⟨k, i⟩ _ rfl
  refine Sim.bnd (Still.underlying t).sim ?_
  rintro d _ rfl
  have fin : ∀ (no : Unsupported) (base : Option Addr) (len : Nat) (el : TypeId), Sim P (RV m) m
      (do
        let tiny := len ≤ 1 && (match ← underlying t with | .array .. => true | _ => false)
        match base with
        | some a =>
          if 0 ≤ i ∧ i < len then pure (.pointer (some (a.add (i.toNat * (← sizeOf el)))))
          else if tiny then unsupported no
          else boundsPanic k i len .index
        | none => boundsPanic k i 0 .index)
      (do
        let tiny := len ≤ 1 && (match ← underlying t with | .array .. => true | _ => false)
        match base.map (renA m) with
        | some a =>
          if 0 ≤ i ∧ i < len then pure (.pointer (some (a.add (i.toNat * (← sizeOf el)))))
          else if tiny then unsupported no
          else boundsPanic k i len .index
        | none => boundsPanic k i 0 .index) := by
    intro no base len el
    refine Sim.bnd (Still.underlying t).sim ?_
    rintro d _ rfl
    cases base with
    | none => exact .bounds
    | some a =>
      simp only [Option.map_some]
      by_cases hi : 0 ≤ i ∧ i < len
      · rw [if_pos hi, if_pos hi]
        refine Sim.bnd (Still.sizeOf _).sim ?_
        rintro n _ rfl
        exact .pure (by rw [← renA_add]; exact (ren_ptr _).symm)
      · rw [if_neg hi, if_neg hi]
        exact Sim.ite .halt .bounds
  cases d with
  | array len el =>
    dsimp only
    refine Sim.bnd (sim_sureAddr v) ?_
    rintro a _ rfl
    exact fin _ (some a) len el
  | slice el =>
    cases v with
    | slice a l c =>
      simp only [ren]
      exact fin _ a l el
    | _ => exact .doom (doom_first fun _ => rfl)
  | _ => exact .doom (doom_first fun _ => rfl)

theorem sim_index (t : TypeId) (v ix : Value) : Sim P (RV m) m (Instr.index t v ix) (Instr.index t (ren m v) (ren m ix)) := by
  unfold Instr.index
  refine Sim.bnd (sim_asIntOf ix) ?_
  rintro ⟨k, i⟩ _ rfl
  refine Sim.bnd (Still.underlying t).sim ?_
  rintro d _ rfl
  cases d with
  | array len el =>
    cases v with
    | agg cs =>
      rw [ren_agg]
      dsimp only
      by_cases hi : 0 ≤ i ∧ i < len
      · rw [if_pos hi, if_pos hi]
        refine Sim.bnd (Still.sizeOf _).sim ?_
        rintro n _ rfl
        exact sim_part _ _ _
      · rw [if_neg hi, if_neg hi]; exact .bounds
    | _ => exact .halt
  | string =>
    cases v with
    | string s =>
      simp only [ren]
      split
      · exact .pure (ren_plain m _ rfl).symm
      · exact .bounds
    | _ => exact .halt
  | _ => cases v <;> exact .halt

theorem sim_extract (v : Value) (i : Nat) : Sim P (RV m) m (Instr.extract v i) (Instr.extract (ren m v) i) := by
  unfold Instr.extract
  cases v with
  | tuple vs =>
    rw [ren_tuple]
    simp only [renR_get]
    cases vs[i]? with
    | none => exact .halt
    | some v => exact .pure rfl
  | _ => exact .halt

theorem sim_makeSlice {t : TypeId} (h : zokE P t = true) (l c : Value) (hc : ∀ k n, c = .int k n → (IntKind.i64.wrap n).toNat < Big) :
    Sim P (RV m) m (Instr.makeSlice t l c) (Instr.makeSlice t (ren m l) (ren m c)) := by
  unfold Instr.makeSlice
  refine sim_underE fun d hd => ?_
  split
  · next e =>
    have hz : zok P e = true := by unfold zokE at h; rw [hd] at h; exact h
    refine Sim.bnd (sim_asInt l) ?_
    rintro ln _ rfl
    refine Sim.bnd (R := fun x y => x = y ∧ (IntKind.i64.wrap x).toNat < Big) ?_ ?_
    · cases c with
      | int k n => simp only [ren]; exact .pure ⟨rfl, hc k n rfl⟩
      | pointer a => cases a <;> exact .halt
      | _ => exact .halt
    rintro cn _ ⟨rfl, hcn⟩
    refine Sim.bnd (Still.typeInfo _).sim ?_
    rintro i _ rfl
    dsimp only
    split
    · split
      · exact .doom (doom_first (doom_runtime _))
      · split
        · exact .doom (doom_first (doom_runtime _))
        · exact .doom (doom_bind fun _ => doom_first (doom_runtime _))
    · refine Sim.bnd (Still.askRoom _).sim ?_
      rintro _ _ _
      refine Sim.bnd (Still.sizeOf _).sim ?_
      rintro s _ rfl
      have key : ∀ z : Array Value, plainR z = true → Sim P (RV m) m
          (do
            let a ← newRow e ((Array.range ((IntKind.i64.wrap cn).toNat * s)).map (z[· % z.size]!))
            pure (.slice (some a) (IntKind.i64.wrap ln).toNat (IntKind.i64.wrap cn).toNat))
          (do
            let a ← newRow e ((Array.range ((IntKind.i64.wrap cn).toNat * s)).map (z[· % z.size]!))
            pure (.slice (some a) (IntKind.i64.wrap ln).toNat (IntKind.i64.wrap cn).toNat)) := by
        intro z hz
        have := sim_newRow (P := P) (m := m) e ((Array.range ((IntKind.i64.wrap cn).toNat * s)).map (z[· % z.size]!))
        rw [renR_plain m _ (plain_noughts hz _)] at this
        refine Sim.bnd this ?_
        rintro a _ rfl
        exact .pure (ren_slice a _ hcn).symm
      by_cases h0 : (IntKind.i64.wrap cn).toNat * s = 0
      · rw [if_pos h0]
        exact key #[] rfl
      · rw [if_neg h0]
        refine Sim.bnd (sim_zeroValue hz) ?_
        rintro z _ ⟨rfl, hz⟩
        exact key z.cells (plain_cells hz)
  · exact .halt

theorem sim_sliceBound (v : Value) (y : Nat) (c : BoundsCode) : Sim P Eq m (Instr.sliceBound v y c) (Instr.sliceBound (ren m v) y c) := by
  unfold Instr.sliceBound
  refine Sim.bnd (sim_asIntOf v) ?_
  rintro ⟨k, i⟩ _ rfl
  dsimp only
  split
  · exact .pure rfl
  · exact .bounds
theorem sb {Q : β → β → Prop} {v : Value} {y : Nat} {c : BoundsCode} {f f' : Nat → Sem β} (h : ∀ x, x ≤ y → Sim P Q m (f x) (f' x)) :
    Sim P Q m (Instr.sliceBound v y c >>= f) (Instr.sliceBound (ren m v) y c >>= f') := by
  refine Sim.bnd (R := fun a b => a = b ∧ a ≤ y) ?_ ?_
  · unfold Instr.sliceBound
    refine Sim.bnd (sim_asIntOf v) ?_
    rintro ⟨k, i⟩ _ rfl
    dsimp only
    split
    · exact .pure ⟨rfl, by omega⟩
    · exact .bounds
  · rintro x _ ⟨rfl, hx⟩
    exact h x hx
theorem sliceBounds_cap {B : Nat} {b : Bool} {l c : Nat} {lo hi mx : Option Value} (hl : c < B) : Sim P (fun x y => x = y ∧ x.2.2 < B) m (Instr.sliceBounds b l c lo hi mx) (Instr.sliceBounds b l c (lo.map (ren m)) (hi.map (ren m)) (mx.map (ren m))) := by
  unfold Instr.sliceBounds
  cases mx <;> cases hi <;> cases lo <;> simp only [Option.map_some, Option.map_none, pure_bind, Option.isSome_some, Option.isSome_none]
  · exact .pure ⟨rfl, hl⟩
  · exact sb fun _ _ => .pure ⟨rfl, hl⟩
  · exact sb fun _ _ => .pure ⟨rfl, hl⟩
  · exact sb fun _ _ => sb fun _ _ => .pure ⟨rfl, hl⟩
  · exact sb fun _ _ => .halt
  · exact sb fun _ _ => .halt
  · exact sb fun _ h => sb fun _ _ => .pure ⟨rfl, Nat.lt_of_le_of_lt h hl⟩
  · exact sb fun _ h => sb fun _ _ => sb fun _ _ => .pure ⟨rfl, Nat.lt_of_le_of_lt h hl⟩
theorem sim_sliceBounds (b : Bool) (l c : Nat) (lo hi mx : Option Value) : Sim P Eq m (Instr.sliceBounds b l c lo hi mx) (Instr.sliceBounds b l c (lo.map (ren m)) (hi.map (ren m)) (mx.map (ren m))) :=
  (sliceBounds_cap (Nat.lt_succ_self c)).mono fun _ _ h => h.1

/-- What a slicing may be asked of. -/
def capOk : Value → Bool
  | .slice (some _) _ c => Nat.blt c Big
  | _ => true
/-- An array's length is below Big. -/
def arrOk (P : Program) (t : TypeId) : Bool :=
  match P.underlying t with
  | some (.array n _) => Nat.blt n Big
  | some (.pointer e) => match P.underlying e with
    | some (.array n _) => Nat.blt n Big
    | _ => true
  | _ => true

theorem sim_slice {t : TypeId} {v : Value} (hv : capOk v = true) (ht : arrOk P t = true) (lo hi mx : Option Value) :
    Sim P (RV m) m (Instr.slice t v lo hi mx) (Instr.slice t (ren m v) (lo.map (ren m)) (hi.map (ren m)) (mx.map (ren m))) := by
  unfold Instr.slice
  refine sim_underE fun d hd => ?_
  cases d with
  | string =>
    cases v with
    | string s =>
      simp only [ren]
      rw [show (mx.map (ren m)).isSome = mx.isSome by cases mx <;> rfl]
      cases mx with
      | some x => exact .halt
      | none =>
        simp only [Option.isSome_none, Bool.false_eq_true, if_false]
        refine Sim.bnd (sim_sliceBounds false _ _ lo hi none) ?_
        rintro ⟨l, h, k⟩ _ rfl
        exact .pure (ren_plain m _ rfl).symm
    | _ => exact .halt
  | slice el =>
    cases v with
    | slice a l c =>
      cases a with
      | none =>
        simp only [ren, renC, Option.map_none]
        refine Sim.bnd (sim_sliceBounds true _ _ lo hi mx) ?_
        rintro ⟨l, h, k⟩ _ rfl
        refine Sim.bnd (Still.sizeOf _).sim ?_
        rintro n _ rfl
        refine .pure (ren_plain m _ ?_).symm
        dsimp only
        split <;> rfl
      | some a =>
        have hc : c < Big := by simpa [capOk] using hv
        rw [ren_slice a l hc]
        dsimp only
        refine Sim.bnd (sliceBounds_cap (b := true) (l := l) (lo := lo) (hi := hi) (mx := mx) hc) ?_
        rintro ⟨l, h, k⟩ _ ⟨rfl, hk⟩
        refine Sim.bnd (Still.sizeOf _).sim ?_
        rintro n _ rfl
        refine .pure ?_
        have hk' : k - l < Big := Nat.lt_of_le_of_lt (Nat.sub_le _ _) hk
        dsimp only
        split
        · exact (ren_slice a _ hk').symm
        · simp only [Option.map_some]
          rw [← renA_add]
          exact (ren_slice _ _ hk').symm
    | _ => exact .halt
  | pointer arr =>
    have hfin : ∀ msg : String, Sim P (RV m) m
        (do
          let a ← asAddr v
          let .array n elem ← underlying arr | stuck msg
          let (l, h, mm) ← Instr.sliceBounds false n n lo hi mx
          let size ← sizeOf elem
          pure (.slice (some (if mm = l then a else a.add (l * size))) (h - l) (mm - l)))
        (do
          let a ← asAddr (ren m v)
          let .array n elem ← underlying arr | stuck msg
          let (l, h, mm) ← Instr.sliceBounds false n n (lo.map (ren m)) (hi.map (ren m)) (mx.map (ren m))
          let size ← sizeOf elem
          pure (.slice (some (if mm = l then a else a.add (l * size))) (h - l) (mm - l))) := by
      intro msg
      refine Sim.bnd (sim_asAddr v) ?_
      rintro a _ rfl
      refine sim_underE fun d' hd' => ?_
      cases d' with
      | array n el =>
        have hn : n < Big := by
          unfold arrOk at ht
          rw [hd] at ht
          simp only [hd'] at ht
          simpa using ht
        dsimp only
        refine Sim.bnd (sliceBounds_cap (b := false) (l := n) (lo := lo) (hi := hi) (mx := mx) hn) ?_
        rintro ⟨l, h, k⟩ _ ⟨rfl, hk⟩
        refine Sim.bnd (Still.sizeOf _).sim ?_
        rintro s _ rfl
        refine .pure ?_
        have hk' : k - l < Big := Nat.lt_of_le_of_lt (Nat.sub_le _ _) hk
        dsimp only
        split
        · exact (ren_slice a _ hk').symm
        · rw [← renA_add]
          exact (ren_slice _ _ hk').symm
      | _ => exact .halt
    cases v with
    | pointer p => exact hfin _
    | _ => exact .doom (doom_first fun _ => rfl)
  | _ => exact .halt

theorem sim_sliceAt {t : TypeId} {v : Value} (hv : capOk v = true) (ht : arrOk P t = true) (lo hi mx : Option Value) :
    Sim P (RV m) m (Instr.sliceAt t v lo hi mx) (Instr.sliceAt t (ren m v) (lo.map (ren m)) (hi.map (ren m)) (mx.map (ren m))) := by
  unfold Instr.sliceAt
  refine sim_underE fun d hd => ?_
  cases d with
  | array n el =>
    have hn : n < Big := by
      unfold arrOk at ht
      rw [hd] at ht
      simpa using ht
    refine Sim.bnd (sim_sureAddr v) ?_
    rintro a _ rfl
    refine Sim.bnd (sliceBounds_cap (b := false) (l := n) (lo := lo) (hi := hi) (mx := mx) hn) ?_
    rintro ⟨l, h, k⟩ _ ⟨rfl, hk⟩
    refine Sim.bnd (Still.sizeOf _).sim ?_
    rintro s _ rfl
    refine .pure ?_
    have hk' : k - l < Big := Nat.lt_of_le_of_lt (Nat.sub_le _ _) hk
    split
    · exact (ren_slice a _ hk').symm
    · rw [← renA_add]
      exact (ren_slice _ _ hk').symm
  | _ => exact sim_slice hv ht lo hi mx
end
end Go.Proofs.YtipceoeihiaieaaDoor.Ev
