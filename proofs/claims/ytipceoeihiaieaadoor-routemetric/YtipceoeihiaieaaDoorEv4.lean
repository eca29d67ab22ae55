/- What operations do with renamed blocks: the same, renamed. -/
import Derived.Test.YtipceoeihiaieaaDoorEv3
import Derived.Laws.Sem
namespace Go.Proofs.YtipceoeihiaieaaDoor.Ev
open Go
open ren (renR renL)
open plain (plainR plainL)
section
variable {P : Program} {m : Mp} {α β : Type}

theorem Sim.bnd {R : α → α → Prop} {Q : β → β → Prop} {s s' : Sem α} {f f' : α → Sem β} (hs : Sim P R m s s')
    (hf : ∀ a a', R a a' → Sim P Q m (f a) (f' a')) : Sim P Q m (s >>= f) (s' >>= f') := Sim.bind hs hf
theorem Sim.mono {R R' : α → α → Prop} {s s' : Sem α} (hs : Sim P R m s s') (h : ∀ a a', R a a' → R' a a') : Sim P R' m s s' := by
  induction hs with
  | doom h => exact .doom h
  | pure h' => exact .pure (h _ _ h')
  | load _ ih => exact .load ih
  | store _ ih => exact .store ih
  | new _ ih => exact .new ih
  | frozen _ ih => exact .frozen ih
  | getObj _ ih => exact .getObj ih
  | setObj _ ih => exact .setObj ih
  | program _ ih => exact .program ih
  | mark _ ih => exact .mark ih
  | choose _ ih => exact .choose ih
theorem doom_bind {s : Sem α} {f : α → Sem β} (hf : ∀ a h, arun P (f a) h = none) : ∀ h, arun P (s >>= f) h = none := fun h => by
  change arun P (s.bind f) h = none
  rw [arun_bind]
  cases arun P s h with
  | none => rfl
  | some x => exact hf _ _
theorem doom_first {s : Sem α} {f : α → Sem β} (hs : ∀ h, arun P s h = none) : ∀ h, arun P (s >>= f) h = none := fun h => by
  change arun P (s.bind f) h = none
  rw [arun_bind, hs]; rfl
theorem Sim.halt {R : α → α → Prop} {x : Halt} {s' : Sem α} : Sim P R m (.halt x) s' := .doom fun _ => rfl
theorem doom_prog {k : Program → Sem α} (h : ∀ hh, arun P (k P) hh = none) : ∀ hh, arun P (program >>= k) hh = none := fun hh => h hh
theorem doom_runtime (e : RuntimeError) : ∀ h, arun P (runtimePanic e : Sem α) h = none := by
  unfold runtimePanic
  refine doom_prog ?_
  cases e <;> first
    | exact fun _ => rfl
    | exact doom_bind fun _ => fun _ => rfl
    | exact doom_bind fun _ => doom_bind fun _ _ => rfl
theorem Sim.runtime {R : α → α → Prop} {e : RuntimeError} {s' : Sem α} : Sim P R m (runtimePanic e) s' := .doom (doom_runtime e)
theorem Sim.bounds {R : α → α → Prop} {k : IntKind} {x y : Int} {c : BoundsCode} {s' : Sem α} : Sim P R m (boundsPanic k x y c) s' := by
  refine .doom ?_
  unfold boundsPanic
  dsimp only
  split
  · exact doom_bind fun _ => doom_runtime _
  · exact doom_bind fun _ => doom_runtime _

/-- Steps that look at the program alone. -/
inductive Still (P : Program) {α : Type} : Sem α → Prop
  | pure {a : α} : Still P (.pure a)
  | program {k : Program → Sem α} (h : Still P (k P)) : Still P (.program k)
  | mark {x : Mark} {k : Sem α} (h : Still P k) : Still P (.mark x k)
  | halt {x : Halt} : Still P (.halt x)
theorem Still.bind {s : Sem α} {f : α → Sem β} (hs : Still P s) (hf : ∀ a, Still P (f a)) : Still P (s.bind f) := by
  induction hs with
  | pure => exact hf _
  | program _ ih => exact .program ih
  | mark _ ih => exact .mark ih
  | halt => exact .halt
theorem Still.bnd {s : Sem α} {f : α → Sem β} (hs : Still P s) (hf : ∀ a, Still P (f a)) : Still P (s >>= f) := Still.bind hs hf
theorem Still.sim {s : Sem α} (h : Still P s) : Sim P Eq m s s := by
  induction h with
  | pure => exact .pure rfl
  | program _ ih => exact .program ih
  | mark _ ih => exact .mark ih
  | halt => exact .halt
theorem Still.typeInfo (t : TypeId) : Still P (typeInfo t) := by
  unfold Go.typeInfo
  refine .program ?_
  change Still P (match P.info? t with | some i => Pure.pure i | none => stuck _)
  split
  · exact .pure
  · exact .halt
theorem Still.underlying (t : TypeId) : Still P (underlying t) := by
  unfold Go.underlying
  refine .program ?_
  change Still P (match P.underlying t with | some i => Pure.pure i | none => stuck _)
  split
  · exact .pure
  · exact .halt
theorem Still.sizeOf (t : TypeId) : Still P (sizeOf t) := Still.bnd (Still.typeInfo t) fun _ => .pure
theorem Still.isAgg (t : TypeId) : Still P (isAgg t) := by
  unfold Go.isAgg
  refine Still.bnd (Still.underlying t) fun d => ?_
  split <;> exact .pure
theorem Still.elemOf (t : TypeId) : Still P (elemOf t) := by
  unfold Go.elemOf
  refine Still.bnd (Still.underlying t) fun d => ?_
  split
  · exact .pure
  · exact .halt
theorem Still.askRoom (n : Nat) : Still P (askRoom n) := by
  unfold Go.askRoom
  split
  · exact .mark .pure
  · exact .pure
theorem Still.listMapM {β : Type} {f : β → Sem α} (h : ∀ x, Still P (f x)) : ∀ l : List β, Still P (l.mapM f)
  | [] => by rw [List.mapM_nil]; exact .pure
  | x :: l => by
    rw [List.mapM_cons]
    exact Still.bnd (h x) fun _ => Still.bnd (Still.listMapM h l) fun _ => .pure
theorem Still.arrMapM {β : Type} {f : β → Sem α} (h : ∀ x, Still P (f x)) (l : Array β) : Still P (l.mapM f) := by
  rw [Array.mapM_eq_mapM_toList]
  exact Still.bnd (Still.listMapM h _) fun _ => .pure

/-- A type's nought bears no address. -/
def zok (P : Program) (t : TypeId) : Bool :=
  match P.info? t with
  | some i => match i.zero with
    | some z => plain z
    | none => true
  | none => true
theorem sim_infoE {R : α → α → Prop} {t : TypeId} {f f' : TypeInfo → Sem α} (h : ∀ d, P.info? t = some d → Sim P R m (f d) (f' d)) : Sim P R m (typeInfo t >>= f) (typeInfo t >>= f') := by
  unfold Go.typeInfo
  refine .program ?_
  change Sim P R m ((match P.info? t with | some d => Pure.pure d | none => stuck _) >>= f) ((match P.info? t with | some d => Pure.pure d | none => stuck _) >>= f')
  cases hd : P.info? t with
  | none => exact .halt
  | some d => exact h d hd
theorem sim_zeroValue {t : TypeId} (h : zok P t = true) : Sim P (fun a a' => a = a' ∧ plain a = true) m (zeroValue t) (zeroValue t) := by
  unfold Go.zeroValue
  refine sim_infoE fun i hi => ?_
  unfold zok at h
  rw [hi] at h
  dsimp only at h
  cases hz : i.zero with
  | none => exact .halt
  | some z => rw [hz] at h; exact Sim.pure (R := fun a a' => a = a' ∧ plain a = true) ⟨rfl, h⟩

theorem renA_add (a : Addr) (n : Nat) : renA m (a.add n) = (renA m a).add n := by
  unfold Addr.add renA
  split
  · rfl
  · simp; omega
theorem ren_size (a : Array Value) : (renR m a).size = a.size := by simp [renR_map]
theorem renR_push (a : Array Value) (v : Value) : renR m (a.push v) = (renR m a).push (ren m v) := by simp [renR_map]
theorem renR_append (a b : Array Value) : renR m (a ++ b) = renR m a ++ renR m b := by simp [renR_map]
theorem renR_extract (a : Array Value) (i j : Nat) : renR m (a.extract i j) = (renR m a).extract i j := by simp [renR_map]
theorem renR_get (a : Array Value) (i : Nat) : (renR m a)[i]? = (a[i]?).map (ren m) := by simp [renR_map]
theorem renR_toList (a : Array Value) : (renR m a).toList = a.toList.map (ren m) := by simp [renR_map]
theorem ren_cells (v : Value) : (ren m v).cells = renR m v.cells := by
  cases v <;> simp [ren, Value.cells, renR_map]

theorem sim_load (a : Addr) : Sim P (fun v v' => v' = ren m v) m (Go.load a) (Go.load (renA m a)) := .load fun _ => .pure rfl
theorem sim_store (a : Addr) (v : Value) : Sim P (fun _ _ => True) m (Go.store a v) (Go.store (renA m a) (ren m v)) := .store (.pure trivial)
theorem sim_loadCellsFrom (a : Addr) : ∀ (n i : Nat) (acc : Array Value), Sim P (fun x y => y = renR m x) m (loadCellsFrom a i n acc) (loadCellsFrom (renA m a) i n (renR m acc))
  | 0, _, _ => .pure rfl
  | n + 1, i, acc => by
    unfold Go.loadCellsFrom
    refine Sim.bnd (R := fun v v' => v' = ren m v) ?_ ?_
    · rw [← renA_add]; exact sim_load _
    · rintro v _ rfl
      rw [← renR_push]
      exact sim_loadCellsFrom a n _ _
theorem sim_loadCells (a : Addr) (n : Nat) : Sim P (fun x y => y = renR m x) m (loadCells a n) (loadCells (renA m a) n) := by
  have := sim_loadCellsFrom (P := P) (m := m) a n 0 #[]
  unfold Go.loadCells
  rwa [show renR m #[] = #[] by simp [renR_map]] at this
theorem sim_storeCells (a : Addr) : ∀ (vs : List Value) (i : Nat), Sim P (fun _ _ => True) m (storeCells a vs i) (storeCells (renA m a) (vs.map (ren m)) i)
  | [], _ => .pure trivial
  | v :: vs, i => by
    rw [List.map_cons]
    unfold Go.storeCells
    refine Sim.bnd (R := fun _ _ => True) ?_ ?_
    · rw [← renA_add]; exact sim_store _ _
    · intro _ _ _; exact sim_storeCells a vs _
theorem sim_loadVar (t : TypeId) (a : Addr) : Sim P (fun x y => y = ren m x) m (loadVar t a) (loadVar t (renA m a)) := by
  unfold Go.loadVar
  refine Sim.bnd (Still.isAgg t).sim ?_
  rintro b _ rfl
  cases b
  · exact sim_load a
  · refine Sim.bnd (Still.sizeOf t).sim ?_
    rintro n _ rfl
    refine Sim.bnd (sim_loadCells a n) ?_
    rintro x _ rfl
    exact .pure (by simp [ren])
theorem sim_storeVar (t : TypeId) (a : Addr) (v : Value) : Sim P (fun _ _ => True) m (storeVar t a v) (storeVar t (renA m a) (ren m v)) := by
  unfold Go.storeVar
  refine Sim.bnd (Still.sizeOf t).sim ?_
  rintro n _ rfl
  rw [ren_cells, ren_size]
  by_cases h : v.cells.size ≠ n
  · simp only [h, if_true, ne_eq, not_false_eq_true]; exact .halt
  · simp only [h, if_false]
    rw [renR_toList]
    exact sim_storeCells _ _ _
theorem sim_newRow (e : TypeId) (c : Array Value) : Sim P (fun a a' => a' = renA m a) m (newRow e c) (newRow e (renR m c)) := by
  unfold Go.newRow newObj
  have h1 : Obj.cells (renR m c) e = renO m (.cells c e) := rfl
  change Sim P (fun a a' => a' = renA m a) m (.new (.cells c e) fun n => .pure (⟨n, 0, none⟩ : Addr)) (.new (.cells (renR m c) e) fun n => .pure (⟨n, 0, none⟩ : Addr))
  rw [h1]
  exact .new fun n h _ => .pure (by simp [renA, h])
theorem sim_newVar (t : TypeId) (v : Value) : Sim P (fun a a' => a' = renA m a) m (newVar t v) (newVar t (ren m v)) := by
  unfold Go.newVar
  rw [ren_cells]
  exact sim_newRow _ _

theorem ren_ptr (a : Addr) : ren m (.pointer (some a)) = .pointer (some (renA m a)) := by simp [ren]
theorem ren_agg (c : Array Value) : ren m (.agg c) = .agg (renR m c) := by simp [ren]
theorem ren_tuple (c : Array Value) : ren m (.tuple c) = .tuple (renR m c) := by simp [ren]
theorem ren_slice (a : Addr) (l : Nat) {c : Nat} (h : c < Big) : ren m (.slice (some a) l c) = .slice (some (renA m a)) l c := by simp [ren, renC, h]
/-- An operation's answer, renamed. -/
abbrev RV (m : Mp) : Value → Value → Prop := fun x y => y = ren m x
theorem sim_alloc {t : TypeId} (h : zok P t = true) : Sim P (RV m) m (Instr.alloc t true (.tuple #[])) (Instr.alloc t true (.tuple #[])) := by
  unfold Instr.alloc
  refine Sim.bnd (sim_zeroValue h) ?_
  rintro z _ ⟨rfl, hz⟩
  have := sim_newVar (P := P) (m := m) t z
  rw [ren_plain m z hz] at this
  refine Sim.bnd this ?_
  rintro a _ rfl
  exact .pure (ren_ptr a).symm
theorem sim_box (t : TypeId) (v : Value) : Sim P (RV m) m (Instr.box t v) (Instr.box t (ren m v)) := by
  unfold Instr.box
  refine Sim.bnd (sim_newVar t v) ?_
  rintro a _ rfl
  exact .pure (ren_ptr a).symm

theorem fill_fold (m : Mp) (off : Nat) : ∀ (l : List (Value × Nat)) (cells : Array Value),
    (l.map fun p => (ren m p.1, p.2)).foldl (fun cs (p : Value × Nat) => cs.setIfInBounds (off + p.2) p.1) (renR m cells)
      = renR m (l.foldl (fun cs (p : Value × Nat) => cs.setIfInBounds (off + p.2) p.1) cells)
  | [], _ => rfl
  | (v, j) :: l, cells => by
    simp only [List.map_cons, List.foldl_cons]
    rw [← fill_fold m off l]
    congr 1
    simp [renR_map]
theorem fill_ren (m : Mp) (place : Nat → Option (Nat × Nat)) : ∀ (l : List (Nat × Value)) (cells : Array Value),
    Instr.fill place (renR m cells) (l.map fun p => (p.1, ren m p.2)) = (Instr.fill place cells l).map (renR m)
  | [], _ => rfl
  | (i, v) :: l, cells => by
    simp only [List.map_cons, Instr.fill]
    cases place i with
    | none => rfl
    | some os =>
      obtain ⟨off, size⟩ := os
      simp only [ren_cells, ren_size]
      split
      · rfl
      · rw [← fill_ren m place l]
        congr 1
        rw [← Array.foldl_toList, ← Array.foldl_toList, ← fill_fold]
        congr 1
        simp [renR_map, Array.toList_zipIdx, List.zipIdx_map]

theorem sim_build {t : TypeId} (h : zok P t = true) (parts : Array (Nat × Value)) :
    Sim P (RV m) m (Instr.build t parts) (Instr.build t (parts.map fun p => (p.1, ren m p.2))) := by
  unfold Instr.build
  refine Sim.bnd (R := fun a a' => a = a' ∧ plain a = true) (sim_zeroValue h) ?_
  rintro z _ ⟨rfl, hz⟩
  refine Sim.bnd (Still.underlying t).sim ?_
  rintro d _ rfl
  have hzc : renR m z.cells = z.cells := by rw [← ren_cells, ren_plain m z hz]
  split
  · refine Sim.bnd (Still.arrMapM (fun _ => Still.bnd (Still.sizeOf _) fun _ => .pure) _).sim ?_
    rintro places _ rfl
    have := fill_ren m (places[·]?) parts.toList z.cells
    rw [hzc] at this
    have hl : (parts.map fun p => (p.1, ren m p.2)).toList = parts.toList.map fun p => (p.1, ren m p.2) := by simp
    rw [hl, this]
    cases Instr.fill (places[·]?) z.cells parts.toList with
    | none => exact .halt
    | some cs => exact .pure (ren_agg cs).symm
  · refine Sim.bnd (Still.sizeOf _).sim ?_
    rintro n _ rfl
    have := fill_ren m (fun i => some (i * n, n)) parts.toList z.cells
    rw [hzc] at this
    have hl : (parts.map fun p => (p.1, ren m p.2)).toList = parts.toList.map fun p => (p.1, ren m p.2) := by simp
    rw [hl, this]
    cases Instr.fill (fun i => some (i * n, n)) z.cells parts.toList with
    | none => exact .halt
    | some cs => exact .pure (ren_agg cs).symm
  · exact .halt

theorem plain_cells {v : Value} (h : plain v = true) : plainR v.cells = true := by
  cases v <;> simp_all [Value.cells, plain, plainR, plainL]
theorem plain_noughts {z : Array Value} (h : plainR z = true) (n : Nat) : plainR ((Array.range n).map (z[· % z.size]!)) = true := by
  rw [plainR_iff]
  intro v hv
  rw [Array.mem_map] at hv
  obtain ⟨i, _, rfl⟩ := hv
  by_cases hi : i % z.size < z.size
  · rw [getElem!_pos z _ hi]
    exact plainR_iff.1 h _ (Array.getElem_mem _)
  · rw [getElem!_neg z _ hi]; rfl

/-- The nought of a slice type's elements bears no address. -/
def zokE (P : Program) (t : TypeId) : Bool :=
  match P.underlying t with
  | some (.slice e) => zok P e
  | _ => true
theorem sim_underE {R : α → α → Prop} {t : TypeId} {f f' : TypeDesc → Sem α} (h : ∀ d, P.underlying t = some d → Sim P R m (f d) (f' d)) : Sim P R m (underlying t >>= f) (underlying t >>= f') := by
  unfold Go.underlying
  refine .program ?_
  change Sim P R m ((match P.underlying t with | some d => Pure.pure d | none => stuck _) >>= f) ((match P.underlying t with | some d => Pure.pure d | none => stuck _) >>= f')
  cases hd : P.underlying t with
  | none => exact .halt
  | some d => exact h d hd

theorem sim_buildSlice {t : TypeId} (h : zokE P t = true) {n : Nat} (hn : n < Big) (parts : Array (Nat × Value)) :
    Sim P (RV m) m (Instr.buildSlice t n parts) (Instr.buildSlice t n (parts.map fun p => (p.1, ren m p.2))) := by
  unfold Instr.buildSlice
  refine sim_underE fun d hd => ?_
  split
  · next e =>
    have hz : zok P e = true := by unfold zokE at h; rw [hd] at h; exact h
    refine Sim.bnd (Still.sizeOf _).sim ?_
    rintro k _ rfl
    by_cases hk : n * k > 2 ^ 24
    · simp only [hk, if_true]; exact .halt
    · simp only [hk, if_false]
      have key : ∀ (msg : String) (z : Array Value), plainR z = true → Sim P (RV m) m
          (match Instr.fill (fun i => some (i * k, k)) ((Array.range (n * k)).map (z[· % z.size]!)) parts.toList with
            | some cells => do pure (.slice (some (← newRow e cells)) n n)
            | _ => stuck msg)
          (match Instr.fill (fun i => some (i * k, k)) ((Array.range (n * k)).map (z[· % z.size]!)) (parts.map fun p => (p.1, ren m p.2)).toList with
            | some cells => do pure (.slice (some (← newRow e cells)) n n)
            | _ => stuck msg) := by
        intro msg z hz
        have := fill_ren m (fun i => some (i * k, k)) parts.toList ((Array.range (n * k)).map (z[· % z.size]!))
        rw [renR_plain m _ (plain_noughts hz _)] at this
        have hl : (parts.map fun p => (p.1, ren m p.2)).toList = parts.toList.map fun p => (p.1, ren m p.2) := by simp
        rw [hl, this]
        cases Instr.fill (fun i => some (i * k, k)) ((Array.range (n * k)).map (z[· % z.size]!)) parts.toList with
        | none => exact .halt
        | some cs =>
          refine Sim.bnd (sim_newRow e cs) ?_
          rintro a _ rfl
          exact .pure (ren_slice a n hn).symm
      by_cases h0 : n * k = 0
      · rw [if_pos h0, if_pos h0]
        exact key _ #[] rfl
      · rw [if_neg h0, if_neg h0]
        refine Sim.bnd (sim_zeroValue hz) ?_
        rintro z _ ⟨rfl, hz⟩
        exact key _ z.cells (plain_cells hz)
  · exact .halt
end
end Go.Proofs.YtipceoeihiaieaaDoor.Ev
