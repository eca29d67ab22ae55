import Derived.Test.YtjiopaojhenanaaGreatDoorWne74a0d85
import Derived.Deep.AppendSrc
namespace Go.Proofs.YtjiopaojhenanaaGreatDoor.Ev
open Go
open ren (renR renL)
open plain (plainR plainL)
section
variable {P : Program} {m : Mp} {α β : Type}
theorem Sim.bnd {R : α -> α -> Prop} {Q : β -> β -> Prop} {s s' : Sem α} {f f' : α -> Sem β} (hs : Sim P R m s s')
    (hf : ∀ a a', R a a' -> Sim P Q m (f a) (f' a')) : Sim P Q m (s >>= f) (s' >>= f') := Sim.bind hs hf
theorem Sim.mono {R R' : α -> α -> Prop} {s s' : Sem α} (hs : Sim P R m s s') (h : ∀ a a', R a a' -> R' a a') : Sim P R' m s s' := by
  induction hs with
  | doom h => exact .doom h
  | pure h' => exact .pure (h _ _ h')
  | load _ ih => exact .load ih
  | store _ ih => exact .store ih
  | new _ ih => exact .new ih
  | frozen _ ih => exact .frozen ih
  | getObj _ ih => exact .getObj ih
  | setObj _ ih => exact .setObj ih
  | program _ ih => exact .program ih
  | mark _ ih => exact .mark ih
  | choose _ ih => exact .choose ih
theorem doom_bind {s : Sem α} {f : α -> Sem β} (hf : ∀ a h, arun P (f a) h = none) : ∀ h, arun P (s >>= f) h = none := fun h => by
  change arun P (s.bind f) h = none
  rw [arun_bind]
  cases arun P s h with
  | none => rfl
  | some x => exact hf _ _
theorem doom_first {s : Sem α} {f : α -> Sem β} (hs : ∀ h, arun P s h = none) : ∀ h, arun P (s >>= f) h = none := fun h => by
  change arun P (s.bind f) h = none
  rw [arun_bind, hs]; rfl
theorem Sim.halt {R : α -> α -> Prop} {x : Halt} {s' : Sem α} : Sim P R m (.halt x) s' := .doom fun _ => rfl
theorem doom_prog {k : Program -> Sem α} (h : ∀ hh, arun P (k P) hh = none) : ∀ hh, arun P (program >>= k) hh = none := fun hh => h hh
theorem doom_runtime (e : RuntimeError) : ∀ h, arun P (runtimePanic e : Sem α) h = none := by
  unfold runtimePanic
  refine doom_prog ?_
  cases e <;> first
    | exact fun _ => rfl
    | exact doom_bind fun _ => fun _ => rfl
    | exact doom_bind fun _ => doom_bind fun _ _ => rfl
theorem Sim.runtime {R : α -> α -> Prop} {e : RuntimeError} {s' : Sem α} : Sim P R m (runtimePanic e) s' := .doom (doom_runtime e)
theorem Sim.bounds {R : α -> α -> Prop} {k : IntKind} {x y : Int} {c : BoundsCode} {s' : Sem α} : Sim P R m (boundsPanic k x y c) s' := by
  refine .doom ?_
  unfold boundsPanic
  dsimp only
  split
  . exact doom_bind fun _ => doom_runtime _
  . exact doom_bind fun _ => doom_runtime _
inductive Still (P : Program) {α : Type} : Sem α -> Prop
  | pure {a : α} : Still P (.pure a)
  | program {k : Program -> Sem α} (h : Still P (k P)) : Still P (.program k)
  | mark {x : Mark} {k : Sem α} (h : Still P k) : Still P (.mark x k)
  | halt {x : Halt} : Still P (.halt x)
theorem Still.bind {s : Sem α} {f : α -> Sem β} (hs : Still P s) (hf : ∀ a, Still P (f a)) : Still P (s.bind f) := by
  induction hs with
  | pure => exact hf _
  | program _ ih => exact .program ih
  | mark _ ih => exact .mark ih
  | halt => exact .halt
theorem Still.bnd {s : Sem α} {f : α -> Sem β} (hs : Still P s) (hf : ∀ a, Still P (f a)) : Still P (s >>= f) := Still.bind hs hf
theorem Still.sim {s : Sem α} (h : Still P s) : Sim P Eq m s s := by
  induction h with
  | pure => exact .pure rfl
  | program _ ih => exact .program ih
  | mark _ ih => exact .mark ih
  | halt => exact .halt
theorem Still.typeInfo (t : TypeId) : Still P (typeInfo t) := by
  unfold Go.typeInfo
  refine .program ?_
  change Still P (match P.info? t with | some i => Pure.pure i | none => stuck _)
  split
  . exact .pure
  . exact .halt
theorem Still.underlying (t : TypeId) : Still P (underlying t) := by
  unfold Go.underlying
  refine .program ?_
  change Still P (match P.underlying t with | some i => Pure.pure i | none => stuck _)
  split
  . exact .pure
  . exact .halt
theorem Still.sizeOf (t : TypeId) : Still P (sizeOf t) := Still.bnd (Still.typeInfo t) fun _ => .pure
theorem Still.isAgg (t : TypeId) : Still P (isAgg t) := by
  unfold Go.isAgg
  refine Still.bnd (Still.underlying t) fun d => ?_
  split <;> exact .pure
theorem Still.askRoom (n : Nat) : Still P (askRoom n) := by
  unfold Go.askRoom
  split
  . exact .mark .pure
  . exact .pure
theorem Still.listMapM {β : Type} {f : β -> Sem α} (h : ∀ x, Still P (f x)) : ∀ l : List β, Still P (l.mapM f)
  | [] => by rw [List.mapM_nil]; exact .pure
  | x :: l => by
    rw [List.mapM_cons]
    exact Still.bnd (h x) fun _ => Still.bnd (Still.listMapM h l) fun _ => .pure
theorem Still.arrMapM {β : Type} {f : β -> Sem α} (h : ∀ x, Still P (f x)) (l : Array β) : Still P (l.mapM f) := by
  rw [Array.mapM_eq_mapM_toList]
  exact Still.bnd (Still.listMapM h _) fun _ => .pure
def zok (P : Program) (t : TypeId) : Bool :=
  match P.info? t with
  | some i => match i.zero with
    | some z => plain z
    | none => true
  | none => true
theorem sim_infoE {R : α -> α -> Prop} {t : TypeId} {f f' : TypeInfo -> Sem α} (h : ∀ d, P.info? t = some d -> Sim P R m (f d) (f' d)) : Sim P R m (typeInfo t >>= f) (typeInfo t >>= f') := by
  unfold Go.typeInfo
  refine .program ?_
  change Sim P R m ((match P.info? t with | some d => Pure.pure d | none => stuck _) >>= f) ((match P.info? t with | some d => Pure.pure d | none => stuck _) >>= f')
  cases hd : P.info? t with
  | none => exact .halt
  | some d => exact h d hd
theorem sim_zeroValue {t : TypeId} (h : zok P t = true) : Sim P (fun a a' => a = a' /\ plain a = true) m (zeroValue t) (zeroValue t) := by
  unfold Go.zeroValue
  refine sim_infoE fun i hi => ?_
  unfold zok at h
  rw [hi] at h
  dsimp only at h
  cases hz : i.zero with
  | none => exact .halt
  | some z => rw [hz] at h; exact Sim.pure (R := fun a a' => a = a' /\ plain a = true) ⟨rfl, h⟩
theorem renA_add (a : Addr) (n : Nat) : renA m (a.add n) = (renA m a).add n := by
  unfold Addr.add renA
  split
  . rfl
  . simp; omega
theorem ren_size (a : Array Value) : (renR m a).size = a.size := by simp [renR_map]
theorem renR_push (a : Array Value) (v : Value) : renR m (a.push v) = (renR m a).push (ren m v) := by simp [renR_map]
theorem renR_extract (a : Array Value) (i j : Nat) : renR m (a.extract i j) = (renR m a).extract i j := by simp [renR_map]
theorem renR_get (a : Array Value) (i : Nat) : (renR m a)[i]? = (a[i]?).map (ren m) := by simp [renR_map]
theorem renR_toList (a : Array Value) : (renR m a).toList = a.toList.map (ren m) := by simp [renR_map]
theorem ren_cells (v : Value) : (ren m v).cells = renR m v.cells := by
  cases v <;> simp [ren, Value.cells, renR_map]
theorem sim_load (a : Addr) : Sim P (fun v v' => v' = ren m v) m (Go.load a) (Go.load (renA m a)) := .load fun _ => .pure rfl
theorem sim_store (a : Addr) (v : Value) : Sim P (fun _ _ => True) m (Go.store a v) (Go.store (renA m a) (ren m v)) := .store (.pure trivial)
theorem sim_loadCellsFrom (a : Addr) : ∀ (n i : Nat) (acc : Array Value), Sim P (fun x y => y = renR m x) m (loadCellsFrom a i n acc) (loadCellsFrom (renA m a) i n (renR m acc))
  | 0, _, _ => .pure rfl
  | n + 1, i, acc => by
    unfold Go.loadCellsFrom
    refine Sim.bnd (R := fun v v' => v' = ren m v) ?_ ?_
    . rw [← renA_add]; exact sim_load _
    . rintro v _ rfl
      rw [← renR_push]
      exact sim_loadCellsFrom a n _ _
theorem sim_loadCells (a : Addr) (n : Nat) : Sim P (fun x y => y = renR m x) m (loadCells a n) (loadCells (renA m a) n) := by
  have := sim_loadCellsFrom (P := P) (m := m) a n 0 #[]
  unfold Go.loadCells
  rwa [show renR m #[] = #[] by simp [renR_map]] at this
theorem sim_storeCells (a : Addr) : ∀ (vs : List Value) (i : Nat), Sim P (fun _ _ => True) m (storeCells a vs i) (storeCells (renA m a) (vs.map (ren m)) i)
  | [], _ => .pure trivial
  | v :: vs, i => by
    rw [List.map_cons]
    unfold Go.storeCells
    refine Sim.bnd (R := fun _ _ => True) ?_ ?_
    . rw [← renA_add]; exact sim_store _ _
    . intro _ _ _; exact sim_storeCells a vs _
theorem sim_loadVar (t : TypeId) (a : Addr) : Sim P (fun x y => y = ren m x) m (loadVar t a) (loadVar t (renA m a)) := by
  unfold Go.loadVar
  refine Sim.bnd (Still.isAgg t).sim ?_
  rintro b _ rfl
  cases b
  . exact sim_load a
  . refine Sim.bnd (Still.sizeOf t).sim ?_
    rintro n _ rfl
    refine Sim.bnd (sim_loadCells a n) ?_
    rintro x _ rfl
    exact .pure (by simp [ren])
theorem sim_storeVar (t : TypeId) (a : Addr) (v : Value) : Sim P (fun _ _ => True) m (storeVar t a v) (storeVar t (renA m a) (ren m v)) := by
  unfold Go.storeVar
  refine Sim.bnd (Still.sizeOf t).sim ?_
  rintro n _ rfl
  rw [ren_cells, ren_size]
  by_cases h : v.cells.size ≠ n
  . simp only [h, if_true, ne_eq, not_false_eq_true]; exact .halt
  . simp only [h, if_false]
    rw [renR_toList]
    exact sim_storeCells _ _ _
theorem sim_newRow (e : TypeId) (c : Array Value) : Sim P (fun a a' => a' = renA m a) m (newRow e c) (newRow e (renR m c)) := by
  unfold Go.newRow newObj
  have h1 : Obj.cells (renR m c) e = renO m (.cells c e) := rfl
  change Sim P (fun a a' => a' = renA m a) m (.new (.cells c e) fun n => .pure (⟨n, 0, none⟩ : Addr)) (.new (.cells (renR m c) e) fun n => .pure (⟨n, 0, none⟩ : Addr))
  rw [h1]
  exact .new fun n h _ => .pure (by simp [renA, h])
theorem sim_newVar (t : TypeId) (v : Value) : Sim P (fun a a' => a' = renA m a) m (newVar t v) (newVar t (ren m v)) := by
  unfold Go.newVar
  rw [ren_cells]
  exact sim_newRow _ _
theorem ren_ptr (a : Addr) : ren m (.pointer (some a)) = .pointer (some (renA m a)) := by simp [ren]
theorem ren_agg (c : Array Value) : ren m (.agg c) = .agg (renR m c) := by simp [ren]
theorem ren_tuple (c : Array Value) : ren m (.tuple c) = .tuple (renR m c) := by simp [ren]
theorem ren_slice (a : Addr) (l : Nat) {c : Nat} (h : c < Big) : ren m (.slice (some a) l c) = .slice (some (renA m a)) l c := by simp [ren, renC, h]
abbrev RV (m : Mp) : Value -> Value -> Prop := fun x y => y = ren m x
theorem sim_alloc {t : TypeId} (h : zok P t = true) : Sim P (RV m) m (Instr.alloc t true (.tuple #[])) (Instr.alloc t true (.tuple #[])) := by
  unfold Instr.alloc
  refine Sim.bnd (sim_zeroValue h) ?_
  rintro z _ ⟨rfl, hz⟩
  have := sim_newVar (P := P) (m := m) t z
  rw [ren_plain m z hz] at this
  refine Sim.bnd this ?_
  rintro a _ rfl
  exact .pure (ren_ptr a).symm
theorem sim_box (t : TypeId) (v : Value) : Sim P (RV m) m (Instr.box t v) (Instr.box t (ren m v)) := by
  unfold Instr.box
  refine Sim.bnd (sim_newVar t v) ?_
  rintro a _ rfl
  exact .pure (ren_ptr a).symm
theorem fill_fold (m : Mp) (off : Nat) : ∀ (l : List (Value × Nat)) (cells : Array Value),
    (l.map fun p => (ren m p.1, p.2)).foldl (fun cs (p : Value × Nat) => cs.setIfInBounds (off + p.2) p.1) (renR m cells)
      = renR m (l.foldl (fun cs (p : Value × Nat) => cs.setIfInBounds (off + p.2) p.1) cells)
  | [], _ => rfl
  | (v, j) :: l, cells => by
    simp only [List.map_cons, List.foldl_cons]
    rw [← fill_fold m off l]
    congr 1
    simp [renR_map]
theorem fill_ren (m : Mp) (place : Nat -> Option (Nat × Nat)) : ∀ (l : List (Nat × Value)) (cells : Array Value),
    Instr.fill place (renR m cells) (l.map fun p => (p.1, ren m p.2)) = (Instr.fill place cells l).map (renR m)
  | [], _ => rfl
  | (i, v) :: l, cells => by
    simp only [List.map_cons, Instr.fill]
    cases place i with
    | none => rfl
    | some os =>
      obtain ⟨off, size⟩ := os
      simp only [ren_cells, ren_size]
      split
      . rfl
      . rw [← fill_ren m place l]
        congr 1
        rw [← Array.foldl_toList, ← Array.foldl_toList, ← fill_fold]
        congr 1
        simp [renR_map, Array.toList_zipIdx, List.zipIdx_map]
theorem sim_build {t : TypeId} (h : zok P t = true) (parts : Array (Nat × Value)) :
    Sim P (RV m) m (Instr.build t parts) (Instr.build t (parts.map fun p => (p.1, ren m p.2))) := by
  unfold Instr.build
  refine Sim.bnd (R := fun a a' => a = a' /\ plain a = true) (sim_zeroValue h) ?_
  rintro z _ ⟨rfl, hz⟩
  refine Sim.bnd (Still.underlying t).sim ?_
  rintro d _ rfl
  have hzc : renR m z.cells = z.cells := by rw [← ren_cells, ren_plain m z hz]
  split
  . refine Sim.bnd (Still.arrMapM (fun _ => Still.bnd (Still.sizeOf _) fun _ => .pure) _).sim ?_
    rintro places _ rfl
    have := fill_ren m (places[·]?) parts.toList z.cells
    rw [hzc] at this
    have hl : (parts.map fun p => (p.1, ren m p.2)).toList = parts.toList.map fun p => (p.1, ren m p.2) := by simp
    rw [hl, this]
    cases Instr.fill (places[·]?) z.cells parts.toList with
    | none => exact .halt
    | some cs => exact .pure (ren_agg cs).symm
  . refine Sim.bnd (Still.sizeOf _).sim ?_
    rintro n _ rfl
    have := fill_ren m (fun i => some (i * n, n)) parts.toList z.cells
    rw [hzc] at this
    have hl : (parts.map fun p => (p.1, ren m p.2)).toList = parts.toList.map fun p => (p.1, ren m p.2) := by simp
    rw [hl, this]
    cases Instr.fill (fun i => some (i * n, n)) z.cells parts.toList with
    | none => exact .halt
    | some cs => exact .pure (ren_agg cs).symm
  . exact .halt
theorem plain_cells {v : Value} (h : plain v = true) : plainR v.cells = true := by
  cases v <;> simp_all [Value.cells, plain, plainR, plainL]
theorem plain_noughts {z : Array Value} (h : plainR z = true) (n : Nat) : plainR ((Array.range n).map (z[· % z.size]!)) = true := by
  rw [plainR_iff]
  intro v hv
  rw [Array.mem_map] at hv
  obtain ⟨i, _, rfl⟩ := hv
  by_cases hi : i % z.size < z.size
  . rw [getElem!_pos z _ hi]
    exact plainR_iff.1 h _ (Array.getElem_mem _)
  . rw [getElem!_neg z _ hi]; rfl
def zokE (P : Program) (t : TypeId) : Bool :=
  match P.underlying t with
  | some (.slice e) => zok P e
  | _ => true
theorem sim_underE {R : α -> α -> Prop} {t : TypeId} {f f' : TypeDesc -> Sem α} (h : ∀ d, P.underlying t = some d -> Sim P R m (f d) (f' d)) : Sim P R m (underlying t >>= f) (underlying t >>= f') := by
  unfold Go.underlying
  refine .program ?_
  change Sim P R m ((match P.underlying t with | some d => Pure.pure d | none => stuck _) >>= f) ((match P.underlying t with | some d => Pure.pure d | none => stuck _) >>= f')
  cases hd : P.underlying t with
  | none => exact .halt
  | some d => exact h d hd
theorem sim_buildSlice {t : TypeId} (h : zokE P t = true) {n : Nat} (hn : n < Big) (parts : Array (Nat × Value)) :
    Sim P (RV m) m (Instr.buildSlice t n parts) (Instr.buildSlice t n (parts.map fun p => (p.1, ren m p.2))) := by
  unfold Instr.buildSlice
  refine sim_underE fun d hd => ?_
  split
  . next e =>
    have hz : zok P e = true := by unfold zokE at h; rw [hd] at h; exact h
    refine Sim.bnd (Still.sizeOf _).sim ?_
    rintro k _ rfl
    by_cases hk : n * k > 2 ^ 24
    . simp only [hk, if_true]; exact .halt
    . simp only [hk, if_false]
      have key : ∀ (msg : String) (z : Array Value), plainR z = true -> Sim P (RV m) m
          (match Instr.fill (fun i => some (i * k, k)) ((Array.range (n * k)).map (z[· % z.size]!)) parts.toList with
            | some cells => do pure (.slice (some (← newRow e cells)) n n)
            | _ => stuck msg)
          (match Instr.fill (fun i => some (i * k, k)) ((Array.range (n * k)).map (z[· % z.size]!)) (parts.map fun p => (p.1, ren m p.2)).toList with
            | some cells => do pure (.slice (some (← newRow e cells)) n n)
            | _ => stuck msg) := by
        intro msg z hz
        have := fill_ren m (fun i => some (i * k, k)) parts.toList ((Array.range (n * k)).map (z[· % z.size]!))
        rw [renR_plain m _ (plain_noughts hz _)] at this
        have hl : (parts.map fun p => (p.1, ren m p.2)).toList = parts.toList.map fun p => (p.1, ren m p.2) := by simp
        rw [hl, this]
        cases Instr.fill (fun i => some (i * k, k)) ((Array.range (n * k)).map (z[· % z.size]!)) parts.toList with
        | none => exact .halt
        | some cs =>
          refine Sim.bnd (sim_newRow e cs) ?_
          rintro a _ rfl
          exact .pure (ren_slice a n hn).symm
      by_cases h0 : n * k = 0
      . rw [if_pos h0, if_pos h0]
        exact key _ #[] rfl
      . rw [if_neg h0, if_neg h0]
        refine Sim.bnd (sim_zeroValue hz) ?_
        rintro z _ ⟨rfl, hz⟩
        exact key _ z.cells (plain_cells hz)
  . exact .halt
end
open ren (renR renL)
open plain (plainR plainL)
section
variable {P : Program} {m : Mp} {α β : Type}
theorem sim_asIntOf (v : Value) : Sim P Eq m (asIntOf v) (asIntOf (ren m v)) := by
  cases v with
  | int k n => simp only [ren]; exact .pure rfl
  | pointer a => cases a <;> exact .halt
  | _ => exact .halt
theorem sim_asInt (v : Value) : Sim P Eq m (asInt v) (asInt (ren m v)) := by
  unfold asInt
  refine Sim.bnd (sim_asIntOf v) ?_
  rintro x _ rfl
  exact .pure rfl
theorem sim_asAgg (v : Value) : Sim P (fun x y => y = renR m x) m (asAgg v) (asAgg (ren m v)) := by
  cases v with
  | agg c => simp only [ren]; exact .pure rfl
  | _ => exact .halt
theorem sim_sureAddr (v : Value) : Sim P (fun x y => y = renA m x) m (Instr.sureAddr v) (Instr.sureAddr (ren m v)) := by
  cases v with
  | pointer a =>
    cases a with
    | none => exact .halt
    | some a => rw [ren_ptr]; exact .pure rfl
  | _ => exact .halt
theorem sim_asAddr (v : Value) : Sim P (fun x y => y = renA m x) m (asAddr v) (asAddr (ren m v)) := by
  cases v with
  | pointer a =>
    cases a with
    | none => exact .doom (doom_runtime (α := Addr) .nilDeref)
    | some a => rw [ren_ptr]; exact .pure rfl
  | _ => exact .halt
theorem Sim.ite {R : α -> α -> Prop} {c : Prop} [Decidable c] {s t s' t' : Sem α} (h1 : Sim P R m s s') (h2 : Sim P R m t t') : Sim P R m (if c then s else t) (if c then s' else t') := by
  split
  . exact h1
  . exact h2
theorem sim_part (t : TypeId) (cs : Array Value) (off : Nat) : Sim P (RV m) m (part t cs off) (part t (renR m cs) off) := by
  unfold part
  refine Sim.bnd (Still.isAgg t).sim ?_
  rintro b _ rfl
  cases b
  . simp only [Bool.false_eq_true, if_false, renR_get]
    cases cs[off]? with
    | none => exact .halt
    | some v => exact .pure rfl
  . simp only [if_true]
    refine Sim.bnd (Still.sizeOf t).sim ?_
    rintro n _ rfl
    rw [← renR_extract]
    exact .pure (ren_agg _).symm
theorem sim_field (t : TypeId) (v : Value) (i : Nat) : Sim P (RV m) m (Instr.field t v i) (Instr.field t (ren m v) i) := by
  unfold Instr.field
  refine Sim.bnd (Still.underlying t).sim ?_
  rintro d _ rfl
  split
  . split
    . refine Sim.bnd (sim_asAgg v) ?_
      rintro c _ rfl
      exact sim_part _ _ _
    . exact .halt
  . exact .halt
theorem doom_byteOf {a : Addr} (h : a.spot = none) : ∀ hh, arun P (byteOf a) hh = none := by
  unfold byteOf
  rw [h]
  exact fun _ => rfl
theorem doom_partAt (a : Addr) (i j : Nat) : ∀ hh, arun P (partAt a i j) hh = none := by
  unfold partAt
  refine doom_bind fun b => ?_
  exact doom_first (doom_byteOf rfl)
theorem sim_fieldPlace (a : Addr) (f : Field) : Sim P (fun x y => y = renA m x) m (fieldPlace a f) (fieldPlace (renA m a) f) := by
  unfold fieldPlace
  refine Sim.bnd (Still.sizeOf _).sim ?_
  rintro n _ rfl
  by_cases h : n = 0
  . rw [if_pos h]; exact .doom (doom_partAt _ _ _)
  . rw [if_neg h, if_neg h, ← renA_add]; exact .pure rfl
theorem sim_fieldAt (t : TypeId) (v : Value) (i : Nat) : Sim P (RV m) m (Instr.fieldAt t v i) (Instr.fieldAt t (ren m v) i) := by
  unfold Instr.fieldAt
  refine Sim.bnd (Still.underlying t).sim ?_
  rintro d _ rfl
  split
  . split
    . refine Sim.bnd (sim_sureAddr v) ?_
      rintro a _ rfl
      refine Sim.bnd (sim_fieldPlace a _) ?_
      rintro b _ rfl
      exact .pure (ren_ptr b).symm
    . exact .halt
  . exact .halt
theorem sim_indexAt (t : TypeId) (v ix : Value) : Sim P (RV m) m (Instr.indexAt t v ix) (Instr.indexAt t (ren m v) (ren m ix)) := by
  unfold Instr.indexAt
  refine Sim.bnd (sim_asIntOf ix) ?_
  rintro ⟨k, i⟩ _ rfl
  refine Sim.bnd (Still.underlying t).sim ?_
  rintro d _ rfl
  have fin : ∀ (no : Unsupported) (base : Option Addr) (len : Nat) (el : TypeId), Sim P (RV m) m
      (do
        let tiny := len <= 1 && (match ← underlying t with | .array .. => true | _ => false)
        match base with
        | some a =>
          if 0 <= i /\ i < len then pure (.pointer (some (a.add (i.toNat * (← sizeOf el)))))
          else if tiny then unsupported no
          else boundsPanic k i len .index
        | none => boundsPanic k i 0 .index)
      (do
        let tiny := len <= 1 && (match ← underlying t with | .array .. => true | _ => false)
        match base.map (renA m) with
        | some a =>
          if 0 <= i /\ i < len then pure (.pointer (some (a.add (i.toNat * (← sizeOf el)))))
          else if tiny then unsupported no
          else boundsPanic k i len .index
        | none => boundsPanic k i 0 .index) := by
    intro no base len el
    refine Sim.bnd (Still.underlying t).sim ?_
    rintro d _ rfl
    cases base with
    | none => exact .bounds
    | some a =>
      simp only [Option.map_some]
      by_cases hi : 0 <= i /\ i < len
      . rw [if_pos hi, if_pos hi]
        refine Sim.bnd (Still.sizeOf _).sim ?_
        rintro n _ rfl
        exact .pure (by rw [← renA_add]; exact (ren_ptr _).symm)
      . rw [if_neg hi, if_neg hi]
        exact Sim.ite .halt .bounds
  cases d with
  | array len el =>
    dsimp only
    refine Sim.bnd (sim_sureAddr v) ?_
    rintro a _ rfl
    exact fin _ (some a) len el
  | slice el =>
    cases v with
    | slice a l c =>
      simp only [ren]
      exact fin _ a l el
    | _ => exact .doom (doom_first fun _ => rfl)
  | _ => exact .doom (doom_first fun _ => rfl)
theorem sim_index (t : TypeId) (v ix : Value) : Sim P (RV m) m (Instr.index t v ix) (Instr.index t (ren m v) (ren m ix)) := by
  unfold Instr.index
  refine Sim.bnd (sim_asIntOf ix) ?_
  rintro ⟨k, i⟩ _ rfl
  refine Sim.bnd (Still.underlying t).sim ?_
  rintro d _ rfl
  cases d with
  | array len el =>
    cases v with
    | agg cs =>
      rw [ren_agg]
      dsimp only
      by_cases hi : 0 <= i /\ i < len
      . rw [if_pos hi, if_pos hi]
        refine Sim.bnd (Still.sizeOf _).sim ?_
        rintro n _ rfl
        exact sim_part _ _ _
      . rw [if_neg hi, if_neg hi]; exact .bounds
    | _ => exact .halt
  | string =>
    cases v with
    | string s =>
      simp only [ren]
      split
      . exact .pure (ren_plain m _ rfl).symm
      . exact .bounds
    | _ => exact .halt
  | _ => cases v <;> exact .halt
theorem sim_extract (v : Value) (i : Nat) : Sim P (RV m) m (Instr.extract v i) (Instr.extract (ren m v) i) := by
  unfold Instr.extract
  cases v with
  | tuple vs =>
    rw [ren_tuple]
    simp only [renR_get]
    cases vs[i]? with
    | none => exact .halt
    | some v => exact .pure rfl
  | _ => exact .halt
theorem sim_makeSlice {t : TypeId} (h : zokE P t = true) (l c : Value) (hc : ∀ k n, c = .int k n -> (IntKind.i64.wrap n).toNat < Big) :
    Sim P (RV m) m (Instr.makeSlice t l c) (Instr.makeSlice t (ren m l) (ren m c)) := by
  unfold Instr.makeSlice
  refine sim_underE fun d hd => ?_
  split
  . next e =>
    have hz : zok P e = true := by unfold zokE at h; rw [hd] at h; exact h
    refine Sim.bnd (sim_asInt l) ?_
    rintro ln _ rfl
    refine Sim.bnd (R := fun x y => x = y /\ (IntKind.i64.wrap x).toNat < Big) ?_ ?_
    . cases c with
      | int k n => simp only [ren]; exact .pure ⟨rfl, hc k n rfl⟩
      | pointer a => cases a <;> exact .halt
      | _ => exact .halt
    rintro cn _ ⟨rfl, hcn⟩
    refine Sim.bnd (Still.typeInfo _).sim ?_
    rintro i _ rfl
    dsimp only
    split
    . split
      . exact .doom (doom_first (doom_runtime _))
      . split
        . exact .doom (doom_first (doom_runtime _))
        . exact .doom (doom_bind fun _ => doom_first (doom_runtime _))
    . refine Sim.bnd (Still.askRoom _).sim ?_
      rintro _ _ _
      refine Sim.bnd (Still.sizeOf _).sim ?_
      rintro s _ rfl
      have key : ∀ z : Array Value, plainR z = true -> Sim P (RV m) m
          (do
            let a ← newRow e ((Array.range ((IntKind.i64.wrap cn).toNat * s)).map (z[· % z.size]!))
            pure (.slice (some a) (IntKind.i64.wrap ln).toNat (IntKind.i64.wrap cn).toNat))
          (do
            let a ← newRow e ((Array.range ((IntKind.i64.wrap cn).toNat * s)).map (z[· % z.size]!))
            pure (.slice (some a) (IntKind.i64.wrap ln).toNat (IntKind.i64.wrap cn).toNat)) := by
        intro z hz
        have := sim_newRow (P := P) (m := m) e ((Array.range ((IntKind.i64.wrap cn).toNat * s)).map (z[· % z.size]!))
        rw [renR_plain m _ (plain_noughts hz _)] at this
        refine Sim.bnd this ?_
        rintro a _ rfl
        exact .pure (ren_slice a _ hcn).symm
      by_cases h0 : (IntKind.i64.wrap cn).toNat * s = 0
      . rw [if_pos h0]
        exact key #[] rfl
      . rw [if_neg h0]
        refine Sim.bnd (sim_zeroValue hz) ?_
        rintro z _ ⟨rfl, hz⟩
        exact key z.cells (plain_cells hz)
  . exact .halt
theorem sb {Q : β -> β -> Prop} {v : Value} {y : Nat} {c : BoundsCode} {f f' : Nat -> Sem β} (h : ∀ x, x <= y -> Sim P Q m (f x) (f' x)) :
    Sim P Q m (Instr.sliceBound v y c >>= f) (Instr.sliceBound (ren m v) y c >>= f') := by
  refine Sim.bnd (R := fun a b => a = b /\ a <= y) ?_ ?_
  . unfold Instr.sliceBound
    refine Sim.bnd (sim_asIntOf v) ?_
    rintro ⟨k, i⟩ _ rfl
    dsimp only
    split
    . exact .pure ⟨rfl, by omega⟩
    . exact .bounds
  . rintro x _ ⟨rfl, hx⟩
    exact h x hx
theorem sliceBounds_cap {B : Nat} {b : Bool} {l c : Nat} {lo hi mx : Option Value} (hl : c < B) : Sim P (fun x y => x = y /\ x.2.2 < B) m (Instr.sliceBounds b l c lo hi mx) (Instr.sliceBounds b l c (lo.map (ren m)) (hi.map (ren m)) (mx.map (ren m))) := by
  unfold Instr.sliceBounds
  cases mx <;> cases hi <;> cases lo <;> simp only [Option.map_some, Option.map_none, pure_bind, Option.isSome_some, Option.isSome_none]
  . exact .pure ⟨rfl, hl⟩
  . exact sb fun _ _ => .pure ⟨rfl, hl⟩
  . exact sb fun _ _ => .pure ⟨rfl, hl⟩
  . exact sb fun _ _ => sb fun _ _ => .pure ⟨rfl, hl⟩
  . exact sb fun _ _ => .halt
  . exact sb fun _ _ => .halt
  . exact sb fun _ h => sb fun _ _ => .pure ⟨rfl, Nat.lt_of_le_of_lt h hl⟩
  . exact sb fun _ h => sb fun _ _ => sb fun _ _ => .pure ⟨rfl, Nat.lt_of_le_of_lt h hl⟩
theorem sim_sliceBounds (b : Bool) (l c : Nat) (lo hi mx : Option Value) : Sim P Eq m (Instr.sliceBounds b l c lo hi mx) (Instr.sliceBounds b l c (lo.map (ren m)) (hi.map (ren m)) (mx.map (ren m))) :=
  (sliceBounds_cap (Nat.lt_succ_self c)).mono fun _ _ h => h.1
def capOk : Value -> Bool
  | .slice (some _) _ c => Nat.blt c Big
  | _ => true
def arrOk (P : Program) (t : TypeId) : Bool :=
  match P.underlying t with
  | some (.array n _) => Nat.blt n Big
  | some (.pointer e) => match P.underlying e with
    | some (.array n _) => Nat.blt n Big
    | _ => true
  | _ => true
theorem sim_slice {t : TypeId} {v : Value} (hv : capOk v = true) (ht : arrOk P t = true) (lo hi mx : Option Value) :
    Sim P (RV m) m (Instr.slice t v lo hi mx) (Instr.slice t (ren m v) (lo.map (ren m)) (hi.map (ren m)) (mx.map (ren m))) := by
  unfold Instr.slice
  refine sim_underE fun d hd => ?_
  cases d with
  | string =>
    cases v with
    | string s =>
      simp only [ren]
      rw [show (mx.map (ren m)).isSome = mx.isSome by cases mx <;> rfl]
      cases mx with
      | some x => exact .halt
      | none =>
        simp only [Option.isSome_none, Bool.false_eq_true, if_false]
        refine Sim.bnd (sim_sliceBounds false _ _ lo hi none) ?_
        rintro ⟨l, h, k⟩ _ rfl
        exact .pure (ren_plain m _ rfl).symm
    | _ => exact .halt
  | slice el =>
    cases v with
    | slice a l c =>
      cases a with
      | none =>
        simp only [ren, renC, Option.map_none]
        refine Sim.bnd (sim_sliceBounds true _ _ lo hi mx) ?_
        rintro ⟨l, h, k⟩ _ rfl
        refine Sim.bnd (Still.sizeOf _).sim ?_
        rintro n _ rfl
        refine .pure (ren_plain m _ ?_).symm
        dsimp only
        split <;> rfl
      | some a =>
        have hc : c < Big := by simpa [capOk] using hv
        rw [ren_slice a l hc]
        dsimp only
        refine Sim.bnd (sliceBounds_cap (b := true) (l := l) (lo := lo) (hi := hi) (mx := mx) hc) ?_
        rintro ⟨l, h, k⟩ _ ⟨rfl, hk⟩
        refine Sim.bnd (Still.sizeOf _).sim ?_
        rintro n _ rfl
        refine .pure ?_
        have hk' : k - l < Big := Nat.lt_of_le_of_lt (Nat.sub_le _ _) hk
        dsimp only
        split
        . exact (ren_slice a _ hk').symm
        . simp only [Option.map_some]
          rw [← renA_add]
          exact (ren_slice _ _ hk').symm
    | _ => exact .halt
  | pointer arr =>
    have hfin : ∀ msg : String, Sim P (RV m) m
        (do
          let a ← asAddr v
          let .array n elem ← underlying arr | stuck msg
          let (l, h, mm) ← Instr.sliceBounds false n n lo hi mx
          let size ← sizeOf elem
          pure (.slice (some (if mm = l then a else a.add (l * size))) (h - l) (mm - l)))
        (do
          let a ← asAddr (ren m v)
          let .array n elem ← underlying arr | stuck msg
          let (l, h, mm) ← Instr.sliceBounds false n n (lo.map (ren m)) (hi.map (ren m)) (mx.map (ren m))
          let size ← sizeOf elem
          pure (.slice (some (if mm = l then a else a.add (l * size))) (h - l) (mm - l))) := by
      intro msg
      refine Sim.bnd (sim_asAddr v) ?_
      rintro a _ rfl
      refine sim_underE fun d' hd' => ?_
      cases d' with
      | array n el =>
        have hn : n < Big := by
          unfold arrOk at ht
          rw [hd] at ht
          simp only [hd'] at ht
          simpa using ht
        dsimp only
        refine Sim.bnd (sliceBounds_cap (b := false) (l := n) (lo := lo) (hi := hi) (mx := mx) hn) ?_
        rintro ⟨l, h, k⟩ _ ⟨rfl, hk⟩
        refine Sim.bnd (Still.sizeOf _).sim ?_
        rintro s _ rfl
        refine .pure ?_
        have hk' : k - l < Big := Nat.lt_of_le_of_lt (Nat.sub_le _ _) hk
        dsimp only
        split
        . exact (ren_slice a _ hk').symm
        . rw [← renA_add]
          exact (ren_slice _ _ hk').symm
      | _ => exact .halt
    cases v with
    | pointer p => exact hfin _
    | _ => exact .doom (doom_first fun _ => rfl)
  | _ => exact .halt
theorem sim_sliceAt {t : TypeId} {v : Value} (hv : capOk v = true) (ht : arrOk P t = true) (lo hi mx : Option Value) :
    Sim P (RV m) m (Instr.sliceAt t v lo hi mx) (Instr.sliceAt t (ren m v) (lo.map (ren m)) (hi.map (ren m)) (mx.map (ren m))) := by
  unfold Instr.sliceAt
  refine sim_underE fun d hd => ?_
  cases d with
  | array n el =>
    have hn : n < Big := by
      unfold arrOk at ht
      rw [hd] at ht
      simpa using ht
    refine Sim.bnd (sim_sureAddr v) ?_
    rintro a _ rfl
    refine Sim.bnd (sliceBounds_cap (b := false) (l := n) (lo := lo) (hi := hi) (mx := mx) hn) ?_
    rintro ⟨l, h, k⟩ _ ⟨rfl, hk⟩
    refine Sim.bnd (Still.sizeOf _).sim ?_
    rintro s _ rfl
    refine .pure ?_
    have hk' : k - l < Big := Nat.lt_of_le_of_lt (Nat.sub_le _ _) hk
    split
    . exact (ren_slice a _ hk').symm
    . rw [← renA_add]
      exact (ren_slice _ _ hk').symm
  | _ => exact sim_slice hv ht lo hi mx
end
open ren (renR renL)
open plain (plainR plainL)
section
variable {P : Program} {m : Mp} {α β : Type}
def pureRun (P : Program) : Sem α -> Option α
  | .pure a => some a
  | .program k => pureRun P (k P)
  | .mark _ k => pureRun P k
  | _ => none
theorem pureRun_run {s : Sem α} {a : α} (h : pureRun P s = some a) (w : World) : s.run P w = .ok a w := by
  induction s with
  | pure b => simp only [pureRun, Option.some.injEq] at h; rw [h]; rfl
  | program k ih => exact ih P h
  | mark x k ih => exact ih h
  | _ => simp [pureRun] at h
theorem sim_makeInterface (t : TypeId) (v : Value) : Sim P (RV m) m (Instr.makeInterface t v) (Instr.makeInterface t (ren m v)) := by
  unfold Instr.makeInterface
  refine Sim.bnd (Still.underlying t).sim ?_
  rintro d _ rfl
  split
  . exact .halt
  . exact .pure (by simp only [RV, ren])
theorem sim_lenOf (v : Value) : Sim P Eq m (Builtin.lenOf v) (Builtin.lenOf (ren m v)) := by
  cases v with
  | slice a l c => simp only [ren]; exact .pure rfl
  | string s => simp only [ren]; exact .pure rfl
  | _ => exact .halt
theorem sim_firstCells (size n : Nat) (v : Value) : Sim P (fun x y => y = renR m x) m (Builtin.firstCells size n v) (Builtin.firstCells size n (ren m v)) := by
  cases v with
  | slice a l c =>
    cases a with
    | none => simp only [ren, Option.map_none]; exact .pure (by simp [renR_map])
    | some a => simp only [ren, Option.map_some]; exact sim_loadCells a _
  | string s =>
    simp only [ren]
    refine .pure (renR_plain m _ ?_).symm
    rw [plainR_iff]
    intro v hv
    rw [Array.mem_map] at hv
    obtain ⟨b, _, rfl⟩ := hv
    rfl
  | _ => exact .halt
theorem sim_copy (ts : Array TypeId) (t : TypeId) (args : Array Value) : Sim P (RV m) m (Builtin.copy_ ts t args) (Builtin.copy_ ts t (args.map (ren m))) := by
  unfold Builtin.copy_
  simp only [Array.getElem?_map]
  cases ts[0]? with
  | none => exact .halt
  | some dt =>
    cases args[0]? with
    | none => exact .halt
    | some d =>
      cases args[1]? with
      | none => exact .halt
      | some s =>
        simp only [Option.map_some]
        refine sim_underE fun td htd => ?_
        cases td with
        | slice el =>
          cases d with
          | slice base dl dc =>
            simp only [ren]
            refine Sim.bnd (sim_lenOf s) ?_
            rintro ls _ rfl
            refine Sim.bnd (Still.sizeOf _).sim ?_
            rintro n _ rfl
            refine Sim.bnd (sim_firstCells _ _ s) ?_
            rintro cs _ rfl
            cases base with
            | none => exact .pure (ren_plain m _ rfl).symm
            | some a =>
              simp only [Option.map_some]
              rw [renR_toList]
              refine Sim.bnd (sim_storeCells a cs.toList 0) ?_
              rintro _ _ _
              exact .pure (ren_plain m _ rfl).symm
          | _ => exact .halt
        | _ => exact .halt
theorem sim_len (ts : Array TypeId) (t : TypeId) (args : Array Value) (hk : ∀ v, args[0]? = some v -> (∃ a l c, v = .slice a l c) ∨ ∃ s, v = .string s) :
    Sim P (RV m) m (Builtin.len_ ts t args) (Builtin.len_ ts t (args.map (ren m))) := by
  unfold Builtin.len_
  simp only [Array.getElem?_map]
  cases ts[0]? with
  | none => exact .halt
  | some dt =>
    cases ha : args[0]? with
    | none => exact .halt
    | some v =>
      simp only [Option.map_some]
      refine sim_underE fun td htd => ?_
      rcases hk v ha with ⟨a, l, c, rfl⟩ | ⟨s, rfl⟩
      . simp only [ren]
        cases td with
        | slice e => exact .pure (ren_plain m _ rfl).symm
        | array n e => exact .pure (ren_plain m _ rfl).symm
        | pointer e =>
          refine sim_underE fun td htd => ?_
          cases td with
          | array n e => exact .pure (ren_plain m _ rfl).symm
          | _ => exact .halt
        | _ => exact .halt
      . simp only [ren]
        cases td with
        | string => exact .pure (ren_plain m _ rfl).symm
        | array n e => exact .pure (ren_plain m _ rfl).symm
        | pointer e =>
          refine sim_underE fun td htd => ?_
          cases td with
          | array n e => exact .pure (ren_plain m _ rfl).symm
          | _ => exact .halt
        | _ => exact .halt
def eqSp (P : Program) (t : TypeId) (x y : Value) : Option Bool :=
  match P.underlying t, x, y with
  | some (.pointer _), .pointer none, .pointer b => some b.isNone
  | some (.pointer _), .pointer (some _), .pointer none => some false
  | some (.slice _), .slice none _ _, .slice b _ _ => some b.isNone
  | some (.slice _), .slice (some _) _ _, .slice none _ _ => some false
  | some (.map _ _), .map none, .map b => some b.isNone
  | some (.map _ _), .map (some _), .map none => some false
  | some (.func _ _ _), .nilFunc, .nilFunc => some true
  | some (.func _ _ _), .nilFunc, .func _ _ _ => some false
  | some (.func _ _ _), .func _ _ _, .nilFunc => some false
  | _, _, _ => none
theorem underlying_run {t : TypeId} {d : TypeDesc} (h : P.underlying t = some d) (w : World) : (underlying t).run P w = .ok d w := by
  unfold Go.underlying
  change Sem.run P (match P.underlying t with | some d => Pure.pure d | none => stuck _) w = _
  rw [h]; rfl
theorem eqSp_run {t : TypeId} {x y : Value} {r : Bool} (h : eqSp P t x y = some r) (w : World) : (Op.equal t (ren m x) (ren m y)).run P w = .ok r w := by
  unfold eqSp at h
  unfold Op.equal
  change (Op.equalIn (9999 + 1) t (ren m x) (ren m y)).run P w = _
  rw [Op.equalIn]
  split at h <;> simp only [Option.some.injEq, reduceCtorEq] at h <;> subst h
  all_goals next hu => 
    rw [Sem.run_bind, underlying_run hu]
    simp [ren]
theorem eqSp_shape {t : TypeId} {x y : Value} {r : Bool} (h : eqSp P t x y = some r) :
    (∀ ps qs (w : World), (eqGuard .eql t ps qs (ren m x) (ren m y)).run P w = .ok () w /\ (eqGuard .neq t ps qs (ren m x) (ren m y)).run P w = .ok () w)
      /\ (binOp .eql t (ren m x) (ren m y) = do pure (.bool (← Op.equal t (ren m x) (ren m y)))) /\ (binOp .neq t (ren m x) (ren m y) = do pure (.bool (!(← Op.equal t (ren m x) (ren m y))))) := by
  unfold eqSp at h
  split at h <;> simp only [Option.some.injEq, reduceCtorEq] at h <;> simp only [ren] <;> refine ⟨fun ps qs w => ⟨rfl, rfl⟩, rfl, rfl⟩
end
open ren (renR renL)
open plain (plainR plainL)
def keyS (P : Program) (k : TypeId) : Bool :=
  match P.underlying k with
  | some (.int _) => true
  | some .string => true
  | some .bool => true
  | _ => false
def keyKind (P : Program) (k : TypeId) : Bool :=
  match P.underlying k with
  | some (.int _) => true
  | some .string => true
  | some .bool => true
  | some (.struct fs) => fs.toList.all (fun f => keyS P f.type) && !P.stoodInHeld k
  | _ => false
def keyM (P : Program) (t : TypeId) : Bool :=
  match P.underlying t with
  | some (.map k _) => keyKind P k
  | _ => false
def zokM (P : Program) (t : TypeId) : Bool :=
  match P.underlying t with
  | some (.map _ e) => zok P e
  | _ => false
def keyV1 : Value -> Bool
  | .int _ _ => true
  | .string _ => true
  | .bool _ => true
  | _ => false
def keyV : Value -> Bool
  | .int _ _ => true
  | .string _ => true
  | .bool _ => true
  | .agg ⟨l⟩ => l.all keyV1
  | _ => false
section
variable {P : Program} {m : Mp}
theorem ren_key1 {v : Value} (h : keyV1 v = true) : ren m v = v := by cases v <;> first | (cases h; done) | simp [ren]
theorem renL_key1 : ∀ {l : List Value}, l.all keyV1 = true -> renL m l = l
  | [], _ => by simp [renL]
  | v :: l, h => by
    simp only [List.all_cons, Bool.and_eq_true] at h
    rw [renL, ren_key1 h.1, renL_key1 h.2]
theorem ren_key {v : Value} (h : keyV v = true) : ren m v = v := by
  cases v
  case agg cs =>
    obtain ⟨l⟩ := cs
    rw [ren, renR, renL_key1 h]
  all_goals first | (cases h; done) | simp [ren]
inductive StepR {β : Type} (R : β -> β -> Prop) : ForInStep β -> ForInStep β -> Prop
  | done {a b : β} (h : R a b) : StepR R (.done a) (.done b)
  | yield {a b : β} (h : R a b) : StepR R (.yield a) (.yield b)
theorem sim_forInL {α β : Type} {R : β -> β -> Prop} : ∀ (l : List α) (f f' : α -> β -> Sem (ForInStep β)), (∀ a ∈ l, ∀ b b', R b b' -> Sim P (StepR R) m (f a b) (f' a b')) -> ∀ b b', R b b' -> Sim P R m (forIn l b f) (forIn l b' f')
  | [], f, f', _, b, b', hb => .pure hb
  | a :: l, f, f', hf, b, b', hb => by
    rw [List.forIn_cons, List.forIn_cons]
    refine Sim.bnd (hf a List.mem_cons_self b b' hb) ?_
    rintro _ _ (h | h)
    . exact .pure h
    . exact sim_forInL l f f' (fun a ha => hf a (List.mem_cons_of_mem _ ha)) _ _ h
theorem sim_forInA {α β : Type} {R : β -> β -> Prop} (l : Array α) (f f' : α -> β -> Sem (ForInStep β)) (hf : ∀ a ∈ l, ∀ b b', R b b' -> Sim P (StepR R) m (f a b) (f' a b')) (b b' : β) (hb : R b b') : Sim P R m (forIn l b f) (forIn l b' f') := by
  rw [← Array.forIn_toList, ← Array.forIn_toList]
  exact sim_forInL _ _ _ (fun a ha => hf a (by simpa using ha)) _ _ hb
theorem sim_partKey {t : TypeId} (ht : keyS P t = true) {l : List Value} (hl : l.all keyV1 = true) (off : Nat) : Sim P (fun a a' => a' = a /\ keyV1 a = true) m (part t ⟨l⟩ off) (part t ⟨l⟩ off) := by
  unfold part Go.isAgg
  rw [bind_assoc]
  refine sim_underE fun d hd => ?_
  unfold keyS at ht
  rw [hd] at ht
  cases d <;> first | (cases ht; done) | skip
  all_goals
    change Sim P _ m (match (⟨l⟩ : Array Value)[off]? with | some v => pure v | none => stuck _) (match (⟨l⟩ : Array Value)[off]? with | some v => pure v | none => stuck _)
    cases hc : (⟨l⟩ : Array Value)[off]? with
    | none => exact .halt
    | some v => exact .pure ⟨rfl, List.all_eq_true.1 hl v (by rw [List.getElem?_toArray] at hc; exact List.mem_of_getElem? hc)⟩
def renE (m : Mp) (e : MapEntry) : MapEntry := { e with key := ren m e.key, val := ren m e.val }
theorem renO_map (es : Array MapEntry) (cl : Nat) : renO m (.map es cl) = .map (es.map (renE m)) cl := rfl
theorem sim_makeMap (t : TypeId) (r : Option Value) : Sim P (RV m) m (Instr.makeMap t r) (Instr.makeMap t (r.map (ren m))) := by
  have fin : Sim P (RV m) m (do pure (.map (some (← newObj (.map #[] 0))))) (do pure (.map (some (← newObj (.map #[] 0))))) := by
    have e : Sim P (RV m) m (.new (.map #[] 0) fun n => .pure (.map (some n))) (.new (renO m (.map #[] 0)) fun n => .pure (.map (some n))) :=
      .new fun n _ _ => .pure (by simp [RV, ren])
    rw [renO_map, Array.map_empty] at e
    exact e
  cases r with
  | none => exact fin
  | some v =>
    unfold Instr.makeMap
    dsimp only [Option.map_some]
    refine sim_underE fun d _ => ?_
    cases d with
    | map k e =>
      refine Sim.bnd (sim_asInt v) ?_
      rintro n _ rfl
      exact fin
    | _ => exact .halt
theorem sim_checkS {k : TypeId} (hk : keyS P k = true) (n : Nat) (e e' : Bool) (v v' : Value) : Sim P (fun _ _ => True) m (Instr.checkKey e (n + 1) k v) (Instr.checkKey e' (n + 1) k v') := by
  rw [Instr.checkKey, Instr.checkKey]
  refine sim_underE fun d hd => ?_
  unfold keyS at hk
  rw [hd] at hk
  cases d <;> first | (cases hk; done) | exact .pure trivial
theorem sim_checkKey {k : TypeId} (hk : keyKind P k = true) {N : Nat} (hN : 10000 = N) (e e' : Bool) {v : Value} (hv : keyV v = true) : Sim P (fun _ _ => True) m (Instr.checkKey e N k v) (Instr.checkKey e' N k v) := by
  obtain ⟨n, hn⟩ : ∃ n, n = 9998 := ⟨_, rfl⟩
  have hN' : N = n + 1 + 1 := by omega
  rw [hN', Instr.checkKey, Instr.checkKey]
  refine sim_underE fun d hd => ?_
  unfold keyKind at hk
  rw [hd] at hk
  cases d
  case struct fs =>
    simp only [Bool.and_eq_true, List.all_eq_true] at hk
    cases v
    case agg cs =>
      obtain ⟨l⟩ := cs
      dsimp only
      refine Sim.bnd (sim_forInA (R := fun _ _ => True) fs _ _ (fun f hf b b' _ => ?_) _ _ trivial) fun _ _ _ => .pure trivial
      have hk1 := hk.1 f (by simpa using hf)
      split
      . refine Sim.bnd (sim_partKey hk1 hv _) ?_
        rintro a _ ⟨rfl, _⟩
        refine Sim.bnd (sim_checkS hk1 n e e' _ _) ?_
        rintro _ _ _
        exact .pure (.yield trivial)
      . exact .pure (.yield trivial)
    all_goals exact .halt
  all_goals first | (cases hk; done) | exact .pure trivial
theorem sim_equalS {k : TypeId} (hk : keyS P k = true) (n : Nat) {x : Value} (hx : keyV1 x = true) (y : Value) : Sim P Eq m (Op.equalIn (n + 1) k x y) (Op.equalIn (n + 1) k x (ren m y)) := by
  rw [Op.equalIn, Op.equalIn]
  refine sim_underE fun d hd => ?_
  unfold keyS at hk
  rw [hd] at hk
  cases d <;> first | (cases hk; done) | skip
  all_goals cases x <;> first | (cases hx; done) | skip
  all_goals cases y <;> first | exact .halt | exact .pure rfl | skip
  . simp only [ren]
    split
    . exact .pure rfl
    . exact .halt
  . next z a =>
    cases a <;> rcases z with (_ | z) | z <;> first | exact .halt | exact .pure rfl
theorem sim_equalKey {k : TypeId} (hk : keyKind P k = true) {x : Value} (hx : keyV x = true) (y : Value) : Sim P Eq m (Op.equal k x y) (Op.equal k x (ren m y)) := by
  by_cases hs : keyS P k = true /\ keyV1 x = true
  . exact sim_equalS hs.1 9999 hs.2 y
  unfold Op.equal
  obtain ⟨n, hn⟩ : ∃ n, n = 9998 := ⟨_, rfl⟩
  have hN' : Op.maxDepth = n + 1 + 1 := by rw [hn]; rfl
  rw [hN', Op.equalIn, Op.equalIn]
  refine sim_underE fun d hd => ?_
  unfold keyKind at hk
  rw [hd] at hk
  have hs' : keyS P k = true -> keyV1 x = false := fun h => by
    cases hx1 : keyV1 x
    . rfl
    . exact absurd ⟨h, hx1⟩ hs
  unfold keyS at hs'
  rw [hd] at hs'
  cases d
  case struct fs =>
    simp only [Bool.and_eq_true, List.all_eq_true] at hk
    cases x
    case agg cs =>
      obtain ⟨l⟩ := cs
      cases y
      case agg ds =>
        rw [show ren m (Value.agg ds) = .agg (renR m ds) from by simp [ren]]
        dsimp only
        have hso : P.stoodInHeld k = false := by simpa using hk.2
        refine .program (Sim.bind (R := fun p p' => p = P /\ p' = P) (.pure ⟨rfl, rfl⟩) ?_)
        intro p p' hp
        rw [hp.1, hp.2, if_neg (by rw [hso]; simp), if_neg (by rw [hso]; simp)]
        refine Sim.bnd (sim_forInA (R := Eq) fs _ _ (fun f hf b b' _ => ?_) _ _ rfl) ?_
        . have hk1 := hk.1 f (by simpa using hf)
          split
          . refine Sim.bnd (sim_partKey hk1 hx _) ?_
            rintro a _ ⟨rfl, ha⟩
            refine Sim.bnd (sim_part _ ds _) ?_
            rintro c _ rfl
            refine Sim.bnd (sim_equalS hk1 n ha c) ?_
            rintro r _ rfl
            cases r
            . exact .pure (.done rfl)
            . exact .pure (.yield rfl)
          . exact .pure (.yield rfl)
        . rintro ⟨r, u⟩ _ rfl
          cases r <;> exact .pure rfl
      all_goals exact .halt
    all_goals first | (cases hx; done) | exact .halt
  case int kd =>
    cases x <;> first | (cases hx; done) | (cases hs' rfl; done) | skip
    cases y <;> exact .halt
  case string =>
    cases x <;> first | (cases hx; done) | (cases hs' rfl; done) | skip
    cases y <;> exact .halt
  case bool =>
    cases x <;> first | (cases hx; done) | (cases hs' rfl; done) | skip
    cases y <;> exact .halt
  all_goals cases hk
def FR (m : Mp) (a a' : Option (Nat × Value)) : Prop := a' = a.map fun x => (x.1, ren m x.2)
theorem sim_findAsking {k : TypeId} (hk : keyKind P k = true) {x : Value} (hx : keyV x = true) : ∀ (es : List MapEntry) (i : Nat), Sim P (FR m) m (Instr.findAsking k x es i) (Instr.findAsking k x (es.map (renE m)) i)
  | [], i => .pure rfl
  | e :: es, i => by
    rw [List.map_cons, Instr.findAsking, Instr.findAsking]
    refine Sim.bnd (sim_equalKey hk hx e.key) ?_
    rintro b _ rfl
    cases b
    . exact sim_findAsking hk hx es (i + 1)
    . exact .pure rfl
theorem sameNow_ren (d : TypeDesc) {x : Value} (hx : keyV x = true) (y : Value) : Instr.sameNow d x (ren m y) = Instr.sameNow d x y := by
  cases x <;> first | (cases hx; done) | skip
  all_goals cases y <;> simp only [ren] <;> cases d <;> rfl
theorem findNow_ren (d : TypeDesc) {x : Value} (hx : keyV x = true) : ∀ (es : List MapEntry) (i : Nat), Instr.findNow d x (es.map (renE m)) i = (Instr.findNow d x es i).map (Option.map fun x => (x.1, ren m x.2))
  | [], i => rfl
  | e :: es, i => by
    rw [List.map_cons, Instr.findNow, Instr.findNow]
    rw [show (renE m e).key = ren m e.key from rfl, sameNow_ren d hx]
    split
    . rfl
    . exact findNow_ren d hx es (i + 1)
    . rfl
theorem sim_findKey {k : TypeId} (hk : keyKind P k = true) {x : Value} (hx : keyV x = true) (es : List MapEntry) : Sim P (FR m) m (Instr.findKey k x es) (Instr.findKey k x (es.map (renE m))) := by
  unfold Instr.findKey
  refine sim_underE fun d hd => ?_
  rw [findNow_ren d hx]
  cases Instr.findNow d x es 0 with
  | none => exact sim_findAsking hk hx es 0
  | some r => exact .pure rfl
theorem sim_lookup {t : TypeId} (ht : keyM P t = true) (hz : zokM P t = true) (x : Value) {i : Value} (hi : keyV i = true) (ok : Bool) :
    Sim P (RV m) m (Instr.lookup t x i ok) (Instr.lookup t (ren m x) (ren m i) ok) := by
  rw [ren_key hi]
  unfold Instr.lookup
  generalize hN : (10000 : Nat) = N
  refine sim_underE fun d hd => ?_
  unfold keyM at ht
  unfold zokM at hz
  rw [hd] at ht hz
  cases d with
  | map k e =>
    dsimp only at ht hz ⊢
    have last : ∀ (v : Value) (o : Bool), Sim P (RV m) m (pure (if ok then Value.tuple #[v, .bool o] else v)) (pure (if ok then Value.tuple #[ren m v, .bool o] else ren m v)) := by
      intro v o
      refine .pure ?_
      cases ok <;> simp [RV, ren, renR, renL]
    cases x with
    | map r =>
      cases r with
      | none =>
        refine Sim.bnd (R := fun a a' : Array MapEntry => a' = a.map (renE m)) (.pure (by simp)) ?_
        rintro es _ rfl
        refine Sim.bnd (sim_checkKey ht hN _ _ hi) ?_
        rintro _ _ _
        rw [Array.toList_map]
        refine Sim.bnd (sim_findKey ht hi es.toList) ?_
        rintro r _ rfl
        cases r with
        | some r => exact last r.2 true
        | none =>
          refine Sim.bnd (sim_zeroValue hz) ?_
          rintro z _ ⟨rfl, hp⟩
          have := last z false
          rw [ren_plain m z hp] at this
          exact this
      | some r =>
        refine Sim.bnd (R := fun o o' => o' = renO m o) (.getObj fun o => .pure rfl) ?_
        rintro o _ rfl
        cases o with
        | map es cl =>
          simp only [renO_map]
          refine Sim.bnd (R := fun a a' : Array MapEntry => a' = a.map (renE m)) (.pure rfl) ?_
          rintro es _ rfl
          refine Sim.bnd (sim_checkKey ht hN _ _ hi) ?_
          rintro _ _ _
          rw [Array.toList_map]
          refine Sim.bnd (sim_findKey ht hi es.toList) ?_
          rintro r _ rfl
          cases r with
          | some r => exact last r.2 true
          | none =>
            refine Sim.bnd (sim_zeroValue hz) ?_
            rintro z _ ⟨rfl, hp⟩
            have := last z false
            rw [ren_plain m z hp] at this
            exact this
        | _ => exact .halt
    | _ => exact .halt
  | _ => exact .halt
theorem sameBits_ren1 (n : Nat) (y : Value) {x : Value} (hx : keyV1 x = true) : Instr.sameBits n (ren m y) x = Instr.sameBits n y x := by
  cases x <;> first | (cases hx; done) | skip
  all_goals cases y <;> simp only [ren] <;> cases n <;> rfl
theorem sameBits_zip (n : Nat) : ∀ (ys xs : List Value), xs.all keyV1 = true -> (((renL m ys).zip xs).all fun (p : Value × Value) => Instr.sameBits n p.1 p.2) = ((ys.zip xs).all fun (p : Value × Value) => Instr.sameBits n p.1 p.2)
  | [], _, _ => by simp [renL]
  | _ :: _, [], _ => by simp
  | y :: ys, x :: xs, h => by
    simp only [List.all_cons, Bool.and_eq_true] at h
    simp only [renL, List.zip_cons_cons, List.all_cons, sameBits_ren1 n y h.1, sameBits_zip n ys xs h.2]
theorem sameBits_ren (n : Nat) (y : Value) {x : Value} (hx : keyV x = true) : Instr.sameBits n (ren m y) x = Instr.sameBits n y x := by
  cases x
  case agg cs =>
    obtain ⟨xs⟩ := cs
    cases y
    case agg ds =>
      obtain ⟨ys⟩ := ds
      cases n with
      | zero => simp only [ren]; rfl
      | succ n =>
        have h1 := sameBits_zip (m := m) n ys xs hx
        simp only [ren, renR, Instr.sameBits]
        have h2 : (renL m ys).length = ys.length := by rw [renL_map, List.length_map]
        simp only [List.size_toArray, h2]
        rw [h1]
    all_goals simp only [ren] <;> cases n <;> rfl
  all_goals first | (cases hx; done) | skip
  all_goals cases y <;> simp only [ren] <;> cases n <;> rfl
theorem sim_keyStays {x : Value} (hx : keyV x = true) (y : Value) : Sim P (RV m) m (Instr.keyThatStays y x) (Instr.keyThatStays (ren m y) x) := by
  unfold Instr.keyThatStays
  rw [sameBits_ren 10000 y hx]
  split
  . exact .pure (ren_key hx).symm
  . refine Sim.choose ?_
    exact .pure (ren_key hx).symm
theorem sim_mapUpdate {t : TypeId} (ht : keyM P t = true) (x : Value) {i : Value} (hi : keyV i = true) (v : Value) :
    Sim P (fun _ _ => True) m (Instr.mapUpdate t x i v) (Instr.mapUpdate t (ren m x) (ren m i) (ren m v)) := by
  rw [ren_key hi]
  unfold Instr.mapUpdate
  generalize hN : (10000 : Nat) = N
  refine sim_underE fun d hd => ?_
  unfold keyM at ht
  rw [hd] at ht
  cases d with
  | map k e =>
    dsimp only at ht ⊢
    cases x with
    | map r =>
      cases r with
      | none => exact .runtime
      | some r =>
        refine Sim.bnd (R := fun o o' => o' = renO m o) (.getObj fun o => .pure rfl) ?_
        rintro o _ rfl
        cases o with
        | map es cl =>
          simp only [renO_map]
          refine Sim.bnd (sim_checkKey ht hN _ _ hi) ?_
          rintro _ _ _
          rw [Array.toList_map]
          refine Sim.bnd (sim_findKey ht hi es.toList) ?_
          rintro r' _ rfl
          cases r' with
          | none =>
            have e : (es.map (renE m)).push { key := i, val := ren m v, born := cl } = (es.push { key := i, val := v, born := cl }).map (renE m) := by
              simp [renE, ren_key hi]
            have := Sim.setObj (P := P) (R := fun _ _ : Unit => True) (m := m) (r := r) (o := .map (es.push { key := i, val := v, born := cl }) (cl + 1)) (k := .pure ()) (k' := .pure ()) (.pure trivial)
            rw [renO_map, ← e] at this
            exact this
          | some q =>
            have hg : ((((es.map (renE m))[q.1]?).map (·.key)).getD i) = ren m (((es[q.1]?).map (·.key)).getD i) := by
              simp only [Array.getElem?_map]
              cases es[q.1]? with
              | none => exact (ren_key hi).symm
              | some _ => rfl
            dsimp only [Option.map_some]
            rw [hg]
            refine Sim.bnd (sim_keyStays hi _) ?_
            rintro y _ rfl
            have e : ((es.map (renE m)).modify q.1 fun e => { e with key := ren m y, val := ren m v }) = (es.modify q.1 fun e => { e with key := y, val := v }).map (renE m) := by
              apply Array.ext_getElem?
              intro j
              simp only [Array.getElem?_modify, Array.getElem?_map]
              split
              . cases es[j]? <;> rfl
              . rfl
            have := Sim.setObj (P := P) (R := fun _ _ : Unit => True) (m := m) (r := r) (o := .map (es.modify q.1 fun e => { e with key := y, val := v }) cl) (k := .pure ()) (k' := .pure ()) (.pure trivial)
            rw [renO_map, ← e] at this
            exact this
        | _ => exact .halt
    | _ => exact .halt
  | _ => exact .halt
def clearOk (P : Program) (ts : Array TypeId) : Bool :=
  match ts[0]? with
  | some t => zokE P t
  | none => true
theorem plain_zeroCells {z : Array Value} (h : plainR z = true) (n : Nat) : plainR (Builtin.zeroCells z n) = true := by
  exact plain_noughts h _
theorem sim_clear {ts : Array TypeId} (hz : clearOk P ts = true) (t : TypeId) (args : Array Value) : Sim P (RV m) m (Builtin.clear_ ts t args) (Builtin.clear_ ts t (args.map (ren m))) := by
  unfold Builtin.clear_
  unfold clearOk at hz
  simp only [Array.getElem?_map]
  cases ht : ts[0]? with
  | none => exact .halt
  | some dt =>
    rw [ht] at hz
    dsimp only at hz
    have fin : Sim P (RV m) m (pure (.tuple #[])) (pure (.tuple #[])) := .pure (ren_plain m _ rfl).symm
    cases args[0]? with
    | none => exact .halt
    | some x =>
      simp only [Option.map_some]
      refine sim_underE fun td htd => ?_
      have hz' : ∀ e, td = .slice e -> zok P e = true := fun e he => by
        unfold zokE at hz; rw [htd, he] at hz; exact hz
      cases x with
      | map r =>
        cases r with
        | none => exact fin
        | some r =>
          refine Sim.bnd (R := fun o o' => o' = renO m o) (.getObj fun o => .pure rfl) ?_
          rintro o _ rfl
          cases o with
          | map es cl =>
            refine Sim.bnd (R := fun _ _ => True) ?_ fun _ _ _ => fin
            have := Sim.setObj (P := P) (R := fun _ _ : Unit => True) (m := m) (r := r) (o := .map #[] cl) (k := .pure ()) (k' := .pure ()) (.pure trivial)
            rw [renO_map, Array.map_empty] at this
            exact this
          | _ => exact .halt
      | slice base l c =>
        cases base with
        | none => exact fin
        | some a =>
          cases l with
          | zero => exact fin
          | succ l =>
            cases td with
            | slice e =>
              refine Sim.bnd (sim_zeroValue (hz' e rfl)) ?_
              rintro z _ ⟨rfl, hp⟩
              have := sim_storeCells (P := P) (m := m) a (Builtin.zeroCells z.cells (l + 1)).toList 0
              have h1 : (Builtin.zeroCells z.cells (l + 1)).toList.map (ren m) = (Builtin.zeroCells z.cells (l + 1)).toList := by
                rw [← renL_map]
                exact renL_plain m _ (plainL_iff.2 fun v hv => plainR_iff.1 (plain_zeroCells (plain_cells hp) _) v (by simpa using hv))
              rw [h1] at this
              exact Sim.bnd this fun _ _ _ => fin
            | _ => exact .halt
      | _ => first | exact .halt | (cases td <;> exact .halt)
end
open ren (renR renL)
open plain (plainR plainL)
theorem blkRel_heap {m : Mp} {w w' : World} (h : w'.heap = w.heap) {p : Pl} {x : Blk} (hx : BlkRel m w p x) : BlkRel m w' p x := by
  cases x with
  | row vs sz => unfold BlkRel at hx ⊢; rw [h]; exact hx
  | ro vs => unfold BlkRel World.cell? at hx ⊢; rw [h]; exact hx
  | obj o => unfold BlkRel at hx ⊢; rw [h]; exact hx
theorem Rep.of_heap {K : Nat -> Prop} {M : Mp} {g : Nat -> Option Blk} {w w' : World} (h : w'.heap = w.heap) (hr : Rep K M g w) : Rep K M g w' :=
  ⟨fun b x hb m hm => blkRel_heap h (hr.blk b x hb m hm), hr.known, hr.inj, fun b hb => by rw [h]; exact hr.lt b hb⟩
theorem Post.of_heap {h h' : H} {K : Nat -> Prop} {M M' : Mp} {g : Nat -> Option Blk} {w w1 w2 : World} (e : w2.heap = w1.heap) (he : Env w1 w2) (p : Post h h' K M g w M' w1) : Post h h' K M g w M' w2 :=
  ⟨p.keep, p.rep.of_heap e, fun r hr hh => by rw [e]; exact p.frame r hr hh, p.fresh, by rw [e]; exact p.grow, p.env.trans he⟩
theorem setCells_env (b : Nat) : ∀ (vs : List Value) (o : Nat) (w : World), Env w (w.setCells b o vs)
  | [], _, w => Env.refl w
  | v :: vs, o, w => by
    have h := setCells_env b vs (o + 1) (w.setCell ⟨b, o, none⟩ v)
    exact ⟨h.1, h.2.1, h.2.2⟩
noncomputable def rowAt (h : H) (a : Addr) (k : Nat) : Option (List Value) :=
  match a.spot, h.get a.block with
  | none, some (.row vs _) => bif Nat.beq ((vs.drop a.off).take k).length k then some ((vs.drop a.off).take k) else none
  | none, some (.ro vs) => bif Nat.beq ((vs.drop a.off).take k).length k then some ((vs.drop a.off).take k) else none
  | _, _ => none
theorem take_drop_get {l : List Value} {o k j : Nat} {u : Value} (h : ((l.drop o).take k)[j]? = some u) : l[o + j]? = some u := by
  rw [List.getElem?_take] at h
  split at h
  . rwa [List.getElem?_drop] at h
  . cases h
theorem renA_add' (m : Mp) (a : Addr) (j : Nat) (h : a.spot = none) : (renA m a).add j = ⟨(m a.block).b, a.off + (m a.block).s + j, none⟩ := by
  unfold Addr.add renA
  split
  . next e => subst e; simp [h]
  . rfl
theorem rowAt_cells {h : H} {a : Addr} {k : Nat} {l : List Value} {K : Nat -> Prop} {M : Mp} {g : Nat -> Option Blk} {w : World} (e : rowAt h a k = some l) (hg : g a.block = h.get a.block) (hr : Rep K M g w) :
    l.length = k /\ a.spot = none /\ (∃ x, h.get a.block = some x) /\ ∀ m, Cl K M m -> ∀ j u, l[j]? = some u -> w.cell? ((renA m a).add j) = some (ren m u) := by
  unfold rowAt at e
  split at e
  . next vs sz h1 h2 =>
    cases hb : Nat.beq ((vs.drop a.off).take k).length k
    . rw [hb] at e; cases e
    . rw [hb] at e
      simp only [cond_true, Option.some.injEq] at e
      subst e
      refine ⟨Nat.eq_of_beq_eq_true hb, h1, ⟨_, h2⟩, fun m hm j u hj => ?_⟩
      have hg' := hg.trans h2
      obtain ⟨cs, el, e1, _, e2⟩ := hr.blk _ _ hg' m hm
      have hmb := hm _ (hr.known _ _ hg')
      rw [renA_add' m a j h1, hmb]
      simp only [World.cell?, e1, Option.isSome_none, Bool.false_eq_true, if_false]
      rw [show a.off + (M a.block).s + j = (M a.block).s + (a.off + j) by omega]
      exact e2 _ _ (take_drop_get hj)
  . next vs h1 h2 =>
    cases hb : Nat.beq ((vs.drop a.off).take k).length k
    . rw [hb] at e; cases e
    . rw [hb] at e
      simp only [cond_true, Option.some.injEq] at e
      subst e
      refine ⟨Nat.eq_of_beq_eq_true hb, h1, ⟨_, h2⟩, fun m hm j u hj => ?_⟩
      have hg' := hg.trans h2
      have e2 := hr.blk _ _ hg' m hm
      have hmb := hm _ (hr.known _ _ hg')
      rw [renA_add' m a j h1, hmb]
      have := e2 _ _ (take_drop_get hj)
      rw [show a.off + (M a.block).s + j = (M a.block).s + (a.off + j) by omega]
      exact this
  . cases e
noncomputable def srcOf (P : Program) (h : H) (size : Nat) (tx : TypeId) (x : Value) : Option (Nat × List Value × H) :=
  match x, P.underlying tx with
  | .slice (some b) n _, some (.slice _) => match rowAt h b (n * size) with
    | some l => some (n, l, h.rd b.block)
    | none => none
  | .slice none n _, some (.slice _) => bif Nat.beq n 0 then some (0, [], h) else none
  | .string s, some .string => bif Nat.beq size 1 then some (s.size, byteCells s, h) else none
  | _, _ => none
theorem ren_one {m : Mp} {v : Value} (h : single v = true) : (ren m v).oneCell' = true := by cases v <;> simp_all [single, Value.oneCell', ren]
theorem byteCells_plain {m : Mp} (s : ByteArray) : (byteCells s).map (ren m) = byteCells s := by
  unfold byteCells
  rw [List.map_map]
  apply List.map_congr_left
  intro b _
  exact ren_plain m _ rfl
theorem srcOf_le {P : Program} {h h1 : H} {size : Nat} {tx : TypeId} {x : Value} {n : Nat} {l : List Value} (e : srcOf P h size tx x = some (n, l, h1)) :
    h1 = h ∨ ∃ b, h1 = h.rd b := by
  unfold srcOf at e
  split at e
  . split at e
    . simp only [Option.some.injEq, Prod.mk.injEq] at e; exact .inr ⟨_, e.2.2.symm⟩
    . cases e
  . next n _ _ _ =>
    cases hb : Nat.beq n 0
    . rw [hb] at e; cases e
    . rw [hb] at e; simp only [cond_true, Option.some.injEq, Prod.mk.injEq] at e; exact .inl e.2.2.symm
  . cases hb : Nat.beq size 1
    . rw [hb] at e; cases e
    . rw [hb] at e; simp only [cond_true, Option.some.injEq, Prod.mk.injEq] at e; exact .inl e.2.2.symm
  . cases e
theorem srcOf_src {P : Program} {h h1 : H} {size : Nat} {tx : TypeId} {x : Value} {n : Nat} {l : List Value} {F : Nat} {K : Nat -> Prop} {M : Mp} {g : Nat -> Option Blk} {w : World}
    (e : srcOf P h size tx x = some (n, l, h1)) (hs : l.all single = true) (hf : Sub h1.fp F) (ha : Agree F K g h) (hr : Rep K M g w) :
    ∀ m, Cl K M m -> Src P size tx (ren m x) n (l.map (ren m)) w := by
  intro m hm
  have hone : ∀ u ∈ l.map (ren m), u.oneCell' = true := fun u hu => by
    obtain ⟨v, hv, rfl⟩ := List.mem_map.1 hu
    exact ren_one (List.all_eq_true.1 hs v hv)
  unfold srcOf at e
  split at e
  . next b n' c el hu =>
    split at e
    . next l' hl =>
      simp only [Option.some.injEq, Prod.mk.injEq] at e
      obtain ⟨rfl, rfl, rfl⟩ := e
      have hF : F.testBit b.block = true := hf _ (by simp [H.rd, bit_test])
      obtain ⟨e1, _, _, e2⟩ := rowAt_cells hl (ha.eq _ hF) hr
      simp only [ren, Option.map_some]
      refine Src.ofSlice w hu _ _ _ _ (by simpa using e1) (fun j u hj => ?_) hone
      rw [List.getElem?_map] at hj
      cases hlj : l'[j]? with
      | none => rw [hlj] at hj; cases hj
      | some v =>
        rw [hlj] at hj
        simp only [Option.map_some, Option.some.injEq] at hj
        subst hj
        exact e2 m hm j v hlj
    . cases e
  . next n' c el hu =>
    cases hb : Nat.beq n' 0
    . rw [hb] at e; cases e
    . rw [hb] at e
      simp only [cond_true, Option.some.injEq, Prod.mk.injEq] at e
      obtain ⟨rfl, rfl, rfl⟩ := e
      have := Nat.eq_of_beq_eq_true hb
      subst this
      simp only [ren, Option.map_none, List.map_nil]
      exact Src.ofNil w hu _
  . next s hu =>
    cases hb : Nat.beq size 1
    . rw [hb] at e; cases e
    . rw [hb] at e
      simp only [cond_true, Option.some.injEq, Prod.mk.injEq] at e
      obtain ⟨rfl, rfl, rfl⟩ := e
      have := Nat.eq_of_beq_eq_true hb
      subst this
      simp only [ren, byteCells_plain]
      exact Src.ofString w hu s
  . cases e
theorem setCells_heap (b : Nat) : ∀ (vs : List Value) (o : Nat) (w : World), (∀ r, r ≠ b -> (w.setCells b o vs).heap[r]? = w.heap[r]?) /\ (w.setCells b o vs).heap.size = w.heap.size /\
    ∀ cs e fr, w.heap[b]? = some (.cells cs e fr) -> o + vs.length <= cs.size -> ∃ cs', (w.setCells b o vs).heap[b]? = some (.cells cs' e fr) /\ cs'.size = cs.size /\
      (∀ i, i < o ∨ o + vs.length <= i -> cs'[i]? = cs[i]?) /\ ∀ (j : Nat) (v : Value), vs[j]? = some v -> cs'[o + j]? = some v
  | [], o, w => ⟨fun _ _ => rfl, rfl, fun cs e fr h _ => ⟨cs, h, rfl, fun _ _ => rfl, fun _ _ hj => by cases hj⟩⟩
  | v :: vs, o, w => by
    obtain ⟨h1, h2, h3⟩ := setCells_heap b vs (o + 1) (w.setCell ⟨b, o, none⟩ v)
    refine ⟨fun r hr => ?_, ?_, fun cs e fr h hl => ?_⟩
    . rw [World.setCells, h1 r hr, setCell_get, if_neg (Ne.symm hr)]
    . rw [World.setCells, h2, setCell_size]
    . have hc : (w.setCell ⟨b, o, none⟩ v).heap[b]? = some (.cells (cs.setIfInBounds o v) e fr) := by
        rw [setCell_get, if_pos rfl, h]; rfl
      simp only [List.length_cons] at hl
      obtain ⟨cs', f1, f2, f3, f4⟩ := h3 _ e fr hc (by simp; omega)
      refine ⟨cs', f1, by simpa using f2, fun i hi => ?_, fun j u hj => ?_⟩
      . simp only [List.length_cons] at hi
        rw [f3 i (by omega), Array.getElem?_setIfInBounds_ne (by omega)]
      . cases j with
        | zero =>
          simp only [List.getElem?_cons_zero, Option.some.injEq] at hj
          subst hj
          rw [Nat.add_zero, f3 o (by omega), Array.getElem?_setIfInBounds_self_of_lt (by omega)]
        | succ j =>
          simp only [List.getElem?_cons_succ] at hj
          rw [show o + (j + 1) = o + 1 + j by omega]
          exact f4 j u hj
def splice (vs : List Value) (o : Nat) (news : List Value) : List Value := vs.take o ++ news ++ vs.drop (o + news.length)
theorem splice_length {vs : List Value} {o : Nat} {news : List Value} (h : o + news.length <= vs.length) : (splice vs o news).length = vs.length := by
  unfold splice
  simp only [List.length_append, List.length_take, List.length_drop]
  omega
theorem splice_get {vs : List Value} {o : Nat} {news : List Value} (h : o + news.length <= vs.length) {i : Nat} {v : Value} (hi : (splice vs o news)[i]? = some v) :
    (o <= i /\ i < o + news.length /\ news[i - o]? = some v) ∨ ((i < o ∨ o + news.length <= i) /\ vs[i]? = some v) := by
  unfold splice at hi
  rcases Nat.lt_or_ge i o with h1 | h1
  . right
    refine ⟨.inl h1, ?_⟩
    rw [List.getElem?_append_left (by simp; omega), List.getElem?_append_left (by simp; omega), List.getElem?_take, if_pos h1] at hi
    exact hi
  . rcases Nat.lt_or_ge i (o + news.length) with h2 | h2
    . left
      refine ⟨h1, h2, ?_⟩
      rw [List.getElem?_append_left (by simp; omega), List.getElem?_append_right (by simp; omega)] at hi
      rwa [show (vs.take o).length = o by simp; omega] at hi
    . right
      refine ⟨.inr h2, ?_⟩
      rw [List.getElem?_append_right (by simp; omega), List.getElem?_drop] at hi
      rwa [show o + news.length + (i - (vs.take o ++ news).length) = i by simp; omega] at hi
open ren (renR renL)
open plain (plainR plainL)
theorem Gn_put {F : Nat} {K : Nat -> Prop} {g : Nat -> Option Blk} {h : H} (ha : Agree F K g h) (b : Nat) (x : Option Blk) : Gn g (h.put b x) = fun c => if c = b then x else g c := by
  funext c
  unfold Gn
  rw [H.get_put]
  simp only [H.put, bit_test]
  by_cases e : c = b
  . simp [e]
  . simp only [e, decide_false, Bool.or_false, if_false]
    cases hw : h.wr.testBit c
    . rfl
    . exact (ha.eq c (ha.wr c hw)).symm
theorem Post.kill {F : Nat} {K : Nat -> Prop} {M : Mp} {g : Nat -> Option Blk} {h : H} {w : World} {b : Nat} (ha : Agree F K g h) (hr : Rep K M g w) :
    Post h (h.put b none) K M g w M w := by
  have hG := Gn_put ha b none
  have sub : ∀ c x, (if c = b then none else g c) = some x -> g c = some x := by
    intro c x hc
    by_cases e : c = b
    . rw [if_pos e] at hc; cases hc
    . rwa [if_neg e] at hc
  refine ⟨fun _ _ => rfl, ?_, fun _ _ _ => rfl, fun c x hk hc => ?_, Nat.le_refl _, Env.refl _⟩
  . rw [show (h.put b none).size = h.size from rfl, Kn_self, hG]
    exact ⟨fun c x hc m hm => hr.blk c x (sub c x hc) m hm, fun c x hc => hr.known c x (sub c x hc), fun c d x y hc hd hne => hr.inj c d x y (sub c x hc) (sub d y hd) hne, hr.lt⟩
  . rw [hG] at hc
    exact absurd (hr.known c x (sub c x hc)) hk
theorem Post.alias {F : Nat} {K : Nat -> Prop} {M : Mp} {g : Nat -> Option Blk} {h : H} {w w' : World} {b : Nat} {x0 y : Blk} {p : Pl} (ha : Agree F K g h) (hF : F.testBit h.size = true) (hr : Rep K M g w)
    (hb : g b = some x0) (hs : w'.heap.size = w.heap.size) (hn : ∀ r, r ≠ (M b).b -> w'.heap[r]? = w.heap[r]?) (hp : p.b = (M b).b) (hbs : b < h.size)
    (hy : ∀ m, Cl K M m -> BlkRel m w' p y) (he : Env w w') : Post h ((h.put b none).push y) K M g w (fun i => if i = h.size then p else M i) w' := by
  have hk0 : ¬ K h.size := ha.free _ hF (Nat.le_refl _)
  have hne : b ≠ h.size := Nat.ne_of_lt hbs
  have hG : Gn g ((h.put b none).push y) = fun c => if c = h.size then some y else if c = b then none else g c := by
    funext c
    unfold Gn
    rw [H.get_push, H.get_put]
    simp only [H.push, H.put, bit_test]
    by_cases e : c = h.size
    . simp [e]
    . by_cases e' : c = b
      . simp [e', hne]
      . simp only [e, e', decide_false, Bool.or_false, if_false]
        cases hw : h.wr.testBit c
        . rfl
        . exact (ha.eq c (ha.wr c hw)).symm
  have hsz : ((h.put b none).push y).size = h.size + 1 := rfl
  have hKn : ∀ i, Kn K h.size (h.size + 1) i ↔ K i ∨ i = h.size := fun i => by
    unfold Kn
    constructor
    . rintro (h | h)
      . exact .inl h
      . exact .inr (by omega)
    . rintro (h | h)
      . exact .inl h
      . exact .inr (by omega)
  have other : ∀ q : Pl, q.b ≠ (M b).b -> ∀ m z, BlkRel m w q z -> BlkRel m w' q z := by
    intro q hq m z hz
    cases z with
    | row vs sz => unfold BlkRel at hz ⊢; simpa only [hn _ hq] using hz
    | ro vs => unfold BlkRel at hz ⊢; simpa only [World.cell?, hn _ hq] using hz
    | obj o => unfold BlkRel at hz ⊢; simpa only [hn _ hq] using hz
  have sub : ∀ m, Cl (Kn K h.size (h.size + 1)) (fun i => if i = h.size then p else M i) m -> Cl K M m := fun m hm b hb =>
    (hm b (.inl hb)).trans (if_neg (fun e => hk0 (by rw [← e]; exact hb)))
  have old : ∀ c z, c ≠ h.size -> (if c = h.size then some y else if c = b then none else g c) = some z -> g c = some z /\ c ≠ b := by
    intro c z e hc
    rw [if_neg e] at hc
    by_cases e' : c = b
    . rw [if_pos e'] at hc; cases hc
    . rw [if_neg e'] at hc; exact ⟨hc, e'⟩
  refine ⟨fun c hc => if_neg (fun e => hk0 (by rw [← e]; exact hc)), ?_, fun r _ hh => hn r fun e => hh b x0 hb (by simp [H.push, H.put, bit_test]) e.symm, fun c z hk hc => ?_, Nat.le_of_eq hs.symm, he⟩
  . rw [hsz, hG]
    refine ⟨fun c z hc m hm => ?_, fun c z hc => ?_, fun c d u v hc hd hcd => ?_, fun c hc => ?_⟩
    . by_cases e : c = h.size
      . subst e; simp only [if_true, Option.some.injEq] at hc ⊢; subst hc; exact hy m (sub m hm)
      . obtain ⟨h1, h2⟩ := old c z e hc
        simp only [e, if_false]
        exact other _ (hr.inj c b z x0 h1 hb h2) m z (hr.blk c z h1 m (sub m hm))
    . by_cases e : c = h.size
      . exact (hKn c).2 (.inr e)
      . exact (hKn c).2 (.inl (hr.known c z (old c z e hc).1))
    . by_cases e : c = h.size
      . have e' : d ≠ h.size := fun x => hcd (e.trans x.symm)
        obtain ⟨h1, h2⟩ := old d v e' hd
        simp only [e, e', if_true, if_false, hp]
        exact hr.inj b d x0 v hb h1 (Ne.symm h2)
      . obtain ⟨h1, h2⟩ := old c u e hc
        by_cases e' : d = h.size
        . simp only [e, e', if_true, if_false, hp]
          exact hr.inj c b u x0 h1 hb h2
        . obtain ⟨h3, h4⟩ := old d v e' hd
          simp only [e, e', if_false]
          exact hr.inj c d u v h1 h3 hcd
    . rw [hs]
      by_cases e : c = h.size
      . simp only [e, if_true, hp]; exact hr.lt b (hr.known b x0 hb)
      . simp only [e, if_false]
        exact hr.lt c (((hKn c).1 hc).resolve_right e)
  . rw [hG] at hc
    by_cases e : c = h.size
    . right
      exact ⟨b, x0, hb, by simp [H.push, H.put, bit_test], by simp only [e, if_true, hp]⟩
    . exact absurd (hr.known c z (old c z e hc).1) hk
noncomputable def aappend (P : Program) (t tx : TypeId) (s x : Value) (h : H) : Option (Value × H) :=
  match s, P.underlying t with
  | .slice base sLen cap, some (.slice e) =>
    match P.info? e with
    | none => none
    | some i => match i.zero with
      | none => none
      | some z => match srcOf P h i.size tx x with
        | none => none
        | some (n, news, h1) =>
          bif Nat.beq z.cells.size i.size && news.all single && Nat.ble (sLen + n) 4194304 && Nat.ble i.bytes 1048576 && Nat.beq news.length (n * i.size) then
            match base with
            | none => bif Nat.beq sLen 0 then
                bif Nat.ble (sLen + n) cap then (bif Nat.beq n 0 then some (.slice none (sLen + n) cap, h1) else none)
                else some (.slice (some ⟨h1.size, 0, none⟩) (sLen + n) (Big + (sLen + n)), h1.push (.row news i.size))
              else none
            | some a =>
              match rowAt h1 a (sLen * i.size) with
              | none => none
              | some olds =>
                bif Nat.blt cap Big then
                  bif Nat.ble (sLen + n) cap then
                    match h1.get a.block with
                    | some (.row vs sz) => bif Nat.ble (a.off + sLen * i.size + news.length) vs.length then
                        some (.slice (some a) (sLen + n) cap, h1.put a.block (some (.row (splice vs (a.off + sLen * i.size) news) sz))) else none
                    | _ => none
                  else some (.slice (some ⟨h1.size, 0, none⟩) (sLen + n) (Big + (sLen + n)), (h1.rd a.block).push (.row (olds ++ news) i.size))
                else
                  match h1.get a.block with
                  | some (.row vs sz) => bif Nat.beq sz i.size && Nat.ble (a.off + (cap - Big) * sz) vs.length && Nat.blt a.block h1.size then
                      some (.slice (some ⟨h1.size, 0, none⟩) (sLen + n) (Big + (sLen + n)), (h1.put a.block none).push (.row (olds ++ news) i.size)) else none
                  | _ => none
          else none
  | _, _ => none
theorem grown_run {P : Program} {t tx ty e : TypeId} {i : TypeInfo} {z : Value} (ht : P.underlying t = some (.slice e)) (hi : P.info? e = some i) (hz : i.zero = some z) (hzs : z.cells.size = i.size)
    {base : Option Addr} {sLen cap n : Nat} {olds news : List Value} {x : Value} {w : World}
    (hold : (Builtin.firstCells i.size sLen (.slice base sLen cap)).run P w.drew = .ok olds.toArray w.drew) (hs : Src P i.size tx x n news w) (hol : olds.length = sLen * i.size)
    (hg : cap < sLen + n) (hb1 : sLen + n <= 4194304) (hb2 : i.bytes <= 1048576) :
    ∃ (ex : Nat) (cs : Array Value) (w' : World), (Builtin.append_ #[t, tx] ty #[.slice base sLen cap, x]).run P w = .ok (.slice (some ⟨w.heap.size, 0, none⟩) (sLen + n) (sLen + n + ex)) w' /\
      (w'.heap = w.heap.push (.cells cs e) /\ Env w w') /\ cs.size = (sLen + n + ex) * i.size /\ ∀ (j : Nat) (v : Value), (olds ++ news)[j]? = some v -> cs[j]? = some v := by
  have hfit : Builtin.nextslicecap (sLen + n) cap * i.bytes <= 281474976710656 := by
    have h1 := nextslicecap_le hg
    have h2 : Builtin.nextslicecap (sLen + n) cap * i.bytes <= 8388608 * 1048576 := Nat.mul_le_mul (by omega) hb2
    omega
  have hr := run_append_grow_src (P := P) w t tx ty e i z ht hi hz base sLen cap olds hold x n news hs hg (by omega) hfit
  have hge := grownCap_ge w (sLen + n) cap e
  refine ⟨grownCap w (sLen + n) cap e - (sLen + n), (olds ++ news).toArray ++ Builtin.zeroCells z.cells (grownCap w (sLen + n) cap e - (sLen + n)),
    w.drew.alloc (.cells ((olds ++ news).toArray ++ Builtin.zeroCells z.cells (grownCap w (sLen + n) cap e - (sLen + n))) e), ?_, ⟨rfl, rfl, rfl, rfl⟩, ?_, fun j v hj => ?_⟩
  . rw [hr]
    congr 2
    omega
  . simp only [Array.size_append, List.size_toArray, size_zeroCells, hzs, List.length_append, hol, hs.newsLen, ← Nat.add_mul]
  . have hlt : j < (olds ++ news).length := (List.getElem?_eq_some_iff.1 hj).1
    rw [Array.getElem?_append_left (by simpa using hlt)]
    simpa using hj
theorem aappend_le {P : Program} {t tx : TypeId} {s x v : Value} {h h' : H} (e : aappend P t tx s x h = some (v, h')) : Le h h' := by
  unfold aappend at e
  split at e
  case h_2 => cases e
  next base sLen cap el hu =>
  split at e
  . cases e
  next i hi =>
  split at e
  . cases e
  next z hz =>
  split at e
  . cases e
  next n news h1 hsrc =>
  cases hc : (Nat.beq z.cells.size i.size && news.all single && Nat.ble (sLen + n) 4194304 && Nat.ble i.bytes 1048576 && Nat.beq news.length (n * i.size))
  . rw [hc] at e; cases e
  rw [hc] at e
  simp only [cond_true] at e
  have hl1 : Le h h1 := by
    rcases srcOf_le hsrc with rfl | ⟨b, rfl⟩
    . exact Le.refl _
    . exact Le.rd _ _
  refine hl1.trans ?_
  cases base with
  | none =>
    simp only at e
    cases h0 : Nat.beq sLen 0
    . rw [h0] at e; cases e
    rw [h0] at e
    simp only [cond_true] at e
    cases h2 : Nat.ble (sLen + n) cap
    . rw [h2] at e
      simp only [cond_false, Option.some.injEq, Prod.mk.injEq] at e
      rw [← e.2]; exact Le.push _ _
    . rw [h2] at e
      simp only [cond_true] at e
      cases h3 : Nat.beq n 0
      . rw [h3] at e; cases e
      . rw [h3] at e
        simp only [cond_true, Option.some.injEq, Prod.mk.injEq] at e
        rw [← e.2]; exact Le.refl _
  | some a =>
    simp only at e
    split at e
    . cases e
    next olds hol =>
    cases h2 : Nat.blt cap Big
    . rw [h2] at e
      simp only [cond_false] at e
      split at e
      . next vs sz hgt =>
        cases h3 : (Nat.beq sz i.size && Nat.ble (a.off + (cap - Big) * sz) vs.length && Nat.blt a.block h1.size)
        . rw [h3] at e; cases e
        . rw [h3] at e
          simp only [cond_true, Option.some.injEq, Prod.mk.injEq] at e
          rw [← e.2]; exact (Le.put _ _ _ ⟨_, hgt⟩).trans (Le.push _ _)
      . cases e
    . rw [h2] at e
      simp only [cond_true] at e
      cases h3 : Nat.ble (sLen + n) cap
      . rw [h3] at e
        simp only [cond_false, Option.some.injEq, Prod.mk.injEq] at e
        rw [← e.2]; exact (Le.rd _ _).trans (Le.push _ _)
      . rw [h3] at e
        simp only [cond_true] at e
        split at e
        . next vs sz hgt =>
          cases h4 : Nat.ble (a.off + sLen * i.size + news.length) vs.length
          . rw [h4] at e; cases e
          . rw [h4] at e
            simp only [cond_true, Option.some.injEq, Prod.mk.injEq] at e
            rw [← e.2]; exact Le.put _ _ _ ⟨_, hgt⟩
        . cases e
theorem aappend_sound {P : Program} {t tx : TypeId} {s x v : Value} {h h' : H} {F : Nat} {K : Nat -> Prop} {M : Mp} {g : Nat -> Option Blk} {w : World} {ty : TypeId} {s' x' : Value}
    (e : aappend P t tx s x h = some (v, h')) (hf : Sub h'.fp F) (ha : Agree F K g h) (hr : Rep K M g w) (hs : ∀ m, Cl K M m -> s' = ren m s) (hx : ∀ m, Cl K M m -> x' = ren m x) :
    Le h h' /\ ∃ v' M' w', (Builtin.append_ #[t, tx] ty #[s', x']).run P w = .ok v' w' /\ Post h h' K M g w M' w' /\ ∀ m, Cl (Kn K h.size h'.size) M' m -> v' = ren m v := by
  unfold aappend at e
  split at e
  case h_2 => cases e
  next base sLen cap el hu =>
  split at e
  . cases e
  next i hi =>
  split at e
  . cases e
  next z hz =>
  split at e
  . cases e
  next n news h1 hsrc =>
  cases hc : (Nat.beq z.cells.size i.size && news.all single && Nat.ble (sLen + n) 4194304 && Nat.ble i.bytes 1048576 && Nat.beq news.length (n * i.size))
  . rw [hc] at e; cases e
  rw [hc] at e
  simp only [cond_true] at e
  simp only [Bool.and_eq_true, Nat.beq_eq, Nat.ble_eq] at hc
  obtain ⟨⟨⟨⟨hzs, hsing⟩, hb1⟩, hb2⟩, hnl⟩ := hc
  have hl1 : Le h h1 /\ h1.wr = h.wr /\ h1.size = h.size /\ ∀ b, h1.get b = h.get b := by
    rcases srcOf_le hsrc with rfl | ⟨b, rfl⟩
    . exact ⟨Le.refl _, rfl, rfl, fun _ => rfl⟩
    . exact ⟨Le.rd _ _, rfl, rfl, fun _ => rfl⟩
  obtain ⟨hl1, hw1, hs1, hg1⟩ := hl1
  -- whatever follows, from h1 on
  suffices H : Le h1 h' -> Sub h'.fp F -> ∃ v' M' w', (Builtin.append_ #[t, tx] ty #[s', x']).run P w = .ok v' w' /\ Post h1 h' K M g w M' w' /\ ∀ m, Cl (Kn K h1.size h'.size) M' m -> v' = ren m v by
    have hl2 : Le h1 h' := by
      cases base with
      | none =>
        simp only at e
        cases h0 : Nat.beq sLen 0
        . rw [h0] at e; cases e
        rw [h0] at e
        simp only [cond_true] at e
        cases h2 : Nat.ble (sLen + n) cap
        . rw [h2] at e
          simp only [cond_false, Option.some.injEq, Prod.mk.injEq] at e
          rw [← e.2]; exact Le.push _ _
        . rw [h2] at e
          simp only [cond_true] at e
          cases h3 : Nat.beq n 0
          . rw [h3] at e; cases e
          . rw [h3] at e
            simp only [cond_true, Option.some.injEq, Prod.mk.injEq] at e
            rw [← e.2]; exact Le.refl _
      | some a =>
        simp only at e
        split at e
        . cases e
        next olds hol =>
        cases h2 : Nat.blt cap Big
        . rw [h2] at e
          simp only [cond_false] at e
          split at e
          . next vs sz hgt =>
            cases h3 : (Nat.beq sz i.size && Nat.ble (a.off + (cap - Big) * sz) vs.length && Nat.blt a.block h1.size)
            . rw [h3] at e; cases e
            . rw [h3] at e
              simp only [cond_true, Option.some.injEq, Prod.mk.injEq] at e
              rw [← e.2]; exact (Le.put _ _ _ ⟨_, hgt⟩).trans (Le.push _ _)
          . cases e
        . rw [h2] at e
          simp only [cond_true] at e
          cases h3 : Nat.ble (sLen + n) cap
          . rw [h3] at e
            simp only [cond_false, Option.some.injEq, Prod.mk.injEq] at e
            rw [← e.2]; exact (Le.rd _ _).trans (Le.push _ _)
          . rw [h3] at e
            simp only [cond_true] at e
            split at e
            . next vs sz hgt =>
              cases h4 : Nat.ble (a.off + sLen * i.size + news.length) vs.length
              . rw [h4] at e; cases e
              . rw [h4] at e
                simp only [cond_true, Option.some.injEq, Prod.mk.injEq] at e
                rw [← e.2]; exact Le.put _ _ _ ⟨_, hgt⟩
            . cases e
    refine ⟨hl1.trans hl2, ?_⟩
    obtain ⟨v', M', w', r1, r2, r3⟩ := H hl2 hf
    have hP := Post.same ha hr h1 hw1 hs1 hg1
    have hGn := Gn_eq ha h1 hw1 hg1
    refine ⟨v', M', w', r1, ?_, fun m hm => r3 m ?_⟩
    . refine Post.trans ha (hl2.fp.trans hf) hl1 hl2 hP ?_
      rw [hs1, Kn_self, hGn]; exact r2
    . rw [hs1]; exact hm
  intro hl2 hf'
  have hf1 : Sub h1.fp F := hl2.fp.trans hf
  have ha1 : Agree F K g h1 := by
    have := ha.next hl1 hf1
    rwa [hs1, Kn_self, Gn_eq ha h1 hw1 hg1] at this
  have hsr := srcOf_src hsrc hsing hf1 ha hr
  have hxm := hx M Cl.refl
  have hsm := hs M Cl.refl
  have hnews : ∀ m, Cl K M m -> news.map (ren m) = news.map (ren M) := fun m hm => by
    have c1 := (hsr m hm).cells
    have c2 := (hsr M Cl.refl).cells
    rw [← hx m hm] at c1
    rw [← hxm] at c2
    rw [c1] at c2
    simp only [Result.ok.injEq, and_true] at c2
    have := congrArg Array.toList c2
    simpa using this
  have hS : Src P i.size tx x' n (news.map (ren M)) w := by have := hsr M Cl.refl; rwa [← hxm] at this
  -- a new row
  have grow : ∀ (base' : Option Addr) (cap' : Nat) (olds : List Value) (hh : Ev.H), s' = .slice base' sLen cap' -> olds.length = sLen * i.size -> cap' < sLen + n ->
      (Builtin.firstCells i.size sLen (.slice base' sLen cap')).run P w.drew = .ok (olds.map (ren M)).toArray w.drew -> (∀ m, Cl K M m -> olds.map (ren m) = olds.map (ren M)) ->
      Le h1 hh -> hh.size = h1.size -> Post h1 hh K M g w M w -> Sub (hh.push (.row (olds ++ news) i.size)).fp F -> v = .slice (some ⟨h1.size, 0, none⟩) (sLen + n) (Big + (sLen + n)) ->
      h' = hh.push (.row (olds ++ news) i.size) ->
      ∃ v' M' w', (Builtin.append_ #[t, tx] ty #[s', x']).run P w = .ok v' w' /\ Post h1 h' K M g w M' w' /\ ∀ m, Cl (Kn K h1.size h'.size) M' m -> v' = ren m v := by
    intro base' cap' olds hh hs' hol hcap hold holds hle hsz hP hfp hv hh'
    subst hv hh'
    obtain ⟨ex, cs, w', r1, r2, r3, r4⟩ := grown_run (ty := ty) hu hi hz hzs hold hS (by simpa using hol) hcap hb1 hb2
    have hah : Agree F K (Gn g hh) hh := by
      have := ha1.next hle (Sub.trans (Le.push hh (.row (olds ++ news) i.size)).fp hfp)
      rwa [hsz, Kn_self] at this
    have hFs : F.testBit hh.size = true := hfp _ (by simp [H.push, bit_test])
    have hrep : Rep K M (Gn g hh) w := by have := hP.rep; rwa [hsz, Kn_self] at this
    have hpush : Post hh (hh.push (.row (olds ++ news) i.size)) K M (Gn g hh) w (fun j => if j = hh.size then ⟨w.heap.size, 0, ex⟩ else M j) { w with heap := w.heap.push (.cells cs el) } := by
      refine Post.push hah hFs hrep (fun m hm => ?_)
      refine ⟨cs, el, by simp, ?_, fun j u hj => ?_⟩
      . simp only [List.length_append, hol, hnl, r3, Nat.zero_add, Nat.add_mul]; omega
      . have := r4 j (ren m u) (by
          rw [← holds m hm, ← hnews m hm, ← List.map_append, List.getElem?_map, hj]; rfl)
        simpa using this
    refine ⟨.slice (some ⟨w.heap.size, 0, none⟩) (sLen + n) (sLen + n + ex), _, w', by rw [hs']; exact r1, Post.of_heap (w1 := { w with heap := w.heap.push (.cells cs el) }) r2.1 r2.2 (Post.trans ha1 (Sub.trans (Le.push hh (.row (olds ++ news) i.size)).fp hfp) hle (Le.push _ _) hP (by rw [hsz, Kn_self]; exact hpush)), fun m hm => ?_⟩
    have hmn : m hh.size = ⟨w.heap.size, 0, ex⟩ := (hm hh.size (.inr ⟨by rw [hsz]; exact Nat.le_refl _, Nat.lt_succ_self _⟩)).trans (if_pos rfl)
    rw [hsz] at hmn
    simp only [ren, Option.map_some, renA, renC, hmn, Nat.zero_add]
    rw [if_neg (by omega)]
    simp only [Value.slice.injEq, true_and]
    omega
  cases base with
  | none =>
    simp only at e
    have hs' : s' = .slice none sLen cap := by rw [hsm]; simp [ren, renC]
    cases h0 : Nat.beq sLen 0
    . rw [h0] at e; cases e
    rw [h0] at e
    have h0' := Nat.eq_of_beq_eq_true h0
    subst h0'
    simp only [cond_true] at e
    cases h2 : Nat.ble (0 + n) cap
    . rw [h2] at e
      simp only [cond_false, Option.some.injEq, Prod.mk.injEq] at e
      have hlt : cap < 0 + n := by
        rcases Nat.lt_or_ge cap (0 + n) with h | h
        . exact h
        . rw [Nat.ble_eq_true_of_le h] at h2; cases h2
      refine grow none cap [] h1 hs' (by simp) hlt (by simpa using run_firstCells_none w.drew i.size 0 0 cap) (fun _ _ => rfl) (Le.refl _) rfl (Post.same ha1 hr h1 rfl rfl fun _ => rfl) ?_ e.1.symm e.2.symm
      have := e.2
      simp only [List.nil_append] at this ⊢
      rw [this]; exact hf'
    . rw [h2] at e
      simp only [cond_true] at e
      cases h3 : Nat.beq n 0
      . rw [h3] at e; cases e
      . rw [h3] at e
        simp only [cond_true, Option.some.injEq, Prod.mk.injEq] at e
        obtain ⟨rfl, rfl⟩ := e
        refine ⟨.slice none (0 + n) cap, M, w, ?_, Post.same ha1 hr h1 rfl rfl fun _ => rfl, fun m _ => (ren_plain m _ rfl).symm⟩
        have hroom := Nat.le_of_ble_eq_true h2
        rw [hs']
        rcases hS.kind with ⟨e', hk⟩ | hk <;> simp [Builtin.append_, run_underlying hu, run_underlying hk, sizeOf, typeInfo, hi, hS.len, hS.cells]
        all_goals (intro hlt; exfalso; omega)
  | some a =>
    simp only at e
    split at e
    . cases e
    next olds hol =>
    cases h2 : Nat.blt cap Big
    . -- capacity known from below alone
      rw [h2] at e
      simp only [cond_false] at e
      split at e
      case h_2 => cases e
      next vs sz hgt =>
      cases h3 : (Nat.beq sz i.size && Nat.ble (a.off + (cap - Big) * sz) vs.length && Nat.blt a.block h1.size)
      . rw [h3] at e; cases e
      rw [h3] at e
      simp only [cond_true, Option.some.injEq, Prod.mk.injEq] at e
      obtain ⟨ev, eh⟩ := e
      simp only [Bool.and_eq_true, Nat.beq_eq, Nat.ble_eq, Nat.blt_eq] at h3
      obtain ⟨⟨hsz, hfit⟩, hblt⟩ := h3
      have hcb : ¬ cap < Big := fun h => by rw [show Nat.blt cap Big = true by simpa [Nat.blt_eq] using h] at h2; cases h2
      have hFa : F.testBit a.block = true := hf' _ (by rw [← eh]; simp [H.push, H.put, bit_test])
      have hg := ha1.eq _ hFa
      obtain ⟨ol1, hsp, _, ol2⟩ := rowAt_cells hol hg hr
      have hgv := hg.trans hgt
      obtain ⟨cs, el', e1, e2, e3⟩ := hr.blk _ _ hgv M Cl.refl
      have hs' : s' = .slice (some (renA M a)) sLen (cap - Big + (M a.block).x) := by rw [hsm]; simp [ren, renC, hcb]
      have hA : renA M a = ⟨(M a.block).b, a.off + (M a.block).s, none⟩ := by simp [renA, hsp]
      have holds : ∀ m, Cl K M m -> olds.map (ren m) = olds.map (ren M) := fun m hm => by
        apply List.map_congr_left
        intro u hu'
        obtain ⟨j, hj⟩ := List.getElem?_of_mem hu'
        have c1 := ol2 m hm j u hj
        have c2 := ol2 M Cl.refl j u hj
        have : renA m a = renA M a := by simp [renA, hm _ (hr.known _ _ hgv)]
        rw [this, c2] at c1
        exact (Option.some.inj c1).symm
      rcases Nat.lt_or_ge (cap - Big + (M a.block).x) (sLen + n) with hlt | hge
      . refine grow _ _ olds (h1.put a.block none) hs' ol1 hlt ?_ holds (Le.put _ _ _ ⟨_, hgt⟩) rfl (Post.kill ha1 hr) (by rw [eh]; exact hf') ev.symm eh.symm
        refine run_firstCells_some w.drew i.size sLen (renA M a) sLen _ _ (by simpa using ol1) (fun j u hj => ?_)
        rw [List.getElem?_map] at hj
        cases hoj : olds[j]? with
        | none => rw [hoj] at hj; cases hj
        | some u0 =>
          rw [hoj] at hj
          simp only [Option.map_some, Option.some.injEq] at hj
          subst hj
          have := ol2 M Cl.refl j u0 hoj
          simpa using this
      . -- there is room: the new row lies where the old one lay
        have hsz' : sz = i.size := hsz
        have hreal : a.off + (M a.block).s + (cap - Big + (M a.block).x) * i.size <= cs.size := by
          rw [hsz'] at hfit e2
          rw [Nat.add_mul]; omega
        have hmul : (sLen + n) * i.size <= (cap - Big + (M a.block).x) * i.size := Nat.mul_le_mul_right _ hge
        have hmul' : (sLen + n) * i.size = sLen * i.size + n * i.size := Nat.add_mul _ _ _
        have hroomc : a.off + (M a.block).s + sLen * i.size + news.length <= cs.size := by omega
        have hcell : ∀ k, k < cs.size -> ∃ u, w.cell? ⟨(M a.block).b, k, none⟩ = some u := fun k hk => by
          simp only [World.cell?, e1, Option.isSome_none, Bool.false_eq_true, if_false]
          exact ⟨_, Array.getElem?_eq_getElem hk⟩
        have hrun := run_append_room_src (P := P) w t tx ty el i hu hi (M a.block).b (a.off + (M a.block).s) sLen (cap - Big + (M a.block).x) x' n (news.map (ren M)) hS hge
          (fun j hj => by
            simp only [List.length_map] at hj
            obtain ⟨u, hu'⟩ := hcell (a.off + (M a.block).s + sLen * i.size + j) (by omega)
            rw [hu']; rfl)
          (fun j hj => by simp only [World.frozen?, e1]; simp)
        obtain ⟨q1, q2, q3⟩ := setCells_heap (M a.block).b (news.map (ren M)) (a.off + (M a.block).s + sLen * i.size) w
        obtain ⟨cs', f1, f2, f3, f4⟩ := q3 cs el' (0, 0) e1 (by simpa using hroomc)
        have hFs : F.testBit h1.size = true := hf' _ (by rw [← eh]; simp [H.push, H.put, bit_test])
        have hal : Post h1 ((h1.put a.block none).push (.row (olds ++ news) i.size)) K M g w (fun j => if j = h1.size then ⟨(M a.block).b, a.off + (M a.block).s, cap - Big + (M a.block).x - (sLen + n)⟩ else M j)
            (w.setCells (M a.block).b (a.off + (M a.block).s + sLen * i.size) (news.map (ren M))) := by
          refine Post.alias (b := a.block) (p := ⟨(M a.block).b, a.off + (M a.block).s, cap - Big + (M a.block).x - (sLen + n)⟩) ha1 hFs hr hgv q2 q1 rfl hblt (fun m hm => ?_) (setCells_env _ _ _ _)
          refine ⟨cs', el', f1, ?_, fun j u hj => ?_⟩
          . simp only [List.length_append, ol1, hnl, f2]
            have : (cap - Big + (M a.block).x - (sLen + n)) * i.size = (cap - Big + (M a.block).x) * i.size - (sLen + n) * i.size := Nat.sub_mul _ _ _
            omega
          . simp only
            rcases Nat.lt_or_ge j olds.length with hj' | hj'
            . rw [List.getElem?_append_left hj'] at hj
              rw [f3 _ (.inl (by omega))]
              have c1 := ol2 m hm j u hj
              have : renA m a = renA M a := by simp [renA, hm _ (hr.known _ _ hgv)]
              rw [this, renA_add' M a j hsp] at c1
              simpa only [World.cell?, e1, Option.isSome_none, Bool.false_eq_true, if_false] using c1
            . rw [List.getElem?_append_right hj'] at hj
              have := f4 (j - olds.length) (ren m u) (by rw [← hnews m hm, List.getElem?_map, hj]; rfl)
              rwa [show a.off + (M a.block).s + sLen * i.size + (j - olds.length) = a.off + (M a.block).s + j by omega] at this
        subst ev eh
        refine ⟨_, _, _, by rw [hs', hA]; exact hrun, hal, fun m hm => ?_⟩
        have hmn : m h1.size = ⟨(M a.block).b, a.off + (M a.block).s, cap - Big + (M a.block).x - (sLen + n)⟩ := (hm h1.size (.inr ⟨Nat.le_refl _, Nat.lt_succ_self _⟩)).trans (if_pos rfl)
        simp only [ren, Option.map_some, renA, renC, hmn, Nat.zero_add]
        rw [if_neg (by omega)]
        simp only [Value.slice.injEq, true_and]
        omega
    . -- capacity known
      rw [h2] at e
      simp only [cond_true] at e
      have hcb : cap < Big := by simpa [Nat.blt_eq] using h2
      have hs' : s' = .slice (some (renA M a)) sLen cap := by rw [hsm]; exact ren_slice a sLen hcb
      cases h3 : Nat.ble (sLen + n) cap
      . rw [h3] at e
        simp only [cond_false, Option.some.injEq, Prod.mk.injEq] at e
        obtain ⟨ev, eh⟩ := e
        have hlt : cap < sLen + n := by
          rcases Nat.lt_or_ge cap (sLen + n) with h | h
          . exact h
          . rw [Nat.ble_eq_true_of_le h] at h3; cases h3
        have hFa : F.testBit a.block = true := hf' _ (by rw [← eh]; simp [H.push, H.rd, bit_test])
        have hg := ha1.eq _ hFa
        obtain ⟨ol1, hsp, ⟨y, hy⟩, ol2⟩ := rowAt_cells hol hg hr
        have hgv := hg.trans hy
        have holds : ∀ m, Cl K M m -> olds.map (ren m) = olds.map (ren M) := fun m hm => by
          apply List.map_congr_left
          intro u hu'
          obtain ⟨j, hj⟩ := List.getElem?_of_mem hu'
          have c1 := ol2 m hm j u hj
          have c2 := ol2 M Cl.refl j u hj
          have : renA m a = renA M a := by simp [renA, hm _ (hr.known _ _ hgv)]
          rw [this, c2] at c1
          exact (Option.some.inj c1).symm
        refine grow _ _ olds (h1.rd a.block) hs' ol1 hlt ?_ holds (Le.rd _ _) rfl (Post.same ha1 hr _ rfl rfl fun _ => rfl) (by rw [eh]; exact hf') ev.symm eh.symm
        refine run_firstCells_some w.drew i.size sLen (renA M a) sLen _ _ (by simpa using ol1) (fun j u hj => ?_)
        rw [List.getElem?_map] at hj
        cases hoj : olds[j]? with
        | none => rw [hoj] at hj; cases hj
        | some u0 =>
          rw [hoj] at hj
          simp only [Option.map_some, Option.some.injEq] at hj
          subst hj
          have := ol2 M Cl.refl j u0 hoj
          simpa using this
      . rw [h3] at e
        simp only [cond_true] at e
        have hroom := Nat.le_of_ble_eq_true h3
        split at e
        case h_2 => cases e
        next vs sz hgt =>
        cases h4 : Nat.ble (a.off + sLen * i.size + news.length) vs.length
        . rw [h4] at e; cases e
        rw [h4] at e
        simp only [cond_true, Option.some.injEq, Prod.mk.injEq] at e
        obtain ⟨ev, eh⟩ := e
        have hfit := Nat.le_of_ble_eq_true h4
        have hFa : F.testBit a.block = true := hf' _ (by rw [← eh]; simp [H.put, bit_test])
        have hg := ha1.eq _ hFa
        obtain ⟨ol1, hsp, _, ol2⟩ := rowAt_cells hol hg hr
        have hgv := hg.trans hgt
        obtain ⟨cs, el', e1, e2, e3⟩ := hr.blk _ _ hgv M Cl.refl
        have hA : renA M a = ⟨(M a.block).b, a.off + (M a.block).s, none⟩ := by simp [renA, hsp]
        have hcell : ∀ k, k < cs.size -> ∃ u, w.cell? ⟨(M a.block).b, k, none⟩ = some u := fun k hk => by
          simp only [World.cell?, e1, Option.isSome_none, Bool.false_eq_true, if_false]
          exact ⟨_, Array.getElem?_eq_getElem hk⟩
        have hrun := run_append_room_src (P := P) w t tx ty el i hu hi (M a.block).b (a.off + (M a.block).s) sLen cap x' n (news.map (ren M)) hS hroom
          (fun j hj => by
            simp only [List.length_map] at hj
            obtain ⟨u, hu'⟩ := hcell (a.off + (M a.block).s + sLen * i.size + j) (by omega)
            rw [hu']; rfl)
          (fun j hj => by simp only [World.frozen?, e1]; simp)
        obtain ⟨q1, q2, q3⟩ := setCells_heap (M a.block).b (news.map (ren M)) (a.off + (M a.block).s + sLen * i.size) w
        obtain ⟨cs', f1, f2, f3, f4⟩ := q3 cs el' (0, 0) e1 (by simp; omega)
        subst ev eh
        refine ⟨_, M, _, by rw [hs', hA]; exact hrun, Post.turn ha1 hFa hr hgv q2 q1 (fun m hm => ?_) (setCells_env _ _ _ _), fun m hm => ?_⟩
        . obtain ⟨cs2, el2, g1, g2, g3⟩ := hr.blk _ _ hgv m hm
          rw [e1] at g1
          simp only [Option.some.injEq, Obj.cells.injEq] at g1
          obtain ⟨rfl, rfl, _⟩ := g1
          refine ⟨cs', _, f1, by rw [splice_length hfit, f2]; exact g2, fun j u hj => ?_⟩
          rcases splice_get hfit hj with ⟨j1, j2, j3⟩ | ⟨j1, j2⟩
          . have := f4 (j - (a.off + sLen * i.size)) (ren m u) (by rw [← hnews m hm, List.getElem?_map, j3]; rfl)
            rwa [show a.off + (M a.block).s + sLen * i.size + (j - (a.off + sLen * i.size)) = (M a.block).s + j by omega] at this
          . rw [f3 _ (by simp only [List.length_map]; omega)]
            exact g3 j u j2
        . have hm' : Cl K M m := Cl.next (fun _ _ => rfl) hm
          rw [ren_slice a _ hcb]
          have : renA m a = renA M a := by simp [renA, hm' _ (hr.known _ _ hgv)]
          rw [this, hA]
end Go.Proofs.YtjiopaojhenanaaGreatDoor.Ev
