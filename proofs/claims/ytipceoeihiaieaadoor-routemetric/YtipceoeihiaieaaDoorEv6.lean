/- Operations as they are reckoned: those on values without addresses, those that are renamed. -/
import Derived.Test.YtipceoeihiaieaaDoorEv5
namespace Go.Proofs.YtipceoeihiaieaaDoor.Ev
open Go
open ren (renR renL)
open plain (plainR plainL)
section
variable {P : Program} {m : Mp} {α β : Type}

/-- A run that looks at nothing but the program. -/
def pureRun (P : Program) : Sem α → Option α
  | .pure a => some a
  | .program k => pureRun P (k P)
  | .mark _ k => pureRun P k
  | _ => none
theorem pureRun_run {s : Sem α} {a : α} (h : pureRun P s = some a) (w : World) : s.run P w = .ok a w := by
  induction s with
  | pure b => simp only [pureRun, Option.some.injEq] at h; rw [h]; rfl
  | program k ih => exact ih P h
  | mark x k ih => exact ih h
  | _ => simp [pureRun] at h

def NextR (m : Mp) (n n' : Next) : Prop :=
  match n with
  | .value v => n' = .value (ren m v)
  | .skip => n' = .skip
  | .enter f args => n' = .enter f (renR m args)
  | _ => True
theorem sim_v {s s' : Sem Value} (h : Sim P (RV m) m s s') : Sim P (NextR m) m (do pure (.value (← s))) (do pure (.value (← s'))) := by
  refine Sim.bnd h ?_
  rintro v _ rfl
  exact .pure rfl
theorem sim_u {s s' : Sem Unit} (h : Sim P (fun _ _ => True) m s s') : Sim P (NextR m) m (do s; pure .skip) (do s'; pure .skip) := by
  refine Sim.bnd h ?_
  rintro _ _ _
  exact .pure rfl

theorem sim_makeInterface (t : TypeId) (v : Value) : Sim P (RV m) m (Instr.makeInterface t v) (Instr.makeInterface t (ren m v)) := by
  unfold Instr.makeInterface
  refine Sim.bnd (Still.underlying t).sim ?_
  rintro d _ rfl
  split
  · exact .halt
  · exact .pure (by simp only [RV, ren])
theorem sim_makeFunc (fn : Fn) (hf : ∀ l, fn ≠ .yield l) (a b : Array Value) : Sim P (RV m) m (Instr.makeFunc fn a b) (Instr.makeFunc fn (a.map (ren m)) (b.map (ren m))) := by
  unfold Instr.makeFunc
  refine .pure ?_
  have : renF m fn = fn := by cases fn <;> first | rfl | exact absurd rfl (hf _)
  simp only [RV, ren, renR_map, this]

theorem sim_lenOf (v : Value) : Sim P Eq m (Builtin.lenOf v) (Builtin.lenOf (ren m v)) := by
  cases v with
  | slice a l c => simp only [ren]; exact .pure rfl
  | string s => simp only [ren]; exact .pure rfl
  | _ => exact .halt
theorem sim_firstCells (size n : Nat) (v : Value) : Sim P (fun x y => y = renR m x) m (Builtin.firstCells size n v) (Builtin.firstCells size n (ren m v)) := by
  cases v with
  | slice a l c =>
    cases a with
    | none => simp only [ren, Option.map_none]; exact .pure (by simp [renR_map])
    | some a => simp only [ren, Option.map_some]; exact sim_loadCells a _
  | string s =>
    simp only [ren]
    refine .pure (renR_plain m _ ?_).symm
    rw [plainR_iff]
    intro v hv
    rw [Array.mem_map] at hv
    obtain ⟨b, _, rfl⟩ := hv
    rfl
  | _ => exact .halt
theorem sim_copy (ts : Array TypeId) (t : TypeId) (args : Array Value) : Sim P (RV m) m (Builtin.copy_ ts t args) (Builtin.copy_ ts t (args.map (ren m))) := by
  unfold Builtin.copy_
  simp only [Array.getElem?_map]
  cases ts[0]? with
  | none => exact .halt
  | some dt =>
    cases args[0]? with
    | none => exact .halt
    | some d =>
      cases args[1]? with
      | none => exact .halt
      | some s =>
        simp only [Option.map_some]
        refine sim_underE fun td htd => ?_
        cases td with
        | slice el =>
          cases d with
          | slice base dl dc =>
            simp only [ren]
            refine Sim.bnd (sim_lenOf s) ?_
            rintro ls _ rfl
            refine Sim.bnd (Still.sizeOf _).sim ?_
            rintro n _ rfl
            refine Sim.bnd (sim_firstCells _ _ s) ?_
            rintro cs _ rfl
            cases base with
            | none => exact .pure (ren_plain m _ rfl).symm
            | some a =>
              simp only [Option.map_some]
              rw [renR_toList]
              refine Sim.bnd (sim_storeCells a cs.toList 0) ?_
              rintro _ _ _
              exact .pure (ren_plain m _ rfl).symm
          | _ => exact .halt
        | _ => exact .halt
/-- The length of a slice, a text, an array. -/
theorem sim_len (ts : Array TypeId) (t : TypeId) (args : Array Value) (hk : ∀ v, args[0]? = some v → (∃ a l c, v = .slice a l c) ∨ ∃ s, v = .string s) :
    Sim P (RV m) m (Builtin.len_ ts t args) (Builtin.len_ ts t (args.map (ren m))) := by
  unfold Builtin.len_
  simp only [Array.getElem?_map]
  cases ts[0]? with
  | none => exact .halt
  | some dt =>
    cases ha : args[0]? with
    | none => exact .halt
    | some v =>
      simp only [Option.map_some]
      refine sim_underE fun td htd => ?_
      rcases hk v ha with ⟨a, l, c, rfl⟩ | ⟨s, rfl⟩
      · simp only [ren]
        cases td with
        | slice e => exact .pure (ren_plain m _ rfl).symm
        | array n e => exact .pure (ren_plain m _ rfl).symm
        | pointer e =>
          refine sim_underE fun td htd => ?_
          cases td with
          | array n e => exact .pure (ren_plain m _ rfl).symm
          | _ => exact .halt
        | _ => exact .halt
      · simp only [ren]
        cases td with
        | string => exact .pure (ren_plain m _ rfl).symm
        | array n e => exact .pure (ren_plain m _ rfl).symm
        | pointer e =>
          refine sim_underE fun td htd => ?_
          cases td with
          | array n e => exact .pure (ren_plain m _ rfl).symm
          | _ => exact .halt
        | _ => exact .halt

/-- Equality where one is nil. -/
def eqSp (P : Program) (t : TypeId) (x y : Value) : Option Bool :=
  match P.underlying t, x, y with
  | some (.pointer _), .pointer none, .pointer b => some b.isNone
  | some (.pointer _), .pointer (some _), .pointer none => some false
  | some (.slice _), .slice none _ _, .slice b _ _ => some b.isNone
  | some (.slice _), .slice (some _) _ _, .slice none _ _ => some false
  | some (.map _ _), .map none, .map b => some b.isNone
  | some (.map _ _), .map (some _), .map none => some false
  | some (.func _ _ _), .nilFunc, .nilFunc => some true
  | some (.func _ _ _), .nilFunc, .func _ _ _ => some false
  | some (.func _ _ _), .func _ _ _, .nilFunc => some false
  | _, _, _ => none
theorem underlying_run {t : TypeId} {d : TypeDesc} (h : P.underlying t = some d) (w : World) : (underlying t).run P w = .ok d w := by
  unfold Go.underlying
  change Sem.run P (match P.underlying t with | some d => Pure.pure d | none => stuck _) w = _
  rw [h]; rfl
theorem eqSp_run {t : TypeId} {x y : Value} {r : Bool} (h : eqSp P t x y = some r) (w : World) : (Op.equal t (ren m x) (ren m y)).run P w = .ok r w := by
  unfold eqSp at h
  unfold Op.equal
  change (Op.equalIn (9999 + 1) t (ren m x) (ren m y)).run P w = _
  rw [Op.equalIn]
  split at h <;> simp only [Option.some.injEq, reduceCtorEq] at h <;> subst h
  all_goals next hu => 
    rw [Sem.run_bind, underlying_run hu]
    simp [ren]
theorem eqSp_shape {t : TypeId} {x y : Value} {r : Bool} (h : eqSp P t x y = some r) :
    (∀ ps qs (w : World), (eqGuard .eql t ps qs (ren m x) (ren m y)).run P w = .ok () w ∧ (eqGuard .neq t ps qs (ren m x) (ren m y)).run P w = .ok () w)
      ∧ (binOp .eql t (ren m x) (ren m y) = do pure (.bool (← Op.equal t (ren m x) (ren m y)))) ∧ (binOp .neq t (ren m x) (ren m y) = do pure (.bool (!(← Op.equal t (ren m x) (ren m y))))) := by
  unfold eqSp at h
  split at h <;> simp only [Option.some.injEq, reduceCtorEq] at h <;> simp only [ren] <;> refine ⟨fun ps qs w => ⟨rfl, rfl⟩, rfl, rfl⟩
end
end Go.Proofs.YtipceoeihiaieaaDoor.Ev
