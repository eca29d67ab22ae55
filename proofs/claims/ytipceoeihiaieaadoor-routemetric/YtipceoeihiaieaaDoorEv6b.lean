/- Maps whose keys are numbers, strings or truths: made, asked, written. -/
import Derived.Test.YtipceoeihiaieaaDoorEv6
namespace Go.Proofs.YtipceoeihiaieaaDoor.Ev
open Go
open ren (renR renL)
open plain (plainR plainL)

def keyS (P : Program) (k : TypeId) : Bool :=
  match P.underlying k with
  | some (.int _) => true
  | some .string => true
  | some .bool => true
  | _ => false
def keyKind (P : Program) (k : TypeId) : Bool :=
  match P.underlying k with
  | some (.int _) => true
  | some .string => true
  | some .bool => true
  | some (.struct fs) => fs.toList.all (fun f => keyS P f.type) && !P.stoodInHeld k
  | _ => false
def keyM (P : Program) (t : TypeId) : Bool :=
  match P.underlying t with
  | some (.map k _) => keyKind P k
  | _ => false
def zokM (P : Program) (t : TypeId) : Bool :=
  match P.underlying t with
  | some (.map _ e) => zok P e
  | _ => false
def keyV1 : Value → Bool
  | .int _ _ => true
  | .string _ => true
  | .bool _ => true
  | _ => false
def keyV : Value → Bool
  | .int _ _ => true
  | .string _ => true
  | .bool _ => true
  | .agg ⟨l⟩ => l.all keyV1
  | _ => false

section
variable {P : Program} {m : Mp}
theorem ren_key1 {v : Value} (h : keyV1 v = true) : ren m v = v := by cases v <;> first | (cases h; done) | simp [ren]
theorem renL_key1 : ∀ {l : List Value}, l.all keyV1 = true → renL m l = l
  | [], _ => by simp [renL]
  | v :: l, h => by
    simp only [List.all_cons, Bool.and_eq_true] at h
    rw [renL, ren_key1 h.1, renL_key1 h.2]
theorem ren_key {v : Value} (h : keyV v = true) : ren m v = v := by
  cases v
  case agg cs =>
    obtain ⟨l⟩ := cs
    rw [ren, renR, renL_key1 h]
  all_goals first | (cases h; done) | simp [ren]

inductive StepR {β : Type} (R : β → β → Prop) : ForInStep β → ForInStep β → Prop
  | done {a b : β} (h : R a b) : StepR R (.done a) (.done b)
  | yield {a b : β} (h : R a b) : StepR R (.yield a) (.yield b)
theorem sim_forInL {α β : Type} {R : β → β → Prop} : ∀ (l : List α) (f f' : α → β → Sem (ForInStep β)), (∀ a ∈ l, ∀ b b', R b b' → Sim P (StepR R) m (f a b) (f' a b')) → ∀ b b', R b b' → Sim P R m (forIn l b f) (forIn l b' f')
  | [], f, f', _, b, b', hb => .pure hb
  | a :: l, f, f', hf, b, b', hb => by
    rw [List.forIn_cons, List.forIn_cons]
    refine Sim.bnd (hf a List.mem_cons_self b b' hb) ?_
    rintro _ _ (h | h)
    · exact .pure h
    · exact sim_forInL l f f' (fun a ha => hf a (List.mem_cons_of_mem _ ha)) _ _ h
theorem sim_forInA {α β : Type} {R : β → β → Prop} (l : Array α) (f f' : α → β → Sem (ForInStep β)) (hf : ∀ a ∈ l, ∀ b b', R b b' → Sim P (StepR R) m (f a b) (f' a b')) (b b' : β) (hb : R b b') : Sim P R m (forIn l b f) (forIn l b' f') := by
  rw [← Array.forIn_toList, ← Array.forIn_toList]
  exact sim_forInL _ _ _ (fun a ha => hf a (by simpa using ha)) _ _ hb
theorem sim_partKey {t : TypeId} (ht : keyS P t = true) {l : List Value} (hl : l.all keyV1 = true) (off : Nat) : Sim P (fun a a' => a' = a ∧ keyV1 a = true) m (part t ⟨l⟩ off) (part t ⟨l⟩ off) := by
  unfold part Go.isAgg
  rw [bind_assoc]
  refine sim_underE fun d hd => ?_
  unfold keyS at ht
  rw [hd] at ht
  cases d <;> first | (cases ht; done) | skip
  all_goals
    change Sim P _ m (match (⟨l⟩ : Array Value)[off]? with | some v => pure v | none => stuck _) (match (⟨l⟩ : Array Value)[off]? with | some v => pure v | none => stuck _)
    cases hc : (⟨l⟩ : Array Value)[off]? with
    | none => exact .halt
    | some v => exact .pure ⟨rfl, List.all_eq_true.1 hl v (by rw [List.getElem?_toArray] at hc; exact List.mem_of_getElem? hc)⟩
def renE (m : Mp) (e : MapEntry) : MapEntry := { e with key := ren m e.key, val := ren m e.val }
theorem renO_map (es : Array MapEntry) (cl : Nat) : renO m (.map es cl) = .map (es.map (renE m)) cl := rfl

theorem sim_makeMap (t : TypeId) (r : Option Value) : Sim P (RV m) m (Instr.makeMap t r) (Instr.makeMap t (r.map (ren m))) := by
  have fin : Sim P (RV m) m (do pure (.map (some (← newObj (.map #[] 0))))) (do pure (.map (some (← newObj (.map #[] 0))))) := by
    have e : Sim P (RV m) m (.new (.map #[] 0) fun n => .pure (.map (some n))) (.new (renO m (.map #[] 0)) fun n => .pure (.map (some n))) :=
      .new fun n _ _ => .pure (by simp [RV, ren])
    rw [renO_map, Array.map_empty] at e
    exact e
  cases r with
  | none => exact fin
  | some v =>
    unfold Instr.makeMap
    dsimp only [Option.map_some]
    refine sim_underE fun d _ => ?_
    cases d with
    | map k e =>
      refine Sim.bnd (sim_asInt v) ?_
      rintro n _ rfl
      exact fin
    | _ => exact .halt

theorem sim_checkS {k : TypeId} (hk : keyS P k = true) (n : Nat) (e e' : Bool) (v v' : Value) : Sim P (fun _ _ => True) m (Instr.checkKey e (n + 1) k v) (Instr.checkKey e' (n + 1) k v') := by
  rw [Instr.checkKey, Instr.checkKey]
  refine sim_underE fun d hd => ?_
  unfold keyS at hk
  rw [hd] at hk
  cases d <;> first | (cases hk; done) | exact .pure trivial
theorem sim_checkKey {k : TypeId} (hk : keyKind P k = true) {N : Nat} (hN : 10000 = N) (e e' : Bool) {v : Value} (hv : keyV v = true) : Sim P (fun _ _ => True) m (Instr.checkKey e N k v) (Instr.checkKey e' N k v) := by
  obtain ⟨n, hn⟩ : ∃ n, n = 9998 := ⟨_, rfl⟩
  have hN' : N = n + 1 + 1 := by omega
  rw [hN', Instr.checkKey, Instr.checkKey]
  refine sim_underE fun d hd => ?_
  unfold keyKind at hk
  rw [hd] at hk
  cases d
  case struct fs =>
    simp only [Bool.and_eq_true, List.all_eq_true] at hk
    cases v
    case agg cs =>
      obtain ⟨l⟩ := cs
      dsimp only
      refine Sim.bnd (sim_forInA (R := fun _ _ => True) fs _ _ (fun f hf b b' _ => ?_) _ _ trivial) fun _ _ _ => .pure trivial
      have hk1 := hk.1 f (by simpa using hf)
      split
      · refine Sim.bnd (sim_partKey hk1 hv _) ?_
        rintro a _ ⟨rfl, _⟩
        refine Sim.bnd (sim_checkS hk1 n e e' _ _) ?_
        rintro _ _ _
        exact .pure (.yield trivial)
      · exact .pure (.yield trivial)
    all_goals exact .halt
  all_goals first | (cases hk; done) | exact .pure trivial

theorem sim_equalS {k : TypeId} (hk : keyS P k = true) (n : Nat) {x : Value} (hx : keyV1 x = true) (y : Value) : Sim P Eq m (Op.equalIn (n + 1) k x y) (Op.equalIn (n + 1) k x (ren m y)) := by
  rw [Op.equalIn, Op.equalIn]
  refine sim_underE fun d hd => ?_
  unfold keyS at hk
  rw [hd] at hk
  cases d <;> first | (cases hk; done) | skip
  all_goals cases x <;> first | (cases hx; done) | skip
  all_goals cases y <;> first | exact .halt | exact .pure rfl | skip
  · simp only [ren]
    split
    · exact .pure rfl
    · exact .halt
  · next z a =>
    cases a <;> rcases z with (_ | z) | z <;> first | exact .halt | exact .pure rfl
theorem sim_equalKey {k : TypeId} (hk : keyKind P k = true) {x : Value} (hx : keyV x = true) (y : Value) : Sim P Eq m (Op.equal k x y) (Op.equal k x (ren m y)) := by
  by_cases hs : keyS P k = true ∧ keyV1 x = true
  · exact sim_equalS hs.1 9999 hs.2 y
  unfold Op.equal
  obtain ⟨n, hn⟩ : ∃ n, n = 9998 := ⟨_, rfl⟩
  have hN' : Op.maxDepth = n + 1 + 1 := by rw [hn]; rfl
  rw [hN', Op.equalIn, Op.equalIn]
  refine sim_underE fun d hd => ?_
  unfold keyKind at hk
  rw [hd] at hk
  have hs' : keyS P k = true → keyV1 x = false := fun h => by
    cases hx1 : keyV1 x
    · rfl
    · exact absurd ⟨h, hx1⟩ hs
  unfold keyS at hs'
  rw [hd] at hs'
  cases d
  case struct fs =>
    simp only [Bool.and_eq_true, List.all_eq_true] at hk
    cases x
    case agg cs =>
      obtain ⟨l⟩ := cs
      cases y
      case agg ds =>
        rw [show ren m (Value.agg ds) = .agg (renR m ds) from by simp [ren]]
        dsimp only
        have hso : P.stoodInHeld k = false := by simpa using hk.2
        refine .program (Sim.bind (R := fun p p' => p = P ∧ p' = P) (.pure ⟨rfl, rfl⟩) ?_)
        intro p p' hp
        rw [hp.1, hp.2, if_neg (by rw [hso]; simp), if_neg (by rw [hso]; simp)]
        refine Sim.bnd (sim_forInA (R := Eq) fs _ _ (fun f hf b b' _ => ?_) _ _ rfl) ?_
        · have hk1 := hk.1 f (by simpa using hf)
          split
          · refine Sim.bnd (sim_partKey hk1 hx _) ?_
            rintro a _ ⟨rfl, ha⟩
            refine Sim.bnd (sim_part _ ds _) ?_
            rintro c _ rfl
            refine Sim.bnd (sim_equalS hk1 n ha c) ?_
            rintro r _ rfl
            cases r
            · exact .pure (.done rfl)
            · exact .pure (.yield rfl)
          · exact .pure (.yield rfl)
        · rintro ⟨r, u⟩ _ rfl
          cases r <;> exact .pure rfl
      all_goals exact .halt
    all_goals first | (cases hx; done) | exact .halt
  case int kd =>
    cases x <;> first | (cases hx; done) | (cases hs' rfl; done) | skip
    cases y <;> exact .halt
  case string =>
    cases x <;> first | (cases hx; done) | (cases hs' rfl; done) | skip
    cases y <;> exact .halt
  case bool =>
    cases x <;> first | (cases hx; done) | (cases hs' rfl; done) | skip
    cases y <;> exact .halt
  all_goals cases hk

def FR (m : Mp) (a a' : Option (Nat × Value)) : Prop := a' = a.map fun x => (x.1, ren m x.2)
theorem sim_findAsking {k : TypeId} (hk : keyKind P k = true) {x : Value} (hx : keyV x = true) : ∀ (es : List MapEntry) (i : Nat), Sim P (FR m) m (Instr.findAsking k x es i) (Instr.findAsking k x (es.map (renE m)) i)
  | [], i => .pure rfl
  | e :: es, i => by
    rw [List.map_cons, Instr.findAsking, Instr.findAsking]
    refine Sim.bnd (sim_equalKey hk hx e.key) ?_
    rintro b _ rfl
    cases b
    · exact sim_findAsking hk hx es (i + 1)
    · exact .pure rfl
theorem sameNow_ren (d : TypeDesc) {x : Value} (hx : keyV x = true) (y : Value) : Instr.sameNow d x (ren m y) = Instr.sameNow d x y := by
  cases x <;> first | (cases hx; done) | skip
  all_goals cases y <;> simp only [ren] <;> cases d <;> rfl
theorem findNow_ren (d : TypeDesc) {x : Value} (hx : keyV x = true) : ∀ (es : List MapEntry) (i : Nat), Instr.findNow d x (es.map (renE m)) i = (Instr.findNow d x es i).map (Option.map fun x => (x.1, ren m x.2))
  | [], i => rfl
  | e :: es, i => by
    rw [List.map_cons, Instr.findNow, Instr.findNow]
    rw [show (renE m e).key = ren m e.key from rfl, sameNow_ren d hx]
    split
    · rfl
    · exact findNow_ren d hx es (i + 1)
    · rfl
theorem sim_findKey {k : TypeId} (hk : keyKind P k = true) {x : Value} (hx : keyV x = true) (es : List MapEntry) : Sim P (FR m) m (Instr.findKey k x es) (Instr.findKey k x (es.map (renE m))) := by
  unfold Instr.findKey
  refine sim_underE fun d hd => ?_
  rw [findNow_ren d hx]
  cases Instr.findNow d x es 0 with
  | none => exact sim_findAsking hk hx es 0
  | some r => exact .pure rfl

theorem sim_lookup {t : TypeId} (ht : keyM P t = true) (hz : zokM P t = true) (x : Value) {i : Value} (hi : keyV i = true) (ok : Bool) :
    Sim P (RV m) m (Instr.lookup t x i ok) (Instr.lookup t (ren m x) (ren m i) ok) := by
  rw [ren_key hi]
  unfold Instr.lookup
  generalize hN : (10000 : Nat) = N
  refine sim_underE fun d hd => ?_
  unfold keyM at ht
  unfold zokM at hz
  rw [hd] at ht hz
  cases d with
  | map k e =>
    dsimp only at ht hz ⊢
    have last : ∀ (v : Value) (o : Bool), Sim P (RV m) m (pure (if ok then Value.tuple #[v, .bool o] else v)) (pure (if ok then Value.tuple #[ren m v, .bool o] else ren m v)) := by
      intro v o
      refine .pure ?_
      cases ok <;> simp [RV, ren, renR, renL]
    cases x with
    | map r =>
      cases r with
      | none =>
        refine Sim.bnd (R := fun a a' : Array MapEntry => a' = a.map (renE m)) (.pure (by simp)) ?_
        rintro es _ rfl
        refine Sim.bnd (sim_checkKey ht hN _ _ hi) ?_
        rintro _ _ _
        rw [Array.toList_map]
        refine Sim.bnd (sim_findKey ht hi es.toList) ?_
        rintro r _ rfl
        cases r with
        | some r => exact last r.2 true
        | none =>
          refine Sim.bnd (sim_zeroValue hz) ?_
          rintro z _ ⟨rfl, hp⟩
          have := last z false
          rw [ren_plain m z hp] at this
          exact this
      | some r =>
        refine Sim.bnd (R := fun o o' => o' = renO m o) (.getObj fun o => .pure rfl) ?_
        rintro o _ rfl
        cases o with
        | map es cl =>
          simp only [renO_map]
          refine Sim.bnd (R := fun a a' : Array MapEntry => a' = a.map (renE m)) (.pure rfl) ?_
          rintro es _ rfl
          refine Sim.bnd (sim_checkKey ht hN _ _ hi) ?_
          rintro _ _ _
          rw [Array.toList_map]
          refine Sim.bnd (sim_findKey ht hi es.toList) ?_
          rintro r _ rfl
          cases r with
          | some r => exact last r.2 true
          | none =>
            refine Sim.bnd (sim_zeroValue hz) ?_
            rintro z _ ⟨rfl, hp⟩
            have := last z false
            rw [ren_plain m z hp] at this
            exact this
        | _ => exact .halt
    | _ => exact .halt
  | _ => exact .halt

theorem sameBits_ren1 (n : Nat) (y : Value) {x : Value} (hx : keyV1 x = true) : Instr.sameBits n (ren m y) x = Instr.sameBits n y x := by
  cases x <;> first | (cases hx; done) | skip
  all_goals cases y <;> simp only [ren] <;> cases n <;> rfl
theorem sameBits_zip (n : Nat) : ∀ (ys xs : List Value), xs.all keyV1 = true → (((renL m ys).zip xs).all fun (p : Value × Value) => Instr.sameBits n p.1 p.2) = ((ys.zip xs).all fun (p : Value × Value) => Instr.sameBits n p.1 p.2)
  | [], _, _ => by simp [renL]
  | _ :: _, [], _ => by simp
  | y :: ys, x :: xs, h => by
    simp only [List.all_cons, Bool.and_eq_true] at h
    simp only [renL, List.zip_cons_cons, List.all_cons, sameBits_ren1 n y h.1, sameBits_zip n ys xs h.2]
theorem sameBits_ren (n : Nat) (y : Value) {x : Value} (hx : keyV x = true) : Instr.sameBits n (ren m y) x = Instr.sameBits n y x := by
  cases x
  case agg cs =>
    obtain ⟨xs⟩ := cs
    cases y
    case agg ds =>
      obtain ⟨ys⟩ := ds
      cases n with
      | zero => simp only [ren]; rfl
      | succ n =>
        have h1 := sameBits_zip (m := m) n ys xs hx
        simp only [ren, renR, Instr.sameBits]
        have h2 : (renL m ys).length = ys.length := by rw [renL_map, List.length_map]
        simp only [List.size_toArray, h2]
        rw [h1]
    all_goals simp only [ren] <;> cases n <;> rfl
  all_goals first | (cases hx; done) | skip
  all_goals cases y <;> simp only [ren] <;> cases n <;> rfl
theorem sim_keyStays {x : Value} (hx : keyV x = true) (y : Value) : Sim P (RV m) m (Instr.keyThatStays y x) (Instr.keyThatStays (ren m y) x) := by
  unfold Instr.keyThatStays
  rw [sameBits_ren 10000 y hx]
  split
  · exact .pure (ren_key hx).symm
  · refine Sim.choose ?_
    exact .pure (ren_key hx).symm
theorem sim_mapUpdate {t : TypeId} (ht : keyM P t = true) (x : Value) {i : Value} (hi : keyV i = true) (v : Value) :
    Sim P (fun _ _ => True) m (Instr.mapUpdate t x i v) (Instr.mapUpdate t (ren m x) (ren m i) (ren m v)) := by
  rw [ren_key hi]
  unfold Instr.mapUpdate
  generalize hN : (10000 : Nat) = N
  refine sim_underE fun d hd => ?_
  unfold keyM at ht
  rw [hd] at ht
  cases d with
  | map k e =>
    dsimp only at ht ⊢
    cases x with
    | map r =>
      cases r with
      | none => exact .runtime
      | some r =>
        refine Sim.bnd (R := fun o o' => o' = renO m o) (.getObj fun o => .pure rfl) ?_
        rintro o _ rfl
        cases o with
        | map es cl =>
          simp only [renO_map]
          refine Sim.bnd (sim_checkKey ht hN _ _ hi) ?_
          rintro _ _ _
          rw [Array.toList_map]
          refine Sim.bnd (sim_findKey ht hi es.toList) ?_
          rintro r' _ rfl
          cases r' with
          | none =>
            have e : (es.map (renE m)).push { key := i, val := ren m v, born := cl } = (es.push { key := i, val := v, born := cl }).map (renE m) := by
              simp [renE, ren_key hi]
            have := Sim.setObj (P := P) (R := fun _ _ : Unit => True) (m := m) (r := r) (o := .map (es.push { key := i, val := v, born := cl }) (cl + 1)) (k := .pure ()) (k' := .pure ()) (.pure trivial)
            rw [renO_map, ← e] at this
            exact this
          | some q =>
            have hg : ((((es.map (renE m))[q.1]?).map (·.key)).getD i) = ren m (((es[q.1]?).map (·.key)).getD i) := by
              simp only [Array.getElem?_map]
              cases es[q.1]? with
              | none => exact (ren_key hi).symm
              | some _ => rfl
            dsimp only [Option.map_some]
            rw [hg]
            refine Sim.bnd (sim_keyStays hi _) ?_
            rintro y _ rfl
            have e : ((es.map (renE m)).modify q.1 fun e => { e with key := ren m y, val := ren m v }) = (es.modify q.1 fun e => { e with key := y, val := v }).map (renE m) := by
              apply Array.ext_getElem?
              intro j
              simp only [Array.getElem?_modify, Array.getElem?_map]
              split
              · cases es[j]? <;> rfl
              · rfl
            have := Sim.setObj (P := P) (R := fun _ _ : Unit => True) (m := m) (r := r) (o := .map (es.modify q.1 fun e => { e with key := y, val := v }) cl) (k := .pure ()) (k' := .pure ()) (.pure trivial)
            rw [renO_map, ← e] at this
            exact this
        | _ => exact .halt
    | _ => exact .halt
  | _ => exact .halt

/-- Is the element's nought, if any, without addresses? -/
def clearOk (P : Program) (ts : Array TypeId) : Bool :=
  match ts[0]? with
  | some t => zokE P t
  | none => true
theorem plain_zeroCells {z : Array Value} (h : plainR z = true) (n : Nat) : plainR (Builtin.zeroCells z n) = true := by
  exact plain_noughts h _
theorem sim_clear {ts : Array TypeId} (hz : clearOk P ts = true) (t : TypeId) (args : Array Value) : Sim P (RV m) m (Builtin.clear_ ts t args) (Builtin.clear_ ts t (args.map (ren m))) := by
  unfold Builtin.clear_
  unfold clearOk at hz
  simp only [Array.getElem?_map]
  cases ht : ts[0]? with
  | none => exact .halt
  | some dt =>
    rw [ht] at hz
    dsimp only at hz
    have fin : Sim P (RV m) m (pure (.tuple #[])) (pure (.tuple #[])) := .pure (ren_plain m _ rfl).symm
    cases args[0]? with
    | none => exact .halt
    | some x =>
      simp only [Option.map_some]
      refine sim_underE fun td htd => ?_
      have hz' : ∀ e, td = .slice e → zok P e = true := fun e he => by
        unfold zokE at hz; rw [htd, he] at hz; exact hz
      cases x with
      | map r =>
        cases r with
        | none => exact fin
        | some r =>
          refine Sim.bnd (R := fun o o' => o' = renO m o) (.getObj fun o => .pure rfl) ?_
          rintro o _ rfl
          cases o with
          | map es cl =>
            refine Sim.bnd (R := fun _ _ => True) ?_ fun _ _ _ => fin
            have := Sim.setObj (P := P) (R := fun _ _ : Unit => True) (m := m) (r := r) (o := .map #[] cl) (k := .pure ()) (k' := .pure ()) (.pure trivial)
            rw [renO_map, Array.map_empty] at this
            exact this
          | _ => exact .halt
      | slice base l c =>
        cases base with
        | none => exact fin
        | some a =>
          cases l with
          | zero => exact fin
          | succ l =>
            cases td with
            | slice e =>
              refine Sim.bnd (sim_zeroValue (hz' e rfl)) ?_
              rintro z _ ⟨rfl, hp⟩
              have := sim_storeCells (P := P) (m := m) a (Builtin.zeroCells z.cells (l + 1)).toList 0
              have h1 : (Builtin.zeroCells z.cells (l + 1)).toList.map (ren m) = (Builtin.zeroCells z.cells (l + 1)).toList := by
                rw [← renL_map]
                exact renL_plain m _ (plainL_iff.2 fun v hv => plainR_iff.1 (plain_zeroCells (plain_cells hp) _) v (by simpa using hv))
              rw [h1] at this
              exact Sim.bnd this fun _ _ _ => fin
            | _ => exact .halt
      | _ => first | exact .halt | (cases td <;> exact .halt)
end
end Go.Proofs.YtipceoeihiaieaaDoor.Ev
