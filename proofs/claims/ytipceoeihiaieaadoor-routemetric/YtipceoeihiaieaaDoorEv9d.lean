/- Operations as closures: stores, addresses, calls; all together. -/
import Derived.Test.YtipceoeihiaieaaDoorEv9c
namespace Go.Proofs.YtipceoeihiaieaaDoor.Ev
open Go
open ren (renR renL)
open plain (plainR plainL)
section
variable {P : Program} {GL : Nat → Bool} {ρ : Operand → Value} {o : Oper} {h : H}

theorem setP_twice {α : Type} : ∀ (p : List Bool) (v u : Option α) (t : Tr α), Tr.setP p v (Tr.setP p u t) = Tr.setP p v t
  | [], v, u, t => by cases t <;> rfl
  | b :: p, v, u, t => by
    cases t with
    | leaf => cases b <;> simp only [Tr.setP] <;> first
      | exact congrArg (fun x => Tr.node x none .leaf) (setP_twice p v u .leaf)
      | exact congrArg (fun x => Tr.node .leaf none x) (setP_twice p v u .leaf)
    | node l x r => cases b <;> simp only [Tr.setP] <;> first
      | exact congrArg (fun y => Tr.node y x r) (setP_twice p v u l)
      | exact congrArg (fun y => Tr.node l x y) (setP_twice p v u r)
theorem put_twice (h : H) (b : Nat) (x y : Option Blk) : (h.put b x).put b y = h.put b y := by
  unfold H.put
  simp only [bit_twice, Tr.set, setP_twice]

noncomputable def storeN (a : Addr) (l : List Value) (h : H) : Option H :=
  match a.spot, h.get a.block with
  | none, some (.row vs sz) => bif Nat.ble (a.off + l.length) vs.length && l.all single then some (h.put a.block (some (.row (splice vs a.off l) sz))) else none
  | _, _ => none
noncomputable def store1 (a : Addr) (v : Value) (h : H) : Option H :=
  match a.spot, h.get a.block, single v with
  | none, some (.row vs sz), true => bif Nat.blt a.off vs.length then some (h.put a.block (some (.row (setNth vs a.off v) sz))) else none
  | _, _, _ => none
/-- How many cells a type takes. -/
noncomputable def sizeK (P : Program) (t : TypeId) : Option Nat := (P.info? t).map fun i => i.size
theorem sizeK_run {t : TypeId} {n : Nat} (ht : sizeK P t = some n) (hh : H) : arun P (sizeOf t) hh = some (n, hh) := by
  unfold sizeK at ht
  cases hi : P.info? t with
  | none => rw [hi] at ht; cases ht
  | some i =>
    rw [hi] at ht
    simp only [Option.map_some, Option.some.injEq] at ht
    subst ht
    unfold Go.sizeOf Go.typeInfo
    change arun P ((match P.info? t with | some i => Pure.pure i | none => stuck _) >>= fun i => Pure.pure i.size) hh = _
    rw [hi]; rfl
noncomputable def fStore1 (P : Program) (GL : Nat → Bool) (o : Oper) (a x : Operand) : AClo := ⟨fun ρ h =>
  match ρ a with
  | .pointer (some ad) => match store1 ad (ρ x) h with
    | some h' => some (.skip, h')
    | none => aop P GL ρ o h
  | _ => none⟩
theorem arun_store1 {a : Addr} {v : Value} {h h' : H} {α : Type} {k : Sem α} (e : store1 a v h = some h') : arun P (.store .plain a v k) h = arun P k h' := by
  unfold store1 at e
  split at e
  case h_2 => cases e
  next vs sz h1 h2 h3 =>
  obtain ⟨hb, e'⟩ := bif_some e
  simp only [Option.some.injEq] at e'
  subst e'
  simp only [arun, h3, h1, h2, hb, cond_true, setNth_eq]
theorem single_cells {v : Value} (h : single v = true) : v.cells = #[v] := by cases v <;> simp_all [single, Value.cells]
theorem fStore1_ref {t : TypeId} {a x : Operand} {r : AN × H} (ht : sizeK P t = some 1) (ho : o.op = .store t a x) (hc : o.op.operands.all (cOk GL) = true) (e : (fStore1 P GL o a x).run ρ h = some r) : aop P GL ρ o h = some r := by
  simp only [fStore1] at e
  split at e
  case h_2 => cases e
  next ad hx =>
  split at e
  case h_2 => exact e
  next h' hv =>
  rw [← e]
  unfold aop
  rw [hc]
  simp only [cond_true, ho, hx, viaU]
  have hsg : single (ρ x) = true := by
    unfold store1 at hv
    split at hv
    · next h3 => exact h3
    · cases hv
  have : arun P (Instr.storeAt t (.pointer (some ad)) (ρ x)) h = some ((), h') := by
    change arun P ((sizeOf t).bind fun n => if (ρ x).cells.size ≠ n then stuck _ >>= fun _ => storeCells ad (ρ x).cells.toList else storeCells ad (ρ x).cells.toList) h = _
    rw [arun_bind, sizeK_run ht h, single_cells hsg]
    change arun P (storeCells ad [ρ x]) h = _
    change arun P (.store .plain (ad.add 0) (ρ x) (.pure ())) h = _
    rw [show ad.add 0 = ad from rfl, arun_store1 hv]; rfl
  rw [this]

/- Addresses. -/
noncomputable def fieldK (P : Program) (t : TypeId) (i : Nat) : Option Nat :=
  match P.underlying t with
  | some (.struct fs) => match fs[i]? with
    | some f => match sizeK P f.type with
      | some (_ + 1) => some f.offset
      | _ => none
    | none => none
  | _ => none
noncomputable def fField (off : Nat) (x : Operand) : AClo := ⟨fun ρ h =>
  match ρ x with
  | .pointer (some a) => some (.value (.pointer (some (a.add off))), h)
  | _ => none⟩
theorem arun_und {t : TypeId} {d : TypeDesc} (hd : P.underlying t = some d) (hh : H) : arun P (underlying t) hh = some (d, hh) := by
  unfold Go.underlying
  change arun P (match P.underlying t with | some i => Pure.pure i | none => stuck _) hh = _
  rw [hd]; rfl
theorem fField_ref {t : TypeId} {i off : Nat} {x : Operand} {r : AN × H} (ht : fieldK P t i = some off) (ho : o.op = .fieldAddr t x i) (hc : o.op.operands.all (cOk GL) = true) (e : (fField off x).run ρ h = some r) : aop P GL ρ o h = some r := by
  simp only [fField] at e
  split at e
  case h_2 => cases e
  next a hx =>
  rw [← e]
  unfold aop
  rw [hc]
  simp only [cond_true, ho, hx, viaV]
  have : arun P (Instr.fieldAt t (.pointer (some a)) i) h = some (.pointer (some (a.add off)), h) := by
    unfold fieldK at ht
    split at ht
    case h_2 => cases ht
    next fs hu =>
    split at ht
    case h_2 => cases ht
    next f hf =>
    split at ht
    case h_2 => cases ht
    next k hk =>
    simp only [Option.some.injEq] at ht
    subst ht
    unfold Instr.fieldAt
    change arun P ((underlying t).bind _) h = _
    rw [arun_bind, arun_und hu]
    simp only [Option.bind_some, hf]
    change arun P ((fieldPlace a f).bind fun p => .pure (Value.pointer (some p))) h = _
    rw [arun_bind]
    unfold fieldPlace
    change ((arun P ((sizeOf f.type).bind _) h).bind _) = _
    rw [arun_bind, sizeK_run hk]
    rfl
  rw [this]
noncomputable def idxK (P : Program) (t : TypeId) : Option (Option Nat × Nat) :=
  match P.underlying t with
  | some (.slice e) => match sizeK P e with
    | some n => some (none, n)
    | none => none
  | some (.array l e) => match sizeK P e with
    | some n => some (some l, n)
    | none => none
  | _ => none
noncomputable def fIdx (l : Option Nat) (n : Nat) (x i : Operand) : AClo := ⟨fun ρ h =>
  match l, ρ x, ρ i with
  | none, .slice (some a) len _, .int _ (.ofNat k) => bif Nat.blt k len then some (.value (.pointer (some (a.add (k * n)))), h) else none
  | some len, .pointer (some a), .int _ (.ofNat k) => bif Nat.blt k len then some (.value (.pointer (some (a.add (k * n)))), h) else none
  | _, _, _ => none⟩
theorem fIdx_ref {t : TypeId} {l : Option Nat} {n : Nat} {x i : Operand} {r : AN × H} (ht : idxK P t = some (l, n)) (ho : o.op = .indexAddr t x i) (hc : o.op.operands.all (cOk GL) = true) (e : (fIdx l n x i).run ρ h = some r) : aop P GL ρ o h = some r := by
  simp only [fIdx] at e
  have key : ∀ (a : Addr) (k : IntKind) (q len : Nat) (el : TypeId), sizeK P el = some n → q < len → ∀ (tiny : Bool) (no : Unsupported),
      arun P (if (0 : Int) ≤ Int.ofNat q ∧ Int.ofNat q < (len : Int) then (sizeOf el).bind fun s => (.pure (Value.pointer (some (a.add ((Int.ofNat q).toNat * s)))) : Sem Value)
        else if tiny then unsupported no else boundsPanic k (Int.ofNat q) len .index) h = some (Value.pointer (some (a.add (q * n))), h) := by
    intro a k q len el hs hq tiny no
    rw [if_pos ⟨Int.natCast_nonneg q, Int.ofNat_lt.2 hq⟩, arun_bind, sizeK_run hs]
    rfl
  split at e
  · next a len c k q hx hi =>
    obtain ⟨hb, e'⟩ := bif_some e
    rw [← e']
    unfold aop
    rw [hc]
    simp only [cond_true, ho, hx, hi, viaV]
    have hq : q < len := by simpa [Nat.blt_eq] using hb
    have : arun P (Instr.indexAt t (.slice (some a) len c) (.int k (.ofNat q))) h = some (.pointer (some (a.add (q * n))), h) := by
      unfold idxK at ht
      split at ht
      · next el hu =>
        split at ht
        case h_2 => cases ht
        next s hs =>
        simp only [Option.some.injEq, Prod.mk.injEq, true_and] at ht
        subst ht
        unfold Instr.indexAt
        simp only [asIntOf, pure_bind]
        change arun P ((underlying t).bind _) h = _
        rw [arun_bind, arun_und hu]
        simp only [Option.bind_some]
        change arun P ((underlying t).bind _) h = _
        rw [arun_bind, arun_und hu]
        exact key a k q len el hs hq _ _
      · split at ht <;> simp at ht
      · cases ht
    rw [this]
  · next len a k q hx hi =>
    obtain ⟨hb, e'⟩ := bif_some e
    rw [← e']
    unfold aop
    rw [hc]
    simp only [cond_true, ho, hx, hi, viaV]
    have hq : q < len := by simpa [Nat.blt_eq] using hb
    have : arun P (Instr.indexAt t (.pointer (some a)) (.int k (.ofNat q))) h = some (.pointer (some (a.add (q * n))), h) := by
      unfold idxK at ht
      split at ht
      · split at ht <;> simp at ht
      · next l' el hu =>
        split at ht
        case h_2 => cases ht
        next s hs =>
        simp only [Option.some.injEq, Prod.mk.injEq] at ht
        obtain ⟨rfl, rfl⟩ := ht
        unfold Instr.indexAt
        simp only [asIntOf, pure_bind]
        change arun P ((underlying t).bind _) h = _
        rw [arun_bind, arun_und hu]
        simp only [Option.bind_some]
        change arun P ((underlying t).bind _) h = _
        rw [arun_bind, arun_und hu]
        exact key a k q l' el hs hq _ _
      · cases ht
    rw [this]
  · cases e

/- The others. -/
noncomputable def fMove (x : Operand) : AClo := ⟨fun ρ h => some (.value (ρ x), h)⟩
noncomputable def fBox (x : Operand) : AClo := ⟨fun ρ h => some (.value (.pointer (some ⟨h.size, 0, none⟩)), h.push (.row (ρ x).cells.toList 0))⟩
theorem fBox_ref {t : TypeId} {x : Operand} {r : AN × H} (ho : o.op = .box t x) (hc : o.op.operands.all (cOk GL) = true) (e : (fBox x).run ρ h = some r) : aop P GL ρ o h = some r := by
  simp only [fBox] at e
  rw [← e]
  unfold aop
  rw [hc]
  simp only [cond_true, ho, viaV]
  rfl
noncomputable def fAlloc (z : Value) : AClo := ⟨fun _ h => some (.value (.pointer (some ⟨h.size, 0, none⟩)), h.push (.row z.cells.toList 0))⟩
noncomputable def zeroK (P : Program) (t : TypeId) : Option Value :=
  match P.info? t with
  | some i => match i.zero with
    | some z => bif plain z then some z else none
    | none => none
  | none => none
theorem fAlloc_ref {t : TypeId} {z : Value} {r : AN × H} (hz : zeroK P t = some z) (ho : o.op = .alloc t) (hc : o.op.operands.all (cOk GL) = true) (e : (fAlloc z).run ρ h = some r) : aop P GL ρ o h = some r := by
  simp only [fAlloc] at e
  unfold zeroK at hz
  split at hz
  case h_2 => cases hz
  next i hi =>
  split at hz
  case h_2 => cases hz
  next z' hz' =>
  obtain ⟨hp, hz⟩ := bif_some hz
  simp only [Option.some.injEq] at hz
  subst hz
  rw [← e]
  unfold aop
  rw [hc]
  have hzk : zok P t = true := by unfold zok; rw [hi]; simp only [hz']; exact hp
  simp only [cond_true, ho, hzk, viaV]
  have : arun P (Instr.alloc t true (.tuple #[])) h = some (.pointer (some ⟨h.size, 0, none⟩), h.push (.row z'.cells.toList 0)) := by
    have h1 : arun P (zeroValue t) h = some (z', h) := by
      unfold zeroValue Go.typeInfo
      change arun P ((match P.info? t with | some i => Pure.pure i | none => stuck _) >>= fun i => match i.zero with | some v => Pure.pure v | none => _) h = _
      rw [hi]
      change arun P (match i.zero with | some v => Pure.pure v | none => _) h = _
      rw [hz']; rfl
    unfold Instr.alloc
    change arun P ((zeroValue t).bind _) h = _
    rw [arun_bind, h1]
    rfl
  rw [this]
noncomputable def fNot (x : Operand) : AClo := ⟨fun ρ h =>
  match ρ x with
  | .bool b => some (.value (.bool (!b)), h)
  | _ => none⟩
theorem fNot_ref {t : TypeId} {x : Operand} {r : AN × H} (ho : o.op = .unOp .not t x) (hc : o.op.operands.all (cOk GL) = true) (e : (fNot x).run ρ h = some r) : aop P GL ρ o h = some r := by
  simp only [fNot] at e
  split at e
  case h_2 => cases e
  next b hx =>
  rw [← e]
  unfold aop
  rw [hc]
  simp only [cond_true, ho]
  refine plainN_of ?_ ?_ rfl
  · rw [ho]; simp [Op.operands, hx, plain]
  · simp only [execOp, ho, hx]; rfl
noncomputable def fExt (x : Operand) (i : Nat) : AClo := ⟨fun ρ h =>
  match ρ x with
  | .tuple vs => match nth vs.toList i with
    | some v => some (.value v, h)
    | none => none
  | _ => none⟩
theorem fExt_ref {x : Operand} {i : Nat} {r : AN × H} (ho : o.op = .extract x i) (hc : o.op.operands.all (cOk GL) = true) (e : (fExt x i).run ρ h = some r) : aop P GL ρ o h = some r := by
  simp only [fExt] at e
  split at e
  case h_2 => cases e
  next vs hx =>
  split at e
  case h_2 => cases e
  next v hv =>
  rw [← e]
  unfold aop
  rw [hc]
  simp only [cond_true, ho, hx, viaV]
  rw [nth_eq, Array.getElem?_toList] at hv
  simp only [Instr.extract, hv]
  rfl
noncomputable def lenK (P : Program) (ts : Array TypeId) : Bool :=
  match ts.toList with
  | t :: _ => match P.underlying t with
    | some (.slice _) => true
    | _ => false
  | [] => false
noncomputable def fLen (P : Program) (GL : Nat → Bool) (o : Oper) (x : Operand) : AClo := ⟨fun ρ h =>
  match ρ x with
  | .slice _ n _ => some (.value (.int .i64 (.ofNat n)), h)
  | _ => aop P GL ρ o h⟩
theorem fLen_ref {ts : Array TypeId} {x : Operand} {r : AN × H} (ht : lenK P ts = true) (ho : o.op = .call { callee := .builtin .len, args := #[x], argTypes := ts }) (hc : o.op.operands.all (cOk GL) = true) (e : (fLen P GL o x).run ρ h = some r) : aop P GL ρ o h = some r := by
  simp only [fLen] at e
  split at e
  case h_2 => exact e
  next a n c hx =>
  rw [← e]
  unfold aop
  rw [hc]
  have hm : #[x].map ρ = #[.slice a n c] := by simp [hx]
  simp only [cond_true, ho, hm]
  have hk : lenKind (#[Value.slice a n c])[0]? = true := rfl
  rw [hk]
  simp only [cond_true, viaV]
  have : arun P (Builtin.len_ ts o.type #[.slice a n c]) h = some (.int .i64 (.ofNat n), h) := by
    unfold lenK at ht
    split at ht
    case h_2 => cases ht
    next t l htl =>
    have hts : ts[0]? = some t := by rw [← Array.getElem?_toList, htl]; rfl
    split at ht
    case h_2 => cases ht
    next el hu =>
    unfold Builtin.len_
    simp only [hts]
    change arun P ((underlying t).bind _) h = _
    rw [arun_bind, arun_und hu]
    rfl
  rw [this]
noncomputable def fCall (P : Program) (GL : Nat → Bool) (o : Oper) (f : Operand) (args : List Operand) : AClo := ⟨fun ρ h =>
  match ρ f with
  | .func (.func g) first captured => bif bodied P g then some (.enter g ⟨first.toList ++ (args.map ρ ++ captured.toList)⟩, h) else aop P GL ρ o h
  | _ => aop P GL ρ o h⟩
theorem fCall_ref {f : Operand} {args : Array Operand} {ts : Array TypeId} {r : AN × H} (ho : o.op = .call { callee := .value f, args := args, argTypes := ts }) (hc : o.op.operands.all (cOk GL) = true) (e : (fCall P GL o f args.toList).run ρ h = some r) : aop P GL ρ o h = some r := by
  simp only [fCall] at e
  split at e
  case h_2 => exact e
  next g first captured hx =>
  cases hb : bodied P g
  · rw [hb] at e; exact e
  rw [hb] at e
  rw [← e]
  unfold aop
  rw [hc]
  simp only [cond_true, ho, hx, hb]
  congr 3
  apply Array.ext'
  simp
noncomputable def convK (P : Program) (s d : TypeId) : Option IntKind :=
  match P.underlying s, P.underlying d with
  | some (.int _), some (.int k) => some k
  | _, _ => none
noncomputable def fConv (k : IntKind) (x : Operand) : AClo := ⟨fun ρ h =>
  match ρ x with
  | .int _ n => some (.value (.int k (fwrap k n)), h)
  | _ => none⟩
theorem fConv_ref {s d : TypeId} {k : IntKind} {x : Operand} {r : AN × H} (ht : convK P s d = some k) (ho : o.op = .convert s d x) (hc : o.op.operands.all (cOk GL) = true) (e : (fConv k x).run ρ h = some r) : aop P GL ρ o h = some r := by
  simp only [fConv] at e
  split at e
  case h_2 => cases e
  next k' n hx =>
  rw [← e]
  unfold aop
  rw [hc]
  simp only [cond_true, ho]
  refine plainN_of ?_ ?_ rfl
  · rw [ho]; simp [Op.operands, hx, plain]
  · unfold convK at ht
    split at ht
    case h_2 => cases ht
    next j k2 h1 h2 =>
    simp only [Option.some.injEq] at ht
    subst ht
    have hpu : ∀ (t : TypeId) (dd : TypeDesc), P.underlying t = some dd → ∀ {β : Type} (f : TypeDesc → Sem β), pureRun P (underlying t >>= f) = pureRun P (f dd) := by
      intro t dd hd β f
      unfold Go.underlying
      change pureRun P ((match P.underlying t with | some d => Pure.pure d | none => stuck _) >>= f) = _
      rw [hd]; rfl
    simp only [execOp, ho, hx, convert, bind_assoc]
    rw [hpu s _ h1, hpu d _ h2, fwrap_eq]
    rfl

noncomputable def cop1 (P : Program) (GL : Nat → Bool) (o : Oper) : AClo :=
  match o.op with
  | .move x => fMove x
  | .assign x => fMove x
  | .box _ x => fBox x
  | .alloc t => match zeroK P t with
    | some z => fAlloc z
    | none => old P GL o
  | .load t a => match aggK P t with
    | some none => fLoad1 a
    | some (some (n + 1)) => fLoadN (n + 1) a
    | _ => old P GL o
  | .store t a x => match sizeK P t with
    | some 1 => fStore1 P GL o a x
    | _ => old P GL o
  | .binOp op _ x y _ => fBin P GL o (intOp op) x y
  | .unOp .not _ x => fNot x
  | .convert s d x => match convK P s d with
    | some k => fConv k x
    | none => old P GL o
  | .fieldAddr t x i => match fieldK P t i with
    | some off => fField off x
    | none => old P GL o
  | .indexAddr t x i => match idxK P t with
    | some (l, n) => fIdx l n x i
    | none => old P GL o
  | .extract x i => fExt x i
  | .call { callee := .value f, args := args, argTypes := _ } => fCall P GL o f args.toList
  | .call { callee := .builtin .len, args := ⟨[x]⟩, argTypes := ts } => bif lenK P ts then fLen P GL o x else old P GL o
  | _ => old P GL o
noncomputable def cop (P : Program) (GL : Nat → Bool) (o : Oper) : AClo :=
  bif o.op.operands.toList.all (cOk GL) then cop1 P GL o else ⟨fun _ _ => none⟩
theorem cop_ref {r : AN × H} (e : (cop P GL o).run ρ h = some r) : aop P GL ρ o h = some r := by
  unfold cop at e
  cases hc : o.op.operands.toList.all (cOk GL)
  · rw [hc] at e; cases e
  rw [hc] at e
  have hc' : o.op.operands.all (cOk GL) = true := by rw [← Array.all_toList]; exact hc
  simp only [cond_true] at e
  unfold cop1 at e
  split at e
  · next x ho =>
    rw [← e]; unfold aop; rw [hc']; simp only [cond_true, ho]; rfl
  · next x ho =>
    rw [← e]; unfold aop; rw [hc']; simp only [cond_true, ho]; rfl
  · next ho => exact fBox_ref ho hc' e
  · next ho =>
    split at e
    · next hz => exact fAlloc_ref hz ho hc' e
    · exact e
  · next ho =>
    split at e
    · next ht => exact fLoad1_ref ht ho hc' e
    · next ht => exact fLoadN_ref ht (Nat.succ_pos _) ho hc' e
    · exact e
  · next ho =>
    split at e
    · next hs => exact fStore1_ref hs ho hc' e
    · exact e
  · next ho => exact fBin_ref ho hc' e
  · next ho => exact fNot_ref ho hc' e
  · next ho =>
    split at e
    · next hk => exact fConv_ref hk ho hc' e
    · exact e
  · next ho =>
    split at e
    · next hk => exact fField_ref hk ho hc' e
    · exact e
  · next ho =>
    split at e
    · next hk => exact fIdx_ref hk ho hc' e
    · exact e
  · next ho => exact fExt_ref ho hc' e
  · next ho => exact fCall_ref ho hc' e
  · next ho =>
    cases hk : lenK P _
    · rw [hk] at e; exact e
    · rw [hk] at e; exact fLen_ref hk ho hc' e
  · exact e
end
end Go.Proofs.YtipceoeihiaieaaDoor.Ev
