/- Operations as closures, made once each. -/
import Derived.Test.YtipceoeihiaieaaDoorEv9b
namespace Go.Proofs.YtipceoeihiaieaaDoor.Ev
open Go
open ren (renR renL)
open plain (plainR plainL)
section
variable {P : Program} {GL : Nat → Bool} {ρ : Operand → Value} {o : Oper} {h : H}

theorem plainN_of {v : Value} (hp : o.op.operands.all (fun x => plain (ρ x)) = true) (hr : pureRun P (execOp ρ o) = some (.value v)) (hv : plain v = true) : plainN P ρ o h = some (.value v, h) := by
  unfold plainN
  rw [hp, hr]
  simp only [cond_true, hv]

noncomputable def old (P : Program) (GL : Nat → Bool) (o : Oper) : AClo := ⟨fun ρ h => aop P GL ρ o h⟩

/- Sums, comparisons. -/
noncomputable def fBin (P : Program) (GL : Nat → Bool) (o : Oper) (F : IntKind → Int → Int → Option Value) (x y : Operand) : AClo := ⟨fun ρ h =>
  match ρ x, ρ y with
  | .int k a, .int k' b => bif Nat.beq (kNat k) (kNat k') then (match F k a b with
    | some v => some (.value v, h)
    | none => aop P GL ρ o h) else aop P GL ρ o h
  | _, _ => aop P GL ρ o h⟩
theorem intOp_plain {op : BinOp} {k : IntKind} {a b : Int} {v : Value} (h : intOp op k a b = some v) : plain v = true := by
  cases op <;> simp only [intOp, Option.some.injEq, reduceCtorEq] at h <;> subst h <;> rfl
theorem eqSp_int (t : TypeId) (k : IntKind) (a : Int) (y : Value) : eqSp P t (.int k a) y = none := by
  unfold eqSp
  cases P.underlying t with
  | none => rfl
  | some d => cases d <;> rfl
theorem fBin_ref {op : BinOp} {t yt : TypeId} {x y : Operand} {r : AN × H} (ho : o.op = .binOp op t x y yt) (hc : o.op.operands.all (cOk GL) = true) (e : (fBin P GL o (intOp op) x y).run ρ h = some r) : aop P GL ρ o h = some r := by
  simp only [fBin] at e
  split at e
  case h_2 => exact e
  next k a k' b hx hy =>
  cases hk : Nat.beq (kNat k) (kNat k')
  · rw [hk] at e; exact e
  rw [hk] at e
  have e' := e
  clear e
  have := kNat_inj hk
  subst this
  simp only [cond_true] at e'
  split at e'
  case h_2 => exact e'
  next v hv =>
  have hpl : plainN P ρ o h = some (.value v, h) := by
    refine plainN_of ?_ ?_ (intOp_plain hv)
    · rw [ho]; simp [Op.operands, hx, hy, plain]
    · have hg : eqGuard op t x y (.int k a) (.int k b) = pure () := by cases op <;> rfl
      simp only [execOp, ho, hx, hy, hg, intOp_eq t hv]
      rfl
  rw [← e']
  unfold aop
  rw [hc]
  simp only [cond_true, ho, hx, eqSp_int]
  rw [hpl]
  cases op <;> rfl

/- Memory. -/
theorem bit_twice (m b : Nat) : bit (bit m b) b = bit m b := by
  apply Nat.eq_of_testBit_eq
  intro i
  simp only [bit_test, Bool.or_assoc, Bool.or_self]
theorem rd_twice (h : H) (b : Nat) : (h.rd b).rd b = h.rd b := by unfold H.rd; simp only [bit_twice]
noncomputable def aggK (P : Program) (t : TypeId) : Option (Option Nat) :=
  match P.underlying t, P.info? t with
  | some (.struct _), some i => some (some i.size)
  | some (.array _ _), some i => some (some i.size)
  | some _, _ => some none
  | none, _ => none
noncomputable def cell1 (a : Addr) (h : H) : Option Value :=
  match a.spot, h.get a.block with
  | none, some (.row vs _) => nth vs a.off
  | none, some (.ro vs) => nth vs a.off
  | _, _ => none
theorem arun_load1 {md : Mode} {a : Addr} {α : Type} {k : Value → Sem α} : arun P (.load md a k) h = match cell1 a h with
    | some v => arun P (k v) (h.rd a.block)
    | none => none := by
  simp only [arun, cell1]
  cases a.spot with
  | some s => rfl
  | none =>
    cases h.get a.block with
    | none => rfl
    | some x => cases x <;> simp only [nth_eq] <;> rfl
noncomputable def fLoad1 (a : Operand) : AClo := ⟨fun ρ h =>
  match ρ a with
  | .pointer (some ad) => match cell1 ad h with
    | some v => some (.value v, h.rd ad.block)
    | none => none
  | _ => none⟩
theorem aggK_run {t : TypeId} {x : Option Nat} (ht : aggK P t = some x) (hh : H) : arun P (isAgg t) hh = some (x.isSome, hh) ∧ ∀ n, x = some n → arun P (sizeOf t) hh = some (n, hh) := by
  unfold aggK at ht
  have hu : ∀ d, P.underlying t = some d → arun P (underlying t) hh = some (d, hh) := fun d hd => by
    unfold Go.underlying
    change arun P (match P.underlying t with | some i => Pure.pure i | none => stuck _) hh = _
    rw [hd]; rfl
  have hs : ∀ i, P.info? t = some i → arun P (sizeOf t) hh = some (i.size, hh) := fun i hi => by
    unfold Go.sizeOf Go.typeInfo
    change arun P ((match P.info? t with | some i => Pure.pure i | none => stuck _) >>= fun i => Pure.pure i.size) hh = _
    rw [hi]; rfl
  have hb : ∀ d, P.underlying t = some d → arun P (isAgg t) hh = arun P (match d with | .struct _ | .array _ _ => (pure true : Sem Bool) | _ => pure false) hh := fun d hd => by
    unfold isAgg
    change arun P ((underlying t).bind _) hh = _
    rw [arun_bind, hu d hd]; rfl
  cases hd : P.underlying t with
  | none => rw [hd] at ht; cases ht
  | some d =>
    cases hi : P.info? t with
    | none => unfold Program.underlying at hd; rw [hi] at hd; cases hd
    | some i =>
      rw [hd, hi] at ht
      cases d <;> simp only [Option.some.injEq] at ht <;> subst ht <;> refine ⟨by rw [hb _ hd]; rfl, fun n hn => ?_⟩ <;> cases hn <;> exact hs _ hi
theorem fLoad1_ref {t : TypeId} {a : Operand} {r : AN × H} (ht : aggK P t = some none) (ho : o.op = .load t a) (hc : o.op.operands.all (cOk GL) = true) (e : (fLoad1 a).run ρ h = some r) : aop P GL ρ o h = some r := by
  simp only [fLoad1] at e
  split at e
  case h_2 => cases e
  next ad hx =>
  split at e
  case h_2 => cases e
  next v hv =>
  rw [← e]
  unfold aop
  rw [hc]
  simp only [cond_true, ho, hx, viaV]
  have : arun P (Instr.loadAt t (.pointer (some ad))) h = some (v, h.rd ad.block) := by
    change arun P ((isAgg t).bind fun b => if b then _ else load ad) h = _
    rw [arun_bind, (aggK_run ht h).1]
    change arun P (load ad) h = _
    unfold load
    rw [arun_load1, hv]; rfl
  rw [this]

/-- Cells in a row. -/
noncomputable def cellsN (a : Addr) (h : H) (n : Nat) : Option (List Value) :=
  match a.spot, h.get a.block with
  | none, some (.row vs _) => bif Nat.ble (a.off + n) vs.length then some ((vs.drop a.off).take n) else none
  | none, some (.ro vs) => bif Nat.ble (a.off + n) vs.length then some ((vs.drop a.off).take n) else none
  | _, _ => none
noncomputable def fLoadN (n : Nat) (a : Operand) : AClo := ⟨fun ρ h =>
  match ρ a with
  | .pointer (some ad) => match cellsN ad h n with
    | some l => some (.value (.agg ⟨l⟩), h.rd ad.block)
    | none => none
  | _ => none⟩
theorem loadCells_run {a : Addr} {vs : List Value} (hsp : a.spot = none) : ∀ (n i : Nat) (acc : Array Value) (hh : H), (hh.get a.block = some (.ro vs) ∨ ∃ sz, hh.get a.block = some (.row vs sz)) → a.off + i + n ≤ vs.length → 0 < n →
    arun P (loadCellsFrom a i n acc) hh = some (acc ++ ((vs.drop (a.off + i)).take n).toArray, hh.rd a.block)
  | 0, _, _, _, _, _, h => by omega
  | n + 1, i, acc, hh, hg, hl, _ => by
    have hb : (a.add i).block = a.block ∧ (a.add i).off = a.off + i ∧ (a.add i).spot = none := by
      unfold Addr.add
      split
      · next e => subst e; exact ⟨rfl, rfl, hsp⟩
      · exact ⟨rfl, rfl, rfl⟩
    have hlt : a.off + i < vs.length := by omega
    have hc : cell1 (a.add i) hh = some vs[a.off + i] := by
      unfold cell1
      rw [hb.1, hb.2.1, hb.2.2]
      rcases hg with hg | ⟨sz, hg⟩ <;> rw [hg] <;> simp only [nth_eq] <;> exact List.getElem?_eq_getElem hlt
    change arun P ((Sem.load .plain (a.add i) .pure).bind fun v => loadCellsFrom a (i + 1) n (acc.push v)) hh = _
    rw [arun_bind, arun_load1, hc, hb.1]
    change arun P (loadCellsFrom a (i + 1) n (acc.push vs[a.off + i])) (hh.rd a.block) = _
    have hdrop : (vs.drop (a.off + i)).take (n + 1) = vs[a.off + i] :: (vs.drop (a.off + (i + 1))).take n := by
      rw [List.drop_eq_getElem_cons hlt, List.take_succ_cons]; rfl
    rcases Nat.eq_zero_or_pos n with h0 | h0
    · subst h0
      rw [hdrop]
      simp [loadCellsFrom, Pure.pure, arun]
    · rw [loadCells_run hsp n (i + 1) _ _ (by rcases hg with hg | ⟨sz, hg⟩; exact .inl hg; exact .inr ⟨sz, hg⟩) (by omega) h0, rd_twice, hdrop]
      simp
theorem fLoadN_ref {t : TypeId} {n : Nat} {a : Operand} {r : AN × H} (ht : aggK P t = some (some n)) (hn : 0 < n) (ho : o.op = .load t a) (hc : o.op.operands.all (cOk GL) = true) (e : (fLoadN n a).run ρ h = some r) : aop P GL ρ o h = some r := by
  simp only [fLoadN] at e
  split at e
  case h_2 => cases e
  next ad hx =>
  split at e
  case h_2 => cases e
  next l hl =>
  rw [← e]
  unfold aop
  rw [hc]
  simp only [cond_true, ho, hx, viaV]
  have : arun P (Instr.loadAt t (.pointer (some ad))) h = some (.agg ⟨l⟩, h.rd ad.block) := by
    change arun P ((isAgg t).bind fun b => if b then (sizeOf t).bind fun n => (loadCells ad n).bind fun c => .pure (Value.agg c) else load ad) h = _
    rw [arun_bind, (aggK_run ht h).1]
    change arun P ((sizeOf t).bind fun n => (loadCells ad n).bind fun c => .pure (Value.agg c)) h = _
    rw [arun_bind, (aggK_run ht h).2 n rfl]
    change arun P ((loadCells ad n).bind fun c => .pure (Value.agg c)) h = _
    rw [arun_bind]
    have hk : ∃ vs, ad.spot = none ∧ (h.get ad.block = some (.ro vs) ∨ ∃ sz, h.get ad.block = some (.row vs sz)) ∧ ad.off + n ≤ vs.length ∧ l = (vs.drop ad.off).take n := by
      unfold cellsN at hl
      split at hl
      · next vs sz h1 h2 => obtain ⟨h3, h4⟩ := bif_some hl; simp only [Option.some.injEq] at h4; exact ⟨vs, h1, .inr ⟨sz, h2⟩, Nat.le_of_ble_eq_true h3, h4.symm⟩
      · next vs h1 h2 => obtain ⟨h3, h4⟩ := bif_some hl; simp only [Option.some.injEq] at h4; exact ⟨vs, h1, .inl h2, Nat.le_of_ble_eq_true h3, h4.symm⟩
      · cases hl
    obtain ⟨vs, h1, h2, h3, rfl⟩ := hk
    unfold loadCells
    rw [loadCells_run h1 n 0 #[] h h2 (by omega) hn]
    simp [arun]
  rw [this]
end
end Go.Proofs.YtipceoeihiaieaaDoor.Ev
