/- Code and calls, reckoned. -/
import Derived.Test.YtimnpkadikoafaaGreatDoorEv14
import Derived.LoopN
import Derived.Scope
namespace Go.Proofs.YtimnpkadikoafaaGreatDoor.Ev
open Go
open ren (renR renL)
open plain (plainR plainL)

inductive AX where
  | normal
  | exit (id : Nat)
  | ret
def AX.ex : AX → Exit
  | .normal => .normal
  | .exit id => .exit id
  | .ret => .ret

noncomputable def acode (call : ACall) (P : Program) (GL : Nat → Bool) : Nat → Code → Tm → H → Option (AX × Tm × H)
  | 0, _, _, _ => none
  | n + 1, c, T, h =>
    match c with
    | .skip => some (.normal, T, h)
    | .label _ => some (.normal, T, h)
    | .region _ ops draw => match (match draw with | true => adraw call P GL ops T h | false => aseq call P GL ops ops.toList T h) with
      | some (T', h') => some (.normal, T', h')
      | none => none
    | .seq a b => match acode call P GL n a T h with
      | some (.normal, T1, h1) => acode call P GL n b T1 h1
      | some (.exit id, T1, h1) => some (.exit id, T1, h1)
      | some (.ret, T1, h1) => some (.ret, T1, h1)
      | none => none
    | .cond c a b => match aeval T c with
      | .bool true => acode call P GL n a T h
      | .bool false => acode call P GL n b T h
      | _ => none
    | .block id c => match acode call P GL n c T h with
      | some (.exit id', T1, h1) => bif Nat.beq id' id then some (.normal, T1, h1) else some (.exit id', T1, h1)
      | some (.normal, T1, h1) => some (.normal, T1, h1)
      | some (.ret, T1, h1) => some (.ret, T1, h1)
      | none => none
    | .loop c => match acode call P GL n c T h with
      | some (.normal, T1, h1) => acode call P GL n (.loop c) T1 h1
      | some (.exit id, T1, h1) => some (.exit id, T1, h1)
      | some (.ret, T1, h1) => some (.ret, T1, h1)
      | none => none
    | .exit id => some (.exit id, T, h)
    | .ret => some (.ret, T, h)
    | .scope c => acode call P GL n c T h
    | _ => none

def WpOk (P : Program) (c : Code) (x : AX) (T T' : Tm) (h h' : H) (GL : Nat → Bool) : Prop :=
  Le h h' ∧ ∀ {F : Nat} {K : Nat → Prop} {M : Mp} {g : Nat → Option Blk} {w : World} {a : Act} {Q : Exit → Act → World → Prop}, Sub h'.fp F → Agree F K g h → Rep K M g w → GOk GL K M →
      (∀ m, Cl K M m → TR m T a.tmps) → a.defers = [] → Then Q x.ex T' h h' K M g w → c.wp P Q a w
def RoundsOk (P : Program) (c : Code) (n : Nat) (x : AX) (T T' : Tm) (h h' : H) (GL : Nat → Bool) : Prop :=
  Le h h' ∧ ∀ {F : Nat} {K : Nat → Prop} {M : Mp} {g : Nat → Option Blk} {w : World} {a : Act} {Q : Exit → Act → World → Prop}, Sub h'.fp F → Agree F K g h → Rep K M g w → GOk GL K M →
      (∀ m, Cl K M m → TR m T a.tmps) → a.defers = [] → Then Q x.ex T' h h' K M g w → Code.rounds P c Q n a w

theorem Then.next {Q : Exit → Act → World → Prop} {x : Exit} {T' : Tm} {h h1 h' : H} {F : Nat} {K : Nat → Prop} {M : Mp} {g : Nat → Option Blk} {w : World} (l1 : Le h h1) (l2 : Le h1 h') (hf : Sub h'.fp F) (ha : Agree F K g h)
    (hn : Then Q x T' h h' K M g w) {M1 : Mp} {w1 : World} (p : Post h h1 K M g w M1 w1) : Then Q x T' h1 h' (Kn K h.size h1.size) M1 (Gn g h1) w1 := by
  intro a' M' w' p2 ht hd
  refine hn a' M' w' (Post.trans ha (l2.fp.trans hf) l1 l2 p p2) (fun m hm => ht m ?_) hd
  rw [Kn_trans l1.size l2.size]; exact hm

theorem acode_sound {call : ACall} {P : Program} {GL : Nat → Bool} (hN : ∀ (g : Nat) (fn : Func), P.funcs[g]? = some fn → (fn.name == "runtime.NumGoroutine") = false) (hC : CallSound P GL call) (hmix : P.follows .mixedOrders = true) :
    ∀ (n : Nat), (∀ {c : Code} {T T' : Tm} {h h' : H} {x : AX}, acode call P GL n c T h = some (x, T', h') → WpOk P c x T T' h h' GL) ∧
      (∀ {c : Code} {T T' : Tm} {h h' : H} {x : AX}, acode call P GL n (.loop c) T h = some (x, T', h') → x ≠ .normal ∧ RoundsOk P c n x T T' h h' GL) := by
  intro n
  induction n with
  | zero =>
    constructor
    · intro c T T' h h' x e; cases e
    · intro c T T' h h' x e; cases e
  | succ n ih =>
    obtain ⟨ih, ihl⟩ := ih
    have loop : ∀ {c : Code} {T T' : Tm} {h h' : H} {x : AX}, acode call P GL (n + 1) (.loop c) T h = some (x, T', h') → x ≠ .normal ∧ RoundsOk P c (n + 1) x T T' h h' GL := by
      intro c T T' h h' x e
      simp only [acode] at e
      split at e
      · next T1 h1 e1 =>
        obtain ⟨l1, k1⟩ := ih e1
        obtain ⟨hx, l2, k2⟩ := ihl e
        refine ⟨hx, l1.trans l2, ?_⟩
        intro F K M g w a Q hf ha hr hG hT hd hn
        have hf1 := l2.fp.trans hf
        rw [rounds_succ]
        refine k1 hf1 ha hr hG hT hd ?_
        intro a1 M1 w1 p1 ht1 hd1
        exact k2 hf (ha.next l1 hf1) p1.rep (hG.next (fun _ h => .inl h) p1.keep) ht1 hd1 (hn.next l1 l2 hf ha p1)
      · next id T1 h1 e1 =>
        simp only [Option.some.injEq, Prod.mk.injEq] at e
        obtain ⟨rfl, rfl, rfl⟩ := e
        obtain ⟨l1, k1⟩ := ih e1
        refine ⟨by simp, l1, ?_⟩
        intro F K M g w a Q hf ha hr hG hT hd hn
        rw [rounds_succ]
        exact k1 hf ha hr hG hT hd hn
      · next T1 h1 e1 =>
        simp only [Option.some.injEq, Prod.mk.injEq] at e
        obtain ⟨rfl, rfl, rfl⟩ := e
        obtain ⟨l1, k1⟩ := ih e1
        refine ⟨by simp, l1, ?_⟩
        intro F K M g w a Q hf ha hr hG hT hd hn
        rw [rounds_succ]
        exact k1 hf ha hr hG hT hd hn
      · cases e
    refine ⟨?_, loop⟩
    intro c T T' h h' x e
    cases c with
    | skip =>
      simp only [acode, Option.some.injEq, Prod.mk.injEq] at e
      obtain ⟨rfl, rfl, rfl⟩ := e
      refine ⟨Le.refl _, ?_⟩
      intro F K M g w a Q hf ha hr hG hT hd hn
      exact wp_skip (hn a M w (Post.same ha hr h rfl rfl fun _ => rfl) (fun m hm => hT m (by rwa [Kn_self] at hm)) hd)
    | label l =>
      simp only [acode, Option.some.injEq, Prod.mk.injEq] at e
      obtain ⟨rfl, rfl, rfl⟩ := e
      refine ⟨Le.refl _, ?_⟩
      intro F K M g w a Q hf ha hr hG hT hd hn
      exact wp_label (hn a M w (Post.same ha hr h rfl rfl fun _ => rfl) (fun m hm => hT m (by rwa [Kn_self] at hm)) hd)
    | region id ops draw =>
      simp only [acode] at e
      split at e
      case h_2 => cases e
      next T1 h1 er =>
      simp only [Option.some.injEq, Prod.mk.injEq] at e
      obtain ⟨rfl, rfl, rfl⟩ := e
      cases draw with
      | true =>
        simp only at er
        refine ⟨adraw_le hN hC er, ?_⟩
        intro F K M g w a Q hf ha hr hG hT hd hn
        exact adraw_sound hN hC hmix er hf ha hr hG hT hd hn
      | false =>
        simp only at er
        obtain ⟨l1, k1⟩ := aseq_sound hN hC ops.toList er
        refine ⟨l1, ?_⟩
        intro F K M g w a Q hf ha hr hG hT hd hn
        exact wp_region_list (k1 hf ha hr hG hT hd hn)
    | seq c1 c2 =>
      simp only [acode] at e
      split at e
      · next T1 h1 e1 =>
        obtain ⟨l1, k1⟩ := ih e1
        obtain ⟨l2, k2⟩ := ih e
        refine ⟨l1.trans l2, ?_⟩
        intro F K M g w a Q hf ha hr hG hT hd hn
        have hf1 := l2.fp.trans hf
        refine wp_seq (k1 hf1 ha hr hG hT hd ?_)
        intro a1 M1 w1 p1 ht1 hd1
        exact k2 hf (ha.next l1 hf1) p1.rep (hG.next (fun _ h => .inl h) p1.keep) ht1 hd1 (hn.next l1 l2 hf ha p1)
      · next id T1 h1 e1 =>
        simp only [Option.some.injEq, Prod.mk.injEq] at e
        obtain ⟨rfl, rfl, rfl⟩ := e
        obtain ⟨l1, k1⟩ := ih e1
        exact ⟨l1, fun hf ha hr hG hT hd hn => wp_seq (k1 hf ha hr hG hT hd hn)⟩
      · next T1 h1 e1 =>
        simp only [Option.some.injEq, Prod.mk.injEq] at e
        obtain ⟨rfl, rfl, rfl⟩ := e
        obtain ⟨l1, k1⟩ := ih e1
        exact ⟨l1, fun hf ha hr hG hT hd hn => wp_seq (k1 hf ha hr hG hT hd hn)⟩
      · cases e
    | cond c c1 c2 =>
      simp only [acode] at e
      have ev : ∀ {t : Bool} {M : Mp} {a : Act}, aeval T c = .bool t → TR M T a.tmps → a.eval c = .bool t := by
        intro t M a ht hT
        cases c with
        | tmp i => have := hT.2 i; simp only [aeval] at ht; rw [ht] at this; simpa [Act.eval, ren] using this
        | const v => exact ht
        | global g => cases ht
        | func f => cases ht
      split at e
      · next ht =>
        obtain ⟨l1, k1⟩ := ih e
        refine ⟨l1, ?_⟩
        intro F K M g w a Q hf ha hr hG hT hd hn
        exact wp_cond_true (ev ht (hT M Cl.refl)) (k1 hf ha hr hG hT hd hn)
      · next ht =>
        obtain ⟨l1, k1⟩ := ih e
        refine ⟨l1, ?_⟩
        intro F K M g w a Q hf ha hr hG hT hd hn
        exact wp_cond_false (ev ht (hT M Cl.refl)) (k1 hf ha hr hG hT hd hn)
      · cases e
    | block id c =>
      simp only [acode] at e
      split at e
      · next id' T1 h1 e1 =>
        obtain ⟨l1, k1⟩ := ih e1
        cases hid : Nat.beq id' id
        · rw [hid] at e
          simp only [cond_false, Option.some.injEq, Prod.mk.injEq] at e
          obtain ⟨rfl, rfl, rfl⟩ := e
          have hne : id' ≠ id := fun h => by rw [h] at hid; simp at hid
          refine ⟨l1, ?_⟩
          intro F K M g w a Q hf ha hr hG hT hd hn
          refine wp_block (k1 hf ha hr hG hT hd ?_)
          intro a1 M1 w1 p1 ht1 hd1
          change (if id' = id then Q .normal a1 w1 else Q (.exit id') a1 w1)
          rw [if_neg hne]; exact hn a1 M1 w1 p1 ht1 hd1
        · rw [hid] at e
          simp only [cond_true, Option.some.injEq, Prod.mk.injEq] at e
          obtain ⟨rfl, rfl, rfl⟩ := e
          have he := Nat.eq_of_beq_eq_true hid
          refine ⟨l1, ?_⟩
          intro F K M g w a Q hf ha hr hG hT hd hn
          refine wp_block (k1 hf ha hr hG hT hd ?_)
          intro a1 M1 w1 p1 ht1 hd1
          change (if id' = id then Q .normal a1 w1 else Q (.exit id') a1 w1)
          rw [if_pos he]; exact hn a1 M1 w1 p1 ht1 hd1
      · next T1 h1 e1 =>
        simp only [Option.some.injEq, Prod.mk.injEq] at e
        obtain ⟨rfl, rfl, rfl⟩ := e
        obtain ⟨l1, k1⟩ := ih e1
        exact ⟨l1, fun hf ha hr hG hT hd hn => wp_block (k1 hf ha hr hG hT hd hn)⟩
      · next T1 h1 e1 =>
        simp only [Option.some.injEq, Prod.mk.injEq] at e
        obtain ⟨rfl, rfl, rfl⟩ := e
        obtain ⟨l1, k1⟩ := ih e1
        exact ⟨l1, fun hf ha hr hG hT hd hn => wp_block (k1 hf ha hr hG hT hd hn)⟩
      · cases e
    | loop c =>
      obtain ⟨_, l1, k1⟩ := loop e
      exact ⟨l1, fun hf ha hr hG hT hd hn => wp_loop_rounds (n + 1) (k1 hf ha hr hG hT hd hn)⟩
    | exit id =>
      simp only [acode, Option.some.injEq, Prod.mk.injEq] at e
      obtain ⟨rfl, rfl, rfl⟩ := e
      refine ⟨Le.refl _, ?_⟩
      intro F K M g w a Q hf ha hr hG hT hd hn
      exact wp_exit (hn a M w (Post.same ha hr h rfl rfl fun _ => rfl) (fun m hm => hT m (by rwa [Kn_self] at hm)) hd)
    | ret =>
      simp only [acode, Option.some.injEq, Prod.mk.injEq] at e
      obtain ⟨rfl, rfl, rfl⟩ := e
      refine ⟨Le.refl _, ?_⟩
      intro F K M g w a Q hf ha hr hG hT hd hn
      exact wp_ret (hn a M w (Post.same ha hr h rfl rfl fun _ => rfl) (fun m hm => hT m (by rwa [Kn_self] at hm)) hd)
    | scope c =>
      simp only [acode] at e
      obtain ⟨l1, k1⟩ := ih e
      refine ⟨l1, ?_⟩
      intro F K M g w a Q hf ha hr hG hT hd hn
      refine wp_scope_straight (k1 hf ha hr hG hT hd ?_)
      intro a1 M1 w1 p1 ht1 hd1
      have := hn a1 M1 w1 p1 ht1 hd1
      cases x <;> exact this
    | goto l => cases e
    | refuse w => cases e
    | rangeFunc f ps a b => cases e

/- Calls. -/
inductive NoWr : {α : Type} → Sem α → Prop
  | pure {α : Type} {a : α} : NoWr (.pure a)
  | load {α : Type} {md : Mode} {a : Addr} {k : Value → Sem α} (h : ∀ v, NoWr (k v)) : NoWr (.load md a k)
  | program {α : Type} {k : Program → Sem α} (h : ∀ p, NoWr (k p)) : NoWr (.program k)
  | halt {α : Type} {x : Halt} : NoWr (Sem.halt x : Sem α)
theorem NoWr.run {α : Type} {s : Sem α} (hs : NoWr s) {P : Program} {w w' : World} {a : α} (h : s.run P w = .ok a w') : w' = w := by
  induction hs with
  | pure => simp only [Sem.run, Result.ok.injEq] at h; exact h.2.symm
  | load _ ih =>
    simp only [Sem.run] at h
    split at h
    · exact ih _ h
    · split at h
      · exact ih _ h
      · cases h
  | program _ ih => exact ih _ h
  | halt => cases h
theorem NoWr.bnd {α β : Type} {s : Sem α} {f : α → Sem β} (hs : NoWr s) (hf : ∀ a, NoWr (f a)) : NoWr (s >>= f) := by
  induction hs with
  | pure => exact hf _
  | load _ ih => exact .load fun v => ih v
  | program _ ih => exact .program fun p => ih p
  | halt => exact .halt
theorem noWr_typeInfo (t : TypeId) : NoWr (typeInfo t) := by
  unfold Go.typeInfo
  refine NoWr.bnd (.program fun p => .pure) fun p => ?_
  split
  · exact .pure
  · exact .halt
theorem noWr_underlying (t : TypeId) : NoWr (underlying t) := by
  unfold Go.underlying
  refine NoWr.bnd (.program fun p => .pure) fun p => ?_
  split
  · exact .pure
  · exact .halt
theorem noWr_loadCellsFrom (a : Addr) : ∀ (n i : Nat) (acc : Array Value), NoWr (loadCellsFrom a i n acc)
  | 0, _, _ => .pure
  | n + 1, _, _ => NoWr.bnd (.load fun _ => .pure) fun _ => noWr_loadCellsFrom a n _ _
theorem noWr_loadVar (t : TypeId) (a : Addr) : NoWr (loadVar t a) := by
  unfold Go.loadVar
  refine NoWr.bnd ?_ fun b => ?_
  · unfold isAgg
    refine NoWr.bnd (noWr_underlying t) fun d => ?_
    split <;> exact .pure
  · split
    · exact NoWr.bnd (NoWr.bnd (noWr_typeInfo t) fun _ => .pure) fun _ => NoWr.bnd (noWr_loadCellsFrom a _ _ _) fun _ => .pure
    · exact .load fun _ => .pure
theorem noWr_asAddr (v : Value) : NoWr (asAddr v) := by
  unfold asAddr
  split
  · exact .pure
  · unfold runtimePanic
    exact NoWr.bnd (.program fun _ => .pure) fun _ => .halt
  · exact .halt
theorem noWr_mapM {α β : Type} {f : α → Sem β} (h : ∀ x, NoWr (f x)) : ∀ l : List α, NoWr (l.mapM f)
  | [] => by rw [List.mapM_nil]; exact .pure
  | x :: l => by
    rw [List.mapM_cons]
    exact NoWr.bnd (h x) fun _ => NoWr.bnd (noWr_mapM h l) fun _ => .pure
theorem noWr_results (fn : Func) (tmps : Array Value) : NoWr (results fn tmps) := by
  unfold results
  refine NoWr.bnd ?_ fun _ => .pure
  rw [Array.mapM_eq_mapM_toList]
  refine NoWr.bnd (noWr_mapM (fun x => ?_) _) fun _ => .pure
  split
  · exact .pure
  · exact NoWr.bnd (noWr_asAddr _) fun _ => noWr_loadVar _ _

noncomputable def resSem (fn : Func) (T : Tm) : Sem Value := do
  let vs ← fn.results.mapM fun
    | .tmp t => pure (T.get t)
    | .cell a t => do loadVar t (← asAddr (T.get a))
  pure (if h : vs.size = 1 then vs[0] else .tuple vs)
theorem sim_mapM {P : Program} {m : Mp} {α : Type} {f f' : α → Sem Value} (h : ∀ x, Sim P (RV m) m (f x) (f' x)) : ∀ l : List α, Sim P (fun x y => y = x.map (ren m)) m (l.mapM f) (l.mapM f')
  | [] => by rw [List.mapM_nil, List.mapM_nil]; exact .pure rfl
  | x :: l => by
    rw [List.mapM_cons, List.mapM_cons]
    refine Sim.bnd (h x) ?_
    rintro v _ rfl
    refine Sim.bnd (sim_mapM h l) ?_
    rintro vs _ rfl
    exact .pure rfl
theorem sim_results {P : Program} {m : Mp} {fn : Func} {T : Tm} {tmps : Array Value} (ht : TR m T tmps) : Sim P (RV m) m (resSem fn T) (results fn tmps) := by
  unfold resSem results
  refine Sim.bnd (R := fun x y => y = renR m x) ?_ ?_
  · rw [Array.mapM_eq_mapM_toList, Array.mapM_eq_mapM_toList]
    refine Sim.bnd (sim_mapM (fun x => ?_) _) ?_
    · cases x with
      | tmp t => exact .pure (ht.2 t)
      | cell a t =>
        simp only
        rw [ht.2 a]
        refine Sim.bnd (sim_asAddr _) ?_
        rintro a _ rfl
        exact sim_loadVar _ _
    · rintro x _ rfl
      exact .pure (by simp [renR_map])
  · rintro vs _ rfl
    refine .pure ?_
    by_cases h1 : vs.size = 1
    · have h2 : (renR m vs).size = 1 := by rw [ren_size]; exact h1
      rw [dif_pos h1, dif_pos h2]
      simp only [RV, renR_map, Array.getElem_map]
    · have h2 : ¬ (renR m vs).size = 1 := by rw [ren_size]; exact h1
      rw [dif_neg h1, dif_neg h2]
      exact (ren_tuple vs).symm

noncomputable def ofArgs : Nat → List Value → Tr Value → Tr Value
  | _, [], t => t
  | i, v :: l, t => ofArgs (i + 1) l (t.set (i + 1) i (some v))
theorem ofArgs_get : ∀ (l : List Value) (i : Nat) (t : Tr Value) (k : Nat), (ofArgs i l t).get k = if i ≤ k ∧ k < i + l.length then l[k - i]? else t.get k
  | [], i, t, k => by simp only [ofArgs, List.length_nil]; rw [if_neg (by omega)]
  | v :: l, i, t, k => by
    simp only [ofArgs, List.length_cons]
    rw [ofArgs_get l (i + 1)]
    by_cases h1 : i + 1 ≤ k ∧ k < i + 1 + l.length
    · rw [if_pos h1, if_pos (by omega), show k - i = (k - (i + 1)) + 1 by omega, List.getElem?_cons_succ]
    · rw [if_neg h1]
      by_cases h2 : k = i
      · subst h2
        rw [if_pos (by omega), Nat.sub_self, List.getElem?_cons_zero, Tr.get_set _ _ _ _ (by omega)]
      · rw [if_neg (by omega), Tr.get_set_ne _ _ _ _ _ h2]
noncomputable def startT (fn : Func) (args : Array Value) : Tm := { t := ofArgs 0 args.toList .leaf, n := args.size + (fn.ntmps - args.size) }
theorem startT_ok {m : Mp} {fn : Func} {args args' : Array Value} (h : args' = renR m args) : TR m (startT fn args) (args' ++ Array.replicate (fn.ntmps - args'.size) undef) := by
  subst h
  refine ⟨by simp [startT, ren_size], fun t => ?_⟩
  unfold Tm.get startT
  simp only
  rw [ofArgs_get, Array.getD_eq_getD_getElem?]
  simp only [Nat.zero_le, true_and, Nat.zero_add, Nat.sub_zero, Array.length_toList, Array.getElem?_toList]
  by_cases ht : t < args.size
  · rw [if_pos ht, Array.getElem?_append_left (by rw [ren_size]; exact ht), renR_get]
    rw [Array.getElem?_eq_getElem ht]; rfl
  · rw [if_neg ht, Array.getElem?_append_right (by rw [ren_size]; omega)]
    rw [Tr.get, Tr.getP_leaf, Option.getD_none, ren_undef, Array.getElem?_replicate]
    split <;> rfl

def FUEL : Nat := 1000000
noncomputable def acall1 (P : Program) (GL : Nat → Bool) (call : ACall) : ACall := fun f args h =>
    match P.funcs[f]? with
    | some fn => match fn.body with
      | some c => match acode call P GL FUEL c (startT fn args) h with
        | some (.normal, T', h') => arun P (resSem fn T') h'
        | some (.ret, T', h') => arun P (resSem fn T') h'
        | _ => none
      | none => none
    | none => none

theorem acall1_sound {P : Program} {GL : Nat → Bool} (hN : ∀ (g : Nat) (fn : Func), P.funcs[g]? = some fn → (fn.name == "runtime.NumGoroutine") = false) (hmix : P.follows .mixedOrders = true) {call : ACall} (hC : CallSound P GL call) : CallSound P GL (acall1 P GL call) := by
    intro f args h v h' e
    simp only [acall1] at e
    split at e
    case h_2 => cases e
    next fn hfn =>
    split at e
    case h_2 => cases e
    next c hb =>
    have key : ∀ (x : AX) (T' : Tm) (h1 : H), (x = .normal ∨ x = .ret) → acode call P GL FUEL c (startT fn args) h = some (x, T', h1) → arun P (resSem fn T') h1 = some (v, h') →
        Le h h' ∧ ∀ F K M g w args', Sub h'.fp F → Agree F K g h → Rep K M g w → (∀ b, GL b = true → K b ∧ M b = ⟨b, 0, (M b).x⟩) → (∀ m, Cl K M m → args' = renR m args) →
          Calls P f args' w fun e w' => ∃ v' M', e = .returned v' ∧ Post h h' K M g w M' w' ∧ ∀ m, Cl (Kn K h.size h'.size) M' m → v' = ren m v := by
      intro x T' h1 hx e1 e2
      obtain ⟨l1, k1⟩ := (acode_sound hN hC hmix FUEL).1 e1
      have l2 := arun_le _ e2
      refine ⟨l1.trans l2, ?_⟩
      intro F K M g w args' hf ha hr hG hargs
      have hf1 := l2.fp.trans hf
      refine calls_of_wp hfn hb (k1 hf1 ha hr hG (fun m hm => startT_ok (hargs m hm)) rfl ?_)
      intro a1 M1 w1 p1 ht1 hd1
      obtain ⟨v', M2, w2, r1, p2, r3⟩ := arun_sound (R := fun m => RV m) (resSem fn T') (s' := results fn a1.tmps) e2 hf (ha.next l1 hf1) p1.rep (fun m hm => sim_results (ht1 m hm))
      have hw := (noWr_results fn a1.tmps).run r1
      subst hw
      have fin : a1.defers = [] ∧ ∃ v, (results fn a1.tmps).run P w2 = .ok v w2 ∧ (∃ v'_1 M', Ending.returned v = Ending.returned v'_1 ∧ Post h h' K M g w M' w2 ∧ ∀ m, Cl (Kn K h.size h'.size) M' m → v'_1 = ren m _) :=
        ⟨hd1, v', r1, v', M2, rfl, Post.trans ha hf1 l1 l2 p1 p2, fun m hm => r3 m (by rw [Kn_trans l1.size l2.size]; exact hm)⟩
      rcases hx with rfl | rfl <;> exact fin
    split at e
    · next T' h1 e1 => exact key _ T' h1 (.inl rfl) e1 e
    · next T' h1 e1 => exact key _ T' h1 (.inr rfl) e1 e
    · cases e
end Go.Proofs.YtimnpkadikoafaaGreatDoor.Ev
