import Derived.Test.YtoickolhekhgmaaGreatDoorEnd8e08253
namespace Go.Proofs.YtoickolhekhgmaaGreatDoor.Cir
end Go.Proofs.YtoickolhekhgmaaGreatDoor.Cir
namespace Go.Proofs.YtoickolhekhgmaaGreatDoor.Gt
end Go.Proofs.YtoickolhekhgmaaGreatDoor.Gt
namespace Go.Proofs.YtoickolhekhgmaaGreatDoor.Oct
end Go.Proofs.YtoickolhekhgmaaGreatDoor.Oct
namespace Go.Proofs.YtoickolhekhgmaaGreatDoor.Tok
end Go.Proofs.YtoickolhekhgmaaGreatDoor.Tok
set_option maxRecDepth 100000
set_option maxHeartbeats 2000000
namespace Go.Proofs.YtoickolhekhgmaaGreatDoor.Lay
open Go.RowKit Go.Shelf Go.Proofs.YtoickolhekhgmaaGreatDoor.Oct Go.Proofs.YtoickolhekhgmaaGreatDoor.Tok Go.Proofs.YtoickolhekhgmaaGreatDoor.Gt Go.Proofs.YtoickolhekhgmaaGreatDoor.Cir
attribute [local go_sem] Oper.semAt_some
section
variable {P : Program} {n l : Nat}
theorem op_inR {o : Oper} {a : Act} {w : World} {K : Act -> World -> Prop} {Q : Exit -> Act -> World -> Prop} (hnd : ∀ c, o.op ≠ .defer c) (h : o.wp P a w K Q) : o.wpIn (Fence.wide.inRound l) n P a w K Q := by
  refine ⟨fun _ _ => trivial, ?_⟩
  rw [show (Fence.wide.inRound l).round = some l from rfl, Oper.semAt_some l _ o hnd]
  unfold Oper.wp at h
  generalize (execOp a.eval o).run P w = r at *
  cases r with
  | ok x w' =>
    cases x with
    | value v => exact h
    | skip => exact h
    | defer d => exact h
    | enter f args => exact ⟨fun hd => by simp [Fence.wide] at hd, CallsIn.inRound l (callsIn_wide.2 h)⟩
    | row row args => exact ⟨fun hd => by simp [Fence.wide] at hd, fun c cs _ => by
        obtain ⟨v, w'', hr, hs⟩ := h c cs
        exact ⟨v, w'', hr, by rw [fenced_inRound]; exact stepsIn_wide.2 hs⟩⟩
    | _ => exact absurd h (by simp [Oper.upon])
  | halt x w' => cases x <;> exact h
theorem list_inR {ops : Array Oper} {rest : List Oper} {o : Oper} {a : Act} {w : World} {Q : Exit -> Act -> World -> Prop} (hg : o.guard = none) (hnd : ∀ c, o.op ≠ .defer c) (h : ∀ K : Act -> World -> Prop, (∀ a w, wpListIn (Fence.wide.inRound l) n P ops Q rest a w -> K a w) -> o.wp P a w K Q) : wpListIn (Fence.wide.inRound l) n P ops Q (o :: rest) a w :=
  wpListIn_plain hg fun K hK => op_inR hnd (h K hK)
theorem any_inR {ops : Array Oper} {md : Region.Mode} {Q : Exit -> Act -> World -> Prop} (hnd : ∀ o ∈ ops, ∀ c, o.op ≠ .defer c) : ∀ (fuel : Nat) (listed : Array Bool) (a : Act) (w : World), wpAny P md ops (fun e a w => e ≠ .outgrown /\ Q e a w) fuel listed a w -> wpAnyIn (Fence.wide.inRound l) n P md ops Q fuel listed a w
  | 0, _, _, _, h => ⟨h.1, h.2.2⟩
  | fuel + 1, listed, a, w, h => by
    refine ⟨fun e => (h.1 e).2, fun i hi => ?_⟩
    have h2 := h.2 i hi
    unfold wpOp at h2
    unfold wpOpIn
    cases ho : ops[i]? with
    | none =>
      simp only [ho] at h2 ⊢
      exact any_inR hnd fuel _ a w h2
    | some o =>
      simp only [ho] at h2 ⊢
      split
      . rename_i hw
        simp only [hw, if_true] at h2
        rcases h2 with h2 | ⟨-, a', w', h2, -⟩
        . have h3 : o.wp P a w (wpAnyIn (Fence.wide.inRound l) n P md ops Q fuel (listed.setIfInBounds i true)) Q := by
            have h4 := Oper.wp_mono (fun a w h => any_inR hnd fuel _ a w h) h2
            unfold Oper.wp at h4 ⊢
            generalize (execOp a.eval o).run P w = r at *
            cases r with
            | ok x w' =>
              cases x with
              | enter f args => exact Calls.mono h4 (fun e w'' he => by
                  cases e with
                  | returned v => exact he
                  | panicked c => exact he.2
                  | outgrown => obtain ⟨_, _, hq, _⟩ := he; exact absurd rfl hq)
              | _ => exact h4
            | halt x w' => cases x <;> first | exact h4.2 | exact h4
          exact op_inR (hnd o (Array.mem_of_getElem? ho)) h3
        . exact absurd rfl h2
      . rename_i hw
        simp only [hw] at h2
        exact ⟨fun _ _ => trivial, any_inR hnd fuel _ _ _ h2⟩
end
structure It (ops : List COp) (w0 : World) where
  i : Nat
  hi : i < ops.length
  aq : Option Addr
  cq : Nat
  ns : Ns w0 aq (oa ops i).qs
  room : (oa ops i).qs.length <= cq
def It.enc {ops : List COp} {w0 : World} (x : It ops w0) : Array Value := #[.int .i64 (x.i : Int), opV (oa ops x.i) x.aq x.cq]
theorem load_in {F : Fence} {n : Nat} {P : Program} {ops : Array Oper} {rest : List Oper} {o : Oper} {a : Act} {w : World} {Q : Exit -> Act -> World -> Prop} (hro : F.round = none) (hgd : o.guard = none) (ty : TypeId) (x : Operand) (ho : o.op = .load ty x)
    (g off : Nat) (hx : a.eval x = .pointer (some ⟨g, off, none⟩)) (cs : List Value) (d : TypeDesc) (hg : ∀ j v, cs[j]? = some v -> w.cell? ⟨g, off + j, none⟩ = some v)
    (hu : P.underlying ty = some d) (hd : (match d with | .struct _ | .array _ _ => true | _ => false) = true) (hi : (P.info? ty).map (·.size) = some cs.length)
    (h : wpListIn F n P ops Q rest (a.put o.dst (.agg cs.toArray)) w) : wpListIn F n P ops Q (o :: rest) a w :=
  wpListIn_plain hgd fun K hK => by
    refine ⟨fun f hf => by simp [Oper.about, ho] at hf, ?_⟩
    rw [hro, Oper.semAt_none]
    unfold execOp
    simp only [ho, hx, Instr.loadAt, Instr.sureAddr, Sem.run_bind, Sem.run_pure, Result.andThen_ok, run_loadVar_at w g off ty cs d hg hu hd hi]
    exact hK _ _ h
theorem oc_cells6 {w : World} {g off : Nat} {o : COp} {aq : Option Addr} {cq : Nat} (h : Oc w g off o aq cq) : ∀ j v, (opC (o, .slice aq o.qs.length cq))[j]? = some v -> w.cell? ⟨g, off + j, none⟩ = some v := by
  intro j v hv
  match j with
  | 0 => simp [opC] at hv; subst hv; exact h.kind
  | 1 => simp [opC] at hv; subst hv; exact h.gate
  | 2 => simp [opC] at hv; subst hv; exact h.qs
  | 3 => simp [opC] at hv; subst hv; exact h.bit
  | 4 => simp [opC] at hv; subst hv; exact h.cond
  | 5 => simp [opC] at hv; subst hv; exact h.whn
  | j + 6 => simp [opC] at hv
def KB (n0 Bs : Nat) (W W' : World) : Prop := Below n0 W W' /\ W'.heap[Bs]? = W.heap[Bs]?
theorem KB.refl (n0 Bs : Nat) (W : World) : KB n0 Bs W W := ⟨Below.refl _ _, rfl⟩
theorem KB.trans {n0 Bs : Nat} {A B C : World} (h : KB n0 Bs A B) (k : KB n0 Bs B C) : KB n0 Bs A C := ⟨h.1.trans k.1, k.2.trans h.2⟩
theorem KB.put {n0 Bs : Nat} {w : World} (hn : n0 <= w.heap.size) (hB : Bs < w.heap.size) (W : World) (l : Nat) (o o' : Obj) (hl : w.heap.size <= l) (h : W.heap[l]? = some o) (h1 : o.isCells = false) (h2 : o.isWalk = false) : KB n0 Bs W (W.putObj l o') :=
  ⟨belowK_b hn W l o o' hl h h1 h2, (grownBy_putObj' W l o').block Bs (by have := (Array.getElem?_eq_some_iff.1 h).1; omega) (fun e => by cases e; omega)⟩
theorem infoO6 : (Tryz.prog.info? 48).map (·.size) = some 6 := by kernel_rfl
theorem back1_in (F : Fence) (n : Nat) (h1 : F.fn 48) (hro : F.round = none) (hn : 1 <= n) (ops : List COp) (w0 : World) (l Bs : Nat) (ao : Option Addr) (cap : Nat) (hlen : ops.length <= 4096) (hO : OpsIn w0 ao ops) (J Jx : List (It ops w0) -> World -> Prop)
    (hY : ∀ pre x W, J pre W -> pre.length < ops.length -> YieldAt F (n - 1) Tryz.prog l (It.enc x) W fun e W' =>
      (e = .returned (.bool true) /\ J (pre ++ [x]) W' /\ KB w0.heap.size Bs W W') ∨ (e = .returned (.bool false) /\ Jx (pre ++ [x]) W'))
    (W : World) (hW : Below w0.heap.size w0 W) (hBs : W.cell? ⟨Bs, 0, none⟩ = some (.slice ao ops.length cap)) (h0 : J [] W) :
    CallsIn F n Tryz.prog 48 #[.func (.yield l) #[] #[], .pointer (some ⟨Bs, 0, none⟩)] W fun e W' => (∃ v, e = .returned v) /\
      ((∃ ys : List (It ops w0), ys.map It.i = (List.range ops.length).reverse /\ J ys W') ∨ (∃ pre, True /\ Jx pre W')) := by
  obtain ⟨N, hN⟩ : ∃ N, ops.length = N := ⟨_, rfl⟩
  have HN := hide hN
  have HO := hide hO
  have HY := hide hY
  have HBs := hide hBs
  rw [hN] at hlen
  have hb0 := hBs
  rw [hN] at hb0
  clear hN hO hY hBs
  have hwn : IntKind.i64.wrap ((N : Int) - 1) = (N : Int) - 1 := wrapI _ (by omega) (by omega)
  refine callsIn_of_wp Tryz.func48 rfl h1 ?_ hro
  simp only [Tryz.ntmps48, List.size_toArray, List.length_cons, List.length_nil, Nat.reduceAdd, Nat.reduceSub, Array.replicate_succ, Array.replicate_zero, List.push_toArray, List.append_toArray, List.nil_append, List.cons_append]
  gi_wp2
  gi_loopw [3] (fun vi wr => ∃ (k : Nat) (ys : List (It ops w0)), k <= N /\ vi = .int .i64 ((N : Int) - 1 - (k : Int)) /\ Hid (ys.map It.i = ((List.range N).reverse).take k) /\ J ys wr /\ Hid (KB w0.heap.size Bs W wr)) (fun vi _ => ((intOf vi) + 1).toNat)
  case atStart => exact ⟨0, [], Nat.zero_le _, by simp, hide rfl, h0, hide (KB.refl _ _ _)⟩
  case round =>
    obtain ⟨k, ys, hk, rfl, HYs, hJs, HB⟩ := hrel
    have hb1 := (World.cell?_of_block (a := ⟨Bs, 0, none⟩) (w := W) HB.out.2).trans hb0
    have HBW : Hid (Below w0.heap.size w0 wr) := hide (hW.trans HB.out.1)
    by_cases hlt : k < N
    . obtain ⟨i, hi⟩ : ∃ i, i + k + 1 = N := ⟨N - 1 - k, by omega⟩
      have hin : i < ops.length := by rw [HN.out]; omega
      obtain ⟨g, off, aq, cq, rfl, hgl0, hoc0⟩ := HO.out.at (oa_some hin)
      have hgl : g < wr.heap.size := Nat.lt_of_lt_of_le hgl0 HBW.out.size
      have hyl : ys.length = k := by have := congrArg List.length HYs.out; simp at this; omega
      obtain ⟨fn, tmps, assign, body, hy, hR⟩ := HY.out ys ⟨i, hin, aq, cq, hoc0.ns, hoc0.room⟩ wr hJs (by rw [HN.out, hyl]; exact hlt)
      have HC := hide (oc_cells6 (hoc0.below HBW.out))
      have HYs' : Hid ((ys ++ [(⟨i, hin, aq, cq, hoc0.ns, hoc0.room⟩ : It ops w0)]).map It.i = ((List.range N).reverse).take (k + 1)) := hide (by
        have e1 : ((List.range N).reverse)[k]? = some i := by
          rw [List.getElem?_reverse (by simp; omega), List.length_range, List.getElem?_range (by omega)]
          congr 1
          omega
        rw [List.map_append, HYs.out, List.take_add_one, e1]
        rfl)
      have hy2 : (Instr.yield l #[.int .i64 (i : Int), .agg (opC (oa ops i, .slice aq (oa ops i).qs.length cq)).toArray]).run Tryz.prog wr = .ok (.round l fn tmps assign body) wr := hy
      clear hy
      have hkz : (N : Int) - 1 - (k : Int) = (i : Int) := by omega
      rw [hkz]
      have hin2 : (i : Int) < (N : Int) := by omega
      have hw1 : IntKind.i64.wrap ((i : Int) - 1) = (i : Int) - 1 := wrapI _ (by omega) (by omega)
      have HHI := hide hi
      clear hi hyl hkz
      gi_wp2_with (refine load_in hro rfl _ _ rfl g (off + i * 6) (by rfl) _ _ HC.out Tryz.underlying48 rfl (by exact infoO6) ?_)
      refine hR.mono ?_
      rintro e W3 (⟨rfl, hJ3, hk3⟩ | ⟨rfl, hJx3⟩)
      . gi_wp2
        go_roundw
        case rel => exact ⟨k + 1, _, by have := HHI.out; omega, by have := HHI.out; congr 1; omega, HYs', hJ3, hide (HB.out.trans hk3)⟩
        case measure => simp [intOf]
      . gi_wp2
        refine bodyPost_ret (results_none rfl _ _ _) rfl ?_
        exact ⟨⟨_, rfl⟩, .inr ⟨_, trivial, hJx3⟩⟩
    . obtain rfl : k = N := by omega
      have hd : decide ((k : Int) - 1 - (k : Int) ≥ 0) = false := decide_eq_false (by omega)
      gi_wp2
      go_end0
      exact ⟨⟨_, rfl⟩, .inl ⟨ys, by rw [HYs.out, HN.out, List.take_of_length_le (by simp)], hJs⟩⟩
theorem alloc_setRow (w : World) (z cs : Array Value) (t : TypeId) : (w.alloc (.cells z t)).setRow w.heap.size cs = w.alloc (.cells cs t) := by
  unfold World.setRow World.alloc
  congr 1
  apply Array.ext_getElem?
  intro k
  rw [Array.getElem?_modify, Array.getElem?_push, Array.getElem?_push]
  by_cases e : k = w.heap.size
  . subst e
    simp
  . rw [if_neg e, if_neg (fun h => e h.symm)]
    simp [e]
theorem back_stops (F : Fence) (n : Nat) (h1 : F.fn 48) (hro : F.round = none) (hn : 1 <= n) (ops : List COp) (w0 : World) (Bs : Nat) (ao : Option Addr) (cap : Nat) (hlen : ops.length <= 4096) (hO : OpsIn w0 ao ops) (w : World) (hw : Below w0.heap.size w0 w) (hB : Bs < w.heap.size) (hBs : w.cell? ⟨Bs, 0, none⟩ = some (.slice ao ops.length cap)) :
    SeqStopsK F n Tryz.prog 48 #[.pointer (some ⟨Bs, 0, none⟩)] (It.enc (ops := ops) (w0 := w0)) (KB w0.heap.size Bs) (fun ys => ys.map It.i = (List.range ops.length).reverse) (fun _ => True) ops.length w :=
  fun l J Jx W hW _ _ hY h0 => back1_in F n h1 hro hn ops w0 l Bs ao cap hlen hO J Jx hY W (hw.trans (hW.mono hw.size)) ((hW.cell (p := ⟨Bs, 0, none⟩) hB).trans hBs) h0
end Go.Proofs.YtoickolhekhgmaaGreatDoor.Lay
