import Derived.Test.YtcdakajckpimoaaGreatDoorB6f831db8
import Derived.Test.YtcdakajckpimoaaGreatDoorBdfb0b7db
namespace Go.Proofs.YtcdakajckpimoaaGreatDoor.Cir
open Go.RowKit Go.Shelf
theorem op_round {P : Program} {o : Oper} {a : Act} {w : World} {K K' : Act -> World -> Prop} {Q : Exit -> Act -> World -> Prop} {n l : Nat} (hd : ∀ c, o.op ≠ .defer c) (hK : ∀ a w, K a w -> K' a w) (h : o.wp P a w K Q) : o.wpIn (Fence.wide.inRound l) n P a w K' Q := by
  refine ⟨fun _ _ => trivial, ?_⟩
  rw [show (Fence.wide.inRound l).round = some l from rfl, Oper.semAt_some l _ _ hd]
  unfold Oper.wp at h
  generalize (execOp a.eval o).run P w = r at *
  cases r with
  | halt v w' =>
    cases v with
    | panic v => exact h
    | _ => exact h.elim
  | ok x w' =>
    cases x with
    | value v => exact hK _ _ h
    | skip => exact hK _ _ h
    | defer d => exact hK _ _ h
    | enter f args =>
      refine ⟨(fun e => nomatch (show (none : Option Nat).isSome = true from e)), (callsIn_wide.2 (Calls.mono h ?_)).inRound l⟩
      intro e w2 h2
      cases e with
      | returned v => exact hK _ _ h2
      | panicked chain => exact h2
      | outgrown => exact h2
    | row r args => exact ⟨(fun e => nomatch (show (none : Option Nat).isSome = true from e)), fun c cs _ => let ⟨v, w2, q, s⟩ := h c cs; ⟨v, w2, hK _ _ q, stepsIn_wide.2 s⟩⟩
    | _ => exact h.elim
def calmB (ops : Array Oper) : Bool := ops.all fun o => match o.op with | .defer _ => false | _ => true
theorem calm_at {ops : Array Oper} (h : calmB ops = true) (i : Nat) (o : Oper) (ho : ops[i]? = some o) : ∀ c, o.op ≠ .defer c := by
  intro c e
  unfold calmB at h
  rw [Array.all_eq_true] at h
  obtain ⟨hi, rfl⟩ := Array.getElem?_eq_some_iff.1 ho
  have := h i hi
  rw [e] at this
  cases this
theorem any_round {P : Program} {md : Region.Mode} {ops : Array Oper} {Q : Exit -> Act -> World -> Prop} {n l : Nat} (hc : calmB ops = true) (hQ : ¬ LetsOut Q) : ∀ (fuel : Nat) (listed : Array Bool) (a : Act) (w : World), wpAny P md ops Q fuel listed a w -> wpAnyIn (Fence.wide.inRound l) n P md ops Q fuel listed a w
  | 0, _, _, _, h => h
  | fuel + 1, listed, a, w, h => by
    refine ⟨h.1, fun i hi => ?_⟩
    have h2 := h.2 i hi
    unfold wpOp at h2
    unfold wpOpIn
    cases ho : ops[i]? with
    | none =>
      rw [ho] at h2
      exact any_round hc hQ fuel _ _ _ h2
    | some o =>
      rw [ho] at h2
      simp only at h2 ⊢
      have c1 := calm_at hc i o ho
      split
      . rename_i hw
        rw [if_pos hw] at h2
        rcases h2 with h2 | ⟨-, h2⟩
        . exact op_round c1 (fun a w h => any_round hc hQ fuel _ a w h) h2
        . exact absurd h2 hQ
      . rename_i hw
        rw [if_neg hw] at h2
        exact ⟨fun _ _ => trivial, any_round hc hQ fuel _ _ _ h2⟩
theorem region_front_round {P : Program} {Q : Exit -> Act -> World -> Prop} {id m r : Nat} {a : Act} {w : World} {l : List Oper} {S : World -> Prop} (hc : calmB l.toArray = true) (hQ : ¬ LetsOut Q) (hm : P.follows .mixedOrders = true) (n : Nat) (hF : frB .any l.toArray n = true) (hS : S w.drew)
    (h : S w.drew -> wpAnyH P .any (l.take n).toArray (QL P l.toArray Q n) S n (Array.replicate (n + 1) false) a w.drew) : (Code.region id l.toArray true).wpIn (Fence.wide.inRound r) m P Q a w := by
  have hf := fr_of hF
  have hsz : l.length = n + 1 := by simpa using hf.size
  have hpop : l.toArray.pop = (l.take n).toArray := by
    apply Array.ext'
    simp [List.dropLast_eq_take, hsz]
  refine wpIn_region_any hm (any_round hc hQ _ _ _ _ ?_)
  have H := wpAny_of_held _ _ _ _ (h hS)
  rw [← hpop] at H
  have := any_of_fr hf n (Array.replicate (n + 1) false) a _ (by simp) (by simp) (fun i o hi hl => by simp [Array.getD] at hl) H
  simpa [hsz] using this
theorem yield_in {P : Program} {m m' l l' : Nat} {args : Array Value} {W : World} {R : Ending -> World -> Prop} (h : YieldAt Fence.wide m P l args W R) : YieldAt (Fence.wide.inRound l') m' P l args W R := by
  obtain ⟨fn, tmps, assign, body, hy, hF, hr⟩ := h
  exact ⟨fn, tmps, assign, body, hy, trivial, fun c cs _ => hr c cs (room_wide _)⟩
end Go.Proofs.YtcdakajckpimoaaGreatDoor.Cir
