import Derived.Test.YtbdphifecjigmaaGreatDoorRn8f52d812
import Derived.StillTail
import Derived.Test.YtbdphifecjigmaaGreatDoorRnb500aef5
namespace Go.Proofs.YtbdphifecjigmaaGreatDoor.Gt
end Go.Proofs.YtbdphifecjigmaaGreatDoor.Gt
namespace Go.Proofs.YtbdphifecjigmaaGreatDoor.Oct
end Go.Proofs.YtbdphifecjigmaaGreatDoor.Oct
namespace Go.Proofs.YtbdphifecjigmaaGreatDoor.Tok
end Go.Proofs.YtbdphifecjigmaaGreatDoor.Tok
namespace Go.Proofs.YtbdphifecjigmaaGreatDoor.Cir
open Go.RowKit Go.Shelf Go.Proofs.YtbdphifecjigmaaGreatDoor.Oct Go.Proofs.YtbdphifecjigmaaGreatDoor.Tok Go.Proofs.YtbdphifecjigmaaGreatDoor.Gt
def OpsE (w : World) (B E : Nat) (ao : Option Addr) (n c : Nat) (ops : List COp) : Prop := ∃ xs : List (COp × Value), n = xs.length /\ ops = xs.map (·.1) /\ w.ownsRow B 40 6 (.slice ao n c) n (xs.flatMap opC) /\ (∀ x ∈ xs, RowO w B x.2 x.1.qs) /\ Pw xs /\ ∀ x ∈ xs, ∀ g, x.2.ownBlock = some g -> g < E
theorem OpsOwn.upto {w : World} {B : Nat} {ao : Option Addr} {n c : Nat} {l : List COp} (h : OpsOwn w B ao n c l) : OpsE w B w.heap.size ao n c l := by
  obtain ⟨xs, h1, h2, h3, h4, h5⟩ := h
  exact ⟨xs, h1, h2, h3, h4, h5, fun x hx g hg => ((h4 x hx).lt hg).2⟩
theorem OpsE.own {w : World} {B E : Nat} {ao : Option Addr} {n c : Nat} {l : List COp} (h : OpsE w B E ao n c l) : OpsOwn w B ao n c l := by
  obtain ⟨xs, h1, h2, h3, h4, h5, -⟩ := h
  exact ⟨xs, h1, h2, h3, h4, h5⟩
theorem OpsE.below {w w' : World} {B E : Nat} {ao : Option Addr} {n c : Nat} {l : List COp} (h : OpsE w B E ao n c l) (hb : Below w.heap.size w w') : OpsE w' B E ao n c l := by
  obtain ⟨xs, h1, h2, h3, h4, h5, h6⟩ := h
  exact ⟨xs, h1, h2, own_of_block h3 (fun k hk => hb.block k (own_lt h3 k hk).2), fun x hx => (h4 x hx).below hb, h5, h6⟩
theorem run_append_opsE {w : World} {B E : Nat} {ao1 ao2 : Option Addr} {n1 c1 n2 c2 : Nat} {l1 l2 : List COp} (h1 : OpsE w B E ao1 n1 c1 l1) (h2 : OpsOwn w E ao2 n2 c2 l2) (hB : B <= E) (hE : E <= w.heap.size) (hlen : n1 + n2 <= 2199023255552) (ty : TypeId) :
    ∃ ao cap w', (Builtin.append_ #[22, 22] ty #[.slice ao1 n1 c1, .slice ao2 n2 c2]).run Tryz.prog w = .ok (.slice ao (n1 + n2) cap) w' /\ OpsOwn w' B ao (n1 + n2) cap (l1 ++ l2) /\ w.grownBy w' (ob ao1) := by
  obtain ⟨i0, hi, hz0, hz1, hz2⟩ := info_parts infoOp
  obtain ⟨xs1, a1, a2, e3, e4, a5, a6⟩ := h1
  obtain ⟨xs2, b1, b2, b3, b4, b5⟩ := h2
  have hcross : ∀ x ∈ xs1, ∀ y ∈ xs2, ∀ g, x.2.ownBlock = some g -> y.2.ownBlock = some g -> False := fun x hx y hy g hg1 hg2 => by
    have q1 := a6 x hx g hg1
    have q2 := ((b4 y hy).lt hg2).1
    omega
  have hPw : Pw (xs1 ++ xs2) := by
    unfold Pw
    rw [List.pairwise_append]
    exact ⟨a5, b5, hcross⟩
  have fin : ∀ (w' : World) (ao : Option Addr) (cap : Nat), w'.ownsRow B 40 6 (.slice ao (n1 + n2) cap) (n1 + n2) (xs1.flatMap opC ++ xs2.flatMap opC) -> w.grownBy w' (ob ao1) -> OpsOwn w' B ao (n1 + n2) cap (l1 ++ l2) := fun w' ao cap ho hg => by
    have hno : ∀ (b : Nat) (cs : Array Value) (fr : Nat × Nat), w.heap[b]? = some (Obj.cells cs 3 fr) -> w'.heap[b]? = w.heap[b]? := fun b cs fr hbb => hg.block b (Array.getElem?_eq_some_iff.1 hbb).1 (own_ne e3 hbb (by decide)).symm
    refine ⟨xs1 ++ xs2, by rw [List.length_append, ← a1, ← b1], by rw [List.map_append, ← a2, ← b2], by rw [List.flatMap_append]; exact ho, fun x hx => ?_, hPw⟩
    rcases List.mem_append.1 hx with hx | hx
    . exact (e4 x hx).block hno
    . exact ((b4 x hx).base hB).block hno
  rcases b3.2 with ⟨hv, h0⟩ | ⟨g, cap2, cur, hv, -⟩
  . have hx2 : xs2 = [] := List.length_eq_zero_iff.1 (by rw [← b1]; exact h0)
    subst hx2
    rw [hv]
    subst h0
    refine ⟨ao1, c1, w, run_append_owned_none (P := Tryz.prog) (w := w) B _ ty _ i0 6 Tryz.underlying22 hi _ n1 _ e3, fin w ao1 c1 ?_ (grown_refl _ _), grown_refl _ _⟩
    simpa using e3
  . simp only [Value.slice.injEq] at hv
    obtain ⟨rfl, -, rfl⟩ := hv
    obtain ⟨v', w', hr, ho, hg, _, _⟩ := run_append_own_at (P := Tryz.prog) w B 22 ty 40 i0 _ 6 64 Tryz.underlying22 hi hz0 hz1 hz2 rfl (by decide) _ n1 _ e3 ⟨g, 0, none⟩ n2 c2 (xs2.flatMap opC) b3.1 (fun j u hu => by rw [Addr.add_lit, Nat.zero_add]; exact own_at b3 _ _ hu) (opC_one (w := w) fun x hx => (b4 x hx).isI) (by unfold maxLen; omega) (by omega) (by omega)
    rw [ob_eq] at hg
    obtain ⟨ao, cap, rfl⟩ : ∃ ao cap, v' = .slice ao (n1 + n2) cap := by
      rcases ho.2 with ⟨e, e0⟩ | ⟨g', cap', cur', e, -⟩
      . exact ⟨none, 0, by rw [e, e0]⟩
      . exact ⟨_, cap', e⟩
    exact ⟨ao, cap, w', hr, fin w' ao cap ho hg, hg⟩
theorem list_app_opsE {ops : Array Oper} {rest : List Oper} {o : Oper} {a : Act} {Q : Exit -> Act -> World -> Prop} {w : World} (hgd : o.guard = none) (s x : Operand)
    (ho : o.op = .call { callee := .builtin .append, args := #[s, x], argTypes := #[22, 22] }) {B E : Nat} {ao1 ao2 : Option Addr} {n1 c1 n2 c2 : Nat} {l1 l2 : List COp} (hs : a.eval s = .slice ao1 n1 c1) (hx : a.eval x = .slice ao2 n2 c2)
    (h1 : OpsE w B E ao1 n1 c1 l1) (h2 : OpsOwn w E ao2 n2 c2 l2) (hB : B <= E) (hE : E <= w.heap.size) (hlen : n1 + n2 <= 2199023255552)
    (h : ∀ ao cap w', OpsOwn w' B ao (n1 + n2) cap (l1 ++ l2) -> w.grownBy w' (ob ao1) -> wpList Tryz.prog ops Q rest (a.put o.dst (.slice ao (n1 + n2) cap)) w') : wpList Tryz.prog ops Q (o :: rest) a w := by
  refine wpList_plain hgd fun K hK => ?_
  obtain ⟨ao, cap, w', hr, h3, h4⟩ := run_append_opsE h1 h2 hB hE hlen o.type
  unfold Oper.wp execOp
  simp only [ho, resolve, invoke, builtin, Sem.run_bind, Sem.run_pure, Result.andThen_ok, List.map_toArray, List.map_cons, List.map_nil, hs, hx, hr]
  exact hK _ _ (h ao cap w' h3 h4)
section
variable {W0 V v : World} {B n1 n2 : Nat} {l1 l2 : List COp} {x y : Option Nat} {d1 : Option (Nat × Option Addr × Nat)} {d2 : Option (Option Addr × Nat)}
end
end Go.Proofs.YtbdphifecjigmaaGreatDoor.Cir
