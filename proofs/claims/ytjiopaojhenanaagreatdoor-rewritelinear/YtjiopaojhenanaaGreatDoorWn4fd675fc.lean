import Derived.Test.YtjiopaojhenanaaGreatDoorWn602fe09f
namespace Go.Proofs.YtjiopaojhenanaaGreatDoor.Cir
end Go.Proofs.YtjiopaojhenanaaGreatDoor.Cir
namespace Go.Proofs.YtjiopaojhenanaaGreatDoor.Gt
end Go.Proofs.YtjiopaojhenanaaGreatDoor.Gt
namespace Go.Proofs.YtjiopaojhenanaaGreatDoor.Oct
end Go.Proofs.YtjiopaojhenanaaGreatDoor.Oct
namespace Go.Proofs.YtjiopaojhenanaaGreatDoor.Tok
end Go.Proofs.YtjiopaojhenanaaGreatDoor.Tok
namespace Go.Proofs.YtjiopaojhenanaaGreatDoor.Rwt
open Go.RowKit Go.Shelf Go.Proofs.YtjiopaojhenanaaGreatDoor.Oct Go.Proofs.YtjiopaojhenanaaGreatDoor.Tok Go.Proofs.YtjiopaojhenanaaGreatDoor.Gt Go.Proofs.YtjiopaojhenanaaGreatDoor.Cir
theorem opC_one18 (p : COp) (v : Value) (h : v.oneCell' = true) : ∀ u ∈ opC (p, v), u.oneCell' = true := by
  intro u hu
  simp only [opC, List.mem_cons, List.not_mem_nil, or_false] at hu
  rcases hu with rfl | rfl | rfl | rfl | rfl | rfl
  all_goals first | rfl | exact h
theorem run_push18 {w : World} {B E0 n c : Nat} {ao : Option Addr} {l : List COp} (hO : OpsE w B E0 ao n c l) (hB : B <= E0) (hE : E0 <= w.heap.size) (p : COp) (v : Value) (hv : RowO w E0 v p.qs) (H : Nat) (hH : w.heap[H]? = some (.cells (opC (p, v)).toArray 49 (0, 0))) (hn : n <= 1000000000) (ty : TypeId) :
    ∃ g cap w', (Builtin.append_ #[22, 22] ty #[.slice ao n c, .slice (some ⟨H, 0, none⟩) 1 1]).run Tryz.prog w = .ok (.slice (some ⟨g, 0, none⟩) (n + 1) cap) w' /\ OpsOwn w' B (some ⟨g, 0, none⟩) (n + 1) cap (l ++ [p]) /\ w.grownBy w' (ob ao) := by
  obtain ⟨i0, hi, hz0, hz1, hz2⟩ := info_parts infoOp
  obtain ⟨xs, h1, h2, h3, h4, h5, h6⟩ := hO
  have hv1 : v.oneCell' = true := by
    obtain ⟨a, k, e, -⟩ := hv
    rw [e]
    rfl
  obtain ⟨v', w', hr, ho, hg, _, _⟩ := run_append_own_at (P := Tryz.prog) w B 22 ty 49 i0 _ 6 64 Tryz.underlying22 hi hz0 hz1 hz2 rfl (by decide) _ n _ h3 ⟨H, 0, none⟩ 1 1 (opC (p, v)) rfl (fun j u hu => by rw [Addr.add_lit, Nat.zero_add, cell_of_row _ _ _ _ _ _ hH]; simpa using hu) (opC_one18 p v hv1) (by unfold maxLen; omega) (by omega) (by omega)
  rw [ob_eq] at hg
  obtain ⟨g, cap, rfl⟩ : ∃ g cap, v' = .slice (some ⟨g, 0, none⟩) (n + 1) cap := by
    rcases ho.2 with ⟨e, e0⟩ | ⟨g', cap', cur', e, -⟩
    . omega
    . exact ⟨_, cap', e⟩
  refine ⟨g, cap, w', hr, OpsOwn.push h1 h2 h3 h4 h5 p v (hv.base hB) (fun x hx g1 e1 e2 => ?_) hg ho, hg⟩
  have q1 := h6 x hx g1 e1
  have q2 := (hv.lt e2).1
  omega
theorem step_push18 {ops : Array Oper} {o : Oper} {a : Act} {K : Act -> World -> Prop} {Q : Exit -> Act -> World -> Prop} {E : Prop} {w : World} (hgd : o.guard = none) (s x : Operand)
    (ho : o.op = .call { callee := .builtin .append, args := #[s, x], argTypes := #[22, 22] }) {B E0 n c : Nat} {ao : Option Addr} {l : List COp} (hO : OpsE w B E0 ao n c l) (hB : B <= E0) (hE : E0 <= w.heap.size) (p : COp) (v : Value) (hv : RowO w E0 v p.qs) (H : Nat) (hH : w.heap[H]? = some (.cells (opC (p, v)).toArray 49 (0, 0))) (hn : n <= 1000000000) (hs : a.eval s = .slice ao n c) (hx : a.eval x = .slice (some ⟨H, 0, none⟩) 1 1)
    (h : ∀ g cap w', OpsOwn w' B (some ⟨g, 0, none⟩) (n + 1) cap (l ++ [p]) -> w.grownBy w' (ob ao) -> K (a.put o.dst (.slice (some ⟨g, 0, none⟩) (n + 1) cap)) w') :
    if Region.wanted o (yielded ops a.tmps) = true then Oper.wp Tryz.prog o a w K Q else E := by
  have hw : Region.wanted o (yielded ops a.tmps) = true := by simp [Region.wanted, hgd]
  rw [if_pos hw]
  obtain ⟨g, cap, w', hr, h3, h4⟩ := run_push18 hO hB hE p v hv H hH hn o.type
  unfold Oper.wp execOp
  simp only [ho, resolve, invoke, builtin, Sem.run_bind, Sem.run_pure, Result.andThen_ok, List.map_toArray, List.map_cons, List.map_nil, hs, hx, hr]
  exact h g cap w' h3 h4
theorem list_push18x {ops : Array Oper} {rest : List Oper} {o : Oper} {a : Act} {Q : Exit -> Act -> World -> Prop} {w : World} (hgd : o.guard = none) (s x : Operand)
    (ho : o.op = .call { callee := .builtin .append, args := #[s, x], argTypes := #[22, 22] }) {B E0 n c : Nat} {ao : Option Addr} {l : List COp} (hO : OpsE w B E0 ao n c l) (hB : B <= E0) (hE : E0 <= w.heap.size) (p : COp) (v : Value) (hv : RowO w E0 v p.qs) (H : Nat) (hH : w.heap[H]? = some (.cells (opC (p, v)).toArray 49 (0, 0))) (hn : n <= 1000000000) (hs : a.eval s = .slice ao n c) (hx : a.eval x = .slice (some ⟨H, 0, none⟩) 1 1)
    (h : ∀ g cap w', OpsOwn w' B (some ⟨g, 0, none⟩) (n + 1) cap (l ++ [p]) -> w.grownBy w' (ob ao) -> wpList Tryz.prog ops Q rest (a.put o.dst (.slice (some ⟨g, 0, none⟩) (n + 1) cap)) w') : wpList Tryz.prog ops Q (o :: rest) a w := by
  refine wpList_plain hgd fun K hK => ?_
  obtain ⟨g, cap, w', hr, h3, h4⟩ := run_push18 hO hB hE p v hv H hH hn o.type
  unfold Oper.wp execOp
  simp only [ho, resolve, invoke, builtin, Sem.run_bind, Sem.run_pure, Result.andThen_ok, List.map_toArray, List.map_cons, List.map_nil, hs, hx, hr]
  exact hK _ _ (h g cap w' h3 h4)
theorem op_cells18 {w : World} {g : Nat} {x0 x1 x2 x3 x4 x5 : Value} {t : TypeId} (h : w.heap[g]? = some (.cells #[x0, x1, x2, x3, x4, x5] t (0, 0))) : w.cell? ⟨g, 0, none⟩ = some x0 /\ w.cell? ⟨g, 1, none⟩ = some x1 /\ w.cell? ⟨g, 2, none⟩ = some x2 /\ w.cell? ⟨g, 3, none⟩ = some x3 /\ w.cell? ⟨g, 4, none⟩ = some x4 /\ w.cell? ⟨g, 5, none⟩ = some x5 /\ g < w.heap.size :=
  ⟨cell_of_row _ _ 0 _ _ _ h, cell_of_row _ _ 1 _ _ _ h, cell_of_row _ _ 2 _ _ _ h, cell_of_row _ _ 3 _ _ _ h, cell_of_row _ _ 4 _ _ _ h, cell_of_row _ _ 5 _ _ _ h, (Array.getElem?_eq_some_iff.1 h).1⟩
theorem own_len18 {V : World} {B : Nat} {ao : Option Addr} {n c : Nat} {l : List COp} (h : OpsOwn V B ao n c l) : n = l.length := h.at.len
theorem opsown_nil (w : World) (B : Nat) : OpsOwn w B none 0 0 [] := ⟨[], rfl, rfl, ⟨rfl, .inl ⟨rfl, rfl⟩⟩, (fun _ h => nomatch h), List.Pairwise.nil⟩
theorem infoCi18 : (Tryz.prog.info? 24).map (·.size) = some 3 := by kernel_rfl
end Go.Proofs.YtjiopaojhenanaaGreatDoor.Rwt
