import Derived.Test.YtjiopaojhenanaaGreatDoorWnf9577ff7
namespace Go.Proofs.YtjiopaojhenanaaGreatDoor.Gt
end Go.Proofs.YtjiopaojhenanaaGreatDoor.Gt
namespace Go.Proofs.YtjiopaojhenanaaGreatDoor.Oct
end Go.Proofs.YtjiopaojhenanaaGreatDoor.Oct
namespace Go.Proofs.YtjiopaojhenanaaGreatDoor.Tok
end Go.Proofs.YtjiopaojhenanaaGreatDoor.Tok
set_option maxRecDepth 100000
set_option maxHeartbeats 1000000
namespace Go.Proofs.YtjiopaojhenanaaGreatDoor.Cir
open Go.RowKit Go.Shelf Go.Proofs.YtjiopaojhenanaaGreatDoor.Oct Go.Proofs.YtjiopaojhenanaaGreatDoor.Tok Go.Proofs.YtjiopaojhenanaaGreatDoor.Gt
def Szs (ops : List COp) : Prop := ops.length <= 2199023255552 /\ ∀ o ∈ ops, o.qs.length <= 17592186044416
def RowO (w : World) (B : Nat) (v : Value) (l : List Int) : Prop := ∃ ao c, v = .slice ao l.length c /\ w.ownsRow B 3 1 (.slice ao l.length c) l.length (l.map (Value.int .i64))
theorem RowO.block {w w' : World} {B : Nat} {v : Value} {l : List Int} (h : RowO w B v l) (hk : ∀ (g : Nat) (cs : Array Value) (fr : Nat × Nat), w.heap[g]? = some (Obj.cells cs 3 fr) -> w'.heap[g]? = w.heap[g]?) : RowO w' B v l := by
  obtain ⟨ao, c, e, h⟩ := h
  refine ⟨ao, c, e, own_of_block h fun k hk' => ?_⟩
  obtain ⟨cs, fr, hg⟩ := own_cells' h hk'
  exact hk k cs fr hg
theorem RowO.below {w w' : World} {B : Nat} {v : Value} {l : List Int} (h : RowO w B v l) (hb : Below w.heap.size w w') : RowO w' B v l := h.block fun g _ _ hg => hb.block g (Array.getElem?_eq_some_iff.1 hg).1
theorem RowO.base {w : World} {B B' : Nat} {v : Value} {l : List Int} (h : RowO w B v l) (hb : B' <= B) : RowO w B' v l := by
  obtain ⟨ao, c, e, h1, h2⟩ := h
  refine ⟨ao, c, e, h1, ?_⟩
  rcases h2 with h2 | ⟨g, cap, cur, e1, e2, e3⟩
  . exact .inl h2
  . exact .inr ⟨g, cap, cur, e1, Nat.le_trans hb e2, e3⟩
theorem RowO.lt {w : World} {B : Nat} {v : Value} {l : List Int} (h : RowO w B v l) {g : Nat} (hg : v.ownBlock = some g) : B <= g /\ g < w.heap.size := by
  obtain ⟨ao, c, e, h⟩ := h
  subst e
  exact own_lt h g (by rw [← ob_eq]; exact hg)
theorem RowO.isI {w : World} {B : Nat} {v : Value} {l : List Int} (h : RowO w B v l) : IsI w v l := by
  obtain ⟨ao, c, e, h⟩ := h
  rcases h.2 with ⟨hv, h0⟩ | ⟨g, cap, cur, hv, -⟩
  . exact .inl ⟨List.length_eq_zero_iff.1 h0, ao, c, by rw [e, h0]⟩
  . simp only [Value.slice.injEq] at hv
    obtain ⟨rfl, -, rfl⟩ := hv
    rw [e]
    exact IsI.of_own h
def Pw (ys : List (COp × Value)) : Prop := ys.Pairwise fun x y => ∀ g, x.2.ownBlock = some g -> y.2.ownBlock = some g -> False
theorem Pw.snoc {ys : List (COp × Value)} {y : COp × Value} (h : Pw ys) (hn : ∀ x ∈ ys, ∀ g, x.2.ownBlock = some g -> y.2.ownBlock = some g -> False) : Pw (ys ++ [y]) := by
  unfold Pw
  rw [List.pairwise_append]
  exact ⟨h, List.pairwise_singleton _ _, fun a ha b hb => by rw [List.mem_singleton] at hb; subst hb; exact hn a ha⟩
def OpsOwn (w : World) (B : Nat) (ao : Option Addr) (n c : Nat) (ops : List COp) : Prop := ∃ xs : List (COp × Value), n = xs.length /\ ops = xs.map (·.1) /\ w.ownsRow B 49 6 (.slice ao n c) n (xs.flatMap opC) /\ (∀ x ∈ xs, RowO w B x.2 x.1.qs) /\ Pw xs
theorem OpsOwn.at {w : World} {B : Nat} {ao : Option Addr} {n c : Nat} {ops : List COp} (h : OpsOwn w B ao n c ops) : OpsAt w B ao n c ops := by
  obtain ⟨xs, h1, h2, h3, h4, -⟩ := h
  exact ⟨xs, h1, h2, h3, fun x hx => (h4 x hx).isI⟩
theorem OpsOwn.kept {w w' : World} {B : Nat} {ao : Option Addr} {n c : Nat} {ops : List COp} (h : OpsOwn w B ao n c ops) (hb : ∀ g, B <= g -> g < w.heap.size -> w'.heap[g]? = w.heap[g]?) : OpsOwn w' B ao n c ops := by
  obtain ⟨xs, h1, h2, h3, h4, h5⟩ := h
  refine ⟨xs, h1, h2, own_of_block h3 (fun k hk => hb k (own_lt h3 k hk).1 (own_lt h3 k hk).2), fun x hx => ?_, h5⟩
  obtain ⟨ao, c, e, h⟩ := h4 x hx
  exact ⟨ao, c, e, own_of_block h (fun k hk => hb k (own_lt h k hk).1 (own_lt h k hk).2)⟩
theorem OpsOwn.base {w : World} {B B' : Nat} {ao : Option Addr} {n c : Nat} {ops : List COp} (h : OpsOwn w B ao n c ops) (hb : B' <= B) : OpsOwn w B' ao n c ops := by
  obtain ⟨xs, h1, h2, h3, h4, h5⟩ := h
  refine ⟨xs, h1, h2, ⟨h3.1, ?_⟩, fun x hx => (h4 x hx).base hb, h5⟩
  rcases h3.2 with h2 | ⟨g, cap, cur, e1, e2, e3⟩
  . exact .inl h2
  . exact .inr ⟨g, cap, cur, e1, Nat.le_trans hb e2, e3⟩
theorem OpsOwn.below {w w' : World} {B : Nat} {ao : Option Addr} {n c : Nat} {ops : List COp} (h : OpsOwn w B ao n c ops) (hb : Below w.heap.size w w') : OpsOwn w' B ao n c ops := h.kept fun g _ hg => hb.block g hg
theorem OpsOwn.row {w : World} {B : Nat} {ao : Option Addr} {n c : Nat} {ops : List COp} (h : OpsOwn w B ao n c ops) {g : Nat} {cs : Array Value} {t : TypeId} {fr : Nat × Nat} (hg : w.heap[g]? = some (.cells cs t fr)) (h1 : t ≠ 49) (h2 : t ≠ 3) (cs' : Array Value) : OpsOwn (w.setRow g cs') B ao n c ops := by
  obtain ⟨xs, e1, e2, e3, e4, e5⟩ := h
  refine ⟨xs, e1, e2, own_of_block e3 (fun k hk => setRow_other _ _ _ _ (fun e => ?_)), fun x hx => (e4 x hx).block (fun b cs2 fr2 hb => setRow_other _ _ _ _ (fun e => ?_)), e5⟩
  . subst e
    exact own_ne e3 hg h1 hk
  . subst e
    rw [hg] at hb
    cases hb
    exact h2 rfl
theorem sClone_noneO (a : Addr) (c : Nat) (w : World) : Calls Tryz.prog 92 #[.slice (some a) 0 c] w fun e w' => e = .returned (.slice (some ⟨w.heap.size, 0, none⟩) 0 0) /\ w'.ownsRow w.heap.size 3 1 (.slice (some ⟨w.heap.size, 0, none⟩) 0 0) 0 [] /\ Below w.heap.size w w' := by
  have heq := fun a n c w => Lib.run_eql_slice_nil (P := Tryz.prog) w a n c
  go_enter Tryz.func92, Tryz.ntmps92
  go_wp2_with fail
  go_ret
  exact ⟨rfl, ⟨rfl, .inr ⟨w.heap.size, 0, #[], rfl, Nat.le_refl _, heap_alloc_new _ _, Nat.le_refl _, by decide, rfl, rfl⟩⟩, bnew _ _⟩
theorem sCloneO (ao : Option Addr) (c : Nat) (l : List Int) (hl : l.length <= 17592186044416) (w : World) (hN : Ns w ao l) : Calls Tryz.prog 92 #[.slice ao l.length c] w fun e w' => ∃ ao' c', e = .returned (.slice ao' l.length c') /\ RowO w' w.heap.size (.slice ao' l.length c') l /\ Below w.heap.size w w' := by
  by_cases h0 : 0 < l.length
  . refine (sCloneB ao c l hl h0 w hN).mono ?_
    rintro e w' ⟨g, c', rfl, hown, hb⟩
    exact ⟨some ⟨g, 0, none⟩, c', rfl, ⟨_, _, rfl, hown⟩, hb⟩
  . obtain rfl : l = [] := List.length_eq_zero_iff.1 (by omega)
    cases ao with
    | none =>
      refine (sClone_nil c w).mono ?_
      rintro e w' ⟨rfl, hb⟩
      exact ⟨none, 0, rfl, ⟨_, _, rfl, rfl, .inl ⟨rfl, rfl⟩⟩, hb⟩
    | some a =>
      refine (sClone_noneO a c w).mono ?_
      rintro e w' ⟨rfl, hown, hb⟩
      exact ⟨some ⟨w.heap.size, 0, none⟩, 0, rfl, ⟨_, _, rfl, hown⟩, hb⟩
end Go.Proofs.YtjiopaojhenanaaGreatDoor.Cir
