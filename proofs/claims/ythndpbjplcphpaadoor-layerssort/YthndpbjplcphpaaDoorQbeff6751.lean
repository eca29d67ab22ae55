import Derived.Deep.RegionHeld3
import Derived.Test.YthndpbjplcphpaaDoorQ97ce2e86
import Derived.Test.YthndpbjplcphpaaDoorQda878869
namespace Go.Proofs.YthndpbjplcphpaaDoor.Cir
open Go
section
variable {P : Program} {Q : Exit -> Act -> World -> Prop} {md : Region.Mode} {ops : Array Oper} {N : Nat}
structure Fr (md : Region.Mode) (ops : Array Oper) (N : Nat) : Prop where
  size : ops.size = N + 1
  low : ∀ i o, i < N -> ops[i]? = some o -> o.guard = none /\ ∀ e ∈ o.after, e.on < i
  last : ∃ o, ops[N]? = some o /\ ∀ e ∈ o.after, e.on < N
  cover : ∀ j, j < N -> ∃ i o, j < i /\ i <= N /\ ops[i]? = some o /\ ∃ e ∈ o.after, Region.binds md e = true /\ e.on = j
end
end Go.Proofs.YthndpbjplcphpaaDoor.Cir
namespace Go.Proofs.YthndpbjplcphpaaDoor.Cir
open Go.RowKit Go.Shelf Go.Proofs.YthndpbjplcphpaaDoor.Oct Go.Proofs.YthndpbjplcphpaaDoor.Tok Go.Proofs.YthndpbjplcphpaaDoor.Gt
def SM (R x y : Nat) (v : Value) (a0 a1 b0 b1 : Nat) (wh : Bool) (V : World) : Prop := V.cell? ⟨R, 8, none⟩ = some v /\ V.cell? ⟨x, 0, none⟩ = some (.int .i64 (a0 : Int)) /\ V.cell? ⟨x, 1, none⟩ = some (.int .i64 (a1 : Int)) /\ V.cell? ⟨x, 2, none⟩ = some (.bool wh) /\ V.cell? ⟨y, 0, none⟩ = some (.int .i64 (b0 : Int)) /\ V.cell? ⟨y, 1, none⟩ = some (.int .i64 (b1 : Int)) /\ V.cell? ⟨y, 2, none⟩ = some (.bool wh)
theorem SM.kept {R x y : Nat} {v : Value} {a0 a1 b0 b1 : Nat} {wh : Bool} {V V' : World} (h : SM R x y v a0 a1 b0 b1 wh V) (hk : ∀ b, b = R ∨ b = x ∨ b = y -> b < V.heap.size -> V'.heap[b]? = V.heap[b]?) : SM R x y v a0 a1 b0 b1 wh V' := by
  obtain ⟨h0, h1, h2, h3, h4, h5, h6⟩ := h
  have k0 := hk R (.inl rfl) (World.block_lt_of_cell? _ _ h0)
  have k1 := hk x (.inr (.inl rfl)) (World.block_lt_of_cell? _ _ h1)
  have k2 := hk y (.inr (.inr rfl)) (World.block_lt_of_cell? _ _ h4)
  exact ⟨(World.cell?_of_block (w := V) k0).trans h0, (World.cell?_of_block (w := V) k1).trans h1, (World.cell?_of_block (w := V) k1).trans h2, (World.cell?_of_block (w := V) k1).trans h3, (World.cell?_of_block (w := V) k2).trans h4, (World.cell?_of_block (w := V) k2).trans h5, (World.cell?_of_block (w := V) k2).trans h6⟩
theorem SM.alloc {R x y : Nat} {v : Value} {a0 a1 b0 b1 : Nat} {wh : Bool} {V : World} (h : SM R x y v a0 a1 b0 b1 wh V) (o : Obj) : SM R x y v a0 a1 b0 b1 wh (V.alloc o) := h.kept fun _ _ hb => Below.heap_alloc _ _ _ hb
theorem take_to {P : Program} {md : Region.Mode} {ops : Array Oper} {Q : Exit -> Act -> World -> Prop} {S : World -> Prop} {i d : Nat} {oi : Oper} {v : Value} {fuel : Nat} {listed : Array Bool} {a : Act} {w : World} (hi : ops[i]? = some oi) (hd : oi.dst = some d) (hs : Region.noSelect ops = true) (hf : Region.free md ops listed i = true) (hr : (Region.ready md ops listed).contains i = true)
    (hQ : ∀ c a w, Q (.panic c) (a.put (some d) v) w -> Q (.panic c) a w) (hy : YieldsIf P ops S oi v a) (hS : S w) (h : wpAnyH P md ops Q S fuel (listed.setIfInBounds i true) (a.put (some d) v) w) : wpAnyH P md ops Q S (fuel + 1) listed a w :=
  wpAnyH_take hi hs hf hr (by rw [hd]; exact hQ) hy hS (by rw [hd]; exact h)
end Go.Proofs.YthndpbjplcphpaaDoor.Cir
