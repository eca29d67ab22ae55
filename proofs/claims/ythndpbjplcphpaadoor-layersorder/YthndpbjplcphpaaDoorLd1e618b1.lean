import Derived.Test.YthndpbjplcphpaaDoorL03c0f94f
namespace Go.Proofs.YthndpbjplcphpaaDoor.Gt
open Go
section
variable {P : Program} {C : World -> Prop} {Q : Exit -> Act -> World -> Prop} {md : Region.Mode} {ops : Array Oper} {N : Nat}
structure Front2 (md : Region.Mode) (ops : Array Oper) (N : Nat) : Prop where
  size : ops.size = N + 2
  low : ∀ i o, i < N -> ops[i]? = some o -> o.guard = none /\ ∀ e ∈ o.after, e.on < i
  last : ∃ o, ops[N]? = some o /\ ∀ e ∈ o.after, e.on < N
  fin : ∃ o, ops[N + 1]? = some o /\ (∀ e ∈ o.after, e.on < N + 1) /\ ∃ e ∈ o.after, Region.binds md e = true /\ e.on = N
  cover : ∀ j, j < N -> ∃ i o, j < i /\ i <= N /\ ops[i]? = some o /\ ∃ e ∈ o.after, Region.binds md e = true /\ e.on = j
end
end Go.Proofs.YthndpbjplcphpaaDoor.Gt
