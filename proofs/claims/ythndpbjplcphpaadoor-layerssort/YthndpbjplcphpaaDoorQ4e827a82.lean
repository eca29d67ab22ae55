import Derived.Test.YthndpbjplcphpaaDoorQ6b502a3b
import Derived.Test.YthndpbjplcphpaaDoorQ1f39317f
import Derived.Shelf.RegionOpenPlain
namespace Go.Proofs.YthndpbjplcphpaaDoor.Tok
open Go.RowKit Go.Lib Go.Shelf Go.Proofs.YthndpbjplcphpaaDoor.Oct
theorem below_new (w : World) (o : Obj) : Below w.heap.size w (w.alloc o) := (Below.refl _ _).alloc (Nat.le_refl _) _
end Go.Proofs.YthndpbjplcphpaaDoor.Tok
