import Derived.Test.YtpehekonjdneaaaDoorK11f867fe
namespace Go.Proofs.YtpehekonjdneaaaDoor.Pau
open Go.RowKit Go.Shelf Go.Proofs.YtpehekonjdneaaaDoor.Gt
theorem mtb2 : ∀ k : Fin 18, 11 <= k.1 -> ∀ a b c d a' b' c' d' : Fin 2, mulP (s2 k.1 a.1 b.1 c.1 d.1) (s2 k.1 a'.1 b'.1 c'.1 d'.1) = sh (s2 k.1 ((a.1 + a'.1) % 2) ((b.1 + b'.1) % 2) ((c.1 + c'.1) % 2) ((d.1 + d'.1) % 2)) (mulPh ⟨2, a.1 + 2 * c.1, b.1 + 2 * d.1, 0⟩ ⟨2, a'.1 + 2 * c'.1, b'.1 + 2 * d'.1, 0⟩) := by decide +kernel
end Go.Proofs.YtpehekonjdneaaaDoor.Pau
