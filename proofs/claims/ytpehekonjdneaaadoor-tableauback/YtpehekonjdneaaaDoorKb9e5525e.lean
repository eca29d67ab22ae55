import Derived.Test.YtpehekonjdneaaaDoorK11f867fe
namespace Go.Proofs.YtpehekonjdneaaaDoor.Pau
open Go.RowKit Go.Shelf Go.Proofs.YtpehekonjdneaaaDoor.Gt
theorem mtb1 : ∀ k : Fin 11, 1 <= k.1 -> ∀ a b a' b' : Fin 2, mulP (s1 k.1 a.1 b.1) (s1 k.1 a'.1 b'.1) = sh (s1 k.1 ((a.1 + a'.1) % 2) ((b.1 + b'.1) % 2)) (mulPh ⟨1, a.1, b.1, 0⟩ ⟨1, a'.1, b'.1, 0⟩) := by decide +kernel
theorem iv_tab : ∀ k : Fin 18, 1 <= k.1 -> 1 <= iv k.1 /\ iv k.1 < 18 /\ ar (iv k.1) = ar k.1 /\ (tab.getD k.1 r0).v = (iv k.1 : Int) := by decide +kernel
theorem inv1 : ∀ k : Fin 11, 1 <= k.1 -> ∀ a b : Fin 2, sh (s1 (iv k.1) (bt (s1 k.1 a.1 b.1).x 0) (bt (s1 k.1 a.1 b.1).z 0)) (s1 k.1 a.1 b.1).ph = ⟨1, a.1, b.1, 0⟩ := by decide +kernel
theorem inv2 : ∀ k : Fin 18, 11 <= k.1 -> ∀ a b c d : Fin 2, sh (s2 (iv k.1) (bt (s2 k.1 a.1 b.1 c.1 d.1).x 0) (bt (s2 k.1 a.1 b.1 c.1 d.1).z 0) (bt (s2 k.1 a.1 b.1 c.1 d.1).x 1) (bt (s2 k.1 a.1 b.1 c.1 d.1).z 1)) (s2 k.1 a.1 b.1 c.1 d.1).ph = ⟨2, a.1 + 2 * c.1, b.1 + 2 * d.1, 0⟩ := by decide +kernel
end Go.Proofs.YtpehekonjdneaaaDoor.Pau
