import Derived.Test.YtmkalhaegbnknaaDoorQb7c75a7d
import Derived.Test.YtmkalhaegbnknaaDoorQ1354e6fd
namespace Go.Proofs.YtmkalhaegbnknaaDoor.Cir
open Go.RowKit Go.Shelf Go.Proofs.YtmkalhaegbnknaaDoor.Oct Go.Proofs.YtmkalhaegbnknaaDoor.Tok Go.Proofs.YtmkalhaegbnknaaDoor.Gt
theorem OpsAt.keptM {w w' : World} {B : Nat} {ao : Option Addr} {n c : Nat} {ops : List COp} {M : List Nat} (h : OpsAt w B ao n c ops) (hk : Kb M w w') (hM : ∀ m, m ∈ M -> ∀ cs t fr, w.heap[m]? = some (.cells cs t fr) -> t ≠ 41 /\ t ≠ 3) : OpsAt w' B ao n c ops := by
  obtain ⟨xs, h1, h2, h3, h4⟩ := h
  refine ⟨xs, h1, h2, own_of_block h3 (fun k hk' => hk.block k (own_lt h3 k hk').2 (fun e => ?_)), fun x hx => (h4 x hx).block fun g _ _ hg => hk.block g (Array.getElem?_eq_some_iff.1 hg).1 (fun e => (hM g e _ _ _ hg).2 rfl)⟩
  obtain ⟨cs, fr, hg⟩ := own_cells' h3 hk'
  exact (hM k e _ _ _ hg).1 rfl
theorem infoCi : (Tryd.prog.info? 24).map (·.size) = some 3 := by kernel_rfl
theorem c3_set (w : World) (g : Nat) (a b c a' b' c' : Value) (t : TypeId) (h : w.heap[g]? = some (.cells #[a, b, c] t (0, 0))) : ((w.setCell ⟨g, 0, none⟩ a').setCell ⟨g, 1, none⟩ b').setCell ⟨g, 2, none⟩ c' = w.setRow g #[a', b', c'] := by
  rw [setCell_eq_setRow w g 0 _ t _ _ h, setCell_eq_setRow _ g 1 _ t _ _ (setRow_heap w g _ _ t _ h), setRow_setRow, setCell_eq_setRow _ g 2 _ t _ _ (setRow_heap w g _ _ t _ h), setRow_setRow]
  rfl
theorem own_base {w : World} {B B' e size n : Nat} {v : Value} {xs : List Value} (h : w.ownsRow B e size v n xs) (hB : B' <= B) : w.ownsRow B' e size v n xs := by
  refine ⟨h.1, ?_⟩
  rcases h.2 with h0 | ⟨g, cap, cur, hv, hbg, r⟩
  . exact .inl h0
  . exact .inr ⟨g, cap, cur, hv, by omega, r⟩
theorem OpsAt.base {w : World} {B B' : Nat} {ao : Option Addr} {n c : Nat} {ops : List COp} (h : OpsAt w B ao n c ops) (hB : B' <= B) : OpsAt w B' ao n c ops := by
  obtain ⟨xs, h1, h2, h3, h4⟩ := h
  exact ⟨xs, h1, h2, own_base h3 hB, h4⟩
end Go.Proofs.YtmkalhaegbnknaaDoor.Cir
