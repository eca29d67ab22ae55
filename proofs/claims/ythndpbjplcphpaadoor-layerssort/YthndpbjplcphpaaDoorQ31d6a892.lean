import Derived.Test.YthndpbjplcphpaaDoorQad4a8216
import Derived.Test.YthndpbjplcphpaaDoorQ9fc67e0a
namespace Go.Proofs.YthndpbjplcphpaaDoor.Cir
open Go.RowKit Go.Shelf Go.Proofs.YthndpbjplcphpaaDoor.Oct Go.Proofs.YthndpbjplcphpaaDoor.Tok Go.Proofs.YthndpbjplcphpaaDoor.Gt
theorem infoCi : (Tryd.prog.info? 24).map (·.size) = some 3 := by kernel_rfl
theorem own_base {w : World} {B B' e size n : Nat} {v : Value} {xs : List Value} (h : w.ownsRow B e size v n xs) (hB : B' <= B) : w.ownsRow B' e size v n xs := by
  refine ⟨h.1, ?_⟩
  rcases h.2 with h0 | ⟨g, cap, cur, hv, hbg, r⟩
  . exact .inl h0
  . exact .inr ⟨g, cap, cur, hv, by omega, r⟩
theorem OpsAt.base {w : World} {B B' : Nat} {ao : Option Addr} {n c : Nat} {ops : List COp} (h : OpsAt w B ao n c ops) (hB : B' <= B) : OpsAt w B' ao n c ops := by
  obtain ⟨xs, h1, h2, h3, h4⟩ := h
  exact ⟨xs, h1, h2, own_base h3 hB, h4⟩
theorem set6_take (xs : List Value) (i : Nat) (a b c d e f : Value) (h : (i + 1) * 6 <= xs.length) : ((((((xs.set (i * 6) a).set (i * 6 + 1) b).set (i * 6 + 2) c).set (i * 6 + 3) d).set (i * 6 + 4) e).set (i * 6 + 5) f).take ((i + 1) * 6) = xs.take (i * 6) ++ [a, b, c, d, e, f] := by
  have e1 : xs = xs.take (i * 6) ++ xs.drop (i * 6) := (List.take_append_drop _ _).symm
  obtain ⟨p, hp⟩ : ∃ p, xs.take (i * 6) = p := ⟨_, rfl⟩
  obtain ⟨q, hq⟩ : ∃ q, xs.drop (i * 6) = q := ⟨_, rfl⟩
  have hpl : p.length = i * 6 := by rw [← hp, List.length_take]; omega
  have hql : 6 <= q.length := by rw [← hq, List.length_drop]; omega
  rw [hp]
  rw [hp, hq] at e1
  rw [e1, ← hpl, show (i + 1) * 6 = p.length + 6 by omega]
  match q, hql with
  | q0 :: q1 :: q2 :: q3 :: q4 :: q5 :: r, _ =>
    have hz : (p ++ a :: b :: c :: d :: e :: f :: r).take (p.length + 6) = p ++ [a, b, c, d, e, f] := by
      rw [List.take_append, List.take_of_length_le (by omega), Nat.add_sub_cancel_left]
      rfl
    rw [← hz]
    simp
theorem set_mid (p : List Value) (a b c d e f v : Value) (i : Nat) (h : p.length = i * 6) : (p ++ [a, b, c, d, e, f]).set (i * 6 + 2) v = p ++ [a, b, v, d, e, f] := by
  rw [← h]
  simp
theorem take6 (xs : List Value) (i : Nat) (h : (i + 1) * 6 <= xs.length) : ∃ a b c d e f, xs[i * 6]? = some a /\ xs[i * 6 + 1]? = some b /\ xs[i * 6 + 2]? = some c /\ xs[i * 6 + 3]? = some d /\ xs[i * 6 + 4]? = some e /\ xs[i * 6 + 5]? = some f :=
  ⟨_, _, _, _, _, _, List.getElem?_eq_getElem (by omega), List.getElem?_eq_getElem (by omega), List.getElem?_eq_getElem (by omega), List.getElem?_eq_getElem (by omega), List.getElem?_eq_getElem (by omega), List.getElem?_eq_getElem (by omega)⟩
theorem IsI.below {w w' : World} {v : Value} {l : List Int} (h : IsI w v l) (hb : Below w.heap.size w w') : IsI w' v l := h.block fun g _ _ hg => hb.block g (Array.getElem?_eq_some_iff.1 hg).1
theorem IsI.of_own {w : World} {B g c : Nat} {l : List Int} (h : w.ownsRow B 3 1 (.slice (some ⟨g, 0, none⟩) l.length c) l.length (l.map (Value.int .i64))) : IsI w (.slice (some ⟨g, 0, none⟩) l.length c) l := by
  rcases h.2 with ⟨hv, h0⟩ | ⟨g', cap, cur, hv, hbg, hg, h1, h2, h3, h4⟩
  . cases hv
  . simp only [Value.slice.injEq, Option.some.injEq, Addr.mk.injEq] at hv
    obtain ⟨⟨rfl, -⟩, -, rfl⟩ := hv
    refine .inr ⟨g, 0, c, cur, _, rfl, h1, hg, fun j z hj => ?_⟩
    have : (l.map (Value.int .i64))[j]? = some (.int .i64 z) := by rw [List.getElem?_map, hj]; rfl
    rw [← h4, List.getElem?_take] at this
    split at this
    . rw [Nat.zero_add]; simpa using this
    . cases this
theorem OpsAt.row {w : World} {B : Nat} {ao : Option Addr} {n c : Nat} {ops : List COp} (h : OpsAt w B ao n c ops) {g : Nat} {cs : Array Value} {t : TypeId} {fr : Nat × Nat} (hg : w.heap[g]? = some (.cells cs t fr)) (h1 : t ≠ 57) (h2 : t ≠ 3) (cs' : Array Value) : OpsAt (w.setRow g cs') B ao n c ops :=
  h.keptM (M := [g]) ((Kb.refl _ _).setRow _ _ (.inl (by simp))) fun m hm cs2 t2 fr2 hg2 => by
    rw [List.mem_singleton] at hm
    rw [hm, hg] at hg2
    simp only [Option.some.injEq, Obj.cells.injEq] at hg2
    rw [← hg2.2.1]
    exact ⟨h1, h2⟩
end Go.Proofs.YthndpbjplcphpaaDoor.Cir
