import Derived.Test.YtmkalhaegbnknaaDoorQ4dd7e08f
import Derived.Test.YtmkalhaegbnknaaDoorQ37c86901
set_option maxRecDepth 100000
set_option maxHeartbeats 1000000
namespace Go.Proofs.YtmkalhaegbnknaaDoor.Cir
open Go.RowKit Go.Shelf Go.Proofs.YtmkalhaegbnknaaDoor.Oct Go.Proofs.YtmkalhaegbnknaaDoor.Tok Go.Proofs.YtmkalhaegbnknaaDoor.Gt
theorem set6_take (xs : List Value) (i : Nat) (a b c d e f : Value) (h : (i + 1) * 6 <= xs.length) : ((((((xs.set (i * 6) a).set (i * 6 + 1) b).set (i * 6 + 2) c).set (i * 6 + 3) d).set (i * 6 + 4) e).set (i * 6 + 5) f).take ((i + 1) * 6) = xs.take (i * 6) ++ [a, b, c, d, e, f] := by
  have e1 : xs = xs.take (i * 6) ++ xs.drop (i * 6) := (List.take_append_drop _ _).symm
  obtain ⟨p, hp⟩ : ∃ p, xs.take (i * 6) = p := ⟨_, rfl⟩
  obtain ⟨q, hq⟩ : ∃ q, xs.drop (i * 6) = q := ⟨_, rfl⟩
  have hpl : p.length = i * 6 := by rw [← hp, List.length_take]; omega
  have hql : 6 <= q.length := by rw [← hq, List.length_drop]; omega
  rw [hp]
  rw [hp, hq] at e1
  rw [e1, ← hpl, show (i + 1) * 6 = p.length + 6 by omega]
  match q, hql with
  | q0 :: q1 :: q2 :: q3 :: q4 :: q5 :: r, _ =>
    have hz : (p ++ a :: b :: c :: d :: e :: f :: r).take (p.length + 6) = p ++ [a, b, c, d, e, f] := by
      rw [List.take_append, List.take_of_length_le (by omega), Nat.add_sub_cancel_left]
      rfl
    rw [← hz]
    simp
theorem set_mid (p : List Value) (a b c d e f v : Value) (i : Nat) (h : p.length = i * 6) : (p ++ [a, b, c, d, e, f]).set (i * 6 + 2) v = p ++ [a, b, v, d, e, f] := by
  rw [← h]
  simp
theorem take6 (xs : List Value) (i : Nat) (h : (i + 1) * 6 <= xs.length) : ∃ a b c d e f, xs[i * 6]? = some a /\ xs[i * 6 + 1]? = some b /\ xs[i * 6 + 2]? = some c /\ xs[i * 6 + 3]? = some d /\ xs[i * 6 + 4]? = some e /\ xs[i * 6 + 5]? = some f :=
  ⟨_, _, _, _, _, _, List.getElem?_eq_getElem (by omega), List.getElem?_eq_getElem (by omega), List.getElem?_eq_getElem (by omega), List.getElem?_eq_getElem (by omega), List.getElem?_eq_getElem (by omega), List.getElem?_eq_getElem (by omega)⟩
theorem IsI.below {w w' : World} {v : Value} {l : List Int} (h : IsI w v l) (hb : Below w.heap.size w w') : IsI w' v l := h.block fun g _ _ hg => hb.block g (Array.getElem?_eq_some_iff.1 hg).1
theorem IsI.of_own {w : World} {B g c : Nat} {l : List Int} (h : w.ownsRow B 3 1 (.slice (some ⟨g, 0, none⟩) l.length c) l.length (l.map (Value.int .i64))) : IsI w (.slice (some ⟨g, 0, none⟩) l.length c) l := by
  rcases h.2 with ⟨hv, h0⟩ | ⟨g', cap, cur, hv, hbg, hg, h1, h2, h3, h4⟩
  . cases hv
  . simp only [Value.slice.injEq, Option.some.injEq, Addr.mk.injEq] at hv
    obtain ⟨⟨rfl, -⟩, -, rfl⟩ := hv
    refine .inr ⟨g, 0, c, cur, _, rfl, h1, hg, fun j z hj => ?_⟩
    have : (l.map (Value.int .i64))[j]? = some (.int .i64 z) := by rw [List.getElem?_map, hj]; rfl
    rw [← h4, List.getElem?_take] at this
    split at this
    . rw [Nat.zero_add]; simpa using this
    . cases this
theorem sClone_nil (c : Nat) (w : World) : Calls Tryd.prog 56 #[.slice none 0 c] w fun e w' => e = .returned (.slice none 0 0) /\ Below w.heap.size w w' := by
  have heq := fun a n c w => Lib.run_eql_slice_nil (P := Tryd.prog) w a n c
  go_enter Tryd.func56, Tryd.ntmps56
  go_wp2_with fail
  go_ret
  exact ⟨rfl, Below.refl _ _⟩
theorem sCloneB (ao : Option Addr) (c : Nat) (l : List Int) (hl : l.length <= 17592186044416) (h0 : 0 < l.length) (w : World) (hN : Ns w ao l) : Calls Tryd.prog 56 #[.slice ao l.length c] w fun e w' => ∃ g c', e = .returned (.slice (some ⟨g, 0, none⟩) l.length c') /\ w'.ownsRow w.heap.size 3 1 (.slice (some ⟨g, 0, none⟩) l.length c') l.length (l.map (Value.int .i64)) /\ Below w.heap.size w w' := by
  obtain ⟨i0, hi, hz0, hz1, hz2⟩ := info_parts Gt.infoI
  have hne : l ≠ [] := fun e => by rw [e] at h0; simp at h0
  obtain ⟨g, off, rfl, hc⟩ := hN.resolve_left hne
  have heq := fun a n c w => Lib.run_eql_slice_nil (P := Tryd.prog) w a n c
  have hnews : ∀ j u, (l.map (Value.int .i64))[j]? = some u -> (w.alloc (.cells #[] 3)).cell? ((⟨g, off, none⟩ : Addr).add j) = some u := by
    intro j u hu
    rw [Addr.add_lit]
    rw [List.getElem?_map] at hu
    obtain ⟨z, hz, rfl⟩ := Option.map_eq_some_iff.1 hu
    exact ((bnew w _).cell (World.block_lt_of_cell? w _ (hc j z hz))).trans (hc j z hz)
  have hown : (w.alloc (.cells #[] 3)).ownsRow w.heap.size 3 1 (.slice (some ⟨w.heap.size, 0, none⟩) 0 0) 0 [] := ⟨rfl, .inr ⟨w.heap.size, 0, #[], rfl, Nat.le_refl _, heap_alloc_new _ _, Nat.le_refl _, by decide, rfl, rfl⟩⟩
  obtain ⟨n, hn⟩ : ∃ n, l.length = n := ⟨_, rfl⟩
  have hml : (l.map (Value.int .i64)).length = n * 1 := by rw [List.length_map]; omega
  rw [hn] at hl h0 ⊢
  generalize hL : l.map (Value.int .i64) = L at *
  have hone : ∀ u ∈ L, u.oneCell' = true := by
    intro u hu
    rw [← hL] at hu
    obtain ⟨z, _, rfl⟩ := List.mem_map.1 hu
    rfl
  clear hc hN hne hn hL
  go_enter Tryd.func56, Tryd.ntmps56
  go_wp2_with (at_builtin; refine wpList_append_lies _ rfl _ _ 39 rfl w.heap.size 3 i0 (.int .i64 0) 1 8 Tryd.underlying39 hi hz0 hz1 hz2 rfl (by decide) _ 0 [] rfl hown ⟨g, off, none⟩ n c L rfl hml hnews hone h0 (by unfold maxLen; omega) (by omega) (by simp) _ rfl ?_)
  intro g2 cap w2 hown2 hgrow hat hlt
  have hb2 : Below w.heap.size w w2 := (bnew w _).grown hgrow (by simp) (fun q hq => by simp [Value.ownBlock] at hq; omega)
  clear hgrow hat hnews hone hown
  go_wp2_with fail
  go_ret
  exact ⟨g2, cap, rfl, hown2, hb2⟩
theorem OpsAt.row {w : World} {B : Nat} {ao : Option Addr} {n c : Nat} {ops : List COp} (h : OpsAt w B ao n c ops) {g : Nat} {cs : Array Value} {t : TypeId} {fr : Nat × Nat} (hg : w.heap[g]? = some (.cells cs t fr)) (h1 : t ≠ 41) (h2 : t ≠ 3) (cs' : Array Value) : OpsAt (w.setRow g cs') B ao n c ops :=
  h.keptM (M := [g]) ((Kb.refl _ _).setRow _ _ (.inl (by simp))) fun m hm cs2 t2 fr2 hg2 => by
    rw [List.mem_singleton] at hm
    rw [hm, hg] at hg2
    simp only [Option.some.injEq, Obj.cells.injEq] at hg2
    rw [← hg2.2.1]
    exact ⟨h1, h2⟩
end Go.Proofs.YtmkalhaegbnknaaDoor.Cir
