import Derived.Test.YtjiopaojhenanaaGreatDoorWnbf67c049
import Derived.Test.YtjiopaojhenanaaGreatDoorWn44b23832
namespace Go.Proofs.YtjiopaojhenanaaGreatDoor.Gt
end Go.Proofs.YtjiopaojhenanaaGreatDoor.Gt
namespace Go.Proofs.YtjiopaojhenanaaGreatDoor.Oct
end Go.Proofs.YtjiopaojhenanaaGreatDoor.Oct
namespace Go.Proofs.YtjiopaojhenanaaGreatDoor.Tok
end Go.Proofs.YtjiopaojhenanaaGreatDoor.Tok
set_option maxRecDepth 100000
set_option maxHeartbeats 1000000
namespace Go.Proofs.YtjiopaojhenanaaGreatDoor.Cir
open Go.RowKit Go.Shelf Go.Proofs.YtjiopaojhenanaaGreatDoor.Oct Go.Proofs.YtjiopaojhenanaaGreatDoor.Tok Go.Proofs.YtjiopaojhenanaaGreatDoor.Gt
theorem IsI.of_own {w : World} {B g c : Nat} {l : List Int} (h : w.ownsRow B 3 1 (.slice (some ⟨g, 0, none⟩) l.length c) l.length (l.map (Value.int .i64))) : IsI w (.slice (some ⟨g, 0, none⟩) l.length c) l := by
  rcases h.2 with ⟨hv, h0⟩ | ⟨g', cap, cur, hv, hbg, hg, h1, h2, h3, h4⟩
  . cases hv
  . simp only [Value.slice.injEq, Option.some.injEq, Addr.mk.injEq] at hv
    obtain ⟨⟨rfl, -⟩, -, rfl⟩ := hv
    refine .inr ⟨g, 0, c, cur, _, rfl, h1, hg, fun j z hj => ?_⟩
    have : (l.map (Value.int .i64))[j]? = some (.int .i64 z) := by rw [List.getElem?_map, hj]; rfl
    rw [← h4, List.getElem?_take] at this
    split at this
    . rw [Nat.zero_add]; simpa using this
    . cases this
theorem sClone_nil (c : Nat) (w : World) : Calls Tryz.prog 92 #[.slice none 0 c] w fun e w' => e = .returned (.slice none 0 0) /\ Below w.heap.size w w' := by
  have heq := fun a n c w => Lib.run_eql_slice_nil (P := Tryz.prog) w a n c
  go_enter Tryz.func92, Tryz.ntmps92
  go_wp2_with fail
  go_ret
  exact ⟨rfl, Below.refl _ _⟩
theorem sCloneB (ao : Option Addr) (c : Nat) (l : List Int) (hl : l.length <= 17592186044416) (h0 : 0 < l.length) (w : World) (hN : Ns w ao l) : Calls Tryz.prog 92 #[.slice ao l.length c] w fun e w' => ∃ g c', e = .returned (.slice (some ⟨g, 0, none⟩) l.length c') /\ w'.ownsRow w.heap.size 3 1 (.slice (some ⟨g, 0, none⟩) l.length c') l.length (l.map (Value.int .i64)) /\ Below w.heap.size w w' := by
  obtain ⟨i0, hi, hz0, hz1, hz2⟩ := info_parts Gt.infoI
  have hne : l ≠ [] := fun e => by rw [e] at h0; simp at h0
  obtain ⟨g, off, rfl, hc⟩ := hN.resolve_left hne
  have heq := fun a n c w => Lib.run_eql_slice_nil (P := Tryz.prog) w a n c
  have hnews : ∀ j u, (l.map (Value.int .i64))[j]? = some u -> (w.alloc (.cells #[] 3)).cell? ((⟨g, off, none⟩ : Addr).add j) = some u := by
    intro j u hu
    rw [Addr.add_lit]
    rw [List.getElem?_map] at hu
    obtain ⟨z, hz, rfl⟩ := Option.map_eq_some_iff.1 hu
    exact ((bnew w _).cell (World.block_lt_of_cell? w _ (hc j z hz))).trans (hc j z hz)
  have hown : (w.alloc (.cells #[] 3)).ownsRow w.heap.size 3 1 (.slice (some ⟨w.heap.size, 0, none⟩) 0 0) 0 [] := ⟨rfl, .inr ⟨w.heap.size, 0, #[], rfl, Nat.le_refl _, heap_alloc_new _ _, Nat.le_refl _, by decide, rfl, rfl⟩⟩
  obtain ⟨n, hn⟩ : ∃ n, l.length = n := ⟨_, rfl⟩
  have hml : (l.map (Value.int .i64)).length = n * 1 := by rw [List.length_map]; omega
  rw [hn] at hl h0 ⊢
  generalize hL : l.map (Value.int .i64) = L at *
  have hone : ∀ u ∈ L, u.oneCell' = true := by
    intro u hu
    rw [← hL] at hu
    obtain ⟨z, _, rfl⟩ := List.mem_map.1 hu
    rfl
  clear hc hN hne hn hL
  go_enter Tryz.func92, Tryz.ntmps92
  go_wp2_with (at_builtin; refine wpList_append_lies _ rfl _ _ 47 rfl w.heap.size 3 i0 (.int .i64 0) 1 8 Tryz.underlying47 hi hz0 hz1 hz2 rfl (by decide) _ 0 [] rfl hown ⟨g, off, none⟩ n c L rfl hml hnews hone h0 (by unfold maxLen; omega) (by omega) (by simp) _ rfl ?_)
  intro g2 cap w2 hown2 hgrow hat hlt
  have hb2 : Below w.heap.size w w2 := (bnew w _).grown hgrow (by simp) (fun q hq => by simp [Value.ownBlock] at hq; omega)
  clear hgrow hat hnews hone hown
  go_wp2_with fail
  go_ret
  exact ⟨g2, cap, rfl, hown2, hb2⟩
end Go.Proofs.YtjiopaojhenanaaGreatDoor.Cir
