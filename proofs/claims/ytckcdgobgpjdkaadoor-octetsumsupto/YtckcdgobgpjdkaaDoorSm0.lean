/- What OctetSums gathers: plain facts on worlds; the sum of no parts. -/
import Derived.Test.YtckcdgobgpjdkaaDoorOwn
import Derived.Test.YtckcdgobgpjdkaaDoorHd
namespace Go.Proofs.YtckcdgobgpjdkaaDoor.Oct
open Go.RowKit

theorem info24 : (Tryd.prog.info? 24).map (fun i => (i.zero, i.size, i.bytes)) = some (some (.slice none 0 0), 1, 24) := by kernel_rfl
/-- Parts as they lie in memory. -/
def Pts (w : World) (ao : Option Addr) (ps : List (List UInt8)) : Prop := ∀ i p, ps[i]? = some p → ∃ g off, ao = some ⟨g, off, none⟩ ∧ ∃ ai ci, w.cell? ⟨g, off + i, none⟩ = some (.slice ai p.length ci) ∧ Bs w ai p

structure Gat (w0 w : World) (bo : Option Addr) (bc : Nat) (all : List UInt8) (lo : Option Addr) (lc : Nat) (vs : List Value) (ps : List (List UInt8)) : Prop where
  row : w.ownsRow w0.heap.size 5 1 (.slice bo all.length bc) all.length (bv all)
  lst : w.ownsRow w0.heap.size 24 1 (.slice lo vs.length lc) vs.length vs
  len : vs.length = ps.length
  cps : ∀ (i : Nat) (p : List UInt8), ps[i]? = some p → ∃ (ao : Option Addr) (c : Nat), vs[i]? = some (Value.slice ao p.length c) ∧ Bs w ao p ∧ (p = [] ∨ (ob ao ≠ ob bo ∧ ob ao ≠ ob lo))
  dis : ob bo = none ∨ ob bo ≠ ob lo
  bel : Below w0.heap.size w0 w

theorem Bs.blk {w : World} {ao : Option Addr} {l : List UInt8} (h : Bs w ao l) (h0 : l ≠ []) : ∃ k, ob ao = some k ∧ k < w.heap.size := by
  cases l with
  | nil => exact absurd rfl h0
  | cons b r =>
    obtain ⟨g, off, rfl, hc⟩ := h 0 b rfl
    exact ⟨g, rfl, World.block_lt_of_cell? w _ hc⟩
/-- The first append: onto all. -/
theorem Gat.first {w0 w w1 : World} {bo bo1 : Option Addr} {bc bc1 : Nat} {all p : List UInt8} {lo : Option Addr} {lc : Nat} {vs : List Value} {ps : List (List UInt8)} (h : Gat w0 w bo bc all lo lc vs ps)
    (hown : w1.ownsRow w0.heap.size 5 1 (.slice bo1 (all.length + p.length) bc1) (all.length + p.length) (bv (all ++ p))) (hg : w.grownBy w1 (ob bo)) (hat : ob bo1 = ob bo ∨ ob bo1 = some w.heap.size) :
    Gat w0 w1 bo1 bc1 (all ++ p) lo lc vs ps := by
  have hlo : ∀ k, ob lo = some k → k < w.heap.size := fun k hk => (h.lst.lt k (by rw [ob_eq]; exact hk)).2
  refine ⟨by rw [List.length_append]; exact hown, ownsRow_of_block h.lst (fun k hk => hg.block k (hlo k hk) (fun e => ?_)), h.len, fun i q hq => ?_, ?_, h.bel.grown hg h.bel.size (fun k hk => (h.row.lt k (by rw [ob_eq]; exact hk)).1)⟩
  · rcases h.dis with e0 | e0
    · rw [e0] at e; cases e
    · exact e0 (by rw [← e, hk])
  · obtain ⟨ao, c, hv, hb, hd⟩ := h.cps i q hq
    rcases hd with rfl | ⟨hd1, hd2⟩
    · exact ⟨ao, c, hv, fun j b hj => by simp at hj, .inl rfl⟩
    · by_cases hq0 : q = []
      · subst hq0; exact ⟨ao, c, hv, fun j b hj => by simp at hj, .inl rfl⟩
      · obtain ⟨k, hk, hlt⟩ := hb.blk hq0
        refine ⟨ao, c, hv, hb.grown hg (.inl hd1), .inr ⟨?_, hd2⟩⟩
        rcases hat with e | e
        · rw [e]; exact hd1
        · rw [e, hk]; intro e'; cases e'; omega
  · rcases hat with e | e
    · rw [e]; exact h.dis
    · right
      rw [e]
      intro e'
      have := hlo _ e'.symm
      omega
theorem Gat.below {w0 w w' : World} {bo : Option Addr} {bc : Nat} {all : List UInt8} {lo : Option Addr} {lc : Nat} {vs : List Value} {ps : List (List UInt8)} (h : Gat w0 w bo bc all lo lc vs ps) (hb : Below w.heap.size w w') : Gat w0 w' bo bc all lo lc vs ps :=
  ⟨ownsRow_of_block h.row (fun k hk => hb.block k (h.row.lt k (by rw [ob_eq]; exact hk)).2), ownsRow_of_block h.lst (fun k hk => hb.block k (h.lst.lt k (by rw [ob_eq]; exact hk)).2), h.len, fun i p hp => by
    obtain ⟨ao, c, hv, hbs, hd⟩ := h.cps i p hp
    exact ⟨ao, c, hv, hbs.below hb, hd⟩, h.dis, h.bel.trans (hb.mono h.bel.size)⟩
/-- The second: onto the list of copies. -/
theorem Gat.second {w0 w w1 w3 w4 : World} {bo : Option Addr} {bc : Nat} {all : List UInt8} {lo : Option Addr} {lc : Nat} {vs : List Value} {ps : List (List UInt8)} {ac : Option Addr} {cc g cap : Nat} {p : List UInt8} (h : Gat w0 w1 bo bc all lo lc vs ps)
    (hf : Fresh 5 w1 w ac cc p) (h3 : Below w.heap.size w w3)
    (hown : w4.ownsRow w0.heap.size 24 1 (.slice (some ⟨g, 0, none⟩) (vs.length + 1) cap) (vs.length + 1) (vs ++ [.slice ac p.length cc])) (hg : w3.grownBy w4 (ob lo)) (hat : ob lo = some g ∨ w3.heap.size ≤ g) :
    Gat w0 w4 bo bc all (some ⟨g, 0, none⟩) cap (vs ++ [.slice ac p.length cc]) (ps ++ [p]) := by
  have h2 := (h.below hf.below).below h3
  have hrow : ∀ k, ob bo = some k → k < w3.heap.size := fun k hk => (h2.row.lt k (by rw [ob_eq]; exact hk)).2
  have hne : ∀ k, k < w3.heap.size → some k ≠ ob lo → k ≠ g := fun k hk hn e => by
    rcases hat with e1 | e1
    · exact hn (by rw [e1, e])
    · omega
  refine ⟨ownsRow_of_block h2.row (fun k hk => hg.block k (hrow k hk) (fun e => ?_)), by simpa using hown, by simp [h.len], fun i q hq => ?_, ?_, h2.bel.grown hg h2.bel.size (fun k hk => (h2.lst.lt k (by rw [ob_eq]; exact hk)).1)⟩
  · rcases h.dis with e0 | e0
    · rw [e0] at hk; cases hk
    · exact e0 (by rw [hk, e])
  · have key : ∀ ao, Bs w3 ao q → (q = [] ∨ (ob ao ≠ ob bo ∧ ob ao ≠ ob lo)) → Bs w4 ao q ∧ (q = [] ∨ (ob ao ≠ ob bo ∧ ob ao ≠ ob (some ⟨g, 0, none⟩))) := fun ao hb hd => by
      by_cases hq0 : q = []
      · subst hq0; exact ⟨fun j b hj => by simp at hj, .inl rfl⟩
      · rcases hd with e | ⟨hd1, hd2⟩
        · exact absurd e hq0
        · obtain ⟨k, hk, hlt⟩ := hb.blk hq0
          refine ⟨hb.grown hg (.inl hd2), .inr ⟨hd1, ?_⟩⟩
          rw [hk]
          intro e
          simp only [ob, Option.map_some, Option.some.injEq] at e
          exact hne k hlt (by rw [← hk]; exact hd2) e
    by_cases hi : i < ps.length
    · rw [List.getElem?_append_left hi] at hq
      obtain ⟨ao, c, hv, hb, hd⟩ := h2.cps i q hq
      obtain ⟨k1, k2⟩ := key ao hb hd
      exact ⟨ao, c, by rw [List.getElem?_append_left (by rw [h.len]; exact hi)]; exact hv, k1, k2⟩
    · have hi2 : i = ps.length := by
        have := (List.getElem?_eq_some_iff.1 hq).1
        simp at this
        omega
      subst hi2
      rw [List.getElem?_append_right (Nat.le_refl _)] at hq
      simp at hq
      subst hq
      obtain ⟨k1, k2⟩ := key ac ((hf.bs).below h3) (by
        by_cases hq0 : p = []
        · exact .inl hq0
        · right
          have hn : ∀ k, ob ac = some k → w1.heap.size ≤ k := fun k hk => (hf.own.lt k (by rw [ob_eq]; exact hk)).1
          obtain ⟨k, hk, _⟩ := hf.bs.blk hq0
          have hkn := hn k hk
          refine ⟨fun e => ?_, fun e => ?_⟩
          · have := (h.row.lt k (by rw [ob_eq, ← e]; exact hk)).2; omega
          · have := (h.lst.lt k (by rw [ob_eq, ← e]; exact hk)).2; omega)
      exact ⟨ac, cc, by rw [List.getElem?_append_right (by rw [h.len]; exact Nat.le_refl _), h.len]; simp, k1, k2⟩
  · rcases h.dis with e | e
    · exact .inl e
    · cases hbo : ob bo with
      | none => exact .inl rfl
      | some k =>
        right
        intro e2
        simp only [ob, Option.map_some, Option.some.injEq] at e2
        exact hne k (hrow k hbo) (by rw [← hbo]; exact e) e2

theorem Sum_none (ao : Option Addr) (c : Nat) (w : World) : Calls Tryd.prog 31 #[.slice ao 0 c] w fun e w' => e = .returned (.int .u32 (crc [] : Int)) ∧ w' = w := by
  have e0 : crc [] = 0 := by decide +kernel
  have hx : bits .xor .u32 IntKind.u32.max 4294967295 = 0 := by decide +kernel
  rw [e0]
  go_enter Tryd.func31, Tryd.ntmps31
  go_wp2
  refine wp_loop_rounds 1 ?_
  rw [rounds_succ]
  go_wp2
  go_ret
  exact ⟨rfl, rfl⟩
theorem Bs.g2 {w w' : World} {ao : Option Addr} {l : List UInt8} {ga gb : Nat} (h : Bs w ao l) (hg : G2 ga gb w w') (hne : l = [] ∨ (ob ao ≠ some ga ∧ ob ao ≠ some gb)) : Bs w' ao l := fun j b hj => by
  obtain ⟨g, off, rfl, hc⟩ := h j b hj
  rcases hne with rfl | ⟨h1, h2⟩
  · simp at hj
  · refine ⟨g, off, rfl, ?_⟩
    rw [World.cell?_of_block (hg.block g (World.block_lt_of_cell? w _ hc) (fun e => h1 (by rw [← e]; rfl)) (fun e => h2 (by rw [← e]; rfl)))]
    exact hc
theorem own_cap {w : World} {B g n c : Nat} {e : TypeId} {xs : List Value} (h : w.ownsRow B e 1 (.slice (some ⟨g, 0, none⟩) n c) n xs) : c ≤ 9223372036854775807 := by
  rcases h.2 with ⟨hv, _⟩ | ⟨_, _, _, hv, _, _, _, q, _⟩
  · cases hv
  · simp only [Value.slice.injEq] at hv
    unfold maxLen at q
    omega
end Go.Proofs.YtckcdgobgpjdkaaDoor.Oct
