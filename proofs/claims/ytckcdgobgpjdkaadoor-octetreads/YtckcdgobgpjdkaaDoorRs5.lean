/- Both Readers, at whatever is left. -/
import Derived.Test.YtckcdgobgpjdkaaDoorRs4
namespace Go.Proofs.YtckcdgobgpjdkaaDoor.Oct
open Go.RowKit
open Go.Lib (validD)

def rnumV (n : Nat) (r : List UInt8) : Nat := if n ≤ r.length then num (r.take n) else 0
def rnumE (n : Nat) (r : List UInt8) : Int := if n ≤ r.length then 0 else 10
def rnumK (n : Nat) (r : List UInt8) : Nat := if n ≤ r.length then n else 0
def rtxE (r : List UInt8) : Int := if r.length < 2 then 10 else if 4096 < num (r.take 2) then 12 else if r.length < 2 + num (r.take 2) then 10 else if validD ((r.drop 2).take (num (r.take 2))) then 0 else 14
def rtxS (r : List UInt8) : List UInt8 := if rtxE r = 0 then (r.drop 2).take (num (r.take 2)) else []
def rtxK (r : List UInt8) : Nat := if rtxE r = 0 then 2 + num (r.take 2) else 0
theorem rnumV_lt (n : Nat) (r : List UInt8) : rnumV n r < 256 ^ n := by
  unfold rnumV
  split
  · rename_i h
    have := num_lt (r.take n)
    rw [List.length_take, Nat.min_eq_left h] at this
    exact this
  · exact Nat.pow_pos (by decide)
/-- A Reader at (pb, 0) with r left, in memory apart from qb. -/
def RdX (w : World) (pb qb : Nat) (r : List UInt8) : Prop :=
  (∃ g off c, Rd w pb 0 g off c r ∧ c ≤ 9223372036854775807 ∧ g ≠ qb) ∨ (r = [] ∧ ∃ ao c, w.cell? ⟨pb, 0, none⟩ = some (.slice ao 0 c) ∧ w.cell? ⟨pb, 1, none⟩ = some (.bool true))
theorem RdX.cells {w : World} {pb qb : Nat} {r : List UInt8} (h : RdX w pb qb r) : ∃ ao c, w.cell? ⟨pb, 0, none⟩ = some (.slice ao r.length c) ∧ w.cell? ⟨pb, 1, none⟩ = some (.bool true) := by
  rcases h with ⟨g, off, c, h, _, _⟩ | ⟨rfl, ao, c, h1, h2⟩
  · exact ⟨_, _, h.rest, h.made⟩
  · exact ⟨ao, c, h1, h2⟩
theorem RdX.grown {w w' : World} {pb qb : Nat} {r : List UInt8} (h : RdX w pb qb r) (hg : w.grownBy w' (some qb)) (hne : pb ≠ qb) : RdX w' pb qb r := by
  have hbl : ∀ k, k < w.heap.size → k ≠ qb → w'.heap[k]? = w.heap[k]? := fun k hk hn => hg.block k hk (fun e => hn (Option.some.inj e))
  rcases h with ⟨g, off, c, h, hc, hgq⟩ | ⟨rfl, ao, c, h1, h2⟩
  · have hp := hbl pb (World.block_lt_of_cell? w ⟨pb, 0, none⟩ h.rest) hne
    refine .inl ⟨g, off, c, ⟨(World.cell?_of_block hp).trans h.rest, (World.cell?_of_block (a := ⟨pb, 1, none⟩) hp).trans h.made, (World.frozen?_of_block (a := ⟨pb, 0, none⟩) hp).trans h.fr0, (World.frozen?_of_block (a := ⟨pb, 1, none⟩) hp).trans h.fr1, h.le, fun j b hj => ?_, h.apart⟩, hc, hgq⟩
    have hd := h.data j b hj
    exact (World.cell?_of_block (a := ⟨g, off + j, none⟩) (hbl g (World.block_lt_of_cell? w ⟨g, off + j, none⟩ hd) hgq)).trans hd
  · have hp := hbl pb (World.block_lt_of_cell? w ⟨pb, 0, none⟩ h1) hne
    exact .inr ⟨rfl, ao, c, (World.cell?_of_block (a := ⟨pb, 0, none⟩) hp).trans h1, (World.cell?_of_block (a := ⟨pb, 1, none⟩) hp).trans h2⟩
theorem RdX.below {w w' : World} {pb qb : Nat} {r : List UInt8} (h : RdX w pb qb r) (hb : Below w.heap.size w w') : RdX w' pb qb r := by
  rcases h with ⟨g, off, c, h, hc, hgq⟩ | ⟨rfl, ao, c, h1, h2⟩
  · exact .inl ⟨g, off, c, h.below hb, hc, hgq⟩
  · have hp := World.block_lt_of_cell? w ⟨pb, 0, none⟩ h1
    exact .inr ⟨rfl, ao, c, (hb.cell (p := ⟨pb, 0, none⟩) hp).trans h1, (hb.cell (p := ⟨pb, 1, none⟩) hp).trans h2⟩
theorem RR.grown {w w' : World} {pb qb a : Nat} {bo : Option Addr} {bc : Nat} {l : List UInt8} (h : RR w qb a bo bc l) (hg : w.grownBy w' (some pb)) (hne : pb ≠ qb) (hbo : ob bo ≠ some pb) : RR w' qb a bo bc l := by
  have hp : w'.heap[qb]? = w.heap[qb]? := hg.block qb (World.block_lt_of_cell? w ⟨qb, 0, none⟩ h.b) (fun e => hne (Option.some.inj e).symm)
  exact ⟨(World.cell?_of_block (a := ⟨qb, 0, none⟩) hp).trans h.b, (World.cell?_of_block (a := ⟨qb, 1, none⟩) hp).trans h.at_, (World.frozen?_of_block (a := ⟨qb, 1, none⟩) hp).trans h.fr, h.bs.grown hg (.inl hbo), h.apart, h.ale, h.len, h.cap⟩
theorem numX (pb qb n : Nat) (r : List UInt8) (w : World) (h : RdX w pb qb r) (h1 : 1 ≤ n) (h8 : n ≤ 8) :
    Calls Tryd.prog 66 #[.pointer (some ⟨pb, 0, none⟩), .int .i64 (n : Int)] w fun e w' => e = .returned (.tuple #[.int .u64 (rnumV n r : Int), .int .i64 (rnumE n r)]) ∧ RdX w' pb qb (r.drop (rnumK n r)) ∧ w.grownBy w' (some pb) := by
  by_cases hn : n ≤ r.length
  · rw [rnumV, rnumE, rnumK, if_pos hn, if_pos hn, if_pos hn]
    rcases h with ⟨g, off, c, h, hc, hgq⟩ | ⟨rfl, _⟩
    · refine (number_grown pb 0 g off c n r w h hn h8 hc).mono ?_
      rintro e w' ⟨rfl, ⟨off', hr⟩, hg, _⟩
      exact ⟨rfl, .inl ⟨g, off', _, hr, by omega, hgq⟩, hg⟩
    · simp at hn; omega
  · rw [rnumV, rnumE, rnumK, if_neg hn, if_neg hn, if_neg hn, List.drop_zero]
    obtain ⟨ao, c, c0, c1⟩ := h.cells
    refine (number_short pb 0 _ c n ao w c0 c1 (by omega)).mono ?_
    rintro e w' ⟨rfl, rfl⟩
    exact ⟨rfl, h, grown_of_below (Below.refl _ _) _⟩
theorem refNumX (qb a n : Nat) (bo : Option Addr) (bc : Nat) (l : List UInt8) (w : World) (h : RR w qb a bo bc l) (h8 : n ≤ 8) :
    Calls Tryd.prog 51 #[.pointer (some ⟨qb, 0, none⟩), .int .i64 (n : Int)] w fun e w' => e = .returned (.tuple #[.int .u64 (rnumV n (l.drop a) : Int), .int .i64 (rnumE n (l.drop a))]) ∧ RR w' qb (a + rnumK n (l.drop a)) bo bc l ∧ w.grownBy w' (some qb) := by
  by_cases hn : n ≤ (l.drop a).length
  · rw [rnumV, rnumE, rnumK, if_pos hn, if_pos hn, if_pos hn]
    exact refNum_ok qb a n bo bc l w h hn h8
  · rw [rnumV, rnumE, rnumK, if_neg hn, if_neg hn, if_neg hn]
    refine (refNum_short qb a n bo bc l w h (by omega)).mono ?_
    rintro e w' ⟨rfl, q, rfl⟩
    exact ⟨rfl, h.drew q, grown_of_below (below_drewN (Below.refl _ _) _) _⟩
theorem textX (pb qb : Nat) (r : List UInt8) (w : World) (h : RdX w pb qb r) (hT : Tabs w) (hV : VAll) :
    Calls Tryd.prog 48 #[.pointer (some ⟨pb, 0, none⟩)] w fun e w' => e = .returned (.tuple #[.string ⟨(rtxS r).toArray⟩, .int .i64 (rtxE r)]) ∧ RdX w' pb qb (r.drop (rtxK r)) ∧ w.grownBy w' (some pb) := by
  have bad : ∀ x : Int, x ≠ 0 → rtxE r = x → (Calls Tryd.prog 48 #[.pointer (some ⟨pb, 0, none⟩)] w fun e w' => e = .returned (.tuple #[.string ⟨#[]⟩, .int .i64 x]) ∧ Below w.heap.size w w') →
      Calls Tryd.prog 48 #[.pointer (some ⟨pb, 0, none⟩)] w fun e w' => e = .returned (.tuple #[.string ⟨(rtxS r).toArray⟩, .int .i64 (rtxE r)]) ∧ RdX w' pb qb (r.drop (rtxK r)) ∧ w.grownBy w' (some pb) := fun x hx he hc => by
    rw [rtxS, rtxK, he, if_neg hx, if_neg hx, List.drop_zero]
    refine hc.mono ?_
    rintro e w' ⟨rfl, hb⟩
    exact ⟨rfl, h.below hb, grown_of_below hb _⟩
  by_cases h2 : r.length < 2
  · obtain ⟨ao, c, c0, c1⟩ := h.cells
    exact bad 10 (by decide) (by rw [rtxE, if_pos h2]) (RText_short2 pb _ c ao w c0 c1 h2)
  rcases h with ⟨g, off, c, hr, hc, hgq⟩ | ⟨rfl, _⟩
  rotate_left
  · exact absurd (by decide) h2
  by_cases h4 : 4096 < num (r.take 2)
  · exact bad 12 (by decide) (by rw [rtxE, if_neg h2, if_pos h4]) (RText_long pb g off c _ r w hr (by omega) rfl h4 hc)
  by_cases hl : r.length < 2 + num (r.take 2)
  · exact bad 10 (by decide) (by rw [rtxE, if_neg h2, if_neg h4, if_pos hl]) (RText_short pb g off c _ r w hr (by omega) rfl (by omega) hl hc)
  have htl : ((r.drop 2).take (num (r.take 2))).length = num (r.take 2) := by rw [List.length_take, List.length_drop]; omega
  cases hv : validD ((r.drop 2).take (num (r.take 2))) with
  | false =>
    refine bad 14 (by decide) (by rw [rtxE, if_neg h2, if_neg h4, if_neg hl, hv]; rfl) (RText_bad pb g off c _ r _ w hr (by omega) rfl (by omega) (by omega) hc rfl hT (fun off1 c1 w1 hT1 hb1 hc1 => ?_))
    have := hV g off1 c1 _ w1 hT1 hb1 (by rw [htl]; exact hc1) (by rw [htl]; omega)
    rw [hv, htl] at this
    exact this
  | true =>
    have he : rtxE r = 0 := by rw [rtxE, if_neg h2, if_neg h4, if_neg hl, hv]; rfl
    rw [rtxS, rtxK, he, if_pos rfl, if_pos rfl]
    refine (RText_ok pb 0 g off c _ r _ w hr (by omega) rfl (by omega) (by omega) hc rfl hT (fun off1 c1 w1 hT1 hb1 hc1 => ?_)).mono ?_
    · have := hV g off1 c1 _ w1 hT1 hb1 (by rw [htl]; exact hc1) (by rw [htl]; omega)
      rw [hv, htl] at this
      exact this
    · rintro e w' ⟨rfl, ⟨off', c', hr', hc'⟩, hg⟩
      exact ⟨rfl, .inl ⟨g, off', c', hr', by omega, hgq⟩, hg⟩
theorem refTextX (qb a : Nat) (bo : Option Addr) (bc : Nat) (l : List UInt8) (w : World) (h : RR w qb a bo bc l) :
    Calls Tryd.prog 59 #[.pointer (some ⟨qb, 0, none⟩)] w fun e w' => e = .returned (.tuple #[.string ⟨(rtxS (l.drop a)).toArray⟩, .int .i64 (rtxE (l.drop a))]) ∧ RR w' qb (a + rtxK (l.drop a)) bo bc l ∧ w.grownBy w' (some qb) := by
  obtain ⟨r, hr⟩ : ∃ r, l.drop a = r := ⟨_, rfl⟩
  have bad : ∀ x : Int, x ≠ 0 → rtxE r = x → (Calls Tryd.prog 59 #[.pointer (some ⟨qb, 0, none⟩)] w fun e w' => e = .returned (.tuple #[.string ⟨#[]⟩, .int .i64 x]) ∧ RR w' qb a bo bc l ∧ w.grownBy w' (some qb)) →
      Calls Tryd.prog 59 #[.pointer (some ⟨qb, 0, none⟩)] w fun e w' => e = .returned (.tuple #[.string ⟨(rtxS r).toArray⟩, .int .i64 (rtxE r)]) ∧ RR w' qb (a + rtxK r) bo bc l ∧ w.grownBy w' (some qb) := fun x hx he hc => by
    rw [rtxS, rtxK, he, if_neg hx, if_neg hx]
    exact hc
  rw [hr]
  by_cases h2 : r.length < 2
  · refine bad 10 (by decide) (by rw [rtxE, if_pos h2]) ((refRText_short2 qb a bo bc l w h (by rw [hr]; exact h2)).mono ?_)
    rintro e w' ⟨rfl, q, rfl⟩
    exact ⟨rfl, h.drew q, grown_of_below (below_drewN (Below.refl _ _) _) _⟩
  by_cases h4 : 4096 < num (r.take 2)
  · exact bad 12 (by decide) (by rw [rtxE, if_neg h2, if_pos h4]) (refRText_long qb a _ bo bc l w h (by rw [hr]; omega) (by rw [hr]) h4)
  by_cases hl : r.length < 2 + num (r.take 2)
  · exact bad 10 (by decide) (by rw [rtxE, if_neg h2, if_neg h4, if_pos hl]) (refRText_short qb a _ bo bc l w h (by rw [hr]; omega) (by rw [hr]) (by omega) (by rw [hr]; exact hl))
  cases hv : validD ((r.drop 2).take (num (r.take 2))) with
  | false => exact bad 14 (by decide) (by rw [rtxE, if_neg h2, if_neg h4, if_neg hl, hv]; rfl) (refRText_bad qb a _ bo bc l _ w h (by rw [hr]; omega) (by rw [hr]) (by omega) (by rw [hr]; omega) (by rw [hr]) hv)
  | true =>
    have he : rtxE r = 0 := by rw [rtxE, if_neg h2, if_neg h4, if_neg hl, hv]; rfl
    rw [rtxS, rtxK, he, if_pos rfl, if_pos rfl]
    have hrl : a + r.length = l.length := by rw [← hr, List.length_drop]; have := h.ale; omega
    have hcap := h.cap
    by_cases hbc : a + 2 < bc
    · rw [← Nat.add_assoc]
      exact refRText_good qb a _ bo bc l _ w h (by rw [hr]; omega) (by rw [hr]) (by omega) (by rw [hr]; omega) (by rw [hr]) hv hbc
    · have hn0 : num (r.take 2) = 0 := by omega
      rw [hn0, List.take_zero]
      exact refRText_good0 qb a bo bc l w h (by rw [hr]; omega) (by rw [hr]; exact hn0.symm) (by omega)
theorem EndX (pb qb : Nat) (r : List UInt8) (w : World) (h : RdX w pb qb r) :
    Calls Tryd.prog 30 #[.pointer (some ⟨pb, 0, none⟩)] w fun e w' => e = .returned (.int .i64 (if r.length = 0 then 0 else 11)) ∧ w' = w := by
  obtain ⟨ao, c, c0, c1⟩ := h.cells
  generalize r.length = m at *
  by_cases hm : m = 0
  · subst hm
    rw [if_pos rfl]
    exact End_empty pb 0 ao c w c0 c1
  · have hmz : (0 : Int) < (m : Int) := by omega
    rw [if_neg hm]
    go_enter Tryd.func30, Tryd.ntmps30
    go_wp2_with (go_at_call 60; refine (nobodys_made pb 0 _ c1).mono ?_; rintro e w' ⟨rfl, rfl⟩)
    go_ret
    exact ⟨rfl, rfl⟩
theorem LeftX (pb qb : Nat) (r : List UInt8) (w : World) (h : RdX w pb qb r) :
    Calls Tryd.prog 25 #[.pointer (some ⟨pb, 0, none⟩)] w fun e w' => e = .returned (.int .i64 (r.length : Int)) ∧ w' = w := by
  obtain ⟨ao, c, c0, c1⟩ := h.cells
  generalize r.length = m at *
  go_enter Tryd.func25, Tryd.ntmps25
  go_wp2_with (go_at_call 60; refine (nobodys_made pb 0 _ c1).mono ?_; rintro e w' ⟨rfl, rfl⟩)
  go_ret
  exact ⟨rfl, rfl⟩
end Go.Proofs.YtckcdgobgpjdkaaDoor.Oct
