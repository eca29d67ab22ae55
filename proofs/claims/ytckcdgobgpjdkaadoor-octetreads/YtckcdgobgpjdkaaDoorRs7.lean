/- The law OctetReads, as it is walked. -/
import Derived.Test.YtckcdgobgpjdkaaDoorRs6
import Derived.Test.YtckcdgobgpjdkaaDoorRef1
import Derived.Test.YtckcdgobgpjdkaaDoorHd
namespace Go.Proofs.YtckcdgobgpjdkaaDoor.Oct
open Go.RowKit
open Go.Lib (validD)

theorem read_all (pb qb : Nat) (bo : Option Addr) (bc : Nat) (l : List UInt8) (a : Nat) (k : Int) (w0 w : World) (h : St w0 w pb qb bo bc l a) (hT : Tabs w) (hV : VAll) :
    Calls Tryd.prog 24 #[.pointer (some ⟨pb, 0, none⟩), .pointer (some ⟨qb, 0, none⟩), .int .i64 k] w fun e w' => e = .returned (.bool true) ∧ ∃ a', St w0 w' pb qb bo bc l a' := by
  by_cases e1 : k = 1
  · subst e1; exact read_1 pb qb bo bc l a w0 w h
  by_cases e2 : k = 2
  · subst e2; exact read_2 pb qb bo bc l a w0 w h
  by_cases e3 : k = 3
  · subst e3; exact read_3 pb qb bo bc l a w0 w h
  by_cases e4 : k = 4
  · subst e4; exact read_4 pb qb bo bc l a w0 w h
  by_cases e5 : k = 5
  · subst e5; exact read_5 pb qb bo bc l a w0 w h
  by_cases e6 : k = 6
  · subst e6; exact read_6 pb qb bo bc l a w0 w h
  by_cases e7 : k = 7
  · subst e7; exact read_7 pb qb bo bc l a w0 w h hT hV
  · exact read_0 pb qb bo bc l a k w0 w h e1 e2 e3 e4 e5 e6 e7
theorem NewReaderX (ao : Option Addr) (c : Nat) (l : List UInt8) (w : World) (h : Bs w ao l) (hl : l.length ≤ 140737488355328) :
    Calls Tryd.prog 22 #[.slice ao l.length c] w fun e w' => ∃ pb, e = .returned (.pointer (some ⟨pb, 0, none⟩)) ∧ Below w.heap.size w w' ∧ w.heap.size ≤ pb ∧ pb < w'.heap.size ∧ ∀ qb, w'.heap.size ≤ qb → RdX w' pb qb l := by
  by_cases h0 : l = []
  · subst h0
    refine (NewReader_empty ao c w).mono ?_
    rintro e w' ⟨pb, ao', c', rfl, hb, p0, p1, hpb⟩
    exact ⟨pb, rfl, hb, hpb, World.block_lt_of_cell? w' _ p0, fun qb _ => .inr ⟨rfl, ao', c', p0, p1⟩⟩
  · refine (NewReader_any ao c l w h hl h0).mono ?_
    rintro e w' ⟨pb, g, c', rfl, hb, hr, hpb, hg, hc⟩
    have hg' : g < w'.heap.size := by
      obtain ⟨b, hb⟩ : ∃ b, l[0]? = some b := ⟨l[0]'(List.length_pos_iff.2 h0), by simp⟩
      exact World.block_lt_of_cell? w' _ (hr.data 0 b hb)
    exact ⟨pb, rfl, hb, hpb, World.block_lt_of_cell? w' _ hr.rest, fun qb hq => .inl ⟨g, 0, c', hr, hc, by omega⟩⟩
/-- Ints in memory. -/
def Is (w : World) (ao : Option Addr) (ks : List Int) : Prop := ∀ i k, ks[i]? = some k → ∃ g off, ao = some ⟨g, off, none⟩ ∧ w.cell? ⟨g, off + i, none⟩ = some (.int .i64 k)

theorem St.start {w w1 w2 w3 : World} {a3 : Option Addr} {c3 pb : Nat} {l : List UInt8} (hf3 : Fresh 5 w2 w3 a3 c3 l) (hB1 : Below w.heap.size w w1) (hB2 : Below w1.heap.size w1 w2) (hpb : w1.heap.size ≤ pb) (hpl : pb < w2.heap.size) (hX : ∀ qb, w2.heap.size ≤ qb → RdX w2 pb qb l) (hl : l.length ≤ 140737488355328) :
    St w (w3.alloc (.cells #[.slice a3 l.length c3, .int .i64 0] 56)) pb w3.heap.size a3 c3 l 0 := by
  have hW2 := hB1.trans (hB2.mono hB1.size)
  have hs23 := hf3.below.size
  have hbA : Below w3.heap.size w3 (w3.alloc (.cells #[.slice a3 l.length c3, .int .i64 0] 56)) := (Below.refl _ _).alloc (Nat.le_refl _) _
  have hlt3 : ∀ k, ob a3 = some k → w2.heap.size ≤ k ∧ k < w3.heap.size := fun k hk => hf3.own.lt k (by rw [ob_eq]; exact hk)
  have hW3 := hW2.trans (hf3.below.mono hW2.size)
  refine ⟨?_, ⟨by simp, by simp, by simp, hf3.bs.below hbA, fun e => ?_, Nat.zero_le _, hl, hf3.len_le⟩, by omega, fun e => ?_, hW3.trans (hbA.mono hW3.size), Nat.le_trans hB1.size hpb, hW3.size⟩
  · rw [List.drop_zero]
    exact ((hX w3.heap.size hs23).below hf3.below).below hbA
  · have := (hlt3 _ e).2; omega
  · have := (hlt3 _ e).1; omega

set_option maxHeartbeats 2000000 in
set_option maxRecDepth 100000 in
theorem reads_any (ao ko : Option Addr) (c kc : Nat) (l : List UInt8) (ks : List Int) (w : World) (hb : Bs w ao l) (hl : l.length ≤ 140737488355328) (hk : Is w ko ks) (hkl : ks.length ≤ 9223372036854775807) (hT : Tabs w) (hV : VAll) :
    Calls Tryd.prog 4 #[.slice ao l.length c, .slice ko ks.length kc] w fun e w' => e = .returned (.bool true) ∧ Below w.heap.size w w' := by
  go_enter Tryd.func4, Tryd.ntmps4
  go_wp2_with fail
  refine (Copy_any ao c l w hb hl).mono ?_
  rintro e w1 ⟨a1, c1, rfl, hf1⟩
  have hb1 := hb.below hf1.below
  have hB1 := hf1.below
  have hbs1 := hf1.bs
  clear hf1
  go_wp2_with fail
  refine (NewReaderX a1 c1 l w1 hbs1 hl).mono ?_
  rintro e w2 ⟨pb, rfl, hB2, hpb, hpl, hX⟩
  have hb2 := hb1.below hB2
  have hW2 := hB1.trans (hB2.mono hB1.size)
  go_wp2_with fail
  refine (Copy_any ao c l w2 hb2 hl).mono ?_
  rintro e w3 ⟨a3, c3, rfl, hf3⟩
  have hS4 := St.start hf3 hB1 hB2 hpb hpl hX hl
  clear hb hb1 hb2 hbs1 hX hf3 hB1 hB2 hW2 hpb hpl
  go_wp2_with fail
  generalize w3.alloc (.cells #[.slice a3 l.length c3, .int .i64 0] 56) = w4 at *
  generalize w3.heap.size = qb at *
  refine (heads_any _ (hT.below hS4.bel)).mono ?_
  rintro e w5 ⟨rfl, hb5⟩
  have hS5 := hS4.below hb5
  clear hS4 hb5
  go_wp2_with fail
  go_loopw [7] (fun i wx => ∃ q : Nat, q ≤ ks.length ∧ i = .int .i64 q ∧ ∃ a, St w wx pb qb a3 c3 l a) (fun i _ => ks.length - (intOf i).toNat)
  case atStart => exact ⟨0, Nat.zero_le _, rfl, 0, hS5⟩
  case round =>
    clear hS5
    obtain ⟨q, hq, rfl, a, hS⟩ := hrel
    by_cases hlt : q < ks.length
    · have hlt' : (q : Int) < ks.length := by omega
      obtain ⟨k, hkq⟩ : ∃ k, ks[q]? = some k := ⟨ks[q], by simp⟩
      obtain ⟨g, off, rfl, hc0⟩ := hk q k hkq
      have hcell := (hS.bel.cell (p := ⟨g, off + q, none⟩) (World.block_lt_of_cell? w _ hc0)).trans hc0
      have cR := read_all pb qb a3 c3 l a k w wr hS (hT.below hS.bel) hV
      clear hc0 hkq hS hk
      go_wp2_with fail
      refine cR.mono ?_
      rintro e w6 ⟨rfl, a6, hS6⟩
      clear cR hcell
      have cL := LeftX pb qb _ w6 hS6.rd
      have cM := refLeft_any qb a6 a3 c3 l w6 hS6.rr
      have hdr : Hid (∀ q, St w (w6.drewN q) pb qb a3 c3 l a6) := hide (fun q => hS6.below (below_drewN (Below.refl _ _) _))
      clear hS6
      generalize (l.drop a6).length = m at *
      go_wp2_with fail
      refine cL.mono ?_
      rintro e w7 ⟨rfl, rfl⟩
      go_wp2_with fail
      refine cM.mono ?_
      rintro e w8 ⟨rfl, q8, rfl⟩
      clear cL cM
      go_wp2_with fail
      exact ⟨⟨q + 1, by omega, by go_num, a6, hdr.out q8⟩, by simp [intOf]; omega⟩
    · have hlt' : ¬ (q : Int) < ks.length := by omega
      have hbel := hS.bel
      clear hS hk
      go_wp2_with fail
      go_ret
      exact ⟨rfl, hbel⟩
end Go.Proofs.YtckcdgobgpjdkaaDoor.Oct
