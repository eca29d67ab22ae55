/- The document's Reader's Text, as it is walked. -/
import Derived.Test.YtckcdgobgpjdkaaDoorRs2
import Derived.Test.YtckcdgobgpjdkaaDoorRV2
namespace Go.Proofs.YtckcdgobgpjdkaaDoor.Oct
open Go.RowKit
open Go.Lib (validD)

set_option maxHeartbeats 400000 in
theorem refRText_short2 (qb a : Nat) (bo : Option Addr) (bc : Nat) (l : List UInt8) (w : World) (h : RR w qb a bo bc l) (h2 : (l.drop a).length < 2) :
    Calls Tryd.prog 59 #[.pointer (some ⟨qb, 0, none⟩)] w fun e w' => e = .returned (.tuple #[.string ⟨#[]⟩, .int .i64 10]) ∧ ∃ q, w' = w.drewN q := by
  have cN := refNum_short qb a 2 bo bc l w h h2
  have hat := h.at_
  go_enter Tryd.func59, Tryd.ntmps59
  go_wp2_with fail
  refine cN.mono ?_
  rintro e w' ⟨rfl, q, rfl⟩
  go_wp2_with fail
  go_ret2
  exact ⟨rfl, _, rfl⟩
set_option maxHeartbeats 1000000 in
theorem refRText_long (qb a n : Nat) (bo : Option Addr) (bc : Nat) (l : List UInt8) (w : World) (h : RR w qb a bo bc l) (h2 : 2 ≤ (l.drop a).length) (hn : n = num ((l.drop a).take 2)) (h4 : 4096 < n) :
    Calls Tryd.prog 59 #[.pointer (some ⟨qb, 0, none⟩)] w fun e w' => e = .returned (.tuple #[.string ⟨#[]⟩, .int .i64 12]) ∧ RR w' qb a bo bc l ∧ w.grownBy w' (some qb) := by
  have cN := refNum_ok qb a 2 bo bc l w h h2 (by decide)
  rw [← hn] at cN
  have hat := h.at_
  have h4' : (4096 : Int) < (n : Int) := by omega
  clear hn h2
  go_enter Tryd.func59, Tryd.ntmps59
  go_wp2_with fail
  refine cN.mono ?_
  rintro e w2 ⟨rfl, hr2, hg2⟩
  have hfr := hr2.fr
  have hat2 := hr2.at_
  go_wp2_with fail
  go_ret2
  exact ⟨rfl, hr2.set a h.ale, hg2.trans (grown_setCell _ ⟨qb, 1, none⟩ _)⟩
set_option maxHeartbeats 1000000 in
theorem refRText_short (qb a n : Nat) (bo : Option Addr) (bc : Nat) (l : List UInt8) (w : World) (h : RR w qb a bo bc l) (h2 : 2 ≤ (l.drop a).length) (hn : n = num ((l.drop a).take 2)) (h4 : n ≤ 4096) (hl : (l.drop a).length < 2 + n) :
    Calls Tryd.prog 59 #[.pointer (some ⟨qb, 0, none⟩)] w fun e w' => e = .returned (.tuple #[.string ⟨#[]⟩, .int .i64 10]) ∧ RR w' qb a bo bc l ∧ w.grownBy w' (some qb) := by
  have cN := refNum_ok qb a 2 bo bc l w h h2 (by decide)
  rw [← hn] at cN
  have hat := h.at_
  have h4' : ¬ (4096 : Int) < (n : Int) := by omega
  have hm : (l.drop (a + 2)).length < n := by rw [← List.drop_drop, List.length_drop]; omega
  have hlen := h.len
  have hm4 : (l.drop (a + 2)).length < 4096 := by omega
  clear hn h2 hl
  go_enter Tryd.func59, Tryd.ntmps59
  go_wp2_with fail
  refine cN.mono ?_
  rintro e w2 ⟨rfl, hr2, hg2⟩
  have cL := refLeft_any qb (a + 2) bo bc l w2 hr2
  have hfin : ∀ q, RR ((w2.drewN q).setCell ⟨qb, 1, none⟩ (.int .i64 (a : Int))) qb a bo bc l ∧ w.grownBy ((w2.drewN q).setCell ⟨qb, 1, none⟩ (.int .i64 (a : Int))) (some qb) := fun q =>
    ⟨(hr2.drew q).set a h.ale, (hg2.trans (grown_of_below (below_drewN (Below.refl _ _) _) _)).trans (grown_setCell _ ⟨qb, 1, none⟩ _)⟩
  have Hfin : Hid (∀ q, RR ((w2.drewN q).setCell ⟨qb, 1, none⟩ (.int .i64 (a : Int))) qb a bo bc l ∧ w.grownBy ((w2.drewN q).setCell ⟨qb, 1, none⟩ (.int .i64 (a : Int))) (some qb)) := hide hfin
  have hfr := hr2.fr
  have hat2 := hr2.at_
  clear hfin cN hr2 h hg2
  generalize (l.drop (a + 2)).length = m at *
  have hmz : (m : Int) < (n : Int) := by omega
  go_wp2_with fail
  refine cL.mono ?_
  rintro e w3 ⟨rfl, q, rfl⟩
  go_wp2_with fail
  go_ret2
  exact ⟨rfl, Hfin.out q⟩
set_option maxHeartbeats 1000000 in
theorem refRText_good (qb a n : Nat) (bo : Option Addr) (bc : Nat) (l t : List UInt8) (w : World) (h : RR w qb a bo bc l) (h2 : 2 ≤ (l.drop a).length) (hn : n = num ((l.drop a).take 2)) (h4 : n ≤ 4096) (hl : 2 + n ≤ (l.drop a).length) (ht : t = ((l.drop a).drop 2).take n) (hv : validD t = true) (hAbc : a + 2 < bc) :
    Calls Tryd.prog 59 #[.pointer (some ⟨qb, 0, none⟩)] w fun e w' => e = .returned (.tuple #[.string ⟨t.toArray⟩, .int .i64 0]) ∧ RR w' qb (a + 2 + n) bo bc l ∧ w.grownBy w' (some qb) := by
  have mixed : Tryd.prog.follows .mixedOrders = true := by kernel_rfl
  have cN := refNum_ok qb a 2 bo bc l w h h2 (by decide)
  rw [← hn] at cN
  have hat := h.at_
  have h4' : ¬ (4096 : Int) < (n : Int) := by omega
  have hm : n ≤ (l.drop (a + 2)).length := by rw [← List.drop_drop, List.length_drop]; omega
  have hlen := h.len
  have hcap := h.cap
  have hal : a + 2 + n ≤ l.length := by rw [List.length_drop] at hl; omega
  obtain ⟨g, off, rfl⟩ : ∃ g off, bo = some ⟨g, off, none⟩ := by
    obtain ⟨g, off, e, _⟩ := h.bs 0 (l[0]'(by omega)) (by simp)
    exact ⟨g, off, e⟩
  have hml : (l.drop (a + 2)).length ≤ 140737488355328 := by rw [List.length_drop]; omega
  have htl : t.length = n := by rw [ht, List.length_take, List.drop_drop]; omega
  have Htd : Hid (t = (l.drop (a + 2)).take n) := hide (by rw [ht, List.drop_drop])
  have cV : ∀ W, Calls Tryd.prog 44 #[.string ⟨t.toArray⟩] W fun e w' => e = .returned (.bool true) ∧ ∃ q, w' = W.drewN q := fun W => by
    have hk := refValid_any ⟨t.toArray⟩ W (by show t.toArray.size ≤ _; simp; omega)
    rw [show (⟨t.toArray⟩ : ByteArray).data.toList = t from rfl, hv] at hk
    exact hk.mono fun e w' h => ⟨h.1, 0, h.2⟩
  have Htl := hide htl
  clear hn h2 hl ht htl
  generalize a + 2 = A at *
  go_enter Tryd.func59, Tryd.ntmps59
  go_wp2_with fail
  refine cN.mono ?_
  rintro e w2 ⟨rfl, hr2, hg2⟩
  have cL := refLeft_any qb A (some ⟨g, off, none⟩) bc l w2 hr2
  obtain ⟨m, hmm⟩ : ∃ m, (l.drop A).length = m := ⟨_, rfl⟩
  rw [hmm] at cL hm hml
  clear hmm
  have hmz : ¬ (m : Int) < (n : Int) := by omega
  clear cN
  go_wp2_with fail
  refine cL.mono ?_
  rintro e w3 ⟨rfl, q, rfl⟩
  have hr3 := hr2.drew q
  have hg3 : w.grownBy (w2.drewN q) (some qb) := hg2.trans (grown_of_below (below_drewN (Below.refl _ _) _) _)
  clear cL hr2 hg2
  generalize w2.drewN q = w3 at *
  have hfr := hr3.fr
  have hat2 := hr3.at_
  have hB2 := hr3.b
  have hbt : Bs w3 (some ⟨g, off + A, none⟩) t := by
    rw [Htd.out]
    refine Bs.take (fun j b hj => ?_) n
    rw [List.getElem?_drop] at hj
    obtain ⟨g', o', e, hc⟩ := hr3.bs (A + j) b hj
    cases e
    exact ⟨g, off + A, rfl, by rw [Nat.add_assoc]; exact hc⟩
  have hcv : ∀ q c', (convert 24 9 (.slice (some ⟨g, off + A, none⟩) n c')).run Tryd.prog (w3.drewN q) = .ok (.string ⟨t.toArray⟩) (w3.drewN q) := fun q c' => by
    have := conv_bs (P := Tryd.prog) (c := c') 24 9 5 Tryd.underlying24 Tryd.underlying5 Tryd.underlying9 (hbt.below (below_drewN (Below.refl _ _) q))
    rw [Htl.out] at this
    exact this
  have hal' := hal
  generalize hLL : l.length = L at hB2 hal' hcap hlen
  have hALz : (A : Int) + (n : Int) ≤ (bc : Int) := by omega
  go_wp2_with fail
  go_big_quiet_o (first | (go_at_call 44; with_reducible refine Calls.quiet_of (cV _)))
  have hr4 := hr3.drew nq
  have hg4 : w.grownBy (w3.drewN nq) (some qb) := hg3.trans (grown_of_below (below_drewN (Below.refl _ _) _) _)
  have hbt4 : Bs (w3.drewN nq) (some ⟨g, off + A, none⟩) t := hbt.below (below_drewN (Below.refl _ _) nq)
  clear hr3 hg3 hbt hcv hfr hat2 hB2 cV
  generalize w3.drewN nq = w4 at *
  have hfr := hr4.fr
  have hat4 := hr4.at_
  have hB4 := hr4.b
  have hr5 := hr4.set (A + n) hal
  have hg5 := hg4.trans (grown_setCell w4 ⟨qb, 1, none⟩ (.int .i64 ((A + n : Nat) : Int)))
  have hbt5 : Bs (w4.setCell ⟨qb, 1, none⟩ (.int .i64 ((A + n : Nat) : Int))) (some ⟨g, off + A, none⟩) t := hbt4.grown (grown_setCell _ ⟨qb, 1, none⟩ _) (.inl hr4.apart)
  rw [hLL] at hB4
  rw [Int.natCast_add] at hr5 hg5 hbt5
  clear hr4 hg4 hbt4
  go_wp2_with fail
  clear hfr hat4 hB4
  generalize w4.setCell ⟨qb, 1, none⟩ (.int .i64 ((A : Int) + (n : Int))) = w5 at *
  have hat5 := hr5.at_
  have hB5 := hr5.b
  rw [Int.natCast_add] at hat5
  rw [hLL] at hB5
  have hcv5 : ∀ q c', (convert 24 9 (.slice (some ⟨g, off + A, none⟩) n c')).run Tryd.prog (w5.drewN q) = .ok (.string ⟨t.toArray⟩) (w5.drewN q) := fun q c' => by
    have := conv_bs (P := Tryd.prog) (c := c') 24 9 5 Tryd.underlying24 Tryd.underlying5 Tryd.underlying9 (hbt5.below (below_drewN (Below.refl _ _) q))
    rw [Htl.out] at this
    exact this
  go_big_quiet_o (fail)
  have hr6 := hr5.drew nq
  have hg6 : w.grownBy (w5.drewN nq) (some qb) := hg5.trans (grown_of_below (below_drewN (Below.refl _ _) _) _)
  clear hr5 hg5 hbt5 hcv5 hat5 hB5
  go_wp2_with fail
  go_ret2
  exact ⟨rfl, hr6, hg6⟩
end Go.Proofs.YtckcdgobgpjdkaaDoor.Oct
