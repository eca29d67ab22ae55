import Derived.Test.YtaggifpnamjghaaDoorK48b185a5
set_option maxRecDepth 100000
set_option maxHeartbeats 4000000
namespace Go.Proofs.YtaggifpnamjghaaDoor.Tbl
open Go.RowKit Go.Proofs.YtaggifpnamjghaaDoor.Pau Go.Proofs.YtaggifpnamjghaaDoor.Gt
theorem tPaired (t : TT) (a b : Option Addr) (ca cb i j : Nat) (hi : i < t.s.length) (hj : j < t.s.length) (hi' : i < t.d.length) (hj' : j < t.d.length) (w : World) (h : Th w t a b ca cb) :
    Calls Tryd.prog 17 #[tV t a b ca cb, .int .i64 (i : Int), .int .i64 (j : Int)] w fun e w' => e = .returned (.bool (prB t i j)) /\ Below w.heap.size w w' := by
  have c1 := fun W => tCommute (t.s.getD i oP) (t.s.getD j oP) (h.ws.getD hi) (h.ws.getD hj) W
  have c2 := fun W => tCommute (t.d.getD i oP) (t.d.getD j oP) (h.wd.getD hi') (h.wd.getD hj') W
  have c3 := fun W => tCommute (t.d.getD i oP) (t.s.getD j oP) (h.wd.getD hi') (h.ws.getD hj) W
  obtain ⟨gs, os, rfl, hs⟩ := h.s.get (by omega)
  obtain ⟨gd, od, rfl, hd⟩ := h.d.get (by omega)
  have HS1 := hide (hs i _ (get_of hi))
  have HS2 := hide (hs j _ (get_of hj))
  have HD1 := hide (hd i _ (get_of hi'))
  have HD2 := hide (hd j _ (get_of hj'))
  have hns := h.na
  have hnd := h.nb
  unfold prB
  have hne : decide (i ≠ j) = ((i : Int) != (j : Int)) := by
    by_cases e : i = j
    . subst e; simp
    . rw [decide_eq_true e]; exact (bne_iff_ne.2 (by omega)).symm
  rw [hne]
  generalize cmB (t.s.getD i oP) (t.s.getD j oP) = r1 at *
  generalize cmB (t.d.getD i oP) (t.d.getD j oP) = r2 at *
  generalize cmB (t.d.getD i oP) (t.s.getD j oP) = r3 at *
  generalize t.s.getD i oP = s1 at *
  generalize t.s.getD j oP = s2 at *
  generalize t.d.getD i oP = d1 at *
  generalize t.d.getD j oP = d2 at *
  unfold tV
  generalize t.s.length = ns at *
  generalize t.d.length = nd at *
  obtain ⟨n, sl, dl⟩ := t
  simp only at *
  clear h hs hd hne
  obtain ⟨m1, x1, z1, p1⟩ := s1
  obtain ⟨m2, x2, z2, p2⟩ := s2
  obtain ⟨m3, x3, z3, p3⟩ := d1
  obtain ⟨m4, x4, z4, p4⟩ := d2
  have HB := hide (bnew w (.cells #[.int .i64 n, .slice (some ⟨gs, os, none⟩) ns ca, .slice (some ⟨gd, od, none⟩) nd cb] 24))
  have HA := hide (At3.new w (.int .i64 n) (.slice (some ⟨gs, os, none⟩) ns ca) (.slice (some ⟨gd, od, none⟩) nd cb))
  generalize hW : w.alloc (.cells #[.int .i64 n, .slice (some ⟨gs, os, none⟩) ns ca, .slice (some ⟨gd, od, none⟩) nd cb] 24) = V at *
  have HC : Hid (∀ W, Below V.heap.size V W -> (W.cell? ⟨w.heap.size, 0, none⟩ = some (.int .i64 n) /\ W.cell? ⟨w.heap.size, 1, none⟩ = some (.slice (some ⟨gs, os, none⟩) ns ca) /\ W.cell? ⟨w.heap.size, 2, none⟩ = some (.slice (some ⟨gd, od, none⟩) nd cb) /\ w.heap.size < W.heap.size) /\ Pc W gs (os + i * 4) ⟨m1, x1, z1, p1⟩ /\ Pc W gs (os + j * 4) ⟨m2, x2, z2, p2⟩ /\ Pc W gd (od + i * 4) ⟨m3, x3, z3, p3⟩ /\ Pc W gd (od + j * 4) ⟨m4, x4, z4, p4⟩ /\ gs < W.heap.size /\ gd < W.heap.size) := hide (fun W hb => by
    have hb' := bkp HB.out hb
    exact ⟨(HA.out.below hb).cells, HS1.out.below hb', HS2.out.below hb', HD1.out.below hb', HD2.out.below hb', (HS1.out.below hb').lt, (HD1.out.below hb').lt⟩)
  unfold pV at c1 c2 c3
  simp only at c1 c2 c3
  have hn1 : (n : Int) = n := rfl
  clear HS1 HS2 HD1 HD2 hn1
  cases r1
  rotate_left
  cases r2
  all_goals (
    go_enter Tryd.func17, Tryd.ntmps17
    go_wp2_with fail
    refine wp_region_quiet_C (C := fun W => Below V.heap.size V W) (by kernel_rfl) (by kernel_rfl) (bdrew (Below.refl _ _) 1) ?_
    refine unhideP ?_
    repeat
      refine wpQuiet_stepH (fun K hK => ?_)
      go_simp
      first
        | (refine hK _ ?_; clear hK K)
        | (apply Exists.intro
           refine ⟨fun W hW => ?_, hK _ ?_⟩
           first
             | ((with_reducible refine Calls.mono (c1 _) ?_); rintro e x ⟨rfl, hb⟩; exact ⟨rfl, bkp hW hb⟩)
             | ((with_reducible refine Calls.mono (c2 _) ?_); rintro e x ⟨rfl, hb⟩; exact ⟨rfl, bkp hW hb⟩)
             | ((with_reducible refine Calls.mono (c3 _) ?_); rintro e x ⟨rfl, hb⟩; exact ⟨rfl, bkp hW hb⟩)
             | (obtain ⟨⟨p0, p1, p2, p3⟩, ⟨a0, a1, a2, a3⟩, ⟨b0, b1, b2, b3⟩, ⟨d0, d1, d2, d3⟩, ⟨e0, e1, e2, e3⟩, q1, q2⟩ := HC.out W hW; go_simp; rfl)
           clear hK K)
    refine wpQuiet_nilH ?_
    intro W hW
    have HF := hide (bkp HB.out hW)
    clear hW HC
    go_wp2_with fail
    go_ret
    exact ⟨by first | rfl | simp, HF.out⟩)
end Go.Proofs.YtaggifpnamjghaaDoor.Tbl
