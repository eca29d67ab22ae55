/- The law OctetSums, as it is walked. -/
import Derived.Test.YtckcdgobgpjdkaaDoorSm0
import Derived.Test.YtckcdgobgpjdkaaDoorCrc
import Derived.Deep.QuietTactic
import Derived.BigQuiet
namespace Go.Proofs.YtckcdgobgpjdkaaDoor.Oct
open Go.RowKit

theorem Sum_list {w0 w : World} {bo : Option Addr} {bc : Nat} {all : List UInt8} {lo : Option Addr} {lc : Nat} {vs : List Value} {ps : List (List UInt8)} (h : Gat w0 w bo bc all lo lc vs ps) (hn : ps.length ≤ 1048576) (htot : ∀ (i : Nat) (p : List UInt8), ps[i]? = some p → p.length ≤ 1048576) :
    Calls Tryd.prog 31 #[.slice lo vs.length lc] w fun e w' => e = .returned (.int .u32 (crc ps.flatten : Int)) ∧ w' = w := by
  by_cases h0 : ps = []
  · subst h0
    have hv : vs.length = 0 := h.len
    rw [hv]
    exact Sum_none lo lc w
  · have hpos : 0 < vs.length := by rw [h.len]; exact List.length_pos_iff.2 h0
    obtain ⟨g, cap, hv, _, _⟩ := h.lst.form hpos
    simp only [Value.slice.injEq] at hv
    obtain ⟨rfl, _, rfl⟩ := hv
    rw [h.len]
    refine Sum_any g 0 lc ps w (by omega) (fun i p hp => ⟨Nat.le_trans (htot i p hp) (by decide), ?_⟩)
    obtain ⟨ao, c, hvi, hb, _⟩ := h.cps i p hp
    have hi : i < vs.length := (List.getElem?_eq_some_iff.1 hvi).1
    refine ⟨ao, c, ?_, hb⟩
    rw [Nat.zero_add, h.lst.cellAt i (by omega), hvi]
theorem flat_le (ps : List (List UInt8)) (q : Nat) : (ps.take q).flatten.length ≤ ps.flatten.length := by
  conv => rhs; rw [← List.take_append_drop q ps]
  rw [List.flatten_append, List.length_append]
  omega
theorem part_le (ps : List (List UInt8)) (i : Nat) (p : List UInt8) (h : ps[i]? = some p) : p.length ≤ ps.flatten.length := by
  have hm := List.mem_of_getElem? h
  clear h
  induction ps with
  | nil => cases hm
  | cons x r ih =>
    rw [List.flatten_cons, List.length_append]
    rcases List.mem_cons.1 hm with rfl | hm
    · omega
    · have := ih hm; omega
theorem le_num (l : List UInt8) : le l.length (num l) = l := by
  induction l with
  | nil => rfl
  | cons b r ih =>
    have hb := b.toNat_lt
    simp only [List.length_cons, le, num]
    rw [show (b.toNat + 256 * num r) / 256 = num r by omega, ih]
    congr 1
    apply UInt8.toNat_inj.1
    rw [UInt8.toNat_ofNat']
    omega

set_option maxHeartbeats 1500000 in
set_option maxRecDepth 100000 in
theorem sums_any (ao ro : Option Addr) (c rc : Nat) (ps : List (List UInt8)) (r : List UInt8) (w : World) (hP : Pts w ao ps) (hr : Bs w ro r) (hrc : r.length ≤ rc) (hn : ps.length ≤ 1048576) (htot : ps.flatten.length ≤ 1048576) (hrl : r.length ≤ 1048576) (hT : Tabs w) :
    Calls Tryd.prog 6 #[.slice ao ps.length c, .slice ro r.length rc] w fun e w' => e = .returned (.bool true) ∧ Below w.heap.size w w' := by
  obtain ⟨i1, hi1, hz0, hz1, hz2⟩ := info_parts info24
  go_enter Tryd.func6, Tryd.ntmps6
  go_wp2
  go_loopw [5, 6, 7] (fun av lv i wr => ∃ q : Nat, q ≤ ps.length ∧ i = .int .i64 q ∧ ∃ bo bc lo lc vs, av = .slice bo (ps.take q).flatten.length bc ∧ lv = .slice lo (List.length vs) lc ∧ Gat w wr bo bc (ps.take q).flatten lo lc vs (ps.take q)) (fun _ _ i _ => ps.length - (intOf i).toNat)
  case atStart => exact ⟨0, Nat.zero_le _, rfl, none, 0, none, 0, [], rfl, rfl, World.ownsRow_nil _ _ _ _, World.ownsRow_nil _ _ _ _, rfl, fun i p hp => by simp at hp, .inl rfl, Below.refl _ _⟩
  case round =>
    obtain ⟨q, hq, rfl, bo, bc, lo, lc, vs, rfl, rfl, hG⟩ := hrel
    by_cases hlt : q < ps.length
    · have hlt' : (q : Int) < ps.length := by omega
      obtain ⟨p, hp⟩ : ∃ p, ps[q]? = some p := ⟨ps[q], by simp⟩
      obtain ⟨g, off, rfl, ai, ci, hcell, hbp⟩ := hP q p hp
      have hpl := Nat.le_trans (part_le ps q p hp) htot
      have hfl := Nat.le_trans (flat_le ps q) htot
      have HT : Hid (ps.take (q + 1) = ps.take q ++ [p]) := show _ = _ by rw [List.take_add_one, hp]; rfl
      have hvl : vs.length ≤ 1048576 := by rw [hG.len, List.length_take]; omega
      have HV : Hid (vs.length = q) := show _ = _ by rw [hG.len, List.length_take]; omega
      clear hp hP
      generalize ps.take q = pt at *
      have HF : Hid ((pt ++ [p]).flatten = pt.flatten ++ p) := show _ = _ by simp
      generalize hall : pt.flatten = all at *
      have hgb := World.block_lt_of_cell? w _ hcell
      have hc1 := (hG.bel.cell (p := ⟨g, off + q, none⟩) hgb).trans hcell
      have hsrc := (hbp.below (hG.bel)).src (P := Tryd.prog) (c := ci) (tx := 24) Tryd.underlying24
      have hrow := hG.row
      have hbase := hG.bel.size
      clear hall
      go_wp2_with (at_builtin; refine wpList_append_src rfl _ _ 24 24 rfl w.heap.size 5 Tryd.underlying24 info5 bo all.length bc all rfl hrow (.slice ai p.length ci) p.length p rfl hsrc (by omega) hbase ?_)
      intro bo1 bc1 w1 hown1 hg1 hat1
      have hG1 := hG.first hown1 hg1 hat1
      have hc2 := (hG1.bel.cell (p := ⟨g, off + q, none⟩) hgb).trans hcell
      clear hG hc1 hsrc hrow hown1 hg1 hat1 hbase
      go_wp2_with fail
      refine (Copy_any ai ci p w1 (hbp.below hG1.bel) (by omega)).mono ?_
      rintro e w2 ⟨ac, cc, rfl, hf2⟩
      have hl3 := ((hG1.below hf2.below).lst).alloc (.cells #[.slice ac p.length cc] 24)
      have hbs3 : w.heap.size ≤ w2.heap.size := Nat.le_trans hG1.bel.size hf2.below.size
      go_wp2_with (at_builtin; refine wpList_append_lies _ rfl _ _ 64 rfl w.heap.size 24 i1 (.slice none 0 0) 1 24 Tryd.underlying64 hi1 hz0 hz1 hz2 rfl (by decide) (.slice lo vs.length lc) vs.length vs rfl hl3 ⟨w2.heap.size, 0, none⟩ 1 1 [.slice ac p.length cc] rfl rfl (cell_one_new _ _ _) ?one (by decide) ?b1 ?b2 ?base _ rfl ?rest)
      case one => intro u hu; simp at hu; subst hu; rfl
      case b1 => unfold maxLen; omega
      case b2 => omega
      case base => simp; omega
      case rest =>
        intro g4 cap4 w4 hown4 hg4 hat4 hlt4
        rw [ob_eq] at hg4 hat4
        have hG4 := hG1.second hf2 ((Below.refl _ _).alloc (Nat.le_refl _) _) hown4 hg4 (by rcases hat4 with e | e; exact .inl e; right; simp; omega)
        clear hG1 hf2 hl3 hown4 hg4 hat4 hlt4
        go_wp2
        refine ⟨⟨q + 1, by omega, by go_num, bo1, bc1, some ⟨g4, 0, none⟩, cap4, vs ++ [.slice ac p.length cc], ?_, ?_, ?_⟩, by simp [intOf]; omega⟩
        · rw [HT.out, HF.out, List.length_append]
        · rw [List.length_append]; rfl
        · rw [HT.out, HF.out]; exact hG4
    · have hlt' : ¬ (q : Int) < ps.length := by omega
      obtain rfl : ps.length = q := by omega
      rw [List.take_length] at hG ⊢
      have hvl : vs.length = ps.length := hG.len
      have cS := Sum_list hG hn (fun i p hp => Nat.le_trans (part_le ps i p hp) htot)
      rw [hvl] at cS ⊢
      have hV := hide hvl
      generalize hAll : ps.flatten = all at *
      clear hAll
      clear hvl hz0 hz1 hz2 hi1
      go_wp2_with (go_at_call 31; refine cS.mono ?_; rintro e w1 ⟨rfl, rfl⟩)
      clear cS
      go_loopw [9] (fun i wr => ∃ j : Nat, j ≤ ps.length ∧ i = .int .i64 j ∧ Gat w wr bo bc all lo lc vs ps) (fun i _ => ps.length - (intOf i).toNat)
      case atStart => exact ⟨0, Nat.zero_le _, rfl, hG⟩
      case round =>
        clear hG
        obtain ⟨j, hj, rfl, hG⟩ := hrel
        by_cases hjl : j < ps.length
        · have hjl' : (j : Int) < ps.length := by omega
          obtain ⟨p, hp⟩ : ∃ p, ps[j]? = some p := ⟨ps[j], by simp⟩
          obtain ⟨g, off, rfl, ai, ci, hcell, hbp⟩ := hP j p hp
          obtain ⟨aj, cj, hvj, hbj, _⟩ := hG.cps j p hp
          obtain ⟨gl, cl, hv, _, _⟩ := hG.lst.form (by rw [hV.out]; omega)
          simp only [Value.slice.injEq] at hv
          obtain ⟨rfl, _, rfl⟩ := hv
          have hcl := (hG.lst.cellAt j (by rw [hV.out]; omega)).trans hvj
          have hgb := World.block_lt_of_cell? w _ hcell
          have hc1 := (hG.bel.cell (p := ⟨g, off + j, none⟩) hgb).trans hcell
          have cA : ∀ W : World, W.heap = wr.heap → Calls Tryd.prog 20 #[.slice aj p.length cj, .slice ai p.length ci] W fun e w' => e = .returned (.bool true) ∧ w' = W := fun W hW => by
            have hbw : Below wr.heap.size wr wr := Below.refl _ _
            have := Alike_any aj ai cj ci p p W (fun q b hq => by obtain ⟨a1, a2, a3, a4⟩ := hbj q b hq; exact ⟨a1, a2, a3, by rw [World.cell?, hW]; exact a4⟩) (fun q b hq => by obtain ⟨a1, a2, a3, a4⟩ := (hbp.below hG.bel) q b hq; exact ⟨a1, a2, a3, by rw [World.cell?, hW]; exact a4⟩)
            rw [beq_self_eq_true] at this
            exact this
          clear hvj hp
          go_wp2_with fail
          go_quiet ((go_at_call 20; exact Calls.quiet_of_same (cA _ rfl)))
          go_wp2
          exact ⟨⟨j + 1, by omega, by go_num, hG.below (below_drewN (Below.refl _ _) _)⟩, by simp [intOf]; omega⟩
        · have hjl' : ¬ (j : Int) < ps.length := by omega
          have hrowAll := Bs.of_own hG.row
          clear hP hj hjl hV
          have hG2 := hG
          clear hG
          obtain ⟨L, hL⟩ : ∃ L, all ++ le 4 (crc all) = L := ⟨_, rfl⟩
          have cSe := fun (W : World) (h : Bs W bo all) => Seal_any bo bc all W h (by omega)
          have cRe := fun (W : World) (h : Bs W bo all) => refSeal_any bo bc all W h (by omega)
          simp only [hL] at cSe cRe
          have hL4 : L.length = all.length + 4 := by rw [← hL, List.length_append, le_length]
          have HL4 := hide hL4
          clear hL hL4
          go_wp2_with fail
          refine (cSe wr hrowAll).mono ?_
          rintro e w2 ⟨ga, ca, rfl, hfa⟩
          go_wp2_with fail
          refine (cSe w2 (hrowAll.below hfa.below)).mono ?_
          rintro e w3 ⟨gb, cb, rfl, hfb⟩
          have hB3 : Below wr.heap.size wr w3 := hfa.below.trans (hfb.below.mono hfa.below.size)
          go_wp2_with fail
          refine (cRe w3 (hrowAll.below hB3)).mono ?_
          rintro e w4 ⟨ar, cr, rfl, hfr⟩
          clear cSe cRe
          have hB4 := hB3.trans (hfr.below.mono hB3.size)
          have hba4 : Bs w4 (some ⟨ga, 0, none⟩) L := (hfa.bs.below hfb.below).below hfr.below
          have hbb4 : Bs w4 (some ⟨gb, 0, none⟩) L := hfb.bs.below hfr.below
          have cA1 := Alike_any (some ⟨ga, 0, none⟩) ar ca cr _ _ w4 hba4 hfr.bs
          have cA2 := Alike_any (some ⟨gb, 0, none⟩) (some ⟨ga, 0, none⟩) cb ca _ _ w4 hbb4 hba4
          rw [beq_self_eq_true] at cA1 cA2
          go_wp2_with fail
          refine cA1.mono ?_
          rintro e w4a ⟨rfl, rfl⟩
          go_wp2_with fail
          refine cA2.mono ?_
          rintro e w4b ⟨rfl, rfl⟩
          clear cA1 cA2
          -- the rows of the two seals, where they lie
          have oa4 := ownsRow_of_block hfa.own (fun k hk => (hfr.below.block k (by have := (hfa.own.lt k (by rw [ob_eq]; exact hk)).2; have := hfb.below.size; omega)).trans (hfb.below.block k (hfa.own.lt k (by rw [ob_eq]; exact hk)).2))
          have ob4 := ownsRow_of_block hfb.own (fun k hk => hfr.below.block k (hfb.own.lt k (by rw [ob_eq]; exact hk)).2)
          have hga : wr.heap.size ≤ ga ∧ ga < w2.heap.size := hfa.own.lt ga rfl
          have hgb : w2.heap.size ≤ gb ∧ gb < w3.heap.size := hfb.own.lt gb rfl
          have hs4 := hfr.below.size
          have hr4 := hr.below (hG2.bel.trans (hB4.mono hG2.bel.size))
          clear hba4 hbb4
          by_cases hr0 : r.length < 4
          · go_wp2_with fail
            refine (Open_short ro rc r w4b hr0).mono ?_
            rintro e w5 ⟨rfl, rfl⟩
            go_wp2_with fail
            refine (refOpen_short ro rc r w5 hr0).mono ?_
            rintro e w6 ⟨rfl, rfl⟩
            have hbn : Bs w6 none ([] : List UInt8) := fun j b hj => by simp at hj
            go_wp2_with fail
            have hTwo : Two wr.heap.size w6.heap.size ga gb L.length ca L.length cb (w6.alloc (.cells #[.slice (some ⟨ga, 0, none⟩) L.length ca, .slice (some ⟨gb, 0, none⟩) L.length cb] 24)) (w6.alloc (.cells #[.slice (some ⟨ga, 0, none⟩) L.length ca, .slice (some ⟨gb, 0, none⟩) L.length cb] 24)) L L :=
              ⟨by simp, by simp, (oa4).alloc _, (ownsRow_mono (ob4) hfa.below.size).alloc _, G2.refl _ _ _⟩
            have hsW := (hB4).size
            have hgbW : gb < w6.heap.size := ((ob4).lt gb rfl).2
            refine (Own_two wr.heap.size w6.heap.size ga gb L.length ca L.length cb L L _ hTwo (by omega) (by omega) (by omega) (by simp; omega) (own_cap hfa.own) (own_cap hfb.own)).mono ?_
            rintro e w7 ⟨rfl, hg7⟩
            clear hTwo
            have hBA := ((hB4).alloc hsW (.cells #[.slice (some ⟨ga, 0, none⟩) L.length ca, .slice (some ⟨gb, 0, none⟩) L.length cb] 24))
            have hB7 := hBA.trans (hg7.below (by simp; omega) hga.1 (by omega))
            have hall7 := (hrowAll.below hBA).g2 hg7 (by
              by_cases h0 : all = []
              · exact .inl h0
              · obtain ⟨k, hk, hlt⟩ := hrowAll.blk h0
                right; rw [hk]; simp only [ne_eq, Option.some.injEq]; omega)
            have hD7 := ((hbn).below ((Below.refl _ _).alloc (Nat.le_refl _) (.cells #[.slice (some ⟨ga, 0, none⟩) L.length ca, .slice (some ⟨gb, 0, none⟩) L.length cb] 24))).g2 hg7 (.inl rfl)
            have hF7 := ((hbn).below ((Below.refl _ _).alloc (Nat.le_refl _) (.cells #[.slice (some ⟨ga, 0, none⟩) L.length ca, .slice (some ⟨gb, 0, none⟩) L.length cb] 24))).g2 hg7 (.inl rfl)
            have cA7 := Alike_any none none 0 0 [] [] w7 hD7 hF7
            rw [beq_self_eq_true] at cA7
            clear hBA hD7 hF7 hg7
            go_wp2_with fail
            refine (refSum_any bo bc all w7 hall7 (by omega)).mono ?_
            rintro e w8 ⟨rfl, rfl⟩
            go_wp2_with fail
            refine cA7.mono ?_
            rintro e w9 ⟨rfl, rfl⟩
            clear cA7 hall7
            have hBF := hG2.bel.trans (hB7.mono hG2.bel.size)
            go_wp2_with fail
            refine (heads_any _ (hT.below hBF)).mono ?_
            rintro e w10 ⟨rfl, hb10⟩
            have hBZ := hBF.trans (hb10.mono hBF.size)
            go_wp2_with fail
            go_ret
            exact ⟨rfl, hBZ⟩
          · obtain ⟨m, hm⟩ : ∃ m, r.length = m + 4 := ⟨r.length - 4, by omega⟩
            obtain ⟨g, off, rfl, hx0⟩ := hr 0 (r[0]'(by omega)) (List.getElem?_eq_getElem (by omega))
            clear hx0
            have hiff : (crc (r.take m) = num (r.drop m)) ↔ (r.take m ++ le 4 (crc (r.take m)) = r) := by
              have hd4 : (r.drop m).length = 4 := by rw [List.length_drop]; omega
              constructor
              · intro e
                rw [e, ← hd4, le_num, List.take_append_drop]
              · intro e
                have e2 : r.drop m = le 4 (crc (r.take m)) := by
                  have h1 : (r.take m).length = m := by rw [List.length_take]; omega
                  have := congrArg (List.drop m) e
                  rw [List.drop_left' h1] at this
                  exact this.symm
                rw [e2, num_le 4 _ (crc_lt _)]
            have cO := Open_any g off rc r (r.take m) m (num (r.drop m)) w4b hr4 hm hrc (by omega) rfl rfl
            have cR := fun (W : World) (hW : Bs W (some ⟨g, off, none⟩) r) => refOpen_any g off rc r (r.take m) m W hW hm hrc (by omega) rfl
            have hdl : (r.take m).length ≤ 1048576 := by rw [List.length_take]; omega
            rw [hm]
            generalize r.take m = dd at *
            have hrl' : m ≤ 1048576 := by omega
            clear hm
            by_cases he : crc dd = num (r.drop m)
            · have he2 := hiff.1 he
              clear hiff
              go_wp2_with fail
              refine cO.mono ?_
              rintro e w5 ⟨ho, -⟩
              obtain ⟨ao5, c5, rfl, hf5⟩ := ho he
              clear cO ho
              go_wp2_with fail
              refine (cR w5 (hr4.below hf5.below)).mono ?_
              rintro e w6 ⟨ho, -⟩
              obtain ⟨ao6, c6, rfl, hf6⟩ := ho he2
              clear cR ho he he2
              have hB5 := hB4.trans (hf5.below.mono hB4.size)
              have hB6 := hB5.trans (hf6.below.mono hB5.size)
              have hs5 := hf5.below.size
              have oa6 := ownsRow_of_block oa4 (fun k hk => (hf6.below.block k (by have := (oa4.lt k (by rw [ob_eq]; exact hk)).2; omega)).trans (hf5.below.block k (oa4.lt k (by rw [ob_eq]; exact hk)).2))
              have ob6 := ownsRow_of_block ob4 (fun k hk => (hf6.below.block k (by have := (ob4.lt k (by rw [ob_eq]; exact hk)).2; omega)).trans (hf5.below.block k (ob4.lt k (by rw [ob_eq]; exact hk)).2))
              have hn5 : dd = [] ∨ (ob ao5 ≠ some ga ∧ ob ao5 ≠ some gb) := by
                by_cases h0 : dd = []
                · exact .inl h0
                · obtain ⟨k, hk, _⟩ := hf5.bs.blk h0
                  have := (hf5.own.lt k (by rw [ob_eq]; exact hk)).1
                  right; rw [hk]; simp only [ne_eq, Option.some.injEq]; omega
              have hn6 : dd = [] ∨ (ob ao6 ≠ some ga ∧ ob ao6 ≠ some gb) := by
                by_cases h0 : dd = []
                · exact .inl h0
                · obtain ⟨k, hk, _⟩ := hf6.bs.blk h0
                  have := (hf6.own.lt k (by rw [ob_eq]; exact hk)).1
                  right; rw [hk]; simp only [ne_eq, Option.some.injEq]; omega
              go_wp2_with fail
              have hTwo : Two wr.heap.size w6.heap.size ga gb L.length ca L.length cb (w6.alloc (.cells #[.slice (some ⟨ga, 0, none⟩) L.length ca, .slice (some ⟨gb, 0, none⟩) L.length cb] 24)) (w6.alloc (.cells #[.slice (some ⟨ga, 0, none⟩) L.length ca, .slice (some ⟨gb, 0, none⟩) L.length cb] 24)) L L :=
                ⟨by simp, by simp, (oa6).alloc _, (ownsRow_mono (ob6) hfa.below.size).alloc _, G2.refl _ _ _⟩
              have hsW := (hB6).size
              have hgbW : gb < w6.heap.size := ((ob6).lt gb rfl).2
              refine (Own_two wr.heap.size w6.heap.size ga gb L.length ca L.length cb L L _ hTwo (by omega) (by omega) (by omega) (by simp; omega) (own_cap hfa.own) (own_cap hfb.own)).mono ?_
              rintro e w7 ⟨rfl, hg7⟩
              clear hTwo
              have hBA := ((hB6).alloc hsW (.cells #[.slice (some ⟨ga, 0, none⟩) L.length ca, .slice (some ⟨gb, 0, none⟩) L.length cb] 24))
              have hB7 := hBA.trans (hg7.below (by simp; omega) hga.1 (by omega))
              have hall7 := (hrowAll.below hBA).g2 hg7 (by
                by_cases h0 : all = []
                · exact .inl h0
                · obtain ⟨k, hk, hlt⟩ := hrowAll.blk h0
                  right; rw [hk]; simp only [ne_eq, Option.some.injEq]; omega)
              have hD7 := ((hf5.bs.below hf6.below).below ((Below.refl _ _).alloc (Nat.le_refl _) (.cells #[.slice (some ⟨ga, 0, none⟩) L.length ca, .slice (some ⟨gb, 0, none⟩) L.length cb] 24))).g2 hg7 (hn5)
              have hF7 := ((hf6.bs).below ((Below.refl _ _).alloc (Nat.le_refl _) (.cells #[.slice (some ⟨ga, 0, none⟩) L.length ca, .slice (some ⟨gb, 0, none⟩) L.length cb] 24))).g2 hg7 (hn6)
              have cA7 := Alike_any ao5 ao6 c5 c6 dd dd w7 hD7 hF7
              rw [beq_self_eq_true] at cA7
              clear hBA hD7 hF7 hg7
              go_wp2_with fail
              refine (refSum_any bo bc all w7 hall7 (by omega)).mono ?_
              rintro e w8 ⟨rfl, rfl⟩
              go_wp2_with fail
              refine cA7.mono ?_
              rintro e w9 ⟨rfl, rfl⟩
              clear cA7 hall7
              have hBF := hG2.bel.trans (hB7.mono hG2.bel.size)
              go_wp2_with fail
              refine (heads_any _ (hT.below hBF)).mono ?_
              rintro e w10 ⟨rfl, hb10⟩
              have hBZ := hBF.trans (hb10.mono hBF.size)
              go_wp2_with fail
              go_ret
              exact ⟨rfl, hBZ⟩
            · have he2 : ¬ (dd ++ le 4 (crc dd) = r) := fun e => he (hiff.2 e)
              clear hiff
              go_wp2_with fail
              refine cO.mono ?_
              rintro e w5 ⟨-, ho⟩
              obtain ⟨rfl, hb5⟩ := ho he
              clear cO ho
              go_wp2_with fail
              refine (cR w5 (hr4.below hb5)).mono ?_
              rintro e w6 ⟨-, ho⟩
              obtain ⟨rfl, hb6⟩ := ho he2
              clear cR ho he he2
              have hB5 := hB4.trans (hb5.mono hB4.size)
              have hB6 := hB5.trans (hb6.mono hB5.size)
              have hs5 := hb5.size
              have oa6 := ownsRow_of_block oa4 (fun k hk => (hb6.block k (by have := (oa4.lt k (by rw [ob_eq]; exact hk)).2; omega)).trans (hb5.block k (oa4.lt k (by rw [ob_eq]; exact hk)).2))
              have ob6 := ownsRow_of_block ob4 (fun k hk => (hb6.block k (by have := (ob4.lt k (by rw [ob_eq]; exact hk)).2; omega)).trans (hb5.block k (ob4.lt k (by rw [ob_eq]; exact hk)).2))
              have hbn : Bs w6 none ([] : List UInt8) := fun j b hj => by simp at hj
              go_wp2_with fail
              have hTwo : Two wr.heap.size w6.heap.size ga gb L.length ca L.length cb (w6.alloc (.cells #[.slice (some ⟨ga, 0, none⟩) L.length ca, .slice (some ⟨gb, 0, none⟩) L.length cb] 24)) (w6.alloc (.cells #[.slice (some ⟨ga, 0, none⟩) L.length ca, .slice (some ⟨gb, 0, none⟩) L.length cb] 24)) L L :=
                ⟨by simp, by simp, (oa6).alloc _, (ownsRow_mono (ob6) hfa.below.size).alloc _, G2.refl _ _ _⟩
              have hsW := (hB6).size
              have hgbW : gb < w6.heap.size := ((ob6).lt gb rfl).2
              refine (Own_two wr.heap.size w6.heap.size ga gb L.length ca L.length cb L L _ hTwo (by omega) (by omega) (by omega) (by simp; omega) (own_cap hfa.own) (own_cap hfb.own)).mono ?_
              rintro e w7 ⟨rfl, hg7⟩
              clear hTwo
              have hBA := ((hB6).alloc hsW (.cells #[.slice (some ⟨ga, 0, none⟩) L.length ca, .slice (some ⟨gb, 0, none⟩) L.length cb] 24))
              have hB7 := hBA.trans (hg7.below (by simp; omega) hga.1 (by omega))
              have hall7 := (hrowAll.below hBA).g2 hg7 (by
                by_cases h0 : all = []
                · exact .inl h0
                · obtain ⟨k, hk, hlt⟩ := hrowAll.blk h0
                  right; rw [hk]; simp only [ne_eq, Option.some.injEq]; omega)
              have hD7 := ((hbn).below ((Below.refl _ _).alloc (Nat.le_refl _) (.cells #[.slice (some ⟨ga, 0, none⟩) L.length ca, .slice (some ⟨gb, 0, none⟩) L.length cb] 24))).g2 hg7 (.inl rfl)
              have hF7 := ((hbn).below ((Below.refl _ _).alloc (Nat.le_refl _) (.cells #[.slice (some ⟨ga, 0, none⟩) L.length ca, .slice (some ⟨gb, 0, none⟩) L.length cb] 24))).g2 hg7 (.inl rfl)
              have cA7 := Alike_any none none 0 0 [] [] w7 hD7 hF7
              rw [beq_self_eq_true] at cA7
              clear hBA hD7 hF7 hg7
              go_wp2_with fail
              refine (refSum_any bo bc all w7 hall7 (by omega)).mono ?_
              rintro e w8 ⟨rfl, rfl⟩
              go_wp2_with fail
              refine cA7.mono ?_
              rintro e w9 ⟨rfl, rfl⟩
              clear cA7 hall7
              have hBF := hG2.bel.trans (hB7.mono hG2.bel.size)
              go_wp2_with fail
              refine (heads_any _ (hT.below hBF)).mono ?_
              rintro e w10 ⟨rfl, hb10⟩
              have hBZ := hBF.trans (hb10.mono hBF.size)
              go_wp2_with fail
              go_ret
              exact ⟨rfl, hBZ⟩
end Go.Proofs.YtckcdgobgpjdkaaDoor.Oct
