/- The law OctetBack, as it is walked. -/
import Derived.Test.YtckcdgobgpjdkaaDoorBk2
namespace Go.Proofs.YtckcdgobgpjdkaaDoor.Oct
open Go.RowKit

set_option maxHeartbeats 4000000 in
set_option maxRecDepth 100000 in
theorem backs_any (ao : Option Addr) (c : Nat) (ps : List PV) (w : World) (hps : Pcs w ao ps) (hlen : ps.length ≤ 1048576) (hT : Tabs w) (hV : VAll) :
    Calls Tryd.prog 5 #[.slice ao ps.length c] w fun e w' => e = .returned (.bool true) ∧ Below w.heap.size w w' := by
  have hR0 : WSt w (w.alloc (.cells #[.slice none 0 0] 26)) ⟨w.heap.size, 0, none⟩ none 0 [] :=
    ⟨⟨by simp, by simp, World.ownsRow_nil _ _ _ _, by simp [ob], by simp⟩, (Below.refl _ _).alloc (Nat.le_refl _) _, Nat.le_refl _⟩
  have hsf := fun (w : World) (a : Addr) (k : FloatKind) (b : Nat) (m : Mode) => run_store Tryd.prog w a (.float k b) m rfl
  go_enter Tryd.func5, Tryd.ntmps5
  go_wp2
  go_loopw [4, 5] (fun i _ wr => ∃ q : Nat, q ≤ ps.length ∧ i = .int .i64 q ∧ ∃ wo wc l, WSt w wr ⟨w.heap.size, 0, none⟩ wo wc l ∧ Wrote ps q l) (fun i _ _ => ps.length - (intOf i).toNat)
  case atStart => exact ⟨0, Nat.zero_le _, rfl, none, 0, [], hR0, by simp, by simp, by simp⟩
  case round =>
    obtain ⟨q, hq, rfl, wo, wc, l, hR, hW⟩ := hrel
    by_cases hlt : q < ps.length
    · have hlt' : (q : Int) < ps.length := by omega
      obtain ⟨x, hx⟩ : ∃ x, ps[q]? = some x := ⟨ps[q], by simp⟩
      have hWn := fun d => hW.next (d := d) hx
      have hll := hW.len
      obtain ⟨g, off, rfl, c0, c1, c2, c3, c4, hn, hf, hg, hss⟩ := hps q x hx
      obtain ⟨k, n, f, gg, s⟩ := x
      simp only at c0 c1 c2 c3 c4 hn hf hg hss
      have hgb : g < w.heap.size := World.block_lt_of_cell? w _ c0
      have d0 := (hR.bel.cell (p := ⟨g, off + q * 5, none⟩) hgb).trans c0
      have d1 := (hR.bel.cell (p := ⟨g, off + q * 5 + 1, none⟩) hgb).trans c1
      have d2 := (hR.bel.cell (p := ⟨g, off + q * 5 + 2, none⟩) hgb).trans c2
      have d3 := (hR.bel.cell (p := ⟨g, off + q * 5 + 3, none⟩) hgb).trans c3
      have d4 := (hR.bel.cell (p := ⟨g, off + q * 5 + 4, none⟩) hgb).trans c4
      clear c0 c1 c2 c3 c4 hx hps hR0 hV hW
      have hRa := hR.below ((Below.refl _ _).alloc (Nat.le_refl _) (.cells #[.int .i64 k, .int .u64 (n : Int), .float .f64 f, .float .f32 gg, .string s] 32))
      clear hR
      have hl47 : l.length + 4098 ≤ 140737488355328 := by omega
      have hgz : g < wr.heap.size := World.block_lt_of_cell? wr _ d0
      obtain ⟨m8, h8, h8l, H8⟩ : ∃ m8 : Nat, (n : Int) % 256 = (m8 : Int) ∧ m8 < 256 ∧ Hid (le 1 m8 = le 1 n) := ⟨n % 256, by omega, by omega, le_mod 1 n⟩
      obtain ⟨m16, h16, h16l, H16⟩ : ∃ m16 : Nat, IntKind.u16.wrap (n : Int) = (m16 : Int) ∧ m16 < 65536 ∧ Hid (le 2 m16 = le 2 n) := ⟨n % 65536, u16_wrap n, by omega, le_mod 2 n⟩
      obtain ⟨m32, h32, h32l, H32⟩ : ∃ m32 : Nat, (n : Int) % 4294967296 = (m32 : Int) ∧ m32 < 4294967296 ∧ Hid (le 4 m32 = le 4 n) := ⟨n % 4294967296, by omega, by omega, le_mod 4 n⟩
      by_cases e1 : k = 1
      · subst e1
        have hW1 := hWn (le 1 m8) (by simp [pby, H8.out]) (fun h => by cases h) (by rw [le_length]; decide)
        clear hWn
        go_wp2_with fail
        refine (U8_any w.heap.size 0 m8 l wo wc _ w.heap.size h8l hRa.wr (by omega)).mono ?_
        rintro e w1 ⟨rfl, wo1, wc1, hw1, hf1⟩
        have hR1 := hRa.put hw1 hf1
        clear hw1 hf1 hRa
        go_wp2_with fail
        exact ⟨⟨q + 1, by omega, by go_num, wo1, wc1, _, hR1, hW1⟩, by simp [intOf]; omega⟩
      by_cases e2 : k = 2
      · subst e2
        have hW1 := hWn (le 2 m16) (by simp [pby, H16.out]) (fun h => by cases h) (by rw [le_length]; decide)
        clear hWn
        go_wp2_with fail
        refine (U16_any w.heap.size 0 m16 l wo wc _ w.heap.size h16l hRa.wr (by omega)).mono ?_
        rintro e w1 ⟨rfl, wo1, wc1, hw1, hf1⟩
        have hR1 := hRa.put hw1 hf1
        clear hw1 hf1 hRa
        go_wp2_with fail
        exact ⟨⟨q + 1, by omega, by go_num, wo1, wc1, _, hR1, hW1⟩, by simp [intOf]; omega⟩
      by_cases e3 : k = 3
      · subst e3
        have hW1 := hWn (le 4 m32) (by simp [pby, H32.out]) (fun h => by cases h) (by rw [le_length]; decide)
        clear hWn
        go_wp2_with fail
        refine (U32_any w.heap.size 0 m32 l wo wc _ w.heap.size h32l hRa.wr (by omega)).mono ?_
        rintro e w1 ⟨rfl, wo1, wc1, hw1, hf1⟩
        have hR1 := hRa.put hw1 hf1
        clear hw1 hf1 hRa
        go_wp2_with fail
        exact ⟨⟨q + 1, by omega, by go_num, wo1, wc1, _, hR1, hW1⟩, by simp [intOf]; omega⟩
      by_cases e4 : k = 4
      · subst e4
        have hW1 := hWn (le 8 n) (by simp [pby]) (fun h => by cases h) (by rw [le_length]; decide)
        clear hWn
        go_wp2_with fail
        refine (U64_any w.heap.size 0 n l wo wc _ w.heap.size hn hRa.wr (by omega)).mono ?_
        rintro e w1 ⟨rfl, wo1, wc1, hw1, hf1⟩
        have hR1 := hRa.put hw1 hf1
        clear hw1 hf1 hRa
        go_wp2_with fail
        exact ⟨⟨q + 1, by omega, by go_num, wo1, wc1, _, hR1, hW1⟩, by simp [intOf]; omega⟩
      by_cases e5 : k = 5
      · subst e5
        have hW1 := hWn (le 8 (can64 f)) (by simp [pby]) (fun h => by cases h) (by rw [le_length]; decide)
        clear hWn
        go_wp2_with fail
        refine (F64_any w.heap.size 0 f l wo wc _ w.heap.size hf hRa.wr (by omega)).mono ?_
        rintro e w1 ⟨rfl, wo1, wc1, hw1, hf1⟩
        have hR1 := hRa.put hw1 hf1
        clear hw1 hf1 hRa
        go_wp2_with fail
        exact ⟨⟨q + 1, by omega, by go_num, wo1, wc1, _, hR1, hW1⟩, by simp [intOf]; omega⟩
      by_cases e6 : k = 6
      · subst e6
        have hW1 := hWn (le 4 (can32 gg)) (by simp [pby]) (fun h => by cases h) (by rw [le_length]; decide)
        clear hWn
        go_wp2_with fail
        refine (F32_any w.heap.size 0 gg l wo wc _ w.heap.size hg hRa.wr (by omega)).mono ?_
        rintro e w1 ⟨rfl, wo1, wc1, hw1, hf1⟩
        have hR1 := hRa.put hw1 hf1
        clear hw1 hf1 hRa
        go_wp2_with fail
        exact ⟨⟨q + 1, by omega, by go_num, wo1, wc1, _, hR1, hW1⟩, by simp [intOf]; omega⟩
      by_cases e7 : k = 7
      · subst e7
        have htb : (textBytes s.data.toList).length ≤ 4098 := textBytes_le s
        have hTa := hT.below hRa.bel
        by_cases hok : textErr s.data.toList = 0
        · have hW1 := hWn (textBytes s.data.toList) (by simp [pby]) (fun _ => hok) htb
          clear hWn
          go_wp2_with fail
          refine (Text_any w.heap.size 0 s l wo wc _ w.heap.size hRa.wr hTa (by omega) (by omega)).mono ?_
          rintro e w1 ⟨rfl, wo1, wc1, hw1, hf1⟩
          have hR1 := hRa.put hw1 hf1
          clear hw1 hf1 hRa hTa
          rw [hok]
          go_wp2_with fail
          exact ⟨⟨q + 1, by omega, by go_num, wo1, wc1, _, hR1, hW1⟩, by simp [intOf]; omega⟩
        · clear hWn
          go_wp2_with fail
          refine (Text_any w.heap.size 0 s l wo wc _ w.heap.size hRa.wr hTa (by omega) (by omega)).mono ?_
          rintro e w1 ⟨rfl, wo1, wc1, hw1, hf1⟩
          have hR1 := hRa.put hw1 hf1
          have hB1 := hR1.bel
          clear hw1 hf1 hRa hTa hR1 htb
          generalize textErr s.data.toList = te at *
          have hteb : (te == 0) = false := by rw [beq_eq_false_iff_ne]; exact hok
          go_wp2_with (go_at_call 21; refine (heads_any _ (hT.below hB1)).mono ?_; rintro e w2 ⟨rfl, hb2⟩)
          go_ret
          exact ⟨rfl, hB1.trans (hb2.mono hB1.size)⟩
      · have z1 : (k == 1) = false := by rw [beq_eq_false_iff_ne]; exact e1
        have z2 : (k == 2) = false := by rw [beq_eq_false_iff_ne]; exact e2
        have z3 : (k == 3) = false := by rw [beq_eq_false_iff_ne]; exact e3
        have z4 : (k == 4) = false := by rw [beq_eq_false_iff_ne]; exact e4
        have z5 : (k == 5) = false := by rw [beq_eq_false_iff_ne]; exact e5
        have z6 : (k == 6) = false := by rw [beq_eq_false_iff_ne]; exact e6
        have z7 : (k == 7) = false := by rw [beq_eq_false_iff_ne]; exact e7
        have hW1 := hWn [] (by simp [pby, e1, e2, e3, e4, e5, e6, e7]) (fun h => absurd h e7) (Nat.zero_le _)
        rw [List.append_nil] at hW1
        clear hWn e1 e2 e3 e4 e5 e6 e7
        go_wp2_with fail
        exact ⟨⟨q + 1, by omega, by go_num, wo, wc, _, hRa, hW1⟩, by simp [intOf]; omega⟩
    · have hlt' : ¬ (q : Int) < ps.length := by omega
      obtain rfl : ps.length = q := by omega
      have hlq := hW.len
      have hcell := hR.wr.cell
      have hLn : Hid ((l ++ le 4 (crc l)).length = l.length + 4) := hide (by rw [List.length_append, le_length])
      have hall : Hid (l = ps.flatMap pby) := hide (by rw [hW.eq, List.take_length])
      have hoks : ∀ x ∈ ps, pok x := fun x hx => hW.ok x (by rw [List.take_length]; exact hx)
      clear hW hR0 hlt hq
      go_wp2_with fail
      refine (Seal_any wo wc l wr (Bs.of_own hR.wr.own) (by omega)).mono ?_
      rintro e w1 ⟨g1, c1, rfl, hf1⟩
      have hR1 := hR.below hf1.below
      have hcl : l.length + 4 ≤ c1 := by rw [← hLn.out]; exact hf1.len_le
      rw [hLn.out]
      go_wp2_with fail
      refine (Open_any g1 0 c1 (l ++ le 4 (crc l)) l l.length (crc l) w1 hf1.bs hLn.out (by rw [hLn.out]; exact hcl) (by rw [hLn.out]; omega) (by rw [List.take_left]) (by rw [List.drop_left, num_le 4 _ (crc_lt l)])).mono ?_
      rintro e w2 ⟨hopen, -⟩
      obtain ⟨ao2, c2, rfl, hf2⟩ := hopen rfl
      have hR2 := hR1.below hf2.below
      have hbs2 := hf2.bs
      clear hopen hf1 hf2 hR hR1 hcell hLn hcl
      go_wp2_with fail
      by_cases hnil : l = []
      · subst hnil
        simp only [List.length_nil] at *
        refine (NewReader_empty ao2 c2 w2).mono ?_
        rintro e w3 ⟨pb, ao3, c3, rfl, hb3, hp0, hp1, hpb⟩
        have hR3 := hR2.below hb3
        have hcell := hR3.wr.cell
        rw [List.length_nil] at hcell
        have cA := Alike_any ao2 wo c2 wc [] [] w3 (hbs2.below hb3) (Bs.of_own hR3.wr.own)
        rw [beq_self_eq_true, List.length_nil] at cA
        have hbel := hR3.bel
        clear hR3 hR2 hbs2
        go_wp2_with fail
        refine cA.mono ?_
        rintro e w4 ⟨rfl, rfl⟩
        clear cA hcell
        go_wp2_with fail
        go_loopw [9] (fun j wx => ∃ q : Nat, q ≤ ps.length ∧ j = .int .i64 q ∧ wx.cell? ⟨pb, 0, none⟩ = some (.slice ao3 0 c3) ∧ wx.cell? ⟨pb, 1, none⟩ = some (.bool true) ∧ Below w.heap.size w wx) (fun j _ => ps.length - (intOf j).toNat)
        case atStart => exact ⟨0, Nat.zero_le _, rfl, hp0, hp1, hbel⟩
        case round =>
          clear hp0 hp1 hbel
          obtain ⟨q, hq, rfl, hp0, hp1, hbel⟩ := hrel
          by_cases hlt : q < ps.length
          · have hlt' : (q : Int) < ps.length := by omega
            obtain ⟨x, hx⟩ : ∃ x, ps[q]? = some x := ⟨ps[q], by simp⟩
            have hxm : x ∈ ps := List.mem_of_getElem? hx
            have hx0 : pby x = [] := (List.flatMap_eq_nil_iff.1 hall.out.symm) x hxm
            obtain ⟨e1, e2, e3, e4, e5, e6, e7⟩ := pby_nil (hoks x hxm) hx0
            obtain ⟨g, off, rfl, c0, c1, c2, c3, c4, hn, hf, hg, hss⟩ := hps q x hx
            obtain ⟨k, n, f, gg, s⟩ := x
            simp only at c0 c1 c2 c3 c4 hn hf hg hss e1 e2 e3 e4 e5 e6 e7
            have hgb : g < w.heap.size := World.block_lt_of_cell? w _ c0
            have d0 := (hbel.cell (p := ⟨g, off + q * 5, none⟩) hgb).trans c0
            have d1 := (hbel.cell (p := ⟨g, off + q * 5 + 1, none⟩) hgb).trans c1
            have d2 := (hbel.cell (p := ⟨g, off + q * 5 + 2, none⟩) hgb).trans c2
            have d3 := (hbel.cell (p := ⟨g, off + q * 5 + 3, none⟩) hgb).trans c3
            have d4 := (hbel.cell (p := ⟨g, off + q * 5 + 4, none⟩) hgb).trans c4
            have cB := fun W => back_0 (.pointer (some ⟨pb, 0, none⟩)) k n f gg s W e1 e2 e3 e4 e5 e6 e7
            clear c0 c1 c2 c3 c4 hx hps hx0 hxm e1 e2 e3 e4 e5 e6 e7
            go_wp2_with fail
            refine (cB _).mono ?_
            rintro e w5 ⟨rfl, hb5⟩
            have hpl := World.block_lt_of_cell? wr ⟨pb, 0, none⟩ hp0
            have p0 := (hb5.cell (p := ⟨pb, 0, none⟩) hpl).trans hp0
            have p1 := (hb5.cell (p := ⟨pb, 1, none⟩) hpl).trans hp1
            clear d0 d1 d2 d3 d4 cB
            go_wp2_with fail
            exact ⟨⟨q + 1, by omega, by go_num, p0, p1, hbel.trans (hb5.mono hbel.size)⟩, by simp [intOf]; omega⟩
          · have hlt' : ¬ (q : Int) < ps.length := by omega
            go_wp2_with fail
            refine (End_empty pb 0 ao3 c3 _ hp0 hp1).mono ?_
            rintro e w5 ⟨rfl, rfl⟩
            go_wp2_with (go_at_call 21; refine (heads_any _ (hT.below hbel)).mono ?_; rintro e w6 ⟨rfl, hb6⟩)
            go_ret
            exact ⟨rfl, hbel.trans (hb6.mono hbel.size)⟩
      · refine (NewReader_any ao2 c2 l w2 hbs2 (by omega) hnil).mono ?_
        rintro e w3 ⟨pb, g3, c3, rfl, hb3, hrd, hpb, hg3, hc3⟩
        have hR3 := hR2.below hb3
        have hcell := hR3.wr.cell
        have cA := Alike_any ao2 wo c2 wc l l w3 (hbs2.below hb3) (Bs.of_own hR3.wr.own)
        rw [beq_self_eq_true] at cA
        have hbel := hR3.bel
        have hpw : w.heap.size ≤ pb := Nat.le_trans hR2.bel.size hpb
        clear hR3 hR2 hbs2
        go_wp2_with fail
        refine cA.mono ?_
        rintro e w4 ⟨rfl, rfl⟩
        clear cA hcell
        go_wp2_with fail
        rw [hall.out] at hrd
        clear hall hlq hnil
        go_loopw [9] (fun j wx => ∃ q : Nat, q ≤ ps.length ∧ j = .int .i64 q ∧ (∃ off' c', Rd wx pb 0 g3 off' c' ((ps.drop q).flatMap pby) ∧ c' ≤ 9223372036854775807) ∧ Below w.heap.size w wx) (fun j _ => ps.length - (intOf j).toNat)
        case atStart => exact ⟨0, Nat.zero_le _, rfl, ⟨0, c3, hrd, hc3⟩, hbel⟩
        case round =>
          clear hrd hbel
          obtain ⟨q, hq, rfl, ⟨o4, c4, hrd, hc4⟩, hbel⟩ := hrel
          by_cases hlt : q < ps.length
          · have hlt' : (q : Int) < ps.length := by omega
            obtain ⟨x, hx⟩ : ∃ x, ps[q]? = some x := ⟨ps[q], by simp⟩
            have hxm : x ∈ ps := List.mem_of_getElem? hx
            have hdr : (ps.drop q).flatMap pby = pby x ++ (ps.drop (q + 1)).flatMap pby := by
              rw [List.drop_eq_getElem_cons hlt, List.flatMap_cons]
              rw [List.getElem?_eq_getElem hlt] at hx
              cases hx
              rfl
            rw [hdr] at hrd
            obtain ⟨g, off, rfl, c0, c1, c2, c3, c5, hn, hf, hg, hss⟩ := hps q x hx
            have cB := back_all pb 0 g3 o4 c4 w.heap.size x _ wr hrd hc4 hn hf hg hpw hbel.size (hT.below hbel) hV (hoks x hxm)
            obtain ⟨k, n, f, gg, s⟩ := x
            simp only at c0 c1 c2 c3 c5 cB
            have hgb : g < w.heap.size := World.block_lt_of_cell? w _ c0
            have d0 := (hbel.cell (p := ⟨g, off + q * 5, none⟩) hgb).trans c0
            have d1 := (hbel.cell (p := ⟨g, off + q * 5 + 1, none⟩) hgb).trans c1
            have d2 := (hbel.cell (p := ⟨g, off + q * 5 + 2, none⟩) hgb).trans c2
            have d3 := (hbel.cell (p := ⟨g, off + q * 5 + 3, none⟩) hgb).trans c3
            have d4 := (hbel.cell (p := ⟨g, off + q * 5 + 4, none⟩) hgb).trans c5
            clear c0 c1 c2 c3 c5 hx hps hxm hrd hdr hn hf hg hss
            go_wp2_with fail
            refine cB.mono ?_
            rintro e w5 ⟨rfl, ⟨o6, c6, hr6, hc6⟩, hb5⟩
            clear d0 d1 d2 d3 d4 cB
            go_wp2_with fail
            exact ⟨⟨q + 1, by omega, by go_num, ⟨o6, c6, hr6, by omega⟩, hbel.trans hb5⟩, by simp [intOf]; omega⟩
          · have hlt' : ¬ (q : Int) < ps.length := by omega
            rw [List.drop_of_length_le (by omega), List.flatMap_nil] at hrd
            go_wp2_with fail
            refine (End_ok pb 0 g3 o4 c4 _ hrd).mono ?_
            rintro e w5 ⟨rfl, rfl⟩
            go_wp2_with (go_at_call 21; refine (heads_any _ (hT.below hbel)).mono ?_; rintro e w6 ⟨rfl, hb6⟩)
            go_ret
            exact ⟨rfl, hbel.trans (hb6.mono hbel.size)⟩
end Go.Proofs.YtckcdgobgpjdkaaDoor.Oct
