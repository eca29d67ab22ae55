/- The law OctetWrites, as it is walked. -/
import Derived.Test.YtckcdgobgpjdkaaDoorRT
import Derived.Test.YtckcdgobgpjdkaaDoorHd
namespace Go.Proofs.YtckcdgobgpjdkaaDoor.Oct
open Go.RowKit

/-- A piece's parts. -/
structure PV where
  k : Int
  n : Nat
  f : Nat
  g : Nat
  s : ByteArray
/-- The pieces as they lie in memory. -/
def Pcs (w : World) (ao : Option Addr) (ps : List PV) : Prop := ∀ i x, ps[i]? = some x → ∃ g off, ao = some ⟨g, off, none⟩ ∧
  w.cell? ⟨g, off + i * 5, none⟩ = some (.int .i64 x.k) ∧ w.cell? ⟨g, off + i * 5 + 1, none⟩ = some (.int .u64 (x.n : Int)) ∧ w.cell? ⟨g, off + i * 5 + 2, none⟩ = some (.float .f64 x.f) ∧
  w.cell? ⟨g, off + i * 5 + 3, none⟩ = some (.float .f32 x.g) ∧ w.cell? ⟨g, off + i * 5 + 4, none⟩ = some (.string x.s) ∧ x.n < 18446744073709551616 ∧ x.f < 18446744073709551616 ∧ x.g < 4294967296 ∧ x.s.size ≤ 9223372036854775800
theorem u16_wrap (n : Nat) : IntKind.u16.wrap (n : Int) = ((n % 65536 : Nat) : Int) := by
  rw [IntKind.wrap]
  simp only [IntKind.bits, IntKind.signed, Bool.false_and, Bool.false_eq_true, if_false]
  omega

theorem textBytes_le (s : ByteArray) : (textBytes s.data.toList).length ≤ 4098 := by
  unfold textBytes
  by_cases h : 4096 < s.data.toList.length
  · have e1 : textErr s.data.toList = 12 := by unfold textErr; rw [if_pos h]
    rw [e1, if_neg (by decide)]
    exact Nat.zero_le _
  · split
    · rw [List.length_append, le_length]; omega
    · exact Nat.zero_le _

set_option maxHeartbeats 4000000 in
set_option maxRecDepth 100000 in
theorem writes_any (ao : Option Addr) (c : Nat) (ps : List PV) (w : World) (hps : Pcs w ao ps) (hlen : ps.length ≤ 1048576) (hT : Tabs w) :
    Calls Tryd.prog 3 #[.slice ao ps.length c] w fun e w' => e = .returned (.bool true) ∧ Below w.heap.size w w' := by
  have hR0 : Rnd w (w.alloc (.cells #[.slice none 0 0] 26)) ⟨w.heap.size, 0, none⟩ none 0 none 0 [] :=
    ⟨⟨by simp, by simp, World.ownsRow_nil _ _ _ _, by simp [ob], by simp⟩, World.ownsRow_nil _ _ _ _, .inl rfl, (Below.refl _ _).alloc (Nat.le_refl _) _, Nat.le_refl _⟩
  have hsf := fun (w : World) (a : Addr) (k : FloatKind) (b : Nat) (m : Mode) => run_store Tryd.prog w a (.float k b) m rfl
  go_enter Tryd.func3, Tryd.ntmps3
  go_wp2
  go_loopw [4, 5, 6, 7, 8, 9] (fun b i _ _ _ _ wr => ∃ q : Nat, q ≤ ps.length ∧ i = .int .i64 q ∧ ∃ wo wc bo bc l, b = .slice bo (List.length l) bc ∧ Rnd w wr ⟨w.heap.size, 0, none⟩ wo wc bo bc l ∧ l.length ≤ q * 4098) (fun _ i _ _ _ _ _ => ps.length - (intOf i).toNat)
  case atStart => exact ⟨0, Nat.zero_le _, rfl, none, 0, none, 0, [], rfl, hR0, Nat.le_refl _⟩
  case round =>
    obtain ⟨q, hq, rfl, wo, wc, bo, bc, l, rfl, hR, hll⟩ := hrel
    by_cases hlt : q < ps.length
    · have hlt' : (q : Int) < ps.length := by omega
      obtain ⟨x, hx⟩ : ∃ x, ps[q]? = some x := ⟨ps[q], by simp⟩
      obtain ⟨g, off, rfl, c0, c1, c2, c3, c4, hn, hf, hg, hss⟩ := hps q x hx
      obtain ⟨k, n, f, gg, s⟩ := x
      simp only at c0 c1 c2 c3 c4 hn hf hg hss
      have hgb : g < w.heap.size := World.block_lt_of_cell? w _ c0
      have d0 := (hR.bel.cell (p := ⟨g, off + q * 5, none⟩) hgb).trans c0
      have d1 := (hR.bel.cell (p := ⟨g, off + q * 5 + 1, none⟩) hgb).trans c1
      have d2 := (hR.bel.cell (p := ⟨g, off + q * 5 + 2, none⟩) hgb).trans c2
      have d3 := (hR.bel.cell (p := ⟨g, off + q * 5 + 3, none⟩) hgb).trans c3
      have d4 := (hR.bel.cell (p := ⟨g, off + q * 5 + 4, none⟩) hgb).trans c4
      clear c0 c1 c2 c3 c4 hx hps hR0
      have hRa := hR.below ((Below.refl _ _).alloc (Nat.le_refl _) (.cells #[.int .i64 k, .int .u64 (n : Int), .float .f64 f, .float .f32 gg, .string s] 32))
      have hxne : some wr.heap.size ≠ ob wo := fun e => by have := (hR.wr.own.lt wr.heap.size (by rw [ob_eq]; exact e.symm)).2; omega
      have hpne : wr.heap.size ≠ w.heap.size := fun e => by have := World.block_lt_of_cell? wr _ hR.wr.cell; simp at this; omega
      clear hR
      have hl47 : l.length + 4098 ≤ 140737488355328 := by omega
      have hgz : g < wr.heap.size := World.block_lt_of_cell? wr _ d0
      obtain ⟨m8, h8, h8l, H8⟩ : ∃ m8 : Nat, (n : Int) % 256 = (m8 : Int) ∧ m8 < 256 ∧ Hid (le 1 m8 = le 1 n) := ⟨n % 256, by omega, by omega, le_mod 1 n⟩
      obtain ⟨m16, h16, h16l, H16⟩ : ∃ m16 : Nat, IntKind.u16.wrap (n : Int) = (m16 : Int) ∧ m16 < 65536 ∧ Hid (le 2 m16 = le 2 n) := ⟨n % 65536, u16_wrap n, by omega, le_mod 2 n⟩
      obtain ⟨m32, h32, h32l, H32⟩ : ∃ m32 : Nat, (n : Int) % 4294967296 = (m32 : Int) ∧ m32 < 4294967296 ∧ Hid (le 4 m32 = le 4 n) := ⟨n % 4294967296, by omega, by omega, le_mod 4 n⟩
      by_cases e1 : k = 1
      · subst e1
        go_wp2_with fail
        refine (U8_any w.heap.size 0 m8 l wo wc _ w.heap.size h8l hRa.wr (by omega)).mono ?_
        rintro e w1 ⟨rfl, wo1, wc1, hw1, hf1⟩
        have hblk := hf1.block wr.heap.size (by simp) hpne hxne
        have x1 := World.cell?_of_block (a := ⟨wr.heap.size, 1, none⟩) hblk
        simp at x1
        go_wp2_with fail
        refine (Num_any n 1 _ hn (by decide)).mono ?_
        rintro e w2 ⟨ta, tc, rfl, hf2⟩
        have hM := hRa.mid (d := le 1 n) (by rw [← H8.out]; exact hw1) hf1 hf2
        clear hw1 hf1 hf2 hblk x1 hRa
        have hlD : (l ++ le 1 n).length = l.length + 1 := by rw [List.length_append, le_length]
        have hMs := hM.src.src (P := Tryd.prog) (c := tc) (tx := 24) Tryd.underlying24
        rw [le_length] at hMs
        have hrow := hM.row
        have hbase := hM.wr.base
        have HlD := hide hlD
        clear hlD
        go_wp2_with (at_builtin; refine wpList_append_src rfl _ _ 24 24 rfl w.heap.size 5 Tryd.underlying24 info5 bo l.length bc l rfl hrow (.slice ta (1) tc) (1) (le 1 n) rfl hMs (by omega) hbase ?_)
        intro bo3 bc3 w3 hown3 hg3 hat3
        have hR3 := hM.next (d := le 1 n) (by rw [le_length]; exact hown3) hg3 hat3
        have hc3 := hR3.wr.cell
        rw [HlD.out] at hc3
        have cA := Alike_any wo1 bo3 wc1 bc3 _ _ w3 (Bs.of_own hR3.wr.own) (Bs.of_own hR3.row)
        rw [beq_self_eq_true, HlD.out] at cA
        clear hM hMs hrow hown3 hg3 hat3 hbase
        go_wp2_with fail
        refine cA.mono ?_
        rintro e w4 ⟨rfl, rfl⟩
        clear cA hc3
        go_wp2_with fail
        exact ⟨⟨q + 1, by omega, by go_num, wo1, wc1, bo3, bc3, l ++ le 1 n, by rw [HlD.out], hR3, by rw [HlD.out]; omega⟩, by simp [intOf]; omega⟩
      by_cases e2 : k = 2
      · subst e2
        go_wp2_with fail
        refine (U16_any w.heap.size 0 m16 l wo wc _ w.heap.size h16l hRa.wr (by omega)).mono ?_
        rintro e w1 ⟨rfl, wo1, wc1, hw1, hf1⟩
        have hblk := hf1.block wr.heap.size (by simp) hpne hxne
        have x1 := World.cell?_of_block (a := ⟨wr.heap.size, 1, none⟩) hblk
        simp at x1
        go_wp2_with fail
        refine (Num_any n 2 _ hn (by decide)).mono ?_
        rintro e w2 ⟨ta, tc, rfl, hf2⟩
        have hM := hRa.mid (d := le 2 n) (by rw [← H16.out]; exact hw1) hf1 hf2
        clear hw1 hf1 hf2 hblk x1 hRa
        have hlD : (l ++ le 2 n).length = l.length + 2 := by rw [List.length_append, le_length]
        have hMs := hM.src.src (P := Tryd.prog) (c := tc) (tx := 24) Tryd.underlying24
        rw [le_length] at hMs
        have hrow := hM.row
        have hbase := hM.wr.base
        have HlD := hide hlD
        clear hlD
        go_wp2_with (at_builtin; refine wpList_append_src rfl _ _ 24 24 rfl w.heap.size 5 Tryd.underlying24 info5 bo l.length bc l rfl hrow (.slice ta (2) tc) (2) (le 2 n) rfl hMs (by omega) hbase ?_)
        intro bo3 bc3 w3 hown3 hg3 hat3
        have hR3 := hM.next (d := le 2 n) (by rw [le_length]; exact hown3) hg3 hat3
        have hc3 := hR3.wr.cell
        rw [HlD.out] at hc3
        have cA := Alike_any wo1 bo3 wc1 bc3 _ _ w3 (Bs.of_own hR3.wr.own) (Bs.of_own hR3.row)
        rw [beq_self_eq_true, HlD.out] at cA
        clear hM hMs hrow hown3 hg3 hat3 hbase
        go_wp2_with fail
        refine cA.mono ?_
        rintro e w4 ⟨rfl, rfl⟩
        clear cA hc3
        go_wp2_with fail
        exact ⟨⟨q + 1, by omega, by go_num, wo1, wc1, bo3, bc3, l ++ le 2 n, by rw [HlD.out], hR3, by rw [HlD.out]; omega⟩, by simp [intOf]; omega⟩
      by_cases e3 : k = 3
      · subst e3
        go_wp2_with fail
        refine (U32_any w.heap.size 0 m32 l wo wc _ w.heap.size h32l hRa.wr (by omega)).mono ?_
        rintro e w1 ⟨rfl, wo1, wc1, hw1, hf1⟩
        have hblk := hf1.block wr.heap.size (by simp) hpne hxne
        have x1 := World.cell?_of_block (a := ⟨wr.heap.size, 1, none⟩) hblk
        simp at x1
        go_wp2_with fail
        refine (Num_any n 4 _ hn (by decide)).mono ?_
        rintro e w2 ⟨ta, tc, rfl, hf2⟩
        have hM := hRa.mid (d := le 4 n) (by rw [← H32.out]; exact hw1) hf1 hf2
        clear hw1 hf1 hf2 hblk x1 hRa
        have hlD : (l ++ le 4 n).length = l.length + 4 := by rw [List.length_append, le_length]
        have hMs := hM.src.src (P := Tryd.prog) (c := tc) (tx := 24) Tryd.underlying24
        rw [le_length] at hMs
        have hrow := hM.row
        have hbase := hM.wr.base
        have HlD := hide hlD
        clear hlD
        go_wp2_with (at_builtin; refine wpList_append_src rfl _ _ 24 24 rfl w.heap.size 5 Tryd.underlying24 info5 bo l.length bc l rfl hrow (.slice ta (4) tc) (4) (le 4 n) rfl hMs (by omega) hbase ?_)
        intro bo3 bc3 w3 hown3 hg3 hat3
        have hR3 := hM.next (d := le 4 n) (by rw [le_length]; exact hown3) hg3 hat3
        have hc3 := hR3.wr.cell
        rw [HlD.out] at hc3
        have cA := Alike_any wo1 bo3 wc1 bc3 _ _ w3 (Bs.of_own hR3.wr.own) (Bs.of_own hR3.row)
        rw [beq_self_eq_true, HlD.out] at cA
        clear hM hMs hrow hown3 hg3 hat3 hbase
        go_wp2_with fail
        refine cA.mono ?_
        rintro e w4 ⟨rfl, rfl⟩
        clear cA hc3
        go_wp2_with fail
        exact ⟨⟨q + 1, by omega, by go_num, wo1, wc1, bo3, bc3, l ++ le 4 n, by rw [HlD.out], hR3, by rw [HlD.out]; omega⟩, by simp [intOf]; omega⟩
      by_cases e4 : k = 4
      · subst e4
        go_wp2_with fail
        refine (U64_any w.heap.size 0 n l wo wc _ w.heap.size hn hRa.wr (by omega)).mono ?_
        rintro e w1 ⟨rfl, wo1, wc1, hw1, hf1⟩
        have hblk := hf1.block wr.heap.size (by simp) hpne hxne
        have x1 := World.cell?_of_block (a := ⟨wr.heap.size, 1, none⟩) hblk
        simp at x1
        go_wp2_with fail
        refine (Num_any n 8 _ hn (by decide)).mono ?_
        rintro e w2 ⟨ta, tc, rfl, hf2⟩
        have hM := hRa.mid (d := le 8 n) (by exact hw1) hf1 hf2
        clear hw1 hf1 hf2 hblk x1 hRa
        have hlD : (l ++ le 8 n).length = l.length + 8 := by rw [List.length_append, le_length]
        have hMs := hM.src.src (P := Tryd.prog) (c := tc) (tx := 24) Tryd.underlying24
        rw [le_length] at hMs
        have hrow := hM.row
        have hbase := hM.wr.base
        have HlD := hide hlD
        clear hlD
        go_wp2_with (at_builtin; refine wpList_append_src rfl _ _ 24 24 rfl w.heap.size 5 Tryd.underlying24 info5 bo l.length bc l rfl hrow (.slice ta (8) tc) (8) (le 8 n) rfl hMs (by omega) hbase ?_)
        intro bo3 bc3 w3 hown3 hg3 hat3
        have hR3 := hM.next (d := le 8 n) (by rw [le_length]; exact hown3) hg3 hat3
        have hc3 := hR3.wr.cell
        rw [HlD.out] at hc3
        have cA := Alike_any wo1 bo3 wc1 bc3 _ _ w3 (Bs.of_own hR3.wr.own) (Bs.of_own hR3.row)
        rw [beq_self_eq_true, HlD.out] at cA
        clear hM hMs hrow hown3 hg3 hat3 hbase
        go_wp2_with fail
        refine cA.mono ?_
        rintro e w4 ⟨rfl, rfl⟩
        clear cA hc3
        go_wp2_with fail
        exact ⟨⟨q + 1, by omega, by go_num, wo1, wc1, bo3, bc3, l ++ le 8 n, by rw [HlD.out], hR3, by rw [HlD.out]; omega⟩, by simp [intOf]; omega⟩
      by_cases e5 : k = 5
      · subst e5
        have hcl : can64 f < 18446744073709551616 := can64_lt hf
        go_wp2_with fail
        refine (F64_any w.heap.size 0 f l wo wc _ w.heap.size hf hRa.wr (by omega)).mono ?_
        rintro e w1 ⟨rfl, wo1, wc1, hw1, hf1⟩
        have hblk := hf1.block wr.heap.size (by simp) hpne hxne
        have x1 := World.cell?_of_block (a := ⟨wr.heap.size, 2, none⟩) hblk
        simp at x1
        go_wp2_with fail
        refine (Bits64_any f _).mono ?_
        rintro e w1b ⟨rfl, rfl⟩
        go_wp2_with fail
        refine (Num_any (can64 f) 8 _ hcl (by decide)).mono ?_
        rintro e w2 ⟨ta, tc, rfl, hf2⟩
        have hM := hRa.mid (d := le 8 (can64 f)) hw1 hf1 hf2
        clear hw1 hf1 hf2 hblk x1 hRa
        have hlD : (l ++ le 8 (can64 f)).length = l.length + 8 := by rw [List.length_append, le_length]
        have hMs := hM.src.src (P := Tryd.prog) (c := tc) (tx := 24) Tryd.underlying24
        rw [le_length] at hMs
        have hrow := hM.row
        have hbase := hM.wr.base
        have HlD := hide hlD
        clear hlD
        go_wp2_with (at_builtin; refine wpList_append_src rfl _ _ 24 24 rfl w.heap.size 5 Tryd.underlying24 info5 bo l.length bc l rfl hrow (.slice ta (8) tc) (8) (le 8 (can64 f)) rfl hMs (by omega) hbase ?_)
        intro bo3 bc3 w3 hown3 hg3 hat3
        have hR3 := hM.next (d := le 8 (can64 f)) (by rw [le_length]; exact hown3) hg3 hat3
        have hc3 := hR3.wr.cell
        rw [HlD.out] at hc3
        have cA := Alike_any wo1 bo3 wc1 bc3 _ _ w3 (Bs.of_own hR3.wr.own) (Bs.of_own hR3.row)
        rw [beq_self_eq_true, HlD.out] at cA
        clear hM hMs hrow hown3 hg3 hat3 hbase
        go_wp2_with fail
        refine cA.mono ?_
        rintro e w4 ⟨rfl, rfl⟩
        clear cA hc3
        go_wp2_with fail
        exact ⟨⟨q + 1, by omega, by go_num, wo1, wc1, bo3, bc3, l ++ le 8 (can64 f), by rw [HlD.out], hR3, by rw [HlD.out]; omega⟩, by simp [intOf]; omega⟩
      by_cases e6 : k = 6
      · subst e6
        have hcl : can32 gg < 18446744073709551616 := Nat.lt_trans (can32_lt hg) (by decide)
        go_wp2_with fail
        refine (F32_any w.heap.size 0 gg l wo wc _ w.heap.size hg hRa.wr (by omega)).mono ?_
        rintro e w1 ⟨rfl, wo1, wc1, hw1, hf1⟩
        have hblk := hf1.block wr.heap.size (by simp) hpne hxne
        have x1 := World.cell?_of_block (a := ⟨wr.heap.size, 3, none⟩) hblk
        simp at x1
        go_wp2_with fail
        refine (Bits32_any gg _ hg).mono ?_
        rintro e w1b ⟨rfl, rfl⟩
        go_wp2_with fail
        refine (Num_any (can32 gg) 4 _ hcl (by decide)).mono ?_
        rintro e w2 ⟨ta, tc, rfl, hf2⟩
        have hM := hRa.mid (d := le 4 (can32 gg)) hw1 hf1 hf2
        clear hw1 hf1 hf2 hblk x1 hRa
        have hlD : (l ++ le 4 (can32 gg)).length = l.length + 4 := by rw [List.length_append, le_length]
        have hMs := hM.src.src (P := Tryd.prog) (c := tc) (tx := 24) Tryd.underlying24
        rw [le_length] at hMs
        have hrow := hM.row
        have hbase := hM.wr.base
        have HlD := hide hlD
        clear hlD
        go_wp2_with (at_builtin; refine wpList_append_src rfl _ _ 24 24 rfl w.heap.size 5 Tryd.underlying24 info5 bo l.length bc l rfl hrow (.slice ta (4) tc) (4) (le 4 (can32 gg)) rfl hMs (by omega) hbase ?_)
        intro bo3 bc3 w3 hown3 hg3 hat3
        have hR3 := hM.next (d := le 4 (can32 gg)) (by rw [le_length]; exact hown3) hg3 hat3
        have hc3 := hR3.wr.cell
        rw [HlD.out] at hc3
        have cA := Alike_any wo1 bo3 wc1 bc3 _ _ w3 (Bs.of_own hR3.wr.own) (Bs.of_own hR3.row)
        rw [beq_self_eq_true, HlD.out] at cA
        clear hM hMs hrow hown3 hg3 hat3 hbase
        go_wp2_with fail
        refine cA.mono ?_
        rintro e w4 ⟨rfl, rfl⟩
        clear cA hc3
        go_wp2_with fail
        exact ⟨⟨q + 1, by omega, by go_num, wo1, wc1, bo3, bc3, l ++ le 4 (can32 gg), by rw [HlD.out], hR3, by rw [HlD.out]; omega⟩, by simp [intOf]; omega⟩
      by_cases e7 : k = 7
      · subst e7
        have htb : (textBytes s.data.toList).length ≤ 4098 := textBytes_le s
        have hTa := hT.below hRa.bel
        go_wp2_with fail
        refine (Text_any w.heap.size 0 s l wo wc _ w.heap.size hRa.wr hTa (by omega) (by omega)).mono ?_
        rintro e w1 ⟨rfl, wo1, wc1, hw1, hf1⟩
        have hblk := hf1.block wr.heap.size (by simp) hpne hxne
        have x1 := World.cell?_of_block (a := ⟨wr.heap.size, 4, none⟩) hblk
        simp at x1
        go_wp2_with fail
        refine (refText_any s _ hss).mono ?_
        rintro e w2 ⟨ta, tc, rfl, hf2⟩
        have hM := hRa.mid (d := textBytes s.data.toList) hw1 hf1 hf2
        clear hw1 hf1 hf2 hblk x1 hRa hTa
        generalize textErr s.data.toList = te
        generalize textBytes s.data.toList = dd at *
        have hlD : (l ++ dd).length = l.length + dd.length := by rw [List.length_append]
        have hMs := hM.src.src (P := Tryd.prog) (c := tc) (tx := 24) Tryd.underlying24
        have hrow := hM.row
        have hbase := hM.wr.base
        have HlD := hide hlD
        clear hlD
        go_wp2_with (at_builtin; refine wpList_append_src rfl _ _ 24 24 rfl w.heap.size 5 Tryd.underlying24 info5 bo l.length bc l rfl hrow (.slice ta (dd.length) tc) (dd.length) (dd) rfl hMs (by omega) hbase ?_)
        intro bo3 bc3 w3 hown3 hg3 hat3
        have hR3 := hM.next (d := dd) (by exact hown3) hg3 hat3
        have hc3 := hR3.wr.cell
        rw [HlD.out] at hc3
        have cA := Alike_any wo1 bo3 wc1 bc3 _ _ w3 (Bs.of_own hR3.wr.own) (Bs.of_own hR3.row)
        rw [beq_self_eq_true, HlD.out] at cA
        clear hM hMs hrow hown3 hg3 hat3 hbase
        go_wp2_with fail
        refine cA.mono ?_
        rintro e w4 ⟨rfl, rfl⟩
        clear cA hc3
        go_wp2_with fail
        exact ⟨⟨q + 1, by omega, by go_num, wo1, wc1, bo3, bc3, l ++ dd, by rw [HlD.out], hR3, by rw [HlD.out]; omega⟩, by simp [intOf]; omega⟩
      · have z1 : (k == 1) = false := by rw [beq_eq_false_iff_ne]; exact e1
        have z2 : (k == 2) = false := by rw [beq_eq_false_iff_ne]; exact e2
        have z3 : (k == 3) = false := by rw [beq_eq_false_iff_ne]; exact e3
        have z4 : (k == 4) = false := by rw [beq_eq_false_iff_ne]; exact e4
        have z5 : (k == 5) = false := by rw [beq_eq_false_iff_ne]; exact e5
        have z6 : (k == 6) = false := by rw [beq_eq_false_iff_ne]; exact e6
        have z7 : (k == 7) = false := by rw [beq_eq_false_iff_ne]; exact e7
        clear e1 e2 e3 e4 e5 e6 e7
        have hM : Mid w _ ⟨w.heap.size, 0, none⟩ wo wc bo bc l [] none := hRa.mid (d := []) (w1 := _) (w2 := _) (tc := 0) (by rw [List.append_nil]; exact hRa.wr) (Fr.refl _ _ _) ⟨Below.refl _ _, World.ownsRow_nil _ _ _ _⟩
        clear hRa
        have hrow := hM.row
        have hbase := hM.wr.base
        have hsrc : Src Tryd.prog 1 24 (.slice none 0 0) 0 (bv []) _ := Src.ofNil (wr.alloc (.cells #[.int .i64 k, .int .u64 (n : Int), .float .f64 f, .float .f32 gg, .string s] 32)) Tryd.underlying24 0
        go_wp2_with (at_builtin; refine wpList_append_src rfl _ _ 24 24 rfl w.heap.size 5 Tryd.underlying24 info5 bo l.length bc l rfl hrow (.slice none 0 0) 0 [] rfl hsrc (by omega) hbase ?_)
        intro bo3 bc3 w3 hown3 hg3 hat3
        have hR3 := hM.next (d := []) (by simpa using hown3) hg3 (by simpa using hat3)
        rw [List.append_nil] at hR3
        have hc3 := hR3.wr.cell
        have cA := Alike_any wo bo3 wc bc3 _ _ w3 (Bs.of_own hR3.wr.own) (Bs.of_own hR3.row)
        rw [beq_self_eq_true] at cA
        clear hM hsrc hrow hown3 hg3 hat3 hbase
        go_wp2_with fail
        refine cA.mono ?_
        rintro e w4 ⟨rfl, rfl⟩
        clear cA hc3
        go_wp2_with fail
        exact ⟨⟨q + 1, by omega, by go_num, wo, wc, bo3, bc3, l, rfl, hR3, by omega⟩, by simp [intOf]; omega⟩
    · have hlt' : ¬ (q : Int) < ps.length := by omega
      go_wp2_with (go_at_call 21; refine (heads_any _ (hT.below hR.bel)).mono ?_; rintro e w' ⟨rfl, hb⟩)
      go_ret
      exact ⟨rfl, hR.bel.trans (hb.mono hR.bel.size)⟩
end Go.Proofs.YtckcdgobgpjdkaaDoor.Oct
