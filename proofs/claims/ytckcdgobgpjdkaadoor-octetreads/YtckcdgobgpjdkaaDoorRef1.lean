/- The document's own copies, numbers, sums and seals, as they are walked. -/
import Derived.Test.YtckcdgobgpjdkaaDoorOpen
namespace Go.Proofs.YtckcdgobgpjdkaaDoor.Oct
open Go.RowKit

theorem ownsRow_mono {w : World} {B B' : Nat} {e : TypeId} {v : Value} {n : Nat} {xs : List Value} (h : w.ownsRow B e 1 v n xs) (hb : B' ≤ B) : w.ownsRow B' e 1 v n xs := by
  refine ⟨h.1, ?_⟩
  rcases h.2 with h0 | ⟨g, cap, cur, hv, hg, h1⟩
  · exact .inl h0
  · exact .inr ⟨g, cap, cur, hv, Nat.le_trans hb hg, h1⟩
theorem Fresh.bs {e : TypeId} {w w' : World} {ao : Option Addr} {c : Nat} {l : List UInt8} (h : Fresh e w w' ao c l) : Bs w' ao l := Bs.of_own h.own
theorem Fresh.len_le {e : TypeId} {w w' : World} {ao : Option Addr} {c : Nat} {l : List UInt8} (h : Fresh e w w' ao c l) : l.length ≤ c := by
  rcases h.own.2 with ⟨hv, h0⟩ | ⟨_, _, _, hv, _, _, h1, _⟩
  · simp only [Value.slice.injEq] at hv; omega
  · simp only [Value.slice.injEq] at hv; omega

set_option maxHeartbeats 400000 in
theorem Copy_any (ao : Option Addr) (c : Nat) (l : List UInt8) (w : World) (h : Bs w ao l) (hl : l.length ≤ 140737488355328) :
    Calls Tryd.prog 23 #[.slice ao l.length c] w fun e w' => ∃ ao' c', e = .returned (.slice ao' l.length c') ∧ Fresh 5 w w' ao' c' l := by
  have hown0 : (w.alloc (.cells #[] 5)).ownsRow w.heap.size 5 1 (.slice (some ⟨w.heap.size, 0, none⟩) 0 0) 0 (bv []) := World.ownsRow_made w #[] 0 (Nat.le_refl _) (Nat.zero_le _) rfl
  have hb0 : Below w.heap.size w (w.alloc (.cells #[] 5)) := (Below.refl _ _).alloc (Nat.le_refl _) _
  have hsrc := (h.below hb0).src (P := Tryd.prog) (c := c) (tx := 24) Tryd.underlying24
  go_enter Tryd.func23, Tryd.ntmps23
  go_wp2_with (at_builtin; refine wpList_append_src rfl _ _ 24 24 rfl w.heap.size 5 Tryd.underlying24 info5 (some ⟨w.heap.size, 0, none⟩) 0 0 [] rfl hown0 (.slice ao l.length c) l.length l rfl hsrc (by omega) (by simp) ?_)
  intro ao1 c1 w1 hown hgrow hat
  have hbel : Below w.heap.size w w1 := hb0.grown hgrow (by simp) (fun k hk => by cases hk; exact Nat.le_refl _)
  go_wp2
  go_ret
  exact ⟨ao1, c1, rfl, hbel, hown⟩

theorem shr_byte (x k : Nat) : ((x : Int) / 2 ^ (8 * k)) % 256 = ((UInt8.ofNat (x / 256 ^ k)).toNat : Int) := by
  have e : (2 : Int) ^ (8 * k) = ((256 ^ k : Nat) : Int) := by rw [Int.pow_mul]; simp
  rw [e, UInt8.toNat_ofNat']
  simp
set_option maxHeartbeats 400000 in
theorem Num_any (x n : Nat) (w : World) (_hx : x < 18446744073709551616) (hn : n ≤ 8) :
    Calls Tryd.prog 10 #[.int .u64 (x : Int), .int .i64 (n : Int)] w fun e w' => ∃ ao c, e = .returned (.slice ao n c) ∧ Fresh 5 w w' ao c (le n x) := by
  go_enter Tryd.func10, Tryd.ntmps10
  go_wp2
  go_loopw [5, 6] (fun v i wr => ∃ k : Nat, k ≤ n ∧ i = .int .i64 k ∧ ∃ ao c, v = .slice ao k c ∧ Fresh 5 w wr ao c (le k x)) (fun _ i _ => n - (intOf i).toNat)
  case atStart => exact ⟨0, Nat.zero_le _, rfl, none, 0, rfl, Below.refl _ _, World.ownsRow_nil _ _ _ _⟩
  case round =>
    obtain ⟨k, hk, rfl, ao, c, rfl, hf⟩ := hrel
    by_cases hlt : k < n
    · have hlt' : (k : Int) < n := by omega
      have hown := hf.own
      rw [le_length] at hown
      have hbel := hf.below
      have hs := hbel.size
      have HZ := hide (shr_byte x k)
      have HL := hide (le_snoc k x)
      clear hf
      go_wp2_with (at_builtin; refine wpList_push rfl _ _ 24 rfl 5 Tryd.underlying24 info5 w.heap.size ao k c (le k x) rfl hown _ _ HZ.out rfl (by omega) hs ?_)
      intro g cap w1 hown1 hgrow hat
      have hb1 : Below w.heap.size w w1 := hbel.grown hgrow hs (fun q hq => (hown.lt q (by rw [ob_eq]; exact hq)).1)
      clear hown hgrow hat
      go_wp2
      refine ⟨⟨k + 1, by omega, by go_num, some ⟨g, 0, none⟩, cap, rfl, hb1, ?_⟩, by simp [intOf]; omega⟩
      rw [HL.out, List.length_append, le_length]
      exact hown1
    · have hlt' : ¬ (k : Int) < n := by omega
      obtain rfl : k = n := by omega
      go_wp2
      go_ret
      exact ⟨ao, c, rfl, hf⟩

set_option maxHeartbeats 400000 in
theorem Alike_any (a b : Option Addr) (ca cb : Nat) (la lb : List UInt8) (w : World) (ha : Bs w a la) (hb : Bs w b lb) :
    Calls Tryd.prog 20 #[.slice a la.length ca, .slice b lb.length cb] w fun e w' => e = .returned (.bool (la == lb)) ∧ w' = w := by
  have c1 := conv_bs (P := Tryd.prog) (c := ca) 24 9 5 Tryd.underlying24 Tryd.underlying5 Tryd.underlying9 ha
  have c2 := conv_bs (P := Tryd.prog) (c := cb) 24 9 5 Tryd.underlying24 Tryd.underlying5 Tryd.underlying9 hb
  go_enter Tryd.func20, Tryd.ntmps20
  go_wp2
  go_ret
  exact ⟨rfl, rfl⟩

theorem crc_end (q : Nat) (h : q < 4294967296) : bits .xor .u32 (q : Int) 4294967295 = ((4294967295 ^^^ q : Nat) : Int) := by
  rw [Nat.xor_comm]
  exact u32_xor_nat q 4294967295 h (by decide)
set_option maxHeartbeats 800000 in
theorem refSum_any (ao : Option Addr) (c : Nat) (l : List UInt8) (w : World) (h : Bs w ao l) (hl : l.length ≤ 9223372036854775807) :
    Calls Tryd.prog 35 #[.slice ao l.length c] w fun e w' => e = .returned (.int .u32 (crc l : Int)) ∧ w' = w := by
  go_enter Tryd.func35, Tryd.ntmps35
  go_wp2
  go_loop [3, 4, 5, 6] (fun v i _ _ => ∃ k : Nat, k ≤ l.length ∧ i = .int .i64 k ∧ v = .int .u32 (crcAll 4294967295 (l.take k) : Int)) (fun _ i _ _ => l.length - (intOf i).toNat)
  case atStart => exact ⟨0, Nat.zero_le _, rfl, rfl⟩
  case round =>
    obtain ⟨k, hk, rfl, rfl⟩ := hrel
    by_cases hlt : k < l.length
    · have hlt' : (k : Int) < l.length := by omega
      obtain ⟨b, hb⟩ : ∃ b, l[k]? = some b := ⟨l[k], by simp⟩
      obtain ⟨g, off, rfl, hc⟩ := h k b hb
      have hq := crcAll_lt (by decide : 4294967295 < 4294967296) (l.take k)
      have HN : Hid (crcAll 4294967295 (l.take (k + 1)) = crcByte (crcAll 4294967295 (l.take k)) b.toNat) := show _ = _ by
        rw [List.take_add_one, hb]; exact crcAll_snoc _ _ _
      have hbl := b.toNat_lt
      generalize crcAll 4294967295 (l.take k) = q at *
      generalize b.toNat = bn at *
      have hx : bits .xor .u32 (q : Int) (bn : Int) = ((q ^^^ bn : Nat) : Int) := u32_xor_nat q bn hq (by omega)
      have HY : Hid (crcByte q bn = crcBits 8 (q ^^^ bn)) := rfl
      have hz := xor_lt32 hq (by omega : bn < 4294967296)
      generalize q ^^^ bn = z at *
      clear hb
      go_wp2
      go_loop [3, 5, 6] (fun v i _ => ∃ j : Nat, j ≤ 8 ∧ i = .int .i64 j ∧ v = .int .u32 (crcBits j z : Int)) (fun _ i _ => 8 - (intOf i).toNat)
      case atStart => exact ⟨0, Nat.zero_le _, rfl, rfl⟩
      case round =>
        obtain ⟨j, hj, rfl, rfl⟩ := hrel
        have hr := crcBits_lt hz j
        by_cases hjl : j < 8
        · have hjl' : (j : Int) < 8 := by omega
          have HM : Hid (crcBits (j + 1) z = crcBit (crcBits j z)) := rfl
          generalize crcBits j z = r at *
          by_cases h1 : r % 2 = 1
          · have ht : ((r : Int) % 2 == 1) = true := by rw [beq_iff_eq]; omega
            have HE := hide (crc_hi r hr h1)
            clear h1
            go_wp2
            exact ⟨⟨j + 1, by omega, by go_num, by rw [HE.out, HM.out]⟩, by simp [intOf]; omega⟩
          · have ht : ((r : Int) % 2 == 1) = false := by rw [beq_eq_false_iff_ne]; omega
            have HE := hide (crc_lo r h1)
            clear h1
            go_wp2
            exact ⟨⟨j + 1, by omega, by go_num, by rw [HE.out, HM.out]⟩, by simp [intOf]; omega⟩
        · have hjl' : ¬ (j : Int) < 8 := by omega
          obtain rfl : j = 8 := by omega
          go_wp2
          exact ⟨⟨k + 1, by omega, by go_num, by rw [HN.out, HY.out]⟩, by simp [intOf]; omega⟩
    · have hlt' : ¬ (k : Int) < l.length := by omega
      obtain rfl : k = l.length := by omega
      have hq := crcAll_lt (by decide : 4294967295 < 4294967296) l
      have HE : Hid (bits .xor .u32 (crcAll 4294967295 l : Int) 4294967295 = (crc l : Int)) := crc_end _ hq
      rw [List.take_length]
      go_wp2
      go_ret
      exact ⟨ret_int HE.out, rfl⟩

set_option maxHeartbeats 400000 in
theorem refSeal_any (ao : Option Addr) (c : Nat) (l : List UInt8) (w : World) (h : Bs w ao l) (hl : l.length ≤ 140737488351232) :
    Calls Tryd.prog 32 #[.slice ao l.length c] w fun e w' => ∃ ao' c', e = .returned (.slice ao' (l ++ le 4 (crc l)).length c') ∧ Fresh 5 w w' ao' c' (l ++ le 4 (crc l)) := by
  go_enter Tryd.func32, Tryd.ntmps32
  go_wp2_with fail
  refine (Copy_any ao c l w h (by omega)).mono ?_
  rintro e w1 ⟨a1, c1, rfl, hf1⟩
  go_wp2_with fail
  refine (refSum_any ao c l w1 (h.below hf1.below) (by omega)).mono ?_
  rintro e w1' ⟨rfl, rfl⟩
  have hcl := crc_lt l
  go_wp2_with fail
  refine (Num_any (crc l) 4 _ (by omega) (by decide)).mono ?_
  rintro e w2 ⟨a2, c2, rfl, hf2⟩
  have hown2 := ownsRow_of_block hf1.own (fun k hk => hf2.below.block k (hf1.own.lt k (by rw [ob_eq]; exact hk)).2)
  have hB2 := hf1.below.trans (hf2.below.mono hf1.below.size)
  have hsrc := hf2.bs.src (P := Tryd.prog) (c := c2) (tx := 24) Tryd.underlying24
  rw [le_length] at hsrc
  have hs2 := hB2.size
  go_wp2_with (at_builtin; refine wpList_append_src rfl _ _ 24 24 rfl w.heap.size 5 Tryd.underlying24 info5 a1 l.length c1 l rfl hown2 (.slice a2 4 c2) 4 (le 4 (crc l)) rfl hsrc (by omega) hs2 ?_)
  intro a3 c3 w3 hown3 hg3 hat3
  have hB3 := hB2.grown hg3 hs2 (fun k hk => (hown2.lt k (by rw [ob_eq]; exact hk)).1)
  have hln : (l ++ le 4 (crc l)).length = l.length + 4 := by rw [List.length_append, le_length]
  have Hln := hide hln
  clear hln
  go_wp2
  go_ret
  refine ⟨a3, c3, by rw [Hln.out]; rfl, hB3, ?_⟩
  rw [Hln.out]
  exact hown3

theorem refOpen_short (ao : Option Addr) (c : Nat) (l : List UInt8) (w : World) (hl : l.length < 4) :
    Calls Tryd.prog 33 #[.slice ao l.length c] w fun e w' => e = .returned (.tuple #[.slice none 0 0, .int .i64 10]) ∧ w' = w := by
  have hl' : (l.length : Int) < 4 := by omega
  go_enter Tryd.func33, Tryd.ntmps33
  go_wp2
  go_ret2
  exact ⟨rfl, rfl⟩
set_option maxHeartbeats 1000000 in
theorem refOpen_any (g off c : Nat) (l d : List UInt8) (m : Nat) (w : World) (h : Bs w (some ⟨g, off, none⟩) l) (hl : l.length = m + 4) (hc : l.length ≤ c) (hm : m ≤ 140737488351232) (hd : d = l.take m) :
    Calls Tryd.prog 33 #[.slice (some ⟨g, off, none⟩) (m + 4) c] w fun e w' => (d ++ le 4 (crc d) = l → ∃ ao' c', e = .returned (.tuple #[.slice ao' d.length c', .int .i64 0]) ∧ Fresh 5 w w' ao' c' d) ∧ (¬ d ++ le 4 (crc d) = l → e = .returned (.tuple #[.slice none 0 0, .int .i64 13]) ∧ Below w.heap.size w w') := by
  have hdl : d.length = m := by rw [hd, List.length_take]; omega
  have hbd : Bs w (some ⟨g, off, none⟩) d := by rw [hd]; exact h.take m
  have hlt' : ¬ ((m : Int) + 4) < 4 := by omega
  have hcm : m + 4 ≤ c := by omega
  have cS := refSeal_any (some ⟨g, off, none⟩) c d w hbd (by omega)
  rw [hdl] at cS
  have Hdl := hide hdl
  have Hl := hide hl
  clear hd hl hc hdl
  go_enter Tryd.func33, Tryd.ntmps33
  go_wp2_with fail
  refine cS.mono ?_
  rintro e w1 ⟨a1, c1, rfl, hf1⟩
  clear cS
  have cA := Alike_any a1 (some ⟨g, off, none⟩) c1 c _ l w1 hf1.bs (h.below hf1.below)
  rw [Hl.out] at cA
  generalize hL : d ++ le 4 (crc d) = L at *
  have HL := hide hL
  clear hL
  go_wp2_with fail
  refine cA.mono ?_
  rintro e w2 ⟨rfl, rfl⟩
  clear cA
  by_cases he : L = l
  · have ht : (L == l) = true := by rw [beq_iff_eq]; exact he
    have He := hide he
    clear he
    go_wp2_with fail
    have cC := Copy_any (some ⟨g, off, none⟩) c d w2 (hbd.below hf1.below) (by rw [Hdl.out]; omega)
    rw [Hdl.out] at cC
    refine cC.mono ?_
    rintro e w3 ⟨a3, c3, rfl, hf3⟩
    go_wp2_with fail
    go_ret2
    refine ⟨fun _ => ⟨a3, c3, by rw [Hdl.out]; rfl, hf1.below.trans (hf3.below.mono hf1.below.size), ownsRow_mono hf3.own hf1.below.size⟩, fun hn => absurd (HL.out.trans He.out) hn⟩
  · have ht : (L == l) = false := by rw [beq_eq_false_iff_ne]; exact he
    have He := hide he
    clear he
    go_wp2_with fail
    go_ret2
    exact ⟨fun hn => absurd (HL.out.symm.trans hn) He.out, fun _ => ⟨rfl, hf1.below⟩⟩
end Go.Proofs.YtckcdgobgpjdkaaDoor.Oct
