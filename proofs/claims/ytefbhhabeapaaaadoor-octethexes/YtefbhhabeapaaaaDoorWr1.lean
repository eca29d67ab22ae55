/- The Writer's numbers, as they are walked. -/
import Derived.Test.YtefbhhabeapaaaaDoorProg
import Derived.Test.YtefbhhabeapaaaaDoorLib
namespace Go.Proofs.YtefbhhabeapaaaaDoor.Oct
open Go.RowKit

theorem info5 : (Tryd.prog.info? 5).map (fun i => (i.zero, i.size, i.bytes)) = some (some (.int .u8 0), 1, 1) := by kernel_rfl

set_option maxHeartbeats 400000 in
theorem number_any (pb po : Nat) (x n : Nat) (l : List UInt8) (ao : Option Addr) (c : Nat) (w : World) (B : Nat) (hx : x < 18446744073709551616) (h : Wr 5 w B ⟨pb, po, none⟩ ao c l) (hlen : l.length + n ≤ 140737488355328) :
    Calls Tryd.prog 23 #[.pointer (some ⟨pb, po, none⟩), .int .u64 (x : Int), .int .i64 (n : Int)] w fun e w' => e = .returned (.tuple #[]) ∧ ∃ ao' c', Wr 5 w' B ⟨pb, po, none⟩ ao' c' (l ++ le n x) ∧ Fr w w' ⟨pb, po, none⟩ ao ao' := by
  go_enter Tryd.func23, Tryd.ntmps23
  go_wp2
  go_loopw [1, 9] (fun v i wr => ∃ k : Nat, k ≤ n ∧ i = .int .i64 k ∧ v = .int .u64 ((x / 256 ^ k : Nat) : Int) ∧ ∃ ao' c', Wr 5 wr B ⟨pb, po, none⟩ ao' c' (l ++ le k x) ∧ Fr w wr ⟨pb, po, none⟩ ao ao') (fun _ i _ => n - (intOf i).toNat)
  case atStart => exact ⟨0, Nat.zero_le _, rfl, by simp, ao, c, by simpa [le] using h, Fr.refl _ _ _⟩
  case round =>
    obtain ⟨k, hk, rfl, rfl, ao', c', hw, hf⟩ := hrel
    by_cases hlt : k < n
    · have hc := hw.cell
      have hz := hw.froz
      have hlt' : (k : Int) < n := by omega
      have hown := hw.own
      have hap := hw.apart
      have HB := hw.base
      have hpb : pb < wr.heap.size := World.block_lt_of_cell? wr ⟨pb, po, none⟩ hw.cell
      have hll : (l ++ le k x).length + 1 ≤ 140737488355328 := by simp [le_length]; omega
      have HL : Hid (l ++ le (k + 1) x = (l ++ le k x) ++ [UInt8.ofNat (x / 256 ^ k)]) := show _ = _ by rw [le_snoc]; simp
      have HQ : Hid (x / 256 ^ (k + 1) = x / 256 ^ k / 256) := show _ = _ by rw [Nat.pow_succ, Nat.div_div_eq_div_mul]
      have hq : x / 256 ^ k < 18446744073709551616 := Nat.lt_of_le_of_lt (Nat.div_le_self _ _) hx
      have hqb : ((x / 256 ^ k : Nat) : Int) % 256 = ((UInt8.ofNat (x / 256 ^ k)).toNat : Int) := by simp
      generalize l ++ le k x = L at hw hc hown hll HL
      generalize x / 256 ^ k = q at HL HQ hq hqb
      have HQB := hide hqb
      clear hqb
      go_wp2_with (at_builtin; refine wpList_push rfl _ _ 22 rfl 5 Tryd.underlying22 info5 B ao' L.length c' L rfl hown _ _ HQB.out rfl hll HB ?_)
      intro g cap w1 hown1 hgrow hat
      obtain ⟨st1, st2⟩ := hw.step (m := [UInt8.ofNat q]) hown1 hgrow hat
      have hblk := hgrow.block pb hpb (fun e => hap e.symm)
      have hc1 := (World.cell?_of_block (a := ⟨pb, po, none⟩) hblk).trans hc
      have hz1 := (World.frozen?_of_block (a := ⟨pb, po, none⟩) hblk).trans hz
      clear hown hown1 hblk hgrow hat
      go_wp2
      exact ⟨⟨k + 1, by omega, by go_num, by rw [HQ.out]; go_num, _, _, by rw [HL.out]; exact st1, hf.trans st2⟩, by simp [intOf]; omega⟩
    · have hlt' : ¬ (k : Int) < n := by omega
      obtain rfl : k = n := by omega
      go_wp2
      go_end0
      exact ⟨rfl, ao', ⟨c', hw⟩, hf⟩

theorem U16_any (pb po : Nat) (x : Nat) (l : List UInt8) (ao : Option Addr) (c : Nat) (w : World) (B : Nat) (hx : x < 65536) (h : Wr 5 w B ⟨pb, po, none⟩ ao c l) (hlen : l.length + 2 ≤ 140737488355328) :
    Calls Tryd.prog 12 #[.pointer (some ⟨pb, po, none⟩), .int .u16 (x : Int)] w fun e w' => e = .returned (.tuple #[]) ∧ ∃ ao' c', Wr 5 w' B ⟨pb, po, none⟩ ao' c' (l ++ le 2 x) ∧ Fr w w' ⟨pb, po, none⟩ ao ao' := by
  go_enter Tryd.func12, Tryd.ntmps12
  go_wp2_with (go_at_call 23; refine (number_any pb po x 2 l ao c _ B (by omega) h hlen).mono ?_; rintro e w' ⟨rfl, ao', c', hw, hf⟩)
  go_end0
  exact ⟨rfl, ao', c', hw, hf⟩
theorem U64_any (pb po : Nat) (x : Nat) (l : List UInt8) (ao : Option Addr) (c : Nat) (w : World) (B : Nat) (hx : x < 18446744073709551616) (h : Wr 5 w B ⟨pb, po, none⟩ ao c l) (hlen : l.length + 8 ≤ 140737488355328) :
    Calls Tryd.prog 25 #[.pointer (some ⟨pb, po, none⟩), .int .u64 (x : Int)] w fun e w' => e = .returned (.tuple #[]) ∧ ∃ ao' c', Wr 5 w' B ⟨pb, po, none⟩ ao' c' (l ++ le 8 x) ∧ Fr w w' ⟨pb, po, none⟩ ao ao' := by
  go_enter Tryd.func25, Tryd.ntmps25
  go_wp2_with (go_at_call 23; refine (number_any pb po x 8 l ao c _ B (by omega) h hlen).mono ?_; rintro e w' ⟨rfl, ao', c', hw, hf⟩)
  go_end0
  exact ⟨rfl, ao', c', hw, hf⟩
end Go.Proofs.YtefbhhabeapaaaaDoor.Oct
