/- unicode/utf8's word of eight bytes: if no high bit is set in it, the bytes are ASCII. -/
import Derived.Test.YtckcdgobgpjdkaaDoorVc
import Derived.Lib.ValidLaws
import Derived.Deep.DeepBigQuietO
namespace Go.Proofs.YtckcdgobgpjdkaaDoor.Oct
open Go.RowKit

theorem ret_int' {k : IntKind} {a b : Int} (h : a = b) : Ending.returned (.int k a) = .returned (.int k b) := by rw [h]
def M8 : Nat := 9259542123273814144
theorem hi_bit (x i : Nat) (hx : x < 256) (hM : M8.testBit (8 * i + 7) = true) (h : (x * 2 ^ (8 * i)) &&& M8 = 0) : x < 128 := by
  have h1 := congrArg (fun n => n.testBit (8 * i + 7)) h
  simp only [Nat.testBit_and, hM, Bool.and_true, Nat.zero_testBit] at h1
  rw [Nat.mul_comm, Nat.testBit_two_pow_mul] at h1
  simp only [Nat.le_add_right, decide_true, Bool.true_and, Nat.add_sub_cancel_left] at h1
  rcases Nat.lt_or_ge x 128 with h2 | h2
  · exact h2
  · have h3 : x.testBit 7 = true := by
      have e : x = 2 ^ 7 + (x - 128) := by omega
      rw [e, Nat.testBit_two_pow_add_eq, Nat.testBit_lt_two_pow (by omega)]
      rfl
    rw [h3] at h1
    cases h1
theorem or_lt64 {a b : Nat} (ha : a < 18446744073709551616) (hb : b < 18446744073709551616) : a ||| b < 18446744073709551616 := Nat.or_lt_two_pow (n := 64) ha hb
def wd (x0 x1 x2 x3 x4 x5 x6 x7 : Nat) : Nat := ((((((x0 ||| x1 * 256) ||| x2 * 65536) ||| x3 * 16777216) ||| x4 * 4294967296) ||| x5 * 1099511627776) ||| x6 * 281474976710656) ||| x7 * 72057594037927936
theorem wd_lt (x0 x1 x2 x3 x4 x5 x6 x7 : Nat) (b0 : x0 < 256) (b1 : x1 < 256) (b2 : x2 < 256) (b3 : x3 < 256) (b4 : x4 < 256) (b5 : x5 < 256) (b6 : x6 < 256) (b7 : x7 < 256) : wd x0 x1 x2 x3 x4 x5 x6 x7 < 18446744073709551616 := by
  unfold wd
  exact or_lt64 (or_lt64 (or_lt64 (or_lt64 (or_lt64 (or_lt64 (or_lt64 (by omega) (by omega)) (by omega)) (by omega)) (by omega)) (by omega)) (by omega)) (by omega)
theorem wd_eq (x0 x1 x2 x3 x4 x5 x6 x7 : Nat) (b0 : x0 < 256) (b1 : x1 < 256) (b2 : x2 < 256) (b3 : x3 < 256) (b4 : x4 < 256) (b5 : x5 < 256) (b6 : x6 < 256) (b7 : x7 < 256) :
    bits .or .u64 (bits .or .u64 (bits .or .u64 (bits .or .u64 (bits .or .u64 (bits .or .u64 (bits .or .u64 (x0 : Int) ((x1 : Int) * 256)) ((x2 : Int) * 65536)) ((x3 : Int) * 16777216)) ((x4 : Int) * 4294967296)) ((x5 : Int) * 1099511627776)) ((x6 : Int) * 281474976710656)) ((x7 : Int) * 72057594037927936) = (wd x0 x1 x2 x3 x4 x5 x6 x7 : Int) := by
  have st : ∀ (a x m : Nat), a < 18446744073709551616 → x * m < 18446744073709551616 → bits .or .u64 (a : Int) ((x : Int) * (m : Int)) = ((a ||| x * m : Nat) : Int) := fun a x m ha hx => by
    rw [← Int.natCast_mul]; exact u64_or_nat a (x * m) ha hx
  have l1 : x0 ||| x1 * 256 < 18446744073709551616 := or_lt64 (by omega) (by omega)
  have l2 := or_lt64 l1 (by omega : x2 * 65536 < 18446744073709551616)
  have l3 := or_lt64 l2 (by omega : x3 * 16777216 < 18446744073709551616)
  have l4 := or_lt64 l3 (by omega : x4 * 4294967296 < 18446744073709551616)
  have l5 := or_lt64 l4 (by omega : x5 * 1099511627776 < 18446744073709551616)
  have l6 := or_lt64 l5 (by omega : x6 * 281474976710656 < 18446744073709551616)
  have s1 : bits .or .u64 ((x0 : Nat) : Int) ((x1 : Int) * 256) = ((x0 ||| x1 * 256 : Nat) : Int) := st x0 x1 256 (by omega) (by omega)
  have s2 : bits .or .u64 (((x0 ||| x1 * 256) : Nat) : Int) ((x2 : Int) * 65536) = (((x0 ||| x1 * 256) ||| x2 * 65536 : Nat) : Int) := st _ x2 65536 l1 (by omega)
  have s3 : bits .or .u64 ((((x0 ||| x1 * 256) ||| x2 * 65536) : Nat) : Int) ((x3 : Int) * 16777216) = ((((x0 ||| x1 * 256) ||| x2 * 65536) ||| x3 * 16777216 : Nat) : Int) := st _ x3 16777216 l2 (by omega)
  have s4 : bits .or .u64 (((((x0 ||| x1 * 256) ||| x2 * 65536) ||| x3 * 16777216) : Nat) : Int) ((x4 : Int) * 4294967296) = (((((x0 ||| x1 * 256) ||| x2 * 65536) ||| x3 * 16777216) ||| x4 * 4294967296 : Nat) : Int) := st _ x4 4294967296 l3 (by omega)
  have s5 : bits .or .u64 ((((((x0 ||| x1 * 256) ||| x2 * 65536) ||| x3 * 16777216) ||| x4 * 4294967296) : Nat) : Int) ((x5 : Int) * 1099511627776) = ((((((x0 ||| x1 * 256) ||| x2 * 65536) ||| x3 * 16777216) ||| x4 * 4294967296) ||| x5 * 1099511627776 : Nat) : Int) := st _ x5 1099511627776 l4 (by omega)
  have s6 : bits .or .u64 (((((((x0 ||| x1 * 256) ||| x2 * 65536) ||| x3 * 16777216) ||| x4 * 4294967296) ||| x5 * 1099511627776) : Nat) : Int) ((x6 : Int) * 281474976710656) = (((((((x0 ||| x1 * 256) ||| x2 * 65536) ||| x3 * 16777216) ||| x4 * 4294967296) ||| x5 * 1099511627776) ||| x6 * 281474976710656 : Nat) : Int) := st _ x6 281474976710656 l5 (by omega)
  have s7 : bits .or .u64 ((((((((x0 ||| x1 * 256) ||| x2 * 65536) ||| x3 * 16777216) ||| x4 * 4294967296) ||| x5 * 1099511627776) ||| x6 * 281474976710656) : Nat) : Int) ((x7 : Int) * 72057594037927936) = ((((((((x0 ||| x1 * 256) ||| x2 * 65536) ||| x3 * 16777216) ||| x4 * 4294967296) ||| x5 * 1099511627776) ||| x6 * 281474976710656) ||| x7 * 72057594037927936 : Nat) : Int) := st _ x7 72057594037927936 l6 (by omega)
  rw [s1, s2, s3, s4, s5, s6, s7]
  rfl
theorem wd_asc (x0 x1 x2 x3 x4 x5 x6 x7 : Nat) (b0 : x0 < 256) (b1 : x1 < 256) (b2 : x2 < 256) (b3 : x3 < 256) (b4 : x4 < 256) (b5 : x5 < 256) (b6 : x6 < 256) (b7 : x7 < 256) (h : wd x0 x1 x2 x3 x4 x5 x6 x7 &&& M8 = 0) :
    x0 < 128 ∧ x1 < 128 ∧ x2 < 128 ∧ x3 < 128 ∧ x4 < 128 ∧ x5 < 128 ∧ x6 < 128 ∧ x7 < 128 := by
  unfold wd at h
  obtain ⟨h, h7⟩ := (Lib.or_mask _ _ _).1 h
  obtain ⟨h, h6⟩ := (Lib.or_mask _ _ _).1 h
  obtain ⟨h, h5⟩ := (Lib.or_mask _ _ _).1 h
  obtain ⟨h, h4⟩ := (Lib.or_mask _ _ _).1 h
  obtain ⟨h, h3⟩ := (Lib.or_mask _ _ _).1 h
  obtain ⟨h, h2⟩ := (Lib.or_mask _ _ _).1 h
  obtain ⟨h0, h1⟩ := (Lib.or_mask _ _ _).1 h
  exact ⟨hi_bit x0 0 b0 (by decide) (by simpa using h0), hi_bit x1 1 b1 (by decide) h1, hi_bit x2 2 b2 (by decide) h2, hi_bit x3 3 b3 (by decide) h3, hi_bit x4 4 b4 (by decide) h4, hi_bit x5 5 b5 (by decide) h5, hi_bit x6 6 b6 (by decide) h6, hi_bit x7 7 b7 (by decide) h7⟩

set_option maxHeartbeats 2000000 in
set_option maxRecDepth 100000 in
theorem word_walk (g off n c : Nat) (x0 x1 x2 x3 x4 x5 x6 x7 : Nat) (w : World) (hn : 8 ≤ n)
    (h0 : w.cell? ⟨g, off, none⟩ = some (.int .u8 (x0 : Int))) (h1 : w.cell? ⟨g, off + 1, none⟩ = some (.int .u8 (x1 : Int))) (h2 : w.cell? ⟨g, off + 2, none⟩ = some (.int .u8 (x2 : Int))) (h3 : w.cell? ⟨g, off + 3, none⟩ = some (.int .u8 (x3 : Int)))
    (h4 : w.cell? ⟨g, off + 4, none⟩ = some (.int .u8 (x4 : Int))) (h5 : w.cell? ⟨g, off + 5, none⟩ = some (.int .u8 (x5 : Int))) (h6 : w.cell? ⟨g, off + 6, none⟩ = some (.int .u8 (x6 : Int))) (h7 : w.cell? ⟨g, off + 7, none⟩ = some (.int .u8 (x7 : Int)))
    (b0 : x0 < 256) (b1 : x1 < 256) (b2 : x2 < 256) (b3 : x3 < 256) (b4 : x4 < 256) (b5 : x5 < 256) (b6 : x6 < 256) (b7 : x7 < 256) :
    Calls Tryd.prog 69 #[.slice (some ⟨g, off, none⟩) n c] w fun e w' => e = .returned (.int .u64 (wd x0 x1 x2 x3 x4 x5 x6 x7 : Int)) ∧ ∃ q, w' = w.drewN q := by
  have mixed : Tryd.prog.follows .mixedOrders = true := by kernel_rfl
  have HW := hide (wd_eq x0 x1 x2 x3 x4 x5 x6 x7 b0 b1 b2 b3 b4 b5 b6 b7)
  have q0 : (0 : Int) < (n : Int) := by omega
  have q1 : (1 : Int) < (n : Int) := by omega
  have q2 : (2 : Int) < (n : Int) := by omega
  have q3 : (3 : Int) < (n : Int) := by omega
  have q4 : (4 : Int) < (n : Int) := by omega
  have q5 : (5 : Int) < (n : Int) := by omega
  have q6 : (6 : Int) < (n : Int) := by omega
  have q7 : (7 : Int) < (n : Int) := by omega
  go_enter Tryd.func69, Tryd.ntmps69
  go_wp2
  go_big_quiet_o (fail)
  go_wp2
  go_ret
  exact ⟨ret_int' HW.out, _, rfl⟩

theorem list8 {t : List UInt8} (h : 8 ≤ t.length) : ∃ a b c d e f g k r, t = a :: b :: c :: d :: e :: f :: g :: k :: r := by
  match t, h with
  | a :: b :: c :: d :: e :: f :: g :: k :: r, _ => exact ⟨a, b, c, d, e, f, g, k, r, rfl⟩
/-- The word at the head of a slice. -/
theorem word_any (w0 : World) (g off c : Nat) (t : List UInt8) (hb : Bs w0 (some ⟨g, off, none⟩) t) (h8 : 8 ≤ t.length) :
    ∃ A : Nat, A < 18446744073709551616 ∧ (A &&& M8 = 0 → ∀ b ∈ t.take 8, b.toNat < 128) ∧ ∀ W : World, W.heap = w0.heap → Calls Tryd.prog 69 #[.slice (some ⟨g, off, none⟩) t.length c] W fun e w' => e = .returned (.int .u64 (A : Int)) ∧ ∃ q, w' = W.drewN q := by
  obtain ⟨x0, x1, x2, x3, x4, x5, x6, x7, r, rfl⟩ := list8 h8
  have hcell : ∀ (W : World), W.heap = w0.heap → ∀ (j : Nat) (b : UInt8), (x0 :: x1 :: x2 :: x3 :: x4 :: x5 :: x6 :: x7 :: r)[j]? = some b → W.cell? ⟨g, off + j, none⟩ = some (.int .u8 (b.toNat : Int)) := fun W hW j b hj => by
    obtain ⟨g', o', e, hc⟩ := hb j b hj
    cases e
    rw [World.cell?, hW]
    exact hc
  refine ⟨wd x0.toNat x1.toNat x2.toNat x3.toNat x4.toNat x5.toNat x6.toNat x7.toNat, wd_lt _ _ _ _ _ _ _ _ x0.toNat_lt x1.toNat_lt x2.toNat_lt x3.toNat_lt x4.toNat_lt x5.toNat_lt x6.toNat_lt x7.toNat_lt, fun hz => ?_, fun W hW => ?_⟩
  · have h := wd_asc _ _ _ _ _ _ _ _ x0.toNat_lt x1.toNat_lt x2.toNat_lt x3.toNat_lt x4.toNat_lt x5.toNat_lt x6.toNat_lt x7.toNat_lt hz
    intro b hb
    simp at hb
    rcases hb with rfl | rfl | rfl | rfl | rfl | rfl | rfl | rfl <;> omega
  · exact word_walk g off _ c x0.toNat x1.toNat x2.toNat x3.toNat x4.toNat x5.toNat x6.toNat x7.toNat W h8 (hcell W hW 0 x0 rfl) (hcell W hW 1 x1 rfl) (hcell W hW 2 x2 rfl) (hcell W hW 3 x3 rfl) (hcell W hW 4 x4 rfl) (hcell W hW 5 x5 rfl) (hcell W hW 6 x6 rfl) (hcell W hW 7 x7 rfl) x0.toNat_lt x1.toNat_lt x2.toNat_lt x3.toNat_lt x4.toNat_lt x5.toNat_lt x6.toNat_lt x7.toNat_lt
end Go.Proofs.YtckcdgobgpjdkaaDoor.Oct
