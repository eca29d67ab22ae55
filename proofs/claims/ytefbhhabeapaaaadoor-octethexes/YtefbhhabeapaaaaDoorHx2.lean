/- The document's Hex and Unhex, as they are walked. -/
import Derived.Test.YtefbhhabeapaaaaDoorHx1
namespace Go.Proofs.YtefbhhabeapaaaaDoor.Oct
open Go.RowKit

/-- A digit's sign. -/
def hx (n : Nat) : UInt8 := if n < 10 then UInt8.ofNat (48 + n) else UInt8.ofNat (87 + n)
def hexOf (l : List UInt8) : List UInt8 := l.flatMap fun b => [hx (b.toNat / 16), hx (b.toNat % 16)]
def digs : ByteArray := ⟨#[48, 49, 50, 51, 52, 53, 54, 55, 56, 57, 97, 98, 99, 100, 101, 102]⟩
theorem digs_at : ∀ n : Fin 16, digs.extract n.val (n.val + 1) = ⟨#[hx n.val]⟩ := by decide +kernel

theorem hexOf_length (l : List UInt8) : (hexOf l).length = 2 * l.length := by
  induction l with
  | nil => rfl
  | cons b r ih => rw [hexOf, List.flatMap_cons, List.length_append, ← hexOf, ih]; simp; omega
set_option maxHeartbeats 1000000 in
theorem refHex_any (ao : Option Addr) (c : Nat) (l : List UInt8) (w : World) (h : Bs w ao l) (hl : l.length ≤ 140737488351232) :
    Calls Tryd.prog 7 #[.slice ao l.length c] w fun e w' => e = .returned (.string ⟨(hexOf l).toArray⟩) ∧ Below w.heap.size w w' := by
  have mixed : Tryd.prog.follows .mixedOrders = true := by kernel_rfl
  go_enter Tryd.func7, Tryd.ntmps7
  go_wp2_with fail
  go_loopw [4, 5] (fun s i wx => ∃ q : Nat, q ≤ l.length ∧ i = .int .i64 q ∧ s = .string ⟨(hexOf (l.take q)).toArray⟩ ∧ ∃ d, wx = w.drewN d) (fun _ i _ => l.length - (intOf i).toNat)
  case atStart => exact ⟨0, Nat.zero_le _, rfl, rfl, 0, rfl⟩
  case round =>
    obtain ⟨q, hq, rfl, rfl, d, rfl⟩ := hrel
    by_cases hlt : q < l.length
    · have hlt' : (q : Int) < l.length := by omega
      obtain ⟨b, hb⟩ : ∃ b, l[q]? = some b := ⟨l[q], by simp⟩
      obtain ⟨g, off, rfl, hcell⟩ := h q b hb
      have hb256 := b.toNat_lt
      obtain ⟨u, hu⟩ : ∃ u, b.toNat / 16 = u := ⟨_, rfl⟩
      obtain ⟨v, hv⟩ : ∃ v, b.toNat % 16 = v := ⟨_, rfl⟩
      have hu16 : u < 16 := by omega
      have hv16 : v < 16 := by omega
      have hux : (b.toNat : Int) / 16 = (u : Int) := by omega
      have hvx : (b.toNat : Int) % 16 = (v : Int) := by omega
      have hu1 : (u : Int) + 1 ≤ 16 := by omega
      have hv1 : (v : Int) + 1 ≤ 16 := by omega
      have Hdig : Hid (∀ n, n < 16 → (⟨#[48, 49, 50, 51, 52, 53, 54, 55, 56, 57, 97, 98, 99, 100, 101, 102]⟩ : ByteArray).extract n (n + 1) = ⟨#[hx n]⟩) := hide (fun n hn => digs_at ⟨n, hn⟩)
      have Hnx : Hid (hexOf (l.take (q + 1)) = hexOf (l.take q) ++ [hx u, hx v]) := hide (by rw [hexOf, hexOf, List.take_add_one, hb, List.flatMap_append, ← hu, ← hv]; simp)
      have hh : (hexOf (l.take q)).length ≤ 281474976702464 := by rw [hexOf_length, List.length_take]; omega
      generalize hexOf (l.take q) = A at *
      have he1 : (⟨#[48, 49, 50, 51, 52, 53, 54, 55, 56, 57, 97, 98, 99, 100, 101, 102]⟩ : ByteArray).extract u (u + 1) = ⟨#[hx u]⟩ := Hdig.out u hu16
      have he2 : (⟨#[48, 49, 50, 51, 52, 53, 54, 55, 56, 57, 97, 98, 99, 100, 101, 102]⟩ : ByteArray).extract v (v + 1) = ⟨#[hx v]⟩ := Hdig.out v hv16
      have hadd1 : ∀ W, (Op.stringOp .add ⟨A.toArray⟩ ⟨#[hx u]⟩).run Tryd.prog W = .ok (.string ⟨(A ++ [hx u]).toArray⟩) W := fun W => by
        refine (run_string_add_sum (P := Tryd.prog) W ⟨A.toArray⟩ ⟨#[hx u]⟩ (by show A.toArray.size + 1 ≤ _; simp; omega)).trans ?_
        rw [show (⟨A.toArray⟩ ++ ⟨#[hx u]⟩ : ByteArray) = ⟨(A ++ [hx u]).toArray⟩ from by apply ByteArray.ext; simp [ByteArray.data_append]]
      have hadd2 : ∀ W, (Op.stringOp .add ⟨(A ++ [hx u]).toArray⟩ ⟨#[hx v]⟩).run Tryd.prog W = .ok (.string ⟨(A ++ [hx u, hx v]).toArray⟩) W := fun W => by
        refine (run_string_add_sum (P := Tryd.prog) W ⟨(A ++ [hx u]).toArray⟩ ⟨#[hx v]⟩ (by show (A ++ [hx u]).toArray.size + 1 ≤ _; simp; omega)).trans ?_
        rw [show (⟨(A ++ [hx u]).toArray⟩ ++ ⟨#[hx v]⟩ : ByteArray) = ⟨(A ++ [hx u, hx v]).toArray⟩ from by apply ByteArray.ext; simp [ByteArray.data_append]]
      generalize A ++ [hx u] = A1 at *
      generalize A ++ [hx u, hx v] = A2 at *
      clear hb hu hv Hdig
      go_wp2_with fail
      go_big_quiet_o (fail)
      go_wp2_with fail
      exact ⟨⟨q + 1, by omega, by go_num, by rw [Hnx.out], _, rfl⟩, by simp [intOf]; omega⟩
    · have hlt' : ¬ (q : Int) < l.length := by omega
      obtain rfl : l.length = q := by omega
      go_wp2_with fail
      go_ret
      exact ⟨rfl, below_drewN (Below.refl _ _) _⟩
end Go.Proofs.YtefbhhabeapaaaaDoor.Oct
