/- Layer 20: lists held against each other. -/
import Derived.Test.YtcgjnmdcmjoiiaaDoorCc20
namespace Go.Proofs.YtcgjnmdcmjoiiaaDoor.Rou
open Go.RowKit

/-- Numbers in a block, as they are read. -/
def NA (w : World) (ao : Option Addr) (l : List Int) : Prop := l = [] ∨ ∃ g, ao = some ⟨g, 0, none⟩ ∧ ∀ (j : Nat) z, l[j]? = some z → w.cell? ⟨g, j, none⟩ = some (.int .i64 z)
theorem NA.below {w w' : World} {ao : Option Addr} {l : List Int} (h : NA w ao l) (hb : Below w.heap.size w w') : NA w' ao l := by
  rcases h with h | ⟨g, e, h⟩
  · exact .inl h
  · exact .inr ⟨g, e, fun j z hj => cellB (h j z hj) hb⟩
theorem QO.na {w : World} {B : Nat} {ao : Option Addr} {c : Nat} {q : List Nat} (h : QO w B ao c q) : NA w ao (q.map fun (k : Nat) => (k : Int)) := by
  match q, h with
  | [], _ => exact .inl rfl
  | a :: r, h =>
    obtain ⟨g, e, -, -, -⟩ := own_cell h (iv_at (j := 0) (z := (a : Int)) rfl)
    refine .inr ⟨g, e, fun j z hj => ?_⟩
    obtain ⟨g2, e2, -, -, h2⟩ := own_cell h (iv_at hj)
    rw [e] at e2
    cases e2
    exact h2
set_option maxRecDepth 100000 in
set_option maxHeartbeats 2000000 in
/-- Two lists of the same numbers. -/
theorem rInts (l : List Int) (a b : Option Addr) (ca cb : Nat) (hl : l.length ≤ 1000000) (w : World) (hA : NA w a l) (hB : NA w b l) : Calls Tryd.prog 8 #[.slice a l.length ca, .slice b l.length cb] w fun e w' => e = .returned (.bool true) ∧ Below w.heap.size w w' := by
  have HA := hide hA
  have HB := hide hB
  obtain ⟨n, hn⟩ : ∃ n, l.length = n := ⟨_, rfl⟩
  have HL := hide hn
  rw [hn] at hl ⊢
  have eN : ((n : Int) != (n : Int)) = false := by simp
  clear hn hA hB
  go_enter Tryd.func8, Tryd.ntmps8
  go_wp2_with fail
  go_loopw [5] (fun vi wr => ∃ i : Nat, vi = .int .i64 (i : Int) ∧ i ≤ n ∧ Hid (Below w.heap.size w wr)) (fun vi _ => n - (Go.RowKit.intOf vi).toNat)
  case atStart => exact ⟨0, rfl, Nat.zero_le _, hide (Below.refl _ _)⟩
  case round =>
    obtain ⟨i, rfl, hi, HW⟩ := hrel
    by_cases h : i < n
    · have hd : decide ((i : Int) < (n : Int)) = true := decide_eq_true (by omega)
      have hii : (i : Int) < (n : Int) := by omega
      obtain ⟨z, hz⟩ : ∃ z, l[i]? = some z := ⟨_, List.getElem?_eq_getElem (by rw [HL.out]; exact h)⟩
      obtain ⟨g, rfl, hg⟩ := (HA.out.below HW.out).resolve_left (fun e => by rw [e] at hz; simp at hz)
      obtain ⟨g2, rfl, hg2⟩ := (HB.out.below HW.out).resolve_left (fun e => by rw [e] at hz; simp at hz)
      have k1 := hg i z hz
      have k2 := hg2 i z hz
      have l1 := World.block_lt_of_cell? _ _ k1
      have l2 := World.block_lt_of_cell? _ _ k2
      have ez : (z != z) = false := by simp
      clear hg hg2 hz
      go_wp2_with fail
      go_region
      go_wp2_with fail
      go_roundw
      case rel => exact ⟨i + 1, by go_num, by omega, hide (drewB HW.out)⟩
      case measure => simp [Go.RowKit.intOf]; omega
    · have hie : i = n := by omega
      have hd : decide ((i : Int) < (n : Int)) = false := decide_eq_false (by omega)
      go_wp2_with fail
      go_ret
      exact ⟨rfl, HW.out⟩
end Go.Proofs.YtcgjnmdcmjoiiaaDoor.Rou
