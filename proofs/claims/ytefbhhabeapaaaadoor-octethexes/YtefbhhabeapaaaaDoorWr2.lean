import Derived.Test.YtefbhhabeapaaaaDoorWr1
namespace Go.Proofs.YtefbhhabeapaaaaDoor.Oct
open Go.RowKit
theorem bits64_run (b : Nat) (w : World) : (callFunc 24 #[.float .f64 b]).run Tryd.prog w = .ok (.value (.int .u64 (b : Int))) w := by kernel_rfl
theorem from64_run (b : Int) (w : World) : (callFunc 26 #[.int .u64 b]).run Tryd.prog w = .ok (.value (.float .f64 b.toNat)) w := by kernel_rfl

/-- Is it a NaN? (It is not equal to itself.) -/
def nan (k : FloatKind) (b : Nat) : Bool := k.format.order b b != some .eq
/-- The bits that stand for a float: of every NaN those of one. -/
def can64 (b : Nat) : Nat := if nan .f64 b then 9221120237041090561 else b
def can32 (b : Nat) : Nat := if nan .f32 b then 2143289344 else b
theorem can64_lt {b : Nat} (h : b < 18446744073709551616) : can64 b < 18446744073709551616 := by unfold can64; split <;> omega
theorem can32_lt {b : Nat} (h : b < 4294967296) : can32 b < 4294967296 := by unfold can32; split <;> omega

set_option maxHeartbeats 400000 in
theorem F64_any (pb po : Nat) (x : Nat) (l : List UInt8) (ao : Option Addr) (c : Nat) (w : World) (B : Nat) (hx : x < 18446744073709551616) (h : Wr 5 w B ⟨pb, po, none⟩ ao c l) (hlen : l.length + 8 ≤ 140737488355328) :
    Calls Tryd.prog 13 #[.pointer (some ⟨pb, po, none⟩), .float .f64 x] w fun e w' => e = .returned (.tuple #[]) ∧ ∃ ao' c', Wr 5 w' B ⟨pb, po, none⟩ ao' c' (l ++ le 8 (can64 x)) ∧ Fr w w' ⟨pb, po, none⟩ ao ao' := by
  have hb := bits64_run x
  cases hn : nan .f64 x
  · have hn' : (FloatKind.f64.format.order x x != some .eq) = false := hn
    have hcn : can64 x = x := by simp [can64, hn]
    rw [hcn]
    clear hn hcn
    go_enter Tryd.func13, Tryd.ntmps13
    go_wp2_with (go_at_call 25; refine (U64_any pb po x l ao c _ B hx h hlen).mono ?_; rintro e w' ⟨rfl, ao', c', hw, hf⟩)
    go_end0
    exact ⟨rfl, ao', c', hw, hf⟩
  · have hn' : (FloatKind.f64.format.order x x != some .eq) = true := hn
    have hcn : can64 x = 9221120237041090561 := by simp [can64, hn]
    rw [hcn]
    clear hn hcn
    go_enter Tryd.func13, Tryd.ntmps13
    go_wp2_with (go_at_call 25; refine (U64_any pb po 9221120237041090561 l ao c _ B (by omega) h hlen).mono ?_; rintro e w' ⟨rfl, ao', c', hw, hf⟩)
    go_end0
    exact ⟨rfl, ao', c', hw, hf⟩
end Go.Proofs.YtefbhhabeapaaaaDoor.Oct
