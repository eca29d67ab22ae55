/- The order: ranks, Compare, Next, as they are walked. -/
import Derived.Test.YtnhdgellckcnbaaDoorSb
namespace Go.Proofs.YtnhdgellckcnbaaDoor.Sca
open Go.RowKit

/-- The document's place. -/
def plc (c : Nat) : Nat := if c = 9221120237041090561 then 18446744073709551615 else rk c
theorem plc_lt {c : Nat} (h : c < 18446744073709551616) : plc c < 18446744073709551616 := by unfold plc; split; exact (by decide); exact rk_lt h
/-- Which of two is the lower. -/
def cmp3 (a b : Nat) : Int := if a < b then -1 else if b < a then 1 else 0
end Go.Proofs.YtnhdgellckcnbaaDoor.Sca
