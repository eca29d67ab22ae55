/- The document's own copies, numbers, sums and seals, as they are walked. -/
import Derived.Test.YtefbhhabeapaaaaDoorOpen
namespace Go.Proofs.YtefbhhabeapaaaaDoor.Oct
open Go.RowKit

theorem ownsRow_mono {w : World} {B B' : Nat} {e : TypeId} {v : Value} {n : Nat} {xs : List Value} (h : w.ownsRow B e 1 v n xs) (hb : B' ≤ B) : w.ownsRow B' e 1 v n xs := by
  refine ⟨h.1, ?_⟩
  rcases h.2 with h0 | ⟨g, cap, cur, hv, hg, h1⟩
  · exact .inl h0
  · exact .inr ⟨g, cap, cur, hv, Nat.le_trans hb hg, h1⟩
theorem Fresh.bs {e : TypeId} {w w' : World} {ao : Option Addr} {c : Nat} {l : List UInt8} (h : Fresh e w w' ao c l) : Bs w' ao l := Bs.of_own h.own
theorem Fresh.len_le {e : TypeId} {w w' : World} {ao : Option Addr} {c : Nat} {l : List UInt8} (h : Fresh e w w' ao c l) : l.length ≤ c := by
  rcases h.own.2 with ⟨hv, h0⟩ | ⟨_, _, _, hv, _, _, h1, _⟩
  · simp only [Value.slice.injEq] at hv; omega
  · simp only [Value.slice.injEq] at hv; omega

theorem shr_byte (x k : Nat) : ((x : Int) / 2 ^ (8 * k)) % 256 = ((UInt8.ofNat (x / 256 ^ k)).toNat : Int) := by
  have e : (2 : Int) ^ (8 * k) = ((256 ^ k : Nat) : Int) := by rw [Int.pow_mul]; simp
  rw [e, UInt8.toNat_ofNat']
  simp
set_option maxHeartbeats 400000 in
theorem Alike_any (a b : Option Addr) (ca cb : Nat) (la lb : List UInt8) (w : World) (ha : Bs w a la) (hb : Bs w b lb) :
    Calls Tryd.prog 8 #[.slice a la.length ca, .slice b lb.length cb] w fun e w' => e = .returned (.bool (la == lb)) ∧ w' = w := by
  have c1 := conv_bs (P := Tryd.prog) (c := ca) 22 9 5 Tryd.underlying22 Tryd.underlying5 Tryd.underlying9 ha
  have c2 := conv_bs (P := Tryd.prog) (c := cb) 22 9 5 Tryd.underlying22 Tryd.underlying5 Tryd.underlying9 hb
  go_enter Tryd.func8, Tryd.ntmps8
  go_wp2
  go_ret
  exact ⟨rfl, rfl⟩

theorem crc_end (q : Nat) (h : q < 4294967296) : bits .xor .u32 (q : Int) 4294967295 = ((4294967295 ^^^ q : Nat) : Int) := by
  rw [Nat.xor_comm]
  exact u32_xor_nat q 4294967295 h (by decide)
end Go.Proofs.YtefbhhabeapaaaaDoor.Oct
