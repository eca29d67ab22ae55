/- The same operations, reckoned in fewer steps. -/
import Derived.Test.YtipceoeihiaieaaDoorEv9
import Derived.Laws.BitsLemmas
import Derived.Laws.Bits64
namespace Go.Proofs.YtipceoeihiaieaaDoor.Ev
open Go
open ren (renR renL)
open plain (plainR plainL)

structure AClo where
  run : (Operand → Value) → H → Option (AN × H)

noncomputable def nth (l : List Value) : Nat → Option Value :=
  @List.rec Value (fun _ => Nat → Option Value) (fun _ => none) (fun v _ ih n => @Nat.rec (fun _ => Option Value) (some v) (fun k _ => ih k) n) l
theorem nth_eq : ∀ (l : List Value) (n : Nat), nth l n = l[n]?
  | [], _ => rfl
  | v :: l, 0 => rfl
  | v :: l, n + 1 => by rw [List.getElem?_cons_succ]; exact nth_eq l n
noncomputable def setNth (l : List Value) : Nat → Value → List Value :=
  @List.rec Value (fun _ => Nat → Value → List Value) (fun _ _ => []) (fun v l ih n x => @Nat.rec (fun _ => List Value) (x :: l) (fun k _ => v :: ih k x) n) l
theorem setNth_eq : ∀ (l : List Value) (n : Nat) (x : Value), setNth l n x = l.set n x
  | [], _, _ => rfl
  | v :: l, 0, x => rfl
  | v :: l, n + 1, x => by rw [List.set_cons_succ]; exact congrArg (v :: ·) (setNth_eq l n x)

def kNat : IntKind → Nat
  | .i8 => 0 | .i16 => 1 | .i32 => 2 | .i64 => 3 | .u8 => 4 | .u16 => 5 | .u32 => 6 | .u64 => 7
theorem kNat_inj {a b : IntKind} (h : Nat.beq (kNat a) (kNat b) = true) : a = b := by
  cases a <;> cases b <;> first | rfl | (cases h)
def ltI : Int → Int → Bool
  | .ofNat m, .ofNat n => Nat.blt m n
  | .negSucc m, .negSucc n => Nat.blt n m
  | .ofNat _, .negSucc _ => false
  | .negSucc _, .ofNat _ => true
theorem ltI_eq (a b : Int) : ltI a b = decide (a < b) := by
  cases a <;> cases b <;> simp only [ltI]
  · rw [Bool.eq_iff_iff]; simp [Nat.blt_eq]
  · rw [Bool.eq_iff_iff]; simp; omega
  · rw [Bool.eq_iff_iff]; simp; omega
  · rw [Bool.eq_iff_iff]; simp [Nat.blt_eq]; omega
def eqI : Int → Int → Bool
  | .ofNat m, .ofNat n => Nat.beq m n
  | .negSucc m, .negSucc n => Nat.beq m n
  | _, _ => false
theorem eqI_eq (a b : Int) : eqI a b = (a == b) := by
  rw [Bool.eq_iff_iff]
  cases a <;> cases b <;> simp [eqI] <;> omega
def fwrap (k : IntKind) (n : Int) : Int :=
  match k, n with
  | .i64, .ofNat m => bif Nat.blt m 9223372036854775808 then .ofNat m else k.wrap n
  | .i64, .negSucc m => bif Nat.blt m 9223372036854775808 then .negSucc m else k.wrap n
  | .u64, .ofNat m => bif Nat.blt m 18446744073709551616 then .ofNat m else k.wrap n
  | k, n => k.wrap n
theorem wrapI {n : Int} (h1 : -9223372036854775808 ≤ n) (h2 : n < 9223372036854775808) : IntKind.i64.wrap n = n := by
  rw [IntKind.wrap_i64]; omega
theorem wrapU {n : Int} (h1 : 0 ≤ n) (h2 : n < 18446744073709551616) : IntKind.u64.wrap n = n := by
  rw [IntKind.wrap_u64]; omega
theorem fwrap_eq (k : IntKind) (n : Int) : fwrap k n = k.wrap n := by
  cases k
  case i64 =>
    cases n with
    | ofNat m =>
      simp only [fwrap]
      cases h : Nat.blt m 9223372036854775808
      · rw [cond_false]
      · have h' : m < 9223372036854775808 := by simpa [Nat.blt_eq] using h
        rw [cond_true]
        exact (wrapI (by rw [Int.ofNat_eq_natCast]; omega) (by rw [Int.ofNat_eq_natCast]; omega)).symm
    | negSucc m =>
      simp only [fwrap]
      cases h : Nat.blt m 9223372036854775808
      · rw [cond_false]
      · have h' : m < 9223372036854775808 := by simpa [Nat.blt_eq] using h
        rw [cond_true, wrapI (by omega) (by omega)]
  case u64 =>
    cases n with
    | ofNat m =>
      change (bif Nat.blt m 18446744073709551616 then Int.ofNat m else IntKind.u64.wrap (Int.ofNat m)) = _
      cases h : Nat.blt m 18446744073709551616
      · rw [cond_false]
      · have h' : m < 18446744073709551616 := by simpa [Nat.blt_eq] using h
        rw [cond_true]
        exact (wrapU (by rw [Int.ofNat_eq_natCast]; omega) (by rw [Int.ofNat_eq_natCast]; omega)).symm
    | negSucc m => rfl
  all_goals cases n <;> rfl

/-- Numbers reckoned. -/
noncomputable def intOp : BinOp → IntKind → Int → Int → Option Value
  | .add => fun k a b => some (.int k (fwrap k (a + b)))
  | .sub => fun k a b => some (.int k (fwrap k (a - b)))
  | .mul => fun k a b => some (.int k (fwrap k (a * b)))
  | .lss => fun _ a b => some (.bool (ltI a b))
  | .leq => fun _ a b => some (.bool (!(ltI b a)))
  | .gtr => fun _ a b => some (.bool (ltI b a))
  | .geq => fun _ a b => some (.bool (!(ltI a b)))
  | .eql => fun _ a b => some (.bool (eqI a b))
  | .neq => fun _ a b => some (.bool (!(eqI a b)))
  | _ => fun _ _ _ => none
theorem intOp_eq {op : BinOp} {k : IntKind} {a b : Int} {v : Value} (t : TypeId) (h : intOp op k a b = some v) : binOp op t (.int k a) (.int k b) = .pure v := by
  cases op <;> simp only [intOp, Option.some.injEq, reduceCtorEq] at h <;> subst h <;> (try rw [fwrap_eq]) <;> simp only [binOp, ne_eq, not_true_eq_false, if_false, Op.intArith, Op.intCmp, ltI_eq, eqI_eq] <;> first
    | rfl
    | (congr 2; rw [Bool.eq_iff_iff]; simp <;> omega)
    | skip
end Go.Proofs.YtipceoeihiaieaaDoor.Ev
