import Derived.Test.YtllfplkefbhnfaaDoorKf1554234
set_option maxRecDepth 100000
set_option maxHeartbeats 4000000
namespace Go.Proofs.YtllfplkefbhnfaaDoor.Pau
open Go.RowKit Go.Shelf Go.Proofs.YtllfplkefbhnfaaDoor.Oct Go.Proofs.YtllfplkefbhnfaaDoor.Gt
def cx (b : UInt8) : Nat := if b = 88 ∨ b = 89 then 1 else 0
def cz (b : UInt8) : Nat := if b = 90 ∨ b = 89 then 1 else 0
def okB (b : UInt8) : Bool := decide (b = 73 ∨ b = 88 ∨ b = 89 ∨ b = 90)
def rd (f : UInt8 -> Nat) (l : List UInt8) : Nat -> Nat
  | 0 => 0
  | k + 1 => rd f l k + f (l.getD k 0) * 2 ^ k
theorem cx_le (b : UInt8) : cx b <= 1 := by unfold cx; split <;> omega
theorem cz_le (b : UInt8) : cz b <= 1 := by unfold cz; split <;> omega
theorem rd_lt {f : UInt8 -> Nat} (hf : ∀ b, f b <= 1) (l : List UInt8) : ∀ k, rd f l k < 2 ^ k
  | 0 => by simp [rd]
  | k + 1 => by
    have h1 := rd_lt hf l k
    have h2 := hf (l.getD k 0)
    rw [rd, Nat.pow_succ]
    have : f (l.getD k 0) * 2 ^ k <= 1 * 2 ^ k := Nat.mul_le_mul_right _ h2
    omega
theorem rd_or {f : UInt8 -> Nat} (hf : ∀ b, f b <= 1) (l : List UInt8) (k : Nat) : rd f l k ||| f (l.getD k 0) * 2 ^ k = rd f l (k + 1) := by
  have h1 := rd_lt hf l k
  have := Nat.two_pow_add_eq_or_of_lt h1 (f (l.getD k 0))
  rw [rd, Nat.or_comm, Nat.mul_comm, ← this, Nat.add_comm]
def parR (l : List UInt8) : P × Int := if (cutP l).1 < 0 ∨ 64 < (cutP l).2.length ∨ (cutP l).2.all okB = false then (oP, 130) else (⟨((cutP l).2.length : Int), rd cx (cutP l).2 (cutP l).2.length, rd cz (cutP l).2 (cutP l).2.length, (cutP l).1⟩, 0)
theorem index_ok (b : UInt8) : (okB b = false /\ Lib.indexByte [73, 88, 90, 89] b = -1) ∨ (okB b = true /\ ∃ u v : Nat, Lib.indexByte [73, 88, 90, 89] b = ((u + 2 * v : Nat) : Int) /\ cx b = u /\ cz b = v /\ u < 2 /\ v < 2) := by
  by_cases h1 : b = 73
  . subst h1; exact .inr ⟨by decide, 0, 0, by decide, by decide, by decide, by decide, by decide⟩
  . by_cases h2 : b = 88
    . subst h2; exact .inr ⟨by decide, 1, 0, by decide, by decide, by decide, by decide, by decide⟩
    . by_cases h3 : b = 90
      . subst h3; exact .inr ⟨by decide, 0, 1, by decide, by decide, by decide, by decide, by decide⟩
      . by_cases h4 : b = 89
        . subst h4; exact .inr ⟨by decide, 1, 1, by decide, by decide, by decide, by decide, by decide⟩
        . refine .inl ⟨?_, ?_⟩
          . unfold okB
            exact decide_eq_false (by rintro (h | h | h | h) <;> contradiction)
          . have e1 : ¬ 73 = b := fun e => h1 e.symm
            have e2 : ¬ 88 = b := fun e => h2 e.symm
            have e3 : ¬ 90 = b := fun e => h3 e.symm
            have e4 : ¬ 89 = b := fun e => h4 e.symm
            simp [Lib.indexByte, e1, e2, e3, e4]
theorem pParse_out (l : List UInt8) (hc : (cutP l).1 < 0 ∨ 64 < (cutP l).2.length) (w : World) (hT : Ts w) : Calls Tryd.prog 73 #[str l] w fun e w' => e = .returned (.tuple #[pV oP, .int .i64 130]) /\ Below w.heap.size w w' := by
  have c1 := fun W (h : Below w.heap.size w W) => pCut l W (hT.below h)
  have hR := At4.new w (.int .i64 0) (.int .u64 0) (.int .u64 0) (.int .i64 0)
  have HB := hide (bnew w (.cells #[.int .i64 0, .int .u64 0, .int .u64 0, .int .i64 0] 39))
  generalize (cutP l).1 = ph at *
  generalize (cutP l).2 = row at *
  have hsz := size_str row
  unfold oP pV
  unfold str at *
  simp only at *
  generalize (⟨l.toArray⟩ : ByteArray) = s at *
  generalize (⟨row.toArray⟩ : ByteArray) = r at *
  generalize row.length = m at *
  unfold At4 at hR
  by_cases h0 : ph < 0
  . have d0 : decide (ph < 0) = true := decide_eq_true h0
    go_enter Tryd.func73, Tryd.ntmps73
    go_wp2_with (first
      | (go_at_call 74; refine (c1 _ HB.out).mono ?_; rintro e w1 ⟨rfl, hw⟩; obtain rfl := hw.symm)
      | (refine wpList_store_row rfl _ _ _ rfl w.heap.size _ rfl rfl _ _ hR (by exact infoP) (by rfl) (allP _ _ _ _) ?_))
    refine bodyPost_ret (results_ct rfl _ _ w.heap.size _ _ _ _ rfl (setRow_heap _ _ _ _ _ _ hR) Tryd.underlying39 rfl (by exact infoP)) rfl ?_
    exact ⟨rfl, below_setRow HB.out (Nat.le_refl _) _⟩
  . have d0 : decide (ph < 0) = false := decide_eq_false h0
    have d1 : decide (64 < (m : Int)) = true := decide_eq_true (by omega)
    go_enter Tryd.func73, Tryd.ntmps73
    go_wp2_with (first
      | (go_at_call 74; refine (c1 _ HB.out).mono ?_; rintro e w1 ⟨rfl, hw⟩; obtain rfl := hw.symm)
      | (refine wpList_store_row rfl _ _ _ rfl w.heap.size _ rfl rfl _ _ hR (by exact infoP) (by rfl) (allP _ _ _ _) ?_))
    refine bodyPost_ret (results_ct rfl _ _ w.heap.size _ _ _ _ rfl (setRow_heap _ _ _ _ _ _ hR) Tryd.underlying39 rfl (by exact infoP)) rfl ?_
    exact ⟨rfl, below_setRow HB.out (Nat.le_refl _) _⟩
end Go.Proofs.YtllfplkefbhnfaaDoor.Pau
