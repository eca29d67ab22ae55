/- The program's bothEven, Check. -/
import Derived.Test.YthpkmbgollollabDoorDb
import Derived.Laws.Tables
import Derived.Laws.CopyOwn
namespace Go.Proofs.YthpkmbgollollabDoor.Dy
open Go.RowKit Go.Shelf Go.Proofs.YthpkmbgollollabDoor.Sca

theorem wrapI (x : Int) : IntKind.i64.wrap x = (x + 9223372036854775808) % 18446744073709551616 - 9223372036854775808 := by
  rw [IntKind.wrap_i64]
theorem un_ofInt (a : Int) : (BitVec.ofInt 64 a).toNat = un a := by rw [BitVec.toNat_ofInt]; rfl
theorem or_un (a b : Int) : bits .or .i64 a b = IntKind.i64.wrap ((un a ||| un b : Nat) : Int) := by
  show IntKind.i64.wrap ((BitVec.ofInt 64 a ||| BitVec.ofInt 64 b).toNat : Int) = _
  rw [BitVec.toNat_or, un_ofInt, un_ofInt]
theorem un_wrap (n : Nat) (h : n < 18446744073709551616) : un (IntKind.i64.wrap (n : Int)) = n := by rw [wrapI]; unfold un; omega
theorem or_u64 (a b : Int) : IntKind.u64.wrap (bits .or .i64 a b) = ((un a ||| un b : Nat) : Int) := by
  rw [or_un, wrapU, wrapI]
  have := orU_lt a b
  generalize un a ||| un b = n at *
  omega
theorem and_one_i (x : Int) : bits .and .i64 x 1 = ((un x % 2 : Nat) : Int) := by
  show IntKind.i64.wrap ((BitVec.ofInt 64 x &&& BitVec.ofInt 64 1).toNat : Int) = _
  rw [BitVec.toNat_and, un_ofInt, show (BitVec.ofInt 64 1).toNat = 1 from rfl, Nat.and_one_is_mod, wrapI]
  omega
theorem or_even (a b : Int) : (bits .and .i64 (bits .or .i64 a b) 1 == 0) = decide (a % 2 = 0 ∧ b % 2 = 0) := by
  have h2 : (un a ||| un b) % 2 ^ 1 = un a % 2 ^ 1 ||| un b % 2 ^ 1 := Nat.or_mod_two_pow
  rw [and_one_i, or_un, un_wrap _ (orU_lt a b)]
  have e1 : un a % 2 ^ 1 = (a % 2).toNat := by unfold un; omega
  have e2 : un b % 2 ^ 1 = (b % 2).toNat := by unfold un; omega
  rw [e1, e2] at h2
  by_cases h : a % 2 = 0 ∧ b % 2 = 0
  · rw [decide_eq_true h, beq_iff_eq]
    rw [h.1, h.2] at h2
    have : (un a ||| un b) % 2 = 0 := h2
    omega
  · rw [decide_eq_false h, beq_eq_false_iff_ne]
    intro hz
    have : (un a ||| un b) % 2 ^ 1 = 0 := by omega
    rw [this] at h2
    have := Nat.or_eq_zero_iff.1 h2.symm
    omega
set_option maxRecDepth 100000 in
set_option maxHeartbeats 1000000 in
theorem yBothEven (d : DD) (w : World) : Calls Tryd.prog 31 #[dV d] w fun e w' => e = .returned (.bool (decide (d.re % 2 = 0 ∧ d.im % 2 = 0))) ∧ Below w.heap.size w w' := by
  obtain ⟨re, im, ex⟩ := d
  unfold dV
  dsimp only
  rw [← or_even]
  go_enter Tryd.func31, Tryd.ntmps31
  go_wp2_with fail
  go_ret
  exact ⟨rfl, below_new _ _⟩
theorem infoD : (Tryd.prog.info? 23).map (·.size) = some 3 := by kernel_rfl
theorem allD (a b c : Int) : (#[Value.int .i64 a, .int .i64 b, .int .i64 c]).all (·.oneCell') = true := by simp [Value.oneCell']
/-- What a call answers: a struct in a cell, and a word. -/
theorem results_ct {P : Program} {fn : Func} {p u : Tmp} {ty : TypeId} (h : fn.results = #[.cell p ty, .tmp u]) (tmps : Array Value) (w : World) (g : Nat) (t : TypeId) (cs : Array Value) (fr : Nat × Nat) (d : TypeDesc)
    (hp : tmps.getD p undef = .pointer (some ⟨g, 0, none⟩)) (hg : w.heap[g]? = some (.cells cs t fr))
    (hu : P.underlying ty = some d) (hd : (match d with | .struct _ | .array _ _ => true | _ => false) = true) (hi : (P.info? ty).map (·.size) = some cs.size) :
    (results fn tmps).run P w = .ok (.tuple #[.agg cs, tmps.getD u undef]) w := by
  have hp' : tmps[p]?.getD undef = .pointer (some ⟨g, 0, none⟩) := by simpa using hp
  simp [results, h, hp', asAddr, run_loadVar_row w g t ty cs fr d hg hu hd hi, Result.andThen]
/-- A dyad that lies in a block of its own. -/
def At (w : World) (k : Nat) (re im ex : Int) : Prop := w.heap[k]? = some (.cells #[.int .i64 re, .int .i64 im, .int .i64 ex] 23)
theorem At.cells {w : World} {k : Nat} {re im ex : Int} (h : At w k re im ex) : w.cell? ⟨k, 0, none⟩ = some (.int .i64 re) ∧ w.cell? ⟨k, 1, none⟩ = some (.int .i64 im) ∧ w.cell? ⟨k, 2, none⟩ = some (.int .i64 ex) :=
  ⟨cell_of_row _ _ 0 _ _ _ h, cell_of_row _ _ 1 _ _ _ h, cell_of_row _ _ 2 _ _ _ h⟩
theorem At.fz {w : World} {k : Nat} {re im ex : Int} (h : At w k re im ex) (j : Nat) : w.frozen? ⟨k, j, none⟩ = false := by unfold At at h; simp [World.frozen?, h]
theorem At.lt {w : World} {k : Nat} {re im ex : Int} (h : At w k re im ex) : k < w.heap.size := (Array.getElem?_eq_some_iff.1 h).1
theorem At.new (w : World) (re im ex : Int) : At (w.alloc (.cells #[.int .i64 re, .int .i64 im, .int .i64 ex] 23)) w.heap.size re im ex := heap_alloc_new _ _
theorem At.below {w w' : World} {k : Nat} {re im ex : Int} (h : At w k re im ex) (hb : Below w.heap.size w w') : At w' k re im ex := (hb.block k h.lt).trans h
theorem At.drew {w : World} {k : Nat} {re im ex : Int} (h : At w k re im ex) : At w.drew k re im ex := h
theorem At.drewN {w : World} {k : Nat} {re im ex : Int} (h : At w k re im ex) (n : Nat) : At (w.drewN n) k re im ex := h
/-- What Check answers. -/
def chk (d : DD) : Int := if Rt d then 0 else 2
set_option maxRecDepth 100000 in
set_option maxHeartbeats 1000000 in
theorem yCheck (d : DD) (h : d64 d) (w : World) : Calls Tryd.prog 17 #[dV d] w fun e w' => e = .returned (.int .i64 (chk d)) ∧ Below w.heap.size w w' := by
  have cI := fun w => yInRange d h w
  have cE := fun w => yBothEven d w
  unfold chk
  by_cases c1 : inR d
  · have z1 : decide (inR d) = true := decide_eq_true c1
    rw [z1] at cI
    by_cases c2 : 0 < d.ex
    · have z2 : decide (0 < d.ex) = true := decide_eq_true c2
      obtain ⟨B, hB⟩ : ∃ B, decide (d.re % 2 = 0 ∧ d.im % 2 = 0) = B := ⟨_, rfl⟩
      have hv : (if Rt d then 0 else 2 : Int) = if B = true then 2 else 0 := by
        cases B with
        | true => rw [if_neg (by rintro ⟨_, r⟩; have := of_decide_eq_true hB; omega)]; rfl
        | false => rw [if_pos ⟨c1, by have := of_decide_eq_false hB; omega⟩]; rfl
      rw [hv]
      rw [hB] at cE
      clear z1 c1 h hv hB
      obtain ⟨re, im, ex⟩ := d
      unfold dV at *
      dsimp only at *
      go_enter Tryd.func17, Tryd.ntmps17
      go_wp2_with fail
      refine (cI _).mono ?_
      rintro e w1 ⟨rfl, hb1⟩
      have hbw1 : Below w.heap.size w w1 := (below_new _ _).trans (hb1.mono (by simp))
      obtain ⟨g0, g1, g2⟩ := ((At.new w re im ex).below hb1).cells
      clear hb1 cI
      go_wp2_with fail
      refine (cE _).mono ?_
      rintro e w2 ⟨rfl, hb2⟩
      have hbw2 := hbw1.trans (hb2.mono hbw1.size)
      clear hb2 cE g0 g1 g2 hbw1
      cases B <;> (go_wp2_with fail; go_ret; exact ⟨rfl, hbw2⟩)
    · have z2 : decide (0 < d.ex) = false := decide_eq_false c2
      rw [if_pos ⟨c1, by have := c1.2.2.1; omega⟩]
      clear z1 c1 h c2 cE
      obtain ⟨re, im, ex⟩ := d
      unfold dV at *
      dsimp only at *
      go_enter Tryd.func17, Tryd.ntmps17
      go_wp2_with fail
      refine (cI _).mono ?_
      rintro e w1 ⟨rfl, hb1⟩
      have hbw1 : Below w.heap.size w w1 := (below_new _ _).trans (hb1.mono (by simp))
      obtain ⟨g0, g1, g2⟩ := ((At.new w re im ex).below hb1).cells
      clear hb1 cI
      go_wp2_with fail
      go_ret
      exact ⟨rfl, hbw1⟩
  · have z1 : decide (inR d) = false := decide_eq_false c1
    rw [z1] at cI
    rw [if_neg (fun r => c1 r.1)]
    clear z1 c1 h cE
    obtain ⟨re, im, ex⟩ := d
    unfold dV at *
    dsimp only at *
    go_enter Tryd.func17, Tryd.ntmps17
    go_wp2_with fail
    refine (cI _).mono ?_
    rintro e w1 ⟨rfl, hb1⟩
    have hbw1 : Below w.heap.size w w1 := (below_new _ _).trans (hb1.mono (by simp))
    clear hb1 cI
    go_wp2_with fail
    go_ret
    exact ⟨rfl, hbw1⟩
end Go.Proofs.YthpkmbgollollabDoor.Dy
