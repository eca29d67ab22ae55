import Derived.Test.YtoickolhekhgmaaGreatDoorEn2eca3705
import Derived.Laws.CopyOwn
set_option maxRecDepth 100000
set_option maxHeartbeats 1000000
namespace Go.Proofs.YtoickolhekhgmaaGreatDoor.Pau
open Go.RowKit
theorem infoP : (Tryz.prog.info? 27).map (·.size) = some 4 := by kernel_rfl
theorem allP (a b c d : Int) : (#[Value.int .i64 a, .int .u64 b, .int .u64 c, .int .i64 d]).all (·.oneCell') = true := by simp [Value.oneCell']
theorem results_ct {P : Program} {fn : Func} {p u : Tmp} {ty : TypeId} (h : fn.results = #[.cell p ty, .tmp u]) (tmps : Array Value) (w : World) (g : Nat) (t : TypeId) (cs : Array Value) (fr : Nat × Nat) (d : TypeDesc)
    (hp : tmps.getD p undef = .pointer (some ⟨g, 0, none⟩)) (hg : w.heap[g]? = some (.cells cs t fr))
    (hu : P.underlying ty = some d) (hd : (match d with | .struct _ | .array _ _ => true | _ => false) = true) (hi : (P.info? ty).map (·.size) = some cs.size) :
    (results fn tmps).run P w = .ok (.tuple #[.agg cs, tmps.getD u undef]) w := by
  have hp' : tmps[p]?.getD undef = .pointer (some ⟨g, 0, none⟩) := by simpa using hp
  simp [results, h, hp', asAddr, run_loadVar_row w g t ty cs fr d hg hu hd hi, Result.andThen]
theorem At4.set3 {w : World} {g : Nat} {a b c d : Value} (h : At4 w g a b c d) (v : Value) : At4 (w.setCell ⟨g, 3, none⟩ v) g a b c v := by
  unfold At4 at *
  simp [World.setCell, Array.getElem?_modify, h]
theorem At4.fz {w : World} {g : Nat} {a b c d : Value} (h : At4 w g a b c d) (j : Nat) : w.frozen? ⟨g, j, none⟩ = false := by unfold At4 at h; simp [World.frozen?, h]
theorem At4.off {w : World} {g k j : Nat} {a b c d v : Value} (h : At4 w g a b c d) (hk : k ≠ g) : At4 (w.setCell ⟨k, j, none⟩ v) g a b c d := by
  unfold At4 at *
  simp [World.setCell, Array.getElem?_modify, h, hk]
def fitP (a b : P) : Bool := rt a && rt b && decide (a.n = b.n)
def oP : P := ⟨0, 0, 0, 0⟩
theorem pFit (a b : P) (ha : Wd a) (hb : Wd b) (w : World) : Calls Tryz.prog 70 #[pV a, pV b] w fun e w' => e = .returned (.bool (fitP a b)) /\ Below w.heap.size w w' := by
  have c1 := fun W => pCheck a ha W
  have c2 := fun W => pCheck b hb W
  unfold ck at c1 c2
  unfold fitP
  generalize rt a = r1 at *
  generalize rt b = r2 at *
  obtain ⟨n, x, z, ph⟩ := a
  obtain ⟨n', x', z', ph'⟩ := b
  unfold pV at *
  simp only at *
  obtain ⟨HA, HA'⟩ := At4.two w (.int .i64 n) (.int .u64 (x : Int)) (.int .u64 (z : Int)) (.int .i64 ph) (.int .i64 n') (.int .u64 (x' : Int)) (.int .u64 (z' : Int)) (.int .i64 ph')
  have HAh := hide HA
  have HAh' := hide HA'
  have HB := hide (bkp (bnew w (.cells #[.int .i64 n, .int .u64 (x : Int), .int .u64 (z : Int), .int .i64 ph] 27)) (bnew _ (.cells #[.int .i64 n', .int .u64 (x' : Int), .int .u64 (z' : Int), .int .i64 ph'] 27)))
  clear HA HA' ha hb
  cases r1 <;> cases r2
  all_goals simp only [if_true, if_false, Bool.false_eq_true, Bool.true_and, Bool.false_and, Bool.and_true, Bool.and_false] at c1 c2 ⊢
  all_goals go_enter Tryz.func70, Tryz.ntmps70
  all_goals go_wp2_with fail
  all_goals refine (c1 _).mono ?_
  all_goals rintro e w1 ⟨rfl, hb1⟩
  all_goals obtain ⟨x0, x1, x2, x3, x4⟩ := (HAh.out.below hb1).cells
  all_goals obtain ⟨y0, y1, y2, y3, y4⟩ := (HAh'.out.below hb1).cells
  all_goals have HB1 := hide (bkp HB.out hb1)
  . go_wp2_with fail
    go_ret
    exact ⟨rfl, HB1.out⟩
  . go_wp2_with fail
    go_ret
    exact ⟨rfl, HB1.out⟩
  . go_wp2_with fail
    refine (c2 _).mono ?_
    rintro e w2 ⟨rfl, hb2⟩
    obtain ⟨x0, x1, x2, x3, x4⟩ := ((HAh.out.below hb1).below hb2).cells
    obtain ⟨y0, y1, y2, y3, y4⟩ := ((HAh'.out.below hb1).below hb2).cells
    have HB2 := hide (bkp HB1.out hb2)
    go_wp2_with fail
    go_ret
    exact ⟨rfl, HB2.out⟩
  . go_wp2_with fail
    refine (c2 _).mono ?_
    rintro e w2 ⟨rfl, hb2⟩
    obtain ⟨x0, x1, x2, x3, x4⟩ := ((HAh.out.below hb1).below hb2).cells
    obtain ⟨y0, y1, y2, y3, y4⟩ := ((HAh'.out.below hb1).below hb2).cells
    have HB2 := hide (bkp HB1.out hb2)
    go_wp2_with fail
    go_ret
    exact ⟨rfl, HB2.out⟩
def comB (a b : P) : Bool := decide ((pc (a.x &&& b.z) + pc (a.z &&& b.x)) % 2 = 0)
theorem pCommute (a b : P) (ha : Wd a) (hb : Wd b) (w : World) : Calls Tryz.prog 128 #[pV a, pV b] w fun e w' => e = .returned (.tuple #[.bool (fitP a b && comB a b), .int .i64 (if fitP a b = true then 0 else 130)]) /\ Below w.heap.size w w' := by
  have c1 := fun W => pFit a b ha hb W
  have c2 := fun W => pCommon a.x b.z ha.1 hb.2 W
  have c3 := fun W => pCommon a.z b.x ha.2 hb.1 W
  have l1 := pc_le (a.x &&& b.z)
  have l2 := pc_le (a.z &&& b.x)
  unfold comB
  generalize fitP a b = r at *
  generalize pc (a.x &&& b.z) = m1 at *
  generalize pc (a.z &&& b.x) = m2 at *
  obtain ⟨n, x, z, ph⟩ := a
  obtain ⟨n', x', z', ph'⟩ := b
  unfold pV at *
  simp only at *
  obtain ⟨HA, HA'⟩ := At4.two w (.int .i64 n) (.int .u64 (x : Int)) (.int .u64 (z : Int)) (.int .i64 ph) (.int .i64 n') (.int .u64 (x' : Int)) (.int .u64 (z' : Int)) (.int .i64 ph')
  have HAh := hide HA
  have HAh' := hide HA'
  have HB := hide (bkp (bnew w (.cells #[.int .i64 n, .int .u64 (x : Int), .int .u64 (z : Int), .int .i64 ph] 27)) (bnew _ (.cells #[.int .i64 n', .int .u64 (x' : Int), .int .u64 (z' : Int), .int .i64 ph'] 27)))
  clear HA HA' ha hb
  have hw1 : wrap64 ((m1 : Int) + (m2 : Int)) = (m1 : Int) + (m2 : Int) := by unfold wrap64; omega
  have hm1 : Int.tmod ((m1 : Int) + (m2 : Int)) 2 = (((m1 + m2) % 2 : Nat) : Int) := by rw [Int.tmod_eq_emod_of_nonneg (by omega)]; omega
  have hd : decide ((m1 + m2) % 2 = 0) = ((((m1 + m2) % 2 : Nat) : Int) == 0) := by
    rcases Nat.mod_two_eq_zero_or_one (m1 + m2) with h | h <;> rw [h] <;> rfl
  rw [hd]
  have hl : (m1 + m2) % 2 < 2 := Nat.mod_lt _ (by decide)
  generalize (m1 + m2) % 2 = m at *
  clear hd
  cases r
  . simp only [if_false, Bool.false_eq_true, Bool.false_and] at c1 ⊢
    go_enter Tryz.func128, Tryz.ntmps128
    go_wp2_with fail
    refine (c1 _).mono ?_
    rintro e w1 ⟨rfl, hb1⟩
    have HB1 := hide (bkp HB.out hb1)
    go_wp2_with fail
    go_ret2
    exact ⟨rfl, HB1.out⟩
  . simp only [if_true, Bool.true_and] at c1 ⊢
    go_enter Tryz.func128, Tryz.ntmps128
    go_wp2_with fail
    refine (c1 _).mono ?_
    rintro e w1 ⟨rfl, hb1⟩
    obtain ⟨x0, x1, x2, x3, x4⟩ := (HAh.out.below hb1).cells
    obtain ⟨y0, y1, y2, y3, y4⟩ := (HAh'.out.below hb1).cells
    have HB1 := hide (bkp HB.out hb1)
    clear hb1 HAh HAh'
    go_wp2_with fail
    go_quiet (first | (go_at_call 72; first | exact Calls.quiet_of_same (c2 _) | exact Calls.quiet_of_same (c3 _)))
    go_wp2_with fail
    go_ret2
    exact ⟨rfl, bdrew HB1.out _⟩
end Go.Proofs.YtoickolhekhgmaaGreatDoor.Pau
