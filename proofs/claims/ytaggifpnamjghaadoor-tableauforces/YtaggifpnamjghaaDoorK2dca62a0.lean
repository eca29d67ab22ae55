import Derived.Test.YtaggifpnamjghaaDoorKc355958a
set_option maxRecDepth 100000
set_option maxHeartbeats 1000000
namespace Go.Proofs.YtaggifpnamjghaaDoor.Tbl
open Go.RowKit Go.Proofs.YtaggifpnamjghaaDoor.Pau Go.Proofs.YtaggifpnamjghaaDoor.Gt
theorem tSigned (p : P) (hp : Wd p) (n : Int) (w : World) : Calls Tryd.prog 16 #[pV p, .int .i64 n] w fun e w' => e = .returned (.bool (sgB p n)) /\ Below w.heap.size w w' := by
  have c1 := fun W => pHerm p hp W
  unfold sgB
  generalize (rt p && decide (p.ph = 0 ∨ p.ph = 2)) = r at *
  obtain ⟨m, x, z, ph⟩ := p
  have HB := hide (bnew w (.cells #[.int .i64 m, .int .u64 (x : Int), .int .u64 (z : Int), .int .i64 ph] 32))
  unfold pV at *
  simp only at *
  clear hp
  by_cases h : m = n
  . subst h
    go_enter Tryd.func16, Tryd.ntmps16
    go_wp2_with (go_at_call 39; refine (c1 _).mono ?_; rintro e w1 ⟨rfl, hb1⟩; have HB1 := hide (bkp HB.out hb1))
    go_ret
    exact ⟨by simp, HB1.out⟩
  . have e1 : (m == n) = false := by simpa using h
    go_enter Tryd.func16, Tryd.ntmps16
    go_wp2_with fail
    go_ret
    exact ⟨by simp [h], HB.out⟩
theorem tCommute (a b : P) (ha : Wd a) (hb : Wd b) (w : World) : Calls Tryd.prog 40 #[pV a, pV b] w fun e w' => e = .returned (.bool (cmB a b)) /\ Below w.heap.size w w' := by
  have c1 := fun W => pCommute a b ha hb W
  unfold cmB
  generalize (fitP a b && comB a b) = r at *
  generalize (if fitP a b = true then (0 : Int) else 130) = q at *
  obtain ⟨n, x, z, ph⟩ := a
  obtain ⟨n', x', z', ph'⟩ := b
  unfold pV at *
  simp only at *
  have HB := hide (bkp (bnew w (.cells #[.int .i64 n, .int .u64 (x : Int), .int .u64 (z : Int), .int .i64 ph] 32)) (bnew _ (.cells #[.int .i64 n', .int .u64 (x' : Int), .int .u64 (z' : Int), .int .i64 ph'] 32)))
  clear ha hb
  go_enter Tryd.func40, Tryd.ntmps40
  go_wp2_with (go_at_call 60; refine (c1 _).mono ?_; rintro e w1 ⟨rfl, hb1⟩; have HB1 := hide (bkp HB.out hb1))
  go_ret
  exact ⟨rfl, HB1.out⟩
theorem results_c {P : Program} {fn : Func} {p : Tmp} {ty : TypeId} (h : fn.results = #[.cell p ty]) (tmps : Array Value) (w : World) (g : Nat) (t : TypeId) (cs : Array Value) (fr : Nat × Nat) (d : TypeDesc)
    (hp : tmps.getD p undef = .pointer (some ⟨g, 0, none⟩)) (hg : w.heap[g]? = some (.cells cs t fr))
    (hu : P.underlying ty = some d) (hd : (match d with | .struct _ | .array _ _ => true | _ => false) = true) (hi : (P.info? ty).map (·.size) = some cs.size) :
    (results fn tmps).run P w = .ok (.agg cs) w := by
  have hp' : tmps[p]?.getD undef = .pointer (some ⟨g, 0, none⟩) := by simpa using hp
  simp [results, h, hp', asAddr, run_loadVar_row w g t ty cs fr d hg hu hd hi]
theorem tProduct (a b : P) (ha : Wd a) (hb : Wd b) (w : World) : Calls Tryd.prog 67 #[pV a, pV b] w fun e w' => e = .returned (pV (pdP a b)) /\ Below w.heap.size w w' := by
  have c1 := fun W => pMul a b ha hb W
  unfold pdP
  generalize mulR a b = r at *
  obtain ⟨⟨rn, rx, rz, rp⟩, re⟩ := r
  obtain ⟨n, x, z, ph⟩ := a
  obtain ⟨n', x', z', ph'⟩ := b
  unfold pV at *
  simp only at *
  obtain ⟨-, -, HA2⟩ := At4.three w (.int .i64 n) (.int .u64 (x : Int)) (.int .u64 (z : Int)) (.int .i64 ph) (.int .i64 n') (.int .u64 (x' : Int)) (.int .u64 (z' : Int)) (.int .i64 ph') (.int .i64 0) (.int .u64 0) (.int .u64 0) (.int .i64 0)
  have HAh2 := hide HA2
  have HB := hide (bkp (bkp (bnew w (.cells #[.int .i64 n, .int .u64 (x : Int), .int .u64 (z : Int), .int .i64 ph] 32)) (bnew _ (.cells #[.int .i64 n', .int .u64 (x' : Int), .int .u64 (z' : Int), .int .i64 ph'] 32))) (bnew _ (.cells #[.int .i64 0, .int .u64 0, .int .u64 0, .int .i64 0] 32)))
  clear HA2 ha hb
  go_enter Tryd.func67, Tryd.ntmps67
  go_wp2_with fail
  refine (c1 _).mono ?_
  rintro e w1 ⟨rfl, hb1⟩
  have hbn := bnew w1 (.cells #[.int .i64 rn, .int .u64 (rx : Int), .int .u64 (rz : Int), .int .i64 rp] 32)
  have HB1 := hide (bkp (bkp HB.out hb1) hbn)
  have hR := (HAh2.out.below hb1).below hbn
  clear hb1 HAh2 hbn
  unfold At4 at hR
  go_wp2_with (first
    | (refine wpList_store_row rfl _ _ _ rfl (w.heap.size + 1 + 1) _ rfl rfl _ _ hR (by exact infoP) (by rfl) (allP _ _ _ _) ?_))
  refine bodyPost_ret (results_c rfl _ _ (w.heap.size + 1 + 1) _ _ _ _ rfl (setRow_heap _ _ _ _ _ _ hR) Tryd.underlying32 rfl (by exact infoP)) rfl ?_
  exact ⟨rfl, below_setRow HB1.out (by omega) _⟩
end Go.Proofs.YtaggifpnamjghaaDoor.Tbl
