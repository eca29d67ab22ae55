/- The set-up: numbers of two qubits, check, weights. -/
import Derived.Test.YtedmdeifjmconaaDoorE11
import Derived.Test.YtedmdeifjmconaaDoorXq
import Derived.Deep.QuietTactic
import Derived.BigQuiet
namespace Go.Proofs.YtedmdeifjmconaaDoor.Odd
open Go.RowKit Go.Proofs.YtedmdeifjmconaaDoor.Sca Go.Proofs.YtedmdeifjmconaaDoor.Gt

theorem hide {p : Prop} (h : p) : Hid p := h
theorem store_f (a : Addr) (x : Nat) (m : Mode) (w : World) : (store a (.float .f64 x) m).run Tryd.prog w = stored Tryd.prog w a (.float .f64 x) m := run_store _ _ _ _ _ rfl
theorem store_c (a : Addr) (x y : Nat) (m : Mode) (w : World) : (store a (.complex .f64 x y) m).run Tryd.prog w = stored Tryd.prog w a (.complex .f64 x y) m := run_store _ _ _ _ _ rfl
theorem bdrew {B : Nat} {a w : World} (h : Below B a w) (n : Nat) : Below B a (w.drewN n) := ⟨h.os, h.tape, h.output, h.size, h.block⟩
theorem bnew (w : World) (o : Obj) : Below w.heap.size w (w.alloc o) := (Below.refl _ _).alloc (Nat.le_refl _) _
set_option maxRecDepth 100000 in
set_option maxHeartbeats 1000000 in
theorem oNum2 (p g c : Nat) (hp : p < 4) (w : World) (hQ : Qr w g [1, 0]) : Calls Tryd.prog 25 #[.int .i64 (p : Int), .slice (some ⟨g, 0, none⟩) 2 c] w fun e w' => e = .returned (.int .i64 (num2 p : Int)) ∧ w' = w := by
  have q0 := hQ.2 0 1 rfl
  have q1 := hQ.2 1 0 rfl
  have hg := hQ.1
  have c1 := fun W => oBit p 0 hp (by decide) W
  have c2 := fun W => oBit p 1 hp (by decide) W
  have o0 : bits .or .i64 0 0 = 0 := by decide +kernel
  have o1 : bits .or .i64 0 1 = 1 := by decide +kernel
  have o2 : bits .or .i64 0 2 = 2 := by decide +kernel
  have o3 : bits .or .i64 1 0 = 1 := by decide +kernel
  have o4 : bits .or .i64 1 2 = 3 := by decide +kernel
  rcases lt4 hp with rfl | rfl | rfl | rfl
  all_goals go_enter Tryd.func25, Tryd.ntmps25
  all_goals go_wp2_with fail
  all_goals refine wp_loop_rounds 3 ?_
  all_goals rw [rounds_succ]
  all_goals go_wp2_with (first | (go_at_call 24; (with_reducible refine Calls.mono (c2 _) ?_); rintro e w1 ⟨rfl, rfl⟩))
  all_goals rw [rounds_succ]
  all_goals go_wp2_with (first | (go_at_call 24; (with_reducible refine Calls.mono (c1 _) ?_); rintro e w1 ⟨rfl, rfl⟩))
  all_goals rw [rounds_succ]
  all_goals go_wp2_with fail
  all_goals go_ret
  all_goals exact ⟨rfl, rfl⟩
set_option maxRecDepth 100000 in
set_option maxHeartbeats 1000000 in
theorem oCheck1 (ao : Option Addr) (k g c : Nat) (w : World) (hT : Tz w) (hQ : Qr w g [0]) : Calls Tryd.prog 16 #[.slice ao 4 k, .slice (some ⟨g, 0, none⟩) 1 c] w fun e w' => e = .returned (.int .i64 0) ∧ w' = w := by
  have q0 := hQ.2 0 0 rfl
  have hg := hQ.1
  have c0 := tCheck ao k w hT
  have c1 := fun W => oBit 0 0 (by decide) (by decide) W
  have o1 : bits .or .i64 0 1 = 1 := by decide +kernel
  go_enter Tryd.func16, Tryd.ntmps16
  go_wp2_with (first | (go_at_call 23; refine c0.mono ?_; rintro e w1 ⟨rfl, rfl⟩))
  refine wp_loop_rounds 2 ?_
  rw [rounds_succ]
  go_wp2_with (first | (go_at_call 24; (with_reducible refine Calls.mono (c1 _) ?_); rintro e w1 ⟨rfl, rfl⟩))
  rw [rounds_succ]
  go_wp2_with fail
  go_ret
  exact ⟨rfl, rfl⟩
set_option maxRecDepth 100000 in
set_option maxHeartbeats 1000000 in
theorem oCheck2 (ao : Option Addr) (k g c : Nat) (w : World) (hT : Tz w) (hQ : Qr w g [1, 0]) : Calls Tryd.prog 16 #[.slice ao 4 k, .slice (some ⟨g, 0, none⟩) 2 c] w fun e w' => e = .returned (.int .i64 0) ∧ w' = w := by
  have q0 := hQ.2 0 1 rfl
  have q1 := hQ.2 1 0 rfl
  have hg := hQ.1
  have c0 := tCheck ao k w hT
  have c1 := fun W => oBit 0 1 (by decide) (by decide) W
  have c2 := fun W => oBit 2 0 (by decide) (by decide) W
  have o1 : bits .or .i64 0 2 = 2 := by decide +kernel
  have o2 : bits .or .i64 2 1 = 3 := by decide +kernel
  go_enter Tryd.func16, Tryd.ntmps16
  go_wp2_with (first | (go_at_call 23; refine c0.mono ?_; rintro e w1 ⟨rfl, rfl⟩))
  refine wp_loop_rounds 3 ?_
  rw [rounds_succ]
  go_wp2_with (first | (go_at_call 24; (with_reducible refine Calls.mono (c1 _) ?_); rintro e w1 ⟨rfl, rfl⟩))
  rw [rounds_succ]
  go_wp2_with (first | (go_at_call 24; (with_reducible refine Calls.mono (c2 _) ?_); rintro e w1 ⟨rfl, rfl⟩))
  rw [rounds_succ]
  go_wp2_with fail
  go_ret
  exact ⟨rfl, rfl⟩
/-- Floats in a row of one's own, by their places. -/
def Fr (w : World) (g n : Nat) (f : Nat → Nat) : Prop := ∃ cur : Array Value, w.heap[g]? = some (.cells cur 22 (0, 0)) ∧ ∀ k, k < n → cur[k]? = some (.float .f64 (f k))
theorem Fr.cell {w : World} {g n : Nat} {f : Nat → Nat} (h : Fr w g n f) (k : Nat) (hk : k < n) : w.cell? ⟨g, k, none⟩ = some (.float .f64 (f k)) := by
  obtain ⟨c, hb, hc⟩ := h
  simp [World.cell?, hb, hc k hk]
theorem Fr.frozen {w : World} {g n : Nat} {f : Nat → Nat} (h : Fr w g n f) (k : Nat) : w.frozen? ⟨g, k, none⟩ = false := by
  obtain ⟨c, hb, _⟩ := h
  simp [World.frozen?, hb]
theorem Fr.lt {w : World} {g n : Nat} {f : Nat → Nat} (h : Fr w g n f) : g < w.heap.size := by
  obtain ⟨c, hb, _⟩ := h
  exact (Array.getElem?_eq_some_iff.1 hb).1
theorem Fr.below {w w' : World} {g n : Nat} {f : Nat → Nat} (h : Fr w g n f) (hb : Below w.heap.size w w') : Fr w' g n f := by
  have := hb.block g h.lt
  obtain ⟨c, h1, h2⟩ := h
  exact ⟨c, this.trans h1, h2⟩
theorem Fr.set {w : World} {g n : Nat} {f f' : Nat → Nat} (h : Fr w g n f) (k x : Nat) (hk : k < n) (hx : f' k = x) (ho : ∀ j, j ≠ k → f' j = f j) : Fr (w.setCell ⟨g, k, none⟩ (.float .f64 x)) g n f' := by
  obtain ⟨c, hb, hc⟩ := h
  refine ⟨c.setIfInBounds k (.float .f64 x), ?_, fun j hj => ?_⟩
  · simp [World.setCell, Array.getElem?_modify, hb]
  · rw [Array.getElem?_setIfInBounds]
    by_cases e : k = j
    · subst e
      have : k < c.size := (Array.getElem?_eq_some_iff.1 (hc k hk)).1
      simp [this, hx]
    · rw [if_neg e, hc j hj, ho j (fun e' => e e'.symm)]
set_option maxRecDepth 100000 in
set_option maxHeartbeats 2000000 in
theorem oWeights1 (gs gq cs cq : Nat) (ql : List Int) (nm : Nat → Nat) (F : Nat → Nat → Nat)
    (hnum : ∀ p : Nat, p < 4 → ∀ W, Qr W gq ql → Calls Tryd.prog 25 #[.int .i64 (p : Int), .slice (some ⟨gq, 0, none⟩) 1 cq] W fun e w' => e = .returned (.int .i64 (nm p : Int)) ∧ w' = W)
    (hlt : ∀ p : Nat, p < 4 → nm p < 2) (hF0 : ∀ k, F 0 k = 0) (hFa : ∀ p, p < 4 → floatBits .add .f64 (F p (nm p)) (sqB p) = some (F (p + 1) (nm p))) (hFo : ∀ p, p < 4 → ∀ k, k ≠ nm p → F (p + 1) k = F p k)
    (w : World) (hS : S4 w gs) (hQ : Qr w gq ql) : Calls Tryd.prog 17 #[.slice (some ⟨gs, 0, none⟩) 4 cs, .slice (some ⟨gq, 0, none⟩) 1 cq] w fun e w' => ∃ g, e = .returned (.slice (some ⟨g, 0, none⟩) 2 2) ∧ Fr w' g 2 (F 4) ∧ Below w.heap.size w w' := by
  obtain ⟨w1, hm1, hF1, hb1⟩ : ∃ w1, (Instr.makeSlice 35 (.int .i64 2) (.int .i64 2)).run Tryd.prog w = .ok (.slice (some ⟨w.heap.size, 0, none⟩) 2 2) w1 ∧ Fr w1 w.heap.size 2 (F 0) ∧ Below w.heap.size w w1 := by
    refine ⟨w.alloc (.cells #[.float .f64 0, .float .f64 0] 22), by kernel_rfl, ⟨_, heap_alloc_new w _, fun k hk => ?_⟩, bnew _ _⟩
    rw [hF0 k]
    have : k = 0 ∨ k = 1 := by omega
    rcases this with rfl | rfl <;> rfl
  have HF1 := hide hF1
  have HB1 := hide hb1
  have HS := hide hS
  have HQ := hide hQ
  have HN := hide hnum
  have HLT := hide hlt
  have HFA := hide hFa
  have HFO := hide hFo
  clear hF1 hb1 hS hQ hnum hlt hFa hFo hF0
  go_enter Tryd.func17, Tryd.ntmps17
  go_wp2_with fail
  go_loopw [14] (fun vi wr => ∃ i : Nat, vi = .int .i64 (i : Int) ∧ i ≤ 4 ∧ Below w.heap.size w wr ∧ Fr wr w.heap.size 2 (F i)) (fun vi _ => 4 - (Go.RowKit.intOf vi).toNat)
  case atStart => exact ⟨0, rfl, Nat.zero_le _, HB1.out, HF1.out⟩
  case round =>
    obtain ⟨i, rfl, hi, hb, hf⟩ := hrel
    by_cases h : i < 4
    · have hd : decide ((i : Int) < 4) = true := decide_eq_true (by omega)
      have hS := HS.out.below hb
      have s0 := hS i h
      have hgl := hS.lt
      have hkk : (i : Int) < 4 := by omega
      have HFR := hide hf
      have HBR := hide hb
      have hnl := HLT.out i h
      have c1 := fun W (hW : Below wr.heap.size wr W) => HN.out i h W ((HQ.out.below hb).below hW)
      have c2 := fun W => pSq i h W
      have hadd := fun t W => run_float_arith (P := Tryd.prog) W .add t .f64 _ _ _ (HFA.out i h)
      have HC : Hid (∀ W, Below wr.heap.size wr W → W.cell? ⟨w.heap.size, nm i, none⟩ = some (.float .f64 (F i (nm i))) ∧ W.frozen? ⟨w.heap.size, nm i, none⟩ = false ∧ w.heap.size < W.heap.size) := hide (fun W hW => ⟨(hf.below hW).cell _ hnl, (hf.below hW).frozen _, (hf.below hW).lt⟩)
      have HST : Hid (∀ W, Below wr.heap.size wr W → Fr (W.setCell ⟨w.heap.size, nm i, none⟩ (.float .f64 (F (i + 1) (nm i)))) w.heap.size 2 (F (i + 1)) ∧ Below w.heap.size w (W.setCell ⟨w.heap.size, nm i, none⟩ (.float .f64 (F (i + 1) (nm i))))) := hide (fun W hW => ⟨(hf.below hW).set (nm i) _ hnl rfl (fun j hj => HFO.out i h j hj), (hb.trans (hW.mono hb.size)).setCell (p := ⟨w.heap.size, nm i, none⟩) (Nat.le_refl _) _⟩)
      clear hS hf hb
      generalize F i (nm i) = x0 at *
      generalize F (i + 1) (nm i) = x1 at *
      generalize nm i = ni at *
      generalize reB i = rb at *
      generalize imB i = ib at *
      generalize sqB i = sq at *
      have hn1 : (ni : Int) < 2 := by omega
      go_wp2_with fail
      refine wp_region_quiet_last (C := fun W => Below wr.heap.size wr W) (by kernel_rfl) 10 rfl (by kernel_rfl) (by kernel_rfl) (bdrew (Below.refl _ _) 1) ?_
      simp only [List.take_succ_cons, List.take_zero]
      repeat
        refine wpQuiet_step (fun K hK => ?_)
        go_simp
        first
          | (refine hK _ ?_; clear hK K)
          | (apply Exists.intro
             refine ⟨fun W hW => ?_, hK _ ?_⟩
             first
               | ((with_reducible refine Calls.mono (c1 _ hW) ?_); rintro e x ⟨rfl, rfl⟩; exact ⟨rfl, hW⟩)
               | ((with_reducible refine Calls.mono (c2 _) ?_); rintro e x ⟨rfl, rfl⟩; exact ⟨rfl, hW⟩)
               | (have z1 := fun t => hadd t W; obtain ⟨a0, a1, a2⟩ := HC.out W hW; go_simp; rfl)
             clear hK K)
      refine wpQuiet_nil ?_
      intro W hW
      obtain ⟨a0, a1, a2⟩ := HC.out W hW
      have HW := hide (HST.out W hW)
      clear hW
      have hst := store_f
      go_wp2_with fail
      go_roundw
      case rel => exact ⟨i + 1, by go_num, by omega, HW.out.2, HW.out.1⟩
      case measure => simp [Go.RowKit.intOf]; omega
    · obtain rfl : i = 4 := by omega
      have HFR := hide hf
      have HBR := hide hb
      clear hf hb
      go_wp2_with fail
      go_ret
      exact ⟨w.heap.size, rfl, HFR.out, HBR.out⟩
set_option maxRecDepth 100000 in
set_option maxHeartbeats 2000000 in
theorem oWeights2 (gs gq cs cq : Nat) (ql : List Int) (nm : Nat → Nat) (F : Nat → Nat → Nat)
    (hnum : ∀ p : Nat, p < 4 → ∀ W, Qr W gq ql → Calls Tryd.prog 25 #[.int .i64 (p : Int), .slice (some ⟨gq, 0, none⟩) 2 cq] W fun e w' => e = .returned (.int .i64 (nm p : Int)) ∧ w' = W)
    (hlt : ∀ p : Nat, p < 4 → nm p < 4) (hF0 : ∀ k, F 0 k = 0) (hFa : ∀ p, p < 4 → floatBits .add .f64 (F p (nm p)) (sqB p) = some (F (p + 1) (nm p))) (hFo : ∀ p, p < 4 → ∀ k, k ≠ nm p → F (p + 1) k = F p k)
    (w : World) (hS : S4 w gs) (hQ : Qr w gq ql) : Calls Tryd.prog 17 #[.slice (some ⟨gs, 0, none⟩) 4 cs, .slice (some ⟨gq, 0, none⟩) 2 cq] w fun e w' => ∃ g, e = .returned (.slice (some ⟨g, 0, none⟩) 4 4) ∧ Fr w' g 4 (F 4) ∧ Below w.heap.size w w' := by
  obtain ⟨w1, hm1, hF1, hb1⟩ : ∃ w1, (Instr.makeSlice 35 (.int .i64 4) (.int .i64 4)).run Tryd.prog w = .ok (.slice (some ⟨w.heap.size, 0, none⟩) 4 4) w1 ∧ Fr w1 w.heap.size 4 (F 0) ∧ Below w.heap.size w w1 := by
    refine ⟨w.alloc (.cells #[.float .f64 0, .float .f64 0, .float .f64 0, .float .f64 0] 22), by kernel_rfl, ⟨_, heap_alloc_new w _, fun k hk => ?_⟩, bnew _ _⟩
    rw [hF0 k]
    rcases lt4 (show k < 4 by omega) with rfl | rfl | rfl | rfl <;> rfl
  have HF1 := hide hF1
  have HB1 := hide hb1
  have HS := hide hS
  have HQ := hide hQ
  have HN := hide hnum
  have HLT := hide hlt
  have HFA := hide hFa
  have HFO := hide hFo
  clear hF1 hb1 hS hQ hnum hlt hFa hFo hF0
  go_enter Tryd.func17, Tryd.ntmps17
  go_wp2_with fail
  go_loopw [14] (fun vi wr => ∃ i : Nat, vi = .int .i64 (i : Int) ∧ i ≤ 4 ∧ Below w.heap.size w wr ∧ Fr wr w.heap.size 4 (F i)) (fun vi _ => 4 - (Go.RowKit.intOf vi).toNat)
  case atStart => exact ⟨0, rfl, Nat.zero_le _, HB1.out, HF1.out⟩
  case round =>
    obtain ⟨i, rfl, hi, hb, hf⟩ := hrel
    by_cases h : i < 4
    · have hd : decide ((i : Int) < 4) = true := decide_eq_true (by omega)
      have hS := HS.out.below hb
      have s0 := hS i h
      have hgl := hS.lt
      have hkk : (i : Int) < 4 := by omega
      have HFR := hide hf
      have HBR := hide hb
      have hnl := HLT.out i h
      have c1 := fun W (hW : Below wr.heap.size wr W) => HN.out i h W ((HQ.out.below hb).below hW)
      have c2 := fun W => pSq i h W
      have hadd := fun t W => run_float_arith (P := Tryd.prog) W .add t .f64 _ _ _ (HFA.out i h)
      have HC : Hid (∀ W, Below wr.heap.size wr W → W.cell? ⟨w.heap.size, nm i, none⟩ = some (.float .f64 (F i (nm i))) ∧ W.frozen? ⟨w.heap.size, nm i, none⟩ = false ∧ w.heap.size < W.heap.size) := hide (fun W hW => ⟨(hf.below hW).cell _ hnl, (hf.below hW).frozen _, (hf.below hW).lt⟩)
      have HST : Hid (∀ W, Below wr.heap.size wr W → Fr (W.setCell ⟨w.heap.size, nm i, none⟩ (.float .f64 (F (i + 1) (nm i)))) w.heap.size 4 (F (i + 1)) ∧ Below w.heap.size w (W.setCell ⟨w.heap.size, nm i, none⟩ (.float .f64 (F (i + 1) (nm i))))) := hide (fun W hW => ⟨(hf.below hW).set (nm i) _ hnl rfl (fun j hj => HFO.out i h j hj), (hb.trans (hW.mono hb.size)).setCell (p := ⟨w.heap.size, nm i, none⟩) (Nat.le_refl _) _⟩)
      clear hS hf hb
      generalize F i (nm i) = x0 at *
      generalize F (i + 1) (nm i) = x1 at *
      generalize nm i = ni at *
      generalize reB i = rb at *
      generalize imB i = ib at *
      generalize sqB i = sq at *
      have hn1 : (ni : Int) < 4 := by omega
      go_wp2_with fail
      refine wp_region_quiet_last (C := fun W => Below wr.heap.size wr W) (by kernel_rfl) 10 rfl (by kernel_rfl) (by kernel_rfl) (bdrew (Below.refl _ _) 1) ?_
      simp only [List.take_succ_cons, List.take_zero]
      repeat
        refine wpQuiet_step (fun K hK => ?_)
        go_simp
        first
          | (refine hK _ ?_; clear hK K)
          | (apply Exists.intro
             refine ⟨fun W hW => ?_, hK _ ?_⟩
             first
               | ((with_reducible refine Calls.mono (c1 _ hW) ?_); rintro e x ⟨rfl, rfl⟩; exact ⟨rfl, hW⟩)
               | ((with_reducible refine Calls.mono (c2 _) ?_); rintro e x ⟨rfl, rfl⟩; exact ⟨rfl, hW⟩)
               | (have z1 := fun t => hadd t W; obtain ⟨a0, a1, a2⟩ := HC.out W hW; go_simp; rfl)
             clear hK K)
      refine wpQuiet_nil ?_
      intro W hW
      obtain ⟨a0, a1, a2⟩ := HC.out W hW
      have HW := hide (HST.out W hW)
      clear hW
      have hst := store_f
      go_wp2_with fail
      go_roundw
      case rel => exact ⟨i + 1, by go_num, by omega, HW.out.2, HW.out.1⟩
      case measure => simp [Go.RowKit.intOf]; omega
    · obtain rfl : i = 4 := by omega
      have HFR := hide hf
      have HBR := hide hb
      clear hf hb
      go_wp2_with fail
      go_ret
      exact ⟨w.heap.size, rfl, HFR.out, HBR.out⟩
end Go.Proofs.YtedmdeifjmconaaDoor.Odd
