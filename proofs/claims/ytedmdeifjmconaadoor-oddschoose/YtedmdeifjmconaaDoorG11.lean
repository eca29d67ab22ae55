/- The set-up, call by call. -/
import Derived.Test.YtedmdeifjmconaaDoorF11
namespace Go.Proofs.YtedmdeifjmconaaDoor.Odd
open Go.RowKit Go.Proofs.YtedmdeifjmconaaDoor.Sca Go.Proofs.YtedmdeifjmconaaDoor.Gt

def F1 : Nat → Nat → Nat
  | 0, _ => 0
  | 1, 0 => 4598175219545276416
  | 1, _ => 0
  | 2, 0 => 4598175219545276416
  | 2, 1 => 4598175219545276416
  | 2, _ => 0
  | 3, 0 => 4598175219545276416
  | 3, 1 => 4598175219545276416
  | 3, _ => 0
  | _, 0 => 4598175219545276416
  | _, 1 => 4604930618986332160
  | _, _ => 0
def F2 : Nat → Nat → Nat
  | 0, _ => 0
  | 1, 0 => 4598175219545276416
  | 1, _ => 0
  | 2, 0 => 4598175219545276416
  | 2, 2 => 4598175219545276416
  | 2, _ => 0
  | 3, 0 => 4598175219545276416
  | 3, 2 => 4598175219545276416
  | 3, _ => 0
  | _, 0 => 4598175219545276416
  | _, 2 => 4598175219545276416
  | _, 3 => 4602678819172646912
  | _, _ => 0
theorem qr_new (w : World) (l : List Int) : Qr (w.alloc (.cells (l.map (Value.int .i64)).toArray 3)) w.heap.size l := by
  refine ⟨by simp, fun j q hq => ?_⟩
  have h := heap_alloc_new w (.cells (l.map (Value.int .i64)).toArray 3)
  unfold World.cell?
  rw [h]
  simp [hq]
theorem weights1 (gs gq cs cq : Nat) (w : World) (hS : S4 w gs) (hQ : Qr w gq [0]) : Calls Tryd.prog 17 #[.slice (some ⟨gs, 0, none⟩) 4 cs, .slice (some ⟨gq, 0, none⟩) 1 cq] w fun e w' => ∃ g, e = .returned (.slice (some ⟨g, 0, none⟩) 2 2) ∧ Fr w' g 2 (F1 4) ∧ Below w.heap.size w w' :=
  oWeights1 gs gq cs cq [0] num1 F1 (fun p hp W hW => oNum1 p gq cq hp W hW) (fun p hp => by unfold num1; omega) (fun k => rfl)
    (fun p hp => by rcases lt4 hp with rfl | rfl | rfl | rfl <;> decide +kernel)
    (fun p hp k hk => by rcases lt4 hp with rfl | rfl | rfl | rfl <;> rcases k with _ | _ | k <;> simp_all [F1, num1]) w hS hQ
theorem weights2 (gs gq cs cq : Nat) (w : World) (hS : S4 w gs) (hQ : Qr w gq [1, 0]) : Calls Tryd.prog 17 #[.slice (some ⟨gs, 0, none⟩) 4 cs, .slice (some ⟨gq, 0, none⟩) 2 cq] w fun e w' => ∃ g, e = .returned (.slice (some ⟨g, 0, none⟩) 4 4) ∧ Fr w' g 4 (F2 4) ∧ Below w.heap.size w w' :=
  oWeights2 gs gq cs cq [1, 0] num2 F2 (fun p hp W hW => oNum2 p gq cq hp W hW) (fun p hp => by unfold num2; omega) (fun k => rfl)
    (fun p hp => by rcases lt4 hp with rfl | rfl | rfl | rfl <;> decide +kernel)
    (fun p hp k hk => by rcases lt4 hp with rfl | rfl | rfl | rfl <;> rcases k with _ | _ | _ | _ | k <;> simp_all [F2, num2]) w hS hQ
set_option maxRecDepth 100000 in
set_option maxHeartbeats 1000000 in
theorem oWeigh (gs : Nat) (w : World) (hT : Tz w) (hS : S4 w gs) : Calls Tryd.prog 10 #[.slice (some ⟨gs, 0, none⟩) 4 4, .int .i64 0] w fun e w' => e = .returned (.tuple #[.float .f64 4598175219545276416, .float .f64 4604930618986332160, .int .i64 0]) ∧ Below w.heap.size w w' := by
  have c1 := oCheck1 (some ⟨gs, 0, none⟩) 4 w.heap.size 1 (w.alloc (.cells #[.int .i64 0] 3)) (hT.below (bnew _ _)) (qr_new w [0])
  have c2 := weights1 gs (w.heap.size + 1) 4 1 ((w.alloc (.cells #[.int .i64 0] 3)).alloc (.cells #[.int .i64 0] 3)) ((hS.below (bnew _ _)).below (bnew _ _)) (by have := qr_new (w.alloc (.cells #[.int .i64 0] 3)) [0]; rwa [World.size_alloc] at this)
  have HB : Hid (Below w.heap.size w ((w.alloc (.cells #[.int .i64 0] 3)).alloc (.cells #[.int .i64 0] 3))) := hide ((bnew _ _).trans ((bnew _ _).mono (by simp)))
  go_enter Tryd.func10, Tryd.ntmps10
  go_wp2_with (first | (go_at_call 16; refine c1.mono ?_; rintro e w1 ⟨rfl, rfl⟩) | (go_at_call 17; refine c2.mono ?_; rintro e w2 ⟨g2, rfl, hF, hb2⟩; have k0 := hF.cell 0 (by decide); have k1 := hF.cell 1 (by decide); have hgl := hF.lt; have HB2 := hide (HB.out.trans (hb2.mono HB.out.size)); clear hF hb2))
  have e0 : F1 4 0 = 4598175219545276416 := rfl
  have e1 : F1 4 1 = 4604930618986332160 := rfl
  rw [e0] at k0
  rw [e1] at k1
  clear e0 e1
  go_region
  go_wp2_with fail
  go_ret3
  exact ⟨rfl, HB2.out.drew⟩
set_option maxRecDepth 100000 in
set_option maxHeartbeats 1000000 in
theorem oMarginal (gs gq : Nat) (w : World) (hT : Tz w) (hS : S4 w gs) (hQ : Qr w gq [1, 0]) : Calls Tryd.prog 12 #[.slice (some ⟨gs, 0, none⟩) 4 4, .slice (some ⟨gq, 0, none⟩) 2 2] w fun e w' => ∃ g, e = .returned (.tuple #[.slice (some ⟨g, 0, none⟩) 4 4, .int .i64 0]) ∧ Fr w' g 4 (F2 4) ∧ Below w.heap.size w w' := by
  have c1 := oCheck2 (some ⟨gs, 0, none⟩) 4 gq 2 w hT hQ
  have c2 := weights2 gs gq 4 2 w hS hQ
  go_enter Tryd.func12, Tryd.ntmps12
  go_wp2_with (first | (go_at_call 16; refine c1.mono ?_; rintro e w1 ⟨rfl, rfl⟩) | (go_at_call 17; refine c2.mono ?_; rintro e w2 ⟨g2, rfl, hF, hb2⟩; have HF := hide hF; have HB2 := hide hb2; clear hF hb2))
  go_ret2
  exact ⟨g2, rfl, HF.out, HB2.out⟩
set_option maxRecDepth 100000 in
set_option maxHeartbeats 1000000 in
theorem oTwo (w : World) : Calls Tryd.prog 11 #[] w fun e w' => e = .returned (.slice (some ⟨w.heap.size, 0, none⟩) 4 4) ∧ S4 w' w.heap.size ∧ Below w.heap.size w w' := by
  go_enter Tryd.func11, Tryd.ntmps11
  go_wp2_with fail
  go_ret
  refine ⟨rfl, fun i hi => ?_, bnew _ _⟩
  have h := heap_alloc_new w (.cells #[.complex .f64 4602678819172646912 0, .complex .f64 0 4602678819172646912, .complex .f64 0 0, .complex .f64 4602678819172646912 4602678819172646912] 42)
  unfold World.cell?
  rw [h]
  rcases lt4 hi with rfl | rfl | rfl | rfl <;> rfl
/-- Complex numbers in a row of one's own, by their places. -/
def Cr (w : World) (g : Nat) (f : Nat → Nat × Nat) : Prop := ∃ cur : Array Value, w.heap[g]? = some (.cells cur 42 (0, 0)) ∧ ∀ k, k < 4 → cur[k]? = some (.complex .f64 (f k).1 (f k).2)
theorem Cr.cell {w : World} {g : Nat} {f : Nat → Nat × Nat} (h : Cr w g f) (k : Nat) (hk : k < 4) : w.cell? ⟨g, k, none⟩ = some (.complex .f64 (f k).1 (f k).2) := by
  obtain ⟨c, hb, hc⟩ := h
  simp [World.cell?, hb, hc k hk]
theorem Cr.frozen {w : World} {g : Nat} {f : Nat → Nat × Nat} (h : Cr w g f) (k : Nat) : w.frozen? ⟨g, k, none⟩ = false := by
  obtain ⟨c, hb, _⟩ := h
  simp [World.frozen?, hb]
theorem Cr.lt {w : World} {g : Nat} {f : Nat → Nat × Nat} (h : Cr w g f) : g < w.heap.size := by
  obtain ⟨c, hb, _⟩ := h
  exact (Array.getElem?_eq_some_iff.1 hb).1
theorem Cr.below {w w' : World} {g : Nat} {f : Nat → Nat × Nat} (h : Cr w g f) (hb : Below w.heap.size w w') : Cr w' g f := by
  have := hb.block g h.lt
  obtain ⟨c, h1, h2⟩ := h
  exact ⟨c, this.trans h1, h2⟩
theorem Cr.set {w : World} {g : Nat} {f f' : Nat → Nat × Nat} (h : Cr w g f) (k x y : Nat) (hk : k < 4) (hx : f' k = (x, y)) (ho : ∀ j, j ≠ k → f' j = f j) : Cr (w.setCell ⟨g, k, none⟩ (.complex .f64 x y)) g f' := by
  obtain ⟨c, hb, hc⟩ := h
  refine ⟨c.setIfInBounds k (.complex .f64 x y), ?_, fun j hj => ?_⟩
  · simp [World.setCell, Array.getElem?_modify, hb]
  · rw [Array.getElem?_setIfInBounds]
    by_cases e : k = j
    · subst e
      have : k < c.size := (Array.getElem?_eq_some_iff.1 (hc k hk)).1
      simp [this, hx]
    · rw [if_neg e, hc j hj, ho j (fun e' => e e'.symm)]
def K1 (i k : Nat) : Nat × Nat := if 2 ≤ i ∧ k = 0 then (0, 4602678819172646912) else if 4 ≤ i ∧ k = 2 then (4602678819172646912, 4602678819172646912) else (0, 0)
set_option maxRecDepth 100000 in
set_option maxHeartbeats 2000000 in
theorem oKept (gs : Nat) (w : World) (hS : S4 w gs) : Calls Tryd.prog 19 #[.slice (some ⟨gs, 0, none⟩) 4 4, .int .i64 0, .int .i64 1, .int .i64 1] w fun e w' => ∃ g, e = .returned (.slice (some ⟨g, 0, none⟩) 4 4) ∧ Cr w' g (K1 4) ∧ Below w.heap.size w w' := by
  obtain ⟨w1, hm1, hF1, hb1⟩ : ∃ w1, (Instr.makeSlice 33 (.int .i64 4) (.int .i64 4)).run Tryd.prog w = .ok (.slice (some ⟨w.heap.size, 0, none⟩) 4 4) w1 ∧ Cr w1 w.heap.size (K1 0) ∧ Below w.heap.size w w1 := by
    refine ⟨w.alloc (.cells #[.complex .f64 0 0, .complex .f64 0 0, .complex .f64 0 0, .complex .f64 0 0] 42), by kernel_rfl, ⟨_, heap_alloc_new w _, fun k hk => ?_⟩, bnew _ _⟩
    rcases lt4 hk with rfl | rfl | rfl | rfl <;> rfl
  have HF1 := hide hF1
  have HB1 := hide hb1
  have HS := hide hS
  have hst := store_c
  clear hF1 hb1 hS
  have x1 : bits .xor .i64 1 1 = 0 := by decide +kernel
  have x3 : bits .xor .i64 3 1 = 2 := by decide +kernel
  go_enter Tryd.func19, Tryd.ntmps19
  go_wp2_with fail
  go_loopw [17] (fun vi wr => ∃ i : Nat, vi = .int .i64 (i : Int) ∧ i ≤ 4 ∧ Below w.heap.size w wr ∧ Cr wr w.heap.size (K1 i)) (fun vi _ => 4 - (Go.RowKit.intOf vi).toNat)
  case atStart => exact ⟨0, rfl, Nat.zero_le _, HB1.out, HF1.out⟩
  case round =>
    obtain ⟨i, rfl, hi, hb, hf⟩ := hrel
    by_cases h : i < 4
    · have s0 := (HS.out.below hb) i h
      have hgl := (HS.out.below hb).lt
      have c1 := fun W => oBit i 0 h (by decide) W
      have r0 := hf.cell 0 (by decide)
      have r2 := hf.cell 2 (by decide)
      have f0 := hf.frozen 0
      have f2 := hf.frozen 2
      have hrl := hf.lt
      have HFR := hide hf
      have HBR := hide hb
      clear hf hb
      rcases lt4 h with rfl | rfl | rfl | rfl
      · go_wp2_with (first | (go_at_call 24; (with_reducible refine Calls.mono (c1 _) ?_); rintro e w1 ⟨rfl, rfl⟩))
        go_roundw
        case rel => exact ⟨1, rfl, by decide, HBR.out, HFR.out⟩
        case measure => decide
      · go_wp2_with (first | (go_at_call 24; (with_reducible refine Calls.mono (c1 _) ?_); rintro e w1 ⟨rfl, rfl⟩))
        go_roundw
        case rel => exact ⟨2, rfl, by decide, HBR.out.setCell (p := ⟨w.heap.size, 0, none⟩) (Nat.le_refl _) _, HFR.out.set 0 _ _ (by decide) rfl (fun j hj => by simp [K1, hj])⟩
        case measure => decide
      · go_wp2_with (first | (go_at_call 24; (with_reducible refine Calls.mono (c1 _) ?_); rintro e w1 ⟨rfl, rfl⟩))
        go_roundw
        case rel => exact ⟨3, rfl, by decide, HBR.out, by have := HFR.out; rwa [show K1 2 = K1 3 from by funext k; simp [K1]] at this⟩
        case measure => decide
      · go_wp2_with (first | (go_at_call 24; (with_reducible refine Calls.mono (c1 _) ?_); rintro e w1 ⟨rfl, rfl⟩))
        go_roundw
        case rel => exact ⟨4, rfl, by decide, HBR.out.setCell (p := ⟨w.heap.size, 2, none⟩) (Nat.le_refl _) _, HFR.out.set 2 _ _ (by decide) rfl (fun j hj => by simp [K1, hj])⟩
        case measure => decide
    · obtain rfl : i = 4 := by omega
      have HFR := hide hf
      have HBR := hide hb
      clear hf hb
      go_wp2_with fail
      go_ret
      exact ⟨w.heap.size, rfl, HFR.out, HBR.out⟩
set_option maxRecDepth 100000 in
set_option maxHeartbeats 1000000 in
theorem oCheckValue (gs : Nat) (w : World) (hT : Tz w) : Calls Tryd.prog 18 #[.slice (some ⟨gs, 0, none⟩) 4 4, .int .i64 0, .int .i64 1] w fun e w' => e = .returned (.int .i64 0) ∧ Below w.heap.size w w' := by
  have c1 := oCheck1 (some ⟨gs, 0, none⟩) 4 w.heap.size 1 (w.alloc (.cells #[.int .i64 0] 3)) (hT.below (bnew _ _)) (qr_new w [0])
  go_enter Tryd.func18, Tryd.ntmps18
  go_wp2_with (first | (go_at_call 16; refine c1.mono ?_; rintro e w1 ⟨rfl, rfl⟩))
  go_ret
  exact ⟨rfl, bnew _ _⟩
set_option maxRecDepth 100000 in
set_option maxHeartbeats 1000000 in
theorem oSettle (gs : Nat) (w : World) (hT : Tz w) (hS : S4 w gs) : Calls Tryd.prog 13 #[.slice (some ⟨gs, 0, none⟩) 4 4, .int .i64 0, .int .i64 1] w fun e w' => ∃ g, e = .returned (.tuple #[.slice (some ⟨g, 0, none⟩) 4 4, .int .i64 0]) ∧ Cr w' g (K1 4) ∧ Below w.heap.size w w' := by
  have c1 := oCheckValue gs w hT
  have HS := hide hS
  go_enter Tryd.func13, Tryd.ntmps13
  go_wp2_with (first | (go_at_call 18; refine c1.mono ?_; rintro e w1 ⟨rfl, hb1⟩; have HB1 := hide hb1; clear hb1) | (go_at_call 19; refine (oKept gs _ (HS.out.below HB1.out)).mono ?_; rintro e w2 ⟨g2, rfl, hF, hb2⟩; have HF := hide hF; have HB2 := hide (HB1.out.trans (hb2.mono HB1.out.size)); clear hF hb2))
  go_ret2
  exact ⟨g2, rfl, HF.out, HB2.out⟩
end Go.Proofs.YtedmdeifjmconaaDoor.Odd
