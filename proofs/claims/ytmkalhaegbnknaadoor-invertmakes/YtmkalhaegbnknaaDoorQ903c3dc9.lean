import Derived.Test.YtmkalhaegbnknaaDoorQ46d9e303
set_option maxRecDepth 100000
set_option maxHeartbeats 2000000
namespace Go.Proofs.YtmkalhaegbnknaaDoor.Cir
open Go.RowKit Go.Shelf Go.Proofs.YtmkalhaegbnknaaDoor.Oct Go.Proofs.YtmkalhaegbnknaaDoor.Tok Go.Proofs.YtmkalhaegbnknaaDoor.Gt
theorem iPower_80 (c : Circ) (ao : Option Addr) (k : Nat) (p : Int) (hk : (chkC c).2 = 80) (w : World) (hT : Tb w) (hC : Ci w c ao k) : Calls Tryd.prog 12 #[cV c ao k, .int .i64 p] w fun e w' => e = .returned (.tuple #[cV nulC none 0, .int .i64 80]) /\ Below w.heap.size w w' := by
  have c1 := fun V (h : Below w.heap.size w V) => cCheck c ao k V (hT.below h) (hC.below h)
  have hlen := hC.len
  rw [hk] at c1
  obtain ⟨q, b, l⟩ := c
  unfold cV nulC at *
  simp only [List.length_nil] at *
  generalize (chkC ⟨q, b, l⟩).1 = z at *
  generalize l.length = n at *
  clear hT hC hk hlen
  have HB0 := hide (show Below w.heap.size w ((w.alloc (.cells #[.int .i64 q, .int .i64 b, .slice ao n k] 24)).alloc (.cells #[.int .i64 0, .int .i64 0, .slice none 0 0] 24)) from (bnew _ _).trans ((bnew _ _).mono (by simp)))
  go_enter Tryd.func12, Tryd.ntmps12
  go_wp2_with (first
    | (go_at_call 18; refine (c1 _ HB0.out).mono ?_; rintro e w1 ⟨rfl, hb1⟩; obtain ⟨m1, m2⟩ := may_keep hb1; obtain ⟨x0, x1, x2, x3⟩ := def_cells m1; have HB1 := hide (HB0.out.trans (hb1.mono HB0.out.size)); have HM1 := hide m1; have HM2 := hide m2; clear hb1 m1 m2)
    | refine wpList_store_row rfl _ _ _ rfl (w.heap.size + 1) _ rfl rfl _ _ HM2.out (by exact infoCi) (by rfl) (by simp [Value.oneCell']) ?_)
  refine bodyPost_ret (results_ct rfl _ _ (w.heap.size + 1) _ _ _ _ rfl (setRow_heap _ _ _ _ _ _ HM2.out) Tryd.underlying24 rfl (by exact infoCi)) rfl ?_
  exact ⟨rfl, Below.row HB1.out _ _ (by omega)⟩
theorem iPower_lo (c : Circ) (ao : Option Addr) (k : Nat) (p : Int) (hk : (chkC c).2 = 0) (hp : p < -4096) (w : World) (hT : Tb w) (hC : Ci w c ao k) : Calls Tryd.prog 12 #[cV c ao k, .int .i64 p] w fun e w' => e = .returned (.tuple #[cV nulC none 0, .int .i64 170]) /\ Below w.heap.size w w' := by
  have c1 := fun V (h : Below w.heap.size w V) => cCheck c ao k V (hT.below h) (hC.below h)
  have hlen := hC.len
  rw [hk] at c1
  obtain ⟨q, b, l⟩ := c
  unfold cV nulC at *
  simp only [List.length_nil] at *
  generalize (chkC ⟨q, b, l⟩).1 = z at *
  generalize l.length = n at *
  have d1 : decide (p < -4096) = true := decide_eq_true (by omega)
  clear hT hC hk hlen hp
  have HB0 := hide (show Below w.heap.size w ((w.alloc (.cells #[.int .i64 q, .int .i64 b, .slice ao n k] 24)).alloc (.cells #[.int .i64 0, .int .i64 0, .slice none 0 0] 24)) from (bnew _ _).trans ((bnew _ _).mono (by simp)))
  go_enter Tryd.func12, Tryd.ntmps12
  go_wp2_with (first
    | (go_at_call 18; refine (c1 _ HB0.out).mono ?_; rintro e w1 ⟨rfl, hb1⟩; obtain ⟨m1, m2⟩ := may_keep hb1; obtain ⟨x0, x1, x2, x3⟩ := def_cells m1; have HB1 := hide (HB0.out.trans (hb1.mono HB0.out.size)); have HM1 := hide m1; have HM2 := hide m2; clear hb1 m1 m2)
    | refine wpList_store_row rfl _ _ _ rfl (w.heap.size + 1) _ rfl rfl _ _ HM2.out (by exact infoCi) (by rfl) (by simp [Value.oneCell']) ?_)
  refine bodyPost_ret (results_ct rfl _ _ (w.heap.size + 1) _ _ _ _ rfl (setRow_heap _ _ _ _ _ _ HM2.out) Tryd.underlying24 rfl (by exact infoCi)) rfl ?_
  exact ⟨rfl, Below.row HB1.out _ _ (by omega)⟩
theorem iPower_hi (c : Circ) (ao : Option Addr) (k : Nat) (p : Int) (hk : (chkC c).2 = 0) (hp : 4096 < p) (w : World) (hT : Tb w) (hC : Ci w c ao k) : Calls Tryd.prog 12 #[cV c ao k, .int .i64 p] w fun e w' => e = .returned (.tuple #[cV nulC none 0, .int .i64 170]) /\ Below w.heap.size w w' := by
  have c1 := fun V (h : Below w.heap.size w V) => cCheck c ao k V (hT.below h) (hC.below h)
  have hlen := hC.len
  rw [hk] at c1
  obtain ⟨q, b, l⟩ := c
  unfold cV nulC at *
  simp only [List.length_nil] at *
  generalize (chkC ⟨q, b, l⟩).1 = z at *
  generalize l.length = n at *
  have d1 : decide (p < -4096) = false := decide_eq_false (by omega)
  have d2 : decide (p > 4096) = true := decide_eq_true (by omega)
  have d3 : decide (4096 < p) = true := decide_eq_true (by omega)
  clear hT hC hk hlen hp
  have HB0 := hide (show Below w.heap.size w ((w.alloc (.cells #[.int .i64 q, .int .i64 b, .slice ao n k] 24)).alloc (.cells #[.int .i64 0, .int .i64 0, .slice none 0 0] 24)) from (bnew _ _).trans ((bnew _ _).mono (by simp)))
  go_enter Tryd.func12, Tryd.ntmps12
  go_wp2_with (first
    | (go_at_call 18; refine (c1 _ HB0.out).mono ?_; rintro e w1 ⟨rfl, hb1⟩; obtain ⟨m1, m2⟩ := may_keep hb1; obtain ⟨x0, x1, x2, x3⟩ := def_cells m1; have HB1 := hide (HB0.out.trans (hb1.mono HB0.out.size)); have HM1 := hide m1; have HM2 := hide m2; clear hb1 m1 m2)
    | refine wpList_store_row rfl _ _ _ rfl (w.heap.size + 1) _ rfl rfl _ _ HM2.out (by exact infoCi) (by rfl) (by simp [Value.oneCell']) ?_)
  refine bodyPost_ret (results_ct rfl _ _ (w.heap.size + 1) _ _ _ _ rfl (setRow_heap _ _ _ _ _ _ HM2.out) Tryd.underlying24 rfl (by exact infoCi)) rfl ?_
  exact ⟨rfl, Below.row HB1.out _ _ (by omega)⟩
theorem iPower_big (c : Circ) (ao : Option Addr) (k : Nat) (p : Int) (a : Nat) (hk : (chkC c).2 = 0) (hp1 : -4096 <= p) (hp2 : p <= 4096) (ha : p.natAbs = a) (hb : 4096 < a * c.ops.length) (w : World) (hT : Tb w) (hC : Ci w c ao k) : Calls Tryd.prog 12 #[cV c ao k, .int .i64 p] w fun e w' => e = .returned (.tuple #[cV nulC none 0, .int .i64 170]) /\ Below w.heap.size w w' := by
  have c1 := fun V (h : Below w.heap.size w V) => cCheck c ao k V (hT.below h) (hC.below h)
  have hlen := hC.len
  rw [hk] at c1
  obtain ⟨q, b, l⟩ := c
  unfold cV nulC at *
  simp only [List.length_nil] at *
  generalize (chkC ⟨q, b, l⟩).1 = z at *
  generalize l.length = n at *
  have d1 : decide (p < -4096) = false := decide_eq_false (by omega)
  have d2 : decide (p > 4096) = false := decide_eq_false (by omega)
  have d3 : decide (4096 < p) = false := decide_eq_false (by omega)
  have g1 : wrap64 (-p) = -p := by unfold wrap64; omega
  have g2 : max p (-p) = (a : Int) := by omega
  have ga : a <= 4096 := by omega
  have gm : a * n <= 4096 * 1000000000000000 := Nat.mul_le_mul ga hlen
  have g3 : ∀ x : Nat, a * n = x -> (a : Int) * (n : Int) = (x : Int) := fun x hx => by rw [← hx]; simp
  generalize a * n = an at *
  have g4 : wrap64 ((a : Int) * (n : Int)) = (an : Int) := by
    rw [g3 an rfl]
    unfold wrap64
    omega
  clear g3
  have d4 : decide ((an : Int) > 4096) = true := decide_eq_true (by omega)
  have d5 : decide ((4096 : Int) < (an : Int)) = true := decide_eq_true (by omega)
  clear hT hC hk hlen hp1 hp2 ha hb ga gm
  have HB0 := hide (show Below w.heap.size w ((w.alloc (.cells #[.int .i64 q, .int .i64 b, .slice ao n k] 24)).alloc (.cells #[.int .i64 0, .int .i64 0, .slice none 0 0] 24)) from (bnew _ _).trans ((bnew _ _).mono (by simp)))
  go_enter Tryd.func12, Tryd.ntmps12
  go_wp2_with (first
    | (go_at_call 18; refine (c1 _ HB0.out).mono ?_; rintro e w1 ⟨rfl, hb1⟩; obtain ⟨m1, m2⟩ := may_keep hb1; obtain ⟨x0, x1, x2, x3⟩ := def_cells m1; have HB1 := hide (HB0.out.trans (hb1.mono HB0.out.size)); have HM1 := hide m1; have HM2 := hide m2; clear hb1 m1 m2)
    | refine wpList_store_row rfl _ _ _ rfl (w.heap.size + 1) _ rfl rfl _ _ HM2.out (by exact infoCi) (by rfl) (by simp [Value.oneCell']) ?_)
  refine bodyPost_ret (results_ct rfl _ _ (w.heap.size + 1) _ _ _ _ rfl (setRow_heap _ _ _ _ _ _ HM2.out) Tryd.underlying24 rfl (by exact infoCi)) rfl ?_
  exact ⟨rfl, Below.row HB1.out _ _ (by omega)⟩
theorem iPower_non (c : Circ) (ao : Option Addr) (k : Nat) (p : Int) (a : Nat) (hk : (chkC c).2 = 0) (hp1 : -4096 <= p) (hp2 : p < 0) (ha : p.natAbs = a) (hb : a * c.ops.length <= 4096) (hu : c.ops.any unO = true) (w : World) (hT : Tb w) (hC : Ci w c ao k) : Calls Tryd.prog 12 #[cV c ao k, .int .i64 p] w fun e w' => e = .returned (.tuple #[cV nulC none 0, .int .i64 170]) /\ Below w.heap.size w w' := by
  have c1 := fun V (h : Below w.heap.size w V) => cCheck c ao k V (hT.below h) (hC.below h)
  have c2 := fun V (h : Below w.heap.size w V) => iInverse_170 c ao k hk hu V (hT.below h) (hC.below h)
  have hlen := hC.len
  rw [hk] at c1
  obtain ⟨q, b, l⟩ := c
  unfold cV nulC at *
  simp only [List.length_nil] at *
  generalize (chkC ⟨q, b, l⟩).1 = z at *
  generalize l.length = n at *
  have d1 : decide (p < -4096) = false := decide_eq_false (by omega)
  have d2 : decide (p > 4096) = false := decide_eq_false (by omega)
  have d3 : decide (4096 < p) = false := decide_eq_false (by omega)
  have g1 : wrap64 (-p) = (a : Int) := by unfold wrap64; omega
  have g2 : max p (a : Int) = (a : Int) := by omega
  have d0 : decide (p < 0) = true := decide_eq_true hp2
  have ga : a <= 4096 := by omega
  have gm : a * n <= 4096 * 1000000000000000 := Nat.mul_le_mul ga hlen
  have g3 : ∀ x : Nat, a * n = x -> (a : Int) * (n : Int) = (x : Int) := fun x hx => by rw [← hx]; simp
  generalize a * n = an at *
  have g4 : wrap64 ((a : Int) * (n : Int)) = (an : Int) := by
    rw [g3 an rfl]
    unfold wrap64
    omega
  clear g3
  have d4 : decide ((an : Int) > 4096) = false := decide_eq_false (by omega)
  have d5 : decide ((4096 : Int) < (an : Int)) = false := decide_eq_false (by omega)
  clear hT hC hk hlen hp1 hp2 ha hb ga gm hu
  have HB0 := hide (show Below w.heap.size w ((w.alloc (.cells #[.int .i64 q, .int .i64 b, .slice ao n k] 24)).alloc (.cells #[.int .i64 0, .int .i64 0, .slice none 0 0] 24)) from (bnew _ _).trans ((bnew _ _).mono (by simp)))
  go_enter Tryd.func12, Tryd.ntmps12
  go_wp2_with (first
    | (go_at_call 18; refine (c1 _ HB0.out).mono ?_; rintro e w1 ⟨rfl, hb1⟩; obtain ⟨m1, m2⟩ := may_keep hb1; obtain ⟨x0, x1, x2, x3⟩ := def_cells m1; have HB1 := hide (HB0.out.trans (hb1.mono HB0.out.size)); have HM1 := hide m1; have HM2 := hide m2; clear hb1 m1 m2)
    | (go_at_call 5; refine (c2 _ HB1.out).mono ?_; rintro e w2 ⟨rfl, hb2⟩; have m2 := (hb2.block _ (Array.getElem?_eq_some_iff.1 HM2.out).1).trans HM2.out; have HB2 := hide (HB1.out.trans (hb2.mono HB1.out.size)); have HM3 := hide m2; clear hb2 m2)
    | refine wpList_store_row rfl _ _ _ rfl (w.heap.size + 1) _ rfl rfl _ _ ((Below.heap_alloc _ _ _ (Array.getElem?_eq_some_iff.1 HM3.out).1).trans HM3.out) (by exact infoCi) (by rfl) (by simp [Value.oneCell']) ?_)
  have hm := (Below.heap_alloc w2 (.cells #[.int .i64 0, .int .i64 0, .slice none 0 0] 24) _ (Array.getElem?_eq_some_iff.1 HM3.out).1).trans HM3.out
  refine bodyPost_ret (results_ct rfl _ _ (w.heap.size + 1) _ _ _ _ rfl (setRow_heap _ _ _ _ _ _ hm) Tryd.underlying24 rfl (by exact infoCi)) rfl ?_
  exact ⟨rfl, Below.row (HB2.out.trans ((bnew _ _).mono HB2.out.size)) _ _ (by omega)⟩
theorem iPower_neg (c : Circ) (ao : Option Addr) (k : Nat) (p : Int) (a : Nat) (hk : (chkC c).2 = 0) (hp1 : -4096 <= p) (hp2 : p < 0) (ha : p.natAbs = a) (hb : a * c.ops.length <= 4096) (hu : c.ops.any unO = false) (hS : Szs c.ops) (w : World) (hT : Tb w) (hC : Ci w c ao k) : Calls Tryd.prog 12 #[cV c ao k, .int .i64 p] w fun e w' => ∃ bo j, e = .returned (.tuple #[cV ⟨c.q, c.b, repL (c.ops.reverse.map ivO) a⟩ bo j, .int .i64 0]) /\ OpsOwn w' w.heap.size bo (repL (c.ops.reverse.map ivO) a).length j (repL (c.ops.reverse.map ivO) a) /\ Below w.heap.size w w' := by
  have c1 := fun V (h : Below w.heap.size w V) => cCheck c ao k V (hT.below h) (hC.below h)
  have c2 := fun V (h : Below w.heap.size w V) => iInverse_ok c ao k hS hk hu V (hT.below h) (hC.below h)
  have hSr : Szs (c.ops.reverse.map ivO) := by have := szs_iv c hS; unfold ivP at this; rwa [if_neg (by simp [hk]), if_neg (by simp [hu])] at this
  have c3 := fun V bo j B (h : OpsOwn V B bo (c.ops.reverse.map ivO).length j (c.ops.reverse.map ivO)) => iRepeated ⟨c.q, c.b, c.ops.reverse.map ivO⟩ bo j a hSr (by simpa using hb) (by omega) V (ci_szs hSr h)
  have c3 := fun V bo j {B} h => c3 V bo j B h
  clear hSr
  have hlen := hC.len
  rw [hk] at c1
  obtain ⟨q, b, l⟩ := c
  unfold cV at *
  simp only [List.length_map, List.length_reverse] at *
  generalize (chkC ⟨q, b, l⟩).1 = z at *
  generalize l.length = n at *
  generalize l.reverse.map ivO = rl at *
  generalize (repL rl a).length = rn at *
  have d1 : decide (p < -4096) = false := decide_eq_false (by omega)
  have d2 : decide (p > 4096) = false := decide_eq_false (by omega)
  have d3 : decide (4096 < p) = false := decide_eq_false (by omega)
  have g1 : wrap64 (-p) = (a : Int) := by unfold wrap64; omega
  have g2 : max p (a : Int) = (a : Int) := by omega
  have d0 : decide (p < 0) = true := decide_eq_true hp2
  have ga : a <= 4096 := by omega
  have gm : a * n <= 4096 * 1000000000000000 := Nat.mul_le_mul ga hlen
  have g3 : ∀ x : Nat, a * n = x -> (a : Int) * (n : Int) = (x : Int) := fun x hx => by rw [← hx]; simp
  generalize a * n = an at *
  have g4 : wrap64 ((a : Int) * (n : Int)) = (an : Int) := by
    rw [g3 an rfl]
    unfold wrap64
    omega
  clear g3
  have d4 : decide ((an : Int) > 4096) = false := decide_eq_false (by omega)
  have d5 : decide ((4096 : Int) < (an : Int)) = false := decide_eq_false (by omega)
  clear hT hC hk hlen hp1 hp2 ha hb ga gm hu hS
  have HB0 := hide (show Below w.heap.size w ((w.alloc (.cells #[.int .i64 q, .int .i64 b, .slice ao n k] 24)).alloc (.cells #[.int .i64 0, .int .i64 0, .slice none 0 0] 24)) from (bnew _ _).trans ((bnew _ _).mono (by simp)))
  go_enter Tryd.func12, Tryd.ntmps12
  go_wp2_with (first
    | (go_at_call 18; refine (c1 _ HB0.out).mono ?_; rintro e w1 ⟨rfl, hb1⟩; obtain ⟨m1, m2⟩ := may_keep hb1; obtain ⟨x0, x1, x2, x3⟩ := def_cells m1; have HB1 := hide (HB0.out.trans (hb1.mono HB0.out.size)); have HM1 := hide m1; have HM2 := hide m2; clear hb1 m1 m2)
    | (go_at_call 5; refine (c2 _ HB1.out).mono ?_; rintro e w2 ⟨bo, j, rfl, hO2, hb2⟩; have m2 := (hb2.block _ (Array.getElem?_eq_some_iff.1 HM2.out).1).trans HM2.out; have HB2 := hide (HB1.out.trans (hb2.mono HB1.out.size)); have HM3 := hide m2; have HO2 := hide hO2; clear hO2; clear hb2 m2)
    | (go_at_call 32; refine (c3 _ bo j (HO2.out.below (bnew _ _))).mono ?_; rintro e w3 ⟨co, cj, rfl, hO3, hb3⟩; have m2 := (hb3.block _ (Nat.lt_of_lt_of_le (Array.getElem?_eq_some_iff.1 HM3.out).1 (by simp))).trans ((Below.heap_alloc _ _ _ (Array.getElem?_eq_some_iff.1 HM3.out).1).trans HM3.out); have hb2' := HB2.out.trans ((bnew w2 (.cells #[.int .i64 q, .int .i64 b, .slice bo n j] 24)).mono HB2.out.size); have HB3 := hide (hb2'.trans (hb3.mono hb2'.size)); have HO3 := hide (hO3.base hb2'.size); have HM4 := hide m2; clear hb3 m2 hO3 hb2')
    | refine wpList_store_row rfl _ _ _ rfl (w.heap.size + 1) _ rfl rfl _ _ HM4.out (by exact infoCi) (by rfl) (by simp [Value.oneCell']) ?_)
  refine bodyPost_ret (results_ct rfl _ _ (w.heap.size + 1) _ _ _ _ rfl (setRow_heap _ _ _ _ _ _ HM4.out) Tryd.underlying24 rfl (by exact infoCi)) rfl ?_
  exact ⟨co, cj, rfl, HO3.out.row HM4.out (by decide) (by decide) _, Below.row HB3.out _ _ (by omega)⟩
theorem iPower_pos (c : Circ) (ao : Option Addr) (k : Nat) (a : Nat) (hk : (chkC c).2 = 0) (hp2 : a <= 4096) (hb : a * c.ops.length <= 4096) (hS : Szs c.ops) (w : World) (hT : Tb w) (hC : Ci w c ao k) : Calls Tryd.prog 12 #[cV c ao k, .int .i64 (a : Int)] w fun e w' => ∃ bo j, e = .returned (.tuple #[cV ⟨c.q, c.b, repL c.ops a⟩ bo j, .int .i64 0]) /\ OpsOwn w' w.heap.size bo (repL c.ops a).length j (repL c.ops a) /\ Below w.heap.size w w' := by
  have c1 := fun V (h : Below w.heap.size w V) => cCheck c ao k V (hT.below h) (hC.below h)
  have c3 := fun V (h : Below w.heap.size w V) => iRepeated c ao k a hS hb hp2 V (hC.below h)
  have hlen := hC.len
  rw [hk] at c1
  obtain ⟨q, b, l⟩ := c
  unfold cV at *
  simp only at *
  generalize (chkC ⟨q, b, l⟩).1 = z at *
  generalize l.length = n at *
  generalize (repL l a).length = rn at *
  have d1 : decide ((a : Int) < -4096) = false := decide_eq_false (by omega)
  have d2 : decide ((a : Int) > 4096) = false := decide_eq_false (by omega)
  have d3 : decide (4096 < (a : Int)) = false := decide_eq_false (by omega)
  have g1 : wrap64 (-(a : Int)) = -(a : Int) := by unfold wrap64; omega
  have g2 : max (a : Int) (-(a : Int)) = (a : Int) := by omega
  have ga := hp2
  have d0 : decide ((a : Int) < 0) = false := decide_eq_false (by omega)
  have gm : a * n <= 4096 * 1000000000000000 := Nat.mul_le_mul ga hlen
  have g3 : ∀ x : Nat, a * n = x -> (a : Int) * (n : Int) = (x : Int) := fun x hx => by rw [← hx]; simp
  generalize a * n = an at *
  have g4 : wrap64 ((a : Int) * (n : Int)) = (an : Int) := by
    rw [g3 an rfl]
    unfold wrap64
    omega
  clear g3
  have d4 : decide ((an : Int) > 4096) = false := decide_eq_false (by omega)
  have d5 : decide ((4096 : Int) < (an : Int)) = false := decide_eq_false (by omega)
  clear hT hC hk hlen hp2 hb ga gm hS
  have HB0 := hide (show Below w.heap.size w ((w.alloc (.cells #[.int .i64 q, .int .i64 b, .slice ao n k] 24)).alloc (.cells #[.int .i64 0, .int .i64 0, .slice none 0 0] 24)) from (bnew _ _).trans ((bnew _ _).mono (by simp)))
  go_enter Tryd.func12, Tryd.ntmps12
  go_wp2_with (first
    | (go_at_call 18; refine (c1 _ HB0.out).mono ?_; rintro e w1 ⟨rfl, hb1⟩; obtain ⟨m1, m2⟩ := may_keep hb1; obtain ⟨x0, x1, x2, x3⟩ := def_cells m1; have HB1 := hide (HB0.out.trans (hb1.mono HB0.out.size)); have HM1 := hide m1; have HM2 := hide m2; clear hb1 m1 m2)
    | (go_at_call 32; refine (c3 _ HB1.out).mono ?_; rintro e w3 ⟨co, cj, rfl, hO3, hb3⟩; have m2 := (hb3.block _ (Array.getElem?_eq_some_iff.1 HM2.out).1).trans HM2.out; have HB3 := hide (HB1.out.trans (hb3.mono HB1.out.size)); have HO3 := hide (hO3.base HB1.out.size); have HM4 := hide m2; clear hb3 m2 hO3)
    | refine wpList_store_row rfl _ _ _ rfl (w.heap.size + 1) _ rfl rfl _ _ HM4.out (by exact infoCi) (by rfl) (by simp [Value.oneCell']) ?_)
  refine bodyPost_ret (results_ct rfl _ _ (w.heap.size + 1) _ _ _ _ rfl (setRow_heap _ _ _ _ _ _ HM4.out) Tryd.underlying24 rfl (by exact infoCi)) rfl ?_
  exact ⟨co, cj, rfl, HO3.out.row HM4.out (by decide) (by decide) _, Below.row HB3.out _ _ (by omega)⟩
theorem iPower (c : Circ) (ao : Option Addr) (k : Nat) (p : Int) (hS : Szs c.ops) (w : World) (hT : Tb w) (hC : Ci w c ao k) : Calls Tryd.prog 12 #[cV c ao k, .int .i64 p] w fun e w' => ∃ bo j, e = .returned (.tuple #[cV (poP c p).1 bo j, .int .i64 (poP c p).2]) /\ OpsOwn w' w.heap.size bo (poP c p).1.ops.length j (poP c p).1.ops /\ Below w.heap.size w w' := by
  have no : ∀ er : Int, (Calls Tryd.prog 12 #[cV c ao k, .int .i64 p] w fun e w' => e = .returned (.tuple #[cV nulC none 0, .int .i64 er]) /\ Below w.heap.size w w') -> poP c p = (nulC, er) -> Calls Tryd.prog 12 #[cV c ao k, .int .i64 p] w fun e w' => ∃ bo j, e = .returned (.tuple #[cV (poP c p).1 bo j, .int .i64 (poP c p).2]) /\ OpsOwn w' w.heap.size bo (poP c p).1.ops.length j (poP c p).1.ops /\ Below w.heap.size w w' := fun er h1 h2 => by
    rw [h2]
    refine h1.mono ?_
    rintro e w' ⟨rfl, hb⟩
    exact ⟨none, 0, rfl, OpsOwn.nil _ _, hb⟩
  rcases chk_two c with hk | hk
  . by_cases h1 : p < -4096
    . exact no 170 (iPower_lo c ao k p hk h1 w hT hC) (by unfold poP; rw [if_neg (by simp [hk]), if_pos (.inl h1)])
    by_cases h2 : 4096 < p
    . exact no 170 (iPower_hi c ao k p hk h2 w hT hC) (by unfold poP; rw [if_neg (by simp [hk]), if_pos (.inr (.inl h2))])
    by_cases h3 : 4096 < p.natAbs * c.ops.length
    . exact no 170 (iPower_big c ao k p _ hk (by omega) (by omega) rfl h3 w hT hC) (by unfold poP; rw [if_neg (by simp [hk]), if_pos (.inr (.inr (.inl h3)))])
    by_cases h4 : p < 0
    . cases hu : c.ops.any unO with
      | true => exact no 170 (iPower_non c ao k p _ hk (by omega) h4 rfl (by omega) hu w hT hC) (by unfold poP; rw [if_neg (by simp [hk]), if_pos (.inr (.inr (.inr ⟨h4, hu⟩)))])
      | false =>
        have e : poP c p = (⟨c.q, c.b, repL (c.ops.reverse.map ivO) p.natAbs⟩, 0) := by
          unfold poP
          rw [if_neg (by simp [hk]), if_neg (by rintro (h | h | h | ⟨-, h⟩) <;> first | omega | (rw [hu] at h; cases h)), if_pos h4]
          unfold ivP
          rw [if_neg (by simp [hk]), if_neg (by simp [hu])]
        rw [e]
        exact iPower_neg c ao k p _ hk (by omega) h4 rfl (by omega) hu hS w hT hC
    . have e : poP c p = (⟨c.q, c.b, repL c.ops p.natAbs⟩, 0) := by
        unfold poP
        rw [if_neg (by simp [hk]), if_neg (by rintro (h | h | h | ⟨h, -⟩) <;> omega), if_neg h4]
      rw [e]
      obtain ⟨a, rfl⟩ : ∃ a : Nat, p = (a : Int) := ⟨p.natAbs, by omega⟩
      exact iPower_pos c ao k a hk (by omega) (by simpa using h3) hS w hT hC
  . exact no 80 (iPower_80 c ao k p hk w hT hC) (by unfold poP; rw [if_pos (by rw [hk]; decide)])
theorem szs_po (c : Circ) (p : Int) (h : Szs c.ops) : Szs (poP c p).1.ops := by
  have hr : ∀ l : List COp, Szs l -> ∀ i, i * l.length <= 4096 -> Szs (repL l i) := fun l hl i hi => by
    refine ⟨by rw [repL_len]; omega, ?_⟩
    clear hi
    induction i with
    | zero => intro o ho; simp [repL] at ho
    | succ i ih =>
      intro o ho
      rw [repL, List.mem_append] at ho
      rcases ho with ho | ho
      . exact ih o ho
      . exact hl.2 o ho
  unfold poP
  split
  . exact ⟨by simp [nulC], fun o ho => by simp [nulC] at ho⟩
  . split
    . exact ⟨by simp [nulC], fun o ho => by simp [nulC] at ho⟩
    . rename_i h1 h2
      have h3 : p.natAbs * c.ops.length <= 4096 := by
        by_cases h4 : 4096 < p.natAbs * c.ops.length
        . exact absurd (.inr (.inr (.inl h4))) h2
        . omega
      by_cases h4 : p < 0
      . rw [if_pos h4]
        refine hr _ (szs_iv c h) _ ?_
        refine Nat.le_trans (Nat.mul_le_mul_left _ ?_) h3
        unfold ivP
        split
        . simp [nulC]
        . split
          . simp [nulC]
          . simp
      . rw [if_neg h4]
        exact hr _ h _ h3
end Go.Proofs.YtmkalhaegbnknaaDoor.Cir
