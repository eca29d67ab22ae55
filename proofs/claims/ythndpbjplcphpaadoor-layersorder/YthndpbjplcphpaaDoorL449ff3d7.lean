import Derived.Test.YthndpbjplcphpaaDoorL8b097694
import Derived.Test.YthndpbjplcphpaaDoorLca1e2d4f
import Derived.Deep.DeepBigQuietO
set_option maxRecDepth 100000
set_option maxHeartbeats 8000000
namespace Go.Proofs.YthndpbjplcphpaaDoor.Lay
open Go.RowKit Go.Shelf Go.Proofs.YthndpbjplcphpaaDoor.Oct Go.Proofs.YthndpbjplcphpaaDoor.Tok Go.Proofs.YthndpbjplcphpaaDoor.Gt Go.Proofs.YthndpbjplcphpaaDoor.Cir
theorem bad_none (q b : Int) : ∀ (i : Nat) (l : List COp), (∀ o ∈ l, mayP q b o = true) -> badI q b i l = none
  | _, [], _ => rfl
  | i, a :: r, h => by
    rw [badI, if_pos (h a (List.mem_cons_self ..))]
    exact bad_none q b (i + 1) r fun o ho => h o (List.mem_cons_of_mem _ ho)
theorem ok_perm {c : Circ} (h : okC c = true) {p : List Nat} (hp : Ord c.ops.length p) : okC ⟨c.q, c.b, p.map (oa c.ops)⟩ = true := by
  have h0 : (chkC c).2 = 0 := by unfold okC at h; simpa using h
  have hk := (chkC_ok h0).2.2.2.2
  have hm : ∀ o ∈ p.map (oa c.ops), mayP c.q c.b o = true := fun o ho => by
    obtain ⟨i, hi, rfl⟩ := List.mem_map.1 ho
    exact hk.2 _ (List.mem_of_getElem? (oa_some (hp.lt i hi)))
  have hc : ¬ (!cntP c.q c.b || decide (4096 < c.ops.length)) = true := fun hc => by
    unfold chkC at h0
    rw [if_pos hc] at h0
    cases h0
  unfold okC chkC
  simp only [List.length_map, hp.len]
  rw [if_neg hc, bad_none _ _ _ _ hm]
  rfl
theorem wTouch (c : Circ) (ao : Option Addr) (k : Nat) (i j : Nat) (hi : i < c.ops.length) (hj : j < c.ops.length) (hW : ∀ o ∈ c.ops, Wk o /\ 0 < o.qs.length) (w : World) (hC : Ci w c ao k) : Calls Tryd.prog 28 #[cV c ao k, .int .i64 (i : Int), .int .i64 (j : Int)] w fun e w' => e = .returned (.bool (tc (oa c.ops i) (oa c.ops j))) /\ Below w.heap.size w w' := by
  have c1 := fun V (h : Below w.heap.size w V) => dTouch c ao k i j hi hj hW V (hC.below h)
  generalize tc (oa c.ops i) (oa c.ops j) = r at *
  obtain ⟨q, b, ops⟩ := c
  unfold cV at *
  simp only at *
  generalize ops.length = n at *
  have hb := bnew w (.cells #[.int .i64 q, .int .i64 b, .slice ao n k] 24)
  have hm := heap_alloc_new w (.cells #[.int .i64 q, .int .i64 b, .slice ao n k] 24)
  obtain ⟨x0, x1, x2, x3⟩ := def_cells hm
  have c2 := c1 _ hb
  clear hC hW c1
  go_enter Tryd.func28, Tryd.ntmps28
  go_wp2_with (go_at_call 31; refine c2.mono ?_; rintro e w2 ⟨rfl, hb2⟩)
  go_ret
  exact ⟨rfl, hb.trans (hb2.mono hb.size)⟩
structure OS (w V : World) (c : Circ) (q b : Int) (n : Nat) (ao : Option Addr) (k gC : Nat) (a1 a2 : Option Addr) (f fl : Nat -> Int) : Prop where
  bel : Below w.heap.size w V
  hc : V.heap[gC]? = some (.cells #[.int .i64 q, .int .i64 b, .slice ao n k] 24 (0, 0))
  ci : Ci V c ao k
  n1 : Ns V a1 ((List.range n).map f)
  n2 : Ns V a2 ((List.range n).map fl)
theorem OS.keep {w V V' : World} {c : Circ} {q b : Int} {n : Nat} {ao : Option Addr} {k gC : Nat} {a1 a2 : Option Addr} {f fl : Nat -> Int} (h : OS w V c q b n ao k gC a1 a2 f fl) (hb : Below V.heap.size V V') : OS w V' c q b n ao k gC a1 a2 f fl :=
  ⟨h.bel.trans (hb.mono h.bel.size), kp hb h.hc, h.ci.below hb, h.n1.below hb, h.n2.below hb⟩
theorem ns_rng {V : World} {a : Option Addr} {n : Nat} {f : Nat -> Int} (h : Ns V a ((List.range n).map f)) {i : Nat} (hi : i < n) : ∃ g off, a = some ⟨g, off, none⟩ /\ g < V.heap.size /\ ∀ j, j < n -> V.cell? ⟨g, off + j, none⟩ = some (.int .i64 (f j)) := by
  rcases h with h | ⟨g, off, e, h⟩
  . have := congrArg List.length h
    simp at this
    omega
  . have key : ∀ j, j < n -> V.cell? ⟨g, off + j, none⟩ = some (.int .i64 (f j)) := fun j hj => h j _ (rng_at f n j hj)
    exact ⟨g, off, e, World.block_lt_of_cell? _ _ (key i hi), key⟩
theorem xOrderNo (c : Circ) (ao : Option Addr) (k : Nat) (hok : okC c = false) (w : World) (hT : Tb w) (hC : Ci w c ao k) : Calls Tryd.prog 5 #[cV c ao k] w fun e w' => e = .returned (.bool true) /\ Below w.heap.size w w' := by
  obtain ⟨f, hf⟩ := ev_exists c.ops
  obtain ⟨fl, hfl⟩ := lv_exists c.ops (gr f c.ops.length)
  obtain ⟨q, b, n, hcv⟩ : ∃ q b n, ∀ ao k, cV c ao k = .agg #[.int .i64 q, .int .i64 b, .slice ao n k] := ⟨c.q, c.b, c.ops.length, fun _ _ => rfl⟩
  have er : erC c = 80 := by unfold erC; rw [hok]; rfl
  have P1 : Hid (∀ V, Below w.heap.size w V -> Calls Tryd.prog 7 #[.agg #[.int .i64 q, .int .i64 b, .slice ao n k]] V fun e V' => ∃ a cc, e = .returned (.tuple #[.slice a 0 cc, .int .i64 80]) /\ Below V.heap.size V V') := hide (fun V h => by
    rw [← hcv]
    refine (pEarly c f hf ao k V (hT.below h) (hC.below h)).mono ?_
    rintro e V' ⟨a, cc, rfl, -, -, hb⟩
    exact ⟨a, cc, by rw [er]; unfold rwC; rw [hok]; rfl, hb⟩)
  have P2 : Hid (∀ V, Below w.heap.size w V -> Calls Tryd.prog 10 #[.agg #[.int .i64 q, .int .i64 b, .slice ao n k]] V fun e V' => ∃ a cc, e = .returned (.tuple #[.slice a 0 cc, .int .i64 80]) /\ Below V.heap.size V V') := hide (fun V h => by
    rw [← hcv]
    refine (pLate c f fl hf hfl ao k V (hT.below h) (hC.below h)).mono ?_
    rintro e V' ⟨a, cc, rfl, -, -, hb⟩
    exact ⟨a, cc, by rw [er]; unfold rwC; rw [hok]; rfl, hb⟩)
  have P3 : Hid (∀ V, Below w.heap.size w V -> Calls Tryd.prog 16 #[.agg #[.int .i64 q, .int .i64 b, .slice ao n k]] V fun e V' => e = .returned (.tuple #[.int .i64 0, .int .i64 80]) /\ Below V.heap.size V V') := hide (fun V h => by
    rw [← hcv]
    refine (pDepth c f hf ao k V (hT.below h) (hC.below h)).mono ?_
    rintro e V' ⟨rfl, hb⟩
    exact ⟨by rw [er, hok]; rfl, hb⟩)
  have P4 : Hid (∀ V, Below w.heap.size w V -> Calls Tryd.prog 27 #[.agg #[.int .i64 q, .int .i64 b, .slice ao n k]] V fun e V' => e = .returned (.bool false) /\ Below V.heap.size V V') := hide (fun V h => by
    rw [← hcv]
    refine (eMay c ao k V (hC.below h)).mono ?_
    rintro e V' ⟨rfl, hb⟩
    exact ⟨by rw [show ((chkC c).2 == 0) = false from hok], hb⟩)
  have HD : Hid (∀ V, Below w.heap.size w V -> Calls Tryd.prog 20 #[] V fun e V' => e = .returned (.bool true) /\ Below V.heap.size V V') := hide (fun V h => wHeads V (hT.below h))
  rw [hcv]
  clear hcv hf hfl hT hC er hok
  have r0 := heap_alloc_new w (.cells #[.int .i64 q, .int .i64 b, .slice ao n k] 24)
  have B0 := bnew w (.cells #[.int .i64 q, .int .i64 b, .slice ao n k] 24)
  obtain ⟨x0, x1, x2, x3⟩ := def_cells r0
  go_enter Tryd.func5, Tryd.ntmps5
  go_wp2_with (first
    | (go_at_call 7; refine (P1.out _ B0).mono ?_; rintro e V1 ⟨a1, ca1, rfl, hb1⟩; have r1 := kp hb1 r0; have B1 := B0.trans (hb1.mono B0.size); clear x0 x1 x2 x3; obtain ⟨x0, x1, x2, x3⟩ := def_cells r1)
    | (go_at_call 10; refine (P2.out _ B1).mono ?_; rintro e V2 ⟨a2, ca2, rfl, hb2⟩; have r2 := kp hb2 r1; have B2 := B1.trans (hb2.mono B1.size); clear x0 x1 x2 x3; obtain ⟨x0, x1, x2, x3⟩ := def_cells r2)
    | (go_at_call 16; refine (P3.out _ B2).mono ?_; rintro e V3 ⟨rfl, hb3⟩; have r3 := kp hb3 r2; have B3 := B2.trans (hb3.mono B2.size); clear x0 x1 x2 x3; obtain ⟨x0, x1, x2, x3⟩ := def_cells r3)
    | (go_at_call 27; refine (P4.out _ B3).mono ?_; rintro e V4 ⟨rfl, hb4⟩; have B4 := B3.trans (hb4.mono B3.size); clear x0 x1 x2 x3)
    | (go_at_call 20; refine (HD.out _ B4).mono ?_; rintro e V5 ⟨rfl, hb5⟩; have B5 := B4.trans (hb5.mono B4.size)))
  go_ret
  exact ⟨rfl, B5⟩
structure FF (ops : List COp) (f fl : Nat -> Int) (D : Int) : Prop where
  el : ∀ i, i < ops.length -> f i <= fl i
  ld : ∀ i, i < ops.length -> fl i <= D
  one : ∀ i, i < ops.length -> (oa ops i).kind ≠ 4 -> 1 <= f i
  tf : ∀ i j, j < i -> i < ops.length -> (oa ops i).kind ≠ 4 -> tc (oa ops i) (oa ops j) = true -> f j < f i
  tl : ∀ i j, j < i -> i < ops.length -> (oa ops i).kind ≠ 4 -> tc (oa ops i) (oa ops j) = true -> fl j < fl i
theorem ln_one {o : COp} (h : o.kind ≠ 4) : ln o = 1 := by unfold ln; rw [if_neg h]
theorem ff_of {ops : List COp} {f fl : Nat -> Int} (h : EV ops f) (hL : LV ops (gr f ops.length) fl) : FF ops f fl (gr f ops.length) :=
  ⟨ev_lv h hL, fun i hi => by
    rw [hL i _ (oa_some hi)]
    exact ((le_mn _).1 (Int.le_refl _)).1, fun i hi hk => by
    have := ev_ln h hi
    rw [ln_one hk] at this
    exact this, fun i j hj hi hk ht => by
    have := ev_step h hj hi ht
    rw [ln_one hk] at this
    omega, fun i j hj hi hk ht => by
    have := lv_step hL hj hi ht
    rw [ln_one hk] at this
    omega⟩
theorem region_quietC {P : Program} {id : Nat} {Q : Exit -> Act -> World -> Prop} {a : Act} {w : World} {l : List Oper} (C : World -> Prop) (hm : P.follows .mixedOrders = true) (hB : Region.lexB .any l.toArray = true) (h0 : C w.drew)
    (h : wpQuiet P l.toArray C (fun a' => ∀ w', C w' -> Q .normal a' w') l a) : (Code.region id l.toArray true).wp P Q a w :=
  wp_region_quiet (C := C) hm hB h0 (by simpa using h)
structure OSp (w : World) (c : Circ) (q b : Int) (n : Nat) (ao : Option Addr) (k gC : Nat) (a1 a2 : Option Addr) (f fl : Nat -> Int) where
  V : World
  h : OS w V c q b n ao k gC a1 a2 f fl
theorem xOrderOk (c : Circ) (ao : Option Addr) (k : Nat) (hok : okC c = true) (w : World) (hT : Tb w) (hC : Ci w c ao k) : Calls Tryd.prog 5 #[cV c ao k] w fun e w' => e = .returned (.bool true) /\ Below w.heap.size w w' := by
  obtain ⟨f, hf⟩ := ev_exists c.ops
  obtain ⟨fl, hfl⟩ := lv_exists c.ops (gr f c.ops.length)
  obtain ⟨q, b, n, hcv, hq, hb, hn⟩ : ∃ q b n, (∀ ao k, cV c ao k = .agg #[.int .i64 q, .int .i64 b, .slice ao n k]) /\ c.q = q /\ c.b = b /\ c.ops.length = n := ⟨c.q, c.b, c.ops.length, fun _ _ => rfl, rfl, rfl, rfl⟩
  have er : erC c = 0 := by unfold erC; rw [hok]; rfl
  have hrw : ∀ g, rwC c g = (List.range n).map g := fun g => by unfold rwC; rw [hok, hn]; rfl
  have h96 : n <= 4096 := by rw [← hn]; exact (ok_wk hok).2
  have hwk := (ok_wk hok).1
  obtain ⟨D, hD⟩ : ∃ D, gr f c.ops.length = D := ⟨_, rfl⟩
  have FA := ff_of hf hfl
  rw [hD] at FA
  have P1 : Hid (∀ V, Below w.heap.size w V -> Calls Tryd.prog 7 #[.agg #[.int .i64 q, .int .i64 b, .slice ao n k]] V fun e V' => ∃ a cc, e = .returned (.tuple #[.slice a n cc, .int .i64 0]) /\ Ns V' a ((List.range n).map f) /\ Below V.heap.size V V') := hide (fun V h => by
    rw [← hcv]
    refine (pEarly c f hf ao k V (hT.below h) (hC.below h)).mono ?_
    rintro e V' ⟨a, cc, rfl, hn1, -, hb⟩
    rw [hrw] at hn1
    exact ⟨a, cc, by rw [er, hrw, List.length_map, List.length_range], hn1.ns, hb⟩)
  have P2 : Hid (∀ V, Below w.heap.size w V -> Calls Tryd.prog 10 #[.agg #[.int .i64 q, .int .i64 b, .slice ao n k]] V fun e V' => ∃ a cc, e = .returned (.tuple #[.slice a n cc, .int .i64 0]) /\ Ns V' a ((List.range n).map fl) /\ Below V.heap.size V V') := hide (fun V h => by
    rw [← hcv]
    refine (pLate c f fl hf hfl ao k V (hT.below h) (hC.below h)).mono ?_
    rintro e V' ⟨a, cc, rfl, hn1, -, hb⟩
    rw [hrw] at hn1
    exact ⟨a, cc, by rw [er, hrw, List.length_map, List.length_range], hn1.ns, hb⟩)
  have P3 : Hid (∀ V, Below w.heap.size w V -> Calls Tryd.prog 16 #[.agg #[.int .i64 q, .int .i64 b, .slice ao n k]] V fun e V' => e = .returned (.tuple #[.int .i64 D, .int .i64 0]) /\ Below V.heap.size V V') := hide (fun V h => by
    rw [← hcv]
    refine (pDepth c f hf ao k V (hT.below h) (hC.below h)).mono ?_
    rintro e V' ⟨rfl, hb⟩
    exact ⟨by rw [er, hok, hD]; rfl, hb⟩)
  have PS : Hid (∀ V, Below w.heap.size w V -> Calls Tryd.prog 23 #[.agg #[.int .i64 q, .int .i64 b, .slice ao n k]] V fun e V' => ∃ bo j p, e = .returned (.tuple #[.agg #[.int .i64 q, .int .i64 b, .slice bo n j], .int .i64 0]) /\ Ord n p /\ SB c.ops f p /\ OpsOwn V' V.heap.size bo n j (p.map (oa c.ops)) /\ Below V.heap.size V V') := hide (fun V h => by
    rw [← hcv]
    have := pSortedA c f hf hok n hn ao k V (hT.below h) (hC.below h)
    rw [hq, hb] at this
    exact this)
  have PD : Hid (∀ V bo j p, Below w.heap.size w V -> Ord n p -> SB c.ops f p -> Ci V ⟨q, b, p.map (oa c.ops)⟩ bo j -> Calls Tryd.prog 16 #[.agg #[.int .i64 q, .int .i64 b, .slice bo n j]] V fun e V' => e = .returned (.tuple #[.int .i64 D, .int .i64 0]) /\ Below V.heap.size V V') := hide (fun V bo j p h hp hs hci => by
    have hp' : Ord c.ops.length p := by rw [hn]; exact hp
    have hok' : okC ⟨q, b, p.map (oa c.ops)⟩ = true := by rw [← hq, ← hb]; exact ok_perm hok hp'
    have hE' := ev_perm hf hp' (keeps_sorted hf hp' hs)
    have e1 : cV ⟨q, b, p.map (oa c.ops)⟩ bo j = .agg #[.int .i64 q, .int .i64 b, .slice bo n j] := by unfold cV; simp only [List.length_map, hp.len]
    rw [← e1]
    refine (pDepth ⟨q, b, p.map (oa c.ops)⟩ _ hE' bo j V (hT.below h) hci).mono ?_
    rintro e V' ⟨rfl, hb⟩
    refine ⟨?_, hb⟩
    unfold erC
    rw [hok']
    simp only [List.length_map, hp'.len, gr_perm hp', hD]
    rfl)
  have PT : Hid (∀ V (i j : Nat), i < n -> j < n -> Below w.heap.size w V -> Calls Tryd.prog 28 #[.agg #[.int .i64 q, .int .i64 b, .slice ao n k], .int .i64 (i : Int), .int .i64 (j : Int)] V fun e V' => e = .returned (.bool (tc (oa c.ops i) (oa c.ops j))) /\ Below V.heap.size V V') := hide (fun V i j hi hj h => by
    rw [← hcv]
    exact wTouch c ao k i j (by omega) (by omega) hwk V (hC.below h))
  have HD : Hid (∀ V, Below w.heap.size w V -> Calls Tryd.prog 20 #[] V fun e V' => e = .returned (.bool true) /\ Below V.heap.size V V') := hide (fun V h => wHeads V (hT.below h))
  have HQ : Hid (∀ o ∈ c.ops, o.qs.length <= 1000000000000000) := hide hC.qs
  have HC0 := hide hC
  rw [hcv]
  rw [hn] at hD
  obtain ⟨ops, hops⟩ : ∃ ops, c.ops = ops := ⟨_, rfl⟩
  rw [hops] at FA PS PD PT HQ hn
  have HF := hide FA
  have HNN := hide hn
  have HOP := hide hops
  clear hcv hf hfl hT hC er hok hrw hwk FA hn hops hD hq hb
  have mixed : Tryd.prog.follows Departure.mixedOrders = true := by kernel_rfl
  have r0 := heap_alloc_new w (.cells #[.int .i64 q, .int .i64 b, .slice ao n k] 24)
  have B0 := bnew w (.cells #[.int .i64 q, .int .i64 b, .slice ao n k] 24)
  obtain ⟨x0, x1, x2, x3⟩ := def_cells r0
  go_enter Tryd.func5, Tryd.ntmps5
  go_wp2_with (first
    | (go_at_call 7; refine (P1.out _ B0).mono ?_; rintro e V1 ⟨a1, ca1, rfl, hn1, hb1⟩; have r1 := kp hb1 r0; have B1 := B0.trans (hb1.mono B0.size); clear x0 x1 x2 x3; obtain ⟨x0, x1, x2, x3⟩ := def_cells r1)
    | (go_at_call 10; refine (P2.out _ B1).mono ?_; rintro e V2 ⟨a2, ca2, rfl, hn2, hb2⟩; have r2 := kp hb2 r1; have B2 := B1.trans (hb2.mono B1.size); clear x0 x1 x2 x3; obtain ⟨x0, x1, x2, x3⟩ := def_cells r2)
    | (go_at_call 16; refine (P3.out _ B2).mono ?_; rintro e V3 ⟨rfl, hb3⟩; have r3 := kp hb3 r2; have B3 := B2.trans (hb3.mono B2.size); clear x0 x1 x2 x3; obtain ⟨x0, x1, x2, x3⟩ := def_cells r3))
  have T0 : Hid (OS w V3 c q b n ao k w.heap.size a1 a2 f fl) := hide ⟨B3, r3, HC0.out.below B3, ((hn1.below hb2).below hb3), hn2.below hb3⟩
  clear x0 x1 x2 x3 r0 r1 r2 r3 B0 B1 B2 B3 hn1 hn2 hb1 hb2 hb3 P1 P2 P3 HC0
  go_loopg [9, 10] (n) (fun kx s9 _ wr => ∃ i : Nat, s9 = .int .i64 (i : Int) /\ i <= n /\ n - i <= kx /\ Hid (OS w wr c q b n ao k w.heap.size a1 a2 f fl))
  case atStart => exact ⟨0, rfl, Nat.zero_le _, Nat.le_refl _, T0⟩
  case round =>
    clear T0
    obtain ⟨i, rfl, hin, hkx, T1⟩ := hrel
    by_cases hlt : i < n
    . have d1 : decide ((i : Int) < (n : Int)) = true := decide_eq_true (by omega)
      obtain ⟨g1, o1, rfl, hg1, hc1⟩ := ns_rng T1.out.n1 hlt
      obtain ⟨g2, o2, rfl, hg2, hc2⟩ := ns_rng T1.out.n2 hlt
      obtain ⟨g, off, aq, cq, rfl, hg, hoc⟩ := T1.out.ci.ops.at (i := i) (o := oa ops i) (by rw [HOP.out]; exact oa_some (by rw [HNN.out]; exact hlt))
      obtain ⟨x0, x1, x2, x3⟩ := def_cells T1.out.hc
      have k1 := hc1 i hlt
      have k2 := hc2 i hlt
      have k3 := hoc.kind
      have bi : (i : Int) < (n : Int) := by omega
      obtain ⟨va, hva⟩ : ∃ x, f i = x := ⟨_, rfl⟩
      obtain ⟨vb, hvb⟩ : ∃ x, fl i = x := ⟨_, rfl⟩
      obtain ⟨kd, hkd⟩ : ∃ x, (oa ops i).kind = x := ⟨_, rfl⟩
      have f1 : va <= vb := by rw [← hva, ← hvb]; exact HF.out.el i (by rw [HNN.out]; exact hlt)
      have f2 : vb <= D := by rw [← hvb]; exact HF.out.ld i (by rw [HNN.out]; exact hlt)
      have f3 : kd ≠ 4 -> 1 <= va := by rw [← hva, ← hkd]; exact HF.out.one i (by rw [HNN.out]; exact hlt)
      have d2 : decide (vb < va) = false := decide_eq_false (by omega)
      have d3 : decide (D < vb) = false := decide_eq_false (by omega)
      rw [hva] at k1
      rw [hvb] at k2
      rw [hkd] at k3
      clear hc1 hc2 hoc hva hvb
      go_upto_region 11 with fail
      go_cut [98] from 60 to 147 (fun s98 wc => s98 = .bool false /\ Hid (OS w wc c q b n (some ⟨g, off, none⟩) k w.heap.size (some ⟨g1, o1, none⟩) (some ⟨g2, o2, none⟩) f fl))
      case first =>
        by_cases h4 : kd = 4
        . subst h4
          go_big_quiet_o (fail)
          go_wp2
          go_meet
          case rel => exact ⟨rfl, hide (T1.out.keep (below_drewN (Below.refl _ _) nq))⟩
        . have e4 : (kd != 4) = true := by simp [h4]
          have d4 : decide (va < 1) = false := decide_eq_false (by have := f3 h4; omega)
          go_big_quiet_o (fail)
          go_wp2
          go_meet
          case rel => exact ⟨rfl, hide (T1.out.keep (below_drewN (Below.refl _ _) nq))⟩
      case rest =>
        obtain ⟨rfl, T2⟩ := hcut
        clear T1 x0 x1 x2 x3 k1 k2 k3 d2 d3 f1 f2 f3 hg1 hg2 hg
        go_wp2_with fail
        go_loopg [10] (i) (fun ky s10 wy => ∃ j : Nat, s10 = .int .i64 (j : Int) /\ j <= i /\ i - j <= ky /\ Hid (OS w wy c q b n (some ⟨g, off, none⟩) k w.heap.size (some ⟨g1, o1, none⟩) (some ⟨g2, o2, none⟩) f fl))
        case atStart => exact ⟨0, rfl, Nat.zero_le _, Nat.le_refl _, T2⟩
        case round =>
          clear T2
          obtain ⟨j, rfl, hji, hky, T1⟩ := hrel
          by_cases hlt2 : j < i
          . have d5 : decide ((j : Int) < (i : Int)) = true := decide_eq_true (by omega)
            obtain ⟨g1', o1', e1', hg1, hc1⟩ := ns_rng T1.out.n1 hlt
            simp only [Option.some.injEq, Addr.mk.injEq, and_true] at e1'
            obtain ⟨rfl, rfl⟩ := e1'
            obtain ⟨g2', o2', e2', hg2, hc2⟩ := ns_rng T1.out.n2 hlt
            simp only [Option.some.injEq, Addr.mk.injEq, and_true] at e2'
            obtain ⟨rfl, rfl⟩ := e2'
            obtain ⟨g', off', aq', cq', e3', hg, hoc⟩ := T1.out.ci.ops.at (i := i) (o := oa ops i) (by rw [HOP.out]; exact oa_some (by rw [HNN.out]; exact hlt))
            simp only [Option.some.injEq, Addr.mk.injEq, and_true] at e3'
            obtain ⟨rfl, rfl⟩ := e3'
            obtain ⟨g', off', aq2, cq2, e3', -, hoc2⟩ := T1.out.ci.ops.at (i := j) (o := oa ops j) (by rw [HOP.out]; exact oa_some (by rw [HNN.out]; omega))
            simp only [Option.some.injEq, Addr.mk.injEq, and_true] at e3'
            obtain ⟨rfl, rfl⟩ := e3'
            obtain ⟨x0, x1, x2, x3⟩ := def_cells T1.out.hc
            have k3 := hoc.kind
            have k4 := hoc2.kind
            have bj : (j : Int) < (n : Int) := by omega
            obtain ⟨kj, hkj⟩ : ∃ x, (oa ops j).kind = x := ⟨_, rfl⟩
            rw [hkd] at k3
            rw [hkj] at k4
            clear hoc hoc2 hc1 hc2
            go_upto_region 16 with fail
            go_cut [147] from 99 to 147 (fun s147 wc => s147 = .bool false /\ Hid (OS w wc c q b n (some ⟨g, off, none⟩) k w.heap.size (some ⟨g1, o1, none⟩) (some ⟨g2, o2, none⟩) f fl))
            case first =>
              by_cases h4 : kd = 4
              . subst h4
                go_big_quiet_o (fail)
                go_wp2
                go_meet
                case rel => exact ⟨rfl, hide (T1.out.keep (below_drewN (Below.refl _ _) nq))⟩
              . have e4 : (kd != 4) = true := by simp [h4]
                by_cases h5 : kj = 4
                . subst h5
                  go_big_quiet_o (fail)
                  go_wp2
                  go_meet
                  case rel => exact ⟨rfl, hide (T1.out.keep (below_drewN (Below.refl _ _) nq))⟩
                . have e5 : (kj != 4) = true := by simp [h5]
                  obtain ⟨tv, htv⟩ : ∃ t, tc (oa ops i) (oa ops j) = t := ⟨_, rfl⟩
                  have ct : Hid (∀ V, Below w.heap.size w V -> Calls Tryd.prog 28 #[.agg #[.int .i64 q, .int .i64 b, .slice (some ⟨g, off, none⟩) n k], .int .i64 (i : Int), .int .i64 (j : Int)] V fun e V' => e = .returned (.bool tv) /\ Below V.heap.size V V') := hide (fun V h => by
                    have := PT.out V i j hlt (by omega) h
                    rw [htv] at this
                    exact this)
                  have T1d := hide (T1.out.keep (Below.refl _ _).drew)
                  obtain ⟨va, hva⟩ : ∃ x, f i = x := ⟨_, rfl⟩
                  obtain ⟨vb, hvb⟩ : ∃ x, fl i = x := ⟨_, rfl⟩
                  obtain ⟨ua, hua⟩ : ∃ x, f j = x := ⟨_, rfl⟩
                  obtain ⟨ub, hub⟩ : ∃ x, fl j = x := ⟨_, rfl⟩
                  have f1 : tv = true -> ua < va /\ ub < vb := fun h => by
                    rw [← hva, ← hvb, ← hua, ← hub]
                    exact ⟨HF.out.tf i j hlt2 (by rw [HNN.out]; exact hlt) (by rw [hkd]; exact h4) (htv.trans h), HF.out.tl i j hlt2 (by rw [HNN.out]; exact hlt) (by rw [hkd]; exact h4) (htv.trans h)⟩
                  have CE : Hid (∀ V, OS w V c q b n (some ⟨g, off, none⟩) k w.heap.size (some ⟨g1, o1, none⟩) (some ⟨g2, o2, none⟩) f fl -> V.cell? ⟨g1, o1 + i, none⟩ = some (.int .i64 va) /\ V.cell? ⟨g1, o1 + j, none⟩ = some (.int .i64 ua) /\ V.cell? ⟨g2, o2 + i, none⟩ = some (.int .i64 vb) /\ V.cell? ⟨g2, o2 + j, none⟩ = some (.int .i64 ub) /\ g1 < V.heap.size /\ g2 < V.heap.size) := hide (fun V hO => by
                    obtain ⟨h1, p1, e1, l1, m1⟩ := ns_rng hO.n1 hlt
                    simp only [Option.some.injEq, Addr.mk.injEq, and_true] at e1
                    obtain ⟨rfl, rfl⟩ := e1
                    obtain ⟨h2, p2, e2, l2, m2⟩ := ns_rng hO.n2 hlt
                    simp only [Option.some.injEq, Addr.mk.injEq, and_true] at e2
                    obtain ⟨rfl, rfl⟩ := e2
                    refine ⟨(m1 i hlt).trans (by rw [hva]), (m1 j (by omega)).trans (by rw [hua]), (m2 i hlt).trans (by rw [hvb]), (m2 j (by omega)).trans (by rw [hub]), l1, l2⟩)
                  clear hva hvb hua hub htv
                  have CK : ∀ pp : OSp w c q b n (some ⟨g, off, none⟩) k w.heap.size (some ⟨g1, o1, none⟩) (some ⟨g2, o2, none⟩) f fl, (pp.V.cell? ⟨g, off + i * 6, none⟩ = some (.int .i64 kd) /\ pp.V.cell? ⟨g, off + j * 6, none⟩ = some (.int .i64 kj) /\ g < pp.V.heap.size) := fun ⟨V, hO⟩ => by
                    obtain ⟨h1, p1, aq1, cq1, e1, l1, m1⟩ := hO.ci.ops.at (i := i) (o := oa ops i) (by rw [HOP.out]; exact oa_some (by rw [HNN.out]; exact hlt))
                    simp only [Option.some.injEq, Addr.mk.injEq, and_true] at e1
                    obtain ⟨rfl, rfl⟩ := e1
                    obtain ⟨h2, p2, aq3, cq3, e2, l2, m2⟩ := hO.ci.ops.at (i := j) (o := oa ops j) (by rw [HOP.out]; exact oa_some (by rw [HNN.out]; omega))
                    simp only [Option.some.injEq, Addr.mk.injEq, and_true] at e2
                    obtain ⟨rfl, rfl⟩ := e2
                    exact ⟨m1.kind.trans (by rw [hkd]), m2.kind.trans (by rw [hkj]), l1⟩
                  clear hkd hkj x0 x1 x2 x3 k3 k4 hg1 hg2 hg T1
                  have z1 := fun pp => (CK pp).1
                  have z2 := fun pp => (CK pp).2.1
                  have z3 := fun pp => (CK pp).2.2
                  have y1 := fun pp : OSp w c q b n (some ⟨g, off, none⟩) k w.heap.size (some ⟨g1, o1, none⟩) (some ⟨g2, o2, none⟩) f fl => (CE.out pp.V pp.h).1
                  have y2 := fun pp : OSp w c q b n (some ⟨g, off, none⟩) k w.heap.size (some ⟨g1, o1, none⟩) (some ⟨g2, o2, none⟩) f fl => (CE.out pp.V pp.h).2.1
                  have y3 := fun pp : OSp w c q b n (some ⟨g, off, none⟩) k w.heap.size (some ⟨g1, o1, none⟩) (some ⟨g2, o2, none⟩) f fl => (CE.out pp.V pp.h).2.2.1
                  have y4 := fun pp : OSp w c q b n (some ⟨g, off, none⟩) k w.heap.size (some ⟨g1, o1, none⟩) (some ⟨g2, o2, none⟩) f fl => (CE.out pp.V pp.h).2.2.2.1
                  have y5 := fun pp : OSp w c q b n (some ⟨g, off, none⟩) k w.heap.size (some ⟨g1, o1, none⟩) (some ⟨g2, o2, none⟩) f fl => (CE.out pp.V pp.h).2.2.2.2.1
                  have y6 := fun pp : OSp w c q b n (some ⟨g, off, none⟩) k w.heap.size (some ⟨g1, o1, none⟩) (some ⟨g2, o2, none⟩) f fl => (CE.out pp.V pp.h).2.2.2.2.2
                  have x0 := fun pp : OSp w c q b n (some ⟨g, off, none⟩) k w.heap.size (some ⟨g1, o1, none⟩) (some ⟨g2, o2, none⟩) f fl => (def_cells pp.h.hc).1
                  have x1 := fun pp : OSp w c q b n (some ⟨g, off, none⟩) k w.heap.size (some ⟨g1, o1, none⟩) (some ⟨g2, o2, none⟩) f fl => (def_cells pp.h.hc).2.1
                  have x2 := fun pp : OSp w c q b n (some ⟨g, off, none⟩) k w.heap.size (some ⟨g1, o1, none⟩) (some ⟨g2, o2, none⟩) f fl => (def_cells pp.h.hc).2.2.1
                  have x3 := fun pp : OSp w c q b n (some ⟨g, off, none⟩) k w.heap.size (some ⟨g1, o1, none⟩) (some ⟨g2, o2, none⟩) f fl => (def_cells pp.h.hc).2.2.2
                  clear CK CE
                  haveI : Nonempty (OSp w c q b n (some ⟨g, off, none⟩) k w.heap.size (some ⟨g1, o1, none⟩) (some ⟨g2, o2, none⟩) f fl) := ⟨⟨_, T1d.out⟩⟩
                  cases tv with
                  | false =>
                    clear f1
                    refine region_quietC (fun W => ∃ p : OSp w c q b n (some ⟨g, off, none⟩) k w.heap.size (some ⟨g1, o1, none⟩) (some ⟨g2, o2, none⟩) f fl, W = p.V) mixed (by kernel_rfl) ⟨⟨_, T1d.out⟩, rfl⟩ ?_
                    repeat (go_big_quiet_step ((rename_i pp; refine (ct.out _ pp.h.bel).mono ?_; rintro e x ⟨rfl, hb2⟩; exact ⟨rfl, ⟨x, pp.h.keep hb2⟩, rfl⟩)))
                    refine wpQuiet_nil ?_
                    intro _ hw
                    obtain ⟨pp, hw2⟩ := hw
                    subst hw2
                    go_wp2
                    go_meet
                    case rel => exact ⟨rfl, hide pp.h⟩
                  | true =>
                    have d6 : decide (va <= ua) = false := decide_eq_false (by have := (f1 rfl).1; omega)
                    have d7 : decide (vb <= ub) = false := decide_eq_false (by have := (f1 rfl).2; omega)
                    clear f1
                    refine region_quietC (fun W => ∃ p : OSp w c q b n (some ⟨g, off, none⟩) k w.heap.size (some ⟨g1, o1, none⟩) (some ⟨g2, o2, none⟩) f fl, W = p.V) mixed (by kernel_rfl) ⟨⟨_, T1d.out⟩, rfl⟩ ?_
                    repeat (go_big_quiet_step ((rename_i pp; refine (ct.out _ pp.h.bel).mono ?_; rintro e x ⟨rfl, hb2⟩; exact ⟨rfl, ⟨x, pp.h.keep hb2⟩, rfl⟩)))
                    refine wpQuiet_nil ?_
                    intro _ hw
                    obtain ⟨pp, hw2⟩ := hw
                    subst hw2
                    go_wp2
                    go_meet
                    case rel => exact ⟨rfl, hide pp.h⟩
            case rest =>
              obtain ⟨rfl, T3⟩ := hcut
              go_wp2_with fail
              go_roundg (i - (j + 1))
              case measure => omega
              case rel => exact ⟨j + 1, by congr 1, by omega, Nat.le_refl _, T3⟩
          . have d5 : decide ((j : Int) < (i : Int)) = false := decide_eq_false (by omega)
            go_wp2_with fail
            go_roundg (n - (i + 1))
            case measure => omega
            case rel => exact ⟨i + 1, by congr 1, by omega, Nat.le_refl _, T1⟩
    . have d1 : decide ((i : Int) < (n : Int)) = false := decide_eq_false (by omega)
      obtain ⟨x0, x1, x2, x3⟩ := def_cells T1.out.hc
      go_wp2_with (first
        | (go_at_call 23; refine (PS.out _ T1.out.bel).mono ?_; rintro e V1 ⟨bo, jj, p, rfl, hp, hsb, ho, hb1⟩; have B1 := T1.out.bel.trans (hb1.mono T1.out.bel.size); have r1 := heap_alloc_new V1 (.cells #[.int .i64 q, .int .i64 b, .slice bo n jj] 24); have B2 := B1.trans ((bnew V1 (.cells #[.int .i64 q, .int .i64 b, .slice bo n jj] 24)).mono B1.size); clear x0 x1 x2 x3; obtain ⟨x0, x1, x2, x3⟩ := def_cells r1; obtain ⟨hi, hr⟩ := ho.at.rd; have hci : Ci (V1.alloc (.cells #[.int .i64 q, .int .i64 b, .slice bo n jj] 24)) ⟨q, b, p.map (oa ops)⟩ bo jj := ⟨hi.below (bnew _ _), hr, (by simp only [List.length_map, hp.len]; omega), fun o hoo => (by obtain ⟨z, hz, rfl⟩ := List.mem_map.1 hoo; exact HQ.out _ (List.mem_of_getElem? (oa_some (by rw [HNN.out]; exact hp.lt z hz))))⟩; have HP := hide (And.intro hp (And.intro hsb hci)); clear hp hsb hci ho hi hr hb1)
        | (go_at_call 16; refine (PD.out _ bo jj p B2 HP.out.1 HP.out.2.1 HP.out.2.2).mono ?_; rintro e V3 ⟨rfl, hb3⟩; have B3 := B2.trans (hb3.mono B2.size))
        | (go_at_call 20; refine (HD.out _ B3).mono ?_; rintro e V4 ⟨rfl, hb4⟩; have B4 := B3.trans (hb4.mono B3.size)))
      go_ret
      exact ⟨rfl, B4⟩
theorem xOrder (c : Circ) (ao : Option Addr) (k : Nat) (w : World) (hT : Tb w) (hC : Ci w c ao k) : Calls Tryd.prog 5 #[cV c ao k] w fun e w' => e = .returned (.bool true) /\ Below w.heap.size w w' := by
  cases h : okC c with
  | true => exact xOrderOk c ao k h w hT hC
  | false => exact xOrderNo c ao k h w hT hC
end Go.Proofs.YthndpbjplcphpaaDoor.Lay
