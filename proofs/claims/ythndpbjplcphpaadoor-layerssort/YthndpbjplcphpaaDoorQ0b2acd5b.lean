import Derived.Test.YthndpbjplcphpaaDoorQ54c82225
import Derived.Test.YthndpbjplcphpaaDoorQ64814638
set_option maxRecDepth 100000
set_option maxHeartbeats 8000000
namespace Go.Proofs.YthndpbjplcphpaaDoor.Lay
open Go.RowKit Go.Shelf Go.Proofs.YthndpbjplcphpaaDoor.Oct Go.Proofs.YthndpbjplcphpaaDoor.Tok Go.Proofs.YthndpbjplcphpaaDoor.Gt Go.Proofs.YthndpbjplcphpaaDoor.Cir
def WP (w : World) (l : List Int) (er : Int) (e : Ending) (w' : World) : Prop := ∃ ao cc, e = .returned (.tuple #[.slice ao l.length cc, .int .i64 er]) /\ NsW w' w.heap.size ao l /\ l.length <= 4096 /\ Below w.heap.size w w'
theorem pEarly (c : Circ) (f : Nat -> Int) (hE : EV c.ops f) (ao : Option Addr) (k : Nat) (w : World) (hT : Tb w) (hC : Ci w c ao k) : Calls Tryd.prog 7 #[cV c ao k] w (WP w (rwC c f) (erC c)) := by
  have c1 := fun V (h : Below w.heap.size w V) => cCheck c ao k V (hT.below h) (hC.below h)
  have h2 := chk_two c
  have HOK : Hid (okC c = true -> (∀ o ∈ c.ops, Wk o /\ 0 < o.qs.length) /\ c.ops.length <= 4096) := hide ok_wk
  have HC2 : Hid ((∀ o ∈ c.ops, Wk o) -> c.ops.length <= 4096 -> ∀ V, Below w.heap.size w V -> Calls Tryd.prog 30 #[.slice ao c.ops.length k] V fun e w' => ∃ g, e = .returned (.slice (some ⟨g, 0, none⟩) c.ops.length c.ops.length) /\ Rk w' g 3 c.ops.length (fun j => .int .i64 (f j)) /\ V.heap.size <= g /\ Below V.heap.size V w') := hide (fun h1 h3 V hb => lEarly1 c.ops f hE h1 h3 ao k V (hC.ops.below hb))
  have he : okC c = ((chkC c).2 == 0) := rfl
  have HER := hide (ev_rng hE)
  try unfold rwC
  unfold erC
  obtain ⟨q, b, ops⟩ := c
  unfold cV at *
  simp only at *
  generalize (chkC ⟨q, b, ops⟩).1 = z1 at *
  generalize (chkC ⟨q, b, ops⟩).2 = z2 at *
  generalize okC ⟨q, b, ops⟩ = ok at *
  clear hT hC hE
  obtain ⟨n, hn⟩ : ∃ n, ops.length = n := ⟨_, rfl⟩
  have HN := hide hn
  simp only [hn] at c1 HOK HC2 HER ⊢
  clear hn
  have hb1 := bnew w (.cells #[.int .i64 q, .int .i64 b, .slice ao n k] 24)
  have hm1 := heap_alloc_new w (.cells #[.int .i64 q, .int .i64 b, .slice ao n k] 24)
  have hsz : w.heap.size < (w.alloc (.cells #[.int .i64 q, .int .i64 b, .slice ao n k] 24)).heap.size := by simp
  have c1' := c1 _ hb1
  clear c1
  rcases h2 with rfl | rfl
  . obtain rfl : ok = true := he
    have HW := hide (HOK.out rfl)
    have hn := HW.out.2
    have HC3 := hide (HC2.out (fun o ho => (HW.out.1 o ho).1) hn)
    clear HOK HC2
    go_enter Tryd.func7, Tryd.ntmps7
    go_wp2_with (first
      | (go_at_call 29; refine c1'.mono ?_; rintro e w2 ⟨rfl, hb2⟩; have hB2 := hb1.trans (hb2.mono hb1.size); have hm2 := (hb2.block _ hsz).trans hm1; obtain ⟨y0, y1, y2, y3⟩ := def_cells hm2; have c2 := HC3.out w2 hB2; clear c1')
      | (go_at_call 30; refine c2.mono ?_; rintro e w3 ⟨g3, rfl, hR3, hg3', hb3⟩; have HR3 := hide hR3; have HB3 := hide (hB2.trans (hb3.mono hB2.size)); have hg3 : w.heap.size <= g3 := Nat.le_trans hB2.size hg3'; clear c2 hR3 hb3))
    go_ret2
    show WP w ((List.range n).map f) 0 _ _
    have hlr : ((List.range n).map f).length = n := by simp
    exact ⟨some ⟨g3, 0, none⟩, n, by rw [hlr]; rfl, rk_nsw HR3.out hg3, by rw [hlr]; exact hn, HB3.out⟩
  . obtain rfl : ok = false := he
    clear HOK HC2
    go_enter Tryd.func7, Tryd.ntmps7
    go_wp2_with (go_at_call 29; refine c1'.mono ?_; rintro e w2 ⟨rfl, hb2⟩; have HB2 := hide (hb1.trans (hb2.mono hb1.size)); clear c1')
    go_ret2
    show WP w [] 80 _ _
    exact ⟨none, 0, rfl, .inl rfl, by simp, HB2.out⟩
theorem pLate (c : Circ) (f fl : Nat -> Int) (hE : EV c.ops f) (hL : LV c.ops (gr f c.ops.length) fl) (ao : Option Addr) (k : Nat) (w : World) (hT : Tb w) (hC : Ci w c ao k) : Calls Tryd.prog 10 #[cV c ao k] w (WP w (rwC c fl) (erC c)) := by
  have c1 := fun V (h : Below w.heap.size w V) => cCheck c ao k V (hT.below h) (hC.below h)
  have h2 := chk_two c
  have HOK : Hid (okC c = true -> (∀ o ∈ c.ops, Wk o /\ 0 < o.qs.length) /\ c.ops.length <= 4096) := hide ok_wk
  have HC2 : Hid ((∀ o ∈ c.ops, Wk o) -> c.ops.length <= 4096 -> ∀ V, Below w.heap.size w V -> Calls Tryd.prog 33 #[.slice ao c.ops.length k] V fun e w' => ∃ g, e = .returned (.slice (some ⟨g, 0, none⟩) c.ops.length c.ops.length) /\ Rk w' g 3 c.ops.length (fun j => .int .i64 (fl j)) /\ V.heap.size <= g /\ Below V.heap.size V w') := hide (fun h1 h3 V hb => lLate1 c.ops f fl hE hL h1 h3 ao k V (hC.ops.below hb))
  have he : okC c = ((chkC c).2 == 0) := rfl
  have HER := hide (ev_rng hE)
  try unfold rwC
  unfold erC
  obtain ⟨q, b, ops⟩ := c
  unfold cV at *
  simp only at *
  generalize (chkC ⟨q, b, ops⟩).1 = z1 at *
  generalize (chkC ⟨q, b, ops⟩).2 = z2 at *
  generalize okC ⟨q, b, ops⟩ = ok at *
  clear hT hC hE hL
  obtain ⟨n, hn⟩ : ∃ n, ops.length = n := ⟨_, rfl⟩
  have HN := hide hn
  simp only [hn] at c1 HOK HC2 HER ⊢
  clear hn
  have hb1 := bnew w (.cells #[.int .i64 q, .int .i64 b, .slice ao n k] 24)
  have hm1 := heap_alloc_new w (.cells #[.int .i64 q, .int .i64 b, .slice ao n k] 24)
  have hsz : w.heap.size < (w.alloc (.cells #[.int .i64 q, .int .i64 b, .slice ao n k] 24)).heap.size := by simp
  have c1' := c1 _ hb1
  clear c1
  rcases h2 with rfl | rfl
  . obtain rfl : ok = true := he
    have HW := hide (HOK.out rfl)
    have hn := HW.out.2
    have HC3 := hide (HC2.out (fun o ho => (HW.out.1 o ho).1) hn)
    clear HOK HC2
    go_enter Tryd.func10, Tryd.ntmps10
    go_wp2_with (first
      | (go_at_call 29; refine c1'.mono ?_; rintro e w2 ⟨rfl, hb2⟩; have hB2 := hb1.trans (hb2.mono hb1.size); have hm2 := (hb2.block _ hsz).trans hm1; obtain ⟨y0, y1, y2, y3⟩ := def_cells hm2; have c2 := HC3.out w2 hB2; clear c1')
      | (go_at_call 33; refine c2.mono ?_; rintro e w3 ⟨g3, rfl, hR3, hg3', hb3⟩; have HR3 := hide hR3; have HB3 := hide (hB2.trans (hb3.mono hB2.size)); have hg3 : w.heap.size <= g3 := Nat.le_trans hB2.size hg3'; clear c2 hR3 hb3))
    go_ret2
    show WP w ((List.range n).map fl) 0 _ _
    have hlr : ((List.range n).map fl).length = n := by simp
    exact ⟨some ⟨g3, 0, none⟩, n, by rw [hlr]; rfl, rk_nsw HR3.out hg3, by rw [hlr]; exact hn, HB3.out⟩
  . obtain rfl : ok = false := he
    clear HOK HC2
    go_enter Tryd.func10, Tryd.ntmps10
    go_wp2_with (go_at_call 29; refine c1'.mono ?_; rintro e w2 ⟨rfl, hb2⟩; have HB2 := hide (hb1.trans (hb2.mono hb1.size)); clear c1')
    go_ret2
    show WP w [] 80 _ _
    exact ⟨none, 0, rfl, .inl rfl, by simp, HB2.out⟩
theorem pDepth (c : Circ) (f : Nat -> Int) (hE : EV c.ops f) (ao : Option Addr) (k : Nat) (w : World) (hT : Tb w) (hC : Ci w c ao k) : Calls Tryd.prog 16 #[cV c ao k] w fun e w' => e = .returned (.tuple #[.int .i64 (if okC c then gr f c.ops.length else 0), .int .i64 (erC c)]) /\ Below w.heap.size w w' := by
  have c1 := fun V (h : Below w.heap.size w V) => cCheck c ao k V (hT.below h) (hC.below h)
  have h2 := chk_two c
  have HOK : Hid (okC c = true -> (∀ o ∈ c.ops, Wk o /\ 0 < o.qs.length) /\ c.ops.length <= 4096) := hide ok_wk
  have HC2 : Hid ((∀ o ∈ c.ops, Wk o) -> c.ops.length <= 4096 -> ∀ V, Below w.heap.size w V -> Calls Tryd.prog 30 #[.slice ao c.ops.length k] V fun e w' => ∃ g, e = .returned (.slice (some ⟨g, 0, none⟩) c.ops.length c.ops.length) /\ Rk w' g 3 c.ops.length (fun j => .int .i64 (f j)) /\ V.heap.size <= g /\ Below V.heap.size V w') := hide (fun h1 h3 V hb => lEarly1 c.ops f hE h1 h3 ao k V (hC.ops.below hb))
  have he : okC c = ((chkC c).2 == 0) := rfl
  have HER := hide (ev_rng hE)
  try unfold rwC
  unfold erC
  obtain ⟨q, b, ops⟩ := c
  unfold cV at *
  simp only at *
  generalize (chkC ⟨q, b, ops⟩).1 = z1 at *
  generalize (chkC ⟨q, b, ops⟩).2 = z2 at *
  generalize okC ⟨q, b, ops⟩ = ok at *
  clear hT hC hE
  obtain ⟨n, hn⟩ : ∃ n, ops.length = n := ⟨_, rfl⟩
  have HN := hide hn
  simp only [hn] at c1 HOK HC2 HER ⊢
  clear hn
  have hb1 := bnew w (.cells #[.int .i64 q, .int .i64 b, .slice ao n k] 24)
  have hm1 := heap_alloc_new w (.cells #[.int .i64 q, .int .i64 b, .slice ao n k] 24)
  have hsz : w.heap.size < (w.alloc (.cells #[.int .i64 q, .int .i64 b, .slice ao n k] 24)).heap.size := by simp
  have c1' := c1 _ hb1
  clear c1
  rcases h2 with rfl | rfl
  . obtain rfl : ok = true := he
    have HW := hide (HOK.out rfl)
    have hn := HW.out.2
    have HC3 := hide (HC2.out (fun o ho => (HW.out.1 o ho).1) hn)
    clear HOK HC2
    go_enter Tryd.func16, Tryd.ntmps16
    go_wp2_with (first
      | (go_at_call 29; refine c1'.mono ?_; rintro e w2 ⟨rfl, hb2⟩; have hB2 := hb1.trans (hb2.mono hb1.size); have hm2 := (hb2.block _ hsz).trans hm1; obtain ⟨y0, y1, y2, y3⟩ := def_cells hm2; have c2 := HC3.out w2 hB2; clear c1')
      | (go_at_call 30; refine c2.mono ?_; rintro e w3 ⟨g3, rfl, hR3, hg3', hb3⟩; have HR3 := hide hR3; have HB3 := hide (hB2.trans (hb3.mono hB2.size)); have hg3 : w.heap.size <= g3 := Nat.le_trans hB2.size hg3'; clear c2 hR3 hb3)
      | (go_at_call 40; refine (lGreatest f n g3 n (by omega) HER.out w3 HR3.out).mono ?_; rintro e w4 ⟨rfl, hw4⟩; obtain rfl := hw4.symm))
    go_ret2
    exact ⟨rfl, HB3.out⟩
  . obtain rfl : ok = false := he
    clear HOK HC2
    go_enter Tryd.func16, Tryd.ntmps16
    go_wp2_with (go_at_call 29; refine c1'.mono ?_; rintro e w2 ⟨rfl, hb2⟩; have HB2 := hide (hb1.trans (hb2.mono hb1.size)); clear c1')
    go_ret2
    exact ⟨rfl, HB2.out⟩
theorem gr_ge {f : Nat -> Int} : ∀ n j, j < n -> f j <= gr f n
  | 0, _, h => by omega
  | n + 1, j, h => by
    rw [gr]
    by_cases e : j = n
    . subst e; omega
    . have := gr_ge (f := f) n j (by omega); omega
theorem makeR19 (n : Nat) (hn : n <= 100000) (w : World) : (Instr.makeSlice 43 (.int .i64 (n : Int)) (.int .i64 (n : Int))).run Tryd.prog w = .ok (.slice (some ⟨w.heap.size, 0, none⟩) n n) (w.alloc (.cells (madeCells #[.slice none 0 0] n) 25)) :=
  run_make_row' 43 25 (.slice none 0 0) 24 Tryd.underlying43 (by kernel_rfl) rfl .i64 .i64 n (by omega) (by omega) w
theorem madeR19 (V : World) (n x : Nat) (hx : V.heap.size = x) : Rk (V.alloc (.cells (madeCells #[.slice none 0 0] n) 25)) x 25 n (fun _ => .slice none 0 0) := by
  subst hx
  obtain ⟨c, h1, h2, h3⟩ := World.rowIs_made V (.slice none 0 0) n 25
  exact ⟨c, h1, by omega, h3⟩
theorem own_rkr {w : World} {B n c g m : Nat} {ao : Option Addr} {xs : List Value} {f : Nat -> Value} (h : w.ownsRow B 3 1 (.slice ao n c) n xs) (hR : Rk w g 25 m f) : ob ao = some g -> False := by
  obtain ⟨cs, h1, -⟩ := hR
  exact own_ne h h1 (by decide)
theorem own_rkset {w : World} {B n c g m : Nat} {ao : Option Addr} {xs : List Value} {f : Nat -> Value} (h : w.ownsRow B 3 1 (.slice ao n c) n xs) (hR : Rk w g 25 m f) (i : Nat) (v : Value) : (w.setCell ⟨g, i, none⟩ v).ownsRow B 3 1 (.slice ao n c) n xs :=
  own_of_block h fun k hk => Below.heap_setCell _ _ _ _ (fun e => own_rkr h hR (by rw [← show k = g from e]; exact hk))
abbrev RV := Option Addr × Nat × Nat × List Int
def RV.v (x : RV) : Value := .slice x.1 x.2.1 x.2.2.1
structure RS (W : World) (B D i : Nat) (vs : Nat -> RV) : Prop where
  own : ∀ d, d < D -> W.ownsRow B 3 1 (.slice (vs d).1 (vs d).2.1 (vs d).2.2.1) (vs d).2.1 ((vs d).2.2.2.map (Value.int .i64))
  apart : ∀ d e, d < D -> e < D -> d ≠ e -> ∀ g, ob (vs d).1 = some g -> ob (vs e).1 ≠ some g
  small : ∀ d, d < D -> (vs d).2.1 <= i
theorem pMoments (c : Circ) (f : Nat -> Int) (hE : EV c.ops f) (hok : okC c = true) (ao : Option Addr) (k : Nat) (w : World) (hT : Tb w) (hC : Ci w c ao k) : Calls Tryd.prog 21 #[cV c ao k] w fun e w' => ∃ bo j, e = .returned (.tuple #[.slice bo (gr f c.ops.length).toNat j, .int .i64 0]) /\ Below w.heap.size w w' := by
  have c1 := fun V (h : Below w.heap.size w V) => cCheck c ao k V (hT.below h) (hC.below h)
  have h0 : (chkC c).2 = 0 := by unfold okC at hok; simpa using hok
  rw [h0] at c1
  have hwk := (ok_wk hok).1
  have hn := (ok_wk hok).2
  have c2 := fun V (h : Below w.heap.size w V) => lEarly1 c.ops f hE (fun o ho => (hwk o ho).1) hn ao k V (hC.ops.below h)
  have c3 := fun (V : World) (g : Nat) (h : Rk V g 3 c.ops.length (fun j => .int .i64 (f j))) => lGreatest f c.ops.length g c.ops.length (by omega) (ev_rng hE) V h
  have hgr := gr_rng (f := f) c.ops.length (ev_rng hE)
  have HGE : Hid (∀ j, j < c.ops.length -> f j <= gr f c.ops.length /\ ((oa c.ops j).kind ≠ 4 -> 1 <= f j) /\ 0 <= f j) := hide (fun j hj => ⟨gr_ge _ j hj, fun hk => by
    rw [hE j _ (oa_some hj)]
    unfold ln
    rw [if_neg hk]
    have := mx_nn (ops := c.ops) (f := f) (o := oa c.ops j) j
    omega, (ev_rng hE j hj).1⟩)
  have HO := hide hC.ops
  obtain ⟨D, hD⟩ : ∃ D : Nat, gr f c.ops.length = (D : Int) := ⟨(gr f c.ops.length).toNat, by omega⟩
  rw [hD] at c3 hgr HGE ⊢
  obtain ⟨q, b, ops⟩ := c
  unfold cV at *
  simp only at *
  generalize (chkC ⟨q, b, ops⟩).1 = z1 at *
  clear hT hC hE hok h0 hwk hD
  obtain ⟨n, hnl⟩ : ∃ n, ops.length = n := ⟨_, rfl⟩
  have HN := hide hnl
  simp only [hnl] at c1 c2 c3 hn hgr HGE ⊢
  clear hnl
  rw [Int.toNat_natCast]
  have mq := fun W => makeR19 D (by omega) W
  have hb1 := bnew w (.cells #[.int .i64 q, .int .i64 b, .slice ao n k] 24)
  have hm1 := heap_alloc_new w (.cells #[.int .i64 q, .int .i64 b, .slice ao n k] 24)
  have hsz : w.heap.size < (w.alloc (.cells #[.int .i64 q, .int .i64 b, .slice ao n k] 24)).heap.size := by simp
  have c1' := c1 _ hb1
  clear c1
  go_enter Tryd.func21, Tryd.ntmps21
  go_upto_region 6 with (first
    | (go_at_call 29; refine c1'.mono ?_; rintro e w2 ⟨rfl, hb2⟩; have hB2 := hb1.trans (hb2.mono hb1.size); have hm2 := (hb2.block _ hsz).trans hm1; obtain ⟨y0, y1, y2, y3⟩ := def_cells hm2; have c2' := c2 w2 hB2; clear c1')
    | (go_at_call 30; refine c2'.mono ?_; rintro e w3 ⟨gR, rfl, hR3, hgR, hb3⟩; have hB3 := hB2.trans (hb3.mono hB2.size); have hm3 := (hb3.block _ (Array.getElem?_eq_some_iff.1 hm2).1).trans hm2; have c3' := c3 w3 gR hR3; clear c2')
    | (go_at_call 40; refine c3'.mono ?_; rintro e w3q ⟨rfl, hw3⟩; obtain rfl := hw3.symm; clear c3'))
  have hgRl := hR3.lt
  obtain ⟨gT, hgT⟩ : ∃ gT, gT = w3.heap.size := ⟨_, rfl⟩
  rw [← hgT]
  have hb4 := bnew w3 (.cells (madeCells #[.slice none 0 0] D) 25)
  have hT4 : Rk (w3.alloc (.cells (madeCells #[.slice none 0 0] D) 25)) gT 25 D (fun _ => .slice none 0 0) := madeR19 w3 D gT hgT.symm
  have hR4 := hR3.below hb4
  have hm4 := (hb4.block _ (Array.getElem?_eq_some_iff.1 hm3).1).trans hm3
  have hB4 : Below w.heap.size w (w3.alloc (.cells (madeCells #[.slice none 0 0] D) 25)) := hB3.trans (hb4.mono hB3.size)
  have hs4 : gT < (w3.alloc (.cells (madeCells #[.slice none 0 0] D) 25)).heap.size := by rw [hgT]; simp
  have hwS : w.heap.size < gT := by rw [hgT]; exact (Array.getElem?_eq_some_iff.1 hm3).1
  have hwT : w.heap.size <= gT /\ gR < gT := ⟨by omega, by omega⟩
  generalize w3.alloc (.cells (madeCells #[.slice none 0 0] D) 25) = W4 at *
  clear hgT hb4 hb1 hm1 hm2 hm3 hB2 hB3 hb2 hb3 hR3 y0 y1 y2 y3 mq c2 c3
  go_wp2_with fail
  go_loopw [8, 9, 26] (fun _ _ vi wr => ∃ (i : Nat) (vs : Nat -> RV), i <= n /\ vi = .int .i64 (i : Int) /\ Hid (RS wr gT D i vs) /\ Hid (Rk wr gT 25 D (fun d => (vs d).v)) /\ Hid (Rk wr gR 3 n (fun j => .int .i64 (f j))) /\ Hid (wr.heap[w.heap.size]? = some (.cells #[.int .i64 q, .int .i64 b, .slice ao n k] 24 (0, 0))) /\ Hid (Below w.heap.size w wr)) (fun _ _ vi _ => n - (intOf vi).toNat)
  case atStart => exact ⟨0, fun _ => (none, 0, 0, []), Nat.zero_le _, rfl, hide ⟨fun d _ => World.ownsRow_nil _ _ _ _, fun d e _ _ _ g hg => by simp [ob] at hg, fun d _ => Nat.le_refl _⟩, hide hT4, hide hR4, hide hm4, hide hB4⟩
  case round =>
    clear hT4 hR4 hm4 hB4 hs4
    obtain ⟨i, vs, hi, rfl, HRS, HT, HR, HM, HB⟩ := hrel
    obtain ⟨x0, x1, x2, x3⟩ := def_cells HM.out
    by_cases h : i < n
    . have hd : decide ((i : Int) < (n : Int)) = true := decide_eq_true (by omega)
      have hkk : (i : Int) < (n : Int) := by omega
      have r0 := HR.out.cell i h
      have r2 := HR.out.lt
      have hge := HGE.out i h
      have hio : i < ops.length := by rw [HN.out]; exact h
      obtain ⟨g, off, aq, cq, rfl, hgl0, hoc0⟩ := HO.out.at (oa_some hio)
      have hgl : g < wr.heap.size := Nat.lt_of_lt_of_le hgl0 HB.out.size
      have hkd := (hoc0.below HB.out).kind
      by_cases e4 : (oa ops i).kind = 4
      . rw [e4] at hkd
        clear e4 hge hoc0
        generalize f i = fi at *
        go_wp2_with fail
        exact ⟨⟨i + 1, vs, by omega, by go_num, hide ⟨HRS.out.own, HRS.out.apart, fun d hd => Nat.le_succ_of_le (HRS.out.small d hd)⟩, HT, HR, HM, HB⟩, by simp [intOf]; omega⟩
      . have hf1 := hge.2.1 e4
        obtain ⟨p, hp⟩ : ∃ p : Nat, f i = (p : Int) + 1 := ⟨(f i - 1).toNat, by omega⟩
        have hpD : p < D := by omega
        have hkz : ((oa ops i).kind == 4) = false := by simpa using e4
        have hw1 : IntKind.i64.wrap ((p : Int) + 1 - 1) = (p : Int) := by rw [show (p : Int) + 1 - 1 = (p : Int) by omega]; exact wrapI _ (by omega) (by omega)
        have hpi : (p : Int) < (D : Int) := by omega
        rw [hp] at r0
        have t0 := HT.out.cell p hpD
        have t1 := HT.out.frozen p
        have t2 := HT.out.lt
        have HOp := hide (HRS.out.own p hpD)
        have HSm := hide (HRS.out.small p hpD)
        obtain ⟨⟨ap, np, cp, lp⟩, hvp⟩ : ∃ x : RV, x = vs p := ⟨_, rfl⟩
        rw [← hvp] at t0 HOp HSm
        simp only [RV.v] at t0
        have HOq : Hid (wr.ownsRow gT 3 1 (.slice ap np cp) np (lp.map (Value.int .i64))) := hide HOp.out
        have hnp : np <= i := HSm.out
        have hsT : gT <= wr.heap.size := Nat.le_of_lt t2
        have HVP := hide hvp
        clear hvp HOp HSm hge hf1 e4 hoc0
        generalize (oa ops i).kind = kd at *
        go_wp2_with (at_builtin; refine app1_list (w := wr) rfl (.tmp 45) (.tmp 47) rfl HOq.out hsT (i : Int) (by omega) (by rfl) (by rfl) ?_; intro g6 c6 w6 hown hgr hat; have HO6 := hide hown; have HG6 := hide hgr; have HA6 := hide hat; have hT6 : Rk w6 gT 25 D (fun d => (vs d).v) := HT.out.of_block (hgr.block _ HT.out.lt (fun e => own_rkr HOq.out HT.out e.symm)); have u0 := hT6.cell p hpD; have u1 := hT6.frozen p; have u2 := hT6.lt; have HT6 := hide hT6; clear hown hgr hat hT6)
        have hR6 : Rk w6 gR 3 n (fun j => .int .i64 (f j)) := HR.out.of_block (HG6.out.block _ HR.out.lt (fun e => by have := (own_lt HOq.out gR e.symm).1; omega))
        have hM6 := (HG6.out.block _ (Array.getElem?_eq_some_iff.1 HM.out).1 (fun e => own_ne HOq.out HM.out (by decide) e.symm)).trans HM.out
        have hB6 : Below w.heap.size w w6 := HB.out.grown HG6.out HB.out.size (fun x hx => Nat.le_trans hwT.1 (own_lt HOq.out x hx).1)
        have hvp := HVP.out
        have hobp : ob (vs p).1 = ob ap := by rw [← hvp]
        refine ⟨⟨i + 1, fun d => if d = p then (some ⟨g6, 0, none⟩, np + 1, c6, lp ++ [(i : Int)]) else vs d, by omega, by go_num, hide ⟨fun d hd => ?_, fun d e hd he hde g hg => ?_, fun d hd => ?_⟩, hide ((HT6.out.set p _).congr fun d hd => ?_), hide (hR6.of_block (Below.heap_setCell _ _ _ _ (by simp; omega))), hide ((Below.heap_setCell _ _ _ _ (by simp; omega)).trans hM6), hide (hB6.setCell (p := ⟨gT, p, none⟩) hwT.1 _)⟩, by simp [intOf]; omega⟩
        . by_cases e : d = p
          . simp only [e, if_true]
            exact own_rkset HO6.out HT6.out p _
          . simp only [if_neg e]
            refine own_rkset (own_of_block (HRS.out.own d hd) fun kk hk => HG6.out.block kk (own_lt (HRS.out.own d hd) kk hk).2 (fun e2 => ?_)) HT6.out p _
            exact HRS.out.apart d p hd hpD e kk hk (by rw [hobp]; exact e2.symm)
        . by_cases e1 : d = p
          . by_cases e2 : e = p
            . exact absurd (e1.trans e2.symm) hde
            . simp only [if_neg e2]
              simp only [e1, if_true] at hg
              intro hg2
              have hgg : g = g6 := by have : some g6 = some g := hg; cases this; rfl
              rcases HA6.out with h6 | h6
              . exact HRS.out.apart p e hpD he (fun q => e2 q.symm) g (by rw [hobp, h6, hgg]) hg2
              . have := (own_lt (HRS.out.own e he) g hg2).2
                omega
          . simp only [if_neg e1] at hg
            by_cases e2 : e = p
            . simp only [e2, if_true]
              intro hg2
              have hgg : g = g6 := by have : some g6 = some g := hg2; cases this; rfl
              rcases HA6.out with h6 | h6
              . exact HRS.out.apart d p hd hpD e1 g hg (by rw [hobp, h6, hgg])
              . have := (own_lt (HRS.out.own d hd) g hg).2
                omega
            . simp only [if_neg e2]
              exact HRS.out.apart d e hd he hde g hg
        . by_cases e : d = p
          . simp only [e, if_true]
            omega
          . simp only [if_neg e]
            exact Nat.le_succ_of_le (HRS.out.small d hd)
        . by_cases e : d = p
          . simp only [e, if_true]
            rfl
          . simp only [if_neg e]
    . obtain rfl : n = i := by omega
      have hd : decide ((n : Int) < (n : Int)) = false := decide_eq_false (by omega)
      go_wp2_with fail
      go_ret2
      exact ⟨some ⟨gT, 0, none⟩, D, rfl, HB.out⟩
def slI (ops : List COp) (f : Nat -> Int) (n : Nat) [Inhabited (Fin n)] : List Int := (srt ops f n).toList.map fun x => (x.1 : Int)
theorem pSorted (c : Circ) (f : Nat -> Int) (hE : EV c.ops f) (hok : okC c = true) (n : Nat) [Inhabited (Fin n)] (hn : c.ops.length = n) (h20 : n < 20) (hss : (srt c.ops f n).size = n) (ao : Option Addr) (k : Nat) (w : World) (hT : Tb w) (hC : Ci w c ao k) : Calls Tryd.prog 23 #[cV c ao k] w fun e w' => ∃ bo j, e = .returned (.tuple #[.agg #[.int .i64 c.q, .int .i64 c.b, .slice bo n j], .int .i64 0]) /\ OpsOwn w' w.heap.size bo n j ((slI c.ops f n).map fun z => oa c.ops z.toNat) /\ Below w.heap.size w w' := by
  have c1 := fun V (h : Below w.heap.size w V) => cCheck c ao k V (hT.below h) (hC.below h)
  have h0 : (chkC c).2 = 0 := by unfold okC at hok; simpa using hok
  rw [h0] at c1
  have hwk := (ok_wk hok).1
  have hsl : (slI c.ops f n).length = n := by unfold slI; rw [List.length_map, Array.length_toList]; exact hss
  have HSo : Hid (∀ V, Below w.heap.size w V -> Calls Tryd.prog 44 #[.slice ao n k] V fun e w' => ∃ g, e = .returned (.slice (some ⟨g, 0, none⟩) n n) /\ Ns w' (some ⟨g, 0, none⟩) (slI c.ops f n) /\ Below V.heap.size V w') := hide (fun V hV => lSorted c.ops f hE (fun o ho => (hwk o ho).1) n hn h20 hss ao k V (hC.ops.below hV))
  have HPi : Hid (∀ V, Below w.heap.size w V -> ∀ al cl, Ns V al (slI c.ops f n) -> Calls Tryd.prog 43 #[cV c ao k, .slice al n cl] V fun e w' => ∃ bo j, e = .returned (.agg #[.int .i64 c.q, .int .i64 c.b, .slice bo n j]) /\ OpsOwn w' V.heap.size bo n j ((slI c.ops f n).map fun z => oa c.ops z.toNat) /\ Below V.heap.size V w') := hide (fun V hV al cl hN => by
    have h1 := lPicked c ao k (fun o ho => (hwk o ho).1.len) (slI c.ops f n) al cl (fun z hz => by
      obtain ⟨y, -, rfl⟩ := List.mem_map.1 hz
      have := y.2
      omega) (by omega) V (hC.below hV) hN
    unfold cV at h1 ⊢
    simp only [List.length_map, hsl] at h1
    exact h1)
  obtain ⟨q, b, ops⟩ := c
  unfold cV at *
  simp only at *
  generalize (chkC ⟨q, b, ops⟩).1 = z1 at *
  generalize (slI ops f n).map (fun z => oa ops z.toNat) = R at *
  generalize slI ops f n = sl at *
  rw [hn] at c1 HPi ⊢
  clear hn hT hC hE hok h0 hwk hss hsl
  have hB1 : Below w.heap.size w ((w.alloc (.cells #[.int .i64 q, .int .i64 b, .slice ao n k] 24)).alloc (.cells #[.int .i64 0, .int .i64 0, .slice none 0 0] 24)) := (bnew _ _).trans ((bnew _ _).mono (by simp))
  have hm1 : ((w.alloc (.cells #[.int .i64 q, .int .i64 b, .slice ao n k] 24)).alloc (.cells #[.int .i64 0, .int .i64 0, .slice none 0 0] 24)).heap[w.heap.size]? = some (.cells #[.int .i64 q, .int .i64 b, .slice ao n k] 24 (0, 0)) := (Below.heap_alloc _ _ _ (by simp)).trans (heap_alloc_new _ _)
  have hz1 : ((w.alloc (.cells #[.int .i64 q, .int .i64 b, .slice ao n k] 24)).alloc (.cells #[.int .i64 0, .int .i64 0, .slice none 0 0] 24)).heap[w.heap.size + 1]? = some (.cells #[.int .i64 0, .int .i64 0, .slice none 0 0] 24 (0, 0)) := by
    have := heap_alloc_new (w.alloc (.cells #[.int .i64 q, .int .i64 b, .slice ao n k] 24)) (.cells #[.int .i64 0, .int .i64 0, .slice none 0 0] 24)
    rw [World.size_alloc] at this
    exact this
  go_enter Tryd.func23, Tryd.ntmps23
  go_upto_region 1 with fail
  obtain ⟨b1, hb1⟩ : ∃ b1, b1 = w.heap.size := ⟨_, rfl⟩
  obtain ⟨b2, hb2⟩ : ∃ b2, b2 = w.heap.size + 1 := ⟨_, rfl⟩
  rw [← hb2, ← hb1]
  rw [← hb1] at hm1
  rw [← hb2] at hz1
  have hbs : b1 < b2 /\ w.heap.size <= b1 := ⟨by omega, by omega⟩
  clear hb1 hb2
  generalize ((w.alloc (.cells #[.int .i64 q, .int .i64 b, .slice ao n k] 24)).alloc (.cells #[.int .i64 0, .int .i64 0, .slice none 0 0] 24)) = W1 at *
  have c1' := c1 W1 hB1
  obtain ⟨x0, x1, x2, x3⟩ := def_cells hm1
  clear c1
  go_upto_region 4 with (go_at_call 29; refine c1'.mono ?_; rintro e w2 ⟨rfl, hb2⟩; have hm2 := (hb2.block _ (Array.getElem?_eq_some_iff.1 hm1).1).trans hm1; have hz2 := (hb2.block _ (Array.getElem?_eq_some_iff.1 hz1).1).trans hz1; have hB2 := hB1.trans (hb2.mono hB1.size); clear c1')
  have HZ2 := hide hz2
  clear hm1 hz1 hB1 hb2 hz2 x0 x1 x2 x3
  refine wp_region_held_drew (S := (fun V : World => V.heap[b1]? = some (.cells #[.int .i64 q, .int .i64 b, .slice ao n k] 24 (0, 0)) /\ Below w.heap.size w V)) (by kernel_rfl) ⟨hm2, hB2.drew⟩ (fun hHeld => ?_)
  replace HZ2 : Hid (w2.drew.heap[b2]? = some (.cells #[.int .i64 0, .int .i64 0, .slice none 0 0] 24 (0, 0))) := hide HZ2.out
  clear hm2 hB2
  refine take_to (i := 0) (d := 15) (v := ?_) rfl rfl (by kernel_rfl) (by kernel_rfl) (by kernel_rfl) (fun _ _ _ h => h) (Or.inl ⟨by rfl, ?_⟩) (by assumption) ?_
  rotate_left 1
  . intro W hSw
    obtain ⟨hc1, hc2⟩ := hSw
    obtain ⟨s0, s1, s2, s3⟩ := def_cells hc1
    go_simp
    with_reducible rfl
  simp only [Act.put, List.setIfInBounds_toArray, List.set_cons_zero, List.set_cons_succ]
  refine take_to (i := 1) (d := 16) (v := ?_) rfl rfl (by kernel_rfl) (by kernel_rfl) (by kernel_rfl) (fun _ _ _ h => h) (Or.inl ⟨by rfl, ?_⟩) (by assumption) ?_
  rotate_left 1
  . intro W hSw
    obtain ⟨hc1, hc2⟩ := hSw
    obtain ⟨s0, s1, s2, s3⟩ := def_cells hc1
    go_simp
    with_reducible rfl
  simp only [Act.put, List.setIfInBounds_toArray, List.set_cons_zero, List.set_cons_succ]
  refine take_to (i := 2) (d := 17) (v := ?_) rfl rfl (by kernel_rfl) (by kernel_rfl) (by kernel_rfl) (fun _ _ _ h => h) (Or.inl ⟨by rfl, ?_⟩) (by assumption) ?_
  rotate_left 1
  . intro W hSw
    obtain ⟨hc1, hc2⟩ := hSw
    obtain ⟨s0, s1, s2, s3⟩ := def_cells hc1
    go_simp
    with_reducible rfl
  simp only [Act.put, List.setIfInBounds_toArray, List.set_cons_zero, List.set_cons_succ]
  refine wpAnyH_ready (rs := [3]) (by kernel_rfl) (by simp) ?_
  refine AllReadyH.cons (o := { dst := some 18, op := Op.call { callee := Callee.value (Operand.func 44), args := #[Operand.tmp 17], argTypes := #[22] }, type := 25, pos := "layers.go:55", after := #[{ on := 2, ground := Ground.data }], guard := none }) rfl (fun K hK => ?_) AllReadyH.nil
  go_simp
  go_at_call 44
  refine (HSo.out _ hHeld.2).mono ?_
  rintro e w3 ⟨gs, rfl, hNs, hb3⟩
  have hB3 := Below.trans hHeld.2 (hb3.mono hHeld.2.size)
  have hm3 := (hb3.block _ (Array.getElem?_eq_some_iff.1 hHeld.1).1).trans hHeld.1
  have HZ3 := hide ((hb3.block _ (Array.getElem?_eq_some_iff.1 HZ2.out).1).trans HZ2.out)
  have c4 := HPi.out w3 hB3 (some ⟨gs, 0, none⟩) n hNs
  go_wp2_with fail
  refine hK.out _ _ (show (fun V : World => V.heap[b1]? = some (.cells #[.int .i64 q, .int .i64 b, .slice ao n k] 24 (0, 0)) /\ Below w.heap.size w V) w3 from ⟨hm3, hB3⟩) (fun hHeld => ?_)
  clear hK K
  try simp only [Act.put, List.setIfInBounds_toArray, List.set_cons_zero, List.set_cons_succ]
  refine wpAnyH_ready (rs := [4]) (by kernel_rfl) (by simp) ?_
  refine AllReadyH.cons (o := { dst := some 19, op := Op.call { callee := Callee.value (Operand.func 43), args := #[Operand.tmp 15, Operand.tmp 18], argTypes := #[24, 25] }, type := 24, pos := "layers.go:55", after := #[{ on := 0, ground := Ground.data }, { on := 3, ground := Ground.data }, { on := 3, ground := Ground.chain }], guard := none }) rfl (fun K hK => ?_) AllReadyH.nil
  go_simp
  go_at_call 43
  refine Calls.mono c4 ?_
  rintro e w4 ⟨bo, jj, rfl, hO4, hb4⟩
  have hB4 : Below w.heap.size w w4 := hB3.trans (hb4.mono hB3.size)
  have hm4 := (hb4.block _ (Array.getElem?_eq_some_iff.1 hm3).1).trans hm3
  have HZ4 := hide ((hb4.block _ (Array.getElem?_eq_some_iff.1 HZ3.out).1).trans HZ3.out)
  have HO4 := hide hO4
  go_wp2_with fail
  refine hK.out _ _ (show (fun V : World => V.heap[b1]? = some (.cells #[.int .i64 q, .int .i64 b, .slice ao n k] 24 (0, 0)) /\ Below w.heap.size w V) w4 from ⟨hm4, hB4⟩) (fun hHeld => ?_)
  clear hK K c4 hO4
  try simp only [Act.put, List.setIfInBounds_toArray, List.set_cons_zero, List.set_cons_succ]
  refine wpAnyH_ready (rs := [5]) (by kernel_rfl) (by simp) ?_
  refine AllReadyH.cons (o := { dst := none, op := Op.store 24 (Operand.tmp 2) (Operand.tmp 19), type := 0, pos := "layers.go:55", after := #[{ on := 4, ground := Ground.data }, { on := 4, ground := Ground.chain }, { on := 0, ground := Ground.phase }, { on := 1, ground := Ground.phase }, { on := 2, ground := Ground.phase }, { on := 3, ground := Ground.phase }, { on := 4, ground := Ground.phase }], guard := none }) rfl (fun K hK => ?_) AllReadyH.nil
  rw [if_pos (by rfl)]
  refine wp_store_row _ _ _ rfl _ _ (by rfl) (by rfl) _ _ HZ4.out (by exact infoC3) (by rfl) (by simp [Value.oneCell']) ?_
  refine hK.out _ _ (show (fun V : World => V.heap[b1]? = some (.cells #[.int .i64 q, .int .i64 b, .slice ao n k] 24 (0, 0)) /\ Below w.heap.size w V) _ from ⟨(setRow_other _ _ _ _ (by omega)).trans hm4, Below.row hB4 _ _ (by omega)⟩) (fun hHeld => ?_)
  clear hK K
  refine take_to (i := 6) (d := 3) (v := ?_) rfl rfl (by kernel_rfl) (by kernel_rfl) (by kernel_rfl) (fun _ _ _ h => h) (Or.inl ⟨by rfl, ?_⟩) (by assumption) ?_
  rotate_left 1
  . intro W hSw
    obtain ⟨hc1, hc2⟩ := hSw
    obtain ⟨s0, s1, s2, s3⟩ := def_cells hc1
    go_simp
    with_reducible rfl
  simp only [Act.put, List.setIfInBounds_toArray, List.set_cons_zero, List.set_cons_succ]
  refine wpAnyH_done (by kernel_rfl) ?_ _
  go_wp2_with fail
  refine bodyPost_ret (res_ct rfl _ _ b2 _ _ _ (.int .i64 0) (by rfl) (by rfl) (setRow_heap _ _ _ _ _ _ HZ4.out) Tryd.underlying24 rfl (by exact infoC3)) rfl ?_
  refine ⟨bo, jj, rfl, ?_, Below.row hB4 _ _ (by omega)⟩
  exact (HO4.out.base hB3.size).row HZ4.out (by decide) (by decide) _
theorem wInts (a b : Option Addr) (ca cb : Nat) (l m : List Int) (hl : l.length <= 1000000000000000) (w : World) (hA : Ns w a l) (hB : Ns w b m) : Calls Tryd.prog 18 #[.slice a l.length ca, .slice b m.length cb] w fun e w' => e = .returned (.bool (decide (l = m))) /\ Below w.heap.size w w' := by
  by_cases hlm : l.length = m.length
  . have HA := hide hA
    have HB := hide hB
    obtain ⟨n, hn⟩ : ∃ n, l.length = n := ⟨_, rfl⟩
    have HL := hide hn
    have HM : Hid (m.length = n) := hide (by omega)
    obtain ⟨R, hR⟩ : ∃ R, decide (l = m) = R := ⟨_, rfl⟩
    have HR := hide hR
    rw [← hlm, hn, hR]
    rw [hn] at hl
    clear hA hB hn hlm hR
    go_enter Tryd.func18, Tryd.ntmps18
    go_wp2_with fail
    go_loopw [5] (fun vi wr => ∃ i : Nat, vi = .int .i64 (i : Int) /\ i <= n /\ Hid (l.take i = m.take i) /\ Below w.heap.size w wr) (fun vi _ => n - (Go.RowKit.intOf vi).toNat)
    case atStart => exact ⟨0, rfl, Nat.zero_le _, hide rfl, Below.refl _ _⟩
    case round =>
      obtain ⟨i, rfl, hi, HS, hb⟩ := hrel
      by_cases h : i < n
      . have hd : decide ((i : Int) < (n : Int)) = true := decide_eq_true (by omega)
        obtain ⟨x, hx⟩ : ∃ x, l[i]? = some x := ⟨_, List.getElem?_eq_getElem (by rw [HL.out]; exact h)⟩
        obtain ⟨y, hy⟩ : ∃ y, m[i]? = some y := ⟨_, List.getElem?_eq_getElem (by rw [HM.out]; exact h)⟩
        obtain ⟨g, off, rfl, hg⟩ := (HA.out.below hb).resolve_left (fun e => by rw [e] at hx; simp at hx)
        obtain ⟨g2, off2, rfl, hg2⟩ := (HB.out.below hb).resolve_left (fun e => by rw [e] at hy; simp at hy)
        have k1 := hg i x hx
        have k2 := hg2 i y hy
        by_cases hxy : x = y
        . subst hxy
          have HS2 := hide (take_eq_succ HS.out hx hy)
          clear hg hg2 hx hy HS
          go_wp2_with fail
          go_region
          go_wp2_with fail
          go_roundw
          case rel => exact ⟨i + 1, by go_num, by omega, HS2, hb.drew⟩
          case measure => simp [Go.RowKit.intOf]; omega
        . have e1 : (x != y) = true := by simpa using hxy
          have e2 : (x == y) = false := by simpa using hxy
          have HN : Hid (R = false) := hide (by
            rw [← HR.out]
            refine decide_eq_false fun e => ?_
            rw [e, hy] at hx
            cases hx
            exact hxy rfl)
          clear hg hg2 hx hy HS
          go_wp2_with fail
          go_region
          go_wp2_with fail
          go_ret
          exact ⟨by rw [HN.out]; rfl, hb.drew⟩
      . obtain rfl : n = i := by omega
        have HN : Hid (R = true) := hide (by
          rw [← HR.out]
          refine decide_eq_true (eq_of_take (by rw [HL.out, HM.out]) ?_)
          rw [HL.out]
          exact HS.out)
        clear HS
        go_wp2_with fail
        go_ret
        exact ⟨by rw [HN.out]; rfl, hb⟩
  . have e1 : ((l.length : Int) != (m.length : Int)) = true := by simp; omega
    have e2 : ((l.length : Int) == (m.length : Int)) = false := by simp; omega
    have hR : decide (l = m) = false := decide_eq_false fun e => hlm (by rw [e])
    rw [hR]
    generalize l.length = n at *
    generalize m.length = n2 at *
    clear hA hB
    go_enter Tryd.func18, Tryd.ntmps18
    go_wp2_with fail
    go_ret
    exact ⟨rfl, Below.refl _ _⟩
end Go.Proofs.YthndpbjplcphpaaDoor.Lay
