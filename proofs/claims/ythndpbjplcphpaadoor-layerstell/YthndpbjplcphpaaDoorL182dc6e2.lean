import Derived.Test.YthndpbjplcphpaaDoorL37eaf0d4
import Derived.Test.YthndpbjplcphpaaDoorL051034f7
set_option maxRecDepth 100000
set_option maxHeartbeats 8000000
namespace Go.Proofs.YthndpbjplcphpaaDoor.Lay
open Go.RowKit Go.Shelf Go.Proofs.YthndpbjplcphpaaDoor.Oct Go.Proofs.YthndpbjplcphpaaDoor.Tok Go.Proofs.YthndpbjplcphpaaDoor.Gt Go.Proofs.YthndpbjplcphpaaDoor.Cir
def okC (c : Circ) : Bool := (chkC c).2 == 0
def erC (c : Circ) : Int := if okC c then 0 else 80
def rwC (c : Circ) (f : Nat -> Int) : List Int := if okC c then (List.range c.ops.length).map f else []
theorem ok_wk {c : Circ} (h : okC c = true) : (∀ o ∈ c.ops, Wk o /\ 0 < o.qs.length) /\ c.ops.length <= 4096 := by
  have h0 : (chkC c).2 = 0 := by unfold okC at h; simpa using h
  obtain ⟨h1, h2, h3, h4, h5, h6⟩ := chkC_ok h0
  exact ⟨fun o ho => ⟨may_wk h1 h2 h4 (h6 o ho), may_pos (h6 o ho)⟩, h5⟩
theorem rng_at (f : Nat -> Int) (n j : Nat) (h : j < n) : ((List.range n).map f)[j]? = some (f j) := by
  rw [List.getElem?_map, List.getElem?_range h]; rfl
theorem rng_snoc (f : Nat -> Int) (n : Nat) : (List.range (n + 1)).map f = (List.range n).map f ++ [f n] := by
  rw [List.range_succ, List.map_append]; rfl
theorem own_below {w w' : World} {B c n : Nat} {ao : Option Addr} {xs : List Value} (h : w.ownsRow B 3 1 (.slice ao n c) n xs) (hb : Below w.heap.size w w') : w'.ownsRow B 3 1 (.slice ao n c) n xs := own_of_block h fun k hk => hb.block k (own_lt h k hk).2
theorem gr_congr {f g : Nat -> Int} : ∀ n, (∀ j, j < n -> f j = g j) -> gr f n = gr g n
  | 0, _ => rfl
  | n + 1, h => by rw [gr, gr, gr_congr n (fun j hj => h j (by omega)), h n (by omega)]
def EPost (w : World) (l : List Int) (er : Int) (e : Ending) (w' : World) : Prop := ∃ ao cc, e = .returned (.tuple #[.slice ao l.length cc, .int .i64 er]) /\ Ns w' ao l /\ l.length <= 4096 /\ Below w.heap.size w w'
theorem dEarly (c : Circ) (f : Nat -> Int) (hE : EV c.ops f) (ao : Option Addr) (k : Nat) (w : World) (hC : Ci w c ao k) : Calls Tryd.prog 8 #[cV c ao k] w (EPost w (rwC c f) (erC c)) := by
  have c1 := fun V (h : Below w.heap.size w V) => eMay c ao k V (hC.below h)
  have HT : Hid (okC c = true -> ∀ i j, i < c.ops.length -> j < c.ops.length -> ∀ V, Below w.heap.size w V -> Calls Tryd.prog 31 #[cV c ao k, .int .i64 (i : Int), .int .i64 (j : Int)] V fun e w' => e = .returned (.bool (tc (oa c.ops i) (oa c.ops j))) /\ Below V.heap.size V w') := hide fun h i j hi hj V hb => dTouch c ao k i j hi hj (ok_wk h).1 V (hC.below hb)
  have HBR : Hid (∀ i, i < c.ops.length -> ∀ V, Below w.heap.size w V -> Calls Tryd.prog 32 #[cV c ao k, .int .i64 (i : Int)] V fun e w' => e = .returned (.bool (decide ((oa c.ops i).kind = 4))) /\ Below V.heap.size V w') := hide fun i hi V hb => dBar c ao k i hi V (hC.below hb)
  have hln : okC c = true -> c.ops.length <= 4096 := fun h => (ok_wk h).2
  unfold rwC erC
  rw [show ((chkC c).2 == 0) = okC c from rfl] at c1
  have HE := hide hE
  clear hC hE
  obtain ⟨q, b, ops⟩ := c
  unfold cV at *
  simp only at *
  generalize okC ⟨q, b, ops⟩ = ok at *
  obtain ⟨n, hn⟩ : ∃ n, ops.length = n := ⟨_, rfl⟩
  have HN := hide hn
  rw [hn] at c1 HT HBR hln ⊢
  clear hn
  have hb1 := bnew w (.cells #[.int .i64 q, .int .i64 b, .slice ao n k] 24)
  have hm1 := heap_alloc_new w (.cells #[.int .i64 q, .int .i64 b, .slice ao n k] 24)
  have hsz : w.heap.size < (w.alloc (.cells #[.int .i64 q, .int .i64 b, .slice ao n k] 24)).heap.size := by simp
  go_enter Tryd.func8, Tryd.ntmps8
  go_upto_region 1 with fail
  generalize w.alloc (.cells #[.int .i64 q, .int .i64 b, .slice ao n k] 24) = W1 at *
  have c1' := c1 W1 hb1
  obtain ⟨x0, x1, x2, x3⟩ := def_cells hm1
  cases ok with
  | false =>
    go_wp2_with (go_at_call 27; refine c1'.mono ?_; rintro e w2 ⟨rfl, hb2⟩; have HB2 := hide (hb1.trans (hb2.mono hb1.size)))
    go_ret2
    show EPost w [] 80 _ _
    exact ⟨none, 0, rfl, .inl rfl, by simp, HB2.out⟩
  | true =>
    have hn := hln rfl
    have HT' := hide (HT.out rfl)
    clear hln HT c1
    go_upto_region 3 with (go_at_call 27; refine c1'.mono ?_; rintro e w2 ⟨rfl, hb2⟩; have hB2 := hb1.trans (hb2.mono hb1.size); have hm2 := (hb2.block _ hsz).trans hm1)
    clear hb1 hm1 hb2 c1' x0 x1 x2 x3
    have hws := hB2.size
    go_wp2_with fail
    go_loopw [4, 5, 6, 7] (fun vl vi _ _ wr => ∃ (i : Nat) (al : Option Addr) (cl : Nat), i <= n /\ vi = .int .i64 (i : Int) /\ vl = .slice al i cl /\ Hid (wr.ownsRow w.heap.size 3 1 (.slice al i cl) i (((List.range i).map f).map (Value.int .i64))) /\ Hid (wr.heap[w.heap.size]? = some (.cells #[.int .i64 q, .int .i64 b, .slice ao n k] 24 (0, 0))) /\ Hid (Below w.heap.size w wr)) (fun _ vi _ _ _ => n - (intOf vi).toNat)
    case atStart => exact ⟨0, none, 0, Nat.zero_le _, rfl, rfl, hide (World.ownsRow_nil _ _ _ _), hide hm2, hide hB2⟩
    case round =>
      clear hm2 hB2
      obtain ⟨i, al, cl, hi, rfl, rfl, HO1, HM1, HB1⟩ := hrel
      obtain ⟨x0, x1, x2, x3⟩ := def_cells HM1.out
      by_cases h : i < n
      . have hd : decide ((i : Int) < (n : Int)) = true := decide_eq_true (by omega)
        have hkk : (i : Int) < (n : Int) := by omega
        have hin : i < ops.length := by rw [HN.out]; exact h
        have HFI := hide (HE.out i _ (oa_some hin))
        have hmr := mx_rng HE.out (o := oa ops i) i (by omega)
        have HRG : Hid (∀ j, j <= i -> 0 <= mx ops f (oa ops i) j /\ mx ops f (oa ops i) j <= (j : Int)) := hide fun j hj => mx_rng HE.out j (by omega)
        go_wp2_with fail
        go_loopw [6, 7] (fun vm vj wx => ∃ (j : Nat) (m : Int), j <= i /\ vj = .int .i64 (j : Int) /\ vm = .int .i64 m /\ Hid (m = mx ops f (oa ops i) j) /\ Hid (wx.ownsRow w.heap.size 3 1 (.slice al i cl) i (((List.range i).map f).map (Value.int .i64))) /\ Hid (wx.heap[w.heap.size]? = some (.cells #[.int .i64 q, .int .i64 b, .slice ao n k] 24 (0, 0))) /\ Hid (Below w.heap.size w wx)) (fun _ vj _ => i - (intOf vj).toNat)
        case atStart => exact ⟨0, 0, Nat.zero_le _, rfl, rfl, hide rfl, HO1, HM1, HB1⟩
        case round =>
          clear HO1 HM1 HB1 x0 x1 x2 x3
          obtain ⟨j, m, hj, rfl, rfl, HMX, HO1, HM1, HB1⟩ := hrel
          obtain ⟨x0, x1, x2, x3⟩ := def_cells HM1.out
          by_cases h2 : j < i
          . have hd2 : decide ((j : Int) < (i : Int)) = true := decide_eq_true (by omega)
            have hkk2 : (j : Int) < (i : Int) := by omega
            have c2 := HT'.out i j h (by omega) wr HB1.out
            cases ht : tc (oa ops i) (oa ops j) with
            | false =>
              rw [ht] at c2
              have HMX2 : Hid (m = mx ops f (oa ops i) (j + 1)) := hide (by rw [mx, ht]; exact HMX.out)
              go_wp2_with (go_at_call 31; refine c2.mono ?_; rintro e w3 ⟨rfl, hb3⟩; have HB3 := hide hb3; clear hb3 c2)
              have hb3 := HB3.out
              exact ⟨⟨j + 1, m, by omega, by go_num, rfl, HMX2, hide (own_below HO1.out hb3), hide ((hb3.block _ (Array.getElem?_eq_some_iff.1 HM1.out).1).trans HM1.out), hide (HB1.out.trans (hb3.mono HB1.out.size))⟩, by simp [intOf]; omega⟩
            | true =>
              rw [ht] at c2
              have HMX2 : Hid (max m (f j) = mx ops f (oa ops i) (j + 1)) := hide (by rw [mx, ht, HMX.out]; rfl)
              go_wp2_with (go_at_call 31; refine c2.mono ?_; rintro e w3 ⟨rfl, hb3⟩; have HO3 := hide (own_below HO1.out hb3); obtain ⟨g3, off3, e3, hc3⟩ := ns_cell (own_nsl HO3.out) (rng_at f i j h2); have hl3 := World.block_lt_of_cell? _ _ hc3; subst e3; have HB3 := hide hb3; generalize f j = fj at *; clear hb3 c2)
              have hb3 := HB3.out
              exact ⟨⟨j + 1, _, by omega, by go_num, by split <;> (congr 1; omega), HMX2, HO3, hide ((hb3.block _ (Array.getElem?_eq_some_iff.1 HM1.out).1).trans HM1.out), hide (HB1.out.trans (hb3.mono HB1.out.size))⟩, by simp [intOf]; omega⟩
          . obtain rfl : i = j := by omega
            have hd2 : decide ((i : Int) < (i : Int)) = false := decide_eq_false (by omega)
            have c3 := HBR.out i h wr HB1.out
            rw [← HMX.out] at HFI hmr
            unfold ln at HFI
            by_cases e4 : (oa ops i).kind = 4
            . rw [decide_eq_true e4] at c3
              have HFV : Hid (f i = m) := hide (by rw [HFI.out, if_pos e4]; omega)
              go_wp2_with (first
                | (go_at_call 32; refine c3.mono ?_; rintro e w3 ⟨rfl, hb3⟩; have HO3 := hide (own_below HO1.out hb3); have HB3 := hide hb3; clear hb3 c3)
                | (at_builtin; refine app1_list (w := w3) rfl (.tmp 39) (.tmp 41) rfl HO3.out (Nat.le_trans HB1.out.size HB3.out.size) m (by omega) (by rfl) (by rfl) ?_; intro g6 c6 w6 hown hgr hat; have HO6 := hide hown; have HG6 := hide hgr; clear hown hgr hat))
              have hb3 := HB3.out
              have hB3 : Below w.heap.size w w3 := HB1.out.trans (hb3.mono HB1.out.size)
              have hm3 := (hb3.block _ (Array.getElem?_eq_some_iff.1 HM1.out).1).trans HM1.out
              exact ⟨⟨i + 1, some ⟨g6, 0, none⟩, c6, by omega, by go_num, rfl, hide (by rw [rng_snoc, HFV.out]; exact HO6.out), hide ((HG6.out.block _ (Array.getElem?_eq_some_iff.1 hm3).1 (fun e => own_ne HO3.out hm3 (by decide) e.symm)).trans hm3), hide (hB3.grown HG6.out hB3.size (fun x hx => (own_lt HO3.out x hx).1))⟩, by simp [intOf]; omega⟩
            . rw [decide_eq_false e4] at c3
              have HFV : Hid (f i = m + 1) := hide (by rw [HFI.out, if_neg e4])
              have hwm : IntKind.i64.wrap (m + 1) = m + 1 := wrapI _ (by omega) (by omega)
              go_wp2_with (first
                | (go_at_call 32; refine c3.mono ?_; rintro e w3 ⟨rfl, hb3⟩; have HO3 := hide (own_below HO1.out hb3); have HB3 := hide hb3; clear hb3 c3)
                | (at_builtin; refine app1_list (w := w3) rfl (.tmp 39) (.tmp 41) rfl HO3.out (Nat.le_trans HB1.out.size HB3.out.size) (m + 1) (by omega) (by rfl) (by rfl) ?_; intro g6 c6 w6 hown hgr hat; have HO6 := hide hown; have HG6 := hide hgr; clear hown hgr hat))
              have hb3 := HB3.out
              have hB3 : Below w.heap.size w w3 := HB1.out.trans (hb3.mono HB1.out.size)
              have hm3 := (hb3.block _ (Array.getElem?_eq_some_iff.1 HM1.out).1).trans HM1.out
              exact ⟨⟨i + 1, some ⟨g6, 0, none⟩, c6, by omega, by go_num, rfl, hide (by rw [rng_snoc, HFV.out]; exact HO6.out), hide ((HG6.out.block _ (Array.getElem?_eq_some_iff.1 hm3).1 (fun e => own_ne HO3.out hm3 (by decide) e.symm)).trans hm3), hide (hB3.grown HG6.out hB3.size (fun x hx => (own_lt HO3.out x hx).1))⟩, by simp [intOf]; omega⟩
      . obtain rfl : n = i := by omega
        have hd : decide ((n : Int) < (n : Int)) = false := decide_eq_false (by omega)
        go_wp2_with fail
        go_ret2
        show EPost w ((List.range n).map f) 0 _ _
        have hlr : ((List.range n).map f).length = n := by simp
        exact ⟨al, cl, by rw [hlr]; rfl, own_nsl HO1.out, by rw [hlr]; exact hn, HB1.out⟩
theorem dDepth (c : Circ) (f : Nat -> Int) (hE : EV c.ops f) (ao : Option Addr) (k : Nat) (w : World) (hC : Ci w c ao k) : Calls Tryd.prog 17 #[cV c ao k] w fun e w' => e = .returned (.tuple #[.int .i64 (if okC c then gr f c.ops.length else 0), .int .i64 (erC c)]) /\ Below w.heap.size w w' := by
  have c1 := fun V (h : Below w.heap.size w V) => dEarly c f hE ao k V (hC.below h)
  have HG : Hid (∀ i, (rwC c f).length = i -> gr (fun j => (rwC c f).getD j 0) i = if okC c then gr f c.ops.length else 0) := hide (fun i hi => by
    unfold rwC at *
    split at hi
    . rename_i h
      rw [if_pos h, if_pos h]
      rw [List.length_map, List.length_range] at hi
      subst hi
      exact gr_congr _ (fun j hj => by simp [List.getD, List.getElem?_range hj])
    . rename_i h
      rw [if_neg h, if_neg h]
      simp at hi
      subst hi
      rfl)
  have HR : Hid (∀ (j : Nat) (z : Int), (rwC c f)[j]? = some z -> 0 <= z /\ z <= 100000) := hide (fun j z hz => by
    unfold rwC at hz
    split at hz
    . rename_i h
      have hj : j < c.ops.length := by have := (List.getElem?_eq_some_iff.1 hz).1; simpa using this
      rw [rng_at f _ j hj] at hz
      cases hz
      have := ev_rng hE j hj
      have := (ok_wk h).2
      omega
    . simp at hz)
  clear hC hE
  unfold EPost at c1
  generalize (if okC c then gr f c.ops.length else 0) = G at *
  generalize erC c = er at *
  generalize rwC c f = l at *
  obtain ⟨q, b, ops⟩ := c
  unfold cV at *
  simp only at *
  generalize ops.length = n at *
  have hb1 := bnew w (.cells #[.int .i64 q, .int .i64 b, .slice ao n k] 24)
  have c1' := c1 _ hb1
  clear c1
  obtain ⟨N, hN⟩ : ∃ N, l.length = N := ⟨_, rfl⟩
  have HN := hide hN
  simp only [hN] at c1' HG
  clear hN
  go_enter Tryd.func17, Tryd.ntmps17
  go_wp2_with (go_at_call 8; refine c1'.mono ?_; rintro e w2 ⟨al, cl, rfl, hNs, hl, hb2⟩; have HNs := hide hNs; have HB2 := hide (hb1.trans (hb2.mono hb1.size)); clear hNs hb2 c1')
  go_loopw [6, 7] (fun vm vi wr => wr = w2 /\ ∃ (i : Nat) (m : Int), i <= N /\ vi = .int .i64 (i : Int) /\ vm = .int .i64 m /\ Hid (m = gr (fun j => l.getD j 0) i)) (fun _ vi _ => N - (intOf vi).toNat)
  case atStart => exact ⟨rfl, 0, 0, Nat.zero_le _, rfl, rfl, hide rfl⟩
  case round =>
    obtain ⟨rfl, i, m, hi, rfl, rfl, HM⟩ := hrel
    by_cases h : i < N
    . have hd : decide ((i : Int) < (N : Int)) = true := decide_eq_true (by omega)
      have hkk : (i : Int) < (N : Int) := by omega
      obtain ⟨z, hz⟩ : ∃ z, l[i]? = some z := ⟨_, List.getElem?_eq_getElem (by rw [HN.out]; exact h)⟩
      obtain ⟨g1, off1, rfl, hc⟩ := ns_cell HNs.out hz
      have hlc := World.block_lt_of_cell? _ _ hc
      have HM2 : Hid (max m z = gr (fun j => l.getD j 0) (i + 1)) := hide (by rw [gr, HM.out]; simp [List.getD, hz])
      clear hz
      go_wp2_with fail
      exact ⟨⟨trivial, i + 1, _, by omega, by go_num, by split <;> (congr 1; omega), HM2⟩, by simp [intOf]; omega⟩
    . obtain rfl : N = i := by omega
      have hd : decide ((N : Int) < (N : Int)) = false := decide_eq_false (by omega)
      have HGG : Hid (m = G) := hide (by rw [HM.out]; exact HG.out N rfl)
      go_wp2_with fail
      go_ret2
      rw [← HGG.out]
      exact ⟨rfl, HB2.out⟩
theorem rk_nsr {w : World} {g n : Nat} {f : Nat -> Int} (h : Rk w g 3 n (fun j => .int .i64 (f j))) : Ns w (some ⟨g, 0, none⟩) ((List.range n).map f) :=
  .inr ⟨g, 0, rfl, fun j z hz => by
    have hj : j < n := by have := (List.getElem?_eq_some_iff.1 hz).1; simpa using this
    rw [rng_at f n j hj] at hz
    cases hz
    rw [Nat.zero_add]
    exact h.cell j hj⟩
theorem mn_step {ops : List COp} {f : Nat -> Int} {d : Int} {i t : Nat} {o : COp} : mn ops f d i o (t + 1) = if tc o (oa ops (i + 1 + t)) then min (mn ops f d i o t) (f (i + 1 + t) - ln (oa ops (i + 1 + t))) else mn ops f d i o t := rfl
theorem dLate (c : Circ) (f fl : Nat -> Int) (hE : EV c.ops f) (hL : LV c.ops (gr f c.ops.length) fl) (ao : Option Addr) (k : Nat) (w : World) (hC : Ci w c ao k) : Calls Tryd.prog 11 #[cV c ao k] w (EPost w (rwC c fl) (erC c)) := by
  have c1 := fun V (h : Below w.heap.size w V) => dDepth c f hE ao k V (hC.below h)
  have HT : Hid (okC c = true -> ∀ i j, i < c.ops.length -> j < c.ops.length -> ∀ V, Below w.heap.size w V -> Calls Tryd.prog 31 #[cV c ao k, .int .i64 (i : Int), .int .i64 (j : Int)] V fun e w' => e = .returned (.bool (tc (oa c.ops i) (oa c.ops j))) /\ Below V.heap.size V w') := hide fun h i j hi hj V hb => dTouch c ao k i j hi hj (ok_wk h).1 V (hC.below hb)
  have HBR : Hid (∀ i, i < c.ops.length -> ∀ V, Below w.heap.size w V -> Calls Tryd.prog 32 #[cV c ao k, .int .i64 (i : Int)] V fun e w' => e = .returned (.bool (decide ((oa c.ops i).kind = 4))) /\ Below V.heap.size V w') := hide fun i hi V hb => dBar c ao k i hi V (hC.below hb)
  have hln : okC c = true -> c.ops.length <= 4096 := fun h => (ok_wk h).2
  have hdr := gr_rng (f := f) c.ops.length (ev_rng hE)
  unfold rwC erC
  unfold erC at c1
  have HLV := hide hL
  clear hC hE hL
  obtain ⟨q, b, ops⟩ := c
  unfold cV at *
  simp only at *
  generalize okC ⟨q, b, ops⟩ = ok at *
  generalize gr f ops.length = d at *
  obtain ⟨n, hn⟩ : ∃ n, ops.length = n := ⟨_, rfl⟩
  have HN := hide hn
  rw [hn] at c1 HT HBR hln hdr ⊢
  clear hn
  have hb1 := bnew w (.cells #[.int .i64 q, .int .i64 b, .slice ao n k] 24)
  have hm1 := heap_alloc_new w (.cells #[.int .i64 q, .int .i64 b, .slice ao n k] 24)
  have hsz : w.heap.size < (w.alloc (.cells #[.int .i64 q, .int .i64 b, .slice ao n k] 24)).heap.size := by simp
  go_enter Tryd.func11, Tryd.ntmps11
  go_upto_region 1 with fail
  generalize w.alloc (.cells #[.int .i64 q, .int .i64 b, .slice ao n k] 24) = W1 at *
  have c1' := c1 W1 hb1
  obtain ⟨x0, x1, x2, x3⟩ := def_cells hm1
  cases ok with
  | false =>
    simp only [Bool.false_eq_true, if_false] at c1'
    go_wp2_with (go_at_call 17; refine c1'.mono ?_; rintro e w2 ⟨rfl, hb2⟩; have HB2 := hide (hb1.trans (hb2.mono hb1.size)))
    go_ret2
    show EPost w [] 80 _ _
    exact ⟨none, 0, rfl, .inl rfl, by simp, HB2.out⟩
  | true =>
    simp only [if_true] at c1'
    have hn := hln rfl
    have HT' := hide (HT.out rfl)
    clear hln HT c1
    have mq := fun W => make19 n (by omega) W
    have hwn : IntKind.i64.wrap ((n : Int) - 1) = (n : Int) - 1 := wrapI _ (by omega) (by omega)
    go_upto_region 2 with (go_at_call 17; refine c1'.mono ?_; rintro e w2 ⟨rfl, hb2⟩; have hB2 := hb1.trans (hb2.mono hb1.size); have hm2 := (hb2.block _ hsz).trans hm1; obtain ⟨y0, y1, y2, y3⟩ := def_cells hm2)
    clear hb1 hm1 c1' x0 x1 x2 x3
    go_wp2_with fail
    obtain ⟨gR, hgR0⟩ : ∃ gR, gR = w2.heap.size := ⟨_, rfl⟩
    rw [← hgR0]
    have hR3 : Rk (w2.alloc (.cells (madeCells #[.int .i64 0] n) 3)) gR 3 n (fun _ => .int .i64 0) := made19 w2 n gR hgR0.symm
    have hm3 := (Below.heap_alloc w2 (.cells (madeCells #[.int .i64 0] n) 3) _ (Array.getElem?_eq_some_iff.1 hm2).1).trans hm2
    have hB3 : Below w.heap.size w (w2.alloc (.cells (madeCells #[.int .i64 0] n) 3)) := hB2.alloc hB2.size _
    have hgw : w.heap.size < gR := by have := hb2.size; omega
    have hgR : w.heap.size <= gR := by omega
    generalize w2.alloc (.cells (madeCells #[.int .i64 0] n) 3) = W3 at *
    clear hgR0 hm2 hB2 hb2 y0 y1 y2 y3 mq
    go_loopw [7, 8] (fun vi _ wr => ∃ m : Nat, m <= n /\ vi = .int .i64 ((n : Int) - 1 - (m : Int)) /\ Hid (Rk wr gR 3 n (fun j => .int .i64 (if n - m <= j then fl j else 0))) /\ Hid (wr.heap[w.heap.size]? = some (.cells #[.int .i64 q, .int .i64 b, .slice ao n k] 24 (0, 0))) /\ Hid (Below w.heap.size w wr)) (fun vi _ _ => ((intOf vi) + 1).toNat)
    case atStart => exact ⟨0, Nat.zero_le _, by simp, hide (hR3.congr fun j hj => by rw [if_neg (by omega)]), hide hm3, hide hB3⟩
    case round =>
      clear hR3 hm3 hB3
      obtain ⟨m, hm, rfl, HR1, HM1, HB1⟩ := hrel
      by_cases h : m < n
      . obtain ⟨i, hi⟩ : ∃ i, i + m + 1 = n := ⟨n - 1 - m, by omega⟩
        have hiz : (n : Int) - 1 - (m : Int) = (i : Int) := by omega
        rw [hiz]
        have hin : i < ops.length := by rw [HN.out]; omega
        have hin2 : i < n := by omega
        have hd : decide ((i : Int) ≥ 0) = true := decide_eq_true (by omega)
        have hkk : (i : Int) < (n : Int) := by omega
        have hw1 : IntKind.i64.wrap ((i : Int) + 1) = (i : Int) + 1 := wrapI _ (by omega) (by omega)
        have hw2 : IntKind.i64.wrap ((i : Int) - 1) = (i : Int) - 1 := wrapI _ (by omega) (by omega)
        have HFI : Hid (fl i = mn ops fl d i (oa ops i) m) := hide (by rw [HLV.out i _ (oa_some hin), HN.out, show n - 1 - i = m by omega])
        have r0 := HR1.out.cell i hin2
        have r1 := HR1.out.frozen i
        have r2 := HR1.out.lt
        have HR2 : Hid (Rk (wr.setCell ⟨gR, i, none⟩ (.int .i64 d)) gR 3 n (fun j => .int .i64 (if j = i then mn ops fl d i (oa ops i) 0 else if n - m <= j then fl j else 0))) := hide ((HR1.out.set i _).congr fun j hj => by
          by_cases e : j = i
          . rw [if_pos e, if_pos e, mn]
          . rw [if_neg e, if_neg e])
        have HM2 : Hid ((wr.setCell ⟨gR, i, none⟩ (.int .i64 d)).heap[w.heap.size]? = some (.cells #[.int .i64 q, .int .i64 b, .slice ao n k] 24 (0, 0))) := hide ((Below.heap_setCell _ _ _ _ (by simp; omega)).trans HM1.out)
        have HB2 : Hid (Below w.heap.size w (wr.setCell ⟨gR, i, none⟩ (.int .i64 d))) := hide (HB1.out.setCell (p := ⟨gR, i, none⟩) hgR _)
        have HHI := hide hi
        have hi3 : i + m + 1 <= n /\ n <= i + m + 1 := ⟨by omega, by omega⟩
        clear hi hiz HR1 HM1 HB1
        go_wp2_with fail
        go_loopw [8] (fun vk wx => ∃ t : Nat, t <= m /\ vk = .int .i64 ((i : Int) + 1 + (t : Int)) /\ Hid (Rk wx gR 3 n (fun j => .int .i64 (if j = i then mn ops fl d i (oa ops i) t else if n - m <= j then fl j else 0))) /\ Hid (wx.heap[w.heap.size]? = some (.cells #[.int .i64 q, .int .i64 b, .slice ao n k] 24 (0, 0))) /\ Hid (Below w.heap.size w wx)) (fun vk _ => n - (intOf vk).toNat)
        case atStart => exact ⟨0, Nat.zero_le _, by simp, HR2, HM2, HB2⟩
        case round =>
          clear HR2 HM2 HB2 r0 r1 r2
          obtain ⟨t, ht, rfl, HR2, HM2, HB2⟩ := hrel
          obtain ⟨x0, x1, x2, x3⟩ := def_cells HM2.out
          by_cases h2 : t < m
          . have hd2 : decide ((i : Int) + 1 + (t : Int) < (n : Int)) = true := decide_eq_true (by omega)
            have hkk2 : (i : Int) + 1 + (t : Int) < (n : Int) := by omega
            have hw3 : IntKind.i64.wrap ((i : Int) + 1 + (t : Int) + 1) = (i : Int) + 1 + (t : Int) + 1 := wrapI _ (by omega) (by omega)
            have hkn : i + 1 + t < n := by omega
            have hk0 : (0 : Int) <= (i : Int) + 1 + (t : Int) := by omega
            have hcast : ((i + 1 + t : Nat) : Int) = (i : Int) + 1 + (t : Int) := by omega
            have c2 := HT'.out i (i + 1 + t) hin2 hkn wr HB2.out
            rw [hcast] at c2
            have HMN0 := hide (mn_step (ops := ops) (f := fl) (d := d) (i := i) (t := t) (o := oa ops i))
            cases htc : tc (oa ops i) (oa ops (i + 1 + t)) with
            | false =>
              rw [htc] at c2
              have HRn : Hid (∀ V, Rk V gR 3 n (fun j => .int .i64 (if j = i then mn ops fl d i (oa ops i) t else if n - m <= j then fl j else 0)) -> Rk V gR 3 n (fun j => .int .i64 (if j = i then mn ops fl d i (oa ops i) (t + 1) else if n - m <= j then fl j else 0))) := hide fun V h => by rw [HMN0.out, htc]; exact h
              go_wp2_with (go_at_call 31; refine c2.mono ?_; rintro e w3 ⟨rfl, hb3⟩; have HB3 := hide hb3; clear hb3 c2)
              have hb3 := HB3.out
              exact ⟨⟨t + 1, by omega, by simp; omega, hide (HRn.out _ (HR2.out.below hb3)), hide ((hb3.block _ (Array.getElem?_eq_some_iff.1 HM2.out).1).trans HM2.out), hide (HB2.out.trans (hb3.mono HB2.out.size))⟩, by simp [intOf]; omega⟩
            | true =>
              rw [htc] at c2
              have c3 := fun V hb => HBR.out (i + 1 + t) hkn V hb
              simp only [hcast] at c3
              obtain ⟨C14, H14⟩ : ∃ C14 : Code, Hid (C14 = (Code.region 14 #[{ dst := some 48, op := Op.move (Operand.tmp 6), type := 25, pos := "ref.go:92", after := #[], guard := none }, { dst := some 49, op := Op.move (Operand.tmp 7), type := 3, pos := "ref.go:92", after := #[], guard := none }, { dst := some 50, op := Op.move (Operand.tmp 6), type := 25, pos := "ref.go:92", after := #[], guard := none }, { dst := some 51, op := Op.move (Operand.tmp 7), type := 3, pos := "ref.go:92", after := #[], guard := none }, { dst := some 52, op := Op.indexAddr 25 (Operand.tmp 50) (Operand.tmp 51), type := 0, pos := "ref.go:92", after := #[{ on := 2, ground := Ground.data }, { on := 3, ground := Ground.data }], guard := none }, { dst := some 53, op := Op.load 3 (Operand.tmp 52), type := 3, pos := "ref.go:92", after := #[{ on := 4, ground := Ground.data }], guard := none }, { dst := some 54, op := Op.move (Operand.tmp 6), type := 25, pos := "ref.go:92", after := #[], guard := none }, { dst := some 55, op := Op.move (Operand.tmp 8), type := 3, pos := "ref.go:92", after := #[], guard := none }, { dst := some 56, op := Op.indexAddr 25 (Operand.tmp 54) (Operand.tmp 55), type := 0, pos := "ref.go:92", after := #[{ on := 6, ground := Ground.data }, { on := 7, ground := Ground.data }], guard := none }, { dst := some 57, op := Op.load 3 (Operand.tmp 56), type := 3, pos := "ref.go:92", after := #[{ on := 8, ground := Ground.data }], guard := none }, { dst := some 58, op := Op.call { callee := Callee.builtin Builtin.min, args := #[Operand.tmp 53, Operand.tmp 57], argTypes := #[3, 3] }, type := 3, pos := "ref.go:92", after := #[{ on := 5, ground := Ground.data }, { on := 9, ground := Ground.data }], guard := none }, { dst := some 59, op := Op.indexAddr 25 (Operand.tmp 48) (Operand.tmp 49), type := 0, pos := "ref.go:92", after := #[{ on := 0, ground := Ground.data }, { on := 1, ground := Ground.data }, { on := 0, ground := Ground.phase }, { on := 1, ground := Ground.phase }, { on := 2, ground := Ground.phase }, { on := 3, ground := Ground.phase }, { on := 4, ground := Ground.phase }, { on := 5, ground := Ground.phase }, { on := 6, ground := Ground.phase }, { on := 7, ground := Ground.phase }, { on := 8, ground := Ground.phase }, { on := 9, ground := Ground.phase }, { on := 10, ground := Ground.phase }], guard := none }, { dst := none, op := Op.store 3 (Operand.tmp 59) (Operand.tmp 58), type := 0, pos := "ref.go:92", after := #[{ on := 11, ground := Ground.data }, { on := 10, ground := Ground.data }, { on := 0, ground := Ground.phase }, { on := 1, ground := Ground.phase }, { on := 2, ground := Ground.phase }, { on := 3, ground := Ground.phase }, { on := 4, ground := Ground.phase }, { on := 5, ground := Ground.phase }, { on := 6, ground := Ground.phase }, { on := 7, ground := Ground.phase }, { on := 8, ground := Ground.phase }, { on := 9, ground := Ground.phase }, { on := 10, ground := Ground.phase }], guard := none }] true)) := ⟨_, hide rfl⟩
              obtain ⟨C15, H15⟩ : ∃ C15 : Code, Hid (C15 = (Code.region 15 #[{ dst := some 60, op := Op.move (Operand.tmp 6), type := 25, pos := "ref.go:94", after := #[], guard := none }, { dst := some 61, op := Op.move (Operand.tmp 7), type := 3, pos := "ref.go:94", after := #[], guard := none }, { dst := some 62, op := Op.move (Operand.tmp 6), type := 25, pos := "ref.go:94", after := #[], guard := none }, { dst := some 63, op := Op.move (Operand.tmp 7), type := 3, pos := "ref.go:94", after := #[], guard := none }, { dst := some 64, op := Op.indexAddr 25 (Operand.tmp 62) (Operand.tmp 63), type := 0, pos := "ref.go:94", after := #[{ on := 2, ground := Ground.data }, { on := 3, ground := Ground.data }], guard := none }, { dst := some 65, op := Op.load 3 (Operand.tmp 64), type := 3, pos := "ref.go:94", after := #[{ on := 4, ground := Ground.data }], guard := none }, { dst := some 66, op := Op.move (Operand.tmp 6), type := 25, pos := "ref.go:94", after := #[], guard := none }, { dst := some 67, op := Op.move (Operand.tmp 8), type := 3, pos := "ref.go:94", after := #[], guard := none }, { dst := some 68, op := Op.indexAddr 25 (Operand.tmp 66) (Operand.tmp 67), type := 0, pos := "ref.go:94", after := #[{ on := 6, ground := Ground.data }, { on := 7, ground := Ground.data }], guard := none }, { dst := some 69, op := Op.load 3 (Operand.tmp 68), type := 3, pos := "ref.go:94", after := #[{ on := 8, ground := Ground.data }], guard := none }, { dst := some 70, op := Op.binOp BinOp.sub 3 (Operand.tmp 69) (Operand.const (Value.int IntKind.i64 1)) 3, type := 3, pos := "ref.go:94", after := #[{ on := 9, ground := Ground.data }], guard := none }, { dst := some 71, op := Op.call { callee := Callee.builtin Builtin.min, args := #[Operand.tmp 65, Operand.tmp 70], argTypes := #[3, 3] }, type := 3, pos := "ref.go:94", after := #[{ on := 5, ground := Ground.data }, { on := 10, ground := Ground.data }], guard := none }, { dst := some 72, op := Op.indexAddr 25 (Operand.tmp 60) (Operand.tmp 61), type := 0, pos := "ref.go:94", after := #[{ on := 0, ground := Ground.data }, { on := 1, ground := Ground.data }, { on := 0, ground := Ground.phase }, { on := 1, ground := Ground.phase }, { on := 2, ground := Ground.phase }, { on := 3, ground := Ground.phase }, { on := 4, ground := Ground.phase }, { on := 5, ground := Ground.phase }, { on := 6, ground := Ground.phase }, { on := 7, ground := Ground.phase }, { on := 8, ground := Ground.phase }, { on := 9, ground := Ground.phase }, { on := 10, ground := Ground.phase }, { on := 11, ground := Ground.phase }], guard := none }, { dst := none, op := Op.store 3 (Operand.tmp 72) (Operand.tmp 71), type := 0, pos := "ref.go:94", after := #[{ on := 12, ground := Ground.data }, { on := 11, ground := Ground.data }, { on := 0, ground := Ground.phase }, { on := 1, ground := Ground.phase }, { on := 2, ground := Ground.phase }, { on := 3, ground := Ground.phase }, { on := 4, ground := Ground.phase }, { on := 5, ground := Ground.phase }, { on := 6, ground := Ground.phase }, { on := 7, ground := Ground.phase }, { on := 8, ground := Ground.phase }, { on := 9, ground := Ground.phase }, { on := 10, ground := Ground.phase }, { on := 11, ground := Ground.phase }], guard := none }] true)) := ⟨_, hide rfl⟩
              rw [← H14.out, ← H15.out]
              by_cases e4 : (oa ops (i + 1 + t)).kind = 4
              . simp only [e4, decide_true] at c3
                have HMN : Hid (mn ops fl d i (oa ops i) (t + 1) = min (mn ops fl d i (oa ops i) t) (fl (i + 1 + t))) := hide (by rw [HMN0.out, htc, if_pos rfl]; unfold ln; rw [if_pos e4]; omega)
                clear e4 HMN0
                go_wp2_with (first
                  | (go_at_call 31; refine c2.mono ?_; rintro e w3 ⟨rfl, hb3⟩; have hm3 := (hb3.block _ (Array.getElem?_eq_some_iff.1 HM2.out).1).trans HM2.out; obtain ⟨z0, z1, z2, z3⟩ := def_cells hm3; have hB3 := HB2.out.trans (hb3.mono HB2.out.size); have c3' := c3 w3 hB3; have hR3 := HR2.out.below hb3; clear c2 c3)
                  | (go_at_call 32; refine c3'.mono ?_; rintro e w4 ⟨rfl, hb4⟩; have HM3 := hide ((hb4.block _ (Array.getElem?_eq_some_iff.1 hm3).1).trans hm3); have HB3 := hide (hB3.trans (hb4.mono hB3.size)); have HR3 := hide (hR3.below hb4); clear c3' hm3 hB3 hR3 z0 z1 z2 z3 hb3 hb4))
                clear HR2 HM2 HB2 x0 x1 x2 x3
                have r0 := HR3.out.cell i hin2
                have r1 := HR3.out.frozen i
                have r2 := HR3.out.lt
                have r3 := HR3.out.cell (i + 1 + t) hkn
                rw [if_pos rfl] at r0
                rw [if_neg (by omega), if_pos (by omega)] at r3
                rw [H14.out]
                obtain ⟨V, hV⟩ : ∃ V, V = min (mn ops fl d i (oa ops i) t) (fl (i + 1 + t)) := ⟨_, rfl⟩
                have hnn : ((i : Int) + 1 + (t : Int)).toNat = i + 1 + t := by omega
                have HV : Hid (V = if fl (i + 1 + t) < mn ops fl d i (oa ops i) t then fl (i + 1 + t) else mn ops fl d i (oa ops i) t) := hide (by rw [hV]; split <;> omega)
                have HR4 : Hid (Rk (w4.drew.setCell ⟨gR, i, none⟩ (.int .i64 V)) gR 3 n (fun j => .int .i64 (if j = i then mn ops fl d i (oa ops i) (t + 1) else if n - m <= j then fl j else 0))) := hide (((show Rk w4.drew gR 3 n _ from HR3.out).set i _).congr fun j hj => by
                  by_cases e : j = i
                  . rw [if_pos e, if_pos e, HMN.out, hV]
                  . rw [if_neg e, if_neg e, if_neg e])
                have HM4 : Hid ((w4.drew.setCell ⟨gR, i, none⟩ (.int .i64 V)).heap[w.heap.size]? = some (.cells #[.int .i64 q, .int .i64 b, .slice ao n k] 24 (0, 0))) := hide ((Below.heap_setCell _ _ _ _ (by simp; omega)).trans HM3.out)
                have HB4 : Hid (Below w.heap.size w (w4.drew.setCell ⟨gR, i, none⟩ (.int .i64 V))) := hide (HB3.out.drew.setCell (p := ⟨gR, i, none⟩) hgR _)
                clear hV HMN
                refine wp_region_held_drew (S := (fun _ : World => True)) (by kernel_rfl) trivial (fun hHeld => ?_)
                refine take_to (i := 0) (d := 48) (v := ?_) rfl rfl (by kernel_rfl) (by kernel_rfl) (by kernel_rfl) (fun _ _ _ h => h) (Or.inl ⟨by rfl, ?_⟩) (by assumption) ?_
                rotate_left 1
                . intro W hSw
                  skip
                  go_simp
                  with_reducible rfl
                simp only [Act.put, List.setIfInBounds_toArray, List.set_cons_zero, List.set_cons_succ]
                refine take_to (i := 1) (d := 49) (v := ?_) rfl rfl (by kernel_rfl) (by kernel_rfl) (by kernel_rfl) (fun _ _ _ h => h) (Or.inl ⟨by rfl, ?_⟩) (by assumption) ?_
                rotate_left 1
                . intro W hSw
                  skip
                  go_simp
                  with_reducible rfl
                simp only [Act.put, List.setIfInBounds_toArray, List.set_cons_zero, List.set_cons_succ]
                refine take_to (i := 2) (d := 50) (v := ?_) rfl rfl (by kernel_rfl) (by kernel_rfl) (by kernel_rfl) (fun _ _ _ h => h) (Or.inl ⟨by rfl, ?_⟩) (by assumption) ?_
                rotate_left 1
                . intro W hSw
                  skip
                  go_simp
                  with_reducible rfl
                simp only [Act.put, List.setIfInBounds_toArray, List.set_cons_zero, List.set_cons_succ]
                refine take_to (i := 3) (d := 51) (v := ?_) rfl rfl (by kernel_rfl) (by kernel_rfl) (by kernel_rfl) (fun _ _ _ h => h) (Or.inl ⟨by rfl, ?_⟩) (by assumption) ?_
                rotate_left 1
                . intro W hSw
                  skip
                  go_simp
                  with_reducible rfl
                simp only [Act.put, List.setIfInBounds_toArray, List.set_cons_zero, List.set_cons_succ]
                refine take_to (i := 4) (d := 52) (v := ?_) rfl rfl (by kernel_rfl) (by kernel_rfl) (by kernel_rfl) (fun _ _ _ h => h) (Or.inl ⟨by rfl, ?_⟩) (by assumption) ?_
                rotate_left 1
                . intro W hSw
                  skip
                  go_simp
                  with_reducible rfl
                simp only [Act.put, List.setIfInBounds_toArray, List.set_cons_zero, List.set_cons_succ]
                refine take_to (i := 6) (d := 54) (v := ?_) rfl rfl (by kernel_rfl) (by kernel_rfl) (by kernel_rfl) (fun _ _ _ h => h) (Or.inl ⟨by rfl, ?_⟩) (by assumption) ?_
                rotate_left 1
                . intro W hSw
                  skip
                  go_simp
                  with_reducible rfl
                simp only [Act.put, List.setIfInBounds_toArray, List.set_cons_zero, List.set_cons_succ]
                refine take_to (i := 7) (d := 55) (v := ?_) rfl rfl (by kernel_rfl) (by kernel_rfl) (by kernel_rfl) (fun _ _ _ h => h) (Or.inl ⟨by rfl, ?_⟩) (by assumption) ?_
                rotate_left 1
                . intro W hSw
                  skip
                  go_simp
                  with_reducible rfl
                simp only [Act.put, List.setIfInBounds_toArray, List.set_cons_zero, List.set_cons_succ]
                refine take_to (i := 8) (d := 56) (v := ?_) rfl rfl (by kernel_rfl) (by kernel_rfl) (by kernel_rfl) (fun _ _ _ h => h) (Or.inl ⟨by rfl, ?_⟩) (by assumption) ?_
                rotate_left 1
                . intro W hSw
                  skip
                  go_simp
                  with_reducible rfl
                simp only [Act.put, List.setIfInBounds_toArray, List.set_cons_zero, List.set_cons_succ]
                refine wpAnyH_ready (rs := [5, 9]) (by kernel_rfl) (by simp) ?_
                refine AllReadyH.cons (o := { dst := some 53, op := Op.load 3 (Operand.tmp 52), type := 3, pos := "ref.go:92", after := #[{ on := 4, ground := Ground.data }], guard := none }) rfl (fun K hK => ?_) (AllReadyH.cons (o := { dst := some 57, op := Op.load 3 (Operand.tmp 56), type := 3, pos := "ref.go:92", after := #[{ on := 8, ground := Ground.data }], guard := none }) rfl (fun K hK => ?_) AllReadyH.nil)
                . go_simp
                  refine hK.out _ _ trivial (fun hHeld => ?_)
                  clear hK K
                  try simp only [Act.put, List.setIfInBounds_toArray, List.set_cons_zero, List.set_cons_succ]
                  refine wpAnyH_ready (rs := [9]) (by kernel_rfl) (by simp) ?_
                  refine AllReadyH.cons (o := { dst := some 57, op := Op.load 3 (Operand.tmp 56), type := 3, pos := "ref.go:92", after := #[{ on := 8, ground := Ground.data }], guard := none }) rfl (fun K hK => ?_) AllReadyH.nil
                  go_simp
                  refine hK.out _ _ trivial (fun hHeld => ?_)
                  clear hK K
                  try simp only [Act.put, List.setIfInBounds_toArray, List.set_cons_zero, List.set_cons_succ]
                  refine take_to (i := 10) (d := 58) (v := ?_) rfl rfl (by kernel_rfl) (by kernel_rfl) (by kernel_rfl) (fun _ _ _ h => h) (Or.inl ⟨by rfl, ?_⟩) (by assumption) ?_
                  rotate_left 1
                  . intro W hSw
                    skip
                    go_simp
                    with_reducible rfl
                  simp only [Act.put, List.setIfInBounds_toArray, List.set_cons_zero, List.set_cons_succ]
                  refine take_to (i := 11) (d := 59) (v := ?_) rfl rfl (by kernel_rfl) (by kernel_rfl) (by kernel_rfl) (fun _ _ _ h => h) (Or.inl ⟨by rfl, ?_⟩) (by assumption) ?_
                  rotate_left 1
                  . intro W hSw
                    skip
                    go_simp
                    with_reducible rfl
                  simp only [Act.put, List.setIfInBounds_toArray, List.set_cons_zero, List.set_cons_succ]
                  refine wpAnyH_ready (rs := [12]) (by kernel_rfl) (by simp) ?_
                  refine AllReadyH.cons (o := { dst := none, op := Op.store 3 (Operand.tmp 59) (Operand.tmp 58), type := 0, pos := "ref.go:92", after := #[{ on := 11, ground := Ground.data }, { on := 10, ground := Ground.data }, { on := 0, ground := Ground.phase }, { on := 1, ground := Ground.phase }, { on := 2, ground := Ground.phase }, { on := 3, ground := Ground.phase }, { on := 4, ground := Ground.phase }, { on := 5, ground := Ground.phase }, { on := 6, ground := Ground.phase }, { on := 7, ground := Ground.phase }, { on := 8, ground := Ground.phase }, { on := 9, ground := Ground.phase }, { on := 10, ground := Ground.phase }], guard := none }) rfl (fun K hK => ?_) AllReadyH.nil
                  rw [← HV.out]
                  go_simp
                  refine hK.out _ _ trivial (fun hHeld => ?_)
                  clear hK K
                  refine wpAnyH_done (by kernel_rfl) ?_ _
                  go_wp2_with fail
                  exact ⟨⟨t + 1, by omega, by go_num, HR4, HM4, HB4⟩, by simp [intOf]; omega⟩
                . go_simp
                  refine hK.out _ _ trivial (fun hHeld => ?_)
                  clear hK K
                  try simp only [Act.put, List.setIfInBounds_toArray, List.set_cons_zero, List.set_cons_succ]
                  refine wpAnyH_ready (rs := [5]) (by kernel_rfl) (by simp) ?_
                  refine AllReadyH.cons (o := { dst := some 53, op := Op.load 3 (Operand.tmp 52), type := 3, pos := "ref.go:92", after := #[{ on := 4, ground := Ground.data }], guard := none }) rfl (fun K hK => ?_) AllReadyH.nil
                  go_simp
                  refine hK.out _ _ trivial (fun hHeld => ?_)
                  clear hK K
                  try simp only [Act.put, List.setIfInBounds_toArray, List.set_cons_zero, List.set_cons_succ]
                  refine take_to (i := 10) (d := 58) (v := ?_) rfl rfl (by kernel_rfl) (by kernel_rfl) (by kernel_rfl) (fun _ _ _ h => h) (Or.inl ⟨by rfl, ?_⟩) (by assumption) ?_
                  rotate_left 1
                  . intro W hSw
                    skip
                    go_simp
                    with_reducible rfl
                  simp only [Act.put, List.setIfInBounds_toArray, List.set_cons_zero, List.set_cons_succ]
                  refine take_to (i := 11) (d := 59) (v := ?_) rfl rfl (by kernel_rfl) (by kernel_rfl) (by kernel_rfl) (fun _ _ _ h => h) (Or.inl ⟨by rfl, ?_⟩) (by assumption) ?_
                  rotate_left 1
                  . intro W hSw
                    skip
                    go_simp
                    with_reducible rfl
                  simp only [Act.put, List.setIfInBounds_toArray, List.set_cons_zero, List.set_cons_succ]
                  refine wpAnyH_ready (rs := [12]) (by kernel_rfl) (by simp) ?_
                  refine AllReadyH.cons (o := { dst := none, op := Op.store 3 (Operand.tmp 59) (Operand.tmp 58), type := 0, pos := "ref.go:92", after := #[{ on := 11, ground := Ground.data }, { on := 10, ground := Ground.data }, { on := 0, ground := Ground.phase }, { on := 1, ground := Ground.phase }, { on := 2, ground := Ground.phase }, { on := 3, ground := Ground.phase }, { on := 4, ground := Ground.phase }, { on := 5, ground := Ground.phase }, { on := 6, ground := Ground.phase }, { on := 7, ground := Ground.phase }, { on := 8, ground := Ground.phase }, { on := 9, ground := Ground.phase }, { on := 10, ground := Ground.phase }], guard := none }) rfl (fun K hK => ?_) AllReadyH.nil
                  rw [← HV.out]
                  go_simp
                  refine hK.out _ _ trivial (fun hHeld => ?_)
                  clear hK K
                  refine wpAnyH_done (by kernel_rfl) ?_ _
                  go_wp2_with fail
                  exact ⟨⟨t + 1, by omega, by go_num, HR4, HM4, HB4⟩, by simp [intOf]; omega⟩
              . simp only [e4, decide_false] at c3
                have HMN : Hid (mn ops fl d i (oa ops i) (t + 1) = min (mn ops fl d i (oa ops i) t) (fl (i + 1 + t) - 1)) := hide (by rw [HMN0.out, htc, if_pos rfl]; unfold ln; rw [if_neg e4])
                have hkr := lv_rng HLV.out (i + 1 + t) (by rw [HN.out]; exact hkn)
                have hwf : IntKind.i64.wrap (fl (i + 1 + t) - 1) = fl (i + 1 + t) - 1 := wrapI _ (by have := HN.out; omega) (by omega)
                clear e4 HMN0 hkr
                go_wp2_with (first
                  | (go_at_call 31; refine c2.mono ?_; rintro e w3 ⟨rfl, hb3⟩; have hm3 := (hb3.block _ (Array.getElem?_eq_some_iff.1 HM2.out).1).trans HM2.out; obtain ⟨z0, z1, z2, z3⟩ := def_cells hm3; have hB3 := HB2.out.trans (hb3.mono HB2.out.size); have c3' := c3 w3 hB3; have hR3 := HR2.out.below hb3; clear c2 c3)
                  | (go_at_call 32; refine c3'.mono ?_; rintro e w4 ⟨rfl, hb4⟩; have HM3 := hide ((hb4.block _ (Array.getElem?_eq_some_iff.1 hm3).1).trans hm3); have HB3 := hide (hB3.trans (hb4.mono hB3.size)); have HR3 := hide (hR3.below hb4); clear c3' hm3 hB3 hR3 z0 z1 z2 z3 hb3 hb4))
                clear HR2 HM2 HB2 x0 x1 x2 x3
                have r0 := HR3.out.cell i hin2
                have r1 := HR3.out.frozen i
                have r2 := HR3.out.lt
                have r3 := HR3.out.cell (i + 1 + t) hkn
                rw [if_pos rfl] at r0
                rw [if_neg (by omega), if_pos (by omega)] at r3
                rw [H15.out]
                obtain ⟨V, hV⟩ : ∃ V, V = min (mn ops fl d i (oa ops i) t) (fl (i + 1 + t) - 1) := ⟨_, rfl⟩
                have hnn : ((i : Int) + 1 + (t : Int)).toNat = i + 1 + t := by omega
                have HV : Hid (V = if fl (i + 1 + t) - 1 < mn ops fl d i (oa ops i) t then fl (i + 1 + t) - 1 else mn ops fl d i (oa ops i) t) := hide (by rw [hV]; split <;> omega)
                have HR4 : Hid (Rk (w4.drew.setCell ⟨gR, i, none⟩ (.int .i64 V)) gR 3 n (fun j => .int .i64 (if j = i then mn ops fl d i (oa ops i) (t + 1) else if n - m <= j then fl j else 0))) := hide (((show Rk w4.drew gR 3 n _ from HR3.out).set i _).congr fun j hj => by
                  by_cases e : j = i
                  . rw [if_pos e, if_pos e, HMN.out, hV]
                  . rw [if_neg e, if_neg e, if_neg e])
                have HM4 : Hid ((w4.drew.setCell ⟨gR, i, none⟩ (.int .i64 V)).heap[w.heap.size]? = some (.cells #[.int .i64 q, .int .i64 b, .slice ao n k] 24 (0, 0))) := hide ((Below.heap_setCell _ _ _ _ (by simp; omega)).trans HM3.out)
                have HB4 : Hid (Below w.heap.size w (w4.drew.setCell ⟨gR, i, none⟩ (.int .i64 V))) := hide (HB3.out.drew.setCell (p := ⟨gR, i, none⟩) hgR _)
                clear hV HMN
                refine wp_region_held_drew (S := (fun _ : World => True)) (by kernel_rfl) trivial (fun hHeld => ?_)
                refine take_to (i := 0) (d := 60) (v := ?_) rfl rfl (by kernel_rfl) (by kernel_rfl) (by kernel_rfl) (fun _ _ _ h => h) (Or.inl ⟨by rfl, ?_⟩) (by assumption) ?_
                rotate_left 1
                . intro W hSw
                  skip
                  go_simp
                  with_reducible rfl
                simp only [Act.put, List.setIfInBounds_toArray, List.set_cons_zero, List.set_cons_succ]
                refine take_to (i := 1) (d := 61) (v := ?_) rfl rfl (by kernel_rfl) (by kernel_rfl) (by kernel_rfl) (fun _ _ _ h => h) (Or.inl ⟨by rfl, ?_⟩) (by assumption) ?_
                rotate_left 1
                . intro W hSw
                  skip
                  go_simp
                  with_reducible rfl
                simp only [Act.put, List.setIfInBounds_toArray, List.set_cons_zero, List.set_cons_succ]
                refine take_to (i := 2) (d := 62) (v := ?_) rfl rfl (by kernel_rfl) (by kernel_rfl) (by kernel_rfl) (fun _ _ _ h => h) (Or.inl ⟨by rfl, ?_⟩) (by assumption) ?_
                rotate_left 1
                . intro W hSw
                  skip
                  go_simp
                  with_reducible rfl
                simp only [Act.put, List.setIfInBounds_toArray, List.set_cons_zero, List.set_cons_succ]
                refine take_to (i := 3) (d := 63) (v := ?_) rfl rfl (by kernel_rfl) (by kernel_rfl) (by kernel_rfl) (fun _ _ _ h => h) (Or.inl ⟨by rfl, ?_⟩) (by assumption) ?_
                rotate_left 1
                . intro W hSw
                  skip
                  go_simp
                  with_reducible rfl
                simp only [Act.put, List.setIfInBounds_toArray, List.set_cons_zero, List.set_cons_succ]
                refine take_to (i := 4) (d := 64) (v := ?_) rfl rfl (by kernel_rfl) (by kernel_rfl) (by kernel_rfl) (fun _ _ _ h => h) (Or.inl ⟨by rfl, ?_⟩) (by assumption) ?_
                rotate_left 1
                . intro W hSw
                  skip
                  go_simp
                  with_reducible rfl
                simp only [Act.put, List.setIfInBounds_toArray, List.set_cons_zero, List.set_cons_succ]
                refine take_to (i := 6) (d := 66) (v := ?_) rfl rfl (by kernel_rfl) (by kernel_rfl) (by kernel_rfl) (fun _ _ _ h => h) (Or.inl ⟨by rfl, ?_⟩) (by assumption) ?_
                rotate_left 1
                . intro W hSw
                  skip
                  go_simp
                  with_reducible rfl
                simp only [Act.put, List.setIfInBounds_toArray, List.set_cons_zero, List.set_cons_succ]
                refine take_to (i := 7) (d := 67) (v := ?_) rfl rfl (by kernel_rfl) (by kernel_rfl) (by kernel_rfl) (fun _ _ _ h => h) (Or.inl ⟨by rfl, ?_⟩) (by assumption) ?_
                rotate_left 1
                . intro W hSw
                  skip
                  go_simp
                  with_reducible rfl
                simp only [Act.put, List.setIfInBounds_toArray, List.set_cons_zero, List.set_cons_succ]
                refine take_to (i := 8) (d := 68) (v := ?_) rfl rfl (by kernel_rfl) (by kernel_rfl) (by kernel_rfl) (fun _ _ _ h => h) (Or.inl ⟨by rfl, ?_⟩) (by assumption) ?_
                rotate_left 1
                . intro W hSw
                  skip
                  go_simp
                  with_reducible rfl
                simp only [Act.put, List.setIfInBounds_toArray, List.set_cons_zero, List.set_cons_succ]
                refine wpAnyH_ready (rs := [5, 9]) (by kernel_rfl) (by simp) ?_
                refine AllReadyH.cons (o := { dst := some 65, op := Op.load 3 (Operand.tmp 64), type := 3, pos := "ref.go:94", after := #[{ on := 4, ground := Ground.data }], guard := none }) rfl (fun K hK => ?_) (AllReadyH.cons (o := { dst := some 69, op := Op.load 3 (Operand.tmp 68), type := 3, pos := "ref.go:94", after := #[{ on := 8, ground := Ground.data }], guard := none }) rfl (fun K hK => ?_) AllReadyH.nil)
                . go_simp
                  refine hK.out _ _ trivial (fun hHeld => ?_)
                  clear hK K
                  try simp only [Act.put, List.setIfInBounds_toArray, List.set_cons_zero, List.set_cons_succ]
                  refine wpAnyH_ready (rs := [9]) (by kernel_rfl) (by simp) ?_
                  refine AllReadyH.cons (o := { dst := some 69, op := Op.load 3 (Operand.tmp 68), type := 3, pos := "ref.go:94", after := #[{ on := 8, ground := Ground.data }], guard := none }) rfl (fun K hK => ?_) AllReadyH.nil
                  go_simp
                  refine hK.out _ _ trivial (fun hHeld => ?_)
                  clear hK K
                  try simp only [Act.put, List.setIfInBounds_toArray, List.set_cons_zero, List.set_cons_succ]
                  refine take_to (i := 10) (d := 70) (v := ?_) rfl rfl (by kernel_rfl) (by kernel_rfl) (by kernel_rfl) (fun _ _ _ h => h) (Or.inl ⟨by rfl, ?_⟩) (by assumption) ?_
                  rotate_left 1
                  . intro W hSw
                    skip
                    go_simp
                    with_reducible rfl
                  simp only [Act.put, List.setIfInBounds_toArray, List.set_cons_zero, List.set_cons_succ]
                  refine take_to (i := 11) (d := 71) (v := ?_) rfl rfl (by kernel_rfl) (by kernel_rfl) (by kernel_rfl) (fun _ _ _ h => h) (Or.inl ⟨by rfl, ?_⟩) (by assumption) ?_
                  rotate_left 1
                  . intro W hSw
                    skip
                    go_simp
                    with_reducible rfl
                  simp only [Act.put, List.setIfInBounds_toArray, List.set_cons_zero, List.set_cons_succ]
                  refine take_to (i := 12) (d := 72) (v := ?_) rfl rfl (by kernel_rfl) (by kernel_rfl) (by kernel_rfl) (fun _ _ _ h => h) (Or.inl ⟨by rfl, ?_⟩) (by assumption) ?_
                  rotate_left 1
                  . intro W hSw
                    skip
                    go_simp
                    with_reducible rfl
                  simp only [Act.put, List.setIfInBounds_toArray, List.set_cons_zero, List.set_cons_succ]
                  refine wpAnyH_ready (rs := [13]) (by kernel_rfl) (by simp) ?_
                  refine AllReadyH.cons (o := { dst := none, op := Op.store 3 (Operand.tmp 72) (Operand.tmp 71), type := 0, pos := "ref.go:94", after := #[{ on := 12, ground := Ground.data }, { on := 11, ground := Ground.data }, { on := 0, ground := Ground.phase }, { on := 1, ground := Ground.phase }, { on := 2, ground := Ground.phase }, { on := 3, ground := Ground.phase }, { on := 4, ground := Ground.phase }, { on := 5, ground := Ground.phase }, { on := 6, ground := Ground.phase }, { on := 7, ground := Ground.phase }, { on := 8, ground := Ground.phase }, { on := 9, ground := Ground.phase }, { on := 10, ground := Ground.phase }, { on := 11, ground := Ground.phase }], guard := none }) rfl (fun K hK => ?_) AllReadyH.nil
                  rw [← HV.out]
                  go_simp
                  refine hK.out _ _ trivial (fun hHeld => ?_)
                  clear hK K
                  refine wpAnyH_done (by kernel_rfl) ?_ _
                  go_wp2_with fail
                  exact ⟨⟨t + 1, by omega, by go_num, HR4, HM4, HB4⟩, by simp [intOf]; omega⟩
                . go_simp
                  refine hK.out _ _ trivial (fun hHeld => ?_)
                  clear hK K
                  try simp only [Act.put, List.setIfInBounds_toArray, List.set_cons_zero, List.set_cons_succ]
                  refine take_to (i := 10) (d := 70) (v := ?_) rfl rfl (by kernel_rfl) (by kernel_rfl) (by kernel_rfl) (fun _ _ _ h => h) (Or.inl ⟨by rfl, ?_⟩) (by assumption) ?_
                  rotate_left 1
                  . intro W hSw
                    skip
                    go_simp
                    with_reducible rfl
                  simp only [Act.put, List.setIfInBounds_toArray, List.set_cons_zero, List.set_cons_succ]
                  refine wpAnyH_ready (rs := [5]) (by kernel_rfl) (by simp) ?_
                  refine AllReadyH.cons (o := { dst := some 65, op := Op.load 3 (Operand.tmp 64), type := 3, pos := "ref.go:94", after := #[{ on := 4, ground := Ground.data }], guard := none }) rfl (fun K hK => ?_) AllReadyH.nil
                  go_simp
                  refine hK.out _ _ trivial (fun hHeld => ?_)
                  clear hK K
                  try simp only [Act.put, List.setIfInBounds_toArray, List.set_cons_zero, List.set_cons_succ]
                  refine take_to (i := 11) (d := 71) (v := ?_) rfl rfl (by kernel_rfl) (by kernel_rfl) (by kernel_rfl) (fun _ _ _ h => h) (Or.inl ⟨by rfl, ?_⟩) (by assumption) ?_
                  rotate_left 1
                  . intro W hSw
                    skip
                    go_simp
                    with_reducible rfl
                  simp only [Act.put, List.setIfInBounds_toArray, List.set_cons_zero, List.set_cons_succ]
                  refine take_to (i := 12) (d := 72) (v := ?_) rfl rfl (by kernel_rfl) (by kernel_rfl) (by kernel_rfl) (fun _ _ _ h => h) (Or.inl ⟨by rfl, ?_⟩) (by assumption) ?_
                  rotate_left 1
                  . intro W hSw
                    skip
                    go_simp
                    with_reducible rfl
                  simp only [Act.put, List.setIfInBounds_toArray, List.set_cons_zero, List.set_cons_succ]
                  refine wpAnyH_ready (rs := [13]) (by kernel_rfl) (by simp) ?_
                  refine AllReadyH.cons (o := { dst := none, op := Op.store 3 (Operand.tmp 72) (Operand.tmp 71), type := 0, pos := "ref.go:94", after := #[{ on := 12, ground := Ground.data }, { on := 11, ground := Ground.data }, { on := 0, ground := Ground.phase }, { on := 1, ground := Ground.phase }, { on := 2, ground := Ground.phase }, { on := 3, ground := Ground.phase }, { on := 4, ground := Ground.phase }, { on := 5, ground := Ground.phase }, { on := 6, ground := Ground.phase }, { on := 7, ground := Ground.phase }, { on := 8, ground := Ground.phase }, { on := 9, ground := Ground.phase }, { on := 10, ground := Ground.phase }, { on := 11, ground := Ground.phase }], guard := none }) rfl (fun K hK => ?_) AllReadyH.nil
                  rw [← HV.out]
                  go_simp
                  refine hK.out _ _ trivial (fun hHeld => ?_)
                  clear hK K
                  refine wpAnyH_done (by kernel_rfl) ?_ _
                  go_wp2_with fail
                  exact ⟨⟨t + 1, by omega, by go_num, HR4, HM4, HB4⟩, by simp [intOf]; omega⟩
          . obtain rfl : m = t := by omega
            have hd2 : decide ((i : Int) + 1 + (m : Int) < (n : Int)) = false := decide_eq_false (by omega)
            have HR5 : Hid (Rk wr gR 3 n (fun j => .int .i64 (if n - (m + 1) <= j then fl j else 0))) := hide (HR2.out.congr fun j hj => by
              by_cases e : j = i
              . rw [if_pos e, ← HFI.out, if_pos (by omega), e]
              . rw [if_neg e]
                congr 1
                split <;> split <;> first | rfl | omega)
            go_wp2_with fail
            exact ⟨⟨m + 1, by omega, by (first | (simp; done) | (simp; omega)), HR5, HM2, HB2⟩, by (first | (simp [intOf]; done) | (simp [intOf]; omega))⟩
      . obtain rfl : n = m := by omega
        have hd : decide ((n : Int) - 1 - (n : Int) ≥ 0) = false := decide_eq_false (by omega)
        have HRF : Hid (Rk wr gR 3 n (fun j => .int .i64 (fl j))) := hide (HR1.out.congr fun j hj => by rw [if_pos (by omega)])
        go_wp2_with fail
        go_ret2
        show EPost w ((List.range n).map fl) 0 _ _
        have hlr : ((List.range n).map fl).length = n := by simp
        exact ⟨some ⟨gR, 0, none⟩, n, by rw [hlr]; rfl, rk_nsr HRF.out, by rw [hlr]; exact hn, HB1.out⟩
end Go.Proofs.YthndpbjplcphpaaDoor.Lay
