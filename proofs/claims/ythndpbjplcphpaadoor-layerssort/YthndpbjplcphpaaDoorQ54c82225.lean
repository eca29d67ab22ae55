import Derived.Test.YthndpbjplcphpaaDoorQ8597d805
import Derived.Test.YthndpbjplcphpaaDoorQ3c3324b3
set_option maxRecDepth 100000
set_option maxHeartbeats 4000000
namespace Go.Proofs.YthndpbjplcphpaaDoor.Lay
open Go.RowKit Go.Shelf Go.Proofs.YthndpbjplcphpaaDoor.Oct Go.Proofs.YthndpbjplcphpaaDoor.Tok Go.Proofs.YthndpbjplcphpaaDoor.Gt Go.Proofs.YthndpbjplcphpaaDoor.Cir
def okC (c : Circ) : Bool := (chkC c).2 == 0
def erC (c : Circ) : Int := if okC c then 0 else 80
def rwC (c : Circ) (f : Nat -> Int) : List Int := if okC c then (List.range c.ops.length).map f else []
theorem ok_wk {c : Circ} (h : okC c = true) : (∀ o ∈ c.ops, Wk o /\ 0 < o.qs.length) /\ c.ops.length <= 4096 := by
  have h0 : (chkC c).2 = 0 := by unfold okC at h; simpa using h
  obtain ⟨h1, h2, h3, h4, h5, h6⟩ := chkC_ok h0
  exact ⟨fun o ho => ⟨may_wk h1 h2 h4 (h6 o ho), may_pos (h6 o ho)⟩, h5⟩
theorem rng_at (f : Nat -> Int) (n j : Nat) (h : j < n) : ((List.range n).map f)[j]? = some (f j) := by
  rw [List.getElem?_map, List.getElem?_range h]; rfl
theorem rng_snoc (f : Nat -> Int) (n : Nat) : (List.range (n + 1)).map f = (List.range n).map f ++ [f n] := by
  rw [List.range_succ, List.map_append]; rfl
theorem own_below {w w' : World} {B c n : Nat} {ao : Option Addr} {xs : List Value} (h : w.ownsRow B 3 1 (.slice ao n c) n xs) (hb : Below w.heap.size w w') : w'.ownsRow B 3 1 (.slice ao n c) n xs := own_of_block h fun k hk => hb.block k (own_lt h k hk).2
theorem gr_congr {f g : Nat -> Int} : ∀ n, (∀ j, j < n -> f j = g j) -> gr f n = gr g n
  | 0, _ => rfl
  | n + 1, h => by rw [gr, gr, gr_congr n (fun j hj => h j (by omega)), h n (by omega)]
def EPost (w : World) (l : List Int) (er : Int) (e : Ending) (w' : World) : Prop := ∃ ao cc, e = .returned (.tuple #[.slice ao l.length cc, .int .i64 er]) /\ Ns w' ao l /\ l.length <= 4096 /\ Below w.heap.size w w'
theorem dEarly (c : Circ) (f : Nat -> Int) (hE : EV c.ops f) (ao : Option Addr) (k : Nat) (w : World) (hC : Ci w c ao k) : Calls Tryd.prog 8 #[cV c ao k] w (EPost w (rwC c f) (erC c)) := by
  have c1 := fun V (h : Below w.heap.size w V) => eMay c ao k V (hC.below h)
  have HT : Hid (okC c = true -> ∀ i j, i < c.ops.length -> j < c.ops.length -> ∀ V, Below w.heap.size w V -> Calls Tryd.prog 31 #[cV c ao k, .int .i64 (i : Int), .int .i64 (j : Int)] V fun e w' => e = .returned (.bool (tc (oa c.ops i) (oa c.ops j))) /\ Below V.heap.size V w') := hide fun h i j hi hj V hb => dTouch c ao k i j hi hj (ok_wk h).1 V (hC.below hb)
  have HBR : Hid (∀ i, i < c.ops.length -> ∀ V, Below w.heap.size w V -> Calls Tryd.prog 32 #[cV c ao k, .int .i64 (i : Int)] V fun e w' => e = .returned (.bool (decide ((oa c.ops i).kind = 4))) /\ Below V.heap.size V w') := hide fun i hi V hb => dBar c ao k i hi V (hC.below hb)
  have hln : okC c = true -> c.ops.length <= 4096 := fun h => (ok_wk h).2
  unfold rwC erC
  rw [show ((chkC c).2 == 0) = okC c from rfl] at c1
  have HE := hide hE
  clear hC hE
  obtain ⟨q, b, ops⟩ := c
  unfold cV at *
  simp only at *
  generalize okC ⟨q, b, ops⟩ = ok at *
  obtain ⟨n, hn⟩ : ∃ n, ops.length = n := ⟨_, rfl⟩
  have HN := hide hn
  rw [hn] at c1 HT HBR hln ⊢
  clear hn
  have hb1 := bnew w (.cells #[.int .i64 q, .int .i64 b, .slice ao n k] 24)
  have hm1 := heap_alloc_new w (.cells #[.int .i64 q, .int .i64 b, .slice ao n k] 24)
  have hsz : w.heap.size < (w.alloc (.cells #[.int .i64 q, .int .i64 b, .slice ao n k] 24)).heap.size := by simp
  go_enter Tryd.func8, Tryd.ntmps8
  go_upto_region 1 with fail
  generalize w.alloc (.cells #[.int .i64 q, .int .i64 b, .slice ao n k] 24) = W1 at *
  have c1' := c1 W1 hb1
  obtain ⟨x0, x1, x2, x3⟩ := def_cells hm1
  cases ok with
  | false =>
    go_wp2_with (go_at_call 27; refine c1'.mono ?_; rintro e w2 ⟨rfl, hb2⟩; have HB2 := hide (hb1.trans (hb2.mono hb1.size)))
    go_ret2
    show EPost w [] 80 _ _
    exact ⟨none, 0, rfl, .inl rfl, by simp, HB2.out⟩
  | true =>
    have hn := hln rfl
    have HT' := hide (HT.out rfl)
    clear hln HT c1
    go_upto_region 3 with (go_at_call 27; refine c1'.mono ?_; rintro e w2 ⟨rfl, hb2⟩; have hB2 := hb1.trans (hb2.mono hb1.size); have hm2 := (hb2.block _ hsz).trans hm1)
    clear hb1 hm1 hb2 c1' x0 x1 x2 x3
    have hws := hB2.size
    go_wp2_with fail
    go_loopw [4, 5, 6, 7] (fun vl vi _ _ wr => ∃ (i : Nat) (al : Option Addr) (cl : Nat), i <= n /\ vi = .int .i64 (i : Int) /\ vl = .slice al i cl /\ Hid (wr.ownsRow w.heap.size 3 1 (.slice al i cl) i (((List.range i).map f).map (Value.int .i64))) /\ Hid (wr.heap[w.heap.size]? = some (.cells #[.int .i64 q, .int .i64 b, .slice ao n k] 24 (0, 0))) /\ Hid (Below w.heap.size w wr)) (fun _ vi _ _ _ => n - (intOf vi).toNat)
    case atStart => exact ⟨0, none, 0, Nat.zero_le _, rfl, rfl, hide (World.ownsRow_nil _ _ _ _), hide hm2, hide hB2⟩
    case round =>
      clear hm2 hB2
      obtain ⟨i, al, cl, hi, rfl, rfl, HO1, HM1, HB1⟩ := hrel
      obtain ⟨x0, x1, x2, x3⟩ := def_cells HM1.out
      by_cases h : i < n
      . have hd : decide ((i : Int) < (n : Int)) = true := decide_eq_true (by omega)
        have hkk : (i : Int) < (n : Int) := by omega
        have hin : i < ops.length := by rw [HN.out]; exact h
        have HFI := hide (HE.out i _ (oa_some hin))
        have hmr := mx_rng HE.out (o := oa ops i) i (by omega)
        have HRG : Hid (∀ j, j <= i -> 0 <= mx ops f (oa ops i) j /\ mx ops f (oa ops i) j <= (j : Int)) := hide fun j hj => mx_rng HE.out j (by omega)
        go_wp2_with fail
        go_loopw [6, 7] (fun vm vj wx => ∃ (j : Nat) (m : Int), j <= i /\ vj = .int .i64 (j : Int) /\ vm = .int .i64 m /\ Hid (m = mx ops f (oa ops i) j) /\ Hid (wx.ownsRow w.heap.size 3 1 (.slice al i cl) i (((List.range i).map f).map (Value.int .i64))) /\ Hid (wx.heap[w.heap.size]? = some (.cells #[.int .i64 q, .int .i64 b, .slice ao n k] 24 (0, 0))) /\ Hid (Below w.heap.size w wx)) (fun _ vj _ => i - (intOf vj).toNat)
        case atStart => exact ⟨0, 0, Nat.zero_le _, rfl, rfl, hide rfl, HO1, HM1, HB1⟩
        case round =>
          clear HO1 HM1 HB1 x0 x1 x2 x3
          obtain ⟨j, m, hj, rfl, rfl, HMX, HO1, HM1, HB1⟩ := hrel
          obtain ⟨x0, x1, x2, x3⟩ := def_cells HM1.out
          by_cases h2 : j < i
          . have hd2 : decide ((j : Int) < (i : Int)) = true := decide_eq_true (by omega)
            have hkk2 : (j : Int) < (i : Int) := by omega
            have c2 := HT'.out i j h (by omega) wr HB1.out
            cases ht : tc (oa ops i) (oa ops j) with
            | false =>
              rw [ht] at c2
              have HMX2 : Hid (m = mx ops f (oa ops i) (j + 1)) := hide (by rw [mx, ht]; exact HMX.out)
              go_wp2_with (go_at_call 31; refine c2.mono ?_; rintro e w3 ⟨rfl, hb3⟩; have HB3 := hide hb3; clear hb3 c2)
              have hb3 := HB3.out
              exact ⟨⟨j + 1, m, by omega, by go_num, rfl, HMX2, hide (own_below HO1.out hb3), hide ((hb3.block _ (Array.getElem?_eq_some_iff.1 HM1.out).1).trans HM1.out), hide (HB1.out.trans (hb3.mono HB1.out.size))⟩, by simp [intOf]; omega⟩
            | true =>
              rw [ht] at c2
              have HMX2 : Hid (max m (f j) = mx ops f (oa ops i) (j + 1)) := hide (by rw [mx, ht, HMX.out]; rfl)
              go_wp2_with (go_at_call 31; refine c2.mono ?_; rintro e w3 ⟨rfl, hb3⟩; have HO3 := hide (own_below HO1.out hb3); obtain ⟨g3, off3, e3, hc3⟩ := ns_cell (own_nsl HO3.out) (rng_at f i j h2); have hl3 := World.block_lt_of_cell? _ _ hc3; subst e3; have HB3 := hide hb3; generalize f j = fj at *; clear hb3 c2)
              have hb3 := HB3.out
              exact ⟨⟨j + 1, _, by omega, by go_num, by split <;> (congr 1; omega), HMX2, HO3, hide ((hb3.block _ (Array.getElem?_eq_some_iff.1 HM1.out).1).trans HM1.out), hide (HB1.out.trans (hb3.mono HB1.out.size))⟩, by simp [intOf]; omega⟩
          . obtain rfl : i = j := by omega
            have hd2 : decide ((i : Int) < (i : Int)) = false := decide_eq_false (by omega)
            have c3 := HBR.out i h wr HB1.out
            rw [← HMX.out] at HFI hmr
            unfold ln at HFI
            by_cases e4 : (oa ops i).kind = 4
            . rw [decide_eq_true e4] at c3
              have HFV : Hid (f i = m) := hide (by rw [HFI.out, if_pos e4]; omega)
              go_wp2_with (first
                | (go_at_call 32; refine c3.mono ?_; rintro e w3 ⟨rfl, hb3⟩; have HO3 := hide (own_below HO1.out hb3); have HB3 := hide hb3; clear hb3 c3)
                | (at_builtin; refine app1_list (w := w3) rfl (.tmp 39) (.tmp 41) rfl HO3.out (Nat.le_trans HB1.out.size HB3.out.size) m (by omega) (by rfl) (by rfl) ?_; intro g6 c6 w6 hown hgr hat; have HO6 := hide hown; have HG6 := hide hgr; clear hown hgr hat))
              have hb3 := HB3.out
              have hB3 : Below w.heap.size w w3 := HB1.out.trans (hb3.mono HB1.out.size)
              have hm3 := (hb3.block _ (Array.getElem?_eq_some_iff.1 HM1.out).1).trans HM1.out
              exact ⟨⟨i + 1, some ⟨g6, 0, none⟩, c6, by omega, by go_num, rfl, hide (by rw [rng_snoc, HFV.out]; exact HO6.out), hide ((HG6.out.block _ (Array.getElem?_eq_some_iff.1 hm3).1 (fun e => own_ne HO3.out hm3 (by decide) e.symm)).trans hm3), hide (hB3.grown HG6.out hB3.size (fun x hx => (own_lt HO3.out x hx).1))⟩, by simp [intOf]; omega⟩
            . rw [decide_eq_false e4] at c3
              have HFV : Hid (f i = m + 1) := hide (by rw [HFI.out, if_neg e4])
              have hwm : IntKind.i64.wrap (m + 1) = m + 1 := wrapI _ (by omega) (by omega)
              go_wp2_with (first
                | (go_at_call 32; refine c3.mono ?_; rintro e w3 ⟨rfl, hb3⟩; have HO3 := hide (own_below HO1.out hb3); have HB3 := hide hb3; clear hb3 c3)
                | (at_builtin; refine app1_list (w := w3) rfl (.tmp 39) (.tmp 41) rfl HO3.out (Nat.le_trans HB1.out.size HB3.out.size) (m + 1) (by omega) (by rfl) (by rfl) ?_; intro g6 c6 w6 hown hgr hat; have HO6 := hide hown; have HG6 := hide hgr; clear hown hgr hat))
              have hb3 := HB3.out
              have hB3 : Below w.heap.size w w3 := HB1.out.trans (hb3.mono HB1.out.size)
              have hm3 := (hb3.block _ (Array.getElem?_eq_some_iff.1 HM1.out).1).trans HM1.out
              exact ⟨⟨i + 1, some ⟨g6, 0, none⟩, c6, by omega, by go_num, rfl, hide (by rw [rng_snoc, HFV.out]; exact HO6.out), hide ((HG6.out.block _ (Array.getElem?_eq_some_iff.1 hm3).1 (fun e => own_ne HO3.out hm3 (by decide) e.symm)).trans hm3), hide (hB3.grown HG6.out hB3.size (fun x hx => (own_lt HO3.out x hx).1))⟩, by simp [intOf]; omega⟩
      . obtain rfl : n = i := by omega
        have hd : decide ((n : Int) < (n : Int)) = false := decide_eq_false (by omega)
        go_wp2_with fail
        go_ret2
        show EPost w ((List.range n).map f) 0 _ _
        have hlr : ((List.range n).map f).length = n := by simp
        exact ⟨al, cl, by rw [hlr]; rfl, own_nsl HO1.out, by rw [hlr]; exact hn, HB1.out⟩
theorem dDepth (c : Circ) (f : Nat -> Int) (hE : EV c.ops f) (ao : Option Addr) (k : Nat) (w : World) (hC : Ci w c ao k) : Calls Tryd.prog 17 #[cV c ao k] w fun e w' => e = .returned (.tuple #[.int .i64 (if okC c then gr f c.ops.length else 0), .int .i64 (erC c)]) /\ Below w.heap.size w w' := by
  have c1 := fun V (h : Below w.heap.size w V) => dEarly c f hE ao k V (hC.below h)
  have HG : Hid (∀ i, (rwC c f).length = i -> gr (fun j => (rwC c f).getD j 0) i = if okC c then gr f c.ops.length else 0) := hide (fun i hi => by
    unfold rwC at *
    split at hi
    . rename_i h
      rw [if_pos h, if_pos h]
      rw [List.length_map, List.length_range] at hi
      subst hi
      exact gr_congr _ (fun j hj => by simp [List.getD, List.getElem?_range hj])
    . rename_i h
      rw [if_neg h, if_neg h]
      simp at hi
      subst hi
      rfl)
  have HR : Hid (∀ (j : Nat) (z : Int), (rwC c f)[j]? = some z -> 0 <= z /\ z <= 100000) := hide (fun j z hz => by
    unfold rwC at hz
    split at hz
    . rename_i h
      have hj : j < c.ops.length := by have := (List.getElem?_eq_some_iff.1 hz).1; simpa using this
      rw [rng_at f _ j hj] at hz
      cases hz
      have := ev_rng hE j hj
      have := (ok_wk h).2
      omega
    . simp at hz)
  clear hC hE
  unfold EPost at c1
  generalize (if okC c then gr f c.ops.length else 0) = G at *
  generalize erC c = er at *
  generalize rwC c f = l at *
  obtain ⟨q, b, ops⟩ := c
  unfold cV at *
  simp only at *
  generalize ops.length = n at *
  have hb1 := bnew w (.cells #[.int .i64 q, .int .i64 b, .slice ao n k] 24)
  have c1' := c1 _ hb1
  clear c1
  obtain ⟨N, hN⟩ : ∃ N, l.length = N := ⟨_, rfl⟩
  have HN := hide hN
  simp only [hN] at c1' HG
  clear hN
  go_enter Tryd.func17, Tryd.ntmps17
  go_wp2_with (go_at_call 8; refine c1'.mono ?_; rintro e w2 ⟨al, cl, rfl, hNs, hl, hb2⟩; have HNs := hide hNs; have HB2 := hide (hb1.trans (hb2.mono hb1.size)); clear hNs hb2 c1')
  go_loopw [6, 7] (fun vm vi wr => wr = w2 /\ ∃ (i : Nat) (m : Int), i <= N /\ vi = .int .i64 (i : Int) /\ vm = .int .i64 m /\ Hid (m = gr (fun j => l.getD j 0) i)) (fun _ vi _ => N - (intOf vi).toNat)
  case atStart => exact ⟨rfl, 0, 0, Nat.zero_le _, rfl, rfl, hide rfl⟩
  case round =>
    obtain ⟨rfl, i, m, hi, rfl, rfl, HM⟩ := hrel
    by_cases h : i < N
    . have hd : decide ((i : Int) < (N : Int)) = true := decide_eq_true (by omega)
      have hkk : (i : Int) < (N : Int) := by omega
      obtain ⟨z, hz⟩ : ∃ z, l[i]? = some z := ⟨_, List.getElem?_eq_getElem (by rw [HN.out]; exact h)⟩
      obtain ⟨g1, off1, rfl, hc⟩ := ns_cell HNs.out hz
      have hlc := World.block_lt_of_cell? _ _ hc
      have HM2 : Hid (max m z = gr (fun j => l.getD j 0) (i + 1)) := hide (by rw [gr, HM.out]; simp [List.getD, hz])
      clear hz
      go_wp2_with fail
      exact ⟨⟨trivial, i + 1, _, by omega, by go_num, by split <;> (congr 1; omega), HM2⟩, by simp [intOf]; omega⟩
    . obtain rfl : N = i := by omega
      have hd : decide ((N : Int) < (N : Int)) = false := decide_eq_false (by omega)
      have HGG : Hid (m = G) := hide (by rw [HM.out]; exact HG.out N rfl)
      go_wp2_with fail
      go_ret2
      rw [← HGG.out]
      exact ⟨rfl, HB2.out⟩
end Go.Proofs.YthndpbjplcphpaaDoor.Lay
