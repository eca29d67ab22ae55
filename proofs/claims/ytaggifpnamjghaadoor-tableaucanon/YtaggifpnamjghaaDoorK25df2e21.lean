import Derived.Test.YtaggifpnamjghaaDoorK5c7418e1
set_option maxRecDepth 100000
set_option maxHeartbeats 4000000
namespace Go.Proofs.YtaggifpnamjghaaDoor.Pau
open Go.RowKit Go.Shelf Go.Proofs.YtaggifpnamjghaaDoor.Oct Go.Proofs.YtaggifpnamjghaaDoor.Gt
def thrOk (k : Int) (l : List Int) (p : P) : Bool := rt p && clB (rw' k) && decide (chkP k l p.n = 0)
def thrR (k : Int) (l : List Int) (p : P) : P × Int := if thrOk k l p = true then (thrP k.toNat (l.map Int.toNat) p, 0) else (oP, 130)
theorem cl_tab : ∀ k : Fin 21, clB (tab.getD k.1 r0) = true -> 1 <= k.1 /\ k.1 <= 17 /\ (tab.getD k.1 r0).q = if k.1 <= 10 then 1 else 2 := by decide
theorem cl_rng {k : Int} (h : clB (rw' k) = true) : 1 <= k /\ k <= 17 /\ (rw' k).q = if k <= 10 then 1 else 2 := by
  unfold rw' at h ⊢
  by_cases hk : 0 <= k /\ k < 21
  . rw [if_pos hk] at h ⊢
    obtain ⟨h1, h2, h3⟩ := cl_tab ⟨k.toNat, by omega⟩ h
    simp only at h1 h2 h3
    refine ⟨by omega, by omega, ?_⟩
    rw [h3]
    split <;> split <;> omega
  . rw [if_neg hk] at h
    exact absurd h (by decide)
theorem apG_pos (l : List Int) : ∀ m i, apG l m i = true -> ∀ j, i <= j -> j < i + m -> 0 <= l.getD j 0
  | 0, _, _, j, h1, h2 => absurd h2 (by omega)
  | m + 1, i, h, j, h1, h2 => by
    rw [apG, Bool.and_eq_true, Bool.and_eq_true] at h
    by_cases e : j = i
    . subst e; exact of_decide_eq_true h.1.1
    . exact apG_pos l m (i + 1) h.2 j (by omega) (by omega)
theorem chk_qs {k : Int} {l : List Int} {n : Int} (h : chkP k l n = 0) (hq : (rw' k).q <= 2) (hn : n <= 64) (h0 : 1 <= (rw' k).q) : im64 (l.map Int.toNat) = l /\ Qs (l.map Int.toNat) n := by
  unfold chkP at h
  split at h
  . cases h
  . split at h
    . cases h
    . split at h
      . cases h
      . rename_i h1 h2 h3
        have h2' : apP (rw' k).q l = true := by simpa using h2
        unfold apP at h2'
        rw [Bool.and_eq_true] at h2'
        have hlen := of_decide_eq_true h2'.1
        have hpos : ∀ j, j < l.length -> 0 <= l.getD j 0 := fun j hj => apG_pos l _ 0 h2'.2 j (by omega) (by omega)
        have hlt : ∀ j, j < l.length -> l.getD j 0 < n := fun j hj => by
          rcases Int.lt_or_le (l.getD j 0) n with g | g
          . exact g
          . exact absurd ((mxG_ge l n (l.length - 1)).2 ⟨j, by omega, g⟩) h3
        have hmem : ∀ q ∈ l, 0 <= q /\ q < n := fun q hq => by
          obtain ⟨j, hj⟩ := List.getElem?_of_mem hq
          have hjl := (List.getElem?_eq_some_iff.1 hj).1
          have e : l.getD j 0 = q := by rw [List.getD_eq_getElem?_getD, hj]; rfl
          exact ⟨e ▸ hpos j hjl, e ▸ hlt j hjl⟩
        refine ⟨?_, ⟨fun q hq => ?_, fun q hq => ?_, ?_⟩⟩
        . unfold im64
          rw [List.map_map]
          refine (List.map_congr_left (fun q hq => ?_)).trans (List.map_id l)
          have := (hmem q hq).1
          show ((q.toNat : Nat) : Int) = q
          omega
        . obtain ⟨z, hz, rfl⟩ := List.mem_map.1 hq
          have := hmem z hz
          omega
        . obtain ⟨z, hz, rfl⟩ := List.mem_map.1 hq
          have := hmem z hz
          omega
        . rw [List.length_map]
          omega
theorem pThrough_no (p : P) (hp : Wd p) (k : Int) (l : List Int) (hf : thrOk k l p = false) (hl : l.length <= 1000000000000000) (ao : Option Addr) (c : Nat) (hc : l.length <= c) (w : World) (hT : Tb w) (hN : Ns w ao l) :
    Calls Tryd.prog 65 #[pV p, .int .i64 k, .slice ao l.length c] w fun e w' => e = .returned (.tuple #[pV oP, .int .i64 130]) /\ Below w.heap.size w w' := by
  have c1 := fun W => pCheck p hp W
  unfold ck at c1
  have c2 := fun W (h : Below w.heap.size w W) => gClifford k W (hT.below h)
  have c3 := fun W (h : Below w.heap.size w W) => gCheck k ao c l p.n hl hc W (hT.below h) (hN.below h)
  unfold thrOk at hf
  generalize hck : chkP k l p.n = z1 at *
  generalize clB (rw' k) = b1 at *
  generalize rt p = r at *
  obtain ⟨n, x, z, ph⟩ := p
  unfold oP pV at *
  simp only at *
  obtain ⟨G1, G2⟩ := At4.two w (.int .i64 n) (.int .u64 (x : Int)) (.int .u64 (z : Int)) (.int .i64 ph) (.int .i64 0) (.int .u64 0) (.int .u64 0) (.int .i64 0)
  have HG1 := hide G1
  have HG2 := hide G2
  have HBw := hide (bkp (bnew w (.cells #[.int .i64 n, .int .u64 (x : Int), .int .u64 (z : Int), .int .i64 ph] 32)) (bnew _ (.cells #[.int .i64 0, .int .u64 0, .int .u64 0, .int .i64 0] 32)))
  clear G1 G2 hN hT hp
  generalize l.length = m at *
  cases r
  . simp only [Bool.false_eq_true, if_false] at c1
    go_enter Tryd.func65, Tryd.ntmps65
    go_wp2_with fail
    refine (c1 _).mono ?_
    rintro e w1 ⟨rfl, hb1⟩
    have HB1 := hide (bkp HBw.out hb1)
    have hR := HG2.out.below hb1
    obtain ⟨x0, x1, x2, x3, x4⟩ := (HG1.out.below hb1).cells
    unfold At4 at hR
    clear hb1 HG1 HG2 c1 c2 c3
    go_wp2_with (first
      | (refine wpList_store_row rfl _ _ _ rfl (w.heap.size + 1) _ rfl rfl _ _ hR (by exact infoP) (by rfl) (allP _ _ _ _) ?_))
    refine bodyPost_ret (results_ct rfl _ _ (w.heap.size + 1) _ _ _ _ rfl (setRow_heap _ _ _ _ _ _ hR) Tryd.underlying32 rfl (by exact infoP)) rfl ?_
    exact ⟨rfl, below_setRow HB1.out (by omega) _⟩
  . simp only [if_true] at c1
    go_enter Tryd.func65, Tryd.ntmps65
    go_wp2_with fail
    refine (c1 _).mono ?_
    rintro e w1 ⟨rfl, hb1⟩
    have HB1 := hide (bkp HBw.out hb1)
    have K1 := hide (HG1.out.below hb1)
    have K2 := hide (HG2.out.below hb1)
    obtain ⟨x0, x1, x2, x3, x4⟩ := K1.out.cells
    clear hb1 HG1 HG2 HBw c1
    go_wp2_with fail
    refine (c2 _ HB1.out).mono ?_
    rintro e w2 ⟨rfl, hb2⟩
    have HB2 := hide (bkp HB1.out hb2)
    have L1 := hide (K1.out.below hb2)
    have L2 := hide (K2.out.below hb2)
    clear hb2 K1 K2 HB1 c2 x0 x1 x2 x3 x4
    obtain ⟨x0, x1, x2, x3, x4⟩ := L1.out.cells
    cases b1
    . have hR := L2.out
      unfold At4 at hR
      go_wp2_with (first
        | (refine wpList_store_row rfl _ _ _ rfl (w.heap.size + 1) _ rfl rfl _ _ hR (by exact infoP) (by rfl) (allP _ _ _ _) ?_))
      refine bodyPost_ret (results_ct rfl _ _ (w.heap.size + 1) _ _ _ _ rfl (setRow_heap _ _ _ _ _ _ hR) Tryd.underlying32 rfl (by exact infoP)) rfl ?_
      exact ⟨rfl, below_setRow HB2.out (by omega) _⟩
    . have hz : z1 ≠ 0 := fun e => by subst e; simp at hf
      have hz' : (z1 != 0) = true := bne_iff_ne.2 hz
      go_wp2_with fail
      refine (c3 _ HB2.out).mono ?_
      rintro e w3 ⟨rfl, hb3⟩
      have hR := L2.out.below hb3
      have HB3 := hide (bkp HB2.out hb3)
      unfold At4 at hR
      clear hb3 x0 x1 x2 x3 x4 L1 L2 c3
      go_wp2_with (first
        | (refine wpList_store_row rfl _ _ _ rfl (w.heap.size + 1) _ rfl rfl _ _ hR (by exact infoP) (by rfl) (allP _ _ _ _) ?_))
      refine bodyPost_ret (results_ct rfl _ _ (w.heap.size + 1) _ _ _ _ rfl (setRow_heap _ _ _ _ _ _ hR) Tryd.underlying32 rfl (by exact infoP)) rfl ?_
      exact ⟨rfl, below_setRow HB3.out (by omega) _⟩
theorem pThrough (p : P) (hp : Wd p) (k : Int) (l : List Int) (hl : l.length <= 1000000000000000) (ao : Option Addr) (c : Nat) (hc : l.length <= c) (w : World) (hT : Tb w) (hS : Ts w) (hI : Ti w) (hN : Ns w ao l) :
    Calls Tryd.prog 65 #[pV p, .int .i64 k, .slice ao l.length c] w fun e w' => e = .returned (.tuple #[pV (thrR k l p).1, .int .i64 (thrR k l p).2]) /\ Below w.heap.size w w' := by
  unfold thrR
  cases hf : thrOk k l p with
  | false =>
    rw [if_neg (by decide)]
    exact pThrough_no p hp k l hf hl ao c hc w hT hN
  | true =>
    rw [if_pos rfl]
    unfold thrOk at hf
    rw [Bool.and_eq_true, Bool.and_eq_true, decide_eq_true_eq] at hf
    obtain ⟨⟨h1, h2⟩, h3⟩ := hf
    obtain ⟨k1, k2, k3⟩ := cl_rng h2
    have hn := (rt_iff.1 h1).2.1
    obtain ⟨e1, e2⟩ := chk_qs h3 (by rw [k3]; split <;> omega) hn (by rw [k3]; split <;> omega)
    have ek : ((k.toNat : Nat) : Int) = k := by omega
    have hlen : (l.map Int.toNat).length = l.length := List.length_map ..
    have := pThrough_ok p hp h1 k.toNat (by omega) (l.map Int.toNat) e2 (by rw [ek]; exact h2) (by rw [ek, e1]; exact h3) ao c (by rw [hlen]; exact hc) w hT hS hI (by rw [e1]; exact hN)
    rw [ek, hlen] at this
    exact this
end Go.Proofs.YtaggifpnamjghaaDoor.Pau
