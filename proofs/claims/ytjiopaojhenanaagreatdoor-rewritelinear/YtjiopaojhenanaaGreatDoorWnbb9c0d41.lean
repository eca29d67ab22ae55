import Derived.Test.YtjiopaojhenanaaGreatDoorWn970ddbce
namespace Go.Proofs.YtjiopaojhenanaaGreatDoor.Cir
end Go.Proofs.YtjiopaojhenanaaGreatDoor.Cir
namespace Go.Proofs.YtjiopaojhenanaaGreatDoor.Gt
end Go.Proofs.YtjiopaojhenanaaGreatDoor.Gt
namespace Go.Proofs.YtjiopaojhenanaaGreatDoor.Oct
end Go.Proofs.YtjiopaojhenanaaGreatDoor.Oct
namespace Go.Proofs.YtjiopaojhenanaaGreatDoor.Tok
end Go.Proofs.YtjiopaojhenanaaGreatDoor.Tok
set_option maxRecDepth 100000
set_option maxHeartbeats 8000000
namespace Go.Proofs.YtjiopaojhenanaaGreatDoor.Rwt
open Go.RowKit Go.Shelf Go.Proofs.YtjiopaojhenanaaGreatDoor.Oct Go.Proofs.YtjiopaojhenanaaGreatDoor.Tok Go.Proofs.YtjiopaojhenanaaGreatDoor.Gt Go.Proofs.YtjiopaojhenanaaGreatDoor.Cir
theorem sCloneU_nil (ao : Option Addr) (c : Nat) (w : World) : Calls Tryz.prog 18 #[.slice ao 0 c] w fun e w' => (∃ a' c', e = .returned (.slice a' 0 c')) /\ Below w.heap.size w w' := by
  have heq := fun a n c w => Lib.run_eql_slice_nil (P := Tryz.prog) w a n c
  cases ao with
  | none =>
    go_enter Tryz.func18, Tryz.ntmps18
    go_wp2_with fail
    go_ret
    exact ⟨⟨_, _, rfl⟩, Below.refl _ _⟩
  | some a =>
    go_enter Tryz.func18, Tryz.ntmps18
    go_wp2_with fail
    go_ret
    exact ⟨⟨_, _, rfl⟩, bnew _ _⟩
abbrev wSy (w : World) (n : Nat) : World := (w.alloc (.cells #[.int .i64 0, .int .i64 0, .slice none 0 0] 24)).alloc (.cells #[.int .i64 (n : Int)] 3)
theorem wsy_keep {w V : World} {n : Nat} (h : Below (wSy w n).heap.size (wSy w n) V) : Below w.heap.size w V /\ V.heap[w.heap.size]? = some (.cells #[.int .i64 0, .int .i64 0, .slice none 0 0] 24 (0, 0)) /\ V.heap[w.heap.size + 1]? = some (.cells #[.int .i64 (n : Int)] 3 (0, 0)) := by
  have h1 := bnew w (.cells #[.int .i64 0, .int .i64 0, .slice none 0 0] 24)
  have h2 := bnew (w.alloc (.cells #[.int .i64 0, .int .i64 0, .slice none 0 0] 24)) (.cells #[.int .i64 (n : Int)] 3)
  have hs : (w.alloc (.cells #[.int .i64 0, .int .i64 0, .slice none 0 0] 24)).heap.size = w.heap.size + 1 := by simp
  have hs2 : (wSy w n).heap.size = w.heap.size + 2 := by simp [wSy]
  have k1 : (wSy w n).heap[w.heap.size]? = some (.cells #[.int .i64 0, .int .i64 0, .slice none 0 0] 24 (0, 0)) := (h2.block _ (by omega)).trans (heap_alloc_new _ _)
  have k2 : (wSy w n).heap[w.heap.size + 1]? = some (.cells #[.int .i64 (n : Int)] 3 (0, 0)) := by rw [← hs]; exact heap_alloc_new _ _
  exact ⟨bkp (bkp h1 h2) h, (h.block _ (by omega)).trans k1, (h.block _ (by omega)).trans k2⟩
theorem one_cell {w : World} {g : Nat} {x : Value} {t : TypeId} (h : w.heap[g]? = some (.cells #[x] t (0, 0))) : w.cell? ⟨g, 0, none⟩ = some x /\ g < w.heap.size :=
  ⟨cell_of_row _ _ 0 _ _ _ h, (Array.getElem?_eq_some_iff.1 h).1⟩
theorem rSynth_far (ao : Option Addr) (c n : Nat) (hn : 64 < n) (hn2 : n <= 1000000000000000) (w : World) : Calls Tryz.prog 6 #[.slice ao n c] w fun e w' => e = .returned (.tuple #[.agg #[.int .i64 0, .int .i64 0, .slice none 0 0], .int .i64 2]) /\ Below w.heap.size w w' := by
  obtain ⟨b0, m0, m1⟩ := wsy_keep (w := w) (n := n) (Below.refl _ _)
  obtain ⟨x0, x1, x2, x3⟩ := def_cells m0
  obtain ⟨y0, y1⟩ := one_cell m1
  have xf : ∀ i, (wSy w n).frozen? ⟨w.heap.size, i, none⟩ = false := fun i => by simp only [World.frozen?, m0]; simp
  have HB := hide b0
  have HM := hide m0
  have hd : decide ((64 : Int) < (n : Int)) = true := decide_eq_true (by omega)
  clear b0 m0 m1
  go_enter Tryz.func6, Tryz.ntmps6
  go_wp2_with fail
  refine bodyPost_ret (results_ct rfl _ _ w.heap.size _ _ _ _ rfl HM.out Tryz.underlying24 rfl (by exact infoCi18)) rfl ?_
  exact ⟨rfl, HB.out⟩
theorem rSynth_big (ao : Option Addr) (c : Nat) (rs : List Nat) (hr : ∀ x ∈ rs, x < 18446744073709551616) (hn : rs.length <= 64) (hbig : bigS rs = true) (w : World) (hA : Nu w ao (rs.map fun (x : Nat) => (x : Int))) : Calls Tryz.prog 6 #[.slice ao rs.length c] w fun e w' => e = .returned (.tuple #[.agg #[.int .i64 0, .int .i64 0, .slice none 0 0], .int .i64 2]) /\ Below w.heap.size w w' := by
  obtain ⟨b0, m0, m1⟩ := wsy_keep (w := w) (n := rs.length) (Below.refl _ _)
  obtain ⟨x0, x1, x2, x3⟩ := def_cells m0
  obtain ⟨y0, y1⟩ := one_cell m1
  have xf : ∀ i, (wSy w rs.length).frozen? ⟨w.heap.size, i, none⟩ = false := fun i => by simp only [World.frozen?, m0]; simp
  have cC := rContainsU (w.heap.size + 1) rs.length ao c rs hr hn (by omega) (wSy w rs.length) y0 (hA.below b0)
  rw [show decide (∃ x ∈ rs, 2 ^ rs.length <= x) = true from hbig] at cC
  have HB := hide b0
  have HM := hide m0
  have hd : decide ((64 : Int) < (rs.length : Int)) = false := decide_eq_false (by omega)
  clear b0 m0 m1 hA hbig
  generalize rs.length = n at *
  go_enter Tryz.func6, Tryz.ntmps6
  go_wp2_with (go_at_call 16; (with_reducible refine Calls.mono cC ?_); rintro e w2 ⟨rfl, rfl⟩)
  refine bodyPost_ret (results_ct rfl _ _ w.heap.size _ _ _ _ rfl HM.out Tryz.underlying24 rfl (by exact infoCi18)) rfl ?_
  exact ⟨rfl, HB.out⟩
theorem sy_bound {i n : Nat} (hi : i <= n) (hn : n <= 64) : i * (n + 1) <= 4160 := Nat.le_trans (Nat.mul_le_mul (Nat.le_trans hi hn) (Nat.succ_le_succ hn)) (by decide)
theorem sy_next {i n : Nat} : i * (n + 1) + 1 + n = (i + 1) * (n + 1) := by rw [Nat.succ_mul]; omega
theorem syn_none {rs : List Nat} {i : Nat} (hi : i <= rs.length) (h : syI rs.length i (rs, []) = none) : syn rs = none := by
  unfold syn
  rw [sy_none _ _ _ _ hi h]
  rfl
theorem syn_some {rs : List Nat} {s : GS} (h : syI rs.length rs.length (rs, []) = some s) : syn rs = some s.2 := by
  unfold syn
  rw [h]
  rfl
theorem ss_start {w2 : World} {B G q n : Nat} {rs : List Nat} (hs : Su w2 G q rs) (hl : rs.length = n) (hr : ∀ x ∈ rs, x < 18446744073709551616) (hG : B <= G) (hB : B <= w2.heap.size) : SS (w2.alloc (.cells #[.int .i64 1, .int .i64 0, .slice none 0 0, .int .i64 0, .int .i64 (-1), .int .i64 0, .slice none 0 0, .slice (some ⟨G, 0, none⟩) n q] 59)) B w2.heap.size G q n (0 * (n + 1)) (rs, []) :=
  have hnew := bnew w2 (.cells #[.int .i64 1, .int .i64 0, .slice none 0 0, .int .i64 0, .int .i64 (-1), .int .i64 0, .slice none 0 0, .slice (some ⟨G, 0, none⟩) n q] 59)
  ⟨⟨none, 0, 0, ⟨heap_alloc_new _ _, hB, opsown_nil _ _, Nat.le_trans hB hnew.size⟩⟩, hs.below hnew, ⟨hl, hr, Nat.zero_le _⟩, hG⟩
theorem fz_c18' {w : World} {g : Nat} {cs : Array Value} {t : TypeId} (h : w.heap[g]? = some (.cells cs t (0, 0))) (i : Nat) : w.frozen? ⟨g, i, none⟩ = false := by simp [World.frozen?, h]
theorem own_ne18' {w : World} {B n c : Nat} {bo : Option Addr} {l : List COp} (h : OpsOwn w B bo n c l) {x : Nat} {cs : Array Value} {t : TypeId} {fr : Nat × Nat} (hx : w.heap[x]? = some (.cells cs t fr)) (ht : t ≠ 49) : ob bo ≠ some x := by
  obtain ⟨xs, h1, h2, h3, h4, h5⟩ := h
  exact own_ne h3 hx ht
def SyP (w : World) (n : Nat) (r : Option (List (Nat × Nat))) (e : Ending) (w' : World) : Prop :=
  (r = none -> e = .returned (.tuple #[.agg #[.int .i64 0, .int .i64 0, .slice none 0 0], .int .i64 2])) /\ (∀ nt, r = some nt -> ∃ bo j, e = .returned (.tuple #[.agg #[.int .i64 (n : Int), .int .i64 0, .slice bo nt.length j], .int .i64 0]) /\ OpsOwn w' w.heap.size bo nt.length j (nt.map opS).reverse) /\ Below w.heap.size w w'
theorem rSynth_ok (ao : Option Addr) (c : Nat) (rs : List Nat) (hr : ∀ x ∈ rs, x < 18446744073709551616) (h0 : 0 < rs.length) (hn : rs.length <= 64) (hbig : bigS rs = false) (w : World) (hA : Nu w ao (rs.map fun (x : Nat) => (x : Int))) : Calls Tryz.prog 6 #[.slice ao rs.length c] w (SyP w rs.length (syn rs)) := by
  obtain ⟨b0, m0, m1⟩ := wsy_keep (w := w) (n := rs.length) (Below.refl _ _)
  obtain ⟨y0, y1⟩ := one_cell m1
  have cC := rContainsU (w.heap.size + 1) rs.length ao c rs hr hn (by omega) (wSy w rs.length) y0 (hA.below b0)
  rw [show decide (∃ x ∈ rs, 2 ^ rs.length <= x) = false from hbig] at cC
  have cL := sCloneU ao c rs h0 (by omega) (wSy w rs.length) (hA.below b0)
  have HS0 := hide (fun (G q : Nat) (w2 : World) (hu : UO w2 (wSy w rs.length).heap.size (.slice (some ⟨G, 0, none⟩) rs.length q) rs) (hb : Below (wSy w rs.length).heap.size (wSy w rs.length) w2) => (by
    obtain ⟨G', e', h1, h2⟩ := hu.su h0
    cases e'
    have h3 := (wsy_keep (w := w) (n := rs.length) (Below.refl _ _)).1.size
    have h4 := hb.size
    have hnew := bnew w2 (.cells #[.int .i64 1, .int .i64 0, .slice none 0 0, .int .i64 0, .int .i64 (-1), .int .i64 0, .slice none 0 0, .slice (some ⟨G, 0, none⟩) rs.length q] 59)
    have h5 : (wSy w rs.length).heap.size = w.heap.size + 2 := by simp [wSy]
    exact ⟨ss_start h2 rfl hr (by omega) (by omega), wsy_keep (bkp hb hnew), by omega⟩ : SS (w2.alloc (.cells #[.int .i64 1, .int .i64 0, .slice none 0 0, .int .i64 0, .int .i64 (-1), .int .i64 0, .slice none 0 0, .slice (some ⟨G, 0, none⟩) rs.length q] 59)) w.heap.size w2.heap.size G q rs.length (0 * (rs.length + 1)) (rs, []) /\ (Below w.heap.size w (w2.alloc (.cells #[.int .i64 1, .int .i64 0, .slice none 0 0, .int .i64 0, .int .i64 (-1), .int .i64 0, .slice none 0 0, .slice (some ⟨G, 0, none⟩) rs.length q] 59)) /\ (w2.alloc (.cells #[.int .i64 1, .int .i64 0, .slice none 0 0, .int .i64 0, .int .i64 (-1), .int .i64 0, .slice none 0 0, .slice (some ⟨G, 0, none⟩) rs.length q] 59)).heap[w.heap.size]? = some (.cells #[.int .i64 0, .int .i64 0, .slice none 0 0] 24 (0, 0)) /\ (w2.alloc (.cells #[.int .i64 1, .int .i64 0, .slice none 0 0, .int .i64 0, .int .i64 (-1), .int .i64 0, .slice none 0 0, .slice (some ⟨G, 0, none⟩) rs.length q] 59)).heap[w.heap.size + 1]? = some (.cells #[.int .i64 (rs.length : Int)] 3 (0, 0))) /\ w.heap.size + 2 <= G))
  have HSN := hide (fun i (hi : i <= rs.length) (h : syI rs.length i (rs, []) = none) => syn_none hi h)
  have HSE := hide (fun s (h : syI rs.length rs.length (rs, []) = some s) => syn_some h)
  have hd : decide ((64 : Int) < (rs.length : Int)) = false := decide_eq_false (by omega)
  clear b0 m0 m1 hA hbig hr
  generalize rs.length = n at *
  go_enter Tryz.func6, Tryz.ntmps6
  go_wp2_with (first
    | (go_at_call 16; (with_reducible refine Calls.mono cC ?_); rintro e w2 ⟨rfl, rfl⟩)
    | (go_at_call 18; (with_reducible refine Calls.mono cL ?_); rintro e w2 ⟨G, q, rfl, hu, hb⟩; obtain ⟨hs1, hs2, hs3⟩ := HS0.out G q w2 hu hb; have HG := hide hs3; have HS1 := hide hs1; have HW1 := hide hs2.1; have HM1 := hide hs2.2.1; have HN1 := hide hs2.2.2; obtain ⟨z0, z1⟩ := one_cell hs2.2.2; clear hu hb hs1 hs2 hs3 HS0 cC cL))
  generalize w2.alloc (.cells #[.int .i64 1, .int .i64 0, .slice none 0 0, .int .i64 0, .int .i64 (-1), .int .i64 0, .slice none 0 0, .slice (some ⟨G, 0, none⟩) n q] 59) = V1 at *
  generalize w2.heap.size = S at *
  go_loopw [6, 23] (fun _ vi wr => ∃ i : Nat, vi = .int .i64 (i : Int) /\ i <= n /\ Hid (∃ s, syI n i (rs, []) = some s /\ SS wr w.heap.size S G q n (i * (n + 1)) s) /\ Hid (Below w.heap.size V1 wr) /\ Hid (KpG G V1 wr)) (fun _ vi _ => n - (Go.RowKit.intOf vi).toNat)
  case atStart => exact ⟨0, rfl, Nat.zero_le _, hide ⟨(rs, []), rfl, HS1.out⟩, hide (Below.refl _ _), hide (KpG.refl _ _)⟩
  case round =>
    clear HS1
    obtain ⟨i, rfl, hi, HS, HB, HK⟩ := hrel
    by_cases h : i < n
    . have hd2 : decide ((i : Int) < (n : Int)) = true := decide_eq_true (by omega)
      have HX : Hid (∃ s, syI n i (rs, []) = some s /\ Calls Tryz.prog 19 #[.pointer (some ⟨S, 0, none⟩), .int .i64 (i : Int)] wr fun e w' => (clS n i s = none -> e = .returned (.bool false)) /\ (∀ s', clS n i s = some s' -> e = .returned (.bool true) /\ SS w' w.heap.size S G q n (i * (n + 1) + 1 + n) s') /\ Below w.heap.size V1 w' /\ KpG G V1 w') := hide (by
        obtain ⟨s, e1, e2⟩ := HS.out
        exact ⟨s, e1, rClear e2 HB.out HK.out i h hn (Nat.le_trans (sy_bound hi hn) (by decide))⟩)
      obtain ⟨s, hsy, cX⟩ := HX.out
      cases hcl : clS n i s with
      | none =>
        have HF : Hid (syn rs = none) := hide (HSN.out (i + 1) h (by simp only [syI]; rw [hsy]; exact hcl))
        have cX2 : Calls Tryz.prog 19 #[.pointer (some ⟨S, 0, none⟩), .int .i64 (i : Int)] wr fun e w' => e = .returned (.bool false) /\ Below w.heap.size V1 w' /\ KpG G V1 w' := cX.mono fun e w' h => ⟨h.1 hcl, h.2.2.1, h.2.2.2⟩
        clear cX HX hsy hcl
        go_wp2_with (go_at_call 19; (with_reducible refine Calls.mono cX2 ?_); rintro e w3 ⟨rfl, q1, q2⟩; have hm3 := (q2 _ _ _ _ HM1.out (by have := HG.out; omega) (by decide) (by decide)).trans HM1.out; obtain ⟨t0, t1, t2, t3⟩ := def_cells hm3; have tf : ∀ j, w3.frozen? ⟨w.heap.size, j, none⟩ = false := fun j => fz_c18' hm3 j; have HM3 := hide hm3; have HB3 := hide (HW1.out.trans q1); clear q1 q2 hm3)
        rw [c3_set18 _ _ _ _ _ _ _ _ _ HM3.out]
        refine bodyPost_ret (results_ct rfl _ _ w.heap.size _ _ _ _ rfl (setRow_heap _ _ _ _ _ _ HM3.out) Tryz.underlying24 rfl (by exact infoCi18)) rfl ?_
        exact ⟨fun _ => rfl, fun nt e => (by rw [HF.out] at e; cases e), Below.row HB3.out _ _ (Nat.le_refl _)⟩
      | some s' =>
        have HF : Hid (syI n (i + 1) (rs, []) = some s') := hide (by simp only [syI]; rw [hsy]; exact hcl)
        have cX2 : Calls Tryz.prog 19 #[.pointer (some ⟨S, 0, none⟩), .int .i64 (i : Int)] wr fun e w' => e = .returned (.bool true) /\ SS w' w.heap.size S G q n (i * (n + 1) + 1 + n) s' /\ Below w.heap.size V1 w' /\ KpG G V1 w' := cX.mono fun e w' h => ⟨(h.2.1 s' hcl).1, (h.2.1 s' hcl).2, h.2.2.1, h.2.2.2⟩
        clear cX HX hsy hcl
        go_wp2_with (go_at_call 19; (with_reducible refine Calls.mono cX2 ?_); rintro e w3 ⟨rfl, q0, q1, q2⟩; have HS3 : Hid (∃ s, syI n (i + 1) (rs, []) = some s /\ SS w3 w.heap.size S G q n ((i + 1) * (n + 1)) s) := hide ⟨s', HF.out, by rw [← sy_next]; exact q0⟩; have HB3 := hide q1; have HK3 := hide q2; clear q0 q1 q2)
        go_roundw
        case rel => exact ⟨i + 1, by go_num, by omega, HS3, HB3, HK3⟩
        case measure => simp [Go.RowKit.intOf]; omega
    . obtain rfl : n = i := by omega
      have hd2 : decide ((n : Int) < (n : Int)) = false := decide_eq_false (by omega)
      obtain ⟨s, hsy, hSS⟩ := HS.out
      have HF := hide (HSE.out s hsy)
      obtain ⟨bo, n2, j, hSol⟩ := hSS.sol
      have hn2 := own_len18 hSol.ops
      rw [List.length_map] at hn2
      obtain ⟨-, -, -, -, -, -, v6, -, vS⟩ := sol_cells hSol.hd
      have hO := hSol.ops
      have cR := iReverse (s.2.map opS) bo j w.heap.size wr (by rw [List.length_map, ← hn2]; exact hO)
      rw [List.length_map, ← hn2] at cR
      have mM := (HK.out _ _ _ _ HM1.out (by have := HG.out; omega) (by decide) (by decide)).trans HM1.out
      have mN := (HK.out _ _ _ _ HN1.out (by have := HG.out; omega) (by decide) (by decide)).trans HN1.out
      have HR : Hid (∀ w4 : World, (∀ b, ob bo ≠ some b -> w4.heap[b]? = wr.heap[b]?) -> w4.heap[w.heap.size]? = some (.cells #[.int .i64 0, .int .i64 0, .slice none 0 0] 24 (0, 0)) /\ w4.heap[w.heap.size + 1]? = some (.cells #[.int .i64 (n : Int)] 3 (0, 0)) /\ w4.cell? ⟨S, 6, none⟩ = some (.slice bo n2 j) /\ S < w4.heap.size) := hide (fun w4 hk => by
        have k3 := (hk S (own_ne18' hO hSol.hd (by decide))).trans hSol.hd
        obtain ⟨-, -, -, -, -, -, u6, -, uS⟩ := sol_cells k3
        exact ⟨(hk _ (own_ne18' hO mM (by decide))).trans mM, (hk _ (own_ne18' hO mN (by decide))).trans mN, u6, uS⟩)
      have HBW := hide (HW1.out.trans HB.out)
      have HN2 := hide hn2
      clear hsy hSS hSol hn2 hO mM mN HS HSE HSN
      go_wp2_with (go_at_call 20; (with_reducible refine Calls.mono cR ?_); rintro e w4 ⟨rfl, q1, q2, q3⟩; obtain ⟨hm4, hn4, s6, sS⟩ := HR.out w4 q2; obtain ⟨t0, t1, t2, t3⟩ := def_cells hm4; obtain ⟨a0, a1⟩ := one_cell hn4; have tf : ∀ j, w4.frozen? ⟨w.heap.size, j, none⟩ = false := fun j => fz_c18' hm4 j; have HM4 := hide hm4; have HB4 := hide (HBW.out.trans q3); have HO4 := hide q1; clear q1 q2 q3 hm4 hn4)
      rw [c3_set18 _ _ _ _ _ _ _ _ _ HM4.out]
      refine bodyPost_ret (results_ct rfl _ _ w.heap.size _ _ _ _ rfl (setRow_heap _ _ _ _ _ _ HM4.out) Tryz.underlying24 rfl (by exact infoCi18)) rfl ?_
      refine ⟨fun e => (by rw [HF.out] at e; cases e), fun nt e => ?_, Below.row HB4.out _ _ (Nat.le_refl _)⟩
      rw [HF.out] at e
      cases e
      rw [← HN2.out]
      exact ⟨bo, j, rfl, HO4.out.row HM4.out (by decide) (by decide) _⟩
theorem rSynth_zero (ao : Option Addr) (c : Nat) (w : World) : Calls Tryz.prog 6 #[.slice ao 0 c] w (SyP w 0 (some [])) := by
  obtain ⟨b0, m0, m1⟩ := wsy_keep (w := w) (n := 0) (Below.refl _ _)
  obtain ⟨y0, y1⟩ := one_cell m1
  have cC := rContainsU (w.heap.size + 1) 0 ao c [] (fun _ h => nomatch h) (by decide) (by decide) (wSy w 0) y0 (.inl rfl)
  rw [show decide (∃ x ∈ ([] : List Nat), 2 ^ 0 <= x) = false from decide_eq_false (fun ⟨_, h, _⟩ => nomatch h)] at cC
  have cL := sCloneU_nil ao c (wSy w 0)
  have HK := hide (fun V (h : Below (wSy w 0).heap.size (wSy w 0) V) => wsy_keep h)
  have hz : ((0 : Nat) : Int) = 0 := rfl
  simp only [List.length_nil, hz] at *
  clear b0 m0 m1
  go_enter Tryz.func6, Tryz.ntmps6
  go_wp2_with (first
    | (go_at_call 16; (with_reducible refine Calls.mono cC ?_); rintro e w2 ⟨rfl, rfl⟩)
    | (go_at_call 18; (with_reducible refine Calls.mono cL ?_); rintro e w2 ⟨⟨a2, c2, rfl⟩, hb⟩; have hnew := bnew w2 (.cells #[.int .i64 1, .int .i64 0, .slice none 0 0, .int .i64 0, .int .i64 (-1), .int .i64 0, .slice none 0 0, .slice a2 0 c2] 59); obtain ⟨k1, k2, k3⟩ := HK.out _ (bkp hb hnew); have HW := hide k1; have HM := hide k2; have HN := hide k3; have HSv : Hid ((w2.alloc (.cells #[.int .i64 1, .int .i64 0, .slice none 0 0, .int .i64 0, .int .i64 (-1), .int .i64 0, .slice none 0 0, .slice a2 0 c2] 59)).heap[w2.heap.size]? = _) := hide (heap_alloc_new _ _); obtain ⟨z0, z1⟩ := one_cell k3; clear hb hnew k1 k2 k3 cC cL))
  generalize w2.alloc (.cells #[.int .i64 1, .int .i64 0, .slice none 0 0, .int .i64 0, .int .i64 (-1), .int .i64 0, .slice none 0 0, .slice a2 0 c2] 59) = V1 at *
  generalize w2.heap.size = S at *
  obtain ⟨-, -, -, -, -, -, v6, -, vS⟩ := sol_cells HSv.out
  have cR := iReverse [] none 0 w.heap.size V1 (opsown_nil _ _)
  simp only [List.length_nil] at cR
  have HR : Hid (∀ w4 : World, (∀ b, ob none ≠ some b -> w4.heap[b]? = V1.heap[b]?) -> w4.heap[w.heap.size]? = some (.cells #[.int .i64 0, .int .i64 0, .slice none 0 0] 24 (0, 0)) /\ w4.heap[w.heap.size + 1]? = some (.cells #[.int .i64 0] 3 (0, 0)) /\ w4.cell? ⟨S, 6, none⟩ = some (.slice none 0 0) /\ S < w4.heap.size) := hide (fun w4 hk => by
    have k3 := (hk S (fun e => by cases e)).trans HSv.out
    obtain ⟨-, -, -, -, -, -, u6, -, uS⟩ := sol_cells k3
    exact ⟨(hk _ (fun e => by cases e)).trans HM.out, (hk _ (fun e => by cases e)).trans HN.out, u6, uS⟩)
  go_loopw [6, 23] (fun _ vi wr => wr = V1 /\ vi = .int .i64 0) (fun _ _ _ => 0)
  case atStart => exact ⟨rfl, rfl⟩
  case round =>
    obtain ⟨rfl, rfl⟩ := hrel
    go_wp2_with (go_at_call 20; (with_reducible refine Calls.mono cR ?_); rintro e w4 ⟨rfl, q1, q2, q3⟩; obtain ⟨hm4, hn4, s6, sS⟩ := HR.out w4 q2; obtain ⟨t0, t1, t2, t3⟩ := def_cells hm4; obtain ⟨a0, a1⟩ := one_cell hn4; have tf : ∀ j, w4.frozen? ⟨w.heap.size, j, none⟩ = false := fun j => fz_c18' hm4 j; have HM4 := hide hm4; have HB4 := hide (HW.out.trans q3); have HO4 := hide q1; clear q1 q2 q3 hm4 hn4)
    rw [c3_set18 _ _ _ _ _ _ _ _ _ HM4.out]
    refine bodyPost_ret (results_ct rfl _ _ w.heap.size _ _ _ _ rfl (setRow_heap _ _ _ _ _ _ HM4.out) Tryz.underlying24 rfl (by exact infoCi18)) rfl ?_
    refine ⟨fun e => (by cases e), fun nt e => ?_, Below.row HB4.out _ _ (Nat.le_refl _)⟩
    cases e
    exact ⟨none, 0, rfl, HO4.out.row HM4.out (by decide) (by decide) _⟩
theorem SyP.of_none {w : World} {n : Nat} {e : Ending} {w' : World} (h : e = .returned (.tuple #[.agg #[.int .i64 0, .int .i64 0, .slice none 0 0], .int .i64 2]) /\ Below w.heap.size w w') : SyP w n none e w' := ⟨fun _ => h.1, fun _ e => (by cases e), h.2⟩
theorem rSynth (ao : Option Addr) (c : Nat) (rs : List Nat) (hr : ∀ x ∈ rs, x < 18446744073709551616) (hl : rs.length <= 1000000000000000) (w : World) (hA : Nu w ao (rs.map fun (x : Nat) => (x : Int))) : Calls Tryz.prog 6 #[.slice ao rs.length c] w (SyP w rs.length (syP rs)) := by
  unfold syP
  by_cases h1 : 64 < rs.length
  . rw [if_pos h1]
    exact (rSynth_far ao c rs.length h1 hl w).mono fun _ _ h => .of_none h
  rw [if_neg h1]
  by_cases h2 : bigS rs = true
  . rw [if_pos h2]
    exact (rSynth_big ao c rs hr (by omega) h2 w hA).mono fun _ _ h => .of_none h
  rw [if_neg h2]
  have h2 : bigS rs = false := by simpa using h2
  by_cases h0 : 0 < rs.length
  . exact rSynth_ok ao c rs hr h0 (by omega) h2 w hA
  . obtain rfl : rs = [] := List.length_eq_zero_iff.1 (by omega)
    exact rSynth_zero ao c w
end Go.Proofs.YtjiopaojhenanaaGreatDoor.Rwt
