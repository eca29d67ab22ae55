/- Sums from the left and by halves, of both packages, as they are walked. -/
import Derived.Test.YtnpdfkcjjedamaaGreatDoorYg
import Derived.Deep.RegionWith
namespace Go.Proofs.YtnpdfkcjjedamaaGreatDoor.Sca
open Go.RowKit Go.Lib Go.Shelf Go.Proofs.YtnpdfkcjjedamaaGreatDoor.Oct

/-- One sum, a NaN's bits drawn. -/
def addAt (x y : Nat) (w : World) : Nat := (floatBits .add .f64 x y).getD (nanAt x y w)
def addW (x y : Nat) (w : World) : World := if (floatBits .add .f64 x y).isSome then w else w.drew
theorem run_add (x y : Nat) (t : TypeId) (w : World) : (binOp .add t (.float .f64 x) (.float .f64 y)).run Tryz.prog w = .ok (.float .f64 (addAt x y w)) (addW x y w) := by
  unfold addAt addW
  cases h : floatBits .add .f64 x y with
  | none => exact run_float_nan w .add (by simp) t x y h
  | some r => exact run_float_arith w .add t .f64 x y r h
theorem addW_drewN (x y : Nat) (w : World) : ∃ q, addW x y w = w.drewN q := by
  unfold addW
  split
  · exact ⟨0, rfl⟩
  · exact ⟨1, rfl⟩
/-- A sum, NaNs' bits set aside. -/
def fa (x y : Nat) : Nat := can ((floatBits .add .f64 x y).getD 9221120237041090561)
theorem nan_nan : 9218868437227405312 < mg 9221120237041090561 := by decide +kernel
theorem addAt_lt (x y : Nat) (w : World) : addAt x y w < 18446744073709551616 := by
  unfold addAt
  cases h : floatBits .add .f64 x y with
  | none => exact (nanAt_nan x y w).2
  | some r =>
    have := floatBits_wf h
    simpa [Lit.wf] using this
theorem addAt_can (x y : Nat) (w : World) : can (addAt x y w) = fa (can x) (can y) := by
  have key : ∀ a b : Nat, floatBits .add .f64 a b = floatBits .add .f64 (can a) (can b) := fun a b => by
    by_cases ha : 9218868437227405312 < mg a
    · rw [add_nan a b ha, can_nan a ha, add_nan _ _ nan_nan]
    · rw [can_num a ha]
      by_cases hb : 9218868437227405312 < mg b
      · rw [add_nan_right b a hb, can_nan b hb, add_nan_right _ _ nan_nan]
      · rw [can_num b hb]
  unfold addAt fa
  rw [← key x y]
  cases floatBits .add .f64 x y with
  | none => rw [Option.getD_none, Option.getD_none, can_nan _ (nanAt_nan x y w).1, can_nan _ nan_nan]
  | some r => rfl
theorem sumC_nil : can 0 = List.foldl (fun c x => fa c (can x)) 0 [] := by decide +kernel
def sumC (l : List Nat) : Nat := l.foldl (fun c x => fa c (can x)) 0
theorem sumC_snoc (l : List Nat) (x : Nat) : sumC (l ++ [x]) = fa (sumC l) (can x) := by simp [sumC]
/-- Floats that lie in a row. -/
def Fl (w : World) (ao : Option Addr) (bs : List Nat) : Prop := bs = [] ∨ ∃ g off, ao = some ⟨g, off, none⟩ ∧ ∀ (j : Nat) b, bs[j]? = some b → w.cell? ⟨g, off + j, none⟩ = some (.float .f64 b)
theorem Fl.of_own {w : World} {B : Nat} {e : TypeId} {ao : Option Addr} {n c : Nat} {l : List Nat} (h : w.ownsRow B e 1 (.slice ao n c) n (fv l)) : Fl w ao l := by
  rcases own_some h with ⟨_, _, _, h0⟩ | ⟨g, rfl⟩
  · exact .inl h0
  · exact .inr ⟨g, 0, rfl, own_cells h⟩
theorem cell_drewN (w : World) (q : Nat) (p : Addr) : (w.drewN q).cell? p = w.cell? p := rfl
set_option maxRecDepth 100000 in
theorem sSum (ao : Option Addr) (n c : Nat) (bs : List Nat) (w : World) (hn : bs.length = n) (hn1 : n ≤ 17592186044416) (hF : Fl w ao bs) :
    Calls Tryz.prog 7 #[.slice ao n c] w fun e w' => ∃ r, e = .returned (.float .f64 r) ∧ r < 18446744073709551616 ∧ can r = sumC bs ∧ ∃ q, w' = w.drewN q := by
  have HF : Hid (Fl w ao bs) := hF
  clear hF
  go_enter Tryz.func7, Tryz.ntmps7
  go_wp2
  go_loopw [3, 8] (fun vs vi wr => ∃ (k E : Nat), vs = .float .f64 E ∧ vi = .int .i64 (k : Int) ∧ k ≤ n ∧ Hid (∃ q, wr = w.drewN q) ∧ Hid (can E = sumC (bs.take k)) ∧ E < 18446744073709551616) (fun _ vi _ => n - (Go.RowKit.intOf vi).toNat)
  case atStart => exact ⟨0, 0, rfl, rfl, Nat.zero_le _, ⟨0, rfl⟩, sumC_nil, by decide⟩
  case round =>
    obtain ⟨k, E, rfl, rfl, hk, HQ, HE, hEl⟩ := hrel
    by_cases hkn : k < n
    · have hkz : decide ((k : Int) < (n : Int)) = true := decide_eq_true (by omega)
      obtain ⟨x, hx⟩ : ∃ x, bs[k]? = some x := ⟨bs[k]'(by omega), List.getElem?_eq_getElem _⟩
      have hne : bs ≠ [] := fun e => by rw [e] at hx; simp at hx
      obtain ⟨g, off, rfl, hcell⟩ := HF.out.resolve_left hne
      have hxc : wr.cell? ⟨g, off + k, none⟩ = some (.float .f64 x) := by
        obtain ⟨q, hq⟩ := HQ.out
        rw [hq, cell_drewN]
        exact hcell k x hx
      have HS : Hid (sumC (bs.take (k + 1)) = fa (sumC (bs.take k)) (can x)) := by show _ = _; rw [List.take_add_one, hx]; exact sumC_snoc _ x
      have ha := fun t w => run_add E x t w
      have HA : Hid (can (addAt E x wr) = sumC (bs.take (k + 1))) := by show _ = _; rw [addAt_can, HE.out, HS.out]
      have HQ2 : Hid (∃ q, addW E x wr = w.drewN q) := by
        obtain ⟨q, hq⟩ := HQ.out
        obtain ⟨q2, hq2⟩ := addW_drewN E x wr
        exact ⟨q + q2, by rw [hq2, hq, World.drewN_drewN]⟩
      have hAl := addAt_lt E x wr
      clear hcell hne hx HE HS HQ
      go_wp2
      exact ⟨⟨k + 1, _, rfl, by go_num, by omega, HQ2, HA, hAl⟩, by simp [Go.RowKit.intOf]; omega⟩
    · obtain rfl : k = n := by omega
      rw [show bs.take k = bs from by rw [← hn, List.take_length]] at HE
      go_wp2
      go_ret
      exact ⟨E, rfl, hEl, HE.out, HQ.out⟩
set_option maxRecDepth 100000 in
theorem qSum (ao : Option Addr) (n c : Nat) (bs : List Nat) (w : World) (hn : bs.length = n) (hn1 : n ≤ 17592186044416) (hF : Fl w ao bs) :
    Calls Tryz.prog 11 #[.slice ao n c] w fun e w' => ∃ r, e = .returned (.float .f64 r) ∧ r < 18446744073709551616 ∧ can r = sumC bs ∧ ∃ q, w' = w.drewN q := by
  have HF : Hid (Fl w ao bs) := hF
  clear hF
  go_enter Tryz.func11, Tryz.ntmps11
  go_wp2
  go_loopw [3, 4] (fun vs vi wr => ∃ (k E : Nat), vs = .float .f64 E ∧ vi = .int .i64 (k : Int) ∧ k ≤ n ∧ Hid (∃ q, wr = w.drewN q) ∧ Hid (can E = sumC (bs.take k)) ∧ E < 18446744073709551616) (fun _ vi _ => n - (Go.RowKit.intOf vi).toNat)
  case atStart => exact ⟨0, 0, rfl, rfl, Nat.zero_le _, ⟨0, rfl⟩, sumC_nil, by decide⟩
  case round =>
    obtain ⟨k, E, rfl, rfl, hk, HQ, HE, hEl⟩ := hrel
    by_cases hkn : k < n
    · have hkz : decide ((k : Int) < (n : Int)) = true := decide_eq_true (by omega)
      obtain ⟨x, hx⟩ : ∃ x, bs[k]? = some x := ⟨bs[k]'(by omega), List.getElem?_eq_getElem _⟩
      have hne : bs ≠ [] := fun e => by rw [e] at hx; simp at hx
      obtain ⟨g, off, rfl, hcell⟩ := HF.out.resolve_left hne
      have hxc : wr.cell? ⟨g, off + k, none⟩ = some (.float .f64 x) := by
        obtain ⟨q, hq⟩ := HQ.out
        rw [hq, cell_drewN]
        exact hcell k x hx
      have HS : Hid (sumC (bs.take (k + 1)) = fa (sumC (bs.take k)) (can x)) := by show _ = _; rw [List.take_add_one, hx]; exact sumC_snoc _ x
      have ha := fun t w => run_add E x t w
      have HA : Hid (can (addAt E x wr) = sumC (bs.take (k + 1))) := by show _ = _; rw [addAt_can, HE.out, HS.out]
      have HQ2 : Hid (∃ q, addW E x wr = w.drewN q) := by
        obtain ⟨q, hq⟩ := HQ.out
        obtain ⟨q2, hq2⟩ := addW_drewN E x wr
        exact ⟨q + q2, by rw [hq2, hq, World.drewN_drewN]⟩
      have hAl := addAt_lt E x wr
      clear hcell hne hx HE HS HQ
      go_wp2
      exact ⟨⟨k + 1, _, rfl, by go_num, by omega, HQ2, HA, hAl⟩, by simp [Go.RowKit.intOf]; omega⟩
    · obtain rfl : k = n := by omega
      rw [show bs.take k = bs from by rw [← hn, List.take_length]] at HE
      go_wp2
      go_ret
      exact ⟨E, rfl, hEl, HE.out, HQ.out⟩
def pairF : Nat → List Nat → Nat
  | 0, _ => 0
  | f + 1, l => if l.length = 0 then 0 else if l.length = 1 then can (l.headD 0) else fa (pairF f (l.take ((l.length + 1) / 2))) (pairF f (l.drop ((l.length + 1) / 2)))
set_option maxRecDepth 100000 in
set_option maxHeartbeats 1000000 in
theorem sPairs_some (mixed : Tryz.prog.follows .mixedOrders = true) : ∀ (f n : Nat), n ≤ f → ∀ (g off c : Nat) (bs : List Nat) (w : World), bs.length = n → n ≤ 17592186044416 → n ≤ c → (∀ (j : Nat) b, bs[j]? = some b → b < 18446744073709551616 ∧ w.cell? ⟨g, off + j, none⟩ = some (.float .f64 b)) →
    Calls Tryz.prog 8 #[.slice (some ⟨g, off, none⟩) n c] w fun e w' => ∃ r, e = .returned (.float .f64 r) ∧ r < 18446744073709551616 ∧ can r = pairF (f + 1) bs ∧ ∃ q, w' = w.drewN q
  | f, 0, hf, g, off, c, bs, w, hl, hn, hc, hcell => by
    have HR : Hid (can 0 = pairF (f + 1) bs) := by
      show _ = _
      unfold pairF
      rw [if_pos hl]
      decide +kernel
    clear hcell hl
    go_enter Tryz.func8, Tryz.ntmps8
    go_wp2
    go_ret
    exact ⟨0, rfl, by decide, HR.out, 0, rfl⟩
  | f, 1, hf, g, off, c, bs, w, hl, hn, hc, hcell => by
    obtain ⟨x, rfl⟩ : ∃ x, bs = [x] := by
      match bs, hl with
      | [x], _ => exact ⟨x, rfl⟩
    obtain ⟨hxl, hx⟩ := hcell 0 x rfl
    rw [Nat.add_zero] at hx
    have HR : Hid (can x = pairF (f + 1) [x]) := by
      show _ = _
      rw [pairF]
      rfl
    clear hcell hl
    go_enter Tryz.func8, Tryz.ntmps8
    go_wp2
    go_ret
    exact ⟨x, rfl, hxl, HR.out, 0, rfl⟩
  | 0, n + 2, hf, g, off, c, bs, w, hl, hn, hc, hcell => by omega
  | f + 1, n + 2, hf, g, off, c, bs, w, hl, hn, hc, hcell => by
    obtain ⟨h, hh⟩ : ∃ h, (n + 2 + 1) / 2 = h := ⟨_, rfl⟩
    obtain ⟨N, hN⟩ : ∃ N, n + 2 = N := ⟨_, rfl⟩
    have cP1 := fun (w' : World) (hw : ∀ p, w'.cell? p = w.cell? p) => sPairs_some mixed f h (by omega) g off c (bs.take h) w' (by rw [List.length_take]; omega) (by omega) (by omega) (fun j b hj => by
      rw [List.getElem?_take] at hj
      split at hj
      · rw [hw]; exact hcell j b hj
      · cases hj)
    have cP2 := fun (w' : World) (hw : ∀ p, w'.cell? p = w.cell? p) => sPairs_some mixed f (n + 2 - h) (by omega) g (off + h) (c - h) (bs.drop h) w' (by rw [List.length_drop]; omega) (by omega) (by omega) (fun j b hj => by
      rw [List.getElem?_drop] at hj
      have := hcell (h + j) b hj
      rw [← Nat.add_assoc] at this
      rw [hw]
      exact this)
    have HR : Hid (pairF (f + 1 + 1) bs = fa (pairF (f + 1) (bs.take h)) (pairF (f + 1) (bs.drop h))) := by
      show _ = _
      rw [pairF, if_neg (by omega), if_neg (by omega), hl, hh]
    have ha := fun x y t w => run_add x y t w
    have hz1 : ((N : Int) == 0) = false := by rw [beq_eq_false_iff_ne]; omega
    have hz2 : ((N : Int) == 1) = false := by rw [beq_eq_false_iff_ne]; omega
    have hhz : ((N : Int) + 1) / 2 = (h : Int) := by omega
    have h0 : (0 : Int) ≤ (h : Int) := by omega
    have h1 : (h : Int) ≤ (N : Int) := by omega
    have h2 : (h : Int) ≤ (c : Int) := by omega
    have h3 : N ≤ c := by omega
    have h4 : h ≤ N := by omega
    have hch : ¬ c = h := by omega
    rw [hN] at cP2 hn
    generalize pairF (f + 1) (bs.take h) = A at *
    generalize pairF (f + 1) (bs.drop h) = B at *
    rw [hN]
    clear hcell hl hf hc hh hN
    go_enter Tryz.func8, Tryz.ntmps8
    go_wp2
    go_region_with (first | (go_at_call 8; (with_reducible refine Calls.mono (cP1 _ ?_) ?_); exact fun p => rfl; rintro e1 w1 ⟨r1, rfl, hr1l, hr1, q1, rfl⟩) | (go_at_call 8; (with_reducible refine Calls.mono (cP2 _ ?_) ?_); exact fun p => rfl; rintro e2 w2 ⟨r2, rfl, hr2l, hr2, q2, rfl⟩))
    go_wp2
    go_ret
    exact ⟨addAt r1 r2 (w.drewN (1 + q1 + q2)), rfl, addAt_lt _ _ _, by rw [addAt_can, hr1, hr2, HR.out], by
      obtain ⟨q, hq⟩ := addW_drewN r1 r2 (w.drewN (1 + q1 + q2))
      exact ⟨1 + q1 + q2 + q, by rw [hq, World.drewN_drewN]⟩⟩
set_option maxRecDepth 100000 in
set_option maxHeartbeats 1000000 in
theorem qPairs_some (mixed : Tryz.prog.follows .mixedOrders = true) : ∀ (f n : Nat), n ≤ f → ∀ (g off c : Nat) (bs : List Nat) (w : World), bs.length = n → n ≤ 17592186044416 → n ≤ c → (∀ (j : Nat) b, bs[j]? = some b → b < 18446744073709551616 ∧ w.cell? ⟨g, off + j, none⟩ = some (.float .f64 b)) →
    Calls Tryz.prog 12 #[.slice (some ⟨g, off, none⟩) n c] w fun e w' => ∃ r, e = .returned (.float .f64 r) ∧ r < 18446744073709551616 ∧ can r = pairF (f + 1) bs ∧ ∃ q, w' = w.drewN q
  | f, 0, hf, g, off, c, bs, w, hl, hn, hc, hcell => by
    have HR : Hid (can 0 = pairF (f + 1) bs) := by
      show _ = _
      unfold pairF
      rw [if_pos hl]
      decide +kernel
    clear hcell hl
    go_enter Tryz.func12, Tryz.ntmps12
    go_wp2
    go_ret
    exact ⟨0, rfl, by decide, HR.out, 0, rfl⟩
  | f, 1, hf, g, off, c, bs, w, hl, hn, hc, hcell => by
    obtain ⟨x, rfl⟩ : ∃ x, bs = [x] := by
      match bs, hl with
      | [x], _ => exact ⟨x, rfl⟩
    obtain ⟨hxl, hx⟩ := hcell 0 x rfl
    rw [Nat.add_zero] at hx
    have HR : Hid (can x = pairF (f + 1) [x]) := by
      show _ = _
      rw [pairF]
      rfl
    clear hcell hl
    go_enter Tryz.func12, Tryz.ntmps12
    go_wp2
    go_ret
    exact ⟨x, rfl, hxl, HR.out, 0, rfl⟩
  | 0, n + 2, hf, g, off, c, bs, w, hl, hn, hc, hcell => by omega
  | f + 1, n + 2, hf, g, off, c, bs, w, hl, hn, hc, hcell => by
    obtain ⟨h, hh⟩ : ∃ h, (n + 2 + 1) / 2 = h := ⟨_, rfl⟩
    obtain ⟨N, hN⟩ : ∃ N, n + 2 = N := ⟨_, rfl⟩
    have cP1 := fun (w' : World) (hw : ∀ p, w'.cell? p = w.cell? p) => qPairs_some mixed f h (by omega) g off c (bs.take h) w' (by rw [List.length_take]; omega) (by omega) (by omega) (fun j b hj => by
      rw [List.getElem?_take] at hj
      split at hj
      · rw [hw]; exact hcell j b hj
      · cases hj)
    have cP2 := fun (w' : World) (hw : ∀ p, w'.cell? p = w.cell? p) => qPairs_some mixed f (n + 2 - h) (by omega) g (off + h) (c - h) (bs.drop h) w' (by rw [List.length_drop]; omega) (by omega) (by omega) (fun j b hj => by
      rw [List.getElem?_drop] at hj
      have := hcell (h + j) b hj
      rw [← Nat.add_assoc] at this
      rw [hw]
      exact this)
    have HR : Hid (pairF (f + 1 + 1) bs = fa (pairF (f + 1) (bs.take h)) (pairF (f + 1) (bs.drop h))) := by
      show _ = _
      rw [pairF, if_neg (by omega), if_neg (by omega), hl, hh]
    have ha := fun x y t w => run_add x y t w
    have hz1 : ((N : Int) == 0) = false := by rw [beq_eq_false_iff_ne]; omega
    have hz2 : ((N : Int) == 1) = false := by rw [beq_eq_false_iff_ne]; omega
    have hhz : ((N : Int) + 1) / 2 = (h : Int) := by omega
    have h0 : (0 : Int) ≤ (h : Int) := by omega
    have h1 : (h : Int) ≤ (N : Int) := by omega
    have h2 : (h : Int) ≤ (c : Int) := by omega
    have h3 : N ≤ c := by omega
    have h4 : h ≤ N := by omega
    have hch : ¬ c = h := by omega
    rw [hN] at cP2 hn
    generalize pairF (f + 1) (bs.take h) = A at *
    generalize pairF (f + 1) (bs.drop h) = B at *
    rw [hN]
    clear hcell hl hf hc hh hN
    go_enter Tryz.func12, Tryz.ntmps12
    go_wp2
    go_region_with (first | (go_at_call 12; (with_reducible refine Calls.mono (cP1 _ ?_) ?_); exact fun p => rfl; rintro e1 w1 ⟨r1, rfl, hr1l, hr1, q1, rfl⟩) | (go_at_call 12; (with_reducible refine Calls.mono (cP2 _ ?_) ?_); exact fun p => rfl; rintro e2 w2 ⟨r2, rfl, hr2l, hr2, q2, rfl⟩))
    go_wp2
    go_ret
    exact ⟨addAt r1 r2 (w.drewN (1 + q1 + q2)), rfl, addAt_lt _ _ _, by rw [addAt_can, hr1, hr2, HR.out], by
      obtain ⟨q, hq⟩ := addW_drewN r1 r2 (w.drewN (1 + q1 + q2))
      exact ⟨1 + q1 + q2 + q, by rw [hq, World.drewN_drewN]⟩⟩
theorem pairs_nil (f : Nat) : can 0 = pairF (f + 1) [] := by
  rw [pairF, if_pos (show ([] : List Nat).length = 0 from rfl)]
  decide +kernel
theorem sPairs_none (f : Nat) (w : World) : Calls Tryz.prog 8 #[.slice none 0 0] w fun e w' => ∃ r, e = .returned (.float .f64 r) ∧ r < 18446744073709551616 ∧ can r = pairF (f + 1) [] ∧ ∃ q, w' = w.drewN q := by
  have HR : Hid (can 0 = pairF (f + 1) []) := pairs_nil f
  go_enter Tryz.func8, Tryz.ntmps8
  go_wp2
  go_ret
  exact ⟨0, rfl, by decide, HR.out, 0, rfl⟩
theorem own_cap {w : World} {B : Nat} {e : TypeId} {g n c : Nat} {l : List Value} (h : w.ownsRow B e 1 (.slice (some ⟨g, 0, none⟩) n c) n l) : n ≤ c := by
  rcases h.2 with ⟨hv, h0⟩ | ⟨g', cap, cur, hv, _, _, hnc, _⟩
  · simp at hv
  · simp only [Value.slice.injEq] at hv
    rw [hv.2.2]
    exact hnc
/-- By halves, of a row. -/
theorem sPairs (B : Nat) (e : TypeId) (ao : Option Addr) (n c : Nat) (bs : List Nat) (w : World) (hn1 : n ≤ 17592186044416) (h : w.ownsRow B e 1 (.slice ao n c) n (fv bs)) (hlt : ∀ x ∈ bs, x < 18446744073709551616) :
    Calls Tryz.prog 8 #[.slice ao n c] w fun e w' => ∃ r, e = .returned (.float .f64 r) ∧ r < 18446744073709551616 ∧ can r = pairF (n + 1) bs ∧ ∃ q, w' = w.drewN q := by
  have hl := h.1
  rw [fv_length] at hl
  rcases own_some h with ⟨rfl, rfl, rfl, rfl⟩ | ⟨g, rfl⟩
  · exact sPairs_none 0 w
  · exact sPairs_some mixed_ok n n (Nat.le_refl _) g 0 c bs w (by omega) hn1 (own_cap h) (fun j b hj => ⟨hlt b (List.mem_of_getElem? hj), own_cells h j b hj⟩)
theorem qPairs_none (f : Nat) (w : World) : Calls Tryz.prog 12 #[.slice none 0 0] w fun e w' => ∃ r, e = .returned (.float .f64 r) ∧ r < 18446744073709551616 ∧ can r = pairF (f + 1) [] ∧ ∃ q, w' = w.drewN q := by
  have HR : Hid (can 0 = pairF (f + 1) []) := pairs_nil f
  go_enter Tryz.func12, Tryz.ntmps12
  go_wp2
  go_ret
  exact ⟨0, rfl, by decide, HR.out, 0, rfl⟩
/-- By halves, of a row. -/
theorem qPairs (B : Nat) (e : TypeId) (ao : Option Addr) (n c : Nat) (bs : List Nat) (w : World) (hn1 : n ≤ 17592186044416) (h : w.ownsRow B e 1 (.slice ao n c) n (fv bs)) (hlt : ∀ x ∈ bs, x < 18446744073709551616) :
    Calls Tryz.prog 12 #[.slice ao n c] w fun e w' => ∃ r, e = .returned (.float .f64 r) ∧ r < 18446744073709551616 ∧ can r = pairF (n + 1) bs ∧ ∃ q, w' = w.drewN q := by
  have hl := h.1
  rw [fv_length] at hl
  rcases own_some h with ⟨rfl, rfl, rfl, rfl⟩ | ⟨g, rfl⟩
  · exact qPairs_none 0 w
  · exact qPairs_some mixed_ok n n (Nat.le_refl _) g 0 c bs w (by omega) hn1 (own_cap h) (fun j b hj => ⟨hlt b (List.mem_of_getElem? hj), own_cells h j b hj⟩)
end Go.Proofs.YtnpdfkcjjedamaaGreatDoor.Sca
