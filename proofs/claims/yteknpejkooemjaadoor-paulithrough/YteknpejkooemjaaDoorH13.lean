/- The document's Weight, Inverse, Mul, as they are walked. -/
import Derived.Test.YteknpejkooemjaaDoorG13
namespace Go.Proofs.YteknpejkooemjaaDoor.Pau
open Go.RowKit Go.Proofs.YteknpejkooemjaaDoor.Gt

def nz (p : P) (j : Nat) : Nat := if letP p (j : Int) = 0 ∨ letP p (j : Int) = 73 then 0 else 1
theorem lt_ne (u v : Nat) : lt u v ≠ 0 := by unfold lt; (repeat' split) <;> decide
theorem letP_in {p : P} (h : rt p = true) {q : Nat} (hq : (q : Int) < p.n) : letP p (q : Int) = lt (bt p.x q) (bt p.z q) := by
  unfold letP
  rw [if_pos ⟨h, by omega, hq⟩, Int.toNat_natCast]
theorem letP_out {p : P} {q : Nat} (hq : ¬ (rt p = true ∧ (q : Int) < p.n)) : letP p (q : Int) = 0 := by
  unfold letP
  rw [if_neg (fun g => hq ⟨g.1, g.2.2⟩)]
theorem nz_sum (p : P) : sm 64 (nz p) = if rt p = true then pc (p.x ||| p.z) else 0 := by
  by_cases h : rt p = true
  · rw [if_pos h]
    obtain ⟨a1, a2, a3, a4, -⟩ := rt_iff.1 h
    refine sm_congr 64 (fun q _ => ?_)
    rw [weight_cut]
    unfold nz
    by_cases hq : (q : Int) < p.n
    · rw [letP_in h hq]
      have := lt_ne (bt p.x q) (bt p.z q)
      by_cases e : lt (bt p.x q) (bt p.z q) = 73
      · rw [if_pos e, if_pos (.inr e)]
      · rw [if_neg e, if_neg (by omega)]
    · rw [letP_out (fun g => hq g.2), if_pos (.inl rfl), bt_small a3 (by omega), bt_small a4 (by omega)]
      rfl
  · rw [if_neg h]
    refine sm_zero 64 (fun q _ => ?_)
    unfold nz
    rw [letP_out (fun g => h g.1), if_pos (.inl rfl)]
set_option maxRecDepth 100000 in
set_option maxHeartbeats 2000000 in
theorem dWeight (p : P) (hp : Wd p) (w : World) : Calls Tryd.prog 17 #[pV p] w fun e w' => e = .returned (.int .i64 (if rt p = true then (pc (p.x ||| p.z) : Int) else 0)) ∧ Below w.heap.size w w' := by
  have c1 := fun (k : Nat) W => dLetter p hp (k : Int) W
  have hs := nz_sum p
  have hle := fun k => sm_le (nz p) 1 (fun q => by unfold nz; split <;> omega) k
  rw [show (if rt p = true then (pc (p.x ||| p.z) : Int) else 0) = ((sm 64 (nz p) : Nat) : Int) by rw [hs]; split <;> rfl]
  clear hs
  have hnz : ∀ k, nz p k = if letP p (k : Int) = 0 ∨ letP p (k : Int) = 73 then 0 else 1 := fun k => rfl
  generalize nz p = N at *
  generalize hL : (fun k : Nat => letP p (k : Int)) = L at *
  have hLk : ∀ k : Nat, letP p (k : Int) = L k := fun k => congrFun hL k
  simp only [hLk] at c1 hnz
  obtain ⟨n, x, z, ph⟩ := p
  have HB := hide (bnew w (.cells #[.int .i64 n, .int .u64 (x : Int), .int .u64 (z : Int), .int .i64 ph] 24))
  have HA := hide (At4.new w (.int .i64 n) (.int .u64 (x : Int)) (.int .u64 (z : Int)) (.int .i64 ph))
  have HLE := hide hle
  have HNZ := hide hnz
  have HC1 := hide c1
  unfold pV at *
  simp only at *
  clear hp hL hLk hle hnz c1
  go_enter Tryd.func17, Tryd.ntmps17
  go_wp2_with fail
  go_loopw [3, 4] (fun vn vi wr => ∃ k : Nat, vi = .int .i64 (k : Int) ∧ vn = .int .i64 ((sm k N : Nat) : Int) ∧ k ≤ 64 ∧ Hid (Below w.heap.size w wr ∧ At4 wr w.heap.size (.int .i64 n) (.int .u64 (x : Int)) (.int .u64 (z : Int)) (.int .i64 ph))) (fun _ vi _ => 64 - (Go.RowKit.intOf vi).toNat)
  case atStart => exact ⟨0, rfl, rfl, Nat.zero_le _, hide ⟨HB.out, HA.out⟩⟩
  case round =>
    obtain ⟨k, rfl, rfl, hk, HI⟩ := hrel
    by_cases h : k < 64
    · have hd : decide ((k : Int) < 64) = true := decide_eq_true (by omega)
      obtain ⟨x0, x1, x2, x3, x4⟩ := HI.out.2.cells
      have c1' := fun W => HC1.out k W
      have hn := HNZ.out k
      have hle := HLE.out k
      generalize L k = l at *
      generalize hM : sm k N = M at *
      by_cases h0 : l = 0
      · subst h0
        rw [if_pos (.inl rfl)] at hn
        have HS := hide ((show sm (k + 1) N = sm k N + N k from rfl).trans (by rw [hM, hn]))
        clear hn
        go_wp2_with (go_at_call 15; refine (c1' _).mono ?_; rintro e w1 ⟨rfl, hb1⟩; have HI1 := hide (And.intro (bkp HI.out.1 hb1) (HI.out.2.below hb1)))
        go_roundw
        case rel => exact ⟨k + 1, by go_num, by rw [HS.out]; go_num, by omega, HI1⟩
        case measure => simp [Go.RowKit.intOf]; omega
      · by_cases h1 : l = 73
        · subst h1
          rw [if_pos (.inr rfl)] at hn
          have HS := hide ((show sm (k + 1) N = sm k N + N k from rfl).trans (by rw [hM, hn]))
          clear hn
          go_wp2_with (go_at_call 15; refine (c1' _).mono ?_; rintro e w1 ⟨rfl, hb1⟩; have HI1 := hide (And.intro (bkp HI.out.1 hb1) (HI.out.2.below hb1)))
          go_roundw
          case rel => exact ⟨k + 1, by go_num, by rw [HS.out]; go_num, by omega, HI1⟩
          case measure => simp [Go.RowKit.intOf]; omega
        · rw [if_neg (by omega)] at hn
          have HS := hide ((show sm (k + 1) N = sm k N + N k from rfl).trans (by rw [hM, hn]))
          have e0 : ((l : Int) != 0) = true := bne_iff_ne.2 (by omega)
          have e1 : ((l : Int) != 73) = true := bne_iff_ne.2 (by omega)
          have hw : wrap64 ((M : Int) + 1) = (M : Int) + 1 := by unfold wrap64; omega
          clear hn
          go_wp2_with (go_at_call 15; refine (c1' _).mono ?_; rintro e w1 ⟨rfl, hb1⟩; have HI1 := hide (And.intro (bkp HI.out.1 hb1) (HI.out.2.below hb1)))
          go_roundw
          case rel => exact ⟨k + 1, by go_num, by rw [HS.out]; go_num, by omega, HI1⟩
          case measure => simp [Go.RowKit.intOf]; omega
    · obtain rfl : k = 64 := by omega
      go_wp2_with fail
      go_ret
      exact ⟨rfl, HI.out.1⟩
set_option maxRecDepth 100000 in
set_option maxHeartbeats 2000000 in
theorem dInverse (p : P) (hp : Wd p) (w : World) : Calls Tryd.prog 9 #[pV p] w fun e w' => e = .returned (.tuple #[pV (if rt p = true then invP p else oP), .int .i64 (ck p)]) ∧ Below w.heap.size w w' := by
  have c1 := fun W => dRight p hp W
  unfold ck
  have hr : rt p = true → IntKind.i64.wrap (4 - p.ph) = 4 - p.ph ∧ wrap64 (4 - p.ph) = 4 - p.ph ∧ Int.tmod (4 - p.ph) 4 = (-p.ph) % 4 := fun h => by
    obtain ⟨-, -, -, -, h1, h2⟩ := rt_iff.1 h
    refine ⟨by rw [wrapI]; omega, by unfold wrap64; omega, ?_⟩
    rw [Int.tmod_eq_emod_of_nonneg (by omega)]
    omega
  generalize rt p = r at *
  obtain ⟨n, x, z, ph⟩ := p
  unfold invP oP pV at *
  simp only at *
  obtain ⟨HA, HA'⟩ := At4.two w (.int .i64 n) (.int .u64 (x : Int)) (.int .u64 (z : Int)) (.int .i64 ph) (.int .i64 0) (.int .u64 0) (.int .u64 0) (.int .i64 0)
  have HAh := hide HA
  have HAh' := hide HA'
  have HB := hide (bkp (bnew w (.cells #[.int .i64 n, .int .u64 (x : Int), .int .u64 (z : Int), .int .i64 ph] 24)) (bnew _ (.cells #[.int .i64 0, .int .u64 0, .int .u64 0, .int .i64 0] 24)))
  clear HA HA' hp
  cases r
  · simp only [if_false, Bool.false_eq_true] at c1 ⊢
    clear hr
    go_enter Tryd.func9, Tryd.ntmps9
    go_wp2_with fail
    refine (c1 _).mono ?_
    rintro e w1 ⟨rfl, hb1⟩
    obtain ⟨x0, x1, x2, x3, x4⟩ := (HAh.out.below hb1).cells
    have hR := HAh'.out.below hb1
    have HB1 := hide (bkp HB.out hb1)
    clear hb1 HAh HAh'
    unfold At4 at hR
    go_wp2_with (refine wpList_store_row rfl _ _ _ rfl (w.heap.size + 1) _ rfl rfl _ _ hR (by exact infoP) (by rfl) (allP _ _ _ _) ?_)
    refine bodyPost_ret (results_ct rfl _ _ (w.heap.size + 1) _ _ _ _ rfl (setRow_heap _ _ _ _ _ _ hR) Tryd.underlying24 rfl (by exact infoP)) rfl ?_
    exact ⟨rfl, below_setRow HB1.out (by omega) _⟩
  · simp only [if_true] at c1 ⊢
    obtain ⟨hw1, hw2, hw3⟩ := hr rfl
    clear hr
    generalize (-ph) % 4 = q at *
    go_enter Tryd.func9, Tryd.ntmps9
    go_wp2_with fail
    refine (c1 _).mono ?_
    rintro e w1 ⟨rfl, hb1⟩
    obtain ⟨x0, x1, x2, x3, x4⟩ := (HAh.out.below hb1).cells
    have hfz := (HAh.out.below hb1).fz 3
    have HB1 := hide (bkp HB.out hb1)
    have HP := hide ((HAh.out.below hb1).set3 (.int .i64 q))
    have HR := hide ((HAh'.out.below hb1).off (k := w.heap.size) (j := 3) (v := .int .i64 q) (by omega))
    have HBs := hide (HB1.out.setCell (p := ⟨w.heap.size, 3, none⟩) (Nat.le_refl _) (.int .i64 q))
    clear hb1 HAh HAh' HB1
    have hR := HR.out
    unfold At4 at hR
    go_wp2_with (first
      | (refine wpList_store_row rfl _ _ _ rfl (w.heap.size + 1) _ rfl rfl _ _ hR (by exact infoP) (by rfl) (allP _ _ _ _) ?_))
    refine bodyPost_ret (results_ct rfl _ _ (w.heap.size + 1) _ _ _ _ rfl (setRow_heap _ _ _ _ _ _ hR) Tryd.underlying24 rfl (by exact infoP)) rfl ?_
    exact ⟨rfl, below_setRow HBs.out (by omega) _⟩
end Go.Proofs.YteknpejkooemjaaDoor.Pau
