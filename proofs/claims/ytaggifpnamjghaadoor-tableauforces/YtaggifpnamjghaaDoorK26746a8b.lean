import Derived.Test.YtaggifpnamjghaaDoorKb415e12f
set_option maxRecDepth 100000
set_option maxHeartbeats 4000000
namespace Go.Proofs.YtaggifpnamjghaaDoor.Pau
open Go.RowKit Go.Proofs.YtaggifpnamjghaaDoor.Gt
theorem letP_in {p : P} (h : rt p = true) {q : Nat} (hq : (q : Int) < p.n) : letP p (q : Int) = lt (bt p.x q) (bt p.z q) := by
  unfold letP
  rw [if_pos ⟨h, by omega, hq⟩, Int.toNat_natCast]
theorem dMul_no (a b : P) (ha : Wd a) (hb : Wd b) (hf : fitP a b = false) (w : World) : Calls Tryd.prog 59 #[pV a, pV b] w fun e w' => e = .returned (.tuple #[pV oP, .int .i64 130]) /\ Below w.heap.size w w' := by
  have c1 := fun W => dRight a ha W
  have c2 := fun W => dRight b hb W
  have hff : rt a = false ∨ (rt a = true /\ rt b = false) ∨ (rt a = true /\ rt b = true /\ a.n ≠ b.n) := by
    cases h1 : rt a with
    | false => exact .inl rfl
    | true =>
      cases h2 : rt b with
      | false => exact .inr (.inl ⟨rfl, rfl⟩)
      | true =>
        refine .inr (.inr ⟨rfl, rfl, fun e => ?_⟩)
        rw [fit_iff.2 ⟨h1, h2, e⟩] at hf
        cases hf
  generalize rt a = r1 at *
  generalize rt b = r2 at *
  obtain ⟨n, x, z, ph⟩ := a
  obtain ⟨n', x', z', ph'⟩ := b
  unfold oP pV at *
  simp only at *
  obtain ⟨HA, HA', HA2⟩ := At4.three w (.int .i64 n) (.int .u64 (x : Int)) (.int .u64 (z : Int)) (.int .i64 ph) (.int .i64 n') (.int .u64 (x' : Int)) (.int .u64 (z' : Int)) (.int .i64 ph') (.int .i64 0) (.int .u64 0) (.int .u64 0) (.int .i64 0)
  have HAh := hide HA
  have HAh' := hide HA'
  have HAh2 := hide HA2
  have HB := hide (bkp (bkp (bnew w (.cells #[.int .i64 n, .int .u64 (x : Int), .int .u64 (z : Int), .int .i64 ph] 32)) (bnew _ (.cells #[.int .i64 n', .int .u64 (x' : Int), .int .u64 (z' : Int), .int .i64 ph'] 32))) (bnew _ (.cells #[.int .i64 0, .int .u64 0, .int .u64 0, .int .i64 0] 32)))
  clear HA HA' HA2 ha hb hf
  rcases hff with rfl | ⟨rfl, rfl⟩ | ⟨rfl, rfl, hne⟩
  . go_enter Tryd.func59, Tryd.ntmps59
    go_wp2_with fail
    refine (c1 _).mono ?_
    rintro e w1 ⟨rfl, hb1⟩
    obtain ⟨x0, x1, x2, x3, x4⟩ := (HAh.out.below hb1).cells
    obtain ⟨y0, y1, y2, y3, y4⟩ := (HAh'.out.below hb1).cells
    have HB1 := hide (bkp HB.out hb1)
    have hR := HAh2.out.below hb1
    unfold At4 at hR
    clear hb1
    go_wp2_with (first
      | (refine wpList_store_row rfl _ _ _ rfl (w.heap.size + 1 + 1) _ rfl rfl _ _ hR (by exact infoP) (by rfl) (allP _ _ _ _) ?_))
    refine bodyPost_ret (results_ct rfl _ _ (w.heap.size + 1 + 1) _ _ _ _ rfl (setRow_heap _ _ _ _ _ _ hR) Tryd.underlying32 rfl (by exact infoP)) rfl ?_
    exact ⟨rfl, below_setRow HB1.out (by omega) _⟩
  . go_enter Tryd.func59, Tryd.ntmps59
    go_wp2_with fail
    refine (c1 _).mono ?_
    rintro e w1 ⟨rfl, hb1⟩
    obtain ⟨x0, x1, x2, x3, x4⟩ := (HAh.out.below hb1).cells
    obtain ⟨y0, y1, y2, y3, y4⟩ := (HAh'.out.below hb1).cells
    have HB1 := hide (bkp HB.out hb1)
    have HR1 := hide (HAh2.out.below hb1)
    clear hb1
    go_wp2_with fail
    refine (c2 _).mono ?_
    rintro e w2 ⟨rfl, hb2⟩
    have HB2 := hide (bkp HB1.out hb2)
    have hR := HR1.out.below hb2
    unfold At4 at hR
    clear hb2 x0 x1 x2 x3 x4 y0 y1 y2 y3 y4
    go_wp2_with (first
      | (refine wpList_store_row rfl _ _ _ rfl (w.heap.size + 1 + 1) _ rfl rfl _ _ hR (by exact infoP) (by rfl) (allP _ _ _ _) ?_))
    refine bodyPost_ret (results_ct rfl _ _ (w.heap.size + 1 + 1) _ _ _ _ rfl (setRow_heap _ _ _ _ _ _ hR) Tryd.underlying32 rfl (by exact infoP)) rfl ?_
    exact ⟨rfl, below_setRow HB2.out (by omega) _⟩
  . have hne' : (n == n') = false := beq_eq_false_iff_ne.2 hne
    have hne2 : (n != n') = true := bne_iff_ne.2 hne
    go_enter Tryd.func59, Tryd.ntmps59
    go_wp2_with fail
    refine (c1 _).mono ?_
    rintro e w1 ⟨rfl, hb1⟩
    obtain ⟨x0, x1, x2, x3, x4⟩ := (HAh.out.below hb1).cells
    obtain ⟨y0, y1, y2, y3, y4⟩ := (HAh'.out.below hb1).cells
    have HB1 := hide (bkp HB.out hb1)
    have HR1 := hide (HAh2.out.below hb1)
    have G1 := hide (HAh.out.below hb1)
    have G2 := hide (HAh'.out.below hb1)
    clear hb1
    go_wp2_with fail
    refine (c2 _).mono ?_
    rintro e w2 ⟨rfl, hb2⟩
    have HB2 := hide (bkp HB1.out hb2)
    have hR := HR1.out.below hb2
    unfold At4 at hR
    clear x0 x1 x2 x3 x4 y0 y1 y2 y3 y4
    obtain ⟨x0, x1, x2, x3, x4⟩ := (G1.out.below hb2).cells
    obtain ⟨y0, y1, y2, y3, y4⟩ := (G2.out.below hb2).cells
    clear hb2
    go_wp2_with (first
      | (refine wpList_store_row rfl _ _ _ rfl (w.heap.size + 1 + 1) _ rfl rfl _ _ hR (by exact infoP) (by rfl) (allP _ _ _ _) ?_))
    refine bodyPost_ret (results_ct rfl _ _ (w.heap.size + 1 + 1) _ _ _ _ rfl (setRow_heap _ _ _ _ _ _ hR) Tryd.underlying32 rfl (by exact infoP)) rfl ?_
    exact ⟨rfl, below_setRow HB2.out (by omega) _⟩
theorem dMul_ok (a b : P) (ha : Wd a) (hb : Wd b) (hf : fitP a b = true) (w : World) : Calls Tryd.prog 59 #[pV a, pV b] w fun e w' => e = .returned (.tuple #[pV (mulP a b), .int .i64 0]) /\ Below w.heap.size w w' := by
  have c1 := fun W => dRight a ha W
  have c2 := fun W => dRight b hb W
  obtain ⟨r1, r2, r3⟩ := fit_iff.1 hf
  rw [r1] at c1
  rw [r2] at c2
  have ra := rt_iff.1 r1
  have rb := rt_iff.1 r2
  have hq := mul_cut hf
  have HLa := hide (fun (k : Nat) (hk : (k : Int) < a.n) W => letP_in r1 hk ▸ dLetter a ha (k : Int) W)
  have HLb := hide (fun (k : Nat) (hk : (k : Int) < b.n) W => letP_in r2 hk ▸ dLetter b hb (k : Int) W)
  have HO := hide (fun (k : Nat) W => dOne_tab (bt a.x k) (bt a.z k) (bt b.x k) (bt b.z k) (bt_lt _ _) (bt_lt _ _) (bt_lt _ _) (bt_lt _ _) W)
  have eX : bits .xor .u64 (a.x : Int) (b.x : Int) = ((a.x ^^^ b.x : Nat) : Int) := u64_xor_nat _ _ ha.1 hb.1
  have eZ : bits .xor .u64 (a.z : Int) (b.z : Int) = ((a.z ^^^ b.z : Nat) : Int) := u64_xor_nat _ _ ha.2 hb.2
  have HLE := hide (fun k => sm_le (onq a b) 3 (fun q => on_le _ _) k)
  unfold mulP
  rw [hq]
  have hon : ∀ k, on (lt (bt a.x k) (bt a.z k)) (lt (bt b.x k) (bt b.z k)) = onq a b k := fun k => rfl
  simp only [hon] at HO
  have HON := hide (fun k => on_le (lt (bt a.x k) (bt a.z k)) (lt (bt b.x k) (bt b.z k)))
  simp only [hon] at HON
  clear hon hq
  generalize onq a b = f at *
  obtain ⟨n, x, z, ph⟩ := a
  obtain ⟨n', x', z', ph'⟩ := b
  simp only at *
  subst r3
  obtain ⟨N, rfl⟩ : ∃ N : Nat, n = (N : Int) := ⟨n.toNat, by omega⟩
  rw [Int.toNat_natCast]
  have hN : N <= 64 := by omega
  have p0 : 0 <= ph + ph' /\ ph + ph' <= 6 := by omega
  clear ra rb r1 r2 ha hb hf
  generalize hlA : (fun k => lt (bt x k) (bt z k)) = lA at *
  generalize hlB : (fun k => lt (bt x' k) (bt z' k)) = lB at *
  have eA : ∀ k, lt (bt x k) (bt z k) = lA k := fun k => congrFun hlA k
  have eB : ∀ k, lt (bt x' k) (bt z' k) = lB k := fun k => congrFun hlB k
  simp only [eA, eB] at HLa HLb HO
  clear eA eB hlA hlB
  generalize x ^^^ x' = X at *
  generalize z ^^^ z' = Z at *
  have hw0 : wrap64 (ph + ph') = ph + ph' := by unfold wrap64; omega
  unfold pV at *
  simp only at *
  have hn0 : ((N : Int) != (N : Int)) = false := by simp
  generalize hS : ph + ph' = S at *
  obtain ⟨HA, HA', HA2⟩ := At4.three w (.int .i64 (N : Int)) (.int .u64 (x : Int)) (.int .u64 (z : Int)) (.int .i64 ph) (.int .i64 (N : Int)) (.int .u64 (x' : Int)) (.int .u64 (z' : Int)) (.int .i64 ph') (.int .i64 0) (.int .u64 0) (.int .u64 0) (.int .i64 0)
  have HAh := hide HA
  have HAh' := hide HA'
  have HAh2 := hide HA2
  have HB := hide (bkp (bkp (bnew w (.cells #[.int .i64 (N : Int), .int .u64 (x : Int), .int .u64 (z : Int), .int .i64 ph] 32)) (bnew _ (.cells #[.int .i64 (N : Int), .int .u64 (x' : Int), .int .u64 (z' : Int), .int .i64 ph'] 32))) (bnew _ (.cells #[.int .i64 0, .int .u64 0, .int .u64 0, .int .i64 0] 32)))
  clear HA HA' HA2
  go_enter Tryd.func59, Tryd.ntmps59
  go_wp2_with fail
  refine (c1 _).mono ?_
  rintro e w1 ⟨rfl, hb1⟩
  obtain ⟨x0, x1, x2, x3, x4⟩ := (HAh.out.below hb1).cells
  obtain ⟨y0, y1, y2, y3, y4⟩ := (HAh'.out.below hb1).cells
  have HB1 := hide (bkp HB.out hb1)
  have F1 := hide (HAh.out.below hb1)
  have F2 := hide (HAh'.out.below hb1)
  have F3 := hide (HAh2.out.below hb1)
  clear hb1 HAh HAh' HAh2 HB c1
  go_wp2_with fail
  refine (c2 _).mono ?_
  rintro e w2 ⟨rfl, hb2⟩
  clear x0 x1 x2 x3 x4 y0 y1 y2 y3 y4
  obtain ⟨x0, x1, x2, x3, x4⟩ := (F1.out.below hb2).cells
  obtain ⟨y0, y1, y2, y3, y4⟩ := (F2.out.below hb2).cells
  have HB2 := hide (bkp HB1.out hb2)
  have hbn := bnew w2 (.cells #[.int .i64 (N : Int), .int .u64 (X : Int), .int .u64 (Z : Int), .int .i64 S] 32)
  have G1 := hide ((F1.out.below hb2).below hbn)
  have G2 := hide ((F2.out.below hb2).below hbn)
  have G3 := hide ((F3.out.below hb2).below hbn)
  have G4 := hide (At4.new w2 (.int .i64 (N : Int)) (.int .u64 (X : Int)) (.int .u64 (Z : Int)) (.int .i64 S))
  have HB3 := hide (bkp HB2.out hbn)
  have hsz : w.heap.size + 1 + 1 < w2.heap.size := (F3.out.below hb2).lt
  clear hb2 F1 F2 F3 hbn HB1 HB2 c2
  go_wp2_with fail
  generalize w2.alloc (.cells #[.int .i64 (N : Int), .int .u64 (X : Int), .int .u64 (Z : Int), .int .i64 S] 32) = w3 at *
  generalize w2.heap.size = g at *
  clear x0 x1 x2 x3 x4 y0 y1 y2 y3 y4
  go_loopw [7] (fun vi wr => ∃ k : Nat, vi = .int .i64 (k : Int) /\ k <= N /\ Hid (Below w.heap.size w wr /\ At4 wr w.heap.size (.int .i64 (N : Int)) (.int .u64 (x : Int)) (.int .u64 (z : Int)) (.int .i64 ph) /\ At4 wr (w.heap.size + 1) (.int .i64 (N : Int)) (.int .u64 (x' : Int)) (.int .u64 (z' : Int)) (.int .i64 ph') /\ At4 wr (w.heap.size + 1 + 1) (.int .i64 0) (.int .u64 0) (.int .u64 0) (.int .i64 0) /\ At4 wr g (.int .i64 (N : Int)) (.int .u64 (X : Int)) (.int .u64 (Z : Int)) (.int .i64 (S + (sm k f : Int))))) (fun vi _ => N - (Go.RowKit.intOf vi).toNat)
  case atStart => exact ⟨0, rfl, Nat.zero_le _, hide ⟨HB3.out, G1.out, G2.out, G3.out, by have := G4.out; rw [show S + ((sm 0 f : Nat) : Int) = S from Int.add_zero S]; exact this⟩⟩
  case round =>
    obtain ⟨k, rfl, hk, HI⟩ := hrel
    obtain ⟨x0, x1, x2, x3, x4⟩ := HI.out.2.1.cells
    obtain ⟨y0, y1, y2, y3, y4⟩ := HI.out.2.2.1.cells
    by_cases h : k < N
    . have hd : decide ((k : Int) < (N : Int)) = true := decide_eq_true (by omega)
      have cA := fun W => HLa.out k (by omega) W
      have cB := fun W => HLb.out k (by omega) W
      have cO := fun W => HO.out k W
      have hle := HLE.out k
      have hl3 := HON.out k
      have HS : Hid (S + ((sm (k + 1) f : Nat) : Int) = S + (sm k f : Int) + (f k : Int)) := hide (by rw [show sm (k + 1) f = sm k f + f k from rfl]; omega)
      obtain ⟨S2, hS2⟩ : ∃ S2, S + (sm k f : Int) + (f k : Int) = S2 := ⟨_, rfl⟩
      have hwr : IntKind.i64.wrap (S + (sm k f : Int) + (f k : Int)) = S2 := by rw [wrapI]; omega
      have hwr2 : wrap64 (S + (sm k f : Int) + (f k : Int)) = S2 := by unfold wrap64; omega
      have HC : Hid (∀ W, Below wr.heap.size wr W -> (W.cell? ⟨w.heap.size, 0, none⟩ = some (.int .i64 (N : Int)) /\ W.cell? ⟨w.heap.size, 1, none⟩ = some (.int .u64 (x : Int)) /\ W.cell? ⟨w.heap.size, 2, none⟩ = some (.int .u64 (z : Int)) /\ W.cell? ⟨w.heap.size, 3, none⟩ = some (.int .i64 ph) /\ w.heap.size < W.heap.size) /\ (W.cell? ⟨w.heap.size + 1, 0, none⟩ = some (.int .i64 (N : Int)) /\ W.cell? ⟨w.heap.size + 1, 1, none⟩ = some (.int .u64 (x' : Int)) /\ W.cell? ⟨w.heap.size + 1, 2, none⟩ = some (.int .u64 (z' : Int)) /\ W.cell? ⟨w.heap.size + 1, 3, none⟩ = some (.int .i64 ph') /\ w.heap.size + 1 < W.heap.size) /\ (W.cell? ⟨g, 0, none⟩ = some (.int .i64 (N : Int)) /\ W.cell? ⟨g, 1, none⟩ = some (.int .u64 (X : Int)) /\ W.cell? ⟨g, 2, none⟩ = some (.int .u64 (Z : Int)) /\ W.cell? ⟨g, 3, none⟩ = some (.int .i64 (S + (sm k f : Int))) /\ g < W.heap.size) /\ W.frozen? ⟨g, 3, none⟩ = false) := hide (fun W hW => ⟨(HI.out.2.1.below hW).cells, (HI.out.2.2.1.below hW).cells, (HI.out.2.2.2.2.below hW).cells, (HI.out.2.2.2.2.below hW).fz 3⟩)
      have HT : Hid (∀ W, Below wr.heap.size wr W -> Below w.heap.size w (W.setCell ⟨g, 3, none⟩ (.int .i64 (S + (sm k f : Int) + (f k : Int)))) /\ At4 (W.setCell ⟨g, 3, none⟩ (.int .i64 (S + (sm k f : Int) + (f k : Int)))) w.heap.size (.int .i64 (N : Int)) (.int .u64 (x : Int)) (.int .u64 (z : Int)) (.int .i64 ph) /\ At4 (W.setCell ⟨g, 3, none⟩ (.int .i64 (S + (sm k f : Int) + (f k : Int)))) (w.heap.size + 1) (.int .i64 (N : Int)) (.int .u64 (x' : Int)) (.int .u64 (z' : Int)) (.int .i64 ph') /\ At4 (W.setCell ⟨g, 3, none⟩ (.int .i64 (S + (sm k f : Int) + (f k : Int)))) (w.heap.size + 1 + 1) (.int .i64 0) (.int .u64 0) (.int .u64 0) (.int .i64 0) /\ At4 (W.setCell ⟨g, 3, none⟩ (.int .i64 (S + (sm k f : Int) + (f k : Int)))) g (.int .i64 (N : Int)) (.int .u64 (X : Int)) (.int .u64 (Z : Int)) (.int .i64 (S + (sm k f : Int) + (f k : Int)))) := hide (fun W hW => ⟨(bkp HI.out.1 hW).setCell (p := ⟨g, 3, none⟩) (show w.heap.size <= g by omega) _, (HI.out.2.1.below hW).off (by omega), (HI.out.2.2.1.below hW).off (by omega), (HI.out.2.2.2.1.below hW).off (by omega), (HI.out.2.2.2.2.below hW).set3 _⟩)
      clear HI HLE HON
      rw [hS2] at HT HS
      generalize hfk : (f k : Int) = fk at *
      generalize hS1 : (S + (sm k f : Int)) = S1 at *
      clear hS2 hS1 hfk
      generalize lA k = la at *
      generalize lB k = lb at *
      go_wp2_with fail
      refine wp_region_quiet_last (C := fun W => Below wr.heap.size wr W) (by kernel_rfl) 11 rfl (by kernel_rfl) (by kernel_rfl) (bdrew (Below.refl _ _) 1) ?_
      simp only [List.take_succ_cons, List.take_zero]
      repeat
        refine wpQuiet_step (fun K hK => ?_)
        go_simp
        first
          | (refine hK _ ?_; clear hK K)
          | (apply Exists.intro
             refine ⟨fun W hW => ?_, hK _ ?_⟩
             first
               | ((with_reducible refine Calls.mono (cA _) ?_); rintro e x ⟨rfl, hb⟩; exact ⟨rfl, bkp hW hb⟩)
               | ((with_reducible refine Calls.mono (cB _) ?_); rintro e x ⟨rfl, hb⟩; exact ⟨rfl, bkp hW hb⟩)
               | ((with_reducible refine Calls.mono (cO _) ?_); rintro e x ⟨rfl, rfl⟩; exact ⟨rfl, hW⟩)
               | (obtain ⟨⟨a0, a1, a2, a3, a4⟩, ⟨b0, b1, b2, b3, b4⟩, ⟨d0, d1, d2, d3, d4⟩, d5⟩ := HC.out W hW; go_simp; rfl)
             clear hK K)
      refine wpQuiet_nil ?_
      intro W hW
      obtain ⟨-, -, ⟨d0, d1, d2, d3, d4⟩, d5⟩ := HC.out W hW
      have HT' := hide (HT.out W hW)
      have hst := store_i
      clear hW HC HT x0 x1 x2 x3 x4 y0 y1 y2 y3 y4
      go_wp2_with fail
      go_roundw
      case rel => exact ⟨k + 1, by go_num, by omega, hide (by rw [HS.out]; exact HT'.out)⟩
      case measure => simp [Go.RowKit.intOf]; omega
    . obtain rfl : k = N := by omega
      have hd : decide ((k : Int) < (k : Int)) = false := decide_eq_false (by omega)
      have hle := HLE.out k
      have hmod : Int.tmod (S + (sm k f : Int)) 4 = (S + (sm k f : Int)) % 4 := Int.tmod_eq_emod_of_nonneg (by omega)
      obtain ⟨d0, d1, d2, d3, d4⟩ := HI.out.2.2.2.2.cells
      have d5 := HI.out.2.2.2.2.fz 3
      have HP := hide (HI.out.2.2.2.2.set3 (.int .i64 ((S + (sm k f : Int)) % 4)))
      have HR := hide (HI.out.2.2.2.1.off (k := g) (j := 3) (v := .int .i64 ((S + (sm k f : Int)) % 4)) (by omega))
      have HBs := hide (HI.out.1.setCell (p := ⟨g, 3, none⟩) (show w.heap.size <= g by omega) (.int .i64 ((S + (sm k f : Int)) % 4)))
      have hR := HR.out
      unfold At4 at hR
      obtain ⟨q, hq⟩ : ∃ q, (S + (sm k f : Int)) % 4 = q := ⟨_, rfl⟩
      rw [hq] at hR hmod HP HR HBs
      have Hq := hide hq
      clear hq
      have hst := store_i
      clear HI
      go_wp2_with (first
        | (refine wpList_store_row rfl _ _ _ rfl (w.heap.size + 1 + 1) _ rfl rfl _ _ hR (by exact infoP) (by rfl) (allP _ _ _ _) ?_))
      refine bodyPost_ret (results_ct rfl _ _ (w.heap.size + 1 + 1) _ _ _ _ rfl (setRow_heap _ _ _ _ _ _ hR) Tryd.underlying32 rfl (by exact infoP)) rfl ?_
      exact ⟨by rw [Hq.out]; rfl, below_setRow HBs.out (by omega) _⟩
theorem dMul (a b : P) (ha : Wd a) (hb : Wd b) (w : World) : Calls Tryd.prog 59 #[pV a, pV b] w fun e w' => e = .returned (.tuple #[pV (mulR a b).1, .int .i64 (mulR a b).2]) /\ Below w.heap.size w w' := by
  unfold mulR
  cases hf : fitP a b with
  | true => rw [if_pos rfl]; exact dMul_ok a b ha hb hf w
  | false => rw [if_neg (by decide)]; exact dMul_no a b ha hb hf w
end Go.Proofs.YtaggifpnamjghaaDoor.Pau
