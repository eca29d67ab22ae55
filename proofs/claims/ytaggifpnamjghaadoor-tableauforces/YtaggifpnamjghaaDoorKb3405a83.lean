import Derived.Test.YtaggifpnamjghaaDoorK3a896a76
import Derived.Test.YtaggifpnamjghaaDoorK12a5baec
set_option maxRecDepth 100000
set_option maxHeartbeats 4000000
namespace Go.Proofs.YtaggifpnamjghaaDoor.Tbl
open Go.RowKit Go.Shelf Go.Proofs.YtaggifpnamjghaaDoor.Pau Go.Proofs.YtaggifpnamjghaaDoor.Gt
def ovR : List P -> TT -> Int -> Int
  | [], _, n => n
  | p :: l, c, n => if memI c p = -1 then -1 else ovR l (frR c p).1 (n + (frR c p).2.1)
def ovP (a b : TT) : Int × Int := if chB a = true /\ chB b = true then (if a.n = b.n then (ovR b.s a 0, 0) else (0, 2)) else (0, 140)
theorem fr_info {c : TT} {N : Nat} {p : P} (hc : chB c = true) (hN : c.n = (N : Int)) (hp : sgB p (N : Int) = true) : (memI c p = -1 /\ frR c p = (zrT, 0, 142)) ∨ ∃ F, ∃ k : Nat, k <= 1 /\ frR c p = (F, (k : Int), 0) /\ chB F = true /\ F.n = (N : Int) /\ F.s.length = N /\ F.d.length = N /\ memI c p ≠ -1 := by
  have key : ∀ F : TT, chB F = true -> F.n = (N : Int) -> F.s.length = N /\ F.d.length = N := fun F h1 h2 => by
    obtain ⟨-, -, h3, h4⟩ := sz_of (ch_size h1)
    rw [h2, Int.toNat_natCast] at h3 h4
    exact ⟨h3, h4⟩
  rcases mem_three c p with hm | hm | hm
  . have h1 := fc_ch hc hN hp (mem_zero hm)
    exact .inr ⟨fcT c p, 1, by omega, fr_two hm, h1, hN, (key _ h1 hN).1, (key _ h1 hN).2, by rw [hm]; decide⟩
  . exact .inr ⟨c, 0, by omega, fr_one hm, hc, hN, (key _ hc hN).1, (key _ hc hN).2, by rw [hm]; decide⟩
  . exact .inl ⟨hm, fr_neg hm⟩
theorem ov_step {u c : TT} {N i : Nat} {s V : Int} (hl : u.s.length = N) (hi : i < N) (h : ovR (u.s.drop i) c s = V) : (memI c (u.s.getD i oP) = -1 -> V = -1) /\ (∀ F k e, memI c (u.s.getD i oP) ≠ -1 -> frR c (u.s.getD i oP) = (F, k, e) -> ovR (u.s.drop (i + 1)) F (s + k) = V) := by
  have e : u.s.drop i = u.s.getD i oP :: u.s.drop (i + 1) := by
    rw [List.drop_eq_getElem_cons (by omega), List.getD_eq_getElem?_getD, List.getElem?_eq_getElem (by omega)]
    rfl
  rw [e, ovR] at h
  refine ⟨fun hm => ?_, fun F k e hm hF => ?_⟩
  . rw [if_pos hm] at h; exact h.symm
  . rw [if_neg hm, hF] at h; exact h
structure Oi (w V : World) (N : Nat) (c : TT) (a b a2 b2 : Option Addr) (ca cb ca2 cb2 : Nat) : Prop where
  ta : At3 V w.heap.size (.int .i64 (N : Int)) (.slice a N ca) (.slice b N cb)
  tb : At3 V (w.heap.size + 1) (.int .i64 (N : Int)) (.slice a2 N ca2) (.slice b2 N cb2)
  th : Th V c a b ca cb
  bw : Below w.heap.size w V
theorem Oi.keep {w V V' : World} {N : Nat} {c : TT} {a b a2 b2 : Option Addr} {ca cb ca2 cb2 : Nat} (h : Oi w V N c a b a2 b2 ca cb ca2 cb2) (hb : Below V.heap.size V V') : Oi w V' N c a b a2 b2 ca cb ca2 cb2 := ⟨h.ta.below hb, h.tb.below hb, h.th.below hb, bkp h.bw hb⟩
theorem tOverlap_no (t u : TT) (a b a2 b2 : Option Addr) (ca cb ca2 cb2 : Nat) (hno : ¬ (chB t = true /\ chB u = true /\ t.n = u.n)) (w : World) (h : Th w t a b ca cb) (h2 : Th w u a2 b2 ca2 cb2) :
    Calls Tryd.prog 13 #[tV t a b ca cb, tV u a2 b2 ca2 cb2] w fun e w' => e = .returned (.tuple #[.int .i64 (ovP t u).1, .int .i64 (ovP t u).2]) /\ Below w.heap.size w w' := by
  have HC1 := hide (fun W (hb : Below w.heap.size w W) => tCheck t a b ca cb W (h.below hb))
  have HC2 := hide (fun W (hb : Below w.heap.size w W) => tCheck u a2 b2 ca2 cb2 W (h2.below hb))
  obtain ⟨hA, hZ⟩ := two3 w (.int .i64 t.n) (.slice a t.s.length ca) (.slice b t.d.length cb) (.int .i64 u.n) (.slice a2 u.s.length ca2) (.slice b2 u.d.length cb2)
  have HA := hide hA
  have HZ := hide hZ
  have HB0 := hide (bkp (bnew w (.cells #[.int .i64 t.n, .slice a t.s.length ca, .slice b t.d.length cb] 24)) (bnew _ (.cells #[.int .i64 u.n, .slice a2 u.s.length ca2, .slice b2 u.d.length cb2] 24)))
  clear hA hZ h h2
  unfold ovP
  unfold chI at HC1 HC2
  unfold tV at HC1 HC2 ⊢
  by_cases hc1 : chB t = true
  . by_cases hc2 : chB u = true
    . have hn : ¬ t.n = u.n := fun e => hno ⟨hc1, hc2, e⟩
      have hne : (t.n != u.n) = true := bne_iff_ne.2 hn
      rw [if_pos ⟨hc1, hc2⟩, if_neg hn]
      rw [if_pos hc1] at HC1
      rw [if_pos hc2] at HC2
      clear hn hno hc1 hc2
      generalize t.n = n at *
      generalize u.n = n2 at *
      generalize t.s.length = ns at *
      generalize t.d.length = nd at *
      generalize u.s.length = ns2 at *
      generalize u.d.length = nd2 at *
      go_enter Tryd.func13, Tryd.ntmps13
      go_wp2_with fail
      refine (HC1.out _ HB0.out).mono ?_
      rintro e w1 ⟨rfl, hb1⟩
      have HB1 := hide (bkp HB0.out hb1)
      have HA1 := hide (HA.out.below hb1)
      have HZ1 := hide (HZ.out.below hb1)
      clear hb1 HA HZ HB0 HC1
      obtain ⟨x0, x1, x2, x3⟩ := HZ1.out.cells
      go_wp2_with fail
      refine (HC2.out _ HB1.out).mono ?_
      rintro e w2 ⟨rfl, hb2⟩
      have HB2 := hide (bkp HB1.out hb2)
      obtain ⟨y0, y1, y2, y3⟩ := (HA1.out.below hb2).cells
      obtain ⟨z0, z1, z2, z3⟩ := (HZ1.out.below hb2).cells
      clear hb2 HA1 HZ1 HB1 HC2 x0 x1 x2 x3
      go_wp2_with fail
      go_ret2
      exact ⟨rfl, HB2.out⟩
    . rw [if_neg (fun e => hc2 e.2)]
      rw [if_pos hc1] at HC1
      rw [if_neg hc2] at HC2
      clear hno hc1 hc2
      generalize t.n = n at *
      generalize u.n = n2 at *
      generalize t.s.length = ns at *
      generalize t.d.length = nd at *
      generalize u.s.length = ns2 at *
      generalize u.d.length = nd2 at *
      go_enter Tryd.func13, Tryd.ntmps13
      go_wp2_with fail
      refine (HC1.out _ HB0.out).mono ?_
      rintro e w1 ⟨rfl, hb1⟩
      have HB1 := hide (bkp HB0.out hb1)
      have HZ1 := hide (HZ.out.below hb1)
      clear hb1 HA HZ HB0 HC1
      obtain ⟨x0, x1, x2, x3⟩ := HZ1.out.cells
      go_wp2_with fail
      refine (HC2.out _ HB1.out).mono ?_
      rintro e w2 ⟨rfl, hb2⟩
      have HB2 := hide (bkp HB1.out hb2)
      clear hb2 HZ1 HB1 HC2 x0 x1 x2 x3
      go_wp2_with fail
      go_ret2
      exact ⟨rfl, HB2.out⟩
  . rw [if_neg (fun e => hc1 e.1)]
    rw [if_neg hc1] at HC1
    clear hno hc1 HC2
    generalize t.n = n at *
    generalize u.n = n2 at *
    generalize t.s.length = ns at *
    generalize t.d.length = nd at *
    generalize u.s.length = ns2 at *
    generalize u.d.length = nd2 at *
    go_enter Tryd.func13, Tryd.ntmps13
    go_wp2_with fail
    refine (HC1.out _ HB0.out).mono ?_
    rintro e w1 ⟨rfl, hb1⟩
    have HB1 := hide (bkp HB0.out hb1)
    clear hb1 HA HZ HB0 HC1
    go_wp2_with fail
    go_ret2
    exact ⟨rfl, HB1.out⟩
theorem tOverlap_f (N : Nat) : ∀ c a1 b1 ca1 cb1, chB c = true -> c.n = (N : Int) -> c.s.length = N -> c.d.length = N -> ∀ q, sgB q (N : Int) = true -> ∀ W, Th W c a1 b1 ca1 cb1 -> Calls Tryd.prog 32 #[.agg #[.int .i64 (N : Int), .slice a1 N ca1, .slice b1 N cb1], pV q] W fun e w' => ∃ a' b' ca' cb', e = .returned (.tuple #[.agg #[.int .i64 (frR c q).1.n, .slice a' (frR c q).1.s.length ca', .slice b' (frR c q).1.d.length cb'], .int .i64 (frR c q).2.1, .int .i64 (frR c q).2.2]) /\ Th w' (frR c q).1 a' b' ca' cb' /\ Below W.heap.size W w' := fun c a1 b1 ca1 cb1 hc hn hs hd q hq W h => by
  have hw := (sgB_iff.1 hq).1.wd
  have e : True := trivial
  have hz := ch_size hc
  have := tForce c a1 b1 ca1 cb1 hz q hw W h
  skip
  unfold tV at this
  rw [hn, hs, hd] at this
  exact this
theorem tOverlap_ok (t u : TT) (a b a2 b2 : Option Addr) (ca cb ca2 cb2 : Nat) (hc1 : chB t = true) (hc2 : chB u = true) (hnn : t.n = u.n) (w : World) (h : Th w t a b ca cb) (h2 : Th w u a2 b2 ca2 cb2) :
    Calls Tryd.prog 13 #[tV t a b ca cb, tV u a2 b2 ca2 cb2] w fun e w' => e = .returned (.tuple #[.int .i64 (ovR u.s t 0), .int .i64 0]) /\ Below w.heap.size w w' := by
  have HC1 := hide (fun W (hb : Below w.heap.size w W) => tCheck t a b ca cb W (h.below hb))
  have HC2 := hide (fun W (hb : Below w.heap.size w W) => tCheck u a2 b2 ca2 cb2 W (h2.below hb))
  unfold chI at HC1 HC2
  rw [if_pos hc1] at HC1; rw [if_pos hc2] at HC2
  obtain ⟨h0, h64, hls, hld⟩ := sz_of (ch_size hc1)
  obtain ⟨-, -, hls2, hld2⟩ := sz_of (ch_size hc2)
  obtain ⟨N, hN⟩ : ∃ N : Nat, t.n = (N : Int) := ⟨t.n.toNat, by omega⟩
  have hN2 : u.n = (N : Int) := by rw [← hnn]; exact hN
  rw [hN, Int.toNat_natCast] at hls hld
  rw [hN2, Int.toNat_natCast] at hls2 hld2
  have hn64 : N <= 64 := by omega
  have HSG : Hid (∀ i, i < N -> sgB (u.s.getD i oP) (N : Int) = true) := hide (fun i hi => (sg_of hc2 hN2 hi).1)
  have HFR := hide (tOverlap_f N)
  have HST : Hid (∀ i c (s V : Int), i < N -> ovR (u.s.drop i) c s = V -> (memI c (u.s.getD i oP) = -1 -> V = -1) /\ (∀ F k e, memI c (u.s.getD i oP) ≠ -1 -> frR c (u.s.getD i oP) = (F, k, e) -> ovR (u.s.drop (i + 1)) F (s + k) = V)) := hide (fun i c s V hi hh => ov_step hls2 hi hh)
  have HEN : Hid (∀ c (s : Int), ovR (u.s.drop N) c s = s) := hide (fun c s => by rw [List.drop_eq_nil_of_le (by omega)]; rfl)
  have HV0 : Hid (chB t = true /\ t.n = (N : Int) /\ ovR (u.s.drop 0) t ((0 : Nat) : Int) = ovR u.s t 0) := hide ⟨hc1, hN, rfl⟩
  obtain ⟨hA, hZ⟩ := two3 w (.int .i64 t.n) (.slice a t.s.length ca) (.slice b t.d.length cb) (.int .i64 u.n) (.slice a2 u.s.length ca2) (.slice b2 u.d.length cb2)
  have hB0 := (bkp (bnew w (.cells #[.int .i64 t.n, .slice a t.s.length ca, .slice b t.d.length cb] 24)) (bnew _ (.cells #[.int .i64 u.n, .slice a2 u.s.length ca2, .slice b2 u.d.length cb2] 24)))
  rw [hN, hls, hld, hN2, hls2, hld2] at hA hZ hB0
  have HI0 := hide (Oi.mk (N := N) (c := t) hA hZ (h.below hB0) hB0)
  have HL : Hid (∀ c, chB c = true -> c.n = (N : Int) -> c.s.length = N /\ c.d.length = N) := hide (fun c k1 k2 => by
    obtain ⟨-, -, k3, k4⟩ := sz_of (ch_size k1)
    rw [k2, Int.toNat_natCast] at k3 k4
    exact ⟨k3, k4⟩)
  have HU := hide h2.s
  have HUL := hide hls2
  clear hA hZ h h2 hB0
  unfold tV at HC1 HC2 ⊢
  rw [hls, hld, hN] at HC1 ⊢
  rw [hls2, hld2, hN2] at HC2 ⊢
  generalize ovR u.s t 0 = R at *
  clear hc1 hc2 hnn h0 h64 hls hld hls2 hld2 hN hN2
  obtain ⟨x0, x1, x2, x3⟩ := HI0.out.ta.cells
  go_enter Tryd.func13, Tryd.ntmps13
  go_wp2_with fail
  refine (HC1.out _ HI0.out.bw).mono ?_
  rintro e w1 ⟨rfl, hb1⟩
  have HI1 := hide (HI0.out.keep hb1)
  clear hb1 HI0 HC1 x0 x1 x2 x3
  obtain ⟨x0, x1, x2, x3⟩ := HI1.out.tb.cells
  go_wp2_with fail
  refine (HC2.out _ HI1.out.bw).mono ?_
  rintro e w2 ⟨rfl, hb2⟩
  have HI2 := hide (HI1.out.keep hb2)
  clear hb2 HI1 HC2 x0 x1 x2 x3
  obtain ⟨x0, x1, x2, x3⟩ := HI2.out.tb.cells
  obtain ⟨y0, y1, y2, y3⟩ := HI2.out.ta.cells
  have hnn : ((N : Int) != (N : Int)) = false := by simp
  rcases HU.out with hnil | ⟨gu, ou, rfl, hcu⟩
  . obtain rfl : N = 0 := by have := HUL.out; rw [hnil] at this; simpa using this.symm
    clear hnil HU HST HFR HSG HL
    go_wp2_with fail
    go_loopw [6, 26] (fun vs vi wr => ∃ (i s : Nat) (c : TT) (a1 b1 : Option Addr) (ca1 cb1 : Nat), vi = .int .i64 (i : Int) /\ vs = .int .i64 (s : Int) /\ i <= 0 /\ s <= i /\ Hid (Oi w wr 0 c a1 b1 a2 b2 ca1 cb1 ca2 cb2) /\ Hid (chB c = true /\ c.n = ((0 : Nat) : Int) /\ ovR (u.s.drop i) c (s : Int) = R)) (fun _ vi _ => 0 - (Go.RowKit.intOf vi).toNat)
    case atStart => exact ⟨0, 0, t, a, b, ca, cb, rfl, rfl, Nat.zero_le _, Nat.le_refl _, HI2, HV0⟩
    case round =>
      obtain ⟨i, s, c, a1, b1, ca1, cb1, rfl, rfl, hi, hs, HI, HV⟩ := hrel
      clear HI2 HV0
      obtain ⟨x0, x1, x2, x3⟩ := HI.out.tb.cells
      by_cases h : i < 0
      . exact absurd h (Nat.not_lt_zero _)
      . obtain rfl : i = 0 := by omega
        have HR : Hid (R = (s : Int)) := hide (by rw [← HV.out.2.2]; exact HEN.out _ _)
        go_wp2_with fail
        go_ret2
        exact ⟨by cases HR.out; rfl, HI.out.bw⟩
  . have HRU : Hid (∀ V, Below w.heap.size w V -> ∀ i, i < N -> Pc V gu (ou + i * 4) (u.s.getD i oP) /\ gu < V.heap.size) := hide (fun V hb i hi => by
      have := (hcu i _ (get_of (by rw [HUL.out]; exact hi))).below hb
      exact ⟨this, this.lt⟩)
    clear hcu HU
    go_wp2_with fail
    go_loopw [6, 26] (fun vs vi wr => ∃ (i s : Nat) (c : TT) (a1 b1 : Option Addr) (ca1 cb1 : Nat), vi = .int .i64 (i : Int) /\ vs = .int .i64 (s : Int) /\ i <= N /\ s <= i /\ Hid (Oi w wr N c a1 b1 (some ⟨gu, ou, none⟩) b2 ca1 cb1 ca2 cb2) /\ Hid (chB c = true /\ c.n = (N : Int) /\ ovR (u.s.drop i) c (s : Int) = R)) (fun _ vi _ => N - (Go.RowKit.intOf vi).toNat)
    case atStart => exact ⟨0, 0, t, a, b, ca, cb, rfl, rfl, Nat.zero_le _, Nat.le_refl _, HI2, HV0⟩
    case round =>
      obtain ⟨i, s, c, a1, b1, ca1, cb1, rfl, rfl, hi, hs, HI, HV⟩ := hrel
      clear HI2 HV0
      obtain ⟨x0, x1, x2, x3⟩ := HI.out.tb.cells
      by_cases h : i < N
      . have hd : decide ((i : Int) < (N : Int)) = true := decide_eq_true (by omega)
        obtain ⟨l1, l2⟩ := HL.out c HV.out.1 HV.out.2.1
        have hst := HST.out i c _ _ h HV.out.2.2
        have hsg := HSG.out i h
        have HF := hide (fun W hW => HFR.out c a1 b1 ca1 cb1 HV.out.1 HV.out.2.1 l1 l2 _ hsg W hW)
        have HPU := hide (fun V hb => HRU.out V hb i h)
        have hin := fr_info HV.out.1 HV.out.2.1 hsg
        clear HST HSG HFR HRU HL hsg l1 l2 HV HUL
        generalize u.s.getD i oP = pu at *
        have HSV : Hid (∀ V, Below wr.heap.size wr V -> (Below wr.heap.size wr V /\ (V.cell? ⟨w.heap.size, 0, none⟩ = some (.int .i64 (N : Int)) /\ V.cell? ⟨w.heap.size, 1, none⟩ = some (.slice a1 N ca1) /\ V.cell? ⟨w.heap.size, 2, none⟩ = some (.slice b1 N cb1)) /\ (V.cell? ⟨w.heap.size + 1, 1, none⟩ = some (.slice (some ⟨gu, ou, none⟩) N ca2)) /\ (V.cell? ⟨gu, ou + i * 4, none⟩ = some (.int .i64 pu.n) /\ V.cell? ⟨gu, ou + i * 4 + 1, none⟩ = some (.int .u64 (pu.x : Int)) /\ V.cell? ⟨gu, ou + i * 4 + 2, none⟩ = some (.int .u64 (pu.z : Int)) /\ V.cell? ⟨gu, ou + i * 4 + 3, none⟩ = some (.int .i64 pu.ph) /\ gu < V.heap.size))) := hide (fun V hV => by
          obtain ⟨k0, k1, k2, -⟩ := (HI.out.ta.below hV).cells
          obtain ⟨-, j1, -, -⟩ := (HI.out.tb.below hV).cells
          obtain ⟨⟨c0, c1, c2, c3⟩, c4⟩ := HPU.out V (bkp HI.out.bw hV)
          exact ⟨hV, ⟨k0, k1, k2⟩, j1, c0, c1, c2, c3, c4⟩)
        obtain ⟨pn, px, pz, pph⟩ := pu
        unfold pV at HF
        simp only at HF HSV
        have HTV : Hid (∀ V, Below wr.heap.size wr V -> Th V c a1 b1 ca1 cb1) := hide (fun V hV => HI.out.th.below hV)
        have HD0 : Hid (Below wr.heap.size wr wr.drew) := hide (Below.refl _ _).drew
        have HD1 : Hid (∀ o, Below wr.heap.size wr (wr.alloc o).drew) := hide (fun o => (bnew wr o).drew)
        have HLT := hide (And.intro HI.out.tb.lt HI.out.bw.size)
        rcases hin with ⟨hm, hF⟩ | ⟨F, k, hk, hF, hcF, hnF, hs1, hs2, hm⟩
        . have hR1 := hst.1 hm
          rw [hF] at HF
          unfold zrT at HF
          simp only [List.length_nil] at HF
          clear hst hm hF
          go_wp2_with fail
          clear x0 x1 x2 x3
          go_region_held3 (fun V => Below wr.heap.size wr V /\ (V.cell? ⟨w.heap.size, 0, none⟩ = some (.int .i64 (N : Int)) /\ V.cell? ⟨w.heap.size, 1, none⟩ = some (.slice a1 N ca1) /\ V.cell? ⟨w.heap.size, 2, none⟩ = some (.slice b1 N cb1)) /\ (V.cell? ⟨w.heap.size + 1, 1, none⟩ = some (.slice (some ⟨gu, ou, none⟩) N ca2)) /\ (V.cell? ⟨gu, ou + i * 4, none⟩ = some (.int .i64 pn) /\ V.cell? ⟨gu, ou + i * 4 + 1, none⟩ = some (.int .u64 (px : Int)) /\ V.cell? ⟨gu, ou + i * 4 + 2, none⟩ = some (.int .u64 (pz : Int)) /\ V.cell? ⟨gu, ou + i * 4 + 3, none⟩ = some (.int .i64 pph) /\ gu < V.heap.size))
            (first | exact HSV.out _ HD0.out | exact HSV.out _ (HD1.out _) | exact HSV.out _ (by assumption) | exact HSV.out _ (bkp hb4 (bnew _ _)) | exact HSV.out _ (bkp ‹Below wr.heap.size wr _ /\ _›.1 (bnew _ _)) | exact HSV.out _ (((hb4.setCell (p := ⟨_, 0, none⟩) (Nat.le_refl _) _).setCell (p := ⟨_, 1, none⟩) (Nat.le_refl _) _).setCell (p := ⟨_, 2, none⟩) (Nat.le_refl _) _))
            (first
              | (go_at_call 32; (with_reducible refine Calls.mono (HF.out _ (HTV.out _ (‹Below wr.heap.size wr _ /\ _›.1))) ?_); rintro e w4 ⟨a', b', ca', cb', rfl, hTh, q4⟩; have hb4 := bkp (‹Below wr.heap.size wr _ /\ _›.1) q4; first | (have zz4 : At3 w4 wr.heap.size (.int .i64 0) (.slice none 0 0) (.slice none 0 0) := (q4.block wr.heap.size (by simp)).trans (heap_alloc_new wr _); obtain ⟨z0, z1, z2, z3⟩ := zz4.cells; have zf := fun j => At3.fz zz4 j) | skip))
          . have HX : Hid (At3 (w4.alloc (.cells #[.int .i64 0, .slice a' 0 ca', .slice b' 0 cb'] 24)) w4.heap.size (.int .i64 0) (.slice a' 0 ca') (.slice b' 0 cb') /\ At3 (w4.alloc (.cells #[.int .i64 0, .slice a' 0 ca', .slice b' 0 cb'] 24)) w.heap.size (.int .i64 (N : Int)) (.slice a1 N ca1) (.slice b1 N cb1) /\ At3 (w4.alloc (.cells #[.int .i64 0, .slice a' 0 ca', .slice b' 0 cb'] 24)) (w.heap.size + 1) (.int .i64 (N : Int)) (.slice (some ⟨gu, ou, none⟩) N ca2) (.slice b2 N cb2) /\ Th (w4.alloc (.cells #[.int .i64 0, .slice a' 0 ca', .slice b' 0 cb'] 24)) zrT a' b' ca' cb' /\ Below w.heap.size w (w4.alloc (.cells #[.int .i64 0, .slice a' 0 ca', .slice b' 0 cb'] 24))) := hide ⟨At3.new _ _ _ _, (HI.out.ta.below hb4).below (bnew _ _), (HI.out.tb.below hb4).below (bnew _ _), hTh.below (bnew _ _), bkp (bkp HI.out.bw hb4) (bnew _ _)⟩
            clear hb4 hTh HSV HTV HD0 HD1 HF HPU HLT HI
            generalize (w4.alloc (.cells #[.int .i64 0, .slice a' 0 ca', .slice b' 0 cb'] 24)) = V at *
            generalize w4.heap.size = g9 at *
            go_wp2_with fail
            go_ret2
            exact ⟨by cases hR1; rfl, HX.out.2.2.2.2⟩
          . have HX : Hid (At3 (((w4.setCell ⟨wr.heap.size, 0, none⟩ (.int .i64 0)).setCell ⟨wr.heap.size, 1, none⟩ (.slice a' 0 ca')).setCell ⟨wr.heap.size, 2, none⟩ (.slice b' 0 cb')) wr.heap.size (.int .i64 0) (.slice a' 0 ca') (.slice b' 0 cb') /\ At3 (((w4.setCell ⟨wr.heap.size, 0, none⟩ (.int .i64 0)).setCell ⟨wr.heap.size, 1, none⟩ (.slice a' 0 ca')).setCell ⟨wr.heap.size, 2, none⟩ (.slice b' 0 cb')) w.heap.size (.int .i64 (N : Int)) (.slice a1 N ca1) (.slice b1 N cb1) /\ At3 (((w4.setCell ⟨wr.heap.size, 0, none⟩ (.int .i64 0)).setCell ⟨wr.heap.size, 1, none⟩ (.slice a' 0 ca')).setCell ⟨wr.heap.size, 2, none⟩ (.slice b' 0 cb')) (w.heap.size + 1) (.int .i64 (N : Int)) (.slice (some ⟨gu, ou, none⟩) N ca2) (.slice b2 N cb2) /\ Th (((w4.setCell ⟨wr.heap.size, 0, none⟩ (.int .i64 0)).setCell ⟨wr.heap.size, 1, none⟩ (.slice a' 0 ca')).setCell ⟨wr.heap.size, 2, none⟩ (.slice b' 0 cb')) zrT a' b' ca' cb' /\ Below w.heap.size w (((w4.setCell ⟨wr.heap.size, 0, none⟩ (.int .i64 0)).setCell ⟨wr.heap.size, 1, none⟩ (.slice a' 0 ca')).setCell ⟨wr.heap.size, 2, none⟩ (.slice b' 0 cb'))) := hide ⟨zz4.set _ _ _, (set3_heap _ _ _ _ _ _ (by have := HLT.out; omega)).trans (HI.out.ta.below hb4), (set3_heap _ _ _ _ _ _ (by have := HLT.out; omega)).trans (HI.out.tb.below hb4), hTh.off3 zz4 (fun _ hj => set3_heap _ _ _ _ _ _ hj), below_set3 (bkp HI.out.bw hb4) _ _ _ (by have := HLT.out; omega)⟩
            clear hb4 hTh HSV HTV HD0 HD1 HF HPU HLT HI zz4 z0 z1 z2 z3 zf
            generalize (((w4.setCell ⟨wr.heap.size, 0, none⟩ (.int .i64 0)).setCell ⟨wr.heap.size, 1, none⟩ (.slice a' 0 ca')).setCell ⟨wr.heap.size, 2, none⟩ (.slice b' 0 cb')) = V at *
            generalize wr.heap.size = g9 at *
            go_wp2_with fail
            go_ret2
            exact ⟨by cases hR1; rfl, HX.out.2.2.2.2⟩
        . have HN2 := hide (hst.2 F k 0 hm hF)
          have HCF := hide (And.intro hcF hnF)
          rw [hF] at HF
          simp only at HF
          rw [hnF, hs1, hs2] at HF
          clear hst hm hF hnF hs1 hs2 hcF
          go_wp2_with fail
          clear x0 x1 x2 x3
          go_region_held3 (fun V => Below wr.heap.size wr V /\ (V.cell? ⟨w.heap.size, 0, none⟩ = some (.int .i64 (N : Int)) /\ V.cell? ⟨w.heap.size, 1, none⟩ = some (.slice a1 N ca1) /\ V.cell? ⟨w.heap.size, 2, none⟩ = some (.slice b1 N cb1)) /\ (V.cell? ⟨w.heap.size + 1, 1, none⟩ = some (.slice (some ⟨gu, ou, none⟩) N ca2)) /\ (V.cell? ⟨gu, ou + i * 4, none⟩ = some (.int .i64 pn) /\ V.cell? ⟨gu, ou + i * 4 + 1, none⟩ = some (.int .u64 (px : Int)) /\ V.cell? ⟨gu, ou + i * 4 + 2, none⟩ = some (.int .u64 (pz : Int)) /\ V.cell? ⟨gu, ou + i * 4 + 3, none⟩ = some (.int .i64 pph) /\ gu < V.heap.size))
            (first | exact HSV.out _ HD0.out | exact HSV.out _ (HD1.out _) | exact HSV.out _ (by assumption) | exact HSV.out _ (bkp hb4 (bnew _ _)) | exact HSV.out _ (bkp ‹Below wr.heap.size wr _ /\ _›.1 (bnew _ _)) | exact HSV.out _ (((hb4.setCell (p := ⟨_, 0, none⟩) (Nat.le_refl _) _).setCell (p := ⟨_, 1, none⟩) (Nat.le_refl _) _).setCell (p := ⟨_, 2, none⟩) (Nat.le_refl _) _))
            (first
              | (go_at_call 32; (with_reducible refine Calls.mono (HF.out _ (HTV.out _ (‹Below wr.heap.size wr _ /\ _›.1))) ?_); rintro e w4 ⟨a', b', ca', cb', rfl, hTh, q4⟩; have hb4 := bkp (‹Below wr.heap.size wr _ /\ _›.1) q4; first | (have zz4 : At3 w4 wr.heap.size (.int .i64 0) (.slice none 0 0) (.slice none 0 0) := (q4.block wr.heap.size (by simp)).trans (heap_alloc_new wr _); obtain ⟨z0, z1, z2, z3⟩ := zz4.cells; have zf := fun j => At3.fz zz4 j) | skip))
          . have HX : Hid (At3 (w4.alloc (.cells #[.int .i64 (N : Int), .slice a' N ca', .slice b' N cb'] 24)) w4.heap.size (.int .i64 (N : Int)) (.slice a' N ca') (.slice b' N cb') /\ At3 (w4.alloc (.cells #[.int .i64 (N : Int), .slice a' N ca', .slice b' N cb'] 24)) w.heap.size (.int .i64 (N : Int)) (.slice a1 N ca1) (.slice b1 N cb1) /\ At3 (w4.alloc (.cells #[.int .i64 (N : Int), .slice a' N ca', .slice b' N cb'] 24)) (w.heap.size + 1) (.int .i64 (N : Int)) (.slice (some ⟨gu, ou, none⟩) N ca2) (.slice b2 N cb2) /\ Th (w4.alloc (.cells #[.int .i64 (N : Int), .slice a' N ca', .slice b' N cb'] 24)) F a' b' ca' cb' /\ Below w.heap.size w (w4.alloc (.cells #[.int .i64 (N : Int), .slice a' N ca', .slice b' N cb'] 24))) := hide ⟨At3.new _ _ _ _, (HI.out.ta.below hb4).below (bnew _ _), (HI.out.tb.below hb4).below (bnew _ _), hTh.below (bnew _ _), bkp (bkp HI.out.bw hb4) (bnew _ _)⟩
            clear hb4 hTh HSV HTV HD0 HD1 HF HPU HLT HI
            generalize (w4.alloc (.cells #[.int .i64 (N : Int), .slice a' N ca', .slice b' N cb'] 24)) = V at *
            generalize w4.heap.size = g9 at *
            obtain ⟨y0, y1, y2, y3⟩ := HX.out.1.cells
            have hR := HX.out.2.1
            have HO : Hid (Oi w (V.setRow w.heap.size #[.int .i64 (N : Int), .slice a' N ca', .slice b' N cb']) N F a' b' (some ⟨gu, ou, none⟩) b2 ca' cb' ca2 cb2) := hide ⟨setRow_heap _ _ _ _ _ _ hR, (setRow_other _ _ _ _ (by omega)).trans HX.out.2.2.1, HX.out.2.2.2.1.row hR _, below_setRow HX.out.2.2.2.2 (Nat.le_refl _) _⟩
            unfold At3 at hR
            clear HX
            go_wp2_with (first
              | (refine wpList_store_row rfl _ _ _ rfl w.heap.size _ rfl rfl _ _ hR (by exact infoT) (by rfl) (all3 _ _ _ _ _ _ _) ?_))
            go_roundw
            case rel => exact ⟨i + 1, s + k, F, a', b', ca', cb', by go_num, by go_num, by omega, by omega, HO, hide ⟨HCF.out.1, HCF.out.2, by rw [← HN2.out]; congr 1⟩⟩
            case measure => simp [Go.RowKit.intOf]; omega
          . have HX : Hid (At3 (((w4.setCell ⟨wr.heap.size, 0, none⟩ (.int .i64 (N : Int))).setCell ⟨wr.heap.size, 1, none⟩ (.slice a' N ca')).setCell ⟨wr.heap.size, 2, none⟩ (.slice b' N cb')) wr.heap.size (.int .i64 (N : Int)) (.slice a' N ca') (.slice b' N cb') /\ At3 (((w4.setCell ⟨wr.heap.size, 0, none⟩ (.int .i64 (N : Int))).setCell ⟨wr.heap.size, 1, none⟩ (.slice a' N ca')).setCell ⟨wr.heap.size, 2, none⟩ (.slice b' N cb')) w.heap.size (.int .i64 (N : Int)) (.slice a1 N ca1) (.slice b1 N cb1) /\ At3 (((w4.setCell ⟨wr.heap.size, 0, none⟩ (.int .i64 (N : Int))).setCell ⟨wr.heap.size, 1, none⟩ (.slice a' N ca')).setCell ⟨wr.heap.size, 2, none⟩ (.slice b' N cb')) (w.heap.size + 1) (.int .i64 (N : Int)) (.slice (some ⟨gu, ou, none⟩) N ca2) (.slice b2 N cb2) /\ Th (((w4.setCell ⟨wr.heap.size, 0, none⟩ (.int .i64 (N : Int))).setCell ⟨wr.heap.size, 1, none⟩ (.slice a' N ca')).setCell ⟨wr.heap.size, 2, none⟩ (.slice b' N cb')) F a' b' ca' cb' /\ Below w.heap.size w (((w4.setCell ⟨wr.heap.size, 0, none⟩ (.int .i64 (N : Int))).setCell ⟨wr.heap.size, 1, none⟩ (.slice a' N ca')).setCell ⟨wr.heap.size, 2, none⟩ (.slice b' N cb'))) := hide ⟨zz4.set _ _ _, (set3_heap _ _ _ _ _ _ (by have := HLT.out; omega)).trans (HI.out.ta.below hb4), (set3_heap _ _ _ _ _ _ (by have := HLT.out; omega)).trans (HI.out.tb.below hb4), hTh.off3 zz4 (fun _ hj => set3_heap _ _ _ _ _ _ hj), below_set3 (bkp HI.out.bw hb4) _ _ _ (by have := HLT.out; omega)⟩
            clear hb4 hTh HSV HTV HD0 HD1 HF HPU HLT HI zz4 z0 z1 z2 z3 zf
            generalize (((w4.setCell ⟨wr.heap.size, 0, none⟩ (.int .i64 (N : Int))).setCell ⟨wr.heap.size, 1, none⟩ (.slice a' N ca')).setCell ⟨wr.heap.size, 2, none⟩ (.slice b' N cb')) = V at *
            generalize wr.heap.size = g9 at *
            obtain ⟨y0, y1, y2, y3⟩ := HX.out.1.cells
            have hR := HX.out.2.1
            have HO : Hid (Oi w (V.setRow w.heap.size #[.int .i64 (N : Int), .slice a' N ca', .slice b' N cb']) N F a' b' (some ⟨gu, ou, none⟩) b2 ca' cb' ca2 cb2) := hide ⟨setRow_heap _ _ _ _ _ _ hR, (setRow_other _ _ _ _ (by omega)).trans HX.out.2.2.1, HX.out.2.2.2.1.row hR _, below_setRow HX.out.2.2.2.2 (Nat.le_refl _) _⟩
            unfold At3 at hR
            clear HX
            go_wp2_with (first
              | (refine wpList_store_row rfl _ _ _ rfl w.heap.size _ rfl rfl _ _ hR (by exact infoT) (by rfl) (all3 _ _ _ _ _ _ _) ?_))
            go_roundw
            case rel => exact ⟨i + 1, s + k, F, a', b', ca', cb', by go_num, by go_num, by omega, by omega, HO, hide ⟨HCF.out.1, HCF.out.2, by rw [← HN2.out]; congr 1⟩⟩
            case measure => simp [Go.RowKit.intOf]; omega
      . obtain rfl : N = i := by omega
        have HR : Hid (R = (s : Int)) := hide (by rw [← HV.out.2.2]; exact HEN.out _ _)
        have hd : decide ((N : Int) < (N : Int)) = false := decide_eq_false (by omega)
        go_wp2_with fail
        go_ret2
        exact ⟨by cases HR.out; rfl, HI.out.bw⟩
theorem tOverlap (t u : TT) (a b a2 b2 : Option Addr) (ca cb ca2 cb2 : Nat) (w : World) (h : Th w t a b ca cb) (h2 : Th w u a2 b2 ca2 cb2) :
    Calls Tryd.prog 13 #[tV t a b ca cb, tV u a2 b2 ca2 cb2] w fun e w' => e = .returned (.tuple #[.int .i64 (ovP t u).1, .int .i64 (ovP t u).2]) /\ Below w.heap.size w w' := by
  by_cases hh : chB t = true /\ chB u = true /\ t.n = u.n
  . have e : ovP t u = (ovR u.s t 0, 0) := by unfold ovP; rw [if_pos ⟨hh.1, hh.2.1⟩, if_pos hh.2.2]
    rw [e]
    exact tOverlap_ok t u a b a2 b2 ca cb ca2 cb2 hh.1 hh.2.1 hh.2.2 w h h2
  . exact tOverlap_no t u a b a2 b2 ca cb ca2 cb2 hh w h h2
theorem dOverlap_no (t u : TT) (a b a2 b2 : Option Addr) (ca cb ca2 cb2 : Nat) (hno : ¬ (chB t = true /\ chB u = true /\ t.n = u.n)) (w : World) (h : Th w t a b ca cb) (h2 : Th w u a2 b2 ca2 cb2) :
    Calls Tryd.prog 14 #[tV t a b ca cb, tV u a2 b2 ca2 cb2] w fun e w' => e = .returned (.tuple #[.int .i64 (ovP t u).1, .int .i64 (ovP t u).2]) /\ Below w.heap.size w w' := by
  have HC1 := hide (fun W (hb : Below w.heap.size w W) => dRightT t a b ca cb W (h.below hb))
  have HC2 := hide (fun W (hb : Below w.heap.size w W) => dRightT u a2 b2 ca2 cb2 W (h2.below hb))
  obtain ⟨hA, hZ⟩ := two3 w (.int .i64 t.n) (.slice a t.s.length ca) (.slice b t.d.length cb) (.int .i64 u.n) (.slice a2 u.s.length ca2) (.slice b2 u.d.length cb2)
  have HA := hide hA
  have HZ := hide hZ
  have HB0 := hide (bkp (bnew w (.cells #[.int .i64 t.n, .slice a t.s.length ca, .slice b t.d.length cb] 24)) (bnew _ (.cells #[.int .i64 u.n, .slice a2 u.s.length ca2, .slice b2 u.d.length cb2] 24)))
  clear hA hZ h h2
  unfold ovP
  
  unfold tV at HC1 HC2 ⊢
  by_cases hc1 : chB t = true
  . by_cases hc2 : chB u = true
    . have hn : ¬ t.n = u.n := fun e => hno ⟨hc1, hc2, e⟩
      have hne : (t.n != u.n) = true := bne_iff_ne.2 hn
      rw [if_pos ⟨hc1, hc2⟩, if_neg hn]
      rw [hc1] at HC1
      rw [hc2] at HC2
      clear hn hno hc1 hc2
      generalize t.n = n at *
      generalize u.n = n2 at *
      generalize t.s.length = ns at *
      generalize t.d.length = nd at *
      generalize u.s.length = ns2 at *
      generalize u.d.length = nd2 at *
      go_enter Tryd.func14, Tryd.ntmps14
      go_wp2_with fail
      refine (HC1.out _ HB0.out).mono ?_
      rintro e w1 ⟨rfl, hb1⟩
      have HB1 := hide (bkp HB0.out hb1)
      have HA1 := hide (HA.out.below hb1)
      have HZ1 := hide (HZ.out.below hb1)
      clear hb1 HA HZ HB0 HC1
      obtain ⟨x0, x1, x2, x3⟩ := HZ1.out.cells
      go_wp2_with fail
      refine (HC2.out _ HB1.out).mono ?_
      rintro e w2 ⟨rfl, hb2⟩
      have HB2 := hide (bkp HB1.out hb2)
      obtain ⟨y0, y1, y2, y3⟩ := (HA1.out.below hb2).cells
      obtain ⟨z0, z1, z2, z3⟩ := (HZ1.out.below hb2).cells
      clear hb2 HA1 HZ1 HB1 HC2 x0 x1 x2 x3
      go_wp2_with fail
      go_ret2
      exact ⟨rfl, HB2.out⟩
    . rw [if_neg (fun e => hc2 e.2)]
      rw [hc1] at HC1
      rw [Bool.eq_false_iff.2 hc2] at HC2
      clear hno hc1 hc2
      generalize t.n = n at *
      generalize u.n = n2 at *
      generalize t.s.length = ns at *
      generalize t.d.length = nd at *
      generalize u.s.length = ns2 at *
      generalize u.d.length = nd2 at *
      go_enter Tryd.func14, Tryd.ntmps14
      go_wp2_with fail
      refine (HC1.out _ HB0.out).mono ?_
      rintro e w1 ⟨rfl, hb1⟩
      have HB1 := hide (bkp HB0.out hb1)
      have HZ1 := hide (HZ.out.below hb1)
      clear hb1 HA HZ HB0 HC1
      obtain ⟨x0, x1, x2, x3⟩ := HZ1.out.cells
      go_wp2_with fail
      refine (HC2.out _ HB1.out).mono ?_
      rintro e w2 ⟨rfl, hb2⟩
      have HB2 := hide (bkp HB1.out hb2)
      clear hb2 HZ1 HB1 HC2 x0 x1 x2 x3
      go_wp2_with fail
      go_ret2
      exact ⟨rfl, HB2.out⟩
  . rw [if_neg (fun e => hc1 e.1)]
    rw [Bool.eq_false_iff.2 hc1] at HC1
    clear hno hc1 HC2
    generalize t.n = n at *
    generalize u.n = n2 at *
    generalize t.s.length = ns at *
    generalize t.d.length = nd at *
    generalize u.s.length = ns2 at *
    generalize u.d.length = nd2 at *
    go_enter Tryd.func14, Tryd.ntmps14
    go_wp2_with fail
    refine (HC1.out _ HB0.out).mono ?_
    rintro e w1 ⟨rfl, hb1⟩
    have HB1 := hide (bkp HB0.out hb1)
    clear hb1 HA HZ HB0 HC1
    go_wp2_with fail
    go_ret2
    exact ⟨rfl, HB1.out⟩
theorem dOverlap_f (N : Nat) : ∀ c a1 b1 ca1 cb1, chB c = true -> c.n = (N : Int) -> c.s.length = N -> c.d.length = N -> ∀ q, sgB q (N : Int) = true -> ∀ W, Th W c a1 b1 ca1 cb1 -> Calls Tryd.prog 12 #[.agg #[.int .i64 (N : Int), .slice a1 N ca1, .slice b1 N cb1], pV q] W fun e w' => ∃ a' b' ca' cb', e = .returned (.tuple #[.agg #[.int .i64 (frR c q).1.n, .slice a' (frR c q).1.s.length ca', .slice b' (frR c q).1.d.length cb'], .int .i64 (frR c q).2.1, .int .i64 (frR c q).2.2]) /\ Th w' (frR c q).1 a' b' ca' cb' /\ Below W.heap.size W w' := fun c a1 b1 ca1 cb1 hc hn hs hd q hq W h => by
  have hw := (sgB_iff.1 hq).1.wd
  have e : fpR c q = frR c q := by
    unfold fpR csI; rw [hn, if_pos hc, if_pos hq, if_pos rfl]
  have := dForce c a1 b1 ca1 cb1 q hw W h
  rw [e] at this
  unfold tV at this
  rw [hn, hs, hd] at this
  exact this
theorem dOverlap_ok (t u : TT) (a b a2 b2 : Option Addr) (ca cb ca2 cb2 : Nat) (hc1 : chB t = true) (hc2 : chB u = true) (hnn : t.n = u.n) (w : World) (h : Th w t a b ca cb) (h2 : Th w u a2 b2 ca2 cb2) :
    Calls Tryd.prog 14 #[tV t a b ca cb, tV u a2 b2 ca2 cb2] w fun e w' => e = .returned (.tuple #[.int .i64 (ovR u.s t 0), .int .i64 0]) /\ Below w.heap.size w w' := by
  have HC1 := hide (fun W (hb : Below w.heap.size w W) => dRightT t a b ca cb W (h.below hb))
  have HC2 := hide (fun W (hb : Below w.heap.size w W) => dRightT u a2 b2 ca2 cb2 W (h2.below hb))
  rw [hc1] at HC1
  rw [hc2] at HC2
  obtain ⟨h0, h64, hls, hld⟩ := sz_of (ch_size hc1)
  obtain ⟨-, -, hls2, hld2⟩ := sz_of (ch_size hc2)
  obtain ⟨N, hN⟩ : ∃ N : Nat, t.n = (N : Int) := ⟨t.n.toNat, by omega⟩
  have hN2 : u.n = (N : Int) := by rw [← hnn]; exact hN
  rw [hN, Int.toNat_natCast] at hls hld
  rw [hN2, Int.toNat_natCast] at hls2 hld2
  have hn64 : N <= 64 := by omega
  have HSG : Hid (∀ i, i < N -> sgB (u.s.getD i oP) (N : Int) = true) := hide (fun i hi => (sg_of hc2 hN2 hi).1)
  have HFR := hide (dOverlap_f N)
  have HST : Hid (∀ i c (s V : Int), i < N -> ovR (u.s.drop i) c s = V -> (memI c (u.s.getD i oP) = -1 -> V = -1) /\ (∀ F k e, memI c (u.s.getD i oP) ≠ -1 -> frR c (u.s.getD i oP) = (F, k, e) -> ovR (u.s.drop (i + 1)) F (s + k) = V)) := hide (fun i c s V hi hh => ov_step hls2 hi hh)
  have HEN : Hid (∀ c (s : Int), ovR (u.s.drop N) c s = s) := hide (fun c s => by rw [List.drop_eq_nil_of_le (by omega)]; rfl)
  have HV0 : Hid (chB t = true /\ t.n = (N : Int) /\ ovR (u.s.drop 0) t ((0 : Nat) : Int) = ovR u.s t 0) := hide ⟨hc1, hN, rfl⟩
  obtain ⟨hA, hZ⟩ := two3 w (.int .i64 t.n) (.slice a t.s.length ca) (.slice b t.d.length cb) (.int .i64 u.n) (.slice a2 u.s.length ca2) (.slice b2 u.d.length cb2)
  have hB0 := (bkp (bnew w (.cells #[.int .i64 t.n, .slice a t.s.length ca, .slice b t.d.length cb] 24)) (bnew _ (.cells #[.int .i64 u.n, .slice a2 u.s.length ca2, .slice b2 u.d.length cb2] 24)))
  rw [hN, hls, hld, hN2, hls2, hld2] at hA hZ hB0
  have HI0 := hide (Oi.mk (N := N) (c := t) hA hZ (h.below hB0) hB0)
  have HL : Hid (∀ c, chB c = true -> c.n = (N : Int) -> c.s.length = N /\ c.d.length = N) := hide (fun c k1 k2 => by
    obtain ⟨-, -, k3, k4⟩ := sz_of (ch_size k1)
    rw [k2, Int.toNat_natCast] at k3 k4
    exact ⟨k3, k4⟩)
  have HU := hide h2.s
  have HUL := hide hls2
  clear hA hZ h h2 hB0
  unfold tV at HC1 HC2 ⊢
  rw [hls, hld, hN] at HC1 ⊢
  rw [hls2, hld2, hN2] at HC2 ⊢
  generalize ovR u.s t 0 = R at *
  clear hc1 hc2 hnn h0 h64 hls hld hls2 hld2 hN hN2
  obtain ⟨x0, x1, x2, x3⟩ := HI0.out.ta.cells
  go_enter Tryd.func14, Tryd.ntmps14
  go_wp2_with fail
  refine (HC1.out _ HI0.out.bw).mono ?_
  rintro e w1 ⟨rfl, hb1⟩
  have HI1 := hide (HI0.out.keep hb1)
  clear hb1 HI0 HC1 x0 x1 x2 x3
  obtain ⟨x0, x1, x2, x3⟩ := HI1.out.tb.cells
  go_wp2_with fail
  refine (HC2.out _ HI1.out.bw).mono ?_
  rintro e w2 ⟨rfl, hb2⟩
  have HI2 := hide (HI1.out.keep hb2)
  clear hb2 HI1 HC2 x0 x1 x2 x3
  obtain ⟨x0, x1, x2, x3⟩ := HI2.out.tb.cells
  obtain ⟨y0, y1, y2, y3⟩ := HI2.out.ta.cells
  have hnn : ((N : Int) != (N : Int)) = false := by simp
  rcases HU.out with hnil | ⟨gu, ou, rfl, hcu⟩
  . obtain rfl : N = 0 := by have := HUL.out; rw [hnil] at this; simpa using this.symm
    clear hnil HU HST HFR HSG HL
    go_wp2_with fail
    go_loopw [6, 7] (fun vs vi wr => ∃ (i s : Nat) (c : TT) (a1 b1 : Option Addr) (ca1 cb1 : Nat), vi = .int .i64 (i : Int) /\ vs = .int .i64 (s : Int) /\ i <= 0 /\ s <= i /\ Hid (Oi w wr 0 c a1 b1 a2 b2 ca1 cb1 ca2 cb2) /\ Hid (chB c = true /\ c.n = ((0 : Nat) : Int) /\ ovR (u.s.drop i) c (s : Int) = R)) (fun _ vi _ => 0 - (Go.RowKit.intOf vi).toNat)
    case atStart => exact ⟨0, 0, t, a, b, ca, cb, rfl, rfl, Nat.zero_le _, Nat.le_refl _, HI2, HV0⟩
    case round =>
      obtain ⟨i, s, c, a1, b1, ca1, cb1, rfl, rfl, hi, hs, HI, HV⟩ := hrel
      clear HI2 HV0
      obtain ⟨x0, x1, x2, x3⟩ := HI.out.tb.cells
      by_cases h : i < 0
      . exact absurd h (Nat.not_lt_zero _)
      . obtain rfl : i = 0 := by omega
        have HR : Hid (R = (s : Int)) := hide (by rw [← HV.out.2.2]; exact HEN.out _ _)
        go_wp2_with fail
        go_ret2
        exact ⟨by cases HR.out; rfl, HI.out.bw⟩
  . have HRU : Hid (∀ V, Below w.heap.size w V -> ∀ i, i < N -> Pc V gu (ou + i * 4) (u.s.getD i oP) /\ gu < V.heap.size) := hide (fun V hb i hi => by
      have := (hcu i _ (get_of (by rw [HUL.out]; exact hi))).below hb
      exact ⟨this, this.lt⟩)
    clear hcu HU
    go_wp2_with fail
    go_loopw [6, 7] (fun vs vi wr => ∃ (i s : Nat) (c : TT) (a1 b1 : Option Addr) (ca1 cb1 : Nat), vi = .int .i64 (i : Int) /\ vs = .int .i64 (s : Int) /\ i <= N /\ s <= i /\ Hid (Oi w wr N c a1 b1 (some ⟨gu, ou, none⟩) b2 ca1 cb1 ca2 cb2) /\ Hid (chB c = true /\ c.n = (N : Int) /\ ovR (u.s.drop i) c (s : Int) = R)) (fun _ vi _ => N - (Go.RowKit.intOf vi).toNat)
    case atStart => exact ⟨0, 0, t, a, b, ca, cb, rfl, rfl, Nat.zero_le _, Nat.le_refl _, HI2, HV0⟩
    case round =>
      obtain ⟨i, s, c, a1, b1, ca1, cb1, rfl, rfl, hi, hs, HI, HV⟩ := hrel
      clear HI2 HV0
      obtain ⟨x0, x1, x2, x3⟩ := HI.out.tb.cells
      by_cases h : i < N
      . have hd : decide ((i : Int) < (N : Int)) = true := decide_eq_true (by omega)
        obtain ⟨l1, l2⟩ := HL.out c HV.out.1 HV.out.2.1
        have hst := HST.out i c _ _ h HV.out.2.2
        have hsg := HSG.out i h
        have HF := hide (fun W hW => HFR.out c a1 b1 ca1 cb1 HV.out.1 HV.out.2.1 l1 l2 _ hsg W hW)
        have HPU := hide (fun V hb => HRU.out V hb i h)
        have hin := fr_info HV.out.1 HV.out.2.1 hsg
        clear HST HSG HFR HRU HL hsg l1 l2 HV HUL
        generalize u.s.getD i oP = pu at *
        have HSV : Hid (∀ V, Below wr.heap.size wr V -> (Below wr.heap.size wr V /\ (V.cell? ⟨w.heap.size, 0, none⟩ = some (.int .i64 (N : Int)) /\ V.cell? ⟨w.heap.size, 1, none⟩ = some (.slice a1 N ca1) /\ V.cell? ⟨w.heap.size, 2, none⟩ = some (.slice b1 N cb1)) /\ (V.cell? ⟨w.heap.size + 1, 1, none⟩ = some (.slice (some ⟨gu, ou, none⟩) N ca2)) /\ (V.cell? ⟨gu, ou + i * 4, none⟩ = some (.int .i64 pu.n) /\ V.cell? ⟨gu, ou + i * 4 + 1, none⟩ = some (.int .u64 (pu.x : Int)) /\ V.cell? ⟨gu, ou + i * 4 + 2, none⟩ = some (.int .u64 (pu.z : Int)) /\ V.cell? ⟨gu, ou + i * 4 + 3, none⟩ = some (.int .i64 pu.ph) /\ gu < V.heap.size))) := hide (fun V hV => by
          obtain ⟨k0, k1, k2, -⟩ := (HI.out.ta.below hV).cells
          obtain ⟨-, j1, -, -⟩ := (HI.out.tb.below hV).cells
          obtain ⟨⟨c0, c1, c2, c3⟩, c4⟩ := HPU.out V (bkp HI.out.bw hV)
          exact ⟨hV, ⟨k0, k1, k2⟩, j1, c0, c1, c2, c3, c4⟩)
        obtain ⟨pn, px, pz, pph⟩ := pu
        unfold pV at HF
        simp only at HF HSV
        have HTV : Hid (∀ V, Below wr.heap.size wr V -> Th V c a1 b1 ca1 cb1) := hide (fun V hV => HI.out.th.below hV)
        have HD0 : Hid (Below wr.heap.size wr wr.drew) := hide (Below.refl _ _).drew
        have HD1 : Hid (∀ o, Below wr.heap.size wr (wr.alloc o).drew) := hide (fun o => (bnew wr o).drew)
        have HLT := hide (And.intro HI.out.tb.lt HI.out.bw.size)
        rcases hin with ⟨hm, hF⟩ | ⟨F, k, hk, hF, hcF, hnF, hs1, hs2, hm⟩
        . have hR1 := hst.1 hm
          rw [hF] at HF
          unfold zrT at HF
          simp only [List.length_nil] at HF
          clear hst hm hF
          go_wp2_with fail
          clear x0 x1 x2 x3
          go_region_held3 (fun V => Below wr.heap.size wr V /\ (V.cell? ⟨w.heap.size, 0, none⟩ = some (.int .i64 (N : Int)) /\ V.cell? ⟨w.heap.size, 1, none⟩ = some (.slice a1 N ca1) /\ V.cell? ⟨w.heap.size, 2, none⟩ = some (.slice b1 N cb1)) /\ (V.cell? ⟨w.heap.size + 1, 1, none⟩ = some (.slice (some ⟨gu, ou, none⟩) N ca2)) /\ (V.cell? ⟨gu, ou + i * 4, none⟩ = some (.int .i64 pn) /\ V.cell? ⟨gu, ou + i * 4 + 1, none⟩ = some (.int .u64 (px : Int)) /\ V.cell? ⟨gu, ou + i * 4 + 2, none⟩ = some (.int .u64 (pz : Int)) /\ V.cell? ⟨gu, ou + i * 4 + 3, none⟩ = some (.int .i64 pph) /\ gu < V.heap.size))
            (first | exact HSV.out _ HD0.out | exact HSV.out _ (HD1.out _) | exact HSV.out _ (by assumption) | exact HSV.out _ (bkp hb4 (bnew _ _)) | exact HSV.out _ (bkp ‹Below wr.heap.size wr _ /\ _›.1 (bnew _ _)) | exact HSV.out _ (((hb4.setCell (p := ⟨_, 0, none⟩) (Nat.le_refl _) _).setCell (p := ⟨_, 1, none⟩) (Nat.le_refl _) _).setCell (p := ⟨_, 2, none⟩) (Nat.le_refl _) _))
            (first
              | (go_at_call 12; (with_reducible refine Calls.mono (HF.out _ (HTV.out _ (‹Below wr.heap.size wr _ /\ _›.1))) ?_); rintro e w4 ⟨a', b', ca', cb', rfl, hTh, q4⟩; have hb4 := bkp (‹Below wr.heap.size wr _ /\ _›.1) q4; first | (have zz4 : At3 w4 wr.heap.size (.int .i64 0) (.slice none 0 0) (.slice none 0 0) := (q4.block wr.heap.size (by simp)).trans (heap_alloc_new wr _); obtain ⟨z0, z1, z2, z3⟩ := zz4.cells; have zf := fun j => At3.fz zz4 j) | skip))
          . have HX : Hid (At3 (w4.alloc (.cells #[.int .i64 0, .slice a' 0 ca', .slice b' 0 cb'] 24)) w4.heap.size (.int .i64 0) (.slice a' 0 ca') (.slice b' 0 cb') /\ At3 (w4.alloc (.cells #[.int .i64 0, .slice a' 0 ca', .slice b' 0 cb'] 24)) w.heap.size (.int .i64 (N : Int)) (.slice a1 N ca1) (.slice b1 N cb1) /\ At3 (w4.alloc (.cells #[.int .i64 0, .slice a' 0 ca', .slice b' 0 cb'] 24)) (w.heap.size + 1) (.int .i64 (N : Int)) (.slice (some ⟨gu, ou, none⟩) N ca2) (.slice b2 N cb2) /\ Th (w4.alloc (.cells #[.int .i64 0, .slice a' 0 ca', .slice b' 0 cb'] 24)) zrT a' b' ca' cb' /\ Below w.heap.size w (w4.alloc (.cells #[.int .i64 0, .slice a' 0 ca', .slice b' 0 cb'] 24))) := hide ⟨At3.new _ _ _ _, (HI.out.ta.below hb4).below (bnew _ _), (HI.out.tb.below hb4).below (bnew _ _), hTh.below (bnew _ _), bkp (bkp HI.out.bw hb4) (bnew _ _)⟩
            clear hb4 hTh HSV HTV HD0 HD1 HF HPU HLT HI
            generalize (w4.alloc (.cells #[.int .i64 0, .slice a' 0 ca', .slice b' 0 cb'] 24)) = V at *
            generalize w4.heap.size = g9 at *
            go_wp2_with fail
            go_ret2
            exact ⟨by cases hR1; rfl, HX.out.2.2.2.2⟩
          . have HX : Hid (At3 (((w4.setCell ⟨wr.heap.size, 0, none⟩ (.int .i64 0)).setCell ⟨wr.heap.size, 1, none⟩ (.slice a' 0 ca')).setCell ⟨wr.heap.size, 2, none⟩ (.slice b' 0 cb')) wr.heap.size (.int .i64 0) (.slice a' 0 ca') (.slice b' 0 cb') /\ At3 (((w4.setCell ⟨wr.heap.size, 0, none⟩ (.int .i64 0)).setCell ⟨wr.heap.size, 1, none⟩ (.slice a' 0 ca')).setCell ⟨wr.heap.size, 2, none⟩ (.slice b' 0 cb')) w.heap.size (.int .i64 (N : Int)) (.slice a1 N ca1) (.slice b1 N cb1) /\ At3 (((w4.setCell ⟨wr.heap.size, 0, none⟩ (.int .i64 0)).setCell ⟨wr.heap.size, 1, none⟩ (.slice a' 0 ca')).setCell ⟨wr.heap.size, 2, none⟩ (.slice b' 0 cb')) (w.heap.size + 1) (.int .i64 (N : Int)) (.slice (some ⟨gu, ou, none⟩) N ca2) (.slice b2 N cb2) /\ Th (((w4.setCell ⟨wr.heap.size, 0, none⟩ (.int .i64 0)).setCell ⟨wr.heap.size, 1, none⟩ (.slice a' 0 ca')).setCell ⟨wr.heap.size, 2, none⟩ (.slice b' 0 cb')) zrT a' b' ca' cb' /\ Below w.heap.size w (((w4.setCell ⟨wr.heap.size, 0, none⟩ (.int .i64 0)).setCell ⟨wr.heap.size, 1, none⟩ (.slice a' 0 ca')).setCell ⟨wr.heap.size, 2, none⟩ (.slice b' 0 cb'))) := hide ⟨zz4.set _ _ _, (set3_heap _ _ _ _ _ _ (by have := HLT.out; omega)).trans (HI.out.ta.below hb4), (set3_heap _ _ _ _ _ _ (by have := HLT.out; omega)).trans (HI.out.tb.below hb4), hTh.off3 zz4 (fun _ hj => set3_heap _ _ _ _ _ _ hj), below_set3 (bkp HI.out.bw hb4) _ _ _ (by have := HLT.out; omega)⟩
            clear hb4 hTh HSV HTV HD0 HD1 HF HPU HLT HI zz4 z0 z1 z2 z3 zf
            generalize (((w4.setCell ⟨wr.heap.size, 0, none⟩ (.int .i64 0)).setCell ⟨wr.heap.size, 1, none⟩ (.slice a' 0 ca')).setCell ⟨wr.heap.size, 2, none⟩ (.slice b' 0 cb')) = V at *
            generalize wr.heap.size = g9 at *
            go_wp2_with fail
            go_ret2
            exact ⟨by cases hR1; rfl, HX.out.2.2.2.2⟩
        . have HN2 := hide (hst.2 F k 0 hm hF)
          have HCF := hide (And.intro hcF hnF)
          rw [hF] at HF
          simp only at HF
          rw [hnF, hs1, hs2] at HF
          clear hst hm hF hnF hs1 hs2 hcF
          go_wp2_with fail
          clear x0 x1 x2 x3
          go_region_held3 (fun V => Below wr.heap.size wr V /\ (V.cell? ⟨w.heap.size, 0, none⟩ = some (.int .i64 (N : Int)) /\ V.cell? ⟨w.heap.size, 1, none⟩ = some (.slice a1 N ca1) /\ V.cell? ⟨w.heap.size, 2, none⟩ = some (.slice b1 N cb1)) /\ (V.cell? ⟨w.heap.size + 1, 1, none⟩ = some (.slice (some ⟨gu, ou, none⟩) N ca2)) /\ (V.cell? ⟨gu, ou + i * 4, none⟩ = some (.int .i64 pn) /\ V.cell? ⟨gu, ou + i * 4 + 1, none⟩ = some (.int .u64 (px : Int)) /\ V.cell? ⟨gu, ou + i * 4 + 2, none⟩ = some (.int .u64 (pz : Int)) /\ V.cell? ⟨gu, ou + i * 4 + 3, none⟩ = some (.int .i64 pph) /\ gu < V.heap.size))
            (first | exact HSV.out _ HD0.out | exact HSV.out _ (HD1.out _) | exact HSV.out _ (by assumption) | exact HSV.out _ (bkp hb4 (bnew _ _)) | exact HSV.out _ (bkp ‹Below wr.heap.size wr _ /\ _›.1 (bnew _ _)) | exact HSV.out _ (((hb4.setCell (p := ⟨_, 0, none⟩) (Nat.le_refl _) _).setCell (p := ⟨_, 1, none⟩) (Nat.le_refl _) _).setCell (p := ⟨_, 2, none⟩) (Nat.le_refl _) _))
            (first
              | (go_at_call 12; (with_reducible refine Calls.mono (HF.out _ (HTV.out _ (‹Below wr.heap.size wr _ /\ _›.1))) ?_); rintro e w4 ⟨a', b', ca', cb', rfl, hTh, q4⟩; have hb4 := bkp (‹Below wr.heap.size wr _ /\ _›.1) q4; first | (have zz4 : At3 w4 wr.heap.size (.int .i64 0) (.slice none 0 0) (.slice none 0 0) := (q4.block wr.heap.size (by simp)).trans (heap_alloc_new wr _); obtain ⟨z0, z1, z2, z3⟩ := zz4.cells; have zf := fun j => At3.fz zz4 j) | skip))
          . have HX : Hid (At3 (w4.alloc (.cells #[.int .i64 (N : Int), .slice a' N ca', .slice b' N cb'] 24)) w4.heap.size (.int .i64 (N : Int)) (.slice a' N ca') (.slice b' N cb') /\ At3 (w4.alloc (.cells #[.int .i64 (N : Int), .slice a' N ca', .slice b' N cb'] 24)) w.heap.size (.int .i64 (N : Int)) (.slice a1 N ca1) (.slice b1 N cb1) /\ At3 (w4.alloc (.cells #[.int .i64 (N : Int), .slice a' N ca', .slice b' N cb'] 24)) (w.heap.size + 1) (.int .i64 (N : Int)) (.slice (some ⟨gu, ou, none⟩) N ca2) (.slice b2 N cb2) /\ Th (w4.alloc (.cells #[.int .i64 (N : Int), .slice a' N ca', .slice b' N cb'] 24)) F a' b' ca' cb' /\ Below w.heap.size w (w4.alloc (.cells #[.int .i64 (N : Int), .slice a' N ca', .slice b' N cb'] 24))) := hide ⟨At3.new _ _ _ _, (HI.out.ta.below hb4).below (bnew _ _), (HI.out.tb.below hb4).below (bnew _ _), hTh.below (bnew _ _), bkp (bkp HI.out.bw hb4) (bnew _ _)⟩
            clear hb4 hTh HSV HTV HD0 HD1 HF HPU HLT HI
            generalize (w4.alloc (.cells #[.int .i64 (N : Int), .slice a' N ca', .slice b' N cb'] 24)) = V at *
            generalize w4.heap.size = g9 at *
            obtain ⟨y0, y1, y2, y3⟩ := HX.out.1.cells
            have hR := HX.out.2.1
            have HO : Hid (Oi w (V.setRow w.heap.size #[.int .i64 (N : Int), .slice a' N ca', .slice b' N cb']) N F a' b' (some ⟨gu, ou, none⟩) b2 ca' cb' ca2 cb2) := hide ⟨setRow_heap _ _ _ _ _ _ hR, (setRow_other _ _ _ _ (by omega)).trans HX.out.2.2.1, HX.out.2.2.2.1.row hR _, below_setRow HX.out.2.2.2.2 (Nat.le_refl _) _⟩
            unfold At3 at hR
            clear HX
            go_wp2_with (first
              | (refine wpList_store_row rfl _ _ _ rfl w.heap.size _ rfl rfl _ _ hR (by exact infoT) (by rfl) (all3 _ _ _ _ _ _ _) ?_))
            go_roundw
            case rel => exact ⟨i + 1, s + k, F, a', b', ca', cb', by go_num, by go_num, by omega, by omega, HO, hide ⟨HCF.out.1, HCF.out.2, by rw [← HN2.out]; congr 1⟩⟩
            case measure => simp [Go.RowKit.intOf]; omega
          . have HX : Hid (At3 (((w4.setCell ⟨wr.heap.size, 0, none⟩ (.int .i64 (N : Int))).setCell ⟨wr.heap.size, 1, none⟩ (.slice a' N ca')).setCell ⟨wr.heap.size, 2, none⟩ (.slice b' N cb')) wr.heap.size (.int .i64 (N : Int)) (.slice a' N ca') (.slice b' N cb') /\ At3 (((w4.setCell ⟨wr.heap.size, 0, none⟩ (.int .i64 (N : Int))).setCell ⟨wr.heap.size, 1, none⟩ (.slice a' N ca')).setCell ⟨wr.heap.size, 2, none⟩ (.slice b' N cb')) w.heap.size (.int .i64 (N : Int)) (.slice a1 N ca1) (.slice b1 N cb1) /\ At3 (((w4.setCell ⟨wr.heap.size, 0, none⟩ (.int .i64 (N : Int))).setCell ⟨wr.heap.size, 1, none⟩ (.slice a' N ca')).setCell ⟨wr.heap.size, 2, none⟩ (.slice b' N cb')) (w.heap.size + 1) (.int .i64 (N : Int)) (.slice (some ⟨gu, ou, none⟩) N ca2) (.slice b2 N cb2) /\ Th (((w4.setCell ⟨wr.heap.size, 0, none⟩ (.int .i64 (N : Int))).setCell ⟨wr.heap.size, 1, none⟩ (.slice a' N ca')).setCell ⟨wr.heap.size, 2, none⟩ (.slice b' N cb')) F a' b' ca' cb' /\ Below w.heap.size w (((w4.setCell ⟨wr.heap.size, 0, none⟩ (.int .i64 (N : Int))).setCell ⟨wr.heap.size, 1, none⟩ (.slice a' N ca')).setCell ⟨wr.heap.size, 2, none⟩ (.slice b' N cb'))) := hide ⟨zz4.set _ _ _, (set3_heap _ _ _ _ _ _ (by have := HLT.out; omega)).trans (HI.out.ta.below hb4), (set3_heap _ _ _ _ _ _ (by have := HLT.out; omega)).trans (HI.out.tb.below hb4), hTh.off3 zz4 (fun _ hj => set3_heap _ _ _ _ _ _ hj), below_set3 (bkp HI.out.bw hb4) _ _ _ (by have := HLT.out; omega)⟩
            clear hb4 hTh HSV HTV HD0 HD1 HF HPU HLT HI zz4 z0 z1 z2 z3 zf
            generalize (((w4.setCell ⟨wr.heap.size, 0, none⟩ (.int .i64 (N : Int))).setCell ⟨wr.heap.size, 1, none⟩ (.slice a' N ca')).setCell ⟨wr.heap.size, 2, none⟩ (.slice b' N cb')) = V at *
            generalize wr.heap.size = g9 at *
            obtain ⟨y0, y1, y2, y3⟩ := HX.out.1.cells
            have hR := HX.out.2.1
            have HO : Hid (Oi w (V.setRow w.heap.size #[.int .i64 (N : Int), .slice a' N ca', .slice b' N cb']) N F a' b' (some ⟨gu, ou, none⟩) b2 ca' cb' ca2 cb2) := hide ⟨setRow_heap _ _ _ _ _ _ hR, (setRow_other _ _ _ _ (by omega)).trans HX.out.2.2.1, HX.out.2.2.2.1.row hR _, below_setRow HX.out.2.2.2.2 (Nat.le_refl _) _⟩
            unfold At3 at hR
            clear HX
            go_wp2_with (first
              | (refine wpList_store_row rfl _ _ _ rfl w.heap.size _ rfl rfl _ _ hR (by exact infoT) (by rfl) (all3 _ _ _ _ _ _ _) ?_))
            go_roundw
            case rel => exact ⟨i + 1, s + k, F, a', b', ca', cb', by go_num, by go_num, by omega, by omega, HO, hide ⟨HCF.out.1, HCF.out.2, by rw [← HN2.out]; congr 1⟩⟩
            case measure => simp [Go.RowKit.intOf]; omega
      . obtain rfl : N = i := by omega
        have HR : Hid (R = (s : Int)) := hide (by rw [← HV.out.2.2]; exact HEN.out _ _)
        have hd : decide ((N : Int) < (N : Int)) = false := decide_eq_false (by omega)
        go_wp2_with fail
        go_ret2
        exact ⟨by cases HR.out; rfl, HI.out.bw⟩
theorem dOverlap (t u : TT) (a b a2 b2 : Option Addr) (ca cb ca2 cb2 : Nat) (w : World) (h : Th w t a b ca cb) (h2 : Th w u a2 b2 ca2 cb2) :
    Calls Tryd.prog 14 #[tV t a b ca cb, tV u a2 b2 ca2 cb2] w fun e w' => e = .returned (.tuple #[.int .i64 (ovP t u).1, .int .i64 (ovP t u).2]) /\ Below w.heap.size w w' := by
  by_cases hh : chB t = true /\ chB u = true /\ t.n = u.n
  . have e : ovP t u = (ovR u.s t 0, 0) := by unfold ovP; rw [if_pos ⟨hh.1, hh.2.1⟩, if_pos hh.2.2]
    rw [e]
    exact dOverlap_ok t u a b a2 b2 ca cb ca2 cb2 hh.1 hh.2.1 hh.2.2 w h h2
  . exact dOverlap_no t u a b a2 b2 ca cb ca2 cb2 hh w h h2
end Go.Proofs.YtaggifpnamjghaaDoor.Tbl
