import Derived.Test.YtpehekonjdneaaaDoorK76c6d5a8
set_option maxRecDepth 100000
set_option maxHeartbeats 8000000
namespace Go.Proofs.YtpehekonjdneaaaDoor.Tbl
open Go.RowKit Go.Shelf Go.Proofs.YtpehekonjdneaaaDoor.Pau Go.Proofs.YtpehekonjdneaaaDoor.Gt
theorem PO.drop {w : World} {g : Nat} {l : List P} (h : PO w g l) (r : Nat) : PIn w (some ⟨g, r * 4, none⟩) (l.drop r) := .inr ⟨g, r * 4, rfl, fun i p hp => by
  rw [List.getElem?_drop] at hp
  have := h.at hp
  rw [show (r + i) * 4 = r * 4 + i * 4 by omega] at this
  exact this⟩
theorem ix_cases (T : P -> Bool) (l : List P) : (l.any T = true /\ ixF T l = (l.findIdx T : Int)) ∨ (l.any T = false /\ ixF T l = -1) := by
  unfold ixF
  cases h : l.any T
  . exact .inr ⟨rfl, rfl⟩
  . exact .inl ⟨rfl, rfl⟩
theorem tReduce (N : Nat) (l : List P) (hl : ∀ p ∈ l, Rr N p) (hN : N <= 64) (hn : l.length <= 64) (g k : Nat) (hk : l.length <= k) (w : World) (hO : PO w g l) :
    Calls Tryd.prog 23 #[.slice (some ⟨g, 0, none⟩) l.length k, .int .i64 (N : Int)] w fun e w' => e = .returned (.int .i64 ((redS N l (2 * N)).2 : Int)) /\ PO w' g (redS N l (2 * N)).1 /\ Bx g w w' := by
  have hgl := hO.lt
  have HRR := hide (redS_rr hl)
  have HLN := hide (redS_len N l)
  have HRK := hide (redS_rank N l)
  have HST : Hid (∀ c, redS N l (c + 1) = redC N c (redS N l c)) := hide (fun _ => rfl)
  have HI0 : Hid (Bx g w w /\ PO w g (redS N l 0).1) := hide ⟨Bx.refl _ _, hO⟩
  have H00 : (redS N l 0).2 = 0 := rfl
  obtain ⟨n, hn'⟩ : ∃ n, l.length = n := ⟨_, rfl⟩
  rw [hn'] at hn hk HLN HRK ⊢
  generalize hS : redS N l = S at *
  have e2 : IntKind.i64.wrap (2 * (N : Int)) = ((2 * N : Nat) : Int) := by rw [wrapI]; omega
  have e3 : wrap64 (2 * (N : Int)) = ((2 * N : Nat) : Int) := by unfold wrap64; omega
  generalize hM : 2 * N = M at *
  have HM := hide hM
  have hM128 : M <= 128 := by omega
  clear hO hl hn' hS hM
  go_enter Tryd.func23, Tryd.ntmps23
  go_wp2_with fail
  go_loopw [5, 12] (fun vr vi wr => ∃ c : Nat, vr = .int .i64 ((S c).2 : Int) /\ vi = .int .i64 (c : Int) /\ c <= M /\ Hid (Bx g w wr /\ PO wr g (S c).1)) (fun _ vi _ => M - (Go.RowKit.intOf vi).toNat)
  case atStart => exact ⟨0, by rw [H00]; rfl, rfl, Nat.zero_le _, HI0⟩
  case round =>
    obtain ⟨c, rfl, rfl, hc, HI⟩ := hrel
    clear HI0 H00
    by_cases h : c < M
    . have hd : decide ((c : Int) < (M : Int)) = true := decide_eq_true (by omega)
      have hrk := HRK.out c
      have hst := HST.out c
      have HLc := hide (HLN.out c)
      have HRc := hide (HRR.out c)
      have hcN : c < 2 * N := by have := HM.out; omega
      obtain ⟨S1, hS1⟩ : ∃ s, S (c + 1) = s := ⟨_, rfl⟩
      rw [hS1] at hst
      have HQ := hide hS1
      clear hS1
      generalize S c = S0 at *
      obtain ⟨L, r⟩ := S0
      simp only at *
      have HS1 := hide hst
      clear hst
      have hbn := bnew wr (.cells #[.int .i64 (c : Int)] 3)
      have HI1 : Hid (Bx g w (wr.alloc (.cells #[.int .i64 (c : Int)] 3)) /\ PO (wr.alloc (.cells #[.int .i64 (c : Int)] 3)) g L /\ At1 (wr.alloc (.cells #[.int .i64 (c : Int)] 3)) wr.heap.size (c : Int)) := hide ⟨HI.out.1.then hbn, HI.out.2.below hbn, heap_alloc_new _ _⟩
      have hgw := HI.out.2.lt
      have hrn : r <= n := hrk
      clear HI hbn
      have HTS : Hid (∀ V, At1 V wr.heap.size (c : Int) -> Tell (Rr N) V (.func (.func 39) #[] #[.pointer (some ⟨wr.heap.size, 0, none⟩)]) (bitB N c)) := hide (fun V hV => tell_set hcN hV)
      by_cases hlt : r < n
      . have hkr : ¬ k = r := by omega
        have hkr' : ¬ r = k := by omega
        have HIX : Hid (∀ V c', PO V g L -> Tell (Rr N) V (.func (.func 39) #[] #[.pointer (some ⟨wr.heap.size, 0, none⟩)]) (bitB N c) -> Calls Tryd.prog 41 #[.slice (some ⟨g, r * 4, none⟩) (n - r) c', .func (.func 39) #[] #[.pointer (some ⟨wr.heap.size, 0, none⟩)]] V fun e w' => e = .returned (.int .i64 (ixF (bitB N c) (L.drop r))) /\ Below V.heap.size V w') := hide (fun V c' hV hf => by
          have := tIndexF (Rr N) (bitB N c) _ (L.drop r) (fun p hp => HRc.out p (List.mem_of_mem_drop hp)) _ c' (by rw [List.length_drop, HLc.out]; omega) V (hV.drop r) hf
          rw [List.length_drop, HLc.out] at this
          exact this)
        rcases ix_cases (bitB N c) (L.drop r) with ⟨ha, hix⟩ | ⟨ha, hix⟩
        . rw [hix] at HIX
          have hKr := (redC_rank (N := N) (c := c) (s := (L, r)) (by show r <= L.length; rw [HLc.out]; exact hrn)).2.2 ha
          unfold pvK at hKr
          simp only at hKr
          rw [HLc.out] at hKr
          have HS2 : Hid (S1 = (mlL ((L.set r (L.getD (r + (L.drop r).findIdx (bitB N c)) oP)).set (r + (L.drop r).findIdx (bitB N c)) (L.getD r oP)) (L.getD (r + (L.drop r).findIdx (bitB N c)) oP) r (bitB N c), r + 1)) := hide (by rw [HS1.out]; unfold redC pvK; simp only [ha, if_true])
          generalize (L.drop r).findIdx (bitB N c) = d at *
          obtain ⟨K, hK⟩ : ∃ K, r + d = K := ⟨_, rfl⟩
          rw [hK] at hKr HS2
          have e5 : IntKind.i64.wrap ((r : Int) + (d : Int)) = (K : Int) := by rw [wrapI]; omega
          have e6 : wrap64 ((r : Int) + (d : Int)) = (K : Int) := by unfold wrap64; omega
          have HKK := hide hK
          clear hK
          have HPV := hide (rr_getD HRc.out (show K < L.length by rw [HLc.out]; exact hKr.1))
          have HR0 := hide (rr_getD HRc.out (show r < L.length by rw [HLc.out]; exact hlt))
          have hgK := get_of (show K < L.length by rw [HLc.out]; exact hKr.1)
          have hgr := get_of (show r < L.length by rw [HLc.out]; exact hlt)
          have HMU : Hid (∀ V g1, PO V g ((L.set r (L.getD K oP)).set K (L.getD r oP)) -> At1 V g1 (c : Int) -> g1 ≠ g -> Calls Tryd.prog 42 #[.slice (some ⟨g, 0, none⟩) n k, pV (L.getD K oP), .int .i64 (r : Int), .func (.func 39) #[] #[.pointer (some ⟨g1, 0, none⟩)]] V fun e w' => e = .returned (.tuple #[]) /\ PO w' g (mlL ((L.set r (L.getD K oP)).set K (L.getD r oP)) (L.getD K oP) r (bitB N c)) /\ Bx g V w') := hide (fun V g1 hV h1 hne => by
            have := tMultiply (Rr N) (fun _ h => h.wd) (bitB N c) _ ((L.set r (L.getD K oP)).set K (L.getD r oP)) (rr_set (rr_set HRc.out HPV.out _) HR0.out _) (L.getD K oP) HPV.out.wd r g k (by rw [List.length_set, List.length_set, HLc.out]; omega) V hV (fun U hU => tell_set hcN (h1.bx hU hne))
            rw [List.length_set, List.length_set, HLc.out] at this
            exact this)
          have HE1 : Hid (∀ V, PO V g L -> PO (set4 V g (r * 4) (L.getD K oP)) g (L.set r (L.getD K oP)) /\ (∃ q, Pc (set4 V g (r * 4) (L.getD K oP)) g (K * 4) q) /\ PO (set4 (set4 V g (r * 4) (L.getD K oP)) g (K * 4) (L.getD r oP)) g ((L.set r (L.getD K oP)).set K (L.getD r oP))) := hide (fun V hV => ⟨hV.set _, ⟨_, (hV.set (i := r) (L.getD K oP)).at (get_of (by rw [List.length_set, HLc.out]; exact hKr.1))⟩, (hV.set (i := r) (L.getD K oP)).set _⟩)
          have HG1 : Hid (∀ V, PO V g L -> Pc V g (K * 4) (L.getD K oP) /\ Pc V g (r * 4) (L.getD r oP)) := hide (fun V hV => ⟨hV.at hgK, hV.at hgr⟩)
          generalize mlL ((L.set r (L.getD K oP)).set K (L.getD r oP)) (L.getD K oP) r (bitB N c) = L3 at *
          generalize (L.set r (L.getD K oP)).set K (L.getD r oP) = L2 at *
          generalize L.getD K oP = pv at *
          generalize L.getD r oP = old at *
          obtain ⟨n1, x1, z1, p1⟩ := pv
          obtain ⟨n2, x2, z2, p2⟩ := old
          unfold pV at HMU
          simp only at HMU
          obtain ⟨hK1, -⟩ := hKr
          have hwg : wr.heap.size ≠ g := by omega
          have hd0 : decide ((d : Int) < 0) = false := decide_eq_false (by omega)
          clear hgK hgr HPV HR0 ha hix HRc HLc
          go_wp2_with fail
          refine (HIX.out _ _ HI1.out.2.1 (HTS.out _ HI1.out.2.2)).mono ?_
          rintro e w2 ⟨rfl, hb2⟩
          have HI2 := hide (And.intro (HI1.out.1.then hb2) (And.intro (HI1.out.2.1.below hb2) (HI1.out.2.2.below hb2)))
          clear hb2 HI1 HIX HTS
          obtain ⟨a0, a1, a2, a3⟩ := (HG1.out _ HI2.out.2.1).1
          have a4 := HI2.out.2.1.lt
          simp only at a0 a1 a2 a3
          go_wp2_with fail
          have hbp := bnew w2 (.cells #[.int .i64 n1, .int .u64 (x1 : Int), .int .u64 (z1 : Int), .int .i64 p1] 49)
          have HI3 := hide (And.intro (HI2.out.1.then hbp) (And.intro (HI2.out.2.1.below hbp) (HI2.out.2.2.below hbp)))
          have HP3 := hide (At4.new w2 (.int .i64 n1) (.int .u64 (x1 : Int)) (.int .u64 (z1 : Int)) (.int .i64 p1))
          have hpg : w2.heap.size ≠ g := by omega
          clear hbp HI2 a0 a1 a2 a3 a4
          generalize w2.alloc (.cells #[.int .i64 n1, .int .u64 (x1 : Int), .int .u64 (z1 : Int), .int .i64 p1] 49) = W3 at *
          generalize w2.heap.size = gp at *
          obtain ⟨b0, b1, b2, b3, b4⟩ := HP3.out.cells
          obtain ⟨o0, o1, o2, o3⟩ := (HG1.out _ HI3.out.2.1).2
          obtain ⟨hp1, ⟨⟨qn, qx, qz, qp⟩, ⟨q0, q1, q2, q3⟩⟩, hp2⟩ := HE1.out _ HI3.out.2.1
          have f1 := HI3.out.2.1.fz
          have l1 := HI3.out.2.1.lt
          have f2 := hp1.fz
          have l2 := hp1.lt
          obtain ⟨c0, c1, c2, c3, c4⟩ := (At4.off4 HP3.out (k := g) (o := r * 4) (p := ⟨n1, x1, z1, p1⟩) hpg).cells
          have HX : Hid (Bx g w (set4 (set4 W3 g (r * 4) ⟨n1, x1, z1, p1⟩) g (K * 4) ⟨n2, x2, z2, p2⟩) /\ PO (set4 (set4 W3 g (r * 4) ⟨n1, x1, z1, p1⟩) g (K * 4) ⟨n2, x2, z2, p2⟩) g L2 /\ At1 (set4 (set4 W3 g (r * 4) ⟨n1, x1, z1, p1⟩) g (K * 4) ⟨n2, x2, z2, p2⟩) wr.heap.size (c : Int) /\ At4 (set4 (set4 W3 g (r * 4) ⟨n1, x1, z1, p1⟩) g (K * 4) ⟨n2, x2, z2, p2⟩) gp (.int .i64 n1) (.int .u64 (x1 : Int)) (.int .u64 (z1 : Int)) (.int .i64 p1)) := hide ⟨(HI3.out.1.trans (Bx.set _ _ _ _)).trans (Bx.set _ _ _ _), hp2, (HI3.out.2.2.bx (Bx.set _ _ _ _) hwg).bx (Bx.set _ _ _ _) hwg, At4.off4 (At4.off4 HP3.out hpg) hpg⟩
          clear HI3 HP3 hp1 hp2 HG1 HE1
          unfold set4 at q0 q1 q2 q3 f2 l2 c0 c1 c2 c3 c4
          simp only at q0 q1 q2 q3 f2 l2 c0 c1 c2 c3 c4 o0 o1 o2 o3
          go_region
          change Exit.then _ _ _ _ (set4 (set4 W3 g (r * 4) ⟨n1, x1, z1, p1⟩) g (K * 4) ⟨n2, x2, z2, p2⟩).drew
          clear q0 q1 q2 q3 f2 l2 c0 c1 c2 c3 c4 o0 o1 o2 o3 b0 b1 b2 b3 b4 f1 l1
          generalize set4 (set4 W3 g (r * 4) ⟨n1, x1, z1, p1⟩) g (K * 4) ⟨n2, x2, z2, p2⟩ = W4 at *
          have HX5 : Hid (Bx g w W4.drew /\ PO W4.drew g L2 /\ At1 W4.drew wr.heap.size (c : Int) /\ At4 W4.drew gp (.int .i64 n1) (.int .u64 (x1 : Int)) (.int .u64 (z1 : Int)) (.int .i64 p1)) := hide ⟨HX.out.1.drew, HX.out.2.1, HX.out.2.2.1, HX.out.2.2.2⟩
          clear HX
          generalize W4.drew = W5 at *
          obtain ⟨b0, b1, b2, b3, b4⟩ := HX5.out.2.2.2.cells
          go_wp2_with fail
          refine (HMU.out _ _ HX5.out.2.1 HX5.out.2.2.1 hwg).mono ?_
          rintro e w6 ⟨rfl, po6, bx6⟩
          have HI6 := hide (And.intro (HX5.out.1.trans bx6) po6)
          clear po6 bx6 HX5 b0 b1 b2 b3 b4 HMU
          have e8 : IntKind.i64.wrap ((r : Int) + 1) = ((r + 1 : Nat) : Int) := by rw [wrapI]; omega
          have e9 : wrap64 ((r : Int) + 1) = ((r + 1 : Nat) : Int) := by unfold wrap64; omega
          go_wp2_with fail
          go_roundw
          case rel => exact ⟨c + 1, by rw [HQ.out, HS2.out]; rfl, by go_num, by omega, hide ⟨HI6.out.1, by rw [HQ.out, HS2.out]; exact HI6.out.2⟩⟩
          case measure => simp [Go.RowKit.intOf]; omega
        . rw [hix] at HIX
          have HS2 : Hid (S1 = (L, r)) := hide (by rw [HS1.out]; unfold redC; simp only [ha, Bool.false_eq_true, if_false])
          go_wp2_with fail
          refine (HIX.out _ _ HI1.out.2.1 (HTS.out _ HI1.out.2.2)).mono ?_
          rintro e w2 ⟨rfl, hb2⟩
          have HI2 := hide (And.intro (HI1.out.1.then hb2) (HI1.out.2.1.below hb2))
          clear hb2 HI1 HIX HTS
          go_wp2_with fail
          go_roundw
          case rel => exact ⟨c + 1, by rw [HQ.out, HS2.out], by go_num, by omega, hide ⟨HI2.out.1, by rw [HQ.out, HS2.out]; exact HI2.out.2⟩⟩
          case measure => simp [Go.RowKit.intOf]; omega
      . obtain rfl : n = r := by omega
        have hLd : L.drop n = [] := List.drop_eq_nil_of_le (by rw [HLc.out]; exact Nat.le_refl _)
        have HS2 : Hid (S1 = (L, n)) := hide (by rw [HS1.out]; unfold redC; simp [hLd])
        have HIX : Hid (∀ V ao c', Tell (Rr N) V (.func (.func 39) #[] #[.pointer (some ⟨wr.heap.size, 0, none⟩)]) (bitB N c) -> Calls Tryd.prog 41 #[.slice ao 0 c', .func (.func 39) #[] #[.pointer (some ⟨wr.heap.size, 0, none⟩)]] V fun e w' => e = .returned (.int .i64 (-1)) /\ Below V.heap.size V w') := hide (fun V ao c' hf => tIndexF (Rr N) (bitB N c) _ [] (fun p hp => by cases hp) ao c' (by simp) V (.inl rfl) hf)
        by_cases hkn : k = n
        . subst hkn
          go_wp2_with fail
          refine (HIX.out _ _ _ (HTS.out _ HI1.out.2.2)).mono ?_
          rintro e w2 ⟨rfl, hb2⟩
          have HI2 := hide (And.intro (HI1.out.1.then hb2) (HI1.out.2.1.below hb2))
          clear hb2 HI1 HIX HTS
          go_wp2_with fail
          go_roundw
          case rel => exact ⟨c + 1, by rw [HQ.out, HS2.out], by go_num, by omega, hide ⟨HI2.out.1, by rw [HQ.out, HS2.out]; exact HI2.out.2⟩⟩
          case measure => simp [Go.RowKit.intOf]; omega
        . have hnk : ¬ n = k := by omega
          go_wp2_with fail
          refine (HIX.out _ _ _ (HTS.out _ HI1.out.2.2)).mono ?_
          rintro e w2 ⟨rfl, hb2⟩
          have HI2 := hide (And.intro (HI1.out.1.then hb2) (HI1.out.2.1.below hb2))
          clear hb2 HI1 HIX HTS
          go_wp2_with fail
          go_roundw
          case rel => exact ⟨c + 1, by rw [HQ.out, HS2.out], by go_num, by omega, hide ⟨HI2.out.1, by rw [HQ.out, HS2.out]; exact HI2.out.2⟩⟩
          case measure => simp [Go.RowKit.intOf]; omega
    . obtain rfl : M = c := by omega
      go_wp2_with fail
      go_ret
      exact ⟨rfl, HI.out.2, HI.out.1⟩
theorem tReduce0 (ao : Option Addr) (k : Nat) (w : World) : Calls Tryd.prog 23 #[.slice ao 0 k, .int .i64 0] w fun e w' => e = .returned (.int .i64 0) /\ Below w.heap.size w w' := by
  go_enter Tryd.func23, Tryd.ntmps23
  go_wp2_with fail
  go_loopw [5, 12] (fun vr vi wr => ∃ c : Nat, vr = .int .i64 0 /\ vi = .int .i64 (c : Int) /\ c <= 0 /\ Below w.heap.size w wr) (fun _ _ _ => 0)
  case atStart => exact ⟨0, rfl, rfl, Nat.le_refl _, Below.refl _ _⟩
  case round =>
    obtain ⟨c, rfl, rfl, hc, hb⟩ := hrel
    have hd : decide ((c : Int) < 0) = false := decide_eq_false (by omega)
    clear hc
    go_wp2_with fail
    go_ret
    exact ⟨rfl, hb⟩
theorem ch_rr {t : TT} (h : chB t = true) : (∀ p ∈ t.s, Rr t.n.toNat p) /\ (∀ p ∈ t.d, Rr t.n.toNat p) := by
  obtain ⟨hz, hs, -⟩ := ch_iff.1 h
  obtain ⟨h0, h64, hls, hld⟩ := sz_of hz
  have key : ∀ k, k < t.n.toNat -> Rr t.n.toNat (t.s.getD k oP) /\ Rr t.n.toNat (t.d.getD k oP) := fun k hk => by
    have := hs k hk
    unfold sg2 sgB at this
    simp only [Bool.and_eq_true, decide_eq_true_eq] at this
    exact ⟨⟨this.1.2.1, by have := this.1.1; omega⟩, ⟨this.2.2.1, by have := this.2.1; omega⟩⟩
  refine ⟨fun p hp => ?_, fun p hp => ?_⟩
  . obtain ⟨i, hi⟩ := List.getElem?_of_mem hp
    have hl := (List.getElem?_eq_some_iff.1 hi).1
    have e := get_of hl
    rw [hi] at e
    cases e
    exact (key i (by omega)).1
  . obtain ⟨i, hi⟩ := List.getElem?_of_mem hp
    have hl := (List.getElem?_eq_some_iff.1 hi).1
    have e := get_of hl
    rw [hi] at e
    cases e
    exact (key i (by omega)).2
def cnL (t : TT) : List P := if chB t = true then (redS t.n.toNat t.s (2 * t.n.toNat)).1 else []
theorem cn_len {t : TT} (h : chB t = true) : (cnL t).length = t.s.length := by unfold cnL; rw [if_pos h, redS_len]
theorem POo.bx {w w' : World} {B g : Nat} {ao : Option Addr} {l : List P} (h : POo w B ao l) (hb : Bx g w w') (hne : ∀ k, ao = some ⟨k, 0, none⟩ -> k ≠ g) : POo w' B ao l := by
  rcases h with h | ⟨k, e, hB, h⟩
  . exact .inl h
  . exact .inr ⟨k, e, hB, h.bx hb (hne k e)⟩
theorem tCanon (t : TT) (a b : Option Addr) (ca cb : Nat) (w : World) (h : Th w t a b ca cb) :
    Calls Tryd.prog 17 #[tV t a b ca cb] w fun e w' => ∃ ao c, e = .returned (.tuple #[.slice ao (cnL t).length c, .int .i64 (chI t)]) /\ POo w' w.heap.size ao (cnL t) /\ (cnL t).length <= c /\ Below w.heap.size w w' := by
  have HC1 := hide (fun W (hb : Below w.heap.size w W) => tCheck t a b ca cb W (h.below hb))
  have HB0 := hide (bnew w (.cells #[.int .i64 t.n, .slice a t.s.length ca, .slice b t.d.length cb] 24))
  have HA0 := hide (At3.new w (.int .i64 t.n) (.slice a t.s.length ca) (.slice b t.d.length cb))
  cases hc : chB t with
  | false =>
    have e1 : chI t = 140 := chI_no (by rw [hc]; decide)
    have e2 : cnL t = [] := by unfold cnL; rw [if_neg (by rw [hc]; decide)]
    rw [e1] at HC1 ⊢
    rw [e2]
    unfold tV at HC1 ⊢
    simp only [List.length_nil] at *
    generalize t.s.length = ns at *
    generalize t.d.length = nd at *
    generalize t.n = n at *
    clear h hc e1 e2
    go_enter Tryd.func17, Tryd.ntmps17
    go_wp2_with (first | (go_at_call 10; refine (HC1.out _ HB0.out).mono ?_; rintro e w1 ⟨rfl, hb1⟩; have HB1 := hide (bkp HB0.out hb1)))
    go_ret2
    exact ⟨none, 0, rfl, .inl rfl, Nat.le_refl _, HB1.out⟩
  | true =>
    have e1 : chI t = 0 := by unfold chI; rw [if_pos hc]
    have hz := ch_size hc
    obtain ⟨h0, h64, hls, hld⟩ := sz_of hz
    have hrr := (ch_rr hc).1
    have HC2 := hide (fun W (hb : Below w.heap.size w W) => tClone a ca t.s (by omega) W (h.s.below hb))
    have HLE : Hid ((cnL t).length = t.s.length) := hide (cn_len hc)
    have HC3 : Hid (∀ W g c, t.s.length <= c -> PO W g t.s -> Calls Tryd.prog 23 #[.slice (some ⟨g, 0, none⟩) t.s.length c, .int .i64 t.n] W fun e w' => (∃ r, e = .returned (.int .i64 r)) /\ PO w' g (cnL t) /\ Bx g W w') := hide (fun W g c hlc hO => by
      have := tReduce t.n.toNat t.s hrr (by omega) (by omega) g c hlc W hO
      rw [show ((t.n.toNat : Nat) : Int) = t.n by omega] at this
      refine this.mono ?_
      rintro e w' ⟨rfl, h1, h2⟩
      unfold cnL
      rw [if_pos hc]
      exact ⟨⟨_, rfl⟩, h1, h2⟩)
    have HC4 : Hid (t.s = [] -> t.n = 0 /\ cnL t = []) := hide (fun e => by
      have hl := cn_len hc
      rw [e] at hl hls
      simp at hls hl
      exact ⟨by omega, hl⟩)
    rw [e1] at HC1 ⊢
    unfold tV at HC1 ⊢
    generalize cnL t = R at *
    generalize hns : t.s.length = ns at *
    generalize t.d.length = nd at *
    generalize t.n = n at *
    have HNS := hide hns
    clear h hc e1 hz hrr hld h0 hns hls h64
    go_enter Tryd.func17, Tryd.ntmps17
    go_wp2_with fail
    refine (HC1.out _ HB0.out).mono ?_
    rintro e w1 ⟨rfl, hb1⟩
    have HB1 := hide (bkp HB0.out hb1)
    have HA1 := hide (HA0.out.below hb1)
    clear hb1 HB0 HA0 HC1
    obtain ⟨x0, x1, x2, x3⟩ := HA1.out.cells
    go_wp2_with fail
    refine (HC2.out _ HB1.out).mono ?_
    rintro e w2 ⟨ao, c, rfl, hpo, hlc, hb2⟩
    have HB2 := hide (bkp HB1.out hb2)
    have HA2 := hide (HA1.out.below hb2)
    have hs2 := HB1.out.size
    have ha1 := HA1.out.lt
    clear hb2 HB1 HA1 HC2 x0 x1 x2 x3
    obtain ⟨x0, x1, x2, x3⟩ := HA2.out.cells
    rcases hpo with hnil | ⟨g, rfl, hBg, hO⟩
    . obtain ⟨hn0, hR⟩ := HC4.out hnil
      have hns0 : ns = 0 := by rw [← HNS.out, hnil]; rfl
      subst hns0
      subst hR
      subst hn0
      have c3 := fun W => tReduce0 ao c W
      clear HC3 HC4 HLE hnil HNS
      go_wp2_with fail
      refine (c3 _).mono ?_
      rintro e w3 ⟨rfl, hb3⟩
      have HB3 := hide (bkp HB2.out hb3)
      clear hb3
      go_wp2_with fail
      go_ret2
      exact ⟨ao, c, rfl, .inl rfl, Nat.zero_le _, HB3.out⟩
    . have c3 := HC3.out w2 g c hlc hO
      have HO := hide hO
      clear HC3 HC4 hO
      go_wp2_with fail
      refine c3.mono ?_
      rintro e w3 ⟨⟨rr, rfl⟩, hO3, hx3⟩
      have HB3 := hide (hx3.below HB2.out (by omega) (Nat.le_refl _))
      have HO3 := hide hO3
      clear hO3 hx3
      go_wp2_with fail
      go_ret2
      exact ⟨some ⟨g, 0, none⟩, c, by rw [HLE.out]; rfl, .inr ⟨g, rfl, by omega, HO3.out⟩, by rw [HLE.out]; exact hlc, HB3.out⟩
theorem eq_of_take {α : Type} {l m : List α} (hl : l.length = m.length) (h : l.take l.length = m.take l.length) : l = m := by
  rw [List.take_of_length_le (Nat.le_refl _), List.take_of_length_le (by omega)] at h
  exact h
theorem take_eq_succ {α : Type} {l m : List α} {i : Nat} {x : α} (h : l.take i = m.take i) (hl : l[i]? = some x) (hm : m[i]? = some x) : l.take (i + 1) = m.take (i + 1) := by
  rw [List.take_add_one, List.take_add_one, h, hl, hm]
theorem tEqual (a b : Option Addr) (ca cb : Nat) (l m : List P) (hl : l.length <= 1000000000000000) (w : World) (hA : PIn w a l) (hB : PIn w b m) : Calls Tryd.prog 38 #[.slice a l.length ca, .slice b m.length cb] w fun e w' => e = .returned (.bool (decide (l = m))) /\ Below w.heap.size w w' := by
  have hq := fun a b W => neq14 a b W
  by_cases hlm : l.length = m.length
  . have HA := hide hA
    have HB := hide hB
    obtain ⟨n, hn⟩ : ∃ n, l.length = n := ⟨_, rfl⟩
    have HL := hide hn
    have HM : Hid (m.length = n) := hide (by omega)
    obtain ⟨R, hR⟩ : ∃ R, decide (l = m) = R := ⟨_, rfl⟩
    have HR := hide hR
    rw [← hlm, hn, hR]
    rw [hn] at hl
    clear hA hB hn hlm hR
    go_enter Tryd.func38, Tryd.ntmps38
    go_wp2_with fail
    go_loopw [5, 13] (fun _ vi wr => ∃ i : Nat, vi = .int .i64 (i : Int) /\ i <= n /\ Hid (l.take i = m.take i) /\ Below w.heap.size w wr) (fun _ vi _ => n - (Go.RowKit.intOf vi).toNat)
    case atStart => exact ⟨0, rfl, Nat.zero_le _, hide rfl, Below.refl _ _⟩
    case round =>
      obtain ⟨i, rfl, hi, HS, hb⟩ := hrel
      by_cases h : i < n
      . have hd : decide ((i : Int) < (n : Int)) = true := decide_eq_true (by omega)
        obtain ⟨x, hx⟩ : ∃ x, l[i]? = some x := ⟨_, List.getElem?_eq_getElem (by rw [HL.out]; exact h)⟩
        obtain ⟨y, hy⟩ : ∃ y, m[i]? = some y := ⟨_, List.getElem?_eq_getElem (by rw [HM.out]; exact h)⟩
        obtain ⟨g, off, rfl, hg, ⟨a0, a1, a2, a3⟩⟩ := (HA.out.below hb).at hx
        obtain ⟨g2, off2, rfl, hg2, ⟨b0, b1, b2, b3⟩⟩ := (HB.out.below hb).at hy
        have hq' := fun W => hq x y W
        have HY : Hid (decide (x = y) = true -> l.take (i + 1) = m.take (i + 1)) := hide (fun e => by
          have e' : x = y := by simpa using e
          subst e'
          exact take_eq_succ HS.out hx hy)
        have HN : Hid (decide (x = y) = false -> R = false) := hide (fun e => by
          have e' : ¬ x = y := by simpa using e
          rw [← HR.out]
          refine decide_eq_false fun e => ?_
          rw [e, hy] at hx
          cases hx
          exact e' rfl)
        clear hx hy hq
        generalize decide (x = y) = xy at *
        obtain ⟨n1, x1, z1, p1⟩ := x
        obtain ⟨n2, x2, z2, p2⟩ := y
        simp only at *
        cases xy with
        | true =>
          have HY2 := hide (HY.out rfl)
          clear HY HN
          go_wp2_with fail
          go_quiet (fail)
          go_wp2_with fail
          go_roundw
          case rel => exact ⟨i + 1, by go_num, by omega, HY2, bdrew hb _⟩
          case measure => simp [Go.RowKit.intOf]; omega
        | false =>
          have hR := HN.out rfl
          subst hR
          clear HY HN
          go_wp2_with fail
          go_quiet (fail)
          go_wp2_with fail
          go_ret
          exact ⟨rfl, bdrew hb _⟩
      . obtain rfl : n = i := by omega
        have hR : R = true := by
          rw [← HR.out]
          refine decide_eq_true (eq_of_take (by rw [HL.out, HM.out]) ?_)
          rw [HL.out]
          exact HS.out
        subst hR
        clear HS
        go_wp2_with fail
        go_ret
        exact ⟨rfl, hb⟩
  . have e1 : ((l.length : Int) != (m.length : Int)) = true := by simp; omega
    have e2 : ((l.length : Int) == (m.length : Int)) = false := by simp; omega
    have hR : decide (l = m) = false := decide_eq_false fun e => hlm (by rw [e])
    rw [hR]
    generalize l.length = n at *
    generalize m.length = n2 at *
    clear hA hB
    go_enter Tryd.func38, Tryd.ntmps38
    go_wp2_with fail
    go_ret
    exact ⟨rfl, Below.refl _ _⟩
def smB (s t : TT) : Bool := decide (chI s = 0) && decide (chI t = 0) && decide (s.n = t.n) && decide (cnL s = cnL t)
theorem tSame (s t : TT) (a b a2 b2 : Option Addr) (ca cb ca2 cb2 : Nat) (w : World) (h : Th w s a b ca cb) (h2 : Th w t a2 b2 ca2 cb2) :
    Calls Tryd.prog 20 #[tV s a b ca cb, tV t a2 b2 ca2 cb2] w fun e w' => e = .returned (.bool (smB s t)) /\ Below w.heap.size w w' := by
  have HC1 := hide (fun W (hb : Below w.heap.size w W) => tCanon s a b ca cb W (h.below hb))
  have HC2 := hide (fun W (hb : Below w.heap.size w W) => tCanon t a2 b2 ca2 cb2 W (h2.below hb))
  have hlen : (cnL s).length <= 1000000000000000 := by
    unfold cnL
    split
    . rw [redS_len]; exact h.na
    . simp
  have HC3 := hide (fun W ao c bo d (p1 : PIn W ao (cnL s)) (p2 : PIn W bo (cnL t)) => tEqual ao bo c d (cnL s) (cnL t) hlen W p1 p2)
  obtain ⟨hA, hZ⟩ := two3 w (.int .i64 s.n) (.slice a s.s.length ca) (.slice b s.d.length cb) (.int .i64 t.n) (.slice a2 t.s.length ca2) (.slice b2 t.d.length cb2)
  have HA := hide hA
  have HZ := hide hZ
  have HB0 := hide (bkp (bnew w (.cells #[.int .i64 s.n, .slice a s.s.length ca, .slice b s.d.length cb] 24)) (bnew _ (.cells #[.int .i64 t.n, .slice a2 t.s.length ca2, .slice b2 t.d.length cb2] 24)))
  unfold smB
  unfold tV at HC1 HC2 ⊢
  have hc1 : (chI s = 0 /\ (chI s == 0) = true) ∨ (¬ chI s = 0 /\ (chI s == 0) = false) := by
    by_cases e : chI s = 0
    . exact .inl ⟨e, by simp [e]⟩
    . exact .inr ⟨e, beq_false_of_ne e⟩
  have hc2 : (chI t = 0 /\ (chI t == 0) = true) ∨ (¬ chI t = 0 /\ (chI t == 0) = false) := by
    by_cases e : chI t = 0
    . exact .inl ⟨e, by simp [e]⟩
    . exact .inr ⟨e, beq_false_of_ne e⟩
  generalize chI s = e1 at *
  generalize chI t = e2 at *
  generalize hd : decide (cnL s = cnL t) = dd at *
  generalize cnL s = L1 at *
  generalize cnL t = L2 at *
  generalize s.s.length = n1 at *
  generalize s.d.length = n2 at *
  generalize t.s.length = n3 at *
  generalize t.d.length = n4 at *
  generalize s.n = sn at *
  generalize t.n = tn at *
  clear hA hZ h h2 hlen hd
  go_enter Tryd.func20, Tryd.ntmps20
  go_wp2_with fail
  refine (HC1.out _ HB0.out).mono ?_
  rintro e w1 ⟨ao, c, rfl, po1, -, hb1⟩
  have HB1 := hide (bkp HB0.out hb1)
  have HA1 := hide (HA.out.below hb1)
  have HZ1 := hide (HZ.out.below hb1)
  have HP1 := hide po1.pin
  clear po1 hb1 HB0 HA HZ HC1
  obtain ⟨y0, y1, y2, y3⟩ := HZ1.out.cells
  go_wp2_with fail
  refine (HC2.out _ HB1.out).mono ?_
  rintro e w2 ⟨bo, d, rfl, po2, -, hb2⟩
  have HB2 := hide (bkp HB1.out hb2)
  have HP12 := hide (HP1.out.below hb2)
  have HP2 := hide po2.pin
  obtain ⟨x0, x1, x2, x3⟩ := (HA1.out.below hb2).cells
  clear y0 y1 y2 y3
  obtain ⟨y0, y1, y2, y3⟩ := (HZ1.out.below hb2).cells
  clear po2 hb2 HB1 HA1 HZ1 HC2 HP1
  rcases hc1 with ⟨rfl, g1⟩ | ⟨f1, g1⟩
  . rcases hc2 with ⟨rfl, g2⟩ | ⟨f2, g2⟩
    . by_cases hn : sn = tn
      . subst hn
        go_wp2_with (first | (go_at_call 38; refine (HC3.out _ _ _ _ _ HP12.out HP2.out).mono ?_; rintro e w3 ⟨rfl, hb3⟩; have HB3 := hide (bkp HB2.out hb3)))
        go_ret
        exact ⟨by simp, HB3.out⟩
      . have g3 : (sn == tn) = false := beq_false_of_ne hn
        go_wp2_with fail
        go_ret
        exact ⟨by simp, HB2.out⟩
    . go_wp2_with fail
      go_ret
      exact ⟨by simp, HB2.out⟩
  . go_wp2_with fail
    go_ret
    exact ⟨by simp [f1], HB2.out⟩
end Go.Proofs.YtpehekonjdneaaaDoor.Tbl
