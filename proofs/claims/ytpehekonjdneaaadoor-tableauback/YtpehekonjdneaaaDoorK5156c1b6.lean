import Derived.Test.YtpehekonjdneaaaDoorK0821ced4
set_option maxRecDepth 100000
set_option maxHeartbeats 2000000
namespace Go.Proofs.YtpehekonjdneaaaDoor.Tbl
open Go.RowKit Go.Shelf Go.Proofs.YtpehekonjdneaaaDoor.Pau Go.Proofs.YtpehekonjdneaaaDoor.Gt
def T0 : TT := ⟨2, [⟨2, 0, 1, 0⟩, ⟨2, 0, 2, 0⟩], [⟨2, 1, 0, 0⟩, ⟨2, 2, 0, 0⟩]⟩
def T1 : TT := ⟨2, [⟨2, 1, 0, 0⟩, ⟨2, 0, 2, 0⟩], [⟨2, 0, 1, 2⟩, ⟨2, 2, 0, 0⟩]⟩
def T2 : TT := ⟨2, [⟨2, 3, 0, 0⟩, ⟨2, 0, 3, 0⟩], [⟨2, 0, 1, 2⟩, ⟨2, 2, 0, 0⟩]⟩
def T3 : TT := ⟨2, [⟨2, 0, 1, 2⟩, ⟨2, 0, 3, 0⟩], [⟨2, 3, 0, 0⟩, ⟨2, 2, 0, 0⟩]⟩
def T4 : TT := ⟨2, [⟨2, 0, 1, 0⟩, ⟨2, 0, 3, 2⟩], [⟨2, 3, 0, 0⟩, ⟨2, 2, 0, 0⟩]⟩
theorem v_new : newT 2 = T0 := by decide +kernel
theorem v_g1 : gtR T0 9 [0] = (T1, 0) := by decide +kernel
theorem v_g2 : gtR T1 11 [0, 1] = (T2, 0) := by decide +kernel
theorem v_od : odI T2 0 = 2 /\ cqI T2 0 = 0 := by decide +kernel
theorem v_pr : prR T2 0 1 = (T3, 0) := by decide +kernel
theorem v_od2 : odI T3 1 = 1 /\ cqI T3 1 = 0 := by decide +kernel
theorem v_pr2 : prR T3 1 0 = (zrT, 142) := by decide +kernel
theorem v_cn : cnL T2 = [⟨2, 3, 0, 0⟩, ⟨2, 0, 3, 0⟩] /\ chI T2 = 0 := by decide +kernel
theorem v_cu : cuR T2 [0] = (1, 0) := by decide +kernel
theorem v_mb : mbI T2 ⟨2, 3, 3, 2⟩ = 1 /\ csI T2 ⟨2, 3, 3, 2⟩ = 0 := by decide +kernel
theorem v_g3 : gtR T2 18 [0, 1, 2] = (zrT, 61) := by decide +kernel
theorem v_st : stR T2 0 1 = (T4, 0) := by decide +kernel
theorem v_ch : chI T4 = 0 := by decide +kernel
theorem v_sm : smB T2 T2 = true := by decide +kernel
theorem To.th {w : World} {B : Nat} {t : TT} {g1 g2 n : Nat} (h : To w B t g1 g2) (ws : Wl t.s) (wd : Wl t.d) (e1 : t.s.length = n) (e2 : t.d.length = n) (hn : n <= 64) : Th w t (some ⟨g1, 0, none⟩) (some ⟨g2, 0, none⟩) n n := ⟨h.s.pin, h.d.pin, ws, wd, by omega, by omega, by omega, by omega⟩
structure Va (w V : World) (g : Nat) (t : TT) (a b : Option Addr) (ca cb : Nat) : Prop where
  bw : Below w.heap.size w V
  bx : At3 V g (.int .i64 t.n) (.slice a t.s.length ca) (.slice b t.d.length cb)
  th : Th V t a b ca cb
  hg : w.heap.size <= g
theorem Va.below {w V V' : World} {g : Nat} {t : TT} {a b : Option Addr} {ca cb : Nat} (h : Va w V g t a b ca cb) (hb : Below V.heap.size V V') : Va w V' g t a b ca cb := ⟨bkp h.bw hb, h.bx.below hb, h.th.below hb, h.hg⟩
theorem Va.new {w V : World} {t : TT} {a b : Option Addr} {ca cb : Nat} (hb : Below w.heap.size w V) (h : Th V t a b ca cb) : Va w (V.alloc (.cells #[.int .i64 t.n, .slice a t.s.length ca, .slice b t.d.length cb] 24)) V.heap.size t a b ca cb := ⟨bkp hb (bnew _ _), At3.new _ _ _ _, h.below (bnew _ _), hb.size⟩
theorem Va.row {w V : World} {g : Nat} {t t' : TT} {a b a' b' : Option Addr} {ca cb ca' cb' : Nat} (h : Va w V g t a b ca cb) (h' : Th V t' a' b' ca' cb') : Va w (V.setRow g #[.int .i64 t'.n, .slice a' t'.s.length ca', .slice b' t'.d.length cb']) g t' a' b' ca' cb' := ⟨below_setRow h.bw h.hg _, setRow_heap _ _ _ _ _ _ h.bx, h'.row h.bx _, h.hg⟩
theorem tNum (k : Int) (w : World) : Calls Tryd.prog 5 #[.int .i64 k] w fun e w' => e = .returned (.int .i64 k) /\ w' = w := by
  go_enter Tryd.func5, Tryd.ntmps5
  go_wp2_with fail
  go_ret
  exact ⟨rfl, rfl⟩
theorem ns_two (w : World) (q r : Int) : Ns (w.alloc (.cells #[.int .i64 q, .int .i64 r] 3)) (some ⟨w.heap.size, 0, none⟩) [q, r] := .inr ⟨w.heap.size, 0, rfl, fun j z hj => by
  match j, hj with
  | 0, hj =>
    simp at hj
    subst hj
    exact cell_of_row _ _ 0 _ _ _ (heap_alloc_new _ _)
  | 1, hj =>
    simp at hj
    subst hj
    exact cell_of_row _ _ 1 _ _ _ (heap_alloc_new _ _)⟩
theorem ns_three (w : World) (q r s : Int) : Ns (w.alloc (.cells #[.int .i64 q, .int .i64 r, .int .i64 s] 3)) (some ⟨w.heap.size, 0, none⟩) [q, r, s] := .inr ⟨w.heap.size, 0, rfl, fun j z hj => by
  match j, hj with
  | 0, hj =>
    simp at hj
    subst hj
    exact cell_of_row _ _ 0 _ _ _ (heap_alloc_new _ _)
  | 1, hj =>
    simp at hj
    subst hj
    exact cell_of_row _ _ 1 _ _ _ (heap_alloc_new _ _)
  | 2, hj =>
    simp at hj
    subst hj
    exact cell_of_row _ _ 2 _ _ _ (heap_alloc_new _ _)⟩
theorem aGate (t t' : TT) (k e : Int) (l : List Int) (hl : l.length <= 1000000000000000) (hv : gtR t k l = (t', e)) (a b : Option Addr) (ca cb g c : Nat) (hc : l.length <= c) (W : World) (h : Th W t a b ca cb) (hT : Tg W) (hN : Ns W (some ⟨g, 0, none⟩) l) :
    Calls Tryd.prog 4 #[tV t a b ca cb, .int .i64 k, .slice (some ⟨g, 0, none⟩) l.length c] W fun e' w' => ∃ a' b' ca' cb', e' = .returned (.tuple #[tV t' a' b' ca' cb', .int .i64 e]) /\ Th w' t' a' b' ca' cb' /\ Below W.heap.size W w' := by
  have := tGate t a b ca cb k l hl _ c hc W h hT hN
  rw [hv] at this
  exact this
theorem aProject (t t' : TT) (q v e : Int) (hv : prR t q v = (t', e)) (a b : Option Addr) (ca cb : Nat) (W : World) (h : Th W t a b ca cb) :
    Calls Tryd.prog 16 #[tV t a b ca cb, .int .i64 q, .int .i64 v] W fun e' w' => ∃ a' b' ca' cb', e' = .returned (.tuple #[tV t' a' b' ca' cb', .int .i64 e]) /\ Th w' t' a' b' ca' cb' /\ Below W.heap.size W w' := by
  have := tProject t a b ca cb q v W h
  rw [hv] at this
  exact this
theorem aSettle (t t' : TT) (q v e : Int) (hv : stR t q v = (t', e)) (a b : Option Addr) (ca cb : Nat) (W : World) (h : Th W t a b ca cb) (hT : Tg W) :
    Calls Tryd.prog 19 #[tV t a b ca cb, .int .i64 q, .int .i64 v] W fun e' w' => ∃ a' b' ca' cb', e' = .returned (.tuple #[tV t' a' b' ca' cb', .int .i64 e]) /\ Th w' t' a' b' ca' cb' /\ Below W.heap.size W w' := by
  have := tSettle t a b ca cb q v W h hT
  rw [hv] at this
  exact this
theorem aOdds (t : TT) (q o e : Int) (hv : odI t q = o /\ cqI t q = e) (a b : Option Addr) (ca cb : Nat) (W : World) (h : Th W t a b ca cb) :
    Calls Tryd.prog 15 #[tV t a b ca cb, .int .i64 q] W fun e' w' => e' = .returned (.tuple #[.int .i64 o, .int .i64 e]) /\ Below W.heap.size W w' := by
  have := tOdds t a b ca cb q W h
  rw [hv.1, hv.2] at this
  exact this
theorem pc_zero : pc 0 = 0 := by decide
theorem pc_xor (x y : Nat) : pc (x ^^^ y) % 2 = (pc x + pc y) % 2 := by
  unfold pc
  rw [← sm_add]
  refine sm_mod 2 64 fun q _ => ?_
  rw [bt_xor]
  omega
theorem dSameRows (a b : Option Addr) (ca cb : Nat) (l m : List P) (hl : l.length <= 1000000000000000) (w : World) (hA : PIn w a l) (hB : PIn w b m) : Calls Tryd.prog 24 #[.slice a l.length ca, .slice b m.length cb] w fun e w' => e = .returned (.bool (decide (l = m))) /\ Below w.heap.size w w' := by
  have hq := fun a b W => neq14 a b W
  by_cases hlm : l.length = m.length
  . have HA := hide hA
    have HB := hide hB
    obtain ⟨n, hn⟩ : ∃ n, l.length = n := ⟨_, rfl⟩
    have HL := hide hn
    have HM : Hid (m.length = n) := hide (by omega)
    obtain ⟨R, hR⟩ : ∃ R, decide (l = m) = R := ⟨_, rfl⟩
    have HR := hide hR
    rw [← hlm, hn, hR]
    rw [hn] at hl
    clear hA hB hn hlm hR
    go_enter Tryd.func24, Tryd.ntmps24
    go_wp2_with fail
    go_loopw [5] (fun vi wr => ∃ i : Nat, vi = .int .i64 (i : Int) /\ i <= n /\ Hid (l.take i = m.take i) /\ Below w.heap.size w wr) (fun vi _ => n - (Go.RowKit.intOf vi).toNat)
    case atStart => exact ⟨0, rfl, Nat.zero_le _, hide rfl, Below.refl _ _⟩
    case round =>
      obtain ⟨i, rfl, hi, HS, hb⟩ := hrel
      by_cases h : i < n
      . have hd : decide ((i : Int) < (n : Int)) = true := decide_eq_true (by omega)
        obtain ⟨x, hx⟩ : ∃ x, l[i]? = some x := ⟨_, List.getElem?_eq_getElem (by rw [HL.out]; exact h)⟩
        obtain ⟨y, hy⟩ : ∃ y, m[i]? = some y := ⟨_, List.getElem?_eq_getElem (by rw [HM.out]; exact h)⟩
        obtain ⟨g, off, rfl, hg, ⟨a0, a1, a2, a3⟩⟩ := (HA.out.below hb).at hx
        obtain ⟨g2, off2, rfl, hg2, ⟨b0, b1, b2, b3⟩⟩ := (HB.out.below hb).at hy
        have hq' := fun W => hq x y W
        have HY : Hid (decide (x = y) = true -> l.take (i + 1) = m.take (i + 1)) := hide (fun e => by
          have e' : x = y := by simpa using e
          subst e'
          exact take_eq_succ HS.out hx hy)
        have HN : Hid (decide (x = y) = false -> R = false) := hide (fun e => by
          have e' : ¬ x = y := by simpa using e
          rw [← HR.out]
          refine decide_eq_false fun e => ?_
          rw [e, hy] at hx
          cases hx
          exact e' rfl)
        clear hx hy hq
        generalize decide (x = y) = xy at *
        obtain ⟨n1, x1, z1, p1⟩ := x
        obtain ⟨n2, x2, z2, p2⟩ := y
        simp only at *
        cases xy with
        | true =>
          have HY2 := hide (HY.out rfl)
          clear HY HN
          go_wp2_with fail
          go_quiet (fail)
          go_wp2_with fail
          go_roundw
          case rel => exact ⟨i + 1, by go_num, by omega, HY2, bdrew hb _⟩
          case measure => simp [Go.RowKit.intOf]; omega
        | false =>
          have hR := HN.out rfl
          subst hR
          clear HY HN
          go_wp2_with fail
          go_quiet (fail)
          go_wp2_with fail
          go_ret
          exact ⟨rfl, bdrew hb _⟩
      . obtain rfl : n = i := by omega
        have hR : R = true := by
          rw [← HR.out]
          refine decide_eq_true (eq_of_take (by rw [HL.out, HM.out]) ?_)
          rw [HL.out]
          exact HS.out
        subst hR
        clear HS
        go_wp2_with fail
        go_ret
        exact ⟨rfl, hb⟩
  . have e1 : ((l.length : Int) != (m.length : Int)) = true := by simp; omega
    have e2 : ((l.length : Int) == (m.length : Int)) = false := by simp; omega
    have hR : decide (l = m) = false := decide_eq_false fun e => hlm (by rw [e])
    rw [hR]
    generalize l.length = n at *
    generalize m.length = n2 at *
    clear hA hB
    go_enter Tryd.func24, Tryd.ntmps24
    go_wp2_with fail
    go_ret
    exact ⟨rfl, Below.refl _ _⟩
theorem dAlike (s t : TT) (a b a2 b2 : Option Addr) (ca cb ca2 cb2 : Nat) (w : World) (h : Th w s a b ca cb) (h2 : Th w t a2 b2 ca2 cb2) :
    Calls Tryd.prog 9 #[tV s a b ca cb, tV t a2 b2 ca2 cb2] w fun e w' => e = .returned (.bool (decide (s = t))) /\ Below w.heap.size w w' := by
  have HC1 := hide (fun W (hb : Below w.heap.size w W) => dSameRows a a2 ca ca2 s.s t.s h.na W (h.s.below hb) (h2.s.below hb))
  have HC2 := hide (fun W (hb : Below w.heap.size w W) => dSameRows b b2 cb cb2 s.d t.d h.nb W (h.d.below hb) (h2.d.below hb))
  have hdec : decide (s = t) = (decide (s.n = t.n) && decide (s.s = t.s) && decide (s.d = t.d)) := by
    obtain ⟨n1, s1, d1⟩ := s
    obtain ⟨n2, s2, d2⟩ := t
    simp only [TT.mk.injEq, Bool.decide_and, Bool.and_assoc]
  rw [hdec]
  obtain ⟨hA, hZ⟩ := two3 w (.int .i64 s.n) (.slice a s.s.length ca) (.slice b s.d.length cb) (.int .i64 t.n) (.slice a2 t.s.length ca2) (.slice b2 t.d.length cb2)
  have HA := hide hA
  have HZ := hide hZ
  have HB0 := hide (bkp (bnew w (.cells #[.int .i64 s.n, .slice a s.s.length ca, .slice b s.d.length cb] 24)) (bnew _ (.cells #[.int .i64 t.n, .slice a2 t.s.length ca2, .slice b2 t.d.length cb2] 24)))
  unfold tV
  generalize decide (s.s = t.s) = r1 at *
  generalize decide (s.d = t.d) = r2 at *
  generalize s.s.length = n1 at *
  generalize s.d.length = n2 at *
  generalize t.s.length = n3 at *
  generalize t.d.length = n4 at *
  generalize s.n = sn at *
  generalize t.n = tn at *
  clear hA hZ h h2 hdec
  by_cases hn : sn = tn
  . subst hn
    cases r1 with
    | false =>
      go_enter Tryd.func9, Tryd.ntmps9
      go_wp2_with fail
      refine (HC1.out _ HB0.out).mono ?_
      rintro e w1 ⟨rfl, hb1⟩
      have HB1 := hide (bkp HB0.out hb1)
      clear hb1
      go_wp2_with fail
      go_ret
      exact ⟨by simp, HB1.out⟩
    | true =>
      go_enter Tryd.func9, Tryd.ntmps9
      go_wp2_with fail
      refine (HC1.out _ HB0.out).mono ?_
      rintro e w1 ⟨rfl, hb1⟩
      have HB1 := hide (bkp HB0.out hb1)
      obtain ⟨x0, x1, x2, x3⟩ := (HA.out.below hb1).cells
      obtain ⟨y0, y1, y2, y3⟩ := (HZ.out.below hb1).cells
      clear hb1
      go_wp2_with fail
      refine (HC2.out _ HB1.out).mono ?_
      rintro e w2 ⟨rfl, hb2⟩
      have HB2 := hide (bkp HB1.out hb2)
      clear hb2
      go_wp2_with fail
      go_ret
      exact ⟨by simp, HB2.out⟩
  . have g3 : (sn == tn) = false := beq_false_of_ne hn
    go_enter Tryd.func9, Tryd.ntmps9
    go_wp2_with fail
    go_ret
    exact ⟨by simp [hn], HB0.out⟩
end Go.Proofs.YtpehekonjdneaaaDoor.Tbl
