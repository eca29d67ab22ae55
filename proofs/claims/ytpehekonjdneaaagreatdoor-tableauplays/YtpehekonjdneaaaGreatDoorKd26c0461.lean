import Derived.Test.YtpehekonjdneaaaGreatDoorK384074b5
set_option maxRecDepth 100000
set_option maxHeartbeats 2000000
namespace Go.Proofs.YtpehekonjdneaaaGreatDoor.Tbl
open Go.RowKit Go.Shelf Go.Proofs.YtpehekonjdneaaaGreatDoor.Pau Go.Proofs.YtpehekonjdneaaaGreatDoor.Gt
def T0 : TT := ⟨2, [⟨2, 0, 1, 0⟩, ⟨2, 0, 2, 0⟩], [⟨2, 1, 0, 0⟩, ⟨2, 2, 0, 0⟩]⟩
def T1 : TT := ⟨2, [⟨2, 1, 0, 0⟩, ⟨2, 0, 2, 0⟩], [⟨2, 0, 1, 2⟩, ⟨2, 2, 0, 0⟩]⟩
def T2 : TT := ⟨2, [⟨2, 3, 0, 0⟩, ⟨2, 0, 3, 0⟩], [⟨2, 0, 1, 2⟩, ⟨2, 2, 0, 0⟩]⟩
def T3 : TT := ⟨2, [⟨2, 0, 1, 2⟩, ⟨2, 0, 3, 0⟩], [⟨2, 3, 0, 0⟩, ⟨2, 2, 0, 0⟩]⟩
def T4 : TT := ⟨2, [⟨2, 0, 1, 0⟩, ⟨2, 0, 3, 2⟩], [⟨2, 3, 0, 0⟩, ⟨2, 2, 0, 0⟩]⟩
theorem v_new : newT 2 = T0 := by decide +kernel
theorem v_g1 : gtR T0 9 [0] = (T1, 0) := by decide +kernel
theorem v_g2 : gtR T1 11 [0, 1] = (T2, 0) := by decide +kernel
theorem v_od : odI T2 0 = 2 /\ cqI T2 0 = 0 := by decide +kernel
theorem v_pr : prR T2 0 1 = (T3, 0) := by decide +kernel
theorem v_od2 : odI T3 1 = 1 /\ cqI T3 1 = 0 := by decide +kernel
theorem v_pr2 : prR T3 1 0 = (zrT, 142) := by decide +kernel
theorem v_cn : cnL T2 = [⟨2, 3, 0, 0⟩, ⟨2, 0, 3, 0⟩] /\ chI T2 = 0 := by decide +kernel
theorem v_cu : cuR T2 [0] = (1, 0) := by decide +kernel
theorem v_mb : mbI T2 ⟨2, 3, 3, 2⟩ = 1 /\ csI T2 ⟨2, 3, 3, 2⟩ = 0 := by decide +kernel
theorem v_g3 : gtR T2 18 [0, 1, 2] = (zrT, 61) := by decide +kernel
theorem v_st : stR T2 0 1 = (T4, 0) := by decide +kernel
theorem v_ch : chI T4 = 0 := by decide +kernel
theorem v_sm : smB T2 T2 = true := by decide +kernel
theorem To.th {w : World} {B : Nat} {t : TT} {g1 g2 n : Nat} (h : To w B t g1 g2) (ws : Wl t.s) (wd : Wl t.d) (e1 : t.s.length = n) (e2 : t.d.length = n) (hn : n <= 64) : Th w t (some ⟨g1, 0, none⟩) (some ⟨g2, 0, none⟩) n n := ⟨h.s.pin, h.d.pin, ws, wd, by omega, by omega, by omega, by omega⟩
structure Va (w V : World) (g : Nat) (t : TT) (a b : Option Addr) (ca cb : Nat) : Prop where
  bw : Below w.heap.size w V
  bx : At3 V g (.int .i64 t.n) (.slice a t.s.length ca) (.slice b t.d.length cb)
  th : Th V t a b ca cb
  hg : w.heap.size <= g
theorem Va.below {w V V' : World} {g : Nat} {t : TT} {a b : Option Addr} {ca cb : Nat} (h : Va w V g t a b ca cb) (hb : Below V.heap.size V V') : Va w V' g t a b ca cb := ⟨bkp h.bw hb, h.bx.below hb, h.th.below hb, h.hg⟩
theorem Va.new {w V : World} {t : TT} {a b : Option Addr} {ca cb : Nat} (hb : Below w.heap.size w V) (h : Th V t a b ca cb) : Va w (V.alloc (.cells #[.int .i64 t.n, .slice a t.s.length ca, .slice b t.d.length cb] 29)) V.heap.size t a b ca cb := ⟨bkp hb (bnew _ _), At3.new _ _ _ _, h.below (bnew _ _), hb.size⟩
theorem Va.row {w V : World} {g : Nat} {t t' : TT} {a b a' b' : Option Addr} {ca cb ca' cb' : Nat} (h : Va w V g t a b ca cb) (h' : Th V t' a' b' ca' cb') : Va w (V.setRow g #[.int .i64 t'.n, .slice a' t'.s.length ca', .slice b' t'.d.length cb']) g t' a' b' ca' cb' := ⟨below_setRow h.bw h.hg _, setRow_heap _ _ _ _ _ _ h.bx, h'.row h.bx _, h.hg⟩
theorem tNum (k : Int) (w : World) : Calls Tryz.prog 7 #[.int .i64 k] w fun e w' => e = .returned (.int .i64 k) /\ w' = w := by
  go_enter Tryz.func7, Tryz.ntmps7
  go_wp2_with fail
  go_ret
  exact ⟨rfl, rfl⟩
theorem ns_two (w : World) (q r : Int) : Ns (w.alloc (.cells #[.int .i64 q, .int .i64 r] 3)) (some ⟨w.heap.size, 0, none⟩) [q, r] := .inr ⟨w.heap.size, 0, rfl, fun j z hj => by
  match j, hj with
  | 0, hj =>
    simp at hj
    subst hj
    exact cell_of_row _ _ 0 _ _ _ (heap_alloc_new _ _)
  | 1, hj =>
    simp at hj
    subst hj
    exact cell_of_row _ _ 1 _ _ _ (heap_alloc_new _ _)⟩
theorem ns_three (w : World) (q r s : Int) : Ns (w.alloc (.cells #[.int .i64 q, .int .i64 r, .int .i64 s] 3)) (some ⟨w.heap.size, 0, none⟩) [q, r, s] := .inr ⟨w.heap.size, 0, rfl, fun j z hj => by
  match j, hj with
  | 0, hj =>
    simp at hj
    subst hj
    exact cell_of_row _ _ 0 _ _ _ (heap_alloc_new _ _)
  | 1, hj =>
    simp at hj
    subst hj
    exact cell_of_row _ _ 1 _ _ _ (heap_alloc_new _ _)
  | 2, hj =>
    simp at hj
    subst hj
    exact cell_of_row _ _ 2 _ _ _ (heap_alloc_new _ _)⟩
theorem aGate (t t' : TT) (k e : Int) (l : List Int) (hl : l.length <= 1000000000000000) (hv : gtR t k l = (t', e)) (a b : Option Addr) (ca cb g c : Nat) (hc : l.length <= c) (W : World) (h : Th W t a b ca cb) (hT : Tg W) (hN : Ns W (some ⟨g, 0, none⟩) l) :
    Calls Tryz.prog 19 #[tV t a b ca cb, .int .i64 k, .slice (some ⟨g, 0, none⟩) l.length c] W fun e' w' => ∃ a' b' ca' cb', e' = .returned (.tuple #[tV t' a' b' ca' cb', .int .i64 e]) /\ Th w' t' a' b' ca' cb' /\ Below W.heap.size W w' := by
  have := tGate t a b ca cb k l hl _ c hc W h hT hN
  rw [hv] at this
  exact this
theorem aProject (t t' : TT) (q v e : Int) (hv : prR t q v = (t', e)) (a b : Option Addr) (ca cb : Nat) (W : World) (h : Th W t a b ca cb) :
    Calls Tryz.prog 21 #[tV t a b ca cb, .int .i64 q, .int .i64 v] W fun e' w' => ∃ a' b' ca' cb', e' = .returned (.tuple #[tV t' a' b' ca' cb', .int .i64 e]) /\ Th w' t' a' b' ca' cb' /\ Below W.heap.size W w' := by
  have := tProject t a b ca cb q v W h
  rw [hv] at this
  exact this
theorem aSettle (t t' : TT) (q v e : Int) (hv : stR t q v = (t', e)) (a b : Option Addr) (ca cb : Nat) (W : World) (h : Th W t a b ca cb) (hT : Tg W) :
    Calls Tryz.prog 24 #[tV t a b ca cb, .int .i64 q, .int .i64 v] W fun e' w' => ∃ a' b' ca' cb', e' = .returned (.tuple #[tV t' a' b' ca' cb', .int .i64 e]) /\ Th w' t' a' b' ca' cb' /\ Below W.heap.size W w' := by
  have := tSettle t a b ca cb q v W h hT
  rw [hv] at this
  exact this
theorem aOdds (t : TT) (q o e : Int) (hv : odI t q = o /\ cqI t q = e) (a b : Option Addr) (ca cb : Nat) (W : World) (h : Th W t a b ca cb) :
    Calls Tryz.prog 29 #[tV t a b ca cb, .int .i64 q] W fun e' w' => e' = .returned (.tuple #[.int .i64 o, .int .i64 e]) /\ Below W.heap.size W w' := by
  have := tOdds t a b ca cb q W h
  rw [hv.1, hv.2] at this
  exact this
theorem bt_half (x q : Nat) : bt x (1 + q) = bt (x / 2) q := by
  unfold bt
  rw [Nat.pow_add, Nat.pow_one, Nat.div_div_eq_div_mul]
theorem sm_half (n x : Nat) : sm (1 + n) (bt x) = x % 2 + sm n (bt (x / 2)) := by
  rw [sm_split, sm_congr n (fun q _ => bt_half x q)]
  congr 1
  show 0 + bt x 0 = _
  unfold bt
  simp
theorem and_half (x y : Nat) : (x &&& y) % 2 = x % 2 * (y % 2) /\ (x &&& y) / 2 = x / 2 &&& y / 2 := by
  constructor
  . have h := bt_and x y 0
    unfold bt at h
    simpa using h
  . have : (x &&& y) / 2 ^ 1 = x / 2 ^ 1 &&& y / 2 ^ 1 := Nat.and_div_two_pow
    simpa using this
theorem sm_clear : ∀ n x, x < 2 ^ n -> 0 < x -> sm n (bt (x &&& (x - 1))) + 1 = sm n (bt x)
  | 0, x, h, h0 => by simp at h; omega
  | n + 1, x, h, h0 => by
    rw [Nat.add_comm n 1, sm_half, sm_half]
    obtain ⟨h1, h2⟩ := and_half x (x - 1)
    rw [h1, h2]
    have hlt : x / 2 < 2 ^ n := by rw [Nat.pow_succ] at h; omega
    by_cases e : x % 2 = 0
    . have e1 : (x - 1) / 2 = x / 2 - 1 := by omega
      rw [e, e1, Nat.zero_mul]
      have := sm_clear n (x / 2) hlt (by omega)
      omega
    . have e1 : (x - 1) / 2 = x / 2 := by omega
      have e2 : x % 2 = 1 := by omega
      have e3 : (x - 1) % 2 = 0 := by omega
      rw [e2, e3, e1, Nat.and_self]
      omega
theorem pc_clear {x : Nat} (h : x < 18446744073709551616) (h0 : 0 < x) : pc (x &&& (x - 1)) + 1 = pc x := sm_clear 64 x h h0
theorem pc_zero : pc 0 = 0 := by decide
theorem pc_xor (x y : Nat) : pc (x ^^^ y) % 2 = (pc x + pc y) % 2 := by
  unfold pc
  rw [← sm_add]
  refine sm_mod 2 64 fun q _ => ?_
  rw [bt_xor]
  omega
theorem com_par (a b : P) : comB a b = decide (pc ((a.x &&& b.z) ^^^ (a.z &&& b.x)) % 2 = 0) := by
  unfold comB
  rw [pc_xor]
theorem dCommute14 (a b : P) (ha : Wd a) (hb : Wd b) (w : World) : Calls Tryz.prog 51 #[pV a, pV b] w fun e w' => e = .returned (.bool (comB a b)) /\ Below w.heap.size w w' := by
  rw [com_par]
  have e1 := andN a.x b.z ha.1 hb.2
  have e2 := andN a.z b.x ha.2 hb.1
  have l1 := and_lt a.x b.z hb.2
  have l2 := and_lt a.z b.x hb.1
  have e3 : bits .xor .u64 ((a.x &&& b.z : Nat) : Int) ((a.z &&& b.x : Nat) : Int) = (((a.x &&& b.z) ^^^ (a.z &&& b.x) : Nat) : Int) := u64_xor_nat _ _ l1 l2
  have l3 : (a.x &&& b.z) ^^^ (a.z &&& b.x) < 18446744073709551616 := Nat.xor_lt_two_pow (n := 64) l1 l2
  have hp64 := pc_le ((a.x &&& b.z) ^^^ (a.z &&& b.x))
  generalize (a.x &&& b.z) ^^^ (a.z &&& b.x) = y at *
  generalize a.x &&& b.z = u at *
  generalize a.z &&& b.x = v at *
  obtain ⟨n, x, z, ph⟩ := a
  obtain ⟨n', x', z', ph'⟩ := b
  unfold pV
  simp only at *
  obtain ⟨HA, HA'⟩ := At4.two w (.int .i64 n) (.int .u64 (x : Int)) (.int .u64 (z : Int)) (.int .i64 ph) (.int .i64 n') (.int .u64 (x' : Int)) (.int .u64 (z' : Int)) (.int .i64 ph')
  have HB := hide (bkp (bnew w (.cells #[.int .i64 n, .int .u64 (x : Int), .int .u64 (z : Int), .int .i64 ph] 25)) (bnew _ (.cells #[.int .i64 n', .int .u64 (x' : Int), .int .u64 (z' : Int), .int .i64 ph'] 25)))
  clear ha hb HA HA' l1 l2
  obtain ⟨K, hK⟩ : ∃ K, pc y = K := ⟨_, rfl⟩
  have HK : Hid (0 + pc y = K) := hide (by omega)
  rw [hK] at hp64 ⊢
  obtain ⟨R, hR⟩ : ∃ R, decide (K % 2 = 0) = R := ⟨_, rfl⟩
  rw [hR]
  have HR := hide hR
  clear hR
  have hsub : ∀ t : Nat, 0 < t -> t < 18446744073709551616 -> IntKind.u64.wrap ((t : Int) - 1) = ((t - 1 : Nat) : Int) := fun t h0 h1 => by rw [wrapU]; omega
  have hand : ∀ t : Nat, t < 18446744073709551616 -> bits .and .u64 (t : Int) ((t - 1 : Nat) : Int) = ((t &&& (t - 1) : Nat) : Int) := fun t h => andN t (t - 1) h (by omega)
  clear hK
  go_enter Tryz.func51, Tryz.ntmps51
  go_wp2_with fail
  go_loopw [5, 6] (fun vn vx wr => ∃ i y : Nat, vn = .int .i64 (i : Int) /\ vx = .int .u64 (y : Int) /\ y < 18446744073709551616 /\ Hid (i + pc y = K) /\ Hid (Below w.heap.size w wr)) (fun _ vx _ => (Go.RowKit.intOf vx).toNat)
  case atStart => exact ⟨0, y, rfl, rfl, l3, HK, HB⟩
  case round =>
    obtain ⟨i, t, rfl, rfl, ht, HS, HW⟩ := hrel
    clear HK HB l3 e1 e2 e3
    by_cases h : 0 < t
    . have hd : decide (0 < (t : Int)) = true := decide_eq_true (by omega)
      have hd' : decide (0 < t) = true := decide_eq_true h
      have s1 := hsub t h ht
      have a1 := hand t ht
      have hpc := pc_clear ht h
      have hi : i <= 64 := by have := HS.out; omega
      have HS2 : Hid (i + 1 + pc (t &&& (t - 1)) = K) := hide (by rw [← HS.out]; omega)
      have hlt : t &&& (t - 1) <= t - 1 := Nat.and_le_right
      generalize hr : t &&& (t - 1) = r at *
      generalize hq : t - 1 = q at *
      have HQ := hide hq
      clear hr hq hsub hand hpc HS
      have e9 : wrap64 ((i : Int) + 1) = ((i + 1 : Nat) : Int) := by unfold wrap64; omega
      go_wp2_with fail
      go_roundw
      case rel => exact ⟨i + 1, r, by go_num, rfl, by have := HQ.out; omega, HS2, HW⟩
      case measure => have := HQ.out; simp [Go.RowKit.intOf]; omega
    . obtain rfl : t = 0 := by omega
      have hKi : K = i := by have := HS.out; rw [pc_zero] at this; omega
      subst hKi
      have m1 : Int.tmod (K : Int) 2 = ((K % 2 : Nat) : Int) := by rw [Int.tmod_eq_emod_of_nonneg (by omega)]; omega
      have hd : decide (K % 2 = 0) = (((K % 2 : Nat) : Int) == 0) := by
        rcases Nat.mod_two_eq_zero_or_one K with h | h <;> rw [h] <;> rfl
      have hR' : R = (((K % 2 : Nat) : Int) == 0) := by rw [← HR.out]; exact hd
      subst hR'
      clear hsub hand HS hd HR
      go_wp2_with fail
      go_ret
      exact ⟨rfl, HW.out⟩
theorem dSameRows (a b : Option Addr) (ca cb : Nat) (l m : List P) (hl : l.length <= 1000000000000000) (w : World) (hA : PIn w a l) (hB : PIn w b m) : Calls Tryz.prog 28 #[.slice a l.length ca, .slice b m.length cb] w fun e w' => e = .returned (.bool (decide (l = m))) /\ Below w.heap.size w w' := by
  have hq := fun a b W => neq14 a b W
  by_cases hlm : l.length = m.length
  . have HA := hide hA
    have HB := hide hB
    obtain ⟨n, hn⟩ : ∃ n, l.length = n := ⟨_, rfl⟩
    have HL := hide hn
    have HM : Hid (m.length = n) := hide (by omega)
    obtain ⟨R, hR⟩ : ∃ R, decide (l = m) = R := ⟨_, rfl⟩
    have HR := hide hR
    rw [← hlm, hn, hR]
    rw [hn] at hl
    clear hA hB hn hlm hR
    go_enter Tryz.func28, Tryz.ntmps28
    go_wp2_with fail
    go_loopw [5] (fun vi wr => ∃ i : Nat, vi = .int .i64 (i : Int) /\ i <= n /\ Hid (l.take i = m.take i) /\ Below w.heap.size w wr) (fun vi _ => n - (Go.RowKit.intOf vi).toNat)
    case atStart => exact ⟨0, rfl, Nat.zero_le _, hide rfl, Below.refl _ _⟩
    case round =>
      obtain ⟨i, rfl, hi, HS, hb⟩ := hrel
      by_cases h : i < n
      . have hd : decide ((i : Int) < (n : Int)) = true := decide_eq_true (by omega)
        obtain ⟨x, hx⟩ : ∃ x, l[i]? = some x := ⟨_, List.getElem?_eq_getElem (by rw [HL.out]; exact h)⟩
        obtain ⟨y, hy⟩ : ∃ y, m[i]? = some y := ⟨_, List.getElem?_eq_getElem (by rw [HM.out]; exact h)⟩
        obtain ⟨g, off, rfl, hg, ⟨a0, a1, a2, a3⟩⟩ := (HA.out.below hb).at hx
        obtain ⟨g2, off2, rfl, hg2, ⟨b0, b1, b2, b3⟩⟩ := (HB.out.below hb).at hy
        have hq' := fun W => hq x y W
        have HY : Hid (decide (x = y) = true -> l.take (i + 1) = m.take (i + 1)) := hide (fun e => by
          have e' : x = y := by simpa using e
          subst e'
          exact take_eq_succ HS.out hx hy)
        have HN : Hid (decide (x = y) = false -> R = false) := hide (fun e => by
          have e' : ¬ x = y := by simpa using e
          rw [← HR.out]
          refine decide_eq_false fun e => ?_
          rw [e, hy] at hx
          cases hx
          exact e' rfl)
        clear hx hy hq
        generalize decide (x = y) = xy at *
        obtain ⟨n1, x1, z1, p1⟩ := x
        obtain ⟨n2, x2, z2, p2⟩ := y
        simp only at *
        cases xy with
        | true =>
          have HY2 := hide (HY.out rfl)
          clear HY HN
          go_wp2_with fail
          go_quiet (fail)
          go_wp2_with fail
          go_roundw
          case rel => exact ⟨i + 1, by go_num, by omega, HY2, bdrew hb _⟩
          case measure => simp [Go.RowKit.intOf]; omega
        | false =>
          have hR := HN.out rfl
          subst hR
          clear HY HN
          go_wp2_with fail
          go_quiet (fail)
          go_wp2_with fail
          go_ret
          exact ⟨rfl, bdrew hb _⟩
      . obtain rfl : n = i := by omega
        have hR : R = true := by
          rw [← HR.out]
          refine decide_eq_true (eq_of_take (by rw [HL.out, HM.out]) ?_)
          rw [HL.out]
          exact HS.out
        subst hR
        clear HS
        go_wp2_with fail
        go_ret
        exact ⟨rfl, hb⟩
  . have e1 : ((l.length : Int) != (m.length : Int)) = true := by simp; omega
    have e2 : ((l.length : Int) == (m.length : Int)) = false := by simp; omega
    have hR : decide (l = m) = false := decide_eq_false fun e => hlm (by rw [e])
    rw [hR]
    generalize l.length = n at *
    generalize m.length = n2 at *
    clear hA hB
    go_enter Tryz.func28, Tryz.ntmps28
    go_wp2_with fail
    go_ret
    exact ⟨rfl, Below.refl _ _⟩
theorem dAlike (s t : TT) (a b a2 b2 : Option Addr) (ca cb ca2 cb2 : Nat) (w : World) (h : Th w s a b ca cb) (h2 : Th w t a2 b2 ca2 cb2) :
    Calls Tryz.prog 10 #[tV s a b ca cb, tV t a2 b2 ca2 cb2] w fun e w' => e = .returned (.bool (decide (s = t))) /\ Below w.heap.size w w' := by
  have HC1 := hide (fun W (hb : Below w.heap.size w W) => dSameRows a a2 ca ca2 s.s t.s h.na W (h.s.below hb) (h2.s.below hb))
  have HC2 := hide (fun W (hb : Below w.heap.size w W) => dSameRows b b2 cb cb2 s.d t.d h.nb W (h.d.below hb) (h2.d.below hb))
  have hdec : decide (s = t) = (decide (s.n = t.n) && decide (s.s = t.s) && decide (s.d = t.d)) := by
    obtain ⟨n1, s1, d1⟩ := s
    obtain ⟨n2, s2, d2⟩ := t
    simp only [TT.mk.injEq, Bool.decide_and, Bool.and_assoc]
  rw [hdec]
  obtain ⟨hA, hZ⟩ := two3 w (.int .i64 s.n) (.slice a s.s.length ca) (.slice b s.d.length cb) (.int .i64 t.n) (.slice a2 t.s.length ca2) (.slice b2 t.d.length cb2)
  have HA := hide hA
  have HZ := hide hZ
  have HB0 := hide (bkp (bnew w (.cells #[.int .i64 s.n, .slice a s.s.length ca, .slice b s.d.length cb] 29)) (bnew _ (.cells #[.int .i64 t.n, .slice a2 t.s.length ca2, .slice b2 t.d.length cb2] 29)))
  unfold tV
  generalize decide (s.s = t.s) = r1 at *
  generalize decide (s.d = t.d) = r2 at *
  generalize s.s.length = n1 at *
  generalize s.d.length = n2 at *
  generalize t.s.length = n3 at *
  generalize t.d.length = n4 at *
  generalize s.n = sn at *
  generalize t.n = tn at *
  clear hA hZ h h2 hdec
  by_cases hn : sn = tn
  . subst hn
    cases r1 with
    | false =>
      go_enter Tryz.func10, Tryz.ntmps10
      go_wp2_with fail
      refine (HC1.out _ HB0.out).mono ?_
      rintro e w1 ⟨rfl, hb1⟩
      have HB1 := hide (bkp HB0.out hb1)
      clear hb1
      go_wp2_with fail
      go_ret
      exact ⟨by simp, HB1.out⟩
    | true =>
      go_enter Tryz.func10, Tryz.ntmps10
      go_wp2_with fail
      refine (HC1.out _ HB0.out).mono ?_
      rintro e w1 ⟨rfl, hb1⟩
      have HB1 := hide (bkp HB0.out hb1)
      obtain ⟨x0, x1, x2, x3⟩ := (HA.out.below hb1).cells
      obtain ⟨y0, y1, y2, y3⟩ := (HZ.out.below hb1).cells
      clear hb1
      go_wp2_with fail
      refine (HC2.out _ HB1.out).mono ?_
      rintro e w2 ⟨rfl, hb2⟩
      have HB2 := hide (bkp HB1.out hb2)
      clear hb2
      go_wp2_with fail
      go_ret
      exact ⟨by simp, HB2.out⟩
  . have g3 : (sn == tn) = false := beq_false_of_ne hn
    go_enter Tryz.func10, Tryz.ntmps10
    go_wp2_with fail
    go_ret
    exact ⟨by simp [hn], HB0.out⟩
end Go.Proofs.YtpehekonjdneaaaGreatDoor.Tbl
