import Derived.Test.YtaggifpnamjghaaDoorK8b48aba9
set_option maxRecDepth 100000
set_option maxHeartbeats 4000000
namespace Go.Proofs.YtaggifpnamjghaaDoor.Tbl
open Go.RowKit Go.Shelf Go.Proofs.YtaggifpnamjghaaDoor.Pau Go.Proofs.YtaggifpnamjghaaDoor.Gt
theorem eq_of_take {α : Type} {l m : List α} (hl : l.length = m.length) (h : l.take l.length = m.take l.length) : l = m := by
  rw [List.take_of_length_le (Nat.le_refl _), List.take_of_length_le (by omega)] at h
  exact h
theorem take_eq_succ {α : Type} {l m : List α} {i : Nat} {x : α} (h : l.take i = m.take i) (hl : l[i]? = some x) (hm : m[i]? = some x) : l.take (i + 1) = m.take (i + 1) := by
  rw [List.take_add_one, List.take_add_one, h, hl, hm]
theorem tEqual (a b : Option Addr) (ca cb : Nat) (l m : List P) (hl : l.length <= 1000000000000000) (w : World) (hA : PIn w a l) (hB : PIn w b m) : Calls Tryd.prog 30 #[.slice a l.length ca, .slice b m.length cb] w fun e w' => e = .returned (.bool (decide (l = m))) /\ Below w.heap.size w w' := by
  have hq := fun a b W => neq14 a b W
  by_cases hlm : l.length = m.length
  . have HA := hide hA
    have HB := hide hB
    obtain ⟨n, hn⟩ : ∃ n, l.length = n := ⟨_, rfl⟩
    have HL := hide hn
    have HM : Hid (m.length = n) := hide (by omega)
    obtain ⟨R, hR⟩ : ∃ R, decide (l = m) = R := ⟨_, rfl⟩
    have HR := hide hR
    rw [← hlm, hn, hR]
    rw [hn] at hl
    clear hA hB hn hlm hR
    go_enter Tryd.func30, Tryd.ntmps30
    go_wp2_with fail
    go_loopw [5, 13] (fun _ vi wr => ∃ i : Nat, vi = .int .i64 (i : Int) /\ i <= n /\ Hid (l.take i = m.take i) /\ Below w.heap.size w wr) (fun _ vi _ => n - (Go.RowKit.intOf vi).toNat)
    case atStart => exact ⟨0, rfl, Nat.zero_le _, hide rfl, Below.refl _ _⟩
    case round =>
      obtain ⟨i, rfl, hi, HS, hb⟩ := hrel
      by_cases h : i < n
      . have hd : decide ((i : Int) < (n : Int)) = true := decide_eq_true (by omega)
        obtain ⟨x, hx⟩ : ∃ x, l[i]? = some x := ⟨_, List.getElem?_eq_getElem (by rw [HL.out]; exact h)⟩
        obtain ⟨y, hy⟩ : ∃ y, m[i]? = some y := ⟨_, List.getElem?_eq_getElem (by rw [HM.out]; exact h)⟩
        obtain ⟨g, off, rfl, hg, ⟨a0, a1, a2, a3⟩⟩ := (HA.out.below hb).at hx
        obtain ⟨g2, off2, rfl, hg2, ⟨b0, b1, b2, b3⟩⟩ := (HB.out.below hb).at hy
        have hq' := fun W => hq x y W
        have HY : Hid (decide (x = y) = true -> l.take (i + 1) = m.take (i + 1)) := hide (fun e => by
          have e' : x = y := by simpa using e
          subst e'
          exact take_eq_succ HS.out hx hy)
        have HN : Hid (decide (x = y) = false -> R = false) := hide (fun e => by
          have e' : ¬ x = y := by simpa using e
          rw [← HR.out]
          refine decide_eq_false fun e => ?_
          rw [e, hy] at hx
          cases hx
          exact e' rfl)
        clear hx hy hq
        generalize decide (x = y) = xy at *
        obtain ⟨n1, x1, z1, p1⟩ := x
        obtain ⟨n2, x2, z2, p2⟩ := y
        simp only at *
        cases xy with
        | true =>
          have HY2 := hide (HY.out rfl)
          clear HY HN
          go_wp2_with fail
          go_quiet (fail)
          go_wp2_with fail
          go_roundw
          case rel => exact ⟨i + 1, by go_num, by omega, HY2, bdrew hb _⟩
          case measure => simp [Go.RowKit.intOf]; omega
        | false =>
          have hR := HN.out rfl
          subst hR
          clear HY HN
          go_wp2_with fail
          go_quiet (fail)
          go_wp2_with fail
          go_ret
          exact ⟨rfl, bdrew hb _⟩
      . obtain rfl : n = i := by omega
        have hR : R = true := by
          rw [← HR.out]
          refine decide_eq_true (eq_of_take (by rw [HL.out, HM.out]) ?_)
          rw [HL.out]
          exact HS.out
        subst hR
        clear HS
        go_wp2_with fail
        go_ret
        exact ⟨rfl, hb⟩
  . have e1 : ((l.length : Int) != (m.length : Int)) = true := by simp; omega
    have e2 : ((l.length : Int) == (m.length : Int)) = false := by simp; omega
    have hR : decide (l = m) = false := decide_eq_false fun e => hlm (by rw [e])
    rw [hR]
    generalize l.length = n at *
    generalize m.length = n2 at *
    clear hA hB
    go_enter Tryd.func30, Tryd.ntmps30
    go_wp2_with fail
    go_ret
    exact ⟨rfl, Below.refl _ _⟩
def smB (s t : TT) : Bool := decide (chI s = 0) && decide (chI t = 0) && decide (s.n = t.n) && decide (cnL s = cnL t)
theorem tSame (s t : TT) (a b a2 b2 : Option Addr) (ca cb ca2 cb2 : Nat) (w : World) (h : Th w s a b ca cb) (h2 : Th w t a2 b2 ca2 cb2) :
    Calls Tryd.prog 10 #[tV s a b ca cb, tV t a2 b2 ca2 cb2] w fun e w' => e = .returned (.bool (smB s t)) /\ Below w.heap.size w w' := by
  have HC1 := hide (fun W (hb : Below w.heap.size w W) => tCanon s a b ca cb W (h.below hb))
  have HC2 := hide (fun W (hb : Below w.heap.size w W) => tCanon t a2 b2 ca2 cb2 W (h2.below hb))
  have hlen : (cnL s).length <= 1000000000000000 := by
    unfold cnL
    split
    . rw [redS_len]; exact h.na
    . simp
  have HC3 := hide (fun W ao c bo d (p1 : PIn W ao (cnL s)) (p2 : PIn W bo (cnL t)) => tEqual ao bo c d (cnL s) (cnL t) hlen W p1 p2)
  obtain ⟨hA, hZ⟩ := two3 w (.int .i64 s.n) (.slice a s.s.length ca) (.slice b s.d.length cb) (.int .i64 t.n) (.slice a2 t.s.length ca2) (.slice b2 t.d.length cb2)
  have HA := hide hA
  have HZ := hide hZ
  have HB0 := hide (bkp (bnew w (.cells #[.int .i64 s.n, .slice a s.s.length ca, .slice b s.d.length cb] 24)) (bnew _ (.cells #[.int .i64 t.n, .slice a2 t.s.length ca2, .slice b2 t.d.length cb2] 24)))
  unfold smB
  unfold tV at HC1 HC2 ⊢
  have hc1 : (chI s = 0 /\ (chI s == 0) = true) ∨ (¬ chI s = 0 /\ (chI s == 0) = false) := by
    by_cases e : chI s = 0
    . exact .inl ⟨e, by simp [e]⟩
    . exact .inr ⟨e, beq_false_of_ne e⟩
  have hc2 : (chI t = 0 /\ (chI t == 0) = true) ∨ (¬ chI t = 0 /\ (chI t == 0) = false) := by
    by_cases e : chI t = 0
    . exact .inl ⟨e, by simp [e]⟩
    . exact .inr ⟨e, beq_false_of_ne e⟩
  generalize chI s = e1 at *
  generalize chI t = e2 at *
  generalize hd : decide (cnL s = cnL t) = dd at *
  generalize cnL s = L1 at *
  generalize cnL t = L2 at *
  generalize s.s.length = n1 at *
  generalize s.d.length = n2 at *
  generalize t.s.length = n3 at *
  generalize t.d.length = n4 at *
  generalize s.n = sn at *
  generalize t.n = tn at *
  clear hA hZ h h2 hlen hd
  go_enter Tryd.func10, Tryd.ntmps10
  go_wp2_with fail
  refine (HC1.out _ HB0.out).mono ?_
  rintro e w1 ⟨ao, c, rfl, po1, -, hb1⟩
  have HB1 := hide (bkp HB0.out hb1)
  have HA1 := hide (HA.out.below hb1)
  have HZ1 := hide (HZ.out.below hb1)
  have HP1 := hide po1.pin
  clear po1 hb1 HB0 HA HZ HC1
  obtain ⟨y0, y1, y2, y3⟩ := HZ1.out.cells
  go_wp2_with fail
  refine (HC2.out _ HB1.out).mono ?_
  rintro e w2 ⟨bo, d, rfl, po2, -, hb2⟩
  have HB2 := hide (bkp HB1.out hb2)
  have HP12 := hide (HP1.out.below hb2)
  have HP2 := hide po2.pin
  obtain ⟨x0, x1, x2, x3⟩ := (HA1.out.below hb2).cells
  clear y0 y1 y2 y3
  obtain ⟨y0, y1, y2, y3⟩ := (HZ1.out.below hb2).cells
  clear po2 hb2 HB1 HA1 HZ1 HC2 HP1
  rcases hc1 with ⟨rfl, g1⟩ | ⟨f1, g1⟩
  . rcases hc2 with ⟨rfl, g2⟩ | ⟨f2, g2⟩
    . by_cases hn : sn = tn
      . subst hn
        go_wp2_with (first | (go_at_call 30; refine (HC3.out _ _ _ _ _ HP12.out HP2.out).mono ?_; rintro e w3 ⟨rfl, hb3⟩; have HB3 := hide (bkp HB2.out hb3)))
        go_ret
        exact ⟨by simp, HB3.out⟩
      . have g3 : (sn == tn) = false := beq_false_of_ne hn
        go_wp2_with fail
        go_ret
        exact ⟨by simp, HB2.out⟩
    . go_wp2_with fail
      go_ret
      exact ⟨by simp, HB2.out⟩
  . go_wp2_with fail
    go_ret
    exact ⟨by simp [f1], HB2.out⟩
def ulG (n : Int) : List Int -> Nat -> Bool
  | [], _ => true
  | q :: l, m => decide (0 <= q) && decide (q < n) && decide (bt m q.toNat = 0) && ulG n l (m ||| 2 ^ q.toNat)
def ulB (n : Int) (l : List Int) : Bool := ulG n l 0
def mkG : List Int -> Nat -> Nat
  | [], m => m
  | q :: l, m => mkG l (m ||| 2 ^ q.toNat)
theorem or_run (m q : Nat) (hm : m < 18446744073709551616) (hq : q < 64) : bits .or .u64 (m : Int) ((2 ^ q : Nat) : Int) = ((m ||| 2 ^ q : Nat) : Int) := u64_or_nat _ _ hm (pow_lt64 hq)
theorem or_lt64 {m q : Nat} (hm : m < 18446744073709551616) (hq : q < 64) : m ||| 2 ^ q < 18446744073709551616 := Nat.or_lt_two_pow (n := 64) hm (pow_lt64 hq)
theorem tUnlike (l : List Int) (hl : l.length <= 1000000000000000) (n : Nat) (hn : n <= 64) (ao : Option Addr) (c : Nat) (w : World) (hN : Ns w ao l) :
    Calls Tryd.prog 50 #[.slice ao l.length c, .int .i64 (n : Int)] w fun e w' => e = .returned (.bool (ulB (n : Int) l)) /\ Below w.heap.size w w' := by
  have HN := hide hN
  obtain ⟨k, hk⟩ : ∃ k, l.length = k := ⟨_, rfl⟩
  have HL := hide hk
  rw [hk] at hl ⊢
  unfold ulB
  have HR : Hid (ulG (n : Int) l 0 = ulG (n : Int) (l.drop 0) 0) := hide (by rw [List.drop_zero])
  have hb2 := Pau.bit_run
  have hsh := shl_one
  have hor := or_run
  generalize ulG (n : Int) l 0 = R at *
  clear hN hk
  go_enter Tryd.func50, Tryd.ntmps50
  go_wp2_with fail
  go_loopw [5, 10] (fun vm vi wr => ∃ i m : Nat, vm = .int .u64 (m : Int) /\ vi = .int .i64 (i : Int) /\ i <= k /\ m < 18446744073709551616 /\ Hid (R = ulG (n : Int) (l.drop i) m) /\ Below w.heap.size w wr) (fun _ vi _ => k - (Go.RowKit.intOf vi).toNat)
  case atStart => exact ⟨0, 0, rfl, rfl, Nat.zero_le _, by decide, HR, Below.refl _ _⟩
  case round =>
    obtain ⟨i, m, rfl, rfl, hi, hm, HS, hb⟩ := hrel
    clear HR
    by_cases h : i < k
    . have hd : decide ((i : Int) < (k : Int)) = true := decide_eq_true (by omega)
      obtain ⟨q, hq⟩ : ∃ q, l[i]? = some q := ⟨_, List.getElem?_eq_getElem (by rw [HL.out]; exact h)⟩
      have hne : l ≠ [] := fun e => by rw [e] at hq; simp at hq
      obtain ⟨g, off, rfl, hc⟩ := (HN.out.below hb).resolve_left hne
      have a0 := hc i q hq
      have a1 := World.block_lt_of_cell? _ _ a0
      have hdr : l.drop i = q :: l.drop (i + 1) := by
        have hlt := (List.getElem?_eq_some_iff.1 hq).1
        have he := (List.getElem?_eq_some_iff.1 hq).2
        rw [List.drop_eq_getElem_cons hlt, he]
      have HS2 : Hid (R = (decide (0 <= q) && decide (q < (n : Int)) && decide (bt m q.toNat = 0) && ulG (n : Int) (l.drop (i + 1)) (m ||| 2 ^ q.toNat))) := hide (by rw [HS.out, hdr, ulG])
      clear hq hne hc hdr HS
      by_cases h0 : q < 0
      . have d0 : decide (q < 0) = true := decide_eq_true h0
        have hR : R = false := by rw [HS2.out, decide_eq_false (show ¬ 0 <= q by omega)]; rfl
        subst hR
        clear HS2 hb2 hsh hor
        go_wp2_with fail
        go_ret
        exact ⟨rfl, hb⟩
      . have d0 : decide (q < 0) = false := decide_eq_false h0
        by_cases h1 : (n : Int) <= q
        . have d1 : decide ((n : Int) <= q) = true := decide_eq_true h1
          have hR : R = false := by rw [HS2.out, decide_eq_false (show ¬ q < (n : Int) by omega)]; simp
          subst hR
          clear HS2 hb2 hsh hor
          go_wp2_with fail
          go_ret
          exact ⟨rfl, hb⟩
        . have d1 : decide ((n : Int) <= q) = false := decide_eq_false h1
          obtain ⟨x, rfl⟩ : ∃ x : Nat, q = (x : Int) := ⟨q.toNat, by omega⟩
          rw [Int.toNat_natCast] at HS2
          have hx : x < 64 := by omega
          have hx64 : (x : Int) <= 64 := by omega
          have b2 := hb2 m x hm
          have s1 := hsh x hx
          have o1 := hor m x hm hx
          have HLT := hide (or_lt64 hm hx)
          have hbl := bt_lt m x
          have HS3 : Hid (R = (decide (bt m x = 0) && ulG (n : Int) (l.drop (i + 1)) (m ||| 2 ^ x))) := hide (by rw [HS2.out, decide_eq_true (show (0 : Int) <= (x : Int) by omega), decide_eq_true (show (x : Int) < (n : Int) by omega)]; simp)
          clear HS2 hb2 hsh hor
          generalize bt m x = y at *
          generalize m ||| 2 ^ x = m2 at *
          have hy : y = 0 ∨ y = 1 := by omega
          rcases hy with rfl | rfl
          . have HS4 : Hid (R = ulG (n : Int) (l.drop (i + 1)) m2) := hide (by rw [HS3.out]; simp)
            clear HS3
            go_wp2_with fail
            go_roundw
            case rel => exact ⟨i + 1, m2, by rw [show (2 : Int) ^ x = ((2 ^ x : Nat) : Int) by simp, o1], by go_num, by omega, HLT.out, HS4, hb⟩
            case measure => simp [Go.RowKit.intOf]; omega
          . have hR : R = false := by rw [HS3.out]; simp
            subst hR
            clear HS3
            go_wp2_with fail
            go_ret
            exact ⟨rfl, hb⟩
    . obtain rfl : k = i := by omega
      have hR : R = true := by
        rw [HS.out, List.drop_eq_nil_of_le (by rw [HL.out]; exact Nat.le_refl _)]
        rfl
      subst hR
      clear HS
      go_wp2_with fail
      go_ret
      exact ⟨rfl, hb⟩
end Go.Proofs.YtaggifpnamjghaaDoor.Tbl
