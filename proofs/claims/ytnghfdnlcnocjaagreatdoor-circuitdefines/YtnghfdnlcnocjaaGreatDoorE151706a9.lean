import Derived.Test.YtnghfdnlcnocjaaGreatDoorE46e11d70
import Derived.Test.YtnghfdnlcnocjaaGreatDoorE5d5b85e9
import Derived.Test.YtnghfdnlcnocjaaGreatDoorE43ebbb83
set_option maxRecDepth 100000
set_option maxHeartbeats 1000000
namespace Go.Proofs.YtnghfdnlcnocjaaGreatDoor.Cir
open Go.RowKit Go.Shelf Go.Proofs.YtnghfdnlcnocjaaGreatDoor.Oct Go.Proofs.YtnghfdnlcnocjaaGreatDoor.Tok Go.Proofs.YtnghfdnlcnocjaaGreatDoor.Gt
theorem bkp {w V U : World} (h1 : Below w.heap.size w V) (h2 : Below V.heap.size V U) : Below w.heap.size w U := h1.trans (h2.mono h1.size)
def AlOk : Prop := ∀ (w : World), Tq w -> Calls Tryz.prog 6 #[] w fun e w' => e = .returned (.bool true) /\ Below w.heap.size w w'
theorem cPar (l : List UInt8) (hl : l.length <= 1099511627776) (w : World) (hT : Tq w) : Calls Tryz.prog 9 #[str l] w (PPa l w) :=
  cParse l hl w hT.tx.tw hT.tb hT.te (fun _ h => scan_code h) (fun _ h => ⟨scan_fine h hl, fun _ _ _ => rsOk, fun _ _ _ => brOk⟩)
theorem cParC {l : List UInt8} {c : Circ} (hl : l.length <= 1099511627776) (hP : parP l = .ok c) (w : World) (hT : Tq w) : Calls Tryz.prog 9 #[str l] w fun e w' => ∃ ao k, e = .returned (.tuple #[.agg #[.int .i64 c.q, .int .i64 c.b, .slice ao c.ops.length k], .agg #[.int .i64 0, .int .i64 0, .int .i64 0, .int .i64 0]]) /\ Ci w' c ao k /\ Below w.heap.size w w' := by
  refine (cPar l hl w hT).mono ?_
  intro e w' h
  unfold PPa at h
  rw [hP] at h
  obtain ⟨hb, ao, k, rfl, ho⟩ := h
  have hi := par_iv hl hP
  exact ⟨ao, k, rfl, ⟨ho.rd.1, ho.rd.2, by omega, hi.2⟩, hb⟩
theorem back_80 (c : Circ) (h : (chkC c).2 ≠ 0) : (chkC c).2 = 80 := by
  unfold chkC at h ⊢
  split
  . rfl
  . rename_i hn
    rw [if_neg hn] at h
    split
    . rfl
    . rename_i hb
      rw [hb] at h
      exact absurd rfl h
theorem prP_len {c : Circ} (hk : (chkC c).2 = 0) : (prP c).length <= 10000002 := by
  obtain ⟨q0, q1, b0, b1, hl, hmay⟩ := chkC_ok hk
  have hhd := hd_len c.q c.b (by unfold In64; omega) (by unfold In64; omega)
  have := join_le [59, 10] 2000 (lnP c) (fun x hx => by
    unfold lnP at hx
    rcases List.mem_append.1 hx with hx | hx
    . exact hhd.2 x hx
    . obtain ⟨o, ho, rfl⟩ := List.mem_map.1 hx
      have hm := may_in q0 q1 b1 (hmay o ho)
      exact wr_len o hm.1 hm.2.1 hm.2.2.1 hm.2.2.2.1 hm.2.2.2.2)
  have h2 : (lnP c).length <= 4100 := by unfold lnP; rw [List.length_append, List.length_map]; have := hhd.1; omega
  simp only [List.length_cons, List.length_nil] at this
  unfold prP
  rw [List.length_append]
  simp only [List.length_cons, List.length_nil]
  omega
theorem bNum (z : Int) (w : World) : Calls Tryz.prog 5 #[.int .i64 z] w fun e w' => e = .returned (.int .i64 z) /\ w' = w := by
  go_enter Tryz.func5, Tryz.ntmps5
  go_wp2_with fail
  go_ret
  exact ⟨rfl, rfl⟩
theorem dg_lt : ∀ j : Fin 10, (⟨#[48, 49, 50, 51, 52, 53, 54, 55, 56, 57]⟩ : ByteArray).extract j.1 (j.1 + 1) = ⟨(Lib.itoa ((j.1 : Nat) : Int)).toArray⟩ := by decide +kernel
theorem dg_two : ∀ j : Fin 100, 10 <= j.1 -> (⟨(Lib.itoa ((j.1 / 10 : Nat) : Int)).toArray⟩ : ByteArray) ++ ⟨(Lib.itoa ((j.1 % 10 : Nat) : Int)).toArray⟩ = ⟨(Lib.itoa ((j.1 : Nat) : Int)).toArray⟩ := by decide +kernel
theorem dg_size : ∀ j : Fin 100, (⟨(Lib.itoa ((j.1 : Nat) : Int)).toArray⟩ : ByteArray).size <= 2 := by decide +kernel
theorem bDigits1 (n : Nat) (h : n < 10) (w : World) : Calls Tryz.prog 8 #[.int .i64 (n : Int)] w fun e w' => e = .returned (.string ⟨(Lib.itoa (n : Int)).toArray⟩) /\ w' = w := by
  have e1 := dg_lt ⟨n, h⟩
  simp only at e1
  generalize (⟨(Lib.itoa (n : Int)).toArray⟩ : ByteArray) = R at *
  have E1 := hide e1
  clear e1
  have hd : decide ((n : Int) < 10) = true := decide_eq_true (by omega)
  go_enter Tryz.func8, Tryz.ntmps8
  go_wp2_with fail
  go_ret
  refine ⟨?_, rfl⟩
  rw [← E1.out]
  rfl
theorem bDigits (n : Nat) (h : n < 100) (w : World) : Calls Tryz.prog 8 #[.int .i64 (n : Int)] w fun e w' => e = .returned (.string ⟨(Lib.itoa (n : Int)).toArray⟩) /\ w' = w := by
  by_cases h1 : n < 10
  . exact bDigits1 n h1 w
  . have c1 := fun V => bDigits1 (n / 10) (by omega) V
    have c2 := fun V => bDigits1 (n % 10) (by omega) V
    have e1 := dg_two ⟨n, h⟩ (by show 10 <= n; omega)
    have z1 := dg_size ⟨n / 10, by omega⟩
    have z2 := dg_size ⟨n % 10, by omega⟩
    simp only at e1 z1 z2
    have q1 : Int.tdiv (n : Int) 10 = ((n / 10 : Nat) : Int) := by rw [Int.tdiv_eq_ediv_of_nonneg (by omega)]; omega
    have q2 : Int.tmod (n : Int) 10 = ((n % 10 : Nat) : Int) := by rw [Int.tmod_eq_emod_of_nonneg (by omega)]; omega
    have b1 : n / 10 < 10 := by omega
    have b2 : n % 10 < 10 := by omega
    generalize n / 10 = a at *
    generalize n % 10 = b at *
    generalize (⟨(Lib.itoa (n : Int)).toArray⟩ : ByteArray) = R at *
    generalize (⟨(Lib.itoa (a : Int)).toArray⟩ : ByteArray) = A at *
    generalize (⟨(Lib.itoa (b : Int)).toArray⟩ : ByteArray) = B at *
    have hd : decide ((n : Int) < 10) = false := decide_eq_false (by omega)
    go_enter Tryz.func8, Tryz.ntmps8
    go_wp2_with fail
    refine (c1 _).mono ?_
    rintro e w1 ⟨rfl, rfl⟩
    go_wp2_with fail
    refine (c2 _).mono ?_
    rintro e w1 ⟨rfl, rfl⟩
    go_wp2_with fail
    go_ret
    exact ⟨rfl, rfl⟩
theorem nmd_A {l : List UInt8} {k : Nat} {t : List UInt8} (h : nmdP l = t ++ nmdP (l.drop k)) (h1 : l[k]? = some 113) (h2 : l[k + 1]? = some 91) : nmdP l = (t ++ [110]) ++ nmdP (l.drop (k + 2)) := by
  obtain ⟨k1, e1⟩ := List.getElem?_eq_some_iff.1 h1
  obtain ⟨k2, e2⟩ := List.getElem?_eq_some_iff.1 h2
  rw [h, List.drop_eq_getElem_cons k1, List.drop_eq_getElem_cons k2, e1, e2, nmdP, if_pos ⟨rfl, rfl⟩]
  simp
theorem nmd_B {l : List UInt8} {k : Nat} {t : List UInt8} (h : nmdP l = t ++ nmdP (l.drop k)) (h1 : l[k]? = some 93) : nmdP l = t ++ nmdP (l.drop (k + 1)) := by
  obtain ⟨k1, e1⟩ := List.getElem?_eq_some_iff.1 h1
  rw [h, List.drop_eq_getElem_cons k1, e1]
  cases hd : l.drop (k + 1) with
  | nil => rfl
  | cons e r => rw [nmdP, if_neg (fun h => absurd h.1 (by decide)), if_pos rfl]
theorem nmd_C {l : List UInt8} {k : Nat} {t : List UInt8} {b : UInt8} (h : nmdP l = t ++ nmdP (l.drop k)) (h1 : l[k]? = some b) (hb : b ≠ 93) (h2 : b = 113 -> ∀ c, l[k + 1]? = some c -> c ≠ 91) : nmdP l = (t ++ [b]) ++ nmdP (l.drop (k + 1)) := by
  obtain ⟨k1, e1⟩ := List.getElem?_eq_some_iff.1 h1
  rw [h, List.drop_eq_getElem_cons k1, e1]
  cases hd : l.drop (k + 1) with
  | nil => simp [nmdP, hb]
  | cons e r =>
    have he : l[k + 1]? = some e := by
      have : (l.drop (k + 1))[0]? = some e := by rw [hd]; rfl
      rw [List.getElem?_drop] at this
      exact this
    rw [nmdP, if_neg (fun hh => h2 hh.1 e he hh.2), if_neg hb]
    simp
theorem bNamed (l : List UInt8) (hl : l.length <= 1000000000) (w : World) : Calls Tryz.prog 10 #[str l] w fun e w' => e = .returned (str (nmdP l)) /\ w' = w := by
  have hsz := size_str l
  have Hat : Hid (∀ i (h : i < l.length), (⟨l.toArray⟩ : ByteArray)[i]'(by rw [hsz]; exact h) = l[i]) := hide (fun i h => rfl)
  have Hex : Hid (∀ i (h : i < l.length), (⟨l.toArray⟩ : ByteArray).extract i (i + 1) = ⟨[l[i]].toArray⟩) := hide (fun i h => by
    rw [ext_list]
    congr 2
    rw [List.drop_take, show i + 1 - i = 1 by omega, List.drop_eq_getElem_cons h]
    rfl)
  unfold str
  generalize (⟨l.toArray⟩ : ByteArray) = s at *
  go_enter Tryz.func10, Tryz.ntmps10
  go_wp2_with fail
  go_loopw [3, 4] (fun vt vi wr => wr = w /\ ∃ (k : Nat) (t : List UInt8), k <= l.length /\ vt = .string ⟨t.toArray⟩ /\ vi = .int .i64 (k : Int) /\ t.length <= k /\ nmdP l = t ++ nmdP (l.drop k)) (fun _ vi _ => l.length - (intOf vi).toNat)
  case atStart => exact ⟨rfl, 0, [], Nat.zero_le _, rfl, rfl, Nat.le_refl _, by simp⟩
  case round =>
    obtain ⟨rfl, k, t, hk, rfl, rfl, ht, hinv⟩ := hrel
    have hts := size_str t
    by_cases hlt : k < l.length
    . have hlt' : (k : Int) < (s.size : Int) := by omega
      have hsk := Hat.out k hlt
      have hek := Hex.out k hlt
      have hgk : l[k]? = some l[k] := List.getElem?_eq_getElem hlt
      by_cases hA : l[k] = 113 /\ ∃ h : k + 1 < l.length, l[k + 1] = 91
      . obtain ⟨h1, h2, h3⟩ := hA
        have hs2 := Hat.out (k + 1) h2
        have Hn := hide (nmd_A hinv (by rw [hgk, h1]) (by rw [List.getElem?_eq_getElem h2, h3]))
        have hlt2 : (k : Int) + 1 < (s.size : Int) := by omega
        have hd2 : decide ((k : Int) + 1 < (s.size : Int)) = true := decide_eq_true hlt2
        have E1 : (⟨t.toArray⟩ : ByteArray) ++ ⟨#[110]⟩ = ⟨(t ++ [110]).toArray⟩ := cat_str t [110]
        rw [h1] at hsk
        rw [h3] at hs2
        clear hinv h1 h3 hek hgk
        generalize hT1 : (⟨t.toArray⟩ : ByteArray) = T1 at *
        go_wp2_with fail
        refine ⟨⟨trivial, k + 2, t ++ [110], by omega, ?_, by go_num, by simp; omega, Hn.out⟩, by simp [intOf]; omega⟩
        rfl
      . by_cases hB : l[k] = 93
        . have Hn := hide (nmd_B hinv (by rw [hgk, hB]))
          rw [hB] at hsk
          clear hinv hek hgk hA hB
          go_wp2_with fail
          exact ⟨⟨trivial, k + 1, t, by omega, rfl, by go_num, by omega, Hn.out⟩, by simp [intOf]; omega⟩
        . have Hn := hide (nmd_C hinv hgk hB (fun h1 c hc h2 => hA ⟨h1, by
            obtain ⟨h3, h4⟩ := List.getElem?_eq_some_iff.1 hc
            exact ⟨h3, by rw [h4, h2]⟩⟩))
          have E1 : (⟨t.toArray⟩ : ByteArray) ++ ⟨[l[k]].toArray⟩ = ⟨(t ++ [l[k]]).toArray⟩ := cat_str t [l[k]]
          have hz1 : (⟨[l[k]].toArray⟩ : ByteArray).size = 1 := rfl
          have hbn : ((l[k].toNat : Int) == 93) = false := by
            refine beq_eq_false_iff_ne.2 (fun h => hB ?_)
            have : l[k].toNat = 93 := by omega
            exact UInt8.toNat_inj.1 this
          by_cases h1 : l[k] = 113
          . by_cases h2 : k + 1 < l.length
            . have h3 : l[k + 1] ≠ 91 := fun h => hA ⟨h1, h2, h⟩
              have hs2 := Hat.out (k + 1) h2
              have hbn2 : ((l[k + 1].toNat : Int) == 91) = false := by
                refine beq_eq_false_iff_ne.2 (fun h => h3 ?_)
                have : l[k + 1].toNat = 91 := by omega
                exact UInt8.toNat_inj.1 this
              have hlt2 : (k : Int) + 1 < (s.size : Int) := by omega
              have hd2 : decide ((k : Int) + 1 < (s.size : Int)) = true := decide_eq_true hlt2
              have hbe : ((l[k].toNat : Int) == 113) = true := by rw [h1]; rfl
              clear hinv hgk hA hB h1 h3
              generalize l[k + 1] = c at *
              generalize l[k] = b at *
              generalize (⟨[b].toArray⟩ : ByteArray) = B1 at *
              go_wp2_with fail
              refine ⟨⟨trivial, k + 1, t ++ [b], by omega, ?_, by go_num, by simp; omega, Hn.out⟩, by simp [intOf]; omega⟩
              rfl
            . have hlt2 : ¬ (k : Int) + 1 < (s.size : Int) := by omega
              have hd2 : decide ((k : Int) + 1 < (s.size : Int)) = false := decide_eq_false hlt2
              have hbe : ((l[k].toNat : Int) == 113) = true := by rw [h1]; rfl
              clear hinv hgk hA hB h1
              generalize l[k] = b at *
              generalize (⟨[b].toArray⟩ : ByteArray) = B1 at *
              go_wp2_with fail
              refine ⟨⟨trivial, k + 1, t ++ [b], by omega, ?_, by go_num, by simp; omega, Hn.out⟩, by simp [intOf]; omega⟩
              rfl
          . have hbe : ((l[k].toNat : Int) == 113) = false := by
              refine beq_eq_false_iff_ne.2 (fun h => h1 ?_)
              have : l[k].toNat = 113 := by omega
              exact UInt8.toNat_inj.1 this
            clear hinv hgk hA hB h1
            generalize l[k] = b at *
            generalize (⟨[b].toArray⟩ : ByteArray) = B1 at *
            go_wp2_with fail
            refine ⟨⟨trivial, k + 1, t ++ [b], by omega, ?_, by go_num, by simp; omega, Hn.out⟩, by simp [intOf]; omega⟩
            rfl
    . have hlt' : ¬ (k : Int) < (s.size : Int) := by omega
      have Hn : Hid (nmdP l = t) := hide (by rw [hinv, List.drop_of_length_le (by omega)]; simp [nmdP])
      clear hinv
      go_wp2_with fail
      go_ret
      rw [Hn.out]
      exact ⟨rfl, rfl⟩
theorem cnt_step (L : List UInt8) (i : Nat) (h : i < L.length) : (L.take (i + 1)).count 10 = (L.take i).count 10 + (if L[i] = 10 then 1 else 0) := by
  rw [List.take_succ_eq_append_getElem h, List.count_append]
  by_cases e : L[i] = 10
  . simp [e]
  . simp [e]
theorem bRow (c : Circ) (ao : Option Addr) (k : Nat) (hk : (chkC c).2 = 0) (fm : Nat) (H B : List UInt8) (hH : prP c = H ++ B) (hc : H.count 10 = fm) (hlt : ∀ i, i < H.length -> (H.take i).count 10 < fm) (w : World) (hT : Tb w) (h10 : T10 w) (hC : Ci w c ao k) :
    Calls Tryz.prog 7 #[cV c ao k, .int .i64 (fm : Int)] w fun e w' => e = .returned (.tuple #[str B, .bool true]) /\ Below w.heap.size w w' := by
  have c2 := fun V (h : Below w.heap.size w V) => cPrint c ao k hk V (hT.below h) (h10.below h) (hC.below h)
  have hlen := prP_len hk
  rw [hH] at c2 hlen
  have hsz := size_str (H ++ B)
  have Hat : Hid (∀ i (h : i < (H ++ B).length), (⟨(H ++ B).toArray⟩ : ByteArray)[i]'(by rw [hsz]; exact h) = (H ++ B)[i]) := hide (fun i h => rfl)
  have hex : (⟨(H ++ B).toArray⟩ : ByteArray).extract H.length (H ++ B).length = ⟨B.toArray⟩ := by
    rw [ext_drop]
    simp
  have HB0 := hide (bnew w (.cells #[.int .i64 c.q, .int .i64 c.b, .slice ao c.ops.length k] 24))
  have Hlt := hide hlt
  have Hc := hide hc
  clear hlt hc hH hC hk
  rw [List.length_append] at hsz hex hlen
  unfold cV str at *
  generalize (⟨(H ++ B).toArray⟩ : ByteArray) = s at *
  generalize (⟨B.toArray⟩ : ByteArray) = rb at *
  generalize hHl : H.length = m at *
  generalize hBl : B.length = r at *
  obtain ⟨q, b, ops⟩ := c
  simp only at *
  generalize ops.length = n at *
  go_enter Tryz.func7, Tryz.ntmps7
  go_wp2_with fail
  refine (c2 _ HB0.out).mono ?_
  rintro e w1 ⟨rfl, hb1⟩
  have HW := hide (bkp HB0.out hb1)
  clear hb1
  go_wp2_with (first
    | (go_at_call 5; (with_reducible refine Calls.mono (bNum _ _) ?_); rintro e v ⟨rfl, hv⟩; obtain rfl := hv.symm))
  go_loopw [8, 9] (fun vn vi wr => wr = w1 /\ ∃ i j : Nat, i <= m /\ j <= i /\ Hid (j = (H.take i).count 10) /\ vn = .int .i64 (j : Int) /\ vi = .int .i64 (i : Int)) (fun _ vi _ => m + r - (intOf vi).toNat)
  case atStart => exact ⟨rfl, 0, 0, Nat.zero_le _, Nat.le_refl _, hide (by simp), rfl, rfl⟩
  case round =>
    obtain ⟨rfl, i, j, hi, hji, Hj, rfl, rfl⟩ := hrel
    by_cases h : i < m + r
    . have hd : decide ((i : Int) < (s.size : Int)) = true := decide_eq_true (by omega)
      have hd' : (i : Int) < (s.size : Int) := by omega
      by_cases hm : i = m
      . obtain rfl := hm.symm
        have hjf : j = fm := by
          have h1 := Hj.out
          rw [← hHl, List.take_length] at h1
          rw [h1]
          exact Hc.out
        obtain rfl := hjf.symm
        have HEX := hide hex
        clear hlen hex
        go_wp2_with fail
        go_ret2
        rw [HEX.out]
        exact ⟨rfl, HW.out⟩
      . have hjf : ((j : Int) == (fm : Int)) = false := by
          have h1 := Hlt.out i (by omega)
          have h2 := Hj.out
          refine beq_eq_false_iff_ne.2 (fun e => ?_)
          omega
        have hl2 : i < (H ++ B).length := by rw [List.length_append]; omega
        have hs2 := Hat.out i hl2
        have hst := cnt_step H i (by omega)
        have hel : (H ++ B)[i] = H[i]'(by omega) := List.getElem_append_left (by omega)
        rw [hel] at hs2
        clear hel
        by_cases h10b : H[i]'(by omega) = 10
        . rw [if_pos h10b] at hst
          rw [h10b] at hs2
          have Hst : Hid (j + 1 = (H.take (i + 1)).count 10) := hide (by have := Hj.out; omega)
          clear hst h10b Hat
          go_wp2_with fail
          exact ⟨⟨trivial, i + 1, j + 1, by omega, by omega, Hst, by go_num, by go_num⟩, by simp [intOf]; omega⟩
        . rw [if_neg h10b] at hst
          have Hst : Hid (j = (H.take (i + 1)).count 10) := hide (by have := Hj.out; omega)
          have hbn : (((H[i]'(by omega)).toNat : Int) == 10) = false := by
            refine beq_eq_false_iff_ne.2 (fun e => h10b ?_)
            have : (H[i]'(by omega)).toNat = 10 := by omega
            exact UInt8.toNat_inj.1 this
          clear hst h10b Hat
          generalize H[i]'_ = bb at *
          go_wp2_with fail
          exact ⟨⟨trivial, i + 1, j, by omega, by omega, Hst, rfl, by go_num⟩, by simp [intOf]; omega⟩
    . have hd : decide ((i : Int) < (s.size : Int)) = false := decide_eq_false (by omega)
      have hd' : ¬ (i : Int) < (s.size : Int) := by omega
      have hr0 : r = 0 := by omega
      have Hrb : Hid (rb = ⟨#[]⟩) := hide (by
        rw [← hex, hr0]
        apply ByteArray.ext
        simp)
      clear hex
      go_wp2_with fail
      go_ret2
      rw [Hrb.out]
      exact ⟨rfl, HW.out⟩
def DR (w V : World) (ao : Option Addr) (n c : Nat) (l : List COp) : Prop := ∃ xs : List (COp × Value), n = xs.length /\ l = xs.map (·.1) /\ V.ownsRow w.heap.size 34 6 (.slice ao n c) n (xs.flatMap opC) /\ ∀ x ∈ xs, ∃ aq cq, x.2 = .slice aq x.1.qs.length cq /\ x.1.qs.length <= cq /\ Ns w aq x.1.qs
theorem DR.len {w V : World} {ao : Option Addr} {n c : Nat} {l : List COp} (h : DR w V ao n c l) : n = l.length := by
  obtain ⟨xs, h1, h2, _⟩ := h
  rw [h1, h2, List.length_map]
theorem own_keep {V V' : World} {B e size n : Nat} {v : Value} {xs : List Value} (h : V.ownsRow B e size v n xs) (hk : ∀ (g : Nat) (cs : Array Value) (fr : Nat × Nat), V.heap[g]? = some (Obj.cells cs e fr) -> V'.heap[g]? = V.heap[g]?) : V'.ownsRow B e size v n xs := by
  refine ⟨h.1, ?_⟩
  rcases h.2 with h | ⟨g, cap, cur, hv, hbg, hg, h1, h2, h3, h4⟩
  . exact .inl h
  . exact .inr ⟨g, cap, cur, hv, hbg, (hk g cur _ hg).trans hg, h1, h2, h3, h4⟩
theorem DR.keep {w V V' : World} {ao : Option Addr} {n c : Nat} {l : List COp} (h : DR w V ao n c l) (hk : ∀ (g : Nat) (cs : Array Value) (fr : Nat × Nat), V.heap[g]? = some (Obj.cells cs 34 fr) -> V'.heap[g]? = V.heap[g]?) : DR w V' ao n c l := by
  obtain ⟨xs, h1, h2, h3, h4⟩ := h
  exact ⟨xs, h1, h2, own_keep h3 hk, h4⟩
theorem DR.below {w V V' : World} {ao : Option Addr} {n c : Nat} {l : List COp} (h : DR w V ao n c l) (hb : Below V.heap.size V V') : DR w V' ao n c l :=
  h.keep fun g _ _ hg => hb.block g (Array.getElem?_eq_some_iff.1 hg).1
theorem DR.ob {w V : World} {ao : Option Addr} {n c : Nat} {l : List COp} (h : DR w V ao n c l) {g : Nat} (hg : ob ao = some g) : w.heap.size <= g /\ ∃ cs fr, V.heap[g]? = some (.cells cs 34 fr) := by
  obtain ⟨xs, h1, h2, h3, h4⟩ := h
  rcases h3.2 with ⟨hv, _⟩ | ⟨g', cap, cur, hv, hbg, hg', _⟩
  . cases hv
    cases hg
  . simp only [Value.slice.injEq] at hv
    obtain ⟨rfl, -, -⟩ := hv
    simp [Go.Proofs.YtnghfdnlcnocjaaGreatDoor.Oct.ob] at hg
    subst hg
    exact ⟨hbg, cur, _, hg'⟩
theorem DR.rd {w V : World} {ao : Option Addr} {n c : Nat} {l : List COp} (h : DR w V ao n c l) (hb : Below w.heap.size w V) : OpsIn V ao l /\ l.length <= c := by
  obtain ⟨xs, h1, h2, h3, h4⟩ := h
  rcases h3.2 with ⟨hv, h0⟩ | ⟨g, cap, cur, hv, hbg, hg, e1, e2, e3, e4⟩
  . have hx : xs = [] := List.length_eq_zero_iff.1 (by rw [← h1]; exact h0)
    subst hx
    subst h2
    exact ⟨.inl rfl, Nat.zero_le _⟩
  . simp only [Value.slice.injEq] at hv
    obtain ⟨rfl, -, rfl⟩ := hv
    have hl : l.length = n := by rw [h2, List.length_map, h1]
    refine ⟨.inr ⟨g, 0, rfl, fun i o hi => ?_⟩, by omega⟩
    rw [h2, List.getElem?_map] at hi
    cases hx : xs[i]? with
    | none => rw [hx] at hi; cases hi
    | some x =>
      rw [hx] at hi
      simp at hi
      subst hi
      obtain ⟨aq, cq, hv, hr, hn⟩ := h4 x (List.mem_of_getElem? hx)
      have key : ∀ j u, (opC x)[j]? = some u -> V.cell? ⟨g, 0 + i * 6 + j, none⟩ = some u := fun j u hu => by
        have h5 := opC_at xs i x hx j u hu
        have hlt := (List.getElem?_eq_some_iff.1 h5).1
        rw [← e4, List.getElem?_take] at h5
        split at h5
        . rw [Nat.zero_add]
          exact (cell_of_row _ _ _ _ _ _ hg).trans (by simpa using h5)
        . cases h5
      exact ⟨aq, cq, key 0 _ rfl, key 1 _ rfl, (key 2 x.2 rfl).trans (by rw [hv]), key 3 _ rfl, key 4 _ rfl, key 5 _ rfl, hr, hn.below hb⟩
theorem DR.nil (w V : World) : DR w V none 0 0 [] := ⟨[], rfl, rfl, ⟨rfl, .inl ⟨rfl, rfl⟩⟩, fun _ h => nomatch h⟩
theorem DR.push {w V' : World} {bo ao' : Option Addr} {n c c' : Nat} {l : List COp} {V : World} (h : DR w V bo n c l) (o : COp) (aq : Option Addr) (cq : Nat) (hr : o.qs.length <= cq) (hn : Ns w aq o.qs) (xs : List (COp × Value)) (h1 : n = xs.length) (h2 : l = xs.map (·.1)) (h4 : ∀ x ∈ xs, ∃ aq cq, x.2 = .slice aq x.1.qs.length cq /\ x.1.qs.length <= cq /\ Ns w aq x.1.qs) (ho : V'.ownsRow w.heap.size 34 6 (.slice ao' (n + 1) c') (n + 1) (xs.flatMap opC ++ [.int .i64 o.kind, .int .i64 o.gate, .slice aq o.qs.length cq, .int .i64 o.bit, .int .i64 o.cond, .int .i64 o.whn])) : DR w V' ao' (n + 1) c' (l ++ [o]) := by
  have hu := h
  clear hu
  refine ⟨xs ++ [(o, .slice aq o.qs.length cq)], by simp [h1], by simp [h2], ?_, fun x hx => ?_⟩
  . rw [List.flatMap_append]
    exact ho
  . rcases List.mem_append.1 hx with hx | hx
    . exact h4 x hx
    . have e := List.mem_singleton.1 hx
      subst e
      exact ⟨aq, cq, rfl, hr, hn⟩
def keepB (o : COp) : Bool := decide (o.kind = 4) || (decide (o.kind = 1) && decide (o.cond = -1))
theorem keep_may {q : Nat} {b : Int} {o : COp} (h : mayP (q : Int) b o = true) (hk : keepB o = true) : mayP (q : Int) 0 o = true /\ Pl o := by
  unfold keepB at hk
  rw [Bool.or_eq_true, Bool.and_eq_true, decide_eq_true_eq, decide_eq_true_eq, decide_eq_true_eq] at hk
  rcases hk with h4 | ⟨h1, hc⟩
  . refine ⟨?_, .inl h4⟩
    unfold mayP at h ⊢
    rw [h4] at h ⊢
    simpa using h
  . refine ⟨?_, .inr ⟨h1, hc⟩⟩
    obtain ⟨e, hch⟩ := may_gate h h1 hc
    rw [e]
    unfold mayP freeP
    simp [hch]
theorem filter_take (l : List COp) (i : Nat) (o : COp) (h : l[i]? = some o) : (l.take (i + 1)).filter keepB = (l.take i).filter keepB ++ (if keepB o = true then [o] else []) := by
  obtain ⟨hi, e⟩ := List.getElem?_eq_some_iff.1 h
  rw [List.take_succ_eq_append_getElem hi, List.filter_append, e]
  by_cases hk : keepB o = true
  . simp [hk]
  . simp [hk]
theorem chk_def {q : Nat} (hq : q <= 64) {l : List COp} (hl : l.length <= 4096) (hm : ∀ o ∈ l, mayP (q : Int) 0 o = true) : (chkC ⟨(q : Int), 0, l⟩).2 = 0 := by
  unfold chkC
  have hc : cntP (q : Int) 0 = true := by
    unfold cntP wiP
    simp
    omega
  simp only [hc, Bool.not_true, Bool.false_or]
  rw [if_neg (by simp; omega), badI_none _ _ _ _ hm]
def hd3 (q : Nat) : List UInt8 := [79, 80, 69, 78, 81, 65, 83, 77, 32, 50, 46, 48, 59, 10, 105, 110, 99, 108, 117, 100, 101, 32, 34, 113, 101, 108, 105, 98, 49, 46, 105, 110, 99, 34, 59, 10, 113, 114, 101, 103, 32] ++ elP 113 (q : Int) ++ [59, 10]
theorem pr_split (q : Nat) (hq : 0 < q) (l : List COp) : prP ⟨(q : Int), 0, l⟩ = hd3 q ++ (l.map wrP).flatMap (· ++ [59, 10]) := by
  unfold prP
  rw [join_flat _ _ (by unfold lnP hdP; simp)]
  unfold lnP hdP
  rw [if_pos (by show (0 : Int) < (q : Int); omega), if_neg (by show ¬ (0 : Int) < 0; decide), List.flatMap_append]
  simp [hd3]
theorem hd3_cnt (q : Nat) (hq : q <= 64) : (hd3 q).count 10 = 3 /\ ∀ i, i < (hd3 q).length -> ((hd3 q).take i).count 10 < 3 := by
  have h := (by decide +kernel : ∀ j : Fin 65, (hd3 j.1).count 10 = 3 /\ ∀ i : Fin 64, i.1 < (hd3 j.1).length -> ((hd3 j.1).take i.1).count 10 < 3) ⟨q, by omega⟩
  have hl := (by decide +kernel : ∀ j : Fin 65, (hd3 j.1).length <= 64) ⟨q, by omega⟩
  refine ⟨h.1, fun i hi => h.2 ⟨i, by simp only at hl; omega⟩ hi⟩
theorem nmd_len : ∀ l : List UInt8, (nmdP l).length <= l.length
  | [] => Nat.le_refl _
  | [c] => by unfold nmdP; split <;> simp
  | c :: e :: r => by
    unfold nmdP
    split
    . have := nmd_len r
      simp only [List.length_cons]
      omega
    . split
      . have := nmd_len (e :: r)
        simp only [List.length_cons] at *
        omega
      . have := nmd_len (e :: r)
        simp only [List.length_cons] at *
        omega
def nmsX (k : Nat) : List UInt8 := Lib.join ((List.range k).map nnX) [44, 32]
def agsX (k : Nat) : List UInt8 := agP ((List.range k).map Int.ofNat)
theorem nms_one : nmsX 1 = [] ++ [110] ++ Lib.itoa ((0 : Nat) : Int) := by decide +kernel
theorem ags_one : agsX 1 = [] ++ [113, 91] ++ Lib.itoa ((0 : Nat) : Int) ++ [93] := by decide +kernel
theorem nms_succ (k : Nat) (h : 0 < k) : nmsX (k + 1) = nmsX k ++ [44, 32] ++ [110] ++ Lib.itoa (k : Int) := by
  unfold nmsX
  rw [List.range_succ, List.map_append, List.map_cons, List.map_nil, join_snoc _ _ _ (by simp; omega)]
  simp [nnX]
theorem ags_succ (k : Nat) (h : 0 < k) : agsX (k + 1) = agsX k ++ [44, 32] ++ [113, 91] ++ Lib.itoa (k : Int) ++ [93] := by
  unfold agsX agP
  rw [List.range_succ, List.map_append, List.map_append, List.map_cons, List.map_nil, List.map_cons, List.map_nil, join_snoc _ _ _ (by simp; omega)]
  simp [elP]
theorem nms_len (k : Nat) (h : k <= 64) : (nmsX k).length <= 400 /\ (agsX k).length <= 500 :=
  (by decide +kernel : ∀ j : Fin 65, (nmsX j.1).length <= 400 /\ (agsX j.1).length <= 500) ⟨k, by omega⟩
end Go.Proofs.YtnghfdnlcnocjaaGreatDoor.Cir
