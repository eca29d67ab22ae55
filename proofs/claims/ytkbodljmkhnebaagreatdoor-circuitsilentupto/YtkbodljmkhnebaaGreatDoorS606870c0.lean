import Derived.Test.YtkbodljmkhnebaaGreatDoorScca35ffc
import Derived.Test.YtkbodljmkhnebaaGreatDoorS1561a036
import Derived.Test.YtkbodljmkhnebaaGreatDoorS03075c28
set_option maxRecDepth 100000
set_option maxHeartbeats 4000000
namespace Go.Proofs.YtkbodljmkhnebaaGreatDoor.Cir
open Go.RowKit Go.Shelf Go.Proofs.YtkbodljmkhnebaaGreatDoor.Oct Go.Proofs.YtkbodljmkhnebaaGreatDoor.Tok Go.Proofs.YtkbodljmkhnebaaGreatDoor.Gt
theorem bkp {w V U : World} (h1 : Below w.heap.size w V) (h2 : Below V.heap.size V U) : Below w.heap.size w U := h1.trans (h2.mono h1.size)
def AlOk : Prop := ∀ (w : World), Tq w -> Calls Tryz.prog 23 #[] w fun e w' => e = .returned (.bool true) /\ Below w.heap.size w w'
theorem cPar (l : List UInt8) (hl : l.length <= 1099511627776) (w : World) (hT : Tq w) : Calls Tryz.prog 25 #[str l] w (PPa l w) :=
  cParse l hl w hT.tx.tw hT.tb hT.te (fun _ h => scan_code h) (fun _ h => ⟨scan_fine h hl, fun _ _ _ => rsOk, fun _ _ _ => brOk⟩)
theorem cParC {l : List UInt8} {c : Circ} (hl : l.length <= 1099511627776) (hP : parP l = .ok c) (w : World) (hT : Tq w) : Calls Tryz.prog 25 #[str l] w fun e w' => ∃ ao k, e = .returned (.tuple #[.agg #[.int .i64 c.q, .int .i64 c.b, .slice ao c.ops.length k], .agg #[.int .i64 0, .int .i64 0, .int .i64 0, .int .i64 0]]) /\ Ci w' c ao k /\ Below w.heap.size w w' := by
  refine (cPar l hl w hT).mono ?_
  intro e w' h
  unfold PPa at h
  rw [hP] at h
  obtain ⟨hb, ao, k, rfl, ho⟩ := h
  have hi := par_iv hl hP
  exact ⟨ao, k, rfl, ⟨ho.rd.1, ho.rd.2, by omega, hi.2⟩, hb⟩
theorem cParB {l : List UInt8} {f : Flt} (hl : l.length <= 1099511627776) (hP : parP l = .bad f) (w : World) (hT : Tq w) : Calls Tryz.prog 25 #[str l] w fun e w' => e = .returned (.tuple #[.agg #[.int .i64 0, .int .i64 0, .slice none 0 0], .agg #[.int .i64 (f.code : Int), .int .i64 (f.off : Int), .int .i64 (f.line : Int), .int .i64 (f.col : Int)]]) /\ Below w.heap.size w w' := by
  refine (cPar l hl w hT).mono ?_
  intro e w' h
  unfold PPa at h
  rw [hP] at h
  exact ⟨h.2, h.1⟩
theorem nScanAny (l : List UInt8) (hl : l.length <= 1099511627776) (w : World) (hT : Tw w) : Calls Tryz.prog 29 #[str l] w fun e w' => ∃ (lo : Option Addr) (ln lc : Nat) (x0 x1 x2 x3 : Int), e = .returned (.tuple #[.slice lo ln lc, .agg #[.int .i64 x0, .int .i64 x1, .int .i64 x2, .int .i64 x3]]) /\ Below w.heap.size w w' := by
  have c1 := nScan l hl w hT
  unfold ScanPost at c1
  refine c1.mono ?_
  intro e w' h
  cases hS : scanAll l with
  | bad F =>
    rw [hS] at h
    obtain ⟨rfl, hb⟩ := h
    exact ⟨_, _, _, _, _, _, _, rfl, hb⟩
  | ok us =>
    rw [hS] at h
    obtain ⟨lo, lc, rfl, _, hb⟩ := h
    exact ⟨_, _, _, _, _, _, _, rfl, hb⟩
theorem neq_fault (a b c d : Nat) (h : a ≠ 0 ∨ 1 <= c) (w : World) : Sem.run Tryz.prog (binOp .neq 45 (.agg #[.int .i64 (a : Int), .int .i64 (b : Int), .int .i64 (c : Int), .int .i64 (d : Int)]) (.agg #[.int .i64 0, .int .i64 0, .int .i64 0, .int .i64 0])) w = .ok (.bool true) w := by
  cases a with
  | succ n => kernel_rfl
  | zero =>
    cases b with
    | succ m => kernel_rfl
    | zero =>
      obtain ⟨k, rfl⟩ : ∃ k, c = k + 1 := ⟨c - 1, by omega⟩
      kernel_rfl
theorem xSilent_no (l : List UInt8) (f : Flt) (hl : l.length <= 1099511627776) (hP : parP l = .bad f) (ko : Option Addr) (kn kc : Nat) (w : World) (hA : AlOk) (hT : Tq w) :
    Calls Tryz.prog 8 #[str l, .slice ko kn kc] w fun e w' => e = .returned (.bool true) /\ Below w.heap.size w w' := by
  have P1 := fun V (h : Below w.heap.size w V) => cParB hl hP V (hT.below h)
  have S1 := fun V (h : Below w.heap.size w V) => nScanAny l hl V (hT.below h).tx.tw
  have A1 := fun V (h : Below w.heap.size w V) => hA V (hT.below h)
  have hb := par_bad hl hP
  obtain ⟨code, off, line, col⟩ := f
  simp only at *
  have hN := fun V => neq_fault code off line col hb V
  clear hP hT hb
  generalize str l = sl at *
  go_enter Tryz.func8, Tryz.ntmps8
  have HW : Hid (∀ (w1 : World) (C F : Array Value), Below w.heap.size w w1 -> Below w.heap.size w ((w1.alloc (.cells C 24)).alloc (.cells F 45))) := hide (fun w1 C F h => bkp (bkp h (bnew _ _)) (bnew _ _))
  go_wp2_with (first
    | (go_at_call 25; (with_reducible refine Calls.mono (P1 _ (Below.refl _ _)) ?_); rintro e w1 ⟨rfl, hb1⟩)
    | (go_at_call 29; (with_reducible refine Calls.mono (S1 _ (HW.out w1 _ _ hb1)) ?_); rintro e w2 ⟨lo, ln, lc, x0, x1, x2, x3, rfl, hb2⟩; obtain ⟨m1, m2⟩ := may_keep hb2; obtain ⟨y0, y1, y2, y3, y4⟩ := st4_cells m2; have hw2 := bkp (HW.out w1 _ _ hb1) hb2)
    | (go_at_call 23; (with_reducible refine Calls.mono (A1 _ (bkp hw2 (bnew _ _))) ?_); rintro e w3 ⟨rfl, hb3⟩))
  go_ret
  exact ⟨rfl, bkp (bkp hw2 (bnew _ _)) hb3⟩
theorem four (bn : Nat) (h : bn < 256) : Int.tmod (bn : Int) 4 = ((bn % 4 : Nat) : Int) /\ wrap64 (bn : Int) = (bn : Int) /\ ((bn % 4 : Nat) : Int) < 4 :=
  ⟨by rw [Int.tmod_eq_emod_of_nonneg (by omega)]; omega, by unfold wrap64; omega, by omega⟩
theorem xSilent_ok (l mk : List UInt8) (c : Circ) (us : List T) (hl : l.length <= 1048576) (hml : mk.length <= 140737488355328) (hP : parP l = .ok c) (hS : scanAll l = .ok us) (ko : Option Addr) (kc : Nat) (w : World) (hA : AlOk) (hT : Tq w) (hM : Bs w ko mk) :
    Calls Tryz.prog 8 #[str l, .slice ko mk.length kc] w fun e w' => e = .returned (.bool true) /\ Below w.heap.size w w' := by
  have P1 := fun V (h : Below w.heap.size w V) => cParC (by omega) hP V (hT.below h)
  have c1 := fun V (h : Below w.heap.size w V) => nScan l (by omega) V (hT.below h).tx.tw
  unfold ScanPost at c1
  rw [hS] at c1
  simp only at c1
  obtain ⟨hwr, hbd, hul, htl, -⟩ := silent_all8 mk l us hS
  have P2 := fun V (h : Below w.heap.size w V) => cParC (l := txt8 mk 0 us) (by omega) (par_silent mk hS hP) V (hT.below h)
  have A1 := fun V (h : Below w.heap.size w V) => hA V (hT.below h)
  have S1 := fun (V : World) (ao bo : Option Addr) (k j : Nat) (hC : Ci V c ao k) (hD : Ci V c bo j) => cSame c c ao bo k j V hC hD
  rw [decide_eq_true (rfl : c = c)] at S1
  unfold cV at S1
  have W1 := fun (t : T) (h : t.text.length <= 140737488355300 /\ t.num <= 9223372036854775807) (V : World) (hV : Below w.heap.size w V) => nWrite t.kind t.num t.off t.line t.col t.text h.1 (by omega) (by omega) V (hT.below hV).tx
  have HW : Hid (∀ (w1 : World) (C F : Array Value), Below w.heap.size w w1 -> Below w.heap.size w ((w1.alloc (.cells C 24)).alloc (.cells F 45))) := hide (fun w1 C F h => bkp (bkp h (bnew _ _)) (bnew _ _))
  have Hbd := hide hbd
  have Hwr := hide hwr
  obtain ⟨whole, hwh⟩ : ∃ z, txt8 mk 0 us = z := ⟨_, rfl⟩
  rw [hwh] at P2 htl
  obtain ⟨mn, hn⟩ : ∃ n, us.length = n := ⟨_, rfl⟩
  rw [hn] at c1
  unfold str at c1 P1 P2 ⊢
  generalize (⟨l.toArray⟩ : ByteArray) = s at *
  have Hwh := hide hwh
  have HC := hide S1
  obtain ⟨cq, cb, cops⟩ := c
  simp only at P1 P2 S1
  generalize cops.length = cn at *
  clear hS hP hwr hwh hbd S1
  go_enter Tryz.func8, Tryz.ntmps8
  go_wp2_with (first
    | (go_at_call 25; (with_reducible refine Calls.mono (P1 _ (Below.refl _ _)) ?_); rintro e w1 ⟨ao, k0, rfl, hC1, hb1⟩; have HC1 := hide hC1; clear hC1)
    | (go_at_call 29; (with_reducible refine Calls.mono (c1 _ (HW.out w1 _ _ hb1)) ?_); rintro e w2 ⟨lo, lc, rfl, hown2, hb2⟩; have HL := hide hown2; clear hown2; obtain ⟨m1, m2⟩ := may_keep hb2; obtain ⟨y0, y1, y2, y3, y4⟩ := st4_cells m2; have M1 := hide m1; clear m1 m2; have hw2 := bkp (HW.out w1 _ _ hb1) hb2))
  have HTa : Hid (Ta w2 lo (us.map T.ta)) := hide (ta_of_own (by rw [← tvs_ta]; exact HL.out))
  clear c1 P1 HL y0 y1 y2 y3 y4
  have r2 := heap_alloc2_new w2 (.cells #[.int .i64 0, .int .i64 0, .int .i64 0, .int .i64 0] 45) (.cells #[.string ⟨#[32]⟩, .string ⟨#[10]⟩, .string ⟨#[32, 47, 47, 32, 120, 10]⟩, .string ⟨#[9, 13, 32]⟩] 9)
  have hb3 : Below w2.heap.size w2 ((w2.alloc (.cells #[.int .i64 0, .int .i64 0, .int .i64 0, .int .i64 0] 45)).alloc (.cells #[.string ⟨#[32]⟩, .string ⟨#[10]⟩, .string ⟨#[32, 47, 47, 32, 120, 10]⟩, .string ⟨#[9, 13, 32]⟩] 9)) := ((Below.refl _ _).alloc (Nat.le_refl _) _).alloc (by simp) _
  generalize ((w2.alloc (.cells #[.int .i64 0, .int .i64 0, .int .i64 0, .int .i64 0] 45)).alloc (.cells #[.string ⟨#[32]⟩, .string ⟨#[10]⟩, .string ⟨#[32, 47, 47, 32, 120, 10]⟩, .string ⟨#[9, 13, 32]⟩] 9)) = w3 at *
  have hbw3 := bkp hw2 hb3
  have Hgap : Hid (∀ m, m < 4 -> w3.cell? ⟨w2.heap.size + 1, m, none⟩ = some (.string ⟨(gaps8.getD m []).toArray⟩)) := hide (fun m hm => by
    rw [cell_of_row _ _ m _ _ _ r2]
    have : m = 0 ∨ m = 1 ∨ m = 2 ∨ m = 3 := by omega
    rcases this with rfl | rfl | rfl | rfl <;> rfl)
  have HL2 : Hid (Ta w3 lo (us.map T.ta)) := hide (HTa.out.below hb3)
  have HM2 : Hid (Bs w3 ko mk) := hide (hM.below hbw3)
  have M3 : Hid (w3.heap[w1.heap.size]? = some (.cells #[.int .i64 cq, .int .i64 cb, .slice ao cn k0] 24 (0, 0))) := hide ((hb3.block _ (Array.getElem?_eq_some_iff.1 M1.out).1).trans M1.out)
  have HC3 : Hid (Ci w3 ⟨cq, cb, cops⟩ ao k0) := hide ((((HC1.out.below (bnew _ _)).below (bnew _ _)).below hb2).below hb3)
  clear r2 HTa hM M1 HC1
  generalize w2.heap.size + 1 = G at *
  go_loopw [10, 11] (fun vt vi wr => ∃ (k : Nat) (cur : List UInt8), vi = .int .i64 (k : Int) /\ vt = .string ⟨cur.toArray⟩ /\ k <= mn /\ Below w3.heap.size w3 wr /\ Hid (cur ++ txt8 mk k (us.drop k) = whole)) (fun _ vi _ => mn - (RowKit.intOf vi).toNat)
  case atStart => exact ⟨0, [], rfl, rfl, Nat.zero_le _, Below.refl _ _, hide (by rw [List.drop_zero]; exact Hwh.out)⟩
  case round =>
    obtain ⟨k, cur, rfl, rfl, hk, hbel, Hcur⟩ := hrel
    have hbwr := hbw3.trans (hbel.mono hbw3.size)
    by_cases hlt : k < mn
    . have hlt' : (k : Int) < (mn : Int) := by omega
      obtain ⟨t, ht⟩ : ∃ t, us[k]? = some t := ⟨_, List.getElem?_eq_getElem (by omega)⟩
      have hdr : us.drop k = t :: us.drop (k + 1) := by
        rw [List.drop_eq_getElem_cons (by omega)]
        rw [List.getElem?_eq_getElem (by omega)] at ht
        rw [Option.some.inj ht]
      obtain ⟨g, off, hlo, hcl⟩ := (HL2.out.below hbel) k t.ta (by rw [List.getElem?_map, ht]; rfl)
      have a0 := hcl 0 _ rfl
      have a1 := hcl 1 _ rfl
      have a2 := hcl 2 _ rfl
      have a3 := hcl 3 _ rfl
      have a4 := hcl 4 _ rfl
      have a5 := hcl 5 _ rfl
      rw [Nat.add_zero] at a0
      have hmem : t ∈ us := List.mem_of_getElem? ht
      have hw := Hwr.out t hmem
      have Hnext : Hid ((cur ++ t.dr ++ gapAt8 mk k) ++ txt8 mk (k + 1) (us.drop (k + 1)) = whole) := hide (by
        rw [← Hcur.out, hdr, txt8]
        simp)
      have hlen : cur.length + (t.dr.length + (gapAt8 mk k).length) <= whole.length := by
        have := congrArg List.length Hnext.out
        simp only [List.length_append] at this
        omega
      have hgl := gap_len8 _ (gapAt_mem8 mk k)
      have htx : t.text.length <= 140737488355300 /\ t.num <= 9223372036854775807 := by
        have := Hbd.out t hmem
        omega
      have cW := W1 t htx wr hbwr
      rw [hw] at cW
      simp only [wrV] at cW
      have e1 := cat_str cur t.dr
      have e2 := cat_str (cur ++ t.dr) (gapAt8 mk k)
      have z1 := size_str cur
      have z2 := size_str t.dr
      have z3 := size_str (cur ++ t.dr)
      have z4 := size_str (gapAt8 mk k)
      rw [List.length_append] at z3
      have hgapE : gapAt8 mk k = gaps8.getD ((mk.getD k 0).toNat % 4) [] := rfl
      have Hnx : Hid (cur ++ t.dr ++ gapAt8 mk k ++ txt8 mk (k + 1) (us.drop (k + 1)) = whole) := Hnext
      obtain ⟨kind, text, num, oo, ll, cc⟩ := t
      subst hlo
      have a0' : wr.cell? ⟨g, off + k * 6, none⟩ = some (.int .i64 (kind : Int)) := a0
      have a1' : wr.cell? ⟨g, off + k * 6 + 1, none⟩ = some (.string ⟨text.toArray⟩) := a1
      have a2' : wr.cell? ⟨g, off + k * 6 + 2, none⟩ = some (.int .i64 (num : Int)) := a2
      have a3' : wr.cell? ⟨g, off + k * 6 + 3, none⟩ = some (.int .i64 (oo : Int)) := a3
      have a4' : wr.cell? ⟨g, off + k * 6 + 4, none⟩ = some (.int .i64 (ll : Int)) := a4
      have a5' : wr.cell? ⟨g, off + k * 6 + 5, none⟩ = some (.int .i64 (cc : Int)) := a5
      clear a0 a1 a2 a3 a4 a5 hcl hdr ht hmem hw Hcur Hnext
      generalize T.dr ⟨kind, text, num, oo, ll, cc⟩ = drl at *
      obtain ⟨gl, hglE⟩ : ∃ gl, gapAt8 mk k = gl := ⟨_, rfl⟩
      rw [hglE] at hlen hgl e2 z4 hgapE Hnx
      obtain ⟨sc, hsc⟩ : ∃ z, (⟨cur.toArray⟩ : ByteArray) = z := ⟨_, rfl⟩
      obtain ⟨sd, hsd⟩ : ∃ z, (⟨drl.toArray⟩ : ByteArray) = z := ⟨_, rfl⟩
      obtain ⟨scd, hscd⟩ : ∃ z, (⟨(cur ++ drl).toArray⟩ : ByteArray) = z := ⟨_, rfl⟩
      obtain ⟨sg, hsg⟩ : ∃ z, (⟨gl.toArray⟩ : ByteArray) = z := ⟨_, rfl⟩
      obtain ⟨sall, hsall⟩ : ∃ z, (⟨(cur ++ drl ++ gl).toArray⟩ : ByteArray) = z := ⟨_, rfl⟩
      rw [hsc, hsd, hscd] at e1
      rw [hscd, hsg, hsall] at e2
      rw [hsc] at z1 ⊢
      rw [hsd] at z2 cW
      rw [hscd] at z3
      rw [hsg] at z4
      have Hsall := hide hsall
      have Hgl := hide hglE
      have Hsg := hide hsg
      generalize (⟨text.toArray⟩ : ByteArray) = stx at *
      clear hsc hsd hscd hsg hsall hglE Hwr Hbd Hwh htx
      go_wp2_with fail
      refine cW.mono ?_
      rintro e w5 ⟨rfl, hb5⟩
      have hb25 := hbel.trans (hb5.mono hbel.size)
      clear cW a0' a1' a2' a3' a4' a5'
      by_cases hkm : k < mk.length
      . have hkm' : (k : Int) < (mk.length : Int) := by omega
        obtain ⟨b, hb0⟩ : ∃ b, mk[k]? = some b := ⟨_, List.getElem?_eq_getElem hkm⟩
        obtain ⟨kg, koff, hko, hkc⟩ := (HM2.out.below hb25) k b hb0
        have hgd : mk.getD k 0 = b := by rw [List.getD_eq_getElem?_getD, hb0]; rfl
        have hm5 : b.toNat % 4 < 4 := Nat.mod_lt _ (by decide)
        have hgc := cell_below (Hgap.out (b.toNat % 4) hm5) hb25
        rw [← hgd, ← hgapE, Hsg.out, hgd] at hgc
        have hbn : b.toNat < 256 := b.toNat_lt
        subst hko
        clear hgapE hgd hb0
        generalize b.toNat = bn at *
        obtain ⟨hr1, hr0, hm5'⟩ := four bn hbn
        generalize bn % 4 = m at *
        go_wp2_with (go_at_call 13; refine (aNum _ _).mono ?_; rintro e w1 ⟨rfl, hw⟩; obtain rfl := hw.symm)
        exact ⟨⟨k + 1, cur ++ drl ++ gl, by go_num, (by rw [Hsall.out]), by omega, hb25, Hnx⟩, by simp [RowKit.intOf]; omega⟩
      . have hkm' : ¬ (k : Int) < (mk.length : Int) := by omega
        have hgd : mk.getD k 0 = 0 := by rw [List.getD_eq_getElem?_getD, List.getElem?_eq_none (by omega)]; rfl
        have hgc := cell_below (Hgap.out 0 (by decide)) hb25
        have hg0 : gaps8.getD 0 [] = gl := by rw [hgapE, hgd]; rfl
        rw [hg0, Hsg.out] at hgc
        clear hgapE hgd hg0
        go_wp2_with (go_at_call 13; refine (aNum _ _).mono ?_; rintro e w1 ⟨rfl, hw⟩; obtain rfl := hw.symm)
        exact ⟨⟨k + 1, cur ++ drl ++ gl, by go_num, (by rw [Hsall.out]), by omega, hb25, Hnx⟩, by simp [RowKit.intOf]; omega⟩
    . have hlt' : ¬ (k : Int) < (mn : Int) := by omega
      have hcw : cur = whole := by rw [← Hcur.out, List.drop_of_length_le (by omega)]; simp [txt8]
      subst hcw
      have P2' := P2 wr hbwr
      clear P2 Hcur Hwr Hbd Hgap W1
      generalize (⟨cur.toArray⟩ : ByteArray) = sw at *
      have p1 := (hbel.block w1.heap.size (Array.getElem?_eq_some_iff.1 M3.out).1).trans M3.out
      have HCr : Hid (Ci wr ⟨cq, cb, cops⟩ ao k0) := hide (HC3.out.below hbel)
      have HP : Hid (∀ (w5 : World), Below wr.heap.size wr w5 -> w5.cell? ⟨w1.heap.size, 0, none⟩ = some (.int .i64 cq) /\ w5.cell? ⟨w1.heap.size, 1, none⟩ = some (.int .i64 cb) /\ w5.cell? ⟨w1.heap.size, 2, none⟩ = some (.slice ao cn k0) /\ w1.heap.size < w5.heap.size) := hide (fun w5 h => def_cells ((h.block _ (Array.getElem?_eq_some_iff.1 p1).1).trans p1))
      have HC5 : Hid (∀ (w5 : World) (C F : Array Value), Below wr.heap.size wr w5 -> Ci ((w5.alloc (.cells C 24)).alloc (.cells F 45)) ⟨cq, cb, cops⟩ ao k0) := hide (fun w5 C F h => ((HCr.out.below h).below (bnew _ _)).below (bnew _ _))
      clear p1 M3 HC3 HL2 HM2 Hwh
      go_wp2_with (first
        | (go_at_call 25; (with_reducible refine Calls.mono P2' ?_); rintro e w5 ⟨bo, j, rfl, hC5, hb5⟩; obtain ⟨z0, z1, z2, z3⟩ := HP.out w5 hb5; have hw5 := bkp hbwr hb5; have HD5 := hide ((hC5.below (bnew w5 (.cells #[.int .i64 cq, .int .i64 cb, .slice bo cn j] 24))).below (bnew _ (.cells #[.int .i64 0, .int .i64 0, .int .i64 0, .int .i64 0] 45))); clear hC5)
        | (go_at_call 24; (with_reducible refine Calls.mono (HC.out _ ao bo k0 j (HC5.out w5 _ _ hb5) HD5.out) ?_); rintro e w6 ⟨rfl, hb6⟩; have hw6 := bkp (HW.out w5 _ _ hw5) hb6)
        | (go_at_call 23; (with_reducible refine Calls.mono (A1 _ hw6) ?_); rintro e w7 ⟨rfl, hb7⟩))
      go_ret
      exact ⟨rfl, bkp hw6 hb7⟩
theorem xSilent8 (l mk : List UInt8) (hl : l.length <= 1048576) (hml : mk.length <= 140737488355328) (ko : Option Addr) (kc : Nat) (w : World) (hA : AlOk) (hT : Tq w) (hM : Bs w ko mk) :
    Calls Tryz.prog 8 #[str l, .slice ko mk.length kc] w fun e w' => e = .returned (.bool true) /\ Below w.heap.size w w' := by
  cases hP : parP l with
  | bad f => exact xSilent_no l f (by omega) hP ko mk.length kc w hA hT
  | ok c =>
    cases hS : scanAll l with
    | bad F => unfold parP at hP; rw [hS] at hP; cases hP
    | ok us => exact xSilent_ok l mk c us hl hml hP hS ko kc w hA hT hM
end Go.Proofs.YtkbodljmkhnebaaGreatDoor.Cir
