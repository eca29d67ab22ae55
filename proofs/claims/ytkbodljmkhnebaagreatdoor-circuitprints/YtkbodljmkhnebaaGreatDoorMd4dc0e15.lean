/- The document's Print, a case of registers (gen_dj8.py). -/
import Derived.Test.YtkbodljmkhnebaaGreatDoorM0b822496
/- The document's Print, a case of registers (gen_dj8.py). -/
namespace Go.Proofs.YtkbodljmkhnebaaGreatDoor.Cir
open Go.RowKit Go.Shelf Go.Proofs.YtkbodljmkhnebaaGreatDoor.Oct Go.Proofs.YtkbodljmkhnebaaGreatDoor.Tok Go.Proofs.YtkbodljmkhnebaaGreatDoor.Gt

set_option maxRecDepth 100000 in
set_option maxHeartbeats 8000000 in
theorem ePrint_ft (c : Circ) (ao : Option Addr) (k : Nat) (hk : (chkC c).2 = 0) (hq : ¬ 0 < c.q) (hb : 0 < c.b) (w : World) (h10 : T10 w) (hC : Ci w c ao k) : Calls Tryz.prog 28 #[cV c ao k] w fun e w' => e = .returned (.tuple #[.string ⟨(prP c).toArray⟩, .int .i64 0]) ∧ Below w.heap.size w w' := by
  obtain ⟨q0, q1, b0, b1, hl, hmay⟩ := chkC_ok hk
  have c1 := fun V (h : Below w.heap.size w V) => eMay c ao k V (hC.below h)
  rw [show ((chkC c).2 == 0) = true by simpa using hk] at c1
  have cQ := fun V (h : Below w.heap.size w V) => nItoa c.q (by omega) (by omega) V (h10.below h)
  have cB := fun V (h : Below w.heap.size w V) => nItoa c.b (by omega) (by omega) V (h10.below h)
  have zq := ba_size (Lib.itoa c.q)
  have zb := ba_size (Lib.itoa c.b)
  have lq : (Lib.itoa c.q).length ≤ 21 := Lib.itoa_length_le c.q (by omega) (by omega)
  have lb : (Lib.itoa c.b).length ≤ 21 := Lib.itoa_length_le c.b (by omega) (by omega)
  have HMay := hide hmay
  have H10 := hide h10
  have HQ1 := hide (And.intro q0 (And.intro q1 b1))
  have HC := hide hC
  have hpr : prP c = (lnP c).flatMap (· ++ [59, 10]) := join_end [59, 10] (lnP c) (by unfold lnP hdP; simp)
  obtain ⟨R, hR⟩ : ∃ R, prP c = R := ⟨_, rfl⟩
  rw [hR]
  have HR : Hid (R = (lnP c).flatMap (· ++ [59, 10])) := hide (by rw [← hR, hpr])
  obtain ⟨n, hn⟩ : ∃ n, c.ops.length = n := ⟨_, rfl⟩
  have HL := hide hn
  obtain ⟨q, b, ops⟩ := c
  unfold cV at *
  simp only at *
  rw [hn] at hl c1 ⊢
  clear hC hk hmay h10 hR hpr hn q1 b1
  have HW1 : Hid (∀ w1, Below (w.alloc (.cells #[.int .i64 q, .int .i64 b, .slice ao n k] 24)).heap.size (w.alloc (.cells #[.int .i64 q, .int .i64 b, .slice ao n k] 24)) w1 → w1.cell? ⟨w.heap.size, 0, none⟩ = some (.int .i64 q) ∧ w1.cell? ⟨w.heap.size, 1, none⟩ = some (.int .i64 b) ∧ w1.cell? ⟨w.heap.size, 2, none⟩ = some (.slice ao n k) ∧ w.heap.size < w1.heap.size) := hide (fun w1 hb1 => def_cells ((hb1.block w.heap.size (by simp)).trans (heap_alloc_new w (.cells #[.int .i64 q, .int .i64 b, .slice ao n k] 24))))
  have HB0 := hide (bnew w (.cells #[.int .i64 q, .int .i64 b, .slice ao n k] 24))
  have dq0 : decide (q > 0) = false := decide_eq_false (by omega)
  have dq1 : decide (0 < q) = false := decide_eq_false (by omega)
  have db0 : decide (b > 0) = true := decide_eq_true (by omega)
  have db1 : decide (0 < b) = true := decide_eq_true (by omega)
  have hhd2 : hdP q b = [[79, 80, 69, 78, 81, 65, 83, 77, 32, 50, 46, 48], [105, 110, 99, 108, 117, 100, 101, 32, 34, 113, 101, 108, 105, 98, 49, 46, 105, 110, 99, 34]] ++ [] ++ [[99, 114, 101, 103, 32] ++ elP 99 b] := by unfold hdP; rw [if_neg (by omega), if_pos (by omega)]
  clear hq hb q0 b0
  have H0 : Hid ((⟨#[79, 80, 69, 78, 81, 65, 83, 77, 32, 50, 46, 48, 59, 10, 105, 110, 99, 108, 117, 100, 101, 32, 34, 113, 101, 108, 105, 98, 49, 46, 105, 110, 99, 34, 59, 10]⟩ : ByteArray) = ⟨hdL.toArray⟩) := hide rfl
  have he0 : (⟨#[79, 80, 69, 78, 81, 65, 83, 77, 32, 50, 46, 48, 59, 10, 105, 110, 99, 108, 117, 100, 101, 32, 34, 113, 101, 108, 105, 98, 49, 46, 105, 110, 99, 34, 59, 10]⟩ : ByteArray) ++ (⟨#[99, 114, 101, 103, 32, 99, 91]⟩ : ByteArray) = (⟨(hdL ++ [99, 114, 101, 103, 32, 99, 91]).toArray⟩ : ByteArray) := by rw [H0.out]; exact cat_str (hdL) ([99, 114, 101, 103, 32, 99, 91])
  have hs0 := ba_size (hdL ++ [99, 114, 101, 103, 32, 99, 91])
  have he1 : (⟨(hdL ++ [99, 114, 101, 103, 32, 99, 91]).toArray⟩ : ByteArray) ++ (⟨(Lib.itoa b).toArray⟩ : ByteArray) = (⟨(hdL ++ [99, 114, 101, 103, 32, 99, 91] ++ Lib.itoa b).toArray⟩ : ByteArray) := cat_str (hdL ++ [99, 114, 101, 103, 32, 99, 91]) (Lib.itoa b)
  have hs1 := ba_size (hdL ++ [99, 114, 101, 103, 32, 99, 91] ++ Lib.itoa b)
  have he2 : (⟨(hdL ++ [99, 114, 101, 103, 32, 99, 91] ++ Lib.itoa b).toArray⟩ : ByteArray) ++ (⟨#[93, 59, 10]⟩ : ByteArray) = (⟨(hdL ++ [99, 114, 101, 103, 32, 99, 91] ++ Lib.itoa b ++ [93, 59, 10]).toArray⟩ : ByteArray) := cat_str (hdL ++ [99, 114, 101, 103, 32, 99, 91] ++ Lib.itoa b) ([93, 59, 10])
  have hs2 := ba_size (hdL ++ [99, 114, 101, 103, 32, 99, 91] ++ Lib.itoa b ++ [93, 59, 10])
  simp only [List.length_append, List.length_cons, List.length_nil] at hs0 hs1 hs2
  have hF : Hid ((⟨(hdL ++ [99, 114, 101, 103, 32, 99, 91] ++ Lib.itoa b ++ [93, 59, 10]).toArray⟩ : ByteArray) = (⟨((hdP q b ++ (ops.take 0).map wrP).flatMap (· ++ [59, 10])).toArray⟩ : ByteArray)) := hide (by rw [hhd2]; simp [elP, hdL])
  generalize (⟨(hdL ++ [99, 114, 101, 103, 32, 99, 91] ++ Lib.itoa b ++ [93, 59, 10]).toArray⟩ : ByteArray) = h2 at *
  generalize (⟨(hdL ++ [99, 114, 101, 103, 32, 99, 91] ++ Lib.itoa b).toArray⟩ : ByteArray) = h1 at *
  generalize (⟨(hdL ++ [99, 114, 101, 103, 32, 99, 91]).toArray⟩ : ByteArray) = h0 at *
  rw [hdL_len] at hs0 hs1 hs2
  generalize (⟨(Lib.itoa b).toArray⟩ : ByteArray) = be at cB zb he0 he1 he2
  have hst : h2 = (⟨((hdP q b ++ (ops.take 0).map wrP).flatMap (· ++ [59, 10])).toArray⟩ : ByteArray) := hF.out
  have hsz0 : h2.size ≤ 3000 := by omega
  have HST := hide hst
  clear hst hF hhd2 H0
  go_enter Tryz.func28, Tryz.ntmps28
  go_wp2_with (first
    | (go_at_call 62; refine (c1 _ (bnew _ _)).mono ?_; rintro e w1 ⟨rfl, hb1⟩; obtain ⟨x0, x1, x2, x3⟩ := HW1.out w1 hb1; have hW := bel_on HB0.out hb1)
    | (go_at_call 63; (with_reducible refine Calls.mono (cB _ hW) ?_); rintro e w3 ⟨rfl, hb3⟩; have hb13 := bel_on hb1 hb3; obtain ⟨z0, z1, z2, z3⟩ := HW1.out w3 hb13))
  have HBe := hide hb13
  have hst := HST.out
  have HHS := hide hst
  have hstz := hsz0
  clear hst hsz0
  go_loopw [4, 5] (fun vs vi wr => ∃ (i : Nat) (sb : ByteArray), vs = .string sb ∧ vi = .int .i64 (i : Int) ∧ i ≤ n ∧ sb.size ≤ 3000 * (i + 1) ∧ Hid (sb = ⟨((hdP q b ++ (ops.take i).map wrP).flatMap (· ++ [59, 10])).toArray⟩) ∧ Below (w.alloc (.cells #[.int .i64 q, .int .i64 b, .slice ao n k] 24)).heap.size (w.alloc (.cells #[.int .i64 q, .int .i64 b, .slice ao n k] 24)) wr) (fun _ vi _ => n - (Go.RowKit.intOf vi).toNat)
  case atStart => exact ⟨0, _, rfl, rfl, Nat.zero_le _, by omega, hide HHS.out, HBe.out⟩
  case round =>
    obtain ⟨i, sb, rfl, rfl, hi, hsz, HS, hbe⟩ := hrel
    by_cases h : i < n
    · have hd : decide ((i : Int) < (n : Int)) = true := decide_eq_true (by omega)
      obtain ⟨o, ho⟩ : ∃ o, ops[i]? = some o := ⟨_, List.getElem?_eq_getElem (by rw [HL.out]; exact h)⟩
      have hom := List.mem_of_getElem? ho
      have hwb := bel_on HB0.out hbe
      have HEnd : Hid (∀ V, Below wr.heap.size wr V → Below (w.alloc (.cells #[.int .i64 q, .int .i64 b, .slice ao n k] 24)).heap.size (w.alloc (.cells #[.int .i64 q, .int .i64 b, .slice ao n k] 24)) V) := hide (fun V hV => bel_on hbe hV)
      obtain ⟨go, off, aq, cq, rfl, hgl, hoc⟩ := (HC.out.below hwb).ops.at (show (⟨q, b, ops⟩ : Circ).ops[i]? = some o from ho)
      have hmy := HMay.out o hom
      have hin := may_in HQ1.out.1 HQ1.out.2.1 HQ1.out.2.2 hmy
      have k0 := hoc.kind
      have k1 := hoc.gate
      have k2 := hoc.qs
      have k3 := hoc.bit
      have k4 := hoc.cond
      have k5 := hoc.whn
      obtain ⟨x0, x1, x2, xl⟩ := HW1.out wr hbe
      have hal := ag_len o.qs hin.2.1
      have hnl := nm_len o.gate
      have hib : (Lib.itoa o.bit).length ≤ 21 := Lib.itoa_length_le o.bit hin.2.2.1.1 hin.2.2.1.2
      have hic : (Lib.itoa o.cond).length ≤ 21 := Lib.itoa_length_le o.cond hin.2.2.2.1.1 hin.2.2.2.1.2
      have hiw : (Lib.itoa o.whn).length ≤ 21 := Lib.itoa_length_le o.whn hin.2.2.2.2.1 hin.2.2.2.2.2
      have h64 := hin.1
      obtain ⟨S, hS⟩ : ∃ S, (hdP q b ++ (ops.take i).map wrP).flatMap (· ++ [59, 10]) = S := ⟨_, rfl⟩
      have HT : Hid ((⟨((hdP q b ++ (ops.take (i + 1)).map wrP).flatMap (· ++ [59, 10])).toArray⟩ : ByteArray) = ⟨(S ++ (wrP o ++ [59, 10])).toArray⟩) := hide (by
        rw [← hS, List.take_add_one, ho]
        simp)
      have HSb : Hid (sb = ⟨S.toArray⟩) := hide (by rw [HS.out, hS])
      have hsS : sb.size = S.length := by rw [HSb.out, ba_size]
      have cIb := fun V (h : Below wr.heap.size wr V) => nItoa o.bit hin.2.2.1.1 hin.2.2.1.2 V (H10.out.below (bel_on hwb h))
      have cIc := fun V (h : Below wr.heap.size wr V) => nItoa o.cond hin.2.2.2.1.1 hin.2.2.2.1.2 V (H10.out.below (bel_on hwb h))
      have cIw := fun V (h : Below wr.heap.size wr V) => nItoa o.whn hin.2.2.2.2.1 hin.2.2.2.2.2 V (H10.out.below (bel_on hwb h))
      have cNm := fun V (_ : Below wr.heap.size wr V) => hName o.gate V
      have cQb := fun V (h : Below wr.heap.size wr V) => eQubits o.qs aq cq (by omega) hin.2.1 V (H10.out.below (bel_on hwb h)) (hoc.ns.below h)
      have hkk := may_kind hmy
      generalize hFB : (⟨((hdP q b ++ (ops.take (i + 1)).map wrP).flatMap (· ++ [59, 10])).toArray⟩ : ByteArray) = FB at *
      have HFB := hide hFB.symm
      clear hFB
      obtain ⟨kind, gate, qs, bit, cond, whn⟩ := o
      simp only at *
      have za := ba_size (agP qs)
      have zn := ba_size (rw' gate).nm
      have zib := ba_size (Lib.itoa bit)
      have zic := ba_size (Lib.itoa cond)
      have ziw := ba_size (Lib.itoa whn)
      generalize hqn : qs.length = qn at *
      have HOp : Hid (∀ V, Below (wr.alloc (.cells #[.int .i64 kind, .int .i64 gate, .slice aq qn cq, .int .i64 bit, .int .i64 cond, .int .i64 whn] 40)).heap.size (wr.alloc (.cells #[.int .i64 kind, .int .i64 gate, .slice aq qn cq, .int .i64 bit, .int .i64 cond, .int .i64 whn] 40)) V → V.cell? ⟨wr.heap.size, 0, none⟩ = some (.int .i64 kind) ∧ V.cell? ⟨wr.heap.size, 1, none⟩ = some (.int .i64 gate) ∧ V.cell? ⟨wr.heap.size, 2, none⟩ = some (.slice aq qn cq) ∧ V.cell? ⟨wr.heap.size, 3, none⟩ = some (.int .i64 bit) ∧ V.cell? ⟨wr.heap.size, 4, none⟩ = some (.int .i64 cond) ∧ V.cell? ⟨wr.heap.size, 5, none⟩ = some (.int .i64 whn) ∧ wr.heap.size < V.heap.size) := hide (fun V hV => op6_cells ((hV.block wr.heap.size (by simp)).trans (heap_alloc_new wr _)))
      have hbO := bnew wr (.cells #[.int .i64 kind, .int .i64 gate, .slice aq qn cq, .int .i64 bit, .int .i64 cond, .int .i64 whn] 40)
      have HBO := hide hbO
      clear hoc hom ho HS hS hmy hin hqn x0 x1 xl hbO
      rcases hkk with ⟨hk, hc | hc⟩ | hk | hk | hk
      · have kb1 : (kind == 1) = true := by rw [hk]; rfl
        have cg : decide (cond ≥ 0) = false := by rw [hc]; rfl
        have cg2 : decide (0 ≤ cond) = false := by rw [hc]; rfl
        have te0 : sb ++ (⟨((rw' gate).nm).toArray⟩ : ByteArray) = (⟨(S ++ (rw' gate).nm).toArray⟩ : ByteArray) := by rw [HSb.out]; exact cat_str (S) ((rw' gate).nm)
        have ts0 := ba_size (S ++ (rw' gate).nm)
        have te1 : (⟨(S ++ (rw' gate).nm).toArray⟩ : ByteArray) ++ (⟨#[32]⟩ : ByteArray) = (⟨(S ++ (rw' gate).nm ++ [32]).toArray⟩ : ByteArray) := cat_str (S ++ (rw' gate).nm) ([32])
        have ts1 := ba_size (S ++ (rw' gate).nm ++ [32])
        have te2 : (⟨(S ++ (rw' gate).nm ++ [32]).toArray⟩ : ByteArray) ++ (⟨(agP qs).toArray⟩ : ByteArray) = (⟨(S ++ (rw' gate).nm ++ [32] ++ agP qs).toArray⟩ : ByteArray) := cat_str (S ++ (rw' gate).nm ++ [32]) (agP qs)
        have ts2 := ba_size (S ++ (rw' gate).nm ++ [32] ++ agP qs)
        have te3 : (⟨(S ++ (rw' gate).nm ++ [32] ++ agP qs).toArray⟩ : ByteArray) ++ (⟨#[59, 10]⟩ : ByteArray) = (⟨(S ++ (rw' gate).nm ++ [32] ++ agP qs ++ [59, 10]).toArray⟩ : ByteArray) := cat_str (S ++ (rw' gate).nm ++ [32] ++ agP qs) ([59, 10])
        have ts3 := ba_size (S ++ (rw' gate).nm ++ [32] ++ agP qs ++ [59, 10])
        simp only [List.length_append, List.length_cons, List.length_nil] at ts0 ts1 ts2 ts3
        have tF : Hid ((⟨(S ++ (rw' gate).nm ++ [32] ++ agP qs ++ [59, 10]).toArray⟩ : ByteArray) = FB) := hide (by rw [HT.out]; simp [wrP, hk, hc])
        generalize (⟨(S ++ (rw' gate).nm ++ [32] ++ agP qs ++ [59, 10]).toArray⟩ : ByteArray) = t3 at *
        generalize (⟨(S ++ (rw' gate).nm ++ [32] ++ agP qs).toArray⟩ : ByteArray) = t2 at *
        generalize (⟨(S ++ (rw' gate).nm ++ [32]).toArray⟩ : ByteArray) = t1 at *
        generalize (⟨(S ++ (rw' gate).nm).toArray⟩ : ByteArray) = t0 at *
        obtain rfl : FB = t3 := tF.out.symm
        rw [← hsS] at ts0 ts1 ts2 ts3
        have tb0 : t0.size ≤ 13000000 := by omega
        have tb1 : t1.size ≤ 13000000 := by omega
        have tb2 : t2.size ≤ 13000000 := by omega
        have tbF : FB.size ≤ 3000 * (i + 1 + 1) := by omega
        clear ts0 ts1 ts2 ts3
        generalize (⟨(agP qs).toArray⟩ : ByteArray) = ab at *
        generalize (⟨(rw' gate).nm.toArray⟩ : ByteArray) = nb at *
        generalize (⟨(Lib.itoa bit).toArray⟩ : ByteArray) = bib at *
        generalize (⟨(Lib.itoa cond).toArray⟩ : ByteArray) = bic at *
        generalize (⟨(Lib.itoa whn).toArray⟩ : ByteArray) = biw at *
        clear HT HSb hsS tF
        clear hk hc
        go_wp2_with fail
        generalize (wr.alloc (.cells #[.int .i64 kind, .int .i64 gate, .slice aq qn cq, .int .i64 bit, .int .i64 cond, .int .i64 whn] 40)) = WO at *
        refine wp_region_quiet (C := fun W => Below WO.heap.size WO W) (by kernel_rfl) (by kernel_rfl) (below_drewN (Below.refl _ _) 1) ?_
        repeat
          refine wpQuiet_step (fun K hK => ?_)
          go_simp
          first
            | (refine hK _ ?_; clear hK K)
            | (apply Exists.intro
               refine ⟨fun W hW => ?_, hK _ ?_⟩
               first
                 | (rw [if_neg (by omega)]; exact ⟨rfl, rfl⟩)
                 | ((with_reducible refine Calls.mono (cNm _ (bel_on HBO.out hW)) ?_); rintro e x ⟨rfl, q⟩; exact ⟨rfl, hW.trans (q.mono hW.size)⟩)
                 | ((with_reducible refine Calls.mono (cQb _ (bel_on HBO.out hW)) ?_); rintro e x ⟨rfl, q⟩; exact ⟨rfl, hW.trans (q.mono hW.size)⟩)
                 | (obtain ⟨u0, u1, u2, u3, u4, u5, u6⟩ := HOp.out W hW; go_simp; rfl)
               clear hK K)
        refine wpQuiet_nil ?_
        intro W hW
        go_wp2_with fail
        go_roundw
        case rel => exact ⟨i + 1, FB, rfl, by go_num, by omega, by omega, HFB, HEnd.out _ (bel_on HBO.out hW)⟩
        case measure => simp [Go.RowKit.intOf]; omega
      · have kb1 : (kind == 1) = true := by rw [hk]; rfl
        have hcn : cond ≠ -1 := by omega
        have cg : decide (cond ≥ 0) = true := decide_eq_true hc
        have cg2 : decide (0 ≤ cond) = true := decide_eq_true hc
        have te0 : sb ++ (⟨#[105, 102, 32, 40, 99, 91]⟩ : ByteArray) = (⟨(S ++ [105, 102, 32, 40, 99, 91]).toArray⟩ : ByteArray) := by rw [HSb.out]; exact cat_str (S) ([105, 102, 32, 40, 99, 91])
        have ts0 := ba_size (S ++ [105, 102, 32, 40, 99, 91])
        have te1 : (⟨(S ++ [105, 102, 32, 40, 99, 91]).toArray⟩ : ByteArray) ++ (⟨(Lib.itoa cond).toArray⟩ : ByteArray) = (⟨(S ++ [105, 102, 32, 40, 99, 91] ++ Lib.itoa cond).toArray⟩ : ByteArray) := cat_str (S ++ [105, 102, 32, 40, 99, 91]) (Lib.itoa cond)
        have ts1 := ba_size (S ++ [105, 102, 32, 40, 99, 91] ++ Lib.itoa cond)
        have te2 : (⟨(S ++ [105, 102, 32, 40, 99, 91] ++ Lib.itoa cond).toArray⟩ : ByteArray) ++ (⟨#[93, 32, 61, 61, 32]⟩ : ByteArray) = (⟨(S ++ [105, 102, 32, 40, 99, 91] ++ Lib.itoa cond ++ [93, 32, 61, 61, 32]).toArray⟩ : ByteArray) := cat_str (S ++ [105, 102, 32, 40, 99, 91] ++ Lib.itoa cond) ([93, 32, 61, 61, 32])
        have ts2 := ba_size (S ++ [105, 102, 32, 40, 99, 91] ++ Lib.itoa cond ++ [93, 32, 61, 61, 32])
        have te3 : (⟨(S ++ [105, 102, 32, 40, 99, 91] ++ Lib.itoa cond ++ [93, 32, 61, 61, 32]).toArray⟩ : ByteArray) ++ (⟨(Lib.itoa whn).toArray⟩ : ByteArray) = (⟨(S ++ [105, 102, 32, 40, 99, 91] ++ Lib.itoa cond ++ [93, 32, 61, 61, 32] ++ Lib.itoa whn).toArray⟩ : ByteArray) := cat_str (S ++ [105, 102, 32, 40, 99, 91] ++ Lib.itoa cond ++ [93, 32, 61, 61, 32]) (Lib.itoa whn)
        have ts3 := ba_size (S ++ [105, 102, 32, 40, 99, 91] ++ Lib.itoa cond ++ [93, 32, 61, 61, 32] ++ Lib.itoa whn)
        have te4 : (⟨(S ++ [105, 102, 32, 40, 99, 91] ++ Lib.itoa cond ++ [93, 32, 61, 61, 32] ++ Lib.itoa whn).toArray⟩ : ByteArray) ++ (⟨#[41, 32]⟩ : ByteArray) = (⟨(S ++ [105, 102, 32, 40, 99, 91] ++ Lib.itoa cond ++ [93, 32, 61, 61, 32] ++ Lib.itoa whn ++ [41, 32]).toArray⟩ : ByteArray) := cat_str (S ++ [105, 102, 32, 40, 99, 91] ++ Lib.itoa cond ++ [93, 32, 61, 61, 32] ++ Lib.itoa whn) ([41, 32])
        have ts4 := ba_size (S ++ [105, 102, 32, 40, 99, 91] ++ Lib.itoa cond ++ [93, 32, 61, 61, 32] ++ Lib.itoa whn ++ [41, 32])
        have te5 : (⟨(S ++ [105, 102, 32, 40, 99, 91] ++ Lib.itoa cond ++ [93, 32, 61, 61, 32] ++ Lib.itoa whn ++ [41, 32]).toArray⟩ : ByteArray) ++ (⟨((rw' gate).nm).toArray⟩ : ByteArray) = (⟨(S ++ [105, 102, 32, 40, 99, 91] ++ Lib.itoa cond ++ [93, 32, 61, 61, 32] ++ Lib.itoa whn ++ [41, 32] ++ (rw' gate).nm).toArray⟩ : ByteArray) := cat_str (S ++ [105, 102, 32, 40, 99, 91] ++ Lib.itoa cond ++ [93, 32, 61, 61, 32] ++ Lib.itoa whn ++ [41, 32]) ((rw' gate).nm)
        have ts5 := ba_size (S ++ [105, 102, 32, 40, 99, 91] ++ Lib.itoa cond ++ [93, 32, 61, 61, 32] ++ Lib.itoa whn ++ [41, 32] ++ (rw' gate).nm)
        have te6 : (⟨(S ++ [105, 102, 32, 40, 99, 91] ++ Lib.itoa cond ++ [93, 32, 61, 61, 32] ++ Lib.itoa whn ++ [41, 32] ++ (rw' gate).nm).toArray⟩ : ByteArray) ++ (⟨#[32]⟩ : ByteArray) = (⟨(S ++ [105, 102, 32, 40, 99, 91] ++ Lib.itoa cond ++ [93, 32, 61, 61, 32] ++ Lib.itoa whn ++ [41, 32] ++ (rw' gate).nm ++ [32]).toArray⟩ : ByteArray) := cat_str (S ++ [105, 102, 32, 40, 99, 91] ++ Lib.itoa cond ++ [93, 32, 61, 61, 32] ++ Lib.itoa whn ++ [41, 32] ++ (rw' gate).nm) ([32])
        have ts6 := ba_size (S ++ [105, 102, 32, 40, 99, 91] ++ Lib.itoa cond ++ [93, 32, 61, 61, 32] ++ Lib.itoa whn ++ [41, 32] ++ (rw' gate).nm ++ [32])
        have te7 : (⟨(S ++ [105, 102, 32, 40, 99, 91] ++ Lib.itoa cond ++ [93, 32, 61, 61, 32] ++ Lib.itoa whn ++ [41, 32] ++ (rw' gate).nm ++ [32]).toArray⟩ : ByteArray) ++ (⟨(agP qs).toArray⟩ : ByteArray) = (⟨(S ++ [105, 102, 32, 40, 99, 91] ++ Lib.itoa cond ++ [93, 32, 61, 61, 32] ++ Lib.itoa whn ++ [41, 32] ++ (rw' gate).nm ++ [32] ++ agP qs).toArray⟩ : ByteArray) := cat_str (S ++ [105, 102, 32, 40, 99, 91] ++ Lib.itoa cond ++ [93, 32, 61, 61, 32] ++ Lib.itoa whn ++ [41, 32] ++ (rw' gate).nm ++ [32]) (agP qs)
        have ts7 := ba_size (S ++ [105, 102, 32, 40, 99, 91] ++ Lib.itoa cond ++ [93, 32, 61, 61, 32] ++ Lib.itoa whn ++ [41, 32] ++ (rw' gate).nm ++ [32] ++ agP qs)
        have te8 : (⟨(S ++ [105, 102, 32, 40, 99, 91] ++ Lib.itoa cond ++ [93, 32, 61, 61, 32] ++ Lib.itoa whn ++ [41, 32] ++ (rw' gate).nm ++ [32] ++ agP qs).toArray⟩ : ByteArray) ++ (⟨#[59, 10]⟩ : ByteArray) = (⟨(S ++ [105, 102, 32, 40, 99, 91] ++ Lib.itoa cond ++ [93, 32, 61, 61, 32] ++ Lib.itoa whn ++ [41, 32] ++ (rw' gate).nm ++ [32] ++ agP qs ++ [59, 10]).toArray⟩ : ByteArray) := cat_str (S ++ [105, 102, 32, 40, 99, 91] ++ Lib.itoa cond ++ [93, 32, 61, 61, 32] ++ Lib.itoa whn ++ [41, 32] ++ (rw' gate).nm ++ [32] ++ agP qs) ([59, 10])
        have ts8 := ba_size (S ++ [105, 102, 32, 40, 99, 91] ++ Lib.itoa cond ++ [93, 32, 61, 61, 32] ++ Lib.itoa whn ++ [41, 32] ++ (rw' gate).nm ++ [32] ++ agP qs ++ [59, 10])
        simp only [List.length_append, List.length_cons, List.length_nil] at ts0 ts1 ts2 ts3 ts4 ts5 ts6 ts7 ts8
        have tF : Hid ((⟨(S ++ [105, 102, 32, 40, 99, 91] ++ Lib.itoa cond ++ [93, 32, 61, 61, 32] ++ Lib.itoa whn ++ [41, 32] ++ (rw' gate).nm ++ [32] ++ agP qs ++ [59, 10]).toArray⟩ : ByteArray) = FB) := hide (by rw [HT.out]; simp [wrP, elP, hk, hcn])
        generalize (⟨(S ++ [105, 102, 32, 40, 99, 91] ++ Lib.itoa cond ++ [93, 32, 61, 61, 32] ++ Lib.itoa whn ++ [41, 32] ++ (rw' gate).nm ++ [32] ++ agP qs ++ [59, 10]).toArray⟩ : ByteArray) = t8 at *
        generalize (⟨(S ++ [105, 102, 32, 40, 99, 91] ++ Lib.itoa cond ++ [93, 32, 61, 61, 32] ++ Lib.itoa whn ++ [41, 32] ++ (rw' gate).nm ++ [32] ++ agP qs).toArray⟩ : ByteArray) = t7 at *
        generalize (⟨(S ++ [105, 102, 32, 40, 99, 91] ++ Lib.itoa cond ++ [93, 32, 61, 61, 32] ++ Lib.itoa whn ++ [41, 32] ++ (rw' gate).nm ++ [32]).toArray⟩ : ByteArray) = t6 at *
        generalize (⟨(S ++ [105, 102, 32, 40, 99, 91] ++ Lib.itoa cond ++ [93, 32, 61, 61, 32] ++ Lib.itoa whn ++ [41, 32] ++ (rw' gate).nm).toArray⟩ : ByteArray) = t5 at *
        generalize (⟨(S ++ [105, 102, 32, 40, 99, 91] ++ Lib.itoa cond ++ [93, 32, 61, 61, 32] ++ Lib.itoa whn ++ [41, 32]).toArray⟩ : ByteArray) = t4 at *
        generalize (⟨(S ++ [105, 102, 32, 40, 99, 91] ++ Lib.itoa cond ++ [93, 32, 61, 61, 32] ++ Lib.itoa whn).toArray⟩ : ByteArray) = t3 at *
        generalize (⟨(S ++ [105, 102, 32, 40, 99, 91] ++ Lib.itoa cond ++ [93, 32, 61, 61, 32]).toArray⟩ : ByteArray) = t2 at *
        generalize (⟨(S ++ [105, 102, 32, 40, 99, 91] ++ Lib.itoa cond).toArray⟩ : ByteArray) = t1 at *
        generalize (⟨(S ++ [105, 102, 32, 40, 99, 91]).toArray⟩ : ByteArray) = t0 at *
        obtain rfl : FB = t8 := tF.out.symm
        rw [← hsS] at ts0 ts1 ts2 ts3 ts4 ts5 ts6 ts7 ts8
        have tb0 : t0.size ≤ 13000000 := by omega
        have tb1 : t1.size ≤ 13000000 := by omega
        have tb2 : t2.size ≤ 13000000 := by omega
        have tb3 : t3.size ≤ 13000000 := by omega
        have tb4 : t4.size ≤ 13000000 := by omega
        have tb5 : t5.size ≤ 13000000 := by omega
        have tb6 : t6.size ≤ 13000000 := by omega
        have tb7 : t7.size ≤ 13000000 := by omega
        have tbF : FB.size ≤ 3000 * (i + 1 + 1) := by omega
        clear ts0 ts1 ts2 ts3 ts4 ts5 ts6 ts7 ts8
        generalize (⟨(agP qs).toArray⟩ : ByteArray) = ab at *
        generalize (⟨(rw' gate).nm.toArray⟩ : ByteArray) = nb at *
        generalize (⟨(Lib.itoa bit).toArray⟩ : ByteArray) = bib at *
        generalize (⟨(Lib.itoa cond).toArray⟩ : ByteArray) = bic at *
        generalize (⟨(Lib.itoa whn).toArray⟩ : ByteArray) = biw at *
        clear HT HSb hsS tF
        clear hk hc hcn
        go_wp2_with fail
        generalize (wr.alloc (.cells #[.int .i64 kind, .int .i64 gate, .slice aq qn cq, .int .i64 bit, .int .i64 cond, .int .i64 whn] 40)) = WO at *
        refine wp_region_quiet (C := fun W => Below WO.heap.size WO W) (by kernel_rfl) (by kernel_rfl) (below_drewN (Below.refl _ _) 1) ?_
        repeat
          refine wpQuiet_step (fun K hK => ?_)
          go_simp
          first
            | (refine hK _ ?_; clear hK K)
            | (apply Exists.intro
               refine ⟨fun W hW => ?_, hK _ ?_⟩
               first
                 | (rw [if_neg (by omega)]; exact ⟨rfl, rfl⟩)
                 | ((with_reducible refine Calls.mono (cIc _ (bel_on HBO.out hW)) ?_); rintro e x ⟨rfl, q⟩; exact ⟨rfl, hW.trans (q.mono hW.size)⟩)
                 | ((with_reducible refine Calls.mono (cIw _ (bel_on HBO.out hW)) ?_); rintro e x ⟨rfl, q⟩; exact ⟨rfl, hW.trans (q.mono hW.size)⟩)
                 | (obtain ⟨u0, u1, u2, u3, u4, u5, u6⟩ := HOp.out W hW; go_simp; rfl)
               clear hK K)
        refine wpQuiet_nil ?_
        intro W1 hW1
        go_wp2_with fail
        refine wp_region_quiet (C := fun W => Below W1.heap.size W1 W) (by kernel_rfl) (by kernel_rfl) (below_drewN (Below.refl _ _) 1) ?_
        repeat
          refine wpQuiet_step (fun K hK => ?_)
          go_simp
          first
            | (refine hK _ ?_; clear hK K)
            | (apply Exists.intro
               refine ⟨fun W hW => ?_, hK _ ?_⟩
               first
                 | (rw [if_neg (by omega)]; exact ⟨rfl, rfl⟩)
                 | ((with_reducible refine Calls.mono (cNm _ (bel_on (bel_on HBO.out hW1) hW)) ?_); rintro e x ⟨rfl, q⟩; exact ⟨rfl, hW.trans (q.mono hW.size)⟩)
                 | ((with_reducible refine Calls.mono (cQb _ (bel_on (bel_on HBO.out hW1) hW)) ?_); rintro e x ⟨rfl, q⟩; exact ⟨rfl, hW.trans (q.mono hW.size)⟩)
                 | (obtain ⟨u0, u1, u2, u3, u4, u5, u6⟩ := HOp.out W (bel_on hW1 hW); go_simp; rfl)
               clear hK K)
        refine wpQuiet_nil ?_
        intro W hW
        go_wp2_with fail
        go_roundw
        case rel => exact ⟨i + 1, FB, rfl, by go_num, by omega, by omega, HFB, HEnd.out _ (bel_on HBO.out (bel_on hW1 hW))⟩
        case measure => simp [Go.RowKit.intOf]; omega
      · have kb1 : (kind == 1) = false := by rw [hk]; rfl
        have kb2 : (kind == 2) = true := by rw [hk]; rfl
        have te0 : sb ++ (⟨#[109, 101, 97, 115, 117, 114, 101, 32]⟩ : ByteArray) = (⟨(S ++ [109, 101, 97, 115, 117, 114, 101, 32]).toArray⟩ : ByteArray) := by rw [HSb.out]; exact cat_str (S) ([109, 101, 97, 115, 117, 114, 101, 32])
        have ts0 := ba_size (S ++ [109, 101, 97, 115, 117, 114, 101, 32])
        have te1 : (⟨(S ++ [109, 101, 97, 115, 117, 114, 101, 32]).toArray⟩ : ByteArray) ++ (⟨(agP qs).toArray⟩ : ByteArray) = (⟨(S ++ [109, 101, 97, 115, 117, 114, 101, 32] ++ agP qs).toArray⟩ : ByteArray) := cat_str (S ++ [109, 101, 97, 115, 117, 114, 101, 32]) (agP qs)
        have ts1 := ba_size (S ++ [109, 101, 97, 115, 117, 114, 101, 32] ++ agP qs)
        have te2 : (⟨(S ++ [109, 101, 97, 115, 117, 114, 101, 32] ++ agP qs).toArray⟩ : ByteArray) ++ (⟨#[32, 45, 62, 32, 99, 91]⟩ : ByteArray) = (⟨(S ++ [109, 101, 97, 115, 117, 114, 101, 32] ++ agP qs ++ [32, 45, 62, 32, 99, 91]).toArray⟩ : ByteArray) := cat_str (S ++ [109, 101, 97, 115, 117, 114, 101, 32] ++ agP qs) ([32, 45, 62, 32, 99, 91])
        have ts2 := ba_size (S ++ [109, 101, 97, 115, 117, 114, 101, 32] ++ agP qs ++ [32, 45, 62, 32, 99, 91])
        have te3 : (⟨(S ++ [109, 101, 97, 115, 117, 114, 101, 32] ++ agP qs ++ [32, 45, 62, 32, 99, 91]).toArray⟩ : ByteArray) ++ (⟨(Lib.itoa bit).toArray⟩ : ByteArray) = (⟨(S ++ [109, 101, 97, 115, 117, 114, 101, 32] ++ agP qs ++ [32, 45, 62, 32, 99, 91] ++ Lib.itoa bit).toArray⟩ : ByteArray) := cat_str (S ++ [109, 101, 97, 115, 117, 114, 101, 32] ++ agP qs ++ [32, 45, 62, 32, 99, 91]) (Lib.itoa bit)
        have ts3 := ba_size (S ++ [109, 101, 97, 115, 117, 114, 101, 32] ++ agP qs ++ [32, 45, 62, 32, 99, 91] ++ Lib.itoa bit)
        have te4 : (⟨(S ++ [109, 101, 97, 115, 117, 114, 101, 32] ++ agP qs ++ [32, 45, 62, 32, 99, 91] ++ Lib.itoa bit).toArray⟩ : ByteArray) ++ (⟨#[93]⟩ : ByteArray) = (⟨(S ++ [109, 101, 97, 115, 117, 114, 101, 32] ++ agP qs ++ [32, 45, 62, 32, 99, 91] ++ Lib.itoa bit ++ [93]).toArray⟩ : ByteArray) := cat_str (S ++ [109, 101, 97, 115, 117, 114, 101, 32] ++ agP qs ++ [32, 45, 62, 32, 99, 91] ++ Lib.itoa bit) ([93])
        have ts4 := ba_size (S ++ [109, 101, 97, 115, 117, 114, 101, 32] ++ agP qs ++ [32, 45, 62, 32, 99, 91] ++ Lib.itoa bit ++ [93])
        have te5 : (⟨(S ++ [109, 101, 97, 115, 117, 114, 101, 32] ++ agP qs ++ [32, 45, 62, 32, 99, 91] ++ Lib.itoa bit ++ [93]).toArray⟩ : ByteArray) ++ (⟨#[59, 10]⟩ : ByteArray) = (⟨(S ++ [109, 101, 97, 115, 117, 114, 101, 32] ++ agP qs ++ [32, 45, 62, 32, 99, 91] ++ Lib.itoa bit ++ [93] ++ [59, 10]).toArray⟩ : ByteArray) := cat_str (S ++ [109, 101, 97, 115, 117, 114, 101, 32] ++ agP qs ++ [32, 45, 62, 32, 99, 91] ++ Lib.itoa bit ++ [93]) ([59, 10])
        have ts5 := ba_size (S ++ [109, 101, 97, 115, 117, 114, 101, 32] ++ agP qs ++ [32, 45, 62, 32, 99, 91] ++ Lib.itoa bit ++ [93] ++ [59, 10])
        simp only [List.length_append, List.length_cons, List.length_nil] at ts0 ts1 ts2 ts3 ts4 ts5
        have tF : Hid ((⟨(S ++ [109, 101, 97, 115, 117, 114, 101, 32] ++ agP qs ++ [32, 45, 62, 32, 99, 91] ++ Lib.itoa bit ++ [93] ++ [59, 10]).toArray⟩ : ByteArray) = FB) := hide (by rw [HT.out]; simp [wrP, elP, hk])
        generalize (⟨(S ++ [109, 101, 97, 115, 117, 114, 101, 32] ++ agP qs ++ [32, 45, 62, 32, 99, 91] ++ Lib.itoa bit ++ [93] ++ [59, 10]).toArray⟩ : ByteArray) = t5 at *
        generalize (⟨(S ++ [109, 101, 97, 115, 117, 114, 101, 32] ++ agP qs ++ [32, 45, 62, 32, 99, 91] ++ Lib.itoa bit ++ [93]).toArray⟩ : ByteArray) = t4 at *
        generalize (⟨(S ++ [109, 101, 97, 115, 117, 114, 101, 32] ++ agP qs ++ [32, 45, 62, 32, 99, 91] ++ Lib.itoa bit).toArray⟩ : ByteArray) = t3 at *
        generalize (⟨(S ++ [109, 101, 97, 115, 117, 114, 101, 32] ++ agP qs ++ [32, 45, 62, 32, 99, 91]).toArray⟩ : ByteArray) = t2 at *
        generalize (⟨(S ++ [109, 101, 97, 115, 117, 114, 101, 32] ++ agP qs).toArray⟩ : ByteArray) = t1 at *
        generalize (⟨(S ++ [109, 101, 97, 115, 117, 114, 101, 32]).toArray⟩ : ByteArray) = t0 at *
        obtain rfl : FB = t5 := tF.out.symm
        rw [← hsS] at ts0 ts1 ts2 ts3 ts4 ts5
        have tb0 : t0.size ≤ 13000000 := by omega
        have tb1 : t1.size ≤ 13000000 := by omega
        have tb2 : t2.size ≤ 13000000 := by omega
        have tb3 : t3.size ≤ 13000000 := by omega
        have tb4 : t4.size ≤ 13000000 := by omega
        have tbF : FB.size ≤ 3000 * (i + 1 + 1) := by omega
        clear ts0 ts1 ts2 ts3 ts4 ts5
        generalize (⟨(agP qs).toArray⟩ : ByteArray) = ab at *
        generalize (⟨(rw' gate).nm.toArray⟩ : ByteArray) = nb at *
        generalize (⟨(Lib.itoa bit).toArray⟩ : ByteArray) = bib at *
        generalize (⟨(Lib.itoa cond).toArray⟩ : ByteArray) = bic at *
        generalize (⟨(Lib.itoa whn).toArray⟩ : ByteArray) = biw at *
        clear HT HSb hsS tF
        clear hk
        go_wp2_with fail
        generalize (wr.alloc (.cells #[.int .i64 kind, .int .i64 gate, .slice aq qn cq, .int .i64 bit, .int .i64 cond, .int .i64 whn] 40)) = WO at *
        refine wp_region_quiet (C := fun W => Below WO.heap.size WO W) (by kernel_rfl) (by kernel_rfl) (below_drewN (Below.refl _ _) 1) ?_
        repeat
          refine wpQuiet_step (fun K hK => ?_)
          go_simp
          first
            | (refine hK _ ?_; clear hK K)
            | (apply Exists.intro
               refine ⟨fun W hW => ?_, hK _ ?_⟩
               first
                 | (rw [if_neg (by omega)]; exact ⟨rfl, rfl⟩)
                 | ((with_reducible refine Calls.mono (cQb _ (bel_on HBO.out hW)) ?_); rintro e x ⟨rfl, q⟩; exact ⟨rfl, hW.trans (q.mono hW.size)⟩)
                 | ((with_reducible refine Calls.mono (cIb _ (bel_on HBO.out hW)) ?_); rintro e x ⟨rfl, q⟩; exact ⟨rfl, hW.trans (q.mono hW.size)⟩)
                 | (obtain ⟨u0, u1, u2, u3, u4, u5, u6⟩ := HOp.out W hW; go_simp; rfl)
               clear hK K)
        refine wpQuiet_nil ?_
        intro W hW
        go_wp2_with fail
        go_roundw
        case rel => exact ⟨i + 1, FB, rfl, by go_num, by omega, by omega, HFB, HEnd.out _ (bel_on HBO.out hW)⟩
        case measure => simp [Go.RowKit.intOf]; omega
      · have kb1 : (kind == 1) = false := by rw [hk]; rfl
        have kb2 : (kind == 2) = false := by rw [hk]; rfl
        have kb3 : (kind == 3) = true := by rw [hk]; rfl
        have te0 : sb ++ (⟨#[114, 101, 115, 101, 116, 32]⟩ : ByteArray) = (⟨(S ++ [114, 101, 115, 101, 116, 32]).toArray⟩ : ByteArray) := by rw [HSb.out]; exact cat_str (S) ([114, 101, 115, 101, 116, 32])
        have ts0 := ba_size (S ++ [114, 101, 115, 101, 116, 32])
        have te1 : (⟨(S ++ [114, 101, 115, 101, 116, 32]).toArray⟩ : ByteArray) ++ (⟨(agP qs).toArray⟩ : ByteArray) = (⟨(S ++ [114, 101, 115, 101, 116, 32] ++ agP qs).toArray⟩ : ByteArray) := cat_str (S ++ [114, 101, 115, 101, 116, 32]) (agP qs)
        have ts1 := ba_size (S ++ [114, 101, 115, 101, 116, 32] ++ agP qs)
        have te2 : (⟨(S ++ [114, 101, 115, 101, 116, 32] ++ agP qs).toArray⟩ : ByteArray) ++ (⟨#[59, 10]⟩ : ByteArray) = (⟨(S ++ [114, 101, 115, 101, 116, 32] ++ agP qs ++ [59, 10]).toArray⟩ : ByteArray) := cat_str (S ++ [114, 101, 115, 101, 116, 32] ++ agP qs) ([59, 10])
        have ts2 := ba_size (S ++ [114, 101, 115, 101, 116, 32] ++ agP qs ++ [59, 10])
        simp only [List.length_append, List.length_cons, List.length_nil] at ts0 ts1 ts2
        have tF : Hid ((⟨(S ++ [114, 101, 115, 101, 116, 32] ++ agP qs ++ [59, 10]).toArray⟩ : ByteArray) = FB) := hide (by rw [HT.out]; simp [wrP, hk])
        generalize (⟨(S ++ [114, 101, 115, 101, 116, 32] ++ agP qs ++ [59, 10]).toArray⟩ : ByteArray) = t2 at *
        generalize (⟨(S ++ [114, 101, 115, 101, 116, 32] ++ agP qs).toArray⟩ : ByteArray) = t1 at *
        generalize (⟨(S ++ [114, 101, 115, 101, 116, 32]).toArray⟩ : ByteArray) = t0 at *
        obtain rfl : FB = t2 := tF.out.symm
        rw [← hsS] at ts0 ts1 ts2
        have tb0 : t0.size ≤ 13000000 := by omega
        have tb1 : t1.size ≤ 13000000 := by omega
        have tbF : FB.size ≤ 3000 * (i + 1 + 1) := by omega
        clear ts0 ts1 ts2
        generalize (⟨(agP qs).toArray⟩ : ByteArray) = ab at *
        generalize (⟨(rw' gate).nm.toArray⟩ : ByteArray) = nb at *
        generalize (⟨(Lib.itoa bit).toArray⟩ : ByteArray) = bib at *
        generalize (⟨(Lib.itoa cond).toArray⟩ : ByteArray) = bic at *
        generalize (⟨(Lib.itoa whn).toArray⟩ : ByteArray) = biw at *
        clear HT HSb hsS tF
        clear hk
        go_wp2_with (first | (go_at_call 65; (with_reducible refine Calls.mono (cQb _ HBO.out) ?_); rintro e w2 ⟨rfl, hb2⟩))
        go_roundw
        case rel => exact ⟨i + 1, FB, rfl, by go_num, by omega, by omega, HFB, HEnd.out _ (bel_on HBO.out hb2)⟩
        case measure => simp [Go.RowKit.intOf]; omega
      · have kb1 : (kind == 1) = false := by rw [hk]; rfl
        have kb2 : (kind == 2) = false := by rw [hk]; rfl
        have kb3 : (kind == 3) = false := by rw [hk]; rfl
        have te0 : sb ++ (⟨#[98, 97, 114, 114, 105, 101, 114, 32]⟩ : ByteArray) = (⟨(S ++ [98, 97, 114, 114, 105, 101, 114, 32]).toArray⟩ : ByteArray) := by rw [HSb.out]; exact cat_str (S) ([98, 97, 114, 114, 105, 101, 114, 32])
        have ts0 := ba_size (S ++ [98, 97, 114, 114, 105, 101, 114, 32])
        have te1 : (⟨(S ++ [98, 97, 114, 114, 105, 101, 114, 32]).toArray⟩ : ByteArray) ++ (⟨(agP qs).toArray⟩ : ByteArray) = (⟨(S ++ [98, 97, 114, 114, 105, 101, 114, 32] ++ agP qs).toArray⟩ : ByteArray) := cat_str (S ++ [98, 97, 114, 114, 105, 101, 114, 32]) (agP qs)
        have ts1 := ba_size (S ++ [98, 97, 114, 114, 105, 101, 114, 32] ++ agP qs)
        have te2 : (⟨(S ++ [98, 97, 114, 114, 105, 101, 114, 32] ++ agP qs).toArray⟩ : ByteArray) ++ (⟨#[59, 10]⟩ : ByteArray) = (⟨(S ++ [98, 97, 114, 114, 105, 101, 114, 32] ++ agP qs ++ [59, 10]).toArray⟩ : ByteArray) := cat_str (S ++ [98, 97, 114, 114, 105, 101, 114, 32] ++ agP qs) ([59, 10])
        have ts2 := ba_size (S ++ [98, 97, 114, 114, 105, 101, 114, 32] ++ agP qs ++ [59, 10])
        simp only [List.length_append, List.length_cons, List.length_nil] at ts0 ts1 ts2
        have tF : Hid ((⟨(S ++ [98, 97, 114, 114, 105, 101, 114, 32] ++ agP qs ++ [59, 10]).toArray⟩ : ByteArray) = FB) := hide (by rw [HT.out]; simp [wrP, hk])
        generalize (⟨(S ++ [98, 97, 114, 114, 105, 101, 114, 32] ++ agP qs ++ [59, 10]).toArray⟩ : ByteArray) = t2 at *
        generalize (⟨(S ++ [98, 97, 114, 114, 105, 101, 114, 32] ++ agP qs).toArray⟩ : ByteArray) = t1 at *
        generalize (⟨(S ++ [98, 97, 114, 114, 105, 101, 114, 32]).toArray⟩ : ByteArray) = t0 at *
        obtain rfl : FB = t2 := tF.out.symm
        rw [← hsS] at ts0 ts1 ts2
        have tb0 : t0.size ≤ 13000000 := by omega
        have tb1 : t1.size ≤ 13000000 := by omega
        have tbF : FB.size ≤ 3000 * (i + 1 + 1) := by omega
        clear ts0 ts1 ts2
        generalize (⟨(agP qs).toArray⟩ : ByteArray) = ab at *
        generalize (⟨(rw' gate).nm.toArray⟩ : ByteArray) = nb at *
        generalize (⟨(Lib.itoa bit).toArray⟩ : ByteArray) = bib at *
        generalize (⟨(Lib.itoa cond).toArray⟩ : ByteArray) = bic at *
        generalize (⟨(Lib.itoa whn).toArray⟩ : ByteArray) = biw at *
        clear HT HSb hsS tF
        clear hk
        go_wp2_with (first | (go_at_call 65; (with_reducible refine Calls.mono (cQb _ HBO.out) ?_); rintro e w2 ⟨rfl, hb2⟩))
        go_roundw
        case rel => exact ⟨i + 1, FB, rfl, by go_num, by omega, by omega, HFB, HEnd.out _ (bel_on HBO.out hb2)⟩
        case measure => simp [Go.RowKit.intOf]; omega
    · obtain rfl : n = i := by omega
      have hf : sb = ⟨R.toArray⟩ := by
        rw [HS.out, HR.out, List.take_of_length_le (by rw [HL.out]; exact Nat.le_refl _)]
        rfl
      obtain ⟨x0, x1, x2, xl⟩ := HW1.out wr hbe
      go_wp2_with fail
      go_ret2
      exact ⟨by rw [← hf]; rfl, bel_on HB0.out hbe⟩
end Go.Proofs.YtkbodljmkhnebaaGreatDoor.Cir
