/- The document's Check, May, qubits (gen_dh8.py). -/
import Derived.Test.YtkbodljmkhnebaaGreatDoorMd6588c48
import Derived.Test.YtkbodljmkhnebaaGreatDoorM9c352de1
/- The document's Check, May, qubits (gen_dh8.py). -/
namespace Go.Proofs.YtkbodljmkhnebaaGreatDoor.Cir
open Go.RowKit Go.Shelf Go.Proofs.YtkbodljmkhnebaaGreatDoor.Oct Go.Proofs.YtkbodljmkhnebaaGreatDoor.Tok Go.Proofs.YtkbodljmkhnebaaGreatDoor.Gt

set_option maxRecDepth 100000 in
set_option maxHeartbeats 4000000 in
theorem eCheck (c : Circ) (ao : Option Addr) (k : Nat) (w : World) (hC : Ci w c ao k) : Calls Tryz.prog 10 #[cV c ao k] w fun e w' => e = .returned (.tuple #[.int .i64 (chkC c).1, .int .i64 (chkC c).2]) ∧ Below w.heap.size w w' := by
  obtain ⟨R, hR⟩ : ∃ R, chkC c = R := ⟨_, rfl⟩
  rw [hR]
  unfold chkC cntP wiP at hR
  have HC := hide hC
  obtain ⟨n, hn⟩ : ∃ n, c.ops.length = n := ⟨_, rfl⟩
  have HL := hide hn
  have hlen := hC.len
  have HM := hide (fun V (o : COp) (ho : o ∈ c.ops) (aq : Option Addr) (cq : Nat) (hn : Ns V aq o.qs) => eOp o aq cq c.q c.b (hC.qs o ho) V hn)
  obtain ⟨q, b, ops⟩ := c
  simp only at hR hn hlen HL HM
  unfold cV
  simp only
  rw [hn] at hlen hR ⊢
  clear hn hC
  by_cases q0 : q < 0
  · have HR0 : Hid (((-1 : Int), (80 : Int)) = R) := hide (by rw [← hR]; simp; try omega)
    have q0b0 : decide (q < 0) = true := decide_eq_true (by omega)
    have q0b1 : decide (0 > q) = true := decide_eq_true (by omega)
    clear hR
    go_enter Tryz.func10, Tryz.ntmps10
    go_wp2_with fail
    go_ret2
    exact ⟨by rw [← HR0.out]; rfl, bnew _ _⟩
  have q0b0 : decide (q < 0) = false := decide_eq_false (by omega)
  have q0b1 : decide (0 > q) = false := decide_eq_false (by omega)
  by_cases q1 : 64 < q
  · have HR0 : Hid (((-1 : Int), (80 : Int)) = R) := hide (by rw [← hR]; simp; try omega)
    have q1b0 : decide (q > 64) = true := decide_eq_true (by omega)
    have q1b1 : decide (64 < q) = true := decide_eq_true (by omega)
    clear hR
    go_enter Tryz.func10, Tryz.ntmps10
    go_wp2_with fail
    go_ret2
    exact ⟨by rw [← HR0.out]; rfl, bnew _ _⟩
  have q1b0 : decide (q > 64) = false := decide_eq_false (by omega)
  have q1b1 : decide (64 < q) = false := decide_eq_false (by omega)
  by_cases b0 : b < 0
  · have HR0 : Hid (((-1 : Int), (80 : Int)) = R) := hide (by rw [← hR]; simp; try omega)
    have b0b0 : decide (b < 0) = true := decide_eq_true (by omega)
    have b0b1 : decide (0 > b) = true := decide_eq_true (by omega)
    clear hR
    go_enter Tryz.func10, Tryz.ntmps10
    go_wp2_with fail
    go_ret2
    exact ⟨by rw [← HR0.out]; rfl, bnew _ _⟩
  have b0b0 : decide (b < 0) = false := decide_eq_false (by omega)
  have b0b1 : decide (0 > b) = false := decide_eq_false (by omega)
  by_cases b1 : 64 < b
  · have HR0 : Hid (((-1 : Int), (80 : Int)) = R) := hide (by rw [← hR]; simp; try omega)
    have b1b0 : decide (b > 64) = true := decide_eq_true (by omega)
    have b1b1 : decide (64 < b) = true := decide_eq_true (by omega)
    clear hR
    go_enter Tryz.func10, Tryz.ntmps10
    go_wp2_with fail
    go_ret2
    exact ⟨by rw [← HR0.out]; rfl, bnew _ _⟩
  have b1b0 : decide (b > 64) = false := decide_eq_false (by omega)
  have b1b1 : decide (64 < b) = false := decide_eq_false (by omega)
  by_cases n1 : 4096 < n
  · have HR0 : Hid (((-1 : Int), (80 : Int)) = R) := hide (by rw [← hR]; simp; try omega)
    have n1b0 : decide ((n : Int) > 4096) = true := decide_eq_true (by omega)
    have n1b1 : decide ((4096 : Int) < (n : Int)) = true := decide_eq_true (by omega)
    have n1b2 : decide (4096 < n) = true := decide_eq_true (by omega)
    clear hR
    go_enter Tryz.func10, Tryz.ntmps10
    go_wp2_with fail
    go_ret2
    exact ⟨by rw [← HR0.out]; rfl, bnew _ _⟩
  have n1b0 : decide ((n : Int) > 4096) = false := decide_eq_false (by omega)
  have n1b1 : decide ((4096 : Int) < (n : Int)) = false := decide_eq_false (by omega)
  have n1b2 : decide (4096 < n) = false := decide_eq_false (by omega)
  have HR : Hid ((match badI q b 0 ops with | some i => ((i : Int), (80 : Int)) | none => (0, 0)) = R) := hide (by
    rw [← hR, if_neg (by simp only [Bool.or_eq_true, Bool.not_eq_true', Bool.and_eq_false_iff, decide_eq_true_eq, decide_eq_false_iff_not]; omega)]
    cases badI q b 0 ops <;> rfl)
  clear hR
  have HK : Hid (∀ V, Below (w.alloc (.cells #[.int .i64 q, .int .i64 b, .slice ao n k] 24)).heap.size (w.alloc (.cells #[.int .i64 q, .int .i64 b, .slice ao n k] 24)) V → V.cell? ⟨w.heap.size, 0, none⟩ = some (.int .i64 q) ∧ V.cell? ⟨w.heap.size, 1, none⟩ = some (.int .i64 b) ∧ V.cell? ⟨w.heap.size, 2, none⟩ = some (.slice ao n k) ∧ w.heap.size < V.heap.size) := hide (fun V hV => def_cells ((hV.block w.heap.size (by simp)).trans (heap_alloc_new w _)))
  have HB0 := hide (bnew w (.cells #[.int .i64 q, .int .i64 b, .slice ao n k] 24))
  go_enter Tryz.func10, Tryz.ntmps10
  go_wp2_with fail
  generalize hWW : (w.alloc (.cells #[.int .i64 q, .int .i64 b, .slice ao n k] 24)) = WW at *
  clear hWW q0 q1 b0 b1
  go_loopw [4] (fun vi wr => ∃ i : Nat, vi = .int .i64 (i : Int) ∧ i ≤ n ∧ Hid (∀ x ∈ ops.take i, mayP q b x = true) ∧ Below WW.heap.size WW wr) (fun vi _ => n - (Go.RowKit.intOf vi).toNat)
  case atStart => exact ⟨0, rfl, Nat.zero_le _, hide (fun x hx => by simp at hx), Below.refl _ _⟩
  case round =>
    obtain ⟨i, rfl, hi, HA, hbW⟩ := hrel
    have hb := HB0.out.trans (hbW.mono HB0.out.size)
    obtain ⟨x0, x1, x2, xl⟩ := HK.out wr hbW
    by_cases h : i < n
    · have hd : decide ((i : Int) < (n : Int)) = true := decide_eq_true (by omega)
      obtain ⟨o, ho⟩ : ∃ o, ops[i]? = some o := ⟨_, List.getElem?_eq_getElem (by rw [HL.out]; exact h)⟩
      have hom := List.mem_of_getElem? ho
      obtain ⟨g, off, aq, cq, rfl, hgl, hoc⟩ := (HC.out.below hb).ops.at (show (⟨q, b, ops⟩ : Circ).ops[i]? = some o from ho)
      have HCo := hide (fun V (h : Below wr.heap.size wr V) => HM.out V o hom aq cq (hoc.ns.below h))
      have HO1 := hide hoc
      have HSt : Hid (mayP q b o = true → ∀ x ∈ ops.take (i + 1), mayP q b x = true) := hide (fun e x hx => by
        rw [List.take_add_one, ho] at hx
        rcases List.mem_append.1 hx with hx | hx
        · exact HA.out x hx
        · simp at hx; rw [hx]; exact e)
      have HNo : Hid (mayP q b o = false → R = ((i : Int), 80)) := hide (fun e => by
        rw [← HR.out, badI_some q b 0 ops i o HA.out ho e, Nat.zero_add])
      have HXY : Hid (∀ V, Below wr.heap.size wr V → (V.cell? ⟨w.heap.size, 0, none⟩ = some (.int .i64 q) ∧ V.cell? ⟨w.heap.size, 1, none⟩ = some (.int .i64 b) ∧ V.cell? ⟨w.heap.size, 2, none⟩ = some (.slice (some ⟨g, off, none⟩) n k) ∧ w.heap.size < V.heap.size) ∧ g < V.heap.size ∧ (V.cell? ⟨g, off + i * 6, none⟩ = some (.int .i64 o.kind) ∧ V.cell? ⟨g, off + i * 6 + 1, none⟩ = some (.int .i64 o.gate) ∧ V.cell? ⟨g, off + i * 6 + 2, none⟩ = some (.slice aq o.qs.length cq) ∧ V.cell? ⟨g, off + i * 6 + 3, none⟩ = some (.int .i64 o.bit) ∧ V.cell? ⟨g, off + i * 6 + 4, none⟩ = some (.int .i64 o.cond) ∧ V.cell? ⟨g, off + i * 6 + 5, none⟩ = some (.int .i64 o.whn))) := hide (fun V hV => by
        have a1 := HO1.out.below hV
        exact ⟨HK.out V (hbW.trans (hV.mono hbW.size)), Nat.lt_of_lt_of_le hgl hV.size, ⟨a1.kind, a1.gate, a1.qs, a1.bit, a1.cond, a1.whn⟩⟩)
      clear hoc ho hom HO1
      unfold opV at HCo
      generalize mayP q b o = mb at *
      have hi1 : (0 : Int) ≤ (i : Int) := by omega
      have hi2 : (i : Int) < (n : Int) := by omega
      obtain ⟨kk1, g1, q1', b1', i1, n1'⟩ := o
      simp only at *
      generalize q1'.length = ql1 at *
      go_wp2_with fail
      clear x0 x1 x2
      refine wp_region_quiet (C := fun W => Below wr.heap.size wr W) (by kernel_rfl) (by kernel_rfl) (below_drewN (Below.refl _ _) 1) ?_
      repeat
        refine wpQuiet_step (fun K hK => ?_)
        go_simp
        first
          | (refine hK _ ?_; clear hK K)
          | (apply Exists.intro
             refine ⟨fun W hW => ?_, hK _ ?_⟩
             first
               | ((with_reducible refine Calls.mono (HCo.out _ hW) ?_); rintro e x ⟨rfl, q⟩; exact ⟨rfl, hW.trans (q.mono hW.size)⟩)
               | (obtain ⟨⟨v0, v1, v2, v2'⟩, v3, ⟨r0, r1, r2, r3, r4, r5⟩⟩ := HXY.out W hW; go_simp; rfl)
             clear hK K)
      refine wpQuiet_nil ?_
      intro W hW
      have hbF := hbW.trans (hW.mono hbW.size)
      obtain ⟨⟨v0, v1, v2, v2'⟩, -⟩ := HXY.out W hW
      clear HXY
      cases mb with
      | true =>
        have HY2 := hide (HSt.out rfl)
        clear HSt HNo
        go_wp2_with fail
        go_roundw
        case rel => exact ⟨i + 1, by go_num, by omega, HY2, hbF⟩
        case measure => simp [Go.RowKit.intOf]; omega
      | false =>
        have HN2 := hide (HNo.out rfl)
        clear HSt HNo
        go_wp2_with fail
        go_ret2
        exact ⟨by rw [HN2.out]; rfl, HB0.out.trans (hbF.mono HB0.out.size)⟩
    · obtain rfl : n = i := by omega
      have hz : R = (0, 0) := by
        have hA := HA.out
        rw [List.take_of_length_le (by rw [HL.out]; exact Nat.le_refl _)] at hA
        rw [← HR.out, badI_none q b 0 ops hA]
      subst hz
      go_wp2_with fail
      go_ret2
      exact ⟨rfl, hb⟩
set_option maxRecDepth 100000 in
set_option maxHeartbeats 1000000 in
theorem eMay (c : Circ) (ao : Option Addr) (k : Nat) (w : World) (hC : Ci w c ao k) : Calls Tryz.prog 62 #[cV c ao k] w fun e w' => e = .returned (.bool ((chkC c).2 == 0)) ∧ Below w.heap.size w w' := by
  have c1 := fun V (h : Below w.heap.size w V) => eCheck c ao k V (hC.below h)
  obtain ⟨q, b, ops⟩ := c
  unfold cV at *
  simp only at *
  generalize (chkC ⟨q, b, ops⟩).1 = z1 at *
  generalize (chkC ⟨q, b, ops⟩).2 = z2 at *
  generalize ops.length = n at *
  clear hC
  go_enter Tryz.func62, Tryz.ntmps62
  go_wp2_with (first | (go_at_call 10; refine (c1 _ (bnew _ _)).mono ?_; rintro e w1 ⟨rfl, hb1⟩))
  go_ret
  exact ⟨rfl, (bnew _ _).trans (hb1.mono (by simp))⟩
end Go.Proofs.YtkbodljmkhnebaaGreatDoor.Cir
/- The document's qubits. -/
namespace Go.Proofs.YtkbodljmkhnebaaGreatDoor.Cir
open Go.RowKit Go.Shelf Go.Proofs.YtkbodljmkhnebaaGreatDoor.Oct Go.Proofs.YtkbodljmkhnebaaGreatDoor.Tok Go.Proofs.YtkbodljmkhnebaaGreatDoor.Gt

theorem join_snoc (sep y : List UInt8) : ∀ xs : List (List UInt8), xs ≠ [] → Lib.join (xs ++ [y]) sep = Lib.join xs sep ++ sep ++ y
  | [], h => absurd rfl h
  | [x], _ => by simp [Lib.join, List.intercalate]
  | x :: z :: r, _ => by
    have ih := join_snoc sep y (z :: r) (by simp)
    have e1 : Lib.join (x :: z :: r) sep = x ++ sep ++ Lib.join (z :: r) sep := by simp [Lib.join, List.intercalate]
    have e2 : Lib.join ((x :: z :: r) ++ [y]) sep = x ++ sep ++ Lib.join ((z :: r) ++ [y]) sep := by simp [Lib.join, List.intercalate]
    rw [e1, e2, ih]
    simp
theorem join_end (sep : List UInt8) : ∀ xs : List (List UInt8), xs ≠ [] → Lib.join xs sep ++ sep = xs.flatMap (· ++ sep)
  | [], h => absurd rfl h
  | [x], _ => by simp [Lib.join, List.intercalate]
  | x :: z :: r, _ => by
    have ih := join_end sep (z :: r) (by simp)
    have e1 : Lib.join (x :: z :: r) sep = x ++ sep ++ Lib.join (z :: r) sep := by simp [Lib.join, List.intercalate]
    rw [e1, List.flatMap_cons, List.append_assoc, ih]
theorem ag_zero (z : Int) : agP [z] = [113, 91] ++ Lib.itoa z ++ [93] := by simp [agP, Lib.join, List.intercalate, elP]
theorem ag_snoc (l : List Int) (z : Int) (h : l ≠ []) : agP (l ++ [z]) = agP l ++ [44, 32] ++ [113, 91] ++ Lib.itoa z ++ [93] := by
  unfold agP
  rw [List.map_append, List.map_cons, List.map_nil, join_snoc _ _ _ (by simpa using h)]
  simp [elP]
set_option maxRecDepth 100000 in
set_option maxHeartbeats 2000000 in
theorem eQubits (l : List Int) (ao : Option Addr) (c : Nat) (hl : l.length ≤ 1000000) (hq : ∀ z ∈ l, In64 z) (w : World) (h10 : T10 w) (hN : Ns w ao l) : Calls Tryz.prog 65 #[.slice ao l.length c] w fun e w' => e = .returned (.string ⟨(agP l).toArray⟩) ∧ Below w.heap.size w w' := by
  have HN := hide hN
  have HQ := hide hq
  have H10 := hide h10
  obtain ⟨n, hn⟩ : ∃ n, l.length = n := ⟨_, rfl⟩
  have HL := hide hn
  obtain ⟨R, hR⟩ : ∃ R, (⟨(agP l).toArray⟩ : ByteArray) = R := ⟨_, rfl⟩
  have HR := hide hR
  rw [hn, hR]
  rw [hn] at hl
  clear hN hq h10 hn hR
  go_enter Tryz.func65, Tryz.ntmps65
  go_wp2_with fail
  go_loopw [3, 4] (fun vs vi wr => ∃ (i : Nat) (sb : ByteArray), vs = .string sb ∧ vi = .int .i64 (i : Int) ∧ i ≤ n ∧ sb.size ≤ 30 * i ∧ Hid (sb = ⟨(agP (l.take i)).toArray⟩) ∧ Below w.heap.size w wr) (fun _ vi _ => n - (Go.RowKit.intOf vi).toNat)
  case atStart => exact ⟨0, ⟨#[]⟩, rfl, rfl, Nat.zero_le _, Nat.le_refl _, hide rfl, Below.refl _ _⟩
  case round =>
    obtain ⟨i, sb, rfl, rfl, hi, hsz, HS, hb⟩ := hrel
    by_cases h : i < n
    · have hd : decide ((i : Int) < (n : Int)) = true := decide_eq_true (by omega)
      obtain ⟨z, hz⟩ : ∃ z, l[i]? = some z := ⟨_, List.getElem?_eq_getElem (by rw [HL.out]; exact h)⟩
      obtain ⟨g, off, rfl, hcs⟩ := (HN.out.below hb).resolve_left (fun e => by rw [e] at hz; simp at hz)
      have hcell := hcs i z hz
      have hin := HQ.out z (List.mem_of_getElem? hz)
      have c1 := nItoa z hin.1 hin.2 wr (H10.out.below hb)
      have hil : (Lib.itoa z).length ≤ 21 := Lib.itoa_length_le z hin.1 hin.2
      have zi := ba_size (Lib.itoa z)
      have htk : l.take (i + 1) = l.take i ++ [z] := by rw [List.take_add_one, hz]; rfl
      have hii : (i : Int) < (n : Int) := by omega
      by_cases h0 : i = 0
      · have htk0 : l.take i = [] := by rw [h0]; rfl
        have e2 : sb ++ ⟨#[113, 91]⟩ = ⟨[113, 91].toArray⟩ := by rw [HS.out, htk0]; rfl
        have e3 := cat_str [113, 91] (Lib.itoa z)
        have e4 : (⟨([113, 91] ++ Lib.itoa z).toArray⟩ : ByteArray) ++ ⟨#[93]⟩ = ⟨(agP (l.take (i + 1))).toArray⟩ := by
          rw [htk, htk0, List.nil_append, ag_zero]
          exact cat_str ([113, 91] ++ Lib.itoa z) [93]
        have s2 := ba_size [113, 91]
        have s3 := ba_size ([113, 91] ++ Lib.itoa z)
        have s4 : (⟨(agP (l.take (i + 1))).toArray⟩ : ByteArray).size ≤ 30 := by
          rw [← e4, ByteArray.size_append, s3, List.length_append]
          show _ + 1 ≤ 30
          simp only [List.length_cons, List.length_nil]
          omega
        simp only [List.length_append, List.length_cons, List.length_nil] at s2 s3
        generalize h4 : (⟨(agP (l.take (i + 1))).toArray⟩ : ByteArray) = t4 at e4 s4
        have HF := hide h4
        generalize (⟨([113, 91] ++ Lib.itoa z).toArray⟩ : ByteArray) = t3 at *
        generalize (⟨[113, 91].toArray⟩ : ByteArray) = t2 at *
        generalize (⟨(Lib.itoa z).toArray⟩ : ByteArray) = ib at *
        generalize (Lib.itoa z).length = il at *
        have d0 : decide ((i : Int) > 0) = false := decide_eq_false (by omega)
        have d1 : decide ((0 : Int) < (i : Int)) = false := decide_eq_false (by omega)
        have d2 : decide (0 < i) = false := decide_eq_false (by omega)
        have HI := hide h0
        clear h4 htk htk0 hcs hz HS h0
        go_wp2_with (first | (go_at_call 63; refine c1.mono ?_; rintro e w1 ⟨rfl, hb1⟩))
        go_roundw
        case rel => exact ⟨i + 1, t4, rfl, by go_num, by omega, by omega, hide HF.out.symm, hb.trans (hb1.mono hb.size)⟩
        case measure => simp [Go.RowKit.intOf]; omega
      · obtain ⟨A, hA⟩ : ∃ A, agP (l.take i) = A := ⟨_, rfl⟩
        have hsA : sb.size = A.length := by rw [HS.out, ba_size, hA]
        have e1 : sb ++ ⟨#[44, 32]⟩ = ⟨(A ++ [44, 32]).toArray⟩ := by rw [HS.out, hA]; exact cat_str A [44, 32]
        have e2 : (⟨(A ++ [44, 32]).toArray⟩ : ByteArray) ++ ⟨#[113, 91]⟩ = ⟨(A ++ [44, 32] ++ [113, 91]).toArray⟩ := cat_str (A ++ [44, 32]) [113, 91]
        have e3 := cat_str (A ++ [44, 32] ++ [113, 91]) (Lib.itoa z)
        have e4 : (⟨(A ++ [44, 32] ++ [113, 91] ++ Lib.itoa z).toArray⟩ : ByteArray) ++ ⟨#[93]⟩ = ⟨(agP (l.take (i + 1))).toArray⟩ := by
          rw [htk, ag_snoc _ _ (fun e => h0 (by have := congrArg List.length e; rw [List.length_take, HL.out] at this; simp at this; omega)), hA]
          exact cat_str (A ++ [44, 32] ++ [113, 91] ++ Lib.itoa z) [93]
        have s1 := ba_size (A ++ [44, 32])
        have s2 := ba_size (A ++ [44, 32] ++ [113, 91])
        have s3 := ba_size (A ++ [44, 32] ++ [113, 91] ++ Lib.itoa z)
        have s4 : (⟨(agP (l.take (i + 1))).toArray⟩ : ByteArray).size ≤ sb.size + 30 := by
          rw [← e4, ByteArray.size_append, s3, hsA]
          show _ + 1 ≤ _
          simp only [List.length_append, List.length_cons, List.length_nil]
          omega
        simp only [List.length_append, List.length_cons, List.length_nil] at s1 s2 s3
        rw [← hsA] at s1 s2 s3
        generalize h4 : (⟨(agP (l.take (i + 1))).toArray⟩ : ByteArray) = t4 at e4 s4
        have HF := hide h4
        generalize (⟨(A ++ [44, 32] ++ [113, 91] ++ Lib.itoa z).toArray⟩ : ByteArray) = t3 at *
        generalize (⟨(A ++ [44, 32] ++ [113, 91]).toArray⟩ : ByteArray) = t2 at *
        generalize (⟨(A ++ [44, 32]).toArray⟩ : ByteArray) = t1 at *
        generalize (⟨(Lib.itoa z).toArray⟩ : ByteArray) = ib at *
        generalize (Lib.itoa z).length = il at *
        have d0 : decide ((i : Int) > 0) = true := decide_eq_true (by omega)
        have d1 : decide ((0 : Int) < (i : Int)) = true := decide_eq_true (by omega)
        have d2 : decide (0 < i) = true := decide_eq_true (by omega)
        clear h4 htk hcs hz HS hA hsA
        go_wp2_with (first | (go_at_call 63; refine c1.mono ?_; rintro e w1 ⟨rfl, hb1⟩))
        go_roundw
        case rel => exact ⟨i + 1, t4, rfl, by go_num, by omega, by omega, hide HF.out.symm, hb.trans (hb1.mono hb.size)⟩
        case measure => simp [Go.RowKit.intOf]; omega
    · obtain rfl : n = i := by omega
      have hf : sb = R := by
        rw [HS.out, ← HR.out, List.take_of_length_le (by rw [HL.out]; exact Nat.le_refl _)]
      subst hf
      go_wp2_with fail
      go_ret
      exact ⟨rfl, hb⟩
end Go.Proofs.YtkbodljmkhnebaaGreatDoor.Cir
/- The document's Print (gen_dj8.py). -/
namespace Go.Proofs.YtkbodljmkhnebaaGreatDoor.Cir
open Go.RowKit Go.Shelf Go.Proofs.YtkbodljmkhnebaaGreatDoor.Oct Go.Proofs.YtkbodljmkhnebaaGreatDoor.Tok Go.Proofs.YtkbodljmkhnebaaGreatDoor.Gt

theorem bel_on {w V U : World} (h1 : Below w.heap.size w V) (h2 : Below V.heap.size V U) : Below w.heap.size w U := h1.trans (h2.mono h1.size)
/-- What every text begins with. -/
def hdL : List UInt8 := [79, 80, 69, 78, 81, 65, 83, 77, 32, 50, 46, 48, 59, 10, 105, 110, 99, 108, 117, 100, 101, 32, 34, 113, 101, 108, 105, 98, 49, 46, 105, 110, 99, 34, 59, 10]
theorem hdL_len : hdL.length = 36 := rfl
theorem chkC_80 (c : Circ) (h : (chkC c).2 ≠ 0) : (chkC c).2 = 80 := by
  unfold chkC at h ⊢
  split
  · rfl
  · rename_i hn
    rw [if_neg hn] at h
    split
    · rfl
    · rename_i hb
      rw [hb] at h
      exact absurd rfl h
theorem may_kind {q b : Int} {o : COp} (h : mayP q b o = true) : o.kind = 1 ∧ (o.cond = -1 ∨ 0 ≤ o.cond) ∨ o.kind = 2 ∨ o.kind = 3 ∨ o.kind = 4 := by
  unfold mayP at h
  split at h
  · rename_i hk
    simp only [Bool.and_eq_true, decide_eq_true_eq, Bool.or_eq_true] at h
    refine .inl ⟨hk, ?_⟩
    rcases h.2 with h3 | h3
    · unfold freeP at h3
      simp only [Bool.and_eq_true, decide_eq_true_eq] at h3
      exact .inl h3.1
    · unfold askP at h3
      rw [Bool.and_eq_true] at h3
      exact .inr (wi_in h3.1).1
  · split at h
    · rename_i hk; exact .inr (.inl hk)
    · split at h
      · rename_i hk; exact .inr (.inr (.inl hk))
      · split at h
        · rename_i hk; exact .inr (.inr (.inr hk))
        · cases h
set_option maxRecDepth 100000 in
set_option maxHeartbeats 1000000 in
theorem ePrint_no (c : Circ) (ao : Option Addr) (k : Nat) (hk : (chkC c).2 ≠ 0) (w : World) (hC : Ci w c ao k) : Calls Tryz.prog 28 #[cV c ao k] w fun e w' => e = .returned (.tuple #[.string ⟨#[]⟩, .int .i64 80]) ∧ Below w.heap.size w w' := by
  have c1 := fun V (h : Below w.heap.size w V) => eMay c ao k V (hC.below h)
  rw [show ((chkC c).2 == 0) = false by simpa using hk] at c1
  obtain ⟨q, b, ops⟩ := c
  unfold cV at *
  simp only at *
  generalize ops.length = n at *
  clear hC hk
  go_enter Tryz.func28, Tryz.ntmps28
  go_wp2_with (first | (go_at_call 62; refine (c1 _ (bnew _ _)).mono ?_; rintro e w1 ⟨rfl, hb1⟩))
  go_ret2
  exact ⟨rfl, (bnew _ _).trans (hb1.mono (by simp))⟩
end Go.Proofs.YtkbodljmkhnebaaGreatDoor.Cir
