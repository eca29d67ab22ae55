import Derived.Test.YtjiopaojhenanaaGreatDoorWned483cc1
namespace Go.Proofs.YtjiopaojhenanaaGreatDoor.Cir
end Go.Proofs.YtjiopaojhenanaaGreatDoor.Cir
namespace Go.Proofs.YtjiopaojhenanaaGreatDoor.Gt
end Go.Proofs.YtjiopaojhenanaaGreatDoor.Gt
namespace Go.Proofs.YtjiopaojhenanaaGreatDoor.Oct
end Go.Proofs.YtjiopaojhenanaaGreatDoor.Oct
namespace Go.Proofs.YtjiopaojhenanaaGreatDoor.Tok
end Go.Proofs.YtjiopaojhenanaaGreatDoor.Tok
set_option maxRecDepth 100000
set_option maxHeartbeats 2000000
namespace Go.Proofs.YtjiopaojhenanaaGreatDoor.Rwt
open Go.RowKit Go.Shelf Go.Proofs.YtjiopaojhenanaaGreatDoor.Oct Go.Proofs.YtjiopaojhenanaaGreatDoor.Tok Go.Proofs.YtjiopaojhenanaaGreatDoor.Gt Go.Proofs.YtjiopaojhenanaaGreatDoor.Cir
theorem rLinear_no (c : Circ) (ao : Option Addr) (k : Nat) (hk : (chkC c).2 ≠ 0) (w : World) (hT : Tb w) (hC : Ci w c ao k) : Calls Tryz.prog 4 #[cV c ao k] w fun e w' => e = .returned (.tuple #[.slice none 0 0, .int .i64 (chkC c).2]) /\ Below w.heap.size w w' := by
  have c1 := fun V (h : Below w.heap.size w V) => cCheck c ao k V (hT.below h) (hC.below h)
  obtain ⟨q, b, ops⟩ := c
  unfold cV at *
  simp only at *
  generalize ops.length = n at *
  obtain ⟨z2, hz2⟩ : ∃ z, (chkC ⟨q, b, ops⟩).2 = z := ⟨_, rfl⟩
  rw [hz2] at hk c1 ⊢
  have hd : (z2 == 0) = false := beq_eq_false_iff_ne.2 hk
  have hd' : (z2 != 0) = true := by unfold bne; rw [hd]; rfl
  generalize (chkC ⟨q, b, ops⟩).1 = z1 at *
  clear hz2 hk hC hT
  have HB0 : Hid (Below w.heap.size w (w.alloc (.cells #[.int .i64 q, .int .i64 b, .slice ao n k] 24))) := hide ((Below.refl _ _).alloc (Nat.le_refl _) _)
  go_enter Tryz.func4, Tryz.ntmps4
  go_wp2_with fail
  refine (c1 _ HB0.out).mono ?_
  rintro e w1 ⟨rfl, hb1⟩
  have HW := hide (bkp HB0.out hb1)
  clear hb1 c1
  go_wp2_with fail
  go_ret2
  exact ⟨rfl, HW.out⟩
def lnI (q : Nat) : List Nat := (List.range q).map fun i => 1 <<< i
def lnL : List COp -> List Nat -> Option (List Nat)
  | [], rs => some rs
  | o :: l, rs => (lnS o rs).bind (lnL l)
theorem lnL_snoc (l : List COp) (o : COp) (rs : List Nat) : lnL (l ++ [o]) rs = (lnL l rs).bind (lnS o) := by
  induction l generalizing rs with
  | nil =>
    simp only [List.nil_append, lnL, Option.bind_some]
    cases lnS o rs <;> rfl
  | cons p l ih =>
    simp only [List.cons_append, lnL]
    cases lnS p rs with
    | none => rfl
    | some r => exact ih r
theorem lnL_none (l m : List COp) (rs : List Nat) (h : lnL l rs = none) : lnL (l ++ m) rs = none := by
  induction l generalizing rs with
  | nil => cases h
  | cons p l ih =>
    simp only [List.cons_append, lnL] at h ⊢
    cases e : lnS p rs with
    | none => rfl
    | some r => rw [e] at h; exact ih r h
theorem lnI_lt (q : Nat) (hq : q <= 64) : ∀ x ∈ lnI q, x < 18446744073709551616 := fun x hx => by
  obtain ⟨i, hi, rfl⟩ := List.mem_map.1 hx
  rw [List.mem_range] at hi
  rw [Nat.one_shiftLeft]
  exact (show (2 : Nat) ^ i < 2 ^ 64 from Nat.pow_lt_pow_right (by decide) (by omega))
def lnR (Q i : Nat) : List Nat := (lnI Q).take i ++ List.replicate (Q - i) 0
theorem lnI_len (Q : Nat) : (lnI Q).length = Q := by simp [lnI]
theorem lnR_len (Q i : Nat) (h : i <= Q) : (lnR Q i).length = Q := by simp [lnR, lnI_len]; omega
theorem lnR_set (Q i : Nat) (h : i < Q) : (lnR Q i).set i (1 <<< i) = lnR Q (i + 1) := by
  have h1 : ((lnI Q).take i).length = i := by simp [lnI_len]; omega
  obtain ⟨r, hr⟩ : ∃ r, Q - i = r + 1 := ⟨Q - i - 1, by omega⟩
  have h2 : (lnI Q)[i]? = some (1 <<< i) := by simp [lnI, h]
  unfold lnR
  rw [hr, show Q - (i + 1) = r by omega, List.set_append_right _ _ (by omega), h1, Nat.sub_self, List.replicate_succ, List.set_cons_zero, List.take_add_one, h2]
  simp
theorem lnR_all (Q : Nat) : lnR Q Q = lnI Q := by
  unfold lnR
  rw [Nat.sub_self, List.take_of_length_le (by rw [lnI_len]; exact Nat.le_refl _)]
  simp
def Sm18 (w : World) (G : Nat) (rs : List Nat) : Prop := w.heap[G]? = some (.cells (rs.map fun x => Value.int .u64 (x : Nat)).toArray 42 (0, 0))
theorem sm_made (w : World) (Q : Nat) : Sm18 (w.alloc (.cells (madeCells #[.int .u64 0] Q) 42)) w.heap.size (lnR Q 0) := by
  unfold Sm18
  rw [heap_alloc_new, made_rep]
  simp [lnR]
theorem Sm18.put {w : World} {G : Nat} {rs : List Nat} (h : Sm18 w G rs) (i x : Nat) : Sm18 (w.setCell ⟨G, i, none⟩ (.int .u64 (x : Nat))) G (rs.set i x) := by
  unfold Sm18 at *
  rw [setCell_eq_setRow _ _ _ _ _ _ _ h, setRow_heap _ _ _ _ _ _ h]
  simp [List.map_set]
theorem Sm18.cell {w : World} {G : Nat} {rs : List Nat} (h : Sm18 w G rs) {i x : Nat} (hi : rs[i]? = some x) : w.cell? ⟨G, i, none⟩ = some (.int .u64 (x : Nat)) /\ w.frozen? ⟨G, i, none⟩ = false /\ G < w.heap.size :=
  ⟨(cell_of_row _ _ _ _ _ _ h).trans (by simp [hi]), by simp [World.frozen?, show w.heap[G]? = _ from h], (Array.getElem?_eq_some_iff.1 h).1⟩
theorem bkp' {w w1 w2 : World} (h : Below w.heap.size w w1) (h2 : Below w1.heap.size w1 w2) : Below w.heap.size w w2 := h.trans (h2.mono h.size)
theorem kb_bel {B G : Nat} {w V V' : World} (h : Below B w V) (hk : Kb [G] V V') (hB : B <= G) (hs : B <= V.heap.size) : Below B w V' :=
  h.trans ⟨hk.os, hk.tape, hk.output, hk.size, fun k hl => hk.block k (by omega) (fun e => by have := List.mem_singleton.1 e; omega)⟩
theorem rLinear_ok (q b : Int) (ops : List COp) (ao : Option Addr) (k Q : Nat) (hk : (chkC ⟨q, b, ops⟩).2 = 0) (hq : q = (Q : Int)) (hQ : Q <= 64) (hok : ∀ o ∈ ops, lnOk o Q) (hl : ops.length <= 4096) (w : World) (hT : Tb w) (hC : Ci w ⟨q, b, ops⟩ ao k) : Calls Tryz.prog 4 #[cV ⟨q, b, ops⟩ ao k] w fun e w' =>
    (lnL ops (lnI Q) = none -> e = .returned (.tuple #[.slice none 0 0, .int .i64 180])) /\ (∀ rs, lnL ops (lnI Q) = some rs -> ∃ G, w.heap.size <= G /\ e = .returned (.tuple #[.slice (some ⟨G, 0, none⟩) Q Q, .int .i64 0]) /\ Sm18 w' G rs) /\ Below w.heap.size w w' := by
  subst hq
  have c1 := fun V (h : Below w.heap.size w V) => cCheck ⟨Q, b, ops⟩ ao k V (hT.below h) (hC.below h)
  have hmk := run_make_row' (P := Tryz.prog) 25 42 (.int .u64 0) 8 Tryz.underlying25 infoU18 rfl .i64 .i64 Q (by omega) (by omega)
  have HO := hide hC.ops
  have HOK := hide hok
  unfold cV at *
  simp only at *
  obtain ⟨n, hn⟩ : ∃ n, ops.length = n := ⟨_, rfl⟩
  have HL := hide hn
  rw [hn] at hl c1 ⊢
  rw [hk] at c1
  generalize (chkC ⟨Q, b, ops⟩).1 = z1 at *
  clear hk hC hT hok hn
  have HB0 : Hid (Below w.heap.size w (w.alloc (.cells #[.int .i64 Q, .int .i64 b, .slice ao n k] 24))) := hide ((Below.refl _ _).alloc (Nat.le_refl _) _)
  have HN0 : Hid ((w.alloc (.cells #[.int .i64 Q, .int .i64 b, .slice ao n k] 24)).heap[w.heap.size]? = some (.cells #[.int .i64 Q, .int .i64 b, .slice ao n k] 24 (0, 0))) := hide (heap_alloc_new _ _)
  go_enter Tryz.func4, Tryz.ntmps4
  go_wp2_with fail
  refine (c1 _ HB0.out).mono ?_
  rintro e w1 ⟨rfl, hb1⟩
  have m1 := (hb1.block w.heap.size (by simp)).trans HN0.out
  obtain ⟨x0, x1, x2, x3⟩ := def_cells m1
  have HM := hide m1
  have HW := hide (bkp HB0.out hb1)
  clear hb1 c1 m1 HB0 HN0
  have HMK := hide (sm_made w1 Q)
  have HMB := hide (bnew w1 (.cells (madeCells #[.int .u64 0] Q) 42))
  go_wp2_with fail
  go_loopw [7, 22] (fun _ vi wr => ∃ i : Nat, vi = .int .i64 (i : Int) /\ i <= Q /\ Hid (Sm18 wr w1.heap.size (lnR Q i)) /\ Hid (Below w1.heap.size w1 wr)) (fun _ vi _ => Q - (Go.RowKit.intOf vi).toNat)
  case atStart => exact ⟨0, rfl, Nat.zero_le _, HMK, HMB⟩
  case round =>
    obtain ⟨i, rfl, hi, HS, HB⟩ := hrel
    by_cases h : i < Q
    . have hd : decide ((i : Int) < (Q : Int)) = true := decide_eq_true (by omega)
      obtain ⟨x, hx⟩ : ∃ x, (lnR Q i)[i]? = some x := ⟨_, List.getElem?_eq_getElem (by rw [lnR_len _ _ hi]; exact h)⟩
      obtain ⟨y0, yf, yl⟩ := HS.out.cell hx
      have e1 := sh64 i (by omega)
      have HS2 : Hid (∀ J : Nat, J = 1 <<< i -> Sm18 (wr.setCell ⟨w1.heap.size, i, none⟩ (.int .u64 (J : Nat))) w1.heap.size (lnR Q (i + 1))) := hide (fun J hJ => by
        have := HS.out.put i (1 <<< i)
        rw [lnR_set Q i h] at this
        rw [hJ]
        exact this)
      obtain ⟨J, hJ⟩ : ∃ J : Nat, J = 1 <<< i := ⟨_, rfl⟩
      have HJ := hide (HS2.out J hJ)
      rw [← hJ] at e1
      clear hx HS2 hJ HS
      go_wp2_with fail
      go_roundw
      case rel => exact ⟨i + 1, by go_num, by omega, HJ, hide (HB.out.setCell (p := ⟨w1.heap.size, i, none⟩) (Nat.le_refl _) _)⟩
      case measure => simp [Go.RowKit.intOf]; omega
    . obtain rfl : Q = i := by omega
      have hd : decide ((Q : Int) < (Q : Int)) = false := decide_eq_false (by omega)
      have m2 := (HB.out.block w.heap.size x3).trans HM.out
      obtain ⟨y0, y1, y2, y3⟩ := def_cells m2
      have HSI : Hid (Sm18 wr w1.heap.size (lnI Q)) := hide (by rw [← lnR_all]; exact HS.out)
      clear HS m2
      go_wp2_with fail
      go_loopw [8, 34] (fun _ vi wq => ∃ i : Nat, vi = .int .i64 (i : Int) /\ i <= n /\ Hid (∃ rs, lnL (ops.take i) (lnI Q) = some rs /\ Sm18 wq w1.heap.size rs /\ rs.length = Q /\ ∀ x ∈ rs, x < 18446744073709551616) /\ Hid (Below w1.heap.size w1 wq)) (fun _ vi _ => n - (Go.RowKit.intOf vi).toNat)
      case atStart => exact ⟨0, rfl, Nat.zero_le _, hide ⟨lnI Q, by simp [lnL], HSI.out, lnI_len Q, lnI_lt Q hQ⟩, HB⟩
      case round =>
        obtain ⟨i, rfl, hi, HR, HB2⟩ := hrel
        have m3 := (HB2.out.block w.heap.size x3).trans HM.out
        obtain ⟨t0, t1, t2, t3⟩ := def_cells m3
        have HBW := hide (bkp' HW.out HB2.out)
        clear m3
        by_cases h : i < n
        . have hd : decide ((i : Int) < (n : Int)) = true := decide_eq_true (by omega)
          have hii : (i : Int) < (n : Int) := by omega
          obtain ⟨o, ho⟩ : ∃ o, ops[i]? = some o := ⟨_, List.getElem?_eq_getElem (by rw [HL.out]; exact h)⟩
          obtain ⟨g, off, aq, cq, rfl, hgl0, hoc0⟩ := HO.out.at ho
          have hoc := hoc0.below HBW.out
          have hgl : g < wr.heap.size := Nat.lt_of_lt_of_le hgl0 HBW.out.size
          obtain ⟨rs, hrs, hsm, hlen, hlt⟩ := HR.out
          have cA := rAdds g (off + i * 6) o aq cq w1.heap.size Q Q rs hlen hlt (HOK.out o (List.mem_of_getElem? ho)) wr hoc hsm
          have hts : ops.take (i + 1) = ops.take i ++ [o] := by rw [List.take_add_one, ho]; rfl
          cases eS : lnS o rs with
          | none =>
            rw [eS] at cA
            have HF : Hid (lnL ops (lnI Q) = none) := hide (by
              have h1 : lnL (ops.take (i + 1)) (lnI Q) = none := by rw [hts, lnL_snoc, hrs]; exact eS
              have h2 := lnL_none _ (ops.drop (i + 1)) _ h1
              rwa [List.take_append_drop] at h2)
            clear hoc hoc0 ho hrs hsm hlen hlt hts eS HR
            go_wp2_with (go_at_call 13; (with_reducible refine Calls.mono cA ?_); rintro e w2 ⟨rfl, q1, q2⟩)
            have hbb := kb_bel HBW.out q2 (by omega) (by omega)
            go_ret2
            exact ⟨fun _ => rfl, fun rs' h' => (by rw [HF.out] at h'; cases h'), hbb⟩
          | some rs' =>
            rw [eS] at cA
            have HF : Hid (lnL (ops.take (i + 1)) (lnI Q) = some rs' /\ rs'.length = Q /\ ∀ x ∈ rs', x < 18446744073709551616) := hide ⟨by rw [hts, lnL_snoc, hrs]; exact eS, (lnS_len eS).trans hlen, lnS_lt eS hlt⟩
            clear hoc hoc0 ho hrs hsm hlen hlt hts eS HR
            go_wp2_with (go_at_call 13; (with_reducible refine Calls.mono cA ?_); rintro e w2 ⟨rfl, q1, q2⟩)
            have HQ1 : Hid (Sm18 w2 w1.heap.size rs') := hide q1
            have HQ2 := hide (kb_bel HB2.out q2 (Nat.le_refl _) HB2.out.size)
            clear q1 q2
            go_roundw
            case rel => exact ⟨i + 1, by go_num, by omega, hide ⟨rs', HF.out.1, HQ1.out, HF.out.2.1, HF.out.2.2⟩, HQ2⟩
            case measure => simp [Go.RowKit.intOf]; omega
        . obtain rfl : n = i := by omega
          have hd : decide ((n : Int) < (n : Int)) = false := decide_eq_false (by omega)
          go_wp2_with fail
          go_ret2
          obtain ⟨rs, hrs, hsm, -, -⟩ := HR.out
          rw [← HL.out, List.take_length] at hrs
          refine ⟨fun h' => (by rw [hrs] at h'; cases h'), fun rs' h' => ?_, HBW.out⟩
          rw [hrs] at h'
          cases h'
          exact ⟨w1.heap.size, HW.out.size, rfl, hsm⟩
theorem shr_and (x c : Nat) (hx : x < 18446744073709551616) : bits .and .u64 ((x / 2 ^ c : Nat) : Int) 1 = ((x / 2 ^ c % 2 : Nat) : Int) := by
  have h := u64_and_nat (x / 2 ^ c) 1 (Nat.lt_of_le_of_lt (Nat.div_le_self _ _) hx) (by decide)
  rw [Nat.and_one_is_mod] at h
  exact h
theorem rw_q2 : (rw' (11 : Int)).q = 2 /\ (rw' (14 : Int)).q = 2 := by decide +kernel
theorem ln_ok {q b : Int} {Q : Nat} {o : COp} (hq : q = (Q : Int)) (h : mayP q b o = true) : lnOk o Q := by
  intro hg hk
  have hr := (may_rng h).1
  unfold mayP at h
  rw [if_pos hk, Bool.and_eq_true, Bool.and_eq_true, decide_eq_true_eq] at h
  have hc := h.1.1
  unfold chkP at hc
  split at hc
  . cases hc
  . split at hc
    . cases hc
    . rename_i ha
      have ha' : apP (rw' o.gate).q o.qs = true := by simpa using ha
      unfold apP at ha'
      rw [Bool.and_eq_true, decide_eq_true_eq] at ha'
      have hl : o.qs.length = 2 := by
        have := ha'.1
        rcases hg with e | e
        . rw [e, rw_q2.1] at this; omega
        . rw [e, rw_q2.2] at this; omega
      have hap := ha'.2
      match hqs : o.qs, hl with
      | [x, y], _ =>
        rw [hqs] at hr hap
        have hx := hr x (by simp)
        have hy := hr y (by simp)
        refine ⟨x.toNat, y.toNat, ?_, by omega, by omega, fun e => ?_⟩
        . rw [Int.toNat_of_nonneg hx.1, Int.toNat_of_nonneg hy.1]
        . have exy : x = y := by omega
          subst exy
          simp [apG] at hap
def liP (c : Circ) : Option (List Nat) := lnL c.ops (lnI c.q.toNat)
theorem rLinear (c : Circ) (ao : Option Addr) (k : Nat) (w : World) (hT : Tb w) (hC : Ci w c ao k) : Calls Tryz.prog 4 #[cV c ao k] w fun e w' =>
    ((chkC c).2 ≠ 0 -> e = .returned (.tuple #[.slice none 0 0, .int .i64 (chkC c).2])) /\ ((chkC c).2 = 0 -> (liP c = none -> e = .returned (.tuple #[.slice none 0 0, .int .i64 180])) /\ ∀ rs, liP c = some rs -> ∃ G, w.heap.size <= G /\ e = .returned (.tuple #[.slice (some ⟨G, 0, none⟩) c.q.toNat c.q.toNat, .int .i64 0]) /\ Sm18 w' G rs) /\ Below w.heap.size w w' := by
  by_cases hk : (chkC c).2 = 0
  . obtain ⟨q, b, ops⟩ := c
    obtain ⟨h1, h2, -, -, h5, h6⟩ := chkC_ok hk
    simp only at h1 h2 h5 h6
    have hq : q = (q.toNat : Int) := by omega
    refine Calls.mono (rLinear_ok q b ops ao k q.toNat hk hq (by omega) (fun o ho => ln_ok hq (h6 o ho)) h5 w hT hC) ?_
    rintro e w' ⟨k1, k2, k3⟩
    exact ⟨fun h => absurd hk h, fun _ => ⟨k1, k2⟩, k3⟩
  . refine Calls.mono (rLinear_no c ao k hk w hT hC) ?_
    rintro e w' ⟨k1, k2⟩
    exact ⟨fun _ => k1, fun h => absurd h hk, k2⟩
end Go.Proofs.YtjiopaojhenanaaGreatDoor.Rwt
