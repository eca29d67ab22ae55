import Derived.Test.YtjiopaojhenanaaGreatDoorWn07451c4c
import Derived.Test.YtjiopaojhenanaaGreatDoorWn41e5354e
namespace Go.Proofs.YtjiopaojhenanaaGreatDoor.Gt
end Go.Proofs.YtjiopaojhenanaaGreatDoor.Gt
namespace Go.Proofs.YtjiopaojhenanaaGreatDoor.Oct
end Go.Proofs.YtjiopaojhenanaaGreatDoor.Oct
namespace Go.Proofs.YtjiopaojhenanaaGreatDoor.Tok
end Go.Proofs.YtjiopaojhenanaaGreatDoor.Tok
set_option maxRecDepth 100000
set_option maxHeartbeats 8000000
namespace Go.Proofs.YtjiopaojhenanaaGreatDoor.Cir
open Go.RowKit Go.Shelf Go.Proofs.YtjiopaojhenanaaGreatDoor.Oct Go.Proofs.YtjiopaojhenanaaGreatDoor.Tok Go.Proofs.YtjiopaojhenanaaGreatDoor.Gt
theorem eUnlike (ao : Option Addr) (c : Nat) (l : List Int) (n : Int) (hl : l.length <= 1000000000000000) (w : World) (hN : Ns w ao l) : Calls Tryz.prog 91 #[.slice ao l.length c, .int .i64 n] w fun e w' => e = .returned (.bool (apaP l n)) /\ Below w.heap.size w w' := by
  obtain ⟨R, hR⟩ : ∃ R, apaP l n = R := ⟨_, rfl⟩
  rw [hR]
  have HN := hide hN
  have HR := hide hR
  obtain ⟨m, hm⟩ : ∃ m, l.length = m := ⟨_, rfl⟩
  have HL := hide hm
  rw [hm] at hl ⊢
  clear hN hR hm
  go_enter Tryz.func91, Tryz.ntmps91
  go_wp2_with fail
  go_loopw [5, 6] (fun vi _ wr => ∃ i : Nat, vi = .int .i64 (i : Int) /\ i <= m /\ Hid (apaN l n i) /\ Below w.heap.size w wr) (fun vi _ _ => m - (Go.RowKit.intOf vi).toNat)
  case atStart => exact ⟨0, rfl, by omega, hide (fun j x hj => by omega), Below.refl _ _⟩
  case round =>
    obtain ⟨i, rfl, hi, HA, hb⟩ := hrel
    by_cases h : i < m
    . have hd : decide ((i : Int) < (m : Int)) = true := decide_eq_true (by omega)
      have hlt : i < l.length := by rw [HL.out]; exact h
      obtain ⟨z, hz⟩ : ∃ z, l[i]? = some z := ⟨_, List.getElem?_eq_getElem hlt⟩
      obtain ⟨g, off, rfl, hcs⟩ := (HN.out.below hb).resolve_left (fun e => by rw [e] at hz; simp at hz)
      have hcell := hcs i z hz
      have HSt : Hid (wiP z n = true -> z ∉ l.take i -> apaN l n (i + 1)) := hide (fun a b => apaN_step HA.out hz a b)
      have HNo : Hid (wiP z n = false ∨ z ∈ l.take i -> R = false) := hide (fun a => by
        rw [← HR.out, Bool.eq_false_iff]
        intro e
        have hh := apaN_all.2 e i z hlt hz
        rcases a with a | a
        . rw [a] at hh; exact absurd hh.1 (by simp)
        . exact hh.2 a)
      clear hcs
      by_cases hz0 : z < 0
      . have hzd : decide (z < 0) = true := decide_eq_true hz0
        have HF : Hid (R = false) := hide (HNo.out (.inl (by unfold wiP; rw [decide_eq_false (show ¬ 0 <= z by omega)]; rfl)))
        clear HSt HNo
        go_wp2_with fail
        go_ret
        exact ⟨by rw [HF.out]; rfl, hb⟩
      . have hzd : decide (z < 0) = false := decide_eq_false hz0
        by_cases hzn : n <= z
        . have hz1 : decide (z ≥ n) = true := decide_eq_true hzn
          have hz2 : decide (n <= z) = true := decide_eq_true hzn
          have HF : Hid (R = false) := hide (HNo.out (.inl (by unfold wiP; rw [decide_eq_false (show ¬ z < n by omega)]; simp)))
          clear HSt HNo
          go_wp2_with fail
          go_ret
          exact ⟨by rw [HF.out]; rfl, hb⟩
        . have hz1 : decide (z ≥ n) = false := decide_eq_false hzn
          have hz2 : decide (n <= z) = false := decide_eq_false hzn
          have HW : Hid (wiP z n = true) := hide (by unfold wiP; rw [decide_eq_true (show 0 <= z by omega), decide_eq_true (show z < n by omega)]; rfl)
          clear hz0 hzn
          go_wp2_with fail
          go_loopw [6] (fun vj wi => ∃ j : Nat, vj = .int .i64 (j : Int) /\ j <= i /\ Hid (∀ t, t < j -> l[t]? ≠ some z) /\ Below w.heap.size w wi) (fun vj _ => i - (Go.RowKit.intOf vj).toNat)
          case atStart => exact ⟨0, rfl, by omega, hide (fun t ht => absurd ht (by omega)), hb⟩
          case round =>
            clear hcell hb
            obtain ⟨j, rfl, hj, HJ, hb⟩ := hrel
            obtain ⟨g', off', hgo, hcs⟩ := (HN.out.below hb).resolve_left (fun e => by rw [e] at hz; simp at hz)
            cases hgo
            have hcell := hcs i z hz
            by_cases hji : j < i
            . have hjd : decide ((j : Int) < (i : Int)) = true := decide_eq_true (by omega)
              obtain ⟨y, hy⟩ : ∃ y, l[j]? = some y := ⟨_, List.getElem?_eq_getElem (by omega)⟩
              have hcy := hcs j y hy
              have hiZ : (i : Int) < (m : Int) := by omega
              have hjZ : (j : Int) < (m : Int) := by omega
              clear hcs
              by_cases hzy : y = z
              . have hbz : (y == z) = true := by simpa using hzy
                have HF : Hid (R = false) := hide (HNo.out (.inr (by
                  rw [← hzy]
                  refine List.mem_of_getElem? (i := j) ?_
                  rw [List.getElem?_take, if_pos hji]
                  exact hy)))
                clear HSt HNo hzy hz hy
                go_wp2_with fail
                go_quiet (fail)
                go_wp2_with fail
                go_ret
                exact ⟨by rw [HF.out]; rfl, below_drewN hb _⟩
              . have hbz : (y == z) = false := by simpa using hzy
                have HJ2 : Hid (∀ t, t < j + 1 -> l[t]? ≠ some z) := hide (fun t ht => by
                  by_cases e : t = j
                  . rw [e, hy]; intro e'; cases e'; exact hzy rfl
                  . exact HJ.out t (by omega))
                clear HJ hzy hy
                go_wp2_with fail
                go_quiet (fail)
                go_wp2_with fail
                exact ⟨⟨j + 1, by go_num, by omega, HJ2, below_drewN hb _⟩, by simp [Go.RowKit.intOf]; omega⟩
            . obtain rfl : j = i := by omega
              have HF : Hid (apaN l n (j + 1)) := hide (HSt.out HW.out (by
                intro hmem
                obtain ⟨t, ht, e⟩ := List.getElem_of_mem hmem
                rw [List.length_take] at ht
                refine HJ.out t (by omega) ?_
                rw [List.getElem_take] at e
                rw [List.getElem?_eq_getElem (by omega), e]))
              clear HSt HNo HJ hcs hz
              go_wp2_with fail
              exact ⟨⟨j + 1, by go_num, by omega, HF, hb⟩, by simp [Go.RowKit.intOf]; omega⟩
    . obtain rfl : i = m := by omega
      have HF : Hid (R = true) := hide (by
        rw [← HR.out]
        refine apaN_all.1 ?_
        rw [HL.out]
        exact HA.out)
      go_wp2_with fail
      go_ret
      exact ⟨by rw [HF.out]; rfl, hb⟩
def mayG (kind gate : Int) (len : Nat) (bit cond whn b ck : Int) (ap : Bool) : Bool :=
  if kind = 1 then decide (ck = 0) && decide (bit = 0) && ((decide (cond = -1) && decide (whn = 0)) || (wiP cond b && wiP whn 2))
  else if kind = 2 then (decide (gate = 0) && (decide (cond = -1) && decide (whn = 0))) && decide (len = 1) && ap && wiP bit b
  else if kind = 3 then (decide (gate = 0) && (decide (cond = -1) && decide (whn = 0))) && decide (len = 1) && ap && decide (bit = 0)
  else if kind = 4 then (decide (gate = 0) && (decide (cond = -1) && decide (whn = 0))) && decide (0 < len) && ap && decide (bit = 0)
  else false
theorem may_G (q b : Int) (o : COp) : mayP q b o = mayG o.kind o.gate o.qs.length o.bit o.cond o.whn b (chkP o.gate o.qs q) (apaP o.qs q) := rfl
theorem eOp (o : COp) (aq : Option Addr) (cq : Nat) (q b : Int) (hl : o.qs.length <= 1000000000000000) (w : World) (hN : Ns w aq o.qs) : Calls Tryz.prog 63 #[opV o aq cq, .int .i64 q, .int .i64 b] w fun e w' => e = .returned (.bool (mayP q b o)) /\ Below w.heap.size w w' := by
  rw [may_G]
  have c1 := fun V (h : Below w.heap.size w V) => hCheck o.gate aq cq o.qs q hl V (hN.below h)
  have c2 := fun V (h : Below w.heap.size w V) => eUnlike aq cq o.qs q hl V (hN.below h)
  simp only [← chk_same] at c1
  obtain ⟨kind, gate, qs, bit, cond, whn⟩ := o
  unfold opV
  simp only at *
  generalize chkP gate qs q = ck at *
  generalize apaP qs q = ap at *
  obtain ⟨n, hn⟩ : ∃ n, qs.length = n := ⟨_, rfl⟩
  rw [hn] at c1 c2 hl ⊢
  clear hn hN
  have HB0 := hide (bnew w (.cells #[.int .i64 kind, .int .i64 gate, .slice aq n cq, .int .i64 bit, .int .i64 cond, .int .i64 whn] 49))
  have HK : Hid (∀ V, Below (w.alloc (.cells #[.int .i64 kind, .int .i64 gate, .slice aq n cq, .int .i64 bit, .int .i64 cond, .int .i64 whn] 49)).heap.size (w.alloc (.cells #[.int .i64 kind, .int .i64 gate, .slice aq n cq, .int .i64 bit, .int .i64 cond, .int .i64 whn] 49)) V -> V.cell? ⟨w.heap.size, 0, none⟩ = some (.int .i64 kind) /\ V.cell? ⟨w.heap.size, 1, none⟩ = some (.int .i64 gate) /\ V.cell? ⟨w.heap.size, 2, none⟩ = some (.slice aq n cq) /\ V.cell? ⟨w.heap.size, 3, none⟩ = some (.int .i64 bit) /\ V.cell? ⟨w.heap.size, 4, none⟩ = some (.int .i64 cond) /\ V.cell? ⟨w.heap.size, 5, none⟩ = some (.int .i64 whn) /\ w.heap.size < V.heap.size /\ Below w.heap.size w V) := hide (fun V hV => by
    obtain ⟨y0, y1, y2, y3, y4, y5, y6⟩ := op6_cells ((hV.block w.heap.size (by simp)).trans (heap_alloc_new w _))
    exact ⟨y0, y1, y2, y3, y4, y5, y6, (bnew _ _).trans (hV.mono (by simp))⟩)
  by_cases k1 : kind = 1
  . subst k1
    by_cases hc : cond = (-1)
    . have hct : True := trivial
      have hcb0 : (cond == (-1)) = true := by first | simpa using hc | (simp; omega)
      by_cases hw0 : whn = 0
      . have hw0t : True := trivial
        have hw0b0 : (whn == 0) = true := by first | simpa using hw0 | (simp; omega)
        by_cases hck : ck = 0
        . have hckt : True := trivial
          have hckb0 : (ck == 0) = true := by first | simpa using hck | (simp; omega)
          by_cases hbt : bit = 0
          . have hbtt : True := trivial
            have hbtb0 : (bit == 0) = true := by first | simpa using hbt | (simp; omega)
            have HR : Hid (mayG 1 gate n bit cond whn b ck ap = true) := hide (by unfold mayG wiP; first | (simp [*]; done) | (simp [*]; omega))
            clear hc hw0 hck hbt
            go_enter Tryz.func63, Tryz.ntmps63
            go_wp2_with (first | (go_at_call 90; (with_reducible refine Calls.mono (c1 _ HB0.out) ?_); rintro e w1 ⟨rfl, hb1⟩; obtain ⟨y0, y1, y2, y3, y4, y5, y6, hbw⟩ := HK.out w1 hb1))
            go_ret
            exact ⟨by rw [HR.out]; rfl, hbw⟩
          . have hbtt : True := trivial
            have hbtb0 : (bit == 0) = false := by first | simpa using hbt | (simp; omega)
            have HR : Hid (mayG 1 gate n bit cond whn b ck ap = false) := hide (by unfold mayG wiP; first | (simp [*]; done) | (simp [*]; omega))
            clear hc hw0 hck hbt
            go_enter Tryz.func63, Tryz.ntmps63
            go_wp2_with (first | (go_at_call 90; (with_reducible refine Calls.mono (c1 _ HB0.out) ?_); rintro e w1 ⟨rfl, hb1⟩; obtain ⟨y0, y1, y2, y3, y4, y5, y6, hbw⟩ := HK.out w1 hb1))
            go_ret
            exact ⟨by rw [HR.out]; rfl, hbw⟩
        . have hckt : True := trivial
          have hckb0 : (ck == 0) = false := by first | simpa using hck | (simp; omega)
          have HR : Hid (mayG 1 gate n bit cond whn b ck ap = false) := hide (by unfold mayG wiP; first | (simp [*]; done) | (simp [*]; omega))
          clear hc hw0 hck
          go_enter Tryz.func63, Tryz.ntmps63
          go_wp2_with (first | (go_at_call 90; (with_reducible refine Calls.mono (c1 _ HB0.out) ?_); rintro e w1 ⟨rfl, hb1⟩; obtain ⟨y0, y1, y2, y3, y4, y5, y6, hbw⟩ := HK.out w1 hb1))
          go_ret
          exact ⟨by rw [HR.out]; rfl, hbw⟩
      . have hw0t : True := trivial
        have hw0b0 : (whn == 0) = false := by first | simpa using hw0 | (simp; omega)
        by_cases hck : ck = 0
        . have hckt : True := trivial
          have hckb0 : (ck == 0) = true := by first | simpa using hck | (simp; omega)
          by_cases hbt : bit = 0
          . have hbtt : True := trivial
            have hbtb0 : (bit == 0) = true := by first | simpa using hbt | (simp; omega)
            have hcg : decide (cond ≥ 0) = false := by rw [hc]; rfl
            have hcg2 : decide (0 <= cond) = false := by rw [hc]; rfl
            have HR : Hid (mayG 1 gate n bit cond whn b ck ap = false) := hide (by unfold mayG wiP; first | (simp [*]; done) | (simp [*]; omega))
            clear hc hw0 hck hbt
            go_enter Tryz.func63, Tryz.ntmps63
            go_wp2_with (first | (go_at_call 90; (with_reducible refine Calls.mono (c1 _ HB0.out) ?_); rintro e w1 ⟨rfl, hb1⟩; obtain ⟨y0, y1, y2, y3, y4, y5, y6, hbw⟩ := HK.out w1 hb1))
            go_ret
            exact ⟨by rw [HR.out]; rfl, hbw⟩
          . have hbtt : True := trivial
            have hbtb0 : (bit == 0) = false := by first | simpa using hbt | (simp; omega)
            have HR : Hid (mayG 1 gate n bit cond whn b ck ap = false) := hide (by unfold mayG wiP; first | (simp [*]; done) | (simp [*]; omega))
            clear hc hw0 hck hbt
            go_enter Tryz.func63, Tryz.ntmps63
            go_wp2_with (first | (go_at_call 90; (with_reducible refine Calls.mono (c1 _ HB0.out) ?_); rintro e w1 ⟨rfl, hb1⟩; obtain ⟨y0, y1, y2, y3, y4, y5, y6, hbw⟩ := HK.out w1 hb1))
            go_ret
            exact ⟨by rw [HR.out]; rfl, hbw⟩
        . have hckt : True := trivial
          have hckb0 : (ck == 0) = false := by first | simpa using hck | (simp; omega)
          have HR : Hid (mayG 1 gate n bit cond whn b ck ap = false) := hide (by unfold mayG wiP; first | (simp [*]; done) | (simp [*]; omega))
          clear hc hw0 hck
          go_enter Tryz.func63, Tryz.ntmps63
          go_wp2_with (first | (go_at_call 90; (with_reducible refine Calls.mono (c1 _ HB0.out) ?_); rintro e w1 ⟨rfl, hb1⟩; obtain ⟨y0, y1, y2, y3, y4, y5, y6, hbw⟩ := HK.out w1 hb1))
          go_ret
          exact ⟨by rw [HR.out]; rfl, hbw⟩
    . have hct : True := trivial
      have hcb0 : (cond == (-1)) = false := by first | simpa using hc | (simp; omega)
      by_cases hck : ck = 0
      . have hckt : True := trivial
        have hckb0 : (ck == 0) = true := by first | simpa using hck | (simp; omega)
        by_cases hbt : bit = 0
        . have hbtt : True := trivial
          have hbtb0 : (bit == 0) = true := by first | simpa using hbt | (simp; omega)
          by_cases hcn : cond < 0
          . have hcnt : True := trivial
            have hcnb0 : decide (cond < 0) = true := by first | simpa using hcn | (simp; omega)
            have hcnb1 : decide (0 > cond) = true := by first | simpa using hcn | (simp; omega)
            have hcnb2 : decide (cond ≥ 0) = false := by first | simpa using hcn | (simp; omega)
            have hcnb3 : decide (0 <= cond) = false := by first | simpa using hcn | (simp; omega)
            have HR : Hid (mayG 1 gate n bit cond whn b ck ap = false) := hide (by unfold mayG wiP; first | (simp [*]; done) | (simp [*]; omega))
            clear hc hck hbt hcn
            go_enter Tryz.func63, Tryz.ntmps63
            go_wp2_with (first | (go_at_call 90; (with_reducible refine Calls.mono (c1 _ HB0.out) ?_); rintro e w1 ⟨rfl, hb1⟩; obtain ⟨y0, y1, y2, y3, y4, y5, y6, hbw⟩ := HK.out w1 hb1))
            go_ret
            exact ⟨by rw [HR.out]; rfl, hbw⟩
          . have hcnt : True := trivial
            have hcnb0 : decide (cond < 0) = false := by first | simpa using hcn | (simp; omega)
            have hcnb1 : decide (0 > cond) = false := by first | simpa using hcn | (simp; omega)
            have hcnb2 : decide (cond ≥ 0) = true := by first | simpa using hcn | (simp; omega)
            have hcnb3 : decide (0 <= cond) = true := by first | simpa using hcn | (simp; omega)
            by_cases hcb : cond < b
            . have hcbt : True := trivial
              have hcbb0 : decide (cond < b) = true := by first | simpa using hcb | (simp; omega)
              have hcbb1 : decide (b > cond) = true := by first | simpa using hcb | (simp; omega)
              have hcbb2 : decide (cond ≥ b) = false := by first | simpa using hcb | (simp; omega)
              have hcbb3 : decide (b <= cond) = false := by first | simpa using hcb | (simp; omega)
              by_cases hw0 : whn = 0
              . have hw0t : True := trivial
                have hw0b0 : (whn == 0) = true := by first | simpa using hw0 | (simp; omega)
                have HR : Hid (mayG 1 gate n bit cond whn b ck ap = true) := hide (by unfold mayG wiP; first | (simp [*]; done) | (simp [*]; omega))
                clear hc hck hbt hcn hcb hw0
                go_enter Tryz.func63, Tryz.ntmps63
                go_wp2_with (first | (go_at_call 90; (with_reducible refine Calls.mono (c1 _ HB0.out) ?_); rintro e w1 ⟨rfl, hb1⟩; obtain ⟨y0, y1, y2, y3, y4, y5, y6, hbw⟩ := HK.out w1 hb1))
                go_ret
                exact ⟨by rw [HR.out]; rfl, hbw⟩
              . have hw0t : True := trivial
                have hw0b0 : (whn == 0) = false := by first | simpa using hw0 | (simp; omega)
                by_cases hw1 : whn = 1
                . have hw1t : True := trivial
                  have hw1b0 : (whn == 1) = true := by first | simpa using hw1 | (simp; omega)
                  have HR : Hid (mayG 1 gate n bit cond whn b ck ap = true) := hide (by unfold mayG wiP; first | (simp [*]; done) | (simp [*]; omega))
                  clear hc hck hbt hcn hcb hw0 hw1
                  go_enter Tryz.func63, Tryz.ntmps63
                  go_wp2_with (first | (go_at_call 90; (with_reducible refine Calls.mono (c1 _ HB0.out) ?_); rintro e w1 ⟨rfl, hb1⟩; obtain ⟨y0, y1, y2, y3, y4, y5, y6, hbw⟩ := HK.out w1 hb1))
                  go_ret
                  exact ⟨by rw [HR.out]; rfl, hbw⟩
                . have hw1t : True := trivial
                  have hw1b0 : (whn == 1) = false := by first | simpa using hw1 | (simp; omega)
                  have HR : Hid (mayG 1 gate n bit cond whn b ck ap = false) := hide (by unfold mayG wiP; first | (simp [*]; done) | (simp [*]; omega))
                  clear hc hck hbt hcn hcb hw0 hw1
                  go_enter Tryz.func63, Tryz.ntmps63
                  go_wp2_with (first | (go_at_call 90; (with_reducible refine Calls.mono (c1 _ HB0.out) ?_); rintro e w1 ⟨rfl, hb1⟩; obtain ⟨y0, y1, y2, y3, y4, y5, y6, hbw⟩ := HK.out w1 hb1))
                  go_ret
                  exact ⟨by rw [HR.out]; rfl, hbw⟩
            . have hcbt : True := trivial
              have hcbb0 : decide (cond < b) = false := by first | simpa using hcb | (simp; omega)
              have hcbb1 : decide (b > cond) = false := by first | simpa using hcb | (simp; omega)
              have hcbb2 : decide (cond ≥ b) = true := by first | simpa using hcb | (simp; omega)
              have hcbb3 : decide (b <= cond) = true := by first | simpa using hcb | (simp; omega)
              have HR : Hid (mayG 1 gate n bit cond whn b ck ap = false) := hide (by unfold mayG wiP; first | (simp [*]; done) | (simp [*]; omega))
              clear hc hck hbt hcn hcb
              go_enter Tryz.func63, Tryz.ntmps63
              go_wp2_with (first | (go_at_call 90; (with_reducible refine Calls.mono (c1 _ HB0.out) ?_); rintro e w1 ⟨rfl, hb1⟩; obtain ⟨y0, y1, y2, y3, y4, y5, y6, hbw⟩ := HK.out w1 hb1))
              go_ret
              exact ⟨by rw [HR.out]; rfl, hbw⟩
        . have hbtt : True := trivial
          have hbtb0 : (bit == 0) = false := by first | simpa using hbt | (simp; omega)
          have HR : Hid (mayG 1 gate n bit cond whn b ck ap = false) := hide (by unfold mayG wiP; first | (simp [*]; done) | (simp [*]; omega))
          clear hc hck hbt
          go_enter Tryz.func63, Tryz.ntmps63
          go_wp2_with (first | (go_at_call 90; (with_reducible refine Calls.mono (c1 _ HB0.out) ?_); rintro e w1 ⟨rfl, hb1⟩; obtain ⟨y0, y1, y2, y3, y4, y5, y6, hbw⟩ := HK.out w1 hb1))
          go_ret
          exact ⟨by rw [HR.out]; rfl, hbw⟩
      . have hckt : True := trivial
        have hckb0 : (ck == 0) = false := by first | simpa using hck | (simp; omega)
        have HR : Hid (mayG 1 gate n bit cond whn b ck ap = false) := hide (by unfold mayG wiP; first | (simp [*]; done) | (simp [*]; omega))
        clear hc hck
        go_enter Tryz.func63, Tryz.ntmps63
        go_wp2_with (first | (go_at_call 90; (with_reducible refine Calls.mono (c1 _ HB0.out) ?_); rintro e w1 ⟨rfl, hb1⟩; obtain ⟨y0, y1, y2, y3, y4, y5, y6, hbw⟩ := HK.out w1 hb1))
        go_ret
        exact ⟨by rw [HR.out]; rfl, hbw⟩
  have kb1 : (kind == 1) = false := by simpa using k1
  by_cases k2 : kind = 2
  . subst k2
    by_cases hc : cond = (-1)
    . have hct : True := trivial
      have hcb0 : (cond == (-1)) = true := by first | simpa using hc | (simp; omega)
      by_cases hw0 : whn = 0
      . have hw0t : True := trivial
        have hw0b0 : (whn == 0) = true := by first | simpa using hw0 | (simp; omega)
        by_cases hg : gate = 0
        . have hgt : True := trivial
          have hgb0 : (gate == 0) = true := by first | simpa using hg | (simp; omega)
          by_cases hln : n = 1
          . have hlnt : True := trivial
            have hlnb0 : ((n : Int) == 1) = true := by first | simpa using hln | (simp; omega)
            have hlnb1 : (n == 1) = true := by first | simpa using hln | (simp; omega)
            cases ap with
            | false =>
              have HR : Hid (mayG 2 gate n bit cond whn b ck false = false) := hide (by unfold mayG wiP; first | (simp [*]; done) | (simp [*]; omega))
              clear hc hw0 hg hln
              go_enter Tryz.func63, Tryz.ntmps63
              go_wp2_with (first | (go_at_call 91; (with_reducible refine Calls.mono (c2 _ HB0.out) ?_); rintro e w1 ⟨rfl, hb1⟩; obtain ⟨y0, y1, y2, y3, y4, y5, y6, hbw⟩ := HK.out w1 hb1))
              go_ret
              exact ⟨by rw [HR.out]; rfl, hbw⟩
            | true =>
              by_cases hb0 : bit < 0
              . have hb0t : True := trivial
                have hb0b0 : decide (bit < 0) = true := by first | simpa using hb0 | (simp; omega)
                have hb0b1 : decide (0 > bit) = true := by first | simpa using hb0 | (simp; omega)
                have hb0b2 : decide (bit ≥ 0) = false := by first | simpa using hb0 | (simp; omega)
                have hb0b3 : decide (0 <= bit) = false := by first | simpa using hb0 | (simp; omega)
                have HR : Hid (mayG 2 gate n bit cond whn b ck true = false) := hide (by unfold mayG wiP; first | (simp [*]; done) | (simp [*]; omega))
                clear hc hw0 hg hln hb0
                go_enter Tryz.func63, Tryz.ntmps63
                go_wp2_with (first | (go_at_call 91; (with_reducible refine Calls.mono (c2 _ HB0.out) ?_); rintro e w1 ⟨rfl, hb1⟩; obtain ⟨y0, y1, y2, y3, y4, y5, y6, hbw⟩ := HK.out w1 hb1))
                go_ret
                exact ⟨by rw [HR.out]; rfl, hbw⟩
              . have hb0t : True := trivial
                have hb0b0 : decide (bit < 0) = false := by first | simpa using hb0 | (simp; omega)
                have hb0b1 : decide (0 > bit) = false := by first | simpa using hb0 | (simp; omega)
                have hb0b2 : decide (bit ≥ 0) = true := by first | simpa using hb0 | (simp; omega)
                have hb0b3 : decide (0 <= bit) = true := by first | simpa using hb0 | (simp; omega)
                by_cases hbb : bit < b
                . have hbbt : True := trivial
                  have hbbb0 : decide (bit < b) = true := by first | simpa using hbb | (simp; omega)
                  have hbbb1 : decide (b > bit) = true := by first | simpa using hbb | (simp; omega)
                  have hbbb2 : decide (bit ≥ b) = false := by first | simpa using hbb | (simp; omega)
                  have hbbb3 : decide (b <= bit) = false := by first | simpa using hbb | (simp; omega)
                  have HR : Hid (mayG 2 gate n bit cond whn b ck true = true) := hide (by unfold mayG wiP; first | (simp [*]; done) | (simp [*]; omega))
                  clear hc hw0 hg hln hb0 hbb
                  go_enter Tryz.func63, Tryz.ntmps63
                  go_wp2_with (first | (go_at_call 91; (with_reducible refine Calls.mono (c2 _ HB0.out) ?_); rintro e w1 ⟨rfl, hb1⟩; obtain ⟨y0, y1, y2, y3, y4, y5, y6, hbw⟩ := HK.out w1 hb1))
                  go_ret
                  exact ⟨by rw [HR.out]; rfl, hbw⟩
                . have hbbt : True := trivial
                  have hbbb0 : decide (bit < b) = false := by first | simpa using hbb | (simp; omega)
                  have hbbb1 : decide (b > bit) = false := by first | simpa using hbb | (simp; omega)
                  have hbbb2 : decide (bit ≥ b) = true := by first | simpa using hbb | (simp; omega)
                  have hbbb3 : decide (b <= bit) = true := by first | simpa using hbb | (simp; omega)
                  have HR : Hid (mayG 2 gate n bit cond whn b ck true = false) := hide (by unfold mayG wiP; first | (simp [*]; done) | (simp [*]; omega))
                  clear hc hw0 hg hln hb0 hbb
                  go_enter Tryz.func63, Tryz.ntmps63
                  go_wp2_with (first | (go_at_call 91; (with_reducible refine Calls.mono (c2 _ HB0.out) ?_); rintro e w1 ⟨rfl, hb1⟩; obtain ⟨y0, y1, y2, y3, y4, y5, y6, hbw⟩ := HK.out w1 hb1))
                  go_ret
                  exact ⟨by rw [HR.out]; rfl, hbw⟩
          . have hlnt : True := trivial
            have hlnb0 : ((n : Int) == 1) = false := by first | simpa using hln | (simp; omega)
            have hlnb1 : (n == 1) = false := by first | simpa using hln | (simp; omega)
            have HR : Hid (mayG 2 gate n bit cond whn b ck ap = false) := hide (by unfold mayG wiP; first | (simp [*]; done) | (simp [*]; omega))
            clear hc hw0 hg hln
            go_enter Tryz.func63, Tryz.ntmps63
            go_wp2_with fail
            go_ret
            exact ⟨by rw [HR.out]; rfl, HB0.out⟩
        . have hgt : True := trivial
          have hgb0 : (gate == 0) = false := by first | simpa using hg | (simp; omega)
          have HR : Hid (mayG 2 gate n bit cond whn b ck ap = false) := hide (by unfold mayG wiP; first | (simp [*]; done) | (simp [*]; omega))
          clear hc hw0 hg
          go_enter Tryz.func63, Tryz.ntmps63
          go_wp2_with fail
          go_ret
          exact ⟨by rw [HR.out]; rfl, HB0.out⟩
      . have hw0t : True := trivial
        have hw0b0 : (whn == 0) = false := by first | simpa using hw0 | (simp; omega)
        by_cases hg : gate = 0
        . have hgt : True := trivial
          have hgb0 : (gate == 0) = true := by first | simpa using hg | (simp; omega)
          by_cases hln : n = 1
          . have hlnt : True := trivial
            have hlnb0 : ((n : Int) == 1) = true := by first | simpa using hln | (simp; omega)
            have hlnb1 : (n == 1) = true := by first | simpa using hln | (simp; omega)
            cases ap with
            | false =>
              have HR : Hid (mayG 2 gate n bit cond whn b ck false = false) := hide (by unfold mayG wiP; first | (simp [*]; done) | (simp [*]; omega))
              clear hc hw0 hg hln
              go_enter Tryz.func63, Tryz.ntmps63
              go_wp2_with (first | (go_at_call 91; (with_reducible refine Calls.mono (c2 _ HB0.out) ?_); rintro e w1 ⟨rfl, hb1⟩; obtain ⟨y0, y1, y2, y3, y4, y5, y6, hbw⟩ := HK.out w1 hb1))
              go_ret
              exact ⟨by rw [HR.out]; rfl, hbw⟩
            | true =>
              by_cases hb0 : bit < 0
              . have hb0t : True := trivial
                have hb0b0 : decide (bit < 0) = true := by first | simpa using hb0 | (simp; omega)
                have hb0b1 : decide (0 > bit) = true := by first | simpa using hb0 | (simp; omega)
                have hb0b2 : decide (bit ≥ 0) = false := by first | simpa using hb0 | (simp; omega)
                have hb0b3 : decide (0 <= bit) = false := by first | simpa using hb0 | (simp; omega)
                have HR : Hid (mayG 2 gate n bit cond whn b ck true = false) := hide (by unfold mayG wiP; first | (simp [*]; done) | (simp [*]; omega))
                clear hc hw0 hg hln hb0
                go_enter Tryz.func63, Tryz.ntmps63
                go_wp2_with (first | (go_at_call 91; (with_reducible refine Calls.mono (c2 _ HB0.out) ?_); rintro e w1 ⟨rfl, hb1⟩; obtain ⟨y0, y1, y2, y3, y4, y5, y6, hbw⟩ := HK.out w1 hb1))
                go_ret
                exact ⟨by rw [HR.out]; rfl, hbw⟩
              . have hb0t : True := trivial
                have hb0b0 : decide (bit < 0) = false := by first | simpa using hb0 | (simp; omega)
                have hb0b1 : decide (0 > bit) = false := by first | simpa using hb0 | (simp; omega)
                have hb0b2 : decide (bit ≥ 0) = true := by first | simpa using hb0 | (simp; omega)
                have hb0b3 : decide (0 <= bit) = true := by first | simpa using hb0 | (simp; omega)
                by_cases hbb : bit < b
                . have hbbt : True := trivial
                  have hbbb0 : decide (bit < b) = true := by first | simpa using hbb | (simp; omega)
                  have hbbb1 : decide (b > bit) = true := by first | simpa using hbb | (simp; omega)
                  have hbbb2 : decide (bit ≥ b) = false := by first | simpa using hbb | (simp; omega)
                  have hbbb3 : decide (b <= bit) = false := by first | simpa using hbb | (simp; omega)
                  have HR : Hid (mayG 2 gate n bit cond whn b ck true = false) := hide (by unfold mayG wiP; first | (simp [*]; done) | (simp [*]; omega))
                  clear hc hw0 hg hln hb0 hbb
                  go_enter Tryz.func63, Tryz.ntmps63
                  go_wp2_with (first | (go_at_call 91; (with_reducible refine Calls.mono (c2 _ HB0.out) ?_); rintro e w1 ⟨rfl, hb1⟩; obtain ⟨y0, y1, y2, y3, y4, y5, y6, hbw⟩ := HK.out w1 hb1))
                  go_ret
                  exact ⟨by rw [HR.out]; rfl, hbw⟩
                . have hbbt : True := trivial
                  have hbbb0 : decide (bit < b) = false := by first | simpa using hbb | (simp; omega)
                  have hbbb1 : decide (b > bit) = false := by first | simpa using hbb | (simp; omega)
                  have hbbb2 : decide (bit ≥ b) = true := by first | simpa using hbb | (simp; omega)
                  have hbbb3 : decide (b <= bit) = true := by first | simpa using hbb | (simp; omega)
                  have HR : Hid (mayG 2 gate n bit cond whn b ck true = false) := hide (by unfold mayG wiP; first | (simp [*]; done) | (simp [*]; omega))
                  clear hc hw0 hg hln hb0 hbb
                  go_enter Tryz.func63, Tryz.ntmps63
                  go_wp2_with (first | (go_at_call 91; (with_reducible refine Calls.mono (c2 _ HB0.out) ?_); rintro e w1 ⟨rfl, hb1⟩; obtain ⟨y0, y1, y2, y3, y4, y5, y6, hbw⟩ := HK.out w1 hb1))
                  go_ret
                  exact ⟨by rw [HR.out]; rfl, hbw⟩
          . have hlnt : True := trivial
            have hlnb0 : ((n : Int) == 1) = false := by first | simpa using hln | (simp; omega)
            have hlnb1 : (n == 1) = false := by first | simpa using hln | (simp; omega)
            have HR : Hid (mayG 2 gate n bit cond whn b ck ap = false) := hide (by unfold mayG wiP; first | (simp [*]; done) | (simp [*]; omega))
            clear hc hw0 hg hln
            go_enter Tryz.func63, Tryz.ntmps63
            go_wp2_with fail
            go_ret
            exact ⟨by rw [HR.out]; rfl, HB0.out⟩
        . have hgt : True := trivial
          have hgb0 : (gate == 0) = false := by first | simpa using hg | (simp; omega)
          have HR : Hid (mayG 2 gate n bit cond whn b ck ap = false) := hide (by unfold mayG wiP; first | (simp [*]; done) | (simp [*]; omega))
          clear hc hw0 hg
          go_enter Tryz.func63, Tryz.ntmps63
          go_wp2_with fail
          go_ret
          exact ⟨by rw [HR.out]; rfl, HB0.out⟩
    . have hct : True := trivial
      have hcb0 : (cond == (-1)) = false := by first | simpa using hc | (simp; omega)
      by_cases hg : gate = 0
      . have hgt : True := trivial
        have hgb0 : (gate == 0) = true := by first | simpa using hg | (simp; omega)
        by_cases hln : n = 1
        . have hlnt : True := trivial
          have hlnb0 : ((n : Int) == 1) = true := by first | simpa using hln | (simp; omega)
          have hlnb1 : (n == 1) = true := by first | simpa using hln | (simp; omega)
          cases ap with
          | false =>
            have HR : Hid (mayG 2 gate n bit cond whn b ck false = false) := hide (by unfold mayG wiP; first | (simp [*]; done) | (simp [*]; omega))
            clear hc hg hln
            go_enter Tryz.func63, Tryz.ntmps63
            go_wp2_with (first | (go_at_call 91; (with_reducible refine Calls.mono (c2 _ HB0.out) ?_); rintro e w1 ⟨rfl, hb1⟩; obtain ⟨y0, y1, y2, y3, y4, y5, y6, hbw⟩ := HK.out w1 hb1))
            go_ret
            exact ⟨by rw [HR.out]; rfl, hbw⟩
          | true =>
            by_cases hb0 : bit < 0
            . have hb0t : True := trivial
              have hb0b0 : decide (bit < 0) = true := by first | simpa using hb0 | (simp; omega)
              have hb0b1 : decide (0 > bit) = true := by first | simpa using hb0 | (simp; omega)
              have hb0b2 : decide (bit ≥ 0) = false := by first | simpa using hb0 | (simp; omega)
              have hb0b3 : decide (0 <= bit) = false := by first | simpa using hb0 | (simp; omega)
              have HR : Hid (mayG 2 gate n bit cond whn b ck true = false) := hide (by unfold mayG wiP; first | (simp [*]; done) | (simp [*]; omega))
              clear hc hg hln hb0
              go_enter Tryz.func63, Tryz.ntmps63
              go_wp2_with (first | (go_at_call 91; (with_reducible refine Calls.mono (c2 _ HB0.out) ?_); rintro e w1 ⟨rfl, hb1⟩; obtain ⟨y0, y1, y2, y3, y4, y5, y6, hbw⟩ := HK.out w1 hb1))
              go_ret
              exact ⟨by rw [HR.out]; rfl, hbw⟩
            . have hb0t : True := trivial
              have hb0b0 : decide (bit < 0) = false := by first | simpa using hb0 | (simp; omega)
              have hb0b1 : decide (0 > bit) = false := by first | simpa using hb0 | (simp; omega)
              have hb0b2 : decide (bit ≥ 0) = true := by first | simpa using hb0 | (simp; omega)
              have hb0b3 : decide (0 <= bit) = true := by first | simpa using hb0 | (simp; omega)
              by_cases hbb : bit < b
              . have hbbt : True := trivial
                have hbbb0 : decide (bit < b) = true := by first | simpa using hbb | (simp; omega)
                have hbbb1 : decide (b > bit) = true := by first | simpa using hbb | (simp; omega)
                have hbbb2 : decide (bit ≥ b) = false := by first | simpa using hbb | (simp; omega)
                have hbbb3 : decide (b <= bit) = false := by first | simpa using hbb | (simp; omega)
                have HR : Hid (mayG 2 gate n bit cond whn b ck true = false) := hide (by unfold mayG wiP; first | (simp [*]; done) | (simp [*]; omega))
                clear hc hg hln hb0 hbb
                go_enter Tryz.func63, Tryz.ntmps63
                go_wp2_with (first | (go_at_call 91; (with_reducible refine Calls.mono (c2 _ HB0.out) ?_); rintro e w1 ⟨rfl, hb1⟩; obtain ⟨y0, y1, y2, y3, y4, y5, y6, hbw⟩ := HK.out w1 hb1))
                go_ret
                exact ⟨by rw [HR.out]; rfl, hbw⟩
              . have hbbt : True := trivial
                have hbbb0 : decide (bit < b) = false := by first | simpa using hbb | (simp; omega)
                have hbbb1 : decide (b > bit) = false := by first | simpa using hbb | (simp; omega)
                have hbbb2 : decide (bit ≥ b) = true := by first | simpa using hbb | (simp; omega)
                have hbbb3 : decide (b <= bit) = true := by first | simpa using hbb | (simp; omega)
                have HR : Hid (mayG 2 gate n bit cond whn b ck true = false) := hide (by unfold mayG wiP; first | (simp [*]; done) | (simp [*]; omega))
                clear hc hg hln hb0 hbb
                go_enter Tryz.func63, Tryz.ntmps63
                go_wp2_with (first | (go_at_call 91; (with_reducible refine Calls.mono (c2 _ HB0.out) ?_); rintro e w1 ⟨rfl, hb1⟩; obtain ⟨y0, y1, y2, y3, y4, y5, y6, hbw⟩ := HK.out w1 hb1))
                go_ret
                exact ⟨by rw [HR.out]; rfl, hbw⟩
        . have hlnt : True := trivial
          have hlnb0 : ((n : Int) == 1) = false := by first | simpa using hln | (simp; omega)
          have hlnb1 : (n == 1) = false := by first | simpa using hln | (simp; omega)
          have HR : Hid (mayG 2 gate n bit cond whn b ck ap = false) := hide (by unfold mayG wiP; first | (simp [*]; done) | (simp [*]; omega))
          clear hc hg hln
          go_enter Tryz.func63, Tryz.ntmps63
          go_wp2_with fail
          go_ret
          exact ⟨by rw [HR.out]; rfl, HB0.out⟩
      . have hgt : True := trivial
        have hgb0 : (gate == 0) = false := by first | simpa using hg | (simp; omega)
        have HR : Hid (mayG 2 gate n bit cond whn b ck ap = false) := hide (by unfold mayG wiP; first | (simp [*]; done) | (simp [*]; omega))
        clear hc hg
        go_enter Tryz.func63, Tryz.ntmps63
        go_wp2_with fail
        go_ret
        exact ⟨by rw [HR.out]; rfl, HB0.out⟩
  have kb2 : (kind == 2) = false := by simpa using k2
  by_cases k3 : kind = 3
  . subst k3
    by_cases hc : cond = (-1)
    . have hct : True := trivial
      have hcb0 : (cond == (-1)) = true := by first | simpa using hc | (simp; omega)
      by_cases hw0 : whn = 0
      . have hw0t : True := trivial
        have hw0b0 : (whn == 0) = true := by first | simpa using hw0 | (simp; omega)
        by_cases hg : gate = 0
        . have hgt : True := trivial
          have hgb0 : (gate == 0) = true := by first | simpa using hg | (simp; omega)
          by_cases hln : n = 1
          . have hlnt : True := trivial
            have hlnb0 : ((n : Int) == 1) = true := by first | simpa using hln | (simp; omega)
            have hlnb1 : (n == 1) = true := by first | simpa using hln | (simp; omega)
            cases ap with
            | false =>
              have HR : Hid (mayG 3 gate n bit cond whn b ck false = false) := hide (by unfold mayG wiP; first | (simp [*]; done) | (simp [*]; omega))
              clear hc hw0 hg hln
              go_enter Tryz.func63, Tryz.ntmps63
              go_wp2_with (first | (go_at_call 91; (with_reducible refine Calls.mono (c2 _ HB0.out) ?_); rintro e w1 ⟨rfl, hb1⟩; obtain ⟨y0, y1, y2, y3, y4, y5, y6, hbw⟩ := HK.out w1 hb1))
              go_ret
              exact ⟨by rw [HR.out]; rfl, hbw⟩
            | true =>
              by_cases hbt : bit = 0
              . have hbtt : True := trivial
                have hbtb0 : (bit == 0) = true := by first | simpa using hbt | (simp; omega)
                have HR : Hid (mayG 3 gate n bit cond whn b ck true = true) := hide (by unfold mayG wiP; first | (simp [*]; done) | (simp [*]; omega))
                clear hc hw0 hg hln hbt
                go_enter Tryz.func63, Tryz.ntmps63
                go_wp2_with (first | (go_at_call 91; (with_reducible refine Calls.mono (c2 _ HB0.out) ?_); rintro e w1 ⟨rfl, hb1⟩; obtain ⟨y0, y1, y2, y3, y4, y5, y6, hbw⟩ := HK.out w1 hb1))
                go_ret
                exact ⟨by rw [HR.out]; rfl, hbw⟩
              . have hbtt : True := trivial
                have hbtb0 : (bit == 0) = false := by first | simpa using hbt | (simp; omega)
                have HR : Hid (mayG 3 gate n bit cond whn b ck true = false) := hide (by unfold mayG wiP; first | (simp [*]; done) | (simp [*]; omega))
                clear hc hw0 hg hln hbt
                go_enter Tryz.func63, Tryz.ntmps63
                go_wp2_with (first | (go_at_call 91; (with_reducible refine Calls.mono (c2 _ HB0.out) ?_); rintro e w1 ⟨rfl, hb1⟩; obtain ⟨y0, y1, y2, y3, y4, y5, y6, hbw⟩ := HK.out w1 hb1))
                go_ret
                exact ⟨by rw [HR.out]; rfl, hbw⟩
          . have hlnt : True := trivial
            have hlnb0 : ((n : Int) == 1) = false := by first | simpa using hln | (simp; omega)
            have hlnb1 : (n == 1) = false := by first | simpa using hln | (simp; omega)
            have HR : Hid (mayG 3 gate n bit cond whn b ck ap = false) := hide (by unfold mayG wiP; first | (simp [*]; done) | (simp [*]; omega))
            clear hc hw0 hg hln
            go_enter Tryz.func63, Tryz.ntmps63
            go_wp2_with fail
            go_ret
            exact ⟨by rw [HR.out]; rfl, HB0.out⟩
        . have hgt : True := trivial
          have hgb0 : (gate == 0) = false := by first | simpa using hg | (simp; omega)
          have HR : Hid (mayG 3 gate n bit cond whn b ck ap = false) := hide (by unfold mayG wiP; first | (simp [*]; done) | (simp [*]; omega))
          clear hc hw0 hg
          go_enter Tryz.func63, Tryz.ntmps63
          go_wp2_with fail
          go_ret
          exact ⟨by rw [HR.out]; rfl, HB0.out⟩
      . have hw0t : True := trivial
        have hw0b0 : (whn == 0) = false := by first | simpa using hw0 | (simp; omega)
        by_cases hg : gate = 0
        . have hgt : True := trivial
          have hgb0 : (gate == 0) = true := by first | simpa using hg | (simp; omega)
          by_cases hln : n = 1
          . have hlnt : True := trivial
            have hlnb0 : ((n : Int) == 1) = true := by first | simpa using hln | (simp; omega)
            have hlnb1 : (n == 1) = true := by first | simpa using hln | (simp; omega)
            cases ap with
            | false =>
              have HR : Hid (mayG 3 gate n bit cond whn b ck false = false) := hide (by unfold mayG wiP; first | (simp [*]; done) | (simp [*]; omega))
              clear hc hw0 hg hln
              go_enter Tryz.func63, Tryz.ntmps63
              go_wp2_with (first | (go_at_call 91; (with_reducible refine Calls.mono (c2 _ HB0.out) ?_); rintro e w1 ⟨rfl, hb1⟩; obtain ⟨y0, y1, y2, y3, y4, y5, y6, hbw⟩ := HK.out w1 hb1))
              go_ret
              exact ⟨by rw [HR.out]; rfl, hbw⟩
            | true =>
              by_cases hbt : bit = 0
              . have hbtt : True := trivial
                have hbtb0 : (bit == 0) = true := by first | simpa using hbt | (simp; omega)
                have HR : Hid (mayG 3 gate n bit cond whn b ck true = false) := hide (by unfold mayG wiP; first | (simp [*]; done) | (simp [*]; omega))
                clear hc hw0 hg hln hbt
                go_enter Tryz.func63, Tryz.ntmps63
                go_wp2_with (first | (go_at_call 91; (with_reducible refine Calls.mono (c2 _ HB0.out) ?_); rintro e w1 ⟨rfl, hb1⟩; obtain ⟨y0, y1, y2, y3, y4, y5, y6, hbw⟩ := HK.out w1 hb1))
                go_ret
                exact ⟨by rw [HR.out]; rfl, hbw⟩
              . have hbtt : True := trivial
                have hbtb0 : (bit == 0) = false := by first | simpa using hbt | (simp; omega)
                have HR : Hid (mayG 3 gate n bit cond whn b ck true = false) := hide (by unfold mayG wiP; first | (simp [*]; done) | (simp [*]; omega))
                clear hc hw0 hg hln hbt
                go_enter Tryz.func63, Tryz.ntmps63
                go_wp2_with (first | (go_at_call 91; (with_reducible refine Calls.mono (c2 _ HB0.out) ?_); rintro e w1 ⟨rfl, hb1⟩; obtain ⟨y0, y1, y2, y3, y4, y5, y6, hbw⟩ := HK.out w1 hb1))
                go_ret
                exact ⟨by rw [HR.out]; rfl, hbw⟩
          . have hlnt : True := trivial
            have hlnb0 : ((n : Int) == 1) = false := by first | simpa using hln | (simp; omega)
            have hlnb1 : (n == 1) = false := by first | simpa using hln | (simp; omega)
            have HR : Hid (mayG 3 gate n bit cond whn b ck ap = false) := hide (by unfold mayG wiP; first | (simp [*]; done) | (simp [*]; omega))
            clear hc hw0 hg hln
            go_enter Tryz.func63, Tryz.ntmps63
            go_wp2_with fail
            go_ret
            exact ⟨by rw [HR.out]; rfl, HB0.out⟩
        . have hgt : True := trivial
          have hgb0 : (gate == 0) = false := by first | simpa using hg | (simp; omega)
          have HR : Hid (mayG 3 gate n bit cond whn b ck ap = false) := hide (by unfold mayG wiP; first | (simp [*]; done) | (simp [*]; omega))
          clear hc hw0 hg
          go_enter Tryz.func63, Tryz.ntmps63
          go_wp2_with fail
          go_ret
          exact ⟨by rw [HR.out]; rfl, HB0.out⟩
    . have hct : True := trivial
      have hcb0 : (cond == (-1)) = false := by first | simpa using hc | (simp; omega)
      by_cases hg : gate = 0
      . have hgt : True := trivial
        have hgb0 : (gate == 0) = true := by first | simpa using hg | (simp; omega)
        by_cases hln : n = 1
        . have hlnt : True := trivial
          have hlnb0 : ((n : Int) == 1) = true := by first | simpa using hln | (simp; omega)
          have hlnb1 : (n == 1) = true := by first | simpa using hln | (simp; omega)
          cases ap with
          | false =>
            have HR : Hid (mayG 3 gate n bit cond whn b ck false = false) := hide (by unfold mayG wiP; first | (simp [*]; done) | (simp [*]; omega))
            clear hc hg hln
            go_enter Tryz.func63, Tryz.ntmps63
            go_wp2_with (first | (go_at_call 91; (with_reducible refine Calls.mono (c2 _ HB0.out) ?_); rintro e w1 ⟨rfl, hb1⟩; obtain ⟨y0, y1, y2, y3, y4, y5, y6, hbw⟩ := HK.out w1 hb1))
            go_ret
            exact ⟨by rw [HR.out]; rfl, hbw⟩
          | true =>
            by_cases hbt : bit = 0
            . have hbtt : True := trivial
              have hbtb0 : (bit == 0) = true := by first | simpa using hbt | (simp; omega)
              have HR : Hid (mayG 3 gate n bit cond whn b ck true = false) := hide (by unfold mayG wiP; first | (simp [*]; done) | (simp [*]; omega))
              clear hc hg hln hbt
              go_enter Tryz.func63, Tryz.ntmps63
              go_wp2_with (first | (go_at_call 91; (with_reducible refine Calls.mono (c2 _ HB0.out) ?_); rintro e w1 ⟨rfl, hb1⟩; obtain ⟨y0, y1, y2, y3, y4, y5, y6, hbw⟩ := HK.out w1 hb1))
              go_ret
              exact ⟨by rw [HR.out]; rfl, hbw⟩
            . have hbtt : True := trivial
              have hbtb0 : (bit == 0) = false := by first | simpa using hbt | (simp; omega)
              have HR : Hid (mayG 3 gate n bit cond whn b ck true = false) := hide (by unfold mayG wiP; first | (simp [*]; done) | (simp [*]; omega))
              clear hc hg hln hbt
              go_enter Tryz.func63, Tryz.ntmps63
              go_wp2_with (first | (go_at_call 91; (with_reducible refine Calls.mono (c2 _ HB0.out) ?_); rintro e w1 ⟨rfl, hb1⟩; obtain ⟨y0, y1, y2, y3, y4, y5, y6, hbw⟩ := HK.out w1 hb1))
              go_ret
              exact ⟨by rw [HR.out]; rfl, hbw⟩
        . have hlnt : True := trivial
          have hlnb0 : ((n : Int) == 1) = false := by first | simpa using hln | (simp; omega)
          have hlnb1 : (n == 1) = false := by first | simpa using hln | (simp; omega)
          have HR : Hid (mayG 3 gate n bit cond whn b ck ap = false) := hide (by unfold mayG wiP; first | (simp [*]; done) | (simp [*]; omega))
          clear hc hg hln
          go_enter Tryz.func63, Tryz.ntmps63
          go_wp2_with fail
          go_ret
          exact ⟨by rw [HR.out]; rfl, HB0.out⟩
      . have hgt : True := trivial
        have hgb0 : (gate == 0) = false := by first | simpa using hg | (simp; omega)
        have HR : Hid (mayG 3 gate n bit cond whn b ck ap = false) := hide (by unfold mayG wiP; first | (simp [*]; done) | (simp [*]; omega))
        clear hc hg
        go_enter Tryz.func63, Tryz.ntmps63
        go_wp2_with fail
        go_ret
        exact ⟨by rw [HR.out]; rfl, HB0.out⟩
  have kb3 : (kind == 3) = false := by simpa using k3
  by_cases k4 : kind = 4
  . subst k4
    by_cases hc : cond = (-1)
    . have hct : True := trivial
      have hcb0 : (cond == (-1)) = true := by first | simpa using hc | (simp; omega)
      by_cases hw0 : whn = 0
      . have hw0t : True := trivial
        have hw0b0 : (whn == 0) = true := by first | simpa using hw0 | (simp; omega)
        by_cases hg : gate = 0
        . have hgt : True := trivial
          have hgb0 : (gate == 0) = true := by first | simpa using hg | (simp; omega)
          by_cases hln : 0 < n
          . have hlnt : True := trivial
            have hlnb0 : decide ((n : Int) > 0) = true := by first | simpa using hln | (simp; omega)
            have hlnb1 : decide ((0 : Int) < (n : Int)) = true := by first | simpa using hln | (simp; omega)
            have hlnb2 : decide (0 < n) = true := by first | simpa using hln | (simp; omega)
            cases ap with
            | false =>
              have HR : Hid (mayG 4 gate n bit cond whn b ck false = false) := hide (by unfold mayG wiP; first | (simp [*]; done) | (simp [*]; omega))
              clear hc hw0 hg hln
              go_enter Tryz.func63, Tryz.ntmps63
              go_wp2_with (first | (go_at_call 91; (with_reducible refine Calls.mono (c2 _ HB0.out) ?_); rintro e w1 ⟨rfl, hb1⟩; obtain ⟨y0, y1, y2, y3, y4, y5, y6, hbw⟩ := HK.out w1 hb1))
              go_ret
              exact ⟨by rw [HR.out]; rfl, hbw⟩
            | true =>
              by_cases hbt : bit = 0
              . have hbtt : True := trivial
                have hbtb0 : (bit == 0) = true := by first | simpa using hbt | (simp; omega)
                have HR : Hid (mayG 4 gate n bit cond whn b ck true = true) := hide (by unfold mayG wiP; first | (simp [*]; done) | (simp [*]; omega))
                clear hc hw0 hg hln hbt
                go_enter Tryz.func63, Tryz.ntmps63
                go_wp2_with (first | (go_at_call 91; (with_reducible refine Calls.mono (c2 _ HB0.out) ?_); rintro e w1 ⟨rfl, hb1⟩; obtain ⟨y0, y1, y2, y3, y4, y5, y6, hbw⟩ := HK.out w1 hb1))
                go_ret
                exact ⟨by rw [HR.out]; rfl, hbw⟩
              . have hbtt : True := trivial
                have hbtb0 : (bit == 0) = false := by first | simpa using hbt | (simp; omega)
                have HR : Hid (mayG 4 gate n bit cond whn b ck true = false) := hide (by unfold mayG wiP; first | (simp [*]; done) | (simp [*]; omega))
                clear hc hw0 hg hln hbt
                go_enter Tryz.func63, Tryz.ntmps63
                go_wp2_with (first | (go_at_call 91; (with_reducible refine Calls.mono (c2 _ HB0.out) ?_); rintro e w1 ⟨rfl, hb1⟩; obtain ⟨y0, y1, y2, y3, y4, y5, y6, hbw⟩ := HK.out w1 hb1))
                go_ret
                exact ⟨by rw [HR.out]; rfl, hbw⟩
          . have hlnt : True := trivial
            have hlnb0 : decide ((n : Int) > 0) = false := by first | simpa using hln | (simp; omega)
            have hlnb1 : decide ((0 : Int) < (n : Int)) = false := by first | simpa using hln | (simp; omega)
            have hlnb2 : decide (0 < n) = false := by first | simpa using hln | (simp; omega)
            have HR : Hid (mayG 4 gate n bit cond whn b ck ap = false) := hide (by unfold mayG wiP; first | (simp [*]; done) | (simp [*]; omega))
            clear hc hw0 hg hln
            go_enter Tryz.func63, Tryz.ntmps63
            go_wp2_with fail
            go_ret
            exact ⟨by rw [HR.out]; rfl, HB0.out⟩
        . have hgt : True := trivial
          have hgb0 : (gate == 0) = false := by first | simpa using hg | (simp; omega)
          have HR : Hid (mayG 4 gate n bit cond whn b ck ap = false) := hide (by unfold mayG wiP; first | (simp [*]; done) | (simp [*]; omega))
          clear hc hw0 hg
          go_enter Tryz.func63, Tryz.ntmps63
          go_wp2_with fail
          go_ret
          exact ⟨by rw [HR.out]; rfl, HB0.out⟩
      . have hw0t : True := trivial
        have hw0b0 : (whn == 0) = false := by first | simpa using hw0 | (simp; omega)
        by_cases hg : gate = 0
        . have hgt : True := trivial
          have hgb0 : (gate == 0) = true := by first | simpa using hg | (simp; omega)
          by_cases hln : 0 < n
          . have hlnt : True := trivial
            have hlnb0 : decide ((n : Int) > 0) = true := by first | simpa using hln | (simp; omega)
            have hlnb1 : decide ((0 : Int) < (n : Int)) = true := by first | simpa using hln | (simp; omega)
            have hlnb2 : decide (0 < n) = true := by first | simpa using hln | (simp; omega)
            cases ap with
            | false =>
              have HR : Hid (mayG 4 gate n bit cond whn b ck false = false) := hide (by unfold mayG wiP; first | (simp [*]; done) | (simp [*]; omega))
              clear hc hw0 hg hln
              go_enter Tryz.func63, Tryz.ntmps63
              go_wp2_with (first | (go_at_call 91; (with_reducible refine Calls.mono (c2 _ HB0.out) ?_); rintro e w1 ⟨rfl, hb1⟩; obtain ⟨y0, y1, y2, y3, y4, y5, y6, hbw⟩ := HK.out w1 hb1))
              go_ret
              exact ⟨by rw [HR.out]; rfl, hbw⟩
            | true =>
              by_cases hbt : bit = 0
              . have hbtt : True := trivial
                have hbtb0 : (bit == 0) = true := by first | simpa using hbt | (simp; omega)
                have HR : Hid (mayG 4 gate n bit cond whn b ck true = false) := hide (by unfold mayG wiP; first | (simp [*]; done) | (simp [*]; omega))
                clear hc hw0 hg hln hbt
                go_enter Tryz.func63, Tryz.ntmps63
                go_wp2_with (first | (go_at_call 91; (with_reducible refine Calls.mono (c2 _ HB0.out) ?_); rintro e w1 ⟨rfl, hb1⟩; obtain ⟨y0, y1, y2, y3, y4, y5, y6, hbw⟩ := HK.out w1 hb1))
                go_ret
                exact ⟨by rw [HR.out]; rfl, hbw⟩
              . have hbtt : True := trivial
                have hbtb0 : (bit == 0) = false := by first | simpa using hbt | (simp; omega)
                have HR : Hid (mayG 4 gate n bit cond whn b ck true = false) := hide (by unfold mayG wiP; first | (simp [*]; done) | (simp [*]; omega))
                clear hc hw0 hg hln hbt
                go_enter Tryz.func63, Tryz.ntmps63
                go_wp2_with (first | (go_at_call 91; (with_reducible refine Calls.mono (c2 _ HB0.out) ?_); rintro e w1 ⟨rfl, hb1⟩; obtain ⟨y0, y1, y2, y3, y4, y5, y6, hbw⟩ := HK.out w1 hb1))
                go_ret
                exact ⟨by rw [HR.out]; rfl, hbw⟩
          . have hlnt : True := trivial
            have hlnb0 : decide ((n : Int) > 0) = false := by first | simpa using hln | (simp; omega)
            have hlnb1 : decide ((0 : Int) < (n : Int)) = false := by first | simpa using hln | (simp; omega)
            have hlnb2 : decide (0 < n) = false := by first | simpa using hln | (simp; omega)
            have HR : Hid (mayG 4 gate n bit cond whn b ck ap = false) := hide (by unfold mayG wiP; first | (simp [*]; done) | (simp [*]; omega))
            clear hc hw0 hg hln
            go_enter Tryz.func63, Tryz.ntmps63
            go_wp2_with fail
            go_ret
            exact ⟨by rw [HR.out]; rfl, HB0.out⟩
        . have hgt : True := trivial
          have hgb0 : (gate == 0) = false := by first | simpa using hg | (simp; omega)
          have HR : Hid (mayG 4 gate n bit cond whn b ck ap = false) := hide (by unfold mayG wiP; first | (simp [*]; done) | (simp [*]; omega))
          clear hc hw0 hg
          go_enter Tryz.func63, Tryz.ntmps63
          go_wp2_with fail
          go_ret
          exact ⟨by rw [HR.out]; rfl, HB0.out⟩
    . have hct : True := trivial
      have hcb0 : (cond == (-1)) = false := by first | simpa using hc | (simp; omega)
      by_cases hg : gate = 0
      . have hgt : True := trivial
        have hgb0 : (gate == 0) = true := by first | simpa using hg | (simp; omega)
        by_cases hln : 0 < n
        . have hlnt : True := trivial
          have hlnb0 : decide ((n : Int) > 0) = true := by first | simpa using hln | (simp; omega)
          have hlnb1 : decide ((0 : Int) < (n : Int)) = true := by first | simpa using hln | (simp; omega)
          have hlnb2 : decide (0 < n) = true := by first | simpa using hln | (simp; omega)
          cases ap with
          | false =>
            have HR : Hid (mayG 4 gate n bit cond whn b ck false = false) := hide (by unfold mayG wiP; first | (simp [*]; done) | (simp [*]; omega))
            clear hc hg hln
            go_enter Tryz.func63, Tryz.ntmps63
            go_wp2_with (first | (go_at_call 91; (with_reducible refine Calls.mono (c2 _ HB0.out) ?_); rintro e w1 ⟨rfl, hb1⟩; obtain ⟨y0, y1, y2, y3, y4, y5, y6, hbw⟩ := HK.out w1 hb1))
            go_ret
            exact ⟨by rw [HR.out]; rfl, hbw⟩
          | true =>
            by_cases hbt : bit = 0
            . have hbtt : True := trivial
              have hbtb0 : (bit == 0) = true := by first | simpa using hbt | (simp; omega)
              have HR : Hid (mayG 4 gate n bit cond whn b ck true = false) := hide (by unfold mayG wiP; first | (simp [*]; done) | (simp [*]; omega))
              clear hc hg hln hbt
              go_enter Tryz.func63, Tryz.ntmps63
              go_wp2_with (first | (go_at_call 91; (with_reducible refine Calls.mono (c2 _ HB0.out) ?_); rintro e w1 ⟨rfl, hb1⟩; obtain ⟨y0, y1, y2, y3, y4, y5, y6, hbw⟩ := HK.out w1 hb1))
              go_ret
              exact ⟨by rw [HR.out]; rfl, hbw⟩
            . have hbtt : True := trivial
              have hbtb0 : (bit == 0) = false := by first | simpa using hbt | (simp; omega)
              have HR : Hid (mayG 4 gate n bit cond whn b ck true = false) := hide (by unfold mayG wiP; first | (simp [*]; done) | (simp [*]; omega))
              clear hc hg hln hbt
              go_enter Tryz.func63, Tryz.ntmps63
              go_wp2_with (first | (go_at_call 91; (with_reducible refine Calls.mono (c2 _ HB0.out) ?_); rintro e w1 ⟨rfl, hb1⟩; obtain ⟨y0, y1, y2, y3, y4, y5, y6, hbw⟩ := HK.out w1 hb1))
              go_ret
              exact ⟨by rw [HR.out]; rfl, hbw⟩
        . have hlnt : True := trivial
          have hlnb0 : decide ((n : Int) > 0) = false := by first | simpa using hln | (simp; omega)
          have hlnb1 : decide ((0 : Int) < (n : Int)) = false := by first | simpa using hln | (simp; omega)
          have hlnb2 : decide (0 < n) = false := by first | simpa using hln | (simp; omega)
          have HR : Hid (mayG 4 gate n bit cond whn b ck ap = false) := hide (by unfold mayG wiP; first | (simp [*]; done) | (simp [*]; omega))
          clear hc hg hln
          go_enter Tryz.func63, Tryz.ntmps63
          go_wp2_with fail
          go_ret
          exact ⟨by rw [HR.out]; rfl, HB0.out⟩
      . have hgt : True := trivial
        have hgb0 : (gate == 0) = false := by first | simpa using hg | (simp; omega)
        have HR : Hid (mayG 4 gate n bit cond whn b ck ap = false) := hide (by unfold mayG wiP; first | (simp [*]; done) | (simp [*]; omega))
        clear hc hg
        go_enter Tryz.func63, Tryz.ntmps63
        go_wp2_with fail
        go_ret
        exact ⟨by rw [HR.out]; rfl, HB0.out⟩
  have kb4 : (kind == 4) = false := by simpa using k4
  by_cases hc : cond = (-1)
  . have hct : True := trivial
    have hcb0 : (cond == (-1)) = true := by first | simpa using hc | (simp; omega)
    by_cases hw0 : whn = 0
    . have hw0t : True := trivial
      have hw0b0 : (whn == 0) = true := by first | simpa using hw0 | (simp; omega)
      have HR : Hid (mayG kind gate n bit cond whn b ck ap = false) := hide (by unfold mayG wiP; first | (simp [*]; done) | (simp [*]; omega))
      clear hc hw0
      go_enter Tryz.func63, Tryz.ntmps63
      go_wp2_with fail
      go_ret
      exact ⟨by rw [HR.out]; rfl, HB0.out⟩
    . have hw0t : True := trivial
      have hw0b0 : (whn == 0) = false := by first | simpa using hw0 | (simp; omega)
      have HR : Hid (mayG kind gate n bit cond whn b ck ap = false) := hide (by unfold mayG wiP; first | (simp [*]; done) | (simp [*]; omega))
      clear hc hw0
      go_enter Tryz.func63, Tryz.ntmps63
      go_wp2_with fail
      go_ret
      exact ⟨by rw [HR.out]; rfl, HB0.out⟩
  . have hct : True := trivial
    have hcb0 : (cond == (-1)) = false := by first | simpa using hc | (simp; omega)
    have HR : Hid (mayG kind gate n bit cond whn b ck ap = false) := hide (by unfold mayG wiP; first | (simp [*]; done) | (simp [*]; omega))
    clear hc
    go_enter Tryz.func63, Tryz.ntmps63
    go_wp2_with fail
    go_ret
    exact ⟨by rw [HR.out]; rfl, HB0.out⟩
theorem eCheck (c : Circ) (ao : Option Addr) (k : Nat) (w : World) (hC : Ci w c ao k) : Calls Tryz.prog 35 #[cV c ao k] w fun e w' => e = .returned (.tuple #[.int .i64 (chkC c).1, .int .i64 (chkC c).2]) /\ Below w.heap.size w w' := by
  obtain ⟨R, hR⟩ : ∃ R, chkC c = R := ⟨_, rfl⟩
  rw [hR]
  unfold chkC cntP wiP at hR
  have HC := hide hC
  obtain ⟨n, hn⟩ : ∃ n, c.ops.length = n := ⟨_, rfl⟩
  have HL := hide hn
  have hlen := hC.len
  have HM := hide (fun V (o : COp) (ho : o ∈ c.ops) (aq : Option Addr) (cq : Nat) (hn : Ns V aq o.qs) => eOp o aq cq c.q c.b (hC.qs o ho) V hn)
  obtain ⟨q, b, ops⟩ := c
  simp only at hR hn hlen HL HM
  unfold cV
  simp only
  rw [hn] at hlen hR ⊢
  clear hn hC
  by_cases q0 : q < 0
  . have HR0 : Hid (((-1 : Int), (80 : Int)) = R) := hide (by rw [← hR]; simp; try omega)
    have q0b0 : decide (q < 0) = true := decide_eq_true (by omega)
    have q0b1 : decide (0 > q) = true := decide_eq_true (by omega)
    clear hR
    go_enter Tryz.func35, Tryz.ntmps35
    go_wp2_with fail
    go_ret2
    exact ⟨by rw [← HR0.out]; rfl, bnew _ _⟩
  have q0b0 : decide (q < 0) = false := decide_eq_false (by omega)
  have q0b1 : decide (0 > q) = false := decide_eq_false (by omega)
  by_cases q1 : 64 < q
  . have HR0 : Hid (((-1 : Int), (80 : Int)) = R) := hide (by rw [← hR]; simp; try omega)
    have q1b0 : decide (q > 64) = true := decide_eq_true (by omega)
    have q1b1 : decide (64 < q) = true := decide_eq_true (by omega)
    clear hR
    go_enter Tryz.func35, Tryz.ntmps35
    go_wp2_with fail
    go_ret2
    exact ⟨by rw [← HR0.out]; rfl, bnew _ _⟩
  have q1b0 : decide (q > 64) = false := decide_eq_false (by omega)
  have q1b1 : decide (64 < q) = false := decide_eq_false (by omega)
  by_cases b0 : b < 0
  . have HR0 : Hid (((-1 : Int), (80 : Int)) = R) := hide (by rw [← hR]; simp; try omega)
    have b0b0 : decide (b < 0) = true := decide_eq_true (by omega)
    have b0b1 : decide (0 > b) = true := decide_eq_true (by omega)
    clear hR
    go_enter Tryz.func35, Tryz.ntmps35
    go_wp2_with fail
    go_ret2
    exact ⟨by rw [← HR0.out]; rfl, bnew _ _⟩
  have b0b0 : decide (b < 0) = false := decide_eq_false (by omega)
  have b0b1 : decide (0 > b) = false := decide_eq_false (by omega)
  by_cases b1 : 64 < b
  . have HR0 : Hid (((-1 : Int), (80 : Int)) = R) := hide (by rw [← hR]; simp; try omega)
    have b1b0 : decide (b > 64) = true := decide_eq_true (by omega)
    have b1b1 : decide (64 < b) = true := decide_eq_true (by omega)
    clear hR
    go_enter Tryz.func35, Tryz.ntmps35
    go_wp2_with fail
    go_ret2
    exact ⟨by rw [← HR0.out]; rfl, bnew _ _⟩
  have b1b0 : decide (b > 64) = false := decide_eq_false (by omega)
  have b1b1 : decide (64 < b) = false := decide_eq_false (by omega)
  by_cases n1 : 4096 < n
  . have HR0 : Hid (((-1 : Int), (80 : Int)) = R) := hide (by rw [← hR]; simp; try omega)
    have n1b0 : decide ((n : Int) > 4096) = true := decide_eq_true (by omega)
    have n1b1 : decide ((4096 : Int) < (n : Int)) = true := decide_eq_true (by omega)
    have n1b2 : decide (4096 < n) = true := decide_eq_true (by omega)
    clear hR
    go_enter Tryz.func35, Tryz.ntmps35
    go_wp2_with fail
    go_ret2
    exact ⟨by rw [← HR0.out]; rfl, bnew _ _⟩
  have n1b0 : decide ((n : Int) > 4096) = false := decide_eq_false (by omega)
  have n1b1 : decide ((4096 : Int) < (n : Int)) = false := decide_eq_false (by omega)
  have n1b2 : decide (4096 < n) = false := decide_eq_false (by omega)
  have HR : Hid ((match badI q b 0 ops with | some i => ((i : Int), (80 : Int)) | none => (0, 0)) = R) := hide (by
    rw [← hR, if_neg (by simp only [Bool.or_eq_true, Bool.not_eq_true', Bool.and_eq_false_iff, decide_eq_true_eq, decide_eq_false_iff_not]; omega)]
    cases badI q b 0 ops <;> rfl)
  clear hR
  have HK : Hid (∀ V, Below (w.alloc (.cells #[.int .i64 q, .int .i64 b, .slice ao n k] 24)).heap.size (w.alloc (.cells #[.int .i64 q, .int .i64 b, .slice ao n k] 24)) V -> V.cell? ⟨w.heap.size, 0, none⟩ = some (.int .i64 q) /\ V.cell? ⟨w.heap.size, 1, none⟩ = some (.int .i64 b) /\ V.cell? ⟨w.heap.size, 2, none⟩ = some (.slice ao n k) /\ w.heap.size < V.heap.size) := hide (fun V hV => def_cells ((hV.block w.heap.size (by simp)).trans (heap_alloc_new w _)))
  have HB0 := hide (bnew w (.cells #[.int .i64 q, .int .i64 b, .slice ao n k] 24))
  go_enter Tryz.func35, Tryz.ntmps35
  go_wp2_with fail
  generalize hWW : (w.alloc (.cells #[.int .i64 q, .int .i64 b, .slice ao n k] 24)) = WW at *
  clear hWW q0 q1 b0 b1
  go_loopw [4] (fun vi wr => ∃ i : Nat, vi = .int .i64 (i : Int) /\ i <= n /\ Hid (∀ x ∈ ops.take i, mayP q b x = true) /\ Below WW.heap.size WW wr) (fun vi _ => n - (Go.RowKit.intOf vi).toNat)
  case atStart => exact ⟨0, rfl, Nat.zero_le _, hide (fun x hx => by simp at hx), Below.refl _ _⟩
  case round =>
    obtain ⟨i, rfl, hi, HA, hbW⟩ := hrel
    have hb := HB0.out.trans (hbW.mono HB0.out.size)
    obtain ⟨x0, x1, x2, xl⟩ := HK.out wr hbW
    by_cases h : i < n
    . have hd : decide ((i : Int) < (n : Int)) = true := decide_eq_true (by omega)
      obtain ⟨o, ho⟩ : ∃ o, ops[i]? = some o := ⟨_, List.getElem?_eq_getElem (by rw [HL.out]; exact h)⟩
      have hom := List.mem_of_getElem? ho
      obtain ⟨g, off, aq, cq, rfl, hgl, hoc⟩ := (HC.out.below hb).ops.at (show (⟨q, b, ops⟩ : Circ).ops[i]? = some o from ho)
      have HCo := hide (fun V (h : Below wr.heap.size wr V) => HM.out V o hom aq cq (hoc.ns.below h))
      have HO1 := hide hoc
      have HSt : Hid (mayP q b o = true -> ∀ x ∈ ops.take (i + 1), mayP q b x = true) := hide (fun e x hx => by
        rw [List.take_add_one, ho] at hx
        rcases List.mem_append.1 hx with hx | hx
        . exact HA.out x hx
        . simp at hx; rw [hx]; exact e)
      have HNo : Hid (mayP q b o = false -> R = ((i : Int), 80)) := hide (fun e => by
        rw [← HR.out, badI_some q b 0 ops i o HA.out ho e, Nat.zero_add])
      have HXY : Hid (∀ V, Below wr.heap.size wr V -> (V.cell? ⟨w.heap.size, 0, none⟩ = some (.int .i64 q) /\ V.cell? ⟨w.heap.size, 1, none⟩ = some (.int .i64 b) /\ V.cell? ⟨w.heap.size, 2, none⟩ = some (.slice (some ⟨g, off, none⟩) n k) /\ w.heap.size < V.heap.size) /\ g < V.heap.size /\ (V.cell? ⟨g, off + i * 6, none⟩ = some (.int .i64 o.kind) /\ V.cell? ⟨g, off + i * 6 + 1, none⟩ = some (.int .i64 o.gate) /\ V.cell? ⟨g, off + i * 6 + 2, none⟩ = some (.slice aq o.qs.length cq) /\ V.cell? ⟨g, off + i * 6 + 3, none⟩ = some (.int .i64 o.bit) /\ V.cell? ⟨g, off + i * 6 + 4, none⟩ = some (.int .i64 o.cond) /\ V.cell? ⟨g, off + i * 6 + 5, none⟩ = some (.int .i64 o.whn))) := hide (fun V hV => by
        have a1 := HO1.out.below hV
        exact ⟨HK.out V (hbW.trans (hV.mono hbW.size)), Nat.lt_of_lt_of_le hgl hV.size, ⟨a1.kind, a1.gate, a1.qs, a1.bit, a1.cond, a1.whn⟩⟩)
      clear hoc ho hom HO1
      unfold opV at HCo
      generalize mayP q b o = mb at *
      have hi1 : (0 : Int) <= (i : Int) := by omega
      have hi2 : (i : Int) < (n : Int) := by omega
      obtain ⟨kk1, g1, q1', b1', i1, n1'⟩ := o
      simp only at *
      generalize q1'.length = ql1 at *
      go_wp2_with fail
      clear x0 x1 x2
      refine wp_region_quiet (C := fun W => Below wr.heap.size wr W) (by kernel_rfl) (by kernel_rfl) (below_drewN (Below.refl _ _) 1) ?_
      repeat
        refine wpQuiet_step (fun K hK => ?_)
        go_simp
        first
          | (refine hK _ ?_; clear hK K)
          | (apply Exists.intro
             refine ⟨fun W hW => ?_, hK _ ?_⟩
             first
               | ((with_reducible refine Calls.mono (HCo.out _ hW) ?_); rintro e x ⟨rfl, q⟩; exact ⟨rfl, hW.trans (q.mono hW.size)⟩)
               | (obtain ⟨⟨v0, v1, v2, v2'⟩, v3, ⟨r0, r1, r2, r3, r4, r5⟩⟩ := HXY.out W hW; go_simp; rfl)
             clear hK K)
      refine wpQuiet_nil ?_
      intro W hW
      have hbF := hbW.trans (hW.mono hbW.size)
      obtain ⟨⟨v0, v1, v2, v2'⟩, -⟩ := HXY.out W hW
      clear HXY
      cases mb with
      | true =>
        have HY2 := hide (HSt.out rfl)
        clear HSt HNo
        go_wp2_with fail
        go_roundw
        case rel => exact ⟨i + 1, by go_num, by omega, HY2, hbF⟩
        case measure => simp [Go.RowKit.intOf]; omega
      | false =>
        have HN2 := hide (HNo.out rfl)
        clear HSt HNo
        go_wp2_with fail
        go_ret2
        exact ⟨by rw [HN2.out]; rfl, HB0.out.trans (hbF.mono HB0.out.size)⟩
    . obtain rfl : n = i := by omega
      have hz : R = (0, 0) := by
        have hA := HA.out
        rw [List.take_of_length_le (by rw [HL.out]; exact Nat.le_refl _)] at hA
        rw [← HR.out, badI_none q b 0 ops hA]
      subst hz
      go_wp2_with fail
      go_ret2
      exact ⟨rfl, hb⟩
theorem eMay (c : Circ) (ao : Option Addr) (k : Nat) (w : World) (hC : Ci w c ao k) : Calls Tryz.prog 14 #[cV c ao k] w fun e w' => e = .returned (.bool ((chkC c).2 == 0)) /\ Below w.heap.size w w' := by
  have c1 := fun V (h : Below w.heap.size w V) => eCheck c ao k V (hC.below h)
  obtain ⟨q, b, ops⟩ := c
  unfold cV at *
  simp only at *
  generalize (chkC ⟨q, b, ops⟩).1 = z1 at *
  generalize (chkC ⟨q, b, ops⟩).2 = z2 at *
  generalize ops.length = n at *
  clear hC
  go_enter Tryz.func14, Tryz.ntmps14
  go_wp2_with (first | (go_at_call 35; refine (c1 _ (bnew _ _)).mono ?_; rintro e w1 ⟨rfl, hb1⟩))
  go_ret
  exact ⟨rfl, (bnew _ _).trans (hb1.mono (by simp))⟩
end Go.Proofs.YtjiopaojhenanaaGreatDoor.Cir
