import Derived.Test.YtoickolhekhgmaaGreatDoorEn9632178a
namespace Go.Proofs.YtoickolhekhgmaaGreatDoor.Gt
end Go.Proofs.YtoickolhekhgmaaGreatDoor.Gt
namespace Go.Proofs.YtoickolhekhgmaaGreatDoor.Oct
end Go.Proofs.YtoickolhekhgmaaGreatDoor.Oct
namespace Go.Proofs.YtoickolhekhgmaaGreatDoor.Tok
end Go.Proofs.YtoickolhekhgmaaGreatDoor.Tok
set_option maxRecDepth 100000
set_option maxHeartbeats 8000000
namespace Go.Proofs.YtoickolhekhgmaaGreatDoor.Cir
open Go.RowKit Go.Shelf Go.Proofs.YtoickolhekhgmaaGreatDoor.Oct Go.Proofs.YtoickolhekhgmaaGreatDoor.Tok Go.Proofs.YtoickolhekhgmaaGreatDoor.Gt
def mayG (kind gate : Int) (len : Nat) (bit cond whn b ck : Int) (ap : Bool) : Bool :=
  if kind = 1 then decide (ck = 0) && decide (bit = 0) && ((decide (cond = -1) && decide (whn = 0)) || (wiP cond b && wiP whn 2))
  else if kind = 2 then (decide (gate = 0) && (decide (cond = -1) && decide (whn = 0))) && decide (len = 1) && ap && wiP bit b
  else if kind = 3 then (decide (gate = 0) && (decide (cond = -1) && decide (whn = 0))) && decide (len = 1) && ap && decide (bit = 0)
  else if kind = 4 then (decide (gate = 0) && (decide (cond = -1) && decide (whn = 0))) && decide (0 < len) && ap && decide (bit = 0)
  else false
theorem may_G (q b : Int) (o : COp) : mayP q b o = mayG o.kind o.gate o.qs.length o.bit o.cond o.whn b (chkP o.gate o.qs q) (apaP o.qs q) := rfl
theorem eOp (o : COp) (aq : Option Addr) (cq : Nat) (q b : Int) (hl : o.qs.length <= 1000000000000000) (w : World) (hN : Ns w aq o.qs) : Calls Tryz.prog 108 #[opV o aq cq, .int .i64 q, .int .i64 b] w fun e w' => e = .returned (.bool (mayP q b o)) /\ Below w.heap.size w w' := by
  rw [may_G]
  have c1 := fun V (h : Below w.heap.size w V) => hCheck o.gate aq cq o.qs q hl V (hN.below h)
  have c2 := fun V (h : Below w.heap.size w V) => eUnlike aq cq o.qs q hl V (hN.below h)
  simp only [← chk_same] at c1
  obtain ⟨kind, gate, qs, bit, cond, whn⟩ := o
  unfold opV
  simp only at *
  generalize chkP gate qs q = ck at *
  generalize apaP qs q = ap at *
  obtain ⟨n, hn⟩ : ∃ n, qs.length = n := ⟨_, rfl⟩
  rw [hn] at c1 c2 hl ⊢
  clear hn hN
  have HB0 := hide (bnew w (.cells #[.int .i64 kind, .int .i64 gate, .slice aq n cq, .int .i64 bit, .int .i64 cond, .int .i64 whn] 48))
  have HK : Hid (∀ V, Below (w.alloc (.cells #[.int .i64 kind, .int .i64 gate, .slice aq n cq, .int .i64 bit, .int .i64 cond, .int .i64 whn] 48)).heap.size (w.alloc (.cells #[.int .i64 kind, .int .i64 gate, .slice aq n cq, .int .i64 bit, .int .i64 cond, .int .i64 whn] 48)) V -> V.cell? ⟨w.heap.size, 0, none⟩ = some (.int .i64 kind) /\ V.cell? ⟨w.heap.size, 1, none⟩ = some (.int .i64 gate) /\ V.cell? ⟨w.heap.size, 2, none⟩ = some (.slice aq n cq) /\ V.cell? ⟨w.heap.size, 3, none⟩ = some (.int .i64 bit) /\ V.cell? ⟨w.heap.size, 4, none⟩ = some (.int .i64 cond) /\ V.cell? ⟨w.heap.size, 5, none⟩ = some (.int .i64 whn) /\ w.heap.size < V.heap.size /\ Below w.heap.size w V) := hide (fun V hV => by
    obtain ⟨y0, y1, y2, y3, y4, y5, y6⟩ := op6_cells ((hV.block w.heap.size (by simp)).trans (heap_alloc_new w _))
    exact ⟨y0, y1, y2, y3, y4, y5, y6, (bnew _ _).trans (hV.mono (by simp))⟩)
  by_cases k1 : kind = 1
  . subst k1
    by_cases hc : cond = (-1)
    . have hct : True := trivial
      have hcb0 : (cond == (-1)) = true := by first | simpa using hc | (simp; omega)
      by_cases hw0 : whn = 0
      . have hw0t : True := trivial
        have hw0b0 : (whn == 0) = true := by first | simpa using hw0 | (simp; omega)
        by_cases hck : ck = 0
        . have hckt : True := trivial
          have hckb0 : (ck == 0) = true := by first | simpa using hck | (simp; omega)
          by_cases hbt : bit = 0
          . have hbtt : True := trivial
            have hbtb0 : (bit == 0) = true := by first | simpa using hbt | (simp; omega)
            have HR : Hid (mayG 1 gate n bit cond whn b ck ap = true) := hide (by unfold mayG wiP; first | (simp [*]; done) | (simp [*]; omega))
            clear hc hw0 hck hbt
            go_enter Tryz.func108, Tryz.ntmps108
            go_wp2_with (first | (go_at_call 44; (with_reducible refine Calls.mono (c1 _ HB0.out) ?_); rintro e w1 ⟨rfl, hb1⟩; obtain ⟨y0, y1, y2, y3, y4, y5, y6, hbw⟩ := HK.out w1 hb1))
            go_ret
            exact ⟨by rw [HR.out]; rfl, hbw⟩
          . have hbtt : True := trivial
            have hbtb0 : (bit == 0) = false := by first | simpa using hbt | (simp; omega)
            have HR : Hid (mayG 1 gate n bit cond whn b ck ap = false) := hide (by unfold mayG wiP; first | (simp [*]; done) | (simp [*]; omega))
            clear hc hw0 hck hbt
            go_enter Tryz.func108, Tryz.ntmps108
            go_wp2_with (first | (go_at_call 44; (with_reducible refine Calls.mono (c1 _ HB0.out) ?_); rintro e w1 ⟨rfl, hb1⟩; obtain ⟨y0, y1, y2, y3, y4, y5, y6, hbw⟩ := HK.out w1 hb1))
            go_ret
            exact ⟨by rw [HR.out]; rfl, hbw⟩
        . have hckt : True := trivial
          have hckb0 : (ck == 0) = false := by first | simpa using hck | (simp; omega)
          have HR : Hid (mayG 1 gate n bit cond whn b ck ap = false) := hide (by unfold mayG wiP; first | (simp [*]; done) | (simp [*]; omega))
          clear hc hw0 hck
          go_enter Tryz.func108, Tryz.ntmps108
          go_wp2_with (first | (go_at_call 44; (with_reducible refine Calls.mono (c1 _ HB0.out) ?_); rintro e w1 ⟨rfl, hb1⟩; obtain ⟨y0, y1, y2, y3, y4, y5, y6, hbw⟩ := HK.out w1 hb1))
          go_ret
          exact ⟨by rw [HR.out]; rfl, hbw⟩
      . have hw0t : True := trivial
        have hw0b0 : (whn == 0) = false := by first | simpa using hw0 | (simp; omega)
        by_cases hck : ck = 0
        . have hckt : True := trivial
          have hckb0 : (ck == 0) = true := by first | simpa using hck | (simp; omega)
          by_cases hbt : bit = 0
          . have hbtt : True := trivial
            have hbtb0 : (bit == 0) = true := by first | simpa using hbt | (simp; omega)
            have hcg : decide (cond ≥ 0) = false := by rw [hc]; rfl
            have hcg2 : decide (0 <= cond) = false := by rw [hc]; rfl
            have HR : Hid (mayG 1 gate n bit cond whn b ck ap = false) := hide (by unfold mayG wiP; first | (simp [*]; done) | (simp [*]; omega))
            clear hc hw0 hck hbt
            go_enter Tryz.func108, Tryz.ntmps108
            go_wp2_with (first | (go_at_call 44; (with_reducible refine Calls.mono (c1 _ HB0.out) ?_); rintro e w1 ⟨rfl, hb1⟩; obtain ⟨y0, y1, y2, y3, y4, y5, y6, hbw⟩ := HK.out w1 hb1))
            go_ret
            exact ⟨by rw [HR.out]; rfl, hbw⟩
          . have hbtt : True := trivial
            have hbtb0 : (bit == 0) = false := by first | simpa using hbt | (simp; omega)
            have HR : Hid (mayG 1 gate n bit cond whn b ck ap = false) := hide (by unfold mayG wiP; first | (simp [*]; done) | (simp [*]; omega))
            clear hc hw0 hck hbt
            go_enter Tryz.func108, Tryz.ntmps108
            go_wp2_with (first | (go_at_call 44; (with_reducible refine Calls.mono (c1 _ HB0.out) ?_); rintro e w1 ⟨rfl, hb1⟩; obtain ⟨y0, y1, y2, y3, y4, y5, y6, hbw⟩ := HK.out w1 hb1))
            go_ret
            exact ⟨by rw [HR.out]; rfl, hbw⟩
        . have hckt : True := trivial
          have hckb0 : (ck == 0) = false := by first | simpa using hck | (simp; omega)
          have HR : Hid (mayG 1 gate n bit cond whn b ck ap = false) := hide (by unfold mayG wiP; first | (simp [*]; done) | (simp [*]; omega))
          clear hc hw0 hck
          go_enter Tryz.func108, Tryz.ntmps108
          go_wp2_with (first | (go_at_call 44; (with_reducible refine Calls.mono (c1 _ HB0.out) ?_); rintro e w1 ⟨rfl, hb1⟩; obtain ⟨y0, y1, y2, y3, y4, y5, y6, hbw⟩ := HK.out w1 hb1))
          go_ret
          exact ⟨by rw [HR.out]; rfl, hbw⟩
    . have hct : True := trivial
      have hcb0 : (cond == (-1)) = false := by first | simpa using hc | (simp; omega)
      by_cases hck : ck = 0
      . have hckt : True := trivial
        have hckb0 : (ck == 0) = true := by first | simpa using hck | (simp; omega)
        by_cases hbt : bit = 0
        . have hbtt : True := trivial
          have hbtb0 : (bit == 0) = true := by first | simpa using hbt | (simp; omega)
          by_cases hcn : cond < 0
          . have hcnt : True := trivial
            have hcnb0 : decide (cond < 0) = true := by first | simpa using hcn | (simp; omega)
            have hcnb1 : decide (0 > cond) = true := by first | simpa using hcn | (simp; omega)
            have hcnb2 : decide (cond ≥ 0) = false := by first | simpa using hcn | (simp; omega)
            have hcnb3 : decide (0 <= cond) = false := by first | simpa using hcn | (simp; omega)
            have HR : Hid (mayG 1 gate n bit cond whn b ck ap = false) := hide (by unfold mayG wiP; first | (simp [*]; done) | (simp [*]; omega))
            clear hc hck hbt hcn
            go_enter Tryz.func108, Tryz.ntmps108
            go_wp2_with (first | (go_at_call 44; (with_reducible refine Calls.mono (c1 _ HB0.out) ?_); rintro e w1 ⟨rfl, hb1⟩; obtain ⟨y0, y1, y2, y3, y4, y5, y6, hbw⟩ := HK.out w1 hb1))
            go_ret
            exact ⟨by rw [HR.out]; rfl, hbw⟩
          . have hcnt : True := trivial
            have hcnb0 : decide (cond < 0) = false := by first | simpa using hcn | (simp; omega)
            have hcnb1 : decide (0 > cond) = false := by first | simpa using hcn | (simp; omega)
            have hcnb2 : decide (cond ≥ 0) = true := by first | simpa using hcn | (simp; omega)
            have hcnb3 : decide (0 <= cond) = true := by first | simpa using hcn | (simp; omega)
            by_cases hcb : cond < b
            . have hcbt : True := trivial
              have hcbb0 : decide (cond < b) = true := by first | simpa using hcb | (simp; omega)
              have hcbb1 : decide (b > cond) = true := by first | simpa using hcb | (simp; omega)
              have hcbb2 : decide (cond ≥ b) = false := by first | simpa using hcb | (simp; omega)
              have hcbb3 : decide (b <= cond) = false := by first | simpa using hcb | (simp; omega)
              by_cases hw0 : whn = 0
              . have hw0t : True := trivial
                have hw0b0 : (whn == 0) = true := by first | simpa using hw0 | (simp; omega)
                have HR : Hid (mayG 1 gate n bit cond whn b ck ap = true) := hide (by unfold mayG wiP; first | (simp [*]; done) | (simp [*]; omega))
                clear hc hck hbt hcn hcb hw0
                go_enter Tryz.func108, Tryz.ntmps108
                go_wp2_with (first | (go_at_call 44; (with_reducible refine Calls.mono (c1 _ HB0.out) ?_); rintro e w1 ⟨rfl, hb1⟩; obtain ⟨y0, y1, y2, y3, y4, y5, y6, hbw⟩ := HK.out w1 hb1))
                go_ret
                exact ⟨by rw [HR.out]; rfl, hbw⟩
              . have hw0t : True := trivial
                have hw0b0 : (whn == 0) = false := by first | simpa using hw0 | (simp; omega)
                by_cases hw1 : whn = 1
                . have hw1t : True := trivial
                  have hw1b0 : (whn == 1) = true := by first | simpa using hw1 | (simp; omega)
                  have HR : Hid (mayG 1 gate n bit cond whn b ck ap = true) := hide (by unfold mayG wiP; first | (simp [*]; done) | (simp [*]; omega))
                  clear hc hck hbt hcn hcb hw0 hw1
                  go_enter Tryz.func108, Tryz.ntmps108
                  go_wp2_with (first | (go_at_call 44; (with_reducible refine Calls.mono (c1 _ HB0.out) ?_); rintro e w1 ⟨rfl, hb1⟩; obtain ⟨y0, y1, y2, y3, y4, y5, y6, hbw⟩ := HK.out w1 hb1))
                  go_ret
                  exact ⟨by rw [HR.out]; rfl, hbw⟩
                . have hw1t : True := trivial
                  have hw1b0 : (whn == 1) = false := by first | simpa using hw1 | (simp; omega)
                  have HR : Hid (mayG 1 gate n bit cond whn b ck ap = false) := hide (by unfold mayG wiP; first | (simp [*]; done) | (simp [*]; omega))
                  clear hc hck hbt hcn hcb hw0 hw1
                  go_enter Tryz.func108, Tryz.ntmps108
                  go_wp2_with (first | (go_at_call 44; (with_reducible refine Calls.mono (c1 _ HB0.out) ?_); rintro e w1 ⟨rfl, hb1⟩; obtain ⟨y0, y1, y2, y3, y4, y5, y6, hbw⟩ := HK.out w1 hb1))
                  go_ret
                  exact ⟨by rw [HR.out]; rfl, hbw⟩
            . have hcbt : True := trivial
              have hcbb0 : decide (cond < b) = false := by first | simpa using hcb | (simp; omega)
              have hcbb1 : decide (b > cond) = false := by first | simpa using hcb | (simp; omega)
              have hcbb2 : decide (cond ≥ b) = true := by first | simpa using hcb | (simp; omega)
              have hcbb3 : decide (b <= cond) = true := by first | simpa using hcb | (simp; omega)
              have HR : Hid (mayG 1 gate n bit cond whn b ck ap = false) := hide (by unfold mayG wiP; first | (simp [*]; done) | (simp [*]; omega))
              clear hc hck hbt hcn hcb
              go_enter Tryz.func108, Tryz.ntmps108
              go_wp2_with (first | (go_at_call 44; (with_reducible refine Calls.mono (c1 _ HB0.out) ?_); rintro e w1 ⟨rfl, hb1⟩; obtain ⟨y0, y1, y2, y3, y4, y5, y6, hbw⟩ := HK.out w1 hb1))
              go_ret
              exact ⟨by rw [HR.out]; rfl, hbw⟩
        . have hbtt : True := trivial
          have hbtb0 : (bit == 0) = false := by first | simpa using hbt | (simp; omega)
          have HR : Hid (mayG 1 gate n bit cond whn b ck ap = false) := hide (by unfold mayG wiP; first | (simp [*]; done) | (simp [*]; omega))
          clear hc hck hbt
          go_enter Tryz.func108, Tryz.ntmps108
          go_wp2_with (first | (go_at_call 44; (with_reducible refine Calls.mono (c1 _ HB0.out) ?_); rintro e w1 ⟨rfl, hb1⟩; obtain ⟨y0, y1, y2, y3, y4, y5, y6, hbw⟩ := HK.out w1 hb1))
          go_ret
          exact ⟨by rw [HR.out]; rfl, hbw⟩
      . have hckt : True := trivial
        have hckb0 : (ck == 0) = false := by first | simpa using hck | (simp; omega)
        have HR : Hid (mayG 1 gate n bit cond whn b ck ap = false) := hide (by unfold mayG wiP; first | (simp [*]; done) | (simp [*]; omega))
        clear hc hck
        go_enter Tryz.func108, Tryz.ntmps108
        go_wp2_with (first | (go_at_call 44; (with_reducible refine Calls.mono (c1 _ HB0.out) ?_); rintro e w1 ⟨rfl, hb1⟩; obtain ⟨y0, y1, y2, y3, y4, y5, y6, hbw⟩ := HK.out w1 hb1))
        go_ret
        exact ⟨by rw [HR.out]; rfl, hbw⟩
  have kb1 : (kind == 1) = false := by simpa using k1
  by_cases k2 : kind = 2
  . subst k2
    by_cases hc : cond = (-1)
    . have hct : True := trivial
      have hcb0 : (cond == (-1)) = true := by first | simpa using hc | (simp; omega)
      by_cases hw0 : whn = 0
      . have hw0t : True := trivial
        have hw0b0 : (whn == 0) = true := by first | simpa using hw0 | (simp; omega)
        by_cases hg : gate = 0
        . have hgt : True := trivial
          have hgb0 : (gate == 0) = true := by first | simpa using hg | (simp; omega)
          by_cases hln : n = 1
          . have hlnt : True := trivial
            have hlnb0 : ((n : Int) == 1) = true := by first | simpa using hln | (simp; omega)
            have hlnb1 : (n == 1) = true := by first | simpa using hln | (simp; omega)
            cases ap with
            | false =>
              have HR : Hid (mayG 2 gate n bit cond whn b ck false = false) := hide (by unfold mayG wiP; first | (simp [*]; done) | (simp [*]; omega))
              clear hc hw0 hg hln
              go_enter Tryz.func108, Tryz.ntmps108
              go_wp2_with (first | (go_at_call 127; (with_reducible refine Calls.mono (c2 _ HB0.out) ?_); rintro e w1 ⟨rfl, hb1⟩; obtain ⟨y0, y1, y2, y3, y4, y5, y6, hbw⟩ := HK.out w1 hb1))
              go_ret
              exact ⟨by rw [HR.out]; rfl, hbw⟩
            | true =>
              by_cases hb0 : bit < 0
              . have hb0t : True := trivial
                have hb0b0 : decide (bit < 0) = true := by first | simpa using hb0 | (simp; omega)
                have hb0b1 : decide (0 > bit) = true := by first | simpa using hb0 | (simp; omega)
                have hb0b2 : decide (bit ≥ 0) = false := by first | simpa using hb0 | (simp; omega)
                have hb0b3 : decide (0 <= bit) = false := by first | simpa using hb0 | (simp; omega)
                have HR : Hid (mayG 2 gate n bit cond whn b ck true = false) := hide (by unfold mayG wiP; first | (simp [*]; done) | (simp [*]; omega))
                clear hc hw0 hg hln hb0
                go_enter Tryz.func108, Tryz.ntmps108
                go_wp2_with (first | (go_at_call 127; (with_reducible refine Calls.mono (c2 _ HB0.out) ?_); rintro e w1 ⟨rfl, hb1⟩; obtain ⟨y0, y1, y2, y3, y4, y5, y6, hbw⟩ := HK.out w1 hb1))
                go_ret
                exact ⟨by rw [HR.out]; rfl, hbw⟩
              . have hb0t : True := trivial
                have hb0b0 : decide (bit < 0) = false := by first | simpa using hb0 | (simp; omega)
                have hb0b1 : decide (0 > bit) = false := by first | simpa using hb0 | (simp; omega)
                have hb0b2 : decide (bit ≥ 0) = true := by first | simpa using hb0 | (simp; omega)
                have hb0b3 : decide (0 <= bit) = true := by first | simpa using hb0 | (simp; omega)
                by_cases hbb : bit < b
                . have hbbt : True := trivial
                  have hbbb0 : decide (bit < b) = true := by first | simpa using hbb | (simp; omega)
                  have hbbb1 : decide (b > bit) = true := by first | simpa using hbb | (simp; omega)
                  have hbbb2 : decide (bit ≥ b) = false := by first | simpa using hbb | (simp; omega)
                  have hbbb3 : decide (b <= bit) = false := by first | simpa using hbb | (simp; omega)
                  have HR : Hid (mayG 2 gate n bit cond whn b ck true = true) := hide (by unfold mayG wiP; first | (simp [*]; done) | (simp [*]; omega))
                  clear hc hw0 hg hln hb0 hbb
                  go_enter Tryz.func108, Tryz.ntmps108
                  go_wp2_with (first | (go_at_call 127; (with_reducible refine Calls.mono (c2 _ HB0.out) ?_); rintro e w1 ⟨rfl, hb1⟩; obtain ⟨y0, y1, y2, y3, y4, y5, y6, hbw⟩ := HK.out w1 hb1))
                  go_ret
                  exact ⟨by rw [HR.out]; rfl, hbw⟩
                . have hbbt : True := trivial
                  have hbbb0 : decide (bit < b) = false := by first | simpa using hbb | (simp; omega)
                  have hbbb1 : decide (b > bit) = false := by first | simpa using hbb | (simp; omega)
                  have hbbb2 : decide (bit ≥ b) = true := by first | simpa using hbb | (simp; omega)
                  have hbbb3 : decide (b <= bit) = true := by first | simpa using hbb | (simp; omega)
                  have HR : Hid (mayG 2 gate n bit cond whn b ck true = false) := hide (by unfold mayG wiP; first | (simp [*]; done) | (simp [*]; omega))
                  clear hc hw0 hg hln hb0 hbb
                  go_enter Tryz.func108, Tryz.ntmps108
                  go_wp2_with (first | (go_at_call 127; (with_reducible refine Calls.mono (c2 _ HB0.out) ?_); rintro e w1 ⟨rfl, hb1⟩; obtain ⟨y0, y1, y2, y3, y4, y5, y6, hbw⟩ := HK.out w1 hb1))
                  go_ret
                  exact ⟨by rw [HR.out]; rfl, hbw⟩
          . have hlnt : True := trivial
            have hlnb0 : ((n : Int) == 1) = false := by first | simpa using hln | (simp; omega)
            have hlnb1 : (n == 1) = false := by first | simpa using hln | (simp; omega)
            have HR : Hid (mayG 2 gate n bit cond whn b ck ap = false) := hide (by unfold mayG wiP; first | (simp [*]; done) | (simp [*]; omega))
            clear hc hw0 hg hln
            go_enter Tryz.func108, Tryz.ntmps108
            go_wp2_with fail
            go_ret
            exact ⟨by rw [HR.out]; rfl, HB0.out⟩
        . have hgt : True := trivial
          have hgb0 : (gate == 0) = false := by first | simpa using hg | (simp; omega)
          have HR : Hid (mayG 2 gate n bit cond whn b ck ap = false) := hide (by unfold mayG wiP; first | (simp [*]; done) | (simp [*]; omega))
          clear hc hw0 hg
          go_enter Tryz.func108, Tryz.ntmps108
          go_wp2_with fail
          go_ret
          exact ⟨by rw [HR.out]; rfl, HB0.out⟩
      . have hw0t : True := trivial
        have hw0b0 : (whn == 0) = false := by first | simpa using hw0 | (simp; omega)
        by_cases hg : gate = 0
        . have hgt : True := trivial
          have hgb0 : (gate == 0) = true := by first | simpa using hg | (simp; omega)
          by_cases hln : n = 1
          . have hlnt : True := trivial
            have hlnb0 : ((n : Int) == 1) = true := by first | simpa using hln | (simp; omega)
            have hlnb1 : (n == 1) = true := by first | simpa using hln | (simp; omega)
            cases ap with
            | false =>
              have HR : Hid (mayG 2 gate n bit cond whn b ck false = false) := hide (by unfold mayG wiP; first | (simp [*]; done) | (simp [*]; omega))
              clear hc hw0 hg hln
              go_enter Tryz.func108, Tryz.ntmps108
              go_wp2_with (first | (go_at_call 127; (with_reducible refine Calls.mono (c2 _ HB0.out) ?_); rintro e w1 ⟨rfl, hb1⟩; obtain ⟨y0, y1, y2, y3, y4, y5, y6, hbw⟩ := HK.out w1 hb1))
              go_ret
              exact ⟨by rw [HR.out]; rfl, hbw⟩
            | true =>
              by_cases hb0 : bit < 0
              . have hb0t : True := trivial
                have hb0b0 : decide (bit < 0) = true := by first | simpa using hb0 | (simp; omega)
                have hb0b1 : decide (0 > bit) = true := by first | simpa using hb0 | (simp; omega)
                have hb0b2 : decide (bit ≥ 0) = false := by first | simpa using hb0 | (simp; omega)
                have hb0b3 : decide (0 <= bit) = false := by first | simpa using hb0 | (simp; omega)
                have HR : Hid (mayG 2 gate n bit cond whn b ck true = false) := hide (by unfold mayG wiP; first | (simp [*]; done) | (simp [*]; omega))
                clear hc hw0 hg hln hb0
                go_enter Tryz.func108, Tryz.ntmps108
                go_wp2_with (first | (go_at_call 127; (with_reducible refine Calls.mono (c2 _ HB0.out) ?_); rintro e w1 ⟨rfl, hb1⟩; obtain ⟨y0, y1, y2, y3, y4, y5, y6, hbw⟩ := HK.out w1 hb1))
                go_ret
                exact ⟨by rw [HR.out]; rfl, hbw⟩
              . have hb0t : True := trivial
                have hb0b0 : decide (bit < 0) = false := by first | simpa using hb0 | (simp; omega)
                have hb0b1 : decide (0 > bit) = false := by first | simpa using hb0 | (simp; omega)
                have hb0b2 : decide (bit ≥ 0) = true := by first | simpa using hb0 | (simp; omega)
                have hb0b3 : decide (0 <= bit) = true := by first | simpa using hb0 | (simp; omega)
                by_cases hbb : bit < b
                . have hbbt : True := trivial
                  have hbbb0 : decide (bit < b) = true := by first | simpa using hbb | (simp; omega)
                  have hbbb1 : decide (b > bit) = true := by first | simpa using hbb | (simp; omega)
                  have hbbb2 : decide (bit ≥ b) = false := by first | simpa using hbb | (simp; omega)
                  have hbbb3 : decide (b <= bit) = false := by first | simpa using hbb | (simp; omega)
                  have HR : Hid (mayG 2 gate n bit cond whn b ck true = false) := hide (by unfold mayG wiP; first | (simp [*]; done) | (simp [*]; omega))
                  clear hc hw0 hg hln hb0 hbb
                  go_enter Tryz.func108, Tryz.ntmps108
                  go_wp2_with (first | (go_at_call 127; (with_reducible refine Calls.mono (c2 _ HB0.out) ?_); rintro e w1 ⟨rfl, hb1⟩; obtain ⟨y0, y1, y2, y3, y4, y5, y6, hbw⟩ := HK.out w1 hb1))
                  go_ret
                  exact ⟨by rw [HR.out]; rfl, hbw⟩
                . have hbbt : True := trivial
                  have hbbb0 : decide (bit < b) = false := by first | simpa using hbb | (simp; omega)
                  have hbbb1 : decide (b > bit) = false := by first | simpa using hbb | (simp; omega)
                  have hbbb2 : decide (bit ≥ b) = true := by first | simpa using hbb | (simp; omega)
                  have hbbb3 : decide (b <= bit) = true := by first | simpa using hbb | (simp; omega)
                  have HR : Hid (mayG 2 gate n bit cond whn b ck true = false) := hide (by unfold mayG wiP; first | (simp [*]; done) | (simp [*]; omega))
                  clear hc hw0 hg hln hb0 hbb
                  go_enter Tryz.func108, Tryz.ntmps108
                  go_wp2_with (first | (go_at_call 127; (with_reducible refine Calls.mono (c2 _ HB0.out) ?_); rintro e w1 ⟨rfl, hb1⟩; obtain ⟨y0, y1, y2, y3, y4, y5, y6, hbw⟩ := HK.out w1 hb1))
                  go_ret
                  exact ⟨by rw [HR.out]; rfl, hbw⟩
          . have hlnt : True := trivial
            have hlnb0 : ((n : Int) == 1) = false := by first | simpa using hln | (simp; omega)
            have hlnb1 : (n == 1) = false := by first | simpa using hln | (simp; omega)
            have HR : Hid (mayG 2 gate n bit cond whn b ck ap = false) := hide (by unfold mayG wiP; first | (simp [*]; done) | (simp [*]; omega))
            clear hc hw0 hg hln
            go_enter Tryz.func108, Tryz.ntmps108
            go_wp2_with fail
            go_ret
            exact ⟨by rw [HR.out]; rfl, HB0.out⟩
        . have hgt : True := trivial
          have hgb0 : (gate == 0) = false := by first | simpa using hg | (simp; omega)
          have HR : Hid (mayG 2 gate n bit cond whn b ck ap = false) := hide (by unfold mayG wiP; first | (simp [*]; done) | (simp [*]; omega))
          clear hc hw0 hg
          go_enter Tryz.func108, Tryz.ntmps108
          go_wp2_with fail
          go_ret
          exact ⟨by rw [HR.out]; rfl, HB0.out⟩
    . have hct : True := trivial
      have hcb0 : (cond == (-1)) = false := by first | simpa using hc | (simp; omega)
      by_cases hg : gate = 0
      . have hgt : True := trivial
        have hgb0 : (gate == 0) = true := by first | simpa using hg | (simp; omega)
        by_cases hln : n = 1
        . have hlnt : True := trivial
          have hlnb0 : ((n : Int) == 1) = true := by first | simpa using hln | (simp; omega)
          have hlnb1 : (n == 1) = true := by first | simpa using hln | (simp; omega)
          cases ap with
          | false =>
            have HR : Hid (mayG 2 gate n bit cond whn b ck false = false) := hide (by unfold mayG wiP; first | (simp [*]; done) | (simp [*]; omega))
            clear hc hg hln
            go_enter Tryz.func108, Tryz.ntmps108
            go_wp2_with (first | (go_at_call 127; (with_reducible refine Calls.mono (c2 _ HB0.out) ?_); rintro e w1 ⟨rfl, hb1⟩; obtain ⟨y0, y1, y2, y3, y4, y5, y6, hbw⟩ := HK.out w1 hb1))
            go_ret
            exact ⟨by rw [HR.out]; rfl, hbw⟩
          | true =>
            by_cases hb0 : bit < 0
            . have hb0t : True := trivial
              have hb0b0 : decide (bit < 0) = true := by first | simpa using hb0 | (simp; omega)
              have hb0b1 : decide (0 > bit) = true := by first | simpa using hb0 | (simp; omega)
              have hb0b2 : decide (bit ≥ 0) = false := by first | simpa using hb0 | (simp; omega)
              have hb0b3 : decide (0 <= bit) = false := by first | simpa using hb0 | (simp; omega)
              have HR : Hid (mayG 2 gate n bit cond whn b ck true = false) := hide (by unfold mayG wiP; first | (simp [*]; done) | (simp [*]; omega))
              clear hc hg hln hb0
              go_enter Tryz.func108, Tryz.ntmps108
              go_wp2_with (first | (go_at_call 127; (with_reducible refine Calls.mono (c2 _ HB0.out) ?_); rintro e w1 ⟨rfl, hb1⟩; obtain ⟨y0, y1, y2, y3, y4, y5, y6, hbw⟩ := HK.out w1 hb1))
              go_ret
              exact ⟨by rw [HR.out]; rfl, hbw⟩
            . have hb0t : True := trivial
              have hb0b0 : decide (bit < 0) = false := by first | simpa using hb0 | (simp; omega)
              have hb0b1 : decide (0 > bit) = false := by first | simpa using hb0 | (simp; omega)
              have hb0b2 : decide (bit ≥ 0) = true := by first | simpa using hb0 | (simp; omega)
              have hb0b3 : decide (0 <= bit) = true := by first | simpa using hb0 | (simp; omega)
              by_cases hbb : bit < b
              . have hbbt : True := trivial
                have hbbb0 : decide (bit < b) = true := by first | simpa using hbb | (simp; omega)
                have hbbb1 : decide (b > bit) = true := by first | simpa using hbb | (simp; omega)
                have hbbb2 : decide (bit ≥ b) = false := by first | simpa using hbb | (simp; omega)
                have hbbb3 : decide (b <= bit) = false := by first | simpa using hbb | (simp; omega)
                have HR : Hid (mayG 2 gate n bit cond whn b ck true = false) := hide (by unfold mayG wiP; first | (simp [*]; done) | (simp [*]; omega))
                clear hc hg hln hb0 hbb
                go_enter Tryz.func108, Tryz.ntmps108
                go_wp2_with (first | (go_at_call 127; (with_reducible refine Calls.mono (c2 _ HB0.out) ?_); rintro e w1 ⟨rfl, hb1⟩; obtain ⟨y0, y1, y2, y3, y4, y5, y6, hbw⟩ := HK.out w1 hb1))
                go_ret
                exact ⟨by rw [HR.out]; rfl, hbw⟩
              . have hbbt : True := trivial
                have hbbb0 : decide (bit < b) = false := by first | simpa using hbb | (simp; omega)
                have hbbb1 : decide (b > bit) = false := by first | simpa using hbb | (simp; omega)
                have hbbb2 : decide (bit ≥ b) = true := by first | simpa using hbb | (simp; omega)
                have hbbb3 : decide (b <= bit) = true := by first | simpa using hbb | (simp; omega)
                have HR : Hid (mayG 2 gate n bit cond whn b ck true = false) := hide (by unfold mayG wiP; first | (simp [*]; done) | (simp [*]; omega))
                clear hc hg hln hb0 hbb
                go_enter Tryz.func108, Tryz.ntmps108
                go_wp2_with (first | (go_at_call 127; (with_reducible refine Calls.mono (c2 _ HB0.out) ?_); rintro e w1 ⟨rfl, hb1⟩; obtain ⟨y0, y1, y2, y3, y4, y5, y6, hbw⟩ := HK.out w1 hb1))
                go_ret
                exact ⟨by rw [HR.out]; rfl, hbw⟩
        . have hlnt : True := trivial
          have hlnb0 : ((n : Int) == 1) = false := by first | simpa using hln | (simp; omega)
          have hlnb1 : (n == 1) = false := by first | simpa using hln | (simp; omega)
          have HR : Hid (mayG 2 gate n bit cond whn b ck ap = false) := hide (by unfold mayG wiP; first | (simp [*]; done) | (simp [*]; omega))
          clear hc hg hln
          go_enter Tryz.func108, Tryz.ntmps108
          go_wp2_with fail
          go_ret
          exact ⟨by rw [HR.out]; rfl, HB0.out⟩
      . have hgt : True := trivial
        have hgb0 : (gate == 0) = false := by first | simpa using hg | (simp; omega)
        have HR : Hid (mayG 2 gate n bit cond whn b ck ap = false) := hide (by unfold mayG wiP; first | (simp [*]; done) | (simp [*]; omega))
        clear hc hg
        go_enter Tryz.func108, Tryz.ntmps108
        go_wp2_with fail
        go_ret
        exact ⟨by rw [HR.out]; rfl, HB0.out⟩
  have kb2 : (kind == 2) = false := by simpa using k2
  by_cases k3 : kind = 3
  . subst k3
    by_cases hc : cond = (-1)
    . have hct : True := trivial
      have hcb0 : (cond == (-1)) = true := by first | simpa using hc | (simp; omega)
      by_cases hw0 : whn = 0
      . have hw0t : True := trivial
        have hw0b0 : (whn == 0) = true := by first | simpa using hw0 | (simp; omega)
        by_cases hg : gate = 0
        . have hgt : True := trivial
          have hgb0 : (gate == 0) = true := by first | simpa using hg | (simp; omega)
          by_cases hln : n = 1
          . have hlnt : True := trivial
            have hlnb0 : ((n : Int) == 1) = true := by first | simpa using hln | (simp; omega)
            have hlnb1 : (n == 1) = true := by first | simpa using hln | (simp; omega)
            cases ap with
            | false =>
              have HR : Hid (mayG 3 gate n bit cond whn b ck false = false) := hide (by unfold mayG wiP; first | (simp [*]; done) | (simp [*]; omega))
              clear hc hw0 hg hln
              go_enter Tryz.func108, Tryz.ntmps108
              go_wp2_with (first | (go_at_call 127; (with_reducible refine Calls.mono (c2 _ HB0.out) ?_); rintro e w1 ⟨rfl, hb1⟩; obtain ⟨y0, y1, y2, y3, y4, y5, y6, hbw⟩ := HK.out w1 hb1))
              go_ret
              exact ⟨by rw [HR.out]; rfl, hbw⟩
            | true =>
              by_cases hbt : bit = 0
              . have hbtt : True := trivial
                have hbtb0 : (bit == 0) = true := by first | simpa using hbt | (simp; omega)
                have HR : Hid (mayG 3 gate n bit cond whn b ck true = true) := hide (by unfold mayG wiP; first | (simp [*]; done) | (simp [*]; omega))
                clear hc hw0 hg hln hbt
                go_enter Tryz.func108, Tryz.ntmps108
                go_wp2_with (first | (go_at_call 127; (with_reducible refine Calls.mono (c2 _ HB0.out) ?_); rintro e w1 ⟨rfl, hb1⟩; obtain ⟨y0, y1, y2, y3, y4, y5, y6, hbw⟩ := HK.out w1 hb1))
                go_ret
                exact ⟨by rw [HR.out]; rfl, hbw⟩
              . have hbtt : True := trivial
                have hbtb0 : (bit == 0) = false := by first | simpa using hbt | (simp; omega)
                have HR : Hid (mayG 3 gate n bit cond whn b ck true = false) := hide (by unfold mayG wiP; first | (simp [*]; done) | (simp [*]; omega))
                clear hc hw0 hg hln hbt
                go_enter Tryz.func108, Tryz.ntmps108
                go_wp2_with (first | (go_at_call 127; (with_reducible refine Calls.mono (c2 _ HB0.out) ?_); rintro e w1 ⟨rfl, hb1⟩; obtain ⟨y0, y1, y2, y3, y4, y5, y6, hbw⟩ := HK.out w1 hb1))
                go_ret
                exact ⟨by rw [HR.out]; rfl, hbw⟩
          . have hlnt : True := trivial
            have hlnb0 : ((n : Int) == 1) = false := by first | simpa using hln | (simp; omega)
            have hlnb1 : (n == 1) = false := by first | simpa using hln | (simp; omega)
            have HR : Hid (mayG 3 gate n bit cond whn b ck ap = false) := hide (by unfold mayG wiP; first | (simp [*]; done) | (simp [*]; omega))
            clear hc hw0 hg hln
            go_enter Tryz.func108, Tryz.ntmps108
            go_wp2_with fail
            go_ret
            exact ⟨by rw [HR.out]; rfl, HB0.out⟩
        . have hgt : True := trivial
          have hgb0 : (gate == 0) = false := by first | simpa using hg | (simp; omega)
          have HR : Hid (mayG 3 gate n bit cond whn b ck ap = false) := hide (by unfold mayG wiP; first | (simp [*]; done) | (simp [*]; omega))
          clear hc hw0 hg
          go_enter Tryz.func108, Tryz.ntmps108
          go_wp2_with fail
          go_ret
          exact ⟨by rw [HR.out]; rfl, HB0.out⟩
      . have hw0t : True := trivial
        have hw0b0 : (whn == 0) = false := by first | simpa using hw0 | (simp; omega)
        by_cases hg : gate = 0
        . have hgt : True := trivial
          have hgb0 : (gate == 0) = true := by first | simpa using hg | (simp; omega)
          by_cases hln : n = 1
          . have hlnt : True := trivial
            have hlnb0 : ((n : Int) == 1) = true := by first | simpa using hln | (simp; omega)
            have hlnb1 : (n == 1) = true := by first | simpa using hln | (simp; omega)
            cases ap with
            | false =>
              have HR : Hid (mayG 3 gate n bit cond whn b ck false = false) := hide (by unfold mayG wiP; first | (simp [*]; done) | (simp [*]; omega))
              clear hc hw0 hg hln
              go_enter Tryz.func108, Tryz.ntmps108
              go_wp2_with (first | (go_at_call 127; (with_reducible refine Calls.mono (c2 _ HB0.out) ?_); rintro e w1 ⟨rfl, hb1⟩; obtain ⟨y0, y1, y2, y3, y4, y5, y6, hbw⟩ := HK.out w1 hb1))
              go_ret
              exact ⟨by rw [HR.out]; rfl, hbw⟩
            | true =>
              by_cases hbt : bit = 0
              . have hbtt : True := trivial
                have hbtb0 : (bit == 0) = true := by first | simpa using hbt | (simp; omega)
                have HR : Hid (mayG 3 gate n bit cond whn b ck true = false) := hide (by unfold mayG wiP; first | (simp [*]; done) | (simp [*]; omega))
                clear hc hw0 hg hln hbt
                go_enter Tryz.func108, Tryz.ntmps108
                go_wp2_with (first | (go_at_call 127; (with_reducible refine Calls.mono (c2 _ HB0.out) ?_); rintro e w1 ⟨rfl, hb1⟩; obtain ⟨y0, y1, y2, y3, y4, y5, y6, hbw⟩ := HK.out w1 hb1))
                go_ret
                exact ⟨by rw [HR.out]; rfl, hbw⟩
              . have hbtt : True := trivial
                have hbtb0 : (bit == 0) = false := by first | simpa using hbt | (simp; omega)
                have HR : Hid (mayG 3 gate n bit cond whn b ck true = false) := hide (by unfold mayG wiP; first | (simp [*]; done) | (simp [*]; omega))
                clear hc hw0 hg hln hbt
                go_enter Tryz.func108, Tryz.ntmps108
                go_wp2_with (first | (go_at_call 127; (with_reducible refine Calls.mono (c2 _ HB0.out) ?_); rintro e w1 ⟨rfl, hb1⟩; obtain ⟨y0, y1, y2, y3, y4, y5, y6, hbw⟩ := HK.out w1 hb1))
                go_ret
                exact ⟨by rw [HR.out]; rfl, hbw⟩
          . have hlnt : True := trivial
            have hlnb0 : ((n : Int) == 1) = false := by first | simpa using hln | (simp; omega)
            have hlnb1 : (n == 1) = false := by first | simpa using hln | (simp; omega)
            have HR : Hid (mayG 3 gate n bit cond whn b ck ap = false) := hide (by unfold mayG wiP; first | (simp [*]; done) | (simp [*]; omega))
            clear hc hw0 hg hln
            go_enter Tryz.func108, Tryz.ntmps108
            go_wp2_with fail
            go_ret
            exact ⟨by rw [HR.out]; rfl, HB0.out⟩
        . have hgt : True := trivial
          have hgb0 : (gate == 0) = false := by first | simpa using hg | (simp; omega)
          have HR : Hid (mayG 3 gate n bit cond whn b ck ap = false) := hide (by unfold mayG wiP; first | (simp [*]; done) | (simp [*]; omega))
          clear hc hw0 hg
          go_enter Tryz.func108, Tryz.ntmps108
          go_wp2_with fail
          go_ret
          exact ⟨by rw [HR.out]; rfl, HB0.out⟩
    . have hct : True := trivial
      have hcb0 : (cond == (-1)) = false := by first | simpa using hc | (simp; omega)
      by_cases hg : gate = 0
      . have hgt : True := trivial
        have hgb0 : (gate == 0) = true := by first | simpa using hg | (simp; omega)
        by_cases hln : n = 1
        . have hlnt : True := trivial
          have hlnb0 : ((n : Int) == 1) = true := by first | simpa using hln | (simp; omega)
          have hlnb1 : (n == 1) = true := by first | simpa using hln | (simp; omega)
          cases ap with
          | false =>
            have HR : Hid (mayG 3 gate n bit cond whn b ck false = false) := hide (by unfold mayG wiP; first | (simp [*]; done) | (simp [*]; omega))
            clear hc hg hln
            go_enter Tryz.func108, Tryz.ntmps108
            go_wp2_with (first | (go_at_call 127; (with_reducible refine Calls.mono (c2 _ HB0.out) ?_); rintro e w1 ⟨rfl, hb1⟩; obtain ⟨y0, y1, y2, y3, y4, y5, y6, hbw⟩ := HK.out w1 hb1))
            go_ret
            exact ⟨by rw [HR.out]; rfl, hbw⟩
          | true =>
            by_cases hbt : bit = 0
            . have hbtt : True := trivial
              have hbtb0 : (bit == 0) = true := by first | simpa using hbt | (simp; omega)
              have HR : Hid (mayG 3 gate n bit cond whn b ck true = false) := hide (by unfold mayG wiP; first | (simp [*]; done) | (simp [*]; omega))
              clear hc hg hln hbt
              go_enter Tryz.func108, Tryz.ntmps108
              go_wp2_with (first | (go_at_call 127; (with_reducible refine Calls.mono (c2 _ HB0.out) ?_); rintro e w1 ⟨rfl, hb1⟩; obtain ⟨y0, y1, y2, y3, y4, y5, y6, hbw⟩ := HK.out w1 hb1))
              go_ret
              exact ⟨by rw [HR.out]; rfl, hbw⟩
            . have hbtt : True := trivial
              have hbtb0 : (bit == 0) = false := by first | simpa using hbt | (simp; omega)
              have HR : Hid (mayG 3 gate n bit cond whn b ck true = false) := hide (by unfold mayG wiP; first | (simp [*]; done) | (simp [*]; omega))
              clear hc hg hln hbt
              go_enter Tryz.func108, Tryz.ntmps108
              go_wp2_with (first | (go_at_call 127; (with_reducible refine Calls.mono (c2 _ HB0.out) ?_); rintro e w1 ⟨rfl, hb1⟩; obtain ⟨y0, y1, y2, y3, y4, y5, y6, hbw⟩ := HK.out w1 hb1))
              go_ret
              exact ⟨by rw [HR.out]; rfl, hbw⟩
        . have hlnt : True := trivial
          have hlnb0 : ((n : Int) == 1) = false := by first | simpa using hln | (simp; omega)
          have hlnb1 : (n == 1) = false := by first | simpa using hln | (simp; omega)
          have HR : Hid (mayG 3 gate n bit cond whn b ck ap = false) := hide (by unfold mayG wiP; first | (simp [*]; done) | (simp [*]; omega))
          clear hc hg hln
          go_enter Tryz.func108, Tryz.ntmps108
          go_wp2_with fail
          go_ret
          exact ⟨by rw [HR.out]; rfl, HB0.out⟩
      . have hgt : True := trivial
        have hgb0 : (gate == 0) = false := by first | simpa using hg | (simp; omega)
        have HR : Hid (mayG 3 gate n bit cond whn b ck ap = false) := hide (by unfold mayG wiP; first | (simp [*]; done) | (simp [*]; omega))
        clear hc hg
        go_enter Tryz.func108, Tryz.ntmps108
        go_wp2_with fail
        go_ret
        exact ⟨by rw [HR.out]; rfl, HB0.out⟩
  have kb3 : (kind == 3) = false := by simpa using k3
  by_cases k4 : kind = 4
  . subst k4
    by_cases hc : cond = (-1)
    . have hct : True := trivial
      have hcb0 : (cond == (-1)) = true := by first | simpa using hc | (simp; omega)
      by_cases hw0 : whn = 0
      . have hw0t : True := trivial
        have hw0b0 : (whn == 0) = true := by first | simpa using hw0 | (simp; omega)
        by_cases hg : gate = 0
        . have hgt : True := trivial
          have hgb0 : (gate == 0) = true := by first | simpa using hg | (simp; omega)
          by_cases hln : 0 < n
          . have hlnt : True := trivial
            have hlnb0 : decide ((n : Int) > 0) = true := by first | simpa using hln | (simp; omega)
            have hlnb1 : decide ((0 : Int) < (n : Int)) = true := by first | simpa using hln | (simp; omega)
            have hlnb2 : decide (0 < n) = true := by first | simpa using hln | (simp; omega)
            cases ap with
            | false =>
              have HR : Hid (mayG 4 gate n bit cond whn b ck false = false) := hide (by unfold mayG wiP; first | (simp [*]; done) | (simp [*]; omega))
              clear hc hw0 hg hln
              go_enter Tryz.func108, Tryz.ntmps108
              go_wp2_with (first | (go_at_call 127; (with_reducible refine Calls.mono (c2 _ HB0.out) ?_); rintro e w1 ⟨rfl, hb1⟩; obtain ⟨y0, y1, y2, y3, y4, y5, y6, hbw⟩ := HK.out w1 hb1))
              go_ret
              exact ⟨by rw [HR.out]; rfl, hbw⟩
            | true =>
              by_cases hbt : bit = 0
              . have hbtt : True := trivial
                have hbtb0 : (bit == 0) = true := by first | simpa using hbt | (simp; omega)
                have HR : Hid (mayG 4 gate n bit cond whn b ck true = true) := hide (by unfold mayG wiP; first | (simp [*]; done) | (simp [*]; omega))
                clear hc hw0 hg hln hbt
                go_enter Tryz.func108, Tryz.ntmps108
                go_wp2_with (first | (go_at_call 127; (with_reducible refine Calls.mono (c2 _ HB0.out) ?_); rintro e w1 ⟨rfl, hb1⟩; obtain ⟨y0, y1, y2, y3, y4, y5, y6, hbw⟩ := HK.out w1 hb1))
                go_ret
                exact ⟨by rw [HR.out]; rfl, hbw⟩
              . have hbtt : True := trivial
                have hbtb0 : (bit == 0) = false := by first | simpa using hbt | (simp; omega)
                have HR : Hid (mayG 4 gate n bit cond whn b ck true = false) := hide (by unfold mayG wiP; first | (simp [*]; done) | (simp [*]; omega))
                clear hc hw0 hg hln hbt
                go_enter Tryz.func108, Tryz.ntmps108
                go_wp2_with (first | (go_at_call 127; (with_reducible refine Calls.mono (c2 _ HB0.out) ?_); rintro e w1 ⟨rfl, hb1⟩; obtain ⟨y0, y1, y2, y3, y4, y5, y6, hbw⟩ := HK.out w1 hb1))
                go_ret
                exact ⟨by rw [HR.out]; rfl, hbw⟩
          . have hlnt : True := trivial
            have hlnb0 : decide ((n : Int) > 0) = false := by first | simpa using hln | (simp; omega)
            have hlnb1 : decide ((0 : Int) < (n : Int)) = false := by first | simpa using hln | (simp; omega)
            have hlnb2 : decide (0 < n) = false := by first | simpa using hln | (simp; omega)
            have HR : Hid (mayG 4 gate n bit cond whn b ck ap = false) := hide (by unfold mayG wiP; first | (simp [*]; done) | (simp [*]; omega))
            clear hc hw0 hg hln
            go_enter Tryz.func108, Tryz.ntmps108
            go_wp2_with fail
            go_ret
            exact ⟨by rw [HR.out]; rfl, HB0.out⟩
        . have hgt : True := trivial
          have hgb0 : (gate == 0) = false := by first | simpa using hg | (simp; omega)
          have HR : Hid (mayG 4 gate n bit cond whn b ck ap = false) := hide (by unfold mayG wiP; first | (simp [*]; done) | (simp [*]; omega))
          clear hc hw0 hg
          go_enter Tryz.func108, Tryz.ntmps108
          go_wp2_with fail
          go_ret
          exact ⟨by rw [HR.out]; rfl, HB0.out⟩
      . have hw0t : True := trivial
        have hw0b0 : (whn == 0) = false := by first | simpa using hw0 | (simp; omega)
        by_cases hg : gate = 0
        . have hgt : True := trivial
          have hgb0 : (gate == 0) = true := by first | simpa using hg | (simp; omega)
          by_cases hln : 0 < n
          . have hlnt : True := trivial
            have hlnb0 : decide ((n : Int) > 0) = true := by first | simpa using hln | (simp; omega)
            have hlnb1 : decide ((0 : Int) < (n : Int)) = true := by first | simpa using hln | (simp; omega)
            have hlnb2 : decide (0 < n) = true := by first | simpa using hln | (simp; omega)
            cases ap with
            | false =>
              have HR : Hid (mayG 4 gate n bit cond whn b ck false = false) := hide (by unfold mayG wiP; first | (simp [*]; done) | (simp [*]; omega))
              clear hc hw0 hg hln
              go_enter Tryz.func108, Tryz.ntmps108
              go_wp2_with (first | (go_at_call 127; (with_reducible refine Calls.mono (c2 _ HB0.out) ?_); rintro e w1 ⟨rfl, hb1⟩; obtain ⟨y0, y1, y2, y3, y4, y5, y6, hbw⟩ := HK.out w1 hb1))
              go_ret
              exact ⟨by rw [HR.out]; rfl, hbw⟩
            | true =>
              by_cases hbt : bit = 0
              . have hbtt : True := trivial
                have hbtb0 : (bit == 0) = true := by first | simpa using hbt | (simp; omega)
                have HR : Hid (mayG 4 gate n bit cond whn b ck true = false) := hide (by unfold mayG wiP; first | (simp [*]; done) | (simp [*]; omega))
                clear hc hw0 hg hln hbt
                go_enter Tryz.func108, Tryz.ntmps108
                go_wp2_with (first | (go_at_call 127; (with_reducible refine Calls.mono (c2 _ HB0.out) ?_); rintro e w1 ⟨rfl, hb1⟩; obtain ⟨y0, y1, y2, y3, y4, y5, y6, hbw⟩ := HK.out w1 hb1))
                go_ret
                exact ⟨by rw [HR.out]; rfl, hbw⟩
              . have hbtt : True := trivial
                have hbtb0 : (bit == 0) = false := by first | simpa using hbt | (simp; omega)
                have HR : Hid (mayG 4 gate n bit cond whn b ck true = false) := hide (by unfold mayG wiP; first | (simp [*]; done) | (simp [*]; omega))
                clear hc hw0 hg hln hbt
                go_enter Tryz.func108, Tryz.ntmps108
                go_wp2_with (first | (go_at_call 127; (with_reducible refine Calls.mono (c2 _ HB0.out) ?_); rintro e w1 ⟨rfl, hb1⟩; obtain ⟨y0, y1, y2, y3, y4, y5, y6, hbw⟩ := HK.out w1 hb1))
                go_ret
                exact ⟨by rw [HR.out]; rfl, hbw⟩
          . have hlnt : True := trivial
            have hlnb0 : decide ((n : Int) > 0) = false := by first | simpa using hln | (simp; omega)
            have hlnb1 : decide ((0 : Int) < (n : Int)) = false := by first | simpa using hln | (simp; omega)
            have hlnb2 : decide (0 < n) = false := by first | simpa using hln | (simp; omega)
            have HR : Hid (mayG 4 gate n bit cond whn b ck ap = false) := hide (by unfold mayG wiP; first | (simp [*]; done) | (simp [*]; omega))
            clear hc hw0 hg hln
            go_enter Tryz.func108, Tryz.ntmps108
            go_wp2_with fail
            go_ret
            exact ⟨by rw [HR.out]; rfl, HB0.out⟩
        . have hgt : True := trivial
          have hgb0 : (gate == 0) = false := by first | simpa using hg | (simp; omega)
          have HR : Hid (mayG 4 gate n bit cond whn b ck ap = false) := hide (by unfold mayG wiP; first | (simp [*]; done) | (simp [*]; omega))
          clear hc hw0 hg
          go_enter Tryz.func108, Tryz.ntmps108
          go_wp2_with fail
          go_ret
          exact ⟨by rw [HR.out]; rfl, HB0.out⟩
    . have hct : True := trivial
      have hcb0 : (cond == (-1)) = false := by first | simpa using hc | (simp; omega)
      by_cases hg : gate = 0
      . have hgt : True := trivial
        have hgb0 : (gate == 0) = true := by first | simpa using hg | (simp; omega)
        by_cases hln : 0 < n
        . have hlnt : True := trivial
          have hlnb0 : decide ((n : Int) > 0) = true := by first | simpa using hln | (simp; omega)
          have hlnb1 : decide ((0 : Int) < (n : Int)) = true := by first | simpa using hln | (simp; omega)
          have hlnb2 : decide (0 < n) = true := by first | simpa using hln | (simp; omega)
          cases ap with
          | false =>
            have HR : Hid (mayG 4 gate n bit cond whn b ck false = false) := hide (by unfold mayG wiP; first | (simp [*]; done) | (simp [*]; omega))
            clear hc hg hln
            go_enter Tryz.func108, Tryz.ntmps108
            go_wp2_with (first | (go_at_call 127; (with_reducible refine Calls.mono (c2 _ HB0.out) ?_); rintro e w1 ⟨rfl, hb1⟩; obtain ⟨y0, y1, y2, y3, y4, y5, y6, hbw⟩ := HK.out w1 hb1))
            go_ret
            exact ⟨by rw [HR.out]; rfl, hbw⟩
          | true =>
            by_cases hbt : bit = 0
            . have hbtt : True := trivial
              have hbtb0 : (bit == 0) = true := by first | simpa using hbt | (simp; omega)
              have HR : Hid (mayG 4 gate n bit cond whn b ck true = false) := hide (by unfold mayG wiP; first | (simp [*]; done) | (simp [*]; omega))
              clear hc hg hln hbt
              go_enter Tryz.func108, Tryz.ntmps108
              go_wp2_with (first | (go_at_call 127; (with_reducible refine Calls.mono (c2 _ HB0.out) ?_); rintro e w1 ⟨rfl, hb1⟩; obtain ⟨y0, y1, y2, y3, y4, y5, y6, hbw⟩ := HK.out w1 hb1))
              go_ret
              exact ⟨by rw [HR.out]; rfl, hbw⟩
            . have hbtt : True := trivial
              have hbtb0 : (bit == 0) = false := by first | simpa using hbt | (simp; omega)
              have HR : Hid (mayG 4 gate n bit cond whn b ck true = false) := hide (by unfold mayG wiP; first | (simp [*]; done) | (simp [*]; omega))
              clear hc hg hln hbt
              go_enter Tryz.func108, Tryz.ntmps108
              go_wp2_with (first | (go_at_call 127; (with_reducible refine Calls.mono (c2 _ HB0.out) ?_); rintro e w1 ⟨rfl, hb1⟩; obtain ⟨y0, y1, y2, y3, y4, y5, y6, hbw⟩ := HK.out w1 hb1))
              go_ret
              exact ⟨by rw [HR.out]; rfl, hbw⟩
        . have hlnt : True := trivial
          have hlnb0 : decide ((n : Int) > 0) = false := by first | simpa using hln | (simp; omega)
          have hlnb1 : decide ((0 : Int) < (n : Int)) = false := by first | simpa using hln | (simp; omega)
          have hlnb2 : decide (0 < n) = false := by first | simpa using hln | (simp; omega)
          have HR : Hid (mayG 4 gate n bit cond whn b ck ap = false) := hide (by unfold mayG wiP; first | (simp [*]; done) | (simp [*]; omega))
          clear hc hg hln
          go_enter Tryz.func108, Tryz.ntmps108
          go_wp2_with fail
          go_ret
          exact ⟨by rw [HR.out]; rfl, HB0.out⟩
      . have hgt : True := trivial
        have hgb0 : (gate == 0) = false := by first | simpa using hg | (simp; omega)
        have HR : Hid (mayG 4 gate n bit cond whn b ck ap = false) := hide (by unfold mayG wiP; first | (simp [*]; done) | (simp [*]; omega))
        clear hc hg
        go_enter Tryz.func108, Tryz.ntmps108
        go_wp2_with fail
        go_ret
        exact ⟨by rw [HR.out]; rfl, HB0.out⟩
  have kb4 : (kind == 4) = false := by simpa using k4
  by_cases hc : cond = (-1)
  . have hct : True := trivial
    have hcb0 : (cond == (-1)) = true := by first | simpa using hc | (simp; omega)
    by_cases hw0 : whn = 0
    . have hw0t : True := trivial
      have hw0b0 : (whn == 0) = true := by first | simpa using hw0 | (simp; omega)
      have HR : Hid (mayG kind gate n bit cond whn b ck ap = false) := hide (by unfold mayG wiP; first | (simp [*]; done) | (simp [*]; omega))
      clear hc hw0
      go_enter Tryz.func108, Tryz.ntmps108
      go_wp2_with fail
      go_ret
      exact ⟨by rw [HR.out]; rfl, HB0.out⟩
    . have hw0t : True := trivial
      have hw0b0 : (whn == 0) = false := by first | simpa using hw0 | (simp; omega)
      have HR : Hid (mayG kind gate n bit cond whn b ck ap = false) := hide (by unfold mayG wiP; first | (simp [*]; done) | (simp [*]; omega))
      clear hc hw0
      go_enter Tryz.func108, Tryz.ntmps108
      go_wp2_with fail
      go_ret
      exact ⟨by rw [HR.out]; rfl, HB0.out⟩
  . have hct : True := trivial
    have hcb0 : (cond == (-1)) = false := by first | simpa using hc | (simp; omega)
    have HR : Hid (mayG kind gate n bit cond whn b ck ap = false) := hide (by unfold mayG wiP; first | (simp [*]; done) | (simp [*]; omega))
    clear hc
    go_enter Tryz.func108, Tryz.ntmps108
    go_wp2_with fail
    go_ret
    exact ⟨by rw [HR.out]; rfl, HB0.out⟩
end Go.Proofs.YtoickolhekhgmaaGreatDoor.Cir
