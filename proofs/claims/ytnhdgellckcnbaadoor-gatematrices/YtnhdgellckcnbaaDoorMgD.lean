/- GateMatrices answers true for every kind and every index: Matrix answers the document's matrix to the bit, and again when what it answered was written over and appended to; Moves answers the document's. Condition: the two listed variables lie as the program's text lays them (the card ties them to the text). -/
import Derived.Test.YtnhdgellckcnbaaDoorMgC
import Derived.ArgAppend
import Derived.Test.YtnhdgellckcnbaaDoorFr6
/- A row of complex numbers that is appended to; what lies elsewhere stays. -/
namespace Go.Proofs.YtnhdgellckcnbaaDoor.Gt
open Go.RowKit Go.Proofs.YtnhdgellckcnbaaDoor.Oct Go.Proofs.YtnhdgellckcnbaaDoor.Dy

theorem Dm.keep {w w' : World} {g n : Nat} {rb : Nat → Nat} {f : Nat → Nat → Nat × Nat} (h : Dm w g n rb f) (hg : w'.heap[g]? = w.heap[g]?) (hr : ∀ r, r < n → w'.heap[rb r]? = w.heap[rb r]?) : Dm w' g n rb f :=
  ⟨h.top.of_block hg, fun r hr' => (h.rows r hr').of_block (hr r hr'), h.inj, h.ne⟩
theorem ownsRow_base {w : World} {B B' : Nat} {e : TypeId} {v : Value} {n : Nat} {xs : List Value} (h : w.ownsRow B e 1 v n xs) (hB : B' ≤ B) : w.ownsRow B' e 1 v n xs := by
  refine ⟨h.1, ?_⟩
  rcases h.2 with h0 | ⟨g, cap, cur, e1, e2, e3⟩
  · exact .inl h0
  · exact .inr ⟨g, cap, cur, e1, Nat.le_trans hB e2, e3⟩
/-- A row as it came, without room, or one of one's own. -/
def Ap (w : World) (B : Nat) (ao : Option Addr) (n c : Nat) : Prop :=
  (c = n ∧ (ao = none → n = 0) ∧ ∃ olds : List Value, olds.length = n ∧ ∀ b, ao = some b → ∀ j u, olds[j]? = some u → w.cell? (b.add j) = some u) ∨ ∃ xs, w.ownsRow B 34 1 (.slice ao n c) n xs
theorem wpList_apV {ops : Array Oper} {rest : List Oper} {o : Oper} {a : Act} {Q : Exit → Act → World → Prop} {w : World} (hgd : o.guard = none) (s x : Operand)
    (ho : o.op = .call { callee := .builtin .append, args := #[s, x], argTypes := #[23, 23] }) (B : Nat) (ao : Option Addr) (n c : Nat) (hs : a.eval s = .slice ao n c) (hA : Ap w B ao n c) (p q : Nat)
    (hx : a.eval x = .slice (some ⟨w.heap.size, 0, none⟩) 1 1) (hn : n ≤ 1000) (hB : B ≤ w.heap.size)
    (h : ∀ g cap w' r xs, w'.ownsRow B 34 1 (.slice (some ⟨g, 0, none⟩) (n + 1) cap) (n + 1) xs → B ≤ g → w.grownBy w' r → (∀ k, r = some k → B ≤ k) → wpList Tryd.prog ops Q rest (a.put o.dst (.slice (some ⟨g, 0, none⟩) (n + 1) cap)) w') :
    wpList Tryd.prog ops Q (o :: rest) a (w.alloc (.cells #[.complex .f64 p q] 34)) := by
  rcases hA with ⟨rfl, hnone, olds, hlo, holds⟩ | ⟨xs, hown⟩
  · obtain ⟨i, hi, hz0, hz1, hz2⟩ := info_parts infoC
    refine wpList_append_grows (w.alloc (.cells #[.complex .f64 p q] 34)) hgd s x _ ho 34 i (.complex .f64 0 0) 1 16 Tryd.underlying23 hi hz0 hz1 hz2 rfl (by decide) ao c c olds hs (fun e => ⟨hnone e, hnone e⟩) (by omega)
      (fun b hb j u hj => by
        have h1 := holds b hb j u hj
        exact ((below_new w _).cell (World.block_lt_of_cell? w _ h1)).trans h1) ⟨w.heap.size, 0, none⟩ 1 1 [.complex .f64 p q] hx rfl (cell_one_new _ _ _) (by intro u hu; simp at hu; subst hu; rfl) (by omega) (by unfold maxLen; omega) (by omega) ?_
    intro v' w' ho' hg
    have hb2 := ho'
    rcases ho'.2 with ⟨_, h0⟩ | ⟨g, cap, cur, rfl, hbg, _⟩
    · omega
    · have hsz : B ≤ (w.alloc (.cells #[.complex .f64 p q] 34)).heap.size := Nat.le_trans hB (by simp)
      exact h g cap w' none _ (ownsRow_base hb2 hsz) (Nat.le_trans hsz hbg) ((grown_alloc w _ _).trans hg) (fun k e => by cases e)
  · refine wpList_pushV hgd s x _ ho 34 Tryd.underlying23 _ 16 infoC rfl B ao n c xs hs hown (.complex .f64 p q) rfl hx (by omega) (by omega) hB ?_
    intro g cap w' ho' hg hat
    have hbg := (ho'.lt g (by rw [ob_eq]; rfl)).1
    exact h g cap w' _ _ ho' hbg hg (fun k hk => (hown.lt k (by rw [ob_eq]; exact hk)).1)
set_option maxRecDepth 100000 in
theorem jRows_0 (w : World) : Calls Tryd.prog 11 #[.agg #[.int .i64 0, .slice none 0 0], .slice none 0 0] w fun e w' => e = .returned (.bool true) ∧ Below w.heap.size w w' := by
  have b0 := below_new w (.cells #[.int .i64 0, .slice none 0 0] 25)
  go_enter Tryd.func11, Tryd.ntmps11
  go_wp2_with fail
  go_loopw [6] (fun vr wr => vr = .int .i64 0 ∧ wr = w.alloc (.cells #[.int .i64 0, .slice none 0 0] 25)) (fun _ _ => 0)
  case atStart => exact ⟨rfl, rfl⟩
  case round =>
    obtain ⟨rfl, rfl⟩ := hrel
    go_wp2_with fail
    go_ret
    exact ⟨rfl, b0⟩
/-- The second part of a struct of two, set. -/
theorem snd_set {w : World} {g : Nat} {x0 x1 : Value} {t : TypeId} (h : w.heap[g]? = some (.cells #[x0, x1] t)) (y1 : Value) : (w.setCell ⟨g, 1, none⟩ y1).heap[g]? = some (.cells #[x0, y1] t) := by
  simp [World.setCell, Array.getElem?_modify, h]
end Go.Proofs.YtnhdgellckcnbaaDoor.Gt
/- GateMatrices of no kind. -/
namespace Go.Proofs.YtnhdgellckcnbaaDoor.Gt
open Go.RowKit Go.Proofs.YtnhdgellckcnbaaDoor.Oct Go.Proofs.YtnhdgellckcnbaaDoor.Dy

set_option maxRecDepth 100000 in
set_option maxHeartbeats 4000000 in
theorem xGateMatrices_0 (k x : Int) (hk : ¬ (1 ≤ k ∧ k ≤ 20)) (w : World) (hT : Tb w) (hD : Td w) : Calls Tryd.prog 3 #[.int .i64 k, .int .i64 x] w fun e w' => e = .returned (.bool true) ∧ Below w.heap.size w w' := by
  obtain ⟨y, p, ok, cMg, cMh⟩ := mv_same k x
  have cN := jNum
  have hst := store_c
  have c1 := fun w hT => gMat_no k hk w hT
  have c2 := fun w => hMat_no k hk w
  unfold MNone at c1
  go_enter Tryd.func3, Tryd.ntmps3
  go_wp2_with fail
  refine (c1 _ hT).mono ?_
  rintro e w1 ⟨rfl, q1⟩
  have hma := heap_alloc_new w1 (.cells #[.int .i64 0, .slice none 0 0] 25)
  have q2 := q1.trans ((below_new w1 (.cells #[.int .i64 0, .slice none 0 0] 25)).mono q1.size)
  have hbm := q1.size
  clear q1
  go_wp2_with fail
  generalize w1.alloc (.cells #[.int .i64 0, .slice none 0 0] 25) = W2 at *
  generalize w1.heap.size = bm at *
  refine (c2 _).mono ?_
  rintro e w3 ⟨rfl, hw⟩
  obtain rfl := hw
  clear c2
  have m0 := row2_0 hma
  have m1 := row2_1 hma
  go_wp2_with (go_at_call 10; refine (cN _ _).mono ?_; rintro e' w' ⟨rfl, hw⟩; obtain rfl := hw.symm)
  refine (jRows_0 _).mono ?_
  rintro e w5 ⟨rfl, q5⟩
  replace hma := row_keep q5 hma
  replace q5 := q2.trans (q5.mono q2.size)
  clear q2 m0 m1
  go_wp2_with fail
  go_loopw [9] (fun vi wr => vi = .int .i64 0 ∧ wr.heap[bm]? = some (.cells #[.int .i64 0, .slice none 0 0] 25) ∧ Below w.heap.size w wr) (fun _ _ => 0)
  case atStart => exact ⟨rfl, hma, q5⟩
  case round =>
    clear hma q5
    obtain ⟨rfl, hma, hb⟩ := hrel
    have m0 := row2_0 hma
    have m1 := row2_1 hma
    · have hap : Ap wr wr.heap.size none 0 0 := .inl ⟨rfl, fun _ => rfl, [], rfl, fun b hb => by cases hb⟩
      have HAP := hide hap
      have hbml : bm < wr.heap.size := (Array.getElem?_eq_some_iff.1 hma).1
      clear hap
      go_wp2_with fail
      clear m0 m1
      obtain ⟨B, hB⟩ : ∃ B, wr.heap.size = B := ⟨_, rfl⟩
      rw [hB] at HAP hbml 
      have hBw : B ≤ wr.heap.size := by omega
      have hwB : w.heap.size ≤ B := by have := hb.size; omega
      go_loopw [10] (fun vi wa => ∃ (i len cap : Nat) (ao : Option Addr), vi = .int .i64 (i : Int) ∧ i ≤ 20 ∧ len ≤ 0 + i ∧ wa.heap[bm]? = some (.cells #[.int .i64 0, .slice ao len cap] 25) ∧ Hid (Ap wa B ao len cap) ∧ B ≤ wa.heap.size ∧ Below w.heap.size w wa) (fun vi _ => 20 - (Go.RowKit.intOf vi).toNat)
      case atStart => exact ⟨0, 0, 0, none, rfl, by omega, Nat.le_refl _, hma, HAP, hBw, hb⟩
      case round =>
        clear hma HAP hb hB hBw 
        obtain ⟨i, len, cap, ao, rfl, hi, hlen, hma, HAP, hBw, hb⟩ := hrel
        have m0 := row2_0 hma
        have m1 := row2_1 hma
        by_cases h : i < 20
        · have hd : decide ((i : Int) < 20) = true := decide_eq_true (by omega)
          go_wp2_with (at_builtin; refine wpList_apV rfl _ _ rfl B ao len cap rfl HAP.out _ _ rfl (by omega) hBw ?_)
          intro g2 c2 w7 r7 xs hxs hg2 hgrow hrow
          have hma7 : w7.heap[bm]? = _ := (hgrow.block bm (by omega) (fun e => by have := hrow bm e.symm; omega)).trans hma
          have f1 := frozen_row hma7 1
          have p1 := row2_1 hma7
          have hma8 := snd_set hma7 (.slice (some ⟨g2, 0, none⟩) (len + 1) c2)
          have hb8 := (hb.grown hgrow hb.size (fun q hq => by have := hrow q hq; omega)).setCell (p := ⟨bm, 1, none⟩) hbm (.slice (some ⟨g2, 0, none⟩) (len + 1) c2)
          have HA8 : Hid (Ap (w7.setCell ⟨bm, 1, none⟩ (.slice (some ⟨g2, 0, none⟩) (len + 1) c2)) B (some ⟨g2, 0, none⟩) (len + 1) c2) := hide (by
            refine .inr ⟨xs, ownsRow_of_block hxs (fun k hk => Below.heap_setCell _ _ _ _ (fun e => ?_))⟩
            have e1 : g2 = k := by cases hk; rfl
            have e2 : k = bm := e
            omega)
          have hBs : B ≤ (w7.setCell ⟨bm, 1, none⟩ (.slice (some ⟨g2, 0, none⟩) (len + 1) c2)).heap.size := by
            have := hgrow.size
            simp only [World.setCell, Array.size_modify]
            omega
          clear hma HAP hb hgrow hxs hma7 hBw m0 m1
          go_wp2_with fail
          exact ⟨⟨i + 1, len + 1, c2, some ⟨g2, 0, none⟩, by go_num, by omega, by omega, hma8, HA8, hBs, hb8⟩, by simp [Go.RowKit.intOf]; omega⟩
        · have hd : decide ((i : Int) < 20) = false := decide_eq_false (by omega)
          clear HAP m0 m1 hma
          go_wp2_with fail
          refine (c1 _ (hT.below hb)).mono ?_
          rintro e w9 ⟨rfl, q9⟩
          have hma2 := heap_alloc_new w9 (.cells #[.int .i64 0, .slice none 0 0] 25)
          have q10 := hb.trans (q9.mono hb.size)
          replace q10 := q10.trans ((below_new w9 (.cells #[.int .i64 0, .slice none 0 0] 25)).mono q10.size)
          clear q9 hb c1
          go_wp2_with fail
          generalize w9.alloc (.cells #[.int .i64 0, .slice none 0 0] 25) = W10 at *
          generalize w9.heap.size = bm2 at *
          refine (cMg _ (hT.below q10) (hD.below q10)).mono ?_
          rintro e w11 ⟨rfl, q11⟩
          have hma3 := row_keep q11 hma2
          replace q11 := q10.trans (q11.mono q10.size)
          clear hma2 q10 cMg
          have m0 := row2_0 hma3
          have m1 := row2_1 hma3
          go_wp2_with (go_at_call 13; refine (cMh _).mono ?_; rintro e' w' ⟨rfl, hw⟩; obtain rfl := hw.symm)
          refine (jRows_0 _).mono ?_
          rintro e w12 ⟨rfl, q12⟩
          replace q12 := q11.trans (q12.mono q11.size)
          clear q11 m0 m1 hma3 cMh
          go_wp2_with fail
          refine (jAlive _ (hT.below q12) (hD.below q12)).mono ?_
          rintro e w13 ⟨rfl, q13⟩
          replace q13 := q12.trans (q13.mono q12.size)
          go_wp2_with fail
          go_ret
          exact ⟨by simp, q13⟩
end Go.Proofs.YtnhdgellckcnbaaDoor.Gt
/- The law's Rows of 2 rows. -/
namespace Go.Proofs.YtnhdgellckcnbaaDoor.Gt
open Go.RowKit Go.Proofs.YtnhdgellckcnbaaDoor.Oct Go.Proofs.YtnhdgellckcnbaaDoor.Dy

set_option maxRecDepth 100000 in
set_option maxHeartbeats 2000000 in
theorem jRows_2 (ga g : Nat) (rb : Nat → Nat) (f : Nat → Nat × Nat) (w : World) (hR : Rk w ga 34 4 (fun j => cx (f j))) (hD : Dm w g 2 rb (fun r c => f (2 * r + c))) :
    Calls Tryd.prog 11 #[.agg #[.int .i64 2, .slice (some ⟨ga, 0, none⟩) 4 4], .slice (some ⟨g, 0, none⟩) 2 2] w fun e w' => e = .returned (.bool true) ∧ Below w.heap.size w w' := by
  have cS := zSame
  have b0 := below_new w (.cells #[.int .i64 2, .slice (some ⟨ga, 0, none⟩) 4 4] 25)
  have hm := heap_alloc_new w (.cells #[.int .i64 2, .slice (some ⟨ga, 0, none⟩) 4 4] 25)
  have HR := hide (hR.below b0)
  have HD := hide (hD.below b0)
  clear hR hD
  go_enter Tryd.func11, Tryd.ntmps11
  go_wp2_with fail
  generalize w.alloc (.cells #[.int .i64 2, .slice (some ⟨ga, 0, none⟩) 4 4] 25) = W0 at *
  go_loopw [6, 7, 8] (fun vr _ _ wr => ∃ r : Nat, vr = .int .i64 (r : Int) ∧ r ≤ 2 ∧ Below W0.heap.size W0 wr) (fun vr _ _ _ => 2 - (Go.RowKit.intOf vr).toNat)
  case atStart => exact ⟨0, rfl, by omega, Below.refl _ _⟩
  case round =>
    obtain ⟨r, rfl, hrn, hb⟩ := hrel
    by_cases h : r < 2
    · have hd : decide ((r : Int) < 2) = true := decide_eq_true (by omega)
      go_wp2_with fail
      go_loopw [7, 8] (fun vc _ wc => ∃ c : Nat, vc = .int .i64 (c : Int) ∧ c ≤ 2 ∧ Below W0.heap.size W0 wc) (fun vc _ _ => 2 - (Go.RowKit.intOf vc).toNat)
      case atStart => exact ⟨0, rfl, by omega, hb⟩
      case round =>
        clear hb
        obtain ⟨c, rfl, hcn, hb⟩ := hrel
        by_cases hc : c < 2
        · have hdc : decide ((c : Int) < 2) = true := decide_eq_true (by omega)
          have hrZ : (r : Int) < 2 := by omega
          have hcZ : (c : Int) < 2 := by omega
          have hm1 := row_keep hb hm
          have m0 := row2_0 hm1
          have m1 := row2_1 hm1
          have xa : wr.cell? ⟨ga, r * 2 + c, none⟩ = some (.complex .f64 (f (2 * r + c)).1 (f (2 * r + c)).2) := by
            have := (HR.out.below hb).cell (r * 2 + c) (by omega)
            rw [Nat.mul_comm r 2] at this ⊢
            exact this
          have s0 := (HD.out.below hb).row h
          have s1 := (HD.out.below hb).re h hc
          have s2 := (HD.out.below hb).im h hc
          generalize f (2 * r + c) = F at *
          go_wp2_with fail
          refine (cS _ _ _).mono ?_
          rintro e w2 ⟨rfl, q2⟩
          replace q2 := hb.trans (q2.mono hb.size)
          clear s0 s1 s2 xa m0 m1 hm1 hb
          go_wp2_with fail
          exact ⟨⟨c + 1, by go_num, by omega, q2⟩, by simp [Go.RowKit.intOf]; omega⟩
        · have hdc : decide ((c : Int) < 2) = false := decide_eq_false (by omega)
          go_wp2_with fail
          exact ⟨⟨r + 1, by go_num, by omega, hb⟩, by simp [Go.RowKit.intOf]; omega⟩
    · have hd : decide ((r : Int) < 2) = false := decide_eq_false (by omega)
      go_wp2_with fail
      go_ret
      exact ⟨rfl, b0.trans (hb.mono b0.size)⟩
end Go.Proofs.YtnhdgellckcnbaaDoor.Gt
/- GateMatrices of kinds with 2 rows. -/
namespace Go.Proofs.YtnhdgellckcnbaaDoor.Gt
open Go.RowKit Go.Proofs.YtnhdgellckcnbaaDoor.Oct Go.Proofs.YtnhdgellckcnbaaDoor.Dy

set_option maxRecDepth 100000 in
set_option maxHeartbeats 4000000 in
theorem xGateMatrices_2 (k : Nat) (x : Int) (h1 : 1 ≤ k) (h2 : k ≤ 20) (hr : rowsN k = 2) (w : World) (hT : Tb w) (hD : Td w) : Calls Tryd.prog 3 #[.int .i64 (k : Int), .int .i64 x] w fun e w' => e = .returned (.bool true) ∧ Below w.heap.size w w' := by
  obtain ⟨y, p, ok, cMg, cMh⟩ := mv_same (k : Int) x
  have cN := jNum
  have hst := store_c
  have c1 := fun w hT hD => gMat k h1 h2 w hT hD
  have c2 := fun w => hMat k h1 h2 w
  rw [hr] at c1 c2
  unfold MPost at c1
  unfold DPost at c2
  go_enter Tryd.func3, Tryd.ntmps3
  go_wp2_with fail
  refine (c1 _ hT hD).mono ?_
  rintro e w1 ⟨gm, rfl, hRa, hgm, q1⟩
  have hma := heap_alloc_new w1 (.cells #[.int .i64 2, .slice (some ⟨gm, 0, none⟩) 4 4] 25)
  have q2 := q1.trans ((below_new w1 (.cells #[.int .i64 2, .slice (some ⟨gm, 0, none⟩) 4 4] 25)).mono q1.size)
  have hgl := hRa.lt
  replace hRa := hRa.below (below_new w1 (.cells #[.int .i64 2, .slice (some ⟨gm, 0, none⟩) 4 4] 25))
  have hbm := q1.size
  have hbs : w1.heap.size < (w1.alloc (.cells #[.int .i64 2, .slice (some ⟨gm, 0, none⟩) 4 4] 25)).heap.size := by simp
  clear q1
  go_wp2_with fail
  generalize w1.alloc (.cells #[.int .i64 2, .slice (some ⟨gm, 0, none⟩) 4 4] 25) = W2 at *
  generalize w1.heap.size = bm at *
  refine (c2 _).mono ?_
  rintro e w3 ⟨g, rb, rfl, hDm, hg, hrb, q3⟩
  replace hma := row_keep q3 hma
  replace hRa := hRa.below q3
  have q4 := q2.trans (q3.mono q2.size)
  clear q2 c2
  have m0 := row2_0 hma
  have m1 := row2_1 hma
  have HD := hide hDm
  have HR := hide hRa
  clear hDm hRa
  go_wp2_with (go_at_call 10; refine (cN _ _).mono ?_; rintro e' w' ⟨rfl, hw⟩; obtain rfl := hw.symm)
  refine (jRows_2 gm g rb (mbs k) _ HR.out HD.out).mono ?_
  rintro e w5 ⟨rfl, q5⟩
  replace hma := row_keep q5 hma
  replace HR := hide (HR.out.below q5)
  replace HD := hide (HD.out.below q5)
  replace q5 := q4.trans (q5.mono q4.size)
  clear q4 m0 m1 q3
  have hgne : g ≠ gm ∧ g ≠ bm := ⟨by omega, by omega⟩
  have HRB : Hid (∀ i, i < 2 → rb i ≠ gm ∧ rb i ≠ bm) := hide (fun i hi => by have := hrb i hi; exact ⟨by omega, by omega⟩)
  have hne : bm ≠ gm := by omega
  clear hg hrb hbs
  go_wp2_with fail
  go_loopw [9] (fun vi wr => ∃ (i : Nat) (F : Nat → Value), vi = .int .i64 (i : Int) ∧ i ≤ 4 ∧ wr.heap[bm]? = some (.cells #[.int .i64 2, .slice (some ⟨gm, 0, none⟩) 4 4] 25) ∧ Hid (Rk wr gm 34 4 F) ∧ Hid (Dm wr g 2 rb (fun r c => mbs k (2 * r + c))) ∧ Below w.heap.size w wr) (fun vi _ => 4 - (Go.RowKit.intOf vi).toNat)
  case atStart => exact ⟨0, _, rfl, by omega, hma, HR, HD, q5⟩
  case round =>
    clear hma HR HD q5
    obtain ⟨i, F, rfl, hi, hma, HR, HD, hb⟩ := hrel
    have m0 := row2_0 hma
    have m1 := row2_1 hma
    by_cases h : i < 4
    · have hd : decide ((i : Int) < 4) = true := decide_eq_true (by omega)
      have x0 := HR.out.cell i h
      have x1 := HR.out.frozen i
      have HR2 := hide (HR.out.set i (.complex .f64 4635118810238550016 0))
      have HD2 := hide (HD.out.far ⟨gm, i, none⟩ hgne.1 (fun r hr => (HRB.out r hr).1) (.complex .f64 4635118810238550016 0))
      have hma2 : (wr.setCell ⟨gm, i, none⟩ (.complex .f64 4635118810238550016 0)).heap[bm]? = _ := (Below.heap_setCell _ _ _ _ hne).trans hma
      have hb2 := hb.setCell (p := ⟨gm, i, none⟩) hgm (.complex .f64 4635118810238550016 0)
      clear HR HD hma hb
      go_wp2_with fail
      exact ⟨⟨i + 1, _, by go_num, by omega, hma2, HR2, HD2, hb2⟩, by simp [Go.RowKit.intOf]; omega⟩
    · have hd : decide ((i : Int) < 4) = false := decide_eq_false (by omega)
      have hap : Ap wr wr.heap.size (some ⟨gm, 0, none⟩) 4 4 := .inl ⟨rfl, (fun e => by cases e), (List.range 4).map F, by simp, fun b hb j u hj => by
        cases hb
        rw [List.getElem?_map] at hj
        have hjl : j < 4 := by
          by_cases c : j < 4
          · exact c
          · rw [List.getElem?_eq_none (by simp; omega)] at hj; cases hj
        rw [List.getElem?_range hjl] at hj
        cases hj
        rw [Addr.add_lit, Nat.zero_add]
        exact HR.out.cell j hjl⟩
      have HAP := hide hap
      have HGL : Hid (g < wr.heap.size ∧ ∀ r, r < 2 → rb r < wr.heap.size) := hide ⟨HD.out.top.lt, fun r hr => (HD.out.rows r hr).lt⟩
      have hbml : bm < wr.heap.size := (Array.getElem?_eq_some_iff.1 hma).1
      clear hap HR
      go_wp2_with fail
      clear m0 m1
      obtain ⟨B, hB⟩ : ∃ B, wr.heap.size = B := ⟨_, rfl⟩
      rw [hB] at HAP hbml HGL 
      have hBw : B ≤ wr.heap.size := by omega
      have hwB : w.heap.size ≤ B := by have := hb.size; omega
      go_loopw [10] (fun vi wa => ∃ (i len cap : Nat) (ao : Option Addr), vi = .int .i64 (i : Int) ∧ i ≤ 20 ∧ len ≤ 4 + i ∧ wa.heap[bm]? = some (.cells #[.int .i64 2, .slice ao len cap] 25) ∧ Hid (Ap wa B ao len cap) ∧ B ≤ wa.heap.size ∧ Hid (Dm wa g 2 rb (fun r c => mbs k (2 * r + c))) ∧ Below w.heap.size w wa) (fun vi _ => 20 - (Go.RowKit.intOf vi).toNat)
      case atStart => exact ⟨0, 4, 4, some ⟨gm, 0, none⟩, rfl, by omega, Nat.le_refl _, hma, HAP, hBw, HD, hb⟩
      case round =>
        clear hma HAP hb hB hBw HD
        obtain ⟨i, len, cap, ao, rfl, hi, hlen, hma, HAP, hBw, HD, hb⟩ := hrel
        have m0 := row2_0 hma
        have m1 := row2_1 hma
        by_cases h : i < 20
        · have hd : decide ((i : Int) < 20) = true := decide_eq_true (by omega)
          go_wp2_with (at_builtin; refine wpList_apV rfl _ _ rfl B ao len cap rfl HAP.out _ _ rfl (by omega) hBw ?_)
          intro g2 c2 w7 r7 xs hxs hg2 hgrow hrow
          have hma7 : w7.heap[bm]? = _ := (hgrow.block bm (by omega) (fun e => by have := hrow bm e.symm; omega)).trans hma
          have f1 := frozen_row hma7 1
          have p1 := row2_1 hma7
          have hma8 := snd_set hma7 (.slice (some ⟨g2, 0, none⟩) (len + 1) c2)
          have hb8 := (hb.grown hgrow hb.size (fun q hq => by have := hrow q hq; omega)).setCell (p := ⟨bm, 1, none⟩) hbm (.slice (some ⟨g2, 0, none⟩) (len + 1) c2)
          have HA8 : Hid (Ap (w7.setCell ⟨bm, 1, none⟩ (.slice (some ⟨g2, 0, none⟩) (len + 1) c2)) B (some ⟨g2, 0, none⟩) (len + 1) c2) := hide (by
            refine .inr ⟨xs, ownsRow_of_block hxs (fun k hk => Below.heap_setCell _ _ _ _ (fun e => ?_))⟩
            have e1 : g2 = k := by cases hk; rfl
            have e2 : k = bm := e
            omega)
          have hBs : B ≤ (w7.setCell ⟨bm, 1, none⟩ (.slice (some ⟨g2, 0, none⟩) (len + 1) c2)).heap.size := by
            have := hgrow.size
            simp only [World.setCell, Array.size_modify]
            omega
          have HD8 := hide ((HD.out.keep (hgrow.block g HD.out.top.lt (fun e => by have := hrow g e.symm; have := HGL.out.1; omega)) (fun r hr => hgrow.block (rb r) (HD.out.rows r hr).lt (fun e => by have := hrow (rb r) e.symm; have := HGL.out.2 r hr; omega))).far ⟨bm, 1, none⟩ hgne.2 (fun r hr => (HRB.out r hr).2) (.slice (some ⟨g2, 0, none⟩) (len + 1) c2))
          clear HD
          clear hma HAP hb hgrow hxs hma7 hBw m0 m1
          go_wp2_with fail
          exact ⟨⟨i + 1, len + 1, c2, some ⟨g2, 0, none⟩, by go_num, by omega, by omega, hma8, HA8, hBs, HD8, hb8⟩, by simp [Go.RowKit.intOf]; omega⟩
        · have hd : decide ((i : Int) < 20) = false := decide_eq_false (by omega)
          clear HAP m0 m1 hma
          go_wp2_with fail
          refine (c1 _ (hT.below hb) (hD.below hb)).mono ?_
          rintro e w9 ⟨gm2, rfl, hR2, _, q9⟩
          have hma2 := heap_alloc_new w9 (.cells #[.int .i64 2, .slice (some ⟨gm2, 0, none⟩) 4 4] 25)
          have q10 := hb.trans (q9.mono hb.size)
          replace q10 := q10.trans ((below_new w9 (.cells #[.int .i64 2, .slice (some ⟨gm2, 0, none⟩) 4 4] 25)).mono q10.size)
          replace hR2 := hR2.below (below_new w9 (.cells #[.int .i64 2, .slice (some ⟨gm2, 0, none⟩) 4 4] 25))
          have hD2 := (HD.out.below q9).below (below_new w9 (.cells #[.int .i64 2, .slice (some ⟨gm2, 0, none⟩) 4 4] 25))
          clear HD q9 hb c1
          go_wp2_with fail
          generalize w9.alloc (.cells #[.int .i64 2, .slice (some ⟨gm2, 0, none⟩) 4 4] 25) = W10 at *
          generalize w9.heap.size = bm2 at *
          have HR2 := hide hR2
          have HD2 := hide hD2
          clear hR2 hD2
          refine (cMg _ (hT.below q10) (hD.below q10)).mono ?_
          rintro e w11 ⟨rfl, q11⟩
          have hma3 := row_keep q11 hma2
          have HR3 := hide (HR2.out.below q11)
          have HD3 := hide (HD2.out.below q11)
          clear HR2 HD2
          replace q11 := q10.trans (q11.mono q10.size)
          clear hma2 q10 cMg
          have m0 := row2_0 hma3
          have m1 := row2_1 hma3
          go_wp2_with (go_at_call 13; refine (cMh _).mono ?_; rintro e' w' ⟨rfl, hw⟩; obtain rfl := hw.symm)
          refine (jRows_2 gm2 g rb (mbs k) _ HR3.out HD3.out).mono ?_
          rintro e w12 ⟨rfl, q12⟩
          replace q12 := q11.trans (q12.mono q11.size)
          clear q11 m0 m1 hma3 cMh
          go_wp2_with fail
          refine (jAlive _ (hT.below q12) (hD.below q12)).mono ?_
          rintro e w13 ⟨rfl, q13⟩
          replace q13 := q12.trans (q13.mono q12.size)
          go_wp2_with fail
          go_ret
          exact ⟨by simp, q13⟩
end Go.Proofs.YtnhdgellckcnbaaDoor.Gt
/- The law's Rows of 4 rows. -/
namespace Go.Proofs.YtnhdgellckcnbaaDoor.Gt
open Go.RowKit Go.Proofs.YtnhdgellckcnbaaDoor.Oct Go.Proofs.YtnhdgellckcnbaaDoor.Dy

set_option maxRecDepth 100000 in
set_option maxHeartbeats 2000000 in
theorem jRows_4 (ga g : Nat) (rb : Nat → Nat) (f : Nat → Nat × Nat) (w : World) (hR : Rk w ga 34 16 (fun j => cx (f j))) (hD : Dm w g 4 rb (fun r c => f (4 * r + c))) :
    Calls Tryd.prog 11 #[.agg #[.int .i64 4, .slice (some ⟨ga, 0, none⟩) 16 16], .slice (some ⟨g, 0, none⟩) 4 4] w fun e w' => e = .returned (.bool true) ∧ Below w.heap.size w w' := by
  have cS := zSame
  have b0 := below_new w (.cells #[.int .i64 4, .slice (some ⟨ga, 0, none⟩) 16 16] 25)
  have hm := heap_alloc_new w (.cells #[.int .i64 4, .slice (some ⟨ga, 0, none⟩) 16 16] 25)
  have HR := hide (hR.below b0)
  have HD := hide (hD.below b0)
  clear hR hD
  go_enter Tryd.func11, Tryd.ntmps11
  go_wp2_with fail
  generalize w.alloc (.cells #[.int .i64 4, .slice (some ⟨ga, 0, none⟩) 16 16] 25) = W0 at *
  go_loopw [6, 7, 8] (fun vr _ _ wr => ∃ r : Nat, vr = .int .i64 (r : Int) ∧ r ≤ 4 ∧ Below W0.heap.size W0 wr) (fun vr _ _ _ => 4 - (Go.RowKit.intOf vr).toNat)
  case atStart => exact ⟨0, rfl, by omega, Below.refl _ _⟩
  case round =>
    obtain ⟨r, rfl, hrn, hb⟩ := hrel
    by_cases h : r < 4
    · have hd : decide ((r : Int) < 4) = true := decide_eq_true (by omega)
      go_wp2_with fail
      go_loopw [7, 8] (fun vc _ wc => ∃ c : Nat, vc = .int .i64 (c : Int) ∧ c ≤ 4 ∧ Below W0.heap.size W0 wc) (fun vc _ _ => 4 - (Go.RowKit.intOf vc).toNat)
      case atStart => exact ⟨0, rfl, by omega, hb⟩
      case round =>
        clear hb
        obtain ⟨c, rfl, hcn, hb⟩ := hrel
        by_cases hc : c < 4
        · have hdc : decide ((c : Int) < 4) = true := decide_eq_true (by omega)
          have hrZ : (r : Int) < 4 := by omega
          have hcZ : (c : Int) < 4 := by omega
          have hm1 := row_keep hb hm
          have m0 := row2_0 hm1
          have m1 := row2_1 hm1
          have xa : wr.cell? ⟨ga, r * 4 + c, none⟩ = some (.complex .f64 (f (4 * r + c)).1 (f (4 * r + c)).2) := by
            have := (HR.out.below hb).cell (r * 4 + c) (by omega)
            rw [Nat.mul_comm r 4] at this ⊢
            exact this
          have s0 := (HD.out.below hb).row h
          have s1 := (HD.out.below hb).re h hc
          have s2 := (HD.out.below hb).im h hc
          generalize f (4 * r + c) = F at *
          go_wp2_with fail
          refine (cS _ _ _).mono ?_
          rintro e w2 ⟨rfl, q2⟩
          replace q2 := hb.trans (q2.mono hb.size)
          clear s0 s1 s2 xa m0 m1 hm1 hb
          go_wp2_with fail
          exact ⟨⟨c + 1, by go_num, by omega, q2⟩, by simp [Go.RowKit.intOf]; omega⟩
        · have hdc : decide ((c : Int) < 4) = false := decide_eq_false (by omega)
          go_wp2_with fail
          exact ⟨⟨r + 1, by go_num, by omega, hb⟩, by simp [Go.RowKit.intOf]; omega⟩
    · have hd : decide ((r : Int) < 4) = false := decide_eq_false (by omega)
      go_wp2_with fail
      go_ret
      exact ⟨rfl, b0.trans (hb.mono b0.size)⟩
end Go.Proofs.YtnhdgellckcnbaaDoor.Gt
/- GateMatrices of kinds with 4 rows. -/
namespace Go.Proofs.YtnhdgellckcnbaaDoor.Gt
open Go.RowKit Go.Proofs.YtnhdgellckcnbaaDoor.Oct Go.Proofs.YtnhdgellckcnbaaDoor.Dy

set_option maxRecDepth 100000 in
set_option maxHeartbeats 4000000 in
theorem xGateMatrices_4 (k : Nat) (x : Int) (h1 : 1 ≤ k) (h2 : k ≤ 20) (hr : rowsN k = 4) (w : World) (hT : Tb w) (hD : Td w) : Calls Tryd.prog 3 #[.int .i64 (k : Int), .int .i64 x] w fun e w' => e = .returned (.bool true) ∧ Below w.heap.size w w' := by
  obtain ⟨y, p, ok, cMg, cMh⟩ := mv_same (k : Int) x
  have cN := jNum
  have hst := store_c
  have c1 := fun w hT hD => gMat k h1 h2 w hT hD
  have c2 := fun w => hMat k h1 h2 w
  rw [hr] at c1 c2
  unfold MPost at c1
  unfold DPost at c2
  go_enter Tryd.func3, Tryd.ntmps3
  go_wp2_with fail
  refine (c1 _ hT hD).mono ?_
  rintro e w1 ⟨gm, rfl, hRa, hgm, q1⟩
  have hma := heap_alloc_new w1 (.cells #[.int .i64 4, .slice (some ⟨gm, 0, none⟩) 16 16] 25)
  have q2 := q1.trans ((below_new w1 (.cells #[.int .i64 4, .slice (some ⟨gm, 0, none⟩) 16 16] 25)).mono q1.size)
  have hgl := hRa.lt
  replace hRa := hRa.below (below_new w1 (.cells #[.int .i64 4, .slice (some ⟨gm, 0, none⟩) 16 16] 25))
  have hbm := q1.size
  have hbs : w1.heap.size < (w1.alloc (.cells #[.int .i64 4, .slice (some ⟨gm, 0, none⟩) 16 16] 25)).heap.size := by simp
  clear q1
  go_wp2_with fail
  generalize w1.alloc (.cells #[.int .i64 4, .slice (some ⟨gm, 0, none⟩) 16 16] 25) = W2 at *
  generalize w1.heap.size = bm at *
  refine (c2 _).mono ?_
  rintro e w3 ⟨g, rb, rfl, hDm, hg, hrb, q3⟩
  replace hma := row_keep q3 hma
  replace hRa := hRa.below q3
  have q4 := q2.trans (q3.mono q2.size)
  clear q2 c2
  have m0 := row2_0 hma
  have m1 := row2_1 hma
  have HD := hide hDm
  have HR := hide hRa
  clear hDm hRa
  go_wp2_with (go_at_call 10; refine (cN _ _).mono ?_; rintro e' w' ⟨rfl, hw⟩; obtain rfl := hw.symm)
  refine (jRows_4 gm g rb (mbs k) _ HR.out HD.out).mono ?_
  rintro e w5 ⟨rfl, q5⟩
  replace hma := row_keep q5 hma
  replace HR := hide (HR.out.below q5)
  replace HD := hide (HD.out.below q5)
  replace q5 := q4.trans (q5.mono q4.size)
  clear q4 m0 m1 q3
  have hgne : g ≠ gm ∧ g ≠ bm := ⟨by omega, by omega⟩
  have HRB : Hid (∀ i, i < 4 → rb i ≠ gm ∧ rb i ≠ bm) := hide (fun i hi => by have := hrb i hi; exact ⟨by omega, by omega⟩)
  have hne : bm ≠ gm := by omega
  clear hg hrb hbs
  go_wp2_with fail
  go_loopw [9] (fun vi wr => ∃ (i : Nat) (F : Nat → Value), vi = .int .i64 (i : Int) ∧ i ≤ 16 ∧ wr.heap[bm]? = some (.cells #[.int .i64 4, .slice (some ⟨gm, 0, none⟩) 16 16] 25) ∧ Hid (Rk wr gm 34 16 F) ∧ Hid (Dm wr g 4 rb (fun r c => mbs k (4 * r + c))) ∧ Below w.heap.size w wr) (fun vi _ => 16 - (Go.RowKit.intOf vi).toNat)
  case atStart => exact ⟨0, _, rfl, by omega, hma, HR, HD, q5⟩
  case round =>
    clear hma HR HD q5
    obtain ⟨i, F, rfl, hi, hma, HR, HD, hb⟩ := hrel
    have m0 := row2_0 hma
    have m1 := row2_1 hma
    by_cases h : i < 16
    · have hd : decide ((i : Int) < 16) = true := decide_eq_true (by omega)
      have x0 := HR.out.cell i h
      have x1 := HR.out.frozen i
      have HR2 := hide (HR.out.set i (.complex .f64 4635118810238550016 0))
      have HD2 := hide (HD.out.far ⟨gm, i, none⟩ hgne.1 (fun r hr => (HRB.out r hr).1) (.complex .f64 4635118810238550016 0))
      have hma2 : (wr.setCell ⟨gm, i, none⟩ (.complex .f64 4635118810238550016 0)).heap[bm]? = _ := (Below.heap_setCell _ _ _ _ hne).trans hma
      have hb2 := hb.setCell (p := ⟨gm, i, none⟩) hgm (.complex .f64 4635118810238550016 0)
      clear HR HD hma hb
      go_wp2_with fail
      exact ⟨⟨i + 1, _, by go_num, by omega, hma2, HR2, HD2, hb2⟩, by simp [Go.RowKit.intOf]; omega⟩
    · have hd : decide ((i : Int) < 16) = false := decide_eq_false (by omega)
      have hap : Ap wr wr.heap.size (some ⟨gm, 0, none⟩) 16 16 := .inl ⟨rfl, (fun e => by cases e), (List.range 16).map F, by simp, fun b hb j u hj => by
        cases hb
        rw [List.getElem?_map] at hj
        have hjl : j < 16 := by
          by_cases c : j < 16
          · exact c
          · rw [List.getElem?_eq_none (by simp; omega)] at hj; cases hj
        rw [List.getElem?_range hjl] at hj
        cases hj
        rw [Addr.add_lit, Nat.zero_add]
        exact HR.out.cell j hjl⟩
      have HAP := hide hap
      have HGL : Hid (g < wr.heap.size ∧ ∀ r, r < 4 → rb r < wr.heap.size) := hide ⟨HD.out.top.lt, fun r hr => (HD.out.rows r hr).lt⟩
      have hbml : bm < wr.heap.size := (Array.getElem?_eq_some_iff.1 hma).1
      clear hap HR
      go_wp2_with fail
      clear m0 m1
      obtain ⟨B, hB⟩ : ∃ B, wr.heap.size = B := ⟨_, rfl⟩
      rw [hB] at HAP hbml HGL 
      have hBw : B ≤ wr.heap.size := by omega
      have hwB : w.heap.size ≤ B := by have := hb.size; omega
      go_loopw [10] (fun vi wa => ∃ (i len cap : Nat) (ao : Option Addr), vi = .int .i64 (i : Int) ∧ i ≤ 20 ∧ len ≤ 16 + i ∧ wa.heap[bm]? = some (.cells #[.int .i64 4, .slice ao len cap] 25) ∧ Hid (Ap wa B ao len cap) ∧ B ≤ wa.heap.size ∧ Hid (Dm wa g 4 rb (fun r c => mbs k (4 * r + c))) ∧ Below w.heap.size w wa) (fun vi _ => 20 - (Go.RowKit.intOf vi).toNat)
      case atStart => exact ⟨0, 16, 16, some ⟨gm, 0, none⟩, rfl, by omega, Nat.le_refl _, hma, HAP, hBw, HD, hb⟩
      case round =>
        clear hma HAP hb hB hBw HD
        obtain ⟨i, len, cap, ao, rfl, hi, hlen, hma, HAP, hBw, HD, hb⟩ := hrel
        have m0 := row2_0 hma
        have m1 := row2_1 hma
        by_cases h : i < 20
        · have hd : decide ((i : Int) < 20) = true := decide_eq_true (by omega)
          go_wp2_with (at_builtin; refine wpList_apV rfl _ _ rfl B ao len cap rfl HAP.out _ _ rfl (by omega) hBw ?_)
          intro g2 c2 w7 r7 xs hxs hg2 hgrow hrow
          have hma7 : w7.heap[bm]? = _ := (hgrow.block bm (by omega) (fun e => by have := hrow bm e.symm; omega)).trans hma
          have f1 := frozen_row hma7 1
          have p1 := row2_1 hma7
          have hma8 := snd_set hma7 (.slice (some ⟨g2, 0, none⟩) (len + 1) c2)
          have hb8 := (hb.grown hgrow hb.size (fun q hq => by have := hrow q hq; omega)).setCell (p := ⟨bm, 1, none⟩) hbm (.slice (some ⟨g2, 0, none⟩) (len + 1) c2)
          have HA8 : Hid (Ap (w7.setCell ⟨bm, 1, none⟩ (.slice (some ⟨g2, 0, none⟩) (len + 1) c2)) B (some ⟨g2, 0, none⟩) (len + 1) c2) := hide (by
            refine .inr ⟨xs, ownsRow_of_block hxs (fun k hk => Below.heap_setCell _ _ _ _ (fun e => ?_))⟩
            have e1 : g2 = k := by cases hk; rfl
            have e2 : k = bm := e
            omega)
          have hBs : B ≤ (w7.setCell ⟨bm, 1, none⟩ (.slice (some ⟨g2, 0, none⟩) (len + 1) c2)).heap.size := by
            have := hgrow.size
            simp only [World.setCell, Array.size_modify]
            omega
          have HD8 := hide ((HD.out.keep (hgrow.block g HD.out.top.lt (fun e => by have := hrow g e.symm; have := HGL.out.1; omega)) (fun r hr => hgrow.block (rb r) (HD.out.rows r hr).lt (fun e => by have := hrow (rb r) e.symm; have := HGL.out.2 r hr; omega))).far ⟨bm, 1, none⟩ hgne.2 (fun r hr => (HRB.out r hr).2) (.slice (some ⟨g2, 0, none⟩) (len + 1) c2))
          clear HD
          clear hma HAP hb hgrow hxs hma7 hBw m0 m1
          go_wp2_with fail
          exact ⟨⟨i + 1, len + 1, c2, some ⟨g2, 0, none⟩, by go_num, by omega, by omega, hma8, HA8, hBs, HD8, hb8⟩, by simp [Go.RowKit.intOf]; omega⟩
        · have hd : decide ((i : Int) < 20) = false := decide_eq_false (by omega)
          clear HAP m0 m1 hma
          go_wp2_with fail
          refine (c1 _ (hT.below hb) (hD.below hb)).mono ?_
          rintro e w9 ⟨gm2, rfl, hR2, _, q9⟩
          have hma2 := heap_alloc_new w9 (.cells #[.int .i64 4, .slice (some ⟨gm2, 0, none⟩) 16 16] 25)
          have q10 := hb.trans (q9.mono hb.size)
          replace q10 := q10.trans ((below_new w9 (.cells #[.int .i64 4, .slice (some ⟨gm2, 0, none⟩) 16 16] 25)).mono q10.size)
          replace hR2 := hR2.below (below_new w9 (.cells #[.int .i64 4, .slice (some ⟨gm2, 0, none⟩) 16 16] 25))
          have hD2 := (HD.out.below q9).below (below_new w9 (.cells #[.int .i64 4, .slice (some ⟨gm2, 0, none⟩) 16 16] 25))
          clear HD q9 hb c1
          go_wp2_with fail
          generalize w9.alloc (.cells #[.int .i64 4, .slice (some ⟨gm2, 0, none⟩) 16 16] 25) = W10 at *
          generalize w9.heap.size = bm2 at *
          have HR2 := hide hR2
          have HD2 := hide hD2
          clear hR2 hD2
          refine (cMg _ (hT.below q10) (hD.below q10)).mono ?_
          rintro e w11 ⟨rfl, q11⟩
          have hma3 := row_keep q11 hma2
          have HR3 := hide (HR2.out.below q11)
          have HD3 := hide (HD2.out.below q11)
          clear HR2 HD2
          replace q11 := q10.trans (q11.mono q10.size)
          clear hma2 q10 cMg
          have m0 := row2_0 hma3
          have m1 := row2_1 hma3
          go_wp2_with (go_at_call 13; refine (cMh _).mono ?_; rintro e' w' ⟨rfl, hw⟩; obtain rfl := hw.symm)
          refine (jRows_4 gm2 g rb (mbs k) _ HR3.out HD3.out).mono ?_
          rintro e w12 ⟨rfl, q12⟩
          replace q12 := q11.trans (q12.mono q11.size)
          clear q11 m0 m1 hma3 cMh
          go_wp2_with fail
          refine (jAlive _ (hT.below q12) (hD.below q12)).mono ?_
          rintro e w13 ⟨rfl, q13⟩
          replace q13 := q12.trans (q13.mono q12.size)
          go_wp2_with fail
          go_ret
          exact ⟨by simp, q13⟩
end Go.Proofs.YtnhdgellckcnbaaDoor.Gt
/- The law's Rows of 8 rows. -/
namespace Go.Proofs.YtnhdgellckcnbaaDoor.Gt
open Go.RowKit Go.Proofs.YtnhdgellckcnbaaDoor.Oct Go.Proofs.YtnhdgellckcnbaaDoor.Dy

set_option maxRecDepth 100000 in
set_option maxHeartbeats 2000000 in
theorem jRows_8 (ga g : Nat) (rb : Nat → Nat) (f : Nat → Nat × Nat) (w : World) (hR : Rk w ga 34 64 (fun j => cx (f j))) (hD : Dm w g 8 rb (fun r c => f (8 * r + c))) :
    Calls Tryd.prog 11 #[.agg #[.int .i64 8, .slice (some ⟨ga, 0, none⟩) 64 64], .slice (some ⟨g, 0, none⟩) 8 8] w fun e w' => e = .returned (.bool true) ∧ Below w.heap.size w w' := by
  have cS := zSame
  have b0 := below_new w (.cells #[.int .i64 8, .slice (some ⟨ga, 0, none⟩) 64 64] 25)
  have hm := heap_alloc_new w (.cells #[.int .i64 8, .slice (some ⟨ga, 0, none⟩) 64 64] 25)
  have HR := hide (hR.below b0)
  have HD := hide (hD.below b0)
  clear hR hD
  go_enter Tryd.func11, Tryd.ntmps11
  go_wp2_with fail
  generalize w.alloc (.cells #[.int .i64 8, .slice (some ⟨ga, 0, none⟩) 64 64] 25) = W0 at *
  go_loopw [6, 7, 8] (fun vr _ _ wr => ∃ r : Nat, vr = .int .i64 (r : Int) ∧ r ≤ 8 ∧ Below W0.heap.size W0 wr) (fun vr _ _ _ => 8 - (Go.RowKit.intOf vr).toNat)
  case atStart => exact ⟨0, rfl, by omega, Below.refl _ _⟩
  case round =>
    obtain ⟨r, rfl, hrn, hb⟩ := hrel
    by_cases h : r < 8
    · have hd : decide ((r : Int) < 8) = true := decide_eq_true (by omega)
      go_wp2_with fail
      go_loopw [7, 8] (fun vc _ wc => ∃ c : Nat, vc = .int .i64 (c : Int) ∧ c ≤ 8 ∧ Below W0.heap.size W0 wc) (fun vc _ _ => 8 - (Go.RowKit.intOf vc).toNat)
      case atStart => exact ⟨0, rfl, by omega, hb⟩
      case round =>
        clear hb
        obtain ⟨c, rfl, hcn, hb⟩ := hrel
        by_cases hc : c < 8
        · have hdc : decide ((c : Int) < 8) = true := decide_eq_true (by omega)
          have hrZ : (r : Int) < 8 := by omega
          have hcZ : (c : Int) < 8 := by omega
          have hm1 := row_keep hb hm
          have m0 := row2_0 hm1
          have m1 := row2_1 hm1
          have xa : wr.cell? ⟨ga, r * 8 + c, none⟩ = some (.complex .f64 (f (8 * r + c)).1 (f (8 * r + c)).2) := by
            have := (HR.out.below hb).cell (r * 8 + c) (by omega)
            rw [Nat.mul_comm r 8] at this ⊢
            exact this
          have s0 := (HD.out.below hb).row h
          have s1 := (HD.out.below hb).re h hc
          have s2 := (HD.out.below hb).im h hc
          generalize f (8 * r + c) = F at *
          go_wp2_with fail
          refine (cS _ _ _).mono ?_
          rintro e w2 ⟨rfl, q2⟩
          replace q2 := hb.trans (q2.mono hb.size)
          clear s0 s1 s2 xa m0 m1 hm1 hb
          go_wp2_with fail
          exact ⟨⟨c + 1, by go_num, by omega, q2⟩, by simp [Go.RowKit.intOf]; omega⟩
        · have hdc : decide ((c : Int) < 8) = false := decide_eq_false (by omega)
          go_wp2_with fail
          exact ⟨⟨r + 1, by go_num, by omega, hb⟩, by simp [Go.RowKit.intOf]; omega⟩
    · have hd : decide ((r : Int) < 8) = false := decide_eq_false (by omega)
      go_wp2_with fail
      go_ret
      exact ⟨rfl, b0.trans (hb.mono b0.size)⟩
end Go.Proofs.YtnhdgellckcnbaaDoor.Gt
/- GateMatrices of kinds with 8 rows. -/
namespace Go.Proofs.YtnhdgellckcnbaaDoor.Gt
open Go.RowKit Go.Proofs.YtnhdgellckcnbaaDoor.Oct Go.Proofs.YtnhdgellckcnbaaDoor.Dy

set_option maxRecDepth 100000 in
set_option maxHeartbeats 4000000 in
theorem xGateMatrices_8 (k : Nat) (x : Int) (h1 : 1 ≤ k) (h2 : k ≤ 20) (hr : rowsN k = 8) (w : World) (hT : Tb w) (hD : Td w) : Calls Tryd.prog 3 #[.int .i64 (k : Int), .int .i64 x] w fun e w' => e = .returned (.bool true) ∧ Below w.heap.size w w' := by
  obtain ⟨y, p, ok, cMg, cMh⟩ := mv_same (k : Int) x
  have cN := jNum
  have hst := store_c
  have c1 := fun w hT hD => gMat k h1 h2 w hT hD
  have c2 := fun w => hMat k h1 h2 w
  rw [hr] at c1 c2
  unfold MPost at c1
  unfold DPost at c2
  go_enter Tryd.func3, Tryd.ntmps3
  go_wp2_with fail
  refine (c1 _ hT hD).mono ?_
  rintro e w1 ⟨gm, rfl, hRa, hgm, q1⟩
  have hma := heap_alloc_new w1 (.cells #[.int .i64 8, .slice (some ⟨gm, 0, none⟩) 64 64] 25)
  have q2 := q1.trans ((below_new w1 (.cells #[.int .i64 8, .slice (some ⟨gm, 0, none⟩) 64 64] 25)).mono q1.size)
  have hgl := hRa.lt
  replace hRa := hRa.below (below_new w1 (.cells #[.int .i64 8, .slice (some ⟨gm, 0, none⟩) 64 64] 25))
  have hbm := q1.size
  have hbs : w1.heap.size < (w1.alloc (.cells #[.int .i64 8, .slice (some ⟨gm, 0, none⟩) 64 64] 25)).heap.size := by simp
  clear q1
  go_wp2_with fail
  generalize w1.alloc (.cells #[.int .i64 8, .slice (some ⟨gm, 0, none⟩) 64 64] 25) = W2 at *
  generalize w1.heap.size = bm at *
  refine (c2 _).mono ?_
  rintro e w3 ⟨g, rb, rfl, hDm, hg, hrb, q3⟩
  replace hma := row_keep q3 hma
  replace hRa := hRa.below q3
  have q4 := q2.trans (q3.mono q2.size)
  clear q2 c2
  have m0 := row2_0 hma
  have m1 := row2_1 hma
  have HD := hide hDm
  have HR := hide hRa
  clear hDm hRa
  go_wp2_with (go_at_call 10; refine (cN _ _).mono ?_; rintro e' w' ⟨rfl, hw⟩; obtain rfl := hw.symm)
  refine (jRows_8 gm g rb (mbs k) _ HR.out HD.out).mono ?_
  rintro e w5 ⟨rfl, q5⟩
  replace hma := row_keep q5 hma
  replace HR := hide (HR.out.below q5)
  replace HD := hide (HD.out.below q5)
  replace q5 := q4.trans (q5.mono q4.size)
  clear q4 m0 m1 q3
  have hgne : g ≠ gm ∧ g ≠ bm := ⟨by omega, by omega⟩
  have HRB : Hid (∀ i, i < 8 → rb i ≠ gm ∧ rb i ≠ bm) := hide (fun i hi => by have := hrb i hi; exact ⟨by omega, by omega⟩)
  have hne : bm ≠ gm := by omega
  clear hg hrb hbs
  go_wp2_with fail
  go_loopw [9] (fun vi wr => ∃ (i : Nat) (F : Nat → Value), vi = .int .i64 (i : Int) ∧ i ≤ 64 ∧ wr.heap[bm]? = some (.cells #[.int .i64 8, .slice (some ⟨gm, 0, none⟩) 64 64] 25) ∧ Hid (Rk wr gm 34 64 F) ∧ Hid (Dm wr g 8 rb (fun r c => mbs k (8 * r + c))) ∧ Below w.heap.size w wr) (fun vi _ => 64 - (Go.RowKit.intOf vi).toNat)
  case atStart => exact ⟨0, _, rfl, by omega, hma, HR, HD, q5⟩
  case round =>
    clear hma HR HD q5
    obtain ⟨i, F, rfl, hi, hma, HR, HD, hb⟩ := hrel
    have m0 := row2_0 hma
    have m1 := row2_1 hma
    by_cases h : i < 64
    · have hd : decide ((i : Int) < 64) = true := decide_eq_true (by omega)
      have x0 := HR.out.cell i h
      have x1 := HR.out.frozen i
      have HR2 := hide (HR.out.set i (.complex .f64 4635118810238550016 0))
      have HD2 := hide (HD.out.far ⟨gm, i, none⟩ hgne.1 (fun r hr => (HRB.out r hr).1) (.complex .f64 4635118810238550016 0))
      have hma2 : (wr.setCell ⟨gm, i, none⟩ (.complex .f64 4635118810238550016 0)).heap[bm]? = _ := (Below.heap_setCell _ _ _ _ hne).trans hma
      have hb2 := hb.setCell (p := ⟨gm, i, none⟩) hgm (.complex .f64 4635118810238550016 0)
      clear HR HD hma hb
      go_wp2_with fail
      exact ⟨⟨i + 1, _, by go_num, by omega, hma2, HR2, HD2, hb2⟩, by simp [Go.RowKit.intOf]; omega⟩
    · have hd : decide ((i : Int) < 64) = false := decide_eq_false (by omega)
      have hap : Ap wr wr.heap.size (some ⟨gm, 0, none⟩) 64 64 := .inl ⟨rfl, (fun e => by cases e), (List.range 64).map F, by simp, fun b hb j u hj => by
        cases hb
        rw [List.getElem?_map] at hj
        have hjl : j < 64 := by
          by_cases c : j < 64
          · exact c
          · rw [List.getElem?_eq_none (by simp; omega)] at hj; cases hj
        rw [List.getElem?_range hjl] at hj
        cases hj
        rw [Addr.add_lit, Nat.zero_add]
        exact HR.out.cell j hjl⟩
      have HAP := hide hap
      have HGL : Hid (g < wr.heap.size ∧ ∀ r, r < 8 → rb r < wr.heap.size) := hide ⟨HD.out.top.lt, fun r hr => (HD.out.rows r hr).lt⟩
      have hbml : bm < wr.heap.size := (Array.getElem?_eq_some_iff.1 hma).1
      clear hap HR
      go_wp2_with fail
      clear m0 m1
      obtain ⟨B, hB⟩ : ∃ B, wr.heap.size = B := ⟨_, rfl⟩
      rw [hB] at HAP hbml HGL 
      have hBw : B ≤ wr.heap.size := by omega
      have hwB : w.heap.size ≤ B := by have := hb.size; omega
      go_loopw [10] (fun vi wa => ∃ (i len cap : Nat) (ao : Option Addr), vi = .int .i64 (i : Int) ∧ i ≤ 20 ∧ len ≤ 64 + i ∧ wa.heap[bm]? = some (.cells #[.int .i64 8, .slice ao len cap] 25) ∧ Hid (Ap wa B ao len cap) ∧ B ≤ wa.heap.size ∧ Hid (Dm wa g 8 rb (fun r c => mbs k (8 * r + c))) ∧ Below w.heap.size w wa) (fun vi _ => 20 - (Go.RowKit.intOf vi).toNat)
      case atStart => exact ⟨0, 64, 64, some ⟨gm, 0, none⟩, rfl, by omega, Nat.le_refl _, hma, HAP, hBw, HD, hb⟩
      case round =>
        clear hma HAP hb hB hBw HD
        obtain ⟨i, len, cap, ao, rfl, hi, hlen, hma, HAP, hBw, HD, hb⟩ := hrel
        have m0 := row2_0 hma
        have m1 := row2_1 hma
        by_cases h : i < 20
        · have hd : decide ((i : Int) < 20) = true := decide_eq_true (by omega)
          go_wp2_with (at_builtin; refine wpList_apV rfl _ _ rfl B ao len cap rfl HAP.out _ _ rfl (by omega) hBw ?_)
          intro g2 c2 w7 r7 xs hxs hg2 hgrow hrow
          have hma7 : w7.heap[bm]? = _ := (hgrow.block bm (by omega) (fun e => by have := hrow bm e.symm; omega)).trans hma
          have f1 := frozen_row hma7 1
          have p1 := row2_1 hma7
          have hma8 := snd_set hma7 (.slice (some ⟨g2, 0, none⟩) (len + 1) c2)
          have hb8 := (hb.grown hgrow hb.size (fun q hq => by have := hrow q hq; omega)).setCell (p := ⟨bm, 1, none⟩) hbm (.slice (some ⟨g2, 0, none⟩) (len + 1) c2)
          have HA8 : Hid (Ap (w7.setCell ⟨bm, 1, none⟩ (.slice (some ⟨g2, 0, none⟩) (len + 1) c2)) B (some ⟨g2, 0, none⟩) (len + 1) c2) := hide (by
            refine .inr ⟨xs, ownsRow_of_block hxs (fun k hk => Below.heap_setCell _ _ _ _ (fun e => ?_))⟩
            have e1 : g2 = k := by cases hk; rfl
            have e2 : k = bm := e
            omega)
          have hBs : B ≤ (w7.setCell ⟨bm, 1, none⟩ (.slice (some ⟨g2, 0, none⟩) (len + 1) c2)).heap.size := by
            have := hgrow.size
            simp only [World.setCell, Array.size_modify]
            omega
          have HD8 := hide ((HD.out.keep (hgrow.block g HD.out.top.lt (fun e => by have := hrow g e.symm; have := HGL.out.1; omega)) (fun r hr => hgrow.block (rb r) (HD.out.rows r hr).lt (fun e => by have := hrow (rb r) e.symm; have := HGL.out.2 r hr; omega))).far ⟨bm, 1, none⟩ hgne.2 (fun r hr => (HRB.out r hr).2) (.slice (some ⟨g2, 0, none⟩) (len + 1) c2))
          clear HD
          clear hma HAP hb hgrow hxs hma7 hBw m0 m1
          go_wp2_with fail
          exact ⟨⟨i + 1, len + 1, c2, some ⟨g2, 0, none⟩, by go_num, by omega, by omega, hma8, HA8, hBs, HD8, hb8⟩, by simp [Go.RowKit.intOf]; omega⟩
        · have hd : decide ((i : Int) < 20) = false := decide_eq_false (by omega)
          clear HAP m0 m1 hma
          go_wp2_with fail
          refine (c1 _ (hT.below hb) (hD.below hb)).mono ?_
          rintro e w9 ⟨gm2, rfl, hR2, _, q9⟩
          have hma2 := heap_alloc_new w9 (.cells #[.int .i64 8, .slice (some ⟨gm2, 0, none⟩) 64 64] 25)
          have q10 := hb.trans (q9.mono hb.size)
          replace q10 := q10.trans ((below_new w9 (.cells #[.int .i64 8, .slice (some ⟨gm2, 0, none⟩) 64 64] 25)).mono q10.size)
          replace hR2 := hR2.below (below_new w9 (.cells #[.int .i64 8, .slice (some ⟨gm2, 0, none⟩) 64 64] 25))
          have hD2 := (HD.out.below q9).below (below_new w9 (.cells #[.int .i64 8, .slice (some ⟨gm2, 0, none⟩) 64 64] 25))
          clear HD q9 hb c1
          go_wp2_with fail
          generalize w9.alloc (.cells #[.int .i64 8, .slice (some ⟨gm2, 0, none⟩) 64 64] 25) = W10 at *
          generalize w9.heap.size = bm2 at *
          have HR2 := hide hR2
          have HD2 := hide hD2
          clear hR2 hD2
          refine (cMg _ (hT.below q10) (hD.below q10)).mono ?_
          rintro e w11 ⟨rfl, q11⟩
          have hma3 := row_keep q11 hma2
          have HR3 := hide (HR2.out.below q11)
          have HD3 := hide (HD2.out.below q11)
          clear HR2 HD2
          replace q11 := q10.trans (q11.mono q10.size)
          clear hma2 q10 cMg
          have m0 := row2_0 hma3
          have m1 := row2_1 hma3
          go_wp2_with (go_at_call 13; refine (cMh _).mono ?_; rintro e' w' ⟨rfl, hw⟩; obtain rfl := hw.symm)
          refine (jRows_8 gm2 g rb (mbs k) _ HR3.out HD3.out).mono ?_
          rintro e w12 ⟨rfl, q12⟩
          replace q12 := q11.trans (q12.mono q11.size)
          clear q11 m0 m1 hma3 cMh
          go_wp2_with fail
          refine (jAlive _ (hT.below q12) (hD.below q12)).mono ?_
          rintro e w13 ⟨rfl, q13⟩
          replace q13 := q12.trans (q13.mono q12.size)
          go_wp2_with fail
          go_ret
          exact ⟨by simp, q13⟩
end Go.Proofs.YtnhdgellckcnbaaDoor.Gt
/- GateMatrices of every kind and every index. -/
namespace Go.Proofs.YtnhdgellckcnbaaDoor.Gt
open Go.RowKit Go.Proofs.YtnhdgellckcnbaaDoor.Oct
theorem xGateMatrices (k x : Int) (w : World) (hT : Tb w) (hD : Td w) : Calls Tryd.prog 3 #[.int .i64 k, .int .i64 x] w fun e w' => e = .returned (.bool true) ∧ Below w.heap.size w w' := by
  by_cases h : 1 ≤ k ∧ k ≤ 20
  · obtain ⟨n, rfl⟩ : ∃ n : Nat, k = (n : Int) := ⟨k.toNat, by omega⟩
    rcases rowsN_is n with e | e | e
    · exact xGateMatrices_2 n x (by omega) (by omega) e w hT hD
    · exact xGateMatrices_4 n x (by omega) (by omega) e w hT hD
    · exact xGateMatrices_8 n x (by omega) (by omega) e w hT hD
  · exact xGateMatrices_0 k x h w hT hD
end Go.Proofs.YtnhdgellckcnbaaDoor.Gt
/- GateMatrices answers true for every kind and every index: Matrix answers the document's matrix to the bit, and again when what it answered was written over and appended to; Moves answers the document's. Condition: the two listed variables lie as the program's text lays them (the card ties them to the text). -/
namespace Go.Proofs.YtnhdgellckcnbaaDoor.Gt
open Go.ChangeShapes Go.WideShapes Go.ChangeAt Go.RowKit
namespace gateMatrices
theorem readable : ∀ t ∈ Tryd.f3.params.toList, Tryd.prog.readableRec t = true ∧ t < Tryd.prog.types.size := by
  rw [Tryd.params3]
  intro t ht
  simp at ht
  rcases ht with rfl | rfl <;> exact ⟨by kernel_rfl, of_decide_eq_true (by kernel_rfl)⟩
set_option maxRecDepth 100000 in
theorem contract (H : Type) (enc : TypeId × Value → H) (W : World) (base : Nat) (args : Array Value) (ds gs : List (DataW H)) (before : List MemPlace)
    (hval : ∀ (j : Nat) t v, Tryd.f3.params[j]? = some t → args[j]? = some v → Value.okWide Tryd.prog W .any base t v)
    (hW : DataW.Whole enc Tryd.prog Tryd.f3.params.toList Rows.gateMatricesSpec.vars false W args.toList ds gs before) 
    (hsz : (DataW.weightsEach Tryd.prog (Tryd.f3.params.toList ++ (OpenSpec.ofChange Rows.gateMatricesSpec).bare.plain.varTypes Tryd.prog) (ds ++ gs)).all (· ≤ reachBytes) = true) (hL : laidMetH Tryd.prog Rows.gateMatricesRow.laid W) :
    Calls Tryd.prog 3 args W fun e W' => ∃ v, e = .returned v ∧ Rows.gateMatricesSpec.post enc Tryd.prog Tryd.f3 false true false false W args v W' := by
  have hT : Tb W ∧ Td W := tg_of (plain8 hL)
  have hW0 := hW
  obtain ⟨p, q, hA, hV, rfl, _, _⟩ := hW
  obtain ⟨rfl, rfl⟩ := trodVars_none hV
  have hA' : DataW.TrodAll enc Tryd.prog W 0 (fun _ => true) true Tryd.f3.params.toList args.toList ds p := hA
  rw [Tryd.params3] at hA' hval
  have hfin : ∀ dd : List (DataW H), ds = dd → (Rows.gateMatricesSpec.fn H dd).results = [.lit (.bool true)] ∧ (Rows.gateMatricesSpec.fn H dd).args = dd ∧ (Rows.gateMatricesSpec.fn H dd).vars = [] → ∀ W', Below W.heap.size W W' → Rows.gateMatricesSpec.post enc Tryd.prog Tryd.f3 false true false false W args (.bool true) W' := by
    rintro dd rfl hs W' hb
    exact law_post (enc := enc) Tryd.f3 Rows.gateMatricesSpec 4 laidOut rfl readable (by kernel_rfl) Tryd.underlying4 hW0 hs hb
  obtain ⟨v0, v1, d0, d1, p0, p1, rfl, rfl, rfl, h0, h1⟩ := trodAll_two hA'
  have hwalk : Calls Tryd.prog 3 #[v0, v1] W fun e W' => e = .returned (.bool true) ∧ Below W.heap.size W W' := by
    obtain ⟨x0, rfl, rfl, rfl, k0⟩ := open_int Tryd.underlying22 (hval 0 _ v0 rfl rfl) h0
    obtain ⟨x1, rfl, rfl, rfl, k1⟩ := open_int Tryd.underlying3 (hval 1 _ v1 rfl rfl) h1
    exact xGateMatrices x0 x1 W hT.1 hT.2
  refine hwalk.mono ?_
  rintro e W' ⟨rfl, hb⟩
  exact ⟨_, rfl, hfin _ rfl ⟨rfl, rfl, rfl⟩ W' hb⟩
theorem laid_met (os : Os) (args : Array Value) : laidMet Tryd.prog Rows.gateMatricesRow.laid ((laidWorld os).forCall (fun _ _ => 0) ⟨#[], args, []⟩).memory :=
  laid_met8 os args
theorem reads (os : Os) {H : Type} (enc : TypeId × Value → H) : ∃ places, DataW.whole enc Tryd.prog ((laidWorld os).forCall (fun _ _ => 0) ⟨#[], #[.int .i64 1, .int .i64 1], []⟩).memory Tryd.f3.params.toList Rows.gateMatricesSpec.vars false #[(.int .i64 1 : Value), .int .i64 1].toList 8 = some ([.lit (.int .i64 1), .lit (.int .i64 1)], [], places) :=
  ⟨[], by kernel_rfl⟩

set_option maxRecDepth 100000 in
theorem lifted (os : Os) (started : os.Started) (H : Type) (enc : TypeId × Value → H) (F : Stop.Interp) :
    ReturnsInHanded {} Tryd.checked os 3 .any ((OpenSpec.ofChange Rows.gateMatricesSpec).preRow enc Tryd.prog Tryd.f3 Rows.gateMatricesRow.domain false Rows.gateMatricesRow.laid) (((OpenSpec.ofChange Rows.gateMatricesSpec).at F).post enc Tryd.prog Tryd.f3 false true false false) := by
  obtain ⟨places, hx⟩ := reads os enc
  refine returnsInHanded_of_row (C := Tryd.checked) (s := OpenSpec.ofChange Rows.gateMatricesSpec) own started (by kernel_rfl) Tryd.func3
    (witness_row_shaped (enc := enc) (C := Tryd.checked) false (laidWorld os) #[.int .i64 1, .int .i64 1] (laidWorld_os os) (shaped8 os _) (by kernel_rfl)
      (OpenSpec.preRow_of_cond 8 hx (by kernel_rfl) (fun k hk => by cases hk) (by kernel_rfl) (laid_met os _))) ?_
  intro W base args ds gs before hval hW _ _ hsz hL _ _
  exact contract H enc W base args ds gs before hval hW hsz hL
theorem said : Rows.GateMatricesSaid :=
  OpenClaim.holds_of_cond 3 Tryd.f3 rfl rfl rfl rfl rfl rfl rfl ⟨rfl, rfl, rfl, rfl, rfl⟩ rfl rfl rfl rfl rfl (by kernel_rfl) Tryd.func3 (by kernel_rfl)
    (of_decide_eq_true (by kernel_rfl)) (by unfold Func.isWrapper; first | (rw [if_pos (by decide +kernel)]; kernel_rfl) | (rw [if_neg (by decide +kernel)]; exact ⟨rfl, rfl⟩))
    (fun os started H enc _ F => by rw [OpenClaim.pre_eq_preRow]; exact lifted os started H enc F)
/-- No parameter wants a stand-in; the program's own looks are off. -/
theorem plain (f : FuncId) (fn : Func) (hf : Tryd.pinned.checked.prog.funcNamed "phasor/phasorlaw06.GateMatrices" = some f) (hfn : Tryd.pinned.checked.prog.funcs[f]? = some fn) :
    false = Tryd.pinned.checked.prog.looks [] ∧ ∀ (j : Nat) t, fn.params[j]? = some t → Tryd.pinned.checked.prog.wantsStandIn t = false := by
  obtain rfl : f = 3 := Option.some.inj ((show Tryd.prog.funcNamed "phasor/phasorlaw06.GateMatrices" = some 3 by kernel_rfl).symm.trans hf) |>.symm
  obtain rfl : fn = Tryd.f3 := (Option.some.inj (Tryd.func3.symm.trans hfn)).symm
  refine ⟨by kernel_rfl, fun j t ht => ?_⟩
  rw [Tryd.params3] at ht
  have hm := Array.mem_of_getElem? ht
  simp at hm
  rcases hm with rfl | rfl
  · exact (show Tryd.prog.wantsStandIn 22 = false by kernel_rfl)
  · exact (show Tryd.prog.wantsStandIn 3 = false by kernel_rfl)
end gateMatrices
end Go.Proofs.YtnhdgellckcnbaaDoor.Gt
namespace Go.Proofs.YtnhdgellckcnbaaDoor
open Go
/-- The card. -/
theorem GateMatrices_card : Rows.GateMatricesCardSaid :=
  Claim7.holds_tied_plain_at .later [] _ _ _ _ Gt.gateMatrices.said (fun _ h => by cases h) (by kernel_rfl) (fun _ h => by cases h) gateMatrices_row_tie rfl ⟨rfl, rfl⟩ (by kernel_rfl) rfl Gt.gateMatrices.plain (by kernel_rfl)
end Go.Proofs.YtnhdgellckcnbaaDoor
