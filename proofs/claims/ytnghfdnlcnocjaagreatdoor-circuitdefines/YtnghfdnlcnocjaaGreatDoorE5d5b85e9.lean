import Derived.Test.YtnghfdnlcnocjaaGreatDoorEb576c467
namespace Go.Proofs.YtnghfdnlcnocjaaGreatDoor.Cir
open Go.RowKit Go.Shelf Go.Proofs.YtnghfdnlcnocjaaGreatDoor.Oct Go.Proofs.YtnghfdnlcnocjaaGreatDoor.Tok Go.Proofs.YtnghfdnlcnocjaaGreatDoor.Gt
def txA : List UInt8 := (([79, 80, 69, 78, 81, 65, 83, 77, 32, 50, 46, 48, 59, 32, 113, 114, 101, 103, 32, 97, 91, 50, 93, 59, 32, 113, 114, 101, 103, 32, 98, 91, 49, 93].append [59, 32, 99, 114, 101, 103, 32, 99, 91, 50, 93, 59, 32, 103, 97, 116, 101, 32, 98, 101, 108, 108, 32, 112, 44, 32, 114, 32, 123, 32, 115, 121, 32, 112, 59]).append ([32, 99, 120, 32, 112, 44, 32, 114, 59, 32, 125, 32, 120, 32, 97, 59, 32, 98, 101, 108, 108, 32, 97, 91, 49, 93, 44, 32, 98, 91, 48, 93, 59, 32].append [105, 102, 32, 40, 99, 91, 49, 93, 32, 61, 61, 32, 49, 41, 32, 115, 32, 98, 59, 32, 109, 101, 97, 115, 117, 114, 101, 32, 97, 32, 45, 62, 32, 99, 59]))
def txB : List UInt8 := [79, 80, 69, 78, 81, 65, 83, 77, 32, 50, 46, 48, 59, 32, 113, 114, 101, 103, 32, 97, 91, 50, 93, 59, 32, 99, 120, 32, 97, 91, 48, 93, 44, 32, 97, 91, 48, 93, 59]
def txP : List UInt8 := [79, 80, 69, 78, 81, 65, 83, 77, 32, 50, 46, 48, 59, 10, 105, 110, 99, 108, 117, 100, 101, 32, 34, 113, 101, 108, 105, 98, 49, 46, 105, 110, 99, 34, 59, 10, 113, 114, 101, 103, 32, 113, 91, 51, 93, 59, 10, 99, 114, 101, 103, 32, 99, 91, 50, 93, 59, 10, 120, 32, 113, 91, 48, 93, 59, 10, 120, 32, 113, 91, 49, 93, 59, 10, 115, 121, 32, 113, 91, 49, 93, 59, 10, 99, 120, 32, 113, 91, 49, 93, 44, 32, 113, 91, 50, 93, 59, 10, 105, 102, 32, 40, 99, 91, 49, 93, 32, 61, 61, 32, 49, 41, 32, 115, 32, 113, 91, 50, 93, 59, 10, 109, 101, 97, 115, 117, 114, 101, 32, 113, 91, 48, 93, 32, 45, 62, 32, 99, 91, 48, 93, 59, 10, 109, 101, 97, 115, 117, 114, 101, 32, 113, 91, 49, 93, 32, 45, 62, 32, 99, 91, 49, 93, 59, 10]
def cA : Circ := ⟨3, 2, [⟨1, 2, [0], 0, -1, 0⟩, ⟨1, 2, [1], 0, -1, 0⟩, ⟨1, 9, [1], 0, -1, 0⟩, ⟨1, 11, [1, 2], 0, -1, 0⟩, ⟨1, 5, [2], 0, 1, 1⟩, ⟨2, 0, [0], 0, -1, 0⟩, ⟨2, 0, [1], 1, -1, 0⟩]⟩
def endsB : List T -> Bool
  | [] => false
  | t :: r => (decide (t.kind = 0) && r.isEmpty) || (decide (t.kind ≠ 0) && endsB r)
theorem ends_of : ∀ ts : List T, endsB ts = true -> Ends ts
  | [], h => by cases h
  | t :: r, h => by
    rw [endsB, Bool.or_eq_true, Bool.and_eq_true, Bool.and_eq_true] at h
    rcases h with ⟨h1, h2⟩ | ⟨h1, h2⟩
    . exact .inl ⟨of_decide_eq_true h1, by simpa using h2⟩
    . exact .inr ⟨of_decide_eq_true h1, ends_of r h2⟩
def okB (l : List UInt8) : Bool := match scanAll l with
  | .bad f => decide (f.code ≠ 0)
  | .ok ts => endsB ts && decide (ts.length <= 4398046511104) && ts.all fun t => decide (t.text.length <= 4398046511104) && decide (t.text ≠ kwX 7) && decide (t.text ≠ kwX 8)
theorem okB_bad {l : List UInt8} (h : okB l = true) : ∀ f, scanAll l = .bad f -> f.code ≠ 0 := by
  intro f hf
  unfold okB at h
  rw [hf] at h
  exact of_decide_eq_true h
theorem okB_ok {l : List UInt8} (h : okB l = true) : ∀ ts, scanAll l = .ok ts -> Fine ts /\ (∀ t ∈ ts, t.text = kwX 7 -> RsOk) /\ (∀ t ∈ ts, t.text = kwX 8 -> BrOk) := by
  intro ts hs
  unfold okB at h
  rw [hs] at h
  simp only [Bool.and_eq_true, decide_eq_true_eq, List.all_eq_true] at h
  obtain ⟨⟨h1, h2⟩, h3⟩ := h
  exact ⟨⟨ends_of ts h1, h2, fun t ht => (h3 t ht).1.1⟩, fun t ht e => absurd e (h3 t ht).1.2, fun t ht e => absurd e (h3 t ht).2⟩
theorem okA : okB txA = true := by decide +kernel
theorem okBB : okB txB = true := by decide +kernel
theorem okP : okB txP = true := by decide +kernel
theorem parA : parP txA = .ok cA := by decide +kernel
theorem parB : parP txB = .bad ⟨85, 25, 1, 26⟩ := by decide +kernel
theorem parPr : parP txP = .ok cA := by decide +kernel
theorem chkA : (chkC cA).2 = 0 := by decide +kernel
structure Tq (w : World) : Prop where
  tx : Tx w
  tb : Tb w
  te : Te8 w
theorem Tq.below {w w' : World} (h : Tq w) (hb : Below w.heap.size w w') : Tq w' := ⟨h.tx.below hb, h.tb.below hb, h.te.below (World.block_lt_of_cell? _ _ h.te) hb⟩
theorem prA : prP cA = txP := by decide +kernel
theorem own_cell8 {w : World} {B e size n m c : Nat} {ao : Option Addr} {xs : List Value} (h : w.ownsRow B e size (.slice ao m c) n xs) (hn : n ≠ 0) : ∃ g, ao = some ⟨g, 0, none⟩ /\ ∀ j v, xs[j]? = some v -> w.cell? ⟨g, j, none⟩ = some v := by
  rcases h.2 with ⟨_, h0⟩ | ⟨g, cap, cur, hv, _⟩
  . exact absurd h0 hn
  . simp only [Value.slice.injEq] at hv
    refine ⟨g, hv.1, fun j v hj => ?_⟩
    have hc := h.cells (g := g) (by rw [ob_eq, hv.1]; rfl) j v hj
    rw [Addr.add_lit, Nat.zero_add] at hc
    exact hc
structure CA (w : World) (B : Nat) (ao : Option Addr) (k : Nat) : Prop where
  ops : OpsAt w B ao 7 k cA.ops
  cells : ∃ g gq oq cq, ao = some ⟨g, 0, none⟩ /\ g < w.heap.size /\ w.cell? ⟨g, 13, none⟩ = some (.int .i64 9) /\ w.cell? ⟨g, 20, none⟩ = some (.slice (some ⟨gq, oq, none⟩) 2 cq) /\ w.cell? ⟨gq, oq + 1, none⟩ = some (.int .i64 2) /\ w.cell? ⟨g, 28, none⟩ = some (.int .i64 1) /\ w.cell? ⟨g, 39, none⟩ = some (.int .i64 1) /\ gq < w.heap.size
theorem CA.of {w : World} {B : Nat} {ao : Option Addr} {k : Nat} (h : OpsAt w B ao 7 k cA.ops) : CA w B ao k := by
  refine ⟨h, ?_⟩
  obtain ⟨xs, h1, h2, h3, h4⟩ := h
  obtain ⟨g, rfl, hc⟩ := own_cell8 h3 (by decide)
  match xs, h1 with
  | [x0, x1, x2, x3, x4, x5, x6], _ =>
    simp only [cA, List.map_cons, List.map_nil, List.cons.injEq, and_true] at h2
    obtain ⟨e0, e1, e2, e3, e4, e5, e6⟩ := h2
    have hI := h4 x3 (by simp)
    rw [← e3] at hI
    rcases hI with ⟨hn, _⟩ | ⟨gq, oq, cq, cs, fr, hv, hl, hg, hz⟩
    . cases hn
    . refine ⟨g, gq, oq, cq, rfl, (own_lt h3 g rfl).2, ?_, ?_, ?_, ?_, ?_, (Array.getElem?_eq_some_iff.1 hg).1⟩
      . refine hc 13 _ ?_
        show some (Value.int .i64 x2.1.gate) = _
        rw [← e2]
      . refine hc 20 _ ?_
        show some x3.2 = _
        rw [hv]
        rfl
      . rw [cell_of_row _ _ _ _ _ _ hg]
        exact hz 1 2 rfl
      . refine hc 28 _ ?_
        show some (Value.int .i64 x4.1.cond) = _
        rw [← e4]
      . refine hc 39 _ ?_
        show some (Value.int .i64 x6.1.bit) = _
        rw [← e6]
theorem CA.below {w w' : World} {B : Nat} {ao : Option Addr} {k : Nat} (h : CA w B ao k) (hb : Below w.heap.size w w') : CA w' B ao k := CA.of (h.ops.below hb)
theorem CA.ci {w : World} {B : Nat} {ao : Option Addr} {k : Nat} (h : CA w B ao k) : Ci w cA ao k := ⟨h.ops.rd.1, h.ops.rd.2, by decide, by decide⟩
theorem aParse (l : List UInt8) (hl : l.length <= 1000) (hk : okB l = true) (hp : parP l = .ok cA) (w : World) (hT : Tq w) : Calls Tryz.prog 9 #[str l] w fun e w' => ∃ ao k, e = .returned (.tuple #[.agg #[.int .i64 3, .int .i64 2, .slice ao 7 k], .agg #[.int .i64 0, .int .i64 0, .int .i64 0, .int .i64 0]]) /\ CA w' w.heap.size ao k /\ Below w.heap.size w w' := by
  refine (cParse l (by omega) w hT.tx.tw hT.tb hT.te (okB_bad hk) (okB_ok hk)).mono ?_
  intro e w' h
  unfold PPa at h
  rw [hp] at h
  obtain ⟨hb, ao, k, rfl, ho⟩ := h
  exact ⟨ao, k, rfl, CA.of ho, hb⟩
theorem aParseB (w : World) (hT : Tq w) : Calls Tryz.prog 9 #[str txB] w fun e w' => e = .returned (.tuple #[.agg #[.int .i64 0, .int .i64 0, .slice none 0 0], .agg #[.int .i64 85, .int .i64 25, .int .i64 1, .int .i64 26]]) /\ Below w.heap.size w w' := by
  refine (cParse txB (by decide) w hT.tx.tw hT.tb hT.te (okB_bad okBB) (okB_ok okBB)).mono ?_
  intro e w' h
  unfold PPa at h
  rw [parB] at h
  exact ⟨h.2, h.1⟩
theorem aPrint (ao : Option Addr) (k B : Nat) (w : World) (hT : Tq w) (hC : CA w B ao k) : Calls Tryz.prog 14 #[.agg #[.int .i64 3, .int .i64 2, .slice ao 7 k]] w fun e w' => e = .returned (.tuple #[str txP, .int .i64 0]) /\ Below w.heap.size w w' := by
  have h := cPrint cA ao k chkA w hT.tb hT.tx.ten hC.ci
  rw [prA] at h
  exact h
def cN : Circ := ⟨1, 0, [⟨3, 0, [1], 0, -1, 0⟩]⟩
theorem chkN : chkC cN = (0, 80) := by decide +kernel
theorem aCheck (g gq : Nat) (w : World) (hT : Tq w) (hg : w.heap[g]? = some (.cells #[.int .i64 3, .int .i64 0, .slice (some ⟨gq, 0, none⟩) 1 1, .int .i64 0, .int .i64 (-1), .int .i64 0] 34 (0, 0))) (hq : w.heap[gq]? = some (.cells #[.int .i64 1] 3 (0, 0))) : Calls Tryz.prog 4 #[.agg #[.int .i64 1, .int .i64 0, .slice (some ⟨g, 0, none⟩) 1 1]] w fun e w' => e = .returned (.tuple #[.int .i64 0, .int .i64 80]) /\ Below w.heap.size w w' := by
  obtain ⟨y0, y1, y2, y3, y4, y5, y6⟩ := op6_cells hg
  have h := cCheck cN (some ⟨g, 0, none⟩) 1 w hT.tb ⟨.inr ⟨g, 0, rfl, fun i o ho => by
    match i, ho with
    | 0, ho =>
      simp only [cN, List.getElem?_cons_zero, Option.some.injEq] at ho
      subst ho
      refine ⟨some ⟨gq, 0, none⟩, 1, y0, y1, y2, y3, y4, y5, Nat.le_refl _, .inr ⟨gq, 0, rfl, fun j z hz => ?_⟩⟩
      match j, hz with
      | 0, hz =>
        simp only [List.getElem?_cons_zero, Option.some.injEq] at hz
        subst hz
        rw [cell_of_row _ _ _ _ _ _ hq]
        rfl
      | j + 1, hz => simp at hz
    | i + 1, ho => simp [cN] at ho⟩, by decide, by decide, by decide⟩
  rw [chkN] at h
  exact h
theorem smlA : Sml cA.ops := by unfold Sml; decide
theorem aAppend (ao bo : Option Addr) (k j B B' : Nat) (w : World) (hT : Tq w) (hA : CA w B ao k) (hD : CA w B' bo j) : Calls Tryz.prog 15 #[.agg #[.int .i64 3, .int .i64 2, .slice ao 7 k], .agg #[.int .i64 3, .int .i64 2, .slice bo 7 j]] w fun e w' => ∃ (g cap : Nat), e = .returned (.tuple #[.agg #[.int .i64 3, .int .i64 2, .slice (some ⟨g, 0, none⟩) 14 cap], .int .i64 0]) /\ Below w.heap.size w w' := by
  refine (cAppend cA cA ao bo k j chkA chkA (by decide) (by decide) smlA smlA w hT.tb hA.ci hD.ci).mono ?_
  rintro e w' ⟨g, cap, rfl, _, hb⟩
  exact ⟨g, cap, rfl, hb⟩
theorem aEmbed (ao : Option Addr) (k B : Nat) (w : World) (hT : Tq w) (hA : CA w B ao k) : Calls Tryz.prog 16 #[.agg #[.int .i64 3, .int .i64 2, .slice ao 7 k], .slice none 0 0, .slice none 0 0, .int .i64 3, .int .i64 2] w fun e w' => e = .returned (.tuple #[.agg #[.int .i64 0, .int .i64 0, .slice none 0 0], .int .i64 2]) /\ Below w.heap.size w w' :=
  cEmbed_no cA ao k none none 0 0 0 0 3 2 chkA (by decide) w hT.tb hA.ci
theorem cntA : cntF cA.ops 2 = .int .i64 2 := by kernel_rfl
theorem aCounts (ao : Option Addr) (k B : Nat) (w : World) (hT : Tq w) (hA : CA w B ao k) : Calls Tryz.prog 17 #[.agg #[.int .i64 3, .int .i64 2, .slice ao 7 k]] w fun e w' => ∃ g, e = .returned (.slice (some ⟨g, 0, none⟩) 21 21) /\ w'.cell? ⟨g, 2, none⟩ = some (.int .i64 2) /\ g < w'.heap.size /\ Below w.heap.size w w' := by
  refine (cCounts cA ao k w hT.tb hA.ci).mono ?_
  rintro e w' ⟨g, rfl, hR, _, hb⟩
  exact ⟨g, rfl, (hR.cell 2 (by decide)).trans (by rw [cntA]), hR.lt, hb⟩
theorem aSame (ao bo : Option Addr) (k j B B' : Nat) (w : World) (hA : CA w B ao k) (hD : CA w B' bo j) : Calls Tryz.prog 11 #[.agg #[.int .i64 3, .int .i64 2, .slice ao 7 k], .agg #[.int .i64 3, .int .i64 2, .slice bo 7 j]] w fun e w' => e = .returned (.bool true) /\ Below w.heap.size w w' := by
  have h := cSame cA cA ao bo k j w hA.ci hD.ci
  rw [decide_eq_true rfl] at h
  exact h
theorem aCopy (ao : Option Addr) (k B : Nat) (w : World) (hA : CA w B ao k) : Calls Tryz.prog 18 #[.agg #[.int .i64 3, .int .i64 2, .slice ao 7 k]] w fun e w' => ∃ bo j, e = .returned (.agg #[.int .i64 3, .int .i64 2, .slice bo 7 j]) /\ CA w' w.heap.size bo j /\ Below w.heap.size w w' := by
  refine (cCopy cA ao k smlA w hA.ci).mono ?_
  rintro e w' ⟨bo, j, rfl, ho, hb⟩
  exact ⟨bo, j, rfl, CA.of ho, hb⟩
theorem aHalves (ao : Option Addr) (k B : Nat) (w : World) (hT : Tq w) (hA : CA w B ao k) : Calls Tryz.prog 19 #[.agg #[.int .i64 3, .int .i64 2, .slice ao 7 k]] w fun e w' => e = .returned (.int .i64 1) /\ Below w.heap.size w w' := by
  have h := cHalves cA ao k w hT.tb hA.ci
  rw [show hlvP cA.ops = 1 by decide +kernel] at h
  exact h
theorem aUnitary (ao : Option Addr) (k B : Nat) (w : World) (hA : CA w B ao k) : Calls Tryz.prog 20 #[.agg #[.int .i64 3, .int .i64 2, .slice ao 7 k]] w fun e w' => e = .returned (.bool false) /\ Below w.heap.size w w' := by
  have h := cUnitary cA ao k w hA.ci
  rw [show (!cA.ops.any unO) = false by decide +kernel] at h
  exact h
theorem aClifford (ao : Option Addr) (k B : Nat) (w : World) (hT : Tq w) (hA : CA w B ao k) : Calls Tryz.prog 21 #[.agg #[.int .i64 3, .int .i64 2, .slice ao 7 k]] w fun e w' => e = .returned (.bool true) /\ Below w.heap.size w w' := by
  have h := cClifford cA ao k w hT.tb hA.ci
  rw [show (!cA.ops.any clO) = true by decide +kernel] at h
  exact h
theorem aNum (z : Int) (w : World) : Calls Tryz.prog 5 #[.int .i64 z] w fun e w' => e = .returned (.int .i64 z) /\ w' = w := by
  go_enter Tryz.func5, Tryz.ntmps5
  go_wp2_with fail
  go_ret
  exact ⟨rfl, rfl⟩
end Go.Proofs.YtnghfdnlcnocjaaGreatDoor.Cir
