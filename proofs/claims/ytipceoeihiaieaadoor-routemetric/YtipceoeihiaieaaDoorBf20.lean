/- Layer 20: Far. -/
import Derived.Test.YtipceoeihiaieaaDoorBe20
namespace Go.Proofs.YtipceoeihiaieaaDoor.Rou
open Go.RowKit

/-- What Far answers. -/
def FarIs (N : Int) (ps : List Pr) (n : Nat) (z : Int) : Prop := (¬ RtP N ps ∧ n = 0 ∧ z = 200) ∨ (RtP N ps ∧ n = N.toNat ∧ z = 0)
theorem far_is (N : Int) (ps : List Pr) : ∃ n z, FarIs N ps n z := by
  by_cases h : RtP N ps
  · exact ⟨_, _, .inr ⟨h, rfl, rfl⟩⟩
  · exact ⟨_, _, .inl ⟨h, rfl, rfl⟩⟩
/-- Rows of numbers, being laid. -/
structure RG (w : World) (B g0 N i : Nat) (G K : Nat → Nat) (rows : Nat → List Int) : Prop where
  hd : w.heap[g0]? = some (.cells ((List.range N).map fun j => if j < i then Value.slice (some ⟨G j, 0, none⟩) N (K j) else .slice none 0 0).toArray 32 (0, 0))
  row : ∀ j, j < i → ∃ cs : Array Value, w.heap[G j]? = some (.cells cs 3 (0, 0)) ∧ cs.toList.take N = iv (rows j)
  lo : B ≤ g0 ∧ ∀ j, j < i → B ≤ G j
  df : ∀ j j', j < i → j' < i → j ≠ j' → G j ≠ G j'
theorem RG.below {w w' : World} {B g0 N i : Nat} {G K : Nat → Nat} {rows : Nat → List Int} (h : RG w B g0 N i G K rows) (hb : Below w.heap.size w w') : RG w' B g0 N i G K rows :=
  ⟨(hb.block g0 (Array.getElem?_eq_some_iff.1 h.hd).1).trans h.hd, fun j hj => by
    obtain ⟨cs, h1, h2⟩ := h.row j hj
    exact ⟨cs, (hb.block _ (Array.getElem?_eq_some_iff.1 h1).1).trans h1, h2⟩, h.lo, h.df⟩
/-- One more row. -/
theorem RG.set {w : World} {B g0 N i : Nat} {G K : Nat → Nat} {rows : Nat → List Int} (h : RG w B g0 N i G K rows) (hi : i < N) {g cap : Nat} {cs : Array Value} (hg : w.heap[g]? = some (.cells cs 3 (0, 0))) (hcs : cs.toList.take N = iv (rows i)) (hB : B ≤ g) (hd : ∀ j, j < i → G j ≠ g) : RG (w.setCell ⟨g0, i, none⟩ (.slice (some ⟨g, 0, none⟩) N cap)) B g0 N (i + 1) (upd G i g) (upd K i cap) rows := by
  have hne : ∀ (b : Nat) (c : Array Value), w.heap[b]? = some (.cells c 3 (0, 0)) → b ≠ g0 := fun b c hb e => by
    rw [e, h.hd] at hb
    simp at hb
  rw [setCell_eq_setRow _ _ _ _ _ _ _ h.hd]
  refine ⟨?_, fun j hj => ?_, ⟨h.lo.1, fun j hj => ?_⟩, fun j j' hj hj' hjj => ?_⟩
  · rw [setRow_heap _ _ _ _ _ _ h.hd, List.setIfInBounds_toArray]
    congr 3
    apply List.ext_getElem?
    intro j
    rw [List.getElem?_set, List.getElem?_map, List.getElem?_map]
    by_cases hjN : j < N
    · rw [List.getElem?_range hjN]
      by_cases e : i = j
      · subst e
        rw [if_pos rfl, if_pos (by simpa using hjN)]
        simp [upd_at]
      · rw [if_neg e]
        simp only [Option.map_some]
        by_cases hji : j < i
        · rw [if_pos hji, if_pos (by omega), upd_ne _ _ (Ne.symm e), upd_ne _ _ (Ne.symm e)]
        · rw [if_neg hji, if_neg (by omega)]
    · have : (List.range N)[j]? = none := List.getElem?_eq_none (by simpa using hjN)
      rw [this, if_neg (by omega)]
      rfl
  · by_cases e : j = i
    · subst e
      rw [upd_at]
      exact ⟨cs, (setRow_other _ _ _ _ (hne g cs hg)).trans hg, hcs⟩
    · rw [upd_ne _ _ e]
      obtain ⟨c, h1, h2⟩ := h.row j (by omega)
      exact ⟨c, (setRow_other _ _ _ _ (hne _ c h1)).trans h1, h2⟩
  · by_cases e : j = i
    · subst e
      rw [upd_at]
      exact hB
    · rw [upd_ne _ _ e]
      exact h.lo.2 j (by omega)
  · by_cases e : j = i
    · subst e
      rw [upd_at, upd_ne _ _ (Ne.symm hjj)]
      exact (hd j' (by omega)).symm
    · rw [upd_ne _ _ e]
      by_cases e' : j' = i
      · subst e'
        rw [upd_at]
        exact hd j (by omega)
      · rw [upd_ne _ _ e']
        exact h.df j j' (by omega) (by omega) hjj
/-- Numbers put behind nothing. -/
theorem wpList_fresh {ops : Array Oper} {rest : List Oper} {o : Oper} {a : Act} {Q : Exit → Act → World → Prop} {w : World} (hgd : o.guard = none) (s x : Operand)
    (ho : o.op = .call { callee := .builtin .append, args := #[s, x], argTypes := #[32, 32] }) (g8 : Nat) (hs : a.eval s = .slice (some ⟨g8, 0, none⟩) 0 0) (hg8 : w.heap[g8]? = some (.cells #[] 3 (0, 0)))
    (ad : Addr) (m c : Nat) (l : List Int) (hx : a.eval x = .slice (some ad) m c) (hm : l.length = m) (h0 : 0 < m) (h64 : m ≤ 64) (hc : ∀ (j : Nat) z, l[j]? = some z → w.cell? (ad.add j) = some (.int .i64 z))
    (h : ∀ g cap w', g8 ≤ g → (∃ cs : Array Value, w'.heap[g]? = some (.cells cs 3 (0, 0)) ∧ cs.toList.take m = iv l) → Below g8 w w' → wpList Tryd.prog ops Q rest (a.put o.dst (.slice (some ⟨g, 0, none⟩) m cap)) w') : wpList Tryd.prog ops Q (o :: rest) a w := by
  obtain ⟨i, hi, hz0, hz1, hz2⟩ := info_parts infoI
  have hg8l := (Array.getElem?_eq_some_iff.1 hg8).1
  refine wpList_append_lies _ hgd s x 32 ho g8 3 i _ 1 8 Tryd.underlying32 hi hz0 hz1 hz2 rfl (by decide) (.slice (some ⟨g8, 0, none⟩) 0 0) 0 [] hs ⟨rfl, .inr ⟨g8, 0, #[], rfl, Nat.le_refl _, hg8, Nat.le_refl _, Nat.zero_le _, rfl, rfl⟩⟩ ad m c (iv l) hx (by rw [iv_len, hm]; omega) (fun j u hu => ?_) (fun u hu => ?_) h0 (by unfold maxLen; omega) (by omega) (by omega) _ rfl ?_
  · unfold iv at hu
    rw [List.getElem?_map] at hu
    obtain ⟨z, hz, rfl⟩ := Option.map_eq_some_iff.1 hu
    exact hc j z hz
  · unfold iv at hu
    obtain ⟨z, -, rfl⟩ := List.mem_map.1 hu
    rfl
  · intro g cap w' hown hgr _ _
    rw [Nat.zero_add] at hown ⊢
    rcases hown.2 with ⟨e, -⟩ | ⟨g', cap', cur, e, hb, hh, e1, e2, e3, e4⟩
    · cases e
    · simp only [Value.slice.injEq, Option.some.injEq, Addr.mk.injEq, and_true, true_and] at e
      obtain ⟨rfl, rfl⟩ := e
      refine h g cap w' hb ⟨cur, hh, by simpa using e4⟩ ?_
      exact (Below.refl g8 w).grown hgr (Nat.le_of_lt hg8l) (fun k hk => by cases hk; exact Nat.le_refl _)
theorem take_cells {w : World} {Z N : Nat} {far : List Int} (h : IB w Z far) : ∀ (j : Nat) z, (far.take N)[j]? = some z → w.cell? ((⟨Z, 0, none⟩ : Addr).add j) = some (.int .i64 z) := fun j z hj => by
  rw [List.getElem?_take] at hj
  split at hj
  · rw [Addr.add_lit, Nat.zero_add]
    refine (cell_of_row _ _ j _ _ _ h).trans ?_
    rw [List.getElem?_toArray]
    exact iv_at hj
  · cases hj
theorem RG.at {w : World} {B g0 N i : Nat} {G K : Nat → Nat} {rows : Nat → List Int} (h : RG w B g0 N i G K rows) : (∀ j, j < N → w.cell? ⟨g0, j, none⟩ = some (if j < i then Value.slice (some ⟨G j, 0, none⟩) N (K j) else .slice none 0 0)) ∧ (∀ j, w.frozen? ⟨g0, j, none⟩ = false) ∧ g0 < w.heap.size :=
  ⟨fun j hj => (cell_of_row _ _ j _ _ _ h.hd).trans (by simp [hj]), fun j => fz h.hd j, (Array.getElem?_eq_some_iff.1 h.hd).1⟩
theorem infoIS0 : (Tryd.prog.info? 32).map (fun i => (i.zero, i.size, i.bytes)) = some (some (.slice none 0 0), 1, 24) := infoIS
set_option maxRecDepth 100000 in
set_option maxHeartbeats 4000000 in
theorem rFarR (N : Int) (ps : List Pr) (ao : Option Addr) (k : Nat) (n : Nat) (z : Int) (hP : FarIs N ps n z) (hl : ps.length ≤ 1000000000000000) (w : World) (hA : PA w ao ps) : Calls Tryd.prog 4 #[.agg #[.int .i64 N, .slice ao ps.length k]] w fun e w' => (∃ ao c g0 G K, e = .returned (.tuple #[.slice ao n c, .int .i64 z]) ∧ (n = 0 ∨ (ao = some ⟨g0, 0, none⟩ ∧ RG w' w.heap.size g0 n n G K (dRow n ps)))) ∧ Below w.heap.size w w' := by
  have HBM : Hid (Below w.heap.size w (w.alloc (.cells #[.int .i64 N, .slice ao ps.length k] 24))) := hide (bnew w (.cells #[.int .i64 N, .slice ao ps.length k] 24))
  obtain ⟨x0, x1, x2⟩ := m_cells (heap_alloc_new w (.cells #[.int .i64 N, .slice ao ps.length k] 24))
  have cc := rChart N ps ao k hl (w.alloc (.cells #[.int .i64 N, .slice ao ps.length k] 24)) (hA.below HBM.out)
  generalize ps.length = m at *
  clear hA
  rcases hP with ⟨hR, rfl, rfl⟩ | ⟨hR, rfl, rfl⟩
  · have HR := hide hR
    clear hR
    go_enter Tryd.func4, Tryd.ntmps4
    go_wp2_with (go_at_call 8; (with_reducible refine Calls.mono cc ?_); rintro e w1 ⟨hch, hb1⟩; obtain ⟨-, rfl⟩ := hch.resolve_left (fun h => HR.out h.1); have HB1 := hide (bkp HBM.out hb1); clear hch hb1 cc)
    go_ret2
    exact ⟨⟨none, 0, 0, fun _ => 0, fun _ => 0, rfl, .inl trivial⟩, HB1.out⟩
  · have HR := hide hR
    obtain ⟨N, rfl⟩ : ∃ m : Nat, N = (m : Int) := ⟨N.toNat, by have := hR.1; omega⟩
    have hN64 : N ≤ 64 := by have := hR.2.1; omega
    simp only [Int.toNat_natCast]
    have hmk := run_make_row' (P := Tryd.prog) 25 32 (.slice none 0 0) 24 Tryd.underlying25 infoIS rfl .i64 .i64 N (by omega) (by omega)
    clear hR
    go_enter Tryd.func4, Tryd.ntmps4
    go_wp2_with (go_at_call 8; (with_reducible refine Calls.mono cc ?_); rintro e w1 ⟨hch, hb1⟩; obtain ⟨-, C, a1, c1, L, rfl, hC, hLP, hAs, hSh⟩ := hch.resolve_right (fun h => h.1 HR.out); have HB1 := hide (bkp HBM.out hb1); have hcc := hC.cell.1; have hcl := hC.cell.2.2.2; have HC := hide hC; have HLP : Hid (LP N ps L) := hide (by simpa using hLP); have HSH := hide hSh; clear hch hb1 hC cc hLP hAs hSh)
    have HRG0 : Hid (RG (w1.alloc (.cells (madeCells #[.slice none 0 0] N) 32)) w.heap.size w1.heap.size N 0 (fun _ => 0) (fun _ => 0) (dRow N ps)) := hide ⟨by
      rw [heap_alloc_new, made_rep]
      congr 3
      apply List.ext_getElem (by simp)
      intro j h1 h2
      simp, fun j hj => by omega, ⟨HB1.out.size, fun j hj => by omega⟩, fun j j' hj => by omega⟩
    have HBB := hide (bnew w1 (.cells (madeCells #[.slice none 0 0] N) 32))
    generalize w1.alloc (.cells (madeCells #[.slice none 0 0] N) 32) = W2 at *
    obtain ⟨g0, hg0⟩ : ∃ g, w1.heap.size = g := ⟨_, rfl⟩
    have HG0 := hide hg0
    rw [hg0] at HRG0 HBB ⊢
    clear hg0
    go_loopw [26] (fun vi wr => ∃ (i : Nat) (G K : Nat → Nat), vi = .int .i64 (i : Int) ∧ i ≤ N ∧ Hid (Below g0 w1 wr) ∧ Hid (RG wr w.heap.size g0 N i G K (dRow N ps))) (fun vi _ => N - (Go.RowKit.intOf vi).toNat)
    case atStart => exact ⟨0, _, _, rfl, Nat.zero_le _, HBB, HRG0⟩
    case round =>
      clear HRG0 HBB
      obtain ⟨i, G, K, rfl, hi, HBB, HRG⟩ := hrel
      by_cases h : i < N
      · have hd : decide ((i : Int) < (N : Int)) = true := decide_eq_true (by omega)
        have hii : (i : Int) < (N : Int) := by omega
        have hch := HC.out.below (by rw [HG0.out]; exact HBB.out)
        have cf := rFar N ps _ C i a1 c1 L hN64 h HLP.out HSH.out wr hch
        have HCW := hide hch
        have hNI : (N : Int) ≤ 64 := by omega
        clear hch
        go_wp2_with (first | (go_at_call 9; (with_reducible refine Calls.mono cf ?_); rintro e w6 ⟨⟨far, q, rfl, hbi⟩, hb6⟩; have HBI := hide hbi; have HLF := hide hbi.len; have HB6 := hide hb6; have hz6 := heap_alloc_new w6 (.cells #[.int .i64 0, .int .i64 0, .int .i64 0, .int .i64 0, .int .i64 0, .int .i64 0, .int .i64 0, .int .i64 0, .int .i64 0, .int .i64 0, .int .i64 0, .int .i64 0, .int .i64 0, .int .i64 0, .int .i64 0, .int .i64 0, .int .i64 0, .int .i64 0, .int .i64 0, .int .i64 0, .int .i64 0, .int .i64 0, .int .i64 0, .int .i64 0, .int .i64 0, .int .i64 0, .int .i64 0, .int .i64 0, .int .i64 0, .int .i64 0, .int .i64 0, .int .i64 0, .int .i64 0, .int .i64 0, .int .i64 0, .int .i64 0, .int .i64 0, .int .i64 0, .int .i64 0, .int .i64 0, .int .i64 0, .int .i64 0, .int .i64 0, .int .i64 0, .int .i64 0, .int .i64 0, .int .i64 0, .int .i64 0, .int .i64 0, .int .i64 0, .int .i64 0, .int .i64 0, .int .i64 0, .int .i64 0, .int .i64 0, .int .i64 0, .int .i64 0, .int .i64 0, .int .i64 0, .int .i64 0, .int .i64 0, .int .i64 0, .int .i64 0, .int .i64 0] 44); have HZ6 := hide hz6; clear hbi hb6 hz6) | (refine wpList_store_row rfl 44 _ _ rfl w6.heap.size _ rfl rfl _ _ HZ6.out (by rw [infoD]; simp [iv_len, HLF.out]) (by simp [iv_len, HLF.out]) (iv_one far) ?_; have HD7 : Hid (((w6.alloc (.cells #[.int .i64 0, .int .i64 0, .int .i64 0, .int .i64 0, .int .i64 0, .int .i64 0, .int .i64 0, .int .i64 0, .int .i64 0, .int .i64 0, .int .i64 0, .int .i64 0, .int .i64 0, .int .i64 0, .int .i64 0, .int .i64 0, .int .i64 0, .int .i64 0, .int .i64 0, .int .i64 0, .int .i64 0, .int .i64 0, .int .i64 0, .int .i64 0, .int .i64 0, .int .i64 0, .int .i64 0, .int .i64 0, .int .i64 0, .int .i64 0, .int .i64 0, .int .i64 0, .int .i64 0, .int .i64 0, .int .i64 0, .int .i64 0, .int .i64 0, .int .i64 0, .int .i64 0, .int .i64 0, .int .i64 0, .int .i64 0, .int .i64 0, .int .i64 0, .int .i64 0, .int .i64 0, .int .i64 0, .int .i64 0, .int .i64 0, .int .i64 0, .int .i64 0, .int .i64 0, .int .i64 0, .int .i64 0, .int .i64 0, .int .i64 0, .int .i64 0, .int .i64 0, .int .i64 0, .int .i64 0, .int .i64 0, .int .i64 0, .int .i64 0, .int .i64 0] 44)).setRow w6.heap.size (iv far).toArray).heap[w6.heap.size]? = some (.cells (iv far).toArray 44 (0, 0))) := hide (setRow_heap _ _ _ _ _ _ HZ6.out); have HB7 : Hid (Below wr.heap.size wr ((w6.alloc (.cells #[.int .i64 0, .int .i64 0, .int .i64 0, .int .i64 0, .int .i64 0, .int .i64 0, .int .i64 0, .int .i64 0, .int .i64 0, .int .i64 0, .int .i64 0, .int .i64 0, .int .i64 0, .int .i64 0, .int .i64 0, .int .i64 0, .int .i64 0, .int .i64 0, .int .i64 0, .int .i64 0, .int .i64 0, .int .i64 0, .int .i64 0, .int .i64 0, .int .i64 0, .int .i64 0, .int .i64 0, .int .i64 0, .int .i64 0, .int .i64 0, .int .i64 0, .int .i64 0, .int .i64 0, .int .i64 0, .int .i64 0, .int .i64 0, .int .i64 0, .int .i64 0, .int .i64 0, .int .i64 0, .int .i64 0, .int .i64 0, .int .i64 0, .int .i64 0, .int .i64 0, .int .i64 0, .int .i64 0, .int .i64 0, .int .i64 0, .int .i64 0, .int .i64 0, .int .i64 0, .int .i64 0, .int .i64 0, .int .i64 0, .int .i64 0, .int .i64 0, .int .i64 0, .int .i64 0, .int .i64 0, .int .i64 0, .int .i64 0, .int .i64 0, .int .i64 0] 44)).setRow w6.heap.size (iv far).toArray)) := hide (bkp HB6.out (brow (bnew _ _) _ _ (Nat.le_refl _))); clear HZ6; generalize (w6.alloc (.cells #[.int .i64 0, .int .i64 0, .int .i64 0, .int .i64 0, .int .i64 0, .int .i64 0, .int .i64 0, .int .i64 0, .int .i64 0, .int .i64 0, .int .i64 0, .int .i64 0, .int .i64 0, .int .i64 0, .int .i64 0, .int .i64 0, .int .i64 0, .int .i64 0, .int .i64 0, .int .i64 0, .int .i64 0, .int .i64 0, .int .i64 0, .int .i64 0, .int .i64 0, .int .i64 0, .int .i64 0, .int .i64 0, .int .i64 0, .int .i64 0, .int .i64 0, .int .i64 0, .int .i64 0, .int .i64 0, .int .i64 0, .int .i64 0, .int .i64 0, .int .i64 0, .int .i64 0, .int .i64 0, .int .i64 0, .int .i64 0, .int .i64 0, .int .i64 0, .int .i64 0, .int .i64 0, .int .i64 0, .int .i64 0, .int .i64 0, .int .i64 0, .int .i64 0, .int .i64 0, .int .i64 0, .int .i64 0, .int .i64 0, .int .i64 0, .int .i64 0, .int .i64 0, .int .i64 0, .int .i64 0, .int .i64 0, .int .i64 0, .int .i64 0, .int .i64 0] 44)).setRow w6.heap.size (iv far).toArray = W7 at *; have c7 := (HCW.out.below HB7.out).cell.1; have h7 : w6.heap.size < W7.heap.size := (Array.getElem?_eq_some_iff.1 HD7.out).1; have HB8 := hide (bkp HB7.out (bnew W7 (.cells #[] 3))); have HD8 := hide (((bnew W7 (.cells #[] 3)).block w6.heap.size h7).trans HD7.out); have H8 := hide (heap_alloc_new W7 (.cells #[] 3)); have c8 := (HCW.out.below HB8.out).cell.1; have z8 := (HCW.out.below HB8.out).cell.2.2.2; have hlt : (far.take N).length = N := by rw [List.length_take, HLF.out]; omega) | (at_builtin; refine wpList_fresh rfl _ _ rfl W7.heap.size rfl H8.out ⟨w6.heap.size, 0, none⟩ N 64 (far.take N) rfl hlt (by omega) hN64 (take_cells HD8.out) ?_; intro g9 cap w9 hg9 hcs hb9; have HB9 := hide (HB8.out.trans (hb9.mono HB7.out.size)); have HR9 := hide (HRG.out.below HB9.out); have c9 := HR9.out.at.1 i h; have f9 := HR9.out.at.2.1 i; have l9 := HR9.out.at.2.2; rw [if_neg (Nat.lt_irrefl i)] at c9))
        have HEQ := hide (far_eq hN64 h (Rt.vl HR.out) HLP.out HBI.out)
        obtain ⟨cs9, hcs1, hcs2⟩ := hcs
        have hw7 : wr.heap.size ≤ W7.heap.size := HB7.out.size
        have HRN := hide (HR9.out.set (cap := cap) h hcs1 (by rw [hcs2, HEQ.out]) (by have h1 := HRG.out.lo.1; have h2 := HRG.out.at.2.2; omega) (fun j hj e => by
          obtain ⟨c, h1, -⟩ := HRG.out.row j hj
          have := (Array.getElem?_eq_some_iff.1 h1).1
          omega))
        have HBN : Hid (Below g0 w1 (w9.setCell ⟨g0, i, none⟩ (.slice (some ⟨g9, 0, none⟩) N cap))) := hide (by
          rw [setCell_eq_setRow _ _ _ _ _ _ _ HR9.out.hd]
          exact brow (HBB.out.trans (HB9.out.mono (by have := HBB.out.size; have := HG0.out; omega))) _ _ (Nat.le_refl _))
        go_roundw
        case rel => exact ⟨i + 1, _, _, by go_num, by omega, HBN, HRN⟩
        case measure => simp [Go.RowKit.intOf]; omega
      · have hie : i = N := by omega
        have hd : decide ((i : Int) < (N : Int)) = false := decide_eq_false (by omega)
        rw [hie] at HRG
        clear hie
        go_wp2_with fail
        go_ret2
        exact ⟨⟨_, N, g0, G, K, rfl, .inr ⟨rfl, HRG.out⟩⟩, HB1.out.trans (HBB.out.mono (by have := HB1.out.size; have := HG0.out; omega))⟩
end Go.Proofs.YtipceoeihiaieaaDoor.Rou
