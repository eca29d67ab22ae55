/- Hex, as it is walked. -/
import Derived.Test.YtefbhhabeapaaaaDoorHx4
import Derived.OwnWalk
import Derived.BigQuiet
import Derived.Deep.QuietTactic
import Derived.Deep.RegionLaw
namespace Go.Proofs.YtefbhhabeapaaaaDoor.Oct
open Go.RowKit
/-- append within the capacity of a row of one's own, as one step of a region that draws. -/
theorem step_fits {P : Program} {ops : Array Oper} {o : Oper} {a : Act} {w : World} {K : Act → World → Prop} {Q : Exit → Act → World → Prop} {E : Prop}
    (hg : o.guard = none) (s x : Operand) (t : TypeId) (hop : o.op = Op.call { callee := Callee.builtin Builtin.append, args := #[s, x], argTypes := #[t, t] })
    (B : Nat) (e : TypeId) (i : TypeInfo) (size : Nat) (h1 : P.underlying t = some (.slice e)) (h2 : P.info? e = some i) (h4 : i.size = size)
    (g k cap : Nat) (xs : List Value) (hs : a.eval s = .slice (some ⟨g, 0, none⟩) k cap) (hown : w.ownsRow B e size (.slice (some ⟨g, 0, none⟩) k cap) k xs)
    (ad : Addr) (m c : Nat) (news : List Value) (hx : a.eval x = .slice (some ad) m c) (hn : news.length = m * size)
    (hc : ∀ j u, news[j]? = some u → w.cell? (ad.add j) = some u) (h1c : ∀ u ∈ news, u.oneCell' = true) (b1 : k + m ≤ cap)
    (hK : ∀ w', w'.ownsRow B e size (.slice (some ⟨g, 0, none⟩) (k + m) cap) (k + m) (xs ++ news) → w.grownBy w' (some g) → K (a.put o.dst (.slice (some ⟨g, 0, none⟩) (k + m) cap)) w') :
    if Region.wanted o (yielded ops a.tmps) = true then Oper.wp P o a w K Q else E := by
  have hw : Region.wanted o (yielded ops a.tmps) = true := by simp [Region.wanted, hg]
  rw [if_pos hw]
  obtain ⟨w', hrun, r1, r2⟩ := run_append_fits (P := P) w B t o.type e i size h1 h2 h4 g k cap xs hown ad m c news hn hc h1c b1
  unfold Oper.wp
  simp [execOp, hop, resolve, invoke, builtin, hs, hx, hrun, Result.andThen]
  exact hK w' r1 r2
theorem cell_two_new (w : World) (x y : Value) (e : TypeId) : ∀ j u, [x, y][j]? = some u → ((w.alloc (.cells #[x, y] e)).drew).cell? (Addr.add ⟨w.heap.size, 0, none⟩ j) = some u := by
  intro j u hj
  rw [Addr.add_lit]
  have hg : ((w.alloc (.cells #[x, y] e)).drew).heap[w.heap.size]? = some (.cells #[x, y] e) := by
    show (w.heap.push (.cells #[x, y] e))[w.heap.size]? = _
    simp
  unfold World.cell?
  rw [hg]
  match j with
  | 0 => simp at hj; subst hj; rfl
  | 1 => simp at hj; subst hj; rfl
  | j + 2 => simp at hj
theorem grown_two (w : World) (x y : Value) (e : TypeId) {r : Option Nat} : w.grownBy ((w.alloc (.cells #[x, y] e)).drew) r := (grown_alloc w _ r).trans (grown_drew _ _)
theorem digs_get : ∀ n : Fin 16, digs.data.toList[n.val]? = some (hx n.val) := by decide +kernel
theorem index_digs (n : Nat) (h : n < 16) (w : World) : (Instr.index 9 (.string digs) (.int .u8 (n : Int))).run Tryd.prog w = .ok (.int .u8 ((hx n).toNat : Int)) w := by
  have hi : (0 : Int) ≤ (n : Int) ∧ (n : Int) < (digs.size : Int) := ⟨by omega, by show (n : Int) < 16; omega⟩
  rw [run_index_string w 9 digs .u8 (n : Int) Tryd.underlying9, dif_pos hi]
  have e := digs_get ⟨n, h⟩
  have e2 : digs[(n : Int).toNat]'(by simp; show n < 16; exact h) = hx n := by
    have e3 : digs.data.toList[n]'(by show n < 16; exact h) = hx n := Option.some.inj ((List.getElem?_eq_getElem (by show n < 16; exact h)).symm.trans e)
    exact e3
  rw [e2]
theorem and15 : ∀ x : Fin 256, bits .and .u8 (x.val : Int) 15 = ((x.val % 16 : Nat) : Int) := by decide +kernel
set_option maxRecDepth 100000 in
set_option maxHeartbeats 1000000 in
theorem Hex_any (ao : Option Addr) (c : Nat) (l : List UInt8) (w : World) (h : Bs w ao l) (hl : l.length ≤ 140737488351232) :
    Calls Tryd.prog 4 #[.slice ao l.length c] w fun e w' => e = .returned (.string ⟨(hexOf l).toArray⟩) ∧ Below w.heap.size w w' := by
  obtain ⟨i, hi, hz0, hz1, hz2⟩ := info_parts info5
  obtain ⟨w1, hrun, hown, hgrow⟩ := run_make_own (P := Tryd.prog) w w.heap.size 22 5 i (.int .u8 0) 1 Tryd.underlying22 hi hz0 hz1 .i64 .i64 (2 * l.length) (by rw [hz2]; omega) (by unfold maxLen; omega) (Nat.le_refl _)
  rw [show ((2 * l.length : Nat) : Int) = 2 * (l.length : Int) by omega] at hrun
  have hsz := hgrow.size
  have hbel : Below w.heap.size w w1 := (Below.refl _ _).grown hgrow (Nat.le_refl _) (fun q hq => by cases hq)
  clear hgrow
  obtain ⟨L, hL⟩ : ∃ L, 2 * l.length = L := ⟨_, rfl⟩
  rw [hL] at hrun hown
  go_enter Tryd.func4, Tryd.ntmps4
  go_wp2_with fail
  clear hrun
  go_loopw [3, 12] (fun s i wx => ∃ q : Nat, q ≤ l.length ∧ i = .int .i64 q ∧ s = .slice (some ⟨w.heap.size, 0, none⟩) (2 * q) L ∧ wx.ownsRow w.heap.size 5 1 (.slice (some ⟨w.heap.size, 0, none⟩) (2 * q) L) (2 * q) (bv (hexOf (l.take q))) ∧ Below w.heap.size w wx) (fun _ i _ => l.length - (intOf i).toNat)
  case atStart => exact ⟨0, Nat.zero_le _, rfl, rfl, hown, hbel⟩
  case round =>
    obtain ⟨q, hq, rfl, rfl, hown, hbel⟩ := hrel
    by_cases hlt : q < l.length
    · have hlt' : (q : Int) < l.length := by omega
      obtain ⟨b, hb⟩ : ∃ b, l[q]? = some b := ⟨l[q], by simp⟩
      obtain ⟨g, off, rfl, hcell⟩ := h q b hb
      have hb256 := b.toNat_lt
      obtain ⟨u, hu⟩ : ∃ u, b.toNat / 16 = u := ⟨_, rfl⟩
      obtain ⟨v, hv⟩ : ∃ v, b.toNat % 16 = v := ⟨_, rfl⟩
      have hu16 : u < 16 := by omega
      have hv16 : v < 16 := by omega
      have hux : (b.toNat : Int) / 16 = (u : Int) := by omega
      have hvx : bits .and .u8 (b.toNat : Int) 15 = (v : Int) := by rw [← hv]; exact and15 ⟨b.toNat, hb256⟩
      have hiu := index_digs u hu16
      have hiv := index_digs v hv16
      have Hnx : Hid (hexOf (l.take (q + 1)) = hexOf (l.take q) ++ [hx u, hx v]) := hide (by rw [hexOf, hexOf, List.take_add_one, hb, List.flatMap_append, ← hu, ← hv]; simp)
      have hcw := (hbel.cell (World.block_lt_of_cell? w _ hcell)).trans hcell
      clear hb hu hv
      unfold digs at hiu hiv
      generalize hexOf (l.take q) = A at *
      generalize (hx u) = hu8 at *
      generalize (hx v) = hv8 at *
      have hroom : 2 * q + 2 ≤ L := by omega
      have HH : Hid (∀ W : World, W.heap = wr.heap → W.ownsRow w.heap.size 5 1 (.slice (some ⟨w.heap.size, 0, none⟩) (2 * q) L) (2 * q) (bv A)) := hide (fun W e => by
        refine ⟨hown.1, ?_⟩
        rcases hown.2 with hh | ⟨g', cap', cur, hv, hb, hgh, h1, h2, h3, h4⟩
        · exact .inl hh
        · exact .inr ⟨g', cap', cur, hv, hb, by rw [e]; exact hgh, h1, h2, h3, h4⟩)
      have Hbl := hide hbel
      clear hown hbel hcell
      go_wp2_with fail
      go_region_law (refine step_fits rfl (.tmp 16) (.tmp 23) 22 rfl w.heap.size 5 i 1 Tryd.underlying22 hi hz1 w.heap.size (2 * q) L (bv A) (by simp [Act.eval]) ((HH.out _ rfl).alloc _) ⟨wr.heap.size, 0, none⟩ 2 2 [.int .u8 (hu8.toNat : Int), .int .u8 (hv8.toNat : Int)] (by simp [Act.eval]) rfl (cell_two_new _ _ _ _) (by intro z hz; simp at hz; rcases hz with rfl | rfl <;> rfl) hroom ?_; intro w2 hown2 hgrow2)
      all_goals
        have hb2 : Below w.heap.size w w2 := Hbl.out.grown ((grown_two wr _ _ _).trans hgrow2) Hbl.out.size (fun q hq => by cases hq; exact Nat.le_refl _)
        clear hgrow2
        go_wp2_with fail
        exact ⟨⟨q + 1, by omega, by go_num, by rw [show 2 * (q + 1) = 2 * q + 2 by omega], by rw [show 2 * (q + 1) = 2 * q + 2 by omega, Hnx.out, bv_append]; exact hown2, hb2⟩, by simp [intOf]; omega⟩
    · have hlt' : ¬ (q : Int) < l.length := by omega
      obtain rfl : l.length = q := by omega
      rw [List.take_length] at hown
      have hcv := conv_bs (P := Tryd.prog) (c := L) 22 9 5 Tryd.underlying22 Tryd.underlying5 Tryd.underlying9 (Bs.of_own hown)
      rw [hexOf_length, hL] at hcv
      clear hown
      go_wp2_with fail
      go_ret
      exact ⟨rfl, hbel⟩
end Go.Proofs.YtefbhhabeapaaaaDoor.Oct
