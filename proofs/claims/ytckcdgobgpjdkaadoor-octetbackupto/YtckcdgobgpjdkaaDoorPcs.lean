/- Pieces, opened. -/
import Derived.Test.YtckcdgobgpjdkaaDoorOpens
import Derived.Test.YtckcdgobgpjdkaaDoorWl
import Derived.Deep.Slices
namespace Go.Proofs.YtckcdgobgpjdkaaDoor.Oct
open Go.ChangeShapes Go.WideShapes Go.ChangeAt Go.RowKit

theorem trod_float {H : Type} {enc : TypeId × Value → H} {P : Program} {w : World} {base : Nat} {spare : Nat → Bool} {held : Bool} {fuel : Nat} {t : TypeId} {k : FloatKind} {cs : List Value} {x : DataW H × List MemPlace} (ht : P.underlying t = some (.float k)) (h : DataW.trod enc P w base spare held fuel t cs = some x) :
    ∃ b, cs = [.float k b] ∧ x = (.lit (.float k b), []) ∧ (Lit.float k b).wf = true := by
  cases fuel with
  | zero => simp [DataW.trod] at h
  | succ n =>
    unfold DataW.trod at h
    rw [ht] at h
    simp only at h
    split at h
    all_goals simp_all
theorem float64_lt {b : Nat} (h : (Lit.float .f64 b).wf = true) : b < 18446744073709551616 := by
  simpa [Lit.wf] using h
theorem float32_lt {b : Nat} (h : (Lit.float .f32 b).wf = true) : b < 4294967296 := by
  simpa [Lit.wf] using h
theorem exists_list {α : Type} (Q : Nat → α → Prop) : ∀ n, (∀ i, i < n → ∃ x, Q i x) → ∃ l : List α, l.length = n ∧ ∀ i x, l[i]? = some x → Q i x
  | 0, _ => ⟨[], rfl, fun i x h => by simp at h⟩
  | n + 1, h => by
    obtain ⟨l, hl, hq⟩ := exists_list Q n (fun i hi => h i (by omega))
    obtain ⟨x, hx⟩ := h n (by omega)
    refine ⟨l ++ [x], by simp [hl], fun i y hy => ?_⟩
    by_cases hi : i < l.length
    · rw [List.getElem?_append_left hi] at hy
      exact hq i y hy
    · rw [List.getElem?_append_right (by omega)] at hy
      have hi0 : i - l.length = 0 := by
        have := (List.getElem?_eq_some_iff.1 hy).1
        simp at this
        omega
      rw [hi0] at hy
      simp at hy
      subst hy
      rw [show i = n by omega]
      exact hx
theorem cells32 : Tryd.prog.cellsOf 32 = 5 := by kernel_rfl
theorem cellsI : Tryd.prog.cellsOf 3 = 1 := by kernel_rfl
theorem cellsU : Tryd.prog.cellsOf 28 = 1 := by kernel_rfl
theorem cellsF : Tryd.prog.cellsOf 29 = 1 := by kernel_rfl
theorem cellsG : Tryd.prog.cellsOf 30 = 1 := by kernel_rfl
theorem cellsS : Tryd.prog.cellsOf 9 = 1 := by kernel_rfl
theorem list5 {α : Type} {l : List α} (h : l.length = 5) : ∃ a b c d e, l = [a, b, c, d, e] := by
  match l, h with
  | [a, b, c, d, e], _ => exact ⟨a, b, c, d, e, rfl⟩
set_option maxRecDepth 100000 in
theorem piece_cells {H : Type} {enc : TypeId × Value → H} {w : World} {base : Nat} {spare : Nat → Bool} {held : Bool} {fuel : Nat} {cs : List Value} {x : DataW H × List MemPlace} (h : DataW.trod enc Tryd.prog w base spare held fuel 32 cs = some x) :
    ∃ (k : Int) (n f g : Nat) (s : ByteArray), cs = [.int .i64 k, .int .u64 (n : Int), .float .f64 f, .float .f32 g, .string s] ∧ n < 18446744073709551616 ∧ f < 18446744073709551616 ∧ g < 4294967296 ∧
      ∃ y0 y1 y2 y3, x.1 = .agg [y0, y1, y2, y3, .lit (.string s.data.toList)] := by
  obtain ⟨xs, m, _, hx, hl, hlen, hf⟩ := DataW.trod_struct Tryd.underlying32 h
  rw [cells32] at hl
  obtain ⟨c0, c1, c2, c3, c4, rfl⟩ := list5 hl
  obtain ⟨x0, x1, x2, x3, x4, rfl⟩ := list5 (hlen.trans (by rfl))
  have g0 : DataW.trod enc Tryd.prog w base spare held m 3 ((([c0, c1, c2, c3, c4] : List Value).drop 0).take (Tryd.prog.cellsOf 3)) = some x0 := hf 0 _ rfl
  rw [cellsI] at g0
  have h0 : DataW.trod enc Tryd.prog w base spare held m 3 [c0] = some x0 := g0
  have g1 : DataW.trod enc Tryd.prog w base spare held m 28 ((([c0, c1, c2, c3, c4] : List Value).drop 1).take (Tryd.prog.cellsOf 28)) = some x1 := hf 1 _ rfl
  rw [cellsU] at g1
  have h1 : DataW.trod enc Tryd.prog w base spare held m 28 [c1] = some x1 := g1
  have g2 : DataW.trod enc Tryd.prog w base spare held m 29 ((([c0, c1, c2, c3, c4] : List Value).drop 2).take (Tryd.prog.cellsOf 29)) = some x2 := hf 2 _ rfl
  rw [cellsF] at g2
  have h2 : DataW.trod enc Tryd.prog w base spare held m 29 [c2] = some x2 := g2
  have g3 : DataW.trod enc Tryd.prog w base spare held m 30 ((([c0, c1, c2, c3, c4] : List Value).drop 3).take (Tryd.prog.cellsOf 30)) = some x3 := hf 3 _ rfl
  rw [cellsG] at g3
  have h3 : DataW.trod enc Tryd.prog w base spare held m 30 [c3] = some x3 := g3
  have g4 : DataW.trod enc Tryd.prog w base spare held m 9 ((([c0, c1, c2, c3, c4] : List Value).drop 4).take (Tryd.prog.cellsOf 9)) = some x4 := hf 4 _ rfl
  rw [cellsS] at g4
  have h4 : DataW.trod enc Tryd.prog w base spare held m 9 [c4] = some x4 := g4
  obtain ⟨k, e0, _, _⟩ := DataW.trod_int Tryd.underlying3 h0
  obtain ⟨n, e1, _, w1⟩ := DataW.trod_int Tryd.underlying28 h1
  obtain ⟨f, e2, _, w2⟩ := trod_float Tryd.underlying29 h2
  obtain ⟨g, e3, _, w3⟩ := trod_float Tryd.underlying30 h3
  obtain ⟨s, e4, x4e, _⟩ := DataW.trod_string Tryd.underlying9 h4
  simp only [List.cons.injEq, and_true] at e0 e1 e2 e3 e4
  subst e0 e1 e2 e3 e4
  have b1 := bounds_u64 w1
  obtain ⟨nn, rfl⟩ := Int.eq_ofNat_of_zero_le b1.1
  refine ⟨k, nn, f, g, s, rfl, by omega, float64_lt w2, float32_lt w3, x0.1, x1.1, x2.1, x3.1, ?_⟩
  rw [hx, x4e]
  rfl

theorem bulk_mem {H : Type} (d : DataW H) : ∀ (l : List (DataW H)), d ∈ l → Rows.uptoBulk d ≤ Rows.uptoBulkAll l
  | [], h => by cases h
  | x :: r, h => by
    simp only [Rows.uptoBulkAll]
    rcases List.mem_cons.1 h with rfl | h
    · omega
    · have := bulk_mem d r h; omega
theorem bulk_one {H : Type} (d : DataW H) : 1 ≤ Rows.uptoBulk d := by
  cases d with
  | lit l => cases l <;> simp [Rows.uptoBulk]
  | _ => simp [Rows.uptoBulk]
theorem bulk_len {H : Type} : ∀ (l : List (DataW H)), l.length ≤ Rows.uptoBulkAll l
  | [] => Nat.zero_le _
  | x :: r => by have := bulk_one x; have := bulk_len r; simp only [Rows.uptoBulkAll, List.length_cons]; omega
theorem bulk_slice {H : Type} (elems spare : List (DataW H)) : Rows.uptoBulkAll elems ≤ Rows.uptoBulk (.slice elems spare) := by
  simp only [Rows.uptoBulk]; omega
theorem bulk_string {H : Type} (a b c d : DataW H) (s : List UInt8) : s.length ≤ Rows.uptoBulk (.agg [a, b, c, d, .lit (.string s)]) := by
  simp only [Rows.uptoBulk, Rows.uptoBulkAll]; omega

set_option maxRecDepth 100000 in
/-- Pieces that came in, of a bulk that is known. -/
theorem pieces_open {H : Type} {enc : TypeId × Value → H} {W : World} {base : Nat} {v : Value} {d : DataW H} {p : List MemPlace} (hval : Value.okWide Tryd.prog W .any base 22 v)
    (h : DataW.Trod enc Tryd.prog W 0 (fun _ => true) true 22 v d p) (hbulk : Rows.uptoBulk d ≤ 1048576) :
    ∃ ao c ps, v = .slice ao (List.length ps) c ∧ Pcs W ao ps ∧ ps.length ≤ 1048576 := by
  obtain ⟨a0, len, cap, rfl⟩ := okWide_slice Tryd.underlying22 hval
  obtain ⟨fuel, hf⟩ := h
  rcases Go.Deep.open_slice Tryd.underlying22 hf with ⟨hcs, hx⟩ | ⟨a, len', cap', m, n, D, Pl, hcs, _, hl, hm, hmm, hx, hall⟩
  · simp [Value.cells] at hcs
    obtain ⟨rfl, rfl, rfl⟩ := hcs
    exact ⟨none, 0, [], rfl, fun i x hx => by simp at hx, Nat.zero_le _⟩
  · simp [Value.cells] at hcs
    obtain ⟨rfl, rfl, rfl⟩ := hcs
    simp only [Prod.mk.injEq] at hx
    simp only [if_true] at hmm
    subst hmm
    have hb1 : Rows.uptoBulkAll ((List.range len).map D) ≤ 1048576 := by
      have := bulk_slice ((List.range len).map D) ((List.range (m - len)).map fun j => D (len + j))
      rw [← hx.1] at this
      omega
    have hlen : len ≤ 1048576 := by
      have := bulk_len ((List.range len).map D)
      simp at this
      omega
    obtain ⟨ps, hpl, hq⟩ := exists_list (fun i (x : PV) => ∃ g off, some a = some (⟨g, off, none⟩ : Addr) ∧
      W.cell? ⟨g, off + i * 5, none⟩ = some (.int .i64 x.k) ∧ W.cell? ⟨g, off + i * 5 + 1, none⟩ = some (.int .u64 (x.n : Int)) ∧ W.cell? ⟨g, off + i * 5 + 2, none⟩ = some (.float .f64 x.f) ∧
      W.cell? ⟨g, off + i * 5 + 3, none⟩ = some (.float .f32 x.g) ∧ W.cell? ⟨g, off + i * 5 + 4, none⟩ = some (.string x.s) ∧ x.n < 18446744073709551616 ∧ x.f < 18446744073709551616 ∧ x.g < 4294967296 ∧ x.s.size ≤ 9223372036854775800) len (fun i hi => by
        obtain ⟨cs', hcells, htr⟩ := hall i (by omega)
        rw [cells32] at hcells
        obtain ⟨k, nn, f, g, s, rfl, h1, h2, h3, y0, y1, y2, y3, hy⟩ := piece_cells htr
        obtain ⟨_, _, hcell⟩ := World.cells?_some hcells
        have h0 := hall 0 (by omega)
        obtain ⟨cs0, hc0, ht0⟩ := h0
        rw [cells32] at hc0
        obtain ⟨k0, _, _, _, _, rfl, _⟩ := piece_cells ht0
        obtain ⟨_, _, hcell0⟩ := World.cells?_some hc0
        obtain ⟨gb, off, spot⟩ := a
        have hspot : spot = none := by
          have := World.cell?_spot (hcell0 0 (by decide))
          simpa [Addr.add] using this
        subst hspot
        have hs : s.size ≤ 1048576 := by
          have q1 := bulk_string y0 y1 y2 y3 s.data.toList
          have hy' : D i = .agg [y0, y1, y2, y3, .lit (.string s.data.toList)] := hy
          rw [← hy'] at q1
          have q2 := bulk_mem (D i) ((List.range len).map D) (List.mem_map.2 ⟨i, by simpa using hi, rfl⟩)
          have q3 : s.data.toList.length = s.size := by rw [Array.length_toList]; rfl
          omega
        refine ⟨⟨k, nn, f, g, s⟩, gb, off, rfl, ?_, ?_, ?_, ?_, ?_, h1, h2, h3, Nat.le_trans hs (by decide)⟩
        · have := hcell 0 (by decide); rw [Addr.add_lit, Addr.add_lit] at this; exact this
        · have := hcell 1 (by decide); rw [Addr.add_lit, Addr.add_lit] at this; exact this
        · have := hcell 2 (by decide); rw [Addr.add_lit, Addr.add_lit] at this; exact this
        · have := hcell 3 (by decide); rw [Addr.add_lit, Addr.add_lit] at this; exact this
        · have := hcell 4 (by decide); rw [Addr.add_lit, Addr.add_lit] at this; exact this)
    exact ⟨some a, _, ps, by rw [hpl], hq, by omega⟩
end Go.Proofs.YtckcdgobgpjdkaaDoor.Oct
