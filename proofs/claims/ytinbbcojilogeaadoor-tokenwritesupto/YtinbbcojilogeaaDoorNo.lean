/- A row of tokens, and a token, that came in, opened. -/
import Derived.Test.YtinbbcojilogeaaDoorNa
import Derived.Test.YtinbbcojilogeaaDoorFr4
import Derived.Deep.Slices
import Derived.Lib.SmallJoins
import Derived.Lib.LaidTab
namespace Go.Proofs.YtinbbcojilogeaaDoor.Tok
open Go.ChangeShapes Go.WideShapes Go.ChangeAt Go.RowKit Go.Shelf

section
variable {H : Type} {enc : TypeId × Value → H} {W : World} {base : Nat} {sp : Nat → Bool} {held : Bool} {fuel : Nat} {cs : List Value} {d : DataW H} {q : List MemPlace}
theorem int_of {t : TypeId} (ht : Tryd.prog.underlying t = some (.int .i64)) (h : DataW.trod enc Tryd.prog W base sp held fuel t cs = some (d, q)) : ∃ z, cs = [.int .i64 z] ∧ d = .lit (.int .i64 z) ∧ in64 z := by
  cases fuel with
  | zero => simp [DataW.trod] at h
  | succ fuel =>
    simp only [DataW.trod, ht] at h
    split at h <;> first | (rename_i e _; cases e; done) | (rename_i e; cases e; done) | (cases h; done) | skip
    rename_i k k' z e
    injection e with e
    injection e with e
    subst e
    split at h
    · rename_i hw
      cases h
      obtain ⟨rfl, hwf⟩ := hw
      exact ⟨z, rfl, rfl, bounds_i64 hwf⟩
    · cases h
theorem str_any (h : DataW.trod enc Tryd.prog W base sp held fuel 9 cs = some (d, q)) : ∃ tx : List UInt8, cs = [.string ⟨tx.toArray⟩] ∧ d = .lit (.string tx) := by
  cases fuel with
  | zero => simp [DataW.trod] at h
  | succ fuel =>
    simp only [DataW.trod, Tryd.underlying9] at h
    split at h <;> first | (rename_i e _; cases e; done) | (rename_i e; cases e; done) | (cases h; done) | skip
    rename_i s e
    split at h
    · cases h
      exact ⟨s.data.toList, rfl, rfl⟩
    · cases h
theorem cellsT : Tryd.prog.cellsOf 37 = 6 := by kernel_rfl
theorem cellsS : Tryd.prog.cellsOf 23 = 3 := by kernel_rfl
theorem cellsI : Tryd.prog.cellsOf 3 = 1 := by kernel_rfl
theorem cellsK : Tryd.prog.cellsOf 35 = 1 := by kernel_rfl
theorem cellsX : Tryd.prog.cellsOf 9 = 1 := by kernel_rfl
/-- A token that is read. -/
theorem tok_of (h : DataW.trod enc Tryd.prog W base sp held fuel 37 cs = some (d, q)) : ∃ t : TA, cs = t.cells ∧ in64 t.kd ∧ in64 t.nm ∧ in64 t.o1 ∧ in64 t.o2 ∧ in64 t.o3 ∧ t.tx.length + 22 ≤ 3 * Rows.uptoBulk d ∧ t.tx.length ≤ Rows.uptoBulk d := by
  obtain ⟨y0, y1, y2, y3, n, hx, hl, h0, h1, h2, h3⟩ := Go.Joins.trod_struct4 Tryd.underlying37 h
  rw [cellsT] at hl
  simp only [cellsK, cellsX, cellsI, cellsS] at h0 h1 h2 h3
  match cs, hl with
  | [a, b, c, e, f, g], _ =>
    simp only [List.drop_zero, List.drop_succ_cons, List.take_succ_cons, List.take_zero] at h0 h1 h2 h3
    obtain ⟨kd, ha, hda, hka⟩ := int_of Tryd.underlying35 (d := y0.1) (q := y0.2) h0
    obtain ⟨tx, hb, hdb⟩ := str_any (d := y1.1) (q := y1.2) h1
    obtain ⟨nm, hc, hdc, hkc⟩ := int_of Tryd.underlying3 (d := y2.1) (q := y2.2) h2
    obtain ⟨z0, z1, z2, n', hx', hl', g0, g1, g2⟩ := Go.Deep.trod_struct3 Tryd.underlying23 h3
    simp only [cellsI, List.drop_zero, List.drop_succ_cons, List.take_succ_cons, List.take_zero] at g0 g1 g2
    obtain ⟨o1, he, hde, hke⟩ := int_of Tryd.underlying3 (d := z0.1) (q := z0.2) g0
    obtain ⟨o2, hf, hdf, hkf⟩ := int_of Tryd.underlying3 (d := z1.1) (q := z1.2) g1
    obtain ⟨o3, hg, hdg, hkg⟩ := int_of Tryd.underlying3 (d := z2.1) (q := z2.2) g2
    cases ha; cases hb; cases hc; cases he; cases hf; cases hg
    have hd : d = .agg [.lit (.int .i64 kd), .lit (.string tx), .lit (.int .i64 nm), .agg [.lit (.int .i64 o1), .lit (.int .i64 o2), .lit (.int .i64 o3)]] := by
      have e1 := congrArg Prod.fst hx
      have e2 := congrArg Prod.fst hx'
      simp only at e1 e2
      rw [e1, e2, hda, hdb, hdc, hde, hdf, hdg]
    refine ⟨⟨kd, tx, nm, o1, o2, o3⟩, rfl, hka, hkc, hke, hkf, hkg, ?_, ?_⟩
    · rw [hd]
      simp only [Rows.uptoBulk, Rows.uptoBulkAll]
      omega
    · rw [hd]
      simp only [Rows.uptoBulk, Rows.uptoBulkAll]
      omega
end
theorem bulkAll_map {H : Type} (D : Nat → DataW H) (TT : Nat → TA) : ∀ n, (∀ i, i < n → (TT i).tx.length + 22 ≤ 3 * Rows.uptoBulk (D i)) → bulk ((List.range n).map TT) ≤ 3 * Rows.uptoBulkAll ((List.range n).map D) := by
  have app : ∀ (l m : List (DataW H)), Rows.uptoBulkAll (l ++ m) = Rows.uptoBulkAll l + Rows.uptoBulkAll m := by
    intro l m
    induction l with
    | nil => simp [Rows.uptoBulkAll]
    | cons a r ih => simp only [List.cons_append, Rows.uptoBulkAll, ih]; omega
  intro n
  induction n with
  | zero => intro _; exact Nat.zero_le _
  | succ n ih =>
    intro h
    have := ih (fun i hi => h i (by omega))
    have h2 := h n (by omega)
    rw [List.range_succ, List.map_append, List.map_append, app]
    unfold bulk at this ⊢
    rw [List.map_append, List.sum_append]
    simp only [List.map_cons, List.map_nil, List.sum_cons, List.sum_nil, Rows.uptoBulkAll]
    omega
set_option maxRecDepth 100000 in
/-- A row of tokens that came in. -/
theorem toks_open {H : Type} {enc : TypeId × Value → H} {W : World} {base : Nat} {v : Value} {d : DataW H} {p : List MemPlace} (hval : Value.okWide Tryd.prog W .any base 28 v)
    (h : DataW.Trod enc Tryd.prog W 0 (fun _ => true) true 28 v d p) :
    ∃ ao c ts, v = .slice ao ts.length c ∧ Ta W ao ts ∧ (∀ t ∈ ts, in64 t.nm) ∧ bulk ts ≤ 3 * Rows.uptoBulk d := by
  obtain ⟨a0, len, cap, rfl⟩ := okWide_slice Tryd.underlying28 hval
  obtain ⟨fuel, hf⟩ := h
  rcases Go.Deep.open_slice Tryd.underlying28 hf with ⟨hcs, hx⟩ | ⟨a, len', cap', m, n, D, Pl, hcs, _, hl, hm, hmm, hx, hcell⟩
  · simp [Value.cells] at hcs
    obtain ⟨rfl, rfl, rfl⟩ := hcs
    exact ⟨none, 0, [], rfl, fun j t hj => by simp at hj, fun t ht => by simp at ht, Nat.zero_le _⟩
  · simp [Value.cells] at hcs
    obtain ⟨rfl, rfl, rfl⟩ := hcs
    simp only [Prod.mk.injEq] at hx
    simp only [if_true] at hmm
    rw [hmm] at hcell hx
    clear hmm
    have hone : ∀ i, ∃ t : TA, i < cap → ((∀ j v, t.cells[j]? = some v → W.cell? ((a.add (i * 6)).add j) = some v) ∧ in64 t.nm ∧ t.tx.length + 22 ≤ 3 * Rows.uptoBulk (D i)) := by
      intro i
      by_cases hi : i < cap
      · obtain ⟨cs', h1, h2⟩ := hcell i hi
        rw [cellsT] at h1
        obtain ⟨t, rfl, _, hnm, _, _, _, hb, _⟩ := tok_of h2
        refine ⟨t, fun _ => ⟨fun j v hv => ?_, hnm, hb⟩⟩
        unfold World.cells? at h1
        rw [if_pos (Nat.zero_le _)] at h1
        have hj : j < 6 := (List.getElem?_eq_some_iff.1 hv).1
        obtain ⟨b, hb1, hb2⟩ := Lib.mapM_at h1 j j (by rw [List.getElem?_range hj])
        rw [hv] at hb1
        cases hb1
        exact hb2
      · exact ⟨⟨0, [], 0, 0, 0, 0⟩, fun h => absurd h hi⟩
    obtain ⟨TT, hTT⟩ := Classical.axiomOfChoice hone
    have hll : ((List.range len).map TT).length = len := by simp
    refine ⟨some a, cap, (List.range len).map TT, by rw [hll], ?_, ?_, ?_⟩
    · intro j t hj
      rw [List.getElem?_map] at hj
      obtain ⟨i, hi, rfl⟩ := Option.map_eq_some_iff.1 hj
      have hjl : j < len := by have := (List.getElem?_eq_some_iff.1 hi).1; simpa using this
      rw [List.getElem?_range hjl] at hi
      cases hi
      have hc := (hTT j (by omega)).1
      have hc0 := (hTT 0 (by omega)).1 0 _ rfl
      obtain ⟨g, off, spot⟩ := a
      have hspot : spot = none := by simpa [Addr.add] using World.cell?_spot hc0
      subst hspot
      refine ⟨g, off, rfl, fun i v hv => ?_⟩
      have := hc i v hv
      rw [Addr.add_lit, Addr.add_lit] at this
      exact this
    · intro t ht
      obtain ⟨i, hi, rfl⟩ := List.mem_map.1 ht
      exact (hTT i (by have := List.mem_range.1 hi; omega)).2.1
    · rw [hx.1]
      have hbm := bulkAll_map D TT len (fun i hi => (hTT i (by omega)).2.2)
      simp only [Rows.uptoBulk]
      omega
end Go.Proofs.YtinbbcojilogeaaDoor.Tok
