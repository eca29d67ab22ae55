/- Layer 20: a map that came in, opened. -/
import Derived.Test.YtipceoeihiaieaaDoorFrN20
import Derived.Test.YtipceoeihiaieaaDoorAa20
namespace Go.Proofs.YtipceoeihiaieaaDoor.Rou
open Go.ChangeShapes Go.WideShapes Go.ChangeAt Go.RowKit Go.Shelf

section
variable {H : Type} {enc : TypeId × Value → H} {W : World} {base : Nat} {sp : Nat → Bool} {held : Bool} {fuel : Nat} {cs : List Value} {d : DataW H} {q : List MemPlace}
theorem cellsI : Tryd.prog.cellsOf 3 = 1 := by kernel_rfl
theorem cellsPr : Tryd.prog.cellsOf 33 = 2 := by kernel_rfl
theorem cellsSp : Tryd.prog.cellsOf 22 = 1 := by kernel_rfl
theorem cellsCo : Tryd.prog.cellsOf 24 = 2 := by kernel_rfl
theorem bytesPr : Tryd.prog.bytesOf 33 = 16 := by kernel_rfl
theorem int_of {t : TypeId} (ht : Tryd.prog.underlying t = some (.int .i64)) (h : DataW.trod enc Tryd.prog W base sp held fuel t cs = some (d, q)) : ∃ z, cs = [.int .i64 z] ∧ d = .lit (.int .i64 z) := by
  obtain ⟨n, h1, h2, -⟩ := DataW.trod_int ht h
  cases h2
  exact ⟨n, h1, rfl⟩
/-- A pair that is read. -/
theorem pair_of (h : DataW.trod enc Tryd.prog W 0 (fun _ => true) true fuel 33 cs = some (d, q)) : ∃ p : Pr, cs = [.int .i64 p.1, .int .i64 p.2] := by
  obtain ⟨xs, m, _, hx, hl, hlen, hf⟩ := DataW.trod_array Tryd.underlying33 h
  rw [cellsPr] at hl
  rw [cellsI] at hf
  match xs, hlen with
  | [y0, y1], _ =>
    obtain ⟨y0, p0⟩ := y0
    obtain ⟨y1, p1⟩ := y1
    have h0 := hf 0 (by omega)
    have h1 := hf 1 (by omega)
    match cs, hl with
    | [x0, x1], _ =>
      obtain ⟨z0, k0, -⟩ := int_of (d := y0) (q := p0) Tryd.underlying3 (by simpa using h0)
      obtain ⟨z1, k1, -⟩ := int_of (d := y1) (q := p1) Tryd.underlying3 (by simpa using h1)
      cases k0
      cases k1
      exact ⟨(z0, z1), rfl⟩
set_option maxRecDepth 100000 in
/-- A map that came in. -/
theorem map_open {v : Value} {p : List MemPlace} (hval : Value.okWide Tryd.prog W .any base 24 v)
    (h : DataW.Trod enc Tryd.prog W 0 (fun _ => true) true 24 v d p) (hw : ∀ n ∈ d.weights Tryd.prog 24, n ≤ reachBytes) :
    ∃ (N : Int) (ps : List Pr) (ao : Option Addr) (k : Nat), v = .agg #[.int .i64 N, .slice ao ps.length k] ∧ PA W ao ps ∧ ps.length ≤ 1000000000000000 := by
  obtain ⟨cs, rfl, _⟩ := okWide_struct Tryd.underlying24 hval
  obtain ⟨fuel, hf⟩ := h
  obtain ⟨xs, n, _, hx, hl, hlen, hg⟩ := DataW.trod_struct Tryd.underlying24 hf
  rw [cellsCo] at hl
  have hc : (Value.agg cs).cells.toList = cs.toList := rfl
  rw [hc] at hg hl
  match xs, hlen with
  | [y0, y1], _ =>
    obtain ⟨y0, p0⟩ := y0
    obtain ⟨y1, p1⟩ := y1
    simp only [List.map_cons, List.map_nil, Prod.mk.injEq] at hx
    have h0 : DataW.trod enc Tryd.prog W 0 (fun _ => true) true n 3 ((cs.toList.drop 0).take (Tryd.prog.cellsOf 3)) = some (y0, p0) := hg 0 _ rfl
    have h1 : DataW.trod enc Tryd.prog W 0 (fun _ => true) true n 22 ((cs.toList.drop 1).take (Tryd.prog.cellsOf 22)) = some (y1, p1) := hg 1 _ rfl
    rw [cellsI] at h0
    rw [cellsSp] at h1
    have hw2 : ∀ m ∈ y1.weights Tryd.prog 22, m ≤ reachBytes := fun m hm => hw m (by
      rw [hx.1]
      simp only [DataW.weights, Tryd.underlying24]
      exact DataW.weights_mem_each (j := 1) (t := 22) (d := y1) rfl rfl m hm)
    clear hx hw hf hg
    obtain ⟨l⟩ := cs
    simp only at h0 h1 hl
    match l, hl with
    | [a, b], _ =>
      simp only [List.drop_zero, List.drop_succ_cons, List.take_succ_cons, List.take_zero] at h0 h1
      obtain ⟨z0, k0, -⟩ := int_of Tryd.underlying3 h0
      cases k0
      rcases Go.Deep.open_slice Tryd.underlying22 h1 with ⟨hcs, hx⟩ | ⟨a, len, cap, m, n', D, Pl, hcs, _, hl, hm, hmm, hx, hcell⟩
      · cases hcs
        exact ⟨z0, [], none, 0, rfl, .inl rfl, Nat.zero_le _⟩
      · cases hcs
        simp only [Prod.mk.injEq] at hx
        simp only [if_true] at hmm
        rw [hmm] at hcell hx
        clear hmm
        rw [hx.1] at hw2
        have hlenb : len ≤ 1000000000000000 := by
          have h2 := hw2 _ (by simp only [DataW.weights, Tryd.underlying22]; exact List.mem_cons_self)
          rw [bytesPr, List.length_map, List.length_range] at h2
          have h4 := reachBytes_lt
          omega
        have hone : ∀ i, ∃ t : Pr, i < len → ∀ j v, [Value.int .i64 t.1, .int .i64 t.2][j]? = some v → W.cell? ((a.add (i * 2)).add j) = some v := by
          intro i
          by_cases hi : i < len
          · obtain ⟨cs', h1, h2⟩ := hcell i (by omega)
            rw [cellsPr] at h1
            obtain ⟨o, rfl⟩ := pair_of h2
            refine ⟨o, fun _ j v hv => ?_⟩
            unfold World.cells? at h1
            rw [if_pos (Nat.zero_le _)] at h1
            have hj : j < 2 := (List.getElem?_eq_some_iff.1 hv).1
            obtain ⟨b, hb1, hb2⟩ := Lib.mapM_at h1 j j (by rw [List.getElem?_range hj])
            rw [hv] at hb1
            cases hb1
            exact hb2
          · exact ⟨(0, 0), fun h => absurd h hi⟩
        obtain ⟨TT, hTT⟩ := Classical.axiomOfChoice hone
        have hll : ((List.range len).map TT).length = len := by simp
        refine ⟨z0, (List.range len).map TT, some a, cap, by rw [hll], ?_, by rw [hll]; exact hlenb⟩
        by_cases hz : len = 0
        · left
          exact List.eq_nil_of_length_eq_zero (by rw [hll]; exact hz)
        · right
          have hc0 := hTT 0 (by omega) 0 _ rfl
          obtain ⟨g, off, spot⟩ := a
          have hspot : spot = none := by simpa [Addr.add] using World.cell?_spot hc0
          subst hspot
          refine ⟨g, off, rfl, fun i o ho => ?_⟩
          rw [List.getElem?_map] at ho
          obtain ⟨j, hj, rfl⟩ := Option.map_eq_some_iff.1 ho
          have hil : i < len := by have := (List.getElem?_eq_some_iff.1 hj).1; simpa using this
          rw [List.getElem?_range hil] at hj
          cases hj
          have key : ∀ (j : Nat) (v : Value), [Value.int .i64 (TT i).1, .int .i64 (TT i).2][j]? = some v → W.cell? ⟨g, off + i * 2 + j, none⟩ = some v := fun j v hv => by
            have := hTT i hil j v hv
            rw [Addr.add_lit, Addr.add_lit] at this
            exact this
          exact ⟨key 0 _ rfl, key 1 _ rfl⟩
end
end Go.Proofs.YtipceoeihiaieaaDoor.Rou
