import Derived.Test.YtllfplkefbhnfabDoorK028068d3
set_option maxRecDepth 100000
namespace Go.Proofs.YtllfplkefbhnfabDoor.Tbl
open Go.ChangeShapes Go.WideShapes Go.ChangeAt Go.RowKit Go.Shelf Go.Proofs.YtllfplkefbhnfabDoor.Pau Go.Proofs.YtllfplkefbhnfabDoor.Gt
theorem cellsP14 : Tryd.prog.cellsOf 27 = 4 := by kernel_rfl
theorem cellsU14 : Tryd.prog.cellsOf 25 = 1 := by kernel_rfl
theorem cellsI14 : Tryd.prog.cellsOf 3 = 1 := by kernel_rfl
theorem cellsT14 : Tryd.prog.cellsOf 24 = 3 := by kernel_rfl
theorem cellsS14 : Tryd.prog.cellsOf 22 = 1 := by kernel_rfl
theorem bytesP14 : Tryd.prog.bytesOf 27 = 32 := by kernel_rfl
theorem u64_nat14 {n : Int} (h : (Lit.int .u64 n).wf = true) : ∃ k : Nat, n = (k : Int) /\ k < 18446744073709551616 := by
  have hb := bounds_u64 h
  exact ⟨n.toNat, by omega, by omega⟩
section
variable {H : Type} {enc : TypeId × Value -> H} {W : World} {base : Nat} {sp : Nat -> Bool} {held : Bool} {fuel : Nat} {cs : List Value} {d : DataW H} {q : List MemPlace}
theorem pauli_of (h : DataW.trod enc Tryd.prog W base sp held fuel 27 cs = some (d, q)) : ∃ p : P, cs = c4 p /\ Wd p := by
  obtain ⟨y0, y1, y2, y3, n, hx, hl, h0, h1, h2, h3⟩ := Go.Joins.trod_struct4 Tryd.underlying27 h
  rw [cellsP14] at hl
  simp only [cellsI14, cellsU14] at h0 h1 h2 h3
  match cs, hl with
  | [a, b, c, e], _ =>
    simp only [List.drop_zero, List.drop_succ_cons, List.take_succ_cons, List.take_zero] at h0 h1 h2 h3
    obtain ⟨z0, e0, -, -⟩ := DataW.trod_int Tryd.underlying3 h0
    obtain ⟨z1, e1, -, w1⟩ := DataW.trod_int Tryd.underlying25 h1
    obtain ⟨z2, e2, -, w2⟩ := DataW.trod_int Tryd.underlying25 h2
    obtain ⟨z3, e3, -, -⟩ := DataW.trod_int Tryd.underlying3 h3
    cases e0; cases e1; cases e2; cases e3
    obtain ⟨k1, rfl, l1⟩ := u64_nat14 w1
    obtain ⟨k2, rfl, l2⟩ := u64_nat14 w2
    exact ⟨⟨z0, k1, k2, z3⟩, rfl, l1, l2⟩
theorem row_open {v : Value} (h : DataW.trod enc Tryd.prog W 0 (fun _ => true) true fuel 22 [v] = some (d, q)) (hw : ∀ m ∈ d.weights Tryd.prog 22, m <= reachBytes) :
    ∃ (ao : Option Addr) (l : List P) (c : Nat), v = .slice ao l.length c /\ PIn W ao l /\ Wl l /\ l.length <= c /\ l.length <= 8796093022208 := by
  rcases Go.Deep.open_slice Tryd.underlying22 h with ⟨hcs, hx⟩ | ⟨a, len, cap, m, n', D, Pl, hcs, _, hl, hm, hmm, hx, hcell⟩
  . cases hcs
    exact ⟨none, [], 0, rfl, .inl rfl, (fun p hp => by cases hp), Nat.le_refl _, Nat.zero_le _⟩
  . cases hcs
    simp only [Prod.mk.injEq] at hx
    simp only [if_true] at hmm
    rw [hmm] at hcell hx
    clear hmm
    rw [hx.1] at hw
    have hlen : len <= 8796093022208 := by
      have h2 := hw _ (by simp only [DataW.weights, Tryd.underlying22]; exact List.mem_cons_self)
      rw [bytesP14, List.length_map, List.length_range] at h2
      have h4 := reachBytes_lt
      omega
    have hone : ∀ i, ∃ p : P, i < len -> (Wd p /\ ∀ j v, (c4 p)[j]? = some v -> W.cell? ((a.add (i * 4)).add j) = some v) := by
      intro i
      by_cases hi : i < len
      . obtain ⟨cs', h1, h2⟩ := hcell i (by omega)
        rw [cellsP14] at h1
        obtain ⟨p, rfl, hp⟩ := pauli_of h2
        refine ⟨p, fun _ => ⟨hp, fun j v hv => ?_⟩⟩
        unfold World.cells? at h1
        rw [if_pos (Nat.zero_le _)] at h1
        have hj : j < 4 := (List.getElem?_eq_some_iff.1 hv).1
        obtain ⟨b, hb1, hb2⟩ := Lib.mapM_at h1 j j (by rw [List.getElem?_range hj])
        rw [hv] at hb1
        cases hb1
        exact hb2
      . exact ⟨oP, fun h => absurd h hi⟩
    obtain ⟨TT, hTT⟩ := Classical.axiomOfChoice hone
    have hll : ((List.range len).map TT).length = len := by simp
    refine ⟨some a, (List.range len).map TT, cap, by rw [hll], ?_, ?_, by rw [hll]; omega, by rw [hll]; exact hlen⟩
    . by_cases h0 : len = 0
      . left
        subst h0
        rfl
      . right
        have key : ∃ g off, a = ⟨g, off, none⟩ := by
          have hc0 := (hTT 0 (by omega)).2 0 _ rfl
          obtain ⟨g, off, spot⟩ := a
          have hspot : spot = none := by simpa [Addr.add] using World.cell?_spot hc0
          subst hspot
          exact ⟨g, off, rfl⟩
        obtain ⟨g, off, rfl⟩ := key
        refine ⟨g, off, rfl, fun i p hp => ?_⟩
        rw [List.getElem?_map] at hp
        obtain ⟨j, hj, rfl⟩ := Option.map_eq_some_iff.1 hp
        have hjl : i < len := by have := (List.getElem?_eq_some_iff.1 hj).1; simpa using this
        rw [List.getElem?_range hjl] at hj
        cases hj
        have hc := (hTT i hjl).2
        have hadd : ∀ j, (((⟨g, off, none⟩ : Addr).add (i * 4)).add j) = ⟨g, off + i * 4 + j, none⟩ := fun j => by rw [Addr.add_lit, Addr.add_lit]
        have c0 := hc 0 _ rfl
        have c1 := hc 1 _ rfl
        have c2 := hc 2 _ rfl
        have c3 := hc 3 _ rfl
        rw [hadd] at c0 c1 c2 c3
        exact ⟨c0, c1, c2, c3⟩
    . intro p hp
      obtain ⟨i, hi, rfl⟩ := List.mem_map.1 hp
      exact (hTT i (List.mem_range.1 hi)).1
theorem tab_open {v : Value} {p : List MemPlace} (hval : Value.okWide Tryd.prog W .any base 24 v)
    (h : DataW.Trod enc Tryd.prog W 0 (fun _ => true) true 24 v d p) (hw : ∀ n ∈ d.weights Tryd.prog 24, n <= reachBytes) :
    ∃ (t : TT) (a b : Option Addr) (ca cb : Nat), v = tV t a b ca cb /\ Th W t a b ca cb /\ t.s.length <= 8796093022208 /\ t.d.length <= 8796093022208 := by
  obtain ⟨cs, rfl, _⟩ := okWide_struct Tryd.underlying24 hval
  obtain ⟨fuel, hf⟩ := h
  obtain ⟨y0, y1, y2, n, hx, hl, h0, h1, h2⟩ := Go.Deep.trod_struct3 Tryd.underlying24 hf
  rw [cellsT14] at hl
  simp only [cellsI14, cellsS14] at h0 h1 h2
  obtain ⟨y1, p1⟩ := y1
  obtain ⟨y2, p2⟩ := y2
  have hd : d = .agg [y0.1, y1, y2] := congrArg Prod.fst hx
  have hc : (Value.agg cs).cells.toList = cs.toList := rfl
  rw [hc] at h0 h1 h2 hl
  have hw1 : ∀ m ∈ y1.weights Tryd.prog 22, m <= reachBytes := fun m hm => hw m (by
    rw [hd]
    simp only [DataW.weights, Tryd.underlying24]
    exact DataW.weights_mem_each (j := 1) (t := 22) (d := y1) rfl rfl m hm)
  have hw2 : ∀ m ∈ y2.weights Tryd.prog 22, m <= reachBytes := fun m hm => hw m (by
    rw [hd]
    simp only [DataW.weights, Tryd.underlying24]
    exact DataW.weights_mem_each (j := 2) (t := 22) (d := y2) rfl rfl m hm)
  clear hx hd hw hf
  obtain ⟨l⟩ := cs
  simp only at h0 h1 h2 hl
  match l, hl with
  | [a, b, c], _ =>
    simp only [List.drop_zero, List.drop_succ_cons, List.take_succ_cons, List.take_zero] at h0 h1 h2
    obtain ⟨z0, k0, -⟩ := int_of Tryd.underlying3 (d := y0.1) (q := y0.2) h0
    cases k0
    obtain ⟨ao, l1, ca, rfl, i1, w1, e1, m1⟩ := row_open h1 hw1
    obtain ⟨bo, l2, cb, rfl, i2, w2, e2, m2⟩ := row_open h2 hw2
    exact ⟨⟨z0, l1, l2⟩, ao, bo, ca, cb, rfl, ⟨i1, i2, w1, w2, e1, e2, by show l1.length <= _; omega, by show l2.length <= _; omega⟩, m1, m2⟩
end
theorem pau_open {H : Type} {enc : TypeId × Value -> H} {W : World} {base : Nat} {v : Value} {d : DataW H} {p : List MemPlace} (hval : Value.okWide Tryd.prog W .any base 27 v)
    (h : DataW.Trod enc Tryd.prog W 0 (fun _ => true) true 27 v d p) : ∃ q : P, v = pV q /\ Wd q := by
  obtain ⟨cs, rfl, _⟩ := okWide_struct Tryd.underlying27 hval
  obtain ⟨fuel, hf⟩ := h
  obtain ⟨q, hq, hw⟩ := pauli_of hf
  have hc : cs.toList = c4 q := hq
  refine ⟨q, ?_, hw⟩
  have : cs = (c4 q).toArray := by apply Array.ext'; rw [hc]
  rw [this]
  rfl
end Go.Proofs.YtllfplkefbhnfabDoor.Tbl
