import Derived.Test.YtjiopaojhenanaaGreatDoorWn56bf7a0c
import Derived.Test.YtjiopaojhenanaaGreatDoorWn2598fbee
namespace Go.Proofs.YtjiopaojhenanaaGreatDoor.Gt
end Go.Proofs.YtjiopaojhenanaaGreatDoor.Gt
namespace Go.Proofs.YtjiopaojhenanaaGreatDoor.Tok
end Go.Proofs.YtjiopaojhenanaaGreatDoor.Tok
set_option maxRecDepth 100000
namespace Go.Proofs.YtjiopaojhenanaaGreatDoor.Cir
open Go.ChangeShapes Go.WideShapes Go.ChangeAt Go.RowKit Go.Shelf Go.Proofs.YtjiopaojhenanaaGreatDoor.Tok Go.Proofs.YtjiopaojhenanaaGreatDoor.Gt
section
variable {H : Type} {enc : TypeId × Value -> H} {W : World} {base : Nat} {fuel : Nat} {cs : List Value} {d : DataW H} {q : List MemPlace}
theorem cellsOp : Tryz.prog.cellsOf 49 = 6 := by kernel_rfl
theorem cellsCi : Tryz.prog.cellsOf 24 = 3 := by kernel_rfl
theorem cellsOk : Tryz.prog.cellsOf 45 = 1 := by kernel_rfl
theorem cellsGk : Tryz.prog.cellsOf 46 = 1 := by kernel_rfl
theorem cellsSi : Tryz.prog.cellsOf 47 = 1 := by kernel_rfl
theorem cellsSo : Tryz.prog.cellsOf 22 = 1 := by kernel_rfl
theorem bytesI8 : Tryz.prog.bytesOf 3 = 8 := by kernel_rfl
theorem bytesOp : Tryz.prog.bytesOf 49 = 64 := by kernel_rfl
theorem weights_all {P : Program} {e : TypeId} : ∀ (l : List (DataW H)) (d : DataW H), d ∈ l -> ∀ n ∈ d.weights P e, n ∈ DataW.weightsAll P e l
  | [], _, h, _, _ => by cases h
  | a :: r, d, h, n, hn => by
    rw [DataW.weightsAll]
    rcases List.mem_cons.1 h with rfl | h
    . exact List.mem_append_left _ hn
    . exact List.mem_append_right _ (weights_all r d h n hn)
theorem ints_of (h : DataW.trod enc Tryz.prog W 0 (fun _ => true) true fuel 47 cs = some (d, q)) : ∃ ao c us, cs = [.slice ao us.length c] /\ Ns W ao us /\ us.length <= c /\ ((∀ n ∈ d.weights Tryz.prog 47, n <= reachBytes) -> us.length <= 17592186044416) := by
  rcases open_ints Tryz.underlying47 Tryz.underlying3 cellsI8 h with ⟨hcs, hx⟩ | ⟨a, len', cap', zs, hcs, _, hl, hm, hz, hx, hcell, hwz⟩
  . exact ⟨none, 0, [], hcs, .inl rfl, Nat.le_refl _, fun _ => Nat.zero_le _⟩
  . simp only [Prod.mk.injEq] at hx
    simp only [if_true] at hz
    have hlen : (zs.take len').length = len' := by simp; omega
    refine ⟨some a, cap', zs.take len', by rw [hlen]; exact hcs, ?_, by omega, fun hw => ?_⟩
    . by_cases h0 : len' = 0
      . left
        exact List.eq_nil_of_length_eq_zero (by rw [hlen]; exact h0)
      . right
        obtain ⟨g, off, rfl, hc⟩ := ints_at hcell (by omega)
        refine ⟨g, off, rfl, fun j b hj => ?_⟩
        have hjl : j < len' := by have := (List.getElem?_eq_some_iff.1 hj).1; rw [hlen] at this; exact this
        have h1 := hc j (by omega)
        rw [h1]
        simp only [List.getElem?_take, hjl, if_true] at hj
        have e1 : zs.getD j 0 = b := by simp [List.getD, hj]
        rw [e1]
    . rw [hx.1] at hw
      have h2 := hw _ (by simp only [DataW.weights, Tryz.underlying47]; exact List.mem_cons_self)
      rw [bytesI8] at h2
      have h3 : (lits IntKind.i64 (zs.take len') : List (DataW H)).length = len' := by simp [lits]; omega
      rw [h3] at h2
      have h4 := reachBytes_lt
      omega
theorem op_of (h : DataW.trod enc Tryz.prog W 0 (fun _ => true) true fuel 49 cs = some (d, q)) : ∃ (o : COp) (aq : Option Addr) (cq : Nat), cs = [.int .i64 o.kind, .int .i64 o.gate, .slice aq o.qs.length cq, .int .i64 o.bit, .int .i64 o.cond, .int .i64 o.whn] /\ Ns W aq o.qs /\ o.qs.length <= cq /\ ((∀ n ∈ d.weights Tryz.prog 49, n <= reachBytes) -> o.qs.length <= 17592186044416) := by
  obtain ⟨xs, n, _, hx, hl, hlen, hf⟩ := DataW.trod_struct Tryz.underlying49 h
  rw [cellsOp] at hl
  match xs, hlen with
  | [y0, y1, y2, y3, y4, y5], _ =>
    obtain ⟨y0, p0⟩ := y0
    obtain ⟨y1, p1⟩ := y1
    obtain ⟨y2, p2⟩ := y2
    obtain ⟨y3, p3⟩ := y3
    obtain ⟨y4, p4⟩ := y4
    obtain ⟨y5, p5⟩ := y5
    simp only [List.map_cons, List.map_nil, Prod.mk.injEq] at hx
    have h0 : DataW.trod enc Tryz.prog W 0 (fun _ => true) true n 45 ((cs.drop 0).take (Tryz.prog.cellsOf 45)) = some (y0, p0) := hf 0 _ rfl
    have h1 : DataW.trod enc Tryz.prog W 0 (fun _ => true) true n 46 ((cs.drop 1).take (Tryz.prog.cellsOf 46)) = some (y1, p1) := hf 1 _ rfl
    have h2 : DataW.trod enc Tryz.prog W 0 (fun _ => true) true n 47 ((cs.drop 2).take (Tryz.prog.cellsOf 47)) = some (y2, p2) := hf 2 _ rfl
    have h3 : DataW.trod enc Tryz.prog W 0 (fun _ => true) true n 3 ((cs.drop 3).take (Tryz.prog.cellsOf 3)) = some (y3, p3) := hf 3 _ rfl
    have h4 : DataW.trod enc Tryz.prog W 0 (fun _ => true) true n 3 ((cs.drop 4).take (Tryz.prog.cellsOf 3)) = some (y4, p4) := hf 4 _ rfl
    have h5 : DataW.trod enc Tryz.prog W 0 (fun _ => true) true n 3 ((cs.drop 5).take (Tryz.prog.cellsOf 3)) = some (y5, p5) := hf 5 _ rfl
    rw [cellsOk] at h0
    rw [cellsGk] at h1
    rw [cellsSi] at h2
    rw [cellsI8] at h3 h4 h5
    clear hf h
    match cs, hl with
    | [x0, x1, x2, x3, x4, x5], _ =>
      simp only [List.drop_zero, List.drop_succ_cons, List.take_succ_cons, List.take_zero] at h0 h1 h2 h3 h4 h5
      obtain ⟨z0, k0, -⟩ := int_of Tryz.underlying45 h0
      obtain ⟨z1, k1, -⟩ := int_of Tryz.underlying46 h1
      obtain ⟨aq, cq, us, k2, hn, hr, hw⟩ := ints_of h2
      obtain ⟨z3, k3, -⟩ := int_of Tryz.underlying3 h3
      obtain ⟨z4, k4, -⟩ := int_of Tryz.underlying3 h4
      obtain ⟨z5, k5, -⟩ := int_of Tryz.underlying3 h5
      cases k0; cases k1; cases k2; cases k3; cases k4; cases k5
      refine ⟨⟨z0, z1, us, z3, z4, z5⟩, aq, cq, rfl, hn, hr, fun hh => hw fun m hm => hh m ?_⟩
      rw [hx.1]
      simp only [DataW.weights, Tryz.underlying49]
      exact DataW.weights_mem_each (j := 2) (t := 47) (d := y2) rfl rfl m hm
theorem circ_openS {v : Value} {p : List MemPlace} (hval : Value.okWide Tryz.prog W .any base 24 v)
    (h : DataW.Trod enc Tryz.prog W 0 (fun _ => true) true 24 v d p) (hw : ∀ n ∈ d.weights Tryz.prog 24, n <= reachBytes) :
    ∃ (c : Circ) (ao : Option Addr) (k : Nat), v = cV c ao k /\ Ci W c ao k /\ c.ops.length <= 2199023255552 /\ ∀ o ∈ c.ops, o.qs.length <= 17592186044416 := by
  obtain ⟨cs, rfl, _⟩ := okWide_struct Tryz.underlying24 hval
  obtain ⟨fuel, hf⟩ := h
  obtain ⟨y0, y1, y2, n, hx, hl, h0, h1, h2⟩ := Go.Deep.trod_struct3 Tryz.underlying24 hf
  rw [cellsCi] at hl
  simp only [cellsI8, cellsSo] at h0 h1 h2
  obtain ⟨y2, p2⟩ := y2
  have hd : d = .agg [y0.1, y1.1, y2] := congrArg Prod.fst hx
  have hc : (Value.agg cs).cells.toList = cs.toList := rfl
  rw [hc] at h0 h1 h2 hl
  have hw2 : ∀ m ∈ y2.weights Tryz.prog 22, m <= reachBytes := fun m hm => hw m (by
    rw [hd]
    simp only [DataW.weights, Tryz.underlying24]
    exact DataW.weights_mem_each (j := 2) (t := 22) (d := y2) rfl rfl m hm)
  clear hx hd hw hf
  obtain ⟨l⟩ := cs
  simp only at h0 h1 h2 hl
  match l, hl with
  | [a, b, c], _ =>
    simp only [List.drop_zero, List.drop_succ_cons, List.take_succ_cons, List.take_zero] at h0 h1 h2
    obtain ⟨z0, k0, -⟩ := int_of Tryz.underlying3 (d := y0.1) (q := y0.2) h0
    obtain ⟨z1, k1, -⟩ := int_of Tryz.underlying3 (d := y1.1) (q := y1.2) h1
    cases k0; cases k1
    rcases Go.Deep.open_slice Tryz.underlying22 h2 with ⟨hcs, hx⟩ | ⟨a, len, cap, m, n', D, Pl, hcs, _, hl, hm, hmm, hx, hcell⟩
    . cases hcs
      exact ⟨⟨z0, z1, []⟩, none, 0, rfl, ⟨.inl rfl, Nat.le_refl _, Nat.zero_le _, fun o ho => by cases ho⟩, Nat.zero_le _, fun o ho => by cases ho⟩
    . cases hcs
      simp only [Prod.mk.injEq] at hx
      simp only [if_true] at hmm
      rw [hmm] at hcell hx
      clear hmm
      rw [hx.1] at hw2
      have hw3 : (∀ e ∈ (List.range len).map D, ∀ x ∈ e.weights Tryz.prog 49, x <= reachBytes) /\ len <= 2199023255552 := by
        constructor
        . intro e he x hxx
          refine hw2 x ?_
          simp only [DataW.weights, Tryz.underlying22]
          exact List.mem_cons_of_mem _ (List.mem_append_left _ (weights_all _ e he x hxx))
        . have h2 := hw2 _ (by simp only [DataW.weights, Tryz.underlying22]; exact List.mem_cons_self)
          rw [bytesOp, List.length_map, List.length_range] at h2
          have h4 := reachBytes_lt
          omega
      have hone : ∀ i, ∃ t : COp, i < len -> (∃ aq cq, Ns W aq t.qs /\ t.qs.length <= cq /\ t.qs.length <= 17592186044416 /\ ∀ j v, [Value.int .i64 t.kind, .int .i64 t.gate, .slice aq t.qs.length cq, .int .i64 t.bit, .int .i64 t.cond, .int .i64 t.whn][j]? = some v -> W.cell? ((a.add (i * 6)).add j) = some v) := by
        intro i
        by_cases hi : i < len
        . obtain ⟨cs', h1, h2⟩ := hcell i (by omega)
          rw [cellsOp] at h1
          obtain ⟨o, aq, cq, rfl, hn, hr, hq⟩ := op_of h2
          refine ⟨o, fun _ => ⟨aq, cq, hn, hr, hq (hw3.1 _ (List.mem_map.2 ⟨i, List.mem_range.2 hi, rfl⟩)), fun j v hv => ?_⟩⟩
          unfold World.cells? at h1
          rw [if_pos (Nat.zero_le _)] at h1
          have hj : j < 6 := (List.getElem?_eq_some_iff.1 hv).1
          obtain ⟨b, hb1, hb2⟩ := Lib.mapM_at h1 j j (by rw [List.getElem?_range hj])
          rw [hv] at hb1
          cases hb1
          exact hb2
        . exact ⟨⟨0, 0, [], 0, 0, 0⟩, fun h => absurd h hi⟩
      obtain ⟨TT, hTT⟩ := Classical.axiomOfChoice hone
      have hll : ((List.range len).map TT).length = len := by simp
      have hat : ∀ (i : Nat) o, ((List.range len).map TT)[i]? = some o -> i < len /\ o = TT i := fun i o ho => by
        rw [List.getElem?_map] at ho
        obtain ⟨j, hj, rfl⟩ := Option.map_eq_some_iff.1 ho
        have hjl : i < len := by have := (List.getElem?_eq_some_iff.1 hj).1; simpa using this
        rw [List.getElem?_range hjl] at hj
        cases hj
        exact ⟨hjl, rfl⟩
      have hq : ∀ o ∈ (List.range len).map TT, o.qs.length <= 17592186044416 := fun o ho => by
        obtain ⟨i, hi, rfl⟩ := List.mem_map.1 ho
        obtain ⟨_, _, _, _, hq, _⟩ := hTT i (List.mem_range.1 hi)
        exact hq
      have hlen := hw3.2
      refine ⟨⟨z0, z1, (List.range len).map TT⟩, some a, cap, by unfold cV; simp only [hll], ⟨?_, by simp only [hll]; exact hl, by simp only [hll]; omega, fun o ho => Nat.le_trans (hq o ho) (by decide)⟩, by simp only [hll]; exact hlen, hq⟩
      . by_cases hz : len = 0
        . left
          exact List.eq_nil_of_length_eq_zero (by rw [hll]; exact hz)
        . right
          obtain ⟨aq, cq, _, _, _, hc0⟩ := hTT 0 (by omega)
          have hc0 := hc0 0 _ rfl
          obtain ⟨g, off, spot⟩ := a
          have hspot : spot = none := by simpa [Addr.add] using World.cell?_spot hc0
          subst hspot
          refine ⟨g, off, rfl, fun i o ho => ?_⟩
          obtain ⟨hi, rfl⟩ := hat i o ho
          obtain ⟨aq, cq, hn, hr, _, hc⟩ := hTT i hi
          have key : ∀ (j : Nat) (v : Value), [Value.int .i64 (TT i).kind, .int .i64 (TT i).gate, .slice aq (TT i).qs.length cq, .int .i64 (TT i).bit, .int .i64 (TT i).cond, .int .i64 (TT i).whn][j]? = some v -> W.cell? ⟨g, off + i * 6 + j, none⟩ = some v := fun j v hv => by
            have := hc j v hv
            rw [Addr.add_lit, Addr.add_lit] at this
            exact this
          exact ⟨aq, cq, key 0 _ rfl, key 1 _ rfl, key 2 _ rfl, key 3 _ rfl, key 4 _ rfl, key 5 _ rfl, hr, hn⟩
end
section
variable {H : Type} {enc : TypeId × Value -> H} {W : World} {base : Nat}
theorem cellsU64 : Tryz.prog.cellsOf 42 = 1 := by kernel_rfl
theorem bytesU64 : Tryz.prog.bytesOf 42 = 8 := by kernel_rfl
theorem uints_openS {v : Value} {d : DataW H} {p : List MemPlace} (hval : Value.okWide Tryz.prog W .any base 25 v)
    (h : DataW.Trod enc Tryz.prog W 0 (fun _ => true) true 25 v d p) (hw : ∀ n ∈ d.weights Tryz.prog 25, n <= reachBytes) :
    ∃ (ao : Option Addr) (c : Nat) (us : List Nat), v = .slice ao us.length c /\ Rwt.Nu W ao (us.map fun (x : Nat) => (x : Int)) /\ (∀ x ∈ us, x < 18446744073709551616) /\ us.length <= 17592186044416 := by
  obtain ⟨a0, len, cap, rfl⟩ := okWide_slice Tryz.underlying25 hval
  obtain ⟨fuel, hf⟩ := h
  rcases open_ints Tryz.underlying25 Tryz.underlying42 cellsU64 hf with ⟨hcs, hx⟩ | ⟨a, len', cap', zs, hcs, _, hl, hm, hz, hx, hcell, hwz⟩
  . simp [Value.cells] at hcs
    obtain ⟨rfl, rfl, rfl⟩ := hcs
    exact ⟨none, 0, [], rfl, .inl rfl, fun x h => by simp at h, Nat.zero_le _⟩
  . simp [Value.cells] at hcs
    obtain ⟨rfl, rfl, rfl⟩ := hcs
    simp only [Prod.mk.injEq] at hx
    simp only [if_true] at hz
    have hlen : ((zs.take len).map fun z => z.toNat).length = len := by simp; omega
    refine ⟨some a, cap, (zs.take len).map fun z => z.toNat, by rw [hlen], ?_, ?_, ?_⟩
    . by_cases h0 : len = 0
      . left
        rw [List.map_eq_nil_iff]
        exact List.eq_nil_of_length_eq_zero (by rw [hlen]; exact h0)
      . right
        obtain ⟨g, off, rfl, hc⟩ := ints_at hcell (by omega)
        refine ⟨g, off, rfl, fun j b hj => ?_⟩
        have hjl : j < len := by have := (List.getElem?_eq_some_iff.1 hj).1; rw [List.length_map, hlen] at this; exact this
        have h1 := hc j (by omega)
        rw [h1]
        simp only [List.getElem?_map, List.getElem?_take, hjl, if_true, Option.map_map, Option.map_eq_some_iff] at hj
        obtain ⟨z, hz', rfl⟩ := hj
        have hb := bounds_u64 (hwz z (List.mem_of_getElem? hz'))
        have e1 : zs.getD j 0 = z := by simp [List.getD, hz']
        rw [e1]
        simp only [Function.comp_apply, Int.toNat_of_nonneg hb.1]
    . intro x hx
      obtain ⟨z, hz', rfl⟩ := List.mem_map.1 hx
      have hb := bounds_u64 (hwz z (List.mem_of_mem_take hz'))
      omega
    . rw [hlen]
      rw [hx.1] at hw
      have h2 := hw _ (by simp only [DataW.weights, Tryz.underlying25]; exact List.mem_cons_self)
      rw [bytesU64] at h2
      have h3 : (lits IntKind.u64 (zs.take len) : List (DataW H)).length = len := by simp [lits]; omega
      rw [h3] at h2
      have h4 := reachBytes_lt
      omega
end
end Go.Proofs.YtjiopaojhenanaaGreatDoor.Cir
