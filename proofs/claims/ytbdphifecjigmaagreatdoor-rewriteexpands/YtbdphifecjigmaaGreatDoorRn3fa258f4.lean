import Derived.Test.YtbdphifecjigmaaGreatDoorRn18a2eb80
namespace Go.Proofs.YtbdphifecjigmaaGreatDoor.Gt
end Go.Proofs.YtbdphifecjigmaaGreatDoor.Gt
namespace Go.Proofs.YtbdphifecjigmaaGreatDoor.Oct
end Go.Proofs.YtbdphifecjigmaaGreatDoor.Oct
namespace Go.Proofs.YtbdphifecjigmaaGreatDoor.Tok
end Go.Proofs.YtbdphifecjigmaaGreatDoor.Tok
set_option maxRecDepth 100000
set_option maxHeartbeats 2000000
namespace Go.Proofs.YtbdphifecjigmaaGreatDoor.Cir
open Go.RowKit Go.Shelf Go.Proofs.YtbdphifecjigmaaGreatDoor.Oct Go.Proofs.YtbdphifecjigmaaGreatDoor.Tok Go.Proofs.YtbdphifecjigmaaGreatDoor.Gt
theorem run_app_none (ao : Option Addr) (c ty : Nat) (w : World) : (Builtin.append_ #[38, 38] ty #[.slice none 0 0, .slice ao 0 c]).run Tryz.prog w = .ok (.slice none 0 0) w := by
  obtain ⟨i0, hi, hz0, hz1, hz2⟩ := info_parts Gt.infoI
  have ht := Tryz.underlying38
  cases ao <;> simp [Builtin.append_, run_underlying ht, sizeOf, typeInfo, hi, Builtin.lenOf, Builtin.firstCells, loadCells, loadCellsFrom]
theorem app_row {ops : Array Oper} {rest : List Oper} {o : Oper} {a : Act} {Q : Exit -> Act -> World -> Prop} {w : World} (hgd : o.guard = none) (s x : Operand)
    (ho : o.op = .call { callee := .builtin .append, args := #[s, x], argTypes := #[38, 38] }) (hs : a.eval s = .slice none 0 0)
    (ao : Option Addr) (c : Nat) (l : List Int) (n : Nat) (hn : l.length = n) (hx : a.eval x = .slice ao n c) (hN : Ns w ao l) (hl : n <= 17592186044416)
    (h : ∀ ao' c' w', RowO w' w.heap.size (.slice ao' n c') l -> Below w.heap.size w w' -> wpList Tryz.prog ops Q rest (a.put o.dst (.slice ao' n c')) w') : wpList Tryz.prog ops Q (o :: rest) a w := by
  obtain ⟨i0, hi, hz0, hz1, hz2⟩ := info_parts Gt.infoI
  subst hn
  by_cases h0 : 0 < l.length
  . have hne : l ≠ [] := fun e => by rw [e] at h0; simp at h0
    obtain ⟨g, off, rfl, hc⟩ := hN.resolve_left hne
    refine wpList_append_lies w hgd s x 38 ho w.heap.size 3 i0 (.int .i64 0) 1 8 Tryz.underlying38 hi hz0 hz1 hz2 rfl (by decide) _ 0 [] hs ⟨rfl, .inl ⟨rfl, rfl⟩⟩ ⟨g, off, none⟩ l.length c (l.map (Value.int .i64)) hx (by simp) (fun j u hu => ?_) (fun u hu => ?_) h0 (by unfold maxLen; omega) (by omega) (Nat.le_refl _) _ rfl ?_
    . rw [Addr.add_lit]
      rw [List.getElem?_map] at hu
      obtain ⟨z, hz, rfl⟩ := Option.map_eq_some_iff.1 hu
      exact hc j z hz
    . obtain ⟨z, _, rfl⟩ := List.mem_map.1 hu
      rfl
    . intro g2 cap w2 hown2 hgrow hat hlt
      simp only [Nat.zero_add, List.nil_append] at hown2 ⊢
      exact h _ _ w2 ⟨_, _, rfl, hown2⟩ ((Below.refl _ _).grown hgrow (Nat.le_refl _) (fun q hq => by simp [Value.ownBlock] at hq))
  . obtain rfl : l = [] := List.length_eq_zero_iff.1 (by omega)
    refine wpList_plain hgd fun K hK => ?_
    have hrun := fun ty => run_app_none ao c ty w
    have hx' : a.eval x = .slice ao 0 c := hx
    unfold Oper.wp
    simp [execOp, ho, resolve, invoke, builtin, hs, hx', hrun, Result.andThen]
    exact hK _ _ (h none 0 w ⟨_, _, rfl, rfl, .inl ⟨rfl, rfl⟩⟩ (Below.refl _ _))
theorem OpsOwn.push {w w' : World} {B : Nat} {ao : Option Addr} {n c : Nat} {ops : List COp} {xs : List (COp × Value)} (h1 : n = xs.length) (h2 : ops = xs.map (·.1)) (h3 : w.ownsRow B 40 6 (.slice ao n c) n (xs.flatMap opC)) (h4 : ∀ x ∈ xs, RowO w B x.2 x.1.qs) (h5 : Pw xs) (op : COp) (v : Value) (hv : RowO w B v op.qs) (hnew : ∀ x ∈ xs, ∀ g, x.2.ownBlock = some g -> v.ownBlock = some g -> False) {g cap : Nat} (hg : w.grownBy w' (ob ao))
    (ho : w'.ownsRow B 40 6 (.slice (some ⟨g, 0, none⟩) (n + 1) cap) (n + 1) (xs.flatMap opC ++ opC (op, v))) : OpsOwn w' B (some ⟨g, 0, none⟩) (n + 1) cap (ops ++ [op]) := by
  have hno : ∀ (b : Nat) (cs : Array Value) (fr : Nat × Nat), w.heap[b]? = some (Obj.cells cs 3 fr) -> w'.heap[b]? = w.heap[b]? := fun b cs fr hb => hg.block b (Array.getElem?_eq_some_iff.1 hb).1 (own_ne h3 hb (by decide)).symm
  refine ⟨xs ++ [(op, v)], by rw [List.length_append, ← h1]; rfl, by rw [List.map_append, ← h2]; rfl, by rw [List.flatMap_append]; simpa using ho, fun x hx => ?_, h5.snoc hnew⟩
  rcases List.mem_append.1 hx with e | e
  . exact (h4 x e).block hno
  . rw [List.mem_singleton] at e
    rw [e]
    exact hv.block hno
theorem eCopyO (c : Circ) (ao : Option Addr) (k : Nat) (hS : Szs c.ops) (w : World) (hC : Ci w c ao k) : Calls Tryz.prog 4 #[cV c ao k] w fun e w' => ∃ bo j, e = .returned (cV c bo j) /\ OpsOwn w' w.heap.size bo c.ops.length j c.ops /\ Below w.heap.size w w' := by
  have HO := hide hC.ops
  have HSm := hide hS.2
  have hsl := hS.1
  obtain ⟨q, b, ops⟩ := c
  unfold cV
  simp only at *
  obtain ⟨n, hn⟩ : ∃ n, ops.length = n := ⟨_, rfl⟩
  have HL := hide hn
  rw [hn] at hsl ⊢
  clear hn hC hS
  have hb0 : Below w.heap.size w (((w.alloc (.cells #[.int .i64 q, .int .i64 b, .slice ao n k] 24)).alloc (.cells #[.int .i64 0, .int .i64 0, .slice none 0 0] 24)).alloc (.cells #[.int .i64 q, .int .i64 b, .slice none 0 0] 24)) := ((bnew _ _).trans ((bnew _ _).mono (by simp))).trans ((bnew _ _).mono (by simp; omega))
  have HB0 := hide hb0
  have HD0 : Hid ((((w.alloc (.cells #[.int .i64 q, .int .i64 b, .slice ao n k] 24)).alloc (.cells #[.int .i64 0, .int .i64 0, .slice none 0 0] 24)).alloc (.cells #[.int .i64 q, .int .i64 b, .slice none 0 0] 24)).heap[w.heap.size]? = some (.cells #[.int .i64 q, .int .i64 b, .slice ao n k] 24 (0, 0)) /\ (((w.alloc (.cells #[.int .i64 q, .int .i64 b, .slice ao n k] 24)).alloc (.cells #[.int .i64 0, .int .i64 0, .slice none 0 0] 24)).alloc (.cells #[.int .i64 q, .int .i64 b, .slice none 0 0] 24)).heap[w.heap.size + 1]? = some (.cells #[.int .i64 0, .int .i64 0, .slice none 0 0] 24 (0, 0)) /\ (((w.alloc (.cells #[.int .i64 q, .int .i64 b, .slice ao n k] 24)).alloc (.cells #[.int .i64 0, .int .i64 0, .slice none 0 0] 24)).alloc (.cells #[.int .i64 q, .int .i64 b, .slice none 0 0] 24)).heap[w.heap.size + 1 + 1]? = some (.cells #[.int .i64 q, .int .i64 b, .slice none 0 0] 24 (0, 0))) := hide (by
    obtain ⟨m1, m2⟩ := may_keep (w := w) (bnew ((w.alloc (.cells #[.int .i64 q, .int .i64 b, .slice ao n k] 24)).alloc (.cells #[.int .i64 0, .int .i64 0, .slice none 0 0] 24)) (.cells #[.int .i64 q, .int .i64 b, .slice none 0 0] 24))
    refine ⟨m1, m2, ?_⟩
    have := heap_alloc_new ((w.alloc (.cells #[.int .i64 q, .int .i64 b, .slice ao n k] 24)).alloc (.cells #[.int .i64 0, .int .i64 0, .slice none 0 0] 24)) (.cells #[.int .i64 q, .int .i64 b, .slice none 0 0] 24)
    simpa using this)
  clear hb0
  go_enter Tryz.func4, Tryz.ntmps4
  go_wp2_with fail
  go_loopw [4] (fun vi wr => ∃ i : Nat, vi = .int .i64 (i : Int) /\ i <= n /\ Below w.heap.size w wr /\ wr.heap[w.heap.size]? = some (.cells #[.int .i64 q, .int .i64 b, .slice ao n k] 24 (0, 0)) /\ wr.heap[w.heap.size + 1]? = some (.cells #[.int .i64 0, .int .i64 0, .slice none 0 0] 24 (0, 0)) /\ ∃ (bo : Option Addr) (j : Nat), wr.heap[w.heap.size + 1 + 1]? = some (.cells #[.int .i64 q, .int .i64 b, .slice bo i j] 24 (0, 0)) /\ OpsOwn wr w.heap.size bo i j (ops.take i)) (fun vi _ => n - (Go.RowKit.intOf vi).toNat)
  case atStart => exact ⟨0, rfl, Nat.zero_le _, HB0.out, HD0.out.1, HD0.out.2.1, none, 0, HD0.out.2.2, [], rfl, by simp, ⟨rfl, .inl ⟨rfl, rfl⟩⟩, (fun _ h => absurd h List.not_mem_nil), List.Pairwise.nil⟩
  case round =>
    obtain ⟨i, rfl, hi, hb, hm0, hm1, bo, j, hm2, hO⟩ := hrel
    obtain ⟨p0, p1, p2, p3⟩ := def_cells hm0
    obtain ⟨r0, r1, r2, r3⟩ := def_cells hm2
    have HBr := hide hb
    have HM0 := hide hm0
    have HM1 := hide hm1
    have HM2 := hide hm2
    have HOw := hide hO
    obtain ⟨xs, h1, h2, h3, h4, h5⟩ := hO
    have H1 := hide h1
    have H2 := hide h2
    have H3 := hide h3
    have H4 := hide h4
    have H5 := hide h5
    clear h1 h2 h3 h4 h5
    by_cases h : i < n
    . have hd : decide ((i : Int) < (n : Int)) = true := decide_eq_true (by omega)
      have hkk : (i : Int) < (n : Int) := by omega
      obtain ⟨o, ho⟩ : ∃ o, ops[i]? = some o := ⟨_, List.getElem?_eq_getElem (by rw [HL.out]; exact h)⟩
      obtain ⟨g, off, aq, cq, rfl, hgl0, hoc0⟩ := HO.out.at ho
      have hoc := hoc0.below hb
      have hgl : g < wr.heap.size := Nat.lt_of_lt_of_le hgl0 hb.size
      have hq1 := HSm.out o (List.mem_of_getElem? ho)
      have k0 := hoc.kind
      have k1 := hoc.gate
      have k2 := hoc.qs
      have k3 := hoc.bit
      have k4 := hoc.cond
      have k5 := hoc.whn
      have HNS := hide hoc.ns
      have HOO := hide ho
      clear hoc hoc0 ho hb hm0 hm1 hm2
      obtain ⟨kind, gate, qs, bit, cond, whn⟩ := o
      simp only at k0 k1 k2 k3 k4 k5 hq1 HNS
      obtain ⟨m, hm⟩ : ∃ m, qs.length = m := ⟨_, rfl⟩
      have HQ := hide hm
      rw [hm] at k2 hq1
      clear hm
      go_wp2_with (at_builtin; refine app_row rfl _ _ rfl rfl aq cq qs m HQ.out rfl (HNS.out.below (bnew _ _)) hq1 ?_)
      intro ao3 c3 w3 hR3 hb3
      have hz3 := hb3.size
      simp only [World.size_alloc] at hz3
      have f0 := (hb3.block wr.heap.size (by simp)).trans (heap_alloc_new wr _)
      have HF0 := hide f0
      have HB3 := hide hb3
      have HR3 := hide hR3
      have fx : w3.cell? ⟨wr.heap.size, 2, none⟩ = some (.slice aq m cq) := by simp [World.cell?, f0]
      have ff : w3.frozen? ⟨wr.heap.size, 2, none⟩ = false := by simp [World.frozen?, f0]
      obtain ⟨t0, t1, -, t3, t4, t5⟩ : w3.cell? ⟨wr.heap.size, 0, none⟩ = some (.int .i64 kind) /\ w3.cell? ⟨wr.heap.size, 1, none⟩ = some (.int .i64 gate) /\ True /\ w3.cell? ⟨wr.heap.size, 3, none⟩ = some (.int .i64 bit) /\ w3.cell? ⟨wr.heap.size, 4, none⟩ = some (.int .i64 cond) /\ w3.cell? ⟨wr.heap.size, 5, none⟩ = some (.int .i64 whn) := by simp [World.cell?, f0]
      have hold : ∀ g, g < wr.heap.size -> w3.heap[g]? = wr.heap[g]? := fun g hg => (hb3.block g (by omega)).trans (Below.heap_alloc _ _ _ hg)
      have HOLD := hide hold
      obtain ⟨s0, s1, s2, s3⟩ := def_cells ((hold _ r3).trans HM2.out)
      have hXE : (w3.setCell ⟨wr.heap.size, 2, none⟩ (.slice ao3 m c3)) = w3.setRow wr.heap.size #[.int .i64 kind, .int .i64 gate, .slice ao3 m c3, .int .i64 bit, .int .i64 cond, .int .i64 whn] := by
        rw [setCell_eq_setRow _ _ 2 _ _ _ _ f0]
        rfl
      have HX : Hid ((w3.setCell ⟨wr.heap.size, 2, none⟩ (.slice ao3 m c3)).ownsRow w.heap.size 40 6 (.slice bo i j) i (xs.flatMap opC)) := hide (own_of_block H3.out fun g' hg' => (Below.heap_setCell _ _ _ _ (by have := (own_lt H3.out g' hg').2; show g' ≠ wr.heap.size; omega)).trans (hold g' (own_lt H3.out g' hg').2))
      have HXW : Hid (∀ x ∈ xs, RowO (w3.setCell ⟨wr.heap.size, 2, none⟩ (.slice ao3 m c3)) w.heap.size x.2 x.1.qs) := hide (fun x hx => (H4.out x hx).block (fun b' cs fr hbb => by
        have hl := (Array.getElem?_eq_some_iff.1 hbb).1
        exact (Below.heap_setCell _ _ _ _ (by show b' ≠ wr.heap.size; omega)).trans (hold b' hl)))
      have HXR : Hid (RowO (w3.setCell ⟨wr.heap.size, 2, none⟩ (.slice ao3 m c3)) w.heap.size (.slice ao3 m c3) qs) := hide (by
        rw [hXE]
        refine (HR3.out.base (by omega)).block (fun b' cs fr hbb => setRow_other _ _ _ _ (fun e => ?_))
        subst e
        rw [f0] at hbb
        simp at hbb)
      have HXN : Hid (∀ x ∈ xs, ∀ g', x.2.ownBlock = some g' -> (Value.slice ao3 m c3).ownBlock = some g' -> False) := hide (fun x hx g' hg1 hg2 => by
        have q2 := (HR3.out.lt hg2).1
        have q1 := ((H4.out x hx).lt hg1).2
        omega)
      have hXs : (w3.setCell ⟨wr.heap.size, 2, none⟩ (.slice ao3 m c3)).heap.size = w3.heap.size := by simp [World.setCell]
      have hx2 : (w3.setCell ⟨wr.heap.size, 2, none⟩ (.slice ao3 m c3)).cell? ⟨w.heap.size + 1 + 1, 2, none⟩ = some (.slice bo i j) := (World.cell?_of_block (w := w3) (Below.heap_setCell _ _ _ _ (by show w.heap.size + 1 + 1 ≠ wr.heap.size; omega))).trans s2
      obtain ⟨v0, v1, v2, v3, v4, v5⟩ : (w3.setCell ⟨wr.heap.size, 2, none⟩ (.slice ao3 m c3)).cell? ⟨wr.heap.size, 0, none⟩ = some (.int .i64 kind) /\ (w3.setCell ⟨wr.heap.size, 2, none⟩ (.slice ao3 m c3)).cell? ⟨wr.heap.size, 1, none⟩ = some (.int .i64 gate) /\ (w3.setCell ⟨wr.heap.size, 2, none⟩ (.slice ao3 m c3)).cell? ⟨wr.heap.size, 2, none⟩ = some (.slice ao3 m c3) /\ (w3.setCell ⟨wr.heap.size, 2, none⟩ (.slice ao3 m c3)).cell? ⟨wr.heap.size, 3, none⟩ = some (.int .i64 bit) /\ (w3.setCell ⟨wr.heap.size, 2, none⟩ (.slice ao3 m c3)).cell? ⟨wr.heap.size, 4, none⟩ = some (.int .i64 cond) /\ (w3.setCell ⟨wr.heap.size, 2, none⟩ (.slice ao3 m c3)).cell? ⟨wr.heap.size, 5, none⟩ = some (.int .i64 whn) := by
        rw [hXE]
        simp [World.cell?, setRow_heap _ _ _ _ _ _ f0]
      clear f0 hb3 hR3 hold hXE
      go_wp2_with (at_builtin; refine push rfl _ _ 22 rfl 40 Tryz.underlying22 _ 6 64 infoOp rfl (by decide) w.heap.size bo i j _ rfl HX.out [.int .i64 kind, .int .i64 gate, .slice ao3 m c3, .int .i64 bit, .int .i64 cond, .int .i64 whn] _ rfl rfl (by simp [Value.oneCell']) w3.heap.size hXs rfl (by omega) (by omega) (by rw [hXs]; omega) ?_)
      intro g6 cap w6 hown6 hgrow6 hat6
      have hz6 := hgrow6.size
      rw [hXs] at hz6
      have hcir : ∀ g' cs, g' < wr.heap.size -> wr.heap[g']? = some (.cells cs 24 (0, 0)) -> w6.heap[g']? = some (.cells cs 24 (0, 0)) := fun g' cs hl hg' => by
        have e1 : (w3.setCell ⟨wr.heap.size, 2, none⟩ (.slice ao3 m c3)).heap[g']? = some (.cells cs 24 (0, 0)) := (Below.heap_setCell _ _ _ _ (by show g' ≠ wr.heap.size; omega)).trans ((HOLD.out g' hl).trans hg')
        exact (hgrow6.block g' (by rw [hXs]; omega) (own_ne HX.out e1 (by decide)).symm).trans e1
      have n0 := hcir _ _ p3 HM0.out
      have n1 := hcir _ _ (by omega) HM1.out
      have n2 := hcir _ _ r3 HM2.out
      have HN0 := hide n0
      have HN1 := hide n1
      have HN2 := hide n2
      obtain ⟨z0, z1, z2, z3⟩ := def_cells n2
      have zf : w6.frozen? ⟨w.heap.size + 1 + 1, 2, none⟩ = false := by simp [World.frozen?, n2]
      have HO6 : Hid (OpsOwn w6 w.heap.size (some ⟨g6, 0, none⟩) (i + 1) cap (ops.take (i + 1))) := hide (by
        have := OpsOwn.push H1.out H2.out HX.out HXW.out H5.out ⟨kind, gate, qs, bit, cond, whn⟩ (.slice ao3 m c3) HXR.out HXN.out hgrow6 (by simpa [opC] using hown6)
        rw [List.take_add_one, HOO.out]
        exact this)
      have HB6 : Hid (Below w.heap.size w w6) := hide (by
        have e1 : Below w.heap.size w (w3.setCell ⟨wr.heap.size, 2, none⟩ (.slice ao3 m c3)) := ((HBr.out.trans ((bnew _ _).mono HBr.out.size)).trans (HB3.out.mono (by omega))).setCell (p := ⟨wr.heap.size, 2, none⟩) (by show w.heap.size <= wr.heap.size; omega) _
        exact e1.grown hgrow6 (by rw [hXs]; omega) (fun k' hk' => (own_lt HX.out k' hk').1))
      clear n0 n1 n2 hcir hown6 hgrow6 hat6
      go_wp2_with fail
      go_roundw
      case rel =>
        have e1 : (w6.setCell ⟨w.heap.size + 1 + 1, 2, none⟩ (.slice (some ⟨g6, 0, none⟩) (i + 1) cap)) = w6.setRow (w.heap.size + 1 + 1) #[.int .i64 q, .int .i64 b, .slice (some ⟨g6, 0, none⟩) (i + 1) cap] := by
          rw [setCell_eq_setRow _ _ 2 _ _ _ _ HN2.out]
          rfl
        refine ⟨i + 1, by go_num, by omega, ?_⟩
        rw [e1]
        exact ⟨Below.row HB6.out _ _ (by omega), (setRow_other _ _ _ _ (by omega)).trans HN0.out, (setRow_other _ _ _ _ (by omega)).trans HN1.out, some ⟨g6, 0, none⟩, cap, setRow_heap _ _ _ _ _ _ HN2.out, HO6.out.row HN2.out (by decide) (by decide) _⟩
      case measure => simp [Go.RowKit.intOf]; omega
    . obtain rfl : n = i := by omega
      obtain ⟨o0, o1, o2, o3⟩ := def_cells hm1
      have HF : Hid (OpsOwn wr w.heap.size bo n j ops) := hide (by
        have := HOw.out
        rwa [List.take_of_length_le (by rw [HL.out]; exact Nat.le_refl _)] at this)
      clear hb hm0 hm1 hm2 HOw
      go_wp2_with (refine wpList_store_row rfl _ _ _ rfl (w.heap.size + 1) _ rfl rfl _ _ HM1.out (by exact infoCi) (by rfl) (by simp [Value.oneCell']) ?_)
      refine bodyPost_ret (results_c rfl _ _ (w.heap.size + 1) _ _ _ _ rfl (setRow_heap _ _ _ _ _ _ HM1.out) Tryz.underlying24 rfl (by exact infoCi)) rfl ?_
      exact ⟨bo, j, rfl, HF.out.row HM1.out (by decide) (by decide) _, Below.row HBr.out _ _ (by omega)⟩
end Go.Proofs.YtbdphifecjigmaaGreatDoor.Cir
