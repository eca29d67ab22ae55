import Derived.Test.YtnghfdnlcnocjaaGreatDoorE6e7ce4bf
set_option maxRecDepth 100000
set_option maxHeartbeats 1000000
namespace Go.Proofs.YtnghfdnlcnocjaaGreatDoor.Cir
open Go.RowKit Go.Shelf Go.Proofs.YtnghfdnlcnocjaaGreatDoor.Oct Go.Proofs.YtnghfdnlcnocjaaGreatDoor.Tok Go.Proofs.YtnghfdnlcnocjaaGreatDoor.Gt
def PL (B0 : Nat) (ao : Option Addr) (w : World) (ops : List COp) (e : Ending) (w' : World) : Prop := ∃ ao' n' c', e = .returned (.slice ao' n' c') /\ OpsAt w' B0 ao' n' c' ops /\ Kb (ob ao).toList w w' /\ ∀ b, ob ao' = some b -> ob ao = some b ∨ w.heap.size <= b
def LayOk (bit : Int) (whn B0 d : Nat) : Prop := ∀ (B C : Nat) (sa : Option Addr) (k cs : Nat) (l : List PO) (aq : Option Addr) (cq : Nat) (qs : List Nat) (ao : Option Addr) (no co : Nat) (ops : List COp) (w : World), B0 <= w.heap.size -> qs.length <= 4398046511104 -> SpAt d w B C qs.length (.slice sa k cs) k l -> Is w (.slice aq qs.length cq) qs -> OpsAt w B0 ao no co ops -> ops.length + l.length <= 4096 ->
  Calls Tryz.prog 122 #[.slice ao no co, .slice sa k cs, .slice aq qs.length cq, .agg #[.int .i64 bit, .int .i64 (whn : Int)]] w (PL B0 ao w (ops ++ layP (bit, whn) l qs))
theorem SpAt.sl {w : World} {B C : Nat} : ∀ (d n : Nat) (v : Value) (k : Nat) (l : List PO), SpAt d w B C n v k l -> ∃ ao c, v = .slice ao k c
  | 0, _, _, _, _, ⟨e, _, ao, c, h⟩ => ⟨ao, c, by rw [h, e]⟩
  | _ + 1, _, _, _, _, ⟨ao, c, _, e1, e2, _⟩ => ⟨ao, c, by rw [e1, e2]⟩
theorem flat_ge (ss : List Sx) (h : ∀ s ∈ ss, 0 < s.ops.length) : ss.length <= (ss.flatMap Sx.ops).length := by
  induction ss with
  | nil => simp
  | cons b r ih =>
    rw [List.flatMap_cons, List.length_append, List.length_cons]
    have h1 := h b List.mem_cons_self
    have h2 := ih (fun s hs => h s (List.mem_cons_of_mem _ hs))
    omega
theorem SpAt.ge {w : World} {B C : Nat} : ∀ (d n : Nat) (v : Value) (k : Nat) (l : List PO), SpAt d w B C n v k l -> k <= l.length
  | 0, _, _, _, _, ⟨e, _⟩ => by rw [e]; exact Nat.zero_le _
  | d + 1, n, v, k, l, ⟨ao, c, ss, e1, e2, e3, e4, e5⟩ => by
    rw [e2, e3]
    refine flat_ge ss fun s hs => ?_
    obtain ⟨ns, a1, a2, a3, a4⟩ := e4 s hs
    rcases a4 with ⟨_, a4⟩ | ⟨k', l', b1, b2, b3⟩
    . rw [a4]; exact Nat.one_pos
    . rw [b3, List.length_map]
      have := SpAt.ge d _ _ _ _ b2
      omega
theorem Kb.via {M N : List Nat} {a w w' : World} (h : Kb M a w) (k : Kb N w w') (hn : ∀ m, m ∈ N -> m ∈ M ∨ a.heap.size <= m) : Kb M a w' :=
  ⟨k.os.trans h.os, k.tape.trans h.tape, k.output.trans h.output, Nat.le_trans h.size k.size, fun b hb hm => (k.block b (Nat.lt_of_lt_of_le hb h.size) (fun e => by rcases hn b e with e | e; exact hm e; omega)).trans (h.block b hb hm)⟩
theorem take_flat (ss : List Sx) (i : Nat) (s : Sx) (h : ss[i]? = some s) : (ss.take (i + 1)).flatMap Sx.ops = (ss.take i).flatMap Sx.ops ++ s.ops := by
  rw [List.take_add_one, h, List.flatMap_append]
  simp
theorem flat_le (ss : List Sx) (i : Nat) : ((ss.take i).flatMap Sx.ops).length <= (ss.flatMap Sx.ops).length := by
  have e : (ss.flatMap Sx.ops) = (ss.take i).flatMap Sx.ops ++ (ss.drop i).flatMap Sx.ops := by rw [← List.flatMap_append, List.take_append_drop]
  rw [e, List.length_append]
  omega
theorem sx_at (ss : List Sx) (k : Nat) (s : Sx) (h : ss[k]? = some s) (j : Nat) (u : Value) (hu : s.cells[j]? = some u) : (ss.flatMap Sx.cells)[k * 4 + j]? = some u := by
  induction ss generalizing k with
  | nil => simp at h
  | cons b r ih =>
    cases k with
    | zero =>
      simp at h
      subst h
      rw [List.flatMap_cons, Nat.zero_mul, Nat.zero_add, List.getElem?_append_left (List.getElem?_eq_some_iff.1 hu).1]
      exact hu
    | succ k =>
      have hl : b.cells.length = 4 := rfl
      rw [List.flatMap_cons, List.getElem?_append_right (by omega), hl, show (k + 1) * 4 + j - 4 = k * 4 + j by omega]
      exact ih k (by simpa using h)
theorem safe_ops {w : World} {B0 : Nat} {ao : Option Addr} {no co : Nat} {ops : List COp} (h : OpsAt w B0 ao no co ops) (B C : Nat) : ∀ m, m ∈ (ob ao).toList -> ∀ cs t fr, w.heap[m]? = some (.cells cs t fr) -> (t = 3 -> C <= m) /\ (t = 222 -> B <= m) := by
  intro m hm cs t fr hg
  have hk : ob ao = some m := by simpa using hm
  obtain ⟨xs, _, _, h3, _⟩ := h
  obtain ⟨cs', fr', hg'⟩ := own_cells' h3 hk
  rw [hg] at hg'
  simp only [Option.some.injEq, Obj.cells.injEq] at hg'
  rw [hg'.2.1]
  exact ⟨fun e => absurd e (by decide), fun e => absurd e (by decide)⟩
theorem st_cells {wr w1 : World} {x0 x1 x2 x3 : Value} {t : TypeId} (hb : Below (wr.alloc (.cells #[x0, x1, x2, x3] t)).heap.size (wr.alloc (.cells #[x0, x1, x2, x3] t)) w1) :
    w1.cell? ⟨wr.heap.size, 0, none⟩ = some x0 /\ w1.cell? ⟨wr.heap.size, 1, none⟩ = some x1 /\ w1.cell? ⟨wr.heap.size, 2, none⟩ = some x2 /\ w1.cell? ⟨wr.heap.size, 3, none⟩ = some x3 /\ wr.heap.size < w1.heap.size := by
  have h : w1.heap[wr.heap.size]? = some (.cells #[x0, x1, x2, x3] t (0, 0)) := (hb.block _ (by simp)).trans (heap_alloc_new _ _)
  exact ⟨cell_of_row _ _ 0 _ _ _ h, cell_of_row _ _ 1 _ _ _ h, cell_of_row _ _ 2 _ _ _ h, cell_of_row _ _ 3 _ _ _ h, (Array.getElem?_eq_some_iff.1 h).1⟩
theorem cd_cells {w1 : World} {c : Nat} {a b : Value} {t : TypeId} (h : w1.heap[c]? = some (.cells #[a, b] t (0, 0))) : w1.cell? ⟨c, 0, none⟩ = some a /\ w1.cell? ⟨c, 1, none⟩ = some b /\ c < w1.heap.size :=
  ⟨cell_of_row _ _ 0 _ _ _ h, cell_of_row _ _ 1 _ _ _ h, (Array.getElem?_eq_some_iff.1 h).1⟩
theorem lay_step (bit : Int) (whn B0 d : Nat) (IH : d = 0 ∨ LayOk bit whn B0 d) : LayOk bit whn B0 (d + 1) := by
  intro B C sa k cs l aq cq qs ao no co ops w hB0 hql hS hQ hO hlen
  have hge0 := SpAt.ge _ _ _ _ _ hS
  obtain ⟨ao1, c1, ss, e1, e2, e3, e4, e5⟩ := hS
  simp only [Value.slice.injEq] at e1
  obtain ⟨rfl, rfl, rfl⟩ := e1
  have hsO := safe_ops hO
  have hso : ∀ b, ob ao = some b -> b < w.heap.size := fun b hb => by obtain ⟨xs, _, _, h3, _⟩ := hO; exact (own_lt h3 b hb).2
  have HO := hide hO
  obtain ⟨k, hk⟩ : ∃ k, ss.length = k := ⟨_, rfl⟩
  have HK := hide hk
  have HL := hide e3
  have HE4 := hide e4
  have HE5 := hide e5
  have hkb : k <= 4096 := by
    have hge := hge0
    rw [hk] at hge
    omega
  rw [hk]
  clear e3 e4 e5 hk hO
  go_enter Tryz.func122, Tryz.ntmps122
  go_wp2_with fail
  go_loopw [0, 14] (fun vo vi wr => ∃ (i : Nat) (ao' : Option Addr) (n' c' : Nat), vo = .slice ao' n' c' /\ vi = .int .i64 (i : Int) /\ i <= k /\ OpsAt wr B0 ao' n' c' (ops ++ layP (bit, whn) ((ss.take i).flatMap Sx.ops) qs) /\ Kb (ob ao).toList w wr /\ (∀ b, ob ao' = some b -> ob ao = some b ∨ w.heap.size <= b) /\ wr.heap[w.heap.size]? = some (.cells #[.int .i64 bit, .int .i64 (whn : Int)] 160 (0, 0))) (fun _ vi _ => k - (Go.RowKit.intOf vi).toNat)
  case atStart => exact ⟨0, ao, no, co, rfl, rfl, Nat.zero_le _, by simpa [layP] using HO.out.below (bnew _ _), (Kb.refl _ _).alloc _, fun b hb => .inl hb, heap_alloc_new _ _⟩
  case round =>
    obtain ⟨i, ao', n', c', rfl, rfl, hi, hOi, hKi, hbi, hbx⟩ := hrel
    by_cases h : i < k
    . have hdd : decide ((i : Int) < (k : Int)) = true := decide_eq_true (by omega)
      obtain ⟨s, hs⟩ : ∃ s, ss[i]? = some s := ⟨_, List.getElem?_eq_getElem (by rw [HK.out]; exact h)⟩
      obtain ⟨ns, a1, a2, a3, a4⟩ := HE4.out s (List.mem_of_getElem? hs)
      obtain ⟨g, off, cs, fr, rfl, hgB, hg, hcs⟩ : ∃ g off cs fr, sa = some ⟨g, off, none⟩ /\ g < B /\ w.heap[g]? = some (.cells cs 222 fr) /\ ∀ j u, (ss.flatMap Sx.cells)[j]? = some u -> cs[off + j]? = some u := by
        rcases HE5.out with e | e
        . rw [e] at hs; simp at hs
        . exact e
      have hgM : g ∉ (ob ao).toList := fun e => by have := (hsO B C g e _ _ _ hg).2 rfl; omega
      have hgr : wr.heap[g]? = some (.cells cs 222 fr) := (hKi.block g (Array.getElem?_eq_some_iff.1 hg).1 hgM).trans hg
      have hgl : g < wr.heap.size := (Array.getElem?_eq_some_iff.1 hgr).1
      have k0 : wr.cell? ⟨g, off + i * 4, none⟩ = some (iv s.kind) := (cell_of_row _ _ _ _ _ _ hgr).trans (by simpa using hcs _ _ (sx_at ss i s hs 0 _ rfl))
      have k1 : wr.cell? ⟨g, off + i * 4 + 1, none⟩ = some (iv s.gate) := (cell_of_row _ _ _ _ _ _ hgr).trans (by simpa [Nat.add_assoc] using hcs _ _ (sx_at ss i s hs 1 _ rfl))
      have k2 : wr.cell? ⟨g, off + i * 4 + 2, none⟩ = some s.inner := (cell_of_row _ _ _ _ _ _ hgr).trans (by simpa [Nat.add_assoc] using hcs _ _ (sx_at ss i s hs 2 _ rfl))
      have k3 : wr.cell? ⟨g, off + i * 4 + 3, none⟩ = some s.nm := (cell_of_row _ _ _ _ _ _ hgr).trans (by simpa [Nat.add_assoc] using hcs _ _ (sx_at ss i s hs 3 _ rfl))
      have hN : Is wr s.nm ns := (a1.block (fun b hC _ _ hb => hKi.block b (Array.getElem?_eq_some_iff.1 hb).1 (fun e => by have := (hsO B C b e _ _ _ hb).1 rfl; omega))).is
      have hQr : Is wr (.slice aq qs.length cq) qs := hQ.block (fun b _ _ hb => hKi.block b (Array.getElem?_eq_some_iff.1 hb).1 (fun e => by have := (hsO B (b + 1) b e _ _ _ hb).1 rfl; omega))
      have hT := take_flat ss i s hs
      have hL1 := flat_le ss (i + 1)
      have hL0 := flat_le ss i
      rw [← HL.out] at hL1 hL0
      have hni : n' <= 4096 := by rw [hOi.len, List.length_append]; unfold layP; rw [List.length_map]; omega
      have hsz := hKi.size
      obtain ⟨kind, gate, inner, nm, sops⟩ := s
      simp only at k0 k1 k2 k3 hN hT a4
      unfold iv at k0 k1
      obtain ⟨an, cn, rfl⟩ := hN.sl
      have hpl : (pk qs ns).length = ns.length := by simp [pk]
      have c1 := fun w' (hb : Below wr.heap.size wr w') => cPick aq an cq cn qs ns (by omega) a2 w' (hQr.below hb) (hN.below hb)
      clear hcs hgr hs
      rw [hT] at hL1
      have hT' : ops ++ layP (bit, whn) ((ss.take (i + 1)).flatMap Sx.ops) qs = (ops ++ layP (bit, whn) ((ss.take i).flatMap Sx.ops) qs) ++ layP (bit, whn) sops qs := by rw [hT]; unfold layP; rw [List.map_append, List.append_assoc]
      have HT := hide hT'
      clear hT hT'
      generalize hEI : ops ++ layP (bit, whn) ((ss.take i).flatMap Sx.ops) qs = opsI at *
      have hlx : wr.heap.size > w.heap.size := (Array.getElem?_eq_some_iff.1 hbx).1
      rcases a4 with ⟨⟨ai, ci, rfl⟩, rfl⟩ | ⟨k', l', b1, b2, rfl⟩
      . by_cases hk1 : kind = 1
        . subst hk1
          have k0' : wr.cell? ⟨g, off + i * 4, none⟩ = some (.int .i64 1) := k0
          clear k0
          go_wp2_with (first
            | (go_at_call 143; refine (c1 _ (bnew _ _)).mono ?_; rintro e w1 ⟨g1, rfl, hI1, hg1, hb1⟩; have hz1 := hb1.size; obtain ⟨x0, x1, x2, x3, hx⟩ := st_cells hb1; have hbx1 := (hb1.block w.heap.size (by simp; omega)).trans ((Below.heap_alloc wr (.cells #[.int .i64 1, .int .i64 (gate : Int), .slice ai 0 ci, .slice an ns.length cn] 222) w.heap.size hlx).trans hbx); obtain ⟨y0, y1, hy⟩ := cd_cells hbx1; have hO1 := (hOi.below (bnew wr (.cells #[.int .i64 1, .int .i64 (gate : Int), .slice ai 0 ci, .slice an ns.length cn] 222))).below hb1)
            | (at_builtin; refine push rfl _ _ 22 rfl 34 Tryz.underlying22 _ 6 64 infoOp rfl (by decide) B0 ao' n' c' _ rfl hO1.choose_spec.2.2.1 [.int .i64 1, .int .i64 (gate : Int), .slice (some ⟨g1, 0, none⟩) ns.length ns.length, .int .i64 0, .int .i64 bit, .int .i64 (whn : Int)] _ rfl rfl (by simp [Value.oneCell']) _ rfl rfl (by omega) (by omega) (by simp at hz1; omega) ?_))
          intro g6 cap w6 hown6 hgrow6 hat6
          go_wp2_with fail
          go_roundw
          case rel =>
            refine ⟨i + 1, some ⟨g6, 0, none⟩, n' + 1, cap, rfl, by go_num, by omega, ?_, ?_, ?_, ?_⟩
            . rw [HT.out]
              have := hO1.push (layO (bit, whn) qs ⟨1, gate, ns⟩) (.slice (some ⟨g1, 0, none⟩) ns.length ns.length) (by simpa [layO] using hI1.int (Nat.le_refl _)) hgrow6 (by simpa [layO, opC] using hown6)
              simpa [layP] using this
            . exact (((hKi.alloc _).then_below hb1).grown hgrow6 (fun b hb => by rcases hbi b hb with e | e; exact .inl (by simp [e]); exact .inr e))
            . intro b hb
              cases hb
              rcases hat6 with e | e
              . exact hbi _ e
              . exact .inr (show w.heap.size <= g6 by omega)
            . exact (hgrow6.block w.heap.size hy (own_ne hO1.choose_spec.2.2.1 hbx1 (by decide)).symm).trans hbx1
          case measure => simp [Go.RowKit.intOf]; omega
        . have e1 : ((kind : Int) == 1) = false := by simp; omega
          have e2 : decide ((kind : Int) = 1) = false := by simp; omega
          go_wp2_with (first
            | (go_at_call 143; refine (c1 _ (bnew _ _)).mono ?_; rintro e w1 ⟨g1, rfl, hI1, hg1, hb1⟩; have hz1 := hb1.size; obtain ⟨x0, x1, x2, x3, hx⟩ := st_cells hb1; have hbx1 := (hb1.block w.heap.size (by simp; omega)).trans ((Below.heap_alloc wr (.cells #[.int .i64 (kind : Int), .int .i64 (gate : Int), .slice ai 0 ci, .slice an ns.length cn] 222) w.heap.size hlx).trans hbx); obtain ⟨y0, y1, hy⟩ := cd_cells hbx1; have hO1 := (hOi.below (bnew wr (.cells #[.int .i64 (kind : Int), .int .i64 (gate : Int), .slice ai 0 ci, .slice an ns.length cn] 222))).below hb1)
            | (at_builtin; refine push rfl _ _ 22 rfl 34 Tryz.underlying22 _ 6 64 infoOp rfl (by decide) B0 ao' n' c' _ rfl hO1.choose_spec.2.2.1 [.int .i64 (kind : Int), .int .i64 0, .slice (some ⟨g1, 0, none⟩) ns.length ns.length, .int .i64 0, .int .i64 (-1), .int .i64 0] _ rfl rfl (by simp [Value.oneCell']) _ rfl rfl (by omega) (by omega) (by simp at hz1; omega) ?_))
          intro g6 cap w6 hown6 hgrow6 hat6
          go_wp2_with fail
          go_roundw
          case rel =>
            refine ⟨i + 1, some ⟨g6, 0, none⟩, n' + 1, cap, rfl, by go_num, by omega, ?_, ?_, ?_, ?_⟩
            . rw [HT.out]
              have := hO1.push (layO (bit, whn) qs ⟨kind, gate, ns⟩) (.slice (some ⟨g1, 0, none⟩) ns.length ns.length) (by simpa [layO, hk1] using hI1.int (Nat.le_refl _)) hgrow6 (by simpa [layO, opC, hk1] using hown6)
              simpa [layP] using this
            . exact (((hKi.alloc _).then_below hb1).grown hgrow6 (fun b hb => by rcases hbi b hb with e | e; exact .inl (by simp [e]); exact .inr e))
            . intro b hb
              cases hb
              rcases hat6 with e | e
              . exact hbi _ e
              . exact .inr (show w.heap.size <= g6 by omega)
            . exact (hgrow6.block w.heap.size hy (own_ne hO1.choose_spec.2.2.1 hbx1 (by decide)).symm).trans hbx1
          case measure => simp [Go.RowKit.intOf]; omega
      . obtain ⟨ai, ci, rfl⟩ := SpAt.sl _ _ _ _ _ b2
        have hgt : decide ((k' : Int) > 0) = true := decide_eq_true (by omega)
        have hgt2 : decide ((0 : Int) < (k' : Int)) = true := decide_eq_true (by omega)
        have hdd0 : d ≠ 0 := fun e => by subst e; have := b2.1; omega
        have hI : LayOk bit whn B0 d := by rcases IH with e | e; exact absurd e hdd0; exact e
        have hbd : l'.length + opsI.length <= 4096 := by
          rw [← hEI, List.length_append]
          unfold layP
          rw [List.length_map]
          rw [List.length_append, List.length_map] at hL1
          omega
        have hSr : SpAt d wr B C ns.length (.slice ai k' ci) k' l' := b2.kept hKi (hsO B C)
        have hbd2 := SpAt.bd _ _ _ _ _ b2
        have c2 := fun w1 g1 (hb : Below wr.heap.size wr w1) (hI1 : Is w1 (.slice (some ⟨g1, 0, none⟩) ns.length ns.length) (pk qs ns)) (hO1 : OpsAt w1 B0 ao' n' c' opsI) => hI B C ai k' ci l' (some ⟨g1, 0, none⟩) ns.length (pk qs ns) ao' n' c' opsI w1 (by have := hb.size; omega) (by omega) (by rw [hpl]; exact hSr.below hb) (by rw [hpl]; exact hI1) hO1 (by omega)
        rw [hpl] at c2
        have hlo := lay_on (bit, whn) qs ns l' hbd2
        have HLO := hide hlo
        clear hlo hSr b2 hbd2
        go_wp2_with (first
          | (go_at_call 143; refine (c1 _ (bnew _ _)).mono ?_; rintro e w1 ⟨g1, rfl, hI1, hg1, hb1⟩; have hz1 := hb1.size; obtain ⟨x0, x1, x2, x3, hx⟩ := st_cells hb1; have hbx1 := (hb1.block w.heap.size (by simp; omega)).trans ((Below.heap_alloc wr (.cells #[.int .i64 (kind : Int), .int .i64 (gate : Int), .slice ai k' ci, .slice an ns.length cn] 222) w.heap.size hlx).trans hbx); obtain ⟨y0, y1, hy⟩ := cd_cells hbx1; have hO1 := (hOi.below (bnew wr (.cells #[.int .i64 (kind : Int), .int .i64 (gate : Int), .slice ai k' ci, .slice an ns.length cn] 222))).below hb1)
          | (go_at_call 122; refine (c2 w1 g1 ((bnew _ _).trans (hb1.mono (by simp))) hI1 hO1).mono ?_; rintro e w2 ⟨ao2, n2, c2', rfl, hO2, hk2, hb2⟩))
        go_roundw
        case rel =>
          refine ⟨i + 1, ao2, n2, c2', rfl, by go_num, by omega, ?_, ?_, ?_, ?_⟩
          . rw [HT.out, HLO.out]
            exact hO2
          . exact ((hKi.alloc _).then_below hb1).via hk2 (fun b hb => by have hb' : ob ao' = some b := by simpa using hb
                                                                         rcases hbi b hb' with e | e; exact .inl (by simp [e]); exact .inr e)
          . intro b hb
            rcases hb2 b hb with e | e
            . exact hbi b e
            . exact .inr (by simp at hz1; omega)
          . exact (hk2.block w.heap.size hy (fun e => own_ne hO1.choose_spec.2.2.1 hbx1 (by decide) (by simpa using e))).trans hbx1
        case measure => simp [Go.RowKit.intOf]; omega
    . obtain rfl : k = i := by omega
      go_wp2_with fail
      go_ret
      rw [List.take_of_length_le (by rw [HK.out]; exact Nat.le_refl _), ← HL.out] at hOi
      exact ⟨ao', n', c', rfl, hOi, hKi, hbi⟩
theorem cLay (bit : Int) (whn B0 : Nat) : ∀ d, LayOk bit whn B0 (d + 1)
  | 0 => lay_step bit whn B0 0 (.inl rfl)
  | d + 1 => lay_step bit whn B0 (d + 1) (.inr (cLay bit whn B0 d))
end Go.Proofs.YtnghfdnlcnocjaaGreatDoor.Cir
