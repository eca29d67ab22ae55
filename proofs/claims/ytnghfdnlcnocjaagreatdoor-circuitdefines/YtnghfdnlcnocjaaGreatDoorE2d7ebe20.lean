import Derived.Test.YtnghfdnlcnocjaaGreatDoorE5c49fa65
set_option maxRecDepth 100000
set_option maxHeartbeats 1000000
namespace Go.Proofs.YtnghfdnlcnocjaaGreatDoor.Cir
open Go.RowKit Go.Shelf Go.Proofs.YtnghfdnlcnocjaaGreatDoor.Oct Go.Proofs.YtnghfdnlcnocjaaGreatDoor.Tok Go.Proofs.YtnghfdnlcnocjaaGreatDoor.Gt
theorem keep_blk {w : World} {R B n c : Nat} {x : X} {o : Value} {ts : List T} {ao : Option Addr} {ops : List COp} (hR : Rt w R x o ts) (hO : OpsAt w B ao n c ops) {b : Nat} {cs : Array Value} {t : TypeId} {fr : Nat × Nat} (hb : w.heap[b]? = some (.cells cs t fr)) (h1 : t ≠ 68) (h2 : t ≠ 34) : b ∉ R :: (ob ao).toList := by
  intro h
  rcases List.mem_cons.1 h with e | e
  . obtain ⟨⟨v, hr, _⟩, _⟩ := hR
    unfold rbO at hr
    rw [e, hr] at hb
    simp only [Option.some.injEq, Obj.cells.injEq] at hb
    exact h1 hb.2.1.symm
  . obtain ⟨xs, _, _, h3, _⟩ := hO
    exact own_ne h3 hb h2 (by simpa using e)
theorem Rws.of_kept {w w' : World} {g n k : Nat} {f : Nat -> List Nat} (h : Rws w g n k f) (hk : ∀ (b : Nat) (cs : Array Value) (t : TypeId) (fr : Nat × Nat), w.heap[b]? = some (Obj.cells cs t fr) -> t ≠ 68 -> t ≠ 34 -> w'.heap[b]? = w.heap[b]?) : Rws w' g n k f := by
  obtain ⟨cur, h1, h2, h3⟩ := h
  refine ⟨cur, (hk g _ _ _ h1 (by decide) (by decide)).trans h1, h2, fun j hj => ?_⟩
  obtain ⟨v, e, hi⟩ := h3 j hj
  exact ⟨v, e, hi.block fun b _ _ hb => hk b _ _ _ hb (by decide) (by decide)⟩
theorem Rt.put8 {w : World} {R : Nat} {x : X} {o : Value} {ts : List T} (h : Rt w R x o ts) (o' : Value) : Rt (w.setCell ⟨R, 8, none⟩ o') R x o' ts := by
  obtain ⟨tcs, tfr, htb⟩ := h.btB
  obtain ⟨⟨v, hb, ht⟩, hf⟩ := h
  refine ⟨⟨v, ?_, ht.of_block (Below.heap_setCell _ _ _ _ (fun e => ?_))⟩, hf⟩
  . unfold rbO at hb ⊢
    rw [setCell_eq_setRow _ _ 8 _ _ _ _ hb]
    exact setRow_heap _ _ _ _ _ _ hb
  . have e' : x.bt = R := e
    rw [e', hb] at htb
    simp [rbO] at htb
def cO (on : Int × Nat) (l : List Ag) (g : List PO) (i : Nat) : List COp := ((List.range i).map fun k => l.map (atP k)).flatMap (layP on g)
theorem cO_succ (on : Int × Nat) (l : List Ag) (g : List PO) (i : Nat) : cO on l g (i + 1) = cO on l g i ++ layP on g (l.map (atP i)) := by
  unfold cO
  rw [List.range_succ, List.map_append, List.flatMap_append]
  simp
theorem cO_len (on : Int × Nat) (l : List Ag) (g : List PO) (i : Nat) : (cO on l g i).length = i * g.length := by
  induction i with
  | zero => simp [cO]
  | succ i ih => rw [cO_succ, List.length_append, ih, layP, List.length_map, Nat.succ_mul]
abbrev SL (gd gc : Nat) (s : Value) (x y : Int) (V : World) : Prop := V.cell? ⟨gd, 2, none⟩ = some s /\ V.cell? ⟨gc, 0, none⟩ = some (.int .i64 x) /\ V.cell? ⟨gc, 1, none⟩ = some (.int .i64 y)
theorem cCall_ok (w0 : World) (R : Nat) (L : Ly) (B N : Nat) (d : Dc) (ao : Option Addr) (no co : Nat) (ops : List COp) (t : T) (ts : List T) (bit : Int) (whn : Nat) (hTx : t.text.length <= 140737488355328) (w : World) (hD : Rdr w0 w R L B N d) (hR : Rt w R (xOf L d) (.slice ao no co) ts) (hO : OpsAt w w0.heap.size ao no co ops) (hno : ops.length <= 4096) (ops' : List COp) (ts' : List T) (hP : pCall d ops t (bit, whn) ts = .ok ops' ts') :
    Calls Tryz.prog 95 #[.pointer (some ⟨R, 0, none⟩), tkV t, .agg #[.int .i64 bit, .int .i64 (whn : Int)]] w (PC R L d w0.heap.size ao w (.ok ops' ts')) := by
  have hlt := hR.lt
  have eG := erG
  have eN := erN
  have HLN := hide hO.len
  have c4 := fun (V : World) (ts2 : List T) (n : Nat) (hn : no + n <= 4611686018427387904) (hr : Rt V R (xOf L d) (.slice ao no co) ts2) => cRoom R L d ao no co n t ts2 hn V hr
  have HC1 := hide (fun V (h : Below w.heap.size w V) => cCallee R L w0 B N d (.slice ao no co) ts t hTx ts V (hR.below h) (hD.below h))
  have HC2 := hide (fun V (h : Rdr w0 V R L B N d) (hr : Rt V R (xOf L d) (.slice ao no co) ts) => cArgs w0 R L B N d (.slice ao no co) ts V h hr)
  have c3 := fun W => cRefuse 85 t W
  have HRF := hide hR.fine
  unfold pCall at hP
  obtain ⟨kind, text, num, o', line, col⟩ := t
  unfold tkV at HC1 c3 c4 ⊢
  simp only at HC1 c3 c4 ⊢
  have HW1 : Hid (Below w.heap.size w ((w.alloc (.cells #[.int .i64 (kind : Int), .string ⟨text.toArray⟩, .int .i64 (num : Int), .int .i64 (o' : Int), .int .i64 (line : Int), .int .i64 (col : Int)] 100)).alloc (.cells #[.int .i64 bit, .int .i64 (whn : Int)] 160))) := hide ((bnew _ _).trans ((bnew _ _).mono (by simp)))
  have HW2 : Hid (∀ w2, Below ((w.alloc (.cells #[.int .i64 (kind : Int), .string ⟨text.toArray⟩, .int .i64 (num : Int), .int .i64 (o' : Int), .int .i64 (line : Int), .int .i64 (col : Int)] 100)).alloc (.cells #[.int .i64 bit, .int .i64 (whn : Int)] 160)).heap.size ((w.alloc (.cells #[.int .i64 (kind : Int), .string ⟨text.toArray⟩, .int .i64 (num : Int), .int .i64 (o' : Int), .int .i64 (line : Int), .int .i64 (col : Int)] 100)).alloc (.cells #[.int .i64 bit, .int .i64 (whn : Int)] 160)) w2 -> ∀ o2, Rdr w0 (w2.alloc o2) R L B N d /\ Rt (w2.alloc o2) R (xOf L d) (.slice ao no co) ts) := hide (fun w2 h o2 => by
    have hh : Below w.heap.size w (w2.alloc o2) := (HW1.out.trans (h.mono HW1.out.size)).trans ((bnew _ _).mono (Nat.le_trans HW1.out.size h.size))
    exact ⟨hD.below hh, hR.below hh⟩)
  have HO := hide hO
  have HR := hide hR
  cases h1 : pCallee d ⟨kind, text, num, o', line, col⟩ ts with
  | no c t => rw [h1] at hP; cases hP
  | ok g ts1 =>
    obtain rfl := pCallee_ok h1
    rw [h1] at hP HC1
    simp only at hP
    cases h2 : pArgs d ts1 with
    | no c t => rw [h2] at hP; cases hP
    | ok l ts2 =>
      rw [h2] at hP HC2
      simp only at hP
      have hbd := pArgs_bd hD.ok h2
      have HC3 := hide (fun (V : World) (aoA : Option Addr) (cA : Nat) (Bq : Nat) (h : V.ownsRow Bq 184 3 (.slice aoA l.length cA) l.length (l.flatMap agC)) (hl : l.length <= 4398046511104) => cRowOfCalls cA aoA l hl (fun a ha => by have := (hbd a ha).1; omega) (fun a ha => by have := (hbd a ha).1; omega) V (Asb.of_own h))
      cases h3 : callsP l with
      | none => rw [h3] at hP; cases hP
      | some calls =>
        rw [h3] at hP HC3
        simp only at hP
        obtain ⟨n, hn, hcl⟩ := callsP_ok h3
        have HN : Hid (∀ m, hmP 0 l = some m -> m = n) := hide (fun m h => by rw [hn] at h; cases h; rfl)
        have hlc : calls.length = n := by rw [hcl, List.length_map, List.length_range]
        by_cases h4 : l.length ≠ g.names
        . rw [if_pos h4] at hP; cases hP
        . rw [if_neg h4] at hP
          by_cases h5 : 4096 < ops.length + calls.length * g.ops.length
          . rw [if_pos h5] at hP; cases hP
          . rw [if_neg h5] at hP
            simp only [Res.ok.injEq] at hP
            obtain ⟨rfl, rfl⟩ := hP
            have e1 : ((l.length : Int) != (g.names : Int)) = false := by simp; omega
            have e2 : ((l.length : Int) == (g.names : Int)) = true := by simp; omega
            have H4 : Hid (l.length = g.names) := hide (by omega)
            rw [hlc] at h5
            have H5' : Hid (¬ 4096 < no + n * g.ops.length) := hide (by rw [HLN.out]; exact h5)
            have HEo : Hid (ops ++ calls.flatMap (layP (bit, whn) g.ops) = ops ++ cO (bit, whn) l g.ops n) := hide (by rw [hcl]; rfl)
            rw [HEo.out]
            have H5 := hide h5
            have hno2 : no <= 4096 := by rw [HLN.out]; exact hno
            clear h4 h5 hlc HEo
            go_enter Tryz.func95, Tryz.ntmps95
            go_wp2_with (first
              | (go_at_call 120; (with_reducible refine Calls.mono (HC1.out _ HW1.out) ?_); intro e w2 h2; obtain ⟨hb2, dd, aod, kd, md, rfl, hSp, hn1, hn2⟩ := h2.ok'; have HE2 := HW2.out w2 hb2 (.cells #[.int .i64 (g.names : Int), .int .i64 (g.ops.length : Int), .slice aod kd md] 174))
              | (go_at_call 117; (with_reducible refine Calls.mono (HC2.out _ HE2.1 HE2.2) ?_); rintro e w4 ⟨aoA, cA, rfl, hownA, hlA, hr4, hk4⟩)
              | (go_at_call 121; (with_reducible refine Calls.mono (HC3.out _ _ _ _ hownA hlA) ?_); rintro e w5 ⟨g5, n5, rfl, hm5, hn5, hg5, hRw, hb5⟩; have hEn := HN.out _ hm5; obtain ⟨k1, k2, k3, k4, k5⟩ := call_keeps hlt hb2 hk4 hb5; obtain ⟨q0, q1, q2, q3, q4, q5, q6⟩ := tok_cells k1; obtain ⟨g0, g1, g2, g3⟩ := def_cells k3; obtain rfl := hEn; have hmu : n5 * g.ops.length <= 64 * 4096 := Nat.mul_le_mul hn5 hn2; have hwr : IntKind.i64.wrap ((n5 : Int) * (g.ops.length : Int)) = ((n5 * g.ops.length : Nat) : Int) := (by rw [← Int.natCast_mul, wrapN _ (by omega) (by omega)]))
              | (go_at_call 114; refine (c4 w5 ts2 (n5 * g.ops.length) (by omega) (hr4.below hb5)).mono ?_; rw [if_neg H5'.out]; rintro e w6 ⟨rfl, hb6⟩))
            have hKw : Kb [R] w w6 := ((((Kb.of_below (HW1.out.trans (hb2.mono HW1.out.size))).alloc _).trans hk4).then_below hb5).then_below hb6
            have hR6 : Rt w6 R (xOf L d) (.slice ao no co) ts2 := (hr4.below hb5).below hb6
            have hO6 : OpsAt w6 w0.heap.size ao no co ops := HO.out.turn HR.out hKw
            have hRw6 := hRw.below hb6
            have m2 := (hb6.block (w.heap.size + 1) (by omega)).trans k2
            have m3 := (hb6.block w2.heap.size (by omega)).trans k3
            have hb26 : ∀ (b : Nat) (cs : Array Value) (t : TypeId) (fr : Nat × Nat), w2.heap[b]? = some (Obj.cells cs t fr) -> t ≠ 68 -> w6.heap[b]? = w2.heap[b]? := by
              intro b cs t fr hb ht
              have hl := (Array.getElem?_eq_some_iff.1 hb).1
              have hne : b ≠ R := fun e => by
                subst e
                obtain ⟨⟨v, hr, _⟩, _⟩ := HE2.2
                unfold rbO at hr
                rw [Below.heap_alloc _ _ _ hl, hb] at hr
                simp only [Option.some.injEq, Obj.cells.injEq] at hr
                exact ht hr.2.1
              have z4 := hk4.size
              have z5 := hb5.size
              simp only [World.size_alloc] at z4
              exact (hb6.block b (by omega)).trans ((hb5.block b (by omega)).trans ((hk4.block b (by simp only [World.size_alloc]; omega) (by simpa using hne)).trans (Below.heap_alloc _ _ _ hl)))
            have hSp6 : SpAt dd w6 w2.heap.size w2.heap.size g.names (.slice aod kd md) kd g.ops := SpAt.block (fun b _ _ _ hb => hb26 b _ _ _ hb (by decide)) (fun b _ _ _ hb => hb26 b _ _ _ hb (by decide)) _ _ _ _ _ hSp
            have hz6 : w.heap.size + 1 < w6.heap.size := (Array.getElem?_eq_some_iff.1 m2).1
            have HK := hide (fun (b : Nat) (cs : Array Value) (t : TypeId) (fr : Nat × Nat) (hb : w6.heap[b]? = some (.cells cs t fr)) (h1 : t ≠ 68) (h2 : t ≠ 34) => keep_blk hR6 hO6 hb h1 h2)
            have HRw := hide hRw6
            have HSp := hide hSp6
            have HO6 := hide hO6
            have HR6 := hide hR6
            have HKw := hide hKw
            have hB0 := hD.bel.size
            have hws := hKw.size
            clear hRw6 hSp6 hO6 hR6 hKw hRw hSp hb26
            clear q0 q1 q2 q3 q4 q5 q6 g0 g1 g2 g3 k1 k2 k3 hr4 hk4 hb5 hb6 hb2 hownA HE2 c3 c4 hbd
            go_wp2_with fail
            go_loopw [61] (fun vi wr => ∃ (i : Nat) (ao' : Option Addr) (n' c' : Nat), vi = .int .i64 (i : Int) /\ i <= n5 /\ Rt wr R (xOf L d) (.slice ao' n' c') ts2 /\ OpsAt wr w0.heap.size ao' n' c' (ops ++ cO (bit, whn) l g.ops i) /\ Kb (R :: (ob ao).toList) w6 wr /\ (∀ b, ob ao' = some b -> ob ao = some b ∨ w6.heap.size <= b)) (fun vi _ => n5 - (Go.RowKit.intOf vi).toNat)
            case atStart => exact ⟨0, ao, no, co, rfl, Nat.zero_le _, HR6.out, by simpa [cO] using HO6.out, Kb.refl _ _, fun b hb => .inl hb⟩
            case round =>
              obtain ⟨i, ao', n', c', rfl, hi, hRi, hOi, hKi, hbi⟩ := hrel
              have hkb : ∀ (b : Nat) (cs : Array Value) (t : TypeId) (fr : Nat × Nat), w6.heap[b]? = some (Obj.cells cs t fr) -> t ≠ 68 -> t ≠ 34 -> wr.heap[b]? = w6.heap[b]? := fun b cs t fr hb h1 h2 => hKi.block b (Array.getElem?_eq_some_iff.1 hb).1 (HK.out b cs t fr hb h1 h2)
              by_cases h : i < n5
              . have hdd : decide ((i : Int) < (n5 : Int)) = true := decide_eq_true (by omega)
                obtain ⟨cur, u1, u2, u3⟩ := HRw.out.of_kept hkb
                obtain ⟨v, hv, hIs⟩ := u3 i h
                obtain ⟨aq, cq, hve⟩ := hIs.sl
                have hIs' := hIs
                rw [hve] at hIs'
                rw [List.length_map] at hve
                subst hve
                have hcv : wr.cell? ⟨g5, i, none⟩ = some (.slice aq l.length cq) := (cell_of_row _ _ _ _ _ _ u1).trans hv
                have hlg : g5 < wr.heap.size := (Array.getElem?_eq_some_iff.1 u1).1
                have p2 := (hkb _ _ _ _ m2 (by decide) (by decide)).trans m2
                have p3 := (hkb _ _ _ _ m3 (by decide) (by decide)).trans m3
                obtain ⟨y0, y1, hy⟩ := cd_cells p2
                obtain ⟨d0, d1, d2, hdl⟩ := def_cells p3
                have r8 := hRi.cells.2.2.2.2.2.2.2
                have rf := hRi.free 8
                have hSr : SpAt dd wr w2.heap.size w2.heap.size g.names (.slice aod kd md) kd g.ops := SpAt.block (fun b _ _ _ hb => hkb b _ _ _ hb (by decide) (by decide)) (fun b _ _ _ hb => hkb b _ _ _ hb (by decide) (by decide)) _ _ _ _ _ HSp.out
                have hsz := hKi.size
                have hmu2 : (i + 1) * g.ops.length <= n5 * g.ops.length := Nat.mul_le_mul_right _ h
                have hlo : (ops ++ cO (bit, whn) l g.ops i).length + g.ops.length <= 4096 := by
                  rw [List.length_append, cO_len]
                  rw [Nat.succ_mul] at hmu2
                  have := H5.out
                  omega
                have cl : Calls Tryz.prog 122 #[.slice ao' n' c', .slice aod kd md, .slice aq l.length cq, .agg #[.int .i64 bit, .int .i64 (whn : Int)]] wr.drew (PL w0.heap.size ao' wr.drew (ops ++ cO (bit, whn) l g.ops (i + 1))) := by
                  have := cLay bit whn w0.heap.size dd w2.heap.size w2.heap.size aod kd md g.ops aq cq (l.map (atP i)) ao' n' c' (ops ++ cO (bit, whn) l g.ops i) wr.drew (show w0.heap.size <= wr.heap.size by omega) (by rw [List.length_map]; omega) (by rw [List.length_map, H4.out]; exact SpAt.up _ _ _ _ _ (hSr.below (Below.refl _ _).drew)) hIs' hOi hlo
                  rw [List.length_map, List.append_assoc, ← cO_succ] at this
                  exact this
                have hneR : R ∉ (ob ao').toList := by
                  obtain ⟨⟨v, hr, _⟩, _⟩ := id hRi
                  unfold rbO at hr
                  obtain ⟨xs, _, _, h3, _⟩ := id hOi
                  exact fun e => own_ne h3 hr (by decide) (by simpa using e)
                have hne2 : w2.heap.size ∉ (ob ao').toList := by
                  obtain ⟨xs, _, _, h3, _⟩ := id hOi
                  exact fun e => own_ne h3 p3 (by decide) (by simpa using e)
                have hne3 : w.heap.size + 1 ∉ (ob ao').toList := by
                  obtain ⟨xs, _, _, h3, _⟩ := id hOi
                  exact fun e => own_ne h3 p2 (by decide) (by simpa using e)
                have HF := hide (fun w7 (hk7 : Kb (ob ao').toList wr w7) => (show SL w2.heap.size (w.heap.size + 1) (.slice aod kd md) bit (whn : Int) w7 /\ w7.cell? ⟨R, 8, none⟩ = some (.slice ao' n' c') /\ w7.frozen? ⟨R, 8, none⟩ = false from ⟨⟨(hk7.cell (p := ⟨w2.heap.size, 2, none⟩) hdl hne2).trans d2, (hk7.cell (p := ⟨w.heap.size + 1, 0, none⟩) hy hne3).trans y0, (hk7.cell (p := ⟨w.heap.size + 1, 1, none⟩) hy hne3).trans y1⟩, (hk7.cell (p := ⟨R, 8, none⟩) hRi.lt hneR).trans r8, (World.frozen?_of_block (w := wr) (hk7.block R hRi.lt hneR)).trans rf⟩))
                have r8d : wr.drew.cell? ⟨R, 8, none⟩ = some (.slice ao' n' c') := r8
                have d2d : wr.drew.cell? ⟨w2.heap.size, 2, none⟩ = some (.slice aod kd md) := d2
                have y0d : wr.drew.cell? ⟨w.heap.size + 1, 0, none⟩ = some (.int .i64 bit) := y0
                have y1d : wr.drew.cell? ⟨w.heap.size + 1, 1, none⟩ = some (.int .i64 (whn : Int)) := y1
                have HREL : Hid (∀ (w7 : World) (ao2 : Option Addr) (n2 c2 : Nat), OpsAt w7 w0.heap.size ao2 n2 c2 (ops ++ cO (bit, whn) l g.ops (i + 1)) -> Kb (ob ao').toList wr w7 -> (∀ b, ob ao2 = some b -> ob ao' = some b ∨ wr.heap.size <= b) -> Rt (w7.setCell ⟨R, 8, none⟩ (.slice ao2 n2 c2)) R (xOf L d) (.slice ao2 n2 c2) ts2 /\ OpsAt (w7.setCell ⟨R, 8, none⟩ (.slice ao2 n2 c2)) w0.heap.size ao2 n2 c2 (ops ++ cO (bit, whn) l g.ops (i + 1)) /\ Kb (R :: (ob ao).toList) w6 (w7.setCell ⟨R, 8, none⟩ (.slice ao2 n2 c2)) /\ (∀ b, ob ao2 = some b -> ob ao = some b ∨ w6.heap.size <= b)) := hide (fun w7 ao2 n2 c2 hO2 hk7 hb7 => by
                  have hbt : L.bt ∉ (ob ao').toList := by
                    obtain ⟨tcs, tfr, htb⟩ := hRi.btB
                    obtain ⟨xs, _, _, h3, _⟩ := id hOi
                    exact fun e => own_ne h3 htb (by decide) (show ob ao' = some L.bt by simpa using e)
                  have hR7 : Rt w7 R (xOf L d) (.slice ao' n' c') ts2 := hRi.kept (hk7.block R hRi.lt hneR) (hk7.block L.bt hRi.bt hbt)
                  have hKs : Kb [R] w7 (w7.setCell ⟨R, 8, none⟩ (.slice ao2 n2 c2)) := (Kb.refl _ _).setCell (.inl (by simp)) _
                  refine ⟨hR7.put8 _, hO2.turn hR7 hKs, (hKi.via hk7 (fun b hb => ?_)).setCell (.inl (by simp)) _, fun b hb => ?_⟩
                  . have hb' : ob ao' = some b := by simpa using hb
                    rcases hbi b hb' with e | e
                    . exact .inl (by simp [e])
                    . exact .inr e
                  . rcases hb7 b hb with e | e
                    . exact hbi b e
                    . exact .inr (by omega))
                clear u1 u2 u3 hv hIs hIs' p2 p3 hSr hmu2 hlo hkb
                go_wp2_with fail
                go_region_with (first | (go_at_call 122; (with_reducible refine Calls.mono cl ?_); rintro e w7 ⟨ao2, n2, c2, rfl, hO2, hk2, hb2⟩; have hk7 := hk2.undrew; obtain ⟨hS, s8, sf⟩ := HF.out w7 hk7))
                all_goals
                  go_wp2_with fail
                  go_roundw
                  case rel => exact ⟨i + 1, ao2, n2, c2, by go_num, by omega, HREL.out w7 ao2 n2 c2 hO2 hk7 hb2⟩
                  case measure => simp [Go.RowKit.intOf]; omega
              . obtain rfl : n5 = i := by omega
                go_wp2_with fail
                go_ret
                refine ⟨rfl, ao', n', c', hRi, hOi, ?_, (HKw.out.mono (by simp)).trans hKi, fun b hb => ?_⟩
                . rw [List.length_append, cO_len]
                  have := H5.out
                  omega
                . rcases hbi b hb with e | e
                  . exact .inl e
                  . exact .inr (by omega)
theorem cCall (w0 : World) (R : Nat) (L : Ly) (B N : Nat) (d : Dc) (ao : Option Addr) (no co : Nat) (ops : List COp) (t : T) (ts : List T) (bit : Int) (whn : Nat) (hTx : t.text.length <= 140737488355328) (w : World) (hD : Rdr w0 w R L B N d) (hR : Rt w R (xOf L d) (.slice ao no co) ts) (hO : OpsAt w w0.heap.size ao no co ops) (hno : ops.length <= 4096) :
    Calls Tryz.prog 95 #[.pointer (some ⟨R, 0, none⟩), tkV t, .agg #[.int .i64 bit, .int .i64 (whn : Int)]] w (PC R L d w0.heap.size ao w (pCall d ops t (bit, whn) ts)) := by
  cases hP : pCall d ops t (bit, whn) ts with
  | no c t' => exact cCall_no w0 R L B N d ao no co ops t ts bit whn hTx w hD hR hO hno c t' hP
  | ok o' ts' => exact cCall_ok w0 R L B N d ao no co ops t ts bit whn hTx w hD hR hO hno o' ts' hP
end Go.Proofs.YtnghfdnlcnocjaaGreatDoor.Cir
