import Derived.Test.YtnghfdnlcnocjaaGreatDoorEe04fa884
import Derived.Test.YtnghfdnlcnocjaaGreatDoorEb0f288b0
set_option maxRecDepth 100000
set_option maxHeartbeats 4000000
namespace Go.Proofs.YtnghfdnlcnocjaaGreatDoor.Cir
open Go.RowKit Go.Shelf Go.Proofs.YtnghfdnlcnocjaaGreatDoor.Oct Go.Proofs.YtnghfdnlcnocjaaGreatDoor.Tok Go.Proofs.YtnghfdnlcnocjaaGreatDoor.Gt
theorem cVals (ao : Option Addr) (n c : Nat) (w : World) : Calls Tryz.prog 134 #[.slice ao n c] w fun e w' => e = .returned (.func (.func 154) #[] #[.pointer (some ⟨w.heap.size, 0, none⟩)]) /\ w' = w.alloc (.cells #[.slice ao n c] 32) := by
  go_enter Tryz.func134, Tryz.ntmps134
  go_wp2_with fail
  go_ret
  exact ⟨rfl, rfl⟩
theorem eVals1 : ∀ args w, (callFunc 154 args).run Tryz.prog w = .ok (.enter 154 args) w := enters_of Tryz.func154 (by kernel_rfl) rfl
theorem nx_id (l : List Nat) (h : ∀ i ∈ l, i < 4611686018427387903) : (l.map nx).map (·.1) = l := by
  rw [List.map_map]
  refine (List.map_congr_left fun a ha => ?_).trans (List.map_id l)
  show min a 4611686018427387903 = a
  have := h a ha
  omega
theorem once_vals (l : List Nat) (h : ∀ i ∈ l, i < 4611686018427387903) (hl : l.length <= 4398046511104) (ao : Option Addr) (c : Nat) (W : World) (hI : Is W (.slice ao l.length c) l) :
    Calls Tryz.prog 118 #[.func (.func 154) #[] #[.pointer (some ⟨W.heap.size, 0, none⟩)]] (W.alloc (.cells #[.slice ao l.length c] 32)) fun e w' => Below W.heap.size W w' /\ ((l.Nodup /\ ∃ v, e = .returned (.tuple #[v, .bool true])) ∨ (¬ l.Nodup /\ e = .returned (.tuple #[.slice none 0 0, .bool false]))) := by
  have hx : (l.map nx).length = l.length := List.length_map _
  have hid := nx_id l h
  have hA := heap_alloc_new W (.cells #[.slice ao l.length c] 32)
  refine (cOnce 154 #[.pointer (some ⟨W.heap.size, 0, none⟩)] eVals1 (l.map nx) (by rw [hx]; exact hl) _ (fun W' hW => ?_)).mono ?_
  . have hc : W'.cell? ⟨W.heap.size, 0, none⟩ = some (.slice ao (l.map nx).length c) := by
      rw [hx]
      exact (hW.cell (p := ⟨W.heap.size, 0, none⟩) (by simp)).trans (cell_of_row _ _ 0 _ _ _ hA)
    refine values_stops W.heap.size _ c ao (l.map nx) (by rw [hx]; omega) W' (by have := hW.size; simp at this; omega) hW.size hc ?_
    rw [hid, hx]
    exact ((hI.below (bnew _ _)).below hW).b.mono (Nat.le_refl _) |> fun h => by
      rcases h with h | ⟨g, off, c', cs, fr, h0, h1, h2, h3⟩
      . exact .inl h
      . have hI' := hI.b
        rcases hI' with ⟨e, _⟩ | ⟨g', off', c'', cs', fr', h0', h1', _⟩
        . exact .inl ⟨e, ao, c, by rw [e]; rfl⟩
        . have : g = g' := by rw [h1] at h1'; simp at h1'; exact h1'.1.1
          exact .inr ⟨g, off, c', cs, fr, by simp; omega, h1, h2, h3⟩
  . rintro e w' ⟨hb, hh⟩
    rw [hid] at hh
    refine ⟨(bnew W _).trans (hb.mono (by simp)), ?_⟩
    rcases hh with ⟨h1, v, h2, _⟩ | h2
    . exact .inl ⟨h1, v, h2⟩
    . exact .inr h2
theorem PCa.okD {B : Nat} {w : World} {g : Df} {ts : List T} {e : Ending} {w' : World} (h : PCa B w (.ok g ts) e w') : Below w.heap.size w w' /\ ∃ (ao : Option Addr) (k m : Nat), e = .returned (.tuple #[.agg #[.int .i64 (g.names : Int), .int .i64 (g.ops.length : Int), .slice ao k m], .nilIface]) /\ DefD w' B w'.heap.size g (.agg #[.int .i64 (g.names : Int), .int .i64 (g.ops.length : Int), .slice ao k m]) /\ g.names <= 4398046511104 /\ g.ops.length <= 4096 := by
  obtain ⟨hb, a, b, ao, k, m, rfl, hd⟩ := h
  obtain ⟨dd, ao', k', c', he, h1, h2, h3⟩ := id hd.1
  refine ⟨hb, ao', k', c', ?_, ?_, h2, h3⟩
  . rw [he]; rfl
  . rw [he] at hd; exact hd
def PIn (R : Nat) (L : Ly) (d : Dc) (o : Value) (D B B1 n : Nat) (ao : Option Addr) (w : World) (P : Res (List PO)) (e : Ending) (w' : World) : Prop := match P with
  | .ok body ts' => e = .returned .nilIface /\ ∃ ao', Rt w' R (xOf L d) o ts' /\ DfAt w' D B B1 n ao' body /\ body.length <= 4096 /\ Kb (R :: D :: (ob ao).toList) w w' /\ ∀ b, ob ao' = some b -> ob ao = some b ∨ w.heap.size <= b
  | .no c t => e = .returned (erV c t) /\ Kb (R :: D :: (ob ao).toList) w w'
theorem DefD.turn {w w' : World} {B C R : Nat} {g : Df} {u : Value} {x : X} {o : Value} {ts : List T} (h : DefD w B C g u) (hR : Rt w R x o ts) (hk : Kb [R] w w') : DefD w' B C g u := by
  obtain ⟨⟨v, hb, _⟩, _⟩ := hR
  unfold rbO at hb
  refine h.block fun b cs fr t ht hg => hk.block b (Array.getElem?_eq_some_iff.1 hg).1 (fun e => ?_)
  rw [List.mem_singleton] at e
  subst e
  rw [hb] at hg
  simp only [Option.some.injEq, Obj.cells.injEq] at hg
  rcases ht with rfl | rfl
  . exact absurd hg.2.1 (by decide)
  . exact absurd hg.2.1 (by decide)
theorem rt_put {w w' : World} {R D B B1 n : Nat} {x : X} {o : Value} {ts : List T} {ao : Option Addr} {body : List PO} (hR : Rt w R x o ts) (hA : DfAt w D B B1 n ao body) (hk : Kb (D :: (ob ao).toList) w w') : Rt w' R x o ts := by
  obtain ⟨dd, k, c, ss, h1, h2, h3, h4, h5⟩ := hA
  have key : ∀ (b : Nat) (cs : Array Value) (t : TypeId) (fr : Nat × Nat), w.heap[b]? = some (Obj.cells cs t fr) -> t ≠ 174 -> t ≠ 222 -> w'.heap[b]? = w.heap[b]? := fun b cs t fr hb n1 n2 => hk.block b (Array.getElem?_eq_some_iff.1 hb).1 (fun e => by
    rcases List.mem_cons.1 e with e | e
    . rw [e, h1] at hb
      simp only [Option.some.injEq, Obj.cells.injEq] at hb
      exact n1 hb.2.1.symm
    . have he : ob ao = some b := by simpa using e
      exact own_ne h4 hb n2 he)
  obtain ⟨tcs, tfr, htb⟩ := hR.btB
  obtain ⟨⟨v, hb, ht⟩, hf⟩ := id hR
  unfold rbO at hb
  exact hR.kept (key _ _ _ _ hb (by decide) (by decide)) (key _ _ _ _ htb (by decide) (by decide))
theorem in_keeps {w1 w2 : World} {c1 c2 : Array Value} {t1 t2 : TypeId} (hb2 : Below (w1.alloc (.cells c1 t1)).heap.size (w1.alloc (.cells c1 t1)) w2) : (w2.alloc (.cells c2 t2)).heap[w1.heap.size]? = some (.cells c1 t1 (0, 0)) /\ (w2.alloc (.cells c2 t2)).heap[w2.heap.size]? = some (.cells c2 t2 (0, 0)) /\ w1.heap.size < w2.heap.size := by
  have z := hb2.size
  simp only [World.size_alloc] at z
  exact ⟨(Below.heap_alloc _ _ _ (by omega)).trans ((hb2.block _ (by simp)).trans (heap_alloc_new _ _)), heap_alloc_new _ _, by omega⟩
theorem ba_bar : (⟨barX.toArray⟩ : ByteArray) = ⟨#[98, 97, 114, 114, 105, 101, 114]⟩ := rfl
theorem cInner (w0 : World) (R : Nat) (L : Ly) (B N : Nat) (d : Dc) (o : Value) (D B1 : Nat) (mm : Nat) (names : List Nm) (ao : Option Addr) (body : List PO) (ts : List T) (w : World) (hD : Rdr w0 w R L B N d) (hR : Rt w R (xOf L d) o ts) (hN : NM w mm names) (hA : DfAt w D B B1 names.length ao body) (hB : B <= B1) (hB1 : B1 <= w.heap.size) (hbd : body.length <= 4096) (hnl : names.length <= 4398046511104) :
    Calls Tryz.prog 110 #[.pointer (some ⟨R, 0, none⟩), .pointer (some ⟨D, 0, none⟩), .map (some mm)] w (PIn R L d o D B B1 names.length ao w (pInner d names body ts)) := by
  have hlt := hR.lt
  have eG := erG
  have eN := erN
  have c1 := cTake R (xOf L d) o ts w hR
  have hTx := hR.fine.hd
  have hmR : mm ≠ R := by
    obtain ⟨⟨v, hb, _⟩, _⟩ := id hR
    unfold rbO at hb
    exact hN.ne hb
  have HKD : Hid (∀ V, Kb [R] w V -> Rdr w0 V R L B N d /\ NM V mm names /\ DfAt V D B B1 names.length ao body) := hide (fun V hk => ⟨hD.turn hR hk, hN.kept hk (by simpa using hmR), hA.turn hR hk⟩)
  have HG := hide (fun V (h : Rdr w0 V R L B N d) (hr : Rt V R (xOf L d) o (tl ts)) (hn : NM V mm names) => cGiven w0 R L B N d o mm names (tl ts) V h hr hn)
  obtain ⟨-, hDc, hDl⟩ := hA.cells
  unfold pInner
  simp only
  generalize hd ts = t at *
  have HC1 := hide (fun V (h : Rdr w0 V R L B N d) (hr : Rt V R (xOf L d) o (tl ts)) => cCallee R L w0 B N d o (tl ts) t (by omega) (tl ts) V hr h)
  have c2 := fun W => cReads t 1 barX W
  have c85 := fun W => cRefuse 85 t W
  have c86 := fun W => cRefuse 86 t W
  rw [ba_bar] at c2
  obtain ⟨kind, text, num, o', line, col⟩ := t
  unfold tkV at c1 c2 c85 c86 HC1
  simp only at c1 c2 c85 c86 HC1
  generalize isT 1 barX ⟨kind, text, num, o', line, col⟩ = bar at *
  obtain ⟨bl, HBL⟩ : ∃ bl, Hid (body.length = bl) := ⟨_, hide rfl⟩
  clear hN hA hDc
  cases bar with
  | true =>
    simp only [if_true]
    cases h2 : pGiven names (tl ts) with
    | no c t =>
      rw [h2] at HG
      go_enter Tryz.func110, Tryz.ntmps110
      go_wp2_with (first
        | (go_at_call 85; refine c1.mono ?_; rintro e w1 ⟨rfl, hr1, hk1⟩; have hl1 := hr1.lt; have HK1 : Hid (Kb [R] w (w1.alloc (.cells #[.int .i64 (kind : Int), .string ⟨text.toArray⟩, .int .i64 (num : Int), .int .i64 (o' : Int), .int .i64 (line : Int), .int .i64 (col : Int)] 100))) := hide (hk1.alloc _))
        | (go_at_call 86; refine (c2 _).mono ?_; rintro e w2 ⟨rfl, hb2⟩; obtain ⟨t2, z2, l12⟩ := in_keeps (c2 := #[.int .i64 0, .int .i64 0, .slice none 0 0]) (t2 := 174) hb2; obtain ⟨q0, q1, q2, q3, q4, q5, q6⟩ := tok_cells t2; have HK2 : Hid (Kb [R] w (w2.alloc (.cells #[.int .i64 0, .int .i64 0, .slice none 0 0] 174))) := hide ((HK1.out.then_below hb2).alloc _); have hr2 := ((hr1.below (bnew w1 (.cells #[.int .i64 (kind : Int), .string ⟨text.toArray⟩, .int .i64 (num : Int), .int .i64 (o' : Int), .int .i64 (line : Int), .int .i64 (col : Int)] 100))).below hb2).below (bnew w2 (.cells #[.int .i64 0, .int .i64 0, .slice none 0 0] 174)); obtain ⟨hD2, hN2, hA2⟩ := HKD.out _ HK2.out)
        | (go_at_call 132; (with_reducible refine Calls.mono (HG.out _ hD2 hr2 hN2) ?_); rintro e w3 ⟨⟨ao3, n3, c3, rfl⟩, hk3⟩))
      go_ret
      exact ⟨rfl, (HK2.out.trans hk3).mono (by simp)⟩
    | ok l ts2 =>
      rw [h2] at HG
      simp only
      have c5 : ∀ W, l.length <= 4398046511104 -> Calls Tryz.prog 133 #[.int .i64 4, .int .i64 0, .int .i64 (l.length : Int)] W fun e w' => ∃ aog mg, e = .returned (.agg #[.int .i64 (l.length : Int), .int .i64 ((1 : Nat) : Int), .slice aog 1 mg]) /\ DefS w' w'.heap.size (sng 4 0 l.length) (.agg #[.int .i64 (l.length : Int), .int .i64 ((1 : Nat) : Int), .slice aog 1 mg]) /\ Below W.heap.size W w' := fun W h => (cSingle 4 0 l.length h W).mono (by
        rintro e w' ⟨u, rfl, ⟨ao', c', rfl, h2⟩, h3⟩
        exact ⟨ao', c', rfl, ⟨ao', c', rfl, h2⟩, h3⟩)
      obtain ⟨gn, HGN⟩ : ∃ gn, Hid ((sng 4 0 l.length).names = gn) := ⟨_, hide rfl⟩
      obtain ⟨gl, HGL⟩ : ∃ gl, Hid ((sng 4 0 l.length).ops.length = gl) := ⟨_, hide rfl⟩
      have HGB : Hid (gl <= 4096) := hide (by rw [← HGL.out]; show 1 <= 4096; decide)
      have c6 : ∀ W, l.length <= 4398046511104 -> Calls Tryz.prog 133 #[.int .i64 4, .int .i64 0, .int .i64 (l.length : Int)] W fun e w' => ∃ aog mg, e = .returned (.agg #[.int .i64 (gn : Int), .int .i64 (gl : Int), .slice aog 1 mg]) /\ DefS w' w'.heap.size (sng 4 0 l.length) (.agg #[.int .i64 (gn : Int), .int .i64 (gl : Int), .slice aog 1 mg]) /\ Below W.heap.size W w' := by
        rw [← HGN.out, ← HGL.out]
        exact c5
      clear c5
      generalize hPP : (if ¬ l.Nodup ∨ l.length ≠ (sng 4 0 l.length).names then (Res.no 85 ⟨kind, text, num, o', line, col⟩ : Res (List PO)) else if 4096 < body.length + (sng 4 0 l.length).ops.length then Res.no 86 ⟨kind, text, num, o', line, col⟩ else Res.ok (body ++ (sng 4 0 l.length).ops.map (onP l)) ts2) = PP
      go_enter Tryz.func110, Tryz.ntmps110
      go_wp2_with (first
        | (go_at_call 85; refine c1.mono ?_; rintro e w1 ⟨rfl, hr1, hk1⟩; have hl1 := hr1.lt; have HK1 : Hid (Kb [R] w (w1.alloc (.cells #[.int .i64 (kind : Int), .string ⟨text.toArray⟩, .int .i64 (num : Int), .int .i64 (o' : Int), .int .i64 (line : Int), .int .i64 (col : Int)] 100))) := hide (hk1.alloc _))
        | (go_at_call 86; refine (c2 _).mono ?_; rintro e w2 ⟨rfl, hb2⟩; obtain ⟨t2, z2, l12⟩ := in_keeps (c2 := #[.int .i64 0, .int .i64 0, .slice none 0 0]) (t2 := 174) hb2; obtain ⟨q0, q1, q2, q3, q4, q5, q6⟩ := tok_cells t2; have HK2 : Hid (Kb [R] w (w2.alloc (.cells #[.int .i64 0, .int .i64 0, .slice none 0 0] 174))) := hide ((HK1.out.then_below hb2).alloc _); have hr2 := ((hr1.below (bnew w1 (.cells #[.int .i64 (kind : Int), .string ⟨text.toArray⟩, .int .i64 (num : Int), .int .i64 (o' : Int), .int .i64 (line : Int), .int .i64 (col : Int)] 100))).below hb2).below (bnew w2 (.cells #[.int .i64 0, .int .i64 0, .slice none 0 0] 174)); obtain ⟨hD2, hN2, hA2⟩ := HKD.out _ HK2.out)
        | (go_at_call 132; (with_reducible refine Calls.mono (HG.out _ hD2 hr2 hN2) ?_); rintro e w3 ⟨ao3, c3, rfl, hown3, hlt3, hlen3, hr3, hk3⟩; have zk3 := (hk3.block w2.heap.size (by simp) (by simp; omega)).trans z2; have tk3 := (hk3.block w1.heap.size (by simp; omega) (by simp; omega)).trans t2)
        | (go_at_call 133; refine (c6 _ hlen3).mono ?_; rintro e w4 ⟨aog, mg, rfl, hDS, hb4⟩; have zk4 := (hb4.block w2.heap.size (Array.getElem?_eq_some_iff.1 zk3).1).trans zk3)
        | refine wpList_store_row rfl _ _ _ rfl w2.heap.size _ rfl rfl _ _ zk4 (by exact infoDf) (by rfl) (by simp [Value.oneCell']) ?_)
      have hDD0 : DefD w4 B w4.heap.size (sng 4 0 l.length) (.agg #[.int .i64 (gn : Int), .int .i64 (gl : Int), .slice aog 1 mg]) := ⟨hDS.v, .inl hDS⟩
      have hDD4 : DefD (w4.setRow w2.heap.size #[.int .i64 (gn : Int), .int .i64 (gl : Int), .slice aog 1 mg]) B (w4.setRow w2.heap.size #[.int .i64 (gn : Int), .int .i64 (gl : Int), .slice aog 1 mg]).heap.size (sng 4 0 l.length) (.agg #[.int .i64 (gn : Int), .int .i64 (gl : Int), .slice aog 1 mg]) := (hDD0.row _ zk4).mono (by simp [World.setRow])
      have hK4 : Kb [R] w (w4.setRow w2.heap.size #[.int .i64 (gn : Int), .int .i64 (gl : Int), .slice aog 1 mg]) := ((HK2.out.trans hk3).then_below hb4).setRow _ _ (.inr (by have := hk1.size; omega))
      have hneB : L.bt ≠ w2.heap.size := fun e => by
        obtain ⟨tcs, tfr, htb⟩ := hr3.btB
        rw [show (xOf L d).bt = w2.heap.size from e, zk3] at htb
        simp at htb
      have hr4 : Rt (w4.setRow w2.heap.size #[.int .i64 (gn : Int), .int .i64 (gl : Int), .slice aog 1 mg]) R (xOf L d) o ts2 := (hr3.below hb4).row _ _ (by omega) hneB
      have tk4 : (w4.setRow w2.heap.size #[.int .i64 (gn : Int), .int .i64 (gl : Int), .slice aog 1 mg]).heap[w1.heap.size]? = some (.cells #[.int .i64 (kind : Int), .string ⟨text.toArray⟩, .int .i64 (num : Int), .int .i64 (o' : Int), .int .i64 (line : Int), .int .i64 (col : Int)] 100) := (setRow_other _ _ _ _ (by omega)).trans ((hb4.block _ (Array.getElem?_eq_some_iff.1 tk3).1).trans tk3)
      have zb4 : (w4.setRow w2.heap.size #[.int .i64 (gn : Int), .int .i64 (gl : Int), .slice aog 1 mg]).heap[w2.heap.size]? = some (.cells #[.int .i64 (gn : Int), .int .i64 (gl : Int), .slice aog 1 mg] 174) := setRow_heap _ _ _ _ _ _ zk4
      have hI4 : Is (w4.setRow w2.heap.size #[.int .i64 (gn : Int), .int .i64 (gl : Int), .slice aog 1 mg]) (.slice ao3 l.length c3) l := ((Is.of_own hown3).below hb4).block fun b cs fr hb => setRow_other _ _ _ _ (fun e => by
        rw [e, zk4] at hb
        simp at hb)
      have hl1' : w1.heap.size < w2.heap.size := l12
      generalize hVV : (w4.setRow w2.heap.size #[.int .i64 (gn : Int), .int .i64 (gl : Int), .slice aog 1 mg]) = V4 at *
      obtain ⟨hD4, hN4, hA4⟩ := HKD.out V4 hK4
      have hl4 := hr4.lt
      have hlw := hK4.size
      have hi4 : ∀ i ∈ l, i < 4611686018427387903 := fun i hi => by have := hlt3 i hi; omega
      have c7 := once_vals l hi4 hlen3 ao3 c3 V4 hI4
      have HKX : Hid (∀ w6, Below V4.heap.size V4 w6 -> Kb (R :: D :: (ob ao).toList) w w6) := hide (fun w6 h => (hK4.then_below h).mono (by simp))
      have HX : Hid (∀ w6, Below V4.heap.size V4 w6 -> w6.heap[w1.heap.size]? = some (.cells #[.int .i64 (kind : Int), .string ⟨text.toArray⟩, .int .i64 (num : Int), .int .i64 (o' : Int), .int .i64 (line : Int), .int .i64 (col : Int)] 100) /\ w6.heap[w2.heap.size]? = some (.cells #[.int .i64 (gn : Int), .int .i64 (gl : Int), .slice aog 1 mg] 174) /\ Rt w6 R (xOf L d) o ts2 /\ DfAt w6 D B B1 names.length ao body /\ DefD w6 B w6.heap.size (sng 4 0 l.length) (.agg #[.int .i64 (gn : Int), .int .i64 (gl : Int), .slice aog 1 mg]) /\ Is w6 (.slice ao3 l.length c3) l /\ V4.heap.size <= w6.heap.size) := hide (fun w6 h => ⟨(h.block _ (Array.getElem?_eq_some_iff.1 tk4).1).trans tk4, (h.block _ (Array.getElem?_eq_some_iff.1 zb4).1).trans zb4, hr4.below h, hA4.below h, (hDD4.below h).mono h.size, hI4.below h, h.size⟩)
      clear hD4 hN4 hA4 tk4 zb4 hDD4 hI4
      by_cases hnd : l.Nodup
      . have c8 : Calls Tryz.prog 118 #[.func (.func 154) #[] #[.pointer (some ⟨V4.heap.size, 0, none⟩)]] (V4.alloc (.cells #[.slice ao3 l.length c3] 32)) fun e w' => (∃ v, e = .returned (.tuple #[v, .bool true])) /\ Below V4.heap.size V4 w' := c7.mono (by
          rintro e w' ⟨h1, ⟨_, h2⟩ | ⟨h2, _⟩⟩
          . exact ⟨h2, h1⟩
          . exact absurd hnd h2)
        clear c7
        have HND := hide hnd
        by_cases hln : l.length = (sng 4 0 l.length).names
        . have e1 : ((l.length : Int) != (gn : Int)) = false := by have := HGN.out; simp; omega
          have e2 : ((l.length : Int) == (gn : Int)) = true := by have := HGN.out; simp; omega
          have HLN := hide hln
          rw [if_neg (by rw [not_or]; exact ⟨fun h => h hnd, fun h => h hln⟩)] at hPP
          by_cases h86 : 4096 < body.length + (sng 4 0 l.length).ops.length
          . rw [if_pos h86] at hPP
            subst hPP
            have hwr : IntKind.i64.wrap ((bl : Int) + (gl : Int)) = (bl : Int) + (gl : Int) := wrapN _ (by omega) (by have := HBL.out; have := HGB.out; omega)
            have hd1 : decide ((bl : Int) + (gl : Int) > 4096) = true := decide_eq_true (by have := HGL.out; have := HBL.out; omega)
            have hd2 : decide ((4096 : Int) < (bl : Int) + (gl : Int)) = true := decide_eq_true (by have := HGL.out; have := HBL.out; omega)
            clear h86 hnd hln
            go_wp2_with (first
              | (go_at_call 134; refine (cVals _ _ _ _).mono ?_; rintro e w5 ⟨rfl, rfl⟩)
              | (go_at_call 118; (with_reducible refine Calls.mono c8 ?_); rintro e w6 ⟨⟨v6, rfl⟩, hb6⟩; obtain ⟨tk6, zb6, hr6, hA6, hDD6, hI6, hs6⟩ := HX.out w6 hb6; obtain ⟨r0, r1, r2, r3, r4, r5, r6⟩ := tok_cells tk6; obtain ⟨g0, g1, g2, g3⟩ := def_cells zb6; obtain ⟨-, d1, d2⟩ := hA6.cells; have HB6 := hide hb6; have HDD := hide hDD6; have HI6 := hide hI6; have HA6 := hide hA6; have HR6 := hide hr6; rw [HBL.out] at d1; unfold iv at d1; clear hb6 hDD6 hI6 hA6 hr6 tk6 zb6))
            go_region
            go_wp2_with (first | (go_at_call 87; refine (c86 _).mono ?_; rintro e w7 ⟨rfl, hb7⟩))
            go_ret
            exact ⟨rfl, (HKX.out w6 HB6.out).then_below ⟨hb7.os, hb7.tape, hb7.output, hb7.size, hb7.block⟩⟩
          . rw [if_neg h86] at hPP
            subst hPP
            have hwr : IntKind.i64.wrap ((bl : Int) + (gl : Int)) = (bl : Int) + (gl : Int) := wrapN _ (by omega) (by have := HBL.out; have := HGB.out; omega)
            have hd1 : decide ((bl : Int) + (gl : Int) > 4096) = false := decide_eq_false (by have := HGL.out; have := HBL.out; omega)
            have hd2 : decide ((4096 : Int) < (bl : Int) + (gl : Int)) = false := decide_eq_false (by have := HGL.out; have := HBL.out; omega)
            have H86 : Hid (body.length + (sng 4 0 l.length).ops.length <= 4096) := hide (by omega)
            clear h86 hnd hln
            go_wp2_with (first
              | (go_at_call 134; refine (cVals _ _ _ _).mono ?_; rintro e w5 ⟨rfl, rfl⟩)
              | (go_at_call 118; (with_reducible refine Calls.mono c8 ?_); rintro e w6 ⟨⟨v6, rfl⟩, hb6⟩; obtain ⟨tk6, zb6, hr6, hA6, hDD6, hI6, hs6⟩ := HX.out w6 hb6; obtain ⟨r0, r1, r2, r3, r4, r5, r6⟩ := tok_cells tk6; obtain ⟨g0, g1, g2, g3⟩ := def_cells zb6; obtain ⟨-, d1, d2⟩ := hA6.cells; have HB6 := hide hb6; have HDD := hide hDD6; have HI6 := hide hI6; have HA6 := hide hA6; have HR6 := hide hr6; rw [HBL.out] at d1; unfold iv at d1; clear hb6 hDD6 hI6 hA6 hr6 tk6 zb6))
            go_region
            have c9 := cPut D B B1 names.length ao body (sng 4 0 l.length) (.agg #[.int .i64 (gn : Int), .int .i64 (gl : Int), .slice aog 1 mg]) ao3 c3 l w6.drew (HA6.out.below (Below.refl _ _).drew) hB (show B1 <= w6.heap.size by omega) (HDD.out.below (Below.refl _ _).drew) (HI6.out.below (Below.refl _ _).drew) hlt3 hlen3 HLN.out.symm H86.out
            go_wp2_with (first | (go_at_call 135; (with_reducible refine Calls.mono c9 ?_); rintro e w7 ⟨rfl, ao7, hA7, hk7, hb7⟩))
            go_ret
            refine ⟨rfl, ao7, ?_, hA7, ?_, ?_, ?_⟩
            . exact rt_put (HR6.out.below (Below.refl _ _).drew) (HA6.out.below (Below.refl _ _).drew) hk7
            . rw [List.length_append, List.length_map]; exact H86.out
            . exact (HKX.out w6 HB6.out).trans (Kb.mono (Kb.undrew hk7) (fun m hm => List.mem_cons_of_mem _ hm))
            . intro b hb
              rcases hb7 b hb with e | e
              . exact .inl e
              . exact .inr (Nat.le_trans hlw (Nat.le_trans hs6 e))
        . have e1 : ((l.length : Int) != (gn : Int)) = true := by have := HGN.out; simp; omega
          have e2 : ((l.length : Int) == (gn : Int)) = false := by have := HGN.out; simp; omega
          rw [if_pos (.inr hln)] at hPP
          subst hPP
          clear hnd hln
          go_wp2_with (first
            | (go_at_call 134; refine (cVals _ _ _ _).mono ?_; rintro e w5 ⟨rfl, rfl⟩)
            | (go_at_call 118; (with_reducible refine Calls.mono c8 ?_); rintro e w6 ⟨⟨v6, rfl⟩, hb6⟩; obtain ⟨tk6, zb6, hr6, hA6, hDD6, hI6, hs6⟩ := HX.out w6 hb6; obtain ⟨r0, r1, r2, r3, r4, r5, r6⟩ := tok_cells tk6; obtain ⟨g0, g1, g2, g3⟩ := def_cells zb6; obtain ⟨-, d1, d2⟩ := hA6.cells; have HB6 := hide hb6; have HDD := hide hDD6; have HI6 := hide hI6; have HA6 := hide hA6; have HR6 := hide hr6; rw [HBL.out] at d1; unfold iv at d1; clear hb6 hDD6 hI6 hA6 hr6 tk6 zb6)
            | (go_at_call 87; refine (c85 _).mono ?_; rintro e w7 ⟨rfl, hb7⟩))
          go_ret
          exact ⟨rfl, (HKX.out w6 HB6.out).then_below hb7⟩
      . have c8 : Calls Tryz.prog 118 #[.func (.func 154) #[] #[.pointer (some ⟨V4.heap.size, 0, none⟩)]] (V4.alloc (.cells #[.slice ao3 l.length c3] 32)) fun e w' => (e = .returned (.tuple #[.slice none 0 0, .bool false])) /\ Below V4.heap.size V4 w' := c7.mono (by
          rintro e w' ⟨h1, ⟨h2, _⟩ | ⟨_, h2⟩⟩
          . exact absurd h2 hnd
          . exact ⟨h2, h1⟩)
        clear c7
        rw [if_pos (.inl hnd)] at hPP
        subst hPP
        clear hnd
        go_wp2_with (first
          | (go_at_call 134; refine (cVals _ _ _ _).mono ?_; rintro e w5 ⟨rfl, rfl⟩)
          | (go_at_call 118; (with_reducible refine Calls.mono c8 ?_); rintro e w6 ⟨rfl, hb6⟩; obtain ⟨tk6, zb6, hr6, hA6, hDD6, hI6, hs6⟩ := HX.out w6 hb6; obtain ⟨r0, r1, r2, r3, r4, r5, r6⟩ := tok_cells tk6; obtain ⟨g0, g1, g2, g3⟩ := def_cells zb6; obtain ⟨-, d1, d2⟩ := hA6.cells; have HB6 := hide hb6; have HDD := hide hDD6; have HI6 := hide hI6; have HA6 := hide hA6; have HR6 := hide hr6; rw [HBL.out] at d1; unfold iv at d1; clear hb6 hDD6 hI6 hA6 hr6 tk6 zb6)
          | (go_at_call 87; refine (c85 _).mono ?_; rintro e w7 ⟨rfl, hb7⟩))
        go_ret
        exact ⟨rfl, (HKX.out w6 HB6.out).then_below hb7⟩
  | false =>
    simp only [Bool.false_eq_true, if_false]
    cases h1 : pCallee d ⟨kind, text, num, o', line, col⟩ (tl ts) with
    | no c t =>
      rw [h1] at HC1
      go_enter Tryz.func110, Tryz.ntmps110
      go_wp2_with (first
        | (go_at_call 85; refine c1.mono ?_; rintro e w1 ⟨rfl, hr1, hk1⟩; have hl1 := hr1.lt; have HK1 : Hid (Kb [R] w (w1.alloc (.cells #[.int .i64 (kind : Int), .string ⟨text.toArray⟩, .int .i64 (num : Int), .int .i64 (o' : Int), .int .i64 (line : Int), .int .i64 (col : Int)] 100))) := hide (hk1.alloc _))
        | (go_at_call 86; refine (c2 _).mono ?_; rintro e w2 ⟨rfl, hb2⟩; obtain ⟨t2, z2, l12⟩ := in_keeps (c2 := #[.int .i64 0, .int .i64 0, .slice none 0 0]) (t2 := 174) hb2; obtain ⟨q0, q1, q2, q3, q4, q5, q6⟩ := tok_cells t2; have HK2 : Hid (Kb [R] w (w2.alloc (.cells #[.int .i64 0, .int .i64 0, .slice none 0 0] 174))) := hide ((HK1.out.then_below hb2).alloc _); have hr2 := ((hr1.below (bnew w1 (.cells #[.int .i64 (kind : Int), .string ⟨text.toArray⟩, .int .i64 (num : Int), .int .i64 (o' : Int), .int .i64 (line : Int), .int .i64 (col : Int)] 100))).below hb2).below (bnew w2 (.cells #[.int .i64 0, .int .i64 0, .slice none 0 0] 174)); obtain ⟨hD2, hN2, hA2⟩ := HKD.out _ HK2.out)
        | (go_at_call 120; (with_reducible refine Calls.mono (HC1.out _ hD2 hr2) ?_); rintro e w3 ⟨hb3, a3, b3, ao3, k3, m3, rfl⟩; have zk3 := (hb3.block w2.heap.size (by simp)).trans z2)
        | refine wpList_store_row rfl _ _ _ rfl w2.heap.size _ rfl rfl _ _ zk3 (by exact infoDf) (by rfl) (allD3 _ _ _ _ _) ?_)
      go_ret
      exact ⟨rfl, ((HK2.out.then_below hb3).setRow _ _ (.inr (by have := hk1.size; omega))).mono (by simp)⟩
    | ok g ts1 =>
      obtain rfl := pCallee_ok h1
      rw [h1] at HC1
      simp only
      obtain ⟨gn, HGN⟩ : ∃ gn, Hid (g.names = gn) := ⟨_, hide rfl⟩
      obtain ⟨gl, HGL⟩ : ∃ gl, Hid (g.ops.length = gl) := ⟨_, hide rfl⟩
      have HC2 : Hid (∀ V, Rdr w0 V R L B N d -> Rt V R (xOf L d) o (tl ts) -> Calls Tryz.prog 120 #[.pointer (some ⟨R, 0, none⟩), .agg #[.int .i64 (kind : Int), .string ⟨text.toArray⟩, .int .i64 (num : Int), .int .i64 (o' : Int), .int .i64 (line : Int), .int .i64 (col : Int)]] V fun e w' => Below V.heap.size V w' /\ ∃ (ao : Option Addr) (k m : Nat), e = .returned (.tuple #[.agg #[.int .i64 (gn : Int), .int .i64 (gl : Int), .slice ao k m], .nilIface]) /\ DefD w' B w'.heap.size g (.agg #[.int .i64 (gn : Int), .int .i64 (gl : Int), .slice ao k m]) /\ gl <= 4096) := hide (fun V h hr => (HC1.out V h hr).mono (fun e w' hh => by
        obtain ⟨h1, ao, k, m, h2, h3, h4, h5⟩ := hh.okD
        rw [HGN.out, HGL.out] at h2 h3
        rw [HGL.out] at h5
        exact ⟨h1, ao, k, m, h2, h3, h5⟩))
      have HSR : Hid (∀ (w1 w2 w3 : World) (aog : Option Addr) (kg mg : Nat), w.heap.size <= w1.heap.size -> w1.heap.size < w2.heap.size -> Kb [R] w (w2.alloc (.cells #[.int .i64 0, .int .i64 0, .slice none 0 0] 174)) -> Rt (w2.alloc (.cells #[.int .i64 0, .int .i64 0, .slice none 0 0] 174)) R (xOf L d) o (tl ts) -> Below (w2.alloc (.cells #[.int .i64 0, .int .i64 0, .slice none 0 0] 174)).heap.size (w2.alloc (.cells #[.int .i64 0, .int .i64 0, .slice none 0 0] 174)) w3 -> (w2.alloc (.cells #[.int .i64 0, .int .i64 0, .slice none 0 0] 174)).heap[w1.heap.size]? = some (.cells #[.int .i64 (kind : Int), .string ⟨text.toArray⟩, .int .i64 (num : Int), .int .i64 (o' : Int), .int .i64 (line : Int), .int .i64 (col : Int)] 100) -> w3.heap[w2.heap.size]? = some (.cells #[.int .i64 0, .int .i64 0, .slice none 0 0] 174) -> DefD w3 B w3.heap.size g (.agg #[.int .i64 (gn : Int), .int .i64 (gl : Int), .slice aog kg mg]) ->
          Hid (Kb [R] w (w3.setRow w2.heap.size #[.int .i64 (gn : Int), .int .i64 (gl : Int), .slice aog kg mg])) /\ Rt (w3.setRow w2.heap.size #[.int .i64 (gn : Int), .int .i64 (gl : Int), .slice aog kg mg]) R (xOf L d) o (tl ts) /\ Rdr w0 (w3.setRow w2.heap.size #[.int .i64 (gn : Int), .int .i64 (gl : Int), .slice aog kg mg]) R L B N d /\ NM (w3.setRow w2.heap.size #[.int .i64 (gn : Int), .int .i64 (gl : Int), .slice aog kg mg]) mm names /\ ((w3.setRow w2.heap.size #[.int .i64 (gn : Int), .int .i64 (gl : Int), .slice aog kg mg])).heap[w1.heap.size]? = some (.cells #[.int .i64 (kind : Int), .string ⟨text.toArray⟩, .int .i64 (num : Int), .int .i64 (o' : Int), .int .i64 (line : Int), .int .i64 (col : Int)] 100) /\ ((w3.setRow w2.heap.size #[.int .i64 (gn : Int), .int .i64 (gl : Int), .slice aog kg mg])).heap[w2.heap.size]? = some (.cells #[.int .i64 (gn : Int), .int .i64 (gl : Int), .slice aog kg mg] 174) /\ DefD (w3.setRow w2.heap.size #[.int .i64 (gn : Int), .int .i64 (gl : Int), .slice aog kg mg]) B ((w3.setRow w2.heap.size #[.int .i64 (gn : Int), .int .i64 (gl : Int), .slice aog kg mg])).heap.size g (.agg #[.int .i64 (gn : Int), .int .i64 (gl : Int), .slice aog kg mg])) := hide (fun w1 w2 w3 aog kg mg h1 l12 hk hr hb t2 zk hd => by
        have hK : Kb [R] w (w3.setRow w2.heap.size #[.int .i64 (gn : Int), .int .i64 (gl : Int), .slice aog kg mg]) := (hk.then_below hb).setRow _ _ (.inr (by omega))
        obtain ⟨a1, a2, a3⟩ := HKD.out _ hK
        have hneB : L.bt ≠ w2.heap.size := fun e => by
          obtain ⟨tcs, tfr, htb⟩ := (hr.below hb).btB
          rw [show (xOf L d).bt = w2.heap.size from e, zk] at htb
          simp at htb
        exact ⟨hide hK, (hr.below hb).row _ _ (by omega) hneB, a1, a2, (setRow_other _ _ _ _ (by omega)).trans ((hb.block _ (Array.getElem?_eq_some_iff.1 t2).1).trans t2), setRow_heap _ _ _ _ _ _ zk, (hd.row _ zk).mono (by simp [World.setRow])⟩)
      cases h2 : pGiven names (tl ts) with
      | no c t =>
        rw [h2] at HG
        go_enter Tryz.func110, Tryz.ntmps110
        go_wp2_with (first
          | (go_at_call 85; refine c1.mono ?_; rintro e w1 ⟨rfl, hr1, hk1⟩; have hl1 := hr1.lt; have HK1 : Hid (Kb [R] w (w1.alloc (.cells #[.int .i64 (kind : Int), .string ⟨text.toArray⟩, .int .i64 (num : Int), .int .i64 (o' : Int), .int .i64 (line : Int), .int .i64 (col : Int)] 100))) := hide (hk1.alloc _))
          | (go_at_call 86; refine (c2 _).mono ?_; rintro e w2 ⟨rfl, hb2⟩; obtain ⟨t2, z2, l12⟩ := in_keeps (c2 := #[.int .i64 0, .int .i64 0, .slice none 0 0]) (t2 := 174) hb2; obtain ⟨q0, q1, q2, q3, q4, q5, q6⟩ := tok_cells t2; have HK2 : Hid (Kb [R] w (w2.alloc (.cells #[.int .i64 0, .int .i64 0, .slice none 0 0] 174))) := hide ((HK1.out.then_below hb2).alloc _); have hr2 := ((hr1.below (bnew w1 (.cells #[.int .i64 (kind : Int), .string ⟨text.toArray⟩, .int .i64 (num : Int), .int .i64 (o' : Int), .int .i64 (line : Int), .int .i64 (col : Int)] 100))).below hb2).below (bnew w2 (.cells #[.int .i64 0, .int .i64 0, .slice none 0 0] 174)); obtain ⟨hD2, hN2, hA2⟩ := HKD.out _ HK2.out)
          | (go_at_call 120; (with_reducible refine Calls.mono (HC2.out _ hD2 hr2) ?_); rintro e w3 ⟨hb3, aog, kg, mg, rfl, hDD, hgb⟩; have HGB := hide hgb; have zk3 := (hb3.block w2.heap.size (by simp)).trans z2; obtain ⟨HK3, hr3, hD3, hN3, tk3, zb3, hDD3⟩ := HSR.out w1 w2 w3 aog kg mg hk1.size l12 HK2.out hr2 hb3 t2 zk3 hDD)
          | refine wpList_store_row rfl _ _ _ rfl w2.heap.size _ rfl rfl _ _ zk3 (by exact infoDf) (by rfl) (allD3 _ _ _ _ _) ?_
          | (go_at_call 132; (with_reducible refine Calls.mono (HG.out _ hD3 hr3 hN3) ?_); rintro e w4 ⟨⟨ao4, n4, c4, rfl⟩, hk4⟩))
        go_ret
        exact ⟨rfl, (HK3.out.trans hk4).mono (by simp)⟩
      | ok l ts2 =>
        rw [h2] at HG
        simp only
        generalize hPP : (if ¬ l.Nodup ∨ l.length ≠ g.names then (Res.no 85 ⟨kind, text, num, o', line, col⟩ : Res (List PO)) else if 4096 < body.length + g.ops.length then Res.no 86 ⟨kind, text, num, o', line, col⟩ else Res.ok (body ++ g.ops.map (onP l)) ts2) = PP
        go_enter Tryz.func110, Tryz.ntmps110
        go_wp2_with (first
          | (go_at_call 85; refine c1.mono ?_; rintro e w1 ⟨rfl, hr1, hk1⟩; have hl1 := hr1.lt; have HK1 : Hid (Kb [R] w (w1.alloc (.cells #[.int .i64 (kind : Int), .string ⟨text.toArray⟩, .int .i64 (num : Int), .int .i64 (o' : Int), .int .i64 (line : Int), .int .i64 (col : Int)] 100))) := hide (hk1.alloc _))
          | (go_at_call 86; refine (c2 _).mono ?_; rintro e w2 ⟨rfl, hb2⟩; obtain ⟨t2, z2, l12⟩ := in_keeps (c2 := #[.int .i64 0, .int .i64 0, .slice none 0 0]) (t2 := 174) hb2; obtain ⟨q0, q1, q2, q3, q4, q5, q6⟩ := tok_cells t2; have HK2 : Hid (Kb [R] w (w2.alloc (.cells #[.int .i64 0, .int .i64 0, .slice none 0 0] 174))) := hide ((HK1.out.then_below hb2).alloc _); have hr2 := ((hr1.below (bnew w1 (.cells #[.int .i64 (kind : Int), .string ⟨text.toArray⟩, .int .i64 (num : Int), .int .i64 (o' : Int), .int .i64 (line : Int), .int .i64 (col : Int)] 100))).below hb2).below (bnew w2 (.cells #[.int .i64 0, .int .i64 0, .slice none 0 0] 174)); obtain ⟨hD2, hN2, hA2⟩ := HKD.out _ HK2.out)
          | (go_at_call 120; (with_reducible refine Calls.mono (HC2.out _ hD2 hr2) ?_); rintro e w3 ⟨hb3, aog, kg, mg, rfl, hDD, hgb⟩; have HGB := hide hgb; have zk3 := (hb3.block w2.heap.size (by simp)).trans z2; obtain ⟨HK3, hr3, hD3, hN3, tk3, zb3, hDD3⟩ := HSR.out w1 w2 w3 aog kg mg hk1.size l12 HK2.out hr2 hb3 t2 zk3 hDD)
          | refine wpList_store_row rfl _ _ _ rfl w2.heap.size _ rfl rfl _ _ zk3 (by exact infoDf) (by rfl) (allD3 _ _ _ _ _) ?_
          | (go_at_call 132; (with_reducible refine Calls.mono (HG.out _ hD3 hr3 hN3) ?_); rintro e V4 ⟨ao3, c3, rfl, hown3, hlt3, hlen3, hr4, hk4⟩))
        have hK4 : Kb [R] w V4 := HK3.out.trans hk4
        have tk4 : V4.heap[w1.heap.size]? = some (.cells #[.int .i64 (kind : Int), .string ⟨text.toArray⟩, .int .i64 (num : Int), .int .i64 (o' : Int), .int .i64 (line : Int), .int .i64 (col : Int)] 100) := (hk4.block _ (Array.getElem?_eq_some_iff.1 tk3).1 (by simp; omega)).trans tk3
        have zb4 : V4.heap[w2.heap.size]? = some (.cells #[.int .i64 (gn : Int), .int .i64 (gl : Int), .slice aog kg mg] 174) := (hk4.block _ (Array.getElem?_eq_some_iff.1 zb3).1 (by simp; omega)).trans zb3
        have hDD4 : DefD V4 B V4.heap.size g (.agg #[.int .i64 (gn : Int), .int .i64 (gl : Int), .slice aog kg mg]) := (hDD3.turn hr3 hk4).mono hk4.size
        have hI4 : Is V4 (.slice ao3 l.length c3) l := Is.of_own hown3
        clear hk4 hr3 hD3 hN3 tk3 zb3 hDD3 hown3
        obtain ⟨hD4, hN4, hA4⟩ := HKD.out V4 hK4
        have hl4 := hr4.lt
        have hlw := hK4.size
        have hi4 : ∀ i ∈ l, i < 4611686018427387903 := fun i hi => by have := hlt3 i hi; omega
        have c7 := once_vals l hi4 hlen3 ao3 c3 V4 hI4
        have HKX : Hid (∀ w6, Below V4.heap.size V4 w6 -> Kb (R :: D :: (ob ao).toList) w w6) := hide (fun w6 h => (hK4.then_below h).mono (by simp))
        have HX : Hid (∀ w6, Below V4.heap.size V4 w6 -> w6.heap[w1.heap.size]? = some (.cells #[.int .i64 (kind : Int), .string ⟨text.toArray⟩, .int .i64 (num : Int), .int .i64 (o' : Int), .int .i64 (line : Int), .int .i64 (col : Int)] 100) /\ w6.heap[w2.heap.size]? = some (.cells #[.int .i64 (gn : Int), .int .i64 (gl : Int), .slice aog kg mg] 174) /\ Rt w6 R (xOf L d) o ts2 /\ DfAt w6 D B B1 names.length ao body /\ DefD w6 B w6.heap.size g (.agg #[.int .i64 (gn : Int), .int .i64 (gl : Int), .slice aog kg mg]) /\ Is w6 (.slice ao3 l.length c3) l /\ V4.heap.size <= w6.heap.size) := hide (fun w6 h => ⟨(h.block _ (Array.getElem?_eq_some_iff.1 tk4).1).trans tk4, (h.block _ (Array.getElem?_eq_some_iff.1 zb4).1).trans zb4, hr4.below h, hA4.below h, (hDD4.below h).mono h.size, hI4.below h, h.size⟩)
        clear hD4 hN4 hA4 tk4 zb4 hDD4 hI4
        by_cases hnd : l.Nodup
        . have c8 : Calls Tryz.prog 118 #[.func (.func 154) #[] #[.pointer (some ⟨V4.heap.size, 0, none⟩)]] (V4.alloc (.cells #[.slice ao3 l.length c3] 32)) fun e w' => (∃ v, e = .returned (.tuple #[v, .bool true])) /\ Below V4.heap.size V4 w' := c7.mono (by
            rintro e w' ⟨h1, ⟨_, h2⟩ | ⟨h2, _⟩⟩
            . exact ⟨h2, h1⟩
            . exact absurd hnd h2)
          clear c7
          have HND := hide hnd
          by_cases hln : l.length = g.names
          . have e1 : ((l.length : Int) != (gn : Int)) = false := by have := HGN.out; simp; omega
            have e2 : ((l.length : Int) == (gn : Int)) = true := by have := HGN.out; simp; omega
            have HLN := hide hln
            rw [if_neg (by rw [not_or]; exact ⟨fun h => h hnd, fun h => h hln⟩)] at hPP
            by_cases h86 : 4096 < body.length + g.ops.length
            . rw [if_pos h86] at hPP
              subst hPP
              have hwr : IntKind.i64.wrap ((bl : Int) + (gl : Int)) = (bl : Int) + (gl : Int) := wrapN _ (by omega) (by have := HBL.out; have := HGB.out; omega)
              have hd1 : decide ((bl : Int) + (gl : Int) > 4096) = true := decide_eq_true (by have := HGL.out; have := HBL.out; omega)
              have hd2 : decide ((4096 : Int) < (bl : Int) + (gl : Int)) = true := decide_eq_true (by have := HGL.out; have := HBL.out; omega)
              clear h86 hnd hln
              go_wp2_with (first
                | (go_at_call 134; refine (cVals _ _ _ _).mono ?_; rintro e w5 ⟨rfl, rfl⟩)
                | (go_at_call 118; (with_reducible refine Calls.mono c8 ?_); rintro e w6 ⟨⟨v6, rfl⟩, hb6⟩; obtain ⟨tk6, zb6, hr6, hA6, hDD6, hI6, hs6⟩ := HX.out w6 hb6; obtain ⟨r0, r1, r2, r3, r4, r5, r6⟩ := tok_cells tk6; obtain ⟨g0, g1, g2, g3⟩ := def_cells zb6; obtain ⟨-, d1, d2⟩ := hA6.cells; have HB6 := hide hb6; have HDD := hide hDD6; have HI6 := hide hI6; have HA6 := hide hA6; have HR6 := hide hr6; rw [HBL.out] at d1; unfold iv at d1; clear hb6 hDD6 hI6 hA6 hr6 tk6 zb6))
              go_region
              go_wp2_with (first | (go_at_call 87; refine (c86 _).mono ?_; rintro e w7 ⟨rfl, hb7⟩))
              go_ret
              exact ⟨rfl, (HKX.out w6 HB6.out).then_below ⟨hb7.os, hb7.tape, hb7.output, hb7.size, hb7.block⟩⟩
            . rw [if_neg h86] at hPP
              subst hPP
              have hwr : IntKind.i64.wrap ((bl : Int) + (gl : Int)) = (bl : Int) + (gl : Int) := wrapN _ (by omega) (by have := HBL.out; have := HGB.out; omega)
              have hd1 : decide ((bl : Int) + (gl : Int) > 4096) = false := decide_eq_false (by have := HGL.out; have := HBL.out; omega)
              have hd2 : decide ((4096 : Int) < (bl : Int) + (gl : Int)) = false := decide_eq_false (by have := HGL.out; have := HBL.out; omega)
              have H86 : Hid (body.length + g.ops.length <= 4096) := hide (by omega)
              clear h86 hnd hln
              go_wp2_with (first
                | (go_at_call 134; refine (cVals _ _ _ _).mono ?_; rintro e w5 ⟨rfl, rfl⟩)
                | (go_at_call 118; (with_reducible refine Calls.mono c8 ?_); rintro e w6 ⟨⟨v6, rfl⟩, hb6⟩; obtain ⟨tk6, zb6, hr6, hA6, hDD6, hI6, hs6⟩ := HX.out w6 hb6; obtain ⟨r0, r1, r2, r3, r4, r5, r6⟩ := tok_cells tk6; obtain ⟨g0, g1, g2, g3⟩ := def_cells zb6; obtain ⟨-, d1, d2⟩ := hA6.cells; have HB6 := hide hb6; have HDD := hide hDD6; have HI6 := hide hI6; have HA6 := hide hA6; have HR6 := hide hr6; rw [HBL.out] at d1; unfold iv at d1; clear hb6 hDD6 hI6 hA6 hr6 tk6 zb6))
              go_region
              have c9 := cPut D B B1 names.length ao body g (.agg #[.int .i64 (gn : Int), .int .i64 (gl : Int), .slice aog kg mg]) ao3 c3 l w6.drew (HA6.out.below (Below.refl _ _).drew) hB (show B1 <= w6.heap.size by omega) (HDD.out.below (Below.refl _ _).drew) (HI6.out.below (Below.refl _ _).drew) hlt3 hlen3 HLN.out.symm H86.out
              go_wp2_with (first | (go_at_call 135; (with_reducible refine Calls.mono c9 ?_); rintro e w7 ⟨rfl, ao7, hA7, hk7, hb7⟩))
              go_ret
              refine ⟨rfl, ao7, ?_, hA7, ?_, ?_, ?_⟩
              . exact rt_put (HR6.out.below (Below.refl _ _).drew) (HA6.out.below (Below.refl _ _).drew) hk7
              . rw [List.length_append, List.length_map]; exact H86.out
              . exact (HKX.out w6 HB6.out).trans (Kb.mono (Kb.undrew hk7) (fun m hm => List.mem_cons_of_mem _ hm))
              . intro b hb
                rcases hb7 b hb with e | e
                . exact .inl e
                . exact .inr (Nat.le_trans hlw (Nat.le_trans hs6 e))
          . have e1 : ((l.length : Int) != (gn : Int)) = true := by have := HGN.out; simp; omega
            have e2 : ((l.length : Int) == (gn : Int)) = false := by have := HGN.out; simp; omega
            rw [if_pos (.inr hln)] at hPP
            subst hPP
            clear hnd hln
            go_wp2_with (first
              | (go_at_call 134; refine (cVals _ _ _ _).mono ?_; rintro e w5 ⟨rfl, rfl⟩)
              | (go_at_call 118; (with_reducible refine Calls.mono c8 ?_); rintro e w6 ⟨⟨v6, rfl⟩, hb6⟩; obtain ⟨tk6, zb6, hr6, hA6, hDD6, hI6, hs6⟩ := HX.out w6 hb6; obtain ⟨r0, r1, r2, r3, r4, r5, r6⟩ := tok_cells tk6; obtain ⟨g0, g1, g2, g3⟩ := def_cells zb6; obtain ⟨-, d1, d2⟩ := hA6.cells; have HB6 := hide hb6; have HDD := hide hDD6; have HI6 := hide hI6; have HA6 := hide hA6; have HR6 := hide hr6; rw [HBL.out] at d1; unfold iv at d1; clear hb6 hDD6 hI6 hA6 hr6 tk6 zb6)
              | (go_at_call 87; refine (c85 _).mono ?_; rintro e w7 ⟨rfl, hb7⟩))
            go_ret
            exact ⟨rfl, (HKX.out w6 HB6.out).then_below hb7⟩
        . have c8 : Calls Tryz.prog 118 #[.func (.func 154) #[] #[.pointer (some ⟨V4.heap.size, 0, none⟩)]] (V4.alloc (.cells #[.slice ao3 l.length c3] 32)) fun e w' => (e = .returned (.tuple #[.slice none 0 0, .bool false])) /\ Below V4.heap.size V4 w' := c7.mono (by
            rintro e w' ⟨h1, ⟨h2, _⟩ | ⟨_, h2⟩⟩
            . exact absurd h2 hnd
            . exact ⟨h2, h1⟩)
          clear c7
          rw [if_pos (.inl hnd)] at hPP
          subst hPP
          clear hnd
          go_wp2_with (first
            | (go_at_call 134; refine (cVals _ _ _ _).mono ?_; rintro e w5 ⟨rfl, rfl⟩)
            | (go_at_call 118; (with_reducible refine Calls.mono c8 ?_); rintro e w6 ⟨rfl, hb6⟩; obtain ⟨tk6, zb6, hr6, hA6, hDD6, hI6, hs6⟩ := HX.out w6 hb6; obtain ⟨r0, r1, r2, r3, r4, r5, r6⟩ := tok_cells tk6; obtain ⟨g0, g1, g2, g3⟩ := def_cells zb6; obtain ⟨-, d1, d2⟩ := hA6.cells; have HB6 := hide hb6; have HDD := hide hDD6; have HI6 := hide hI6; have HA6 := hide hA6; have HR6 := hide hr6; rw [HBL.out] at d1; unfold iv at d1; clear hb6 hDD6 hI6 hA6 hr6 tk6 zb6)
            | (go_at_call 87; refine (c85 _).mono ?_; rintro e w7 ⟨rfl, hb7⟩))
          go_ret
          exact ⟨rfl, (HKX.out w6 HB6.out).then_below hb7⟩
theorem cInclude (R : Nat) (x : X) (o : Value) (ts : List T) (w : World) (hR : Rt w R x o ts) :
    Calls Tryz.prog 88 #[.pointer (some ⟨R, 0, none⟩)] w (PT R x o w (fun _ => .nilIface) id (pInclude ts)) := by
  have c1 := cExpect R x o ts 4 [113, 101, 108, 105, 98, 49, 46, 105, 110, 99] w hR
  have eG := erG
  have eN := erN
  unfold pInclude
  cases h1 : pExp 4 [113, 101, 108, 105, 98, 49, 46, 105, 110, 99] ts with
  | no c t =>
    rw [h1] at c1
    go_enter Tryz.func88, Tryz.ntmps88
    go_wp2_with (first | (go_at_call 57; refine c1.mono ?_; rintro e w1 ⟨rfl, hn1, hk1⟩))
    go_ret
    exact ⟨rfl, hn1, hk1⟩
  | ok u ts1 =>
    rw [h1] at c1
    simp only
    have c2 := fun W (h : Rt W R x o ts1) => cMark1 R x o ts1 [59] W h
    go_enter Tryz.func88, Tryz.ntmps88
    go_wp2_with (first | (go_at_call 57; refine c1.mono ?_; rintro e w1 ⟨rfl, hr1, hk1⟩))
    refine (c2 _ hr1).mono ?_
    intro e w2 h2
    cases h3 : pMks [[59]] ts1 with
    | no c t =>
      rw [h3] at h2
      obtain ⟨rfl, hn2, hk2⟩ := h2
      go_wp2_with fail
      go_ret
      rw [h3]
      exact ⟨rfl, hn2, hk1.trans hk2⟩
    | ok u ts2 =>
      rw [h3] at h2
      obtain ⟨rfl, hr2, hk2⟩ := h2
      go_wp2_with fail
      go_ret
      rw [h3]
      exact ⟨rfl, hr2, hk1.trans hk2⟩
theorem RM.store {w : World} {b : Nat} {f : Nm -> Option Rg} {n : Nat} (hn : n < 64) (h : Mp w b n (fun x => (f x).map rgV)) (x : Nm) (hx : x.length <= 140737488355328) (r : Rg) :
    ∃ w', (Instr.mapUpdate 60 (.map (some b)) (.string ⟨x.toArray⟩) (rgV r)).run Tryz.prog w = .ok () w' /\ Mp w' b (n + 1) (fun y => (put f x r y).map rgV) /\ w.grownBy w' (some b) := by
  obtain ⟨w', h1, h2, h3⟩ := h.store Tryz.underlying60 (by omega) x hx (rgV r)
  refine ⟨w', h1, ?_, h3⟩
  have e : (fun y => (put f x r y).map rgV) = fun y => if y = x then some (rgV r) else (f y).map rgV := by
    funext y
    unfold put
    by_cases h : y = x
    . simp [h]
    . simp [h]
  rw [e]
  exact h2
theorem cAdd (g off b : Nat) (f : Nm -> Option Rg) (x : Nm) (hx : x.length <= 140737488355328) (n sz m : Nat) (hn : n < 64) (hs : sz + m <= 64) (w : World) (hc0 : w.cell? ⟨g, off, none⟩ = some (.map (some b))) (hc1 : w.cell? ⟨g, off + 1, none⟩ = some (.int .i64 (sz : Int))) (hf : w.frozen? ⟨g, off + 1, none⟩ = false) (hM : Mp w b n (fun x => (f x).map rgV)) (hgb : g ≠ b) :
    Calls Tryz.prog 107 #[.pointer (some ⟨g, off, none⟩), .string ⟨x.toArray⟩, .int .i64 (m : Int)] w fun e w' => e = .returned (.tuple #[]) /\ ∃ w1, Mp w1 b (n + 1) (fun y => (put f x ⟨sz, m⟩ y).map rgV) /\ w.grownBy w1 (some b) /\ w' = w1.setCell ⟨g, off + 1, none⟩ (.int .i64 ((sz + m : Nat) : Int)) := by
  obtain ⟨w1, hu, hM1, hg1⟩ := RM.store hn (w := w.drew) hM x hx ⟨sz, m⟩
  have hlt : g < w.heap.size := World.block_lt_of_cell? _ _ hc0
  have hb1 := hg1.block g hlt (by simpa using hgb)
  have d1 : w1.cell? ⟨g, off + 1, none⟩ = some (.int .i64 (sz : Int)) := (World.cell?_of_block (w := w) hb1).trans hc1
  have df : w1.frozen? ⟨g, off + 1, none⟩ = false := (World.frozen?_of_block (w := w) hb1).trans hf
  unfold rgV at hu
  simp only at hu
  clear hM
  go_enter Tryz.func107, Tryz.ntmps107
  go_wp2_with fail
  go_region
  have hsm : ((sz : Int) + (m : Int)) = ((sz + m : Nat) : Int) := by omega
  have Hsm := hide hsm
  clear hsm
  go_wp2_with fail
  go_end0
  exact ⟨rfl, w1, hM1, ⟨hg1.os, hg1.tape, hg1.output, hg1.size, hg1.block⟩, by rw [← Hsm.out]⟩
theorem pNew_len {d : Dc} {ts : List T} {x : Nm} {ts' : List T} (h : pNew d ts = .ok x ts') : x = (hd ts).text /\ ts' = tl ts := by
  unfold pNew at h
  split at h
  . cases h
  . rename_i h1
    split at h
    . cases h
    . simp only [Res.ok.injEq] at h
      obtain ⟨e1, e2⟩ := pNam_ok h1
      rw [← h.1, ← h.2, e1, e2]
      exact ⟨rfl, rfl⟩
def setA (x : X) (off : Nat) (n : Nat) : X := if off = 0 then { x with a1 := .int .i64 (n : Int) } else { x with a4 := .int .i64 (n : Int) }
def PB (R : Nat) (x : X) (o : Value) (m off : Nat) (w : World) (P : Res Bk) (e : Ending) (w' : World) : Prop := match P with
  | .ok b ts' => e = .returned .nilIface /\ Rt w' R (setA x off b.size) o ts' /\ RQ w' m b /\ Kb [R, m] w w'
  | .no c t => e = .returned (erV c t) /\ Kb [R, m] w w'
theorem kb2 {R m : Nat} {w w' : World} (h : Kb [R] w w') : Kb [R, m] w w' := h.mono (by simp)
theorem cRegister (w0 : World) (R : Nat) (L : Ly) (B N : Nat) (d : Dc) (o : Value) (m off : Nat) (b : Bk) (hsel : (m = L.mq /\ off = 0 /\ b = d.q) ∨ (m = L.mb /\ off = 3 /\ b = d.b)) (ts : List T) (w : World) (hD : Rdr w0 w R L B N d) (hR : Rt w R (xOf L d) o ts) :
    Calls Tryz.prog 89 #[.pointer (some ⟨R, 0, none⟩), .pointer (some ⟨R, off, none⟩)] w (PB R (xOf L d) o m off w (pRegister d b ts)) := by
  have eG := erG
  have eN := erN
  have c1 := cNewName w0 R L B N d o ts w hD hR
  have hTx := hR.fine.hd
  have hsz : b.size <= 64 := by rcases hsel with ⟨_, _, rfl⟩ | ⟨_, _, rfl⟩; exact hD.ok.q; exact hD.ok.b
  have hcl : ∀ W ts', Rt W R (xOf L d) o ts' -> W.cell? ⟨R, off, none⟩ = some (.map (some m)) /\ W.cell? ⟨R, off + 1, none⟩ = some (.int .i64 (b.size : Int)) /\ W.cell? ⟨R, off + 2, none⟩ = some (.int .i64 64) := by
    intro W ts' h
    obtain ⟨q0, q1, q2, q3, q4, q5, _⟩ := h.cells
    rcases hsel with ⟨rfl, rfl, rfl⟩ | ⟨rfl, rfl, rfl⟩
    . exact ⟨q0, q1, q2⟩
    . exact ⟨q3, q4, q5⟩
  have hRQ : ∀ W, Rdr w0 W R L B N d -> RQ W m b := by
    intro W h
    rcases hsel with ⟨rfl, rfl, rfl⟩ | ⟨rfl, rfl, rfl⟩
    . exact h.mq
    . exact h.mb
  unfold pRegister
  cases h1 : pNew d ts with
  | no c t =>
    rw [h1] at c1
    go_enter Tryz.func89, Tryz.ntmps89
    go_wp2_with (first | (go_at_call 105; refine c1.mono ?_; rintro e w1 ⟨rfl, hn1, hk1⟩))
    go_ret
    exact ⟨rfl, kb2 hk1⟩
  | ok x ts1 =>
    rw [h1] at c1
    have hxl : x.length <= 140737488355328 := by rw [(pNew_len h1).1]; omega
    simp only
    have c2 := fun W (h : Rt W R (xOf L d) o ts1) => cMark1 R (xOf L d) o ts1 [91] W h
    cases h2 : pMks [[91]] ts1 with
    | no c t =>
      rw [h2] at c2
      go_enter Tryz.func89, Tryz.ntmps89
      go_wp2_with (first
        | (go_at_call 105; refine c1.mono ?_; rintro e w1 ⟨rfl, hr1, hk1⟩)
        | (go_at_call 58; refine (c2 _ hr1).mono ?_; rintro e w2 ⟨rfl, hn2, hk2⟩))
      go_ret
      exact ⟨rfl, kb2 (hk1.trans hk2)⟩
    | ok u ts2 =>
      rw [h2] at c2
      simp only
      obtain ⟨q, hq⟩ : ∃ q : Int, q = 64 - (b.size : Int) := ⟨_, rfl⟩
      have hw : IntKind.i64.wrap (64 - (b.size : Int)) = q := by rw [hq]; exact wrapN _ (by omega) (by omega)
      have c3 := fun W (h : Rt W R (xOf L d) o ts2) => cNumber R (xOf L d) o ts2 1 q W h
      rw [← hq]
      have Hq := hide hq
      clear hq
      cases h3 : pNum 1 q ts2 with
      | no c t =>
        rw [h3] at c3
        go_enter Tryz.func89, Tryz.ntmps89
        go_wp2_with (first
          | (go_at_call 105; refine c1.mono ?_; rintro e w1 ⟨rfl, hr1, hk1⟩)
          | (go_at_call 58; refine (c2 _ hr1).mono ?_; rintro e w2 ⟨rfl, hr2, hk2⟩))
        have k12 := hcl _ _ hr2
        have HS0 : Hid (w2.drew.cell? ⟨R, off + 1, none⟩ = some (.int .i64 (b.size : Int)) /\ w2.drew.cell? ⟨R, off + 2, none⟩ = some (.int .i64 64)) := hide k12.2
        have HS2 : Hid (∀ w3, (∃ ts', Rt w3 R (xOf L d) o ts') -> w3.cell? ⟨R, off + 1, none⟩ = some (.int .i64 (b.size : Int)) /\ w3.cell? ⟨R, off + 2, none⟩ = some (.int .i64 64)) := hide (fun w3 h => by obtain ⟨ts', h⟩ := h; exact (hcl _ _ h).2)
        have c4 := c3 w2.drew hr2
        clear c1 c2 c3 k12
        go_region_held3 (fun V => V.cell? ⟨R, off + 1, none⟩ = some (.int .i64 (b.size : Int)) /\ V.cell? ⟨R, off + 2, none⟩ = some (.int .i64 64))
          (first | (with_reducible exact HS0.out) | (with_reducible assumption))
          (first | (go_at_call 106; (with_reducible refine Calls.mono c4 ?_); rintro e w3 ⟨rfl, hn3, hk3⟩; have hS := HS2.out w3 hn3))
        go_wp2_with fail
        go_ret
        exact ⟨rfl, kb2 ((hk1.trans hk2).trans hk3.undrew)⟩
      | ok n ts3 =>
        rw [h3] at c3
        simp only
        have hn : 1 <= n /\ b.size + n <= 64 := by
          unfold pNum at h3
          split at h3
          . cases h3
          . split at h3
            . cases h3
            . rename_i _ hh
              simp only [Res.ok.injEq] at h3
              have := Hq.out
              omega
        have c5 := fun W (h : Rt W R (setA (xOf L d) off (b.size + n)) o ts3) => cMark2 R (setA (xOf L d) off (b.size + n)) o ts3 [93] [59] W h
        cases h4 : pMks [[93], [59]] ts3 with
        | no c t =>
          rw [h4] at c5
          go_enter Tryz.func89, Tryz.ntmps89
          go_wp2_with (first
            | (go_at_call 105; refine c1.mono ?_; rintro e w1 ⟨rfl, hr1, hk1⟩)
            | (go_at_call 58; refine (c2 _ hr1).mono ?_; rintro e w2 ⟨rfl, hr2, hk2⟩))
          have k12 := hcl _ _ hr2
          have HS0 : Hid (w2.drew.cell? ⟨R, off + 1, none⟩ = some (.int .i64 (b.size : Int)) /\ w2.drew.cell? ⟨R, off + 2, none⟩ = some (.int .i64 64)) := hide k12.2
          have HS2 : Hid (∀ w3, (∃ ts', Rt w3 R (xOf L d) o ts') -> w3.cell? ⟨R, off + 1, none⟩ = some (.int .i64 (b.size : Int)) /\ w3.cell? ⟨R, off + 2, none⟩ = some (.int .i64 64)) := hide (fun w3 h => by obtain ⟨ts', h⟩ := h; exact (hcl _ _ h).2)
          have c4 := c3 w2.drew hr2
          clear c1 c2 c3 k12
          go_region_held3 (fun V => V.cell? ⟨R, off + 1, none⟩ = some (.int .i64 (b.size : Int)) /\ V.cell? ⟨R, off + 2, none⟩ = some (.int .i64 64))
            (first | (with_reducible exact HS0.out) | (with_reducible assumption))
            (first | (go_at_call 106; (with_reducible refine Calls.mono c4 ?_); rintro e w3 ⟨rfl, hr3, hk3⟩; have hS := HS2.out w3 ⟨_, hr3⟩))
          have hkw : Kb [R] w w3 := (hk1.trans hk2).trans hk3.undrew
          obtain ⟨nn, hnn, hMp⟩ := hRQ _ (hD.turn hR hkw)
          obtain ⟨k0, k1, k2⟩ := hcl _ _ hr3
          obtain ⟨⟨v3, hb3, _⟩, _⟩ := id hr3
          have hRm : R ≠ m := fun e => hMp.ne (by rw [← e] at *; exact hb3) e.symm
          have c6 := cAdd R off m b.find x hxl nn b.size n (by omega) hn.2 w3 k0 k1 (hr3.free _) hMp hRm
          clear hS k0 k1 k2
          go_wp2_with (first
            | (go_at_call 107; refine c6.mono ?_; rintro e w5 ⟨rfl, w4, hM4, hg4, rfl⟩))
          have hb4 := (hg4.block R hr3.lt (by simpa using hRm)).trans hb3
          have hRt : Rt (w4.setCell ⟨R, off + 1, none⟩ (.int .i64 ((b.size : Int) + (n : Int)))) R (setA (xOf L d) off (b.size + n)) o ts3 := by
            obtain ⟨tcs, tfr, htb⟩ := hr3.btB
            have hbm : some (xOf L d).bt ≠ some m := fun e => hMp.ne htb (Option.some.inj e).symm
            have hbR : (xOf L d).bt ≠ R := fun e => by rw [e, hb3] at htb; simp [rbO] at htb
            have htk : Tks (w4.setCell ⟨R, off + 1, none⟩ (.int .i64 ((b.size : Int) + (n : Int)))) (xOf L d).bt v3 ts3 := by
              obtain ⟨⟨v3', hb3', hT⟩, _⟩ := id hr3
              rw [hb3] at hb3'
              have : v3 = v3' := by simp [rbO] at hb3'; exact hb3'
              rw [this]
              exact hT.of_block ((Below.heap_setCell _ _ _ _ hbR).trans (hg4.block _ hr3.bt hbm))
            refine ⟨⟨v3, ?_, ?_⟩, hr3.fine⟩
            . unfold rbO at hb4
              rcases hsel with ⟨rfl, rfl, rfl⟩ | ⟨rfl, rfl, rfl⟩
              . rw [setCell_eq_setRow _ _ 1 _ _ _ _ hb4, setRow_heap _ _ _ _ _ _ hb4]
                simp [rbO, setA, xOf]
              . rw [setCell_eq_setRow _ _ 4 _ _ _ _ hb4, setRow_heap _ _ _ _ _ _ hb4]
                simp [rbO, setA, xOf]
            . have e : (setA (xOf L d) off (b.size + n)).bt = (xOf L d).bt := by unfold setA; split <;> rfl
              rw [e]
              exact htk
          have c7 := c5 _ hRt
          rw [show (w4.setCell ⟨R, off + 1, none⟩ (.int .i64 ((b.size : Int) + (n : Int)))).heap.size = w4.heap.size by simp [World.setCell]] at c7
          have hK5 : Kb [R, m] w (w4.setCell ⟨R, off + 1, none⟩ (.int .i64 ((b.size : Int) + (n : Int)))) := ((kb2 hkw).grown hg4 (fun k hk => by cases hk; exact .inl (by simp))).setCell (.inl (by simp)) _
          have hM5 : Mp (w4.setCell ⟨R, off + 1, none⟩ (.int .i64 ((b.size : Int) + (n : Int)))) m (nn + 1) (fun y => (put b.find x ⟨b.size, n⟩ y).map rgV) := hM4.of_block (Below.heap_setCell _ _ _ _ hRm.symm)
          generalize (w4.setCell ⟨R, off + 1, none⟩ (.int .i64 ((b.size : Int) + (n : Int)))) = W5 at *
          refine c7.mono ?_
          rintro e w6 ⟨rfl, hn6, hk6⟩
          go_wp2_with fail
          go_ret
          exact ⟨rfl, hK5.trans (kb2 hk6)⟩
        | ok u ts4 =>
          rw [h4] at c5
          go_enter Tryz.func89, Tryz.ntmps89
          go_wp2_with (first
            | (go_at_call 105; refine c1.mono ?_; rintro e w1 ⟨rfl, hr1, hk1⟩)
            | (go_at_call 58; refine (c2 _ hr1).mono ?_; rintro e w2 ⟨rfl, hr2, hk2⟩))
          have k12 := hcl _ _ hr2
          have HS0 : Hid (w2.drew.cell? ⟨R, off + 1, none⟩ = some (.int .i64 (b.size : Int)) /\ w2.drew.cell? ⟨R, off + 2, none⟩ = some (.int .i64 64)) := hide k12.2
          have HS2 : Hid (∀ w3, (∃ ts', Rt w3 R (xOf L d) o ts') -> w3.cell? ⟨R, off + 1, none⟩ = some (.int .i64 (b.size : Int)) /\ w3.cell? ⟨R, off + 2, none⟩ = some (.int .i64 64)) := hide (fun w3 h => by obtain ⟨ts', h⟩ := h; exact (hcl _ _ h).2)
          have c4 := c3 w2.drew hr2
          clear c1 c2 c3 k12
          go_region_held3 (fun V => V.cell? ⟨R, off + 1, none⟩ = some (.int .i64 (b.size : Int)) /\ V.cell? ⟨R, off + 2, none⟩ = some (.int .i64 64))
            (first | (with_reducible exact HS0.out) | (with_reducible assumption))
            (first | (go_at_call 106; (with_reducible refine Calls.mono c4 ?_); rintro e w3 ⟨rfl, hr3, hk3⟩; have hS := HS2.out w3 ⟨_, hr3⟩))
          have hkw : Kb [R] w w3 := (hk1.trans hk2).trans hk3.undrew
          obtain ⟨nn, hnn, hMp⟩ := hRQ _ (hD.turn hR hkw)
          obtain ⟨k0, k1, k2⟩ := hcl _ _ hr3
          obtain ⟨⟨v3, hb3, _⟩, _⟩ := id hr3
          have hRm : R ≠ m := fun e => hMp.ne (by rw [← e] at *; exact hb3) e.symm
          have c6 := cAdd R off m b.find x hxl nn b.size n (by omega) hn.2 w3 k0 k1 (hr3.free _) hMp hRm
          clear hS k0 k1 k2
          go_wp2_with (first
            | (go_at_call 107; refine c6.mono ?_; rintro e w5 ⟨rfl, w4, hM4, hg4, rfl⟩))
          have hb4 := (hg4.block R hr3.lt (by simpa using hRm)).trans hb3
          have hRt : Rt (w4.setCell ⟨R, off + 1, none⟩ (.int .i64 ((b.size : Int) + (n : Int)))) R (setA (xOf L d) off (b.size + n)) o ts3 := by
            obtain ⟨tcs, tfr, htb⟩ := hr3.btB
            have hbm : some (xOf L d).bt ≠ some m := fun e => hMp.ne htb (Option.some.inj e).symm
            have hbR : (xOf L d).bt ≠ R := fun e => by rw [e, hb3] at htb; simp [rbO] at htb
            have htk : Tks (w4.setCell ⟨R, off + 1, none⟩ (.int .i64 ((b.size : Int) + (n : Int)))) (xOf L d).bt v3 ts3 := by
              obtain ⟨⟨v3', hb3', hT⟩, _⟩ := id hr3
              rw [hb3] at hb3'
              have : v3 = v3' := by simp [rbO] at hb3'; exact hb3'
              rw [this]
              exact hT.of_block ((Below.heap_setCell _ _ _ _ hbR).trans (hg4.block _ hr3.bt hbm))
            refine ⟨⟨v3, ?_, ?_⟩, hr3.fine⟩
            . unfold rbO at hb4
              rcases hsel with ⟨rfl, rfl, rfl⟩ | ⟨rfl, rfl, rfl⟩
              . rw [setCell_eq_setRow _ _ 1 _ _ _ _ hb4, setRow_heap _ _ _ _ _ _ hb4]
                simp [rbO, setA, xOf]
              . rw [setCell_eq_setRow _ _ 4 _ _ _ _ hb4, setRow_heap _ _ _ _ _ _ hb4]
                simp [rbO, setA, xOf]
            . have e : (setA (xOf L d) off (b.size + n)).bt = (xOf L d).bt := by unfold setA; split <;> rfl
              rw [e]
              exact htk
          have c7 := c5 _ hRt
          rw [show (w4.setCell ⟨R, off + 1, none⟩ (.int .i64 ((b.size : Int) + (n : Int)))).heap.size = w4.heap.size by simp [World.setCell]] at c7
          have hK5 : Kb [R, m] w (w4.setCell ⟨R, off + 1, none⟩ (.int .i64 ((b.size : Int) + (n : Int)))) := ((kb2 hkw).grown hg4 (fun k hk => by cases hk; exact .inl (by simp))).setCell (.inl (by simp)) _
          have hM5 : Mp (w4.setCell ⟨R, off + 1, none⟩ (.int .i64 ((b.size : Int) + (n : Int)))) m (nn + 1) (fun y => (put b.find x ⟨b.size, n⟩ y).map rgV) := hM4.of_block (Below.heap_setCell _ _ _ _ hRm.symm)
          generalize (w4.setCell ⟨R, off + 1, none⟩ (.int .i64 ((b.size : Int) + (n : Int)))) = W5 at *
          refine c7.mono ?_
          rintro e w6 ⟨rfl, hr6, hk6⟩
          go_wp2_with fail
          go_ret
          exact ⟨rfl, hr6, ⟨nn + 1, by show nn + 1 <= b.size + n; omega, hM5.kept hk6 (by simpa using hRm.symm)⟩, hK5.trans (kb2 hk6)⟩
end Go.Proofs.YtnghfdnlcnocjaaGreatDoor.Cir
