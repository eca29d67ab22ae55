import Derived.Test.YtnghfdnlcnocjaaGreatDoorE5c49fa65
set_option maxRecDepth 100000
set_option maxHeartbeats 4000000
namespace Go.Proofs.YtnghfdnlcnocjaaGreatDoor.Cir
open Go.RowKit Go.Shelf Go.Proofs.YtnghfdnlcnocjaaGreatDoor.Oct Go.Proofs.YtnghfdnlcnocjaaGreatDoor.Tok Go.Proofs.YtnghfdnlcnocjaaGreatDoor.Gt
def PPu (D B B1 n : Nat) (ao : Option Addr) (body : List PO) (w : World) (e : Ending) (w' : World) : Prop := e = .returned (.tuple #[]) /\ ∃ ao', DfAt w' D B B1 n ao' body /\ Kb (D :: (ob ao).toList) w w' /\ ∀ b, ob ao' = some b -> ob ao = some b ∨ w.heap.size <= b
theorem put_base {w V : World} {D n k c : Nat} {ao : Option Addr} {bl m : Nat} {gs : Array Value} {tg : TypeId} (hD : w.heap[D]? = some (.cells #[iv n, iv bl, .slice ao k c] 174 (0, 0))) (hV : ((w.setCell ⟨D, 1, none⟩ (.int .i64 ((bl : Int) + (m : Int)))).alloc (.cells gs tg)).drew = V) :
    V.heap[D]? = some (.cells #[iv n, iv (bl + m), .slice ao k c] 174 (0, 0)) /\ V.heap[w.heap.size]? = some (.cells gs tg (0, 0)) /\ Kb [D] w V /\ V.heap.size = w.heap.size + 1 := by
  have hl := (Array.getElem?_eq_some_iff.1 hD).1
  have e : (w.setCell ⟨D, 1, none⟩ (.int .i64 ((bl : Int) + (m : Int)))).heap.size = w.heap.size := by simp [World.setCell]
  subst hV
  refine ⟨?_, ?_, ?_, ?_⟩
  . refine (Below.heap_alloc _ _ _ (by rw [e]; exact hl)).trans ?_
    rw [setCell_eq_setRow _ _ 1 _ _ _ _ hD, setRow_heap _ _ _ _ _ _ hD]
    simp [iv]
  . have := heap_alloc_new (w.setCell ⟨D, 1, none⟩ (.int .i64 ((bl : Int) + (m : Int)))) (.cells gs tg)
    rw [e] at this
    exact this
  . have := ((Kb.refl [D] w).setCell (p := ⟨D, 1, none⟩) (.inl (by simp)) (.int .i64 ((bl : Int) + (m : Int)))).alloc (.cells gs tg)
    exact ⟨this.os, this.tape, this.output, this.size, this.block⟩
  . show ((w.setCell ⟨D, 1, none⟩ (.int .i64 ((bl : Int) + (m : Int)))).alloc (.cells gs tg)).heap.size = _
    rw [World.size_alloc, e]
theorem put_rows {w V : World} {D B B1 n k c dd : Nat} {ao : Option Addr} {x0 x1 x2 : Value} {ss : List Sx} (hD : w.heap[D]? = some (.cells #[x0, x1, x2] 174 (0, 0))) (hown : w.ownsRow B1 222 4 (.slice ao k c) k (ss.flatMap Sx.cells)) (hst : ∀ s ∈ ss, StOk dd w B n s) (hk : Kb [D] w V) :
    V.ownsRow B1 222 4 (.slice ao k c) k (ss.flatMap Sx.cells) /\ ∀ s ∈ ss, StOk dd V B n s := by
  have key : ∀ (g : Nat) (cs : Array Value) (t : TypeId) (fr : Nat × Nat), w.heap[g]? = some (Obj.cells cs t fr) -> t ≠ 174 -> V.heap[g]? = w.heap[g]? := fun g cs t fr hg ht => hk.block g (Array.getElem?_eq_some_iff.1 hg).1 (fun e => by
    rw [List.mem_singleton] at e
    rw [e, hD] at hg
    simp only [Option.some.injEq, Obj.cells.injEq] at hg
    exact ht hg.2.1.symm)
  refine ⟨own_of_block hown (fun b hb => ?_), fun s hs => (hst s hs).block (fun g cs fr hg => key _ _ _ _ hg (by decide)) (fun g _ cs fr hg => key _ _ _ _ hg (by decide))⟩
  obtain ⟨cs, fr, hg⟩ := own_cells' hown hb
  exact key _ _ _ _ hg (by decide)
theorem put_cells {V w6 : World} {D B1 g6 k c cap : Nat} {ao : Option Addr} {x0 x1 : Value} {xs : List Value} {z0 z1 z2 z3 : Value} (hD : V.heap[D]? = some (.cells #[x0, x1, .slice ao k c] 174 (0, 0)))
    (hown : V.ownsRow B1 222 4 (.slice ao k c) k xs) (h6 : w6.ownsRow B1 222 4 (.slice (some ⟨g6, 0, none⟩) (k + 1) cap) (k + 1) (xs ++ [z0, z1, z2, z3])) (hg : V.grownBy w6 (ob ao)) :
    w6.cell? ⟨D, 2, none⟩ = some (.slice ao k c) /\ w6.frozen? ⟨D, 2, none⟩ = false /\ w6.cell? ⟨g6, k * 4, none⟩ = some z0 /\ w6.cell? ⟨g6, k * 4 + 1, none⟩ = some z1 /\ w6.cell? ⟨g6, k * 4 + 2, none⟩ = some z2 /\ w6.cell? ⟨g6, k * 4 + 3, none⟩ = some z3 /\ (∀ j, w6.frozen? ⟨g6, j, none⟩ = false) /\ ¬ D = g6 /\ ¬ g6 = D := by
  have hlD := (Array.getElem?_eq_some_iff.1 hD).1
  have hD6 := (hg.block D hlD (own_ne hown hD (by decide)).symm).trans hD
  have hgD : D ≠ g6 := fun e => own_ne h6 hD6 (by decide) (by rw [e]; rfl)
  have hx : xs.length = k * 4 := hown.1
  have key : ∀ j z, [z0, z1, z2, z3][j]? = some z -> w6.cell? ⟨g6, k * 4 + j, none⟩ = some z := fun j z hz => own_at h6 _ _ (by rw [List.getElem?_append_right (by omega), hx, Nat.add_sub_cancel_left]; exact hz)
  exact ⟨cell_of_row _ _ 2 _ _ _ hD6, by simp [World.frozen?, hD6], key 0 _ rfl, key 1 _ rfl, key 2 _ rfl, key 3 _ rfl, own_free h6, hgD, fun e => hgD e.symm⟩
theorem st4_cells {w1 : World} {c : Nat} {x0 x1 x2 x3 : Value} {t : TypeId} (h : w1.heap[c]? = some (.cells #[x0, x1, x2, x3] t (0, 0))) : w1.cell? ⟨c, 0, none⟩ = some x0 /\ w1.cell? ⟨c, 1, none⟩ = some x1 /\ w1.cell? ⟨c, 2, none⟩ = some x2 /\ w1.cell? ⟨c, 3, none⟩ = some x3 /\ c < w1.heap.size :=
  ⟨cell_of_row _ _ 0 _ _ _ h, cell_of_row _ _ 1 _ _ _ h, cell_of_row _ _ 2 _ _ _ h, cell_of_row _ _ 3 _ _ _ h, (Array.getElem?_eq_some_iff.1 h).1⟩
theorem cPut (D B B1 n : Nat) (ao : Option Addr) (body : List PO) (g : Df) (u : Value) (an : Option Addr) (cn : Nat) (ns : List Nat) (w : World) (hd : DfAt w D B B1 n ao body) (hB : B <= B1) (hB1 : B1 <= w.heap.size) (hg : DefD w B w.heap.size g u) (hI : Is w (.slice an ns.length cn) ns) (hn : ∀ i ∈ ns, i < n) (hl : ns.length <= 4398046511104) (hgn : g.names = ns.length) (hlen : body.length + g.ops.length <= 4096) :
    Calls Tryz.prog 135 #[.pointer (some ⟨D, 0, none⟩), u, .slice an ns.length cn] w (PPu D B B1 n ao (body ++ g.ops.map (onP ns)) w) := by
  obtain ⟨dd0, k, c, ss, hD, hk, hbody, hown, hst⟩ := hd
  obtain ⟨gn, gops⟩ := g
  simp only at hgn hlen
  subst hgn
  obtain ⟨dd, C, aod, kd, md, rfl, hS, hC, hflat⟩ : ∃ dd C aod kd md, u = .agg #[iv ns.length, iv gops.length, .slice aod kd md] /\ SpAt dd w C C ns.length (.slice aod kd md) kd gops /\ C <= w.heap.size /\ ((dd = 1 /\ kd = 1) ∨ C = B) := by
    rcases hg.2 with ⟨ao, c, h1, h2, _⟩ | ⟨d, ao, k, c, h1, h2, _⟩
    . exact ⟨1, _, ao, 1, c, h1, h2, Nat.le_refl _, .inl ⟨rfl, rfl⟩⟩
    . exact ⟨d, B, ao, k, c, h1, h2, by omega, .inr rfl⟩
  have hlD := (Array.getElem?_eq_some_iff.1 hD).1
  have hc1 : w.cell? ⟨D, 1, none⟩ = some (iv body.length) := cell_of_row _ _ 1 _ _ _ hD
  have hf1 : w.frozen? ⟨D, 1, none⟩ = false := by simp [World.frozen?, hD]
  have hwr : IntKind.i64.wrap ((body.length : Int) + (gops.length : Int)) = ((body.length + gops.length : Nat) : Int) := by rw [wrapN _ (by omega) (by omega)]; omega
  have hle : (body ++ gops.map (onP ns)).length = body.length + gops.length := by rw [List.length_append, List.length_map]
  have HLE := hide hle
  have hkl : k <= 4096 := by
    have hge := flat_ge ss (fun s hs => by
      obtain ⟨ns, a1, a2, a3, a4⟩ := hst s hs
      rcases a4 with ⟨_, a4⟩ | ⟨k', l', b1, b2, b3⟩
      . rw [a4]; exact Nat.one_pos
      . rw [b3, List.length_map]
        have := SpAt.ge _ _ _ _ _ b2
        omega)
    rw [← hbody, ← hk] at hge
    omega
  have HD := hide hD
  have HBO := hide hbody
  have HOW := hide hown
  have HST := hide hst
  have HK := hide hk
  unfold iv at hc1 ⊢
  have hkk : (k : Int) < (k : Int) + 1 := by omega
  clear hbody hst hle hown hD hk
  generalize hbl : body.length = bl at *
  generalize hgl : gops.length = gl at *
  have HBL := hide hbl
  have HGL := hide hgl
  clear hbl hgl
  have hss : ∃ ss', kd = ss'.length /\ gops = ss'.flatMap Sx.ops /\ (∀ s ∈ ss', ∃ ms, Isb C w s.nm ms /\ (∀ i ∈ ms, i < ns.length) /\ ms.length <= 4398046511104 /\ (((∃ ao c, s.inner = .slice ao 0 c) /\ s.ops = [⟨s.kind, s.gate, ms⟩]) ∨ ∃ dd' k' l', dd' + 1 = dd /\ 0 < k' /\ SpAt dd' w C C ms.length s.inner k' l' /\ s.ops = l'.map (onP ms))) /\
      (ss' = [] ∨ ∃ g off cs fr, aod = some ⟨g, off, none⟩ /\ g < C /\ w.heap[g]? = some (.cells cs 222 fr) /\ ∀ j u, (ss'.flatMap Sx.cells)[j]? = some u -> cs[off + j]? = some u) := by
    cases dd with
    | zero =>
      obtain ⟨rfl, h2, _⟩ := hS
      exact ⟨[], rfl, h2, (fun _ hs => absurd hs List.not_mem_nil), .inl rfl⟩
    | succ dd =>
      obtain ⟨ao1, c1, ss', e1, e2, e3, e4, e5⟩ := hS
      simp only [Value.slice.injEq] at e1
      obtain ⟨rfl, -, -⟩ := e1
      refine ⟨ss', e2, e3, fun s hs => ?_, e5⟩
      obtain ⟨ns, a1, a2, a3, a4⟩ := e4 s hs
      refine ⟨ns, a1, a2, a3, ?_⟩
      rcases a4 with a4 | ⟨k', l', b⟩
      . exact .inl a4
      . exact .inr ⟨dd, k', l', rfl, b⟩
  obtain ⟨ss', e2, e3, e4, e5⟩ := hss
  rcases ss' with _ | ⟨s0, _ | ⟨s1, r⟩⟩
  . have e2' : kd = 0 := e2
    subst e2'
    have HE3 := hide e3
    clear e2 e3 e4 e5 hS hflat hg hI
    go_enter Tryz.func135, Tryz.ntmps135
    go_wp2_with fail
    go_region
    generalize hVV : ((w.setCell ⟨D, 1, none⟩ (.int .i64 ((bl : Int) + (gl : Int)))).alloc (Obj.cells #[.int .i64 (ns.length : Int), .int .i64 (gl : Int), .slice aod 0 md] 174)).drew = V at *
    obtain ⟨b1, b2, b3, b4⟩ := put_base HD.out hVV
    obtain ⟨hownV, hstV⟩ := put_rows HD.out HOW.out HST.out b3
    clear hVV
    obtain ⟨x0, x1, x2, x3⟩ := def_cells b2
    go_wp2_with fail
    go_end0
    refine ⟨rfl, ao, ⟨dd0, k, c, ss, ?_, HK.out, ?_, hownV, hstV⟩, b3.mono (by simp), fun b hb => .inl hb⟩
    . rw [HLE.out]; exact b1
    . rw [HE3.out, ← HBO.out]; simp
  . have e2' : kd = 1 := e2
    subst e2'
    obtain ⟨ns0, a1, a2, a3, a4⟩ := e4 s0 (by simp)
    obtain ⟨g0, off, cs, fr, rfl, hg0C, hg0, hcs⟩ : ∃ g off cs fr, aod = some ⟨g, off, none⟩ /\ g < C /\ w.heap[g]? = some (.cells cs 222 fr) /\ ∀ j u, ([s0].flatMap Sx.cells)[j]? = some u -> cs[off + j]? = some u := by
      rcases e5 with e | e
      . cases e
      . exact e
    have hEq : gops = s0.ops := by rw [e3]; simp
    have HEQ := hide hEq
    have HA4 := hide a4
    obtain ⟨kind, gate, inner, nm, sops⟩ := s0
    have hCell : ∀ j u, [iv kind, iv gate, inner, nm][j]? = some u -> cs[off + j]? = some u := fun j u hu => hcs j u (by simpa [Sx.cells] using hu)
    have HC0 := hide hCell
    obtain ⟨a0', cn0, rfl⟩ := a1.is.sl
    have hinn : ∃ ai ki ci, inner = .slice ai ki ci := by
      rcases a4 with ⟨⟨ai, ci, e⟩, _⟩ | ⟨dd', k', l', _, _, h, _⟩
      . exact ⟨ai, 0, ci, e⟩
      . obtain ⟨ai, ci, e⟩ := SpAt.sl _ _ _ _ _ h
        exact ⟨ai, k', ci, e⟩
    obtain ⟨ai, ki, ci, rfl⟩ := hinn
    have HI := hide hI
    have HA1 := hide a1.is
    have HFL := hide hflat
    clear e2 e3 e4 e5 hS hflat hg hI hcs hCell hEq a4 a1
    go_enter Tryz.func135, Tryz.ntmps135
    go_wp2_with fail
    go_region
    generalize hVV : ((w.setCell ⟨D, 1, none⟩ (.int .i64 ((bl : Int) + (gl : Int)))).alloc (Obj.cells #[.int .i64 (ns.length : Int), .int .i64 (gl : Int), .slice (some ⟨g0, off, none⟩) 1 md] 174)).drew = V at *
    obtain ⟨b1, b2, b3, b4⟩ := put_base HD.out hVV
    obtain ⟨hownV, hstV⟩ := put_rows HD.out HOW.out HST.out b3
    clear hVV
    obtain ⟨x0, x1, x2, x3⟩ := def_cells b2
    have hgD : g0 ≠ D := fun e => by
      have := hg0
      rw [e, HD.out] at this
      simp at this
    have hgV := (b3.block g0 (Array.getElem?_eq_some_iff.1 hg0).1 (by simpa using hgD)).trans hg0
    have k0 : V.cell? ⟨g0, off, none⟩ = some (.int .i64 (kind : Int)) := (cell_of_row _ _ _ _ _ _ hgV).trans (HC0.out 0 _ rfl)
    have k1 : V.cell? ⟨g0, off + 1, none⟩ = some (.int .i64 (gate : Int)) := (cell_of_row _ _ _ _ _ _ hgV).trans (HC0.out 1 _ rfl)
    have k2 : V.cell? ⟨g0, off + 2, none⟩ = some (.slice ai ki ci) := (cell_of_row _ _ _ _ _ _ hgV).trans (HC0.out 2 _ rfl)
    have k3 : V.cell? ⟨g0, off + 3, none⟩ = some (.slice a0' ns0.length cn0) := (cell_of_row _ _ _ _ _ _ hgV).trans (HC0.out 3 _ rfl)
    have hIV : ∀ v l, Is w v l -> Is V v l := fun v l h => h.block fun b cs fr hb => b3.block b (Array.getElem?_eq_some_iff.1 hb).1 (fun e => by
      rw [List.mem_singleton] at e
      rw [e, HD.out] at hb
      simp at hb)
    have HI1 := hide (hIV _ _ HI.out)
    have HA2 := hide (hIV _ _ HA1.out)
    have HB1 := hide b1
    have HB3 := hide b3
    have HB4 := hide b4
    have HOV := hide hownV
    have HSV := hide hstV
    have c1 := fun w' (h1 : Is w' (.slice an ns.length cn) ns) (h2 : Is w' (.slice a0' ns0.length cn0) ns0) => cPick an a0' cn cn0 ns ns0 (by omega) a2 w' h1 h2
    have hgl0 : g0 < V.heap.size := (Array.getElem?_eq_some_iff.1 hgV).1
    clear b1 b3 b4 hownV hstV hIV hgV
    go_wp2_with (first
      | (go_at_call 143; refine (c1 _ (HI1.out.below (bnew _ _)) (HA2.out.below (bnew _ _))).mono ?_; rintro e w4 ⟨g1, rfl, hI4, hg1, hb4⟩; obtain ⟨y0, y1, y2, y3, hy⟩ := st_cells hb4; have h4 := (hb4.block V.heap.size (by simp)).trans (heap_alloc_new V (.cells #[.int .i64 (kind : Int), .int .i64 (gate : Int), .slice ai ki ci, .slice a0' ns0.length cn0] 222)); have zf : w4.frozen? ⟨V.heap.size, 3, none⟩ = false := (by simp [World.frozen?, h4])))
    have hV4 : Below V.heap.size V w4 := (bnew _ _).trans (hb4.mono (by simp))
    have hlV := (Array.getElem?_eq_some_iff.1 HB1.out).1
    have f1 : (w4.setCell ⟨V.heap.size, 3, none⟩ (.slice (some ⟨g1, 0, none⟩) ns0.length ns0.length)).heap[D]? = some (.cells #[iv n, iv (bl + gl), .slice ao k c] 174 (0, 0)) := (Below.heap_setCell _ _ _ _ (by simp; omega)).trans ((hV4.block D hlV).trans HB1.out)
    have f2 : (w4.setCell ⟨V.heap.size, 3, none⟩ (.slice (some ⟨g1, 0, none⟩) ns0.length ns0.length)).heap[V.heap.size]? = some (.cells #[.int .i64 (kind : Int), .int .i64 (gate : Int), .slice ai ki ci, .slice (some ⟨g1, 0, none⟩) ns0.length ns0.length] 222 (0, 0)) := by
      rw [setCell_eq_setRow _ _ 3 _ _ _ _ h4]
      exact setRow_heap _ _ _ _ _ _ h4
    have f3 : Below V.heap.size V (w4.setCell ⟨V.heap.size, 3, none⟩ (.slice (some ⟨g1, 0, none⟩) ns0.length ns0.length)) := hV4.setCell (p := ⟨V.heap.size, 3, none⟩) (Nat.le_refl _) _
    have f4 : Is (w4.setCell ⟨V.heap.size, 3, none⟩ (.slice (some ⟨g1, 0, none⟩) ns0.length ns0.length)) (.slice (some ⟨g1, 0, none⟩) ns0.length ns0.length) (pk ns ns0) := hI4.block fun b cs fr hb => Below.heap_setCell _ _ _ _ (fun e => by
      rw [show b = V.heap.size from e, h4] at hb
      simp at hb)
    generalize (w4.setCell ⟨V.heap.size, 3, none⟩ (.slice (some ⟨g1, 0, none⟩) ns0.length ns0.length)) = V5 at *
    clear h4 zf y0 y1 y2 y3 hb4 hV4 hI4
    obtain ⟨d0, d1, d2, hdl⟩ := def_cells f1
    obtain ⟨y0, y1, y2, y3, hy⟩ := st4_cells f2
    have hB5 := f3.size
    have hO5 := own_below HOV.out f3
    have HPF : Hid (∀ g6 cap w6, w6.ownsRow B1 222 4 (.slice (some ⟨g6, 0, none⟩) (k + 1) cap) (k + 1) (ss.flatMap Sx.cells ++ [.int .i64 0, .int .i64 0, .slice none 0 0, .slice none 0 0]) -> V5.grownBy w6 (ob ao) -> (ob ao = some g6 ∨ V5.heap.size <= g6) -> ∀ X, (X = ((((w6.setCell ⟨g6, k * 4, none⟩ (.int .i64 (kind : Int))).setCell ⟨g6, k * 4 + 1, none⟩ (.int .i64 (gate : Int))).setCell ⟨g6, k * 4 + 2, none⟩ (.slice ai ki ci)).setCell ⟨g6, k * 4 + 3, none⟩ (.slice (some ⟨g1, 0, none⟩) ns0.length ns0.length)).setCell ⟨D, 2, none⟩ (.slice (some ⟨g6, 0, none⟩) (k + 1) cap) ∨ X = ((((w6.setCell ⟨D, 2, none⟩ (.slice (some ⟨g6, 0, none⟩) (k + 1) cap)).setCell ⟨g6, k * 4, none⟩ (.int .i64 (kind : Int))).setCell ⟨g6, k * 4 + 1, none⟩ (.int .i64 (gate : Int))).setCell ⟨g6, k * 4 + 2, none⟩ (.slice ai ki ci)).setCell ⟨g6, k * 4 + 3, none⟩ (.slice (some ⟨g1, 0, none⟩) ns0.length ns0.length)) -> PPu D B B1 n ao (body ++ gops.map (onP ns)) w (.returned (.tuple #[])) X) := hide (fun g6 cap w6 h6 hg6 hat6 X hX => by
      have hSt : ∀ x ∈ ss ++ [(⟨kind, gate, .slice ai ki ci, .slice (some ⟨g1, 0, none⟩) ns0.length ns0.length, gops.map (onP ns)⟩ : Sx)], StOk (dd0 + dd) V5 B n x := by
        intro x hx
        rcases List.mem_append.1 hx with hx | hx
        . refine ((HSV.out x hx).block (fun b cs fr hb => f3.block b (Array.getElem?_eq_some_iff.1 hb).1) (fun b _ cs fr hb => f3.block b (Array.getElem?_eq_some_iff.1 hb).1)).up (by omega)
        . rw [List.mem_singleton] at hx
          subst hx
          have hpl : (pk ns ns0).length = ns0.length := by simp [pk]
          refine ⟨pk ns ns0, f4, ?_, by rw [hpl]; exact a3, ?_⟩
          . intro i hi
            unfold pk at hi
            rw [List.mem_map] at hi
            obtain ⟨j, hj, rfl⟩ := hi
            have hjl := a2 j hj
            rw [show ns.getD j 0 = ns[j] by simp [List.getD, hjl]]
            exact hn _ (List.getElem_mem hjl)
          . have hEq := HEQ.out
            rcases HA4.out with ⟨h1, h2⟩ | ⟨dd', k', l', h1, h2, h3, h4⟩
            . refine .inl ⟨h1, ?_⟩
              rw [hEq, h2]
              rfl
            . have hCB : C = B := by
                rcases HFL.out with ⟨e, _⟩ | e
                . have : dd' = 0 := by omega
                  subst this
                  have := h3.1
                  omega
                . exact e
              subst hCB
              refine .inr ⟨k', l', h2, ?_, ?_⟩
              . rw [hpl]
                have h5 : SpAt dd' V C C ns0.length (.slice ai ki ci) k' l' := SpAt.block (fun b _ cs fr hb => HB3.out.block b (Array.getElem?_eq_some_iff.1 hb).1 (fun e => by
                  rw [List.mem_singleton] at e
                  rw [e, HD.out] at hb
                  simp at hb)) (fun b _ cs fr hb => HB3.out.block b (Array.getElem?_eq_some_iff.1 hb).1 (fun e => by
                  rw [List.mem_singleton] at e
                  rw [e, HD.out] at hb
                  simp at hb)) _ _ _ _ _ h3
                exact (h5.below f3).max (by omega)
              . rw [hEq, h4, onP_onP ns ns0 l' (SpAt.bd _ _ _ _ _ h3)]
      obtain ⟨r1, r2, r3, r4, r5⟩ := put_fin (⟨kind, gate, .slice ai ki ci, .slice (some ⟨g1, 0, none⟩) ns0.length ns0.length, gops.map (onP ns)⟩ : Sx) (dd0 + dd) f1 HK.out hO5 h6 hg6 hat6 hB hSt X hX
      refine ⟨rfl, some ⟨g6, 0, none⟩, ⟨dd0 + dd, k + 1, cap, _, ?_, r2, ?_, r3, r4⟩, ?_, ?_⟩
      . rw [HLE.out]; exact r1
      . rw [List.flatMap_append, ← HBO.out]; simp
      . exact (HB3.out.mono (by simp)).trans ((Kb.of_below f3).trans r5)
      . intro b hb
        cases hb
        rcases hat6 with e | e
        . exact .inl e
        . have := HB4.out; exact .inr (show w.heap.size <= g6 by omega))
    have HPA : Hid (∀ g6 cap w6, w6.ownsRow B1 222 4 (.slice (some ⟨g6, 0, none⟩) (k + 1) cap) (k + 1) (ss.flatMap Sx.cells ++ [.int .i64 0, .int .i64 0, .slice none 0 0, .slice none 0 0]) -> V5.grownBy w6 (ob ao) -> (ob ao = some g6 ∨ V5.heap.size <= g6) -> PPu D B B1 n ao (body ++ gops.map (onP ns)) w (.returned (.tuple #[])) (((((w6.setCell ⟨g6, k * 4, none⟩ (.int .i64 (kind : Int))).setCell ⟨g6, k * 4 + 1, none⟩ (.int .i64 (gate : Int))).setCell ⟨g6, k * 4 + 2, none⟩ (.slice ai ki ci)).setCell ⟨g6, k * 4 + 3, none⟩ (.slice (some ⟨g1, 0, none⟩) ns0.length ns0.length)).setCell ⟨D, 2, none⟩ (.slice (some ⟨g6, 0, none⟩) (k + 1) cap))) := hide (fun g6 cap w6 h1 h2 h3 => HPF.out g6 cap w6 h1 h2 h3 _ (.inl rfl))
    have HPB : Hid (∀ g6 cap w6, w6.ownsRow B1 222 4 (.slice (some ⟨g6, 0, none⟩) (k + 1) cap) (k + 1) (ss.flatMap Sx.cells ++ [.int .i64 0, .int .i64 0, .slice none 0 0, .slice none 0 0]) -> V5.grownBy w6 (ob ao) -> (ob ao = some g6 ∨ V5.heap.size <= g6) -> PPu D B B1 n ao (body ++ gops.map (onP ns)) w (.returned (.tuple #[])) (((((w6.setCell ⟨D, 2, none⟩ (.slice (some ⟨g6, 0, none⟩) (k + 1) cap)).setCell ⟨g6, k * 4, none⟩ (.int .i64 (kind : Int))).setCell ⟨g6, k * 4 + 1, none⟩ (.int .i64 (gate : Int))).setCell ⟨g6, k * 4 + 2, none⟩ (.slice ai ki ci)).setCell ⟨g6, k * 4 + 3, none⟩ (.slice (some ⟨g1, 0, none⟩) ns0.length ns0.length))) := hide (fun g6 cap w6 h1 h2 h3 => HPF.out g6 cap w6 h1 h2 h3 _ (.inr rfl))
    have HPI : Hid (∀ g6 cap w6, w6.ownsRow B1 222 4 (.slice (some ⟨g6, 0, none⟩) (k + 1) cap) (k + 1) (ss.flatMap Sx.cells ++ [.int .i64 0, .int .i64 0, .slice none 0 0, .slice none 0 0]) -> V5.grownBy w6 (ob ao) -> w6.cell? ⟨D, 2, none⟩ = some (.slice ao k c) /\ w6.frozen? ⟨D, 2, none⟩ = false /\ w6.cell? ⟨g6, k * 4, none⟩ = some (.int .i64 0) /\ w6.cell? ⟨g6, k * 4 + 1, none⟩ = some (.int .i64 0) /\ w6.cell? ⟨g6, k * 4 + 2, none⟩ = some (.slice none 0 0) /\ w6.cell? ⟨g6, k * 4 + 3, none⟩ = some (.slice none 0 0) /\ (∀ j, w6.frozen? ⟨g6, j, none⟩ = false) /\ ¬ D = g6 /\ ¬ g6 = D) := hide (fun g6 cap w6 h6 hg6 => put_cells f1 hO5 h6 hg6)
    clear f1 f2 f3 f4
    go_region_law (first | (refine step_pushD rfl (.tmp 49) (.tmp 52) 172 rfl 222 Tryz.underlying172 _ 4 64 infoSt rfl (by decide) B1 ao k c _ (by rfl) hO5 [.int .i64 0, .int .i64 0, .slice none 0 0, .slice none 0 0] _ rfl rfl (by simp [Value.oneCell']) V5.heap.size rfl (by rfl) (by omega) (by omega) (by omega) ?_; intro g6 cap w6 hown6 hgrow6 hat6; obtain ⟨i0, i1, i2, i3, i4, i5, i6, i7, i8⟩ := HPI.out g6 cap w6 hown6 hgrow6))
    all_goals
      go_wp2_with fail
      go_end0
      first
        | (with_reducible exact HPA.out g6 cap w6 hown6 hgrow6 hat6)
        | (with_reducible exact HPB.out g6 cap w6 hown6 hgrow6 hat6)
  . have hkd : 2 <= kd := by rw [e2]; simp
    have hCB : C = B := by
      rcases hflat with ⟨_, e⟩ | e
      . omega
      . exact e
    subst hCB
    have n0 : ((kd : Int) == 0) = false := by simp; omega
    have n1 : ((kd : Int) == 1) = false := by simp; omega
    have n2 : decide ((kd : Int) = 0) = false := by simp; omega
    have n3 : decide ((kd : Int) = 1) = false := by simp; omega
    have HS := hide hS
    have HI := hide hI
    have HKD := hide hkd
    clear e2 e3 e4 e5 hS hflat hg hI hkd
    go_enter Tryz.func135, Tryz.ntmps135
    go_wp2_with fail
    go_region
    generalize hVV : ((w.setCell ⟨D, 1, none⟩ (.int .i64 ((bl : Int) + (gl : Int)))).alloc (Obj.cells #[.int .i64 (ns.length : Int), .int .i64 (gl : Int), .slice aod kd md] 174)).drew = V at *
    obtain ⟨f1, b2, b3, b4⟩ := put_base HD.out hVV
    obtain ⟨hO5, hstV⟩ := put_rows HD.out HOW.out HST.out b3
    clear hVV
    obtain ⟨x0, x1, x2, x3⟩ := def_cells b2
    obtain ⟨d0, d1, d2, hdl⟩ := def_cells f1
    have hB5 := b3.size
    have HPF : Hid (∀ g6 cap w6, w6.ownsRow B1 222 4 (.slice (some ⟨g6, 0, none⟩) (k + 1) cap) (k + 1) (ss.flatMap Sx.cells ++ [.int .i64 0, .int .i64 0, .slice none 0 0, .slice none 0 0]) -> V.grownBy w6 (ob ao) -> (ob ao = some g6 ∨ V.heap.size <= g6) -> ∀ X, (X = ((((w6.setCell ⟨g6, k * 4, none⟩ (.int .i64 0)).setCell ⟨g6, k * 4 + 1, none⟩ (.int .i64 0)).setCell ⟨g6, k * 4 + 2, none⟩ (.slice aod kd md)).setCell ⟨g6, k * 4 + 3, none⟩ (.slice an ns.length cn)).setCell ⟨D, 2, none⟩ (.slice (some ⟨g6, 0, none⟩) (k + 1) cap) ∨ X = ((((w6.setCell ⟨D, 2, none⟩ (.slice (some ⟨g6, 0, none⟩) (k + 1) cap)).setCell ⟨g6, k * 4, none⟩ (.int .i64 0)).setCell ⟨g6, k * 4 + 1, none⟩ (.int .i64 0)).setCell ⟨g6, k * 4 + 2, none⟩ (.slice aod kd md)).setCell ⟨g6, k * 4 + 3, none⟩ (.slice an ns.length cn)) -> PPu D C B1 n ao (body ++ gops.map (onP ns)) w (.returned (.tuple #[])) X) := hide (fun g6 cap w6 h6 hg6 hat6 X hX => by
      have hno : ∀ (b : Nat) (cs : Array Value) (t : TypeId) (fr : Nat × Nat), w.heap[b]? = some (Obj.cells cs t fr) -> t ≠ 174 -> V.heap[b]? = w.heap[b]? := fun b cs t fr hb ht => b3.block b (Array.getElem?_eq_some_iff.1 hb).1 (fun e => by
        rw [List.mem_singleton] at e
        rw [e, HD.out] at hb
        simp only [Option.some.injEq, Obj.cells.injEq] at hb
        exact ht hb.2.1.symm)
      have hSt : ∀ x ∈ ss ++ [(⟨0, 0, .slice aod kd md, .slice an ns.length cn, gops.map (onP ns)⟩ : Sx)], StOk (dd0 + dd) V C n x := by
        intro x hx
        rcases List.mem_append.1 hx with hx | hx
        . exact (hstV x hx).up (by omega)
        . rw [List.mem_singleton] at hx
          subst hx
          refine ⟨ns, HI.out.block (fun b cs fr hb => hno _ _ _ _ hb (by decide)), hn, hl, .inr ⟨kd, gops, by have := HKD.out; omega, ?_, rfl⟩⟩
          exact (SpAt.block (fun b _ cs fr hb => hno _ _ _ _ hb (by decide)) (fun b _ cs fr hb => hno _ _ _ _ hb (by decide)) _ _ _ _ _ HS.out).max (by omega)
      obtain ⟨r1, r2, r3, r4, r5⟩ := put_fin (⟨0, 0, .slice aod kd md, .slice an ns.length cn, gops.map (onP ns)⟩ : Sx) (dd0 + dd) f1 HK.out hO5 h6 hg6 hat6 hB hSt X hX
      refine ⟨rfl, some ⟨g6, 0, none⟩, ⟨dd0 + dd, k + 1, cap, _, ?_, r2, ?_, r3, r4⟩, ?_, ?_⟩
      . rw [HLE.out]; exact r1
      . rw [List.flatMap_append, ← HBO.out]; simp
      . exact (b3.mono (by simp)).trans r5
      . intro b hb
        cases hb
        rcases hat6 with e | e
        . exact .inl e
        . exact .inr (show w.heap.size <= g6 by omega))
    have HPA : Hid (∀ g6 cap w6, w6.ownsRow B1 222 4 (.slice (some ⟨g6, 0, none⟩) (k + 1) cap) (k + 1) (ss.flatMap Sx.cells ++ [.int .i64 0, .int .i64 0, .slice none 0 0, .slice none 0 0]) -> V.grownBy w6 (ob ao) -> (ob ao = some g6 ∨ V.heap.size <= g6) -> PPu D C B1 n ao (body ++ gops.map (onP ns)) w (.returned (.tuple #[])) (((((w6.setCell ⟨g6, k * 4, none⟩ (.int .i64 0)).setCell ⟨g6, k * 4 + 1, none⟩ (.int .i64 0)).setCell ⟨g6, k * 4 + 2, none⟩ (.slice aod kd md)).setCell ⟨g6, k * 4 + 3, none⟩ (.slice an ns.length cn)).setCell ⟨D, 2, none⟩ (.slice (some ⟨g6, 0, none⟩) (k + 1) cap))) := hide (fun g6 cap w6 h1 h2 h3 => HPF.out g6 cap w6 h1 h2 h3 _ (.inl rfl))
    have HPB : Hid (∀ g6 cap w6, w6.ownsRow B1 222 4 (.slice (some ⟨g6, 0, none⟩) (k + 1) cap) (k + 1) (ss.flatMap Sx.cells ++ [.int .i64 0, .int .i64 0, .slice none 0 0, .slice none 0 0]) -> V.grownBy w6 (ob ao) -> (ob ao = some g6 ∨ V.heap.size <= g6) -> PPu D C B1 n ao (body ++ gops.map (onP ns)) w (.returned (.tuple #[])) (((((w6.setCell ⟨D, 2, none⟩ (.slice (some ⟨g6, 0, none⟩) (k + 1) cap)).setCell ⟨g6, k * 4, none⟩ (.int .i64 0)).setCell ⟨g6, k * 4 + 1, none⟩ (.int .i64 0)).setCell ⟨g6, k * 4 + 2, none⟩ (.slice aod kd md)).setCell ⟨g6, k * 4 + 3, none⟩ (.slice an ns.length cn))) := hide (fun g6 cap w6 h1 h2 h3 => HPF.out g6 cap w6 h1 h2 h3 _ (.inr rfl))
    have HPI : Hid (∀ g6 cap w6, w6.ownsRow B1 222 4 (.slice (some ⟨g6, 0, none⟩) (k + 1) cap) (k + 1) (ss.flatMap Sx.cells ++ [.int .i64 0, .int .i64 0, .slice none 0 0, .slice none 0 0]) -> V.grownBy w6 (ob ao) -> w6.cell? ⟨D, 2, none⟩ = some (.slice ao k c) /\ w6.frozen? ⟨D, 2, none⟩ = false /\ w6.cell? ⟨g6, k * 4, none⟩ = some (.int .i64 0) /\ w6.cell? ⟨g6, k * 4 + 1, none⟩ = some (.int .i64 0) /\ w6.cell? ⟨g6, k * 4 + 2, none⟩ = some (.slice none 0 0) /\ w6.cell? ⟨g6, k * 4 + 3, none⟩ = some (.slice none 0 0) /\ (∀ j, w6.frozen? ⟨g6, j, none⟩ = false) /\ ¬ D = g6 /\ ¬ g6 = D) := hide (fun g6 cap w6 h6 hg6 => put_cells f1 hO5 h6 hg6)
    have hwl : w.heap.size < V.heap.size := by omega
    clear f1 b2 b3 b4 hstV
    go_wp2_with fail
    go_region_law (first | (refine step_pushD rfl (.tmp 22) (.tmp 28) 172 rfl 222 Tryz.underlying172 _ 4 64 infoSt rfl (by decide) B1 ao k c _ (by rfl) hO5 [.int .i64 0, .int .i64 0, .slice none 0 0, .slice none 0 0] _ rfl rfl (by simp [Value.oneCell']) V.heap.size rfl (by rfl) (by omega) (by omega) (by omega) ?_; intro g6 cap w6 hown6 hgrow6 hat6; obtain ⟨i0, i1, i2, i3, i4, i5, i6, i7, i8⟩ := HPI.out g6 cap w6 hown6 hgrow6))
    all_goals
      go_wp2_with fail
      go_end0
      first
        | (with_reducible exact HPA.out g6 cap w6 hown6 hgrow6 hat6)
        | (with_reducible exact HPB.out g6 cap w6 hown6 hgrow6 hat6)
end Go.Proofs.YtnghfdnlcnocjaaGreatDoor.Cir
