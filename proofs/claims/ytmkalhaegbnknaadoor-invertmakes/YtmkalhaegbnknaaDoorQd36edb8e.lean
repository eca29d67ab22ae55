import Derived.Test.YtmkalhaegbnknaaDoorQ2d9e8923
set_option maxRecDepth 100000
set_option maxHeartbeats 1000000
namespace Go.Proofs.YtmkalhaegbnknaaDoor.Cir
open Go.RowKit Go.Shelf Go.Proofs.YtmkalhaegbnknaaDoor.Oct Go.Proofs.YtmkalhaegbnknaaDoor.Tok Go.Proofs.YtmkalhaegbnknaaDoor.Gt
theorem infoO6 : (Tryd.prog.info? 41).map (·.size) = some 6 := by kernel_rfl
theorem six_cells {w : World} {g : Nat} {x0 x1 x2 x3 x4 x5 : Value} {t : TypeId} (h : w.heap[g]? = some (.cells #[x0, x1, x2, x3, x4, x5] t (0, 0))) : w.cell? ⟨g, 0, none⟩ = some x0 /\ w.cell? ⟨g, 1, none⟩ = some x1 /\ w.cell? ⟨g, 2, none⟩ = some x2 /\ w.cell? ⟨g, 3, none⟩ = some x3 /\ w.cell? ⟨g, 4, none⟩ = some x4 /\ w.cell? ⟨g, 5, none⟩ = some x5 /\ (∀ i, w.frozen? ⟨g, i, none⟩ = false) /\ g < w.heap.size := by
  refine ⟨by simp [World.cell?, h], by simp [World.cell?, h], by simp [World.cell?, h], by simp [World.cell?, h], by simp [World.cell?, h], by simp [World.cell?, h], fun i => by simp [World.frozen?, h], (Array.getElem?_eq_some_iff.1 h).1⟩
theorem iWith (o : COp) (aq : Option Addr) (cq : Nat) (k : Int) (ar : Option Addr) (cr : Nat) (l : List Int) (hl : l.length <= 17592186044416) (w : World) (hN : Ns w ar l) : Calls Tryd.prog 46 #[opV o aq cq, .int .i64 k, .slice ar l.length cr] w fun e w' => ∃ a' c', e = .returned (opV { o with gate := k, qs := l } a' c') /\ RowO w' w.heap.size (.slice a' l.length c') l /\ Below w.heap.size w w' := by
  have c1 := fun V (h : Below w.heap.size w V) => sCloneO ar cr l hl V (hN.below h)
  obtain ⟨kind, gate, qs, bit, cond, whn⟩ := o
  unfold opV
  simp only
  generalize qs.length = m
  obtain ⟨n, hn⟩ : ∃ n, l.length = n := ⟨_, rfl⟩
  rw [hn] at c1 ⊢
  clear hN hl hn
  have HB0 := hide (show Below w.heap.size w ((w.alloc (.cells #[.int .i64 kind, .int .i64 gate, .slice aq m cq, .int .i64 bit, .int .i64 cond, .int .i64 whn] 41)).alloc (.cells #[.int .i64 0, .int .i64 0, .slice none 0 0, .int .i64 0, .int .i64 0, .int .i64 0] 41)) from (bnew _ _).trans ((bnew _ _).mono (by simp)))
  go_enter Tryd.func46, Tryd.ntmps46
  go_wp2_with (first
    | (go_at_call 56; refine (c1 _ HB0.out).mono ?_; rintro e w1 ⟨a1, k1, rfl, hR, hb1⟩; obtain ⟨m1, m2⟩ := may_keep hb1; obtain ⟨x0, x1, x2, x3, x4, x5, xf, xl⟩ := six_cells m1; have HR := hide hR; have HB1 := hide hb1; have HM1 := hide m1; have HM2 := hide m2; clear hR hb1 m1 m2)
    | refine wpList_store_row rfl _ _ _ rfl (w.heap.size + 1) _ rfl rfl _ _ ((Below.heap_setCell _ _ _ _ (by simp)).trans ((Below.heap_setCell _ _ _ _ (by simp)).trans HM2.out)) (by exact infoO6) (by rfl) (by simp [Value.oneCell']) ?_)
  have e1 : (w1.setCell ⟨w.heap.size, 1, none⟩ (.int .i64 k)).setCell ⟨w.heap.size, 2, none⟩ (.slice a1 n k1) = w1.setRow w.heap.size #[.int .i64 kind, .int .i64 k, .slice a1 n k1, .int .i64 bit, .int .i64 cond, .int .i64 whn] := by
    rw [setCell_eq_setRow _ _ 1 _ _ _ _ HM1.out, setCell_eq_setRow _ _ 2 _ _ _ _ (setRow_heap _ _ _ _ _ _ HM1.out), setRow_setRow]
    rfl
  rw [e1]
  have m3 := (setRow_other w1 w.heap.size (w.heap.size + 1) #[.int .i64 kind, .int .i64 k, .slice a1 n k1, .int .i64 bit, .int .i64 cond, .int .i64 whn] (by omega)).trans HM2.out
  refine bodyPost_ret (results_c rfl _ _ (w.heap.size + 1) _ _ _ _ rfl (setRow_heap _ _ _ _ _ _ m3) Tryd.underlying41 rfl (by exact infoO6)) rfl ?_
  have hb := HB0.out.trans (HB1.out.mono HB0.out.size)
  refine ⟨a1, k1, rfl, ?_, Below.row (Below.row hb _ _ (Nat.le_refl _)) _ _ (by omega)⟩
  refine (HR.out.base HB0.out.size).block (fun g cs fr hg => ?_)
  rw [setRow_other _ _ _ _ (fun e => ?_), setRow_other _ _ _ _ (fun e => ?_)]
  . subst e
    rw [HM1.out] at hg
    simp at hg
  . subst e
    rw [HM2.out] at hg
    simp at hg
end Go.Proofs.YtmkalhaegbnknaaDoor.Cir
