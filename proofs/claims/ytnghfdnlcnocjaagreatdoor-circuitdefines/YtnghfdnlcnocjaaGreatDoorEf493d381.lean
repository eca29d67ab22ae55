import Derived.Test.YtnghfdnlcnocjaaGreatDoorE35830c2a
import Derived.RangeFuncNested
import Derived.RangeFuncBound
import Derived.Shelf.RegionOpen
import Derived.LoopNIn
import Derived.LoopIn
import Derived.Maps.OwnIn
set_option maxRecDepth 100000
set_option maxHeartbeats 1000000
namespace Go.Proofs.YtnghfdnlcnocjaaGreatDoor.Cir
open Go.RowKit Go.Shelf Go.Proofs.YtnghfdnlcnocjaaGreatDoor.Oct Go.Proofs.YtnghfdnlcnocjaaGreatDoor.Tok Go.Proofs.YtnghfdnlcnocjaaGreatDoor.Gt
attribute [local go_sem] Oper.semAt_some
abbrev N64 := { x : Nat // x < 4611686018427387904 }
def SeenM (W : World) (b : Nat) (pre : List Nat) : Prop := ∃ D : DataW Value, W.ownsMap Tryz.prog 3 (plainElem Tryz.prog 3) b pre.length D /\ ∀ x : Nat, D.atKey (.int .i64 (x : Int)) (.lit (.int .i64 0)) = .lit (.int .i64 (if x ∈ pre then 1 else 0))
theorem wfN (x : Nat) (h : x < 4611686018427387904) : (Lit.int .i64 (x : Int)).wf = true := by
  have := wrap64_wf (x : Int)
  rw [show wrap64 (x : Int) = (x : Int) by unfold wrap64; omega] at this
  exact this
theorem zInt2 (w : World) : (zeroValue 3).run Tryz.prog w = .ok (.int .i64 0) w := by kernel_rfl
theorem isKeyI (x : Int) : WideAt.IsKeyLit (.int .i64 x) := trivial
theorem intK : Maps.Keyed Tryz.prog 3 := Maps.int_keyed Tryz.underlying3
namespace SeenM
variable {W : World} {b : Nat} {pre : List Nat}
theorem new (w : World) : SeenM (w.alloc (.map #[] 0)) w.heap.size [] := ⟨.map [], World.ownsMap_made w _ _ _, fun _ => rfl⟩
theorem look (h : SeenM W b pre) (x : Nat) (hx : x < 4611686018427387904) : (Instr.lookup 216 (.map (some b)) (.int .i64 (x : Int)) false).run Tryz.prog W = .ok (.int .i64 (if x ∈ pre then 1 else 0)) W := by
  obtain ⟨D, h1, h2⟩ := h
  obtain ⟨c, hr, ha, _⟩ := h1.lookup_int intK Tryz.underlying216 Tryz.underlying3 (zInt2 W) (Maps.keyOf_int_mk Tryz.underlying3 (wfN x hx))
  rw [h2 x] at ha
  simp only [DataW.lit.injEq, Lit.int.injEq, true_and] at ha
  rw [hr, ← ha]
theorem store (h : SeenM W b pre) (hl : pre.length < 4398046511105) (x : Nat) (hx : x < 4611686018427387904) (hn : x ∉ pre) :
    ∃ W1, (Instr.mapUpdate 216 (.map (some b)) (.int .i64 (x : Int)) (.int .i64 1)).run Tryz.prog W = .ok () W1 /\ SeenM W1 b (pre ++ [x]) /\ W.grownBy W1 (some b) := by
  obtain ⟨D, h1, h2⟩ := h
  obtain ⟨W1, hr, ho, hg⟩ := h1.update intK Tryz.underlying216 (by unfold maxLen; omega) (Maps.keyOf_int_mk Tryz.underlying3 (wfN x hx)) (plainElem_int (a := 1) Tryz.underlying3 (by decide))
  refine ⟨W1, hr, ⟨_, by rw [List.length_append]; exact ho, fun y => ?_⟩, hg⟩
  by_cases e : y = x
  . subst e
    rw [Maps.atKey_put_same h1.isMap (isKeyI _)]
    simp
  . have ne : Lit.int .i64 (y : Int) ≠ Lit.int .i64 (x : Int) := fun h => e (by simp only [Lit.int.injEq, true_and] at h; omega)
    rw [Maps.atKey_put_other ne, h2 y]
    simp [e]
theorem store2 (h : SeenM W b pre) (hl : pre.length < 4398046511105) (x : Nat) (hx : x < 4611686018427387904) :
    ∃ W1, (Instr.mapUpdate 216 (.map (some b)) (.int .i64 (x : Int)) (.int .i64 2)).run Tryz.prog W = .ok () W1 /\ (Instr.lookup 216 (.map (some b)) (.int .i64 (x : Int)) false).run Tryz.prog W1 = .ok (.int .i64 2) W1 /\ W.grownBy W1 (some b) := by
  obtain ⟨D, h1, h2⟩ := h
  obtain ⟨W1, hr, ho, hg⟩ := h1.update intK Tryz.underlying216 (by unfold maxLen; omega) (Maps.keyOf_int_mk Tryz.underlying3 (wfN x hx)) (plainElem_int (a := 2) Tryz.underlying3 (by decide))
  obtain ⟨c, hr2, ha, _⟩ := ho.lookup_int intK Tryz.underlying216 Tryz.underlying3 (zInt2 W1) (Maps.keyOf_int_mk Tryz.underlying3 (wfN x hx))
  rw [Maps.atKey_put_same h1.isMap (isKeyI _)] at ha
  simp only [DataW.lit.injEq, Lit.int.injEq, true_and] at ha
  exact ⟨W1, hr, by rw [hr2, ← ha], hg⟩
theorem kept {W' : World} {row : Option Nat} (h : SeenM W b pre) (hg : W.grownBy W' row) (hne : some b ≠ row) : SeenM W' b pre := by
  obtain ⟨D, h1, h2⟩ := h
  exact ⟨D, h1.kept hg hne, h2⟩
theorem block (h : SeenM W b pre) : ∃ es cl, W.heap[b]? = some (.map es cl) := by
  obtain ⟨D, ⟨es, cl, hb, _⟩, _⟩ := h
  exact ⟨es, cl, hb⟩
end SeenM
def OI (w : World) (pre : List N64) (W : World) : Prop :=
  ((pre.map (·.1)).Nodup /\ (∃ v, Boxed W (w.heap.size + 1 + 1) 32 v /\ W.ownsRow w.heap.size 3 1 v pre.length (pre.map fun x => iv x.1)) /\ Boxed W w.heap.size 32 (.slice none 0 0) /\ Boxed W (w.heap.size + 1) 4 (.bool false) /\
    Boxed W (w.heap.size + 1 + 1 + 1 + 1) 216 (.map (some (w.heap.size + 1 + 1 + 1))) /\ SeenM W (w.heap.size + 1 + 1 + 1) (pre.map (·.1))) /\ Below w.heap.size w W
def OX (w : World) (c : Code) (pre : List N64) (W : World) : Prop := (c = .ret /\ ¬ (pre.map (·.1)).Nodup /\ W.cell? ⟨w.heap.size, 0, none⟩ = some (.slice none 0 0) /\ W.cell? ⟨w.heap.size + 1, 0, none⟩ = some (.bool false)) /\ Below w.heap.size w W
theorem notRow {A : World} {k : Nat} {cs : Array Value} {t : TypeId} {fr : Nat × Nat} {row : Option Nat} (hk : A.heap[k]? = some (.cells cs t fr)) (hr : ∀ r, row = some r -> ∃ o, A.heap[r]? = some o /\ o.isCells = false) : some k ≠ row := by
  intro e
  obtain ⟨o, h1, h2⟩ := hr k e.symm
  rw [hk] at h1
  cases h1
  cases h2
theorem own_notRow {A A' : World} {B e n m c : Nat} {ao : Option Addr} {xs : List Value} {row : Option Nat} (h : A.ownsRow B e 1 (.slice ao m c) n xs) (hg : A.grownBy A' row) (hr : ∀ r, row = some r -> ∃ o, A.heap[r]? = some o /\ o.isCells = false) : A'.ownsRow B e 1 (.slice ao m c) n xs :=
  own_of_block h (fun k hk => by
    obtain ⟨lo, hi⟩ := own_lt h k hk
    refine hg.block k hi ?_
    rcases h.2 with h0 | ⟨g, cap, cur, hv, hbg, hgg, h1⟩
    . simp only [Value.slice.injEq] at h0
      rw [h0.1.1] at hk
      cases hk
    . simp only [Value.slice.injEq] at hv
      rw [hv.1] at hk
      cases hk
      exact notRow hgg hr)
theorem OI.own (w : World) (B : Nat) (hB : B = w.heap.size + 5) : OwnFrom B (OI w) := by
  rintro s A A' row ⟨⟨h1, ⟨v, h2, h3⟩, h4, h5, h6, h7⟩, h8⟩ hg hr
  have hr2 : ∀ r, row = some r -> ∃ o, A.heap[r]? = some o /\ o.isCells = false := fun r e => (hr r e).2
  have hlt : ∀ k, k < w.heap.size + 5 -> some k ≠ row := fun k hk e => by have := (hr k e.symm).1; omega
  refine ⟨⟨h1, ⟨v, h2.kept hg (hlt _ (by omega)), ?_⟩, h4.kept hg (hlt _ (by omega)), h5.kept hg (hlt _ (by omega)), h6.kept hg (hlt _ (by omega)), h7.kept hg (hlt _ (by omega))⟩, ?_⟩
  . have : ∃ ao m c, v = .slice ao m c := by
      rcases h3.2 with ⟨e, _⟩ | ⟨g, cap, cur, e, _⟩
      . exact ⟨_, _, _, e⟩
      . exact ⟨_, _, _, e⟩
    obtain ⟨ao, m, c, rfl⟩ := this
    exact own_notRow h3 hg hr2
  . exact h8.grown hg h8.size (fun k hk => by have := (hr k hk).1; omega)
theorem OX.own (w : World) (B : Nat) (hB : B = w.heap.size + 5) (c : Code) : OwnFrom B (OX w c) := by
  rintro s A A' row ⟨⟨h1, h2, h3, h4⟩, h8⟩ hg hr
  have hr2 : ∀ r, row = some r -> ∃ o, A.heap[r]? = some o /\ o.isCells = false := fun r e => (hr r e).2
  exact ⟨⟨h1, h2, cell_kept h3 hg hr2, cell_kept h4 hg hr2⟩, h8.grown hg h8.size (fun k hk => by have := (hr k hk).1; omega)⟩
attribute [local go_sem] Oper.semAt_some
def PO1 (w : World) (xs : List N64) (e : Ending) (w' : World) : Prop := Below w.heap.size w w' /\ (((xs.map (·.1)).Nodup /\ ∃ v, e = .returned (.tuple #[v, .bool true]) /\ w'.ownsRow w.heap.size 3 1 v xs.length (xs.map fun x => iv x.1)) ∨ (¬ (xs.map (·.1)).Nodup /\ e = .returned (.tuple #[.slice none 0 0, .bool false])))
theorem cOnce (gf : Nat) (lb : Array Value) (eg : ∀ args w, (callFunc gf args).run Tryz.prog w = .ok (.enter gf args) w) (xs : List N64) (hl : xs.length <= 4398046511104) (w : World)
    (hseq : ∀ W, Below w.heap.size w W -> SeqStopsK Fence.wide (3 - 1) Tryz.prog gf lb (fun x : N64 => #[.int .i64 (x.1 : Int)]) (Below w.heap.size) (fun ys => ys = xs) (fun pre => pre <+: xs) xs.length W) :
    Calls Tryz.prog 118 #[.func (.func gf) #[] lb] w (PO1 w xs) := by
  have hmm := @run_makeMap Tryz.prog
  refine (callsIn_wide (n := 3)).1 ?_
  refine callsIn_of_wp_marks Tryz.func118 rfl trivial ?_ rfl
  simp only [Tryz.ntmps118, List.size_toArray, List.length_cons, List.length_nil, Nat.reduceAdd, Nat.reduceSub, Array.replicate_succ, Array.replicate_zero, List.push_toArray, List.append_toArray, List.nil_append, List.cons_append]
  gi_wp2
  have b2 := ((((Boxed.new w 32 (.slice none 0 0)).alloc (.cells #[.bool false] 4)).alloc (.cells #[.slice none 0 0] 32)).alloc (.map #[] 0)).alloc (.cells #[.map (some (w.heap.size + 1 + 1 + 1))] 216)
  have b3 := (((Boxed.new (w.alloc (.cells #[.slice none 0 0] 32)) 4 (.bool false)).alloc (.cells #[.slice none 0 0] 32)).alloc (.map #[] 0)).alloc (.cells #[.map (some (w.heap.size + 1 + 1 + 1))] 216)
  have b4 := ((Boxed.new ((w.alloc (.cells #[.slice none 0 0] 32)).alloc (.cells #[.bool false] 4)) 32 (.slice none 0 0)).alloc (.map #[] 0)).alloc (.cells #[.map (some (w.heap.size + 1 + 1 + 1))] 216)
  have b5 := Boxed.new ((((w.alloc (.cells #[.slice none 0 0] 32)).alloc (.cells #[.bool false] 4)).alloc (.cells #[.slice none 0 0] 32)).alloc (.map #[] 0)) 216 (.map (some (w.heap.size + 1 + 1 + 1)))
  have bm := (SeenM.new (((w.alloc (.cells #[.slice none 0 0] 32)).alloc (.cells #[.bool false] 4)).alloc (.cells #[.slice none 0 0] 32))).kept (World.grownBy_alloc _ (.cells #[.map (some (w.heap.size + 1 + 1 + 1))] 216) none) (by simp)
  simp only [World.size_alloc] at b3 b4 b5 bm
  have hB0 : Below w.heap.size w (((((w.alloc (.cells #[.slice none 0 0] 32)).alloc (.cells #[.bool false] 4)).alloc (.cells #[.slice none 0 0] 32)).alloc (.map #[] 0)).alloc (.cells #[.map (some (w.heap.size + 1 + 1 + 1))] 216)) :=
    (((((Below.refl _ w).alloc (Nat.le_refl _) _).alloc (by simp) _).alloc (by simp; omega) _).alloc (by simp; omega) _).alloc (by simp; omega) _
  have hs0 : (((((w.alloc (.cells #[.slice none 0 0] 32)).alloc (.cells #[.bool false] 4)).alloc (.cells #[.slice none 0 0] 32)).alloc (.map #[] 0)).alloc (.cells #[.map (some (w.heap.size + 1 + 1 + 1))] 216)).heap.size = w.heap.size + 5 := by simp
  generalize (((((w.alloc (.cells #[.slice none 0 0] 32)).alloc (.cells #[.bool false] 4)).alloc (.cells #[.slice none 0 0] 32)).alloc (.map #[] 0)).alloc (.cells #[.map (some (w.heap.size + 1 + 1 + 1))] 216)) = W0 at *
  have h0 : OI w [] W0 := ⟨⟨List.nodup_nil, ⟨_, b4, World.ownsRow_nil _ _ _ _⟩, b2, b3, b5, bm⟩, hB0⟩
  clear b2 b3 b4 b5 bm
  obtain ⟨i0, hi, hz0, hz1, hz2⟩ := info_parts infoI
  refine wpIn_rangeFunc_ownG rfl (by decide) (gf := gf) (lb := lb) rfl trivial eg (hseq W0 hB0) belowK_t (belowK_b (by omega)) (Below.refl _ _) (fun _ => rfl) (OI w) (OX w) (OI.own w _ hs0) (fun c => OX.own w _ hs0 c) h0
    (fun x => { tmps := #[.func (.func gf) #[] lb, undef, .pointer (some ⟨w.heap.size, 0, none⟩), .pointer (some ⟨w.heap.size + 1, 0, none⟩), .pointer (some ⟨w.heap.size + 1 + 1, 0, none⟩), .pointer (some ⟨w.heap.size + 1 + 1 + 1 + 1, 0, none⟩), .int .i64 (x.1 : Int), .map (some (w.heap.size + 1 + 1 + 1)), .func (.func gf) #[] lb, .int .i64 (x.1 : Int), undef, undef, undef, undef, undef, undef, undef, undef, undef, undef, undef, undef, undef], defers := [] }) ?assign ?body ?done ?stop
  case assign =>
    intro l x W K hK
    gi_wp2
    exact hK
  case body =>
    rintro l pre x W ⟨⟨hnd, ⟨v, hv, hrow⟩, q2, q3, q5, hsm⟩, hB⟩ hlt
    have hsz : w.heap.size + 1 + 1 + 1 + 1 < W.heap.size := q5.lt
    have k5 := q5.cell
    have hlook := hsm.look x.1 x.2
    by_cases hx : x.1 ∈ pre.map (·.1)
    . rw [if_pos hx] at hlook
      obtain ⟨W1, hu, hl2, hg1⟩ := hsm.store2 (by simp; omega) x.1 x.2
      have k5' := (q5.kept hg1 (by simp)).cell
      have p2 := (q2.kept hg1 (by simp; omega))
      have p3 := (q3.kept hg1 (by simp))
      have k2 := p2.cell
      have f2 := p2.frozen
      have k3 := p3.cell
      have f3 := p3.frozen
      have hB1 := hB.grown hg1 hB.size (fun k e => by cases e; omega)
      clear hrow hsm
      gi_wp2
      refine ⟨((KeepsFrom.of_grownBy hg1 (fun j e => by cases e; omega)).trans ((KeepsOthers.setCell _ _ _).from _)).trans ((KeepsOthers.setCell _ _ _).from _), ⟨rfl, ?_, ?_, ?_⟩, (hB1.setCell (p := ⟨w.heap.size, 0, none⟩) (Nat.le_refl _) _).setCell (p := ⟨w.heap.size + 1, 0, none⟩) (by simp) _⟩
      . rw [List.map_append, List.nodup_append]
        exact fun h => h.2.2 x.1 hx x.1 (by simp) rfl
      . exact ((p2.set (.slice none 0 0)).other (by omega) _).cell
      . exact ((p3.other (by omega) _).set _).cell
    . rw [if_neg hx] at hlook
      obtain ⟨W1, hu, hs1, hg1⟩ := hsm.store (by simp; omega) x.1 x.2 hx
      have hl2 := hs1.look x.1 x.2
      rw [if_pos (by simp)] at hl2
      obtain ⟨es, cl, hmb⟩ := hsm.block
      have hnr : some (w.heap.size + 1 + 1 + 1) ≠ v.ownBlock := by
        intro e
        rcases hrow.2 with ⟨rfl, _⟩ | ⟨g, cap, cur, rfl, _, hgb, _⟩
        . cases e
        . simp only [Value.ownBlock, Option.some.injEq] at e
          rw [← e, hmb] at hgb
          cases hgb
      have hv1 := hv.kept hg1 (by simp)
      have hrow1 := hrow.kept hg1 (.inr hnr.symm)
      have p2 := (q2.kept hg1 (by simp; omega))
      have p3 := (q3.kept hg1 (by simp))
      have p5 := (q5.kept hg1 (by simp))
      have k5' := p5.cell
      have kv := hv1.cell
      have hB1 := hB.grown hg1 hB.size (fun k e => by cases e; omega)
      have hBW1 : Below w.heap.size W W1 := (Below.refl _ W).grown hg1 hB.size (fun k e => by cases e; omega)
      have hK1 : KeepsFrom W0.heap.size W W1 := KeepsFrom.of_grownBy hg1 (fun j e => by cases e; omega)
      have hszW := hg1.size
      clear hsm hrow
      gi_wp2_with (gi_at_builtin; refine wpListIn_append_own _ rfl _ _ 32 rfl w.heap.size 3 i0 (.int .i64 0) 1 8 Tryz.underlying32 hi hz0 hz1 hz2 rfl (by decide) _ _ _ rfl (hrow1.alloc _) ⟨W1.heap.size, 0, none⟩ 1 1 [.int .i64 (x.1 : Int)] rfl rfl (cell_one_new _ _ _) (by simp [Value.oneCell']) (by unfold maxLen; omega) (by omega) (by simp; omega) ?_; intro v' w1 hown' hgrow _; obtain ⟨g', cap', rfl⟩ := ownsRow_succ hown'; obtain ⟨hv1', hv2, hr2, hk2, hb2⟩ := hv1.appended (by decide) hrow1 hB1.size (by omega) hown' hgrow; have hc1 := hv1'.cell; have hf1 := hv1'.frozen)
      have hgr : ∀ B t (u : Value), Boxed W1 B t u -> t ≠ 3 -> B ≠ w.heap.size + 1 + 1 -> Boxed (w1.setCell ⟨w.heap.size + 1 + 1, 0, none⟩ (.slice (some ⟨g', 0, none⟩) (pre.length + 1) cap')) B t u := fun B t u hb ht hn => ((hb.alloc _).kept hgrow (hb.not_row ht hrow1)).other hn _
      refine ⟨hK1.trans (hk2.from _), hBW1.trans hb2, ⟨?_, ⟨_, hv2, by simpa [iv] using hr2⟩, hgr _ _ _ p2 (by decide) (by omega), hgr _ _ _ p3 (by decide) (by omega), hgr _ _ _ p5 (by decide) (by omega), ?_⟩, hB1.trans hb2⟩
      . rw [List.map_append, List.nodup_append]
        refine ⟨hnd, by simp, fun a ha b hb e => ?_⟩
        simp at hb
        rw [e, hb] at ha
        exact hx ha
      . rw [List.map_append]
        obtain ⟨es1, cl1, hmb1⟩ := hs1.block
        have hnr1 : some (w.heap.size + 1 + 1 + 1) ≠ v.ownBlock := hnr
        exact ((hs1.kept (World.grownBy_alloc W1 _ none) (by simp)).kept hgrow hnr1).kept (grownBy_setCell' _ _ _) (by simp)
  case done =>
    rintro D ys W hD rfl ⟨⟨hnd, ⟨v, hv, hrow⟩, q2, q3, q5, hsm⟩, hB⟩ hK
    have hvs : ∃ ao m c, v = .slice ao m c := by
      rcases hrow.2 with ⟨e, _⟩ | ⟨g, cap, cur, e, _⟩
      . exact ⟨_, _, _, e⟩
      . exact ⟨_, _, _, e⟩
    obtain ⟨ao, m, c, rfl⟩ := hvs
    have kv := hv.cell
    have k2 := q2.cell
    have f2 := q2.frozen
    have k3 := q3.cell
    have f3 := q3.frozen
    gi_wp2
    have hK' := ((KeepsOthers.setCell W ⟨w.heap.size, 0, none⟩ (.slice ao m c)).trans (KeepsOthers.setCell _ ⟨w.heap.size + 1, 0, none⟩ (.bool true))).same D _ hK rfl
    have w2 := (q2.set (.slice ao m c)).other (B' := w.heap.size + 1) (by omega) (.bool true)
    have w3 := (q3.other (B' := w.heap.size) (by omega) (.slice ao m c)).set (.bool true)
    have hrw : ((W.setCell ⟨w.heap.size, 0, none⟩ (.slice ao m c)).setCell ⟨w.heap.size + 1, 0, none⟩ (.bool true)).ownsRow w.heap.size 3 1 (.slice ao m c) ys.length (ys.map fun x => iv x.1) :=
      (hrow.kept (grownBy_setCell' W _ _) (.inr (q2.not_row (by decide) hrow).symm)).kept (grownBy_setCell' _ _ _) (.inr (q3.not_row (by decide) hrow).symm)
    have hBB := (hB.setCell (p := ⟨w.heap.size, 0, none⟩) (Nat.le_refl _) (.slice ao m c)).setCell (p := ⟨w.heap.size + 1, 0, none⟩) (by simp) (.bool true)
    generalize ((W.setCell ⟨w.heap.size, 0, none⟩ (.slice ao m c)).setCell ⟨w.heap.size + 1, 0, none⟩ (.bool true)) = V at *
    refine ⟨by simp, .inl ⟨_, _, rfl, run_takeDeferred hK', ?_⟩⟩
    have hc5 := cell_kept w2.cell (grownBy_putObj' _ D (.deferred none)) (fun r e => by cases e; exact ⟨_, hK', rfl⟩)
    have hc6 := cell_kept w3.cell (grownBy_putObj' _ D (.deferred none)) (fun r e => by cases e; exact ⟨_, hK', rfl⟩)
    refine ⟨.tuple #[.slice ao m c, .bool true], ?_, hBB.trans (belowK_b (w := w) (Nat.le_refl _) V D _ _ (by omega) hK' rfl rfl), .inl ⟨hnd, _, rfl, ownsRow_putObj hrw _ hK' rfl⟩⟩
    simp [results, Tryz.f118, go_sem, hc5, hc6]
  case stop =>
    rintro D c pre W hD hpre ⟨⟨rfl, hnd, hc2, hc3⟩, hB⟩ hK
    gi_wp2
    refine ⟨by simp, .inl ⟨_, _, rfl, run_takeDeferred hK, ?_⟩⟩
    have hc5 := cell_kept hc2 (grownBy_putObj' _ D (.deferred none)) (fun r e => by cases e; exact ⟨_, hK, rfl⟩)
    have hc6 := cell_kept hc3 (grownBy_putObj' _ D (.deferred none)) (fun r e => by cases e; exact ⟨_, hK, rfl⟩)
    refine ⟨.tuple #[.slice none 0 0, .bool false], ?_, hB.trans (belowK_b (w := w) (Nat.le_refl _) W D _ _ (by omega) hK rfl rfl), .inr ⟨fun h => hnd ?_, rfl⟩⟩
    . simp [results, Tryz.f118, go_sem, hc5, hc6]
    . obtain ⟨t, rfl⟩ := hpre
      rw [List.map_append, List.nodup_append] at h
      exact h.1
end Go.Proofs.YtnghfdnlcnocjaaGreatDoor.Cir
