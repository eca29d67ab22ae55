/- What the laws do with rows of tokens (same, plain), as they are walked. -/
import Derived.Test.YtinbbcojilogeaaDoorKn
namespace Go.Proofs.YtinbbcojilogeaaDoor.Tok
open Go.RowKit Go.Shelf Go.Proofs.YtinbbcojilogeaaDoor.Oct

def T.ta (t : T) : TA := ⟨t.kind, t.text, t.num, t.off, t.line, t.col⟩
theorem tv_ta (t : T) : tv t = t.ta.cells := rfl
theorem tvs_ta (ts : List T) : tvs ts = (ts.map T.ta).flatMap TA.cells := by
  unfold tvs
  rw [List.flatMap_map]
  rfl
/-- A row of the program's own, as a row of tokens. -/
theorem ta_of_own {w : World} {B e n c : Nat} {ao : Option Addr} {ts : List TA} (h : w.ownsRow B e 6 (.slice ao n c) n (ts.flatMap TA.cells)) : Ta w ao ts := by
  intro j t hj
  rcases h.2 with ⟨_, h0⟩ | ⟨g, cap, cur, hv, _⟩
  · have hl := h.1
    rw [h0] at hl
    have : (ts.flatMap TA.cells)[j * 6 + 0]? = some (.int .i64 t.kd) := flat_at ts j t hj 0 _ rfl
    have h2 := (List.getElem?_eq_some_iff.1 this).1
    omega
  · simp only [Value.slice.injEq] at hv
    refine ⟨g, 0, hv.1, fun i v hi => ?_⟩
    have hc := h.cells (g := g) (by rw [ob_eq, hv.1]; rfl) (j * 6 + i) v (flat_at ts j t hj i v hi)
    rw [Addr.add_lit] at hc
    rw [Nat.add_assoc]
    exact hc
set_option maxRecDepth 100000 in
set_option maxHeartbeats 4000000 in
theorem xSame (ao bo : Option Addr) (ca cb : Nat) (ts : List TA) (hn : ts.length ≤ 1099511627776) (w : World) (hA : Ta w ao ts) (hB : Ta w bo ts) :
    Calls Tryd.prog 16 #[.slice ao ts.length ca, .slice bo ts.length cb] w fun e w' => e = .returned (.bool true) ∧ Below w.heap.size w w' := by
  obtain ⟨n, hnn⟩ : ∃ n, ts.length = n := ⟨_, rfl⟩
  rw [hnn] at hn ⊢
  go_enter Tryd.func16, Tryd.ntmps16
  go_wp2_with fail
  go_loopw [5] (fun x wr => ∃ k : Nat, x = .int .i64 (k : Int) ∧ k ≤ n ∧ Below w.heap.size w wr) (fun x _ => n - (RowKit.intOf x).toNat)
  case atStart => exact ⟨0, rfl, Nat.zero_le _, Below.refl _ _⟩
  case round =>
    obtain ⟨k, rfl, hk, hbel⟩ := hrel
    by_cases hlt : k < n
    · have hlt' : (k : Int) < (n : Int) := by omega
      obtain ⟨t, ht⟩ : ∃ t, ts[k]? = some t := ⟨_, List.getElem?_eq_getElem (by omega)⟩
      obtain ⟨g, off, rfl, hcl⟩ := hA k t ht
      obtain ⟨g', off', rfl, hcl'⟩ := hB k t ht
      obtain ⟨kd, tx, nm, o1, o2, o3⟩ := t
      have hca : ∀ i v, (TA.mk kd tx nm o1 o2 o3).cells[i]? = some v → wr.cell? ⟨g, off + k * 6 + i, none⟩ = some v := fun i v hv => cell_below (hcl i v hv) hbel
      have hcb : ∀ i v, (TA.mk kd tx nm o1 o2 o3).cells[i]? = some v → wr.cell? ⟨g', off' + k * 6 + i, none⟩ = some v := fun i v hv => cell_below (hcl' i v hv) hbel
      have a0 := hca 0 _ rfl
      have a1 := hca 1 _ rfl
      have a2 := hca 2 _ rfl
      have a3 := hca 3 _ rfl
      have a4 := hca 4 _ rfl
      have a5 := hca 5 _ rfl
      have b0 := hcb 0 _ rfl
      have b1 := hcb 1 _ rfl
      have b2 := hcb 2 _ rfl
      have b3 := hcb 3 _ rfl
      have b4 := hcb 4 _ rfl
      have b5 := hcb 5 _ rfl
      rw [Nat.add_zero] at a0 b0
      clear hcl hcl' hca hcb hA hB ht
      generalize (⟨tx.toArray⟩ : ByteArray) = s at *
      go_wp2_with fail
      go_region
      all_goals try go_wp2_with fail
      all_goals exact ⟨⟨k + 1, by go_num, by omega, hbel.drew⟩, by simp [RowKit.intOf]; omega⟩
    · have hlt' : ¬ (k : Int) < (n : Int) := by omega
      go_wp2_with fail
      go_ret
      exact ⟨rfl, hbel⟩
def TA.pl (t : TA) : TA := ⟨t.kd, t.tx, t.nm, 0, 0, 0⟩
/-- 'x = append(x, t)' of a token of whatever fields. -/
theorem wpList_pushA {P : Program} {ops : Array Oper} {rest : List Oper} {o : Oper} {a : Act} {Q : Exit → Act → World → Prop} {w : World} (hgd : o.guard = none) (s x : Operand) (t : TypeId)
    (ho : o.op = .call { callee := .builtin .append, args := #[s, x], argTypes := #[t, t] })
    (e : TypeId) (ht : P.underlying t = some (.slice e)) (hinfo : (P.info? e).map (fun i => (i.zero, i.size, i.bytes)) = some (some (.agg #[.int .i64 0, .string ⟨#[]⟩, .int .i64 0, .int .i64 0, .int .i64 0, .int .i64 0]), 6, 56))
    (B : Nat) (ao : Option Addr) (n c : Nat) (ts : List TA) (hs : a.eval s = .slice ao n c) (hown : w.ownsRow B e 6 (.slice ao n c) n (ts.flatMap TA.cells))
    (tk : TA) (cells : Array Value) (hz : cells = tk.cells.toArray) (H : Nat) (hH : w.heap.size = H) (hx : a.eval x = .slice (some ⟨H, 0, none⟩) 1 1) (hlen : n + 1 ≤ 2199023255552) (hbase : B ≤ w.heap.size)
    (h : ∀ g cap w', w'.ownsRow B e 6 (.slice (some ⟨g, 0, none⟩) (n + 1) cap) (n + 1) ((ts ++ [tk]).flatMap TA.cells) → w.grownBy w' (ob ao) → wpList P ops Q rest (a.put o.dst (.slice (some ⟨g, 0, none⟩) (n + 1) cap)) w') :
    wpList P ops Q (o :: rest) a (w.alloc (.cells cells e)) := by
  obtain ⟨i, hi, hz0, hz1, hz2⟩ := info_parts hinfo
  subst hz
  subst hH
  refine wpList_append_lies _ hgd s x t ho B e i _ 6 56 ht hi hz0 hz1 hz2 rfl (by decide) _ n _ hs (hown.alloc _) ⟨w.heap.size, 0, none⟩ 1 1 tk.cells hx rfl (by
    intro j u hu
    rw [Addr.add_lit, cell_of_row _ _ _ _ _ _ (heap_alloc_new w _)]
    simpa using hu) (by intro u hu; simp [TA.cells] at hu; rcases hu with rfl | rfl | rfl | rfl | rfl | rfl <;> rfl) (by decide) (by unfold maxLen; omega) (by omega) (by simp; omega) _ rfl ?_
  intro g cap w' ho' hg hat hlt
  rw [ob_eq] at hg
  refine h g cap w' (by rw [List.flatMap_append, List.flatMap_cons, List.flatMap_nil, List.append_nil]; exact ho') ((grown_alloc w _ _).trans hg)
set_option maxRecDepth 100000 in
set_option maxHeartbeats 4000000 in
theorem xPlain (ao : Option Addr) (ca : Nat) (ts : List TA) (hn : ts.length ≤ 1099511627776) (w : World) (hA : Ta w ao ts) :
    Calls Tryd.prog 22 #[.slice ao ts.length ca] w fun e w' => ∃ bo c, e = .returned (.slice bo ts.length c) ∧ w'.ownsRow w.heap.size 37 6 (.slice bo ts.length c) ts.length ((ts.map TA.pl).flatMap TA.cells) ∧ Below w.heap.size w w' := by
  obtain ⟨n, hnn⟩ : ∃ n, ts.length = n := ⟨_, rfl⟩
  rw [hnn] at hn ⊢
  go_enter Tryd.func22, Tryd.ntmps22
  go_wp2_with fail
  go_loopw [3, 4] (fun v x wr => ∃ (k : Nat) (bo : Option Addr) (c : Nat) (xs : List TA), x = .int .i64 (k : Int) ∧ v = .slice bo k c ∧ k ≤ n ∧ wr.ownsRow w.heap.size 37 6 (.slice bo k c) k (xs.flatMap TA.cells) ∧ Below w.heap.size w wr ∧ Hid (xs = (ts.map TA.pl).take k)) (fun _ x _ => n - (RowKit.intOf x).toNat)
  case atStart => exact ⟨0, none, 0, [], rfl, rfl, Nat.zero_le _, World.ownsRow_nil _ _ _ _, Below.refl _ _, hide rfl⟩
  case round =>
    obtain ⟨k, bo, c, xs, rfl, rfl, hk, hown, hbel, Hxs⟩ := hrel
    by_cases hlt : k < n
    · have hlt' : (k : Int) < (n : Int) := by omega
      obtain ⟨t, ht⟩ : ∃ t, ts[k]? = some t := ⟨_, List.getElem?_eq_getElem (by omega)⟩
      obtain ⟨g, off, rfl, hcl⟩ := hA k t ht
      obtain ⟨kd, tx, nm, o1, o2, o3⟩ := t
      obtain ⟨ys, hys⟩ : ∃ ys, xs ++ [(⟨kd, tx, nm, 0, 0, 0⟩ : TA)] = ys := ⟨_, rfl⟩
      have Hys : Hid (ys = (ts.map TA.pl).take (k + 1)) := hide (by rw [← hys, Hxs.out, List.take_add_one, List.getElem?_map, ht]; rfl)
      have hca : ∀ i v, (TA.mk kd tx nm o1 o2 o3).cells[i]? = some v → wr.cell? ⟨g, off + k * 6 + i, none⟩ = some v := fun i v hv => cell_below (hcl i v hv) hbel
      have a0 := hca 0 _ rfl
      have a1 := hca 1 _ rfl
      have a2 := hca 2 _ rfl
      have a3 := hca 3 _ rfl
      have a4 := hca 4 _ rfl
      have a5 := hca 5 _ rfl
      rw [Nat.add_zero] at a0
      have hsz := hbel.size
      have Hown : Hid (∀ o, (wr.alloc o).ownsRow w.heap.size 37 6 (.slice bo k c) k (xs.flatMap TA.cells)) := hide (fun o => hown.alloc o)
      have HysE := hide hys
      clear hcl hca hA ht hys
      go_wp2_with (at_builtin; refine wpList_pushA rfl _ _ 28 rfl 37 Tryd.underlying28 infoT w.heap.size bo k c xs rfl (Hown.out _) ⟨kd, tx, nm, 0, 0, 0⟩ _ rfl _ (by simp) rfl (by omega) (Nat.le_trans hsz (by simp)) ?_)
      intro g6 cap6 w6 hown6 hgrow6
      have hown7 : w6.ownsRow w.heap.size 37 6 (.slice (some ⟨g6, 0, none⟩) (k + 1) cap6) (k + 1) (ys.flatMap TA.cells) := by
        rw [← HysE.out, List.flatMap_append, List.flatMap_cons, List.flatMap_nil, List.append_nil]
        exact hown6
      have hb6 : Below w.heap.size w w6 := (hbel.alloc hsz _).grown hgrow6 (by simp; omega) (fun q hq => (own_lt hown q hq).1)
      clear a0 a1 a2 a3 a4 a5 hgrow6 Hown hown HysE hown6
      go_wp2_with fail
      exact ⟨⟨k + 1, some ⟨g6, 0, none⟩, cap6, ys, by go_num, rfl, by omega, hown7, hb6, Hys⟩, by simp [RowKit.intOf]; omega⟩
    · have hlt' : ¬ (k : Int) < (n : Int) := by omega
      obtain rfl : k = n := by omega
      have Hf : Hid (xs = ts.map TA.pl) := hide (by rw [Hxs.out, List.take_of_length_le (by rw [List.length_map]; omega)])
      clear Hxs
      go_wp2_with fail
      go_ret
      refine ⟨bo, c, rfl, ?_, hbel⟩
      rw [← Hf.out]
      exact hown
end Go.Proofs.YtinbbcojilogeaaDoor.Tok
