/- Rows of floats: appended to, read; the law's floats, walked. -/
import Derived.Test.YtnpdfkcjjedamaaGreatDoorYe
import Derived.Test.YtnpdfkcjjedamaaGreatDoorYf
import Derived.Test.YtnpdfkcjjedamaaGreatDoorLib
namespace Go.Proofs.YtnpdfkcjjedamaaGreatDoor.Sca
open Go.RowKit Go.Lib Go.Shelf Go.Proofs.YtnpdfkcjjedamaaGreatDoor.Oct

/-- Floats as the cells of a row. -/
def fv (l : List Nat) : List Value := l.map fun b => Value.float .f64 b
theorem fv_length (l : List Nat) : (fv l).length = l.length := by simp [fv]
theorem fv_append (a b : List Nat) : fv (a ++ b) = fv a ++ fv b := by simp [fv]
theorem fv_at {l : List Nat} {j b : Nat} (h : l[j]? = some b) : (fv l)[j]? = some (.float .f64 b) := by simp [fv, h]
theorem infoF : (Tryz.prog.info? 25).map (fun i => (i.zero, i.size, i.bytes)) = some (some (.float .f64 0), 1, 8) := by kernel_rfl
theorem cell_two_new (w : World) (x y : Value) (t : TypeId) : ∀ j u, [x, y][j]? = some u → (w.alloc (.cells #[x, y] t)).cell? ((⟨w.heap.size, 0, none⟩ : Addr).add j) = some u := by
  intro j u hj
  match j, hj with
  | 0, hj => simp at hj; subst hj; simp [Addr.add]
  | 1, hj => simp at hj; subst hj; simp [Addr.add]
section
variable {P : Program}
/-- 'x = append(x, f)'. -/
theorem wpList_pushF {ops : Array Oper} {rest : List Oper} {o : Oper} {a : Act} {Q : Exit → Act → World → Prop} {w : World} (hgd : o.guard = none) (s x : Operand) (t : TypeId)
    (ho : o.op = .call { callee := .builtin .append, args := #[s, x], argTypes := #[t, t] })
    (e : TypeId) (ht : P.underlying t = some (.slice e)) (hinfo : (P.info? e).map (fun i => (i.zero, i.size, i.bytes)) = some (some (.float .f64 0), 1, 8))
    (B : Nat) (ao : Option Addr) (n c : Nat) (l : List Nat) (hs : a.eval s = .slice ao n c) (hown : w.ownsRow B e 1 (.slice ao n c) n (fv l))
    (z : Nat) (hx : a.eval x = .slice (some ⟨w.heap.size, 0, none⟩) 1 1) (hlen : (n + 1) * 8 ≤ 140737488355328) (hbase : B ≤ w.heap.size)
    (h : ∀ g cap w', w'.ownsRow B e 1 (.slice (some ⟨g, 0, none⟩) (n + 1) cap) (n + 1) (fv (l ++ [z])) → w.grownBy w' (ob ao) → (ob ao = some g ∨ w.heap.size ≤ g) → wpList P ops Q rest (a.put o.dst (.slice (some ⟨g, 0, none⟩) (n + 1) cap)) w') :
    wpList P ops Q (o :: rest) a (w.alloc (.cells #[.float .f64 z] e)) := by
  obtain ⟨i, hi, hz0, hz1, hz2⟩ := info_parts hinfo
  refine wpList_append_lies _ hgd s x t ho B e i (.float .f64 0) 1 8 ht hi hz0 hz1 hz2 rfl (by decide) _ n (fv l) hs (hown.alloc _) ⟨w.heap.size, 0, none⟩ 1 1 [.float .f64 z] hx rfl (cell_one_new _ _ _) (by intro u hu; simp at hu; subst hu; rfl) (by decide) (by unfold maxLen; omega) (by omega) (by simp; omega) _ rfl ?_
  intro g cap w' ho' hg hat hlt
  rw [ob_eq] at hg hat
  refine h g cap w' (by rw [fv_append]; exact ho') ((grown_alloc w _ _).trans hg) ?_
  rcases hat with e | e
  · exact .inl e
  · right; simp at e; omega
/-- 'x = append(x, f, g)'. -/
theorem wpList_pushF2 {ops : Array Oper} {rest : List Oper} {o : Oper} {a : Act} {Q : Exit → Act → World → Prop} {w : World} (hgd : o.guard = none) (s x : Operand) (t : TypeId)
    (ho : o.op = .call { callee := .builtin .append, args := #[s, x], argTypes := #[t, t] })
    (e : TypeId) (ht : P.underlying t = some (.slice e)) (hinfo : (P.info? e).map (fun i => (i.zero, i.size, i.bytes)) = some (some (.float .f64 0), 1, 8))
    (B : Nat) (ao : Option Addr) (n c : Nat) (l : List Nat) (hs : a.eval s = .slice ao n c) (hown : w.ownsRow B e 1 (.slice ao n c) n (fv l))
    (z y : Nat) (hx : a.eval x = .slice (some ⟨w.heap.size, 0, none⟩) 2 2) (hlen : (n + 2) * 8 ≤ 140737488355328) (hbase : B ≤ w.heap.size)
    (h : ∀ g cap w', w'.ownsRow B e 1 (.slice (some ⟨g, 0, none⟩) (n + 2) cap) (n + 2) (fv (l ++ [z, y])) → w.grownBy w' (ob ao) → (ob ao = some g ∨ w.heap.size ≤ g) → wpList P ops Q rest (a.put o.dst (.slice (some ⟨g, 0, none⟩) (n + 2) cap)) w') :
    wpList P ops Q (o :: rest) a (w.alloc (.cells #[.float .f64 z, .float .f64 y] e)) := by
  obtain ⟨i, hi, hz0, hz1, hz2⟩ := info_parts hinfo
  refine wpList_append_lies _ hgd s x t ho B e i (.float .f64 0) 1 8 ht hi hz0 hz1 hz2 rfl (by decide) _ n (fv l) hs (hown.alloc _) ⟨w.heap.size, 0, none⟩ 2 2 [.float .f64 z, .float .f64 y] hx rfl (cell_two_new _ _ _ _) (by intro u hu; simp at hu; rcases hu with rfl | rfl <;> rfl) (by decide) (by unfold maxLen; omega) (by omega) (by simp; omega) _ rfl ?_
  intro g cap w' ho' hg hat hlt
  rw [ob_eq] at hg hat
  refine h g cap w' (by rw [fv_append]; exact ho') ((grown_alloc w _ _).trans hg) ?_
  rcases hat with e | e
  · exact .inl e
  · right; simp at e; omega
end
/-- A row's floats, where they lie. -/
theorem own_cells {w : World} {B : Nat} {e : TypeId} {g n c : Nat} {l : List Nat} (h : w.ownsRow B e 1 (.slice (some ⟨g, 0, none⟩) n c) n (fv l)) (j b : Nat) (hj : l[j]? = some b) : w.cell? ⟨g, 0 + j, none⟩ = some (.float .f64 b) := by
  have hc := h.cells (g := g) (by rw [ob_eq]; rfl) j (.float .f64 b) (fv_at hj)
  rw [Addr.add_lit] at hc
  exact hc
theorem own_some {w : World} {B : Nat} {e : TypeId} {ao : Option Addr} {n c : Nat} {l : List Nat} (h : w.ownsRow B e 1 (.slice ao n c) n (fv l)) : (ao = none ∧ n = 0 ∧ c = 0 ∧ l = []) ∨ ∃ g, ao = some ⟨g, 0, none⟩ := by
  have hl := h.1
  rw [fv_length] at hl
  rcases h.2 with ⟨hv, h0⟩ | ⟨g, cap, cur, hv, _⟩
  · simp only [Value.slice.injEq] at hv
    exact .inl ⟨hv.1, h0, hv.2.2, List.eq_nil_of_length_eq_zero (by omega)⟩
  · simp only [Value.slice.injEq] at hv
    exact .inr ⟨g, hv.1⟩
theorem sWhole_none (w : World) :
    Calls Tryz.prog 9 #[.slice none 0 0] w fun e w' => ∃ r, e = .returned (.float .f64 r) ∧ r < 18446744073709551616 ∧ can r = wholeC [] ∧ Below w.heap.size w w' := by
  have h0 := tot_new w
  have hb0 : Below w.heap.size w (w.alloc (.cells zero34 44)) := (Below.refl _ _).alloc (Nat.le_refl _) _
  have hq := tsum_q [] (by simp)
  have cR := fun w => tRound (List.replicate 34 0) h0.len h0.lt 0 0 hq.1 hq.2 (by rw [val_zero]; rfl) w
  have hbk := h0.blk
  have hsz : (Tryz.prog.info? 44).map (·.size) = some (aw (List.replicate 34 0)).size := by rw [aw_size, h0.len]; kernel_rfl
  have hfl : (FloatKind.f64.format.order 0 0 != some .eq) = false := by decide +kernel
  rw [sgR_zero] at cR
  generalize aw (List.replicate 34 0) = A at *
  clear hq h0
  go_enter Tryz.func9, Tryz.ntmps9
  go_wp2
  generalize w.alloc (.cells zero34 44) = W0 at *
  go_loop [4, 5, 16] (fun ve vs vi => ve = .float .f64 0 ∧ vs = .bool false ∧ vi = .int .i64 0) (fun _ _ _ => 0)
  case atStart => exact ⟨rfl, rfl, rfl⟩
  case round =>
    obtain ⟨rfl, rfl, rfl⟩ := hrel
    go_wp2_with (refine wpList_load_row rfl 44 _ rfl w.heap.size rfl 44 A (0, 0) _ hbk Tryz.underlying44 rfl hsz ?_)
    refine (cR _).mono ?_
    rintro e' w1 ⟨rfl, hB1⟩
    go_wp2
    go_ret
    exact ⟨0, rfl, by omega, by decide +kernel, hb0.trans (hB1.mono hb0.size)⟩
/-- Whole of a row. -/
theorem sWhole (B : Nat) (e : TypeId) (ao : Option Addr) (n c : Nat) (bs : List Nat) (w : World) (hn1 : n ≤ 17592186044416) (h : w.ownsRow B e 1 (.slice ao n c) n (fv bs)) (hlt : ∀ x ∈ bs, x < 18446744073709551616) (hT : Tz w) :
    Calls Tryz.prog 9 #[.slice ao n c] w fun e w' => ∃ r, e = .returned (.float .f64 r) ∧ r < 18446744073709551616 ∧ can r = wholeC bs ∧ Below w.heap.size w w' := by
  have hl := h.1
  rw [fv_length] at hl
  rcases own_some h with ⟨rfl, rfl, rfl, rfl⟩ | ⟨g, rfl⟩
  · exact sWhole_none w
  · exact sWhole_some g 0 n c bs w (by omega) hn1 (own_cells h) (fun i x hx => hlt x (List.mem_of_getElem? hx)) hT
/-- Numbers of 64 bits that came in. -/
def Us (w : World) (ao : Option Addr) (us : List Nat) : Prop := us = [] ∨ ∃ g off, ao = some ⟨g, off, none⟩ ∧ ∀ (j : Nat) b, us[j]? = some b → w.cell? ⟨g, off + j, none⟩ = some (.int .u64 (b : Int))
theorem Us.below {w w' : World} {ao : Option Addr} {us : List Nat} (h : Us w ao us) (hb : Below w.heap.size w w') : Us w' ao us := by
  rcases h with h | ⟨g, off, e, h⟩
  · exact .inl h
  · exact .inr ⟨g, off, e, fun j b hj => cell_b (h j b hj) hb⟩
set_option maxRecDepth 100000 in
set_option maxHeartbeats 1000000 in
theorem kFloats (ai : Option Addr) (ci n : Nat) (us : List Nat) (w : World) (hun : us.length = n) (hn : n ≤ 17592186044415) (hU : Us w ai us) :
    Calls Tryz.prog 6 #[.slice ai n ci] w fun e w' => ∃ ao c, e = .returned (.slice ao n c) ∧ w'.ownsRow w.heap.size 25 1 (.slice ao n c) n (fv us) ∧ Below w.heap.size w w' := by
  have HU : Hid (Us w ai us) := hU
  clear hU
  go_enter Tryz.func6, Tryz.ntmps6
  go_wp2
  go_loopw [3, 4] (fun vo vi wr => ∃ (k c : Nat) (ao : Option Addr), vo = .slice ao k c ∧ vi = .int .i64 (k : Int) ∧ k ≤ n ∧ wr.ownsRow w.heap.size 25 1 (.slice ao k c) k (fv (us.take k)) ∧ Below w.heap.size w wr) (fun _ vi _ => n - (Go.RowKit.intOf vi).toNat)
  case atStart => exact ⟨0, 0, none, rfl, rfl, Nat.zero_le _, World.ownsRow_nil w _ _ 1, Below.refl _ _⟩
  case round =>
    obtain ⟨k, c, ao, rfl, rfl, hk, hown, hbel⟩ := hrel
    by_cases hkn : k < n
    · have hkz : decide ((k : Int) < (n : Int)) = true := decide_eq_true (by omega)
      obtain ⟨x, hx⟩ : ∃ x, us[k]? = some x := ⟨us[k]'(by omega), List.getElem?_eq_getElem _⟩
      have hne : us ≠ [] := fun e => by rw [e] at hx; simp at hx
      obtain ⟨g, off, rfl, hcell⟩ := HU.out.resolve_left hne
      have hxc := cell_b (hcell k x hx) hbel
      have htk : us.take (k + 1) = us.take k ++ [x] := by rw [List.take_add_one, hx]; rfl
      have HTK : Hid (us.take (k + 1) = us.take k ++ [x]) := htk
      have hs := hbel.size
      have cO := fun w => qOf x w
      clear htk hcell hne hx
      generalize us.take k = L at *
      go_wp2_with (first | (go_at_call 14; refine (cO _).mono ?_; rintro e' w' ⟨rfl, hw⟩; obtain rfl := hw.symm) | (at_builtin; refine wpList_pushF rfl _ _ 23 rfl 25 Tryz.underlying23 infoF w.heap.size ao k c L rfl hown x rfl (by omega) hs ?_))
      intro g2 c2 w2 hown2 hgrow hat
      have hb2 : Below w.heap.size w w2 := hbel.grown hgrow hs (fun q hq => (hown.lt q (by rw [ob_eq]; exact hq)).1)
      clear hown hgrow hat
      go_wp2
      exact ⟨⟨k + 1, c2, some ⟨g2, 0, none⟩, rfl, by go_num, by omega, by rw [HTK.out]; exact hown2, hb2⟩, by simp [Go.RowKit.intOf]; omega⟩
    · obtain rfl : k = n := by omega
      rw [show us.take k = us from by rw [← hun, List.take_length]] at hown
      go_wp2
      go_ret
      exact ⟨ao, c, rfl, hown, hbel⟩
end Go.Proofs.YtnpdfkcjjedamaaGreatDoor.Sca
