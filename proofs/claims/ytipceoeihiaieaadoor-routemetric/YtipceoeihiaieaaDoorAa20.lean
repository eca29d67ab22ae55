/- Layer 20: pairs in memory; rows of pairs of one's own; maps as values. -/
import Derived.WalkKit
import Derived.WalkSpells
import Derived.WalkLawsBesides
import Derived.Below
import Derived.OwnWalk
import Derived.Deep.AppendLies
import Derived.Test.YtipceoeihiaieaaDoorProg
namespace Go.Proofs.YtipceoeihiaieaaDoor.Rou
open Go.RowKit

theorem hide {p : Prop} (h : p) : Hid p := h
theorem bnew (w : World) (o : Obj) : Below w.heap.size w (w.alloc o) := (Below.refl _ _).alloc (Nat.le_refl _) _
theorem bkp {w V U : World} (h1 : Below w.heap.size w V) (h2 : Below V.heap.size V U) : Below w.heap.size w U := h1.trans (h2.mono h1.size)
/-- The block of a slice's array. -/
def ob (ao : Option Addr) : Option Nat := ao.map (·.block)
theorem ob_eq (ao : Option Addr) (n c : Nat) : (Value.slice ao n c).ownBlock = ob ao := by cases ao <;> rfl
theorem cellB {w w' : World} {a : Addr} {v : Value} (h : w.cell? a = some v) (hb : Below w.heap.size w w') : w'.cell? a = some v := (hb.cell (World.block_lt_of_cell? w _ h)).trans h
theorem own_of_block {w w' : World} {B e size n : Nat} {ao : Option Addr} {m c : Nat} {xs : List Value} (h : w.ownsRow B e size (.slice ao m c) n xs) (hb : ∀ k, ob ao = some k → w'.heap[k]? = w.heap[k]?) : w'.ownsRow B e size (.slice ao m c) n xs := by
  refine ⟨h.1, ?_⟩
  rcases h.2 with h0 | ⟨g, cap, cur, hv, hbg, hg, h1⟩
  · exact .inl h0
  · cases hv
    exact .inr ⟨g, _, cur, rfl, hbg, (hb g rfl).trans hg, h1⟩
theorem own_lt {w : World} {B e size n : Nat} {ao : Option Addr} {m c : Nat} {xs : List Value} (h : w.ownsRow B e size (.slice ao m c) n xs) : ∀ k, ob ao = some k → B ≤ k ∧ k < w.heap.size := by
  intro k hk
  rcases h.2 with ⟨h0, -⟩ | ⟨g, cap, cur, hv, hbg, hg, h1⟩
  · cases h0
    cases hk
  · cases hv
    cases hk
    exact ⟨hbg, (Array.getElem?_eq_some_iff.1 hg).1⟩
theorem own_below {w w' : World} {B e size n : Nat} {ao : Option Addr} {m c : Nat} {xs : List Value} (h : w.ownsRow B e size (.slice ao m c) n xs) (hb : Below w.heap.size w w') : w'.ownsRow B e size (.slice ao m c) n xs := own_of_block h fun k hk => hb.block k (own_lt h k hk).2
theorem own_ne {w : World} {B e size n : Nat} {ao : Option Addr} {m c : Nat} {xs : List Value} (h : w.ownsRow B e size (.slice ao m c) n xs) {k : Nat} {cs : Array Value} {t : TypeId} {fr : Nat × Nat} (hk : w.heap[k]? = some (.cells cs t fr)) (ht : t ≠ e) : ob ao ≠ some k := by
  intro e1
  rcases h.2 with ⟨h0, -⟩ | ⟨g, cap, cur, hv, hbg, hg, h1⟩
  · cases h0
    cases e1
  · cases hv
    cases e1
    rw [hg] at hk
    simp only [Option.some.injEq, Obj.cells.injEq] at hk
    exact ht hk.2.1.symm
theorem own_cell {w : World} {B e n : Nat} {ao : Option Addr} {size m c : Nat} {xs : List Value} (h : w.ownsRow B e size (.slice ao m c) n xs) {j : Nat} {v : Value} (hj : xs[j]? = some v) : ∃ g, ao = some ⟨g, 0, none⟩ ∧ B ≤ g ∧ g < w.heap.size ∧ w.cell? ⟨g, j, none⟩ = some v := by
  rcases h.2 with ⟨h0, h1⟩ | ⟨g, cap, cur, hv, hbg, hg, h1, h2, h3, h4⟩
  · have := h.1
    rw [h1, Nat.zero_mul] at this
    rw [List.length_eq_zero_iff.1 this] at hj
    simp at hj
  · cases hv
    refine ⟨g, rfl, hbg, (Array.getElem?_eq_some_iff.1 hg).1, ?_⟩
    rw [cell_of_row _ _ _ _ _ _ hg]
    rw [← h4] at hj
    rw [List.getElem?_take] at hj
    split at hj
    · rw [← Array.getElem?_toList]; exact hj
    · cases hj
theorem own_none (w : World) (B e size : Nat) : w.ownsRow B e size (.slice none 0 0) 0 [] := ⟨by simp, .inl ⟨rfl, rfl⟩⟩
theorem grown_alloc (w : World) (o : Obj) (k : Option Nat) : w.grownBy (w.alloc o) k := ⟨rfl, rfl, rfl, by simp, fun j hj _ => Below.heap_alloc w o j hj⟩
theorem brow {B : Nat} {a w : World} (h : Below B a w) (g : Nat) (cs : Array Value) (hg : B ≤ g) : Below B a (w.setRow g cs) :=
  ⟨h.os, h.tape, h.output, by rw [show (w.setRow g cs).heap.size = w.heap.size by simp [World.setRow]]; exact h.size, fun k hk => (setRow_other _ _ _ _ (by omega)).trans (h.block k hk)⟩
theorem drewB {B : Nat} {a w : World} (h : Below B a w) : Below B a w.drew := ⟨h.os, h.tape, h.output, h.size, h.block⟩

section
variable {P : Program}
/-- 'x = append(x, v)', elements of several cells. -/
theorem wpList_pushN {ops : Array Oper} {rest : List Oper} {o : Oper} {a : Act} {Q : Exit → Act → World → Prop} {w : World} (hgd : o.guard = none) (s x : Operand) (t : TypeId)
    (ho : o.op = .call { callee := .builtin .append, args := #[s, x], argTypes := #[t, t] })
    (e : TypeId) (ht : P.underlying t = some (.slice e)) (z0 : Value) (size by' : Nat) (hinfo : (P.info? e).map (fun i => (i.zero, i.size, i.bytes)) = some (some z0, size, by')) (hz0' : z0.cells.size = size) (hs0 : 0 < size)
    (B : Nat) (ao : Option Addr) (n c : Nat) (xs : List Value) (hs : a.eval s = .slice ao n c) (hown : w.ownsRow B e size (.slice ao n c) n xs)
    (news : List Value) (cells : Array Value) (hz : cells = news.toArray) (hl : news.length = size) (hv : ∀ u ∈ news, u.oneCell' = true) (H : Nat) (hH : w.heap.size = H) (hx : a.eval x = .slice (some ⟨H, 0, none⟩) 1 1) (hlen : (n + 1) * by' ≤ 140737488355328) (hn : n + 1 ≤ 140737488355328) (hbase : B ≤ w.heap.size)
    (h : ∀ g cap w', w'.ownsRow B e size (.slice (some ⟨g, 0, none⟩) (n + 1) cap) (n + 1) (xs ++ news) → w.grownBy w' (ob ao) → (ob ao = some g ∨ w.heap.size ≤ g) → wpList P ops Q rest (a.put o.dst (.slice (some ⟨g, 0, none⟩) (n + 1) cap)) w') :
    wpList P ops Q (o :: rest) a (w.alloc (.cells cells e)) := by
  obtain ⟨i, hi, hz0, hz1, hz2⟩ := info_parts hinfo
  subst hz
  subst hH
  refine wpList_append_lies _ hgd s x t ho B e i z0 size by' ht hi hz0 hz1 hz2 hz0' hs0 _ n xs hs (hown.alloc _) ⟨w.heap.size, 0, none⟩ 1 1 news hx (by omega) (fun j u hu => by rw [Addr.add_lit, Nat.zero_add, cell_of_row _ _ _ _ _ _ (heap_alloc_new w _)]; simpa using hu) hv (by decide) (by unfold maxLen; omega) hlen (by simp; omega) _ rfl ?_
  intro g cap w' ho' hg hat hlt
  rw [ob_eq] at hg hat
  refine h g cap w' ho' ((grown_alloc w _ _).trans hg) ?_
  rcases hat with e | e
  · exact .inl e
  · right; simp at e; omega
end

theorem results_c {P : Program} {fn : Func} {p : Tmp} {ty : TypeId} (h : fn.results = #[.cell p ty]) (tmps : Array Value) (w : World) (g : Nat) (t : TypeId) (cs : Array Value) (fr : Nat × Nat) (d : TypeDesc)
    (hp : tmps.getD p undef = .pointer (some ⟨g, 0, none⟩)) (hg : w.heap[g]? = some (.cells cs t fr))
    (hu : P.underlying ty = some d) (hd : (match d with | .struct _ | .array _ _ => true | _ => false) = true) (hi : (P.info? ty).map (·.size) = some cs.size) :
    (results fn tmps).run P w = .ok (.agg cs) w := by
  have hp' : tmps[p]?.getD undef = .pointer (some ⟨g, 0, none⟩) := by simpa using hp
  simp [results, h, hp', asAddr, run_loadVar_row w g t ty cs fr d hg hu hd hi]
theorem results_ct {P : Program} {fn : Func} {p u : Tmp} {ty : TypeId} (h : fn.results = #[.cell p ty, .tmp u]) (tmps : Array Value) (w : World) (g : Nat) (t : TypeId) (cs : Array Value) (fr : Nat × Nat) (d : TypeDesc)
    (hp : tmps.getD p undef = .pointer (some ⟨g, 0, none⟩)) (hg : w.heap[g]? = some (.cells cs t fr))
    (hu : P.underlying ty = some d) (hd : (match d with | .struct _ | .array _ _ => true | _ => false) = true) (hi : (P.info? ty).map (·.size) = some cs.size) :
    (results fn tmps).run P w = .ok (.tuple #[.agg cs, tmps.getD u undef]) w := by
  have hp' : tmps[p]?.getD undef = .pointer (some ⟨g, 0, none⟩) := by simpa using hp
  simp [results, h, hp', asAddr, run_loadVar_row w g t ty cs fr d hg hu hd hi]
theorem m_set (w : World) (g : Nat) (x0 x1 a b : Value) (t : TypeId) (h : w.heap[g]? = some (.cells #[x0, x1] t (0, 0))) : (w.setCell ⟨g, 0, none⟩ a).setCell ⟨g, 1, none⟩ b = w.setRow g #[a, b] := by
  rw [setCell_eq_setRow w g 0 _ t _ _ h, setCell_eq_setRow _ g 1 _ t _ _ (setRow_heap w g _ _ t _ h), setRow_setRow]
  rfl
/-- A pair of places. -/
abbrev Pr := Int × Int
def pC (p : Pr) : List Value := [.int .i64 p.1, .int .i64 p.2]
def pcs (ps : List Pr) : List Value := ps.flatMap pC
theorem pcs_app (a b : List Pr) : pcs (a ++ b) = pcs a ++ pcs b := by simp [pcs]
theorem pcs_one (p : Pr) : pcs [p] = pC p := by simp [pcs]
theorem pcs_len (ps : List Pr) : (pcs ps).length = ps.length * 2 := by
  induction ps with
  | nil => rfl
  | cons p r ih =>
    show (pC p ++ pcs r).length = _
    rw [List.length_append, ih, List.length_cons]
    show 2 + r.length * 2 = _
    omega
theorem pcs_at : ∀ (ps : List Pr) (j : Nat) (p : Pr), ps[j]? = some p → (pcs ps)[j * 2]? = some (.int .i64 p.1) ∧ (pcs ps)[j * 2 + 1]? = some (.int .i64 p.2)
  | [], j, p, h => by simp at h
  | q :: r, 0, p, h => by
    simp only [List.getElem?_cons_zero, Option.some.injEq] at h
    subst h
    exact ⟨rfl, rfl⟩
  | q :: r, j + 1, p, h => by
    have := pcs_at r j p (by simpa using h)
    have e : pcs (q :: r) = Value.int .i64 q.1 :: Value.int .i64 q.2 :: pcs r := rfl
    rw [e, show (j + 1) * 2 = j * 2 + 1 + 1 by omega]
    exact this
theorem infoP : (Tryd.prog.info? 33).map (fun i => (i.zero, i.size, i.bytes)) = some (some (.agg #[.int .i64 0, .int .i64 0]), 2, 16) := by kernel_rfl
theorem infoC : (Tryd.prog.info? 24).map (·.size) = some 2 := by kernel_rfl
/-- A row of pairs of one's own. -/
def PO (w : World) (B : Nat) (ao : Option Addr) (c : Nat) (ps : List Pr) : Prop := w.ownsRow B 33 2 (.slice ao ps.length c) ps.length (pcs ps)
/-- Pairs as they are read. -/
def PA (w : World) (ao : Option Addr) (ps : List Pr) : Prop := ps = [] ∨ ∃ g off, ao = some ⟨g, off, none⟩ ∧ ∀ (j : Nat) p, ps[j]? = some p → w.cell? ⟨g, off + j * 2, none⟩ = some (.int .i64 p.1) ∧ w.cell? ⟨g, off + j * 2 + 1, none⟩ = some (.int .i64 p.2)
theorem PO.at {w : World} {B : Nat} {ao : Option Addr} {c : Nat} {ps : List Pr} (h : PO w B ao c ps) : PA w ao ps := by
  by_cases he : ps = []
  · exact .inl he
  · match ps, he with
    | p :: r, _ =>
      obtain ⟨g, rfl, -⟩ := own_cell h (j := 0) (pcs_at (p :: r) 0 p rfl).1
      refine .inr ⟨g, 0, rfl, fun j q hq => ?_⟩
      obtain ⟨g1, e1, -, -, h1⟩ := own_cell h (pcs_at _ j q hq).1
      obtain ⟨g2, e2, -, -, h2⟩ := own_cell h (pcs_at _ j q hq).2
      cases e1
      cases e2
      rw [Nat.zero_add]
      exact ⟨h1, h2⟩
theorem PA.below {w w' : World} {ao : Option Addr} {ps : List Pr} (h : PA w ao ps) (hb : Below w.heap.size w w') : PA w' ao ps := by
  rcases h with h | ⟨g, off, e, h⟩
  · exact .inl h
  · exact .inr ⟨g, off, e, fun j p hj => ⟨cellB (h j p hj).1 hb, cellB (h j p hj).2 hb⟩⟩
theorem PO.below {w w' : World} {B : Nat} {ao : Option Addr} {c : Nat} {ps : List Pr} (h : PO w B ao c ps) (hb : Below w.heap.size w w') : PO w' B ao c ps := own_below h hb
theorem PO.nil (w : World) (B : Nat) : PO w B none 0 [] := own_none _ _ _ _
/-- A map as a value. -/
def mV (n : Int) (ao : Option Addr) (m k : Nat) : Value := .agg #[.int .i64 n, .slice ao m k]
theorem m_cells {w : World} {g : Nat} {x0 x1 : Value} {t : TypeId} (h : w.heap[g]? = some (.cells #[x0, x1] t (0, 0))) : w.cell? ⟨g, 0, none⟩ = some x0 ∧ w.cell? ⟨g, 1, none⟩ = some x1 ∧ g < w.heap.size :=
  ⟨cell_of_row _ _ 0 _ _ _ h, cell_of_row _ _ 1 _ _ _ h, (Array.getElem?_eq_some_iff.1 h).1⟩
theorem fz {w : World} {g : Nat} {cs : Array Value} {t : TypeId} (h : w.heap[g]? = some (.cells cs t (0, 0))) (i : Nat) : w.frozen? ⟨g, i, none⟩ = false := by simp [World.frozen?, h]
/-- A pair put behind a row of pairs of one's own. -/
theorem push_pair {ops : Array Oper} {rest : List Oper} {o : Oper} {a : Act} {Q : Exit → Act → World → Prop} {w : World} (hgd : o.guard = none) (s x : Operand)
    (ho : o.op = .call { callee := .builtin .append, args := #[s, x], argTypes := #[22, 22] }) {B : Nat} {ao : Option Addr} {c : Nat} {ps : List Pr} (n : Nat) (hn : ps.length = n) (hs : a.eval s = .slice ao n c) (hown : PO w B ao c ps)
    (p : Pr) (cells : Array Value) (hz : cells = (pC p).toArray) (H : Nat) (hH : w.heap.size = H) (hx : a.eval x = .slice (some ⟨H, 0, none⟩) 1 1) (hl : n ≤ 1000000000000) (hbase : B ≤ w.heap.size)
    (h : ∀ g cap w', PO w' B (some ⟨g, 0, none⟩) cap (ps ++ [p]) → w.grownBy w' (ob ao) → (ob ao = some g ∨ w.heap.size ≤ g) → wpList Tryd.prog ops Q rest (a.put o.dst (.slice (some ⟨g, 0, none⟩) (n + 1) cap)) w') :
    wpList Tryd.prog ops Q (o :: rest) a (w.alloc (.cells cells 33)) := by
  subst hn
  refine wpList_pushN hgd s x 22 ho 33 Tryd.underlying22 _ 2 16 infoP rfl (by decide) B ao ps.length c (pcs ps) hs hown (pC p) cells hz rfl (fun u hu => ?_) H hH hx (by omega) (by omega) hbase ?_
  · simp only [pC, List.mem_cons, List.not_mem_nil, or_false] at hu
    rcases hu with rfl | rfl <;> rfl
  · intro g cap w' h1 h2 h3
    refine h g cap w' ?_ h2 h3
    unfold PO
    rw [List.length_append, pcs_app, pcs_one]
    exact h1
end Go.Proofs.YtipceoeihiaieaaDoor.Rou
