/- Layer 20: a row of pairs of one's own, sorted. -/
import Derived.Test.YtipceoeihiaieaaDoorAm20
import Derived.Test.YtipceoeihiaieaaDoorShR20
namespace Go.Proofs.YtipceoeihiaieaaDoor.Rou
open Go.RowKit Go.Shelf Go.Sort

theorem pcs_flat (ps : List Pr) : flatK pC 2 ps.toArray = (pcs ps).toArray := by
  apply Array.ext
  · rw [size_flatK, List.size_toArray, List.size_toArray, pcs_len]
  · intro j h1 h2
    have h3 : j < ps.length * 2 := by simpa using h1
    have hd : j / 2 < ps.length := by omega
    obtain ⟨e1, e2⟩ := pcs_at ps (j / 2) ps[j / 2] (List.getElem?_eq_getElem hd)
    have e3 := get_flatK pC 2 ps.toArray j (by simpa using h3)
    rw [getElem!_pos _ j h1, getElem!_pos ps.toArray (j / 2) (by simpa using hd)] at e3
    rw [e3]
    have hj : (pcs ps)[j]? = some ((pC ps[j / 2])[j % 2]!) := by
      rcases Nat.mod_two_eq_zero_or_one j with h | h
      · rw [show j / 2 * 2 = j by omega] at e1
        rw [e1, h]
        rfl
      · rw [show j / 2 * 2 + 1 = j by omega] at e2
        rw [e2, h]
        rfl
    have := (List.getElem?_eq_some_iff.1 hj).2
    simpa using this.symm
theorem put_heap (w : World) (g : Nat) (F : Array Value) (cur : Array Value) (t : TypeId) (fr : Nat × Nat) (h : w.heap[g]? = some (.cells cur t fr)) : (putRow id w g 0 F).heap[g]? = some (.cells (putCells id 0 F cur) t fr) := by
  unfold putRow mapBlock
  simp only [Array.getElem?_modify, if_true, h, Option.map_some]
  rfl
theorem put_other (w : World) (g : Nat) (F : Array Value) (b : Nat) (h : b ≠ g) : (putRow id w g 0 F).heap[b]? = w.heap[b]? := by
  unfold putRow mapBlock
  simp only [Array.getElem?_modify, if_neg (Ne.symm h)]
theorem put_take (F cur : Array Value) (h : F.size ≤ cur.size) : (putCells id 0 F cur).toList.take F.size = F.toList := by
  apply List.ext_getElem?
  intro j
  rw [List.getElem?_take]
  by_cases hj : j < F.size
  · rw [if_pos hj, Array.getElem?_toList]
    unfold putCells
    rw [Array.getElem?_mapIdx, Array.getElem?_eq_getElem (by omega), Option.map_some, if_pos ⟨by omega, by omega⟩, Array.getElem?_toList, Array.getElem?_eq_getElem hj, getElem!_pos F (j - 0) (by omega)]
    rfl
  · rw [if_neg hj, Array.getElem?_toList, Array.getElem?_eq_none (by omega)]
def cP (p q : Pr) : Int := cmI p.2 q.2
theorem ltP (x y : Pr) : ltOf cP x y = decide (x.2 < y.2) := by
  unfold ltOf cP cmI
  by_cases h1 : x.2 < y.2
  · simp [h1]
  · by_cases h2 : y.2 < x.2 <;> simp [h1, h2]
theorem swoP : SWO (ltOf cP) where
  irrefl x := by rw [ltP]; simp
  trans x y z h1 h2 := by rw [ltP] at *; simp at *; omega
  ntrans x y z h1 h2 := by rw [ltP] at *; simp at *; omega
theorem cmpP (blk off size : Nat) (w : World) : CmpLays Tryd.prog 21 #[] pC 2 cP blk off size w := fun _ _ _ _ x y => by
  refine (rCmp x y _).mono ?_
  rintro e w' ⟨rfl, rfl⟩
  exact ⟨rfl, 0, _, by rw [alloc_eq_grow, alloc_eq_grow, grow_grow]; rfl⟩
/-- In their order. -/
def Asc (l : List Pr) : Prop := ∀ (i j : Nat) (p q : Pr), i < j → l[i]? = some p → l[j]? = some q → p.2 ≤ q.2
theorem rSort (B : Nat) (ao : Option Addr) (c : Nat) (l : List Pr) (w : World) (hl : l.length ≤ 1000) (hO : PO w B ao c l) : Calls Tryd.prog 20 #[.slice ao l.length c, .func (.func 21) #[] #[]] w fun e w' => e = .returned (.tuple #[]) ∧ ∃ l', l'.Perm l ∧ PO w' B ao c l' ∧ (∀ x, x < w.heap.size → ob ao ≠ some x → w'.heap[x]? = w.heap[x]?) ∧ Below B w w' ∧ Asc l' := by
  by_cases h0 : l = []
  · subst h0
    refine (AnyF.slices_SortFunc_none { Tryd.sortPairs with } ao c (.func (.func 21) #[] #[]) w).mono ?_
    rintro e w' ⟨rfl, rfl⟩
    exact ⟨rfl, [], .refl _, hO, fun _ _ _ => rfl, Below.refl _ _, fun i j p q _ h => by cases h⟩
  · have eg : ∀ args w, (callFunc 21 args).run Tryd.prog w = .ok (.enter 21 args) w := enters_of Tryd.func21 (by kernel_rfl) rfl
    have hO' := hO
    obtain ⟨e0, ⟨ev, e1⟩ | ⟨g, cap, cur, ev, eB, eh, e1, e2, e3, e4⟩⟩ := hO
    · exact absurd (List.length_eq_zero_iff.1 e1) h0
    simp only [Value.slice.injEq, true_and] at ev
    obtain ⟨rfl, rfl⟩ := ev
    have hH : HoldsK pC 2 w g 0 l.toArray := by
      unfold HoldsK
      rw [pcs_flat]
      intro j hj
      have hj' : j < (pcs l).length := by simpa using hj
      refine ⟨?_, fz eh _⟩
      obtain ⟨g2, e5, -, -, h5⟩ := own_cell hO' (j := j) (List.getElem?_eq_getElem hj')
      cases e5
      rw [Nat.zero_add, getElem!_pos _ j hj]
      simpa using h5
    have hc := AnyQ.slices_SortFunc Tryd.sortPairs 2 Tryd.isAgg33 Tryd.sizeOf33 pC (fun _ => rfl) (fun x v hv => by simp [pC] at hv; rcases hv with rfl | rfl <;> rfl) cP swoP 21 #[] g 0 c l.toArray w eg (cmpP g 0 _ w) hH (Array.getElem?_eq_some_iff.1 eh).1 (by
      simp only [List.size_toArray]
      omega)
    refine hc.mono ?_
    rintro e w' ⟨rfl, d', n, os, hp, hsrt, rfl⟩
    obtain ⟨p1, -, p3⟩ := hp
    have hx : ∀ a : Array Pr, (a.extract 0 a.size).toList = a.toList := fun a => by simp
    have hs : d'.size = l.length := by simpa using p1
    have h6 : d'.toList.Perm l := by
      have := p3
      rw [show l.toArray.size = d'.size by simpa using p1.symm] at this
      rw [hx] at this
      refine this.trans (.of_eq ?_)
      rw [hs]
      simp
    have hd : d' = d'.toList.toArray := by simp
    have hlen : d'.toList.length = l.length := h6.length_eq
    refine ⟨rfl, d'.toList, h6, ?_⟩
    rw [hd]
    unfold sortWorldK putRowK
    rw [pcs_flat]
    have eh' : (Sort.ahead w n).heap[g]? = some (.cells cur 33 (0, 0)) := eh
    have hF : (pcs d'.toList).toArray.size = l.length * 2 := by simp only [List.size_toArray]; rw [pcs_len, hlen]
    have hsz : (putRow id (Sort.ahead w n) g 0 (pcs d'.toList).toArray).heap.size = w.heap.size := by simp [Sort.ahead]
    have hold : ∀ b, b < w.heap.size → (grow (putRow id (Sort.ahead w n) g 0 (pcs d'.toList).toArray) os).heap[b]? = (putRow id (Sort.ahead w n) g 0 (pcs d'.toList).toArray).heap[b]? := fun b hb => heap_grow_old _ _ (by rw [hsz]; exact hb)
    have hoth : ∀ b, b < w.heap.size → b ≠ g → (grow (putRow id (Sort.ahead w n) g 0 (pcs d'.toList).toArray) os).heap[b]? = w.heap[b]? := fun b hb hne => (hold b hb).trans (put_other _ g _ b hne)
    have hg : g < w.heap.size := (Array.getElem?_eq_some_iff.1 eh).1
    refine ⟨⟨?_, .inr ⟨g, c, _, ?_, eB, (hold g hg).trans (put_heap _ g _ cur _ _ eh'), ?_, e2, ?_, ?_⟩⟩, fun b hb hne => hoth b hb (fun e => hne (by rw [e]; rfl)), ⟨rfl, rfl, rfl, ?_, fun b hb => ?_⟩, fun i j p q hij hi hj => ?_⟩
    · exact pcs_len _
    · rw [hlen]
    · rw [hlen]; exact e1
    · unfold putCells
      rw [Array.size_mapIdx]
      exact e3
    · rw [hlen, ← hF]
      refine (put_take _ _ ?_).trans ?_
      · rw [hF, e3]
        exact Nat.mul_le_mul_right 2 e1
      · simp
    · rw [size_grow, hsz]
      exact Nat.le_add_right _ _
    · exact hoth b (by omega) (by omega)
    · have hil := (List.getElem?_eq_some_iff.1 hi).1
      have hjl := (List.getElem?_eq_some_iff.1 hj).1
      have h1 := hsrt i j (Nat.zero_le _) hij (by simpa [← hs] using hjl)
      rw [ltP] at h1
      have e1 : d'[i]! = p := by
        rw [getElem!_pos d' i (by simpa using hil)]
        have := (List.getElem?_eq_some_iff.1 hi).2
        simpa using this
      have e2 : d'[j]! = q := by
        rw [getElem!_pos d' j (by simpa using hjl)]
        have := (List.getElem?_eq_some_iff.1 hj).2
        simpa using this
      rw [e1, e2] at h1
      simpa using h1
end Go.Proofs.YtipceoeihiaieaaDoor.Rou
