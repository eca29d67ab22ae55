import Derived.Test.YtjiopaojhenanaaGreatDoorWn2598fbee
import Derived.Test.YtjiopaojhenanaaGreatDoorWnc0a71891
namespace Go.Proofs.YtjiopaojhenanaaGreatDoor.Gt
end Go.Proofs.YtjiopaojhenanaaGreatDoor.Gt
namespace Go.Proofs.YtjiopaojhenanaaGreatDoor.Oct
end Go.Proofs.YtjiopaojhenanaaGreatDoor.Oct
namespace Go.Proofs.YtjiopaojhenanaaGreatDoor.Tok
end Go.Proofs.YtjiopaojhenanaaGreatDoor.Tok
namespace Go.Proofs.YtjiopaojhenanaaGreatDoor.Cir
open Go.RowKit Go.Shelf Go.Proofs.YtjiopaojhenanaaGreatDoor.Oct Go.Proofs.YtjiopaojhenanaaGreatDoor.Tok Go.Proofs.YtjiopaojhenanaaGreatDoor.Gt
abbrev OS := COp × (Option Addr × Nat × Nat)
def osV (y : OS) : COp × Value := (y.1, .slice y.2.1 y.2.2.1 y.2.2.2)
def osC (y : OS) : List Value := opC (osV y)
theorem os_flat (ys : List OS) : (ys.map osV).flatMap opC = ys.flatMap osC := by
  rw [List.flatMap_map]
  rfl
theorem osC_one (x : OS) : ∀ v ∈ osC x, v.oneCell' = true := by
  intro v hv
  simp only [osC, osV, opC, List.mem_cons, List.not_mem_nil, or_false] at hv
  rcases hv with rfl | rfl | rfl | rfl | rfl | rfl <;> rfl
theorem os_len (xs : List OS) : (xs.flatMap osC).length = xs.length * 6 := by
  induction xs with
  | nil => rfl
  | cons a r ih =>
    rw [List.flatMap_cons, List.length_append, ih, List.length_cons]
    show 6 + r.length * 6 = _
    omega
theorem os_at (ys : List OS) (i : Nat) (y : OS) (h : ys[i]? = some y) (j : Nat) (u : Value) (hu : (osC y)[j]? = some u) : (ys.flatMap osC)[i * 6 + j]? = some u := by
  rw [← os_flat]
  exact opC_at _ i (osV y) (by rw [List.getElem?_map, h]; rfl) j u hu
theorem flatK_eq [Inhabited OS] (xs : List OS) : Sort.flatK osC 6 xs.toArray = (xs.flatMap osC).toArray := by
  apply Array.ext
  . rw [Sort.size_flatK, List.size_toArray, List.size_toArray, os_len]
  . intro j h1 h2
    have h3 : j < xs.length * 6 := by simpa using h1
    have hd : j / 6 < xs.length := by omega
    have hm : j % 6 < (osC xs[j / 6]).length := by show j % 6 < 6; omega
    have e1 := os_at xs (j / 6) xs[j / 6] (List.getElem?_eq_getElem hd) (j % 6) _ (List.getElem?_eq_getElem hm)
    rw [show j / 6 * 6 + j % 6 = j by omega] at e1
    have e2 := (List.getElem?_eq_some_iff.1 e1).2
    have e3 := Sort.get_flatK osC 6 xs.toArray j (by simpa using h3)
    rw [getElem!_pos _ j h1, getElem!_pos xs.toArray (j / 6) (by simpa using hd)] at e3
    rw [e3]
    show (osC xs[j / 6])[j % 6]! = _
    rw [getElem!_pos _ (j % 6) hm]
    simpa using e2.symm
theorem put_heap (w : World) (g : Nat) (F : Array Value) (cur : Array Value) (t : TypeId) (fr : Nat × Nat) (h : w.heap[g]? = some (.cells cur t fr)) : (Sort.putRow id w g 0 F).heap[g]? = some (.cells (Sort.putCells id 0 F cur) t fr) := by
  unfold Sort.putRow Sort.mapBlock
  simp only [Array.getElem?_modify, if_true, h, Option.map_some]
  rfl
theorem put_other (w : World) (g : Nat) (F : Array Value) (b : Nat) (h : b ≠ g) : (Sort.putRow id w g 0 F).heap[b]? = w.heap[b]? := by
  unfold Sort.putRow Sort.mapBlock
  simp only [Array.getElem?_modify, if_neg (Ne.symm h)]
theorem put_take (F cur : Array Value) (h : F.size <= cur.size) : (Sort.putCells id 0 F cur).toList.take F.size = F.toList := by
  apply List.ext_getElem?
  intro j
  rw [List.getElem?_take]
  by_cases hj : j < F.size
  . rw [if_pos hj, Array.getElem?_toList]
    unfold Sort.putCells
    rw [Array.getElem?_mapIdx, Array.getElem?_eq_getElem (by omega), Option.map_some, if_pos ⟨by omega, by omega⟩, Array.getElem?_toList, Array.getElem?_eq_getElem hj, getElem!_pos F (j - 0) (by omega)]
    rfl
  . rw [if_neg hj, Array.getElem?_toList, Array.getElem?_eq_none (by omega)]
theorem Pw.rev {ys : List (COp × Value)} (h : Pw ys) : Pw ys.reverse := by
  unfold Pw at *
  rw [List.pairwise_reverse]
  exact h.imp (fun hab g h1 h2 => hab g h2 h1)
theorem iReverse (ops : List COp) (ao : Option Addr) (c : Nat) (B : Nat) (w : World) (hO : OpsOwn w B ao ops.length c ops) : Calls Tryz.prog 20 #[.slice ao ops.length c] w fun e w' => e = .returned (.tuple #[]) /\ OpsOwn w' B ao ops.length c ops.reverse /\ (∀ b, ob ao ≠ some b -> w'.heap[b]? = w.heap[b]?) /\ Below B w w' := by
  obtain ⟨xs, h1, h2, h3, h4, h5⟩ := hO
  obtain ⟨n, hn⟩ : ∃ n, ops.length = n := ⟨_, rfl⟩
  rw [hn] at h1 h3 ⊢
  by_cases h0 : n = 0
  . subst h0
    have hx : xs = [] := List.length_eq_zero_iff.1 h1.symm
    subst hx
    subst h2
    refine (AnyQ.slices_Reverse_empty Tryz.reverseOp ao c w).mono ?_
    rintro e w' ⟨rfl, rfl⟩
    exact ⟨rfl, ⟨[], rfl, rfl, h3, h4, h5⟩, fun _ _ => rfl, Below.refl _ _⟩
  . obtain ⟨g, rfl, -⟩ := own_some h3 (by omega)
    have hys : ∃ ys : List OS, ys.map osV = xs := by
      refine ⟨xs.map (fun x => (x.1, match x.2 with | .slice a m k => (a, m, k) | _ => (none, 0, 0))), ?_⟩
      rw [List.map_map]
      refine (List.map_congr_left fun x hx => ?_).trans (List.map_id xs)
      obtain ⟨a, k, e, -⟩ := h4 x hx
      obtain ⟨o, v⟩ := x
      simp only at e
      subst e
      rfl
    obtain ⟨ys, rfl⟩ := hys
    haveI : Inhabited OS := ⟨(⟨0, 0, [], 0, 0, 0⟩, none, 0, 0)⟩
    have hlen : ys.length = n := by rw [h1, List.length_map]
    have hs : (ys.toArray).size = n := by simpa using hlen
    have h3' := h3
    rw [os_flat] at h3
    have hH : Sort.HoldsK osC 6 w g 0 ys.toArray := by
      unfold Sort.HoldsK
      rw [flatK_eq]
      intro j hj
      have hj' : j < (ys.flatMap osC).length := by simpa using hj
      refine ⟨?_, own_free h3 _⟩
      rw [Nat.zero_add]
      refine own_at h3 _ _ ?_
      rw [getElem!_pos _ j hj]
      simp
    have hc := AnyQ.slices_Reverse Tryz.reverseOp 6 Tryz.isAgg49 Tryz.sizeOf49 osC (fun _ => rfl) osC_one g 0 c ys.toArray w hH (by
      rw [hs]
      rcases h3.2 with ⟨-, e⟩ | ⟨_, _, _, _, _, _, e1, e2, _⟩
      . omega
      . unfold maxLen at e2
        omega)
    rw [hs] at hc
    refine hc.mono ?_
    rintro e w' ⟨rfl, m, rfl⟩
    have hrev : ys.toArray.reverse = ys.reverse.toArray := by simp
    rw [hrev]
    unfold Sort.putRowK
    rw [flatK_eq]
    obtain ⟨e0, ⟨ev, -⟩ | ⟨g', cap, cur, ev, eB, eh, e1, e2, e3, e4⟩⟩ := h3
    . cases ev
    simp only [Value.slice.injEq, Option.some.injEq, Addr.mk.injEq, and_true, true_and] at ev
    obtain ⟨rfl, rfl⟩ := ev
    have eh' : (Sort.ahead w m).heap[g]? = some (.cells cur 49 (0, 0)) := eh
    have hF : (ys.reverse.flatMap osC).toArray.size = n * 6 := by simp only [List.size_toArray]; rw [os_len, List.length_reverse, hlen]
    have hoth : ∀ b, b ≠ g -> (Sort.putRow id (Sort.ahead w m) g 0 (ys.reverse.flatMap osC).toArray).heap[b]? = w.heap[b]? := fun b hb => put_other _ g _ b hb
    refine ⟨rfl, ⟨ys.reverse.map osV, by rw [List.length_map, List.length_reverse, hlen], ?_, ⟨?_, .inr ⟨g, c, _, rfl, eB, put_heap _ g _ cur _ _ eh', e1, e2, ?_, ?_⟩⟩, ?_, ?_⟩, fun b hb => hoth b (fun e => hb (by rw [e]; rfl)), ⟨rfl, rfl, rfl, ?_, fun b hb => hoth b (by omega)⟩⟩
    . rw [h2, List.map_reverse, List.map_reverse]
    . rw [os_flat, os_len, List.length_reverse, hlen]
    . unfold Sort.putCells
      rw [Array.size_mapIdx]
      exact e3
    . rw [os_flat, ← hF]
      refine (put_take _ _ ?_).trans ?_
      . rw [hF, e3]
        exact Nat.mul_le_mul_right 6 e1
      . simp
    . intro x hx
      refine (h4 x (by rw [List.map_reverse] at hx; exact List.mem_reverse.1 hx)).block (fun b cs fr hb => hoth b (fun e => ?_))
      rw [e, eh] at hb
      simp at hb
    . rw [List.map_reverse]
      exact h5.rev
    . show w.heap.size <= (w.heap.modify g _).size
      simp
end Go.Proofs.YtjiopaojhenanaaGreatDoor.Cir
