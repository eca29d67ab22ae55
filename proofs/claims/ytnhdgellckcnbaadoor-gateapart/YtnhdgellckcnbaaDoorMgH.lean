/- GateApart answers true for every two kinds and all qubits: Commute is the same both ways, gates with no qubit in common commute, diagonal ones do, each commutes with itself and with its inverse. Condition: the two listed variables lie as the program's text lays them (the card ties them to the text). -/
import Derived.Test.YtnhdgellckcnbaaDoorAv
import Derived.Test.YtnhdgellckcnbaaDoorAw
import Derived.Test.YtnhdgellckcnbaaDoorAy
import Derived.BigQuiet
import Derived.Test.YtnhdgellckcnbaaDoorAp
import Derived.Test.YtnhdgellckcnbaaDoorFr6
/- What commuting is, on lists that the kernel reckons. -/
namespace Go.Proofs.YtnhdgellckcnbaaDoor.Gt
/-- The matrices of the kinds, in halves, by columns. -/
def colT : List (List (List (Int × Int))) := [
  [],
  [[(2, 0), (0, 0)], [(0, 0), (2, 0)]],
  [[(0, 0), (2, 0)], [(2, 0), (0, 0)]],
  [[(0, 0), (0, 2)], [(0, -2), (0, 0)]],
  [[(2, 0), (0, 0)], [(0, 0), (-2, 0)]],
  [[(2, 0), (0, 0)], [(0, 0), (0, 2)]],
  [[(2, 0), (0, 0)], [(0, 0), (0, -2)]],
  [[(1, 1), (1, -1)], [(1, -1), (1, 1)]],
  [[(1, -1), (1, 1)], [(1, 1), (1, -1)]],
  [[(1, 1), (1, 1)], [(-1, -1), (1, 1)]],
  [[(1, -1), (-1, 1)], [(1, -1), (1, -1)]],
  [[(2, 0), (0, 0), (0, 0), (0, 0)], [(0, 0), (0, 0), (0, 0), (2, 0)], [(0, 0), (0, 0), (2, 0), (0, 0)], [(0, 0), (2, 0), (0, 0), (0, 0)]],
  [[(2, 0), (0, 0), (0, 0), (0, 0)], [(0, 0), (0, 0), (0, 0), (0, 2)], [(0, 0), (0, 0), (2, 0), (0, 0)], [(0, 0), (0, -2), (0, 0), (0, 0)]],
  [[(2, 0), (0, 0), (0, 0), (0, 0)], [(0, 0), (2, 0), (0, 0), (0, 0)], [(0, 0), (0, 0), (2, 0), (0, 0)], [(0, 0), (0, 0), (0, 0), (-2, 0)]],
  [[(2, 0), (0, 0), (0, 0), (0, 0)], [(0, 0), (0, 0), (2, 0), (0, 0)], [(0, 0), (2, 0), (0, 0), (0, 0)], [(0, 0), (0, 0), (0, 0), (2, 0)]],
  [[(2, 0), (0, 0), (0, 0), (0, 0)], [(0, 0), (0, 0), (0, 2), (0, 0)], [(0, 0), (0, 2), (0, 0), (0, 0)], [(0, 0), (0, 0), (0, 0), (2, 0)]],
  [[(2, 0), (0, 0), (0, 0), (0, 0)], [(0, 0), (0, 0), (0, -2), (0, 0)], [(0, 0), (0, -2), (0, 0), (0, 0)], [(0, 0), (0, 0), (0, 0), (2, 0)]],
  [[(1, 0), (1, 0), (1, 0), (1, 0)], [(1, 0), (-1, 0), (1, 0), (-1, 0)], [(1, 0), (1, 0), (-1, 0), (-1, 0)], [(1, 0), (-1, 0), (-1, 0), (1, 0)]],
  [[(2, 0), (0, 0), (0, 0), (0, 0), (0, 0), (0, 0), (0, 0), (0, 0)], [(0, 0), (2, 0), (0, 0), (0, 0), (0, 0), (0, 0), (0, 0), (0, 0)], [(0, 0), (0, 0), (2, 0), (0, 0), (0, 0), (0, 0), (0, 0), (0, 0)], [(0, 0), (0, 0), (0, 0), (0, 0), (0, 0), (0, 0), (0, 0), (2, 0)], [(0, 0), (0, 0), (0, 0), (0, 0), (2, 0), (0, 0), (0, 0), (0, 0)], [(0, 0), (0, 0), (0, 0), (0, 0), (0, 0), (2, 0), (0, 0), (0, 0)], [(0, 0), (0, 0), (0, 0), (0, 0), (0, 0), (0, 0), (2, 0), (0, 0)], [(0, 0), (0, 0), (0, 0), (2, 0), (0, 0), (0, 0), (0, 0), (0, 0)]],
  [[(2, 0), (0, 0), (0, 0), (0, 0), (0, 0), (0, 0), (0, 0), (0, 0)], [(0, 0), (2, 0), (0, 0), (0, 0), (0, 0), (0, 0), (0, 0), (0, 0)], [(0, 0), (0, 0), (2, 0), (0, 0), (0, 0), (0, 0), (0, 0), (0, 0)], [(0, 0), (0, 0), (0, 0), (2, 0), (0, 0), (0, 0), (0, 0), (0, 0)], [(0, 0), (0, 0), (0, 0), (0, 0), (2, 0), (0, 0), (0, 0), (0, 0)], [(0, 0), (0, 0), (0, 0), (0, 0), (0, 0), (2, 0), (0, 0), (0, 0)], [(0, 0), (0, 0), (0, 0), (0, 0), (0, 0), (0, 0), (2, 0), (0, 0)], [(0, 0), (0, 0), (0, 0), (0, 0), (0, 0), (0, 0), (0, 0), (-2, 0)]],
  [[(2, 0), (0, 0), (0, 0), (0, 0), (0, 0), (0, 0), (0, 0), (0, 0)], [(0, 0), (2, 0), (0, 0), (0, 0), (0, 0), (0, 0), (0, 0), (0, 0)], [(0, 0), (0, 0), (2, 0), (0, 0), (0, 0), (0, 0), (0, 0), (0, 0)], [(0, 0), (0, 0), (0, 0), (0, 0), (0, 0), (2, 0), (0, 0), (0, 0)], [(0, 0), (0, 0), (0, 0), (0, 0), (2, 0), (0, 0), (0, 0), (0, 0)], [(0, 0), (0, 0), (0, 0), (2, 0), (0, 0), (0, 0), (0, 0), (0, 0)], [(0, 0), (0, 0), (0, 0), (0, 0), (0, 0), (0, 0), (2, 0), (0, 0)], [(0, 0), (0, 0), (0, 0), (0, 0), (0, 0), (0, 0), (0, 0), (2, 0)]]]
theorem colT_ok : ∀ k : Fin 21, 1 ≤ k.1 → ∀ c r : Fin 8, c.1 < rowsN k.1 → r.1 < rowsN k.1 → ((colT.getD k.1 []).getD c.1 []).getD r.1 (0, 0) = mz k.1 (rowsN k.1 * r.1 + c.1) := by decide +kernel
theorem colT_len : ∀ k : Fin 21, 1 ≤ k.1 → ∀ c : Fin 8, c.1 < rowsN k.1 → ((colT.getD k.1 []).getD c.1 []).length = rowsN k.1 := by decide +kernel
def zz (v : Int × Int) : Bool := v.1 == 0 && v.2 == 0
theorem zz_iff (v : Int × Int) : zz v = true ↔ v = (0, 0) := by
  unfold zz
  rw [Bool.and_eq_true, beq_iff_eq, beq_iff_eq]
  constructor
  · rintro ⟨h1, h2⟩; exact Prod.ext h1 h2
  · rintro rfl; exact ⟨rfl, rfl⟩
/-- Something is added at a place. -/
def upd : List (Int × Int) → Nat → Int × Int → List (Int × Int)
  | [], _, _ => []
  | a :: r, 0, z => zadd a z :: r
  | a :: r, i + 1, z => a :: upd r i z
theorem upd_len : ∀ (F : List (Int × Int)) (i : Nat) (z : Int × Int), (upd F i z).length = F.length
  | [], i, z => by cases i <;> rfl
  | a :: r, 0, z => rfl
  | a :: r, i + 1, z => by rw [upd, List.length_cons, upd_len r i z, List.length_cons]
theorem upd_get : ∀ (F : List (Int × Int)) (i : Nat) (z : Int × Int) (j : Nat), j < F.length → (upd F i z).getD j (0, 0) = if j = i then zadd (F.getD j (0, 0)) z else F.getD j (0, 0)
  | [], i, z, j, h => absurd h (by simp)
  | a :: r, 0, z, 0, h => by simp [upd]
  | a :: r, 0, z, j + 1, h => by simp [upd]
  | a :: r, i + 1, z, 0, h => by simp [upd]
  | a :: r, i + 1, z, j + 1, h => by
    have := upd_get r i z j (by simpa using h)
    simp only [upd, List.getD_cons_succ, this, Nat.add_right_cancel_iff]
/-- A list that says what a function says. -/
def Rep (S : Nat) (F : List (Int × Int)) (f : Nat → Int × Int) : Prop := F.length = S ∧ ∀ j, j < S → F.getD j (0, 0) = f j
def rwL (l : List Nat) (v : Int × Int) (p : Nat) : List (Int × Int) → Nat → List (Int × Int) → List (Int × Int)
  | [], _, F => F
  | m :: ms, r, F => rwL l v p ms (r + 1) (if zz m then F else upd F (scG p r l l.length) (zmul m v))
def plL (k : Nat) (l : List Nat) : List (Int × Int) → Nat → List (Int × Int) → List (Int × Int)
  | [], _, F => F
  | v :: vs, p, F => plL k l vs (p + 1) (if zz v then F else rwL l v p ((colT.getD k []).getD (gaG p l l.length) []) 0 F)
theorem zadd_0 (a v : Int × Int) : zadd a (zmul (0, 0) v) = a := by
  apply Prod.ext <;> simp [zadd, zmul]
theorem rwL_rep {S k n : Nat} {l : List Nat} {v : Int × Int} {p col : Nat} {f : Nat → Int × Int} : ∀ (ms : List (Int × Int)) (r : Nat) (F : List (Int × Int)), (∀ i, i < ms.length → ms.getD i (0, 0) = mz k (n * (r + i) + col)) → Rep S F (rwG k n l v p col f r) → Rep S (rwL l v p ms r F) (rwG k n l v p col f (r + ms.length))
  | [], r, F, _, h => h
  | m :: ms, r, F, hm, h => by
    rw [rwL, List.length_cons, show r + (ms.length + 1) = r + 1 + ms.length by omega]
    refine rwL_rep ms (r + 1) _ (fun i hi => ?_) ?_
    · have := hm (i + 1) (by simpa using hi)
      rw [List.getD_cons_succ] at this
      rw [this, show r + (i + 1) = r + 1 + i by omega]
    · have h0 := hm 0 (by simp)
      simp only [List.getD_cons_zero, Nat.add_zero] at h0
      cases e : zz m
      · rw [if_neg (by simp)]
        refine ⟨by rw [upd_len]; exact h.1, fun j hj => ?_⟩
        rw [upd_get _ _ _ _ (by rw [h.1]; exact hj), h.2 j hj, h0]
        rfl
      · rw [if_pos rfl]
        refine ⟨h.1, fun j hj => ?_⟩
        rw [h.2 j hj]
        show _ = if j = scG p r l l.length then zadd (rwG k n l v p col f r j) (zmul (mz k (n * r + col)) v) else rwG k n l v p col f r j
        rw [← h0, (zz_iff m).1 e, zadd_0, ite_self]
theorem ga_rows {k : Nat} (hk1 : 1 ≤ k) (hk : k ≤ 20) {l : List Nat} (hl : (l.length : Int) = (rw' (k : Int)).q) (p : Nat) : gaG p l l.length < rowsN k := by
  have h := gaG_pow p l l.length
  have hq := q_rows ⟨k, by omega⟩ hk1
  dsimp only at hq
  rcases rowsN_is k with e | e | e
  · have := hq.1 e; rw [show l.length = 1 by omega] at h ⊢; rw [e]; exact h
  · have := hq.2.1 e; rw [show l.length = 2 by omega] at h ⊢; rw [e]; exact h
  · have := hq.2.2 e; rw [show l.length = 3 by omega] at h ⊢; rw [e]; exact h
theorem plL_rep {S k : Nat} (hk1 : 1 ≤ k) (hk : k ≤ 20) {l : List Nat} (hl : (l.length : Int) = (rw' (k : Int)).q) {V : Nat → Int × Int} : ∀ (vs : List (Int × Int)) (p : Nat) (F : List (Int × Int)), (∀ i, i < vs.length → vs.getD i (0, 0) = V (p + i)) → Rep S F (plG k (rowsN k) l V p) → Rep S (plL k l vs p F) (plG k (rowsN k) l V (p + vs.length))
  | [], p, F, _, h => h
  | v :: vs, p, F, hv, h => by
    rw [plL, List.length_cons, show p + (vs.length + 1) = p + 1 + vs.length by omega]
    refine plL_rep hk1 hk hl vs (p + 1) _ (fun i hi => ?_) ?_
    · have := hv (i + 1) (by simpa using hi)
      rw [List.getD_cons_succ] at this
      rw [this, show p + (i + 1) = p + 1 + i by omega]
    · have h0 := hv 0 (by simp)
      simp only [List.getD_cons_zero, Nat.add_zero] at h0
      rw [plG]
      cases e : zz v
      · have hne : ¬ V p = (0, 0) := fun h => by rw [← h0, ← zz_iff, e] at h; cases h
        rw [if_neg (by simp), if_neg hne]
        have hga := ga_rows hk1 hk hl p
        have h8 : rowsN k ≤ 8 := by rcases rowsN_is k with e | e | e <;> omega
        have hlen := colT_len ⟨k, by omega⟩ hk1 ⟨gaG p l l.length, by omega⟩ hga
        dsimp only at hlen
        have := rwL_rep (S := S) (k := k) (n := rowsN k) (l := l) (v := v) (p := p) (col := gaG p l l.length) (f := plG k (rowsN k) l V p) ((colT.getD k []).getD (gaG p l l.length) []) 0 F (fun i hi => by
          rw [hlen] at hi
          have := colT_ok ⟨k, by omega⟩ hk1 ⟨gaG p l l.length, by omega⟩ ⟨i, by omega⟩ hga hi
          dsimp only at this
          rw [this, Nat.zero_add]) h
        rw [hlen, Nat.zero_add] at this
        rw [h0] at this ⊢
        exact this
      · rw [if_pos rfl, if_pos (by rw [← h0]; exact (zz_iff v).1 e)]
        exact h
def nul (S : Nat) : List (Int × Int) := List.replicate S (0, 0)
theorem nul_rep (S : Nat) : Rep S (nul S) (fun _ => (0, 0)) := ⟨by simp [nul], fun j hj => by simp [nul, List.getD_eq_getElem?_getD, hj]⟩
def actL (S k : Nat) (l : List Nat) (V : List (Int × Int)) : List (Int × Int) := plL k l V 0 (nul S)
theorem actL_rep {S k : Nat} (hk1 : 1 ≤ k) (hk : k ≤ 20) {l : List Nat} (hl : (l.length : Int) = (rw' (k : Int)).q) {V : List (Int × Int)} {f : Nat → Int × Int} (h : Rep S V f) : Rep S (actL S k l V) (plG k (rowsN k) l f S) := by
  have := plL_rep (S := S) hk1 hk hl (V := f) V 0 (nul S) (fun i hi => by rw [Nat.zero_add]; exact h.2 i (by rw [← h.1]; exact hi)) (nul_rep S)
  rw [h.1, Nat.zero_add] at this
  exact this
def basL (S c : Nat) : List (Int × Int) := upd (nul S) c (1, 0)
theorem bas_rep (S c : Nat) : Rep S (basL S c) (bas c) := by
  refine ⟨by rw [basL, upd_len]; exact (nul_rep S).1, fun j hj => ?_⟩
  rw [basL, upd_get _ _ _ _ (by rw [(nul_rep S).1]; exact hj), (nul_rep S).2 j hj]
  rfl
def eqL : List (Int × Int) → List (Int × Int) → Bool
  | [], [] => true
  | a :: r, b :: s => a.1 == b.1 && a.2 == b.2 && eqL r s
  | _, _ => false
theorem eqL_iff : ∀ (F G : List (Int × Int)), eqL F G = true ↔ F = G
  | [], [] => by simp [eqL]
  | [], b :: s => by simp [eqL]
  | a :: r, [] => by simp [eqL]
  | a :: r, b :: s => by
    rw [eqL, Bool.and_eq_true, Bool.and_eq_true, beq_iff_eq, beq_iff_eq, eqL_iff r s, List.cons.injEq, Prod.ext_iff]
theorem rep_eq {S : Nat} {F G : List (Int × Int)} {f g : Nat → Int × Int} (hf : Rep S F f) (hg : Rep S G g) : eqB f g S = eqL F G := by
  rw [Bool.eq_iff_iff, eqB_iff, eqL_iff]
  constructor
  · intro h
    refine List.ext_getElem (by rw [hf.1, hg.1]) (fun j h1 h2 => ?_)
    have a := hf.2 j (by rw [← hf.1]; exact h1)
    have b := hg.2 j (by rw [← hg.1]; exact h2)
    rw [List.getD_eq_getElem?_getD, List.getElem?_eq_getElem h1] at a
    rw [List.getD_eq_getElem?_getD, List.getElem?_eq_getElem h2] at b
    simp only [Option.getD_some] at a b
    rw [a, b]
    exact h j (by rw [← hf.1]; exact h1)
  · rintro rfl j hj
    rw [← hf.2 j hj, ← hg.2 j hj]
def alkL (S k : Nat) (l : List Nat) (k' : Nat) (l' : List Nat) : Nat → Nat → Bool
  | 0, _ => true
  | m + 1, c => eqL (actL S k l (actL S k' l' (basL S c))) (actL S k' l' (actL S k l (basL S c))) && alkL S k l k' l' m (c + 1)
theorem alkL_eq {S k k' : Nat} (hk1 : 1 ≤ k) (hk : k ≤ 20) (hk1' : 1 ≤ k') (hk' : k' ≤ 20) {l l' : List Nat} (hl : (l.length : Int) = (rw' (k : Int)).q) (hl' : (l'.length : Int) = (rw' (k' : Int)).q) : ∀ m c, alkG S k (rowsN k) l k' (rowsN k') l' m c = alkL S k l k' l' m c
  | 0, _ => rfl
  | m + 1, c => by
    rw [alkG, alkL, alkL_eq hk1 hk hk1' hk' hl hl' m (c + 1), colP]
    rw [rep_eq (actL_rep hk1 hk hl (actL_rep hk1' hk' hl' (bas_rep S c))) (actL_rep hk1' hk' hl' (actL_rep hk1 hk hl (bas_rep S c)))]
end Go.Proofs.YtnhdgellckcnbaaDoor.Gt
/- Which qubits two gates have in common: their names do not matter. -/
namespace Go.Proofs.YtnhdgellckcnbaaDoor.Gt

theorem ixP_get : ∀ {l : List Int} {v : Int} {i : Nat}, ixP l v = some i → l[i]? = some v
  | [], v, i, h => by simp [ixP] at h
  | a :: r, v, i, h => by
    rw [ixP] at h
    by_cases e : v = a
    · rw [if_pos e] at h; cases h; simp [e]
    · rw [if_neg e] at h
      cases hr : ixP r v with
      | none => simp [hr] at h
      | some m =>
        have := ixP_get hr
        simp [hr] at h
        subst h
        simpa using this
theorem ixP_map (f : Int → Int) : ∀ (l : List Int) (v : Int), (∀ a ∈ l, f v = f a → v = a) → ixP (l.map f) (f v) = ixP l v
  | [], _, _ => rfl
  | a :: r, v, h => by
    rw [List.map_cons, ixP, ixP, ixP_map f r v (fun b hb => h b (List.mem_cons_of_mem _ hb))]
    by_cases e : v = a
    · rw [if_pos e, if_pos (by rw [e])]
    · rw [if_neg e, if_neg (fun h' => e (h a (by simp) h'))]
theorem posP_map (f : Int → Int) (l m : List Int) (h : ∀ v ∈ m, ∀ a ∈ l, f v = f a → v = a) : posP (l.map f) (m.map f) = posP l m := by
  unfold posP
  rw [List.map_map]
  refine List.map_congr_left (fun v hv => ?_)
  show (ixP (l.map f) (f v)).getD 0 = _
  rw [ixP_map f l v (h v hv)]
theorem allP_map (f : Int → Int) (la lb : List Int) (h : ∀ v ∈ lb, ∀ a ∈ la, f v = f a → v = a) : allP (la.map f) (lb.map f) = (allP la lb).map f := by
  unfold allP
  rw [List.map_append, List.filter_map]
  congr 2
  refine List.filter_congr (fun v hv => ?_)
  show (!decide (f v ∈ la.map f)) = !decide (v ∈ la)
  congr 1
  rw [decide_eq_decide, List.mem_map]
  constructor
  · rintro ⟨a, ha, e⟩
    rw [h v hv a ha e.symm]
    exact ha
  · intro hm
    exact ⟨v, hm, rfl⟩
theorem ix_range : ∀ l : List Int, l.Nodup → l.map (fun q => (ixP l q).getD 0) = List.range l.length
  | [], _ => rfl
  | a :: r, h => by
    rw [List.nodup_cons] at h
    have ih := ix_range r h.2
    rw [List.map_cons, List.length_cons, List.range_succ_eq_map, ← ih, List.map_map]
    congr 1
    · simp [ixP]
    · refine List.map_congr_left (fun q hq => ?_)
      have hne : ¬ q = a := fun e => h.1 (e ▸ hq)
      rw [ixP, if_neg hne]
      cases e : ixP r q with
      | none => exact absurd hq (ixP_none.1 e)
      | some m => simp [e]
theorem apG_at {l : List Int} : ∀ (m i : Nat), apG l m i = true → ∀ j, i ≤ j → j < i + m → l.getD j 0 ∉ l.take j
  | 0, i, _, j, h1, h2 => by omega
  | m + 1, i, h, j, h1, h2 => by
    rw [apG, Bool.and_eq_true, Bool.and_eq_true] at h
    by_cases e : j = i
    · subst e
      simpa using h.1.2
    · exact apG_at m (i + 1) h.2 j (by omega) (by omega)
theorem ap_nodup {q : Int} {l : List Int} (h : apP q l = true) : l.Nodup := by
  unfold apP at h
  rw [Bool.and_eq_true] at h
  rw [List.Nodup, List.pairwise_iff_getElem]
  intro i j hi hj hij e
  refine apG_at l.length 0 h.2 j (by omega) (by omega) ?_
  rw [List.getD_eq_getElem?_getD, List.getElem?_eq_getElem hj, Option.getD_some, ← e]
  rw [List.mem_take_iff_getElem]
  exact ⟨i, by omega, rfl⟩
theorem allP_nodup {la lb : List Int} (ha : la.Nodup) (hb : lb.Nodup) : (allP la lb).Nodup := by
  unfold allP
  rw [List.nodup_append]
  refine ⟨ha, hb.filter _, fun a h1 b h2 e => ?_⟩
  rw [List.mem_filter] at h2
  subst e
  simp [h1] at h2
theorem mem_allP {la lb : List Int} {q : Int} : q ∈ allP la lb ↔ q ∈ la ∨ q ∈ lb := by
  unfold allP
  rw [List.mem_append, List.mem_filter]
  by_cases h : q ∈ la <;> simp [h]
def iota (n : Nat) : List Int := (List.range n).map Int.ofNat
/-- All lists of so many numbers below N. -/
def lsts (N : Nat) : Nat → List (List Int)
  | 0 => [[]]
  | m + 1 => (List.range N).flatMap fun (i : Nat) => (lsts N m).map fun r => (i : Int) :: r
theorem mem_lsts {N : Nat} : ∀ (p : List Int), (∀ x ∈ p, ∃ i : Nat, i < N ∧ x = (i : Int)) → p ∈ lsts N p.length
  | [], _ => by simp [lsts]
  | x :: r, h => by
    rw [List.length_cons, lsts, List.mem_flatMap]
    obtain ⟨i, hi, rfl⟩ := h x (by simp)
    exact ⟨i, List.mem_range.2 hi, List.mem_map.2 ⟨r, mem_lsts r (fun y hy => h y (List.mem_cons_of_mem _ hy)), rfl⟩⟩
/-- Do they commute, by the lists? -/
def alc (a b : Nat) (la lb : List Int) : Bool := alkL (2 ^ (allP la lb).length) a (posP (allP la lb) la) b (posP (allP la lb) lb) (2 ^ (allP la lb).length) 0
theorem alc_map (f : Int → Int) (a b : Nat) (la lb : List Int) (h : ∀ v w, v ∈ la ∨ v ∈ lb → w ∈ la ∨ w ∈ lb → f v = f w → v = w) : alc a b (la.map f) (lb.map f) = alc a b la lb := by
  unfold alc
  rw [allP_map f la lb (fun v hv w hw => h v w (.inr hv) (.inl hw)), List.length_map, posP_map f _ la (fun v hv w hw => h v w (.inl hv) (mem_allP.1 hw)), posP_map f _ lb (fun v hv w hw => h v w (.inr hv) (mem_allP.1 hw))]
def dgN (k : Nat) : Bool := k == 1 || k == 4 || k == 5 || k == 6 || k == 13 || k == 19
def symB (a b : Nat) (la lb : List Int) : Bool := (alc a b la lb == alc b a lb la) && (!(dgN a && dgN b) || alc a b la lb)
def tabB (na nb : Nat) (ka kb : List Nat) : Bool := (lsts (na + nb) nb).all fun p => !decide p.Nodup || !decide (allP (iota na) p = iota (allP (iota na) p).length) || (allP (iota na) p).length == na + nb || ka.all fun a => kb.all fun b => symB a b (iota na) p
/-- By a table of the qubits as they may lie, all of them are told. -/
theorem tab_sym {na nb : Nat} {ka kb : List Nat} (ht : tabB na nb ka kb = true) {la lb : List Int} (ha : la.length = na) (hb : lb.length = nb) (da : la.Nodup) (db : lb.Nodup) (hc : (allP la lb).length ≠ na + nb) {a b : Nat} (ka' : a ∈ ka) (kb' : b ∈ kb) : symB a b la lb = true := by
  obtain ⟨f, hf⟩ : ∃ f : Int → Int, f = fun q => (((ixP (allP la lb) q).getD 0 : Nat) : Int) := ⟨_, rfl⟩
  have dA := allP_nodup da db
  have inj : ∀ v w, v ∈ la ∨ v ∈ lb → w ∈ la ∨ w ∈ lb → f v = f w → v = w := by
    intro v w hv hw e
    rw [hf] at e
    simp only [Int.natCast_inj] at e
    cases hv' : ixP (allP la lb) v with
    | none => exact absurd (mem_allP.2 hv) (ixP_none.1 hv')
    | some i =>
      cases hw' : ixP (allP la lb) w with
      | none => exact absurd (mem_allP.2 hw) (ixP_none.1 hw')
      | some j =>
        rw [hv', hw'] at e
        simp only [Option.getD_some] at e
        subst e
        have h1 := ixP_get hv'
        rw [ixP_get hw'] at h1
        exact (Option.some.inj h1).symm
  have hA : (allP la lb).map f = iota (allP la lb).length := by
    rw [iota, ← ix_range _ dA, List.map_map, hf]
    rfl
  have hna : na ≤ (allP la lb).length := by
    rw [← ha]; unfold allP; rw [List.length_append]; omega
  have hle : (allP la lb).length ≤ na + nb := by
    unfold allP
    rw [List.length_append]
    have := List.length_filter_le (fun q => !decide (q ∈ la)) lb
    omega
  have hla : la.map f = iota na := by
    have h1 : ((allP la lb).map f).take na = la.map f := by
      rw [← List.map_take]
      congr 1
      unfold allP
      rw [← ha, List.take_left]
    rw [← h1, hA, iota, ← List.map_take, List.take_range, Nat.min_eq_left hna, iota]
  have hp : lb.map f ∈ lsts (na + nb) nb := by
    have := mem_lsts (N := na + nb) (lb.map f) (fun x hx => by
      rw [List.mem_map] at hx
      obtain ⟨q, hq, rfl⟩ := hx
      refine ⟨(ixP (allP la lb) q).getD 0, ?_, by rw [hf]⟩
      cases e : ixP (allP la lb) q with
      | none => exact absurd (mem_allP.2 (.inr hq)) (ixP_none.1 e)
      | some i => have := ixP_lt e; simp; omega)
    rw [List.length_map, hb] at this
    exact this
  have hal : allP (iota na) (lb.map f) = iota (allP la lb).length := by
    rw [← hla, allP_map f la lb (fun v hv w hw => inj v w (.inr hv) (.inl hw)), hA]
  have hlen : (iota (allP la lb).length).length = (allP la lb).length := by simp [iota]
  have hnd : (lb.map f).Nodup := by
    rw [List.Nodup, List.pairwise_map]
    refine db.imp_of_mem (fun h1 h2 h3 e => h3 (inj _ _ (.inr h1) (.inr h2) e))
  unfold tabB at ht
  rw [List.all_eq_true] at ht
  have h1 := ht _ hp
  rw [hal, hlen, decide_eq_true hnd, decide_eq_true rfl] at h1
  simp only [Bool.not_true, Bool.false_or, Bool.or_eq_true, beq_iff_eq] at h1
  have h2 := h1.resolve_left hc
  rw [List.all_eq_true] at h2
  have h3 := h2 a ka'
  rw [List.all_eq_true] at h3
  have h4 := h3 b kb'
  unfold symB at h4 ⊢
  rw [← hla, alc_map f a b la lb inj, alc_map f b a lb la (fun v w hv hw => inj v w hv.symm hw.symm)] at h4
  exact h4
end Go.Proofs.YtnhdgellckcnbaaDoor.Gt
/- The tables of the qubits as they may lie, of kinds with few qubits. -/
namespace Go.Proofs.YtnhdgellckcnbaaDoor.Gt
def ks1 : List Nat := [1, 2, 3, 4, 5, 6, 7, 8, 9, 10]
def ks2 : List Nat := [11, 12, 13, 14, 15, 16, 17]
def ks3 : List Nat := [18, 19, 20]
set_option maxRecDepth 100000 in
theorem tab11 : tabB 1 1 ks1 ks1 = true := by decide +kernel
set_option maxRecDepth 100000 in
theorem tab12 : tabB 1 2 ks1 ks2 = true := by decide +kernel
set_option maxRecDepth 100000 in
theorem tab13 : tabB 1 3 ks1 ks3 = true := by decide +kernel
set_option maxRecDepth 100000 in
theorem tab22 : tabB 2 2 ks2 ks2 = true := by decide +kernel
end Go.Proofs.YtnhdgellckcnbaaDoor.Gt
/- The table of the qubits as they may lie, of two and three qubits. -/
namespace Go.Proofs.YtnhdgellckcnbaaDoor.Gt
set_option maxRecDepth 100000 in
theorem tab23 : tabB 2 3 [11, 12, 13, 14, 15, 16, 17] [18, 19, 20] = true := by decide +kernel
end Go.Proofs.YtnhdgellckcnbaaDoor.Gt
/- The table of the qubits as they may lie, of three qubits. -/
namespace Go.Proofs.YtnhdgellckcnbaaDoor.Gt
set_option maxRecDepth 100000 in
theorem tab33 : tabB 3 3 [18, 19, 20] [18, 19, 20] = true := by decide +kernel
end Go.Proofs.YtnhdgellckcnbaaDoor.Gt
/- What Commute answers of two gates, both ways; GateApart. -/
namespace Go.Proofs.YtnhdgellckcnbaaDoor.Gt
open Go.RowKit Go.Proofs.YtnhdgellckcnbaaDoor.Oct

theorem all_len (la lb : List Int) : (allP la lb).length = la.length + lb.length ↔ ∀ q ∈ lb, q ∉ la := by
  unfold allP
  rw [List.length_append, Nat.add_left_cancel_iff, List.length_filter_eq_length_iff]
  simp
theorem all_comm (la lb : List Int) : (allP la lb).length = la.length + lb.length ↔ (allP lb la).length = lb.length + la.length := by
  rw [all_len, all_len]
  exact ⟨fun h q hq hq' => h q hq' hq, fun h q hq hq' => h q hq' hq⟩
theorem ks_of : ∀ k : Fin 21, 1 ≤ k.1 → ((rw' (k.1 : Int)).q = 1 → k.1 ∈ ks1) ∧ ((rw' (k.1 : Int)).q = 2 → k.1 ∈ ks2) ∧ ((rw' (k.1 : Int)).q = 3 → k.1 ∈ ks3) ∧ ((rw' (k.1 : Int)).q = 1 ∨ (rw' (k.1 : Int)).q = 2 ∨ (rw' (k.1 : Int)).q = 3) ∧ dgB (rw' (k.1 : Int)) = dgN k.1 := by decide +kernel
theorem alc_is {a b : Nat} (ha1 : 1 ≤ a) (ha : a ≤ 20) (hb1 : 1 ≤ b) (hb : b ≤ 20) {la lb : List Int} (pa : (la.length : Int) = (rw' (a : Int)).q) (pb : (lb.length : Int) = (rw' (b : Int)).q) :
    alkG (2 ^ (allP la lb).length) a (rowsN a) (posP (allP la lb) la) b (rowsN b) (posP (allP la lb) lb) (2 ^ (allP la lb).length) 0 = alc a b la lb :=
  alkL_eq ha1 ha hb1 hb (by rw [← pa]; simp [posP]) (by rw [← pb]; simp [posP]) _ _
theorem tab_flip {a b : Nat} {la lb : List Int} (h : symB a b la lb = true) : symB b a lb la = true := by
  unfold symB at h ⊢
  rw [Bool.and_eq_true, beq_iff_eq] at h
  rw [← h.1, Bool.and_eq_true, beq_iff_eq, Bool.and_comm (dgN b)]
  exact ⟨rfl, h.2⟩
theorem sym_all {a b : Nat} (ha1 : 1 ≤ a) (ha : a ≤ 20) (hb1 : 1 ≤ b) (hb : b ≤ 20) {la lb : List Int} (pa : (la.length : Int) = (rw' (a : Int)).q) (pb : (lb.length : Int) = (rw' (b : Int)).q) (da : la.Nodup) (db : lb.Nodup) (hc : (allP la lb).length ≠ la.length + lb.length) : symB a b la lb = true := by
  have xa := ks_of ⟨a, by omega⟩ ha1
  have xb := ks_of ⟨b, by omega⟩ hb1
  dsimp only at xa xb
  have hc' : (allP lb la).length ≠ lb.length + la.length := fun h => hc ((all_comm la lb).2 h)
  obtain ⟨a1, a2, a3, aq, _⟩ := xa
  obtain ⟨b1, b2, b3, bq, _⟩ := xb
  rcases aq with qa | qa | qa <;> rcases bq with qb | qb | qb <;> rw [qa] at pa <;> rw [qb] at pb
  · exact tab_sym tab11 (na := 1) (nb := 1) (by omega) (by omega) da db (by omega) (a1 qa) (b1 qb)
  · exact tab_sym tab12 (na := 1) (nb := 2) (by omega) (by omega) da db (by omega) (a1 qa) (b2 qb)
  · exact tab_sym tab13 (na := 1) (nb := 3) (by omega) (by omega) da db (by omega) (a1 qa) (b3 qb)
  · exact tab_flip (tab_sym tab12 (na := 1) (nb := 2) (by omega) (by omega) db da (by omega) (b1 qb) (a2 qa))
  · exact tab_sym tab22 (na := 2) (nb := 2) (by omega) (by omega) da db (by omega) (a2 qa) (b2 qb)
  · exact tab_sym tab23 (na := 2) (nb := 3) (by omega) (by omega) da db (by omega) (a2 qa) (b3 qb)
  · exact tab_flip (tab_sym tab13 (na := 1) (nb := 3) (by omega) (by omega) db da (by omega) (b1 qb) (a3 qa))
  · exact tab_flip (tab_sym tab23 (na := 2) (nb := 3) (by omega) (by omega) db da (by omega) (b2 qb) (a3 qa))
  · exact tab_sym tab33 (na := 3) (nb := 3) (by omega) (by omega) da db (by omega) (a3 qa) (b3 qb)
theorem alkG_self (S k n : Nat) (l : List Nat) : ∀ m c, alkG S k n l k n l m c = true
  | 0, _ => rfl
  | m + 1, c => by
    rw [alkG, alkG_self S k n l m (c + 1), colP, (eqB_iff _ _ _).2 (fun _ _ => rfl)]
    rfl
theorem all_self (la : List Int) : allP la la = la := by
  unfold allP
  rw [List.filter_eq_nil_iff.2 (fun a ha => by simp [ha]), List.append_nil]
theorem pos_self {la : List Int} (h : la.Nodup) : posP la la = List.range la.length := ix_range la h
theorem inv_tab : ∀ k : Fin 21, 1 ≤ k.1 → 1 ≤ (rw' (k.1 : Int)).v ∧ (rw' (k.1 : Int)).v ≤ 20 ∧ (rw' (rw' (k.1 : Int)).v).q = (rw' (k.1 : Int)).q ∧ alkL (2 ^ (rw' (k.1 : Int)).q.toNat) k.1 (List.range (rw' (k.1 : Int)).q.toNat) (rw' (k.1 : Int)).v.toNat (List.range (rw' (k.1 : Int)).q.toNat) (2 ^ (rw' (k.1 : Int)).q.toNat) 0 = true := by decide +kernel
/-- Are both gates and their qubits what they must be? -/
def gdP (a : Int) (la : List Int) (b : Int) (lb : List Int) : Bool := knB (rw' a) && knB (rw' b) && apP (rw' a).q la && apP (rw' b).q lb
theorem com_no {a : Int} {la : List Int} {b : Int} {lb : List Int} (h : gdP a la b lb = false) : (comP a la b lb).1 = false ∧ ((comP a la b lb).2 != 0) = true := by
  unfold comP
  unfold gdP at h
  cases ka : knB (rw' a)
  · exact ⟨rfl, rfl⟩
  · cases kb : knB (rw' b)
    · exact ⟨rfl, rfl⟩
    · rw [ka, kb] at h
      cases pa : apP (rw' a).q la
      · exact ⟨rfl, rfl⟩
      · cases pb : apP (rw' b).q lb
        · exact ⟨rfl, rfl⟩
        · rw [pa, pb] at h
          cases h
theorem gd_flip (a : Int) (la : List Int) (b : Int) (lb : List Int) : gdP b lb a la = gdP a la b lb := by
  unfold gdP
  cases knB (rw' a) <;> cases knB (rw' b) <;> cases apP (rw' a).q la <;> cases apP (rw' b).q lb <;> rfl
theorem gd_out {a : Int} {la : List Int} {b : Int} {lb : List Int} (h : gdP a la b lb = true) : ∃ x y : Nat, a = (x : Int) ∧ b = (y : Int) ∧ 1 ≤ x ∧ x ≤ 20 ∧ 1 ≤ y ∧ y ≤ 20 ∧ (la.length : Int) = (rw' a).q ∧ (lb.length : Int) = (rw' b).q ∧ la.Nodup ∧ lb.Nodup ∧ knB (rw' a) = true ∧ knB (rw' b) = true ∧ apP (rw' a).q la = true ∧ apP (rw' b).q lb = true := by
  unfold gdP at h
  rw [Bool.and_eq_true, Bool.and_eq_true, Bool.and_eq_true] at h
  obtain ⟨⟨⟨ka, kb⟩, pa⟩, pb⟩ := h
  have ra := kn_range ka
  have rb := kn_range kb
  have la' := ap_nodup pa
  have lb' := ap_nodup pb
  have qa := pa
  have qb := pb
  unfold apP at qa qb
  rw [Bool.and_eq_true] at qa qb
  exact ⟨a.toNat, b.toNat, by omega, by omega, by omega, by omega, by omega, by omega, of_decide_eq_true qa.1, of_decide_eq_true qb.1, la', lb', ka, kb, pa, pb⟩
theorem com_yes {a : Int} {la : List Int} {b : Int} {lb : List Int} (h : gdP a la b lb = true) : comP a la b lb = ((decide ((allP la lb).length = la.length + lb.length) || alc a.toNat b.toNat la lb), 0) := by
  obtain ⟨x, y, rfl, rfl, x1, x2, y1, y2, qa, qb, da, db, ka, kb, pa, pb⟩ := gd_out h
  unfold comP
  rw [ka, kb, pa, pb]
  simp only [Bool.not_true, Bool.or_self, Bool.false_eq_true, if_false]
  rw [Int.toNat_natCast, Int.toNat_natCast, alc_is x1 x2 y1 y2 qa qb]
  by_cases e : (allP la lb).length = la.length + lb.length
  · rw [if_pos e, decide_eq_true e]; rfl
  · rw [if_neg e, decide_eq_false e]; rfl
theorem com_sym {a : Int} {la : List Int} {b : Int} {lb : List Int} (h : gdP a la b lb = true) : comP b lb a la = comP a la b lb ∧ ((comP a la b lb).1 = false → (dgB (rw' a) && dgB (rw' b)) = false) := by
  have h' := (gd_flip a la b lb).trans h
  rw [com_yes h, com_yes h']
  obtain ⟨x, y, rfl, rfl, x1, x2, y1, y2, qa, qb, da, db, ka, kb, pa, pb⟩ := gd_out h
  rw [Int.toNat_natCast, Int.toNat_natCast]
  have e0 : decide ((allP lb la).length = lb.length + la.length) = decide ((allP la lb).length = la.length + lb.length) := by
    rw [decide_eq_decide]; exact (all_comm la lb).symm
  rw [e0]
  by_cases e : (allP la lb).length = la.length + lb.length
  · rw [decide_eq_true e]
    exact ⟨rfl, fun h => by cases h⟩
  · rw [decide_eq_false e, Bool.false_or, Bool.false_or]
    have := sym_all x1 x2 y1 y2 qa qb da db e
    unfold symB at this
    rw [Bool.and_eq_true, beq_iff_eq] at this
    refine ⟨by rw [this.1], fun hf => ?_⟩
    have hd := this.2
    have hf' : alc x y la lb = false := hf
    rw [hf', Bool.or_false] at hd
    rw [(ks_of ⟨x, by omega⟩ x1).2.2.2.2, (ks_of ⟨y, by omega⟩ y1).2.2.2.2]
    cases e' : (dgN x && dgN y)
    · rfl
    · rw [e'] at hd; cases hd
theorem com_own {a : Int} {la : List Int} {b : Int} {lb : List Int} (h : gdP a la b lb = true) : comP a la a la = (true, 0) ∧ comP a la (rw' a).v la = (true, 0) := by
  obtain ⟨x, y, rfl, rfl, x1, x2, y1, y2, qa, qb, da, db, ka, kb, pa, pb⟩ := gd_out h
  have it := inv_tab ⟨x, by omega⟩ x1
  dsimp only at it
  constructor
  · have g1 : gdP (x : Int) la (x : Int) la = true := by unfold gdP; rw [ka, pa]; rfl
    rw [com_yes g1, Int.toNat_natCast, ← alc_is x1 x2 x1 x2 qa qa, alkG_self, Bool.or_true]
  · have ki : knB (rw' (rw' (x : Int)).v) = true := by unfold knB at ka ⊢; rw [it.2.2.1]; exact ka
    have g1 : gdP (x : Int) la (rw' (x : Int)).v la = true := by unfold gdP; rw [ka, pa, ki, it.2.2.1, pa]; rfl
    rw [com_yes g1, Int.toNat_natCast]
    have : alc x (rw' (x : Int)).v.toNat la la = true := by
      unfold alc
      rw [all_self, pos_self da, show la.length = (rw' (x : Int)).q.toNat by omega]
      exact it.2.2.2
    rw [this, Bool.or_true]
end Go.Proofs.YtnhdgellckcnbaaDoor.Gt
/- GateApart, walked. -/
namespace Go.Proofs.YtnhdgellckcnbaaDoor.Gt
open Go.RowKit Go.Proofs.YtnhdgellckcnbaaDoor.Oct

theorem or_of {p q : Bool} (h : p = false → q = false → False) : (p || q) = true := by
  cases p <;> cases q <;> simp at h ⊢
set_option maxRecDepth 100000 in
set_option maxHeartbeats 4000000 in
theorem xGateApart (a : Int) (la : List Int) (b : Int) (lb : List Int) (ao ao' : Option Addr) (c c' : Nat) (hla : la.length ≤ 1000000000000000) (hlb : lb.length ≤ 1000000000000000) (hc : la.length ≤ c) (hc' : lb.length ≤ c') (w : World) (hT : Tb w) (hD : Td w) (hA : Ns w ao la) (hB : Ns w ao' lb) :
    Calls Tryd.prog 6 #[.int .i64 a, .slice ao la.length c, .int .i64 b, .slice ao' lb.length c'] w fun e w' => e = .returned (.bool true) ∧ Below w.heap.size w w' := by
  have c1 : ∀ W, Below w.heap.size w W → Calls Tryd.prog 17 #[.int .i64 a, .slice ao la.length c, .int .i64 b, .slice ao' lb.length c'] W fun e w' => e = .returned (.tuple #[.bool (comP a la b lb).1, .int .i64 (comP a la b lb).2]) ∧ Below W.heap.size W w' := fun W hW => gCommute a la b lb ao ao' c c' hla hlb hc hc' W (hT.below hW) (hD.below hW) (hA.below hW) (hB.below hW)
  have c2 : ∀ W, Below w.heap.size w W → Calls Tryd.prog 17 #[.int .i64 b, .slice ao' lb.length c', .int .i64 a, .slice ao la.length c] W fun e w' => e = .returned (.tuple #[.bool (comP b lb a la).1, .int .i64 (comP b lb a la).2]) ∧ Below W.heap.size W w' := fun W hW => gCommute b lb a la ao' ao c' c hlb hla hc' hc W (hT.below hW) (hD.below hW) (hB.below hW) (hA.below hW)
  have c3 : ∀ W, Below w.heap.size w W → Calls Tryd.prog 17 #[.int .i64 a, .slice ao la.length c, .int .i64 a, .slice ao la.length c] W fun e w' => e = .returned (.tuple #[.bool (comP a la a la).1, .int .i64 (comP a la a la).2]) ∧ Below W.heap.size W w' := fun W hW => gCommute a la a la ao ao c c hla hla hc hc W (hT.below hW) (hD.below hW) (hA.below hW) (hA.below hW)
  have c4 : ∀ W, Below w.heap.size w W → Calls Tryd.prog 17 #[.int .i64 a, .slice ao la.length c, .int .i64 (rw' a).v, .slice ao la.length c] W fun e w' => e = .returned (.tuple #[.bool (comP a la (rw' a).v la).1, .int .i64 (comP a la (rw' a).v la).2]) ∧ Below W.heap.size W w' := fun W hW => gCommute a la (rw' a).v la ao ao c c hla hla hc hc W (hT.below hW) (hD.below hW) (hA.below hW) (hA.below hW)
  have cN := jNum
  have cL : ∀ W, Below w.heap.size w W → Calls Tryd.prog 14 #[] W fun e w' => e = .returned (.bool true) ∧ Below W.heap.size W w' := fun W hW => jAlive W (hT.below hW) (hD.below hW)
  have cI : ∀ W, Below w.heap.size w W → Calls Tryd.prog 19 #[.int .i64 a] W fun e w' => e = .returned (.int .i64 (rw' a).v) ∧ Below W.heap.size W w' := fun W hW => gInverse a W (hT.below hW)
  have cDa : ∀ W, Below w.heap.size w W → Calls Tryd.prog 20 #[.int .i64 a] W fun e w' => e = .returned (.bool (dgB (rw' a))) ∧ Below W.heap.size W w' := fun W hW => gDiagonal a W (hT.below hW)
  have cDb : ∀ W, Below w.heap.size w W → Calls Tryd.prog 20 #[.int .i64 b] W fun e w' => e = .returned (.bool (dgB (rw' b))) ∧ Below W.heap.size W w' := fun W hW => gDiagonal b W (hT.below hW)
  have b0 := Below.refl w.heap.size w
  cases hg : gdP a la b lb
  · have n1 := com_no hg
    have n2 := com_no ((gd_flip a la b lb).trans hg)
    generalize comP a la b lb = R at *
    generalize comP b lb a la = B at *
    obtain ⟨R1, R2⟩ := R
    obtain ⟨B1, B2⟩ := B
    obtain ⟨rfl, n1⟩ := n1
    obtain ⟨rfl, n2⟩ := n2
    dsimp only at n1 n2 c1 c2
    clear c3 c4 cI cDa cDb hg hA hB hT hD
    go_enter Tryd.func6, Tryd.ntmps6
    go_wp2_with fail
    refine (c1 _ b0).mono ?_
    rintro e w1 ⟨rfl, q1⟩
    go_wp2_with fail
    refine (c2 _ q1).mono ?_
    rintro e w2 ⟨rfl, q2⟩
    replace q2 := q1.trans (q2.mono q1.size)
    clear q1 c1 c2 b0
    go_wp2_with (first
      | (go_at_call 10; refine (cN _ _).mono ?_; rintro e' w' ⟨rfl, hw⟩; obtain rfl := hw.symm))
    refine (cL _ q2).mono ?_
    rintro e w3 ⟨rfl, q3⟩
    replace q3 := q2.trans (q3.mono q2.size)
    go_wp2_with fail
    go_ret
    exact ⟨rfl, q3⟩
  · have s1 := com_sym hg
    have s2 := com_own hg
    have s3 : (comP a la b lb).1 = false → ∃ q ∈ lb, q ∈ la := fun h => by
      rw [com_yes hg] at h
      have h' : (decide ((allP la lb).length = la.length + lb.length) || alc a.toNat b.toNat la lb) = false := h
      rw [Bool.or_eq_false_iff] at h'
      have := of_decide_eq_false h'.1
      rw [all_len] at this
      simpa using this
    have s4 : (comP a la b lb).2 = 0 := by rw [com_yes hg]
    rw [s1.1] at c2
    rw [s2.1] at c3
    rw [s2.2] at c4
    have H1 := hide s1.2
    have H3 := hide s3
    clear s1 s2 s3 hg
    generalize comP a la b lb = R at *
    obtain ⟨R1, R2⟩ := R
    dsimp only at s4 H1 H3 c1 c2 c3 c4
    subst s4
    have HA := hide hA
    have HB := hide hB
    obtain ⟨n, hn⟩ : ∃ n, la.length = n := ⟨_, rfl⟩
    obtain ⟨m, hm⟩ : ∃ m, lb.length = m := ⟨_, rfl⟩
    have HN := hide hn
    have HM := hide hm
    rw [hn] at hla hc c1 c2 c3 c4 ⊢
    rw [hm] at hlb hc' c1 c2 ⊢
    clear hA hB hT hD hn hm
    go_enter Tryd.func6, Tryd.ntmps6
    go_wp2_with fail
    refine (c1 _ b0).mono ?_
    rintro e w1 ⟨rfl, q1⟩
    go_wp2_with fail
    refine (c2 _ q1).mono ?_
    rintro e w2 ⟨rfl, q2⟩
    replace q2 := q1.trans (q2.mono q1.size)
    clear q1 c1 c2 b0
    go_wp2_with (first
      | (go_at_call 10; refine (cN _ _).mono ?_; rintro e' w' ⟨rfl, hw⟩; obtain rfl := hw.symm))
    go_loopw [13, 14, 15] (fun vc vi _ wr => ∃ (i : Nat) (cm : Bool), vc = .bool cm ∧ vi = .int .i64 (i : Int) ∧ i ≤ n ∧ Hid (cm = false → ∀ j, j < i → ∀ x, la[j]? = some x → x ∉ lb) ∧ Below w.heap.size w wr) (fun _ vi _ _ => n - (Go.RowKit.intOf vi).toNat)
    case atStart => exact ⟨0, false, rfl, rfl, by omega, hide (fun _ j hj => absurd hj (by omega)), q2⟩
    case round =>
      clear q2
      obtain ⟨i, cm, rfl, rfl, hi, HS, hb⟩ := hrel
      by_cases h : i < n
      · have hd : decide ((i : Int) < (n : Int)) = true := decide_eq_true (by omega)
        obtain ⟨x, hx⟩ : ∃ x, la[i]? = some x := ⟨_, List.getElem?_eq_getElem (by rw [HN.out]; exact h)⟩
        go_wp2_with fail
        go_loopw [13, 15] (fun vc vk wi => ∃ (k : Nat) (cm : Bool), vc = .bool cm ∧ vk = .int .i64 (k : Int) ∧ k ≤ m ∧ Hid (cm = false → (∀ j, j < i → ∀ x, la[j]? = some x → x ∉ lb) ∧ ∀ t, t < k → lb[t]? ≠ some x) ∧ Below w.heap.size w wi) (fun _ vk _ => m - (Go.RowKit.intOf vk).toNat)
        case atStart => exact ⟨0, cm, rfl, rfl, by omega, hide (fun h => ⟨HS.out h, fun t ht => absurd ht (by omega)⟩), hb⟩
        case round =>
          clear HS hb
          obtain ⟨k, cm2, rfl, rfl, hk, HK, hb⟩ := hrel
          by_cases hkm : k < m
          · have hkd : decide ((k : Int) < (m : Int)) = true := decide_eq_true (by omega)
            obtain ⟨y, hy⟩ : ∃ y, lb[k]? = some y := ⟨_, List.getElem?_eq_getElem (by rw [HM.out]; exact hkm)⟩
            obtain ⟨g, off, hgo, hcs⟩ := (HA.out.below hb).resolve_left (fun e => by rw [e] at hx; simp at hx)
            obtain ⟨g', off', hgo', hcs'⟩ := (HB.out.below hb).resolve_left (fun e => by rw [e] at hy; simp at hy)
            subst hgo hgo'
            have hcx := hcs i x hx
            have hcy := hcs' k y hy
            have hiZ : (i : Int) < (n : Int) := by omega
            have hkZ : (k : Int) < (m : Int) := by omega
            have HK2 : Hid ((cm2 || (x == y)) = false → (∀ j, j < i → ∀ x, la[j]? = some x → x ∉ lb) ∧ ∀ t, t < k + 1 → lb[t]? ≠ some x) := hide (fun h => by
              rw [Bool.or_eq_false_iff] at h
              refine ⟨(HK.out h.1).1, fun t ht => ?_⟩
              by_cases e : t = k
              · rw [e, hy]
                intro e'
                cases e'
                simp at h
              · exact (HK.out h.1).2 t (by omega))
            clear HK hcs hcs' hx hy
            cases cm2
            · go_wp2_with fail
              go_quiet (fail)
              go_wp2_with fail
              exact ⟨⟨k + 1, _, rfl, by go_num, by omega, HK2, below_drewN hb _⟩, by simp [Go.RowKit.intOf]; omega⟩
            · go_wp2_with fail
              go_quiet (fail)
              go_wp2_with fail
              exact ⟨⟨k + 1, true, rfl, by go_num, by omega, HK2, below_drewN hb _⟩, by simp [Go.RowKit.intOf]; omega⟩
          · obtain rfl : k = m := by omega
            have HS2 : Hid (cm2 = false → ∀ j, j < i + 1 → ∀ x, la[j]? = some x → x ∉ lb) := hide (fun hcm j hj z hz hmem => by
              by_cases e : j = i
              · subst e
                rw [hx] at hz
                cases hz
                obtain ⟨t, ht, e⟩ := List.getElem_of_mem hmem
                exact (HK.out hcm).2 t (by rw [← HM.out]; exact ht) (by rw [List.getElem?_eq_getElem ht, e])
              · exact (HK.out hcm).1 j (by omega) z hz hmem)
            clear HK hx
            go_wp2_with fail
            exact ⟨⟨i + 1, cm2, rfl, by go_num, by omega, HS2, hb⟩, by simp [Go.RowKit.intOf]; omega⟩
      · obtain rfl : n = i := by omega
        have H6 : cm = false → R1 = false → False := fun hcm hr => by
          obtain ⟨q, q1, q2⟩ := H3.out hr
          obtain ⟨t, ht, e⟩ := List.getElem_of_mem q2
          exact HS.out hcm t (by rw [← HN.out]; exact ht) q (by rw [List.getElem?_eq_getElem ht, e]) q1
        have H4 : (cm || R1) = true := or_of H6
        clear H6
        have H5 := H1.out
        clear HS H1 H3
        have hd : decide ((n : Int) < (n : Int)) = false := decide_eq_false (by omega)
        go_wp2_with fail
        refine (c3 _ hb).mono ?_
        rintro e w3 ⟨rfl, q3⟩
        replace q3 := hb.trans (q3.mono hb.size)
        clear hb c3
        go_wp2_with fail
        refine (cI _ q3).mono ?_
        rintro e w4 ⟨rfl, q4⟩
        replace q4 := q3.trans (q4.mono q3.size)
        clear q3 cI
        go_wp2_with fail
        refine (c4 _ q4).mono ?_
        rintro e w5 ⟨rfl, q5⟩
        replace q5 := q4.trans (q5.mono q4.size)
        clear q4 c4
        generalize dgB (rw' a) = dA at *
        generalize dgB (rw' b) = dB at *
        cases R1
        · have e1 := H5 rfl
          obtain rfl : cm = true := by simpa using H4
          cases dA
          · clear H4 H5 e1 cDb
            go_wp2_with (first
              | (go_at_call 10; refine (cN _ _).mono ?_; rintro e' w' ⟨rfl, hw⟩; obtain rfl := hw.symm)
              | (go_at_call 20; refine (cDa _ q5).mono ?_; rintro e' w6 ⟨rfl, q6⟩; replace q6 := q5.trans (q6.mono q5.size))
              | (go_at_call 14; refine (cL _ q6).mono ?_; rintro e' w7 ⟨rfl, q7⟩; replace q7 := q6.trans (q7.mono q6.size)))
            go_ret
            exact ⟨rfl, q7⟩
          · obtain rfl : dB = false := by simpa using e1
            clear H4 H5 e1
            go_wp2_with (first
              | (go_at_call 10; refine (cN _ _).mono ?_; rintro e' w' ⟨rfl, hw⟩; obtain rfl := hw.symm)
              | (go_at_call_of 20 a; refine (cDa _ q5).mono ?_; rintro e' w6 ⟨rfl, q6⟩; replace q6 := q5.trans (q6.mono q5.size); clear cDa)
              | (go_at_call_of 20 b; refine (cDb _ q6).mono ?_; rintro e' w7 ⟨rfl, q7⟩; replace q7 := q6.trans (q7.mono q6.size))
              | (go_at_call 14; refine (cL _ q7).mono ?_; rintro e' w8 ⟨rfl, q8⟩; replace q8 := q7.trans (q8.mono q7.size)))
            go_ret
            exact ⟨rfl, q8⟩
        · clear H4 H5
          cases cm <;> cases dA <;> cases dB
          all_goals
            go_wp2_with (first
              | (go_at_call 10; refine (cN _ _).mono ?_; rintro e' w' ⟨rfl, hw⟩; obtain rfl := hw.symm))
            refine (cDa _ q5).mono ?_
            rintro e' w6 ⟨rfl, q6⟩
            replace q6 := q5.trans (q6.mono q5.size)
            clear cDa q5
            go_wp2_with fail
            first
              | (refine (cDb _ q6).mono ?_; rintro e' w7 ⟨rfl, q7⟩; replace q7 := q6.trans (q7.mono q6.size); clear cDb q6)
              | (have q7 := q6; clear q6)
            go_wp2_with (first
              | (go_at_call 10; refine (cN _ _).mono ?_; rintro e' w' ⟨rfl, hw⟩; obtain rfl := hw.symm)
              | (go_at_call 14; refine (cL _ q7).mono ?_; rintro e' w8 ⟨rfl, q8⟩; replace q8 := q7.trans (q8.mono q7.size)))
            go_ret
            exact ⟨rfl, q8⟩
end Go.Proofs.YtnhdgellckcnbaaDoor.Gt
/- A slice of numbers that came in, opened. -/
namespace Go.Proofs.YtnhdgellckcnbaaDoor.Gt
open Go.ChangeShapes Go.WideShapes Go.ChangeAt Go.RowKit Go.Lib

theorem bytesOfI : Tryd.prog.bytesOf 3 = 8 := by kernel_rfl
set_option maxRecDepth 100000 in
theorem ns_open {H : Type} {enc : TypeId × Value → H} {W : World} {base : Nat} {v : Value} {d : DataW H} {p : List MemPlace} (hval : Value.okWide Tryd.prog W .any base 42 v)
    (h : DataW.Trod enc Tryd.prog W 0 (fun _ => true) true 42 v d p) :
    ∃ ao c us, v = .slice ao us.length c ∧ Ns W ao us ∧ us.length ≤ c ∧ ((d = .nil ∧ us = []) ∨ ∃ elems spare, d = .slice elems spare ∧ elems.length = us.length) := by
  obtain ⟨a0, len, cap, rfl⟩ := okWide_slice Tryd.underlying42 hval
  obtain ⟨fuel, hf⟩ := h
  rcases open_ints Tryd.underlying42 Tryd.underlying3 cellsI hf with ⟨hcs, hx⟩ | ⟨a, len', cap', zs, hcs, _, hl, hm, hz, hx, hcell, hwz⟩
  · simp [Value.cells] at hcs
    obtain ⟨rfl, rfl, rfl⟩ := hcs
    simp only [Prod.mk.injEq] at hx
    exact ⟨none, 0, [], rfl, .inl rfl, by simp, .inl ⟨hx.1, rfl⟩⟩
  · simp [Value.cells] at hcs
    obtain ⟨rfl, rfl, rfl⟩ := hcs
    simp only [Prod.mk.injEq] at hx
    simp only [if_true] at hz
    have hlen : (zs.take len).length = len := by simp; omega
    refine ⟨some a, cap, zs.take len, by rw [hlen], ?_, by omega, .inr ⟨_, _, hx.1, by simp [lits]⟩⟩
    by_cases h0 : len = 0
    · left
      exact List.eq_nil_of_length_eq_zero (by rw [hlen]; exact h0)
    · right
      obtain ⟨g, off, rfl, hc⟩ := ints_at hcell (by omega)
      refine ⟨g, off, rfl, fun j b hj => ?_⟩
      have hjl : j < len := by have := (List.getElem?_eq_some_iff.1 hj).1; rw [hlen] at this; exact this
      have h1 := hc j (by omega)
      rw [h1]
      simp only [List.getElem?_take, hjl, if_true] at hj
      have e1 : zs.getD j 0 = b := by simp [List.getD, hj]
      rw [e1]
end Go.Proofs.YtnhdgellckcnbaaDoor.Gt
/- GateApart answers true for every two kinds and all qubits: Commute is the same both ways, gates with no qubit in common commute, diagonal ones do, each commutes with itself and with its inverse. Condition: the two listed variables lie as the program's text lays them (the card ties them to the text). -/
namespace Go.Proofs.YtnhdgellckcnbaaDoor.Gt
open Go.ChangeShapes Go.WideShapes Go.ChangeAt Go.RowKit
namespace gateApart
theorem readable : ∀ t ∈ Tryd.f6.params.toList, Tryd.prog.readableRec t = true ∧ t < Tryd.prog.types.size := by
  rw [Tryd.params6]
  intro t ht
  simp at ht
  rcases ht with rfl | rfl | rfl | rfl <;> exact ⟨by kernel_rfl, of_decide_eq_true (by kernel_rfl)⟩
set_option maxRecDepth 100000 in
theorem contract (H : Type) (enc : TypeId × Value → H) (W : World) (base : Nat) (args : Array Value) (ds gs : List (DataW H)) (before : List MemPlace)
    (hval : ∀ (j : Nat) t v, Tryd.f6.params[j]? = some t → args[j]? = some v → Value.okWide Tryd.prog W .any base t v)
    (hW : DataW.Whole enc Tryd.prog Tryd.f6.params.toList Rows.gateApartSpec.vars false W args.toList ds gs before) 
    (hsz : (DataW.weightsEach Tryd.prog (Tryd.f6.params.toList ++ (OpenSpec.ofChange Rows.gateApartSpec).bare.plain.varTypes Tryd.prog) (ds ++ gs)).all (· ≤ reachBytes) = true) (hL : laidMetH Tryd.prog Rows.gateApartRow.laid W) :
    Calls Tryd.prog 6 args W fun e W' => ∃ v, e = .returned v ∧ Rows.gateApartSpec.post enc Tryd.prog Tryd.f6 false true false false W args v W' := by
  have hT : Tb W ∧ Td W := tg_of (plain8 hL)
  have hW0 := hW
  obtain ⟨p, q, hA, hV, rfl, _, _⟩ := hW
  obtain ⟨rfl, rfl⟩ := trodVars_none hV
  have hA' : DataW.TrodAll enc Tryd.prog W 0 (fun _ => true) true Tryd.f6.params.toList args.toList ds p := hA
  rw [Tryd.params6] at hA' hval
  have hfin : ∀ dd : List (DataW H), ds = dd → (Rows.gateApartSpec.fn H dd).results = [.lit (.bool true)] ∧ (Rows.gateApartSpec.fn H dd).args = dd ∧ (Rows.gateApartSpec.fn H dd).vars = [] → ∀ W', Below W.heap.size W W' → Rows.gateApartSpec.post enc Tryd.prog Tryd.f6 false true false false W args (.bool true) W' := by
    rintro dd rfl hs W' hb
    exact law_post (enc := enc) Tryd.f6 Rows.gateApartSpec 4 laidOut rfl readable (by kernel_rfl) Tryd.underlying4 hW0 hs hb
  obtain ⟨v0, v1, v2, v3, d0, d1, d2, d3, p0, p1, p2, p3, rfl, rfl, rfl, h0, h1, h2, h3⟩ := trodAll_four hA'
  have hwalk : Calls Tryd.prog 6 #[v0, v1, v2, v3] W fun e W' => e = .returned (.bool true) ∧ Below W.heap.size W W' := by
    obtain ⟨x0, rfl, rfl, rfl, k0⟩ := open_int Tryd.underlying22 (hval 0 _ v0 rfl rfl) h0
    obtain ⟨ao, c, us, rfl, hus, hlc, hd⟩ := ns_open (hval 1 _ v1 rfl rfl) h1
    obtain ⟨x2, rfl, rfl, rfl, k2⟩ := open_int Tryd.underlying22 (hval 2 _ v2 rfl rfl) h2
    obtain ⟨ao', c', us', rfl, hus', hlc', hd'⟩ := ns_open (hval 3 _ v3 rfl rfl) h3
    have hr : reachBytes = 140737488351232 := rfl
    have hl : us.length ≤ 17592186044414 := by
      rcases hd with ⟨_, rfl⟩ | ⟨elems, spare, rfl, hel⟩
      · exact Nat.zero_le _
      · have hs := sized_slice hsz (j := 1) (t := 42) (e := 3) (elems := elems) (spare := spare) (by rw [Tryd.params6]; rfl) rfl Tryd.underlying42
        rw [bytesOfI, hr] at hs
        omega
    have hl' : us'.length ≤ 17592186044414 := by
      rcases hd' with ⟨_, rfl⟩ | ⟨elems, spare, rfl, hel⟩
      · exact Nat.zero_le _
      · have hs := sized_slice hsz (j := 3) (t := 42) (e := 3) (elems := elems) (spare := spare) (by rw [Tryd.params6]; rfl) rfl Tryd.underlying42
        rw [bytesOfI, hr] at hs
        omega
    exact xGateApart x0 us x2 us' ao ao' c c' (by omega) (by omega) hlc hlc' W hT.1 hT.2 hus hus'
  refine hwalk.mono ?_
  rintro e W' ⟨rfl, hb⟩
  exact ⟨_, rfl, hfin _ rfl ⟨rfl, rfl, rfl⟩ W' hb⟩
theorem laid_met (os : Os) (args : Array Value) : laidMet Tryd.prog Rows.gateApartRow.laid ((laidWorld os).forCall (fun _ _ => 0) ⟨#[], args, []⟩).memory :=
  laid_met8 os args
theorem reads (os : Os) {H : Type} (enc : TypeId × Value → H) : ∃ places, DataW.whole enc Tryd.prog ((laidWorld os).forCall (fun _ _ => 0) ⟨#[], #[.int .i64 1, .slice none 0 0, .int .i64 1, .slice none 0 0], []⟩).memory Tryd.f6.params.toList Rows.gateApartSpec.vars false #[(.int .i64 1 : Value), .slice none 0 0, .int .i64 1, .slice none 0 0].toList 8 = some ([.lit (.int .i64 1), .nil, .lit (.int .i64 1), .nil], [], places) :=
  ⟨[], by kernel_rfl⟩

set_option maxRecDepth 100000 in
theorem lifted (os : Os) (started : os.Started) (H : Type) (enc : TypeId × Value → H) (F : Stop.Interp) :
    ReturnsInHanded {} Tryd.checked os 6 .any ((OpenSpec.ofChange Rows.gateApartSpec).preRow enc Tryd.prog Tryd.f6 Rows.gateApartRow.domain false Rows.gateApartRow.laid) (((OpenSpec.ofChange Rows.gateApartSpec).at F).post enc Tryd.prog Tryd.f6 false true false false) := by
  obtain ⟨places, hx⟩ := reads os enc
  refine returnsInHanded_of_row (C := Tryd.checked) (s := OpenSpec.ofChange Rows.gateApartSpec) own started (by kernel_rfl) Tryd.func6
    (witness_row_shaped (enc := enc) (C := Tryd.checked) false (laidWorld os) #[.int .i64 1, .slice none 0 0, .int .i64 1, .slice none 0 0] (laidWorld_os os) (shaped8 os _) (by kernel_rfl)
      (OpenSpec.preRow_of_cond 8 hx (by kernel_rfl) (fun k hk => by cases hk) (by kernel_rfl) (laid_met os _))) ?_
  intro W base args ds gs before hval hW _ _ hsz hL _ _
  exact contract H enc W base args ds gs before hval hW hsz hL
theorem said : Rows.GateApartSaid :=
  OpenClaim.holds_of_cond 6 Tryd.f6 rfl rfl rfl rfl rfl rfl rfl ⟨rfl, rfl, rfl, rfl, rfl⟩ rfl rfl rfl rfl rfl (by kernel_rfl) Tryd.func6 (by kernel_rfl)
    (of_decide_eq_true (by kernel_rfl)) (by unfold Func.isWrapper; first | (rw [if_pos (by decide +kernel)]; kernel_rfl) | (rw [if_neg (by decide +kernel)]; exact ⟨rfl, rfl⟩))
    (fun os started H enc _ F => by rw [OpenClaim.pre_eq_preRow]; exact lifted os started H enc F)
/-- No parameter wants a stand-in; the program's own looks are off. -/
theorem plain (f : FuncId) (fn : Func) (hf : Tryd.pinned.checked.prog.funcNamed "phasor/phasorlaw06.GateApart" = some f) (hfn : Tryd.pinned.checked.prog.funcs[f]? = some fn) :
    false = Tryd.pinned.checked.prog.looks [] ∧ ∀ (j : Nat) t, fn.params[j]? = some t → Tryd.pinned.checked.prog.wantsStandIn t = false := by
  obtain rfl : f = 6 := Option.some.inj ((show Tryd.prog.funcNamed "phasor/phasorlaw06.GateApart" = some 6 by kernel_rfl).symm.trans hf) |>.symm
  obtain rfl : fn = Tryd.f6 := (Option.some.inj (Tryd.func6.symm.trans hfn)).symm
  refine ⟨by kernel_rfl, fun j t ht => ?_⟩
  rw [Tryd.params6] at ht
  have hm := Array.mem_of_getElem? ht
  simp at hm
  rcases hm with rfl | rfl | rfl | rfl
  · exact (show Tryd.prog.wantsStandIn 22 = false by kernel_rfl)
  · exact (show Tryd.prog.wantsStandIn 42 = false by kernel_rfl)
  · exact (show Tryd.prog.wantsStandIn 22 = false by kernel_rfl)
  · exact (show Tryd.prog.wantsStandIn 42 = false by kernel_rfl)
end gateApart
end Go.Proofs.YtnhdgellckcnbaaDoor.Gt
namespace Go.Proofs.YtnhdgellckcnbaaDoor
open Go
/-- The card. -/
theorem GateApart_card : Rows.GateApartCardSaid :=
  Claim7.holds_tied_plain_at .later [] _ _ _ _ Gt.gateApart.said (fun _ h => by cases h) (by kernel_rfl) (fun _ h => by cases h) gateApart_row_tie rfl ⟨rfl, rfl⟩ (by kernel_rfl) rfl Gt.gateApart.plain (by kernel_rfl)
end Go.Proofs.YtnhdgellckcnbaaDoor
