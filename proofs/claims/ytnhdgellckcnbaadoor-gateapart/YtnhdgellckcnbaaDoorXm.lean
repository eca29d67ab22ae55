/- What commuting is, on lists that the kernel reckons. -/
import Derived.Test.YtnhdgellckcnbaaDoorAv
namespace Go.Proofs.YtnhdgellckcnbaaDoor.Gt
/-- The matrices of the kinds, in halves, by columns. -/
def colT : List (List (List (Int × Int))) := [
  [],
  [[(2, 0), (0, 0)], [(0, 0), (2, 0)]],
  [[(0, 0), (2, 0)], [(2, 0), (0, 0)]],
  [[(0, 0), (0, 2)], [(0, -2), (0, 0)]],
  [[(2, 0), (0, 0)], [(0, 0), (-2, 0)]],
  [[(2, 0), (0, 0)], [(0, 0), (0, 2)]],
  [[(2, 0), (0, 0)], [(0, 0), (0, -2)]],
  [[(1, 1), (1, -1)], [(1, -1), (1, 1)]],
  [[(1, -1), (1, 1)], [(1, 1), (1, -1)]],
  [[(1, 1), (1, 1)], [(-1, -1), (1, 1)]],
  [[(1, -1), (-1, 1)], [(1, -1), (1, -1)]],
  [[(2, 0), (0, 0), (0, 0), (0, 0)], [(0, 0), (0, 0), (0, 0), (2, 0)], [(0, 0), (0, 0), (2, 0), (0, 0)], [(0, 0), (2, 0), (0, 0), (0, 0)]],
  [[(2, 0), (0, 0), (0, 0), (0, 0)], [(0, 0), (0, 0), (0, 0), (0, 2)], [(0, 0), (0, 0), (2, 0), (0, 0)], [(0, 0), (0, -2), (0, 0), (0, 0)]],
  [[(2, 0), (0, 0), (0, 0), (0, 0)], [(0, 0), (2, 0), (0, 0), (0, 0)], [(0, 0), (0, 0), (2, 0), (0, 0)], [(0, 0), (0, 0), (0, 0), (-2, 0)]],
  [[(2, 0), (0, 0), (0, 0), (0, 0)], [(0, 0), (0, 0), (2, 0), (0, 0)], [(0, 0), (2, 0), (0, 0), (0, 0)], [(0, 0), (0, 0), (0, 0), (2, 0)]],
  [[(2, 0), (0, 0), (0, 0), (0, 0)], [(0, 0), (0, 0), (0, 2), (0, 0)], [(0, 0), (0, 2), (0, 0), (0, 0)], [(0, 0), (0, 0), (0, 0), (2, 0)]],
  [[(2, 0), (0, 0), (0, 0), (0, 0)], [(0, 0), (0, 0), (0, -2), (0, 0)], [(0, 0), (0, -2), (0, 0), (0, 0)], [(0, 0), (0, 0), (0, 0), (2, 0)]],
  [[(1, 0), (1, 0), (1, 0), (1, 0)], [(1, 0), (-1, 0), (1, 0), (-1, 0)], [(1, 0), (1, 0), (-1, 0), (-1, 0)], [(1, 0), (-1, 0), (-1, 0), (1, 0)]],
  [[(2, 0), (0, 0), (0, 0), (0, 0), (0, 0), (0, 0), (0, 0), (0, 0)], [(0, 0), (2, 0), (0, 0), (0, 0), (0, 0), (0, 0), (0, 0), (0, 0)], [(0, 0), (0, 0), (2, 0), (0, 0), (0, 0), (0, 0), (0, 0), (0, 0)], [(0, 0), (0, 0), (0, 0), (0, 0), (0, 0), (0, 0), (0, 0), (2, 0)], [(0, 0), (0, 0), (0, 0), (0, 0), (2, 0), (0, 0), (0, 0), (0, 0)], [(0, 0), (0, 0), (0, 0), (0, 0), (0, 0), (2, 0), (0, 0), (0, 0)], [(0, 0), (0, 0), (0, 0), (0, 0), (0, 0), (0, 0), (2, 0), (0, 0)], [(0, 0), (0, 0), (0, 0), (2, 0), (0, 0), (0, 0), (0, 0), (0, 0)]],
  [[(2, 0), (0, 0), (0, 0), (0, 0), (0, 0), (0, 0), (0, 0), (0, 0)], [(0, 0), (2, 0), (0, 0), (0, 0), (0, 0), (0, 0), (0, 0), (0, 0)], [(0, 0), (0, 0), (2, 0), (0, 0), (0, 0), (0, 0), (0, 0), (0, 0)], [(0, 0), (0, 0), (0, 0), (2, 0), (0, 0), (0, 0), (0, 0), (0, 0)], [(0, 0), (0, 0), (0, 0), (0, 0), (2, 0), (0, 0), (0, 0), (0, 0)], [(0, 0), (0, 0), (0, 0), (0, 0), (0, 0), (2, 0), (0, 0), (0, 0)], [(0, 0), (0, 0), (0, 0), (0, 0), (0, 0), (0, 0), (2, 0), (0, 0)], [(0, 0), (0, 0), (0, 0), (0, 0), (0, 0), (0, 0), (0, 0), (-2, 0)]],
  [[(2, 0), (0, 0), (0, 0), (0, 0), (0, 0), (0, 0), (0, 0), (0, 0)], [(0, 0), (2, 0), (0, 0), (0, 0), (0, 0), (0, 0), (0, 0), (0, 0)], [(0, 0), (0, 0), (2, 0), (0, 0), (0, 0), (0, 0), (0, 0), (0, 0)], [(0, 0), (0, 0), (0, 0), (0, 0), (0, 0), (2, 0), (0, 0), (0, 0)], [(0, 0), (0, 0), (0, 0), (0, 0), (2, 0), (0, 0), (0, 0), (0, 0)], [(0, 0), (0, 0), (0, 0), (2, 0), (0, 0), (0, 0), (0, 0), (0, 0)], [(0, 0), (0, 0), (0, 0), (0, 0), (0, 0), (0, 0), (2, 0), (0, 0)], [(0, 0), (0, 0), (0, 0), (0, 0), (0, 0), (0, 0), (0, 0), (2, 0)]]]
theorem colT_ok : ∀ k : Fin 21, 1 ≤ k.1 → ∀ c r : Fin 8, c.1 < rowsN k.1 → r.1 < rowsN k.1 → ((colT.getD k.1 []).getD c.1 []).getD r.1 (0, 0) = mz k.1 (rowsN k.1 * r.1 + c.1) := by decide +kernel
theorem colT_len : ∀ k : Fin 21, 1 ≤ k.1 → ∀ c : Fin 8, c.1 < rowsN k.1 → ((colT.getD k.1 []).getD c.1 []).length = rowsN k.1 := by decide +kernel
def zz (v : Int × Int) : Bool := v.1 == 0 && v.2 == 0
theorem zz_iff (v : Int × Int) : zz v = true ↔ v = (0, 0) := by
  unfold zz
  rw [Bool.and_eq_true, beq_iff_eq, beq_iff_eq]
  constructor
  · rintro ⟨h1, h2⟩; exact Prod.ext h1 h2
  · rintro rfl; exact ⟨rfl, rfl⟩
/-- Something is added at a place. -/
def upd : List (Int × Int) → Nat → Int × Int → List (Int × Int)
  | [], _, _ => []
  | a :: r, 0, z => zadd a z :: r
  | a :: r, i + 1, z => a :: upd r i z
theorem upd_len : ∀ (F : List (Int × Int)) (i : Nat) (z : Int × Int), (upd F i z).length = F.length
  | [], i, z => by cases i <;> rfl
  | a :: r, 0, z => rfl
  | a :: r, i + 1, z => by rw [upd, List.length_cons, upd_len r i z, List.length_cons]
theorem upd_get : ∀ (F : List (Int × Int)) (i : Nat) (z : Int × Int) (j : Nat), j < F.length → (upd F i z).getD j (0, 0) = if j = i then zadd (F.getD j (0, 0)) z else F.getD j (0, 0)
  | [], i, z, j, h => absurd h (by simp)
  | a :: r, 0, z, 0, h => by simp [upd]
  | a :: r, 0, z, j + 1, h => by simp [upd]
  | a :: r, i + 1, z, 0, h => by simp [upd]
  | a :: r, i + 1, z, j + 1, h => by
    have := upd_get r i z j (by simpa using h)
    simp only [upd, List.getD_cons_succ, this, Nat.add_right_cancel_iff]
/-- A list that says what a function says. -/
def Rep (S : Nat) (F : List (Int × Int)) (f : Nat → Int × Int) : Prop := F.length = S ∧ ∀ j, j < S → F.getD j (0, 0) = f j
def rwL (l : List Nat) (v : Int × Int) (p : Nat) : List (Int × Int) → Nat → List (Int × Int) → List (Int × Int)
  | [], _, F => F
  | m :: ms, r, F => rwL l v p ms (r + 1) (if zz m then F else upd F (scG p r l l.length) (zmul m v))
def plL (k : Nat) (l : List Nat) : List (Int × Int) → Nat → List (Int × Int) → List (Int × Int)
  | [], _, F => F
  | v :: vs, p, F => plL k l vs (p + 1) (if zz v then F else rwL l v p ((colT.getD k []).getD (gaG p l l.length) []) 0 F)
theorem zadd_0 (a v : Int × Int) : zadd a (zmul (0, 0) v) = a := by
  apply Prod.ext <;> simp [zadd, zmul]
theorem rwL_rep {S k n : Nat} {l : List Nat} {v : Int × Int} {p col : Nat} {f : Nat → Int × Int} : ∀ (ms : List (Int × Int)) (r : Nat) (F : List (Int × Int)), (∀ i, i < ms.length → ms.getD i (0, 0) = mz k (n * (r + i) + col)) → Rep S F (rwG k n l v p col f r) → Rep S (rwL l v p ms r F) (rwG k n l v p col f (r + ms.length))
  | [], r, F, _, h => h
  | m :: ms, r, F, hm, h => by
    rw [rwL, List.length_cons, show r + (ms.length + 1) = r + 1 + ms.length by omega]
    refine rwL_rep ms (r + 1) _ (fun i hi => ?_) ?_
    · have := hm (i + 1) (by simpa using hi)
      rw [List.getD_cons_succ] at this
      rw [this, show r + (i + 1) = r + 1 + i by omega]
    · have h0 := hm 0 (by simp)
      simp only [List.getD_cons_zero, Nat.add_zero] at h0
      cases e : zz m
      · rw [if_neg (by simp)]
        refine ⟨by rw [upd_len]; exact h.1, fun j hj => ?_⟩
        rw [upd_get _ _ _ _ (by rw [h.1]; exact hj), h.2 j hj, h0]
        rfl
      · rw [if_pos rfl]
        refine ⟨h.1, fun j hj => ?_⟩
        rw [h.2 j hj]
        show _ = if j = scG p r l l.length then zadd (rwG k n l v p col f r j) (zmul (mz k (n * r + col)) v) else rwG k n l v p col f r j
        rw [← h0, (zz_iff m).1 e, zadd_0, ite_self]
theorem ga_rows {k : Nat} (hk1 : 1 ≤ k) (hk : k ≤ 20) {l : List Nat} (hl : (l.length : Int) = (rw' (k : Int)).q) (p : Nat) : gaG p l l.length < rowsN k := by
  have h := gaG_pow p l l.length
  have hq := q_rows ⟨k, by omega⟩ hk1
  dsimp only at hq
  rcases rowsN_is k with e | e | e
  · have := hq.1 e; rw [show l.length = 1 by omega] at h ⊢; rw [e]; exact h
  · have := hq.2.1 e; rw [show l.length = 2 by omega] at h ⊢; rw [e]; exact h
  · have := hq.2.2 e; rw [show l.length = 3 by omega] at h ⊢; rw [e]; exact h
theorem plL_rep {S k : Nat} (hk1 : 1 ≤ k) (hk : k ≤ 20) {l : List Nat} (hl : (l.length : Int) = (rw' (k : Int)).q) {V : Nat → Int × Int} : ∀ (vs : List (Int × Int)) (p : Nat) (F : List (Int × Int)), (∀ i, i < vs.length → vs.getD i (0, 0) = V (p + i)) → Rep S F (plG k (rowsN k) l V p) → Rep S (plL k l vs p F) (plG k (rowsN k) l V (p + vs.length))
  | [], p, F, _, h => h
  | v :: vs, p, F, hv, h => by
    rw [plL, List.length_cons, show p + (vs.length + 1) = p + 1 + vs.length by omega]
    refine plL_rep hk1 hk hl vs (p + 1) _ (fun i hi => ?_) ?_
    · have := hv (i + 1) (by simpa using hi)
      rw [List.getD_cons_succ] at this
      rw [this, show p + (i + 1) = p + 1 + i by omega]
    · have h0 := hv 0 (by simp)
      simp only [List.getD_cons_zero, Nat.add_zero] at h0
      rw [plG]
      cases e : zz v
      · have hne : ¬ V p = (0, 0) := fun h => by rw [← h0, ← zz_iff, e] at h; cases h
        rw [if_neg (by simp), if_neg hne]
        have hga := ga_rows hk1 hk hl p
        have h8 : rowsN k ≤ 8 := by rcases rowsN_is k with e | e | e <;> omega
        have hlen := colT_len ⟨k, by omega⟩ hk1 ⟨gaG p l l.length, by omega⟩ hga
        dsimp only at hlen
        have := rwL_rep (S := S) (k := k) (n := rowsN k) (l := l) (v := v) (p := p) (col := gaG p l l.length) (f := plG k (rowsN k) l V p) ((colT.getD k []).getD (gaG p l l.length) []) 0 F (fun i hi => by
          rw [hlen] at hi
          have := colT_ok ⟨k, by omega⟩ hk1 ⟨gaG p l l.length, by omega⟩ ⟨i, by omega⟩ hga hi
          dsimp only at this
          rw [this, Nat.zero_add]) h
        rw [hlen, Nat.zero_add] at this
        rw [h0] at this ⊢
        exact this
      · rw [if_pos rfl, if_pos (by rw [← h0]; exact (zz_iff v).1 e)]
        exact h
def nul (S : Nat) : List (Int × Int) := List.replicate S (0, 0)
theorem nul_rep (S : Nat) : Rep S (nul S) (fun _ => (0, 0)) := ⟨by simp [nul], fun j hj => by simp [nul, List.getD_eq_getElem?_getD, hj]⟩
def actL (S k : Nat) (l : List Nat) (V : List (Int × Int)) : List (Int × Int) := plL k l V 0 (nul S)
theorem actL_rep {S k : Nat} (hk1 : 1 ≤ k) (hk : k ≤ 20) {l : List Nat} (hl : (l.length : Int) = (rw' (k : Int)).q) {V : List (Int × Int)} {f : Nat → Int × Int} (h : Rep S V f) : Rep S (actL S k l V) (plG k (rowsN k) l f S) := by
  have := plL_rep (S := S) hk1 hk hl (V := f) V 0 (nul S) (fun i hi => by rw [Nat.zero_add]; exact h.2 i (by rw [← h.1]; exact hi)) (nul_rep S)
  rw [h.1, Nat.zero_add] at this
  exact this
def basL (S c : Nat) : List (Int × Int) := upd (nul S) c (1, 0)
theorem bas_rep (S c : Nat) : Rep S (basL S c) (bas c) := by
  refine ⟨by rw [basL, upd_len]; exact (nul_rep S).1, fun j hj => ?_⟩
  rw [basL, upd_get _ _ _ _ (by rw [(nul_rep S).1]; exact hj), (nul_rep S).2 j hj]
  rfl
def eqL : List (Int × Int) → List (Int × Int) → Bool
  | [], [] => true
  | a :: r, b :: s => a.1 == b.1 && a.2 == b.2 && eqL r s
  | _, _ => false
theorem eqL_iff : ∀ (F G : List (Int × Int)), eqL F G = true ↔ F = G
  | [], [] => by simp [eqL]
  | [], b :: s => by simp [eqL]
  | a :: r, [] => by simp [eqL]
  | a :: r, b :: s => by
    rw [eqL, Bool.and_eq_true, Bool.and_eq_true, beq_iff_eq, beq_iff_eq, eqL_iff r s, List.cons.injEq, Prod.ext_iff]
theorem rep_eq {S : Nat} {F G : List (Int × Int)} {f g : Nat → Int × Int} (hf : Rep S F f) (hg : Rep S G g) : eqB f g S = eqL F G := by
  rw [Bool.eq_iff_iff, eqB_iff, eqL_iff]
  constructor
  · intro h
    refine List.ext_getElem (by rw [hf.1, hg.1]) (fun j h1 h2 => ?_)
    have a := hf.2 j (by rw [← hf.1]; exact h1)
    have b := hg.2 j (by rw [← hg.1]; exact h2)
    rw [List.getD_eq_getElem?_getD, List.getElem?_eq_getElem h1] at a
    rw [List.getD_eq_getElem?_getD, List.getElem?_eq_getElem h2] at b
    simp only [Option.getD_some] at a b
    rw [a, b]
    exact h j (by rw [← hf.1]; exact h1)
  · rintro rfl j hj
    rw [← hf.2 j hj, ← hg.2 j hj]
def alkL (S k : Nat) (l : List Nat) (k' : Nat) (l' : List Nat) : Nat → Nat → Bool
  | 0, _ => true
  | m + 1, c => eqL (actL S k l (actL S k' l' (basL S c))) (actL S k' l' (actL S k l (basL S c))) && alkL S k l k' l' m (c + 1)
theorem alkL_eq {S k k' : Nat} (hk1 : 1 ≤ k) (hk : k ≤ 20) (hk1' : 1 ≤ k') (hk' : k' ≤ 20) {l l' : List Nat} (hl : (l.length : Int) = (rw' (k : Int)).q) (hl' : (l'.length : Int) = (rw' (k' : Int)).q) : ∀ m c, alkG S k (rowsN k) l k' (rowsN k') l' m c = alkL S k l k' l' m c
  | 0, _ => rfl
  | m + 1, c => by
    rw [alkG, alkL, alkL_eq hk1 hk hk1' hk' hl hl' m (c + 1), colP]
    rw [rep_eq (actL_rep hk1 hk hl (actL_rep hk1' hk' hl' (bas_rep S c))) (actL_rep hk1' hk' hl' (actL_rep hk1 hk hl (bas_rep S c)))]
end Go.Proofs.YtnhdgellckcnbaaDoor.Gt
