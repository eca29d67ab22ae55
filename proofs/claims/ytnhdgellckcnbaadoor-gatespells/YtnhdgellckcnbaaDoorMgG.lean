/- GateSpells answers true for every row of kinds: the word that gate.Word answers of the row's product is no longer than the row's gates of one qubit, and has the same product. Condition: the two listed variables lie as the program's text lays them (the card ties them to the text). -/
import Derived.Test.YtnhdgellckcnbaaDoorAv
import Derived.Test.YtnhdgellckcnbaaDoorAy
import Derived.Test.YtnhdgellckcnbaaDoorXq
import Derived.Test.YtnhdgellckcnbaaDoorXe
import Derived.Laws.ComplexArith
import Derived.BigQuiet
import Derived.Deep.RegionHeld3
import Derived.Deep.AppendLies
import Derived.Test.YtnhdgellckcnbaaDoorAp
import Derived.Test.YtnhdgellckcnbaaDoorFr6
/- What commuting is, on lists that the kernel reckons. -/
namespace Go.Proofs.YtnhdgellckcnbaaDoor.Gt
/-- The matrices of the kinds, in halves, by columns. -/
def colT : List (List (List (Int × Int))) := [
  [],
  [[(2, 0), (0, 0)], [(0, 0), (2, 0)]],
  [[(0, 0), (2, 0)], [(2, 0), (0, 0)]],
  [[(0, 0), (0, 2)], [(0, -2), (0, 0)]],
  [[(2, 0), (0, 0)], [(0, 0), (-2, 0)]],
  [[(2, 0), (0, 0)], [(0, 0), (0, 2)]],
  [[(2, 0), (0, 0)], [(0, 0), (0, -2)]],
  [[(1, 1), (1, -1)], [(1, -1), (1, 1)]],
  [[(1, -1), (1, 1)], [(1, 1), (1, -1)]],
  [[(1, 1), (1, 1)], [(-1, -1), (1, 1)]],
  [[(1, -1), (-1, 1)], [(1, -1), (1, -1)]],
  [[(2, 0), (0, 0), (0, 0), (0, 0)], [(0, 0), (0, 0), (0, 0), (2, 0)], [(0, 0), (0, 0), (2, 0), (0, 0)], [(0, 0), (2, 0), (0, 0), (0, 0)]],
  [[(2, 0), (0, 0), (0, 0), (0, 0)], [(0, 0), (0, 0), (0, 0), (0, 2)], [(0, 0), (0, 0), (2, 0), (0, 0)], [(0, 0), (0, -2), (0, 0), (0, 0)]],
  [[(2, 0), (0, 0), (0, 0), (0, 0)], [(0, 0), (2, 0), (0, 0), (0, 0)], [(0, 0), (0, 0), (2, 0), (0, 0)], [(0, 0), (0, 0), (0, 0), (-2, 0)]],
  [[(2, 0), (0, 0), (0, 0), (0, 0)], [(0, 0), (0, 0), (2, 0), (0, 0)], [(0, 0), (2, 0), (0, 0), (0, 0)], [(0, 0), (0, 0), (0, 0), (2, 0)]],
  [[(2, 0), (0, 0), (0, 0), (0, 0)], [(0, 0), (0, 0), (0, 2), (0, 0)], [(0, 0), (0, 2), (0, 0), (0, 0)], [(0, 0), (0, 0), (0, 0), (2, 0)]],
  [[(2, 0), (0, 0), (0, 0), (0, 0)], [(0, 0), (0, 0), (0, -2), (0, 0)], [(0, 0), (0, -2), (0, 0), (0, 0)], [(0, 0), (0, 0), (0, 0), (2, 0)]],
  [[(1, 0), (1, 0), (1, 0), (1, 0)], [(1, 0), (-1, 0), (1, 0), (-1, 0)], [(1, 0), (1, 0), (-1, 0), (-1, 0)], [(1, 0), (-1, 0), (-1, 0), (1, 0)]],
  [[(2, 0), (0, 0), (0, 0), (0, 0), (0, 0), (0, 0), (0, 0), (0, 0)], [(0, 0), (2, 0), (0, 0), (0, 0), (0, 0), (0, 0), (0, 0), (0, 0)], [(0, 0), (0, 0), (2, 0), (0, 0), (0, 0), (0, 0), (0, 0), (0, 0)], [(0, 0), (0, 0), (0, 0), (0, 0), (0, 0), (0, 0), (0, 0), (2, 0)], [(0, 0), (0, 0), (0, 0), (0, 0), (2, 0), (0, 0), (0, 0), (0, 0)], [(0, 0), (0, 0), (0, 0), (0, 0), (0, 0), (2, 0), (0, 0), (0, 0)], [(0, 0), (0, 0), (0, 0), (0, 0), (0, 0), (0, 0), (2, 0), (0, 0)], [(0, 0), (0, 0), (0, 0), (2, 0), (0, 0), (0, 0), (0, 0), (0, 0)]],
  [[(2, 0), (0, 0), (0, 0), (0, 0), (0, 0), (0, 0), (0, 0), (0, 0)], [(0, 0), (2, 0), (0, 0), (0, 0), (0, 0), (0, 0), (0, 0), (0, 0)], [(0, 0), (0, 0), (2, 0), (0, 0), (0, 0), (0, 0), (0, 0), (0, 0)], [(0, 0), (0, 0), (0, 0), (2, 0), (0, 0), (0, 0), (0, 0), (0, 0)], [(0, 0), (0, 0), (0, 0), (0, 0), (2, 0), (0, 0), (0, 0), (0, 0)], [(0, 0), (0, 0), (0, 0), (0, 0), (0, 0), (2, 0), (0, 0), (0, 0)], [(0, 0), (0, 0), (0, 0), (0, 0), (0, 0), (0, 0), (2, 0), (0, 0)], [(0, 0), (0, 0), (0, 0), (0, 0), (0, 0), (0, 0), (0, 0), (-2, 0)]],
  [[(2, 0), (0, 0), (0, 0), (0, 0), (0, 0), (0, 0), (0, 0), (0, 0)], [(0, 0), (2, 0), (0, 0), (0, 0), (0, 0), (0, 0), (0, 0), (0, 0)], [(0, 0), (0, 0), (2, 0), (0, 0), (0, 0), (0, 0), (0, 0), (0, 0)], [(0, 0), (0, 0), (0, 0), (0, 0), (0, 0), (2, 0), (0, 0), (0, 0)], [(0, 0), (0, 0), (0, 0), (0, 0), (2, 0), (0, 0), (0, 0), (0, 0)], [(0, 0), (0, 0), (0, 0), (2, 0), (0, 0), (0, 0), (0, 0), (0, 0)], [(0, 0), (0, 0), (0, 0), (0, 0), (0, 0), (0, 0), (2, 0), (0, 0)], [(0, 0), (0, 0), (0, 0), (0, 0), (0, 0), (0, 0), (0, 0), (2, 0)]]]
theorem colT_ok : ∀ k : Fin 21, 1 ≤ k.1 → ∀ c r : Fin 8, c.1 < rowsN k.1 → r.1 < rowsN k.1 → ((colT.getD k.1 []).getD c.1 []).getD r.1 (0, 0) = mz k.1 (rowsN k.1 * r.1 + c.1) := by decide +kernel
theorem colT_len : ∀ k : Fin 21, 1 ≤ k.1 → ∀ c : Fin 8, c.1 < rowsN k.1 → ((colT.getD k.1 []).getD c.1 []).length = rowsN k.1 := by decide +kernel
def zz (v : Int × Int) : Bool := v.1 == 0 && v.2 == 0
theorem zz_iff (v : Int × Int) : zz v = true ↔ v = (0, 0) := by
  unfold zz
  rw [Bool.and_eq_true, beq_iff_eq, beq_iff_eq]
  constructor
  · rintro ⟨h1, h2⟩; exact Prod.ext h1 h2
  · rintro rfl; exact ⟨rfl, rfl⟩
/-- Something is added at a place. -/
def upd : List (Int × Int) → Nat → Int × Int → List (Int × Int)
  | [], _, _ => []
  | a :: r, 0, z => zadd a z :: r
  | a :: r, i + 1, z => a :: upd r i z
theorem upd_len : ∀ (F : List (Int × Int)) (i : Nat) (z : Int × Int), (upd F i z).length = F.length
  | [], i, z => by cases i <;> rfl
  | a :: r, 0, z => rfl
  | a :: r, i + 1, z => by rw [upd, List.length_cons, upd_len r i z, List.length_cons]
theorem upd_get : ∀ (F : List (Int × Int)) (i : Nat) (z : Int × Int) (j : Nat), j < F.length → (upd F i z).getD j (0, 0) = if j = i then zadd (F.getD j (0, 0)) z else F.getD j (0, 0)
  | [], i, z, j, h => absurd h (by simp)
  | a :: r, 0, z, 0, h => by simp [upd]
  | a :: r, 0, z, j + 1, h => by simp [upd]
  | a :: r, i + 1, z, 0, h => by simp [upd]
  | a :: r, i + 1, z, j + 1, h => by
    have := upd_get r i z j (by simpa using h)
    simp only [upd, List.getD_cons_succ, this, Nat.add_right_cancel_iff]
/-- A list that says what a function says. -/
def Rep (S : Nat) (F : List (Int × Int)) (f : Nat → Int × Int) : Prop := F.length = S ∧ ∀ j, j < S → F.getD j (0, 0) = f j
def rwL (l : List Nat) (v : Int × Int) (p : Nat) : List (Int × Int) → Nat → List (Int × Int) → List (Int × Int)
  | [], _, F => F
  | m :: ms, r, F => rwL l v p ms (r + 1) (if zz m then F else upd F (scG p r l l.length) (zmul m v))
def plL (k : Nat) (l : List Nat) : List (Int × Int) → Nat → List (Int × Int) → List (Int × Int)
  | [], _, F => F
  | v :: vs, p, F => plL k l vs (p + 1) (if zz v then F else rwL l v p ((colT.getD k []).getD (gaG p l l.length) []) 0 F)
theorem zadd_0 (a v : Int × Int) : zadd a (zmul (0, 0) v) = a := by
  apply Prod.ext <;> simp [zadd, zmul]
theorem rwL_rep {S k n : Nat} {l : List Nat} {v : Int × Int} {p col : Nat} {f : Nat → Int × Int} : ∀ (ms : List (Int × Int)) (r : Nat) (F : List (Int × Int)), (∀ i, i < ms.length → ms.getD i (0, 0) = mz k (n * (r + i) + col)) → Rep S F (rwG k n l v p col f r) → Rep S (rwL l v p ms r F) (rwG k n l v p col f (r + ms.length))
  | [], r, F, _, h => h
  | m :: ms, r, F, hm, h => by
    rw [rwL, List.length_cons, show r + (ms.length + 1) = r + 1 + ms.length by omega]
    refine rwL_rep ms (r + 1) _ (fun i hi => ?_) ?_
    · have := hm (i + 1) (by simpa using hi)
      rw [List.getD_cons_succ] at this
      rw [this, show r + (i + 1) = r + 1 + i by omega]
    · have h0 := hm 0 (by simp)
      simp only [List.getD_cons_zero, Nat.add_zero] at h0
      cases e : zz m
      · rw [if_neg (by simp)]
        refine ⟨by rw [upd_len]; exact h.1, fun j hj => ?_⟩
        rw [upd_get _ _ _ _ (by rw [h.1]; exact hj), h.2 j hj, h0]
        rfl
      · rw [if_pos rfl]
        refine ⟨h.1, fun j hj => ?_⟩
        rw [h.2 j hj]
        show _ = if j = scG p r l l.length then zadd (rwG k n l v p col f r j) (zmul (mz k (n * r + col)) v) else rwG k n l v p col f r j
        rw [← h0, (zz_iff m).1 e, zadd_0, ite_self]
theorem ga_rows {k : Nat} (hk1 : 1 ≤ k) (hk : k ≤ 20) {l : List Nat} (hl : (l.length : Int) = (rw' (k : Int)).q) (p : Nat) : gaG p l l.length < rowsN k := by
  have h := gaG_pow p l l.length
  have hq := q_rows ⟨k, by omega⟩ hk1
  dsimp only at hq
  rcases rowsN_is k with e | e | e
  · have := hq.1 e; rw [show l.length = 1 by omega] at h ⊢; rw [e]; exact h
  · have := hq.2.1 e; rw [show l.length = 2 by omega] at h ⊢; rw [e]; exact h
  · have := hq.2.2 e; rw [show l.length = 3 by omega] at h ⊢; rw [e]; exact h
theorem plL_rep {S k : Nat} (hk1 : 1 ≤ k) (hk : k ≤ 20) {l : List Nat} (hl : (l.length : Int) = (rw' (k : Int)).q) {V : Nat → Int × Int} : ∀ (vs : List (Int × Int)) (p : Nat) (F : List (Int × Int)), (∀ i, i < vs.length → vs.getD i (0, 0) = V (p + i)) → Rep S F (plG k (rowsN k) l V p) → Rep S (plL k l vs p F) (plG k (rowsN k) l V (p + vs.length))
  | [], p, F, _, h => h
  | v :: vs, p, F, hv, h => by
    rw [plL, List.length_cons, show p + (vs.length + 1) = p + 1 + vs.length by omega]
    refine plL_rep hk1 hk hl vs (p + 1) _ (fun i hi => ?_) ?_
    · have := hv (i + 1) (by simpa using hi)
      rw [List.getD_cons_succ] at this
      rw [this, show p + (i + 1) = p + 1 + i by omega]
    · have h0 := hv 0 (by simp)
      simp only [List.getD_cons_zero, Nat.add_zero] at h0
      rw [plG]
      cases e : zz v
      · have hne : ¬ V p = (0, 0) := fun h => by rw [← h0, ← zz_iff, e] at h; cases h
        rw [if_neg (by simp), if_neg hne]
        have hga := ga_rows hk1 hk hl p
        have h8 : rowsN k ≤ 8 := by rcases rowsN_is k with e | e | e <;> omega
        have hlen := colT_len ⟨k, by omega⟩ hk1 ⟨gaG p l l.length, by omega⟩ hga
        dsimp only at hlen
        have := rwL_rep (S := S) (k := k) (n := rowsN k) (l := l) (v := v) (p := p) (col := gaG p l l.length) (f := plG k (rowsN k) l V p) ((colT.getD k []).getD (gaG p l l.length) []) 0 F (fun i hi => by
          rw [hlen] at hi
          have := colT_ok ⟨k, by omega⟩ hk1 ⟨gaG p l l.length, by omega⟩ ⟨i, by omega⟩ hga hi
          dsimp only at this
          rw [this, Nat.zero_add]) h
        rw [hlen, Nat.zero_add] at this
        rw [h0] at this ⊢
        exact this
      · rw [if_pos rfl, if_pos (by rw [← h0]; exact (zz_iff v).1 e)]
        exact h
def nul (S : Nat) : List (Int × Int) := List.replicate S (0, 0)
theorem nul_rep (S : Nat) : Rep S (nul S) (fun _ => (0, 0)) := ⟨by simp [nul], fun j hj => by simp [nul, List.getD_eq_getElem?_getD, hj]⟩
def actL (S k : Nat) (l : List Nat) (V : List (Int × Int)) : List (Int × Int) := plL k l V 0 (nul S)
theorem actL_rep {S k : Nat} (hk1 : 1 ≤ k) (hk : k ≤ 20) {l : List Nat} (hl : (l.length : Int) = (rw' (k : Int)).q) {V : List (Int × Int)} {f : Nat → Int × Int} (h : Rep S V f) : Rep S (actL S k l V) (plG k (rowsN k) l f S) := by
  have := plL_rep (S := S) hk1 hk hl (V := f) V 0 (nul S) (fun i hi => by rw [Nat.zero_add]; exact h.2 i (by rw [← h.1]; exact hi)) (nul_rep S)
  rw [h.1, Nat.zero_add] at this
  exact this
def basL (S c : Nat) : List (Int × Int) := upd (nul S) c (1, 0)
theorem bas_rep (S c : Nat) : Rep S (basL S c) (bas c) := by
  refine ⟨by rw [basL, upd_len]; exact (nul_rep S).1, fun j hj => ?_⟩
  rw [basL, upd_get _ _ _ _ (by rw [(nul_rep S).1]; exact hj), (nul_rep S).2 j hj]
  rfl
def eqL : List (Int × Int) → List (Int × Int) → Bool
  | [], [] => true
  | a :: r, b :: s => a.1 == b.1 && a.2 == b.2 && eqL r s
  | _, _ => false
theorem eqL_iff : ∀ (F G : List (Int × Int)), eqL F G = true ↔ F = G
  | [], [] => by simp [eqL]
  | [], b :: s => by simp [eqL]
  | a :: r, [] => by simp [eqL]
  | a :: r, b :: s => by
    rw [eqL, Bool.and_eq_true, Bool.and_eq_true, beq_iff_eq, beq_iff_eq, eqL_iff r s, List.cons.injEq, Prod.ext_iff]
theorem rep_eq {S : Nat} {F G : List (Int × Int)} {f g : Nat → Int × Int} (hf : Rep S F f) (hg : Rep S G g) : eqB f g S = eqL F G := by
  rw [Bool.eq_iff_iff, eqB_iff, eqL_iff]
  constructor
  · intro h
    refine List.ext_getElem (by rw [hf.1, hg.1]) (fun j h1 h2 => ?_)
    have a := hf.2 j (by rw [← hf.1]; exact h1)
    have b := hg.2 j (by rw [← hg.1]; exact h2)
    rw [List.getD_eq_getElem?_getD, List.getElem?_eq_getElem h1] at a
    rw [List.getD_eq_getElem?_getD, List.getElem?_eq_getElem h2] at b
    simp only [Option.getD_some] at a b
    rw [a, b]
    exact h j (by rw [← hf.1]; exact h1)
  · rintro rfl j hj
    rw [← hf.2 j hj, ← hg.2 j hj]
def alkL (S k : Nat) (l : List Nat) (k' : Nat) (l' : List Nat) : Nat → Nat → Bool
  | 0, _ => true
  | m + 1, c => eqL (actL S k l (actL S k' l' (basL S c))) (actL S k' l' (actL S k l (basL S c))) && alkL S k l k' l' m (c + 1)
theorem alkL_eq {S k k' : Nat} (hk1 : 1 ≤ k) (hk : k ≤ 20) (hk1' : 1 ≤ k') (hk' : k' ≤ 20) {l l' : List Nat} (hl : (l.length : Int) = (rw' (k : Int)).q) (hl' : (l'.length : Int) = (rw' (k' : Int)).q) : ∀ m c, alkG S k (rowsN k) l k' (rowsN k') l' m c = alkL S k l k' l' m c
  | 0, _ => rfl
  | m + 1, c => by
    rw [alkG, alkL, alkL_eq hk1 hk hk1' hk' hl hl' m (c + 1), colP]
    rw [rep_eq (actL_rep hk1 hk hl (actL_rep hk1' hk' hl' (bas_rep S c))) (actL_rep hk1' hk' hl' (actL_rep hk1 hk hl (bas_rep S c)))]
end Go.Proofs.YtnhdgellckcnbaaDoor.Gt
/- The words of one qubit: the search as a table. -/
namespace Go.Proofs.YtnhdgellckcnbaaDoor.Gt
abbrev M4 := List (Int × Int)
/-- The kinds of one qubit, in halves. -/
def LT : List M4 := [[],
  [(2, 0), (0, 0), (0, 0), (2, 0)],
  [(0, 0), (2, 0), (2, 0), (0, 0)],
  [(0, 0), (0, -2), (0, 2), (0, 0)],
  [(2, 0), (0, 0), (0, 0), (-2, 0)],
  [(2, 0), (0, 0), (0, 0), (0, 2)],
  [(2, 0), (0, 0), (0, 0), (0, -2)],
  [(1, 1), (1, -1), (1, -1), (1, 1)],
  [(1, -1), (1, 1), (1, 1), (1, -1)],
  [(1, 1), (-1, -1), (1, 1), (1, 1)],
  [(1, -1), (1, -1), (-1, 1), (1, -1)]]
/-- All words, as they are found. -/
def WT : List (List Nat × M4) := [
  ([], [(2, 0), (0, 0), (0, 0), (2, 0)]),
  ([2], [(0, 0), (2, 0), (2, 0), (0, 0)]),
  ([3], [(0, 0), (0, -2), (0, 2), (0, 0)]),
  ([4], [(2, 0), (0, 0), (0, 0), (-2, 0)]),
  ([5], [(2, 0), (0, 0), (0, 0), (0, 2)]),
  ([6], [(2, 0), (0, 0), (0, 0), (0, -2)]),
  ([7], [(1, 1), (1, -1), (1, -1), (1, 1)]),
  ([8], [(1, -1), (1, 1), (1, 1), (1, -1)]),
  ([9], [(1, 1), (-1, -1), (1, 1), (1, 1)]),
  ([10], [(1, -1), (1, -1), (-1, 1), (1, -1)]),
  ([2, 3], [(0, -2), (0, 0), (0, 0), (0, 2)]),
  ([2, 4], [(0, 0), (2, 0), (-2, 0), (0, 0)]),
  ([2, 5], [(0, 0), (2, 0), (0, 2), (0, 0)]),
  ([2, 6], [(0, 0), (2, 0), (0, -2), (0, 0)]),
  ([2, 9], [(-1, -1), (1, 1), (1, 1), (1, 1)]),
  ([2, 10], [(1, -1), (1, -1), (1, -1), (-1, 1)]),
  ([3, 2], [(0, 2), (0, 0), (0, 0), (0, -2)]),
  ([3, 4], [(0, 0), (0, -2), (0, -2), (0, 0)]),
  ([3, 5], [(0, 0), (0, -2), (-2, 0), (0, 0)]),
  ([3, 6], [(0, 0), (0, -2), (2, 0), (0, 0)]),
  ([3, 7], [(1, 1), (1, -1), (-1, 1), (-1, -1)]),
  ([3, 8], [(-1, 1), (-1, -1), (1, 1), (1, -1)]),
  ([4, 2], [(0, 0), (-2, 0), (2, 0), (0, 0)]),
  ([4, 3], [(0, 0), (0, 2), (0, 2), (0, 0)]),
  ([4, 7], [(1, 1), (-1, 1), (1, -1), (-1, -1)]),
  ([4, 8], [(1, -1), (-1, -1), (1, 1), (-1, 1)]),
  ([4, 9], [(1, 1), (1, 1), (1, 1), (-1, -1)]),
  ([4, 10], [(1, -1), (-1, 1), (-1, 1), (-1, 1)]),
  ([5, 2], [(0, 0), (0, 2), (2, 0), (0, 0)]),
  ([5, 7], [(1, 1), (1, 1), (1, -1), (-1, 1)]),
  ([5, 8], [(1, -1), (-1, 1), (1, 1), (1, 1)]),
  ([5, 9], [(1, 1), (1, -1), (1, 1), (-1, 1)]),
  ([5, 10], [(1, -1), (1, 1), (-1, 1), (1, 1)]),
  ([6, 3], [(0, 0), (-2, 0), (0, 2), (0, 0)]),
  ([6, 7], [(1, 1), (-1, -1), (1, -1), (1, -1)]),
  ([6, 8], [(1, -1), (1, -1), (1, 1), (-1, -1)]),
  ([6, 9], [(1, 1), (-1, 1), (1, 1), (1, -1)]),
  ([6, 10], [(1, -1), (-1, -1), (-1, 1), (-1, -1)]),
  ([7, 3], [(-1, -1), (1, -1), (-1, 1), (1, 1)]),
  ([7, 6], [(1, 1), (1, -1), (-1, -1), (1, -1)]),
  ([7, 9], [(-1, 1), (1, -1), (1, 1), (1, 1)]),
  ([7, 10], [(1, -1), (1, -1), (-1, -1), (1, 1)]),
  ([8, 4], [(1, -1), (1, 1), (-1, -1), (-1, 1)]),
  ([8, 6], [(1, -1), (1, 1), (1, -1), (-1, -1)]),
  ([9, 4], [(1, 1), (-1, -1), (-1, -1), (-1, -1)]),
  ([9, 5], [(1, 1), (-1, -1), (-1, 1), (-1, 1)]),
  ([10, 2], [(-1, 1), (1, -1), (1, -1), (1, -1)]),
  ([10, 8], [(-1, -1), (1, -1), (1, 1), (1, -1)]),
  ([2, 3, 2], [(0, 0), (0, 2), (0, -2), (0, 0)]),
  ([2, 3, 4], [(0, -2), (0, 0), (0, 0), (0, -2)]),
  ([2, 3, 5], [(0, -2), (0, 0), (0, 0), (-2, 0)]),
  ([2, 3, 6], [(0, -2), (0, 0), (0, 0), (2, 0)]),
  ([2, 3, 8], [(-1, -1), (-1, 1), (1, -1), (1, 1)]),
  ([2, 4, 2], [(-2, 0), (0, 0), (0, 0), (2, 0)]),
  ([2, 4, 3], [(0, 2), (0, 0), (0, 0), (0, 2)]),
  ([2, 4, 7], [(-1, 1), (1, 1), (-1, -1), (1, -1)]),
  ([2, 4, 9], [(1, 1), (1, 1), (-1, -1), (1, 1)]),
  ([2, 4, 10], [(-1, 1), (1, -1), (-1, 1), (-1, 1)]),
  ([2, 5, 2], [(0, 2), (0, 0), (0, 0), (2, 0)]),
  ([2, 5, 7], [(1, 1), (1, 1), (-1, 1), (1, -1)]),
  ([2, 6, 3], [(-2, 0), (0, 0), (0, 0), (0, 2)]),
  ([2, 6, 7], [(-1, -1), (1, 1), (1, -1), (1, -1)]),
  ([2, 6, 9], [(-1, 1), (1, 1), (1, -1), (1, 1)]),
  ([2, 6, 10], [(-1, -1), (1, -1), (-1, -1), (-1, 1)]),
  ([2, 9, 4], [(-1, -1), (1, 1), (-1, -1), (-1, -1)]),
  ([2, 9, 5], [(-1, -1), (1, 1), (-1, 1), (-1, 1)]),
  ([2, 10, 2], [(1, -1), (-1, 1), (1, -1), (1, -1)]),
  ([2, 10, 8], [(1, -1), (-1, -1), (1, -1), (1, 1)]),
  ([3, 2, 3], [(0, 0), (-2, 0), (-2, 0), (0, 0)]),
  ([3, 2, 6], [(0, 2), (0, 0), (0, 0), (-2, 0)]),
  ([3, 2, 9], [(-1, 1), (-1, 1), (-1, 1), (1, -1)]),
  ([3, 4, 7], [(-1, -1), (1, -1), (1, -1), (-1, -1)]),
  ([3, 4, 8], [(1, -1), (-1, -1), (-1, -1), (1, -1)]),
  ([3, 4, 10], [(-1, -1), (-1, -1), (-1, -1), (1, 1)]),
  ([3, 5, 2], [(-2, 0), (0, 0), (0, 0), (0, -2)]),
  ([3, 5, 7], [(-1, 1), (1, -1), (-1, -1), (-1, -1)]),
  ([3, 5, 8], [(-1, -1), (-1, -1), (-1, 1), (1, -1)]),
  ([3, 5, 10], [(-1, 1), (-1, -1), (-1, 1), (1, 1)]),
  ([3, 7, 3], [(1, 1), (-1, 1), (-1, 1), (1, 1)]),
  ([3, 8, 4], [(-1, 1), (-1, -1), (-1, -1), (-1, 1)]),
  ([3, 8, 6], [(-1, 1), (-1, -1), (1, -1), (-1, -1)]),
  ([4, 2, 6], [(0, 0), (-2, 0), (0, -2), (0, 0)]),
  ([4, 2, 9], [(-1, -1), (-1, -1), (1, 1), (-1, -1)]),
  ([4, 3, 5], [(0, 0), (0, 2), (-2, 0), (0, 0)]),
  ([4, 3, 8], [(-1, 1), (1, 1), (1, 1), (-1, 1)]),
  ([4, 7, 3], [(-1, -1), (-1, 1), (-1, 1), (-1, -1)]),
  ([4, 7, 6], [(1, 1), (-1, 1), (-1, -1), (-1, 1)]),
  ([4, 7, 9], [(-1, 1), (-1, 1), (1, 1), (-1, -1)]),
  ([4, 7, 10], [(1, -1), (-1, 1), (-1, -1), (-1, -1)]),
  ([4, 10, 2], [(-1, 1), (-1, 1), (1, -1), (-1, 1)]),
  ([4, 10, 8], [(-1, -1), (-1, 1), (1, 1), (-1, 1)]),
  ([2, 3, 2, 3], [(-2, 0), (0, 0), (0, 0), (-2, 0)]),
  ([2, 3, 5, 8], [(-1, -1), (-1, -1), (1, -1), (-1, 1)]),
  ([2, 3, 8, 6], [(-1, -1), (-1, 1), (-1, -1), (1, -1)]),
  ([2, 4, 7, 6], [(-1, 1), (1, 1), (-1, 1), (-1, -1)]),
  ([2, 4, 7, 9], [(-1, 1), (-1, 1), (-1, -1), (1, 1)])]
/-- How many there are, behind so many letters of each. -/
def CT : List (List Nat) := [
  [1, 1, 2, 3, 4, 5, 6, 7, 8, 9, 10],
  [10, 10, 10, 11, 12, 13, 14, 14, 14, 15, 16],
  [16, 16, 17, 17, 18, 19, 20, 21, 22, 22, 22],
  [22, 22, 23, 24, 24, 24, 24, 25, 26, 27, 28],
  [28, 28, 29, 29, 29, 29, 29, 30, 31, 32, 33],
  [33, 33, 33, 34, 34, 34, 34, 35, 36, 37, 38],
  [38, 38, 38, 39, 39, 39, 40, 40, 40, 41, 42],
  [42, 42, 42, 42, 43, 43, 44, 44, 44, 44, 44],
  [44, 44, 44, 44, 45, 46, 46, 46, 46, 46, 46],
  [46, 46, 47, 47, 47, 47, 47, 47, 48, 48, 48],
  [48, 48, 49, 49, 50, 51, 52, 52, 53, 53, 53],
  [53, 53, 54, 55, 55, 55, 55, 56, 56, 57, 58],
  [58, 58, 59, 59, 59, 59, 59, 60, 60, 60, 60],
  [60, 60, 60, 61, 61, 61, 61, 62, 62, 63, 64],
  [64, 64, 64, 64, 65, 66, 66, 66, 66, 66, 66],
  [66, 66, 67, 67, 67, 67, 67, 67, 68, 68, 68],
  [68, 68, 68, 69, 69, 69, 70, 70, 70, 71, 71],
  [71, 71, 71, 71, 71, 71, 71, 72, 73, 73, 74],
  [74, 74, 75, 75, 75, 75, 75, 76, 77, 77, 78],
  [78, 78, 78, 78, 78, 78, 78, 78, 78, 78, 78],
  [78, 78, 78, 79, 79, 79, 79, 79, 79, 79, 79],
  [79, 79, 79, 79, 80, 80, 81, 81, 81, 81, 81],
  [81, 81, 81, 81, 81, 81, 82, 82, 82, 83, 83],
  [83, 83, 83, 83, 83, 84, 84, 84, 85, 85, 85],
  [85, 85, 85, 86, 86, 86, 87, 87, 87, 88, 89],
  [89, 89, 89, 89, 89, 89, 89, 89, 89, 89, 89],
  [89, 89, 89, 89, 89, 89, 89, 89, 89, 89, 89],
  [89, 89, 90, 90, 90, 90, 90, 90, 91, 91, 91],
  [91, 91, 91, 91, 91, 91, 91, 91, 91, 91, 91],
  [91, 91, 91, 91, 91, 91, 91, 91, 91, 91, 91],
  [91, 91, 91, 91, 91, 91, 91, 91, 91, 91, 91],
  [91, 91, 91, 91, 91, 91, 91, 91, 91, 91, 91],
  [91, 91, 91, 91, 91, 91, 91, 91, 91, 91, 91],
  [91, 91, 91, 91, 91, 91, 91, 91, 91, 91, 91],
  [91, 91, 91, 91, 91, 91, 91, 91, 91, 91, 91],
  [91, 91, 91, 91, 91, 91, 91, 91, 91, 91, 91],
  [91, 91, 91, 91, 91, 91, 91, 91, 91, 91, 91],
  [91, 91, 91, 91, 91, 91, 91, 91, 91, 91, 91],
  [91, 91, 91, 91, 91, 91, 91, 91, 91, 91, 91],
  [91, 91, 91, 91, 91, 91, 91, 91, 91, 91, 91],
  [91, 91, 91, 91, 91, 91, 91, 91, 91, 91, 91],
  [91, 91, 91, 91, 91, 91, 91, 91, 91, 91, 91],
  [91, 91, 91, 91, 91, 91, 91, 91, 91, 91, 91],
  [91, 91, 91, 91, 91, 91, 91, 91, 91, 91, 91],
  [91, 91, 91, 91, 91, 91, 91, 91, 91, 91, 91],
  [91, 91, 91, 91, 91, 91, 91, 91, 91, 91, 91],
  [91, 91, 91, 91, 91, 91, 91, 91, 91, 91, 91],
  [91, 91, 91, 91, 91, 91, 91, 91, 91, 91, 91],
  [91, 91, 91, 92, 92, 92, 92, 92, 92, 92, 92],
  [92, 92, 92, 92, 92, 92, 92, 92, 92, 92, 92],
  [92, 92, 92, 92, 92, 92, 92, 92, 93, 93, 93],
  [93, 93, 93, 93, 93, 93, 93, 93, 93, 93, 93],
  [93, 93, 93, 93, 93, 93, 94, 94, 94, 94, 94],
  [94, 94, 94, 94, 94, 94, 94, 94, 94, 94, 94],
  [94, 94, 94, 94, 94, 94, 94, 94, 94, 94, 94],
  [94, 94, 94, 94, 94, 94, 95, 95, 95, 96, 96],
  [96, 96, 96, 96, 96, 96, 96, 96, 96, 96, 96],
  [96, 96, 96, 96, 96, 96, 96, 96, 96, 96, 96],
  [96, 96, 96, 96, 96, 96, 96, 96, 96, 96, 96],
  [96, 96, 96, 96, 96, 96, 96, 96, 96, 96, 96],
  [96, 96, 96, 96, 96, 96, 96, 96, 96, 96, 96],
  [96, 96, 96, 96, 96, 96, 96, 96, 96, 96, 96],
  [96, 96, 96, 96, 96, 96, 96, 96, 96, 96, 96],
  [96, 96, 96, 96, 96, 96, 96, 96, 96, 96, 96],
  [96, 96, 96, 96, 96, 96, 96, 96, 96, 96, 96],
  [96, 96, 96, 96, 96, 96, 96, 96, 96, 96, 96],
  [96, 96, 96, 96, 96, 96, 96, 96, 96, 96, 96],
  [96, 96, 96, 96, 96, 96, 96, 96, 96, 96, 96],
  [96, 96, 96, 96, 96, 96, 96, 96, 96, 96, 96],
  [96, 96, 96, 96, 96, 96, 96, 96, 96, 96, 96],
  [96, 96, 96, 96, 96, 96, 96, 96, 96, 96, 96],
  [96, 96, 96, 96, 96, 96, 96, 96, 96, 96, 96],
  [96, 96, 96, 96, 96, 96, 96, 96, 96, 96, 96],
  [96, 96, 96, 96, 96, 96, 96, 96, 96, 96, 96],
  [96, 96, 96, 96, 96, 96, 96, 96, 96, 96, 96],
  [96, 96, 96, 96, 96, 96, 96, 96, 96, 96, 96],
  [96, 96, 96, 96, 96, 96, 96, 96, 96, 96, 96],
  [96, 96, 96, 96, 96, 96, 96, 96, 96, 96, 96],
  [96, 96, 96, 96, 96, 96, 96, 96, 96, 96, 96],
  [96, 96, 96, 96, 96, 96, 96, 96, 96, 96, 96],
  [96, 96, 96, 96, 96, 96, 96, 96, 96, 96, 96],
  [96, 96, 96, 96, 96, 96, 96, 96, 96, 96, 96],
  [96, 96, 96, 96, 96, 96, 96, 96, 96, 96, 96],
  [96, 96, 96, 96, 96, 96, 96, 96, 96, 96, 96],
  [96, 96, 96, 96, 96, 96, 96, 96, 96, 96, 96],
  [96, 96, 96, 96, 96, 96, 96, 96, 96, 96, 96],
  [96, 96, 96, 96, 96, 96, 96, 96, 96, 96, 96],
  [96, 96, 96, 96, 96, 96, 96, 96, 96, 96, 96],
  [96, 96, 96, 96, 96, 96, 96, 96, 96, 96, 96],
  [96, 96, 96, 96, 96, 96, 96, 96, 96, 96, 96],
  [96, 96, 96, 96, 96, 96, 96, 96, 96, 96, 96],
  [96, 96, 96, 96, 96, 96, 96, 96, 96, 96, 96],
  [96, 96, 96, 96, 96, 96, 96, 96, 96, 96, 96],
  [96, 96, 96, 96, 96, 96, 96, 96, 96, 96, 96],
  [96, 96, 96, 96, 96, 96, 96, 96, 96, 96, 96],
  [96, 96, 96, 96, 96, 96, 96, 96, 96, 96, 96]]
def at4 (m : M4) (j : Nat) : Int × Int := m.getD j (0, 0)
def hz (z : Int × Int) : Int × Int := (z.1 / 2, z.2 / 2)
/-- A letter behind a word. -/
def prM (m x : M4) : M4 := [hz (dotS 2 (at4 m) (at4 x) 0 0 2), hz (dotS 2 (at4 m) (at4 x) 0 1 2), hz (dotS 2 (at4 m) (at4 x) 1 0 2), hz (dotS 2 (at4 m) (at4 x) 1 1 2)]
def wt (i : Nat) : List Nat × M4 := WT.getD i ([], [])
def lt (k : Nat) : M4 := LT.getD k []
def ct (i t : Nat) : Nat := (CT.getD i []).getD t 0
/-- Is it among the first? -/
def conB (n : Nat) (m : M4) : Bool := (WT.take n).any fun x => eqL x.2 m
def evB (m x : M4) : Bool := [(0, 0), (0, 1), (1, 0), (1, 1)].all fun q => let z := dotS 2 (at4 m) (at4 x) q.1 q.2 2; z.1 % 2 == 0 && z.2 % 2 == 0
def stepB (i t : Nat) : Bool :=
  let m := prM (lt (t + 1)) (wt i).2
  evB (lt (t + 1)) (wt i).2 && (if conB (ct i t) m then ct i (t + 1) == ct i t else (match WT[ct i t]? with
    | some x => x.1 == (wt i).1 ++ [t + 1] && eqL x.2 m && (ct i (t + 1) == ct i t + 1)
    | none => false)) && (List.range 96).any fun j => eqL (wt j).2 m && Nat.ble (wt j).1.length ((wt i).1.length + 1)
def stepsB : Bool := (List.range 96).all fun i => (List.range 10).all fun t => stepB i t
set_option maxRecDepth 100000 in
theorem steps_ok : stepsB = true := by decide +kernel
def fo (ks : List Nat) : M4 := ks.foldl (fun x k => prM (lt k) x) (lt 1)
def rowB (i : Nat) : Bool := eqL (fo (wt i).1) (wt i).2 && (wt i).1.all (fun k => Nat.ble 1 k && Nat.ble k 10) && Nat.ble (wt i).1.length 4 && ((wt i).2.length == 4) && (wt i).2.all (fun z => Nat.ble z.1.natAbs 2 && Nat.ble z.2.natAbs 2) && Nat.blt i (ct i 0) && Nat.ble (ct i 10) 96 && (Nat.beq i 95 || (ct (i + 1) 0 == ct i 10)) && (List.range i).all fun j => !eqL (wt j).2 (wt i).2
set_option maxRecDepth 100000 in
theorem rows_ok : ((List.range 96).all rowB && (ct 0 0 == 1) && ((wt 0).1 == []) && eqL (wt 0).2 (lt 1) && (WT.length == 96)) = true := by decide +kernel
theorem lt_mz : ∀ (k : Fin 11) (j : Fin 4), 1 ≤ k.1 → at4 (lt k.1) j.1 = mz k.1 j.1 := by decide +kernel
end Go.Proofs.YtnhdgellckcnbaaDoor.Gt
/- Words in memory; ContainsFunc, Clone. -/
namespace Go.Proofs.YtnhdgellckcnbaaDoor.Gt
open Go.RowKit Go.Proofs.YtnhdgellckcnbaaDoor.Oct Go.Proofs.YtnhdgellckcnbaaDoor.Dy

/-- A word as it lies: its kinds, what it is, where its kinds and its matrix lie. -/
structure Wx where
  ks : List Nat
  z : M4
  ao : Option Addr
  c : Nat
  gm : Nat
  f : Nat → Nat × Nat
def Wx.cells (x : Wx) : List Value := [.slice x.ao x.ks.length x.c, .int .i64 2, .slice (some ⟨x.gm, 0, none⟩) 4 4]
/-- Kinds in a row. -/
def Kr (w : World) (ao : Option Addr) (c : Nat) (ks : List Nat) : Prop := (ks = [] ∧ ao = none ∧ c = 0) ∨ ∃ gk, ao = some ⟨gk, 0, none⟩ ∧ ks ≠ [] ∧ Rk w gk 22 ks.length (fun j => .int .i64 ((ks.getD j 0 : Nat) : Int))
structure Wxd (w : World) (x : Wx) : Prop where
  row : Kr w x.ao x.c x.ks
  mat : Rk w x.gm 34 4 (fun j => cx (x.f j))
  val : ∀ j, j < 4 → Cx (x.f j) (at4 x.z j) (-1)
  small : ∀ j, j < 4 → zle (at4 x.z j) 2
  len : x.z.length = 4
theorem Kr.below {w w' : World} {ao : Option Addr} {c : Nat} {ks : List Nat} (h : Kr w ao c ks) (hb : Below w.heap.size w w') : Kr w' ao c ks := by
  rcases h with h | ⟨gk, h1, h2, h3⟩
  · exact .inl h
  · exact .inr ⟨gk, h1, h2, h3.below hb⟩
theorem Wxd.below {w w' : World} {x : Wx} (h : Wxd w x) (hb : Below w.heap.size w w') : Wxd w' x := ⟨h.row.below hb, h.mat.below hb, h.val, h.small, h.len⟩
theorem Wxd.grown {w w' : World} {x : Wx} {B n c : Nat} {ao : Option Addr} {xs : List Value} (h : Wxd w x) (ho : w.ownsRow B 84 3 (.slice ao n c) n xs) (hg : w.grownBy w' (ob ao)) : Wxd w' x := by
  refine ⟨?_, h.mat.grown hg (own_ne ho h.mat (by decide)), h.val, h.small, h.len⟩
  rcases h.row with h1 | ⟨gk, h1, h2, h3⟩
  · exact .inl h1
  · exact .inr ⟨gk, h1, h2, h3.grown hg (own_ne ho h3 (by decide))⟩
theorem flatX : ∀ (ws : List Wx) (i : Nat) (x : Wx), ws[i]? = some x → ∀ (j : Nat) (v : Value), x.cells[j]? = some v → (ws.flatMap Wx.cells)[i * 3 + j]? = some v
  | [], i, x, h, _, _, _ => by simp at h
  | y :: r, 0, x, h, j, v, hv => by
    simp at h
    subst h
    rw [List.flatMap_cons, Nat.zero_mul, Nat.zero_add, List.getElem?_append_left ((List.getElem?_eq_some_iff.1 hv).1)]
    exact hv
  | y :: r, i + 1, x, h, j, v, hv => by
    have hl : y.cells.length = 3 := rfl
    rw [List.flatMap_cons, List.getElem?_append_right (by omega), hl, show (i + 1) * 3 + j - 3 = i * 3 + j by omega]
    exact flatX r i x (by simpa using h) j v hv
theorem own_wx {w : World} {B g n c : Nat} {ws : List Wx} (h : w.ownsRow B 84 3 (.slice (some ⟨g, 0, none⟩) n c) n (ws.flatMap Wx.cells)) (i : Nat) (x : Wx) (hx : ws[i]? = some x) (j : Nat) (v : Value) (hv : x.cells[j]? = some v) : w.cell? ⟨g, i * 3 + j, none⟩ = some v := by
  have hc := h.cells (g := g) (by rw [ob_eq]; rfl) (i * 3 + j) v (flatX ws i x hx j v hv)
  rw [Addr.add_lit, Nat.zero_add] at hc
  exact hc
theorem eq4 {x y : M4} (hx : x.length = 4) (hy : y.length = 4) : eqB (at4 x) (at4 y) 4 = eqL x y := rep_eq ⟨hx, fun _ _ => rfl⟩ ⟨hy, fun _ _ => rfl⟩
set_option maxRecDepth 100000 in
theorem gWord1 (x y : Wx) (gn : Nat) (w : World) (hx : Wxd w x) (hy : Wxd w y) (hn : w.heap[gn]? = some (.cells #[.slice y.ao y.ks.length y.c, .int .i64 2, .slice (some ⟨y.gm, 0, none⟩) 4 4] 84)) :
    Calls Tryd.prog 59 #[.agg #[.slice x.ao x.ks.length x.c, .int .i64 2, .slice (some ⟨x.gm, 0, none⟩) 4 4], .pointer (some ⟨gn, 0, none⟩)] w fun e w' => e = .returned (.bool (eqL x.z y.z)) ∧ Below w.heap.size w w' := by
  have b0 := below_new w (.cells #[.slice x.ao x.ks.length x.c, .int .i64 2, .slice (some ⟨x.gm, 0, none⟩) 4 4] 84)
  have cE := gEqual 2 2 x.gm y.gm 4 (at4 x.z) (at4 y.z) x.f y.f (-1) (by decide) (by decide) (by decide) _ (hx.mat.below b0) (hy.mat.below b0) hx.val hy.val (fun j hj => zle_mono (hx.small j hj) (by decide)) (fun j hj => zle_mono (hy.small j hj) (by decide))
  rw [eq4 hx.len hy.len] at cE
  have hn1 := (b0.block gn (Array.getElem?_eq_some_iff.1 hn).1).trans hn
  have k1 := cell_of_row _ _ 1 _ _ _ hn1
  have k2 := cell_of_row _ _ 2 _ _ _ hn1
  simp only [List.getElem?_toArray, List.getElem?_cons_succ, List.getElem?_cons_zero] at k1 k2
  generalize eqL x.z y.z = R at *
  clear hx hy hn hn1
  go_enter Tryd.func59, Tryd.ntmps59
  go_wp2_with fail
  refine cE.mono ?_
  rintro e w1 ⟨rfl, q1⟩
  go_wp2_with fail
  go_ret
  exact ⟨rfl, b0.trans (q1.mono b0.size)⟩
/-- Where the first of equal matrices stands. -/
def ixW (z : M4) : List Wx → Nat → Int
  | [], _ => -1
  | x :: r, i => if eqL x.z z = true then (i : Int) else ixW z r (i + 1)
theorem ixW_pos (z : M4) : ∀ (ws : List Wx) (i : Nat), decide (0 ≤ ixW z ws i) = ws.any fun x => eqL x.z z
  | [], i => by simp [ixW]
  | x :: r, i => by
    rw [ixW, List.any_cons]
    cases h : eqL x.z z
    · rw [if_neg (by simp), ixW_pos z r (i + 1), Bool.false_or]
    · rw [if_pos rfl, Bool.true_or]
      exact decide_eq_true (by omega)
set_option maxRecDepth 100000 in
set_option maxHeartbeats 1000000 in
theorem sIndexW (g c B : Nat) (ws : List Wx) (y : Wx) (gn : Nat) (hl : ws.length ≤ 1000) (w : World) (hown : w.ownsRow B 84 3 (.slice (some ⟨g, 0, none⟩) ws.length c) ws.length (ws.flatMap Wx.cells)) (hW : ∀ x ∈ ws, Wxd w x) (hy : Wxd w y) (hn : w.heap[gn]? = some (.cells #[.slice y.ao y.ks.length y.c, .int .i64 2, .slice (some ⟨y.gm, 0, none⟩) 4 4] 84)) :
    Calls Tryd.prog 75 #[.slice (some ⟨g, 0, none⟩) ws.length c, .func (.func 59) #[] #[.pointer (some ⟨gn, 0, none⟩)]] w fun e w' => e = .returned (.int .i64 (ixW y.z ws 0)) ∧ Below w.heap.size w w' := by
  obtain ⟨R, hR⟩ : ∃ R, ixW y.z ws 0 = R := ⟨_, rfl⟩
  rw [hR]
  have HO := hide hown
  have HW := hide hW
  have HY := hide hy
  have HN := hide hn
  obtain ⟨n, hnn⟩ : ∃ n, ws.length = n := ⟨_, rfl⟩
  have HL := hide hnn
  have HS : Hid (R = ixW y.z (ws.drop 0) 0) := hide (by rw [List.drop_zero, hR])
  rw [hnn] at hl ⊢
  clear hown hW hy hn hnn hR
  go_enter Tryd.func75, Tryd.ntmps75
  go_wp2_with fail
  go_loopw [5, 8] (fun _ vi wr => ∃ i : Nat, vi = .int .i64 (i : Int) ∧ i ≤ n ∧ Hid (R = ixW y.z (ws.drop i) i) ∧ Below w.heap.size w wr) (fun _ vi _ => n - (Go.RowKit.intOf vi).toNat)
  case atStart => exact ⟨0, rfl, by omega, HS, Below.refl _ _⟩
  case round =>
    clear HS
    obtain ⟨i, rfl, hi, HS, hb⟩ := hrel
    by_cases h : i < n
    · have hd : decide ((i : Int) < (n : Int)) = true := decide_eq_true (by omega)
      have hlt : i < ws.length := by rw [HL.out]; exact h
      obtain ⟨x, hx⟩ : ∃ x, ws[i]? = some x := ⟨_, List.getElem?_eq_getElem hlt⟩
      have hdr : ws.drop i = x :: ws.drop (i + 1) := by
        rw [List.drop_eq_getElem_cons hlt]
        rw [List.getElem?_eq_getElem hlt] at hx
        rw [Option.some.inj hx]
      have keep : ∀ (p : Nat) (v : Value), w.cell? ⟨g, p, none⟩ = some v → wr.cell? ⟨g, p, none⟩ = some v := fun p v hv => (hb.cell (World.block_lt_of_cell? _ _ hv)).trans hv
      have k0 := keep _ _ (own_wx HO.out i x hx 0 _ rfl)
      have k1 := keep _ _ (own_wx HO.out i x hx 1 _ rfl)
      have k2 := keep _ _ (own_wx HO.out i x hx 2 _ rfl)
      have cC := gWord1 x y gn wr ((HW.out x (List.mem_of_getElem? hx)).below hb) (HY.out.below hb) ((hb.block gn (Array.getElem?_eq_some_iff.1 HN.out).1).trans HN.out)
      rw [Nat.add_zero] at k0
      have HS2 : Hid (R = if eqL x.z y.z = true then (i : Int) else ixW y.z (ws.drop (i + 1)) (i + 1)) := hide (by rw [HS.out, hdr, ixW])
      generalize eqL x.z y.z = E at *
      clear HS hdr keep hx
      go_wp2_with fail
      refine cC.mono ?_
      rintro e w1 ⟨rfl, q1⟩
      replace q1 := hb.trans (q1.mono hb.size)
      clear cC k0 k1 k2 hb
      cases E
      · have HF : Hid (R = ixW y.z (ws.drop (i + 1)) (i + 1)) := hide (by rw [HS2.out, if_neg (by simp)])
        clear HS2
        go_wp2_with fail
        exact ⟨⟨i + 1, by go_num, by omega, HF, q1⟩, by simp [Go.RowKit.intOf]; omega⟩
      · have HF : Hid (R = (i : Int)) := hide (by rw [HS2.out, if_pos rfl])
        clear HS2
        go_wp2_with fail
        go_ret
        exact ⟨by rw [HF.out]; rfl, q1⟩
    · have hd : decide ((i : Int) < (n : Int)) = false := decide_eq_false (by omega)
      have HF : Hid (R = -1) := hide (by rw [HS.out, List.drop_of_length_le (by rw [HL.out]; omega)]; rfl)
      clear HS
      go_wp2_with fail
      go_ret
      exact ⟨by rw [HF.out]; rfl, hb⟩
set_option maxRecDepth 100000 in
theorem sContainsW (g c B : Nat) (ws : List Wx) (y : Wx) (gn : Nat) (hl : ws.length ≤ 1000) (w : World) (hown : w.ownsRow B 84 3 (.slice (some ⟨g, 0, none⟩) ws.length c) ws.length (ws.flatMap Wx.cells)) (hW : ∀ x ∈ ws, Wxd w x) (hy : Wxd w y) (hn : w.heap[gn]? = some (.cells #[.slice y.ao y.ks.length y.c, .int .i64 2, .slice (some ⟨y.gm, 0, none⟩) 4 4] 84)) :
    Calls Tryd.prog 58 #[.slice (some ⟨g, 0, none⟩) ws.length c, .func (.func 59) #[] #[.pointer (some ⟨gn, 0, none⟩)]] w fun e w' => e = .returned (.bool (ws.any fun x => eqL x.z y.z)) ∧ Below w.heap.size w w' := by
  have cI := sIndexW g c B ws y gn hl w hown hW hy hn
  rw [← ixW_pos y.z ws 0]
  generalize ixW y.z ws 0 = r at *
  clear hown hW hy hn hl
  go_enter Tryd.func58, Tryd.ntmps58
  go_wp2_with fail
  refine cI.mono ?_
  rintro e w1 ⟨rfl, q1⟩
  go_wp2_with fail
  go_ret
  exact ⟨rfl, q1⟩
theorem kr_own {w : World} {B g c : Nat} {ks : List Nat} (h : w.ownsRow B 22 1 (.slice (some ⟨g, 0, none⟩) ks.length c) ks.length (ks.map fun k => Value.int .i64 ((k : Nat) : Int))) (h0 : ks ≠ []) : Kr w (some ⟨g, 0, none⟩) c ks :=
  .inr ⟨g, rfl, h0, (rk_own h _ (fun i hi => by
    rw [List.getElem?_map, List.getElem?_eq_getElem hi, List.getD_eq_getElem?_getD, List.getElem?_eq_getElem hi]
    rfl)).1⟩
set_option maxRecDepth 100000 in
theorem kClone_nil (w : World) : Calls Tryd.prog 57 #[.slice none 0 0] w fun e w' => e = .returned (.slice none 0 0) ∧ w' = w := by
  have heq := fun a n c w => Lib.run_eql_slice_nil (P := Tryd.prog) w a n c
  go_enter Tryd.func57, Tryd.ntmps57
  go_wp2_with fail
  go_ret
  exact ⟨rfl, rfl⟩
set_option maxRecDepth 100000 in
set_option maxHeartbeats 1000000 in
theorem kClone (gk c : Nat) (ks : List Nat) (hl : ks.length ≤ 1000) (h0 : ks ≠ []) (w : World) (hN : Rk w gk 22 ks.length (fun j => .int .i64 ((ks.getD j 0 : Nat) : Int))) :
    Calls Tryd.prog 57 #[.slice (some ⟨gk, 0, none⟩) ks.length c] w fun e w' => ∃ g c', e = .returned (.slice (some ⟨g, 0, none⟩) ks.length c') ∧ w'.ownsRow w.heap.size 22 1 (.slice (some ⟨g, 0, none⟩) ks.length c') ks.length (ks.map fun k => Value.int .i64 ((k : Nat) : Int)) ∧ Below w.heap.size w w' := by
  obtain ⟨i0, hi, hz0, hz1, hz2⟩ := info_parts infoK
  have heq := fun a n c w => Lib.run_eql_slice_nil (P := Tryd.prog) w a n c
  have hnews : ∀ j u, (ks.map fun k => Value.int .i64 ((k : Nat) : Int))[j]? = some u → (w.alloc (.cells #[] 22)).cell? ((⟨gk, 0, none⟩ : Addr).add j) = some u := by
    intro j u hu
    rw [Addr.add_lit, Nat.zero_add]
    rw [List.getElem?_map] at hu
    obtain ⟨z, hz, rfl⟩ := Option.map_eq_some_iff.1 hu
    have hj := (List.getElem?_eq_some_iff.1 hz).1
    have h1 := hN.cell j hj
    rw [List.getD_eq_getElem?_getD, hz] at h1
    exact ((below_new w _).cell (World.block_lt_of_cell? w _ h1)).trans h1
  have hown : (w.alloc (.cells #[] 22)).ownsRow w.heap.size 22 1 (.slice (some ⟨w.heap.size, 0, none⟩) 0 0) 0 [] := ⟨rfl, .inr ⟨w.heap.size, 0, #[], rfl, Nat.le_refl _, heap_alloc_new _ _, Nat.le_refl _, by decide, rfl, rfl⟩⟩
  have hpos : 0 < ks.length := List.length_pos_iff.2 h0
  obtain ⟨n, hn⟩ : ∃ n, ks.length = n := ⟨_, rfl⟩
  have hml : (ks.map fun k => Value.int .i64 ((k : Nat) : Int)).length = n * 1 := by rw [List.length_map]; omega
  rw [hn] at hl hpos ⊢
  generalize hL : (ks.map fun k => Value.int .i64 ((k : Nat) : Int)) = L at *
  have hone : ∀ u ∈ L, u.oneCell' = true := by
    intro u hu
    rw [← hL] at hu
    obtain ⟨z, _, rfl⟩ := List.mem_map.1 hu
    rfl
  clear hN hn hL h0
  go_enter Tryd.func57, Tryd.ntmps57
  go_wp2_with (at_builtin; refine wpList_append_lies _ rfl _ _ 50 rfl w.heap.size 22 i0 (.int .i64 0) 1 8 Tryd.underlying50 hi hz0 hz1 hz2 rfl (by decide) _ 0 [] rfl hown ⟨gk, 0, none⟩ n c L rfl hml hnews hone hpos (by unfold maxLen; omega) (by omega) (by simp) _ rfl ?_)
  intro g2 cap w2 hown2 hgrow hat hlt
  have hb2 : Below w.heap.size w w2 := (below_new w _).grown hgrow (by simp) (fun q hq => by simp [Value.ownBlock] at hq; omega)
  clear hgrow hat hnews hone hown
  go_wp2_with fail
  go_ret
  exact ⟨g2, cap, rfl, hown2, hb2⟩
end Go.Proofs.YtnhdgellckcnbaaDoor.Gt
/- The table of words, as it is used; equal of matrices with any room. -/
namespace Go.Proofs.YtnhdgellckcnbaaDoor.Gt
open Go.RowKit Go.Proofs.YtnhdgellckcnbaaDoor.Oct Go.Proofs.YtnhdgellckcnbaaDoor.Dy

theorem step_at {i t : Nat} (hi : i < 96) (ht : t < 10) : stepB i t = true := by
  have h := steps_ok
  unfold stepsB at h
  rw [List.all_eq_true] at h
  have h1 := h i (List.mem_range.2 hi)
  rw [List.all_eq_true] at h1
  exact h1 t (List.mem_range.2 ht)
theorem row_at {i : Nat} (hi : i < 96) : rowB i = true := by
  have h := rows_ok
  simp only [Bool.and_eq_true] at h
  exact List.all_eq_true.1 h.1.1.1.1 i (List.mem_range.2 hi)
theorem even_half {a : Int} (h : (a % 2 == 0) = true) : a / 2 * 2 = a := by
  rw [beq_iff_eq] at h
  omega
/-- What one letter does. -/
theorem step_out {i t : Nat} (hi : i < 96) (ht : t < 10) : (∀ j, j < 4 → dotS 2 (at4 (lt (t + 1))) (at4 (wt i).2) (j / 2) (j % 2) 2 = zdbl (at4 (prM (lt (t + 1)) (wt i).2) j)) ∧ (conB (ct i t) (prM (lt (t + 1)) (wt i).2) = true → ct i (t + 1) = ct i t) ∧ (conB (ct i t) (prM (lt (t + 1)) (wt i).2) = false → WT[ct i t]? = some ((wt i).1 ++ [t + 1], prM (lt (t + 1)) (wt i).2) ∧ ct i (t + 1) = ct i t + 1) ∧ ∃ j, j < 96 ∧ (wt j).2 = prM (lt (t + 1)) (wt i).2 ∧ (wt j).1.length ≤ (wt i).1.length + 1 := by
  have h := step_at hi ht
  unfold stepB at h
  simp only [Bool.and_eq_true] at h
  obtain ⟨⟨h1, h2⟩, h3⟩ := h
  refine ⟨fun j hj => ?_, fun hc => ?_, fun hc => ?_, ?_⟩
  · unfold evB at h1
    rw [List.all_eq_true] at h1
    have go : ∀ r c, (r, c) ∈ [(0, 0), (0, 1), (1, 0), (1, 1)] → dotS 2 (at4 (lt (t + 1))) (at4 (wt i).2) r c 2 = zdbl (hz (dotS 2 (at4 (lt (t + 1))) (at4 (wt i).2) r c 2)) := fun r c hm => by
      have := h1 (r, c) hm
      simp only [Bool.and_eq_true] at this
      unfold zdbl hz
      rw [even_half this.1, even_half this.2]
    rcases (by omega : j = 0 ∨ j = 1 ∨ j = 2 ∨ j = 3) with rfl | rfl | rfl | rfl
    · exact go 0 0 (by simp)
    · exact go 0 1 (by simp)
    · exact go 1 0 (by simp)
    · exact go 1 1 (by simp)
  · rw [hc] at h2
    simpa using h2
  · rw [hc] at h2
    simp only [Bool.false_eq_true, if_false] at h2
    cases hw : WT[ct i t]? with
    | none => rw [hw] at h2; cases h2
    | some x =>
      rw [hw] at h2
      simp only [Bool.and_eq_true, beq_iff_eq, eqL_iff] at h2
      refine ⟨?_, h2.2⟩
      rw [← h2.1.1, ← h2.1.2]
  · rw [List.any_eq_true] at h3
    obtain ⟨j, hj, hb⟩ := h3
    rw [Bool.and_eq_true, eqL_iff] at hb
    exact ⟨j, List.mem_range.1 hj, hb.1, Nat.le_of_ble_eq_true hb.2⟩
theorem row_out {i : Nat} (hi : i < 96) : fo (wt i).1 = (wt i).2 ∧ (∀ k ∈ (wt i).1, 1 ≤ k ∧ k ≤ 10) ∧ (wt i).1.length ≤ 4 ∧ (wt i).2.length = 4 ∧ (∀ z ∈ (wt i).2, zle z 2) ∧ i < ct i 0 ∧ ct i 10 ≤ 96 ∧ (i < 95 → ct (i + 1) 0 = ct i 10) ∧ ∀ j, j < i → (wt j).2 ≠ (wt i).2 := by
  have h := row_at hi
  unfold rowB at h
  simp only [Bool.and_eq_true] at h
  obtain ⟨⟨⟨⟨⟨⟨⟨⟨h1, h2⟩, h3⟩, h4⟩, h5⟩, h6⟩, h7⟩, h8⟩, h9⟩ := h
  refine ⟨(eqL_iff _ _).1 h1, fun k hk => ?_, Nat.le_of_ble_eq_true h3, by simpa using h4, fun z hz => ?_, Nat.le_of_ble_eq_true h6, Nat.le_of_ble_eq_true h7, fun h95 => ?_, fun j hj e => ?_⟩
  · have := List.all_eq_true.1 h2 k hk
    rw [Bool.and_eq_true] at this
    exact ⟨Nat.le_of_ble_eq_true this.1, Nat.le_of_ble_eq_true this.2⟩
  · have := List.all_eq_true.1 h5 z hz
    rw [Bool.and_eq_true] at this
    exact ⟨Nat.le_of_ble_eq_true this.1, Nat.le_of_ble_eq_true this.2⟩
  · rw [Bool.or_eq_true] at h8
    rcases h8 with h8 | h8
    · have := Nat.eq_of_beq_eq_true h8; omega
    · simpa using h8
  · have := List.all_eq_true.1 h9 j (List.mem_range.2 hj)
    rw [(eqL_iff _ _).2 e] at this
    cases this
theorem wt_len : WT.length = 96 := by decide +kernel
theorem wt_get {i : Nat} (hi : i < 96) : WT[i]? = some (wt i) := by
  unfold wt
  rw [List.getD_eq_getElem?_getD, List.getElem?_eq_getElem (by rw [wt_len]; exact hi)]
  rfl
/-- The words in memory are the first of the table. -/
def IsT (ws : List Wx) (n : Nat) : Prop := ws.map (fun x => (x.ks, x.z)) = WT.take n
theorem IsT.len {ws : List Wx} {n : Nat} (h : IsT ws n) (hn : n ≤ 96) : ws.length = n := by
  have := congrArg List.length h
  rw [List.length_map, List.length_take, wt_len] at this
  omega
theorem IsT.at {ws : List Wx} {n i : Nat} (h : IsT ws n) (hn : n ≤ 96) (hi : i < n) {x : Wx} (hx : ws[i]? = some x) : x.ks = (wt i).1 ∧ x.z = (wt i).2 := by
  have h1 := congrArg (·[i]?) h
  simp only [List.getElem?_map, hx, Option.map_some, List.getElem?_take, if_pos hi, wt_get (show i < 96 by omega)] at h1
  have := Option.some.inj h1
  exact ⟨by rw [← this], by rw [← this]⟩
theorem IsT.any {ws : List Wx} {n : Nat} (h : IsT ws n) (m : M4) : (ws.any fun x => eqL x.z m) = conB n m := by
  unfold conB
  rw [← h, List.any_map]
  rfl
theorem IsT.push {ws : List Wx} {n : Nat} (h : IsT ws n) {x : Wx} (hx : WT[n]? = some (x.ks, x.z)) : IsT (ws ++ [x]) (n + 1) := by
  unfold IsT
  rw [List.map_append, h, List.take_add_one, hx]
  rfl
set_option maxRecDepth 100000 in
set_option maxHeartbeats 1000000 in
/-- equal of two matrices, with any room. -/
theorem gEqualC (na nb ga gb N ca cb : Nat) (A B : Nat → Int × Int) (pa pb : Nat → Nat × Nat) (e : Int) (he1 : -300 ≤ e) (he2 : e ≤ 300) (hN : N ≤ 4096) (w : World) (rA : Rk w ga 34 N (fun j => cx (pa j))) (rB : Rk w gb 34 N (fun j => cx (pb j)))
    (vA : ∀ j, j < N → Cx (pa j) (A j) e) (vB : ∀ j, j < N → Cx (pb j) (B j) e) (lA : ∀ j, j < N → zle (A j) 4503599627370496) (lB : ∀ j, j < N → zle (B j) 4503599627370496) :
    Calls Tryd.prog 46 #[.agg #[.int .i64 (na : Int), .slice (some ⟨ga, 0, none⟩) N ca], .agg #[.int .i64 (nb : Int), .slice (some ⟨gb, 0, none⟩) N cb]] w fun e w' => e = .returned (.bool (eqB A B N)) ∧ Below w.heap.size w w' := by
  have b0 : Below w.heap.size w ((w.alloc (.cells #[.int .i64 (na : Int), .slice (some ⟨ga, 0, none⟩) N ca] 25)).alloc (.cells #[.int .i64 (nb : Int), .slice (some ⟨gb, 0, none⟩) N cb] 25)) := (below_new w _).trans ((below_new _ _).mono (by simp))
  have cE := sEqualFunc ga gb N ca cb A B pa pb e he1 he2 hN _ (rA.below b0) (rB.below b0) vA vB lA lB
  clear rA rB vA vB lA lB
  go_enter Tryd.func46, Tryd.ntmps46
  go_wp2_with fail
  refine cE.mono ?_
  rintro e w1 ⟨rfl, rfl⟩
  go_wp2_with fail
  go_ret
  exact ⟨rfl, b0⟩
end Go.Proofs.YtnhdgellckcnbaaDoor.Gt
/- A region that draws its order, all of whose operations but the last two are quiet in a class of worlds; those two come behind all others. -/
namespace Go.Proofs.YtnhdgellckcnbaaDoor.Gt
open Go

section
variable {P : Program} {C : World → Prop} {Q : Exit → Act → World → Prop} {md : Region.Mode} {ops : Array Oper} {N : Nat}

def front2B (md : Region.Mode) (ops : Array Oper) (N : Nat) : Bool :=
  decide (ops.size = N + 2) && (List.range N).all (fun i => ((ops[i]?).map fun o => o.guard.isNone && o.after.all fun e => decide (e.on < i)).getD false)
    && ((ops[N]?).map fun o => o.after.all fun e => decide (e.on < N)).getD false
    && ((ops[N + 1]?).map fun o => (o.after.all fun e => decide (e.on < N + 1)) && o.after.any fun e => Region.binds md e && (e.on == N)).getD false
    && (List.range N).all (fun j => (List.range (N + 1)).any fun i => decide (j < i) && ((ops[i]?).map fun o => o.after.any fun e => Region.binds md e && (e.on == j)).getD false)
structure Front2 (md : Region.Mode) (ops : Array Oper) (N : Nat) : Prop where
  size : ops.size = N + 2
  low : ∀ i o, i < N → ops[i]? = some o → o.guard = none ∧ ∀ e ∈ o.after, e.on < i
  last : ∃ o, ops[N]? = some o ∧ ∀ e ∈ o.after, e.on < N
  fin : ∃ o, ops[N + 1]? = some o ∧ (∀ e ∈ o.after, e.on < N + 1) ∧ ∃ e ∈ o.after, Region.binds md e = true ∧ e.on = N
  cover : ∀ j, j < N → ∃ i o, j < i ∧ i ≤ N ∧ ops[i]? = some o ∧ ∃ e ∈ o.after, Region.binds md e = true ∧ e.on = j
theorem front2_of (h : front2B md ops N = true) : Front2 md ops N := by
  unfold front2B at h
  rw [Bool.and_eq_true, Bool.and_eq_true, Bool.and_eq_true, Bool.and_eq_true] at h
  obtain ⟨⟨⟨⟨h1, h2⟩, h3⟩, h4⟩, h5⟩ := h
  refine ⟨of_decide_eq_true h1, fun i o hi ho => ?_, ?_, ?_, fun j hj => ?_⟩
  · have := List.all_eq_true.1 h2 i (List.mem_range.2 hi)
    rw [ho] at this
    simp only [Option.map_some, Option.getD_some, Bool.and_eq_true, Option.isNone_iff_eq_none, Array.all_eq_true_iff_forall_mem, decide_eq_true_eq] at this
    exact this
  · cases ho : ops[N]? with
    | none => rw [ho] at h3; simp at h3
    | some o =>
      rw [ho] at h3
      simp only [Option.map_some, Option.getD_some, Array.all_eq_true_iff_forall_mem, decide_eq_true_eq] at h3
      exact ⟨o, rfl, h3⟩
  · cases ho : ops[N + 1]? with
    | none => rw [ho] at h4; simp at h4
    | some o =>
      rw [ho] at h4
      simp only [Option.map_some, Option.getD_some, Bool.and_eq_true, Array.all_eq_true_iff_forall_mem, decide_eq_true_eq] at h4
      refine ⟨o, rfl, h4.1, ?_⟩
      have := h4.2
      rw [Array.any_eq_true'] at this
      obtain ⟨e, he, hb⟩ := this
      rw [Bool.and_eq_true, beq_iff_eq] at hb
      exact ⟨e, he, hb.1, hb.2⟩
  · have := List.all_eq_true.1 h5 j (List.mem_range.2 hj)
    rw [List.any_eq_true] at this
    obtain ⟨i, hi, hb⟩ := this
    rw [Bool.and_eq_true, decide_eq_true_eq] at hb
    cases ho : ops[i]? with
    | none => rw [ho] at hb; simp at hb
    | some o =>
      rw [ho] at hb
      simp only [Option.map_some, Option.getD_some] at hb
      have h6 := hb.2
      rw [Array.any_eq_true'] at h6
      obtain ⟨e, he, hb2⟩ := h6
      rw [Bool.and_eq_true, beq_iff_eq] at hb2
      have := List.mem_range.1 hi
      exact ⟨i, o, hb.1, by omega, ho, e, he, hb2.1, hb2.2⟩
/-- What is listed waits for nothing that is not. -/
def ClL (md : Region.Mode) (ops : Array Oper) (N : Nat) (listed : Array Bool) : Prop := ∀ i o, i < N → listed.getD i false = true → ops[i]? = some o → ∀ e ∈ o.after, Region.binds md e = true → listed.getD e.on false = true
theorem f2_get {i : Nat} (hf : Front2 md ops N) (hi : i < N) : ops.pop.pop[i]? = ops[i]? := by
  have := hf.size
  rw [Array.getElem?_pop, if_pos (by simp; omega), Array.getElem?_pop, if_pos (by omega)]
theorem f2_none (hf : Front2 md ops N) {i : Nat} (hi : N ≤ i) : ops.pop.pop[i]? = none := by
  have := hf.size
  rw [Array.getElem?_eq_none]
  simp
  omega
theorem f2_ready (hf : Front2 md ops N) {listed : Array Bool} {i : Nat} : i ∈ Region.ready md ops.pop.pop listed ↔ i ∈ Region.ready md ops listed ∧ i < N := by
  rw [mem_ready, mem_ready]
  constructor
  · rintro ⟨h1, o, ho, h2⟩
    have hi : i < N := by
      rcases Nat.lt_or_ge i N with h | h
      · exact h
      · rw [f2_none hf h] at ho; cases ho
    rw [f2_get hf hi] at ho
    exact ⟨⟨h1, o, ho, h2⟩, hi⟩
  · rintro ⟨⟨h1, o, ho, h2⟩, hi⟩
    exact ⟨h1, o, by rw [f2_get hf hi]; exact ho, h2⟩
theorem f2_all (hf : Front2 md ops N) {listed : Array Bool} (hs : listed.size = N + 2) (h : Region.ready md ops.pop.pop listed = []) : ∀ j, j < N → listed.getD j false = true := by
  intro j
  induction j using Nat.strongRecOn with
  | ind j ih =>
    intro hj
    cases hl : listed.getD j false
    · exfalso
      have hlt : j < ops.size := by rw [hf.size]; omega
      have hm : j ∈ Region.ready md ops.pop.pop listed := by
        refine (f2_ready hf).2 ⟨mem_ready.2 ⟨?_, ops[j], Array.getElem?_eq_getElem hlt, fun e he _ => ?_⟩, hj⟩
        · have : j < listed.size := by omega
          simp [Array.getD, this] at hl ⊢
          exact hl
        · have := (hf.low j ops[j] hj (Array.getElem?_eq_getElem hlt)).2 e he
          exact ih e.on this (by omega)
      rw [h] at hm
      cases hm
    · rfl
/-- Where the first of the last two may come up all others have. -/
theorem f2_waits (hf : Front2 md ops N) {listed : Array Bool} (hc : ClL md ops N listed) (h : N ∈ Region.ready md ops listed) : ∀ d j, j + d = N → 0 < d → listed.getD j false = true := by
  intro d
  induction d using Nat.strongRecOn with
  | ind d ih =>
    intro j hj hd
    obtain ⟨i, o, h1, h2, ho, e, he, hb, rfl⟩ := hf.cover j (by omega)
    by_cases hi : i = N
    · subst hi
      obtain ⟨_, o', ho', h3⟩ := mem_ready.1 h
      rw [ho] at ho'
      cases ho'
      exact h3 e he hb
    · have := ih (N - i) (by omega) i (by omega) (by omega)
      exact hc i o (by omega) this ho e he hb
theorem f2_none_ready (hf : Front2 md ops N) {listed : Array Bool} (hs : listed.size = N + 2) (hl : ∀ j, j < N → listed.getD j false = true) : Region.ready md ops.pop.pop listed = [] := by
  refine List.eq_nil_iff_forall_not_mem.2 fun j hj => ?_
  obtain ⟨hj1, hjN⟩ := (f2_ready hf).1 hj
  have a := hl j hjN
  have b := (mem_ready.1 hj1).1
  have h' : j < listed.size := by omega
  simp [Array.getD, h'] at a b
  rw [a] at b
  cases b
theorem f2_lt (hf : Front2 md ops N) {listed : Array Bool} {i : Nat} (h : i ∈ Region.ready md ops listed) : i ≤ N + 1 := by
  obtain ⟨_, o, ho, _⟩ := mem_ready.1 h
  have := (Array.getElem?_eq_some_iff.1 ho).1
  rw [hf.size] at this
  omega
theorem f2_fin_waits (hf : Front2 md ops N) {listed : Array Bool} (hs : listed.size = N + 2) (hN : listed.getD N true = false) : N + 1 ∉ Region.ready md ops listed := by
  intro h
  obtain ⟨_, o, ho, h2⟩ := mem_ready.1 h
  obtain ⟨o', ho', _, e, he, hb, h3⟩ := hf.fin
  rw [ho] at ho'
  cases ho'
  have a := h2 e he hb
  rw [h3] at a
  have h' : N < listed.size := by omega
  simp [Array.getD, h'] at a hN
  rw [a] at hN
  cases hN
theorem getD_ne {listed : Array Bool} {i j : Nat} (h : j ≠ i) (d : Bool) : (listed.setIfInBounds i true).getD j d = listed.getD j d := by
  simp only [Array.getD_eq_getD_getElem?, Array.getElem?_setIfInBounds]
  rw [if_neg (fun e => h e.symm)]
theorem getD_eq {listed : Array Bool} {i : Nat} (h : i < listed.size) (d : Bool) : (listed.setIfInBounds i true).getD i d = true := by
  simp only [Array.getD_eq_getD_getElem?, Array.getElem?_setIfInBounds]
  simp [h]
theorem wpAny_of_front2 (hf : Front2 md ops N) : ∀ (fuel : Nat) (listed : Array Bool) (a : Act) (w : World), C w → listed.size = N + 2 → listed.getD N true = false → listed.getD (N + 1) true = false → ClL md ops N listed →
    wpAnyQ P md ops.pop.pop C (fun a' => ∀ w', C w' → wpOp P ops Q N (fun a'' w'' => wpOp P ops Q (N + 1) (fun a3 w3 => Q .normal a3 w3) a'' w'') a' w') fuel listed a → wpAny P md ops Q (fuel + 2) listed a w := by
  have stop : ∀ (fuel : Nat) (listed : Array Bool) (a : Act) (w : World), C w → listed.size = N + 2 → listed.getD N true = false → listed.getD (N + 1) true = false → Region.ready md ops.pop.pop listed = [] →
      (∀ w', C w' → wpOp P ops Q N (fun a'' w'' => wpOp P ops Q (N + 1) (fun a3 w3 => Q .normal a3 w3) a'' w'') a w') → wpAny P md ops Q (fuel + 2) listed a w := by
    intro fuel listed a w hC hs hN hN1 h hq
    have hall := f2_all hf hs h
    refine ⟨fun h0 => ?_, fun i hi => ?_⟩
    · obtain ⟨o, ho, h1⟩ := hf.last
      have : N ∈ Region.ready md ops listed := mem_ready.2 ⟨hN, o, ho, fun e he _ => hall e.on (h1 e he)⟩
      rw [h0] at this
      cases this
    · have hiN : i = N := by
        have h1 := f2_lt hf hi
        rcases Nat.lt_or_ge i N with h' | h'
        · have := (f2_ready hf).2 ⟨hi, h'⟩
          rw [h] at this
          cases this
        · by_cases e : i = N + 1
          · subst e
            exact absurd hi (f2_fin_waits hf hs hN)
          · omega
      subst hiN
      refine wpOp_mono (fun a'' w'' h'' => ?_) (hq w hC)
      have hs2 : (listed.setIfInBounds i true).size = i + 2 := by simpa using hs
      refine ⟨fun h0 => ?_, fun j hj => ?_⟩
      · obtain ⟨o, ho, h1, _⟩ := hf.fin
        have : i + 1 ∈ Region.ready md ops (listed.setIfInBounds i true) := mem_ready.2 ⟨by rw [getD_ne (by omega)]; exact hN1, o, ho, fun e he _ => by
          have h2 := h1 e he
          by_cases e' : e.on = i
          · rw [e']; exact getD_eq (by omega) false
          · rw [getD_ne e']; exact hall e.on (by omega)⟩
        rw [h0] at this
        cases this
      · have hj1 := f2_lt hf hj
        have hjn : j = i + 1 := by
          have b := (mem_ready.1 hj).1
          by_cases e1 : j = i
          · subst e1
            rw [getD_eq (by omega)] at b
            cases b
          · by_cases e2 : j < i
            · rw [getD_ne e1] at b
              have a := hall j e2
              have h' : j < listed.size := by omega
              simp [Array.getD, h'] at a b
              rw [a] at b
              cases b
            · omega
        subst hjn
        refine wpOp_mono (fun a3 w3 h3 => wpAny_end fuel ?_ h3) h''
        refine List.eq_nil_iff_forall_not_mem.2 fun t ht => ?_
        have b := (mem_ready.1 ht).1
        have ht1 := f2_lt hf ht
        by_cases e1 : t = i + 1
        · subst e1
          rw [getD_eq (by rw [hs2]; omega)] at b
          cases b
        · rw [getD_ne e1] at b
          by_cases e2 : t = i
          · subst e2
            rw [getD_eq (by omega)] at b
            cases b
          · rw [getD_ne e2] at b
            have a := hall t (by omega)
            have h' : t < listed.size := by omega
            simp [Array.getD, h'] at a b
            rw [a] at b
            cases b
  intro fuel
  induction fuel with
  | zero =>
    intro listed a w hC hs hN hN1 hc h
    exact stop 0 listed a w hC hs hN hN1 h.1 h.2
  | succ fuel ih =>
    intro listed a w hC hs hN hN1 hc h
    by_cases h0 : Region.ready md ops.pop.pop listed = []
    · exact stop (fuel + 1) listed a w hC hs hN hN1 h0 (h.1 h0)
    · refine ⟨fun h1 => ?_, fun i hi => ?_⟩
      · exfalso
        obtain ⟨i, hi⟩ := List.exists_mem_of_ne_nil _ h0
        have := ((f2_ready hf).1 hi).1
        rw [h1] at this
        cases this
      · have hne : i ≠ N := fun e => h0 (f2_none_ready hf hs (fun j hj => f2_waits hf hc (e ▸ hi) (N - j) j (by omega) (by omega)))
        have hne1 : i ≠ N + 1 := fun e => f2_fin_waits hf hs hN (e ▸ hi)
        have hlt : i < N := by have := f2_lt hf hi; omega
        have hq := h.2 i ((f2_ready hf).2 ⟨hi, hlt⟩)
        obtain ⟨_, o, ho, hdep⟩ := mem_ready.1 hi
        have hg := (hf.low i o hlt ho).1
        have hw : ∀ y, Region.wanted o y = true := fun y => by simp [Region.wanted, hg]
        unfold qOp at hq
        rw [f2_get hf hlt, ho] at hq
        simp only [hw, if_true] at hq
        unfold wpOp
        simp only [ho, hw, if_true]
        refine .inl (Oper.wp_of_quiet hC (fun a' w' hC' hK => ih _ a' w' hC' (by simpa using hs) ?_ ?_ ?_ hK) hq)
        · rw [getD_ne (fun e => hne e.symm)]; exact hN
        · rw [getD_ne (fun e => hne1 e.symm)]; exact hN1
        · intro t ot ht htl hot e he hb
          by_cases et : t = i
          · subst et
            rw [ho] at hot
            cases hot
            have := hdep e he hb
            by_cases ee : e.on = t
            · rw [ee]; exact getD_eq (by omega) false
            · rw [getD_ne ee]; exact this
          · rw [getD_ne et] at htl
            have := hc t ot ht htl hot e he hb
            by_cases ee : e.on = i
            · rw [ee]; exact getD_eq (by omega) false
            · rw [getD_ne ee]; exact this
/-- One walk of the text's order serves every order; the last two operations come behind it. -/
theorem wp_region_quiet_last2 {id : Nat} {a : Act} {w : World} {l : List Oper} {o1 o2 : Oper} (hm : P.follows .mixedOrders = true) (n : Nat) (hn : l.drop n = [o1, o2]) (hB : (Region.noSelect (l.take n).toArray && Region.lexFrom .any (l.take n).toArray n 0 (Array.replicate (n + 2) false)) = true) (hF : front2B .any l.toArray n = true) (hC : C { w with drawn := w.drawn + 1 })
    (h : wpQuiet P (l.take n).toArray C (fun a' => ∀ w', C w' → wpList P l.toArray Q [o1, o2] a' w') (l.take n) a) : (Code.region id l.toArray true).wp P Q a w := by
  have hf := front2_of hF
  have hsz : l.length = n + 2 := by simpa using hf.size
  have hpop : l.toArray.pop.pop = (l.take n).toArray := by
    apply Array.ext'
    simp [List.dropLast_eq_take, hsz, List.take_take]
  have h1 : l.toArray[n]? = some o1 := by
    have := congrArg (·[0]?) hn
    simpa using this
  have h2 : l.toArray[n + 1]? = some o2 := by
    have := congrArg (·[1]?) hn
    simpa using this
  have htl : (l.take n).length = n := by simp; omega
  rw [Bool.and_eq_true] at hB
  have hB2 := hB.2
  have H := wpAnyQ_lex (P := P) (C := C) (md := .any) hB.1 (l.take n) 0 (Array.replicate (n + 2) false) a (by simp) (by rw [htl]; exact hB2) h
  refine wp_region_any hm ?_
  rw [htl, ← hpop] at H
  have := wpAny_of_front2 (P := P) (C := C) (Q := Q) hf n (Array.replicate (n + 2) false) a _ hC (by simp) (by simp) (by simp) (fun i o hi hl => by rw [Array.getD_eq_getD_getElem?, Array.getElem?_replicate, if_pos (by omega)] at hl; cases hl) ?_
  · simpa [hsz] using this
  · refine wpAnyQ_mono ?_ _ _ _ H
    intro a' h' w' hC'
    have := h' w' hC'
    unfold wpOp
    simp only [h1, h2]
    exact this
end
end Go.Proofs.YtnhdgellckcnbaaDoor.Gt
/- The law's times: products of exact complex numbers, in the language's own arithmetic. -/
namespace Go.Proofs.YtnhdgellckcnbaaDoor.Gt
open Go.RowKit Go.Proofs.YtnhdgellckcnbaaDoor.Oct Go.Proofs.YtnhdgellckcnbaaDoor.Dy

theorem c_mul {p q : Nat × Nat} {a b : Int × Int} (h : Cx p a (-1)) (k : Cx q b (-1)) (ha : zle a 2) (hb : zle b 2) : ∃ r : Nat × Nat, (∀ W : World, (binOp .mul 34 (.complex .f64 p.1 p.2) (.complex .f64 q.1 q.2)).run Tryd.prog W = .ok (.complex .f64 r.1 r.2) W) ∧ Cx r (zmul a b) (-2) := by
  have a1 := ha.1; have a2 := ha.2; have b1 := hb.1; have b2 := hb.2
  obtain ⟨x1, e1, f1⟩ := fl_mul h.1 k.1 (by omega) (by omega) (by omega) (by omega) (by omega) (by omega)
  obtain ⟨x2, e2, f2⟩ := fl_mul h.2 k.2 (by omega) (by omega) (by omega) (by omega) (by omega) (by omega)
  obtain ⟨x3, e3, f3⟩ := fl_mul h.1 k.2 (by omega) (by omega) (by omega) (by omega) (by omega) (by omega)
  obtain ⟨x4, e4, f4⟩ := fl_mul h.2 k.1 (by omega) (by omega) (by omega) (by omega) (by omega) (by omega)
  have m1 := natAbs_mul_le a1 b1
  have m2 := natAbs_mul_le a2 b2
  have m3 := natAbs_mul_le a1 b2
  have m4 := natAbs_mul_le a2 b1
  obtain ⟨r1, e5, f5⟩ := fl_sub (d := a.1 * b.1 - a.2 * b.2) (f := -2) f1 f2 (by omega) (by omega) (by omega) (by omega) (by omega) (by omega) (by omega) (by rw [Int.sub_mul]; rfl)
  obtain ⟨r2, e6, f6⟩ := fl_add (d := a.1 * b.2 + a.2 * b.1) (f := -2) f3 f4 (by omega) (by omega) (by omega) (by omega) (by omega) (by omega) (by omega) (by rw [Int.add_mul]; rfl)
  refine ⟨(r1, r2), fun W => run_complex_mul W _ _ _ _ _ _ _ ?_, f5, f6⟩
  simp only [cMulBits, e1, e2, e3, e4, e5, e6, Option.bind_some]
theorem c_add {p q : Nat × Nat} {a b : Int × Int} (h : Cx p a (-2)) (k : Cx q b (-2)) (ha : zle a 1024) (hb : zle b 1024) : ∃ r : Nat × Nat, (∀ W : World, (binOp .add 34 (.complex .f64 p.1 p.2) (.complex .f64 q.1 q.2)).run Tryd.prog W = .ok (.complex .f64 r.1 r.2) W) ∧ Cx r (zadd a b) (-2) := by
  have a1 := ha.1; have a2 := ha.2; have b1 := hb.1; have b2 := hb.2
  obtain ⟨r1, e5, f5⟩ := fl_add (d := a.1 + b.1) (f := -2) h.1 k.1 (by omega) (by omega) (by omega) (by omega) (by omega) (by omega) (by omega) (by rw [Int.add_mul])
  obtain ⟨r2, e6, f6⟩ := fl_add (d := a.2 + b.2) (f := -2) h.2 k.2 (by omega) (by omega) (by omega) (by omega) (by omega) (by omega) (by omega) (by rw [Int.add_mul])
  refine ⟨(r1, r2), fun W => run_complex_sum W .add (.inl rfl) _ _ _ _ _ _ _ _ ?_, f5, f6⟩
  simp only [cSumBits, e5, e6, Option.bind_some]
theorem c_dot {p q p' q' : Nat × Nat} {a b a' b' : Int × Int} (h : Cx p a (-1)) (k : Cx q b (-1)) (h' : Cx p' a' (-1)) (k' : Cx q' b' (-1)) (ha : zle a 2) (hb : zle b 2) (ha' : zle a' 2) (hb' : zle b' 2) :
    ∃ x y r : Nat × Nat, (∀ W : World, (binOp .mul 34 (.complex .f64 p.1 p.2) (.complex .f64 q.1 q.2)).run Tryd.prog W = .ok (.complex .f64 x.1 x.2) W) ∧ (∀ W : World, (binOp .mul 34 (.complex .f64 p'.1 p'.2) (.complex .f64 q'.1 q'.2)).run Tryd.prog W = .ok (.complex .f64 y.1 y.2) W) ∧ (∀ W : World, (binOp .add 34 (.complex .f64 x.1 x.2) (.complex .f64 y.1 y.2)).run Tryd.prog W = .ok (.complex .f64 r.1 r.2) W) ∧ Cx r (zadd (zmul a b) (zmul a' b')) (-2) := by
  obtain ⟨x, e1, f1⟩ := c_mul h k ha hb
  obtain ⟨y, e2, f2⟩ := c_mul h' k' ha' hb'
  obtain ⟨r, e3, f3⟩ := c_add f1 f2 (zle_mono (zmul_le ha hb) (by omega)) (zle_mono (zmul_le ha' hb') (by omega))
  exact ⟨x, y, r, e1, e2, e3, f3⟩
theorem dot2 (A B : Nat → Int × Int) (r c : Nat) : dotS 2 A B r c 2 = zadd (zmul (A (2 * r)) (B c)) (zmul (A (2 * r + 1)) (B (2 + c))) := by
  show zadd (zadd (0, 0) (zmul (A (2 * r + 0)) (B (2 * 0 + c)))) (zmul (A (2 * r + 1)) (B (2 * 1 + c))) = _
  rw [Nat.add_zero, Nat.mul_zero, Nat.zero_add, Nat.mul_one]
  congr 1
  simp [zadd]
set_option maxRecDepth 100000 in
set_option maxHeartbeats 4000000 in
theorem jTimes (ga gb ca cb : Nat) (A B : Nat → Int × Int) (pa pb : Nat → Nat × Nat) (w : World) (rA : Rk w ga 34 4 (fun j => cx (pa j))) (rB : Rk w gb 34 4 (fun j => cx (pb j))) (vA : ∀ j, j < 4 → Cx (pa j) (A j) (-1)) (vB : ∀ j, j < 4 → Cx (pb j) (B j) (-1)) (lA : ∀ j, j < 4 → zle (A j) 2) (lB : ∀ j, j < 4 → zle (B j) 2) :
    Calls Tryd.prog 21 #[.slice (some ⟨ga, 0, none⟩) 4 ca, .slice (some ⟨gb, 0, none⟩) 4 cb] w fun e w' => ∃ (g : Nat) (f : Nat → Nat × Nat), e = .returned (.slice (some ⟨g, 0, none⟩) 4 4) ∧ Rk w' g 34 4 (fun j => cx (f j)) ∧ (∀ j, j < 4 → Cx (f j) (dotS 2 A B (j / 2) (j % 2) 2) (-2)) ∧ Below w.heap.size w w' := by
  obtain ⟨x0, y0, r0, m1, m2, s1, v0⟩ := c_dot (vA 0 (by omega)) (vB 0 (by omega)) (vA 1 (by omega)) (vB 2 (by omega)) (lA 0 (by omega)) (lB 0 (by omega)) (lA 1 (by omega)) (lB 2 (by omega))
  obtain ⟨x1, y1, r1, m3, m4, s2, v1⟩ := c_dot (vA 0 (by omega)) (vB 1 (by omega)) (vA 1 (by omega)) (vB 3 (by omega)) (lA 0 (by omega)) (lB 1 (by omega)) (lA 1 (by omega)) (lB 3 (by omega))
  obtain ⟨x2, y2, r2, m5, m6, s3, v2⟩ := c_dot (vA 2 (by omega)) (vB 0 (by omega)) (vA 3 (by omega)) (vB 2 (by omega)) (lA 2 (by omega)) (lB 0 (by omega)) (lA 3 (by omega)) (lB 2 (by omega))
  obtain ⟨x3, y3, r3, m7, m8, s4, v3⟩ := c_dot (vA 2 (by omega)) (vB 1 (by omega)) (vA 3 (by omega)) (vB 3 (by omega)) (lA 2 (by omega)) (lB 1 (by omega)) (lA 3 (by omega)) (lB 3 (by omega))
  have a0 : w.cell? ⟨ga, 0, none⟩ = some (.complex .f64 (pa 0).1 (pa 0).2) := rA.cell 0 (by omega)
  have a1 : w.cell? ⟨ga, 1, none⟩ = some (.complex .f64 (pa 1).1 (pa 1).2) := rA.cell 1 (by omega)
  have a2 : w.cell? ⟨ga, 2, none⟩ = some (.complex .f64 (pa 2).1 (pa 2).2) := rA.cell 2 (by omega)
  have a3 : w.cell? ⟨ga, 3, none⟩ = some (.complex .f64 (pa 3).1 (pa 3).2) := rA.cell 3 (by omega)
  have b0 : w.cell? ⟨gb, 0, none⟩ = some (.complex .f64 (pb 0).1 (pb 0).2) := rB.cell 0 (by omega)
  have b1 : w.cell? ⟨gb, 1, none⟩ = some (.complex .f64 (pb 1).1 (pb 1).2) := rB.cell 1 (by omega)
  have b2 : w.cell? ⟨gb, 2, none⟩ = some (.complex .f64 (pb 2).1 (pb 2).2) := rB.cell 2 (by omega)
  have b3 : w.cell? ⟨gb, 3, none⟩ = some (.complex .f64 (pb 3).1 (pb 3).2) := rB.cell 3 (by omega)
  have HV : Hid (∀ j, j < 4 → Cx ((fun j => if j = 0 then r0 else if j = 1 then r1 else if j = 2 then r2 else r3) j) (dotS 2 A B (j / 2) (j % 2) 2) (-2)) := hide (fun j hj => by
    rcases (by omega : j = 0 ∨ j = 1 ∨ j = 2 ∨ j = 3) with rfl | rfl | rfl | rfl
    · rw [dot2]; exact v0
    · rw [dot2]; exact v1
    · rw [dot2]; exact v2
    · rw [dot2]; exact v3)
  clear rA rB vA vB lA lB v0 v1 v2 v3
  generalize pa 0 = P0 at *
  generalize pa 1 = P1 at *
  generalize pa 2 = P2 at *
  generalize pa 3 = P3 at *
  generalize pb 0 = Q0 at *
  generalize pb 1 = Q1 at *
  generalize pb 2 = Q2 at *
  generalize pb 3 = Q3 at *
  go_enter Tryd.func21, Tryd.ntmps21
  go_wp2_with fail
  have eight : ∀ W, Below w.heap.size w W → W.cell? ⟨ga, 0, none⟩ = some (.complex .f64 P0.1 P0.2) ∧ W.cell? ⟨ga, 1, none⟩ = some (.complex .f64 P1.1 P1.2) ∧ W.cell? ⟨ga, 2, none⟩ = some (.complex .f64 P2.1 P2.2) ∧ W.cell? ⟨ga, 3, none⟩ = some (.complex .f64 P3.1 P3.2) ∧ W.cell? ⟨gb, 0, none⟩ = some (.complex .f64 Q0.1 Q0.2) ∧ W.cell? ⟨gb, 1, none⟩ = some (.complex .f64 Q1.1 Q1.2) ∧ W.cell? ⟨gb, 2, none⟩ = some (.complex .f64 Q2.1 Q2.2) ∧ W.cell? ⟨gb, 3, none⟩ = some (.complex .f64 Q3.1 Q3.2) := fun W hW =>
    ⟨(hW.cell (World.block_lt_of_cell? _ _ a0)).trans a0, (hW.cell (World.block_lt_of_cell? _ _ a1)).trans a1, (hW.cell (World.block_lt_of_cell? _ _ a2)).trans a2, (hW.cell (World.block_lt_of_cell? _ _ a3)).trans a3, (hW.cell (World.block_lt_of_cell? _ _ b0)).trans b0, (hW.cell (World.block_lt_of_cell? _ _ b1)).trans b1, (hW.cell (World.block_lt_of_cell? _ _ b2)).trans b2, (hW.cell (World.block_lt_of_cell? _ _ b3)).trans b3⟩
  clear a0 a1 a2 a3 b0 b1 b2 b3
  refine wp_region_quiet_last2 (C := fun W => Below w.heap.size w W) (by kernel_rfl) 60 rfl (by kernel_rfl) (by kernel_rfl) (below_drewN (Below.refl _ _) 1) ?_
  simp only [List.take_succ_cons, List.take_zero]
  repeat
    refine wpQuiet_step (fun K hK => ?_)
    go_simp
    first
      | (refine hK _ ?_; clear hK K)
      | (apply Exists.intro
         refine ⟨fun W hW => ?_, hK _ ?_⟩
         first
           | with_reducible rfl
           | (have z1 := m1 W; have z2 := m2 W; have z3 := m3 W; have z4 := m4 W; have z5 := m5 W; have z6 := m6 W; have z7 := m7 W; have z8 := m8 W; have t1 := s1 W; have t2 := s2 W; have t3 := s3 W; have t4 := s4 W; obtain ⟨a0, a1, a2, a3, b0, b1, b2, b3⟩ := eight W hW; go_simp; rfl)
         clear hK K)
  refine wpQuiet_nil ?_
  intro W hW
  clear eight m1 m2 m3 m4 m5 m6 m7 m8 s1 s2 s3 s4
  go_wp2_with fail
  go_ret
  refine ⟨W.heap.size, fun j => if j = 0 then r0 else if j = 1 then r1 else if j = 2 then r2 else r3, rfl, ⟨_, heap_alloc_new _ _, by simp, fun j hj => ?_⟩, HV.out, hW.trans ((below_new W _).mono hW.size)⟩
  rcases (by omega : j = 0 ∨ j = 1 ∨ j = 2 ∨ j = 3) with rfl | rfl | rfl | rfl <;> rfl
end Go.Proofs.YtnhdgellckcnbaaDoor.Gt
/- Package gate: Word, of a matrix that is in the table. -/
namespace Go.Proofs.YtnhdgellckcnbaaDoor.Gt
open Go.RowKit Go.Proofs.YtnhdgellckcnbaaDoor.Oct Go.Proofs.YtnhdgellckcnbaaDoor.Dy

theorem kq_one : kq 1 20 = [1, 2, 3, 4, 5, 6, 7, 8, 9, 10] := by decide +kernel
theorem is_one (x : Wx) (h1 : x.ks = []) (h2 : x.z = (wt 0).2) : IsT [x] 1 := by
  unfold IsT
  rw [List.map_cons, h1, h2]
  decide +kernel
theorem wt0 : (wt 0).2 = lt 1 ∧ ct 0 0 = 1 := by decide +kernel
theorem at4_small {i : Nat} (hi : i < 96) {j : Nat} (hj : j < 4) : zle (at4 (wt i).2 j) 2 := by
  have h := row_out hi
  unfold at4
  rw [List.getD_eq_getElem?_getD, List.getElem?_eq_getElem (by rw [h.2.2.2.1]; exact hj)]
  exact h.2.2.2.2.1 _ (List.getElem_mem _)
theorem row3_0 {W : World} {g : Nat} {x y z : Value} {t : TypeId} (h : W.heap[g]? = some (.cells #[x, y, z] t)) : W.cell? ⟨g, 0, none⟩ = some x := cell_of_row _ _ 0 _ _ _ h
theorem row3_1 {W : World} {g : Nat} {x y z : Value} {t : TypeId} (h : W.heap[g]? = some (.cells #[x, y, z] t)) : W.cell? ⟨g, 1, none⟩ = some y := cell_of_row _ _ 1 _ _ _ h
theorem row3_2 {W : World} {g : Nat} {x y z : Value} {t : TypeId} (h : W.heap[g]? = some (.cells #[x, y, z] t)) : W.cell? ⟨g, 2, none⟩ = some z := cell_of_row _ _ 2 _ _ _ h
theorem keepO {W W' : World} (hb : Below W.heap.size W W') (g : Nat) (o : Obj) (h : W.heap[g]? = some o) : W'.heap[g]? = some o := (hb.block g (Array.getElem?_eq_some_iff.1 h).1).trans h
theorem keepG {W W' : World} {r : Option Nat} (hg : W.grownBy W' r) (g : Nat) (o : Obj) (h : W.heap[g]? = some o) (hne : some g ≠ r) : W'.heap[g]? = some o := (hg.block g (Array.getElem?_eq_some_iff.1 h).1 hne).trans h
theorem fst3 {w : World} {g : Nat} {x0 x1 x2 : Value} {t : TypeId} (h : w.heap[g]? = some (.cells #[x0, x1, x2] t)) (y : Value) : (w.setCell ⟨g, 0, none⟩ y).heap[g]? = some (.cells #[y, x1, x2] t) := by
  simp [World.setCell, Array.getElem?_modify, h]
theorem snd3 {w : World} {g : Nat} {x0 x1 x2 : Value} {t : TypeId} (h : w.heap[g]? = some (.cells #[x0, x1, x2] t)) (y : Value) : (w.setCell ⟨g, 1, none⟩ y).heap[g]? = some (.cells #[x0, y, x2] t) := by
  simp [World.setCell, Array.getElem?_modify, h]
theorem thd3 {w : World} {g : Nat} {x0 x1 x2 : Value} {t : TypeId} (h : w.heap[g]? = some (.cells #[x0, x1, x2] t)) (y : Value) : (w.setCell ⟨g, 2, none⟩ y).heap[g]? = some (.cells #[x0, x1, y] t) := by
  simp [World.setCell, Array.getElem?_modify, h]
theorem rk_ne {w : World} {g gn n : Nat} {t t' : TypeId} {f : Nat → Value} {cs : Array Value} (h : Rk w g t n f) (hn : w.heap[gn]? = some (.cells cs t')) (ht : t ≠ t') : g ≠ gn := by
  obtain ⟨cur, hc, _, _⟩ := h
  intro e
  rw [e, hn] at hc
  cases hc
  exact ht rfl
theorem dot_lt {k : Nat} (h1 : 1 ≤ k) (h2 : k ≤ 10) (z : M4) {j : Nat} (hj : j < 4) : dotS 2 (mz k) (at4 z) (j / 2) (j % 2) 2 = dotS 2 (at4 (lt k)) (at4 z) (j / 2) (j % 2) 2 := by
  have m := fun i (hi : i < 4) => lt_mz ⟨k, by omega⟩ ⟨i, hi⟩ h1
  dsimp only at m
  rw [dot2, dot2, m (2 * (j / 2)) (by omega), m (2 * (j / 2) + 1) (by omega)]
/-- The word that comes of a letter behind a word, as it lies. -/
theorem new_word {W : World} {x : Wx} {i t g7 c7 g8 : Nat} {f8 : Nat → Nat × Nat} (hi : i < 96) (ht : t < 10) (hz : x.z = (wt i).2) (hK : Rk W g7 22 (x.ks.length + 1) (fun j => .int .i64 (((x.ks ++ [t + 1]).getD j 0 : Nat) : Int))) (hM : Rk W g8 34 4 (fun j => cx (f8 j))) (hv : ∀ j, j < 4 → Cx (f8 j) (dotS 2 (mz (t + 1)) (at4 x.z) (j / 2) (j % 2) 2) (-1 + -1)) :
    Wxd W ⟨x.ks ++ [t + 1], prM (lt (t + 1)) (wt i).2, some ⟨g7, 0, none⟩, c7, g8, f8⟩ := by
  have so := step_out hi ht
  refine ⟨.inr ⟨g7, rfl, by simp, ?_⟩, hM, fun j hj => ?_, fun j hj => ?_, rfl⟩
  · rw [List.length_append]; exact hK
  · have h1 := hv j hj
    rw [dot_lt (by omega) (by omega) x.z hj, hz, so.1 j hj, show (-1 + -1 : Int) = -1 - 1 by decide] at h1
    exact cx_up h1
  · obtain ⟨j', hj', e, _⟩ := so.2.2.2
    show zle (at4 (prM (lt (t + 1)) (wt i).2) j) 2
    rw [← e]
    exact at4_small hj' hj
theorem own_baseF {w : World} {B B' : Nat} {e : TypeId} {v : Value} {n : Nat} {xs : List Value} (h : w.ownsRow B e 1 v n xs) (hB : B' ≤ B) : w.ownsRow B' e 1 v n xs := by
  refine ⟨h.1, ?_⟩
  rcases h.2 with h0 | ⟨g, cap, cur, e1, e2, e3⟩
  · exact .inl h0
  · exact .inr ⟨g, cap, cur, e1, Nat.le_trans hB e2, e3⟩
/-- Clone of kinds, whatever they are. -/
theorem kCloneAny (ao : Option Addr) (c : Nat) (ks : List Nat) (hl : ks.length ≤ 1000) (w : World) (hK : Kr w ao c ks) :
    Calls Tryd.prog 57 #[.slice ao ks.length c] w fun e w' => ∃ ao' c', e = .returned (.slice ao' ks.length c') ∧ w'.ownsRow w.heap.size 22 1 (.slice ao' ks.length c') ks.length (ks.map fun k => Value.int .i64 ((k : Nat) : Int)) ∧ Below w.heap.size w w' := by
  rcases hK with ⟨rfl, rfl, rfl⟩ | ⟨gk, rfl, h0, hR⟩
  · refine (kClone_nil w).mono ?_
    rintro e w' ⟨rfl, rfl⟩
    exact ⟨none, 0, rfl, World.ownsRow_nil _ _ _ _, Below.refl _ _⟩
  · refine (kClone gk c ks hl h0 w hR).mono ?_
    rintro e w' ⟨g, c', rfl, ho, hb⟩
    exact ⟨_, _, rfl, ho, hb⟩
set_option maxRecDepth 100000 in
set_option maxHeartbeats 4000000 in
theorem gWord (T gt ctt : Nat) (hT96 : T < 96) (ft : Nat → Nat × Nat) (w : World) (hT : Tb w) (hD : Td w) (hR : Rk w gt 34 4 (fun j => cx (ft j))) (hv : ∀ j, j < 4 → Cx (ft j) (at4 (wt T).2 j) (-1)) :
    Calls Tryd.prog 22 #[.agg #[.int .i64 2, .slice (some ⟨gt, 0, none⟩) 4 ctt]] w fun e w' => ∃ ao c, e = .returned (.tuple #[.slice ao (wt T).1.length c, .int .i64 0]) ∧ Kr w' ao c (wt T).1 ∧ Below w.heap.size w w' := by
  have b0 := below_new w (.cells #[.int .i64 2, .slice (some ⟨gt, 0, none⟩) 4 ctt] 25)
  have hm0 := heap_alloc_new w (.cells #[.int .i64 2, .slice (some ⟨gt, 0, none⟩) 4 ctt] 25)
  have hR0 := hR.below b0
  have HV := hide hv
  obtain ⟨KT, hKT⟩ : ∃ KT, (wt T).1 = KT := ⟨_, rfl⟩
  have HKT := hide hKT
  rw [hKT]
  have cG := fun w hT hD => gGatesOf 1 w hT hD
  unfold GPost at cG
  have cU := fun w hT hD => gMat 1 (by decide) (by decide) w hT hD
  rw [show rowsN 1 = 2 from rfl] at cU
  unfold MPost at cU
  clear hR hv hKT
  go_enter Tryd.func22, Tryd.ntmps22
  go_wp2_with fail
  generalize w.alloc (.cells #[.int .i64 2, .slice (some ⟨gt, 0, none⟩) 4 ctt] 25) = W0 at *
  refine (cG _ (hT.below b0) (hD.below b0)).mono ?_
  rintro e w1 ⟨aol, cl, lw, rfl, hoL, hWL, hkL, q1⟩
  have hm1 := row_keep q1 hm0
  have hR1 := hR0.below q1
  replace q1 := b0.trans (q1.mono b0.size)
  rw [kq_one] at hkL
  have hlw : lw.length = 10 := by have := congrArg List.length hkL; simpa using this
  rw [hlw] at hoL ⊢
  clear b0 hm0 hR0 cG
  go_wp2_with fail
  refine (cU _ (hT.below q1) (hD.below q1)).mono ?_
  rintro e w2 ⟨gu, rfl, hRu, _, q2⟩
  have hm2 := row_keep q2 hm1
  have hR2 := hR1.below q2
  have hoL2 := own_below hoL q2
  have hWL2 : ∀ x ∈ lw, Wd w2 x := fun x hx => (hWL x hx).below q2
  replace q2 := q1.trans (q2.mono q1.size)
  have bU := below_new w2 (.cells #[.int .i64 2, .slice (some ⟨gu, 0, none⟩) 4 4] 25)
  have hmu := heap_alloc_new w2 (.cells #[.int .i64 2, .slice (some ⟨gu, 0, none⟩) 4 4] 25)
  have hm3 := row_keep bU hm2
  have hR3 := hide (hR2.below bU)
  have hoL3 := hide (own_below hoL2 bU)
  have hWL3 : Hid (∀ x ∈ lw, Wd _ x) := hide (fun x hx => (hWL2 x hx).below bU)
  have hRu3 := hRu.below bU
  have q3 := q2.trans (bU.mono q2.size)
  have u0 := row2_0 hmu
  have u1 := row2_1 hmu
  clear hm1 hm2 hR1 hR2 hoL hoL2 hWL hWL2 hRu q1 q2 bU cU
  have HS3 : Hid ((w2.alloc (.cells #[.int .i64 2, .slice (some ⟨gu, 0, none⟩) 4 4] 25)).heap.size = w2.heap.size + 1) := hide (by simp)
  go_wp2_with fail
  generalize w2.alloc (.cells #[.int .i64 2, .slice (some ⟨gu, 0, none⟩) 4 4] 25) = W3 at *
  have bW := below_new W3 (.cells #[.slice none 0 0, .int .i64 2, .slice (some ⟨gu, 0, none⟩) 4 4] 84)
  obtain ⟨x0, hx0⟩ : ∃ x0 : Wx, x0 = ⟨[], (wt 0).2, none, 0, gu, fun j => mbs 1 j⟩ := ⟨_, rfl⟩
  have hW0 : Wxd (W3.alloc (.cells #[.slice none 0 0, .int .i64 2, .slice (some ⟨gu, 0, none⟩) 4 4] 84)) x0 := by
    rw [hx0]
    refine ⟨.inl ⟨rfl, rfl, rfl⟩, hRu3.below bW, fun j hj => ?_, fun j hj => at4_small (by decide) hj, (row_out (by decide)).2.2.2.1⟩
    show Cx (mbs 1 j) (at4 (wt 0).2 j) (-1)
    rw [wt0.1, lt_mz ⟨1, by decide⟩ ⟨j, hj⟩ (by decide)]
    exact mz_cx 1 j (by decide) (by omega)
  have ho0 : (W3.alloc (.cells #[.slice none 0 0, .int .i64 2, .slice (some ⟨gu, 0, none⟩) 4 4] 84)).ownsRow W3.heap.size 84 3 (.slice (some ⟨W3.heap.size, 0, none⟩) 1 1) 1 ([x0].flatMap Wx.cells) := by
    rw [hx0]
    exact ⟨rfl, .inr ⟨W3.heap.size, 1, _, rfl, Nat.le_refl _, heap_alloc_new _ _, Nat.le_refl _, by decide, rfl, rfl⟩⟩
  have hi0 : IsT [x0] 1 := is_one x0 (by rw [hx0]) (by rw [hx0])
  have HI := hide hi0
  have HO := hide ho0
  have HWs : Hid (∀ x ∈ [x0], Wxd (W3.alloc (.cells #[.slice none 0 0, .int .i64 2, .slice (some ⟨gu, 0, none⟩) 4 4] 84)) x) := hide (fun x hx => by
    rw [List.mem_singleton] at hx
    rw [hx]
    exact hW0)
  clear hx0 hi0 ho0 hW0 hRu3 u0 u1 hmu
  go_loopw [7, 8] (fun vw vi wr => ∃ (i n cw gw : Nat) (ws : List Wx), vw = .slice (some ⟨gw, 0, none⟩) n cw ∧ vi = .int .i64 (i : Int) ∧ i ≤ T ∧ n ≤ 96 ∧ i < n ∧ Hid (n = ct i 0 ∧ IsT ws n) ∧ Hid (wr.ownsRow W3.heap.size 84 3 (.slice (some ⟨gw, 0, none⟩) n cw) n (ws.flatMap Wx.cells)) ∧ Hid (∀ x ∈ ws, Wxd wr x) ∧ Below W3.heap.size W3 wr) (fun _ vi _ => 96 - (Go.RowKit.intOf vi).toNat)
  case atStart => exact ⟨0, 1, 1, W3.heap.size, [x0], by rw [HS3.out], rfl, by omega, by omega, by omega, hide ⟨wt0.2.symm, HI.out⟩, HO, HWs, bW⟩
  case round =>
    clear HI HO HWs bW
    obtain ⟨i, n, cw, gw, ws, rfl, rfl, hiT, hn96, hin, HI, HO, HW, hb⟩ := hrel
    have hd : decide ((i : Int) < (n : Int)) = true := decide_eq_true (by omega)
    have hi96 : i < 96 := by omega
    have hwl : ws.length = n := HI.out.2.len hn96
    obtain ⟨x, hx⟩ : ∃ x, ws[i]? = some x := ⟨_, List.getElem?_eq_getElem (by rw [hwl]; exact hin)⟩
    obtain ⟨hxk, hxz⟩ := HI.out.2.at hn96 hin hx
    have hxd := HW.out x (List.mem_of_getElem? hx)
    have k0 := own_wx HO.out i x hx 0 _ rfl
    have k1 := own_wx HO.out i x hx 1 _ rfl
    have k2 := own_wx HO.out i x hx 2 _ rfl
    rw [Nat.add_zero] at k0
    have hm4 := row_keep hb hm3
    have m0 := row2_0 hm4
    have m1 := row2_1 hm4
    have hiZ : (i : Int) < (n : Int) := by omega
    have five : ∀ W, Below wr.heap.size wr W → W.cell? ⟨gw, i * 3 + 1, none⟩ = some (.int .i64 2) ∧ W.cell? ⟨gw, i * 3 + 2, none⟩ = some (.slice (some ⟨x.gm, 0, none⟩) 4 4) ∧ W.cell? ⟨w.heap.size, 0, none⟩ = some (.int .i64 2) ∧ W.cell? ⟨w.heap.size, 1, none⟩ = some (.slice (some ⟨gt, 0, none⟩) 4 ctt) := fun W hW => ⟨(hW.cell (World.block_lt_of_cell? _ _ k1)).trans k1, (hW.cell (World.block_lt_of_cell? _ _ k2)).trans k2, (hW.cell (World.block_lt_of_cell? _ _ m0)).trans m0, (hW.cell (World.block_lt_of_cell? _ _ m1)).trans m1⟩
    have cE : ∀ W, Below wr.heap.size wr W → Calls Tryd.prog 46 #[.agg #[.int .i64 2, .slice (some ⟨x.gm, 0, none⟩) 4 4], .agg #[.int .i64 2, .slice (some ⟨gt, 0, none⟩) 4 ctt]] W fun e w' => e = .returned (.bool (eqL (wt i).2 (wt T).2)) ∧ Below W.heap.size W w' := fun W hW => by
      have := gEqualC 2 2 x.gm gt 4 4 ctt (at4 x.z) (at4 (wt T).2) x.f ft (-1) (by decide) (by decide) (by decide) W (hxd.mat.below hW) ((hR3.out.below hb).below hW) hxd.val HV.out (fun j hj => zle_mono (hxd.small j hj) (by decide)) (fun j hj => zle_mono (at4_small hT96 hj) (by decide))
      rw [eq4 hxd.len (row_out hT96).2.2.2.1, hxz] at this
      exact this
    have HE : Hid (eqL (wt i).2 (wt T).2 = true → i = T) := hide (fun h => by
      by_cases e : i = T
      · exact e
      · exact absurd ((eqL_iff _ _).1 h) ((row_out hT96).2.2.2.2.2.2.2.2 i (by omega)))
    have HE2 : Hid (eqL (wt i).2 (wt T).2 = false → i < T) := hide (fun h => by
      by_cases e : i = T
      · rw [e, (eqL_iff _ _).2 rfl] at h; cases h
      · omega)
    generalize eqL (wt i).2 (wt T).2 = E at *
    clear m0 m1 hm4
    go_wp2_with fail
    have hbN := hb
    refine wp_region_quiet (C := fun W => Below wr.heap.size wr W) (by kernel_rfl) (by kernel_rfl) (below_drewN (Below.refl _ _) 1) ?_
    repeat
      refine wpQuiet_step (fun K hK => ?_)
      go_simp
      first
        | (refine hK _ ?_; clear hK K)
        | (apply Exists.intro
           refine ⟨fun W hW => ?_, hK _ ?_⟩
           first
             | with_reducible rfl
             | (refine (cE W hW).mono ?_; rintro e x ⟨rfl, q⟩; exact ⟨rfl, hW.trans (q.mono hW.size)⟩)
             | (obtain ⟨a0, a1, a2, a3⟩ := five W hW; go_simp; rfl)
           clear hK K)
    refine wpQuiet_nil ?_
    intro W hW
    have hbW := hb.trans (hW.mono hb.size)
    clear cE five
    cases E
    · have hiT2 := HE2.out rfl
      have HO2 := hide (own_below HO.out hW)
      have HW2 : Hid (∀ x ∈ ws, Wxd W x) := hide (fun x hx => (HW.out x hx).below hW)
      clear HE HE2 hxk hxz hxd hx k0 k1 k2 HO HW hwl hW hb
      obtain ⟨gl, hgl⟩ : ∃ gl, aol = some ⟨gl, 0, none⟩ := by
        rcases hoL3.out.2 with ⟨_, h0⟩ | ⟨gl, _, _, e, _⟩
        · cases h0
        · cases e; exact ⟨gl, rfl⟩
      subst hgl
      go_wp2_with fail
      go_loopw [7, 49] (fun vw vt wi => ∃ (t n cw gw : Nat) (ws : List Wx), vw = .slice (some ⟨gw, 0, none⟩) n cw ∧ vt = .int .i64 (t : Int) ∧ t ≤ 10 ∧ n ≤ 96 ∧ i < n ∧ Hid (n = ct i t ∧ IsT ws n) ∧ Hid (wi.ownsRow W3.heap.size 84 3 (.slice (some ⟨gw, 0, none⟩) n cw) n (ws.flatMap Wx.cells)) ∧ Hid (∀ x ∈ ws, Wxd wi x) ∧ Below W3.heap.size W3 wi) (fun _ vt _ => 10 - (Go.RowKit.intOf vt).toNat)
      case atStart => exact ⟨0, n, cw, gw, ws, rfl, rfl, by omega, hn96, hin, HI, HO2, HW2, hbW⟩
      case round =>
        clear HI HO2 HW2 hbW hn96 hin hd hiZ
        obtain ⟨t, n, cw, gw, ws, rfl, rfl, ht, hn96, hin, HI, HO, HW, hb⟩ := hrel
        by_cases h : t < 10
        · have hd : decide ((t : Int) < 10) = true := decide_eq_true (by omega)
          obtain ⟨y, hy⟩ : ∃ y, lw[t]? = some y := ⟨_, List.getElem?_eq_getElem (by omega)⟩
          have hyk : y.k = t + 1 := by
            have h1 := congrArg (·[t]?) hkL
            simp only [List.getElem?_map, hy, Option.map_some] at h1
            rcases (by omega : t = 0 ∨ t = 1 ∨ t = 2 ∨ t = 3 ∨ t = 4 ∨ t = 5 ∨ t = 6 ∨ t = 7 ∨ t = 8 ∨ t = 9) with rfl | rfl | rfl | rfl | rfl | rfl | rfl | rfl | rfl | rfl <;> exact Option.some.inj h1
          have hyr : rowsN y.k = 2 := by rw [hyk]; unfold rowsN; rw [if_pos (by omega)]
          have hyN : y.N = 4 := by unfold Wk.N; rw [hyr]
          have hyd := (hWL3.out y (List.mem_of_getElem? hy)).below hb
          have keepL : ∀ (p : Nat) (v : Value), W3.cell? ⟨gl, p, none⟩ = some v → wr.cell? ⟨gl, p, none⟩ = some v := fun p v hv => (hb.cell (World.block_lt_of_cell? _ _ hv)).trans hv
          have y0 := keepL _ _ (own_word hoL3.out t y hy 0 _ rfl)
          have y1 := keepL _ _ (own_word hoL3.out t y hy 1 _ rfl)
          have y2 := keepL _ _ (own_word hoL3.out t y hy 2 _ rfl)
          rw [Nat.add_zero] at y0
          rw [hyr] at y1
          rw [hyN] at y2
          have htZ : (t : Int) < 10 := by omega
          have hwl : ws.length = n := HI.out.2.len hn96
          obtain ⟨x, hx⟩ : ∃ x, ws[i]? = some x := ⟨_, List.getElem?_eq_getElem (by rw [hwl]; exact hin)⟩
          obtain ⟨hxk, hxz⟩ := HI.out.2.at hn96 hin hx
          have b5 := below_new wr (.cells #[.slice (some ⟨y.gk, 0, none⟩) 1 1, .int .i64 2, .slice (some ⟨y.gm, 0, none⟩) 4 4] 84)
          have hy5 := heap_alloc_new wr (.cells #[.slice (some ⟨y.gk, 0, none⟩) 1 1, .int .i64 2, .slice (some ⟨y.gm, 0, none⟩) 4 4] 84)
          have HO5 := hide (own_below HO.out b5)
          have HW5 : Hid (∀ x ∈ ws, Wxd _ x) := hide (fun x hx => (HW.out x hx).below b5)
          have hyd5 := hyd.below b5
          have hb5 := hb.trans (b5.mono hb.size)
          have hxd := HW5.out x (List.mem_of_getElem? hx)
          have x0 := own_wx HO5.out i x hx 0 _ rfl
          have x1 := own_wx HO5.out i x hx 1 _ rfl
          have x2 := own_wx HO5.out i x hx 2 _ rfl
          rw [Nat.add_zero] at x0
          clear HO HW hyd keepL hb b5
          have HXK := hide hxk
          have HXZ := hide hxz
          have HYK := hide hyk
          have HYR := hide hyr
          have HKL := hide hkL
          clear hxk hxz hyk hyr hyN hwl hx hy hkL
          go_wp2_with fail
          generalize hW5 : wr.alloc (.cells #[.slice (some ⟨y.gk, 0, none⟩) 1 1, .int .i64 2, .slice (some ⟨y.gm, 0, none⟩) 4 4] 84) = W5 at *
          clear hW5 y0 y1 y2
          have hks4 : x.ks.length ≤ 4 := by rw [HXK.out]; exact (row_out hi96).2.2.1
          have cC : ∀ W, Below W5.heap.size W5 W → Calls Tryd.prog 57 #[.slice x.ao x.ks.length x.c] W fun e w' => ∃ ao' c', e = .returned (.slice ao' x.ks.length c') ∧ w'.ownsRow W.heap.size 22 1 (.slice ao' x.ks.length c') x.ks.length (x.ks.map fun k => Value.int .i64 ((k : Nat) : Int)) ∧ Below W.heap.size W w' := fun W hW => kCloneAny x.ao x.c x.ks (by omega) W (hxd.row.below hW)
          have hyM : ∀ j, j < 4 → Cx (mbs y.k j) (mz y.k j) (-1) := fun j hj => mz_cx y.k j hyd5.le (by omega)
          have hyR : Rk W5 y.gm 34 4 (fun j => cx (mbs y.k j)) := by have := hyd5.mat; unfold Wk.N at this; rw [HYR.out] at this; exact this
          have cP : ∀ W, Below W5.heap.size W5 W → Calls Tryd.prog 44 #[.agg #[.int .i64 2, .slice (some ⟨y.gm, 0, none⟩) 4 4], .agg #[.int .i64 2, .slice (some ⟨x.gm, 0, none⟩) 4 4]] W fun e w' => ∃ (g : Nat) (f : Nat → Nat × Nat), e = .returned (.agg #[.int .i64 2, .slice (some ⟨g, 0, none⟩) 4 4]) ∧ Rk w' g 34 4 (fun j => cx (f j)) ∧ (∀ j, j < 4 → Cx (f j) (dotS 2 (mz y.k) (at4 x.z) (j / 2) (j % 2) 2) (-1 + -1)) ∧ W.heap.size ≤ g ∧ Below W.heap.size W w' := fun W hW =>
            gProduct_2 y.gm x.gm (mz y.k) (at4 x.z) (fun j => mbs y.k j) x.f (-1) (-1) (by decide) (by decide) (by decide) (by decide) W ⟨hyR.below hW, hyM, fun j hj => zle_mono (mz_le y.k j) (by decide)⟩ ⟨hxd.mat.below hW, hxd.val, fun j hj => zle_mono (hxd.small j hj) (by decide)⟩
          have HC := hide cC
          have HP := hide cP
          clear cC cP hyM hyR
          obtain ⟨i0, hi0, hz0, hz1, hz2⟩ := info_parts infoK
          have y0 := row3_0 hy5
          have y1 := row3_1 hy5
          have y2 := row3_2 hy5
          have HSX : Hid (∀ W, Below W5.heap.size W5 W → Below W5.heap.size W5 W ∧ W.cell? ⟨gw, i * 3, none⟩ = some (.slice x.ao x.ks.length x.c) ∧ W.cell? ⟨gw, i * 3 + 1, none⟩ = some (.int .i64 2) ∧ W.cell? ⟨gw, i * 3 + 2, none⟩ = some (.slice (some ⟨x.gm, 0, none⟩) 4 4) ∧ W.cell? ⟨wr.heap.size, 0, none⟩ = some (.slice (some ⟨y.gk, 0, none⟩) 1 1) ∧ W.cell? ⟨wr.heap.size, 1, none⟩ = some (.int .i64 2) ∧ W.cell? ⟨wr.heap.size, 2, none⟩ = some (.slice (some ⟨y.gm, 0, none⟩) 4 4)) := hide (fun W hW => ⟨hW, (hW.cell (World.block_lt_of_cell? _ _ x0)).trans x0, (hW.cell (World.block_lt_of_cell? _ _ x1)).trans x1, (hW.cell (World.block_lt_of_cell? _ _ x2)).trans x2, (hW.cell (World.block_lt_of_cell? _ _ y0)).trans y0, (hW.cell (World.block_lt_of_cell? _ _ y1)).trans y1, (hW.cell (World.block_lt_of_cell? _ _ y2)).trans y2⟩)
          have HNW : Hid (∀ W, Below W5.heap.size W5 W → ∀ j u, [Value.int .i64 ((y.k : Nat) : Int)][j]? = some u → W.cell? ((⟨y.gk, 0, none⟩ : Addr).add j) = some u) := hide (fun W hW j u hu => by
            have h0 : j = 0 := by
              rcases Nat.eq_zero_or_pos j with e | e
              · exact e
              · rw [List.getElem?_eq_none (by simp; omega)] at hu; cases hu
            subst h0
            rw [Addr.add_lit]
            have := (hyd5.kind.below hW).cell 0 (by omega)
            simp at hu
            rw [← hu]
            exact this)
          have HKM : Hid (∀ u ∈ [Value.int .i64 ((y.k : Nat) : Int)], u.oneCell' = true) := hide (fun u hu => by rw [List.mem_singleton] at hu; rw [hu]; rfl)
          have hbD : Below W5.heap.size W5 W5.drew := (Below.refl _ _).drew
          obtain ⟨kl, hkl⟩ : ∃ kl, x.ks.length = kl := ⟨_, rfl⟩
          have HKL2 := hide hkl
          rw [hkl] at HC HSX hks4
          clear x0 x1 x2 y0 y1 y2 hkl
          go_region_held3 (fun W => Below W5.heap.size W5 W ∧ W.cell? ⟨gw, i * 3, none⟩ = some (.slice x.ao kl x.c) ∧ W.cell? ⟨gw, i * 3 + 1, none⟩ = some (.int .i64 2) ∧ W.cell? ⟨gw, i * 3 + 2, none⟩ = some (.slice (some ⟨x.gm, 0, none⟩) 4 4) ∧ W.cell? ⟨wr.heap.size, 0, none⟩ = some (.slice (some ⟨y.gk, 0, none⟩) 1 1) ∧ W.cell? ⟨wr.heap.size, 1, none⟩ = some (.int .i64 2) ∧ W.cell? ⟨wr.heap.size, 2, none⟩ = some (.slice (some ⟨y.gm, 0, none⟩) 4 4))
            (first
              | exact HSX.out _ hbD
              | exact HSX.out _ (by assumption)
              | exact HSX.out _ (hb8.trans ((below_new _ _).mono hb8.size))
              | exact HSX.out _ (((hb8.setCell (p := ⟨_, 0, none⟩) hgn _).setCell (p := ⟨_, 1, none⟩) hgn _).setCell (p := ⟨_, 2, none⟩) hgn _)
              | exact HSX.out _ ((‹Below W5.heap.size W5 _ ∧ _›.1).trans ((below_new _ _).mono (‹Below W5.heap.size W5 _ ∧ _›.1).size)))
            (first
              | (refine step_append_lies _ rfl (.tmp 58) (.tmp 60) 50 rfl W5.heap.size 22 i0 (.int .i64 0) 1 8 Tryd.underlying50 hi0 hz0 hz1 hz2 rfl (by decide) (.slice aoc kl cc) kl _ (by simp [Act.eval]) (by first | exact hoC | exact hoC.alloc _) ⟨y.gk, 0, none⟩ 1 1 [.int .i64 ((y.k : Nat) : Int)] (by simp [Act.eval]) rfl (HNW.out _ (‹Below W5.heap.size W5 _ ∧ _›.1)) HKM.out (by decide) (by unfold maxLen; omega) (by omega) (‹Below W5.heap.size W5 _ ∧ _›.1).size _ rfl ?_
                 intro g7 c7 w7 hoA hgr hat hlt
                 have hb7 : Below W5.heap.size W5 w7 := (‹Below W5.heap.size W5 _ ∧ _›.1).grown hgr (‹Below W5.heap.size W5 _ ∧ _›.1).size (fun k hk => (hoC.lt k hk).1)
                 first
                   | replace hn := keepG hgr _ _ hn (fun e => by have h9 := (hoC0.lt _ e.symm).1; first | exact absurd h9 (Nat.not_succ_le_self W5.heap.size) | (rw [size_alloc] at h9; exact absurd h9 (Nat.not_succ_le_self W5.heap.size)) | (simp at h9; done) | (simp at h9; omega))
                   | (have hn := keepG hgr _ _ (heap_alloc_new _ (.cells #[.slice none 0 0, .int .i64 0, .slice none 0 0] 84)) (fun e => by have := (hoC.lt _ e.symm).2; omega); have hgn := hb6.size)
                   | skip)
              | (go_at_call 57; refine (HC.out _ (‹Below W5.heap.size W5 _ ∧ _›.1)).mono ?_; rintro e w6 ⟨aoc, cc, rfl, hoC0, q6⟩
                 have hoC := own_baseF hoC0 (‹Below W5.heap.size W5 _ ∧ _›.1).size
                 have hb6 : Below W5.heap.size W5 w6 := (‹Below W5.heap.size W5 _ ∧ _›.1).trans (q6.mono (‹Below W5.heap.size W5 _ ∧ _›.1).size)
                 first
                   | (have hn := keepO q6 _ _ (heap_alloc_new _ (.cells #[.slice none 0 0, .int .i64 0, .slice none 0 0] 84)); have hgn : W5.heap.size ≤ W5.drew.heap.size := Nat.le_refl _)
                   | skip)
              | (go_at_call 44; refine (HP.out _ (‹Below W5.heap.size W5 _ ∧ _›.1)).mono ?_; rintro e w8 ⟨g8, f8, rfl, r8, v8, hg8, q8⟩
                 have hb8 : Below W5.heap.size W5 w8 := (‹Below W5.heap.size W5 _ ∧ _›.1).trans (q8.mono (‹Below W5.heap.size W5 _ ∧ _›.1).size)
                 first
                   | (replace hn := keepO q8 _ _ hn; have f0 := frozen_row hn 0; have e0 := row3_0 hn; have h1 := fst3 hn (.slice (some ⟨g7, 0, none⟩) (kl + 1) c7); have f1 := frozen_row h1 1; have e1 := row3_1 h1; have h2 := snd3 h1 (.int .i64 2); have f2 := frozen_row h2 2; have e2 := row3_2 h2; have h3 := thd3 h2 (.slice (some ⟨g8, 0, none⟩) 4 4))
                   | (have hn := keepO q8 _ _ (heap_alloc_new _ (.cells #[.slice none 0 0, .int .i64 0, .slice none 0 0] 84)); have hgn := hb7.size; have f0 := frozen_row hn 0; have e0 := row3_0 hn; have h1 := fst3 hn (.slice (some ⟨g7, 0, none⟩) (kl + 1) c7); have f1 := frozen_row h1 1; have e1 := row3_1 h1; have h2 := snd3 h1 (.int .i64 2); have f2 := frozen_row h2 2; have e2 := row3_2 h2; have h3 := thd3 h2 (.slice (some ⟨g8, 0, none⟩) 4 4))
                   | skip))
          all_goals
            have own8 : w8.ownsRow W5.heap.size 22 1 (.slice (some ⟨g7, 0, none⟩) (kl + 1) c7) (kl + 1) ((x.ks.map fun k => Value.int .i64 ((k : Nat) : Int)) ++ [.int .i64 ((y.k : Nat) : Int)]) := by
              first
                | exact own_below hoA q8
                | exact own_below (hoA.alloc _) q8
            have K8 : Rk w8 g7 22 (kl + 1) (fun j => .int .i64 (((x.ks ++ [t + 1]).getD j 0 : Nat) : Int)) := (rk_own own8 _ (fun j hj => by
              have hl : (x.ks ++ [t + 1]).length = kl + 1 := by rw [List.length_append, HKL2.out]; rfl
              have he : (x.ks.map fun k => Value.int .i64 ((k : Nat) : Int)) ++ [.int .i64 ((y.k : Nat) : Int)] = (x.ks ++ [t + 1]).map fun k => Value.int .i64 ((k : Nat) : Int) := by rw [List.map_append, HYK.out]; rfl
              rw [he, List.getElem?_map, List.getElem?_eq_getElem (by omega), List.getD_eq_getElem?_getD, List.getElem?_eq_getElem (by omega)]
              rfl)).1
            obtain ⟨Y, hY⟩ : ∃ Y : Wx, Y = ⟨x.ks ++ [t + 1], prM (lt (t + 1)) (wt i).2, some ⟨g7, 0, none⟩, c7, g8, f8⟩ := ⟨_, rfl⟩
            have HYD : Hid (∀ WF, Rk WF g7 22 (kl + 1) (fun j => .int .i64 (((x.ks ++ [t + 1]).getD j 0 : Nat) : Int)) → Rk WF g8 34 4 (fun j => cx (f8 j)) → Wxd WF Y) := hide (fun WF hK hM => by
              rw [hY]
              refine new_word hi96 h HXZ.out (by rw [HKL2.out]; exact hK) hM (fun j hj => ?_)
              have := v8 j hj
              rw [HYK.out] at this
              exact this)
            have HYC : Hid (Y.cells = [.slice (some ⟨g7, 0, none⟩) (kl + 1) c7, .int .i64 2, .slice (some ⟨g8, 0, none⟩) 4 4]) := hide (by
              rw [hY]
              show [Value.slice _ (x.ks ++ [t + 1]).length _, _, _] = _
              rw [List.length_append, HKL2.out]
              rfl)
            have HYT : Hid ((Y.ks, Y.z) = ((wt i).1 ++ [t + 1], prM (lt (t + 1)) (wt i).2)) := hide (by rw [hY, ← HXK.out])
            have cW : ∀ (gn : Nat) (WF : World), WF.heap[gn]? = some (.cells #[.slice (some ⟨g7, 0, none⟩) (kl + 1) c7, .int .i64 2, .slice (some ⟨g8, 0, none⟩) 4 4] 84) → Wxd WF Y → Below W5.heap.size W5 WF → Calls Tryd.prog 58 #[.slice (some ⟨gw, 0, none⟩) n cw, .func (.func 59) #[] #[.pointer (some ⟨gn, 0, none⟩)]] WF fun e w' => e = .returned (.bool (conB n (prM (lt (t + 1)) (wt i).2))) ∧ Below WF.heap.size WF w' := fun gn WF hF hYd bF => by
              have hl : ws.length = n := HI.out.2.len hn96
              have := sContainsW gw cw W3.heap.size ws Y gn (by omega) WF (by rw [hl]; exact own_below HO5.out bF) (fun z hz => (HW5.out z hz).below bF) hYd (by
                have e := HYC.out
                unfold Wx.cells at e
                rw [hF]
                rw [List.cons.injEq, List.cons.injEq, List.cons.injEq] at e
                rw [e.1, e.2.2.1])
              rw [hl, HI.out.2.any, show Y.z = prM (lt (t + 1)) (wt i).2 by rw [hY]] at this
              exact this
            have FIN : Hid (∀ (gn : Nat) (WF : World), WF.heap[gn]? = some (.cells #[.slice (some ⟨g7, 0, none⟩) (kl + 1) c7, .int .i64 2, .slice (some ⟨g8, 0, none⟩) 4 4] 84) → Rk WF g7 22 (kl + 1) (fun j => .int .i64 (((x.ks ++ [t + 1]).getD j 0 : Nat) : Int)) → Rk WF g8 34 4 (fun j => cx (f8 j)) → Below W5.heap.size W5 WF → Calls Tryd.prog 58 #[.slice (some ⟨gw, 0, none⟩) n cw, .func (.func 59) #[] #[.pointer (some ⟨gn, 0, none⟩)]] WF fun e w' => e = .returned (.bool (conB n (prM (lt (t + 1)) (wt i).2))) ∧ w'.heap[gn]? = some (.cells #[.slice (some ⟨g7, 0, none⟩) (kl + 1) c7, .int .i64 2, .slice (some ⟨g8, 0, none⟩) 4 4] 84) ∧ Wxd w' Y ∧ Below W5.heap.size W5 w') := hide (fun gn WF hF hK hM bF => by
              have hYd := HYD.out WF hK hM
              refine (cW gn WF hF hYd bF).mono ?_
              rintro e w' ⟨rfl, q⟩
              exact ⟨rfl, keepO q _ _ hF, hYd.below q, bF.trans (q.mono bF.size)⟩)
            have HSO : Hid ((conB n (prM (lt (t + 1)) (wt i).2) = true → ct i (t + 1) = n) ∧ (conB n (prM (lt (t + 1)) (wt i).2) = false → WT[n]? = some ((wt i).1 ++ [t + 1], prM (lt (t + 1)) (wt i).2) ∧ ct i (t + 1) = n + 1)) := hide (by
              have so := step_out hi96 h
              rw [← HI.out.1] at so
              exact ⟨so.2.1, so.2.2.1⟩)
            generalize conB n (prM (lt (t + 1)) (wt i).2) = CB at *
            clear cW hY own8 hoA hoC hoC0 hgr hat hlt q8 q6 v8 hg8 hb6 hb7 hxd HC HP HNW HKM HSX hyd5 hi0 hz0 hz1 hz2 hy5 hbD
            go_wp2_with fail
            first
              | (have hF := heap_alloc_new w8 (.cells #[.slice (some ⟨g7, 0, none⟩) (kl + 1) c7, .int .i64 2, .slice (some ⟨g8, 0, none⟩) 4 4] 84)
                 have b9 := below_new w8 (.cells #[.slice (some ⟨g7, 0, none⟩) (kl + 1) c7, .int .i64 2, .slice (some ⟨g8, 0, none⟩) 4 4] 84)
                 refine (FIN.out _ _ hF (K8.below b9) (r8.below b9) (hb8.trans (b9.mono hb8.size))).mono ?_
                 clear hF b9)
              | (refine (FIN.out _ _ h3 (((K8.far (a := ⟨_, 0, none⟩) (rk_ne K8 hn (by decide)) _).far (a := ⟨_, 1, none⟩) (rk_ne K8 hn (by decide)) _).far (a := ⟨_, 2, none⟩) (rk_ne K8 hn (by decide)) _) (((r8.far (a := ⟨_, 0, none⟩) (rk_ne r8 hn (by decide)) _).far (a := ⟨_, 1, none⟩) (rk_ne r8 hn (by decide)) _).far (a := ⟨_, 2, none⟩) (rk_ne r8 hn (by decide)) _) (((hb8.setCell (p := ⟨_, 0, none⟩) hgn _).setCell (p := ⟨_, 1, none⟩) hgn _).setCell (p := ⟨_, 2, none⟩) hgn _)).mono ?_
                 clear h1 h2 h3 f0 f1 f2 e0 e1 e2)
            rintro e w9 ⟨rfl, hF9, hY9, b9⟩
            have HY9 := hide hY9
            have HO9 := hide (own_below HO5.out b9)
            have HW9 : Hid (∀ z ∈ ws, Wxd w9 z) := hide (fun z hz => (HW5.out z hz).below b9)
            have hb9 := hb5.trans (b9.mono hb5.size)
            have g0 := row3_0 hF9
            have g1 := row3_1 hF9
            have g2 := row3_2 hF9
            clear FIN HYD K8 r8 HO5 HW5 hY9 b9 hb8 hb5
            cases CB
            · have hs := HSO.out.2 rfl
              have hn95 : n < 96 := by
                have := (List.getElem?_eq_some_iff.1 hs.1).1
                rw [wt_len] at this
                exact this
              have HI2 : Hid (n + 1 = ct i (t + 1) ∧ IsT (ws ++ [Y]) (n + 1)) := hide ⟨hs.2.symm, HI.out.2.push (by rw [hs.1, HYT.out])⟩
              have hone : ∀ u ∈ [Value.slice (some ⟨g7, 0, none⟩) (kl + 1) c7, .int .i64 2, .slice (some ⟨g8, 0, none⟩) 4 4], u.oneCell' = true := by
                intro u hu
                simp at hu
                rcases hu with rfl | rfl | rfl <;> rfl
              have hs9 : W3.heap.size ≤ w9.heap.size := hb9.size
              clear hs HSO
              go_wp2_with (at_builtin; refine wpList_pushN rfl _ _ 81 rfl 84 Tryd.underlying81 _ 3 56 infoW rfl (by decide) W3.heap.size (some ⟨gw, 0, none⟩) n cw (ws.flatMap Wx.cells) rfl HO9.out [Value.slice (some ⟨g7, 0, none⟩) (kl + 1) c7, .int .i64 2, .slice (some ⟨g8, 0, none⟩) 4 4] _ rfl rfl hone w9.heap.size rfl rfl (by omega) (by omega) hs9 ?_)
              intro gx cx' w10 hown10 hgrow hat10
              have HO10 : Hid (w10.ownsRow W3.heap.size 84 3 (.slice (some ⟨gx, 0, none⟩) (n + 1) cx') (n + 1) ((ws ++ [Y]).flatMap Wx.cells)) := hide (by
                rw [List.flatMap_append]
                simp only [List.flatMap_cons, List.flatMap_nil, List.append_nil, HYC.out]
                exact hown10)
              have HW10 : Hid (∀ z ∈ ws ++ [Y], Wxd w10 z) := hide (fun z hz => by
                rcases List.mem_append.1 hz with hz | hz
                · exact (HW9.out z hz).grown HO9.out hgrow
                · rw [List.mem_singleton] at hz
                  rw [hz]
                  exact HY9.out.grown HO9.out hgrow)
              have hb10 := hb9.grown hgrow hb9.size (fun k hk => by have := (HO9.out.lt k (by rw [ob_eq]; exact hk)).1; omega)
              clear hown10 hgrow hat10 hF9 g0 g1 g2 HO9 HW9 HY9 hone HI hb9
              go_wp2_with fail
              exact ⟨⟨t + 1, n + 1, cx', gx, ws ++ [Y], rfl, by go_num, by omega, by omega, by omega, HI2, HO10, HW10, hb10⟩, by simp [Go.RowKit.intOf]; omega⟩
            · have HI2 : Hid (n = ct i (t + 1) ∧ IsT ws n) := hide ⟨(HSO.out.1 rfl).symm, HI.out.2⟩
              clear HSO HI hF9 g0 g1 g2
              go_wp2_with fail
              exact ⟨⟨t + 1, n, cw, gw, ws, rfl, by go_num, by omega, hn96, hin, HI2, HO9, HW9, hb9⟩, by simp [Go.RowKit.intOf]; omega⟩
        · have hd : decide ((t : Int) < 10) = false := decide_eq_false (by omega)
          have ht10 : t = 10 := by omega
          have HI2 : Hid (n = ct (i + 1) 0 ∧ IsT ws n) := hide (by
            have h1 := HI.out
            rw [ht10] at h1
            exact ⟨by rw [h1.1, (row_out hi96).2.2.2.2.2.2.2.1 (by omega)], h1.2⟩)
          have hin2 : i + 1 < n := by
            rw [HI2.out.1]
            exact (row_out (show i + 1 < 96 by omega)).2.2.2.2.2.1
          clear HI ht10
          go_wp2_with fail
          exact ⟨⟨i + 1, n, cw, gw, ws, rfl, by go_num, by omega, hn96, hin2, HI2, HO, HW, hb⟩, by simp [Go.RowKit.intOf]; omega⟩
    · have hiT2 := HE.out rfl
      have c0 := (hW.cell (World.block_lt_of_cell? _ _ k0)).trans k0
      have hKr := hxd.row.below hW
      rw [hxk, hiT2, HKT.out] at hKr
      have hks : x.ks.length = KT.length := by rw [hxk, hiT2, HKT.out]
      rw [hks] at c0
      have HKr := hide hKr
      clear hKr HE HE2 hks hiT2 hxk hxz hwl hx hxd k0 k1 k2
      go_wp2_with fail
      go_ret2
      exact ⟨x.ao, x.c, rfl, HKr.out, q3.trans (hbW.mono q3.size)⟩
end Go.Proofs.YtnhdgellckcnbaaDoor.Gt
/- GateSpells, walked. -/
namespace Go.Proofs.YtnhdgellckcnbaaDoor.Gt
open Go.RowKit Go.Proofs.YtnhdgellckcnbaaDoor.Oct Go.Proofs.YtnhdgellckcnbaaDoor.Dy

theorem mbs_unit : mbs 1 0 = (4607182418800017408, 0) ∧ mbs 1 1 = (0, 0) ∧ mbs 1 2 = (0, 0) ∧ mbs 1 3 = (4607182418800017408, 0) := by decide +kernel
theorem rk_unit (W : World) : Rk (W.alloc (.cells #[.complex .f64 4607182418800017408 0, .complex .f64 0 0, .complex .f64 0 0, .complex .f64 4607182418800017408 0] 34)) W.heap.size 34 4 (fun j => cx (mbs 1 j)) := by
  refine ⟨_, heap_alloc_new _ _, by simp, fun j hj => ?_⟩
  obtain ⟨h0, h1, h2, h3⟩ := mbs_unit
  rcases (by omega : j = 0 ∨ j = 1 ∨ j = 2 ∨ j = 3) with rfl | rfl | rfl | rfl
  · show _ = some (cx (mbs 1 0)); rw [h0]; rfl
  · show _ = some (cx (mbs 1 1)); rw [h1]; rfl
  · show _ = some (cx (mbs 1 2)); rw [h2]; rfl
  · show _ = some (cx (mbs 1 3)); rw [h3]; rfl
theorem cx_unit : ∀ j, j < 4 → Cx (mbs 1 j) (at4 (wt 0).2 j) (-1) := fun j hj => by
  rw [wt0.1, lt_mz ⟨1, by decide⟩ ⟨j, hj⟩ (by decide)]
  exact mz_cx 1 j (by decide) (by omega)
theorem fo_next (K : List Nat) {i k : Nat} (h : K[i]? = some k) : fo (K.take (i + 1)) = prM (lt k) (fo (K.take i)) := by
  unfold fo
  rw [List.take_add_one, h, List.foldl_append]
  rfl
theorem wt0k : (wt 0).1 = [] ∧ (wt 0).2 = fo [] := by decide +kernel
/-- A letter behind a word of the table: times answers another word's matrix. -/
theorem times_word (k T gm gp cm cp : Nat) (h1 : 1 ≤ k) (h2 : k ≤ 10) (hT : T < 96) (fp : Nat → Nat × Nat) (w : World) (hM : Rk w gm 34 4 (fun j => cx (mbs k j))) (hP : Rk w gp 34 4 (fun j => cx (fp j))) (vP : ∀ j, j < 4 → Cx (fp j) (at4 (wt T).2 j) (-1)) :
    ∃ T', T' < 96 ∧ (wt T').2 = prM (lt k) (wt T).2 ∧ (wt T').1.length ≤ (wt T).1.length + 1 ∧ Calls Tryd.prog 21 #[.slice (some ⟨gm, 0, none⟩) 4 cm, .slice (some ⟨gp, 0, none⟩) 4 cp] w fun e w' => ∃ (g : Nat) (f : Nat → Nat × Nat), e = .returned (.slice (some ⟨g, 0, none⟩) 4 4) ∧ Rk w' g 34 4 (fun j => cx (f j)) ∧ (∀ j, j < 4 → Cx (f j) (at4 (wt T').2 j) (-1)) ∧ Below w.heap.size w w' := by
  obtain ⟨t, rfl⟩ : ∃ t, k = t + 1 := ⟨k - 1, by omega⟩
  have so := step_out hT (show t < 10 by omega)
  obtain ⟨T', hT', e, hl⟩ := so.2.2.2
  refine ⟨T', hT', e, hl, ?_⟩
  refine (jTimes gm gp cm cp (mz (t + 1)) (at4 (wt T).2) (fun j => mbs (t + 1) j) fp w hM hP (fun j hj => mz_cx _ _ (by omega) (by omega)) vP (fun j _ => mz_le _ _) (fun j hj => at4_small hT hj)).mono ?_
  rintro e' w' ⟨g, f, rfl, hR, hv, hb⟩
  refine ⟨g, f, rfl, hR, fun j hj => ?_, hb⟩
  have hv1 := hv j hj
  rw [dot_lt (by omega) (by omega) (wt T).2 hj, so.1 j hj, show (-2 : Int) = -1 - 1 by decide] at hv1
  rw [e]
  exact cx_up hv1
theorem ord_same {p q : Nat × Nat} {z : Int × Int} (h : Cx p z (-1)) (k : Cx q z (-1)) (hz : zle z 2) : (ordB p.1 q.1 && ordB p.2 q.2) = true := by
  have a := fl_ord h.1 k.1 (by have := hz.1; omega) (by have := hz.1; omega) (by decide) (by decide)
  have b := fl_ord h.2 k.2 (by have := hz.2; omega) (by have := hz.2; omega) (by decide) (by decide)
  rw [decide_eq_true rfl] at a b
  unfold ordB
  rw [Bool.and_eq_true]
  exact ⟨a, b⟩
set_option maxRecDepth 100000 in
set_option maxHeartbeats 4000000 in
theorem xGateSpells (ao : Option Addr) (c : Nat) (l : List Int) (hl : l.length ≤ 1000000000000000) (w : World) (hT : Tb w) (hD : Td w) (hN : Ns w ao l) : Calls Tryd.prog 7 #[.slice ao l.length c] w fun e w' => e = .returned (.bool true) ∧ Below w.heap.size w w' := by
  have cN := jNum
  have b0 := below_new w (.cells #[.complex .f64 4607182418800017408 0, .complex .f64 0 0, .complex .f64 0 0, .complex .f64 4607182418800017408 0] 34)
  have r0 := rk_unit w
  have HN := hide hN
  obtain ⟨L, hL⟩ : ∃ L, l.length = L := ⟨_, rfl⟩
  have HL := hide hL
  rw [hL] at hl ⊢
  clear hN hL
  go_enter Tryd.func7, Tryd.ntmps7
  go_wp2_with fail
  generalize w.alloc (.cells #[.complex .f64 4607182418800017408 0, .complex .f64 0 0, .complex .f64 0 0, .complex .f64 4607182418800017408 0] 34) = W0 at *
  have R0 := hide r0
  clear r0
  go_loopw [3, 4, 5] (fun vp vn vi wr => ∃ (i nn T gp cp : Nat) (fp : Nat → Nat × Nat), vp = .slice (some ⟨gp, 0, none⟩) 4 cp ∧ vn = .int .i64 (nn : Int) ∧ vi = .int .i64 (i : Int) ∧ i ≤ L ∧ nn ≤ i ∧ T < 96 ∧ Hid ((wt T).1.length ≤ nn) ∧ Hid (Rk wr gp 34 4 (fun j => cx (fp j))) ∧ Hid (∀ j, j < 4 → Cx (fp j) (at4 (wt T).2 j) (-1)) ∧ Below w.heap.size w wr) (fun _ _ vi _ => L - (Go.RowKit.intOf vi).toNat)
  case atStart => exact ⟨0, 0, 0, w.heap.size, 4, fun j => mbs 1 j, rfl, rfl, rfl, by omega, by omega, by omega, hide (by rw [wt0k.1]; exact Nat.le_refl _), R0, hide cx_unit, b0⟩
  case round =>
    clear R0 b0
    obtain ⟨i, nn, T, gp, cp, fp, rfl, rfl, rfl, hi, hni, hT96, HT, HR, HV, hb⟩ := hrel
    by_cases h : i < L
    · have hd : decide ((i : Int) < (L : Int)) = true := decide_eq_true (by omega)
      obtain ⟨z, hz⟩ : ∃ z, l[i]? = some z := ⟨_, List.getElem?_eq_getElem (by rw [HL.out]; exact h)⟩
      obtain ⟨g, off, rfl, hcs⟩ := (HN.out.below hb).resolve_left (fun e => by rw [e] at hz; simp at hz)
      have hcell := hcs i z hz
      have hiZ : (i : Int) < (L : Int) := by omega
      clear hcs hz
      by_cases hk : 1 ≤ z ∧ z ≤ 20
      · obtain ⟨k, rfl⟩ : ∃ k : Nat, z = (k : Int) := ⟨z.toNat, by omega⟩
        have c1 := fun w hT hD => gMat k (by omega) (by omega) w hT hD
        unfold MPost at c1
        by_cases h10 : k ≤ 10
        · rw [show rowsN k = 2 by unfold rowsN; rw [if_pos h10]] at c1
          have hk1 : 1 ≤ k := by omega
          have HK := hide (⟨hk1, h10⟩ : 1 ≤ k ∧ k ≤ 10)
          clear hk h10 hk1
          go_wp2_with fail
          refine (c1 _ (hT.below hb) (hD.below hb)).mono ?_
          rintro e w1 ⟨gm, rfl, hRm, _, q1⟩
          have bA := below_new w1 (.cells #[.int .i64 2, .slice (some ⟨gm, 0, none⟩) 4 4] 25)
          have hma := heap_alloc_new w1 (.cells #[.int .i64 2, .slice (some ⟨gm, 0, none⟩) 4 4] 25)
          have hR2 := (HR.out.below q1).below bA
          replace hRm := hRm.below bA
          have q2 := hb.trans (q1.mono hb.size)
          replace q2 := q2.trans (bA.mono q2.size)
          have m0 := row2_0 hma
          have m1 := row2_1 hma
          have HR2 := hide hR2
          have HRm := hide hRm
          clear q1 bA hb HR c1 hR2 hRm
          go_wp2_with (go_at_call 10; refine (cN _ _).mono ?_; rintro e' w' ⟨rfl, hw⟩; obtain rfl := hw.symm)
          generalize w1.alloc (.cells #[.int .i64 2, .slice (some ⟨gm, 0, none⟩) 4 4] 25) = W2 at *
          obtain ⟨T', hT', hTz, hTl, cT⟩ := times_word k T gm gp 4 cp HK.out.1 HK.out.2 hT96 fp _ HRm.out HR2.out HV.out
          have HT2 : Hid ((wt T').1.length ≤ nn + 1) := hide (by have := HT.out; omega)
          clear HT HV hTz hTl HRm HR2
          refine cT.mono ?_
          rintro e w3 ⟨g3, f3, rfl, r3, v3, q3⟩
          have HR3 := hide r3
          have HV3 := hide v3
          replace q3 := q2.trans (q3.mono q2.size)
          clear cT r3 v3 m0 m1 hma q2
          go_wp2_with fail
          exact ⟨⟨i + 1, nn + 1, T', g3, 4, f3, rfl, by go_num, by go_num, by omega, by omega, hT', HT2, HR3, HV3, q3⟩, by simp [Go.RowKit.intOf]; omega⟩
        · have hne : ((rowsN k : Int) != 2) = true := by
            unfold rowsN
            rw [if_neg h10]
            split <;> rfl
          have hr8 : rowsN k ≤ 8 := by rcases rowsN_is k with e | e | e <;> omega
          generalize rowsN k = n at *
          clear hk h10
          go_wp2_with fail
          refine (c1 _ (hT.below hb) (hD.below hb)).mono ?_
          rintro e w1 ⟨gm, rfl, hRm, _, q1⟩
          have bA := below_new w1 (.cells #[.int .i64 (n : Int), .slice (some ⟨gm, 0, none⟩) (n * n) (n * n)] 25)
          have hma := heap_alloc_new w1 (.cells #[.int .i64 (n : Int), .slice (some ⟨gm, 0, none⟩) (n * n) (n * n)] 25)
          have HR2 := hide ((HR.out.below q1).below bA)
          have q2 := hb.trans (q1.mono hb.size)
          replace q2 := q2.trans (bA.mono q2.size)
          have m0 := row2_0 hma
          have m1 := row2_1 hma
          clear q1 bA hb HR c1 hRm
          go_wp2_with (go_at_call 10; refine (cN _ _).mono ?_; rintro e' w' ⟨rfl, hw⟩; obtain rfl := hw.symm)
          exact ⟨⟨i + 1, nn, T, gp, cp, fp, rfl, rfl, by go_num, by omega, by omega, hT96, HT, HR2, HV, q2⟩, by simp [Go.RowKit.intOf]; omega⟩
      · have c1 := fun w hT => gMat_no z hk w hT
        unfold MNone at c1
        clear hk
        go_wp2_with fail
        refine (c1 _ (hT.below hb)).mono ?_
        rintro e w1 ⟨rfl, q1⟩
        have bA := below_new w1 (.cells #[.int .i64 0, .slice none 0 0] 25)
        have hma := heap_alloc_new w1 (.cells #[.int .i64 0, .slice none 0 0] 25)
        have HR2 := hide ((HR.out.below q1).below bA)
        have q2 := hb.trans (q1.mono hb.size)
        replace q2 := q2.trans (bA.mono q2.size)
        clear q1 bA hb HR c1
        go_wp2_with (go_at_call 10; refine (cN _ _).mono ?_; rintro e' w' ⟨rfl, hw⟩; obtain rfl := hw.symm)
        exact ⟨⟨i + 1, nn, T, gp, cp, fp, rfl, rfl, by go_num, by omega, by omega, hT96, HT, HR2, HV, q2⟩, by simp [Go.RowKit.intOf]; omega⟩
    · have hd : decide ((i : Int) < (L : Int)) = false := decide_eq_false (by omega)
      obtain ⟨i0, hi0, hz0, hz1, hz2⟩ := info_parts infoC
      have hown : (wr.alloc (.cells #[] 34)).ownsRow wr.heap.size 34 1 (.slice (some ⟨wr.heap.size, 0, none⟩) 0 0) 0 [] := ⟨rfl, .inr ⟨wr.heap.size, 0, #[], rfl, Nat.le_refl _, heap_alloc_new _ _, Nat.le_refl _, by decide, rfl, rfl⟩⟩
      obtain ⟨NW, hNW⟩ : ∃ NW, (List.range 4).map (fun j => cx (fp j)) = NW := ⟨_, rfl⟩
      have hnews : ∀ j u, NW[j]? = some u → (wr.alloc (.cells #[] 34)).cell? ((⟨gp, 0, none⟩ : Addr).add j) = some u := fun j u hu => by
        rw [← hNW, List.getElem?_map] at hu
        have hj : j < 4 := by
          by_cases h4 : j < 4
          · exact h4
          · rw [List.getElem?_eq_none (by simp; omega)] at hu; cases hu
        rw [List.getElem?_range hj] at hu
        cases hu
        rw [Addr.add_lit, Nat.zero_add]
        exact (HR.out.below (below_new wr _)).cell j hj
      have hone : ∀ u ∈ NW, u.oneCell' = true := fun u hu => by
        rw [← hNW] at hu
        obtain ⟨j, _, rfl⟩ := List.mem_map.1 hu
        rfl
      have hlen : NW.length = 4 * 1 := by rw [← hNW]; simp
      have HNWE := hide hNW
      have hgpl := HR.out.lt
      clear hNW
      go_wp2_with (at_builtin; refine wpList_append_lies _ rfl _ _ 23 rfl wr.heap.size 34 i0 (.complex .f64 0 0) 1 16 Tryd.underlying23 hi0 hz0 hz1 hz2 rfl (by decide) _ 0 [] rfl hown ⟨gp, 0, none⟩ 4 cp NW rfl hlen hnews hone (by decide) (by decide) (by decide) (by simp) _ rfl ?_)
      intro gq cq w2 hown2 hgrow hat hlt
      have hb2 : Below wr.heap.size wr w2 := (below_new wr _).grown hgrow (by simp) (fun q hq => by simp [Value.ownBlock] at hq; omega)
      have HQ : Hid (Rk w2 gq 34 4 (fun j => cx (fp j))) := hide (rk_own hown2 _ (fun j hj => by
        rw [← HNWE.out, List.getElem?_map, List.getElem?_range hj]
        rfl)).1
      have HR2 := hide (HR.out.below hb2)
      have q2 := hb.trans (hb2.mono hb.size)
      clear hown hnews hone hlen hgrow hat hlt hown2 HR hb hb2 hi0 hz0 hz1 hz2 hgpl
      have cW := gWord T gq cq hT96 fp w2 (hT.below q2) (hD.below q2) HQ.out HV.out
      obtain ⟨K, hK⟩ : ∃ K, (wt T).1 = K := ⟨_, rfl⟩
      rw [hK] at cW
      have HK := hide hK
      have hkn : K.length ≤ nn := by rw [← hK]; exact HT.out
      have hk4 : K.length ≤ 4 := by rw [← hK]; exact (row_out hT96).2.2.1
      have hdk : decide ((nn : Int) < (K.length : Int)) = false := decide_eq_false (by omega)
      have hdn : decide (nn < K.length) = false := decide_eq_false (by omega)
      obtain ⟨kl, hkl⟩ : ∃ kl, K.length = kl := ⟨_, rfl⟩
      have HKL := hide hkl
      rw [hkl] at cW hkn hk4 hdk hdn
      clear hK hkl HT
      go_wp2_with fail
      refine cW.mono ?_
      rintro e w3 ⟨aw, cw, rfl, hKr, q3⟩
      have HKr := hide hKr
      rcases hKr with ⟨hK0, rfl, rfl⟩ | ⟨gk, rfl, _, _⟩
      have HK0 := hide hK0
      clear hK0
      all_goals
        have HR3 := hide (HR2.out.below q3)
        replace q3 := q2.trans (q3.mono q2.size)
        clear cW HR2 q2 HQ
        have bU := below_new w3 (.cells #[.complex .f64 4607182418800017408 0, .complex .f64 0 0, .complex .f64 0 0, .complex .f64 4607182418800017408 0] 34)
        have RU := hide (rk_unit w3)
        have HR4 := hide (HR3.out.below bU)
        have HKr4 := hide (HKr.out.below bU)
        have q4 := q3.trans (bU.mono q3.size)
        clear HR3 HKr q3 bU
        go_wp2_with (go_at_call 10; refine (cN _ _).mono ?_; rintro e' w' ⟨rfl, hw⟩; obtain rfl := hw.symm)
        generalize w3.alloc (.cells #[.complex .f64 4607182418800017408 0, .complex .f64 0 0, .complex .f64 0 0, .complex .f64 4607182418800017408 0] 34) = W4 at *
        go_loopw [10, 11] (fun vq vi wq => ∃ (i T2 g2 c2 : Nat) (fq : Nat → Nat × Nat), vq = .slice (some ⟨g2, 0, none⟩) 4 c2 ∧ vi = .int .i64 (i : Int) ∧ i ≤ kl ∧ T2 < 96 ∧ Hid ((wt T2).2 = fo (K.take i)) ∧ Hid (Rk wq g2 34 4 (fun j => cx (fq j))) ∧ Hid (∀ j, j < 4 → Cx (fq j) (at4 (wt T2).2 j) (-1)) ∧ Below W4.heap.size W4 wq) (fun _ vi _ => kl - (Go.RowKit.intOf vi).toNat)
        case atStart => exact ⟨0, 0, w3.heap.size, 4, fun j => mbs 1 j, rfl, rfl, by omega, by omega, hide (by rw [List.take_zero]; exact wt0k.2), RU, hide cx_unit, Below.refl _ _⟩
        case round =>
          clear RU
          obtain ⟨i, T2, g2, c2, fq, rfl, rfl, hi, hT2, HF, HQ, HVQ, hb4⟩ := hrel
          have hb := q4.trans (hb4.mono q4.size)
          have HKr := hide (HKr4.out.below hb4)
          have HR := hide (HR4.out.below hb4)
          by_cases h : i < kl
          · first
              | (exfalso; have h9 := HKL.out; rw [HK0.out] at h9; simp at h9; omega)
              | (have hd : decide ((i : Int) < (kl : Int)) = true := decide_eq_true (by omega)
                 obtain ⟨k, hk⟩ : ∃ k, K[i]? = some k := ⟨_, List.getElem?_eq_getElem (by rw [HKL.out]; exact h)⟩
                 have hkr : 1 ≤ k ∧ k ≤ 10 := (row_out hT96).2.1 k (by rw [HK.out]; exact List.mem_of_getElem? hk)
                 obtain ⟨gk', hgk, hne, hRk⟩ := HKr.out.resolve_left (fun e => by rw [e.1] at hk; simp at hk)
                 cases hgk
                 have hcell := hRk.cell i (by rw [HKL.out]; exact h)
                 rw [List.getD_eq_getElem?_getD, hk, Option.getD_some] at hcell
                 have hiZ : (i : Int) < (kl : Int) := by omega
                 have c1 := fun w hT hD => gMat k hkr.1 (by omega) w hT hD
                 unfold MPost at c1
                 rw [show rowsN k = 2 by unfold rowsN; rw [if_pos hkr.2]] at c1
                 have HFN := hide (fo_next K hk)
                 have HKk := hide hkr
                 clear hne hRk hk hkr
                 go_wp2_with fail
                 refine (c1 _ (hT.below hb) (hD.below hb)).mono ?_
                 rintro e w1 ⟨gm, rfl, hRm, _, q1⟩
                 have bA := below_new w1 (.cells #[.int .i64 2, .slice (some ⟨gm, 0, none⟩) 4 4] 25)
                 have hma := heap_alloc_new w1 (.cells #[.int .i64 2, .slice (some ⟨gm, 0, none⟩) 4 4] 25)
                 have HQ2 := hide ((HQ.out.below q1).below bA)
                 have h41 := hb4.trans (q1.mono hb4.size)
                 have h42 := h41.trans (bA.mono h41.size)
                 have HRm := hide (hRm.below bA)
                 have q2 := hb.trans (q1.mono hb.size)
                 replace q2 := q2.trans (bA.mono q2.size)
                 have m0 := row2_0 hma
                 have m1 := row2_1 hma
                 clear q1 bA hb HQ HR HKr c1 hRm h41 hb4
                 go_wp2_with (go_at_call 10; refine (cN _ _).mono ?_; rintro e' w' ⟨rfl, hw⟩; obtain rfl := hw.symm)
                 generalize w1.alloc (.cells #[.int .i64 2, .slice (some ⟨gm, 0, none⟩) 4 4] 25) = W2 at *
                 obtain ⟨T', hT', hTz, hTl, cT⟩ := times_word k T2 gm g2 4 c2 HKk.out.1 HKk.out.2 hT2 fq _ HRm.out HQ2.out HVQ.out
                 have HF2 : Hid ((wt T').2 = fo (K.take (i + 1))) := hide (by rw [hTz, HFN.out, HF.out])
                 clear HF HVQ hTz hTl HRm HQ2
                 refine cT.mono ?_
                 rintro e w5 ⟨g3, f3, rfl, r3, v3, q5⟩
                 have HQ3 := hide r3
                 have HV3 := hide v3
                 have h45 := h42.trans (q5.mono h42.size)
                 clear cT r3 v3 m0 m1 hma q2 h42 q5
                 go_wp2_with fail
                 exact ⟨⟨i + 1, T', g3, 4, f3, rfl, by go_num, by omega, hT', HF2, HQ3, HV3, h45⟩, by simp [Go.RowKit.intOf]; omega⟩)
          · have hd : decide ((i : Int) < (kl : Int)) = false := decide_eq_false (by omega)
            have hik : i = kl := by omega
            have HEQ : Hid ((wt T2).2 = (wt T).2) := hide (by
              rw [HF.out, hik, ← HKL.out, List.take_length, ← HK.out]
              exact (row_out hT96).1)
            clear HF HKr hik
            go_wp2_with fail
            go_loopw [14] (fun vi wz => ∃ i : Nat, vi = .int .i64 (i : Int) ∧ i ≤ 4 ∧ Hid (Rk wz g2 34 4 (fun j => cx (fq j))) ∧ Hid (Rk wz gp 34 4 (fun j => cx (fp j))) ∧ Below w.heap.size w wz) (fun vi _ => 4 - (Go.RowKit.intOf vi).toNat)
            case atStart => exact ⟨0, rfl, by omega, HQ, HR, hb⟩
            case round =>
              clear HQ HR hb
              obtain ⟨t, rfl, ht, HQ, HR, hb⟩ := hrel
              by_cases h4 : t < 4
              · have hd4 : decide ((t : Int) < 4) = true := decide_eq_true (by omega)
                have x1 : wr.cell? ⟨gp, t, none⟩ = some (.complex .f64 (fp t).1 (fp t).2) := HR.out.cell t h4
                have x2 : wr.cell? ⟨g2, t, none⟩ = some (.complex .f64 (fq t).1 (fq t).2) := HQ.out.cell t h4
                have hq4 := HVQ.out t h4
                rw [HEQ.out] at hq4
                have hne := fun W => neq_c _ _ _ _ (ord_same (HV.out t h4) hq4 (at4_small hT96 h4)) W
                have htZ : (t : Int) < 4 := by omega
                have HQ2 : Hid (∀ W, Below wr.heap.size wr W → Rk W g2 34 4 (fun j => cx (fq j))) := hide (fun W hW => HQ.out.below hW)
                have HR2 : Hid (∀ W, Below wr.heap.size wr W → Rk W gp 34 4 (fun j => cx (fp j))) := hide (fun W hW => HR.out.below hW)
                generalize fp t = P at *
                generalize fq t = Q at *
                clear HQ HR hq4
                go_wp2_with fail
                go_quiet (fail)
                go_wp2_with fail
                exact ⟨⟨t + 1, by go_num, by omega, hide (HQ2.out _ (below_drewN (Below.refl _ _) _)), hide (HR2.out _ (below_drewN (Below.refl _ _) _)), below_drewN hb _⟩, by simp [Go.RowKit.intOf]; omega⟩
              · have hd4 : decide ((t : Int) < 4) = false := decide_eq_false (by omega)
                go_wp2_with fail
                refine (jAlive _ (hT.below hb) (hD.below hb)).mono ?_
                rintro e w9 ⟨rfl, q9⟩
                replace q9 := hb.trans (q9.mono hb.size)
                go_wp2_with fail
                go_ret
                exact ⟨rfl, q9⟩
end Go.Proofs.YtnhdgellckcnbaaDoor.Gt
/- A slice of kinds that came in, opened. -/
namespace Go.Proofs.YtnhdgellckcnbaaDoor.Gt
open Go.ChangeShapes Go.WideShapes Go.ChangeAt Go.RowKit Go.Lib

theorem bytesOfK : Tryd.prog.bytesOf 22 = 8 := by kernel_rfl
theorem cellsK : Tryd.prog.cellsOf 22 = 1 := by kernel_rfl
set_option maxRecDepth 100000 in
theorem ks_open {H : Type} {enc : TypeId × Value → H} {W : World} {base : Nat} {v : Value} {d : DataW H} {p : List MemPlace} (hval : Value.okWide Tryd.prog W .any base 50 v)
    (h : DataW.Trod enc Tryd.prog W 0 (fun _ => true) true 50 v d p) :
    ∃ ao c us, v = .slice ao us.length c ∧ Ns W ao us ∧ us.length ≤ c ∧ ((d = .nil ∧ us = []) ∨ ∃ elems spare, d = .slice elems spare ∧ elems.length = us.length) := by
  obtain ⟨a0, len, cap, rfl⟩ := okWide_slice Tryd.underlying50 hval
  obtain ⟨fuel, hf⟩ := h
  rcases open_ints Tryd.underlying50 Tryd.underlying22 cellsK hf with ⟨hcs, hx⟩ | ⟨a, len', cap', zs, hcs, _, hl, hm, hz, hx, hcell, hwz⟩
  · simp [Value.cells] at hcs
    obtain ⟨rfl, rfl, rfl⟩ := hcs
    simp only [Prod.mk.injEq] at hx
    exact ⟨none, 0, [], rfl, .inl rfl, by simp, .inl ⟨hx.1, rfl⟩⟩
  · simp [Value.cells] at hcs
    obtain ⟨rfl, rfl, rfl⟩ := hcs
    simp only [Prod.mk.injEq] at hx
    simp only [if_true] at hz
    have hlen : (zs.take len).length = len := by simp; omega
    refine ⟨some a, cap, zs.take len, by rw [hlen], ?_, by omega, .inr ⟨_, _, hx.1, by simp [lits]⟩⟩
    by_cases h0 : len = 0
    · left
      exact List.eq_nil_of_length_eq_zero (by rw [hlen]; exact h0)
    · right
      obtain ⟨g, off, rfl, hc⟩ := ints_at hcell (by omega)
      refine ⟨g, off, rfl, fun j b hj => ?_⟩
      have hjl : j < len := by have := (List.getElem?_eq_some_iff.1 hj).1; rw [hlen] at this; exact this
      have h1 := hc j (by omega)
      rw [h1]
      simp only [List.getElem?_take, hjl, if_true] at hj
      have e1 : zs.getD j 0 = b := by simp [List.getD, hj]
      rw [e1]
end Go.Proofs.YtnhdgellckcnbaaDoor.Gt
/- GateSpells answers true for every row of kinds: the word that gate.Word answers of the row's product is no longer than the row's gates of one qubit, and has the same product. Condition: the two listed variables lie as the program's text lays them (the card ties them to the text). -/
namespace Go.Proofs.YtnhdgellckcnbaaDoor.Gt
open Go.ChangeShapes Go.WideShapes Go.ChangeAt Go.RowKit
namespace gateSpells
theorem readable : ∀ t ∈ Tryd.f7.params.toList, Tryd.prog.readableRec t = true ∧ t < Tryd.prog.types.size := by
  rw [Tryd.params7]
  intro t ht
  simp at ht
  rcases ht with rfl <;> exact ⟨by kernel_rfl, of_decide_eq_true (by kernel_rfl)⟩
set_option maxRecDepth 100000 in
theorem contract (H : Type) (enc : TypeId × Value → H) (W : World) (base : Nat) (args : Array Value) (ds gs : List (DataW H)) (before : List MemPlace)
    (hval : ∀ (j : Nat) t v, Tryd.f7.params[j]? = some t → args[j]? = some v → Value.okWide Tryd.prog W .any base t v)
    (hW : DataW.Whole enc Tryd.prog Tryd.f7.params.toList Rows.gateSpellsSpec.vars false W args.toList ds gs before) 
    (hsz : (DataW.weightsEach Tryd.prog (Tryd.f7.params.toList ++ (OpenSpec.ofChange Rows.gateSpellsSpec).bare.plain.varTypes Tryd.prog) (ds ++ gs)).all (· ≤ reachBytes) = true) (hL : laidMetH Tryd.prog Rows.gateSpellsRow.laid W) :
    Calls Tryd.prog 7 args W fun e W' => ∃ v, e = .returned v ∧ Rows.gateSpellsSpec.post enc Tryd.prog Tryd.f7 false true false false W args v W' := by
  have hT : Tb W ∧ Td W := tg_of (plain8 hL)
  have hW0 := hW
  obtain ⟨p, q, hA, hV, rfl, _, _⟩ := hW
  obtain ⟨rfl, rfl⟩ := trodVars_none hV
  have hA' : DataW.TrodAll enc Tryd.prog W 0 (fun _ => true) true Tryd.f7.params.toList args.toList ds p := hA
  rw [Tryd.params7] at hA' hval
  have hfin : ∀ dd : List (DataW H), ds = dd → (Rows.gateSpellsSpec.fn H dd).results = [.lit (.bool true)] ∧ (Rows.gateSpellsSpec.fn H dd).args = dd ∧ (Rows.gateSpellsSpec.fn H dd).vars = [] → ∀ W', Below W.heap.size W W' → Rows.gateSpellsSpec.post enc Tryd.prog Tryd.f7 false true false false W args (.bool true) W' := by
    rintro dd rfl hs W' hb
    exact law_post (enc := enc) Tryd.f7 Rows.gateSpellsSpec 4 laidOut rfl readable (by kernel_rfl) Tryd.underlying4 hW0 hs hb
  obtain ⟨v0, d0, rfl, rfl, h0⟩ := trodAll_one hA'
  have hwalk : Calls Tryd.prog 7 #[v0] W fun e W' => e = .returned (.bool true) ∧ Below W.heap.size W W' := by
    obtain ⟨ao, c, us, rfl, hus, _, hd⟩ := ks_open (hval 0 _ v0 rfl rfl) h0
    have hr : reachBytes = 140737488351232 := rfl
    have hl : us.length ≤ 17592186044414 := by
      rcases hd with ⟨_, rfl⟩ | ⟨elems, spare, rfl, hel⟩
      · exact Nat.zero_le _
      · have hs := sized_slice hsz (j := 0) (t := 50) (e := 22) (elems := elems) (spare := spare) (by rw [Tryd.params7]; rfl) rfl Tryd.underlying50
        rw [bytesOfK, hr] at hs
        omega
    exact xGateSpells ao c us (by omega) W hT.1 hT.2 hus
  refine hwalk.mono ?_
  rintro e W' ⟨rfl, hb⟩
  exact ⟨_, rfl, hfin _ rfl ⟨rfl, rfl, rfl⟩ W' hb⟩
theorem laid_met (os : Os) (args : Array Value) : laidMet Tryd.prog Rows.gateSpellsRow.laid ((laidWorld os).forCall (fun _ _ => 0) ⟨#[], args, []⟩).memory :=
  laid_met8 os args
theorem reads (os : Os) {H : Type} (enc : TypeId × Value → H) : ∃ places, DataW.whole enc Tryd.prog ((laidWorld os).forCall (fun _ _ => 0) ⟨#[], #[.slice none 0 0], []⟩).memory Tryd.f7.params.toList Rows.gateSpellsSpec.vars false #[(.slice none 0 0 : Value)].toList 8 = some ([.nil], [], places) :=
  ⟨[], by kernel_rfl⟩

set_option maxRecDepth 100000 in
theorem lifted (os : Os) (started : os.Started) (H : Type) (enc : TypeId × Value → H) (F : Stop.Interp) :
    ReturnsInHanded {} Tryd.checked os 7 .any ((OpenSpec.ofChange Rows.gateSpellsSpec).preRow enc Tryd.prog Tryd.f7 Rows.gateSpellsRow.domain false Rows.gateSpellsRow.laid) (((OpenSpec.ofChange Rows.gateSpellsSpec).at F).post enc Tryd.prog Tryd.f7 false true false false) := by
  obtain ⟨places, hx⟩ := reads os enc
  refine returnsInHanded_of_row (C := Tryd.checked) (s := OpenSpec.ofChange Rows.gateSpellsSpec) own started (by kernel_rfl) Tryd.func7
    (witness_row_shaped (enc := enc) (C := Tryd.checked) false (laidWorld os) #[.slice none 0 0] (laidWorld_os os) (shaped8 os _) (by kernel_rfl)
      (OpenSpec.preRow_of_cond 8 hx (by kernel_rfl) (fun k hk => by cases hk) (by kernel_rfl) (laid_met os _))) ?_
  intro W base args ds gs before hval hW _ _ hsz hL _ _
  exact contract H enc W base args ds gs before hval hW hsz hL
theorem said : Rows.GateSpellsSaid :=
  OpenClaim.holds_of_cond 7 Tryd.f7 rfl rfl rfl rfl rfl rfl rfl ⟨rfl, rfl, rfl, rfl, rfl⟩ rfl rfl rfl rfl rfl (by kernel_rfl) Tryd.func7 (by kernel_rfl)
    (of_decide_eq_true (by kernel_rfl)) (by unfold Func.isWrapper; first | (rw [if_pos (by decide +kernel)]; kernel_rfl) | (rw [if_neg (by decide +kernel)]; exact ⟨rfl, rfl⟩))
    (fun os started H enc _ F => by rw [OpenClaim.pre_eq_preRow]; exact lifted os started H enc F)
/-- No parameter wants a stand-in; the program's own looks are off. -/
theorem plain (f : FuncId) (fn : Func) (hf : Tryd.pinned.checked.prog.funcNamed "phasor/phasorlaw06.GateSpells" = some f) (hfn : Tryd.pinned.checked.prog.funcs[f]? = some fn) :
    false = Tryd.pinned.checked.prog.looks [] ∧ ∀ (j : Nat) t, fn.params[j]? = some t → Tryd.pinned.checked.prog.wantsStandIn t = false := by
  obtain rfl : f = 7 := Option.some.inj ((show Tryd.prog.funcNamed "phasor/phasorlaw06.GateSpells" = some 7 by kernel_rfl).symm.trans hf) |>.symm
  obtain rfl : fn = Tryd.f7 := (Option.some.inj (Tryd.func7.symm.trans hfn)).symm
  refine ⟨by kernel_rfl, fun j t ht => ?_⟩
  rw [Tryd.params7] at ht
  have hm := Array.mem_of_getElem? ht
  simp at hm
  rcases hm with rfl
  · exact (show Tryd.prog.wantsStandIn 50 = false by kernel_rfl)
end gateSpells
end Go.Proofs.YtnhdgellckcnbaaDoor.Gt
namespace Go.Proofs.YtnhdgellckcnbaaDoor
open Go
/-- The card. -/
theorem GateSpells_card : Rows.GateSpellsCardSaid :=
  Claim7.holds_tied_plain_at .later [] _ _ _ _ Gt.gateSpells.said (fun _ h => by cases h) (by kernel_rfl) (fun _ h => by cases h) gateSpells_row_tie rfl ⟨rfl, rfl⟩ (by kernel_rfl) rfl Gt.gateSpells.plain (by kernel_rfl)
end Go.Proofs.YtnhdgellckcnbaaDoor
