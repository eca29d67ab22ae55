/- Package gate: what placed hands back, as it is walked. -/
import Derived.Test.YtnhdgellckcnbaaDoorAq
import Derived.Test.YtnhdgellckcnbaaDoorAo
namespace Go.Proofs.YtnhdgellckcnbaaDoor.Gt
open Go.RowKit Go.Proofs.YtnhdgellckcnbaaDoor.Oct Go.Proofs.YtnhdgellckcnbaaDoor.Dy

/-- What the first rows of a place put to the amplitudes. -/
def rwG (k n : Nat) (l : List Nat) (v : Int × Int) (p col : Nat) (F : Nat → Int × Int) : Nat → Nat → Int × Int
  | 0 => F
  | r + 1 => fun j => if j = scG p r l l.length then zadd (rwG k n l v p col F r j) (zmul (mz k (n * r + col)) v) else rwG k n l v p col F r j
/-- The amplitudes behind the first places. -/
def plG (k n : Nat) (l : List Nat) (V : Nat → Int × Int) : Nat → Nat → Int × Int
  | 0 => fun _ => (0, 0)
  | p + 1 => if V p = (0, 0) then plG k n l V p else rwG k n l (V p) p (gaG p l l.length) (plG k n l V p) n
theorem rwG_le {k n : Nat} {l : List Nat} {v : Int × Int} {p col : Nat} {F : Nat → Int × Int} {B M : Nat} (hv : zle v B) (hF : ∀ j, zle (F j) M) : ∀ r j, zle (rwG k n l v p col F r j) (M + r * (4 * B))
  | 0, j => by rw [rwG]; exact ⟨Nat.le_trans (hF j).1 (by omega), Nat.le_trans (hF j).2 (by omega)⟩
  | r + 1, j => by
    have ih := rwG_le (k := k) (n := n) (l := l) (p := p) (col := col) hv hF r j
    show zle (if j = scG p r l l.length then zadd (rwG k n l v p col F r j) (zmul (mz k (n * r + col)) v) else rwG k n l v p col F r j) _
    split
    · have hm := zmul_le (mz_le k (n * r + col)) hv
      have := zadd_le ih hm
      refine ⟨Nat.le_trans this.1 ?_, Nat.le_trans this.2 ?_⟩ <;> (rw [Nat.add_mul]; omega)
    · refine ⟨Nat.le_trans ih.1 ?_, Nat.le_trans ih.2 ?_⟩ <;> (rw [Nat.add_mul]; omega)
theorem plG_le {k n : Nat} {l : List Nat} {V : Nat → Int × Int} {B S : Nat} (hV : ∀ j, j < S → zle (V j) B) : ∀ p, p ≤ S → ∀ j, zle (plG k n l V p j) (p * (n * (4 * B)))
  | 0, _, j => by rw [plG]; exact ⟨by simp, by simp⟩
  | p + 1, h, j => by
    have ih := plG_le (k := k) (n := n) (l := l) hV p (by omega)
    rw [plG]
    split
    · refine ⟨Nat.le_trans (ih j).1 ?_, Nat.le_trans (ih j).2 ?_⟩ <;> (rw [Nat.add_mul]; omega)
    · have := rwG_le (k := k) (n := n) (l := l) (p := p) (col := gaG p l l.length) (hV p (by omega)) ih n j
      refine ⟨Nat.le_trans this.1 ?_, Nat.le_trans this.2 ?_⟩ <;> (rw [Nat.add_mul (p) 1]; omega)
theorem gaG_pow (p : Nat) (l : List Nat) : ∀ i, gaG p l i < 2 ^ i
  | 0 => by rw [gaG]; decide
  | i + 1 => by
    rw [gaG]
    have h1 := gaG_pow p l i
    have h2 := bitN_lt p (l.getD i 0)
    refine Nat.or_lt_two_pow ?_ ?_
    · rw [Nat.pow_succ]; omega
    · have : bitN p (l.getD i 0) * 2 ^ i ≤ 1 * 2 ^ i := Nat.mul_le_mul_right _ (by omega)
      rw [Nat.pow_succ]
      have := Nat.two_pow_pos i
      omega
theorem scG_pow (p x : Nat) (l : List Nat) (s : Nat) (hp : p < 2 ^ s) : ∀ i, (∀ j, j < i → l.getD j 0 < s) → scG p x l i < 2 ^ s
  | 0, _ => hp
  | i + 1, h => by
    rw [scG]
    have h1 := scG_pow p x l s hp i (fun j hj => h j (by omega))
    have h2 := bitN_lt x i
    refine Nat.or_lt_two_pow (by omega) ?_
    have h3 : bitN x i * 2 ^ l.getD i 0 ≤ 1 * 2 ^ l.getD i 0 := Nat.mul_le_mul_right _ (by omega)
    have h4 : 2 ^ l.getD i 0 < 2 ^ s := Nat.pow_lt_pow_right (by decide) (h i (by omega))
    omega
theorem Nr.below {w w' : World} {g : Nat} {l : List Nat} (h : Nr w g l) (hb : Below w.heap.size w w') : Nr w' g l := Rk.below h hb
theorem below_eq {w w' : World} (h : w' = w) : Below w.heap.size w w' := by rw [h]; exact Below.refl _ _
theorem below_far {B : Nat} {a w w' : World} (h : Below B a w) (hm : ∃ m, w' = w.drewN m) : Below B a w' := by
  obtain ⟨m, rfl⟩ := hm
  exact below_drewN h m

end Go.Proofs.YtnhdgellckcnbaaDoor.Gt
