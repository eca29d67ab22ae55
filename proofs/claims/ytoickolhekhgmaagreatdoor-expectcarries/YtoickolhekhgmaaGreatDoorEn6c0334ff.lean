import Derived.Test.YtoickolhekhgmaaGreatDoorEnec092577
namespace Go.Proofs.YtoickolhekhgmaaGreatDoor.Gt
end Go.Proofs.YtoickolhekhgmaaGreatDoor.Gt
namespace Go.Proofs.YtoickolhekhgmaaGreatDoor.Oct
end Go.Proofs.YtoickolhekhgmaaGreatDoor.Oct
namespace Go.Proofs.YtoickolhekhgmaaGreatDoor.Pau
open Go.RowKit Go.Shelf Go.Proofs.YtoickolhekhgmaaGreatDoor.Oct Go.Proofs.YtoickolhekhgmaaGreatDoor.Gt
theorem im_tab : ∀ k : Fin 18, ∀ t : Fin 2, ∀ j : Fin 3, 1 <= k.1 -> t.1 < ar k.1 -> j.1 ≠ 1 -> (im k.1 t.1 j.1).length = ar k.1 + 1 /\ sgn (im k.1 t.1 j.1) = (ip k.1 t.1 j.1).ph /\ ∀ s : Fin 2, s.1 < ar k.1 -> cx ((im k.1 t.1 j.1).getD (s.1 + 1) 0) = bt (ip k.1 t.1 j.1).x s.1 /\ cz ((im k.1 t.1 j.1).getD (s.1 + 1) 0) = bt (ip k.1 t.1 j.1).z s.1 := by decide +kernel
theorem lw_ldw {f : UInt8 -> Nat} {l : List UInt8} {x m : Nat} (ns : List Nat) (h : ∀ s, s < m -> f (l.getD (s + 1) 0) = bt x s) : ∀ t, t <= m -> lw f l ns t = ldw x ns t
  | 0, _ => rfl
  | t + 1, ht => by rw [lw, ldw, lw_ldw ns h t (by omega), h t (by omega)]
theorem ar_le (k : Nat) : ar k <= 2 := by unfold ar; split <;> omega
theorem ar_pos (k : Nat) : 1 <= ar k := by unfold ar; split <;> omega
theorem im_len {k t j : Nat} (h1 : 1 <= k) (h2 : k < 18) (ht : t < ar k) (hj : j < 3) (hj1 : j ≠ 1) : (im k t j).length = ar k + 1 :=
  (im_tab ⟨k, h2⟩ ⟨t, by have := ar_le k; omega⟩ ⟨j, hj⟩ h1 ht hj1).1
theorem le_ld {k t j : Nat} (h1 : 1 <= k) (h2 : k < 18) (ht : t < ar k) (hj : j < 3) (hj1 : j ≠ 1) (ns : List Nat) (hl : ns.length = ar k) (n : Int) : leP (im k t j) ns n = ldP (ip k t j) ns n := by
  obtain ⟨-, a2, a3⟩ := im_tab ⟨k, h2⟩ ⟨t, by have := ar_le k; omega⟩ ⟨j, hj⟩ h1 ht hj1
  have hx : ∀ s, s < ar k -> cx ((im k t j).getD (s + 1) 0) = bt (ip k t j).x s := fun s hs => (a3 ⟨s, by have := ar_le k; omega⟩ hs).1
  have hz : ∀ s, s < ar k -> cz ((im k t j).getD (s + 1) 0) = bt (ip k t j).z s := fun s hs => (a3 ⟨s, by have := ar_le k; omega⟩ hs).2
  unfold leP ldP
  rw [hl, lw_ldw ns hx _ (Nat.le_refl _), lw_ldw ns hz _ (Nat.le_refl _)]
  rw [show sgn (im k t j) = (ip k t j).ph from a2]
theorem mulR_ph (a b : P) : 0 <= (mulR a b).1.ph /\ (mulR a b).1.ph <= 3 := by
  unfold mulR
  split
  . show 0 <= mulPh a b /\ mulPh a b <= 3
    unfold mulPh
    omega
  . exact ⟨by decide, by decide⟩
def Sq (W : World) (gi m : Nat) (sv : Nat -> List UInt8) : Prop := ∀ j, j < m -> W.cell? ⟨gi, j, none⟩ = some (str (sv j))
structure St (w W : World) (g gi m : Nat) (sv : Nat -> List UInt8) (n : Int) (x z : Nat) (ph bn : Int) (bx bz : Nat) (bp : Int) : Prop where
  below : Below w.heap.size w W
  one : At4 W w.heap.size (.int .i64 n) (.int .u64 (x : Int)) (.int .u64 (z : Int)) (.int .i64 ph)
  out : At4 W (w.heap.size + 1) (.int .i64 0) (.int .u64 0) (.int .u64 0) (.int .i64 0)
  row : At4 W g (.int .i64 bn) (.int .u64 (bx : Int)) (.int .u64 (bz : Int)) (.int .i64 bp)
  sq : Sq W gi m sv
  hg : w.heap.size + 1 < g
  hi : gi ≠ g
section
variable {w W U : World} {g gi m : Nat} {sv : Nat -> List UInt8} {n : Int} {x z : Nat} {ph bn : Int} {bx bz : Nat} {bp : Int}
theorem Sq.below (h : Sq W gi m sv) (hb : Below W.heap.size W U) : Sq U gi m sv := fun j hj => cell_below (h j hj) hb
theorem Sq.off (h : Sq W gi m sv) (hk : gi ≠ g) (i : Nat) (v : Value) : Sq (W.setCell ⟨g, i, none⟩ v) gi m sv := fun j hj => (World.cell?_of_block (a := ⟨gi, j, none⟩) (Below.heap_setCell _ _ _ _ hk)).trans (h j hj)
theorem Sq.offRow (h : Sq W gi m sv) (hk : gi ≠ g) (cs : Array Value) : Sq (W.setRow g cs) gi m sv := fun j hj => (World.cell?_of_block (a := ⟨gi, j, none⟩) (setRow_other W g gi cs hk)).trans (h j hj)
theorem St.up' (h : St w W g gi m sv n x z ph bn bx bz bp) (hb : Below W.heap.size W U) : St w U g gi m sv n x z ph bn bx bz bp :=
  ⟨bkp h.below hb, h.one.below hb, h.out.below hb, h.row.below hb, h.sq.below hb, h.hg, h.hi⟩
theorem St.set1 (h : St w W g gi m sv n x z ph bn bx bz bp) (v : Nat) : St w (W.setCell ⟨g, 1, none⟩ (.int .u64 (v : Int))) g gi m sv n x z ph bn v bz bp :=
  ⟨h.below.setCell (p := ⟨g, 1, none⟩) (show w.heap.size <= g by have := h.hg; omega) _, h.one.off (by have := h.hg; omega), h.out.off (by have := h.hg; omega), h.row.set1 _, h.sq.off h.hi _ _, h.hg, h.hi⟩
theorem St.set2 (h : St w W g gi m sv n x z ph bn bx bz bp) (v : Nat) : St w (W.setCell ⟨g, 2, none⟩ (.int .u64 (v : Int))) g gi m sv n x z ph bn bx v bp :=
  ⟨h.below.setCell (p := ⟨g, 2, none⟩) (show w.heap.size <= g by have := h.hg; omega) _, h.one.off (by have := h.hg; omega), h.out.off (by have := h.hg; omega), h.row.set2 _, h.sq.off h.hi _ _, h.hg, h.hi⟩
theorem St.set3 (h : St w W g gi m sv n x z ph bn bx bz bp) (v : Int) : St w (W.setCell ⟨g, 3, none⟩ (.int .i64 v)) g gi m sv n x z ph bn bx bz v :=
  ⟨h.below.setCell (p := ⟨g, 3, none⟩) (show w.heap.size <= g by have := h.hg; omega) _, h.one.off (by have := h.hg; omega), h.out.off (by have := h.hg; omega), h.row.set3 _, h.sq.off h.hi _ _, h.hg, h.hi⟩
theorem St.setR (h : St w W g gi m sv n x z ph bn bx bz bp) (rn : Int) (rx rz : Nat) (rp : Int) : St w (W.setRow g #[.int .i64 rn, .int .u64 (rx : Int), .int .u64 (rz : Int), .int .i64 rp]) g gi m sv n x z ph rn rx rz rp :=
  ⟨below_setRow h.below (show w.heap.size <= g by have := h.hg; omega) _, h.one.offRow (by have := h.hg; omega), h.out.offRow (by have := h.hg; omega), h.row.row, h.sq.offRow h.hi _, h.hg, h.hi⟩
end
end Go.Proofs.YtoickolhekhgmaaGreatDoor.Pau
