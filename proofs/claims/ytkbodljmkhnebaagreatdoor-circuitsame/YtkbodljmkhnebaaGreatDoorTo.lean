/- Args up to their end. -/
import Derived.Test.YtkbodljmkhnebaaGreatDoorTn
namespace Go.Proofs.YtkbodljmkhnebaaGreatDoor.Cir
open Go.RowKit Go.Shelf Go.Proofs.YtkbodljmkhnebaaGreatDoor.Oct Go.Proofs.YtkbodljmkhnebaaGreatDoor.Tok Go.Proofs.YtkbodljmkhnebaaGreatDoor.Gt

theorem eArgs1 : ∀ args w, (callFunc 207 args).run Tryz.prog w = .ok (.enter 207 args) w := enters_of Tryz.func207 (by kernel_rfl) rfl
/-- What args answers. -/
def PA (R : Nat) (x : X) (o : Value) (w : World) (P : Res (List Ag)) (e : Ending) (w' : World) : Prop := match P with
  | .ok l ts' => ∃ ao c, e = .returned (.tuple #[.slice ao l.length c, .nilIface]) ∧ w'.ownsRow w.heap.size 230 3 (.slice ao l.length c) l.length (l.flatMap agC) ∧ l.length ≤ 4398046511104 ∧ Rt w' R x o ts' ∧ Kb [R] w w'
  | .no c t => (∃ ao n c', e = .returned (.tuple #[.slice ao n c', erV c t])) ∧ Kb [R] w w'
/-- What is read where a row of args ends. -/
abbrev SB (R br bl : Nat) (u : Value) (V : World) : Prop := V.cell? ⟨bl, 0, none⟩ = some u ∧ V.cell? ⟨br, 0, none⟩ = some (.pointer (some ⟨R, 0, none⟩))
set_option maxRecDepth 100000 in
set_option maxHeartbeats 600000 in
theorem cArgs (w0 : World) (R : Nat) (L : Ly) (B N : Nat) (d : Dc) (o : Value) (ts : List T) (w : World) (hD : Rdr w0 w R L B N d) (hR : Rt w R (xOf L d) o ts) :
    Calls Tryz.prog 180 #[.pointer (some ⟨R, 0, none⟩)] w (PA R (xOf L d) o w (pArgs d ts)) := by
  have hlt := hR.lt
  have eG := erG
  have eN := erN
  have hb2 : Below w.heap.size w ((w.alloc (.cells #[.pointer (some ⟨R, 0, none⟩)] 142)).alloc (.cells #[.slice none 0 0] 237)) := (bnew _ _).trans ((bnew _ _).mono (by simp))
  have hJ0 : JA w0 w R L B N d o w.heap.size (w.heap.size + 1) [] ts ((w.alloc (.cells #[.pointer (some ⟨R, 0, none⟩)] 142)).alloc (.cells #[.slice none 0 0] 237)) := by
    refine ⟨hR.below hb2, hD.below hb2, Kb.of_below hb2, (Below.heap_alloc _ _ _ (by simp)).trans (heap_alloc_new _ _), ⟨none, 0, ?_, World.ownsRow_nil _ _ _ _⟩, ?_⟩
    · have := heap_alloc_new (w.alloc (.cells #[.pointer (some ⟨R, 0, none⟩)] 142)) (.cells #[.slice none 0 0] 237)
      simpa using this
    · have := hR.fine.len
      simp
      omega
  have c1 := cRow R (xOf L d) o 207 #[.pointer (some ⟨w.heap.size, 0, none⟩), .pointer (some ⟨w.heap.size + 1, 0, none⟩)] eArgs1 (fun _ => pArg d.q) (JA w0 w R L B N d o w.heap.size (w.heap.size + 1)) (fun w' => Kb [R] w w')
    (fun acc ts w1 h => cArgs1 w0 w R L B N d o _ _ hlt (Nat.le_refl _) (by omega) (by omega) acc ts w1 h) (fun acc ts w1 h => h.rt)
    (fun acc ts ts' w1 w2 h hle hk hr => by
      obtain ⟨ao, c, h1, h2⟩ := h.row
      have l1 := (Array.getElem?_eq_some_iff.1 h.box).1
      have l2 := (Array.getElem?_eq_some_iff.1 h1).1
      refine ⟨hr, h.rd.turn h.rt hk, h.kb.trans hk, (hk.block _ l1 (by simp; omega)).trans h.box, ⟨ao, c, (hk.block _ l2 (by simp; omega)).trans h1, own_kept h2 hk hlt⟩, ?_⟩
      have := h.len
      omega)
    (fun _ _ _ _ h => Nat.le_of_lt (pArg_lt h)) ts _ hJ0
  unfold pArgs
  cases h1 : pRow (fun _ => pArg d.q) (ts.length + 1) [] ts with
  | no c t =>
    rw [h1] at c1
    go_enter Tryz.func180, Tryz.ntmps180
    go_wp2_with (first | (go_at_call 199; refine c1.mono ?_; rintro e w1 ⟨rfl, hk1⟩))
    go_ret2
    exact ⟨⟨_, _, _, rfl⟩, hk1⟩
  | ok l ts1 =>
    rw [h1] at c1
    simp only
    have c3 := fun W (h : Rt W R (xOf L d) o ts1) => cMark1 R (xOf L d) o ts1 [59] W h
    cases h2 : pMks [[59]] ts1 with
    | no c t =>
      rw [h2] at c3
      go_enter Tryz.func180, Tryz.ntmps180
      go_wp2_with (first | (go_at_call 199; refine c1.mono ?_; rintro e w1 ⟨rfl, hj1⟩; obtain ⟨ao, cc, hbl, hown⟩ := hj1.row; have hbr := hj1.box; have c4 : Calls Tryz.prog 95 #[.pointer (some ⟨R, 0, none⟩), .slice (some ⟨w1.heap.size, 0, none⟩) 1 1] (w1.alloc (.cells #[.string ⟨#[59]⟩] 9)).drew (PT R (xOf L d) o w1.drew (fun _ => .nilIface) id (.no c t)) := c3 w1.drew hj1.rt))
      have hl1 := (Array.getElem?_eq_some_iff.1 hbr).1
      have hl2 := (Array.getElem?_eq_some_iff.1 hbl).1
      have hS0 : SB R w.heap.size (w.heap.size + 1) (.slice ao l.length cc) w1 := ⟨cell_of_row _ _ 0 _ _ _ hbl, cell_of_row _ _ 0 _ _ _ hbr⟩
      have HS0 : Hid (SB R w.heap.size (w.heap.size + 1) (.slice ao l.length cc) w1.drew) := hide hS0
      have HS1 : Hid (∀ o', SB R w.heap.size (w.heap.size + 1) (.slice ao l.length cc) (w1.alloc o').drew) := hide (fun o' => ⟨((bnew w1 o').cell (p := ⟨w.heap.size + 1, 0, none⟩) hl2).trans hS0.1, ((bnew w1 o').cell (p := ⟨w.heap.size, 0, none⟩) hl1).trans hS0.2⟩)
      have HS2 : Hid (∀ w2, Kb [R] w1.drew w2 → SB R w.heap.size (w.heap.size + 1) (.slice ao l.length cc) w2) := hide (fun w2 hk => ⟨(hk.undrew.cell (p := ⟨w.heap.size + 1, 0, none⟩) hl2 (by simp; omega)).trans hS0.1, (hk.undrew.cell (p := ⟨w.heap.size, 0, none⟩) hl1 (by simp; omega)).trans hS0.2⟩)
      clear hS0
      go_region_held3 (fun V => V.cell? ⟨w.heap.size + 1, 0, none⟩ = some (.slice ao l.length cc) ∧ V.cell? ⟨w.heap.size, 0, none⟩ = some (.pointer (some ⟨R, 0, none⟩)))
        (first | (with_reducible exact HS0.out) | (with_reducible exact HS1.out _) | (with_reducible assumption))
        (first | (go_at_call 95; (with_reducible refine Calls.mono c4 ?_); rintro e w2 ⟨rfl, hn2, hk2⟩; have hS := HS2.out w2 hk2))
      go_wp2_with fail
      go_ret2
      exact ⟨⟨_, _, _, rfl⟩, hj1.kb.trans hk2.undrew⟩
    | ok u ts2 =>
      rw [h2] at c3
      go_enter Tryz.func180, Tryz.ntmps180
      go_wp2_with (first | (go_at_call 199; refine c1.mono ?_; rintro e w1 ⟨rfl, hj1⟩; obtain ⟨ao, cc, hbl, hown⟩ := hj1.row; have hbr := hj1.box; have c4 : Calls Tryz.prog 95 #[.pointer (some ⟨R, 0, none⟩), .slice (some ⟨w1.heap.size, 0, none⟩) 1 1] (w1.alloc (.cells #[.string ⟨#[59]⟩] 9)).drew (PT R (xOf L d) o w1.drew (fun _ => .nilIface) id (.ok u ts2)) := c3 w1.drew hj1.rt))
      have hl1 := (Array.getElem?_eq_some_iff.1 hbr).1
      have hl2 := (Array.getElem?_eq_some_iff.1 hbl).1
      have hS0 : SB R w.heap.size (w.heap.size + 1) (.slice ao l.length cc) w1 := ⟨cell_of_row _ _ 0 _ _ _ hbl, cell_of_row _ _ 0 _ _ _ hbr⟩
      have HS0 : Hid (SB R w.heap.size (w.heap.size + 1) (.slice ao l.length cc) w1.drew) := hide hS0
      have HS1 : Hid (∀ o', SB R w.heap.size (w.heap.size + 1) (.slice ao l.length cc) (w1.alloc o').drew) := hide (fun o' => ⟨((bnew w1 o').cell (p := ⟨w.heap.size + 1, 0, none⟩) hl2).trans hS0.1, ((bnew w1 o').cell (p := ⟨w.heap.size, 0, none⟩) hl1).trans hS0.2⟩)
      have HS2 : Hid (∀ w2, Kb [R] w1.drew w2 → SB R w.heap.size (w.heap.size + 1) (.slice ao l.length cc) w2) := hide (fun w2 hk => ⟨(hk.undrew.cell (p := ⟨w.heap.size + 1, 0, none⟩) hl2 (by simp; omega)).trans hS0.1, (hk.undrew.cell (p := ⟨w.heap.size, 0, none⟩) hl1 (by simp; omega)).trans hS0.2⟩)
      clear hS0
      go_region_held3 (fun V => V.cell? ⟨w.heap.size + 1, 0, none⟩ = some (.slice ao l.length cc) ∧ V.cell? ⟨w.heap.size, 0, none⟩ = some (.pointer (some ⟨R, 0, none⟩)))
        (first | (with_reducible exact HS0.out) | (with_reducible exact HS1.out _) | (with_reducible assumption))
        (first | (go_at_call 95; (with_reducible refine Calls.mono c4 ?_); rintro e w2 ⟨rfl, hr2, hk2⟩; have hS := HS2.out w2 hk2))
      go_wp2_with fail
      go_ret2
      exact ⟨ao, cc, rfl, own_kept hown hk2.undrew hlt, by have := hj1.len; have := List.length_pos_iff.2 hj1.rt.fine.ends.ne; omega, hr2, hj1.kb.trans hk2.undrew⟩
end Go.Proofs.YtkbodljmkhnebaaGreatDoor.Cir
