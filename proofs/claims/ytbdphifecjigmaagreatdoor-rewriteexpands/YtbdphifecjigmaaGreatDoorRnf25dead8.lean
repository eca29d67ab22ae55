import Derived.Test.YtbdphifecjigmaaGreatDoorRna5dd1517
namespace Go.Proofs.YtbdphifecjigmaaGreatDoor.Cir
end Go.Proofs.YtbdphifecjigmaaGreatDoor.Cir
namespace Go.Proofs.YtbdphifecjigmaaGreatDoor.Gt
end Go.Proofs.YtbdphifecjigmaaGreatDoor.Gt
namespace Go.Proofs.YtbdphifecjigmaaGreatDoor.Oct
end Go.Proofs.YtbdphifecjigmaaGreatDoor.Oct
namespace Go.Proofs.YtbdphifecjigmaaGreatDoor.Tok
end Go.Proofs.YtbdphifecjigmaaGreatDoor.Tok
namespace Go.Proofs.YtbdphifecjigmaaGreatDoor.Rwt
open Go.RowKit Go.Shelf Go.Proofs.YtbdphifecjigmaaGreatDoor.Oct Go.Proofs.YtbdphifecjigmaaGreatDoor.Tok Go.Proofs.YtbdphifecjigmaaGreatDoor.Gt Go.Proofs.YtbdphifecjigmaaGreatDoor.Cir
structure Os (W : World) (B : Nat) (xs : List (COp × Value)) : Prop where
  row : ∀ x ∈ xs, RowO W B x.2 x.1.qs
  pw : Pw xs
theorem Os.nil (W : World) (B : Nat) : Os W B [] := ⟨(fun _ h => nomatch h), List.Pairwise.nil⟩
theorem Os.snoc {W V : World} {B : Nat} {xs : List (COp × Value)} (h : Os W B xs) (hb : Below W.heap.size W V) (hB : B <= W.heap.size) (o : COp) (v : Value) (hr : RowO V W.heap.size v o.qs) : Os V B (xs ++ [(o, v)]) :=
  ⟨fun x hx => by
    rcases List.mem_append.1 hx with hx | hx
    . exact (h.row x hx).below hb
    . rw [List.mem_singleton] at hx
      subst hx
      exact hr.base hB,
   h.pw.snoc fun x hx g h1 h2 => by
    have q1 := ((h.row x hx).lt h1).2
    have q2 := (hr.lt h2).1
    omega⟩
theorem opCs_len (xs : List (COp × Value)) : (xs.flatMap opC).length = xs.length * 6 := by
  induction xs with
  | nil => rfl
  | cons x r ih =>
    rw [List.flatMap_cons, List.length_append, ih, List.length_cons]
    have : (opC x).length = 6 := rfl
    omega
theorem Os.own {W : World} {B : Nat} {xs : List (COp × Value)} (h : Os W B xs) (hB : B <= W.heap.size) (hm : xs.length <= maxLen) : OpsOwn (W.alloc (.cells (xs.flatMap opC).toArray 40)) B (some ⟨W.heap.size, 0, none⟩) xs.length xs.length (xs.map (·.1)) :=
  ⟨xs, rfl, rfl, ⟨opCs_len xs, .inr ⟨W.heap.size, xs.length, _, rfl, hB, heap_alloc_new _ _, Nat.le_refl _, hm, by rw [List.size_toArray, opCs_len], by rw [← opCs_len]; exact List.take_length⟩⟩, fun x hx => (h.row x hx).below (bnew _ _), h.pw⟩
def mk18 (x : Int × List Int) : COp := ⟨1, x.1, x.2, 0, -1, 0⟩
def WPost (w : World) (l : List (Int × List Int)) (e : Ending) (w' : World) : Prop := ∃ ao c, e = .returned (.slice ao l.length c) /\ OpsOwn w' w.heap.size ao l.length c (l.map mk18) /\ Below w.heap.size w w'
theorem ns1 (V : World) (t : Int) : Ns (V.alloc (.cells #[.int .i64 t] 3)) (some ⟨V.heap.size, 0, none⟩) [t] := .inr ⟨_, _, rfl, fun j z hz => by
  rw [Nat.zero_add]
  refine (cell_of_row _ _ _ _ _ _ (heap_alloc_new V _)).trans ?_
  match j, hz with
  | 0, hz => cases hz; rfl
  | j + 1, hz => simp at hz⟩
theorem ns2 (V : World) (t u : Int) : Ns (V.alloc (.cells #[.int .i64 t, .int .i64 u] 3)) (some ⟨V.heap.size, 0, none⟩) [t, u] := .inr ⟨_, _, rfl, fun j z hz => by
  rw [Nat.zero_add]
  refine (cell_of_row _ _ _ _ _ _ (heap_alloc_new V _)).trans ?_
  match j, hz with
  | 0, hz => cases hz; rfl
  | 1, hz => cases hz; rfl
  | j + 2, hz => simp at hz⟩
theorem ns3 (V : World) (t u v : Int) : Ns (V.alloc (.cells #[.int .i64 t, .int .i64 u, .int .i64 v] 3)) (some ⟨V.heap.size, 0, none⟩) [t, u, v] := .inr ⟨_, _, rfl, fun j z hz => by
  rw [Nat.zero_add]
  refine (cell_of_row _ _ _ _ _ _ (heap_alloc_new V _)).trans ?_
  match j, hz with
  | 0, hz => cases hz; rfl
  | 1, hz => cases hz; rfl
  | 2, hz => cases hz; rfl
  | j + 3, hz => simp at hz⟩
theorem ns_at1 (w : World) (g off : Nat) (t : Int) (x0 : w.cell? ⟨g, off, none⟩ = some (.int .i64 t)) : Ns w (some ⟨g, off, none⟩) [t] := .inr ⟨_, _, rfl, fun j z hz => by
  match j, hz with
  | 0, hz => cases hz; exact x0
  | j + 1, hz => simp at hz⟩
theorem ns_at2 (w : World) (g off : Nat) (t u : Int) (x0 : w.cell? ⟨g, off, none⟩ = some (.int .i64 t)) (x1 : w.cell? ⟨g, off + 1, none⟩ = some (.int .i64 u)) : Ns w (some ⟨g, off, none⟩) [t, u] := .inr ⟨_, _, rfl, fun j z hz => by
  match j, hz with
  | 0, hz => cases hz; exact x0
  | 1, hz => cases hz; exact x1
  | j + 2, hz => simp at hz⟩
theorem ns_at3 (w : World) (g off : Nat) (t u v : Int) (x0 : w.cell? ⟨g, off, none⟩ = some (.int .i64 t)) (x1 : w.cell? ⟨g, off + 1, none⟩ = some (.int .i64 u)) (x2 : w.cell? ⟨g, off + 2, none⟩ = some (.int .i64 v)) : Ns w (some ⟨g, off, none⟩) [t, u, v] := .inr ⟨_, _, rfl, fun j z hz => by
  match j, hz with
  | 0, hz => cases hz; exact x0
  | 1, hz => cases hz; exact x1
  | 2, hz => cases hz; exact x2
  | j + 3, hz => simp at hz⟩
end Go.Proofs.YtbdphifecjigmaaGreatDoor.Rwt
