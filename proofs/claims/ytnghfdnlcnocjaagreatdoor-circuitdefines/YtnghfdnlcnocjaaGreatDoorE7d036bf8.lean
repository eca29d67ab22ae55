import Derived.Test.YtnghfdnlcnocjaaGreatDoorProg
import Derived.Test.YtnghfdnlcnocjaaGreatDoorE86df15d9
import Derived.Deep.OwnRows
namespace Go.Proofs.YtnghfdnlcnocjaaGreatDoor.Gt
open Go.RowKit Go.Proofs.YtnghfdnlcnocjaaGreatDoor.Oct
structure Rw where
  nm : List UInt8
  q : Int
  c : Int
  t : Int
  v : Int
  o : Int
deriving DecidableEq
def r0 : Rw := ⟨[], 0, 0, 0, 0, 0⟩
def tab : List Rw := [
  ⟨[], 0, 0, 0, 0, 0⟩,
  ⟨[105, 100], 1, 0, 6, 1, 1⟩,
  ⟨[120], 1, 0, 2, 2, 2⟩,
  ⟨[121], 1, 0, 2, 3, 3⟩,
  ⟨[122], 1, 0, 6, 4, 4⟩,
  ⟨[115], 1, 0, 6, 6, 5⟩,
  ⟨[115, 100, 103], 1, 0, 6, 5, 6⟩,
  ⟨[115, 120], 1, 0, 3, 8, 7⟩,
  ⟨[115, 120, 100, 103], 1, 0, 3, 7, 8⟩,
  ⟨[115, 121], 1, 0, 3, 10, 9⟩,
  ⟨[115, 121, 100, 103], 1, 0, 3, 9, 10⟩,
  ⟨[99, 120], 2, 1, 2, 11, 2⟩,
  ⟨[99, 121], 2, 1, 2, 12, 3⟩,
  ⟨[99, 122], 2, 0, 6, 13, 4⟩,
  ⟨[115, 119, 97, 112], 2, 0, 2, 14, 14⟩,
  ⟨[105, 115, 119, 97, 112], 2, 0, 2, 16, 15⟩,
  ⟨[105, 115, 119, 97, 112, 100, 103], 2, 0, 2, 15, 16⟩,
  ⟨[104, 104], 2, 0, 3, 17, 17⟩,
  ⟨[99, 99, 120], 3, 2, 0, 18, 2⟩,
  ⟨[99, 99, 122], 3, 0, 4, 19, 4⟩,
  ⟨[99, 115, 119, 97, 112], 3, 1, 0, 20, 14⟩]
def rw' (k : Int) : Rw := if 0 <= k /\ k < 21 then tab.getD k.toNat r0 else r0
def Rw.cells (r : Rw) : List Value := [.string ⟨r.nm.toArray⟩, .int .i64 r.q, .int .i64 r.c, .int .i64 r.t, .int .i64 r.v, .int .i64 r.o]
def tabV : List Value := tab.flatMap Rw.cells
def Tb (w : World) : Prop := ∀ j v, tabV[j]? = some v -> w.cell? ⟨1, j, none⟩ = some v
theorem Tb.lt {w : World} (h : Tb w) : 1 < w.heap.size := World.block_lt_of_cell? w _ (h 0 (.string ⟨#[]⟩) rfl)
theorem Tb.below {w w' : World} (h : Tb w) (hb : Below w.heap.size w w') : Tb w' := fun j v hv => (hb.cell h.lt).trans (h j v hv)
section
variable {P : Program}
theorem wpList_pushV {ops : Array Oper} {rest : List Oper} {o : Oper} {a : Act} {Q : Exit -> Act -> World -> Prop} {w : World} (hgd : o.guard = none) (s x : Operand) (t : TypeId)
    (ho : o.op = .call { callee := .builtin .append, args := #[s, x], argTypes := #[t, t] })
    (e : TypeId) (ht : P.underlying t = some (.slice e)) (z0 : Value) (by' : Nat) (hinfo : (P.info? e).map (fun i => (i.zero, i.size, i.bytes)) = some (some z0, 1, by')) (hz0' : z0.cells.size = 1)
    (B : Nat) (ao : Option Addr) (n c : Nat) (xs : List Value) (hs : a.eval s = .slice ao n c) (hown : w.ownsRow B e 1 (.slice ao n c) n xs)
    (v : Value) (hv : v.oneCell' = true) (hx : a.eval x = .slice (some ⟨w.heap.size, 0, none⟩) 1 1) (hlen : (n + 1) * by' <= 140737488355328) (hn : n + 1 <= 140737488355328) (hbase : B <= w.heap.size)
    (h : ∀ g cap w', w'.ownsRow B e 1 (.slice (some ⟨g, 0, none⟩) (n + 1) cap) (n + 1) (xs ++ [v]) -> w.grownBy w' (ob ao) -> (ob ao = some g ∨ w.heap.size <= g) -> wpList P ops Q rest (a.put o.dst (.slice (some ⟨g, 0, none⟩) (n + 1) cap)) w') :
    wpList P ops Q (o :: rest) a (w.alloc (.cells #[v] e)) := by
  obtain ⟨i, hi, hz0, hz1, hz2⟩ := info_parts hinfo
  refine wpList_append_lies _ hgd s x t ho B e i z0 1 by' ht hi hz0 hz1 hz2 hz0' (by decide) _ n xs hs (hown.alloc _) ⟨w.heap.size, 0, none⟩ 1 1 [v] hx rfl (cell_one_new _ _ _) (by intro u hu; simp at hu; subst hu; exact hv) (by decide) (by unfold maxLen; omega) hlen (by simp; omega) _ rfl ?_
  intro g cap w' ho' hg hat hlt
  rw [ob_eq] at hg hat
  refine h g cap w' ho' ((grown_alloc w _ _).trans hg) ?_
  rcases hat with e | e
  . exact .inl e
  . right; simp at e; omega
end
theorem infoK : (Tryz.prog.info? 31).map (fun i => (i.zero, i.size, i.bytes)) = some (some (.int .i64 0), 1, 8) := by kernel_rfl
theorem infoR : (Tryz.prog.info? 133).map (·.size) = some 6 := by kernel_rfl
end Go.Proofs.YtnghfdnlcnocjaaGreatDoor.Gt
