/- Two rows of bytes side by side: what stores and appends within the capacity leave. -/
import Derived.Test.YtckcdgobgpjdkaaDoorRef1
namespace Go.Proofs.YtckcdgobgpjdkaaDoor.Oct
open Go.RowKit

/-- All old blocks but two are as they were. -/
structure G2 (ga gb : Nat) (w w' : World) : Prop where
  os : w'.os = w.os
  tape : w'.tape = w.tape
  output : w'.output = w.output
  size : w.heap.size ≤ w'.heap.size
  block : ∀ k, k < w.heap.size → k ≠ ga → k ≠ gb → w'.heap[k]? = w.heap[k]?
theorem G2.refl (ga gb : Nat) (w : World) : G2 ga gb w w := ⟨rfl, rfl, rfl, Nat.le_refl _, fun _ _ _ _ => rfl⟩
theorem G2.setCell {ga gb : Nat} {w0 w : World} (h : G2 ga gb w0 w) (a : Addr) (v : Value) (ha : a.block = ga ∨ a.block = gb) : G2 ga gb w0 (w.setCell a v) :=
  ⟨h.os, h.tape, h.output, by simp [World.setCell]; exact h.size, fun k hk h1 h2 => (Below.heap_setCell _ _ _ _ (by rcases ha with e | e <;> omega)).trans (h.block k hk h1 h2)⟩
theorem G2.more {ga gb : Nat} {w0 w w' : World} (h : G2 ga gb w0 w) (hb : Below w.heap.size w w') : G2 ga gb w0 w' :=
  ⟨hb.os.trans h.os, hb.tape.trans h.tape, hb.output.trans h.output, Nat.le_trans h.size hb.size, fun k hk h1 h2 => (hb.block k (Nat.lt_of_lt_of_le hk h.size)).trans (h.block k hk h1 h2)⟩
theorem G2.below {ga gb B : Nat} {w w' : World} (h : G2 ga gb w w') (hB : B ≤ w.heap.size) (ha : B ≤ ga) (hb : B ≤ gb) : Below B w w' :=
  ⟨h.os, h.tape, h.output, h.size, fun k hk => h.block k (by omega) (by omega) (by omega)⟩
structure Two (B gl ga gb na ca nb cb : Nat) (w0 w : World) (la lb : List UInt8) : Prop where
  c0 : w.cell? ⟨gl, 0, none⟩ = some (.slice (some ⟨ga, 0, none⟩) na ca)
  c1 : w.cell? ⟨gl, 1, none⟩ = some (.slice (some ⟨gb, 0, none⟩) nb cb)
  oa : w.ownsRow B 5 1 (.slice (some ⟨ga, 0, none⟩) na ca) na (bv la)
  ob : w.ownsRow B 5 1 (.slice (some ⟨gb, 0, none⟩) nb cb) nb (bv lb)
  bel : G2 ga gb w0 w

theorem own_len {w : World} {B g n c : Nat} {e : TypeId} {l : List UInt8} (h : w.ownsRow B e 1 (.slice (some ⟨g, 0, none⟩) n c) n (bv l)) : l.length = n ∧ n ≤ c ∧ B ≤ g ∧ g < w.heap.size ∧ ∀ j, j < c → (w.cell? ⟨g, j, none⟩).isSome = true := by
  have h1 := h.1
  rw [bv_length] at h1
  have h2 := h.lt g rfl
  refine ⟨by omega, ?_, h2.1, h2.2, ?_⟩
  · rcases h.2 with ⟨hv, _⟩ | ⟨_, _, _, hv, _, _, q, _⟩
    · cases hv
    · simp only [Value.slice.injEq] at hv; omega
  · intro j hj
    rcases h.2 with ⟨hv, _⟩ | ⟨g', cap, cur, hv, _, hg, _, _, hs, _⟩
    · cases hv
    · simp only [Value.slice.injEq, Option.some.injEq, Addr.mk.injEq] at hv
      obtain ⟨⟨rfl, _⟩, _, rfl⟩ := hv
      simp [World.cell?, hg]
      omega
theorem bv_set1 (l : List UInt8) (j : Nat) (x : UInt8) : (bv l).set j (.int .u8 (x.toNat : Int)) = bv (l.set j x) := by simp [bv, List.map_set]
theorem Two.setA {B gl ga gb na ca nb cb : Nat} {w0 w : World} {la lb : List UInt8} (h : Two B gl ga gb na ca nb cb w0 w la lb) (hab : ga ≠ gb) (hal : ga ≠ gl) (j : Nat) (x : UInt8) :
    Two B gl ga gb na ca nb cb w0 (w.setCell ⟨ga, j, none⟩ (.int .u8 (x.toNat : Int))) (la.set j x) lb := by
  have st := h.oa.stored j (.int .u8 (x.toNat : Int))
  rw [bv_set1] at st
  exact ⟨by rw [cell_far _ _ _ _ (Ne.symm hal)]; exact h.c0, by rw [cell_far _ _ _ _ (Ne.symm hal)]; exact h.c1, st.1, ownsRow_of_block h.ob (fun k hk => Below.heap_setCell _ _ _ _ (by cases hk; exact Ne.symm hab)), h.bel.setCell _ _ (.inl rfl)⟩
theorem Two.setB {B gl ga gb na ca nb cb : Nat} {w0 w : World} {la lb : List UInt8} (h : Two B gl ga gb na ca nb cb w0 w la lb) (hab : ga ≠ gb) (hbl : gb ≠ gl) (j : Nat) (x : UInt8) :
    Two B gl ga gb na ca nb cb w0 (w.setCell ⟨gb, j, none⟩ (.int .u8 (x.toNat : Int))) la (lb.set j x) := by
  have st := h.ob.stored j (.int .u8 (x.toNat : Int))
  rw [bv_set1] at st
  exact ⟨by rw [cell_far _ _ _ _ (Ne.symm hbl)]; exact h.c0, by rw [cell_far _ _ _ _ (Ne.symm hbl)]; exact h.c1, ownsRow_of_block h.oa (fun k hk => Below.heap_setCell _ _ _ _ (by cases hk; exact hab)), st.1, h.bel.setCell _ _ (.inr rfl)⟩
theorem Two.more {B gl ga gb na ca nb cb : Nat} {w0 w w' : World} {la lb : List UInt8} (h : Two B gl ga gb na ca nb cb w0 w la lb) (hb : Below w.heap.size w w') : Two B gl ga gb na ca nb cb w0 w' la lb :=
  ⟨(hb.cell (World.block_lt_of_cell? w _ h.c0)).trans h.c0, (hb.cell (World.block_lt_of_cell? w _ h.c1)).trans h.c1, ownsRow_of_block h.oa (fun k hk => hb.block k (h.oa.lt k (by rw [ob_eq]; exact hk)).2), ownsRow_of_block h.ob (fun k hk => hb.block k (h.ob.lt k (by rw [ob_eq]; exact hk)).2), h.bel.more hb⟩

/-- 'b = append(b, x)' where there is room. -/
theorem wpList_push_room {P : Program} {ops : Array Oper} {rest : List Oper} {o : Oper} {a : Act} {Q : Exit → Act → World → Prop} {w : World} (hgd : o.guard = none) (s x : Operand) (t : TypeId)
    (ho : o.op = .call { callee := .builtin .append, args := #[s, x], argTypes := #[t, t] })
    (e : TypeId) (ht : P.underlying t = some (.slice e)) (hinfo : (P.info? e).map (fun i => (i.zero, i.size, i.bytes)) = some (some (.int .u8 0), 1, 1))
    (g n c : Nat) (hs : a.eval s = .slice (some ⟨g, 0, none⟩) n c) (z : Int) (hx : a.eval x = .slice (some ⟨w.heap.size, 0, none⟩) 1 1) (hroom : n + 1 ≤ c) (hg : g < w.heap.size)
    (hc : (w.cell? ⟨g, n, none⟩).isSome = true) (hf : w.frozen? ⟨g, n, none⟩ = false)
    (h : wpList P ops Q rest (a.put o.dst (.slice (some ⟨g, 0, none⟩) (n + 1) c)) ((w.alloc (.cells #[.int .u8 z] e)).setCell ⟨g, n, none⟩ (.int .u8 z))) :
    wpList P ops Q (o :: rest) a (w.alloc (.cells #[.int .u8 z] e)) := by
  obtain ⟨i, hi, hz0, hz1, hz2⟩ := info_parts hinfo
  refine wpList_plain hgd fun K hK => ?_
  have hsrc : Src P i.size t (.slice (some ⟨w.heap.size, 0, none⟩) 1 1) 1 [.int .u8 z] (w.alloc (.cells #[.int .u8 z] e)) := Src.ofSlice _ ht _ 1 1 _ (by rw [hz1]; rfl) (cell_one_new _ _ _) (by intro u hu; simp at hu; subst hu; rfl)
  have hr := run_append_room_src (P := P) (w.alloc (.cells #[.int .u8 z] e)) t t o.type e i ht hi g 0 n c (.slice (some ⟨w.heap.size, 0, none⟩) 1 1) 1 [.int .u8 z] hsrc hroom
    (by intro j hj; have : j = 0 := by simpa using hj
        subst this
        rw [hz1, World.cell?_alloc_past _ _ _ hg]; simpa using hc)
    (by intro j hj; have : j = 0 := by simpa using hj
        subst this
        rw [hz1, World.frozen?_alloc_past _ _ _ hg]; simpa using hf)
  rw [hz1] at hr
  simp only [Nat.zero_add, Nat.mul_one, World.setCells] at hr
  unfold Oper.wp execOp
  simp only [ho, resolve, invoke, builtin, Sem.run_bind, Sem.run_pure, Result.andThen_ok, List.map_toArray, List.map_cons, List.map_nil, hs, hx, hr]
  exact hK _ _ h
end Go.Proofs.YtckcdgobgpjdkaaDoor.Oct
