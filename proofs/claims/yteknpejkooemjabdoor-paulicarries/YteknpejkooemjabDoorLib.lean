/- Plain facts on bytes and worlds that the walks of package octet lean on: no program is named. -/
import Derived.WalkKit
import Derived.WalkSpells
import Derived.WalkLawsBesides
import Derived.Deep.AppendLies
import Derived.Deep.AppendSrc
import Derived.Laws.BitsAllLaws
import Derived.Laws.IdiomStrings
import Derived.Laws.BytesArg
namespace Go.Proofs.YteknpejkooemjabDoor.Oct
open Go.RowKit


theorem hide {p : Prop} (h : p) : Hid p := h
/-- Bytes as the cells of a row. -/
def bv (l : List UInt8) : List Value := l.map fun b => Value.int .u8 (b.toNat : Int)
theorem bv_length (l : List UInt8) : (bv l).length = l.length := by simp [bv]
theorem bv_append (a b : List UInt8) : bv (a ++ b) = bv a ++ bv b := by simp [bv]
theorem bv_one (l : List UInt8) : ∀ u ∈ bv l, u.oneCell' = true := by
  intro u hu
  simp only [bv, List.mem_map] at hu
  obtain ⟨b, _, rfl⟩ := hu
  rfl

/-- The lowest n bytes of x, the lowest first. -/
def le : Nat → Nat → List UInt8
  | 0, _ => []
  | n + 1, x => UInt8.ofNat x :: le n (x / 256)
theorem le_length (n x : Nat) : (le n x).length = n := by
  induction n generalizing x with
  | zero => rfl
  | succ n ih => simp [le, ih]
theorem le_snoc (n x : Nat) : le (n + 1) x = le n x ++ [UInt8.ofNat (x / 256 ^ n)] := by
  induction n generalizing x with
  | zero => simp [le]
  | succ n ih =>
    rw [show le (n + 1 + 1) x = UInt8.ofNat x :: le (n + 1) (x / 256) from rfl, ih (x / 256), show le (n + 1) x = UInt8.ofNat x :: le n (x / 256) from rfl]
    simp [Nat.div_div_eq_div_mul, Nat.pow_succ, Nat.mul_comm]

/-- The block of a slice's array. -/
def ob (ao : Option Addr) : Option Nat := ao.map (·.block)
theorem ob_eq (ao : Option Addr) (n c : Nat) : (Value.slice ao n c).ownBlock = ob ao := by cases ao <;> rfl

/-- A Writer at p: its one cell holds a slice of its own, whose bytes are l. -/
structure Wr (e : TypeId) (w : World) (B : Nat) (p : Addr) (ao : Option Addr) (c : Nat) (l : List UInt8) : Prop where
  cell : w.cell? p = some (.slice ao l.length c)
  froz : w.frozen? p = false
  own : w.ownsRow B e 1 (.slice ao l.length c) l.length (bv l)
  apart : ob ao ≠ some p.block
  base : B ≤ w.heap.size

/-- What a Writer's call leaves as it was: every old block but the Writer's own and its row's; the new row is the old one or lies in new memory. -/
structure Fr (w w' : World) (p : Addr) (ao ao' : Option Addr) : Prop where
  os : w'.os = w.os
  tape : w'.tape = w.tape
  output : w'.output = w.output
  size : w.heap.size ≤ w'.heap.size
  block : ∀ k, k < w.heap.size → k ≠ p.block → some k ≠ ob ao → w'.heap[k]? = w.heap[k]?
  lies : ob ao' = ob ao ∨ ∃ k, ob ao' = some k ∧ w.heap.size ≤ k

theorem Fr.refl (w : World) (p : Addr) (ao : Option Addr) : Fr w w p ao ao := ⟨rfl, rfl, rfl, Nat.le_refl _, fun _ _ _ _ => rfl, .inl rfl⟩
theorem Fr.trans {a b c : World} {p : Addr} {u v x : Option Addr} (h : Fr a b p u v) (k : Fr b c p v x) : Fr a c p u x := by
  refine ⟨k.os.trans h.os, k.tape.trans h.tape, k.output.trans h.output, Nat.le_trans h.size k.size, fun i hi hp hs => ?_, ?_⟩
  · refine (k.block i (Nat.lt_of_lt_of_le hi h.size) hp ?_).trans (h.block i hi hp hs)
    rcases h.lies with e | ⟨g, e, hg⟩
    · rw [e]; exact hs
    · rw [e]; intro he; cases he; omega
  · rcases k.lies with e | ⟨g, e, hg⟩
    · rw [e]; exact h.lies
    · exact .inr ⟨g, e, Nat.le_trans h.size hg⟩
theorem Fr.below {w w' : World} {p : Addr} {ao ao' : Option Addr} {B : Nat} (h : Fr w w' p ao ao') (hB : B ≤ w.heap.size) (hp : B ≤ p.block) (hs : ∀ k, ob ao = some k → B ≤ k) : Below B w w' :=
  ⟨h.os, h.tape, h.output, h.size, fun k hk => h.block k (by omega) (by omega) (fun e => by have := hs k e.symm; omega)⟩

/-- One append and the store of what came of it into the Writer's cell. -/
theorem Wr.step {e : TypeId} {w w1 : World} {B : Nat} {pb po : Nat} {ao : Option Addr} {c : Nat} {l m : List UInt8} {g cap : Nat} (h : Wr e w B ⟨pb, po, none⟩ ao c l)
    (hown : w1.ownsRow B e 1 (.slice (some ⟨g, 0, none⟩) (l.length + m.length) cap) (l.length + m.length) (bv (l ++ m))) (hg : w.grownBy w1 (ob ao))
    (hat : ob ao = some g ∨ w.heap.size ≤ g) :
    Wr e (w1.setCell ⟨pb, po, none⟩ (.slice (some ⟨g, 0, none⟩) (l.length + m.length) cap)) B ⟨pb, po, none⟩ (some ⟨g, 0, none⟩) cap (l ++ m) ∧
      Fr w (w1.setCell ⟨pb, po, none⟩ (.slice (some ⟨g, 0, none⟩) (l.length + m.length) cap)) ⟨pb, po, none⟩ ao (some ⟨g, 0, none⟩) := by
  have hpb : pb < w.heap.size := World.block_lt_of_cell? w ⟨pb, po, none⟩ h.cell
  have hbl : w1.heap[pb]? = w.heap[pb]? := by
    exact hg.block pb (by omega) (fun e => h.apart e.symm)
  have hgp : g ≠ pb := by
    rcases hat with e | e
    · intro e'; subst e'; exact h.apart e
    · omega
  have hc1 := (World.cell?_of_block (a := ⟨pb, po, none⟩) hbl).trans h.cell
  have hf1 : w1.frozen? ⟨pb, po, none⟩ = false := (World.frozen?_of_block hbl).trans h.froz
  have hsz : w.heap.size ≤ w1.heap.size := by have := hg.size; omega
  refine ⟨⟨?_, ?_, ?_, ?_, ?_⟩, ⟨hg.os, hg.tape, hg.output, ?_, fun k hk hkp hks => ?_, ?_⟩⟩
  · rw [List.length_append]; exact World.cell?_setCell_same _ _ _ hc1
  · rw [World.frozen?_setCell]; exact hf1
  · rw [List.length_append]
    rcases hown.2 with ⟨hv, h0⟩ | ⟨g', cap', cur, hv, hb, hgh, h1, h2, h3, h4⟩
    · simp at hv
    · refine ⟨hown.1, .inr ⟨g', cap', cur, hv, hb, ?_, h1, h2, h3, h4⟩⟩
      have hgg : g' = g := by simp at hv; exact hv.1.symm
      subst hgg
      rw [Below.heap_setCell _ _ _ _ hgp]
      exact hgh
  · simp only [ob, Option.map_some, ne_eq, Option.some.injEq]; exact hgp
  · have := h.base; simp [World.setCell]; omega
  · simp [World.setCell]; omega
  · rw [Below.heap_setCell _ _ _ _ hkp, hg.block k (by omega) hks]
  · rcases hat with e | e
    · exact .inl e.symm
    · exact .inr ⟨g, rfl, by omega⟩

theorem cell_far (w : World) (p a : Addr) (v : Value) (h : a.block ≠ p.block) : (w.setCell p v).cell? a = w.cell? a := World.cell?_of_block (Below.heap_setCell _ _ _ _ h)
theorem frozen_far (w : World) (p a : Addr) (v : Value) (h : a.block ≠ p.block) : (w.setCell p v).frozen? a = w.frozen? a := World.frozen?_of_block (Below.heap_setCell _ _ _ _ h)
theorem grown_alloc (w : World) (o : Obj) (r : Option Nat) : w.grownBy (w.alloc o) r := ⟨rfl, rfl, rfl, by simp, fun _ hk _ => Below.heap_alloc _ _ _ hk⟩
theorem grown_refl (w : World) (r : Option Nat) : w.grownBy w r := ⟨rfl, rfl, rfl, Nat.le_refl _, fun _ _ _ => rfl⟩
theorem grown_drew (w : World) (r : Option Nat) : w.grownBy w.drew r := ⟨rfl, rfl, rfl, Nat.le_refl _, fun _ _ _ => rfl⟩

section
variable {P : Program}
/-- 'x = append(x, b)': the byte lies in the block that the statement has laid for it. -/
theorem wpList_push {ops : Array Oper} {rest : List Oper} {o : Oper} {a : Act} {Q : Exit → Act → World → Prop} {w : World} (hgd : o.guard = none) (s x : Operand) (t : TypeId)
    (ho : o.op = .call { callee := .builtin .append, args := #[s, x], argTypes := #[t, t] })
    (e : TypeId) (ht : P.underlying t = some (.slice e)) (hinfo : (P.info? e).map (fun i => (i.zero, i.size, i.bytes)) = some (some (.int .u8 0), 1, 1))
    (B : Nat) (ao : Option Addr) (n c : Nat) (l : List UInt8) (hs : a.eval s = .slice ao n c) (hown : w.ownsRow B e 1 (.slice ao n c) n (bv l))
    (z : Int) (b : UInt8) (hz : z = (b.toNat : Int)) (hx : a.eval x = .slice (some ⟨w.heap.size, 0, none⟩) 1 1) (hlen : n + 1 ≤ 140737488355328) (hbase : B ≤ w.heap.size)
    (h : ∀ g cap w', w'.ownsRow B e 1 (.slice (some ⟨g, 0, none⟩) (n + 1) cap) (n + 1) (bv (l ++ [b])) → w.grownBy w' (ob ao) → (ob ao = some g ∨ w.heap.size ≤ g) → wpList P ops Q rest (a.put o.dst (.slice (some ⟨g, 0, none⟩) (n + 1) cap)) w') :
    wpList P ops Q (o :: rest) a (w.alloc (.cells #[.int .u8 z] e)) := by
  obtain ⟨i, hi, hz0, hz1, hz2⟩ := info_parts hinfo
  subst hz
  refine wpList_append_lies _ hgd s x t ho B e i (.int .u8 0) 1 1 ht hi hz0 hz1 hz2 rfl (by decide) _ n (bv l) hs (hown.alloc _) ⟨w.heap.size, 0, none⟩ 1 1 [.int .u8 (b.toNat : Int)] hx rfl (cell_one_new _ _ _) (by intro u hu; simp at hu; subst hu; rfl) (by decide) (by unfold maxLen; omega) (by omega) (by simp; omega) _ rfl ?_
  intro g cap w' ho' hg hat hlt
  rw [ob_eq] at hg hat
  refine h g cap w' (by rw [bv_append]; exact ho') ((grown_alloc w _ _).trans hg) ?_
  rcases hat with e | e
  · exact .inl e
  · right; simp at e; omega
end

/-- The number that bytes stand for, the lowest first. -/
def num : List UInt8 → Nat
  | [] => 0
  | b :: r => b.toNat + 256 * num r
theorem num_lt (l : List UInt8) : num l < 256 ^ l.length := by
  induction l with
  | nil => simp [num]
  | cons b r ih =>
    have hb := b.toNat_lt
    simp only [num, List.length_cons, Nat.pow_succ]
    have : 256 * (num r + 1) ≤ 256 * 256 ^ r.length := Nat.mul_le_mul_left _ ih
    omega
theorem num_snoc (l : List UInt8) (b : UInt8) : num (l ++ [b]) = num l + 256 ^ l.length * b.toNat := by
  induction l with
  | nil => simp [num]
  | cons a r ih =>
    simp only [List.cons_append, num, List.length_cons, Nat.pow_succ, ih, Nat.mul_add]
    rw [show 256 ^ r.length * 256 * b.toNat = 256 * (256 ^ r.length * b.toNat) by rw [Nat.mul_comm (256 ^ r.length) 256, Nat.mul_assoc]]
    omega
theorem num_le (n x : Nat) (hx : x < 256 ^ n) : num (le n x) = x := by
  induction n generalizing x with
  | zero => simp at hx; subst hx; rfl
  | succ n ih =>
    simp only [le, num]
    rw [ih (x / 256) (by rw [Nat.pow_succ] at hx; exact Nat.div_lt_of_lt_mul (by rw [Nat.mul_comm]; exact hx))]
    simp
    omega
theorem wrap_u64_nat (n : Nat) (h : n < 18446744073709551616) : IntKind.u64.wrap (n : Int) = (n : Int) := by
  rw [IntKind.wrap]
  simp only [IntKind.bits, IntKind.signed, Bool.false_and, Bool.false_eq_true, if_false]
  rw [Int.emod_eq_of_lt (by omega) (by simp; omega)]
/-- One byte more is laid above the others. -/
theorem or_step (a b k : Nat) (hk : k < 8) (ha : a < 256 ^ k) (hb : b < 256) :
    bits .or .u64 (a : Int) (IntKind.u64.wrap (IntKind.u64.wrap (b : Int) * 2 ^ (8 * k))) = ((a + 256 ^ k * b : Nat) : Int) := by
  have e1 : IntKind.u64.wrap (b : Int) = (b : Int) := wrap_u64_nat b (by omega)
  have hp : (2 : Nat) ^ (8 * k) = 256 ^ k := by rw [Nat.pow_mul]
  have hpk : 256 ^ k * 256 ≤ 18446744073709551616 := by
    rw [← Nat.pow_succ]
    exact Nat.le_trans (Nat.pow_le_pow_right (by decide) hk) (by decide)
  have hbk : 256 ^ k * b < 18446744073709551616 := Nat.lt_of_lt_of_le (Nat.mul_lt_mul_of_pos_left hb (Nat.pow_pos (by decide))) hpk
  have e2 : IntKind.u64.wrap ((b : Int) * 2 ^ (8 * k)) = ((256 ^ k * b : Nat) : Int) := by
    have e3 : (b : Int) * 2 ^ (8 * k) = ((256 ^ k * b : Nat) : Int) := by rw [← hp, Nat.mul_comm]; simp [Int.mul_comm]
    rw [e3]
    exact wrap_u64_nat _ hbk
  have ha' : a < 18446744073709551616 := by
    have : 256 ^ k ≤ 256 ^ k * 256 := Nat.le_mul_of_pos_right _ (by decide)
    omega
  rw [e1, e2, u64_or_nat a _ ha' hbk]
  have e4 : a ||| 256 ^ k * b = a + 256 ^ k * b := by
    rw [← hp] at ha ⊢
    rw [Nat.or_comm, Nat.add_comm]
    exact (Nat.two_pow_add_eq_or_of_lt ha b).symm
  rw [e4]

theorem grown_setCell (w : World) (a : Addr) (v : Value) : w.grownBy (w.setCell a v) (some a.block) :=
  ⟨rfl, rfl, rfl, by simp [World.setCell], fun k _ hne => Below.heap_setCell _ _ _ _ (fun e => hne (by rw [e]))⟩
theorem grown_setCells (g : Nat) : ∀ (vs : List Value) (o : Nat) (w : World), w.grownBy (w.setCells g o vs) (some g)
  | [], _, w => grown_refl w _
  | v :: r, o, w => (grown_setCell w ⟨g, o, none⟩ v).trans (grown_setCells g r (o + 1) _)
/-- What a row holds behind stores of neighbouring cells. -/
theorem heap_setCells (g : Nat) (e : TypeId) (fz : Nat × Nat) : ∀ (vs : List Value) (o : Nat) (w : World) (cur : Array Value), w.heap[g]? = some (.cells cur e fz) → o + vs.length ≤ cur.size →
    ∃ cur', (w.setCells g o vs).heap[g]? = some (.cells cur' e fz) ∧ cur'.size = cur.size ∧ cur'.toList.take (o + vs.length) = cur.toList.take o ++ vs
  | [], o, w, cur, h, _ => ⟨cur, h, rfl, by simp⟩
  | v :: r, o, w, cur, h, hl => by
    have h1 : (w.setCell ⟨g, o, none⟩ v).heap[g]? = some (.cells (cur.setIfInBounds o v) e fz) := by
      simp [World.setCell, Array.getElem?_modify, h]
    simp only [List.length_cons] at hl
    obtain ⟨cur', a, b, c⟩ := heap_setCells g e fz r (o + 1) _ _ h1 (by simp; omega)
    refine ⟨cur', a, by simpa using b, ?_⟩
    rw [List.length_cons, show o + (r.length + 1) = o + 1 + r.length by omega, c]
    rw [Array.toList_setIfInBounds, List.take_add_one, List.getElem?_set_self (by simp; omega)]
    simp [List.take_set_of_le]

section
variable {P : Program}
/-- Bytes, from whatever source, appended to a row of the call's own: where the new row lies. -/
theorem run_append_src_at (w : World) (B : Nat) (t tx ty e : TypeId) (ht : P.underlying t = some (.slice e)) (hinfo : (P.info? e).map (fun i => (i.zero, i.size, i.bytes)) = some (some (.int .u8 0), 1, 1))
    (ao : Option Addr) (n c : Nat) (l : List UInt8) (hown : w.ownsRow B e 1 (.slice ao n c) n (bv l)) (x : Value) (m : Nat) (lm : List UInt8) (hs : Src P 1 tx x m (bv lm) w)
    (hlen : n + m ≤ 140737488355328) (hbase : B ≤ w.heap.size) :
    ∃ ao' c' w', (Builtin.append_ #[t, tx] ty #[.slice ao n c, x]).run P w = .ok (.slice ao' (n + m) c') w' ∧ w'.ownsRow B e 1 (.slice ao' (n + m) c') (n + m) (bv (l ++ lm)) ∧ w.grownBy w' (ob ao) ∧ (ob ao' = ob ao ∨ ob ao' = some w.heap.size) := by
  obtain ⟨i, hi, hz, hsize, hby⟩ := info_parts hinfo
  have hxl : l.length = n := by have := hown.1; rw [bv_length] at this; omega
  have hml : lm.length = m := by have := hs.newsLen; rw [bv_length] at this; omega
  have hll : (bv (l ++ lm)).length = (n + m) * 1 := by rw [bv_length, List.length_append]; omega
  have hs' : Src P i.size tx x m (bv lm) w := by rw [hsize]; exact hs
  have grow : ∀ (hold : (Builtin.firstCells i.size n (.slice ao n c)).run P w.drew = .ok (bv l).toArray w.drew), c < n + m →
      ∃ ao' c' w', (Builtin.append_ #[t, tx] ty #[.slice ao n c, x]).run P w = .ok (.slice ao' (n + m) c') w' ∧ w'.ownsRow B e 1 (.slice ao' (n + m) c') (n + m) (bv (l ++ lm)) ∧ w.grownBy w' (ob ao) ∧ (ob ao' = ob ao ∨ ob ao' = some w.heap.size) := by
    intro hold hc
    have hr := run_append_grow_src w t tx ty e i (.int .u8 0) ht hi hz ao n c (bv l) hold x m (bv lm) hs' hc (by omega) (by rw [hby]; exact growslice_fits (by omega) (by omega))
    refine ⟨_, _, _, hr, ⟨hll, .inr ⟨w.heap.size, _, _, rfl, hbase, heap_alloc_new w.drew _, grownCap_ge w (n + m) c e, grownCap_le_maxLen w (n + m) c e (by unfold maxLen; omega), ?_, ?_⟩⟩, ⟨rfl, rfl, rfl, by simp, fun k hk _ => Below.heap_alloc w.drew _ k hk⟩, .inr rfl⟩
    · have hz1 : (Value.int IntKind.u8 0).cells.size = 1 := rfl
      have hge := grownCap_ge w (n + m) c e
      rw [← bv_append]
      simp only [Array.size_append, List.size_toArray, size_zeroCells, hz1, hll]
      omega
    · rw [← bv_append, ← hll]
      simp only [Array.toList_append]
      exact List.take_left
  rcases hown.2 with ⟨hv, hn0⟩ | ⟨g, cap, cur, hv, hbg, hg, hnc, hcm, hcs, htake⟩
  · simp only [Value.slice.injEq] at hv
    obtain ⟨rfl, _, rfl⟩ := hv
    have hl0 : l = [] := List.eq_nil_of_length_eq_zero (by omega)
    subst hl0 hn0
    by_cases hm : m = 0
    · subst hm
      have hlm : lm = [] := List.eq_nil_of_length_eq_zero hml
      subst hlm
      refine ⟨none, 0, w, ?_, World.ownsRow_nil w B e 1, grown_refl w _, .inl rfl⟩
      have h1 := hs'.cells
      have h2 := hs'.len w
      rcases hs.kind with ⟨e', hk⟩ | hk <;> simp [Builtin.append_, run_underlying ht, run_underlying hk, sizeOf, typeInfo, hi, hs.len, h1]
    · exact grow (by rw [hsize]; exact run_firstCells_none w.drew 1 0 0 0) (by omega)
  · simp only [Value.slice.injEq] at hv
    obtain ⟨rfl, _, rfl⟩ := hv
    by_cases hroom : n + m ≤ c
    · have hcs' : cur.size = c := by simpa using hcs
      have hgc : ∀ j, j < c → (w.cell? ⟨g, j, none⟩).isSome = true := fun j hj => by
        simp [World.cell?, hg]; omega
      have hgf : ∀ j, w.frozen? ⟨g, j, none⟩ = false := fun j => by
        simp [World.frozen?, hg]
      have hr := run_append_room_src w t tx ty e i ht hi g 0 n c x m (bv lm) hs' hroom (by intro j hj; rw [bv_length] at hj; exact hgc _ (by rw [hsize]; omega)) (fun j _ => hgf _)
      rw [hsize, Nat.mul_one, Nat.zero_add] at hr
      obtain ⟨cur', a1, a2, a3⟩ := heap_setCells g e (0, 0) (bv lm) n w cur hg (by rw [bv_length]; omega)
      refine ⟨_, _, _, hr, ⟨hll, .inr ⟨g, c, cur', rfl, hbg, a1, hroom, hcm, by omega, ?_⟩⟩, grown_setCells g _ _ _, .inl rfl⟩
      rw [bv_length, hml] at a3
      rw [Nat.mul_one, a3, bv_append]
      rw [Nat.mul_one] at htake
      rw [htake]
    · refine grow ?_ (by omega)
      rw [hsize]
      exact run_firstCells_some w.drew 1 n ⟨g, 0, none⟩ n c (bv l) (by rw [bv_length]; omega) (by have := hown.cells (g := g) rfl; simpa using this)

theorem wpList_append_src {ops : Array Oper} {rest : List Oper} {o : Oper} {a : Act} {Q : Exit → Act → World → Prop} {w : World} (hgd : o.guard = none) (s x : Operand) (t tx : TypeId)
    (ho : o.op = .call { callee := .builtin .append, args := #[s, x], argTypes := #[t, tx] })
    (B : Nat) (e : TypeId) (ht : P.underlying t = some (.slice e)) (hinfo : (P.info? e).map (fun i => (i.zero, i.size, i.bytes)) = some (some (.int .u8 0), 1, 1))
    (ao : Option Addr) (n c : Nat) (l : List UInt8) (hs : a.eval s = .slice ao n c) (hown : w.ownsRow B e 1 (.slice ao n c) n (bv l)) (xv : Value) (m : Nat) (lm : List UInt8) (hx : a.eval x = xv) (hsrc : Src P 1 tx xv m (bv lm) w)
    (hlen : n + m ≤ 140737488355328) (hbase : B ≤ w.heap.size)
    (h : ∀ ao' c' w', w'.ownsRow B e 1 (.slice ao' (n + m) c') (n + m) (bv (l ++ lm)) → w.grownBy w' (ob ao) → (ob ao' = ob ao ∨ ob ao' = some w.heap.size) → wpList P ops Q rest (a.put o.dst (.slice ao' (n + m) c')) w') :
    wpList P ops Q (o :: rest) a w := by
  refine wpList_plain hgd fun K hK => ?_
  obtain ⟨ao', c', w', hr, h2, h3, h4⟩ := run_append_src_at (P := P) w B t tx o.type e ht hinfo ao n c l hown xv m lm hsrc hlen hbase
  unfold Oper.wp execOp
  simp only [ho, resolve, invoke, builtin, Sem.run_bind, Sem.run_pure, Result.andThen_ok, List.map_toArray, List.map_cons, List.map_nil, hs, hx, hr]
  exact hK _ _ (h ao' c' w' h2 h3 h4)
end

theorem ownsRow_of_block {w w' : World} {B : Nat} {e : TypeId} {ao : Option Addr} {n c : Nat} {xs : List Value} (h : w.ownsRow B e 1 (.slice ao n c) n xs) (hb : ∀ k, ob ao = some k → w'.heap[k]? = w.heap[k]?) : w'.ownsRow B e 1 (.slice ao n c) n xs := by
  refine ⟨h.1, ?_⟩
  rcases h.2 with h0 | ⟨g, cap, cur, hv, hbg, hg, h1⟩
  · exact .inl h0
  · refine .inr ⟨g, cap, cur, hv, hbg, ?_, h1⟩
    simp only [Value.slice.injEq] at hv
    rw [hb g (by rw [hv.1]; rfl)]
    exact hg
/-- Memory that only grew leaves a Writer as it was. -/
theorem Wr.below {e : TypeId} {w w' : World} {B : Nat} {p : Addr} {ao : Option Addr} {c : Nat} {l : List UInt8} (h : Wr e w B p ao c l) (hb : Below w.heap.size w w') : Wr e w' B p ao c l ∧ Fr w w' p ao ao := by
  have hp := World.block_lt_of_cell? w p h.cell
  refine ⟨⟨(hb.cell hp).trans h.cell, (hb.frozen hp).trans h.froz, ownsRow_of_block h.own (fun k hk => hb.block k ?_), h.apart, Nat.le_trans h.base hb.size⟩, ⟨hb.os, hb.tape, hb.output, hb.size, fun k hk _ _ => hb.block k hk, .inl rfl⟩⟩
  have := h.own.lt k (by rw [ob_eq]; exact hk)
  exact this.2
/-- An append of whatever length and the store of what came of it into the Writer's cell. -/
theorem Wr.step' {e : TypeId} {w w1 : World} {B : Nat} {pb po : Nat} {ao ao' : Option Addr} {c c' : Nat} {l m : List UInt8} (h : Wr e w B ⟨pb, po, none⟩ ao c l)
    (hown : w1.ownsRow B e 1 (.slice ao' (l.length + m.length) c') (l.length + m.length) (bv (l ++ m))) (hg : w.grownBy w1 (ob ao)) (hat : ob ao' = ob ao ∨ ob ao' = some w.heap.size) :
    Wr e (w1.setCell ⟨pb, po, none⟩ (.slice ao' (l.length + m.length) c')) B ⟨pb, po, none⟩ ao' c' (l ++ m) ∧
      Fr w (w1.setCell ⟨pb, po, none⟩ (.slice ao' (l.length + m.length) c')) ⟨pb, po, none⟩ ao ao' := by
  have hpb : pb < w.heap.size := World.block_lt_of_cell? w ⟨pb, po, none⟩ h.cell
  have hbl : w1.heap[pb]? = w.heap[pb]? := hg.block pb (by omega) (fun e => h.apart e.symm)
  have hgp : ob ao' ≠ some pb := by
    rcases hat with e | e
    · rw [e]; exact h.apart
    · rw [e]; intro e'; cases e'; omega
  have hc1 := (World.cell?_of_block (a := ⟨pb, po, none⟩) hbl).trans h.cell
  have hf1 : w1.frozen? ⟨pb, po, none⟩ = false := (World.frozen?_of_block hbl).trans h.froz
  have hsz := hg.size
  refine ⟨⟨?_, ?_, ?_, hgp, ?_⟩, ⟨hg.os, hg.tape, hg.output, ?_, fun k hk hkp hks => ?_, ?_⟩⟩
  · rw [List.length_append]; exact World.cell?_setCell_same _ _ _ hc1
  · rw [World.frozen?_setCell]; exact hf1
  · rw [List.length_append]
    exact ownsRow_of_block hown (fun k hk => Below.heap_setCell _ _ _ _ (fun e => hgp (by rw [hk, e])))
  · have := h.base; simp [World.setCell]; omega
  · simp [World.setCell]; omega
  · rw [Below.heap_setCell _ _ _ _ hkp, hg.block k (by omega) hks]
  · rcases hat with e | e
    · exact .inl e
    · exact .inr ⟨_, e, Nat.le_refl _⟩
theorem byteCells_eq (s : ByteArray) : byteCells s = bv s.data.toList := rfl

/-- A slice of bytes in memory. -/
def Bs (w : World) (ao : Option Addr) (l : List UInt8) : Prop := ∀ j b, l[j]? = some b → ∃ g off, ao = some ⟨g, off, none⟩ ∧ w.cell? ⟨g, off + j, none⟩ = some (.int .u8 (b.toNat : Int))
theorem Bs.below {w w' : World} {ao : Option Addr} {l : List UInt8} (h : Bs w ao l) (hb : Below w.heap.size w w') : Bs w' ao l := by
  intro j b hj
  obtain ⟨g, off, e, hc⟩ := h j b hj
  exact ⟨g, off, e, (hb.cell (World.block_lt_of_cell? w _ hc)).trans hc⟩
theorem Bs.of_own {w : World} {B : Nat} {e : TypeId} {ao : Option Addr} {n c : Nat} {l : List UInt8} (h : w.ownsRow B e 1 (.slice ao n c) n (bv l)) : Bs w ao l := by
  intro j b hj
  rcases h.2 with ⟨_, h0⟩ | ⟨g, cap, cur, hv, _⟩
  · have := h.1
    rw [bv_length, h0] at this
    have hl := (List.getElem?_eq_some_iff.1 hj).1
    omega
  · simp only [Value.slice.injEq] at hv
    refine ⟨g, 0, hv.1, ?_⟩
    have hc := h.cells (g := g) (by rw [ob_eq, hv.1]; rfl) j (.int .u8 (b.toNat : Int)) (by simp [bv, hj])
    rw [Addr.add_lit] at hc
    exact hc
theorem Bs.src {P : Program} {w : World} {ao : Option Addr} {c : Nat} {l : List UInt8} {tx e : TypeId} (h : Bs w ao l) (hk : P.underlying tx = some (.slice e)) : Src P 1 tx (.slice ao l.length c) l.length (bv l) w := by
  cases ao with
  | some a =>
    refine Src.ofSlice w hk a l.length c (bv l) (by rw [bv_length]; omega) (fun j u hu => ?_) (bv_one l)
    simp only [bv, List.getElem?_map, Option.map_eq_some_iff] at hu
    obtain ⟨b, hb, rfl⟩ := hu
    obtain ⟨g, off, e, hc⟩ := h j b hb
    cases e
    rw [Addr.add_lit]
    exact hc
  | none =>
    have h0 : l = [] := by
      cases l with
      | nil => rfl
      | cons b r => obtain ⟨g, off, e, _⟩ := h 0 b rfl; cases e
    subst h0
    exact Src.ofNil w hk c

/-- string(b). -/
theorem conv_bs {P : Program} {w : World} {ao : Option Addr} {c : Nat} {l : List UInt8} (src dst e : TypeId) (hs : P.underlying src = some (.slice e)) (he : P.underlying e = some (.int .u8)) (hd : P.underlying dst = some .string) (h : Bs w ao l) :
    (convert src dst (.slice ao l.length c)).run P w = .ok (.string ⟨l.toArray⟩) w := by
  cases ao with
  | some a =>
    refine run_convert_bytes_back w src dst e a c l hs he hd (fun j hj => ?_)
    obtain ⟨g, off, e', hc⟩ := h j _ (List.getElem?_eq_getElem hj)
    cases e'
    rw [Addr.add_lit]
    exact hc
  | none =>
    have h0 : l = [] := by
      cases l with
      | nil => rfl
      | cons b r => obtain ⟨g, off, e', _⟩ := h 0 b rfl; cases e'
    subst h0
    exact run_convert_bytes_nil w src e hs he 0 c dst hd
end Go.Proofs.YteknpejkooemjabDoor.Oct
