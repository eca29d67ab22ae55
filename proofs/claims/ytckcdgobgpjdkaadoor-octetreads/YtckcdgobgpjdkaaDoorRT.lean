/- The document's Text, as it is walked; what a round of OctetWrites leaves. -/
import Derived.Test.YtckcdgobgpjdkaaDoorRV2
import Derived.Test.YtckcdgobgpjdkaaDoorTxt
import Derived.Test.YtckcdgobgpjdkaaDoorNb
namespace Go.Proofs.YtckcdgobgpjdkaaDoor.Oct
open Go.RowKit

set_option maxHeartbeats 1000000 in
theorem refText_any (s : ByteArray) (w : World) (hs : s.size ≤ 9223372036854775800) :
    Calls Tryd.prog 19 #[.string s] w fun e w' => ∃ ao c, e = .returned (.tuple #[.slice ao (textBytes s.data.toList).length c, .int .i64 (textErr s.data.toList)]) ∧ Fresh 5 w w' ao c (textBytes s.data.toList) := by
  have hsl : s.data.toList.length = s.size := by rw [Array.length_toList]; rfl
  by_cases hl : 4096 < s.size
  · have e1 : textErr s.data.toList = 12 := by unfold textErr; rw [if_pos (by omega)]
    have e2 : textBytes s.data.toList = [] := by unfold textBytes; rw [e1]; rfl
    rw [e1, e2]
    have hl' : (4096 : Int) < (s.size : Int) := by omega
    clear e1 e2 hsl
    go_enter Tryd.func19, Tryd.ntmps19
    go_wp2_with fail
    go_ret2
    exact ⟨none, 0, rfl, Below.refl _ _, World.ownsRow_nil _ _ _ _⟩
  · have hl' : ¬ (4096 : Int) < (s.size : Int) := by omega
    have cV := refValid_any s w hs
    have e1 : textErr s.data.toList = if Lib.validD s.data.toList then 0 else 14 := by unfold textErr; rw [if_neg (by omega)]
    have e2 : textBytes s.data.toList = if Lib.validD s.data.toList then le 2 s.size ++ s.data.toList else [] := by unfold textBytes; rw [e1, hsl]; cases Lib.validD s.data.toList <;> rfl
    rw [e1, e2]
    clear e1 e2
    cases hv : Lib.validD s.data.toList
    · rw [hv] at cV
      rw [if_neg (by decide), if_neg (by decide)]
      clear hv
      go_enter Tryd.func19, Tryd.ntmps19
      go_wp2_with (go_at_call 44; refine cV.mono ?_; rintro e w' ⟨rfl, rfl⟩)
      go_ret2
      exact ⟨none, 0, rfl, Below.refl _ _, World.ownsRow_nil _ _ _ _⟩
    · rw [hv] at cV
      rw [if_pos rfl, if_pos rfl]
      clear hv
      go_enter Tryd.func19, Tryd.ntmps19
      go_wp2_with (go_at_call 44; refine cV.mono ?_; rintro e w' ⟨rfl, rfl⟩)
      refine (Num_any s.size 2 _ (by omega) (by decide)).mono ?_
      rintro e w2 ⟨a2, c2, rfl, hf2⟩
      have hown2 := hf2.own
      rw [le_length] at hown2
      have hs2 := hf2.below.size
      have HS := hide hsl
      clear hsl cV
      go_wp2_with (at_builtin; refine wpList_append_src rfl _ _ 24 9 rfl w'.heap.size 5 Tryd.underlying24 info5 a2 2 c2 (le 2 s.size) rfl hown2 (.string s) s.size s.data.toList rfl (Src.ofString _ Tryd.underlying9 s) (by omega) hs2 ?_)
      intro a3 c3 w3 hown3 hg3 hat3
      have hB3 := hf2.below.grown hg3 hs2 (fun k hk => (hown2.lt k (by rw [ob_eq]; exact hk)).1)
      have hln : (le 2 s.size ++ s.data.toList).length = 2 + s.size := by rw [List.length_append, le_length, HS.out]
      have Hln := hide hln
      clear hln
      go_wp2
      go_ret2
      refine ⟨a3, c3, by rw [Hln.out]; rfl, hB3, ?_⟩
      rw [Hln.out]
      exact hown3

/-- What stands between two rounds: the Writer at p and the slice b hold the same bytes, in rows apart. -/
structure Rnd (w0 w : World) (p : Addr) (ao : Option Addr) (c : Nat) (bo : Option Addr) (bc : Nat) (l : List UInt8) : Prop where
  wr : Wr 5 w w0.heap.size p ao c l
  row : w.ownsRow w0.heap.size 5 1 (.slice bo l.length bc) l.length (bv l)
  dis : ob bo = none ∨ (ob bo ≠ ob ao ∧ ob bo ≠ some p.block)
  bel : Below w0.heap.size w0 w
  new : w0.heap.size ≤ p.block
theorem Rnd.below {w0 w w' : World} {p : Addr} {ao : Option Addr} {c : Nat} {bo : Option Addr} {bc : Nat} {l : List UInt8} (h : Rnd w0 w p ao c bo bc l) (hb : Below w.heap.size w w') : Rnd w0 w' p ao c bo bc l :=
  ⟨(h.wr.below hb).1, ownsRow_of_block h.row (fun k hk => hb.block k (h.row.lt k (by rw [ob_eq]; exact hk)).2), h.dis, h.bel.trans (hb.mono h.bel.size), h.new⟩
/-- The Writer has written d; a slice t of d was made behind it. -/
structure Mid (w0 w : World) (p : Addr) (ao : Option Addr) (c : Nat) (bo : Option Addr) (bc : Nat) (l d : List UInt8) (ta : Option Addr) : Prop where
  wr : Wr 5 w w0.heap.size p ao c (l ++ d)
  row : w.ownsRow w0.heap.size 5 1 (.slice bo l.length bc) l.length (bv l)
  dis : ob bo = none ∨ (ob bo ≠ ob ao ∧ ob bo ≠ some p.block)
  bel : Below w0.heap.size w0 w
  new : w0.heap.size ≤ p.block
  src : Bs w ta d
theorem Rnd.mid {w0 w w1 w2 : World} {p : Addr} {ao ao1 : Option Addr} {c c1 : Nat} {bo ta : Option Addr} {bc tc : Nat} {l d : List UInt8} (h : Rnd w0 w p ao c bo bc l) (hw : Wr 5 w1 w0.heap.size p ao1 c1 (l ++ d)) (hf : Fr w w1 p ao ao1) (ht : Fresh 5 w1 w2 ta tc d) :
    Mid w0 w2 p ao1 c1 bo bc l d ta := by
  have hbl : Below w0.heap.size w w1 := hf.below h.bel.size h.new (fun k hk => (h.wr.own.lt k (by rw [ob_eq]; exact hk)).1)
  have hrow : w1.ownsRow w0.heap.size 5 1 (.slice bo l.length bc) l.length (bv l) := ownsRow_of_block h.row (fun k hk => by
    have hk2 := (h.row.lt k (by rw [ob_eq]; exact hk)).2
    rcases h.dis with hd | ⟨hd1, hd2⟩
    · rw [hd] at hk; cases hk
    · exact hf.block k hk2 (fun e => hd2 (by rw [hk, e])) (fun e => hd1 (by rw [hk, e])))
  have hlt : ∀ k, ob bo = some k → k < w.heap.size := fun k hk => (h.row.lt k (by rw [ob_eq]; exact hk)).2
  have hB1 := h.bel.trans hbl
  refine ⟨(hw.below ht.below).1, ownsRow_of_block hrow (fun k hk => ht.below.block k (hrow.lt k (by rw [ob_eq]; exact hk)).2), ?_, hB1.trans (ht.below.mono hB1.size), h.new, ht.bs⟩
  rcases h.dis with hd | ⟨hd1, hd2⟩
  · exact .inl hd
  · cases hbo : ob bo with
    | none => exact .inl rfl
    | some k =>
      right
      rw [hbo] at hd1 hd2
      refine ⟨?_, hd2⟩
      rcases hf.lies with e | ⟨g, e, hg⟩
      · rw [e]; exact hd1
      · rw [e]; intro he; cases he
        have := hlt _ hbo
        omega
/-- b = append(b, t...). -/
theorem Mid.next {w0 w w' : World} {p : Addr} {ao : Option Addr} {c : Nat} {bo bo' ta : Option Addr} {bc bc' : Nat} {l d : List UInt8} (h : Mid w0 w p ao c bo bc l d ta)
    (hown : w'.ownsRow w0.heap.size 5 1 (.slice bo' (l.length + d.length) bc') (l.length + d.length) (bv (l ++ d))) (hg : w.grownBy w' (ob bo)) (hat : ob bo' = ob bo ∨ ob bo' = some w.heap.size) : Rnd w0 w' p ao c bo' bc' (l ++ d) := by
  have hpb := World.block_lt_of_cell? w p h.wr.cell
  have hkeep : ∀ k, k < w.heap.size → (ob bo = none ∨ ob bo ≠ some k) → w'.heap[k]? = w.heap[k]? := fun k hk hne => hg.block k hk (fun e => by
    rcases hne with h0 | h0
    · rw [h0] at e; cases e
    · exact h0 e.symm)
  have hp : w'.heap[p.block]? = w.heap[p.block]? := hkeep _ hpb (by rcases h.dis with e | e; exact .inl e; exact .inr e.2)
  have hao : ∀ k, ob ao = some k → w'.heap[k]? = w.heap[k]? := fun k hk => hkeep k (h.wr.own.lt k (by rw [ob_eq]; exact hk)).2 (by rcases h.dis with e | e; exact .inl e; right; rw [← hk]; exact e.1)
  have hlt : ∀ k, ob ao = some k → k < w.heap.size := fun k hk => (h.wr.own.lt k (by rw [ob_eq]; exact hk)).2
  refine ⟨⟨(World.cell?_of_block hp).trans h.wr.cell, (World.frozen?_of_block hp).trans h.wr.froz, ownsRow_of_block h.wr.own hao, h.wr.apart, Nat.le_trans h.wr.base hg.size⟩, by rw [List.length_append]; exact hown, ?_, h.bel.grown hg h.wr.base (fun k hk => (h.row.lt k (by rw [ob_eq]; exact hk)).1), h.new⟩
  rcases hat with e | e
  · rw [e]; exact h.dis
  · right
    rw [e]
    refine ⟨fun he => ?_, fun he => ?_⟩
    · have := hlt _ he.symm; omega
    · have := Option.some.inj he; omega
theorem le_mod (n x : Nat) : le n (x % 256 ^ n) = le n x := by
  induction n generalizing x with
  | zero => rfl
  | succ n ih =>
    simp only [le]
    rw [show x % 256 ^ (n + 1) / 256 = x / 256 % 256 ^ n by rw [Nat.pow_succ, Nat.mul_comm, Nat.mod_mul_right_div_self], ih]
    congr 1
    apply UInt8.toNat_inj.1
    rw [UInt8.toNat_ofNat', UInt8.toNat_ofNat', Nat.pow_succ, Nat.mod_mul_left_mod]
end Go.Proofs.YtckcdgobgpjdkaaDoor.Oct
