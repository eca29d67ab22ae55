/- Pieces written and read, as OctetBack wants them. -/
import Derived.Test.YtckcdgobgpjdkaaDoorBk1
import Derived.Test.YtckcdgobgpjdkaaDoorOpen
import Derived.Test.YtckcdgobgpjdkaaDoorHd
namespace Go.Proofs.YtckcdgobgpjdkaaDoor.Oct
open Go.RowKit
open Go.Lib (validD)

/-- The bytes that a piece is written as. -/
def pby (x : PV) : List UInt8 := if x.k = 1 then le 1 x.n else if x.k = 2 then le 2 x.n else if x.k = 3 then le 4 x.n else if x.k = 4 then le 8 x.n else if x.k = 5 then le 8 (can64 x.f) else if x.k = 6 then le 4 (can32 x.g) else if x.k = 7 then textBytes x.s.data.toList else []
def pok (x : PV) : Prop := x.k = 7 → textErr x.s.data.toList = 0
/-- The Writer between two rounds. -/
structure WSt (w0 w : World) (p : Addr) (ao : Option Addr) (c : Nat) (l : List UInt8) : Prop where
  wr : Wr 5 w w0.heap.size p ao c l
  bel : Below w0.heap.size w0 w
  new : w0.heap.size ≤ p.block
theorem WSt.below {w0 w w' : World} {p : Addr} {ao : Option Addr} {c : Nat} {l : List UInt8} (h : WSt w0 w p ao c l) (hb : Below w.heap.size w w') : WSt w0 w' p ao c l :=
  ⟨(h.wr.below hb).1, h.bel.trans (hb.mono h.bel.size), h.new⟩
theorem WSt.put {w0 w w1 : World} {p : Addr} {ao ao1 : Option Addr} {c c1 : Nat} {l l1 : List UInt8} (h : WSt w0 w p ao c l) (hw : Wr 5 w1 w0.heap.size p ao1 c1 l1) (hf : Fr w w1 p ao ao1) : WSt w0 w1 p ao1 c1 l1 :=
  ⟨hw, h.bel.trans (hf.below h.bel.size h.new (fun k hk => (h.wr.own.lt k (by rw [ob_eq]; exact hk)).1)), h.new⟩
/-- The bytes of the first q pieces, all of whose texts were taken. -/
structure Wrote (ps : List PV) (q : Nat) (l : List UInt8) : Prop where
  eq : l = (ps.take q).flatMap pby
  ok : ∀ x ∈ ps.take q, pok x
  len : l.length ≤ q * 4098
theorem Wrote.next {ps : List PV} {q : Nat} {l d : List UInt8} {x : PV} (h : Wrote ps q l) (hx : ps[q]? = some x) (hd : d = pby x) (hp : pok x) (hl : d.length ≤ 4098) : Wrote ps (q + 1) (l ++ d) := by
  refine ⟨?_, fun y hy => ?_, by rw [List.length_append]; have := h.len; omega⟩
  · rw [List.take_add_one, hx, List.flatMap_append, ← h.eq, hd]; simp
  · rw [List.take_add_one, hx] at hy
    simp only [Option.toList_some, List.mem_append, List.mem_singleton] at hy
    rcases hy with hy | rfl
    · exact h.ok y hy
    · exact hp
theorem back_all (pb po g off c B : Nat) (x : PV) (r : List UInt8) (w : World) (h : Rd w pb po g off c (pby x ++ r)) (hc : c ≤ 9223372036854775807) (hn : x.n < 18446744073709551616) (hf : x.f < 18446744073709551616) (hg : x.g < 4294967296) (hB : B ≤ pb) (hBs : B ≤ w.heap.size) (hT : Tabs w) (hV : VAll) (hok : pok x) :
    Calls Tryd.prog 29 #[.pointer (some ⟨pb, po, none⟩), .agg #[.int .i64 x.k, .int .u64 (x.n : Int), .float .f64 x.f, .float .f32 x.g, .string x.s]] w fun e w' => e = .returned (.bool true) ∧ Left B w w' pb po g c r := by
  obtain ⟨k, n, f, gg, s⟩ := x
  simp only at hn hf hg
  by_cases e1 : k = 1
  · subst e1; exact back_1 pb po g off c B n f gg s r w (by simpa [pby] using h) hc hn hf hg hB hBs
  by_cases e2 : k = 2
  · subst e2; exact back_2 pb po g off c B n f gg s r w (by simpa [pby] using h) hc hn hf hg hB hBs
  by_cases e3 : k = 3
  · subst e3; exact back_3 pb po g off c B n f gg s r w (by simpa [pby] using h) hc hn hf hg hB hBs
  by_cases e4 : k = 4
  · subst e4; exact back_4 pb po g off c B n f gg s r w (by simpa [pby] using h) hc hn hf hg hB hBs
  by_cases e5 : k = 5
  · subst e5; exact back_5 pb po g off c B n f gg s r w (by simpa [pby] using h) hc hn hf hg hB hBs
  by_cases e6 : k = 6
  · subst e6; exact back_6 pb po g off c B n f gg s r w (by simpa [pby] using h) hc hn hf hg hB hBs
  by_cases e7 : k = 7
  · subst e7; exact back_7 pb po g off c B n f gg s r w (by simpa [pby] using h) hc hn hf hg hB hBs hT hV (hok rfl)
  · have hp : pby ⟨k, n, f, gg, s⟩ = [] := by simp [pby, e1, e2, e3, e4, e5, e6, e7]
    rw [hp, List.nil_append] at h
    refine (back_0 _ k n f gg s w e1 e2 e3 e4 e5 e6 e7).mono ?_
    rintro e w' ⟨rfl, hb⟩
    exact ⟨rfl, ⟨off, c, h.below hb, Nat.le_refl _⟩, hb.mono hBs⟩
theorem pby_nil {x : PV} (hok : pok x) (h : pby x = []) : x.k ≠ 1 ∧ x.k ≠ 2 ∧ x.k ≠ 3 ∧ x.k ≠ 4 ∧ x.k ≠ 5 ∧ x.k ≠ 6 ∧ x.k ≠ 7 := by
  obtain ⟨k, n, f, gg, s⟩ := x
  have hle : ∀ m y, le (m + 1) y ≠ [] := fun m y e => by have := congrArg List.length e; rw [le_length] at this; simp at this
  refine ⟨?_, ?_, ?_, ?_, ?_, ?_, ?_⟩
  · rintro rfl; simp [pby] at h; exact hle _ _ h
  · rintro rfl; simp [pby] at h; exact hle _ _ h
  · rintro rfl; simp [pby] at h; exact hle _ _ h
  · rintro rfl; simp [pby] at h; exact hle _ _ h
  · rintro rfl; simp [pby] at h; exact hle _ _ h
  · rintro rfl; simp [pby] at h; exact hle _ _ h
  · rintro rfl
    have h0 := hok rfl
    simp only [pby, textBytes] at h
    simp only at h0
    rw [h0] at h
    simp at h
    exact hle _ _ h.1
set_option maxHeartbeats 400000 in
theorem NewReader_empty (ao : Option Addr) (c : Nat) (w : World) :
    Calls Tryd.prog 22 #[.slice ao 0 c] w fun e w' => ∃ pb ao' c', e = .returned (.pointer (some ⟨pb, 0, none⟩)) ∧ Below w.heap.size w w' ∧ w'.cell? ⟨pb, 0, none⟩ = some (.slice ao' 0 c') ∧ w'.cell? ⟨pb, 1, none⟩ = some (.bool true) ∧ w.heap.size ≤ pb := by
  have h : Bs w ao ([] : List UInt8) := fun j b hj => by simp at hj
  have hsr := h.src (P := Tryd.prog) (c := c) (tx := 24) Tryd.underlying24
  simp only [List.length_nil] at hsr
  go_enter Tryd.func22, Tryd.ntmps22
  go_wp2_with (at_builtin; refine wpList_append_src rfl _ _ 24 24 rfl w.heap.size 5 Tryd.underlying24 info5 none 0 0 [] rfl (World.ownsRow_nil _ _ _ _) (.slice ao 0 c) 0 [] rfl hsr (by omega) (Nat.le_refl _) ?_)
  intro ao1 c1 w1 hown hgrow hat
  have hbel : Below w.heap.size w w1 := (Below.refl _ _).grown hgrow (Nat.le_refl _) (fun k hk => by cases hk)
  have hs := hbel.size
  clear hgrow hat h hown hsr
  go_wp2
  go_ret
  exact ⟨w1.heap.size, ao1, c1, rfl, hbel.alloc hs _, by simp, by simp, hs⟩
theorem End_empty (pb po : Nat) (ao : Option Addr) (c : Nat) (w : World) (h1 : w.cell? ⟨pb, po, none⟩ = some (.slice ao 0 c)) (h2 : w.cell? ⟨pb, po + 1, none⟩ = some (.bool true)) :
    Calls Tryd.prog 30 #[.pointer (some ⟨pb, po, none⟩)] w fun e w' => e = .returned (.int .i64 0) ∧ w' = w := by
  go_enter Tryd.func30, Tryd.ntmps30
  go_wp2_with (go_at_call 60; refine (nobodys_made pb po _ h2).mono ?_; rintro e w' ⟨rfl, rfl⟩)
  go_ret
  exact ⟨rfl, rfl⟩
end Go.Proofs.YtckcdgobgpjdkaaDoor.Oct
