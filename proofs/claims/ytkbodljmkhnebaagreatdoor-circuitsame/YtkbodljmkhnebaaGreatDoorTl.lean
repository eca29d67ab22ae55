/- What a reader has declared, in memory; new names. -/
import Derived.Test.YtkbodljmkhnebaaGreatDoorTk
namespace Go.Proofs.YtkbodljmkhnebaaGreatDoor.Cir
open Go.RowKit Go.Shelf Go.Proofs.YtkbodljmkhnebaaGreatDoor.Oct Go.Proofs.YtkbodljmkhnebaaGreatDoor.Tok Go.Proofs.YtkbodljmkhnebaaGreatDoor.Gt

/-- Where a reader's parts lie. -/
structure Ly where
  mq : Nat
  mb : Nat
  md : Nat
  bt : Nat
def xOf (L : Ly) (d : Dc) : X := ⟨.map (some L.mq), .int .i64 (d.q.size : Int), .int .i64 64, .map (some L.mb), .int .i64 (d.b.size : Int), .int .i64 64, .map (some L.md), L.bt⟩
structure DcOk (d : Dc) : Prop where
  q : d.q.size ≤ 64
  b : d.b.size ≤ 64
  rq : ∀ x r, d.q.find x = some r → 1 ≤ r.sz ∧ r.fr + r.sz ≤ d.q.size
  rb : ∀ x r, d.b.find x = some r → 1 ≤ r.sz ∧ r.fr + r.sz ≤ d.b.size
/-- A bank's registers, no more than it has elements. -/
def RQ (w : World) (b : Nat) (k : Bk) : Prop := ∃ n, n ≤ k.size ∧ Mp w b n (fun x => (k.find x).map rgV)
theorem RQ.rm {w : World} {b : Nat} {k : Bk} (h : RQ w b k) : RM w b k.find := by
  obtain ⟨n, _, h⟩ := h
  exact ⟨n, trivial, h⟩
theorem RQ.below {w w' : World} {b : Nat} {k : Bk} (h : RQ w b k) (hb : Below w.heap.size w w') : RQ w' b k := by
  obtain ⟨n, hn, h⟩ := h
  exact ⟨n, hn, h.below hb⟩
theorem RQ.kept {w w' : World} {b : Nat} {k : Bk} {M : List Nat} (h : RQ w b k) (hk : Kb M w w') (hm : b ∉ M) : RQ w' b k := by
  obtain ⟨n, hn, h⟩ := h
  exact ⟨n, hn, h.kept hk hm⟩
theorem RQ.ne {w : World} {b : Nat} {q : Bk} (h : RQ w b q) {k : Nat} {cs : Array Value} {t : TypeId} {fr : Nat × Nat} (hk : w.heap[k]? = some (.cells cs t fr)) : b ≠ k := by
  obtain ⟨n, _, h⟩ := h
  exact h.ne hk
theorem RQ.lt {w : World} {b : Nat} {k : Bk} (h : RQ w b k) : b < w.heap.size := by
  obtain ⟨n, _, h⟩ := h
  exact h.lt
structure Rdr (w0 w : World) (R : Nat) (L : Ly) (B N : Nat) (d : Dc) : Prop where
  ok : DcOk d
  mq : RQ w L.mq d.q
  mb : RQ w L.mb d.b
  md : DM w B L.md N d.defs
  hB : B ≤ w.heap.size
  bel : Below w0.heap.size w0 w
  T0 : Tb w0
  R0 : w0.heap.size ≤ R
  q0 : w0.heap.size ≤ L.mq ∧ w0.heap.size ≤ L.mb ∧ w0.heap.size ≤ L.md
  ne : L.mq ≠ L.mb ∧ L.mq ≠ L.md ∧ L.mb ≠ L.md
theorem RM.ne {w : World} {b : Nat} {f : Nm → Option Rg} (h : RM w b f) {k : Nat} {cs : Array Value} {t : TypeId} {fr : Nat × Nat} (hk : w.heap[k]? = some (.cells cs t fr)) : b ≠ k := by
  obtain ⟨n, _, h⟩ := h
  exact h.ne hk
theorem DM.ne {w : World} {B b N : Nat} {f : Nm → Option Df} (h : DM w B b N f) {k : Nat} {cs : Array Value} {t : TypeId} {fr : Nat × Nat} (hk : w.heap[k]? = some (.cells cs t fr)) : b ≠ k := by
  obtain ⟨vs, h, _⟩ := h
  exact h.ne hk
namespace Rdr
variable {w0 w w' : World} {R : Nat} {L : Ly} {B N : Nat} {d : Dc} {o : Value} {ts ts' : List T} {x : X}
theorem tb (h : Rdr w0 w R L B N d) : Tb w := h.T0.below h.bel
theorem below (h : Rdr w0 w R L B N d) (hb : Below w.heap.size w w') : Rdr w0 w' R L B N d :=
  ⟨h.ok, h.mq.below hb, h.mb.below hb, h.md.below hb, Nat.le_trans h.hB hb.size, h.bel.trans (hb.mono h.bel.size), h.T0, h.R0, h.q0, h.ne⟩
theorem kept {M : List Nat} (h : Rdr w0 w R L B N d) (hk : Kb M w w') (hs : Safe B M w) (h0 : ∀ m, m ∈ M → w0.heap.size ≤ m) (h1 : L.mq ∉ M) (h2 : L.mb ∉ M) (h3 : L.md ∉ M) : Rdr w0 w' R L B N d :=
  ⟨h.ok, h.mq.kept hk h1, h.mb.kept hk h2, h.md.kept hk hs h3, Nat.le_trans h.hB hk.size, h.bel.trans (hk.below h.bel.size h0), h.T0, h.R0, h.q0, h.ne⟩
theorem safe (hR : Rt w R x o ts) : Safe B [R] w := by
  intro m hm cs t fr hg
  rw [List.mem_singleton] at hm
  subst hm
  obtain ⟨⟨v, hb, _⟩, _⟩ := hR
  unfold rbO at hb
  rw [hb] at hg
  simp only [Option.some.injEq, Obj.cells.injEq] at hg
  rw [← hg.2.1]
  exact ⟨fun e => absurd e (by decide), fun e => absurd e (by decide)⟩
theorem turn (h : Rdr w0 w R L B N d) (hR : Rt w R x o ts) (hk : Kb [R] w w') : Rdr w0 w' R L B N d := by
  obtain ⟨⟨v, hb, _⟩, _⟩ := id hR
  unfold rbO at hb
  exact h.kept hk (safe hR) (fun m hm => by rw [List.mem_singleton] at hm; subst hm; exact h.R0) (by simpa using h.mq.ne hb) (by simpa using h.mb.ne hb) (by simpa using h.md.ne hb)
theorem more {M : List Nat} (h : Rdr w0 w R L B N d) (hR : Rt w R x o ts) (hk : Kb (R :: M) w w') (hM : ∀ m, m ∈ M → w0.heap.size ≤ m ∧ ∃ cs t fr, w.heap[m]? = some (Obj.cells cs t fr) ∧ (t = 3 → B ≤ m) ∧ (t = 276 → B ≤ m)) : Rdr w0 w' R L B N d := by
  obtain ⟨⟨v, hb, _⟩, _⟩ := id hR
  unfold rbO at hb
  have key : ∀ b, (∀ k cs t fr, w.heap[k]? = some (Obj.cells cs t fr) → b ≠ k) → b ∉ R :: M := by
    intro b hh hm
    rcases List.mem_cons.1 hm with e | e
    · exact hh _ _ _ _ hb e
    · obtain ⟨_, cs, t, fr, hg, _⟩ := hM b e
      exact hh _ _ _ _ hg rfl
  refine h.kept hk ?_ ?_ (key _ fun k _ _ _ hg => h.mq.ne hg) (key _ fun k _ _ _ hg => h.mb.ne hg) (key _ fun k _ _ _ hg => h.md.ne hg)
  · intro m hm cs t fr hg
    rcases List.mem_cons.1 hm with e | e
    · exact safe (B := B) hR m (by rw [e]; simp) cs t fr hg
    · obtain ⟨_, cs', t', fr', hg', h1, h2⟩ := hM m e
      rw [hg] at hg'
      simp only [Option.some.injEq, Obj.cells.injEq] at hg'
      rw [hg'.2.1]
      exact ⟨h1, h2⟩
  · intro m hm
    rcases List.mem_cons.1 hm with e | e
    · rw [e]; exact h.R0
    · exact (hM m e).1
theorem mono {B' : Nat} (h : Rdr w0 w R L B N d) (hB : B ≤ B') (hw : B' ≤ w.heap.size) : Rdr w0 w R L B' N d :=
  ⟨h.ok, h.mq, h.mb, h.md.mono hB, hw, h.bel, h.T0, h.R0, h.q0, h.ne⟩
end Rdr
theorem Rt.cells {w : World} {R : Nat} {L : Ly} {d : Dc} {o : Value} {ts : List T} (h : Rt w R (xOf L d) o ts) : w.cell? ⟨R, 0, none⟩ = some (.map (some L.mq)) ∧ w.cell? ⟨R, 1, none⟩ = some (.int .i64 (d.q.size : Int)) ∧ w.cell? ⟨R, 2, none⟩ = some (.int .i64 64) ∧
    w.cell? ⟨R, 3, none⟩ = some (.map (some L.mb)) ∧ w.cell? ⟨R, 4, none⟩ = some (.int .i64 (d.b.size : Int)) ∧ w.cell? ⟨R, 5, none⟩ = some (.int .i64 64) ∧ w.cell? ⟨R, 6, none⟩ = some (.map (some L.md)) ∧ w.cell? ⟨R, 8, none⟩ = some o := by
  obtain ⟨⟨v, hb, _⟩, _⟩ := h
  unfold rbO xOf at hb
  exact ⟨cell_of_row _ _ 0 _ _ _ hb, cell_of_row _ _ 1 _ _ _ hb, cell_of_row _ _ 2 _ _ _ hb, cell_of_row _ _ 3 _ _ _ hb, cell_of_row _ _ 4 _ _ _ hb, cell_of_row _ _ 5 _ _ _ hb, cell_of_row _ _ 6 _ _ _ hb, cell_of_row _ _ 8 _ _ _ hb⟩
theorem Rt.btB {w : World} {R : Nat} {x : X} {o : Value} {ts : List T} (h : Rt w R x o ts) : ∃ cs fr, w.heap[x.bt]? = some (Obj.cells cs 62 fr) := by
  obtain ⟨⟨v, hb, off, c, cs, fr, _, _, h3, _⟩, _⟩ := h
  exact ⟨cs, fr, h3⟩
theorem Rt.free {w : World} {R : Nat} {x : X} {o : Value} {ts : List T} (h : Rt w R x o ts) (j : Nat) : w.frozen? ⟨R, j, none⟩ = false := by
  obtain ⟨⟨v, hb, _⟩, _⟩ := h
  unfold rbO at hb
  simp [World.frozen?, hb]
set_option maxRecDepth 100000 in
set_option maxHeartbeats 600000 in
theorem cNewName (w0 : World) (R : Nat) (L : Ly) (B N : Nat) (d : Dc) (o : Value) (ts : List T) (w : World) (hD : Rdr w0 w R L B N d) (hR : Rt w R (xOf L d) o ts) :
    Calls Tryz.prog 168 #[.pointer (some ⟨R, 0, none⟩)] w (PT R (xOf L d) o w (fun (y : Nm) => .tuple #[.string ⟨y.toArray⟩, .nilIface]) (fun e => .tuple #[.string ⟨#[]⟩, e]) (pNew d ts)) := by
  have c1 := cName R (xOf L d) o ts w hR
  have eG := erG
  have eN := erN
  have hTx := hR.fine.hd
  unfold pNew
  cases hP : pNam ts with
  | no c t =>
    rw [hP] at c1
    go_enter Tryz.func168, Tryz.ntmps168
    go_wp2_with (first
      | (go_at_call 197; refine c1.mono ?_; rintro e w1 ⟨rfl, ⟨tn1, hn1⟩, hk1⟩; unfold tkV))
    go_ret2
    exact ⟨rfl, ⟨_, hn1.below (bnew _ _)⟩, hk1.alloc _⟩
  | ok t ts' =>
    obtain ⟨rfl, rfl⟩ := pNam_ok hP
    rw [hP] at c1
    simp only
    generalize hd ts = t at *
    clear hP
    have c2 := fun W (h : Rdr w0 W R L B N d) (h' : Rt W R (xOf L d) o (tl ts)) => cTaken R B L.mq L.mb L.md N d t.text (by omega) W h.hB h.tb h'.cells.1 h'.cells.2.2.2.1 h'.cells.2.2.2.2.2.2.1 h.mq.rm h.mb.rm h.md
    have c3 := fun W => cRefuse 83 t W
    obtain ⟨kind, text, num, o', line, col⟩ := t
    unfold tkV at c1 c3
    simp only at c1 c2 c3 ⊢
    have hlt := hR.lt
    cases hT : taken d text with
    | true =>
      rw [hT] at c2
      simp only [if_true]
      go_enter Tryz.func168, Tryz.ntmps168
      go_wp2_with (first
        | (go_at_call 197; refine c1.mono ?_; rintro e w1 ⟨rfl, hr1, hk1⟩))
      have hD1 := hD.turn hR hk1
      have hW : Below w1.heap.size w1 (w1.alloc (.cells #[.int .i64 (kind : Int), .string ⟨text.toArray⟩, .int .i64 (num : Int), .int .i64 (o' : Int), .int .i64 (line : Int), .int .i64 (col : Int)] 62)) := bnew _ _
      have hA := heap_alloc_new w1 (.cells #[.int .i64 (kind : Int), .string ⟨text.toArray⟩, .int .i64 (num : Int), .int .i64 (o' : Int), .int .i64 (line : Int), .int .i64 (col : Int)] 62)
      generalize hWW : (w1.alloc (.cells #[.int .i64 (kind : Int), .string ⟨text.toArray⟩, .int .i64 (num : Int), .int .i64 (o' : Int), .int .i64 (line : Int), .int .i64 (col : Int)] 62)) = W at *
      have hlW : w1.heap.size < W.heap.size := (Array.getElem?_eq_some_iff.1 hA).1
      have hlR : R < W.heap.size := by have := hr1.lt; omega
      clear hWW
      have HD2 := hide (c2 W.drew (hD1.below hW.drew) (hr1.below hW.drew))
      have hA1 : W.cell? ⟨w1.heap.size, 1, none⟩ = some (.string ⟨text.toArray⟩) := cell_of_row _ _ 1 _ _ _ hA
      have HB1 : Hid (∀ W', Below W.drew.heap.size W.drew W' → W'.cell? ⟨w1.heap.size, 1, none⟩ = some (.string ⟨text.toArray⟩)) := hide (fun W' h => (h.cell (p := ⟨w1.heap.size, 1, none⟩) hlW).trans hA1)
      go_region_held3 (fun V => V.cell? ⟨w1.heap.size, 1, none⟩ = some (.string ⟨text.toArray⟩)) (first | exact hA1 | exact HB1.out _ (by assumption))
        (first | (go_at_call 198; refine HD2.out.mono ?_; rintro e w2 ⟨rfl, hb2⟩))
      have g : w2.heap[w1.heap.size]? = _ := (hb2.block w1.heap.size hlW).trans hA
      have q0 : w2.cell? ⟨w1.heap.size, 0, none⟩ = some (.int .i64 (kind : Int)) := cell_of_row _ _ 0 _ _ _ g
      have q1 : w2.cell? ⟨w1.heap.size, 1, none⟩ = some (.string ⟨text.toArray⟩) := cell_of_row _ _ 1 _ _ _ g
      have q2 : w2.cell? ⟨w1.heap.size, 2, none⟩ = some (.int .i64 (num : Int)) := cell_of_row _ _ 2 _ _ _ g
      have q3 : w2.cell? ⟨w1.heap.size, 3, none⟩ = some (.int .i64 (o' : Int)) := cell_of_row _ _ 3 _ _ _ g
      have q4 : w2.cell? ⟨w1.heap.size, 4, none⟩ = some (.int .i64 (line : Int)) := cell_of_row _ _ 4 _ _ _ g
      have q5 : w2.cell? ⟨w1.heap.size, 5, none⟩ = some (.int .i64 (col : Int)) := cell_of_row _ _ 5 _ _ _ g
      go_wp2_with (first | (go_at_call 132; refine (c3 _).mono ?_; rintro e w3 ⟨rfl, hb3⟩))
      go_ret2
      exact ⟨rfl, ⟨_, (hr1.below (hW.trans (Below.mono ⟨hb2.os, hb2.tape, hb2.output, hb2.size, hb2.block⟩ (Nat.le_of_lt hlW)))).below hb3⟩, ((hk1.then_below hW).trans (Kb.of_below hb2).undrew).then_below hb3⟩
    | false =>
      rw [hT] at c2
      simp only [Bool.false_eq_true, if_false]
      go_enter Tryz.func168, Tryz.ntmps168
      go_wp2_with (first
        | (go_at_call 197; refine c1.mono ?_; rintro e w1 ⟨rfl, hr1, hk1⟩))
      have hD1 := hD.turn hR hk1
      have hW : Below w1.heap.size w1 (w1.alloc (.cells #[.int .i64 (kind : Int), .string ⟨text.toArray⟩, .int .i64 (num : Int), .int .i64 (o' : Int), .int .i64 (line : Int), .int .i64 (col : Int)] 62)) := bnew _ _
      have hA := heap_alloc_new w1 (.cells #[.int .i64 (kind : Int), .string ⟨text.toArray⟩, .int .i64 (num : Int), .int .i64 (o' : Int), .int .i64 (line : Int), .int .i64 (col : Int)] 62)
      generalize hWW : (w1.alloc (.cells #[.int .i64 (kind : Int), .string ⟨text.toArray⟩, .int .i64 (num : Int), .int .i64 (o' : Int), .int .i64 (line : Int), .int .i64 (col : Int)] 62)) = W at *
      have hlW : w1.heap.size < W.heap.size := (Array.getElem?_eq_some_iff.1 hA).1
      have hlR : R < W.heap.size := by have := hr1.lt; omega
      clear hWW
      have HD2 := hide (c2 W.drew (hD1.below hW.drew) (hr1.below hW.drew))
      have hA1 : W.cell? ⟨w1.heap.size, 1, none⟩ = some (.string ⟨text.toArray⟩) := cell_of_row _ _ 1 _ _ _ hA
      have HB1 : Hid (∀ W', Below W.drew.heap.size W.drew W' → W'.cell? ⟨w1.heap.size, 1, none⟩ = some (.string ⟨text.toArray⟩)) := hide (fun W' h => (h.cell (p := ⟨w1.heap.size, 1, none⟩) hlW).trans hA1)
      go_region_held3 (fun V => V.cell? ⟨w1.heap.size, 1, none⟩ = some (.string ⟨text.toArray⟩)) (first | exact hA1 | exact HB1.out _ (by assumption))
        (first | (go_at_call 198; refine HD2.out.mono ?_; rintro e w2 ⟨rfl, hb2⟩))
      go_wp2_with fail
      go_ret2
      exact ⟨rfl, hr1.below (hW.trans (Below.mono ⟨hb2.os, hb2.tape, hb2.output, hb2.size, hb2.block⟩ (Nat.le_of_lt hlW))), (hk1.then_below hW).trans (Kb.of_below hb2).undrew⟩
end Go.Proofs.YtkbodljmkhnebaaGreatDoor.Cir
