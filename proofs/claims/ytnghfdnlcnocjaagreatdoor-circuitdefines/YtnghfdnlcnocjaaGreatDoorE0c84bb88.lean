import Derived.Test.YtnghfdnlcnocjaaGreatDoorEe80882c9
import Derived.Test.YtnghfdnlcnocjaaGreatDoorEeacfe664
import Derived.Test.YtnghfdnlcnocjaaGreatDoorEac579eee
set_option maxRecDepth 100000
set_option maxHeartbeats 2000000
namespace Go.Proofs.YtnghfdnlcnocjaaGreatDoor.Cir
open Go.RowKit Go.Shelf Go.Proofs.YtnghfdnlcnocjaaGreatDoor.Oct Go.Proofs.YtnghfdnlcnocjaaGreatDoor.Tok Go.Proofs.YtnghfdnlcnocjaaGreatDoor.Gt
theorem bnew (w : World) (o : Obj) : Below w.heap.size w (w.alloc o) := (Below.refl _ _).alloc (Nat.le_refl _) _
theorem bcell {W w1 : World} (hb : Below W.heap.size W w1) : (∀ b o, b < W.heap.size -> w1.cell? ⟨b, o, none⟩ = W.cell? ⟨b, o, none⟩) /\ (∀ b o, b < W.heap.size -> w1.frozen? ⟨b, o, none⟩ = W.frozen? ⟨b, o, none⟩) :=
  ⟨fun b o h => hb.cell (p := ⟨b, o, none⟩) h, fun b o h => hb.frozen (p := ⟨b, o, none⟩) h⟩
theorem kcell {W w1 : World} {R : Nat} (hb : Kb [R] W w1) : (∀ b o, b < W.heap.size -> b ≠ R -> w1.cell? ⟨b, o, none⟩ = W.cell? ⟨b, o, none⟩) /\ (∀ b o, b < W.heap.size -> b ≠ R -> w1.frozen? ⟨b, o, none⟩ = W.frozen? ⟨b, o, none⟩) :=
  ⟨fun b _ h hn => hb.cell (p := ⟨b, _, none⟩) h (by simpa using hn), fun b _ h hn => World.frozen?_of_block (w := W) (hb.block b h (by simpa using hn))⟩
def tkV (t : T) : Value := .agg #[.int .i64 (t.kind : Int), .string ⟨t.text.toArray⟩, .int .i64 (t.num : Int), .int .i64 (t.off : Int), .int .i64 (t.line : Int), .int .i64 (t.col : Int)]
def erV (c : Nat) (t : T) : Value := .iface 70 (.agg #[.int .i64 (c : Int), .int .i64 (t.off : Int), .int .i64 (t.line : Int), .int .i64 (t.col : Int)])
theorem ba_toList (l : List UInt8) : (⟨l.toArray⟩ : ByteArray).toList = l := by
  rw [ByteArray.toList_eq]
theorem cReads (t : T) (k : Nat) (x : Nm) (w : World) : Calls Tryz.prog 86 #[tkV t, .int .i64 (k : Int), .string ⟨x.toArray⟩] w fun e w' => e = .returned (.bool (isT k x t)) /\ Below w.heap.size w w' := by
  obtain ⟨kind, text, num, off, line, col⟩ := t
  unfold tkV isT
  simp only
  have he : ((⟨text.toArray⟩ : ByteArray).toList == (⟨x.toArray⟩ : ByteArray).toList) = (text == x) := by rw [ba_toList, ba_toList]
  generalize (⟨text.toArray⟩ : ByteArray) = s1 at *
  generalize (⟨x.toArray⟩ : ByteArray) = s2 at *
  generalize (text == x) = b at *
  by_cases hk : kind = k
  . subst hk
    go_enter Tryz.func86, Tryz.ntmps86
    go_wp2_with fail
    go_ret
    exact ⟨by simp, bnew _ _⟩
  . have h1 : ((kind : Int) == (k : Int)) = false := by simp; omega
    have h2 : (kind == k) = false := by simp; omega
    go_enter Tryz.func86, Tryz.ntmps86
    go_wp2_with fail
    go_ret
    exact ⟨by rw [h2]; rfl, bnew _ _⟩
structure X where
  a0 : Value
  a1 : Value
  a2 : Value
  a3 : Value
  a4 : Value
  a5 : Value
  a6 : Value
  bt : Nat
def rbO (x : X) (v o : Value) : Obj := .cells #[x.a0, x.a1, x.a2, x.a3, x.a4, x.a5, x.a6, v, o] 68
def Tks (w : World) (bt : Nat) (v : Value) (ts : List T) : Prop := ∃ off c cs fr, v = .slice (some ⟨bt, off, none⟩) ts.length c /\ ts.length <= c /\ w.heap[bt]? = some (.cells cs 100 fr) /\ ∀ j u, (tvs ts)[j]? = some u -> cs[off + j]? = some u
structure Fine (ts : List T) : Prop where
  ends : Ends ts
  len : ts.length <= 4398046511104
  txt : ∀ t ∈ ts, t.text.length <= 4398046511104
theorem tl_mem : ∀ {ts : List T} {t : T}, t ∈ tl ts -> t ∈ ts
  | [], _, h => h
  | a :: r, t, h => by
    rw [tl_cons] at h
    by_cases hk : a.kind = 0
    . rw [if_pos hk] at h; exact h
    . rw [if_neg hk] at h; exact List.mem_cons_of_mem _ h
theorem Fine.tl {ts : List T} (h : Fine ts) : Fine (tl ts) := ⟨h.ends.tl, Nat.le_trans (tl_length _) h.len, fun t ht => h.txt t (tl_mem ht)⟩
theorem Fine.hd : ∀ {ts : List T}, Fine ts -> (hd ts).text.length <= 4398046511104
  | [], h => h.ends.elim
  | t :: _, h => h.txt t (by simp)
def Rt (w : World) (R : Nat) (x : X) (o : Value) (ts : List T) : Prop := (∃ v, w.heap[R]? = some (rbO x v o) /\ Tks w x.bt v ts) /\ Fine ts
theorem Tks.of_block {w w' : World} {bt : Nat} {v : Value} {ts : List T} (h : Tks w bt v ts) (hk : w'.heap[bt]? = w.heap[bt]?) : Tks w' bt v ts := by
  obtain ⟨off, c, cs, fr, h1, h2, h3, h4⟩ := h
  exact ⟨off, c, cs, fr, h1, h2, hk.trans h3, h4⟩
theorem Tks.lt {w : World} {bt : Nat} {v : Value} {ts : List T} (h : Tks w bt v ts) : bt < w.heap.size := by
  obtain ⟨off, c, cs, fr, h1, h2, h3, h4⟩ := h
  exact (Array.getElem?_eq_some_iff.1 h3).1
theorem Tks.below {w w' : World} {bt : Nat} {v : Value} {ts : List T} (h : Tks w bt v ts) (hb : Below w.heap.size w w') : Tks w' bt v ts :=
  h.of_block (hb.block _ h.lt)
theorem Rt.lt {w : World} {R : Nat} {x : X} {o : Value} {ts : List T} (h : Rt w R x o ts) : R < w.heap.size := by
  obtain ⟨⟨v, h, _⟩, _⟩ := h
  exact (Array.getElem?_eq_some_iff.1 h).1
theorem Rt.bt {w : World} {R : Nat} {x : X} {o : Value} {ts : List T} (h : Rt w R x o ts) : x.bt < w.heap.size := by
  obtain ⟨⟨v, h, k⟩, _⟩ := h
  exact k.lt
theorem Rt.fine {w : World} {R : Nat} {x : X} {o : Value} {ts : List T} (h : Rt w R x o ts) : Fine ts := h.2
theorem Rt.below {w w' : World} {R : Nat} {x : X} {o : Value} {ts : List T} (h : Rt w R x o ts) (hb : Below w.heap.size w w') : Rt w' R x o ts := by
  have hl := h.lt
  obtain ⟨⟨v, h, k⟩, r⟩ := h
  exact ⟨⟨v, (hb.block _ hl).trans h, k.below hb⟩, r⟩
theorem Rt.kept {w w' : World} {R : Nat} {x : X} {o : Value} {ts : List T} (h : Rt w R x o ts) (h1 : w'.heap[R]? = w.heap[R]?) (h2 : w'.heap[x.bt]? = w.heap[x.bt]?) : Rt w' R x o ts := by
  obtain ⟨⟨v, h, k⟩, r⟩ := h
  exact ⟨⟨v, h1.trans h, k.of_block h2⟩, r⟩
theorem Rt.row {w : World} {R : Nat} {x : X} {o : Value} {ts : List T} (h : Rt w R x o ts) (g : Nat) (cs : Array Value) (h1 : R ≠ g) (h2 : x.bt ≠ g) : Rt (w.setRow g cs) R x o ts :=
  h.kept (setRow_other _ _ _ _ h1) (setRow_other _ _ _ _ h2)
theorem Kb.setRow {M : List Nat} {a w : World} (h : Kb M a w) (g : Nat) (cs : Array Value) (hp : g ∈ M ∨ a.heap.size <= g) : Kb M a (w.setRow g cs) :=
  ⟨h.os, h.tape, h.output, by rw [show (w.setRow g cs).heap.size = w.heap.size by simp [World.setRow]]; exact h.size, fun k hk hn => (setRow_other _ _ _ _ (fun e => by
    rcases hp with hp | hp
    . exact hn (e ▸ hp)
    . omega)).trans (h.block k hk hn)⟩
theorem infoTs : (Tryz.prog.info? 100).map (·.size) = some 6 := by kernel_rfl
theorem tvs_cons (t : T) (r : List T) : tvs (t :: r) = tv t ++ tvs r := by simp [tvs]
theorem cTake (R : Nat) (x : X) (o : Value) (ts : List T) (w : World) (hR : Rt w R x o ts) :
    Calls Tryz.prog 85 #[.pointer (some ⟨R, 0, none⟩)] w fun e w' => e = .returned (tkV (hd ts)) /\ Rt w' R x o (tl ts) /\ Kb [R] w w' := by
  have hlt := hR.lt
  obtain ⟨⟨v, hb, off, c, cs, fr, rfl, hc, ht, hcs⟩, hF⟩ := hR
  have Hl := hide hF.tl
  have he := hF.ends
  have hl := hF.len
  clear hF
  cases ts with
  | nil => exact he.elim
  | cons t r =>
  obtain ⟨a0, a1, a2, a3, a4, a5, a6, bt⟩ := x
  unfold rbO at hb
  simp only at hb ht
  have c7 : w.cell? ⟨R, 7, none⟩ = some (.slice (some ⟨bt, off, none⟩) (t :: r).length c) := cell_of_row w R 7 _ _ _ hb
  have f7 : w.frozen? ⟨R, 7, none⟩ = false := by simp [World.frozen?, hb]
  have hbt : bt < w.heap.size := (Array.getElem?_eq_some_iff.1 ht).1
  have hld : ∀ j u, (tv t)[j]? = some u -> w.cell? ⟨bt, off + j, none⟩ = some u := by
    intro j u hu
    refine (cell_of_row w bt (off + j) _ _ _ ht).trans (hcs j u ?_)
    rw [tvs_cons, List.getElem?_append_left (List.getElem?_eq_some_iff.1 hu).1]
    exact hu
  obtain ⟨kind, text, num, o', line, col⟩ := t
  have d0 : w.cell? ⟨bt, off, none⟩ = some (.int .i64 (kind : Int)) := hld 0 _ rfl
  have d1 : w.cell? ⟨bt, off + 1, none⟩ = some (.string ⟨text.toArray⟩) := hld 1 _ rfl
  have d2 : w.cell? ⟨bt, off + 2, none⟩ = some (.int .i64 (num : Int)) := hld 2 _ rfl
  have d3 : w.cell? ⟨bt, off + 3, none⟩ = some (.int .i64 (o' : Int)) := hld 3 _ rfl
  have d4 : w.cell? ⟨bt, off + 4, none⟩ = some (.int .i64 (line : Int)) := hld 4 _ rfl
  have d5 : w.cell? ⟨bt, off + 5, none⟩ = some (.int .i64 (col : Int)) := hld 5 _ rfl
  have Hcs := hide hcs
  have Ht := hide ht
  have Hb := hide hb
  clear hld hcs ht hb
  generalize hs : (⟨text.toArray⟩ : ByteArray) = s at *
  have Hs := hide hs
  clear hs
  by_cases hk : kind = 0
  . subst hk
    go_enter Tryz.func85, Tryz.ntmps85
    go_wp2_with fail
    refine bodyPost_ret (v := .agg #[.int .i64 0, .string s, .int .i64 (num : Int), .int .i64 (o' : Int), .int .i64 (line : Int), .int .i64 (col : Int)]) (by simp [results, Tryz.results85, go_sem]) rfl ⟨?_, ?_, ?_⟩
    . rw [← Hs.out]; rfl
    . have Hl' := Hl.out
      rw [tl_cons, if_pos rfl] at Hl' ⊢
      exact Rt.below ⟨⟨_, Hb.out, off, c, cs, fr, rfl, hc, Ht.out, Hcs.out⟩, Hl'⟩ ((bnew _ _).trans ((bnew _ _).mono (by simp)))
    . exact ((Kb.refl _ _).alloc _).alloc _
  . have h1 : ((kind : Int) == 0) = false := by simp; omega
    have hr : r ≠ [] := by
      rcases he with ⟨h, _⟩ | ⟨_, h⟩
      . exact absurd h hk
      . exact h.ne
    have hc1 : ¬ c = 1 := by
      have : 0 < r.length := List.length_pos_iff.2 hr
      simp at hc
      omega
    go_enter Tryz.func85, Tryz.ntmps85
    go_wp2_with fail
    refine bodyPost_ret (v := .agg #[.int .i64 (kind : Int), .string s, .int .i64 (num : Int), .int .i64 (o' : Int), .int .i64 (line : Int), .int .i64 (col : Int)]) (by simp [results, Tryz.results85, go_sem]) rfl ⟨?_, ?_, ?_⟩
    . rw [← Hs.out]; rfl
    . have Hl' := Hl.out
      rw [tl_cons, if_neg (by simpa using hk)] at Hl' ⊢
      refine Rt.below (w := w.setCell ⟨R, 7, none⟩ (.slice (some ⟨bt, off + 6, none⟩) r.length (c - 1))) ?_ ((bnew _ _).trans ((bnew _ _).mono (by simp)))
      refine ⟨⟨_, ?_, off + 6, c - 1, cs, fr, rfl, by simp at hc; omega, ?_, ?_⟩, Hl'⟩
      . rw [setCell_eq_setRow w R 7 _ _ _ _ Hb.out]
        exact setRow_heap _ _ _ _ _ _ Hb.out
      . refine (Below.heap_setCell _ _ _ _ ?_).trans Ht.out
        intro e
        have e' : bt = R := e
        have := Ht.out
        rw [e', Hb.out] at this
        simp at this
      . intro j u hu
        rw [Nat.add_assoc]
        refine Hcs.out (6 + j) u ?_
        rw [tvs_cons, List.getElem?_append_right (by simp [tv])]
        rw [show 6 + j - (tv _).length = j by simp [tv]]
        exact hu
    . exact (((Kb.refl _ _).setCell (.inl (by simp)) _).alloc _).alloc _
theorem cRefuse (c : Nat) (t : T) (w : World) : Calls Tryz.prog 87 #[.int .i64 (c : Int), tkV t] w fun e w' => e = .returned (erV c t) /\ Below w.heap.size w w' := by
  obtain ⟨kind, text, num, off, line, col⟩ := t
  unfold tkV erV
  simp only
  go_enter Tryz.func87, Tryz.ntmps87
  go_wp2_with fail
  go_ret
  exact ⟨rfl, bnew _ _⟩
theorem cStands (R : Nat) (x : X) (o : Value) (ts : List T) (m : Nm) (w : World) (hR : Rt w R x o ts) :
    Calls Tryz.prog 109 #[.pointer (some ⟨R, 0, none⟩), .string ⟨m.toArray⟩] w fun e w' => e = .returned (.bool (isT 5 m (hd ts))) /\ Below w.heap.size w w' := by
  have hlt := hR.lt
  obtain ⟨⟨v, hb, off, c, cs, fr, rfl, hc, ht, hcs⟩, hF⟩ := hR
  have he := hF.ends
  have hl := hF.len
  clear hF
  cases ts with
  | nil => exact he.elim
  | cons t r =>
  have cR := fun w => cReads t 5 m w
  obtain ⟨a0, a1, a2, a3, a4, a5, a6, bt⟩ := x
  unfold rbO at hb
  simp only at hb ht
  have c7 : w.cell? ⟨R, 7, none⟩ = some (.slice (some ⟨bt, off, none⟩) (t :: r).length c) := cell_of_row w R 7 _ _ _ hb
  have hbt : bt < w.heap.size := (Array.getElem?_eq_some_iff.1 ht).1
  have hld : ∀ j u, (tv t)[j]? = some u -> w.cell? ⟨bt, off + j, none⟩ = some u := by
    intro j u hu
    refine (cell_of_row w bt (off + j) _ _ _ ht).trans (hcs j u ?_)
    rw [tvs_cons, List.getElem?_append_left (List.getElem?_eq_some_iff.1 hu).1]
    exact hu
  show Calls _ _ _ _ fun e w' => e = .returned (.bool (isT 5 m t)) /\ Below w.heap.size w w'
  generalize isT 5 m t = b at *
  obtain ⟨kind, text, num, o', line, col⟩ := t
  unfold tkV at cR
  simp only at cR
  have d0 : w.cell? ⟨bt, off, none⟩ = some (.int .i64 (kind : Int)) := hld 0 _ rfl
  have d1 : w.cell? ⟨bt, off + 1, none⟩ = some (.string ⟨text.toArray⟩) := hld 1 _ rfl
  have d2 : w.cell? ⟨bt, off + 2, none⟩ = some (.int .i64 (num : Int)) := hld 2 _ rfl
  have d3 : w.cell? ⟨bt, off + 3, none⟩ = some (.int .i64 (o' : Int)) := hld 3 _ rfl
  have d4 : w.cell? ⟨bt, off + 4, none⟩ = some (.int .i64 (line : Int)) := hld 4 _ rfl
  have d5 : w.cell? ⟨bt, off + 5, none⟩ = some (.int .i64 (col : Int)) := hld 5 _ rfl
  clear hld hcs ht hb
  generalize (⟨text.toArray⟩ : ByteArray) = s at *
  go_enter Tryz.func109, Tryz.ntmps109
  go_wp2_with (go_at_call 86; refine (cR _).mono ?_; rintro e w1 ⟨rfl, hb1⟩)
  go_ret
  exact ⟨rfl, hb1⟩
theorem erG (c : Nat) (t : T) (a b : Operand) (w : World) : (eqGuard .neq 73 a b (erV c t) .nilIface).run Tryz.prog w = .ok () w := by unfold erV; rfl
theorem erN (c : Nat) (t : T) (w : World) : (binOp .neq 73 (erV c t) .nilIface).run Tryz.prog w = .ok (.bool true) w := by unfold erV; kernel_rfl
def PT {α : Type} (R : Nat) (x : X) (o : Value) (w : World) (gd : α -> Value) (bd : Value -> Value) (P : Res α) (e : Ending) (w' : World) : Prop := match P with
  | .ok a ts' => e = .returned (gd a) /\ Rt w' R x o ts' /\ Kb [R] w w'
  | .no c t => e = .returned (bd (erV c t)) /\ (∃ ts', Rt w' R x o ts') /\ Kb [R] w w'
theorem cExpect (R : Nat) (x : X) (o : Value) (ts : List T) (k : Nat) (m : Nm) (w : World) (hR : Rt w R x o ts) :
    Calls Tryz.prog 57 #[.pointer (some ⟨R, 0, none⟩), .int .i64 (k : Int), .string ⟨m.toArray⟩] w (PT R x o w (fun _ => .nilIface) id (pExp k m ts)) := by
  have c1 := cTake R x o ts w hR
  have c2 := fun w => cReads (hd ts) k m w
  have c3 := fun w => cRefuse 81 (hd ts) w
  unfold pExp
  cases hb : isT k m (hd ts) with
  | true =>
    rw [hb] at c2
    simp only [if_true]
    generalize tl ts = ts' at *
    generalize hd ts = t at *
    clear hb c3
    obtain ⟨kind, text, num, o', line, col⟩ := t
    unfold tkV at c1 c2
    simp only at c1 c2
    generalize (⟨text.toArray⟩ : ByteArray) = s at *
    go_enter Tryz.func57, Tryz.ntmps57
    go_wp2_with (first
      | (go_at_call 85; refine c1.mono ?_; rintro e w1 ⟨rfl, hr1, hk1⟩)
      | (go_at_call 86; refine (c2 _).mono ?_; rintro e w2 ⟨rfl, hb2⟩))
    go_ret
    exact ⟨rfl, hr1.below ((bnew _ _).trans (hb2.mono (by simp))), (hk1.alloc _).then_below hb2⟩
  | false =>
    rw [hb] at c2
    simp only [Bool.false_eq_true, if_false]
    generalize tl ts = ts' at *
    generalize hd ts = t at *
    clear hb
    obtain ⟨kind, text, num, o', line, col⟩ := t
    unfold tkV at c1 c2 c3
    simp only at c1 c2 c3
    generalize (⟨text.toArray⟩ : ByteArray) = s at *
    go_enter Tryz.func57, Tryz.ntmps57
    go_wp2_with (first
      | (go_at_call 85; refine c1.mono ?_; rintro e w1 ⟨rfl, hr1, hk1⟩)
      | (go_at_call 86; refine (c2 _).mono ?_; rintro e w2 ⟨rfl, hb2⟩; obtain ⟨hc2, hf2⟩ := bcell hb2)
      | (go_at_call 87; refine (c3 _).mono ?_; rintro e w3 ⟨rfl, hb3⟩))
    go_ret
    exact ⟨rfl, ⟨_, hr1.below (((bnew _ _).trans (hb2.mono (by simp))).trans (hb3.mono (by have := hb2.size; simp at this; omega)))⟩, ((hk1.alloc _).then_below hb2).then_below hb3⟩
def Wds (w : World) (b : Nat) (ms : List Nm) : Prop := ∀ j m, ms[j]? = some m -> w.cell? ⟨b, j, none⟩ = some (.string ⟨m.toArray⟩)
theorem Wds.kept {w w' : World} {b : Nat} {ms : List Nm} {M : List Nat} (h : Wds w b ms) (hk : Kb M w w') (hm : b ∉ M) : Wds w' b ms :=
  fun j m hj => (hk.cell (p := ⟨b, j, none⟩) (World.block_lt_of_cell? w _ (h j m hj)) hm).trans (h j m hj)
theorem cMarks (R : Nat) (x : X) (o : Value) (ts : List T) (ms : List Nm) (b c : Nat) (hb : b ≠ R) (hm : ms.length <= 16) (w : World) (hR : Rt w R x o ts) (hW : Wds w b ms) :
    Calls Tryz.prog 58 #[.pointer (some ⟨R, 0, none⟩), .slice (some ⟨b, 0, none⟩) ms.length c] w (PT R x o w (fun _ => .nilIface) id (pMks ms ts)) := by
  obtain ⟨n, hn⟩ : ∃ n, ms.length = n := ⟨_, rfl⟩
  have HN := hide hn
  have HS : Hid (pMks ms ts = pMks (ms.drop 0) ts) := hide rfl
  generalize pMks ms ts = P at *
  rw [hn] at hm ⊢
  clear hn
  go_enter Tryz.func58, Tryz.ntmps58
  go_wp2_with fail
  go_loopw [10] (fun v wr => ∃ (i : Nat) (ts' : List T), v = .int .i64 (i : Int) /\ i <= n /\ Hid (P = pMks (ms.drop i) ts') /\ Rt wr R x o ts' /\ Kb [R] w wr) (fun v _ => n - (Go.RowKit.intOf v).toNat)
  case atStart => exact ⟨0, ts, rfl, Nat.zero_le _, HS, hR, Kb.refl _ _⟩
  case round =>
    clear HS hR
    obtain ⟨i, ts', rfl, hi, HS, hR, hk⟩ := hrel
    by_cases h : i < n
    . have hdd : decide ((i : Int) < (n : Int)) = true := decide_eq_true (by omega)
      have hlt : i < ms.length := by rw [HN.out]; exact h
      obtain ⟨m, hm⟩ : ∃ m, ms[i]? = some m := ⟨_, List.getElem?_eq_getElem hlt⟩
      have hdr : ms.drop i = m :: ms.drop (i + 1) := by
        rw [List.drop_eq_getElem_cons hlt]
        rw [List.getElem?_eq_getElem hlt] at hm
        rw [Option.some.inj hm]
      have hcell := (hW.kept hk (by simpa using hb)) i m hm
      have c1 := cExpect R x o ts' 5 m wr hR
      have hP := HS.out
      rw [hdr, pMks] at hP
      have HP := hide hP
      unfold pExp at c1
      clear hm hP
      cases hb : isT 5 m (hd ts') with
      | true =>
        rw [hb] at c1 HP
        simp only [if_true] at c1 HP
        go_wp2_with (go_at_call 57; refine c1.mono ?_; rintro e w1 ⟨rfl, hr1, hk1⟩)
        go_roundw
        case rel => exact ⟨i + 1, tl ts', by go_num, by omega, HP, hr1, hk.trans hk1⟩
        case measure => simp [Go.RowKit.intOf]; omega
      | false =>
        rw [hb] at c1 HP
        simp only [Bool.false_eq_true, if_false] at c1 HP
        have eG := erG
        have eN := erN
        go_wp2_with (go_at_call 57; refine c1.mono ?_; rintro e w1 ⟨rfl, hn1, hk1⟩)
        go_ret
        rw [HP.out]
        exact ⟨rfl, hn1, hk.trans hk1⟩
    . obtain rfl : n = i := by omega
      have hP := HS.out
      rw [List.drop_eq_nil_of_le (by rw [HN.out]; exact Nat.le_refl _), pMks] at hP
      have HP := hide hP
      clear HS hP
      go_wp2_with fail
      go_ret
      rw [HP.out]
      exact ⟨rfl, hR, hk⟩
theorem cReserved (x : Nm) (w : World) : Calls Tryz.prog 155 #[.string ⟨x.toArray⟩] w fun e w' => e = .returned (.bool (rsv x)) /\ w' = w := by
  have HR : Hid (rsv x = ((x == [79, 80, 69, 78, 81, 65, 83, 77]) || (x == [105, 110, 99, 108, 117, 100, 101]) || (x == [113, 114, 101, 103]) || (x == [99, 114, 101, 103]) || (x == [103, 97, 116, 101]) || (x == [105, 102]) || (x == [109, 101, 97, 115, 117, 114, 101]) || (x == [114, 101, 115, 101, 116]) || (x == [98, 97, 114, 114, 105, 101, 114]) || (x == [111, 112, 97, 113, 117, 101]))) := hide (by simp only [rsv, rsvL, List.contains_cons, List.contains_nil, Bool.or_false, Bool.or_assoc])
  have h0 : ((⟨x.toArray⟩ : ByteArray).toList == [79, 80, 69, 78, 81, 65, 83, 77]) = (x == [79, 80, 69, 78, 81, 65, 83, 77]) := by rw [ba_toList]
  have h1 : ((⟨x.toArray⟩ : ByteArray).toList == [105, 110, 99, 108, 117, 100, 101]) = (x == [105, 110, 99, 108, 117, 100, 101]) := by rw [ba_toList]
  have h2 : ((⟨x.toArray⟩ : ByteArray).toList == [113, 114, 101, 103]) = (x == [113, 114, 101, 103]) := by rw [ba_toList]
  have h3 : ((⟨x.toArray⟩ : ByteArray).toList == [99, 114, 101, 103]) = (x == [99, 114, 101, 103]) := by rw [ba_toList]
  have h4 : ((⟨x.toArray⟩ : ByteArray).toList == [103, 97, 116, 101]) = (x == [103, 97, 116, 101]) := by rw [ba_toList]
  have h5 : ((⟨x.toArray⟩ : ByteArray).toList == [105, 102]) = (x == [105, 102]) := by rw [ba_toList]
  have h6 : ((⟨x.toArray⟩ : ByteArray).toList == [109, 101, 97, 115, 117, 114, 101]) = (x == [109, 101, 97, 115, 117, 114, 101]) := by rw [ba_toList]
  have h7 : ((⟨x.toArray⟩ : ByteArray).toList == [114, 101, 115, 101, 116]) = (x == [114, 101, 115, 101, 116]) := by rw [ba_toList]
  have h8 : ((⟨x.toArray⟩ : ByteArray).toList == [98, 97, 114, 114, 105, 101, 114]) = (x == [98, 97, 114, 114, 105, 101, 114]) := by rw [ba_toList]
  have h9 : ((⟨x.toArray⟩ : ByteArray).toList == [111, 112, 97, 113, 117, 101]) = (x == [111, 112, 97, 113, 117, 101]) := by rw [ba_toList]
  generalize (x == [79, 80, 69, 78, 81, 65, 83, 77]) = b0 at *
  generalize (x == [105, 110, 99, 108, 117, 100, 101]) = b1 at *
  generalize (x == [113, 114, 101, 103]) = b2 at *
  generalize (x == [99, 114, 101, 103]) = b3 at *
  generalize (x == [103, 97, 116, 101]) = b4 at *
  generalize (x == [105, 102]) = b5 at *
  generalize (x == [109, 101, 97, 115, 117, 114, 101]) = b6 at *
  generalize (x == [114, 101, 115, 101, 116]) = b7 at *
  generalize (x == [98, 97, 114, 114, 105, 101, 114]) = b8 at *
  generalize (x == [111, 112, 97, 113, 117, 101]) = b9 at *
  generalize rsv x = B at *
  generalize (⟨x.toArray⟩ : ByteArray) = s at *
  cases b0 with
  | true =>
    go_enter Tryz.func155, Tryz.ntmps155
    go_wp2_with fail
    go_ret
    exact ⟨by rw [HR.out]; simp, rfl⟩
  | false =>
    cases b1 with
    | true =>
      go_enter Tryz.func155, Tryz.ntmps155
      go_wp2_with fail
      go_ret
      exact ⟨by rw [HR.out]; simp, rfl⟩
    | false =>
      cases b2 with
      | true =>
        go_enter Tryz.func155, Tryz.ntmps155
        go_wp2_with fail
        go_ret
        exact ⟨by rw [HR.out]; simp, rfl⟩
      | false =>
        cases b3 with
        | true =>
          go_enter Tryz.func155, Tryz.ntmps155
          go_wp2_with fail
          go_ret
          exact ⟨by rw [HR.out]; simp, rfl⟩
        | false =>
          cases b4 with
          | true =>
            go_enter Tryz.func155, Tryz.ntmps155
            go_wp2_with fail
            go_ret
            exact ⟨by rw [HR.out]; simp, rfl⟩
          | false =>
            cases b5 with
            | true =>
              go_enter Tryz.func155, Tryz.ntmps155
              go_wp2_with fail
              go_ret
              exact ⟨by rw [HR.out]; simp, rfl⟩
            | false =>
              cases b6 with
              | true =>
                go_enter Tryz.func155, Tryz.ntmps155
                go_wp2_with fail
                go_ret
                exact ⟨by rw [HR.out]; simp, rfl⟩
              | false =>
                cases b7 with
                | true =>
                  go_enter Tryz.func155, Tryz.ntmps155
                  go_wp2_with fail
                  go_ret
                  exact ⟨by rw [HR.out]; simp, rfl⟩
                | false =>
                  cases b8 with
                  | true =>
                    go_enter Tryz.func155, Tryz.ntmps155
                    go_wp2_with fail
                    go_ret
                    exact ⟨by rw [HR.out]; simp, rfl⟩
                  | false =>
                    cases b9 with
                    | true =>
                      go_enter Tryz.func155, Tryz.ntmps155
                      go_wp2_with fail
                      go_ret
                      exact ⟨by rw [HR.out]; simp, rfl⟩
                    | false =>
                      go_enter Tryz.func155, Tryz.ntmps155
                      go_wp2_with fail
                      go_ret
                      exact ⟨by rw [HR.out]; simp, rfl⟩
theorem cIsName (t : T) (w : World) : Calls Tryz.prog 139 #[tkV t] w fun e w' => e = .returned (.bool (isN t)) /\ Below w.heap.size w w' := by
  have c1 := fun w => cReserved t.text w
  obtain ⟨kind, text, num, off, line, col⟩ := t
  unfold tkV isN
  simp only at c1 ⊢
  generalize rsv text = b at *
  generalize (⟨text.toArray⟩ : ByteArray) = s at *
  by_cases hk : kind = 1
  . subst hk
    go_enter Tryz.func139, Tryz.ntmps139
    go_wp2_with (go_at_call 155; refine (c1 _).mono ?_; rintro e w1 ⟨rfl, rfl⟩)
    go_ret
    exact ⟨by simp, bnew _ _⟩
  . have h1 : ((kind : Int) == 1) = false := by simp; omega
    have h2 : (kind == 1) = false := by simp; omega
    go_enter Tryz.func139, Tryz.ntmps139
    go_wp2_with fail
    go_ret
    exact ⟨by rw [h2]; rfl, bnew _ _⟩
theorem allT (k n o l c : Int) (s : ByteArray) : (#[Value.int .i64 k, .string s, .int .i64 n, .int .i64 o, .int .i64 l, .int .i64 c]).all (·.oneCell') = true := by simp [Value.oneCell']
theorem cName (R : Nat) (x : X) (o : Value) (ts : List T) (w : World) (hR : Rt w R x o ts) :
    Calls Tryz.prog 128 #[.pointer (some ⟨R, 0, none⟩)] w (PT R x o w (fun t => .tuple #[tkV t, .nilIface]) (fun e => .tuple #[tkV t0, e]) (pNam ts)) := by
  have c1 := fun o' => cTake R x o ts (w.alloc o') (hR.below (bnew _ _))
  have c2 := fun w => cIsName (hd ts) w
  have c3 := fun w => cRefuse 81 (hd ts) w
  have hlt := hR.lt
  have hbt := hR.bt
  have hA : (w.alloc (.cells #[.int .i64 0, .string ⟨#[]⟩, .int .i64 0, .int .i64 0, .int .i64 0, .int .i64 0] 100)).heap[w.heap.size]? = some (.cells #[.int .i64 0, .string ⟨#[]⟩, .int .i64 0, .int .i64 0, .int .i64 0, .int .i64 0] 100 (0, 0)) := heap_alloc_new _ _
  unfold pNam
  cases hb : isN (hd ts) with
  | true =>
    rw [hb] at c2
    simp only [if_true]
    generalize tl ts = ts' at *
    generalize hd ts = t at *
    clear hb c3
    obtain ⟨kind, text, num, o', line, col⟩ := t
    unfold tkV at c1 c2
    simp only at c1 c2
    generalize hs : (⟨text.toArray⟩ : ByteArray) = s at *
    have Hs := hide hs
    clear hs
    go_enter Tryz.func128, Tryz.ntmps128
    go_wp2_with (first
      | (go_at_call 85; refine (c1 _).mono ?_; rintro e w1 ⟨rfl, hr1, hk1⟩)
      | (go_at_call 139; refine (c2 _).mono ?_; rintro e w2 ⟨rfl, hb2⟩; obtain ⟨hc2, hf2⟩ := bcell hb2; have hz1 := hk1.size; have hA2 := (hb2.block _ (by simp at hz1 ⊢; omega)).trans ((Below.heap_alloc _ _ _ (by simp at hz1; omega)).trans ((hk1.block w.heap.size (by simp) (by simp; omega)).trans hA)))
      | refine wpList_store_row rfl _ _ _ rfl w.heap.size _ rfl rfl _ _ hA2 (by exact infoTs) (by rfl) (allT _ _ _ _ _ _) ?_)
    refine bodyPost_ret (results_ct rfl _ _ w.heap.size _ _ _ _ rfl (setRow_heap _ _ _ _ _ _ hA2) Tryz.underlying100 rfl (by exact infoTs)) rfl ?_
    refine ⟨by rw [← Hs.out]; rfl, ?_, ?_⟩
    . exact (hr1.below ((bnew _ _).trans (hb2.mono (by simp)))).row _ _ (by omega) (by omega)
    . exact Kb.setRow ((((Kb.refl _ _).alloc _).trans hk1 |>.alloc _).then_below hb2) _ _ (.inr (Nat.le_refl _))
  | false =>
    rw [hb] at c2
    simp only [Bool.false_eq_true, if_false]
    generalize tl ts = ts' at *
    generalize hd ts = t at *
    clear hb
    obtain ⟨kind, text, num, o', line, col⟩ := t
    unfold tkV at c1 c2 c3
    simp only at c1 c2 c3
    generalize hs : (⟨text.toArray⟩ : ByteArray) = s at *
    have Hs := hide hs
    clear hs
    go_enter Tryz.func128, Tryz.ntmps128
    go_wp2_with (first
      | (go_at_call 85; refine (c1 _).mono ?_; rintro e w1 ⟨rfl, hr1, hk1⟩)
      | (go_at_call 139; refine (c2 _).mono ?_; rintro e w2 ⟨rfl, hb2⟩; obtain ⟨hc2, hf2⟩ := bcell hb2)
      | (go_at_call 87; refine (c3 _).mono ?_; rintro e w3 ⟨rfl, hb3⟩; have hz1 := hk1.size; have hz2 := hb2.size; have hA2 := (hb3.block _ (by simp at hz1 hz2 ⊢; omega)).trans ((hb2.block _ (by simp at hz1 ⊢; omega)).trans ((Below.heap_alloc _ _ _ (by simp at hz1; omega)).trans ((hk1.block w.heap.size (by simp) (by simp; omega)).trans hA))))
      | refine wpList_store_row rfl _ _ _ rfl w.heap.size _ rfl rfl _ _ hA2 (by exact infoTs) (by rfl) (allT _ _ _ _ _ _) ?_)
    refine bodyPost_ret (results_ct rfl _ _ w.heap.size _ _ _ _ rfl (setRow_heap _ _ _ _ _ _ hA2) Tryz.underlying100 rfl (by exact infoTs)) rfl ?_
    exact ⟨rfl, ⟨_, (hr1.below (((bnew _ _).trans (hb2.mono (by simp))).trans (hb3.mono (by have := hb2.size; simp at this; omega)))).row _ _ (by omega) (by omega)⟩, Kb.setRow (((((Kb.refl _ _).alloc _).trans hk1 |>.alloc _).then_below hb2).then_below hb3) _ _ (.inr (Nat.le_refl _))⟩
end Go.Proofs.YtnghfdnlcnocjaaGreatDoor.Cir
