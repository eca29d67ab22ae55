/- The reader's tokens, one by one. -/
import Derived.Test.YtkbodljmkhnebaaGreatDoorTa
import Derived.Test.YtkbodljmkhnebaaGreatDoorTb
import Derived.Test.YtkbodljmkhnebaaGreatDoorKh
namespace Go.Proofs.YtkbodljmkhnebaaGreatDoor.Cir
open Go.RowKit Go.Shelf Go.Proofs.YtkbodljmkhnebaaGreatDoor.Oct Go.Proofs.YtkbodljmkhnebaaGreatDoor.Tok Go.Proofs.YtkbodljmkhnebaaGreatDoor.Gt

theorem bnew (w : World) (o : Obj) : Below w.heap.size w (w.alloc o) := (Below.refl _ _).alloc (Nat.le_refl _) _
theorem bcell {W w1 : World} (hb : Below W.heap.size W w1) : (∀ b o, b < W.heap.size → w1.cell? ⟨b, o, none⟩ = W.cell? ⟨b, o, none⟩) ∧ (∀ b o, b < W.heap.size → w1.frozen? ⟨b, o, none⟩ = W.frozen? ⟨b, o, none⟩) :=
  ⟨fun b o h => hb.cell (p := ⟨b, o, none⟩) h, fun b o h => hb.frozen (p := ⟨b, o, none⟩) h⟩
theorem kcell {W w1 : World} {R : Nat} (hb : Kb [R] W w1) : (∀ b o, b < W.heap.size → b ≠ R → w1.cell? ⟨b, o, none⟩ = W.cell? ⟨b, o, none⟩) ∧ (∀ b o, b < W.heap.size → b ≠ R → w1.frozen? ⟨b, o, none⟩ = W.frozen? ⟨b, o, none⟩) :=
  ⟨fun b _ h hn => hb.cell (p := ⟨b, _, none⟩) h (by simpa using hn), fun b _ h hn => World.frozen?_of_block (w := W) (hb.block b h (by simpa using hn))⟩
/-- A token as a value. -/
def tkV (t : T) : Value := .agg #[.int .i64 (t.kind : Int), .string ⟨t.text.toArray⟩, .int .i64 (t.num : Int), .int .i64 (t.off : Int), .int .i64 (t.line : Int), .int .i64 (t.col : Int)]
/-- A refusal. -/
def erV (c : Nat) (t : T) : Value := .iface 89 (.agg #[.int .i64 (c : Int), .int .i64 (t.off : Int), .int .i64 (t.line : Int), .int .i64 (t.col : Int)])
theorem ba_toList (l : List UInt8) : (⟨l.toArray⟩ : ByteArray).toList = l := by
  rw [ByteArray.toList_eq]
set_option maxHeartbeats 1000000 in
theorem cReads (t : T) (k : Nat) (x : Nm) (w : World) : Calls Tryz.prog 131 #[tkV t, .int .i64 (k : Int), .string ⟨x.toArray⟩] w fun e w' => e = .returned (.bool (isT k x t)) ∧ Below w.heap.size w w' := by
  obtain ⟨kind, text, num, off, line, col⟩ := t
  unfold tkV isT
  simp only
  have he : ((⟨text.toArray⟩ : ByteArray).toList == (⟨x.toArray⟩ : ByteArray).toList) = (text == x) := by rw [ba_toList, ba_toList]
  generalize (⟨text.toArray⟩ : ByteArray) = s1 at *
  generalize (⟨x.toArray⟩ : ByteArray) = s2 at *
  generalize (text == x) = b at *
  by_cases hk : kind = k
  · subst hk
    go_enter Tryz.func131, Tryz.ntmps131
    go_wp2_with fail
    go_ret
    exact ⟨by simp, bnew _ _⟩
  · have h1 : ((kind : Int) == (k : Int)) = false := by simp; omega
    have h2 : (kind == k) = false := by simp; omega
    go_enter Tryz.func131, Tryz.ntmps131
    go_wp2_with fail
    go_ret
    exact ⟨by rw [h2]; rfl, bnew _ _⟩
/-- A reader's other cells. -/
structure X where
  a0 : Value
  a1 : Value
  a2 : Value
  a3 : Value
  a4 : Value
  a5 : Value
  a6 : Value
  bt : Nat
def rbO (x : X) (v o : Value) : Obj := .cells #[x.a0, x.a1, x.a2, x.a3, x.a4, x.a5, x.a6, v, o] 87
/-- Tokens that lie in memory. -/
def Tks (w : World) (bt : Nat) (v : Value) (ts : List T) : Prop := ∃ off c cs fr, v = .slice (some ⟨bt, off, none⟩) ts.length c ∧ ts.length ≤ c ∧ w.heap[bt]? = some (.cells cs 62 fr) ∧ ∀ j u, (tvs ts)[j]? = some u → cs[off + j]? = some u
/-- Tokens that a reader may have. -/
structure Fine (ts : List T) : Prop where
  ends : Ends ts
  len : ts.length ≤ 4398046511104
  txt : ∀ t ∈ ts, t.text.length ≤ 4398046511104
theorem tl_mem : ∀ {ts : List T} {t : T}, t ∈ tl ts → t ∈ ts
  | [], _, h => h
  | a :: r, t, h => by
    rw [tl_cons] at h
    by_cases hk : a.kind = 0
    · rw [if_pos hk] at h; exact h
    · rw [if_neg hk] at h; exact List.mem_cons_of_mem _ h
theorem Fine.tl {ts : List T} (h : Fine ts) : Fine (tl ts) := ⟨h.ends.tl, Nat.le_trans (tl_length _) h.len, fun t ht => h.txt t (tl_mem ht)⟩
theorem Fine.hd : ∀ {ts : List T}, Fine ts → (hd ts).text.length ≤ 4398046511104
  | [], h => h.ends.elim
  | t :: _, h => h.txt t (by simp)
/-- A reader with its tokens. -/
def Rt (w : World) (R : Nat) (x : X) (o : Value) (ts : List T) : Prop := (∃ v, w.heap[R]? = some (rbO x v o) ∧ Tks w x.bt v ts) ∧ Fine ts
theorem Tks.of_block {w w' : World} {bt : Nat} {v : Value} {ts : List T} (h : Tks w bt v ts) (hk : w'.heap[bt]? = w.heap[bt]?) : Tks w' bt v ts := by
  obtain ⟨off, c, cs, fr, h1, h2, h3, h4⟩ := h
  exact ⟨off, c, cs, fr, h1, h2, hk.trans h3, h4⟩
theorem Tks.lt {w : World} {bt : Nat} {v : Value} {ts : List T} (h : Tks w bt v ts) : bt < w.heap.size := by
  obtain ⟨off, c, cs, fr, h1, h2, h3, h4⟩ := h
  exact (Array.getElem?_eq_some_iff.1 h3).1
theorem Tks.below {w w' : World} {bt : Nat} {v : Value} {ts : List T} (h : Tks w bt v ts) (hb : Below w.heap.size w w') : Tks w' bt v ts :=
  h.of_block (hb.block _ h.lt)
theorem Rt.lt {w : World} {R : Nat} {x : X} {o : Value} {ts : List T} (h : Rt w R x o ts) : R < w.heap.size := by
  obtain ⟨⟨v, h, _⟩, _⟩ := h
  exact (Array.getElem?_eq_some_iff.1 h).1
theorem Rt.bt {w : World} {R : Nat} {x : X} {o : Value} {ts : List T} (h : Rt w R x o ts) : x.bt < w.heap.size := by
  obtain ⟨⟨v, h, k⟩, _⟩ := h
  exact k.lt
theorem Rt.fine {w : World} {R : Nat} {x : X} {o : Value} {ts : List T} (h : Rt w R x o ts) : Fine ts := h.2
theorem Rt.below {w w' : World} {R : Nat} {x : X} {o : Value} {ts : List T} (h : Rt w R x o ts) (hb : Below w.heap.size w w') : Rt w' R x o ts := by
  have hl := h.lt
  obtain ⟨⟨v, h, k⟩, r⟩ := h
  exact ⟨⟨v, (hb.block _ hl).trans h, k.below hb⟩, r⟩
theorem Rt.kept {w w' : World} {R : Nat} {x : X} {o : Value} {ts : List T} (h : Rt w R x o ts) (h1 : w'.heap[R]? = w.heap[R]?) (h2 : w'.heap[x.bt]? = w.heap[x.bt]?) : Rt w' R x o ts := by
  obtain ⟨⟨v, h, k⟩, r⟩ := h
  exact ⟨⟨v, h1.trans h, k.of_block h2⟩, r⟩
theorem Rt.row {w : World} {R : Nat} {x : X} {o : Value} {ts : List T} (h : Rt w R x o ts) (g : Nat) (cs : Array Value) (h1 : R ≠ g) (h2 : x.bt ≠ g) : Rt (w.setRow g cs) R x o ts :=
  h.kept (setRow_other _ _ _ _ h1) (setRow_other _ _ _ _ h2)
theorem Kb.setRow {M : List Nat} {a w : World} (h : Kb M a w) (g : Nat) (cs : Array Value) (hp : g ∈ M ∨ a.heap.size ≤ g) : Kb M a (w.setRow g cs) :=
  ⟨h.os, h.tape, h.output, by rw [show (w.setRow g cs).heap.size = w.heap.size by simp [World.setRow]]; exact h.size, fun k hk hn => (setRow_other _ _ _ _ (fun e => by
    rcases hp with hp | hp
    · exact hn (e ▸ hp)
    · omega)).trans (h.block k hk hn)⟩
theorem infoTs : (Tryz.prog.info? 62).map (·.size) = some 6 := by kernel_rfl
theorem tvs_cons (t : T) (r : List T) : tvs (t :: r) = tv t ++ tvs r := by simp [tvs]
theorem set_6 (w : World) (g : Nat) (a b c d e f a' b' c' d' e' f' : Value) (t : TypeId) (fr : Nat × Nat) (h : w.heap[g]? = some (.cells #[a, b, c, d, e, f] t fr)) :
    (((((w.setCell ⟨g, 0, none⟩ a').setCell ⟨g, 1, none⟩ b').setCell ⟨g, 2, none⟩ c').setCell ⟨g, 3, none⟩ d').setCell ⟨g, 4, none⟩ e').setCell ⟨g, 5, none⟩ f' = w.setRow g #[a', b', c', d', e', f'] := by
  rw [setCell_eq_setRow w g 0 _ t fr _ h, setCell_eq_setRow _ g 1 _ t fr _ (setRow_heap w g _ _ t fr h), setRow_setRow,
    setCell_eq_setRow _ g 2 _ t fr _ (setRow_heap w g _ _ t fr h), setRow_setRow, setCell_eq_setRow _ g 3 _ t fr _ (setRow_heap w g _ _ t fr h), setRow_setRow,
    setCell_eq_setRow _ g 4 _ t fr _ (setRow_heap w g _ _ t fr h), setRow_setRow, setCell_eq_setRow _ g 5 _ t fr _ (setRow_heap w g _ _ t fr h), setRow_setRow]
  rfl
set_option maxHeartbeats 1000000 in
theorem cTake (R : Nat) (x : X) (o : Value) (ts : List T) (w : World) (hR : Rt w R x o ts) :
    Calls Tryz.prog 130 #[.pointer (some ⟨R, 0, none⟩)] w fun e w' => e = .returned (tkV (hd ts)) ∧ Rt w' R x o (tl ts) ∧ Kb [R] w w' := by
  have hlt := hR.lt
  obtain ⟨⟨v, hb, off, c, cs, fr, rfl, hc, ht, hcs⟩, hF⟩ := hR
  have Hl := hide hF.tl
  have he := hF.ends
  have hl := hF.len
  clear hF
  cases ts with
  | nil => exact he.elim
  | cons t r =>
  obtain ⟨a0, a1, a2, a3, a4, a5, a6, bt⟩ := x
  unfold rbO at hb
  simp only at hb ht
  have c7 : w.cell? ⟨R, 7, none⟩ = some (.slice (some ⟨bt, off, none⟩) (t :: r).length c) := cell_of_row w R 7 _ _ _ hb
  have f7 : w.frozen? ⟨R, 7, none⟩ = false := by simp [World.frozen?, hb]
  have hbt : bt < w.heap.size := (Array.getElem?_eq_some_iff.1 ht).1
  have hld : ∀ j u, (tv t)[j]? = some u → w.cell? ⟨bt, off + j, none⟩ = some u := by
    intro j u hu
    refine (cell_of_row w bt (off + j) _ _ _ ht).trans (hcs j u ?_)
    rw [tvs_cons, List.getElem?_append_left (List.getElem?_eq_some_iff.1 hu).1]
    exact hu
  obtain ⟨kind, text, num, o', line, col⟩ := t
  have d0 : w.cell? ⟨bt, off, none⟩ = some (.int .i64 (kind : Int)) := hld 0 _ rfl
  have d1 : w.cell? ⟨bt, off + 1, none⟩ = some (.string ⟨text.toArray⟩) := hld 1 _ rfl
  have d2 : w.cell? ⟨bt, off + 2, none⟩ = some (.int .i64 (num : Int)) := hld 2 _ rfl
  have d3 : w.cell? ⟨bt, off + 3, none⟩ = some (.int .i64 (o' : Int)) := hld 3 _ rfl
  have d4 : w.cell? ⟨bt, off + 4, none⟩ = some (.int .i64 (line : Int)) := hld 4 _ rfl
  have d5 : w.cell? ⟨bt, off + 5, none⟩ = some (.int .i64 (col : Int)) := hld 5 _ rfl
  have Hcs := hide hcs
  have Ht := hide ht
  have Hb := hide hb
  clear hld hcs ht hb
  generalize hs : (⟨text.toArray⟩ : ByteArray) = s at *
  have Hs := hide hs
  clear hs
  by_cases hk : kind = 0
  · subst hk
    go_enter Tryz.func130, Tryz.ntmps130
    go_wp2_with fail
    refine bodyPost_ret (v := .agg #[.int .i64 0, .string s, .int .i64 (num : Int), .int .i64 (o' : Int), .int .i64 (line : Int), .int .i64 (col : Int)]) (by simp [results, Tryz.results130, go_sem]) rfl ⟨?_, ?_, ?_⟩
    · rw [← Hs.out]; rfl
    · have Hl' := Hl.out
      rw [tl_cons, if_pos rfl] at Hl' ⊢
      exact Rt.below ⟨⟨_, Hb.out, off, c, cs, fr, rfl, hc, Ht.out, Hcs.out⟩, Hl'⟩ ((bnew _ _).trans ((bnew _ _).mono (by simp)))
    · exact ((Kb.refl _ _).alloc _).alloc _
  · have h1 : ((kind : Int) == 0) = false := by simp; omega
    have hr : r ≠ [] := by
      rcases he with ⟨h, _⟩ | ⟨_, h⟩
      · exact absurd h hk
      · exact h.ne
    have hc1 : ¬ c = 1 := by
      have : 0 < r.length := List.length_pos_iff.2 hr
      simp at hc
      omega
    go_enter Tryz.func130, Tryz.ntmps130
    go_wp2_with fail
    refine bodyPost_ret (v := .agg #[.int .i64 (kind : Int), .string s, .int .i64 (num : Int), .int .i64 (o' : Int), .int .i64 (line : Int), .int .i64 (col : Int)]) (by simp [results, Tryz.results130, go_sem]) rfl ⟨?_, ?_, ?_⟩
    · rw [← Hs.out]; rfl
    · have Hl' := Hl.out
      rw [tl_cons, if_neg (by simpa using hk)] at Hl' ⊢
      refine Rt.below (w := w.setCell ⟨R, 7, none⟩ (.slice (some ⟨bt, off + 6, none⟩) r.length (c - 1))) ?_ ((bnew _ _).trans ((bnew _ _).mono (by simp)))
      refine ⟨⟨_, ?_, off + 6, c - 1, cs, fr, rfl, by simp at hc; omega, ?_, ?_⟩, Hl'⟩
      · rw [setCell_eq_setRow w R 7 _ _ _ _ Hb.out]
        exact setRow_heap _ _ _ _ _ _ Hb.out
      · refine (Below.heap_setCell _ _ _ _ ?_).trans Ht.out
        intro e
        have e' : bt = R := e
        have := Ht.out
        rw [e', Hb.out] at this
        simp at this
      · intro j u hu
        rw [Nat.add_assoc]
        refine Hcs.out (6 + j) u ?_
        rw [tvs_cons, List.getElem?_append_right (by simp [tv])]
        rw [show 6 + j - (tv _).length = j by simp [tv]]
        exact hu
    · exact (((Kb.refl _ _).setCell (.inl (by simp)) _).alloc _).alloc _
end Go.Proofs.YtkbodljmkhnebaaGreatDoor.Cir
