/- Package token: what moves Scan's spot, as it is walked. -/
import Derived.Test.YtkbodljmkhnebaaGreatDoorKg
namespace Go.Proofs.YtkbodljmkhnebaaGreatDoor.Tok
open Go.RowKit Go.Shelf Go.Proofs.YtkbodljmkhnebaaGreatDoor.Oct

set_option maxHeartbeats 1000000 in
theorem nMove (l : List UInt8) (bs ba off line col n : Nat) (hl : l.length ≤ 140737488355328) (hoff : off + n ≤ l.length) (hfl : line ≤ 140737488355329) (hfc : col ≤ 140737488355329) (w : World)
    (hs : w.cell? ⟨bs, 0, none⟩ = some (str l)) (ha : w.heap[ba]? = some (.cells #[.int .i64 (off : Int), .int .i64 (line : Int), .int .i64 (col : Int)] 43 (0, 0))) :
    Calls Tryz.prog 67 #[.int .i64 (n : Int), .pointer (some ⟨bs, 0, none⟩), .pointer (some ⟨ba, 0, none⟩)] w fun e w' => e = .returned (.tuple #[]) ∧
      ∃ w1, Below w.heap.size w w1 ∧ w' = w1.setRow ba #[.int .i64 ((off + n : Nat) : Int), .int .i64 ((adv 0 n (l.drop off) (line, col)).1 : Int), .int .i64 ((adv 0 n (l.drop off) (line, col)).2 : Int)] := by
  have c := fun w => nOnward l off line col (off + n) hl (by omega) hoff hfl hfc w
  rw [show off + n - off = n by omega] at c
  generalize adv 0 n (l.drop off) (line, col) = q at *
  have c0 : w.cell? ⟨ba, 0, none⟩ = some (.int .i64 (off : Int)) := cell_of_row w ba 0 _ _ _ ha
  have c1 : w.cell? ⟨ba, 1, none⟩ = some (.int .i64 (line : Int)) := cell_of_row w ba 1 _ _ _ ha
  have c2 : w.cell? ⟨ba, 2, none⟩ = some (.int .i64 (col : Int)) := cell_of_row w ba 2 _ _ _ ha
  have hlt : ba < w.heap.size := (Array.getElem?_eq_some_iff.1 ha).1
  unfold str spotV at *
  generalize (⟨l.toArray⟩ : ByteArray) = s at *
  go_enter Tryz.func67, Tryz.ntmps67
  go_wp2_with fail
  refine (c _).mono ?_
  rintro e w1 ⟨rfl, hb1⟩
  have hg1 := (hb1.block ba hlt).trans ha
  clear c0 c1 c2 hs
  go_wp2_with (refine wpList_store_row rfl _ _ _ rfl ba _ rfl rfl _ _ hg1 (by exact infoSpot) (by rfl) (allSpot _ _ _) ?_)
  go_end0
  exact ⟨rfl, w1, hb1, rfl⟩
/-- A token as the cells of a row. -/
def tv (t : T) : List Value := [.int .i64 (t.kind : Int), .string ⟨t.text.toArray⟩, .int .i64 (t.num : Int), .int .i64 (t.off : Int), .int .i64 (t.line : Int), .int .i64 (t.col : Int)]
def tvs (ts : List T) : List Value := ts.flatMap tv
theorem tvs_length (ts : List T) : (tvs ts).length = ts.length * 6 := by
  induction ts with
  | nil => rfl
  | cons t r ih =>
    show (tv t ++ tvs r).length = _
    rw [List.length_append, ih]
    simp [tv]
    omega
theorem tvs_append (a b : List T) : tvs (a ++ b) = tvs a ++ tvs b := by simp [tvs]
theorem tvs_one (t : T) : tvs [t] = tv t := by simp [tvs]
theorem infoT : (Tryz.prog.info? 62).map (fun i => (i.zero, i.size, i.bytes)) = some (some (.agg #[.int .i64 0, .string ⟨#[]⟩, .int .i64 0, .int .i64 0, .int .i64 0, .int .i64 0]), 6, 56) := by kernel_rfl
theorem infoFlt : (Tryz.prog.info? 45).map (·.size) = some 4 := by kernel_rfl
theorem own_lt {w : World} {B e size n : Nat} {ao : Option Addr} {m c : Nat} {xs : List Value} (h : w.ownsRow B e size (.slice ao m c) n xs) : ∀ k, ob ao = some k → B ≤ k ∧ k < w.heap.size := by
  intro k hk
  exact h.lt k (by rw [ob_eq]; exact hk)
theorem own_of_block {w w' : World} {B e size n : Nat} {ao : Option Addr} {m c : Nat} {xs : List Value} (h : w.ownsRow B e size (.slice ao m c) n xs) (hb : ∀ k, ob ao = some k → w'.heap[k]? = w.heap[k]?) : w'.ownsRow B e size (.slice ao m c) n xs := by
  refine ⟨h.1, ?_⟩
  rcases h.2 with h0 | ⟨g, cap, cur, hv, hbg, hg, h1⟩
  · exact .inl h0
  · refine .inr ⟨g, cap, cur, hv, hbg, ?_, h1⟩
    simp only [Value.slice.injEq] at hv
    rw [hb g (by rw [hv.1]; rfl)]
    exact hg
theorem own_ne {w : World} {B e size n : Nat} {ao : Option Addr} {m c : Nat} {xs : List Value} (h : w.ownsRow B e size (.slice ao m c) n xs) {k : Nat} {cs : Array Value} {t : TypeId} {fr : Nat × Nat} (hk : w.heap[k]? = some (.cells cs t fr)) (ht : t ≠ e) : ob ao ≠ some k := by
  intro he
  rcases h.2 with h0 | ⟨g, cap, cur, hv, hbg, hg, h1⟩
  · simp only [Value.slice.injEq] at h0
    rw [h0.1.1] at he
    cases he
  · simp only [Value.slice.injEq] at hv
    rw [hv.1] at he
    cases he
    rw [hg] at hk
    cases hk
    exact ht rfl

/-- What lies in memory while Scan goes on. -/
structure Sn (w : World) (bs bf ba : Nat) (s : ByteArray) (off line col : Nat) (ao : Option Addr) (c : Nat) (ts : List T) (wr : World) : Prop where
  cs : wr.heap[bs]? = some (.cells #[.string s] 9 (0, 0))
  cf : wr.heap[bf]? = some (.cells #[.int .i64 0, .int .i64 0, .int .i64 0, .int .i64 0] 45 (0, 0))
  ca : wr.heap[ba]? = some (.cells #[.int .i64 (off : Int), .int .i64 (line : Int), .int .i64 (col : Int)] 43 (0, 0))
  own : wr.ownsRow w.heap.size 62 6 (.slice ao ts.length c) ts.length (tvs ts)
  bel : Below w.heap.size w wr
theorem Sn.below {w wr wr' : World} {bs bf ba : Nat} {s : ByteArray} {off line col : Nat} {ao : Option Addr} {c : Nat} {ts : List T} (h : Sn w bs bf ba s off line col ao c ts wr) (hb : Below wr.heap.size wr wr') : Sn w bs bf ba s off line col ao c ts wr' :=
  ⟨(hb.block bs (Array.getElem?_eq_some_iff.1 h.cs).1).trans h.cs, (hb.block bf (Array.getElem?_eq_some_iff.1 h.cf).1).trans h.cf, (hb.block ba (Array.getElem?_eq_some_iff.1 h.ca).1).trans h.ca,
    own_of_block h.own (fun k hk => hb.block k (own_lt h.own k hk).2), h.bel.trans (hb.mono h.bel.size)⟩
theorem Sn.set {w wr : World} {bs bf ba : Nat} {s : ByteArray} {off line col : Nat} {ao : Option Addr} {c : Nat} {ts : List T} (h : Sn w bs bf ba s off line col ao c ts wr) (off' line' col' : Nat) (hB : w.heap.size ≤ ba) (h1 : bs ≠ ba) (h2 : bf ≠ ba) :
    Sn w bs bf ba s off' line' col' ao c ts (wr.setRow ba #[.int .i64 (off' : Int), .int .i64 (line' : Int), .int .i64 (col' : Int)]) :=
  ⟨(setRow_other _ _ _ _ h1).trans h.cs, (setRow_other _ _ _ _ h2).trans h.cf, setRow_heap _ _ _ _ _ _ h.ca,
    own_of_block h.own (fun k hk => setRow_other _ _ _ _ (fun e => own_ne h.own h.ca (by decide) (by rw [hk, e]))), below_setRow h.bel hB _⟩
theorem Sn.grown {w wr wr' : World} {bs bf ba : Nat} {s : ByteArray} {off line col : Nat} {ao ao' : Option Addr} {c c' : Nat} {ts ts' : List T} (h : Sn w bs bf ba s off line col ao c ts wr) (hg : wr.grownBy wr' (ob ao))
    (ho : wr'.ownsRow w.heap.size 62 6 (.slice ao' ts'.length c') ts'.length (tvs ts')) : Sn w bs bf ba s off line col ao' c' ts' wr' :=
  ⟨(hg.block bs (Array.getElem?_eq_some_iff.1 h.cs).1 (own_ne h.own h.cs (by decide)).symm).trans h.cs, (hg.block bf (Array.getElem?_eq_some_iff.1 h.cf).1 (own_ne h.own h.cf (by decide)).symm).trans h.cf,
    (hg.block ba (Array.getElem?_eq_some_iff.1 h.ca).1 (own_ne h.own h.ca (by decide)).symm).trans h.ca, ho, h.bel.grown hg h.bel.size (fun q hq => (own_lt h.own q hq).1)⟩

section
variable {P : Program}
theorem cell_tok_new (w : World) (t : T) (e : TypeId) : ∀ j u, (tv t)[j]? = some u → (w.alloc (.cells (tv t).toArray e)).cell? ((⟨w.heap.size, 0, none⟩ : Addr).add j) = some u := by
  intro j u hu
  rw [Addr.add_lit, cell_of_row _ _ _ _ _ _ (heap_alloc_new w _)]
  simpa using hu
/-- 'x = append(x, t)' of a token. -/
theorem wpList_pushT {ops : Array Oper} {rest : List Oper} {o : Oper} {a : Act} {Q : Exit → Act → World → Prop} {w : World} (hgd : o.guard = none) (s x : Operand) (t : TypeId)
    (ho : o.op = .call { callee := .builtin .append, args := #[s, x], argTypes := #[t, t] })
    (e : TypeId) (ht : P.underlying t = some (.slice e)) (hinfo : (P.info? e).map (fun i => (i.zero, i.size, i.bytes)) = some (some (.agg #[.int .i64 0, .string ⟨#[]⟩, .int .i64 0, .int .i64 0, .int .i64 0, .int .i64 0]), 6, 56))
    (B : Nat) (ao : Option Addr) (n c : Nat) (ts : List T) (hs : a.eval s = .slice ao n c) (hown : w.ownsRow B e 6 (.slice ao n c) n (tvs ts))
    (tk : T) (cells : Array Value) (hz : cells = (tv tk).toArray) (H : Nat) (hH : w.heap.size = H) (hx : a.eval x = .slice (some ⟨H, 0, none⟩) 1 1) (hlen : n + 1 ≤ 2199023255552) (hbase : B ≤ w.heap.size)
    (h : ∀ g cap w', w'.ownsRow B e 6 (.slice (some ⟨g, 0, none⟩) (n + 1) cap) (n + 1) (tvs (ts ++ [tk])) → w.grownBy w' (ob ao) → (ob ao = some g ∨ w.heap.size ≤ g) → wpList P ops Q rest (a.put o.dst (.slice (some ⟨g, 0, none⟩) (n + 1) cap)) w') :
    wpList P ops Q (o :: rest) a (w.alloc (.cells cells e)) := by
  obtain ⟨i, hi, hz0, hz1, hz2⟩ := info_parts hinfo
  subst hz
  subst hH
  refine wpList_append_lies _ hgd s x t ho B e i _ 6 56 ht hi hz0 hz1 hz2 rfl (by decide) _ n (tvs ts) hs (hown.alloc _) ⟨w.heap.size, 0, none⟩ 1 1 (tv tk) hx rfl (cell_tok_new _ _ _) (by intro u hu; simp [tv] at hu; rcases hu with rfl | rfl | rfl | rfl | rfl | rfl <;> rfl) (by decide) (by unfold maxLen; omega) (by omega) (by simp; omega) _ rfl ?_
  intro g cap w' ho' hg hat hlt
  rw [ob_eq] at hg hat
  refine h g cap w' (by rw [tvs_append, tvs_one]; exact ho') ((grown_alloc w _ _).trans hg) ?_
  rcases hat with e | e
  · exact .inl e
  · right; simp at e; omega
end
end Go.Proofs.YtkbodljmkhnebaaGreatDoor.Tok
