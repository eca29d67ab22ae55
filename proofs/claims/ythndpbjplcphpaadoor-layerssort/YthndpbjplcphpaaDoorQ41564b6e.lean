import Derived.Test.YthndpbjplcphpaaDoorQ2f9d986d
set_option maxRecDepth 100000
set_option maxHeartbeats 8000000
namespace Go.Proofs.YthndpbjplcphpaaDoor.Lay
open Go.RowKit Go.Shelf Go.Proofs.YthndpbjplcphpaaDoor.Oct Go.Proofs.YthndpbjplcphpaaDoor.Tok Go.Proofs.YthndpbjplcphpaaDoor.Gt Go.Proofs.YthndpbjplcphpaaDoor.Cir
abbrev LS := (Nat -> Int) × (Int -> Int)
def upd (f : Nat -> Int) (i : Nat) (v : Int) : Nat -> Int := fun j => if j = i then v else f j
def lin (ops : List COp) (i : Nat) (s : LS) (x : Int) : LS := ((if s.2 x = -1 then s.1 else upd s.1 i (min (s.1 i) (IntKind.i64.wrap (s.1 (s.2 x).toNat - ln (oa ops (s.2 x).toNat))))), fun y => if y = x then (i : Int) else s.2 y)
def lst (ops : List COp) (d : Int) (s : LS) (i : Nat) : LS := (wr (oa ops i)).foldl (lin ops i) (upd s.1 i d, s.2)
def ls (ops : List COp) (d : Int) (l : List Nat) : LS := l.foldl (lst ops d) (fun _ => 0, fun _ => -1)
theorem ls_snoc (ops : List COp) (d : Int) (l : List Nat) (i : Nat) : ls ops d (l ++ [i]) = lst ops d (ls ops d l) i := by unfold ls; rw [List.foldl_append]; rfl
theorem lin_take {ops : List COp} {i : Nat} {s : LS} {l : List Int} {j : Nat} {x : Int} (hx : l[j]? = some x) : (l.take (j + 1)).foldl (lin ops i) s = lin ops i ((l.take j).foldl (lin ops i) s) x := by
  rw [List.take_add_one, hx, Option.toList_some, List.foldl_append]; rfl
def VD (n : Nat) (s : LS) : Prop := ∀ x, s.2 x = -1 ∨ ∃ k : Nat, k < n /\ s.2 x = (k : Int)
theorem vd_lin {ops : List COp} {i n : Nat} {s : LS} (hi : i < n) (h : VD n s) (x : Int) : VD n (lin ops i s x) := by
  intro y
  unfold lin
  simp only
  split
  . exact .inr ⟨i, hi, rfl⟩
  . exact h y
theorem vd_fold {ops : List COp} {i n : Nat} (hi : i < n) : ∀ (l : List Int) (s : LS), VD n s -> VD n (l.foldl (lin ops i) s)
  | [], _, h => h
  | x :: r, _, h => vd_fold hi r _ (vd_lin hi h x)
theorem vd_lst {ops : List COp} {d : Int} {i n : Nat} {s : LS} (hi : i < n) (h : VD n s) : VD n (lst ops d s i) := vd_fold hi _ _ h
theorem vd_ls {ops : List COp} {d : Int} {n : Nat} (l : List Nat) (hl : ∀ i ∈ l, i < n) : VD n (ls ops d l) := by
  have key : ∀ (l : List Nat) (s : LS), (∀ i ∈ l, i < n) -> VD n s -> VD n (l.foldl (lst ops d) s) := by
    intro l
    induction l with
    | nil => intro s _ h; exact h
    | cons a r ih => intro s hl h; exact ih _ (fun i hi => hl i (by simp [hi])) (vd_lst (hl a (by simp)) h)
  exact key l _ hl (fun _ => .inl rfl)
theorem ls_eq {ops : List COp} {d : Int} {f : Nat -> Int} (hd0 : 0 <= d) (hd1 : d <= 4096) (hn : ops.length <= 4096) (hW : ∀ o ∈ ops, Wk o) (hL : LV ops d f) : ∀ m, m <= ops.length -> ls ops d (((List.range ops.length).reverse).take m) = (fun j => if ops.length - m <= j /\ j < ops.length then f j else 0, fun x => lb ops x m)
  | 0, _ => by
    unfold ls
    simp only [List.take_zero, List.foldl_nil]
    congr 1
    . funext j; rw [if_neg (by omega)]
  | m + 1, hm => by
    obtain ⟨i, hi⟩ : ∃ i, i = ops.length - 1 - m := ⟨_, rfl⟩
    have hin : i < ops.length := by omega
    have e1 : ((List.range ops.length).reverse)[m]? = some i := by
      rw [List.getElem?_reverse (by simp; omega), List.length_range, List.getElem?_range (by omega), hi]
    rw [List.take_add_one, e1, Option.toList_some, ls_snoc, ls_eq hd0 hd1 hn hW hL m (by omega)]
    have hwk := hW _ (List.mem_of_getElem? (oa_some hin))
    have hnd := wr_nd hwk
    have key : ∀ j, j <= (wr (oa ops i)).length -> ((wr (oa ops i)).take j).foldl (lin ops i) (upd (fun j => if ops.length - m <= j /\ j < ops.length then f j else 0) i d, fun x => lb ops x m) = (upd (fun j => if ops.length - m <= j /\ j < ops.length then f j else 0) i (mb ops f d m ((wr (oa ops i)).take j)), fun y => if y ∈ (wr (oa ops i)).take j then (i : Int) else lb ops y m) := by
      intro j
      induction j with
      | zero => intro _; simp [mb]
      | succ j ih =>
        intro hj
        obtain ⟨x, hx⟩ : ∃ x, (wr (oa ops i))[j]? = some x := ⟨_, List.getElem?_eq_getElem (by omega)⟩
        have hnt : x ∉ (wr (oa ops i)).take j := fun hmm => by
          obtain ⟨q, hq, e⟩ := List.mem_take_iff_getElem.1 hmm
          obtain ⟨hlt, e2⟩ := List.getElem?_eq_some_iff.1 hx
          exact absurd ((List.getElem_inj hnd).1 (e.trans e2.symm)) (by omega)
        rw [lin_take hx, ih (by omega), mb_take hx]
        unfold lin
        simp only [if_neg hnt]
        congr 1
        . by_cases e0 : lb ops x m = -1
          . rw [if_pos e0, if_pos e0]
          . rw [if_neg e0, if_neg e0]
            rcases lb_spec ops x m (by omega) with ⟨h1, -⟩ | ⟨k, h0, h1, h2, h3, h4⟩
            . exact absurd h1 e0
            . rw [h2, Int.toNat_natCast]
              have hk := lv_rng hL k h1
              have hl := ln_rng (oa ops k)
              have ek : upd (fun j => if ops.length - m <= j /\ j < ops.length then f j else 0) i (mb ops f d m ((wr (oa ops i)).take j)) k = f k := by
                unfold upd; rw [if_neg (by omega)]; exact if_pos ⟨h0, h1⟩
              have ei : upd (fun j => if ops.length - m <= j /\ j < ops.length then f j else 0) i (mb ops f d m ((wr (oa ops i)).take j)) i = mb ops f d m ((wr (oa ops i)).take j) := by
                unfold upd; rw [if_pos rfl]
              rw [ek, ei, wrapI _ (by omega) (by omega)]
              funext y
              unfold upd
              split <;> rfl
        . funext y
          have ht : y ∈ (wr (oa ops i)).take (j + 1) ↔ y ∈ (wr (oa ops i)).take j ∨ y = x := by
            rw [List.take_add_one, hx]
            simp only [Option.toList_some, List.mem_append, List.mem_singleton]
          by_cases ey : y = x
          . rw [if_pos ey, if_pos (ht.2 (.inr ey))]
          . rw [if_neg ey]
            by_cases e2 : y ∈ (wr (oa ops i)).take j
            . rw [if_pos e2, if_pos (ht.2 (.inl e2))]
            . rw [if_neg e2, if_neg (fun h => by rcases ht.1 h with h | h; exact e2 h; exact ey h)]
    have hk := key _ (Nat.le_refl _)
    rw [List.take_length] at hk
    unfold lst
    rw [hk]
    have hmi : m = ops.length - 1 - i := by omega
    have hfi : mb ops f d m (wr (oa ops i)) = f i := by rw [hL i _ (oa_some hin), hmi]; exact mb_eq hL hin
    rw [hfi]
    congr 1
    . funext j
      unfold upd
      by_cases ej : j = i
      . rw [if_pos ej, if_pos (by omega), ej]
      . rw [if_neg ej]
        by_cases h2 : ops.length - m <= j /\ j < ops.length
        . exact (if_pos h2).trans (if_pos (by omega)).symm
        . exact (if_neg h2).trans (if_neg (by omega)).symm
    . funext x
      rw [lb, ← hi]
attribute [local go_sem] Oper.semAt_some
theorem box19 (V : World) (v : Value) (x : Nat) (hx : V.heap.size = x) {t : TypeId} : (V.alloc (.cells #[v] t)).heap[x]? = some (.cells #[v] t (0, 0)) := by
  subst hx
  exact heap_alloc_new _ _
theorem box_set {V : World} {g : Nat} {t : TypeId} {v : Value} (h : V.heap[g]? = some (.cells #[v] t (0, 0))) (u : Value) : (V.setCell ⟨g, 0, none⟩ u).heap[g]? = some (.cells #[u] t (0, 0)) := by
  rw [setCell_eq_setRow _ _ _ _ _ _ _ h, setRow_heap _ _ _ _ _ _ h]
  rfl
theorem box_cells {V : World} {g : Nat} {t : TypeId} {v : Value} (h : V.heap[g]? = some (.cells #[v] t (0, 0))) : V.cell? ⟨g, 0, none⟩ = some v /\ V.frozen? ⟨g, 0, none⟩ = false /\ g < V.heap.size := ⟨cell_of_row _ _ 0 _ _ _ h, by simp [World.frozen?, h], (Array.getElem?_eq_some_iff.1 h).1⟩
theorem ar_box {w : World} {g m : Nat} {f : Nat -> Value} {v : Value} (h : Ar w g 79 f) (h' : w.heap[m]? = some (.cells #[v] 25 (0, 0))) : g ≠ m := by
  intro e
  subst e
  unfold Ar at h
  rw [h] at h'
  simp at h'
theorem rk_box {w : World} {g m n : Nat} {f : Nat -> Value} {v : Value} (h : Rk w g 3 n f) (h' : w.heap[m]? = some (.cells #[v] 25 (0, 0))) : g ≠ m := by
  intro e
  subst e
  obtain ⟨c, h1, -⟩ := h
  rw [h1] at h'
  simp at h'
def NQ (Q : Exit -> Act -> World -> Prop) : Exit -> Act -> World -> Prop
  | .panic _, _, _ => False
  | .outgrown, _, _ => False
  | e, a, w => Q e a w
theorem nq_of {Q : Exit -> Act -> World -> Prop} {e : Exit} {a : Act} {w : World} (h : NQ Q e a w) : Q e a w := by
  cases e <;> first | exact h | exact h.elim
theorem nq_normal {Q : Exit -> Act -> World -> Prop} {a : Act} {w : World} (h : Q .normal a w) : NQ Q .normal a w := h
def noDef (ops : Array Oper) : Bool := ops.all fun o => match o.op with | .defer _ => false | _ => true
theorem noDef_of {ops : Array Oper} (h : noDef ops = true) : ∀ o ∈ ops, ∀ c, o.op ≠ .defer c := by
  intro o ho c e
  unfold noDef at h
  rw [Array.all_eq_true_iff_forall_mem] at h
  have := h o ho
  rw [e] at this
  simp at this
structure LI (w : World) (nB gB gD b1 gR gA n : Nat) (d : Int) (so : Value) (s : LS) (W : World) : Prop where
  row : Rk W gR 3 n (fun j => .int .i64 (s.1 j))
  arr : Ar W gA 79 (fun x => .int .i64 (s.2 (x : Int)))
  box : W.heap[gB]? = some (.cells #[.slice (some ⟨gR, 0, none⟩) n n] 25 (0, 0))
  dep : W.heap[gD]? = some (.cells #[.int .i64 d] 3 (0, 0))
  ops : W.heap[b1]? = some (.cells #[so] 22 (0, 0))
  bel : Below w.heap.size w W
  big : nB < W.heap.size
theorem LI.kept {w : World} {nB gB gD b1 gR gA n : Nat} {d : Int} {so : Value} {s : LS} {W W' : World} (h : LI w nB gB gD b1 gR gA n d so s W) (hk : ∀ (g : Nat) (cs : Array Value) (t : TypeId) (fr : Nat × Nat), W.heap[g]? = some (Obj.cells cs t fr) -> W'.heap[g]? = W.heap[g]?) (hb : Below w.heap.size w W') (hs : W.heap.size <= W'.heap.size) : LI w nB gB gD b1 gR gA n d so s W' := by
  obtain ⟨c, h1, -⟩ := id h.row
  exact ⟨h.row.of_block (hk _ _ _ _ h1), h.arr.of_block (hk _ _ _ _ h.arr), (hk _ _ _ _ h.box).trans h.box, (hk _ _ _ _ h.dep).trans h.dep, (hk _ _ _ _ h.ops).trans h.ops, hb, Nat.lt_of_lt_of_le h.big hs⟩
theorem li_own {β : Type} (w : World) (nB gB gD b1 gR gA n : Nat) (d : Int) (so : Value) (f : β -> LS) (B : Nat) (hB : w.heap.size <= B) : OwnFrom B (fun (s : β) W => LI w nB gB gD b1 gR gA n d so (f s) W) := fun s W W' row hs hg hr =>
  hs.kept (fun g cs t fr hgc => hg.block g (Array.getElem?_eq_some_iff.1 hgc).1 (fun e => by
    obtain ⟨-, o, ho, hc⟩ := hr g e.symm
    rw [hgc] at ho
    cases ho
    cases hc)) (hs.bel.grown hg hs.bel.size (fun k e => Nat.le_trans hB (hr k e).1)) hg.size
theorem LI.setRow {w : World} {nB gB gD b1 gR gA n : Nat} {d : Int} {so : Value} {s : LS} {W : World} (h : LI w nB gB gD b1 gR gA n d so s W) (hne : gR ≠ gD) (hw : w.heap.size <= gR) (i : Nat) (v : Int) : LI w nB gB gD b1 gR gA n d so (upd s.1 i v, s.2) (W.setCell ⟨gR, i, none⟩ (.int .i64 v)) := by
  obtain ⟨c, h1, h2, h3⟩ := id h.row
  have hB : gR ≠ gB := rk_box h.row h.box
  have hA : gR ≠ gA := rk_ar h.row h.arr
  have h1' : gR ≠ b1 := fun e => by
    have := h.ops
    rw [← e, h1] at this
    simp at this
  refine ⟨(h.row.set i _).congr fun j hj => ?_, h.arr.of_block (Below.heap_setCell _ _ _ _ (fun e => hA e.symm)), (Below.heap_setCell _ _ _ _ (fun e => hB e.symm)).trans h.box, (Below.heap_setCell _ _ _ _ (fun e => hne e.symm)).trans h.dep, (Below.heap_setCell _ _ _ _ (fun e => h1' e.symm)).trans h.ops, h.bel.setCell (p := ⟨gR, i, none⟩) hw _, by rw [World.size_setCell]; exact h.big⟩
  unfold upd
  show (if j = i then _ else _) = Value.int .i64 (if j = i then v else s.1 j)
  split <;> rfl
theorem LI.setArr {w : World} {nB gB gD b1 gR gA n : Nat} {d : Int} {so : Value} {s : LS} {W : World} (h : LI w nB gB gD b1 gR gA n d so s W) (hw : w.heap.size <= gA) (x : Nat) (v : Int) : LI w nB gB gD b1 gR gA n d so (s.1, fun y => if y = (x : Int) then v else s.2 y) (W.setCell ⟨gA, x, none⟩ (.int .i64 v)) := by
  have hB : gA ≠ gB := ar_box h.arr h.box
  have hA : gR ≠ gA := rk_ar h.row h.arr
  have hm := h.arr
  unfold Ar at hm
  have h1' : gA ≠ b1 := fun e => by
    have := h.ops
    rw [← e, hm] at this
    simp at this
  have h2' : gA ≠ gD := fun e => by
    have := h.dep
    rw [← e, hm] at this
    simp at this
  refine ⟨h.row.of_block (Below.heap_setCell _ _ _ _ hA), (h.arr.set x _).congr fun j hj => ?_, (Below.heap_setCell _ _ _ _ (fun e => hB e.symm)).trans h.box, (Below.heap_setCell _ _ _ _ (fun e => h2' e.symm)).trans h.dep, (Below.heap_setCell _ _ _ _ (fun e => h1' e.symm)).trans h.ops, h.bel.setCell (p := ⟨gA, x, none⟩) hw _, by rw [World.size_setCell]; exact h.big⟩
  by_cases e : j = x
  . rw [if_pos e]
    simp only
    rw [if_pos (by omega)]
  . rw [if_neg e]
    simp only
    rw [if_neg (by omega)]
theorem lLate1 (ops : List COp) (f fl : Nat -> Int) (hE : EV ops f) (hL : LV ops (gr f ops.length) fl) (hW : ∀ o ∈ ops, Wk o) (hn : ops.length <= 4096) (ao : Option Addr) (k : Nat) (w : World) (hO : OpsIn w ao ops) : Calls Tryd.prog 33 #[.slice ao ops.length k] w fun e w' => ∃ g, e = .returned (.slice (some ⟨g, 0, none⟩) ops.length ops.length) /\ Rk w' g 3 ops.length (fun j => .int .i64 (fl j)) /\ w.heap.size <= g /\ Below w.heap.size w w' := by
  have c1 := fun V (h : Below w.heap.size w V) => lEarly1 ops f hE hW hn ao k V (hO.below h)
  have c2 := fun (V : World) (g : Nat) (h : Rk V g 3 ops.length (fun j => .int .i64 (f j))) => lGreatest f ops.length g ops.length (by omega) (ev_rng hE) V h
  have hdr := gr_rng (f := f) ops.length (ev_rng hE)
  have HLS : Hid (∀ m, m <= ops.length -> ls ops (gr f ops.length) (((List.range ops.length).reverse).take m) = (fun j => if ops.length - m <= j /\ j < ops.length then fl j else 0, fun x => lb ops x m)) := hide (ls_eq hdr.1 (by omega) hn hW hL)
  have HO := hide hO
  have HWk := hide hW
  generalize gr f ops.length = d at *
  obtain ⟨n, hnl⟩ : ∃ n, ops.length = n := ⟨_, rfl⟩
  have HN := hide hnl
  rw [hnl] at hn hdr HLS
  simp only [hnl] at c1 c2 ⊢
  clear hnl hE hL hW hO
  have mq := fun W => make19 n (by omega) W
  have hb1 := bnew w (.cells #[.slice ao n k] 22)
  have hx1 : (w.alloc (.cells #[.slice ao n k] 22)).heap[w.heap.size]? = some (.cells #[.slice ao n k] 22 (0, 0)) := heap_alloc_new _ _
  have hwx : w.heap.size < (w.alloc (.cells #[.slice ao n k] 22)).heap.size := by simp
  have c1' := c1 _ hb1
  refine (callsIn_wide (n := 3)).1 ?_
  refine callsIn_of_wp_marks Tryd.func33 rfl trivial ?_ rfl
  simp only [Tryd.ntmps33, List.size_toArray, List.length_cons, List.length_nil, Nat.reduceAdd, Nat.reduceSub, Array.replicate_succ, Array.replicate_zero, List.push_toArray, List.append_toArray, List.nil_append, List.cons_append]
  refine wpIn_wide.2 ?_
  go_upto_region 2 with (first
    | (go_at_call 30; refine c1'.mono ?_; rintro e w2 ⟨ge, rfl, hRe, hge, hb2⟩; have c2' := c2 w2 ge hRe; have hx2 := (hb2.block _ hwx).trans hx1; have hb2' := hb1.trans (hb2.mono hb1.size); clear c1 c1' c2 hRe hge)
    | (go_at_call 40; refine c2'.mono ?_; rintro e w2q ⟨rfl, rfl⟩; clear c2'))
  obtain ⟨gD, hgD⟩ : ∃ gD, gD = w2q.heap.size := ⟨_, rfl⟩
  rw [← hgD]
  have hD3 : (w2q.alloc (.cells #[.int .i64 d] 3)).heap[gD]? = some (.cells #[.int .i64 d] 3 (0, 0)) := by rw [hgD]; exact heap_alloc_new _ _
  have hx3 := (Below.heap_alloc w2q (.cells #[.int .i64 d] 3) _ (Array.getElem?_eq_some_iff.1 hx2).1).trans hx2
  have hB3 : Below w.heap.size w (w2q.alloc (.cells #[.int .i64 d] 3)) := hb2'.alloc hb2'.size _
  have hgw : w.heap.size < gD := by have := hb2.size; omega
  generalize w2q.alloc (.cells #[.int .i64 d] 3) = W3 at *
  clear hgD hx1 hx2 hb1 hb2 hb2' hwx
  have HX : Hid (∀ V, Below W3.heap.size W3 V -> V.cell? ⟨w.heap.size, 0, none⟩ = some (.slice ao n k) /\ V.frozen? ⟨w.heap.size, 0, none⟩ = false /\ w.heap.size < V.heap.size) := hide (fun V hV => by
    have hb := (hV.block _ (Array.getElem?_eq_some_iff.1 hx3).1).trans hx3
    exact ⟨cell_of_row _ _ 0 _ _ _ hb, by simp [World.frozen?, hb], (Array.getElem?_eq_some_iff.1 hb).1⟩)
  go_cut [4, 5] from 17 (fun s4 s5 wc => ∃ gB gR gA : Nat, s4 = .pointer (some ⟨gB, 0, none⟩) /\ s5 = .pointer (some ⟨gA, 0, none⟩) /\ Hid (wc.heap[gB]? = some (.cells #[.slice (some ⟨gR, 0, none⟩) n n] 25 (0, 0))) /\ Hid (Rk wc gR 3 n (fun _ => .int .i64 0)) /\ Hid (Ar wc gA 79 (fun _ => .int .i64 (-1))) /\ W3.heap.size <= gB /\ W3.heap.size <= gR /\ W3.heap.size <= gA /\ Hid (Below W3.heap.size W3 wc))
  case first =>
    refine wp_mono (Q := NQ _) ?_ (fun e a w h => nq_of h)
    refine wp_region_held_drew (S := fun V : World => Below W3.heap.size W3 V) (by kernel_rfl) (Below.refl W3.heap.size W3).drew (fun hHeld => ?_)
    refine take_to (i := 0) (d := 13) (v := ?_) rfl rfl (by kernel_rfl) (by kernel_rfl) (by kernel_rfl) (fun _ _ _ h => h) (Or.inl ⟨by rfl, ?_⟩) (by assumption) ?_
    rotate_left 1
    . intro W hSw
      have hx := HX.out W hSw
      obtain ⟨x0, x1, x2⟩ := hx
      go_simp
      with_reducible rfl
    simp only [Act.put, List.setIfInBounds_toArray, List.set_cons_zero, List.set_cons_succ]
    refine take_to (i := 1) (d := 14) (v := ?_) rfl rfl (by kernel_rfl) (by kernel_rfl) (by kernel_rfl) (fun _ _ _ h => h) (Or.inl ⟨by rfl, ?_⟩) (by assumption) ?_
    rotate_left 1
    . intro W hSw
      have hx := HX.out W hSw
      obtain ⟨x0, x1, x2⟩ := hx
      go_simp
      with_reducible rfl
    simp only [Act.put, List.setIfInBounds_toArray, List.set_cons_zero, List.set_cons_succ]
    refine wpAnyH_ready (rs := [2, 3, 4, 5]) (by kernel_rfl) (by simp) ?_
    refine AllReadyH.cons (o := { dst := some 15, op := Op.makeSlice 25 (Operand.tmp 14) (Operand.tmp 14), type := 25, pos := "moments.go:51", after := #[{ on := 1, ground := Ground.data }, { on := 1, ground := Ground.data }], guard := none }) rfl (fun K hK => ?_) (AllReadyH.cons (o := { dst := some 16, op := Op.call { callee := Callee.value (Operand.func 49), args := #[], argTypes := #[] }, type := 79, pos := "moments.go:51", after := #[], guard := none }) rfl (fun K hK => ?_) (AllReadyH.cons (o := { dst := some 4, op := Op.alloc 25, type := 0, pos := "moments.go:51", after := #[], guard := none }) rfl (fun K hK => ?_) (AllReadyH.cons (o := { dst := some 5, op := Op.alloc 79, type := 0, pos := "moments.go:51", after := #[], guard := none }) rfl (fun K hK => ?_) AllReadyH.nil)))
    . go_simp
      have hRB : W3.heap.size <= W3.heap.size := Nat.le_trans hHeld.size (Nat.le_of_eq (by first | rfl | simp))
      refine hK.out _ _ (show Below W3.heap.size W3 _ from (hHeld.alloc hHeld.size (.cells (madeCells #[.int .i64 0] n) 3))) (fun hHeld => ?_)
      clear hK K
      have HR : Hid (Rk (W3.drew.alloc (.cells (madeCells #[.int .i64 0] n) 3)) (W3.heap.size) 3 n (fun _ => .int .i64 0)) := hide (made19 W3.drew n (W3.heap.size) (by simp))
      try simp only [Act.put, List.setIfInBounds_toArray, List.set_cons_zero, List.set_cons_succ]
      refine wpAnyH_ready (rs := [3, 4, 5]) (by kernel_rfl) (by simp) ?_
      refine AllReadyH.cons (o := { dst := some 16, op := Op.call { callee := Callee.value (Operand.func 49), args := #[], argTypes := #[] }, type := 79, pos := "moments.go:51", after := #[], guard := none }) rfl (fun K hK => ?_) (AllReadyH.cons (o := { dst := some 4, op := Op.alloc 25, type := 0, pos := "moments.go:51", after := #[], guard := none }) rfl (fun K hK => ?_) (AllReadyH.cons (o := { dst := some 5, op := Op.alloc 79, type := 0, pos := "moments.go:51", after := #[], guard := none }) rfl (fun K hK => ?_) AllReadyH.nil))
      . go_simp
        go_at_call 49
        refine (lNoneMet _).mono ?_
        rintro e w1 ⟨rfl, hb⟩
        replace HR := hide (HR.out.below hb)
        have hb' := Below.trans hHeld (hb.mono hHeld.size)
        go_wp2_with fail
        refine hK.out _ _ (show Below W3.heap.size W3 w1 from hb') (fun hHeld => ?_)
        clear hK K hb'
        try simp only [Act.put, List.setIfInBounds_toArray, List.set_cons_zero, List.set_cons_succ]
        refine wpAnyH_ready (rs := [4, 5]) (by kernel_rfl) (by simp) ?_
        refine AllReadyH.cons (o := { dst := some 4, op := Op.alloc 25, type := 0, pos := "moments.go:51", after := #[], guard := none }) rfl (fun K hK => ?_) (AllReadyH.cons (o := { dst := some 5, op := Op.alloc 79, type := 0, pos := "moments.go:51", after := #[], guard := none }) rfl (fun K hK => ?_) AllReadyH.nil)
        . go_simp
          have hEB : W3.heap.size <= w1.heap.size := Nat.le_trans hHeld.size (Nat.le_of_eq (by first | rfl | simp))
          refine hK.out _ _ (show Below W3.heap.size W3 _ from (hHeld.alloc hHeld.size (.cells #[.slice none 0 0] 25))) (fun hHeld => ?_)
          clear hK K
          replace HR := hide (HR.out.below (bnew w1 (.cells #[.slice none 0 0] 25)))
          have HE : Hid ((w1.alloc (.cells #[.slice none 0 0] 25)).heap[w1.heap.size]? = some (.cells #[.slice none 0 0] 25 (0, 0))) := hide (box19 w1 _ (w1.heap.size) (by simp))
          try simp only [Act.put, List.setIfInBounds_toArray, List.set_cons_zero, List.set_cons_succ]
          refine wpAnyH_ready (rs := [5]) (by kernel_rfl) (by simp) ?_
          refine AllReadyH.cons (o := { dst := some 5, op := Op.alloc 79, type := 0, pos := "moments.go:51", after := #[], guard := none }) rfl (fun K hK => ?_) AllReadyH.nil
          go_simp
          have hAB : W3.heap.size <= w1.heap.size + 1 := Nat.le_trans hHeld.size (Nat.le_of_eq (by first | rfl | simp))
          refine hK.out _ _ (show Below W3.heap.size W3 _ from (hHeld.alloc hHeld.size (.cells Tryd.zeroCells79 79))) (fun hHeld => ?_)
          clear hK K
          replace HR := hide (HR.out.below (bnew (w1.alloc (.cells #[.slice none 0 0] 25)) (.cells Tryd.zeroCells79 79)))
          replace HE := hide (((bnew (w1.alloc (.cells #[.slice none 0 0] 25)) (.cells Tryd.zeroCells79 79)).block _ (Array.getElem?_eq_some_iff.1 HE.out).1).trans HE.out)
          have HA : Hid (Ar ((w1.alloc (.cells #[.slice none 0 0] 25)).alloc (.cells Tryd.zeroCells79 79)) (w1.heap.size + 1) 79 (fun _ => .int .i64 0)) := hide (arr19 (w1.alloc (.cells #[.slice none 0 0] 25)) (w1.heap.size + 1) (by simp))
          try simp only [Act.put, List.setIfInBounds_toArray, List.set_cons_zero, List.set_cons_succ]
          refine wpAnyH_ready (rs := [6]) (by kernel_rfl) (by simp) ?_
          refine AllReadyH.cons (o := { dst := none, op := Op.store 25 (Operand.tmp 4) (Operand.tmp 15), type := 0, pos := "moments.go:51", after := #[{ on := 4, ground := Ground.data }, { on := 2, ground := Ground.data }, { on := 3, ground := Ground.chain }, { on := 0, ground := Ground.phase }, { on := 1, ground := Ground.phase }, { on := 2, ground := Ground.phase }, { on := 3, ground := Ground.textOnly Departure.lateStoresUnsure }, { on := 4, ground := Ground.phase }, { on := 5, ground := Ground.phase }], guard := none }) rfl (fun K hK => ?_) AllReadyH.nil
          generalize ((w1.alloc (.cells #[.slice none 0 0] 25)).alloc (.cells Tryd.zeroCells79 79)) = V at *
          have hcE := cell_of_row _ _ 0 _ _ _ HE.out
          have hfE : (V).frozen? ⟨w1.heap.size, 0, none⟩ = false := by simp [World.frozen?, HE.out]
          simp only [List.getElem?_toArray, List.getElem?_cons_zero] at hcE
          have hnE : w1.heap.size + 1 ≠ w1.heap.size := ar_box HA.out HE.out
          have hnR : W3.heap.size ≠ w1.heap.size := rk_box HR.out HE.out
          have hnA : W3.heap.size ≠ w1.heap.size + 1 := rk_ar HR.out HA.out
          have HA2 : Hid (Ar ((V).setCell ⟨w1.heap.size, 0, none⟩ (.slice (some ⟨W3.heap.size, 0, none⟩) n n)) (w1.heap.size + 1) 79 (fun _ => .int .i64 0)) := hide (HA.out.of_block (Below.heap_setCell _ _ _ _ hnE))
          have HR2 : Hid (Rk ((V).setCell ⟨w1.heap.size, 0, none⟩ (.slice (some ⟨W3.heap.size, 0, none⟩) n n)) (W3.heap.size) 3 n (fun _ => .int .i64 0)) := hide (HR.out.of_block (Below.heap_setCell _ _ _ _ hnR))
          have HE2 : Hid (((V).setCell ⟨w1.heap.size, 0, none⟩ (.slice (some ⟨W3.heap.size, 0, none⟩) n n)).heap[w1.heap.size]? = some (.cells #[.slice (some ⟨W3.heap.size, 0, none⟩) n n] 25 (0, 0))) := hide (box_set HE.out _)
          go_simp
          refine hK.out _ _ (show Below W3.heap.size W3 _ from (hHeld.setCell (p := ⟨w1.heap.size, 0, none⟩) hEB _)) (fun hHeld => ?_)
          clear hK K
          refine wpAnyH_ready (rs := [7]) (by kernel_rfl) (by simp) ?_
          refine AllReadyH.cons (o := { dst := none, op := Op.store 79 (Operand.tmp 5) (Operand.tmp 16), type := 0, pos := "moments.go:51", after := #[{ on := 5, ground := Ground.data }, { on := 3, ground := Ground.data }, { on := 6, ground := Ground.chain }, { on := 0, ground := Ground.phase }, { on := 1, ground := Ground.phase }, { on := 2, ground := Ground.phase }, { on := 3, ground := Ground.phase }, { on := 4, ground := Ground.phase }, { on := 5, ground := Ground.phase }, { on := 6, ground := Ground.phase }], guard := none }) rfl (fun K hK => ?_) AllReadyH.nil
          rw [if_pos (by rfl)]
          refine wp_store_row _ _ _ rfl _ _ (by rfl) (by rfl) _ _ HA2.out (by rw [av_size]; exact infoL) (by rw [av_size, av_size]) (av_one fun _ => rfl) ?_
          refine hK.out _ _ (show Below W3.heap.size W3 _ from Below.row hHeld _ _ hAB) (fun hHeld => ?_)
          clear hK K
          refine wpAnyH_done (by kernel_rfl) ?_ _
          refine nq_normal ?_
          go_wp2_with fail
          go_meet
          case rel => exact ⟨w1.heap.size, W3.heap.size, w1.heap.size + 1, rfl, rfl, hide ((setRow_other _ _ _ _ (fun e => hnE e.symm)).trans HE2.out), hide (HR2.out.of_block (setRow_other _ _ _ _ hnA)), hide (setRow_heap _ _ _ _ _ _ HA2.out), hEB, hRB, hAB, hide hHeld⟩
        . go_simp
          have hAB : W3.heap.size <= w1.heap.size := Nat.le_trans hHeld.size (Nat.le_of_eq (by first | rfl | simp))
          refine hK.out _ _ (show Below W3.heap.size W3 _ from (hHeld.alloc hHeld.size (.cells Tryd.zeroCells79 79))) (fun hHeld => ?_)
          clear hK K
          replace HR := hide (HR.out.below (bnew w1 (.cells Tryd.zeroCells79 79)))
          have HA : Hid (Ar (w1.alloc (.cells Tryd.zeroCells79 79)) (w1.heap.size) 79 (fun _ => .int .i64 0)) := hide (arr19 w1 (w1.heap.size) (by simp))
          try simp only [Act.put, List.setIfInBounds_toArray, List.set_cons_zero, List.set_cons_succ]
          refine wpAnyH_ready (rs := [4]) (by kernel_rfl) (by simp) ?_
          refine AllReadyH.cons (o := { dst := some 4, op := Op.alloc 25, type := 0, pos := "moments.go:51", after := #[], guard := none }) rfl (fun K hK => ?_) AllReadyH.nil
          go_simp
          have hEB : W3.heap.size <= w1.heap.size + 1 := Nat.le_trans hHeld.size (Nat.le_of_eq (by first | rfl | simp))
          refine hK.out _ _ (show Below W3.heap.size W3 _ from (hHeld.alloc hHeld.size (.cells #[.slice none 0 0] 25))) (fun hHeld => ?_)
          clear hK K
          replace HR := hide (HR.out.below (bnew (w1.alloc (.cells Tryd.zeroCells79 79)) (.cells #[.slice none 0 0] 25)))
          replace HA := hide (HA.out.below (bnew (w1.alloc (.cells Tryd.zeroCells79 79)) (.cells #[.slice none 0 0] 25)))
          have HE : Hid (((w1.alloc (.cells Tryd.zeroCells79 79)).alloc (.cells #[.slice none 0 0] 25)).heap[w1.heap.size + 1]? = some (.cells #[.slice none 0 0] 25 (0, 0))) := hide (box19 (w1.alloc (.cells Tryd.zeroCells79 79)) _ (w1.heap.size + 1) (by simp))
          try simp only [Act.put, List.setIfInBounds_toArray, List.set_cons_zero, List.set_cons_succ]
          refine wpAnyH_ready (rs := [6]) (by kernel_rfl) (by simp) ?_
          refine AllReadyH.cons (o := { dst := none, op := Op.store 25 (Operand.tmp 4) (Operand.tmp 15), type := 0, pos := "moments.go:51", after := #[{ on := 4, ground := Ground.data }, { on := 2, ground := Ground.data }, { on := 3, ground := Ground.chain }, { on := 0, ground := Ground.phase }, { on := 1, ground := Ground.phase }, { on := 2, ground := Ground.phase }, { on := 3, ground := Ground.textOnly Departure.lateStoresUnsure }, { on := 4, ground := Ground.phase }, { on := 5, ground := Ground.phase }], guard := none }) rfl (fun K hK => ?_) AllReadyH.nil
          generalize ((w1.alloc (.cells Tryd.zeroCells79 79)).alloc (.cells #[.slice none 0 0] 25)) = V at *
          have hcE := cell_of_row _ _ 0 _ _ _ HE.out
          have hfE : (V).frozen? ⟨w1.heap.size + 1, 0, none⟩ = false := by simp [World.frozen?, HE.out]
          simp only [List.getElem?_toArray, List.getElem?_cons_zero] at hcE
          have hnE : w1.heap.size ≠ w1.heap.size + 1 := ar_box HA.out HE.out
          have hnR : W3.heap.size ≠ w1.heap.size + 1 := rk_box HR.out HE.out
          have hnA : W3.heap.size ≠ w1.heap.size := rk_ar HR.out HA.out
          have HA2 : Hid (Ar ((V).setCell ⟨w1.heap.size + 1, 0, none⟩ (.slice (some ⟨W3.heap.size, 0, none⟩) n n)) (w1.heap.size) 79 (fun _ => .int .i64 0)) := hide (HA.out.of_block (Below.heap_setCell _ _ _ _ hnE))
          have HR2 : Hid (Rk ((V).setCell ⟨w1.heap.size + 1, 0, none⟩ (.slice (some ⟨W3.heap.size, 0, none⟩) n n)) (W3.heap.size) 3 n (fun _ => .int .i64 0)) := hide (HR.out.of_block (Below.heap_setCell _ _ _ _ hnR))
          have HE2 : Hid (((V).setCell ⟨w1.heap.size + 1, 0, none⟩ (.slice (some ⟨W3.heap.size, 0, none⟩) n n)).heap[w1.heap.size + 1]? = some (.cells #[.slice (some ⟨W3.heap.size, 0, none⟩) n n] 25 (0, 0))) := hide (box_set HE.out _)
          go_simp
          refine hK.out _ _ (show Below W3.heap.size W3 _ from (hHeld.setCell (p := ⟨w1.heap.size + 1, 0, none⟩) hEB _)) (fun hHeld => ?_)
          clear hK K
          refine wpAnyH_ready (rs := [7]) (by kernel_rfl) (by simp) ?_
          refine AllReadyH.cons (o := { dst := none, op := Op.store 79 (Operand.tmp 5) (Operand.tmp 16), type := 0, pos := "moments.go:51", after := #[{ on := 5, ground := Ground.data }, { on := 3, ground := Ground.data }, { on := 6, ground := Ground.chain }, { on := 0, ground := Ground.phase }, { on := 1, ground := Ground.phase }, { on := 2, ground := Ground.phase }, { on := 3, ground := Ground.phase }, { on := 4, ground := Ground.phase }, { on := 5, ground := Ground.phase }, { on := 6, ground := Ground.phase }], guard := none }) rfl (fun K hK => ?_) AllReadyH.nil
          rw [if_pos (by rfl)]
          refine wp_store_row _ _ _ rfl _ _ (by rfl) (by rfl) _ _ HA2.out (by rw [av_size]; exact infoL) (by rw [av_size, av_size]) (av_one fun _ => rfl) ?_
          refine hK.out _ _ (show Below W3.heap.size W3 _ from Below.row hHeld _ _ hAB) (fun hHeld => ?_)
          clear hK K
          refine wpAnyH_done (by kernel_rfl) ?_ _
          refine nq_normal ?_
          go_wp2_with fail
          go_meet
          case rel => exact ⟨w1.heap.size + 1, W3.heap.size, w1.heap.size, rfl, rfl, hide ((setRow_other _ _ _ _ (fun e => hnE e.symm)).trans HE2.out), hide (HR2.out.of_block (setRow_other _ _ _ _ hnA)), hide (setRow_heap _ _ _ _ _ _ HA2.out), hEB, hRB, hAB, hide hHeld⟩
      . go_simp
        have hEB : W3.heap.size <= W3.heap.size + 1 := Nat.le_trans hHeld.size (Nat.le_of_eq (by first | rfl | simp))
        refine hK.out _ _ (show Below W3.heap.size W3 _ from (hHeld.alloc hHeld.size (.cells #[.slice none 0 0] 25))) (fun hHeld => ?_)
        clear hK K
        replace HR := hide (HR.out.below (bnew (W3.drew.alloc (.cells (madeCells #[.int .i64 0] n) 3)) (.cells #[.slice none 0 0] 25)))
        have HE : Hid (((W3.drew.alloc (.cells (madeCells #[.int .i64 0] n) 3)).alloc (.cells #[.slice none 0 0] 25)).heap[W3.heap.size + 1]? = some (.cells #[.slice none 0 0] 25 (0, 0))) := hide (box19 (W3.drew.alloc (.cells (madeCells #[.int .i64 0] n) 3)) _ (W3.heap.size + 1) (by simp))
        try simp only [Act.put, List.setIfInBounds_toArray, List.set_cons_zero, List.set_cons_succ]
        refine wpAnyH_ready (rs := [3, 5]) (by kernel_rfl) (by simp) ?_
        refine AllReadyH.cons (o := { dst := some 16, op := Op.call { callee := Callee.value (Operand.func 49), args := #[], argTypes := #[] }, type := 79, pos := "moments.go:51", after := #[], guard := none }) rfl (fun K hK => ?_) (AllReadyH.cons (o := { dst := some 5, op := Op.alloc 79, type := 0, pos := "moments.go:51", after := #[], guard := none }) rfl (fun K hK => ?_) AllReadyH.nil)
        . go_simp
          go_at_call 49
          refine (lNoneMet _).mono ?_
          rintro e w1 ⟨rfl, hb⟩
          replace HR := hide (HR.out.below hb)
          replace HE := hide ((hb.block _ (Array.getElem?_eq_some_iff.1 HE.out).1).trans HE.out)
          have hb' := Below.trans hHeld (hb.mono hHeld.size)
          go_wp2_with fail
          refine hK.out _ _ (show Below W3.heap.size W3 w1 from hb') (fun hHeld => ?_)
          clear hK K hb'
          try simp only [Act.put, List.setIfInBounds_toArray, List.set_cons_zero, List.set_cons_succ]
          refine wpAnyH_ready (rs := [5]) (by kernel_rfl) (by simp) ?_
          refine AllReadyH.cons (o := { dst := some 5, op := Op.alloc 79, type := 0, pos := "moments.go:51", after := #[], guard := none }) rfl (fun K hK => ?_) AllReadyH.nil
          go_simp
          have hAB : W3.heap.size <= w1.heap.size := Nat.le_trans hHeld.size (Nat.le_of_eq (by first | rfl | simp))
          refine hK.out _ _ (show Below W3.heap.size W3 _ from (hHeld.alloc hHeld.size (.cells Tryd.zeroCells79 79))) (fun hHeld => ?_)
          clear hK K
          replace HR := hide (HR.out.below (bnew w1 (.cells Tryd.zeroCells79 79)))
          replace HE := hide (((bnew w1 (.cells Tryd.zeroCells79 79)).block _ (Array.getElem?_eq_some_iff.1 HE.out).1).trans HE.out)
          have HA : Hid (Ar (w1.alloc (.cells Tryd.zeroCells79 79)) (w1.heap.size) 79 (fun _ => .int .i64 0)) := hide (arr19 w1 (w1.heap.size) (by simp))
          try simp only [Act.put, List.setIfInBounds_toArray, List.set_cons_zero, List.set_cons_succ]
          refine wpAnyH_ready (rs := [6]) (by kernel_rfl) (by simp) ?_
          refine AllReadyH.cons (o := { dst := none, op := Op.store 25 (Operand.tmp 4) (Operand.tmp 15), type := 0, pos := "moments.go:51", after := #[{ on := 4, ground := Ground.data }, { on := 2, ground := Ground.data }, { on := 3, ground := Ground.chain }, { on := 0, ground := Ground.phase }, { on := 1, ground := Ground.phase }, { on := 2, ground := Ground.phase }, { on := 3, ground := Ground.textOnly Departure.lateStoresUnsure }, { on := 4, ground := Ground.phase }, { on := 5, ground := Ground.phase }], guard := none }) rfl (fun K hK => ?_) AllReadyH.nil
          generalize (w1.alloc (.cells Tryd.zeroCells79 79)) = V at *
          have hcE := cell_of_row _ _ 0 _ _ _ HE.out
          have hfE : (V).frozen? ⟨W3.heap.size + 1, 0, none⟩ = false := by simp [World.frozen?, HE.out]
          simp only [List.getElem?_toArray, List.getElem?_cons_zero] at hcE
          have hnE : w1.heap.size ≠ W3.heap.size + 1 := ar_box HA.out HE.out
          have hnR : W3.heap.size ≠ W3.heap.size + 1 := rk_box HR.out HE.out
          have hnA : W3.heap.size ≠ w1.heap.size := rk_ar HR.out HA.out
          have HA2 : Hid (Ar ((V).setCell ⟨W3.heap.size + 1, 0, none⟩ (.slice (some ⟨W3.heap.size, 0, none⟩) n n)) (w1.heap.size) 79 (fun _ => .int .i64 0)) := hide (HA.out.of_block (Below.heap_setCell _ _ _ _ hnE))
          have HR2 : Hid (Rk ((V).setCell ⟨W3.heap.size + 1, 0, none⟩ (.slice (some ⟨W3.heap.size, 0, none⟩) n n)) (W3.heap.size) 3 n (fun _ => .int .i64 0)) := hide (HR.out.of_block (Below.heap_setCell _ _ _ _ hnR))
          have HE2 : Hid (((V).setCell ⟨W3.heap.size + 1, 0, none⟩ (.slice (some ⟨W3.heap.size, 0, none⟩) n n)).heap[W3.heap.size + 1]? = some (.cells #[.slice (some ⟨W3.heap.size, 0, none⟩) n n] 25 (0, 0))) := hide (box_set HE.out _)
          go_simp
          refine hK.out _ _ (show Below W3.heap.size W3 _ from (hHeld.setCell (p := ⟨W3.heap.size + 1, 0, none⟩) hEB _)) (fun hHeld => ?_)
          clear hK K
          refine wpAnyH_ready (rs := [7]) (by kernel_rfl) (by simp) ?_
          refine AllReadyH.cons (o := { dst := none, op := Op.store 79 (Operand.tmp 5) (Operand.tmp 16), type := 0, pos := "moments.go:51", after := #[{ on := 5, ground := Ground.data }, { on := 3, ground := Ground.data }, { on := 6, ground := Ground.chain }, { on := 0, ground := Ground.phase }, { on := 1, ground := Ground.phase }, { on := 2, ground := Ground.phase }, { on := 3, ground := Ground.phase }, { on := 4, ground := Ground.phase }, { on := 5, ground := Ground.phase }, { on := 6, ground := Ground.phase }], guard := none }) rfl (fun K hK => ?_) AllReadyH.nil
          rw [if_pos (by rfl)]
          refine wp_store_row _ _ _ rfl _ _ (by rfl) (by rfl) _ _ HA2.out (by rw [av_size]; exact infoL) (by rw [av_size, av_size]) (av_one fun _ => rfl) ?_
          refine hK.out _ _ (show Below W3.heap.size W3 _ from Below.row hHeld _ _ hAB) (fun hHeld => ?_)
          clear hK K
          refine wpAnyH_done (by kernel_rfl) ?_ _
          refine nq_normal ?_
          go_wp2_with fail
          go_meet
          case rel => exact ⟨W3.heap.size + 1, W3.heap.size, w1.heap.size, rfl, rfl, hide ((setRow_other _ _ _ _ (fun e => hnE e.symm)).trans HE2.out), hide (HR2.out.of_block (setRow_other _ _ _ _ hnA)), hide (setRow_heap _ _ _ _ _ _ HA2.out), hEB, hRB, hAB, hide hHeld⟩
        . go_simp
          have hAB : W3.heap.size <= W3.heap.size + 2 := Nat.le_trans hHeld.size (Nat.le_of_eq (by first | rfl | simp))
          refine hK.out _ _ (show Below W3.heap.size W3 _ from (hHeld.alloc hHeld.size (.cells Tryd.zeroCells79 79))) (fun hHeld => ?_)
          clear hK K
          replace HR := hide (HR.out.below (bnew ((W3.drew.alloc (.cells (madeCells #[.int .i64 0] n) 3)).alloc (.cells #[.slice none 0 0] 25)) (.cells Tryd.zeroCells79 79)))
          replace HE := hide (((bnew ((W3.drew.alloc (.cells (madeCells #[.int .i64 0] n) 3)).alloc (.cells #[.slice none 0 0] 25)) (.cells Tryd.zeroCells79 79)).block _ (Array.getElem?_eq_some_iff.1 HE.out).1).trans HE.out)
          have HA : Hid (Ar (((W3.drew.alloc (.cells (madeCells #[.int .i64 0] n) 3)).alloc (.cells #[.slice none 0 0] 25)).alloc (.cells Tryd.zeroCells79 79)) (W3.heap.size + 2) 79 (fun _ => .int .i64 0)) := hide (arr19 ((W3.drew.alloc (.cells (madeCells #[.int .i64 0] n) 3)).alloc (.cells #[.slice none 0 0] 25)) (W3.heap.size + 2) (by simp))
          try simp only [Act.put, List.setIfInBounds_toArray, List.set_cons_zero, List.set_cons_succ]
          refine wpAnyH_ready (rs := [3]) (by kernel_rfl) (by simp) ?_
          refine AllReadyH.cons (o := { dst := some 16, op := Op.call { callee := Callee.value (Operand.func 49), args := #[], argTypes := #[] }, type := 79, pos := "moments.go:51", after := #[], guard := none }) rfl (fun K hK => ?_) AllReadyH.nil
          go_simp
          go_at_call 49
          refine (lNoneMet _).mono ?_
          rintro e w1 ⟨rfl, hb⟩
          replace HR := hide (HR.out.below hb)
          replace HA := hide (HA.out.below hb)
          replace HE := hide ((hb.block _ (Array.getElem?_eq_some_iff.1 HE.out).1).trans HE.out)
          have hb' := Below.trans hHeld (hb.mono hHeld.size)
          go_wp2_with fail
          refine hK.out _ _ (show Below W3.heap.size W3 w1 from hb') (fun hHeld => ?_)
          clear hK K hb'
          try simp only [Act.put, List.setIfInBounds_toArray, List.set_cons_zero, List.set_cons_succ]
          refine wpAnyH_ready (rs := [6]) (by kernel_rfl) (by simp) ?_
          refine AllReadyH.cons (o := { dst := none, op := Op.store 25 (Operand.tmp 4) (Operand.tmp 15), type := 0, pos := "moments.go:51", after := #[{ on := 4, ground := Ground.data }, { on := 2, ground := Ground.data }, { on := 3, ground := Ground.chain }, { on := 0, ground := Ground.phase }, { on := 1, ground := Ground.phase }, { on := 2, ground := Ground.phase }, { on := 3, ground := Ground.textOnly Departure.lateStoresUnsure }, { on := 4, ground := Ground.phase }, { on := 5, ground := Ground.phase }], guard := none }) rfl (fun K hK => ?_) AllReadyH.nil
          generalize w1 = V at *
          have hcE := cell_of_row _ _ 0 _ _ _ HE.out
          have hfE : (V).frozen? ⟨W3.heap.size + 1, 0, none⟩ = false := by simp [World.frozen?, HE.out]
          simp only [List.getElem?_toArray, List.getElem?_cons_zero] at hcE
          have hnE : W3.heap.size + 2 ≠ W3.heap.size + 1 := ar_box HA.out HE.out
          have hnR : W3.heap.size ≠ W3.heap.size + 1 := rk_box HR.out HE.out
          have hnA : W3.heap.size ≠ W3.heap.size + 2 := rk_ar HR.out HA.out
          have HA2 : Hid (Ar ((V).setCell ⟨W3.heap.size + 1, 0, none⟩ (.slice (some ⟨W3.heap.size, 0, none⟩) n n)) (W3.heap.size + 2) 79 (fun _ => .int .i64 0)) := hide (HA.out.of_block (Below.heap_setCell _ _ _ _ hnE))
          have HR2 : Hid (Rk ((V).setCell ⟨W3.heap.size + 1, 0, none⟩ (.slice (some ⟨W3.heap.size, 0, none⟩) n n)) (W3.heap.size) 3 n (fun _ => .int .i64 0)) := hide (HR.out.of_block (Below.heap_setCell _ _ _ _ hnR))
          have HE2 : Hid (((V).setCell ⟨W3.heap.size + 1, 0, none⟩ (.slice (some ⟨W3.heap.size, 0, none⟩) n n)).heap[W3.heap.size + 1]? = some (.cells #[.slice (some ⟨W3.heap.size, 0, none⟩) n n] 25 (0, 0))) := hide (box_set HE.out _)
          go_simp
          refine hK.out _ _ (show Below W3.heap.size W3 _ from (hHeld.setCell (p := ⟨W3.heap.size + 1, 0, none⟩) hEB _)) (fun hHeld => ?_)
          clear hK K
          refine wpAnyH_ready (rs := [7]) (by kernel_rfl) (by simp) ?_
          refine AllReadyH.cons (o := { dst := none, op := Op.store 79 (Operand.tmp 5) (Operand.tmp 16), type := 0, pos := "moments.go:51", after := #[{ on := 5, ground := Ground.data }, { on := 3, ground := Ground.data }, { on := 6, ground := Ground.chain }, { on := 0, ground := Ground.phase }, { on := 1, ground := Ground.phase }, { on := 2, ground := Ground.phase }, { on := 3, ground := Ground.phase }, { on := 4, ground := Ground.phase }, { on := 5, ground := Ground.phase }, { on := 6, ground := Ground.phase }], guard := none }) rfl (fun K hK => ?_) AllReadyH.nil
          rw [if_pos (by rfl)]
          refine wp_store_row _ _ _ rfl _ _ (by rfl) (by rfl) _ _ HA2.out (by rw [av_size]; exact infoL) (by rw [av_size, av_size]) (av_one fun _ => rfl) ?_
          refine hK.out _ _ (show Below W3.heap.size W3 _ from Below.row hHeld _ _ hAB) (fun hHeld => ?_)
          clear hK K
          refine wpAnyH_done (by kernel_rfl) ?_ _
          refine nq_normal ?_
          go_wp2_with fail
          go_meet
          case rel => exact ⟨W3.heap.size + 1, W3.heap.size, W3.heap.size + 2, rfl, rfl, hide ((setRow_other _ _ _ _ (fun e => hnE e.symm)).trans HE2.out), hide (HR2.out.of_block (setRow_other _ _ _ _ hnA)), hide (setRow_heap _ _ _ _ _ _ HA2.out), hEB, hRB, hAB, hide hHeld⟩
      . go_simp
        have hAB : W3.heap.size <= W3.heap.size + 1 := Nat.le_trans hHeld.size (Nat.le_of_eq (by first | rfl | simp))
        refine hK.out _ _ (show Below W3.heap.size W3 _ from (hHeld.alloc hHeld.size (.cells Tryd.zeroCells79 79))) (fun hHeld => ?_)
        clear hK K
        replace HR := hide (HR.out.below (bnew (W3.drew.alloc (.cells (madeCells #[.int .i64 0] n) 3)) (.cells Tryd.zeroCells79 79)))
        have HA : Hid (Ar ((W3.drew.alloc (.cells (madeCells #[.int .i64 0] n) 3)).alloc (.cells Tryd.zeroCells79 79)) (W3.heap.size + 1) 79 (fun _ => .int .i64 0)) := hide (arr19 (W3.drew.alloc (.cells (madeCells #[.int .i64 0] n) 3)) (W3.heap.size + 1) (by simp))
        try simp only [Act.put, List.setIfInBounds_toArray, List.set_cons_zero, List.set_cons_succ]
        refine wpAnyH_ready (rs := [3, 4]) (by kernel_rfl) (by simp) ?_
        refine AllReadyH.cons (o := { dst := some 16, op := Op.call { callee := Callee.value (Operand.func 49), args := #[], argTypes := #[] }, type := 79, pos := "moments.go:51", after := #[], guard := none }) rfl (fun K hK => ?_) (AllReadyH.cons (o := { dst := some 4, op := Op.alloc 25, type := 0, pos := "moments.go:51", after := #[], guard := none }) rfl (fun K hK => ?_) AllReadyH.nil)
        . go_simp
          go_at_call 49
          refine (lNoneMet _).mono ?_
          rintro e w1 ⟨rfl, hb⟩
          replace HR := hide (HR.out.below hb)
          replace HA := hide (HA.out.below hb)
          have hb' := Below.trans hHeld (hb.mono hHeld.size)
          go_wp2_with fail
          refine hK.out _ _ (show Below W3.heap.size W3 w1 from hb') (fun hHeld => ?_)
          clear hK K hb'
          try simp only [Act.put, List.setIfInBounds_toArray, List.set_cons_zero, List.set_cons_succ]
          refine wpAnyH_ready (rs := [4]) (by kernel_rfl) (by simp) ?_
          refine AllReadyH.cons (o := { dst := some 4, op := Op.alloc 25, type := 0, pos := "moments.go:51", after := #[], guard := none }) rfl (fun K hK => ?_) AllReadyH.nil
          go_simp
          have hEB : W3.heap.size <= w1.heap.size := Nat.le_trans hHeld.size (Nat.le_of_eq (by first | rfl | simp))
          refine hK.out _ _ (show Below W3.heap.size W3 _ from (hHeld.alloc hHeld.size (.cells #[.slice none 0 0] 25))) (fun hHeld => ?_)
          clear hK K
          replace HR := hide (HR.out.below (bnew w1 (.cells #[.slice none 0 0] 25)))
          replace HA := hide (HA.out.below (bnew w1 (.cells #[.slice none 0 0] 25)))
          have HE : Hid ((w1.alloc (.cells #[.slice none 0 0] 25)).heap[w1.heap.size]? = some (.cells #[.slice none 0 0] 25 (0, 0))) := hide (box19 w1 _ (w1.heap.size) (by simp))
          try simp only [Act.put, List.setIfInBounds_toArray, List.set_cons_zero, List.set_cons_succ]
          refine wpAnyH_ready (rs := [6]) (by kernel_rfl) (by simp) ?_
          refine AllReadyH.cons (o := { dst := none, op := Op.store 25 (Operand.tmp 4) (Operand.tmp 15), type := 0, pos := "moments.go:51", after := #[{ on := 4, ground := Ground.data }, { on := 2, ground := Ground.data }, { on := 3, ground := Ground.chain }, { on := 0, ground := Ground.phase }, { on := 1, ground := Ground.phase }, { on := 2, ground := Ground.phase }, { on := 3, ground := Ground.textOnly Departure.lateStoresUnsure }, { on := 4, ground := Ground.phase }, { on := 5, ground := Ground.phase }], guard := none }) rfl (fun K hK => ?_) AllReadyH.nil
          generalize (w1.alloc (.cells #[.slice none 0 0] 25)) = V at *
          have hcE := cell_of_row _ _ 0 _ _ _ HE.out
          have hfE : (V).frozen? ⟨w1.heap.size, 0, none⟩ = false := by simp [World.frozen?, HE.out]
          simp only [List.getElem?_toArray, List.getElem?_cons_zero] at hcE
          have hnE : W3.heap.size + 1 ≠ w1.heap.size := ar_box HA.out HE.out
          have hnR : W3.heap.size ≠ w1.heap.size := rk_box HR.out HE.out
          have hnA : W3.heap.size ≠ W3.heap.size + 1 := rk_ar HR.out HA.out
          have HA2 : Hid (Ar ((V).setCell ⟨w1.heap.size, 0, none⟩ (.slice (some ⟨W3.heap.size, 0, none⟩) n n)) (W3.heap.size + 1) 79 (fun _ => .int .i64 0)) := hide (HA.out.of_block (Below.heap_setCell _ _ _ _ hnE))
          have HR2 : Hid (Rk ((V).setCell ⟨w1.heap.size, 0, none⟩ (.slice (some ⟨W3.heap.size, 0, none⟩) n n)) (W3.heap.size) 3 n (fun _ => .int .i64 0)) := hide (HR.out.of_block (Below.heap_setCell _ _ _ _ hnR))
          have HE2 : Hid (((V).setCell ⟨w1.heap.size, 0, none⟩ (.slice (some ⟨W3.heap.size, 0, none⟩) n n)).heap[w1.heap.size]? = some (.cells #[.slice (some ⟨W3.heap.size, 0, none⟩) n n] 25 (0, 0))) := hide (box_set HE.out _)
          go_simp
          refine hK.out _ _ (show Below W3.heap.size W3 _ from (hHeld.setCell (p := ⟨w1.heap.size, 0, none⟩) hEB _)) (fun hHeld => ?_)
          clear hK K
          refine wpAnyH_ready (rs := [7]) (by kernel_rfl) (by simp) ?_
          refine AllReadyH.cons (o := { dst := none, op := Op.store 79 (Operand.tmp 5) (Operand.tmp 16), type := 0, pos := "moments.go:51", after := #[{ on := 5, ground := Ground.data }, { on := 3, ground := Ground.data }, { on := 6, ground := Ground.chain }, { on := 0, ground := Ground.phase }, { on := 1, ground := Ground.phase }, { on := 2, ground := Ground.phase }, { on := 3, ground := Ground.phase }, { on := 4, ground := Ground.phase }, { on := 5, ground := Ground.phase }, { on := 6, ground := Ground.phase }], guard := none }) rfl (fun K hK => ?_) AllReadyH.nil
          rw [if_pos (by rfl)]
          refine wp_store_row _ _ _ rfl _ _ (by rfl) (by rfl) _ _ HA2.out (by rw [av_size]; exact infoL) (by rw [av_size, av_size]) (av_one fun _ => rfl) ?_
          refine hK.out _ _ (show Below W3.heap.size W3 _ from Below.row hHeld _ _ hAB) (fun hHeld => ?_)
          clear hK K
          refine wpAnyH_done (by kernel_rfl) ?_ _
          refine nq_normal ?_
          go_wp2_with fail
          go_meet
          case rel => exact ⟨w1.heap.size, W3.heap.size, W3.heap.size + 1, rfl, rfl, hide ((setRow_other _ _ _ _ (fun e => hnE e.symm)).trans HE2.out), hide (HR2.out.of_block (setRow_other _ _ _ _ hnA)), hide (setRow_heap _ _ _ _ _ _ HA2.out), hEB, hRB, hAB, hide hHeld⟩
        . go_simp
          have hEB : W3.heap.size <= W3.heap.size + 2 := Nat.le_trans hHeld.size (Nat.le_of_eq (by first | rfl | simp))
          refine hK.out _ _ (show Below W3.heap.size W3 _ from (hHeld.alloc hHeld.size (.cells #[.slice none 0 0] 25))) (fun hHeld => ?_)
          clear hK K
          replace HR := hide (HR.out.below (bnew ((W3.drew.alloc (.cells (madeCells #[.int .i64 0] n) 3)).alloc (.cells Tryd.zeroCells79 79)) (.cells #[.slice none 0 0] 25)))
          replace HA := hide (HA.out.below (bnew ((W3.drew.alloc (.cells (madeCells #[.int .i64 0] n) 3)).alloc (.cells Tryd.zeroCells79 79)) (.cells #[.slice none 0 0] 25)))
          have HE : Hid ((((W3.drew.alloc (.cells (madeCells #[.int .i64 0] n) 3)).alloc (.cells Tryd.zeroCells79 79)).alloc (.cells #[.slice none 0 0] 25)).heap[W3.heap.size + 2]? = some (.cells #[.slice none 0 0] 25 (0, 0))) := hide (box19 ((W3.drew.alloc (.cells (madeCells #[.int .i64 0] n) 3)).alloc (.cells Tryd.zeroCells79 79)) _ (W3.heap.size + 2) (by simp))
          try simp only [Act.put, List.setIfInBounds_toArray, List.set_cons_zero, List.set_cons_succ]
          refine wpAnyH_ready (rs := [3]) (by kernel_rfl) (by simp) ?_
          refine AllReadyH.cons (o := { dst := some 16, op := Op.call { callee := Callee.value (Operand.func 49), args := #[], argTypes := #[] }, type := 79, pos := "moments.go:51", after := #[], guard := none }) rfl (fun K hK => ?_) AllReadyH.nil
          go_simp
          go_at_call 49
          refine (lNoneMet _).mono ?_
          rintro e w1 ⟨rfl, hb⟩
          replace HR := hide (HR.out.below hb)
          replace HA := hide (HA.out.below hb)
          replace HE := hide ((hb.block _ (Array.getElem?_eq_some_iff.1 HE.out).1).trans HE.out)
          have hb' := Below.trans hHeld (hb.mono hHeld.size)
          go_wp2_with fail
          refine hK.out _ _ (show Below W3.heap.size W3 w1 from hb') (fun hHeld => ?_)
          clear hK K hb'
          try simp only [Act.put, List.setIfInBounds_toArray, List.set_cons_zero, List.set_cons_succ]
          refine wpAnyH_ready (rs := [6]) (by kernel_rfl) (by simp) ?_
          refine AllReadyH.cons (o := { dst := none, op := Op.store 25 (Operand.tmp 4) (Operand.tmp 15), type := 0, pos := "moments.go:51", after := #[{ on := 4, ground := Ground.data }, { on := 2, ground := Ground.data }, { on := 3, ground := Ground.chain }, { on := 0, ground := Ground.phase }, { on := 1, ground := Ground.phase }, { on := 2, ground := Ground.phase }, { on := 3, ground := Ground.textOnly Departure.lateStoresUnsure }, { on := 4, ground := Ground.phase }, { on := 5, ground := Ground.phase }], guard := none }) rfl (fun K hK => ?_) AllReadyH.nil
          generalize w1 = V at *
          have hcE := cell_of_row _ _ 0 _ _ _ HE.out
          have hfE : (V).frozen? ⟨W3.heap.size + 2, 0, none⟩ = false := by simp [World.frozen?, HE.out]
          simp only [List.getElem?_toArray, List.getElem?_cons_zero] at hcE
          have hnE : W3.heap.size + 1 ≠ W3.heap.size + 2 := ar_box HA.out HE.out
          have hnR : W3.heap.size ≠ W3.heap.size + 2 := rk_box HR.out HE.out
          have hnA : W3.heap.size ≠ W3.heap.size + 1 := rk_ar HR.out HA.out
          have HA2 : Hid (Ar ((V).setCell ⟨W3.heap.size + 2, 0, none⟩ (.slice (some ⟨W3.heap.size, 0, none⟩) n n)) (W3.heap.size + 1) 79 (fun _ => .int .i64 0)) := hide (HA.out.of_block (Below.heap_setCell _ _ _ _ hnE))
          have HR2 : Hid (Rk ((V).setCell ⟨W3.heap.size + 2, 0, none⟩ (.slice (some ⟨W3.heap.size, 0, none⟩) n n)) (W3.heap.size) 3 n (fun _ => .int .i64 0)) := hide (HR.out.of_block (Below.heap_setCell _ _ _ _ hnR))
          have HE2 : Hid (((V).setCell ⟨W3.heap.size + 2, 0, none⟩ (.slice (some ⟨W3.heap.size, 0, none⟩) n n)).heap[W3.heap.size + 2]? = some (.cells #[.slice (some ⟨W3.heap.size, 0, none⟩) n n] 25 (0, 0))) := hide (box_set HE.out _)
          go_simp
          refine hK.out _ _ (show Below W3.heap.size W3 _ from (hHeld.setCell (p := ⟨W3.heap.size + 2, 0, none⟩) hEB _)) (fun hHeld => ?_)
          clear hK K
          refine wpAnyH_ready (rs := [7]) (by kernel_rfl) (by simp) ?_
          refine AllReadyH.cons (o := { dst := none, op := Op.store 79 (Operand.tmp 5) (Operand.tmp 16), type := 0, pos := "moments.go:51", after := #[{ on := 5, ground := Ground.data }, { on := 3, ground := Ground.data }, { on := 6, ground := Ground.chain }, { on := 0, ground := Ground.phase }, { on := 1, ground := Ground.phase }, { on := 2, ground := Ground.phase }, { on := 3, ground := Ground.phase }, { on := 4, ground := Ground.phase }, { on := 5, ground := Ground.phase }, { on := 6, ground := Ground.phase }], guard := none }) rfl (fun K hK => ?_) AllReadyH.nil
          rw [if_pos (by rfl)]
          refine wp_store_row _ _ _ rfl _ _ (by rfl) (by rfl) _ _ HA2.out (by rw [av_size]; exact infoL) (by rw [av_size, av_size]) (av_one fun _ => rfl) ?_
          refine hK.out _ _ (show Below W3.heap.size W3 _ from Below.row hHeld _ _ hAB) (fun hHeld => ?_)
          clear hK K
          refine wpAnyH_done (by kernel_rfl) ?_ _
          refine nq_normal ?_
          go_wp2_with fail
          go_meet
          case rel => exact ⟨W3.heap.size + 2, W3.heap.size, W3.heap.size + 1, rfl, rfl, hide ((setRow_other _ _ _ _ (fun e => hnE e.symm)).trans HE2.out), hide (HR2.out.of_block (setRow_other _ _ _ _ hnA)), hide (setRow_heap _ _ _ _ _ _ HA2.out), hEB, hRB, hAB, hide hHeld⟩
    . go_simp
      go_at_call 49
      refine (lNoneMet _).mono ?_
      rintro e w1 ⟨rfl, hb⟩
      have hb' := Below.trans hHeld (hb.mono hHeld.size)
      go_wp2_with fail
      refine hK.out _ _ (show Below W3.heap.size W3 w1 from hb') (fun hHeld => ?_)
      clear hK K hb'
      try simp only [Act.put, List.setIfInBounds_toArray, List.set_cons_zero, List.set_cons_succ]
      refine wpAnyH_ready (rs := [2, 4, 5]) (by kernel_rfl) (by simp) ?_
      refine AllReadyH.cons (o := { dst := some 15, op := Op.makeSlice 25 (Operand.tmp 14) (Operand.tmp 14), type := 25, pos := "moments.go:51", after := #[{ on := 1, ground := Ground.data }, { on := 1, ground := Ground.data }], guard := none }) rfl (fun K hK => ?_) (AllReadyH.cons (o := { dst := some 4, op := Op.alloc 25, type := 0, pos := "moments.go:51", after := #[], guard := none }) rfl (fun K hK => ?_) (AllReadyH.cons (o := { dst := some 5, op := Op.alloc 79, type := 0, pos := "moments.go:51", after := #[], guard := none }) rfl (fun K hK => ?_) AllReadyH.nil))
      . go_simp
        have hRB : W3.heap.size <= w1.heap.size := Nat.le_trans hHeld.size (Nat.le_of_eq (by first | rfl | simp))
        refine hK.out _ _ (show Below W3.heap.size W3 _ from (hHeld.alloc hHeld.size (.cells (madeCells #[.int .i64 0] n) 3))) (fun hHeld => ?_)
        clear hK K
        have HR : Hid (Rk (w1.alloc (.cells (madeCells #[.int .i64 0] n) 3)) (w1.heap.size) 3 n (fun _ => .int .i64 0)) := hide (made19 w1 n (w1.heap.size) (by simp))
        try simp only [Act.put, List.setIfInBounds_toArray, List.set_cons_zero, List.set_cons_succ]
        refine wpAnyH_ready (rs := [4, 5]) (by kernel_rfl) (by simp) ?_
        refine AllReadyH.cons (o := { dst := some 4, op := Op.alloc 25, type := 0, pos := "moments.go:51", after := #[], guard := none }) rfl (fun K hK => ?_) (AllReadyH.cons (o := { dst := some 5, op := Op.alloc 79, type := 0, pos := "moments.go:51", after := #[], guard := none }) rfl (fun K hK => ?_) AllReadyH.nil)
        . go_simp
          have hEB : W3.heap.size <= w1.heap.size + 1 := Nat.le_trans hHeld.size (Nat.le_of_eq (by first | rfl | simp))
          refine hK.out _ _ (show Below W3.heap.size W3 _ from (hHeld.alloc hHeld.size (.cells #[.slice none 0 0] 25))) (fun hHeld => ?_)
          clear hK K
          replace HR := hide (HR.out.below (bnew (w1.alloc (.cells (madeCells #[.int .i64 0] n) 3)) (.cells #[.slice none 0 0] 25)))
          have HE : Hid (((w1.alloc (.cells (madeCells #[.int .i64 0] n) 3)).alloc (.cells #[.slice none 0 0] 25)).heap[w1.heap.size + 1]? = some (.cells #[.slice none 0 0] 25 (0, 0))) := hide (box19 (w1.alloc (.cells (madeCells #[.int .i64 0] n) 3)) _ (w1.heap.size + 1) (by simp))
          try simp only [Act.put, List.setIfInBounds_toArray, List.set_cons_zero, List.set_cons_succ]
          refine wpAnyH_ready (rs := [5]) (by kernel_rfl) (by simp) ?_
          refine AllReadyH.cons (o := { dst := some 5, op := Op.alloc 79, type := 0, pos := "moments.go:51", after := #[], guard := none }) rfl (fun K hK => ?_) AllReadyH.nil
          go_simp
          have hAB : W3.heap.size <= w1.heap.size + 2 := Nat.le_trans hHeld.size (Nat.le_of_eq (by first | rfl | simp))
          refine hK.out _ _ (show Below W3.heap.size W3 _ from (hHeld.alloc hHeld.size (.cells Tryd.zeroCells79 79))) (fun hHeld => ?_)
          clear hK K
          replace HR := hide (HR.out.below (bnew ((w1.alloc (.cells (madeCells #[.int .i64 0] n) 3)).alloc (.cells #[.slice none 0 0] 25)) (.cells Tryd.zeroCells79 79)))
          replace HE := hide (((bnew ((w1.alloc (.cells (madeCells #[.int .i64 0] n) 3)).alloc (.cells #[.slice none 0 0] 25)) (.cells Tryd.zeroCells79 79)).block _ (Array.getElem?_eq_some_iff.1 HE.out).1).trans HE.out)
          have HA : Hid (Ar (((w1.alloc (.cells (madeCells #[.int .i64 0] n) 3)).alloc (.cells #[.slice none 0 0] 25)).alloc (.cells Tryd.zeroCells79 79)) (w1.heap.size + 2) 79 (fun _ => .int .i64 0)) := hide (arr19 ((w1.alloc (.cells (madeCells #[.int .i64 0] n) 3)).alloc (.cells #[.slice none 0 0] 25)) (w1.heap.size + 2) (by simp))
          try simp only [Act.put, List.setIfInBounds_toArray, List.set_cons_zero, List.set_cons_succ]
          refine wpAnyH_ready (rs := [6]) (by kernel_rfl) (by simp) ?_
          refine AllReadyH.cons (o := { dst := none, op := Op.store 25 (Operand.tmp 4) (Operand.tmp 15), type := 0, pos := "moments.go:51", after := #[{ on := 4, ground := Ground.data }, { on := 2, ground := Ground.data }, { on := 3, ground := Ground.chain }, { on := 0, ground := Ground.phase }, { on := 1, ground := Ground.phase }, { on := 2, ground := Ground.phase }, { on := 3, ground := Ground.textOnly Departure.lateStoresUnsure }, { on := 4, ground := Ground.phase }, { on := 5, ground := Ground.phase }], guard := none }) rfl (fun K hK => ?_) AllReadyH.nil
          generalize (((w1.alloc (.cells (madeCells #[.int .i64 0] n) 3)).alloc (.cells #[.slice none 0 0] 25)).alloc (.cells Tryd.zeroCells79 79)) = V at *
          have hcE := cell_of_row _ _ 0 _ _ _ HE.out
          have hfE : (V).frozen? ⟨w1.heap.size + 1, 0, none⟩ = false := by simp [World.frozen?, HE.out]
          simp only [List.getElem?_toArray, List.getElem?_cons_zero] at hcE
          have hnE : w1.heap.size + 2 ≠ w1.heap.size + 1 := ar_box HA.out HE.out
          have hnR : w1.heap.size ≠ w1.heap.size + 1 := rk_box HR.out HE.out
          have hnA : w1.heap.size ≠ w1.heap.size + 2 := rk_ar HR.out HA.out
          have HA2 : Hid (Ar ((V).setCell ⟨w1.heap.size + 1, 0, none⟩ (.slice (some ⟨w1.heap.size, 0, none⟩) n n)) (w1.heap.size + 2) 79 (fun _ => .int .i64 0)) := hide (HA.out.of_block (Below.heap_setCell _ _ _ _ hnE))
          have HR2 : Hid (Rk ((V).setCell ⟨w1.heap.size + 1, 0, none⟩ (.slice (some ⟨w1.heap.size, 0, none⟩) n n)) (w1.heap.size) 3 n (fun _ => .int .i64 0)) := hide (HR.out.of_block (Below.heap_setCell _ _ _ _ hnR))
          have HE2 : Hid (((V).setCell ⟨w1.heap.size + 1, 0, none⟩ (.slice (some ⟨w1.heap.size, 0, none⟩) n n)).heap[w1.heap.size + 1]? = some (.cells #[.slice (some ⟨w1.heap.size, 0, none⟩) n n] 25 (0, 0))) := hide (box_set HE.out _)
          go_simp
          refine hK.out _ _ (show Below W3.heap.size W3 _ from (hHeld.setCell (p := ⟨w1.heap.size + 1, 0, none⟩) hEB _)) (fun hHeld => ?_)
          clear hK K
          refine wpAnyH_ready (rs := [7]) (by kernel_rfl) (by simp) ?_
          refine AllReadyH.cons (o := { dst := none, op := Op.store 79 (Operand.tmp 5) (Operand.tmp 16), type := 0, pos := "moments.go:51", after := #[{ on := 5, ground := Ground.data }, { on := 3, ground := Ground.data }, { on := 6, ground := Ground.chain }, { on := 0, ground := Ground.phase }, { on := 1, ground := Ground.phase }, { on := 2, ground := Ground.phase }, { on := 3, ground := Ground.phase }, { on := 4, ground := Ground.phase }, { on := 5, ground := Ground.phase }, { on := 6, ground := Ground.phase }], guard := none }) rfl (fun K hK => ?_) AllReadyH.nil
          rw [if_pos (by rfl)]
          refine wp_store_row _ _ _ rfl _ _ (by rfl) (by rfl) _ _ HA2.out (by rw [av_size]; exact infoL) (by rw [av_size, av_size]) (av_one fun _ => rfl) ?_
          refine hK.out _ _ (show Below W3.heap.size W3 _ from Below.row hHeld _ _ hAB) (fun hHeld => ?_)
          clear hK K
          refine wpAnyH_done (by kernel_rfl) ?_ _
          refine nq_normal ?_
          go_wp2_with fail
          go_meet
          case rel => exact ⟨w1.heap.size + 1, w1.heap.size, w1.heap.size + 2, rfl, rfl, hide ((setRow_other _ _ _ _ (fun e => hnE e.symm)).trans HE2.out), hide (HR2.out.of_block (setRow_other _ _ _ _ hnA)), hide (setRow_heap _ _ _ _ _ _ HA2.out), hEB, hRB, hAB, hide hHeld⟩
        . go_simp
          have hAB : W3.heap.size <= w1.heap.size + 1 := Nat.le_trans hHeld.size (Nat.le_of_eq (by first | rfl | simp))
          refine hK.out _ _ (show Below W3.heap.size W3 _ from (hHeld.alloc hHeld.size (.cells Tryd.zeroCells79 79))) (fun hHeld => ?_)
          clear hK K
          replace HR := hide (HR.out.below (bnew (w1.alloc (.cells (madeCells #[.int .i64 0] n) 3)) (.cells Tryd.zeroCells79 79)))
          have HA : Hid (Ar ((w1.alloc (.cells (madeCells #[.int .i64 0] n) 3)).alloc (.cells Tryd.zeroCells79 79)) (w1.heap.size + 1) 79 (fun _ => .int .i64 0)) := hide (arr19 (w1.alloc (.cells (madeCells #[.int .i64 0] n) 3)) (w1.heap.size + 1) (by simp))
          try simp only [Act.put, List.setIfInBounds_toArray, List.set_cons_zero, List.set_cons_succ]
          refine wpAnyH_ready (rs := [4]) (by kernel_rfl) (by simp) ?_
          refine AllReadyH.cons (o := { dst := some 4, op := Op.alloc 25, type := 0, pos := "moments.go:51", after := #[], guard := none }) rfl (fun K hK => ?_) AllReadyH.nil
          go_simp
          have hEB : W3.heap.size <= w1.heap.size + 2 := Nat.le_trans hHeld.size (Nat.le_of_eq (by first | rfl | simp))
          refine hK.out _ _ (show Below W3.heap.size W3 _ from (hHeld.alloc hHeld.size (.cells #[.slice none 0 0] 25))) (fun hHeld => ?_)
          clear hK K
          replace HR := hide (HR.out.below (bnew ((w1.alloc (.cells (madeCells #[.int .i64 0] n) 3)).alloc (.cells Tryd.zeroCells79 79)) (.cells #[.slice none 0 0] 25)))
          replace HA := hide (HA.out.below (bnew ((w1.alloc (.cells (madeCells #[.int .i64 0] n) 3)).alloc (.cells Tryd.zeroCells79 79)) (.cells #[.slice none 0 0] 25)))
          have HE : Hid ((((w1.alloc (.cells (madeCells #[.int .i64 0] n) 3)).alloc (.cells Tryd.zeroCells79 79)).alloc (.cells #[.slice none 0 0] 25)).heap[w1.heap.size + 2]? = some (.cells #[.slice none 0 0] 25 (0, 0))) := hide (box19 ((w1.alloc (.cells (madeCells #[.int .i64 0] n) 3)).alloc (.cells Tryd.zeroCells79 79)) _ (w1.heap.size + 2) (by simp))
          try simp only [Act.put, List.setIfInBounds_toArray, List.set_cons_zero, List.set_cons_succ]
          refine wpAnyH_ready (rs := [6]) (by kernel_rfl) (by simp) ?_
          refine AllReadyH.cons (o := { dst := none, op := Op.store 25 (Operand.tmp 4) (Operand.tmp 15), type := 0, pos := "moments.go:51", after := #[{ on := 4, ground := Ground.data }, { on := 2, ground := Ground.data }, { on := 3, ground := Ground.chain }, { on := 0, ground := Ground.phase }, { on := 1, ground := Ground.phase }, { on := 2, ground := Ground.phase }, { on := 3, ground := Ground.textOnly Departure.lateStoresUnsure }, { on := 4, ground := Ground.phase }, { on := 5, ground := Ground.phase }], guard := none }) rfl (fun K hK => ?_) AllReadyH.nil
          generalize (((w1.alloc (.cells (madeCells #[.int .i64 0] n) 3)).alloc (.cells Tryd.zeroCells79 79)).alloc (.cells #[.slice none 0 0] 25)) = V at *
          have hcE := cell_of_row _ _ 0 _ _ _ HE.out
          have hfE : (V).frozen? ⟨w1.heap.size + 2, 0, none⟩ = false := by simp [World.frozen?, HE.out]
          simp only [List.getElem?_toArray, List.getElem?_cons_zero] at hcE
          have hnE : w1.heap.size + 1 ≠ w1.heap.size + 2 := ar_box HA.out HE.out
          have hnR : w1.heap.size ≠ w1.heap.size + 2 := rk_box HR.out HE.out
          have hnA : w1.heap.size ≠ w1.heap.size + 1 := rk_ar HR.out HA.out
          have HA2 : Hid (Ar ((V).setCell ⟨w1.heap.size + 2, 0, none⟩ (.slice (some ⟨w1.heap.size, 0, none⟩) n n)) (w1.heap.size + 1) 79 (fun _ => .int .i64 0)) := hide (HA.out.of_block (Below.heap_setCell _ _ _ _ hnE))
          have HR2 : Hid (Rk ((V).setCell ⟨w1.heap.size + 2, 0, none⟩ (.slice (some ⟨w1.heap.size, 0, none⟩) n n)) (w1.heap.size) 3 n (fun _ => .int .i64 0)) := hide (HR.out.of_block (Below.heap_setCell _ _ _ _ hnR))
          have HE2 : Hid (((V).setCell ⟨w1.heap.size + 2, 0, none⟩ (.slice (some ⟨w1.heap.size, 0, none⟩) n n)).heap[w1.heap.size + 2]? = some (.cells #[.slice (some ⟨w1.heap.size, 0, none⟩) n n] 25 (0, 0))) := hide (box_set HE.out _)
          go_simp
          refine hK.out _ _ (show Below W3.heap.size W3 _ from (hHeld.setCell (p := ⟨w1.heap.size + 2, 0, none⟩) hEB _)) (fun hHeld => ?_)
          clear hK K
          refine wpAnyH_ready (rs := [7]) (by kernel_rfl) (by simp) ?_
          refine AllReadyH.cons (o := { dst := none, op := Op.store 79 (Operand.tmp 5) (Operand.tmp 16), type := 0, pos := "moments.go:51", after := #[{ on := 5, ground := Ground.data }, { on := 3, ground := Ground.data }, { on := 6, ground := Ground.chain }, { on := 0, ground := Ground.phase }, { on := 1, ground := Ground.phase }, { on := 2, ground := Ground.phase }, { on := 3, ground := Ground.phase }, { on := 4, ground := Ground.phase }, { on := 5, ground := Ground.phase }, { on := 6, ground := Ground.phase }], guard := none }) rfl (fun K hK => ?_) AllReadyH.nil
          rw [if_pos (by rfl)]
          refine wp_store_row _ _ _ rfl _ _ (by rfl) (by rfl) _ _ HA2.out (by rw [av_size]; exact infoL) (by rw [av_size, av_size]) (av_one fun _ => rfl) ?_
          refine hK.out _ _ (show Below W3.heap.size W3 _ from Below.row hHeld _ _ hAB) (fun hHeld => ?_)
          clear hK K
          refine wpAnyH_done (by kernel_rfl) ?_ _
          refine nq_normal ?_
          go_wp2_with fail
          go_meet
          case rel => exact ⟨w1.heap.size + 2, w1.heap.size, w1.heap.size + 1, rfl, rfl, hide ((setRow_other _ _ _ _ (fun e => hnE e.symm)).trans HE2.out), hide (HR2.out.of_block (setRow_other _ _ _ _ hnA)), hide (setRow_heap _ _ _ _ _ _ HA2.out), hEB, hRB, hAB, hide hHeld⟩
      . go_simp
        have hEB : W3.heap.size <= w1.heap.size := Nat.le_trans hHeld.size (Nat.le_of_eq (by first | rfl | simp))
        refine hK.out _ _ (show Below W3.heap.size W3 _ from (hHeld.alloc hHeld.size (.cells #[.slice none 0 0] 25))) (fun hHeld => ?_)
        clear hK K
        have HE : Hid ((w1.alloc (.cells #[.slice none 0 0] 25)).heap[w1.heap.size]? = some (.cells #[.slice none 0 0] 25 (0, 0))) := hide (box19 w1 _ (w1.heap.size) (by simp))
        try simp only [Act.put, List.setIfInBounds_toArray, List.set_cons_zero, List.set_cons_succ]
        refine wpAnyH_ready (rs := [2, 5]) (by kernel_rfl) (by simp) ?_
        refine AllReadyH.cons (o := { dst := some 15, op := Op.makeSlice 25 (Operand.tmp 14) (Operand.tmp 14), type := 25, pos := "moments.go:51", after := #[{ on := 1, ground := Ground.data }, { on := 1, ground := Ground.data }], guard := none }) rfl (fun K hK => ?_) (AllReadyH.cons (o := { dst := some 5, op := Op.alloc 79, type := 0, pos := "moments.go:51", after := #[], guard := none }) rfl (fun K hK => ?_) AllReadyH.nil)
        . go_simp
          have hRB : W3.heap.size <= w1.heap.size + 1 := Nat.le_trans hHeld.size (Nat.le_of_eq (by first | rfl | simp))
          refine hK.out _ _ (show Below W3.heap.size W3 _ from (hHeld.alloc hHeld.size (.cells (madeCells #[.int .i64 0] n) 3))) (fun hHeld => ?_)
          clear hK K
          replace HE := hide (((bnew (w1.alloc (.cells #[.slice none 0 0] 25)) (.cells (madeCells #[.int .i64 0] n) 3)).block _ (Array.getElem?_eq_some_iff.1 HE.out).1).trans HE.out)
          have HR : Hid (Rk ((w1.alloc (.cells #[.slice none 0 0] 25)).alloc (.cells (madeCells #[.int .i64 0] n) 3)) (w1.heap.size + 1) 3 n (fun _ => .int .i64 0)) := hide (made19 (w1.alloc (.cells #[.slice none 0 0] 25)) n (w1.heap.size + 1) (by simp))
          try simp only [Act.put, List.setIfInBounds_toArray, List.set_cons_zero, List.set_cons_succ]
          refine wpAnyH_ready (rs := [5]) (by kernel_rfl) (by simp) ?_
          refine AllReadyH.cons (o := { dst := some 5, op := Op.alloc 79, type := 0, pos := "moments.go:51", after := #[], guard := none }) rfl (fun K hK => ?_) AllReadyH.nil
          go_simp
          have hAB : W3.heap.size <= w1.heap.size + 2 := Nat.le_trans hHeld.size (Nat.le_of_eq (by first | rfl | simp))
          refine hK.out _ _ (show Below W3.heap.size W3 _ from (hHeld.alloc hHeld.size (.cells Tryd.zeroCells79 79))) (fun hHeld => ?_)
          clear hK K
          replace HR := hide (HR.out.below (bnew ((w1.alloc (.cells #[.slice none 0 0] 25)).alloc (.cells (madeCells #[.int .i64 0] n) 3)) (.cells Tryd.zeroCells79 79)))
          replace HE := hide (((bnew ((w1.alloc (.cells #[.slice none 0 0] 25)).alloc (.cells (madeCells #[.int .i64 0] n) 3)) (.cells Tryd.zeroCells79 79)).block _ (Array.getElem?_eq_some_iff.1 HE.out).1).trans HE.out)
          have HA : Hid (Ar (((w1.alloc (.cells #[.slice none 0 0] 25)).alloc (.cells (madeCells #[.int .i64 0] n) 3)).alloc (.cells Tryd.zeroCells79 79)) (w1.heap.size + 2) 79 (fun _ => .int .i64 0)) := hide (arr19 ((w1.alloc (.cells #[.slice none 0 0] 25)).alloc (.cells (madeCells #[.int .i64 0] n) 3)) (w1.heap.size + 2) (by simp))
          try simp only [Act.put, List.setIfInBounds_toArray, List.set_cons_zero, List.set_cons_succ]
          refine wpAnyH_ready (rs := [6]) (by kernel_rfl) (by simp) ?_
          refine AllReadyH.cons (o := { dst := none, op := Op.store 25 (Operand.tmp 4) (Operand.tmp 15), type := 0, pos := "moments.go:51", after := #[{ on := 4, ground := Ground.data }, { on := 2, ground := Ground.data }, { on := 3, ground := Ground.chain }, { on := 0, ground := Ground.phase }, { on := 1, ground := Ground.phase }, { on := 2, ground := Ground.phase }, { on := 3, ground := Ground.textOnly Departure.lateStoresUnsure }, { on := 4, ground := Ground.phase }, { on := 5, ground := Ground.phase }], guard := none }) rfl (fun K hK => ?_) AllReadyH.nil
          generalize (((w1.alloc (.cells #[.slice none 0 0] 25)).alloc (.cells (madeCells #[.int .i64 0] n) 3)).alloc (.cells Tryd.zeroCells79 79)) = V at *
          have hcE := cell_of_row _ _ 0 _ _ _ HE.out
          have hfE : (V).frozen? ⟨w1.heap.size, 0, none⟩ = false := by simp [World.frozen?, HE.out]
          simp only [List.getElem?_toArray, List.getElem?_cons_zero] at hcE
          have hnE : w1.heap.size + 2 ≠ w1.heap.size := ar_box HA.out HE.out
          have hnR : w1.heap.size + 1 ≠ w1.heap.size := rk_box HR.out HE.out
          have hnA : w1.heap.size + 1 ≠ w1.heap.size + 2 := rk_ar HR.out HA.out
          have HA2 : Hid (Ar ((V).setCell ⟨w1.heap.size, 0, none⟩ (.slice (some ⟨w1.heap.size + 1, 0, none⟩) n n)) (w1.heap.size + 2) 79 (fun _ => .int .i64 0)) := hide (HA.out.of_block (Below.heap_setCell _ _ _ _ hnE))
          have HR2 : Hid (Rk ((V).setCell ⟨w1.heap.size, 0, none⟩ (.slice (some ⟨w1.heap.size + 1, 0, none⟩) n n)) (w1.heap.size + 1) 3 n (fun _ => .int .i64 0)) := hide (HR.out.of_block (Below.heap_setCell _ _ _ _ hnR))
          have HE2 : Hid (((V).setCell ⟨w1.heap.size, 0, none⟩ (.slice (some ⟨w1.heap.size + 1, 0, none⟩) n n)).heap[w1.heap.size]? = some (.cells #[.slice (some ⟨w1.heap.size + 1, 0, none⟩) n n] 25 (0, 0))) := hide (box_set HE.out _)
          go_simp
          refine hK.out _ _ (show Below W3.heap.size W3 _ from (hHeld.setCell (p := ⟨w1.heap.size, 0, none⟩) hEB _)) (fun hHeld => ?_)
          clear hK K
          refine wpAnyH_ready (rs := [7]) (by kernel_rfl) (by simp) ?_
          refine AllReadyH.cons (o := { dst := none, op := Op.store 79 (Operand.tmp 5) (Operand.tmp 16), type := 0, pos := "moments.go:51", after := #[{ on := 5, ground := Ground.data }, { on := 3, ground := Ground.data }, { on := 6, ground := Ground.chain }, { on := 0, ground := Ground.phase }, { on := 1, ground := Ground.phase }, { on := 2, ground := Ground.phase }, { on := 3, ground := Ground.phase }, { on := 4, ground := Ground.phase }, { on := 5, ground := Ground.phase }, { on := 6, ground := Ground.phase }], guard := none }) rfl (fun K hK => ?_) AllReadyH.nil
          rw [if_pos (by rfl)]
          refine wp_store_row _ _ _ rfl _ _ (by rfl) (by rfl) _ _ HA2.out (by rw [av_size]; exact infoL) (by rw [av_size, av_size]) (av_one fun _ => rfl) ?_
          refine hK.out _ _ (show Below W3.heap.size W3 _ from Below.row hHeld _ _ hAB) (fun hHeld => ?_)
          clear hK K
          refine wpAnyH_done (by kernel_rfl) ?_ _
          refine nq_normal ?_
          go_wp2_with fail
          go_meet
          case rel => exact ⟨w1.heap.size, w1.heap.size + 1, w1.heap.size + 2, rfl, rfl, hide ((setRow_other _ _ _ _ (fun e => hnE e.symm)).trans HE2.out), hide (HR2.out.of_block (setRow_other _ _ _ _ hnA)), hide (setRow_heap _ _ _ _ _ _ HA2.out), hEB, hRB, hAB, hide hHeld⟩
        . go_simp
          have hAB : W3.heap.size <= w1.heap.size + 1 := Nat.le_trans hHeld.size (Nat.le_of_eq (by first | rfl | simp))
          refine hK.out _ _ (show Below W3.heap.size W3 _ from (hHeld.alloc hHeld.size (.cells Tryd.zeroCells79 79))) (fun hHeld => ?_)
          clear hK K
          replace HE := hide (((bnew (w1.alloc (.cells #[.slice none 0 0] 25)) (.cells Tryd.zeroCells79 79)).block _ (Array.getElem?_eq_some_iff.1 HE.out).1).trans HE.out)
          have HA : Hid (Ar ((w1.alloc (.cells #[.slice none 0 0] 25)).alloc (.cells Tryd.zeroCells79 79)) (w1.heap.size + 1) 79 (fun _ => .int .i64 0)) := hide (arr19 (w1.alloc (.cells #[.slice none 0 0] 25)) (w1.heap.size + 1) (by simp))
          try simp only [Act.put, List.setIfInBounds_toArray, List.set_cons_zero, List.set_cons_succ]
          refine wpAnyH_ready (rs := [2]) (by kernel_rfl) (by simp) ?_
          refine AllReadyH.cons (o := { dst := some 15, op := Op.makeSlice 25 (Operand.tmp 14) (Operand.tmp 14), type := 25, pos := "moments.go:51", after := #[{ on := 1, ground := Ground.data }, { on := 1, ground := Ground.data }], guard := none }) rfl (fun K hK => ?_) AllReadyH.nil
          go_simp
          have hRB : W3.heap.size <= w1.heap.size + 2 := Nat.le_trans hHeld.size (Nat.le_of_eq (by first | rfl | simp))
          refine hK.out _ _ (show Below W3.heap.size W3 _ from (hHeld.alloc hHeld.size (.cells (madeCells #[.int .i64 0] n) 3))) (fun hHeld => ?_)
          clear hK K
          replace HA := hide (HA.out.below (bnew ((w1.alloc (.cells #[.slice none 0 0] 25)).alloc (.cells Tryd.zeroCells79 79)) (.cells (madeCells #[.int .i64 0] n) 3)))
          replace HE := hide (((bnew ((w1.alloc (.cells #[.slice none 0 0] 25)).alloc (.cells Tryd.zeroCells79 79)) (.cells (madeCells #[.int .i64 0] n) 3)).block _ (Array.getElem?_eq_some_iff.1 HE.out).1).trans HE.out)
          have HR : Hid (Rk (((w1.alloc (.cells #[.slice none 0 0] 25)).alloc (.cells Tryd.zeroCells79 79)).alloc (.cells (madeCells #[.int .i64 0] n) 3)) (w1.heap.size + 2) 3 n (fun _ => .int .i64 0)) := hide (made19 ((w1.alloc (.cells #[.slice none 0 0] 25)).alloc (.cells Tryd.zeroCells79 79)) n (w1.heap.size + 2) (by simp))
          try simp only [Act.put, List.setIfInBounds_toArray, List.set_cons_zero, List.set_cons_succ]
          refine wpAnyH_ready (rs := [6]) (by kernel_rfl) (by simp) ?_
          refine AllReadyH.cons (o := { dst := none, op := Op.store 25 (Operand.tmp 4) (Operand.tmp 15), type := 0, pos := "moments.go:51", after := #[{ on := 4, ground := Ground.data }, { on := 2, ground := Ground.data }, { on := 3, ground := Ground.chain }, { on := 0, ground := Ground.phase }, { on := 1, ground := Ground.phase }, { on := 2, ground := Ground.phase }, { on := 3, ground := Ground.textOnly Departure.lateStoresUnsure }, { on := 4, ground := Ground.phase }, { on := 5, ground := Ground.phase }], guard := none }) rfl (fun K hK => ?_) AllReadyH.nil
          generalize (((w1.alloc (.cells #[.slice none 0 0] 25)).alloc (.cells Tryd.zeroCells79 79)).alloc (.cells (madeCells #[.int .i64 0] n) 3)) = V at *
          have hcE := cell_of_row _ _ 0 _ _ _ HE.out
          have hfE : (V).frozen? ⟨w1.heap.size, 0, none⟩ = false := by simp [World.frozen?, HE.out]
          simp only [List.getElem?_toArray, List.getElem?_cons_zero] at hcE
          have hnE : w1.heap.size + 1 ≠ w1.heap.size := ar_box HA.out HE.out
          have hnR : w1.heap.size + 2 ≠ w1.heap.size := rk_box HR.out HE.out
          have hnA : w1.heap.size + 2 ≠ w1.heap.size + 1 := rk_ar HR.out HA.out
          have HA2 : Hid (Ar ((V).setCell ⟨w1.heap.size, 0, none⟩ (.slice (some ⟨w1.heap.size + 2, 0, none⟩) n n)) (w1.heap.size + 1) 79 (fun _ => .int .i64 0)) := hide (HA.out.of_block (Below.heap_setCell _ _ _ _ hnE))
          have HR2 : Hid (Rk ((V).setCell ⟨w1.heap.size, 0, none⟩ (.slice (some ⟨w1.heap.size + 2, 0, none⟩) n n)) (w1.heap.size + 2) 3 n (fun _ => .int .i64 0)) := hide (HR.out.of_block (Below.heap_setCell _ _ _ _ hnR))
          have HE2 : Hid (((V).setCell ⟨w1.heap.size, 0, none⟩ (.slice (some ⟨w1.heap.size + 2, 0, none⟩) n n)).heap[w1.heap.size]? = some (.cells #[.slice (some ⟨w1.heap.size + 2, 0, none⟩) n n] 25 (0, 0))) := hide (box_set HE.out _)
          go_simp
          refine hK.out _ _ (show Below W3.heap.size W3 _ from (hHeld.setCell (p := ⟨w1.heap.size, 0, none⟩) hEB _)) (fun hHeld => ?_)
          clear hK K
          refine wpAnyH_ready (rs := [7]) (by kernel_rfl) (by simp) ?_
          refine AllReadyH.cons (o := { dst := none, op := Op.store 79 (Operand.tmp 5) (Operand.tmp 16), type := 0, pos := "moments.go:51", after := #[{ on := 5, ground := Ground.data }, { on := 3, ground := Ground.data }, { on := 6, ground := Ground.chain }, { on := 0, ground := Ground.phase }, { on := 1, ground := Ground.phase }, { on := 2, ground := Ground.phase }, { on := 3, ground := Ground.phase }, { on := 4, ground := Ground.phase }, { on := 5, ground := Ground.phase }, { on := 6, ground := Ground.phase }], guard := none }) rfl (fun K hK => ?_) AllReadyH.nil
          rw [if_pos (by rfl)]
          refine wp_store_row _ _ _ rfl _ _ (by rfl) (by rfl) _ _ HA2.out (by rw [av_size]; exact infoL) (by rw [av_size, av_size]) (av_one fun _ => rfl) ?_
          refine hK.out _ _ (show Below W3.heap.size W3 _ from Below.row hHeld _ _ hAB) (fun hHeld => ?_)
          clear hK K
          refine wpAnyH_done (by kernel_rfl) ?_ _
          refine nq_normal ?_
          go_wp2_with fail
          go_meet
          case rel => exact ⟨w1.heap.size, w1.heap.size + 2, w1.heap.size + 1, rfl, rfl, hide ((setRow_other _ _ _ _ (fun e => hnE e.symm)).trans HE2.out), hide (HR2.out.of_block (setRow_other _ _ _ _ hnA)), hide (setRow_heap _ _ _ _ _ _ HA2.out), hEB, hRB, hAB, hide hHeld⟩
      . go_simp
        have hAB : W3.heap.size <= w1.heap.size := Nat.le_trans hHeld.size (Nat.le_of_eq (by first | rfl | simp))
        refine hK.out _ _ (show Below W3.heap.size W3 _ from (hHeld.alloc hHeld.size (.cells Tryd.zeroCells79 79))) (fun hHeld => ?_)
        clear hK K
        have HA : Hid (Ar (w1.alloc (.cells Tryd.zeroCells79 79)) (w1.heap.size) 79 (fun _ => .int .i64 0)) := hide (arr19 w1 (w1.heap.size) (by simp))
        try simp only [Act.put, List.setIfInBounds_toArray, List.set_cons_zero, List.set_cons_succ]
        refine wpAnyH_ready (rs := [2, 4]) (by kernel_rfl) (by simp) ?_
        refine AllReadyH.cons (o := { dst := some 15, op := Op.makeSlice 25 (Operand.tmp 14) (Operand.tmp 14), type := 25, pos := "moments.go:51", after := #[{ on := 1, ground := Ground.data }, { on := 1, ground := Ground.data }], guard := none }) rfl (fun K hK => ?_) (AllReadyH.cons (o := { dst := some 4, op := Op.alloc 25, type := 0, pos := "moments.go:51", after := #[], guard := none }) rfl (fun K hK => ?_) AllReadyH.nil)
        . go_simp
          have hRB : W3.heap.size <= w1.heap.size + 1 := Nat.le_trans hHeld.size (Nat.le_of_eq (by first | rfl | simp))
          refine hK.out _ _ (show Below W3.heap.size W3 _ from (hHeld.alloc hHeld.size (.cells (madeCells #[.int .i64 0] n) 3))) (fun hHeld => ?_)
          clear hK K
          replace HA := hide (HA.out.below (bnew (w1.alloc (.cells Tryd.zeroCells79 79)) (.cells (madeCells #[.int .i64 0] n) 3)))
          have HR : Hid (Rk ((w1.alloc (.cells Tryd.zeroCells79 79)).alloc (.cells (madeCells #[.int .i64 0] n) 3)) (w1.heap.size + 1) 3 n (fun _ => .int .i64 0)) := hide (made19 (w1.alloc (.cells Tryd.zeroCells79 79)) n (w1.heap.size + 1) (by simp))
          try simp only [Act.put, List.setIfInBounds_toArray, List.set_cons_zero, List.set_cons_succ]
          refine wpAnyH_ready (rs := [4]) (by kernel_rfl) (by simp) ?_
          refine AllReadyH.cons (o := { dst := some 4, op := Op.alloc 25, type := 0, pos := "moments.go:51", after := #[], guard := none }) rfl (fun K hK => ?_) AllReadyH.nil
          go_simp
          have hEB : W3.heap.size <= w1.heap.size + 2 := Nat.le_trans hHeld.size (Nat.le_of_eq (by first | rfl | simp))
          refine hK.out _ _ (show Below W3.heap.size W3 _ from (hHeld.alloc hHeld.size (.cells #[.slice none 0 0] 25))) (fun hHeld => ?_)
          clear hK K
          replace HR := hide (HR.out.below (bnew ((w1.alloc (.cells Tryd.zeroCells79 79)).alloc (.cells (madeCells #[.int .i64 0] n) 3)) (.cells #[.slice none 0 0] 25)))
          replace HA := hide (HA.out.below (bnew ((w1.alloc (.cells Tryd.zeroCells79 79)).alloc (.cells (madeCells #[.int .i64 0] n) 3)) (.cells #[.slice none 0 0] 25)))
          have HE : Hid ((((w1.alloc (.cells Tryd.zeroCells79 79)).alloc (.cells (madeCells #[.int .i64 0] n) 3)).alloc (.cells #[.slice none 0 0] 25)).heap[w1.heap.size + 2]? = some (.cells #[.slice none 0 0] 25 (0, 0))) := hide (box19 ((w1.alloc (.cells Tryd.zeroCells79 79)).alloc (.cells (madeCells #[.int .i64 0] n) 3)) _ (w1.heap.size + 2) (by simp))
          try simp only [Act.put, List.setIfInBounds_toArray, List.set_cons_zero, List.set_cons_succ]
          refine wpAnyH_ready (rs := [6]) (by kernel_rfl) (by simp) ?_
          refine AllReadyH.cons (o := { dst := none, op := Op.store 25 (Operand.tmp 4) (Operand.tmp 15), type := 0, pos := "moments.go:51", after := #[{ on := 4, ground := Ground.data }, { on := 2, ground := Ground.data }, { on := 3, ground := Ground.chain }, { on := 0, ground := Ground.phase }, { on := 1, ground := Ground.phase }, { on := 2, ground := Ground.phase }, { on := 3, ground := Ground.textOnly Departure.lateStoresUnsure }, { on := 4, ground := Ground.phase }, { on := 5, ground := Ground.phase }], guard := none }) rfl (fun K hK => ?_) AllReadyH.nil
          generalize (((w1.alloc (.cells Tryd.zeroCells79 79)).alloc (.cells (madeCells #[.int .i64 0] n) 3)).alloc (.cells #[.slice none 0 0] 25)) = V at *
          have hcE := cell_of_row _ _ 0 _ _ _ HE.out
          have hfE : (V).frozen? ⟨w1.heap.size + 2, 0, none⟩ = false := by simp [World.frozen?, HE.out]
          simp only [List.getElem?_toArray, List.getElem?_cons_zero] at hcE
          have hnE : w1.heap.size ≠ w1.heap.size + 2 := ar_box HA.out HE.out
          have hnR : w1.heap.size + 1 ≠ w1.heap.size + 2 := rk_box HR.out HE.out
          have hnA : w1.heap.size + 1 ≠ w1.heap.size := rk_ar HR.out HA.out
          have HA2 : Hid (Ar ((V).setCell ⟨w1.heap.size + 2, 0, none⟩ (.slice (some ⟨w1.heap.size + 1, 0, none⟩) n n)) (w1.heap.size) 79 (fun _ => .int .i64 0)) := hide (HA.out.of_block (Below.heap_setCell _ _ _ _ hnE))
          have HR2 : Hid (Rk ((V).setCell ⟨w1.heap.size + 2, 0, none⟩ (.slice (some ⟨w1.heap.size + 1, 0, none⟩) n n)) (w1.heap.size + 1) 3 n (fun _ => .int .i64 0)) := hide (HR.out.of_block (Below.heap_setCell _ _ _ _ hnR))
          have HE2 : Hid (((V).setCell ⟨w1.heap.size + 2, 0, none⟩ (.slice (some ⟨w1.heap.size + 1, 0, none⟩) n n)).heap[w1.heap.size + 2]? = some (.cells #[.slice (some ⟨w1.heap.size + 1, 0, none⟩) n n] 25 (0, 0))) := hide (box_set HE.out _)
          go_simp
          refine hK.out _ _ (show Below W3.heap.size W3 _ from (hHeld.setCell (p := ⟨w1.heap.size + 2, 0, none⟩) hEB _)) (fun hHeld => ?_)
          clear hK K
          refine wpAnyH_ready (rs := [7]) (by kernel_rfl) (by simp) ?_
          refine AllReadyH.cons (o := { dst := none, op := Op.store 79 (Operand.tmp 5) (Operand.tmp 16), type := 0, pos := "moments.go:51", after := #[{ on := 5, ground := Ground.data }, { on := 3, ground := Ground.data }, { on := 6, ground := Ground.chain }, { on := 0, ground := Ground.phase }, { on := 1, ground := Ground.phase }, { on := 2, ground := Ground.phase }, { on := 3, ground := Ground.phase }, { on := 4, ground := Ground.phase }, { on := 5, ground := Ground.phase }, { on := 6, ground := Ground.phase }], guard := none }) rfl (fun K hK => ?_) AllReadyH.nil
          rw [if_pos (by rfl)]
          refine wp_store_row _ _ _ rfl _ _ (by rfl) (by rfl) _ _ HA2.out (by rw [av_size]; exact infoL) (by rw [av_size, av_size]) (av_one fun _ => rfl) ?_
          refine hK.out _ _ (show Below W3.heap.size W3 _ from Below.row hHeld _ _ hAB) (fun hHeld => ?_)
          clear hK K
          refine wpAnyH_done (by kernel_rfl) ?_ _
          refine nq_normal ?_
          go_wp2_with fail
          go_meet
          case rel => exact ⟨w1.heap.size + 2, w1.heap.size + 1, w1.heap.size, rfl, rfl, hide ((setRow_other _ _ _ _ (fun e => hnE e.symm)).trans HE2.out), hide (HR2.out.of_block (setRow_other _ _ _ _ hnA)), hide (setRow_heap _ _ _ _ _ _ HA2.out), hEB, hRB, hAB, hide hHeld⟩
        . go_simp
          have hEB : W3.heap.size <= w1.heap.size + 1 := Nat.le_trans hHeld.size (Nat.le_of_eq (by first | rfl | simp))
          refine hK.out _ _ (show Below W3.heap.size W3 _ from (hHeld.alloc hHeld.size (.cells #[.slice none 0 0] 25))) (fun hHeld => ?_)
          clear hK K
          replace HA := hide (HA.out.below (bnew (w1.alloc (.cells Tryd.zeroCells79 79)) (.cells #[.slice none 0 0] 25)))
          have HE : Hid (((w1.alloc (.cells Tryd.zeroCells79 79)).alloc (.cells #[.slice none 0 0] 25)).heap[w1.heap.size + 1]? = some (.cells #[.slice none 0 0] 25 (0, 0))) := hide (box19 (w1.alloc (.cells Tryd.zeroCells79 79)) _ (w1.heap.size + 1) (by simp))
          try simp only [Act.put, List.setIfInBounds_toArray, List.set_cons_zero, List.set_cons_succ]
          refine wpAnyH_ready (rs := [2]) (by kernel_rfl) (by simp) ?_
          refine AllReadyH.cons (o := { dst := some 15, op := Op.makeSlice 25 (Operand.tmp 14) (Operand.tmp 14), type := 25, pos := "moments.go:51", after := #[{ on := 1, ground := Ground.data }, { on := 1, ground := Ground.data }], guard := none }) rfl (fun K hK => ?_) AllReadyH.nil
          go_simp
          have hRB : W3.heap.size <= w1.heap.size + 2 := Nat.le_trans hHeld.size (Nat.le_of_eq (by first | rfl | simp))
          refine hK.out _ _ (show Below W3.heap.size W3 _ from (hHeld.alloc hHeld.size (.cells (madeCells #[.int .i64 0] n) 3))) (fun hHeld => ?_)
          clear hK K
          replace HA := hide (HA.out.below (bnew ((w1.alloc (.cells Tryd.zeroCells79 79)).alloc (.cells #[.slice none 0 0] 25)) (.cells (madeCells #[.int .i64 0] n) 3)))
          replace HE := hide (((bnew ((w1.alloc (.cells Tryd.zeroCells79 79)).alloc (.cells #[.slice none 0 0] 25)) (.cells (madeCells #[.int .i64 0] n) 3)).block _ (Array.getElem?_eq_some_iff.1 HE.out).1).trans HE.out)
          have HR : Hid (Rk (((w1.alloc (.cells Tryd.zeroCells79 79)).alloc (.cells #[.slice none 0 0] 25)).alloc (.cells (madeCells #[.int .i64 0] n) 3)) (w1.heap.size + 2) 3 n (fun _ => .int .i64 0)) := hide (made19 ((w1.alloc (.cells Tryd.zeroCells79 79)).alloc (.cells #[.slice none 0 0] 25)) n (w1.heap.size + 2) (by simp))
          try simp only [Act.put, List.setIfInBounds_toArray, List.set_cons_zero, List.set_cons_succ]
          refine wpAnyH_ready (rs := [6]) (by kernel_rfl) (by simp) ?_
          refine AllReadyH.cons (o := { dst := none, op := Op.store 25 (Operand.tmp 4) (Operand.tmp 15), type := 0, pos := "moments.go:51", after := #[{ on := 4, ground := Ground.data }, { on := 2, ground := Ground.data }, { on := 3, ground := Ground.chain }, { on := 0, ground := Ground.phase }, { on := 1, ground := Ground.phase }, { on := 2, ground := Ground.phase }, { on := 3, ground := Ground.textOnly Departure.lateStoresUnsure }, { on := 4, ground := Ground.phase }, { on := 5, ground := Ground.phase }], guard := none }) rfl (fun K hK => ?_) AllReadyH.nil
          generalize (((w1.alloc (.cells Tryd.zeroCells79 79)).alloc (.cells #[.slice none 0 0] 25)).alloc (.cells (madeCells #[.int .i64 0] n) 3)) = V at *
          have hcE := cell_of_row _ _ 0 _ _ _ HE.out
          have hfE : (V).frozen? ⟨w1.heap.size + 1, 0, none⟩ = false := by simp [World.frozen?, HE.out]
          simp only [List.getElem?_toArray, List.getElem?_cons_zero] at hcE
          have hnE : w1.heap.size ≠ w1.heap.size + 1 := ar_box HA.out HE.out
          have hnR : w1.heap.size + 2 ≠ w1.heap.size + 1 := rk_box HR.out HE.out
          have hnA : w1.heap.size + 2 ≠ w1.heap.size := rk_ar HR.out HA.out
          have HA2 : Hid (Ar ((V).setCell ⟨w1.heap.size + 1, 0, none⟩ (.slice (some ⟨w1.heap.size + 2, 0, none⟩) n n)) (w1.heap.size) 79 (fun _ => .int .i64 0)) := hide (HA.out.of_block (Below.heap_setCell _ _ _ _ hnE))
          have HR2 : Hid (Rk ((V).setCell ⟨w1.heap.size + 1, 0, none⟩ (.slice (some ⟨w1.heap.size + 2, 0, none⟩) n n)) (w1.heap.size + 2) 3 n (fun _ => .int .i64 0)) := hide (HR.out.of_block (Below.heap_setCell _ _ _ _ hnR))
          have HE2 : Hid (((V).setCell ⟨w1.heap.size + 1, 0, none⟩ (.slice (some ⟨w1.heap.size + 2, 0, none⟩) n n)).heap[w1.heap.size + 1]? = some (.cells #[.slice (some ⟨w1.heap.size + 2, 0, none⟩) n n] 25 (0, 0))) := hide (box_set HE.out _)
          go_simp
          refine hK.out _ _ (show Below W3.heap.size W3 _ from (hHeld.setCell (p := ⟨w1.heap.size + 1, 0, none⟩) hEB _)) (fun hHeld => ?_)
          clear hK K
          refine wpAnyH_ready (rs := [7]) (by kernel_rfl) (by simp) ?_
          refine AllReadyH.cons (o := { dst := none, op := Op.store 79 (Operand.tmp 5) (Operand.tmp 16), type := 0, pos := "moments.go:51", after := #[{ on := 5, ground := Ground.data }, { on := 3, ground := Ground.data }, { on := 6, ground := Ground.chain }, { on := 0, ground := Ground.phase }, { on := 1, ground := Ground.phase }, { on := 2, ground := Ground.phase }, { on := 3, ground := Ground.phase }, { on := 4, ground := Ground.phase }, { on := 5, ground := Ground.phase }, { on := 6, ground := Ground.phase }], guard := none }) rfl (fun K hK => ?_) AllReadyH.nil
          rw [if_pos (by rfl)]
          refine wp_store_row _ _ _ rfl _ _ (by rfl) (by rfl) _ _ HA2.out (by rw [av_size]; exact infoL) (by rw [av_size, av_size]) (av_one fun _ => rfl) ?_
          refine hK.out _ _ (show Below W3.heap.size W3 _ from Below.row hHeld _ _ hAB) (fun hHeld => ?_)
          clear hK K
          refine wpAnyH_done (by kernel_rfl) ?_ _
          refine nq_normal ?_
          go_wp2_with fail
          go_meet
          case rel => exact ⟨w1.heap.size + 1, w1.heap.size + 2, w1.heap.size, rfl, rfl, hide ((setRow_other _ _ _ _ (fun e => hnE e.symm)).trans HE2.out), hide (HR2.out.of_block (setRow_other _ _ _ _ hnA)), hide (setRow_heap _ _ _ _ _ _ HA2.out), hEB, hRB, hAB, hide hHeld⟩
    . go_simp
      have hEB : W3.heap.size <= W3.heap.size := Nat.le_trans hHeld.size (Nat.le_of_eq (by first | rfl | simp))
      refine hK.out _ _ (show Below W3.heap.size W3 _ from (hHeld.alloc hHeld.size (.cells #[.slice none 0 0] 25))) (fun hHeld => ?_)
      clear hK K
      have HE : Hid ((W3.drew.alloc (.cells #[.slice none 0 0] 25)).heap[W3.heap.size]? = some (.cells #[.slice none 0 0] 25 (0, 0))) := hide (box19 W3.drew _ (W3.heap.size) (by simp))
      try simp only [Act.put, List.setIfInBounds_toArray, List.set_cons_zero, List.set_cons_succ]
      refine wpAnyH_ready (rs := [2, 3, 5]) (by kernel_rfl) (by simp) ?_
      refine AllReadyH.cons (o := { dst := some 15, op := Op.makeSlice 25 (Operand.tmp 14) (Operand.tmp 14), type := 25, pos := "moments.go:51", after := #[{ on := 1, ground := Ground.data }, { on := 1, ground := Ground.data }], guard := none }) rfl (fun K hK => ?_) (AllReadyH.cons (o := { dst := some 16, op := Op.call { callee := Callee.value (Operand.func 49), args := #[], argTypes := #[] }, type := 79, pos := "moments.go:51", after := #[], guard := none }) rfl (fun K hK => ?_) (AllReadyH.cons (o := { dst := some 5, op := Op.alloc 79, type := 0, pos := "moments.go:51", after := #[], guard := none }) rfl (fun K hK => ?_) AllReadyH.nil))
      . go_simp
        have hRB : W3.heap.size <= W3.heap.size + 1 := Nat.le_trans hHeld.size (Nat.le_of_eq (by first | rfl | simp))
        refine hK.out _ _ (show Below W3.heap.size W3 _ from (hHeld.alloc hHeld.size (.cells (madeCells #[.int .i64 0] n) 3))) (fun hHeld => ?_)
        clear hK K
        replace HE := hide (((bnew (W3.drew.alloc (.cells #[.slice none 0 0] 25)) (.cells (madeCells #[.int .i64 0] n) 3)).block _ (Array.getElem?_eq_some_iff.1 HE.out).1).trans HE.out)
        have HR : Hid (Rk ((W3.drew.alloc (.cells #[.slice none 0 0] 25)).alloc (.cells (madeCells #[.int .i64 0] n) 3)) (W3.heap.size + 1) 3 n (fun _ => .int .i64 0)) := hide (made19 (W3.drew.alloc (.cells #[.slice none 0 0] 25)) n (W3.heap.size + 1) (by simp))
        try simp only [Act.put, List.setIfInBounds_toArray, List.set_cons_zero, List.set_cons_succ]
        refine wpAnyH_ready (rs := [3, 5]) (by kernel_rfl) (by simp) ?_
        refine AllReadyH.cons (o := { dst := some 16, op := Op.call { callee := Callee.value (Operand.func 49), args := #[], argTypes := #[] }, type := 79, pos := "moments.go:51", after := #[], guard := none }) rfl (fun K hK => ?_) (AllReadyH.cons (o := { dst := some 5, op := Op.alloc 79, type := 0, pos := "moments.go:51", after := #[], guard := none }) rfl (fun K hK => ?_) AllReadyH.nil)
        . go_simp
          go_at_call 49
          refine (lNoneMet _).mono ?_
          rintro e w1 ⟨rfl, hb⟩
          replace HR := hide (HR.out.below hb)
          replace HE := hide ((hb.block _ (Array.getElem?_eq_some_iff.1 HE.out).1).trans HE.out)
          have hb' := Below.trans hHeld (hb.mono hHeld.size)
          go_wp2_with fail
          refine hK.out _ _ (show Below W3.heap.size W3 w1 from hb') (fun hHeld => ?_)
          clear hK K hb'
          try simp only [Act.put, List.setIfInBounds_toArray, List.set_cons_zero, List.set_cons_succ]
          refine wpAnyH_ready (rs := [5]) (by kernel_rfl) (by simp) ?_
          refine AllReadyH.cons (o := { dst := some 5, op := Op.alloc 79, type := 0, pos := "moments.go:51", after := #[], guard := none }) rfl (fun K hK => ?_) AllReadyH.nil
          go_simp
          have hAB : W3.heap.size <= w1.heap.size := Nat.le_trans hHeld.size (Nat.le_of_eq (by first | rfl | simp))
          refine hK.out _ _ (show Below W3.heap.size W3 _ from (hHeld.alloc hHeld.size (.cells Tryd.zeroCells79 79))) (fun hHeld => ?_)
          clear hK K
          replace HR := hide (HR.out.below (bnew w1 (.cells Tryd.zeroCells79 79)))
          replace HE := hide (((bnew w1 (.cells Tryd.zeroCells79 79)).block _ (Array.getElem?_eq_some_iff.1 HE.out).1).trans HE.out)
          have HA : Hid (Ar (w1.alloc (.cells Tryd.zeroCells79 79)) (w1.heap.size) 79 (fun _ => .int .i64 0)) := hide (arr19 w1 (w1.heap.size) (by simp))
          try simp only [Act.put, List.setIfInBounds_toArray, List.set_cons_zero, List.set_cons_succ]
          refine wpAnyH_ready (rs := [6]) (by kernel_rfl) (by simp) ?_
          refine AllReadyH.cons (o := { dst := none, op := Op.store 25 (Operand.tmp 4) (Operand.tmp 15), type := 0, pos := "moments.go:51", after := #[{ on := 4, ground := Ground.data }, { on := 2, ground := Ground.data }, { on := 3, ground := Ground.chain }, { on := 0, ground := Ground.phase }, { on := 1, ground := Ground.phase }, { on := 2, ground := Ground.phase }, { on := 3, ground := Ground.textOnly Departure.lateStoresUnsure }, { on := 4, ground := Ground.phase }, { on := 5, ground := Ground.phase }], guard := none }) rfl (fun K hK => ?_) AllReadyH.nil
          generalize (w1.alloc (.cells Tryd.zeroCells79 79)) = V at *
          have hcE := cell_of_row _ _ 0 _ _ _ HE.out
          have hfE : (V).frozen? ⟨W3.heap.size, 0, none⟩ = false := by simp [World.frozen?, HE.out]
          simp only [List.getElem?_toArray, List.getElem?_cons_zero] at hcE
          have hnE : w1.heap.size ≠ W3.heap.size := ar_box HA.out HE.out
          have hnR : W3.heap.size + 1 ≠ W3.heap.size := rk_box HR.out HE.out
          have hnA : W3.heap.size + 1 ≠ w1.heap.size := rk_ar HR.out HA.out
          have HA2 : Hid (Ar ((V).setCell ⟨W3.heap.size, 0, none⟩ (.slice (some ⟨W3.heap.size + 1, 0, none⟩) n n)) (w1.heap.size) 79 (fun _ => .int .i64 0)) := hide (HA.out.of_block (Below.heap_setCell _ _ _ _ hnE))
          have HR2 : Hid (Rk ((V).setCell ⟨W3.heap.size, 0, none⟩ (.slice (some ⟨W3.heap.size + 1, 0, none⟩) n n)) (W3.heap.size + 1) 3 n (fun _ => .int .i64 0)) := hide (HR.out.of_block (Below.heap_setCell _ _ _ _ hnR))
          have HE2 : Hid (((V).setCell ⟨W3.heap.size, 0, none⟩ (.slice (some ⟨W3.heap.size + 1, 0, none⟩) n n)).heap[W3.heap.size]? = some (.cells #[.slice (some ⟨W3.heap.size + 1, 0, none⟩) n n] 25 (0, 0))) := hide (box_set HE.out _)
          go_simp
          refine hK.out _ _ (show Below W3.heap.size W3 _ from (hHeld.setCell (p := ⟨W3.heap.size, 0, none⟩) hEB _)) (fun hHeld => ?_)
          clear hK K
          refine wpAnyH_ready (rs := [7]) (by kernel_rfl) (by simp) ?_
          refine AllReadyH.cons (o := { dst := none, op := Op.store 79 (Operand.tmp 5) (Operand.tmp 16), type := 0, pos := "moments.go:51", after := #[{ on := 5, ground := Ground.data }, { on := 3, ground := Ground.data }, { on := 6, ground := Ground.chain }, { on := 0, ground := Ground.phase }, { on := 1, ground := Ground.phase }, { on := 2, ground := Ground.phase }, { on := 3, ground := Ground.phase }, { on := 4, ground := Ground.phase }, { on := 5, ground := Ground.phase }, { on := 6, ground := Ground.phase }], guard := none }) rfl (fun K hK => ?_) AllReadyH.nil
          rw [if_pos (by rfl)]
          refine wp_store_row _ _ _ rfl _ _ (by rfl) (by rfl) _ _ HA2.out (by rw [av_size]; exact infoL) (by rw [av_size, av_size]) (av_one fun _ => rfl) ?_
          refine hK.out _ _ (show Below W3.heap.size W3 _ from Below.row hHeld _ _ hAB) (fun hHeld => ?_)
          clear hK K
          refine wpAnyH_done (by kernel_rfl) ?_ _
          refine nq_normal ?_
          go_wp2_with fail
          go_meet
          case rel => exact ⟨W3.heap.size, W3.heap.size + 1, w1.heap.size, rfl, rfl, hide ((setRow_other _ _ _ _ (fun e => hnE e.symm)).trans HE2.out), hide (HR2.out.of_block (setRow_other _ _ _ _ hnA)), hide (setRow_heap _ _ _ _ _ _ HA2.out), hEB, hRB, hAB, hide hHeld⟩
        . go_simp
          have hAB : W3.heap.size <= W3.heap.size + 2 := Nat.le_trans hHeld.size (Nat.le_of_eq (by first | rfl | simp))
          refine hK.out _ _ (show Below W3.heap.size W3 _ from (hHeld.alloc hHeld.size (.cells Tryd.zeroCells79 79))) (fun hHeld => ?_)
          clear hK K
          replace HR := hide (HR.out.below (bnew ((W3.drew.alloc (.cells #[.slice none 0 0] 25)).alloc (.cells (madeCells #[.int .i64 0] n) 3)) (.cells Tryd.zeroCells79 79)))
          replace HE := hide (((bnew ((W3.drew.alloc (.cells #[.slice none 0 0] 25)).alloc (.cells (madeCells #[.int .i64 0] n) 3)) (.cells Tryd.zeroCells79 79)).block _ (Array.getElem?_eq_some_iff.1 HE.out).1).trans HE.out)
          have HA : Hid (Ar (((W3.drew.alloc (.cells #[.slice none 0 0] 25)).alloc (.cells (madeCells #[.int .i64 0] n) 3)).alloc (.cells Tryd.zeroCells79 79)) (W3.heap.size + 2) 79 (fun _ => .int .i64 0)) := hide (arr19 ((W3.drew.alloc (.cells #[.slice none 0 0] 25)).alloc (.cells (madeCells #[.int .i64 0] n) 3)) (W3.heap.size + 2) (by simp))
          try simp only [Act.put, List.setIfInBounds_toArray, List.set_cons_zero, List.set_cons_succ]
          refine wpAnyH_ready (rs := [3]) (by kernel_rfl) (by simp) ?_
          refine AllReadyH.cons (o := { dst := some 16, op := Op.call { callee := Callee.value (Operand.func 49), args := #[], argTypes := #[] }, type := 79, pos := "moments.go:51", after := #[], guard := none }) rfl (fun K hK => ?_) AllReadyH.nil
          go_simp
          go_at_call 49
          refine (lNoneMet _).mono ?_
          rintro e w1 ⟨rfl, hb⟩
          replace HR := hide (HR.out.below hb)
          replace HA := hide (HA.out.below hb)
          replace HE := hide ((hb.block _ (Array.getElem?_eq_some_iff.1 HE.out).1).trans HE.out)
          have hb' := Below.trans hHeld (hb.mono hHeld.size)
          go_wp2_with fail
          refine hK.out _ _ (show Below W3.heap.size W3 w1 from hb') (fun hHeld => ?_)
          clear hK K hb'
          try simp only [Act.put, List.setIfInBounds_toArray, List.set_cons_zero, List.set_cons_succ]
          refine wpAnyH_ready (rs := [6]) (by kernel_rfl) (by simp) ?_
          refine AllReadyH.cons (o := { dst := none, op := Op.store 25 (Operand.tmp 4) (Operand.tmp 15), type := 0, pos := "moments.go:51", after := #[{ on := 4, ground := Ground.data }, { on := 2, ground := Ground.data }, { on := 3, ground := Ground.chain }, { on := 0, ground := Ground.phase }, { on := 1, ground := Ground.phase }, { on := 2, ground := Ground.phase }, { on := 3, ground := Ground.textOnly Departure.lateStoresUnsure }, { on := 4, ground := Ground.phase }, { on := 5, ground := Ground.phase }], guard := none }) rfl (fun K hK => ?_) AllReadyH.nil
          generalize w1 = V at *
          have hcE := cell_of_row _ _ 0 _ _ _ HE.out
          have hfE : (V).frozen? ⟨W3.heap.size, 0, none⟩ = false := by simp [World.frozen?, HE.out]
          simp only [List.getElem?_toArray, List.getElem?_cons_zero] at hcE
          have hnE : W3.heap.size + 2 ≠ W3.heap.size := ar_box HA.out HE.out
          have hnR : W3.heap.size + 1 ≠ W3.heap.size := rk_box HR.out HE.out
          have hnA : W3.heap.size + 1 ≠ W3.heap.size + 2 := rk_ar HR.out HA.out
          have HA2 : Hid (Ar ((V).setCell ⟨W3.heap.size, 0, none⟩ (.slice (some ⟨W3.heap.size + 1, 0, none⟩) n n)) (W3.heap.size + 2) 79 (fun _ => .int .i64 0)) := hide (HA.out.of_block (Below.heap_setCell _ _ _ _ hnE))
          have HR2 : Hid (Rk ((V).setCell ⟨W3.heap.size, 0, none⟩ (.slice (some ⟨W3.heap.size + 1, 0, none⟩) n n)) (W3.heap.size + 1) 3 n (fun _ => .int .i64 0)) := hide (HR.out.of_block (Below.heap_setCell _ _ _ _ hnR))
          have HE2 : Hid (((V).setCell ⟨W3.heap.size, 0, none⟩ (.slice (some ⟨W3.heap.size + 1, 0, none⟩) n n)).heap[W3.heap.size]? = some (.cells #[.slice (some ⟨W3.heap.size + 1, 0, none⟩) n n] 25 (0, 0))) := hide (box_set HE.out _)
          go_simp
          refine hK.out _ _ (show Below W3.heap.size W3 _ from (hHeld.setCell (p := ⟨W3.heap.size, 0, none⟩) hEB _)) (fun hHeld => ?_)
          clear hK K
          refine wpAnyH_ready (rs := [7]) (by kernel_rfl) (by simp) ?_
          refine AllReadyH.cons (o := { dst := none, op := Op.store 79 (Operand.tmp 5) (Operand.tmp 16), type := 0, pos := "moments.go:51", after := #[{ on := 5, ground := Ground.data }, { on := 3, ground := Ground.data }, { on := 6, ground := Ground.chain }, { on := 0, ground := Ground.phase }, { on := 1, ground := Ground.phase }, { on := 2, ground := Ground.phase }, { on := 3, ground := Ground.phase }, { on := 4, ground := Ground.phase }, { on := 5, ground := Ground.phase }, { on := 6, ground := Ground.phase }], guard := none }) rfl (fun K hK => ?_) AllReadyH.nil
          rw [if_pos (by rfl)]
          refine wp_store_row _ _ _ rfl _ _ (by rfl) (by rfl) _ _ HA2.out (by rw [av_size]; exact infoL) (by rw [av_size, av_size]) (av_one fun _ => rfl) ?_
          refine hK.out _ _ (show Below W3.heap.size W3 _ from Below.row hHeld _ _ hAB) (fun hHeld => ?_)
          clear hK K
          refine wpAnyH_done (by kernel_rfl) ?_ _
          refine nq_normal ?_
          go_wp2_with fail
          go_meet
          case rel => exact ⟨W3.heap.size, W3.heap.size + 1, W3.heap.size + 2, rfl, rfl, hide ((setRow_other _ _ _ _ (fun e => hnE e.symm)).trans HE2.out), hide (HR2.out.of_block (setRow_other _ _ _ _ hnA)), hide (setRow_heap _ _ _ _ _ _ HA2.out), hEB, hRB, hAB, hide hHeld⟩
      . go_simp
        go_at_call 49
        refine (lNoneMet _).mono ?_
        rintro e w1 ⟨rfl, hb⟩
        replace HE := hide ((hb.block _ (Array.getElem?_eq_some_iff.1 HE.out).1).trans HE.out)
        have hb' := Below.trans hHeld (hb.mono hHeld.size)
        go_wp2_with fail
        refine hK.out _ _ (show Below W3.heap.size W3 w1 from hb') (fun hHeld => ?_)
        clear hK K hb'
        try simp only [Act.put, List.setIfInBounds_toArray, List.set_cons_zero, List.set_cons_succ]
        refine wpAnyH_ready (rs := [2, 5]) (by kernel_rfl) (by simp) ?_
        refine AllReadyH.cons (o := { dst := some 15, op := Op.makeSlice 25 (Operand.tmp 14) (Operand.tmp 14), type := 25, pos := "moments.go:51", after := #[{ on := 1, ground := Ground.data }, { on := 1, ground := Ground.data }], guard := none }) rfl (fun K hK => ?_) (AllReadyH.cons (o := { dst := some 5, op := Op.alloc 79, type := 0, pos := "moments.go:51", after := #[], guard := none }) rfl (fun K hK => ?_) AllReadyH.nil)
        . go_simp
          have hRB : W3.heap.size <= w1.heap.size := Nat.le_trans hHeld.size (Nat.le_of_eq (by first | rfl | simp))
          refine hK.out _ _ (show Below W3.heap.size W3 _ from (hHeld.alloc hHeld.size (.cells (madeCells #[.int .i64 0] n) 3))) (fun hHeld => ?_)
          clear hK K
          replace HE := hide (((bnew w1 (.cells (madeCells #[.int .i64 0] n) 3)).block _ (Array.getElem?_eq_some_iff.1 HE.out).1).trans HE.out)
          have HR : Hid (Rk (w1.alloc (.cells (madeCells #[.int .i64 0] n) 3)) (w1.heap.size) 3 n (fun _ => .int .i64 0)) := hide (made19 w1 n (w1.heap.size) (by simp))
          try simp only [Act.put, List.setIfInBounds_toArray, List.set_cons_zero, List.set_cons_succ]
          refine wpAnyH_ready (rs := [5]) (by kernel_rfl) (by simp) ?_
          refine AllReadyH.cons (o := { dst := some 5, op := Op.alloc 79, type := 0, pos := "moments.go:51", after := #[], guard := none }) rfl (fun K hK => ?_) AllReadyH.nil
          go_simp
          have hAB : W3.heap.size <= w1.heap.size + 1 := Nat.le_trans hHeld.size (Nat.le_of_eq (by first | rfl | simp))
          refine hK.out _ _ (show Below W3.heap.size W3 _ from (hHeld.alloc hHeld.size (.cells Tryd.zeroCells79 79))) (fun hHeld => ?_)
          clear hK K
          replace HR := hide (HR.out.below (bnew (w1.alloc (.cells (madeCells #[.int .i64 0] n) 3)) (.cells Tryd.zeroCells79 79)))
          replace HE := hide (((bnew (w1.alloc (.cells (madeCells #[.int .i64 0] n) 3)) (.cells Tryd.zeroCells79 79)).block _ (Array.getElem?_eq_some_iff.1 HE.out).1).trans HE.out)
          have HA : Hid (Ar ((w1.alloc (.cells (madeCells #[.int .i64 0] n) 3)).alloc (.cells Tryd.zeroCells79 79)) (w1.heap.size + 1) 79 (fun _ => .int .i64 0)) := hide (arr19 (w1.alloc (.cells (madeCells #[.int .i64 0] n) 3)) (w1.heap.size + 1) (by simp))
          try simp only [Act.put, List.setIfInBounds_toArray, List.set_cons_zero, List.set_cons_succ]
          refine wpAnyH_ready (rs := [6]) (by kernel_rfl) (by simp) ?_
          refine AllReadyH.cons (o := { dst := none, op := Op.store 25 (Operand.tmp 4) (Operand.tmp 15), type := 0, pos := "moments.go:51", after := #[{ on := 4, ground := Ground.data }, { on := 2, ground := Ground.data }, { on := 3, ground := Ground.chain }, { on := 0, ground := Ground.phase }, { on := 1, ground := Ground.phase }, { on := 2, ground := Ground.phase }, { on := 3, ground := Ground.textOnly Departure.lateStoresUnsure }, { on := 4, ground := Ground.phase }, { on := 5, ground := Ground.phase }], guard := none }) rfl (fun K hK => ?_) AllReadyH.nil
          generalize ((w1.alloc (.cells (madeCells #[.int .i64 0] n) 3)).alloc (.cells Tryd.zeroCells79 79)) = V at *
          have hcE := cell_of_row _ _ 0 _ _ _ HE.out
          have hfE : (V).frozen? ⟨W3.heap.size, 0, none⟩ = false := by simp [World.frozen?, HE.out]
          simp only [List.getElem?_toArray, List.getElem?_cons_zero] at hcE
          have hnE : w1.heap.size + 1 ≠ W3.heap.size := ar_box HA.out HE.out
          have hnR : w1.heap.size ≠ W3.heap.size := rk_box HR.out HE.out
          have hnA : w1.heap.size ≠ w1.heap.size + 1 := rk_ar HR.out HA.out
          have HA2 : Hid (Ar ((V).setCell ⟨W3.heap.size, 0, none⟩ (.slice (some ⟨w1.heap.size, 0, none⟩) n n)) (w1.heap.size + 1) 79 (fun _ => .int .i64 0)) := hide (HA.out.of_block (Below.heap_setCell _ _ _ _ hnE))
          have HR2 : Hid (Rk ((V).setCell ⟨W3.heap.size, 0, none⟩ (.slice (some ⟨w1.heap.size, 0, none⟩) n n)) (w1.heap.size) 3 n (fun _ => .int .i64 0)) := hide (HR.out.of_block (Below.heap_setCell _ _ _ _ hnR))
          have HE2 : Hid (((V).setCell ⟨W3.heap.size, 0, none⟩ (.slice (some ⟨w1.heap.size, 0, none⟩) n n)).heap[W3.heap.size]? = some (.cells #[.slice (some ⟨w1.heap.size, 0, none⟩) n n] 25 (0, 0))) := hide (box_set HE.out _)
          go_simp
          refine hK.out _ _ (show Below W3.heap.size W3 _ from (hHeld.setCell (p := ⟨W3.heap.size, 0, none⟩) hEB _)) (fun hHeld => ?_)
          clear hK K
          refine wpAnyH_ready (rs := [7]) (by kernel_rfl) (by simp) ?_
          refine AllReadyH.cons (o := { dst := none, op := Op.store 79 (Operand.tmp 5) (Operand.tmp 16), type := 0, pos := "moments.go:51", after := #[{ on := 5, ground := Ground.data }, { on := 3, ground := Ground.data }, { on := 6, ground := Ground.chain }, { on := 0, ground := Ground.phase }, { on := 1, ground := Ground.phase }, { on := 2, ground := Ground.phase }, { on := 3, ground := Ground.phase }, { on := 4, ground := Ground.phase }, { on := 5, ground := Ground.phase }, { on := 6, ground := Ground.phase }], guard := none }) rfl (fun K hK => ?_) AllReadyH.nil
          rw [if_pos (by rfl)]
          refine wp_store_row _ _ _ rfl _ _ (by rfl) (by rfl) _ _ HA2.out (by rw [av_size]; exact infoL) (by rw [av_size, av_size]) (av_one fun _ => rfl) ?_
          refine hK.out _ _ (show Below W3.heap.size W3 _ from Below.row hHeld _ _ hAB) (fun hHeld => ?_)
          clear hK K
          refine wpAnyH_done (by kernel_rfl) ?_ _
          refine nq_normal ?_
          go_wp2_with fail
          go_meet
          case rel => exact ⟨W3.heap.size, w1.heap.size, w1.heap.size + 1, rfl, rfl, hide ((setRow_other _ _ _ _ (fun e => hnE e.symm)).trans HE2.out), hide (HR2.out.of_block (setRow_other _ _ _ _ hnA)), hide (setRow_heap _ _ _ _ _ _ HA2.out), hEB, hRB, hAB, hide hHeld⟩
        . go_simp
          have hAB : W3.heap.size <= w1.heap.size := Nat.le_trans hHeld.size (Nat.le_of_eq (by first | rfl | simp))
          refine hK.out _ _ (show Below W3.heap.size W3 _ from (hHeld.alloc hHeld.size (.cells Tryd.zeroCells79 79))) (fun hHeld => ?_)
          clear hK K
          replace HE := hide (((bnew w1 (.cells Tryd.zeroCells79 79)).block _ (Array.getElem?_eq_some_iff.1 HE.out).1).trans HE.out)
          have HA : Hid (Ar (w1.alloc (.cells Tryd.zeroCells79 79)) (w1.heap.size) 79 (fun _ => .int .i64 0)) := hide (arr19 w1 (w1.heap.size) (by simp))
          try simp only [Act.put, List.setIfInBounds_toArray, List.set_cons_zero, List.set_cons_succ]
          refine wpAnyH_ready (rs := [2]) (by kernel_rfl) (by simp) ?_
          refine AllReadyH.cons (o := { dst := some 15, op := Op.makeSlice 25 (Operand.tmp 14) (Operand.tmp 14), type := 25, pos := "moments.go:51", after := #[{ on := 1, ground := Ground.data }, { on := 1, ground := Ground.data }], guard := none }) rfl (fun K hK => ?_) AllReadyH.nil
          go_simp
          have hRB : W3.heap.size <= w1.heap.size + 1 := Nat.le_trans hHeld.size (Nat.le_of_eq (by first | rfl | simp))
          refine hK.out _ _ (show Below W3.heap.size W3 _ from (hHeld.alloc hHeld.size (.cells (madeCells #[.int .i64 0] n) 3))) (fun hHeld => ?_)
          clear hK K
          replace HA := hide (HA.out.below (bnew (w1.alloc (.cells Tryd.zeroCells79 79)) (.cells (madeCells #[.int .i64 0] n) 3)))
          replace HE := hide (((bnew (w1.alloc (.cells Tryd.zeroCells79 79)) (.cells (madeCells #[.int .i64 0] n) 3)).block _ (Array.getElem?_eq_some_iff.1 HE.out).1).trans HE.out)
          have HR : Hid (Rk ((w1.alloc (.cells Tryd.zeroCells79 79)).alloc (.cells (madeCells #[.int .i64 0] n) 3)) (w1.heap.size + 1) 3 n (fun _ => .int .i64 0)) := hide (made19 (w1.alloc (.cells Tryd.zeroCells79 79)) n (w1.heap.size + 1) (by simp))
          try simp only [Act.put, List.setIfInBounds_toArray, List.set_cons_zero, List.set_cons_succ]
          refine wpAnyH_ready (rs := [6]) (by kernel_rfl) (by simp) ?_
          refine AllReadyH.cons (o := { dst := none, op := Op.store 25 (Operand.tmp 4) (Operand.tmp 15), type := 0, pos := "moments.go:51", after := #[{ on := 4, ground := Ground.data }, { on := 2, ground := Ground.data }, { on := 3, ground := Ground.chain }, { on := 0, ground := Ground.phase }, { on := 1, ground := Ground.phase }, { on := 2, ground := Ground.phase }, { on := 3, ground := Ground.textOnly Departure.lateStoresUnsure }, { on := 4, ground := Ground.phase }, { on := 5, ground := Ground.phase }], guard := none }) rfl (fun K hK => ?_) AllReadyH.nil
          generalize ((w1.alloc (.cells Tryd.zeroCells79 79)).alloc (.cells (madeCells #[.int .i64 0] n) 3)) = V at *
          have hcE := cell_of_row _ _ 0 _ _ _ HE.out
          have hfE : (V).frozen? ⟨W3.heap.size, 0, none⟩ = false := by simp [World.frozen?, HE.out]
          simp only [List.getElem?_toArray, List.getElem?_cons_zero] at hcE
          have hnE : w1.heap.size ≠ W3.heap.size := ar_box HA.out HE.out
          have hnR : w1.heap.size + 1 ≠ W3.heap.size := rk_box HR.out HE.out
          have hnA : w1.heap.size + 1 ≠ w1.heap.size := rk_ar HR.out HA.out
          have HA2 : Hid (Ar ((V).setCell ⟨W3.heap.size, 0, none⟩ (.slice (some ⟨w1.heap.size + 1, 0, none⟩) n n)) (w1.heap.size) 79 (fun _ => .int .i64 0)) := hide (HA.out.of_block (Below.heap_setCell _ _ _ _ hnE))
          have HR2 : Hid (Rk ((V).setCell ⟨W3.heap.size, 0, none⟩ (.slice (some ⟨w1.heap.size + 1, 0, none⟩) n n)) (w1.heap.size + 1) 3 n (fun _ => .int .i64 0)) := hide (HR.out.of_block (Below.heap_setCell _ _ _ _ hnR))
          have HE2 : Hid (((V).setCell ⟨W3.heap.size, 0, none⟩ (.slice (some ⟨w1.heap.size + 1, 0, none⟩) n n)).heap[W3.heap.size]? = some (.cells #[.slice (some ⟨w1.heap.size + 1, 0, none⟩) n n] 25 (0, 0))) := hide (box_set HE.out _)
          go_simp
          refine hK.out _ _ (show Below W3.heap.size W3 _ from (hHeld.setCell (p := ⟨W3.heap.size, 0, none⟩) hEB _)) (fun hHeld => ?_)
          clear hK K
          refine wpAnyH_ready (rs := [7]) (by kernel_rfl) (by simp) ?_
          refine AllReadyH.cons (o := { dst := none, op := Op.store 79 (Operand.tmp 5) (Operand.tmp 16), type := 0, pos := "moments.go:51", after := #[{ on := 5, ground := Ground.data }, { on := 3, ground := Ground.data }, { on := 6, ground := Ground.chain }, { on := 0, ground := Ground.phase }, { on := 1, ground := Ground.phase }, { on := 2, ground := Ground.phase }, { on := 3, ground := Ground.phase }, { on := 4, ground := Ground.phase }, { on := 5, ground := Ground.phase }, { on := 6, ground := Ground.phase }], guard := none }) rfl (fun K hK => ?_) AllReadyH.nil
          rw [if_pos (by rfl)]
          refine wp_store_row _ _ _ rfl _ _ (by rfl) (by rfl) _ _ HA2.out (by rw [av_size]; exact infoL) (by rw [av_size, av_size]) (av_one fun _ => rfl) ?_
          refine hK.out _ _ (show Below W3.heap.size W3 _ from Below.row hHeld _ _ hAB) (fun hHeld => ?_)
          clear hK K
          refine wpAnyH_done (by kernel_rfl) ?_ _
          refine nq_normal ?_
          go_wp2_with fail
          go_meet
          case rel => exact ⟨W3.heap.size, w1.heap.size + 1, w1.heap.size, rfl, rfl, hide ((setRow_other _ _ _ _ (fun e => hnE e.symm)).trans HE2.out), hide (HR2.out.of_block (setRow_other _ _ _ _ hnA)), hide (setRow_heap _ _ _ _ _ _ HA2.out), hEB, hRB, hAB, hide hHeld⟩
      . go_simp
        have hAB : W3.heap.size <= W3.heap.size + 1 := Nat.le_trans hHeld.size (Nat.le_of_eq (by first | rfl | simp))
        refine hK.out _ _ (show Below W3.heap.size W3 _ from (hHeld.alloc hHeld.size (.cells Tryd.zeroCells79 79))) (fun hHeld => ?_)
        clear hK K
        replace HE := hide (((bnew (W3.drew.alloc (.cells #[.slice none 0 0] 25)) (.cells Tryd.zeroCells79 79)).block _ (Array.getElem?_eq_some_iff.1 HE.out).1).trans HE.out)
        have HA : Hid (Ar ((W3.drew.alloc (.cells #[.slice none 0 0] 25)).alloc (.cells Tryd.zeroCells79 79)) (W3.heap.size + 1) 79 (fun _ => .int .i64 0)) := hide (arr19 (W3.drew.alloc (.cells #[.slice none 0 0] 25)) (W3.heap.size + 1) (by simp))
        try simp only [Act.put, List.setIfInBounds_toArray, List.set_cons_zero, List.set_cons_succ]
        refine wpAnyH_ready (rs := [2, 3]) (by kernel_rfl) (by simp) ?_
        refine AllReadyH.cons (o := { dst := some 15, op := Op.makeSlice 25 (Operand.tmp 14) (Operand.tmp 14), type := 25, pos := "moments.go:51", after := #[{ on := 1, ground := Ground.data }, { on := 1, ground := Ground.data }], guard := none }) rfl (fun K hK => ?_) (AllReadyH.cons (o := { dst := some 16, op := Op.call { callee := Callee.value (Operand.func 49), args := #[], argTypes := #[] }, type := 79, pos := "moments.go:51", after := #[], guard := none }) rfl (fun K hK => ?_) AllReadyH.nil)
        . go_simp
          have hRB : W3.heap.size <= W3.heap.size + 2 := Nat.le_trans hHeld.size (Nat.le_of_eq (by first | rfl | simp))
          refine hK.out _ _ (show Below W3.heap.size W3 _ from (hHeld.alloc hHeld.size (.cells (madeCells #[.int .i64 0] n) 3))) (fun hHeld => ?_)
          clear hK K
          replace HA := hide (HA.out.below (bnew ((W3.drew.alloc (.cells #[.slice none 0 0] 25)).alloc (.cells Tryd.zeroCells79 79)) (.cells (madeCells #[.int .i64 0] n) 3)))
          replace HE := hide (((bnew ((W3.drew.alloc (.cells #[.slice none 0 0] 25)).alloc (.cells Tryd.zeroCells79 79)) (.cells (madeCells #[.int .i64 0] n) 3)).block _ (Array.getElem?_eq_some_iff.1 HE.out).1).trans HE.out)
          have HR : Hid (Rk (((W3.drew.alloc (.cells #[.slice none 0 0] 25)).alloc (.cells Tryd.zeroCells79 79)).alloc (.cells (madeCells #[.int .i64 0] n) 3)) (W3.heap.size + 2) 3 n (fun _ => .int .i64 0)) := hide (made19 ((W3.drew.alloc (.cells #[.slice none 0 0] 25)).alloc (.cells Tryd.zeroCells79 79)) n (W3.heap.size + 2) (by simp))
          try simp only [Act.put, List.setIfInBounds_toArray, List.set_cons_zero, List.set_cons_succ]
          refine wpAnyH_ready (rs := [3]) (by kernel_rfl) (by simp) ?_
          refine AllReadyH.cons (o := { dst := some 16, op := Op.call { callee := Callee.value (Operand.func 49), args := #[], argTypes := #[] }, type := 79, pos := "moments.go:51", after := #[], guard := none }) rfl (fun K hK => ?_) AllReadyH.nil
          go_simp
          go_at_call 49
          refine (lNoneMet _).mono ?_
          rintro e w1 ⟨rfl, hb⟩
          replace HR := hide (HR.out.below hb)
          replace HA := hide (HA.out.below hb)
          replace HE := hide ((hb.block _ (Array.getElem?_eq_some_iff.1 HE.out).1).trans HE.out)
          have hb' := Below.trans hHeld (hb.mono hHeld.size)
          go_wp2_with fail
          refine hK.out _ _ (show Below W3.heap.size W3 w1 from hb') (fun hHeld => ?_)
          clear hK K hb'
          try simp only [Act.put, List.setIfInBounds_toArray, List.set_cons_zero, List.set_cons_succ]
          refine wpAnyH_ready (rs := [6]) (by kernel_rfl) (by simp) ?_
          refine AllReadyH.cons (o := { dst := none, op := Op.store 25 (Operand.tmp 4) (Operand.tmp 15), type := 0, pos := "moments.go:51", after := #[{ on := 4, ground := Ground.data }, { on := 2, ground := Ground.data }, { on := 3, ground := Ground.chain }, { on := 0, ground := Ground.phase }, { on := 1, ground := Ground.phase }, { on := 2, ground := Ground.phase }, { on := 3, ground := Ground.textOnly Departure.lateStoresUnsure }, { on := 4, ground := Ground.phase }, { on := 5, ground := Ground.phase }], guard := none }) rfl (fun K hK => ?_) AllReadyH.nil
          generalize w1 = V at *
          have hcE := cell_of_row _ _ 0 _ _ _ HE.out
          have hfE : (V).frozen? ⟨W3.heap.size, 0, none⟩ = false := by simp [World.frozen?, HE.out]
          simp only [List.getElem?_toArray, List.getElem?_cons_zero] at hcE
          have hnE : W3.heap.size + 1 ≠ W3.heap.size := ar_box HA.out HE.out
          have hnR : W3.heap.size + 2 ≠ W3.heap.size := rk_box HR.out HE.out
          have hnA : W3.heap.size + 2 ≠ W3.heap.size + 1 := rk_ar HR.out HA.out
          have HA2 : Hid (Ar ((V).setCell ⟨W3.heap.size, 0, none⟩ (.slice (some ⟨W3.heap.size + 2, 0, none⟩) n n)) (W3.heap.size + 1) 79 (fun _ => .int .i64 0)) := hide (HA.out.of_block (Below.heap_setCell _ _ _ _ hnE))
          have HR2 : Hid (Rk ((V).setCell ⟨W3.heap.size, 0, none⟩ (.slice (some ⟨W3.heap.size + 2, 0, none⟩) n n)) (W3.heap.size + 2) 3 n (fun _ => .int .i64 0)) := hide (HR.out.of_block (Below.heap_setCell _ _ _ _ hnR))
          have HE2 : Hid (((V).setCell ⟨W3.heap.size, 0, none⟩ (.slice (some ⟨W3.heap.size + 2, 0, none⟩) n n)).heap[W3.heap.size]? = some (.cells #[.slice (some ⟨W3.heap.size + 2, 0, none⟩) n n] 25 (0, 0))) := hide (box_set HE.out _)
          go_simp
          refine hK.out _ _ (show Below W3.heap.size W3 _ from (hHeld.setCell (p := ⟨W3.heap.size, 0, none⟩) hEB _)) (fun hHeld => ?_)
          clear hK K
          refine wpAnyH_ready (rs := [7]) (by kernel_rfl) (by simp) ?_
          refine AllReadyH.cons (o := { dst := none, op := Op.store 79 (Operand.tmp 5) (Operand.tmp 16), type := 0, pos := "moments.go:51", after := #[{ on := 5, ground := Ground.data }, { on := 3, ground := Ground.data }, { on := 6, ground := Ground.chain }, { on := 0, ground := Ground.phase }, { on := 1, ground := Ground.phase }, { on := 2, ground := Ground.phase }, { on := 3, ground := Ground.phase }, { on := 4, ground := Ground.phase }, { on := 5, ground := Ground.phase }, { on := 6, ground := Ground.phase }], guard := none }) rfl (fun K hK => ?_) AllReadyH.nil
          rw [if_pos (by rfl)]
          refine wp_store_row _ _ _ rfl _ _ (by rfl) (by rfl) _ _ HA2.out (by rw [av_size]; exact infoL) (by rw [av_size, av_size]) (av_one fun _ => rfl) ?_
          refine hK.out _ _ (show Below W3.heap.size W3 _ from Below.row hHeld _ _ hAB) (fun hHeld => ?_)
          clear hK K
          refine wpAnyH_done (by kernel_rfl) ?_ _
          refine nq_normal ?_
          go_wp2_with fail
          go_meet
          case rel => exact ⟨W3.heap.size, W3.heap.size + 2, W3.heap.size + 1, rfl, rfl, hide ((setRow_other _ _ _ _ (fun e => hnE e.symm)).trans HE2.out), hide (HR2.out.of_block (setRow_other _ _ _ _ hnA)), hide (setRow_heap _ _ _ _ _ _ HA2.out), hEB, hRB, hAB, hide hHeld⟩
        . go_simp
          go_at_call 49
          refine (lNoneMet _).mono ?_
          rintro e w1 ⟨rfl, hb⟩
          replace HA := hide (HA.out.below hb)
          replace HE := hide ((hb.block _ (Array.getElem?_eq_some_iff.1 HE.out).1).trans HE.out)
          have hb' := Below.trans hHeld (hb.mono hHeld.size)
          go_wp2_with fail
          refine hK.out _ _ (show Below W3.heap.size W3 w1 from hb') (fun hHeld => ?_)
          clear hK K hb'
          try simp only [Act.put, List.setIfInBounds_toArray, List.set_cons_zero, List.set_cons_succ]
          refine wpAnyH_ready (rs := [2]) (by kernel_rfl) (by simp) ?_
          refine AllReadyH.cons (o := { dst := some 15, op := Op.makeSlice 25 (Operand.tmp 14) (Operand.tmp 14), type := 25, pos := "moments.go:51", after := #[{ on := 1, ground := Ground.data }, { on := 1, ground := Ground.data }], guard := none }) rfl (fun K hK => ?_) AllReadyH.nil
          go_simp
          have hRB : W3.heap.size <= w1.heap.size := Nat.le_trans hHeld.size (Nat.le_of_eq (by first | rfl | simp))
          refine hK.out _ _ (show Below W3.heap.size W3 _ from (hHeld.alloc hHeld.size (.cells (madeCells #[.int .i64 0] n) 3))) (fun hHeld => ?_)
          clear hK K
          replace HA := hide (HA.out.below (bnew w1 (.cells (madeCells #[.int .i64 0] n) 3)))
          replace HE := hide (((bnew w1 (.cells (madeCells #[.int .i64 0] n) 3)).block _ (Array.getElem?_eq_some_iff.1 HE.out).1).trans HE.out)
          have HR : Hid (Rk (w1.alloc (.cells (madeCells #[.int .i64 0] n) 3)) (w1.heap.size) 3 n (fun _ => .int .i64 0)) := hide (made19 w1 n (w1.heap.size) (by simp))
          try simp only [Act.put, List.setIfInBounds_toArray, List.set_cons_zero, List.set_cons_succ]
          refine wpAnyH_ready (rs := [6]) (by kernel_rfl) (by simp) ?_
          refine AllReadyH.cons (o := { dst := none, op := Op.store 25 (Operand.tmp 4) (Operand.tmp 15), type := 0, pos := "moments.go:51", after := #[{ on := 4, ground := Ground.data }, { on := 2, ground := Ground.data }, { on := 3, ground := Ground.chain }, { on := 0, ground := Ground.phase }, { on := 1, ground := Ground.phase }, { on := 2, ground := Ground.phase }, { on := 3, ground := Ground.textOnly Departure.lateStoresUnsure }, { on := 4, ground := Ground.phase }, { on := 5, ground := Ground.phase }], guard := none }) rfl (fun K hK => ?_) AllReadyH.nil
          generalize (w1.alloc (.cells (madeCells #[.int .i64 0] n) 3)) = V at *
          have hcE := cell_of_row _ _ 0 _ _ _ HE.out
          have hfE : (V).frozen? ⟨W3.heap.size, 0, none⟩ = false := by simp [World.frozen?, HE.out]
          simp only [List.getElem?_toArray, List.getElem?_cons_zero] at hcE
          have hnE : W3.heap.size + 1 ≠ W3.heap.size := ar_box HA.out HE.out
          have hnR : w1.heap.size ≠ W3.heap.size := rk_box HR.out HE.out
          have hnA : w1.heap.size ≠ W3.heap.size + 1 := rk_ar HR.out HA.out
          have HA2 : Hid (Ar ((V).setCell ⟨W3.heap.size, 0, none⟩ (.slice (some ⟨w1.heap.size, 0, none⟩) n n)) (W3.heap.size + 1) 79 (fun _ => .int .i64 0)) := hide (HA.out.of_block (Below.heap_setCell _ _ _ _ hnE))
          have HR2 : Hid (Rk ((V).setCell ⟨W3.heap.size, 0, none⟩ (.slice (some ⟨w1.heap.size, 0, none⟩) n n)) (w1.heap.size) 3 n (fun _ => .int .i64 0)) := hide (HR.out.of_block (Below.heap_setCell _ _ _ _ hnR))
          have HE2 : Hid (((V).setCell ⟨W3.heap.size, 0, none⟩ (.slice (some ⟨w1.heap.size, 0, none⟩) n n)).heap[W3.heap.size]? = some (.cells #[.slice (some ⟨w1.heap.size, 0, none⟩) n n] 25 (0, 0))) := hide (box_set HE.out _)
          go_simp
          refine hK.out _ _ (show Below W3.heap.size W3 _ from (hHeld.setCell (p := ⟨W3.heap.size, 0, none⟩) hEB _)) (fun hHeld => ?_)
          clear hK K
          refine wpAnyH_ready (rs := [7]) (by kernel_rfl) (by simp) ?_
          refine AllReadyH.cons (o := { dst := none, op := Op.store 79 (Operand.tmp 5) (Operand.tmp 16), type := 0, pos := "moments.go:51", after := #[{ on := 5, ground := Ground.data }, { on := 3, ground := Ground.data }, { on := 6, ground := Ground.chain }, { on := 0, ground := Ground.phase }, { on := 1, ground := Ground.phase }, { on := 2, ground := Ground.phase }, { on := 3, ground := Ground.phase }, { on := 4, ground := Ground.phase }, { on := 5, ground := Ground.phase }, { on := 6, ground := Ground.phase }], guard := none }) rfl (fun K hK => ?_) AllReadyH.nil
          rw [if_pos (by rfl)]
          refine wp_store_row _ _ _ rfl _ _ (by rfl) (by rfl) _ _ HA2.out (by rw [av_size]; exact infoL) (by rw [av_size, av_size]) (av_one fun _ => rfl) ?_
          refine hK.out _ _ (show Below W3.heap.size W3 _ from Below.row hHeld _ _ hAB) (fun hHeld => ?_)
          clear hK K
          refine wpAnyH_done (by kernel_rfl) ?_ _
          refine nq_normal ?_
          go_wp2_with fail
          go_meet
          case rel => exact ⟨W3.heap.size, w1.heap.size, W3.heap.size + 1, rfl, rfl, hide ((setRow_other _ _ _ _ (fun e => hnE e.symm)).trans HE2.out), hide (HR2.out.of_block (setRow_other _ _ _ _ hnA)), hide (setRow_heap _ _ _ _ _ _ HA2.out), hEB, hRB, hAB, hide hHeld⟩
    . go_simp
      have hAB : W3.heap.size <= W3.heap.size := Nat.le_trans hHeld.size (Nat.le_of_eq (by first | rfl | simp))
      refine hK.out _ _ (show Below W3.heap.size W3 _ from (hHeld.alloc hHeld.size (.cells Tryd.zeroCells79 79))) (fun hHeld => ?_)
      clear hK K
      have HA : Hid (Ar (W3.drew.alloc (.cells Tryd.zeroCells79 79)) (W3.heap.size) 79 (fun _ => .int .i64 0)) := hide (arr19 W3.drew (W3.heap.size) (by simp))
      try simp only [Act.put, List.setIfInBounds_toArray, List.set_cons_zero, List.set_cons_succ]
      refine wpAnyH_ready (rs := [2, 3, 4]) (by kernel_rfl) (by simp) ?_
      refine AllReadyH.cons (o := { dst := some 15, op := Op.makeSlice 25 (Operand.tmp 14) (Operand.tmp 14), type := 25, pos := "moments.go:51", after := #[{ on := 1, ground := Ground.data }, { on := 1, ground := Ground.data }], guard := none }) rfl (fun K hK => ?_) (AllReadyH.cons (o := { dst := some 16, op := Op.call { callee := Callee.value (Operand.func 49), args := #[], argTypes := #[] }, type := 79, pos := "moments.go:51", after := #[], guard := none }) rfl (fun K hK => ?_) (AllReadyH.cons (o := { dst := some 4, op := Op.alloc 25, type := 0, pos := "moments.go:51", after := #[], guard := none }) rfl (fun K hK => ?_) AllReadyH.nil))
      . go_simp
        have hRB : W3.heap.size <= W3.heap.size + 1 := Nat.le_trans hHeld.size (Nat.le_of_eq (by first | rfl | simp))
        refine hK.out _ _ (show Below W3.heap.size W3 _ from (hHeld.alloc hHeld.size (.cells (madeCells #[.int .i64 0] n) 3))) (fun hHeld => ?_)
        clear hK K
        replace HA := hide (HA.out.below (bnew (W3.drew.alloc (.cells Tryd.zeroCells79 79)) (.cells (madeCells #[.int .i64 0] n) 3)))
        have HR : Hid (Rk ((W3.drew.alloc (.cells Tryd.zeroCells79 79)).alloc (.cells (madeCells #[.int .i64 0] n) 3)) (W3.heap.size + 1) 3 n (fun _ => .int .i64 0)) := hide (made19 (W3.drew.alloc (.cells Tryd.zeroCells79 79)) n (W3.heap.size + 1) (by simp))
        try simp only [Act.put, List.setIfInBounds_toArray, List.set_cons_zero, List.set_cons_succ]
        refine wpAnyH_ready (rs := [3, 4]) (by kernel_rfl) (by simp) ?_
        refine AllReadyH.cons (o := { dst := some 16, op := Op.call { callee := Callee.value (Operand.func 49), args := #[], argTypes := #[] }, type := 79, pos := "moments.go:51", after := #[], guard := none }) rfl (fun K hK => ?_) (AllReadyH.cons (o := { dst := some 4, op := Op.alloc 25, type := 0, pos := "moments.go:51", after := #[], guard := none }) rfl (fun K hK => ?_) AllReadyH.nil)
        . go_simp
          go_at_call 49
          refine (lNoneMet _).mono ?_
          rintro e w1 ⟨rfl, hb⟩
          replace HR := hide (HR.out.below hb)
          replace HA := hide (HA.out.below hb)
          have hb' := Below.trans hHeld (hb.mono hHeld.size)
          go_wp2_with fail
          refine hK.out _ _ (show Below W3.heap.size W3 w1 from hb') (fun hHeld => ?_)
          clear hK K hb'
          try simp only [Act.put, List.setIfInBounds_toArray, List.set_cons_zero, List.set_cons_succ]
          refine wpAnyH_ready (rs := [4]) (by kernel_rfl) (by simp) ?_
          refine AllReadyH.cons (o := { dst := some 4, op := Op.alloc 25, type := 0, pos := "moments.go:51", after := #[], guard := none }) rfl (fun K hK => ?_) AllReadyH.nil
          go_simp
          have hEB : W3.heap.size <= w1.heap.size := Nat.le_trans hHeld.size (Nat.le_of_eq (by first | rfl | simp))
          refine hK.out _ _ (show Below W3.heap.size W3 _ from (hHeld.alloc hHeld.size (.cells #[.slice none 0 0] 25))) (fun hHeld => ?_)
          clear hK K
          replace HR := hide (HR.out.below (bnew w1 (.cells #[.slice none 0 0] 25)))
          replace HA := hide (HA.out.below (bnew w1 (.cells #[.slice none 0 0] 25)))
          have HE : Hid ((w1.alloc (.cells #[.slice none 0 0] 25)).heap[w1.heap.size]? = some (.cells #[.slice none 0 0] 25 (0, 0))) := hide (box19 w1 _ (w1.heap.size) (by simp))
          try simp only [Act.put, List.setIfInBounds_toArray, List.set_cons_zero, List.set_cons_succ]
          refine wpAnyH_ready (rs := [6]) (by kernel_rfl) (by simp) ?_
          refine AllReadyH.cons (o := { dst := none, op := Op.store 25 (Operand.tmp 4) (Operand.tmp 15), type := 0, pos := "moments.go:51", after := #[{ on := 4, ground := Ground.data }, { on := 2, ground := Ground.data }, { on := 3, ground := Ground.chain }, { on := 0, ground := Ground.phase }, { on := 1, ground := Ground.phase }, { on := 2, ground := Ground.phase }, { on := 3, ground := Ground.textOnly Departure.lateStoresUnsure }, { on := 4, ground := Ground.phase }, { on := 5, ground := Ground.phase }], guard := none }) rfl (fun K hK => ?_) AllReadyH.nil
          generalize (w1.alloc (.cells #[.slice none 0 0] 25)) = V at *
          have hcE := cell_of_row _ _ 0 _ _ _ HE.out
          have hfE : (V).frozen? ⟨w1.heap.size, 0, none⟩ = false := by simp [World.frozen?, HE.out]
          simp only [List.getElem?_toArray, List.getElem?_cons_zero] at hcE
          have hnE : W3.heap.size ≠ w1.heap.size := ar_box HA.out HE.out
          have hnR : W3.heap.size + 1 ≠ w1.heap.size := rk_box HR.out HE.out
          have hnA : W3.heap.size + 1 ≠ W3.heap.size := rk_ar HR.out HA.out
          have HA2 : Hid (Ar ((V).setCell ⟨w1.heap.size, 0, none⟩ (.slice (some ⟨W3.heap.size + 1, 0, none⟩) n n)) (W3.heap.size) 79 (fun _ => .int .i64 0)) := hide (HA.out.of_block (Below.heap_setCell _ _ _ _ hnE))
          have HR2 : Hid (Rk ((V).setCell ⟨w1.heap.size, 0, none⟩ (.slice (some ⟨W3.heap.size + 1, 0, none⟩) n n)) (W3.heap.size + 1) 3 n (fun _ => .int .i64 0)) := hide (HR.out.of_block (Below.heap_setCell _ _ _ _ hnR))
          have HE2 : Hid (((V).setCell ⟨w1.heap.size, 0, none⟩ (.slice (some ⟨W3.heap.size + 1, 0, none⟩) n n)).heap[w1.heap.size]? = some (.cells #[.slice (some ⟨W3.heap.size + 1, 0, none⟩) n n] 25 (0, 0))) := hide (box_set HE.out _)
          go_simp
          refine hK.out _ _ (show Below W3.heap.size W3 _ from (hHeld.setCell (p := ⟨w1.heap.size, 0, none⟩) hEB _)) (fun hHeld => ?_)
          clear hK K
          refine wpAnyH_ready (rs := [7]) (by kernel_rfl) (by simp) ?_
          refine AllReadyH.cons (o := { dst := none, op := Op.store 79 (Operand.tmp 5) (Operand.tmp 16), type := 0, pos := "moments.go:51", after := #[{ on := 5, ground := Ground.data }, { on := 3, ground := Ground.data }, { on := 6, ground := Ground.chain }, { on := 0, ground := Ground.phase }, { on := 1, ground := Ground.phase }, { on := 2, ground := Ground.phase }, { on := 3, ground := Ground.phase }, { on := 4, ground := Ground.phase }, { on := 5, ground := Ground.phase }, { on := 6, ground := Ground.phase }], guard := none }) rfl (fun K hK => ?_) AllReadyH.nil
          rw [if_pos (by rfl)]
          refine wp_store_row _ _ _ rfl _ _ (by rfl) (by rfl) _ _ HA2.out (by rw [av_size]; exact infoL) (by rw [av_size, av_size]) (av_one fun _ => rfl) ?_
          refine hK.out _ _ (show Below W3.heap.size W3 _ from Below.row hHeld _ _ hAB) (fun hHeld => ?_)
          clear hK K
          refine wpAnyH_done (by kernel_rfl) ?_ _
          refine nq_normal ?_
          go_wp2_with fail
          go_meet
          case rel => exact ⟨w1.heap.size, W3.heap.size + 1, W3.heap.size, rfl, rfl, hide ((setRow_other _ _ _ _ (fun e => hnE e.symm)).trans HE2.out), hide (HR2.out.of_block (setRow_other _ _ _ _ hnA)), hide (setRow_heap _ _ _ _ _ _ HA2.out), hEB, hRB, hAB, hide hHeld⟩
        . go_simp
          have hEB : W3.heap.size <= W3.heap.size + 2 := Nat.le_trans hHeld.size (Nat.le_of_eq (by first | rfl | simp))
          refine hK.out _ _ (show Below W3.heap.size W3 _ from (hHeld.alloc hHeld.size (.cells #[.slice none 0 0] 25))) (fun hHeld => ?_)
          clear hK K
          replace HR := hide (HR.out.below (bnew ((W3.drew.alloc (.cells Tryd.zeroCells79 79)).alloc (.cells (madeCells #[.int .i64 0] n) 3)) (.cells #[.slice none 0 0] 25)))
          replace HA := hide (HA.out.below (bnew ((W3.drew.alloc (.cells Tryd.zeroCells79 79)).alloc (.cells (madeCells #[.int .i64 0] n) 3)) (.cells #[.slice none 0 0] 25)))
          have HE : Hid ((((W3.drew.alloc (.cells Tryd.zeroCells79 79)).alloc (.cells (madeCells #[.int .i64 0] n) 3)).alloc (.cells #[.slice none 0 0] 25)).heap[W3.heap.size + 2]? = some (.cells #[.slice none 0 0] 25 (0, 0))) := hide (box19 ((W3.drew.alloc (.cells Tryd.zeroCells79 79)).alloc (.cells (madeCells #[.int .i64 0] n) 3)) _ (W3.heap.size + 2) (by simp))
          try simp only [Act.put, List.setIfInBounds_toArray, List.set_cons_zero, List.set_cons_succ]
          refine wpAnyH_ready (rs := [3]) (by kernel_rfl) (by simp) ?_
          refine AllReadyH.cons (o := { dst := some 16, op := Op.call { callee := Callee.value (Operand.func 49), args := #[], argTypes := #[] }, type := 79, pos := "moments.go:51", after := #[], guard := none }) rfl (fun K hK => ?_) AllReadyH.nil
          go_simp
          go_at_call 49
          refine (lNoneMet _).mono ?_
          rintro e w1 ⟨rfl, hb⟩
          replace HR := hide (HR.out.below hb)
          replace HA := hide (HA.out.below hb)
          replace HE := hide ((hb.block _ (Array.getElem?_eq_some_iff.1 HE.out).1).trans HE.out)
          have hb' := Below.trans hHeld (hb.mono hHeld.size)
          go_wp2_with fail
          refine hK.out _ _ (show Below W3.heap.size W3 w1 from hb') (fun hHeld => ?_)
          clear hK K hb'
          try simp only [Act.put, List.setIfInBounds_toArray, List.set_cons_zero, List.set_cons_succ]
          refine wpAnyH_ready (rs := [6]) (by kernel_rfl) (by simp) ?_
          refine AllReadyH.cons (o := { dst := none, op := Op.store 25 (Operand.tmp 4) (Operand.tmp 15), type := 0, pos := "moments.go:51", after := #[{ on := 4, ground := Ground.data }, { on := 2, ground := Ground.data }, { on := 3, ground := Ground.chain }, { on := 0, ground := Ground.phase }, { on := 1, ground := Ground.phase }, { on := 2, ground := Ground.phase }, { on := 3, ground := Ground.textOnly Departure.lateStoresUnsure }, { on := 4, ground := Ground.phase }, { on := 5, ground := Ground.phase }], guard := none }) rfl (fun K hK => ?_) AllReadyH.nil
          generalize w1 = V at *
          have hcE := cell_of_row _ _ 0 _ _ _ HE.out
          have hfE : (V).frozen? ⟨W3.heap.size + 2, 0, none⟩ = false := by simp [World.frozen?, HE.out]
          simp only [List.getElem?_toArray, List.getElem?_cons_zero] at hcE
          have hnE : W3.heap.size ≠ W3.heap.size + 2 := ar_box HA.out HE.out
          have hnR : W3.heap.size + 1 ≠ W3.heap.size + 2 := rk_box HR.out HE.out
          have hnA : W3.heap.size + 1 ≠ W3.heap.size := rk_ar HR.out HA.out
          have HA2 : Hid (Ar ((V).setCell ⟨W3.heap.size + 2, 0, none⟩ (.slice (some ⟨W3.heap.size + 1, 0, none⟩) n n)) (W3.heap.size) 79 (fun _ => .int .i64 0)) := hide (HA.out.of_block (Below.heap_setCell _ _ _ _ hnE))
          have HR2 : Hid (Rk ((V).setCell ⟨W3.heap.size + 2, 0, none⟩ (.slice (some ⟨W3.heap.size + 1, 0, none⟩) n n)) (W3.heap.size + 1) 3 n (fun _ => .int .i64 0)) := hide (HR.out.of_block (Below.heap_setCell _ _ _ _ hnR))
          have HE2 : Hid (((V).setCell ⟨W3.heap.size + 2, 0, none⟩ (.slice (some ⟨W3.heap.size + 1, 0, none⟩) n n)).heap[W3.heap.size + 2]? = some (.cells #[.slice (some ⟨W3.heap.size + 1, 0, none⟩) n n] 25 (0, 0))) := hide (box_set HE.out _)
          go_simp
          refine hK.out _ _ (show Below W3.heap.size W3 _ from (hHeld.setCell (p := ⟨W3.heap.size + 2, 0, none⟩) hEB _)) (fun hHeld => ?_)
          clear hK K
          refine wpAnyH_ready (rs := [7]) (by kernel_rfl) (by simp) ?_
          refine AllReadyH.cons (o := { dst := none, op := Op.store 79 (Operand.tmp 5) (Operand.tmp 16), type := 0, pos := "moments.go:51", after := #[{ on := 5, ground := Ground.data }, { on := 3, ground := Ground.data }, { on := 6, ground := Ground.chain }, { on := 0, ground := Ground.phase }, { on := 1, ground := Ground.phase }, { on := 2, ground := Ground.phase }, { on := 3, ground := Ground.phase }, { on := 4, ground := Ground.phase }, { on := 5, ground := Ground.phase }, { on := 6, ground := Ground.phase }], guard := none }) rfl (fun K hK => ?_) AllReadyH.nil
          rw [if_pos (by rfl)]
          refine wp_store_row _ _ _ rfl _ _ (by rfl) (by rfl) _ _ HA2.out (by rw [av_size]; exact infoL) (by rw [av_size, av_size]) (av_one fun _ => rfl) ?_
          refine hK.out _ _ (show Below W3.heap.size W3 _ from Below.row hHeld _ _ hAB) (fun hHeld => ?_)
          clear hK K
          refine wpAnyH_done (by kernel_rfl) ?_ _
          refine nq_normal ?_
          go_wp2_with fail
          go_meet
          case rel => exact ⟨W3.heap.size + 2, W3.heap.size + 1, W3.heap.size, rfl, rfl, hide ((setRow_other _ _ _ _ (fun e => hnE e.symm)).trans HE2.out), hide (HR2.out.of_block (setRow_other _ _ _ _ hnA)), hide (setRow_heap _ _ _ _ _ _ HA2.out), hEB, hRB, hAB, hide hHeld⟩
      . go_simp
        go_at_call 49
        refine (lNoneMet _).mono ?_
        rintro e w1 ⟨rfl, hb⟩
        replace HA := hide (HA.out.below hb)
        have hb' := Below.trans hHeld (hb.mono hHeld.size)
        go_wp2_with fail
        refine hK.out _ _ (show Below W3.heap.size W3 w1 from hb') (fun hHeld => ?_)
        clear hK K hb'
        try simp only [Act.put, List.setIfInBounds_toArray, List.set_cons_zero, List.set_cons_succ]
        refine wpAnyH_ready (rs := [2, 4]) (by kernel_rfl) (by simp) ?_
        refine AllReadyH.cons (o := { dst := some 15, op := Op.makeSlice 25 (Operand.tmp 14) (Operand.tmp 14), type := 25, pos := "moments.go:51", after := #[{ on := 1, ground := Ground.data }, { on := 1, ground := Ground.data }], guard := none }) rfl (fun K hK => ?_) (AllReadyH.cons (o := { dst := some 4, op := Op.alloc 25, type := 0, pos := "moments.go:51", after := #[], guard := none }) rfl (fun K hK => ?_) AllReadyH.nil)
        . go_simp
          have hRB : W3.heap.size <= w1.heap.size := Nat.le_trans hHeld.size (Nat.le_of_eq (by first | rfl | simp))
          refine hK.out _ _ (show Below W3.heap.size W3 _ from (hHeld.alloc hHeld.size (.cells (madeCells #[.int .i64 0] n) 3))) (fun hHeld => ?_)
          clear hK K
          replace HA := hide (HA.out.below (bnew w1 (.cells (madeCells #[.int .i64 0] n) 3)))
          have HR : Hid (Rk (w1.alloc (.cells (madeCells #[.int .i64 0] n) 3)) (w1.heap.size) 3 n (fun _ => .int .i64 0)) := hide (made19 w1 n (w1.heap.size) (by simp))
          try simp only [Act.put, List.setIfInBounds_toArray, List.set_cons_zero, List.set_cons_succ]
          refine wpAnyH_ready (rs := [4]) (by kernel_rfl) (by simp) ?_
          refine AllReadyH.cons (o := { dst := some 4, op := Op.alloc 25, type := 0, pos := "moments.go:51", after := #[], guard := none }) rfl (fun K hK => ?_) AllReadyH.nil
          go_simp
          have hEB : W3.heap.size <= w1.heap.size + 1 := Nat.le_trans hHeld.size (Nat.le_of_eq (by first | rfl | simp))
          refine hK.out _ _ (show Below W3.heap.size W3 _ from (hHeld.alloc hHeld.size (.cells #[.slice none 0 0] 25))) (fun hHeld => ?_)
          clear hK K
          replace HR := hide (HR.out.below (bnew (w1.alloc (.cells (madeCells #[.int .i64 0] n) 3)) (.cells #[.slice none 0 0] 25)))
          replace HA := hide (HA.out.below (bnew (w1.alloc (.cells (madeCells #[.int .i64 0] n) 3)) (.cells #[.slice none 0 0] 25)))
          have HE : Hid (((w1.alloc (.cells (madeCells #[.int .i64 0] n) 3)).alloc (.cells #[.slice none 0 0] 25)).heap[w1.heap.size + 1]? = some (.cells #[.slice none 0 0] 25 (0, 0))) := hide (box19 (w1.alloc (.cells (madeCells #[.int .i64 0] n) 3)) _ (w1.heap.size + 1) (by simp))
          try simp only [Act.put, List.setIfInBounds_toArray, List.set_cons_zero, List.set_cons_succ]
          refine wpAnyH_ready (rs := [6]) (by kernel_rfl) (by simp) ?_
          refine AllReadyH.cons (o := { dst := none, op := Op.store 25 (Operand.tmp 4) (Operand.tmp 15), type := 0, pos := "moments.go:51", after := #[{ on := 4, ground := Ground.data }, { on := 2, ground := Ground.data }, { on := 3, ground := Ground.chain }, { on := 0, ground := Ground.phase }, { on := 1, ground := Ground.phase }, { on := 2, ground := Ground.phase }, { on := 3, ground := Ground.textOnly Departure.lateStoresUnsure }, { on := 4, ground := Ground.phase }, { on := 5, ground := Ground.phase }], guard := none }) rfl (fun K hK => ?_) AllReadyH.nil
          generalize ((w1.alloc (.cells (madeCells #[.int .i64 0] n) 3)).alloc (.cells #[.slice none 0 0] 25)) = V at *
          have hcE := cell_of_row _ _ 0 _ _ _ HE.out
          have hfE : (V).frozen? ⟨w1.heap.size + 1, 0, none⟩ = false := by simp [World.frozen?, HE.out]
          simp only [List.getElem?_toArray, List.getElem?_cons_zero] at hcE
          have hnE : W3.heap.size ≠ w1.heap.size + 1 := ar_box HA.out HE.out
          have hnR : w1.heap.size ≠ w1.heap.size + 1 := rk_box HR.out HE.out
          have hnA : w1.heap.size ≠ W3.heap.size := rk_ar HR.out HA.out
          have HA2 : Hid (Ar ((V).setCell ⟨w1.heap.size + 1, 0, none⟩ (.slice (some ⟨w1.heap.size, 0, none⟩) n n)) (W3.heap.size) 79 (fun _ => .int .i64 0)) := hide (HA.out.of_block (Below.heap_setCell _ _ _ _ hnE))
          have HR2 : Hid (Rk ((V).setCell ⟨w1.heap.size + 1, 0, none⟩ (.slice (some ⟨w1.heap.size, 0, none⟩) n n)) (w1.heap.size) 3 n (fun _ => .int .i64 0)) := hide (HR.out.of_block (Below.heap_setCell _ _ _ _ hnR))
          have HE2 : Hid (((V).setCell ⟨w1.heap.size + 1, 0, none⟩ (.slice (some ⟨w1.heap.size, 0, none⟩) n n)).heap[w1.heap.size + 1]? = some (.cells #[.slice (some ⟨w1.heap.size, 0, none⟩) n n] 25 (0, 0))) := hide (box_set HE.out _)
          go_simp
          refine hK.out _ _ (show Below W3.heap.size W3 _ from (hHeld.setCell (p := ⟨w1.heap.size + 1, 0, none⟩) hEB _)) (fun hHeld => ?_)
          clear hK K
          refine wpAnyH_ready (rs := [7]) (by kernel_rfl) (by simp) ?_
          refine AllReadyH.cons (o := { dst := none, op := Op.store 79 (Operand.tmp 5) (Operand.tmp 16), type := 0, pos := "moments.go:51", after := #[{ on := 5, ground := Ground.data }, { on := 3, ground := Ground.data }, { on := 6, ground := Ground.chain }, { on := 0, ground := Ground.phase }, { on := 1, ground := Ground.phase }, { on := 2, ground := Ground.phase }, { on := 3, ground := Ground.phase }, { on := 4, ground := Ground.phase }, { on := 5, ground := Ground.phase }, { on := 6, ground := Ground.phase }], guard := none }) rfl (fun K hK => ?_) AllReadyH.nil
          rw [if_pos (by rfl)]
          refine wp_store_row _ _ _ rfl _ _ (by rfl) (by rfl) _ _ HA2.out (by rw [av_size]; exact infoL) (by rw [av_size, av_size]) (av_one fun _ => rfl) ?_
          refine hK.out _ _ (show Below W3.heap.size W3 _ from Below.row hHeld _ _ hAB) (fun hHeld => ?_)
          clear hK K
          refine wpAnyH_done (by kernel_rfl) ?_ _
          refine nq_normal ?_
          go_wp2_with fail
          go_meet
          case rel => exact ⟨w1.heap.size + 1, w1.heap.size, W3.heap.size, rfl, rfl, hide ((setRow_other _ _ _ _ (fun e => hnE e.symm)).trans HE2.out), hide (HR2.out.of_block (setRow_other _ _ _ _ hnA)), hide (setRow_heap _ _ _ _ _ _ HA2.out), hEB, hRB, hAB, hide hHeld⟩
        . go_simp
          have hEB : W3.heap.size <= w1.heap.size := Nat.le_trans hHeld.size (Nat.le_of_eq (by first | rfl | simp))
          refine hK.out _ _ (show Below W3.heap.size W3 _ from (hHeld.alloc hHeld.size (.cells #[.slice none 0 0] 25))) (fun hHeld => ?_)
          clear hK K
          replace HA := hide (HA.out.below (bnew w1 (.cells #[.slice none 0 0] 25)))
          have HE : Hid ((w1.alloc (.cells #[.slice none 0 0] 25)).heap[w1.heap.size]? = some (.cells #[.slice none 0 0] 25 (0, 0))) := hide (box19 w1 _ (w1.heap.size) (by simp))
          try simp only [Act.put, List.setIfInBounds_toArray, List.set_cons_zero, List.set_cons_succ]
          refine wpAnyH_ready (rs := [2]) (by kernel_rfl) (by simp) ?_
          refine AllReadyH.cons (o := { dst := some 15, op := Op.makeSlice 25 (Operand.tmp 14) (Operand.tmp 14), type := 25, pos := "moments.go:51", after := #[{ on := 1, ground := Ground.data }, { on := 1, ground := Ground.data }], guard := none }) rfl (fun K hK => ?_) AllReadyH.nil
          go_simp
          have hRB : W3.heap.size <= w1.heap.size + 1 := Nat.le_trans hHeld.size (Nat.le_of_eq (by first | rfl | simp))
          refine hK.out _ _ (show Below W3.heap.size W3 _ from (hHeld.alloc hHeld.size (.cells (madeCells #[.int .i64 0] n) 3))) (fun hHeld => ?_)
          clear hK K
          replace HA := hide (HA.out.below (bnew (w1.alloc (.cells #[.slice none 0 0] 25)) (.cells (madeCells #[.int .i64 0] n) 3)))
          replace HE := hide (((bnew (w1.alloc (.cells #[.slice none 0 0] 25)) (.cells (madeCells #[.int .i64 0] n) 3)).block _ (Array.getElem?_eq_some_iff.1 HE.out).1).trans HE.out)
          have HR : Hid (Rk ((w1.alloc (.cells #[.slice none 0 0] 25)).alloc (.cells (madeCells #[.int .i64 0] n) 3)) (w1.heap.size + 1) 3 n (fun _ => .int .i64 0)) := hide (made19 (w1.alloc (.cells #[.slice none 0 0] 25)) n (w1.heap.size + 1) (by simp))
          try simp only [Act.put, List.setIfInBounds_toArray, List.set_cons_zero, List.set_cons_succ]
          refine wpAnyH_ready (rs := [6]) (by kernel_rfl) (by simp) ?_
          refine AllReadyH.cons (o := { dst := none, op := Op.store 25 (Operand.tmp 4) (Operand.tmp 15), type := 0, pos := "moments.go:51", after := #[{ on := 4, ground := Ground.data }, { on := 2, ground := Ground.data }, { on := 3, ground := Ground.chain }, { on := 0, ground := Ground.phase }, { on := 1, ground := Ground.phase }, { on := 2, ground := Ground.phase }, { on := 3, ground := Ground.textOnly Departure.lateStoresUnsure }, { on := 4, ground := Ground.phase }, { on := 5, ground := Ground.phase }], guard := none }) rfl (fun K hK => ?_) AllReadyH.nil
          generalize ((w1.alloc (.cells #[.slice none 0 0] 25)).alloc (.cells (madeCells #[.int .i64 0] n) 3)) = V at *
          have hcE := cell_of_row _ _ 0 _ _ _ HE.out
          have hfE : (V).frozen? ⟨w1.heap.size, 0, none⟩ = false := by simp [World.frozen?, HE.out]
          simp only [List.getElem?_toArray, List.getElem?_cons_zero] at hcE
          have hnE : W3.heap.size ≠ w1.heap.size := ar_box HA.out HE.out
          have hnR : w1.heap.size + 1 ≠ w1.heap.size := rk_box HR.out HE.out
          have hnA : w1.heap.size + 1 ≠ W3.heap.size := rk_ar HR.out HA.out
          have HA2 : Hid (Ar ((V).setCell ⟨w1.heap.size, 0, none⟩ (.slice (some ⟨w1.heap.size + 1, 0, none⟩) n n)) (W3.heap.size) 79 (fun _ => .int .i64 0)) := hide (HA.out.of_block (Below.heap_setCell _ _ _ _ hnE))
          have HR2 : Hid (Rk ((V).setCell ⟨w1.heap.size, 0, none⟩ (.slice (some ⟨w1.heap.size + 1, 0, none⟩) n n)) (w1.heap.size + 1) 3 n (fun _ => .int .i64 0)) := hide (HR.out.of_block (Below.heap_setCell _ _ _ _ hnR))
          have HE2 : Hid (((V).setCell ⟨w1.heap.size, 0, none⟩ (.slice (some ⟨w1.heap.size + 1, 0, none⟩) n n)).heap[w1.heap.size]? = some (.cells #[.slice (some ⟨w1.heap.size + 1, 0, none⟩) n n] 25 (0, 0))) := hide (box_set HE.out _)
          go_simp
          refine hK.out _ _ (show Below W3.heap.size W3 _ from (hHeld.setCell (p := ⟨w1.heap.size, 0, none⟩) hEB _)) (fun hHeld => ?_)
          clear hK K
          refine wpAnyH_ready (rs := [7]) (by kernel_rfl) (by simp) ?_
          refine AllReadyH.cons (o := { dst := none, op := Op.store 79 (Operand.tmp 5) (Operand.tmp 16), type := 0, pos := "moments.go:51", after := #[{ on := 5, ground := Ground.data }, { on := 3, ground := Ground.data }, { on := 6, ground := Ground.chain }, { on := 0, ground := Ground.phase }, { on := 1, ground := Ground.phase }, { on := 2, ground := Ground.phase }, { on := 3, ground := Ground.phase }, { on := 4, ground := Ground.phase }, { on := 5, ground := Ground.phase }, { on := 6, ground := Ground.phase }], guard := none }) rfl (fun K hK => ?_) AllReadyH.nil
          rw [if_pos (by rfl)]
          refine wp_store_row _ _ _ rfl _ _ (by rfl) (by rfl) _ _ HA2.out (by rw [av_size]; exact infoL) (by rw [av_size, av_size]) (av_one fun _ => rfl) ?_
          refine hK.out _ _ (show Below W3.heap.size W3 _ from Below.row hHeld _ _ hAB) (fun hHeld => ?_)
          clear hK K
          refine wpAnyH_done (by kernel_rfl) ?_ _
          refine nq_normal ?_
          go_wp2_with fail
          go_meet
          case rel => exact ⟨w1.heap.size, w1.heap.size + 1, W3.heap.size, rfl, rfl, hide ((setRow_other _ _ _ _ (fun e => hnE e.symm)).trans HE2.out), hide (HR2.out.of_block (setRow_other _ _ _ _ hnA)), hide (setRow_heap _ _ _ _ _ _ HA2.out), hEB, hRB, hAB, hide hHeld⟩
      . go_simp
        have hEB : W3.heap.size <= W3.heap.size + 1 := Nat.le_trans hHeld.size (Nat.le_of_eq (by first | rfl | simp))
        refine hK.out _ _ (show Below W3.heap.size W3 _ from (hHeld.alloc hHeld.size (.cells #[.slice none 0 0] 25))) (fun hHeld => ?_)
        clear hK K
        replace HA := hide (HA.out.below (bnew (W3.drew.alloc (.cells Tryd.zeroCells79 79)) (.cells #[.slice none 0 0] 25)))
        have HE : Hid (((W3.drew.alloc (.cells Tryd.zeroCells79 79)).alloc (.cells #[.slice none 0 0] 25)).heap[W3.heap.size + 1]? = some (.cells #[.slice none 0 0] 25 (0, 0))) := hide (box19 (W3.drew.alloc (.cells Tryd.zeroCells79 79)) _ (W3.heap.size + 1) (by simp))
        try simp only [Act.put, List.setIfInBounds_toArray, List.set_cons_zero, List.set_cons_succ]
        refine wpAnyH_ready (rs := [2, 3]) (by kernel_rfl) (by simp) ?_
        refine AllReadyH.cons (o := { dst := some 15, op := Op.makeSlice 25 (Operand.tmp 14) (Operand.tmp 14), type := 25, pos := "moments.go:51", after := #[{ on := 1, ground := Ground.data }, { on := 1, ground := Ground.data }], guard := none }) rfl (fun K hK => ?_) (AllReadyH.cons (o := { dst := some 16, op := Op.call { callee := Callee.value (Operand.func 49), args := #[], argTypes := #[] }, type := 79, pos := "moments.go:51", after := #[], guard := none }) rfl (fun K hK => ?_) AllReadyH.nil)
        . go_simp
          have hRB : W3.heap.size <= W3.heap.size + 2 := Nat.le_trans hHeld.size (Nat.le_of_eq (by first | rfl | simp))
          refine hK.out _ _ (show Below W3.heap.size W3 _ from (hHeld.alloc hHeld.size (.cells (madeCells #[.int .i64 0] n) 3))) (fun hHeld => ?_)
          clear hK K
          replace HA := hide (HA.out.below (bnew ((W3.drew.alloc (.cells Tryd.zeroCells79 79)).alloc (.cells #[.slice none 0 0] 25)) (.cells (madeCells #[.int .i64 0] n) 3)))
          replace HE := hide (((bnew ((W3.drew.alloc (.cells Tryd.zeroCells79 79)).alloc (.cells #[.slice none 0 0] 25)) (.cells (madeCells #[.int .i64 0] n) 3)).block _ (Array.getElem?_eq_some_iff.1 HE.out).1).trans HE.out)
          have HR : Hid (Rk (((W3.drew.alloc (.cells Tryd.zeroCells79 79)).alloc (.cells #[.slice none 0 0] 25)).alloc (.cells (madeCells #[.int .i64 0] n) 3)) (W3.heap.size + 2) 3 n (fun _ => .int .i64 0)) := hide (made19 ((W3.drew.alloc (.cells Tryd.zeroCells79 79)).alloc (.cells #[.slice none 0 0] 25)) n (W3.heap.size + 2) (by simp))
          try simp only [Act.put, List.setIfInBounds_toArray, List.set_cons_zero, List.set_cons_succ]
          refine wpAnyH_ready (rs := [3]) (by kernel_rfl) (by simp) ?_
          refine AllReadyH.cons (o := { dst := some 16, op := Op.call { callee := Callee.value (Operand.func 49), args := #[], argTypes := #[] }, type := 79, pos := "moments.go:51", after := #[], guard := none }) rfl (fun K hK => ?_) AllReadyH.nil
          go_simp
          go_at_call 49
          refine (lNoneMet _).mono ?_
          rintro e w1 ⟨rfl, hb⟩
          replace HR := hide (HR.out.below hb)
          replace HA := hide (HA.out.below hb)
          replace HE := hide ((hb.block _ (Array.getElem?_eq_some_iff.1 HE.out).1).trans HE.out)
          have hb' := Below.trans hHeld (hb.mono hHeld.size)
          go_wp2_with fail
          refine hK.out _ _ (show Below W3.heap.size W3 w1 from hb') (fun hHeld => ?_)
          clear hK K hb'
          try simp only [Act.put, List.setIfInBounds_toArray, List.set_cons_zero, List.set_cons_succ]
          refine wpAnyH_ready (rs := [6]) (by kernel_rfl) (by simp) ?_
          refine AllReadyH.cons (o := { dst := none, op := Op.store 25 (Operand.tmp 4) (Operand.tmp 15), type := 0, pos := "moments.go:51", after := #[{ on := 4, ground := Ground.data }, { on := 2, ground := Ground.data }, { on := 3, ground := Ground.chain }, { on := 0, ground := Ground.phase }, { on := 1, ground := Ground.phase }, { on := 2, ground := Ground.phase }, { on := 3, ground := Ground.textOnly Departure.lateStoresUnsure }, { on := 4, ground := Ground.phase }, { on := 5, ground := Ground.phase }], guard := none }) rfl (fun K hK => ?_) AllReadyH.nil
          generalize w1 = V at *
          have hcE := cell_of_row _ _ 0 _ _ _ HE.out
          have hfE : (V).frozen? ⟨W3.heap.size + 1, 0, none⟩ = false := by simp [World.frozen?, HE.out]
          simp only [List.getElem?_toArray, List.getElem?_cons_zero] at hcE
          have hnE : W3.heap.size ≠ W3.heap.size + 1 := ar_box HA.out HE.out
          have hnR : W3.heap.size + 2 ≠ W3.heap.size + 1 := rk_box HR.out HE.out
          have hnA : W3.heap.size + 2 ≠ W3.heap.size := rk_ar HR.out HA.out
          have HA2 : Hid (Ar ((V).setCell ⟨W3.heap.size + 1, 0, none⟩ (.slice (some ⟨W3.heap.size + 2, 0, none⟩) n n)) (W3.heap.size) 79 (fun _ => .int .i64 0)) := hide (HA.out.of_block (Below.heap_setCell _ _ _ _ hnE))
          have HR2 : Hid (Rk ((V).setCell ⟨W3.heap.size + 1, 0, none⟩ (.slice (some ⟨W3.heap.size + 2, 0, none⟩) n n)) (W3.heap.size + 2) 3 n (fun _ => .int .i64 0)) := hide (HR.out.of_block (Below.heap_setCell _ _ _ _ hnR))
          have HE2 : Hid (((V).setCell ⟨W3.heap.size + 1, 0, none⟩ (.slice (some ⟨W3.heap.size + 2, 0, none⟩) n n)).heap[W3.heap.size + 1]? = some (.cells #[.slice (some ⟨W3.heap.size + 2, 0, none⟩) n n] 25 (0, 0))) := hide (box_set HE.out _)
          go_simp
          refine hK.out _ _ (show Below W3.heap.size W3 _ from (hHeld.setCell (p := ⟨W3.heap.size + 1, 0, none⟩) hEB _)) (fun hHeld => ?_)
          clear hK K
          refine wpAnyH_ready (rs := [7]) (by kernel_rfl) (by simp) ?_
          refine AllReadyH.cons (o := { dst := none, op := Op.store 79 (Operand.tmp 5) (Operand.tmp 16), type := 0, pos := "moments.go:51", after := #[{ on := 5, ground := Ground.data }, { on := 3, ground := Ground.data }, { on := 6, ground := Ground.chain }, { on := 0, ground := Ground.phase }, { on := 1, ground := Ground.phase }, { on := 2, ground := Ground.phase }, { on := 3, ground := Ground.phase }, { on := 4, ground := Ground.phase }, { on := 5, ground := Ground.phase }, { on := 6, ground := Ground.phase }], guard := none }) rfl (fun K hK => ?_) AllReadyH.nil
          rw [if_pos (by rfl)]
          refine wp_store_row _ _ _ rfl _ _ (by rfl) (by rfl) _ _ HA2.out (by rw [av_size]; exact infoL) (by rw [av_size, av_size]) (av_one fun _ => rfl) ?_
          refine hK.out _ _ (show Below W3.heap.size W3 _ from Below.row hHeld _ _ hAB) (fun hHeld => ?_)
          clear hK K
          refine wpAnyH_done (by kernel_rfl) ?_ _
          refine nq_normal ?_
          go_wp2_with fail
          go_meet
          case rel => exact ⟨W3.heap.size + 1, W3.heap.size + 2, W3.heap.size, rfl, rfl, hide ((setRow_other _ _ _ _ (fun e => hnE e.symm)).trans HE2.out), hide (HR2.out.of_block (setRow_other _ _ _ _ hnA)), hide (setRow_heap _ _ _ _ _ _ HA2.out), hEB, hRB, hAB, hide hHeld⟩
        . go_simp
          go_at_call 49
          refine (lNoneMet _).mono ?_
          rintro e w1 ⟨rfl, hb⟩
          replace HA := hide (HA.out.below hb)
          replace HE := hide ((hb.block _ (Array.getElem?_eq_some_iff.1 HE.out).1).trans HE.out)
          have hb' := Below.trans hHeld (hb.mono hHeld.size)
          go_wp2_with fail
          refine hK.out _ _ (show Below W3.heap.size W3 w1 from hb') (fun hHeld => ?_)
          clear hK K hb'
          try simp only [Act.put, List.setIfInBounds_toArray, List.set_cons_zero, List.set_cons_succ]
          refine wpAnyH_ready (rs := [2]) (by kernel_rfl) (by simp) ?_
          refine AllReadyH.cons (o := { dst := some 15, op := Op.makeSlice 25 (Operand.tmp 14) (Operand.tmp 14), type := 25, pos := "moments.go:51", after := #[{ on := 1, ground := Ground.data }, { on := 1, ground := Ground.data }], guard := none }) rfl (fun K hK => ?_) AllReadyH.nil
          go_simp
          have hRB : W3.heap.size <= w1.heap.size := Nat.le_trans hHeld.size (Nat.le_of_eq (by first | rfl | simp))
          refine hK.out _ _ (show Below W3.heap.size W3 _ from (hHeld.alloc hHeld.size (.cells (madeCells #[.int .i64 0] n) 3))) (fun hHeld => ?_)
          clear hK K
          replace HA := hide (HA.out.below (bnew w1 (.cells (madeCells #[.int .i64 0] n) 3)))
          replace HE := hide (((bnew w1 (.cells (madeCells #[.int .i64 0] n) 3)).block _ (Array.getElem?_eq_some_iff.1 HE.out).1).trans HE.out)
          have HR : Hid (Rk (w1.alloc (.cells (madeCells #[.int .i64 0] n) 3)) (w1.heap.size) 3 n (fun _ => .int .i64 0)) := hide (made19 w1 n (w1.heap.size) (by simp))
          try simp only [Act.put, List.setIfInBounds_toArray, List.set_cons_zero, List.set_cons_succ]
          refine wpAnyH_ready (rs := [6]) (by kernel_rfl) (by simp) ?_
          refine AllReadyH.cons (o := { dst := none, op := Op.store 25 (Operand.tmp 4) (Operand.tmp 15), type := 0, pos := "moments.go:51", after := #[{ on := 4, ground := Ground.data }, { on := 2, ground := Ground.data }, { on := 3, ground := Ground.chain }, { on := 0, ground := Ground.phase }, { on := 1, ground := Ground.phase }, { on := 2, ground := Ground.phase }, { on := 3, ground := Ground.textOnly Departure.lateStoresUnsure }, { on := 4, ground := Ground.phase }, { on := 5, ground := Ground.phase }], guard := none }) rfl (fun K hK => ?_) AllReadyH.nil
          generalize (w1.alloc (.cells (madeCells #[.int .i64 0] n) 3)) = V at *
          have hcE := cell_of_row _ _ 0 _ _ _ HE.out
          have hfE : (V).frozen? ⟨W3.heap.size + 1, 0, none⟩ = false := by simp [World.frozen?, HE.out]
          simp only [List.getElem?_toArray, List.getElem?_cons_zero] at hcE
          have hnE : W3.heap.size ≠ W3.heap.size + 1 := ar_box HA.out HE.out
          have hnR : w1.heap.size ≠ W3.heap.size + 1 := rk_box HR.out HE.out
          have hnA : w1.heap.size ≠ W3.heap.size := rk_ar HR.out HA.out
          have HA2 : Hid (Ar ((V).setCell ⟨W3.heap.size + 1, 0, none⟩ (.slice (some ⟨w1.heap.size, 0, none⟩) n n)) (W3.heap.size) 79 (fun _ => .int .i64 0)) := hide (HA.out.of_block (Below.heap_setCell _ _ _ _ hnE))
          have HR2 : Hid (Rk ((V).setCell ⟨W3.heap.size + 1, 0, none⟩ (.slice (some ⟨w1.heap.size, 0, none⟩) n n)) (w1.heap.size) 3 n (fun _ => .int .i64 0)) := hide (HR.out.of_block (Below.heap_setCell _ _ _ _ hnR))
          have HE2 : Hid (((V).setCell ⟨W3.heap.size + 1, 0, none⟩ (.slice (some ⟨w1.heap.size, 0, none⟩) n n)).heap[W3.heap.size + 1]? = some (.cells #[.slice (some ⟨w1.heap.size, 0, none⟩) n n] 25 (0, 0))) := hide (box_set HE.out _)
          go_simp
          refine hK.out _ _ (show Below W3.heap.size W3 _ from (hHeld.setCell (p := ⟨W3.heap.size + 1, 0, none⟩) hEB _)) (fun hHeld => ?_)
          clear hK K
          refine wpAnyH_ready (rs := [7]) (by kernel_rfl) (by simp) ?_
          refine AllReadyH.cons (o := { dst := none, op := Op.store 79 (Operand.tmp 5) (Operand.tmp 16), type := 0, pos := "moments.go:51", after := #[{ on := 5, ground := Ground.data }, { on := 3, ground := Ground.data }, { on := 6, ground := Ground.chain }, { on := 0, ground := Ground.phase }, { on := 1, ground := Ground.phase }, { on := 2, ground := Ground.phase }, { on := 3, ground := Ground.phase }, { on := 4, ground := Ground.phase }, { on := 5, ground := Ground.phase }, { on := 6, ground := Ground.phase }], guard := none }) rfl (fun K hK => ?_) AllReadyH.nil
          rw [if_pos (by rfl)]
          refine wp_store_row _ _ _ rfl _ _ (by rfl) (by rfl) _ _ HA2.out (by rw [av_size]; exact infoL) (by rw [av_size, av_size]) (av_one fun _ => rfl) ?_
          refine hK.out _ _ (show Below W3.heap.size W3 _ from Below.row hHeld _ _ hAB) (fun hHeld => ?_)
          clear hK K
          refine wpAnyH_done (by kernel_rfl) ?_ _
          refine nq_normal ?_
          go_wp2_with fail
          go_meet
          case rel => exact ⟨W3.heap.size + 1, w1.heap.size, W3.heap.size, rfl, rfl, hide ((setRow_other _ _ _ _ (fun e => hnE e.symm)).trans HE2.out), hide (HR2.out.of_block (setRow_other _ _ _ _ hnA)), hide (setRow_heap _ _ _ _ _ _ HA2.out), hEB, hRB, hAB, hide hHeld⟩
  case rest =>
    obtain ⟨gB, gR, gA, rfl, rfl, HB4, HR4, HA4, hgB, hgR, hgA, HW4⟩ := hcut
    have hB4 : Below w.heap.size w wc := hB3.trans (HW4.out.mono hB3.size)
    obtain ⟨x0, x1, x2⟩ := HX.out wc HW4.out
    have hD4 := (HW4.out.block _ (Array.getElem?_eq_some_iff.1 hD3).1).trans hD3
    have hx4 := (HW4.out.block _ (Array.getElem?_eq_some_iff.1 hx3).1).trans hx3
    have hgDl : gD < W3.heap.size := (Array.getElem?_eq_some_iff.1 hD3).1
    have hLI4 : LI w 0 gB gD w.heap.size gR gA n d (.slice ao n k) (fun _ => 0, fun _ => -1) wc := ⟨HR4.out, HA4.out, HB4.out, hD4, hx4, hB4, Nat.lt_of_le_of_lt (Nat.zero_le _) x2⟩
    have HLI4 := hide hLI4
    clear HX mq hD3 hx3 hB3 HB4 HR4 HA4 HW4 hD4 hx4 hLI4
    go_wp2_with (go_at_call 36; refine (lBackward ao n k _).mono ?_; rintro e w5 ⟨rfl, hw5⟩; have HW5 := hide hw5; clear hw5 x0 x1 x2)
    have hb5 : Below wc.heap.size wc w5 := by rw [HW5.out]; exact bnew _ _
    have hc5 : w5.cell? ⟨wc.heap.size, 0, none⟩ = some (.slice ao n k) := by rw [HW5.out]; exact cell_of_row _ _ 0 _ _ _ (heap_alloc_new wc _)
    have hlt5 : wc.heap.size < w5.heap.size := World.block_lt_of_cell? _ _ hc5
    have hB5 : Below w.heap.size w w5 := hB4.trans (hb5.mono hB4.size)
    have hLI5' := HLI4.out.kept (W' := w5) (fun g cs t fr hg => hb5.block g (Array.getElem?_eq_some_iff.1 hg).1) hB5 hb5.size
    have hLI5 : LI w wc.heap.size gB gD w.heap.size gR gA n d (.slice ao n k) (fun _ => 0, fun _ => -1) w5 := ⟨hLI5'.row, hLI5'.arr, hLI5'.box, hLI5'.dep, hLI5'.ops, hLI5'.bel, hlt5⟩
    clear hLI5'
    have hRl : gR < wc.heap.size := HLI4.out.row.lt
    have hAl : gA < wc.heap.size := HLI4.out.arr.lt
    have hws : w.heap.size <= wc.heap.size := hB4.size
    have hc5' : w5.cell? ⟨wc.heap.size, 0, none⟩ = some (.slice ao ops.length k) := by rw [HN.out]; exact hc5
    refine (wpIn_wide (n := 3)).1 ?_
    refine wpIn_rangeFunc_ownG rfl (by omega) (gf := 55) (lb := #[.pointer (some ⟨wc.heap.size, 0, none⟩)]) rfl trivial (enters_of Tryd.func55 (by kernel_rfl) rfl)
      (back_stops Fence.wide 2 trivial rfl (by omega) ops w wc.heap.size ao k (by rw [HN.out]; exact hn) HO.out w5 hB5 hlt5 hc5') KB.trans (KB.put (by omega) hlt5) (Below.refl _ _) (fun _ => rfl)
      (fun pre W => LI w wc.heap.size gB gD w.heap.size gR gA n d (.slice ao n k) (ls ops d (pre.map It.i)) W)
      (fun _ _ _ => False)
      (li_own w _ _ _ _ _ _ _ _ _ _ _ (by omega))
      (fun _ _ _ _ _ hs _ _ => hs)
      hLI5
      (fun x => { tmps := #[.slice ao n k, .pointer (some ⟨w.heap.size, 0, none⟩), .slice none 0 0, .pointer (some ⟨gD, 0, none⟩), .pointer (some ⟨gB, 0, none⟩), .pointer (some ⟨gA, 0, none⟩), .int .i64 (x.i : Int), undef, undef, undef, .slice ao n k, .slice (some ⟨ge, 0, none⟩) n n, .int .i64 d, u13, u14, u15, u16, .slice ao n k, .func (.func 55) #[] #[.pointer (some ⟨wc.heap.size, 0, none⟩)], .int .i64 (x.i : Int), opV (oa ops x.i) x.aq x.cq, u21, u22, u23, u24, u25, u26, u27, u28, u29, u30, u31, u32, u33, u34, u35, u36, u37, u38, u39, u40, u41, u42, u43, u44, u45, u46, u47, u48, u49, u50, u51, u52, u53, u54, u55, u56, u57, u58, u59, u60], defers := [] }) ?assign ?body ?done ?stop
    case assign =>
      intro l x W K hK
      unfold It.enc
      gi_wp2
      exact hK
    case body =>
      rintro l pre x W hLI hlt
      have hin : x.i < n := by rw [← HN.out]; exact x.hi
      have hsz := hLI.bel.size
      obtain ⟨g, off, aq, cq, hao, hgl0, hoc0⟩ := HO.out.at (oa_some x.hi)
      subst hao
      have hwk := HWk.out _ (List.mem_of_getElem? (oa_some x.hi))
      have HVD : Hid (VD n (ls ops d (pre.map It.i))) := hide (vd_ls _ (fun i hi => by
        obtain ⟨y, -, rfl⟩ := List.mem_map.1 hi
        rw [← HN.out]
        exact y.hi))
      have HSN : Hid (ls ops d ((pre ++ [x]).map It.i) = lst ops d (ls ops d (pre.map It.i)) x.i) := hide (by rw [List.map_append]; exact ls_snoc _ _ _ _)
      obtain ⟨st, hst⟩ : ∃ st, st = ls ops d (pre.map It.i) := ⟨_, rfl⟩
      have hLI' : LI w wc.heap.size gB gD w.heap.size gR gA n d (.slice (some ⟨g, off, none⟩) n k) st W := by rw [hst]; exact hLI
      rw [← hst] at HVD HSN
      clear hLI hst
      have hneD : gR ≠ gD := by omega
      have hwR : w.heap.size <= gR := by omega
      have hwA : w.heap.size <= gA := by omega
      obtain ⟨y0, y1, y2⟩ := box_cells hLI'.box
      obtain ⟨z0, z1, z2⟩ := box_cells hLI'.dep
      have r0 := hLI'.row.cell x.i hin
      have r1 := hLI'.row.frozen x.i
      have r2 := hLI'.row.lt
      have hLI1 := hLI'.setRow hneD hwR x.i d
      obtain ⟨a0, a1, a2⟩ := box_cells hLI1.ops
      have c1 := lWires g (off + x.i * 6) (oa ops x.i) aq cq hwk _ (hoc0.below hLI1.bel)
      have HC3 : Hid (∀ (kk : Nat), kk < n -> ∀ V, Below w.heap.size w V -> Calls Tryd.prog 51 #[.pointer (some ⟨g, off + kk * 6, none⟩)] V fun e w' => e = .returned (.int .i64 (ln (oa ops kk))) /\ w' = V) := hide (fun kk hkk V hb => by
        obtain ⟨g2, off2, aq2, cq2, e2, -, hoc2⟩ := HO.out.at (oa_some (show kk < ops.length by rw [HN.out]; exact hkk))
        simp only [Option.some.injEq, Addr.mk.injEq] at e2
        obtain ⟨rfl, rfl, -⟩ := e2
        exact lLength g (off + kk * 6) (oa ops kk) aq2 cq2 V (hoc2.below hb))
      unfold WPost at c1
      have HAQ : Hid (∀ m, w.heap.size <= m -> ∀ g off, aq = some ⟨g, off, none⟩ -> (oa ops x.i).qs ≠ [] -> g ≠ m) := hide (fun m hm g1 off1 e hq => by
        rcases hoc0.ns with h0 | ⟨g2, off2, e2, h2⟩
        . exact absurd h0 hq
        . rw [e] at e2
          simp only [Option.some.injEq, Addr.mk.injEq] at e2
          obtain ⟨rfl, rfl, -⟩ := e2
          obtain ⟨z, hz⟩ : ∃ z, (oa ops x.i).qs[0]? = some z := ⟨_, List.getElem?_eq_getElem (List.length_pos_iff.2 hq)⟩
          have h3 : g1 < w.heap.size := World.block_lt_of_cell? _ _ (h2 0 z hz)
          omega)
      have HWR := hide (wr_rng hwk)
      have hwl := wr_len hwk
      have HLI1 := hide hLI1
      have hgl1 : g < (W.setCell ⟨gR, x.i, none⟩ (.int .i64 d)).heap.size := Nat.lt_of_lt_of_le hgl0 hLI1.bel.size
      have HWB : Hid (Below w.heap.size W (W.setCell ⟨gR, x.i, none⟩ (.int .i64 d))) := hide ((Below.refl _ W).setCell (p := ⟨gR, x.i, none⟩) hwR _)
      have hxi : (x.i : Int) < (n : Int) := by omega
      clear hoc0 hwk hLI' hLI1
      unfold lst at HSN
      obtain ⟨Wl, hWl⟩ : ∃ Wl, Wl = Lay.wr (oa ops x.i) := ⟨_, rfl⟩
      rw [← hWl] at c1 HWR hwl HSN
      obtain ⟨L, hL⟩ : ∃ L, Wl.length = L := ⟨_, rfl⟩
      have HLL := hide hL
      rw [hL] at c1 hwl
      clear hL hWl
      gi_wp2_with (first
        | (refine ⟨trivial, ?_⟩; gi_at_call 50; refine (CallsIn.inRound l (callsIn_wide.2 c1)).mono ?_; rintro e w6 ⟨aw, cw, rfl, hcw, hNF, hb6⟩; have HNF := hide (And.intro (hNF gA HLI1.out.arr.lt (HAQ.out _ hwA)) (hNF gR HLI1.out.row.lt (HAQ.out _ hwR))); have HLI2 := hide (HLI1.out.kept (W' := w6) (fun g cs t fr hg => hb6.block g (Array.getElem?_eq_some_iff.1 hg).1) (HLI1.out.bel.trans (hb6.mono HLI1.out.bel.size)) hb6.size); have HK2 := hide ((KeepsOthers.setCell W ⟨gR, x.i, none⟩ (.int .i64 d)).trans (keeps_below hb6)); have HW2 := hide (HWB.out.trans (hb6.mono (Nat.le_trans hsz HWB.out.size))); have HBs2 : Hid (w6.heap[wc.heap.size]? = W.heap[wc.heap.size]?) := hide ((hb6.block _ HLI1.out.big).trans (Below.heap_setCell _ _ _ _ (by have := hRl; simp; omega))); clear hNF hb6 c1))
      clear y0 y1 y2 z0 z1 z2 r0 r1 r2 a0 a1 a2 HLI1 HWB hgl1
      gi_loopw [8, 9, 30] (fun _ _ vj wx => ∃ j : Nat, j <= L /\ vj = .int .i64 (j : Int) /\ Hid (LI w wc.heap.size gB gD w.heap.size gR gA n d (.slice (some ⟨g, off, none⟩) n k) ((Wl.take j).foldl (lin ops x.i) (upd st.1 x.i d, st.2)) wx) /\ Hid (NsF wx aw Wl gA /\ NsF wx aw Wl gR) /\ Hid (KeepsOthers W wx) /\ Hid (Below w.heap.size W wx) /\ Hid (wx.heap[wc.heap.size]? = W.heap[wc.heap.size]?)) (fun _ _ vj _ => L - (intOf vj).toNat)
      case atStart => exact ⟨0, Nat.zero_le _, rfl, HLI2, HNF, HK2, HW2, HBs2⟩
      case round =>
        clear HLI2 HNF HK2 HW2 HBs2
        obtain ⟨j, hj, rfl, HLI2, HNF, HK2, HW2, HBs2⟩ := hrel
        by_cases h2 : j < L
        . obtain ⟨z, hz⟩ : ∃ z, Wl[j]? = some z := ⟨_, List.getElem?_eq_getElem (by rw [HLL.out]; exact h2)⟩
          have hz128 := HWR.out z (List.mem_of_getElem? hz)
          obtain ⟨y, rfl⟩ : ∃ y : Nat, z = (y : Int) := ⟨z.toNat, by omega⟩
          obtain ⟨g', off', rfl, hc⟩ := ns_cell HNF.out.1.ns hz
          have hlt' := World.block_lt_of_cell? _ _ hc
          have HVJ : Hid (VD n ((Wl.take j).foldl (lin ops x.i) (upd st.1 x.i d, st.2))) := hide (vd_fold hin _ _ HVD.out)
          have HTK := hide (lin_take (ops := ops) (i := x.i) (s := (upd st.1 x.i d, st.2)) hz)
          obtain ⟨sj, hsj⟩ : ∃ sj, sj = (Wl.take j).foldl (lin ops x.i) (upd st.1 x.i d, st.2) := ⟨_, rfl⟩
          rw [← hsj] at HLI2 HVJ HTK
          clear hsj hz
          have hm0 := HLI2.out.arr.rk.cell y (by omega)
          have hmf := HLI2.out.arr.rk.frozen y
          have hml := HLI2.out.arr.lt
          have hx1 : (y : Int) < 128 := by omega
          have hkk2 : (j : Int) < (L : Int) := by omega
          rcases HVJ.out (y : Int) with e1 | ⟨kk, hk1, e1⟩
          . rw [e1] at hm0
            have HLI3 : Hid (LI w wc.heap.size gB gD w.heap.size gR gA n d (.slice (some ⟨g, off, none⟩) n k) ((Wl.take (j + 1)).foldl (lin ops x.i) (upd st.1 x.i d, st.2)) (wr.setCell ⟨gA, y, none⟩ (.int .i64 (x.i : Int)))) := hide (by
              rw [HTK.out]
              unfold lin
              rw [if_pos e1]
              exact HLI2.out.setArr hwA y _)
            have HN3 := hide (And.intro (HNF.out.1.set y (.int .i64 (x.i : Int))) (nsf_other HNF.out.2 HNF.out.1 y (.int .i64 (x.i : Int))))
            have HK3 := hide (HK2.out.trans (KeepsOthers.setCell wr ⟨gA, y, none⟩ (.int .i64 (x.i : Int))))
            have HW3 := hide (HW2.out.setCell (p := ⟨gA, y, none⟩) hwA (.int .i64 (x.i : Int)))
            have HBs3 : Hid ((wr.setCell ⟨gA, y, none⟩ (.int .i64 (x.i : Int))).heap[wc.heap.size]? = W.heap[wc.heap.size]?) := hide ((Below.heap_setCell _ _ _ _ (by simp; omega)).trans HBs2.out)
            gi_wp2
            go_roundw
            case rel => exact ⟨j + 1, by omega, by simp, HLI3, HN3, HK3, HW3, HBs3⟩
            case measure => simp [intOf]; omega
          . rw [e1] at hm0
            have hkz : ((kk : Int) == -1) = false := by simp
            have hkn : (kk : Int) < (n : Int) := by omega
            obtain ⟨y0, y1, y2⟩ := box_cells HLI2.out.box
            obtain ⟨a0, a1, a2⟩ := box_cells HLI2.out.ops
            have r0 := HLI2.out.row.cell x.i hin
            have r1 := HLI2.out.row.frozen x.i
            have r2 := HLI2.out.row.lt
            have r3 := HLI2.out.row.cell kk hk1
            have c3 := HC3.out kk hk1 wr.drew HLI2.out.bel.drew
            have HS11 : Hid ((fun V : World => V.heap[gB]? = some (.cells #[.slice (some ⟨gR, 0, none⟩) n n] 25 (0, 0)) /\ V.heap[w.heap.size]? = some (.cells #[.slice (some ⟨g, off, none⟩) n k] 22 (0, 0))) wr.drew) := hide ⟨HLI2.out.box, HLI2.out.ops⟩
            have HWM : Hid (∀ v, v = min (sj.1 x.i) (IntKind.i64.wrap (sj.1 kk - ln (oa ops kk))) -> LI w wc.heap.size gB gD w.heap.size gR gA n d (.slice (some ⟨g, off, none⟩) n k) ((Wl.take (j + 1)).foldl (lin ops x.i) (upd st.1 x.i d, st.2)) ((wr.drew.setCell ⟨gR, x.i, none⟩ (.int .i64 v)).setCell ⟨gA, y, none⟩ (.int .i64 (x.i : Int)))) := hide (fun v hv => by
              rw [HTK.out]
              unfold lin
              rw [if_neg (by omega), e1, Int.toNat_natCast, ← hv]
              exact (LI.setRow (W := wr.drew) (HLI2.out.kept (fun _ _ _ _ _ => rfl) HLI2.out.bel.drew (Nat.le_refl _)) hneD hwR x.i v).setArr hwA y _)
            obtain ⟨c11, H11⟩ : ∃ c11 : Code, Hid (c11 = (Code.region 11 #[{ dst := some 39, op := Op.load 25 (Operand.tmp 4), type := 25, pos := "moments.go:56", after := #[], guard := none }, { dst := some 40, op := Op.move (Operand.tmp 6), type := 3, pos := "moments.go:56", after := #[], guard := none }, { dst := some 41, op := Op.load 25 (Operand.tmp 4), type := 25, pos := "moments.go:56", after := #[], guard := none }, { dst := some 42, op := Op.move (Operand.tmp 6), type := 3, pos := "moments.go:56", after := #[], guard := none }, { dst := some 43, op := Op.indexAddr 25 (Operand.tmp 41) (Operand.tmp 42), type := 0, pos := "moments.go:56", after := #[{ on := 2, ground := Ground.data }, { on := 3, ground := Ground.data }], guard := none }, { dst := some 44, op := Op.load 3 (Operand.tmp 43), type := 3, pos := "moments.go:56", after := #[{ on := 4, ground := Ground.data }], guard := none }, { dst := some 45, op := Op.load 25 (Operand.tmp 4), type := 25, pos := "moments.go:56", after := #[], guard := none }, { dst := some 46, op := Op.move (Operand.tmp 9), type := 3, pos := "moments.go:56", after := #[], guard := none }, { dst := some 47, op := Op.indexAddr 25 (Operand.tmp 45) (Operand.tmp 46), type := 0, pos := "moments.go:56", after := #[{ on := 6, ground := Ground.data }, { on := 7, ground := Ground.data }], guard := none }, { dst := some 48, op := Op.load 3 (Operand.tmp 47), type := 3, pos := "moments.go:56", after := #[{ on := 8, ground := Ground.data }], guard := none }, { dst := some 49, op := Op.load 22 (Operand.tmp 1), type := 22, pos := "moments.go:56", after := #[], guard := none }, { dst := some 50, op := Op.move (Operand.tmp 9), type := 3, pos := "moments.go:56", after := #[], guard := none }, { dst := some 51, op := Op.indexAddr 22 (Operand.tmp 49) (Operand.tmp 50), type := 0, pos := "moments.go:56", after := #[{ on := 10, ground := Ground.data }, { on := 11, ground := Ground.data }], guard := none }, { dst := some 52, op := Op.call { callee := Callee.value (Operand.func 51), args := #[Operand.tmp 51], argTypes := #[82] }, type := 3, pos := "moments.go:56", after := #[{ on := 12, ground := Ground.data }], guard := none }, { dst := some 53, op := Op.binOp BinOp.sub 3 (Operand.tmp 48) (Operand.tmp 52) 3, type := 3, pos := "moments.go:56", after := #[{ on := 9, ground := Ground.data }, { on := 13, ground := Ground.data }], guard := none }, { dst := some 54, op := Op.call { callee := Callee.builtin Builtin.min, args := #[Operand.tmp 44, Operand.tmp 53], argTypes := #[3, 3] }, type := 3, pos := "moments.go:56", after := #[{ on := 5, ground := Ground.data }, { on := 14, ground := Ground.data }], guard := none }, { dst := some 55, op := Op.indexAddr 25 (Operand.tmp 39) (Operand.tmp 40), type := 0, pos := "moments.go:56", after := #[{ on := 0, ground := Ground.data }, { on := 1, ground := Ground.data }, { on := 0, ground := Ground.phase }, { on := 1, ground := Ground.phase }, { on := 2, ground := Ground.phase }, { on := 3, ground := Ground.phase }, { on := 4, ground := Ground.phase }, { on := 5, ground := Ground.phase }, { on := 6, ground := Ground.phase }, { on := 7, ground := Ground.phase }, { on := 8, ground := Ground.phase }, { on := 9, ground := Ground.phase }, { on := 10, ground := Ground.phase }, { on := 11, ground := Ground.phase }, { on := 12, ground := Ground.phase }, { on := 13, ground := Ground.phase }, { on := 14, ground := Ground.phase }, { on := 15, ground := Ground.phase }], guard := none }, { dst := none, op := Op.store 3 (Operand.tmp 55) (Operand.tmp 54), type := 0, pos := "moments.go:56", after := #[{ on := 16, ground := Ground.data }, { on := 15, ground := Ground.data }, { on := 13, ground := Ground.chain }, { on := 0, ground := Ground.phase }, { on := 1, ground := Ground.phase }, { on := 2, ground := Ground.phase }, { on := 3, ground := Ground.phase }, { on := 4, ground := Ground.phase }, { on := 5, ground := Ground.phase }, { on := 6, ground := Ground.phase }, { on := 7, ground := Ground.phase }, { on := 8, ground := Ground.phase }, { on := 9, ground := Ground.phase }, { on := 10, ground := Ground.phase }, { on := 11, ground := Ground.phase }, { on := 12, ground := Ground.phase }, { on := 13, ground := Ground.phase }, { on := 14, ground := Ground.phase }, { on := 15, ground := Ground.phase }], guard := none }] true)) := ⟨_, hide rfl⟩
            rw [← H11.out]
            gi_wp2
            rw [H11.out]
            obtain ⟨v, hv⟩ : ∃ v, v = min (sj.1 x.i) (IntKind.i64.wrap (sj.1 kk - ln (oa ops kk))) := ⟨_, rfl⟩
            have HV := hide hv
            have HLI3 := hide (HWM.out v hv)
            have HN3 := hide (And.intro ((nsf_other HNF.out.1 HNF.out.2 x.i (.int .i64 v)).set y (.int .i64 (x.i : Int))) (nsf_other (HNF.out.2.set x.i (.int .i64 v)) (nsf_other HNF.out.1 HNF.out.2 x.i (.int .i64 v)) y (.int .i64 (x.i : Int))))
            have HK3 := hide ((HK2.out.trans (KeepsOthers.drew wr)).trans ((KeepsOthers.setCell wr.drew ⟨gR, x.i, none⟩ (.int .i64 v)).trans (KeepsOthers.setCell _ ⟨gA, y, none⟩ (.int .i64 (x.i : Int)))))
            have HW3 := hide ((HW2.out.drew.setCell (p := ⟨gR, x.i, none⟩) hwR (.int .i64 v)).setCell (p := ⟨gA, y, none⟩) hwA (.int .i64 (x.i : Int)))
            have HBs3 : Hid (((wr.drew.setCell ⟨gR, x.i, none⟩ (.int .i64 v)).setCell ⟨gA, y, none⟩ (.int .i64 (x.i : Int))).heap[wc.heap.size]? = W.heap[wc.heap.size]?) := hide ((Below.heap_setCell _ _ _ _ (by simp; omega)).trans ((Below.heap_setCell _ _ _ _ (by simp; omega)).trans HBs2.out))
            have HS12 : Hid ((fun V : World => V.heap[gB]? = some (.cells #[.slice (some ⟨gR, 0, none⟩) n n] 25 (0, 0)) /\ V.heap[w.heap.size]? = some (.cells #[.slice (some ⟨g, off, none⟩) n k] 22 (0, 0))) (wr.drew.setCell ⟨gR, x.i, none⟩ (.int .i64 v))) := hide (by
              have h := LI.setRow (W := wr.drew) (HLI2.out.kept (fun _ _ _ _ _ => rfl) HLI2.out.bel.drew (Nat.le_refl _)) hneD hwR x.i v
              exact ⟨h.box, h.ops⟩)
            have hm1 : (wr.setCell ⟨gR, x.i, none⟩ (.int .i64 v)).cell? ⟨gA, y, none⟩ = some (.int .i64 (kk : Int)) := by
              have h := LI.setRow (W := wr.drew) (HLI2.out.kept (fun _ _ _ _ _ => rfl) HLI2.out.bel.drew (Nat.le_refl _)) hneD hwR x.i v
              have h2 := h.arr.rk.cell y (by omega)
              simp only at h2
              rw [e1] at h2
              exact h2
            clear HWM HTK HLI2 HNF HK2 HW2 HBs2 hv hm0
            refine region_inR (S := (fun V : World => V.heap[gB]? = some (.cells #[.slice (some ⟨gR, 0, none⟩) n n] 25 (0, 0)) /\ V.heap[w.heap.size]? = some (.cells #[.slice (some ⟨g, off, none⟩) n k] 22 (0, 0)))) (noDef_of (by kernel_rfl)) (by kernel_rfl) HS11.out (fun hHeld => ?_)
            refine take_to (i := 0) (d := 39) (v := ?_) rfl rfl (by kernel_rfl) (by kernel_rfl) (by kernel_rfl) (fun _ _ _ h => h) (Or.inl ⟨by rfl, ?_⟩) (by assumption) ?_
            rotate_left 1
            . intro W hSw
              obtain ⟨q0, q1⟩ := hSw
              obtain ⟨y0, y1, y2⟩ := box_cells q0
              obtain ⟨z0, z1, z2⟩ := box_cells q1
              go_simp
              with_reducible rfl
            simp only [Act.put, List.setIfInBounds_toArray, List.set_cons_zero, List.set_cons_succ]
            refine take_to (i := 1) (d := 40) (v := ?_) rfl rfl (by kernel_rfl) (by kernel_rfl) (by kernel_rfl) (fun _ _ _ h => h) (Or.inl ⟨by rfl, ?_⟩) (by assumption) ?_
            rotate_left 1
            . intro W hSw
              obtain ⟨q0, q1⟩ := hSw
              obtain ⟨y0, y1, y2⟩ := box_cells q0
              obtain ⟨z0, z1, z2⟩ := box_cells q1
              go_simp
              with_reducible rfl
            simp only [Act.put, List.setIfInBounds_toArray, List.set_cons_zero, List.set_cons_succ]
            refine take_to (i := 2) (d := 41) (v := ?_) rfl rfl (by kernel_rfl) (by kernel_rfl) (by kernel_rfl) (fun _ _ _ h => h) (Or.inl ⟨by rfl, ?_⟩) (by assumption) ?_
            rotate_left 1
            . intro W hSw
              obtain ⟨q0, q1⟩ := hSw
              obtain ⟨y0, y1, y2⟩ := box_cells q0
              obtain ⟨z0, z1, z2⟩ := box_cells q1
              go_simp
              with_reducible rfl
            simp only [Act.put, List.setIfInBounds_toArray, List.set_cons_zero, List.set_cons_succ]
            refine take_to (i := 3) (d := 42) (v := ?_) rfl rfl (by kernel_rfl) (by kernel_rfl) (by kernel_rfl) (fun _ _ _ h => h) (Or.inl ⟨by rfl, ?_⟩) (by assumption) ?_
            rotate_left 1
            . intro W hSw
              obtain ⟨q0, q1⟩ := hSw
              obtain ⟨y0, y1, y2⟩ := box_cells q0
              obtain ⟨z0, z1, z2⟩ := box_cells q1
              go_simp
              with_reducible rfl
            simp only [Act.put, List.setIfInBounds_toArray, List.set_cons_zero, List.set_cons_succ]
            refine take_to (i := 4) (d := 43) (v := ?_) rfl rfl (by kernel_rfl) (by kernel_rfl) (by kernel_rfl) (fun _ _ _ h => h) (Or.inl ⟨by rfl, ?_⟩) (by assumption) ?_
            rotate_left 1
            . intro W hSw
              obtain ⟨q0, q1⟩ := hSw
              obtain ⟨y0, y1, y2⟩ := box_cells q0
              obtain ⟨z0, z1, z2⟩ := box_cells q1
              go_simp
              with_reducible rfl
            simp only [Act.put, List.setIfInBounds_toArray, List.set_cons_zero, List.set_cons_succ]
            refine take_to (i := 6) (d := 45) (v := ?_) rfl rfl (by kernel_rfl) (by kernel_rfl) (by kernel_rfl) (fun _ _ _ h => h) (Or.inl ⟨by rfl, ?_⟩) (by assumption) ?_
            rotate_left 1
            . intro W hSw
              obtain ⟨q0, q1⟩ := hSw
              obtain ⟨y0, y1, y2⟩ := box_cells q0
              obtain ⟨z0, z1, z2⟩ := box_cells q1
              go_simp
              with_reducible rfl
            simp only [Act.put, List.setIfInBounds_toArray, List.set_cons_zero, List.set_cons_succ]
            refine take_to (i := 7) (d := 46) (v := ?_) rfl rfl (by kernel_rfl) (by kernel_rfl) (by kernel_rfl) (fun _ _ _ h => h) (Or.inl ⟨by rfl, ?_⟩) (by assumption) ?_
            rotate_left 1
            . intro W hSw
              obtain ⟨q0, q1⟩ := hSw
              obtain ⟨y0, y1, y2⟩ := box_cells q0
              obtain ⟨z0, z1, z2⟩ := box_cells q1
              go_simp
              with_reducible rfl
            simp only [Act.put, List.setIfInBounds_toArray, List.set_cons_zero, List.set_cons_succ]
            refine take_to (i := 8) (d := 47) (v := ?_) rfl rfl (by kernel_rfl) (by kernel_rfl) (by kernel_rfl) (fun _ _ _ h => h) (Or.inl ⟨by rfl, ?_⟩) (by assumption) ?_
            rotate_left 1
            . intro W hSw
              obtain ⟨q0, q1⟩ := hSw
              obtain ⟨y0, y1, y2⟩ := box_cells q0
              obtain ⟨z0, z1, z2⟩ := box_cells q1
              go_simp
              with_reducible rfl
            simp only [Act.put, List.setIfInBounds_toArray, List.set_cons_zero, List.set_cons_succ]
            refine take_to (i := 10) (d := 49) (v := ?_) rfl rfl (by kernel_rfl) (by kernel_rfl) (by kernel_rfl) (fun _ _ _ h => h) (Or.inl ⟨by rfl, ?_⟩) (by assumption) ?_
            rotate_left 1
            . intro W hSw
              obtain ⟨q0, q1⟩ := hSw
              obtain ⟨y0, y1, y2⟩ := box_cells q0
              obtain ⟨z0, z1, z2⟩ := box_cells q1
              go_simp
              with_reducible rfl
            simp only [Act.put, List.setIfInBounds_toArray, List.set_cons_zero, List.set_cons_succ]
            refine take_to (i := 11) (d := 50) (v := ?_) rfl rfl (by kernel_rfl) (by kernel_rfl) (by kernel_rfl) (fun _ _ _ h => h) (Or.inl ⟨by rfl, ?_⟩) (by assumption) ?_
            rotate_left 1
            . intro W hSw
              obtain ⟨q0, q1⟩ := hSw
              obtain ⟨y0, y1, y2⟩ := box_cells q0
              obtain ⟨z0, z1, z2⟩ := box_cells q1
              go_simp
              with_reducible rfl
            simp only [Act.put, List.setIfInBounds_toArray, List.set_cons_zero, List.set_cons_succ]
            refine take_to (i := 12) (d := 51) (v := ?_) rfl rfl (by kernel_rfl) (by kernel_rfl) (by kernel_rfl) (fun _ _ _ h => h) (Or.inl ⟨by rfl, ?_⟩) (by assumption) ?_
            rotate_left 1
            . intro W hSw
              obtain ⟨q0, q1⟩ := hSw
              obtain ⟨y0, y1, y2⟩ := box_cells q0
              obtain ⟨z0, z1, z2⟩ := box_cells q1
              go_simp
              with_reducible rfl
            simp only [Act.put, List.setIfInBounds_toArray, List.set_cons_zero, List.set_cons_succ]
            refine wpAnyH_ready (rs := [5, 9, 13]) (by kernel_rfl) (by simp) ?_
            refine AllReadyH.cons (o := { dst := some 44, op := Op.load 3 (Operand.tmp 43), type := 3, pos := "moments.go:56", after := #[{ on := 4, ground := Ground.data }], guard := none }) rfl (fun K hK => ?_) (AllReadyH.cons (o := { dst := some 48, op := Op.load 3 (Operand.tmp 47), type := 3, pos := "moments.go:56", after := #[{ on := 8, ground := Ground.data }], guard := none }) rfl (fun K hK => ?_) (AllReadyH.cons (o := { dst := some 52, op := Op.call { callee := Callee.value (Operand.func 51), args := #[Operand.tmp 51], argTypes := #[82] }, type := 3, pos := "moments.go:56", after := #[{ on := 12, ground := Ground.data }], guard := none }) rfl (fun K hK => ?_) AllReadyH.nil))
            . go_simp
              refine hK.out _ _ (show (fun V : World => V.heap[gB]? = some (.cells #[.slice (some ⟨gR, 0, none⟩) n n] 25 (0, 0)) /\ V.heap[w.heap.size]? = some (.cells #[.slice (some ⟨g, off, none⟩) n k] 22 (0, 0))) wr.drew from HS11.out) (fun hHeld => ?_)
              clear hK K
              try simp only [Act.put, List.setIfInBounds_toArray, List.set_cons_zero, List.set_cons_succ]
              refine wpAnyH_ready (rs := [9, 13]) (by kernel_rfl) (by simp) ?_
              refine AllReadyH.cons (o := { dst := some 48, op := Op.load 3 (Operand.tmp 47), type := 3, pos := "moments.go:56", after := #[{ on := 8, ground := Ground.data }], guard := none }) rfl (fun K hK => ?_) (AllReadyH.cons (o := { dst := some 52, op := Op.call { callee := Callee.value (Operand.func 51), args := #[Operand.tmp 51], argTypes := #[82] }, type := 3, pos := "moments.go:56", after := #[{ on := 12, ground := Ground.data }], guard := none }) rfl (fun K hK => ?_) AllReadyH.nil)
              . go_simp
                refine hK.out _ _ (show (fun V : World => V.heap[gB]? = some (.cells #[.slice (some ⟨gR, 0, none⟩) n n] 25 (0, 0)) /\ V.heap[w.heap.size]? = some (.cells #[.slice (some ⟨g, off, none⟩) n k] 22 (0, 0))) wr.drew from HS11.out) (fun hHeld => ?_)
                clear hK K
                try simp only [Act.put, List.setIfInBounds_toArray, List.set_cons_zero, List.set_cons_succ]
                refine wpAnyH_ready (rs := [13]) (by kernel_rfl) (by simp) ?_
                refine AllReadyH.cons (o := { dst := some 52, op := Op.call { callee := Callee.value (Operand.func 51), args := #[Operand.tmp 51], argTypes := #[82] }, type := 3, pos := "moments.go:56", after := #[{ on := 12, ground := Ground.data }], guard := none }) rfl (fun K hK => ?_) AllReadyH.nil
                go_simp
                go_at_call 51
                refine c3.mono ?_
                rintro e w9 ⟨rfl, hw9⟩
                obtain rfl := hw9.symm
                go_wp2_with fail
                refine hK.out _ _ (show (fun V : World => V.heap[gB]? = some (.cells #[.slice (some ⟨gR, 0, none⟩) n n] 25 (0, 0)) /\ V.heap[w.heap.size]? = some (.cells #[.slice (some ⟨g, off, none⟩) n k] 22 (0, 0))) wr.drew from HS11.out) (fun hHeld => ?_)
                clear hK K
                try simp only [Act.put, List.setIfInBounds_toArray, List.set_cons_zero, List.set_cons_succ]
                refine take_to (i := 14) (d := 53) (v := ?_) rfl rfl (by kernel_rfl) (by kernel_rfl) (by kernel_rfl) (fun _ _ _ h => h) (Or.inl ⟨by rfl, ?_⟩) (by assumption) ?_
                rotate_left 1
                . intro W hSw
                  obtain ⟨q0, q1⟩ := hSw
                  obtain ⟨y0, y1, y2⟩ := box_cells q0
                  obtain ⟨z0, z1, z2⟩ := box_cells q1
                  go_simp
                  with_reducible rfl
                simp only [Act.put, List.setIfInBounds_toArray, List.set_cons_zero, List.set_cons_succ]
                refine take_to (i := 15) (d := 54) (v := ?_) rfl rfl (by kernel_rfl) (by kernel_rfl) (by kernel_rfl) (fun _ _ _ h => h) (Or.inl ⟨by rfl, ?_⟩) (by assumption) ?_
                rotate_left 1
                . intro W hSw
                  obtain ⟨q0, q1⟩ := hSw
                  obtain ⟨y0, y1, y2⟩ := box_cells q0
                  obtain ⟨z0, z1, z2⟩ := box_cells q1
                  go_simp
                  with_reducible rfl
                simp only [Act.put, List.setIfInBounds_toArray, List.set_cons_zero, List.set_cons_succ]
                refine take_to (i := 16) (d := 55) (v := ?_) rfl rfl (by kernel_rfl) (by kernel_rfl) (by kernel_rfl) (fun _ _ _ h => h) (Or.inl ⟨by rfl, ?_⟩) (by assumption) ?_
                rotate_left 1
                . intro W hSw
                  obtain ⟨q0, q1⟩ := hSw
                  obtain ⟨y0, y1, y2⟩ := box_cells q0
                  obtain ⟨z0, z1, z2⟩ := box_cells q1
                  go_simp
                  with_reducible rfl
                simp only [Act.put, List.setIfInBounds_toArray, List.set_cons_zero, List.set_cons_succ]
                refine wpAnyH_ready (rs := [17]) (by kernel_rfl) (by simp) ?_
                refine AllReadyH.cons (o := { dst := none, op := Op.store 3 (Operand.tmp 55) (Operand.tmp 54), type := 0, pos := "moments.go:56", after := #[{ on := 16, ground := Ground.data }, { on := 15, ground := Ground.data }, { on := 13, ground := Ground.chain }, { on := 0, ground := Ground.phase }, { on := 1, ground := Ground.phase }, { on := 2, ground := Ground.phase }, { on := 3, ground := Ground.phase }, { on := 4, ground := Ground.phase }, { on := 5, ground := Ground.phase }, { on := 6, ground := Ground.phase }, { on := 7, ground := Ground.phase }, { on := 8, ground := Ground.phase }, { on := 9, ground := Ground.phase }, { on := 10, ground := Ground.phase }, { on := 11, ground := Ground.phase }, { on := 12, ground := Ground.phase }, { on := 13, ground := Ground.phase }, { on := 14, ground := Ground.phase }, { on := 15, ground := Ground.phase }], guard := none }) rfl (fun K hK => ?_) AllReadyH.nil
                rw [← HV.out]
                go_simp
                refine hK.out _ _ (show (fun V : World => V.heap[gB]? = some (.cells #[.slice (some ⟨gR, 0, none⟩) n n] 25 (0, 0)) /\ V.heap[w.heap.size]? = some (.cells #[.slice (some ⟨g, off, none⟩) n k] 22 (0, 0))) _ from HS12.out) (fun hHeld => ?_)
                clear hK K
                refine wpAnyH_done (by kernel_rfl) ?_ _
                refine ⟨by simp, ?_⟩
                gi_wp2
                go_roundw
                case rel => exact ⟨j + 1, by omega, by simp, HLI3, HN3, HK3, HW3, HBs3⟩
                case measure => simp [intOf]; omega
              . go_simp
                go_at_call 51
                refine c3.mono ?_
                rintro e w9 ⟨rfl, hw9⟩
                obtain rfl := hw9.symm
                go_wp2_with fail
                refine hK.out _ _ (show (fun V : World => V.heap[gB]? = some (.cells #[.slice (some ⟨gR, 0, none⟩) n n] 25 (0, 0)) /\ V.heap[w.heap.size]? = some (.cells #[.slice (some ⟨g, off, none⟩) n k] 22 (0, 0))) wr.drew from HS11.out) (fun hHeld => ?_)
                clear hK K
                try simp only [Act.put, List.setIfInBounds_toArray, List.set_cons_zero, List.set_cons_succ]
                refine wpAnyH_ready (rs := [9]) (by kernel_rfl) (by simp) ?_
                refine AllReadyH.cons (o := { dst := some 48, op := Op.load 3 (Operand.tmp 47), type := 3, pos := "moments.go:56", after := #[{ on := 8, ground := Ground.data }], guard := none }) rfl (fun K hK => ?_) AllReadyH.nil
                go_simp
                refine hK.out _ _ (show (fun V : World => V.heap[gB]? = some (.cells #[.slice (some ⟨gR, 0, none⟩) n n] 25 (0, 0)) /\ V.heap[w.heap.size]? = some (.cells #[.slice (some ⟨g, off, none⟩) n k] 22 (0, 0))) wr.drew from HS11.out) (fun hHeld => ?_)
                clear hK K
                try simp only [Act.put, List.setIfInBounds_toArray, List.set_cons_zero, List.set_cons_succ]
                refine take_to (i := 14) (d := 53) (v := ?_) rfl rfl (by kernel_rfl) (by kernel_rfl) (by kernel_rfl) (fun _ _ _ h => h) (Or.inl ⟨by rfl, ?_⟩) (by assumption) ?_
                rotate_left 1
                . intro W hSw
                  obtain ⟨q0, q1⟩ := hSw
                  obtain ⟨y0, y1, y2⟩ := box_cells q0
                  obtain ⟨z0, z1, z2⟩ := box_cells q1
                  go_simp
                  with_reducible rfl
                simp only [Act.put, List.setIfInBounds_toArray, List.set_cons_zero, List.set_cons_succ]
                refine take_to (i := 15) (d := 54) (v := ?_) rfl rfl (by kernel_rfl) (by kernel_rfl) (by kernel_rfl) (fun _ _ _ h => h) (Or.inl ⟨by rfl, ?_⟩) (by assumption) ?_
                rotate_left 1
                . intro W hSw
                  obtain ⟨q0, q1⟩ := hSw
                  obtain ⟨y0, y1, y2⟩ := box_cells q0
                  obtain ⟨z0, z1, z2⟩ := box_cells q1
                  go_simp
                  with_reducible rfl
                simp only [Act.put, List.setIfInBounds_toArray, List.set_cons_zero, List.set_cons_succ]
                refine take_to (i := 16) (d := 55) (v := ?_) rfl rfl (by kernel_rfl) (by kernel_rfl) (by kernel_rfl) (fun _ _ _ h => h) (Or.inl ⟨by rfl, ?_⟩) (by assumption) ?_
                rotate_left 1
                . intro W hSw
                  obtain ⟨q0, q1⟩ := hSw
                  obtain ⟨y0, y1, y2⟩ := box_cells q0
                  obtain ⟨z0, z1, z2⟩ := box_cells q1
                  go_simp
                  with_reducible rfl
                simp only [Act.put, List.setIfInBounds_toArray, List.set_cons_zero, List.set_cons_succ]
                refine wpAnyH_ready (rs := [17]) (by kernel_rfl) (by simp) ?_
                refine AllReadyH.cons (o := { dst := none, op := Op.store 3 (Operand.tmp 55) (Operand.tmp 54), type := 0, pos := "moments.go:56", after := #[{ on := 16, ground := Ground.data }, { on := 15, ground := Ground.data }, { on := 13, ground := Ground.chain }, { on := 0, ground := Ground.phase }, { on := 1, ground := Ground.phase }, { on := 2, ground := Ground.phase }, { on := 3, ground := Ground.phase }, { on := 4, ground := Ground.phase }, { on := 5, ground := Ground.phase }, { on := 6, ground := Ground.phase }, { on := 7, ground := Ground.phase }, { on := 8, ground := Ground.phase }, { on := 9, ground := Ground.phase }, { on := 10, ground := Ground.phase }, { on := 11, ground := Ground.phase }, { on := 12, ground := Ground.phase }, { on := 13, ground := Ground.phase }, { on := 14, ground := Ground.phase }, { on := 15, ground := Ground.phase }], guard := none }) rfl (fun K hK => ?_) AllReadyH.nil
                rw [← HV.out]
                go_simp
                refine hK.out _ _ (show (fun V : World => V.heap[gB]? = some (.cells #[.slice (some ⟨gR, 0, none⟩) n n] 25 (0, 0)) /\ V.heap[w.heap.size]? = some (.cells #[.slice (some ⟨g, off, none⟩) n k] 22 (0, 0))) _ from HS12.out) (fun hHeld => ?_)
                clear hK K
                refine wpAnyH_done (by kernel_rfl) ?_ _
                refine ⟨by simp, ?_⟩
                gi_wp2
                go_roundw
                case rel => exact ⟨j + 1, by omega, by simp, HLI3, HN3, HK3, HW3, HBs3⟩
                case measure => simp [intOf]; omega
            . go_simp
              refine hK.out _ _ (show (fun V : World => V.heap[gB]? = some (.cells #[.slice (some ⟨gR, 0, none⟩) n n] 25 (0, 0)) /\ V.heap[w.heap.size]? = some (.cells #[.slice (some ⟨g, off, none⟩) n k] 22 (0, 0))) wr.drew from HS11.out) (fun hHeld => ?_)
              clear hK K
              try simp only [Act.put, List.setIfInBounds_toArray, List.set_cons_zero, List.set_cons_succ]
              refine wpAnyH_ready (rs := [5, 13]) (by kernel_rfl) (by simp) ?_
              refine AllReadyH.cons (o := { dst := some 44, op := Op.load 3 (Operand.tmp 43), type := 3, pos := "moments.go:56", after := #[{ on := 4, ground := Ground.data }], guard := none }) rfl (fun K hK => ?_) (AllReadyH.cons (o := { dst := some 52, op := Op.call { callee := Callee.value (Operand.func 51), args := #[Operand.tmp 51], argTypes := #[82] }, type := 3, pos := "moments.go:56", after := #[{ on := 12, ground := Ground.data }], guard := none }) rfl (fun K hK => ?_) AllReadyH.nil)
              . go_simp
                refine hK.out _ _ (show (fun V : World => V.heap[gB]? = some (.cells #[.slice (some ⟨gR, 0, none⟩) n n] 25 (0, 0)) /\ V.heap[w.heap.size]? = some (.cells #[.slice (some ⟨g, off, none⟩) n k] 22 (0, 0))) wr.drew from HS11.out) (fun hHeld => ?_)
                clear hK K
                try simp only [Act.put, List.setIfInBounds_toArray, List.set_cons_zero, List.set_cons_succ]
                refine wpAnyH_ready (rs := [13]) (by kernel_rfl) (by simp) ?_
                refine AllReadyH.cons (o := { dst := some 52, op := Op.call { callee := Callee.value (Operand.func 51), args := #[Operand.tmp 51], argTypes := #[82] }, type := 3, pos := "moments.go:56", after := #[{ on := 12, ground := Ground.data }], guard := none }) rfl (fun K hK => ?_) AllReadyH.nil
                go_simp
                go_at_call 51
                refine c3.mono ?_
                rintro e w9 ⟨rfl, hw9⟩
                obtain rfl := hw9.symm
                go_wp2_with fail
                refine hK.out _ _ (show (fun V : World => V.heap[gB]? = some (.cells #[.slice (some ⟨gR, 0, none⟩) n n] 25 (0, 0)) /\ V.heap[w.heap.size]? = some (.cells #[.slice (some ⟨g, off, none⟩) n k] 22 (0, 0))) wr.drew from HS11.out) (fun hHeld => ?_)
                clear hK K
                try simp only [Act.put, List.setIfInBounds_toArray, List.set_cons_zero, List.set_cons_succ]
                refine take_to (i := 14) (d := 53) (v := ?_) rfl rfl (by kernel_rfl) (by kernel_rfl) (by kernel_rfl) (fun _ _ _ h => h) (Or.inl ⟨by rfl, ?_⟩) (by assumption) ?_
                rotate_left 1
                . intro W hSw
                  obtain ⟨q0, q1⟩ := hSw
                  obtain ⟨y0, y1, y2⟩ := box_cells q0
                  obtain ⟨z0, z1, z2⟩ := box_cells q1
                  go_simp
                  with_reducible rfl
                simp only [Act.put, List.setIfInBounds_toArray, List.set_cons_zero, List.set_cons_succ]
                refine take_to (i := 15) (d := 54) (v := ?_) rfl rfl (by kernel_rfl) (by kernel_rfl) (by kernel_rfl) (fun _ _ _ h => h) (Or.inl ⟨by rfl, ?_⟩) (by assumption) ?_
                rotate_left 1
                . intro W hSw
                  obtain ⟨q0, q1⟩ := hSw
                  obtain ⟨y0, y1, y2⟩ := box_cells q0
                  obtain ⟨z0, z1, z2⟩ := box_cells q1
                  go_simp
                  with_reducible rfl
                simp only [Act.put, List.setIfInBounds_toArray, List.set_cons_zero, List.set_cons_succ]
                refine take_to (i := 16) (d := 55) (v := ?_) rfl rfl (by kernel_rfl) (by kernel_rfl) (by kernel_rfl) (fun _ _ _ h => h) (Or.inl ⟨by rfl, ?_⟩) (by assumption) ?_
                rotate_left 1
                . intro W hSw
                  obtain ⟨q0, q1⟩ := hSw
                  obtain ⟨y0, y1, y2⟩ := box_cells q0
                  obtain ⟨z0, z1, z2⟩ := box_cells q1
                  go_simp
                  with_reducible rfl
                simp only [Act.put, List.setIfInBounds_toArray, List.set_cons_zero, List.set_cons_succ]
                refine wpAnyH_ready (rs := [17]) (by kernel_rfl) (by simp) ?_
                refine AllReadyH.cons (o := { dst := none, op := Op.store 3 (Operand.tmp 55) (Operand.tmp 54), type := 0, pos := "moments.go:56", after := #[{ on := 16, ground := Ground.data }, { on := 15, ground := Ground.data }, { on := 13, ground := Ground.chain }, { on := 0, ground := Ground.phase }, { on := 1, ground := Ground.phase }, { on := 2, ground := Ground.phase }, { on := 3, ground := Ground.phase }, { on := 4, ground := Ground.phase }, { on := 5, ground := Ground.phase }, { on := 6, ground := Ground.phase }, { on := 7, ground := Ground.phase }, { on := 8, ground := Ground.phase }, { on := 9, ground := Ground.phase }, { on := 10, ground := Ground.phase }, { on := 11, ground := Ground.phase }, { on := 12, ground := Ground.phase }, { on := 13, ground := Ground.phase }, { on := 14, ground := Ground.phase }, { on := 15, ground := Ground.phase }], guard := none }) rfl (fun K hK => ?_) AllReadyH.nil
                rw [← HV.out]
                go_simp
                refine hK.out _ _ (show (fun V : World => V.heap[gB]? = some (.cells #[.slice (some ⟨gR, 0, none⟩) n n] 25 (0, 0)) /\ V.heap[w.heap.size]? = some (.cells #[.slice (some ⟨g, off, none⟩) n k] 22 (0, 0))) _ from HS12.out) (fun hHeld => ?_)
                clear hK K
                refine wpAnyH_done (by kernel_rfl) ?_ _
                refine ⟨by simp, ?_⟩
                gi_wp2
                go_roundw
                case rel => exact ⟨j + 1, by omega, by simp, HLI3, HN3, HK3, HW3, HBs3⟩
                case measure => simp [intOf]; omega
              . go_simp
                go_at_call 51
                refine c3.mono ?_
                rintro e w9 ⟨rfl, hw9⟩
                obtain rfl := hw9.symm
                go_wp2_with fail
                refine hK.out _ _ (show (fun V : World => V.heap[gB]? = some (.cells #[.slice (some ⟨gR, 0, none⟩) n n] 25 (0, 0)) /\ V.heap[w.heap.size]? = some (.cells #[.slice (some ⟨g, off, none⟩) n k] 22 (0, 0))) wr.drew from HS11.out) (fun hHeld => ?_)
                clear hK K
                try simp only [Act.put, List.setIfInBounds_toArray, List.set_cons_zero, List.set_cons_succ]
                refine take_to (i := 14) (d := 53) (v := ?_) rfl rfl (by kernel_rfl) (by kernel_rfl) (by kernel_rfl) (fun _ _ _ h => h) (Or.inl ⟨by rfl, ?_⟩) (by assumption) ?_
                rotate_left 1
                . intro W hSw
                  obtain ⟨q0, q1⟩ := hSw
                  obtain ⟨y0, y1, y2⟩ := box_cells q0
                  obtain ⟨z0, z1, z2⟩ := box_cells q1
                  go_simp
                  with_reducible rfl
                simp only [Act.put, List.setIfInBounds_toArray, List.set_cons_zero, List.set_cons_succ]
                refine wpAnyH_ready (rs := [5]) (by kernel_rfl) (by simp) ?_
                refine AllReadyH.cons (o := { dst := some 44, op := Op.load 3 (Operand.tmp 43), type := 3, pos := "moments.go:56", after := #[{ on := 4, ground := Ground.data }], guard := none }) rfl (fun K hK => ?_) AllReadyH.nil
                go_simp
                refine hK.out _ _ (show (fun V : World => V.heap[gB]? = some (.cells #[.slice (some ⟨gR, 0, none⟩) n n] 25 (0, 0)) /\ V.heap[w.heap.size]? = some (.cells #[.slice (some ⟨g, off, none⟩) n k] 22 (0, 0))) wr.drew from HS11.out) (fun hHeld => ?_)
                clear hK K
                try simp only [Act.put, List.setIfInBounds_toArray, List.set_cons_zero, List.set_cons_succ]
                refine take_to (i := 15) (d := 54) (v := ?_) rfl rfl (by kernel_rfl) (by kernel_rfl) (by kernel_rfl) (fun _ _ _ h => h) (Or.inl ⟨by rfl, ?_⟩) (by assumption) ?_
                rotate_left 1
                . intro W hSw
                  obtain ⟨q0, q1⟩ := hSw
                  obtain ⟨y0, y1, y2⟩ := box_cells q0
                  obtain ⟨z0, z1, z2⟩ := box_cells q1
                  go_simp
                  with_reducible rfl
                simp only [Act.put, List.setIfInBounds_toArray, List.set_cons_zero, List.set_cons_succ]
                refine take_to (i := 16) (d := 55) (v := ?_) rfl rfl (by kernel_rfl) (by kernel_rfl) (by kernel_rfl) (fun _ _ _ h => h) (Or.inl ⟨by rfl, ?_⟩) (by assumption) ?_
                rotate_left 1
                . intro W hSw
                  obtain ⟨q0, q1⟩ := hSw
                  obtain ⟨y0, y1, y2⟩ := box_cells q0
                  obtain ⟨z0, z1, z2⟩ := box_cells q1
                  go_simp
                  with_reducible rfl
                simp only [Act.put, List.setIfInBounds_toArray, List.set_cons_zero, List.set_cons_succ]
                refine wpAnyH_ready (rs := [17]) (by kernel_rfl) (by simp) ?_
                refine AllReadyH.cons (o := { dst := none, op := Op.store 3 (Operand.tmp 55) (Operand.tmp 54), type := 0, pos := "moments.go:56", after := #[{ on := 16, ground := Ground.data }, { on := 15, ground := Ground.data }, { on := 13, ground := Ground.chain }, { on := 0, ground := Ground.phase }, { on := 1, ground := Ground.phase }, { on := 2, ground := Ground.phase }, { on := 3, ground := Ground.phase }, { on := 4, ground := Ground.phase }, { on := 5, ground := Ground.phase }, { on := 6, ground := Ground.phase }, { on := 7, ground := Ground.phase }, { on := 8, ground := Ground.phase }, { on := 9, ground := Ground.phase }, { on := 10, ground := Ground.phase }, { on := 11, ground := Ground.phase }, { on := 12, ground := Ground.phase }, { on := 13, ground := Ground.phase }, { on := 14, ground := Ground.phase }, { on := 15, ground := Ground.phase }], guard := none }) rfl (fun K hK => ?_) AllReadyH.nil
                rw [← HV.out]
                go_simp
                refine hK.out _ _ (show (fun V : World => V.heap[gB]? = some (.cells #[.slice (some ⟨gR, 0, none⟩) n n] 25 (0, 0)) /\ V.heap[w.heap.size]? = some (.cells #[.slice (some ⟨g, off, none⟩) n k] 22 (0, 0))) _ from HS12.out) (fun hHeld => ?_)
                clear hK K
                refine wpAnyH_done (by kernel_rfl) ?_ _
                refine ⟨by simp, ?_⟩
                gi_wp2
                go_roundw
                case rel => exact ⟨j + 1, by omega, by simp, HLI3, HN3, HK3, HW3, HBs3⟩
                case measure => simp [intOf]; omega
            . go_simp
              go_at_call 51
              refine c3.mono ?_
              rintro e w9 ⟨rfl, hw9⟩
              obtain rfl := hw9.symm
              go_wp2_with fail
              refine hK.out _ _ (show (fun V : World => V.heap[gB]? = some (.cells #[.slice (some ⟨gR, 0, none⟩) n n] 25 (0, 0)) /\ V.heap[w.heap.size]? = some (.cells #[.slice (some ⟨g, off, none⟩) n k] 22 (0, 0))) wr.drew from HS11.out) (fun hHeld => ?_)
              clear hK K
              try simp only [Act.put, List.setIfInBounds_toArray, List.set_cons_zero, List.set_cons_succ]
              refine wpAnyH_ready (rs := [5, 9]) (by kernel_rfl) (by simp) ?_
              refine AllReadyH.cons (o := { dst := some 44, op := Op.load 3 (Operand.tmp 43), type := 3, pos := "moments.go:56", after := #[{ on := 4, ground := Ground.data }], guard := none }) rfl (fun K hK => ?_) (AllReadyH.cons (o := { dst := some 48, op := Op.load 3 (Operand.tmp 47), type := 3, pos := "moments.go:56", after := #[{ on := 8, ground := Ground.data }], guard := none }) rfl (fun K hK => ?_) AllReadyH.nil)
              . go_simp
                refine hK.out _ _ (show (fun V : World => V.heap[gB]? = some (.cells #[.slice (some ⟨gR, 0, none⟩) n n] 25 (0, 0)) /\ V.heap[w.heap.size]? = some (.cells #[.slice (some ⟨g, off, none⟩) n k] 22 (0, 0))) wr.drew from HS11.out) (fun hHeld => ?_)
                clear hK K
                try simp only [Act.put, List.setIfInBounds_toArray, List.set_cons_zero, List.set_cons_succ]
                refine wpAnyH_ready (rs := [9]) (by kernel_rfl) (by simp) ?_
                refine AllReadyH.cons (o := { dst := some 48, op := Op.load 3 (Operand.tmp 47), type := 3, pos := "moments.go:56", after := #[{ on := 8, ground := Ground.data }], guard := none }) rfl (fun K hK => ?_) AllReadyH.nil
                go_simp
                refine hK.out _ _ (show (fun V : World => V.heap[gB]? = some (.cells #[.slice (some ⟨gR, 0, none⟩) n n] 25 (0, 0)) /\ V.heap[w.heap.size]? = some (.cells #[.slice (some ⟨g, off, none⟩) n k] 22 (0, 0))) wr.drew from HS11.out) (fun hHeld => ?_)
                clear hK K
                try simp only [Act.put, List.setIfInBounds_toArray, List.set_cons_zero, List.set_cons_succ]
                refine take_to (i := 14) (d := 53) (v := ?_) rfl rfl (by kernel_rfl) (by kernel_rfl) (by kernel_rfl) (fun _ _ _ h => h) (Or.inl ⟨by rfl, ?_⟩) (by assumption) ?_
                rotate_left 1
                . intro W hSw
                  obtain ⟨q0, q1⟩ := hSw
                  obtain ⟨y0, y1, y2⟩ := box_cells q0
                  obtain ⟨z0, z1, z2⟩ := box_cells q1
                  go_simp
                  with_reducible rfl
                simp only [Act.put, List.setIfInBounds_toArray, List.set_cons_zero, List.set_cons_succ]
                refine take_to (i := 15) (d := 54) (v := ?_) rfl rfl (by kernel_rfl) (by kernel_rfl) (by kernel_rfl) (fun _ _ _ h => h) (Or.inl ⟨by rfl, ?_⟩) (by assumption) ?_
                rotate_left 1
                . intro W hSw
                  obtain ⟨q0, q1⟩ := hSw
                  obtain ⟨y0, y1, y2⟩ := box_cells q0
                  obtain ⟨z0, z1, z2⟩ := box_cells q1
                  go_simp
                  with_reducible rfl
                simp only [Act.put, List.setIfInBounds_toArray, List.set_cons_zero, List.set_cons_succ]
                refine take_to (i := 16) (d := 55) (v := ?_) rfl rfl (by kernel_rfl) (by kernel_rfl) (by kernel_rfl) (fun _ _ _ h => h) (Or.inl ⟨by rfl, ?_⟩) (by assumption) ?_
                rotate_left 1
                . intro W hSw
                  obtain ⟨q0, q1⟩ := hSw
                  obtain ⟨y0, y1, y2⟩ := box_cells q0
                  obtain ⟨z0, z1, z2⟩ := box_cells q1
                  go_simp
                  with_reducible rfl
                simp only [Act.put, List.setIfInBounds_toArray, List.set_cons_zero, List.set_cons_succ]
                refine wpAnyH_ready (rs := [17]) (by kernel_rfl) (by simp) ?_
                refine AllReadyH.cons (o := { dst := none, op := Op.store 3 (Operand.tmp 55) (Operand.tmp 54), type := 0, pos := "moments.go:56", after := #[{ on := 16, ground := Ground.data }, { on := 15, ground := Ground.data }, { on := 13, ground := Ground.chain }, { on := 0, ground := Ground.phase }, { on := 1, ground := Ground.phase }, { on := 2, ground := Ground.phase }, { on := 3, ground := Ground.phase }, { on := 4, ground := Ground.phase }, { on := 5, ground := Ground.phase }, { on := 6, ground := Ground.phase }, { on := 7, ground := Ground.phase }, { on := 8, ground := Ground.phase }, { on := 9, ground := Ground.phase }, { on := 10, ground := Ground.phase }, { on := 11, ground := Ground.phase }, { on := 12, ground := Ground.phase }, { on := 13, ground := Ground.phase }, { on := 14, ground := Ground.phase }, { on := 15, ground := Ground.phase }], guard := none }) rfl (fun K hK => ?_) AllReadyH.nil
                rw [← HV.out]
                go_simp
                refine hK.out _ _ (show (fun V : World => V.heap[gB]? = some (.cells #[.slice (some ⟨gR, 0, none⟩) n n] 25 (0, 0)) /\ V.heap[w.heap.size]? = some (.cells #[.slice (some ⟨g, off, none⟩) n k] 22 (0, 0))) _ from HS12.out) (fun hHeld => ?_)
                clear hK K
                refine wpAnyH_done (by kernel_rfl) ?_ _
                refine ⟨by simp, ?_⟩
                gi_wp2
                go_roundw
                case rel => exact ⟨j + 1, by omega, by simp, HLI3, HN3, HK3, HW3, HBs3⟩
                case measure => simp [intOf]; omega
              . go_simp
                refine hK.out _ _ (show (fun V : World => V.heap[gB]? = some (.cells #[.slice (some ⟨gR, 0, none⟩) n n] 25 (0, 0)) /\ V.heap[w.heap.size]? = some (.cells #[.slice (some ⟨g, off, none⟩) n k] 22 (0, 0))) wr.drew from HS11.out) (fun hHeld => ?_)
                clear hK K
                try simp only [Act.put, List.setIfInBounds_toArray, List.set_cons_zero, List.set_cons_succ]
                refine take_to (i := 14) (d := 53) (v := ?_) rfl rfl (by kernel_rfl) (by kernel_rfl) (by kernel_rfl) (fun _ _ _ h => h) (Or.inl ⟨by rfl, ?_⟩) (by assumption) ?_
                rotate_left 1
                . intro W hSw
                  obtain ⟨q0, q1⟩ := hSw
                  obtain ⟨y0, y1, y2⟩ := box_cells q0
                  obtain ⟨z0, z1, z2⟩ := box_cells q1
                  go_simp
                  with_reducible rfl
                simp only [Act.put, List.setIfInBounds_toArray, List.set_cons_zero, List.set_cons_succ]
                refine wpAnyH_ready (rs := [5]) (by kernel_rfl) (by simp) ?_
                refine AllReadyH.cons (o := { dst := some 44, op := Op.load 3 (Operand.tmp 43), type := 3, pos := "moments.go:56", after := #[{ on := 4, ground := Ground.data }], guard := none }) rfl (fun K hK => ?_) AllReadyH.nil
                go_simp
                refine hK.out _ _ (show (fun V : World => V.heap[gB]? = some (.cells #[.slice (some ⟨gR, 0, none⟩) n n] 25 (0, 0)) /\ V.heap[w.heap.size]? = some (.cells #[.slice (some ⟨g, off, none⟩) n k] 22 (0, 0))) wr.drew from HS11.out) (fun hHeld => ?_)
                clear hK K
                try simp only [Act.put, List.setIfInBounds_toArray, List.set_cons_zero, List.set_cons_succ]
                refine take_to (i := 15) (d := 54) (v := ?_) rfl rfl (by kernel_rfl) (by kernel_rfl) (by kernel_rfl) (fun _ _ _ h => h) (Or.inl ⟨by rfl, ?_⟩) (by assumption) ?_
                rotate_left 1
                . intro W hSw
                  obtain ⟨q0, q1⟩ := hSw
                  obtain ⟨y0, y1, y2⟩ := box_cells q0
                  obtain ⟨z0, z1, z2⟩ := box_cells q1
                  go_simp
                  with_reducible rfl
                simp only [Act.put, List.setIfInBounds_toArray, List.set_cons_zero, List.set_cons_succ]
                refine take_to (i := 16) (d := 55) (v := ?_) rfl rfl (by kernel_rfl) (by kernel_rfl) (by kernel_rfl) (fun _ _ _ h => h) (Or.inl ⟨by rfl, ?_⟩) (by assumption) ?_
                rotate_left 1
                . intro W hSw
                  obtain ⟨q0, q1⟩ := hSw
                  obtain ⟨y0, y1, y2⟩ := box_cells q0
                  obtain ⟨z0, z1, z2⟩ := box_cells q1
                  go_simp
                  with_reducible rfl
                simp only [Act.put, List.setIfInBounds_toArray, List.set_cons_zero, List.set_cons_succ]
                refine wpAnyH_ready (rs := [17]) (by kernel_rfl) (by simp) ?_
                refine AllReadyH.cons (o := { dst := none, op := Op.store 3 (Operand.tmp 55) (Operand.tmp 54), type := 0, pos := "moments.go:56", after := #[{ on := 16, ground := Ground.data }, { on := 15, ground := Ground.data }, { on := 13, ground := Ground.chain }, { on := 0, ground := Ground.phase }, { on := 1, ground := Ground.phase }, { on := 2, ground := Ground.phase }, { on := 3, ground := Ground.phase }, { on := 4, ground := Ground.phase }, { on := 5, ground := Ground.phase }, { on := 6, ground := Ground.phase }, { on := 7, ground := Ground.phase }, { on := 8, ground := Ground.phase }, { on := 9, ground := Ground.phase }, { on := 10, ground := Ground.phase }, { on := 11, ground := Ground.phase }, { on := 12, ground := Ground.phase }, { on := 13, ground := Ground.phase }, { on := 14, ground := Ground.phase }, { on := 15, ground := Ground.phase }], guard := none }) rfl (fun K hK => ?_) AllReadyH.nil
                rw [← HV.out]
                go_simp
                refine hK.out _ _ (show (fun V : World => V.heap[gB]? = some (.cells #[.slice (some ⟨gR, 0, none⟩) n n] 25 (0, 0)) /\ V.heap[w.heap.size]? = some (.cells #[.slice (some ⟨g, off, none⟩) n k] 22 (0, 0))) _ from HS12.out) (fun hHeld => ?_)
                clear hK K
                refine wpAnyH_done (by kernel_rfl) ?_ _
                refine ⟨by simp, ?_⟩
                gi_wp2
                go_roundw
                case rel => exact ⟨j + 1, by omega, by simp, HLI3, HN3, HK3, HW3, HBs3⟩
                case measure => simp [intOf]; omega
        . obtain rfl : j = L := by omega
          gi_wp2
          refine ⟨HK2.out.from _, ⟨HW2.out, HBs2.out⟩, ?_⟩
          show LI w wc.heap.size gB gD w.heap.size gR gA n d _ (ls ops d ((pre ++ [x]).map It.i)) _
          rw [HSN.out]
          have := HLI2.out
          rw [← HLL.out, List.take_length] at this
          exact this
    case done =>
      rintro D ys W hD hS hLI hK
      have hS' : ys.map It.i = (List.range n).reverse := by rw [← HN.out]; exact hS
      have hc := cell_of_row _ _ 0 _ _ _ hLI.box
      simp only [List.getElem?_toArray, List.getElem?_cons_zero] at hc
      have hls : ls ops d (ys.map It.i) = (fun j => if n - n <= j /\ j < n then fl j else 0, fun x => lb ops x n) := by
        have := HLS.out n (Nat.le_refl _)
        rw [List.take_of_length_le (by simp)] at this
        rw [hS']
        exact this
      have HRW : Hid (Rk W gR 3 n (fun j => .int .i64 (fl j))) := hide (by
        have := hLI.row
        rw [hls] at this
        exact this.congr fun j hj => by simp only; rw [if_pos (by omega)])
      have HBL := hide hLI.bel
      clear hS hS' hls hLI
      go_wp2_with fail
      refine ⟨by simp, .inl ⟨_, _, rfl, run_takeDeferred hK, ?_⟩⟩
      have hRW : Rk (W.putObj D (.deferred none)) gR 3 n (fun j => .int .i64 (fl j)) := HRW.out.of_block ((grownBy_putObj' W D (.deferred none)).block gR HRW.out.lt (fun e => by
        cases e
        obtain ⟨c, h1, -⟩ := HRW.out
        rw [hK] at h1
        cases h1))
      exact ⟨_, results_tmp rfl _ _ _, gR, rfl, hRW, by omega, HBL.out.trans (belowK_b (w := w) (Nat.le_refl _) W D _ _ (by omega) hK rfl rfl)⟩
    case stop =>
      rintro D c pre W _ _ h _
      exact h.elim
end Go.Proofs.YthndpbjplcphpaaDoor.Lay
