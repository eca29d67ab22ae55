import Derived.Test.YtnghfdnlcnocjaaGreatDoorE4c0f28b6
import Derived.Sort.LoopGhostIn
set_option maxRecDepth 100000
set_option maxHeartbeats 2000000
namespace Go.Proofs.YtnghfdnlcnocjaaGreatDoor.Cir
open Go.RowKit Go.Shelf Go.Proofs.YtnghfdnlcnocjaaGreatDoor.Oct Go.Proofs.YtnghfdnlcnocjaaGreatDoor.Tok Go.Proofs.YtnghfdnlcnocjaaGreatDoor.Gt
attribute [local go_sem] Oper.semAt_some
def SeqOwn {α : Type} (P : Program) (gf : Nat) (lb : Array Value) (encs : α -> Array Value) (Kp : World -> World -> Prop) (xs : List α) (w : World) : Prop :=
  ∀ (l : Nat) (J Jx : List α -> World -> Prop) (W : World), Below w.heap.size w W -> OwnFrom W.heap.size J -> OwnFrom W.heap.size Jx ->
    (∀ pre x W1, J pre W1 -> x ∈ xs -> pre.length < xs.length -> YieldAt Fence.wide 1 P l (encs x) W1 fun e W' => KeepsFrom W.heap.size W1 W' /\ ((e = .returned (.bool true) /\ J (pre ++ [x]) W' /\ Kp W1 W') ∨ (e = .returned (.bool false) /\ Jx (pre ++ [x]) W'))) ->
    J [] W -> CallsIn Fence.wide 2 P gf (#[.func (.yield l) #[] #[]] ++ lb) W fun e W' => (∃ v, e = .returned v) /\ (J xs W' ∨ ∃ pre, pre <+: xs /\ Jx pre W')
def RcOk (D : Nat) (r : Loop) (W : World) : Prop := W.heap[D]? = some (.deferred (some [])) /\ W.heap[D + 1]? = some (.loop r)
theorem RcOk.put {D : Nat} {r : Loop} {W : World} (h : RcOk D r W) (r' : Loop) : RcOk D r' (W.putObj (D + 1) (.loop r')) := ⟨(World.putObj_heap_other (by omega)).trans h.1, World.putObj_heap_same (Array.getElem?_eq_some_iff.1 h.2).1⟩
theorem RcOk.keep {D : Nat} {r : Loop} {W W' : World} (h : RcOk D r W) (k : KeepsFrom D W W') : RcOk D r W' := ⟨k.same _ _ (Nat.le_refl _) h.1 rfl, k.same _ _ (by omega) h.2 rfl⟩
theorem RcOk.own {D : Nat} {r : Loop} {W W' : World} {row : Option Nat} (h : RcOk D r W) (hg : W.grownBy W' row) (hr : ∀ k, row = some k -> D + 2 <= k) : RcOk D r W' :=
  ⟨(hg.block _ (Array.getElem?_eq_some_iff.1 h.1).1 (fun e => by have := hr _ e.symm; omega)).trans h.1, (hg.block _ (Array.getElem?_eq_some_iff.1 h.2).1 (fun e => by have := hr _ e.symm; omega)).trans h.2⟩
theorem keeps_rc {D : Nat} {W : World} (o : Obj) : KeepsFrom (D + 2) W (W.putObj (D + 1) o) := ⟨by simp, fun k _ hk h _ => (World.putObj_heap_other (by omega)).trans h⟩
theorem keeps_later {B B' : Nat} {W W' : World} (h : KeepsFrom B W W') (hb : B <= B') : KeepsFrom B' W W' := ⟨h.size, fun k o hk => h.same k o (Nat.le_trans hb hk)⟩
theorem own_later {β : Type} {B B' : Nat} {I : β -> World -> Prop} (h : OwnFrom B I) (hb : B <= B') : OwnFrom B' I := fun s W W' row hs hg hr => h s W W' row hs hg (fun r e => ⟨Nat.le_trans hb (hr r e).1, (hr r e).2⟩)
theorem yield_own {α : Type} {P : Program} {D fn : Nat} {tmps : Array Value} {ps : Array Tmp} {assign body : Code} {encs : α -> Array Value} {Kp : World -> World -> Prop} {I : List α -> World -> Prop} {Ix : Code -> List α -> World -> Prop} (hps : ∀ x, (encs x).size = ps.size)
    (hKt : ∀ {A B C : World}, Kp A B -> Kp B C -> Kp A C) (hKb : ∀ (W : World) (l : Nat) (o o' : Obj), D <= l -> W.heap[l]? = some o -> o.isCells = false -> Kp W (W.putObj l o')) (hI : OwnFrom D I) (hIx : ∀ c, OwnFrom D (Ix c)) {a1 : Act} {pre : List α} {x : α} {W : World}
    (hassign : ∀ (K : Act -> World -> Prop), K a1 W -> assign.wpIn (Fence.wide.inRound (D + 1)) 1 P (Exit.then K (fun _ _ _ => False)) { tmps := (ps.zip (encs x)).foldl (fun t (p, v) => t.setIfInBounds p v) tmps, defers := [] } W)
    (hbody : ∀ V, I pre V -> body.wpIn (Fence.wide.inRound (D + 1)) 1 P (ownPostG D Kp I Ix (pre ++ [x]) V) a1 V)
    (hi : I pre W) (hr : RcOk D ⟨.ready, none, fn, tmps, ps, assign, body, D⟩ W) :
    YieldAt Fence.wide 1 P (D + 1) (encs x) W fun e W' => KeepsFrom (D + 2) W W' /\ ((e = .returned (.bool true) /\ (I (pre ++ [x]) W' /\ RcOk D ⟨.ready, none, fn, tmps, ps, assign, body, D⟩ W') /\ Kp W W') ∨ (e = .returned (.bool false) /\ ∃ c, Ix c (pre ++ [x]) W' /\ RcOk D ⟨.done, some c, fn, tmps, ps, assign, body, D⟩ W')) := by
  refine ⟨fn, _, assign, body, run_yield hr.2 (hps x), roundIn_of_wpIn trivial (hassign _ ⟨_, run_beginRound hr.2 rfl, ?_⟩)⟩
  have hr2 := hr.put ⟨.busy, none, fn, tmps, ps, assign, body, D⟩
  have hi2 := hI.putObj (.loop ⟨.busy, none, fn, tmps, ps, assign, body, D⟩) hi (Nat.le_succ D) hr.2 rfl
  have hk2 := hKb W (D + 1) _ (.loop ⟨.busy, none, fn, tmps, ps, assign, body, D⟩) (Nat.le_succ D) hr.2 rfl
  have hf2 : KeepsFrom (D + 2) W (W.putObj (D + 1) (.loop ⟨.busy, none, fn, tmps, ps, assign, body, D⟩)) := keeps_rc _
  refine wpIn_mono (hbody _ hi2) ?_
  intro e a3 W3 hp
  have out : ∀ c, KeepsFrom D (W.putObj (D + 1) (.loop ⟨.busy, none, fn, tmps, ps, assign, body, D⟩)) W3 -> Ix c (pre ++ [x]) W3 ->
      KeepsFrom (D + 2) W (W3.putObj (D + 1) (.loop ⟨.done, some c, fn, tmps, ps, assign, body, D⟩)) /\ Ix c (pre ++ [x]) (W3.putObj (D + 1) (.loop ⟨.done, some c, fn, tmps, ps, assign, body, D⟩)) /\ RcOk D ⟨.done, some c, fn, tmps, ps, assign, body, D⟩ (W3.putObj (D + 1) (.loop ⟨.done, some c, fn, tmps, ps, assign, body, D⟩)) := fun c h3 h4 =>
    have q := hr2.keep h3
    ⟨(hf2.trans (keeps_later h3 (by omega))).trans (keeps_rc _), (hIx c).putObj _ h4 (Nat.le_succ D) q.2 rfl, q.put _⟩
  cases e with
  | normal =>
    obtain ⟨h3, h4, h5⟩ := hp
    have q := hr2.keep h3
    exact ⟨_, _, run_endRound none q.2, (hf2.trans (keeps_later h3 (by omega))).trans (keeps_rc _), .inl ⟨rfl, ⟨hI.putObj _ h5 (Nat.le_succ D) q.2 rfl, q.put _⟩, hKt (hKt hk2 h4) (hKb _ _ _ _ (Nat.le_succ D) q.2 rfl)⟩⟩
  | ret => exact ⟨_, _, run_endRound (some .ret) (hr2.keep hp.1).2, (out _ hp.1 hp.2).1, .inr ⟨rfl, _, (out _ hp.1 hp.2).2⟩⟩
  | exit id => exact ⟨_, _, run_endRound (some (.exit id)) (hr2.keep hp.1).2, (out _ hp.1 hp.2).1, .inr ⟨rfl, _, (out _ hp.1 hp.2).2⟩⟩
  | goto t => exact ⟨_, _, run_endRound (some (.goto t)) (hr2.keep hp.1).2, (out _ hp.1 hp.2).1, .inr ⟨rfl, _, (out _ hp.1 hp.2).2⟩⟩
  | panic ch => exact hp.elim
  | outgrown => exact hp.elim
theorem range_own {α : Type} {P : Program} {n : Nat} {g : Operand} {ps : Array Tmp} {assign body : Code} {Q : Exit -> Act -> World -> Prop} {a : Act} {w : World} {gf : Nat} {lb : Array Value} (hg : a.eval g = .func (.func gf) #[] lb) (eg : ∀ args w, (callFunc gf args).run P w = .ok (.enter gf args) w)
    {encs : α -> Array Value} {Kp : World -> World -> Prop} {xs : List α} (hseq : SeqOwn P gf lb encs Kp xs w) (hps : ∀ x, (encs x).size = ps.size)
    (hKt : ∀ {A B C : World}, Kp A B -> Kp B C -> Kp A C) (hKb : ∀ (W : World) (l : Nat) (o o' : Obj), w.heap.size <= l -> W.heap[l]? = some o -> o.isCells = false -> Kp W (W.putObj l o')) (I : List α -> World -> Prop) (Ix : Code -> List α -> World -> Prop) (hI : OwnFrom w.heap.size I) (hIx : ∀ c, OwnFrom w.heap.size (Ix c)) (h0 : I [] w) (a1 : α -> Act)
    (hassign : ∀ (l : Nat) (x : α) (W : World) (K : Act -> World -> Prop), K (a1 x) W -> assign.wpIn (Fence.wide.inRound l) 1 P (Exit.then K (fun _ _ _ => False)) { tmps := (ps.zip (encs x)).foldl (fun t (p, v) => t.setIfInBounds p v) a.tmps, defers := [] } W)
    (hbody : ∀ (l : Nat) (pre : List α) (x : α) (W : World), I pre W -> x ∈ xs -> pre.length < xs.length -> body.wpIn (Fence.wide.inRound l) 1 P (ownPostG w.heap.size Kp I Ix (pre ++ [x]) W) (a1 x) W)
    (hdone : ∀ (D : Nat) (W : World), w.heap.size <= D -> I xs W -> W.heap[D]? = some (.deferred (some [])) -> Q .normal { a with defers := { target := .collected D, args := #[] } :: a.defers } W)
    (hstop : ∀ (D : Nat) (c : Code) (pre : List α) (W : World), w.heap.size <= D -> pre <+: xs -> Ix c pre W -> W.heap[D]? = some (.deferred (some [])) -> c.wpIn Fence.wide n P Q { a with defers := { target := .collected D, args := #[] } :: a.defers } W) :
    (Code.rangeFunc g ps assign body).wpIn Fence.wide n P Q a w := by
  refine wpIn_rangeFunc (fun fn _ => ?_)
  have hr0 : RcOk w.heap.size ⟨.ready, none, fn, a.tmps, ps, assign, body, w.heap.size⟩ ((w.alloc (.deferred (some []))).alloc (.loop ⟨.ready, none, fn, a.tmps, ps, assign, body, w.heap.size⟩)) :=
    ⟨(Below.heap_alloc _ _ _ (by simp)).trans (World.alloc_heap_new w _), by have := World.alloc_heap_new (w.alloc (.deferred (some []))) (.loop ⟨.ready, none, fn, a.tmps, ps, assign, body, w.heap.size⟩); rwa [World.size_alloc] at this⟩
  have hi0 := hI.alloc (.loop ⟨.ready, none, fn, a.tmps, ps, assign, body, w.heap.size⟩) (hI.alloc (.deferred (some [])) h0)
  have hb0 : Below w.heap.size w ((w.alloc (.deferred (some []))).alloc (.loop ⟨.ready, none, fn, a.tmps, ps, assign, body, w.heap.size⟩)) := ((Below.refl _ w).alloc (Nat.le_refl _) _).alloc (by simp) _
  have hz0 : ((w.alloc (.deferred (some []))).alloc (.loop ⟨.ready, none, fn, a.tmps, ps, assign, body, w.heap.size⟩)).heap.size = w.heap.size + 2 := by simp
  have he := run_enterLoop_outer (P := P) (w := w) fn a.tmps ps assign body
  generalize (w.alloc (.deferred (some []))).alloc (.loop ⟨.ready, none, fn, a.tmps, ps, assign, body, w.heap.size⟩) = W1 at *
  refine ⟨w.heap.size + 1, [{ target := .collected w.heap.size, args := #[] }], W1, { target := .fn (.func gf) lb, args := #[.func (.yield (w.heap.size + 1)) #[] #[]] }, W1, gf, #[.func (.yield (w.heap.size + 1)) #[] #[]] ++ lb, W1, he, ?_, fun _ _ => trivial, ?_, fun e => (nomatch (show (none : Option Nat).isSome = true from e)), ?_⟩
  . simp only [resolve, hg]
    simp [go_sem]
  . simp [invoke, go_sem, eg]
  refine callsIn_wide.2 (callsIn_wide.1 ((hseq (w.heap.size + 1) (fun pre W => I pre W /\ RcOk w.heap.size ⟨.ready, none, fn, a.tmps, ps, assign, body, w.heap.size⟩ W) (fun pre W => ∃ c, Ix c pre W /\ RcOk w.heap.size ⟨.done, some c, fn, a.tmps, ps, assign, body, w.heap.size⟩ W) W1 hb0 ?_ ?_ ?_ ⟨hi0, hr0⟩).mono ?_))
  . rw [hz0]
    exact fun s A B row hs hg hr => ⟨own_later hI (by omega) s A B row hs.1 hg hr, hs.2.own hg (fun k e => (hr k e).1)⟩
  . rw [hz0]
    rintro s A B row ⟨c, h1, h2⟩ hg hr
    exact ⟨c, own_later (hIx c) (by omega) s A B row h1 hg hr, h2.own hg (fun k e => (hr k e).1)⟩
  . rintro pre x W ⟨h1, h2⟩ hm h3
    rw [hz0]
    exact yield_own (Kp := Kp) hps (fun h k => hKt h k) hKb hI hIx (hassign _ x W) (fun V hV => hbody _ pre x V hV hm h3) h1 h2
  . rintro e W2 ⟨⟨v, rfl⟩, h | ⟨pre, hp, c, h1, h2⟩⟩
    . exact ⟨none, _, run_endLoop h.2.2 (by simp), hdone _ _ (Nat.le_refl _) (hI.putObj _ h.1 (Nat.le_succ _) h.2.2 rfl) ((World.putObj_heap_other (by omega)).trans h.2.1)⟩
    . exact ⟨some c, _, run_endLoop h2.2 (by simp), hstop _ c pre _ (Nat.le_refl _) hp ((hIx c).putObj _ h1 (Nat.le_succ _) h2.2 rfl) ((World.putObj_heap_other (by omega)).trans h2.1)⟩
theorem cEach1M (l Bs : Nat) (Kp : World -> World -> Prop) (a : Ag) (xs : List N64) (hxs : xs.map (·.1) = eachP a) (h1 : a.fr <= 4398046511104) (hl : a.sz <= 4398046511104) (J Jx : List N64 -> World -> Prop)
    (hY : ∀ pre x W, J pre W -> x ∈ xs -> pre.length < xs.length -> YieldAt Fence.wide (2 - 1) Tryz.prog l #[.int .i64 (x.1 : Int)] W fun e W' =>
      (e = .returned (.bool true) /\ J (pre ++ [x]) W' /\ Kp W W') ∨ (e = .returned (.bool false) /\ Jx (pre ++ [x]) W'))
    (W : World) (hKp : ∀ V V', Kp V V' -> V.heap[Bs]? = some (.cells #[.int .i64 (a.fr : Int), .int .i64 (a.sz : Int), .bool a.whole] 184) -> V'.heap[Bs]? = some (.cells #[.int .i64 (a.fr : Int), .int .i64 (a.sz : Int), .bool a.whole] 184)) (hJa : ∀ pre V o, J pre V -> J pre (V.alloc o)) (hBs : W.heap[Bs]? = some (.cells #[.int .i64 (a.fr : Int), .int .i64 (a.sz : Int), .bool a.whole] 184)) (h0 : J [] W) :
    CallsIn Fence.wide 2 Tryz.prog 137 #[.func (.yield l) #[] #[], .pointer (some ⟨Bs, 0, none⟩)] W fun e W' => (∃ v, e = .returned v) /\
      ((∃ ys, ys = xs /\ J ys W') ∨ (∃ pre, pre <+: xs /\ Jx pre W')) := by
  refine callsIn_of_wp Tryz.func137 rfl trivial ?_ rfl
  simp only [Tryz.ntmps137, List.size_toArray, List.length_cons, List.length_nil, Nat.reduceAdd, Nat.reduceSub, Array.replicate_succ, Array.replicate_zero, List.push_toArray, List.append_toArray, List.nil_append, List.cons_append]
  have hlen : xs.length = a.sz := by
    have := congrArg List.length hxs
    simpa [eachP] using this
  have c1 := fun (k : Nat) (hk : k <= 4398046511104) V => cAt a k h1 hk V
  have HAT : Hid (∀ (k : Nat) (x : N64), xs[k]? = some x -> (x.1 : Int) = (atP k a : Int)) := hide (fun k x hx => by
    have : (xs.map (·.1))[k]? = some x.1 := by rw [List.getElem?_map, hx]; rfl
    rw [hxs] at this
    unfold eachP at this
    rw [List.getElem?_map] at this
    obtain ⟨z, hz, e⟩ := Option.map_eq_some_iff.1 this
    have := (List.getElem?_eq_some_iff.1 hz)
    obtain ⟨hz1, hz2⟩ := this
    simp at hz2
    subst hz2
    rw [← e])
  obtain ⟨fr, sz, wh⟩ := a
  unfold agV at c1
  simp only at c1 hBs hlen hl hKp
  have HN := hide hlen
  rw [hlen] at hY
  clear hlen hxs h1
  have HBX : Hid (∀ V : World, V.heap[Bs]? = some (.cells #[.int .i64 (fr : Int), .int .i64 (sz : Int), .bool wh] 184) -> V.cell? ⟨Bs, 0, none⟩ = some (.int .i64 (fr : Int)) /\ V.cell? ⟨Bs, 1, none⟩ = some (.int .i64 (sz : Int)) /\ V.cell? ⟨Bs, 2, none⟩ = some (.bool wh) /\ Bs < V.heap.size) := hide (fun V hb => ⟨cell_of_row _ _ _ _ _ _ hb, cell_of_row _ _ _ _ _ _ hb, cell_of_row _ _ _ _ _ _ hb, (Array.getElem?_eq_some_iff.1 hb).1⟩)
  obtain ⟨x0, x1, x2, x3⟩ := HBX.out W hBs
  have HBS := hide hBs
  clear hBs
  gi_wp2
  gi_loopw [7] (fun i wr => ∃ k : Nat, k <= sz /\ i = .int .i64 (k : Int) /\ J (xs.take k) wr /\ wr.heap[Bs]? = some (.cells #[.int .i64 (fr : Int), .int .i64 (sz : Int), .bool wh] 184)) (fun i _ => sz - (Go.RowKit.intOf i).toNat)
  case atStart => exact ⟨0, Nat.zero_le _, rfl, h0, HBS.out⟩
  case round =>
    obtain ⟨k, hk, rfl, hJs, hnx⟩ := hrel
    by_cases hlt : k < sz
    . obtain ⟨x, hx⟩ : ∃ x, xs[k]? = some x := ⟨_, List.getElem?_eq_getElem (by rw [HN.out]; exact hlt)⟩
      have hpl : (xs.take k).length < sz := by simp; omega
      have hJs2 := hJa _ _ (.cells #[.int .i64 (fr : Int), .int .i64 (sz : Int), .bool wh] 184) hJs
      have HX2 : Hid ((wr.alloc (.cells #[.int .i64 (fr : Int), .int .i64 (sz : Int), .bool wh] 184)).heap[Bs]? = some (.cells #[.int .i64 (fr : Int), .int .i64 (sz : Int), .bool wh] 184)) := hide ((Below.heap_alloc _ _ _ (Array.getElem?_eq_some_iff.1 hnx).1).trans hnx)
      obtain ⟨fn, tmps, assign, body, hy, hR⟩ := hY _ x _ hJs2 (List.mem_of_getElem? hx) hpl
      have c2 := fun V => c1 k (by omega) V
      have hax := HAT.out k x hx
      rw [← hax] at c2
      have htk : xs.take (k + 1) = xs.take k ++ [x] := by
        rw [List.take_add_one, hx]
        rfl
      have Htk := hide htk
      have hdd : decide ((k : Int) < (sz : Int)) = true := decide_eq_true (by omega)
      obtain ⟨y0, y1, y2, y3⟩ := HBX.out wr hnx
      clear htk hx hax x0 x1 x2 x3 hnx
      gi_wp2_with (refine ⟨trivial, ?_⟩; gi_at_call 115; refine (callsIn_wide.2 (c2 _)).mono ?_; rintro e w' ⟨rfl, rfl⟩)
      refine hR.mono ?_
      rintro e W3 (⟨rfl, hJ3, hk3⟩ | ⟨rfl, hJx3⟩)
      . gi_wp2
        go_roundw
        case rel => exact ⟨k + 1, by omega, by go_num, by rw [Htk.out]; exact hJ3, hKp _ _ hk3 HX2.out⟩
        case measure => simp [Go.RowKit.intOf]; omega
      . gi_wp2
        refine bodyPost_ret (results_none rfl _ _ _) rfl ?_
        exact ⟨⟨_, rfl⟩, .inr ⟨_, by rw [← Htk.out]; exact List.take_prefix _ _, hJx3⟩⟩
    . obtain rfl : sz = k := by omega
      gi_wp2
      go_end0
      refine ⟨⟨_, rfl⟩, .inl ⟨_, rfl, ?_⟩⟩
      rw [List.take_of_length_le (by rw [HN.out]; exact Nat.le_refl _)] at hJs
      exact hJs
theorem each_own (Bs : Nat) (Kp : World -> World -> Prop) (a : Ag) (xs : List N64) (hxs : xs.map (·.1) = eachP a) (h1 : a.fr <= 4398046511104) (hl : a.sz <= 4398046511104) (w : World) (hKp : ∀ V V', Kp V V' -> V.heap[Bs]? = some (.cells #[.int .i64 (a.fr : Int), .int .i64 (a.sz : Int), .bool a.whole] 184) -> V'.heap[Bs]? = some (.cells #[.int .i64 (a.fr : Int), .int .i64 (a.sz : Int), .bool a.whole] 184)) (hBs : w.heap[Bs]? = some (.cells #[.int .i64 (a.fr : Int), .int .i64 (a.sz : Int), .bool a.whole] 184)) :
    SeqOwn Tryz.prog 137 #[.pointer (some ⟨Bs, 0, none⟩)] (fun x : N64 => #[.int .i64 (x.1 : Int)]) Kp xs w := fun l J Jx W hW hJ _ hY h0 =>
  (cEach1M l Bs Kp a xs hxs h1 hl J Jx (fun pre x V hj hm hn => let ⟨fn, tmps, assign, body, hy, hR⟩ := hY pre x V hj hm hn; ⟨fn, tmps, assign, body, hy, hR.mono fun _ _ h => h.2⟩) W hKp (fun _ _ o h => hJ.alloc o h) ((hW.block Bs (Array.getElem?_eq_some_iff.1 hBs).1).trans hBs) h0).mono fun _ _ h => ⟨h.1, h.2.elim (fun ⟨_, e1, e2⟩ => .inl (e1 ▸ e2)) .inr⟩
attribute [local go_sem] Oper.semAt_some
def KO (n : Nat) (V V' : World) : Prop := Below n V V' /\ ∀ (b : Nat) (cs : Array Value) (t : TypeId) (fr : Nat × Nat), (t = 196 ∨ t = 184) -> V.heap[b]? = some (.cells cs t fr) -> V'.heap[b]? = some (.cells cs t fr)
theorem KO.trans {n : Nat} {A B C : World} (h : KO n A B) (k : KO n B C) : KO n A C := ⟨h.1.trans k.1, fun b cs t fr ht hb => k.2 b cs t fr ht (h.2 b cs t fr ht hb)⟩
theorem KO.put {n l : Nat} {W : World} {o o' : Obj} (hl : n <= l) (ho : W.heap[l]? = some o) (hc : o.isCells = false) : KO n W (W.putObj l o') := ⟨(Below.refl _ W).grown (grownBy_putObj' W l o') (by have := (Array.getElem?_eq_some_iff.1 ho).1; omega) (fun k e => by cases e; exact hl), fun b cs t fr ht hb => (World.putObj_heap_other (fun e => by subst e; rw [ho] at hb; cases hb; cases hc)).trans hb⟩
theorem row_ne {W : World} {base e size k : Nat} {v : Value} {xs : List Value} (h : W.ownsRow base e size v k xs) {b : Nat} {cs : Array Value} {t : TypeId} {fr : Nat × Nat} (hb : W.heap[b]? = some (.cells cs t fr)) (ht : t ≠ e) : some b ≠ v.ownBlock := by
  intro he
  rcases h.2 with ⟨rfl, _⟩ | ⟨g, cap, cur, rfl, _, hgb, _⟩
  . cases he
  . simp only [Value.ownBlock, Option.some.injEq] at he
    subst he
    rw [hb] at hgb
    cases hgb
    exact ht rfl
theorem ownFrom_mem {B : Nat} (xs : List N64) : OwnFrom B (fun (pre : List N64) (_ : World) => ∀ y ∈ pre, y ∈ xs) := fun _ _ _ _ h _ _ => h
theorem nodup_lt : ∀ (n : Nat) (l : List Nat), l.Nodup -> (∀ x ∈ l, x < n) -> l.length <= n
  | 0, l, _, h => by
    cases l with
    | nil => simp
    | cons a r => exact absurd (h a (by simp)) (by omega)
  | n + 1, l, hd, h => by
    have h1 := nodup_lt n (l.erase n) (hd.erase n) (fun x hx => by
      have h2 := h x (List.mem_of_mem_erase hx)
      have h3 : x ≠ n := fun e => by subst e; exact (List.Nodup.mem_erase_iff hd).1 hx |>.1 rfl
      omega)
    by_cases hm : n ∈ l
    . rw [List.length_erase_of_mem hm] at h1
      omega
    . rw [List.erase_of_not_mem hm] at h1
      omega
theorem nodup_64 {l : List N64} (hd : (l.map (·.1)).Nodup) (h : ∀ y ∈ l, y.1 < 64) : l.length <= 64 := by
  have := nodup_lt 64 (l.map (·.1)) hd (fun x hx => by obtain ⟨y, hy, rfl⟩ := List.mem_map.1 hx; exact h y hy)
  simpa using this
theorem cOnceK (gf : Nat) (lb : Array Value) (eg : ∀ args w, (callFunc gf args).run Tryz.prog w = .ok (.enter gf args) w) (xs : List N64) (hl : ∀ x ∈ xs, x.1 < 64) (w : World)
    (hseq : ∀ W, Below w.heap.size w W -> SeqOwn Tryz.prog gf lb (fun x : N64 => #[.int .i64 (x.1 : Int)]) (KO w.heap.size) xs W) :
    Calls Tryz.prog 118 #[.func (.func gf) #[] lb] w (PO1 w xs) := by
  have hmm := @run_makeMap Tryz.prog
  refine (callsIn_wide (n := 3)).1 ?_
  refine callsIn_of_wp_marks Tryz.func118 rfl trivial ?_ rfl
  simp only [Tryz.ntmps118, List.size_toArray, List.length_cons, List.length_nil, Nat.reduceAdd, Nat.reduceSub, Array.replicate_succ, Array.replicate_zero, List.push_toArray, List.append_toArray, List.nil_append, List.cons_append]
  gi_wp2
  have b2 := ((((Boxed.new w 32 (.slice none 0 0)).alloc (.cells #[.bool false] 4)).alloc (.cells #[.slice none 0 0] 32)).alloc (.map #[] 0)).alloc (.cells #[.map (some (w.heap.size + 1 + 1 + 1))] 216)
  have b3 := (((Boxed.new (w.alloc (.cells #[.slice none 0 0] 32)) 4 (.bool false)).alloc (.cells #[.slice none 0 0] 32)).alloc (.map #[] 0)).alloc (.cells #[.map (some (w.heap.size + 1 + 1 + 1))] 216)
  have b4 := ((Boxed.new ((w.alloc (.cells #[.slice none 0 0] 32)).alloc (.cells #[.bool false] 4)) 32 (.slice none 0 0)).alloc (.map #[] 0)).alloc (.cells #[.map (some (w.heap.size + 1 + 1 + 1))] 216)
  have b5 := Boxed.new ((((w.alloc (.cells #[.slice none 0 0] 32)).alloc (.cells #[.bool false] 4)).alloc (.cells #[.slice none 0 0] 32)).alloc (.map #[] 0)) 216 (.map (some (w.heap.size + 1 + 1 + 1)))
  have bm := (SeenM.new (((w.alloc (.cells #[.slice none 0 0] 32)).alloc (.cells #[.bool false] 4)).alloc (.cells #[.slice none 0 0] 32))).kept (World.grownBy_alloc _ (.cells #[.map (some (w.heap.size + 1 + 1 + 1))] 216) none) (by simp)
  simp only [World.size_alloc] at b3 b4 b5 bm
  have hB0 : Below w.heap.size w (((((w.alloc (.cells #[.slice none 0 0] 32)).alloc (.cells #[.bool false] 4)).alloc (.cells #[.slice none 0 0] 32)).alloc (.map #[] 0)).alloc (.cells #[.map (some (w.heap.size + 1 + 1 + 1))] 216)) :=
    (((((Below.refl _ w).alloc (Nat.le_refl _) _).alloc (by simp) _).alloc (by simp; omega) _).alloc (by simp; omega) _).alloc (by simp; omega) _
  have hs0 : (((((w.alloc (.cells #[.slice none 0 0] 32)).alloc (.cells #[.bool false] 4)).alloc (.cells #[.slice none 0 0] 32)).alloc (.map #[] 0)).alloc (.cells #[.map (some (w.heap.size + 1 + 1 + 1))] 216)).heap.size = w.heap.size + 5 := by simp
  generalize (((((w.alloc (.cells #[.slice none 0 0] 32)).alloc (.cells #[.bool false] 4)).alloc (.cells #[.slice none 0 0] 32)).alloc (.map #[] 0)).alloc (.cells #[.map (some (w.heap.size + 1 + 1 + 1))] 216)) = W0 at *
  have h0 : OI w [] W0 := ⟨⟨List.nodup_nil, ⟨_, b4, World.ownsRow_nil _ _ _ _⟩, b2, b3, b5, bm⟩, hB0⟩
  clear b2 b3 b4 b5 bm
  obtain ⟨i0, hi, hz0, hz1, hz2⟩ := info_parts infoI
  refine range_own (gf := gf) (lb := lb) rfl eg (hseq W0 hB0) (fun _ => rfl) (fun h k => h.trans k) (fun W l o o' hl ho hc => KO.put (by omega) ho hc) (fun pre W => OI w pre W /\ ∀ y ∈ pre, y ∈ xs) (OX w) ((OI.own w _ hs0).and (ownFrom_mem xs)) (fun c => OX.own w _ hs0 c) ⟨h0, fun y hy => by simp at hy⟩
    (fun x => { tmps := #[.func (.func gf) #[] lb, undef, .pointer (some ⟨w.heap.size, 0, none⟩), .pointer (some ⟨w.heap.size + 1, 0, none⟩), .pointer (some ⟨w.heap.size + 1 + 1, 0, none⟩), .pointer (some ⟨w.heap.size + 1 + 1 + 1 + 1, 0, none⟩), .int .i64 (x.1 : Int), .map (some (w.heap.size + 1 + 1 + 1)), .func (.func gf) #[] lb, .int .i64 (x.1 : Int), undef, undef, undef, undef, undef, undef, undef, undef, undef, undef, undef, undef, undef], defers := [] }) ?assign ?body ?done ?stop
  case assign =>
    intro l x W K hK
    gi_wp2
    exact hK
  case body =>
    rintro l pre x W ⟨⟨⟨hnd, ⟨v, hv, hrow⟩, q2, q3, q5, hsm⟩, hB⟩, hmem⟩ hxm hlt
    have hp64 : pre.length <= 64 := nodup_64 hnd (fun y hy => hl y (hmem y hy))
    have hsz : w.heap.size + 1 + 1 + 1 + 1 < W.heap.size := q5.lt
    have k5 := q5.cell
    have hlook := hsm.look x.1 x.2
    by_cases hx : x.1 ∈ pre.map (·.1)
    . rw [if_pos hx] at hlook
      obtain ⟨W1, hu, hl2, hg1⟩ := hsm.store2 (by simp; omega) x.1 x.2
      have k5' := (q5.kept hg1 (by simp)).cell
      have p2 := (q2.kept hg1 (by simp; omega))
      have p3 := (q3.kept hg1 (by simp))
      have k2 := p2.cell
      have f2 := p2.frozen
      have k3 := p3.cell
      have f3 := p3.frozen
      have hB1 := hB.grown hg1 hB.size (fun k e => by cases e; omega)
      clear hrow hsm
      gi_wp2
      refine ⟨((KeepsFrom.of_grownBy hg1 (fun j e => by cases e; omega)).trans ((KeepsOthers.setCell _ _ _).from _)).trans ((KeepsOthers.setCell _ _ _).from _), ⟨rfl, ?_, ?_, ?_⟩, (hB1.setCell (p := ⟨w.heap.size, 0, none⟩) (Nat.le_refl _) _).setCell (p := ⟨w.heap.size + 1, 0, none⟩) (by simp) _⟩
      . rw [List.map_append, List.nodup_append]
        exact fun h => h.2.2 x.1 hx x.1 (by simp) rfl
      . exact ((p2.set (.slice none 0 0)).other (by omega) _).cell
      . exact ((p3.other (by omega) _).set _).cell
    . rw [if_neg hx] at hlook
      obtain ⟨W1, hu, hs1, hg1⟩ := hsm.store (by simp; omega) x.1 x.2 hx
      have hl2 := hs1.look x.1 x.2
      rw [if_pos (by simp)] at hl2
      obtain ⟨es, cl, hmb⟩ := hsm.block
      have hnr : some (w.heap.size + 1 + 1 + 1) ≠ v.ownBlock := by
        intro e
        rcases hrow.2 with ⟨rfl, _⟩ | ⟨g, cap, cur, rfl, _, hgb, _⟩
        . cases e
        . simp only [Value.ownBlock, Option.some.injEq] at e
          rw [← e, hmb] at hgb
          cases hgb
      have hv1 := hv.kept hg1 (by simp)
      have hrow1 := hrow.kept hg1 (.inr hnr.symm)
      have p2 := (q2.kept hg1 (by simp; omega))
      have p3 := (q3.kept hg1 (by simp))
      have p5 := (q5.kept hg1 (by simp))
      have k5' := p5.cell
      have kv := hv1.cell
      have hB1 := hB.grown hg1 hB.size (fun k e => by cases e; omega)
      have hBW1 : Below w.heap.size W W1 := (Below.refl _ W).grown hg1 hB.size (fun k e => by cases e; omega)
      have hK1 : KeepsFrom W0.heap.size W W1 := KeepsFrom.of_grownBy hg1 (fun j e => by cases e; omega)
      have hszW := hg1.size
      clear hsm hrow
      gi_wp2_with (gi_at_builtin; refine wpListIn_append_own _ rfl _ _ 32 rfl w.heap.size 3 i0 (.int .i64 0) 1 8 Tryz.underlying32 hi hz0 hz1 hz2 rfl (by decide) _ _ _ rfl (hrow1.alloc _) ⟨W1.heap.size, 0, none⟩ 1 1 [.int .i64 (x.1 : Int)] rfl rfl (cell_one_new _ _ _) (by simp [Value.oneCell']) (by unfold maxLen; omega) (by omega) (by simp; omega) ?_; intro v' w1 hown' hgrow _; obtain ⟨g', cap', rfl⟩ := ownsRow_succ hown'; obtain ⟨hv1', hv2, hr2, hk2, hb2⟩ := hv1.appended (by decide) hrow1 hB1.size (by omega) hown' hgrow; have hc1 := hv1'.cell; have hf1 := hv1'.frozen)
      have hgr : ∀ B t (u : Value), Boxed W1 B t u -> t ≠ 3 -> B ≠ w.heap.size + 1 + 1 -> Boxed (w1.setCell ⟨w.heap.size + 1 + 1, 0, none⟩ (.slice (some ⟨g', 0, none⟩) (pre.length + 1) cap')) B t u := fun B t u hb ht hn => ((hb.alloc _).kept hgrow (hb.not_row ht hrow1)).other hn _
      have HKO : KO w.heap.size W (w1.setCell ⟨w.heap.size + 1 + 1, 0, none⟩ (.slice (some ⟨g', 0, none⟩) (pre.length + 1) cap')) := ⟨hBW1.trans hb2, fun b cs t fr ht hb => by
        have u1 : W1.heap[b]? = some (.cells cs t fr) := (hg1.block b (Array.getElem?_eq_some_iff.1 hb).1 (fun e => by cases e; rw [hmb] at hb; cases hb)).trans hb
        have u3 := (Below.heap_alloc _ (.cells #[.int .i64 (x.1 : Int)] 3) _ (Array.getElem?_eq_some_iff.1 u1).1).trans u1
        have u4 := (hgrow.block b (Array.getElem?_eq_some_iff.1 u3).1 (row_ne hrow1 u1 (by rcases ht with rfl | rfl <;> decide))).trans u3
        refine (Below.heap_setCell _ _ _ _ ?_).trans u4
        intro e
        cases e
        have u5 : W.heap[w.heap.size + 1 + 1]? = _ := hv
        rw [u5] at hb
        cases hb
        revert ht
        decide⟩
      refine ⟨hK1.trans (hk2.from _), HKO, ⟨⟨?_, ⟨_, hv2, by simpa [iv] using hr2⟩, hgr _ _ _ p2 (by decide) (by omega), hgr _ _ _ p3 (by decide) (by omega), hgr _ _ _ p5 (by decide) (by omega), ?_⟩, hB1.trans hb2⟩, fun y hy => by rcases List.mem_append.1 hy with h | h; exact hmem y h; rw [List.mem_singleton] at h; rw [h]; exact hxm⟩
      . rw [List.map_append, List.nodup_append]
        refine ⟨hnd, by simp, fun a ha b hb e => ?_⟩
        simp at hb
        rw [e, hb] at ha
        exact hx ha
      . rw [List.map_append]
        obtain ⟨es1, cl1, hmb1⟩ := hs1.block
        have hnr1 : some (w.heap.size + 1 + 1 + 1) ≠ v.ownBlock := hnr
        exact ((hs1.kept (World.grownBy_alloc W1 _ none) (by simp)).kept hgrow hnr1).kept (grownBy_setCell' _ _ _) (by simp)
  case done =>
    rintro D W hD ⟨⟨⟨hnd, ⟨v, hv, hrow⟩, q2, q3, q5, hsm⟩, hB⟩, -⟩ hK
    have hvs : ∃ ao m c, v = .slice ao m c := by
      rcases hrow.2 with ⟨e, _⟩ | ⟨g, cap, cur, e, _⟩
      . exact ⟨_, _, _, e⟩
      . exact ⟨_, _, _, e⟩
    obtain ⟨ao, m, c, rfl⟩ := hvs
    have kv := hv.cell
    have k2 := q2.cell
    have f2 := q2.frozen
    have k3 := q3.cell
    have f3 := q3.frozen
    gi_wp2
    have hK' := ((KeepsOthers.setCell W ⟨w.heap.size, 0, none⟩ (.slice ao m c)).trans (KeepsOthers.setCell _ ⟨w.heap.size + 1, 0, none⟩ (.bool true))).same D _ hK rfl
    have w2 := (q2.set (.slice ao m c)).other (B' := w.heap.size + 1) (by omega) (.bool true)
    have w3 := (q3.other (B' := w.heap.size) (by omega) (.slice ao m c)).set (.bool true)
    have hrw : ((W.setCell ⟨w.heap.size, 0, none⟩ (.slice ao m c)).setCell ⟨w.heap.size + 1, 0, none⟩ (.bool true)).ownsRow w.heap.size 3 1 (.slice ao m c) xs.length (xs.map fun x => iv x.1) :=
      (hrow.kept (grownBy_setCell' W _ _) (.inr (q2.not_row (by decide) hrow).symm)).kept (grownBy_setCell' _ _ _) (.inr (q3.not_row (by decide) hrow).symm)
    have hBB := (hB.setCell (p := ⟨w.heap.size, 0, none⟩) (Nat.le_refl _) (.slice ao m c)).setCell (p := ⟨w.heap.size + 1, 0, none⟩) (by simp) (.bool true)
    generalize ((W.setCell ⟨w.heap.size, 0, none⟩ (.slice ao m c)).setCell ⟨w.heap.size + 1, 0, none⟩ (.bool true)) = V at *
    refine ⟨by simp, .inl ⟨_, _, rfl, run_takeDeferred hK', ?_⟩⟩
    have hc5 := cell_kept w2.cell (grownBy_putObj' _ D (.deferred none)) (fun r e => by cases e; exact ⟨_, hK', rfl⟩)
    have hc6 := cell_kept w3.cell (grownBy_putObj' _ D (.deferred none)) (fun r e => by cases e; exact ⟨_, hK', rfl⟩)
    refine ⟨.tuple #[.slice ao m c, .bool true], ?_, hBB.trans (belowK_b (w := w) (Nat.le_refl _) V D _ _ (by omega) hK' rfl rfl), .inl ⟨hnd, _, rfl, ownsRow_putObj hrw _ hK' rfl⟩⟩
    simp [results, Tryz.f118, go_sem, hc5, hc6]
  case stop =>
    rintro D c pre W hD hpre ⟨⟨rfl, hnd, hc2, hc3⟩, hB⟩ hK
    gi_wp2
    refine ⟨by simp, .inl ⟨_, _, rfl, run_takeDeferred hK, ?_⟩⟩
    have hc5 := cell_kept hc2 (grownBy_putObj' _ D (.deferred none)) (fun r e => by cases e; exact ⟨_, hK, rfl⟩)
    have hc6 := cell_kept hc3 (grownBy_putObj' _ D (.deferred none)) (fun r e => by cases e; exact ⟨_, hK, rfl⟩)
    refine ⟨.tuple #[.slice none 0 0, .bool false], ?_, hB.trans (belowK_b (w := w) (Nat.le_refl _) W D _ _ (by omega) hK rfl rfl), .inr ⟨fun h => hnd ?_, rfl⟩⟩
    . simp [results, Tryz.f118, go_sem, hc5, hc6]
    . obtain ⟨t, rfl⟩ := hpre
      rw [List.map_append, List.nodup_append] at h
      exact h.1
attribute [local go_sem] Oper.semAt_some
def mkD (D : Nat) : Deferred := { target := .collected D, args := #[] }
theorem leaves_marks {F : Fence} {n : Nat} {P : Program} {fn : Func} {tmps : Array Value} {R : Ending -> World -> Prop} (G : World -> Prop) (B : Nat) (hG : ∀ V D, B <= D -> G V -> V.heap[D]? = some (.deferred (some [])) -> G (V.putObj D (.deferred none))) (hend : ∀ V, G V -> LeavesIn F n P fn tmps R [] .returning V) :
    ∀ (Ds : List Nat) (w : World), Ds.Nodup -> (∀ D ∈ Ds, B <= D /\ w.heap[D]? = some (.deferred (some []))) -> G w -> LeavesInM F n P fn tmps R (Ds.map mkD) .returning w
  | [], w, _, _, h => hend w h
  | D :: Ds, w, hn, hm, h => by
    obtain ⟨h1, h2⟩ := List.nodup_cons.1 hn
    obtain ⟨h3, h4⟩ := hm D (by simp)
    refine ⟨by simp, .inl ⟨D, _, rfl, run_takeDeferred h4, leaves_marks G B hG hend Ds _ h2 (fun E hE => ?_) (hG w D h3 h h4)⟩⟩
    obtain ⟨h5, h6⟩ := hm E (List.mem_cons_of_mem _ hE)
    exact ⟨h5, (World.putObj_heap_other (fun e => h1 (by rw [← e]; exact hE))).trans h6⟩
def allN (args : List Ag) : List N64 := (args.flatMap eachP).map nx
theorem allN_take (args : List Ag) (j : Nat) (a : Ag) (h : args[j]? = some a) : allN (args.take (j + 1)) = allN (args.take j) ++ (eachP a).map nx := by
  unfold allN
  rw [List.take_add_one, h]
  simp
theorem allN_pre (args : List Ag) (j : Nat) : allN (args.take j) <+: allN args := by
  unfold allN
  refine ⟨((args.drop j).flatMap eachP).map nx, ?_⟩
  rw [← List.map_append, ← List.flatMap_append, List.take_append_drop]
def BI (J : List N64 -> World -> Prop) (n₀ : Nat) (W : World) (l : Nat) (Ds : List Nat) (dn pre : List N64) (X : World) : Prop := J (dn ++ pre) X /\ Below n₀ W X /\ Boxed X W.heap.size 196 (.func (.yield l) #[] #[]) /\ ∀ D ∈ Ds, X.heap[D]? = some (.deferred (some []))
theorem BI.own {J : List N64 -> World -> Prop} {n₀ : Nat} {W : World} {l : Nat} {Ds : List Nat} {dn : List N64} {B : Nat} (hJ : OwnFrom W.heap.size J) (hW : W.heap.size < B) (hDs : ∀ D ∈ Ds, D < B) (hn : n₀ <= W.heap.size) : OwnFrom B (BI J n₀ W l Ds dn) := by
  rintro s A A' row ⟨h1, h2, h3, h4⟩ hg hr
  refine ⟨own_later hJ (Nat.le_of_lt hW) _ A A' row h1 hg hr, h2.grown hg (Nat.le_trans hn h2.size) (fun k e => by have := (hr k e).1; omega), h3.kept hg (fun e => by have := (hr _ e.symm).1; omega), fun D hD => (hg.block D (Array.getElem?_eq_some_iff.1 (h4 D hD)).1 (fun e => by have := (hr _ e.symm).1; have := hDs D hD; omega)).trans (h4 D hD)⟩
def BX (Jx : List N64 -> World -> Prop) (Ds : List Nat) (dn : List N64) (c : Code) (pre : List N64) (X : World) : Prop := c = .ret /\ Jx (dn ++ pre) X /\ ∀ D ∈ Ds, X.heap[D]? = some (.deferred (some []))
theorem BX.own {Jx : List N64 -> World -> Prop} {n : Nat} {Ds : List Nat} {dn : List N64} {B : Nat} (hJ : OwnFrom n Jx) (hn : n <= B) (hDs : ∀ D ∈ Ds, D < B) (c : Code) : OwnFrom B (BX Jx Ds dn c) := by
  rintro s A A' row ⟨h0, h1, h4⟩ hg hr
  exact ⟨h0, own_later hJ hn _ A A' row h1 hg hr, fun D hD => (hg.block D (Array.getElem?_eq_some_iff.1 (h4 D hD)).1 (fun e => by have := (hr _ e.symm).1; have := hDs D hD; omega)).trans (h4 D hD)⟩
theorem cBarr1 (l Bs n₀ c : Nat) (ao : Option Addr) (args : List Ag) (hl : args.length <= 4398046511105) (hbd : ∀ a ∈ args, a.fr + a.sz <= 64) (J Jx : List N64 -> World -> Prop) (W : World) (hJ : OwnFrom W.heap.size J) (hJx : OwnFrom W.heap.size Jx) (hnW : n₀ <= W.heap.size)
    (hY : ∀ pre x W1, J pre W1 -> x ∈ allN args -> pre.length < (allN args).length -> YieldAt Fence.wide 1 Tryz.prog l #[.int .i64 (x.1 : Int)] W1 fun e W' => KeepsFrom W.heap.size W1 W' /\ ((e = .returned (.bool true) /\ J (pre ++ [x]) W' /\ KO n₀ W1 W') ∨ (e = .returned (.bool false) /\ Jx (pre ++ [x]) W')))
    (hBs : W.cell? ⟨Bs, 0, none⟩ = some (.slice ao args.length c)) (hI : Asb n₀ W (.slice ao args.length c) args) (h0 : J [] W) :
    CallsIn Fence.wide 2 Tryz.prog 119 #[.func (.yield l) #[] #[], .pointer (some ⟨Bs, 0, none⟩)] W fun e W' => (∃ v, e = .returned v) /\ (J (allN args) W' ∨ ∃ pre, pre <+: allN args /\ Jx pre W') := by
  refine callsIn_of_wp_marks Tryz.func119 rfl trivial ?_ rfl
  simp only [Tryz.ntmps119, List.size_toArray, List.length_cons, List.length_nil, Nat.reduceAdd, Nat.reduceSub, Array.replicate_succ, Array.replicate_zero, List.push_toArray, List.append_toArray, List.nil_append, List.cons_append]
  obtain ⟨n, hn⟩ : ∃ n, args.length = n := ⟨_, rfl⟩
  have HN := hide hn
  rw [hn] at hBs hI hl
  clear hn
  have hBl : Bs < W.heap.size := World.block_lt_of_cell? _ _ hBs
  gi_wp2
  have hb0 : Boxed (W.alloc (.cells #[(.func (.yield l) #[] #[])] 196)) W.heap.size 196 (.func (.yield l) #[] #[]) := Boxed.new _ _ _
  have hB0 : Below n₀ W (W.alloc (.cells #[(.func (.yield l) #[] #[])] 196)) := (Below.refl _ _).alloc hnW _
  refine wpIn_loop_ghost_k (fun k a' wr => ∃ (j : Nat) (Ds : List Nat) (u4 u5 u9 u10 u11 u12 u13 u14 u15 u16 u17 u18 u19 : Value), k = n - j /\ j <= n /\ BI J n₀ W l Ds (allN (args.take j)) [] wr /\ Ds.Nodup /\ (∀ D ∈ Ds, W.heap.size <= D) /\ a' = { tmps := #[.func (.yield l) #[] #[], .pointer (some ⟨Bs, 0, none⟩), .pointer (some ⟨W.heap.size, 0, none⟩), undef, u4, u5, .slice ao n c, .int .i64 (n : Int), .int .i64 (j : Int), u9, u10, u11, u12, u13, u14, u15, u16, u17, u18, u19], defers := Ds.map mkD }) n ?start ?round
  case start => exact ⟨0, [], _, _, _, _, _, _, _, _, _, _, _, _, _, rfl, Nat.zero_le _, ⟨hJ.alloc _ h0, hB0, hb0, fun D hD => by simp at hD⟩, List.nodup_nil, fun D hD => by simp at hD, rfl⟩
  case round =>
    rintro gk _ wr ⟨j, Ds, u4, u5, u9, u10, u11, u12, u13, u14, u15, u16, u17, u18, u19, rfl, hj, ⟨hJs, hnx, hbx, hdd⟩, hnd, hDs, rfl⟩ KI K hKI hK
    rw [List.append_nil] at hJs
    by_cases hlt : j < n
    . obtain ⟨a, ha⟩ : ∃ a, args[j]? = some a := ⟨_, List.getElem?_eq_getElem (by rw [HN.out]; exact hlt)⟩
      obtain ⟨g, off, rfl, hg, k0, k1, k2⟩ := hI.cells ha
      have r0 := (hnx.cell (p := ⟨g, off + j * 3, none⟩) hg).trans k0
      have r1 := (hnx.cell (p := ⟨g, off + j * 3 + 1, none⟩) hg).trans k1
      have r2 := (hnx.cell (p := ⟨g, off + j * 3 + 2, none⟩) hg).trans k2
      have hgw : g < wr.heap.size := World.block_lt_of_cell? _ _ r0
      have c1 := fun V => cEach a V
      have ha64 := hbd a (List.mem_of_getElem? ha)
      have Htk := hide (allN_take args j a ha)
      have hde : decide ((j : Int) < (n : Int)) = true := decide_eq_true (by omega)
      obtain ⟨fr, sz, wh⟩ := a
      unfold agV at c1
      simp only at c1 r0 r1 r2 ha64
      clear ha k0 k1 k2
      gi_wp2_with (refine ⟨trivial, ?_⟩; gi_at_call 116; refine (callsIn_wide.2 (c1 _)).mono ?_; rintro e w' ⟨rfl, rfl⟩)
      have HnN := hide (show (allN (args.take (j + 1))).length <= (allN args).length from (allN_pre args (j + 1)).length_le)
      have HPR := hide (allN_pre args (j + 1))
      rw [Htk.out] at HnN HPR
      have HXS := nx_id (eachP ⟨fr, sz, wh⟩) (eachP_bd _ ha64)
      have hzz : ((wr.alloc (.cells #[.int .i64 (fr : Int), .int .i64 (sz : Int), .bool wh] 184)).alloc (.cells #[.int .i64 (fr : Int), .int .i64 (sz : Int), .bool wh] 184)).heap.size = wr.heap.size + 2 := by simp
      have hWr : W.heap.size < wr.heap.size := hbx.lt
      have hDl : ∀ D ∈ Ds, D < wr.heap.size := fun D hD => (Array.getElem?_eq_some_iff.1 (hdd D hD)).1
      have hAB : ((wr.alloc (.cells #[.int .i64 (fr : Int), .int .i64 (sz : Int), .bool wh] 184)).alloc (.cells #[.int .i64 (fr : Int), .int .i64 (sz : Int), .bool wh] 184)).heap[wr.heap.size + 1]? = some (.cells #[.int .i64 (fr : Int), .int .i64 (sz : Int), .bool wh] 184) := by have h := heap_alloc_new (wr.alloc (.cells #[.int .i64 (fr : Int), .int .i64 (sz : Int), .bool wh] 184)) (.cells #[.int .i64 (fr : Int), .int .i64 (sz : Int), .bool wh] 184); rw [World.size_alloc] at h; exact h
      have hI0 : BI J n₀ W l Ds (allN (args.take j)) [] ((wr.alloc (.cells #[.int .i64 (fr : Int), .int .i64 (sz : Int), .bool wh] 184)).alloc (.cells #[.int .i64 (fr : Int), .int .i64 (sz : Int), .bool wh] 184)) := ⟨by rw [List.append_nil]; exact hJ.alloc _ (hJ.alloc _ hJs), (hnx.alloc (by omega) _).alloc (by simp; omega) _, (hbx.alloc _).alloc _, fun D hD => (Below.heap_alloc _ _ _ (by have := hDl D hD; simp; omega)).trans ((Below.heap_alloc _ _ _ (hDl D hD)).trans (hdd D hD))⟩
      generalize (wr.alloc (.cells #[.int .i64 (fr : Int), .int .i64 (sz : Int), .bool wh] 184)).alloc (.cells #[.int .i64 (fr : Int), .int .i64 (sz : Int), .bool wh] 184) = V at *
      refine range_own (gf := 137) (lb := #[.pointer (some ⟨wr.heap.size + 1, 0, none⟩)]) rfl eEach1 (each_own (wr.heap.size + 1) (KO n₀) ⟨fr, sz, wh⟩ ((eachP ⟨fr, sz, wh⟩).map nx) HXS (by simp only; omega) (by simp only; omega) V (fun _ _ h e => h.2 _ _ _ _ (.inr rfl) e) hAB) (fun _ => rfl) (fun h k => h.trans k) (fun X l o o' hl ho hc => KO.put (by omega) ho hc) (BI J n₀ W l Ds (allN (args.take j))) (BX Jx Ds (allN (args.take j))) (BI.own hJ (by omega) (fun D hD => by have := hDl D hD; omega) hnW) (fun c => BX.own hJx (by omega) (fun D hD => by have := hDl D hD; omega) c) hI0
        (fun x => { tmps := #[.func (.yield l) #[] #[], .pointer (some ⟨Bs, 0, none⟩), .pointer (some ⟨W.heap.size, 0, none⟩), undef, .pointer (some ⟨wr.heap.size, 0, none⟩), .int .i64 (x.1 : Int), .slice (some ⟨g, off, none⟩) n c, .int .i64 (n : Int), .int .i64 (j : Int), .bool true, .pointer (some ⟨g, off + j * 3, none⟩), .agg #[.int .i64 (fr : Int), .int .i64 (sz : Int), .bool wh], .agg #[.int .i64 (fr : Int), .int .i64 (sz : Int), .bool wh], .func (.func 137) #[] #[.pointer (some ⟨wr.heap.size + 1, 0, none⟩)], .int .i64 (x.1 : Int), u15, u16, u17, u18, u19], defers := [] }) ?assign ?body ?done ?stop
      case assign =>
        intro l x W K hK
        gi_wp2
        exact hK
      case body =>
        rintro l' pre x X ⟨h1, h2, h3, h4⟩ hxm hpl
        obtain ⟨fn, tmps, assign, body, hy, hR⟩ := yield_in (l' := l') (m' := 1 - 1) (hY _ x X h1 (HPR.out.subset (List.mem_append_right _ hxm)) (by have := HnN.out; simp only [List.length_append] at this ⊢; omega))
        have k3 := h3.cell
        gi_wp2
        refine hR.mono ?_
        rintro e X3 ⟨hkf, ⟨rfl, hJ3, hko⟩ | ⟨rfl, hJx3⟩⟩
        . gi_wp2
          exact ⟨keeps_later hkf (by omega), hko, by rw [← List.append_assoc]; exact hJ3, h2.trans hko.1, hko.2 _ _ _ _ (.inl rfl) h3, fun D hD => hkf.same D _ (hDs D hD) (h4 D hD) rfl⟩
        . gi_wp2
          exact ⟨keeps_later hkf (by omega), rfl, by rw [← List.append_assoc]; exact hJx3, fun D hD => hkf.same D _ (hDs D hD) (h4 D hD) rfl⟩
      case done =>
        rintro D X hD ⟨h1, h2, h3, h4⟩ hKD
        gi_wp2
        refine (Handed.intro (n - (j + 1)) (by omega) (hKI _ _ _ ⟨j + 1, D :: Ds, _, _, _, _, _, _, _, _, _, _, _, _, _, rfl, hlt, ⟨by rw [List.append_nil, Htk.out]; exact h1, h2, h3, ?_⟩, List.nodup_cons.2 ⟨fun hm => ?_, hnd⟩, ?_, rfl⟩))
        . intro E hE
          rcases List.mem_cons.1 hE with rfl | hE
          . exact hKD
          . exact h4 E hE
        . have := hDl D hm
          omega
        . intro E hE
          rcases List.mem_cons.1 hE with rfl | hE
          . omega
          . exact hDs E hE
      case stop =>
        rintro D c pre X hD hpre ⟨rfl, h1, h4⟩ hKD
        gi_wp2
        refine leaves_marks (fun X => Jx (allN (args.take j) ++ pre) X) W.heap.size (fun V D hB h hd => hJx.putObj _ h hB hd rfl) (fun V h => ?_) (D :: Ds) X (List.nodup_cons.2 ⟨fun hm => by have := hDl D hm; omega, hnd⟩) (fun E hE => ?_) h1
        . exact ⟨_, results_none rfl _ _ _, ⟨_, rfl⟩, .inr ⟨_, (List.prefix_append_right_inj _ |>.2 hpre).trans HPR.out, h⟩⟩
        . rcases List.mem_cons.1 hE with rfl | hE
          . exact ⟨by omega, hKD⟩
          . exact ⟨hDs E hE, h4 E hE⟩
    . obtain rfl : n = j := by omega
      gi_wp2
      rw [List.take_of_length_le (by rw [HN.out]; exact Nat.le_refl _)] at hJs
      refine leaves_marks (fun X => J (allN args) X) W.heap.size (fun V D hB h hd => hJ.putObj _ h hB hd rfl) (fun V h => ⟨_, results_none rfl _ _ _, ⟨_, rfl⟩, .inl h⟩) Ds wr hnd (fun D hD => ⟨hDs D hD, hdd D hD⟩) hJs
end Go.Proofs.YtnghfdnlcnocjaaGreatDoor.Cir
