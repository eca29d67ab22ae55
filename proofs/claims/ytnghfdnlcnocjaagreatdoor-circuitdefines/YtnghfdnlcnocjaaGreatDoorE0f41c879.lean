import Derived.Test.YtnghfdnlcnocjaaGreatDoorE89df6a2c
set_option maxRecDepth 100000
set_option maxHeartbeats 2000000
namespace Go.Proofs.YtnghfdnlcnocjaaGreatDoor.Cir
open Go
section
variable {P : Program} {Q : Exit -> Act -> World -> Prop} {md : Region.Mode} {ops : Array Oper} {N : Nat}
def frB (md : Region.Mode) (ops : Array Oper) (N : Nat) : Bool :=
  decide (ops.size = N + 1) && (List.range N).all (fun i => ((ops[i]?).map fun o => o.guard.isNone && o.after.all fun e => decide (e.on < i)).getD false)
    && ((ops[N]?).map fun o => o.after.all fun e => decide (e.on < N)).getD false
    && (List.range N).all (fun j => (List.range (N + 1)).any fun i => decide (j < i) && ((ops[i]?).map fun o => o.after.any fun e => Region.binds md e && (e.on == j)).getD false)
structure Fr (md : Region.Mode) (ops : Array Oper) (N : Nat) : Prop where
  size : ops.size = N + 1
  low : ∀ i o, i < N -> ops[i]? = some o -> o.guard = none /\ ∀ e ∈ o.after, e.on < i
  last : ∃ o, ops[N]? = some o /\ ∀ e ∈ o.after, e.on < N
  cover : ∀ j, j < N -> ∃ i o, j < i /\ i <= N /\ ops[i]? = some o /\ ∃ e ∈ o.after, Region.binds md e = true /\ e.on = j
theorem fr_of (h : frB md ops N = true) : Fr md ops N := by
  unfold frB at h
  rw [Bool.and_eq_true, Bool.and_eq_true, Bool.and_eq_true] at h
  obtain ⟨⟨⟨h1, h2⟩, h3⟩, h5⟩ := h
  refine ⟨of_decide_eq_true h1, fun i o hi ho => ?_, ?_, fun j hj => ?_⟩
  . have := List.all_eq_true.1 h2 i (List.mem_range.2 hi)
    rw [ho] at this
    simp only [Option.map_some, Option.getD_some, Bool.and_eq_true, Option.isNone_iff_eq_none, Array.all_eq_true_iff_forall_mem, decide_eq_true_eq] at this
    exact this
  . cases ho : ops[N]? with
    | none => rw [ho] at h3; simp at h3
    | some o =>
      rw [ho] at h3
      simp only [Option.map_some, Option.getD_some, Array.all_eq_true_iff_forall_mem, decide_eq_true_eq] at h3
      exact ⟨o, rfl, h3⟩
  . have := List.all_eq_true.1 h5 j (List.mem_range.2 hj)
    rw [List.any_eq_true] at this
    obtain ⟨i, hi, hb⟩ := this
    rw [Bool.and_eq_true, decide_eq_true_eq] at hb
    cases ho : ops[i]? with
    | none => rw [ho] at hb; simp at hb
    | some o =>
      rw [ho] at hb
      simp only [Option.map_some, Option.getD_some] at hb
      have h6 := hb.2
      rw [Array.any_eq_true'] at h6
      obtain ⟨e, he, hb2⟩ := h6
      rw [Bool.and_eq_true, beq_iff_eq] at hb2
      have := List.mem_range.1 hi
      exact ⟨i, o, hb.1, by omega, ho, e, he, hb2.1, hb2.2⟩
def ClL (md : Region.Mode) (ops : Array Oper) (N : Nat) (listed : Array Bool) : Prop := ∀ i o, i < N -> listed.getD i false = true -> ops[i]? = some o -> ∀ e ∈ o.after, Region.binds md e = true -> listed.getD e.on false = true
theorem fr_get {i : Nat} (hf : Fr md ops N) (hi : i < N) : ops.pop[i]? = ops[i]? := by
  have := hf.size
  rw [Array.getElem?_pop, if_pos (by omega)]
theorem fr_none (hf : Fr md ops N) {i : Nat} (hi : N <= i) : ops.pop[i]? = none := by
  have := hf.size
  rw [Array.getElem?_eq_none]
  simp
  omega
theorem fr_ready (hf : Fr md ops N) {listed : Array Bool} {i : Nat} : i ∈ Region.ready md ops.pop listed ↔ i ∈ Region.ready md ops listed /\ i < N := by
  rw [mem_ready, mem_ready]
  constructor
  . rintro ⟨h1, o, ho, h2⟩
    have hi : i < N := by
      rcases Nat.lt_or_ge i N with h | h
      . exact h
      . rw [fr_none hf h] at ho; cases ho
    rw [fr_get hf hi] at ho
    exact ⟨⟨h1, o, ho, h2⟩, hi⟩
  . rintro ⟨⟨h1, o, ho, h2⟩, hi⟩
    exact ⟨h1, o, by rw [fr_get hf hi]; exact ho, h2⟩
theorem fr_all (hf : Fr md ops N) {listed : Array Bool} (hs : listed.size = N + 1) (h : Region.ready md ops.pop listed = []) : ∀ j, j < N -> listed.getD j false = true := by
  intro j
  induction j using Nat.strongRecOn with
  | ind j ih =>
    intro hj
    cases hl : listed.getD j false
    . exfalso
      have hlt : j < ops.size := by rw [hf.size]; omega
      have hm : j ∈ Region.ready md ops.pop listed := by
        refine (fr_ready hf).2 ⟨mem_ready.2 ⟨?_, ops[j], Array.getElem?_eq_getElem hlt, fun e he _ => ?_⟩, hj⟩
        . have : j < listed.size := by omega
          simp [Array.getD, this] at hl ⊢
          exact hl
        . have := (hf.low j ops[j] hj (Array.getElem?_eq_getElem hlt)).2 e he
          exact ih e.on this (by omega)
      rw [h] at hm
      cases hm
    . rfl
theorem fr_waits (hf : Fr md ops N) {listed : Array Bool} (hc : ClL md ops N listed) (h : N ∈ Region.ready md ops listed) : ∀ d j, j + d = N -> 0 < d -> listed.getD j false = true := by
  intro d
  induction d using Nat.strongRecOn with
  | ind d ih =>
    intro j hj hd
    obtain ⟨i, o, h1, h2, ho, e, he, hb, rfl⟩ := hf.cover j (by omega)
    by_cases hi : i = N
    . subst hi
      obtain ⟨_, o', ho', h3⟩ := mem_ready.1 h
      rw [ho] at ho'
      cases ho'
      exact h3 e he hb
    . have := ih (N - i) (by omega) i (by omega) (by omega)
      exact hc i o (by omega) this ho e he hb
theorem fr_none_ready (hf : Fr md ops N) {listed : Array Bool} (hs : listed.size = N + 1) (hl : ∀ j, j < N -> listed.getD j false = true) : Region.ready md ops.pop listed = [] := by
  refine List.eq_nil_iff_forall_not_mem.2 fun j hj => ?_
  obtain ⟨hj1, hjN⟩ := (fr_ready hf).1 hj
  have a := hl j hjN
  have b := (mem_ready.1 hj1).1
  have h' : j < listed.size := by omega
  simp [Array.getD, h'] at a b
  rw [a] at b
  cases b
theorem fr_lt (hf : Fr md ops N) {listed : Array Bool} {i : Nat} (h : i ∈ Region.ready md ops listed) : i <= N := by
  obtain ⟨_, o, ho, _⟩ := mem_ready.1 h
  have := (Array.getElem?_eq_some_iff.1 ho).1
  rw [hf.size] at this
  omega
theorem getD_ne {listed : Array Bool} {i j : Nat} (h : j ≠ i) (d : Bool) : (listed.setIfInBounds i true).getD j d = listed.getD j d := by
  simp only [Array.getD_eq_getD_getElem?, Array.getElem?_setIfInBounds]
  rw [if_neg (fun e => h e.symm)]
theorem getD_eq {listed : Array Bool} {i : Nat} (h : i < listed.size) (d : Bool) : (listed.setIfInBounds i true).getD i d = true := by
  simp only [Array.getD_eq_getD_getElem?, Array.getElem?_setIfInBounds]
  simp [h]
theorem any_end : ∀ (fuel : Nat) {listed : Array Bool} {a : Act} {w : World}, Region.ready md ops listed = [] -> Q .normal a w -> wpAny P md ops Q fuel listed a w
  | 0, _, _, _, h, hq => ⟨h, hq⟩
  | _ + 1, _, _, _, h, hq => ⟨fun _ => hq, fun i hi => by rw [h] at hi; cases hi⟩
theorem fr_done (hf : Fr md ops N) {listed : Array Bool} (hs : listed.size = N + 1) (h : Region.ready md ops.pop listed = []) : Region.ready md ops (listed.setIfInBounds N true) = [] := by
  refine List.eq_nil_iff_forall_not_mem.2 fun j hj => ?_
  have hj1 := (mem_ready.1 hj).1
  have hle := fr_lt hf hj
  by_cases e : j = N
  . subst e
    rw [getD_eq (by omega)] at hj1
    cases hj1
  . have := fr_all hf hs h j (by omega)
    rw [getD_ne e] at hj1
    have hl : j < listed.size := by omega
    simp [Array.getD, hl] at this hj1
    rw [this] at hj1
    cases hj1
def QL (P : Program) (ops : Array Oper) (Q : Exit -> Act -> World -> Prop) (N : Nat) : Exit -> Act -> World -> Prop
  | .normal, a, w => wpOp P ops Q N (fun a' w' => Q .normal a' w') a w
  | e, a, w => Q e a w
theorem wp_QL (o : Oper) (a : Act) (w : World) (K : Act -> World -> Prop) (h : o.wp P a w K (QL P ops Q N)) : o.wp P a w K Q := by
  unfold Oper.wp at h ⊢
  generalize (execOp a.eval o).run P w = r at h
  cases r with
  | ok x w' => cases x <;> exact h
  | _ => exact h
theorem any_of_fr (hf : Fr md ops N) : ∀ (fuel : Nat) (listed : Array Bool) (a : Act) (w : World), listed.size = N + 1 -> listed.getD N true = false -> ClL md ops N listed ->
    wpAny P md ops.pop (QL P ops Q N) fuel listed a w -> wpAny P md ops Q (fuel + 1) listed a w := by
  have stop : ∀ (fuel : Nat) (listed : Array Bool) (a : Act) (w : World), listed.size = N + 1 -> listed.getD N true = false -> Region.ready md ops.pop listed = [] ->
      QL P ops Q N .normal a w -> wpAny P md ops Q (fuel + 1) listed a w := by
    intro fuel listed a w hs hN h hq
    have hall := fr_all hf hs h
    refine ⟨fun h0 => ?_, fun i hi => ?_⟩
    . obtain ⟨o, ho, h1⟩ := hf.last
      have : N ∈ Region.ready md ops listed := mem_ready.2 ⟨hN, o, ho, fun e he _ => hall e.on (h1 e he)⟩
      rw [h0] at this
      cases this
    . have hiN : i = N := by
        have h1 := fr_lt hf hi
        rcases Nat.lt_or_ge i N with h' | h'
        . have := (fr_ready hf).2 ⟨hi, h'⟩
          rw [h] at this
          cases this
        . omega
      subst hiN
      exact wpOp_mono (fun a'' w'' h'' => any_end fuel (fr_done hf hs h) h'') hq
  intro fuel
  induction fuel with
  | zero =>
    intro listed a w hs hN hc h
    exact stop 0 listed a w hs hN h.1 h.2
  | succ fuel ih =>
    intro listed a w hs hN hc h
    by_cases h0 : Region.ready md ops.pop listed = []
    . exact stop (fuel + 1) listed a w hs hN h0 (h.1 h0)
    . refine ⟨fun h1 => ?_, fun i hi => ?_⟩
      . exfalso
        obtain ⟨i, hi⟩ := List.exists_mem_of_ne_nil _ h0
        have := ((fr_ready hf).1 hi).1
        rw [h1] at this
        cases this
      . have hne : i ≠ N := fun e => h0 (fr_none_ready hf hs (fun j hj => fr_waits hf hc (e ▸ hi) (N - j) j (by omega) (by omega)))
        have hlt : i < N := by have := fr_lt hf hi; omega
        have hq := h.2 i ((fr_ready hf).2 ⟨hi, hlt⟩)
        obtain ⟨hun, o, ho, hall⟩ := mem_ready.1 hi
        have hg := (hf.low i o hlt ho).1
        have hw : ∀ y, Region.wanted o y = true := fun y => by simp [Region.wanted, hg]
        have hc' : ClL md ops N (listed.setIfInBounds i true) := by
          intro j oj hj hl hoj e he hb
          by_cases e1 : j = i
          . subst e1
            rw [ho] at hoj
            cases hoj
            have h1 := hall e he hb
            have h2 := (hf.low j o hlt ho).2 e he
            rw [getD_ne (by omega)]
            exact h1
          . rw [getD_ne e1] at hl
            have h1 := hc j oj hj hl hoj e he hb
            by_cases e2 : e.on = i
            . rw [e2]; exact getD_eq (by omega) false
            . rw [getD_ne e2]; exact h1
        unfold wpOp at hq ⊢
        rw [fr_get hf hlt, ho] at hq
        simp only [ho, hw, if_true] at hq ⊢
        have step : ∀ a' w', wpAny P md ops.pop (QL P ops Q N) fuel (listed.setIfInBounds i true) a' w' -> wpAny P md ops Q (fuel + 1) (listed.setIfInBounds i true) a' w' := fun a' w' h' =>
          ih _ a' w' (by simpa using hs) (by rw [getD_ne (fun e => hne e.symm)]; exact hN) hc' h'
        rcases hq with hq | ⟨hq1, hq2⟩
        . exact .inl (Oper.wp_mono step (wp_QL o a w _ hq))
        . exact .inr ⟨hq1, hq2⟩
theorem region_front {id : Nat} {a : Act} {w : World} {l : List Oper} {S : World -> Prop} (hm : P.follows .mixedOrders = true) (n : Nat) (hF : frB .any l.toArray n = true) (hS : S w.drew)
    (h : S w.drew -> wpAnyH P .any (l.take n).toArray (QL P l.toArray Q n) S n (Array.replicate (n + 1) false) a w.drew) : (Code.region id l.toArray true).wp P Q a w := by
  have hf := fr_of hF
  have hsz : l.length = n + 1 := by simpa using hf.size
  have hpop : l.toArray.pop = (l.take n).toArray := by
    apply Array.ext'
    simp [List.dropLast_eq_take, hsz]
  refine wp_region_any hm ?_
  have H := wpAny_of_held _ _ _ _ (h hS)
  rw [← hpop] at H
  have := any_of_fr hf n (Array.replicate (n + 1) false) a _ (by simp) (by simp) (fun i o hi hl => by simp [Array.getD] at hl) H
  simpa [hsz] using this
end
end Go.Proofs.YtnghfdnlcnocjaaGreatDoor.Cir
namespace Go.Proofs.YtnghfdnlcnocjaaGreatDoor.Cir
open Go.RowKit Go.Shelf Go.Proofs.YtnghfdnlcnocjaaGreatDoor.Oct Go.Proofs.YtnghfdnlcnocjaaGreatDoor.Tok Go.Proofs.YtnghfdnlcnocjaaGreatDoor.Gt
def SM (R x y : Nat) (v : Value) (a0 a1 b0 b1 : Nat) (wh : Bool) (V : World) : Prop := V.cell? ⟨R, 8, none⟩ = some v /\ V.cell? ⟨x, 0, none⟩ = some (.int .i64 (a0 : Int)) /\ V.cell? ⟨x, 1, none⟩ = some (.int .i64 (a1 : Int)) /\ V.cell? ⟨x, 2, none⟩ = some (.bool wh) /\ V.cell? ⟨y, 0, none⟩ = some (.int .i64 (b0 : Int)) /\ V.cell? ⟨y, 1, none⟩ = some (.int .i64 (b1 : Int)) /\ V.cell? ⟨y, 2, none⟩ = some (.bool wh)
theorem SM.kept {R x y : Nat} {v : Value} {a0 a1 b0 b1 : Nat} {wh : Bool} {V V' : World} (h : SM R x y v a0 a1 b0 b1 wh V) (hk : ∀ b, b = R ∨ b = x ∨ b = y -> b < V.heap.size -> V'.heap[b]? = V.heap[b]?) : SM R x y v a0 a1 b0 b1 wh V' := by
  obtain ⟨h0, h1, h2, h3, h4, h5, h6⟩ := h
  have k0 := hk R (.inl rfl) (World.block_lt_of_cell? _ _ h0)
  have k1 := hk x (.inr (.inl rfl)) (World.block_lt_of_cell? _ _ h1)
  have k2 := hk y (.inr (.inr rfl)) (World.block_lt_of_cell? _ _ h4)
  exact ⟨(World.cell?_of_block (w := V) k0).trans h0, (World.cell?_of_block (w := V) k1).trans h1, (World.cell?_of_block (w := V) k1).trans h2, (World.cell?_of_block (w := V) k1).trans h3, (World.cell?_of_block (w := V) k2).trans h4, (World.cell?_of_block (w := V) k2).trans h5, (World.cell?_of_block (w := V) k2).trans h6⟩
theorem SM.alloc {R x y : Nat} {v : Value} {a0 a1 b0 b1 : Nat} {wh : Bool} {V : World} (h : SM R x y v a0 a1 b0 b1 wh V) (o : Obj) : SM R x y v a0 a1 b0 b1 wh (V.alloc o) := h.kept fun _ _ hb => Below.heap_alloc _ _ _ hb
theorem take_to {P : Program} {md : Region.Mode} {ops : Array Oper} {Q : Exit -> Act -> World -> Prop} {S : World -> Prop} {i d : Nat} {oi : Oper} {v : Value} {fuel : Nat} {listed : Array Bool} {a : Act} {w : World} (hi : ops[i]? = some oi) (hd : oi.dst = some d) (hs : Region.noSelect ops = true) (hf : Region.free md ops listed i = true) (hr : (Region.ready md ops listed).contains i = true)
    (hQ : ∀ c a w, Q (.panic c) (a.put (some d) v) w -> Q (.panic c) a w) (hy : YieldsIf P ops S oi v a) (hS : S w) (h : wpAnyH P md ops Q S fuel (listed.setIfInBounds i true) (a.put (some d) v) w) : wpAnyH P md ops Q S (fuel + 1) listed a w :=
  wpAnyH_take hi hs hf hr (by rw [hd]; exact hQ) hy hS (by rw [hd]; exact h)
theorem isI1 (z : Int) : ∀ (j : Nat) (y : Int), [z][j]? = some y -> (#[Value.int .i64 z] : Array Value)[0 + j]? = some (.int .i64 y)
  | 0, y, h => by simp at h; subst h; rfl
  | j + 1, y, h => by simp at h
theorem ql_last {P : Program} {ops : Array Oper} {Q : Exit -> Act -> World -> Prop} {N : Nat} {o : Oper} {a : Act} {w : World} (ho : ops[N]? = some o) (h : ∀ K : Act -> World -> Prop, Shut (∀ a w, Q .normal a w -> K a w) -> if Region.wanted o (yielded ops a.tmps) = true then Oper.wp P o a w K Q else K (a.put o.dst undef) w) : QL P ops Q N .normal a w :=
  wpOp_step ho (fun K hK => h K hK)
theorem cMeasure_ok (w0 : World) (R : Nat) (L : Ly) (B N : Nat) (d : Dc) (ao : Option Addr) (no co : Nat) (ops : List COp) (t : T) (ts : List T) (w : World) (hD : Rdr w0 w R L B N d) (hR : Rt w R (xOf L d) (.slice ao no co) ts) (hO : OpsAt w w0.heap.size ao no co ops) (hno : ops.length <= 4096) (o' : List COp) (ts' : List T) (hP : pMeasure d ops t ts = .ok o' ts') :
    Calls Tryz.prog 92 #[.pointer (some ⟨R, 0, none⟩), tkV t] w (PC R L d w0.heap.size ao w (.ok o' ts')) := by
  have hlt := hR.lt
  have eG := erG
  have eN := erN
  have HD := hide hD
  have HR := hide hR
  have HO := hide hO
  have HLN := hide hO.len
  obtain ⟨b0, b1, b2, -, -, -, -, -⟩ := hR.cells
  have c3 := fun W => cRefuse 85 t W
  have c4 := fun (V : World) (ts2 : List T) (n : Nat) (hn : no + n <= 4611686018427387904) (hr : Rt V R (xOf L d) (.slice ao no co) ts2) => cRoom R L d ao no co n t ts2 hn V hr
  unfold pMeasure at hP
  obtain ⟨kind, text, num, o0, line, col⟩ := t
  unfold tkV at c3 c4 ⊢
  simp only at c3 c4 ⊢
  have hR0 : Rt (w.alloc (.cells #[.int .i64 (kind : Int), .string ⟨text.toArray⟩, .int .i64 (num : Int), .int .i64 (o0 : Int), .int .i64 (line : Int), .int .i64 (col : Int)] 100)) R (xOf L d) (.slice ao no co) ts := hR.below (bnew _ _)
  have HW0 : Hid (Kb [R] w (w.alloc (.cells #[.int .i64 (kind : Int), .string ⟨text.toArray⟩, .int .i64 (num : Int), .int .i64 (o0 : Int), .int .i64 (line : Int), .int .i64 (col : Int)] 100))) := hide (Kb.of_below (bnew _ _))
  have M1 : Hid (∀ V, Rt V R (xOf L d) (.slice ao no co) ts -> Kb [R] w V -> Calls Tryz.prog 113 #[.pointer (some ⟨R, 0, none⟩), .agg #[.map (some L.mq), .int .i64 (d.q.size : Int), .int .i64 64]] V (PX R (xOf L d) (.slice ao no co) V (fun a => .tuple #[agV a, .nilIface]) bdA (pArg d.q ts))) := hide (fun V h hk => cArg R (xOf L d) (.slice ao no co) ts L.mq (d.q.size : Int) 64 d.q (fun y r hf => Nat.le_trans (HD.out.ok.rq y r hf).2 HD.out.ok.q) V h (by
    obtain ⟨⟨v, hb, _⟩, _⟩ := id h
    unfold rbO at hb
    exact (HD.out.turn HR.out hk).mq.ne hb) (HD.out.turn HR.out hk).mq.rm)
  cases h1 : pArg d.q ts with
  | no c t => rw [h1] at hP; cases hP
  | ok a ts1 =>
  rw [h1] at M1 hP
  simp only at hP
  have ha64 := pArg_bd hD.ok.rq hD.ok.q h1
  obtain ⟨fa, sa, wa⟩ := a
  replace ha64 : fa + sa <= 64 /\ 1 <= sa := ha64
  unfold agV at M1
  have M2 : Hid (∀ (V : World) (o1 : Obj), Rt (V.alloc o1) R (xOf L d) (.slice ao no co) ts1 -> Calls Tryz.prog 58 #[.pointer (some ⟨R, 0, none⟩), .slice (some ⟨V.heap.size + 1, 0, none⟩) 1 1] ((V.alloc o1).alloc (.cells #[.string ⟨#[45, 62]⟩] 9)) (PT R (xOf L d) (.slice ao no co) (V.alloc o1) (fun _ => .nilIface) id (pMks [[45, 62]] ts1))) := hide (fun V o1 h => by
    have := cMark1 R (xOf L d) (.slice ao no co) ts1 [45, 62] (V.alloc o1) h
    simp only [World.size_alloc] at this
    exact this)
  cases h2 : pMks [[45, 62]] ts1 with
  | no c t => rw [h2] at hP; cases hP
  | ok u2 ts2 =>
  rw [h2] at M2 hP
  simp only at hP
  have M3 : Hid (∀ V, Rt V R (xOf L d) (.slice ao no co) ts2 -> Kb [R] w V -> Calls Tryz.prog 113 #[.pointer (some ⟨R, 0, none⟩), .agg #[.map (some L.mb), .int .i64 (d.b.size : Int), .int .i64 64]] V (PX R (xOf L d) (.slice ao no co) V (fun a => .tuple #[agV a, .nilIface]) bdA (pArg d.b ts2))) := hide (fun V h hk => cArg R (xOf L d) (.slice ao no co) ts2 L.mb (d.b.size : Int) 64 d.b (fun y r hf => Nat.le_trans (HD.out.ok.rb y r hf).2 HD.out.ok.b) V h (by
    obtain ⟨⟨v, hb, _⟩, _⟩ := id h
    unfold rbO at hb
    exact (HD.out.turn HR.out hk).mb.ne hb) (HD.out.turn HR.out hk).mb.rm)
  cases h3 : pArg d.b ts2 with
  | no c t => rw [h3] at hP; cases hP
  | ok b ts3 =>
  rw [h3] at M3 hP
  simp only at hP
  have hb64 := pArg_bd hD.ok.rb hD.ok.b h3
  obtain ⟨fb, sb, wb⟩ := b
  replace hb64 : fb + sb <= 64 /\ 1 <= sb := hb64
  unfold agV at M3
  have M4 : Hid (∀ (V : World) (o1 : Obj), Rt (V.alloc o1) R (xOf L d) (.slice ao no co) ts3 -> Calls Tryz.prog 58 #[.pointer (some ⟨R, 0, none⟩), .slice (some ⟨V.heap.size + 1, 0, none⟩) 1 1] ((V.alloc o1).alloc (.cells #[.string ⟨#[59]⟩] 9)) (PT R (xOf L d) (.slice ao no co) (V.alloc o1) (fun _ => .nilIface) id (pMks [[59]] ts3))) := hide (fun V o1 h => by
    have := cMark1 R (xOf L d) (.slice ao no co) ts3 [59] (V.alloc o1) h
    simp only [World.size_alloc] at this
    exact this)
  cases h4 : pMks [[59]] ts3 with
  | no c t => rw [h4] at hP; cases hP
  | ok u4 ts4 =>
  rw [h4] at M4 hP
  simp only at hP
  have hno2 : no <= 4096 := by rw [HLN.out]; exact hno
  by_cases h5 : wa ≠ wb ∨ sa ≠ sb
  . rw [if_pos h5] at hP; cases hP
  rw [if_neg h5] at hP
  simp only [not_or, Classical.not_not] at h5
  obtain ⟨rfl, rfl⟩ := h5
  by_cases h6 : 4096 < ops.length + sa
  . rw [if_pos h6] at hP; cases hP
  rw [if_neg h6] at hP
  simp only [Res.ok.injEq] at hP
  obtain ⟨rfl, rfl⟩ := hP
  have H5 : Hid (¬ 4096 < no + sa) := hide (by rw [HLN.out]; exact h6)
  have H6 := hide h6
  clear h6 c3 hO
  cases wa with
  | true =>
    go_enter Tryz.func92, Tryz.ntmps92
    go_wp2_with (first
      | (go_at_call 113; (with_reducible refine Calls.mono (M1.out _ hR0 HW0.out) ?_); rintro e w1 ⟨rfl, hr1, hk1⟩; have hr1a := hr1.below (bnew w1 (.cells #[.int .i64 (fa : Int), .int .i64 (sa : Int), .bool true] 184)); have HK1 : Hid (Kb [R] w (w1.alloc (.cells #[.int .i64 (fa : Int), .int .i64 (sa : Int), .bool true] 184))) := hide ((HW0.out.trans hk1).alloc _))
      | (go_at_call 58; (with_reducible refine Calls.mono (M2.out w1 _ hr1a) ?_); rintro e w2 ⟨rfl, hr2, hk2⟩; obtain ⟨-, -, -, b3, b4, b5, -, -⟩ := hr2.cells; have hl2 := hr2.lt; have HK2 : Hid (Kb [R] w w2) := hide (HK1.out.trans hk2))
      | (go_at_call 113; (with_reducible refine Calls.mono (M3.out w2 hr2 HK2.out) ?_); rintro e w3 ⟨rfl, hr3, hk3⟩; have hr3a := hr3.below (bnew w3 (.cells #[.int .i64 (fb : Int), .int .i64 (sa : Int), .bool true] 184)); have HK3 : Hid (Kb [R] w (w3.alloc (.cells #[.int .i64 (fb : Int), .int .i64 (sa : Int), .bool true] 184))) := hide ((HK2.out.trans hk3).alloc _))
      | (go_at_call 58; (with_reducible refine Calls.mono (M4.out w3 _ hr3a) ?_); rintro e w4 ⟨rfl, hr4, hk4⟩; obtain ⟨k1, k2, k3, k4, k5, k6⟩ := meas_keeps hlt hk1 hk2 hk3 hk4; obtain ⟨q0, q1, q2, q3, q4, q5, q6⟩ := tok_cells k1; obtain ⟨x0, x1, x2, x3⟩ := def_cells k2; obtain ⟨y0, y1, y2, y3⟩ := def_cells k3; have HK4 : Hid (Kb [R] w w4) := hide (HK3.out.trans hk4))
      | (go_at_call 114; refine (c4 w4 ts4 sa (by omega) hr4).mono ?_; rw [if_neg H5.out]; rintro e w6 ⟨rfl, hb6⟩; have m2 := (hb6.block _ (by omega)).trans k2; have m3 := (hb6.block _ (by omega)).trans k3; obtain ⟨z0, z1, z2, z3⟩ := def_cells m2))
    have hKw : Kb [R] w w6 := HK4.out.then_below hb6
    have hR6 : Rt w6 R (xOf L d) (.slice ao no co) ts4 := hr4.below hb6
    have hO6 : OpsAt w6 w0.heap.size ao no co ops := HO.out.turn HR.out hKw
    have HK := hide (fun (b : Nat) (cs : Array Value) (t : TypeId) (fr : Nat × Nat) (hb : w6.heap[b]? = some (.cells cs t fr)) (h1 : t ≠ 68) (h2 : t ≠ 34) => keep_blk hR6 hO6 hb h1 h2)
    have HO6 := hide hO6
    have HR6 := hide hR6
    have HKw := hide hKw
    have hB0 := hD.bel.size
    have hws := hKw.size
    clear hO6 hR6 hKw
    clear q0 q1 q2 q3 q4 q5 q6 x0 x1 x2 x3 y0 y1 y2 y3 k1 k2 k3 hr4 hk4 hb6 hr1 hr2 hr3 hk1 hk2 hk3 hr1a hr3a c4
    go_loopw [78] (fun vi wr => ∃ (i : Nat) (ao' : Option Addr) (n' c' : Nat), vi = .int .i64 (i : Int) /\ i <= sa /\ Rt wr R (xOf L d) (.slice ao' n' c') ts4 /\ OpsAt wr w0.heap.size ao' n' c' (ops ++ (List.range i).map (msO ⟨fa, sa, true⟩ ⟨fb, sa, true⟩)) /\ Kb (R :: (ob ao).toList) w6 wr /\ (∀ b, ob ao' = some b -> ob ao = some b ∨ w6.heap.size <= b)) (fun vi _ => sa - (Go.RowKit.intOf vi).toNat)
    case atStart => exact ⟨0, ao, no, co, rfl, Nat.zero_le _, HR6.out, by simpa using HO6.out, Kb.refl _ _, fun b hb => .inl hb⟩
    case round =>
      obtain ⟨i, ao', n', c', rfl, hi, hRi, hOi, hKi, hbi⟩ := hrel
      have hkb : ∀ (b : Nat) (cs : Array Value) (t : TypeId) (fr : Nat × Nat), w6.heap[b]? = some (Obj.cells cs t fr) -> t ≠ 68 -> t ≠ 34 -> wr.heap[b]? = w6.heap[b]? := fun b cs t fr hb h1 h2 => hKi.block b (Array.getElem?_eq_some_iff.1 hb).1 (HK.out b cs t fr hb h1 h2)
      by_cases h : i < sa
      . have hdd : decide ((i : Int) < (sa : Int)) = true := decide_eq_true (by omega)
        have p2 := (hkb _ _ _ _ m2 (by decide) (by decide)).trans m2
        have p3 := (hkb _ _ _ _ m3 (by decide) (by decide)).trans m3
        obtain ⟨d0, d1, d2, hdl⟩ := def_cells p2
        obtain ⟨e0, e1, e2, hel⟩ := def_cells p3
        have r8 := hRi.cells.2.2.2.2.2.2.2
        have rf := hRi.free 8
        have hlR := hRi.lt
        have hsz := hKi.size
        have hni : n' + 1 <= 4096 := by
          have := hOi.len
          rw [List.length_append, List.length_map, List.length_range] at this
          have := H6.out
          omega
        have hS0 : SM R w1.heap.size w3.heap.size (.slice ao' n' c') fa sa fb sa true wr.drew := ⟨r8, d0, d1, d2, e0, e1, e2⟩
        have hneR : R ∉ (ob ao').toList := by
          obtain ⟨⟨v, hr, _⟩, _⟩ := id hRi
          unfold rbO at hr
          obtain ⟨xs, _, _, h3, _⟩ := id hOi
          exact fun e => own_ne h3 hr (by decide) (by simpa using e)
        have hne2 : w1.heap.size ∉ (ob ao').toList := by
          obtain ⟨xs, _, _, h3, _⟩ := id hOi
          exact fun e => own_ne h3 p2 (by decide) (by simpa using e)
        have hne3 : w3.heap.size ∉ (ob ao').toList := by
          obtain ⟨xs, _, _, h3, _⟩ := id hOi
          exact fun e => own_ne h3 p3 (by decide) (by simpa using e)
        have HSG : Hid (∀ (V V' : World), SM R w1.heap.size w3.heap.size (.slice ao' n' c') fa sa fb sa true V -> V.grownBy V' (ob ao') -> SM R w1.heap.size w3.heap.size (.slice ao' n' c') fa sa fb sa true V') := hide (fun V V' h hg => h.kept fun b hb hl => hg.block b hl (fun e => by
          rcases hb with rfl | rfl | rfl
          . exact hneR (by simp [← e])
          . exact hne2 (by simp [← e])
          . exact hne3 (by simp [← e])))
        have HREL : Hid (∀ (V w7 : World) (v : Value) (g7 cap : Nat) (hk : Kb (R :: (ob ao).toList) w6 V) (hr : Rt V R (xOf L d) (.slice ao' n' c') ts4) (hO : OpsAt V w0.heap.size ao' n' c' (ops ++ (List.range i).map (msO ⟨fa, sa, true⟩ ⟨fb, sa, true⟩))) (hv : IsI V v [((atP i ⟨fa, sa, true⟩ : Nat) : Int)]), V.heap.size ≥ wr.heap.size -> w7.ownsRow w0.heap.size 34 6 (.slice (some ⟨g7, 0, none⟩) (n' + 1) cap) (n' + 1) (hO.choose.flatMap opC ++ opC (msO ⟨fa, sa, true⟩ ⟨fb, sa, true⟩ i, v)) -> V.grownBy w7 (ob ao') -> (ob ao' = some g7 ∨ V.heap.size <= g7) ->
            Rt (w7.setCell ⟨R, 8, none⟩ (.slice (some ⟨g7, 0, none⟩) (n' + 1) cap)) R (xOf L d) (.slice (some ⟨g7, 0, none⟩) (n' + 1) cap) ts4 /\ OpsAt (w7.setCell ⟨R, 8, none⟩ (.slice (some ⟨g7, 0, none⟩) (n' + 1) cap)) w0.heap.size (some ⟨g7, 0, none⟩) (n' + 1) cap (ops ++ (List.range (i + 1)).map (msO ⟨fa, sa, true⟩ ⟨fb, sa, true⟩)) /\ Kb (R :: (ob ao).toList) w6 (w7.setCell ⟨R, 8, none⟩ (.slice (some ⟨g7, 0, none⟩) (n' + 1) cap)) /\ (∀ b, ob (some (⟨g7, 0, none⟩ : Addr)) = some b -> ob ao = some b ∨ w6.heap.size <= b)) := hide (fun V w7 v g7 cap hk hr hO hv hVs hown hg hat => by
          have hbt : some L.bt ≠ ob ao' := by
            obtain ⟨tcs, tfr, htb⟩ := hr.btB
            obtain ⟨xs, _, _, h3, _⟩ := id hO
            exact (own_ne h3 htb (by decide)).symm
          have hR7 : Rt w7 R (xOf L d) (.slice ao' n' c') ts4 := hr.kept (hg.block R hr.lt (fun e => hneR (by simp [← e]))) (hg.block L.bt hr.bt hbt)
          have hO7 := hO.push (msO ⟨fa, sa, true⟩ ⟨fb, sa, true⟩ i) v hv hg hown
          have hKs : Kb [R] w7 (w7.setCell ⟨R, 8, none⟩ (.slice (some ⟨g7, 0, none⟩) (n' + 1) cap)) := (Kb.refl _ _).setCell (.inl (by simp)) _
          refine ⟨hR7.put8 _, ?_, (hk.grown hg (fun b hb => ?_)).setCell (.inl (by simp)) _, fun b hb => ?_⟩
          . rw [List.range_succ, List.map_append, ← List.append_assoc]
            exact hO7.turn hR7 hKs
          . rcases hbi b hb with e | e
            . exact .inl (by simp [e])
            . exact .inr e
          . cases hb
            rcases hat with e | e
            . exact hbi _ e
            . exact .inr (show w6.heap.size <= g7 by omega))
        have HV : Hid (∀ V, Below wr.heap.size wr V -> Kb (R :: (ob ao).toList) w6 V /\ Rt V R (xOf L d) (.slice ao' n' c') ts4 /\ OpsAt V w0.heap.size ao' n' c' (ops ++ (List.range i).map (msO ⟨fa, sa, true⟩ ⟨fb, sa, true⟩))) := hide (fun V hb => ⟨hKi.then_below hb, hRi.below hb, hOi.below hb⟩)
        have HNR : Hid (some R ≠ ob ao') := hide (fun e => hneR (by simp [← e]))
        have HRi := hide hRi
        have HOi := hide hOi
        have HKi := hide hKi
        clear hkb p2 p3 hneR hne2 hne3 hRi hOi hKi
        go_wp2_with fail
        refine region_front (S := SM R w1.heap.size w3.heap.size (.slice ao' n' c') fa sa fb sa true) (by kernel_rfl) 17 (by kernel_rfl) hS0 (fun hHeld => ?_)
        simp only [List.take_succ_cons, List.take_zero]
        refine take_to (i := 0) (d := 81) (v := ?_) rfl rfl (by kernel_rfl) (by kernel_rfl) (by kernel_rfl) (fun _ _ _ h => h) (Or.inl ⟨by rfl, ?_⟩) (by assumption) ?_
        rotate_left 1
        . intro W hSw
          obtain ⟨s8, s0, s1, s2, s3, s4, s5⟩ := hSw
          go_simp
          with_reducible rfl
        simp only [Act.put, List.setIfInBounds_toArray, List.set_cons_zero, List.set_cons_succ]
        refine take_to (i := 1) (d := 82) (v := ?_) rfl rfl (by kernel_rfl) (by kernel_rfl) (by kernel_rfl) (fun _ _ _ h => h) (Or.inl ⟨by rfl, ?_⟩) (by assumption) ?_
        rotate_left 1
        . intro W hSw
          obtain ⟨s8, s0, s1, s2, s3, s4, s5⟩ := hSw
          go_simp
          with_reducible rfl
        simp only [Act.put, List.setIfInBounds_toArray, List.set_cons_zero, List.set_cons_succ]
        refine take_to (i := 2) (d := 83) (v := ?_) rfl rfl (by kernel_rfl) (by kernel_rfl) (by kernel_rfl) (fun _ _ _ h => h) (Or.inl ⟨by rfl, ?_⟩) (by assumption) ?_
        rotate_left 1
        . intro W hSw
          obtain ⟨s8, s0, s1, s2, s3, s4, s5⟩ := hSw
          go_simp
          with_reducible rfl
        simp only [Act.put, List.setIfInBounds_toArray, List.set_cons_zero, List.set_cons_succ]
        refine take_to (i := 3) (d := 84) (v := ?_) rfl rfl (by kernel_rfl) (by kernel_rfl) (by kernel_rfl) (fun _ _ _ h => h) (Or.inl ⟨by rfl, ?_⟩) (by assumption) ?_
        rotate_left 1
        . intro W hSw
          obtain ⟨s8, s0, s1, s2, s3, s4, s5⟩ := hSw
          go_simp
          with_reducible rfl
        simp only [Act.put, List.setIfInBounds_toArray, List.set_cons_zero, List.set_cons_succ]
        refine take_to (i := 4) (d := 85) (v := ?_) rfl rfl (by kernel_rfl) (by kernel_rfl) (by kernel_rfl) (fun _ _ _ h => h) (Or.inl ⟨by rfl, ?_⟩) (by assumption) ?_
        rotate_left 1
        . intro W hSw
          obtain ⟨s8, s0, s1, s2, s3, s4, s5⟩ := hSw
          go_simp
          with_reducible rfl
        simp only [Act.put, List.setIfInBounds_toArray, List.set_cons_zero, List.set_cons_succ]
        refine take_to (i := 5) (d := 86) (v := ?_) rfl rfl (by kernel_rfl) (by kernel_rfl) (by kernel_rfl) (fun _ _ _ h => h) (Or.inl ⟨by rfl, ?_⟩) (by assumption) ?_
        rotate_left 1
        . intro W hSw
          obtain ⟨s8, s0, s1, s2, s3, s4, s5⟩ := hSw
          go_simp
          with_reducible rfl
        simp only [Act.put, List.setIfInBounds_toArray, List.set_cons_zero, List.set_cons_succ]
        refine take_to (i := 6) (d := 87) (v := ?_) rfl rfl (by kernel_rfl) (by kernel_rfl) (by kernel_rfl) (fun _ _ _ h => h) (Or.inl ⟨by rfl, ?_⟩) (by assumption) ?_
        rotate_left 1
        . intro W hSw
          obtain ⟨s8, s0, s1, s2, s3, s4, s5⟩ := hSw
          go_simp
          with_reducible rfl
        simp only [Act.put, List.setIfInBounds_toArray, List.set_cons_zero, List.set_cons_succ]
        refine take_to (i := 9) (d := 90) (v := ?_) rfl rfl (by kernel_rfl) (by kernel_rfl) (by kernel_rfl) (fun _ _ _ h => h) (Or.inl ⟨by rfl, ?_⟩) (by assumption) ?_
        rotate_left 1
        . intro W hSw
          obtain ⟨s8, s0, s1, s2, s3, s4, s5⟩ := hSw
          go_simp
          with_reducible rfl
        simp only [Act.put, List.setIfInBounds_toArray, List.set_cons_zero, List.set_cons_succ]
        refine take_to (i := 10) (d := 91) (v := ?_) rfl rfl (by kernel_rfl) (by kernel_rfl) (by kernel_rfl) (fun _ _ _ h => h) (Or.inl ⟨by rfl, ?_⟩) (by assumption) ?_
        rotate_left 1
        . intro W hSw
          obtain ⟨s8, s0, s1, s2, s3, s4, s5⟩ := hSw
          go_simp
          with_reducible rfl
        simp only [Act.put, List.setIfInBounds_toArray, List.set_cons_zero, List.set_cons_succ]
        refine wpAnyH_ready (rs := [7]) (by kernel_rfl) (by simp) ?_
        refine AllReadyH.cons (o := { dst := some 88, op := Op.call { callee := Callee.value (Operand.func 115), args := #[Operand.tmp 86, Operand.tmp 87], argTypes := #[184, 3] }, type := 3, pos := "action.go:153", after := #[{ on := 5, ground := Ground.data }, { on := 6, ground := Ground.data }], guard := none }) rfl (fun K hK => ?_) AllReadyH.nil
        go_simp
        go_at_call 115
        refine (cAt ⟨fa, sa, true⟩ i (by simp only; omega) (by omega) _).mono ?_
        rintro e w7 ⟨rfl, rfl⟩
        go_wp2_with fail
        refine hK.out _ _ (SM.alloc (by assumption) _) (fun hHeld => ?_)
        clear hK K
        refine wpAnyH_ready (rs := [8, 11]) (by kernel_rfl) (by simp) ?_
        refine AllReadyH.cons (o := { dst := some 89, op := Op.buildSlice 32 1 #[(0, Operand.tmp 88)], type := 32, pos := "action.go:153", after := #[{ on := 7, ground := Ground.data }], guard := none }) rfl (fun K hK => ?_) ?_
        . go_simp
          refine hK.out _ _ (SM.alloc (by assumption) _) (fun hHeld => ?_)
          clear hK K
          try simp only [Act.put, List.setIfInBounds_toArray, List.set_cons_zero, List.set_cons_succ]
          refine wpAnyH_ready (rs := [11]) (by kernel_rfl) (by simp) ?_
          refine AllReadyH.cons (o := { dst := some 92, op := Op.call { callee := Callee.value (Operand.func 115), args := #[Operand.tmp 90, Operand.tmp 91], argTypes := #[184, 3] }, type := 3, pos := "action.go:153", after := #[{ on := 9, ground := Ground.data }, { on := 10, ground := Ground.data }, { on := 7, ground := Ground.chain }], guard := none }) rfl (fun K hK => ?_) AllReadyH.nil
          go_simp
          go_at_call 115
          refine (cAt ⟨fb, sa, true⟩ i (by simp only; omega) (by omega) _).mono ?_
          rintro e w7 ⟨rfl, rfl⟩
          go_wp2_with fail
          refine hK.out _ _ (SM.alloc (by assumption) _) (fun hHeld => ?_)
          clear hK K
          have hSV := hHeld
          have hbV : Below wr.heap.size wr (((wr.alloc (.cells #[.int .i64 (fa : Int), .int .i64 (sa : Int), .bool true] 184)).alloc (.cells #[.int .i64 ((atP i ⟨fa, sa, true⟩ : Nat) : Int)] 3)).alloc (.cells #[.int .i64 (fb : Int), .int .i64 (sa : Int), .bool true] 184)) := (((Below.refl _ _).alloc (Nat.le_refl _) _).alloc (by simp) _).alloc (by simp; omega) _
          obtain ⟨hKV, hRV, hOV⟩ := HV.out _ hbV
          have hIs : IsI (((wr.alloc (.cells #[.int .i64 (fa : Int), .int .i64 (sa : Int), .bool true] 184)).alloc (.cells #[.int .i64 ((atP i ⟨fa, sa, true⟩ : Nat) : Int)] 3)).alloc (.cells #[.int .i64 (fb : Int), .int .i64 (sa : Int), .bool true] 184)) (.slice (some ⟨wr.heap.size + 1, 0, none⟩) 1 1) [((atP i ⟨fa, sa, true⟩ : Nat) : Int)] := .inr ⟨wr.heap.size + 1, 0, 1, #[.int .i64 ((atP i ⟨fa, sa, true⟩ : Nat) : Int)], (0, 0), rfl, Nat.le_refl _, by rw [Below.heap_alloc _ _ _ (by simp)]; have := heap_alloc_new (wr.alloc (.cells #[.int .i64 (fa : Int), .int .i64 (sa : Int), .bool true] 184)) (.cells #[.int .i64 ((atP i ⟨fa, sa, true⟩ : Nat) : Int)] 3); simpa using this, isI1 _⟩
          have hsV := hbV.size
          have hzV : (((wr.alloc (.cells #[.int .i64 (fa : Int), .int .i64 (sa : Int), .bool true] 184)).alloc (.cells #[.int .i64 ((atP i ⟨fa, sa, true⟩ : Nat) : Int)] 3)).alloc (.cells #[.int .i64 (fb : Int), .int .i64 (sa : Int), .bool true] 184)).heap.size = wr.heap.size + 3 := by simp
          have hRf := hRV.free 8
          have hRl := hRV.lt
          generalize hVV : (((wr.alloc (.cells #[.int .i64 (fa : Int), .int .i64 (sa : Int), .bool true] 184)).alloc (.cells #[.int .i64 ((atP i ⟨fa, sa, true⟩ : Nat) : Int)] 3)).alloc (.cells #[.int .i64 (fb : Int), .int .i64 (sa : Int), .bool true] 184)) = V at *
          refine take_to (i := 12) (d := 93) (v := ?_) rfl rfl (by kernel_rfl) (by kernel_rfl) (by kernel_rfl) (fun _ _ _ h => h) (Or.inl ⟨by rfl, ?_⟩) (by assumption) ?_
          rotate_left 1
          . intro W hSw
            obtain ⟨s8, s0, s1, s2, s3, s4, s5⟩ := hSw
            go_simp
            with_reducible rfl
          simp only [Act.put, List.setIfInBounds_toArray, List.set_cons_zero, List.set_cons_succ]
          refine wpAnyH_ready (rs := [13]) (by kernel_rfl) (by simp) ?_
          refine AllReadyH.cons (o := { dst := some 94, op := Op.buildSlice 22 1 #[(0, Operand.tmp 93)], type := 22, pos := "action.go:153", after := #[{ on := 12, ground := Ground.data }], guard := none }) rfl (fun K hK => ?_) AllReadyH.nil
          go_simp
          refine hK.out _ _ (SM.alloc (by assumption) _) (fun hHeld => ?_)
          clear hK K
          try simp only [Act.put, List.setIfInBounds_toArray, List.set_cons_zero, List.set_cons_succ]
          refine wpAnyH_ready (rs := [14]) (by kernel_rfl) (by simp) ?_
          refine AllReadyH.cons (o := { dst := some 95, op := Op.call { callee := Callee.builtin Builtin.append, args := #[Operand.tmp 85, Operand.tmp 94], argTypes := #[22, 22] }, type := 22, pos := "action.go:153", after := #[{ on := 4, ground := Ground.data }, { on := 13, ground := Ground.data }, { on := 11, ground := Ground.chain }], guard := none }) rfl (fun K hK => ?_) AllReadyH.nil
          refine step_pushD rfl (.tmp 85) (.tmp 94) 22 rfl 34 Tryz.underlying22 _ 6 64 infoOp rfl (by decide) w0.heap.size ao' n' c' _ (by rfl) hOV.choose_spec.2.2.1 [.int .i64 2, .int .i64 0, .slice (some ⟨wr.heap.size + 1, 0, none⟩) 1 1, .int .i64 ((atP i ⟨fb, sa, true⟩ : Nat) : Int), .int .i64 (-1), .int .i64 0] _ rfl rfl (by simp [Value.oneCell']) (wr.heap.size + 1 + 1 + 1) hzV (by rfl) (by omega) (by omega) (by omega) ?_
          intro g7 cap w7 hown7 hg7 hat7
          refine hK.out _ _ (HSG.out V w7 hSV hg7) (fun hHeld => ?_)
          clear hK K
          simp only [Act.put, List.setIfInBounds_toArray, List.set_cons_zero, List.set_cons_succ]
          refine take_to (i := 15) (d := 96) (v := ?_) rfl rfl (by kernel_rfl) (by kernel_rfl) (by kernel_rfl) (fun _ _ _ h => h) (Or.inl ⟨by rfl, ?_⟩) (by assumption) ?_
          rotate_left 1
          . intro W hSw
            obtain ⟨s8, s0, s1, s2, s3, s4, s5⟩ := hSw
            go_simp
            with_reducible rfl
          simp only [Act.put, List.setIfInBounds_toArray, List.set_cons_zero, List.set_cons_succ]
          refine take_to (i := 16) (d := 97) (v := ?_) rfl rfl (by kernel_rfl) (by kernel_rfl) (by kernel_rfl) (fun _ _ _ h => h) (Or.inl ⟨by rfl, ?_⟩) (by assumption) ?_
          rotate_left 1
          . intro W hSw
            obtain ⟨s8, s0, s1, s2, s3, s4, s5⟩ := hSw
            go_simp
            with_reducible rfl
          simp only [Act.put, List.setIfInBounds_toArray, List.set_cons_zero, List.set_cons_succ]
          refine wpAnyH_done (by kernel_rfl) ?_ _
          refine ql_last (o := { dst := none, op := Op.store 22 (Operand.tmp 97) (Operand.tmp 95), type := 0, pos := "action.go:153", after := #[{ on := 16, ground := Ground.data }, { on := 14, ground := Ground.data }, { on := 14, ground := Ground.chain }, { on := 0, ground := Ground.phase }, { on := 1, ground := Ground.phase }, { on := 2, ground := Ground.phase }, { on := 3, ground := Ground.phase }, { on := 4, ground := Ground.phase }, { on := 5, ground := Ground.phase }, { on := 6, ground := Ground.phase }, { on := 7, ground := Ground.phase }, { on := 8, ground := Ground.phase }, { on := 9, ground := Ground.phase }, { on := 10, ground := Ground.phase }, { on := 11, ground := Ground.phase }, { on := 12, ground := Ground.phase }, { on := 13, ground := Ground.phase }, { on := 14, ground := Ground.phase }], guard := none }) rfl (fun K hK => ?_)
          have hf7 : w7.frozen? ⟨R, 8, none⟩ = false := (World.frozen?_of_block (w := V) (hg7.block R hRl HNR.out)).trans hRf
          have hl7 : R < w7.heap.size := by have := hg7.size; omega
          obtain ⟨s8, s0, s1, s2, s3, s4, s5⟩ := hHeld
          go_simp
          refine hK.out _ _ ?_
          clear hK K
          go_wp2_with fail
          go_roundw
          case rel => exact ⟨i + 1, _, _, _, by go_num, by omega, HREL.out V w7 _ g7 cap hKV hRV hOV hIs (by omega) hown7 hg7 hat7⟩
          case measure => simp [Go.RowKit.intOf]; omega
        refine AllReadyH.cons (o := { dst := some 92, op := Op.call { callee := Callee.value (Operand.func 115), args := #[Operand.tmp 90, Operand.tmp 91], argTypes := #[184, 3] }, type := 3, pos := "action.go:153", after := #[{ on := 9, ground := Ground.data }, { on := 10, ground := Ground.data }, { on := 7, ground := Ground.chain }], guard := none }) rfl (fun K hK => ?_) AllReadyH.nil
        . go_simp
          go_at_call 115
          refine (cAt ⟨fb, sa, true⟩ i (by simp only; omega) (by omega) _).mono ?_
          rintro e w7 ⟨rfl, rfl⟩
          go_wp2_with fail
          refine hK.out _ _ (SM.alloc (by assumption) _) (fun hHeld => ?_)
          clear hK K
          refine wpAnyH_ready (rs := [8]) (by kernel_rfl) (by simp) ?_
          refine AllReadyH.cons (o := { dst := some 89, op := Op.buildSlice 32 1 #[(0, Operand.tmp 88)], type := 32, pos := "action.go:153", after := #[{ on := 7, ground := Ground.data }], guard := none }) rfl (fun K hK => ?_) AllReadyH.nil
          go_simp
          refine hK.out _ _ (SM.alloc (by assumption) _) (fun hHeld => ?_)
          clear hK K
          try simp only [Act.put, List.setIfInBounds_toArray, List.set_cons_zero, List.set_cons_succ]
          have hSV := hHeld
          have hbV : Below wr.heap.size wr (((wr.alloc (.cells #[.int .i64 (fa : Int), .int .i64 (sa : Int), .bool true] 184)).alloc (.cells #[.int .i64 (fb : Int), .int .i64 (sa : Int), .bool true] 184)).alloc (.cells #[.int .i64 ((atP i ⟨fa, sa, true⟩ : Nat) : Int)] 3)) := (((Below.refl _ _).alloc (Nat.le_refl _) _).alloc (by simp) _).alloc (by simp; omega) _
          obtain ⟨hKV, hRV, hOV⟩ := HV.out _ hbV
          have hIs : IsI (((wr.alloc (.cells #[.int .i64 (fa : Int), .int .i64 (sa : Int), .bool true] 184)).alloc (.cells #[.int .i64 (fb : Int), .int .i64 (sa : Int), .bool true] 184)).alloc (.cells #[.int .i64 ((atP i ⟨fa, sa, true⟩ : Nat) : Int)] 3)) (.slice (some ⟨wr.heap.size + 2, 0, none⟩) 1 1) [((atP i ⟨fa, sa, true⟩ : Nat) : Int)] := .inr ⟨wr.heap.size + 2, 0, 1, #[.int .i64 ((atP i ⟨fa, sa, true⟩ : Nat) : Int)], (0, 0), rfl, Nat.le_refl _, by have := heap_alloc_new ((wr.alloc (.cells #[.int .i64 (fa : Int), .int .i64 (sa : Int), .bool true] 184)).alloc (.cells #[.int .i64 (fb : Int), .int .i64 (sa : Int), .bool true] 184)) (.cells #[.int .i64 ((atP i ⟨fa, sa, true⟩ : Nat) : Int)] 3); simpa using this, isI1 _⟩
          have hsV := hbV.size
          have hzV : (((wr.alloc (.cells #[.int .i64 (fa : Int), .int .i64 (sa : Int), .bool true] 184)).alloc (.cells #[.int .i64 (fb : Int), .int .i64 (sa : Int), .bool true] 184)).alloc (.cells #[.int .i64 ((atP i ⟨fa, sa, true⟩ : Nat) : Int)] 3)).heap.size = wr.heap.size + 3 := by simp
          have hRf := hRV.free 8
          have hRl := hRV.lt
          generalize hVV : (((wr.alloc (.cells #[.int .i64 (fa : Int), .int .i64 (sa : Int), .bool true] 184)).alloc (.cells #[.int .i64 (fb : Int), .int .i64 (sa : Int), .bool true] 184)).alloc (.cells #[.int .i64 ((atP i ⟨fa, sa, true⟩ : Nat) : Int)] 3)) = V at *
          refine take_to (i := 12) (d := 93) (v := ?_) rfl rfl (by kernel_rfl) (by kernel_rfl) (by kernel_rfl) (fun _ _ _ h => h) (Or.inl ⟨by rfl, ?_⟩) (by assumption) ?_
          rotate_left 1
          . intro W hSw
            obtain ⟨s8, s0, s1, s2, s3, s4, s5⟩ := hSw
            go_simp
            with_reducible rfl
          simp only [Act.put, List.setIfInBounds_toArray, List.set_cons_zero, List.set_cons_succ]
          refine wpAnyH_ready (rs := [13]) (by kernel_rfl) (by simp) ?_
          refine AllReadyH.cons (o := { dst := some 94, op := Op.buildSlice 22 1 #[(0, Operand.tmp 93)], type := 22, pos := "action.go:153", after := #[{ on := 12, ground := Ground.data }], guard := none }) rfl (fun K hK => ?_) AllReadyH.nil
          go_simp
          refine hK.out _ _ (SM.alloc (by assumption) _) (fun hHeld => ?_)
          clear hK K
          try simp only [Act.put, List.setIfInBounds_toArray, List.set_cons_zero, List.set_cons_succ]
          refine wpAnyH_ready (rs := [14]) (by kernel_rfl) (by simp) ?_
          refine AllReadyH.cons (o := { dst := some 95, op := Op.call { callee := Callee.builtin Builtin.append, args := #[Operand.tmp 85, Operand.tmp 94], argTypes := #[22, 22] }, type := 22, pos := "action.go:153", after := #[{ on := 4, ground := Ground.data }, { on := 13, ground := Ground.data }, { on := 11, ground := Ground.chain }], guard := none }) rfl (fun K hK => ?_) AllReadyH.nil
          refine step_pushD rfl (.tmp 85) (.tmp 94) 22 rfl 34 Tryz.underlying22 _ 6 64 infoOp rfl (by decide) w0.heap.size ao' n' c' _ (by rfl) hOV.choose_spec.2.2.1 [.int .i64 2, .int .i64 0, .slice (some ⟨wr.heap.size + 2, 0, none⟩) 1 1, .int .i64 ((atP i ⟨fb, sa, true⟩ : Nat) : Int), .int .i64 (-1), .int .i64 0] _ rfl rfl (by simp [Value.oneCell']) (wr.heap.size + 1 + 1 + 1) hzV (by rfl) (by omega) (by omega) (by omega) ?_
          intro g7 cap w7 hown7 hg7 hat7
          refine hK.out _ _ (HSG.out V w7 hSV hg7) (fun hHeld => ?_)
          clear hK K
          simp only [Act.put, List.setIfInBounds_toArray, List.set_cons_zero, List.set_cons_succ]
          refine take_to (i := 15) (d := 96) (v := ?_) rfl rfl (by kernel_rfl) (by kernel_rfl) (by kernel_rfl) (fun _ _ _ h => h) (Or.inl ⟨by rfl, ?_⟩) (by assumption) ?_
          rotate_left 1
          . intro W hSw
            obtain ⟨s8, s0, s1, s2, s3, s4, s5⟩ := hSw
            go_simp
            with_reducible rfl
          simp only [Act.put, List.setIfInBounds_toArray, List.set_cons_zero, List.set_cons_succ]
          refine take_to (i := 16) (d := 97) (v := ?_) rfl rfl (by kernel_rfl) (by kernel_rfl) (by kernel_rfl) (fun _ _ _ h => h) (Or.inl ⟨by rfl, ?_⟩) (by assumption) ?_
          rotate_left 1
          . intro W hSw
            obtain ⟨s8, s0, s1, s2, s3, s4, s5⟩ := hSw
            go_simp
            with_reducible rfl
          simp only [Act.put, List.setIfInBounds_toArray, List.set_cons_zero, List.set_cons_succ]
          refine wpAnyH_done (by kernel_rfl) ?_ _
          refine ql_last (o := { dst := none, op := Op.store 22 (Operand.tmp 97) (Operand.tmp 95), type := 0, pos := "action.go:153", after := #[{ on := 16, ground := Ground.data }, { on := 14, ground := Ground.data }, { on := 14, ground := Ground.chain }, { on := 0, ground := Ground.phase }, { on := 1, ground := Ground.phase }, { on := 2, ground := Ground.phase }, { on := 3, ground := Ground.phase }, { on := 4, ground := Ground.phase }, { on := 5, ground := Ground.phase }, { on := 6, ground := Ground.phase }, { on := 7, ground := Ground.phase }, { on := 8, ground := Ground.phase }, { on := 9, ground := Ground.phase }, { on := 10, ground := Ground.phase }, { on := 11, ground := Ground.phase }, { on := 12, ground := Ground.phase }, { on := 13, ground := Ground.phase }, { on := 14, ground := Ground.phase }], guard := none }) rfl (fun K hK => ?_)
          have hf7 : w7.frozen? ⟨R, 8, none⟩ = false := (World.frozen?_of_block (w := V) (hg7.block R hRl HNR.out)).trans hRf
          have hl7 : R < w7.heap.size := by have := hg7.size; omega
          obtain ⟨s8, s0, s1, s2, s3, s4, s5⟩ := hHeld
          go_simp
          refine hK.out _ _ ?_
          clear hK K
          go_wp2_with fail
          go_roundw
          case rel => exact ⟨i + 1, _, _, _, by go_num, by omega, HREL.out V w7 _ g7 cap hKV hRV hOV hIs (by omega) hown7 hg7 hat7⟩
          case measure => simp [Go.RowKit.intOf]; omega
      . obtain rfl : sa = i := by omega
        go_wp2_with fail
        go_ret
        refine ⟨rfl, ao', n', c', hRi, hOi, ?_, (HKw.out.mono (by simp)).trans hKi, fun b hb => ?_⟩
        . rw [List.length_append, List.length_map, List.length_range]
          have := H6.out
          omega
        . rcases hbi b hb with e | e
          . exact .inl e
          . exact .inr (by omega)
  | false =>
    go_enter Tryz.func92, Tryz.ntmps92
    go_wp2_with (first
      | (go_at_call 113; (with_reducible refine Calls.mono (M1.out _ hR0 HW0.out) ?_); rintro e w1 ⟨rfl, hr1, hk1⟩; have hr1a := hr1.below (bnew w1 (.cells #[.int .i64 (fa : Int), .int .i64 (sa : Int), .bool false] 184)); have HK1 : Hid (Kb [R] w (w1.alloc (.cells #[.int .i64 (fa : Int), .int .i64 (sa : Int), .bool false] 184))) := hide ((HW0.out.trans hk1).alloc _))
      | (go_at_call 58; (with_reducible refine Calls.mono (M2.out w1 _ hr1a) ?_); rintro e w2 ⟨rfl, hr2, hk2⟩; obtain ⟨-, -, -, b3, b4, b5, -, -⟩ := hr2.cells; have hl2 := hr2.lt; have HK2 : Hid (Kb [R] w w2) := hide (HK1.out.trans hk2))
      | (go_at_call 113; (with_reducible refine Calls.mono (M3.out w2 hr2 HK2.out) ?_); rintro e w3 ⟨rfl, hr3, hk3⟩; have hr3a := hr3.below (bnew w3 (.cells #[.int .i64 (fb : Int), .int .i64 (sa : Int), .bool false] 184)); have HK3 : Hid (Kb [R] w (w3.alloc (.cells #[.int .i64 (fb : Int), .int .i64 (sa : Int), .bool false] 184))) := hide ((HK2.out.trans hk3).alloc _))
      | (go_at_call 58; (with_reducible refine Calls.mono (M4.out w3 _ hr3a) ?_); rintro e w4 ⟨rfl, hr4, hk4⟩; obtain ⟨k1, k2, k3, k4, k5, k6⟩ := meas_keeps hlt hk1 hk2 hk3 hk4; obtain ⟨q0, q1, q2, q3, q4, q5, q6⟩ := tok_cells k1; obtain ⟨x0, x1, x2, x3⟩ := def_cells k2; obtain ⟨y0, y1, y2, y3⟩ := def_cells k3; have HK4 : Hid (Kb [R] w w4) := hide (HK3.out.trans hk4))
      | (go_at_call 114; refine (c4 w4 ts4 sa (by omega) hr4).mono ?_; rw [if_neg H5.out]; rintro e w6 ⟨rfl, hb6⟩; have m2 := (hb6.block _ (by omega)).trans k2; have m3 := (hb6.block _ (by omega)).trans k3; obtain ⟨z0, z1, z2, z3⟩ := def_cells m2))
    have hKw : Kb [R] w w6 := HK4.out.then_below hb6
    have hR6 : Rt w6 R (xOf L d) (.slice ao no co) ts4 := hr4.below hb6
    have hO6 : OpsAt w6 w0.heap.size ao no co ops := HO.out.turn HR.out hKw
    have HK := hide (fun (b : Nat) (cs : Array Value) (t : TypeId) (fr : Nat × Nat) (hb : w6.heap[b]? = some (.cells cs t fr)) (h1 : t ≠ 68) (h2 : t ≠ 34) => keep_blk hR6 hO6 hb h1 h2)
    have HO6 := hide hO6
    have HR6 := hide hR6
    have HKw := hide hKw
    have hB0 := hD.bel.size
    have hws := hKw.size
    clear hO6 hR6 hKw
    clear q0 q1 q2 q3 q4 q5 q6 x0 x1 x2 x3 y0 y1 y2 y3 k1 k2 k3 hr4 hk4 hb6 hr1 hr2 hr3 hk1 hk2 hk3 hr1a hr3a c4
    go_loopw [78] (fun vi wr => ∃ (i : Nat) (ao' : Option Addr) (n' c' : Nat), vi = .int .i64 (i : Int) /\ i <= sa /\ Rt wr R (xOf L d) (.slice ao' n' c') ts4 /\ OpsAt wr w0.heap.size ao' n' c' (ops ++ (List.range i).map (msO ⟨fa, sa, false⟩ ⟨fb, sa, false⟩)) /\ Kb (R :: (ob ao).toList) w6 wr /\ (∀ b, ob ao' = some b -> ob ao = some b ∨ w6.heap.size <= b)) (fun vi _ => sa - (Go.RowKit.intOf vi).toNat)
    case atStart => exact ⟨0, ao, no, co, rfl, Nat.zero_le _, HR6.out, by simpa using HO6.out, Kb.refl _ _, fun b hb => .inl hb⟩
    case round =>
      obtain ⟨i, ao', n', c', rfl, hi, hRi, hOi, hKi, hbi⟩ := hrel
      have hkb : ∀ (b : Nat) (cs : Array Value) (t : TypeId) (fr : Nat × Nat), w6.heap[b]? = some (Obj.cells cs t fr) -> t ≠ 68 -> t ≠ 34 -> wr.heap[b]? = w6.heap[b]? := fun b cs t fr hb h1 h2 => hKi.block b (Array.getElem?_eq_some_iff.1 hb).1 (HK.out b cs t fr hb h1 h2)
      by_cases h : i < sa
      . have hdd : decide ((i : Int) < (sa : Int)) = true := decide_eq_true (by omega)
        have p2 := (hkb _ _ _ _ m2 (by decide) (by decide)).trans m2
        have p3 := (hkb _ _ _ _ m3 (by decide) (by decide)).trans m3
        obtain ⟨d0, d1, d2, hdl⟩ := def_cells p2
        obtain ⟨e0, e1, e2, hel⟩ := def_cells p3
        have r8 := hRi.cells.2.2.2.2.2.2.2
        have rf := hRi.free 8
        have hlR := hRi.lt
        have hsz := hKi.size
        have hni : n' + 1 <= 4096 := by
          have := hOi.len
          rw [List.length_append, List.length_map, List.length_range] at this
          have := H6.out
          omega
        have hS0 : SM R w1.heap.size w3.heap.size (.slice ao' n' c') fa sa fb sa false wr.drew := ⟨r8, d0, d1, d2, e0, e1, e2⟩
        have hneR : R ∉ (ob ao').toList := by
          obtain ⟨⟨v, hr, _⟩, _⟩ := id hRi
          unfold rbO at hr
          obtain ⟨xs, _, _, h3, _⟩ := id hOi
          exact fun e => own_ne h3 hr (by decide) (by simpa using e)
        have hne2 : w1.heap.size ∉ (ob ao').toList := by
          obtain ⟨xs, _, _, h3, _⟩ := id hOi
          exact fun e => own_ne h3 p2 (by decide) (by simpa using e)
        have hne3 : w3.heap.size ∉ (ob ao').toList := by
          obtain ⟨xs, _, _, h3, _⟩ := id hOi
          exact fun e => own_ne h3 p3 (by decide) (by simpa using e)
        have HSG : Hid (∀ (V V' : World), SM R w1.heap.size w3.heap.size (.slice ao' n' c') fa sa fb sa false V -> V.grownBy V' (ob ao') -> SM R w1.heap.size w3.heap.size (.slice ao' n' c') fa sa fb sa false V') := hide (fun V V' h hg => h.kept fun b hb hl => hg.block b hl (fun e => by
          rcases hb with rfl | rfl | rfl
          . exact hneR (by simp [← e])
          . exact hne2 (by simp [← e])
          . exact hne3 (by simp [← e])))
        have HREL : Hid (∀ (V w7 : World) (v : Value) (g7 cap : Nat) (hk : Kb (R :: (ob ao).toList) w6 V) (hr : Rt V R (xOf L d) (.slice ao' n' c') ts4) (hO : OpsAt V w0.heap.size ao' n' c' (ops ++ (List.range i).map (msO ⟨fa, sa, false⟩ ⟨fb, sa, false⟩))) (hv : IsI V v [((atP i ⟨fa, sa, false⟩ : Nat) : Int)]), V.heap.size ≥ wr.heap.size -> w7.ownsRow w0.heap.size 34 6 (.slice (some ⟨g7, 0, none⟩) (n' + 1) cap) (n' + 1) (hO.choose.flatMap opC ++ opC (msO ⟨fa, sa, false⟩ ⟨fb, sa, false⟩ i, v)) -> V.grownBy w7 (ob ao') -> (ob ao' = some g7 ∨ V.heap.size <= g7) ->
            Rt (w7.setCell ⟨R, 8, none⟩ (.slice (some ⟨g7, 0, none⟩) (n' + 1) cap)) R (xOf L d) (.slice (some ⟨g7, 0, none⟩) (n' + 1) cap) ts4 /\ OpsAt (w7.setCell ⟨R, 8, none⟩ (.slice (some ⟨g7, 0, none⟩) (n' + 1) cap)) w0.heap.size (some ⟨g7, 0, none⟩) (n' + 1) cap (ops ++ (List.range (i + 1)).map (msO ⟨fa, sa, false⟩ ⟨fb, sa, false⟩)) /\ Kb (R :: (ob ao).toList) w6 (w7.setCell ⟨R, 8, none⟩ (.slice (some ⟨g7, 0, none⟩) (n' + 1) cap)) /\ (∀ b, ob (some (⟨g7, 0, none⟩ : Addr)) = some b -> ob ao = some b ∨ w6.heap.size <= b)) := hide (fun V w7 v g7 cap hk hr hO hv hVs hown hg hat => by
          have hbt : some L.bt ≠ ob ao' := by
            obtain ⟨tcs, tfr, htb⟩ := hr.btB
            obtain ⟨xs, _, _, h3, _⟩ := id hO
            exact (own_ne h3 htb (by decide)).symm
          have hR7 : Rt w7 R (xOf L d) (.slice ao' n' c') ts4 := hr.kept (hg.block R hr.lt (fun e => hneR (by simp [← e]))) (hg.block L.bt hr.bt hbt)
          have hO7 := hO.push (msO ⟨fa, sa, false⟩ ⟨fb, sa, false⟩ i) v hv hg hown
          have hKs : Kb [R] w7 (w7.setCell ⟨R, 8, none⟩ (.slice (some ⟨g7, 0, none⟩) (n' + 1) cap)) := (Kb.refl _ _).setCell (.inl (by simp)) _
          refine ⟨hR7.put8 _, ?_, (hk.grown hg (fun b hb => ?_)).setCell (.inl (by simp)) _, fun b hb => ?_⟩
          . rw [List.range_succ, List.map_append, ← List.append_assoc]
            exact hO7.turn hR7 hKs
          . rcases hbi b hb with e | e
            . exact .inl (by simp [e])
            . exact .inr e
          . cases hb
            rcases hat with e | e
            . exact hbi _ e
            . exact .inr (show w6.heap.size <= g7 by omega))
        have HV : Hid (∀ V, Below wr.heap.size wr V -> Kb (R :: (ob ao).toList) w6 V /\ Rt V R (xOf L d) (.slice ao' n' c') ts4 /\ OpsAt V w0.heap.size ao' n' c' (ops ++ (List.range i).map (msO ⟨fa, sa, false⟩ ⟨fb, sa, false⟩))) := hide (fun V hb => ⟨hKi.then_below hb, hRi.below hb, hOi.below hb⟩)
        have HNR : Hid (some R ≠ ob ao') := hide (fun e => hneR (by simp [← e]))
        have HRi := hide hRi
        have HOi := hide hOi
        have HKi := hide hKi
        clear hkb p2 p3 hneR hne2 hne3 hRi hOi hKi
        go_wp2_with fail
        refine region_front (S := SM R w1.heap.size w3.heap.size (.slice ao' n' c') fa sa fb sa false) (by kernel_rfl) 17 (by kernel_rfl) hS0 (fun hHeld => ?_)
        simp only [List.take_succ_cons, List.take_zero]
        refine take_to (i := 0) (d := 81) (v := ?_) rfl rfl (by kernel_rfl) (by kernel_rfl) (by kernel_rfl) (fun _ _ _ h => h) (Or.inl ⟨by rfl, ?_⟩) (by assumption) ?_
        rotate_left 1
        . intro W hSw
          obtain ⟨s8, s0, s1, s2, s3, s4, s5⟩ := hSw
          go_simp
          with_reducible rfl
        simp only [Act.put, List.setIfInBounds_toArray, List.set_cons_zero, List.set_cons_succ]
        refine take_to (i := 1) (d := 82) (v := ?_) rfl rfl (by kernel_rfl) (by kernel_rfl) (by kernel_rfl) (fun _ _ _ h => h) (Or.inl ⟨by rfl, ?_⟩) (by assumption) ?_
        rotate_left 1
        . intro W hSw
          obtain ⟨s8, s0, s1, s2, s3, s4, s5⟩ := hSw
          go_simp
          with_reducible rfl
        simp only [Act.put, List.setIfInBounds_toArray, List.set_cons_zero, List.set_cons_succ]
        refine take_to (i := 2) (d := 83) (v := ?_) rfl rfl (by kernel_rfl) (by kernel_rfl) (by kernel_rfl) (fun _ _ _ h => h) (Or.inl ⟨by rfl, ?_⟩) (by assumption) ?_
        rotate_left 1
        . intro W hSw
          obtain ⟨s8, s0, s1, s2, s3, s4, s5⟩ := hSw
          go_simp
          with_reducible rfl
        simp only [Act.put, List.setIfInBounds_toArray, List.set_cons_zero, List.set_cons_succ]
        refine take_to (i := 3) (d := 84) (v := ?_) rfl rfl (by kernel_rfl) (by kernel_rfl) (by kernel_rfl) (fun _ _ _ h => h) (Or.inl ⟨by rfl, ?_⟩) (by assumption) ?_
        rotate_left 1
        . intro W hSw
          obtain ⟨s8, s0, s1, s2, s3, s4, s5⟩ := hSw
          go_simp
          with_reducible rfl
        simp only [Act.put, List.setIfInBounds_toArray, List.set_cons_zero, List.set_cons_succ]
        refine take_to (i := 4) (d := 85) (v := ?_) rfl rfl (by kernel_rfl) (by kernel_rfl) (by kernel_rfl) (fun _ _ _ h => h) (Or.inl ⟨by rfl, ?_⟩) (by assumption) ?_
        rotate_left 1
        . intro W hSw
          obtain ⟨s8, s0, s1, s2, s3, s4, s5⟩ := hSw
          go_simp
          with_reducible rfl
        simp only [Act.put, List.setIfInBounds_toArray, List.set_cons_zero, List.set_cons_succ]
        refine take_to (i := 5) (d := 86) (v := ?_) rfl rfl (by kernel_rfl) (by kernel_rfl) (by kernel_rfl) (fun _ _ _ h => h) (Or.inl ⟨by rfl, ?_⟩) (by assumption) ?_
        rotate_left 1
        . intro W hSw
          obtain ⟨s8, s0, s1, s2, s3, s4, s5⟩ := hSw
          go_simp
          with_reducible rfl
        simp only [Act.put, List.setIfInBounds_toArray, List.set_cons_zero, List.set_cons_succ]
        refine take_to (i := 6) (d := 87) (v := ?_) rfl rfl (by kernel_rfl) (by kernel_rfl) (by kernel_rfl) (fun _ _ _ h => h) (Or.inl ⟨by rfl, ?_⟩) (by assumption) ?_
        rotate_left 1
        . intro W hSw
          obtain ⟨s8, s0, s1, s2, s3, s4, s5⟩ := hSw
          go_simp
          with_reducible rfl
        simp only [Act.put, List.setIfInBounds_toArray, List.set_cons_zero, List.set_cons_succ]
        refine take_to (i := 9) (d := 90) (v := ?_) rfl rfl (by kernel_rfl) (by kernel_rfl) (by kernel_rfl) (fun _ _ _ h => h) (Or.inl ⟨by rfl, ?_⟩) (by assumption) ?_
        rotate_left 1
        . intro W hSw
          obtain ⟨s8, s0, s1, s2, s3, s4, s5⟩ := hSw
          go_simp
          with_reducible rfl
        simp only [Act.put, List.setIfInBounds_toArray, List.set_cons_zero, List.set_cons_succ]
        refine take_to (i := 10) (d := 91) (v := ?_) rfl rfl (by kernel_rfl) (by kernel_rfl) (by kernel_rfl) (fun _ _ _ h => h) (Or.inl ⟨by rfl, ?_⟩) (by assumption) ?_
        rotate_left 1
        . intro W hSw
          obtain ⟨s8, s0, s1, s2, s3, s4, s5⟩ := hSw
          go_simp
          with_reducible rfl
        simp only [Act.put, List.setIfInBounds_toArray, List.set_cons_zero, List.set_cons_succ]
        refine wpAnyH_ready (rs := [7]) (by kernel_rfl) (by simp) ?_
        refine AllReadyH.cons (o := { dst := some 88, op := Op.call { callee := Callee.value (Operand.func 115), args := #[Operand.tmp 86, Operand.tmp 87], argTypes := #[184, 3] }, type := 3, pos := "action.go:153", after := #[{ on := 5, ground := Ground.data }, { on := 6, ground := Ground.data }], guard := none }) rfl (fun K hK => ?_) AllReadyH.nil
        go_simp
        go_at_call 115
        refine (cAt ⟨fa, sa, false⟩ i (by simp only; omega) (by omega) _).mono ?_
        rintro e w7 ⟨rfl, rfl⟩
        go_wp2_with fail
        refine hK.out _ _ (SM.alloc (by assumption) _) (fun hHeld => ?_)
        clear hK K
        refine wpAnyH_ready (rs := [8, 11]) (by kernel_rfl) (by simp) ?_
        refine AllReadyH.cons (o := { dst := some 89, op := Op.buildSlice 32 1 #[(0, Operand.tmp 88)], type := 32, pos := "action.go:153", after := #[{ on := 7, ground := Ground.data }], guard := none }) rfl (fun K hK => ?_) ?_
        . go_simp
          refine hK.out _ _ (SM.alloc (by assumption) _) (fun hHeld => ?_)
          clear hK K
          try simp only [Act.put, List.setIfInBounds_toArray, List.set_cons_zero, List.set_cons_succ]
          refine wpAnyH_ready (rs := [11]) (by kernel_rfl) (by simp) ?_
          refine AllReadyH.cons (o := { dst := some 92, op := Op.call { callee := Callee.value (Operand.func 115), args := #[Operand.tmp 90, Operand.tmp 91], argTypes := #[184, 3] }, type := 3, pos := "action.go:153", after := #[{ on := 9, ground := Ground.data }, { on := 10, ground := Ground.data }, { on := 7, ground := Ground.chain }], guard := none }) rfl (fun K hK => ?_) AllReadyH.nil
          go_simp
          go_at_call 115
          refine (cAt ⟨fb, sa, false⟩ i (by simp only; omega) (by omega) _).mono ?_
          rintro e w7 ⟨rfl, rfl⟩
          go_wp2_with fail
          refine hK.out _ _ (SM.alloc (by assumption) _) (fun hHeld => ?_)
          clear hK K
          have hSV := hHeld
          have hbV : Below wr.heap.size wr (((wr.alloc (.cells #[.int .i64 (fa : Int), .int .i64 (sa : Int), .bool false] 184)).alloc (.cells #[.int .i64 ((atP i ⟨fa, sa, false⟩ : Nat) : Int)] 3)).alloc (.cells #[.int .i64 (fb : Int), .int .i64 (sa : Int), .bool false] 184)) := (((Below.refl _ _).alloc (Nat.le_refl _) _).alloc (by simp) _).alloc (by simp; omega) _
          obtain ⟨hKV, hRV, hOV⟩ := HV.out _ hbV
          have hIs : IsI (((wr.alloc (.cells #[.int .i64 (fa : Int), .int .i64 (sa : Int), .bool false] 184)).alloc (.cells #[.int .i64 ((atP i ⟨fa, sa, false⟩ : Nat) : Int)] 3)).alloc (.cells #[.int .i64 (fb : Int), .int .i64 (sa : Int), .bool false] 184)) (.slice (some ⟨wr.heap.size + 1, 0, none⟩) 1 1) [((atP i ⟨fa, sa, false⟩ : Nat) : Int)] := .inr ⟨wr.heap.size + 1, 0, 1, #[.int .i64 ((atP i ⟨fa, sa, false⟩ : Nat) : Int)], (0, 0), rfl, Nat.le_refl _, by rw [Below.heap_alloc _ _ _ (by simp)]; have := heap_alloc_new (wr.alloc (.cells #[.int .i64 (fa : Int), .int .i64 (sa : Int), .bool false] 184)) (.cells #[.int .i64 ((atP i ⟨fa, sa, false⟩ : Nat) : Int)] 3); simpa using this, isI1 _⟩
          have hsV := hbV.size
          have hzV : (((wr.alloc (.cells #[.int .i64 (fa : Int), .int .i64 (sa : Int), .bool false] 184)).alloc (.cells #[.int .i64 ((atP i ⟨fa, sa, false⟩ : Nat) : Int)] 3)).alloc (.cells #[.int .i64 (fb : Int), .int .i64 (sa : Int), .bool false] 184)).heap.size = wr.heap.size + 3 := by simp
          have hRf := hRV.free 8
          have hRl := hRV.lt
          generalize hVV : (((wr.alloc (.cells #[.int .i64 (fa : Int), .int .i64 (sa : Int), .bool false] 184)).alloc (.cells #[.int .i64 ((atP i ⟨fa, sa, false⟩ : Nat) : Int)] 3)).alloc (.cells #[.int .i64 (fb : Int), .int .i64 (sa : Int), .bool false] 184)) = V at *
          refine take_to (i := 12) (d := 93) (v := ?_) rfl rfl (by kernel_rfl) (by kernel_rfl) (by kernel_rfl) (fun _ _ _ h => h) (Or.inl ⟨by rfl, ?_⟩) (by assumption) ?_
          rotate_left 1
          . intro W hSw
            obtain ⟨s8, s0, s1, s2, s3, s4, s5⟩ := hSw
            go_simp
            with_reducible rfl
          simp only [Act.put, List.setIfInBounds_toArray, List.set_cons_zero, List.set_cons_succ]
          refine wpAnyH_ready (rs := [13]) (by kernel_rfl) (by simp) ?_
          refine AllReadyH.cons (o := { dst := some 94, op := Op.buildSlice 22 1 #[(0, Operand.tmp 93)], type := 22, pos := "action.go:153", after := #[{ on := 12, ground := Ground.data }], guard := none }) rfl (fun K hK => ?_) AllReadyH.nil
          go_simp
          refine hK.out _ _ (SM.alloc (by assumption) _) (fun hHeld => ?_)
          clear hK K
          try simp only [Act.put, List.setIfInBounds_toArray, List.set_cons_zero, List.set_cons_succ]
          refine wpAnyH_ready (rs := [14]) (by kernel_rfl) (by simp) ?_
          refine AllReadyH.cons (o := { dst := some 95, op := Op.call { callee := Callee.builtin Builtin.append, args := #[Operand.tmp 85, Operand.tmp 94], argTypes := #[22, 22] }, type := 22, pos := "action.go:153", after := #[{ on := 4, ground := Ground.data }, { on := 13, ground := Ground.data }, { on := 11, ground := Ground.chain }], guard := none }) rfl (fun K hK => ?_) AllReadyH.nil
          refine step_pushD rfl (.tmp 85) (.tmp 94) 22 rfl 34 Tryz.underlying22 _ 6 64 infoOp rfl (by decide) w0.heap.size ao' n' c' _ (by rfl) hOV.choose_spec.2.2.1 [.int .i64 2, .int .i64 0, .slice (some ⟨wr.heap.size + 1, 0, none⟩) 1 1, .int .i64 ((atP i ⟨fb, sa, false⟩ : Nat) : Int), .int .i64 (-1), .int .i64 0] _ rfl rfl (by simp [Value.oneCell']) (wr.heap.size + 1 + 1 + 1) hzV (by rfl) (by omega) (by omega) (by omega) ?_
          intro g7 cap w7 hown7 hg7 hat7
          refine hK.out _ _ (HSG.out V w7 hSV hg7) (fun hHeld => ?_)
          clear hK K
          simp only [Act.put, List.setIfInBounds_toArray, List.set_cons_zero, List.set_cons_succ]
          refine take_to (i := 15) (d := 96) (v := ?_) rfl rfl (by kernel_rfl) (by kernel_rfl) (by kernel_rfl) (fun _ _ _ h => h) (Or.inl ⟨by rfl, ?_⟩) (by assumption) ?_
          rotate_left 1
          . intro W hSw
            obtain ⟨s8, s0, s1, s2, s3, s4, s5⟩ := hSw
            go_simp
            with_reducible rfl
          simp only [Act.put, List.setIfInBounds_toArray, List.set_cons_zero, List.set_cons_succ]
          refine take_to (i := 16) (d := 97) (v := ?_) rfl rfl (by kernel_rfl) (by kernel_rfl) (by kernel_rfl) (fun _ _ _ h => h) (Or.inl ⟨by rfl, ?_⟩) (by assumption) ?_
          rotate_left 1
          . intro W hSw
            obtain ⟨s8, s0, s1, s2, s3, s4, s5⟩ := hSw
            go_simp
            with_reducible rfl
          simp only [Act.put, List.setIfInBounds_toArray, List.set_cons_zero, List.set_cons_succ]
          refine wpAnyH_done (by kernel_rfl) ?_ _
          refine ql_last (o := { dst := none, op := Op.store 22 (Operand.tmp 97) (Operand.tmp 95), type := 0, pos := "action.go:153", after := #[{ on := 16, ground := Ground.data }, { on := 14, ground := Ground.data }, { on := 14, ground := Ground.chain }, { on := 0, ground := Ground.phase }, { on := 1, ground := Ground.phase }, { on := 2, ground := Ground.phase }, { on := 3, ground := Ground.phase }, { on := 4, ground := Ground.phase }, { on := 5, ground := Ground.phase }, { on := 6, ground := Ground.phase }, { on := 7, ground := Ground.phase }, { on := 8, ground := Ground.phase }, { on := 9, ground := Ground.phase }, { on := 10, ground := Ground.phase }, { on := 11, ground := Ground.phase }, { on := 12, ground := Ground.phase }, { on := 13, ground := Ground.phase }, { on := 14, ground := Ground.phase }], guard := none }) rfl (fun K hK => ?_)
          have hf7 : w7.frozen? ⟨R, 8, none⟩ = false := (World.frozen?_of_block (w := V) (hg7.block R hRl HNR.out)).trans hRf
          have hl7 : R < w7.heap.size := by have := hg7.size; omega
          obtain ⟨s8, s0, s1, s2, s3, s4, s5⟩ := hHeld
          go_simp
          refine hK.out _ _ ?_
          clear hK K
          go_wp2_with fail
          go_roundw
          case rel => exact ⟨i + 1, _, _, _, by go_num, by omega, HREL.out V w7 _ g7 cap hKV hRV hOV hIs (by omega) hown7 hg7 hat7⟩
          case measure => simp [Go.RowKit.intOf]; omega
        refine AllReadyH.cons (o := { dst := some 92, op := Op.call { callee := Callee.value (Operand.func 115), args := #[Operand.tmp 90, Operand.tmp 91], argTypes := #[184, 3] }, type := 3, pos := "action.go:153", after := #[{ on := 9, ground := Ground.data }, { on := 10, ground := Ground.data }, { on := 7, ground := Ground.chain }], guard := none }) rfl (fun K hK => ?_) AllReadyH.nil
        . go_simp
          go_at_call 115
          refine (cAt ⟨fb, sa, false⟩ i (by simp only; omega) (by omega) _).mono ?_
          rintro e w7 ⟨rfl, rfl⟩
          go_wp2_with fail
          refine hK.out _ _ (SM.alloc (by assumption) _) (fun hHeld => ?_)
          clear hK K
          refine wpAnyH_ready (rs := [8]) (by kernel_rfl) (by simp) ?_
          refine AllReadyH.cons (o := { dst := some 89, op := Op.buildSlice 32 1 #[(0, Operand.tmp 88)], type := 32, pos := "action.go:153", after := #[{ on := 7, ground := Ground.data }], guard := none }) rfl (fun K hK => ?_) AllReadyH.nil
          go_simp
          refine hK.out _ _ (SM.alloc (by assumption) _) (fun hHeld => ?_)
          clear hK K
          try simp only [Act.put, List.setIfInBounds_toArray, List.set_cons_zero, List.set_cons_succ]
          have hSV := hHeld
          have hbV : Below wr.heap.size wr (((wr.alloc (.cells #[.int .i64 (fa : Int), .int .i64 (sa : Int), .bool false] 184)).alloc (.cells #[.int .i64 (fb : Int), .int .i64 (sa : Int), .bool false] 184)).alloc (.cells #[.int .i64 ((atP i ⟨fa, sa, false⟩ : Nat) : Int)] 3)) := (((Below.refl _ _).alloc (Nat.le_refl _) _).alloc (by simp) _).alloc (by simp; omega) _
          obtain ⟨hKV, hRV, hOV⟩ := HV.out _ hbV
          have hIs : IsI (((wr.alloc (.cells #[.int .i64 (fa : Int), .int .i64 (sa : Int), .bool false] 184)).alloc (.cells #[.int .i64 (fb : Int), .int .i64 (sa : Int), .bool false] 184)).alloc (.cells #[.int .i64 ((atP i ⟨fa, sa, false⟩ : Nat) : Int)] 3)) (.slice (some ⟨wr.heap.size + 2, 0, none⟩) 1 1) [((atP i ⟨fa, sa, false⟩ : Nat) : Int)] := .inr ⟨wr.heap.size + 2, 0, 1, #[.int .i64 ((atP i ⟨fa, sa, false⟩ : Nat) : Int)], (0, 0), rfl, Nat.le_refl _, by have := heap_alloc_new ((wr.alloc (.cells #[.int .i64 (fa : Int), .int .i64 (sa : Int), .bool false] 184)).alloc (.cells #[.int .i64 (fb : Int), .int .i64 (sa : Int), .bool false] 184)) (.cells #[.int .i64 ((atP i ⟨fa, sa, false⟩ : Nat) : Int)] 3); simpa using this, isI1 _⟩
          have hsV := hbV.size
          have hzV : (((wr.alloc (.cells #[.int .i64 (fa : Int), .int .i64 (sa : Int), .bool false] 184)).alloc (.cells #[.int .i64 (fb : Int), .int .i64 (sa : Int), .bool false] 184)).alloc (.cells #[.int .i64 ((atP i ⟨fa, sa, false⟩ : Nat) : Int)] 3)).heap.size = wr.heap.size + 3 := by simp
          have hRf := hRV.free 8
          have hRl := hRV.lt
          generalize hVV : (((wr.alloc (.cells #[.int .i64 (fa : Int), .int .i64 (sa : Int), .bool false] 184)).alloc (.cells #[.int .i64 (fb : Int), .int .i64 (sa : Int), .bool false] 184)).alloc (.cells #[.int .i64 ((atP i ⟨fa, sa, false⟩ : Nat) : Int)] 3)) = V at *
          refine take_to (i := 12) (d := 93) (v := ?_) rfl rfl (by kernel_rfl) (by kernel_rfl) (by kernel_rfl) (fun _ _ _ h => h) (Or.inl ⟨by rfl, ?_⟩) (by assumption) ?_
          rotate_left 1
          . intro W hSw
            obtain ⟨s8, s0, s1, s2, s3, s4, s5⟩ := hSw
            go_simp
            with_reducible rfl
          simp only [Act.put, List.setIfInBounds_toArray, List.set_cons_zero, List.set_cons_succ]
          refine wpAnyH_ready (rs := [13]) (by kernel_rfl) (by simp) ?_
          refine AllReadyH.cons (o := { dst := some 94, op := Op.buildSlice 22 1 #[(0, Operand.tmp 93)], type := 22, pos := "action.go:153", after := #[{ on := 12, ground := Ground.data }], guard := none }) rfl (fun K hK => ?_) AllReadyH.nil
          go_simp
          refine hK.out _ _ (SM.alloc (by assumption) _) (fun hHeld => ?_)
          clear hK K
          try simp only [Act.put, List.setIfInBounds_toArray, List.set_cons_zero, List.set_cons_succ]
          refine wpAnyH_ready (rs := [14]) (by kernel_rfl) (by simp) ?_
          refine AllReadyH.cons (o := { dst := some 95, op := Op.call { callee := Callee.builtin Builtin.append, args := #[Operand.tmp 85, Operand.tmp 94], argTypes := #[22, 22] }, type := 22, pos := "action.go:153", after := #[{ on := 4, ground := Ground.data }, { on := 13, ground := Ground.data }, { on := 11, ground := Ground.chain }], guard := none }) rfl (fun K hK => ?_) AllReadyH.nil
          refine step_pushD rfl (.tmp 85) (.tmp 94) 22 rfl 34 Tryz.underlying22 _ 6 64 infoOp rfl (by decide) w0.heap.size ao' n' c' _ (by rfl) hOV.choose_spec.2.2.1 [.int .i64 2, .int .i64 0, .slice (some ⟨wr.heap.size + 2, 0, none⟩) 1 1, .int .i64 ((atP i ⟨fb, sa, false⟩ : Nat) : Int), .int .i64 (-1), .int .i64 0] _ rfl rfl (by simp [Value.oneCell']) (wr.heap.size + 1 + 1 + 1) hzV (by rfl) (by omega) (by omega) (by omega) ?_
          intro g7 cap w7 hown7 hg7 hat7
          refine hK.out _ _ (HSG.out V w7 hSV hg7) (fun hHeld => ?_)
          clear hK K
          simp only [Act.put, List.setIfInBounds_toArray, List.set_cons_zero, List.set_cons_succ]
          refine take_to (i := 15) (d := 96) (v := ?_) rfl rfl (by kernel_rfl) (by kernel_rfl) (by kernel_rfl) (fun _ _ _ h => h) (Or.inl ⟨by rfl, ?_⟩) (by assumption) ?_
          rotate_left 1
          . intro W hSw
            obtain ⟨s8, s0, s1, s2, s3, s4, s5⟩ := hSw
            go_simp
            with_reducible rfl
          simp only [Act.put, List.setIfInBounds_toArray, List.set_cons_zero, List.set_cons_succ]
          refine take_to (i := 16) (d := 97) (v := ?_) rfl rfl (by kernel_rfl) (by kernel_rfl) (by kernel_rfl) (fun _ _ _ h => h) (Or.inl ⟨by rfl, ?_⟩) (by assumption) ?_
          rotate_left 1
          . intro W hSw
            obtain ⟨s8, s0, s1, s2, s3, s4, s5⟩ := hSw
            go_simp
            with_reducible rfl
          simp only [Act.put, List.setIfInBounds_toArray, List.set_cons_zero, List.set_cons_succ]
          refine wpAnyH_done (by kernel_rfl) ?_ _
          refine ql_last (o := { dst := none, op := Op.store 22 (Operand.tmp 97) (Operand.tmp 95), type := 0, pos := "action.go:153", after := #[{ on := 16, ground := Ground.data }, { on := 14, ground := Ground.data }, { on := 14, ground := Ground.chain }, { on := 0, ground := Ground.phase }, { on := 1, ground := Ground.phase }, { on := 2, ground := Ground.phase }, { on := 3, ground := Ground.phase }, { on := 4, ground := Ground.phase }, { on := 5, ground := Ground.phase }, { on := 6, ground := Ground.phase }, { on := 7, ground := Ground.phase }, { on := 8, ground := Ground.phase }, { on := 9, ground := Ground.phase }, { on := 10, ground := Ground.phase }, { on := 11, ground := Ground.phase }, { on := 12, ground := Ground.phase }, { on := 13, ground := Ground.phase }, { on := 14, ground := Ground.phase }], guard := none }) rfl (fun K hK => ?_)
          have hf7 : w7.frozen? ⟨R, 8, none⟩ = false := (World.frozen?_of_block (w := V) (hg7.block R hRl HNR.out)).trans hRf
          have hl7 : R < w7.heap.size := by have := hg7.size; omega
          obtain ⟨s8, s0, s1, s2, s3, s4, s5⟩ := hHeld
          go_simp
          refine hK.out _ _ ?_
          clear hK K
          go_wp2_with fail
          go_roundw
          case rel => exact ⟨i + 1, _, _, _, by go_num, by omega, HREL.out V w7 _ g7 cap hKV hRV hOV hIs (by omega) hown7 hg7 hat7⟩
          case measure => simp [Go.RowKit.intOf]; omega
      . obtain rfl : sa = i := by omega
        go_wp2_with fail
        go_ret
        refine ⟨rfl, ao', n', c', hRi, hOi, ?_, (HKw.out.mono (by simp)).trans hKi, fun b hb => ?_⟩
        . rw [List.length_append, List.length_map, List.length_range]
          have := H6.out
          omega
        . rcases hbi b hb with e | e
          . exact .inl e
          . exact .inr (by omega)
theorem cMeasure (w0 : World) (R : Nat) (L : Ly) (B N : Nat) (d : Dc) (ao : Option Addr) (no co : Nat) (ops : List COp) (t : T) (ts : List T) (w : World) (hD : Rdr w0 w R L B N d) (hR : Rt w R (xOf L d) (.slice ao no co) ts) (hO : OpsAt w w0.heap.size ao no co ops) (hno : ops.length <= 4096) :
    Calls Tryz.prog 92 #[.pointer (some ⟨R, 0, none⟩), tkV t] w (PC R L d w0.heap.size ao w (pMeasure d ops t ts)) := by
  cases hP : pMeasure d ops t ts with
  | no c t' => exact cMeasure_no w0 R L B N d ao no co ops t ts w hD hR hO hno c t' hP
  | ok o' ts' => exact cMeasure_ok w0 R L B N d ao no co ops t ts w hD hR hO hno o' ts' hP
end Go.Proofs.YtnghfdnlcnocjaaGreatDoor.Cir
