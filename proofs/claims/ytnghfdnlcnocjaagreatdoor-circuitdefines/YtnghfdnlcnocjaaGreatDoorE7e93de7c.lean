import Derived.Test.YtnghfdnlcnocjaaGreatDoorE38a1dc12
import Derived.Test.YtnghfdnlcnocjaaGreatDoorE87298a66
import Derived.Test.YtnghfdnlcnocjaaGreatDoorE869beec2
namespace Go.Proofs.YtnghfdnlcnocjaaGreatDoor.Cir
open Go.RowKit Go.Shelf Go.Proofs.YtnghfdnlcnocjaaGreatDoor.Oct Go.Proofs.YtnghfdnlcnocjaaGreatDoor.Tok Go.Proofs.YtnghfdnlcnocjaaGreatDoor.Gt
theorem pRow_all {α : Type} {one : List α -> List T -> Res α} {P : α -> Prop} (h : ∀ acc ts a ts', one acc ts = .ok a ts' -> P a) : ∀ {f : Nat} {acc : List α} {ts : List T} {l : List α} {ts' : List T}, (∀ a ∈ acc, P a) -> pRow one f acc ts = .ok l ts' -> ∀ a ∈ l, P a
  | 0, _, _, _, _, _, e => by cases e
  | f + 1, acc, ts, l, ts', ha, e => by
    rw [pRow] at e
    cases h1 : one acc ts with
    | no c t => rw [h1] at e; cases e
    | ok a ts1 =>
      rw [h1] at e
      simp only at e
      have hb : ∀ b ∈ acc ++ [a], P b := by
        intro b hb
        rcases List.mem_append.1 hb with e | e
        . exact ha b e
        . rw [List.mem_singleton] at e; rw [e]; exact h _ _ _ _ h1
      split at e
      . exact pRow_all h hb e
      . simp only [Res.ok.injEq] at e
        rw [← e.1]
        exact hb
theorem pIdx_ok {r : Rg} {ts : List T} {n : Nat} {ts' : List T} (h : pIdx r ts = .ok n ts') : n < r.fr + r.sz := by
  unfold pIdx at h
  split at h
  . cases h
  . split at h
    . cases h
    . rename_i hn
      split at h
      . cases h
      . simp only [Res.ok.injEq] at h
        unfold pNum at hn
        split at hn
        . cases hn
        . split at hn
          . cases hn
          . simp only [Res.ok.injEq] at hn
            omega
theorem pArg_bd {b : Bk} {ts : List T} {a : Ag} {ts' : List T} (hb : ∀ x r, b.find x = some r -> 1 <= r.sz /\ r.fr + r.sz <= b.size) (h64 : b.size <= 64) (h : pArg b ts = .ok a ts') : a.fr + a.sz <= 64 /\ 1 <= a.sz := by
  unfold pArg at h
  cases h1 : pReg b ts with
  | no c t => rw [h1] at h; cases h
  | ok r ts1 =>
    rw [h1] at h
    simp only at h
    have hr : 1 <= r.sz /\ r.fr + r.sz <= b.size := by
      unfold pReg at h1
      split at h1
      . cases h1
      . split at h1
        . cases h1
        . simp only [Res.ok.injEq] at h1
          rename_i hf
          rw [← h1.1]
          exact hb _ _ hf
    split at h
    . cases h2 : pIdx r ts1 with
      | no c t => rw [h2] at h; cases h
      | ok i ts2 =>
        rw [h2] at h
        simp only [Res.ok.injEq] at h
        have := pIdx_ok h2
        rw [← h.1]
        exact ⟨show i + 1 <= 64 by omega, Nat.le_refl _⟩
    . simp only [Res.ok.injEq] at h
      rw [← h.1]
      exact ⟨show r.fr + r.sz <= 64 by omega, hr.1⟩
theorem pArgs_bd {d : Dc} {ts : List T} {l : List Ag} {ts' : List T} (hd : DcOk d) (h : pArgs d ts = .ok l ts') : ∀ a ∈ l, a.fr + a.sz <= 64 /\ 1 <= a.sz := by
  unfold pArgs at h
  split at h
  . cases h
  . rename_i hp
    split at h
    . cases h
    . simp only [Res.ok.injEq] at h
      rw [← h.1]
      exact pRow_all (fun _ _ _ _ e => pArg_bd hd.rq hd.q e) (by simp) hp
theorem pCallee_ok {d : Dc} {t : T} {ts : List T} {g : Df} {ts1 : List T} (h : pCallee d t ts = .ok g ts1) : ts1 = ts := by
  unfold pCallee at h
  split at h
  . split at h
    . cases h
    . simp only [Res.ok.injEq] at h; exact h.2.symm
  . cases h
theorem PCa.ok' {B : Nat} {w : World} {g : Df} {ts : List T} {e : Ending} {w' : World} (h : PCa B w (.ok g ts) e w') : Below w.heap.size w w' /\ ∃ (dd : Nat) (ao : Option Addr) (k m : Nat), e = .returned (.tuple #[.agg #[.int .i64 (g.names : Int), .int .i64 (g.ops.length : Int), .slice ao k m], .nilIface]) /\ SpAt dd w' w'.heap.size w'.heap.size g.names (.slice ao k m) k g.ops /\ g.names <= 4398046511104 /\ g.ops.length <= 4096 := by
  obtain ⟨hb, a, b, ao, k, m, rfl, ⟨dd, ao', k', c', he, h1, h2, h3⟩, -⟩ := h
  refine ⟨hb, dd, ao', k', c', ?_, h1, h2, h3⟩
  rw [he]
  rfl
theorem OpsAt.turn {w w' : World} {B R : Nat} {x : X} {o : Value} {ts : List T} {ao : Option Addr} {n c : Nat} {ops : List COp} (h : OpsAt w B ao n c ops) (hR : Rt w R x o ts) (hk : Kb [R] w w') : OpsAt w' B ao n c ops := by
  obtain ⟨⟨v, hb, _⟩, _⟩ := hR
  unfold rbO at hb
  obtain ⟨xs, h1, h2, h3, h4⟩ := h
  refine ⟨xs, h1, h2, own_of_block h3 (fun k hk' => hk.block k (own_lt h3 k hk').2 (fun e => ?_)), fun x hx => (h4 x hx).block fun g _ _ hg => hk.block g (Array.getElem?_eq_some_iff.1 hg).1 (fun e => ?_)⟩
  . rw [List.mem_singleton] at e
    subst e
    exact own_ne h3 hb (by decide) hk'
  . rw [List.mem_singleton] at e
    subst e
    rw [hb] at hg
    simp at hg
def PC (R : Nat) (L : Ly) (d : Dc) (B0 : Nat) (ao : Option Addr) (w : World) (P : Res (List COp)) (e : Ending) (w' : World) : Prop := match P with
  | .ok ops ts' => e = .returned .nilIface /\ ∃ ao' n' c', Rt w' R (xOf L d) (.slice ao' n' c') ts' /\ OpsAt w' B0 ao' n' c' ops /\ ops.length <= 4096 /\ Kb (R :: (ob ao).toList) w w' /\ ∀ b, ob ao' = some b -> ob ao = some b ∨ w.heap.size <= b
  | .no c t => e = .returned (erV c t) /\ Kb (R :: (ob ao).toList) w w'
def StOk (dd : Nat) (w : World) (B n : Nat) (s : Sx) : Prop := ∃ ns, Is w s.nm ns /\ (∀ i ∈ ns, i < n) /\ ns.length <= 4398046511104 /\ (((∃ ao c, s.inner = .slice ao 0 c) /\ s.ops = [⟨s.kind, s.gate, ns⟩]) ∨ ∃ k' l', 0 < k' /\ SpAt dd w B B ns.length s.inner k' l' /\ s.ops = l'.map (onP ns))
theorem StOk.block {dd : Nat} {w w' : World} {B n : Nat} {s : Sx} (h : StOk dd w B n s) (h1 : ∀ (g : Nat) (cs : Array Value) (fr : Nat × Nat), w.heap[g]? = some (Obj.cells cs 3 fr) -> w'.heap[g]? = w.heap[g]?) (h2 : ∀ (g : Nat), g < B -> ∀ (cs : Array Value) (fr : Nat × Nat), w.heap[g]? = some (Obj.cells cs 222 fr) -> w'.heap[g]? = w.heap[g]?) : StOk dd w' B n s := by
  obtain ⟨ns, a1, a2, a3, a4⟩ := h
  refine ⟨ns, a1.block h1, a2, a3, ?_⟩
  rcases a4 with a4 | ⟨k', l', b1, b2, b3⟩
  . exact .inl a4
  . exact .inr ⟨k', l', b1, SpAt.block (fun g _ cs fr hg => h1 g cs fr hg) h2 _ _ _ _ _ b2, b3⟩
theorem StOk.up {dd e : Nat} {w : World} {B n : Nat} {s : Sx} (h : StOk dd w B n s) (he : dd <= e) : StOk e w B n s := by
  obtain ⟨ns, a1, a2, a3, a4⟩ := h
  refine ⟨ns, a1, a2, a3, ?_⟩
  rcases a4 with a4 | ⟨k', l', b1, b2, b3⟩
  . exact .inl a4
  . exact .inr ⟨k', l', b1, b2.max he, b3⟩
def DfAt (w : World) (D B B1 n : Nat) (ao : Option Addr) (body : List PO) : Prop := ∃ (dd k c : Nat) (ss : List Sx), w.heap[D]? = some (.cells #[iv n, iv body.length, .slice ao k c] 174 (0, 0)) /\ k = ss.length /\ body = ss.flatMap Sx.ops /\ w.ownsRow B1 222 4 (.slice ao k c) k (ss.flatMap Sx.cells) /\ ∀ s ∈ ss, StOk dd w B n s
theorem DfAt.kept {w w' : World} {D B B1 n : Nat} {ao : Option Addr} {body : List PO} {M : List Nat} (h : DfAt w D B B1 n ao body) (hk : Kb M w w') (hM : ∀ m, m ∈ M -> ∀ cs t fr, w.heap[m]? = some (.cells cs t fr) -> t ≠ 3 /\ t ≠ 222 /\ t ≠ 174) : DfAt w' D B B1 n ao body := by
  obtain ⟨dd, k, c, ss, h1, h2, h3, h4, h5⟩ := h
  have key : ∀ (g : Nat) (cs : Array Value) (t : TypeId) (fr : Nat × Nat), w.heap[g]? = some (Obj.cells cs t fr) -> (t = 3 ∨ t = 222 ∨ t = 174) -> w'.heap[g]? = w.heap[g]? := fun g cs t fr hg ht => hk.block g (Array.getElem?_eq_some_iff.1 hg).1 (fun e => by
    obtain ⟨a, b, c⟩ := hM g e _ _ _ hg
    rcases ht with h | h | h
    . exact a h
    . exact b h
    . exact c h)
  refine ⟨dd, k, c, ss, (key _ _ _ _ h1 (.inr (.inr rfl))).trans h1, h2, h3, own_of_block h4 (fun b hb => ?_), fun s hs => (h5 s hs).block (fun g cs fr hg => key _ _ _ _ hg (.inl rfl)) (fun g _ cs fr hg => key _ _ _ _ hg (.inr (.inl rfl)))⟩
  obtain ⟨cs, fr, hg⟩ := own_cells' h4 hb
  exact key _ _ _ _ hg (.inr (.inl rfl))
theorem DfAt.below {w w' : World} {D B B1 n : Nat} {ao : Option Addr} {body : List PO} (h : DfAt w D B B1 n ao body) (hb : Below w.heap.size w w') : DfAt w' D B B1 n ao body :=
  h.kept (M := []) (Kb.of_below hb) (fun m hm => by cases hm)
theorem DfAt.turn {w w' : World} {D B B1 n : Nat} {ao : Option Addr} {body : List PO} {R : Nat} {x : X} {o : Value} {ts : List T} (h : DfAt w D B B1 n ao body) (hR : Rt w R x o ts) (hk : Kb [R] w w') : DfAt w' D B B1 n ao body := by
  obtain ⟨⟨v, hb, _⟩, _⟩ := hR
  unfold rbO at hb
  refine h.kept hk fun m hm cs t fr hg => ?_
  rw [List.mem_singleton] at hm
  subst hm
  rw [hb] at hg
  simp only [Option.some.injEq, Obj.cells.injEq] at hg
  rw [← hg.2.1]
  exact ⟨by decide, by decide, by decide⟩
theorem DfAt.cells {w : World} {D B B1 n : Nat} {ao : Option Addr} {body : List PO} (h : DfAt w D B B1 n ao body) : w.cell? ⟨D, 0, none⟩ = some (iv n) /\ w.cell? ⟨D, 1, none⟩ = some (iv body.length) /\ D < w.heap.size := by
  obtain ⟨dd, k, c, ss, h1, _⟩ := h
  exact ⟨cell_of_row _ _ 0 _ _ _ h1, cell_of_row _ _ 1 _ _ _ h1, (Array.getElem?_eq_some_iff.1 h1).1⟩
theorem DfAt.defv {w : World} {D B B1 n : Nat} {ao : Option Addr} {body : List PO} (h : DfAt w D B B1 n ao body) (hB : B <= w.heap.size) (hn : n <= 4398046511104) (hl : body.length <= 4096) : ∃ k c, w.heap[D]? = some (.cells #[iv n, iv body.length, .slice ao k c] 174 (0, 0)) /\ DefV w w.heap.size ⟨n, body⟩ (.agg #[iv n, iv body.length, .slice ao k c]) := by
  obtain ⟨dd, k, c, ss, h1, h2, h3, h4, h5⟩ := h
  refine ⟨k, c, h1, dd + 1, ao, k, c, rfl, ⟨ao, c, ss, by rw [h2], h2, h3, fun s hs => ?_, ?_⟩, hn, hl⟩
  . obtain ⟨ns, a1, a2, a3, a4⟩ := h5 s hs
    refine ⟨ns, a1.b, a2, a3, ?_⟩
    rcases a4 with a4 | ⟨k', l', b1, b2, b3⟩
    . exact .inl a4
    . exact .inr ⟨k', l', b1, SpAt.mono hB hB _ _ _ _ _ b2, b3⟩
  . rcases h4.2 with ⟨hv, h0⟩ | ⟨g, cap, cur, hv, hbg, hg, e1, e2, e3, e4⟩
    . exact .inl (List.length_eq_zero_iff.1 (by rw [← h2]; exact h0))
    . simp only [Value.slice.injEq] at hv
      refine .inr ⟨g, 0, cur, _, hv.1, (Array.getElem?_eq_some_iff.1 hg).1, hg, fun j u hu => ?_⟩
      have hlt := (List.getElem?_eq_some_iff.1 hu).1
      rw [← e4, List.getElem?_take] at hu
      split at hu
      . rw [Nat.zero_add]
        simpa using hu
      . cases hu
theorem onP_onP (qs ns : List Nat) (l : List PO) (h : ∀ o ∈ l, ∀ i ∈ o.ns, i < ns.length) : (l.map (onP ns)).map (onP qs) = l.map (onP (pk qs ns)) := by
  rw [List.map_map]
  refine List.map_congr_left fun o ho => ?_
  show onP qs (onP ns o) = onP (pk qs ns) o
  unfold onP
  simp only
  rw [pk_pk qs ns o.ns (h o ho)]
section
variable {P : Program}
theorem step_push {ops : Array Oper} {o : Oper} {a : Act} {K : Act -> World -> Prop} {Q : Exit -> Act -> World -> Prop} {E : Prop} {w : World} (hgd : o.guard = none) (s x : Operand) (t : TypeId)
    (ho : o.op = .call { callee := .builtin .append, args := #[s, x], argTypes := #[t, t] })
    (e : TypeId) (ht : P.underlying t = some (.slice e)) (z0 : Value) (size by' : Nat) (hinfo : (P.info? e).map (fun i => (i.zero, i.size, i.bytes)) = some (some z0, size, by')) (hz0' : z0.cells.size = size) (hs0 : 0 < size)
    (B : Nat) (ao : Option Addr) (n c : Nat) (xs : List Value) (hs : a.eval s = .slice ao n c) (hown : w.ownsRow B e size (.slice ao n c) n xs)
    (news : List Value) (cells : Array Value) (hz : cells = news.toArray) (hl : news.length = size) (hv : ∀ u ∈ news, u.oneCell' = true) (H : Nat) (hH : w.heap.size = H) (hx : a.eval x = .slice (some ⟨H, 0, none⟩) 1 1) (hlen : (n + 1) * by' <= 140737488355328) (hn : n + 1 <= 140737488355328) (hbase : B <= w.heap.size)
    (h : ∀ g cap w', w'.ownsRow B e size (.slice (some ⟨g, 0, none⟩) (n + 1) cap) (n + 1) (xs ++ news) -> w.grownBy w' (ob ao) -> (ob ao = some g ∨ w.heap.size <= g) -> K (a.put o.dst (.slice (some ⟨g, 0, none⟩) (n + 1) cap)) w') :
    if Region.wanted o (yielded ops a.tmps) = true then Oper.wp P o a (w.alloc (.cells cells e)) K Q else E := by
  obtain ⟨i, hi, hz0, hz1, hz2⟩ := info_parts hinfo
  subst hz
  subst hH
  refine step_append_lies _ hgd s x t ho B e i z0 size by' ht hi hz0 hz1 hz2 hz0' hs0 _ n xs hs (hown.alloc _) ⟨w.heap.size, 0, none⟩ 1 1 news hx (by omega) (fun j u hu => by rw [Addr.add_lit, Nat.zero_add, cell_of_row _ _ _ _ _ _ (heap_alloc_new w _)]; simpa using hu) hv (by decide) (by unfold maxLen; omega) hlen (by simp; omega) _ rfl ?_
  intro g cap w' ho' hg hat hlt
  rw [ob_eq] at hg hat
  refine h g cap w' ho' ((grown_alloc w _ _).trans hg) ?_
  rcases hat with e | e
  . exact .inl e
  . right; simp at e; omega
theorem step_pushD {ops : Array Oper} {o : Oper} {a : Act} {K : Act -> World -> Prop} {Q : Exit -> Act -> World -> Prop} {E : Prop} {w : World} (hgd : o.guard = none) (s x : Operand) (t : TypeId)
    (ho : o.op = .call { callee := .builtin .append, args := #[s, x], argTypes := #[t, t] })
    (e : TypeId) (ht : P.underlying t = some (.slice e)) (z0 : Value) (size by' : Nat) (hinfo : (P.info? e).map (fun i => (i.zero, i.size, i.bytes)) = some (some z0, size, by')) (hz0' : z0.cells.size = size) (hs0 : 0 < size)
    (B : Nat) (ao : Option Addr) (n c : Nat) (xs : List Value) (hs : a.eval s = .slice ao n c) (hown : w.ownsRow B e size (.slice ao n c) n xs)
    (news : List Value) (cells : Array Value) (hz : cells = news.toArray) (hl : news.length = size) (hv : ∀ u ∈ news, u.oneCell' = true) (H : Nat) (hH : w.heap.size = H) (hx : a.eval x = .slice (some ⟨H, 0, none⟩) 1 1) (hlen : (n + 1) * by' <= 140737488355328) (hn : n + 1 <= 140737488355328) (hbase : B <= w.heap.size)
    (h : ∀ g cap w', w'.ownsRow B e size (.slice (some ⟨g, 0, none⟩) (n + 1) cap) (n + 1) (xs ++ news) -> w.grownBy w' (ob ao) -> (ob ao = some g ∨ w.heap.size <= g) -> K (a.put o.dst (.slice (some ⟨g, 0, none⟩) (n + 1) cap)) w') :
    if Region.wanted o (yielded ops a.tmps) = true then Oper.wp P o a (w.alloc (.cells cells e)).drew K Q else E :=
  step_push (w := w.drew) hgd s x t ho e ht z0 size by' hinfo hz0' hs0 B ao n c xs hs hown news cells hz hl hv H hH hx hlen hn hbase (fun g cap w' h1 h2 h3 => h g cap w' h1 ⟨h2.os, h2.tape, h2.output, h2.size, h2.block⟩ h3)
end
theorem own_set {w : World} {B e size n g c : Nat} {xs : List Value} (h : w.ownsRow B e size (.slice (some ⟨g, 0, none⟩) n c) n xs) (i : Nat) (v : Value) : (w.setCell ⟨g, i, none⟩ v).ownsRow B e size (.slice (some ⟨g, 0, none⟩) n c) n (xs.set i v) := by
  refine ⟨by rw [List.length_set]; exact h.1, ?_⟩
  rcases h.2 with ⟨hv, _⟩ | ⟨g', cap, cur, hv, hbg, hg, h1, h2, h3, h4⟩
  . cases hv
  . simp only [Value.slice.injEq, Option.some.injEq, Addr.mk.injEq] at hv
    obtain ⟨⟨rfl, -⟩, -, rfl⟩ := hv
    refine .inr ⟨g, c, cur.setIfInBounds i v, rfl, hbg, ?_, h1, h2, by simpa using h3, ?_⟩
    . rw [setCell_eq_setRow _ _ i _ _ _ _ hg]
      exact setRow_heap _ _ _ _ _ _ hg
    . rw [Array.toList_setIfInBounds, List.take_set, h4]
theorem own_at {w : World} {B e size n g c : Nat} {xs : List Value} (h : w.ownsRow B e size (.slice (some ⟨g, 0, none⟩) n c) n xs) (i : Nat) (v : Value) (hi : xs[i]? = some v) : w.cell? ⟨g, i, none⟩ = some v := by
  rcases h.2 with ⟨hv, _⟩ | ⟨g', cap, cur, hv, hbg, hg, h1, h2, h3, h4⟩
  . cases hv
  . simp only [Value.slice.injEq, Option.some.injEq, Addr.mk.injEq] at hv
    obtain ⟨⟨rfl, -⟩, -, rfl⟩ := hv
    rw [← h4, List.getElem?_take] at hi
    split at hi
    . exact (cell_of_row _ _ _ _ _ _ hg).trans (by simpa using hi)
    . cases hi
theorem own_free {w : World} {B e size n g c : Nat} {xs : List Value} (h : w.ownsRow B e size (.slice (some ⟨g, 0, none⟩) n c) n xs) (i : Nat) : w.frozen? ⟨g, i, none⟩ = false := by
  rcases h.2 with ⟨hv, _⟩ | ⟨g', cap, cur, hv, hbg, hg, _⟩
  . cases hv
  . simp only [Value.slice.injEq, Option.some.injEq, Addr.mk.injEq] at hv
    obtain ⟨⟨rfl, -⟩, -, rfl⟩ := hv
    simp [World.frozen?, hg]
def set4 (w : World) (g i : Nat) (a b c d : Value) : World := (((w.setCell ⟨g, i, none⟩ a).setCell ⟨g, i + 1, none⟩ b).setCell ⟨g, i + 2, none⟩ c).setCell ⟨g, i + 3, none⟩ d
theorem set4_own {w : World} {B e k g c : Nat} {xs : List Value} {z0 z1 z2 z3 : Value} (h : w.ownsRow B e 4 (.slice (some ⟨g, 0, none⟩) (k + 1) c) (k + 1) (xs ++ [z0, z1, z2, z3])) (hx : xs.length = k * 4) (a b d f : Value) :
    (set4 w g (k * 4) a b d f).ownsRow B e 4 (.slice (some ⟨g, 0, none⟩) (k + 1) c) (k + 1) (xs ++ [a, b, d, f]) := by
  have h0 := own_set (own_set (own_set (own_set h (k * 4) a) (k * 4 + 1) b) (k * 4 + 2) d) (k * 4 + 3) f
  have e : ((((xs ++ [z0, z1, z2, z3]).set (k * 4) a).set (k * 4 + 1) b).set (k * 4 + 2) d).set (k * 4 + 3) f = xs ++ [a, b, d, f] := by
    rw [← hx]
    simp
  rw [e] at h0
  exact h0
theorem set4_other (w : World) (g i : Nat) (a b c d : Value) (k : Nat) (h : k ≠ g) : (set4 w g i a b c d).heap[k]? = w.heap[k]? := by
  unfold set4
  rw [Below.heap_setCell _ _ _ _ h, Below.heap_setCell _ _ _ _ h, Below.heap_setCell _ _ _ _ h, Below.heap_setCell _ _ _ _ h]
theorem Kb.set4 {M : List Nat} {a w : World} (h : Kb M a w) {g : Nat} (hg : g ∈ M ∨ a.heap.size <= g) (i : Nat) (u v x y : Value) : Kb M a (set4 w g i u v x y) :=
  (((h.setCell (p := ⟨g, i, none⟩) hg _).setCell (p := ⟨g, i + 1, none⟩) hg _).setCell (p := ⟨g, i + 2, none⟩) hg _).setCell (p := ⟨g, i + 3, none⟩) hg _
theorem put_fin {V w6 : World} {D B B1 n g6 k c cap : Nat} {ao : Option Addr} {x0 x1 : Value} {ss : List Sx} {z0 z1 z2 z3 : Value} (s : Sx) (dd : Nat)
    (hD : V.heap[D]? = some (.cells #[x0, x1, .slice ao k c] 174 (0, 0))) (hk : k = ss.length)
    (hown : V.ownsRow B1 222 4 (.slice ao k c) k (ss.flatMap Sx.cells)) (h6 : w6.ownsRow B1 222 4 (.slice (some ⟨g6, 0, none⟩) (k + 1) cap) (k + 1) (ss.flatMap Sx.cells ++ [z0, z1, z2, z3])) (hg : V.grownBy w6 (ob ao)) (hat : ob ao = some g6 ∨ V.heap.size <= g6)
    (hB : B <= B1) (hS : ∀ x ∈ ss ++ [s], StOk dd V B n x) (X : World) (hX : X = (set4 w6 g6 (k * 4) (iv s.kind) (iv s.gate) s.inner s.nm).setCell ⟨D, 2, none⟩ (.slice (some ⟨g6, 0, none⟩) (k + 1) cap) ∨ X = set4 (w6.setCell ⟨D, 2, none⟩ (.slice (some ⟨g6, 0, none⟩) (k + 1) cap)) g6 (k * 4) (iv s.kind) (iv s.gate) s.inner s.nm) :
    X.heap[D]? = some (.cells #[x0, x1, .slice (some ⟨g6, 0, none⟩) (k + 1) cap] 174 (0, 0)) /\ k + 1 = (ss ++ [s]).length /\ X.ownsRow B1 222 4 (.slice (some ⟨g6, 0, none⟩) (k + 1) cap) (k + 1) ((ss ++ [s]).flatMap Sx.cells) /\ (∀ x ∈ ss ++ [s], StOk dd X B n x) /\ Kb (D :: (ob ao).toList) V X := by
  have hlD := (Array.getElem?_eq_some_iff.1 hD).1
  have hneD : some D ≠ ob ao := (own_ne hown hD (by decide)).symm
  have hD6 := (hg.block D hlD hneD).trans hD
  have hgD : D ≠ g6 := fun e => own_ne h6 hD6 (by decide) (by rw [e]; rfl)
  have hxl : (ss.flatMap Sx.cells).length = k * 4 := hown.1
  have ecell : ∀ (ss : List Sx) (s : Sx), (ss ++ [s]).flatMap Sx.cells = ss.flatMap Sx.cells ++ [iv s.kind, iv s.gate, s.inner, s.nm] := fun ss s => by rw [List.flatMap_append]; simp [Sx.cells]
  have hKV : Kb (D :: (ob ao).toList) V w6 := (Kb.refl _ V).grown hg (fun b hb => .inl (by simp [hb]))
  have hg6 : g6 ∈ D :: (ob ao).toList ∨ V.heap.size <= g6 := by
    rcases hat with e | e
    . exact .inl (by simp [e])
    . exact .inr e
  have hKX : Kb (D :: (ob ao).toList) V X := by
    rcases hX with rfl | rfl
    . exact (hKV.set4 hg6 _ _ _ _ _).setCell (.inl (by simp)) _
    . exact (hKV.setCell (p := ⟨D, 2, none⟩) (.inl (by simp)) _).set4 hg6 _ _ _ _ _
  have hblk : ∀ b, b < V.heap.size -> b ≠ D -> some b ≠ ob ao -> X.heap[b]? = V.heap[b]? := fun b hb h1 h2 => hKX.block b hb (by simp; exact ⟨h1, fun e => h2 e.symm⟩)
  have hg6B := (own_lt h6 g6 rfl).1
  have e2 : (2 : Nat) < 3 := by decide
  refine ⟨?_, by rw [List.length_append, ← hk]; rfl, ?_, fun x hx => (hS x hx).block (fun g cs fr hb => ?_) (fun g hgB cs fr hb => ?_), hKX⟩
  . rcases hX with rfl | rfl
    . have h7 := (set4_other w6 g6 (k * 4) (iv s.kind) (iv s.gate) s.inner s.nm D hgD).trans hD6
      rw [setCell_eq_setRow _ _ 2 _ _ _ _ h7]
      exact setRow_heap _ _ _ _ _ _ h7
    . rw [set4_other _ _ _ _ _ _ _ _ hgD, setCell_eq_setRow _ _ 2 _ _ _ _ hD6]
      exact setRow_heap _ _ _ _ _ _ hD6
  . rw [ecell]
    rcases hX with rfl | rfl
    . exact own_of_block (set4_own h6 hxl _ _ _ _) (fun b hb => Below.heap_setCell _ _ _ _ (by cases hb; exact fun e => hgD e.symm))
    . exact set4_own (own_of_block h6 (fun b hb => Below.heap_setCell _ _ _ _ (by cases hb; exact fun e => hgD e.symm))) hxl _ _ _ _
  . refine hblk g (Array.getElem?_eq_some_iff.1 hb).1 (fun e => ?_) (own_ne hown hb (by decide)).symm
    rw [e, hD] at hb
    simp at hb
  . refine hblk g (Array.getElem?_eq_some_iff.1 hb).1 (fun e => ?_) (fun e => ?_)
    . rw [e, hD] at hb
      simp at hb
    . have := (own_lt hown g e.symm).1
      omega
end Go.Proofs.YtnghfdnlcnocjaaGreatDoor.Cir
