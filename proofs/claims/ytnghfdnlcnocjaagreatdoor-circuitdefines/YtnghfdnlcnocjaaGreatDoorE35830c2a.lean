import Derived.Test.YtnghfdnlcnocjaaGreatDoorE0c84bb88
import Derived.Test.YtnghfdnlcnocjaaGreatDoorEeec027f0
set_option maxRecDepth 100000
set_option maxHeartbeats 2000000
namespace Go.Proofs.YtnghfdnlcnocjaaGreatDoor.Cir
open Go.RowKit Go.Shelf Go.Proofs.YtnghfdnlcnocjaaGreatDoor.Oct Go.Proofs.YtnghfdnlcnocjaaGreatDoor.Tok Go.Proofs.YtnghfdnlcnocjaaGreatDoor.Gt
def rgV (r : Rg) : Value := .agg #[.int .i64 (r.fr : Int), .int .i64 (r.sz : Int)]
def RM (w : World) (b : Nat) (f : Nm -> Option Rg) : Prop := ∃ n : Nat, True /\ Mp w b n (fun x => (f x).map rgV)
theorem zReg (w : World) : (zeroValue 179).run Tryz.prog w = .ok (.agg #[.int .i64 0, .int .i64 0]) w := by kernel_rfl
theorem RM.kept {w w' : World} {b : Nat} {f : Nm -> Option Rg} {M : List Nat} (h : RM w b f) (hk : Kb M w w') (hm : b ∉ M) : RM w' b f := by
  obtain ⟨n, hn, h⟩ := h
  exact ⟨n, hn, h.kept hk hm⟩
theorem RM.below {w w' : World} {b : Nat} {f : Nm -> Option Rg} (h : RM w b f) (hb : Below w.heap.size w w') : RM w' b f := by
  obtain ⟨n, hn, h⟩ := h
  exact ⟨n, hn, h.below hb⟩
theorem RM.look {w : World} {b : Nat} {f : Nm -> Option Rg} (h : RM w b f) (x : Nm) (hx : x.length <= 140737488355328) :
    (Instr.lookup 60 (.map (some b)) (.string ⟨x.toArray⟩) true).run Tryz.prog w = .ok (.tuple #[rgV ((f x).getD ⟨0, 0⟩), .bool (f x).isSome]) w := by
  obtain ⟨n, hn, h⟩ := h
  rw [h.look Tryz.underlying60 (zReg w) x hx]
  cases f x <;> rfl
theorem RM.look1 {w : World} {b : Nat} {f : Nm -> Option Rg} (h : RM w b f) (x : Nm) (hx : x.length <= 140737488355328) :
    (Instr.lookup 60 (.map (some b)) (.string ⟨x.toArray⟩) false).run Tryz.prog w = .ok (rgV ((f x).getD ⟨0, 0⟩)) w := by
  obtain ⟨n, hn, h⟩ := h
  rw [h.look1 Tryz.underlying60 (zReg w) x hx]
  cases f x <;> rfl
theorem cHas (g off b : Nat) (f : Nm -> Option Rg) (x : Nm) (hx : x.length <= 140737488355328) (w : World) (hc : w.cell? ⟨g, off, none⟩ = some (.map (some b))) (hM : RM w b f) :
    Calls Tryz.prog 136 #[.pointer (some ⟨g, off, none⟩), .string ⟨x.toArray⟩] w fun e w' => e = .returned (.bool (f x).isSome) /\ Below w.heap.size w w' := by
  have hL := hM.look x hx
  generalize (f x).isSome = B at *
  generalize (f x).getD ⟨0, 0⟩ = r at *
  generalize (⟨x.toArray⟩ : ByteArray) = s at *
  obtain ⟨a, c⟩ := r
  unfold rgV at hL
  simp only at hL
  clear hM
  go_enter Tryz.func136, Tryz.ntmps136
  go_wp2_with fail
  go_ret
  exact ⟨rfl, bnew _ _⟩
section
variable {P : Program}
theorem push {ops : Array Oper} {rest : List Oper} {o : Oper} {a : Act} {Q : Exit -> Act -> World -> Prop} {w : World} (hgd : o.guard = none) (s x : Operand) (t : TypeId)
    (ho : o.op = .call { callee := .builtin .append, args := #[s, x], argTypes := #[t, t] })
    (e : TypeId) (ht : P.underlying t = some (.slice e)) (z0 : Value) (size by' : Nat) (hinfo : (P.info? e).map (fun i => (i.zero, i.size, i.bytes)) = some (some z0, size, by')) (hz0' : z0.cells.size = size) (hs0 : 0 < size)
    (B : Nat) (ao : Option Addr) (n c : Nat) (xs : List Value) (hs : a.eval s = .slice ao n c) (hown : w.ownsRow B e size (.slice ao n c) n xs)
    (news : List Value) (cells : Array Value) (hz : cells = news.toArray) (hl : news.length = size) (hv : ∀ u ∈ news, u.oneCell' = true) (H : Nat) (hH : w.heap.size = H) (hx : a.eval x = .slice (some ⟨H, 0, none⟩) 1 1) (hlen : (n + 1) * by' <= 140737488355328) (hn : n + 1 <= 140737488355328) (hbase : B <= w.heap.size)
    (h : ∀ g cap w', w'.ownsRow B e size (.slice (some ⟨g, 0, none⟩) (n + 1) cap) (n + 1) (xs ++ news) -> w.grownBy w' (ob ao) -> (ob ao = some g ∨ w.heap.size <= g) -> wpList P ops Q rest (a.put o.dst (.slice (some ⟨g, 0, none⟩) (n + 1) cap)) w') :
    wpList P ops Q (o :: rest) a (w.alloc (.cells cells e)) := by
  obtain ⟨i, hi, hz0, hz1, hz2⟩ := info_parts hinfo
  subst hz
  subst hH
  refine wpList_append_lies _ hgd s x t ho B e i z0 size by' ht hi hz0 hz1 hz2 hz0' hs0 _ n xs hs (hown.alloc _) ⟨w.heap.size, 0, none⟩ 1 1 news hx (by omega) (fun j u hu => by rw [Addr.add_lit, Nat.zero_add, cell_of_row _ _ _ _ _ _ (heap_alloc_new w _)]; simpa using hu) hv (by decide) (by unfold maxLen; omega) hlen (by simp; omega) _ rfl ?_
  intro g cap w' ho' hg hat hlt
  rw [ob_eq] at hg hat
  refine h g cap w' ho' ((grown_alloc w _ _).trans hg) ?_
  rcases hat with e | e
  . exact .inl e
  . right; simp at e; omega
end
theorem infoI : (Tryz.prog.info? 3).map (fun i => (i.zero, i.size, i.bytes)) = some (some (.int .i64 0), 1, 8) := by kernel_rfl
theorem infoSt : (Tryz.prog.info? 222).map (fun i => (i.zero, i.size, i.bytes)) = some (some (.agg #[.int .i64 0, .int .i64 0, .slice none 0 0, .slice none 0 0]), 4, 64) := by kernel_rfl
theorem infoDf : (Tryz.prog.info? 174).map (·.size) = some 3 := by kernel_rfl
def iv (z : Nat) : Value := .int .i64 (z : Int)
def Is (w : World) (v : Value) (l : List Nat) : Prop := (l = [] /\ ∃ ao c, v = .slice ao 0 c) ∨ ∃ g off c cs fr, v = .slice (some ⟨g, off, none⟩) l.length c /\ w.heap[g]? = some (.cells cs 3 fr) /\ ∀ j z, l[j]? = some z -> cs[off + j]? = some (iv z)
def Safe (B : Nat) (M : List Nat) (w : World) : Prop := ∀ m, m ∈ M -> ∀ cs t fr, w.heap[m]? = some (.cells cs t fr) -> (t = 3 -> B <= m) /\ (t = 222 -> B <= m)
theorem Safe.nil (B : Nat) (w : World) : Safe B [] w := by intro m hm; cases hm
theorem Is.block {w w' : World} {v : Value} {l : List Nat} (h : Is w v l) (hk : ∀ (g : Nat) (cs : Array Value) (fr : Nat × Nat), w.heap[g]? = some (Obj.cells cs 3 fr) -> w'.heap[g]? = w.heap[g]?) : Is w' v l := by
  rcases h with h | ⟨g, off, c, cs, fr, h1, h2, h3⟩
  . exact .inl h
  . exact .inr ⟨g, off, c, cs, fr, h1, (hk g cs fr h2).trans h2, h3⟩
theorem Is.below {w w' : World} {v : Value} {l : List Nat} (h : Is w v l) (hb : Below w.heap.size w w') : Is w' v l :=
  h.block fun g _ _ hg => hb.block g (Array.getElem?_eq_some_iff.1 hg).1
theorem Is.sl {w : World} {v : Value} {l : List Nat} (h : Is w v l) : ∃ ao c, v = .slice ao l.length c := by
  rcases h with ⟨rfl, ao, c, rfl⟩ | ⟨g, off, c, cs, fr, h1, _⟩
  . exact ⟨ao, c, rfl⟩
  . exact ⟨_, c, h1⟩
theorem Is.of_own {w : World} {B : Nat} {ao : Option Addr} {c : Nat} {l : List Nat} (h : w.ownsRow B 3 1 (.slice ao l.length c) l.length (l.map iv)) : Is w (.slice ao l.length c) l := by
  rcases h.2 with ⟨hv, h0⟩ | ⟨g, cap, cur, hv, hbg, hg, h1, h2, h3, h4⟩
  . exact .inl ⟨List.length_eq_zero_iff.1 h0, ao, c, by rw [h0]⟩
  . refine .inr ⟨g, 0, cap, cur, _, hv, hg, fun j z hj => ?_⟩
    have hlt := (List.getElem?_eq_some_iff.1 hj).1
    have : (l.map iv)[j]? = some (iv z) := by rw [List.getElem?_map, hj]; rfl
    rw [← h4, List.getElem?_take, if_pos (by omega)] at this
    rw [Nat.zero_add]
    simpa using this
def Isb (C : Nat) (w : World) (v : Value) (l : List Nat) : Prop := (l = [] /\ ∃ ao c, v = .slice ao 0 c) ∨ ∃ g off c cs fr, g < C /\ v = .slice (some ⟨g, off, none⟩) l.length c /\ w.heap[g]? = some (.cells cs 3 fr) /\ ∀ j z, l[j]? = some z -> cs[off + j]? = some (iv z)
theorem Isb.is {C : Nat} {w : World} {v : Value} {l : List Nat} (h : Isb C w v l) : Is w v l := by
  rcases h with h | ⟨g, off, c, cs, fr, _, h⟩
  . exact .inl h
  . exact .inr ⟨g, off, c, cs, fr, h⟩
theorem Is.b {w : World} {v : Value} {l : List Nat} (h : Is w v l) : Isb w.heap.size w v l := by
  rcases h with h | ⟨g, off, c, cs, fr, h1, h2, h3⟩
  . exact .inl h
  . exact .inr ⟨g, off, c, cs, fr, (Array.getElem?_eq_some_iff.1 h2).1, h1, h2, h3⟩
theorem Isb.mono {C C' : Nat} {w : World} {v : Value} {l : List Nat} (h : Isb C w v l) (hC : C <= C') : Isb C' w v l := by
  rcases h with h | ⟨g, off, c, cs, fr, h0, h⟩
  . exact .inl h
  . exact .inr ⟨g, off, c, cs, fr, by omega, h⟩
theorem Isb.block {C : Nat} {w w' : World} {v : Value} {l : List Nat} (h : Isb C w v l) (hk : ∀ (g : Nat), g < C -> ∀ (cs : Array Value) (fr : Nat × Nat), w.heap[g]? = some (Obj.cells cs 3 fr) -> w'.heap[g]? = w.heap[g]?) : Isb C w' v l := by
  rcases h with h | ⟨g, off, c, cs, fr, h0, h1, h2, h3⟩
  . exact .inl h
  . exact .inr ⟨g, off, c, cs, fr, h0, h1, (hk g h0 cs fr h2).trans h2, h3⟩
structure Sx where
  kind : Nat
  gate : Nat
  inner : Value
  nm : Value
  ops : List PO
def Sx.cells (s : Sx) : List Value := [iv s.kind, iv s.gate, s.inner, s.nm]
def SpAt : Nat -> World -> Nat -> Nat -> Nat -> Value -> Nat -> List PO -> Prop
  | 0, _, _, _, _, v, k, l => k = 0 /\ l = [] /\ ∃ ao c, v = .slice ao 0 c
  | d + 1, w, B, C, n, v, k, l => ∃ ao c ss, v = .slice ao ss.length c /\ k = ss.length /\ l = ss.flatMap Sx.ops /\
      (∀ s ∈ ss, ∃ ns, Isb C w s.nm ns /\ (∀ i ∈ ns, i < n) /\ ns.length <= 4398046511104 /\ (((∃ ao c, s.inner = .slice ao 0 c) /\ s.ops = [⟨s.kind, s.gate, ns⟩]) ∨ ∃ k' l', 0 < k' /\ SpAt d w B C ns.length s.inner k' l' /\ s.ops = l'.map (onP ns))) /\
      (ss = [] ∨ ∃ g off cs fr, ao = some ⟨g, off, none⟩ /\ g < B /\ w.heap[g]? = some (.cells cs 222 fr) /\ ∀ j u, (ss.flatMap Sx.cells)[j]? = some u -> cs[off + j]? = some u)
theorem SpAt.block {w w' : World} {B C : Nat} (h1 : ∀ (g : Nat), g < C -> ∀ (cs : Array Value) (fr : Nat × Nat), w.heap[g]? = some (Obj.cells cs 3 fr) -> w'.heap[g]? = w.heap[g]?) (h2 : ∀ (g : Nat), g < B -> ∀ (cs : Array Value) (fr : Nat × Nat), w.heap[g]? = some (Obj.cells cs 222 fr) -> w'.heap[g]? = w.heap[g]?) :
    ∀ (d n : Nat) (v : Value) (k : Nat) (l : List PO), SpAt d w B C n v k l -> SpAt d w' B C n v k l
  | 0, _, _, _, _, h => h
  | d + 1, n, v, k, l, ⟨ao, c, ss, e1, e2, e3, e4, e5⟩ => by
    refine ⟨ao, c, ss, e1, e2, e3, fun s hs => ?_, ?_⟩
    . obtain ⟨ns, a1, a2, a3, a4⟩ := e4 s hs
      refine ⟨ns, a1.block h1, a2, a3, ?_⟩
      rcases a4 with a4 | ⟨k', l', b1, b2, b3⟩
      . exact .inl a4
      . exact .inr ⟨k', l', b1, SpAt.block h1 h2 d _ _ _ _ b2, b3⟩
    . rcases e5 with e5 | ⟨g, off, cs, fr, a1, a2, a3, a4⟩
      . exact .inl e5
      . exact .inr ⟨g, off, cs, fr, a1, a2, (h2 g a2 cs fr a3).trans a3, a4⟩
theorem SpAt.kept {w w' : World} {B C d n k : Nat} {v : Value} {l : List PO} {M : List Nat} (h : SpAt d w B C n v k l) (hk : Kb M w w') (hs : ∀ m, m ∈ M -> ∀ cs t fr, w.heap[m]? = some (.cells cs t fr) -> (t = 3 -> C <= m) /\ (t = 222 -> B <= m)) : SpAt d w' B C n v k l :=
  SpAt.block (fun g hC _ _ hg => hk.block g (Array.getElem?_eq_some_iff.1 hg).1 (fun e => by have := (hs g e _ _ _ hg).1 rfl; omega))
    (fun g hB _ _ hg => hk.block g (Array.getElem?_eq_some_iff.1 hg).1 (fun e => by have := (hs g e _ _ _ hg).2 rfl; omega)) _ _ _ _ _ h
theorem SpAt.below {w w' : World} {B C d n k : Nat} {v : Value} {l : List PO} (h : SpAt d w B C n v k l) (hb : Below w.heap.size w w') : SpAt d w' B C n v k l :=
  SpAt.block (fun g _ _ _ hg => hb.block g (Array.getElem?_eq_some_iff.1 hg).1) (fun g _ _ _ hg => hb.block g (Array.getElem?_eq_some_iff.1 hg).1) _ _ _ _ _ h
theorem SpAt.mono {w : World} {B B' C C' : Nat} (hB : B <= B') (hC : C <= C') : ∀ (d n : Nat) (v : Value) (k : Nat) (l : List PO), SpAt d w B C n v k l -> SpAt d w B' C' n v k l
  | 0, _, _, _, _, h => h
  | d + 1, n, v, k, l, ⟨ao, c, ss, e1, e2, e3, e4, e5⟩ => by
    refine ⟨ao, c, ss, e1, e2, e3, fun s hs => ?_, ?_⟩
    . obtain ⟨ns, a1, a2, a3, a4⟩ := e4 s hs
      refine ⟨ns, a1.mono hC, a2, a3, ?_⟩
      rcases a4 with a4 | ⟨k', l', b1, b2, b3⟩
      . exact .inl a4
      . exact .inr ⟨k', l', b1, SpAt.mono hB hC d _ _ _ _ b2, b3⟩
    . rcases e5 with e5 | ⟨g, off, cs, fr, a1, a2, a3⟩
      . exact .inl e5
      . exact .inr ⟨g, off, cs, fr, a1, by omega, a3⟩
theorem SpAt.up {w : World} {B C : Nat} : ∀ (d n : Nat) (v : Value) (k : Nat) (l : List PO), SpAt d w B C n v k l -> SpAt (d + 1) w B C n v k l
  | 0, _, _, _, _, ⟨rfl, rfl, ao, c, rfl⟩ => ⟨ao, c, [], rfl, rfl, rfl, (fun _ hs => absurd hs List.not_mem_nil), .inl rfl⟩
  | d + 1, n, v, k, l, ⟨ao, c, ss, e1, e2, e3, e4, e5⟩ => by
    refine ⟨ao, c, ss, e1, e2, e3, fun s hs => ?_, e5⟩
    obtain ⟨ns, a1, a2, a3, a4⟩ := e4 s hs
    refine ⟨ns, a1, a2, a3, ?_⟩
    rcases a4 with a4 | ⟨k', l', b1, b2, b3⟩
    . exact .inl a4
    . exact .inr ⟨k', l', b1, SpAt.up d _ _ _ _ b2, b3⟩
theorem SpAt.upTo {w : World} {B C n k : Nat} {v : Value} {l : List PO} {d : Nat} (h : SpAt d w B C n v k l) : ∀ e, SpAt (d + e) w B C n v k l
  | 0 => h
  | e + 1 => SpAt.up _ _ _ _ _ (SpAt.upTo h e)
theorem SpAt.max {w : World} {B C n k : Nat} {v : Value} {l : List PO} {d e : Nat} (h : SpAt d w B C n v k l) (he : d <= e) : SpAt e w B C n v k l := by
  have := h.upTo (e - d)
  rw [show d + (e - d) = e by omega] at this
  exact this
def DefV (w : World) (B : Nat) (g : Df) (u : Value) : Prop := ∃ d ao k c, u = .agg #[iv g.names, iv g.ops.length, .slice ao k c] /\ SpAt d w B B g.names (.slice ao k c) k g.ops /\ g.names <= 4398046511104 /\ g.ops.length <= 4096
theorem DefV.below {w w' : World} {B : Nat} {g : Df} {u : Value} (h : DefV w B g u) (hb : Below w.heap.size w w') : DefV w' B g u := by
  obtain ⟨d, ao, k, c, h1, h2, h3⟩ := h
  exact ⟨d, ao, k, c, h1, h2.below hb, h3⟩
theorem DefV.kept {w w' : World} {B : Nat} {g : Df} {u : Value} {M : List Nat} (h : DefV w B g u) (hk : Kb M w w') (hs : Safe B M w) : DefV w' B g u := by
  obtain ⟨d, ao, k, c, h1, h2, h3⟩ := h
  exact ⟨d, ao, k, c, h1, h2.kept hk hs, h3⟩
theorem DefV.mono {w : World} {B B' : Nat} {g : Df} {u : Value} (h : DefV w B g u) (hB : B <= B') : DefV w B' g u := by
  obtain ⟨d, ao, k, c, h1, h2, h3⟩ := h
  exact ⟨d, ao, k, c, h1, SpAt.mono hB hB _ _ _ _ _ h2, h3⟩
def DefS (w : World) (C : Nat) (g : Df) (u : Value) : Prop := ∃ ao c, u = .agg #[iv g.names, iv g.ops.length, .slice ao 1 c] /\ SpAt 1 w C C g.names (.slice ao 1 c) 1 g.ops /\ g.names <= 4398046511104 /\ g.ops.length <= 4096
theorem DefS.v {w : World} {C : Nat} {g : Df} {u : Value} (h : DefS w C g u) : DefV w C g u := by
  obtain ⟨ao, c, h1, h2⟩ := h
  exact ⟨1, ao, 1, c, h1, h2⟩
def DefD (w : World) (B C : Nat) (g : Df) (u : Value) : Prop := DefV w C g u /\ (DefS w C g u ∨ DefV w B g u)
theorem DefD.block {w w' : World} {B C : Nat} {g : Df} {u : Value} (h : DefD w B C g u) (hh : ∀ (g : Nat) (cs : Array Value) (fr : Nat × Nat) (t : TypeId), t = 3 ∨ t = 222 -> w.heap[g]? = some (Obj.cells cs t fr) -> w'.heap[g]? = w.heap[g]?) : DefD w' B C g u := by
  have key : ∀ B d n v k l, SpAt d w B B n v k l -> SpAt d w' B B n v k l := fun B d n v k l h => SpAt.block (fun g _ cs fr hg => hh g cs fr _ (.inl rfl) hg) (fun g _ cs fr hg => hh g cs fr _ (.inr rfl) hg) _ _ _ _ _ h
  obtain ⟨⟨d, ao, k, c, h1, h2, h3⟩, h4⟩ := h
  refine ⟨⟨d, ao, k, c, h1, key _ _ _ _ _ _ h2, h3⟩, ?_⟩
  rcases h4 with ⟨ao, c, h1, h2, h3⟩ | ⟨d, ao, k, c, h1, h2, h3⟩
  . exact .inl ⟨ao, c, h1, key _ _ _ _ _ _ h2, h3⟩
  . exact .inr ⟨d, ao, k, c, h1, key _ _ _ _ _ _ h2, h3⟩
theorem DefD.below {w w' : World} {B C : Nat} {g : Df} {u : Value} (h : DefD w B C g u) (hb : Below w.heap.size w w') : DefD w' B C g u :=
  h.block fun g _ _ _ _ hg => hb.block g (Array.getElem?_eq_some_iff.1 hg).1
theorem DefD.mono {w : World} {B C C' : Nat} {g : Df} {u : Value} (h : DefD w B C g u) (hC : C <= C') : DefD w B C' g u := by
  obtain ⟨h1, h2⟩ := h
  refine ⟨h1.mono hC, ?_⟩
  rcases h2 with ⟨ao, c, a1, a2, a3⟩ | h2
  . exact .inl ⟨ao, c, a1, SpAt.mono hC hC _ _ _ _ _ a2, a3⟩
  . exact .inr h2
def DM (w : World) (B b N : Nat) (f : Nm -> Option Df) : Prop := ∃ vs : Nm -> Option Value, Mp w b N vs /\ ∀ x, (vs x).isSome = (f x).isSome /\ ∀ g u, f x = some g -> vs x = some u -> DefV w B g u
theorem DM.below {w w' : World} {B b N : Nat} {f : Nm -> Option Df} (h : DM w B b N f) (hb : Below w.heap.size w w') : DM w' B b N f := by
  obtain ⟨vs, h1, h2⟩ := h
  exact ⟨vs, h1.below hb, fun x => ⟨(h2 x).1, fun g u hg hu => ((h2 x).2 g u hg hu).below hb⟩⟩
theorem DM.kept {w w' : World} {B b N : Nat} {f : Nm -> Option Df} {M : List Nat} (h : DM w B b N f) (hk : Kb M w w') (hs : Safe B M w) (hm : b ∉ M) : DM w' B b N f := by
  obtain ⟨vs, h1, h2⟩ := h
  exact ⟨vs, h1.kept hk hm, fun x => ⟨(h2 x).1, fun g u hg hu => ((h2 x).2 g u hg hu).kept hk hs⟩⟩
theorem DM.mono {w : World} {B B' b N : Nat} {f : Nm -> Option Df} (h : DM w B b N f) (hB : B <= B') : DM w B' b N f := by
  obtain ⟨vs, h1, h2⟩ := h
  exact ⟨vs, h1, fun x => ⟨(h2 x).1, fun g u hg hu => ((h2 x).2 g u hg hu).mono hB⟩⟩
theorem make_in (n : Nat) (hn : n <= 4398046511105) (w : World) : (Instr.makeSlice 32 (.int .i64 (n : Int)) (.int .i64 (n : Int))).run Tryz.prog w = .ok (.slice (some ⟨w.heap.size, 0, none⟩) n n) (w.alloc (.cells (madeCells #[.int .i64 0] n) 3)) :=
  run_make_row' 32 3 (.int .i64 0) 8 Tryz.underlying32 infoI rfl .i64 .i64 n (by omega) (by omega) w
theorem Is.cell {w : World} {ao : Option Addr} {c n : Nat} {l : List Nat} (h : Is w (.slice ao n c) l) {j z : Nat} (hj : l[j]? = some z) : ∃ g off, ao = some ⟨g, off, none⟩ /\ w.cell? ⟨g, off + j, none⟩ = some (.int .i64 (z : Int)) := by
  rcases h with ⟨rfl, _⟩ | ⟨g, off, c', cs, fr, h1, h2, h3⟩
  . simp at hj
  . simp only [Value.slice.injEq] at h1
    exact ⟨g, off, h1.1, (cell_of_row _ _ _ _ _ _ h2).trans (h3 j z hj)⟩
def pkF (l ps : List Nat) (i j : Nat) : Value := if j < i then iv (l.getD (ps.getD j 0) 0) else iv 0
theorem pkF_succ (l ps : List Nat) (i : Nat) : (fun j => if j = i then iv (l.getD (ps.getD i 0) 0) else pkF l ps i j) = pkF l ps (i + 1) := by
  funext j
  unfold pkF
  by_cases h : j = i
  . subst h; simp
  . rw [if_neg h]
    by_cases h2 : j < i
    . rw [if_pos h2, if_pos (by omega)]
    . rw [if_neg h2, if_neg (by omega)]
theorem rk_mk (w : World) (n : Nat) (t : TypeId) (z : Value) : Rk (w.alloc (.cells (madeCells #[z] n) t)) w.heap.size t n (fun _ => z) := by
  obtain ⟨c, h1, h2, h3⟩ := World.rowIs_made w z n t
  exact ⟨c, h1, by omega, h3⟩
theorem cPick (al ap : Option Addr) (cl cp : Nat) (l ps : List Nat) (hp : ps.length <= 4398046511105) (hlt : ∀ p ∈ ps, p < l.length) (w : World) (hL : Is w (.slice al l.length cl) l) (hP : Is w (.slice ap ps.length cp) ps) :
    Calls Tryz.prog 143 #[.slice al l.length cl, .slice ap ps.length cp] w fun e w' => ∃ g, e = .returned (.slice (some ⟨g, 0, none⟩) ps.length ps.length) /\ Is w' (.slice (some ⟨g, 0, none⟩) ps.length ps.length) (pk l ps) /\ w.heap.size <= g /\ Below w.heap.size w w' := by
  have hmk := fun W => make_in ps.length hp W
  have HL := hide hL
  have HP := hide hP
  have HT := hide hlt
  clear hL hP hlt
  obtain ⟨n, hn⟩ : ∃ n, ps.length = n := ⟨_, rfl⟩
  obtain ⟨m, hm⟩ : ∃ m, l.length = m := ⟨_, rfl⟩
  have HN := hide hn
  have HM := hide hm
  rw [hn] at hmk hp ⊢
  rw [hm]
  clear hn hm
  go_enter Tryz.func143, Tryz.ntmps143
  go_wp2_with fail
  go_loopw [13] (fun v wr => ∃ i : Nat, v = .int .i64 (i : Int) /\ i <= n /\ Rk wr w.heap.size 3 n (pkF l ps i) /\ Below w.heap.size w wr) (fun v _ => n - (Go.RowKit.intOf v).toNat)
  case atStart => exact ⟨0, rfl, Nat.zero_le _, (rk_mk w n 3 (.int .i64 0)).congr (fun i _ => rfl), bnew _ _⟩
  case round =>
    obtain ⟨i, rfl, hi, hR, hb⟩ := hrel
    by_cases h : i < n
    . have hdd : decide ((i : Int) < (n : Int)) = true := decide_eq_true (by omega)
      obtain ⟨p, hp1⟩ : ∃ p, ps[i]? = some p := ⟨_, List.getElem?_eq_getElem (by rw [HN.out]; exact h)⟩
      have hpl := HT.out p (List.mem_of_getElem? hp1)
      obtain ⟨z, hz1⟩ : ∃ z, l[p]? = some z := ⟨_, List.getElem?_eq_getElem hpl⟩
      have hP1 := HP.out
      have hL1 := HL.out
      rw [HN.out] at hP1
      rw [HM.out] at hL1 hpl
      obtain ⟨gp, op, rfl, hcp⟩ := (hP1.below hb).cell hp1
      obtain ⟨gl, ol, rfl, hcl⟩ := (hL1.below hb).cell hz1
      have hF := hR.frozen i
      have hC := hR.cell i h
      have hset := hR.set i (iv z)
      have e1 : (fun j => if j = i then iv z else pkF l ps i j) = pkF l ps (i + 1) := by
        rw [← pkF_succ]
        have : ps.getD i 0 = p := by simp [List.getD, hp1]
        have h2 : l.getD p 0 = z := by simp [List.getD, hz1]
        rw [this, h2]
      rw [e1] at hset
      have HC := hide hset
      have hbs := hb.setCell (p := ⟨w.heap.size, i, none⟩) (Nat.le_refl _) (iv z)
      unfold iv at HC hbs
      clear e1 hset hP1 hL1 hz1 hp1
      generalize pkF l ps i i = old at hC
      clear hR
      go_wp2_with fail
      go_roundw
      case rel => exact ⟨i + 1, by go_num, by omega, HC.out, hbs⟩
      case measure => simp [Go.RowKit.intOf]; omega
    . obtain rfl : n = i := by omega
      go_wp2_with fail
      go_ret
      refine ⟨w.heap.size, rfl, ?_, Nat.le_refl _, hb⟩
      have hln : (pk l ps).length = n := by rw [← HN.out]; simp [pk]
      rw [← hln]
      obtain ⟨cur, h1, h2, h3⟩ := hR
      refine .inr ⟨w.heap.size, 0, _, cur, (0, 0), rfl, h1, fun j z hj => ?_⟩
      have hj' : j < n := by rw [← hln]; exact (List.getElem?_eq_some_iff.1 hj).1
      rw [Nat.zero_add, h3 j hj']
      unfold pkF
      rw [if_pos hj']
      unfold pk at hj
      rw [List.getElem?_map] at hj
      have hps : j < ps.length := by rw [HN.out]; exact hj'
      rw [List.getElem?_eq_getElem hps] at hj
      simp at hj
      rw [← hj]
      simp [List.getD, hps]
end Go.Proofs.YtnghfdnlcnocjaaGreatDoor.Cir
