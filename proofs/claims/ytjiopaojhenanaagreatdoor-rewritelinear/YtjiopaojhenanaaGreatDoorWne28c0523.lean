import Derived.Test.YtjiopaojhenanaaGreatDoorWn68c97541
namespace Go.Proofs.YtjiopaojhenanaaGreatDoor.Cir
end Go.Proofs.YtjiopaojhenanaaGreatDoor.Cir
namespace Go.Proofs.YtjiopaojhenanaaGreatDoor.Gt
end Go.Proofs.YtjiopaojhenanaaGreatDoor.Gt
namespace Go.Proofs.YtjiopaojhenanaaGreatDoor.Oct
end Go.Proofs.YtjiopaojhenanaaGreatDoor.Oct
namespace Go.Proofs.YtjiopaojhenanaaGreatDoor.Tok
end Go.Proofs.YtjiopaojhenanaaGreatDoor.Tok
namespace Go.Proofs.YtjiopaojhenanaaGreatDoor.Rwt
open Go.RowKit Go.Shelf Go.Proofs.YtjiopaojhenanaaGreatDoor.Oct Go.Proofs.YtjiopaojhenanaaGreatDoor.Tok Go.Proofs.YtjiopaojhenanaaGreatDoor.Gt Go.Proofs.YtjiopaojhenanaaGreatDoor.Cir
theorem div_cast (x c : Nat) : ((x : Int) / 2 ^ c) = ((x / 2 ^ c : Nat) : Int) := by simp
theorem bit_t {x c : Nat} (hx : x < 18446744073709551616) (h : x.testBit c = true) : bits .and .u64 ((x : Int) / 2 ^ c) 1 = 1 := by
  rw [div_cast, shr_and x c hx]
  rw [Nat.testBit_eq_decide_div_mod_eq, decide_eq_true_eq] at h
  rw [h]
  rfl
theorem bit_f {x c : Nat} (hx : x < 18446744073709551616) (h : x.testBit c = false) : bits .and .u64 ((x : Int) / 2 ^ c) 1 = 0 := by
  rw [div_cast, shr_and x c hx]
  rw [Nat.testBit_eq_decide_div_mod_eq, decide_eq_false_iff_not] at h
  have : x / 2 ^ c % 2 = 0 := by omega
  rw [this]
  rfl
theorem big_t {x n : Nat} (h : 2 ^ n <= x) : (((x : Int) / 2 ^ n) != 0) = true := by
  rw [div_cast]
  have h3 : 0 < x / 2 ^ n := Nat.div_pos h (Nat.two_pow_pos n)
  simp only [bne_iff_ne, ne_eq]
  omega
theorem big_f {x n : Nat} (h : ¬ 2 ^ n <= x) : (((x : Int) / 2 ^ n) != 0) = false := by
  rw [div_cast, Nat.div_eq_of_lt (by omega)]
  rfl
structure DS (V : World) (B : Nat) (a : Option Addr) (j : Nat) (na : Option Addr) (nn nc n k : Nat) (s : GS) : Prop where
  uz : UZ V B a j s.1
  ops : OpsOwn V B na nn nc (s.2.map opS)
  gi : GI n k s
theorem DS.more {V : World} {B j nn nc n k k' : Nat} {a na : Option Addr} {s : GS} (h : DS V B a j na nn nc n k s) (hk : k <= k') : DS V B a j na nn nc n k' s := ⟨h.uz, h.ops, h.gi.more hk⟩
theorem DS.nn_eq {V : World} {B j nn nc n k : Nat} {a na : Option Addr} {s : GS} (h : DS V B a j na nn nc n k s) : nn = s.2.length := by
  have := own_len18 h.ops
  rwa [List.length_map] at this
theorem DS.su {V : World} {B j nn nc n k : Nat} {a na : Option Addr} {s : GS} (h : DS V B a j na nn nc n k s) (h0 : 0 < n) : ∃ G, a = some ⟨G, 0, none⟩ /\ B <= G /\ Su V G j s.1 := h.uz.resolve_left (fun e => by
  have := h.gi.len
  rw [e] at this
  simp at this
  omega)
theorem DS.word {V : World} {B j nn nc n k G : Nat} {na : Option Addr} {s : GS} (h : DS V B (some ⟨G, 0, none⟩) j na nn nc n k s) {i : Nat} (hi : i < n) : ∃ x, s.1.getD i 0 = x /\ V.cell? ⟨G, i, none⟩ = some (.int .u64 (x : Nat)) /\ x < 18446744073709551616 /\ (∀ x, V.frozen? ⟨G, x, none⟩ = false) /\ G < V.heap.size := by
  obtain ⟨G', e, -, h2⟩ := h.su (by omega)
  cases e
  obtain ⟨c1, c2, c3⟩ := h2.cell (h.gi.get hi).1
  exact ⟨_, rfl, c1, (h.gi.get hi).2, c2, c3⟩
theorem opsown_lt18 {w : World} {B n c : Nat} {bo : Option Addr} {l : List COp} (h : OpsOwn w B bo n c l) : ∀ k, ob bo = some k -> B <= k /\ k < w.heap.size := by
  obtain ⟨xs, h1, h2, h3, h4, h5⟩ := h
  exact fun k hk => own_lt h3 k hk
abbrev wNt (V : World) (G f t x : Nat) : World := ((V.setCell ⟨G, t, none⟩ (.int .u64 (x : Nat))).alloc (.cells #[.int .i64 (f : Int), .int .i64 (t : Int)] 3)).drew
theorem dNote {V : World} {B j nn nc n k G : Nat} {na : Option Addr} {s : GS} (h : DS V B (some ⟨G, 0, none⟩) j na nn nc n k s) (hB : B <= V.heap.size) (f t : Nat) (hf : f < n) (ht : t < n) (x : Nat) (hx : x = s.1.getD t 0 ^^^ s.1.getD f 0) : Calls Tryz.prog 21 #[.int .i64 11, .slice (some ⟨V.heap.size, 0, none⟩) 2 2] (wNt V G f t x) fun e w3 => ∃ a3 c3, e = .returned (.agg #[.int .i64 1, .int .i64 11, .slice a3 2 c3, .int .i64 0, .int .i64 (-1), .int .i64 0]) /\
    OpsE (w3.alloc (.cells #[.int .i64 1, .int .i64 11, .slice a3 2 c3, .int .i64 0, .int .i64 (-1), .int .i64 0] 49)) B V.heap.size na nn nc (s.2.map opS) /\ V.heap.size <= (w3.alloc (.cells #[.int .i64 1, .int .i64 11, .slice a3 2 c3, .int .i64 0, .int .i64 (-1), .int .i64 0] 49)).heap.size /\ RowO (w3.alloc (.cells #[.int .i64 1, .int .i64 11, .slice a3 2 c3, .int .i64 0, .int .i64 (-1), .int .i64 0] 49)) V.heap.size (.slice a3 2 c3) [(f : Int), (t : Int)] /\
    (w3.alloc (.cells #[.int .i64 1, .int .i64 11, .slice a3 2 c3, .int .i64 0, .int .i64 (-1), .int .i64 0] 49)).heap[w3.heap.size]? = some (.cells (opC ((⟨1, 11, [(f : Int), (t : Int)], 0, -1, 0⟩ : COp), Value.slice a3 2 c3)).toArray 49 (0, 0)) /\
    ∀ g cap w5, OpsOwn w5 B (some ⟨g, 0, none⟩) (nn + 1) cap (s.2.map opS ++ [⟨1, 11, [(f : Int), (t : Int)], 0, -1, 0⟩]) -> (w3.alloc (.cells #[.int .i64 1, .int .i64 11, .slice a3 2 c3, .int .i64 0, .int .i64 (-1), .int .i64 0] 49)).grownBy w5 (ob na) -> DS w5 B (some ⟨G, 0, none⟩) j (some ⟨g, 0, none⟩) (nn + 1) cap n (k + 1) (adS f t s) /\ Below B V w5 := by
  subst hx
  obtain ⟨G', e, hGB, hs⟩ := h.su (by omega)
  cases e
  have hgi := h.gi.ad hf ht
  have hO := h.ops
  obtain ⟨cur, e1, e2⟩ := id hs
  have hX1 : OpsOwn (V.setCell ⟨G, t, none⟩ (.int .u64 ((s.1.getD t 0 ^^^ s.1.getD f 0 : Nat) : Int))) B na nn nc (s.2.map opS) := by
    rw [setCell_eq_setRow _ _ _ _ _ _ _ e1]
    exact hO.row e1 (by decide) (by decide) _
  have hX2 : Su (V.setCell ⟨G, t, none⟩ (.int .u64 ((s.1.getD t 0 ^^^ s.1.getD f 0 : Nat) : Int))) G j (s.1.set t (s.1.getD t 0 ^^^ s.1.getD f 0)) := hs.put _ _
  have hX3 : Below B V (V.setCell ⟨G, t, none⟩ (.int .u64 ((s.1.getD t 0 ^^^ s.1.getD f 0 : Nat) : Int))) := (Below.refl _ _).setCell (p := ⟨G, t, none⟩) hGB _
  have hXs : (V.setCell ⟨G, t, none⟩ (.int .u64 ((s.1.getD t 0 ^^^ s.1.getD f 0 : Nat) : Int))).heap.size = V.heap.size := by simp
  rw [← hXs] at hB ⊢
  unfold wNt
  generalize V.setCell ⟨G, t, none⟩ (.int .u64 ((s.1.getD t 0 ^^^ s.1.getD f 0 : Nat) : Int)) = X at *
  have hb1 : Below X.heap.size X (X.alloc (.cells #[.int .i64 (f : Int), .int .i64 (t : Int)] 3)).drew := (bnew X _).drew
  have hn2 : Ns (X.alloc (.cells #[.int .i64 (f : Int), .int .i64 (t : Int)] 3)).drew (some ⟨X.heap.size, 0, none⟩) [(f : Int), (t : Int)] := (ns_two X f t).below ⟨rfl, rfl, rfl, Nat.le_refl _, fun _ _ => rfl⟩
  refine (dOne 11 (some ⟨X.heap.size, 0, none⟩) 2 [(f : Int), (t : Int)] (by simp) (by simp) _ hn2).mono ?_
  rintro e w3 ⟨a3, c3, rfl, hr3, hb3⟩
  have hb4 := bnew w3 (.cells #[.int .i64 1, .int .i64 11, .slice a3 2 c3, .int .i64 0, .int .i64 (-1), .int .i64 0] 49)
  have hbY := bkp (bkp hb1 hb3) hb4
  refine ⟨a3, c3, rfl, hX1.upto.below hbY, hbY.size, (hr3.base hb1.size).below hb4, heap_alloc_new _ _, fun g cap w5 ho hg => ?_⟩
  have hG5 : w5.heap[G]? = X.heap[G]? := by
    obtain ⟨cur2, e5, -⟩ := hX2
    have hGX := (Array.getElem?_eq_some_iff.1 e5).1
    refine (hg.block G (Nat.lt_of_lt_of_le hGX hbY.size) (fun e => ?_)).trans (hbY.block G hGX)
    exact own_ne18' hX1 e5 (by decide) e.symm
  refine ⟨⟨.inr ⟨G, rfl, hGB, hX2.block hG5⟩, ?_, hgi⟩, hX3.trans ((hbY.mono hB).grown hg (Nat.le_trans hB hbY.size) (fun k hk => (opsown_lt18 hX1 k hk).1))⟩
  show OpsOwn w5 B _ _ _ ((s.2 ++ [(f, t)]).map opS)
  rw [List.map_append]
  exact ho
theorem step_own18 {ops : Array Oper} {o : Oper} {a : Act} {K : Act -> World -> Prop} {Q : Exit -> Act -> World -> Prop} {E : Prop} {w : World} (hgd : o.guard = none) (s x : Operand)
    (ho : o.op = .call { callee := .builtin .append, args := #[s, x], argTypes := #[22, 22] }) {B n c : Nat} {ao : Option Addr} {cs : List Value} (h3 : w.ownsRow B 49 6 (.slice ao n c) n cs) (hE : B <= w.heap.size) (p : COp) (v : Value) (hv1 : v.oneCell' = true) (H : Nat) (hH : w.heap[H]? = some (.cells (opC (p, v)).toArray 49 (0, 0))) (hn : n <= 1000000000) (hs : a.eval s = .slice ao n c) (hx : a.eval x = .slice (some ⟨H, 0, none⟩) 1 1)
    (h : ∀ g cap w', w'.ownsRow B 49 6 (.slice (some ⟨g, 0, none⟩) (n + 1) cap) (n + 1) (cs ++ opC (p, v)) -> w.grownBy w' (ob ao) -> K (a.put o.dst (.slice (some ⟨g, 0, none⟩) (n + 1) cap)) w') :
    if Region.wanted o (yielded ops a.tmps) = true then Oper.wp Tryz.prog o a w K Q else E := by
  have hw : Region.wanted o (yielded ops a.tmps) = true := by simp [Region.wanted, hgd]
  rw [if_pos hw]
  obtain ⟨i0, hi, hz0, hz1, hz2⟩ := info_parts infoOp
  obtain ⟨v', w', hr, ho2, hg, _, _⟩ := run_append_own_at (P := Tryz.prog) w B 22 o.type 49 i0 _ 6 64 Tryz.underlying22 hi hz0 hz1 hz2 rfl (by decide) _ n _ h3 ⟨H, 0, none⟩ 1 1 (opC (p, v)) rfl (fun j u hu => by rw [Addr.add_lit, Nat.zero_add, cell_of_row _ _ _ _ _ _ hH]; simpa using hu) (opC_one18 p v hv1) (by unfold maxLen; omega) (by omega) (by omega)
  rw [ob_eq] at hg
  obtain ⟨g, cap, rfl⟩ : ∃ g cap, v' = .slice (some ⟨g, 0, none⟩) (n + 1) cap := by
    rcases ho2.2 with ⟨e, e0⟩ | ⟨g', cap', cur', e, -⟩
    . omega
    . exact ⟨_, cap', e⟩
  unfold Oper.wp execOp
  simp only [ho, resolve, invoke, builtin, Sem.run_bind, Sem.run_pure, Result.andThen_ok, List.map_toArray, List.map_cons, List.map_nil, hs, hx, hr]
  exact h g cap w' ho2 hg
structure DL (W1 V : World) (B D n nn : Nat) (xs : List (COp × Value)) (i : Nat) (da : Option Addr) (dc : Nat) : Prop where
  hd : V.heap[D]? = some (.cells #[.int .i64 (n : Int), .int .i64 0, .slice da (nn - i) dc] 24 (0, 0))
  row : V.ownsRow (D + 1) 49 6 (.slice da (nn - i) dc) (nn - i) ((xs.drop i).reverse.flatMap opC)
  bel : Below B W1 V
  kp : ∀ b, b < D -> V.heap[b]? = W1.heap[b]?
theorem dl_start {wr : World} {B n nn : Nat} {xs : List (COp × Value)} (hl : nn = xs.length) : DL (wr.alloc (.cells #[.int .i64 (n : Int), .int .i64 0, .slice none 0 0] 24)) (wr.alloc (.cells #[.int .i64 (n : Int), .int .i64 0, .slice none 0 0] 24)) B wr.heap.size n nn xs nn none 0 := by
  refine ⟨?_, ?_, Below.refl _ _, fun _ _ => rfl⟩
  . rw [Nat.sub_self]
    exact heap_alloc_new _ _
  . rw [Nat.sub_self, hl, List.drop_length]
    exact ⟨rfl, .inl ⟨rfl, rfl⟩⟩
theorem c2_set' (w : World) (g : Nat) (a b c c' : Value) (t : TypeId) (h : w.heap[g]? = some (.cells #[a, b, c] t (0, 0))) : w.setCell ⟨g, 2, none⟩ c' = w.setRow g #[a, b, c'] := by
  rw [setCell_eq_setRow w g 2 _ t _ _ h]
  rfl
theorem DL.step {W1 V Y w6 : World} {B D n nn p dc g cap : Nat} {xs : List (COp × Value)} {da : Option Addr} {x : COp × Value} (h : DL W1 V B D n nn xs (p + 1) da dc) (hBD : B <= D) (hBW : B <= W1.heap.size) (hp : p < nn) (hx : xs[p]? = some x) (hY : Below V.heap.size V Y) (ho : w6.ownsRow (D + 1) 49 6 (.slice (some ⟨g, 0, none⟩) (nn - (p + 1) + 1) cap) (nn - (p + 1) + 1) ((xs.drop (p + 1)).reverse.flatMap opC ++ opC x)) (hg : Y.grownBy w6 (ob da)) : DL W1 (w6.setCell ⟨D, 2, none⟩ (.slice (some ⟨g, 0, none⟩) (nn - (p + 1) + 1) cap)) B D n nn xs p (some ⟨g, 0, none⟩) cap := by
  have hob : ∀ k, ob da = some k -> D + 1 <= k := fun k hk => (own_lt h.row k hk).1
  have hD := (Array.getElem?_eq_some_iff.1 h.hd).1
  have k6 : ∀ b, b <= D -> b < V.heap.size -> w6.heap[b]? = V.heap[b]? := fun b hb hl => (hg.block b (Nat.lt_of_lt_of_le hl hY.size) (fun e => by have := hob b e.symm; omega)).trans (hY.block b hl)
  have kD := (k6 D (Nat.le_refl _) hD).trans h.hd
  have hBV := Nat.le_trans hBW h.bel.size
  rw [c2_set' _ _ _ _ _ _ _ kD]
  have e1 : nn - (p + 1) + 1 = nn - p := by omega
  have e2 : (xs.drop (p + 1)).reverse.flatMap opC ++ opC x = (xs.drop p).reverse.flatMap opC := by
    have : xs.drop p = x :: xs.drop (p + 1) := by
      obtain ⟨hlt, rfl⟩ := List.getElem?_eq_some_iff.1 hx
      exact List.drop_eq_getElem_cons hlt
    rw [this, List.reverse_cons, List.flatMap_append]
    simp
  rw [e1, e2] at ho
  rw [e1]
  refine ⟨setRow_heap _ _ _ _ _ _ kD, own_of_block ho (fun k hk => setRow_other _ _ _ _ (by have := (own_lt ho k hk).1; omega)), Below.row ((h.bel.trans (hY.mono hBV)).grown hg (Nat.le_trans hBV hY.size) (fun k hk => by have := hob k hk; omega)) _ _ hBD, fun b hb => ?_⟩
  have hbv : b < V.heap.size := by omega
  exact (setRow_other _ _ _ _ (by omega)).trans ((k6 b (by omega) hbv).trans (h.kp b hb))
theorem own_base18 {w : World} {B B' n c : Nat} {ao : Option Addr} {t : TypeId} {k : Nat} {cs : List Value} (h : w.ownsRow B t k (.slice ao n c) n cs) (hB : B' <= B) : w.ownsRow B' t k (.slice ao n c) n cs := by
  refine ⟨h.1, ?_⟩
  rcases h.2 with h2 | ⟨g, cap, cur, e1, e2, e3⟩
  . exact .inl h2
  . exact .inr ⟨g, cap, cur, e1, Nat.le_trans hB e2, e3⟩
theorem DL.fin {wr W1 V : World} {B n nn dc : Nat} {xs : List (COp × Value)} {da : Option Addr} (h : DL W1 V B wr.heap.size n nn xs 0 da dc) (hl : nn = xs.length) (hB : B <= wr.heap.size) (hW : Below wr.heap.size wr W1) (hr : ∀ x ∈ xs, RowO wr B x.2 x.1.qs) (hp : Pw xs) : OpsOwn V B da nn dc (xs.map (·.1)).reverse := by
  have hrow := h.row
  rw [Nat.sub_zero, List.drop_zero] at hrow
  refine ⟨xs.reverse, by rw [List.length_reverse, hl], by rw [List.map_reverse], own_base18 hrow (Nat.le_succ_of_le hB), fun x hx => ?_, hp.rev⟩
  refine (hr x (List.mem_reverse.1 hx)).block (fun g cs fr hg => ?_)
  have hgl := (Array.getElem?_eq_some_iff.1 hg).1
  exact (h.kp g hgl).trans (hW.block g hgl)
theorem DL.read {wr W1 V : World} {B n nn nc dc i gN : Nat} {xs : List (COp × Value)} {da : Option Addr} (h : DL W1 V B wr.heap.size n nn xs i da dc) (hW : Below wr.heap.size wr W1) (hN : wr.ownsRow B 49 6 (.slice (some ⟨gN, 0, none⟩) nn nc) nn (xs.flatMap opC)) {p : Nat} {x : COp × Value} (hx : xs[p]? = some x) (m : Nat) (u : Value) (hu : (opC x)[m]? = some u) : V.cell? ⟨gN, p * 6 + m, none⟩ = some u := by
  have h1 := own_at hN (p * 6 + m) u (opC_at xs p x hx m u hu)
  have hgl := World.block_lt_of_cell? _ _ h1
  exact (World.cell?_of_block (w := wr) ((h.kp gN hgl).trans (hW.block gN hgl))).trans h1
def SL (D n m dc gN p lq cq : Nat) (da aq : Option Addr) (kind gate bit cond whn : Int) (X : World) : Prop :=
  X.heap[D]? = some (.cells #[.int .i64 (n : Int), .int .i64 0, .slice da m dc] 24 (0, 0)) /\ X.cell? ⟨gN, p * 6, none⟩ = some (.int .i64 kind) /\ X.cell? ⟨gN, p * 6 + 1, none⟩ = some (.int .i64 gate) /\ X.cell? ⟨gN, p * 6 + 2, none⟩ = some (.slice aq lq cq) /\ X.cell? ⟨gN, p * 6 + 3, none⟩ = some (.int .i64 bit) /\ X.cell? ⟨gN, p * 6 + 4, none⟩ = some (.int .i64 cond) /\ X.cell? ⟨gN, p * 6 + 5, none⟩ = some (.int .i64 whn)
theorem SL.keep {D n m dc gN p lq cq : Nat} {da aq : Option Addr} {kind gate bit cond whn : Int} {X X' : World} (h : SL D n m dc gN p lq cq da aq kind gate bit cond whn X) (hk : ∀ b, b <= D -> b < X.heap.size -> X'.heap[b]? = X.heap[b]?) (hg : gN < D) : SL D n m dc gN p lq cq da aq kind gate bit cond whn X' := by
  obtain ⟨h0, h1, h2, h3, h4, h5, h6⟩ := h
  have kd := hk D (Nat.le_refl _) (Array.getElem?_eq_some_iff.1 h0).1
  have kg := hk gN (Nat.le_of_lt hg) (World.block_lt_of_cell? _ _ h1)
  exact ⟨kd.trans h0, (World.cell?_of_block (w := X) kg).trans h1, (World.cell?_of_block (w := X) kg).trans h2, (World.cell?_of_block (w := X) kg).trans h3, (World.cell?_of_block (w := X) kg).trans h4, (World.cell?_of_block (w := X) kg).trans h5, (World.cell?_of_block (w := X) kg).trans h6⟩
theorem SL.grown {D n m dc gN p lq cq : Nat} {da aq : Option Addr} {kind gate bit cond whn : Int} {X X' : World} {cs : List Value} (h : SL D n m dc gN p lq cq da aq kind gate bit cond whn X) (hg : gN < D) (hr : X.ownsRow (D + 1) 49 6 (.slice da m dc) m cs) (hw : X.grownBy X' (ob da)) : SL D n m dc gN p lq cq da aq kind gate bit cond whn X' :=
  h.keep (fun b hb hl => hw.block b hl (fun e => by have := (own_lt hr b e.symm).1; omega)) hg
end Go.Proofs.YtjiopaojhenanaaGreatDoor.Rwt
