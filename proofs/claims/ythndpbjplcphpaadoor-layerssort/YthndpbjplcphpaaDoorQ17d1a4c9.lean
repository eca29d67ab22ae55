import Derived.Test.YthndpbjplcphpaaDoorQ80548b9e
import Derived.Test.YthndpbjplcphpaaDoorQeb5dbf2d
import Derived.Test.YthndpbjplcphpaaDoorQf279c05d
import Derived.Test.YthndpbjplcphpaaDoorQc47d6463
set_option maxRecDepth 100000
set_option maxHeartbeats 8000000
namespace Go.Proofs.YthndpbjplcphpaaDoor.Lay
open Go.RowKit Go.Shelf Go.Lib Go.Sort Go.Proofs.YthndpbjplcphpaaDoor.Oct Go.Proofs.YthndpbjplcphpaaDoor.Tok Go.Proofs.YthndpbjplcphpaaDoor.Gt Go.Proofs.YthndpbjplcphpaaDoor.Cir
def AH (ops : List COp) (f : Nat -> Int) (a b : Nat) : Prop := f a < f b ∨ f a = f b /\ (ln (oa ops b) < ln (oa ops a) ∨ ln (oa ops b) = ln (oa ops a) /\ a < b)
theorem ah_irr {ops : List COp} {f : Nat -> Int} {a : Nat} (h : AH ops f a a) : False := by unfold AH at h; omega
theorem ah_asy {ops : List COp} {f : Nat -> Int} {a b : Nat} (h : AH ops f a b) (h' : AH ops f b a) : False := by unfold AH at h h'; omega
theorem sb_pw {ops : List COp} {f : Nat -> Int} {p : List Nat} (h : SB ops f p) : p.Pairwise (AH ops f) := by
  rw [List.pairwise_iff_getElem]
  intro i j hi hj hij
  exact h i j _ _ hij (List.getElem?_eq_getElem hi) (List.getElem?_eq_getElem hj)
theorem pw_unique {ops : List COp} {f : Nat -> Int} : ∀ (p q : List Nat), p.Pairwise (AH ops f) -> q.Pairwise (AH ops f) -> (∀ i, i ∈ p ↔ i ∈ q) -> p = q
  | [], [], _, _, _ => rfl
  | [], b :: q, _, _, h => by have := (h b).2 (List.mem_cons_self ..); cases this
  | a :: p, [], _, _, h => by have := (h a).1 (List.mem_cons_self ..); cases this
  | a :: p, b :: q, hp, hq, h => by
    rw [List.pairwise_cons] at hp hq
    have hab : a = b := by
      refine Classical.byContradiction fun hne => ?_
      have h1 := (h a).1 (List.mem_cons_self ..)
      have h2 := (h b).2 (List.mem_cons_self ..)
      rcases List.mem_cons.1 h1 with e | e
      . exact hne e
      . rcases List.mem_cons.1 h2 with e2 | e2
        . exact hne e2.symm
        . exact ah_asy (hq.1 a e) (hp.1 b e2)
    subst hab
    rw [pw_unique p q hp.2 hq.2 (fun i => ?_)]
    constructor
    . intro hi
      rcases List.mem_cons.1 ((h i).1 (List.mem_cons_of_mem _ hi)) with e | e
      . subst e; exact (ah_irr (hp.1 i hi)).elim
      . exact e
    . intro hi
      rcases List.mem_cons.1 ((h i).2 (List.mem_cons_of_mem _ hi)) with e | e
      . subst e; exact (ah_irr (hq.1 i hi)).elim
      . exact e
def oi (ops : List COp) (f : Nat -> Int) (m : Nat) (b : Bool) : Nat -> List Nat
  | 0 => []
  | i + 1 => if f i = (m : Int) /\ decide ((oa ops i).kind = 4) = b then oi ops f m b i ++ [i] else oi ops f m b i
def ol (ops : List COp) (f : Nat -> Int) (n : Nat) : Nat -> List Nat
  | 0 => []
  | d + 1 => (ol ops f n d ++ oi ops f d false n) ++ oi ops f d true n
theorem oi_mem {ops : List COp} {f : Nat -> Int} {m : Nat} {b : Bool} {j : Nat} : ∀ i, j ∈ oi ops f m b i ↔ j < i /\ f j = (m : Int) /\ decide ((oa ops j).kind = 4) = b
  | 0 => by simp [oi]
  | i + 1 => by
    rw [oi]
    split
    . rename_i h
      rw [List.mem_append, oi_mem i, List.mem_singleton]
      constructor
      . rintro (⟨h1, h2⟩ | rfl)
        . exact ⟨by omega, h2⟩
        . exact ⟨by omega, h⟩
      . rintro ⟨h1, h2⟩
        by_cases e : j = i
        . exact .inr e
        . exact .inl ⟨by omega, h2⟩
    . rename_i h
      rw [oi_mem i]
      constructor
      . rintro ⟨h1, h2⟩
        exact ⟨by omega, h2⟩
      . rintro ⟨h1, h2⟩
        refine ⟨?_, h2⟩
        have : j ≠ i := fun e => h (e ▸ h2)
        omega
theorem ol_mem {ops : List COp} {f : Nat -> Int} {n j : Nat} : ∀ d, j ∈ ol ops f n d ↔ j < n /\ 0 <= f j /\ f j < (d : Int)
  | 0 => by rw [ol]; simp; try omega
  | d + 1 => by
    rw [ol, List.mem_append, List.mem_append, ol_mem d, oi_mem, oi_mem]
    constructor
    . rintro ((h | h) | h)
      . omega
      . omega
      . omega
    . rintro ⟨h1, h2, h3⟩
      by_cases e : f j = (d : Int)
      . cases hk : decide ((oa ops j).kind = 4)
        . exact .inl (.inr ⟨h1, e, rfl⟩)
        . exact .inr ⟨h1, e, rfl⟩
      . exact .inl (.inl ⟨h1, h2, by omega⟩)
theorem ln_dec (o : COp) : ln o = if decide (o.kind = 4) = true then 0 else 1 := by
  unfold ln
  by_cases h : o.kind = 4
  . rw [if_pos h, if_pos (decide_eq_true h)]
  . rw [if_neg h, if_neg (by rw [decide_eq_false h]; exact Bool.false_ne_true)]
theorem oi_pw {ops : List COp} {f : Nat -> Int} {m : Nat} {b : Bool} : ∀ i, (oi ops f m b i).Pairwise (AH ops f)
  | 0 => List.Pairwise.nil
  | i + 1 => by
    rw [oi]
    split
    . rename_i h
      rw [List.pairwise_append]
      refine ⟨oi_pw i, List.pairwise_singleton _ _, fun a ha c hc => ?_⟩
      rw [List.mem_singleton] at hc
      subst hc
      have h1 := (oi_mem c).1 ha
      refine .inr ⟨h1.2.1.trans h.1.symm, .inr ⟨?_, h1.1⟩⟩
      rw [ln_dec, ln_dec, h.2, h1.2.2]
    . exact oi_pw i
theorem ol_pw {ops : List COp} {f : Nat -> Int} {n : Nat} : ∀ d, (ol ops f n d).Pairwise (AH ops f)
  | 0 => List.Pairwise.nil
  | d + 1 => by
    rw [ol, List.pairwise_append, List.pairwise_append]
    refine ⟨⟨ol_pw d, oi_pw n, fun a ha c hc => .inl ?_⟩, oi_pw n, fun a ha c hc => ?_⟩
    . have h1 := (ol_mem d).1 ha
      have h2 := (oi_mem n).1 hc
      omega
    . have h2 := (oi_mem n).1 hc
      rcases List.mem_append.1 ha with ha | ha
      . have h1 := (ol_mem d).1 ha
        exact .inl (by omega)
      . have h1 := (oi_mem n).1 ha
        refine .inr ⟨by omega, .inl ?_⟩
        rw [ln_dec, ln_dec, h2.2.2, h1.2.2]
        decide
theorem ol_eq {ops : List COp} {f : Nat -> Int} {n D : Nat} {p : List Nat} (hp : Ord n p) (hs : SB ops f p) (hr : ∀ i, i < n -> 0 <= f i /\ f i <= (D : Int)) : ol ops f n (D + 1) = p :=
  pw_unique _ _ (ol_pw _) (sb_pw hs) fun i => by
    rw [ol_mem]
    constructor
    . exact fun h => hp.all i h.1
    . intro h
      have h1 := hp.lt i h
      have h2 := hr i h1
      exact ⟨h1, h2.1, by omega⟩
theorem pw_len {ops : List COp} {f : Nat -> Int} {n : Nat} {l : List Nat} (h : l.Pairwise (AH ops f)) (hl : ∀ x ∈ l, x < n) : l.length <= n :=
  nd_le n l (List.nodup_iff_pairwise_ne.2 (h.imp (fun {a b} hab (e : a = b) => by subst e; exact ah_irr hab))) hl
end Go.Proofs.YthndpbjplcphpaaDoor.Lay
namespace Go.Proofs.YthndpbjplcphpaaDoor.Lay
open Go.RowKit Go.Shelf Go.Proofs.YthndpbjplcphpaaDoor.Oct Go.Proofs.YthndpbjplcphpaaDoor.Tok Go.Proofs.YthndpbjplcphpaaDoor.Gt Go.Proofs.YthndpbjplcphpaaDoor.Cir
theorem rowO_below {w w' : World} {B : Nat} {v : Value} {l : List Int} (h : RowO w B v l) (hb : Below w.heap.size w w') : RowO w' B v l := by
  obtain ⟨ao, c, e, h⟩ := h
  exact ⟨ao, c, e, own_of_block h fun k hk => hb.block k (own_lt h k hk).2⟩
theorem own_oc19 {V : World} {B : Nat} {ao : Option Addr} {n c : Nat} {l : List COp} (h : OpsOwn V B ao n c l) {i : Nat} {o : COp} (hi : l[i]? = some o) : ∃ g off aq cq, ao = some ⟨g, off, none⟩ /\ g < V.heap.size /\ Oc V g (off + i * 6) o aq cq /\ RowO V B (.slice aq o.qs.length cq) o.qs := by
  obtain ⟨xs, h1, h2, h3, h4, -⟩ := h
  rcases h3.2 with ⟨hv, h0⟩ | ⟨g, cap, cur, hv, hbg, hg, e1, e2, e3, e4⟩
  . have hx : xs = [] := List.length_eq_zero_iff.1 (by rw [← h1]; exact h0)
    subst hx
    rw [h2] at hi
    simp at hi
  . simp only [Value.slice.injEq] at hv
    obtain ⟨rfl, -, rfl⟩ := hv
    rw [h2, List.getElem?_map] at hi
    cases hx : xs[i]? with
    | none => rw [hx] at hi; cases hi
    | some x =>
      rw [hx] at hi
      simp at hi
      subst hi
      have hro := h4 x (List.mem_of_getElem? hx)
      obtain ⟨aq, cq, hv, hr, hn⟩ := hro.isI.ns
      have key : ∀ j u, (opC x)[j]? = some u -> V.cell? ⟨g, 0 + i * 6 + j, none⟩ = some u := fun j u hu => by
        have h5 := opC_at xs i x hx j u hu
        rw [← e4, List.getElem?_take] at h5
        split at h5
        . rw [Nat.zero_add]
          exact (cell_of_row _ _ _ _ _ _ hg).trans (by simpa using h5)
        . cases h5
      rw [hv] at hro
      exact ⟨g, 0, aq, cq, rfl, (Array.getElem?_eq_some_iff.1 hg).1, ⟨key 0 _ rfl, key 1 _ rfl, (key 2 x.2 rfl).trans (by rw [hv]), key 3 _ rfl, key 4 _ rfl, key 5 _ rfl, hr, hn⟩, hro⟩
def OW (w : World) (B : Nat) (ao : Option Addr) (n c : Nat) (ops : List COp) : Prop := ∃ xs : List (COp × Value), n = xs.length /\ ops = xs.map (·.1) /\ w.ownsRow B 57 6 (.slice ao n c) n (xs.flatMap opC) /\ ∀ x ∈ xs, RowO w B x.2 x.1.qs
theorem OW.row {w : World} {B : Nat} {ao : Option Addr} {n c : Nat} {ops : List COp} (h : OW w B ao n c ops) {g : Nat} {cs : Array Value} {t : TypeId} {fr : Nat × Nat} (hg : w.heap[g]? = some (.cells cs t fr)) (h1 : t ≠ 57) (h2 : t ≠ 3) (cs' : Array Value) : OW (w.setRow g cs') B ao n c ops := by
  obtain ⟨xs, e1, e2, e3, e4⟩ := h
  refine ⟨xs, e1, e2, own_of_block e3 (fun k hk => setRow_other _ _ _ _ (fun (e : k = g) => own_ne e3 hg h1 (hk.trans (by rw [e])))), fun x hx => (e4 x hx).block (fun b cs2 fr2 hb => setRow_other _ _ _ _ (fun e => ?_))⟩
  rw [e, hg] at hb
  simp only [Option.some.injEq, Obj.cells.injEq] at hb
  exact h2 hb.2.1
theorem OW.base {w : World} {B B' : Nat} {ao : Option Addr} {n c : Nat} {ops : List COp} (h : OW w B ao n c ops) (hb : B' <= B) : OW w B' ao n c ops := by
  obtain ⟨xs, e1, e2, e3, e4⟩ := h
  exact ⟨xs, e1, e2, own_base e3 hb, fun x hx => (e4 x hx).base hb⟩
theorem OW.below {w w' : World} {B : Nat} {ao : Option Addr} {n c : Nat} {ops : List COp} (h : OW w B ao n c ops) (hb : Below w.heap.size w w') : OW w' B ao n c ops := by
  obtain ⟨xs, e1, e2, e3, e4⟩ := h
  exact ⟨xs, e1, e2, own_of_block e3 fun k hk => hb.block k (own_lt e3 k hk).2, fun x hx => rowO_below (e4 x hx) hb⟩
theorem OW.rd {w : World} {B : Nat} {ao : Option Addr} {n c : Nat} {ops : List COp} (h : OW w B ao n c ops) : OpsIn w ao ops /\ ops.length <= c := by
  obtain ⟨xs, e1, rfl, e3, e4⟩ := h
  have := own6_in e1 e3 (fun x hx => (e4 x hx).isI.ns)
  rw [List.length_map]
  exact this
theorem kz {V V' : World} (hb : Below V.heap.size V V') {i : Nat} {o : Obj} (h : V.heap[i]? = some o) : V'.heap[i]? = some o := (hb.block _ (Array.getElem?_eq_some_iff.1 h).1).trans h
theorem dOnly (c : Circ) (ao : Option Addr) (k : Nat) (hS : Szs c.ops) (L : List Int) (al : Option Addr) (cl : Nat) (hLr : ∀ z ∈ L, 0 <= z /\ z < (c.ops.length : Int)) (hLl : L.length <= 4096) (w : World) (hC : Ci w c ao k) (hN : Ns w al L) : Calls Tryd.prog 45 #[cV c ao k, .slice al L.length cl] w fun e w' => ∃ bo j, e = .returned (cV ⟨c.q, c.b, L.map fun z => oa c.ops z.toNat⟩ bo j) /\ OW w' w.heap.size bo L.length j (L.map fun z => oa c.ops z.toNat) /\ Below w.heap.size w w' := by
  have c0 : Hid (∀ V, Below w.heap.size w V -> Calls Tryd.prog 6 #[cV c ao k] V fun e V' => ∃ bo j, e = .returned (cV c bo j) /\ OpsOwn V' V.heap.size bo c.ops.length j c.ops /\ Below V.heap.size V V') := hide (fun V h => by
    refine (eCopyO c ao k hS V (hC.below h)).mono ?_
    rintro e V' ⟨bo, j, rfl, ho, hb⟩
    exact ⟨bo, j, rfl, ho, hb⟩)
  have hln := hC.len
  have HNL0 := hide hN
  have HLr := hide hLr
  clear hC hS hN hLr
  obtain ⟨q, b, ops⟩ := c
  unfold cV at *
  simp only at *
  obtain ⟨n, hn⟩ : ∃ n, ops.length = n := ⟨_, rfl⟩
  have HNN := hide hn
  rw [hn] at hln HLr c0 ⊢
  obtain ⟨N, hNN⟩ : ∃ N, L.length = N := ⟨_, rfl⟩
  have HLL := hide hNN
  rw [hNN] at hLl ⊢
  clear hn hNN
  have B0 : Below w.heap.size w ((w.alloc (.cells #[.int .i64 q, .int .i64 b, .slice ao n k] 24)).alloc (.cells #[.int .i64 0, .int .i64 0, .slice none 0 0] 24)) := (bnew _ _).trans ((bnew _ _).mono (by simp))
  have r1 : ((w.alloc (.cells #[.int .i64 q, .int .i64 b, .slice ao n k] 24)).alloc (.cells #[.int .i64 0, .int .i64 0, .slice none 0 0] 24)).heap[w.heap.size]? = some (.cells #[.int .i64 q, .int .i64 b, .slice ao n k] 24 (0, 0)) := (Below.heap_alloc _ _ _ (by simp)).trans (heap_alloc_new _ _)
  have r2 : ((w.alloc (.cells #[.int .i64 q, .int .i64 b, .slice ao n k] 24)).alloc (.cells #[.int .i64 0, .int .i64 0, .slice none 0 0] 24)).heap[w.heap.size + 1]? = some (.cells #[.int .i64 0, .int .i64 0, .slice none 0 0] 24 (0, 0)) := by
    have := heap_alloc_new (w.alloc (.cells #[.int .i64 q, .int .i64 b, .slice ao n k] 24)) (.cells #[.int .i64 0, .int .i64 0, .slice none 0 0] 24)
    rw [World.size_alloc] at this
    exact this
  obtain ⟨x0, x1, x2, x3⟩ := def_cells r1
  go_enter Tryd.func45, Tryd.ntmps45
  go_wp2_with (go_at_call 6; refine (c0.out _ B0).mono ?_; rintro e V1 ⟨xo, xj, rfl, hx, hb1⟩; have s1 := kz hb1 r1; have s2 := kz hb1 r2; have B1 := B0.trans (hb1.mono B0.size); have t1 := kz (bnew V1 (.cells #[.int .i64 q, .int .i64 b, .slice xo n xj] 24)) s1; clear x0 x1 x2 x3; obtain ⟨x0, x1, x2, x3⟩ := def_cells t1)
  have hx1 := hx.below (bnew V1 (.cells #[.int .i64 q, .int .i64 b, .slice xo n xj] 24))
  have t2 := kz (bnew V1 (.cells #[.int .i64 q, .int .i64 b, .slice xo n xj] 24)) s2
  have B2 := B1.trans ((bnew V1 (.cells #[.int .i64 q, .int .i64 b, .slice xo n xj] 24)).mono B1.size)
  have t5 := heap_alloc_new V1 (.cells #[.int .i64 q, .int .i64 b, .slice xo n xj] 24)
  obtain ⟨b5, hb5⟩ : ∃ b5, b5 = V1.heap.size := ⟨_, rfl⟩
  obtain ⟨Wd, hWd⟩ : ∃ Wd, Wd = V1.alloc (.cells #[.int .i64 q, .int .i64 b, .slice xo n xj] 24) := ⟨_, rfl⟩
  obtain ⟨b6, hb6⟩ : ∃ b6, b6 = Wd.heap.size := ⟨_, rfl⟩
  have e6 : V1.heap.size + 1 = b6 := by rw [hb6, hWd, World.size_alloc]
  obtain ⟨b2, hb2⟩ : ∃ b2, b2 = w.heap.size + 1 := ⟨_, rfl⟩
  rw [← hWd] at hx1 t2 B2 t5
  rw [← hb5] at t5
  rw [← hb2] at t2
  have t6 : (Wd.alloc (.cells #[.int .i64 q, .int .i64 b, .slice none 0 0] 24)).heap[b6]? = some (.cells #[.int .i64 q, .int .i64 b, .slice none 0 0] 24 (0, 0)) := by rw [hb6]; exact heap_alloc_new _ _
  have hBd : Below Wd.heap.size Wd (Wd.alloc (.cells #[.int .i64 q, .int .i64 b, .slice none 0 0] 24)) := bnew _ _
  have hd0 := t6
  have hm0 := kz hBd t5
  have hz0 := kz hBd t2
  have HNL := hide (HNL0.out.below B2)
  have HO := hide hx1
  obtain ⟨Bo, hBo⟩ : ∃ x, x = ((w.alloc (.cells #[.int .i64 q, .int .i64 b, .slice ao n k] 24)).alloc (.cells #[.int .i64 0, .int .i64 0, .slice none 0 0] 24)).heap.size := ⟨_, rfl⟩
  rw [← hBo] at HO
  have hBw : w.heap.size <= Bo := by rw [hBo, World.size_alloc, World.size_alloc]; omega
  clear hBo
  have HB2 := hide B2
  have hbs : b5 < Wd.heap.size /\ b2 < Wd.heap.size /\ b6 <= Wd.heap.size /\ Wd.heap.size <= b6 /\ w.heap.size <= b2 := ⟨(Array.getElem?_eq_some_iff.1 t5).1, (Array.getElem?_eq_some_iff.1 t2).1, by omega, by omega, by omega⟩
  have hbx : b5 ≠ b6 /\ b2 ≠ b6 /\ b2 ≠ b5 := ⟨by omega, by omega, fun e => by have := (Array.getElem?_eq_some_iff.1 s2).1; omega⟩
  simp only [← hb5, ← hb2, ← hWd]
  have e7 : b5 + 1 = b6 := by omega
  simp only [e7]
  clear hx hx1 t1 t2 t5 t6 s1 s2 r1 r2 B0 B1 B2 hb1 hb5 hb2 hb6 e6 e7 c0 x0 x1 x2 x3 hWd HNL0
  generalize (Wd.alloc (.cells #[.int .i64 q, .int .i64 b, .slice none 0 0] 24)) = W1 at *
  go_loopw [7] (fun vi wr => ∃ (i : Nat) (ao' : Option Addr) (c' : Nat), i <= N /\ vi = .int .i64 (i : Int) /\ ∃ xs : List (COp × Value), Hid (xs.map (·.1) = (L.take i).map fun z => oa ops z.toNat) /\ Hid (∀ x ∈ xs, RowO Wd Bo x.2 x.1.qs) /\ Hid (wr.ownsRow Wd.heap.size 57 6 (.slice ao' i c') i (xs.flatMap opC)) /\ Hid (wr.heap[b6]? = some (.cells #[.int .i64 q, .int .i64 b, .slice ao' i c'] 24 (0, 0))) /\ Hid (wr.heap[b5]? = some (.cells #[.int .i64 q, .int .i64 b, .slice xo n xj] 24 (0, 0))) /\ Hid (wr.heap[b2]? = some (.cells #[.int .i64 0, .int .i64 0, .slice none 0 0] 24 (0, 0))) /\ Hid (Below Wd.heap.size Wd wr)) (fun vi _ => N - (intOf vi).toNat)
  case atStart => exact ⟨0, none, 0, Nat.zero_le _, rfl, [], hide rfl, hide (fun x hx => by simp at hx), hide (World.ownsRow_nil _ _ _ _), hide hd0, hide hm0, hide hz0, hide hBd⟩
  case round =>
    clear hd0 hm0 hz0 hBd
    obtain ⟨i, ao', c', hi, rfl, xs, HXS, HNS, HOw, HD3, HM1, HZ1, HB1⟩ := hrel
    by_cases h : i < N
    . have hd : decide ((i : Int) < (N : Int)) = true := decide_eq_true (by omega)
      have hkk : (i : Int) < (N : Int) := by omega
      obtain ⟨z, hz⟩ : ∃ z, L[i]? = some z := ⟨_, List.getElem?_eq_getElem (by rw [HLL.out]; exact h)⟩
      have hzr := HLr.out z (List.mem_of_getElem? hz)
      obtain ⟨p, rfl⟩ : ∃ p : Nat, z = (p : Int) := ⟨z.toNat, by omega⟩
      have HZ := hide hz
      obtain ⟨gz, oz, rfl, hcz⟩ := ns_cell HNL.out hz
      have hlz := World.block_lt_of_cell? _ _ hcz
      have HZC : Hid (∀ W, Below Wd.heap.size Wd W -> W.cell? ⟨gz, oz + i, none⟩ = some (.int .i64 (p : Int)) /\ gz < W.heap.size) := hide (fun W hW => ⟨(hW.cell hlz).trans hcz, Nat.lt_of_lt_of_le hlz hW.size⟩)
      have hpo : p < ops.length := by rw [HNN.out]; omega
      have hpn : (p : Int) < (n : Int) := by omega
      have HP : Hid ((p : Int).toNat = p) := hide (by omega)
      obtain ⟨g, off, aq, cq, rfl, hgl0, hoc, hrow⟩ := own_oc19 HO.out (oa_some hpo)
      have hgl : g < wr.heap.size := Nat.lt_of_lt_of_le hgl0 HB1.out.size
      clear hz
      obtain ⟨C5, H5⟩ : ∃ C5 : Code, Hid (C5 = (Code.region 6 #[{ dst := some 21, op := Op.fieldAddr 24 (Operand.tmp 6) 2, type := 0, pos := "ref.go:126", after := #[], guard := none }, { dst := some 22, op := Op.load 22 (Operand.tmp 21), type := 22, pos := "ref.go:126", after := #[{ on := 0, ground := Ground.data }], guard := none }, { dst := some 23, op := Op.fieldAddr 24 (Operand.tmp 5) 2, type := 0, pos := "ref.go:126", after := #[], guard := none }, { dst := some 24, op := Op.load 22 (Operand.tmp 23), type := 22, pos := "ref.go:126", after := #[{ on := 2, ground := Ground.data }], guard := none }, { dst := some 25, op := Op.move (Operand.tmp 1), type := 25, pos := "ref.go:126", after := #[], guard := none }, { dst := some 26, op := Op.move (Operand.tmp 7), type := 3, pos := "ref.go:126", after := #[], guard := none }, { dst := some 27, op := Op.indexAddr 25 (Operand.tmp 25) (Operand.tmp 26), type := 0, pos := "ref.go:126", after := #[{ on := 4, ground := Ground.data }, { on := 5, ground := Ground.data }], guard := none }, { dst := some 28, op := Op.load 3 (Operand.tmp 27), type := 3, pos := "ref.go:126", after := #[{ on := 6, ground := Ground.data }], guard := none }, { dst := some 29, op := Op.indexAddr 22 (Operand.tmp 24) (Operand.tmp 28), type := 0, pos := "ref.go:126", after := #[{ on := 3, ground := Ground.data }, { on := 7, ground := Ground.data }], guard := none }, { dst := some 30, op := Op.load 57 (Operand.tmp 29), type := 57, pos := "ref.go:126", after := #[{ on := 8, ground := Ground.data }], guard := none }, { dst := some 31, op := Op.buildSlice 22 1 #[(0, Operand.tmp 30)], type := 22, pos := "ref.go:126", after := #[{ on := 9, ground := Ground.data }], guard := none }, { dst := some 32, op := Op.call { callee := Callee.builtin Builtin.append, args := #[Operand.tmp 22, Operand.tmp 31], argTypes := #[22, 22] }, type := 22, pos := "ref.go:126", after := #[{ on := 1, ground := Ground.data }, { on := 10, ground := Ground.data }], guard := none }, { dst := some 33, op := Op.fieldAddr 24 (Operand.tmp 6) 2, type := 0, pos := "ref.go:126", after := #[{ on := 0, ground := Ground.phase }, { on := 1, ground := Ground.phase }, { on := 2, ground := Ground.phase }, { on := 3, ground := Ground.phase }, { on := 4, ground := Ground.phase }, { on := 5, ground := Ground.phase }, { on := 6, ground := Ground.phase }, { on := 7, ground := Ground.phase }, { on := 8, ground := Ground.phase }, { on := 9, ground := Ground.phase }, { on := 10, ground := Ground.phase }, { on := 11, ground := Ground.phase }], guard := none }, { dst := none, op := Op.store 22 (Operand.tmp 33) (Operand.tmp 32), type := 0, pos := "ref.go:126", after := #[{ on := 12, ground := Ground.data }, { on := 11, ground := Ground.data }, { on := 11, ground := Ground.chain }, { on := 0, ground := Ground.phase }, { on := 1, ground := Ground.phase }, { on := 2, ground := Ground.phase }, { on := 3, ground := Ground.phase }, { on := 4, ground := Ground.phase }, { on := 5, ground := Ground.phase }, { on := 6, ground := Ground.phase }, { on := 7, ground := Ground.phase }, { on := 8, ground := Ground.phase }, { on := 9, ground := Ground.phase }, { on := 10, ground := Ground.phase }, { on := 11, ground := Ground.phase }], guard := none }] true)) := ⟨_, hide rfl⟩
      rw [← H5.out]
      go_wp2_with fail
      rw [H5.out]
      clear hcz hlz
      refine wp_region_held_drew (S := (fun V : World => V.heap[b5]? = some (.cells #[.int .i64 q, .int .i64 b, .slice (some ⟨g, off, none⟩) n xj] 24 (0, 0)) /\ Below Wd.heap.size Wd V)) (by kernel_rfl) ⟨HM1.out, HB1.out.drew⟩ (fun hHeld => ?_)
      refine take_to (i := 0) (d := 21) (v := ?_) rfl rfl (by kernel_rfl) (by kernel_rfl) (by kernel_rfl) (fun _ _ _ h => h) (Or.inl ⟨by rfl, ?_⟩) (by assumption) ?_
      rotate_left 1
      . intro W hSw
        obtain ⟨hc1, hc2⟩ := hSw
        obtain ⟨s0, s1, s2, s3⟩ := def_cells hc1
        go_simp
        with_reducible rfl
      simp only [Act.put, List.setIfInBounds_toArray, List.set_cons_zero, List.set_cons_succ]
      refine take_to (i := 2) (d := 23) (v := ?_) rfl rfl (by kernel_rfl) (by kernel_rfl) (by kernel_rfl) (fun _ _ _ h => h) (Or.inl ⟨by rfl, ?_⟩) (by assumption) ?_
      rotate_left 1
      . intro W hSw
        obtain ⟨hc1, hc2⟩ := hSw
        obtain ⟨s0, s1, s2, s3⟩ := def_cells hc1
        go_simp
        with_reducible rfl
      simp only [Act.put, List.setIfInBounds_toArray, List.set_cons_zero, List.set_cons_succ]
      refine take_to (i := 3) (d := 24) (v := ?_) rfl rfl (by kernel_rfl) (by kernel_rfl) (by kernel_rfl) (fun _ _ _ h => h) (Or.inl ⟨by rfl, ?_⟩) (by assumption) ?_
      rotate_left 1
      . intro W hSw
        obtain ⟨hc1, hc2⟩ := hSw
        obtain ⟨s0, s1, s2, s3⟩ := def_cells hc1
        go_simp
        with_reducible rfl
      simp only [Act.put, List.setIfInBounds_toArray, List.set_cons_zero, List.set_cons_succ]
      refine take_to (i := 4) (d := 25) (v := ?_) rfl rfl (by kernel_rfl) (by kernel_rfl) (by kernel_rfl) (fun _ _ _ h => h) (Or.inl ⟨by rfl, ?_⟩) (by assumption) ?_
      rotate_left 1
      . intro W hSw
        obtain ⟨hc1, hc2⟩ := hSw
        obtain ⟨s0, s1, s2, s3⟩ := def_cells hc1
        go_simp
        with_reducible rfl
      simp only [Act.put, List.setIfInBounds_toArray, List.set_cons_zero, List.set_cons_succ]
      refine take_to (i := 5) (d := 26) (v := ?_) rfl rfl (by kernel_rfl) (by kernel_rfl) (by kernel_rfl) (fun _ _ _ h => h) (Or.inl ⟨by rfl, ?_⟩) (by assumption) ?_
      rotate_left 1
      . intro W hSw
        obtain ⟨hc1, hc2⟩ := hSw
        obtain ⟨s0, s1, s2, s3⟩ := def_cells hc1
        go_simp
        with_reducible rfl
      simp only [Act.put, List.setIfInBounds_toArray, List.set_cons_zero, List.set_cons_succ]
      refine take_to (i := 6) (d := 27) (v := ?_) rfl rfl (by kernel_rfl) (by kernel_rfl) (by kernel_rfl) (fun _ _ _ h => h) (Or.inl ⟨by rfl, ?_⟩) (by assumption) ?_
      rotate_left 1
      . intro W hSw
        obtain ⟨hc1, hc2⟩ := hSw
        obtain ⟨s0, s1, s2, s3⟩ := def_cells hc1
        go_simp
        with_reducible rfl
      simp only [Act.put, List.setIfInBounds_toArray, List.set_cons_zero, List.set_cons_succ]
      refine take_to (i := 7) (d := 28) (v := .int .i64 (p : Int)) rfl rfl (by kernel_rfl) (by kernel_rfl) (by kernel_rfl) (fun _ _ _ h => h) (Or.inl ⟨by rfl, ?_⟩) (by assumption) ?_
      . intro W hSw
        obtain ⟨z1, z2⟩ := HZC.out W hSw.2
        go_simp
      simp only [Act.put, List.setIfInBounds_toArray, List.set_cons_zero, List.set_cons_succ]
      refine take_to (i := 8) (d := 29) (v := ?_) rfl rfl (by kernel_rfl) (by kernel_rfl) (by kernel_rfl) (fun _ _ _ h => h) (Or.inl ⟨by rfl, ?_⟩) (by assumption) ?_
      rotate_left 1
      . intro W hSw
        obtain ⟨hc1, hc2⟩ := hSw
        obtain ⟨s0, s1, s2, s3⟩ := def_cells hc1
        go_simp
        with_reducible rfl
      simp only [Act.put, List.setIfInBounds_toArray, List.set_cons_zero, List.set_cons_succ]
      refine take_to (i := 9) (d := 30) (v := opV (oa ops p) aq cq) rfl rfl (by kernel_rfl) (by kernel_rfl) (by kernel_rfl) (fun _ _ _ h => h) (Or.inl ⟨by rfl, ?_⟩) (by assumption) ?_
      . intro W hSw
        exact run_load_op (hoc.below hSw.2)
      simp only [Act.put, List.setIfInBounds_toArray, List.set_cons_zero, List.set_cons_succ]
      refine wpAnyH_ready (rs := [1, 10]) (by kernel_rfl) (by simp) ?_
      refine AllReadyH.cons (o := { dst := some 22, op := Op.load 22 (Operand.tmp 21), type := 22, pos := "ref.go:126", after := #[{ on := 0, ground := Ground.data }], guard := none }) rfl (fun K hK => ?_) (AllReadyH.cons (o := { dst := some 31, op := Op.buildSlice 22 1 #[(0, Operand.tmp 30)], type := 22, pos := "ref.go:126", after := #[{ on := 9, ground := Ground.data }], guard := none }) rfl (fun K hK => ?_) AllReadyH.nil)
      . obtain ⟨y0, y1, y2, y3⟩ := def_cells HD3.out
        go_simp
        refine hK.out _ _ (show (fun V : World => V.heap[b5]? = some (.cells #[.int .i64 q, .int .i64 b, .slice (some ⟨g, off, none⟩) n xj] 24 (0, 0)) /\ Below Wd.heap.size Wd V) _ from hHeld) (fun hHeld => ?_)
        clear hK K y0 y1 y2 y3
        try simp only [Act.put, List.setIfInBounds_toArray, List.set_cons_zero, List.set_cons_succ]
        refine wpAnyH_ready (rs := [10]) (by kernel_rfl) (by simp) ?_
        refine AllReadyH.cons (o := { dst := some 31, op := Op.buildSlice 22 1 #[(0, Operand.tmp 30)], type := 22, pos := "ref.go:126", after := #[{ on := 9, ground := Ground.data }], guard := none }) rfl (fun K hK => ?_) AllReadyH.nil
        unfold opV
        go_simp
        refine hK.out _ _ (show (fun V : World => V.heap[b5]? = some (.cells #[.int .i64 q, .int .i64 b, .slice (some ⟨g, off, none⟩) n xj] 24 (0, 0)) /\ Below Wd.heap.size Wd V) _ from ⟨(Below.heap_alloc _ (.cells (opC (oa ops p, .slice aq (oa ops p).qs.length cq)).toArray 57) _ (Array.getElem?_eq_some_iff.1 hHeld.1).1).trans hHeld.1, hHeld.2.alloc hHeld.2.size (.cells (opC (oa ops p, .slice aq (oa ops p).qs.length cq)).toArray 57)⟩) (fun hHeld => ?_)
        clear hK K
        have HD3a : Hid ((wr.alloc (.cells #[.int .i64 (oa ops p).kind, .int .i64 (oa ops p).gate, .slice aq (oa ops p).qs.length cq, .int .i64 (oa ops p).bit, .int .i64 (oa ops p).cond, .int .i64 (oa ops p).whn] 57)).heap[b6]? = some (.cells #[.int .i64 q, .int .i64 b, .slice ao' i c'] 24 (0, 0))) := hide ((Below.heap_alloc wr (.cells #[.int .i64 (oa ops p).kind, .int .i64 (oa ops p).gate, .slice aq (oa ops p).qs.length cq, .int .i64 (oa ops p).bit, .int .i64 (oa ops p).cond, .int .i64 (oa ops p).whn] 57) _ (Array.getElem?_eq_some_iff.1 HD3.out).1).trans HD3.out)
        try simp only [Act.put, List.setIfInBounds_toArray, List.set_cons_zero, List.set_cons_succ]
        refine wpAnyH_ready (rs := [11]) (by kernel_rfl) (by simp) ?_
        refine AllReadyH.cons (o := { dst := some 32, op := Op.call { callee := Callee.builtin Builtin.append, args := #[Operand.tmp 22, Operand.tmp 31], argTypes := #[22, 22] }, type := 22, pos := "ref.go:126", after := #[{ on := 1, ground := Ground.data }, { on := 10, ground := Ground.data }], guard := none }) rfl (fun K hK => ?_) AllReadyH.nil
        refine step_push (w := wr.drew) rfl (.tmp 22) (.tmp 31) 22 rfl 57 Tryd.underlying22 _ 6 64 infoOp rfl (by decide) Wd.heap.size ao' i c' _ (by rfl) HOw.out (opC (oa ops p, .slice aq (oa ops p).qs.length cq)) _ rfl rfl (by simp [opC, Value.oneCell']) wr.heap.size rfl (by rfl) (by omega) (by omega) HB1.out.size ?_
        intro g6 c6 w6 hown hgr hat
        have hd6 := (hgr.block _ (Array.getElem?_eq_some_iff.1 HD3.out).1 (fun e => own_ne HOw.out HD3.out (by decide) e.symm)).trans HD3.out
        have hm6 := (hgr.block _ (Array.getElem?_eq_some_iff.1 HM1.out).1 (fun e => own_ne HOw.out HM1.out (by decide) e.symm)).trans HM1.out
        have hr6 := (hgr.block _ (Array.getElem?_eq_some_iff.1 HZ1.out).1 (fun e => own_ne HOw.out HZ1.out (by decide) e.symm)).trans HZ1.out
        have hB6 : Below Wd.heap.size Wd w6 := HB1.out.grown (⟨hgr.os, hgr.tape, hgr.output, hgr.size, hgr.block⟩ : wr.grownBy w6 (ob ao')) HB1.out.size (fun x hx => (own_lt HOw.out x hx).1)
        have HO6 := hide hown
        refine hK.out _ _ (show (fun V : World => V.heap[b5]? = some (.cells #[.int .i64 q, .int .i64 b, .slice (some ⟨g, off, none⟩) n xj] 24 (0, 0)) /\ Below Wd.heap.size Wd V) w6 from ⟨hm6, hB6⟩) (fun hHeld => ?_)
        clear hK K hown hgr hat
        try simp only [Act.put, List.setIfInBounds_toArray, List.set_cons_zero, List.set_cons_succ]
        refine take_to (i := 12) (d := 33) (v := ?_) rfl rfl (by kernel_rfl) (by kernel_rfl) (by kernel_rfl) (fun _ _ _ h => h) (Or.inl ⟨by rfl, ?_⟩) (by assumption) ?_
        rotate_left 1
        . intro W hSw
          obtain ⟨hc1, hc2⟩ := hSw
          obtain ⟨s0, s1, s2, s3⟩ := def_cells hc1
          go_simp
          with_reducible rfl
        simp only [Act.put, List.setIfInBounds_toArray, List.set_cons_zero, List.set_cons_succ]
        refine wpAnyH_ready (rs := [13]) (by kernel_rfl) (by simp) ?_
        refine AllReadyH.cons (o := { dst := none, op := Op.store 22 (Operand.tmp 33) (Operand.tmp 32), type := 0, pos := "ref.go:126", after := #[{ on := 12, ground := Ground.data }, { on := 11, ground := Ground.data }, { on := 11, ground := Ground.chain }, { on := 0, ground := Ground.phase }, { on := 1, ground := Ground.phase }, { on := 2, ground := Ground.phase }, { on := 3, ground := Ground.phase }, { on := 4, ground := Ground.phase }, { on := 5, ground := Ground.phase }, { on := 6, ground := Ground.phase }, { on := 7, ground := Ground.phase }, { on := 8, ground := Ground.phase }, { on := 9, ground := Ground.phase }, { on := 10, ground := Ground.phase }, { on := 11, ground := Ground.phase }], guard := none }) rfl (fun K hK => ?_) AllReadyH.nil
        obtain ⟨y0, y1, y2, y3⟩ := def_cells hd6
        have yf : w6.frozen? ⟨b6, 2, none⟩ = false := by simp [World.frozen?, hd6]
        go_simp
        refine hK.out _ _ (show (fun V : World => V.heap[b5]? = some (.cells #[.int .i64 q, .int .i64 b, .slice (some ⟨g, off, none⟩) n xj] 24 (0, 0)) /\ Below Wd.heap.size Wd V) _ from ⟨(Below.heap_setCell _ _ _ _ (by simp; omega)).trans hm6, hB6.setCell (p := ⟨b6, 2, none⟩) (by simp; omega) _⟩) (fun hHeld => ?_)
        clear hK K
        refine wpAnyH_done (by kernel_rfl) ?_ _
        go_wp2_with fail
        refine ⟨⟨i + 1, some ⟨g6, 0, none⟩, c6, by omega, by go_num, xs ++ [(oa ops p, .slice aq (oa ops p).qs.length cq)], ?_, ?_, ?_, ?_, ?_, ?_, ?_⟩, by simp [intOf]; omega⟩
        . exact hide (by rw [List.map_append, HXS.out, List.take_add_one, HZ.out]; simp [HP.out])
        . exact hide (fun x hx => by
            rcases List.mem_append.1 hx with hx | hx
            . exact HNS.out x hx
            . rw [List.mem_singleton] at hx
              subst hx
              exact hrow)
        . refine hide ?_
          rw [List.flatMap_append]
          refine own_of_block (w := w6) ?_ (fun kk hk => Below.heap_setCell _ _ _ _ (fun e => ?_))
          . have := HO6.out
            simpa [List.flatMap] using this
          . obtain ⟨cs, fr, hc⟩ := own_cells' HO6.out hk
            have e2 : kk = b6 := e
            rw [e2, hd6] at hc
            simp at hc
        . refine hide ?_
          rw [setCell_eq_setRow _ _ _ _ _ _ _ hd6, setRow_heap _ _ _ _ _ _ hd6]
          rfl
        . exact hide ((Below.heap_setCell _ _ _ _ (by simp; omega)).trans hm6)
        . exact hide ((Below.heap_setCell _ _ _ _ (by simp; omega)).trans hr6)
        . exact hide (hB6.setCell (p := ⟨b6, 2, none⟩) (by simp; omega) _)
      . unfold opV
        go_simp
        refine hK.out _ _ (show (fun V : World => V.heap[b5]? = some (.cells #[.int .i64 q, .int .i64 b, .slice (some ⟨g, off, none⟩) n xj] 24 (0, 0)) /\ Below Wd.heap.size Wd V) _ from ⟨(Below.heap_alloc _ (.cells (opC (oa ops p, .slice aq (oa ops p).qs.length cq)).toArray 57) _ (Array.getElem?_eq_some_iff.1 hHeld.1).1).trans hHeld.1, hHeld.2.alloc hHeld.2.size (.cells (opC (oa ops p, .slice aq (oa ops p).qs.length cq)).toArray 57)⟩) (fun hHeld => ?_)
        clear hK K
        have HD3a : Hid ((wr.alloc (.cells #[.int .i64 (oa ops p).kind, .int .i64 (oa ops p).gate, .slice aq (oa ops p).qs.length cq, .int .i64 (oa ops p).bit, .int .i64 (oa ops p).cond, .int .i64 (oa ops p).whn] 57)).heap[b6]? = some (.cells #[.int .i64 q, .int .i64 b, .slice ao' i c'] 24 (0, 0))) := hide ((Below.heap_alloc wr (.cells #[.int .i64 (oa ops p).kind, .int .i64 (oa ops p).gate, .slice aq (oa ops p).qs.length cq, .int .i64 (oa ops p).bit, .int .i64 (oa ops p).cond, .int .i64 (oa ops p).whn] 57) _ (Array.getElem?_eq_some_iff.1 HD3.out).1).trans HD3.out)
        try simp only [Act.put, List.setIfInBounds_toArray, List.set_cons_zero, List.set_cons_succ]
        refine wpAnyH_ready (rs := [1]) (by kernel_rfl) (by simp) ?_
        refine AllReadyH.cons (o := { dst := some 22, op := Op.load 22 (Operand.tmp 21), type := 22, pos := "ref.go:126", after := #[{ on := 0, ground := Ground.data }], guard := none }) rfl (fun K hK => ?_) AllReadyH.nil
        obtain ⟨y0, y1, y2, y3⟩ := def_cells HD3a.out
        go_simp
        refine hK.out _ _ (show (fun V : World => V.heap[b5]? = some (.cells #[.int .i64 q, .int .i64 b, .slice (some ⟨g, off, none⟩) n xj] 24 (0, 0)) /\ Below Wd.heap.size Wd V) _ from hHeld) (fun hHeld => ?_)
        clear hK K y0 y1 y2 y3
        try simp only [Act.put, List.setIfInBounds_toArray, List.set_cons_zero, List.set_cons_succ]
        refine wpAnyH_ready (rs := [11]) (by kernel_rfl) (by simp) ?_
        refine AllReadyH.cons (o := { dst := some 32, op := Op.call { callee := Callee.builtin Builtin.append, args := #[Operand.tmp 22, Operand.tmp 31], argTypes := #[22, 22] }, type := 22, pos := "ref.go:126", after := #[{ on := 1, ground := Ground.data }, { on := 10, ground := Ground.data }], guard := none }) rfl (fun K hK => ?_) AllReadyH.nil
        refine step_push (w := wr.drew) rfl (.tmp 22) (.tmp 31) 22 rfl 57 Tryd.underlying22 _ 6 64 infoOp rfl (by decide) Wd.heap.size ao' i c' _ (by rfl) HOw.out (opC (oa ops p, .slice aq (oa ops p).qs.length cq)) _ rfl rfl (by simp [opC, Value.oneCell']) wr.heap.size rfl (by rfl) (by omega) (by omega) HB1.out.size ?_
        intro g6 c6 w6 hown hgr hat
        have hd6 := (hgr.block _ (Array.getElem?_eq_some_iff.1 HD3.out).1 (fun e => own_ne HOw.out HD3.out (by decide) e.symm)).trans HD3.out
        have hm6 := (hgr.block _ (Array.getElem?_eq_some_iff.1 HM1.out).1 (fun e => own_ne HOw.out HM1.out (by decide) e.symm)).trans HM1.out
        have hr6 := (hgr.block _ (Array.getElem?_eq_some_iff.1 HZ1.out).1 (fun e => own_ne HOw.out HZ1.out (by decide) e.symm)).trans HZ1.out
        have hB6 : Below Wd.heap.size Wd w6 := HB1.out.grown (⟨hgr.os, hgr.tape, hgr.output, hgr.size, hgr.block⟩ : wr.grownBy w6 (ob ao')) HB1.out.size (fun x hx => (own_lt HOw.out x hx).1)
        have HO6 := hide hown
        refine hK.out _ _ (show (fun V : World => V.heap[b5]? = some (.cells #[.int .i64 q, .int .i64 b, .slice (some ⟨g, off, none⟩) n xj] 24 (0, 0)) /\ Below Wd.heap.size Wd V) w6 from ⟨hm6, hB6⟩) (fun hHeld => ?_)
        clear hK K hown hgr hat
        try simp only [Act.put, List.setIfInBounds_toArray, List.set_cons_zero, List.set_cons_succ]
        refine take_to (i := 12) (d := 33) (v := ?_) rfl rfl (by kernel_rfl) (by kernel_rfl) (by kernel_rfl) (fun _ _ _ h => h) (Or.inl ⟨by rfl, ?_⟩) (by assumption) ?_
        rotate_left 1
        . intro W hSw
          obtain ⟨hc1, hc2⟩ := hSw
          obtain ⟨s0, s1, s2, s3⟩ := def_cells hc1
          go_simp
          with_reducible rfl
        simp only [Act.put, List.setIfInBounds_toArray, List.set_cons_zero, List.set_cons_succ]
        refine wpAnyH_ready (rs := [13]) (by kernel_rfl) (by simp) ?_
        refine AllReadyH.cons (o := { dst := none, op := Op.store 22 (Operand.tmp 33) (Operand.tmp 32), type := 0, pos := "ref.go:126", after := #[{ on := 12, ground := Ground.data }, { on := 11, ground := Ground.data }, { on := 11, ground := Ground.chain }, { on := 0, ground := Ground.phase }, { on := 1, ground := Ground.phase }, { on := 2, ground := Ground.phase }, { on := 3, ground := Ground.phase }, { on := 4, ground := Ground.phase }, { on := 5, ground := Ground.phase }, { on := 6, ground := Ground.phase }, { on := 7, ground := Ground.phase }, { on := 8, ground := Ground.phase }, { on := 9, ground := Ground.phase }, { on := 10, ground := Ground.phase }, { on := 11, ground := Ground.phase }], guard := none }) rfl (fun K hK => ?_) AllReadyH.nil
        obtain ⟨y0, y1, y2, y3⟩ := def_cells hd6
        have yf : w6.frozen? ⟨b6, 2, none⟩ = false := by simp [World.frozen?, hd6]
        go_simp
        refine hK.out _ _ (show (fun V : World => V.heap[b5]? = some (.cells #[.int .i64 q, .int .i64 b, .slice (some ⟨g, off, none⟩) n xj] 24 (0, 0)) /\ Below Wd.heap.size Wd V) _ from ⟨(Below.heap_setCell _ _ _ _ (by simp; omega)).trans hm6, hB6.setCell (p := ⟨b6, 2, none⟩) (by simp; omega) _⟩) (fun hHeld => ?_)
        clear hK K
        refine wpAnyH_done (by kernel_rfl) ?_ _
        go_wp2_with fail
        refine ⟨⟨i + 1, some ⟨g6, 0, none⟩, c6, by omega, by go_num, xs ++ [(oa ops p, .slice aq (oa ops p).qs.length cq)], ?_, ?_, ?_, ?_, ?_, ?_, ?_⟩, by simp [intOf]; omega⟩
        . exact hide (by rw [List.map_append, HXS.out, List.take_add_one, HZ.out]; simp [HP.out])
        . exact hide (fun x hx => by
            rcases List.mem_append.1 hx with hx | hx
            . exact HNS.out x hx
            . rw [List.mem_singleton] at hx
              subst hx
              exact hrow)
        . refine hide ?_
          rw [List.flatMap_append]
          refine own_of_block (w := w6) ?_ (fun kk hk => Below.heap_setCell _ _ _ _ (fun e => ?_))
          . have := HO6.out
            simpa [List.flatMap] using this
          . obtain ⟨cs, fr, hc⟩ := own_cells' HO6.out hk
            have e2 : kk = b6 := e
            rw [e2, hd6] at hc
            simp at hc
        . refine hide ?_
          rw [setCell_eq_setRow _ _ _ _ _ _ _ hd6, setRow_heap _ _ _ _ _ _ hd6]
          rfl
        . exact hide ((Below.heap_setCell _ _ _ _ (by simp; omega)).trans hm6)
        . exact hide ((Below.heap_setCell _ _ _ _ (by simp; omega)).trans hr6)
        . exact hide (hB6.setCell (p := ⟨b6, 2, none⟩) (by simp; omega) _)
    . obtain rfl : N = i := by omega
      have hd : decide ((N : Int) < (N : Int)) = false := decide_eq_false (by omega)
      have hxl : N = xs.length := by
        have := congrArg List.length HXS.out
        rw [List.length_map, List.length_map, ← HLL.out, List.take_length] at this
        rw [← HLL.out]
        exact this.symm
      have hfull : xs.map (·.1) = L.map fun z => oa ops z.toNat := by
        have := HXS.out
        rw [← HLL.out, List.take_length] at this
        exact this
      obtain ⟨y0, y1, y2, y3⟩ := def_cells HD3.out
      have HXL := hide hxl
      have HFU := hide hfull
      clear hfull hxl
      go_wp2_with (refine wpList_store_row rfl _ _ _ rfl b2 _ (by rfl) (by rfl) _ _ HZ1.out (by exact infoC3) (by rfl) (by simp [Value.oneCell']) ?_)
      refine bodyPost_ret (results_c rfl _ _ b2 _ _ _ _ (by rfl) (setRow_heap _ _ _ _ _ _ HZ1.out) Tryd.underlying24 rfl (by exact infoC3)) rfl ?_
      refine ⟨ao', c', ?_, ?_, Below.row (HB2.out.trans (HB1.out.mono HB2.out.size)) _ _ (by omega)⟩
      . simp only [List.length_map, HLL.out]
      . have hB6 : w.heap.size <= Wd.heap.size := HB2.out.size
        exact OW.row (w := wr) ⟨xs, HXL.out, HFU.out.symm, own_base HOw.out hB6, fun x hx => (rowO_below (HNS.out x hx) HB1.out).base hBw⟩ HZ1.out (by decide) (by decide) _
theorem kq {V V' : World} (hb : Below V.heap.size V V') {i : Nat} {o : Obj} (h : V.heap[i]? = some o) : V'.heap[i]? = some o := (hb.block _ (Array.getElem?_eq_some_iff.1 h).1).trans h
theorem infoR : (Tryd.prog.info? 25).map (fun i => (i.zero, i.size, i.bytes)) = some (some (.slice none 0 0), 1, 24) := by kernel_rfl
theorem app1_rows {ops : Array Oper} {rest : List Oper} {o : Oper} {a : Act} {Q : Exit -> Act -> World -> Prop} {w : World} (hgd : o.guard = none) (s x : Operand)
    (ho : o.op = .call { callee := .builtin .append, args := #[s, x], argTypes := #[43, 43] }) {B n c : Nat} {ao : Option Addr} {xs : List Value} (hR : w.ownsRow B 25 1 (.slice ao n c) n xs) (hB : B <= w.heap.size) (ar : Option Addr) (nr cr : Nat) (hn : n <= 1000000) (hs : a.eval s = .slice ao n c) (hx : a.eval x = .slice (some ⟨w.heap.size, 0, none⟩) 1 1)
    (h : ∀ ao' c' w', w'.ownsRow B 25 1 (.slice ao' (n + 1) c') (n + 1) (xs ++ [.slice ar nr cr]) -> w.grownBy w' (ob ao) -> wpList Tryd.prog ops Q rest (a.put o.dst (.slice ao' (n + 1) c')) w') : wpList Tryd.prog ops Q (o :: rest) a (w.alloc (.cells #[.slice ar nr cr] 25)) := by
  obtain ⟨i0, hi, hz0, hz1, hz2⟩ := info_parts infoR
  refine wpList_append_lies (w.alloc (.cells #[.slice ar nr cr] 25)) hgd s x 43 ho B 25 i0 (.slice none 0 0) 1 24 Tryd.underlying43 hi hz0 hz1 hz2 rfl (by decide) _ n _ hs (hR.alloc _) ⟨w.heap.size, 0, none⟩ 1 1 [.slice ar nr cr] hx (by simp) (fun j u hu => ?_) (fun u hu => ?_) (by omega) (by unfold maxLen; omega) (by omega) (by rw [World.size_alloc]; omega) _ rfl ?_
  . rw [Addr.add_lit]
    have hj : j = 0 := by
      have := (List.getElem?_eq_some_iff.1 hu).1
      simp at this
      exact this
    subst hj
    simp at hu
    subst hu
    exact cell_of_row _ _ _ _ _ _ (heap_alloc_new w _)
  . simp at hu
    subst hu
    rfl
  . intro g2 cap w2 hown2 hgrow hat hlt
    rw [ob_eq] at hgrow
    exact h _ _ w2 hown2 ((grown_alloc w _ _).trans hgrow)
theorem own_own {w : World} {B B' n c m c' : Nat} {t t' : TypeId} {ao bo : Option Addr} {xs ys : List Value} (h : w.ownsRow B t 1 (.slice ao n c) n xs) (h' : w.ownsRow B' t' 1 (.slice bo m c') m ys) (ht : t' ≠ t) {g : Nat} (hg : ob ao = some g) : ob bo ≠ some g := by
  intro hb
  rcases h'.2 with ⟨hv, -⟩ | ⟨g', cap, cur, hv, hbg, hg', -⟩
  . simp only [Value.slice.injEq] at hv
    rw [hv.1] at hb
    simp [ob] at hb
  . simp only [Value.slice.injEq] at hv
    rw [hv.1] at hb
    simp [ob] at hb
    subst hb
    exact own_ne h hg' ht hg
structure DR (W : World) (B D : Nat) (L : Nat -> List Int) (bo : Option Addr) (cb : Nat) (vs : Nat -> RV) : Prop where
  own : W.ownsRow B 25 1 (.slice bo D cb) D ((List.range D).map fun e => (vs e).v)
  rows : ∀ e, e < D -> W.ownsRow B 3 1 (.slice (vs e).1 (L e).length (vs e).2.2.1) (L e).length ((L e).map (Value.int .i64)) /\ (vs e).2.1 = (L e).length
theorem DR.below {W W' : World} {B D : Nat} {L : Nat -> List Int} {bo : Option Addr} {cb : Nat} {vs : Nat -> RV} (h : DR W B D L bo cb vs) (hb : Below W.heap.size W W') : DR W' B D L bo cb vs :=
  ⟨own_of_block h.own fun k hk => hb.block k (own_lt h.own k hk).2, fun e he => ⟨own_of_block (h.rows e he).1 fun k hk => hb.block k (own_lt (h.rows e he).1 k hk).2, (h.rows e he).2⟩⟩
theorem dMoments (c : Circ) (f : Nat -> Int) (hE : EV c.ops f) (hok : okC c = true) (ao : Option Addr) (k : Nat) (w : World) (hC : Ci w c ao k) : Calls Tryd.prog 22 #[cV c ao k] w fun e w' => ∃ bo cb vs, e = .returned (.tuple #[.slice bo (gr f c.ops.length).toNat cb, .int .i64 0]) /\ DR w' w.heap.size (gr f c.ops.length).toNat (fun d => mr c.ops f d c.ops.length) bo cb vs /\ Below w.heap.size w w' := by
  have er : erC c = 0 := by unfold erC; rw [hok]; rfl
  obtain ⟨n, hn⟩ : ∃ n, c.ops.length = n := ⟨_, rfl⟩
  have hrw : rwC c f = (List.range n).map f := by unfold rwC; rw [hok, hn]; rfl
  have h96 : n <= 4096 := by rw [← hn]; exact (ok_wk hok).2
  have hgr := gr_rng (f := f) c.ops.length (ev_rng hE)
  obtain ⟨D, hD⟩ : ∃ D : Nat, gr f c.ops.length = (D : Int) := ⟨(gr f c.ops.length).toNat, by omega⟩
  have c1 : Hid (∀ V, Below w.heap.size w V -> Calls Tryd.prog 8 #[cV c ao k] V fun e V' => ∃ a cc, e = .returned (.tuple #[.slice a n cc, .int .i64 0]) /\ Ns V' a ((List.range n).map f) /\ Below V.heap.size V V') := hide (fun V h => by
    refine (dEarly c f hE ao k V (hC.below h)).mono ?_
    rintro e V' ⟨a, cc, rfl, h1, -, h2⟩
    rw [hrw] at h1
    exact ⟨a, cc, by rw [er, hrw, List.length_map, List.length_range], h1, h2⟩)
  have c2 : Hid (∀ V, Below w.heap.size w V -> Calls Tryd.prog 17 #[cV c ao k] V fun e V' => e = .returned (.tuple #[.int .i64 (D : Int), .int .i64 0]) /\ Below V.heap.size V V') := hide (fun V h => by
    refine (dDepth c f hE ao k V (hC.below h)).mono ?_
    rintro e V' ⟨rfl, h2⟩
    exact ⟨by rw [er, hok, hD]; rfl, h2⟩)
  have c3 : Hid (∀ V (i : Nat), i < n -> Below w.heap.size w V -> Calls Tryd.prog 32 #[cV c ao k, .int .i64 (i : Int)] V fun e V' => e = .returned (.bool (decide ((oa c.ops i).kind = 4))) /\ Below V.heap.size V V') := hide (fun V i hi h => dBar c ao k i (by rw [hn]; exact hi) V (hC.below h))
  rw [hD] at hgr ⊢
  rw [Int.toNat_natCast]
  obtain ⟨q, b, ops⟩ := c
  unfold cV at *
  simp only at hn c1 c2 c3 hgr ⊢
  rw [hn] at c1 c2 c3 hgr ⊢
  clear hC hE hok er hrw hD hn
  have r0 := heap_alloc_new w (.cells #[.int .i64 q, .int .i64 b, .slice ao n k] 24)
  have B0 := bnew w (.cells #[.int .i64 q, .int .i64 b, .slice ao n k] 24)
  obtain ⟨x0, x1, x2, x3⟩ := def_cells r0
  go_enter Tryd.func22, Tryd.ntmps22
  go_wp2_with (first
    | (go_at_call 8; refine (c1.out _ B0).mono ?_; rintro e V1 ⟨a1, ca1, rfl, hn1, hb1⟩; have r1 := kq hb1 r0; have B1 := B0.trans (hb1.mono B0.size); clear x0 x1 x2 x3; obtain ⟨x0, x1, x2, x3⟩ := def_cells r1)
    | (go_at_call 17; refine (c2.out _ B1).mono ?_; rintro e V2 ⟨rfl, hb2⟩; have r2 := kq hb2 r1; have B2 := B1.trans (hb2.mono B1.size); have hn2 := hn1.below hb2))
  have HR2 := hide r2
  have HN2 := hide hn2
  have HB2 := hide B2
  clear x0 x1 x2 x3 r0 r1 r2 B0 B1 B2 hb1 hb2 hn1 hn2 c1 c2
  go_loopg [8, 9, 10, 11] (D) (fun kx s8 s9 _ _ wr => ∃ (d : Nat) (bo : Option Addr) (cb : Nat) (vs : Nat -> RV), s8 = .slice bo d cb /\ s9 = .int .i64 ((d : Int) + 1) /\ d <= D /\ D - d <= kx /\ Hid (DR wr V2.heap.size d (fun e => mr ops f e n) bo cb vs) /\ Hid (Below V2.heap.size V2 wr))
  case atStart => exact ⟨0, none, 0, fun _ => (none, 0, 0, []), rfl, rfl, Nat.zero_le _, Nat.le_refl _, hide ⟨World.ownsRow_nil _ _ _ _, fun e he => by omega⟩, hide (Below.refl _ _)⟩
  case round =>
    obtain ⟨d, bo, cb, vs, rfl, rfl, hdD, hkx, HDR, HBW⟩ := hrel
    by_cases hlt : d < D
    . have d1 : decide ((d : Int) + 1 <= (D : Int)) = true := decide_eq_true (by omega)
      have d1' : decide ((d : Int) < (D : Int)) = true := decide_eq_true (by omega)
      have HDL := HDR
      generalize wr = W0 at *
      have r1 : IntKind.i64.wrap ((d : Int) + 1 + 1) = (d : Int) + 1 + 1 := by rw [IntKind.wrap_i64]; omega
      go_wp2_with fail
      go_loopg [10, 11] (n) (fun ky s10 s11 wy => ∃ (i : Nat) (ro : Option Addr) (rc m : Nat) (l : List Int), s10 = .slice ro m rc /\ s11 = .int .i64 (i : Int) /\ i <= n /\ n - i <= ky /\ m <= i /\ Hid (l.length = m) /\ Hid (l = mr ops f d i) /\ Hid (wy.ownsRow W0.heap.size 3 1 (.slice ro m rc) m (l.map (Value.int .i64))) /\ Hid (Below W0.heap.size W0 wy))
      case atStart => exact ⟨0, none, 0, 0, [], rfl, rfl, Nat.zero_le _, Nat.le_refl _, Nat.le_refl _, hide rfl, hide rfl, hide (World.ownsRow_nil _ _ _ _), hide (Below.refl _ _)⟩
      case round =>
        obtain ⟨i, ro, rc, m, l, rfl, rfl, hin, hky, hmi, HLM, HLE, HO, HBI⟩ := hrel
        have hBV : Below V2.heap.size V2 wr := HBW.out.trans (HBI.out.mono HBW.out.size)
        have hBw : Below w.heap.size w wr := HB2.out.trans (hBV.mono HB2.out.size)
        by_cases h : i < n
        . have d2 : decide ((i : Int) < (n : Int)) = true := decide_eq_true (by omega)
          have d3 : (i : Int) < (n : Int) := by omega
          obtain ⟨g1, o1, rfl, k1⟩ := ns_cell (HN2.out.below hBV) (rng_at f n i h)
          have k2 := World.block_lt_of_cell? _ _ k1
          obtain ⟨x0, x1, x2, x3⟩ := def_cells (kq hBV HR2.out)
          have cb1 := c3.out wr i h hBw
          have hmr : mr ops f d (i + 1) = if f i = (d : Int) + 1 /\ (oa ops i).kind ≠ 4 then mr ops f d i ++ [(i : Int)] else mr ops f d i := rfl
          have HMR := hide hmr
          clear hmr
          by_cases e1 : f i = (d : Int) + 1
          . rw [e1] at k1
            by_cases e4 : (oa ops i).kind = 4
            . rw [decide_eq_true e4] at cb1
              have HL2 : Hid (l = mr ops f d (i + 1)) := hide (by rw [HMR.out, if_neg (fun h => h.2 e4)]; exact HLE.out)
              go_wp2_with (go_at_call 32; refine cb1.mono ?_; rintro e w3 ⟨rfl, hb3⟩; have HB3 := hide hb3; clear hb3)
              go_roundg (n - (i + 1))
              case measure => omega
              case rel => exact ⟨i + 1, ro, rc, m, l, rfl, by congr 1, by omega, Nat.le_refl _, by omega, HLM, HL2, hide (own_below HO.out HB3.out), hide (HBI.out.trans (HB3.out.mono HBI.out.size))⟩
            . rw [decide_eq_false e4] at cb1
              have HL2 : Hid (l ++ [(i : Int)] = mr ops f d (i + 1)) := hide (by rw [HMR.out, if_pos ⟨e1, e4⟩, HLE.out])
              go_wp2_with (first
                | (go_at_call 32; refine cb1.mono ?_; rintro e w3 ⟨rfl, hb3⟩; have HB3 := hide hb3; have HO3 := hide (own_below HO.out hb3); clear hb3)
                | (at_builtin; refine app1_list (w := w3) rfl (.tmp 48) (.tmp 50) rfl HO3.out (Nat.le_trans HBI.out.size HB3.out.size) (i : Int) (by omega) (by rfl) (by rfl) ?_; intro g6 c6 w6 hown hgr hat; have HO6 := hide hown; have HG6 := hide hgr; clear hown hgr hat))
              go_roundg (n - (i + 1))
              case measure => omega
              case rel =>
                have hb3 : Below W0.heap.size W0 w3 := HBI.out.trans (HB3.out.mono HBI.out.size)
                exact ⟨i + 1, some ⟨g6, 0, none⟩, c6, m + 1, l ++ [(i : Int)], rfl, by congr 1, by omega, Nat.le_refl _, by omega, hide (by rw [List.length_append, HLM.out]; rfl), HL2, HO6, hide (hb3.grown HG6.out hb3.size (fun x hx => (own_lt HO3.out x hx).1))⟩
          . have e2 : (f i == (d : Int) + 1) = false := by simpa using e1
            have HL2 : Hid (l = mr ops f d (i + 1)) := hide (by rw [HMR.out, if_neg (fun h => e1 h.1)]; exact HLE.out)
            clear cb1
            generalize f i = fi at *
            go_wp2_with fail
            go_roundg (n - (i + 1))
            case measure => omega
            case rel => exact ⟨i + 1, ro, rc, m, l, rfl, by congr 1, by omega, Nat.le_refl _, by omega, HLM, HL2, HO, HBI⟩
        . obtain rfl : i = n := by omega
          have d2 : decide ((i : Int) < (i : Int)) = false := decide_eq_false (by omega)
          have HD3 := hide (HDL.out.below HBI.out)
          have hsz := hBV.size
          go_wp2_with (at_builtin; refine app1_rows (w := wr) rfl (.tmp 52) (.tmp 54) rfl HD3.out.own hsz ro m rc (by omega) (by rfl) (by rfl) ?_; intro ao6 c6 w6 hown hgr; have HO6 := hide hown; have HG6 := hide hgr; clear hown hgr)
          go_roundg (D - (d + 1))
          case measure => omega
          case rel =>
            refine ⟨d + 1, ao6, c6, fun e => if e = d then (ro, m, rc, l) else vs e, rfl, by congr 1, by omega, Nat.le_refl _, hide ⟨?_, fun e he => ?_⟩, hide (hBV.grown HG6.out hBV.size (fun x hx => (own_lt HD3.out.own x hx).1))⟩
            . have h9 := HO6.out
              rw [List.range_succ, List.map_append]
              have e1 : (List.range d).map (fun e => RV.v (if e = d then (ro, m, rc, l) else vs e)) = (List.range d).map (fun e => (vs e).v) := List.map_congr_left fun e he => by
                have := List.mem_range.1 he
                rw [if_neg (by omega)]
              rw [e1]
              simp only [List.map_cons, List.map_nil, if_true]
              exact h9
            . by_cases ee : e = d
              . subst ee
                simp only [if_true]
                have hlm : (mr ops f e i).length = m := by rw [← HLE.out]; exact HLM.out
                rw [hlm, ← HLE.out]
                exact ⟨own_base (own_of_block HO.out fun kk hk => HG6.out.block kk (own_lt HO.out kk hk).2 (fun e2 => own_own HO.out HD3.out.own (by decide) hk e2.symm)) HBW.out.size, rfl⟩
              . simp only [if_neg ee]
                have hr := HD3.out.rows e (by omega)
                exact ⟨own_of_block hr.1 fun kk hk => HG6.out.block kk (own_lt hr.1 kk hk).2 (fun e2 => own_own hr.1 HD3.out.own (by decide) hk e2.symm), hr.2⟩
    . have d1 : decide ((d : Int) + 1 <= (D : Int)) = false := decide_eq_false (by omega)
      have d1' : decide ((d : Int) < (D : Int)) = false := decide_eq_false (by omega)
      obtain rfl : d = D := by omega
      go_wp2_with fail
      go_ret2
      refine ⟨bo, cb, vs, rfl, ⟨?_, fun e he => ⟨?_, (HDR.out.rows e he).2⟩⟩, HB2.out.trans (HBW.out.mono HB2.out.size)⟩
      . exact own_base HDR.out.own HB2.out.size
      . exact own_base (HDR.out.rows e he).1 HB2.out.size
def om (ops : List COp) (f : Nat -> Int) (n d : Nat) : Nat -> Nat -> List Nat
  | 0, i => ol ops f n d ++ oi ops f d false i
  | _ + 1, i => (ol ops f n d ++ oi ops f d false n) ++ oi ops f d true i
theorem om_step (ops : List COp) (f : Nat -> Int) (n d i : Nat) : ∀ t, t < 2 -> om ops f n d t (i + 1) = if f i = (d : Int) /\ decide ((oa ops i).kind = 4) = decide (t = 1) then om ops f n d t i ++ [i] else om ops f n d t i
  | 0, _ => by
    rw [om, om, oi, show decide (0 = 1) = false from rfl]
    split
    . simp only [List.append_assoc]
    . rfl
  | 1, _ => by
    rw [om, om, oi, show decide (1 = 1) = true from rfl]
    split
    . simp only [List.append_assoc]
    . rfl
theorem om_pw {ops : List COp} {f : Nat -> Int} {n d : Nat} : ∀ t i, (om ops f n d t i).Pairwise (AH ops f)
  | 0, i => by
    rw [om, List.pairwise_append]
    refine ⟨ol_pw d, oi_pw i, fun a ha c hc => .inl ?_⟩
    have h1 := (ol_mem d).1 ha
    have h2 := (oi_mem i).1 hc
    omega
  | _ + 1, i => by
    rw [om, List.pairwise_append, List.pairwise_append]
    refine ⟨⟨ol_pw d, oi_pw n, fun a ha c hc => .inl ?_⟩, oi_pw i, fun a ha c hc => ?_⟩
    . have h1 := (ol_mem d).1 ha
      have h2 := (oi_mem n).1 hc
      omega
    . have h2 := (oi_mem i).1 hc
      rcases List.mem_append.1 ha with ha | ha
      . have h1 := (ol_mem d).1 ha
        exact .inl (by omega)
      . have h1 := (oi_mem n).1 ha
        refine .inr ⟨by omega, .inl ?_⟩
        rw [ln_dec, ln_dec, h2.2.2, h1.2.2]
        decide
theorem om_lt {ops : List COp} {f : Nat -> Int} {n d : Nat} : ∀ t i, i <= n -> ∀ x ∈ om ops f n d t i, x < n
  | 0, i, hi, x, hx => by
    rw [om, List.mem_append] at hx
    rcases hx with h | h
    . exact ((ol_mem d).1 h).1
    . have := ((oi_mem i).1 h).1; omega
  | _ + 1, i, hi, x, hx => by
    rw [om, List.mem_append, List.mem_append] at hx
    rcases hx with (h | h) | h
    . exact ((ol_mem d).1 h).1
    . exact ((oi_mem n).1 h).1
    . have := ((oi_mem i).1 h).1; omega
theorem om_len {ops : List COp} {f : Nat -> Int} {n d t i : Nat} (hi : i <= n) : (om ops f n d t i).length <= n := pw_len (om_pw t i) (om_lt t i hi)
def nI (l : List Nat) : List Int := l.map fun x : Nat => (x : Int)
theorem dSorted (c : Circ) (f : Nat -> Int) (hE : EV c.ops f) (hok : okC c = true) (hS : Szs c.ops) (p : List Nat) (hp : Ord c.ops.length p) (hs : SB c.ops f p) (ao : Option Addr) (k : Nat) (w : World) (hC : Ci w c ao k) : Calls Tryd.prog 24 #[cV c ao k] w fun e w' => ∃ bo j, e = .returned (.tuple #[.agg #[.int .i64 c.q, .int .i64 c.b, .slice bo c.ops.length j], .int .i64 0]) /\ OW w' w.heap.size bo c.ops.length j (p.map (oa c.ops)) /\ Below w.heap.size w w' := by
  have er : erC c = 0 := by unfold erC; rw [hok]; rfl
  obtain ⟨n, hn⟩ : ∃ n, c.ops.length = n := ⟨_, rfl⟩
  have hrw : rwC c f = (List.range n).map f := by unfold rwC; rw [hok, hn]; rfl
  have h96 : n <= 4096 := by rw [← hn]; exact (ok_wk hok).2
  have hgr := gr_rng (f := f) c.ops.length (ev_rng hE)
  obtain ⟨D, hD⟩ : ∃ D : Nat, gr f c.ops.length = (D : Int) := ⟨(gr f c.ops.length).toNat, by omega⟩
  have c1 : Hid (∀ V, Below w.heap.size w V -> Calls Tryd.prog 8 #[cV c ao k] V fun e V' => ∃ a cc, e = .returned (.tuple #[.slice a n cc, .int .i64 0]) /\ Ns V' a ((List.range n).map f) /\ Below V.heap.size V V') := hide (fun V h => by
    refine (dEarly c f hE ao k V (hC.below h)).mono ?_
    rintro e V' ⟨a, cc, rfl, h1, -, h2⟩
    rw [hrw] at h1
    exact ⟨a, cc, by rw [er, hrw, List.length_map, List.length_range], h1, h2⟩)
  have c2 : Hid (∀ V, Below w.heap.size w V -> Calls Tryd.prog 17 #[cV c ao k] V fun e V' => e = .returned (.tuple #[.int .i64 (D : Int), .int .i64 0]) /\ Below V.heap.size V V') := hide (fun V h => by
    refine (dDepth c f hE ao k V (hC.below h)).mono ?_
    rintro e V' ⟨rfl, h2⟩
    exact ⟨by rw [er, hok, hD]; rfl, h2⟩)
  have c3 : Hid (∀ V (i : Nat), i < n -> Below w.heap.size w V -> Calls Tryd.prog 32 #[cV c ao k, .int .i64 (i : Int)] V fun e V' => e = .returned (.bool (decide ((oa c.ops i).kind = 4))) /\ Below V.heap.size V V') := hide (fun V i hi h => dBar c ao k i (by rw [hn]; exact hi) V (hC.below h))
  have hol : ol c.ops f n (D + 1) = p := ol_eq (by rw [← hn]; exact hp) hs (fun i hi => ⟨(ev_rng hE i (by rw [hn]; exact hi)).1, by rw [← hD]; exact gr_ge _ i (by rw [hn]; exact hi)⟩)
  have c4 : Hid (∀ V al cl, Below w.heap.size w V -> Ns V al (nI p) -> Calls Tryd.prog 45 #[cV c ao k, .slice al n cl] V fun e V' => ∃ bo j, e = .returned (.agg #[.int .i64 c.q, .int .i64 c.b, .slice bo n j]) /\ OW V' V.heap.size bo n j (p.map (oa c.ops)) /\ Below V.heap.size V V') := hide (fun V al cl h hN => by
    have hl : (nI p).length = n := by unfold nI; rw [List.length_map, hp.len, hn]
    have h1 := dOnly c ao k hS (nI p) al cl (fun z hz => by
      obtain ⟨x, hx, rfl⟩ := List.mem_map.1 hz
      have := hp.lt x hx
      omega) (by rw [hl]; exact h96) V (hC.below h) hN
    rw [hl] at h1
    refine h1.mono ?_
    have e1 : (nI p).map (fun z => oa c.ops z.toNat) = p.map (oa c.ops) := pk_map c.ops p
    rintro e V' ⟨bo, j, rfl, h2, h3⟩
    rw [e1] at h2 ⊢
    refine ⟨bo, j, ?_, h2, h3⟩
    unfold cV
    simp only [List.length_map, hp.len, hn])
  rw [hD] at hgr
  obtain ⟨q, b, ops⟩ := c
  unfold cV at *
  simp only at hn c1 c2 c3 c4 hgr hol hp ⊢
  rw [hn] at c1 c2 c3 c4 hgr ⊢
  have HOL := hide hol
  have hpl : p.length = n := by rw [hp.len, hn]
  have HPL := hide hpl
  generalize p.map (oa ops) = R at *
  clear hC hE hok er hrw hD hn hol hp hs hS hpl
  have r0 : ((w.alloc (.cells #[.int .i64 q, .int .i64 b, .slice ao n k] 24)).alloc (.cells #[.int .i64 0, .int .i64 0, .slice none 0 0] 24)).heap[w.heap.size]? = some (.cells #[.int .i64 q, .int .i64 b, .slice ao n k] 24 (0, 0)) := (Below.heap_alloc _ _ _ (by simp)).trans (heap_alloc_new _ _)
  have q0 : ((w.alloc (.cells #[.int .i64 q, .int .i64 b, .slice ao n k] 24)).alloc (.cells #[.int .i64 0, .int .i64 0, .slice none 0 0] 24)).heap[w.heap.size + 1]? = some (.cells #[.int .i64 0, .int .i64 0, .slice none 0 0] 24 (0, 0)) := by
    have := heap_alloc_new (w.alloc (.cells #[.int .i64 q, .int .i64 b, .slice ao n k] 24)) (.cells #[.int .i64 0, .int .i64 0, .slice none 0 0] 24)
    rw [World.size_alloc] at this
    exact this
  have B0 : Below w.heap.size w ((w.alloc (.cells #[.int .i64 q, .int .i64 b, .slice ao n k] 24)).alloc (.cells #[.int .i64 0, .int .i64 0, .slice none 0 0] 24)) := (bnew _ _).trans ((bnew _ _).mono (by simp))
  obtain ⟨x0, x1, x2, x3⟩ := def_cells r0
  go_enter Tryd.func24, Tryd.ntmps24
  go_wp2_with (first
    | (go_at_call 8; refine (c1.out _ B0).mono ?_; rintro e V1 ⟨a1, ca1, rfl, hn1, hb1⟩; have r1 := kq hb1 r0; have q1 := kq hb1 q0; have B1 := B0.trans (hb1.mono B0.size); clear x0 x1 x2 x3; obtain ⟨x0, x1, x2, x3⟩ := def_cells r1)
    | (go_at_call 17; refine (c2.out _ B1).mono ?_; rintro e V2 ⟨rfl, hb2⟩; have r2 := kq hb2 r1; have q2 := kq hb2 q1; have B2 := B1.trans (hb2.mono B1.size); have hn2 := hn1.below hb2))
  have HR2 := hide r2
  have HQ2 := hide q2
  have HN2 := hide hn2
  have HB2 := hide B2
  clear x0 x1 x2 x3 r0 r1 r2 q0 q1 q2 B0 B1 B2 hb1 hb2 hn1 hn2 c1 c2
  go_loopg [8, 9, 10, 11] (D + 1) (fun kx s8 s9 _ _ wr => ∃ (d : Nat) (oo : Option Addr) (oc m : Nat) (l : List Int), s8 = .slice oo m oc /\ s9 = .int .i64 (d : Int) /\ d <= D + 1 /\ D + 1 - d <= kx /\ Hid (l = nI (ol ops f n d)) /\ Hid (l.length = m) /\ Hid (wr.ownsRow V2.heap.size 3 1 (.slice oo m oc) m (l.map (Value.int .i64))) /\ Hid (Below V2.heap.size V2 wr))
  case atStart => exact ⟨0, none, 0, 0, [], rfl, rfl, Nat.zero_le _, Nat.le_refl _, hide rfl, hide rfl, hide (World.ownsRow_nil _ _ _ _), hide (Below.refl _ _)⟩
  case round =>
    obtain ⟨d, oo, oc, m, l, rfl, rfl, hdD, hkx, HL, HLM, HO, HBW⟩ := hrel
    by_cases hlt : d <= D
    . have d1 : decide ((d : Int) <= (D : Int)) = true := decide_eq_true (by omega)
      have r1 : IntKind.i64.wrap ((d : Int) + 1) = (d : Int) + 1 := by rw [IntKind.wrap_i64]; omega
      go_wp2_with fail
      go_loopg [8, 10, 11] (2) (fun ky s8 s10 _ wy => ∃ (t : Nat) (oo : Option Addr) (oc m : Nat) (l : List Int), s8 = .slice oo m oc /\ s10 = .int .i64 (t : Int) /\ t <= 2 /\ 2 - t <= ky /\ Hid (l = nI (if t = 2 then ol ops f n (d + 1) else om ops f n d t 0)) /\ Hid (l.length = m) /\ Hid (wy.ownsRow V2.heap.size 3 1 (.slice oo m oc) m (l.map (Value.int .i64))) /\ Hid (Below V2.heap.size V2 wy))
      case atStart => exact ⟨0, oo, oc, m, l, rfl, rfl, by omega, by omega, hide (by rw [if_neg (by omega), om, oi, List.append_nil]; exact HL.out), HLM, HO, HBW⟩
      case round =>
        clear HL HLM HO HBW
        obtain ⟨t, oo, oc, m, l, rfl, rfl, ht2, hky, HL, HLM, HO, HBW⟩ := hrel
        by_cases hlt2 : t < 2
        . have d2 : decide ((t : Int) < 2) = true := decide_eq_true (by omega)
          have r2 : IntKind.i64.wrap ((t : Int) + 1) = (t : Int) + 1 := by rw [IntKind.wrap_i64]; omega
          have HL0 : Hid (l = nI (om ops f n d t 0)) := hide (by rw [HL.out, if_neg (by omega)])
          go_wp2_with fail
          go_loopg [8, 11] (n) (fun kz s8 s11 wz => ∃ (i : Nat) (oo : Option Addr) (oc m : Nat) (l : List Int), s8 = .slice oo m oc /\ s11 = .int .i64 (i : Int) /\ i <= n /\ n - i <= kz /\ Hid (l = nI (om ops f n d t i)) /\ Hid (l.length = m) /\ Hid (wz.ownsRow V2.heap.size 3 1 (.slice oo m oc) m (l.map (Value.int .i64))) /\ Hid (Below V2.heap.size V2 wz))
          case atStart => exact ⟨0, oo, oc, m, l, rfl, rfl, Nat.zero_le _, Nat.le_refl _, HL0, HLM, HO, HBW⟩
          case round =>
            clear HL HL0 HLM HO HBW
            obtain ⟨i, oo, oc, m, l, rfl, rfl, hin, hkz, HL, HLM, HO, HBW⟩ := hrel
            have hBw : Below w.heap.size w wr := HB2.out.trans (HBW.out.mono HB2.out.size)
            have hmn : m <= n := by
              rw [← HLM.out, HL.out]
              unfold nI
              rw [List.length_map]
              exact om_len hin
            by_cases h : i < n
            . have d3 : decide ((i : Int) < (n : Int)) = true := decide_eq_true (by omega)
              have d4 : (i : Int) < (n : Int) := by omega
              obtain ⟨g1, o1, rfl, k1⟩ := ns_cell (HN2.out.below HBW.out) (rng_at f n i h)
              have k2 := World.block_lt_of_cell? _ _ k1
              obtain ⟨x0, x1, x2, x3⟩ := def_cells (kq HBW.out HR2.out)
              have cb1 := c3.out wr i h hBw
              have HST := hide (om_step ops f n d i t hlt2)
              by_cases e1 : f i = (d : Int)
              . rw [e1] at k1
                by_cases e4 : (oa ops i).kind = 4
                . by_cases t1 : t = 1
                  . rw [decide_eq_true e4] at cb1
                    have te : ((t : Int) == 1) = true := by simp; omega
                    have td : decide (t = 1) = true := decide_eq_true (by omega)
                    clear t1
                    have HL2 : Hid (l ++ [(i : Int)] = nI (om ops f n d t (i + 1))) := hide (by rw [HST.out, if_pos ⟨e1, by rw [decide_eq_true e4, td]⟩, HL.out]; unfold nI; rw [List.map_append]; rfl)
                    clear td
                    go_wp2_with (first
                      | (go_at_call 32; refine cb1.mono ?_; rintro e w3 ⟨rfl, hb3⟩; have HB3 := hide hb3; have HO3 := hide (own_below HO.out hb3); clear hb3)
                      | (at_builtin; refine app1_list (w := w3) rfl (.tmp 55) (.tmp 57) rfl HO3.out (Nat.le_trans HBW.out.size HB3.out.size) (i : Int) (by omega) (by rfl) (by rfl) ?_; intro g6 c6 w6 hown hgr hat; have HO6 := hide hown; have HG6 := hide hgr; clear hown hgr hat))
                    go_roundg (n - (i + 1))
                    case measure => omega
                    case rel =>
                      have hb3 : Below V2.heap.size V2 w3 := HBW.out.trans (HB3.out.mono HBW.out.size)
                      exact ⟨i + 1, some ⟨g6, 0, none⟩, c6, m + 1, l ++ [(i : Int)], rfl, by congr 1, by omega, Nat.le_refl _, HL2, hide (by rw [List.length_append, HLM.out]; rfl), HO6, hide (hb3.grown HG6.out hb3.size (fun x hx => (own_lt HO3.out x hx).1))⟩
                  . rw [decide_eq_true e4] at cb1
                    have te : ((t : Int) == 1) = false := by simp; omega
                    have td : decide (t = 1) = false := decide_eq_false (by omega)
                    have HL2 : Hid (l = nI (om ops f n d t (i + 1))) := hide (by rw [HST.out, if_neg (fun h => by have h2 := h.2; rw [decide_eq_true e4, td] at h2; cases h2)]; exact HL.out)
                    clear td
                    go_wp2_with (go_at_call 32; refine cb1.mono ?_; rintro e w3 ⟨rfl, hb3⟩; have HB3 := hide hb3; clear hb3)
                    go_roundg (n - (i + 1))
                    case measure => omega
                    case rel => exact ⟨i + 1, oo, oc, m, l, rfl, by congr 1, by omega, Nat.le_refl _, HL2, HLM, hide (own_below HO.out HB3.out), hide (HBW.out.trans (HB3.out.mono HBW.out.size))⟩
                . by_cases t1 : t = 1
                  . rw [decide_eq_false e4] at cb1
                    have te : ((t : Int) == 1) = true := by simp; omega
                    have td : decide (t = 1) = true := decide_eq_true (by omega)
                    clear t1
                    have HL2 : Hid (l = nI (om ops f n d t (i + 1))) := hide (by rw [HST.out, if_neg (fun h => by have h2 := h.2; rw [decide_eq_false e4, td] at h2; cases h2)]; exact HL.out)
                    clear td
                    go_wp2_with (go_at_call 32; refine cb1.mono ?_; rintro e w3 ⟨rfl, hb3⟩; have HB3 := hide hb3; clear hb3)
                    go_roundg (n - (i + 1))
                    case measure => omega
                    case rel => exact ⟨i + 1, oo, oc, m, l, rfl, by congr 1, by omega, Nat.le_refl _, HL2, HLM, hide (own_below HO.out HB3.out), hide (HBW.out.trans (HB3.out.mono HBW.out.size))⟩
                  . rw [decide_eq_false e4] at cb1
                    have te : ((t : Int) == 1) = false := by simp; omega
                    have td : decide (t = 1) = false := decide_eq_false (by omega)
                    have HL2 : Hid (l ++ [(i : Int)] = nI (om ops f n d t (i + 1))) := hide (by rw [HST.out, if_pos ⟨e1, by rw [decide_eq_false e4, td]⟩, HL.out]; unfold nI; rw [List.map_append]; rfl)
                    clear td
                    go_wp2_with (first
                      | (go_at_call 32; refine cb1.mono ?_; rintro e w3 ⟨rfl, hb3⟩; have HB3 := hide hb3; have HO3 := hide (own_below HO.out hb3); clear hb3)
                      | (at_builtin; refine app1_list (w := w3) rfl (.tmp 55) (.tmp 57) rfl HO3.out (Nat.le_trans HBW.out.size HB3.out.size) (i : Int) (by omega) (by rfl) (by rfl) ?_; intro g6 c6 w6 hown hgr hat; have HO6 := hide hown; have HG6 := hide hgr; clear hown hgr hat))
                    go_roundg (n - (i + 1))
                    case measure => omega
                    case rel =>
                      have hb3 : Below V2.heap.size V2 w3 := HBW.out.trans (HB3.out.mono HBW.out.size)
                      exact ⟨i + 1, some ⟨g6, 0, none⟩, c6, m + 1, l ++ [(i : Int)], rfl, by congr 1, by omega, Nat.le_refl _, HL2, hide (by rw [List.length_append, HLM.out]; rfl), HO6, hide (hb3.grown HG6.out hb3.size (fun x hx => (own_lt HO3.out x hx).1))⟩
              . have e2 : (f i == (d : Int)) = false := by simpa using e1
                have HL2 : Hid (l = nI (om ops f n d t (i + 1))) := hide (by rw [HST.out, if_neg (fun h => e1 h.1)]; exact HL.out)
                clear cb1
                generalize f i = fi at *
                go_wp2_with fail
                go_roundg (n - (i + 1))
                case measure => omega
                case rel => exact ⟨i + 1, oo, oc, m, l, rfl, by congr 1, by omega, Nat.le_refl _, HL2, HLM, HO, HBW⟩
            . obtain rfl : i = n := by omega
              have d3 : decide ((i : Int) < (i : Int)) = false := decide_eq_false (by omega)
              go_wp2_with fail
              go_roundg (2 - (t + 1))
              case measure => omega
              case rel =>
                refine ⟨t + 1, oo, oc, m, l, rfl, by congr 1, by omega, Nat.le_refl _, hide ?_, HLM, HO, HBW⟩
                rw [HL.out]
                congr 1
                rcases (show t = 0 ∨ t = 1 by omega) with rfl | rfl
                . rw [if_neg (by omega), om, om, oi, List.append_nil]
                . rw [if_pos rfl, om, ol]
        . have d2 : decide ((t : Int) < 2) = false := decide_eq_false (by omega)
          go_wp2_with fail
          go_roundg (D + 1 - (d + 1))
          case measure => omega
          case rel => exact ⟨d + 1, oo, oc, m, l, rfl, by congr 1, by omega, Nat.le_refl _, hide (by rw [HL.out, if_pos (by omega)]), HLM, HO, HBW⟩
    . have d1 : decide ((d : Int) <= (D : Int)) = false := decide_eq_false (by omega)
      obtain rfl : d = D + 1 := by omega
      have hBw : Below w.heap.size w wr := HB2.out.trans (HBW.out.mono HB2.out.size)
      obtain ⟨x0, x1, x2, x3⟩ := def_cells (kq HBW.out HR2.out)
      have hlp : l = nI p := by rw [HL.out, HOL.out]
      have hmn : m = n := by rw [← HLM.out, hlp]; unfold nI; rw [List.length_map]; exact HPL.out
      have hq3 := kq HBW.out HQ2.out
      have hns : Ns wr oo (nI p) := by rw [← hlp]; exact own_nsl HO.out
      subst hmn
      have c5 := c4.out wr oo oc hBw hns
      have HQ3 := hide hq3
      have HBw := hide hBw
      clear hq3 hns hlp HO HL HLM hBw
      go_wp2_with (first
        | (go_at_call 45; refine Calls.mono c5 ?_; rintro e w8 ⟨bo, j, rfl, hC8, hb8⟩; have HZ8 := hide (kq hb8 HQ3.out); have HC8 := hide hC8; have HB8 := hide (HBw.out.trans (hb8.mono HBw.out.size)); clear hC8 hb8 c5)
        | refine wpList_store_row rfl _ _ _ rfl (w.heap.size + 1) _ (by rfl) (by rfl) _ _ HZ8.out (by exact infoC3) (by rfl) (by simp [Value.oneCell']) ?_)
      refine bodyPost_ret (res_ct rfl _ _ (w.heap.size + 1) _ _ _ (.int .i64 0) (by rfl) (by rfl) (setRow_heap _ _ _ _ _ _ HZ8.out) Tryd.underlying24 rfl (by exact infoC3)) rfl ?_
      exact ⟨bo, j, rfl, (HC8.out.base HBw.out.size).row HZ8.out (by decide) (by decide) _, Below.row HB8.out _ _ (by omega)⟩
end Go.Proofs.YthndpbjplcphpaaDoor.Lay
