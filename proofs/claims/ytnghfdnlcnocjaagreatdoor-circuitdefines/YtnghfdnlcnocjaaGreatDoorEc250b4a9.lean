import Derived.Test.YtnghfdnlcnocjaaGreatDoorE35830c2a
set_option maxRecDepth 100000
set_option maxHeartbeats 2000000
namespace Go.Proofs.YtnghfdnlcnocjaaGreatDoor.Cir
open Go.RowKit Go.Shelf Go.Proofs.YtnghfdnlcnocjaaGreatDoor.Oct Go.Proofs.YtnghfdnlcnocjaaGreatDoor.Tok Go.Proofs.YtnghfdnlcnocjaaGreatDoor.Gt
theorem range_iv (i : Nat) : (List.range (i + 1)).map iv = (List.range i).map iv ++ [.int .i64 (i : Int)] := by
  rw [List.range_succ, List.map_append]
  rfl
theorem pk_range (l : List Nat) : pk l (List.range l.length) = l := by
  refine List.ext_getElem? fun j => ?_
  unfold pk
  rw [List.getElem?_map]
  by_cases h : j < l.length
  . rw [List.getElem?_range h, List.getElem?_eq_getElem h]
    simp [List.getD, h]
  . rw [List.getElem?_eq_none (by simpa using h), List.getElem?_eq_none (by omega)]
    rfl
theorem cSingle (kind gate n : Nat) (hn : n <= 4398046511104) (w : World) : Calls Tryz.prog 133 #[.int .i64 (kind : Int), .int .i64 (gate : Int), .int .i64 (n : Int)] w fun e w' => ∃ u, e = .returned u /\ DefS w' w'.heap.size (sng kind gate n) u /\ Below w.heap.size w w' := by
  go_enter Tryz.func133, Tryz.ntmps133
  go_wp2_with fail
  go_loopw [13] (fun v wr => ∃ (i : Nat) (ao : Option Addr) (c : Nat), v = .int .i64 (i : Int) /\ i <= n /\ wr.heap[w.heap.size + 1]? = some (.cells #[.int .i64 (kind : Int), .int .i64 (gate : Int), .slice none 0 0, .slice ao i c] 222 (0, 0)) /\
      wr.heap[w.heap.size]? = some (.cells #[.int .i64 0, .int .i64 0, .slice none 0 0] 174 (0, 0)) /\ wr.ownsRow (w.heap.size + 2) 3 1 (.slice ao i c) i ((List.range i).map iv) /\ Below w.heap.size w wr) (fun v _ => n - (Go.RowKit.intOf v).toNat)
  case atStart =>
    refine ⟨0, none, 0, rfl, Nat.zero_le _, ?_, ?_, World.ownsRow_nil _ _ _ _, (bnew _ _).trans ((bnew _ _).mono (by simp))⟩
    . have := heap_alloc_new (w.alloc (.cells #[.int .i64 0, .int .i64 0, .slice none 0 0] 174)) (.cells #[.int .i64 (kind : Int), .int .i64 (gate : Int), .slice none 0 0, .slice none 0 0] 222)
      simpa using this
    . exact (Below.heap_alloc _ _ _ (by simp)).trans (heap_alloc_new _ _)
  case round =>
    obtain ⟨i, ao, c, rfl, hi, h1, h2, hown, hb⟩ := hrel
    have hsz : w.heap.size + 2 <= wr.heap.size := by
      have := (Array.getElem?_eq_some_iff.1 h1).1
      omega
    by_cases h : i < n
    . have hdd : decide ((i : Int) < (n : Int)) = true := decide_eq_true (by omega)
      have k3 : wr.cell? ⟨w.heap.size + 1, 3, none⟩ = some (.slice ao i c) := cell_of_row _ _ 3 _ _ _ h1
      have hlt : w.heap.size + 1 < wr.heap.size := by omega
      go_wp2_with (at_builtin; refine push rfl _ _ 32 rfl 3 Tryz.underlying32 _ 1 8 infoI rfl (by decide) (w.heap.size + 2) ao i c _ rfl hown [.int .i64 (i : Int)] _ rfl rfl (by simp [Value.oneCell']) _ rfl rfl (by omega) (by omega) hsz ?_)
      intro g cap w6 hown6 hgrow6 hat6
      have hne1 : some (w.heap.size + 1) ≠ ob ao := fun e => by have := (own_lt hown _ e.symm).1; omega
      have hne2 : some w.heap.size ≠ ob ao := fun e => by have := (own_lt hown _ e.symm).1; omega
      have g1 := (hgrow6.block _ (by omega) hne1).trans h1
      have g2 := (hgrow6.block _ (by omega) hne2).trans h2
      have gb := hb.grown hgrow6 hb.size (fun k hk => by have := (own_lt hown k hk).1; omega)
      have e3 : w6.cell? ⟨w.heap.size + 1, 3, none⟩ = some (.slice ao i c) := cell_of_row _ _ 3 _ _ _ g1
      have ez : w6.frozen? ⟨w.heap.size + 1, 3, none⟩ = false := by simp [World.frozen?, g1]
      have hgg : g ≠ w.heap.size + 1 := by have := own_lt hown6 g rfl; omega
      clear k3
      go_wp2_with fail
      go_roundw
      case rel =>
        refine ⟨i + 1, some ⟨g, 0, none⟩, cap, by go_num, by omega, ?_, ?_, ?_, gb.setCell (by simp) _⟩
        . rw [setCell_eq_setRow _ _ 3 _ _ _ _ g1]
          exact setRow_heap _ _ _ _ _ _ g1
        . exact (Below.heap_setCell _ _ _ _ (by simp)).trans g2
        . rw [range_iv]
          exact own_of_block hown6 (fun k hk => Below.heap_setCell _ _ _ _ (by simp [ob] at hk; subst hk; exact hgg))
      case measure => simp [Go.RowKit.intOf]; omega
    . obtain rfl : n = i := by omega
      have k0 : wr.cell? ⟨w.heap.size + 1, 0, none⟩ = some (.int .i64 (kind : Int)) := cell_of_row _ _ 0 _ _ _ h1
      have k1 : wr.cell? ⟨w.heap.size + 1, 1, none⟩ = some (.int .i64 (gate : Int)) := cell_of_row _ _ 1 _ _ _ h1
      have k2 : wr.cell? ⟨w.heap.size + 1, 2, none⟩ = some (.slice none 0 0) := cell_of_row _ _ 2 _ _ _ h1
      have k3 : wr.cell? ⟨w.heap.size + 1, 3, none⟩ = some (.slice ao n c) := cell_of_row _ _ 3 _ _ _ h1
      have hA := (Below.heap_alloc wr (.cells #[.int .i64 (kind : Int), .int .i64 (gate : Int), .slice none 0 0, .slice ao n c] 222) w.heap.size (by omega)).trans h2
      go_wp2_with (refine wpList_store_row rfl _ _ _ rfl w.heap.size _ rfl rfl _ _ hA (by exact infoDf) (by rfl) (by simp [Value.oneCell']) ?_)
      refine bodyPost_ret (results_c rfl _ _ w.heap.size _ _ _ _ rfl (setRow_heap _ _ _ _ _ _ hA) Tryz.underlying174 rfl (by exact infoDf)) rfl ?_
      have hI : Is (wr.alloc (.cells #[.int .i64 (kind : Int), .int .i64 (gate : Int), .slice none 0 0, .slice ao n c] 222)) (.slice ao n c) (List.range n) := by
        have := Is.of_own (l := List.range n) (ao := ao) (c := c) (B := w.heap.size + 2) (w := wr) (by rw [List.length_range]; exact hown)
        rw [List.length_range] at this
        exact this.below (bnew _ _)
      refine ⟨_, rfl, ⟨some ⟨wr.heap.size, 0, none⟩, 1, rfl, ⟨some ⟨wr.heap.size, 0, none⟩, 1, [⟨kind, gate, .slice none 0 0, .slice ao n c, [⟨kind, gate, List.range n⟩]⟩], rfl, rfl, rfl, ?_, .inr ⟨wr.heap.size, 0, #[.int .i64 (kind : Int), .int .i64 (gate : Int), .slice none 0 0, .slice ao n c], (0, 0), rfl, by simp [World.setRow], ?_, ?_⟩⟩, hn, by simp [sng]⟩, ?_⟩
      . intro s hs
        rw [List.mem_singleton] at hs
        subst hs
        refine ⟨List.range n, ?_, fun i hi => List.mem_range.1 hi, by rw [List.length_range]; exact hn, .inl ⟨⟨none, 0, rfl⟩, rfl⟩⟩
        refine (hI.b.mono (by simp [World.setRow])).block fun g _ cs fr hg => setRow_other _ _ _ _ ?_
        intro e
        rw [e, hA] at hg
        simp at hg
      . refine (setRow_other _ _ _ _ (by omega)).trans ?_
        exact heap_alloc_new _ _
      . intro j u hu
        rw [Nat.zero_add]
        simpa [Sx.cells, iv] using hu
      . exact below_setRow (hb.trans ((bnew _ _).mono hb.size)) (Nat.le_refl _) _
theorem ofG_ok (l : List UInt8) : ∀ (n i : Nat), i + n = 20 -> (ofG l n i = (0, 60)) ∨ ∃ k : Nat, 1 <= k /\ k <= 20 /\ ofG l n i = ((k : Int), 0)
  | 0, _, _ => .inl rfl
  | n + 1, i, h => by
    rw [ofG]
    split
    . exact .inr ⟨i + 1, by omega, by omega, rfl⟩
    . exact ofG_ok l n (i + 1) (by omega)
theorem ofP_ok (l : List UInt8) : (ofP l = (0, 60)) ∨ ∃ k : Nat, 1 <= k /\ k <= 20 /\ ofP l = ((k : Int), 0) := ofG_ok l 20 0 rfl
theorem rw_q (k : Nat) (h : k <= 20) : (rw' (k : Int)).q = ((rw' (k : Int)).q.toNat : Int) /\ (rw' (k : Int)).q.toNat <= 3 := by
  have : ∀ j : Fin 21, (rw' ((j : Nat) : Int)).q = ((rw' ((j : Nat) : Int)).q.toNat : Int) /\ (rw' ((j : Nat) : Int)).q.toNat <= 3 := by decide +kernel
  exact this ⟨k, by omega⟩
def GPost (B : Nat) (d : Dc) (x : Nm) (w : World) (e : Ending) (w' : World) : Prop := ∃ (a b : Int) (ao : Option Addr) (k c : Nat), e = .returned (.tuple #[.agg #[.int .i64 a, .int .i64 b, .slice ao k c], .bool (gOfD d x).isSome]) /\ Below w.heap.size w w' /\ ∀ g, gOfD d x = some g -> DefD w' B w'.heap.size g (.agg #[.int .i64 a, .int .i64 b, .slice ao k c])
theorem zDef (w : World) : (zeroValue 174).run Tryz.prog w = .ok (.agg #[.int .i64 0, .int .i64 0, .slice none 0 0]) w := by kernel_rfl
theorem DM.look {w : World} {B b N : Nat} {f : Nm -> Option Df} (h : DM w B b N f) (x : Nm) (hx : x.length <= 140737488355328) :
    ∃ (a c : Int) (ao : Option Addr) (k m : Nat), (Instr.lookup 63 (.map (some b)) (.string ⟨x.toArray⟩) true).run Tryz.prog w = .ok (.tuple #[.agg #[.int .i64 a, .int .i64 c, .slice ao k m], .bool (f x).isSome]) w /\ ∀ g, f x = some g -> DefV w B g (.agg #[.int .i64 a, .int .i64 c, .slice ao k m]) := by
  obtain ⟨vs, h1, h2⟩ := h
  obtain ⟨h3, h4⟩ := h2 x
  rw [h1.look Tryz.underlying63 (zDef w) x hx, h3]
  cases hf : f x with
  | none =>
    rw [hf] at h3
    cases hv : vs x with
    | none => exact ⟨0, 0, none, 0, 0, rfl, fun g hg => by cases hg⟩
    | some u => rw [hv] at h3; cases h3
  | some g =>
    rw [hf] at h3
    cases hv : vs x with
    | none => rw [hv] at h3; cases h3
    | some u =>
      have h5 := h4 g u hf hv
      obtain ⟨d, ao, k, c, rfl, h6⟩ := id h5
      exact ⟨_, _, ao, k, c, rfl, fun g' hg' => by cases hg'; exact h5⟩
theorem cGateOf (R B md N : Nat) (d : Dc) (x : Nm) (hx : x.length <= 140737488355328) (w : World) (hB : B <= w.heap.size) (hT : Tb w) (hc : w.cell? ⟨R, 6, none⟩ = some (.map (some md))) (hM : DM w B md N d.defs) :
    Calls Tryz.prog 140 #[.pointer (some ⟨R, 0, none⟩), .string ⟨x.toArray⟩] w (GPost B d x w) := by
  have hA : (w.alloc (.cells #[.int .i64 0, .int .i64 0, .slice none 0 0] 174)).heap[w.heap.size]? = some (.cells #[.int .i64 0, .int .i64 0, .slice none 0 0] 174 (0, 0)) := heap_alloc_new _ _
  have c1 := fun o => gOf x (w.alloc o) (hT.below (bnew _ _))
  have hlt : R < w.heap.size := World.block_lt_of_cell? w _ hc
  rcases ofP_ok x with h0 | ⟨k, hk1, hk2, h0⟩
  . rw [h0] at c1
    have hg : gOfD d x = d.defs x := by unfold gOfD; rw [h0]; rfl
    unfold GPost
    rw [hg]
    have hML := fun W (hW : Below w.heap.size w W) => (hM.below hW).look x hx
    have HB := hide hB
    generalize (d.defs x).isSome = bb at *
    generalize (⟨x.toArray⟩ : ByteArray) = s at *
    clear hM h0 hg hB
    go_enter Tryz.func140, Tryz.ntmps140
    go_wp2_with (first
      | (go_at_call 156; refine (c1 _).mono ?_; rintro e w1 ⟨rfl, hb1⟩; obtain ⟨a, b, ao, k, c, hL, hD⟩ := hML w1 ((bnew _ _).trans (hb1.mono (by simp))); obtain ⟨hc1, hf1⟩ := bcell hb1; have hA1 := (Below.heap_alloc w1 (.cells #[.int .i64 a, .int .i64 b, .slice ao k c] 174) w.heap.size (by have := hb1.size; simp at this; omega)).trans ((hb1.block w.heap.size (by simp)).trans hA))
      | refine wpList_store_row rfl _ _ _ rfl w.heap.size _ rfl rfl _ _ hA1 (by exact infoDf) (by rfl) (by simp [Value.oneCell']) ?_)
    refine bodyPost_ret (results_ct rfl _ _ w.heap.size _ _ _ _ rfl (setRow_heap _ _ _ _ _ _ hA1) Tryz.underlying174 rfl (by exact infoDf)) rfl ?_
    have hbw : Below w.heap.size w w1 := (bnew _ _).trans (hb1.mono (by simp))
    refine ⟨a, b, ao, k, c, rfl, below_setRow (hbw.trans ((bnew _ _).mono hbw.size)) (Nat.le_refl _) _, fun g hg => ?_⟩
    have hD2 := (hD g hg).below (bnew w1 (.cells #[.int .i64 a, .int .i64 b, .slice ao k c] 174))
    have hHB := HB.out
    have hD3 : DefV ((w1.alloc (.cells #[.int .i64 a, .int .i64 b, .slice ao k c] 174)).setRow w.heap.size #[.int .i64 a, .int .i64 b, .slice ao k c]) B g (.agg #[.int .i64 a, .int .i64 b, .slice ao k c]) := by
      obtain ⟨d', ao', k', c', e1, e2, e3⟩ := hD2
      exact ⟨d', ao', k', c', e1, SpAt.block (fun g hg cs fr _ => setRow_other _ _ _ _ (by omega)) (fun g hg cs fr _ => setRow_other _ _ _ _ (by omega)) _ _ _ _ _ e2, e3⟩
    exact ⟨hD3.mono (by have := hbw.size; simp [World.setRow]; omega), .inr hD3⟩
  . rw [h0] at c1
    have hq := rw_q k hk2
    have hg : gOfD d x = some (sng 1 k (rw' (k : Int)).q.toNat) := by unfold gOfD; rw [h0]; simp
    unfold GPost
    rw [hg]
    have c2 := fun W (hW : Tb W) => gArity (k : Int) W hW
    have c3 := fun W => cSingle 1 k (rw' (k : Int)).q.toNat (by omega) W
    rw [hq.1] at c2
    generalize (rw' (k : Int)).q.toNat = q at *
    generalize (⟨x.toArray⟩ : ByteArray) = s at *
    clear h0 hg hc hM hq
    go_enter Tryz.func140, Tryz.ntmps140
    go_wp2_with (first
      | (go_at_call 156; refine (c1 _).mono ?_; rintro e w1 ⟨rfl, hb1⟩)
      | (go_at_call 42; refine (c2 w1 (hT.below ((bnew _ _).trans (hb1.mono (by simp))))).mono ?_; rintro e w2 ⟨rfl, hb2⟩)
      | (go_at_call 133; refine (c3 _).mono ?_; rintro e w3 ⟨u, rfl, ⟨ao', c', rfl, hS⟩, hb3⟩; have hz1 := hb1.size; have hz2 := hb2.size; have hA1 := (hb3.block _ (by simp at hz1; omega)).trans ((hb2.block _ (by simp at hz1; omega)).trans ((hb1.block w.heap.size (by simp)).trans hA)))
      | refine wpList_store_row rfl _ _ _ rfl w.heap.size _ rfl rfl _ _ hA1 (by exact infoDf) (by rfl) (by simp [Value.oneCell', iv]) ?_)
    refine bodyPost_ret (results_ct rfl _ _ w.heap.size _ _ _ _ rfl (setRow_heap _ _ _ _ _ _ hA1) Tryz.underlying174 rfl (by exact infoDf)) rfl ?_
    have hbw : Below w.heap.size w w3 := (((bnew _ _).trans (hb1.mono (by simp))).trans (hb2.mono (by simp at hz1; omega))).trans (hb3.mono (by simp at hz1; omega))
    refine ⟨_, _, _, _, _, rfl, below_setRow hbw (Nat.le_refl _) _, fun g hg => ?_⟩
    cases hg
    refine (fun h => ⟨DefS.v h, .inl h⟩) ⟨ao', c', rfl, ?_, hS.2⟩
    refine SpAt.mono (by simp [World.setRow]) (by simp [World.setRow]) _ _ _ _ _ (SpAt.block (fun g _ cs fr hg => setRow_other _ _ _ _ ?_) (fun g hg cs fr hh => setRow_other _ _ _ _ ?_) _ _ _ _ _ hS.1)
    . intro e
      rw [e, hA1] at hg
      simp at hg
    . intro e
      rw [e, hA1] at hh
      simp at hh
theorem cTaken (R B mq mb md N : Nat) (d : Dc) (x : Nm) (hx : x.length <= 140737488355328) (w : World) (hB : B <= w.heap.size) (hT : Tb w) (hq : w.cell? ⟨R, 0, none⟩ = some (.map (some mq))) (hb : w.cell? ⟨R, 3, none⟩ = some (.map (some mb)))
    (hc : w.cell? ⟨R, 6, none⟩ = some (.map (some md))) (hQ : RM w mq d.q.find) (hBk : RM w mb d.b.find) (hM : DM w B md N d.defs) :
    Calls Tryz.prog 129 #[.pointer (some ⟨R, 0, none⟩), .string ⟨x.toArray⟩] w fun e w' => e = .returned (.bool (taken d x)) /\ Below w.heap.size w w' := by
  have c1 := cGateOf R B md N d x hx w hB hT hc hM
  have c2 := fun W (h : W.cell? ⟨R, 0, none⟩ = some (.map (some mq))) (h2 : RM W mq d.q.find) => cHas R 0 mq d.q.find x hx W h h2
  have c3 := fun W (h : W.cell? ⟨R, 3, none⟩ = some (.map (some mb))) (h2 : RM W mb d.b.find) => cHas R 3 mb d.b.find x hx W h h2
  have hlt : R < w.heap.size := World.block_lt_of_cell? w _ hc
  have hB2 : ∀ W, Below w.heap.size w W -> W.cell? ⟨R, 0, none⟩ = some (.map (some mq)) /\ RM W mq d.q.find /\ W.cell? ⟨R, 3, none⟩ = some (.map (some mb)) /\ RM W mb d.b.find := fun W hW =>
    ⟨(hW.cell hlt).trans hq, hQ.below hW, (hW.cell hlt).trans hb, hBk.below hW⟩
  have HB2 := hide hB2
  unfold GPost at c1
  unfold taken
  generalize (gOfD d x).isSome = b1 at *
  generalize (d.q.find x).isSome = b2 at *
  generalize (d.b.find x).isSome = b3 at *
  generalize (⟨x.toArray⟩ : ByteArray) = s at *
  clear hq hb hc hM hQ hBk hB2 hB
  cases b1 with
  | true =>
    go_enter Tryz.func129, Tryz.ntmps129
    go_wp2_with (first
      | (go_at_call 140; refine c1.mono ?_; rintro e w1 ⟨a, b, ao, k, c, rfl, hb1, -⟩))
    go_ret
    exact ⟨by simp, hb1.trans ((bnew _ _).mono hb1.size)⟩
  | false =>
    cases b2 with
    | true =>
      go_enter Tryz.func129, Tryz.ntmps129
      go_wp2_with (first
        | (go_at_call 140; refine c1.mono ?_; rintro e w1 ⟨a, b, ao, k, c, rfl, hb1, -⟩)
        | (go_at_call 136; refine (c2 (w1.alloc (.cells #[.int .i64 a, .int .i64 b, .slice ao k c] 174)) (HB2.out _ (hb1.trans ((bnew _ _).mono hb1.size))).1 (HB2.out _ (hb1.trans ((bnew _ _).mono hb1.size))).2.1).mono ?_; rintro e w2 ⟨rfl, hb2⟩))
      go_ret
      have hb1' : Below w.heap.size w (w1.alloc (.cells #[.int .i64 a, .int .i64 b, .slice ao k c] 174)) := hb1.trans ((bnew _ _).mono hb1.size)
      exact ⟨by simp, hb1'.trans (hb2.mono hb1'.size)⟩
    | false =>
      go_enter Tryz.func129, Tryz.ntmps129
      go_wp2_with (first
        | (go_at_call 140; refine c1.mono ?_; rintro e w1 ⟨a, b, ao, k, c, rfl, hb1, -⟩; have hb1' : Below w.heap.size w (w1.alloc (.cells #[.int .i64 a, .int .i64 b, .slice ao k c] 174)) := hb1.trans ((bnew _ _).mono hb1.size))
        | (go_at_call_of 136 (Value.pointer (some ⟨R, 0, none⟩)); refine (c2 (w1.alloc (.cells #[.int .i64 a, .int .i64 b, .slice ao k c] 174)) (HB2.out _ hb1').1 (HB2.out _ hb1').2.1).mono ?_; clear c2; rintro e w2 ⟨rfl, hb2⟩; have hb2' : Below w.heap.size w w2 := hb1'.trans (hb2.mono hb1'.size))
        | (go_at_call 136; refine (c3 w2 (HB2.out _ hb2').2.2.1 (HB2.out _ hb2').2.2.2).mono ?_; rintro e w3 ⟨rfl, hb3⟩))
      go_ret
      exact ⟨by simp, hb2'.trans (hb3.mono hb2'.size)⟩
end Go.Proofs.YtnghfdnlcnocjaaGreatDoor.Cir
