import Derived.Test.YtaggifpnamjghaaDoorKdbd3ee1e
import Derived.Test.YtaggifpnamjghaaDoorKa8c293d9
set_option maxRecDepth 100000
set_option maxHeartbeats 4000000
namespace Go.Proofs.YtaggifpnamjghaaDoor.Tbl
open Go.RowKit Go.Shelf Go.Proofs.YtaggifpnamjghaaDoor.Pau Go.Proofs.YtaggifpnamjghaaDoor.Gt
structure Bx (g : Nat) (w w' : World) : Prop where
  os : w'.os = w.os
  tape : w'.tape = w.tape
  output : w'.output = w.output
  size : w.heap.size <= w'.heap.size
  block : ∀ k, k < w.heap.size -> k ≠ g -> w'.heap[k]? = w.heap[k]?
theorem Bx.refl (g : Nat) (w : World) : Bx g w w := ⟨rfl, rfl, rfl, Nat.le_refl _, fun _ _ _ => rfl⟩
theorem Bx.of_below {g : Nat} {w w' : World} (h : Below w.heap.size w w') : Bx g w w' := ⟨h.os, h.tape, h.output, h.size, fun k hk _ => h.block k hk⟩
theorem Bx.trans {g : Nat} {a b c : World} (h : Bx g a b) (k : Bx g b c) : Bx g a c := ⟨k.os.trans h.os, k.tape.trans h.tape, k.output.trans h.output, Nat.le_trans h.size k.size, fun j hj hg => (k.block j (Nat.lt_of_lt_of_le hj h.size) hg).trans (h.block j hj hg)⟩
theorem Bx.then {g : Nat} {a b c : World} (h : Bx g a b) (k : Below b.heap.size b c) : Bx g a c := h.trans (Bx.of_below k)
theorem set4_size (w : World) (g o : Nat) (p : P) : (set4 w g o p).heap.size = w.heap.size := by simp [set4, World.setCell]
theorem Bx.set (g : Nat) (w : World) (o : Nat) (p : P) : Bx g w (set4 w g o p) := ⟨rfl, rfl, rfl, by rw [set4_size]; exact Nat.le_refl _, fun k _ hg => set4_heap _ _ _ _ _ hg⟩
theorem Bx.drew {g : Nat} {a b : World} (h : Bx g a b) : Bx g a b.drew := ⟨h.os, h.tape, h.output, h.size, h.block⟩
theorem Bx.below {g B : Nat} {a w w' : World} (h : Bx g w w') (hb : Below B a w) (hg : B <= g) (hB : B <= a.heap.size) : Below B a w' := ⟨h.os.trans hb.os, h.tape.trans hb.tape, h.output.trans hb.output, Nat.le_trans hb.size h.size, fun k hk => (h.block k (by have := hb.size; omega) (by omega)).trans (hb.block k hk)⟩
theorem At3.bx {g b : Nat} {w w' : World} {x y z : Value} (h : At3 w b x y z) (hb : Bx g w w') (hne : b ≠ g) : At3 w' b x y z := (hb.block b h.lt hne).trans h
theorem At4.bx {g b : Nat} {w w' : World} {x y z u : Value} (h : At4 w b x y z u) (hb : Bx g w w') (hne : b ≠ g) : At4 w' b x y z u := (hb.block b h.lt hne).trans h
theorem PO.bx {g b : Nat} {w w' : World} {l : List P} (h : PO w b l) (hb : Bx g w w') (hne : b ≠ g) : PO w' b l := h.of_block (hb.block b h.lt hne)
theorem PIn.bx {g : Nat} {w w' : World} {ao : Option Addr} {l : List P} (h : PIn w ao l) (hb : Bx g w w') (hne : ∀ b o, ao = some ⟨b, o, none⟩ -> b ≠ g) : PIn w' ao l := by
  rcases h with h | ⟨b, off, e, h⟩
  . exact .inl h
  . refine .inr ⟨b, off, e, fun i p hp => ?_⟩
    have hq := h i p hp
    have key : ∀ j, w'.cell? ⟨b, j, none⟩ = w.cell? ⟨b, j, none⟩ := fun j => World.cell?_of_block (w := w) (a := ⟨b, j, none⟩) (hb.block b hq.lt (hne b off e))
    exact ⟨(key _).trans hq.n, (key _).trans hq.x, (key _).trans hq.z, (key _).trans hq.ph⟩
def upd (l : List P) (f : Nat -> P -> P) (k : Nat) : List P := (List.range l.length).map (fun i => if i < k then f i (l.getD i oP) else l.getD i oP)
theorem upd_len (l : List P) (f : Nat -> P -> P) (k : Nat) : (upd l f k).length = l.length := by simp [upd]
theorem upd_at (l : List P) (f : Nat -> P -> P) (k i : Nat) (h : i < l.length) : (upd l f k)[i]? = some (if i < k then f i (l.getD i oP) else l.getD i oP) := by
  simp [upd, List.getElem?_range h]
theorem upd_zero (l : List P) (f : Nat -> P -> P) : upd l f 0 = l := by
  refine List.ext_getElem? fun i => ?_
  by_cases h : i < l.length
  . rw [upd_at _ _ _ _ h, if_neg (Nat.not_lt_zero _), get_of h]
  . rw [List.getElem?_eq_none (by rw [upd_len]; omega), List.getElem?_eq_none (by omega)]
theorem upd_succ (l : List P) (f : Nat -> P -> P) (k : Nat) : (upd l f k).set k (f k (l.getD k oP)) = upd l f (k + 1) := by
  refine List.ext_getElem? fun i => ?_
  rw [List.getElem?_set, upd_len]
  by_cases h : i < l.length
  . rw [upd_at _ _ _ _ h, upd_at _ _ _ _ h]
    by_cases e : k = i
    . subst e; rw [if_pos rfl, if_pos h, if_pos (by omega)]
    . rw [if_neg e]
      by_cases h2 : i < k
      . rw [if_pos h2, if_pos (by omega)]
      . rw [if_neg h2, if_neg (by omega)]
  . rw [List.getElem?_eq_none (l := upd l f k) (by rw [upd_len]; omega), List.getElem?_eq_none (l := upd l f (k + 1)) (by rw [upd_len]; omega)]
    by_cases e : k = i
    . subst e; rw [if_pos rfl, if_neg h]
    . rw [if_neg e]
theorem upd_same (l : List P) (f : Nat -> P -> P) (k : Nat) (e : k < l.length -> f k (l.getD k oP) = l.getD k oP) : upd l f (k + 1) = upd l f k := by
  refine List.ext_getElem? fun i => ?_
  by_cases h : i < l.length
  . rw [upd_at _ _ _ _ h, upd_at _ _ _ _ h]
    by_cases h2 : i < k
    . rw [if_pos h2, if_pos (by omega)]
    . rw [if_neg h2]
      by_cases h3 : i = k
      . subst h3; rw [if_pos (by omega), e h]
      . rw [if_neg (by omega)]
  . rw [List.getElem?_eq_none (by rw [upd_len]; omega), List.getElem?_eq_none (by rw [upd_len]; omega)]
theorem wd_pd {a b : P} (ha : Wd a) (hb : Wd b) : Wd (pdP a b) := by
  unfold pdP mulR
  split
  . exact ⟨Nat.xor_lt_two_pow (n := 64) ha.1 hb.1, Nat.xor_lt_two_pow (n := 64) ha.2 hb.2⟩
  . exact wd_o
def mulF (by' : P) (sp : Nat) (T : P -> Bool) (i : Nat) (p : P) : P := if i ≠ sp /\ T p = true then pdP p by' else p
def mlL (l : List P) (by' : P) (sp : Nat) (T : P -> Bool) : List P := upd l (mulF by' sp T) l.length
theorem tMultiply (D : P -> Prop) (hD : ∀ p, D p -> Wd p) (T : P -> Bool) (fv : Value) (l : List P) (hw : ∀ p ∈ l, D p) (q : P) (hq : Wd q) (sp g k : Nat) (hn : l.length <= 1000000000000000) (w : World) (hO : PO w g l) (hf : ∀ V, Bx g w V -> Tell D V fv T) :
    Calls Tryd.prog 56 #[.slice (some ⟨g, 0, none⟩) l.length k, pV q, .int .i64 (sp : Int), fv] w fun e w' => e = .returned (.tuple #[]) /\ PO w' g (mlL l q sp T) /\ Bx g w w' := by
  obtain ⟨f, cap, rfl, he, -⟩ := hf w (Bx.refl _ _)
  have HF : Hid (∀ V, Bx g w V -> ∀ p, D p -> Calls Tryd.prog f (#[pV p] ++ cap) V fun e w' => e = .returned (.bool (T p)) /\ Below V.heap.size V w') := hide (fun V hV p hp => by
    obtain ⟨f', cap', e, -, h⟩ := hf V hV
    cases e
    exact h V (Below.refl _ _) p hp)
  have HPD : Hid (∀ p, Wd p -> ∀ W, Calls Tryd.prog 67 #[pV p, pV q] W fun e w' => e = .returned (pV (pdP p q)) /\ Below W.heap.size W w') := hide (fun p hp W => tProduct p q hp hq W)
  have HW : Hid (∀ i, i < l.length -> D (l.getD i oP) /\ Wd (l.getD i oP)) := hide (fun i hi => ⟨hw _ (List.mem_of_getElem? (get_of hi)), hD _ (hw _ (List.mem_of_getElem? (get_of hi)))⟩)
  have hgl := hO.lt
  have HB0 : Hid (Bx g w (w.alloc (.cells #[.int .i64 q.n, .int .u64 (q.x : Int), .int .u64 (q.z : Int), .int .i64 q.ph] 32)) /\ At4 (w.alloc (.cells #[.int .i64 q.n, .int .u64 (q.x : Int), .int .u64 (q.z : Int), .int .i64 q.ph] 32)) w.heap.size (.int .i64 q.n) (.int .u64 (q.x : Int)) (.int .u64 (q.z : Int)) (.int .i64 q.ph) /\ PO (w.alloc (.cells #[.int .i64 q.n, .int .u64 (q.x : Int), .int .u64 (q.z : Int), .int .i64 q.ph] 32)) g (upd l (mulF q sp T) 0)) := hide ⟨Bx.of_below (bnew _ _), At4.new _ _ _ _ _, by rw [upd_zero]; exact hO.below (bnew _ _)⟩
  have HS1 : Hid (∀ i, i ≠ sp -> T (l.getD i oP) = true -> ∀ W, PO W g (upd l (mulF q sp T) i) -> PO (set4 W g (i * 4) (pdP (l.getD i oP) q)) g (upd l (mulF q sp T) (i + 1))) := hide (fun i h1 h2 W hW => by
    have := hW.set (i := i) (mulF q sp T i (l.getD i oP))
    rw [upd_succ] at this
    unfold mulF at this
    rw [if_pos ⟨h1, h2⟩] at this
    exact this)
  have HS2 : Hid (∀ i, (i = sp ∨ T (l.getD i oP) = false) -> upd l (mulF q sp T) (i + 1) = upd l (mulF q sp T) i) := hide (fun i h => upd_same _ _ _ (fun _ => by
    unfold mulF
    rw [if_neg]
    rintro ⟨h1, h2⟩
    rcases h with h | h
    . exact h1 h
    . rw [h] at h2; cases h2))
  have HG : Hid (∀ i, i < l.length -> (upd l (mulF q sp T) i)[i]? = some (l.getD i oP)) := hide (fun i hi => by rw [upd_at _ _ _ _ hi, if_neg (Nat.lt_irrefl _)])
  have HE : Hid (∀ W, PO W g (upd l (mulF q sp T) l.length) -> PO W g (mlL l q sp T)) := hide (fun W h => h)
  obtain ⟨n, hn'⟩ : ∃ n, l.length = n := ⟨_, rfl⟩
  rw [hn'] at hn HW HG HE ⊢
  generalize upd l (mulF q sp T) = U at *
  generalize mlL l q sp T = R at *
  obtain ⟨qn, qx, qz, qp⟩ := q
  unfold pV at HF HPD ⊢
  simp only at *
  clear hn' hO hw hf hq hD
  go_enter Tryd.func56, Tryd.ntmps56
  go_wp2_with fail
  go_loopw [11] (fun vi wr => ∃ i : Nat, vi = .int .i64 (i : Int) /\ i <= n /\ Hid (Bx g w wr /\ At4 wr w.heap.size (.int .i64 qn) (.int .u64 (qx : Int)) (.int .u64 (qz : Int)) (.int .i64 qp) /\ PO wr g (U i))) (fun vi _ => n - (Go.RowKit.intOf vi).toNat)
  case atStart => exact ⟨0, rfl, Nat.zero_le _, HB0⟩
  case round =>
    obtain ⟨i, rfl, hi, HI⟩ := hrel
    clear HB0
    by_cases h : i < n
    . have hd : decide ((i : Int) < (n : Int)) = true := decide_eq_true (by omega)
      have hs1 := HS1.out i
      have hs2 := HS2.out i
      have hp := HI.out.2.2.at (HG.out i h)
      have c1 := fun V hV => HF.out V hV _ (HW.out i h).1
      have c2 := HPD.out _ (HW.out i h).2
      generalize pdP (l.getD i oP) ⟨qn, qx, qz, qp⟩ = R2 at *
      generalize T (l.getD i oP) = r at *
      generalize l.getD i oP = p at *
      obtain ⟨m, x, z, ph⟩ := p
      obtain ⟨m2, x2, z2, ph2⟩ := R2
      have hp0 := hp
      obtain ⟨a0, a1, a2, a3⟩ := hp
      have hgl2 := HI.out.2.2.lt
      simp only at a0 a1 a2 a3 c1 c2
      by_cases hsp : i = sp
      . subst hsp
        have HU := hide (hs2 (.inl rfl))
        go_wp2_with fail
        go_roundw
        case rel => exact ⟨i + 1, by go_num, by omega, hide ⟨HI.out.1, HI.out.2.1, by rw [HU.out]; exact HI.out.2.2⟩⟩
        case measure => simp [Go.RowKit.intOf]; omega
      . have e1 : ((i : Int) != (sp : Int)) = true := bne_iff_ne.2 (by omega)
        have e2 : ((i : Int) == (sp : Int)) = false := beq_false_of_ne (by omega)
        cases r with
        | false =>
          have HU := hide (hs2 (.inr rfl))
          clear hs1 hs2
          go_wp2_with fail
          refine (c1 _ HI.out.1).mono ?_
          rintro e w2 ⟨rfl, hb2⟩
          go_wp2_with fail
          go_roundw
          case rel => exact ⟨i + 1, by go_num, by omega, hide ⟨HI.out.1.then hb2, HI.out.2.1.below hb2, by rw [HU.out]; exact HI.out.2.2.below hb2⟩⟩
          case measure => simp [Go.RowKit.intOf]; omega
        | true =>
          have HU := hide (hs1 hsp rfl)
          clear hs1 hs2
          go_wp2_with fail
          refine (c1 _ HI.out.1).mono ?_
          rintro e w2 ⟨rfl, hb2⟩
          have HI2 := hide (And.intro (HI.out.1.then hb2) (And.intro (HI.out.2.1.below hb2) (HI.out.2.2.below hb2)))
          have HP2 := hide (hp0.below hb2)
          clear hb2 HI hp0 a0 a1 a2 a3 hgl2 c1
          go_wp2_with fail
          have HC : Hid (∀ W, Below w2.heap.size w2 W -> (W.cell? ⟨w.heap.size, 0, none⟩ = some (.int .i64 qn) /\ W.cell? ⟨w.heap.size, 1, none⟩ = some (.int .u64 (qx : Int)) /\ W.cell? ⟨w.heap.size, 2, none⟩ = some (.int .u64 (qz : Int)) /\ W.cell? ⟨w.heap.size, 3, none⟩ = some (.int .i64 qp) /\ w.heap.size < W.heap.size) /\ Pc W g (i * 4) ⟨m, x, z, ph⟩ /\ g < W.heap.size) := hide (fun W hW => ⟨(HI2.out.2.1.below hW).cells, HP2.out.below hW, (HP2.out.below hW).lt⟩)
          refine wp_region_quiet_last (C := fun W => Below w2.heap.size w2 W) (by kernel_rfl) 9 rfl (by kernel_rfl) (by kernel_rfl) (bdrew (Below.refl _ _) 1) ?_
          simp only [List.take_succ_cons, List.take_zero]
          repeat
            refine wpQuiet_step (fun K hK => ?_)
            go_simp
            first
              | (refine hK _ ?_; clear hK K)
              | (apply Exists.intro
                 refine ⟨fun W hW => ?_, hK _ ?_⟩
                 first
                   | ((with_reducible refine Calls.mono (c2 _) ?_); rintro e x ⟨rfl, hb⟩; exact ⟨rfl, bkp hW hb⟩)
                   | (obtain ⟨⟨p0, p1, p2, p3, p4⟩, ⟨a0, a1, a2, a3⟩, q1⟩ := HC.out W hW; go_simp; rfl)
                 clear hK K)
          refine wpQuiet_nil ?_
          intro W hW
          have HX : Hid (Bx g w (set4 W g (i * 4) ⟨m2, x2, z2, ph2⟩) /\ At4 (set4 W g (i * 4) ⟨m2, x2, z2, ph2⟩) w.heap.size (.int .i64 qn) (.int .u64 (qx : Int)) (.int .u64 (qz : Int)) (.int .i64 qp) /\ PO (set4 W g (i * 4) ⟨m2, x2, z2, ph2⟩) g (U (i + 1))) := hide ⟨(HI2.out.1.then hW).trans (Bx.set _ _ _ _), At4.off4 (HI2.out.2.1.below hW) (by omega), HU.out W (HI2.out.2.2.below hW)⟩
          obtain ⟨a0, a1, a2, a3⟩ := HP2.out.below hW
          have f1 := (HI2.out.2.2.below hW).fz
          have k1 := (HI2.out.2.2.below hW).lt
          simp only at a0 a1 a2 a3
          clear hW HC HI2 HP2
          go_wp2_with fail
          go_roundw
          case rel => exact ⟨i + 1, by go_num, by omega, HX⟩
          case measure => simp [Go.RowKit.intOf]; omega
    . obtain rfl : n = i := by omega
      have HR := hide (HE.out _ HI.out.2.2)
      go_wp2_with fail
      go_end0
      exact ⟨rfl, HR.out, HI.out.1⟩
end Go.Proofs.YtaggifpnamjghaaDoor.Tbl
