import Derived.Test.YtllfplkefbhnfaaDoorKdbbba30f
set_option maxRecDepth 100000
set_option maxHeartbeats 4000000
namespace Go.Proofs.YtllfplkefbhnfaaDoor.Tbl
open Go.RowKit Go.Shelf Go.Proofs.YtllfplkefbhnfaaDoor.Pau Go.Proofs.YtllfplkefbhnfaaDoor.Gt
theorem tReduce0 (ao : Option Addr) (k : Nat) (w : World) : Calls Tryd.prog 41 #[.slice ao 0 k, .int .i64 0] w fun e w' => e = .returned (.int .i64 0) /\ Below w.heap.size w w' := by
  go_enter Tryd.func41, Tryd.ntmps41
  go_wp2_with fail
  go_loopw [5, 12] (fun vr vi wr => ∃ c : Nat, vr = .int .i64 0 /\ vi = .int .i64 (c : Int) /\ c <= 0 /\ Below w.heap.size w wr) (fun _ _ _ => 0)
  case atStart => exact ⟨0, rfl, rfl, Nat.le_refl _, Below.refl _ _⟩
  case round =>
    obtain ⟨c, rfl, rfl, hc, hb⟩ := hrel
    have hd : decide ((c : Int) < 0) = false := decide_eq_false (by omega)
    clear hc
    go_wp2_with fail
    go_ret
    exact ⟨rfl, hb⟩
theorem ch_rr {t : TT} (h : chB t = true) : (∀ p ∈ t.s, Rr t.n.toNat p) /\ (∀ p ∈ t.d, Rr t.n.toNat p) := by
  obtain ⟨hz, hs, -⟩ := ch_iff.1 h
  obtain ⟨h0, h64, hls, hld⟩ := sz_of hz
  have key : ∀ k, k < t.n.toNat -> Rr t.n.toNat (t.s.getD k oP) /\ Rr t.n.toNat (t.d.getD k oP) := fun k hk => by
    have := hs k hk
    unfold sg2 sgB at this
    simp only [Bool.and_eq_true, decide_eq_true_eq] at this
    exact ⟨⟨this.1.2.1, by have := this.1.1; omega⟩, ⟨this.2.2.1, by have := this.2.1; omega⟩⟩
  refine ⟨fun p hp => ?_, fun p hp => ?_⟩
  . obtain ⟨i, hi⟩ := List.getElem?_of_mem hp
    have hl := (List.getElem?_eq_some_iff.1 hi).1
    have e := get_of hl
    rw [hi] at e
    cases e
    exact (key i (by omega)).1
  . obtain ⟨i, hi⟩ := List.getElem?_of_mem hp
    have hl := (List.getElem?_eq_some_iff.1 hi).1
    have e := get_of hl
    rw [hi] at e
    cases e
    exact (key i (by omega)).2
def cnL (t : TT) : List P := if chB t = true then (redS t.n.toNat t.s (2 * t.n.toNat)).1 else []
theorem cn_len {t : TT} (h : chB t = true) : (cnL t).length = t.s.length := by unfold cnL; rw [if_pos h, redS_len]
theorem POo.bx {w w' : World} {B g : Nat} {ao : Option Addr} {l : List P} (h : POo w B ao l) (hb : Bx g w w') (hne : ∀ k, ao = some ⟨k, 0, none⟩ -> k ≠ g) : POo w' B ao l := by
  rcases h with h | ⟨k, e, hB, h⟩
  . exact .inl h
  . exact .inr ⟨k, e, hB, h.bx hb (hne k e)⟩
theorem tCanon (t : TT) (a b : Option Addr) (ca cb : Nat) (w : World) (h : Th w t a b ca cb) :
    Calls Tryd.prog 28 #[tV t a b ca cb] w fun e w' => ∃ ao c, e = .returned (.tuple #[.slice ao (cnL t).length c, .int .i64 (chI t)]) /\ POo w' w.heap.size ao (cnL t) /\ (cnL t).length <= c /\ Below w.heap.size w w' := by
  have HC1 := hide (fun W (hb : Below w.heap.size w W) => tCheck t a b ca cb W (h.below hb))
  have HB0 := hide (bnew w (.cells #[.int .i64 t.n, .slice a t.s.length ca, .slice b t.d.length cb] 24))
  have HA0 := hide (At3.new w (.int .i64 t.n) (.slice a t.s.length ca) (.slice b t.d.length cb))
  cases hc : chB t with
  | false =>
    have e1 : chI t = 140 := chI_no (by rw [hc]; decide)
    have e2 : cnL t = [] := by unfold cnL; rw [if_neg (by rw [hc]; decide)]
    rw [e1] at HC1 ⊢
    rw [e2]
    unfold tV at HC1 ⊢
    simp only [List.length_nil] at *
    generalize t.s.length = ns at *
    generalize t.d.length = nd at *
    generalize t.n = n at *
    clear h hc e1 e2
    go_enter Tryd.func28, Tryd.ntmps28
    go_wp2_with (first | (go_at_call 10; refine (HC1.out _ HB0.out).mono ?_; rintro e w1 ⟨rfl, hb1⟩; have HB1 := hide (bkp HB0.out hb1)))
    go_ret2
    exact ⟨none, 0, rfl, .inl rfl, Nat.le_refl _, HB1.out⟩
  | true =>
    have e1 : chI t = 0 := by unfold chI; rw [if_pos hc]
    have hz := ch_size hc
    obtain ⟨h0, h64, hls, hld⟩ := sz_of hz
    have hrr := (ch_rr hc).1
    have HC2 := hide (fun W (hb : Below w.heap.size w W) => tClone a ca t.s (by omega) W (h.s.below hb))
    have HLE : Hid ((cnL t).length = t.s.length) := hide (cn_len hc)
    have HC3 : Hid (∀ W g c, t.s.length <= c -> PO W g t.s -> Calls Tryd.prog 41 #[.slice (some ⟨g, 0, none⟩) t.s.length c, .int .i64 t.n] W fun e w' => (∃ r, e = .returned (.int .i64 r)) /\ PO w' g (cnL t) /\ Bx g W w') := hide (fun W g c hlc hO => by
      have := tReduce t.n.toNat t.s hrr (by omega) (by omega) g c hlc W hO
      rw [show ((t.n.toNat : Nat) : Int) = t.n by omega] at this
      refine this.mono ?_
      rintro e w' ⟨rfl, h1, h2⟩
      unfold cnL
      rw [if_pos hc]
      exact ⟨⟨_, rfl⟩, h1, h2⟩)
    have HC4 : Hid (t.s = [] -> t.n = 0 /\ cnL t = []) := hide (fun e => by
      have hl := cn_len hc
      rw [e] at hl hls
      simp at hls hl
      exact ⟨by omega, hl⟩)
    rw [e1] at HC1 ⊢
    unfold tV at HC1 ⊢
    generalize cnL t = R at *
    generalize hns : t.s.length = ns at *
    generalize t.d.length = nd at *
    generalize t.n = n at *
    have HNS := hide hns
    clear h hc e1 hz hrr hld h0 hns hls h64
    go_enter Tryd.func28, Tryd.ntmps28
    go_wp2_with fail
    refine (HC1.out _ HB0.out).mono ?_
    rintro e w1 ⟨rfl, hb1⟩
    have HB1 := hide (bkp HB0.out hb1)
    have HA1 := hide (HA0.out.below hb1)
    clear hb1 HB0 HA0 HC1
    obtain ⟨x0, x1, x2, x3⟩ := HA1.out.cells
    go_wp2_with fail
    refine (HC2.out _ HB1.out).mono ?_
    rintro e w2 ⟨ao, c, rfl, hpo, hlc, hb2⟩
    have HB2 := hide (bkp HB1.out hb2)
    have HA2 := hide (HA1.out.below hb2)
    have hs2 := HB1.out.size
    have ha1 := HA1.out.lt
    clear hb2 HB1 HA1 HC2 x0 x1 x2 x3
    obtain ⟨x0, x1, x2, x3⟩ := HA2.out.cells
    rcases hpo with hnil | ⟨g, rfl, hBg, hO⟩
    . obtain ⟨hn0, hR⟩ := HC4.out hnil
      have hns0 : ns = 0 := by rw [← HNS.out, hnil]; rfl
      subst hns0
      subst hR
      subst hn0
      have c3 := fun W => tReduce0 ao c W
      clear HC3 HC4 HLE hnil HNS
      go_wp2_with fail
      refine (c3 _).mono ?_
      rintro e w3 ⟨rfl, hb3⟩
      have HB3 := hide (bkp HB2.out hb3)
      clear hb3
      go_wp2_with fail
      go_ret2
      exact ⟨ao, c, rfl, .inl rfl, Nat.zero_le _, HB3.out⟩
    . have c3 := HC3.out w2 g c hlc hO
      have HO := hide hO
      clear HC3 HC4 hO
      go_wp2_with fail
      refine c3.mono ?_
      rintro e w3 ⟨⟨rr, rfl⟩, hO3, hx3⟩
      have HB3 := hide (hx3.below HB2.out (by omega) (Nat.le_refl _))
      have HO3 := hide hO3
      clear hO3 hx3
      go_wp2_with fail
      go_ret2
      exact ⟨some ⟨g, 0, none⟩, c, by rw [HLE.out]; rfl, .inr ⟨g, rfl, by omega, HO3.out⟩, by rw [HLE.out]; exact hlc, HB3.out⟩
end Go.Proofs.YtllfplkefbhnfaaDoor.Tbl
