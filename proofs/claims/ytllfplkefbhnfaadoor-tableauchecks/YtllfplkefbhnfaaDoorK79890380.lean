import Derived.Test.YtllfplkefbhnfaaDoorK3c3685b5
import Derived.Deep.AppendLies
import Derived.Deep.RegionHeld3
import Derived.Lib.SmallJoins
set_option maxRecDepth 100000
set_option maxHeartbeats 1000000
namespace Go.Proofs.YtllfplkefbhnfaaDoor.Tbl
open Go.RowKit Go.Shelf Go.Proofs.YtllfplkefbhnfaaDoor.Pau Go.Proofs.YtllfplkefbhnfaaDoor.Gt
def c4 (p : P) : List Value := [.int .i64 p.n, .int .u64 (p.x : Int), .int .u64 (p.z : Int), .int .i64 p.ph]
def fl (l : List P) : List Value := l.flatMap c4
theorem fl_len : ∀ l : List P, (fl l).length = l.length * 4
  | [] => rfl
  | p :: l => by
    have := fl_len l
    unfold fl at *
    rw [List.flatMap_cons, List.length_append, this, List.length_cons]
    simp only [c4, List.length_cons, List.length_nil]
    omega
theorem fl_at : ∀ (l : List P) (i : Nat) (p : P), l[i]? = some p -> (fl l)[i * 4]? = some (.int .i64 p.n) /\ (fl l)[i * 4 + 1]? = some (.int .u64 (p.x : Int)) /\ (fl l)[i * 4 + 2]? = some (.int .u64 (p.z : Int)) /\ (fl l)[i * 4 + 3]? = some (.int .i64 p.ph)
  | [], i, p, h => by simp at h
  | q :: l, 0, p, h => by
    simp at h
    subst h
    exact ⟨rfl, rfl, rfl, rfl⟩
  | q :: l, i + 1, p, h => by
    have := fl_at l i p (by simpa using h)
    have e : fl (q :: l) = c4 q ++ fl l := by unfold fl; rw [List.flatMap_cons]
    rw [e]
    have hl : (c4 q).length = 4 := rfl
    rw [List.getElem?_append_right (by rw [hl]; omega), List.getElem?_append_right (by rw [hl]; omega), List.getElem?_append_right (by rw [hl]; omega), List.getElem?_append_right (by rw [hl]; omega), hl]
    rw [show (i + 1) * 4 - 4 = i * 4 by omega, show (i + 1) * 4 + 1 - 4 = i * 4 + 1 by omega, show (i + 1) * 4 + 2 - 4 = i * 4 + 2 by omega, show (i + 1) * 4 + 3 - 4 = i * 4 + 3 by omega]
    exact this
theorem fl_one (l : List P) : ∀ u ∈ fl l, u.oneCell' = true := by
  intro u hu
  unfold fl at hu
  obtain ⟨p, -, hp⟩ := List.mem_flatMap.1 hu
  simp only [c4, List.mem_cons, List.not_mem_nil, or_false] at hp
  rcases hp with rfl | rfl | rfl | rfl <;> rfl
theorem fl_news {w : World} {g off : Nat} {l : List P} (h : ∀ (i : Nat) p, l[i]? = some p -> Pc w g (off + i * 4) p) (j : Nat) (u : Value) (hu : (fl l)[j]? = some u) : w.cell? ((⟨g, off, none⟩ : Addr).add j) = some u := by
  have hj := (List.getElem?_eq_some_iff.1 hu).1
  rw [fl_len] at hj
  have hi : j / 4 < l.length := by omega
  have hp := get_of hi
  obtain ⟨h0, h1, h2, h3⟩ := fl_at l _ _ hp
  obtain ⟨k0, k1, k2, k3⟩ := h _ _ hp
  rw [Addr.add_lit]
  have hm : j % 4 = 0 ∨ j % 4 = 1 ∨ j % 4 = 2 ∨ j % 4 = 3 := by omega
  rcases hm with e | e | e | e
  . rw [show j = j / 4 * 4 by omega] at hu ⊢
    rw [h0] at hu; cases hu; exact k0
  . rw [show j = j / 4 * 4 + 1 by omega] at hu ⊢
    rw [h1] at hu; cases hu; rw [← Nat.add_assoc]; exact k1
  . rw [show j = j / 4 * 4 + 2 by omega] at hu ⊢
    rw [h2] at hu; cases hu; rw [← Nat.add_assoc]; exact k2
  . rw [show j = j / 4 * 4 + 3 by omega] at hu ⊢
    rw [h3] at hu; cases hu; rw [← Nat.add_assoc]; exact k3
theorem po_own {w : World} {B g n c : Nat} {l : List P} (h : w.ownsRow B 39 4 (.slice (some ⟨g, 0, none⟩) n c) n (fl l)) : PO w g l /\ B <= g /\ n <= c /\ l.length = n := by
  obtain ⟨h1, h2 | ⟨g', cap, cur, e, hB, hg, hc, hm, hs, ht⟩⟩ := h
  . cases h2.1
  . cases e
    rw [fl_len] at h1
    refine ⟨⟨cur, hg, fun i p hp => ?_⟩, hB, hc, by omega⟩
    have hi := (List.getElem?_eq_some_iff.1 hp).1
    have hk := fl_at l i p hp
    rw [← ht] at hk
    simp only [List.getElem?_take, Array.getElem?_toList] at hk
    rw [if_pos (by omega), if_pos (by omega), if_pos (by omega), if_pos (by omega)] at hk
    exact hk
theorem own_new (w : World) : (w.alloc (.cells #[] 39)).ownsRow w.heap.size 39 4 (.slice (some ⟨w.heap.size, 0, none⟩) 0 0) 0 (fl []) := ⟨rfl, .inr ⟨w.heap.size, 0, #[], rfl, Nat.le_refl _, heap_alloc_new _ _, Nat.le_refl _, by decide, rfl, rfl⟩⟩
def POo (w : World) (B : Nat) (ao : Option Addr) (l : List P) : Prop := l = [] ∨ ∃ g, ao = some ⟨g, 0, none⟩ /\ B <= g /\ PO w g l
theorem POo.below {w w' : World} {B : Nat} {ao : Option Addr} {l : List P} (h : POo w B ao l) (hb : Below w.heap.size w w') : POo w' B ao l := by
  rcases h with h | ⟨g, e, hB, h⟩
  . exact .inl h
  . exact .inr ⟨g, e, hB, h.below hb⟩
theorem POo.pin {w : World} {B : Nat} {ao : Option Addr} {l : List P} (h : POo w B ao l) : PIn w ao l := by
  rcases h with h | ⟨g, e, hB, h⟩
  . exact .inl h
  . rw [e]; exact h.pin
theorem POo.base {w : World} {B B' : Nat} {ao : Option Addr} {l : List P} (h : POo w B ao l) (hb : B' <= B) : POo w B' ao l := by
  rcases h with h | ⟨g, e, hB, h⟩
  . exact .inl h
  . exact .inr ⟨g, e, by omega, h⟩
theorem tClone (ao : Option Addr) (c : Nat) (l : List P) (hl : l.length <= 4000000000000) (w : World) (hN : PIn w ao l) : Calls Tryd.prog 49 #[.slice ao l.length c] w fun e w' => ∃ ao' c', e = .returned (.slice ao' l.length c') /\ POo w' w.heap.size ao' l /\ l.length <= c' /\ Below w.heap.size w w' := by
  obtain ⟨i0, hi, hz0, hz1, hz2⟩ := info_parts infoP3
  have heq := fun a n c w => Lib.run_eql_slice_nil (P := Tryd.prog) w a n c
  by_cases h0 : 0 < l.length
  . obtain ⟨g, off, rfl, hc⟩ := hN.get h0
    have hnews := fl_news (fun i p hp => (hc i p hp).below (bnew w (.cells #[] 39)))
    have hown := own_new w
    have hml := fl_len l
    have hone := fl_one l
    have HP : Hid (∀ (W : World) g' c', W.ownsRow w.heap.size 39 4 (.slice (some ⟨g', 0, none⟩) l.length c') l.length (fl l) -> PO W g' l /\ w.heap.size <= g' /\ l.length <= c') := hide (fun W g' c' h => ⟨(po_own h).1, (po_own h).2.1, (po_own h).2.2.1⟩)
    generalize l.length = n at *
    have hfn : fl [] = [] := rfl
    rw [hfn] at hown
    generalize fl l = L at *
    clear hc hN hfn
    go_enter Tryd.func49, Tryd.ntmps49
    go_wp2_with (at_builtin; refine wpList_append_lies _ rfl _ _ 22 rfl w.heap.size 39 i0 _ 4 32 Tryd.underlying22 hi hz0 hz1 hz2 rfl (by decide) _ 0 [] rfl hown ⟨g, off, none⟩ n c L rfl hml hnews hone h0 (by unfold maxLen; omega) (by omega) (by simp) _ rfl ?_)
    intro g2 cap w2 hown2 hgrow hat hlt
    have hb2 : Below w.heap.size w w2 := (bnew w _).grown hgrow (by simp) (fun q hq => by simp [Value.ownBlock] at hq; omega)
    have HX := hide (HP.out _ _ _ hown2)
    clear hgrow hat hnews hone hown hown2 HP
    go_wp2_with fail
    go_ret
    exact ⟨some ⟨g2, 0, none⟩, cap, rfl, .inr ⟨g2, rfl, HX.out.2.1, HX.out.1⟩, HX.out.2.2, hb2⟩
  . obtain rfl : l = [] := List.length_eq_zero_iff.1 (by omega)
    cases ao with
    | none =>
      go_enter Tryd.func49, Tryd.ntmps49
      go_wp2_with fail
      go_ret
      exact ⟨none, 0, rfl, .inl rfl, Nat.le_refl _, Below.refl _ _⟩
    | some a =>
      go_enter Tryd.func49, Tryd.ntmps49
      go_wp2_with fail
      go_ret
      exact ⟨_, 0, rfl, .inl rfl, Nat.le_refl _, bnew _ _⟩
end Go.Proofs.YtllfplkefbhnfaaDoor.Tbl
