import Derived.Test.YtpehekonjdneaaaDoorKd4084716
import Derived.Deep.AppendLies
import Derived.Deep.RegionHeld3
import Derived.Lib.SmallJoins
set_option maxRecDepth 100000
set_option maxHeartbeats 4000000
namespace Go.Proofs.YtpehekonjdneaaaDoor.Tbl
open Go.RowKit Go.Shelf Go.Proofs.YtpehekonjdneaaaDoor.Pau Go.Proofs.YtpehekonjdneaaaDoor.Gt
def c4 (p : P) : List Value := [.int .i64 p.n, .int .u64 (p.x : Int), .int .u64 (p.z : Int), .int .i64 p.ph]
def fl (l : List P) : List Value := l.flatMap c4
theorem fl_len : ∀ l : List P, (fl l).length = l.length * 4
  | [] => rfl
  | p :: l => by
    have := fl_len l
    unfold fl at *
    rw [List.flatMap_cons, List.length_append, this, List.length_cons]
    simp only [c4, List.length_cons, List.length_nil]
    omega
theorem fl_at : ∀ (l : List P) (i : Nat) (p : P), l[i]? = some p -> (fl l)[i * 4]? = some (.int .i64 p.n) /\ (fl l)[i * 4 + 1]? = some (.int .u64 (p.x : Int)) /\ (fl l)[i * 4 + 2]? = some (.int .u64 (p.z : Int)) /\ (fl l)[i * 4 + 3]? = some (.int .i64 p.ph)
  | [], i, p, h => by simp at h
  | q :: l, 0, p, h => by
    simp at h
    subst h
    exact ⟨rfl, rfl, rfl, rfl⟩
  | q :: l, i + 1, p, h => by
    have := fl_at l i p (by simpa using h)
    have e : fl (q :: l) = c4 q ++ fl l := by unfold fl; rw [List.flatMap_cons]
    rw [e]
    have hl : (c4 q).length = 4 := rfl
    rw [List.getElem?_append_right (by rw [hl]; omega), List.getElem?_append_right (by rw [hl]; omega), List.getElem?_append_right (by rw [hl]; omega), List.getElem?_append_right (by rw [hl]; omega), hl]
    rw [show (i + 1) * 4 - 4 = i * 4 by omega, show (i + 1) * 4 + 1 - 4 = i * 4 + 1 by omega, show (i + 1) * 4 + 2 - 4 = i * 4 + 2 by omega, show (i + 1) * 4 + 3 - 4 = i * 4 + 3 by omega]
    exact this
theorem fl_one (l : List P) : ∀ u ∈ fl l, u.oneCell' = true := by
  intro u hu
  unfold fl at hu
  obtain ⟨p, -, hp⟩ := List.mem_flatMap.1 hu
  simp only [c4, List.mem_cons, List.not_mem_nil, or_false] at hp
  rcases hp with rfl | rfl | rfl | rfl <;> rfl
theorem fl_news {w : World} {g off : Nat} {l : List P} (h : ∀ (i : Nat) p, l[i]? = some p -> Pc w g (off + i * 4) p) (j : Nat) (u : Value) (hu : (fl l)[j]? = some u) : w.cell? ((⟨g, off, none⟩ : Addr).add j) = some u := by
  have hj := (List.getElem?_eq_some_iff.1 hu).1
  rw [fl_len] at hj
  have hi : j / 4 < l.length := by omega
  have hp := get_of hi
  obtain ⟨h0, h1, h2, h3⟩ := fl_at l _ _ hp
  obtain ⟨k0, k1, k2, k3⟩ := h _ _ hp
  rw [Addr.add_lit]
  have hm : j % 4 = 0 ∨ j % 4 = 1 ∨ j % 4 = 2 ∨ j % 4 = 3 := by omega
  rcases hm with e | e | e | e
  . rw [show j = j / 4 * 4 by omega] at hu ⊢
    rw [h0] at hu; cases hu; exact k0
  . rw [show j = j / 4 * 4 + 1 by omega] at hu ⊢
    rw [h1] at hu; cases hu; rw [← Nat.add_assoc]; exact k1
  . rw [show j = j / 4 * 4 + 2 by omega] at hu ⊢
    rw [h2] at hu; cases hu; rw [← Nat.add_assoc]; exact k2
  . rw [show j = j / 4 * 4 + 3 by omega] at hu ⊢
    rw [h3] at hu; cases hu; rw [← Nat.add_assoc]; exact k3
theorem po_own {w : World} {B g n c : Nat} {l : List P} (h : w.ownsRow B 49 4 (.slice (some ⟨g, 0, none⟩) n c) n (fl l)) : PO w g l /\ B <= g /\ n <= c /\ l.length = n := by
  obtain ⟨h1, h2 | ⟨g', cap, cur, e, hB, hg, hc, hm, hs, ht⟩⟩ := h
  . cases h2.1
  . cases e
    rw [fl_len] at h1
    refine ⟨⟨cur, hg, fun i p hp => ?_⟩, hB, hc, by omega⟩
    have hi := (List.getElem?_eq_some_iff.1 hp).1
    have hk := fl_at l i p hp
    rw [← ht] at hk
    simp only [List.getElem?_take, Array.getElem?_toList] at hk
    rw [if_pos (by omega), if_pos (by omega), if_pos (by omega), if_pos (by omega)] at hk
    exact hk
theorem own_new (w : World) : (w.alloc (.cells #[] 49)).ownsRow w.heap.size 49 4 (.slice (some ⟨w.heap.size, 0, none⟩) 0 0) 0 (fl []) := ⟨rfl, .inr ⟨w.heap.size, 0, #[], rfl, Nat.le_refl _, heap_alloc_new _ _, Nat.le_refl _, by decide, rfl, rfl⟩⟩
def POo (w : World) (B : Nat) (ao : Option Addr) (l : List P) : Prop := l = [] ∨ ∃ g, ao = some ⟨g, 0, none⟩ /\ B <= g /\ PO w g l
theorem POo.below {w w' : World} {B : Nat} {ao : Option Addr} {l : List P} (h : POo w B ao l) (hb : Below w.heap.size w w') : POo w' B ao l := by
  rcases h with h | ⟨g, e, hB, h⟩
  . exact .inl h
  . exact .inr ⟨g, e, hB, h.below hb⟩
theorem POo.pin {w : World} {B : Nat} {ao : Option Addr} {l : List P} (h : POo w B ao l) : PIn w ao l := by
  rcases h with h | ⟨g, e, hB, h⟩
  . exact .inl h
  . rw [e]; exact h.pin
theorem POo.base {w : World} {B B' : Nat} {ao : Option Addr} {l : List P} (h : POo w B ao l) (hb : B' <= B) : POo w B' ao l := by
  rcases h with h | ⟨g, e, hB, h⟩
  . exact .inl h
  . exact .inr ⟨g, e, by omega, h⟩
theorem tClone (ao : Option Addr) (c : Nat) (l : List P) (hl : l.length <= 4000000000000) (w : World) (hN : PIn w ao l) : Calls Tryd.prog 36 #[.slice ao l.length c] w fun e w' => ∃ ao' c', e = .returned (.slice ao' l.length c') /\ POo w' w.heap.size ao' l /\ l.length <= c' /\ Below w.heap.size w w' := by
  obtain ⟨i0, hi, hz0, hz1, hz2⟩ := info_parts infoP3
  have heq := fun a n c w => Lib.run_eql_slice_nil (P := Tryd.prog) w a n c
  by_cases h0 : 0 < l.length
  . obtain ⟨g, off, rfl, hc⟩ := hN.get h0
    have hnews := fl_news (fun i p hp => (hc i p hp).below (bnew w (.cells #[] 49)))
    have hown := own_new w
    have hml := fl_len l
    have hone := fl_one l
    have HP : Hid (∀ (W : World) g' c', W.ownsRow w.heap.size 49 4 (.slice (some ⟨g', 0, none⟩) l.length c') l.length (fl l) -> PO W g' l /\ w.heap.size <= g' /\ l.length <= c') := hide (fun W g' c' h => ⟨(po_own h).1, (po_own h).2.1, (po_own h).2.2.1⟩)
    generalize l.length = n at *
    have hfn : fl [] = [] := rfl
    rw [hfn] at hown
    generalize fl l = L at *
    clear hc hN hfn
    go_enter Tryd.func36, Tryd.ntmps36
    go_wp2_with (at_builtin; refine wpList_append_lies _ rfl _ _ 22 rfl w.heap.size 49 i0 _ 4 32 Tryd.underlying22 hi hz0 hz1 hz2 rfl (by decide) _ 0 [] rfl hown ⟨g, off, none⟩ n c L rfl hml hnews hone h0 (by unfold maxLen; omega) (by omega) (by simp) _ rfl ?_)
    intro g2 cap w2 hown2 hgrow hat hlt
    have hb2 : Below w.heap.size w w2 := (bnew w _).grown hgrow (by simp) (fun q hq => by simp [Value.ownBlock] at hq; omega)
    have HX := hide (HP.out _ _ _ hown2)
    clear hgrow hat hnews hone hown hown2 HP
    go_wp2_with fail
    go_ret
    exact ⟨some ⟨g2, 0, none⟩, cap, rfl, .inr ⟨g2, rfl, HX.out.2.1, HX.out.1⟩, HX.out.2.2, hb2⟩
  . obtain rfl : l = [] := List.length_eq_zero_iff.1 (by omega)
    cases ao with
    | none =>
      go_enter Tryd.func36, Tryd.ntmps36
      go_wp2_with fail
      go_ret
      exact ⟨none, 0, rfl, .inl rfl, Nat.le_refl _, Below.refl _ _⟩
    | some a =>
      go_enter Tryd.func36, Tryd.ntmps36
      go_wp2_with fail
      go_ret
      exact ⟨_, 0, rfl, .inl rfl, Nat.le_refl _, bnew _ _⟩
structure Tn (w : World) (B : Nat) (t : TT) (a b : Option Addr) (ca cb : Nat) : Prop where
  s : POo w B a t.s
  d : POo w B b t.d
  ne : t.s = [] ∨ t.d = [] ∨ ∀ g h, a = some ⟨g, 0, none⟩ -> b = some ⟨h, 0, none⟩ -> g ≠ h
  la : t.s.length <= ca
  lb : t.d.length <= cb
theorem Tn.below {w w' : World} {B : Nat} {t : TT} {a b : Option Addr} {ca cb : Nat} (h : Tn w B t a b ca cb) (hb : Below w.heap.size w w') : Tn w' B t a b ca cb := ⟨h.s.below hb, h.d.below hb, h.ne, h.la, h.lb⟩
theorem two3 (w : World) (a b c a' b' c' : Value) : At3 ((w.alloc (.cells #[a, b, c] 24)).alloc (.cells #[a', b', c'] 24)) w.heap.size a b c /\ At3 ((w.alloc (.cells #[a, b, c] 24)).alloc (.cells #[a', b', c'] 24)) (w.heap.size + 1) a' b' c' :=
  ⟨(At3.new w a b c).below (bnew _ _), by have := At3.new (w.alloc (.cells #[a, b, c] 24)) a' b' c'; simpa using this⟩
theorem POo.kept {w w' : World} {B : Nat} {ao : Option Addr} {l : List P} (h : POo w B ao l) (hb : ∀ g, B <= g -> g < w.heap.size -> w'.heap[g]? = w.heap[g]?) : POo w' B ao l := by
  rcases h with h | ⟨g, e, hB, h⟩
  . exact .inl h
  . exact .inr ⟨g, e, hB, h.of_block (hb g hB h.lt)⟩
theorem set3_heap (w : World) (g : Nat) (a b c : Value) (k : Nat) (h : k ≠ g) : (((w.setCell ⟨g, 0, none⟩ a).setCell ⟨g, 1, none⟩ b).setCell ⟨g, 2, none⟩ c).heap[k]? = w.heap[k]? := by
  rw [Below.heap_setCell _ _ _ _ h, Below.heap_setCell _ _ _ _ h, Below.heap_setCell _ _ _ _ h]
theorem At3.set {w : World} {g : Nat} {x y z : Value} (h : At3 w g x y z) (a b c : Value) : At3 (((w.setCell ⟨g, 0, none⟩ a).setCell ⟨g, 1, none⟩ b).setCell ⟨g, 2, none⟩ c) g a b c := by
  unfold At3 at *
  simp [World.setCell, Array.getElem?_modify, h]
theorem below_set3 {B : Nat} {a w : World} (h : Below B a w) {g : Nat} (x y z : Value) (hg : B <= g) : Below B a (((w.setCell ⟨g, 0, none⟩ x).setCell ⟨g, 1, none⟩ y).setCell ⟨g, 2, none⟩ z) := ((h.setCell (p := ⟨g, 0, none⟩) hg _).setCell (p := ⟨g, 1, none⟩) hg _).setCell (p := ⟨g, 2, none⟩) hg _
theorem POo.ne {w w' : World} {B B' : Nat} {a b : Option Addr} {l m : List P} (h : POo w B a l) (h' : POo w' B' b m) (hB : w.heap.size <= B') : l = [] ∨ m = [] ∨ ∀ g h, a = some ⟨g, 0, none⟩ -> b = some ⟨h, 0, none⟩ -> g ≠ h := by
  rcases h with h | ⟨g, e, -, h⟩
  . exact .inl h
  . rcases h' with h' | ⟨g', e', hB', h'⟩
    . exact .inr (.inl h')
    . refine .inr (.inr fun x y hx hy => ?_)
      rw [e] at hx; rw [e'] at hy
      cases hx; cases hy
      have := h.lt
      omega
theorem tCopied (t : TT) (a b : Option Addr) (ca cb : Nat) (hs : t.s.length <= 4000000000000) (hd : t.d.length <= 4000000000000) (w : World) (h : Th w t a b ca cb) :
    Calls Tryd.prog 55 #[tV t a b ca cb] w fun e w' => ∃ a' b' ca' cb', e = .returned (tV t a' b' ca' cb') /\ Tn w' w.heap.size t a' b' ca' cb' /\ Below w.heap.size w w' := by
  have HC1 := hide (fun W (hb : Below w.heap.size w W) => tClone a ca t.s hs W (h.s.below hb))
  have HC2 := hide (fun W (hb : Below w.heap.size w W) => tClone b cb t.d hd W (h.d.below hb))
  unfold tV
  obtain ⟨n, sl, dl⟩ := t
  simp only at *
  obtain ⟨hA, hZ⟩ := two3 w (.int .i64 n) (.slice a sl.length ca) (.slice b dl.length cb) (.int .i64 0) (.slice none 0 0) (.slice none 0 0)
  have hB0 := bkp (bnew w (.cells #[.int .i64 n, .slice a sl.length ca, .slice b dl.length cb] 24)) (bnew _ (.cells #[.int .i64 0, .slice none 0 0, .slice none 0 0] 24))
  generalize hns : sl.length = ns at *
  generalize hnd : dl.length = nd at *
  have HNS := hide hns
  have HND := hide hnd
  go_enter Tryd.func55, Tryd.ntmps55
  go_wp2_with fail
  generalize hV : (w.alloc (.cells #[.int .i64 n, .slice a ns ca, .slice b nd cb] 24)).alloc (.cells #[.int .i64 0, .slice none 0 0, .slice none 0 0] 24) = V0 at *
  have hsz : V0.heap.size = w.heap.size + 2 := by rw [← hV]; simp
  clear hV h hns hnd
  have HZ := hide hZ
  have HSV : Hid (∀ V, Below (w.heap.size + 1) V0 V -> (Below (w.heap.size + 1) V0 V /\ V.cell? ⟨w.heap.size, 0, none⟩ = some (.int .i64 n) /\ V.cell? ⟨w.heap.size, 1, none⟩ = some (.slice a ns ca) /\ V.cell? ⟨w.heap.size, 2, none⟩ = some (.slice b nd cb))) := hide (fun V hV => by
    have := hV.cell (p := ⟨w.heap.size, 0, none⟩) (show w.heap.size < w.heap.size + 1 by omega)
    obtain ⟨k0, k1, k2, -⟩ := hA.cells
    exact ⟨hV, (hV.cell (p := ⟨w.heap.size, 0, none⟩) (show w.heap.size < w.heap.size + 1 by omega)).trans k0, (hV.cell (p := ⟨w.heap.size, 1, none⟩) (show w.heap.size < w.heap.size + 1 by omega)).trans k1, (hV.cell (p := ⟨w.heap.size, 2, none⟩) (show w.heap.size < w.heap.size + 1 by omega)).trans k2⟩)
  have HBV : Hid (∀ V, Below (w.heap.size + 1) V0 V -> Below w.heap.size w V) := hide (fun V hV => hB0.trans (hV.mono (by omega)))
  have HM : Hid (∀ V W, Below (w.heap.size + 1) V0 V -> Below V.heap.size V W -> Below (w.heap.size + 1) V0 W) := hide (fun V W h1 h2 => h1.trans (h2.mono (by have := h1.size; omega)))
  have HD0 : Hid (Below (w.heap.size + 1) V0 V0.drew) := hide (Below.refl _ _).drew
  have HB1 : Hid (Below V0.heap.size V0 V0.drew) := hide (Below.refl _ _).drew
  clear hA hB0
  go_region_held3 (fun V => Below (w.heap.size + 1) V0 V /\ V.cell? ⟨w.heap.size, 0, none⟩ = some (.int .i64 n) /\ V.cell? ⟨w.heap.size, 1, none⟩ = some (.slice a ns ca) /\ V.cell? ⟨w.heap.size, 2, none⟩ = some (.slice b nd cb))
    (first | exact HSV.out _ HD0.out | exact HSV.out _ (by assumption) | exact HSV.out _ (((Below.setCell (by assumption) (p := ⟨_, 0, none⟩) (Nat.le_refl _) _).setCell (p := ⟨_, 1, none⟩) (Nat.le_refl _) _).setCell (p := ⟨_, 2, none⟩) (Nat.le_refl _) _))
    (first
      | (go_at_call 36; (with_reducible refine Calls.mono (HC1.out _ (HBV.out _ (‹Below (w.heap.size + 1) V0 _ /\ _›.1))) ?_); rintro e w3 ⟨a', ca', rfl, ho3, hl3, q3⟩; have hb3 := HM.out _ _ (‹Below (w.heap.size + 1) V0 _ /\ _›.1) q3; have hy3 := bkp HB1.out q3)
      | (go_at_call 36; (with_reducible refine Calls.mono (HC2.out _ (HBV.out _ (‹Below (w.heap.size + 1) V0 _ /\ _›.1))) ?_); rintro e w4 ⟨b', cb', rfl, ho4, hl4, q4⟩; have hb4 := HM.out _ _ (‹Below (w.heap.size + 1) V0 _ /\ _›.1) q4; have hz4 := HZ.out.below (bkp hy3 q4); obtain ⟨z0, z1, z2, z3⟩ := hz4.cells; have zf : ∀ j, w4.frozen? ⟨w.heap.size + 1, j, none⟩ = false := (fun j => by unfold At3 at hz4; simp [World.frozen?, hz4])))
  have HX : Hid (At3 (((w4.setCell ⟨w.heap.size + 1, 0, none⟩ (.int .i64 n)).setCell ⟨w.heap.size + 1, 1, none⟩ (.slice a' ns ca')).setCell ⟨w.heap.size + 1, 2, none⟩ (.slice b' nd cb')) (w.heap.size + 1) (.int .i64 n) (.slice a' ns ca') (.slice b' nd cb') /\ Tn (((w4.setCell ⟨w.heap.size + 1, 0, none⟩ (.int .i64 n)).setCell ⟨w.heap.size + 1, 1, none⟩ (.slice a' ns ca')).setCell ⟨w.heap.size + 1, 2, none⟩ (.slice b' nd cb')) w.heap.size ⟨n, sl, dl⟩ a' b' ca' cb' /\ Below w.heap.size w (((w4.setCell ⟨w.heap.size + 1, 0, none⟩ (.int .i64 n)).setCell ⟨w.heap.size + 1, 1, none⟩ (.slice a' ns ca')).setCell ⟨w.heap.size + 1, 2, none⟩ (.slice b' nd cb'))) := hide (by
    have hs3 : V0.heap.size <= w3.heap.size := hy3.size
    have o3 : POo w3 V0.heap.size a' sl := ho3
    refine ⟨hz4.set _ _ _, ⟨(((o3.below q4).kept (fun g hg hlt => set3_heap _ _ _ _ _ _ (by omega))).base (by omega)), ((ho4.kept (fun g hg hlt => set3_heap _ _ _ _ _ _ (by omega))).base (by omega)), ho3.ne ho4 (Nat.le_refl _), by rw [HNS.out]; exact hl3, by rw [HND.out]; exact hl4⟩, below_set3 (HBV.out _ hb4) _ _ _ (by omega)⟩)
  clear z0 z1 z2 z3 zf hz4 hb4 hb3 hy3 q3 q4 ho3 ho4 HSV HBV HM HD0 HB1 HC1 HC2 HZ
  generalize ((w4.setCell ⟨w.heap.size + 1, 0, none⟩ (.int .i64 n)).setCell ⟨w.heap.size + 1, 1, none⟩ (.slice a' ns ca')).setCell ⟨w.heap.size + 1, 2, none⟩ (.slice b' nd cb') = W5 at *
  go_wp2_with fail
  have hR := HX.out.1
  unfold At3 at hR
  refine bodyPost_ret (results_c rfl _ _ (w.heap.size + 1) _ _ _ _ rfl hR Tryd.underlying24 rfl (by exact infoT)) rfl ?_
  exact ⟨a', b', ca', cb', rfl, HX.out.2.1, HX.out.2.2⟩
end Go.Proofs.YtpehekonjdneaaaDoor.Tbl
