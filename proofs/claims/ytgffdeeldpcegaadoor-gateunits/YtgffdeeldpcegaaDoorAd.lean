/- The kind of a name; the document's kinds; the law GateNames, as it is walked. -/
import Derived.Test.YtgffdeeldpcegaaDoorAc
import Derived.Deep.QuietTactic
import Derived.BigQuiet
namespace Go.Proofs.YtgffdeeldpcegaaDoor.Gt
open Go.RowKit Go.Proofs.YtgffdeeldpcegaaDoor.Oct

theorem below_drewN {B : Nat} {a w : World} (h : Below B a w) (n : Nat) : Below B a (w.drewN n) := ⟨h.os, h.tape, h.output, h.size, h.block⟩
/-- A row whose first n cells are told by their places. -/
def Rk (w : World) (g : Nat) (t : TypeId) (n : Nat) (f : Nat → Value) : Prop := ∃ cur : Array Value, w.heap[g]? = some (.cells cur t (0, 0)) ∧ n ≤ cur.size ∧ ∀ i, i < n → cur[i]? = some (f i)
namespace Rk
variable {w : World} {g : Nat} {t : TypeId} {n : Nat} {f f' : Nat → Value}
theorem cell (h : Rk w g t n f) (i : Nat) (hi : i < n) : w.cell? ⟨g, i, none⟩ = some (f i) := by
  obtain ⟨c, hb, _, hc⟩ := h
  simp [World.cell?, hb, hc i hi]
theorem frozen (h : Rk w g t n f) (i : Nat) : w.frozen? ⟨g, i, none⟩ = false := by
  obtain ⟨c, hb, _, _⟩ := h
  simp [World.frozen?, hb]
theorem lt (h : Rk w g t n f) : g < w.heap.size := by
  obtain ⟨c, hb, _, _⟩ := h
  exact (Array.getElem?_eq_some_iff.1 hb).1
theorem congr (h : Rk w g t n f) (e : ∀ i, i < n → f i = f' i) : Rk w g t n f' := by
  obtain ⟨c, hb, hn, hc⟩ := h
  exact ⟨c, hb, hn, fun i hi => by rw [hc i hi, e i hi]⟩
theorem of_block {w' : World} (h : Rk w g t n f) (e : w'.heap[g]? = w.heap[g]?) : Rk w' g t n f := by
  obtain ⟨c, hb, hn, hc⟩ := h
  exact ⟨c, e.trans hb, hn, hc⟩
theorem below {w' : World} (h : Rk w g t n f) (hb : Below w.heap.size w w') : Rk w' g t n f := h.of_block (hb.block g h.lt)
theorem set (h : Rk w g t n f) (i : Nat) (v : Value) : Rk (w.setCell ⟨g, i, none⟩ v) g t n (fun j => if j = i then v else f j) := by
  obtain ⟨c, hb, hn, hc⟩ := h
  refine ⟨c.setIfInBounds i v, ?_, by simpa using hn, fun j hj => ?_⟩
  · simp [World.setCell, Array.getElem?_modify, hb]
  · rw [Array.getElem?_setIfInBounds]
    by_cases e : j = i
    · subst e
      have : j < c.size := by omega
      simp [this]
    · rw [if_neg (fun h => e h.symm)]
      show c[j]? = some (if j = i then v else f j)
      rw [if_neg e]
      exact hc j hj
theorem far (h : Rk w g t n f) {a : Addr} (ha : g ≠ a.block) (v : Value) : Rk (w.setCell a v) g t n f := h.of_block (Below.heap_setCell _ _ _ _ ha)
end Rk
/-- A row of the call's own, by its places. -/
theorem rk_own {w : World} {B : Nat} {t : TypeId} {g n c m : Nat} {xs : List Value} (h : w.ownsRow B t 1 (.slice (some ⟨g, 0, none⟩) m c) n xs) (f : Nat → Value) (hf : ∀ i, i < n → xs[i]? = some (f i)) : Rk w g t n f ∧ B ≤ g := by
  rcases h.2 with ⟨hv, _⟩ | ⟨g', cap, cur, hv, hbg, hg, h1, h2, h3, h4⟩
  · simp at hv
  · simp only [Value.slice.injEq, Option.some.injEq, Addr.mk.injEq] at hv
    obtain ⟨⟨rfl, _⟩, _, _⟩ := hv
    refine ⟨⟨cur, hg, by omega, fun i hi => ?_⟩, hbg⟩
    have := hf i hi
    rw [← h4, List.getElem?_take, if_pos (by omega)] at this
    simpa using this
theorem kl_at (n i : Nat) (h : i + 1 < n) : (kl n)[i]? = some (.int .i64 ((i + 1 : Nat) : Int)) := by
  unfold kl
  rw [List.getElem?_map, List.getElem?_drop, Nat.add_comm, List.getElem?_range h]
  rfl
theorem rk_kinds {w : World} {B g c : Nat} (h : w.ownsRow B 24 1 (.slice (some ⟨g, 0, none⟩) 20 c) 20 (kl 21)) : Rk w g 24 20 (fun j => .int .i64 ((j + 1 : Nat) : Int)) ∧ B ≤ g :=
  rk_own h _ (fun i hi => kl_at 21 i (by omega))
/-- The kind of a name, from a place on. -/
def ofG (l : List UInt8) : Nat → Nat → Int × Int
  | 0, _ => (0, 60)
  | n + 1, i => if (rw' ((i + 1 : Nat) : Int)).nm = l then (((i + 1 : Nat) : Int), 0) else ofG l n (i + 1)
def ofP (l : List UInt8) : Int × Int := ofG l 20 0
theorem ba_eq (a b : List UInt8) : (a == b) = decide (a = b) := by
  by_cases h : a = b <;> simp [h]
set_option maxRecDepth 100000 in
set_option maxHeartbeats 1000000 in
theorem gOf (l : List UInt8) (w : World) (hT : Tb w) : Calls Tryd.prog 11 #[.string ⟨l.toArray⟩] w fun e w' => e = .returned (.tuple #[.int .i64 (ofP l).1, .int .i64 (ofP l).2]) ∧ Below w.heap.size w w' := by
  have HP : Hid (ofP l = ofG l 20 0) := hide rfl
  generalize ofP l = P at *
  go_enter Tryd.func11, Tryd.ntmps11
  go_wp2_with fail
  refine (gKinds _ hT).mono ?_
  rintro e w1 ⟨g, c, rfl, hown, hb1⟩
  obtain ⟨hR, hg⟩ := rk_kinds hown
  clear hown
  go_wp2_with fail
  go_loopw [8] (fun vi wr => ∃ i : Nat, vi = .int .i64 (i : Int) ∧ i ≤ 20 ∧ Hid (P = ofG l (20 - i) i) ∧ Rk wr g 24 20 (fun j => .int .i64 ((j + 1 : Nat) : Int)) ∧ Below w.heap.size w wr) (fun vi _ => 20 - (Go.RowKit.intOf vi).toNat)
  case atStart => exact ⟨0, rfl, by omega, HP, hR, hb1⟩
  case round =>
    clear hR hb1 HP
    obtain ⟨i, rfl, hi, HP, hR, hb⟩ := hrel
    have hTr := hT.below hb
    by_cases h : i < 20
    · have hd : decide ((i : Int) < 20) = true := decide_eq_true (by omega)
      have hcell := hR.cell i h
      have cN := fun w hT => gName ((i + 1 : Nat) : Int) w hT
      have Hs : Hid (P = if (rw' ((i + 1 : Nat) : Int)).nm = l then (((i + 1 : Nat) : Int), 0) else ofG l (20 - (i + 1)) (i + 1)) := hide (by
        rw [HP.out]
        obtain ⟨m, hm⟩ : ∃ m, 20 - i = m + 1 := ⟨19 - i, by omega⟩
        rw [hm, ofG, show 20 - (i + 1) = m by omega])
      have hse := ba_eq (rw' ((i + 1 : Nat) : Int)).nm l
      clear HP
      by_cases he : (rw' ((i + 1 : Nat) : Int)).nm = l
      · rw [decide_eq_true he] at hse
        have HP : Hid (P = (((i + 1 : Nat) : Int), 0)) := hide (by rw [Hs.out, if_pos he])
        clear Hs he
        generalize (rw' ((i + 1 : Nat) : Int)).nm = nm at *
        go_wp2_with fail
        refine (cN _ hTr).mono ?_
        rintro e w2 ⟨rfl, hb2⟩
        have hbb := hb.trans (hb2.mono hb.size)
        go_wp2_with fail
        go_ret2
        exact ⟨by rw [HP.out]; rfl, hbb⟩
      · rw [decide_eq_false he] at hse
        have HP : Hid (P = ofG l (20 - (i + 1)) (i + 1)) := hide (by rw [Hs.out, if_neg he])
        clear Hs he
        generalize (rw' ((i + 1 : Nat) : Int)).nm = nm at *
        go_wp2_with fail
        refine (cN _ hTr).mono ?_
        rintro e w2 ⟨rfl, hb2⟩
        have hbb := hb.trans (hb2.mono hb.size)
        have hR2 := hR.below hb2
        go_wp2_with fail
        exact ⟨⟨i + 1, by go_num, by omega, HP, hR2, hbb⟩, by simp [Go.RowKit.intOf]; omega⟩
    · obtain rfl : i = 20 := by omega
      go_wp2_with fail
      go_ret2
      exact ⟨by rw [HP.out]; rfl, hb⟩
theorem jNum (z : Int) (w : World) : Calls Tryd.prog 13 #[.int .i64 z] w fun e w' => e = .returned (.int .i64 z) ∧ w' = w := by
  go_enter Tryd.func13, Tryd.ntmps13
  go_wp2
  go_ret
  exact ⟨rfl, rfl⟩
set_option maxRecDepth 100000 in
set_option maxHeartbeats 1000000 in
theorem hKinds (w : World) : Calls Tryd.prog 10 #[] w fun e w' => ∃ g c, e = .returned (.slice (some ⟨g, 0, none⟩) 20 c) ∧ w'.ownsRow w.heap.size 24 1 (.slice (some ⟨g, 0, none⟩) 20 c) 20 (kl 21) ∧ Below w.heap.size w w' := by
  go_enter Tryd.func10, Tryd.ntmps10
  go_wp2_with fail
  go_loopw [1, 2] (fun vl vk wr => ∃ (k c : Nat) (ao : Option Addr), vl = .slice ao k c ∧ vk = .int .i64 ((k + 1 : Nat) : Int) ∧ k ≤ 20 ∧ wr.ownsRow w.heap.size 24 1 (.slice ao k c) k (kl (k + 1)) ∧ Below w.heap.size w wr) (fun _ vk _ => 21 - (Go.RowKit.intOf vk).toNat)
  case atStart => exact ⟨0, 0, none, rfl, rfl, Nat.zero_le _, World.ownsRow_nil w _ _ 1, Below.refl _ _⟩
  case round =>
    obtain ⟨k, c, ao, rfl, rfl, hk, hown, hb⟩ := hrel
    by_cases hkn : k < 20
    · have hkz : decide (((k + 1 : Nat) : Int) ≤ 20) = true := decide_eq_true (by omega)
      have HK : Hid (kl (k + 1 + 1) = kl (k + 1) ++ [.int .i64 ((k + 1 : Nat) : Int)]) := hide (kl_succ (k + 1) (by omega))
      generalize kl (k + 1) = L at *
      have hs := hb.size
      go_wp2_with (at_builtin; refine wpList_pushV rfl _ _ 22 rfl 24 Tryd.underlying22 _ 8 infoK rfl w.heap.size ao k c L rfl hown (.int .i64 ((k + 1 : Nat) : Int)) rfl rfl (by omega) (by omega) hs ?_)
      intro g2 c2 w2 hown2 hgrow hat
      have hb2 : Below w.heap.size w w2 := hb.grown hgrow hs (fun q hq => (hown.lt q (by rw [ob_eq]; exact hq)).1)
      clear hown hgrow hat
      go_wp2_with fail
      exact ⟨⟨k + 1, c2, some ⟨g2, 0, none⟩, rfl, by go_num, by omega, by rw [HK.out]; exact hown2, hb2⟩, by simp [Go.RowKit.intOf]; omega⟩
    · obtain rfl : k = 20 := by omega
      go_wp2_with fail
      go_ret
      rcases hown.2 with ⟨_, h0⟩ | ⟨g, cap, cur, hv, _⟩
      · exact absurd h0 (by decide)
      · simp only [Value.slice.injEq] at hv
        obtain ⟨rfl, _, _⟩ := hv
        exact ⟨g, c, rfl, hown, hb⟩
theorem of_name (i : Nat) (h : i < 20) : ofP (rw' ((i + 1 : Nat) : Int)).nm = (((i + 1 : Nat) : Int), 0) := by
  have := (by decide +kernel : ∀ n : Fin 20, ofP (rw' ((n.1 + 1 : Nat) : Int)).nm = (((n.1 + 1 : Nat) : Int), 0)) ⟨i, h⟩
  exact this
/-- Kinds of which the first ones are struck. -/
def kf (i : Nat) (j : Nat) : Value := if j < i then .int .i64 99 else .int .i64 ((j + 1 : Nat) : Int)
theorem kf_succ (i : Nat) : (fun j => if j = i then Value.int .i64 99 else kf i j) = kf (i + 1) := by
  funext j
  unfold kf
  by_cases h : j = i
  · rw [if_pos h, if_pos (by omega)]
  · rw [if_neg h]
    by_cases h2 : j < i
    · rw [if_pos h2, if_pos (by omega)]
    · rw [if_neg h2, if_neg (by omega)]
set_option maxRecDepth 100000 in
set_option maxHeartbeats 2000000 in
theorem xGateNames (w : World) (hT : Tb w) : Calls Tryd.prog 3 #[] w fun e w' => e = .returned (.bool true) ∧ Below w.heap.size w w' := by
  have cN := jNum
  go_enter Tryd.func3, Tryd.ntmps3
  go_wp2_with fail
  go_loopw [1] (fun vt wr => ∃ t : Nat, vt = .int .i64 (t : Int) ∧ t ≤ 2 ∧ Below w.heap.size w wr) (fun vt _ => 2 - (Go.RowKit.intOf vt).toNat)
  case atStart => exact ⟨0, rfl, by omega, Below.refl _ _⟩
  case round =>
    obtain ⟨t, rfl, ht, hb⟩ := hrel
    have hTr := hT.below hb
    by_cases h : t < 2
    · have hd : decide ((t : Int) < 2) = true := decide_eq_true (by omega)
      go_wp2_with fail
      refine (gKinds _ hTr).mono ?_
      rintro e w1 ⟨gl, cl, rfl, hown1, hb1⟩
      obtain ⟨hL, hgl⟩ := rk_kinds hown1
      clear hown1
      have hbb1 := hb.trans (hb1.mono hb.size)
      go_wp2_with fail
      refine (hKinds _).mono ?_
      rintro e w2 ⟨gm, cm, rfl, hown2, hb2⟩
      obtain ⟨hM, hgm⟩ := rk_kinds hown2
      have hne : gl ≠ gm := by have := hL.lt; omega
      replace hL := hL.below hb2
      have hbb2 := hbb1.trans (hb2.mono hbb1.size)
      have hgl' : w.heap.size ≤ gl := Nat.le_trans hb.size hgl
      clear hown2 hb1 hb2 hbb1 hTr
      go_wp2_with fail
      go_loopw [4] (fun vi wi => ∃ i : Nat, vi = .int .i64 (i : Int) ∧ i ≤ 20 ∧ Rk wi gl 24 20 (kf i) ∧ Rk wi gm 24 20 (fun j => .int .i64 ((j + 1 : Nat) : Int)) ∧ Below w.heap.size w wi) (fun vi _ => 20 - (Go.RowKit.intOf vi).toNat)
      case atStart => exact ⟨0, rfl, by omega, hL, hM, hbb2⟩
      case round =>
        clear hL hM hbb2 hb
        obtain ⟨i, rfl, hi, hL, hM, hb⟩ := hrel
        have hTr := hT.below hb
        by_cases hlt : i < 20
        · have hdi : decide ((i : Int) < 20) = true := decide_eq_true (by omega)
          have hcl := hL.cell i hlt
          have hcm := hM.cell i hlt
          have hfz := hL.frozen i
          rw [show kf i i = .int .i64 ((i + 1 : Nat) : Int) from if_neg (by omega)] at hcl
          have c1 := fun w hT => gName ((i + 1 : Nat) : Int) w hT
          have c2 := fun w hT => gOf (rw' ((i + 1 : Nat) : Int)).nm w hT
          rw [of_name i hlt] at c2
          generalize (rw' ((i + 1 : Nat) : Int)).nm = nm at *
          go_wp2_with fail
          refine (c1 _ hTr).mono ?_
          rintro e w3 ⟨rfl, hb3⟩
          go_wp2_with fail
          refine (c2 _ (hTr.below hb3)).mono ?_
          rintro e w4 ⟨rfl, hb4⟩
          have hb34 := hb3.trans (hb4.mono hb3.size)
          replace hcl := (hb34.cell hL.lt).trans hcl
          replace hcm := (hb34.cell hM.lt).trans hcm
          have hL4 := hL.below hb34
          have hM4 := hM.below hb34
          replace hfz := hL4.frozen i
          have hbb := hb.trans (hb34.mono hb.size)
          clear hL hM hb hb3 hb4 hb34 hTr c1 c2
          go_wp2_with fail
          go_quiet (first | (go_at_call 13; exact Calls.quiet_of_same (cN _ _)))
          go_wp2_with fail
          have hS := hL4.set i (.int .i64 99)
          rw [kf_succ] at hS
          have hM5 := hM4.far (a := ⟨gl, i, none⟩) hne.symm (.int .i64 99)
          exact ⟨⟨i + 1, by go_num, by omega, hS, hM5, (below_drewN hbb _).setCell hgl' _⟩, by simp [Go.RowKit.intOf]; omega⟩
        · obtain rfl : i = 20 := by omega
          clear hL hM
          go_wp2_with fail
          exact ⟨⟨t + 1, by go_num, by omega, hb⟩, by simp [Go.RowKit.intOf]; omega⟩
    · obtain rfl : t = 2 := by omega
      go_wp2_with (go_at_call 13; refine (cN _ _).mono ?_; rintro e' w' ⟨rfl, hw⟩; obtain rfl := hw.symm)
      go_ret
      exact ⟨rfl, hb⟩
theorem infoDe : (Tryd.prog.info? 82).map (·.size) = some 8 := by kernel_rfl
theorem dd_at {w : World} (h : Td w) (o : Nat) (l : List Int) (hl : dds[o]? = some l) (j : Nat) (v : Value) (hv : (l.map (Value.int .i64))[j]? = some v) : w.cell? ⟨0, o * 8 + j, none⟩ = some v := by
  refine h _ _ ?_
  have key : ∀ (L : List (List Int)), (∀ a ∈ L, a.length = 8) → ∀ (o : Nat), L[o]? = some l → (L.flatMap fun l => l.map (Value.int .i64))[o * 8 + j]? = some v := by
    intro L
    induction L with
    | nil => intro _ o ho; simp at ho
    | cons a r ih =>
      intro hall o ho
      have h8 : (a.map (Value.int .i64)).length = 8 := by rw [List.length_map]; exact hall a (by simp)
      cases o with
      | zero =>
        simp at ho
        subst ho
        rw [List.flatMap_cons, Nat.zero_mul, Nat.zero_add, List.getElem?_append_left ((List.getElem?_eq_some_iff.1 hv).1)]
        exact hv
      | succ o =>
        rw [List.flatMap_cons, List.getElem?_append_right (by omega), h8, show (o + 1) * 8 + j - 8 = o * 8 + j by omega]
        exact ih (fun b hb => hall b (by simp [hb])) o (by simpa using ho)
  exact key dds (by decide) o hl
end Go.Proofs.YtgffdeeldpcegaaDoor.Gt
