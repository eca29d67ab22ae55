import Derived.Test.YtnghfdnlcnocjaaGreatDoorE63e1beaa
import Derived.BigQuiet
set_option maxRecDepth 100000
set_option maxHeartbeats 1000000
namespace Go.Proofs.YtnghfdnlcnocjaaGreatDoor.Gt
open Go.RowKit Go.Proofs.YtnghfdnlcnocjaaGreatDoor.Oct
theorem below_drewN {B : Nat} {a w : World} (h : Below B a w) (n : Nat) : Below B a (w.drewN n) := ⟨h.os, h.tape, h.output, h.size, h.block⟩
def Rk (w : World) (g : Nat) (t : TypeId) (n : Nat) (f : Nat -> Value) : Prop := ∃ cur : Array Value, w.heap[g]? = some (.cells cur t (0, 0)) /\ n <= cur.size /\ ∀ i, i < n -> cur[i]? = some (f i)
namespace Rk
variable {w : World} {g : Nat} {t : TypeId} {n : Nat} {f f' : Nat -> Value}
theorem cell (h : Rk w g t n f) (i : Nat) (hi : i < n) : w.cell? ⟨g, i, none⟩ = some (f i) := by
  obtain ⟨c, hb, _, hc⟩ := h
  simp [World.cell?, hb, hc i hi]
theorem frozen (h : Rk w g t n f) (i : Nat) : w.frozen? ⟨g, i, none⟩ = false := by
  obtain ⟨c, hb, _, _⟩ := h
  simp [World.frozen?, hb]
theorem lt (h : Rk w g t n f) : g < w.heap.size := by
  obtain ⟨c, hb, _, _⟩ := h
  exact (Array.getElem?_eq_some_iff.1 hb).1
theorem congr (h : Rk w g t n f) (e : ∀ i, i < n -> f i = f' i) : Rk w g t n f' := by
  obtain ⟨c, hb, hn, hc⟩ := h
  exact ⟨c, hb, hn, fun i hi => by rw [hc i hi, e i hi]⟩
theorem of_block {w' : World} (h : Rk w g t n f) (e : w'.heap[g]? = w.heap[g]?) : Rk w' g t n f := by
  obtain ⟨c, hb, hn, hc⟩ := h
  exact ⟨c, e.trans hb, hn, hc⟩
theorem below {w' : World} (h : Rk w g t n f) (hb : Below w.heap.size w w') : Rk w' g t n f := h.of_block (hb.block g h.lt)
theorem set (h : Rk w g t n f) (i : Nat) (v : Value) : Rk (w.setCell ⟨g, i, none⟩ v) g t n (fun j => if j = i then v else f j) := by
  obtain ⟨c, hb, hn, hc⟩ := h
  refine ⟨c.setIfInBounds i v, ?_, by simpa using hn, fun j hj => ?_⟩
  . simp [World.setCell, Array.getElem?_modify, hb]
  . rw [Array.getElem?_setIfInBounds]
    by_cases e : j = i
    . subst e
      have : j < c.size := by omega
      simp [this]
    . rw [if_neg (fun h => e h.symm)]
      show c[j]? = some (if j = i then v else f j)
      rw [if_neg e]
      exact hc j hj
end Rk
theorem rk_own {w : World} {B : Nat} {t : TypeId} {g n c m : Nat} {xs : List Value} (h : w.ownsRow B t 1 (.slice (some ⟨g, 0, none⟩) m c) n xs) (f : Nat -> Value) (hf : ∀ i, i < n -> xs[i]? = some (f i)) : Rk w g t n f /\ B <= g := by
  rcases h.2 with ⟨hv, _⟩ | ⟨g', cap, cur, hv, hbg, hg, h1, h2, h3, h4⟩
  . simp at hv
  . simp only [Value.slice.injEq, Option.some.injEq, Addr.mk.injEq] at hv
    obtain ⟨⟨rfl, _⟩, _, _⟩ := hv
    refine ⟨⟨cur, hg, by omega, fun i hi => ?_⟩, hbg⟩
    have := hf i hi
    rw [← h4, List.getElem?_take, if_pos (by omega)] at this
    simpa using this
theorem kl_at (n i : Nat) (h : i + 1 < n) : (kl n)[i]? = some (.int .i64 ((i + 1 : Nat) : Int)) := by
  unfold kl
  rw [List.getElem?_map, List.getElem?_drop, Nat.add_comm, List.getElem?_range h]
  rfl
theorem rk_kinds {w : World} {B g c : Nat} (h : w.ownsRow B 31 1 (.slice (some ⟨g, 0, none⟩) 20 c) 20 (kl 21)) : Rk w g 31 20 (fun j => .int .i64 ((j + 1 : Nat) : Int)) /\ B <= g :=
  rk_own h _ (fun i hi => kl_at 21 i (by omega))
def ofG (l : List UInt8) : Nat -> Nat -> Int × Int
  | 0, _ => (0, 60)
  | n + 1, i => if (rw' ((i + 1 : Nat) : Int)).nm = l then (((i + 1 : Nat) : Int), 0) else ofG l n (i + 1)
def ofP (l : List UInt8) : Int × Int := ofG l 20 0
theorem ba_eq (a b : List UInt8) : (a == b) = decide (a = b) := by
  by_cases h : a = b <;> simp [h]
theorem gOf (l : List UInt8) (w : World) (hT : Tb w) : Calls Tryz.prog 156 #[.string ⟨l.toArray⟩] w fun e w' => e = .returned (.tuple #[.int .i64 (ofP l).1, .int .i64 (ofP l).2]) /\ Below w.heap.size w w' := by
  have HP : Hid (ofP l = ofG l 20 0) := hide rfl
  generalize ofP l = P at *
  go_enter Tryz.func156, Tryz.ntmps156
  go_wp2_with fail
  refine (gKinds _ hT).mono ?_
  rintro e w1 ⟨g, c, rfl, hown, hb1⟩
  obtain ⟨hR, hg⟩ := rk_kinds hown
  clear hown
  go_wp2_with fail
  go_loopw [8] (fun vi wr => ∃ i : Nat, vi = .int .i64 (i : Int) /\ i <= 20 /\ Hid (P = ofG l (20 - i) i) /\ Rk wr g 31 20 (fun j => .int .i64 ((j + 1 : Nat) : Int)) /\ Below w.heap.size w wr) (fun vi _ => 20 - (Go.RowKit.intOf vi).toNat)
  case atStart => exact ⟨0, rfl, by omega, HP, hR, hb1⟩
  case round =>
    clear hR hb1 HP
    obtain ⟨i, rfl, hi, HP, hR, hb⟩ := hrel
    have hTr := hT.below hb
    by_cases h : i < 20
    . have hd : decide ((i : Int) < 20) = true := decide_eq_true (by omega)
      have hcell := hR.cell i h
      have cN := fun w hT => gName ((i + 1 : Nat) : Int) w hT
      have Hs : Hid (P = if (rw' ((i + 1 : Nat) : Int)).nm = l then (((i + 1 : Nat) : Int), 0) else ofG l (20 - (i + 1)) (i + 1)) := hide (by
        rw [HP.out]
        obtain ⟨m, hm⟩ : ∃ m, 20 - i = m + 1 := ⟨19 - i, by omega⟩
        rw [hm, ofG, show 20 - (i + 1) = m by omega])
      have hse := ba_eq (rw' ((i + 1 : Nat) : Int)).nm l
      clear HP
      by_cases he : (rw' ((i + 1 : Nat) : Int)).nm = l
      . rw [decide_eq_true he] at hse
        have HP : Hid (P = (((i + 1 : Nat) : Int), 0)) := hide (by rw [Hs.out, if_pos he])
        clear Hs he
        generalize (rw' ((i + 1 : Nat) : Int)).nm = nm at *
        go_wp2_with fail
        refine (cN _ hTr).mono ?_
        rintro e w2 ⟨rfl, hb2⟩
        have hbb := hb.trans (hb2.mono hb.size)
        go_wp2_with fail
        go_ret2
        exact ⟨by rw [HP.out]; rfl, hbb⟩
      . rw [decide_eq_false he] at hse
        have HP : Hid (P = ofG l (20 - (i + 1)) (i + 1)) := hide (by rw [Hs.out, if_neg he])
        clear Hs he
        generalize (rw' ((i + 1 : Nat) : Int)).nm = nm at *
        go_wp2_with fail
        refine (cN _ hTr).mono ?_
        rintro e w2 ⟨rfl, hb2⟩
        have hbb := hb.trans (hb2.mono hb.size)
        have hR2 := hR.below hb2
        go_wp2_with fail
        exact ⟨⟨i + 1, by go_num, by omega, HP, hR2, hbb⟩, by simp [Go.RowKit.intOf]; omega⟩
    . obtain rfl : i = 20 := by omega
      go_wp2_with fail
      go_ret2
      exact ⟨by rw [HP.out]; rfl, hb⟩
end Go.Proofs.YtnghfdnlcnocjaaGreatDoor.Gt
