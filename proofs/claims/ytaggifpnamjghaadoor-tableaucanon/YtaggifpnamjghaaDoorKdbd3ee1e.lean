import Derived.Test.YtaggifpnamjghaaDoorKde426133
import Derived.Shelf.Abstract
set_option maxRecDepth 100000
set_option maxHeartbeats 1000000
namespace Go.Proofs.YtaggifpnamjghaaDoor.Tbl
open Go.RowKit Go.Shelf Go.Proofs.YtaggifpnamjghaaDoor.Pau Go.Proofs.YtaggifpnamjghaaDoor.Gt
def Tell (D : P -> Prop) (w : World) (fv : Value) (T : P -> Bool) : Prop := ∃ f cap, fv = .func (.func f) #[] cap /\ (∀ args V, (callFunc f args).run Tryd.prog V = .ok (.enter f args) V) /\ ∀ V, Below w.heap.size w V -> ∀ p, D p -> Calls Tryd.prog f (#[pV p] ++ cap) V fun e w' => e = .returned (.bool (T p)) /\ Below V.heap.size V w'
theorem tTurn1 (p q : P) (hp : Wd p) (hq : Wd q) (g : Nat) (w : World) (h : At4 w g (.int .i64 q.n) (.int .u64 (q.x : Int)) (.int .u64 (q.z : Int)) (.int .i64 q.ph)) :
    Calls Tryd.prog 70 #[pV p, .pointer (some ⟨g, 0, none⟩)] w fun e w' => e = .returned (.bool (!cmB p q)) /\ Below w.heap.size w w' := by
  have c1 := fun W => tCommute p q hp hq W
  generalize cmB p q = r at *
  obtain ⟨n, x, z, ph⟩ := p
  obtain ⟨n', x', z', ph'⟩ := q
  unfold pV at *
  simp only at *
  have HB := hide (bnew w (.cells #[.int .i64 n, .int .u64 (x : Int), .int .u64 (z : Int), .int .i64 ph] 32))
  obtain ⟨x0, x1, x2, x3, x4⟩ := (h.below HB.out).cells
  clear hp hq h
  go_enter Tryd.func70, Tryd.ntmps70
  go_wp2_with (go_at_call 40; refine (c1 _).mono ?_; rintro e w1 ⟨rfl, hb1⟩; have HB1 := hide (bkp HB.out hb1))
  go_ret
  exact ⟨rfl, HB1.out⟩
theorem eTurn1 : ∀ args w, (callFunc 70 args).run Tryd.prog w = .ok (.enter 70 args) w := enters_of Tryd.func70 (by kernel_rfl) rfl
theorem tTurning (q : P) (hq : Wd q) (w : World) :
    Calls Tryd.prog 54 #[pV q] w fun e w' => (∃ fv, e = .returned fv /\ Tell Wd w' fv (fun p => !cmB p q)) /\ Below w.heap.size w w' := by
  have HB := hide (bnew w (.cells #[.int .i64 q.n, .int .u64 (q.x : Int), .int .u64 (q.z : Int), .int .i64 q.ph] 32))
  have HA := hide (At4.new w (.int .i64 q.n) (.int .u64 (q.x : Int)) (.int .u64 (q.z : Int)) (.int .i64 q.ph))
  have HT : Hid (Tell Wd (w.alloc (.cells #[.int .i64 q.n, .int .u64 (q.x : Int), .int .u64 (q.z : Int), .int .i64 q.ph] 32)) (.func (.func 70) #[] #[.pointer (some ⟨w.heap.size, 0, none⟩)]) (fun p => !cmB p q)) := hide ⟨70, _, rfl, eTurn1, fun V hb p hp => tTurn1 p q hp hq w.heap.size V (HA.out.below hb)⟩
  generalize (fun p => !cmB p q) = T at *
  obtain ⟨n, x, z, ph⟩ := q
  unfold pV
  simp only at *
  clear hq HA
  go_enter Tryd.func54, Tryd.ntmps54
  go_wp2_with fail
  go_ret
  exact ⟨⟨_, rfl, HT.out⟩, HB.out⟩
def ixF (T : P -> Bool) (l : List P) : Int := if l.any T = true then (l.findIdx T : Int) else -1
theorem tIndexF (D : P -> Prop) (T : P -> Bool) (fv : Value) (l : List P) (hw : ∀ p ∈ l, D p) (ao : Option Addr) (k : Nat) (hn : l.length <= 1000000000000000) (w : World) (hO : PIn w ao l) (hf : Tell D w fv T) :
    Calls Tryd.prog 55 #[.slice ao l.length k, fv] w fun e w' => e = .returned (.int .i64 (ixF T l)) /\ Below w.heap.size w w' := by
  obtain ⟨f, cap, rfl, he, hf⟩ := hf
  have HO := hide hO
  obtain ⟨n, hn'⟩ : ∃ n, l.length = n := ⟨_, rfl⟩
  have HL := hide hn'
  have HW := hide hw
  have HY : Hid (∀ i p, l[i]? = some p -> (l.take i).any T = false -> T p = true -> ixF T l = (i : Int)) := hide (fun i p hp hi hT => by
    have hany : l.any T = true := List.any_eq_true.2 ⟨p, List.mem_of_getElem? hp, hT⟩
    unfold ixF
    rw [if_pos hany]
    have hlt := (List.getElem?_eq_some_iff.1 hp).1
    have he := (List.getElem?_eq_some_iff.1 hp).2
    congr 1
    rw [List.findIdx_eq hlt]
    refine ⟨by rw [he]; exact hT, fun j hj => ?_⟩
    have := List.any_eq_false.1 hi l[j] (List.mem_of_getElem? (i := j) (by rw [List.getElem?_take_of_lt hj, List.getElem?_eq_getElem]))
    simpa using this)
  have HZ : Hid (l.any T = false -> ixF T l = -1) := hide (fun h => by unfold ixF; rw [h]; rfl)
  generalize ixF T l = R at *
  rw [hn'] at hn ⊢
  clear hn' hO hw
  go_enter Tryd.func55, Tryd.ntmps55
  go_wp2_with fail
  go_loopw [5, 8] (fun _ vi wr => ∃ i : Nat, vi = .int .i64 (i : Int) /\ i <= n /\ Hid ((l.take i).any T = false) /\ Below w.heap.size w wr) (fun _ vi _ => n - (Go.RowKit.intOf vi).toNat)
  case atStart => exact ⟨0, rfl, Nat.zero_le _, hide rfl, Below.refl _ _⟩
  case round =>
    obtain ⟨i, rfl, hi, HA, hb⟩ := hrel
    by_cases h : i < n
    . have hd : decide ((i : Int) < (n : Int)) = true := decide_eq_true (by omega)
      obtain ⟨p, hp⟩ : ∃ p, l[i]? = some p := ⟨_, List.getElem?_eq_getElem (by rw [HL.out]; exact h)⟩
      obtain ⟨g, off, rfl, hgl, ⟨a0, a1, a2, a3⟩⟩ := (HO.out.below hb).at hp
      have c1 := hf wr hb p (HW.out p (List.mem_of_getElem? hp))
      have HS : Hid (T p = false -> (l.take (i + 1)).any T = false) := hide (fun e => by
        rw [List.take_add_one, hp, List.any_append, HA.out]
        simp [e])
      have HR : Hid (T p = true -> R = (i : Int)) := hide (fun e => HY.out i p hp HA.out e)
      unfold pV at c1
      generalize T p = po at *
      clear hp
      obtain ⟨m, x, z, ph⟩ := p
      simp only at a0 a1 a2 a3 c1
      cases po with
      | true =>
        have hR := HR.out rfl
        subst hR
        clear HS HR
        go_wp2_with fail
        refine c1.mono ?_
        rintro e w2 ⟨rfl, hb2⟩
        go_wp2_with fail
        go_ret
        exact ⟨rfl, bkp hb hb2⟩
      | false =>
        have HS2 := hide (HS.out rfl)
        clear HS HR
        go_wp2_with fail
        refine c1.mono ?_
        rintro e w2 ⟨rfl, hb2⟩
        go_wp2_with fail
        go_roundw
        case rel => exact ⟨i + 1, by go_num, by omega, HS2, bkp hb hb2⟩
        case measure => simp [Go.RowKit.intOf]; omega
    . obtain rfl : n = i := by omega
      have hz := HA.out
      rw [List.take_of_length_le (by rw [HL.out]; exact Nat.le_refl _)] at hz
      have hR := HZ.out hz
      subst hR
      clear hz HA
      go_wp2_with fail
      go_ret
      exact ⟨rfl, hb⟩
theorem tContainsF (D : P -> Prop) (T : P -> Bool) (fv : Value) (l : List P) (hw : ∀ p ∈ l, D p) (ao : Option Addr) (k : Nat) (hn : l.length <= 1000000000000000) (w : World) (hO : PIn w ao l) (hf : Tell D w fv T) :
    Calls Tryd.prog 66 #[.slice ao l.length k, fv] w fun e w' => e = .returned (.bool (l.any T)) /\ Below w.heap.size w w' := by
  have c1 := tIndexF D T fv l hw ao k hn w hO hf
  have hr : decide (0 <= ixF T l) = l.any T := by
    unfold ixF
    cases l.any T
    . rfl
    . exact decide_eq_true (by simp)
  rw [← hr]
  clear hr
  generalize ixF T l = R at *
  generalize l.length = n at *
  clear hf hO
  go_enter Tryd.func66, Tryd.ntmps66
  go_wp2_with (first | (go_at_call 55; refine c1.mono ?_; rintro e w2 ⟨rfl, hb2⟩))
  go_ret
  exact ⟨rfl, hb2⟩
end Go.Proofs.YtaggifpnamjghaaDoor.Tbl
