import Derived.Test.YtoickolhekhgmaaGreatDoorEn4231915e
import Derived.Test.YtoickolhekhgmaaGreatDoorEn15cb15cd
namespace Go.Proofs.YtoickolhekhgmaaGreatDoor.Gt
end Go.Proofs.YtoickolhekhgmaaGreatDoor.Gt
namespace Go.Proofs.YtoickolhekhgmaaGreatDoor.Oct
end Go.Proofs.YtoickolhekhgmaaGreatDoor.Oct
namespace Go.Proofs.YtoickolhekhgmaaGreatDoor.Tok
end Go.Proofs.YtoickolhekhgmaaGreatDoor.Tok
set_option maxRecDepth 100000
set_option maxHeartbeats 2000000
namespace Go.Proofs.YtoickolhekhgmaaGreatDoor.Cir
open Go.RowKit Go.Shelf Go.Proofs.YtoickolhekhgmaaGreatDoor.Oct Go.Proofs.YtoickolhekhgmaaGreatDoor.Tok Go.Proofs.YtoickolhekhgmaaGreatDoor.Gt
theorem eUnlike (ao : Option Addr) (c : Nat) (l : List Int) (n : Int) (hl : l.length <= 1000000000000000) (w : World) (hN : Ns w ao l) : Calls Tryz.prog 127 #[.slice ao l.length c, .int .i64 n] w fun e w' => e = .returned (.bool (apaP l n)) /\ Below w.heap.size w w' := by
  obtain ⟨R, hR⟩ : ∃ R, apaP l n = R := ⟨_, rfl⟩
  rw [hR]
  have HN := hide hN
  have HR := hide hR
  obtain ⟨m, hm⟩ : ∃ m, l.length = m := ⟨_, rfl⟩
  have HL := hide hm
  rw [hm] at hl ⊢
  clear hN hR hm
  go_enter Tryz.func127, Tryz.ntmps127
  go_wp2_with fail
  go_loopw [5, 6] (fun vi _ wr => ∃ i : Nat, vi = .int .i64 (i : Int) /\ i <= m /\ Hid (apaN l n i) /\ Below w.heap.size w wr) (fun vi _ _ => m - (Go.RowKit.intOf vi).toNat)
  case atStart => exact ⟨0, rfl, by omega, hide (fun j x hj => by omega), Below.refl _ _⟩
  case round =>
    obtain ⟨i, rfl, hi, HA, hb⟩ := hrel
    by_cases h : i < m
    . have hd : decide ((i : Int) < (m : Int)) = true := decide_eq_true (by omega)
      have hlt : i < l.length := by rw [HL.out]; exact h
      obtain ⟨z, hz⟩ : ∃ z, l[i]? = some z := ⟨_, List.getElem?_eq_getElem hlt⟩
      obtain ⟨g, off, rfl, hcs⟩ := (HN.out.below hb).resolve_left (fun e => by rw [e] at hz; simp at hz)
      have hcell := hcs i z hz
      have HSt : Hid (wiP z n = true -> z ∉ l.take i -> apaN l n (i + 1)) := hide (fun a b => apaN_step HA.out hz a b)
      have HNo : Hid (wiP z n = false ∨ z ∈ l.take i -> R = false) := hide (fun a => by
        rw [← HR.out, Bool.eq_false_iff]
        intro e
        have hh := apaN_all.2 e i z hlt hz
        rcases a with a | a
        . rw [a] at hh; exact absurd hh.1 (by simp)
        . exact hh.2 a)
      clear hcs
      by_cases hz0 : z < 0
      . have hzd : decide (z < 0) = true := decide_eq_true hz0
        have HF : Hid (R = false) := hide (HNo.out (.inl (by unfold wiP; rw [decide_eq_false (show ¬ 0 <= z by omega)]; rfl)))
        clear HSt HNo
        go_wp2_with fail
        go_ret
        exact ⟨by rw [HF.out]; rfl, hb⟩
      . have hzd : decide (z < 0) = false := decide_eq_false hz0
        by_cases hzn : n <= z
        . have hz1 : decide (z ≥ n) = true := decide_eq_true hzn
          have hz2 : decide (n <= z) = true := decide_eq_true hzn
          have HF : Hid (R = false) := hide (HNo.out (.inl (by unfold wiP; rw [decide_eq_false (show ¬ z < n by omega)]; simp)))
          clear HSt HNo
          go_wp2_with fail
          go_ret
          exact ⟨by rw [HF.out]; rfl, hb⟩
        . have hz1 : decide (z ≥ n) = false := decide_eq_false hzn
          have hz2 : decide (n <= z) = false := decide_eq_false hzn
          have HW : Hid (wiP z n = true) := hide (by unfold wiP; rw [decide_eq_true (show 0 <= z by omega), decide_eq_true (show z < n by omega)]; rfl)
          clear hz0 hzn
          go_wp2_with fail
          go_loopw [6] (fun vj wi => ∃ j : Nat, vj = .int .i64 (j : Int) /\ j <= i /\ Hid (∀ t, t < j -> l[t]? ≠ some z) /\ Below w.heap.size w wi) (fun vj _ => i - (Go.RowKit.intOf vj).toNat)
          case atStart => exact ⟨0, rfl, by omega, hide (fun t ht => absurd ht (by omega)), hb⟩
          case round =>
            clear hcell hb
            obtain ⟨j, rfl, hj, HJ, hb⟩ := hrel
            obtain ⟨g', off', hgo, hcs⟩ := (HN.out.below hb).resolve_left (fun e => by rw [e] at hz; simp at hz)
            cases hgo
            have hcell := hcs i z hz
            by_cases hji : j < i
            . have hjd : decide ((j : Int) < (i : Int)) = true := decide_eq_true (by omega)
              obtain ⟨y, hy⟩ : ∃ y, l[j]? = some y := ⟨_, List.getElem?_eq_getElem (by omega)⟩
              have hcy := hcs j y hy
              have hiZ : (i : Int) < (m : Int) := by omega
              have hjZ : (j : Int) < (m : Int) := by omega
              clear hcs
              by_cases hzy : y = z
              . have hbz : (y == z) = true := by simpa using hzy
                have HF : Hid (R = false) := hide (HNo.out (.inr (by
                  rw [← hzy]
                  refine List.mem_of_getElem? (i := j) ?_
                  rw [List.getElem?_take, if_pos hji]
                  exact hy)))
                clear HSt HNo hzy hz hy
                go_wp2_with fail
                go_quiet (fail)
                go_wp2_with fail
                go_ret
                exact ⟨by rw [HF.out]; rfl, below_drewN hb _⟩
              . have hbz : (y == z) = false := by simpa using hzy
                have HJ2 : Hid (∀ t, t < j + 1 -> l[t]? ≠ some z) := hide (fun t ht => by
                  by_cases e : t = j
                  . rw [e, hy]; intro e'; cases e'; exact hzy rfl
                  . exact HJ.out t (by omega))
                clear HJ hzy hy
                go_wp2_with fail
                go_quiet (fail)
                go_wp2_with fail
                exact ⟨⟨j + 1, by go_num, by omega, HJ2, below_drewN hb _⟩, by simp [Go.RowKit.intOf]; omega⟩
            . obtain rfl : j = i := by omega
              have HF : Hid (apaN l n (j + 1)) := hide (HSt.out HW.out (by
                intro hmem
                obtain ⟨t, ht, e⟩ := List.getElem_of_mem hmem
                rw [List.length_take] at ht
                refine HJ.out t (by omega) ?_
                rw [List.getElem_take] at e
                rw [List.getElem?_eq_getElem (by omega), e]))
              clear HSt HNo HJ hcs hz
              go_wp2_with fail
              exact ⟨⟨j + 1, by go_num, by omega, HF, hb⟩, by simp [Go.RowKit.intOf]; omega⟩
    . obtain rfl : i = m := by omega
      have HF : Hid (R = true) := hide (by
        rw [← HR.out]
        refine apaN_all.1 ?_
        rw [HL.out]
        exact HA.out)
      go_wp2_with fail
      go_ret
      exact ⟨by rw [HF.out]; rfl, hb⟩
end Go.Proofs.YtoickolhekhgmaaGreatDoor.Cir
