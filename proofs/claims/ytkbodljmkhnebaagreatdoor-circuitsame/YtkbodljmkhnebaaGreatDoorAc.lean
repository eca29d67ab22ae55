/- Package gate: what is said of a kind by a yes or a no; all kinds; the kind of a name. -/
import Derived.Test.YtkbodljmkhnebaaGreatDoorAb
namespace Go.Proofs.YtkbodljmkhnebaaGreatDoor.Gt
open Go.RowKit Go.Proofs.YtkbodljmkhnebaaGreatDoor.Oct

theorem rw_t (k : Int) : (rw' k).t = 0 ∨ (rw' k).t = 2 ∨ (rw' k).t = 3 ∨ (rw' k).t = 4 ∨ (rw' k).t = 6 := by
  unfold rw'
  by_cases h : 0 ≤ k ∧ k < 21
  · rw [if_pos h]
    have h2 : k.toNat < 21 := by omega
    generalize k.toNat = n at h2
    have := (by decide +kernel : ∀ n : Fin 21, (tab.getD n.1 r0).t = 0 ∨ (tab.getD n.1 r0).t = 2 ∨ (tab.getD n.1 r0).t = 3 ∨ (tab.getD n.1 r0).t = 4 ∨ (tab.getD n.1 r0).t = 6) ⟨n, h2⟩
    exact this
  · rw [if_neg h]; exact .inl rfl
def hvB (r : Rw) : Bool := r.t % 2 == 1
def clB (r : Rw) : Bool := r.t / 2 % 2 == 1
def dgB (r : Rw) : Bool := r.t / 4 % 2 == 1
def knB (r : Rw) : Bool := decide (0 < r.q)
def mnB (r : Rw) : Bool := knB r && !hvB r
theorem own_below {w w' : World} {B e size n : Nat} {ao : Option Addr} {m c : Nat} {xs : List Value} (h : w.ownsRow B e size (.slice ao m c) n xs) (hb : Below w.heap.size w w') : w'.ownsRow B e size (.slice ao m c) n xs := by
  refine ⟨h.1, ?_⟩
  rcases h.2 with h0 | ⟨g, cap, cur, hv, hbg, hg, h1⟩
  · exact .inl h0
  · exact .inr ⟨g, cap, cur, hv, hbg, (hb.block g (Array.getElem?_eq_some_iff.1 hg).1).trans hg, h1⟩
set_option maxRecDepth 100000 in
theorem gHalving (k : Int) (w : World) (hT : Tb w) : Calls Tryz.prog 37 #[.int .i64 k] w fun e w' => e = .returned (.bool (hvB (rw' k))) ∧ Below w.heap.size w w' := by
  have c := fun w hT => gRow k w hT
  have ht := rw_t k
  generalize rw' k = r at *
  obtain ⟨nm, q, c', t, v, o⟩ := r
  unfold rV at c
  unfold hvB
  dsimp only at *
  rcases ht with rfl | rfl | rfl | rfl | rfl
  all_goals
    go_enter Tryz.func37, Tryz.ntmps37
    go_wp2_with fail
    refine (c _ hT).mono ?_
    rintro e w1 ⟨rfl, hb⟩
    clear c
    have hf := fld3
    go_wp2_with fail
    go_ret
    exact ⟨rfl, hb⟩
set_option maxRecDepth 100000 in
theorem gClifford (k : Int) (w : World) (hT : Tb w) : Calls Tryz.prog 42 #[.int .i64 k] w fun e w' => e = .returned (.bool (clB (rw' k))) ∧ Below w.heap.size w w' := by
  have c := fun w hT => gRow k w hT
  have ht := rw_t k
  generalize rw' k = r at *
  obtain ⟨nm, q, c', t, v, o⟩ := r
  unfold rV at c
  unfold clB
  dsimp only at *
  rcases ht with rfl | rfl | rfl | rfl | rfl
  all_goals
    go_enter Tryz.func42, Tryz.ntmps42
    go_wp2_with fail
    refine (c _ hT).mono ?_
    rintro e w1 ⟨rfl, hb⟩
    clear c
    have hf := fld3
    go_wp2_with fail
    go_ret
    exact ⟨rfl, hb⟩
/-- The kinds below a number. -/
def kl (n : Nat) : List Value := ((List.range n).drop 1).map fun (j : Nat) => Value.int .i64 (j : Int)
theorem kl_succ (n : Nat) (h : 1 ≤ n) : kl (n + 1) = kl n ++ [.int .i64 (n : Int)] := by
  unfold kl
  rw [List.range_succ, List.drop_append_of_le_length (by simpa using h)]
  simp
theorem kn_in (k : Nat) (h : k < 21) : decide (0 < (rw' (k : Int)).q) = decide (1 ≤ k) := by
  have := (by decide +kernel : ∀ n : Fin 21, decide (0 < (rw' (n.1 : Int)).q) = decide (1 ≤ n.1)) ⟨k, h⟩
  exact this
set_option maxRecDepth 100000 in
set_option maxHeartbeats 1000000 in
theorem gKinds (w : World) (hT : Tb w) : Calls Tryz.prog 34 #[] w fun e w' => ∃ g c, e = .returned (.slice (some ⟨g, 0, none⟩) 20 c) ∧ w'.ownsRow w.heap.size 38 1 (.slice (some ⟨g, 0, none⟩) 20 c) 20 (kl 21) ∧ Below w.heap.size w w' := by
  go_enter Tryz.func34, Tryz.ntmps34
  go_wp2_with fail
  go_loopw [1, 3] (fun vl vk wr => ∃ (k c : Nat) (ao : Option Addr), vl = .slice ao (k - 1) c ∧ vk = .int .i64 (k : Int) ∧ k ≤ 21 ∧ wr.ownsRow w.heap.size 38 1 (.slice ao (k - 1) c) (k - 1) (kl k) ∧ Below w.heap.size w wr) (fun _ vk _ => 21 - (Go.RowKit.intOf vk).toNat)
  case atStart => exact ⟨0, 0, none, rfl, rfl, Nat.zero_le _, World.ownsRow_nil w _ _ 1, Below.refl _ _⟩
  case round =>
    obtain ⟨k, c, ao, rfl, rfl, hk, hown, hb⟩ := hrel
    have hTr := hT.below hb
    by_cases hkn : k < 21
    · have hkz : decide ((k : Int) < 21) = true := decide_eq_true (by omega)
      have cK := fun w hT => gKnown (k : Int) w hT
      rw [kn_in k hkn] at cK
      by_cases h1 : 1 ≤ k
      · rw [decide_eq_true h1] at cK
        have HK : Hid (kl (k + 1) = kl k ++ [.int .i64 (k : Int)]) := hide (kl_succ k h1)
        have hn20 : k - 1 ≤ 20 := by omega
        have HKK : Hid (k - 1 + 1 = k) := hide (by omega)
        generalize kl k = L at *
        generalize k - 1 = n at *
        go_wp2_with fail
        refine (cK _ hTr).mono ?_
        rintro e w1 ⟨rfl, hb1⟩
        have hown1 := own_below hown hb1
        have hs : w.heap.size ≤ w1.heap.size := Nat.le_trans hb.size hb1.size
        have hbb := hb.trans (hb1.mono hb.size)
        clear hown hb1 hTr hT
        go_wp2_with (at_builtin; refine wpList_pushV rfl _ _ 67 rfl 38 Tryz.underlying67 _ 8 infoK rfl w.heap.size ao n c L rfl hown1 (.int .i64 (k : Int)) rfl rfl (by omega) (by omega) hs ?_)
        intro g2 c2 w2 hown2 hgrow hat
        have hb2 : Below w.heap.size w w2 := hbb.grown hgrow hs (fun q hq => (hown1.lt q (by rw [ob_eq]; exact hq)).1)
        clear hown1 hgrow hat
        go_wp2_with fail
        have e1 := HKK.out
        rw [e1] at hown2
        exact ⟨⟨k + 1, c2, some ⟨g2, 0, none⟩, by rw [e1]; rfl, by go_num, by omega, by rw [HK.out]; exact hown2, hb2⟩, by simp [Go.RowKit.intOf]; omega⟩
      · obtain rfl : k = 0 := by omega
        rw [decide_eq_false h1] at cK
        go_wp2_with fail
        refine (cK _ hTr).mono ?_
        rintro e w1 ⟨rfl, hb1⟩
        have hown1 := own_below hown hb1
        have hbb := hb.trans (hb1.mono hb.size)
        clear hown hb1 hTr hT
        go_wp2_with fail
        exact ⟨⟨1, c, ao, rfl, rfl, by omega, hown1, hbb⟩, by simp [Go.RowKit.intOf]⟩
    · obtain rfl : k = 21 := by omega
      go_wp2_with fail
      go_ret
      rcases hown.2 with ⟨_, h0⟩ | ⟨g, cap, cur, hv, _⟩
      · exact absurd h0 (by decide)
      · simp only [Value.slice.injEq] at hv
        obtain ⟨rfl, _, _⟩ := hv
        exact ⟨g, c, rfl, hown, hb⟩
end Go.Proofs.YtkbodljmkhnebaaGreatDoor.Gt
