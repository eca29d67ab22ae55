/- The document's digit, letter and Name, as they are walked; TokenSpots. -/
import Derived.Test.YtinbbcojilogeaaDoorMb
namespace Go.Proofs.YtinbbcojilogeaaDoor.Tok
open Go.RowKit Go.Shelf Go.Proofs.YtinbbcojilogeaaDoor.Oct

theorem dDigit (b : UInt8) (w : World) : Calls Tryd.prog 27 #[.int .u8 (b.toNat : Int)] w fun e w' => e = .returned (.bool (isD b)) ∧ w' = w := by
  unfold isD
  obtain ⟨x, hx⟩ : ∃ x, b.toNat = x := ⟨_, rfl⟩
  rw [hx]
  go_enter Tryd.func27, Tryd.ntmps27
  go_wp2
  all_goals (go_ret; refine ⟨?_, rfl⟩; show Ending.returned (Value.bool _) = _; congr 2; rw [Bool.eq_iff_iff]; simp; omega)
theorem dLetter (b : UInt8) (w : World) : Calls Tryd.prog 26 #[.int .u8 (b.toNat : Int)] w fun e w' => e = .returned (.bool (isL b)) ∧ w' = w := by
  unfold isL
  obtain ⟨x, hx⟩ : ∃ x, b.toNat = x := ⟨_, rfl⟩
  rw [hx]
  go_enter Tryd.func26, Tryd.ntmps26
  go_wp2
  all_goals (go_ret; refine ⟨?_, rfl⟩; show Ending.returned (Value.bool _) = _; congr 2; rw [Bool.eq_iff_iff]; simp; omega)
/-- Is a text a name? -/
def nameB (l : List UInt8) : Bool := match l with
  | [] => false
  | a :: _ => decide (l.length ≤ 32) && isL a && l.all inW
theorem all_sp (l : List UInt8) : l.all inW = decide (sp inW l = l.length) := by
  induction l with
  | nil => rfl
  | cons a r ih =>
    by_cases h : inW a = true
    · rw [List.all_cons, h, ih, sp_cons_true r h]
      simp
    · have h' : inW a = false := by simpa using h
      rw [List.all_cons, h', sp_cons_false r h']
      simp
/-- A name is what cut cuts whole. -/
theorem name_whole (l : List UInt8) : wholeB l 1 l 0 = nameB l := by
  cases l with
  | nil => rfl
  | cons a r =>
    have hc : cut (a :: r) = if isL a then cName (a :: r) else if isD a then cNum (a :: r) else if a = 34 then cQuo (a :: r) else cMark (a :: r) := rfl
    have hle := sp_le inW (a :: r)
    unfold wholeB
    rw [hc]
    simp only [nameB]
    rw [all_sp]
    cases hL : isL a with
    | true =>
      simp only [if_true]
      unfold cName
      by_cases h32 : 32 < sp inW (a :: r)
      · rw [if_pos h32]
        simp only
        by_cases hall : sp inW (a :: r) = (a :: r).length
        · rw [decide_eq_false (p := (a :: r).length ≤ 32) (by omega)]; rfl
        · rw [decide_eq_false hall]; simp
      · rw [if_neg h32]
        simp only
        by_cases hall : sp inW (a :: r) = (a :: r).length
        · rw [hall, List.take_length, decide_eq_true (p := (a :: r).length ≤ 32) (by omega)]
          simp
        · rw [decide_eq_false hall, beq_eq_false_iff_ne.2 hall]; simp
    | false =>
      simp only [Bool.false_eq_true, if_false, Bool.and_false, Bool.false_and]
      have hk : ∀ t v n, cNum (a :: r) ≠ .tok 1 t v n := by
        intro t v n
        unfold cNum
        repeat' split
        all_goals simp
      have hq : ∀ t v n, cQuo (a :: r) ≠ .tok 1 t v n := by
        intro t v n
        unfold cQuo
        generalize (List.drop (sp inQ (List.drop 1 (a :: r))) (List.drop 1 (a :: r))) = x
        cases x with
        | nil => simp [cQuoT]
        | cons b u => rw [cQuoT]; by_cases h : b = 34 <;> simp [h]
      have hm : ∀ (ms : List (List UInt8)) t v n, cMarkF (a :: r) ms ≠ .tok 1 t v n := by
        intro ms
        induction ms with
        | nil => intro t v n; simp [cMarkF]
        | cons m ms ih =>
          intro t v n
          unfold cMarkF
          split
          · simp
          · exact ih t v n
      have hgen : ∀ C : Cut, (∀ t v n, C ≠ .tok 1 t v n) → (match C with | .tok k t v n => n == (a :: r).length && ((k : Int) == 1 && t == (a :: r) && (v : Int) == 0) | .bad _ => false) = false := by
        intro C hC
        cases C with
        | bad e => rfl
        | tok k t v n =>
          have : k ≠ 1 := fun e => hC t v n (by rw [e])
          have h1 : ((k : Int) == 1) = false := by rw [beq_eq_false_iff_ne]; omega
          simp [h1]
      refine hgen _ (fun t v n => ?_)
      split
      · exact hk t v n
      · split
        · exact hq t v n
        · exact hm marks t v n
set_option maxHeartbeats 2000000 in
theorem dName (l : List UInt8) (hl : l.length ≤ 140737488355328) (w : World) :
    Calls Tryd.prog 12 #[str l] w fun e w' => e = .returned (.bool (nameB l)) ∧ w' = w := by
  have mixed := mixed_ok
  have hsz := size_str l
  have hat := at_str l
  unfold str
  cases l with
  | nil =>
    go_enter Tryd.func12, Tryd.ntmps12
    go_wp2_with fail
    go_ret
    exact ⟨rfl, rfl⟩
  | cons a r =>
    obtain ⟨l, hll⟩ : ∃ l, a :: r = l := ⟨_, rfl⟩
    have hnb : nameB (a :: r) = (decide (l.length ≤ 32) && isL a && l.all inW) := by rw [← hll]; rfl
    have hlen : 1 ≤ l.length := by rw [← hll]; simp
    have ha0 : l[0]? = some a := by rw [← hll]; rfl
    rw [hnb]
    rw [hll] at hsz hat hl ⊢
    have hl0 : ((l.length : Int) == 0) = false := by rw [beq_eq_false_iff_ne]; omega
    have cL := fun w => dLetter a w
    generalize (⟨l.toArray⟩ : ByteArray) = s at *
    have hs0 := hat 0 a ha0 (by rw [hsz]; omega)
    by_cases h32 : l.length ≤ 32
    · have h32' : ¬ (32 : Int) < (l.length : Int) := by omega
      rw [decide_eq_true h32]
      have hpos : (0 : Int) < (l.length : Int) := by omega
      cases hLa : isL a with
      | false =>
        rw [hLa] at cL
        clear hat
        go_enter Tryd.func12, Tryd.ntmps12
        go_wp2_with (go_at_call 26; refine (cL _).mono ?_; rintro e w1 ⟨rfl, rfl⟩)
        go_ret
        exact ⟨rfl, rfl⟩
      | true =>
        rw [hLa] at cL
        go_enter Tryd.func12, Tryd.ntmps12
        go_wp2_with (go_at_call 26; refine (cL _).mono ?_; rintro e w1 ⟨rfl, hw⟩; obtain rfl := hw.symm)
        clear cL hs0 ha0
        go_loopw [3] (fun i wr => wr = w ∧ ∃ k : Nat, k ≤ l.length ∧ i = .int .i64 (k : Int) ∧ l.all inW = (l.drop k).all inW) (fun i _ => l.length - (RowKit.intOf i).toNat)
        case atStart => exact ⟨rfl, 0, Nat.zero_le _, rfl, by simp⟩
        case round =>
          obtain ⟨rfl, k, hk, rfl, hinv⟩ := hrel
          by_cases hlt : k < l.length
          · have hlt' : (k : Int) < (l.length : Int) := by omega
            obtain ⟨b, hb0⟩ : ∃ b, l[k]? = some b := ⟨_, List.getElem?_eq_getElem hlt⟩
            have hb := hat k b hb0 (by rw [hsz]; exact hlt)
            have hdr : l.drop k = b :: l.drop (k + 1) := by
              rw [List.drop_eq_getElem_cons hlt]
              rw [List.getElem?_eq_getElem hlt] at hb0
              rw [Option.some.inj hb0]
            have cA := fun w => dLetter b w
            have cB := fun w => dDigit b w
            rw [hdr, List.all_cons] at hinv
            have hiw : inW b = (isL b || isD b) := rfl
            rw [hiw] at hinv
            clear hdr hat hb0 hiw
            cases h1 : isL b <;> cases h2 : isD b
            all_goals
              rw [h1] at cA hinv
              rw [h2] at cB hinv
              have Hinv := hide hinv
              clear hinv h1 h2
              go_wp2_with (first | (go_at_call 26; refine (cA _).mono ?_; rintro e w1 ⟨rfl, rfl⟩) | (go_at_call 27; refine (cB _).mono ?_; rintro e w1 ⟨rfl, rfl⟩))
            · go_ret
              rw [Hinv.out]
              exact ⟨rfl, rfl⟩
            all_goals exact ⟨⟨trivial, k + 1, by omega, by go_num, Hinv.out⟩, by simp [RowKit.intOf]; omega⟩
          · have hlt' : ¬ (k : Int) < (l.length : Int) := by omega
            have Hn : Hid (l.all inW = true) := hide (by rw [hinv, List.drop_of_length_le (by omega)]; rfl)
            clear hinv hat
            go_wp2_with fail
            go_ret
            rw [Hn.out]
            exact ⟨rfl, rfl⟩
    · have h32' : (32 : Int) < (l.length : Int) := by omega
      rw [decide_eq_false h32]
      clear hat
      go_enter Tryd.func12, Tryd.ntmps12
      go_wp2_with fail
      go_ret
      exact ⟨rfl, rfl⟩
end Go.Proofs.YtinbbcojilogeaaDoor.Tok
