/- The document's more and size, as they are walked. -/
import Derived.Test.YtinbbcojilogeaaDoorKn
namespace Go.Proofs.YtinbbcojilogeaaDoor.Tok
open Go.RowKit Go.Shelf Go.Proofs.YtinbbcojilogeaaDoor.Oct

/-- Is the byte at a place one that goes on a rune? -/
def moreB (l : List UInt8) (k lo hi : Nat) : Bool := decide (k < l.length) && decide (lo ≤ (l.getD k 0).toNat) && decide ((l.getD k 0).toNat ≤ hi)
theorem dMore (l : List UInt8) (k lo hi : Nat) (w : World) :
    Calls Tryd.prog 52 #[str l, .int .i64 (k : Int), .int .u8 (lo : Int), .int .u8 (hi : Int)] w fun e w' => e = .returned (.bool (moreB l k lo hi)) ∧ w' = w := by
  have hsz := size_str l
  have hat := at_str l
  unfold moreB str
  by_cases hlt : k < l.length
  · obtain ⟨b, hb⟩ : ∃ b, l[k]? = some b := ⟨_, List.getElem?_eq_getElem hlt⟩
    have hs := hat k b hb (by rw [hsz]; exact hlt)
    have hg : l.getD k 0 = b := by rw [List.getD_eq_getElem?_getD, hb]; rfl
    rw [hg]
    have hlt' : (k : Int) < (l.length : Int) := by omega
    clear hat hb hg
    generalize (⟨l.toArray⟩ : ByteArray) = s at *
    go_enter Tryd.func52, Tryd.ntmps52
    go_wp2
    all_goals (go_ret; refine ⟨?_, rfl⟩; show Ending.returned (Value.bool _) = _; congr 2; rw [Bool.eq_iff_iff]; simp; omega)
  · have hlt' : ¬ (k : Int) < (l.length : Int) := by omega
    rw [decide_eq_false hlt]
    clear hat
    generalize (⟨l.toArray⟩ : ByteArray) = s at *
    go_enter Tryd.func52, Tryd.ntmps52
    go_wp2
    go_ret
    exact ⟨rfl, rfl⟩
theorem moreB_drop (l : List UInt8) (i j lo hi : Nat) : moreB l (i + j) lo hi = (decide (j < (l.drop i).length) && decide (lo ≤ ((l.drop i).getD j 0).toNat) && decide (((l.drop i).getD j 0).toNat ≤ hi)) := by
  have hd : (l.drop i).getD j 0 = l.getD (i + j) 0 := by simp [List.getD_eq_getElem?_getD]
  unfold moreB
  rw [hd, List.length_drop]
  congr 2
  rw [Bool.eq_iff_iff]
  simp
  omega
set_option maxHeartbeats 1000000 in
theorem sizeA (s : ByteArray) (i : Nat) (c : UInt8) (hi : i < s.size) (hs : s[i]'hi = c) (hc : c.toNat < 194) (w : World) :
    Calls Tryd.prog 36 #[.string s, .int .i64 (i : Int)] w fun e w' => e = .returned (.int .i64 1) ∧ w' = w := by
  have hi' : (i : Int) < (s.size : Int) := by omega
  have p0 : decide ((194 : Int) ≤ (c.toNat : Int)) = false := by exact decide_eq_false (by omega)
  have p1 : decide ((c.toNat : Int) ≤ 223) = true := by exact decide_eq_true (by omega)
  have p2 : ((c.toNat : Int) == 224) = false := by rw [beq_eq_false_iff_ne]; omega
  have p3 : ((c.toNat : Int) == 237) = false := by rw [beq_eq_false_iff_ne]; omega
  have p4 : decide ((225 : Int) ≤ (c.toNat : Int)) = false := by exact decide_eq_false (by omega)
  have p5 : decide ((c.toNat : Int) ≤ 239) = true := by exact decide_eq_true (by omega)
  have p6 : ((c.toNat : Int) != 237) = true := by rw [bne_iff_ne]; omega
  have p7 : ((c.toNat : Int) == 240) = false := by rw [beq_eq_false_iff_ne]; omega
  have p8 : decide ((241 : Int) ≤ (c.toNat : Int)) = false := by exact decide_eq_false (by omega)
  have p9 : decide ((c.toNat : Int) ≤ 243) = true := by exact decide_eq_true (by omega)
  have p10 : ((c.toNat : Int) == 244) = false := by rw [beq_eq_false_iff_ne]; omega
  clear hc
  go_enter Tryd.func36, Tryd.ntmps36
  go_wp2_with fail
  go_ret
  exact ⟨rfl, rfl⟩
set_option maxHeartbeats 1000000 in
theorem sizeB (s : ByteArray) (i : Nat) (c : UInt8) (hi : i < s.size) (hm : s.size ≤ 140737488355328) (hs : s[i]'hi = c) (hc : 194 ≤ c.toNat ∧ c.toNat ≤ 223) (x1 : Bool) (w : World)
    (c1 : ∀ w, Calls Tryd.prog 52 #[.string s, .int .i64 ((i : Int) + 1), .int .u8 128, .int .u8 191] w fun e w' => e = .returned (.bool x1) ∧ w' = w) :
    Calls Tryd.prog 36 #[.string s, .int .i64 (i : Int)] w fun e w' => e = .returned (.int .i64 (if (x1) = true then 2 else 1)) ∧ w' = w := by
  have hi' : (i : Int) < (s.size : Int) := by omega
  have p0 : decide ((194 : Int) ≤ (c.toNat : Int)) = true := by exact decide_eq_true (by omega)
  have p1 : decide ((c.toNat : Int) ≤ 223) = true := by exact decide_eq_true (by omega)
  have p2 : ((c.toNat : Int) == 224) = false := by rw [beq_eq_false_iff_ne]; omega
  have p3 : ((c.toNat : Int) == 237) = false := by rw [beq_eq_false_iff_ne]; omega
  have p4 : decide ((225 : Int) ≤ (c.toNat : Int)) = false := by exact decide_eq_false (by omega)
  have p5 : decide ((c.toNat : Int) ≤ 239) = true := by exact decide_eq_true (by omega)
  have p6 : ((c.toNat : Int) != 237) = true := by rw [bne_iff_ne]; omega
  have p7 : ((c.toNat : Int) == 240) = false := by rw [beq_eq_false_iff_ne]; omega
  have p8 : decide ((241 : Int) ≤ (c.toNat : Int)) = false := by exact decide_eq_false (by omega)
  have p9 : decide ((c.toNat : Int) ≤ 243) = true := by exact decide_eq_true (by omega)
  have p10 : ((c.toNat : Int) == 244) = false := by rw [beq_eq_false_iff_ne]; omega
  clear hc
  cases x1
  all_goals
    go_enter Tryd.func36, Tryd.ntmps36
    go_wp2_with (go_at_call 52; (first | (with_reducible refine (c1 _).mono ?_)); rintro e w1 ⟨rfl, rfl⟩)
    go_ret
    exact ⟨rfl, rfl⟩
set_option maxHeartbeats 1000000 in
theorem sizeC (s : ByteArray) (i : Nat) (c : UInt8) (hi : i < s.size) (hm : s.size ≤ 140737488355328) (hs : s[i]'hi = c) (hc : c.toNat = 224) (x1 x2 : Bool) (w : World)
    (c1 : ∀ w, Calls Tryd.prog 52 #[.string s, .int .i64 ((i : Int) + 1), .int .u8 160, .int .u8 191] w fun e w' => e = .returned (.bool x1) ∧ w' = w) (c2 : ∀ w, Calls Tryd.prog 52 #[.string s, .int .i64 ((i : Int) + 2), .int .u8 128, .int .u8 191] w fun e w' => e = .returned (.bool x2) ∧ w' = w) :
    Calls Tryd.prog 36 #[.string s, .int .i64 (i : Int)] w fun e w' => e = .returned (.int .i64 (if (x1 && x2) = true then 3 else 1)) ∧ w' = w := by
  have hi' : (i : Int) < (s.size : Int) := by omega
  have p0 : decide ((194 : Int) ≤ (c.toNat : Int)) = true := by exact decide_eq_true (by omega)
  have p1 : decide ((c.toNat : Int) ≤ 223) = false := by exact decide_eq_false (by omega)
  have p2 : ((c.toNat : Int) == 224) = true := by rw [beq_iff_eq]; omega
  have p3 : ((c.toNat : Int) == 237) = false := by rw [beq_eq_false_iff_ne]; omega
  have p4 : decide ((225 : Int) ≤ (c.toNat : Int)) = false := by exact decide_eq_false (by omega)
  have p5 : decide ((c.toNat : Int) ≤ 239) = true := by exact decide_eq_true (by omega)
  have p6 : ((c.toNat : Int) != 237) = true := by rw [bne_iff_ne]; omega
  have p7 : ((c.toNat : Int) == 240) = false := by rw [beq_eq_false_iff_ne]; omega
  have p8 : decide ((241 : Int) ≤ (c.toNat : Int)) = false := by exact decide_eq_false (by omega)
  have p9 : decide ((c.toNat : Int) ≤ 243) = true := by exact decide_eq_true (by omega)
  have p10 : ((c.toNat : Int) == 244) = false := by rw [beq_eq_false_iff_ne]; omega
  clear hc
  cases x1 <;> cases x2
  all_goals
    go_enter Tryd.func36, Tryd.ntmps36
    go_wp2_with (go_at_call 52; (first | (with_reducible refine (c1 _).mono ?_) | (with_reducible refine (c2 _).mono ?_)); rintro e w1 ⟨rfl, rfl⟩)
    go_ret
    exact ⟨rfl, rfl⟩
set_option maxHeartbeats 1000000 in
theorem sizeD (s : ByteArray) (i : Nat) (c : UInt8) (hi : i < s.size) (hm : s.size ≤ 140737488355328) (hs : s[i]'hi = c) (hc : 225 ≤ c.toNat ∧ c.toNat ≤ 239 ∧ c.toNat ≠ 237) (x1 x2 : Bool) (w : World)
    (c1 : ∀ w, Calls Tryd.prog 52 #[.string s, .int .i64 ((i : Int) + 1), .int .u8 128, .int .u8 191] w fun e w' => e = .returned (.bool x1) ∧ w' = w) (c2 : ∀ w, Calls Tryd.prog 52 #[.string s, .int .i64 ((i : Int) + 2), .int .u8 128, .int .u8 191] w fun e w' => e = .returned (.bool x2) ∧ w' = w) :
    Calls Tryd.prog 36 #[.string s, .int .i64 (i : Int)] w fun e w' => e = .returned (.int .i64 (if (x1 && x2) = true then 3 else 1)) ∧ w' = w := by
  have hi' : (i : Int) < (s.size : Int) := by omega
  have p0 : decide ((194 : Int) ≤ (c.toNat : Int)) = true := by exact decide_eq_true (by omega)
  have p1 : decide ((c.toNat : Int) ≤ 223) = false := by exact decide_eq_false (by omega)
  have p2 : ((c.toNat : Int) == 224) = false := by rw [beq_eq_false_iff_ne]; omega
  have p3 : ((c.toNat : Int) == 237) = false := by rw [beq_eq_false_iff_ne]; omega
  have p4 : decide ((225 : Int) ≤ (c.toNat : Int)) = true := by exact decide_eq_true (by omega)
  have p5 : decide ((c.toNat : Int) ≤ 239) = true := by exact decide_eq_true (by omega)
  have p6 : ((c.toNat : Int) != 237) = true := by rw [bne_iff_ne]; omega
  have p7 : ((c.toNat : Int) == 240) = false := by rw [beq_eq_false_iff_ne]; omega
  have p8 : decide ((241 : Int) ≤ (c.toNat : Int)) = false := by exact decide_eq_false (by omega)
  have p9 : decide ((c.toNat : Int) ≤ 243) = true := by exact decide_eq_true (by omega)
  have p10 : ((c.toNat : Int) == 244) = false := by rw [beq_eq_false_iff_ne]; omega
  clear hc
  cases x1 <;> cases x2
  all_goals
    go_enter Tryd.func36, Tryd.ntmps36
    go_wp2_with (go_at_call 52; (first | (with_reducible refine (c1 _).mono ?_) | (with_reducible refine (c2 _).mono ?_)); rintro e w1 ⟨rfl, rfl⟩)
    go_ret
    exact ⟨rfl, rfl⟩
set_option maxHeartbeats 1000000 in
theorem sizeE (s : ByteArray) (i : Nat) (c : UInt8) (hi : i < s.size) (hm : s.size ≤ 140737488355328) (hs : s[i]'hi = c) (hc : c.toNat = 237) (x1 x2 : Bool) (w : World)
    (c1 : ∀ w, Calls Tryd.prog 52 #[.string s, .int .i64 ((i : Int) + 1), .int .u8 128, .int .u8 159] w fun e w' => e = .returned (.bool x1) ∧ w' = w) (c2 : ∀ w, Calls Tryd.prog 52 #[.string s, .int .i64 ((i : Int) + 2), .int .u8 128, .int .u8 191] w fun e w' => e = .returned (.bool x2) ∧ w' = w) :
    Calls Tryd.prog 36 #[.string s, .int .i64 (i : Int)] w fun e w' => e = .returned (.int .i64 (if (x1 && x2) = true then 3 else 1)) ∧ w' = w := by
  have hi' : (i : Int) < (s.size : Int) := by omega
  have p0 : decide ((194 : Int) ≤ (c.toNat : Int)) = true := by exact decide_eq_true (by omega)
  have p1 : decide ((c.toNat : Int) ≤ 223) = false := by exact decide_eq_false (by omega)
  have p2 : ((c.toNat : Int) == 224) = false := by rw [beq_eq_false_iff_ne]; omega
  have p3 : ((c.toNat : Int) == 237) = true := by rw [beq_iff_eq]; omega
  have p4 : decide ((225 : Int) ≤ (c.toNat : Int)) = true := by exact decide_eq_true (by omega)
  have p5 : decide ((c.toNat : Int) ≤ 239) = true := by exact decide_eq_true (by omega)
  have p6 : ((c.toNat : Int) != 237) = false := by rw [bne_eq_false_iff_eq]; omega
  have p7 : ((c.toNat : Int) == 240) = false := by rw [beq_eq_false_iff_ne]; omega
  have p8 : decide ((241 : Int) ≤ (c.toNat : Int)) = false := by exact decide_eq_false (by omega)
  have p9 : decide ((c.toNat : Int) ≤ 243) = true := by exact decide_eq_true (by omega)
  have p10 : ((c.toNat : Int) == 244) = false := by rw [beq_eq_false_iff_ne]; omega
  clear hc
  cases x1 <;> cases x2
  all_goals
    go_enter Tryd.func36, Tryd.ntmps36
    go_wp2_with (go_at_call 52; (first | (with_reducible refine (c1 _).mono ?_) | (with_reducible refine (c2 _).mono ?_)); rintro e w1 ⟨rfl, rfl⟩)
    go_ret
    exact ⟨rfl, rfl⟩
set_option maxHeartbeats 1000000 in
theorem sizeF (s : ByteArray) (i : Nat) (c : UInt8) (hi : i < s.size) (hm : s.size ≤ 140737488355328) (hs : s[i]'hi = c) (hc : c.toNat = 240) (x1 x2 x3 : Bool) (w : World)
    (c1 : ∀ w, Calls Tryd.prog 52 #[.string s, .int .i64 ((i : Int) + 1), .int .u8 144, .int .u8 191] w fun e w' => e = .returned (.bool x1) ∧ w' = w) (c2 : ∀ w, Calls Tryd.prog 52 #[.string s, .int .i64 ((i : Int) + 2), .int .u8 128, .int .u8 191] w fun e w' => e = .returned (.bool x2) ∧ w' = w) (c3 : ∀ w, Calls Tryd.prog 52 #[.string s, .int .i64 ((i : Int) + 3), .int .u8 128, .int .u8 191] w fun e w' => e = .returned (.bool x3) ∧ w' = w) :
    Calls Tryd.prog 36 #[.string s, .int .i64 (i : Int)] w fun e w' => e = .returned (.int .i64 (if (x1 && x2 && x3) = true then 4 else 1)) ∧ w' = w := by
  have hi' : (i : Int) < (s.size : Int) := by omega
  have p0 : decide ((194 : Int) ≤ (c.toNat : Int)) = true := by exact decide_eq_true (by omega)
  have p1 : decide ((c.toNat : Int) ≤ 223) = false := by exact decide_eq_false (by omega)
  have p2 : ((c.toNat : Int) == 224) = false := by rw [beq_eq_false_iff_ne]; omega
  have p3 : ((c.toNat : Int) == 237) = false := by rw [beq_eq_false_iff_ne]; omega
  have p4 : decide ((225 : Int) ≤ (c.toNat : Int)) = true := by exact decide_eq_true (by omega)
  have p5 : decide ((c.toNat : Int) ≤ 239) = false := by exact decide_eq_false (by omega)
  have p6 : ((c.toNat : Int) != 237) = true := by rw [bne_iff_ne]; omega
  have p7 : ((c.toNat : Int) == 240) = true := by rw [beq_iff_eq]; omega
  have p8 : decide ((241 : Int) ≤ (c.toNat : Int)) = false := by exact decide_eq_false (by omega)
  have p9 : decide ((c.toNat : Int) ≤ 243) = true := by exact decide_eq_true (by omega)
  have p10 : ((c.toNat : Int) == 244) = false := by rw [beq_eq_false_iff_ne]; omega
  clear hc
  cases x1 <;> cases x2 <;> cases x3
  all_goals
    go_enter Tryd.func36, Tryd.ntmps36
    go_wp2_with (go_at_call 52; (first | (with_reducible refine (c1 _).mono ?_) | (with_reducible refine (c2 _).mono ?_) | (with_reducible refine (c3 _).mono ?_)); rintro e w1 ⟨rfl, rfl⟩)
    go_ret
    exact ⟨rfl, rfl⟩
set_option maxHeartbeats 1000000 in
theorem sizeG (s : ByteArray) (i : Nat) (c : UInt8) (hi : i < s.size) (hm : s.size ≤ 140737488355328) (hs : s[i]'hi = c) (hc : 241 ≤ c.toNat ∧ c.toNat ≤ 243) (x1 x2 x3 : Bool) (w : World)
    (c1 : ∀ w, Calls Tryd.prog 52 #[.string s, .int .i64 ((i : Int) + 1), .int .u8 128, .int .u8 191] w fun e w' => e = .returned (.bool x1) ∧ w' = w) (c2 : ∀ w, Calls Tryd.prog 52 #[.string s, .int .i64 ((i : Int) + 2), .int .u8 128, .int .u8 191] w fun e w' => e = .returned (.bool x2) ∧ w' = w) (c3 : ∀ w, Calls Tryd.prog 52 #[.string s, .int .i64 ((i : Int) + 3), .int .u8 128, .int .u8 191] w fun e w' => e = .returned (.bool x3) ∧ w' = w) :
    Calls Tryd.prog 36 #[.string s, .int .i64 (i : Int)] w fun e w' => e = .returned (.int .i64 (if (x1 && x2 && x3) = true then 4 else 1)) ∧ w' = w := by
  have hi' : (i : Int) < (s.size : Int) := by omega
  have p0 : decide ((194 : Int) ≤ (c.toNat : Int)) = true := by exact decide_eq_true (by omega)
  have p1 : decide ((c.toNat : Int) ≤ 223) = false := by exact decide_eq_false (by omega)
  have p2 : ((c.toNat : Int) == 224) = false := by rw [beq_eq_false_iff_ne]; omega
  have p3 : ((c.toNat : Int) == 237) = false := by rw [beq_eq_false_iff_ne]; omega
  have p4 : decide ((225 : Int) ≤ (c.toNat : Int)) = true := by exact decide_eq_true (by omega)
  have p5 : decide ((c.toNat : Int) ≤ 239) = false := by exact decide_eq_false (by omega)
  have p6 : ((c.toNat : Int) != 237) = true := by rw [bne_iff_ne]; omega
  have p7 : ((c.toNat : Int) == 240) = false := by rw [beq_eq_false_iff_ne]; omega
  have p8 : decide ((241 : Int) ≤ (c.toNat : Int)) = true := by exact decide_eq_true (by omega)
  have p9 : decide ((c.toNat : Int) ≤ 243) = true := by exact decide_eq_true (by omega)
  have p10 : ((c.toNat : Int) == 244) = false := by rw [beq_eq_false_iff_ne]; omega
  clear hc
  cases x1 <;> cases x2 <;> cases x3
  all_goals
    go_enter Tryd.func36, Tryd.ntmps36
    go_wp2_with (go_at_call 52; (first | (with_reducible refine (c1 _).mono ?_) | (with_reducible refine (c2 _).mono ?_) | (with_reducible refine (c3 _).mono ?_)); rintro e w1 ⟨rfl, rfl⟩)
    go_ret
    exact ⟨rfl, rfl⟩
set_option maxHeartbeats 1000000 in
theorem sizeH (s : ByteArray) (i : Nat) (c : UInt8) (hi : i < s.size) (hm : s.size ≤ 140737488355328) (hs : s[i]'hi = c) (hc : c.toNat = 244) (x1 x2 x3 : Bool) (w : World)
    (c1 : ∀ w, Calls Tryd.prog 52 #[.string s, .int .i64 ((i : Int) + 1), .int .u8 128, .int .u8 143] w fun e w' => e = .returned (.bool x1) ∧ w' = w) (c2 : ∀ w, Calls Tryd.prog 52 #[.string s, .int .i64 ((i : Int) + 2), .int .u8 128, .int .u8 191] w fun e w' => e = .returned (.bool x2) ∧ w' = w) (c3 : ∀ w, Calls Tryd.prog 52 #[.string s, .int .i64 ((i : Int) + 3), .int .u8 128, .int .u8 191] w fun e w' => e = .returned (.bool x3) ∧ w' = w) :
    Calls Tryd.prog 36 #[.string s, .int .i64 (i : Int)] w fun e w' => e = .returned (.int .i64 (if (x1 && x2 && x3) = true then 4 else 1)) ∧ w' = w := by
  have hi' : (i : Int) < (s.size : Int) := by omega
  have p0 : decide ((194 : Int) ≤ (c.toNat : Int)) = true := by exact decide_eq_true (by omega)
  have p1 : decide ((c.toNat : Int) ≤ 223) = false := by exact decide_eq_false (by omega)
  have p2 : ((c.toNat : Int) == 224) = false := by rw [beq_eq_false_iff_ne]; omega
  have p3 : ((c.toNat : Int) == 237) = false := by rw [beq_eq_false_iff_ne]; omega
  have p4 : decide ((225 : Int) ≤ (c.toNat : Int)) = true := by exact decide_eq_true (by omega)
  have p5 : decide ((c.toNat : Int) ≤ 239) = false := by exact decide_eq_false (by omega)
  have p6 : ((c.toNat : Int) != 237) = true := by rw [bne_iff_ne]; omega
  have p7 : ((c.toNat : Int) == 240) = false := by rw [beq_eq_false_iff_ne]; omega
  have p8 : decide ((241 : Int) ≤ (c.toNat : Int)) = true := by exact decide_eq_true (by omega)
  have p9 : decide ((c.toNat : Int) ≤ 243) = false := by exact decide_eq_false (by omega)
  have p10 : ((c.toNat : Int) == 244) = true := by rw [beq_iff_eq]; omega
  clear hc
  cases x1 <;> cases x2 <;> cases x3
  all_goals
    go_enter Tryd.func36, Tryd.ntmps36
    go_wp2_with (go_at_call 52; (first | (with_reducible refine (c1 _).mono ?_) | (with_reducible refine (c2 _).mono ?_) | (with_reducible refine (c3 _).mono ?_)); rintro e w1 ⟨rfl, rfl⟩)
    go_ret
    exact ⟨rfl, rfl⟩
set_option maxHeartbeats 1000000 in
theorem sizeI (s : ByteArray) (i : Nat) (c : UInt8) (hi : i < s.size) (hs : s[i]'hi = c) (hc : 245 ≤ c.toNat) (w : World) :
    Calls Tryd.prog 36 #[.string s, .int .i64 (i : Int)] w fun e w' => e = .returned (.int .i64 1) ∧ w' = w := by
  have hi' : (i : Int) < (s.size : Int) := by omega
  have p0 : decide ((194 : Int) ≤ (c.toNat : Int)) = true := by exact decide_eq_true (by omega)
  have p1 : decide ((c.toNat : Int) ≤ 223) = false := by exact decide_eq_false (by omega)
  have p2 : ((c.toNat : Int) == 224) = false := by rw [beq_eq_false_iff_ne]; omega
  have p3 : ((c.toNat : Int) == 237) = false := by rw [beq_eq_false_iff_ne]; omega
  have p4 : decide ((225 : Int) ≤ (c.toNat : Int)) = true := by exact decide_eq_true (by omega)
  have p5 : decide ((c.toNat : Int) ≤ 239) = false := by exact decide_eq_false (by omega)
  have p6 : ((c.toNat : Int) != 237) = true := by rw [bne_iff_ne]; omega
  have p7 : ((c.toNat : Int) == 240) = false := by rw [beq_eq_false_iff_ne]; omega
  have p8 : decide ((241 : Int) ≤ (c.toNat : Int)) = true := by exact decide_eq_true (by omega)
  have p9 : decide ((c.toNat : Int) ≤ 243) = false := by exact decide_eq_false (by omega)
  have p10 : ((c.toNat : Int) == 244) = false := by rw [beq_eq_false_iff_ne]; omega
  clear hc
  go_enter Tryd.func36, Tryd.ntmps36
  go_wp2_with fail
  go_ret
  exact ⟨rfl, rfl⟩
/-- size is how many bytes the rune has. -/
theorem dSize (l : List UInt8) (i : Nat) (hi : i < l.length) (hl : l.length ≤ 140737488355328) (w : World) :
    Calls Tryd.prog 36 #[str l, .int .i64 (i : Int)] w fun e w' => e = .returned (.int .i64 (wid (l.drop i) : Nat)) ∧ w' = w := by
  have hsz := size_str l
  obtain ⟨c, hc⟩ : ∃ c, l[i]? = some c := ⟨_, List.getElem?_eq_getElem hi⟩
  have hi' : i < (⟨l.toArray⟩ : ByteArray).size := by rw [hsz]; exact hi
  have hs := at_str l i c hc hi'
  have hm : (⟨l.toArray⟩ : ByteArray).size ≤ 140737488355328 := by rw [hsz]; exact hl
  have hd0 : ((l.drop i).getD 0 0) = c := by simp [List.getD_eq_getElem?_getD, hc]
  have hn : 1 ≤ (l.drop i).length := by rw [List.length_drop]; omega
  have hc256 := c.toNat_lt
  have b1 := ((l.drop i).getD 1 0).toNat_lt
  have b2 := ((l.drop i).getD 2 0).toNat_lt
  have b3 := ((l.drop i).getD 3 0).toNat_lt
  have cm : ∀ j lo hi : Nat, j ≤ 3 → ∀ w, Calls Tryd.prog 52 #[.string ⟨l.toArray⟩, .int .i64 ((i : Int) + (j : Int)), .int .u8 (lo : Int), .int .u8 (hi : Int)] w fun e w' => e = .returned (.bool (moreB l (i + j) lo hi)) ∧ w' = w := fun j lo hi _ w => by
    have := dMore l (i + j) lo hi w
    rw [show ((i + j : Nat) : Int) = (i : Int) + (j : Int) from Int.natCast_add i j] at this
    exact this
  have fin : ∀ (b : Bool) (k : Nat), wid (l.drop i) = (if b = true then k else 1) → Ending.returned (.int .i64 (if b = true then (k : Int) else 1)) = Ending.returned (.int .i64 (wid (l.drop i) : Nat)) := fun b k h => by
    rw [h]
    cases b <;> rfl
  unfold str
  by_cases hA : c.toNat < 194
  · refine (sizeA _ i c hi' hs hA w).mono fun e w' ⟨he, hw⟩ => ⟨?_, hw⟩
    rw [he]
    have : wid (l.drop i) = 1 := by
      unfold wid
      rw [hd0]
      generalize (l.drop i).length = n at *
      generalize ((l.drop i).getD 1 0).toNat = x1 at *
      generalize ((l.drop i).getD 2 0).toNat = x2 at *
      generalize ((l.drop i).getD 3 0).toNat = x3 at *
      generalize c.toNat = x0 at *
      unfold Lib.decodeN
      split
      · rfl
      · rw [if_neg (c := x0 / 16 = 14 ∧ _) (by omega), if_neg (c := x0 / 8 = 30 ∧ _) (by omega)]
        split
        · rw [if_neg (by omega)]
        · rfl
    rw [this]
    rfl
  · by_cases hI : 245 ≤ c.toNat
    · refine (sizeI _ i c hi' hs hI w).mono fun e w' ⟨he, hw⟩ => ⟨?_, hw⟩
      rw [he]
      have : wid (l.drop i) = 1 := by
        unfold wid
        rw [hd0]
        generalize (l.drop i).length = n at *
        generalize ((l.drop i).getD 1 0).toNat = x1 at *
        generalize ((l.drop i).getD 2 0).toNat = x2 at *
        generalize ((l.drop i).getD 3 0).toNat = x3 at *
        generalize c.toNat = x0 at *
        unfold Lib.decodeN
        rw [if_neg (by omega), if_neg (c := x0 / 32 = 6 ∧ _) (by omega), if_neg (c := x0 / 16 = 14 ∧ _) (by omega)]
        split
        · rw [if_neg (by omega)]
        · rfl
      rw [this]
      rfl
    · have hrest : (194 ≤ c.toNat ∧ c.toNat ≤ 223) ∨ c.toNat = 224 ∨ (225 ≤ c.toNat ∧ c.toNat ≤ 239 ∧ c.toNat ≠ 237) ∨ c.toNat = 237 ∨ c.toNat = 240 ∨ (241 ≤ c.toNat ∧ c.toNat ≤ 243) ∨ c.toNat = 244 := by omega
      rcases hrest with h | h | h | h | h | h | h
      · refine (sizeB _ i c hi' hm hs h _ w (cm 1 128 191 (by decide))).mono fun e w' ⟨he, hw⟩ => ⟨?_, hw⟩
        rw [he]
        refine fin (moreB l (i + 1) 128 191) 2 ?_
        unfold wid
        rw [hd0, ← Lib.slow_C2 _ _ _ _ _ hn b1 b2 b3 ⟨h.1, by omega⟩, moreB_drop]
        generalize (l.drop i).length = n at *
        generalize ((l.drop i).getD 1 0).toNat = x1 at *
        generalize ((l.drop i).getD 2 0).toNat = x2 at *
        generalize ((l.drop i).getD 3 0).toNat = x3 at *
        simp only [Bool.and_eq_true, decide_eq_true_eq]
        unfold Lib.slowN
        repeat' split
        all_goals first | rfl | (exfalso; omega)
      · refine (sizeC _ i c hi' hm hs h _ _ w (cm 1 160 191 (by decide)) (cm 2 128 191 (by decide))).mono fun e w' ⟨he, hw⟩ => ⟨?_, hw⟩
        rw [he]
        refine fin (moreB l (i + 1) 160 191 && moreB l (i + 2) 128 191) 3 ?_
        unfold wid
        rw [hd0, ← Lib.slow_E0 _ _ _ _ _ hn b1 b2 b3 h, moreB_drop, moreB_drop]
        generalize (l.drop i).length = n at *
        generalize ((l.drop i).getD 1 0).toNat = x1 at *
        generalize ((l.drop i).getD 2 0).toNat = x2 at *
        generalize ((l.drop i).getD 3 0).toNat = x3 at *
        simp only [Bool.and_eq_true, decide_eq_true_eq]
        unfold Lib.slowN
        repeat' split
        all_goals first | rfl | (exfalso; omega)
      · refine (sizeD _ i c hi' hm hs h _ _ w (cm 1 128 191 (by decide)) (cm 2 128 191 (by decide))).mono fun e w' ⟨he, hw⟩ => ⟨?_, hw⟩
        rw [he]
        refine fin (moreB l (i + 1) 128 191 && moreB l (i + 2) 128 191) 3 ?_
        unfold wid
        rw [hd0, ← Lib.slow_E1 _ _ _ _ _ hn b1 b2 b3 (by omega), moreB_drop, moreB_drop]
        generalize (l.drop i).length = n at *
        generalize ((l.drop i).getD 1 0).toNat = x1 at *
        generalize ((l.drop i).getD 2 0).toNat = x2 at *
        generalize ((l.drop i).getD 3 0).toNat = x3 at *
        simp only [Bool.and_eq_true, decide_eq_true_eq]
        unfold Lib.slowN
        repeat' split
        all_goals first | rfl | (exfalso; omega)
      · refine (sizeE _ i c hi' hm hs h _ _ w (cm 1 128 159 (by decide)) (cm 2 128 191 (by decide))).mono fun e w' ⟨he, hw⟩ => ⟨?_, hw⟩
        rw [he]
        refine fin (moreB l (i + 1) 128 159 && moreB l (i + 2) 128 191) 3 ?_
        unfold wid
        rw [hd0, ← Lib.slow_ED _ _ _ _ _ hn b1 b2 b3 h, moreB_drop, moreB_drop]
        generalize (l.drop i).length = n at *
        generalize ((l.drop i).getD 1 0).toNat = x1 at *
        generalize ((l.drop i).getD 2 0).toNat = x2 at *
        generalize ((l.drop i).getD 3 0).toNat = x3 at *
        simp only [Bool.and_eq_true, decide_eq_true_eq]
        unfold Lib.slowN
        repeat' split
        all_goals first | rfl | (exfalso; omega)
      · refine (sizeF _ i c hi' hm hs h _ _ _ w (cm 1 144 191 (by decide)) (cm 2 128 191 (by decide)) (cm 3 128 191 (by decide))).mono fun e w' ⟨he, hw⟩ => ⟨?_, hw⟩
        rw [he]
        refine fin (moreB l (i + 1) 144 191 && moreB l (i + 2) 128 191 && moreB l (i + 3) 128 191) 4 ?_
        unfold wid
        rw [hd0, ← Lib.slow_F0 _ _ _ _ _ hn b1 b2 b3 h, moreB_drop, moreB_drop, moreB_drop]
        generalize (l.drop i).length = n at *
        generalize ((l.drop i).getD 1 0).toNat = x1 at *
        generalize ((l.drop i).getD 2 0).toNat = x2 at *
        generalize ((l.drop i).getD 3 0).toNat = x3 at *
        simp only [Bool.and_eq_true, decide_eq_true_eq]
        unfold Lib.slowN
        repeat' split
        all_goals first | rfl | (exfalso; omega)
      · refine (sizeG _ i c hi' hm hs h _ _ _ w (cm 1 128 191 (by decide)) (cm 2 128 191 (by decide)) (cm 3 128 191 (by decide))).mono fun e w' ⟨he, hw⟩ => ⟨?_, hw⟩
        rw [he]
        refine fin (moreB l (i + 1) 128 191 && moreB l (i + 2) 128 191 && moreB l (i + 3) 128 191) 4 ?_
        unfold wid
        rw [hd0, ← Lib.slow_F1 _ _ _ _ _ hn b1 b2 b3 ⟨h.1, by omega⟩, moreB_drop, moreB_drop, moreB_drop]
        generalize (l.drop i).length = n at *
        generalize ((l.drop i).getD 1 0).toNat = x1 at *
        generalize ((l.drop i).getD 2 0).toNat = x2 at *
        generalize ((l.drop i).getD 3 0).toNat = x3 at *
        simp only [Bool.and_eq_true, decide_eq_true_eq]
        unfold Lib.slowN
        repeat' split
        all_goals first | rfl | (exfalso; omega)
      · refine (sizeH _ i c hi' hm hs h _ _ _ w (cm 1 128 143 (by decide)) (cm 2 128 191 (by decide)) (cm 3 128 191 (by decide))).mono fun e w' ⟨he, hw⟩ => ⟨?_, hw⟩
        rw [he]
        refine fin (moreB l (i + 1) 128 143 && moreB l (i + 2) 128 191 && moreB l (i + 3) 128 191) 4 ?_
        unfold wid
        rw [hd0, ← Lib.slow_F4 _ _ _ _ _ hn b1 b2 b3 h, moreB_drop, moreB_drop, moreB_drop]
        generalize (l.drop i).length = n at *
        generalize ((l.drop i).getD 1 0).toNat = x1 at *
        generalize ((l.drop i).getD 2 0).toNat = x2 at *
        generalize ((l.drop i).getD 3 0).toNat = x3 at *
        simp only [Bool.and_eq_true, decide_eq_true_eq]
        unfold Lib.slowN
        repeat' split
        all_goals first | rfl | (exfalso; omega)
end Go.Proofs.YtinbbcojilogeaaDoor.Tok
