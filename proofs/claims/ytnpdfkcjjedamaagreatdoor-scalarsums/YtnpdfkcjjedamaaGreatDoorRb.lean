/- ParseInt(s, 16, 64), Atoi, Cut, as read takes them. -/
import Derived.Test.YtnpdfkcjjedamaaGreatDoorRa
namespace Go.Proofs.YtnpdfkcjjedamaaGreatDoor.Sca
open Go.RowKit Go.Lib Go.Shelf Go.Proofs.YtnpdfkcjjedamaaGreatDoor.Oct

/-- ParseInt's answer: of a number from 2^63 on: too far. -/
def pi (l : List UInt8) : Rd := match pu 0 l with
  | .ok n => if 9223372036854775808 ≤ n then .far else .ok n
  | r => r
def piV : Rd → Value
  | .ok n => .tuple #[.int .i64 (n : Int), .nilIface]
  | .bad => .tuple #[.int .i64 0, .iface 104 (.int .i64 2)]
  | .far => .tuple #[.int .i64 9223372036854775807, .iface 104 (.int .i64 1)]
theorem pu_lt : ∀ (l : List UInt8) (a n : Nat), a < 18446744073709551616 → pu a l = .ok n → n < 18446744073709551616
  | [], a, n, h, e => by cases e; exact h
  | c :: r, a, n, h, e => by
    rw [pu_cons] at e
    split at e
    · split at e
      · cases e
      · exact pu_lt r _ n (by omega) e
    · cases e
set_option maxRecDepth 100000 in
theorem iParseInt16 (l : List UInt8) (hmax : l.length ≤ 140737488351300) (w : World) :
    Calls Tryz.prog 82 #[.string ⟨(49 :: l).toArray⟩, .int .i64 16, .int .i64 64] w fun e w' => e = .returned (piV (pi (49 :: l))) ∧ Below w.heap.size w w' := by
  have cU := fun w => ParseUint16 ⟨(49 :: l).toArray⟩ (by show (49 :: l).toArray.size ≠ 0; simp) (by show (49 :: l).toArray.size ≤ _; simp; omega) w
  have hix : ∀ w, (Instr.index 9 (.string ⟨(49 :: l).toArray⟩) (.int .i64 0)).run Tryz.prog w = .ok (.int .u8 49) w := fun w => by
    have hi : (0 : Int) ≤ 0 ∧ (0 : Int) < ((⟨(49 :: l).toArray⟩ : ByteArray).size : Int) := ⟨by omega, by show (0 : Int) < ((49 :: l).toArray.size : Int); simp⟩
    rw [run_index_string w 9 _ .i64 0 Tryz.underlying9, dif_pos hi]
    rfl
  have hemp : (⟨(49 :: l).toArray⟩ : ByteArray).toList.isEmpty = false := by
    rw [← decide_eq_emptyBytes]
    exact decide_eq_false (fun h => by have := congrArg ByteArray.size h; simp [ByteArray.size] at this)
  have hpl := pu_lt (49 :: l) 0
  rw [show (ByteArray.mk (49 :: l).toArray).data.toList = 49 :: l from rfl] at cU
  unfold pi
  generalize (⟨(49 :: l).toArray⟩ : ByteArray) = s at *
  cases hp : pu 0 (49 :: l) with
  | ok n =>
    rw [hp] at cU hpl
    have hn := hpl n (by decide) rfl
    by_cases hc : 9223372036854775808 ≤ n
    · have hcz : decide ((9223372036854775808 : Int) ≤ (n : Int)) = true := decide_eq_true (by omega)
      show Calls _ _ _ _ fun e w' => e = .returned (piV (if 9223372036854775808 ≤ n then .far else .ok n)) ∧ _
      rw [if_pos hc]
      clear hc hpl hp
      go_enter Tryz.func82, Tryz.ntmps82
      go_wp2_with fail
      refine (cU _).mono ?_
      rintro e w1 ⟨rfl, hb⟩
      unfold puV
      go_wp2
      go_ret2
      exact ⟨rfl, hb⟩
    · have hcz : decide ((9223372036854775808 : Int) ≤ (n : Int)) = false := decide_eq_false (by omega)
      have hcw : IntKind.i64.wrap (n : Int) = (n : Int) := by simp [IntKind.wrap, IntKind.bits, IntKind.signed]; omega
      have hn2 : n < 9223372036854775808 := by omega
      show Calls _ _ _ _ fun e w' => e = .returned (piV (if 9223372036854775808 ≤ n then .far else .ok n)) ∧ _
      rw [if_neg hc]
      clear hc hpl hp
      go_enter Tryz.func82, Tryz.ntmps82
      go_wp2_with fail
      refine (cU _).mono ?_
      rintro e w1 ⟨rfl, hb⟩
      unfold puV
      go_wp2
      go_ret2
      exact ⟨rfl, hb⟩
  | bad =>
    rw [hp] at cU
    have hne : ∀ w, (binOp .neq 86 (.iface 104 (.int .i64 2)) (.iface 104 (.int .i64 1))).run Tryz.prog w = .ok (.bool true) w := fun _ => by kernel_rfl
    show Calls _ _ _ _ fun e w' => e = .returned (piV .bad) ∧ _
    clear hpl hp
    go_enter Tryz.func82, Tryz.ntmps82
    go_wp2_with fail
    refine (cU _).mono ?_
    rintro e w1 ⟨rfl, hb⟩
    unfold puV
    go_wp2
    go_ret2
    exact ⟨rfl, hb⟩
  | far =>
    rw [hp] at cU
    have hne : ∀ w, (binOp .neq 86 (.iface 104 (.int .i64 1)) (.iface 104 (.int .i64 1))).run Tryz.prog w = .ok (.bool false) w := fun _ => by kernel_rfl
    show Calls _ _ _ _ fun e w' => e = .returned (piV .far) ∧ _
    clear hpl hp
    go_enter Tryz.func82, Tryz.ntmps82
    go_wp2_with fail
    refine (cU _).mono ?_
    rintro e w1 ⟨rfl, hb⟩
    unfold puV
    go_wp2
    go_ret2
    exact ⟨rfl, hb⟩

/-- The two errors of package strconv lie somewhere. -/
structure Te (w : World) : Prop where
  syn : ∃ ev, w.cell? ⟨4, 0, none⟩ = some ev ∧ (ev = .nilIface ∨ ∃ te pe, ev = .iface te pe)
  rng : ∃ ev, w.cell? ⟨5, 0, none⟩ = some ev ∧ (ev = .nilIface ∨ ∃ te pe, ev = .iface te pe)
theorem Te.below {w w' : World} (h : Te w) (hb : Below w.heap.size w w') : Te w' := by
  obtain ⟨⟨e1, h1, k1⟩, ⟨e2, h2, k2⟩⟩ := h
  exact ⟨⟨e1, cell_below h1 hb, k1⟩, ⟨e2, cell_below h2 hb, k2⟩⟩
theorem toErr_syn (fn s : ByteArray) (base bits : Int) (w : World) (hl : s.size ≤ 281474976710656) (h : Te w) :
    Calls Tryz.prog 83 #[.string fn, .string s, .int .i64 base, .int .i64 bits, .iface 104 (.int .i64 2)] w fun e w' => ∃ N, e = .returned (.iface 107 (.pointer (some ⟨N, 0, none⟩))) ∧ Below w.heap.size w w' := by
  obtain ⟨ev, h1, h2⟩ := h.syn
  exact (Any.strconv_toError_syntax Tryz.laysToError fn s base bits ev w hl h1 h2).mono fun _ _ ⟨N, he, _, _, hb⟩ => ⟨N, he, hb⟩
theorem toErr_rng (fn s : ByteArray) (base bits : Int) (w : World) (hl : s.size ≤ 281474976710656) (h : Te w) :
    Calls Tryz.prog 83 #[.string fn, .string s, .int .i64 base, .int .i64 bits, .iface 104 (.int .i64 1)] w fun e w' => ∃ N, e = .returned (.iface 107 (.pointer (some ⟨N, 0, none⟩))) ∧ Below w.heap.size w w' := by
  obtain ⟨ev, h1, h2⟩ := h.rng
  exact (Any.strconv_toError_range Tryz.laysToError fn s base bits ev w hl h1 h2).mono fun _ _ ⟨N, he, _, _, hb⟩ => ⟨N, he, hb⟩
/-- What the public ParseInt answers: the number and no error, or an error. -/
theorem ParseInt_ok (l : List UInt8) (hmax : l.length ≤ 140737488351300) (n : Nat) (hp : pi (49 :: l) = .ok n) (w : World) :
    Calls Tryz.prog 67 #[.string ⟨(49 :: l).toArray⟩, .int .i64 16, .int .i64 64] w fun e w' => e = .returned (.tuple #[.int .i64 (n : Int), .nilIface]) ∧ Below w.heap.size w w' := by
  have cI := iParseInt16 l hmax w
  rw [hp] at cI
  generalize (⟨(49 :: l).toArray⟩ : ByteArray) = s at *
  go_enter Tryz.func67, Tryz.ntmps67
  go_wp2_with fail
  refine cI.mono ?_
  rintro e w1 ⟨rfl, hb⟩
  unfold piV
  go_wp2
  go_ret2
  exact ⟨rfl, hb⟩
theorem ParseInt_err (l : List UInt8) (hmax : l.length ≤ 140737488351300) (hp : pi (49 :: l) = .bad ∨ pi (49 :: l) = .far) (w : World) (hT : Te w) :
    Calls Tryz.prog 67 #[.string ⟨(49 :: l).toArray⟩, .int .i64 16, .int .i64 64] w fun e w' => (∃ v N, e = .returned (.tuple #[.int .i64 v, .iface 107 (.pointer (some ⟨N, 0, none⟩))])) ∧ Below w.heap.size w w' := by
  have cI := iParseInt16 l hmax w
  have hsz : (⟨(49 :: l).toArray⟩ : ByteArray).size ≤ 281474976710656 := by show (49 :: l).toArray.size ≤ _; simp; omega
  rcases hp with hp | hp
  · rw [hp] at cI
    generalize (⟨(49 :: l).toArray⟩ : ByteArray) = s at *
    go_enter Tryz.func67, Tryz.ntmps67
    go_wp2_with fail
    refine cI.mono ?_
    rintro e w1 ⟨rfl, hb⟩
    unfold piV
    go_wp2_with fail
    refine (toErr_syn _ s _ _ w1 hsz (hT.below hb)).mono ?_
    rintro e w2 ⟨N, rfl, hb2⟩
    go_wp2
    go_ret2
    exact ⟨⟨_, N, rfl⟩, hb.trans (hb2.mono hb.size)⟩
  · rw [hp] at cI
    generalize (⟨(49 :: l).toArray⟩ : ByteArray) = s at *
    go_enter Tryz.func67, Tryz.ntmps67
    go_wp2_with fail
    refine cI.mono ?_
    rintro e w1 ⟨rfl, hb⟩
    unfold piV
    go_wp2_with fail
    refine (toErr_rng _ s _ _ w1 hsz (hT.below hb)).mono ?_
    rintro e w2 ⟨N, rfl, hb2⟩
    go_wp2
    go_ret2
    exact ⟨⟨_, N, rfl⟩, hb.trans (hb2.mono hb.size)⟩
end Go.Proofs.YtnpdfkcjjedamaaGreatDoor.Sca
