/- Print's parts, as they are walked. -/
import Derived.Test.YtnpdfkcjjedamaaGreatDoorSza
namespace Go.Proofs.YtnpdfkcjjedamaaGreatDoor.Sca
open Go.RowKit Go.Lib Go.Shelf Go.Proofs.YtnpdfkcjjedamaaGreatDoor.Oct

def lenV : Value → Nat | .slice _ n _ => n | _ => 0
/-- A hexadecimal digit's byte. -/
def hxd (n : Nat) : UInt8 := if n < 10 then UInt8.ofNat (48 + n) else UInt8.ofNat (87 + n)
abbrev hexText : ByteArray := ⟨#[48, 49, 50, 51, 52, 53, 54, 55, 56, 57, 97, 98, 99, 100, 101, 102]⟩
theorem hex_at : ∀ n : Fin 16, hexText.data.toList[n.val]? = some (hxd n.val) := by decide +kernel
theorem index_hex (n : Nat) (h : n < 16) (w : World) : (Instr.index 9 (.string hexText) (.int .u64 (n : Int))).run Tryz.prog w = .ok (.int .u8 ((hxd n).toNat : Int)) w := by
  have hi : (0 : Int) ≤ (n : Int) ∧ (n : Int) < (hexText.size : Int) := ⟨by omega, by show (n : Int) < 16; omega⟩
  rw [run_index_string w 9 hexText .u64 (n : Int) Tryz.underlying9, dif_pos hi]
  have e := hex_at ⟨n, h⟩
  have e2 : hexText[(n : Int).toNat]'(by simp; show n < 16; exact h) = hxd n := by
    have e3 : hexText.data.toList[n]'(by show n < 16; exact h) = hxd n := Option.some.inj ((List.getElem?_eq_getElem (by show n < 16; exact h)).symm.trans e)
    exact e3
  rw [e2]
/-- The digits of bits that stand behind the point, the highest first. -/
def hexs : Nat → Nat → List UInt8
  | 0, _ => []
  | f + 1, b => if b = 0 then [] else hxd (b / 1152921504606846976) :: hexs f (b * 16 % 18446744073709551616)
theorem hexs_zero (f : Nat) : hexs f 0 = [] := by cases f <;> rfl
theorem hexs_len : ∀ f b, (hexs f b).length ≤ f
  | 0, _ => Nat.le_refl _
  | f + 1, b => by
    unfold hexs
    split
    · simp
    · rw [List.length_cons]
      exact Nat.succ_le_succ (hexs_len f _)
def fracB (b : Nat) : List UInt8 := if b = 0 then [] else 46 :: hexs 16 b
theorem pow16 (b : Nat) : b * 16 ^ 16 % 18446744073709551616 = 0 := by
  rw [show (16 : Nat) ^ 16 = 18446744073709551616 from by decide, Nat.mul_mod_left]
theorem sFraction (b : Nat) (hb : b < 18446744073709551616) (w : World) :
    Calls Tryz.prog 61 #[.int .u64 (b : Int)] w fun e w' => e = .returned (.string ⟨(fracB b).toArray⟩) ∧ Below w.heap.size w w' := by
  unfold fracB
  by_cases h0 : b = 0
  · subst h0
    rw [if_pos rfl]
    go_enter Tryz.func61, Tryz.ntmps61
    go_wp2
    go_ret
    exact ⟨rfl, Below.refl _ _⟩
  rw [if_neg h0]
  have h0z : ((b : Int) == 0) = false := by rw [beq_eq_false_iff_ne]; omega
  have hown0 : (w.alloc (.cells #[.int .u8 46] 5)).ownsRow w.heap.size 5 1 (.slice (some ⟨w.heap.size, 0, none⟩) 1 1) 1 (bv [46]) :=
    ⟨rfl, .inr ⟨w.heap.size, 1, #[.int .u8 46], rfl, Nat.le_refl _, heap_alloc_new w _, Nat.le_refl _, by unfold maxLen; omega, rfl, rfl⟩⟩
  have hb0 : Below w.heap.size w (w.alloc (.cells #[.int .u8 46] 5)) := (Below.refl _ _).alloc (Nat.le_refl _) _
  go_enter Tryz.func61, Tryz.ntmps61
  go_wp2
  go_loopw [0, 3] (fun bv' tv wr => ∃ k c : Nat, ∃ ds : List UInt8, k ≤ 16 ∧ bv' = .int .u64 ((b * 16 ^ k % 18446744073709551616 : Nat) : Int) ∧ ds.length = k ∧ ds ++ hexs (16 - k) (b * 16 ^ k % 18446744073709551616) = hexs 16 b ∧ ∃ g, tv = .slice (some ⟨g, 0, none⟩) (k + 1) c ∧ wr.ownsRow w.heap.size 5 1 (.slice (some ⟨g, 0, none⟩) (k + 1) c) (k + 1) (bv (46 :: ds)) ∧ Below w.heap.size w wr) (fun _ tv _ => 17 - lenV tv)
  case atStart => exact ⟨0, 1, [], by omega, by rw [Nat.pow_zero, Nat.mul_one, Nat.mod_eq_of_lt hb], rfl, by rw [Nat.pow_zero, Nat.mul_one, Nat.mod_eq_of_lt hb]; rfl, _, rfl, hown0, hb0⟩
  case round =>
    obtain ⟨k, c, ds, hk, rfl, hds, hh, g, rfl, hown, hbel⟩ := hrel
    have hx : b * 16 ^ (k + 1) % 18446744073709551616 = (b * 16 ^ k % 18446744073709551616) * 16 % 18446744073709551616 := by rw [Nat.pow_succ, ← Nat.mul_assoc, Nat.mod_mul_mod]
    have hxl : b * 16 ^ k % 18446744073709551616 < 18446744073709551616 := Nat.mod_lt _ (by decide)
    have hk16 : k = 16 → b * 16 ^ k % 18446744073709551616 = 0 := fun e => by rw [e]; exact pow16 b
    clear hown0 hb0
    by_cases hz : b * 16 ^ k % 18446744073709551616 = 0
    · rw [hz] at hh ⊢
      rw [hexs_zero, List.append_nil] at hh
      have hcv := conv_bs (c := c) (l := 46 :: ds) 95 9 5 Tryz.underlying95 Tryz.underlying5 Tryz.underlying9 (Bs.of_own hown)
      rw [List.length_cons, hds] at hcv
      have Hh : Hid (ds = hexs 16 b) := hh
      clear hh hx hxl hk16 hz h0z h0
      go_wp2
      go_ret
      exact ⟨by rw [Hh.out]; rfl, hbel⟩
    · have hkl : k < 16 := by
        rcases Nat.lt_or_ge k 16 with h | h
        · exact h
        · exact absurd (hk16 (by omega)) hz
      rw [show 16 - k = (16 - (k + 1)) + 1 from by omega] at hh
      unfold hexs at hh
      rw [if_neg hz] at hh
      generalize b * 16 ^ k % 18446744073709551616 = x at *
      have hxz : ((x : Int) != 0) = true := by rw [bne_iff_ne]; omega
      obtain ⟨d, hd⟩ : ∃ d, x / 1152921504606846976 = d := ⟨_, rfl⟩
      have hd16 : d < 16 := by omega
      have hdz : (x : Int) / 1152921504606846976 = (d : Int) := by omega
      have hix := index_hex d hd16
      obtain ⟨y, hy⟩ : ∃ y, x * 16 % 18446744073709551616 = y := ⟨_, rfl⟩
      have hyz : IntKind.u64.wrap ((x : Int) * 16) = (y : Int) := by rw [wrapU]; omega
      have hyz2 : ((x : Int) * 16) % 18446744073709551616 = (y : Int) := by omega
      rw [hy] at hx hh
      rw [hd] at hh
      have Hx : Hid (b * 16 ^ (k + 1) % 18446744073709551616 = y) := hx
      have Hh : Hid (ds ++ hxd d :: hexs (16 - (k + 1)) y = hexs 16 b) := hh
      have hs := hbel.size
      clear hh hx hd hy hz hk16 h0z h0
      go_wp2_with (at_builtin; refine wpList_push rfl _ _ 95 rfl 5 Tryz.underlying95 info5 w.heap.size (some ⟨g, 0, none⟩) (k + 1) c (46 :: ds) rfl hown _ (hxd d) rfl rfl (by omega) hs ?_)
      intro g2 c2 w2 hown2 hgrow hat
      have hb2 : Below w.heap.size w w2 := hbel.grown hgrow hs (fun q hq => (hown.lt q (by rw [ob_eq]; exact hq)).1)
      clear hown hgrow hat
      go_wp2
      exact ⟨⟨k + 1, c2, ds ++ [hxd d], by omega, by rw [Hx.out], by rw [List.length_append, hds]; rfl, by rw [Hx.out, List.append_assoc]; exact Hh.out, g2, rfl, hown2, hb2⟩, by simp [lenV]; omega⟩
end Go.Proofs.YtnpdfkcjjedamaaGreatDoor.Sca
