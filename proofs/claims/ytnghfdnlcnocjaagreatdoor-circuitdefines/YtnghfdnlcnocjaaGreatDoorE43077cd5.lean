import Derived.Test.YtnghfdnlcnocjaaGreatDoorE86df15d9
import Derived.Test.YtnghfdnlcnocjaaGreatDoorEf9877d50
import Derived.Test.YtnghfdnlcnocjaaGreatDoorProg
import Derived.Shelf.RegionOpenPlain
set_option maxHeartbeats 1000000
namespace Go.Proofs.YtnghfdnlcnocjaaGreatDoor.Tok
open Go.RowKit Go.Lib Go.Shelf Go.Proofs.YtnghfdnlcnocjaaGreatDoor.Oct
theorem mixed_ok : Tryz.prog.follows .mixedOrders = true := by kernel_rfl
def str (l : List UInt8) : Value := .string ⟨l.toArray⟩
theorem size_str (l : List UInt8) : (⟨l.toArray⟩ : ByteArray).size = l.length := by show l.toArray.size = _; simp
theorem nDigit (b : UInt8) (w : World) : Calls Tryz.prog 78 #[.int .u8 (b.toNat : Int)] w fun e w' => e = .returned (.bool (isD b)) /\ w' = w := by
  unfold isD
  obtain ⟨x, hx⟩ : ∃ x, b.toNat = x := ⟨_, rfl⟩
  rw [hx]
  go_enter Tryz.func78, Tryz.ntmps78
  go_wp2
  all_goals (go_ret; refine ⟨?_, rfl⟩; show Ending.returned (Value.bool _) = _; congr 2; rw [Bool.eq_iff_iff]; simp; omega)
theorem nLetter (b : UInt8) (w : World) : Calls Tryz.prog 76 #[.int .u8 (b.toNat : Int)] w fun e w' => e = .returned (.bool (isL b)) /\ w' = w := by
  unfold isL
  obtain ⟨x, hx⟩ : ∃ x, b.toNat = x := ⟨_, rfl⟩
  rw [hx]
  go_enter Tryz.func76, Tryz.ntmps76
  go_wp2
  all_goals (go_ret; refine ⟨?_, rfl⟩; show Ending.returned (Value.bool _) = _; congr 2; rw [Bool.eq_iff_iff]; simp; omega)
theorem nLine (b : UInt8) (w : World) : Calls Tryz.prog 75 #[.int .u8 (b.toNat : Int)] w fun e w' => e = .returned (.bool (inLn b)) /\ w' = w := by
  unfold inLn
  obtain ⟨x, hx⟩ : ∃ x, b.toNat = x := ⟨_, rfl⟩
  rw [hx]
  go_enter Tryz.func75, Tryz.ntmps75
  go_wp2
  all_goals (go_ret; refine ⟨?_, rfl⟩; show Ending.returned (Value.bool _) = _; congr 2; rw [Bool.eq_iff_iff]; simp; omega)
theorem nQuotes (b : UInt8) (w : World) : Calls Tryz.prog 104 #[.int .u8 (b.toNat : Int)] w fun e w' => e = .returned (.bool (inQ b)) /\ w' = w := by
  unfold inQ
  obtain ⟨x, hx⟩ : ∃ x, b.toNat = x := ⟨_, rfl⟩
  rw [hx]
  go_enter Tryz.func104, Tryz.ntmps104
  go_wp2
  all_goals (go_ret; refine ⟨?_, rfl⟩; show Ending.returned (Value.bool _) = _; congr 2; rw [Bool.eq_iff_iff]; simp; omega)
theorem nWord (b : UInt8) (w : World) : Calls Tryz.prog 101 #[.int .u8 (b.toNat : Int)] w fun e w' => e = .returned (.bool (inW b)) /\ w' = w := by
  have c1 := fun w => nLetter b w
  have c2 := fun w => nDigit b w
  unfold inW
  generalize isL b = p at *
  generalize isD b = q at *
  generalize b.toNat = x at *
  go_enter Tryz.func101, Tryz.ntmps101
  go_wp2_with fail
  refine (c1 _).mono ?_
  rintro e w1 ⟨rfl, rfl⟩
  cases p
  . go_wp2_with fail
    refine (c2 _).mono ?_
    rintro e w1 ⟨rfl, rfl⟩
    go_wp2
    go_ret
    exact ⟨rfl, rfl⟩
  . go_wp2
    go_ret
    exact ⟨rfl, rfl⟩
theorem nSpan (g : Nat) (p : UInt8 -> Bool) (eg : ∀ args w, (callFunc g args).run Tryz.prog w = .ok (.enter g args) w) (c : ∀ (b : UInt8) (w : World), Calls Tryz.prog g #[.int .u8 (b.toNat : Int)] w fun e w' => e = .returned (.bool (p b)) /\ w' = w)
    (l : List UInt8) (hl : l.length <= 140737488355328) (w : World) : Calls Tryz.prog 74 #[str l, .func (.func g) #[] #[]] w fun e w' => e = .returned (.int .i64 (sp p l : Nat)) /\ w' = w := by
  have hsz := size_str l
  have hat : ∀ i (h : i < l.length), (⟨l.toArray⟩ : ByteArray)[i]'(by rw [hsz]; exact h) = l[i] := fun i h => rfl
  unfold str
  generalize (⟨l.toArray⟩ : ByteArray) = s at *
  go_enter Tryz.func74, Tryz.ntmps74
  go_wp2_with fail
  go_loopw [8] (fun i wr => wr = w /\ ∃ k : Nat, k <= l.length /\ i = .int .i64 (k : Int) /\ sp p l = k + sp p (l.drop k)) (fun i _ => l.length - (intOf i).toNat)
  case atStart => exact ⟨rfl, 0, Nat.zero_le _, rfl, by simp⟩
  case round =>
    obtain ⟨rfl, k, hk, rfl, hinv⟩ := hrel
    by_cases hlt : k < l.length
    . have hlt' : (k : Int) < (s.size : Int) := by omega
      have hsk := hat k hlt
      have cb := fun w => c (l[k]) w
      have hdr : l.drop k = l[k] :: l.drop (k + 1) := List.drop_eq_getElem_cons hlt
      cases hp : p (l[k])
      . have Hn : Hid (sp p l = k) := hide (by rw [hinv, hdr, sp_cons_false _ hp]; rfl)
        rw [hp] at cb
        clear hinv hdr c hat hp
        generalize l[k] = b at *
        go_wp2_with (go_at_fn g; refine (cb _).mono ?_; rintro e w1 ⟨rfl, rfl⟩)
        go_ret
        rw [Hn.out]
        exact ⟨rfl, rfl⟩
      . have Hn : Hid (sp p l = k + 1 + sp p (l.drop (k + 1))) := hide (by rw [hinv, hdr, sp_cons_true _ hp]; omega)
        rw [hp] at cb
        clear hinv hdr c hat hp
        generalize l[k] = b at *
        go_wp2_with (go_at_fn g; refine (cb _).mono ?_; rintro e w1 ⟨rfl, rfl⟩)
        exact ⟨⟨trivial, k + 1, by omega, by go_num, Hn.out⟩, by simp [intOf]; omega⟩
    . have hlt' : ¬ (k : Int) < (s.size : Int) := by omega
      have hke : k = l.length := by omega
      have Hn : Hid (sp p l = l.length) := hide (by rw [hinv, List.drop_of_length_le (by omega), hke]; rfl)
      clear hinv hat c
      go_wp2_with fail
      go_ret
      rw [Hn.out]
      exact ⟨rfl, rfl⟩
end Go.Proofs.YtnghfdnlcnocjaaGreatDoor.Tok
