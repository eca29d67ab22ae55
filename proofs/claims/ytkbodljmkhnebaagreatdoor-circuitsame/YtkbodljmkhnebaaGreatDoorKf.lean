/- Package token: gap, as it is walked. -/
import Derived.Test.YtkbodljmkhnebaaGreatDoorKe
import Derived.WalkMore
namespace Go.Proofs.YtkbodljmkhnebaaGreatDoor.Tok
open Go.RowKit Go.Shelf Go.Proofs.YtkbodljmkhnebaaGreatDoor.Oct

theorem blank_cases (b : UInt8) (h : blank b = true) : b = 32 ∨ b = 9 ∨ b = 10 ∨ b = 13 := by
  simp [blank] at h
  rcases h with ((h | h) | h) | h
  · exact .inl (UInt8.toNat.inj (by simpa using h))
  · exact .inr (.inl (UInt8.toNat.inj (by simpa using h)))
  · exact .inr (.inr (.inl (UInt8.toNat.inj (by simpa using h))))
  · exact .inr (.inr (.inr (UInt8.toNat.inj (by simpa using h))))
theorem blank_not (b : UInt8) (h : blank b = false) : ((b.toNat : Int) == 32) = false ∧ ((b.toNat : Int) == 9) = false ∧ ((b.toNat : Int) == 10) = false ∧ ((b.toNat : Int) == 13) = false := by
  simp [blank] at h
  simp only [beq_eq_false_iff_ne]
  omega
theorem sp_slash (l : List UInt8) (h : ([47, 47] : List UInt8).isPrefixOf l = true) : 1 ≤ sp inLn l := by
  cases l with
  | nil => simp at h
  | cons a r =>
    cases r with
    | nil => simp at h
    | cons c r =>
      simp at h
      obtain ⟨rfl, rfl⟩ := h
      rw [sp_cons_true _ (by decide)]
      omega
set_option maxHeartbeats 1000000 in
theorem nGap (l : List UInt8) (hl : l.length ≤ 140737488355328) (w : World) : Calls Tryz.prog 69 #[str l] w fun e w' => e = .returned (.int .i64 (gp false l : Nat)) ∧ w' = w := by
  have hsz := size_str l
  have hat := at_str l
  have hxd := fun k => ext_drop l k
  unfold str
  have hsl : (⟨l.toArray⟩ : ByteArray) = ⟨l.toArray⟩ := rfl
  generalize (⟨l.toArray⟩ : ByteArray) = s at *
  go_enter Tryz.func69, Tryz.ntmps69
  go_wp2_with fail
  go_step3
  go_wp2_with fail
  go_step3
  go_wp2_with fail
  go_loopw [3] (fun i wr => wr = w ∧ ∃ k : Nat, k ≤ l.length ∧ i = .int .i64 (k : Int) ∧ gp false l = k + gp false (l.drop k)) (fun i _ => l.length - (RowKit.intOf i).toNat)
  case atStart => exact ⟨rfl, 0, Nat.zero_le _, rfl, by simp⟩
  case round =>
    obtain ⟨rfl, k, hk, rfl, hinv⟩ := hrel
    by_cases hlt : k < l.length
    · have hlt' : (k : Int) < (s.size : Int) := by omega
      obtain ⟨b, hb0⟩ : ∃ b, l[k]? = some b := ⟨_, List.getElem?_eq_getElem hlt⟩
      have hb := hat k b hb0 (by rw [hsz]; exact hlt)
      have hdr : l.drop k = b :: l.drop (k + 1) := by
        rw [List.drop_eq_getElem_cons hlt]
        rw [List.getElem?_eq_getElem hlt] at hb0
        rw [Option.some.inj hb0]
      cases hbl : blank b with
      | true =>
        have Hn : Hid (gp false l = k + 1 + gp false (l.drop (k + 1))) := hide (by rw [hinv, hdr, gp_blank _ hbl]; omega)
        clear hinv hdr hat hb0 hxd
        rcases blank_cases b hbl with rfl | rfl | rfl | rfl
        all_goals go_wp2_with fail
        all_goals exact ⟨⟨trivial, k + 1, by omega, by go_num, Hn.out⟩, by simp [RowKit.intOf]; omega⟩
      | false =>
        obtain ⟨n1, n2, n3, n4⟩ := blank_not b hbl
        by_cases hs : b = 47
        · have c1 := fun w => sHasPrefix (l.drop k) [47, 47] w
          have hx := hxd k
          cases hp : ([47, 47] : List UInt8).isPrefixOf (l.drop k) with
          | true =>
            have c2 := fun w => nSpan _ inLn eLine nLine (l.drop k) (by rw [List.length_drop]; omega) w
            have hsp := sp_le inLn (l.drop k)
            have hsp1 := sp_slash _ hp
            rw [List.length_drop] at hsp
            have Hn : Hid (gp false l = k + sp inLn (l.drop k) + gp false (l.drop (k + sp inLn (l.drop k)))) := hide (by rw [hinv, gp_com _ hp, List.drop_drop]; omega)
            rw [hp] at c1
            unfold str at c2
            clear hinv hdr hat hb0 hxd hp
            generalize (⟨(l.drop k).toArray⟩ : ByteArray) = s1 at *
            generalize sp inLn (l.drop k) = m at *
            subst hs
            go_wp2_with (first | (go_at_call 115; refine (c2 _).mono ?_; rintro e w1 ⟨rfl, rfl⟩) | (go_at_call 114; refine (c1 _).mono ?_; rintro e w1 ⟨rfl, rfl⟩))
            exact ⟨⟨trivial, k + m, by omega, by go_num, Hn.out⟩, by simp [RowKit.intOf]; omega⟩
          | false =>
            have Hn : Hid (gp false l = k) := hide (by rw [hinv, gp_stop _ b _ hdr hbl hp, Nat.add_zero])
            rw [hp] at c1
            clear hinv hdr hat hb0 hxd hp
            generalize (⟨(l.drop k).toArray⟩ : ByteArray) = s1 at *
            subst hs
            go_wp2_with (go_at_call 114; refine (c1 _).mono ?_; rintro e w1 ⟨rfl, rfl⟩)
            rw [Exit.noGoto_ret]
            go_ret
            rw [Hn.out]
            exact ⟨rfl, rfl⟩
        · have n5 : ((b.toNat : Int) == 47) = false := by rw [beq_eq_false_iff_ne]; intro e; apply hs; apply UInt8.toNat.inj; simp; omega
          have hp : ([47, 47] : List UInt8).isPrefixOf (l.drop k) = false := by
            rw [hdr]
            have : ¬ 47 = b := fun e => hs e.symm
            simp [List.isPrefixOf, this]
          have Hn : Hid (gp false l = k) := hide (by rw [hinv, gp_stop _ b _ hdr hbl hp, Nat.add_zero])
          clear hp
          clear hinv hdr hat hb0 hxd
          go_wp2_with fail
          rw [Exit.noGoto_ret]
          go_ret
          rw [Hn.out]
          exact ⟨rfl, rfl⟩
    · have hlt' : ¬ (k : Int) < (s.size : Int) := by omega
      have Hn : Hid (gp false l = k) := hide (by rw [hinv, List.drop_of_length_le (by omega)]; rfl)
      clear hinv hat hxd
      go_wp2_with fail
      go_ret
      rw [Hn.out]
      exact ⟨rfl, rfl⟩
end Go.Proofs.YtkbodljmkhnebaaGreatDoor.Tok
