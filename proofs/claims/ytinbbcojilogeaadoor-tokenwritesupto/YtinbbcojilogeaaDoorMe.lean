/- The document's skip, as it is walked. -/
import Derived.Test.YtinbbcojilogeaaDoorMc
namespace Go.Proofs.YtinbbcojilogeaaDoor.Tok
open Go.RowKit Go.Shelf Go.Proofs.YtinbbcojilogeaaDoor.Oct

theorem pre_two (l : List UInt8) (k : Nat) (b : UInt8) (r : List UInt8) (h : l.drop k = b :: r) : ([47, 47] : List UInt8).isPrefixOf (l.drop k) = (decide (b = 47) && decide (r.head? = some 47)) := by
  rw [h]
  cases r with
  | nil => simp [List.isPrefixOf]
  | cons c t =>
    rw [Bool.eq_iff_iff]
    simp
    constructor
    · rintro ⟨rfl, rfl⟩; exact ⟨rfl, rfl⟩
    · rintro ⟨rfl, rfl⟩; exact ⟨rfl, rfl⟩
set_option maxRecDepth 100000 in
set_option maxHeartbeats 4000000 in
theorem dSkip (l : List UInt8) (i : Nat) (hi : i ≤ l.length) (hl : l.length ≤ 140737488355328) (w : World) :
    Calls Tryd.prog 31 #[str l, .int .i64 (i : Int)] w fun e w' => e = .returned (.int .i64 ((i + gp false (l.drop i) : Nat) : Int)) ∧ w' = w := by
  have hsz := size_str l
  have hat := at_str l
  unfold str
  generalize (⟨l.toArray⟩ : ByteArray) = s at *
  obtain ⟨R, hR⟩ : ∃ R, i + gp false (l.drop i) = R := ⟨_, rfl⟩
  rw [hR]
  have HR := hide hR
  have Hat := hide hat
  clear hR hat
  go_enter Tryd.func31, Tryd.ntmps31
  go_wp2_with fail
  go_loopw [1] (fun x wr => wr = w ∧ ∃ k : Nat, i ≤ k ∧ k ≤ l.length ∧ x = .int .i64 (k : Int) ∧ Hid (R = k + gp false (l.drop k))) (fun x _ => l.length - (RowKit.intOf x).toNat)
  case atStart => exact ⟨rfl, i, Nat.le_refl _, hi, rfl, hide HR.out.symm⟩
  case round =>
    obtain ⟨rfl, k, hik, hk, rfl, Hinv⟩ := hrel
    have hinv := Hinv.out
    by_cases hlt : k < l.length
    · have hlt' : (k : Int) < (l.length : Int) := by omega
      obtain ⟨b, hb0⟩ : ∃ b, l[k]? = some b := ⟨_, List.getElem?_eq_getElem hlt⟩
      have hb := Hat.out k b hb0 (by rw [hsz]; exact hlt)
      have hdr : l.drop k = b :: l.drop (k + 1) := by
        rw [List.drop_eq_getElem_cons hlt]
        rw [List.getElem?_eq_getElem hlt] at hb0
        rw [Option.some.inj hb0]
      cases hbl : blank b with
      | true =>
        have Hn : Hid (R = k + 1 + gp false (l.drop (k + 1))) := hide (by rw [hinv, hdr, gp_blank _ hbl]; omega)
        clear Hinv hinv hdr hb0
        rcases blank_cases b hbl with rfl | rfl | rfl | rfl
        all_goals go_wp2_with fail
        all_goals exact ⟨⟨trivial, k + 1, by omega, by omega, by go_num, Hn⟩, by simp [RowKit.intOf]; omega⟩
      | false =>
        obtain ⟨n1, n2, n3, n4⟩ := blank_not b hbl
        have hp2 := pre_two l k b _ hdr
        by_cases hs : b = 47
        · by_cases hk1 : k + 1 < l.length
          · obtain ⟨c, hc0⟩ : ∃ c, l[k + 1]? = some c := ⟨_, List.getElem?_eq_getElem hk1⟩
            have hc := Hat.out (k + 1) c hc0 (by rw [hsz]; exact hk1)
            have hk1' : ¬ (l.length : Int) ≤ (k : Int) + 1 := by omega
            have hk1'' : (k : Int) + 1 < (l.length : Int) := by omega
            have hh : (l.drop (k + 1)).head? = some c := by rw [List.head?_drop]; exact hc0
            rw [hh] at hp2
            by_cases hc47 : c = 47
            · have hp : ([47, 47] : List UInt8).isPrefixOf (l.drop k) = true := by rw [hp2, hs, hc47]; rfl
              have hcom := gp_com _ hp
              have hsp1 := sp_slash _ hp
              have Hn : Hid (R = k + sp inLn (l.drop k) + gp false (l.drop (k + sp inLn (l.drop k)))) := hide (by rw [hinv, hcom, List.drop_drop]; omega)
              subst hs hc47
              clear Hinv hinv hdr hb0 hp hp2 hcom hh hc0
              go_wp2_with fail
              go_loopw [1] (fun x wz => wz = wr ∧ ∃ j : Nat, k ≤ j ∧ j ≤ l.length ∧ x = .int .i64 (j : Int) ∧ Hid (k + sp inLn (l.drop k) = j + sp inLn (l.drop j))) (fun x _ => l.length - (RowKit.intOf x).toNat)
              case atStart => exact ⟨rfl, k, Nat.le_refl _, hk, rfl, hide rfl⟩
              case round =>
                rcases hrel with ⟨hwz, j, hkj, hj, rfl, Hinv2⟩
                subst hwz
                have hinv2 := Hinv2.out
                by_cases hjl : j < l.length
                · have hjl' : (j : Int) < (l.length : Int) := by omega
                  obtain ⟨c, hc0⟩ : ∃ c, l[j]? = some c := ⟨_, List.getElem?_eq_getElem hjl⟩
                  have hcj := Hat.out j c hc0 (by rw [hsz]; exact hjl)
                  have hdj : l.drop j = c :: l.drop (j + 1) := by
                    rw [List.drop_eq_getElem_cons hjl]
                    rw [List.getElem?_eq_getElem hjl] at hc0
                    rw [Option.some.inj hc0]
                  by_cases h10 : c = 10
                  · have Hfin : Hid (R = j + gp false (l.drop j)) := hide (by
                      have e0 : sp inLn (l.drop j) = 0 := by rw [hdj, sp_cons_false _ (by rw [h10]; rfl)]
                      rw [e0, Nat.add_zero] at hinv2
                      rw [Hn.out, hinv2])
                    have hkj2 : k < j := by
                      have e0 : sp inLn (l.drop j) = 0 := by rw [hdj, sp_cons_false _ (by rw [h10]; rfl)]
                      omega
                    subst h10
                    clear hinv2 Hinv2 hdj hc0 hc hb hlt' hlt hk1 hk1' hk1''
                    go_wp2_with fail
                    exact ⟨⟨trivial, j, by omega, by omega, rfl, Hfin⟩, by simp [RowKit.intOf]; omega⟩
                  · have hn10 : ((c.toNat : Int) == 10) = false := by rw [beq_eq_false_iff_ne]; intro e; apply h10; apply UInt8.toNat.inj; simp; omega
                    have hn10' : ((c.toNat : Int) != 10) = true := by rw [bne, hn10]; rfl
                    have Hgo : Hid (k + sp inLn (l.drop k) = j + 1 + sp inLn (l.drop (j + 1))) := hide (by
                      rw [hinv2, hdj, sp_cons_true _ (by unfold inLn; rw [bne_iff_ne]; intro e; apply h10; exact UInt8.toNat.inj e)]
                      omega)
                    clear hinv2 Hinv2 hdj hc0 hc hb hlt' hlt hk1 hk1' hk1''
                    go_wp2_with fail
                    exact ⟨⟨trivial, j + 1, by omega, by omega, by go_num, Hgo⟩, by simp [RowKit.intOf]; omega⟩
                · have hjl' : ¬ (j : Int) < (l.length : Int) := by omega
                  have Hfin : Hid (R = j + gp false (l.drop j)) := hide (by
                    have e0 : sp inLn (l.drop j) = 0 := by rw [List.drop_of_length_le (by omega)]; rfl
                    rw [e0, Nat.add_zero] at hinv2
                    rw [Hn.out, hinv2])
                  have hkj2 : k < j := by omega
                  clear hinv2 Hinv2 hc hb hlt' hlt hk1 hk1' hk1''
                  go_wp2_with fail
                  exact ⟨⟨trivial, j, by omega, by omega, rfl, Hfin⟩, by simp [RowKit.intOf]; omega⟩
            · have hn47 : ((c.toNat : Int) == 47) = false := by rw [beq_eq_false_iff_ne]; intro e; apply hc47; apply UInt8.toNat.inj; simp; omega
              have hn47' : ((c.toNat : Int) != 47) = true := by rw [bne, hn47]; rfl
              have hp : ([47, 47] : List UInt8).isPrefixOf (l.drop k) = false := by
                rw [hp2]
                have : ¬ some c = some (47 : UInt8) := fun e => hc47 (Option.some.inj e)
                simp [this]
              have Hfin : Hid (R = k) := hide (by rw [hinv, gp_stop _ b _ hdr hbl hp, Nat.add_zero])
              subst hs
              clear Hinv hinv hdr hb0 hp hp2 hh hc0
              go_wp2_with fail
              go_ret
              rw [Hfin.out]
              exact ⟨rfl, rfl⟩
          · have hk1' : (l.length : Int) ≤ (k : Int) + 1 := by omega
            have hh : l.drop (k + 1) = [] := List.drop_of_length_le (by omega)
            have hp : ([47, 47] : List UInt8).isPrefixOf (l.drop k) = false := by rw [hp2, hh]; simp
            have Hfin : Hid (R = k) := hide (by rw [hinv, gp_stop _ b _ hdr hbl hp, Nat.add_zero])
            subst hs
            clear Hinv hinv hdr hb0 hp hp2 hh
            go_wp2_with fail
            go_ret
            rw [Hfin.out]
            exact ⟨rfl, rfl⟩
        · have n5 : ((b.toNat : Int) == 47) = false := by rw [beq_eq_false_iff_ne]; intro e; apply hs; apply UInt8.toNat.inj; simp; omega
          have n6 : ((b.toNat : Int) != 47) = true := by rw [bne, n5]; rfl
          have hp : ([47, 47] : List UInt8).isPrefixOf (l.drop k) = false := by rw [hp2, decide_eq_false hs]; rfl
          have Hfin : Hid (R = k) := hide (by rw [hinv, gp_stop _ b _ hdr hbl hp, Nat.add_zero])
          clear Hinv hinv hdr hb0 hp hp2
          go_wp2_with fail
          go_ret
          rw [Hfin.out]
          exact ⟨rfl, rfl⟩
    · have hlt' : ¬ (k : Int) < (l.length : Int) := by omega
      have Hn : Hid (R = k) := hide (by rw [hinv, List.drop_of_length_le (by omega)]; rfl)
      clear Hinv hinv
      go_wp2_with fail
      go_ret
      rw [Hn.out]
      exact ⟨rfl, rfl⟩
end Go.Proofs.YtinbbcojilogeaaDoor.Tok
