/- The document's Unhex, as it is walked. -/
import Derived.Test.YtefbhhabeapaaaaDoorHx2
namespace Go.Proofs.YtefbhhabeapaaaaDoor.Oct
open Go.RowKit

/-- What digits stand for, two a byte; none where they are none. -/
def unh : List UInt8 → Option (List UInt8)
  | [] => some []
  | [_] => none
  | a :: b :: r => if dg a.toNat = 16 ∨ dg b.toNat = 16 then none else (unh r).map fun t => UInt8.ofNat (dg a.toNat * 16 + dg b.toNat) :: t
theorem dg_lt (c : Nat) : dg c ≤ 16 := by unfold dg; split; omega; split <;> omega
theorem unh_odd : ∀ l : List UInt8, l.length % 2 = 1 → unh l = none
  | [], h => by simp at h
  | [_], _ => rfl
  | a :: b :: r, h => by
    have := unh_odd r (by simp at h; omega)
    rw [unh, this]
    split <;> rfl
/-- What Unhex answers. -/
def unhE (l : List UInt8) : Int := if unh l = none then 2 else 0
def unhB (l : List UInt8) : List UInt8 := (unh l).getD []

set_option maxHeartbeats 1000000 in
theorem refUnhex_any (s : ByteArray) (w : World) (hs : s.size ≤ 140737488351232) :
    Calls Tryd.prog 6 #[.string s] w fun e w' => ∃ ao c, e = .returned (.tuple #[.slice ao (unhB s.data.toList).length c, .int .i64 (unhE s.data.toList)]) ∧ Fresh 5 w w' ao c (unhB s.data.toList) := by
  obtain ⟨l, hl⟩ : ∃ l, s.data.toList = l := ⟨_, rfl⟩
  have hsl : l.length = s.size := by rw [← hl, Array.length_toList]; rfl
  have hat : ∀ i (h : i < s.size), (s[i]'h) = l[i]'(by omega) := fun i h => by subst hl; rfl
  rw [hl]
  by_cases hodd : s.size % 2 = 1
  · have ho : ((s.size : Int) % 2 == 0) = false := by rw [beq_eq_false_iff_ne]; omega
    have hon : ((s.size : Int) % 2 != 0) = true := by rw [bne, ho]; rfl
    have hu := unh_odd l (by omega)
    rw [unhE, unhB, hu, if_pos rfl]
    clear hu hl hat
    go_enter Tryd.func6, Tryd.ntmps6
    go_wp2_with fail
    go_ret2
    exact ⟨none, 0, rfl, Below.refl _ _, World.ownsRow_nil _ _ _ _⟩
  · have ho : ((s.size : Int) % 2 == 0) = true := by rw [beq_iff_eq]; omega
    have hon : ((s.size : Int) % 2 != 0) = false := by rw [bne, ho]; rfl
    go_enter Tryd.func6, Tryd.ntmps6
    go_wp2_with fail
    go_loopw [4, 5] (fun v i wr => ∃ k : Nat, 2 * k ≤ s.size ∧ i = .int .i64 ((2 * k : Nat) : Int) ∧ ∃ ao c t, v = .slice ao k c ∧ List.length t = k ∧ Fresh 5 w wr ao c t ∧ unh l = (unh (l.drop (2 * k))).map (t ++ ·)) (fun _ i _ => s.size - (intOf i).toNat)
    case atStart => exact ⟨0, Nat.zero_le _, rfl, none, 0, [], rfl, rfl, ⟨Below.refl _ _, World.ownsRow_nil _ _ _ _⟩, by simp⟩
    case round =>
      obtain ⟨k, hk, rfl, ao, c, t, rfl, rfl, hf, hinv⟩ := hrel
      generalize hkk : 2 * t.length = j at *
      by_cases hlt : j < s.size
      · have hlt' : (j : Int) < (s.size : Int) := by omega
        have hlt1 : (j : Int) + 1 < (s.size : Int) := by omega
        obtain ⟨a, ha⟩ : ∃ a, l[j]? = some a := ⟨l[j], by simp⟩
        obtain ⟨b, hb⟩ : ∃ b, l[j + 1]? = some b := ⟨l[j + 1], by simp⟩
        have hdr : l.drop j = a :: b :: l.drop (j + 2) := by
          rw [List.drop_eq_getElem_cons (by omega), List.drop_eq_getElem_cons (by omega)]
          rw [List.getElem?_eq_getElem (by omega)] at ha hb
          cases ha; cases hb; rfl
        have hsa : s[j]'hlt = a := by rw [hat]; exact Option.some.inj ((List.getElem?_eq_getElem _).symm.trans ha)
        have hsb : s[j + 1]'(by omega) = b := by rw [hat]; exact Option.some.inj ((List.getElem?_eq_getElem _).symm.trans hb)
        have cA := fun W => digit_any a.toNat W a.toNat_lt
        have cB := fun W => digit_any b.toNat W b.toNat_lt
        have hA := dg_lt a.toNat
        have hB := dg_lt b.toNat
        have Hn : Hid (dg a.toNat = 16 ∨ dg b.toNat = 16 → unhB l = [] ∧ unhE l = 2) := hide (fun h => by
          have : unh l = none := by rw [hinv, hdr, unh, if_pos h]; rfl
          rw [unhB, unhE, this]; exact ⟨rfl, rfl⟩)
        have Hs : Hid (¬ (dg a.toNat = 16 ∨ dg b.toNat = 16) → unh l = (unh (l.drop (j + 2))).map ((t ++ [UInt8.ofNat (dg a.toNat * 16 + dg b.toNat)]) ++ ·)) := hide (fun h => by
          rw [hinv, hdr, unh, if_neg h, Option.map_map]
          congr 1
          funext r
          simp)
        clear hat ha hb hdr hinv
        go_wp2_with fail
        refine (cA _).mono ?_
        rintro e w1 ⟨rfl, rfl⟩
        go_wp2_with fail
        refine (cB _).mono ?_
        rintro e w1 ⟨rfl, rfl⟩
        clear cA cB
        generalize dg a.toNat = x at *
        generalize dg b.toNat = y at *
        by_cases hx : x = 16
        · subst hx
          go_wp2_with fail
          go_ret2
          rw [(Hn.out (by simp)).1, (Hn.out (by simp)).2]
          exact ⟨none, 0, rfl, hf.below, ownsRow_mono (World.ownsRow_nil _ _ _ _) (Nat.le_refl _)⟩
        · have hxb : ((x : Int) == 16) = false := by rw [beq_eq_false_iff_ne]; omega
          by_cases hy : y = 16
          · subst hy
            go_wp2_with fail
            go_ret2
            rw [(Hn.out (by simp)).1, (Hn.out (by simp)).2]
            exact ⟨none, 0, rfl, hf.below, ownsRow_mono (World.ownsRow_nil _ _ _ _) (Nat.le_refl _)⟩
          · have hyb : ((y : Int) == 16) = false := by rw [beq_eq_false_iff_ne]; omega
            have hx1 : x < 16 := by omega
            have hy1 : y < 16 := by omega
            have HZ : Hid ((x : Int) * 16 + (y : Int) = ((UInt8.ofNat (x * 16 + y)).toNat : Int)) := hide (by rw [UInt8.toNat_ofNat', Nat.mod_eq_of_lt (by omega)]; omega)
            have hs1 := Hs.out (by omega)
            have Hs1 := hide hs1
            have hown := hf.own
            have hbel := hf.below
            have hsz := hbel.size
            have Hl1 : Hid ((t ++ [UInt8.ofNat (x * 16 + y)]).length = t.length + 1) := hide (by simp)
            clear hs1 Hs Hn
            generalize UInt8.ofNat (x * 16 + y) = z at *
            go_wp2_with (at_builtin; refine wpList_push rfl _ _ 22 rfl 5 Tryd.underlying22 info5 w.heap.size ao t.length c t rfl hown _ _ HZ.out rfl (by omega) hsz ?_)
            intro g cap w1 hown1 hgrow hat
            have hb1 : Below w.heap.size w w1 := hbel.grown hgrow hsz (fun q hq => (hown.lt q (by rw [ob_eq]; exact hq)).1)
            clear hown hgrow hat
            go_wp2_with fail
            refine ⟨⟨t.length + 1, by omega, by rw [← hkk]; go_num, some ⟨g, 0, none⟩, cap, t ++ [z], rfl, Hl1.out, ⟨hb1, by rw [Hl1.out]; exact hown1⟩, ?_⟩, by simp [intOf]; omega⟩
            rw [show 2 * (t.length + 1) = j + 2 by omega]
            exact Hs1.out
      · have hlt' : ¬ (j : Int) < (s.size : Int) := by omega
        have hd : unh l = some t := by rw [hinv, List.drop_of_length_le (by omega)]; simp [unh]
        have h1 : Hid (unhB l = t) := hide (by rw [unhB, hd]; rfl)
        have h2 : Hid (unhE l = 0) := hide (by rw [unhE, hd]; rfl)
        clear hd hinv hat
        go_wp2_with fail
        go_ret2
        rw [h1.out, h2.out]
        exact ⟨ao, c, rfl, hf⟩
end Go.Proofs.YtefbhhabeapaaaaDoor.Oct
