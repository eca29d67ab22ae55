/- Cut, CutPrefix and number, as Parse takes them. -/
import Derived.Test.YthpkmbgollollabDoorHb
import Derived.Test.YthpkmbgollollabDoorDSh2
import Derived.Deep.DeepBigQuietO
import Derived.Lib.IndexBytes
namespace Go.Proofs.YthpkmbgollollabDoor.Dy
open Go.RowKit Go.Lib Go.Shelf Go.Proofs.YthpkmbgollollabDoor.Sca

theorem index_cases (c : UInt8) : ∀ l : List UInt8, Lib.indexByte l c = -1 ∨ ∃ n : Nat, n < l.length ∧ Lib.indexByte l c = (n : Int)
  | [] => .inl rfl
  | b :: l => by
    unfold Lib.indexByte
    split
    · exact .inr ⟨0, by simp, rfl⟩
    · rcases index_cases c l with h | ⟨n, hn, h⟩
      · rw [h]; exact .inl rfl
      · right
        refine ⟨n + 1, by simp; omega, ?_⟩
        rw [h]
        have : ((n : Int) == -1) = false := by rw [beq_eq_false_iff_ne]; omega
        rw [this]
        simp
/-- What stands ahead of the first i, and behind it. -/
def cutA (l : List UInt8) : List UInt8 := if Lib.indexByte l 105 = -1 then l else l.take (Lib.indexByte l 105).toNat
def cutB (l : List UInt8) : List UInt8 := if Lib.indexByte l 105 = -1 then [] else l.drop ((Lib.indexByte l 105).toNat + 1)
theorem cutA_len (l : List UInt8) : (cutA l).length ≤ l.length := by
  unfold cutA
  split
  · exact Nat.le_refl _
  · rw [List.length_take]; omega
theorem cutB_len (l : List UInt8) : (cutB l).length ≤ l.length := by
  unfold cutB
  split
  · exact Nat.zero_le _
  · rw [List.length_drop]; omega
theorem ext_list (l : List UInt8) (a b : Nat) : (⟨l.toArray⟩ : ByteArray).extract a b = ⟨((l.take b).drop a).toArray⟩ := by
  apply ByteArray.ext
  simp [ByteArray.data_extract, List.drop_take]
set_option maxRecDepth 100000 in
theorem iCut (l : List UInt8) (hl : l.length ≤ 140737488351300) (w : World) :
    Calls Tryd.prog 46 #[.string ⟨l.toArray⟩, .string ⟨#[105]⟩] w fun e w' => (∃ x, e = .returned (.tuple #[.string ⟨(cutA l).toArray⟩, .string ⟨(cutB l).toArray⟩, .bool x])) ∧ ∃ q, w' = w.drewN q := by
  have mixed := mixed_ok
  have cI := fun w => Any.stringslite_Index_one Tryd.laysIndex ⟨l.toArray⟩ 105 w
  rw [show (ByteArray.mk l.toArray).data.toList = l from rfl] at cI
  have hsz : (⟨l.toArray⟩ : ByteArray).size = l.length := by show l.toArray.size = _; simp
  unfold cutA cutB
  rcases index_cases 105 l with h | ⟨n, hn, h⟩
  · rw [h] at cI
    rw [if_pos h, if_pos h]
    clear h
    generalize (⟨l.toArray⟩ : ByteArray) = s at *
    go_enter Tryd.func46, Tryd.ntmps46
    go_wp2_with fail
    refine (cI _).mono ?_
    rintro e w' ⟨rfl, rfl⟩
    go_wp2
    go_ret3
    exact ⟨⟨_, rfl⟩, 0, rfl⟩
  · rw [h] at cI
    rw [if_neg (by omega), if_neg (by omega), h, Int.toNat_natCast]
    have e1 := ext_list l 0 n
    have e2 := ext_list l (n + 1) l.length
    rw [List.drop_zero] at e1
    rw [List.take_length] at e2
    clear h
    generalize (⟨(l.take n).toArray⟩ : ByteArray) = s1 at *
    generalize (⟨(l.drop (n + 1)).toArray⟩ : ByteArray) = s2 at *
    generalize (⟨l.toArray⟩ : ByteArray) = s at *
    have hn1 : (n : Int) + 1 ≤ (l.length : Int) := by omega
    have hn2 : n ≤ s.size := by omega
    have hn3 : n + 1 ≤ s.size := by omega
    go_enter Tryd.func46, Tryd.ntmps46
    go_wp2_with fail
    refine (cI _).mono ?_
    rintro e w' ⟨rfl, rfl⟩
    go_wp2
    go_big_quiet_o (fail)
    go_wp2
    go_ret3
    exact ⟨⟨_, rfl⟩, _, rfl⟩
theorem sCut (l : List UInt8) (hl : l.length ≤ 140737488351300) (w : World) :
    Calls Tryd.prog 36 #[.string ⟨l.toArray⟩, .string ⟨#[105]⟩] w fun e w' => (∃ x, e = .returned (.tuple #[.string ⟨(cutA l).toArray⟩, .string ⟨(cutB l).toArray⟩, .bool x])) ∧ ∃ q, w' = w.drewN q := by
  have cC := iCut l hl w
  generalize (⟨(cutA l).toArray⟩ : ByteArray) = s1 at *
  generalize (⟨(cutB l).toArray⟩ : ByteArray) = s2 at *
  generalize (⟨l.toArray⟩ : ByteArray) = s at *
  go_enter Tryd.func36, Tryd.ntmps36
  go_wp2_with fail
  refine cC.mono ?_
  rintro e w' ⟨⟨x, rfl⟩, q, rfl⟩
  go_wp2
  go_ret3
  exact ⟨⟨_, rfl⟩, q, rfl⟩
theorem sCutPrefix (l p : List UInt8) (w : World) :
    Calls Tryd.prog 39 #[.string ⟨l.toArray⟩, .string ⟨p.toArray⟩] w fun e w' => e = .returned (.tuple #[.string ⟨(Lib.trimPrefix l p).toArray⟩, .bool (Lib.hasPrefix l p)]) ∧ w' = w :=
  Any.strings_CutPrefix Tryd.laysCutPrefix ⟨l.toArray⟩ ⟨p.toArray⟩ w
/-- The two errors lie there. -/
structure Te (w : World) : Prop where
  syn : ∃ ev, w.cell? ⟨4, 0, none⟩ = some ev ∧ (ev = .nilIface ∨ ∃ te pe, ev = .iface te pe)
  rng : ∃ ev, w.cell? ⟨5, 0, none⟩ = some ev ∧ (ev = .nilIface ∨ ∃ te pe, ev = .iface te pe)
theorem Te.below {w w' : World} (h : Te w) (hb : Below w.heap.size w w') : Te w' := by
  obtain ⟨⟨a, h1, h2⟩, ⟨b, h3, h4⟩⟩ := h
  exact ⟨⟨a, cell_below h1 hb, h2⟩, ⟨b, cell_below h3 hb, h4⟩⟩
/-- The number that a text is; 0 of what is none. -/
def numP (l : List UInt8) : Int := match Lib.parseIntB 64 l with | .ok v => v | _ => 0
theorem numP_i64 (l : List UInt8) : i64 (numP l) := by
  unfold numP
  split
  · rename_i v h
    unfold Lib.parseIntB at h
    split at h
    · cases h
    · dsimp only at h
      split at h
      · cases h
      · cases h
      · split at h
        · cases h
        · split at h
          · cases h
          · rename_i u _ h1 h2
            cases h
            have e : (2 : Nat) ^ (64 - 1) = 9223372036854775808 := rfl
            rw [e] at h1 h2
            split <;> constructor <;> omega
  · constructor <;> omega
set_option maxRecDepth 100000 in
theorem yNumber (l : List UInt8) (hl : l.length ≤ 140737488351300) (w : World) (hT : Te w) : Calls Tryd.prog 38 #[.string ⟨l.toArray⟩] w fun e w' => e = .returned (.int .i64 (numP l)) ∧ Below w.heap.size w w' := by
  have hsz : (⟨l.toArray⟩ : ByteArray).size = l.length := by show l.toArray.size = _; simp
  unfold numP
  cases h : Lib.parseIntB 64 l with
  | ok v =>
    have c := (Any.strconv_ParseInt_10_at64_ok Tryd.laysParseInt ⟨l.toArray⟩ (by omega) v h w).mono (R' := fun e w' => e = .returned (.tuple #[.int .i64 v, .nilIface]) ∧ Below w.heap.size w w') (by
      rintro e w' ⟨rfl, h | ⟨t, h⟩⟩
      · exact ⟨rfl, h ▸ Below.refl _ _⟩
      · exact ⟨rfl, h ▸ Lib.bytesWorld_below w _ t⟩)
    dsimp only
    go_enter Tryd.func38, Tryd.ntmps38
    go_wp2_with fail
    refine c.mono ?_
    rintro e w1 ⟨rfl, hb⟩
    go_wp2_with fail
    go_ret
    exact ⟨rfl, hb⟩
  | «syntax» =>
    obtain ⟨ev, h1, h2⟩ := hT.syn
    have c := Any.strconv_ParseInt_10_at64_syntax Tryd.laysParseInt ⟨l.toArray⟩ (by omega) h ev w h1 h2
    dsimp only
    go_enter Tryd.func38, Tryd.ntmps38
    go_wp2_with fail
    refine c.mono ?_
    rintro e w1 ⟨N, rfl, _, _, hb⟩
    go_wp2_with fail
    go_ret
    exact ⟨rfl, hb⟩
  | range =>
    obtain ⟨ev, h1, h2⟩ := hT.rng
    have c := Any.strconv_ParseInt_10_at64_range Tryd.laysParseInt ⟨l.toArray⟩ (by omega) h ev w h1 h2
    dsimp only
    go_enter Tryd.func38, Tryd.ntmps38
    go_wp2_with fail
    refine c.mono ?_
    rintro e w1 ⟨N, rfl, _, _, hb⟩
    go_wp2_with fail
    go_ret
    exact ⟨rfl, hb⟩
end Go.Proofs.YthpkmbgollollabDoor.Dy
