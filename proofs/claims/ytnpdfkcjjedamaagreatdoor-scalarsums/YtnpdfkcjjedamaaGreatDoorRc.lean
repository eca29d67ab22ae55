/- Cut and Atoi, as read takes them. -/
import Derived.Test.YtnpdfkcjjedamaaGreatDoorRb
import Derived.Lib.IndexBytes
namespace Go.Proofs.YtnpdfkcjjedamaaGreatDoor.Sca
open Go.RowKit Go.Lib Go.Shelf Go.Proofs.YtnpdfkcjjedamaaGreatDoor.Oct

theorem index_cases (c : UInt8) : ∀ l : List UInt8, Lib.indexByte l c = -1 ∨ ∃ n : Nat, n < l.length ∧ Lib.indexByte l c = (n : Int)
  | [] => .inl rfl
  | b :: l => by
    unfold Lib.indexByte
    split
    · exact .inr ⟨0, by simp, rfl⟩
    · rcases index_cases c l with h | ⟨n, hn, h⟩
      · rw [h]; exact .inl rfl
      · right
        refine ⟨n + 1, by simp; omega, ?_⟩
        rw [h]
        have : ((n : Int) == -1) = false := by rw [beq_eq_false_iff_ne]; omega
        rw [this]
        simp
/-- What stands ahead of the first p, and behind it. -/
def cutA (l : List UInt8) : List UInt8 := if Lib.indexByte l 112 = -1 then l else l.take (Lib.indexByte l 112).toNat
def cutB (l : List UInt8) : List UInt8 := if Lib.indexByte l 112 = -1 then [] else l.drop ((Lib.indexByte l 112).toNat + 1)
theorem ext_list (l : List UInt8) (a b : Nat) : (⟨l.toArray⟩ : ByteArray).extract a b = ⟨((l.take b).drop a).toArray⟩ := by
  apply ByteArray.ext
  simp [ByteArray.data_extract, List.drop_take]
theorem iCut (l : List UInt8) (hl : l.length ≤ 140737488351300) (w : World) :
    Calls Tryz.prog 80 #[.string ⟨l.toArray⟩, .string ⟨#[112]⟩] w fun e w' => (∃ x, e = .returned (.tuple #[.string ⟨(cutA l).toArray⟩, .string ⟨(cutB l).toArray⟩, .bool x])) ∧ ∃ q, w' = w.drewN q := by
  have mixed := mixed_ok
  have cI := fun w => Any.stringslite_Index_one Tryz.laysIndex ⟨l.toArray⟩ 112 w
  rw [show (ByteArray.mk l.toArray).data.toList = l from rfl] at cI
  have hsz : (⟨l.toArray⟩ : ByteArray).size = l.length := by show l.toArray.size = _; simp
  unfold cutA cutB
  rcases index_cases 112 l with h | ⟨n, hn, h⟩
  · rw [h] at cI
    rw [if_pos h, if_pos h]
    clear h
    generalize (⟨l.toArray⟩ : ByteArray) = s at *
    go_enter Tryz.func80, Tryz.ntmps80
    go_wp2_with fail
    refine (cI _).mono ?_
    rintro e w' ⟨rfl, rfl⟩
    go_wp2
    go_ret3
    exact ⟨⟨_, rfl⟩, 0, rfl⟩
  · rw [h] at cI
    rw [if_neg (by omega), if_neg (by omega), h, Int.toNat_natCast]
    have e1 := ext_list l 0 n
    have e2 := ext_list l (n + 1) l.length
    rw [List.drop_zero] at e1
    rw [List.take_length] at e2
    clear h
    generalize (⟨(l.take n).toArray⟩ : ByteArray) = s1 at *
    generalize (⟨(l.drop (n + 1)).toArray⟩ : ByteArray) = s2 at *
    generalize (⟨l.toArray⟩ : ByteArray) = s at *
    have hn1 : (n : Int) + 1 ≤ (l.length : Int) := by omega
    have hn2 : n ≤ s.size := by omega
    have hn3 : n + 1 ≤ s.size := by omega
    go_enter Tryz.func80, Tryz.ntmps80
    go_wp2_with fail
    refine (cI _).mono ?_
    rintro e w' ⟨rfl, rfl⟩
    go_wp2
    go_big_quiet_o (fail)
    go_wp2
    go_ret3
    exact ⟨⟨_, rfl⟩, _, rfl⟩
theorem sCut (l : List UInt8) (hl : l.length ≤ 140737488351300) (w : World) :
    Calls Tryz.prog 65 #[.string ⟨l.toArray⟩, .string ⟨#[112]⟩] w fun e w' => (∃ x, e = .returned (.tuple #[.string ⟨(cutA l).toArray⟩, .string ⟨(cutB l).toArray⟩, .bool x])) ∧ ∃ q, w' = w.drewN q := by
  have cC := iCut l hl w
  generalize (⟨(cutA l).toArray⟩ : ByteArray) = s1 at *
  generalize (⟨(cutB l).toArray⟩ : ByteArray) = s2 at *
  generalize (⟨l.toArray⟩ : ByteArray) = s at *
  go_enter Tryz.func65, Tryz.ntmps65
  go_wp2_with fail
  refine cC.mono ?_
  rintro e w' ⟨⟨x, rfl⟩, q, rfl⟩
  go_wp2
  go_ret3
  exact ⟨⟨_, rfl⟩, q, rfl⟩
/-- Atoi: the number, or an error. -/
def atoiOk (l : List UInt8) : Option Int := match Lib.atoiAll l with | .ok v => some v | _ => none
theorem Atoi_ok (l : List UInt8) (hl : l.length ≤ 140737488351300) (v : Int) (h : atoiOk l = some v) (w : World) :
    Calls Tryz.prog 68 #[.string ⟨l.toArray⟩] w fun e w' => e = .returned (.tuple #[.int .i64 v, .nilIface]) ∧ Below w.heap.size w w' := by
  unfold atoiOk at h
  have h' : Lib.atoiAll l = .ok v := by
    split at h
    · rename_i u e; cases h; exact e
    · cases h
  refine (Any.strconv_Atoi_ok Tryz.laysAtoi ⟨l.toArray⟩ (by show l.toArray.size ≤ _; simp; omega) v h' w).mono ?_
  rintro e w' ⟨rfl, h | ⟨t, h⟩⟩
  · exact ⟨rfl, h ▸ Below.refl _ _⟩
  · exact ⟨rfl, h ▸ Lib.bytesWorld_below w _ t⟩
theorem Atoi_err (l : List UInt8) (hl : l.length ≤ 140737488351300) (h : atoiOk l = none) (w : World) (hT : Te w) :
    Calls Tryz.prog 68 #[.string ⟨l.toArray⟩] w fun e w' => (∃ v N, e = .returned (.tuple #[.int .i64 v, .iface 107 (.pointer (some ⟨N, 0, none⟩))])) ∧ Below w.heap.size w w' := by
  have hsz : (⟨l.toArray⟩ : ByteArray).size ≤ 281474976710656 := by show l.toArray.size ≤ _; simp; omega
  unfold atoiOk at h
  cases he : Lib.atoiAll l with
  | ok v => rw [he] at h; cases h
  | «syntax» =>
    obtain ⟨ev, h1, h2⟩ := hT.syn
    exact (Any.strconv_Atoi_syntax Tryz.laysAtoi ⟨l.toArray⟩ hsz he ev w h1 h2).mono fun _ _ ⟨N, he, _, _, hb⟩ => ⟨⟨_, N, he⟩, hb⟩
  | range =>
    obtain ⟨ev, h1, h2⟩ := hT.rng
    exact (Any.strconv_Atoi_range Tryz.laysAtoi ⟨l.toArray⟩ hsz he ev w h1 h2).mono fun _ _ ⟨N, he, _, _, hb⟩ => ⟨⟨_, N, he⟩, hb⟩
theorem sCutPrefix (l p : List UInt8) (w : World) :
    Calls Tryz.prog 64 #[.string ⟨l.toArray⟩, .string ⟨p.toArray⟩] w fun e w' => e = .returned (.tuple #[.string ⟨(Lib.trimPrefix l p).toArray⟩, .bool (Lib.hasPrefix l p)]) ∧ w' = w :=
  Any.strings_CutPrefix Tryz.laysCutPrefix ⟨l.toArray⟩ ⟨p.toArray⟩ w
theorem sTrimPrefix (l p : List UInt8) (w : World) :
    Calls Tryz.prog 66 #[.string ⟨l.toArray⟩, .string ⟨p.toArray⟩] w fun e w' => e = .returned (.string ⟨(Lib.trimPrefix l p).toArray⟩) ∧ w' = w :=
  Any.strings_TrimPrefix Tryz.laysTrimPrefix ⟨l.toArray⟩ ⟨p.toArray⟩ w
end Go.Proofs.YtnpdfkcjjedamaaGreatDoor.Sca
