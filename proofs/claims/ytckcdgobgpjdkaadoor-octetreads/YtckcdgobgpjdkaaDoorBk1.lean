/- A piece that was written is read again: back, as it is walked. -/
import Derived.Test.YtckcdgobgpjdkaaDoorWl
import Derived.Test.YtckcdgobgpjdkaaDoorRd3
import Derived.Test.YtckcdgobgpjdkaaDoorNb
namespace Go.Proofs.YtckcdgobgpjdkaaDoor.Oct
open Go.RowKit
open Go.Lib (validD)

/-- utf8.Valid at every slice of bytes. -/
def VAll : Prop := ∀ (g off c : Nat) (l : List UInt8) (w : World), Tabs w → Bs w (some ⟨g, off, none⟩) l → l.length ≤ c → l.length ≤ 9223372036854775800 →
  Calls Tryd.prog 68 #[.slice (some ⟨g, off, none⟩) l.length c] w fun e w' => e = .returned (.bool (validD l)) ∧ Below w.heap.size w w'
theorem Rd.below {w w' : World} {pb po g off c : Nat} {l : List UInt8} (h : Rd w pb po g off c l) (hb : Below w.heap.size w w') : Rd w' pb po g off c l := by
  have hpb : pb < w.heap.size := World.block_lt_of_cell? w ⟨pb, po, none⟩ h.rest
  exact ⟨(hb.cell (p := ⟨pb, po, none⟩) hpb).trans h.rest, (hb.cell (p := ⟨pb, po + 1, none⟩) hpb).trans h.made, (hb.frozen (p := ⟨pb, po, none⟩) hpb).trans h.fr0, (hb.frozen (p := ⟨pb, po + 1, none⟩) hpb).trans h.fr1, h.le,
    fun j b hj => (hb.cell (p := ⟨g, off + j, none⟩) (World.block_lt_of_cell? w ⟨g, off + j, none⟩ (h.data j b hj))).trans (h.data j b hj), h.apart⟩
theorem can64_can (x : Nat) : can64 (can64 x) = can64 x := by
  by_cases h : nan .f64 x
  · have e : can64 x = 9221120237041090561 := by simp [can64, h]
    rw [e]; decide +kernel
  · have e : can64 x = x := by simp [can64, h]
    rw [e, e]
theorem can32_can (x : Nat) : can32 (can32 x) = can32 x := by
  by_cases h : nan .f32 x
  · have e : can32 x = 2143289344 := by simp [can32, h]
    rw [e]; decide +kernel
  · have e : can32 x = x := by simp [can32, h]
    rw [e, e]
/-- What a reading leaves: the Reader stands at r; nothing else below B has turned. -/
def Left (B : Nat) (w w' : World) (pb po g c : Nat) (r : List UInt8) : Prop := (∃ off' c', Rd w' pb po g off' c' r ∧ c' ≤ c) ∧ Below B w w'
set_option maxHeartbeats 1000000 in
theorem back_1 (pb po g off c B n f gg : Nat) (s : ByteArray) (r : List UInt8) (w : World) (h : Rd w pb po g off c (le 1 n ++ r)) (hc : c ≤ 9223372036854775807) (_hn : n < 18446744073709551616) (_hf : f < 18446744073709551616) (_hg : gg < 4294967296) (hB : B ≤ pb) (hBs : B ≤ w.heap.size) :
    Calls Tryd.prog 29 #[.pointer (some ⟨pb, po, none⟩), .agg #[.int .i64 1, .int .u64 (n : Int), .float .f64 f, .float .f32 gg, .string s]] w fun e w' => e = .returned (.bool true) ∧ Left B w w' pb po g c r := by
  have hb1 : Below w.heap.size w (w.alloc (.cells #[.int .i64 1, .int .u64 (n : Int), .float .f64 f, .float .f32 gg, .string s] 32)) := (Below.refl _ _).alloc (Nat.le_refl _) _
  have h1 := h.below hb1
  have hpb : pb < w.heap.size := World.block_lt_of_cell? w ⟨pb, po, none⟩ h.rest
  have hnum := number_grown pb po g off c 1 (le 1 n ++ r) _ h1 (by rw [List.length_append, le_length]; omega) (by decide) hc
  rw [List.take_left' (le_length _ _), List.drop_left' (le_length _ _), ← le_mod 1 n, num_le 1 _ (Nat.mod_lt _ (by decide))] at hnum
  obtain ⟨m, hm, hml⟩ : ∃ m, n % 256 ^ 1 = m ∧ m < 256 := ⟨_, rfl, Nat.mod_lt _ (by decide)⟩
  rw [hm] at hnum
  have cU := U8_of (.pointer (some ⟨pb, po, none⟩)) _ m 0 hml _ hnum
  have hwr : (n : Int) % 256 = (m : Int) := by rw [← hm]; omega
  clear hnum h h1
  go_enter Tryd.func29, Tryd.ntmps29
  go_wp2_with fail
  refine cU.mono ?_
  rintro e w2 ⟨rfl, ⟨off', hr⟩, hgr, hsz⟩
  have x1 := hgr.cell (a := ⟨w.heap.size, 1, none⟩) (v := .int .u64 (n : Int)) (by simp) (by simp; omega)
  go_wp2_with fail
  go_ret
  refine ⟨rfl, ⟨off', _, hr, by omega⟩, ?_⟩
  exact (hb1.mono hBs).grown hgr (by simp; omega) (fun k hk => by cases hk; exact hB)
set_option maxHeartbeats 1000000 in
theorem back_2 (pb po g off c B n f gg : Nat) (s : ByteArray) (r : List UInt8) (w : World) (h : Rd w pb po g off c (le 2 n ++ r)) (hc : c ≤ 9223372036854775807) (_hn : n < 18446744073709551616) (_hf : f < 18446744073709551616) (_hg : gg < 4294967296) (hB : B ≤ pb) (hBs : B ≤ w.heap.size) :
    Calls Tryd.prog 29 #[.pointer (some ⟨pb, po, none⟩), .agg #[.int .i64 2, .int .u64 (n : Int), .float .f64 f, .float .f32 gg, .string s]] w fun e w' => e = .returned (.bool true) ∧ Left B w w' pb po g c r := by
  have hb1 : Below w.heap.size w (w.alloc (.cells #[.int .i64 2, .int .u64 (n : Int), .float .f64 f, .float .f32 gg, .string s] 32)) := (Below.refl _ _).alloc (Nat.le_refl _) _
  have h1 := h.below hb1
  have hpb : pb < w.heap.size := World.block_lt_of_cell? w ⟨pb, po, none⟩ h.rest
  have hnum := number_grown pb po g off c 2 (le 2 n ++ r) _ h1 (by rw [List.length_append, le_length]; omega) (by decide) hc
  rw [List.take_left' (le_length _ _), List.drop_left' (le_length _ _), ← le_mod 2 n, num_le 2 _ (Nat.mod_lt _ (by decide))] at hnum
  obtain ⟨m, hm, hml⟩ : ∃ m, n % 256 ^ 2 = m ∧ m < 65536 := ⟨_, rfl, Nat.mod_lt _ (by decide)⟩
  rw [hm] at hnum
  have cU := U16_of (.pointer (some ⟨pb, po, none⟩)) _ m 0 hml _ hnum
  have hwr : IntKind.u16.wrap (n : Int) = (m : Int) := by rw [u16_wrap, ← hm]
  clear hnum h h1
  go_enter Tryd.func29, Tryd.ntmps29
  go_wp2_with fail
  refine cU.mono ?_
  rintro e w2 ⟨rfl, ⟨off', hr⟩, hgr, hsz⟩
  have x1 := hgr.cell (a := ⟨w.heap.size, 1, none⟩) (v := .int .u64 (n : Int)) (by simp) (by simp; omega)
  go_wp2_with fail
  go_ret
  refine ⟨rfl, ⟨off', _, hr, by omega⟩, ?_⟩
  exact (hb1.mono hBs).grown hgr (by simp; omega) (fun k hk => by cases hk; exact hB)
set_option maxHeartbeats 1000000 in
theorem back_3 (pb po g off c B n f gg : Nat) (s : ByteArray) (r : List UInt8) (w : World) (h : Rd w pb po g off c (le 4 n ++ r)) (hc : c ≤ 9223372036854775807) (_hn : n < 18446744073709551616) (_hf : f < 18446744073709551616) (_hg : gg < 4294967296) (hB : B ≤ pb) (hBs : B ≤ w.heap.size) :
    Calls Tryd.prog 29 #[.pointer (some ⟨pb, po, none⟩), .agg #[.int .i64 3, .int .u64 (n : Int), .float .f64 f, .float .f32 gg, .string s]] w fun e w' => e = .returned (.bool true) ∧ Left B w w' pb po g c r := by
  have hb1 : Below w.heap.size w (w.alloc (.cells #[.int .i64 3, .int .u64 (n : Int), .float .f64 f, .float .f32 gg, .string s] 32)) := (Below.refl _ _).alloc (Nat.le_refl _) _
  have h1 := h.below hb1
  have hpb : pb < w.heap.size := World.block_lt_of_cell? w ⟨pb, po, none⟩ h.rest
  have hnum := number_grown pb po g off c 4 (le 4 n ++ r) _ h1 (by rw [List.length_append, le_length]; omega) (by decide) hc
  rw [List.take_left' (le_length _ _), List.drop_left' (le_length _ _), ← le_mod 4 n, num_le 4 _ (Nat.mod_lt _ (by decide))] at hnum
  obtain ⟨m, hm, hml⟩ : ∃ m, n % 256 ^ 4 = m ∧ m < 4294967296 := ⟨_, rfl, Nat.mod_lt _ (by decide)⟩
  rw [hm] at hnum
  have cU := U32_of (.pointer (some ⟨pb, po, none⟩)) _ m 0 hml _ hnum
  have hwr : (n : Int) % 4294967296 = (m : Int) := by rw [← hm]; omega
  clear hnum h h1
  go_enter Tryd.func29, Tryd.ntmps29
  go_wp2_with fail
  refine cU.mono ?_
  rintro e w2 ⟨rfl, ⟨off', hr⟩, hgr, hsz⟩
  have x1 := hgr.cell (a := ⟨w.heap.size, 1, none⟩) (v := .int .u64 (n : Int)) (by simp) (by simp; omega)
  go_wp2_with fail
  go_ret
  refine ⟨rfl, ⟨off', _, hr, by omega⟩, ?_⟩
  exact (hb1.mono hBs).grown hgr (by simp; omega) (fun k hk => by cases hk; exact hB)
set_option maxHeartbeats 1000000 in
theorem back_4 (pb po g off c B n f gg : Nat) (s : ByteArray) (r : List UInt8) (w : World) (h : Rd w pb po g off c (le 8 n ++ r)) (hc : c ≤ 9223372036854775807) (hn : n < 18446744073709551616) (_hf : f < 18446744073709551616) (_hg : gg < 4294967296) (hB : B ≤ pb) (hBs : B ≤ w.heap.size) :
    Calls Tryd.prog 29 #[.pointer (some ⟨pb, po, none⟩), .agg #[.int .i64 4, .int .u64 (n : Int), .float .f64 f, .float .f32 gg, .string s]] w fun e w' => e = .returned (.bool true) ∧ Left B w w' pb po g c r := by
  have hb1 : Below w.heap.size w (w.alloc (.cells #[.int .i64 4, .int .u64 (n : Int), .float .f64 f, .float .f32 gg, .string s] 32)) := (Below.refl _ _).alloc (Nat.le_refl _) _
  have h1 := h.below hb1
  have hpb : pb < w.heap.size := World.block_lt_of_cell? w ⟨pb, po, none⟩ h.rest
  have hnum := number_grown pb po g off c 8 (le 8 n ++ r) _ h1 (by rw [List.length_append, le_length]; omega) (by decide) hc
  rw [List.take_left' (le_length _ _), List.drop_left' (le_length _ _), ← le_mod 8 n, num_le 8 _ (Nat.mod_lt _ (by decide))] at hnum
  rw [show n % 256 ^ 8 = n by omega] at hnum
  have cU := U64_of (.pointer (some ⟨pb, po, none⟩)) _ n 0 _ hnum
  clear hnum h h1
  go_enter Tryd.func29, Tryd.ntmps29
  go_wp2_with fail
  refine cU.mono ?_
  rintro e w2 ⟨rfl, ⟨off', hr⟩, hgr, hsz⟩
  have x1 := hgr.cell (a := ⟨w.heap.size, 1, none⟩) (v := .int .u64 (n : Int)) (by simp) (by simp; omega)
  go_wp2_with fail
  go_ret
  refine ⟨rfl, ⟨off', _, hr, by omega⟩, ?_⟩
  exact (hb1.mono hBs).grown hgr (by simp; omega) (fun k hk => by cases hk; exact hB)
set_option maxHeartbeats 1000000 in
theorem back_5 (pb po g off c B n f gg : Nat) (s : ByteArray) (r : List UInt8) (w : World) (h : Rd w pb po g off c (le 8 (can64 f) ++ r)) (hc : c ≤ 9223372036854775807) (_hn : n < 18446744073709551616) (hf : f < 18446744073709551616) (_hg : gg < 4294967296) (hB : B ≤ pb) (hBs : B ≤ w.heap.size) :
    Calls Tryd.prog 29 #[.pointer (some ⟨pb, po, none⟩), .agg #[.int .i64 5, .int .u64 (n : Int), .float .f64 f, .float .f32 gg, .string s]] w fun e w' => e = .returned (.bool true) ∧ Left B w w' pb po g c r := by
  have hb1 : Below w.heap.size w (w.alloc (.cells #[.int .i64 5, .int .u64 (n : Int), .float .f64 f, .float .f32 gg, .string s] 32)) := (Below.refl _ _).alloc (Nat.le_refl _) _
  have h1 := h.below hb1
  have hpb : pb < w.heap.size := World.block_lt_of_cell? w ⟨pb, po, none⟩ h.rest
  have hnum := number_grown pb po g off c 8 (le 8 (can64 f) ++ r) _ h1 (by rw [List.length_append, le_length]; omega) (by decide) hc
  rw [List.take_left' (le_length _ _), List.drop_left' (le_length _ _), num_le 8 _ (can64_lt hf)] at hnum
  have cU := F64_of (.pointer (some ⟨pb, po, none⟩)) _ (can64 f) 0 _ hnum
  have cS := fun w => Same_any (can64 f) f w
  rw [can64_can] at cS
  simp only [beq_self_eq_true] at cS
  clear hnum h h1
  generalize can64 f = y at *
  go_enter Tryd.func29, Tryd.ntmps29
  go_wp2_with fail
  refine cU.mono ?_
  rintro e w2 ⟨rfl, ⟨off', hr⟩, hgr, hsz⟩
  have x1 := hgr.cell (a := ⟨w.heap.size, 2, none⟩) (v := .float .f64 f) (by simp) (by simp; omega)
  go_wp2_with fail
  refine (cS w2).mono ?_
  rintro e w3 ⟨rfl, rfl⟩
  go_wp2_with fail
  go_ret
  refine ⟨rfl, ⟨off', _, hr, by omega⟩, ?_⟩
  exact (hb1.mono hBs).grown hgr (by simp; omega) (fun k hk => by cases hk; exact hB)
set_option maxHeartbeats 1000000 in
theorem back_6 (pb po g off c B n f gg : Nat) (s : ByteArray) (r : List UInt8) (w : World) (h : Rd w pb po g off c (le 4 (can32 gg) ++ r)) (hc : c ≤ 9223372036854775807) (_hn : n < 18446744073709551616) (_hf : f < 18446744073709551616) (hg : gg < 4294967296) (hB : B ≤ pb) (hBs : B ≤ w.heap.size) :
    Calls Tryd.prog 29 #[.pointer (some ⟨pb, po, none⟩), .agg #[.int .i64 6, .int .u64 (n : Int), .float .f64 f, .float .f32 gg, .string s]] w fun e w' => e = .returned (.bool true) ∧ Left B w w' pb po g c r := by
  have hb1 : Below w.heap.size w (w.alloc (.cells #[.int .i64 6, .int .u64 (n : Int), .float .f64 f, .float .f32 gg, .string s] 32)) := (Below.refl _ _).alloc (Nat.le_refl _) _
  have h1 := h.below hb1
  have hpb : pb < w.heap.size := World.block_lt_of_cell? w ⟨pb, po, none⟩ h.rest
  have hnum := number_grown pb po g off c 4 (le 4 (can32 gg) ++ r) _ h1 (by rw [List.length_append, le_length]; omega) (by decide) hc
  rw [List.take_left' (le_length _ _), List.drop_left' (le_length _ _), num_le 4 _ (can32_lt hg)] at hnum
  have cU := F32_of (.pointer (some ⟨pb, po, none⟩)) _ (can32 gg) 0 (can32_lt hg) _ hnum
  have cS := fun w => Same32_any (can32 gg) gg w (can32_lt hg) hg
  rw [can32_can] at cS
  simp only [beq_self_eq_true] at cS
  clear hnum h h1
  generalize can32 gg = y at *
  go_enter Tryd.func29, Tryd.ntmps29
  go_wp2_with fail
  refine cU.mono ?_
  rintro e w2 ⟨rfl, ⟨off', hr⟩, hgr, hsz⟩
  have x1 := hgr.cell (a := ⟨w.heap.size, 3, none⟩) (v := .float .f32 gg) (by simp) (by simp; omega)
  go_wp2_with fail
  refine (cS w2).mono ?_
  rintro e w3 ⟨rfl, rfl⟩
  go_wp2_with fail
  go_ret
  refine ⟨rfl, ⟨off', _, hr, by omega⟩, ?_⟩
  exact (hb1.mono hBs).grown hgr (by simp; omega) (fun k hk => by cases hk; exact hB)
set_option maxHeartbeats 1000000 in
theorem back_7 (pb po g off c B n f gg : Nat) (s : ByteArray) (r : List UInt8) (w : World) (h : Rd w pb po g off c (textBytes s.data.toList ++ r)) (hc : c ≤ 9223372036854775807) (_hn : n < 18446744073709551616) (_hf : f < 18446744073709551616) (_hg : gg < 4294967296) (hB : B ≤ pb) (hBs : B ≤ w.heap.size) (hT : Tabs w) (hV : VAll) (hok : textErr s.data.toList = 0) :
    Calls Tryd.prog 29 #[.pointer (some ⟨pb, po, none⟩), .agg #[.int .i64 7, .int .u64 (n : Int), .float .f64 f, .float .f32 gg, .string s]] w fun e w' => e = .returned (.bool true) ∧ Left B w w' pb po g c r := by
  have hb1 : Below w.heap.size w (w.alloc (.cells #[.int .i64 7, .int .u64 (n : Int), .float .f64 f, .float .f32 gg, .string s] 32)) := (Below.refl _ _).alloc (Nat.le_refl _) _
  have h1 := h.below hb1
  have hpb : pb < w.heap.size := World.block_lt_of_cell? w ⟨pb, po, none⟩ h.rest
  have hok2 := hok
  unfold textErr at hok2
  have hs4 : s.data.toList.length ≤ 4096 := by
    rcases Nat.lt_or_ge 4096 s.data.toList.length with h4 | h4
    · rw [if_pos h4] at hok2; cases hok2
    · exact h4
  rw [if_neg (by omega)] at hok2
  have hval : validD s.data.toList = true := by
    cases hv : validD s.data.toList with
    | true => rfl
    | false => rw [hv] at hok2; simp at hok2
  have htb : textBytes s.data.toList = le 2 s.data.toList.length ++ s.data.toList := by unfold textBytes; rw [if_pos hok]
  rw [htb, List.append_assoc] at h1
  obtain ⟨tl, htl⟩ : ∃ tl, s.data.toList = tl := ⟨_, rfl⟩
  have hsb : s = ⟨tl.toArray⟩ := by rw [← htl]
  rw [htl] at h1 hs4 hval
  have cT := RText_ok pb po g off c tl.length (le 2 tl.length ++ (tl ++ r)) tl _ h1 (by rw [List.length_append, le_length]; omega) (by rw [List.take_left' (le_length _ _), num_le 2 _ (by omega)]) hs4 (by rw [List.length_append, List.length_append, le_length]; omega) hc
    (by rw [List.drop_left' (le_length _ _), List.take_left]) (hT.below hb1) (fun off1 c1 w1 hT1 hb1 hc1 => by rw [← hval]; exact hV g off1 c1 tl w1 hT1 hb1 hc1 (by omega))
  rw [← List.drop_drop, List.drop_left' (le_length _ _), List.drop_left] at cT
  rw [← hsb] at cT
  clear h h1 hval hok hok2 htb hsb htl hV
  go_enter Tryd.func29, Tryd.ntmps29
  go_wp2_with fail
  refine cT.mono ?_
  rintro e w2 ⟨rfl, ⟨off', c', hr, hcc⟩, hgr⟩
  have x1 := hgr.cell (a := ⟨w.heap.size, 4, none⟩) (v := .string s) (by simp) (by simp; omega)
  go_wp2_with fail
  go_ret
  refine ⟨rfl, ⟨off', c', hr, hcc⟩, ?_⟩
  exact (hb1.mono hBs).grown hgr (by simp; omega) (fun k hk => by cases hk; exact hB)
set_option maxHeartbeats 1000000 in
theorem back_0 (a : Value) (k n : Int) (f gg : Nat) (s : ByteArray) (w : World) (e1 : k ≠ 1) (e2 : k ≠ 2) (e3 : k ≠ 3) (e4 : k ≠ 4) (e5 : k ≠ 5) (e6 : k ≠ 6) (e7 : k ≠ 7) :
    Calls Tryd.prog 29 #[a, .agg #[.int .i64 k, .int .u64 n, .float .f64 f, .float .f32 gg, .string s]] w fun e w' => e = .returned (.bool true) ∧ Below w.heap.size w w' := by
  have z1 : (k == 1) = false := by rw [beq_eq_false_iff_ne]; exact e1
  have z2 : (k == 2) = false := by rw [beq_eq_false_iff_ne]; exact e2
  have z3 : (k == 3) = false := by rw [beq_eq_false_iff_ne]; exact e3
  have z4 : (k == 4) = false := by rw [beq_eq_false_iff_ne]; exact e4
  have z5 : (k == 5) = false := by rw [beq_eq_false_iff_ne]; exact e5
  have z6 : (k == 6) = false := by rw [beq_eq_false_iff_ne]; exact e6
  have z7 : (k == 7) = false := by rw [beq_eq_false_iff_ne]; exact e7
  clear e1 e2 e3 e4 e5 e6 e7
  go_enter Tryd.func29, Tryd.ntmps29
  go_wp2_with fail
  go_ret
  exact ⟨rfl, (Below.refl _ _).alloc (Nat.le_refl _) _⟩
end Go.Proofs.YtckcdgobgpjdkaaDoor.Oct
