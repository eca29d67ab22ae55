/- The Reader's take and number, as they are walked. -/
import Derived.Test.YtefbhhabeapaaaaDoorWr2
namespace Go.Proofs.YtefbhhabeapaaaaDoor.Oct
open Go.RowKit

/-- A Reader at (pb, po): its slice begins at (g, off), its bytes are l. -/
structure Rd (w : World) (pb po g off c : Nat) (l : List UInt8) : Prop where
  rest : w.cell? ⟨pb, po, none⟩ = some (.slice (some ⟨g, off, none⟩) l.length c)
  made : w.cell? ⟨pb, po + 1, none⟩ = some (.bool true)
  fr0 : w.frozen? ⟨pb, po, none⟩ = false
  fr1 : w.frozen? ⟨pb, po + 1, none⟩ = false
  le : l.length ≤ c
  data : ∀ j b, l[j]? = some b → w.cell? ⟨g, off + j, none⟩ = some (.int .u8 (b.toNat : Int))
  apart : g ≠ pb

theorem nobodys_made (pb po : Nat) (w : World) (h : w.cell? ⟨pb, po + 1, none⟩ = some (.bool true)) :
    Calls Tryd.prog 30 #[.pointer (some ⟨pb, po, none⟩)] w fun e w' => e = .returned (.bool false) ∧ w' = w := by
  go_enter Tryd.func30, Tryd.ntmps30
  go_wp2
  go_ret
  exact ⟨rfl, rfl⟩
theorem nobodys_unmade (pb po : Nat) (w : World) (h : w.cell? ⟨pb, po + 1, none⟩ = some (.bool false)) :
    Calls Tryd.prog 30 #[.pointer (some ⟨pb, po, none⟩)] w fun e w' => e = .returned (.bool true) ∧ w' = w := by
  go_enter Tryd.func30, Tryd.ntmps30
  go_wp2
  go_ret
  exact ⟨rfl, rfl⟩
theorem nobodys_nil (w : World) :
    Calls Tryd.prog 30 #[.pointer none] w fun e w' => e = .returned (.bool true) ∧ w' = w := by
  go_enter Tryd.func30, Tryd.ntmps30
  go_wp2
  go_ret
  exact ⟨rfl, rfl⟩

/-- What a take leaves. -/
theorem Rd.took {w : World} {pb po g off c : Nat} {l : List UInt8} (h : Rd w pb po g off c l) (n off' : Nat) (ho : off' = off + n ∨ n = l.length) :
    Rd (w.setCell ⟨pb, po, none⟩ (.slice (some ⟨g, off', none⟩) (l.length - n) (c - n))) pb po g off' (c - n) (l.drop n) := by
  refine ⟨?_, ?_, ?_, ?_, ?_, fun j b hj => ?_, h.apart⟩
  · rw [List.length_drop]; exact World.cell?_setCell_same _ _ _ h.rest
  · rw [World.cell?_setCell_other _ _ _ _ (by simp)]; exact h.made
  · rw [World.frozen?_setCell]; exact h.fr0
  · rw [World.frozen?_setCell]; exact h.fr1
  · have := h.le; simp; omega
  · rw [List.getElem?_drop] at hj
    have hlt : n + j < l.length := (List.getElem?_eq_some_iff.1 hj).1
    rcases ho with rfl | e
    · rw [cell_far _ _ _ _ h.apart, Nat.add_assoc]
      exact h.data _ _ hj
    · omega

set_option maxHeartbeats 400000 in
theorem take_ok (pb po g off c n : Nat) (l : List UInt8) (w : World) (h : Rd w pb po g off c l) (hn : n ≤ l.length) (hc : c ≤ 9223372036854775807) :
    Calls Tryd.prog 31 #[.pointer (some ⟨pb, po, none⟩), .int .i64 (n : Int)] w fun e w' => e = .returned (.tuple #[.slice (some ⟨g, off, none⟩) n c, .int .i64 0]) ∧
      ∃ off', w' = w.setCell ⟨pb, po, none⟩ (.slice (some ⟨g, off', none⟩) (l.length - n) (c - n)) ∧ Rd w' pb po g off' (c - n) (l.drop n) := by
  have h1 := h.rest
  have h2 := h.made
  have h3 := h.fr0
  have h4 := h.le
  have hn' : ¬ (l.length : Int) < n := by omega
  have key : ∀ off', (off' = off + n ∨ n = l.length) → Rd (w.setCell ⟨pb, po, none⟩ (.slice (some ⟨g, off', none⟩) (l.length - n) (c - n))) pb po g off' (c - n) (l.drop n) := fun off' ho => h.took n off' ho
  clear h
  generalize l.length = L at *
  by_cases hcn : c = n
  · have hL : L = n := by omega
    subst hcn
    subst hL
    have k1 := key off (.inr rfl)
    clear key
    simp only [Nat.sub_self] at k1 ⊢
    go_enter Tryd.func31, Tryd.ntmps31
    go_wp2_with (go_at_call 30; refine (nobodys_made pb po _ h2).mono ?_; rintro e w' ⟨rfl, rfl⟩)
    go_ret2
    exact ⟨rfl, off, rfl, k1⟩
  · have k1 := key (off + n) (.inl rfl)
    clear key
    go_enter Tryd.func31, Tryd.ntmps31
    go_wp2_with (go_at_call 30; refine (nobodys_made pb po _ h2).mono ?_; rintro e w' ⟨rfl, rfl⟩)
    go_ret2
    exact ⟨rfl, off + n, rfl, k1⟩
set_option maxHeartbeats 400000 in
theorem take_short (pb po L c n : Nat) (ao : Option Addr) (w : World) (h1 : w.cell? ⟨pb, po, none⟩ = some (.slice ao L c)) (h2 : w.cell? ⟨pb, po + 1, none⟩ = some (.bool true)) (hn : L < n) :
    Calls Tryd.prog 31 #[.pointer (some ⟨pb, po, none⟩), .int .i64 (n : Int)] w fun e w' => e = .returned (.tuple #[.slice none 0 0, .int .i64 10]) ∧ w' = w := by
  have hn' : (L : Int) < n := by omega
  go_enter Tryd.func31, Tryd.ntmps31
  go_wp2_with (go_at_call 30; refine (nobodys_made pb po _ h2).mono ?_; rintro e w' ⟨rfl, rfl⟩)
  go_ret2
  exact ⟨rfl, rfl⟩
theorem take_unmade (pb po : Nat) (n : Int) (w : World) (h2 : w.cell? ⟨pb, po + 1, none⟩ = some (.bool false)) :
    Calls Tryd.prog 31 #[.pointer (some ⟨pb, po, none⟩), .int .i64 n] w fun e w' => e = .returned (.tuple #[.slice none 0 0, .int .i64 1]) ∧ w' = w := by
  go_enter Tryd.func31, Tryd.ntmps31
  go_wp2_with (go_at_call 30; refine (nobodys_unmade pb po _ h2).mono ?_; rintro e w' ⟨rfl, rfl⟩)
  go_ret2
  exact ⟨rfl, rfl⟩
theorem take_nil (n : Int) (w : World) :
    Calls Tryd.prog 31 #[.pointer none, .int .i64 n] w fun e w' => e = .returned (.tuple #[.slice none 0 0, .int .i64 1]) ∧ w' = w := by
  go_enter Tryd.func31, Tryd.ntmps31
  go_wp2_with (go_at_call 30; refine (nobodys_nil _).mono ?_; rintro e w' ⟨rfl, rfl⟩)
  go_ret2
  exact ⟨rfl, rfl⟩

set_option maxHeartbeats 400000 in
theorem number_ok (pb po g off c n : Nat) (l : List UInt8) (w : World) (h : Rd w pb po g off c l) (hn : n ≤ l.length) (h8 : n ≤ 8) (hc : c ≤ 9223372036854775807) :
    Calls Tryd.prog 28 #[.pointer (some ⟨pb, po, none⟩), .int .i64 (n : Int)] w fun e w' => e = .returned (.tuple #[.int .u64 (num (l.take n) : Int), .int .i64 0]) ∧
      ∃ off', w' = w.setCell ⟨pb, po, none⟩ (.slice (some ⟨g, off', none⟩) (l.length - n) (c - n)) ∧ Rd w' pb po g off' (c - n) (l.drop n) := by
  go_enter Tryd.func28, Tryd.ntmps28
  go_wp2_with (go_at_call 31; refine (take_ok pb po g off c n l _ h hn hc).mono ?_; rintro e w' ⟨rfl, off', rfl, hr⟩)
  go_loop [8, 9, 10, 19] (fun v _ _ i => ∃ k : Nat, k ≤ n ∧ i = .int .i64 k ∧ v = .int .u64 (num (l.take k) : Int)) (fun _ _ _ i => n - (intOf i).toNat)
  case atStart => exact ⟨0, Nat.zero_le _, rfl, rfl⟩
  case round =>
    obtain ⟨k, hk, rfl, rfl⟩ := hrel
    by_cases hlt : k < n
    · have hlt' : (k : Int) < n := by omega
      obtain ⟨b, hb⟩ : ∃ b, l[k]? = some b := ⟨l[k], by simp⟩
      have hcell := h.data k b hb
      have hne : ∀ v, (w.setCell ⟨pb, po, none⟩ v).cell? ⟨g, off + k, none⟩ = some (.int .u8 (b.toNat : Int)) := fun v => by
        rw [cell_far _ _ _ _ h.apart]; exact hcell
      clear hcell
      have htk : l.take (k + 1) = l.take k ++ [b] := by rw [List.take_add_one, hb]; rfl
      have hlk : (l.take k).length = k := by rw [List.length_take]; omega
      have HS : Hid (bits .or .u64 (num (l.take k) : Int) (IntKind.u64.wrap (IntKind.u64.wrap (b.toNat : Int) * 2 ^ (8 * k))) = (num (l.take (k + 1)) : Int)) := show _ = _ by
        rw [or_step (num (l.take k)) b.toNat k (by omega) (by have := num_lt (l.take k); rw [hlk] at this; exact this) b.toNat_lt, htk, num_snoc, hlk]
      clear htk hlk hb
      go_wp2
      exact ⟨⟨k + 1, by omega, by go_num, by rw [HS.out]⟩, by simp [intOf]; omega⟩
    · have hlt' : ¬ (k : Int) < n := by omega
      obtain rfl : k = n := by omega
      go_wp2
      go_ret2
      exact ⟨rfl, off', rfl, hr⟩
set_option maxHeartbeats 400000 in
theorem number_short (pb po L c n : Nat) (ao : Option Addr) (w : World) (h1 : w.cell? ⟨pb, po, none⟩ = some (.slice ao L c)) (h2 : w.cell? ⟨pb, po + 1, none⟩ = some (.bool true)) (hn : L < n) :
    Calls Tryd.prog 28 #[.pointer (some ⟨pb, po, none⟩), .int .i64 (n : Int)] w fun e w' => e = .returned (.tuple #[.int .u64 0, .int .i64 10]) ∧ w' = w := by
  go_enter Tryd.func28, Tryd.ntmps28
  go_wp2_with (go_at_call 31; refine (take_short pb po L c n ao _ h1 h2 hn).mono ?_; rintro e w' ⟨rfl, rfl⟩)
  refine wp_loop_rounds 1 ?_
  rw [rounds_succ]
  go_wp2
  go_ret2
  exact ⟨rfl, rfl⟩
theorem number_unmade (pb po : Nat) (n : Int) (w : World) (h2 : w.cell? ⟨pb, po + 1, none⟩ = some (.bool false)) :
    Calls Tryd.prog 28 #[.pointer (some ⟨pb, po, none⟩), .int .i64 n] w fun e w' => e = .returned (.tuple #[.int .u64 0, .int .i64 1]) ∧ w' = w := by
  go_enter Tryd.func28, Tryd.ntmps28
  go_wp2_with (go_at_call 31; refine (take_unmade pb po n _ h2).mono ?_; rintro e w' ⟨rfl, rfl⟩)
  refine wp_loop_rounds 1 ?_
  rw [rounds_succ]
  go_wp2
  go_ret2
  exact ⟨rfl, rfl⟩
theorem number_nil (n : Int) (w : World) :
    Calls Tryd.prog 28 #[.pointer none, .int .i64 n] w fun e w' => e = .returned (.tuple #[.int .u64 0, .int .i64 1]) ∧ w' = w := by
  go_enter Tryd.func28, Tryd.ntmps28
  go_wp2_with (go_at_call 31; refine (take_nil n _).mono ?_; rintro e w' ⟨rfl, rfl⟩)
  refine wp_loop_rounds 1 ?_
  rw [rounds_succ]
  go_wp2
  go_ret2
  exact ⟨rfl, rfl⟩

/-- What the calls that read a number answer, as far as 'number' is known: one law for whatever it answered. -/
theorem U16_of (r : Value) (w : World) (v : Nat) (e : Int) (hv : v < 65536) (K : World → Prop) (h : Calls Tryd.prog 28 #[r, .int .i64 2] w fun x w' => x = .returned (.tuple #[.int .u64 (v : Int), .int .i64 e]) ∧ K w') :
    Calls Tryd.prog 17 #[r] w fun x w' => x = .returned (.tuple #[.int .u16 (v : Int), .int .i64 e]) ∧ K w' := by
  go_enter Tryd.func17, Tryd.ntmps17
  go_wp2_with (go_at_call 28; refine h.mono ?_; rintro x w' ⟨rfl, hk⟩)
  go_ret2
  exact ⟨rfl, hk⟩
theorem U64_of (r : Value) (w : World) (v : Nat) (e : Int) (K : World → Prop) (h : Calls Tryd.prog 28 #[r, .int .i64 8] w fun x w' => x = .returned (.tuple #[.int .u64 (v : Int), .int .i64 e]) ∧ K w') :
    Calls Tryd.prog 29 #[r] w fun x w' => x = .returned (.tuple #[.int .u64 (v : Int), .int .i64 e]) ∧ K w' := by
  go_enter Tryd.func29, Tryd.ntmps29
  go_wp2_with (go_at_call 28; refine h.mono ?_; rintro x w' ⟨rfl, hk⟩)
  go_ret2
  exact ⟨rfl, hk⟩
theorem F64_of (r : Value) (w : World) (v : Nat) (e : Int) (K : World → Prop) (h : Calls Tryd.prog 28 #[r, .int .i64 8] w fun x w' => x = .returned (.tuple #[.int .u64 (v : Int), .int .i64 e]) ∧ K w') :
    Calls Tryd.prog 18 #[r] w fun x w' => x = .returned (.tuple #[.float .f64 v, .int .i64 e]) ∧ K w' := by
  have hb := from64_run
  go_enter Tryd.func18, Tryd.ntmps18
  go_wp2_with (go_at_call 29; refine (U64_of r w v e K h).mono ?_; rintro x w' ⟨rfl, hk⟩)
  go_ret2
  exact ⟨rfl, hk⟩
end Go.Proofs.YtefbhhabeapaaaaDoor.Oct
