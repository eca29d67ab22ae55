/- The document's own rounding, whole. -/
import Derived.Test.YtnpdfkcjjedamaaGreatDoorQa
namespace Go.Proofs.YtnpdfkcjjedamaaGreatDoor.Sca
open Go.RowKit Go.Lib Go.Shelf

set_option maxRecDepth 100000 in
theorem rd_lo_more (m k n V r hf R RR : Nat) (e L : Int) (h0z : ((m : Int) == 0) = false) (h0y : (m == 0) = false) (h1z : decide (e < -3000) = false) (h2z : decide (3000 < e) = false) (he1 : -3000 ≤ e) (he2 : e ≤ 3000) (hk : k ≤ 64) (hL : max (e + (k : Int) - 1 - 52) (-1074) = L) (hn : L - e = (n : Int)) (hn1 : 1 ≤ n) (hn2 : n ≤ 64) (hnm : (n : Int) - 1 = ((n - 1 : Nat) : Int))
    (cz1 : decide ((n : Int) ≤ 0) = false) (cz2 : decide (n = 0) = false) (cz4 : decide ((64 : Int) < (n : Int)) = false) (cz5 : decide (64 < n) = false) (hhl : hf ≤ 9223372036854775808) (hhz : IntKind.u64.wrap (2 ^ (n - 1) : Int) = (hf : Int))
    (cB : ∀ w, Calls Tryz.prog 73 #[.int .u64 (m : Int)] w fun e w' => e = .returned (.int .i64 (k : Int)) ∧ w' = w) (cP : ∀ w, Calls Tryz.prog 74 #[.int .u64 (R : Int), .int .i64 L] w fun e w' => e = .returned (.float .f64 RR) ∧ w' = w) (w : World)
    (hnz : decide ((n : Int) < 64) = true) (hny : decide (n < 64) = true) (hdv : (m : Int) / 2 ^ n = (V : Int)) (hnd : bits .and .u64 (m : Int) (IntKind.u64.wrap (IntKind.u64.wrap (2 ^ n) - 1)) = (r : Int)) (hV : V ≤ 9223372036854775808)
    (d1z : decide ((hf : Int) < (r : Int)) = true) (d1y : decide (hf < r) = true) (hR : R = V + 1) :
    Calls Tryz.prog 54 #[.int .u64 (m : Int), .int .i64 e, .bool false] w fun e' w' => e' = .returned (.float .f64 RR) ∧ ∃ q, w' = w.drewN q := by
  have hu : True := by
    have := h0z
    have := h0y
    have := h1z
    have := h2z
    have := he1
    have := he2
    have := hk
    have := hL
    have := hn
    have := hn1
    have := hn2
    have := hnm
    have := cz1
    have := cz2
    have := cz4
    have := cz5
    have := hhl
    have := hhz
    have := hnz
    have := hny
    have := hdv
    have := hnd
    have := hV
    have := d1z
    have := d1y
    trivial
  clear hu
  have mixed := mixed_ok
  subst hR
  go_enter Tryz.func54, Tryz.ntmps54
  go_wp2_with (first | (go_at_call 73; refine (cB _).mono ?_; rintro e w' ⟨rfl, hw⟩; obtain rfl := hw.symm) | (go_at_call 74; refine (cP _).mono ?_; rintro e w' ⟨rfl, hw⟩; obtain rfl := hw.symm))
  go_ret
  exact ⟨rfl, 0, rfl⟩
set_option maxRecDepth 100000 in
theorem rd_lo_tie1 (m k n V r hf R RR : Nat) (e L : Int) (h0z : ((m : Int) == 0) = false) (h0y : (m == 0) = false) (h1z : decide (e < -3000) = false) (h2z : decide (3000 < e) = false) (he1 : -3000 ≤ e) (he2 : e ≤ 3000) (hk : k ≤ 64) (hL : max (e + (k : Int) - 1 - 52) (-1074) = L) (hn : L - e = (n : Int)) (hn1 : 1 ≤ n) (hn2 : n ≤ 64) (hnm : (n : Int) - 1 = ((n - 1 : Nat) : Int))
    (cz1 : decide ((n : Int) ≤ 0) = false) (cz2 : decide (n = 0) = false) (cz4 : decide ((64 : Int) < (n : Int)) = false) (cz5 : decide (64 < n) = false) (hhl : hf ≤ 9223372036854775808) (hhz : IntKind.u64.wrap (2 ^ (n - 1) : Int) = (hf : Int))
    (cB : ∀ w, Calls Tryz.prog 73 #[.int .u64 (m : Int)] w fun e w' => e = .returned (.int .i64 (k : Int)) ∧ w' = w) (cP : ∀ w, Calls Tryz.prog 74 #[.int .u64 (R : Int), .int .i64 L] w fun e w' => e = .returned (.float .f64 RR) ∧ w' = w) (w : World)
    (hnz : decide ((n : Int) < 64) = true) (hny : decide (n < 64) = true) (hdv : (m : Int) / 2 ^ n = (V : Int)) (hnd : bits .and .u64 (m : Int) (IntKind.u64.wrap (IntKind.u64.wrap (2 ^ n) - 1)) = (r : Int)) (hV : V ≤ 9223372036854775808)
    (d1z : decide ((hf : Int) < (r : Int)) = false) (d1y : decide (hf < r) = false) (d2z : ((r : Int) == (hf : Int)) = true) (d2y : (r == hf) = true) (d3z : ((V : Int).tmod 2 == 1) = true) (d3y : ((V : Int) % 2 == 1) = true) (d3x : (V % 2 == 1) = true) (hR : R = V + 1) :
    Calls Tryz.prog 54 #[.int .u64 (m : Int), .int .i64 e, .bool false] w fun e' w' => e' = .returned (.float .f64 RR) ∧ ∃ q, w' = w.drewN q := by
  have hu : True := by
    have := h0z
    have := h0y
    have := h1z
    have := h2z
    have := he1
    have := he2
    have := hk
    have := hL
    have := hn
    have := hn1
    have := hn2
    have := hnm
    have := cz1
    have := cz2
    have := cz4
    have := cz5
    have := hhl
    have := hhz
    have := hnz
    have := hny
    have := hdv
    have := hnd
    have := hV
    have := d1z
    have := d1y
    have := d2z
    have := d2y
    have := d3z
    have := d3y
    have := d3x
    trivial
  clear hu
  have mixed := mixed_ok
  subst hR
  go_enter Tryz.func54, Tryz.ntmps54
  go_wp2_with (first | (go_at_call 73; refine (cB _).mono ?_; rintro e w' ⟨rfl, hw⟩; obtain rfl := hw.symm) | (go_at_call 74; refine (cP _).mono ?_; rintro e w' ⟨rfl, hw⟩; obtain rfl := hw.symm))
  go_ret
  exact ⟨rfl, 0, rfl⟩
set_option maxRecDepth 100000 in
theorem rd_lo_tie0 (m k n V r hf R RR : Nat) (e L : Int) (h0z : ((m : Int) == 0) = false) (h0y : (m == 0) = false) (h1z : decide (e < -3000) = false) (h2z : decide (3000 < e) = false) (he1 : -3000 ≤ e) (he2 : e ≤ 3000) (hk : k ≤ 64) (hL : max (e + (k : Int) - 1 - 52) (-1074) = L) (hn : L - e = (n : Int)) (hn1 : 1 ≤ n) (hn2 : n ≤ 64) (hnm : (n : Int) - 1 = ((n - 1 : Nat) : Int))
    (cz1 : decide ((n : Int) ≤ 0) = false) (cz2 : decide (n = 0) = false) (cz4 : decide ((64 : Int) < (n : Int)) = false) (cz5 : decide (64 < n) = false) (hhl : hf ≤ 9223372036854775808) (hhz : IntKind.u64.wrap (2 ^ (n - 1) : Int) = (hf : Int))
    (cB : ∀ w, Calls Tryz.prog 73 #[.int .u64 (m : Int)] w fun e w' => e = .returned (.int .i64 (k : Int)) ∧ w' = w) (cP : ∀ w, Calls Tryz.prog 74 #[.int .u64 (R : Int), .int .i64 L] w fun e w' => e = .returned (.float .f64 RR) ∧ w' = w) (w : World)
    (hnz : decide ((n : Int) < 64) = true) (hny : decide (n < 64) = true) (hdv : (m : Int) / 2 ^ n = (V : Int)) (hnd : bits .and .u64 (m : Int) (IntKind.u64.wrap (IntKind.u64.wrap (2 ^ n) - 1)) = (r : Int)) (hV : V ≤ 9223372036854775808)
    (d1z : decide ((hf : Int) < (r : Int)) = false) (d1y : decide (hf < r) = false) (d2z : ((r : Int) == (hf : Int)) = true) (d2y : (r == hf) = true) (d3z : ((V : Int).tmod 2 == 1) = false) (d3y : ((V : Int) % 2 == 1) = false) (d3x : (V % 2 == 1) = false) (hR : R = V) :
    Calls Tryz.prog 54 #[.int .u64 (m : Int), .int .i64 e, .bool false] w fun e' w' => e' = .returned (.float .f64 RR) ∧ ∃ q, w' = w.drewN q := by
  have hu : True := by
    have := h0z
    have := h0y
    have := h1z
    have := h2z
    have := he1
    have := he2
    have := hk
    have := hL
    have := hn
    have := hn1
    have := hn2
    have := hnm
    have := cz1
    have := cz2
    have := cz4
    have := cz5
    have := hhl
    have := hhz
    have := hnz
    have := hny
    have := hdv
    have := hnd
    have := hV
    have := d1z
    have := d1y
    have := d2z
    have := d2y
    have := d3z
    have := d3y
    have := d3x
    trivial
  clear hu
  have mixed := mixed_ok
  subst hR
  go_enter Tryz.func54, Tryz.ntmps54
  go_wp2_with (first | (go_at_call 73; refine (cB _).mono ?_; rintro e w' ⟨rfl, hw⟩; obtain rfl := hw.symm) | (go_at_call 74; refine (cP _).mono ?_; rintro e w' ⟨rfl, hw⟩; obtain rfl := hw.symm))
  go_ret
  exact ⟨rfl, 0, rfl⟩
set_option maxRecDepth 100000 in
theorem rd_lo_less (m k n V r hf R RR : Nat) (e L : Int) (h0z : ((m : Int) == 0) = false) (h0y : (m == 0) = false) (h1z : decide (e < -3000) = false) (h2z : decide (3000 < e) = false) (he1 : -3000 ≤ e) (he2 : e ≤ 3000) (hk : k ≤ 64) (hL : max (e + (k : Int) - 1 - 52) (-1074) = L) (hn : L - e = (n : Int)) (hn1 : 1 ≤ n) (hn2 : n ≤ 64) (hnm : (n : Int) - 1 = ((n - 1 : Nat) : Int))
    (cz1 : decide ((n : Int) ≤ 0) = false) (cz2 : decide (n = 0) = false) (cz4 : decide ((64 : Int) < (n : Int)) = false) (cz5 : decide (64 < n) = false) (hhl : hf ≤ 9223372036854775808) (hhz : IntKind.u64.wrap (2 ^ (n - 1) : Int) = (hf : Int))
    (cB : ∀ w, Calls Tryz.prog 73 #[.int .u64 (m : Int)] w fun e w' => e = .returned (.int .i64 (k : Int)) ∧ w' = w) (cP : ∀ w, Calls Tryz.prog 74 #[.int .u64 (R : Int), .int .i64 L] w fun e w' => e = .returned (.float .f64 RR) ∧ w' = w) (w : World)
    (hnz : decide ((n : Int) < 64) = true) (hny : decide (n < 64) = true) (hdv : (m : Int) / 2 ^ n = (V : Int)) (hnd : bits .and .u64 (m : Int) (IntKind.u64.wrap (IntKind.u64.wrap (2 ^ n) - 1)) = (r : Int)) (hV : V ≤ 9223372036854775808)
    (d1z : decide ((hf : Int) < (r : Int)) = false) (d1y : decide (hf < r) = false) (d2z : ((r : Int) == (hf : Int)) = false) (d2y : (r == hf) = false) (hR : R = V) :
    Calls Tryz.prog 54 #[.int .u64 (m : Int), .int .i64 e, .bool false] w fun e' w' => e' = .returned (.float .f64 RR) ∧ ∃ q, w' = w.drewN q := by
  have hu : True := by
    have := h0z
    have := h0y
    have := h1z
    have := h2z
    have := he1
    have := he2
    have := hk
    have := hL
    have := hn
    have := hn1
    have := hn2
    have := hnm
    have := cz1
    have := cz2
    have := cz4
    have := cz5
    have := hhl
    have := hhz
    have := hnz
    have := hny
    have := hdv
    have := hnd
    have := hV
    have := d1z
    have := d1y
    have := d2z
    have := d2y
    trivial
  clear hu
  have mixed := mixed_ok
  subst hR
  go_enter Tryz.func54, Tryz.ntmps54
  go_wp2_with (first | (go_at_call 73; refine (cB _).mono ?_; rintro e w' ⟨rfl, hw⟩; obtain rfl := hw.symm) | (go_at_call 74; refine (cP _).mono ?_; rintro e w' ⟨rfl, hw⟩; obtain rfl := hw.symm))
  go_ret
  exact ⟨rfl, 0, rfl⟩
set_option maxRecDepth 100000 in
theorem rd_hi_more (m k n V r hf R RR : Nat) (e L : Int) (h0z : ((m : Int) == 0) = false) (h0y : (m == 0) = false) (h1z : decide (e < -3000) = false) (h2z : decide (3000 < e) = false) (he1 : -3000 ≤ e) (he2 : e ≤ 3000) (hk : k ≤ 64) (hL : max (e + (k : Int) - 1 - 52) (-1074) = L) (hn : L - e = (n : Int)) (hn1 : 1 ≤ n) (hn2 : n ≤ 64) (hnm : (n : Int) - 1 = ((n - 1 : Nat) : Int))
    (cz1 : decide ((n : Int) ≤ 0) = false) (cz2 : decide (n = 0) = false) (cz4 : decide ((64 : Int) < (n : Int)) = false) (cz5 : decide (64 < n) = false) (hhl : hf ≤ 9223372036854775808) (hhz : IntKind.u64.wrap (2 ^ (n - 1) : Int) = (hf : Int))
    (cB : ∀ w, Calls Tryz.prog 73 #[.int .u64 (m : Int)] w fun e w' => e = .returned (.int .i64 (k : Int)) ∧ w' = w) (cP : ∀ w, Calls Tryz.prog 74 #[.int .u64 (R : Int), .int .i64 L] w fun e w' => e = .returned (.float .f64 RR) ∧ w' = w) (w : World)
    (hnz : decide ((n : Int) < 64) = false) (hny : decide (n < 64) = false) (hr : m = r) (hV : V = 0)
    (d1z : decide ((hf : Int) < (r : Int)) = true) (d1y : decide (hf < r) = true) (hR : R = V + 1) :
    Calls Tryz.prog 54 #[.int .u64 (m : Int), .int .i64 e, .bool false] w fun e' w' => e' = .returned (.float .f64 RR) ∧ ∃ q, w' = w.drewN q := by
  have hu : True := by
    have := h0z
    have := h0y
    have := h1z
    have := h2z
    have := he1
    have := he2
    have := hk
    have := hL
    have := hn
    have := hn1
    have := hn2
    have := hnm
    have := cz1
    have := cz2
    have := cz4
    have := cz5
    have := hhl
    have := hhz
    have := hnz
    have := hny
    have := d1z
    have := d1y
    trivial
  clear hu
  have mixed := mixed_ok
  subst hr hV
  subst hR
  go_enter Tryz.func54, Tryz.ntmps54
  go_wp2_with (first | (go_at_call 73; refine (cB _).mono ?_; rintro e w' ⟨rfl, hw⟩; obtain rfl := hw.symm) | (go_at_call 74; refine (cP _).mono ?_; rintro e w' ⟨rfl, hw⟩; obtain rfl := hw.symm))
  go_ret
  exact ⟨rfl, 0, rfl⟩
set_option maxRecDepth 100000 in
theorem rd_hi_tie (m k n V r hf R RR : Nat) (e L : Int) (h0z : ((m : Int) == 0) = false) (h0y : (m == 0) = false) (h1z : decide (e < -3000) = false) (h2z : decide (3000 < e) = false) (he1 : -3000 ≤ e) (he2 : e ≤ 3000) (hk : k ≤ 64) (hL : max (e + (k : Int) - 1 - 52) (-1074) = L) (hn : L - e = (n : Int)) (hn1 : 1 ≤ n) (hn2 : n ≤ 64) (hnm : (n : Int) - 1 = ((n - 1 : Nat) : Int))
    (cz1 : decide ((n : Int) ≤ 0) = false) (cz2 : decide (n = 0) = false) (cz4 : decide ((64 : Int) < (n : Int)) = false) (cz5 : decide (64 < n) = false) (hhl : hf ≤ 9223372036854775808) (hhz : IntKind.u64.wrap (2 ^ (n - 1) : Int) = (hf : Int))
    (cB : ∀ w, Calls Tryz.prog 73 #[.int .u64 (m : Int)] w fun e w' => e = .returned (.int .i64 (k : Int)) ∧ w' = w) (cP : ∀ w, Calls Tryz.prog 74 #[.int .u64 (R : Int), .int .i64 L] w fun e w' => e = .returned (.float .f64 RR) ∧ w' = w) (w : World)
    (hnz : decide ((n : Int) < 64) = false) (hny : decide (n < 64) = false) (hr : m = r) (hV : V = 0)
    (d1z : decide ((hf : Int) < (r : Int)) = false) (d1y : decide (hf < r) = false) (d2z : ((r : Int) == (hf : Int)) = true) (d2y : (r == hf) = true) (hR : R = V) :
    Calls Tryz.prog 54 #[.int .u64 (m : Int), .int .i64 e, .bool false] w fun e' w' => e' = .returned (.float .f64 RR) ∧ ∃ q, w' = w.drewN q := by
  have hu : True := by
    have := h0z
    have := h0y
    have := h1z
    have := h2z
    have := he1
    have := he2
    have := hk
    have := hL
    have := hn
    have := hn1
    have := hn2
    have := hnm
    have := cz1
    have := cz2
    have := cz4
    have := cz5
    have := hhl
    have := hhz
    have := hnz
    have := hny
    have := d1z
    have := d1y
    have := d2z
    have := d2y
    trivial
  clear hu
  have mixed := mixed_ok
  subst hr hV
  subst hR
  go_enter Tryz.func54, Tryz.ntmps54
  go_wp2_with (first | (go_at_call 73; refine (cB _).mono ?_; rintro e w' ⟨rfl, hw⟩; obtain rfl := hw.symm) | (go_at_call 74; refine (cP _).mono ?_; rintro e w' ⟨rfl, hw⟩; obtain rfl := hw.symm))
  go_ret
  exact ⟨rfl, 0, rfl⟩
set_option maxRecDepth 100000 in
theorem rd_hi_less (m k n V r hf R RR : Nat) (e L : Int) (h0z : ((m : Int) == 0) = false) (h0y : (m == 0) = false) (h1z : decide (e < -3000) = false) (h2z : decide (3000 < e) = false) (he1 : -3000 ≤ e) (he2 : e ≤ 3000) (hk : k ≤ 64) (hL : max (e + (k : Int) - 1 - 52) (-1074) = L) (hn : L - e = (n : Int)) (hn1 : 1 ≤ n) (hn2 : n ≤ 64) (hnm : (n : Int) - 1 = ((n - 1 : Nat) : Int))
    (cz1 : decide ((n : Int) ≤ 0) = false) (cz2 : decide (n = 0) = false) (cz4 : decide ((64 : Int) < (n : Int)) = false) (cz5 : decide (64 < n) = false) (hhl : hf ≤ 9223372036854775808) (hhz : IntKind.u64.wrap (2 ^ (n - 1) : Int) = (hf : Int))
    (cB : ∀ w, Calls Tryz.prog 73 #[.int .u64 (m : Int)] w fun e w' => e = .returned (.int .i64 (k : Int)) ∧ w' = w) (cP : ∀ w, Calls Tryz.prog 74 #[.int .u64 (R : Int), .int .i64 L] w fun e w' => e = .returned (.float .f64 RR) ∧ w' = w) (w : World)
    (hnz : decide ((n : Int) < 64) = false) (hny : decide (n < 64) = false) (hr : m = r) (hV : V = 0)
    (d1z : decide ((hf : Int) < (r : Int)) = false) (d1y : decide (hf < r) = false) (d2z : ((r : Int) == (hf : Int)) = false) (d2y : (r == hf) = false) (hR : R = V) :
    Calls Tryz.prog 54 #[.int .u64 (m : Int), .int .i64 e, .bool false] w fun e' w' => e' = .returned (.float .f64 RR) ∧ ∃ q, w' = w.drewN q := by
  have hu : True := by
    have := h0z
    have := h0y
    have := h1z
    have := h2z
    have := he1
    have := he2
    have := hk
    have := hL
    have := hn
    have := hn1
    have := hn2
    have := hnm
    have := cz1
    have := cz2
    have := cz4
    have := cz5
    have := hhl
    have := hhz
    have := hnz
    have := hny
    have := d1z
    have := d1y
    have := d2z
    have := d2y
    trivial
  clear hu
  have mixed := mixed_ok
  subst hr hV
  subst hR
  go_enter Tryz.func54, Tryz.ntmps54
  go_wp2_with (first | (go_at_call 73; refine (cB _).mono ?_; rintro e w' ⟨rfl, hw⟩; obtain rfl := hw.symm) | (go_at_call 74; refine (cP _).mono ?_; rintro e w' ⟨rfl, hw⟩; obtain rfl := hw.symm))
  go_ret
  exact ⟨rfl, 0, rfl⟩
end Go.Proofs.YtnpdfkcjjedamaaGreatDoor.Sca
