/- The exact sum: a float put in. -/
import Derived.Test.YtnpdfkcjjedamaaGreatDoorWa
namespace Go.Proofs.YtnpdfkcjjedamaaGreatDoor.Sca
open Go.RowKit Go.Lib Go.Shelf

theorem add64_0 (x y : Nat) (w : World) : (callFunc 48 #[.int .u64 (x : Int), .int .u64 (y : Int), .int .u64 0]).run Tryz.prog w = .ok (.value (.tuple #[.int .u64 (((x + y + 0) % 18446744073709551616 : Nat) : Int), .int .u64 (((x + y + 0) / 18446744073709551616 : Nat) : Int)])) w := by kernel_rfl
theorem add64_1 (x y : Nat) (w : World) : (callFunc 48 #[.int .u64 (x : Int), .int .u64 (y : Int), .int .u64 1]).run Tryz.prog w = .ok (.value (.tuple #[.int .u64 (((x + y + 1) % 18446744073709551616 : Nat) : Int), .int .u64 (((x + y + 1) / 18446744073709551616 : Nat) : Int)])) w := by kernel_rfl
theorem add64 (x y c : Nat) (hc : c ≤ 1) (w : World) : (callFunc 48 #[.int .u64 (x : Int), .int .u64 (y : Int), .int .u64 (c : Int)]).run Tryz.prog w = .ok (.value (.tuple #[.int .u64 (((x + y + c) % 18446744073709551616 : Nat) : Int), .int .u64 (((x + y + c) / 18446744073709551616 : Nat) : Int)])) w := by
  have : c = 0 ∨ c = 1 := by omega
  rcases this with rfl | rfl
  · exact add64_0 x y w
  · exact add64_1 x y w
/-- A number of at most 54 bits, shifted, in two words and a sign. -/
def lowW (m : Int) (sh : Nat) : Nat := (m * 2 ^ sh % 18446744073709551616).toNat
def highW (m : Int) (sh : Nat) : Nat := (m / 2 ^ (64 - sh) % 18446744073709551616).toNat
def sgW (m : Int) : Nat := if m < 0 then 18446744073709551615 else 0
theorem grown_set (w : World) (b o : Nat) (v : Value) : w.grownBy (w.setCell ⟨b, o, none⟩ v) (some b) :=
  ⟨rfl, rfl, rfl, by simp, fun k _ hk => Below.heap_setCell _ _ _ k (fun e => hk (by rw [e]))⟩
theorem grown_refl (w : World) (r : Option Nat) : w.grownBy w r := ⟨rfl, rfl, rfl, Nat.le_refl _, fun _ _ _ => rfl⟩
theorem grown_drewN {w w' : World} {r : Option Nat} (h : w.grownBy w' r) (q : Nat) : w.grownBy (w'.drewN q) r := ⟨h.os, h.tape, h.output, h.size, h.block⟩
theorem grown_drew {w w' : World} {r : Option Nat} (h : w.grownBy w' r) : w.grownBy w'.drew r := ⟨h.os, h.tape, h.output, h.size, h.block⟩
theorem Tot.at {w : World} {b : Nat} {a : List Nat} (h : Tot w b a) (i : Nat) (hi : i < 34) : ∃ x, a[i]? = some x ∧ x < 18446744073709551616 ∧ w.cell? ⟨b, i, none⟩ = some (.int .u64 (x : Int)) :=
  ⟨a[i]'(by rw [h.len]; exact hi), List.getElem?_eq_getElem _, h.lt _ _ (List.getElem?_eq_getElem _), h.cell _ _ (List.getElem?_eq_getElem _)⟩
set_option maxRecDepth 100000 in
set_option maxHeartbeats 1000000 in
theorem tAdd (m e : Int) (b at' sh pl low high sg : Nat) (a : List Nat) (w : World) (hat : at' ≤ 32) (_hsh : sh < 64) (he : e + 1074 = (pl : Int)) (hq1 : (pl : Int) / 64 = (at' : Int)) (hq2 : (pl : Int) % 64 = (sh : Int))
    (hlow : IntKind.u64.wrap (IntKind.u64.wrap m * 2 ^ sh) = (low : Int)) (hhigh : IntKind.u64.wrap (m / 2 ^ (64 - sh)) = (high : Int)) (hsg : IntKind.u64.wrap (m / 9223372036854775808) = (sg : Int)) (hll : low < 18446744073709551616) (hhl : high < 18446744073709551616) (s : Int) (hs : s = 0 ∧ sg = 0 ∨ s = 1 ∧ sg = 18446744073709551615) (hm2 : m * 2 ^ sh = (low : Int) + 18446744073709551616 * ((high : Int) - s * 18446744073709551616)) (h : Tot w b a) :
    Calls Tryz.prog 24 #[.pointer (some ⟨b, 0, none⟩), .int .i64 m, .int .i64 e] w fun e w' => e = .returned (.tuple #[]) ∧ ∃ a', Tot w' b a' ∧ w.grownBy w' (some b) ∧ ∃ k : Int, val a' = val a + m * 2 ^ sh * 18446744073709551616 ^ at' + k * 18446744073709551616 ^ 34 := by
  have mixed := mixed_ok
  have HM : Hid (m * 2 ^ sh = (low : Int) + 18446744073709551616 * ((high : Int) - s * 18446744073709551616)) := hm2
  clear hm2
  have hpl : pl < 2112 := by omega
  have hz1 : (0 : Int) ≤ (sh : Int) := by omega
  have hz2 : (0 : Int) ≤ 64 - (sh : Int) := by omega
  go_enter Tryz.func24, Tryz.ntmps24
  go_wp2
  go_big_quiet_o (fail)
  have h1 := h.drewN nq
  have g1 : w.grownBy (w.drewN nq) (some b) := grown_drewN (grown_refl _ _) nq
  clear h
  generalize w.drewN nq = w1 at *
  obtain ⟨x, hx, hxl, hxc⟩ := h1.at at' (by omega)
  have hxf := h1.free at'
  obtain ⟨x1, hx1⟩ : ∃ x1, (x + low + 0) % 18446744073709551616 = x1 := ⟨_, rfl⟩
  obtain ⟨c1, hc1⟩ : ∃ c1, (x + low + 0) / 18446744073709551616 = c1 := ⟨_, rfl⟩
  have ha := fun w => add64_0 x low w
  rw [hx1, hc1] at ha
  have hat0 : (0 : Int) ≤ (at' : Int) := by omega
  have hat1 : (at' : Int) < 34 := by omega
  have hat2 : at' < 34 := by omega
  clear he hq1 hz1 hz2 hpl hq2 hlow hhigh hsg
  go_wp2
  go_region
  have hx1l : x1 < 18446744073709551616 := by omega
  have h2 := (h1.set at' x1 hat2 hx1l).drew
  have g2 := grown_drew (g1.trans (grown_set w1 b at' (.int .u64 (x1 : Int))))
  have Hv1 : Hid (val (a.set at' x1) = val a + ((x1 : Int) - x) * 18446744073709551616 ^ at') := val_set a at' x x1 hx
  clear h1 g1 hxc hxf ha
  generalize (w1.setCell ⟨b, at', none⟩ (.int .u64 (x1 : Int))).drew = w2 at *
  generalize ha1 : a.set at' x1 = a1 at *
  obtain ⟨y, hy, hyl, hyc⟩ := h2.at (at' + 1) (by omega)
  have hyf := h2.free (at' + 1)
  have hc1l : c1 ≤ 1 := by omega
  obtain ⟨y1, hy1⟩ : ∃ y1, (y + high + c1) % 18446744073709551616 = y1 := ⟨_, rfl⟩
  obtain ⟨c2, hc2⟩ : ∃ c2, (y + high + c1) / 18446744073709551616 = c2 := ⟨_, rfl⟩
  have ha := fun w => add64 y high c1 hc1l w
  rw [hy1, hc2] at ha
  have qw : IntKind.i64.wrap ((at' : Int) + 1) = ((at' + 1 : Nat) : Int) := by simp [IntKind.wrap, IntKind.bits, IntKind.signed]; omega
  obtain ⟨k, hk⟩ : ∃ k, at' + 1 = k := ⟨_, rfl⟩
  rw [hk] at hy hyc hyf qw
  have hk0 : (0 : Int) ≤ (k : Int) := by omega
  have hk1 : (k : Int) < 34 := by omega
  have hk2 : k < 34 := by omega
  have qz : (at' : Int) + 1 = (k : Int) := by omega
  go_wp2
  go_region
  have hy1l : y1 < 18446744073709551616 := by omega
  have h3 := (h2.set k y1 hk2 hy1l).drew
  have g3 := grown_drew (g2.trans (grown_set w2 b k (.int .u64 (y1 : Int))))
  have hv2 : val (a1.set k y1) = val a1 + ((y1 : Int) - y) * 18446744073709551616 ^ k := val_set a1 k y y1 hy
  have hc2l : c2 ≤ 1 := by omega
  have HT : Hid (val (a1.set k y1) + ((c2 : Int) - s) * 18446744073709551616 ^ (at' + 2) = val a + m * 2 ^ sh * 18446744073709551616 ^ at') := by
    show _ = _
    rw [← hk, Int.pow_succ] at hv2
    rw [Int.pow_succ, Int.pow_succ, ← hk]
    rw [hk] at hv2 ⊢
    exact acc_start (val a) (val a1) (val (a1.set k y1)) (18446744073709551616 ^ at') (m * 2 ^ sh) x x1 y y1 low high c1 c2 s (by omega) (by omega) Hv1.out hv2 HM.out
  clear h2 g2 hyc hyf ha hv2 Hv1 HM qw qz hx hy hx1 hc1 hy1 hc2 hxl hyl hx1l hy1l ha1 hc1l hll hhl
  generalize (w2.setCell ⟨b, k, none⟩ (.int .u64 (y1 : Int))).drew = w3 at *
  generalize a1.set k y1 = a3 at *
  generalize hTG : val a + m * 2 ^ sh * 18446744073709551616 ^ at' = TG at *
  clear hk hk0 hk1 hk2 hat0 hat1 hat2
  go_wp2
  go_loopw [12, 13] (fun vc vi wr => ∃ (n c : Nat) (ar : List Nat), vi = .int .i64 (n : Int) ∧ vc = .int .u64 (c : Int) ∧ n ≤ 34 ∧ c ≤ 1 ∧ Tot wr b ar ∧ w.grownBy wr (some b) ∧ Hid (val ar + ((c : Int) - s) * 18446744073709551616 ^ n = TG)) (fun _ vi _ => 34 - (Go.RowKit.intOf vi).toNat)
  case atStart => exact ⟨at' + 2, c2, a3, by go_num, rfl, by omega, hc2l, h3, g3, HT⟩
  case round =>
    obtain ⟨n, c, ar, rfl, rfl, hn, hc, hT, hG, HV⟩ := hrel
    clear h3 g3 HT hc2l
    by_cases hn34 : n < 34
    · have hnz : decide ((n : Int) < 34) = true := decide_eq_true (by omega)
      by_cases hcs : (c : Int) = s
      · have hz : IntKind.u64.wrap ((sg : Int) + (c : Int)) = 0 := by rw [wrapU]; omega
        have HF : Hid (val ar = TG) := by
          have := HV.out
          rw [hcs, Int.sub_self, Int.zero_mul, Int.add_zero] at this
          exact this
        clear HV hcs
        go_wp2
        go_end0
        exact ⟨rfl, ar, hT, hG, 0, by rw [HF.out, Int.zero_mul, Int.add_zero]; exact hTG.symm⟩
      · obtain ⟨z, hz⟩ : ∃ z, (sg + c) % 18446744073709551616 = z := ⟨_, rfl⟩
        have hz1 : IntKind.u64.wrap ((sg : Int) + (c : Int)) = (z : Int) := by rw [wrapU]; omega
        have hz2 : ((z : Int) != 0) = true := by rw [bne_iff_ne]; omega
        obtain ⟨x, hx, hxl, hxc⟩ := hT.at n hn34
        have hxf := hT.free n
        obtain ⟨x1, hx1⟩ : ∃ x1, (x + sg + c) % 18446744073709551616 = x1 := ⟨_, rfl⟩
        obtain ⟨c', hc'⟩ : ∃ c', (x + sg + c) / 18446744073709551616 = c' := ⟨_, rfl⟩
        have ha := fun w => add64 x sg c hc w
        rw [hx1, hc'] at ha
        have hn0 : (0 : Int) ≤ (n : Int) := by omega
        have hn1 : (n : Int) < 34 := by omega
        have hx1l : x1 < 18446744073709551616 := by omega
        have hc'l : c' ≤ 1 := by omega
        have HN : Hid (val (ar.set n x1) + ((c' : Int) - s) * 18446744073709551616 ^ (n + 1) = TG) := by
          show _ = _
          rw [Int.pow_succ]
          exact acc_step (val ar) (val (ar.set n x1)) (18446744073709551616 ^ n) TG x x1 sg c c' s (by omega) (by omega) (val_set ar n x x1 hx) HV.out
        have hT2 := (hT.set n x1 hn34 hx1l).drew
        have hG2 := grown_drew (hG.trans (grown_set wr b n (.int .u64 (x1 : Int))))
        clear HV hcs hz hT hG hx hx1 hc' hxl
        go_wp2
        go_region
        clear hxc hxf ha
        generalize (wr.setCell ⟨b, n, none⟩ (.int .u64 (x1 : Int))).drew = wx at *
        go_wp2
        exact ⟨⟨n + 1, c', ar.set n x1, by go_num, rfl, by omega, hc'l, hT2, hG2, HN⟩, by simp [Go.RowKit.intOf]; omega⟩
    · have hnz : decide ((n : Int) < 34) = false := decide_eq_false (by omega)
      obtain rfl : n = 34 := by omega
      have HF : Hid (∃ k : Int, val ar = TG + k * 18446744073709551616 ^ 34) := ⟨-((c : Int) - s), by have := HV.out; rw [Int.neg_mul]; omega⟩
      clear HV
      go_wp2
      go_end0
      exact ⟨rfl, ar, hT, hG, by rw [hTG]; exact HF.out⟩
end Go.Proofs.YtnpdfkcjjedamaaGreatDoor.Sca
