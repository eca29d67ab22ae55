import Derived.Test.YtjiopaojhenanaaGreatDoorWn2eba8246
namespace Go.Proofs.YtjiopaojhenanaaGreatDoor.Cir
end Go.Proofs.YtjiopaojhenanaaGreatDoor.Cir
namespace Go.Proofs.YtjiopaojhenanaaGreatDoor.Gt
end Go.Proofs.YtjiopaojhenanaaGreatDoor.Gt
namespace Go.Proofs.YtjiopaojhenanaaGreatDoor.Oct
end Go.Proofs.YtjiopaojhenanaaGreatDoor.Oct
namespace Go.Proofs.YtjiopaojhenanaaGreatDoor.Tok
end Go.Proofs.YtjiopaojhenanaaGreatDoor.Tok
set_option maxRecDepth 100000
set_option maxHeartbeats 1000000
namespace Go.Proofs.YtjiopaojhenanaaGreatDoor.Rwt
open Go.RowKit Go.Shelf Go.Proofs.YtjiopaojhenanaaGreatDoor.Oct Go.Proofs.YtjiopaojhenanaaGreatDoor.Tok Go.Proofs.YtjiopaojhenanaaGreatDoor.Gt Go.Proofs.YtjiopaojhenanaaGreatDoor.Cir
theorem rSynth1 (N n x : Nat) (hx : x < 18446744073709551616) (hn : n <= 64) (w : World) (hN : w.cell? ⟨N, 0, none⟩ = some (.int .i64 (n : Int))) : Calls Tryz.prog 17 #[.int .u64 (x : Nat), .pointer (some ⟨N, 0, none⟩)] w fun e w' => e = .returned (.bool (decide (2 ^ n <= x))) /\ w' = w := by
  have hlt := World.block_lt_of_cell? _ _ hN
  have hn1 := hn
  have hx1 := hx
  go_enter Tryz.func17, Tryz.ntmps17
  go_wp2_with fail
  go_ret
  refine ⟨?_, rfl⟩
  have e1 : (((x : Int) / 2 ^ n) != 0) = decide (2 ^ n <= x) := by
    have e2 : ((x : Int) / 2 ^ n) = ((x / 2 ^ n : Nat) : Int) := by simp
    rw [e2]
    by_cases h : 2 ^ n <= x
    . have h3 : 0 < x / 2 ^ n := Nat.div_pos h (Nat.two_pow_pos n)
      rw [decide_eq_true h]
      simp only [bne_iff_ne, ne_eq]
      omega
    . have h3 : x / 2 ^ n = 0 := Nat.div_eq_of_lt (by omega)
      rw [decide_eq_false h, h3]
      rfl
  show Ending.returned (Value.bool (((x : Int) / 2 ^ n) != 0)) = _
  rw [e1]
theorem rIndexU (N n : Nat) (ao : Option Addr) (c : Nat) (rs : List Nat) (hr : ∀ x ∈ rs, x < 18446744073709551616) (hn : n <= 64) (hl : rs.length <= 1000000000000000) (w : World) (hN : w.cell? ⟨N, 0, none⟩ = some (.int .i64 (n : Int))) (hA : Nu w ao (rs.map fun (x : Nat) => (x : Int))) : Calls Tryz.prog 36 #[.slice ao rs.length c, .func (.func 17) #[] #[.pointer (some ⟨N, 0, none⟩)]] w fun e w' => (∃ z : Int, e = .returned (.int .i64 z) /\ (0 <= z ↔ ∃ x ∈ rs, 2 ^ n <= x)) /\ w' = w := by
  have c1 := fun (x : Nat) (hx : x < 18446744073709551616) => rSynth1 N n x hx hn w hN
  have HA := hide hA
  have HR := hide hr
  obtain ⟨m, hm⟩ : ∃ m, rs.length = m := ⟨_, rfl⟩
  have HL := hide hm
  rw [hm] at hl ⊢
  clear hA hr hm
  go_enter Tryz.func36, Tryz.ntmps36
  go_wp2_with fail
  go_loopw [5, 8] (fun _ vi wr => wr = w /\ ∃ i : Nat, vi = .int .i64 (i : Int) /\ i <= m /\ Hid (∀ x ∈ rs.take i, ¬ 2 ^ n <= x)) (fun _ vi _ => m - (Go.RowKit.intOf vi).toNat)
  case atStart => exact ⟨rfl, 0, rfl, Nat.zero_le _, hide (by simp)⟩
  case round =>
    obtain ⟨rfl, i, rfl, hi, HS⟩ := hrel
    by_cases h : i < m
    . have hd : decide ((i : Int) < (m : Int)) = true := decide_eq_true (by omega)
      have hii : (i : Int) < (m : Int) := by omega
      obtain ⟨x, hx⟩ : ∃ x, rs[i]? = some x := ⟨_, List.getElem?_eq_getElem (by rw [HL.out]; exact h)⟩
      have hxi : (rs.map fun (x : Nat) => (x : Int))[i]? = some (x : Int) := by simp [hx]
      obtain ⟨g, off, rfl, hg⟩ := HA.out.resolve_left (fun e => by rw [e] at hxi; simp at hxi)
      have k1 := hg i _ hxi
      have hgl := World.block_lt_of_cell? _ _ k1
      have c2 := c1 x (HR.out x (List.mem_of_getElem? hx))
      have HX := hide hx
      clear hg hx hxi c1
      by_cases hb : 2 ^ n <= x
      . rw [decide_eq_true hb] at c2
        go_wp2_with (go_at_call 17; (with_reducible refine Calls.mono c2 ?_); rintro e w2 ⟨rfl, rfl⟩)
        go_ret
        exact ⟨⟨_, rfl, fun _ => ⟨x, List.mem_of_getElem? HX.out, hb⟩, fun _ => Int.natCast_nonneg _⟩, rfl⟩
      . rw [decide_eq_false hb] at c2
        go_wp2_with (go_at_call 17; (with_reducible refine Calls.mono c2 ?_); rintro e w2 ⟨rfl, rfl⟩)
        go_roundw
        case rel => exact ⟨trivial, i + 1, by go_num, by omega, hide (fun y hy => by
          rw [List.take_add_one, HX.out] at hy
          rcases List.mem_append.1 hy with hy | hy
          . exact HS.out y hy
          . have := List.mem_singleton.1 hy
            rw [this]; exact hb)⟩
        case measure => simp [Go.RowKit.intOf]; omega
    . obtain rfl : m = i := by omega
      have hd : decide ((m : Int) < (m : Int)) = false := decide_eq_false (by omega)
      have HF : Hid (∀ x ∈ rs, ¬ 2 ^ n <= x) := hide (by
        have := HS.out
        rwa [← HL.out, List.take_length] at this)
      go_wp2_with fail
      go_ret
      exact ⟨⟨_, rfl, fun h => absurd h (by decide), fun ⟨x, hx, h⟩ => absurd h (HF.out x hx)⟩, rfl⟩
theorem rContainsU (N n : Nat) (ao : Option Addr) (c : Nat) (rs : List Nat) (hr : ∀ x ∈ rs, x < 18446744073709551616) (hn : n <= 64) (hl : rs.length <= 1000000000000000) (w : World) (hN : w.cell? ⟨N, 0, none⟩ = some (.int .i64 (n : Int))) (hA : Nu w ao (rs.map fun (x : Nat) => (x : Int))) : Calls Tryz.prog 16 #[.slice ao rs.length c, .func (.func 17) #[] #[.pointer (some ⟨N, 0, none⟩)]] w fun e w' => e = .returned (.bool (decide (∃ x ∈ rs, 2 ^ n <= x))) /\ w' = w := by
  have c1 := rIndexU N n ao c rs hr hn hl w hN hA
  clear hN hA
  go_enter Tryz.func16, Tryz.ntmps16
  go_wp2_with (go_at_call 36; (with_reducible refine Calls.mono c1 ?_); rintro e w2 ⟨⟨z, rfl, hz⟩, rfl⟩; have HZ := hide hz; clear hz)
  go_ret
  refine ⟨?_, rfl⟩
  show Ending.returned (Value.bool (decide ((0 : Int) <= z))) = _
  rw [decide_eq_decide.2 HZ.out]
theorem dLinear_no (c : Circ) (ao : Option Addr) (k : Nat) (hk : (chkC c).2 ≠ 0) (w : World) (hC : Ci w c ao k) : Calls Tryz.prog 5 #[cV c ao k] w fun e w' => e = .returned (.tuple #[.slice none 0 0, .int .i64 80]) /\ Below w.heap.size w w' := by
  have c1 := fun V (h : Below w.heap.size w V) => eMay c ao k V (hC.below h)
  have hd : ((chkC c).2 == 0) = false := beq_eq_false_iff_ne.2 hk
  rw [hd] at c1
  obtain ⟨q, b, ops⟩ := c
  unfold cV at *
  simp only at *
  generalize ops.length = n at *
  clear hk hC hd
  have HB0 : Hid (Below w.heap.size w (w.alloc (.cells #[.int .i64 q, .int .i64 b, .slice ao n k] 24))) := hide ((Below.refl _ _).alloc (Nat.le_refl _) _)
  go_enter Tryz.func5, Tryz.ntmps5
  go_wp2_with fail
  refine (c1 _ HB0.out).mono ?_
  rintro e w1 ⟨rfl, hb1⟩
  have HW := hide (bkp HB0.out hb1)
  clear hb1 c1
  go_wp2_with fail
  go_ret2
  exact ⟨rfl, HW.out⟩
abbrev GS := List Nat × List (Nat × Nat)
def fdS (rs : List Nat) (c r : Nat) : Nat := r + (rs.drop r).findIdx (·.testBit c)
theorem fd_eq {rs : List Nat} {c r i : Nat} (hr : r <= i) (hi : i <= rs.length) (hb : ∀ j, r <= j -> j < i -> ∀ x, rs[j]? = some x -> x.testBit c = false) (he : i = rs.length ∨ ∃ x, rs[i]? = some x /\ x.testBit c = true) : fdS rs c r = i := by
  unfold fdS
  have hd : (rs.drop r).length = rs.length - r := List.length_drop
  have : (rs.drop r).findIdx (·.testBit c) = i - r := by
    rcases he with rfl | ⟨x, hx, hb2⟩
    . rw [← hd]
      refine List.findIdx_eq_length.2 fun x hx => ?_
      obtain ⟨j, hj⟩ := List.getElem?_of_mem hx
      rw [List.getElem?_drop] at hj
      have hjl := (List.getElem?_eq_some_iff.1 hj).1
      exact hb (r + j) (by omega) (by omega) x hj
    . have hil := (List.getElem?_eq_some_iff.1 hx).1
      have h1 : i - r < (rs.drop r).length := by omega
      refine (List.findIdx_eq h1).2 ⟨?_, fun j hj => ?_⟩
      . rw [List.getElem_drop]
        have h2 := (List.getElem?_eq_some_iff.1 hx).2
        simp only [show r + (i - r) = i by omega]
        rw [h2]; exact hb2
      . rw [List.getElem_drop]
        exact hb (r + j) (by omega) (by omega) _ (List.getElem?_eq_getElem (by omega))
  omega
def adS (f t : Nat) (s : GS) : GS := (s.1.set t (s.1.getD t 0 ^^^ s.1.getD f 0), s.2 ++ [(f, t)])
def swS (c k : Nat) (s : GS) : GS := if k ≠ c /\ (s.1.getD k 0).testBit c = true then adS c k s else s
def swI (c : Nat) : Nat -> GS -> GS
  | 0, s => s
  | i + 1, s => swS c i (swI c i s)
def prS (c : Nat) (s : GS) : Option GS := if fdS s.1 c c = s.1.length then none else some (if fdS s.1 c c = c then s else adS (fdS s.1 c c) c s)
def clS (n c : Nat) (s : GS) : Option GS := (prS c s).map (swI c n)
def syI (n : Nat) : Nat -> GS -> Option GS
  | 0, s => some s
  | i + 1, s => (syI n i s).bind (clS n i)
def syn (rs : List Nat) : Option (List (Nat × Nat)) := (syI rs.length rs.length (rs, [])).map (·.2)
def bigS (rs : List Nat) : Bool := decide (∃ x ∈ rs, 2 ^ rs.length <= x)
def syP (rs : List Nat) : Option (List (Nat × Nat)) := if 64 < rs.length then none else if bigS rs = true then none else syn rs
def opS (x : Nat × Nat) : COp := ⟨1, 11, [(x.1 : Int), (x.2 : Int)], 0, -1, 0⟩
structure GI (n m : Nat) (s : GS) : Prop where
  len : s.1.length = n
  lt : ∀ x ∈ s.1, x < 18446744073709551616
  nt : s.2.length <= m
theorem GI.more {n m m' : Nat} {s : GS} (h : GI n m s) (hm : m <= m') : GI n m' s := ⟨h.len, h.lt, Nat.le_trans h.nt hm⟩
theorem GI.get {n m : Nat} {s : GS} (h : GI n m s) {i : Nat} (hi : i < n) : s.1[i]? = some (s.1.getD i 0) /\ s.1.getD i 0 < 18446744073709551616 := by
  have h1 : s.1[i]? = some (s.1.getD i 0) := by
    rw [List.getD_eq_getElem?_getD, List.getElem?_eq_getElem (by rw [h.len]; exact hi)]
    rfl
  exact ⟨h1, h.lt _ (List.mem_of_getElem? h1)⟩
theorem GI.ad {n m : Nat} {s : GS} (h : GI n m s) {f t : Nat} (hf : f < n) (ht : t < n) : GI n (m + 1) (adS f t s) := by
  refine ⟨by simp [adS, h.len], fun x hx => ?_, by simp only [adS, List.length_append, List.length_singleton]; have := h.nt; omega⟩
  rcases List.mem_or_eq_of_mem_set hx with hx | rfl
  . exact h.lt x hx
  . exact xor_lt64 (h.get ht).2 (h.get hf).2
theorem GI.sw {n m : Nat} {s : GS} (h : GI n m s) {c k : Nat} (hc : c < n) (hk : k < n) : GI n (m + 1) (swS c k s) := by
  unfold swS
  split
  . exact h.ad hc hk
  . exact h.more (Nat.le_succ _)
theorem GI.swI {n m : Nat} {s : GS} (h : GI n m s) {c : Nat} (hc : c < n) : ∀ i, i <= n -> GI n (m + i) (swI c i s)
  | 0, _ => h
  | i + 1, hi => (GI.swI h hc i (by omega)).sw hc (by omega)
theorem fd_le {rs : List Nat} {c r : Nat} (h : r <= rs.length) : fdS rs c r <= rs.length := by
  have := List.findIdx_le_length (xs := rs.drop r) (p := (·.testBit c))
  rw [List.length_drop] at this
  unfold fdS
  omega
theorem GI.pr {n m : Nat} {s s' : GS} (h : GI n m s) {c : Nat} (hc : c < n) (e : prS c s = some s') : GI n (m + 1) s' := by
  unfold prS at e
  split at e
  . cases e
  . next hne =>
    simp only [Option.some.injEq] at e
    subst e
    have h1 := fd_le (rs := s.1) (c := c) (r := c) (by rw [h.len]; omega)
    split
    . exact h.more (Nat.le_succ _)
    . exact h.ad (by rw [h.len] at h1 hne; omega) hc
theorem GI.cl {n m : Nat} {s s' : GS} (h : GI n m s) {c : Nat} (hc : c < n) (e : clS n c s = some s') : GI n (m + 1 + n) s' := by
  unfold clS at e
  obtain ⟨s1, e1, rfl⟩ := Option.map_eq_some_iff.1 e
  exact (h.pr hc e1).swI hc n (Nat.le_refl _)
theorem GI.sy {n : Nat} {s : GS} (h : GI n 0 s) : ∀ i, i <= n -> ∀ s', syI n i s = some s' -> GI n (i * (n + 1)) s'
  | 0, _, s', e => by
    simp only [syI, Option.some.injEq] at e
    subst e
    rw [Nat.zero_mul]
    exact h
  | i + 1, hi, s', e => by
    simp only [syI, Option.bind_eq_some_iff] at e
    obtain ⟨s1, e1, e2⟩ := e
    have := (GI.sy h i (by omega) s1 e1).cl (by omega) e2
    refine this.more ?_
    rw [Nat.add_mul, Nat.one_mul]
    omega
theorem sy_none (n : Nat) (s : GS) : ∀ (i j : Nat), i <= j -> syI n i s = none -> syI n j s = none
  | i, 0, h, e => by
    obtain rfl : i = 0 := by omega
    exact e
  | i, j + 1, h, e => by
    by_cases he : i = j + 1
    . rw [← he]; exact e
    . simp only [syI]
      rw [sy_none n s i j (by omega) e]
      rfl
end Go.Proofs.YtjiopaojhenanaaGreatDoor.Rwt
