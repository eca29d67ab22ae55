import Derived.Test.YtjiopaojhenanaaGreatDoorWn60c692ba
import Derived.BigQuiet
namespace Go.Proofs.YtjiopaojhenanaaGreatDoor.Oct
end Go.Proofs.YtjiopaojhenanaaGreatDoor.Oct
set_option maxRecDepth 100000
set_option maxHeartbeats 2000000
namespace Go.Proofs.YtjiopaojhenanaaGreatDoor.Gt
open Go.RowKit Go.Proofs.YtjiopaojhenanaaGreatDoor.Oct
theorem below_drewN {B : Nat} {a w : World} (h : Below B a w) (n : Nat) : Below B a (w.drewN n) := ⟨h.os, h.tape, h.output, h.size, h.block⟩
namespace Rk
variable {w : World} {g : Nat} {t : TypeId} {n : Nat} {f f' : Nat -> Value}
end Rk
def Ns (w : World) (ao : Option Addr) (l : List Int) : Prop := l = [] ∨ ∃ g off, ao = some ⟨g, off, none⟩ /\ ∀ (j : Nat) z, l[j]? = some z -> w.cell? ⟨g, off + j, none⟩ = some (.int .i64 z)
theorem Ns.below {w w' : World} {ao : Option Addr} {l : List Int} (h : Ns w ao l) (hb : Below w.heap.size w w') : Ns w' ao l := by
  rcases h with h | ⟨g, off, e, h⟩
  . exact .inl h
  . exact .inr ⟨g, off, e, fun j z hj => (hb.cell (World.block_lt_of_cell? w _ (h j z hj))).trans (h j z hj)⟩
theorem Ns.take {w : World} {ao : Option Addr} {l : List Int} (h : Ns w ao l) (i : Nat) : Ns w ao (l.take i) := by
  rcases h with h | ⟨g, off, e, h⟩
  . exact .inl (by rw [h]; simp)
  . refine .inr ⟨g, off, e, fun j z hj => h j z ?_⟩
    rw [List.getElem?_take] at hj
    split at hj
    . exact hj
    . cases hj
def ixP : List Int -> Int -> Option Nat
  | [], _ => none
  | a :: r, v => if v = a then some 0 else (ixP r v).map (· + 1)
theorem ixP_none : ∀ {l : List Int} {v : Int}, ixP l v = none ↔ v ∉ l
  | [], v => by simp [ixP]
  | a :: r, v => by
    rw [ixP]
    by_cases h : v = a
    . simp [h]
    . rw [if_neg h]
      simp [ixP_none (l := r) (v := v), h]
def ixV (o : Option Nat) : Int := match o with
  | some i => (i : Int)
  | none => -1
theorem sIndex (ao : Option Addr) (c : Nat) (l : List Int) (v : Int) (hl : l.length <= 1000000000000000) (w : World) (hN : Ns w ao l) : Calls Tryz.prog 105 #[.slice ao l.length c, .int .i64 v] w fun e w' => e = .returned (.int .i64 (ixV (ixP l v))) /\ w' = w := by
  obtain ⟨R, hR⟩ : ∃ R, ixP l v = R := ⟨_, rfl⟩
  rw [hR]
  have HN := hide hN
  clear hN
  obtain ⟨n, hn⟩ : ∃ n, l.length = n := ⟨_, rfl⟩
  have HL := hide hn
  rw [hn] at hl ⊢
  have HS : Hid (R = (ixP (l.drop 0) v).map (· + 0)) := hide (by rw [List.drop_zero, hR]; cases R <;> rfl)
  clear hR hn
  go_enter Tryz.func105, Tryz.ntmps105
  go_wp2_with fail
  go_loop [5, 8] (fun _ vi => ∃ i : Nat, vi = .int .i64 (i : Int) /\ i <= n /\ Hid (R = (ixP (l.drop i) v).map (· + i))) (fun _ vi => n - (Go.RowKit.intOf vi).toNat)
  case atStart => exact ⟨0, rfl, by omega, HS⟩
  case round =>
    clear HS
    obtain ⟨i, rfl, hi, HS⟩ := hrel
    by_cases h : i < n
    . have hd : decide ((i : Int) < (n : Int)) = true := decide_eq_true (by omega)
      have hlt : i < l.length := by rw [HL.out]; exact h
      obtain ⟨z, hz⟩ : ∃ z, l[i]? = some z := ⟨_, List.getElem?_eq_getElem hlt⟩
      have hdr : l.drop i = z :: l.drop (i + 1) := by
        rw [List.drop_eq_getElem_cons hlt]
        rw [List.getElem?_eq_getElem hlt] at hz
        rw [Option.some.inj hz]
      obtain ⟨g, off, rfl, hc⟩ := HN.out.resolve_left (fun e => by rw [e] at hz; simp at hz)
      have hcell := hc i z hz
      clear hc hz
      by_cases hv : v = z
      . have hb : (v == z) = true := by simpa using hv
        have HF : Hid (R = some i) := hide (by rw [HS.out, hdr, ixP, if_pos hv]; simp)
        clear HS hdr hv
        go_wp2_with fail
        go_ret
        exact ⟨by rw [HF.out]; rfl, rfl⟩
      . have hb : (v == z) = false := by simpa using hv
        have HF : Hid (R = (ixP (l.drop (i + 1)) v).map (· + (i + 1))) := hide (by
          rw [HS.out, hdr, ixP, if_neg hv, Option.map_map]
          congr 1
          funext x
          simp
          omega)
        clear HS hdr hv
        go_wp2_with fail
        exact ⟨⟨i + 1, by go_num, by omega, HF⟩, by simp [Go.RowKit.intOf]; omega⟩
    . obtain rfl : i = n := by omega
      have HF : Hid (R = none) := hide (by rw [HS.out, List.drop_of_length_le (by rw [HL.out]; exact Nat.le_refl _)]; rfl)
      clear HS
      go_wp2_with fail
      go_ret
      exact ⟨by rw [HF.out]; rfl, rfl⟩
theorem sContains (ao : Option Addr) (c : Nat) (l : List Int) (v : Int) (hl : l.length <= 1000000000000000) (w : World) (hN : Ns w ao l) : Calls Tryz.prog 89 #[.slice ao l.length c, .int .i64 v] w fun e w' => e = .returned (.bool (decide (v ∈ l))) /\ w' = w := by
  have cI := sIndex ao c l v hl w hN
  have hr : decide (0 <= ixV (ixP l v)) = decide (v ∈ l) := by
    by_cases h : v ∈ l
    . rw [decide_eq_true h]
      cases e : ixP l v with
      | none => exact absurd h (ixP_none.1 e)
      | some i => simp [ixV]
    . rw [decide_eq_false h, ixP_none.2 h]
      rfl
  rw [← hr]
  generalize ixV (ixP l v) = r at *
  clear hr hN hl
  go_enter Tryz.func89, Tryz.ntmps89
  go_wp2_with fail
  refine cI.mono ?_
  rintro e w1 ⟨rfl, hw⟩
  obtain rfl := hw
  go_wp2_with fail
  go_ret
  exact ⟨rfl, rfl⟩
def apG (l : List Int) : Nat -> Nat -> Bool
  | 0, _ => true
  | m + 1, i => decide (0 <= l.getD i 0) && !decide (l.getD i 0 ∈ l.take i) && apG l m (i + 1)
def apP (q : Int) (l : List Int) : Bool := decide ((l.length : Int) = q) && apG l l.length 0
theorem gApart (k : Int) (ao : Option Addr) (c : Nat) (l : List Int) (hl : l.length <= 1000000000000000) (hc : l.length <= c) (w : World) (hT : Tb w) (hN : Ns w ao l) : Calls Tryz.prog 87 #[.int .i64 k, .slice ao l.length c] w fun e w' => e = .returned (.bool (apP (rw' k).q l)) /\ Below w.heap.size w w' := by
  have cA := gArity k w hT
  obtain ⟨R, hR⟩ : ∃ R, apP (rw' k).q l = R := ⟨_, rfl⟩
  rw [hR]
  unfold apP at hR
  generalize (rw' k).q = q at *
  have HN := hide hN
  have HR := hide hR
  obtain ⟨n, hn⟩ : ∃ n, l.length = n := ⟨_, rfl⟩
  have HL := hide hn
  rw [hn] at hl hc ⊢
  clear hN hR hn
  by_cases hq : (n : Int) = q
  . have hne : ((n : Int) != q) = false := by simp [hq]
    have HS : Hid (R = apG l (n - 0) 0) := hide (by rw [← HR.out, HL.out, decide_eq_true hq]; rfl)
    clear HR hq
    go_enter Tryz.func87, Tryz.ntmps87
    go_wp2_with fail
    refine cA.mono ?_
    rintro e w1 ⟨rfl, q1⟩
    clear cA
    go_wp2_with fail
    go_loopw [5, 6, 14] (fun _ _ vi wr => ∃ i : Nat, vi = .int .i64 (i : Int) /\ i <= n /\ Hid (R = apG l (n - i) i) /\ Below w.heap.size w wr) (fun _ _ vi _ => n - (Go.RowKit.intOf vi).toNat)
    case atStart => exact ⟨0, rfl, by omega, HS, q1⟩
    case round =>
      clear HS
      obtain ⟨i, rfl, hi, HS, hb⟩ := hrel
      by_cases h : i < n
      . have hd : decide ((i : Int) < (n : Int)) = true := decide_eq_true (by omega)
        have hlt : i < l.length := by rw [HL.out]; exact h
        obtain ⟨z, hz⟩ : ∃ z, l[i]? = some z := ⟨_, List.getElem?_eq_getElem hlt⟩
        have hgd : l.getD i 0 = z := by rw [List.getD_eq_getElem?_getD, hz]; rfl
        have hNr := HN.out.below hb
        have hT' := hNr.take i
        have hlen : (l.take i).length = i := by rw [List.length_take]; omega
        obtain ⟨g, off, rfl, hcs⟩ := hNr.resolve_left (fun e => by rw [e] at hz; simp at hz)
        have hcell := hcs i z hz
        have cC := sContains (some ⟨g, off, none⟩) c (l.take i) z (by omega) wr hT'
        rw [hlen] at cC
        have HS2 : Hid (R = (decide (0 <= z) && !decide (z ∈ l.take i) && apG l (n - (i + 1)) (i + 1))) := hide (by
          rw [HS.out, show n - i = (n - (i + 1)) + 1 by omega, apG, hgd])
        clear hcs hz hT' hNr HS hgd hlen
        generalize decide (z ∈ l.take i) = mem at *
        by_cases hz0 : z < 0
        . have hzd : decide (z < 0) = true := decide_eq_true hz0
          have HF : Hid (R = false) := hide (by rw [HS2.out, decide_eq_false (by omega)]; rfl)
          clear HS2
          go_wp2_with fail
          go_ret
          exact ⟨by rw [HF.out]; rfl, hb⟩
        . have hzd : decide (z < 0) = false := decide_eq_false hz0
          have HS3 : Hid (R = (!mem && apG l (n - (i + 1)) (i + 1))) := hide (by rw [HS2.out, decide_eq_true (by omega)]; rfl)
          clear HS2
          cases mem
          . have HF : Hid (R = apG l (n - (i + 1)) (i + 1)) := hide (by rw [HS3.out]; rfl)
            clear HS3
            go_wp2_with fail
            refine cC.mono ?_
            rintro e w2 ⟨rfl, hw⟩
            obtain rfl := hw
            go_wp2_with fail
            exact ⟨⟨i + 1, by go_num, by omega, HF, hb⟩, by simp [Go.RowKit.intOf]; omega⟩
          . have HF : Hid (R = false) := hide (by rw [HS3.out]; rfl)
            clear HS3
            go_wp2_with fail
            refine cC.mono ?_
            rintro e w2 ⟨rfl, hw⟩
            obtain rfl := hw
            go_wp2_with fail
            go_ret
            exact ⟨by rw [HF.out]; rfl, hb⟩
      . obtain rfl : i = n := by omega
        have HF : Hid (R = true) := hide (by rw [HS.out, Nat.sub_self]; rfl)
        clear HS
        go_wp2_with fail
        go_ret
        exact ⟨by rw [HF.out]; rfl, hb⟩
  . have hne : ((n : Int) != q) = true := by simpa using hq
    have HF : Hid (R = false) := hide (by rw [← HR.out, HL.out, decide_eq_false hq]; rfl)
    clear HR hq
    go_enter Tryz.func87, Tryz.ntmps87
    go_wp2_with fail
    refine cA.mono ?_
    rintro e w1 ⟨rfl, q1⟩
    clear cA
    go_wp2_with fail
    go_ret
    exact ⟨by rw [HF.out]; rfl, q1⟩
def mxG (l : List Int) : Nat -> Int
  | 0 => l.getD 0 0
  | m + 1 => if mxG l m < l.getD (m + 1) 0 then l.getD (m + 1) 0 else mxG l m
theorem sMax (ao : Option Addr) (c : Nat) (l : List Int) (hl : l.length <= 1000000000000000) (h0 : 0 < l.length) (w : World) (hN : Ns w ao l) : Calls Tryz.prog 88 #[.slice ao l.length c] w fun e w' => e = .returned (.int .i64 (mxG l (l.length - 1))) /\ w' = w := by
  have HN := hide hN
  clear hN
  obtain ⟨n, hn⟩ : ∃ n, l.length = n := ⟨_, rfl⟩
  have HL := hide hn
  rw [hn] at hl h0 ⊢
  have hne : l ≠ [] := fun e => by rw [e] at hn; simp at hn; omega
  obtain ⟨g, off, rfl, hc⟩ := HN.out.resolve_left hne
  have hlt1 : ¬ (n : Int) < 1 := by omega
  have hc0 : w.cell? ⟨g, off, none⟩ = some (.int .i64 (mxG l 0)) := by
    have := hc 0 (l.getD 0 0) (by rw [List.getD_eq_getElem?_getD, List.getElem?_eq_getElem (by omega)]; rfl)
    rw [Nat.add_zero] at this
    exact this
  have HC := hide hc
  clear hc hn hne
  go_enter Tryz.func88, Tryz.ntmps88
  go_wp2_with fail
  go_loop [3, 4] (fun vm vi => ∃ i : Nat, vm = .int .i64 (mxG l i) /\ vi = .int .i64 ((i : Int) + 1) /\ i < n) (fun _ vi => n - (Go.RowKit.intOf vi).toNat)
  case atStart => exact ⟨0, rfl, rfl, h0⟩
  case round =>
    obtain ⟨i, rfl, rfl, hi⟩ := hrel
    by_cases h : i + 1 < n
    . have hd : decide ((i : Int) + 1 < (n : Int)) = true := decide_eq_true (by omega)
      have hcell : w.cell? ⟨g, off + (i + 1), none⟩ = some (.int .i64 (l.getD (i + 1) 0)) := HC.out (i + 1) _ (by rw [List.getD_eq_getElem?_getD, List.getElem?_eq_getElem (by rw [HL.out]; exact h)]; rfl)
      have hmx : Hid (mxG l (i + 1) = if mxG l i < l.getD (i + 1) 0 then l.getD (i + 1) 0 else mxG l i) := hide rfl
      generalize l.getD (i + 1) 0 = z at *
      generalize mxG l i = m at *
      clear hc0
      go_wp2_with fail
      exact ⟨⟨i + 1, by rw [hmx.out], by go_num, by omega⟩, by simp [Go.RowKit.intOf]; omega⟩
    . obtain rfl : n = i + 1 := by omega
      go_wp2_with fail
      go_ret
      exact ⟨rfl, rfl⟩
theorem mxG_ge (l : List Int) (n : Int) : ∀ m, n <= mxG l m ↔ ∃ j, j <= m /\ n <= l.getD j 0
  | 0 => by
    rw [mxG]
    exact ⟨fun h => ⟨0, by omega, h⟩, fun ⟨j, hj, h⟩ => by obtain rfl : j = 0 := by omega
                                                           exact h⟩
  | m + 1 => by
    have ih := mxG_ge l n m
    rw [mxG]
    constructor
    . intro h
      by_cases c : n <= l.getD (m + 1) 0
      . exact ⟨m + 1, by omega, c⟩
      . obtain ⟨j, hj, h'⟩ := ih.1 (by split at h <;> omega)
        exact ⟨j, by omega, h'⟩
    . rintro ⟨j, hj, h⟩
      by_cases e : j = m + 1
      . rw [e] at h; split <;> omega
      . have := ih.2 ⟨j, by omega, h⟩
        split <;> omega
def chkP (k : Int) (l : List Int) (n : Int) : Int := if !knB (rw' k) then 60 else if !apP (rw' k).q l then 61 else if n <= mxG l (l.length - 1) then 61 else 0
theorem gCheck (k : Int) (ao : Option Addr) (c : Nat) (l : List Int) (n : Int) (hl : l.length <= 1000000000000000) (hc : l.length <= c) (w : World) (hT : Tb w) (hN : Ns w ao l) : Calls Tryz.prog 58 #[.int .i64 k, .slice ao l.length c, .int .i64 n] w fun e w' => e = .returned (.int .i64 (chkP k l n)) /\ Below w.heap.size w w' := by
  have cK := gKnown k w hT
  have cA := fun w hT hN => gApart k ao c l hl hc w hT hN
  have cM := fun h0 w hN => sMax ao c l hl h0 w hN
  unfold chkP
  rw [show decide (0 < (rw' k).q) = knB (rw' k) from rfl] at cK
  have hkq : knB (rw' k) = true -> apP (rw' k).q l = true -> 0 < l.length := by
    intro h1 h2
    unfold knB at h1
    unfold apP at h2
    rw [Bool.and_eq_true] at h2
    have a := of_decide_eq_true h1
    have b := of_decide_eq_true h2.1
    omega
  generalize knB (rw' k) = kn at *
  generalize apP (rw' k).q l = ap at *
  generalize mxG l (l.length - 1) = mx at *
  cases kn
  . clear cA cM hkq
    go_enter Tryz.func58, Tryz.ntmps58
    go_wp2_with fail
    refine cK.mono ?_
    rintro e w1 ⟨rfl, q1⟩
    go_wp2_with fail
    go_ret
    exact ⟨rfl, q1⟩
  . cases ap
    . clear cM hkq
      go_enter Tryz.func58, Tryz.ntmps58
      go_wp2_with fail
      refine cK.mono ?_
      rintro e w1 ⟨rfl, q1⟩
      go_wp2_with fail
      refine (cA _ (hT.below q1) (hN.below q1)).mono ?_
      rintro e w2 ⟨rfl, q2⟩
      go_wp2_with fail
      go_ret
      exact ⟨rfl, q1.trans (q2.mono q1.size)⟩
    . have h0 := hkq rfl rfl
      have cM2 := fun w hN => cM h0 w hN
      clear hkq cM
      by_cases hm : n <= mx
      . have hd : decide (n <= mx) = true := decide_eq_true hm
        go_enter Tryz.func58, Tryz.ntmps58
        go_wp2_with fail
        refine cK.mono ?_
        rintro e w1 ⟨rfl, q1⟩
        go_wp2_with fail
        refine (cA _ (hT.below q1) (hN.below q1)).mono ?_
        rintro e w2 ⟨rfl, q2⟩
        have q12 := q1.trans (q2.mono q1.size)
        go_wp2_with fail
        refine (cM2 _ (hN.below q12)).mono ?_
        rintro e w3 ⟨rfl, rfl⟩
        go_wp2_with fail
        go_ret
        exact ⟨by simp, q12⟩
      . have hd : decide (n <= mx) = false := decide_eq_false hm
        go_enter Tryz.func58, Tryz.ntmps58
        go_wp2_with fail
        refine cK.mono ?_
        rintro e w1 ⟨rfl, q1⟩
        go_wp2_with fail
        refine (cA _ (hT.below q1) (hN.below q1)).mono ?_
        rintro e w2 ⟨rfl, q2⟩
        have q12 := q1.trans (q2.mono q1.size)
        go_wp2_with fail
        refine (cM2 _ (hN.below q12)).mono ?_
        rintro e w3 ⟨rfl, rfl⟩
        go_wp2_with fail
        go_ret
        exact ⟨by simp, q12⟩
theorem infoI : (Tryz.prog.info? 3).map (fun i => (i.zero, i.size, i.bytes)) = some (some (.int .i64 0), 1, 8) := by kernel_rfl
end Go.Proofs.YtjiopaojhenanaaGreatDoor.Gt
