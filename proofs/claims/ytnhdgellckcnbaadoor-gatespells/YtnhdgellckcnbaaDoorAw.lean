/- Package gate: Commute. -/
import Derived.Test.YtnhdgellckcnbaaDoorAv
import Derived.Test.YtnhdgellckcnbaaDoorAr2
import Derived.Test.YtnhdgellckcnbaaDoorAr4
import Derived.Test.YtnhdgellckcnbaaDoorAr8
namespace Go.Proofs.YtnhdgellckcnbaaDoor.Gt
open Go.RowKit Go.Proofs.YtnhdgellckcnbaaDoor.Oct Go.Proofs.YtnhdgellckcnbaaDoor.Dy

theorem stepOK_of (k ba bm gat gm S s : Nat) (l : List Nat) (hk1 : 1 ≤ k) (hk : k ≤ 20) (hs : s ≤ 5) (hS : S = 2 ^ s) (hl : (l.length : Int) = (rw' (k : Int)).q) (hq : ∀ i, i < l.length → l.getD i 0 < s) (w : World)
    (hat : w.cell? ⟨ba, 0, none⟩ = some (.slice (some ⟨gat, 0, none⟩) l.length l.length)) (hN : Nr w gat l) (hM : Mt w bm (rowsN k) (rowsN k * rowsN k) (mz k) (-1) gm (mbs k)) : StepOK w ba bm k (rowsN k) l S := by
  have hqr := q_rows ⟨k, by omega⟩ hk1
  intro W hW gv cv B V pv e he1 he2 hB hV vV lV
  have hat' := (hW.cell (World.block_lt_of_cell? w _ hat)).trans hat
  rcases rowsN_is k with hr | hr | hr
  · have h1 : l.length = 1 := by have := hqr.1 hr; dsimp only at this; omega
    rw [hr] at hM ⊢
    rw [h1] at hat'
    exact gStep_2 k ba bm gat 1 gm gv cv S s B l V pv e he1 he2 hs hS hB h1 (fun i hi => hq i (by omega)) W hat' (hN.below hW) (hM.below hW) hV vV lV
  · have h1 : l.length = 2 := by have := hqr.2.1 hr; dsimp only at this; omega
    rw [hr] at hM ⊢
    rw [h1] at hat'
    exact gStep_4 k ba bm gat 2 gm gv cv S s B l V pv e he1 he2 hs hS hB h1 (fun i hi => hq i (by omega)) W hat' (hN.below hW) (hM.below hW) hV vV lV
  · have h1 : l.length = 3 := by have := hqr.2.2 hr; dsimp only at this; omega
    rw [hr] at hM ⊢
    rw [h1] at hat'
    exact gStep_8 k ba bm gat 3 gm gv cv S s B l V pv e he1 he2 hs hS hB h1 (fun i hi => hq i (by omega)) W hat' (hN.below hW) (hM.below hW) hV vV lV
theorem pow_cast (x : Nat) (h : x < 6) : wrap64 ((2 : Int) ^ x) = ((2 ^ x : Nat) : Int) := by
  have : ∀ z : Fin 6, wrap64 ((2 : Int) ^ z.1) = ((2 ^ z.1 : Nat) : Int) := by decide +kernel
  exact this ⟨x, h⟩
/-- All qubits that either gate has. -/
def allP (la lb : List Int) : List Int := la ++ lb.filter fun q => !decide (q ∈ la)
/-- What Commute answers. -/
def comP (a : Int) (la : List Int) (b : Int) (lb : List Int) : Bool × Int :=
  if !knB (rw' a) || !knB (rw' b) then (false, 60)
  else if !apP (rw' a).q la || !apP (rw' b).q lb then (false, 61)
  else if (allP la lb).length = la.length + lb.length then (true, 0)
  else (alkG (2 ^ (allP la lb).length) a.toNat (rowsN a.toNat) (posP (allP la lb) la) b.toNat (rowsN b.toNat) (posP (allP la lb) lb) (2 ^ (allP la lb).length) 0, 0)
theorem kn_range {k : Int} (h : knB (rw' k) = true) : 1 ≤ k ∧ k ≤ 20 := by
  unfold knB rw' at h
  by_cases c : 0 ≤ k ∧ k < 21
  · by_cases e : k = 0
    · subst e; exact absurd h (by decide)
    · omega
  · rw [if_neg c] at h; exact absurd h (by decide)
theorem q_le (k : Nat) (h : k ≤ 20) : (rw' (k : Int)).q ≤ 3 := by
  have := (by decide +kernel : ∀ n : Fin 21, (rw' (n.1 : Int)).q ≤ 3) ⟨k, by omega⟩
  exact this
theorem pos_lt {la lq : List Int} (h0 : 0 < la.length) (i : Nat) : (posP la lq).getD i 0 < la.length := by
  unfold posP
  rw [List.getD_eq_getElem?_getD, List.getElem?_map]
  cases hq : lq[i]? with
  | none => simpa using h0
  | some q =>
    cases hx : ixP la q with
    | none => simpa [hx] using h0
    | some p => simpa [hx] using ixP_lt hx
theorem ns_own {w : World} {B g c : Nat} {l : List Int} {n m : Nat} (h : w.ownsRow B 3 1 (.slice (some ⟨g, 0, none⟩) m c) n (l.map (Value.int .i64))) : Ns w (some ⟨g, 0, none⟩) l := by
  refine .inr ⟨g, 0, rfl, fun j z hj => ?_⟩
  have hc := h.cells (g := g) (by rw [ob_eq]; rfl) j (.int .i64 z) (by rw [List.getElem?_map, hj]; rfl)
  rw [Addr.add_lit] at hc
  exact hc
set_option maxRecDepth 100000 in
set_option maxHeartbeats 4000000 in
theorem gCommute (a : Int) (la : List Int) (b : Int) (lb : List Int) (ao ao' : Option Addr) (c c' : Nat) (hla : la.length ≤ 1000000000000000) (hlb : lb.length ≤ 1000000000000000) (hc : la.length ≤ c) (hc' : lb.length ≤ c') (w : World) (hT : Tb w) (hD : Td w) (hA : Ns w ao la) (hB : Ns w ao' lb) :
    Calls Tryd.prog 17 #[.int .i64 a, .slice ao la.length c, .int .i64 b, .slice ao' lb.length c'] w fun e w' => e = .returned (.tuple #[.bool (comP a la b lb).1, .int .i64 (comP a la b lb).2]) ∧ Below w.heap.size w w' := by
  have cKa := fun w hT => gKnown a w hT
  have cKb := fun w hT => gKnown b w hT
  have cAa := fun w hT hN => gApart a ao c la (by omega) hc w hT hN
  have cAb := fun w hT hN => gApart b ao' c' lb (by omega) hc' w hT hN
  rw [show decide (0 < (rw' a).q) = knB (rw' a) from rfl] at cKa
  rw [show decide (0 < (rw' b).q) = knB (rw' b) from rfl] at cKb
  obtain ⟨R, hR⟩ : ∃ R, comP a la b lb = R := ⟨_, rfl⟩
  rw [hR]
  unfold comP at hR
  have HR := hide hR
  clear hR
  cases ka : knB (rw' a)
  · rw [ka] at cKa HR
    have HF : Hid (R = (false, 60)) := hide HR.out.symm
    clear HR cAa cAb cKb
    go_enter Tryd.func17, Tryd.ntmps17
    go_wp2_with fail
    refine (cKa _ hT).mono ?_
    rintro e w1 ⟨rfl, q1⟩
    go_wp2_with fail
    go_ret2
    exact ⟨by rw [HF.out]; rfl, q1⟩
  cases kb : knB (rw' b)
  · rw [ka] at cKa HR
    rw [kb] at cKb HR
    have HF : Hid (R = (false, 60)) := hide HR.out.symm
    clear HR cAa cAb
    go_enter Tryd.func17, Tryd.ntmps17
    go_wp2_with fail
    refine (cKa _ hT).mono ?_
    rintro e w1 ⟨rfl, q1⟩
    go_wp2_with fail
    refine (cKb _ (hT.below q1)).mono ?_
    rintro e w2 ⟨rfl, q2⟩
    replace q2 := q1.trans (q2.mono q1.size)
    go_wp2_with fail
    go_ret2
    exact ⟨by rw [HF.out]; rfl, q2⟩
  rw [ka] at cKa HR
  rw [kb] at cKb HR
  cases pa : apP (rw' a).q la
  · rw [pa] at cAa HR
    have HF : Hid (R = (false, 61)) := hide HR.out.symm
    clear HR cAb
    go_enter Tryd.func17, Tryd.ntmps17
    go_wp2_with fail
    refine (cKa _ hT).mono ?_
    rintro e w1 ⟨rfl, q1⟩
    go_wp2_with fail
    refine (cKb _ (hT.below q1)).mono ?_
    rintro e w2 ⟨rfl, q2⟩
    replace q2 := q1.trans (q2.mono q1.size)
    go_wp2_with fail
    refine (cAa _ (hT.below q2) (hA.below q2)).mono ?_
    rintro e w3 ⟨rfl, q3⟩
    replace q3 := q2.trans (q3.mono q2.size)
    go_wp2_with fail
    go_ret2
    exact ⟨by rw [HF.out]; rfl, q3⟩
  cases pb : apP (rw' b).q lb
  · rw [pa] at cAa HR
    rw [pb] at cAb HR
    have HF : Hid (R = (false, 61)) := hide HR.out.symm
    clear HR
    go_enter Tryd.func17, Tryd.ntmps17
    go_wp2_with fail
    refine (cKa _ hT).mono ?_
    rintro e w1 ⟨rfl, q1⟩
    go_wp2_with fail
    refine (cKb _ (hT.below q1)).mono ?_
    rintro e w2 ⟨rfl, q2⟩
    replace q2 := q1.trans (q2.mono q1.size)
    go_wp2_with fail
    refine (cAa _ (hT.below q2) (hA.below q2)).mono ?_
    rintro e w3 ⟨rfl, q3⟩
    replace q3 := q2.trans (q3.mono q2.size)
    go_wp2_with fail
    refine (cAb _ (hT.below q3) (hB.below q3)).mono ?_
    rintro e w4 ⟨rfl, q4⟩
    replace q4 := q3.trans (q4.mono q3.size)
    go_wp2_with fail
    go_ret2
    exact ⟨by rw [HF.out]; rfl, q4⟩
  rw [pa] at cAa HR
  rw [pb] at cAb HR
  obtain ⟨na, rfl⟩ : ∃ n : Nat, a = (n : Int) := ⟨a.toNat, by have := (kn_range ka).1; omega⟩
  obtain ⟨nb, rfl⟩ : ∃ n : Nat, b = (n : Int) := ⟨b.toNat, by have := (kn_range kb).1; omega⟩
  have ra := kn_range ka
  have rb := kn_range kb
  have hqa : (la.length : Int) = (rw' (na : Int)).q := by unfold apP at pa; rw [Bool.and_eq_true] at pa; exact of_decide_eq_true pa.1
  have hqb : (lb.length : Int) = (rw' (nb : Int)).q := by unfold apP at pb; rw [Bool.and_eq_true] at pb; exact of_decide_eq_true pb.1
  have ha3 := q_le na (by omega)
  have hb3 := q_le nb (by omega)
  have ha0 : 0 < la.length := by unfold knB at ka; have := of_decide_eq_true ka; omega
  have hb0 : 0 < lb.length := by unfold knB at kb; have := of_decide_eq_true kb; omega
  have HR2 : Hid (R = if (allP la lb).length = la.length + lb.length then (true, 0) else (alkG (2 ^ (allP la lb).length) na (rowsN na) (posP (allP la lb) la) nb (rowsN nb) (posP (allP la lb) lb) (2 ^ (allP la lb).length) 0, 0)) := hide HR.out.symm
  replace hla : la.length ≤ 1000000 := by omega
  replace hlb : lb.length ≤ 1000000 := by omega
  have HQA := hide hqa
  have HQB := hide hqb
  have cC := fun w hN => sClone ao c la hla ha0 w hN
  have cN := fun v w hN => sContains ao c la v (by omega) w hN
  have HA := hide hA
  have HB := hide hB
  clear HR ka kb pa pb hqa hqb hA hB
  go_enter Tryd.func17, Tryd.ntmps17
  go_wp2_with fail
  refine (cKa _ hT).mono ?_
  rintro e w1 ⟨rfl, q1⟩
  go_wp2_with fail
  refine (cKb _ (hT.below q1)).mono ?_
  rintro e w2 ⟨rfl, q2⟩
  replace q2 := q1.trans (q2.mono q1.size)
  go_wp2_with fail
  refine (cAa _ (hT.below q2) (HA.out.below q2)).mono ?_
  rintro e w3 ⟨rfl, q3⟩
  replace q3 := q2.trans (q3.mono q2.size)
  go_wp2_with fail
  refine (cAb _ (hT.below q3) (HB.out.below q3)).mono ?_
  rintro e w4 ⟨rfl, q4⟩
  replace q4 := q3.trans (q4.mono q3.size)
  clear q1 q2 q3 cKa cKb cAa cAb
  go_wp2_with fail
  refine (cC _ (HA.out.below q4)).mono ?_
  rintro e w5 ⟨g0, c0, rfl, hown, q5⟩
  have hw4 := q4.size
  replace q5 := q4.trans (q5.mono q4.size)
  clear q4 cC
  obtain ⟨Lb, hLb⟩ : ∃ n, lb.length = n := ⟨_, rfl⟩
  have HLB := hide hLb
  have HALL : Hid (∀ i, la ++ (lb.take i).filter (fun q => !decide (q ∈ la)) = la ++ (lb.take i).filter (fun q => !decide (q ∈ la))) := hide (fun _ => rfl)
  clear HALL
  rw [hLb] at hlb hb0 hc' ⊢
  clear hLb
  go_wp2_with fail
  go_loopw [10, 12, 35] (fun vl _ vi wr => ∃ (i g cc : Nat) (lx : List Int), vl = .slice (some ⟨g, 0, none⟩) lx.length cc ∧ vi = .int .i64 (i : Int) ∧ i ≤ Lb ∧ Hid (lx = la ++ (lb.take i).filter fun q => !decide (q ∈ la)) ∧ lx.length ≤ la.length + i ∧ wr.ownsRow w4.heap.size 3 1 (.slice (some ⟨g, 0, none⟩) lx.length cc) lx.length (lx.map (Value.int .i64)) ∧ Below w.heap.size w wr) (fun _ _ vi _ => Lb - (Go.RowKit.intOf vi).toNat)
  case atStart => exact ⟨0, g0, c0, la, rfl, rfl, by omega, hide (by simp), by omega, hown, q5⟩
  case round =>
    clear hown q5
    obtain ⟨i, g, cc, lx, rfl, rfl, hi, HX, hxl, hown, hb⟩ := hrel
    by_cases h : i < Lb
    · have hd : decide ((i : Int) < (Lb : Int)) = true := decide_eq_true (by omega)
      have hlt : i < lb.length := by rw [HLB.out]; exact h
      obtain ⟨z, hz⟩ : ∃ z, lb[i]? = some z := ⟨_, List.getElem?_eq_getElem hlt⟩
      obtain ⟨g', off, rfl, hcs⟩ := (HB.out.below hb).resolve_left (fun e => by rw [e] at hz; simp at hz)
      have hcell := hcs i z hz
      have cN1 := cN z wr (HA.out.below hb)
      have htk : lb.take (i + 1) = lb.take i ++ [z] := by rw [List.take_add_one, hz]; rfl
      have HX2 : Hid (∀ p, decide (z ∈ la) = p → la ++ (lb.take (i + 1)).filter (fun q => !decide (q ∈ la)) = if p then lx else lx ++ [z]) := hide (fun p hp => by
        rw [htk, List.filter_append, HX.out]
        cases p
        · simp [hp]
        · simp [hp])
      obtain ⟨p, hp⟩ : ∃ p, decide (z ∈ la) = p := ⟨_, rfl⟩
      rw [hp] at cN1
      have HX3 := hide (HX2.out p hp)
      clear HX HX2 hp htk hcs hz cN
      cases p
      · have HX4 : Hid (lx ++ [z] = la ++ (lb.take (i + 1)).filter (fun q => !decide (q ∈ la))) := hide HX3.out.symm
        clear HX3
        have hmap : Hid ((lx ++ [z]).map (Value.int .i64) = lx.map (Value.int .i64) ++ [.int .i64 z]) := hide (by simp)
        have hlen : Hid ((lx ++ [z]).length = lx.length + 1) := hide (by simp)
        go_wp2_with fail
        refine cN1.mono ?_
        rintro e w6 ⟨rfl, hw6⟩
        obtain rfl := hw6
        clear cN1
        have hs := Nat.le_trans hw4 (Nat.le_refl _)
        have hs4 : w4.heap.size ≤ w6.heap.size := by
          have := (hown.lt g (by rw [ob_eq]; rfl))
          omega
        generalize lx.map (Value.int .i64) = XS at *
        generalize lx.length = xl at *
        go_wp2_with (at_builtin; refine wpList_pushV rfl _ _ 42 rfl 3 Tryd.underlying42 _ 8 infoI rfl w4.heap.size (some ⟨g, 0, none⟩) xl cc XS rfl hown (.int .i64 z) rfl rfl (by omega) (by omega) hs4 ?_)
        intro g2 c2 w7 hown2 hgrow hat
        have hb7 : Below w.heap.size w w7 := hb.grown hgrow hb.size (fun q hq => by have := (hown.lt q (by rw [ob_eq]; exact hq)).1; omega)
        clear hown hgrow hat
        go_wp2_with fail
        exact ⟨⟨i + 1, g2, c2, lx ++ [z], by rw [hlen.out], by go_num, by omega, HX4, by rw [hlen.out]; omega, by rw [hlen.out, hmap.out]; exact hown2, hb7⟩, by simp [Go.RowKit.intOf]; omega⟩
      · have HX4 : Hid (lx = la ++ (lb.take (i + 1)).filter (fun q => !decide (q ∈ la))) := hide HX3.out.symm
        clear HX3
        go_wp2_with fail
        refine cN1.mono ?_
        rintro e w6 ⟨rfl, hw6⟩
        obtain rfl := hw6
        clear cN1
        go_wp2_with fail
        exact ⟨⟨i + 1, g, cc, lx, rfl, by go_num, by omega, HX4, by omega, hown, hb⟩, by simp [Go.RowKit.intOf]; omega⟩
    · obtain rfl : Lb = i := by omega
      have HX2 : Hid (lx = allP la lb) := hide (by rw [HX.out, ← HLB.out, List.take_length]; rfl)
      clear HX
      have hall : la.length ≤ lx.length := by rw [HX2.out]; unfold allP; rw [List.length_append]; omega
      have ha3' : la.length ≤ 3 := by have := HQA.out; omega
      have hb3' : Lb ≤ 3 := by have := HQB.out; have := HLB.out; omega
      by_cases heq : lx.length = la.length + Lb
      · have hbq : ((lx.length : Int) == (la.length : Int) + (Lb : Int)) = true := by simp; omega
        have HF : Hid (R = (true, 0)) := hide (by rw [HR2.out, ← HX2.out, HLB.out, if_pos heq])
        clear HR2 HX2 heq
        go_wp2_with fail
        go_ret2
        exact ⟨by rw [HF.out]; rfl, hb⟩
      · have hbq : ((lx.length : Int) == (la.length : Int) + (Lb : Int)) = false := by simp; omega
        have HF : Hid (R = (alkG (2 ^ lx.length) na (rowsN na) (posP lx la) nb (rowsN nb) (posP lx lb) (2 ^ lx.length) 0, 0)) := hide (by rw [HR2.out, ← HX2.out, HLB.out, if_neg heq])
        have hx5 : lx.length ≤ 5 := by omega
        have hx0 : 0 < lx.length := by omega
        have hNx := ns_own hown
        have ina : ∀ q ∈ la, q ∈ lx := fun q hq => by rw [HX2.out]; unfold allP; simp [hq]
        have inb : ∀ q ∈ lb, q ∈ lx := fun q hq => by
          rw [HX2.out]
          unfold allP
          by_cases c : q ∈ la
          · simp [c]
          · simp [c, hq]
        have cPa : ∀ W, Below wr.heap.size wr W → Calls Tryd.prog 53 #[.int .i64 (na : Int), .slice ao la.length c, .slice (some ⟨g, 0, none⟩) lx.length cc] W (PPost na lx la W) := fun W hW => by
          have hbW := hb.trans (hW.mono hb.size)
          exact gPlaced na (by omega) (by omega) ao (some ⟨g, 0, none⟩) c cc la lx (by omega) (by omega) ina W (hT.below hbW) (hD.below hbW) (HA.out.below hbW) (hNx.below hW)
        have cPb : ∀ W, Below wr.heap.size wr W → Calls Tryd.prog 53 #[.int .i64 (nb : Int), .slice ao' Lb c', .slice (some ⟨g, 0, none⟩) lx.length cc] W (PPost nb lx lb W) := fun W hW => by
          have hbW := hb.trans (hW.mono hb.size)
          have := gPlaced nb (by omega) (by omega) ao' (some ⟨g, 0, none⟩) c' cc lb lx (by rw [HLB.out]; omega) (by omega) inb W (hT.below hbW) (hD.below hbW) (HB.out.below hbW) (hNx.below hW)
          rw [HLB.out] at this
          exact this
        have sA : ∀ (W : World) (ba bm gat gm : Nat), W.cell? ⟨ba, 0, none⟩ = some (.slice (some ⟨gat, 0, none⟩) la.length la.length) → Nr W gat (posP lx la) → Mt W bm (rowsN na) (rowsN na * rowsN na) (mz na) (-1) gm (mbs na) → StepOK W ba bm na (rowsN na) (posP lx la) (2 ^ lx.length) := fun W ba bm gat gm k1 k2 k3 => by
          have hpl : (posP lx la).length = la.length := by unfold posP; simp
          refine stepOK_of na ba bm gat gm _ lx.length (posP lx la) (by omega) (by omega) hx5 rfl (by rw [hpl]; exact HQA.out) (fun i _ => pos_lt hx0 i) W (by rw [hpl]; exact k1) k2 k3
        have sB : ∀ (W : World) (ba bm gat gm : Nat), W.cell? ⟨ba, 0, none⟩ = some (.slice (some ⟨gat, 0, none⟩) lb.length lb.length) → Nr W gat (posP lx lb) → Mt W bm (rowsN nb) (rowsN nb * rowsN nb) (mz nb) (-1) gm (mbs nb) → StepOK W ba bm nb (rowsN nb) (posP lx lb) (2 ^ lx.length) := fun W ba bm gat gm k1 k2 k3 => by
          have hpl : (posP lx lb).length = lb.length := by unfold posP; simp
          refine stepOK_of nb ba bm gat gm _ lx.length (posP lx lb) (by omega) (by omega) hx5 rfl (by rw [hpl]; exact HQB.out) (fun i _ => pos_lt hx0 i) W (by rw [hpl]; exact k1) k2 k3
        have h32 : 2 ^ lx.length ≤ 32 := (Nat.pow_le_pow_right (by decide) hx5 : 2 ^ lx.length ≤ 2 ^ 5)
        have n8a : rowsN na ≤ 8 := by rcases rowsN_is na with e | e | e <;> omega
        have n8b : rowsN nb ≤ 8 := by rcases rowsN_is nb with e | e | e <;> omega
        have hp1 : wrap64 ((2 : Int) ^ lx.length) = ((2 ^ lx.length : Nat) : Int) := pow_cast _ (by omega)
        have hp2 : IntKind.i64.wrap ((2 : Int) ^ lx.length) = ((2 ^ lx.length : Nat) : Int) := (IntWalk.i64_left _).trans hp1
        have cL : ∀ (W : World) (ba bm ba' bm' : Nat), StepOK W ba bm na (rowsN na) (posP lx la) (2 ^ lx.length) → StepOK W ba' bm' nb (rowsN nb) (posP lx lb) (2 ^ lx.length) → Calls Tryd.prog 52 #[.func (.func 72) #[] #[.pointer (some ⟨ba, 0, none⟩), .pointer (some ⟨bm, 0, none⟩)], .func (.func 72) #[] #[.pointer (some ⟨ba', 0, none⟩), .pointer (some ⟨bm', 0, none⟩)], .int .i64 ((2 ^ lx.length : Nat) : Int)] W fun e w' => e = .returned (.bool R.1) ∧ Below W.heap.size W w' := fun W ba bm ba' bm' h1 h2 => by
          rw [HF.out]
          exact gAlike ba bm na (rowsN na) ba' bm' nb (rowsN nb) (posP lx la) (posP lx lb) _ h32 n8a n8b W h1 h2
        have HE : Hid (R.2 = 0) := hide (by rw [HF.out])
        unfold PPost at cPa cPb
        clear HF HR2 HX2 HQA HQB heq hown hNx ina inb h32 n8a n8b HA HB cN hT hD
        generalize hxl' : lx.length = xl at *
        generalize hP : (2 ^ xl : Nat) = PW at *
        go_wp2_with fail
        have hbD : Below wr.heap.size wr wr.drew := (Below.refl _ _).drew
        go_region_with (first
          | (go_at_call_of 53 na; refine (cPa _ hbD).mono ?_; rintro e' w5 ⟨ba, bm, gat, gm, rfl, k1, k2, k3, q5⟩; have hb5 := hbD.trans (q5.mono hbD.size); have sA5 := sA _ _ _ _ _ k1 k2 k3)
          | (go_at_call_of 53 nb; refine (cPb _ hb5).mono ?_; rintro e' w6 ⟨ba', bm', gat', gm', rfl, k4, k5, k6, q6⟩; have hb6 := hb5.trans (q6.mono hb5.size); have sB6 := sB _ _ _ _ _ k4 k5 k6; have sA6 := sA5.below q6)
          | (go_at_call 52; refine (cL _ _ _ _ _ sA6 sB6).mono ?_; rintro e' w7 ⟨rfl, q7⟩; have hb7 := hb6.trans (q7.mono hb6.size)))
        all_goals
          have hbE := hb.trans (hb7.mono hb.size)
          clear sA5 sA6 sB6 hb5 hb6 hb7 k1 k2 k3 k4 k5 k6
          go_wp2_with fail
          go_ret2
          exact ⟨by rw [HE.out]; rfl, hbE⟩
end Go.Proofs.YtnhdgellckcnbaaDoor.Gt
