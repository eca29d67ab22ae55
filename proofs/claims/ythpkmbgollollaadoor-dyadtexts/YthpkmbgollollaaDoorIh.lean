/- The document's Parse, as it is walked. -/
import Derived.Test.YthpkmbgollollaaDoorIg
import Derived.Test.YthpkmbgollollaaDoorHd5
import Derived.Test.YthpkmbgollollaaDoorEb
namespace Go.Proofs.YthpkmbgollollaaDoor.Dy
open Go.RowKit Go.Lib Go.Shelf Go.Proofs.YthpkmbgollollaaDoor.Sca

theorem zPrint (d : DD) (w : World) : Calls Tryd.prog 26 #[dV d] w fun e w' => e = .returned (pV d) ∧ Below w.heap.size w w' := by
  unfold pV
  by_cases h : Rt d
  · rw [if_pos h]; exact zPrint_ok d h w
  · rw [if_neg h]; exact zPrint_no d h w
/-- How often two goes into it. -/
def v2 (p : Nat) : Nat := if h : 1 < p ∧ p % 2 = 0 then v2 (p / 2) + 1 else 0
termination_by p
decreasing_by omega
theorem v2_pow : ∀ n : Nat, v2 (2 ^ n) = n
  | 0 => by unfold v2; simp
  | n + 1 => by
    have hp : 1 ≤ 2 ^ n := Nat.pow_pos (by decide)
    have h2 : 2 ^ (n + 1) = 2 * 2 ^ n := by rw [Nat.pow_succ, Nat.mul_comm]
    unfold v2
    rw [dif_pos (by omega), show 2 ^ (n + 1) / 2 = 2 ^ n by omega, v2_pow n]
theorem v2_le : ∀ p : Nat, 1 ≤ p → 2 ^ v2 p ≤ p := by
  intro p
  induction p using Nat.strongRecOn with
  | _ p ih =>
    intro hp
    unfold v2
    split
    · rename_i h
      have := ih (p / 2) (by omega) (by omega)
      rw [Nat.pow_succ]
      omega
    · simpa using hp
theorem v2_lt (p : Nat) (h : p < 9223372036854775808) : v2 p < 63 := by
  by_cases h0 : p = 0
  · rw [h0]; unfold v2; simp
  · have := v2_le p (by omega)
    rcases Nat.lt_or_ge (v2 p) 63 with c | c
    · exact c
    · have := Nat.pow_le_pow_right (show 0 < 2 by decide) c
      omega
def negZ (l : List UInt8) : Bool := decide (l.head? = some 45)
def pw (l : List UInt8) (m : Nat) : Nat := match numZ l (m + 2) with
  | some (v, _) => v.toNat
  | none => 0
def exZ (l : List UInt8) (m : Nat) : Nat := if m + 1 < l.length then v2 (pw l m) else 0
def zD (l : List UInt8) (re im : Int) (k m : Nat) : DD := ⟨if negZ l then -re else re, if l.getD k 0 = 45 then -im else im, exZ l m⟩
def okD (d : DD) (l : List UInt8) : DD × Int := if Rt d ∧ prD d = l then (d, 0) else (o0, 50)
/-- What the document's Parse answers. -/
def parsZ (l : List UInt8) : DD × Int := match numZ l (if negZ l then 1 else 0) with
  | none => (o0, 50)
  | some (re, k) => if l.length ≤ k then (o0, 50) else match numZ l (k + 1) with
    | none => (o0, 50)
    | some (im, m) => okD (zD l re im k m) l
theorem negZ_bd {l : List UInt8} (h : negZ l = true) : 1 ≤ l.length := by
  have := of_decide_eq_true h
  cases l with
  | nil => cases this
  | cons _ _ => simp
theorem okD_cases (d : DD) (l : List UInt8) : ∃ PV, pV d = PV ∧ ((PV = .tuple #[.string ⟨l.toArray⟩, .int .i64 0] ∧ okD d l = (d, 0)) ∨ ∃ T E, PV = .tuple #[.string T, .int .i64 E] ∧ (E ≠ 0 ∨ (E = 0 ∧ (T.toList == (⟨l.toArray⟩ : ByteArray).toList) = false)) ∧ okD d l = (o0, 50)) := by
  refine ⟨_, rfl, ?_⟩
  unfold pV okD
  by_cases hR : Rt d
  · rw [if_pos hR]
    by_cases hE : prD d = l
    · left; rw [if_pos ⟨hR, hE⟩, hE]; exact ⟨rfl, rfl⟩
    · right; rw [if_neg (fun h => hE h.2)]
      exact ⟨_, _, rfl, .inr ⟨rfl, by rw [list_eq]; exact decide_eq_false hE⟩, rfl⟩
  · right
    rw [if_neg hR, if_neg (fun h => hR h.1)]
    exact ⟨_, _, rfl, .inl (by decide), rfl⟩
set_option maxRecDepth 100000 in
set_option maxHeartbeats 1000000 in
theorem zParse (l : List UInt8) (hl : l.length ≤ 140737488351300) (w : World) : Calls Tryd.prog 28 #[.string ⟨l.toArray⟩] w fun e w' => e = .returned (aV (parsZ l)) ∧ Below w.heap.size w w' := by
  have cN := fun i hi w => zNumber l i hi hl w
  have hcs := fun d => okD_cases d l
  have hat : ∀ k (h : k < (⟨l.toArray⟩ : ByteArray).size), (⟨l.toArray⟩ : ByteArray)[k]'h = l.getD k 0 := fun k h => by
    have hk : k < l.length := by have := size_str l; omega
    show l.toArray[k]'_ = _
    simp [List.getElem?_eq_getElem hk]
  have hsz := size_str l
  generalize (⟨l.toArray⟩ : ByteArray) = s at *
  obtain ⟨R, HR⟩ : ∃ R, Hid (parsZ l = R) := ⟨_, hidP rfl⟩
  rw [HR.out]
  go_enter Tryd.func28, Tryd.ntmps28
  go_upto_region 2 with fail
  have hA := At.new w 0 0 0
  have hbA := below_new w (dO 0 0 0)
  have hK1 : (w.alloc (dO 0 0 0)).heap.size = w.heap.size + 1 := by simp
  generalize w.alloc (dO 0 0 0) = W0 at *
  go_cut [5] (fun vb wx => vb = .bool (negZ l) ∧ wx = W0)
  case first =>
    cases l with
    | nil =>
      have hz : decide ((0 : Int) < (([] : List UInt8).length : Int)) = false := rfl
      clear cN hcs
      go_wp2_with fail
      go_meet
      exact ⟨rfl, rfl⟩
    | cons c r =>
      have hs0 : 0 < s.size := by rw [hsz]; simp
      have h0 : s[0]'hs0 = c := hat 0 hs0
      have hpos : (0 : Int) < (s.size : Int) := by omega
      have hng : negZ (c :: r) = ((c.toNat : Int) == 45) := by
        unfold negZ
        by_cases h : c = 45
        · subst h; rfl
        · have h' : c.toNat ≠ 45 := fun e => h (UInt8.toNat_inj.1 e)
          rw [decide_eq_false (by simpa using h)]
          symm
          rw [beq_eq_false_iff_ne]
          omega
      have Hng := hidP hng
      clear cN hcs hat hng hsz hl
      go_wp2_with fail
      go_meet
      exact ⟨by rw [Hng.out], rfl⟩
  case rest =>
  obtain ⟨rfl, hw⟩ := hcut
  obtain rfl := hw.symm
  obtain ⟨B, hB⟩ : ∃ B, negZ l = B := ⟨_, rfl⟩
  rw [hB]
  obtain ⟨I, hI⟩ : ∃ I : Nat, I = if B then 1 else 0 := ⟨_, rfl⟩
  have hIl : I ≤ l.length := by
    cases B
    · simp at hI; omega
    · simp at hI; have := negZ_bd hB; omega
  have HI := hidP hI
  clear hI
  go_upto_if 23 with fail
  go_cut [4] (fun vi wx => vi = .int .i64 (I : Int) ∧ wx = W0)
  case first =>
    clear cN hcs hat HR
    cases B
    · have hI := HI.out
      simp at hI
      subst hI
      go_wp2_with fail
      go_meet
      exact ⟨rfl, rfl⟩
    · have hI := HI.out
      simp at hI
      subst hI
      go_wp2_with fail
      go_meet
      exact ⟨rfl, rfl⟩
  case rest =>
  obtain ⟨rfl, hw⟩ := hcut
  obtain rfl := hw.symm
  have cN1 := fun w => cN I hIl w
  have HR1 : Hid (R = match numZ l I with
    | none => (o0, 50)
    | some (re, k) => if l.length ≤ k then (o0, 50) else match numZ l (k + 1) with
      | none => (o0, 50)
      | some (im, m) => okD (zD l re im k m) l) := hidP (by rw [← HR.out]; unfold parsZ; rw [hB, HI.out])
  have HB := hidP hB
  clear HR hB
  go_wp2_with fail
  refine (cN1 _).mono ?_
  rintro e w1 ⟨rfl, hw⟩
  obtain rfl := hw.symm
  clear cN1
  cases h1 : numZ l I with
  | none =>
    have hR : R = (o0, 50) := by rw [HR1.out, h1]
    subst hR
    clear cN hcs hat HR1 h1
    unfold nV
    dsimp only
    go_wp2_with (refine wpList_store_row rfl _ _ _ rfl w.heap.size _ rfl rfl _ _ hA (by exact infoD) (by rfl) (allD _ _ _) ?_)
    refine bodyPost_ret (results_ct rfl _ _ w.heap.size _ _ _ _ rfl (setRow_heap _ _ _ _ _ _ hA) Tryd.underlying23 rfl (by exact infoD)) rfl ?_
    exact ⟨rfl, below_setRow hbA (by omega) _⟩
  | some q =>
    obtain ⟨re, k⟩ := q
    obtain ⟨b1, b2, b3, b4⟩ := numZ_bd h1 hIl
    have HR2 : Hid (R = if l.length ≤ k then (o0, 50) else match numZ l (k + 1) with
      | none => (o0, 50)
      | some (im, m) => okD (zD l re im k m) l) := hidP (by rw [HR1.out, h1])
    unfold nV
    dsimp only
    clear HR1 h1
    have hk0 : ¬ (k : Int) < 0 := by omega
    by_cases hkl : l.length ≤ k
    · have hR : R = (o0, 50) := by rw [HR2.out, if_pos hkl]
      subst hR
      have hklz : (l.length : Int) ≤ (k : Int) := by omega
      clear cN hcs hat HR2
      go_wp2_with (refine wpList_store_row rfl _ _ _ rfl w.heap.size _ rfl rfl _ _ hA (by exact infoD) (by rfl) (allD _ _ _) ?_)
      refine bodyPost_ret (results_ct rfl _ _ w.heap.size _ _ _ _ rfl (setRow_heap _ _ _ _ _ _ hA) Tryd.underlying23 rfl (by exact infoD)) rfl ?_
      exact ⟨rfl, below_setRow hbA (by omega) _⟩
    · have hklz : ¬ (l.length : Int) ≤ (k : Int) := by omega
      have hkly : decide ((l.length : Int) ≤ (k : Int)) = false := decide_eq_false hklz
      have HR3 : Hid (R = match numZ l (k + 1) with
        | none => (o0, 50)
        | some (im, m) => okD (zD l re im k m) l) := hidP (by rw [HR2.out, if_neg hkl])
      have cN2 := fun w => cN (k + 1) (by omega) w
      have hk1 : ((k + 1 : Nat) : Int) = (k : Int) + 1 := by omega
      rw [hk1] at cN2
      clear HR2
      go_wp2_with fail
      refine (cN2 _).mono ?_
      rintro e w1 ⟨rfl, hw⟩
      obtain rfl := hw.symm
      clear cN2
      cases h2 : numZ l (k + 1) with
      | none =>
        have hR : R = (o0, 50) := by rw [HR3.out, h2]
        subst hR
        clear cN hcs hat HR3 h2
        unfold nV
        dsimp only
        go_wp2_with (refine wpList_store_row rfl _ _ _ rfl w.heap.size _ rfl rfl _ _ hA (by exact infoD) (by rfl) (allD _ _ _) ?_)
        refine bodyPost_ret (results_ct rfl _ _ w.heap.size _ _ _ _ rfl (setRow_heap _ _ _ _ _ _ hA) Tryd.underlying23 rfl (by exact infoD)) rfl ?_
        exact ⟨rfl, below_setRow hbA (by omega) _⟩
      | some q2 =>
        obtain ⟨im, m⟩ := q2
        obtain ⟨a1, a2, a3, a4⟩ := numZ_bd h2 (by omega)
        have HR4 : Hid (R = okD ⟨if B then -re else re, if l.getD k 0 = 45 then -im else im, exZ l m⟩ l) := hidP (by rw [HR3.out, h2]; dsimp only; unfold zD; rw [HB.out])
        unfold nV
        dsimp only
        clear HR3 h2
        have hm0 : ¬ (m : Int) < 0 := by omega
        go_upto_if 52 with fail
        have hD := At.new W0 re im 0
        have hA1 := hA.below (below_new W0 (dO re im 0))
        have hb1 := hbA.trans ((below_new W0 (dO re im 0)).mono hbA.size)
        have hlt : w.heap.size < W0.heap.size := hA.lt
        clear hA hbA
        rw [hK1] at hD
        generalize W0.alloc (dO re im 0) = W1 at *
        go_cut [10] (fun vd wx => vd = .pointer (some ⟨(w.heap.size + 1), 0, none⟩) ∧ At wx (w.heap.size + 1) (if B then -re else re) im 0 ∧ At wx w.heap.size 0 0 0 ∧ Below w.heap.size w wx)
        case first =>
          clear cN hcs hat HR4
          have fz := hD.fz
          obtain ⟨g0, g1, g2⟩ := hD.cells
          have hwn : IntKind.i64.wrap (-re) = -re := by rw [wrapI]; omega
          cases B
          · go_wp2_with fail
            go_meet
            exact ⟨rfl, hD, hA1, hb1⟩
          · go_wp2_with fail
            go_meet
            refine ⟨rfl, ?_, hA1.far _ _ (by show (w.heap.size + 1) ≠ w.heap.size; omega), below_set hb1 _ _ (by show w.heap.size ≤ (w.heap.size + 1); omega)⟩
            unfold At
            rw [setCell_eq_setRow _ _ _ _ _ _ _ hD]
            exact setRow_heap _ _ _ _ _ _ hD
        case rest =>
        obtain ⟨rfl, hD2, hA2, hb2⟩ := hcut
        clear hD hA1 hb1
        obtain ⟨re2, hre2⟩ : ∃ x, (if B = true then -re else re) = x := ⟨_, rfl⟩
        rw [hre2] at hD2
        have HR5 : Hid (R = okD ⟨re2, if l.getD k 0 = 45 then -im else im, exZ l m⟩ l) := hidP (by rw [HR4.out, hre2])
        clear hre2 HR4
        have hks : k < s.size := by omega
        have hkl2 : (k : Int) < (l.length : Int) := by omega
        have hck := hat k hks
        clear hat
        generalize l.getD k 0 = c at *
        obtain ⟨cb, hcb⟩ : ∃ cb, ((c.toNat : Int) == 45) = cb := ⟨_, rfl⟩
        have hcc : (if c = 45 then -im else im) = if cb then -im else im := by
          by_cases hc : c = 45
          · subst hc
            rw [← hcb]
            rfl
          · have : cb = false := by
              rw [← hcb, beq_eq_false_iff_ne]
              intro e
              exact hc (UInt8.toNat_inj.1 (by show c.toNat = 45; omega))
            rw [this, if_neg hc]
            rfl
        have HCC := hidP hcc
        clear hcc
        go_upto_if 59 with fail
        clear hcb
        go_cut [10] (fun vd wx => vd = .pointer (some ⟨(w.heap.size + 1), 0, none⟩) ∧ At wx (w.heap.size + 1) re2 (if cb then -im else im) 0 ∧ At wx w.heap.size 0 0 0 ∧ Below w.heap.size w wx)
        case first =>
          have fz := hD2.fz
          obtain ⟨g0, g1, g2⟩ := hD2.cells
          have hwn : IntKind.i64.wrap (-im) = -im := by rw [wrapI]; omega
          clear cN hcs HR5
          cases cb
          · go_wp2_with fail
            go_meet
            exact ⟨rfl, hD2, hA2, hb2⟩
          · go_wp2_with fail
            go_meet
            refine ⟨rfl, ?_, hA2.far _ _ (by show (w.heap.size + 1) ≠ w.heap.size; omega), below_set hb2 _ _ (by show w.heap.size ≤ (w.heap.size + 1); omega)⟩
            unfold At
            rw [setCell_eq_setRow _ _ _ _ _ _ _ hD2]
            exact setRow_heap _ _ _ _ _ _ hD2
        case rest =>
        obtain ⟨rfl, hD3, hA3, hb3⟩ := hcut
        clear hD2 hA2 hb2
        obtain ⟨im2, him2⟩ : ∃ x, (if cb = true then -im else im) = x := ⟨_, rfl⟩
        rw [him2] at hD3
        have HR6 : Hid (R = okD ⟨re2, im2, exZ l m⟩ l) := hidP (by rw [HR5.out, HCC.out, him2])
        clear him2 HR5
        have hmz : ((m : Int) + 1 < (l.length : Int)) ↔ m + 1 < l.length := by omega
        obtain ⟨p0, x0, hnV, hpw, hp63⟩ : ∃ (p0 : Nat) (x0 : Int), (m + 1 < l.length → nV (numZ l (m + 2)) = .tuple #[.int .i64 (p0 : Int), .int .i64 x0]) ∧ p0 = pw l m ∧ p0 < 9223372036854775808 := by
          refine ⟨pw l m, (match numZ l (m + 2) with | none => -1 | some (_, k) => (k : Int)), fun _ => ?_, rfl, ?_⟩
          · unfold pw nV
            cases h : numZ l (m + 2) with
            | none => rfl
            | some q =>
              obtain ⟨v, kk⟩ := q
              have hv : 0 ≤ v := by
                unfold numZ at h
                cases hn : nz (l.drop (m + 2)) 0 0 with
                | none => rw [hn] at h; cases h
                | some p =>
                  rw [hn] at h
                  obtain ⟨a, b⟩ := p
                  dsimp only at h
                  split at h
                  · cases h
                  · cases h; omega
              dsimp only
              rw [Int.toNat_of_nonneg hv]
          · unfold pw
            cases h : numZ l (m + 2) with
            | none => decide
            | some q =>
              obtain ⟨v, kk⟩ := q
              dsimp only
              unfold numZ at h
              cases hn : nz (l.drop (m + 2)) 0 0 with
              | none => rw [hn] at h; cases h
              | some p =>
                have hv := nz_v _ _ _ _ (by decide) hn
                rw [hn] at h
                obtain ⟨a, b⟩ := p
                dsimp only at h hv
                split at h
                · cases h
                · cases h; omega
        obtain ⟨E, hE⟩ : ∃ E : Nat, exZ l m = E := ⟨_, rfl⟩
        have HE := hidP hE
        have HP := hidP hpw
        have hE63 : E < 63 := by
          rw [← hE]
          unfold exZ
          split
          · exact v2_lt _ (by rw [← hpw]; exact hp63)
          · decide
        clear hE hpw
        go_upto_if 67 with fail
        go_cut [10] (fun vd wx => vd = .pointer (some ⟨(w.heap.size + 1), 0, none⟩) ∧ At wx (w.heap.size + 1) re2 im2 E ∧ At wx w.heap.size 0 0 0 ∧ Below w.heap.size w wx)
        case first =>
          by_cases hml : m + 1 < l.length
          · have hmlz := hmz.2 hml
            have cN3 := fun w => cN (m + 2) (by omega) w
            rw [hnV hml, show ((m + 2 : Nat) : Int) = (m : Int) + 2 by omega] at cN3
            have HE2 : Hid (v2 p0 = E) := hidP (by rw [← HE.out, HP.out]; unfold exZ; rw [if_pos hml])
            clear cN hcs HR6 hnV
            go_wp2_with fail
            refine (cN3 _).mono ?_
            rintro e w1 ⟨rfl, hw⟩
            obtain rfl := hw.symm
            clear cN3
            go_wp2_with fail
            go_loopw [11] (fun vp wr => ∃ (p j : Nat), vp = .int .i64 (p : Int) ∧ p < 9223372036854775808 ∧ Hid (v2 p + j = E) ∧ At wr (w.heap.size + 1) re2 im2 (j : Int) ∧ At wr w.heap.size 0 0 0 ∧ Below w.heap.size w wr) (fun vp _ => (RowKit.intOf vp).toNat)
            case atStart => exact ⟨p0, 0, rfl, hp63, hidP HE2.out, hD3, hA3, hb3⟩
            case round =>
              clear hD3 hA3 hb3
              obtain ⟨p, j, rfl, hp, HV, hD, hA', hb'⟩ := hrel
              have hV := HV.out
              have hj : j < 63 := by omega
              have tp := tmod2 (p : Int)
              by_cases h1 : 1 < p
              · have h1z : (1 : Int) < (p : Int) := by omega
                by_cases h2 : p % 2 = 0
                · have h2z : (p : Int).tmod 2 = 0 := tp.2 (by omega)
                  have h2d : (p : Int).tdiv 2 = ((p / 2 : Nat) : Int) := by rw [tdiv2 (by omega)]; omega
                  have hwp : IntKind.i64.wrap ((p / 2 : Nat) : Int) = ((p / 2 : Nat) : Int) := by rw [wrapI]; omega
                  unfold v2 at hV
                  rw [dif_pos ⟨h1, h2⟩] at hV
                  have HV2 : Hid (v2 (p / 2) + (j + 1) = E) := hidP (by omega)
                  have fz := hD.fz
                  obtain ⟨g0, g1, g2⟩ := hD.cells
                  have hD' : At (wr.setCell ⟨w.heap.size + 1, 2, none⟩ (.int .i64 ((j : Int) + 1))) (w.heap.size + 1) re2 im2 ((j + 1 : Nat) : Int) := by
                    unfold At
                    rw [setCell_eq_setRow _ _ _ _ _ _ _ hD]
                    exact setRow_heap _ _ _ _ _ _ hD
                  have hA'' := hA'.far ⟨w.heap.size + 1, 2, none⟩ (.int .i64 ((j : Int) + 1)) (by show w.heap.size + 1 ≠ w.heap.size; omega)
                  have hb'' := below_set hb' ⟨w.heap.size + 1, 2, none⟩ (.int .i64 ((j : Int) + 1)) (by show w.heap.size ≤ w.heap.size + 1; omega)
                  have hj63 : (j : Int) < 63 := by omega
                  clear hV HV tp hD hA' hb' h2
                  go_wp2_with fail
                  exact ⟨⟨p / 2, j + 1, rfl, by omega, HV2, hD', hA'', hb''⟩, by simp [RowKit.intOf]; omega⟩
                · have h2z : ((p : Int).tmod 2 == 0) = false := by rw [beq_eq_false_iff_ne]; exact fun h => h2 (by have := tp.1 h; omega)
                  unfold v2 at hV
                  rw [dif_neg (fun h => h2 h.2), Nat.zero_add] at hV
                  subst hV
                  clear HV tp
                  go_wp2_with fail
                  go_meet
                  exact ⟨rfl, hD, hA', hb'⟩
              · have h1z : ¬ (1 : Int) < (p : Int) := by omega
                have h1y : decide ((1 : Int) < (p : Int)) = false := decide_eq_false h1z
                unfold v2 at hV
                rw [dif_neg (fun h => h1 h.1), Nat.zero_add] at hV
                subst hV
                clear HV tp
                go_wp2_with fail
                go_meet
                exact ⟨rfl, hD, hA', hb'⟩
          · have hmlz : ¬ ((m : Int) + 1 < (l.length : Int)) := fun h => hml (hmz.1 h)
            have hmly : decide ((m : Int) + 1 < (l.length : Int)) = false := decide_eq_false hmlz
            have hE0 : E = 0 := by rw [← HE.out]; unfold exZ; rw [if_neg hml]
            subst hE0
            clear cN hcs HR6 hnV
            go_wp2_with fail
            go_meet
            exact ⟨rfl, hD3, hA3, hb3⟩
        case rest =>
        obtain ⟨rfl, hD4, hA4, hb4⟩ := hcut
        clear hD3 hA3 hb3
        have hRE : Hid (R = okD ⟨re2, im2, E⟩ l) := hidP (by rw [HR6.out, HE.out])
        obtain ⟨PV, hPV, hcase⟩ := hcs ⟨re2, im2, E⟩
        have c7 := fun w => zPrint ⟨re2, im2, E⟩ w
        rw [hPV, show dV ⟨re2, im2, (E : Int)⟩ = .agg #[.int .i64 re2, .int .i64 im2, .int .i64 (E : Int)] from rfl] at c7
        rw [← hRE.out] at hcase
        clear hPV hcs HR6 HE HP hnV cN hRE
        obtain ⟨g0, g1, g2⟩ := hD4.cells
        go_wp2_with fail
        refine (c7 _).mono ?_
        rintro e w6 ⟨rfl, hb6⟩
        have hb6' := hb4.trans (hb6.mono hb4.size)
        have hA6 := hA4.below hb6
        have hD6 := hD4.below hb6
        clear g0 g1 g2 c7 hA4 hD4 hb4
        obtain ⟨g0, g1, g2⟩ := hD6.cells
        clear hb6
        have hb6 := hb6'
        rcases hcase with ⟨hp, hr⟩ | ⟨T, F, hp, hF, hr⟩
        · subst hp
          subst hr
          have hq : (s.toList == s.toList) = true := beq_self_eq_true _
          go_wp2_with (refine wpList_store_row rfl _ _ _ rfl w.heap.size _ rfl rfl _ _ hA6 (by exact infoD) (by rfl) (allD _ _ _) ?_)
          refine bodyPost_ret (results_ct rfl _ _ w.heap.size _ _ _ _ rfl (setRow_heap _ _ _ _ _ _ hA6) Tryd.underlying23 rfl (by exact infoD)) rfl ?_
          exact ⟨rfl, below_setRow hb6 (by omega) _⟩
        · subst hp
          subst hr
          rcases hF with hF | ⟨hF, hq⟩
          · have hF' : (F == 0) = false := by rw [beq_eq_false_iff_ne]; exact hF
            have hF2 : (F != 0) = true := by rw [bne_iff_ne]; exact hF
            go_wp2_with (refine wpList_store_row rfl _ _ _ rfl w.heap.size _ rfl rfl _ _ hA6 (by exact infoD) (by rfl) (allD _ _ _) ?_)
            refine bodyPost_ret (results_ct rfl _ _ w.heap.size _ _ _ _ rfl (setRow_heap _ _ _ _ _ _ hA6) Tryd.underlying23 rfl (by exact infoD)) rfl ?_
            exact ⟨rfl, below_setRow hb6 (by omega) _⟩
          · subst hF
            have hq2 : (T.toList != s.toList) = true := by rw [bne, hq]; rfl
            go_wp2_with (refine wpList_store_row rfl _ _ _ rfl w.heap.size _ rfl rfl _ _ hA6 (by exact infoD) (by rfl) (allD _ _ _) ?_)
            refine bodyPost_ret (results_ct rfl _ _ w.heap.size _ _ _ _ rfl (setRow_heap _ _ _ _ _ _ hA6) Tryd.underlying23 rfl (by exact infoD)) rfl ?_
            exact ⟨rfl, below_setRow hb6 (by omega) _⟩
end Go.Proofs.YthpkmbgollollaaDoor.Dy
