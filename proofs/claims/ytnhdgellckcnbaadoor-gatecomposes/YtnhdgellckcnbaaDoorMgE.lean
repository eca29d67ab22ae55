/- GateComposes answers true for every two kinds: Compose answers what the document's answers. Condition: the two listed variables lie as the program's text lays them (the card ties them to the text). -/
import Derived.Test.YtnhdgellckcnbaaDoorMgC
import Derived.BigQuiet
import Derived.Test.YtnhdgellckcnbaaDoorFr6
/- The document's Times. -/
namespace Go.Proofs.YtnhdgellckcnbaaDoor.Gt
open Go.RowKit Go.Proofs.YtnhdgellckcnbaaDoor.Oct Go.Proofs.YtnhdgellckcnbaaDoor.Dy

theorem infoZ3 : (Tryd.prog.info? 66).map (fun i => (i.zero, i.size, i.bytes)) = some (some (.agg #[.float .f64 0, .float .f64 0]), 2, 16) := by kernel_rfl
theorem infoZZ : (Tryd.prog.info? 62).map (fun i => (i.zero, i.size, i.bytes)) = some (some (.slice none 0 0), 1, 24) := by kernel_rfl
def zRow (n : Nat) : Array Value := madeCells #[.float .f64 0, .float .f64 0] (n * 2)
theorem make_z (n : Nat) (hn : n ≤ 4096) (w : World) : (Instr.makeSlice 62 (.int .i64 (n : Int)) (.int .i64 (n : Int))).run Tryd.prog w = .ok (.slice (some ⟨w.heap.size, 0, none⟩) n n) (w.alloc (.cells (zRow n) 66)) := by
  obtain ⟨i, hi, hz⟩ := Option.map_eq_some_iff.1 infoZ3
  simp only [Prod.mk.injEq] at hz
  obtain ⟨h1, h2, h3⟩ := hz
  have hr := run_make (P := Tryd.prog) w 62 66 i _ Tryd.underlying62 hi h1 .i64 .i64 n n (by omega) (Int.le_refl _) (by rw [h3]; omega) (by omega)
  rw [h2, Int.toNat_natCast] at hr
  exact hr
theorem make_zz (n : Nat) (hn : n ≤ 4096) (w : World) : (Instr.makeSlice 29 (.int .i64 (n : Int)) (.int .i64 (n : Int))).run Tryd.prog w = .ok (.slice (some ⟨w.heap.size, 0, none⟩) n n) (w.alloc (.cells (madeCells #[.slice none 0 0] n) 62)) :=
  run_make_row' 29 62 (.slice none 0 0) 24 Tryd.underlying29 infoZZ rfl .i64 .i64 n (by omega) (by omega) w
theorem zRow_size (n : Nat) : (zRow n).size = n * 2 := size_madeCells _ _
theorem zRow_at (n i : Nat) (h : i < n * 2) : (zRow n)[i]? = some (.float .f64 0) := by
  have h2 : i % 2 = 0 ∨ i % 2 = 1 := by omega
  unfold zRow madeCells
  rw [Array.getElem?_map, Array.getElem?_range, if_pos h]
  rcases h2 with e | e <;> simp [e]
/-- The square as it is being made: its first m rows lie. -/
structure Dr (w : World) (g n m : Nat) (rb : Nat → Nat) (f : Nat → Nat → Nat × Nat) : Prop where
  top : Rk w g 62 n (fun r => if r < m then .slice (some ⟨rb r, 0, none⟩) n n else .slice none 0 0)
  rows : ∀ r, r < m → Rk w (rb r) 66 (2 * n) (fun j => .float .f64 (if j % 2 = 0 then (f r (j / 2)).1 else (f r (j / 2)).2))
  inj : ∀ r s, r < m → s < m → rb r = rb s → r = s
  ne : ∀ r, r < m → rb r ≠ g
namespace Dr
variable {w : World} {g n m : Nat} {rb : Nat → Nat} {f f' : Nat → Nat → Nat × Nat}
theorem whole (h : Dr w g n n rb f) : Dm w g n rb f := ⟨h.top.congr (fun _ hi => if_pos hi), h.rows, h.inj, h.ne⟩
theorem below {w' : World} (h : Dr w g n m rb f) (hb : Below w.heap.size w w') : Dr w' g n m rb f := ⟨h.top.below hb, fun r hr => (h.rows r hr).below hb, h.inj, h.ne⟩
theorem congr (h : Dr w g n m rb f) (e : ∀ r c, r < m → c < n → f r c = f' r c) : Dr w g n m rb f' := ⟨h.top, fun r hr => (h.rows r hr).congr (fun j hj => by rw [e r (j / 2) hr (by omega)]), h.inj, h.ne⟩
theorem row (h : Dr w g n m rb f) {r : Nat} (hr : r < m) (hn : r < n) : w.cell? ⟨g, r, none⟩ = some (.slice (some ⟨rb r, 0, none⟩) n n) := by
  rw [h.top.cell r hn, if_pos hr]
theorem re (h : Dr w g n m rb f) {r c : Nat} (hr : r < m) (hc : c < n) : w.cell? ⟨rb r, c * 2, none⟩ = some (.float .f64 (f r c).1) := by
  have := (h.rows r hr).cell (c * 2) (by omega)
  rw [this]
  simp
theorem im (h : Dr w g n m rb f) {r c : Nat} (hr : r < m) (hc : c < n) : w.cell? ⟨rb r, c * 2 + 1, none⟩ = some (.float .f64 (f r c).2) := by
  have := (h.rows r hr).cell (c * 2 + 1) (by omega)
  rw [this, if_neg (by omega), show (c * 2 + 1) / 2 = c by omega]
theorem set (h : Dr w g n m rb f) {r c : Nat} (hr : r < m) (p : Nat × Nat) :
    Dr ((w.setCell ⟨rb r, c * 2, none⟩ (.float .f64 p.1)).setCell ⟨rb r, c * 2 + 1, none⟩ (.float .f64 p.2)) g n m rb (fun i j => if i = r ∧ j = c then p else f i j) := by
  refine ⟨(h.top.far (fun e => h.ne r hr e.symm) _).far (fun e => h.ne r hr e.symm) _, fun s hs => ?_, h.inj, h.ne⟩
  by_cases e : s = r
  · subst e
    refine (((h.rows s hs).set (c * 2) _).set (c * 2 + 1) _).congr (fun j hj => ?_)
    by_cases e1 : j = c * 2 + 1
    · subst e1
      rw [if_pos rfl, if_neg (by omega), show (c * 2 + 1) / 2 = c by omega, if_pos ⟨rfl, rfl⟩]
    · rw [if_neg e1]
      by_cases e2 : j = c * 2
      · subst e2
        rw [if_pos rfl, if_pos (by omega), show (c * 2) / 2 = c by omega, if_pos ⟨rfl, rfl⟩]
      · rw [if_neg e2]
        have : ¬ j / 2 = c := by omega
        simp only [this, and_false, if_false]
  · have hne : rb s ≠ rb r := fun e' => e (h.inj s r hs hr e')
    refine ((((h.rows s hs).far (a := ⟨rb r, c * 2, none⟩) hne _).far (a := ⟨rb r, c * 2 + 1, none⟩) hne _)).congr (fun j hj => ?_)
    simp only [e, false_and, if_false]
theorem step (h : Dr w g n m rb f) :
    Dr ((w.alloc (.cells (zRow n) 66)).setCell ⟨g, m, none⟩ (.slice (some ⟨w.heap.size, 0, none⟩) n n)) g n (m + 1) (fun r => if r = m then w.heap.size else rb r) (fun r c => if r = m then (0, 0) else f r c) := by
  have hb := below_new w (.cells (zRow n) 66)
  have hg := h.top.lt
  refine ⟨((h.top.below hb).set m _).congr (fun i hi => ?_), fun r hr => ?_, fun r s hr hs e => ?_, fun r hr => ?_⟩
  · by_cases e : i = m
    · subst e
      rw [if_pos rfl, if_pos (by omega), if_pos rfl]
    · rw [if_neg e, if_neg e]
      by_cases e2 : i < m
      · rw [if_pos e2, if_pos (by omega)]
      · rw [if_neg e2, if_neg (by omega)]
  · by_cases e : r = m
    · subst e
      rw [if_pos rfl]
      refine Rk.far ⟨zRow n, heap_alloc_new _ _, by rw [zRow_size]; omega, fun i hi => ?_⟩ (by dsimp only; omega) _
      rw [zRow_at n i (by omega)]
      simp
    · rw [if_neg e]
      refine (((h.rows r (by omega)).below hb).far (h.ne r (by omega)) _).congr (fun j _ => ?_)
      rw [if_neg e]
  · have lt := fun i (hi : i < m) => (h.rows i hi).lt
    by_cases er : r = m
    · by_cases es : s = m
      · omega
      · rw [if_pos er, if_neg es] at e
        have := lt s (by omega)
        omega
    · by_cases es : s = m
      · rw [if_neg er, if_pos es] at e
        have := lt r (by omega)
        omega
      · rw [if_neg er, if_neg es] at e
        exact h.inj r s (by omega) (by omega) e
  · by_cases e : r = m
    · rw [if_pos e]; omega
    · rw [if_neg e]; exact h.ne r (by omega)
end Dr
/-- One more product is added, part by part, as the document does it. -/
theorem step_re {s a b : Nat × Nat} {zs za zb : Int × Int} (hs : Cx s zs (-2)) (ha : Cx a za (-1)) (hb : Cx b zb (-1)) (ls : zle zs 1048576) (la : zle za 1024) (lb : zle zb 1024) :
    ∃ x1 x2 x3 x4, floatBits .mul .f64 a.1 b.1 = some x1 ∧ floatBits .add .f64 s.1 x1 = some x2 ∧ floatBits .mul .f64 a.2 b.2 = some x3 ∧ floatBits .sub .f64 x2 x3 = some x4 ∧ Fl x4 (zadd zs (zmul za zb)).1 (-2) := by
  have s1 := ls.1; have a1 := la.1; have a2 := la.2; have b1 := lb.1; have b2 := lb.2
  obtain ⟨x1, e1, f1⟩ := fl_mul ha.1 hb.1 (by omega) (by omega) (by omega) (by omega) (by omega) (by omega)
  obtain ⟨x3, e3, f3⟩ := fl_mul ha.2 hb.2 (by omega) (by omega) (by omega) (by omega) (by omega) (by omega)
  have m1 := natAbs_mul_le a1 b1
  have m2 := natAbs_mul_le a2 b2
  obtain ⟨x2, e2, f2⟩ := fl_add (d := zs.1 + za.1 * zb.1) (f := -2) hs.1 f1 (by omega) (by omega) (by omega) (by omega) (by omega) (by omega) (by omega) (by rw [Int.add_mul]; rfl)
  obtain ⟨x4, e4, f4⟩ := fl_sub (d := zs.1 + za.1 * zb.1 - za.2 * zb.2) (f := -2) f2 f3 (by omega) (by omega) (by omega) (by omega) (by omega) (by omega) (by omega) (by rw [Int.sub_mul]; rfl)
  refine ⟨x1, x2, x3, x4, e1, e2, e3, e4, ?_⟩
  rw [show (zadd zs (zmul za zb)).1 = zs.1 + za.1 * zb.1 - za.2 * zb.2 by show zs.1 + (za.1 * zb.1 - za.2 * zb.2) = _; omega]
  exact f4
theorem step_im {s a b : Nat × Nat} {zs za zb : Int × Int} (hs : Cx s zs (-2)) (ha : Cx a za (-1)) (hb : Cx b zb (-1)) (ls : zle zs 1048576) (la : zle za 1024) (lb : zle zb 1024) :
    ∃ x1 x2 x3 x4, floatBits .mul .f64 a.1 b.2 = some x1 ∧ floatBits .add .f64 s.2 x1 = some x2 ∧ floatBits .mul .f64 a.2 b.1 = some x3 ∧ floatBits .add .f64 x2 x3 = some x4 ∧ Fl x4 (zadd zs (zmul za zb)).2 (-2) := by
  have s1 := ls.2; have a1 := la.1; have a2 := la.2; have b1 := lb.1; have b2 := lb.2
  obtain ⟨x1, e1, f1⟩ := fl_mul ha.1 hb.2 (by omega) (by omega) (by omega) (by omega) (by omega) (by omega)
  obtain ⟨x3, e3, f3⟩ := fl_mul ha.2 hb.1 (by omega) (by omega) (by omega) (by omega) (by omega) (by omega)
  have m1 := natAbs_mul_le a1 b2
  have m2 := natAbs_mul_le a2 b1
  obtain ⟨x2, e2, f2⟩ := fl_add (d := zs.2 + za.1 * zb.2) (f := -2) hs.2 f1 (by omega) (by omega) (by omega) (by omega) (by omega) (by omega) (by omega) (by rw [Int.add_mul]; rfl)
  obtain ⟨x4, e4, f4⟩ := fl_add (d := zs.2 + za.1 * zb.2 + za.2 * zb.1) (f := -2) f2 f3 (by omega) (by omega) (by omega) (by omega) (by omega) (by omega) (by omega) (by rw [Int.add_mul (zs.2 + za.1 * zb.2)]; rfl)
  refine ⟨x1, x2, x3, x4, e1, e2, e3, e4, ?_⟩
  rw [show (zadd zs (zmul za zb)).2 = zs.2 + za.1 * zb.2 + za.2 * zb.1 by show zs.2 + (za.1 * zb.2 + za.2 * zb.1) = _; omega]
  exact f4
theorem snd_set6 {w : World} {g : Nat} {x0 x1 : Value} {t : TypeId} (h : w.heap[g]? = some (.cells #[x0, x1] t)) (y1 : Value) : (w.setCell ⟨g, 1, none⟩ y1).heap[g]? = some (.cells #[x0, y1] t) := by
  simp [World.setCell, Array.getElem?_modify, h]
/-- The product of two squares, entry by entry. -/
def timP (n : Nat) (A B : Nat → Int × Int) (j : Nat) : Int × Int := dotS n A B (j / n) (j % n) n
theorem tim_at {n : Nat} (A B : Nat → Int × Int) {r c : Nat} (hc : c < n) : timP n A B (n * r + c) = dotS n A B r c n := by
  unfold timP
  rw [Nat.mul_add_div (by omega), Nat.div_eq_of_lt hc, Nat.add_zero, Nat.mul_add_mod, Nat.mod_eq_of_lt hc]
theorem dot_small {n : Nat} {A B : Nat → Int × Int} {row col : Nat} (hA : ∀ j, zle (A j) 2) (hB : ∀ j, zle (B j) 2) : ∀ m, zle (dotS n A B row col m) (m * 8)
  | 0 => ⟨by simp [dotS], by simp [dotS]⟩
  | m + 1 => by
    have ih := dot_small (n := n) (row := row) (col := col) hA hB m
    have h2 := zmul_le (hA (n * row + m)) (hB (n * m + col))
    rw [dotS]
    have := zadd_le ih h2
    exact ⟨Nat.le_trans this.1 (by omega), Nat.le_trans this.2 (by omega)⟩

set_option maxRecDepth 100000 in
set_option maxHeartbeats 4000000 in
theorem hTimes (n ga gb : Nat) (hn : n ≤ 64) (ra rb' : Nat → Nat) (fA fB : Nat → Nat → Nat × Nat) (A B : Nat → Int × Int) (lA : ∀ j, zle (A j) 2) (lB : ∀ j, zle (B j) 2) (w : World) (hA : Dm w ga n ra fA) (hB : Dm w gb n rb' fB)
    (vA : ∀ r c, r < n → c < n → Cx (fA r c) (A (n * r + c)) (-1)) (vB : ∀ r c, r < n → c < n → Cx (fB r c) (B (n * r + c)) (-1)) :
    Calls Tryd.prog 47 #[.slice (some ⟨ga, 0, none⟩) n n, .slice (some ⟨gb, 0, none⟩) n n] w fun e w' => ∃ g rb F, e = .returned (.slice (some ⟨g, 0, none⟩) n n) ∧ Dm w' g n rb F ∧ (∀ r c, r < n → c < n → Cx (F r c) (timP n A B (n * r + c)) (-2)) ∧ Below w.heap.size w w' := by
  have hstf := store_f
  have hmz := make_z n (by omega)
  have hmzz := make_zz n (by omega)
  have HA := hide hA
  have HB := hide hB
  have VA := hide vA
  have VB := hide vB
  have LD : Hid (∀ r c m, m ≤ 64 → zle (dotS n A B r c m) 1048576) := hide (fun r c m hm => zle_mono (dot_small lA lB m) (by omega))
  have LA := hide lA
  have LB := hide lB
  clear hA hB vA vB lA lB
  have hq0 : Dr (w.alloc (.cells (madeCells #[.slice none 0 0] n) 62)) w.heap.size n 0 (fun _ => 0) (fun _ _ => (0, 0)) := ⟨(rk_made w n 62 (.slice none 0 0)).congr (fun i hi => by simp), fun r hr => by omega, fun r s hr => by omega, fun r hr => by omega⟩
  have b0 := below_new w (.cells (madeCells #[.slice none 0 0] n) 62)
  go_enter Tryd.func47, Tryd.ntmps47
  go_wp2_with fail
  generalize w.alloc (.cells (madeCells #[.slice none 0 0] n) 62) = W0 at *
  have Q0 := hide hq0
  clear hq0
  go_loopw [7, 8, 9, 10] (fun vr _ _ _ wr => ∃ (r : Nat) (rb : Nat → Nat) (F : Nat → Nat → Nat × Nat), vr = .int .i64 (r : Int) ∧ r ≤ n ∧ Hid (Dr wr w.heap.size n r rb F) ∧ Hid (∀ i, i < r → w.heap.size ≤ rb i) ∧ Hid (∀ i j, i < r → j < n → Cx (F i j) (dotS n A B i j n) (-2)) ∧ Below w.heap.size w wr) (fun vr _ _ _ _ => n - (Go.RowKit.intOf vr).toNat)
  case atStart => exact ⟨0, _, _, rfl, by omega, Q0, hide (fun i hi => by omega), hide (fun i j hi => by omega), b0⟩
  case round =>
    clear Q0 b0
    obtain ⟨r, rb0, F0, rfl, hrn, HD, HL, HV, hb⟩ := hrel
    by_cases h : r < n
    · have hd : decide ((r : Int) < (n : Int)) = true := decide_eq_true (by omega)
      have bz := below_new wr (.cells (zRow n) 66)
      have zf := (HD.out.top.below bz).frozen r
      have hc0 := (HD.out.top.below bz).cell r h
      have HS := hide HD.out.step
      have hbS := (hb.trans (bz.mono hb.size)).setCell (p := ⟨w.heap.size, r, none⟩) (Nat.le_refl _) (.slice (some ⟨wr.heap.size, 0, none⟩) n n)
      obtain ⟨rb, hrb⟩ : ∃ rb : Nat → Nat, rb = fun i => if i = r then wr.heap.size else rb0 i := ⟨_, rfl⟩
      have HL2 : Hid (∀ i, i < r + 1 → w.heap.size ≤ rb i) := hide (fun i hi => by
        rw [hrb]
        by_cases e : i = r
        · simp only [e, if_true]; exact hb.size
        · simp only [e, if_false]; exact HL.out i (by omega))
      have HV2 : Hid (∀ i j, i < r → j < n → Cx ((fun r' c => if r' = r then (0, 0) else F0 r' c) i j) (dotS n A B i j n) (-2)) := hide (fun i j hi hj => by
        show Cx (if i = r then (0, 0) else F0 i j) _ _
        rw [if_neg (by omega)]
        exact HV.out i j hi hj)
      rw [← hrb] at HS
      obtain ⟨F1, hF1⟩ : ∃ F1 : Nat → Nat → Nat × Nat, F1 = fun r' c => if r' = r then (0, 0) else F0 r' c := ⟨_, rfl⟩
      rw [← hF1] at HS HV2
      clear HD bz hb HL HV hrb hF1
      go_wp2_with fail
      generalize (wr.alloc (.cells (zRow n) 66)).setCell ⟨w.heap.size, r, none⟩ (.slice (some ⟨wr.heap.size, 0, none⟩) n n) = W1 at *
      go_loopw [8, 9, 10] (fun vc _ _ wc => ∃ (c : Nat) (F : Nat → Nat → Nat × Nat), vc = .int .i64 (c : Int) ∧ c ≤ n ∧ Hid (Dr wc w.heap.size n (r + 1) rb F) ∧ Hid (∀ i j, j < n → (i < r ∨ i = r ∧ j < c) → Cx (F i j) (dotS n A B i j n) (-2)) ∧ Below w.heap.size w wc) (fun vc _ _ _ => n - (Go.RowKit.intOf vc).toNat)
      case atStart => exact ⟨0, F1, rfl, by omega, HS, hide (fun i j hj hi => HV2.out i j (by omega) hj), hbS⟩
      case round =>
        clear HS hbS HV2 zf hc0
        obtain ⟨c, F, rfl, hcn, HD, HV, hb⟩ := hrel
        by_cases hc : c < n
        · have hdc : decide ((c : Int) < (n : Int)) = true := decide_eq_true (by omega)
          generalize wr = wc at *
          have hs0 := heap_alloc_new wc (.cells #[.float .f64 0, .float .f64 0] 66)
          have bs := below_new wc (.cells #[.float .f64 0, .float .f64 0] 66)
          go_wp2_with fail
          go_loopw [10] (fun vj wr => ∃ (j : Nat) (sv : Nat × Nat), vj = .int .i64 (j : Int) ∧ j ≤ n ∧ wr.heap[wc.heap.size]? = some (.cells #[.float .f64 sv.1, .float .f64 sv.2] 66) ∧ Hid (Cx sv (dotS n A B r c j) (-2)) ∧ Below wc.heap.size wc wr) (fun vj _ => n - (Go.RowKit.intOf vj).toNat)
          case atStart => exact ⟨0, (0, 0), rfl, by omega, hs0, hide (cx_zero _), bs⟩
          case round =>
            clear hs0 bs
            obtain ⟨j, sv, rfl, hjn, hsv, HX, hbj⟩ := hrel
            by_cases hj : j < n
            · have hdj : decide ((j : Int) < (n : Int)) = true := decide_eq_true (by omega)
              have hrZ : (r : Int) < (n : Int) := by omega
              have hcZ : (c : Int) < (n : Int) := by omega
              have hjZ : (j : Int) < (n : Int) := by omega
              have hbw := hb.trans (hbj.mono hb.size)
              have vx := VA.out r j h hj
              have vy := VB.out j c hj hc
              obtain ⟨x1, x2, x3, x4, e1, e2, e3, e4, fr⟩ := step_re HX.out vx vy (LD.out r c j (by omega)) (zle_mono (LA.out _) (by omega)) (zle_mono (LB.out _) (by omega))
              obtain ⟨y1, y2, y3, y4, g1, g2, g3, g4, fi⟩ := step_im HX.out vx vy (LD.out r c j (by omega)) (zle_mono (LA.out _) (by omega)) (zle_mono (LB.out _) (by omega))
              have HX2 : Hid (Cx (x4, y4) (dotS n A B r c (j + 1)) (-2)) := hide ⟨fr, fi⟩
              have q1 := fun W => run_float_arith (P := Tryd.prog) (w := W) .mul 64 .f64 _ _ _ e1
              have q2 := fun W => run_float_arith (P := Tryd.prog) (w := W) .add 64 .f64 _ _ _ e2
              have q3 := fun W => run_float_arith (P := Tryd.prog) (w := W) .mul 64 .f64 _ _ _ e3
              have q4 := fun W => run_float_arith (P := Tryd.prog) (w := W) .sub 64 .f64 _ _ _ e4
              have u1 := fun W => run_float_arith (P := Tryd.prog) (w := W) .mul 64 .f64 _ _ _ g1
              have u2 := fun W => run_float_arith (P := Tryd.prog) (w := W) .add 64 .f64 _ _ _ g2
              have u3 := fun W => run_float_arith (P := Tryd.prog) (w := W) .mul 64 .f64 _ _ _ g3
              have u4 := fun W => run_float_arith (P := Tryd.prog) (w := W) .add 64 .f64 _ _ _ g4
              have hA1 := HA.out.below hbw
              have hB1 := HB.out.below hbw
              have k1 := hA1.row h
              have k2 := hA1.re h hj
              have k3 := hA1.im h hj
              have k4 := hB1.row hj
              have k5 := hB1.re hj hc
              have k6 := hB1.im hj hc
              generalize fA r j = a at *
              generalize fB j c = b at *
              have hgs : wc.heap.size ≤ wc.heap.size := Nat.le_refl _
              clear e1 e2 e3 e4 g1 g2 g3 g4 fr fi vx vy HX hA1 hB1 hbw
              have six : ∀ W, Below wr.heap.size wr W → W.cell? ⟨ga, r, none⟩ = some (.slice (some ⟨ra r, 0, none⟩) n n) ∧ W.cell? ⟨ra r, j * 2, none⟩ = some (.float .f64 a.1) ∧ W.cell? ⟨ra r, j * 2 + 1, none⟩ = some (.float .f64 a.2) ∧ W.cell? ⟨gb, j, none⟩ = some (.slice (some ⟨rb' j, 0, none⟩) n n) ∧ W.cell? ⟨rb' j, c * 2, none⟩ = some (.float .f64 b.1) ∧ W.cell? ⟨rb' j, c * 2 + 1, none⟩ = some (.float .f64 b.2) ∧ W.heap[wc.heap.size]? = some (.cells #[.float .f64 sv.1, .float .f64 sv.2] 66) := fun W hW => ⟨(hW.cell (World.block_lt_of_cell? _ _ k1)).trans k1, (hW.cell (World.block_lt_of_cell? _ _ k2)).trans k2, (hW.cell (World.block_lt_of_cell? _ _ k3)).trans k3, (hW.cell (World.block_lt_of_cell? _ _ k4)).trans k4, (hW.cell (World.block_lt_of_cell? _ _ k5)).trans k5, (hW.cell (World.block_lt_of_cell? _ _ k6)).trans k6, row_keep hW hsv⟩
              have hne : ga ≠ wc.heap.size ∧ ra r ≠ wc.heap.size ∧ gb ≠ wc.heap.size ∧ rb' j ≠ wc.heap.size := by
                have a1 := HA.out.top.lt
                have a2 := (HA.out.rows r h).lt
                have a3 := HB.out.top.lt
                have a4 := (HB.out.rows j hj).lt
                have := hb.size
                exact ⟨by omega, by omega, by omega, by omega⟩
              clear k1 k2 k3 k4 k5 k6
              go_wp2_with fail
              refine wp_region_quiet_last (C := fun W => Below wr.heap.size wr W) (by kernel_rfl) 39 rfl (by kernel_rfl) (by kernel_rfl) (below_drewN (Below.refl _ _) 1) ?_
              simp only [List.take_succ_cons, List.take_zero]
              repeat
                refine wpQuiet_step (fun K hK => ?_)
                go_simp
                first
                  | (refine hK _ ?_; clear hK K)
                  | (apply Exists.intro
                     refine ⟨fun W hW => ?_, hK _ ?_⟩
                     first
                       | with_reducible rfl
                       | (have z1 := q1 W; have z2 := q2 W; have z3 := q3 W; have z4 := q4 W; obtain ⟨a0, a1, a2, a3, a4, a5, a6⟩ := six W hW; have a7 := row2_0 a6; have a8 := row2_1 a6; go_simp; rfl)
                     clear hK K)
              refine wpQuiet_nil ?_
              intro W hW
              obtain ⟨a0, a1, a2, a3, a4, a5, a6⟩ := six W hW
              have bW := hbj.trans (hW.mono hbj.size)
              clear six hbj hsv hW
              have a7 := row2_0 a6
              have fz := frozen_row a6 0
              have hS := one_set a6 (.float .f64 x4)
              have bS := bW.setCell (p := ⟨wc.heap.size, 0, none⟩) (Nat.le_refl _) (.float .f64 x4)
              have k0 : (W.setCell ⟨wc.heap.size, 0, none⟩ (.float .f64 x4)).cell? ⟨ga, r, none⟩ = _ := (cell_far _ _ _ _ hne.1).trans a0
              have k1 : (W.setCell ⟨wc.heap.size, 0, none⟩ (.float .f64 x4)).cell? ⟨ra r, j * 2, none⟩ = _ := (cell_far _ _ _ _ hne.2.1).trans a1
              have k2 : (W.setCell ⟨wc.heap.size, 0, none⟩ (.float .f64 x4)).cell? ⟨ra r, j * 2 + 1, none⟩ = _ := (cell_far _ _ _ _ hne.2.1).trans a2
              have k3 : (W.setCell ⟨wc.heap.size, 0, none⟩ (.float .f64 x4)).cell? ⟨gb, j, none⟩ = _ := (cell_far _ _ _ _ hne.2.2.1).trans a3
              have k4 : (W.setCell ⟨wc.heap.size, 0, none⟩ (.float .f64 x4)).cell? ⟨rb' j, c * 2, none⟩ = _ := (cell_far _ _ _ _ hne.2.2.2).trans a4
              have k5 : (W.setCell ⟨wc.heap.size, 0, none⟩ (.float .f64 x4)).cell? ⟨rb' j, c * 2 + 1, none⟩ = _ := (cell_far _ _ _ _ hne.2.2.2).trans a5
              clear a0 a1 a2 a3 a4 a5 bW
              go_wp2_with fail
              generalize W.setCell ⟨wc.heap.size, 0, none⟩ (.float .f64 x4) = W5 at *
              clear a6 a7 fz
              have six : ∀ W, Below W5.heap.size W5 W → W.cell? ⟨ga, r, none⟩ = some (.slice (some ⟨ra r, 0, none⟩) n n) ∧ W.cell? ⟨ra r, j * 2, none⟩ = some (.float .f64 a.1) ∧ W.cell? ⟨ra r, j * 2 + 1, none⟩ = some (.float .f64 a.2) ∧ W.cell? ⟨gb, j, none⟩ = some (.slice (some ⟨rb' j, 0, none⟩) n n) ∧ W.cell? ⟨rb' j, c * 2, none⟩ = some (.float .f64 b.1) ∧ W.cell? ⟨rb' j, c * 2 + 1, none⟩ = some (.float .f64 b.2) ∧ W.heap[wc.heap.size]? = some (.cells #[.float .f64 x4, .float .f64 sv.2] 66) := fun W hW => ⟨(hW.cell (World.block_lt_of_cell? _ _ k0)).trans k0, (hW.cell (World.block_lt_of_cell? _ _ k1)).trans k1, (hW.cell (World.block_lt_of_cell? _ _ k2)).trans k2, (hW.cell (World.block_lt_of_cell? _ _ k3)).trans k3, (hW.cell (World.block_lt_of_cell? _ _ k4)).trans k4, (hW.cell (World.block_lt_of_cell? _ _ k5)).trans k5, row_keep hW hS⟩
              clear k0 k1 k2 k3 k4 k5
              refine wp_region_quiet_last (C := fun W => Below W5.heap.size W5 W) (by kernel_rfl) 39 rfl (by kernel_rfl) (by kernel_rfl) (below_drewN (Below.refl _ _) 1) ?_
              simp only [List.take_succ_cons, List.take_zero]
              repeat
                refine wpQuiet_step (fun K hK => ?_)
                go_simp
                first
                  | (refine hK _ ?_; clear hK K)
                  | (apply Exists.intro
                     refine ⟨fun W hW => ?_, hK _ ?_⟩
                     first
                       | with_reducible rfl
                       | (have z1 := u1 W; have z2 := u2 W; have z3 := u3 W; have z4 := u4 W; obtain ⟨a0, a1, a2, a3, a4, a5, a6⟩ := six W hW; have a7 := row2_0 a6; have a8 := row2_1 a6; go_simp; rfl)
                     clear hK K)
              refine wpQuiet_nil ?_
              intro W hW
              obtain ⟨a0, a1, a2, a3, a4, a5, a6⟩ := six W hW
              have bW := bS.trans (hW.mono bS.size)
              clear six bS hS hW a0 a1 a2 a3 a4 a5
              have a7 := row2_1 a6
              have fz := frozen_row a6 1
              have hS := snd_set6 a6 (.float .f64 y4)
              have bS := bW.setCell (p := ⟨wc.heap.size, 1, none⟩) (Nat.le_refl _) (.float .f64 y4)
              clear bW
              go_wp2_with fail
              exact ⟨⟨j + 1, (x4, y4), by go_num, by omega, hS, HX2, bS⟩, by simp [Go.RowKit.intOf]; omega⟩
            · have hdj : decide ((j : Int) < (n : Int)) = false := decide_eq_false (by omega)
              have ej : j = n := by omega
              have HX2 : Hid (Cx sv (dotS n A B r c n) (-2)) := hide (by have := HX.out; rw [ej] at this; exact this)
              clear HX ej
              have hrZ : (r : Int) < (n : Int) := by omega
              have hcZ : (c : Int) < (n : Int) := by omega
              have hD := HD.out.below hbj
              have hbw := hb.trans (hbj.mono hb.size)
              have five : ∀ W, Below wr.heap.size wr W → W.cell? ⟨w.heap.size, r, none⟩ = some (.slice (some ⟨rb r, 0, none⟩) n n) ∧ W.heap[wc.heap.size]? = some (.cells #[.float .f64 sv.1, .float .f64 sv.2] 66) := fun W hW => ⟨(hD.below hW).row (by omega) h, row_keep hW hsv⟩
              have HS : ∀ W, Below wr.heap.size wr W → Dr ((W.setCell ⟨rb r, c * 2, none⟩ (.float .f64 sv.1)).setCell ⟨rb r, c * 2 + 1, none⟩ (.float .f64 sv.2)) w.heap.size n (r + 1) rb (fun i j => if i = r ∧ j = c then sv else F i j) := fun W hW => (hD.below hW).set (r := r) (c := c) (by omega) sv
              have HV2 : Hid (∀ i j, j < n → (i < r ∨ i = r ∧ j < c + 1) → Cx ((fun i j => if i = r ∧ j = c then sv else F i j) i j) (dotS n A B i j n) (-2)) := hide (fun i j hj' hi => by
                by_cases e : i = r ∧ j = c
                · simp only [e, and_self, if_true]
                  exact HX2.out
                · simp only [e, if_false]
                  exact HV.out i j hj' (by omega))
              have HF : ∀ W, Below wr.heap.size wr W → W.frozen? ⟨rb r, c * 2, none⟩ = false ∧ (W.setCell ⟨rb r, c * 2, none⟩ (.float .f64 sv.1)).frozen? ⟨rb r, c * 2 + 1, none⟩ = false := fun W hW => ⟨((hD.below hW).rows _ (by omega)).frozen _, (((hD.below hW).rows _ (by omega)).set (c * 2) _).frozen _⟩
              have HR : ∀ W, Below wr.heap.size wr W → W.cell? ⟨rb r, c * 2, none⟩ = some (.float .f64 _) := fun W hW => (hD.below hW).re (by omega) hc
              have HI : ∀ W, Below wr.heap.size wr W → W.cell? ⟨rb r, c * 2 + 1, none⟩ = some (.float .f64 _) := fun W hW => (hD.below hW).im (by omega) hc
              have hrbl : w.heap.size ≤ rb r := HL2.out r (by omega)
              clear HD HV hD HX2
              go_wp2_with fail
              refine wp_region_quiet_last (C := fun W => Below wr.heap.size wr W) (by kernel_rfl) 7 rfl (by kernel_rfl) (by kernel_rfl) (below_drewN (Below.refl _ _) 1) ?_
              simp only [List.take_succ_cons, List.take_zero]
              repeat
                refine wpQuiet_step (fun K hK => ?_)
                go_simp
                first
                  | (refine hK _ ?_; clear hK K)
                  | (apply Exists.intro
                     refine ⟨fun W hW => ?_, hK _ ?_⟩
                     first
                       | with_reducible rfl
                       | (skip; obtain ⟨a0, a1⟩ := five W hW; have a7 := row2_0 a1; have a8 := row2_1 a1; go_simp; rfl)
                     clear hK K)
              refine wpQuiet_nil ?_
              intro W hW
              obtain ⟨f1, f2⟩ := HF W hW
              have r1 := HR W hW
              have r2 := HI W hW
              have HW := hide (HS W hW)
              have hbS := ((hbw.trans (hW.mono hbw.size)).setCell (p := ⟨rb r, c * 2, none⟩) hrbl (.float .f64 sv.1)).setCell (p := ⟨rb r, c * 2 + 1, none⟩) hrbl (.float .f64 sv.2)
              clear HS HF HR HI hW hbw five hbj
              go_wp2_with fail
              exact ⟨⟨c + 1, _, by go_num, by omega, HW, HV2, hbS⟩, by simp [Go.RowKit.intOf]; omega⟩
        · have hdc : decide ((c : Int) < (n : Int)) = false := decide_eq_false (by omega)
          have HV2 : Hid (∀ i j, i < r + 1 → j < n → Cx (F i j) (dotS n A B i j n) (-2)) := hide (fun i j hi hj => HV.out i j hj (by omega))
          clear HV
          go_wp2_with fail
          exact ⟨⟨r + 1, rb, F, by go_num, by omega, HD, HL2, HV2, hb⟩, by simp [Go.RowKit.intOf]; omega⟩
    · have hd : decide ((r : Int) < (n : Int)) = false := decide_eq_false (by omega)
      have er : r = n := by omega
      rw [er] at HD HV
      clear er
      go_wp2_with fail
      go_ret
      exact ⟨w.heap.size, rb0, F0, rfl, HD.out.whole, fun r c hr hc => by rw [tim_at A B hc]; exact HV.out r c hr hc, hb⟩
end Go.Proofs.YtnhdgellckcnbaaDoor.Gt
/- The document's Alike. -/
namespace Go.Proofs.YtnhdgellckcnbaaDoor.Gt
open Go.RowKit Go.Proofs.YtnhdgellckcnbaaDoor.Oct Go.Proofs.YtnhdgellckcnbaaDoor.Dy

theorem ord_ne {b b' : Nat} {c c' e : Int} (h : Fl b c e) (h' : Fl b' c' e) (hc : c.natAbs ≤ 9007199254740992) (hc' : c'.natAbs ≤ 9007199254740992) (he1 : -300 ≤ e) (he2 : e ≤ 300) : (FloatKind.f64.format.order b b' != some .eq) = decide (c ≠ c') := by
  rw [bne, fl_ord h h' hc hc' he1 he2]
  by_cases e : c = c' <;> simp [e]
set_option maxRecDepth 100000 in
set_option maxHeartbeats 4000000 in
theorem hAlike_no (n m : Nat) (hne : n ≠ m) (ao ao' : Option Addr) (c c' : Nat) (w : World) : Calls Tryd.prog 48 #[.slice ao n c, .slice ao' m c'] w fun e w' => e = .returned (.bool false) ∧ w' = w := by
  have hb : ((n : Int) != (m : Int)) = true := by simp; omega
  clear hne
  go_enter Tryd.func48, Tryd.ntmps48
  go_wp2_with fail
  go_ret
  exact ⟨rfl, rfl⟩
set_option maxRecDepth 100000 in
set_option maxHeartbeats 4000000 in
theorem hAlike (n ga gb : Nat) (hn : n ≤ 64) (ra rb' : Nat → Nat) (fA fB : Nat → Nat → Nat × Nat) (A B : Nat → Int × Int) (e : Int) (he1 : -300 ≤ e) (he2 : e ≤ 300) (lA : ∀ j, zle (A j) 1048576) (lB : ∀ j, zle (B j) 1048576) (w : World) (hA : Dm w ga n ra fA) (hB : Dm w gb n rb' fB)
    (vA : ∀ r c, r < n → c < n → Cx (fA r c) (A (n * r + c)) e) (vB : ∀ r c, r < n → c < n → Cx (fB r c) (B (n * r + c)) e) :
    Calls Tryd.prog 48 #[.slice (some ⟨ga, 0, none⟩) n n, .slice (some ⟨gb, 0, none⟩) n n] w fun e w' => e = .returned (.bool (eqB A B (n * n))) ∧ Below w.heap.size w w' := by
  obtain ⟨R, hR⟩ : ∃ R, eqB A B (n * n) = R := ⟨_, rfl⟩
  rw [hR]
  have HR := hide hR
  have HA := hide hA
  have HB := hide hB
  have VA := hide vA
  have VB := hide vB
  have LA := hide lA
  have LB := hide lB
  clear hA hB vA vB lA lB hR
  go_enter Tryd.func48, Tryd.ntmps48
  go_wp2_with fail
  go_loopw [5, 6] (fun vr _ wr => ∃ r : Nat, vr = .int .i64 (r : Int) ∧ r ≤ n ∧ Hid (∀ i j, i < r → j < n → A (n * i + j) = B (n * i + j)) ∧ Below w.heap.size w wr) (fun vr _ _ => n - (Go.RowKit.intOf vr).toNat)
  case atStart => exact ⟨0, rfl, by omega, hide (fun i j hi => by omega), Below.refl _ _⟩
  case round =>
    obtain ⟨r, rfl, hrn, HV, hb⟩ := hrel
    by_cases h : r < n
    · have hd : decide ((r : Int) < (n : Int)) = true := decide_eq_true (by omega)
      go_wp2_with fail
      go_loopw [6] (fun vc wc => ∃ c : Nat, vc = .int .i64 (c : Int) ∧ c ≤ n ∧ Hid (∀ j, j < c → A (n * r + j) = B (n * r + j)) ∧ Below w.heap.size w wc) (fun vc _ => n - (Go.RowKit.intOf vc).toNat)
      case atStart => exact ⟨0, rfl, by omega, hide (fun j hj => by omega), hb⟩
      case round =>
        clear hb
        obtain ⟨c, rfl, hcn, HC, hb⟩ := hrel
        by_cases hc : c < n
        · have hdc : decide ((c : Int) < (n : Int)) = true := decide_eq_true (by omega)
          have hrZ : (r : Int) < (n : Int) := by omega
          have hcZ : (c : Int) < (n : Int) := by omega
          have hA1 := HA.out.below hb
          have hB1 := HB.out.below hb
          have k1 := hA1.row h
          have k2 := hA1.re h hc
          have k3 := hA1.im h hc
          have k4 := hB1.row h
          have k5 := hB1.re h hc
          have k6 := hB1.im h hc
          have vx := VA.out r c h hc
          have vy := VB.out r c h hc
          have la := LA.out (n * r + c)
          have lb := LB.out (n * r + c)
          have o1 := ord_ne vx.1 vy.1 (by have := la.1; omega) (by have := lb.1; omega) he1 he2
          have o2 := ord_ne vx.2 vy.2 (by have := la.2; omega) (by have := lb.2; omega) he1 he2
          have hlt : n * r + c < n * n := by
            have : n * r + n ≤ n * n := by rw [← Nat.mul_succ]; exact Nat.mul_le_mul_left _ h
            omega
          generalize fA r c = a at *
          generalize fB r c = b at *
          clear hA1 hB1 vx vy la lb
          by_cases e1 : (A (n * r + c)).1 = (B (n * r + c)).1
          · rw [decide_eq_false (fun h => h e1)] at o1
            by_cases e2 : (A (n * r + c)).2 = (B (n * r + c)).2
            · rw [decide_eq_false (fun h => h e2)] at o2
              have HC2 : Hid (∀ j, j < c + 1 → A (n * r + j) = B (n * r + j)) := hide (fun j hj => by
                by_cases ej : j = c
                · rw [ej]; exact Prod.ext e1 e2
                · exact HC.out j (by omega))
              clear HC e1 e2 hlt
              go_wp2_with fail
              go_quiet (fail)
              go_wp2_with fail
              exact ⟨⟨c + 1, by go_num, by omega, HC2, below_drewN hb _⟩, by simp [Go.RowKit.intOf]; omega⟩
            · rw [decide_eq_true (show (A (n * r + c)).2 ≠ (B (n * r + c)).2 from e2)] at o2
              have HF : Hid (R = false) := hide (by rw [← HR.out]; exact eqB_false hlt (fun h => e2 (by rw [h])))
              clear HC HR e1 e2 hlt HV
              go_wp2_with fail
              go_quiet (fail)
              go_wp2_with fail
              go_ret
              exact ⟨by rw [HF.out]; rfl, below_drewN hb _⟩
          · rw [decide_eq_true (show (A (n * r + c)).1 ≠ (B (n * r + c)).1 from e1)] at o1
            have HF : Hid (R = false) := hide (by rw [← HR.out]; exact eqB_false hlt (fun h => e1 (by rw [h])))
            clear HC HR e1 hlt HV o2
            go_wp2_with fail
            go_quiet (fail)
            go_wp2_with fail
            go_ret
            exact ⟨by rw [HF.out]; rfl, below_drewN hb _⟩
        · have hdc : decide ((c : Int) < (n : Int)) = false := decide_eq_false (by omega)
          have HV2 : Hid (∀ i j, i < r + 1 → j < n → A (n * i + j) = B (n * i + j)) := hide (fun i j hi hj => by
            by_cases ei : i = r
            · rw [ei]; exact HC.out j (by omega)
            · exact HV.out i j (by omega) hj)
          clear HV HC
          go_wp2_with fail
          exact ⟨⟨r + 1, by go_num, by omega, HV2, hb⟩, by simp [Go.RowKit.intOf]; omega⟩
    · have hd : decide ((r : Int) < (n : Int)) = false := decide_eq_false (by omega)
      have HF : Hid (R = true) := hide (by
        rw [← HR.out, eqB_iff]
        intro j hj
        have hn0 : 0 < n := by
          rcases Nat.eq_zero_or_pos n with e | e
          · rw [e] at hj; simp at hj
          · exact e
        have h1 : j / n < n := Nat.div_lt_of_lt_mul hj
        have h2 := HV.out (j / n) (j % n) (by omega) (Nat.mod_lt _ hn0)
        rw [Nat.div_add_mod] at h2
        exact h2)
      clear HV HR
      go_wp2_with fail
      go_ret
      exact ⟨by rw [HF.out]; rfl, hb⟩
end Go.Proofs.YtnhdgellckcnbaaDoor.Gt
/- The document's Compose; GateComposes. -/
namespace Go.Proofs.YtnhdgellckcnbaaDoor.Gt
open Go.RowKit Go.Proofs.YtnhdgellckcnbaaDoor.Oct Go.Proofs.YtnhdgellckcnbaaDoor.Dy

theorem fnd_first {n a b k : Nat} : ∀ {l : List Nat}, l.Pairwise (· < ·) → k ∈ l → isP n a b k = true → (∀ x ∈ l, x < k → isP n a b x = false) → fnd n a b l = ((k : Int), true)
  | [], _, h, _, _ => by simp at h
  | y :: r, hp, hm, hk, hx => by
    rw [fnd]
    rw [List.pairwise_cons] at hp
    by_cases e : y = k
    · subst e
      rw [if_pos hk]
    · have hm' : k ∈ r := by
        rcases List.mem_cons.1 hm with h | h
        · exact absurd h.symm e
        · exact h
      have hy := hx y (by simp) (hp.1 k hm')
      rw [hy, if_neg (by simp)]
      exact fnd_first hp.2 hm' hk (fun x h => hx x (List.mem_cons_of_mem _ h))
theorem kq_facts : ∀ k : Fin 21, 1 ≤ k.1 → (kq (rw' (k.1 : Int)).q 20).Pairwise (· < ·) ∧ k.1 ∈ kq (rw' (k.1 : Int)).q 20 ∧ ∀ x ∈ kq (rw' (k.1 : Int)).q 20, 1 ≤ x ∧ x ≤ 20 ∧ (rw' (x : Int)).q = (rw' (k.1 : Int)).q := by decide +kernel
theorem rows_qq : ∀ k x : Fin 21, 1 ≤ k.1 → 1 ≤ x.1 → (rowsN k.1 = rowsN x.1 ↔ (rw' (k.1 : Int)).q = (rw' (x.1 : Int)).q) := by decide +kernel
theorem q_eq {k x : Nat} (h1 : 1 ≤ k) (h2 : k ≤ 20) (h3 : 1 ≤ x) (h4 : x ≤ 20) : rowsN k = rowsN x ↔ (rw' (k : Int)).q = (rw' (x : Int)).q := rows_qq ⟨k, by omega⟩ ⟨x, by omega⟩ h1 h3
theorem kn_inC {k : Nat} (h1 : 1 ≤ k) (h2 : k ≤ 20) : knB (rw' (k : Int)) = true := by
  have := (by decide +kernel : ∀ n : Fin 21, 1 ≤ n.1 → knB (rw' (n.1 : Int)) = true) ⟨k, by omega⟩ h1
  exact this
theorem idx_lt {n r c : Nat} (hr : r < n) (hc : c < n) : n * r + c < n * n := by
  have : n * r + n ≤ n * n := by rw [← Nat.mul_succ]; exact Nat.mul_le_mul_left _ hr
  omega
theorem cx_mbs {k n r c : Nat} (hk : k ≤ 20) (hn : n ≤ 8) (hr : r < n) (hc : c < n) : Cx (mbs k (n * r + c)) (mz k (n * r + c)) (-1) :=
  mz_cx k _ hk (by
    have h1 := idx_lt hr hc
    have h2 : n * n ≤ 8 * 8 := Nat.mul_le_mul hn hn
    omega)
theorem cx_mbs2 {k n r c : Nat} (hk : k ≤ 20) (hn : n ≤ 8) (hr : r < n) (hc : c < n) : Cx (mbs k (n * r + c)) (zdbl (mz k (n * r + c))) (-2) := by
  have h := cx_down (cx_mbs hk hn hr hc)
  rw [show ((-1 : Int) - 1) = -2 by decide] at h
  exact h
theorem dbl_le (k j : Nat) : zle (zdbl (mz k j)) 1048576 := by
  have h := mz_le k j
  refine ⟨?_, ?_⟩
  · show ((mz k j).1 * 2).natAbs ≤ _
    have := h.1
    omega
  · show ((mz k j).2 * 2).natAbs ≤ _
    have := h.2
    omega
theorem prod_le {n a b : Nat} (hn : n ≤ 8) (j : Nat) : zle (prodP n a b j) 1048576 := zle_mono (dot_small (mz_le b) (mz_le a) n) (by omega)
theorem alk_is {n a b k gk gp : Nat} (hn : n ≤ 8) (hk : k ≤ 20) {rk rp : Nat → Nat} {F : Nat → Nat → Nat × Nat} (w : World) (h1 : Dm w gk n rk (fun r c => mbs k (n * r + c))) (h2 : Dm w gp n rp F) (h3 : ∀ r c, r < n → c < n → Cx (F r c) (timP n (mz b) (mz a) (n * r + c)) (-2)) :
    Calls Tryd.prog 48 #[.slice (some ⟨gk, 0, none⟩) n n, .slice (some ⟨gp, 0, none⟩) n n] w fun e w' => e = .returned (.bool (isP n a b k)) ∧ Below w.heap.size w w' := by
  have := hAlike n gk gp (by omega) rk rp (fun r c => mbs k (n * r + c)) F (fun j => zdbl (mz k j)) (prodP n a b) (-2) (by omega) (by omega) (dbl_le k) (prod_le hn) w h1 h2 (fun r c hr hc => cx_mbs2 hk hn hr hc) h3
  unfold isP
  exact this
theorem tim_is {n a b ga gb : Nat} (hn : n ≤ 8) (ha : a ≤ 20) (hb : b ≤ 20) {ra rb' : Nat → Nat} (w : World) (hA : Dm w ga n ra (fun r c => mbs a (n * r + c))) (hB : Dm w gb n rb' (fun r c => mbs b (n * r + c))) :
    Calls Tryd.prog 47 #[.slice (some ⟨gb, 0, none⟩) n n, .slice (some ⟨ga, 0, none⟩) n n] w fun e w' => ∃ g rb F, e = .returned (.slice (some ⟨g, 0, none⟩) n n) ∧ Dm w' g n rb F ∧ (∀ r c, r < n → c < n → Cx (F r c) (timP n (mz b) (mz a) (n * r + c)) (-2)) ∧ Below w.heap.size w w' :=
  hTimes n gb ga (by omega) rb' ra (fun r c => mbs b (n * r + c)) (fun r c => mbs a (n * r + c)) (mz b) (mz a) (mz_le b) (mz_le a) w hB hA (fun r c hr hc => cx_mbs hb hn hr hc) (fun r c hr hc => cx_mbs ha hn hr hc)
set_option maxRecDepth 100000 in
set_option maxHeartbeats 4000000 in
theorem hCompose_in (a b : Nat) (ha1 : 1 ≤ a) (ha2 : a ≤ 20) (hb1 : 1 ≤ b) (hb2 : b ≤ 20) (hr : rowsN a = rowsN b) (w : World) :
    Calls Tryd.prog 16 #[.int .i64 (a : Int), .int .i64 (b : Int)] w fun e w' => e = .returned (.tuple #[.int .i64 (fnd (rowsN a) a b (kq (rw' (a : Int)).q 20)).1, .bool (fnd (rowsN a) a b (kq (rw' (a : Int)).q 20)).2]) ∧ Below w.heap.size w w' := by
  obtain ⟨R, hR⟩ : ∃ R, fnd (rowsN a) a b (kq (rw' (a : Int)).q 20) = R := ⟨_, rfl⟩
  rw [hR]
  have HR := hide hR
  have hqq := (q_eq ha1 ha2 hb1 hb2).1 hr
  have cIa := fun w => hIs (a : Int) w
  have cIb := fun w => hIs (b : Int) w
  rw [kn_inC ha1 ha2] at cIa
  rw [kn_inC hb1 hb2] at cIb
  have cAa := fun w => hArity (a : Int) w
  have cAb := fun w => hArity (b : Int) w
  rw [← hqq] at cAb
  have cMa := fun w => hMat a ha1 ha2 w
  have cMb := fun w => hMat b hb1 hb2 w
  rw [← hr] at cMb
  have cMk := hMat
  unfold DPost at cMa cMb cMk
  have hn8 : rowsN a ≤ 8 := by rcases rowsN_is a with e | e | e <;> omega
  have cT := fun w ga gb ra rb' hA hB => tim_is (n := rowsN a) (ga := ga) (gb := gb) (ra := ra) (rb' := rb') hn8 ha2 hb2 w hA hB
  have HK : Hid (∀ k, 1 ≤ k → k ≤ 20 → rowsN k = rowsN a → (∀ x, 1 ≤ x → x < k → rowsN x = rowsN a → isP (rowsN a) a b x = false) → isP (rowsN a) a b k = true → R = ((k : Int), true)) := hide (fun k k1 k2 k3 k4 k5 => by
    rw [← HR.out]
    have f := kq_facts ⟨a, by omega⟩ ha1
    have fk := kq_facts ⟨k, by omega⟩ k1
    dsimp only at f fk
    have hqk := (q_eq k1 k2 ha1 ha2).1 k3
    refine fnd_first f.1 (by rw [← hqk]; exact fk.2.1) k5 (fun x hx hlt => ?_)
    have := f.2.2 x hx
    exact k4 x this.1 hlt ((q_eq this.1 this.2.1 ha1 ha2).2 this.2.2))
  have HN : Hid ((∀ x, 1 ≤ x → x < 21 → rowsN x = rowsN a → isP (rowsN a) a b x = false) → R = (0, false)) := hide (fun h => by
    rw [← HR.out]
    refine fnd_none (fun j x hj => ?_)
    have f := kq_facts ⟨a, by omega⟩ ha1
    dsimp only at f
    have := f.2.2 x (List.mem_of_getElem? hj)
    exact h x this.1 (by omega) ((q_eq this.1 this.2.1 ha1 ha2).2 this.2.2))
  have HAK : Hid (∀ (w : World) (k gk gp : Nat) (rk rp : Nat → Nat) (F : Nat → Nat → Nat × Nat), k ≤ 20 → Dm w gk (rowsN a) rk (fun r c => mbs k (rowsN a * r + c)) → Dm w gp (rowsN a) rp F → (∀ r c, r < rowsN a → c < rowsN a → Cx (F r c) (timP (rowsN a) (mz b) (mz a) (rowsN a * r + c)) (-2)) →
      Calls Tryd.prog 48 #[.slice (some ⟨gk, 0, none⟩) (rowsN a) (rowsN a), .slice (some ⟨gp, 0, none⟩) (rowsN a) (rowsN a)] w fun e w' => e = .returned (.bool (isP (rowsN a) a b k)) ∧ Below w.heap.size w w') := hide (fun w k gk gp rk rp F hk h1 h2 h3 => alk_is hn8 hk w h1 h2 h3)
  have h2 : 2 ≤ rowsN a := by rcases rowsN_is a with e | e | e <;> omega
  generalize rowsN a = n at *
  generalize (rw' (a : Int)).q = q at *
  clear hR HR hr hqq ha1 ha2 hb1 hb2
  have HT := hide cT
  have HMK := hide cMk
  clear cT cMk
  go_enter Tryd.func16, Tryd.ntmps16
  go_wp2_with fail
  refine (cIa _).mono ?_
  rintro e w01 ⟨rfl, hw⟩
  obtain rfl := hw.symm
  go_wp2_with fail
  refine (cIb _).mono ?_
  rintro e w02 ⟨rfl, hw⟩
  obtain rfl := hw.symm
  go_wp2_with fail
  refine (cAa _).mono ?_
  rintro e w03 ⟨rfl, hw⟩
  obtain rfl := hw.symm
  go_wp2_with fail
  refine (cAb _).mono ?_
  rintro e w04 ⟨rfl, hw⟩
  obtain rfl := hw.symm
  clear cIa cIb cAa cAb
  go_wp2_with fail
  refine (cMa _).mono ?_
  rintro e w1 ⟨ga, ra, rfl, hA, _, _, q1⟩
  go_wp2_with fail
  refine (cMb _).mono ?_
  rintro e w2 ⟨gb, rb', rfl, hB, _, _, q2⟩
  replace hA := hA.below q2
  replace q2 := q1.trans (q2.mono q1.size)
  go_wp2_with fail
  refine (HT.out _ ga gb ra rb' hA hB).mono ?_
  rintro e w3 ⟨gp, rp, F, rfl, hP, vP, q3⟩
  replace q3 := q2.trans (q3.mono q2.size)
  have HP := hide hP
  have VP := hide vP
  clear q1 q2 hA hB hP vP cMa cMb HT
  go_wp2_with fail
  go_loopw [11, 12, 13] (fun vk _ _ wr => ∃ k : Nat, vk = .int .i64 (k : Int) ∧ 1 ≤ k ∧ k ≤ 21 ∧ Hid (∀ x, 1 ≤ x → x < k → rowsN x = n → isP n a b x = false) ∧ Hid (Dm wr gp n rp F) ∧ Below w.heap.size w wr) (fun vk _ _ _ => 21 - (Go.RowKit.intOf vk).toNat)
  case atStart => exact ⟨1, rfl, by omega, by omega, hide (fun x h1 h2 => by omega), HP, q3⟩
  case round =>
    clear HP q3
    obtain ⟨k, rfl, hk1, hk2, HX, HP, hb⟩ := hrel
    by_cases h : k ≤ 20
    · have hd : decide ((k : Int) ≤ 20) = true := decide_eq_true (by omega)
      have cM := fun w => HMK.out k hk1 h w
      by_cases hrk : rowsN k = n
      · rw [hrk] at cM
        have cL := fun w gk rk h1 h2 => HAK.out w k gk gp rk rp F h h1 h2 VP.out
        have HK1 := hide (HK.out k hk1 h hrk HX.out)
        have HX2 : Hid (isP n a b k = false → ∀ x, 1 ≤ x → x < k + 1 → rowsN x = n → isP n a b x = false) := hide (fun hf x h1 h2 h3 => by
          by_cases e : x = k
          · rw [e]; exact hf
          · exact HX.out x h1 (by omega) h3)
        generalize isP n a b k = P at *
        clear HX HK HN HAK hrk HMK
        go_wp2_with fail
        refine (cM _).mono ?_
        rintro e w4 ⟨gk, rk, rfl, hK, _, _, q4⟩
        have hP4 := HP.out.below q4
        replace q4 := hb.trans (q4.mono hb.size)
        clear HP hb cM
        go_wp2_with fail
        refine (cL _ gk rk hK hP4).mono ?_
        rintro e w5 ⟨rfl, q5⟩
        have HP5 := hide (hP4.below q5)
        replace q5 := q4.trans (q5.mono q4.size)
        clear hK hP4 cL q4
        cases P
        · have HX3 := hide (HX2.out rfl)
          clear HX2 HK1
          go_wp2_with fail
          exact ⟨⟨k + 1, by go_num, by omega, by omega, HX3, HP5, q5⟩, by simp [Go.RowKit.intOf]; omega⟩
        · have HF := hide (HK1.out rfl)
          clear HX2 HK1
          go_wp2_with fail
          go_ret2
          exact ⟨by rw [HF.out]; rfl, q5⟩
      · have cL := fun w gk gp => hAlike_no (rowsN k) n hrk (some ⟨gk, 0, none⟩) (some ⟨gp, 0, none⟩) (rowsN k) n w
        have HX2 : Hid (∀ x, 1 ≤ x → x < k + 1 → rowsN x = n → isP n a b x = false) := hide (fun x h1 h2 h3 => by
          by_cases e : x = k
          · rw [e] at h3; exact absurd h3 hrk
          · exact HX.out x h1 (by omega) h3)
        generalize rowsN k = m at *
        clear HX HK HN HAK hrk HMK
        go_wp2_with fail
        refine (cM _).mono ?_
        rintro e w4 ⟨gk, rk, rfl, hK, _, _, q4⟩
        have HP4 := hide (HP.out.below q4)
        replace q4 := hb.trans (q4.mono hb.size)
        clear HP hb cM hK
        go_wp2_with fail
        refine (cL _ gk gp).mono ?_
        rintro e w5 ⟨rfl, hw5⟩
        obtain rfl := hw5
        clear cL
        go_wp2_with fail
        exact ⟨⟨k + 1, by go_num, by omega, by omega, HX2, HP4, q4⟩, by simp [Go.RowKit.intOf]; omega⟩
    · have hd : decide ((k : Int) ≤ 20) = false := decide_eq_false (by omega)
      have HF : Hid (R = (0, false)) := hide (HN.out (fun x h1 h2 h3 => HX.out x h1 (by omega) h3))
      clear HX HK HN HAK HMK
      go_wp2_with fail
      go_ret2
      exact ⟨by rw [HF.out]; rfl, hb⟩
set_option maxRecDepth 100000 in
set_option maxHeartbeats 1000000 in
theorem hCompose (a b : Int) (w : World) : Calls Tryd.prog 16 #[.int .i64 a, .int .i64 b] w fun e w' => e = .returned (.tuple #[.int .i64 (cmpP a b).1, .bool (cmpP a b).2]) ∧ Below w.heap.size w w' := by
  by_cases h : (1 ≤ a ∧ a ≤ 20) ∧ (1 ≤ b ∧ b ≤ 20) ∧ rowsN a.toNat = rowsN b.toNat
  · unfold cmpP
    rw [if_pos h]
    obtain ⟨x, rfl⟩ : ∃ x : Nat, a = (x : Int) := ⟨a.toNat, by omega⟩
    obtain ⟨y, rfl⟩ : ∃ y : Nat, b = (y : Int) := ⟨b.toNat, by omega⟩
    rw [Int.toNat_natCast, Int.toNat_natCast] at *
    exact hCompose_in x y (by omega) (by omega) (by omega) (by omega) h.2.2 w
  · unfold cmpP
    rw [if_neg h]
    have cIa := fun w => hIs a w
    have cIb := fun w => hIs b w
    have cAa := fun w => hArity a w
    have cAb := fun w => hArity b w
    have H : Hid (knB (rw' a) = true → knB (rw' b) = true → ((rw' a).q != (rw' b).q) = true) := hide (fun ka kb => by
      have ra := kn_range ka
      have rb := kn_range kb
      obtain ⟨x, rfl⟩ : ∃ x : Nat, a = (x : Int) := ⟨a.toNat, by omega⟩
      obtain ⟨y, rfl⟩ : ∃ y : Nat, b = (y : Int) := ⟨b.toNat, by omega⟩
      rw [Int.toNat_natCast, Int.toNat_natCast] at h
      have := (not_congr (q_eq (k := x) (x := y) (by omega) (by omega) (by omega) (by omega))).1 (fun e => h ⟨ra, rb, e⟩)
      simpa using this)
    clear h
    generalize (rw' a).q = qa at *
    generalize (rw' b).q = qb at *
    generalize knB (rw' a) = ka at *
    generalize knB (rw' b) = kb at *
    cases ka
    · clear cIb cAa cAb H
      go_enter Tryd.func16, Tryd.ntmps16
      go_wp2_with fail
      refine (cIa _).mono ?_
      rintro e w1 ⟨rfl, hw⟩
      obtain rfl := hw
      go_wp2_with fail
      go_ret2
      exact ⟨rfl, Below.refl _ _⟩
    · cases kb
      · clear cAa cAb H
        go_enter Tryd.func16, Tryd.ntmps16
        go_wp2_with fail
        refine (cIa _).mono ?_
        rintro e w1 ⟨rfl, hw⟩
        obtain rfl := hw
        go_wp2_with fail
        refine (cIb _).mono ?_
        rintro e w2 ⟨rfl, hw⟩
        obtain rfl := hw
        go_wp2_with fail
        go_ret2
        exact ⟨rfl, Below.refl _ _⟩
      · have hq := H.out rfl rfl
        clear H
        go_enter Tryd.func16, Tryd.ntmps16
        go_wp2_with fail
        refine (cIa _).mono ?_
        rintro e w1 ⟨rfl, hw⟩
        obtain rfl := hw
        go_wp2_with fail
        refine (cIb _).mono ?_
        rintro e w2 ⟨rfl, hw⟩
        obtain rfl := hw
        go_wp2_with fail
        refine (cAa _).mono ?_
        rintro e w3 ⟨rfl, hw⟩
        obtain rfl := hw
        go_wp2_with fail
        refine (cAb _).mono ?_
        rintro e w4 ⟨rfl, hw⟩
        obtain rfl := hw
        go_wp2_with fail
        go_ret2
        exact ⟨rfl, Below.refl _ _⟩
set_option maxRecDepth 100000 in
set_option maxHeartbeats 1000000 in
theorem xGateComposes (a b : Int) (w : World) (hT : Tb w) (hD : Td w) : Calls Tryd.prog 4 #[.int .i64 a, .int .i64 b] w fun e w' => e = .returned (.bool true) ∧ Below w.heap.size w w' := by
  have c1 := gCompose a b w hT hD
  have c2 := fun w => hCompose a b w
  generalize cmpP a b = R at *
  go_enter Tryd.func4, Tryd.ntmps4
  go_wp2_with fail
  refine c1.mono ?_
  rintro e w1 ⟨rfl, q1⟩
  go_wp2_with fail
  refine (c2 _).mono ?_
  rintro e w2 ⟨rfl, q2⟩
  replace q2 := q1.trans (q2.mono q1.size)
  go_wp2_with fail
  refine (jAlive _ (hT.below q2) (hD.below q2)).mono ?_
  rintro e w3 ⟨rfl, q3⟩
  replace q3 := q2.trans (q3.mono q2.size)
  go_wp2_with fail
  go_ret
  exact ⟨by simp, q3⟩
end Go.Proofs.YtnhdgellckcnbaaDoor.Gt
/- GateComposes answers true for every two kinds: Compose answers what the document's answers. Condition: the two listed variables lie as the program's text lays them (the card ties them to the text). -/
namespace Go.Proofs.YtnhdgellckcnbaaDoor.Gt
open Go.ChangeShapes Go.WideShapes Go.ChangeAt Go.RowKit
namespace gateComposes
theorem readable : ∀ t ∈ Tryd.f4.params.toList, Tryd.prog.readableRec t = true ∧ t < Tryd.prog.types.size := by
  rw [Tryd.params4]
  intro t ht
  simp at ht
  rcases ht with rfl <;> exact ⟨by kernel_rfl, of_decide_eq_true (by kernel_rfl)⟩
set_option maxRecDepth 100000 in
theorem contract (H : Type) (enc : TypeId × Value → H) (W : World) (base : Nat) (args : Array Value) (ds gs : List (DataW H)) (before : List MemPlace)
    (hval : ∀ (j : Nat) t v, Tryd.f4.params[j]? = some t → args[j]? = some v → Value.okWide Tryd.prog W .any base t v)
    (hW : DataW.Whole enc Tryd.prog Tryd.f4.params.toList Rows.gateComposesSpec.vars false W args.toList ds gs before) 
    (hsz : (DataW.weightsEach Tryd.prog (Tryd.f4.params.toList ++ (OpenSpec.ofChange Rows.gateComposesSpec).bare.plain.varTypes Tryd.prog) (ds ++ gs)).all (· ≤ reachBytes) = true) (hL : laidMetH Tryd.prog Rows.gateComposesRow.laid W) :
    Calls Tryd.prog 4 args W fun e W' => ∃ v, e = .returned v ∧ Rows.gateComposesSpec.post enc Tryd.prog Tryd.f4 false true false false W args v W' := by
  have hT : Tb W ∧ Td W := tg_of (plain8 hL)
  have hW0 := hW
  obtain ⟨p, q, hA, hV, rfl, _, _⟩ := hW
  obtain ⟨rfl, rfl⟩ := trodVars_none hV
  have hA' : DataW.TrodAll enc Tryd.prog W 0 (fun _ => true) true Tryd.f4.params.toList args.toList ds p := hA
  rw [Tryd.params4] at hA' hval
  have hfin : ∀ dd : List (DataW H), ds = dd → (Rows.gateComposesSpec.fn H dd).results = [.lit (.bool true)] ∧ (Rows.gateComposesSpec.fn H dd).args = dd ∧ (Rows.gateComposesSpec.fn H dd).vars = [] → ∀ W', Below W.heap.size W W' → Rows.gateComposesSpec.post enc Tryd.prog Tryd.f4 false true false false W args (.bool true) W' := by
    rintro dd rfl hs W' hb
    exact law_post (enc := enc) Tryd.f4 Rows.gateComposesSpec 4 laidOut rfl readable (by kernel_rfl) Tryd.underlying4 hW0 hs hb
  obtain ⟨v0, v1, d0, d1, p0, p1, rfl, rfl, rfl, h0, h1⟩ := trodAll_two hA'
  have hwalk : Calls Tryd.prog 4 #[v0, v1] W fun e W' => e = .returned (.bool true) ∧ Below W.heap.size W W' := by
    obtain ⟨x0, rfl, rfl, rfl, k0⟩ := open_int Tryd.underlying22 (hval 0 _ v0 rfl rfl) h0
    obtain ⟨x1, rfl, rfl, rfl, k1⟩ := open_int Tryd.underlying22 (hval 1 _ v1 rfl rfl) h1
    exact xGateComposes x0 x1 W hT.1 hT.2
  refine hwalk.mono ?_
  rintro e W' ⟨rfl, hb⟩
  exact ⟨_, rfl, hfin _ rfl ⟨rfl, rfl, rfl⟩ W' hb⟩
theorem laid_met (os : Os) (args : Array Value) : laidMet Tryd.prog Rows.gateComposesRow.laid ((laidWorld os).forCall (fun _ _ => 0) ⟨#[], args, []⟩).memory :=
  laid_met8 os args
theorem reads (os : Os) {H : Type} (enc : TypeId × Value → H) : ∃ places, DataW.whole enc Tryd.prog ((laidWorld os).forCall (fun _ _ => 0) ⟨#[], #[.int .i64 1, .int .i64 1], []⟩).memory Tryd.f4.params.toList Rows.gateComposesSpec.vars false #[(.int .i64 1 : Value), .int .i64 1].toList 8 = some ([.lit (.int .i64 1), .lit (.int .i64 1)], [], places) :=
  ⟨[], by kernel_rfl⟩

set_option maxRecDepth 100000 in
theorem lifted (os : Os) (started : os.Started) (H : Type) (enc : TypeId × Value → H) (F : Stop.Interp) :
    ReturnsInHanded {} Tryd.checked os 4 .any ((OpenSpec.ofChange Rows.gateComposesSpec).preRow enc Tryd.prog Tryd.f4 Rows.gateComposesRow.domain false Rows.gateComposesRow.laid) (((OpenSpec.ofChange Rows.gateComposesSpec).at F).post enc Tryd.prog Tryd.f4 false true false false) := by
  obtain ⟨places, hx⟩ := reads os enc
  refine returnsInHanded_of_row (C := Tryd.checked) (s := OpenSpec.ofChange Rows.gateComposesSpec) own started (by kernel_rfl) Tryd.func4
    (witness_row_shaped (enc := enc) (C := Tryd.checked) false (laidWorld os) #[.int .i64 1, .int .i64 1] (laidWorld_os os) (shaped8 os _) (by kernel_rfl)
      (OpenSpec.preRow_of_cond 8 hx (by kernel_rfl) (fun k hk => by cases hk) (by kernel_rfl) (laid_met os _))) ?_
  intro W base args ds gs before hval hW _ _ hsz hL _ _
  exact contract H enc W base args ds gs before hval hW hsz hL
theorem said : Rows.GateComposesSaid :=
  OpenClaim.holds_of_cond 4 Tryd.f4 rfl rfl rfl rfl rfl rfl rfl ⟨rfl, rfl, rfl, rfl, rfl⟩ rfl rfl rfl rfl rfl (by kernel_rfl) Tryd.func4 (by kernel_rfl)
    (of_decide_eq_true (by kernel_rfl)) (by unfold Func.isWrapper; first | (rw [if_pos (by decide +kernel)]; kernel_rfl) | (rw [if_neg (by decide +kernel)]; exact ⟨rfl, rfl⟩))
    (fun os started H enc _ F => by rw [OpenClaim.pre_eq_preRow]; exact lifted os started H enc F)
/-- No parameter wants a stand-in; the program's own looks are off. -/
theorem plain (f : FuncId) (fn : Func) (hf : Tryd.pinned.checked.prog.funcNamed "phasor/phasorlaw06.GateComposes" = some f) (hfn : Tryd.pinned.checked.prog.funcs[f]? = some fn) :
    false = Tryd.pinned.checked.prog.looks [] ∧ ∀ (j : Nat) t, fn.params[j]? = some t → Tryd.pinned.checked.prog.wantsStandIn t = false := by
  obtain rfl : f = 4 := Option.some.inj ((show Tryd.prog.funcNamed "phasor/phasorlaw06.GateComposes" = some 4 by kernel_rfl).symm.trans hf) |>.symm
  obtain rfl : fn = Tryd.f4 := (Option.some.inj (Tryd.func4.symm.trans hfn)).symm
  refine ⟨by kernel_rfl, fun j t ht => ?_⟩
  rw [Tryd.params4] at ht
  have hm := Array.mem_of_getElem? ht
  simp at hm
  rcases hm with rfl
  · exact (show Tryd.prog.wantsStandIn 22 = false by kernel_rfl)
end gateComposes
end Go.Proofs.YtnhdgellckcnbaaDoor.Gt
namespace Go.Proofs.YtnhdgellckcnbaaDoor
open Go
/-- The card. -/
theorem GateComposes_card : Rows.GateComposesCardSaid :=
  Claim7.holds_tied_plain_at .later [] _ _ _ _ Gt.gateComposes.said (fun _ h => by cases h) (by kernel_rfl) (fun _ h => by cases h) gateComposes_row_tie rfl ⟨rfl, rfl⟩ (by kernel_rfl) rfl Gt.gateComposes.plain (by kernel_rfl)
end Go.Proofs.YtnhdgellckcnbaaDoor
