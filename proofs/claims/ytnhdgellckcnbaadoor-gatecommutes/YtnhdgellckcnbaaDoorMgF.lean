/- GateCommutes answers true for every two kinds and all qubits: Commute answers what the document's answers, and what is handed in stays. Condition: the two listed variables lie as the program's text lays them (the card ties them to the text). -/
import Derived.Test.YtnhdgellckcnbaaDoorMgC
import Derived.BigQuiet
import Derived.Test.YtnhdgellckcnbaaDoorAv
import Derived.Test.YtnhdgellckcnbaaDoorAw
import Derived.Test.YtnhdgellckcnbaaDoorXa
import Derived.Test.YtnhdgellckcnbaaDoorAy
import Derived.Deep.Upon
import Derived.Test.YtnhdgellckcnbaaDoorAp
import Derived.Test.YtnhdgellckcnbaaDoorFr6
/- The document's Times. -/
namespace Go.Proofs.YtnhdgellckcnbaaDoor.Gt
open Go.RowKit Go.Proofs.YtnhdgellckcnbaaDoor.Oct Go.Proofs.YtnhdgellckcnbaaDoor.Dy

theorem infoZ3 : (Tryd.prog.info? 66).map (fun i => (i.zero, i.size, i.bytes)) = some (some (.agg #[.float .f64 0, .float .f64 0]), 2, 16) := by kernel_rfl
theorem infoZZ : (Tryd.prog.info? 62).map (fun i => (i.zero, i.size, i.bytes)) = some (some (.slice none 0 0), 1, 24) := by kernel_rfl
def zRow (n : Nat) : Array Value := madeCells #[.float .f64 0, .float .f64 0] (n * 2)
theorem make_z (n : Nat) (hn : n ≤ 4096) (w : World) : (Instr.makeSlice 62 (.int .i64 (n : Int)) (.int .i64 (n : Int))).run Tryd.prog w = .ok (.slice (some ⟨w.heap.size, 0, none⟩) n n) (w.alloc (.cells (zRow n) 66)) := by
  obtain ⟨i, hi, hz⟩ := Option.map_eq_some_iff.1 infoZ3
  simp only [Prod.mk.injEq] at hz
  obtain ⟨h1, h2, h3⟩ := hz
  have hr := run_make (P := Tryd.prog) w 62 66 i _ Tryd.underlying62 hi h1 .i64 .i64 n n (by omega) (Int.le_refl _) (by rw [h3]; omega) (by omega)
  rw [h2, Int.toNat_natCast] at hr
  exact hr
theorem make_zz (n : Nat) (hn : n ≤ 4096) (w : World) : (Instr.makeSlice 29 (.int .i64 (n : Int)) (.int .i64 (n : Int))).run Tryd.prog w = .ok (.slice (some ⟨w.heap.size, 0, none⟩) n n) (w.alloc (.cells (madeCells #[.slice none 0 0] n) 62)) :=
  run_make_row' 29 62 (.slice none 0 0) 24 Tryd.underlying29 infoZZ rfl .i64 .i64 n (by omega) (by omega) w
theorem zRow_size (n : Nat) : (zRow n).size = n * 2 := size_madeCells _ _
theorem zRow_at (n i : Nat) (h : i < n * 2) : (zRow n)[i]? = some (.float .f64 0) := by
  have h2 : i % 2 = 0 ∨ i % 2 = 1 := by omega
  unfold zRow madeCells
  rw [Array.getElem?_map, Array.getElem?_range, if_pos h]
  rcases h2 with e | e <;> simp [e]
/-- The square as it is being made: its first m rows lie. -/
structure Dr (w : World) (g n m : Nat) (rb : Nat → Nat) (f : Nat → Nat → Nat × Nat) : Prop where
  top : Rk w g 62 n (fun r => if r < m then .slice (some ⟨rb r, 0, none⟩) n n else .slice none 0 0)
  rows : ∀ r, r < m → Rk w (rb r) 66 (2 * n) (fun j => .float .f64 (if j % 2 = 0 then (f r (j / 2)).1 else (f r (j / 2)).2))
  inj : ∀ r s, r < m → s < m → rb r = rb s → r = s
  ne : ∀ r, r < m → rb r ≠ g
namespace Dr
variable {w : World} {g n m : Nat} {rb : Nat → Nat} {f f' : Nat → Nat → Nat × Nat}
theorem whole (h : Dr w g n n rb f) : Dm w g n rb f := ⟨h.top.congr (fun _ hi => if_pos hi), h.rows, h.inj, h.ne⟩
theorem below {w' : World} (h : Dr w g n m rb f) (hb : Below w.heap.size w w') : Dr w' g n m rb f := ⟨h.top.below hb, fun r hr => (h.rows r hr).below hb, h.inj, h.ne⟩
theorem congr (h : Dr w g n m rb f) (e : ∀ r c, r < m → c < n → f r c = f' r c) : Dr w g n m rb f' := ⟨h.top, fun r hr => (h.rows r hr).congr (fun j hj => by rw [e r (j / 2) hr (by omega)]), h.inj, h.ne⟩
theorem row (h : Dr w g n m rb f) {r : Nat} (hr : r < m) (hn : r < n) : w.cell? ⟨g, r, none⟩ = some (.slice (some ⟨rb r, 0, none⟩) n n) := by
  rw [h.top.cell r hn, if_pos hr]
theorem re (h : Dr w g n m rb f) {r c : Nat} (hr : r < m) (hc : c < n) : w.cell? ⟨rb r, c * 2, none⟩ = some (.float .f64 (f r c).1) := by
  have := (h.rows r hr).cell (c * 2) (by omega)
  rw [this]
  simp
theorem im (h : Dr w g n m rb f) {r c : Nat} (hr : r < m) (hc : c < n) : w.cell? ⟨rb r, c * 2 + 1, none⟩ = some (.float .f64 (f r c).2) := by
  have := (h.rows r hr).cell (c * 2 + 1) (by omega)
  rw [this, if_neg (by omega), show (c * 2 + 1) / 2 = c by omega]
theorem set (h : Dr w g n m rb f) {r c : Nat} (hr : r < m) (p : Nat × Nat) :
    Dr ((w.setCell ⟨rb r, c * 2, none⟩ (.float .f64 p.1)).setCell ⟨rb r, c * 2 + 1, none⟩ (.float .f64 p.2)) g n m rb (fun i j => if i = r ∧ j = c then p else f i j) := by
  refine ⟨(h.top.far (fun e => h.ne r hr e.symm) _).far (fun e => h.ne r hr e.symm) _, fun s hs => ?_, h.inj, h.ne⟩
  by_cases e : s = r
  · subst e
    refine (((h.rows s hs).set (c * 2) _).set (c * 2 + 1) _).congr (fun j hj => ?_)
    by_cases e1 : j = c * 2 + 1
    · subst e1
      rw [if_pos rfl, if_neg (by omega), show (c * 2 + 1) / 2 = c by omega, if_pos ⟨rfl, rfl⟩]
    · rw [if_neg e1]
      by_cases e2 : j = c * 2
      · subst e2
        rw [if_pos rfl, if_pos (by omega), show (c * 2) / 2 = c by omega, if_pos ⟨rfl, rfl⟩]
      · rw [if_neg e2]
        have : ¬ j / 2 = c := by omega
        simp only [this, and_false, if_false]
  · have hne : rb s ≠ rb r := fun e' => e (h.inj s r hs hr e')
    refine ((((h.rows s hs).far (a := ⟨rb r, c * 2, none⟩) hne _).far (a := ⟨rb r, c * 2 + 1, none⟩) hne _)).congr (fun j hj => ?_)
    simp only [e, false_and, if_false]
theorem step (h : Dr w g n m rb f) :
    Dr ((w.alloc (.cells (zRow n) 66)).setCell ⟨g, m, none⟩ (.slice (some ⟨w.heap.size, 0, none⟩) n n)) g n (m + 1) (fun r => if r = m then w.heap.size else rb r) (fun r c => if r = m then (0, 0) else f r c) := by
  have hb := below_new w (.cells (zRow n) 66)
  have hg := h.top.lt
  refine ⟨((h.top.below hb).set m _).congr (fun i hi => ?_), fun r hr => ?_, fun r s hr hs e => ?_, fun r hr => ?_⟩
  · by_cases e : i = m
    · subst e
      rw [if_pos rfl, if_pos (by omega), if_pos rfl]
    · rw [if_neg e, if_neg e]
      by_cases e2 : i < m
      · rw [if_pos e2, if_pos (by omega)]
      · rw [if_neg e2, if_neg (by omega)]
  · by_cases e : r = m
    · subst e
      rw [if_pos rfl]
      refine Rk.far ⟨zRow n, heap_alloc_new _ _, by rw [zRow_size]; omega, fun i hi => ?_⟩ (by dsimp only; omega) _
      rw [zRow_at n i (by omega)]
      simp
    · rw [if_neg e]
      refine (((h.rows r (by omega)).below hb).far (h.ne r (by omega)) _).congr (fun j _ => ?_)
      rw [if_neg e]
  · have lt := fun i (hi : i < m) => (h.rows i hi).lt
    by_cases er : r = m
    · by_cases es : s = m
      · omega
      · rw [if_pos er, if_neg es] at e
        have := lt s (by omega)
        omega
    · by_cases es : s = m
      · rw [if_neg er, if_pos es] at e
        have := lt r (by omega)
        omega
      · rw [if_neg er, if_neg es] at e
        exact h.inj r s (by omega) (by omega) e
  · by_cases e : r = m
    · rw [if_pos e]; omega
    · rw [if_neg e]; exact h.ne r (by omega)
end Dr
/-- One more product is added, part by part, as the document does it. -/
theorem step_re {s a b : Nat × Nat} {zs za zb : Int × Int} (hs : Cx s zs (-2)) (ha : Cx a za (-1)) (hb : Cx b zb (-1)) (ls : zle zs 1048576) (la : zle za 1024) (lb : zle zb 1024) :
    ∃ x1 x2 x3 x4, floatBits .mul .f64 a.1 b.1 = some x1 ∧ floatBits .add .f64 s.1 x1 = some x2 ∧ floatBits .mul .f64 a.2 b.2 = some x3 ∧ floatBits .sub .f64 x2 x3 = some x4 ∧ Fl x4 (zadd zs (zmul za zb)).1 (-2) := by
  have s1 := ls.1; have a1 := la.1; have a2 := la.2; have b1 := lb.1; have b2 := lb.2
  obtain ⟨x1, e1, f1⟩ := fl_mul ha.1 hb.1 (by omega) (by omega) (by omega) (by omega) (by omega) (by omega)
  obtain ⟨x3, e3, f3⟩ := fl_mul ha.2 hb.2 (by omega) (by omega) (by omega) (by omega) (by omega) (by omega)
  have m1 := natAbs_mul_le a1 b1
  have m2 := natAbs_mul_le a2 b2
  obtain ⟨x2, e2, f2⟩ := fl_add (d := zs.1 + za.1 * zb.1) (f := -2) hs.1 f1 (by omega) (by omega) (by omega) (by omega) (by omega) (by omega) (by omega) (by rw [Int.add_mul]; rfl)
  obtain ⟨x4, e4, f4⟩ := fl_sub (d := zs.1 + za.1 * zb.1 - za.2 * zb.2) (f := -2) f2 f3 (by omega) (by omega) (by omega) (by omega) (by omega) (by omega) (by omega) (by rw [Int.sub_mul]; rfl)
  refine ⟨x1, x2, x3, x4, e1, e2, e3, e4, ?_⟩
  rw [show (zadd zs (zmul za zb)).1 = zs.1 + za.1 * zb.1 - za.2 * zb.2 by show zs.1 + (za.1 * zb.1 - za.2 * zb.2) = _; omega]
  exact f4
theorem step_im {s a b : Nat × Nat} {zs za zb : Int × Int} (hs : Cx s zs (-2)) (ha : Cx a za (-1)) (hb : Cx b zb (-1)) (ls : zle zs 1048576) (la : zle za 1024) (lb : zle zb 1024) :
    ∃ x1 x2 x3 x4, floatBits .mul .f64 a.1 b.2 = some x1 ∧ floatBits .add .f64 s.2 x1 = some x2 ∧ floatBits .mul .f64 a.2 b.1 = some x3 ∧ floatBits .add .f64 x2 x3 = some x4 ∧ Fl x4 (zadd zs (zmul za zb)).2 (-2) := by
  have s1 := ls.2; have a1 := la.1; have a2 := la.2; have b1 := lb.1; have b2 := lb.2
  obtain ⟨x1, e1, f1⟩ := fl_mul ha.1 hb.2 (by omega) (by omega) (by omega) (by omega) (by omega) (by omega)
  obtain ⟨x3, e3, f3⟩ := fl_mul ha.2 hb.1 (by omega) (by omega) (by omega) (by omega) (by omega) (by omega)
  have m1 := natAbs_mul_le a1 b2
  have m2 := natAbs_mul_le a2 b1
  obtain ⟨x2, e2, f2⟩ := fl_add (d := zs.2 + za.1 * zb.2) (f := -2) hs.2 f1 (by omega) (by omega) (by omega) (by omega) (by omega) (by omega) (by omega) (by rw [Int.add_mul]; rfl)
  obtain ⟨x4, e4, f4⟩ := fl_add (d := zs.2 + za.1 * zb.2 + za.2 * zb.1) (f := -2) f2 f3 (by omega) (by omega) (by omega) (by omega) (by omega) (by omega) (by omega) (by rw [Int.add_mul (zs.2 + za.1 * zb.2)]; rfl)
  refine ⟨x1, x2, x3, x4, e1, e2, e3, e4, ?_⟩
  rw [show (zadd zs (zmul za zb)).2 = zs.2 + za.1 * zb.2 + za.2 * zb.1 by show zs.2 + (za.1 * zb.2 + za.2 * zb.1) = _; omega]
  exact f4
theorem snd_set6 {w : World} {g : Nat} {x0 x1 : Value} {t : TypeId} (h : w.heap[g]? = some (.cells #[x0, x1] t)) (y1 : Value) : (w.setCell ⟨g, 1, none⟩ y1).heap[g]? = some (.cells #[x0, y1] t) := by
  simp [World.setCell, Array.getElem?_modify, h]
/-- The product of two squares, entry by entry. -/
def timP (n : Nat) (A B : Nat → Int × Int) (j : Nat) : Int × Int := dotS n A B (j / n) (j % n) n
theorem tim_at {n : Nat} (A B : Nat → Int × Int) {r c : Nat} (hc : c < n) : timP n A B (n * r + c) = dotS n A B r c n := by
  unfold timP
  rw [Nat.mul_add_div (by omega), Nat.div_eq_of_lt hc, Nat.add_zero, Nat.mul_add_mod, Nat.mod_eq_of_lt hc]
theorem dot_small {n : Nat} {A B : Nat → Int × Int} {row col : Nat} (hA : ∀ j, zle (A j) 2) (hB : ∀ j, zle (B j) 2) : ∀ m, zle (dotS n A B row col m) (m * 8)
  | 0 => ⟨by simp [dotS], by simp [dotS]⟩
  | m + 1 => by
    have ih := dot_small (n := n) (row := row) (col := col) hA hB m
    have h2 := zmul_le (hA (n * row + m)) (hB (n * m + col))
    rw [dotS]
    have := zadd_le ih h2
    exact ⟨Nat.le_trans this.1 (by omega), Nat.le_trans this.2 (by omega)⟩

set_option maxRecDepth 100000 in
set_option maxHeartbeats 4000000 in
theorem hTimes (n ga gb : Nat) (hn : n ≤ 64) (ra rb' : Nat → Nat) (fA fB : Nat → Nat → Nat × Nat) (A B : Nat → Int × Int) (lA : ∀ j, zle (A j) 2) (lB : ∀ j, zle (B j) 2) (w : World) (hA : Dm w ga n ra fA) (hB : Dm w gb n rb' fB)
    (vA : ∀ r c, r < n → c < n → Cx (fA r c) (A (n * r + c)) (-1)) (vB : ∀ r c, r < n → c < n → Cx (fB r c) (B (n * r + c)) (-1)) :
    Calls Tryd.prog 47 #[.slice (some ⟨ga, 0, none⟩) n n, .slice (some ⟨gb, 0, none⟩) n n] w fun e w' => ∃ g rb F, e = .returned (.slice (some ⟨g, 0, none⟩) n n) ∧ Dm w' g n rb F ∧ (∀ r c, r < n → c < n → Cx (F r c) (timP n A B (n * r + c)) (-2)) ∧ Below w.heap.size w w' := by
  have hstf := store_f
  have hmz := make_z n (by omega)
  have hmzz := make_zz n (by omega)
  have HA := hide hA
  have HB := hide hB
  have VA := hide vA
  have VB := hide vB
  have LD : Hid (∀ r c m, m ≤ 64 → zle (dotS n A B r c m) 1048576) := hide (fun r c m hm => zle_mono (dot_small lA lB m) (by omega))
  have LA := hide lA
  have LB := hide lB
  clear hA hB vA vB lA lB
  have hq0 : Dr (w.alloc (.cells (madeCells #[.slice none 0 0] n) 62)) w.heap.size n 0 (fun _ => 0) (fun _ _ => (0, 0)) := ⟨(rk_made w n 62 (.slice none 0 0)).congr (fun i hi => by simp), fun r hr => by omega, fun r s hr => by omega, fun r hr => by omega⟩
  have b0 := below_new w (.cells (madeCells #[.slice none 0 0] n) 62)
  go_enter Tryd.func47, Tryd.ntmps47
  go_wp2_with fail
  generalize w.alloc (.cells (madeCells #[.slice none 0 0] n) 62) = W0 at *
  have Q0 := hide hq0
  clear hq0
  go_loopw [7, 8, 9, 10] (fun vr _ _ _ wr => ∃ (r : Nat) (rb : Nat → Nat) (F : Nat → Nat → Nat × Nat), vr = .int .i64 (r : Int) ∧ r ≤ n ∧ Hid (Dr wr w.heap.size n r rb F) ∧ Hid (∀ i, i < r → w.heap.size ≤ rb i) ∧ Hid (∀ i j, i < r → j < n → Cx (F i j) (dotS n A B i j n) (-2)) ∧ Below w.heap.size w wr) (fun vr _ _ _ _ => n - (Go.RowKit.intOf vr).toNat)
  case atStart => exact ⟨0, _, _, rfl, by omega, Q0, hide (fun i hi => by omega), hide (fun i j hi => by omega), b0⟩
  case round =>
    clear Q0 b0
    obtain ⟨r, rb0, F0, rfl, hrn, HD, HL, HV, hb⟩ := hrel
    by_cases h : r < n
    · have hd : decide ((r : Int) < (n : Int)) = true := decide_eq_true (by omega)
      have bz := below_new wr (.cells (zRow n) 66)
      have zf := (HD.out.top.below bz).frozen r
      have hc0 := (HD.out.top.below bz).cell r h
      have HS := hide HD.out.step
      have hbS := (hb.trans (bz.mono hb.size)).setCell (p := ⟨w.heap.size, r, none⟩) (Nat.le_refl _) (.slice (some ⟨wr.heap.size, 0, none⟩) n n)
      obtain ⟨rb, hrb⟩ : ∃ rb : Nat → Nat, rb = fun i => if i = r then wr.heap.size else rb0 i := ⟨_, rfl⟩
      have HL2 : Hid (∀ i, i < r + 1 → w.heap.size ≤ rb i) := hide (fun i hi => by
        rw [hrb]
        by_cases e : i = r
        · simp only [e, if_true]; exact hb.size
        · simp only [e, if_false]; exact HL.out i (by omega))
      have HV2 : Hid (∀ i j, i < r → j < n → Cx ((fun r' c => if r' = r then (0, 0) else F0 r' c) i j) (dotS n A B i j n) (-2)) := hide (fun i j hi hj => by
        show Cx (if i = r then (0, 0) else F0 i j) _ _
        rw [if_neg (by omega)]
        exact HV.out i j hi hj)
      rw [← hrb] at HS
      obtain ⟨F1, hF1⟩ : ∃ F1 : Nat → Nat → Nat × Nat, F1 = fun r' c => if r' = r then (0, 0) else F0 r' c := ⟨_, rfl⟩
      rw [← hF1] at HS HV2
      clear HD bz hb HL HV hrb hF1
      go_wp2_with fail
      generalize (wr.alloc (.cells (zRow n) 66)).setCell ⟨w.heap.size, r, none⟩ (.slice (some ⟨wr.heap.size, 0, none⟩) n n) = W1 at *
      go_loopw [8, 9, 10] (fun vc _ _ wc => ∃ (c : Nat) (F : Nat → Nat → Nat × Nat), vc = .int .i64 (c : Int) ∧ c ≤ n ∧ Hid (Dr wc w.heap.size n (r + 1) rb F) ∧ Hid (∀ i j, j < n → (i < r ∨ i = r ∧ j < c) → Cx (F i j) (dotS n A B i j n) (-2)) ∧ Below w.heap.size w wc) (fun vc _ _ _ => n - (Go.RowKit.intOf vc).toNat)
      case atStart => exact ⟨0, F1, rfl, by omega, HS, hide (fun i j hj hi => HV2.out i j (by omega) hj), hbS⟩
      case round =>
        clear HS hbS HV2 zf hc0
        obtain ⟨c, F, rfl, hcn, HD, HV, hb⟩ := hrel
        by_cases hc : c < n
        · have hdc : decide ((c : Int) < (n : Int)) = true := decide_eq_true (by omega)
          generalize wr = wc at *
          have hs0 := heap_alloc_new wc (.cells #[.float .f64 0, .float .f64 0] 66)
          have bs := below_new wc (.cells #[.float .f64 0, .float .f64 0] 66)
          go_wp2_with fail
          go_loopw [10] (fun vj wr => ∃ (j : Nat) (sv : Nat × Nat), vj = .int .i64 (j : Int) ∧ j ≤ n ∧ wr.heap[wc.heap.size]? = some (.cells #[.float .f64 sv.1, .float .f64 sv.2] 66) ∧ Hid (Cx sv (dotS n A B r c j) (-2)) ∧ Below wc.heap.size wc wr) (fun vj _ => n - (Go.RowKit.intOf vj).toNat)
          case atStart => exact ⟨0, (0, 0), rfl, by omega, hs0, hide (cx_zero _), bs⟩
          case round =>
            clear hs0 bs
            obtain ⟨j, sv, rfl, hjn, hsv, HX, hbj⟩ := hrel
            by_cases hj : j < n
            · have hdj : decide ((j : Int) < (n : Int)) = true := decide_eq_true (by omega)
              have hrZ : (r : Int) < (n : Int) := by omega
              have hcZ : (c : Int) < (n : Int) := by omega
              have hjZ : (j : Int) < (n : Int) := by omega
              have hbw := hb.trans (hbj.mono hb.size)
              have vx := VA.out r j h hj
              have vy := VB.out j c hj hc
              obtain ⟨x1, x2, x3, x4, e1, e2, e3, e4, fr⟩ := step_re HX.out vx vy (LD.out r c j (by omega)) (zle_mono (LA.out _) (by omega)) (zle_mono (LB.out _) (by omega))
              obtain ⟨y1, y2, y3, y4, g1, g2, g3, g4, fi⟩ := step_im HX.out vx vy (LD.out r c j (by omega)) (zle_mono (LA.out _) (by omega)) (zle_mono (LB.out _) (by omega))
              have HX2 : Hid (Cx (x4, y4) (dotS n A B r c (j + 1)) (-2)) := hide ⟨fr, fi⟩
              have q1 := fun W => run_float_arith (P := Tryd.prog) (w := W) .mul 64 .f64 _ _ _ e1
              have q2 := fun W => run_float_arith (P := Tryd.prog) (w := W) .add 64 .f64 _ _ _ e2
              have q3 := fun W => run_float_arith (P := Tryd.prog) (w := W) .mul 64 .f64 _ _ _ e3
              have q4 := fun W => run_float_arith (P := Tryd.prog) (w := W) .sub 64 .f64 _ _ _ e4
              have u1 := fun W => run_float_arith (P := Tryd.prog) (w := W) .mul 64 .f64 _ _ _ g1
              have u2 := fun W => run_float_arith (P := Tryd.prog) (w := W) .add 64 .f64 _ _ _ g2
              have u3 := fun W => run_float_arith (P := Tryd.prog) (w := W) .mul 64 .f64 _ _ _ g3
              have u4 := fun W => run_float_arith (P := Tryd.prog) (w := W) .add 64 .f64 _ _ _ g4
              have hA1 := HA.out.below hbw
              have hB1 := HB.out.below hbw
              have k1 := hA1.row h
              have k2 := hA1.re h hj
              have k3 := hA1.im h hj
              have k4 := hB1.row hj
              have k5 := hB1.re hj hc
              have k6 := hB1.im hj hc
              generalize fA r j = a at *
              generalize fB j c = b at *
              have hgs : wc.heap.size ≤ wc.heap.size := Nat.le_refl _
              clear e1 e2 e3 e4 g1 g2 g3 g4 fr fi vx vy HX hA1 hB1 hbw
              have six : ∀ W, Below wr.heap.size wr W → W.cell? ⟨ga, r, none⟩ = some (.slice (some ⟨ra r, 0, none⟩) n n) ∧ W.cell? ⟨ra r, j * 2, none⟩ = some (.float .f64 a.1) ∧ W.cell? ⟨ra r, j * 2 + 1, none⟩ = some (.float .f64 a.2) ∧ W.cell? ⟨gb, j, none⟩ = some (.slice (some ⟨rb' j, 0, none⟩) n n) ∧ W.cell? ⟨rb' j, c * 2, none⟩ = some (.float .f64 b.1) ∧ W.cell? ⟨rb' j, c * 2 + 1, none⟩ = some (.float .f64 b.2) ∧ W.heap[wc.heap.size]? = some (.cells #[.float .f64 sv.1, .float .f64 sv.2] 66) := fun W hW => ⟨(hW.cell (World.block_lt_of_cell? _ _ k1)).trans k1, (hW.cell (World.block_lt_of_cell? _ _ k2)).trans k2, (hW.cell (World.block_lt_of_cell? _ _ k3)).trans k3, (hW.cell (World.block_lt_of_cell? _ _ k4)).trans k4, (hW.cell (World.block_lt_of_cell? _ _ k5)).trans k5, (hW.cell (World.block_lt_of_cell? _ _ k6)).trans k6, row_keep hW hsv⟩
              have hne : ga ≠ wc.heap.size ∧ ra r ≠ wc.heap.size ∧ gb ≠ wc.heap.size ∧ rb' j ≠ wc.heap.size := by
                have a1 := HA.out.top.lt
                have a2 := (HA.out.rows r h).lt
                have a3 := HB.out.top.lt
                have a4 := (HB.out.rows j hj).lt
                have := hb.size
                exact ⟨by omega, by omega, by omega, by omega⟩
              clear k1 k2 k3 k4 k5 k6
              go_wp2_with fail
              refine wp_region_quiet_last (C := fun W => Below wr.heap.size wr W) (by kernel_rfl) 39 rfl (by kernel_rfl) (by kernel_rfl) (below_drewN (Below.refl _ _) 1) ?_
              simp only [List.take_succ_cons, List.take_zero]
              repeat
                refine wpQuiet_step (fun K hK => ?_)
                go_simp
                first
                  | (refine hK _ ?_; clear hK K)
                  | (apply Exists.intro
                     refine ⟨fun W hW => ?_, hK _ ?_⟩
                     first
                       | with_reducible rfl
                       | (have z1 := q1 W; have z2 := q2 W; have z3 := q3 W; have z4 := q4 W; obtain ⟨a0, a1, a2, a3, a4, a5, a6⟩ := six W hW; have a7 := row2_0 a6; have a8 := row2_1 a6; go_simp; rfl)
                     clear hK K)
              refine wpQuiet_nil ?_
              intro W hW
              obtain ⟨a0, a1, a2, a3, a4, a5, a6⟩ := six W hW
              have bW := hbj.trans (hW.mono hbj.size)
              clear six hbj hsv hW
              have a7 := row2_0 a6
              have fz := frozen_row a6 0
              have hS := one_set a6 (.float .f64 x4)
              have bS := bW.setCell (p := ⟨wc.heap.size, 0, none⟩) (Nat.le_refl _) (.float .f64 x4)
              have k0 : (W.setCell ⟨wc.heap.size, 0, none⟩ (.float .f64 x4)).cell? ⟨ga, r, none⟩ = _ := (cell_far _ _ _ _ hne.1).trans a0
              have k1 : (W.setCell ⟨wc.heap.size, 0, none⟩ (.float .f64 x4)).cell? ⟨ra r, j * 2, none⟩ = _ := (cell_far _ _ _ _ hne.2.1).trans a1
              have k2 : (W.setCell ⟨wc.heap.size, 0, none⟩ (.float .f64 x4)).cell? ⟨ra r, j * 2 + 1, none⟩ = _ := (cell_far _ _ _ _ hne.2.1).trans a2
              have k3 : (W.setCell ⟨wc.heap.size, 0, none⟩ (.float .f64 x4)).cell? ⟨gb, j, none⟩ = _ := (cell_far _ _ _ _ hne.2.2.1).trans a3
              have k4 : (W.setCell ⟨wc.heap.size, 0, none⟩ (.float .f64 x4)).cell? ⟨rb' j, c * 2, none⟩ = _ := (cell_far _ _ _ _ hne.2.2.2).trans a4
              have k5 : (W.setCell ⟨wc.heap.size, 0, none⟩ (.float .f64 x4)).cell? ⟨rb' j, c * 2 + 1, none⟩ = _ := (cell_far _ _ _ _ hne.2.2.2).trans a5
              clear a0 a1 a2 a3 a4 a5 bW
              go_wp2_with fail
              generalize W.setCell ⟨wc.heap.size, 0, none⟩ (.float .f64 x4) = W5 at *
              clear a6 a7 fz
              have six : ∀ W, Below W5.heap.size W5 W → W.cell? ⟨ga, r, none⟩ = some (.slice (some ⟨ra r, 0, none⟩) n n) ∧ W.cell? ⟨ra r, j * 2, none⟩ = some (.float .f64 a.1) ∧ W.cell? ⟨ra r, j * 2 + 1, none⟩ = some (.float .f64 a.2) ∧ W.cell? ⟨gb, j, none⟩ = some (.slice (some ⟨rb' j, 0, none⟩) n n) ∧ W.cell? ⟨rb' j, c * 2, none⟩ = some (.float .f64 b.1) ∧ W.cell? ⟨rb' j, c * 2 + 1, none⟩ = some (.float .f64 b.2) ∧ W.heap[wc.heap.size]? = some (.cells #[.float .f64 x4, .float .f64 sv.2] 66) := fun W hW => ⟨(hW.cell (World.block_lt_of_cell? _ _ k0)).trans k0, (hW.cell (World.block_lt_of_cell? _ _ k1)).trans k1, (hW.cell (World.block_lt_of_cell? _ _ k2)).trans k2, (hW.cell (World.block_lt_of_cell? _ _ k3)).trans k3, (hW.cell (World.block_lt_of_cell? _ _ k4)).trans k4, (hW.cell (World.block_lt_of_cell? _ _ k5)).trans k5, row_keep hW hS⟩
              clear k0 k1 k2 k3 k4 k5
              refine wp_region_quiet_last (C := fun W => Below W5.heap.size W5 W) (by kernel_rfl) 39 rfl (by kernel_rfl) (by kernel_rfl) (below_drewN (Below.refl _ _) 1) ?_
              simp only [List.take_succ_cons, List.take_zero]
              repeat
                refine wpQuiet_step (fun K hK => ?_)
                go_simp
                first
                  | (refine hK _ ?_; clear hK K)
                  | (apply Exists.intro
                     refine ⟨fun W hW => ?_, hK _ ?_⟩
                     first
                       | with_reducible rfl
                       | (have z1 := u1 W; have z2 := u2 W; have z3 := u3 W; have z4 := u4 W; obtain ⟨a0, a1, a2, a3, a4, a5, a6⟩ := six W hW; have a7 := row2_0 a6; have a8 := row2_1 a6; go_simp; rfl)
                     clear hK K)
              refine wpQuiet_nil ?_
              intro W hW
              obtain ⟨a0, a1, a2, a3, a4, a5, a6⟩ := six W hW
              have bW := bS.trans (hW.mono bS.size)
              clear six bS hS hW a0 a1 a2 a3 a4 a5
              have a7 := row2_1 a6
              have fz := frozen_row a6 1
              have hS := snd_set6 a6 (.float .f64 y4)
              have bS := bW.setCell (p := ⟨wc.heap.size, 1, none⟩) (Nat.le_refl _) (.float .f64 y4)
              clear bW
              go_wp2_with fail
              exact ⟨⟨j + 1, (x4, y4), by go_num, by omega, hS, HX2, bS⟩, by simp [Go.RowKit.intOf]; omega⟩
            · have hdj : decide ((j : Int) < (n : Int)) = false := decide_eq_false (by omega)
              have ej : j = n := by omega
              have HX2 : Hid (Cx sv (dotS n A B r c n) (-2)) := hide (by have := HX.out; rw [ej] at this; exact this)
              clear HX ej
              have hrZ : (r : Int) < (n : Int) := by omega
              have hcZ : (c : Int) < (n : Int) := by omega
              have hD := HD.out.below hbj
              have hbw := hb.trans (hbj.mono hb.size)
              have five : ∀ W, Below wr.heap.size wr W → W.cell? ⟨w.heap.size, r, none⟩ = some (.slice (some ⟨rb r, 0, none⟩) n n) ∧ W.heap[wc.heap.size]? = some (.cells #[.float .f64 sv.1, .float .f64 sv.2] 66) := fun W hW => ⟨(hD.below hW).row (by omega) h, row_keep hW hsv⟩
              have HS : ∀ W, Below wr.heap.size wr W → Dr ((W.setCell ⟨rb r, c * 2, none⟩ (.float .f64 sv.1)).setCell ⟨rb r, c * 2 + 1, none⟩ (.float .f64 sv.2)) w.heap.size n (r + 1) rb (fun i j => if i = r ∧ j = c then sv else F i j) := fun W hW => (hD.below hW).set (r := r) (c := c) (by omega) sv
              have HV2 : Hid (∀ i j, j < n → (i < r ∨ i = r ∧ j < c + 1) → Cx ((fun i j => if i = r ∧ j = c then sv else F i j) i j) (dotS n A B i j n) (-2)) := hide (fun i j hj' hi => by
                by_cases e : i = r ∧ j = c
                · simp only [e, and_self, if_true]
                  exact HX2.out
                · simp only [e, if_false]
                  exact HV.out i j hj' (by omega))
              have HF : ∀ W, Below wr.heap.size wr W → W.frozen? ⟨rb r, c * 2, none⟩ = false ∧ (W.setCell ⟨rb r, c * 2, none⟩ (.float .f64 sv.1)).frozen? ⟨rb r, c * 2 + 1, none⟩ = false := fun W hW => ⟨((hD.below hW).rows _ (by omega)).frozen _, (((hD.below hW).rows _ (by omega)).set (c * 2) _).frozen _⟩
              have HR : ∀ W, Below wr.heap.size wr W → W.cell? ⟨rb r, c * 2, none⟩ = some (.float .f64 _) := fun W hW => (hD.below hW).re (by omega) hc
              have HI : ∀ W, Below wr.heap.size wr W → W.cell? ⟨rb r, c * 2 + 1, none⟩ = some (.float .f64 _) := fun W hW => (hD.below hW).im (by omega) hc
              have hrbl : w.heap.size ≤ rb r := HL2.out r (by omega)
              clear HD HV hD HX2
              go_wp2_with fail
              refine wp_region_quiet_last (C := fun W => Below wr.heap.size wr W) (by kernel_rfl) 7 rfl (by kernel_rfl) (by kernel_rfl) (below_drewN (Below.refl _ _) 1) ?_
              simp only [List.take_succ_cons, List.take_zero]
              repeat
                refine wpQuiet_step (fun K hK => ?_)
                go_simp
                first
                  | (refine hK _ ?_; clear hK K)
                  | (apply Exists.intro
                     refine ⟨fun W hW => ?_, hK _ ?_⟩
                     first
                       | with_reducible rfl
                       | (skip; obtain ⟨a0, a1⟩ := five W hW; have a7 := row2_0 a1; have a8 := row2_1 a1; go_simp; rfl)
                     clear hK K)
              refine wpQuiet_nil ?_
              intro W hW
              obtain ⟨f1, f2⟩ := HF W hW
              have r1 := HR W hW
              have r2 := HI W hW
              have HW := hide (HS W hW)
              have hbS := ((hbw.trans (hW.mono hbw.size)).setCell (p := ⟨rb r, c * 2, none⟩) hrbl (.float .f64 sv.1)).setCell (p := ⟨rb r, c * 2 + 1, none⟩) hrbl (.float .f64 sv.2)
              clear HS HF HR HI hW hbw five hbj
              go_wp2_with fail
              exact ⟨⟨c + 1, _, by go_num, by omega, HW, HV2, hbS⟩, by simp [Go.RowKit.intOf]; omega⟩
        · have hdc : decide ((c : Int) < (n : Int)) = false := decide_eq_false (by omega)
          have HV2 : Hid (∀ i j, i < r + 1 → j < n → Cx (F i j) (dotS n A B i j n) (-2)) := hide (fun i j hi hj => HV.out i j hj (by omega))
          clear HV
          go_wp2_with fail
          exact ⟨⟨r + 1, rb, F, by go_num, by omega, HD, HL2, HV2, hb⟩, by simp [Go.RowKit.intOf]; omega⟩
    · have hd : decide ((r : Int) < (n : Int)) = false := decide_eq_false (by omega)
      have er : r = n := by omega
      rw [er] at HD HV
      clear er
      go_wp2_with fail
      go_ret
      exact ⟨w.heap.size, rb0, F0, rfl, HD.out.whole, fun r c hr hc => by rw [tim_at A B hc]; exact HV.out r c hr hc, hb⟩
end Go.Proofs.YtnhdgellckcnbaaDoor.Gt
/- The document's Alike. -/
namespace Go.Proofs.YtnhdgellckcnbaaDoor.Gt
open Go.RowKit Go.Proofs.YtnhdgellckcnbaaDoor.Oct Go.Proofs.YtnhdgellckcnbaaDoor.Dy

theorem ord_ne {b b' : Nat} {c c' e : Int} (h : Fl b c e) (h' : Fl b' c' e) (hc : c.natAbs ≤ 9007199254740992) (hc' : c'.natAbs ≤ 9007199254740992) (he1 : -300 ≤ e) (he2 : e ≤ 300) : (FloatKind.f64.format.order b b' != some .eq) = decide (c ≠ c') := by
  rw [bne, fl_ord h h' hc hc' he1 he2]
  by_cases e : c = c' <;> simp [e]
set_option maxRecDepth 100000 in
set_option maxHeartbeats 4000000 in
theorem hAlike_no (n m : Nat) (hne : n ≠ m) (ao ao' : Option Addr) (c c' : Nat) (w : World) : Calls Tryd.prog 48 #[.slice ao n c, .slice ao' m c'] w fun e w' => e = .returned (.bool false) ∧ w' = w := by
  have hb : ((n : Int) != (m : Int)) = true := by simp; omega
  clear hne
  go_enter Tryd.func48, Tryd.ntmps48
  go_wp2_with fail
  go_ret
  exact ⟨rfl, rfl⟩
set_option maxRecDepth 100000 in
set_option maxHeartbeats 4000000 in
theorem hAlike (n ga gb : Nat) (hn : n ≤ 64) (ra rb' : Nat → Nat) (fA fB : Nat → Nat → Nat × Nat) (A B : Nat → Int × Int) (e : Int) (he1 : -300 ≤ e) (he2 : e ≤ 300) (lA : ∀ j, zle (A j) 1048576) (lB : ∀ j, zle (B j) 1048576) (w : World) (hA : Dm w ga n ra fA) (hB : Dm w gb n rb' fB)
    (vA : ∀ r c, r < n → c < n → Cx (fA r c) (A (n * r + c)) e) (vB : ∀ r c, r < n → c < n → Cx (fB r c) (B (n * r + c)) e) :
    Calls Tryd.prog 48 #[.slice (some ⟨ga, 0, none⟩) n n, .slice (some ⟨gb, 0, none⟩) n n] w fun e w' => e = .returned (.bool (eqB A B (n * n))) ∧ Below w.heap.size w w' := by
  obtain ⟨R, hR⟩ : ∃ R, eqB A B (n * n) = R := ⟨_, rfl⟩
  rw [hR]
  have HR := hide hR
  have HA := hide hA
  have HB := hide hB
  have VA := hide vA
  have VB := hide vB
  have LA := hide lA
  have LB := hide lB
  clear hA hB vA vB lA lB hR
  go_enter Tryd.func48, Tryd.ntmps48
  go_wp2_with fail
  go_loopw [5, 6] (fun vr _ wr => ∃ r : Nat, vr = .int .i64 (r : Int) ∧ r ≤ n ∧ Hid (∀ i j, i < r → j < n → A (n * i + j) = B (n * i + j)) ∧ Below w.heap.size w wr) (fun vr _ _ => n - (Go.RowKit.intOf vr).toNat)
  case atStart => exact ⟨0, rfl, by omega, hide (fun i j hi => by omega), Below.refl _ _⟩
  case round =>
    obtain ⟨r, rfl, hrn, HV, hb⟩ := hrel
    by_cases h : r < n
    · have hd : decide ((r : Int) < (n : Int)) = true := decide_eq_true (by omega)
      go_wp2_with fail
      go_loopw [6] (fun vc wc => ∃ c : Nat, vc = .int .i64 (c : Int) ∧ c ≤ n ∧ Hid (∀ j, j < c → A (n * r + j) = B (n * r + j)) ∧ Below w.heap.size w wc) (fun vc _ => n - (Go.RowKit.intOf vc).toNat)
      case atStart => exact ⟨0, rfl, by omega, hide (fun j hj => by omega), hb⟩
      case round =>
        clear hb
        obtain ⟨c, rfl, hcn, HC, hb⟩ := hrel
        by_cases hc : c < n
        · have hdc : decide ((c : Int) < (n : Int)) = true := decide_eq_true (by omega)
          have hrZ : (r : Int) < (n : Int) := by omega
          have hcZ : (c : Int) < (n : Int) := by omega
          have hA1 := HA.out.below hb
          have hB1 := HB.out.below hb
          have k1 := hA1.row h
          have k2 := hA1.re h hc
          have k3 := hA1.im h hc
          have k4 := hB1.row h
          have k5 := hB1.re h hc
          have k6 := hB1.im h hc
          have vx := VA.out r c h hc
          have vy := VB.out r c h hc
          have la := LA.out (n * r + c)
          have lb := LB.out (n * r + c)
          have o1 := ord_ne vx.1 vy.1 (by have := la.1; omega) (by have := lb.1; omega) he1 he2
          have o2 := ord_ne vx.2 vy.2 (by have := la.2; omega) (by have := lb.2; omega) he1 he2
          have hlt : n * r + c < n * n := by
            have : n * r + n ≤ n * n := by rw [← Nat.mul_succ]; exact Nat.mul_le_mul_left _ h
            omega
          generalize fA r c = a at *
          generalize fB r c = b at *
          clear hA1 hB1 vx vy la lb
          by_cases e1 : (A (n * r + c)).1 = (B (n * r + c)).1
          · rw [decide_eq_false (fun h => h e1)] at o1
            by_cases e2 : (A (n * r + c)).2 = (B (n * r + c)).2
            · rw [decide_eq_false (fun h => h e2)] at o2
              have HC2 : Hid (∀ j, j < c + 1 → A (n * r + j) = B (n * r + j)) := hide (fun j hj => by
                by_cases ej : j = c
                · rw [ej]; exact Prod.ext e1 e2
                · exact HC.out j (by omega))
              clear HC e1 e2 hlt
              go_wp2_with fail
              go_quiet (fail)
              go_wp2_with fail
              exact ⟨⟨c + 1, by go_num, by omega, HC2, below_drewN hb _⟩, by simp [Go.RowKit.intOf]; omega⟩
            · rw [decide_eq_true (show (A (n * r + c)).2 ≠ (B (n * r + c)).2 from e2)] at o2
              have HF : Hid (R = false) := hide (by rw [← HR.out]; exact eqB_false hlt (fun h => e2 (by rw [h])))
              clear HC HR e1 e2 hlt HV
              go_wp2_with fail
              go_quiet (fail)
              go_wp2_with fail
              go_ret
              exact ⟨by rw [HF.out]; rfl, below_drewN hb _⟩
          · rw [decide_eq_true (show (A (n * r + c)).1 ≠ (B (n * r + c)).1 from e1)] at o1
            have HF : Hid (R = false) := hide (by rw [← HR.out]; exact eqB_false hlt (fun h => e1 (by rw [h])))
            clear HC HR e1 hlt HV o2
            go_wp2_with fail
            go_quiet (fail)
            go_wp2_with fail
            go_ret
            exact ⟨by rw [HF.out]; rfl, below_drewN hb _⟩
        · have hdc : decide ((c : Int) < (n : Int)) = false := decide_eq_false (by omega)
          have HV2 : Hid (∀ i j, i < r + 1 → j < n → A (n * i + j) = B (n * i + j)) := hide (fun i j hi hj => by
            by_cases ei : i = r
            · rw [ei]; exact HC.out j (by omega)
            · exact HV.out i j (by omega) hj)
          clear HV HC
          go_wp2_with fail
          exact ⟨⟨r + 1, by go_num, by omega, HV2, hb⟩, by simp [Go.RowKit.intOf]; omega⟩
    · have hd : decide ((r : Int) < (n : Int)) = false := decide_eq_false (by omega)
      have HF : Hid (R = true) := hide (by
        rw [← HR.out, eqB_iff]
        intro j hj
        have hn0 : 0 < n := by
          rcases Nat.eq_zero_or_pos n with e | e
          · rw [e] at hj; simp at hj
          · exact e
        have h1 : j / n < n := Nat.div_lt_of_lt_mul hj
        have h2 := HV.out (j / n) (j % n) (by omega) (Nat.mod_lt _ hn0)
        rw [Nat.div_add_mod] at h2
        exact h2)
      clear HV HR
      go_wp2_with fail
      go_ret
      exact ⟨by rw [HF.out]; rfl, hb⟩
end Go.Proofs.YtnhdgellckcnbaaDoor.Gt
/- What commuting is, on lists that the kernel reckons. -/
namespace Go.Proofs.YtnhdgellckcnbaaDoor.Gt
/-- The matrices of the kinds, in halves, by columns. -/
def colT : List (List (List (Int × Int))) := [
  [],
  [[(2, 0), (0, 0)], [(0, 0), (2, 0)]],
  [[(0, 0), (2, 0)], [(2, 0), (0, 0)]],
  [[(0, 0), (0, 2)], [(0, -2), (0, 0)]],
  [[(2, 0), (0, 0)], [(0, 0), (-2, 0)]],
  [[(2, 0), (0, 0)], [(0, 0), (0, 2)]],
  [[(2, 0), (0, 0)], [(0, 0), (0, -2)]],
  [[(1, 1), (1, -1)], [(1, -1), (1, 1)]],
  [[(1, -1), (1, 1)], [(1, 1), (1, -1)]],
  [[(1, 1), (1, 1)], [(-1, -1), (1, 1)]],
  [[(1, -1), (-1, 1)], [(1, -1), (1, -1)]],
  [[(2, 0), (0, 0), (0, 0), (0, 0)], [(0, 0), (0, 0), (0, 0), (2, 0)], [(0, 0), (0, 0), (2, 0), (0, 0)], [(0, 0), (2, 0), (0, 0), (0, 0)]],
  [[(2, 0), (0, 0), (0, 0), (0, 0)], [(0, 0), (0, 0), (0, 0), (0, 2)], [(0, 0), (0, 0), (2, 0), (0, 0)], [(0, 0), (0, -2), (0, 0), (0, 0)]],
  [[(2, 0), (0, 0), (0, 0), (0, 0)], [(0, 0), (2, 0), (0, 0), (0, 0)], [(0, 0), (0, 0), (2, 0), (0, 0)], [(0, 0), (0, 0), (0, 0), (-2, 0)]],
  [[(2, 0), (0, 0), (0, 0), (0, 0)], [(0, 0), (0, 0), (2, 0), (0, 0)], [(0, 0), (2, 0), (0, 0), (0, 0)], [(0, 0), (0, 0), (0, 0), (2, 0)]],
  [[(2, 0), (0, 0), (0, 0), (0, 0)], [(0, 0), (0, 0), (0, 2), (0, 0)], [(0, 0), (0, 2), (0, 0), (0, 0)], [(0, 0), (0, 0), (0, 0), (2, 0)]],
  [[(2, 0), (0, 0), (0, 0), (0, 0)], [(0, 0), (0, 0), (0, -2), (0, 0)], [(0, 0), (0, -2), (0, 0), (0, 0)], [(0, 0), (0, 0), (0, 0), (2, 0)]],
  [[(1, 0), (1, 0), (1, 0), (1, 0)], [(1, 0), (-1, 0), (1, 0), (-1, 0)], [(1, 0), (1, 0), (-1, 0), (-1, 0)], [(1, 0), (-1, 0), (-1, 0), (1, 0)]],
  [[(2, 0), (0, 0), (0, 0), (0, 0), (0, 0), (0, 0), (0, 0), (0, 0)], [(0, 0), (2, 0), (0, 0), (0, 0), (0, 0), (0, 0), (0, 0), (0, 0)], [(0, 0), (0, 0), (2, 0), (0, 0), (0, 0), (0, 0), (0, 0), (0, 0)], [(0, 0), (0, 0), (0, 0), (0, 0), (0, 0), (0, 0), (0, 0), (2, 0)], [(0, 0), (0, 0), (0, 0), (0, 0), (2, 0), (0, 0), (0, 0), (0, 0)], [(0, 0), (0, 0), (0, 0), (0, 0), (0, 0), (2, 0), (0, 0), (0, 0)], [(0, 0), (0, 0), (0, 0), (0, 0), (0, 0), (0, 0), (2, 0), (0, 0)], [(0, 0), (0, 0), (0, 0), (2, 0), (0, 0), (0, 0), (0, 0), (0, 0)]],
  [[(2, 0), (0, 0), (0, 0), (0, 0), (0, 0), (0, 0), (0, 0), (0, 0)], [(0, 0), (2, 0), (0, 0), (0, 0), (0, 0), (0, 0), (0, 0), (0, 0)], [(0, 0), (0, 0), (2, 0), (0, 0), (0, 0), (0, 0), (0, 0), (0, 0)], [(0, 0), (0, 0), (0, 0), (2, 0), (0, 0), (0, 0), (0, 0), (0, 0)], [(0, 0), (0, 0), (0, 0), (0, 0), (2, 0), (0, 0), (0, 0), (0, 0)], [(0, 0), (0, 0), (0, 0), (0, 0), (0, 0), (2, 0), (0, 0), (0, 0)], [(0, 0), (0, 0), (0, 0), (0, 0), (0, 0), (0, 0), (2, 0), (0, 0)], [(0, 0), (0, 0), (0, 0), (0, 0), (0, 0), (0, 0), (0, 0), (-2, 0)]],
  [[(2, 0), (0, 0), (0, 0), (0, 0), (0, 0), (0, 0), (0, 0), (0, 0)], [(0, 0), (2, 0), (0, 0), (0, 0), (0, 0), (0, 0), (0, 0), (0, 0)], [(0, 0), (0, 0), (2, 0), (0, 0), (0, 0), (0, 0), (0, 0), (0, 0)], [(0, 0), (0, 0), (0, 0), (0, 0), (0, 0), (2, 0), (0, 0), (0, 0)], [(0, 0), (0, 0), (0, 0), (0, 0), (2, 0), (0, 0), (0, 0), (0, 0)], [(0, 0), (0, 0), (0, 0), (2, 0), (0, 0), (0, 0), (0, 0), (0, 0)], [(0, 0), (0, 0), (0, 0), (0, 0), (0, 0), (0, 0), (2, 0), (0, 0)], [(0, 0), (0, 0), (0, 0), (0, 0), (0, 0), (0, 0), (0, 0), (2, 0)]]]
theorem colT_ok : ∀ k : Fin 21, 1 ≤ k.1 → ∀ c r : Fin 8, c.1 < rowsN k.1 → r.1 < rowsN k.1 → ((colT.getD k.1 []).getD c.1 []).getD r.1 (0, 0) = mz k.1 (rowsN k.1 * r.1 + c.1) := by decide +kernel
theorem colT_len : ∀ k : Fin 21, 1 ≤ k.1 → ∀ c : Fin 8, c.1 < rowsN k.1 → ((colT.getD k.1 []).getD c.1 []).length = rowsN k.1 := by decide +kernel
def zz (v : Int × Int) : Bool := v.1 == 0 && v.2 == 0
theorem zz_iff (v : Int × Int) : zz v = true ↔ v = (0, 0) := by
  unfold zz
  rw [Bool.and_eq_true, beq_iff_eq, beq_iff_eq]
  constructor
  · rintro ⟨h1, h2⟩; exact Prod.ext h1 h2
  · rintro rfl; exact ⟨rfl, rfl⟩
/-- Something is added at a place. -/
def upd : List (Int × Int) → Nat → Int × Int → List (Int × Int)
  | [], _, _ => []
  | a :: r, 0, z => zadd a z :: r
  | a :: r, i + 1, z => a :: upd r i z
theorem upd_len : ∀ (F : List (Int × Int)) (i : Nat) (z : Int × Int), (upd F i z).length = F.length
  | [], i, z => by cases i <;> rfl
  | a :: r, 0, z => rfl
  | a :: r, i + 1, z => by rw [upd, List.length_cons, upd_len r i z, List.length_cons]
theorem upd_get : ∀ (F : List (Int × Int)) (i : Nat) (z : Int × Int) (j : Nat), j < F.length → (upd F i z).getD j (0, 0) = if j = i then zadd (F.getD j (0, 0)) z else F.getD j (0, 0)
  | [], i, z, j, h => absurd h (by simp)
  | a :: r, 0, z, 0, h => by simp [upd]
  | a :: r, 0, z, j + 1, h => by simp [upd]
  | a :: r, i + 1, z, 0, h => by simp [upd]
  | a :: r, i + 1, z, j + 1, h => by
    have := upd_get r i z j (by simpa using h)
    simp only [upd, List.getD_cons_succ, this, Nat.add_right_cancel_iff]
/-- A list that says what a function says. -/
def Rep (S : Nat) (F : List (Int × Int)) (f : Nat → Int × Int) : Prop := F.length = S ∧ ∀ j, j < S → F.getD j (0, 0) = f j
def rwL (l : List Nat) (v : Int × Int) (p : Nat) : List (Int × Int) → Nat → List (Int × Int) → List (Int × Int)
  | [], _, F => F
  | m :: ms, r, F => rwL l v p ms (r + 1) (if zz m then F else upd F (scG p r l l.length) (zmul m v))
def plL (k : Nat) (l : List Nat) : List (Int × Int) → Nat → List (Int × Int) → List (Int × Int)
  | [], _, F => F
  | v :: vs, p, F => plL k l vs (p + 1) (if zz v then F else rwL l v p ((colT.getD k []).getD (gaG p l l.length) []) 0 F)
theorem zadd_0 (a v : Int × Int) : zadd a (zmul (0, 0) v) = a := by
  apply Prod.ext <;> simp [zadd, zmul]
theorem rwL_rep {S k n : Nat} {l : List Nat} {v : Int × Int} {p col : Nat} {f : Nat → Int × Int} : ∀ (ms : List (Int × Int)) (r : Nat) (F : List (Int × Int)), (∀ i, i < ms.length → ms.getD i (0, 0) = mz k (n * (r + i) + col)) → Rep S F (rwG k n l v p col f r) → Rep S (rwL l v p ms r F) (rwG k n l v p col f (r + ms.length))
  | [], r, F, _, h => h
  | m :: ms, r, F, hm, h => by
    rw [rwL, List.length_cons, show r + (ms.length + 1) = r + 1 + ms.length by omega]
    refine rwL_rep ms (r + 1) _ (fun i hi => ?_) ?_
    · have := hm (i + 1) (by simpa using hi)
      rw [List.getD_cons_succ] at this
      rw [this, show r + (i + 1) = r + 1 + i by omega]
    · have h0 := hm 0 (by simp)
      simp only [List.getD_cons_zero, Nat.add_zero] at h0
      cases e : zz m
      · rw [if_neg (by simp)]
        refine ⟨by rw [upd_len]; exact h.1, fun j hj => ?_⟩
        rw [upd_get _ _ _ _ (by rw [h.1]; exact hj), h.2 j hj, h0]
        rfl
      · rw [if_pos rfl]
        refine ⟨h.1, fun j hj => ?_⟩
        rw [h.2 j hj]
        show _ = if j = scG p r l l.length then zadd (rwG k n l v p col f r j) (zmul (mz k (n * r + col)) v) else rwG k n l v p col f r j
        rw [← h0, (zz_iff m).1 e, zadd_0, ite_self]
theorem ga_rows {k : Nat} (hk1 : 1 ≤ k) (hk : k ≤ 20) {l : List Nat} (hl : (l.length : Int) = (rw' (k : Int)).q) (p : Nat) : gaG p l l.length < rowsN k := by
  have h := gaG_pow p l l.length
  have hq := q_rows ⟨k, by omega⟩ hk1
  dsimp only at hq
  rcases rowsN_is k with e | e | e
  · have := hq.1 e; rw [show l.length = 1 by omega] at h ⊢; rw [e]; exact h
  · have := hq.2.1 e; rw [show l.length = 2 by omega] at h ⊢; rw [e]; exact h
  · have := hq.2.2 e; rw [show l.length = 3 by omega] at h ⊢; rw [e]; exact h
theorem plL_rep {S k : Nat} (hk1 : 1 ≤ k) (hk : k ≤ 20) {l : List Nat} (hl : (l.length : Int) = (rw' (k : Int)).q) {V : Nat → Int × Int} : ∀ (vs : List (Int × Int)) (p : Nat) (F : List (Int × Int)), (∀ i, i < vs.length → vs.getD i (0, 0) = V (p + i)) → Rep S F (plG k (rowsN k) l V p) → Rep S (plL k l vs p F) (plG k (rowsN k) l V (p + vs.length))
  | [], p, F, _, h => h
  | v :: vs, p, F, hv, h => by
    rw [plL, List.length_cons, show p + (vs.length + 1) = p + 1 + vs.length by omega]
    refine plL_rep hk1 hk hl vs (p + 1) _ (fun i hi => ?_) ?_
    · have := hv (i + 1) (by simpa using hi)
      rw [List.getD_cons_succ] at this
      rw [this, show p + (i + 1) = p + 1 + i by omega]
    · have h0 := hv 0 (by simp)
      simp only [List.getD_cons_zero, Nat.add_zero] at h0
      rw [plG]
      cases e : zz v
      · have hne : ¬ V p = (0, 0) := fun h => by rw [← h0, ← zz_iff, e] at h; cases h
        rw [if_neg (by simp), if_neg hne]
        have hga := ga_rows hk1 hk hl p
        have h8 : rowsN k ≤ 8 := by rcases rowsN_is k with e | e | e <;> omega
        have hlen := colT_len ⟨k, by omega⟩ hk1 ⟨gaG p l l.length, by omega⟩ hga
        dsimp only at hlen
        have := rwL_rep (S := S) (k := k) (n := rowsN k) (l := l) (v := v) (p := p) (col := gaG p l l.length) (f := plG k (rowsN k) l V p) ((colT.getD k []).getD (gaG p l l.length) []) 0 F (fun i hi => by
          rw [hlen] at hi
          have := colT_ok ⟨k, by omega⟩ hk1 ⟨gaG p l l.length, by omega⟩ ⟨i, by omega⟩ hga hi
          dsimp only at this
          rw [this, Nat.zero_add]) h
        rw [hlen, Nat.zero_add] at this
        rw [h0] at this ⊢
        exact this
      · rw [if_pos rfl, if_pos (by rw [← h0]; exact (zz_iff v).1 e)]
        exact h
def nul (S : Nat) : List (Int × Int) := List.replicate S (0, 0)
theorem nul_rep (S : Nat) : Rep S (nul S) (fun _ => (0, 0)) := ⟨by simp [nul], fun j hj => by simp [nul, List.getD_eq_getElem?_getD, hj]⟩
def actL (S k : Nat) (l : List Nat) (V : List (Int × Int)) : List (Int × Int) := plL k l V 0 (nul S)
theorem actL_rep {S k : Nat} (hk1 : 1 ≤ k) (hk : k ≤ 20) {l : List Nat} (hl : (l.length : Int) = (rw' (k : Int)).q) {V : List (Int × Int)} {f : Nat → Int × Int} (h : Rep S V f) : Rep S (actL S k l V) (plG k (rowsN k) l f S) := by
  have := plL_rep (S := S) hk1 hk hl (V := f) V 0 (nul S) (fun i hi => by rw [Nat.zero_add]; exact h.2 i (by rw [← h.1]; exact hi)) (nul_rep S)
  rw [h.1, Nat.zero_add] at this
  exact this
def basL (S c : Nat) : List (Int × Int) := upd (nul S) c (1, 0)
theorem bas_rep (S c : Nat) : Rep S (basL S c) (bas c) := by
  refine ⟨by rw [basL, upd_len]; exact (nul_rep S).1, fun j hj => ?_⟩
  rw [basL, upd_get _ _ _ _ (by rw [(nul_rep S).1]; exact hj), (nul_rep S).2 j hj]
  rfl
def eqL : List (Int × Int) → List (Int × Int) → Bool
  | [], [] => true
  | a :: r, b :: s => a.1 == b.1 && a.2 == b.2 && eqL r s
  | _, _ => false
theorem eqL_iff : ∀ (F G : List (Int × Int)), eqL F G = true ↔ F = G
  | [], [] => by simp [eqL]
  | [], b :: s => by simp [eqL]
  | a :: r, [] => by simp [eqL]
  | a :: r, b :: s => by
    rw [eqL, Bool.and_eq_true, Bool.and_eq_true, beq_iff_eq, beq_iff_eq, eqL_iff r s, List.cons.injEq, Prod.ext_iff]
theorem rep_eq {S : Nat} {F G : List (Int × Int)} {f g : Nat → Int × Int} (hf : Rep S F f) (hg : Rep S G g) : eqB f g S = eqL F G := by
  rw [Bool.eq_iff_iff, eqB_iff, eqL_iff]
  constructor
  · intro h
    refine List.ext_getElem (by rw [hf.1, hg.1]) (fun j h1 h2 => ?_)
    have a := hf.2 j (by rw [← hf.1]; exact h1)
    have b := hg.2 j (by rw [← hg.1]; exact h2)
    rw [List.getD_eq_getElem?_getD, List.getElem?_eq_getElem h1] at a
    rw [List.getD_eq_getElem?_getD, List.getElem?_eq_getElem h2] at b
    simp only [Option.getD_some] at a b
    rw [a, b]
    exact h j (by rw [← hf.1]; exact h1)
  · rintro rfl j hj
    rw [← hf.2 j hj, ← hg.2 j hj]
def alkL (S k : Nat) (l : List Nat) (k' : Nat) (l' : List Nat) : Nat → Nat → Bool
  | 0, _ => true
  | m + 1, c => eqL (actL S k l (actL S k' l' (basL S c))) (actL S k' l' (actL S k l (basL S c))) && alkL S k l k' l' m (c + 1)
theorem alkL_eq {S k k' : Nat} (hk1 : 1 ≤ k) (hk : k ≤ 20) (hk1' : 1 ≤ k') (hk' : k' ≤ 20) {l l' : List Nat} (hl : (l.length : Int) = (rw' (k : Int)).q) (hl' : (l'.length : Int) = (rw' (k' : Int)).q) : ∀ m c, alkG S k (rowsN k) l k' (rowsN k') l' m c = alkL S k l k' l' m c
  | 0, _ => rfl
  | m + 1, c => by
    rw [alkG, alkL, alkL_eq hk1 hk hk1' hk' hl hl' m (c + 1), colP]
    rw [rep_eq (actL_rep hk1 hk hl (actL_rep hk1' hk' hl' (bas_rep S c))) (actL_rep hk1' hk' hl' (actL_rep hk1 hk hl (bas_rep S c)))]
end Go.Proofs.YtnhdgellckcnbaaDoor.Gt
/- The document's Wide. -/
namespace Go.Proofs.YtnhdgellckcnbaaDoor.Gt
open Go.RowKit Go.Proofs.YtnhdgellckcnbaaDoor.Oct Go.Proofs.YtnhdgellckcnbaaDoor.Dy

/-- What is left of a number when the bits of the first qubits are taken away. -/
def rsG (d : Nat) (l : List Nat) : Nat → Nat
  | 0 => d
  | i + 1 => rsG d l i - bitN (rsG d l i) (l.getD i 0) * 2 ^ (l.getD i 0)
theorem rsG_le (d : Nat) (l : List Nat) : ∀ i, rsG d l i ≤ d
  | 0 => Nat.le_refl _
  | i + 1 => Nat.le_trans (Nat.sub_le _ _) (rsG_le d l i)
theorem xor_small : ∀ a b : Fin 64, bits .xor .i64 (a.1 : Int) (b.1 : Int) = ((a.1 ^^^ b.1 : Nat) : Int) := by decide +kernel
theorem pow_cast7 (x : Nat) (h : x < 7) : wrap64 ((2 : Int) ^ x) = ((2 ^ x : Nat) : Int) := by
  have : ∀ z : Fin 7, wrap64 ((2 : Int) ^ z.1) = ((2 ^ z.1 : Nat) : Int) := by decide +kernel
  exact this ⟨x, h⟩
/-- An entry of a gate's matrix on more qubits: as it lies, and what it is. -/
def wbP (k : Nat) (l : List Nat) (r c : Nat) : Nat × Nat := if rsG (r ^^^ c) l l.length = 0 then mbs k (rowsN k * gaG r l l.length + gaG c l l.length) else (0, 0)
def wzP (k : Nat) (l : List Nat) (r c : Nat) : Int × Int := if rsG (r ^^^ c) l l.length = 0 then mz k (rowsN k * gaG r l l.length + gaG c l l.length) else (0, 0)
theorem wz_le (k : Nat) (l : List Nat) (r c : Nat) : zle (wzP k l r c) 2 := by
  unfold wzP
  split
  · exact mz_le _ _
  · exact ⟨by decide, by decide⟩
theorem wb_cx {k : Nat} (hk1 : 1 ≤ k) (hk : k ≤ 20) {l : List Nat} (hl : (l.length : Int) = (rw' (k : Int)).q) (r c : Nat) : Cx (wbP k l r c) (wzP k l r c) (-1) := by
  unfold wbP wzP
  split
  · refine mz_cx k _ hk ?_
    have h1 := ga_rows hk1 hk hl r
    have h2 := ga_rows hk1 hk hl c
    have h3 : rowsN k * gaG r l l.length + rowsN k ≤ rowsN k * rowsN k := by rw [← Nat.mul_succ]; exact Nat.mul_le_mul_left _ h1
    have := rowsN_le k
    omega
  · exact cx_zero _
set_option maxRecDepth 100000 in
set_option maxHeartbeats 4000000 in
theorem hWide (k s S gw cw : Nat) (l : List Nat) (hk1 : 1 ≤ k) (hk : k ≤ 20) (hs : s ≤ 6) (hS : S = 2 ^ s) (hl : (l.length : Int) = (rw' (k : Int)).q) (hq : ∀ i, i < l.length → l.getD i 0 < 6) (w : World) (hN : Nr w gw l) :
    Calls Tryd.prog 56 #[.int .i64 (k : Int), .slice (some ⟨gw, 0, none⟩) l.length cw, .int .i64 (s : Int)] w fun e w' => ∃ g rb, e = .returned (.slice (some ⟨g, 0, none⟩) S S) ∧ Dm w' g S rb (fun r c => wbP k l r c) ∧ Below w.heap.size w w' := by
  have hstf := store_f
  have hS64 : S ≤ 64 := by rw [hS]; exact Nat.pow_le_pow_right (n := 2) (by decide) hs
  have hmz := make_z S (by omega)
  have hmzz := make_zz S (by omega)
  have hp1 : wrap64 ((2 : Int) ^ s) = (S : Int) := by rw [hS]; exact pow_cast7 s (by omega)
  have hp2 : IntKind.i64.wrap ((2 : Int) ^ s) = (S : Int) := (IntWalk.i64_left _).trans hp1
  have cM := hMat k hk1 hk w
  unfold DPost at cM
  have GR : Hid (∀ p, gaG p l l.length < rowsN k) := hide (fun p => ga_rows hk1 hk hl p)
  have hl3 : l.length ≤ 3 := by have := q_le k hk; omega
  have hr8 : rowsN k ≤ 8 := by rcases rowsN_is k with e | e | e <;> omega
  have HWB : Hid (∀ r c, wbP k l r c = if rsG (r ^^^ c) l l.length = 0 then mbs k (rowsN k * gaG r l l.length + gaG c l l.length) else (0, 0)) := hide (fun _ _ => rfl)
  unfold Nr at hN
  have HN := hide hN
  have HQ := hide hq
  obtain ⟨L, hL⟩ : ∃ L, l.length = L := ⟨_, rfl⟩
  rw [hL] at HN HQ GR hl3 HWB ⊢
  generalize rowsN k = n at *
  clear hN hq hl hS hL hk1
  go_enter Tryd.func56, Tryd.ntmps56
  go_wp2_with fail
  refine cM.mono ?_
  rintro e w0 ⟨gk, rk, rfl, hK, hgk, hrk, q0⟩
  clear cM
  have hq0 : Dr (w0.alloc (.cells (madeCells #[.slice none 0 0] S) 62)) w0.heap.size S 0 (fun _ => 0) (fun _ _ => (0, 0)) := ⟨(rk_made w0 S 62 (.slice none 0 0)).congr (fun i hi => by simp), fun r hr => by omega, fun r s hr => by omega, fun r hr => by omega⟩
  have b0 := below_new w0 (.cells (madeCells #[.slice none 0 0] S) 62)
  have HK := hide hK
  clear hK hgk hrk
  go_wp2_with fail
  generalize w0.alloc (.cells (madeCells #[.slice none 0 0] S) 62) = W0 at *
  have Q0 := hide hq0
  clear hq0
  go_loopw [11, 12, 13, 14, 15, 16] (fun vr _ _ _ _ _ wr => ∃ (r : Nat) (rb : Nat → Nat), vr = .int .i64 (r : Int) ∧ r ≤ S ∧ Hid (Dr wr w0.heap.size S r rb (fun i j => wbP k l i j)) ∧ Hid (∀ i, i < r → w0.heap.size ≤ rb i) ∧ Below w0.heap.size w0 wr) (fun vr _ _ _ _ _ _ => S - (Go.RowKit.intOf vr).toNat)
  case atStart => exact ⟨0, _, rfl, by omega, hide (Q0.out.congr (fun r c hr => by omega)), hide (fun i hi => by omega), b0⟩
  case round =>
    clear Q0 b0
    obtain ⟨r, rb0, rfl, hrn, HD, HL, hb⟩ := hrel
    by_cases h : r < S
    · have hd : decide ((r : Int) < (S : Int)) = true := decide_eq_true (by omega)
      have bz := below_new wr (.cells (zRow S) 66)
      have zf := (HD.out.top.below bz).frozen r
      have hc0 := (HD.out.top.below bz).cell r h
      have HS := hide HD.out.step
      have hbS := (hb.trans (bz.mono hb.size)).setCell (p := ⟨w0.heap.size, r, none⟩) (Nat.le_refl _) (.slice (some ⟨wr.heap.size, 0, none⟩) S S)
      obtain ⟨rb, hrb⟩ : ∃ rb : Nat → Nat, rb = fun i => if i = r then wr.heap.size else rb0 i := ⟨_, rfl⟩
      have HL2 : Hid (∀ i, i < r + 1 → w0.heap.size ≤ rb i) := hide (fun i hi => by
        rw [hrb]
        by_cases e : i = r
        · simp only [e, if_true]; exact hb.size
        · simp only [e, if_false]; exact HL.out i (by omega))
      rw [← hrb] at HS
      have HS2 := hide (HS.out.congr (f' := fun i j => if i < r then wbP k l i j else (0, 0)) (fun i j hi hj => by
        by_cases e : i = r
        · rw [if_pos e, if_neg (by omega)]
        · rw [if_neg e, if_pos (by omega)]))
      clear HD bz hb HL hrb HS
      go_wp2_with fail
      generalize (wr.alloc (.cells (zRow S) 66)).setCell ⟨w0.heap.size, r, none⟩ (.slice (some ⟨wr.heap.size, 0, none⟩) S S) = W1 at *
      go_loopw [12, 13, 14, 15, 16] (fun vc _ _ _ _ wc => ∃ c : Nat, vc = .int .i64 (c : Int) ∧ c ≤ S ∧ Hid (Dr wc w0.heap.size S (r + 1) rb (fun i j => if i < r ∨ i = r ∧ j < c then wbP k l i j else (0, 0))) ∧ Below w0.heap.size w0 wc) (fun vc _ _ _ _ _ => S - (Go.RowKit.intOf vc).toNat)
      case atStart => exact ⟨0, rfl, by omega, hide (HS2.out.congr (fun i j _ _ => by simp)), hbS⟩
      case round =>
        clear HS2 hbS zf hc0
        obtain ⟨c, rfl, hcn, HD, hb⟩ := hrel
        by_cases hc : c < S
        · have hdc : decide ((c : Int) < (S : Int)) = true := decide_eq_true (by omega)
          have hxor := xor_small ⟨r, by omega⟩ ⟨c, by omega⟩
          dsimp only at hxor
          have hx64 : r ^^^ c < 64 := Nat.xor_lt_two_pow (n := 6) (by omega) (by omega)
          generalize wr = wc at *
          go_wp2_with fail
          go_loopw [13, 14, 15, 16] (fun vx vy vd vi wi => ∃ i : Nat, vi = .int .i64 (i : Int) ∧ i ≤ L ∧ vx = .int .i64 (gaG r l i : Int) ∧ vy = .int .i64 (gaG c l i : Int) ∧ vd = .int .i64 (rsG (r ^^^ c) l i : Int) ∧ Below wc.heap.size wc wi) (fun _ _ _ vi _ => L - (Go.RowKit.intOf vi).toNat)
          case atStart => exact ⟨0, rfl, by omega, rfl, rfl, rfl, Below.refl _ _⟩
          case round =>
            clear hxor
            obtain ⟨i, rfl, hi, rfl, rfl, rfl, hbi⟩ := hrel
            by_cases hil : i < L
            · have hdi : decide ((i : Int) < (L : Int)) = true := decide_eq_true (by omega)
              have hbw := q0.trans ((hb.trans (hbi.mono hb.size)).mono q0.size)
              have hcell := (HN.out.below hbw).cell i hil
              have hz6 := HQ.out i hil
              have HSx : Hid (gaG r l (i + 1) = gaG r l i ||| bitN r (l.getD i 0) * 2 ^ i) := hide rfl
              have HSy : Hid (gaG c l (i + 1) = gaG c l i ||| bitN c (l.getD i 0) * 2 ^ i) := hide rfl
              have HSd : Hid (rsG (r ^^^ c) l (i + 1) = rsG (r ^^^ c) l i - bitN (rsG (r ^^^ c) l i) (l.getD i 0) * 2 ^ (l.getD i 0)) := hide rfl
              have hx := gaG_lt r l i (by omega)
              have hy := gaG_lt c l i (by omega)
              have hr' := Nat.lt_of_le_of_lt (rsG_le (r ^^^ c) l i) hx64
              generalize l.getD i 0 = z at *
              generalize gaG r l i = x at *
              generalize gaG c l i = y at *
              generalize rsG (r ^^^ c) l i = d at *
              have hpz := pow_run z hz6
              clear hbw
              go_wp2_with fail
              refine ⟨⟨i + 1, by go_num, by omega, ?_, ?_, ?_, hbi⟩, by simp [Go.RowKit.intOf]; omega⟩
              · rw [HSx.out, bit_run r z (by omega), shl_run _ _ (bitN_lt r z) (by omega)]
                have := or_small ⟨x, hx⟩ ⟨_, shl_lt _ i (bitN_lt r z) (by omega)⟩
                rw [this]
              · rw [HSy.out, bit_run c z (by omega), shl_run _ _ (bitN_lt c z) (by omega)]
                have := or_small ⟨y, hy⟩ ⟨_, shl_lt _ i (bitN_lt c z) (by omega)⟩
                rw [this]
              · have := andNot_small ⟨d, hr'⟩ ⟨z, hz6⟩
                dsimp only at this
                rw [HSd.out, ← this]
            · have hdi : decide ((i : Int) < (L : Int)) = false := decide_eq_false (by omega)
              have ei : i = L := by omega
              have hX := GR.out r
              have hY := GR.out c
              have HWe : Hid (wbP k l r c = if rsG (r ^^^ c) l i = 0 then mbs k (n * gaG r l i + gaG c l i) else (0, 0)) := hide (by rw [HWB.out, ei])
              rw [← ei] at hX hY
              clear ei
              generalize gaG r l i = x at *
              generalize gaG c l i = y at *
              generalize rsG (r ^^^ c) l i = d at *
              have hbw := hb.trans (hbi.mono hb.size)
              have hD := HD.out.below hbi
              clear HD hb
              by_cases hd0 : d = 0
              · have hde : ((d : Int) == 0) = true := by simp [hd0]
                have HWe2 : Hid (wbP k l r c = mbs k (n * x + y)) := hide (by rw [HWe.out, if_pos hd0])
                have hrZ : (r : Int) < (S : Int) := by omega
                have hcZ : (c : Int) < (S : Int) := by omega
                have hxZ : (x : Int) < (n : Int) := by omega
                have hyZ : (y : Int) < (n : Int) := by omega
                have hK1 := HK.out.below hbw
                have five : ∀ W, Below wr.heap.size wr W → W.cell? ⟨w0.heap.size, r, none⟩ = some (.slice (some ⟨rb r, 0, none⟩) S S) ∧ W.cell? ⟨gk, x, none⟩ = some (.slice (some ⟨rk x, 0, none⟩) n n) ∧ W.cell? ⟨rk x, y * 2, none⟩ = some (.float .f64 (wbP k l r c).1) ∧ W.cell? ⟨rk x, y * 2 + 1, none⟩ = some (.float .f64 (wbP k l r c).2) := fun W hW => ⟨(hD.below hW).row (by omega) h, (hK1.below hW).row hX, by rw [HWe2.out]; exact (hK1.below hW).re hX hY, by rw [HWe2.out]; exact (hK1.below hW).im hX hY⟩
                have HS : ∀ W, Below wr.heap.size wr W → Dr ((W.setCell ⟨rb r, c * 2, none⟩ (.float .f64 (wbP k l r c).1)).setCell ⟨rb r, c * 2 + 1, none⟩ (.float .f64 (wbP k l r c).2)) w0.heap.size S (r + 1) rb (fun i j => if i < r ∨ i = r ∧ j < c + 1 then wbP k l i j else (0, 0)) := fun W hW => ((hD.below hW).set (r := r) (c := c) (by omega) (wbP k l r c)).congr (fun i j _ _ => by
                  by_cases e1 : i = r ∧ j = c
                  · rw [if_pos e1, if_pos (by omega), e1.1, e1.2]
                  · rw [if_neg e1]
                    have h1 : (i < r ∨ i = r ∧ j < c + 1) ↔ (i < r ∨ i = r ∧ j < c) := by omega
                    simp only [h1])
                have HF : ∀ W, Below wr.heap.size wr W → W.frozen? ⟨rb r, c * 2, none⟩ = false ∧ (W.setCell ⟨rb r, c * 2, none⟩ (.float .f64 (wbP k l r c).1)).frozen? ⟨rb r, c * 2 + 1, none⟩ = false := fun W hW => ⟨((hD.below hW).rows _ (by omega)).frozen _, (((hD.below hW).rows _ (by omega)).set (c * 2) _).frozen _⟩
                have HR : ∀ W, Below wr.heap.size wr W → W.cell? ⟨rb r, c * 2, none⟩ = some (.float .f64 _) := fun W hW => (hD.below hW).re (by omega) hc
                have HI : ∀ W, Below wr.heap.size wr W → W.cell? ⟨rb r, c * 2 + 1, none⟩ = some (.float .f64 _) := fun W hW => (hD.below hW).im (by omega) hc
                have hrbl : w0.heap.size ≤ rb r := HL2.out r (by omega)
                clear HWe HWe2 hD hK1 hbi hd0
                generalize wbP k l r c = E at *
                go_wp2_with fail
                refine wp_region_quiet_last (C := fun W => Below wr.heap.size wr W) (by kernel_rfl) 13 rfl (by kernel_rfl) (by kernel_rfl) (below_drewN (Below.refl _ _) 1) ?_
                simp only [List.take_succ_cons, List.take_zero]
                repeat
                  refine wpQuiet_step (fun K hK => ?_)
                  go_simp
                  first
                    | (refine hK _ ?_; clear hK K)
                    | (apply Exists.intro
                       refine ⟨fun W hW => ?_, hK _ ?_⟩
                       first
                         | with_reducible rfl
                         | (skip; obtain ⟨a0, a1, a2, a3⟩ := five W hW; go_simp; rfl)
                       clear hK K)
                refine wpQuiet_nil ?_
                intro W hW
                obtain ⟨f1, f2⟩ := HF W hW
                have r1 := HR W hW
                have r2 := HI W hW
                have HW := hide (HS W hW)
                have hbS := ((hbw.trans (hW.mono hbw.size)).setCell (p := ⟨rb r, c * 2, none⟩) hrbl (.float .f64 E.1)).setCell (p := ⟨rb r, c * 2 + 1, none⟩) hrbl (.float .f64 E.2)
                clear HS HF HR HI hW hbw five
                go_wp2_with fail
                exact ⟨⟨c + 1, by go_num, by omega, HW, hbS⟩, by simp [Go.RowKit.intOf]; omega⟩
              · have hde : ((d : Int) == 0) = false := by simp; omega
                have HW := hide (hD.congr (f' := fun i j => if i < r ∨ i = r ∧ j < c + 1 then wbP k l i j else (0, 0)) (fun i j _ _ => by
                  by_cases e1 : i = r ∧ j = c
                  · rw [if_neg (by omega), if_pos (by omega), e1.1, e1.2, HWe.out, if_neg hd0]
                  · have h1 : (i < r ∨ i = r ∧ j < c + 1) ↔ (i < r ∨ i = r ∧ j < c) := by omega
                    simp only [h1]))
                clear HWe hD hbi hd0
                go_wp2_with fail
                exact ⟨⟨c + 1, by go_num, by omega, HW, hbw⟩, by simp [Go.RowKit.intOf]; omega⟩
        · have hdc : decide ((c : Int) < (S : Int)) = false := decide_eq_false (by omega)
          have HE := hide (HD.out.congr (f' := fun i j => wbP k l i j) (fun i j hi hj => by rw [if_pos (by omega)]))
          clear HD
          go_wp2_with fail
          exact ⟨⟨r + 1, rb, by go_num, by omega, HE, HL2, hb⟩, by simp [Go.RowKit.intOf]; omega⟩
    · have hd : decide ((r : Int) < (S : Int)) = false := decide_eq_false (by omega)
      have er : r = S := by omega
      rw [er] at HD
      clear er
      go_wp2_with fail
      go_ret
      exact ⟨w0.heap.size, rb0, rfl, HD.out.whole, q0.trans (hb.mono q0.size)⟩
end Go.Proofs.YtnhdgellckcnbaaDoor.Gt
/- Which qubits two gates have in common: their names do not matter. -/
namespace Go.Proofs.YtnhdgellckcnbaaDoor.Gt

theorem ixP_get : ∀ {l : List Int} {v : Int} {i : Nat}, ixP l v = some i → l[i]? = some v
  | [], v, i, h => by simp [ixP] at h
  | a :: r, v, i, h => by
    rw [ixP] at h
    by_cases e : v = a
    · rw [if_pos e] at h; cases h; simp [e]
    · rw [if_neg e] at h
      cases hr : ixP r v with
      | none => simp [hr] at h
      | some m =>
        have := ixP_get hr
        simp [hr] at h
        subst h
        simpa using this
theorem ixP_map (f : Int → Int) : ∀ (l : List Int) (v : Int), (∀ a ∈ l, f v = f a → v = a) → ixP (l.map f) (f v) = ixP l v
  | [], _, _ => rfl
  | a :: r, v, h => by
    rw [List.map_cons, ixP, ixP, ixP_map f r v (fun b hb => h b (List.mem_cons_of_mem _ hb))]
    by_cases e : v = a
    · rw [if_pos e, if_pos (by rw [e])]
    · rw [if_neg e, if_neg (fun h' => e (h a (by simp) h'))]
theorem posP_map (f : Int → Int) (l m : List Int) (h : ∀ v ∈ m, ∀ a ∈ l, f v = f a → v = a) : posP (l.map f) (m.map f) = posP l m := by
  unfold posP
  rw [List.map_map]
  refine List.map_congr_left (fun v hv => ?_)
  show (ixP (l.map f) (f v)).getD 0 = _
  rw [ixP_map f l v (h v hv)]
theorem allP_map (f : Int → Int) (la lb : List Int) (h : ∀ v ∈ lb, ∀ a ∈ la, f v = f a → v = a) : allP (la.map f) (lb.map f) = (allP la lb).map f := by
  unfold allP
  rw [List.map_append, List.filter_map]
  congr 2
  refine List.filter_congr (fun v hv => ?_)
  show (!decide (f v ∈ la.map f)) = !decide (v ∈ la)
  congr 1
  rw [decide_eq_decide, List.mem_map]
  constructor
  · rintro ⟨a, ha, e⟩
    rw [h v hv a ha e.symm]
    exact ha
  · intro hm
    exact ⟨v, hm, rfl⟩
theorem ix_range : ∀ l : List Int, l.Nodup → l.map (fun q => (ixP l q).getD 0) = List.range l.length
  | [], _ => rfl
  | a :: r, h => by
    rw [List.nodup_cons] at h
    have ih := ix_range r h.2
    rw [List.map_cons, List.length_cons, List.range_succ_eq_map, ← ih, List.map_map]
    congr 1
    · simp [ixP]
    · refine List.map_congr_left (fun q hq => ?_)
      have hne : ¬ q = a := fun e => h.1 (e ▸ hq)
      rw [ixP, if_neg hne]
      cases e : ixP r q with
      | none => exact absurd hq (ixP_none.1 e)
      | some m => simp [e]
theorem apG_at {l : List Int} : ∀ (m i : Nat), apG l m i = true → ∀ j, i ≤ j → j < i + m → l.getD j 0 ∉ l.take j
  | 0, i, _, j, h1, h2 => by omega
  | m + 1, i, h, j, h1, h2 => by
    rw [apG, Bool.and_eq_true, Bool.and_eq_true] at h
    by_cases e : j = i
    · subst e
      simpa using h.1.2
    · exact apG_at m (i + 1) h.2 j (by omega) (by omega)
theorem ap_nodup {q : Int} {l : List Int} (h : apP q l = true) : l.Nodup := by
  unfold apP at h
  rw [Bool.and_eq_true] at h
  rw [List.Nodup, List.pairwise_iff_getElem]
  intro i j hi hj hij e
  refine apG_at l.length 0 h.2 j (by omega) (by omega) ?_
  rw [List.getD_eq_getElem?_getD, List.getElem?_eq_getElem hj, Option.getD_some, ← e]
  rw [List.mem_take_iff_getElem]
  exact ⟨i, by omega, rfl⟩
theorem allP_nodup {la lb : List Int} (ha : la.Nodup) (hb : lb.Nodup) : (allP la lb).Nodup := by
  unfold allP
  rw [List.nodup_append]
  refine ⟨ha, hb.filter _, fun a h1 b h2 e => ?_⟩
  rw [List.mem_filter] at h2
  subst e
  simp [h1] at h2
theorem mem_allP {la lb : List Int} {q : Int} : q ∈ allP la lb ↔ q ∈ la ∨ q ∈ lb := by
  unfold allP
  rw [List.mem_append, List.mem_filter]
  by_cases h : q ∈ la <;> simp [h]
def iota (n : Nat) : List Int := (List.range n).map Int.ofNat
/-- All lists of so many numbers below N. -/
def lsts (N : Nat) : Nat → List (List Int)
  | 0 => [[]]
  | m + 1 => (List.range N).flatMap fun (i : Nat) => (lsts N m).map fun r => (i : Int) :: r
theorem mem_lsts {N : Nat} : ∀ (p : List Int), (∀ x ∈ p, ∃ i : Nat, i < N ∧ x = (i : Int)) → p ∈ lsts N p.length
  | [], _ => by simp [lsts]
  | x :: r, h => by
    rw [List.length_cons, lsts, List.mem_flatMap]
    obtain ⟨i, hi, rfl⟩ := h x (by simp)
    exact ⟨i, List.mem_range.2 hi, List.mem_map.2 ⟨r, mem_lsts r (fun y hy => h y (List.mem_cons_of_mem _ hy)), rfl⟩⟩
/-- Do they commute, by the lists? -/
def alc (a b : Nat) (la lb : List Int) : Bool := alkL (2 ^ (allP la lb).length) a (posP (allP la lb) la) b (posP (allP la lb) lb) (2 ^ (allP la lb).length) 0
theorem alc_map (f : Int → Int) (a b : Nat) (la lb : List Int) (h : ∀ v w, v ∈ la ∨ v ∈ lb → w ∈ la ∨ w ∈ lb → f v = f w → v = w) : alc a b (la.map f) (lb.map f) = alc a b la lb := by
  unfold alc
  rw [allP_map f la lb (fun v hv w hw => h v w (.inr hv) (.inl hw)), List.length_map, posP_map f _ la (fun v hv w hw => h v w (.inl hv) (mem_allP.1 hw)), posP_map f _ lb (fun v hv w hw => h v w (.inr hv) (mem_allP.1 hw))]
def dgN (k : Nat) : Bool := k == 1 || k == 4 || k == 5 || k == 6 || k == 13 || k == 19
def symB (a b : Nat) (la lb : List Int) : Bool := (alc a b la lb == alc b a lb la) && (!(dgN a && dgN b) || alc a b la lb)
def tabB (na nb : Nat) (ka kb : List Nat) : Bool := (lsts (na + nb) nb).all fun p => !decide p.Nodup || !decide (allP (iota na) p = iota (allP (iota na) p).length) || (allP (iota na) p).length == na + nb || ka.all fun a => kb.all fun b => symB a b (iota na) p
/-- By a table of the qubits as they may lie, all of them are told. -/
theorem tab_sym {na nb : Nat} {ka kb : List Nat} (ht : tabB na nb ka kb = true) {la lb : List Int} (ha : la.length = na) (hb : lb.length = nb) (da : la.Nodup) (db : lb.Nodup) (hc : (allP la lb).length ≠ na + nb) {a b : Nat} (ka' : a ∈ ka) (kb' : b ∈ kb) : symB a b la lb = true := by
  obtain ⟨f, hf⟩ : ∃ f : Int → Int, f = fun q => (((ixP (allP la lb) q).getD 0 : Nat) : Int) := ⟨_, rfl⟩
  have dA := allP_nodup da db
  have inj : ∀ v w, v ∈ la ∨ v ∈ lb → w ∈ la ∨ w ∈ lb → f v = f w → v = w := by
    intro v w hv hw e
    rw [hf] at e
    simp only [Int.natCast_inj] at e
    cases hv' : ixP (allP la lb) v with
    | none => exact absurd (mem_allP.2 hv) (ixP_none.1 hv')
    | some i =>
      cases hw' : ixP (allP la lb) w with
      | none => exact absurd (mem_allP.2 hw) (ixP_none.1 hw')
      | some j =>
        rw [hv', hw'] at e
        simp only [Option.getD_some] at e
        subst e
        have h1 := ixP_get hv'
        rw [ixP_get hw'] at h1
        exact (Option.some.inj h1).symm
  have hA : (allP la lb).map f = iota (allP la lb).length := by
    rw [iota, ← ix_range _ dA, List.map_map, hf]
    rfl
  have hna : na ≤ (allP la lb).length := by
    rw [← ha]; unfold allP; rw [List.length_append]; omega
  have hle : (allP la lb).length ≤ na + nb := by
    unfold allP
    rw [List.length_append]
    have := List.length_filter_le (fun q => !decide (q ∈ la)) lb
    omega
  have hla : la.map f = iota na := by
    have h1 : ((allP la lb).map f).take na = la.map f := by
      rw [← List.map_take]
      congr 1
      unfold allP
      rw [← ha, List.take_left]
    rw [← h1, hA, iota, ← List.map_take, List.take_range, Nat.min_eq_left hna, iota]
  have hp : lb.map f ∈ lsts (na + nb) nb := by
    have := mem_lsts (N := na + nb) (lb.map f) (fun x hx => by
      rw [List.mem_map] at hx
      obtain ⟨q, hq, rfl⟩ := hx
      refine ⟨(ixP (allP la lb) q).getD 0, ?_, by rw [hf]⟩
      cases e : ixP (allP la lb) q with
      | none => exact absurd (mem_allP.2 (.inr hq)) (ixP_none.1 e)
      | some i => have := ixP_lt e; simp; omega)
    rw [List.length_map, hb] at this
    exact this
  have hal : allP (iota na) (lb.map f) = iota (allP la lb).length := by
    rw [← hla, allP_map f la lb (fun v hv w hw => inj v w (.inr hv) (.inl hw)), hA]
  have hlen : (iota (allP la lb).length).length = (allP la lb).length := by simp [iota]
  have hnd : (lb.map f).Nodup := by
    rw [List.Nodup, List.pairwise_map]
    refine db.imp_of_mem (fun h1 h2 h3 e => h3 (inj _ _ (.inr h1) (.inr h2) e))
  unfold tabB at ht
  rw [List.all_eq_true] at ht
  have h1 := ht _ hp
  rw [hal, hlen, decide_eq_true hnd, decide_eq_true rfl] at h1
  simp only [Bool.not_true, Bool.false_or, Bool.or_eq_true, beq_iff_eq] at h1
  have h2 := h1.resolve_left hc
  rw [List.all_eq_true] at h2
  have h3 := h2 a ka'
  rw [List.all_eq_true] at h3
  have h4 := h3 b kb'
  unfold symB at h4 ⊢
  rw [← hla, alc_map f a b la lb inj, alc_map f b a lb la (fun v w hv hw => inj v w hv.symm hw.symm)] at h4
  exact h4
end Go.Proofs.YtnhdgellckcnbaaDoor.Gt
/- The document's Check; the law GateChecks, as it is walked. -/
namespace Go.Proofs.YtnhdgellckcnbaaDoor.Gt
open Go.RowKit Go.Proofs.YtnhdgellckcnbaaDoor.Oct

/-- Is a number at a place a fit one? -/
def okAt (l : List Int) (n : Int) (i : Nat) : Bool := decide (0 ≤ l.getD i 0) && decide (l.getD i 0 < n) && !decide (l.getD i 0 ∈ l.take i)
def hcG (l : List Int) (n : Int) : Nat → Nat → Int
  | 0, _ => 0
  | m + 1, i => if okAt l n i then hcG l n m (i + 1) else 61
/-- What the document's Check answers. -/
def hchP (k : Int) (l : List Int) (n : Int) : Int := if !knB (rw' k) then 60 else if (l.length : Int) ≠ (rw' k).q then 61 else hcG l n l.length 0
theorem hcG_zero (l : List Int) (n : Int) : ∀ m i, (∀ j, i ≤ j → j < i + m → okAt l n j = true) → hcG l n m i = 0
  | 0, _, _ => rfl
  | m + 1, i, h => by
    rw [hcG, if_pos (h i (by omega) (by omega))]
    exact hcG_zero l n m (i + 1) (fun j h1 h2 => h j (by omega) (by omega))
theorem hcG_bad (l : List Int) (n : Int) : ∀ m i j, i ≤ j → j < i + m → okAt l n j = false → hcG l n m i = 61
  | 0, i, j, h1, h2, _ => by omega
  | m + 1, i, j, h1, h2, h => by
    rw [hcG]
    by_cases c : okAt l n i = true
    · rw [if_pos c]
      have : i ≠ j := fun e => by rw [e, h] at c; cases c
      exact hcG_bad l n m (i + 1) j (by omega) (by omega) h
    · rw [if_neg c]
theorem apG_true (l : List Int) : ∀ m i, apG l m i = true ↔ ∀ j, i ≤ j → j < i + m → 0 ≤ l.getD j 0 ∧ l.getD j 0 ∉ l.take j
  | 0, i => by simp [apG]; intro j h1 h2; omega
  | m + 1, i => by
    rw [apG, Bool.and_eq_true, Bool.and_eq_true, apG_true l m (i + 1)]
    constructor
    · rintro ⟨⟨a, b⟩, c⟩ j h1 h2
      by_cases e : j = i
      · subst e
        exact ⟨of_decide_eq_true a, by simpa using b⟩
      · exact c j (by omega) (by omega)
    · intro h
      have := h i (by omega) (by omega)
      exact ⟨⟨decide_eq_true this.1, by simpa using this.2⟩, fun j h1 h2 => h j (by omega) (by omega)⟩
theorem chk_same (k : Int) (l : List Int) (n : Int) : chkP k l n = hchP k l n := by
  unfold chkP hchP
  cases hk : knB (rw' k)
  · rfl
  · have hq : 0 < (rw' k).q := by unfold knB at hk; exact of_decide_eq_true hk
    simp only [Bool.not_true, Bool.false_eq_true, if_false]
    by_cases hl : (l.length : Int) = (rw' k).q
    · rw [if_neg (show ¬ ((l.length : Int) ≠ (rw' k).q) from fun h => h hl)]
      have hp : apP (rw' k).q l = apG l l.length 0 := by unfold apP; rw [decide_eq_true hl, Bool.true_and]
      rw [hp]
      have h0 : 0 < l.length := by omega
      by_cases ha : apG l l.length 0 = true
      · rw [ha]
        have hA := (apG_true l l.length 0).1 ha
        simp only [Bool.not_true, Bool.false_eq_true, if_false]
        by_cases hm : n ≤ mxG l (l.length - 1)
        · rw [if_pos hm]
          obtain ⟨j, hj, hn⟩ := (mxG_ge l n _).1 hm
          refine (hcG_bad l n l.length 0 j (by omega) (by omega) ?_).symm
          unfold okAt
          rw [decide_eq_false (show ¬ l.getD j 0 < n by omega)]
          simp
        · rw [if_neg hm]
          refine (hcG_zero l n l.length 0 (fun j _ hj => ?_)).symm
          have h1 := hA j (by omega) (by omega)
          have h2 : l.getD j 0 < n := by
            by_cases c : n ≤ l.getD j 0
            · exact absurd ((mxG_ge l n _).2 ⟨j, by omega, c⟩) hm
            · omega
          unfold okAt
          rw [decide_eq_true h1.1, decide_eq_true h2, decide_eq_false h1.2]
          rfl
      · have ha' : apG l l.length 0 = false := by cases e : apG l l.length 0 <;> simp_all
        rw [ha']
        have : ∃ j, j < l.length ∧ okAt l n j = false := by
          apply Classical.byContradiction
          intro hno
          apply ha
          rw [apG_true]
          intro j _ hj
          have : okAt l n j = true := by
            cases e : okAt l n j
            · exact absurd ⟨j, by omega, e⟩ hno
            · rfl
          unfold okAt at this
          rw [Bool.and_eq_true, Bool.and_eq_true] at this
          exact ⟨of_decide_eq_true this.1.1, by simpa using this.2⟩
        obtain ⟨j, hj, hb⟩ := this
        rw [hcG_bad l n l.length 0 j (by omega) (by omega) hb]
        rfl
    · rw [if_pos (show ((l.length : Int) ≠ (rw' k).q) from hl)]
      have hp : apP (rw' k).q l = false := by unfold apP; rw [decide_eq_false hl, Bool.false_and]
      rw [hp]
      rfl
end Go.Proofs.YtnhdgellckcnbaaDoor.Gt
/- The document's apart and find. -/
namespace Go.Proofs.YtnhdgellckcnbaaDoor.Gt
open Go.RowKit Go.Proofs.YtnhdgellckcnbaaDoor.Oct

set_option maxRecDepth 100000 in
set_option maxHeartbeats 2000000 in
theorem hApart (ao : Option Addr) (c : Nat) (l : List Int) (hl : l.length ≤ 1000000000000000) (w : World) (hN : Ns w ao l) : Calls Tryd.prog 54 #[.slice ao l.length c] w fun e w' => e = .returned (.bool (apG l l.length 0)) ∧ Below w.heap.size w w' := by
  obtain ⟨R, hR⟩ : ∃ R, apG l l.length 0 = R := ⟨_, rfl⟩
  rw [hR]
  have HN := hide hN
  have HR := hide hR
  obtain ⟨m, hm⟩ : ∃ m, l.length = m := ⟨_, rfl⟩
  have HL := hide hm
  rw [hm] at hl ⊢
  clear hN hR hm
  have HS : Hid (R = apG l (m - 0) 0) := hide (by rw [← HR.out, HL.out]; rfl)
  clear HR
  go_enter Tryd.func54, Tryd.ntmps54
  go_wp2_with fail
  go_loopw [3, 4] (fun vi _ wr => ∃ i : Nat, vi = .int .i64 (i : Int) ∧ i ≤ m ∧ Hid (R = apG l (m - i) i) ∧ Below w.heap.size w wr) (fun vi _ _ => m - (Go.RowKit.intOf vi).toNat)
  case atStart => exact ⟨0, rfl, by omega, HS, Below.refl _ _⟩
  case round =>
    clear HS
    obtain ⟨i, rfl, hi, HS, hb⟩ := hrel
    by_cases h : i < m
    · have hd : decide ((i : Int) < (m : Int)) = true := decide_eq_true (by omega)
      have hlt : i < l.length := by rw [HL.out]; exact h
      obtain ⟨z, hz⟩ : ∃ z, l[i]? = some z := ⟨_, List.getElem?_eq_getElem hlt⟩
      have hgd : l.getD i 0 = z := by rw [List.getD_eq_getElem?_getD, hz]; rfl
      obtain ⟨g, off, rfl, hcs⟩ := (HN.out.below hb).resolve_left (fun e => by rw [e] at hz; simp at hz)
      have hcell := hcs i z hz
      have HC := hide hcs
      have HS2 : Hid (R = (decide (0 ≤ z) && !decide (z ∈ l.take i) && apG l (m - (i + 1)) (i + 1))) := hide (by
        rw [HS.out, show m - i = (m - (i + 1)) + 1 by omega, apG, hgd])
      clear hcs HS hgd
      by_cases hz0 : z < 0
      · have hzd : decide (z < 0) = true := decide_eq_true hz0
        have HF : Hid (R = false) := hide (by rw [HS2.out, decide_eq_false (show ¬ 0 ≤ z by omega)]; rfl)
        clear HS2
        go_wp2_with fail
        go_ret
        exact ⟨by rw [HF.out]; rfl, hb⟩
      · have hzd : decide (z < 0) = false := decide_eq_false hz0
        have HS3 : Hid (R = if z ∈ l.take i then false else apG l (m - (i + 1)) (i + 1)) := hide (by
          rw [HS2.out, decide_eq_true (show 0 ≤ z by omega)]
          by_cases c : z ∈ l.take i <;> simp [c])
        clear HS2
        go_wp2_with fail
        go_loopw [4] (fun vj wi => ∃ j : Nat, vj = .int .i64 (j : Int) ∧ j ≤ i ∧ Hid (∀ t, t < j → l[t]? ≠ some z) ∧ Below w.heap.size w wi) (fun vj _ => i - (Go.RowKit.intOf vj).toNat)
        case atStart => exact ⟨0, rfl, by omega, hide (fun t ht => absurd ht (by omega)), hb⟩
        case round =>
          clear hcell hb HC
          obtain ⟨j, rfl, hj, HJ, hb⟩ := hrel
          obtain ⟨g', off', hgo, hcs⟩ := (HN.out.below hb).resolve_left (fun e => by rw [e] at hz; simp at hz)
          cases hgo
          have hcell := hcs i z hz
          by_cases hji : j < i
          · have hjd : decide ((j : Int) < (i : Int)) = true := decide_eq_true (by omega)
            obtain ⟨y, hy⟩ : ∃ y, l[j]? = some y := ⟨_, List.getElem?_eq_getElem (by omega)⟩
            have hcy := hcs j y hy
            have hiZ : (i : Int) < (m : Int) := by omega
            have hjZ : (j : Int) < (m : Int) := by omega
            clear hcs
            by_cases hzy : y = z
            · have hbz : (y == z) = true := by simpa using hzy
              have HF : Hid (R = false) := hide (by
                rw [HS3.out, if_pos]
                rw [← hzy]
                refine List.mem_of_getElem? (i := j) ?_
                rw [List.getElem?_take, if_pos hji]
                exact hy)
              clear HS3 hzy hz hy
              go_wp2_with fail
              go_quiet (fail)
              go_wp2_with fail
              go_ret
              exact ⟨by rw [HF.out]; rfl, below_drewN hb _⟩
            · have hbz : (y == z) = false := by simpa using hzy
              have HJ2 : Hid (∀ t, t < j + 1 → l[t]? ≠ some z) := hide (fun t ht => by
                by_cases e : t = j
                · rw [e, hy]; intro e'; cases e'; exact hzy rfl
                · exact HJ.out t (by omega))
              clear HJ hzy hy
              go_wp2_with fail
              go_quiet (fail)
              go_wp2_with fail
              exact ⟨⟨j + 1, by go_num, by omega, HJ2, below_drewN hb _⟩, by simp [Go.RowKit.intOf]; omega⟩
          · obtain rfl : j = i := by omega
            have HF : Hid (R = apG l (m - (j + 1)) (j + 1)) := hide (by
              rw [HS3.out, if_neg]
              intro hmem
              obtain ⟨t, ht, e⟩ := List.getElem_of_mem hmem
              rw [List.length_take] at ht
              refine HJ.out t (by omega) ?_
              rw [List.getElem_take] at e
              rw [List.getElem?_eq_getElem (by omega), e])
            clear HS3 HJ hcs hz
            go_wp2_with fail
            exact ⟨⟨j + 1, by go_num, by omega, HF, hb⟩, by simp [Go.RowKit.intOf]; omega⟩
    · obtain rfl : i = m := by omega
      have HF : Hid (R = true) := hide (by rw [HS.out, Nat.sub_self]; rfl)
      clear HS
      go_wp2_with fail
      go_ret
      exact ⟨by rw [HF.out]; rfl, hb⟩
/-- Numbers with one put behind them, if it is not there. -/
def fdL (l : List Int) (q : Int) : List Int := if q ∈ l then l else l ++ [q]
theorem ixP_append {q : Int} : ∀ {l : List Int} (r : List Int) {i : Nat}, ixP l q = some i → ixP (l ++ r) q = some i
  | [], _, _, h => by simp [ixP] at h
  | a :: l, r, i, h => by
    rw [List.cons_append, ixP]
    rw [ixP] at h
    by_cases e : q = a
    · rw [if_pos e] at h ⊢; exact h
    · rw [if_neg e] at h ⊢
      cases hl : ixP l q with
      | none => simp [hl] at h
      | some m => rw [ixP_append r hl]; rw [hl] at h; exact h
theorem ixP_new {q : Int} : ∀ {l : List Int}, q ∉ l → ixP (l ++ [q]) q = some l.length
  | [], _ => by simp [ixP]
  | a :: l, h => by
    rw [List.mem_cons, not_or] at h
    rw [List.cons_append, ixP, if_neg h.1, ixP_new h.2]
    simp
theorem own_cells {w : World} {B : Nat} {ao : Option Addr} {c n : Nat} {lx : List Int} (h : w.ownsRow B 3 1 (.slice ao n c) n (lx.map (Value.int .i64))) {i : Nat} {z : Int} (hz : lx[i]? = some z) : ∃ g, ao = some ⟨g, 0, none⟩ ∧ w.cell? ⟨g, i, none⟩ = some (.int .i64 z) := by
  rcases h.2 with ⟨_, h0⟩ | ⟨g, cap, cur, e, _⟩
  · have h1 := h.1
    rw [List.length_map] at h1
    have := (List.getElem?_eq_some_iff.1 hz).1
    omega
  · cases e
    have hc := h.cells (g := g) (by rw [ob_eq]; rfl) i (.int .i64 z) (by rw [List.getElem?_map, hz]; rfl)
    rw [Addr.add_lit, Nat.zero_add] at hc
    exact ⟨g, rfl, hc⟩
set_option maxRecDepth 100000 in
set_option maxHeartbeats 2000000 in
theorem hFind (B : Nat) (ao : Option Addr) (c : Nat) (lx : List Int) (q : Int) (hl : lx.length ≤ 1000) (w : World) (hB : B ≤ w.heap.size) (hown : w.ownsRow B 3 1 (.slice ao lx.length c) lx.length (lx.map (Value.int .i64))) :
    Calls Tryd.prog 55 #[.slice ao lx.length c, .int .i64 q] w fun e w' => ∃ ao' c', e = .returned (.tuple #[.slice ao' (fdL lx q).length c', .int .i64 (((ixP (fdL lx q) q).getD 0 : Nat) : Int)]) ∧ w'.ownsRow B 3 1 (.slice ao' (fdL lx q).length c') (fdL lx q).length ((fdL lx q).map (Value.int .i64)) ∧ w.grownBy w' (ob ao) ∧ (ob ao' = ob ao ∨ ∀ k, ob ao' = some k → w.heap.size ≤ k) := by
  have HO := hide hown
  obtain ⟨m, hm⟩ : ∃ m, lx.length = m := ⟨_, rfl⟩
  have HL := hide hm
  obtain ⟨D, hDd⟩ : ∃ D, fdL lx q = D := ⟨_, rfl⟩
  rw [hDd]
  have HD := hide hDd
  rw [hm] at hl ⊢
  clear hown hm hDd
  go_enter Tryd.func55, Tryd.ntmps55
  go_wp2_with fail
  go_loop [6] (fun vi => ∃ i : Nat, vi = .int .i64 (i : Int) ∧ i ≤ m ∧ Hid (∀ t, t < i → lx[t]? ≠ some q)) (fun vi => m - (Go.RowKit.intOf vi).toNat)
  case atStart => exact ⟨0, rfl, by omega, hide (fun t ht => absurd ht (by omega))⟩
  case round =>
    obtain ⟨i, rfl, hi, HJ⟩ := hrel
    by_cases h : i < m
    · have hd : decide ((i : Int) < (m : Int)) = true := decide_eq_true (by omega)
      obtain ⟨z, hz⟩ : ∃ z, lx[i]? = some z := ⟨_, List.getElem?_eq_getElem (by rw [HL.out]; exact h)⟩
      have hO := HO.out
      rw [HL.out] at hO
      obtain ⟨g, rfl, hcell⟩ := own_cells hO hz
      clear hO
      by_cases hzq : z = q
      · have hbz : (z == q) = true := by simpa using hzq
        have hmem : q ∈ lx := by rw [← hzq]; exact List.mem_of_getElem? hz
        have HE : Hid (D = lx) := hide (by rw [← HD.out, fdL, if_pos hmem])
        have HI : Hid (ixP lx q = some i) := hide (by
          cases e : ixP lx q with
          | none => exact absurd hmem (ixP_none.1 e)
          | some j =>
            have h1 := ixP_get e
            rw [← hzq] at h1
            by_cases hji : j < i
            · exact absurd (by rw [← hzq]; exact h1) (HJ.out j hji)
            · by_cases hij : i < j
              · exfalso
                have h2 : ∀ (l : List Int) (v : Int) (j i : Nat), ixP l v = some j → i < j → l[i]? ≠ some v := by
                  intro l
                  induction l with
                  | nil => intro v j i e; simp [ixP] at e
                  | cons a r ih =>
                    intro v j i e hlt
                    rw [ixP] at e
                    by_cases ea : v = a
                    · rw [if_pos ea] at e; cases e; omega
                    · rw [if_neg ea] at e
                      cases er : ixP r v with
                      | none => simp [er] at e
                      | some m' =>
                        simp [er] at e
                        cases i with
                        | zero => simp; exact fun h => ea h.symm
                        | succ i' => simpa using ih v m' i' er (by omega)
                exact h2 lx q j i e hij (by rw [hz, hzq])
              · have : j = i := by omega
                rw [this])
        clear HD HJ hzq hmem
        go_wp2_with fail
        go_ret2
        have hO := HO.out
        rw [HL.out] at hO
        refine ⟨some ⟨g, 0, none⟩, c, ?_, ?_, ⟨rfl, rfl, rfl, Nat.le_refl _, fun _ _ _ => rfl⟩, .inl rfl⟩
        · rw [HE.out, HL.out, HI.out]; rfl
        · rw [HE.out, HL.out]; exact hO
      · have hbz : (z == q) = false := by simpa using hzq
        have HJ2 : Hid (∀ t, t < i + 1 → lx[t]? ≠ some q) := hide (fun t ht => by
          by_cases e : t = i
          · rw [e, hz]; intro e'; cases e'; exact hzq rfl
          · exact HJ.out t (by omega))
        clear HJ hzq hz
        go_wp2_with fail
        exact ⟨⟨i + 1, by go_num, by omega, HJ2⟩, by simp [Go.RowKit.intOf]; omega⟩
    · obtain rfl : i = m := by omega
      have hd : decide ((i : Int) < (i : Int)) = false := decide_eq_false (by omega)
      have hmem : q ∉ lx := fun hm => by
        obtain ⟨t, ht, e⟩ := List.getElem_of_mem hm
        exact HJ.out t (by rw [← HL.out]; exact ht) (by rw [List.getElem?_eq_getElem ht, e])
      have HE : Hid (D = lx ++ [q]) := hide (by rw [← HD.out, fdL, if_neg hmem])
      have HI : Hid (ixP (lx ++ [q]) q = some i) := hide (by rw [ixP_new hmem, HL.out])
      have hO := HO.out
      rw [HL.out] at hO
      have HMAP : Hid ((lx ++ [q]).map (Value.int .i64) = lx.map (Value.int .i64) ++ [.int .i64 q]) := hide (by simp)
      have HLEN : Hid ((lx ++ [q]).length = i + 1) := hide (by rw [List.length_append, HL.out]; rfl)
      clear HD HJ hmem HO HL
      generalize lx.map (Value.int .i64) = XS at *
      go_wp2_with (at_builtin; refine wpList_pushV rfl _ _ 42 rfl 3 Tryd.underlying42 _ 8 infoI rfl B ao i c XS rfl hO (.int .i64 q) rfl rfl (by omega) (by omega) hB ?_)
      intro g2 c2 w7 hown2 hgrow hat
      clear hO
      go_wp2_with fail
      go_ret2
      refine ⟨some ⟨g2, 0, none⟩, c2, ?_, ?_, hgrow, ?_⟩
      · rw [HE.out, HLEN.out, HI.out]; rfl
      · rw [HE.out, HLEN.out, HMAP.out]; exact hown2
      · rcases hat with e | e
        · exact .inl (by rw [e]; rfl)
        · exact .inr (fun k hk => by cases hk; exact e)
end Go.Proofs.YtnhdgellckcnbaaDoor.Gt
/- What the document's Commute leans on: numbers found, three rows of one's own. -/
namespace Go.Proofs.YtnhdgellckcnbaaDoor.Gt
open Go.RowKit Go.Proofs.YtnhdgellckcnbaaDoor.Oct Go.Proofs.YtnhdgellckcnbaaDoor.Dy

/-- A number as a value. -/
def nV (n : Nat) : Value := .int .i64 (n : Int)
theorem take_fd {la : List Int} (hd : la.Nodup) {i : Nat} {z : Int} (hz : la[i]? = some z) : fdL (la.take i) z = la.take (i + 1) ∧ (ixP (la.take (i + 1)) z).getD 0 = i := by
  have hlt := (List.getElem?_eq_some_iff.1 hz).1
  have hmem : z ∉ la.take i := fun hm => by
    rw [List.mem_take_iff_getElem] at hm
    obtain ⟨t, ht, e⟩ := hm
    rw [List.Nodup, List.pairwise_iff_getElem] at hd
    refine hd t i (by omega) hlt (by omega) ?_
    rw [e]
    exact (List.getElem?_eq_some_iff.1 hz).2.symm
  have htk : la.take (i + 1) = la.take i ++ [z] := by rw [List.take_add_one, hz]; rfl
  refine ⟨by rw [fdL, if_neg hmem, htk], ?_⟩
  rw [htk, ixP_new hmem, List.length_take]
  simp
  omega
theorem all_fd {la lb : List Int} (hd : lb.Nodup) {j : Nat} {z : Int} (hz : lb[j]? = some z) : fdL (allP la (lb.take j)) z = allP la (lb.take (j + 1)) ∧ (ixP (allP la (lb.take (j + 1))) z).getD 0 = (posP (allP la lb) lb).getD j 0 := by
  have hlt := (List.getElem?_eq_some_iff.1 hz).1
  have htk : lb.take (j + 1) = lb.take j ++ [z] := by rw [List.take_add_one, hz]; rfl
  have hmem : z ∉ lb.take j := fun hm => by
    rw [List.mem_take_iff_getElem] at hm
    obtain ⟨t, ht, e⟩ := hm
    rw [List.Nodup, List.pairwise_iff_getElem] at hd
    refine hd t j (by omega) hlt (by omega) ?_
    rw [e]
    exact (List.getElem?_eq_some_iff.1 hz).2.symm
  have hA : fdL (allP la (lb.take j)) z = allP la (lb.take (j + 1)) := by
    unfold fdL
    by_cases hla : z ∈ la
    · rw [if_pos (mem_allP.2 (.inl hla)), htk]
      unfold allP
      rw [List.filter_append]
      simp [hla]
    · rw [if_neg (fun h => (mem_allP.1 h).elim hla hmem), htk]
      unfold allP
      rw [List.filter_append]
      simp [hla]
  refine ⟨hA, ?_⟩
  have hin : z ∈ allP la (lb.take (j + 1)) := mem_allP.2 (.inr (by rw [htk]; simp))
  have hpre : allP la lb = allP la (lb.take (j + 1)) ++ (lb.drop (j + 1)).filter fun q => !decide (q ∈ la) := by
    conv => lhs; rw [← List.take_append_drop (j + 1) lb]
    unfold allP
    rw [List.filter_append, List.append_assoc]
  cases e : ixP (allP la (lb.take (j + 1))) z with
  | none => exact absurd hin (ixP_none.1 e)
  | some i =>
    unfold posP
    rw [List.getD_eq_getElem?_getD, List.getElem?_map, hz, hpre]
    show i = (ixP _ z).getD 0
    rw [ixP_append _ e]
    rfl
theorem pos_la {la lb : List Int} (hd : la.Nodup) : posP (allP la lb) la = List.range la.length := by
  unfold posP allP
  rw [← ix_range la hd]
  refine List.map_congr_left (fun q hq => ?_)
  cases e : ixP la q with
  | none => exact absurd hq (ixP_none.1 e)
  | some i => rw [ixP_append _ e]
/-- A gate's matrix on more qubits, by one index. -/
def mw (S k : Nat) (l : List Nat) (j : Nat) : Int × Int := wzP k l (j / S) (j % S)
theorem mw_at {S k : Nat} {l : List Nat} {r c : Nat} (hc : c < S) : mw S k l (S * r + c) = wzP k l r c := by
  unfold mw
  rw [Nat.mul_add_div (by omega), Nat.div_eq_of_lt hc, Nat.add_zero, Nat.mul_add_mod, Nat.mod_eq_of_lt hc]
/-- What the document's Commute answers of gates and qubits that may be. -/
def hcB (S a b : Nat) (pa pb : List Nat) : Bool := eqB (timP S (mw S a pa) (mw S b pb)) (timP S (mw S b pb) (mw S a pa)) (S * S)
def hcmP (a : Int) (la : List Int) (b : Int) (lb : List Int) : Bool × Int :=
  if !knB (rw' a) || !knB (rw' b) then (false, 60)
  else if !apP (rw' a).q la || !apP (rw' b).q lb then (false, 61)
  else (hcB (2 ^ (allP la lb).length) a.toNat b.toNat (posP (allP la lb) la) (posP (allP la lb) lb), 0)
theorem tim_le {n : Nat} (hn : n ≤ 64) {A B : Nat → Int × Int} (hA : ∀ j, zle (A j) 2) (hB : ∀ j, zle (B j) 2) (j : Nat) : zle (timP n A B j) 1048576 := zle_mono (dot_small hA hB n) (by omega)
theorem own_some {w : World} {B : Nat} {ao : Option Addr} {c : Nat} {px : List Nat} (h : w.ownsRow B 3 1 (.slice ao px.length c) px.length (px.map nV)) (h0 : 0 < px.length) : ∃ g, ao = some ⟨g, 0, none⟩ ∧ Nr w g px := by
  rcases h.2 with ⟨_, e⟩ | ⟨g, cap, cur, e, _⟩
  · omega
  · cases e
    refine ⟨g, rfl, (rk_own h (fun j => .int .i64 ((px.getD j 0 : Nat) : Int)) (fun i hi => ?_)).1⟩
    rw [List.getElem?_map, List.getElem?_eq_getElem hi, List.getD_eq_getElem?_getD, List.getElem?_eq_getElem hi]
    rfl
/-- A row of one's own. -/
structure Ow where
  ao : Option Addr
  n : Nat
  c : Nat
  xs : List Value
def Ow.own (r : Ow) (w : World) (B : Nat) : Prop := w.ownsRow B 3 1 (.slice r.ao r.n r.c) r.n r.xs
/-- Three rows of one's own, apart. -/
structure Tri (w : World) (B : Nat) (r1 r2 r3 : Ow) : Prop where
  o1 : r1.own w B
  o2 : r2.own w B
  o3 : r3.own w B
  d12 : ∀ k, ob r1.ao = some k → ob r2.ao ≠ some k
  d13 : ∀ k, ob r1.ao = some k → ob r3.ao ≠ some k
  d23 : ∀ k, ob r2.ao = some k → ob r3.ao ≠ some k
  hB : B ≤ w.heap.size
theorem own_keep {w w' : World} {B : Nat} {r : Ow} {row : Option Nat} (h : r.own w B) (hg : w.grownBy w' row) (hd : ∀ k, row = some k → ob r.ao ≠ some k) : r.own w' B := by
  refine World.ownsRow.kept h hg ?_
  by_cases e0 : ob r.ao = none
  · exact .inl (by rw [ob_eq]; exact e0)
  · refine .inr ?_
    rw [ob_eq]
    intro e
    cases hk : row with
    | none => rw [hk] at e; exact e0 e
    | some k => exact hd k hk (by rw [e, hk])
theorem Tri.swap {w : World} {B : Nat} {r1 r2 r3 : Ow} (h : Tri w B r1 r2 r3) : Tri w B r2 r1 r3 := ⟨h.o2, h.o1, h.o3, fun k h1 h2 => h.d12 k h2 h1, h.d23, h.d13, h.hB⟩
theorem Tri.turn {w : World} {B : Nat} {r1 r2 r3 : Ow} (h : Tri w B r1 r2 r3) : Tri w B r3 r2 r1 := ⟨h.o3, h.o2, h.o1, fun k h1 h2 => h.d23 k h2 h1, fun k h1 h2 => h.d13 k h2 h1, fun k h1 h2 => h.d12 k h2 h1, h.hB⟩
theorem Tri.grow {w w' : World} {B : Nat} {r1 r2 r3 r1' : Ow} (h : Tri w B r1 r2 r3) (hg : w.grownBy w' (ob r1.ao)) (ho : r1'.own w' B) (hat : ob r1'.ao = ob r1.ao ∨ ∀ k, ob r1'.ao = some k → w.heap.size ≤ k) : Tri w' B r1' r2 r3 := by
  have lt := fun (r : Ow) (hr : r.own w B) k (hk : ob r.ao = some k) => (World.ownsRow.lt hr k (by rw [ob_eq]; exact hk)).2
  refine ⟨ho, own_keep h.o2 hg h.d12, own_keep h.o3 hg h.d13, fun k hk e => ?_, fun k hk e => ?_, h.d23, Nat.le_trans h.hB hg.size⟩
  · rcases hat with h1 | h1
    · exact h.d12 k (by rw [← h1]; exact hk) e
    · have h2 := h1 k hk
      have h3 := lt r2 h.o2 k e
      omega
  · rcases hat with h1 | h1
    · exact h.d13 k (by rw [← h1]; exact hk) e
    · have h2 := h1 k hk
      have h3 := lt r3 h.o3 k e
      omega
theorem Tri.low {w : World} {B : Nat} {r1 r2 r3 : Ow} (h : Tri w B r1 r2 r3) : ∀ k, ob r1.ao = some k → B ≤ k := fun k hk => (World.ownsRow.lt h.o1 k (by rw [ob_eq]; exact hk)).1
end Go.Proofs.YtnhdgellckcnbaaDoor.Gt
/- A gate on more qubits, bit by bit: what package gate does to amplitudes is what the document's matrix says. -/
namespace Go.Proofs.YtnhdgellckcnbaaDoor.Gt
open Go.Proofs.YtnhdgellckcnbaaDoor.Dy

theorem bit_ext {a b : Nat} (ha : a < 64) (hb : b < 64) (h : ∀ q, q < 6 → a.testBit q = b.testBit q) : a = b := by
  refine Nat.eq_of_testBit_eq (fun q => ?_)
  by_cases hq : q < 6
  · exact h q hq
  · have h6 : 2 ^ 6 ≤ 2 ^ q := Nat.pow_le_pow_right (by decide) (by omega)
    rw [Nat.testBit_lt_two_pow (Nat.lt_of_lt_of_le ha h6), Nat.testBit_lt_two_pow (Nat.lt_of_lt_of_le hb h6)]
theorem clr_tab : ∀ (P : Fin 64) (z q : Fin 6), (P.1 - bitN P.1 z.1 * 2 ^ z.1).testBit q.1 = (decide (q.1 ≠ z.1) && P.1.testBit q.1) := by decide +kernel
theorem put_tab : ∀ (b : Fin 2) (z q : Fin 6), (b.1 * 2 ^ z.1).testBit q.1 = (decide (q.1 = z.1) && decide (b.1 = 1)) := by decide +kernel
theorem bit_tab : ∀ (P : Fin 64) (z : Fin 6), decide (bitN P.1 z.1 = 1) = P.1.testBit z.1 := by decide +kernel
/-- Bits of what scatter answers. -/
theorem sc_off {p x : Nat} {l : List Nat} (hp : p < 64) {q : Nat} (hq : q < 6) : ∀ i, (∀ j, j < i → l.getD j 0 < 6) → (∀ j, j < i → l.getD j 0 ≠ q) → (scG p x l i).testBit q = p.testBit q
  | 0, _, _ => rfl
  | i + 1, h6, hn => by
    have ih := sc_off (x := x) hp hq i (fun j hj => h6 j (by omega)) (fun j hj => hn j (by omega))
    have hlt := scG_lt p x l hp i (fun j hj => h6 j (by omega))
    have hz := h6 i (by omega)
    rw [scG, Nat.testBit_or]
    have h1 := clr_tab ⟨_, hlt⟩ ⟨_, hz⟩ ⟨q, hq⟩
    have h2 := put_tab ⟨bitN x i, bitN_lt x i⟩ ⟨_, hz⟩ ⟨q, hq⟩
    dsimp only at h1 h2
    rw [h1, h2, ih, decide_eq_true (Ne.symm (hn i (by omega))), decide_eq_false (Ne.symm (hn i (by omega)))]
    simp
theorem sc_on {p x : Nat} {l : List Nat} (hp : p < 64) (hx : x < 64) (hd : ∀ s t, s < l.length → t < l.length → l.getD s 0 = l.getD t 0 → s = t) (h6 : ∀ j, j < l.length → l.getD j 0 < 6) : ∀ i, i ≤ l.length → i ≤ 6 → ∀ t, t < i → (scG p x l i).testBit (l.getD t 0) = x.testBit t
  | 0, _, _, t, ht => by omega
  | i + 1, hi, hi6, t, ht => by
    have hlt := scG_lt p x l hp i (fun j hj => h6 j (by omega))
    have hz := h6 i (by omega)
    have hq := h6 t (by omega)
    rw [scG, Nat.testBit_or]
    have h1 := clr_tab ⟨_, hlt⟩ ⟨_, hz⟩ ⟨_, hq⟩
    have h2 := put_tab ⟨bitN x i, bitN_lt x i⟩ ⟨_, hz⟩ ⟨_, hq⟩
    have h3 := bit_tab ⟨x, hx⟩ ⟨i, by omega⟩
    dsimp only at h1 h2 h3
    rw [h1, h2, h3]
    by_cases e : t = i
    · subst e
      simp
    · have hne : l.getD t 0 ≠ l.getD i 0 := fun h => e (hd t i (by omega) (by omega) h)
      have ih := sc_on hp hx hd h6 i (by omega) (by omega) t (by omega)
      rw [decide_eq_true hne, decide_eq_false hne, ih]
      simp
/-- Bits of what gather answers. -/
theorem ga_bit {p : Nat} {l : List Nat} (hp : p < 64) (h6 : ∀ j, j < l.length → l.getD j 0 < 6) : ∀ i, i ≤ l.length → i ≤ 6 → ∀ t, t < i → (gaG p l i).testBit t = p.testBit (l.getD t 0)
  | 0, _, _, t, ht => by omega
  | i + 1, hi, hi6, t, ht => by
    have hz := h6 i (by omega)
    rw [gaG, Nat.testBit_or]
    have h2 := put_tab ⟨bitN p (l.getD i 0), bitN_lt p _⟩ ⟨i, by omega⟩ ⟨t, by omega⟩
    have h3 := bit_tab ⟨p, hp⟩ ⟨_, hz⟩
    dsimp only at h2 h3
    rw [h2, h3]
    by_cases e : t = i
    · subst e
      rw [Nat.testBit_lt_two_pow (gaG_pow p l t)]
      simp
    · rw [decide_eq_false e, ga_bit hp h6 i (by omega) (by omega) t (by omega)]
      simp
/-- Bits of what is left. -/
theorem rs_bit {d : Nat} {l : List Nat} (hd : d < 64) {q : Nat} (hq : q < 6) : ∀ i, (∀ j, j < i → l.getD j 0 < 6) → (rsG d l i).testBit q = (d.testBit q && decide (∀ j, j < i → l.getD j 0 ≠ q))
  | 0, _ => by rw [rsG, decide_eq_true (fun j hj => by omega), Bool.and_true]
  | i + 1, h6 => by
    have ih := rs_bit hd hq i (fun j hj => h6 j (by omega))
    have hlt := Nat.lt_of_le_of_lt (rsG_le d l i) hd
    have hz := h6 i (by omega)
    have h1 := clr_tab ⟨_, hlt⟩ ⟨_, hz⟩ ⟨q, hq⟩
    dsimp only at h1
    rw [rsG, h1, ih]
    by_cases e : q = l.getD i 0
    · have hneg : ¬ (∀ j, j < i + 1 → l.getD j 0 ≠ q) := fun h => h i (by omega) e.symm
      rw [decide_eq_false (show ¬ (q ≠ l.getD i 0) from fun h => h e), decide_eq_false hneg]
      simp
    · rw [decide_eq_true e]
      have : (∀ j, j < i + 1 → l.getD j 0 ≠ q) ↔ (∀ j, j < i → l.getD j 0 ≠ q) := ⟨fun h j hj => h j (by omega), fun h j hj => by
        by_cases ej : j = i
        · rw [ej]; exact fun h => e h.symm
        · exact h j (by omega)⟩
      simp only [this, Bool.true_and]
/-- Where scatter comes to. -/
theorem sc_iff {p j r : Nat} {l : List Nat} (hp : p < 64) (hj : j < 64) (hr : r < 2 ^ l.length) (hl : l.length ≤ 6) (hd : ∀ s t, s < l.length → t < l.length → l.getD s 0 = l.getD t 0 → s = t) (h6 : ∀ i, i < l.length → l.getD i 0 < 6) :
    scG p r l l.length = j ↔ rsG (j ^^^ p) l l.length = 0 ∧ gaG j l l.length = r := by
  have hr64 : r < 64 := Nat.lt_of_lt_of_le hr (Nat.pow_le_pow_right (n := 2) (by decide) hl)
  have hx64 : j ^^^ p < 64 := Nat.xor_lt_two_pow (n := 6) hj hp
  have hga : gaG j l l.length < 64 := gaG_lt j l l.length hl
  constructor
  · intro e
    refine ⟨bit_ext (Nat.lt_of_le_of_lt (rsG_le _ _ _) hx64) (by decide) (fun q hq => ?_), bit_ext hga hr64 (fun t ht => ?_)⟩
    · rw [rs_bit hx64 hq _ h6, Nat.zero_testBit, Nat.testBit_xor]
      by_cases hm : ∀ i, i < l.length → l.getD i 0 ≠ q
      · have := sc_off (x := r) hp hq l.length h6 hm
        rw [e] at this
        rw [this]
        simp
      · rw [decide_eq_false hm, Bool.and_false]
    · by_cases hti : t < l.length
      · rw [ga_bit hj h6 l.length (Nat.le_refl _) hl t hti, ← e, sc_on hp hr64 hd h6 l.length (Nat.le_refl _) hl t hti]
      · have hpow : 2 ^ l.length ≤ 2 ^ t := Nat.pow_le_pow_right (by decide) (by omega)
        rw [Nat.testBit_lt_two_pow (Nat.lt_of_lt_of_le hr hpow), Nat.testBit_lt_two_pow (Nat.lt_of_lt_of_le (gaG_pow j l l.length) hpow)]
  · rintro ⟨e1, e2⟩
    refine bit_ext (scG_lt p r l hp l.length h6) hj (fun q hq => ?_)
    by_cases hm : ∀ i, i < l.length → l.getD i 0 ≠ q
    · rw [sc_off hp hq l.length h6 hm]
      have := rs_bit hx64 hq l.length h6
      rw [e1, Nat.zero_testBit, decide_eq_true hm, Bool.and_true, Nat.testBit_xor] at this
      cases h1 : p.testBit q <;> cases h2 : j.testBit q <;> simp [h1, h2] at this ⊢
    · have : ∃ i, i < l.length ∧ l.getD i 0 = q := by
        refine Classical.byContradiction (fun hn => hm (fun i hi e => hn ⟨i, hi, e⟩))
      obtain ⟨t, ht, rfl⟩ := this
      rw [sc_on hp hr64 hd h6 l.length (Nat.le_refl _) hl t ht, ← e2, ga_bit hj h6 l.length (Nat.le_refl _) hl t ht]
theorem zmul_0 (a : Int × Int) : zmul a (0, 0) = (0, 0) := by simp [zmul]
theorem zmul_0' (a : Int × Int) : zmul (0, 0) a = (0, 0) := by simp [zmul]
theorem zmul_1 (a : Int × Int) : zmul a (1, 0) = a := by simp [zmul]
theorem zadd_z (a : Int × Int) : zadd a (0, 0) = a := by simp [zadd]
theorem z_zadd (a : Int × Int) : zadd (0, 0) a = a := by simp [zadd]
/-- A row of a place, all at once. -/
theorem rw_all {k : Nat} (hk1 : 1 ≤ k) (hk : k ≤ 20) {l : List Nat} (hl : (l.length : Int) = (rw' (k : Int)).q) (hd : ∀ s t, s < l.length → t < l.length → l.getD s 0 = l.getD t 0 → s = t) (h6 : ∀ i, i < l.length → l.getD i 0 < 6) {p j : Nat} (hp : p < 64) (hj : j < 64) (v : Int × Int) (F : Nat → Int × Int) :
    rwG k (rowsN k) l v p (gaG p l l.length) F (rowsN k) j = zadd (F j) (zmul (wzP k l j p) v) := by
  have h3 : l.length ≤ 3 := by have := q_le k hk; omega
  have hrn : rowsN k = 2 ^ l.length := by
    have hq := q_rows ⟨k, by omega⟩ hk1
    dsimp only at hq
    rcases rowsN_is k with e | e | e
    · have := hq.1 e; rw [show l.length = 1 by omega, e]
    · have := hq.2.1 e; rw [show l.length = 2 by omega, e]
    · have := hq.2.2 e; rw [show l.length = 3 by omega, e]
  have key : ∀ r, r ≤ rowsN k → rwG k (rowsN k) l v p (gaG p l l.length) F r j = if rsG (j ^^^ p) l l.length = 0 ∧ gaG j l l.length < r then zadd (F j) (zmul (mz k (rowsN k * gaG j l l.length + gaG p l l.length)) v) else F j := by
    intro r
    induction r with
    | zero => intro _; rw [rwG, if_neg (by omega)]
    | succ r ih =>
      intro hr
      have ih := ih (by omega)
      have hs := sc_iff hp hj (r := r) (by rw [← hrn]; omega) (by omega) hd h6
      show (if j = scG p r l l.length then zadd (rwG k (rowsN k) l v p (gaG p l l.length) F r j) (zmul (mz k (rowsN k * r + gaG p l l.length)) v) else rwG k (rowsN k) l v p (gaG p l l.length) F r j) = _
      by_cases e : j = scG p r l l.length
      · obtain ⟨e1, e2⟩ := hs.1 e.symm
        rw [if_pos e, ih, if_neg (by omega), if_pos ⟨e1, by omega⟩, e2]
      · rw [if_neg e, ih]
        have hn : ¬ (rsG (j ^^^ p) l l.length = 0 ∧ gaG j l l.length = r) := fun h => e (hs.2 h).symm
        by_cases c : rsG (j ^^^ p) l l.length = 0 ∧ gaG j l l.length < r
        · rw [if_pos c, if_pos ⟨c.1, by omega⟩]
        · rw [if_neg c, if_neg (fun h => by
            by_cases e' : gaG j l l.length = r
            · exact hn ⟨h.1, e'⟩
            · exact c ⟨h.1, by omega⟩)]
  rw [key (rowsN k) (Nat.le_refl _), wzP]
  have hg := ga_rows hk1 hk hl j
  by_cases c : rsG (j ^^^ p) l l.length = 0
  · rw [if_pos ⟨c, hg⟩, if_pos c]
  · rw [if_neg (fun h => c h.1), if_neg c, zmul_0', zadd_z]
/-- A sum. -/
def smG (f : Nat → Int × Int) : Nat → Int × Int
  | 0 => (0, 0)
  | p + 1 => zadd (smG f p) (f p)
theorem sm_congr {f g : Nat → Int × Int} : ∀ m, (∀ p, p < m → f p = g p) → smG f m = smG g m
  | 0, _ => rfl
  | m + 1, h => by rw [smG, smG, sm_congr m (fun p hp => h p (by omega)), h m (by omega)]
theorem pl_sum {k : Nat} (hk1 : 1 ≤ k) (hk : k ≤ 20) {l : List Nat} (hl : (l.length : Int) = (rw' (k : Int)).q) (hd : ∀ s t, s < l.length → t < l.length → l.getD s 0 = l.getD t 0 → s = t) (h6 : ∀ i, i < l.length → l.getD i 0 < 6) (V : Nat → Int × Int) {j : Nat} (hj : j < 64) : ∀ p, p ≤ 64 → plG k (rowsN k) l V p j = smG (fun p => zmul (wzP k l j p) (V p)) p
  | 0, _ => rfl
  | p + 1, hp => by
    have ih := pl_sum hk1 hk hl hd h6 V hj p (by omega)
    rw [plG, smG]
    by_cases e : V p = (0, 0)
    · rw [if_pos e, ih, e, zmul_0, zadd_z]
    · rw [if_neg e, rw_all hk1 hk hl hd h6 (by omega) hj, ih]
theorem sm_bas (f : Nat → Int × Int) (c : Nat) : ∀ m, smG (fun p => zmul (f p) (bas c p)) m = if c < m then f c else (0, 0)
  | 0 => by rw [smG, if_neg (by omega)]
  | m + 1 => by
    rw [smG, sm_bas f c m]
    unfold bas
    by_cases e : m = c
    · subst e
      rw [if_neg (by omega), if_pos rfl, if_pos (by omega), zmul_1, z_zadd]
    · rw [if_neg e, zmul_0, zadd_z]
      by_cases h : c < m
      · rw [if_pos h, if_pos (by omega)]
      · rw [if_neg h, if_neg (by omega)]
theorem dot_sum (S : Nat) (A B : Nat → Int × Int) (r c : Nat) : ∀ m, dotS S A B r c m = smG (fun p => zmul (A (S * r + p)) (B (S * p + c))) m
  | 0 => rfl
  | m + 1 => by rw [dotS, smG, dot_sum S A B r c m]
/-- What is asked of a gate's places. -/
structure Pl (k : Nat) (l : List Nat) : Prop where
  k1 : 1 ≤ k
  k2 : k ≤ 20
  len : (l.length : Int) = (rw' (k : Int)).q
  dis : ∀ s t, s < l.length → t < l.length → l.getD s 0 = l.getD t 0 → s = t
  six : ∀ i, i < l.length → l.getD i 0 < 6
theorem two_col {S k k' : Nat} {l l' : List Nat} (hS : S ≤ 64) (h : Pl k l) (h' : Pl k' l') {j c : Nat} (hj : j < S) (hc : c < S) :
    plG k (rowsN k) l (plG k' (rowsN k') l' (bas c) S) S j = dotS S (mw S k l) (mw S k' l') j c S := by
  rw [pl_sum h.k1 h.k2 h.len h.dis h.six _ (by omega) S hS, dot_sum]
  refine sm_congr S (fun p hp => ?_)
  rw [pl_sum h'.k1 h'.k2 h'.len h'.dis h'.six _ (by omega) S hS, sm_bas, if_pos hc, mw_at hp, mw_at hc]
theorem alk_all (S k n : Nat) (l : List Nat) (k' n' : Nat) (l' : List Nat) : ∀ m c, alkG S k n l k' n' l' m c = true ↔ ∀ i, i < m → colP S k n l k' n' l' (c + i) = true
  | 0, c => by simp [alkG]
  | m + 1, c => by
    rw [alkG, Bool.and_eq_true, alk_all S k n l k' n' l' m (c + 1)]
    constructor
    · rintro ⟨h1, h2⟩ i hi
      cases i with
      | zero => exact h1
      | succ i => have := h2 i (by omega); rw [show c + (i + 1) = c + 1 + i by omega]; exact this
    · intro h
      exact ⟨h 0 (by omega), fun i hi => by have := h (i + 1) (by omega); rw [show c + 1 + i = c + (i + 1) by omega]; exact this⟩
/-- Column by column, or entry by entry. -/
theorem alk_hcB {S k k' : Nat} {l l' : List Nat} (hS : S ≤ 64) (h : Pl k l) (h' : Pl k' l') : alkG S k (rowsN k) l k' (rowsN k') l' S 0 = hcB S k k' l l' := by
  rw [Bool.eq_iff_iff, alk_all, hcB, eqB_iff]
  constructor
  · intro hh j hj
    have hS0 : 0 < S := by
      rcases Nat.eq_zero_or_pos S with e | e
      · rw [e] at hj; simp at hj
      · exact e
    have h1 : j / S < S := Nat.div_lt_of_lt_mul hj
    have h2 := hh (j % S) (Nat.mod_lt _ hS0)
    rw [colP, eqB_iff] at h2
    have h3 := h2 (j / S) h1
    rw [Nat.zero_add, two_col hS h h' h1 (Nat.mod_lt _ hS0), two_col hS h' h h1 (Nat.mod_lt _ hS0)] at h3
    exact h3
  · intro hh c hc
    rw [Nat.zero_add, colP, eqB_iff]
    intro j hj
    have h3 := hh (S * j + c) (by
      have : S * j + S ≤ S * S := by rw [← Nat.mul_succ]; exact Nat.mul_le_mul_left _ hj
      omega)
    rw [tim_at _ _ hc, tim_at _ _ hc] at h3
    rw [two_col hS h h' hj hc, two_col hS h' h hj hc]
    exact h3
end Go.Proofs.YtnhdgellckcnbaaDoor.Gt
/- The tables of the qubits as they may lie, of kinds with few qubits. -/
namespace Go.Proofs.YtnhdgellckcnbaaDoor.Gt
def ks1 : List Nat := [1, 2, 3, 4, 5, 6, 7, 8, 9, 10]
def ks2 : List Nat := [11, 12, 13, 14, 15, 16, 17]
def ks3 : List Nat := [18, 19, 20]
set_option maxRecDepth 100000 in
theorem tab11 : tabB 1 1 ks1 ks1 = true := by decide +kernel
set_option maxRecDepth 100000 in
theorem tab12 : tabB 1 2 ks1 ks2 = true := by decide +kernel
set_option maxRecDepth 100000 in
theorem tab13 : tabB 1 3 ks1 ks3 = true := by decide +kernel
set_option maxRecDepth 100000 in
theorem tab22 : tabB 2 2 ks2 ks2 = true := by decide +kernel
end Go.Proofs.YtnhdgellckcnbaaDoor.Gt
/- The table of the qubits as they may lie, of two and three qubits. -/
namespace Go.Proofs.YtnhdgellckcnbaaDoor.Gt
set_option maxRecDepth 100000 in
theorem tab23 : tabB 2 3 [11, 12, 13, 14, 15, 16, 17] [18, 19, 20] = true := by decide +kernel
end Go.Proofs.YtnhdgellckcnbaaDoor.Gt
/- The table of the qubits as they may lie, of three qubits. -/
namespace Go.Proofs.YtnhdgellckcnbaaDoor.Gt
set_option maxRecDepth 100000 in
theorem tab33 : tabB 3 3 [18, 19, 20] [18, 19, 20] = true := by decide +kernel
end Go.Proofs.YtnhdgellckcnbaaDoor.Gt
/- What Commute answers of two gates, both ways; GateApart. -/
namespace Go.Proofs.YtnhdgellckcnbaaDoor.Gt
open Go.RowKit Go.Proofs.YtnhdgellckcnbaaDoor.Oct

theorem all_len (la lb : List Int) : (allP la lb).length = la.length + lb.length ↔ ∀ q ∈ lb, q ∉ la := by
  unfold allP
  rw [List.length_append, Nat.add_left_cancel_iff, List.length_filter_eq_length_iff]
  simp
theorem all_comm (la lb : List Int) : (allP la lb).length = la.length + lb.length ↔ (allP lb la).length = lb.length + la.length := by
  rw [all_len, all_len]
  exact ⟨fun h q hq hq' => h q hq' hq, fun h q hq hq' => h q hq' hq⟩
theorem ks_of : ∀ k : Fin 21, 1 ≤ k.1 → ((rw' (k.1 : Int)).q = 1 → k.1 ∈ ks1) ∧ ((rw' (k.1 : Int)).q = 2 → k.1 ∈ ks2) ∧ ((rw' (k.1 : Int)).q = 3 → k.1 ∈ ks3) ∧ ((rw' (k.1 : Int)).q = 1 ∨ (rw' (k.1 : Int)).q = 2 ∨ (rw' (k.1 : Int)).q = 3) ∧ dgB (rw' (k.1 : Int)) = dgN k.1 := by decide +kernel
theorem alc_is {a b : Nat} (ha1 : 1 ≤ a) (ha : a ≤ 20) (hb1 : 1 ≤ b) (hb : b ≤ 20) {la lb : List Int} (pa : (la.length : Int) = (rw' (a : Int)).q) (pb : (lb.length : Int) = (rw' (b : Int)).q) :
    alkG (2 ^ (allP la lb).length) a (rowsN a) (posP (allP la lb) la) b (rowsN b) (posP (allP la lb) lb) (2 ^ (allP la lb).length) 0 = alc a b la lb :=
  alkL_eq ha1 ha hb1 hb (by rw [← pa]; simp [posP]) (by rw [← pb]; simp [posP]) _ _
theorem tab_flip {a b : Nat} {la lb : List Int} (h : symB a b la lb = true) : symB b a lb la = true := by
  unfold symB at h ⊢
  rw [Bool.and_eq_true, beq_iff_eq] at h
  rw [← h.1, Bool.and_eq_true, beq_iff_eq, Bool.and_comm (dgN b)]
  exact ⟨rfl, h.2⟩
theorem sym_all {a b : Nat} (ha1 : 1 ≤ a) (ha : a ≤ 20) (hb1 : 1 ≤ b) (hb : b ≤ 20) {la lb : List Int} (pa : (la.length : Int) = (rw' (a : Int)).q) (pb : (lb.length : Int) = (rw' (b : Int)).q) (da : la.Nodup) (db : lb.Nodup) (hc : (allP la lb).length ≠ la.length + lb.length) : symB a b la lb = true := by
  have xa := ks_of ⟨a, by omega⟩ ha1
  have xb := ks_of ⟨b, by omega⟩ hb1
  dsimp only at xa xb
  have hc' : (allP lb la).length ≠ lb.length + la.length := fun h => hc ((all_comm la lb).2 h)
  obtain ⟨a1, a2, a3, aq, _⟩ := xa
  obtain ⟨b1, b2, b3, bq, _⟩ := xb
  rcases aq with qa | qa | qa <;> rcases bq with qb | qb | qb <;> rw [qa] at pa <;> rw [qb] at pb
  · exact tab_sym tab11 (na := 1) (nb := 1) (by omega) (by omega) da db (by omega) (a1 qa) (b1 qb)
  · exact tab_sym tab12 (na := 1) (nb := 2) (by omega) (by omega) da db (by omega) (a1 qa) (b2 qb)
  · exact tab_sym tab13 (na := 1) (nb := 3) (by omega) (by omega) da db (by omega) (a1 qa) (b3 qb)
  · exact tab_flip (tab_sym tab12 (na := 1) (nb := 2) (by omega) (by omega) db da (by omega) (b1 qb) (a2 qa))
  · exact tab_sym tab22 (na := 2) (nb := 2) (by omega) (by omega) da db (by omega) (a2 qa) (b2 qb)
  · exact tab_sym tab23 (na := 2) (nb := 3) (by omega) (by omega) da db (by omega) (a2 qa) (b3 qb)
  · exact tab_flip (tab_sym tab13 (na := 1) (nb := 3) (by omega) (by omega) db da (by omega) (b1 qb) (a3 qa))
  · exact tab_flip (tab_sym tab23 (na := 2) (nb := 3) (by omega) (by omega) db da (by omega) (b2 qb) (a3 qa))
  · exact tab_sym tab33 (na := 3) (nb := 3) (by omega) (by omega) da db (by omega) (a3 qa) (b3 qb)
theorem alkG_self (S k n : Nat) (l : List Nat) : ∀ m c, alkG S k n l k n l m c = true
  | 0, _ => rfl
  | m + 1, c => by
    rw [alkG, alkG_self S k n l m (c + 1), colP, (eqB_iff _ _ _).2 (fun _ _ => rfl)]
    rfl
theorem all_self (la : List Int) : allP la la = la := by
  unfold allP
  rw [List.filter_eq_nil_iff.2 (fun a ha => by simp [ha]), List.append_nil]
theorem pos_self {la : List Int} (h : la.Nodup) : posP la la = List.range la.length := ix_range la h
theorem inv_tab : ∀ k : Fin 21, 1 ≤ k.1 → 1 ≤ (rw' (k.1 : Int)).v ∧ (rw' (k.1 : Int)).v ≤ 20 ∧ (rw' (rw' (k.1 : Int)).v).q = (rw' (k.1 : Int)).q ∧ alkL (2 ^ (rw' (k.1 : Int)).q.toNat) k.1 (List.range (rw' (k.1 : Int)).q.toNat) (rw' (k.1 : Int)).v.toNat (List.range (rw' (k.1 : Int)).q.toNat) (2 ^ (rw' (k.1 : Int)).q.toNat) 0 = true := by decide +kernel
/-- Are both gates and their qubits what they must be? -/
def gdP (a : Int) (la : List Int) (b : Int) (lb : List Int) : Bool := knB (rw' a) && knB (rw' b) && apP (rw' a).q la && apP (rw' b).q lb
theorem com_no {a : Int} {la : List Int} {b : Int} {lb : List Int} (h : gdP a la b lb = false) : (comP a la b lb).1 = false ∧ ((comP a la b lb).2 != 0) = true := by
  unfold comP
  unfold gdP at h
  cases ka : knB (rw' a)
  · exact ⟨rfl, rfl⟩
  · cases kb : knB (rw' b)
    · exact ⟨rfl, rfl⟩
    · rw [ka, kb] at h
      cases pa : apP (rw' a).q la
      · exact ⟨rfl, rfl⟩
      · cases pb : apP (rw' b).q lb
        · exact ⟨rfl, rfl⟩
        · rw [pa, pb] at h
          cases h
theorem gd_flip (a : Int) (la : List Int) (b : Int) (lb : List Int) : gdP b lb a la = gdP a la b lb := by
  unfold gdP
  cases knB (rw' a) <;> cases knB (rw' b) <;> cases apP (rw' a).q la <;> cases apP (rw' b).q lb <;> rfl
theorem gd_out {a : Int} {la : List Int} {b : Int} {lb : List Int} (h : gdP a la b lb = true) : ∃ x y : Nat, a = (x : Int) ∧ b = (y : Int) ∧ 1 ≤ x ∧ x ≤ 20 ∧ 1 ≤ y ∧ y ≤ 20 ∧ (la.length : Int) = (rw' a).q ∧ (lb.length : Int) = (rw' b).q ∧ la.Nodup ∧ lb.Nodup ∧ knB (rw' a) = true ∧ knB (rw' b) = true ∧ apP (rw' a).q la = true ∧ apP (rw' b).q lb = true := by
  unfold gdP at h
  rw [Bool.and_eq_true, Bool.and_eq_true, Bool.and_eq_true] at h
  obtain ⟨⟨⟨ka, kb⟩, pa⟩, pb⟩ := h
  have ra := kn_range ka
  have rb := kn_range kb
  have la' := ap_nodup pa
  have lb' := ap_nodup pb
  have qa := pa
  have qb := pb
  unfold apP at qa qb
  rw [Bool.and_eq_true] at qa qb
  exact ⟨a.toNat, b.toNat, by omega, by omega, by omega, by omega, by omega, by omega, of_decide_eq_true qa.1, of_decide_eq_true qb.1, la', lb', ka, kb, pa, pb⟩
theorem com_yes {a : Int} {la : List Int} {b : Int} {lb : List Int} (h : gdP a la b lb = true) : comP a la b lb = ((decide ((allP la lb).length = la.length + lb.length) || alc a.toNat b.toNat la lb), 0) := by
  obtain ⟨x, y, rfl, rfl, x1, x2, y1, y2, qa, qb, da, db, ka, kb, pa, pb⟩ := gd_out h
  unfold comP
  rw [ka, kb, pa, pb]
  simp only [Bool.not_true, Bool.or_self, Bool.false_eq_true, if_false]
  rw [Int.toNat_natCast, Int.toNat_natCast, alc_is x1 x2 y1 y2 qa qb]
  by_cases e : (allP la lb).length = la.length + lb.length
  · rw [if_pos e, decide_eq_true e]; rfl
  · rw [if_neg e, decide_eq_false e]; rfl
theorem com_sym {a : Int} {la : List Int} {b : Int} {lb : List Int} (h : gdP a la b lb = true) : comP b lb a la = comP a la b lb ∧ ((comP a la b lb).1 = false → (dgB (rw' a) && dgB (rw' b)) = false) := by
  have h' := (gd_flip a la b lb).trans h
  rw [com_yes h, com_yes h']
  obtain ⟨x, y, rfl, rfl, x1, x2, y1, y2, qa, qb, da, db, ka, kb, pa, pb⟩ := gd_out h
  rw [Int.toNat_natCast, Int.toNat_natCast]
  have e0 : decide ((allP lb la).length = lb.length + la.length) = decide ((allP la lb).length = la.length + lb.length) := by
    rw [decide_eq_decide]; exact (all_comm la lb).symm
  rw [e0]
  by_cases e : (allP la lb).length = la.length + lb.length
  · rw [decide_eq_true e]
    exact ⟨rfl, fun h => by cases h⟩
  · rw [decide_eq_false e, Bool.false_or, Bool.false_or]
    have := sym_all x1 x2 y1 y2 qa qb da db e
    unfold symB at this
    rw [Bool.and_eq_true, beq_iff_eq] at this
    refine ⟨by rw [this.1], fun hf => ?_⟩
    have hd := this.2
    have hf' : alc x y la lb = false := hf
    rw [hf', Bool.or_false] at hd
    rw [(ks_of ⟨x, by omega⟩ x1).2.2.2.2, (ks_of ⟨y, by omega⟩ y1).2.2.2.2]
    cases e' : (dgN x && dgN y)
    · rfl
    · rw [e'] at hd; cases hd
theorem com_own {a : Int} {la : List Int} {b : Int} {lb : List Int} (h : gdP a la b lb = true) : comP a la a la = (true, 0) ∧ comP a la (rw' a).v la = (true, 0) := by
  obtain ⟨x, y, rfl, rfl, x1, x2, y1, y2, qa, qb, da, db, ka, kb, pa, pb⟩ := gd_out h
  have it := inv_tab ⟨x, by omega⟩ x1
  dsimp only at it
  constructor
  · have g1 : gdP (x : Int) la (x : Int) la = true := by unfold gdP; rw [ka, pa]; rfl
    rw [com_yes g1, Int.toNat_natCast, ← alc_is x1 x2 x1 x2 qa qa, alkG_self, Bool.or_true]
  · have ki : knB (rw' (rw' (x : Int)).v) = true := by unfold knB at ka ⊢; rw [it.2.2.1]; exact ka
    have g1 : gdP (x : Int) la (rw' (x : Int)).v la = true := by unfold gdP; rw [ka, pa, ki, it.2.2.1, pa]; rfl
    rw [com_yes g1, Int.toNat_natCast]
    have : alc x (rw' (x : Int)).v.toNat la la = true := by
      unfold alc
      rw [all_self, pos_self da, show la.length = (rw' (x : Int)).q.toNat by omega]
      exact it.2.2.2
    rw [this, Bool.or_true]
end Go.Proofs.YtnhdgellckcnbaaDoor.Gt
/- The document's Commute. -/
namespace Go.Proofs.YtnhdgellckcnbaaDoor.Gt
open Go.RowKit Go.Proofs.YtnhdgellckcnbaaDoor.Oct Go.Proofs.YtnhdgellckcnbaaDoor.Dy

/-- Two gates on more qubits, their products held against each other. -/
theorem tail_ok (x y s S : Nat) (pa pb : List Nat) (x1 : 1 ≤ x) (x2 : x ≤ 20) (y1 : 1 ≤ y) (y2 : y ≤ 20) (hs : s ≤ 6) (hS : S = 2 ^ s) (la : (pa.length : Int) = (rw' (x : Int)).q) (lb : (pb.length : Int) = (rw' (y : Int)).q) :
    (∀ (W : World) (gm gn : Nat) (rm rn : Nat → Nat), Dm W gm S rm (fun r c => wbP x pa r c) → Dm W gn S rn (fun r c => wbP y pb r c) → Calls Tryd.prog 47 #[.slice (some ⟨gm, 0, none⟩) S S, .slice (some ⟨gn, 0, none⟩) S S] W fun e w' => ∃ g rb F, e = .returned (.slice (some ⟨g, 0, none⟩) S S) ∧ Dm w' g S rb F ∧ (∀ r c, r < S → c < S → Cx (F r c) (timP S (mw S x pa) (mw S y pb) (S * r + c)) (-2)) ∧ Below W.heap.size W w') := by
  have hS64 : S ≤ 64 := by rw [hS]; exact Nat.pow_le_pow_right (n := 2) (by decide) hs
  intro W gm gn rm rn hM hN
  exact hTimes S gm gn hS64 rm rn _ _ (mw S x pa) (mw S y pb) (fun j => wz_le _ _ _ _) (fun j => wz_le _ _ _ _) W hM hN (fun r c _ hc => by rw [mw_at hc]; exact wb_cx x1 x2 la r c) (fun r c _ hc => by rw [mw_at hc]; exact wb_cx y1 y2 lb r c)
theorem alk_hc (x y S : Nat) (pa pb : List Nat) (hS : S ≤ 64) (W : World) (g1 g2 : Nat) (r1 r2 : Nat → Nat) (F G : Nat → Nat → Nat × Nat) (h1 : Dm W g1 S r1 F) (h2 : Dm W g2 S r2 G)
    (v1 : ∀ r c, r < S → c < S → Cx (F r c) (timP S (mw S x pa) (mw S y pb) (S * r + c)) (-2)) (v2 : ∀ r c, r < S → c < S → Cx (G r c) (timP S (mw S y pb) (mw S x pa) (S * r + c)) (-2)) :
    Calls Tryd.prog 48 #[.slice (some ⟨g1, 0, none⟩) S S, .slice (some ⟨g2, 0, none⟩) S S] W fun e w' => e = .returned (.bool (hcB S x y pa pb)) ∧ Below W.heap.size W w' := by
  unfold hcB
  exact hAlike S g1 g2 hS r1 r2 F G _ _ (-2) (by omega) (by omega) (tim_le hS (fun j => wz_le _ _ _ _) (fun j => wz_le _ _ _ _)) (tim_le hS (fun j => wz_le _ _ _ _) (fun j => wz_le _ _ _ _)) W h1 h2 v1 v2
set_option maxRecDepth 100000 in
set_option maxHeartbeats 4000000 in
theorem hCommute (a : Int) (la : List Int) (b : Int) (lb : List Int) (ao ao' : Option Addr) (c c' : Nat) (hla : la.length ≤ 1000000000000000) (hlb : lb.length ≤ 1000000000000000) (w : World) (hA : Ns w ao la) (hB : Ns w ao' lb) :
    Calls Tryd.prog 18 #[.int .i64 a, .slice ao la.length c, .int .i64 b, .slice ao' lb.length c'] w fun e w' => e = .returned (.tuple #[.bool (hcmP a la b lb).1, .int .i64 (hcmP a la b lb).2]) ∧ Below w.heap.size w w' := by
  have cIa := fun w => hIs a w
  have cIb := fun w => hIs b w
  have cAa := fun w => hArity a w
  have cAb := fun w => hArity b w
  have cPa := fun w hN => hApart ao c la hla w hN
  have cPb := fun w hN => hApart ao' c' lb hlb w hN
  obtain ⟨R, hR⟩ : ∃ R, hcmP a la b lb = R := ⟨_, rfl⟩
  rw [hR]
  unfold hcmP apP at hR
  have HR := hide hR
  have HGD : Hid (gdP a la b lb = (knB (rw' a) && knB (rw' b) && (decide ((la.length : Int) = (rw' a).q) && apG la la.length 0) && (decide ((lb.length : Int) = (rw' b).q) && apG lb lb.length 0))) := hide rfl
  clear hR
  cases ka : knB (rw' a)
  · rw [ka] at cIa HR
    have HF : Hid (R = (false, 60)) := hide HR.out.symm
    clear HR HGD cIb cAa cAb cPa cPb
    go_enter Tryd.func18, Tryd.ntmps18
    go_wp2_with fail
    refine (cIa _).mono ?_
    rintro e ws0 ⟨rfl, hw⟩
    obtain rfl := hw.symm
    go_wp2_with fail
    go_ret2
    exact ⟨by rw [HF.out]; rfl, Below.refl _ _⟩
  cases kb : knB (rw' b)
  · rw [ka] at cIa HR
    rw [kb] at cIb HR
    have HF : Hid (R = (false, 60)) := hide HR.out.symm
    clear HR HGD cAa cAb cPa cPb
    go_enter Tryd.func18, Tryd.ntmps18
    go_wp2_with fail
    refine (cIa _).mono ?_
    rintro e ws0 ⟨rfl, hw⟩
    obtain rfl := hw.symm
    go_wp2_with fail
    refine (cIb _).mono ?_
    rintro e ws1 ⟨rfl, hw⟩
    obtain rfl := hw.symm
    go_wp2_with fail
    go_ret2
    exact ⟨by rw [HF.out]; rfl, Below.refl _ _⟩
  rw [ka] at cIa HR HGD
  rw [kb] at cIb HR HGD
  cases lqa : decide ((la.length : Int) = (rw' a).q)
  · rw [lqa] at HR
    have HF : Hid (R = (false, 61)) := hide HR.out.symm
    have hne : ((la.length : Int) != (rw' a).q) = true := by have := of_decide_eq_false lqa; simpa using this
    clear HR HGD cAb cPa cPb lqa
    generalize (rw' a).q = qa at *
    go_enter Tryd.func18, Tryd.ntmps18
    go_wp2_with fail
    refine (cIa _).mono ?_
    rintro e ws0 ⟨rfl, hw⟩
    obtain rfl := hw.symm
    go_wp2_with fail
    refine (cIb _).mono ?_
    rintro e ws1 ⟨rfl, hw⟩
    obtain rfl := hw.symm
    go_wp2_with fail
    refine (cAa _).mono ?_
    rintro e ws2 ⟨rfl, hw⟩
    obtain rfl := hw.symm
    go_wp2_with fail
    go_ret2
    exact ⟨by rw [HF.out]; rfl, Below.refl _ _⟩
  have hea : ((la.length : Int) != (rw' a).q) = false := by have := of_decide_eq_true lqa; simpa using this
  cases lqb : decide ((lb.length : Int) = (rw' b).q)
  · rw [lqa, lqb] at HR
    have HF : Hid (R = (false, 61)) := hide (by rw [← HR.out]; cases apG la la.length 0 <;> rfl)
    have hne : ((lb.length : Int) != (rw' b).q) = true := by have := of_decide_eq_false lqb; simpa using this
    clear HR HGD cPa cPb lqa lqb
    generalize (rw' a).q = qa at *
    generalize (rw' b).q = qb at *
    go_enter Tryd.func18, Tryd.ntmps18
    go_wp2_with fail
    refine (cIa _).mono ?_
    rintro e ws0 ⟨rfl, hw⟩
    obtain rfl := hw.symm
    go_wp2_with fail
    refine (cIb _).mono ?_
    rintro e ws1 ⟨rfl, hw⟩
    obtain rfl := hw.symm
    go_wp2_with fail
    refine (cAa _).mono ?_
    rintro e ws2 ⟨rfl, hw⟩
    obtain rfl := hw.symm
    go_wp2_with fail
    refine (cAb _).mono ?_
    rintro e ws3 ⟨rfl, hw⟩
    obtain rfl := hw.symm
    go_wp2_with fail
    go_ret2
    exact ⟨by rw [HF.out]; rfl, Below.refl _ _⟩
  have heb : ((lb.length : Int) != (rw' b).q) = false := by have := of_decide_eq_true lqb; simpa using this
  rw [lqa, lqb] at HR HGD
  cases pa : apG la la.length 0
  · rw [pa] at HR cPa
    have HF : Hid (R = (false, 61)) := hide HR.out.symm
    clear HR HGD cPb lqa lqb
    generalize (rw' a).q = qa at *
    generalize (rw' b).q = qb at *
    go_enter Tryd.func18, Tryd.ntmps18
    go_wp2_with fail
    refine (cIa _).mono ?_
    rintro e ws0 ⟨rfl, hw⟩
    obtain rfl := hw.symm
    go_wp2_with fail
    refine (cIb _).mono ?_
    rintro e ws1 ⟨rfl, hw⟩
    obtain rfl := hw.symm
    go_wp2_with fail
    refine (cAa _).mono ?_
    rintro e ws2 ⟨rfl, hw⟩
    obtain rfl := hw.symm
    go_wp2_with fail
    refine (cAb _).mono ?_
    rintro e ws3 ⟨rfl, hw⟩
    obtain rfl := hw.symm
    go_wp2_with fail
    refine (cPa _ hA).mono ?_
    rintro e wa ⟨rfl, ra⟩
    go_wp2_with fail
    go_ret2
    exact ⟨by rw [HF.out]; rfl, ra⟩
  cases pb : apG lb lb.length 0
  · rw [pa] at HR cPa
    rw [pb] at HR cPb
    have HF : Hid (R = (false, 61)) := hide HR.out.symm
    clear HR HGD lqa lqb
    generalize (rw' a).q = qa at *
    generalize (rw' b).q = qb at *
    go_enter Tryd.func18, Tryd.ntmps18
    go_wp2_with fail
    refine (cIa _).mono ?_
    rintro e ws0 ⟨rfl, hw⟩
    obtain rfl := hw.symm
    go_wp2_with fail
    refine (cIb _).mono ?_
    rintro e ws1 ⟨rfl, hw⟩
    obtain rfl := hw.symm
    go_wp2_with fail
    refine (cAa _).mono ?_
    rintro e ws2 ⟨rfl, hw⟩
    obtain rfl := hw.symm
    go_wp2_with fail
    refine (cAb _).mono ?_
    rintro e ws3 ⟨rfl, hw⟩
    obtain rfl := hw.symm
    go_wp2_with fail
    refine (cPa _ hA).mono ?_
    rintro e wa ⟨rfl, ra⟩
    go_wp2_with fail
    refine (cPb _ (hB.below ra)).mono ?_
    rintro e wb ⟨rfl, rb⟩
    replace rb := ra.trans (rb.mono ra.size)
    go_wp2_with fail
    go_ret2
    exact ⟨by rw [HF.out]; rfl, rb⟩
  rw [pa] at HR cPa HGD
  rw [pb] at HR cPb HGD
  obtain ⟨x, y, rfl, rfl, x1, x2, y1, y2, qla, qlb, da, db, _, _, _, _⟩ := gd_out HGD.out
  have HDA := hide da
  have HDB := hide db
  have l3a : la.length ≤ 3 := by have := q_le x x2; omega
  have l3b : lb.length ≤ 3 := by have := q_le y y2; omega
  have l0a : 1 ≤ la.length := by have := (ks_of ⟨x, by omega⟩ x1).2.2.2.1; dsimp only at this; omega
  have l0b : 1 ≤ lb.length := by have := (ks_of ⟨y, by omega⟩ y1).2.2.2.1; dsimp only at this; omega
  have HFIN : Hid (R = (hcB (2 ^ (allP la lb).length) x y (List.range la.length) (posP (allP la lb) lb), 0)) := hide (by
    rw [← HR.out, ← pos_la (lb := lb) da]
    rfl)
  have hA6 : (allP la lb).length ≤ 6 := by
    unfold allP
    rw [List.length_append]
    have := List.length_filter_le (fun q => !decide (q ∈ la)) lb
    omega
  have HSIX : Hid (∀ j, (allP la (lb.take j)).length ≤ 6) := hide (fun j => by
    unfold allP
    rw [List.length_append]
    have h1 := List.length_filter_le (fun q => !decide (q ∈ la)) (lb.take j)
    have h2 : (lb.take j).length ≤ lb.length := by rw [List.length_take]; omega
    omega)
  have HPL : Hid ((posP (allP la lb) lb).length = lb.length) := hide (by simp [posP])
  have hA1 : 1 ≤ (allP la lb).length := by unfold allP; rw [List.length_append]; omega
  have HPL6 : Hid (∀ i, (posP (allP la lb) lb).getD i 0 < 6) := hide (fun i => by
    have := pos_lt (lq := lb) (la := allP la lb) (by omega) i
    omega)
  have HA := hide hA
  have HB := hide hB
  have HQA := hide qla
  have HQB := hide qlb
  obtain ⟨La, hLa⟩ : ∃ n, la.length = n := ⟨_, rfl⟩
  obtain ⟨Lb, hLb⟩ : ∃ n, lb.length = n := ⟨_, rfl⟩
  have HLA := hide hLa
  have HLB := hide hLb
  rw [hLa] at cPa hla hea l3a l0a HFIN HQA ⊢
  rw [hLb] at cPb hlb heb l3b l0b HPL HQB ⊢
  clear HR HGD lqa lqb pa pb ka kb da db hLa hLb qla qlb
  obtain ⟨qa, hqa⟩ : ∃ q, (rw' (x : Int)).q = q := ⟨_, rfl⟩
  obtain ⟨qb, hqb⟩ : ∃ q, (rw' (y : Int)).q = q := ⟨_, rfl⟩
  have HQ1 := hide hqa
  have HQ2 := hide hqb
  rw [hqa] at cAa hea HQA
  rw [hqb] at cAb heb HQB
  clear hqa hqb
  go_enter Tryd.func18, Tryd.ntmps18
  go_wp2_with fail
  refine (cIa _).mono ?_
  rintro e ws0 ⟨rfl, hw⟩
  obtain rfl := hw.symm
  go_wp2_with fail
  refine (cIb _).mono ?_
  rintro e ws1 ⟨rfl, hw⟩
  obtain rfl := hw.symm
  go_wp2_with fail
  refine (cAa _).mono ?_
  rintro e ws2 ⟨rfl, hw⟩
  obtain rfl := hw.symm
  go_wp2_with fail
  refine (cAb _).mono ?_
  rintro e ws3 ⟨rfl, hw⟩
  obtain rfl := hw.symm
  go_wp2_with fail
  refine (cPa _ hA).mono ?_
  rintro e wa ⟨rfl, ra⟩
  go_wp2_with fail
  refine (cPb _ (hB.below ra)).mono ?_
  rintro e wb ⟨rfl, rb⟩
  replace rb := ra.trans (rb.mono ra.size)
  clear cIa cIb cAa cAb cPa cPb ra hA hB
  have HS0 : Hid (Tri wb wb.heap.size ⟨none, 0, 0, []⟩ ⟨none, 0, 0, []⟩ ⟨none, 0, 0, []⟩) := hide ⟨World.ownsRow_nil _ _ _ _, World.ownsRow_nil _ _ _ _, World.ownsRow_nil _ _ _ _, (fun k h => by cases h), (fun k h => by cases h), (fun k h => by cases h), Nat.le_refl _⟩
  have hwB : w.heap.size ≤ wb.heap.size := rb.size
  obtain ⟨B, hBB⟩ : ∃ B, wb.heap.size = B := ⟨_, rfl⟩
  rw [hBB] at HS0 hwB
  clear hBB
  have H6 : Hid (∀ i, (la.take i).length ≤ 6) := hide (fun i => by have := HLA.out; rw [List.length_take]; omega)
  have H3 : Hid (∀ i, i ≤ 3 → (List.range i).length ≤ 3) := hide (fun i hi => by simp; exact hi)
  go_wp2_with fail
  go_loopw [10, 11, 13, 14] (fun va vp vt vi wr => ∃ (i n m cal cp : Nat) (aal ap : Option Addr) (lx : List Int) (px : List Nat) (t : Int), va = .slice aal n cal ∧ vp = .slice ap m cp ∧ vt = .int .i64 t ∧ vi = .int .i64 (i : Int) ∧ i ≤ La ∧ Hid (lx = la.take i ∧ px = List.range i ∧ lx.length = n ∧ px.length = m) ∧ n ≤ 6 ∧ m ≤ 3 ∧ Hid (Tri wr B ⟨aal, n, cal, lx.map (Value.int .i64)⟩ ⟨ap, m, cp, px.map nV⟩ ⟨none, 0, 0, []⟩) ∧ Below w.heap.size w wr) (fun _ _ _ vi _ => La - (Go.RowKit.intOf vi).toNat)
  case atStart => exact ⟨0, 0, 0, 0, 0, none, none, [], [], 0, rfl, rfl, rfl, rfl, by omega, hide ⟨by simp, by simp, rfl, rfl⟩, by omega, by omega, HS0, rb⟩
  case round =>
    clear HS0 rb
    obtain ⟨i, n, m, cal, cp, aal, ap, lx, px, t, rfl, rfl, rfl, rfl, hi, HX, hn6, hm3, HT, hb⟩ := hrel
    by_cases h : i < La
    · skip
      have hd : decide ((i : Int) < (La : Int)) = true := decide_eq_true (by omega)
      obtain ⟨z, hz⟩ : ∃ z, la[i]? = some z := ⟨_, List.getElem?_eq_getElem (by rw [HLA.out]; exact h)⟩
      obtain ⟨g', off, hgo, hcs⟩ := (HA.out.below hb).resolve_left (fun e => by rw [e] at hz; simp at hz)
      subst hgo
      have hcell := hcs i z hz
      obtain ⟨e1, e2, e3, e4⟩ := HX.out
      have hB0 := HT.out.hB
      have cF := hFind B aal cal lx z (by omega) wr hB0 (by have := HT.out.o1; unfold Ow.own at this; rw [e3]; exact this)
      have f1 : fdL lx z = la.take (i + 1) := by rw [e1]; exact (take_fd HDA.out hz).1
      have f2 : px ++ [(ixP (fdL lx z) z).getD 0] = List.range (i + 1) := by
        rw [f1, e2, (take_fd HDA.out hz).2]
        rw [List.range_succ]
      have hfl : (fdL lx z).length ≤ 6 ∧ m + 1 ≤ 3 := by
        constructor
        · rw [f1]; exact H6.out (i + 1)
        · have := H3.out (i + 1) (by omega)
          rw [← f2, List.length_append, e4] at this
          exact this
      obtain ⟨D, hDD⟩ : ∃ D, fdL lx z = D := ⟨_, rfl⟩
      rw [hDD] at cF f1 f2 hfl
      obtain ⟨pn, hpn⟩ : ∃ pn, (ixP D z).getD 0 = pn := ⟨_, rfl⟩
      rw [hpn] at cF f2
      rw [e3] at cF
      have HF1 := hide f1
      have HF2 := hide f2
      have HE4 := hide e4
      obtain ⟨dn, hdn⟩ : ∃ dn, D.length = dn := ⟨_, rfl⟩
      rw [hdn] at cF hfl
      have HDN := hide hdn
      obtain ⟨XS, hXS⟩ : ∃ XS, px.map nV = XS := ⟨_, rfl⟩
      have HXS := hide hXS
      have HT0 := hide HT.out
      rw [hXS] at HT0
      clear hcs HX e1 e2 f1 f2 hDD hpn e4 e3 hdn hXS HT
      go_wp2_with fail
      refine cF.mono ?_
      rintro e w2 ⟨aal2, cal2, rfl, hoA2, hgr, hat⟩
      have HT2 := hide (HT0.out.grow (r1' := ⟨aal2, dn, cal2, D.map (Value.int .i64)⟩) hgr hoA2 hat).swap
      have hb2 := hb.grown hgr hb.size (fun k hk => by have := HT0.out.low k hk; omega)
      have hB2 := HT2.out.hB
      clear cF hb hcell hgr hat hoA2 HT0 hz hB0
      go_wp2_with (at_builtin; refine wpList_pushV rfl _ _ 42 rfl 3 Tryd.underlying42 _ 8 infoI rfl B ap m cp XS rfl HT2.out.o1 (.int .i64 (pn : Int)) rfl rfl (by omega) (by omega) hB2 ?_)
      intro g3 c3 w3 hown3 hgr3 hat3
      have HT3 := hide (HT2.out.grow (r1' := ⟨some ⟨g3, 0, none⟩, m + 1, c3, XS ++ [Value.int .i64 (pn : Int)]⟩) hgr3 hown3 (by
        rcases hat3 with h1 | h1
        · exact .inl (by rw [h1]; rfl)
        · exact .inr (fun k hk => by cases hk; exact h1))).swap
      have hb3 := hb2.grown hgr3 hb2.size (fun k hk => by have := HT2.out.low k hk; omega)
      clear hgr3 hown3 hat3 HT2 hb2 hB2
      go_wp2_with fail
      refine ⟨⟨i + 1, dn, m + 1, cal2, c3, aal2, some ⟨g3, 0, none⟩, D, px ++ [pn], _, rfl, rfl, rfl, by go_num, by omega, hide ⟨HF1.out, HF2.out, HDN.out, by rw [List.length_append, HE4.out]; rfl⟩, hfl.1, hfl.2, hide ?_, hb3⟩, by simp [Go.RowKit.intOf]; omega⟩
      have := HT3.out
      rw [← HXS.out] at this
      rw [List.map_append]
      exact this
    · have hd : decide ((i : Int) < (La : Int)) = false := decide_eq_false (by omega)
      have hiL : i = La := by omega
      obtain ⟨e1, e2, e3, e4⟩ := HX.out
      have t1 : la.take La = la := by rw [← HLA.out]; exact List.take_length
      rw [hiL] at e1 e2
      rw [t1] at e1
      have hmL : m = La := by rw [← e4, e2]; simp
      have hT1 := HT.out
      rw [e1, e2] at hT1
      have hnn : lx.length = n := e3
      rw [e1] at hnn
      subst hmL
      have HT2 : Hid (Tri wr B ⟨aal, n, cal, la.map (Value.int .i64)⟩ ⟨none, 0, 0, []⟩ ⟨ap, m, cp, (List.range m).map nV⟩) := hide hT1.turn.swap.turn
      have HNN := hide hnn
      clear HX e1 e2 e3 e4 HT t1 hnn H6 H3 hT1 hiL
      have H6 := HSIX
      have H3 : Hid (∀ i, i ≤ 3 → ((posP (allP la lb) lb).take i).length ≤ 3) := hide (fun i hi => by rw [List.length_take]; omega)
      clear HSIX
      go_wp2_with fail
      go_loopw [10, 12, 13, 15] (fun va vp vt vi wr => ∃ (i n my cal cy : Nat) (aal ay : Option Addr) (lx : List Int) (px : List Nat) (t : Int), va = .slice aal n cal ∧ vp = .slice ay my cy ∧ vt = .int .i64 t ∧ vi = .int .i64 (i : Int) ∧ i ≤ Lb ∧ Hid (lx = allP la (lb.take i) ∧ px = (posP (allP la lb) lb).take i ∧ lx.length = n ∧ px.length = my) ∧ n ≤ 6 ∧ my ≤ 3 ∧ Hid (Tri wr B ⟨aal, n, cal, lx.map (Value.int .i64)⟩ ⟨ay, my, cy, px.map nV⟩ ⟨ap, m, cp, (List.range m).map nV⟩) ∧ Below w.heap.size w wr) (fun _ _ _ vi _ => Lb - (Go.RowKit.intOf vi).toNat)
      case atStart => exact ⟨0, n, 0, cal, 0, aal, none, la, [], t, rfl, rfl, rfl, rfl, by omega, hide ⟨by unfold allP; simp, by simp, HNN.out, rfl⟩, hn6, by omega, HT2, hb⟩
      case round =>
        clear HT2 hb HNN hn6
        obtain ⟨i, n, my, cal, cy, aal, ay, lx, px, t, rfl, rfl, rfl, rfl, hi, HX, hn6, hmy3, HT, hb⟩ := hrel
        by_cases h : i < Lb
        · skip
          have hd : decide ((i : Int) < (Lb : Int)) = true := decide_eq_true (by omega)
          obtain ⟨z, hz⟩ : ∃ z, lb[i]? = some z := ⟨_, List.getElem?_eq_getElem (by rw [HLB.out]; exact h)⟩
          obtain ⟨g', off, hgo, hcs⟩ := (HB.out.below hb).resolve_left (fun e => by rw [e] at hz; simp at hz)
          subst hgo
          have hcell := hcs i z hz
          obtain ⟨e1, e2, e3, e4⟩ := HX.out
          have hB0 := HT.out.hB
          have cF := hFind B aal cal lx z (by omega) wr hB0 (by have := HT.out.o1; unfold Ow.own at this; rw [e3]; exact this)
          have f1 : fdL lx z = allP la (lb.take (i + 1)) := by rw [e1]; exact (all_fd HDB.out hz).1
          have f2 : px ++ [(ixP (fdL lx z) z).getD 0] = (posP (allP la lb) lb).take (i + 1) := by
            rw [f1, e2, (all_fd HDB.out hz).2]
            rw [List.take_add_one, show (posP (allP la lb) lb)[i]? = some ((posP (allP la lb) lb).getD i 0) by rw [List.getD_eq_getElem?_getD, List.getElem?_eq_getElem (by rw [HPL.out]; exact h)]; rfl]; rfl
          have hfl : (fdL lx z).length ≤ 6 ∧ my + 1 ≤ 3 := by
            constructor
            · rw [f1]; exact H6.out (i + 1)
            · have := H3.out (i + 1) (by omega)
              rw [← f2, List.length_append, e4] at this
              exact this
          obtain ⟨D, hDD⟩ : ∃ D, fdL lx z = D := ⟨_, rfl⟩
          rw [hDD] at cF f1 f2 hfl
          obtain ⟨pn, hpn⟩ : ∃ pn, (ixP D z).getD 0 = pn := ⟨_, rfl⟩
          rw [hpn] at cF f2
          rw [e3] at cF
          have HF1 := hide f1
          have HF2 := hide f2
          have HE4 := hide e4
          obtain ⟨dn, hdn⟩ : ∃ dn, D.length = dn := ⟨_, rfl⟩
          rw [hdn] at cF hfl
          have HDN := hide hdn
          obtain ⟨XS, hXS⟩ : ∃ XS, px.map nV = XS := ⟨_, rfl⟩
          have HXS := hide hXS
          have HT0 := hide HT.out
          rw [hXS] at HT0
          clear hcs HX e1 e2 f1 f2 hDD hpn e4 e3 hdn hXS HT
          go_wp2_with fail
          refine cF.mono ?_
          rintro e w2 ⟨aal2, cal2, rfl, hoA2, hgr, hat⟩
          have HT2 := hide (HT0.out.grow (r1' := ⟨aal2, dn, cal2, D.map (Value.int .i64)⟩) hgr hoA2 hat).swap
          have hb2 := hb.grown hgr hb.size (fun k hk => by have := HT0.out.low k hk; omega)
          have hB2 := HT2.out.hB
          clear cF hb hcell hgr hat hoA2 HT0 hz hB0
          go_wp2_with (at_builtin; refine wpList_pushV rfl _ _ 42 rfl 3 Tryd.underlying42 _ 8 infoI rfl B ay my cy XS rfl HT2.out.o1 (.int .i64 (pn : Int)) rfl rfl (by omega) (by omega) hB2 ?_)
          intro g3 c3 w3 hown3 hgr3 hat3
          have HT3 := hide (HT2.out.grow (r1' := ⟨some ⟨g3, 0, none⟩, my + 1, c3, XS ++ [Value.int .i64 (pn : Int)]⟩) hgr3 hown3 (by
            rcases hat3 with h1 | h1
            · exact .inl (by rw [h1]; rfl)
            · exact .inr (fun k hk => by cases hk; exact h1))).swap
          have hb3 := hb2.grown hgr3 hb2.size (fun k hk => by have := HT2.out.low k hk; omega)
          clear hgr3 hown3 hat3 HT2 hb2 hB2
          go_wp2_with fail
          refine ⟨⟨i + 1, dn, my + 1, cal2, c3, aal2, some ⟨g3, 0, none⟩, D, px ++ [pn], _, rfl, rfl, rfl, by go_num, by omega, hide ⟨HF1.out, HF2.out, HDN.out, by rw [List.length_append, HE4.out]; rfl⟩, hfl.1, hfl.2, hide ?_, hb3⟩, by simp [Go.RowKit.intOf]; omega⟩
          have := HT3.out
          rw [← HXS.out] at this
          rw [List.map_append]
          exact this
        · have hd : decide ((i : Int) < (Lb : Int)) = false := decide_eq_false (by omega)
          have hiL : i = Lb := by omega
          obtain ⟨e1, e2, e3, e4⟩ := HX.out
          have t1 : lb.take Lb = lb := by rw [← HLB.out]; exact List.take_length
          rw [hiL, t1] at e1
          rw [hiL, ← HPL.out, List.take_length] at e2
          have hT1 := HT.out
          rw [e2] at e4
          rw [e2] at hT1
          rw [e1] at e3
          obtain ⟨s, hs⟩ : ∃ s, (allP la lb).length = s := ⟨_, rfl⟩
          rw [hs] at e3 hA6 hA1 HFIN
          subst e3
          obtain ⟨S, hS⟩ : ∃ S, S = 2 ^ s := ⟨_, rfl⟩
          have hS64 : S ≤ 64 := by rw [hS]; exact Nat.pow_le_pow_right (n := 2) (by decide) hA6
          rw [← hS] at HFIN
          have hrl : (List.range m).length = m := by simp
          obtain ⟨gx, rfl, hNx⟩ := own_some (px := List.range m) (by have := hT1.o3; unfold Ow.own at this; rw [hrl]; exact this) (by rw [hrl]; omega)
          rw [HPL.out] at e4
          obtain ⟨gy, rfl, hNy⟩ := own_some (px := posP (allP la lb) lb) (by have := hT1.o2; unfold Ow.own at this; rw [HPL.out, e4]; exact this) (by rw [HPL.out]; omega)
          have hqA : ((List.range m).length : Int) = (rw' (x : Int)).q := by rw [hrl, HQ1.out]; exact HQA.out
          have hqB : ((posP (allP la lb) lb).length : Int) = (rw' (y : Int)).q := by rw [HPL.out, HQ2.out]; exact HQB.out
          have cWa := fun W hN => hWide x s S gx cp (List.range m) x1 x2 hA6 hS hqA (fun i hi => by
            rw [hrl] at hi
            rw [List.getD_eq_getElem?_getD, List.getElem?_range hi]
            show i < 6
            omega) W hN
          have cWb := fun W hN => hWide y s S gy cy (posP (allP la lb) lb) y1 y2 hA6 hS hqB (fun i _ => HPL6.out i) W hN
          rw [hrl] at cWa
          rw [HPL.out, e4] at cWb
          have HT1 := hide (tail_ok x y s S (List.range m) (posP (allP la lb) lb) x1 x2 y1 y2 hA6 hS hqA hqB)
          have HT2 := hide (tail_ok y x s S (posP (allP la lb) lb) (List.range m) y1 y2 x1 x2 hA6 hS hqB hqA)
          have HAL := hide (alk_hc x y S (List.range m) (posP (allP la lb) lb) hS64)
          have HNx := hide hNx
          have HNy := hide hNy
          generalize hcB S x y (List.range m) (posP (allP la lb) lb) = RB at *
          clear HX e1 e2 e4 t1 hT1 hs hS hrl hqA hqB hNx hNy HT hiL H6 H3 HPL6 HPL HDA HDB HA HB HQA HQB HQ1 HQ2
          go_wp2_with fail
          refine (cWa _ HNx.out).mono ?_
          rintro e w3 ⟨gm, rm, rfl, hM, q3⟩
          have hNy3 := HNy.out.below q3
          replace q3 := hb.trans (q3.mono hb.size)
          clear cWa HNx HNy hb
          go_wp2_with fail
          refine (cWb _ hNy3).mono ?_
          rintro e w4 ⟨gn, rn, rfl, hN, q4⟩
          replace hM := hM.below q4
          replace q4 := q3.trans (q4.mono q3.size)
          clear cWb hNy3 q3
          have HM := hide hM
          have HN := hide hN
          clear hM hN
          go_wp2_with fail
          refine (HT1.out _ gm gn rm rn HM.out HN.out).mono ?_
          rintro e w5 ⟨g1, r1, F1, rfl, d1, v1, q5⟩
          have hM5 := HM.out.below q5
          have hN5 := HN.out.below q5
          replace q5 := q4.trans (q5.mono q4.size)
          have D1 := hide d1
          have V1 := hide v1
          have HM5 := hide hM5
          have HN5 := hide hN5
          clear HT1 HM HN q4 d1 v1 hM5 hN5
          go_wp2_with fail
          refine (HT2.out _ gn gm rn rm HN5.out HM5.out).mono ?_
          rintro e w6 ⟨g2, r2, F2, rfl, d2, v2, q6⟩
          have d16 := D1.out.below q6
          replace q6 := q5.trans (q6.mono q5.size)
          have D1 := hide d16
          have D2 := hide d2
          have V2 := hide v2
          clear HT2 HM5 HN5 q5 d2 v2 d16
          go_wp2_with fail
          refine (HAL.out _ g1 g2 r1 r2 F1 F2 D1.out D2.out V1.out V2.out).mono ?_
          rintro e w7 ⟨rfl, q7⟩
          replace q7 := q6.trans (q7.mono q6.size)
          clear HAL D1 D2 V1 V2 q6
          go_wp2_with fail
          go_ret2
          exact ⟨by rw [HFIN.out]; rfl, q7⟩
end Go.Proofs.YtnhdgellckcnbaaDoor.Gt
/- Gates without a common qubit: the table. -/
namespace Go.Proofs.YtnhdgellckcnbaaDoor.Gt
def farB (i j : Nat) (ka kb : List Nat) : Bool := ka.all fun a => kb.all fun b => alkL (2 ^ (i + j)) a (List.range i) b ((List.range j).map (· + i)) (2 ^ (i + j)) 0
set_option maxRecDepth 100000 in
theorem far11 : farB 1 1 [1, 2, 3, 4, 5, 6, 7, 8, 9, 10] [1, 2, 3, 4, 5, 6, 7, 8, 9, 10] = true := by decide +kernel
set_option maxRecDepth 100000 in
theorem far12 : farB 1 2 [1, 2, 3, 4, 5, 6, 7, 8, 9, 10] [11, 12, 13, 14, 15, 16, 17] = true := by decide +kernel
set_option maxRecDepth 100000 in
theorem far13 : farB 1 3 [1, 2, 3, 4, 5, 6, 7, 8, 9, 10] [18, 19, 20] = true := by decide +kernel
set_option maxRecDepth 100000 in
theorem far21 : farB 2 1 [11, 12, 13, 14, 15, 16, 17] [1, 2, 3, 4, 5, 6, 7, 8, 9, 10] = true := by decide +kernel
set_option maxRecDepth 100000 in
theorem far31 : farB 3 1 [18, 19, 20] [1, 2, 3, 4, 5, 6, 7, 8, 9, 10] = true := by decide +kernel
set_option maxRecDepth 100000 in
theorem far22 : farB 2 2 [11, 12, 13, 14, 15, 16, 17] [11, 12, 13, 14, 15, 16, 17] = true := by decide +kernel
set_option maxRecDepth 100000 in
theorem far23 : farB 2 3 [11, 12, 13, 14, 15, 16, 17] [18, 19, 20] = true := by decide +kernel
set_option maxRecDepth 100000 in
theorem far32 : farB 3 2 [18, 19, 20] [11, 12, 13, 14, 15, 16, 17] = true := by decide +kernel
set_option maxRecDepth 100000 in
theorem far33 : farB 3 3 [18, 19, 20] [18, 19, 20] = true := by decide +kernel
end Go.Proofs.YtnhdgellckcnbaaDoor.Gt
/- Both answers are the same; GateCommutes. -/
namespace Go.Proofs.YtnhdgellckcnbaaDoor.Gt
open Go.RowKit Go.Proofs.YtnhdgellckcnbaaDoor.Oct

theorem pos_dis {A l : List Int} (hd : l.Nodup) (hin : ∀ q ∈ l, q ∈ A) : ∀ s t, s < (posP A l).length → t < (posP A l).length → (posP A l).getD s 0 = (posP A l).getD t 0 → s = t := by
  intro s t hs ht e
  have hlen : (posP A l).length = l.length := by simp [posP]
  rw [hlen] at hs ht
  unfold posP at e
  rw [List.getD_eq_getElem?_getD, List.getD_eq_getElem?_getD, List.getElem?_map, List.getElem?_map, List.getElem?_eq_getElem hs, List.getElem?_eq_getElem ht] at e
  simp only [Option.map_some, Option.getD_some] at e
  cases h1 : ixP A l[s] with
  | none => exact absurd (hin _ (List.getElem_mem hs)) (ixP_none.1 h1)
  | some i =>
    cases h2 : ixP A l[t] with
    | none => exact absurd (hin _ (List.getElem_mem ht)) (ixP_none.1 h2)
    | some j =>
      rw [h1, h2] at e
      simp only [Option.getD_some] at e
      subst e
      have h3 := ixP_get h1
      rw [ixP_get h2] at h3
      have h4 : l[t] = l[s] := Option.some.inj h3
      rw [List.Nodup, List.pairwise_iff_getElem] at hd
      by_cases c1 : s < t
      · exact absurd h4.symm (hd s t hs ht c1)
      · by_cases c2 : t < s
        · exact absurd h4 (hd t s ht hs c2)
        · omega
theorem pl_of {k : Nat} {A l : List Int} (k1 : 1 ≤ k) (k2 : k ≤ 20) (hl : (l.length : Int) = (rw' (k : Int)).q) (hd : l.Nodup) (hin : ∀ q ∈ l, q ∈ A) (hA : 0 < A.length) (h6 : A.length ≤ 6) : Pl k (posP A l) :=
  ⟨k1, k2, by rw [← hl]; simp [posP], pos_dis hd hin, fun i _ => by have := pos_lt (la := A) (lq := l) hA i; omega⟩
theorem far_pos {la lb : List Int} (da : la.Nodup) (db : lb.Nodup) (h : ∀ q ∈ lb, q ∉ la) : posP (allP la lb) lb = (List.range lb.length).map (· + la.length) := by
  have hA : allP la lb = la ++ lb := by
    unfold allP
    rw [List.filter_eq_self.2 (fun q hq => by simp [h q hq])]
  have h1 := ix_range (allP la lb) (allP_nodup da db)
  have h2 : (allP la lb).map (fun q => (ixP (allP la lb) q).getD 0) = la.map (fun q => (ixP (allP la lb) q).getD 0) ++ lb.map (fun q => (ixP (allP la lb) q).getD 0) := by
    conv => lhs; rw [hA]
    rw [List.map_append, ← hA]
  rw [h2, hA, List.length_append, List.range_add, ← hA] at h1
  have h3 := List.append_inj_right h1 (by simp)
  unfold posP
  rw [h3]
  refine List.map_congr_left (fun x _ => Nat.add_comm _ _)
theorem far_all {x y : Nat} (x1 : 1 ≤ x) (x2 : x ≤ 20) (y1 : 1 ≤ y) (y2 : y ≤ 20) {i j : Nat} (hi : (i : Int) = (rw' (x : Int)).q) (hj : (j : Int) = (rw' (y : Int)).q) : alkL (2 ^ (i + j)) x (List.range i) y ((List.range j).map (· + i)) (2 ^ (i + j)) 0 = true := by
  have xa := ks_of ⟨x, by omega⟩ x1
  have xb := ks_of ⟨y, by omega⟩ y1
  dsimp only at xa xb
  obtain ⟨a1, a2, a3, aq, _⟩ := xa
  obtain ⟨b1, b2, b3, bq, _⟩ := xb
  have go : ∀ {ka kb : List Nat}, farB i j ka kb = true → x ∈ ka → y ∈ kb → alkL (2 ^ (i + j)) x (List.range i) y ((List.range j).map (· + i)) (2 ^ (i + j)) 0 = true := by
    intro ka kb h hx hy
    unfold farB at h
    rw [List.all_eq_true] at h
    have h1 := h x hx
    rw [List.all_eq_true] at h1
    exact h1 y hy
  rcases aq with qa | qa | qa <;> rcases bq with qb | qb | qb <;> rw [qa] at hi <;> rw [qb] at hj
  · obtain rfl : i = 1 := by omega
    obtain rfl : j = 1 := by omega
    exact go far11 (a1 qa) (b1 qb)
  · obtain rfl : i = 1 := by omega
    obtain rfl : j = 2 := by omega
    exact go far12 (a1 qa) (b2 qb)
  · obtain rfl : i = 1 := by omega
    obtain rfl : j = 3 := by omega
    exact go far13 (a1 qa) (b3 qb)
  · obtain rfl : i = 2 := by omega
    obtain rfl : j = 1 := by omega
    exact go far21 (a2 qa) (b1 qb)
  · obtain rfl : i = 2 := by omega
    obtain rfl : j = 2 := by omega
    exact go far22 (a2 qa) (b2 qb)
  · obtain rfl : i = 2 := by omega
    obtain rfl : j = 3 := by omega
    exact go far23 (a2 qa) (b3 qb)
  · obtain rfl : i = 3 := by omega
    obtain rfl : j = 1 := by omega
    exact go far31 (a3 qa) (b1 qb)
  · obtain rfl : i = 3 := by omega
    obtain rfl : j = 2 := by omega
    exact go far32 (a3 qa) (b2 qb)
  · obtain rfl : i = 3 := by omega
    obtain rfl : j = 3 := by omega
    exact go far33 (a3 qa) (b3 qb)
theorem hc_same (a : Int) (la : List Int) (b : Int) (lb : List Int) : hcmP a la b lb = comP a la b lb := by
  cases hg : gdP a la b lb
  · unfold hcmP comP
    unfold gdP at hg
    cases ka : knB (rw' a)
    · rfl
    · cases kb : knB (rw' b)
      · rfl
      · rw [ka, kb] at hg
        cases pa : apP (rw' a).q la
        · rfl
        · cases pb : apP (rw' b).q lb
          · rfl
          · rw [pa, pb] at hg; cases hg
  · obtain ⟨x, y, rfl, rfl, x1, x2, y1, y2, qa, qb, da, db, ka, kb, pa, pb⟩ := gd_out hg
    have l3a : la.length ≤ 3 := by have := q_le x x2; omega
    have l3b : lb.length ≤ 3 := by have := q_le y y2; omega
    have l0a : 1 ≤ la.length := by have := (ks_of ⟨x, by omega⟩ x1).2.2.2.1; dsimp only at this; omega
    have hA6 : (allP la lb).length ≤ 6 := by
      unfold allP
      rw [List.length_append]
      have := List.length_filter_le (fun q => !decide (q ∈ la)) lb
      omega
    have hA1 : 0 < (allP la lb).length := by unfold allP; rw [List.length_append]; omega
    have hS : 2 ^ (allP la lb).length ≤ 64 := Nat.pow_le_pow_right (n := 2) (by decide) hA6
    have P1 := pl_of (A := allP la lb) x1 x2 qa da (fun q hq => mem_allP.2 (.inl hq)) hA1 hA6
    have P2 := pl_of (A := allP la lb) y1 y2 qb db (fun q hq => mem_allP.2 (.inr hq)) hA1 hA6
    have key := alk_hcB hS P1 P2
    unfold hcmP comP
    rw [ka, kb, pa, pb]
    simp only [Bool.not_true, Bool.or_self, Bool.false_eq_true, if_false]
    rw [Int.toNat_natCast, Int.toNat_natCast, ← key]
    by_cases e : (allP la lb).length = la.length + lb.length
    · rw [if_pos e, alc_is x1 x2 y1 y2 qa qb]
      unfold alc
      rw [pos_la da, far_pos da db ((all_len la lb).1 e), e, far_all x1 x2 y1 y2 qa qb]
    · rw [if_neg e]
/-- A copy of numbers that came in. -/
theorem wpList_copy {ops : Array Oper} {rest : List Oper} {o : Oper} {a : Act} {Q : Exit → Act → World → Prop} {w : World} (hgd : o.guard = none) (s x : Operand)
    (ho : o.op = .call { callee := .builtin .append, args := #[s, x], argTypes := #[42, 42] }) (ao : Option Addr) (n c : Nat) (l : List Int) (hs : a.eval s = .slice (some ⟨w.heap.size, 0, none⟩) 0 0) (hx : a.eval x = .slice ao n c) (hn : l.length = n) (hb : n ≤ 17592186044415) (hN : Ns w ao l)
    (h : ∀ ao' c' w', Ns w' ao' l → n ≤ c' → Below w.heap.size w w' → wpList Tryd.prog ops Q rest (a.put o.dst (.slice ao' n c')) w') :
    wpList Tryd.prog ops Q (o :: rest) a (w.alloc (.cells #[] 3)) := by
  obtain ⟨i0, hi, hz0, hz1, hz2⟩ := info_parts infoI
  by_cases h0 : n = 0
  · subst h0
    have hl : l = [] := List.eq_nil_of_length_eq_zero hn
    subst hl
    have hsrc : Src Tryd.prog i0.size 42 (.slice ao 0 c) 0 [] (w.alloc (.cells #[] 3)) := by
      cases ao with
      | none => exact Src.ofNil _ Tryd.underlying42 c
      | some ad => exact Src.ofSlice _ Tryd.underlying42 ad 0 c [] (by simp) (fun j u hj => by simp at hj) (fun u hu => by cases hu)
    refine wpList_plain hgd fun K hK' => ?_
    have hrun := run_append_nothing (P := Tryd.prog) (w.alloc (.cells #[] 3)) 42 42 o.type 3 i0 Tryd.underlying42 hi (some ⟨w.heap.size, 0, none⟩) 0 0 (Nat.le_refl _) (.slice ao 0 c) hsrc
    unfold Oper.wp
    simp [execOp, ho, resolve, invoke, builtin, hs, hx, hrun, Result.andThen]
    exact hK' _ _ (h _ _ _ (.inl rfl) (Nat.le_refl _) (below_new w _))
  · have hne : l ≠ [] := fun e => by rw [e] at hn; simp at hn; omega
    obtain ⟨g, off, rfl, hc⟩ := hN.resolve_left hne
    have hnews : ∀ j u, (l.map (Value.int .i64))[j]? = some u → (w.alloc (.cells #[] 3)).cell? ((⟨g, off, none⟩ : Addr).add j) = some u := by
      intro j u hu
      rw [Addr.add_lit]
      rw [List.getElem?_map] at hu
      obtain ⟨z, hz, rfl⟩ := Option.map_eq_some_iff.1 hu
      exact ((below_new w _).cell (World.block_lt_of_cell? w _ (hc j z hz))).trans (hc j z hz)
    have hown : (w.alloc (.cells #[] 3)).ownsRow w.heap.size 3 1 (.slice (some ⟨w.heap.size, 0, none⟩) 0 0) 0 [] := ⟨rfl, .inr ⟨w.heap.size, 0, #[], rfl, Nat.le_refl _, heap_alloc_new _ _, Nat.le_refl _, by decide, rfl, rfl⟩⟩
    refine wpList_append_lies _ hgd s x 42 ho w.heap.size 3 i0 (.int .i64 0) 1 8 Tryd.underlying42 hi hz0 hz1 hz2 rfl (by decide) _ 0 [] hs hown ⟨g, off, none⟩ n c (l.map (Value.int .i64)) hx (by rw [List.length_map]; omega) hnews (by
      intro u hu
      obtain ⟨z, _, rfl⟩ := List.mem_map.1 hu
      rfl) (by omega) (by unfold maxLen; omega) (by omega) (by simp) _ rfl ?_
    intro g2 cap w2 hown2 hgrow hat hlt
    have hb2 : Below w.heap.size w w2 := (below_new w _).grown hgrow (by simp) (fun q hq => by simp [Value.ownBlock] at hq; omega)
    rw [Nat.zero_add] at hown2 ⊢
    rw [List.nil_append] at hown2
    refine h _ _ _ (ns_own hown2) ?_ hb2
    rcases hown2.2 with ⟨e, _⟩ | ⟨g', cap', cur, e, _, _, hcap, _⟩
    · cases e
    · cases e; exact hcap
set_option maxRecDepth 100000 in
set_option maxHeartbeats 4000000 in
theorem xGateCommutes (a : Int) (la : List Int) (b : Int) (lb : List Int) (ao ao' : Option Addr) (c c' : Nat) (hla : la.length ≤ 17592186044415) (hlb : lb.length ≤ 17592186044415) (w : World) (hT : Tb w) (hD : Td w) (hA : Ns w ao la) (hB : Ns w ao' lb) :
    Calls Tryd.prog 5 #[.int .i64 a, .slice ao la.length c, .int .i64 b, .slice ao' lb.length c'] w fun e w' => e = .returned (.bool true) ∧ Below w.heap.size w w' := by
  have c1 := fun ax ay cx cy (hcx : la.length ≤ cx) (hcy : lb.length ≤ cy) W hT hD hA hB => gCommute a la b lb ax ay cx cy (by omega) (by omega) hcx hcy W hT hD hA hB
  have c2 := fun W hA hB => hCommute a la b lb ao ao' c c' (by omega) (by omega) W hA hB
  rw [hc_same] at c2
  generalize comP a la b lb = R at *
  have cN := jNum
  have HA := hide hA
  have HB := hide hB
  obtain ⟨n, hn⟩ : ∃ n, la.length = n := ⟨_, rfl⟩
  obtain ⟨m, hm⟩ : ∃ m, lb.length = m := ⟨_, rfl⟩
  have HN := hide hn
  have HM := hide hm
  rw [hn] at hla c1 c2 ⊢
  rw [hm] at hlb c1 c2 ⊢
  have C1 := hide c1
  have C2 := hide c2
  clear hA hB hn hm c1 c2
  go_enter Tryd.func5, Tryd.ntmps5
  go_wp2_with (at_builtin; refine wpList_copy rfl _ _ rfl ao n c la rfl rfl HN.out hla HA.out ?_)
  intro ax cx w1 hAx hcx q1
  have HAx := hide hAx
  clear hAx
  go_wp2_with (at_builtin; refine wpList_copy rfl _ _ rfl ao' m c' lb rfl rfl HM.out hlb (HB.out.below q1) ?_)
  intro ay cy w2 hBy hcy q2
  have hAx2 := HAx.out.below q2
  replace q2 := q1.trans (q2.mono q1.size)
  have HAx2 := hide hAx2
  have HBy := hide hBy
  clear q1 HAx hAx2 hBy
  go_wp2_with fail
  refine (C1.out ax ay cx cy hcx hcy _ (hT.below q2) (hD.below q2) HAx2.out HBy.out).mono ?_
  rintro e w3 ⟨rfl, q3⟩
  have hAx3 := HAx2.out.below q3
  replace q3 := q2.trans (q3.mono q2.size)
  have HAx3 := hide hAx3
  clear q2 HAx2 HBy hAx3 C1
  go_wp2_with fail
  refine (C2.out _ (HA.out.below q3) (HB.out.below q3)).mono ?_
  rintro e w4 ⟨rfl, q4⟩
  have hAx4 := HAx3.out.below q4
  replace q4 := q3.trans (q4.mono q3.size)
  have HAx4 := hide hAx4
  clear q3 HAx3 hAx4 C2
  go_wp2_with fail
  go_loopw [15] (fun vi wr => ∃ i : Nat, vi = .int .i64 (i : Int) ∧ i ≤ n ∧ Hid (Ns wr ax la) ∧ Below w.heap.size w wr) (fun vi _ => n - (Go.RowKit.intOf vi).toNat)
  case atStart => exact ⟨0, rfl, by omega, HAx4, q4⟩
  case round =>
    clear HAx4 q4
    obtain ⟨i, rfl, hi, HX, hb⟩ := hrel
    by_cases h : i < n
    · have hd : decide ((i : Int) < (n : Int)) = true := decide_eq_true (by omega)
      obtain ⟨z, hz⟩ : ∃ z, la[i]? = some z := ⟨_, List.getElem?_eq_getElem (by rw [HN.out]; exact h)⟩
      obtain ⟨g, off, hgo, hcs⟩ := (HA.out.below hb).resolve_left (fun e => by rw [e] at hz; simp at hz)
      obtain ⟨g', off', hgo', hcs'⟩ := HX.out.resolve_left (fun e => by rw [e] at hz; simp at hz)
      subst hgo hgo'
      have hcx1 := hcs i z hz
      have hcy1 := hcs' i z hz
      have hiZ : (i : Int) < (n : Int) := by omega
      have HX2 : Hid (∀ W, Below wr.heap.size wr W → Ns W (some ⟨g', off', none⟩) la) := hide (fun W hW => HX.out.below hW)
      clear hcs hcs' hz HX
      go_wp2_with fail
      go_quiet (fail)
      go_wp2_with fail
      exact ⟨⟨i + 1, by go_num, by omega, hide (HX2.out _ (below_drewN (Below.refl _ _) _)), below_drewN hb _⟩, by simp [Go.RowKit.intOf]; omega⟩
    · have hd : decide ((i : Int) < (n : Int)) = false := decide_eq_false (by omega)
      clear HX
      go_wp2_with (go_at_call 10; refine (cN _ _).mono ?_; rintro e' w' ⟨rfl, hw⟩; obtain rfl := hw.symm)
      refine (jAlive _ (hT.below hb) (hD.below hb)).mono ?_
      rintro e w5 ⟨rfl, q5⟩
      replace q5 := hb.trans (q5.mono hb.size)
      go_wp2_with fail
      go_ret
      exact ⟨by simp, q5⟩
end Go.Proofs.YtnhdgellckcnbaaDoor.Gt
/- A slice of numbers that came in, opened. -/
namespace Go.Proofs.YtnhdgellckcnbaaDoor.Gt
open Go.ChangeShapes Go.WideShapes Go.ChangeAt Go.RowKit Go.Lib

theorem bytesOfI : Tryd.prog.bytesOf 3 = 8 := by kernel_rfl
set_option maxRecDepth 100000 in
theorem ns_open {H : Type} {enc : TypeId × Value → H} {W : World} {base : Nat} {v : Value} {d : DataW H} {p : List MemPlace} (hval : Value.okWide Tryd.prog W .any base 42 v)
    (h : DataW.Trod enc Tryd.prog W 0 (fun _ => true) true 42 v d p) :
    ∃ ao c us, v = .slice ao us.length c ∧ Ns W ao us ∧ us.length ≤ c ∧ ((d = .nil ∧ us = []) ∨ ∃ elems spare, d = .slice elems spare ∧ elems.length = us.length) := by
  obtain ⟨a0, len, cap, rfl⟩ := okWide_slice Tryd.underlying42 hval
  obtain ⟨fuel, hf⟩ := h
  rcases open_ints Tryd.underlying42 Tryd.underlying3 cellsI hf with ⟨hcs, hx⟩ | ⟨a, len', cap', zs, hcs, _, hl, hm, hz, hx, hcell, hwz⟩
  · simp [Value.cells] at hcs
    obtain ⟨rfl, rfl, rfl⟩ := hcs
    simp only [Prod.mk.injEq] at hx
    exact ⟨none, 0, [], rfl, .inl rfl, by simp, .inl ⟨hx.1, rfl⟩⟩
  · simp [Value.cells] at hcs
    obtain ⟨rfl, rfl, rfl⟩ := hcs
    simp only [Prod.mk.injEq] at hx
    simp only [if_true] at hz
    have hlen : (zs.take len).length = len := by simp; omega
    refine ⟨some a, cap, zs.take len, by rw [hlen], ?_, by omega, .inr ⟨_, _, hx.1, by simp [lits]⟩⟩
    by_cases h0 : len = 0
    · left
      exact List.eq_nil_of_length_eq_zero (by rw [hlen]; exact h0)
    · right
      obtain ⟨g, off, rfl, hc⟩ := ints_at hcell (by omega)
      refine ⟨g, off, rfl, fun j b hj => ?_⟩
      have hjl : j < len := by have := (List.getElem?_eq_some_iff.1 hj).1; rw [hlen] at this; exact this
      have h1 := hc j (by omega)
      rw [h1]
      simp only [List.getElem?_take, hjl, if_true] at hj
      have e1 : zs.getD j 0 = b := by simp [List.getD, hj]
      rw [e1]
end Go.Proofs.YtnhdgellckcnbaaDoor.Gt
/- GateCommutes answers true for every two kinds and all qubits: Commute answers what the document's answers, and what is handed in stays. Condition: the two listed variables lie as the program's text lays them (the card ties them to the text). -/
namespace Go.Proofs.YtnhdgellckcnbaaDoor.Gt
open Go.ChangeShapes Go.WideShapes Go.ChangeAt Go.RowKit
namespace gateCommutes
theorem readable : ∀ t ∈ Tryd.f5.params.toList, Tryd.prog.readableRec t = true ∧ t < Tryd.prog.types.size := by
  rw [Tryd.params5]
  intro t ht
  simp at ht
  rcases ht with rfl | rfl | rfl | rfl <;> exact ⟨by kernel_rfl, of_decide_eq_true (by kernel_rfl)⟩
set_option maxRecDepth 100000 in
theorem contract (H : Type) (enc : TypeId × Value → H) (W : World) (base : Nat) (args : Array Value) (ds gs : List (DataW H)) (before : List MemPlace)
    (hval : ∀ (j : Nat) t v, Tryd.f5.params[j]? = some t → args[j]? = some v → Value.okWide Tryd.prog W .any base t v)
    (hW : DataW.Whole enc Tryd.prog Tryd.f5.params.toList Rows.gateCommutesSpec.vars false W args.toList ds gs before) 
    (hsz : (DataW.weightsEach Tryd.prog (Tryd.f5.params.toList ++ (OpenSpec.ofChange Rows.gateCommutesSpec).bare.plain.varTypes Tryd.prog) (ds ++ gs)).all (· ≤ reachBytes) = true) (hL : laidMetH Tryd.prog Rows.gateCommutesRow.laid W) :
    Calls Tryd.prog 5 args W fun e W' => ∃ v, e = .returned v ∧ Rows.gateCommutesSpec.post enc Tryd.prog Tryd.f5 false true false false W args v W' := by
  have hT : Tb W ∧ Td W := tg_of (plain8 hL)
  have hW0 := hW
  obtain ⟨p, q, hA, hV, rfl, _, _⟩ := hW
  obtain ⟨rfl, rfl⟩ := trodVars_none hV
  have hA' : DataW.TrodAll enc Tryd.prog W 0 (fun _ => true) true Tryd.f5.params.toList args.toList ds p := hA
  rw [Tryd.params5] at hA' hval
  have hfin : ∀ dd : List (DataW H), ds = dd → (Rows.gateCommutesSpec.fn H dd).results = [.lit (.bool true)] ∧ (Rows.gateCommutesSpec.fn H dd).args = dd ∧ (Rows.gateCommutesSpec.fn H dd).vars = [] → ∀ W', Below W.heap.size W W' → Rows.gateCommutesSpec.post enc Tryd.prog Tryd.f5 false true false false W args (.bool true) W' := by
    rintro dd rfl hs W' hb
    exact law_post (enc := enc) Tryd.f5 Rows.gateCommutesSpec 4 laidOut rfl readable (by kernel_rfl) Tryd.underlying4 hW0 hs hb
  obtain ⟨v0, v1, v2, v3, d0, d1, d2, d3, p0, p1, p2, p3, rfl, rfl, rfl, h0, h1, h2, h3⟩ := trodAll_four hA'
  have hwalk : Calls Tryd.prog 5 #[v0, v1, v2, v3] W fun e W' => e = .returned (.bool true) ∧ Below W.heap.size W W' := by
    obtain ⟨x0, rfl, rfl, rfl, k0⟩ := open_int Tryd.underlying22 (hval 0 _ v0 rfl rfl) h0
    obtain ⟨ao, c, us, rfl, hus, _, hd⟩ := ns_open (hval 1 _ v1 rfl rfl) h1
    obtain ⟨x2, rfl, rfl, rfl, k2⟩ := open_int Tryd.underlying22 (hval 2 _ v2 rfl rfl) h2
    obtain ⟨ao', c', us', rfl, hus', _, hd'⟩ := ns_open (hval 3 _ v3 rfl rfl) h3
    have hr : reachBytes = 140737488351232 := rfl
    have hl : us.length ≤ 17592186044414 := by
      rcases hd with ⟨_, rfl⟩ | ⟨elems, spare, rfl, hel⟩
      · exact Nat.zero_le _
      · have hs := sized_slice hsz (j := 1) (t := 42) (e := 3) (elems := elems) (spare := spare) (by rw [Tryd.params5]; rfl) rfl Tryd.underlying42
        rw [bytesOfI, hr] at hs
        omega
    have hl' : us'.length ≤ 17592186044414 := by
      rcases hd' with ⟨_, rfl⟩ | ⟨elems, spare, rfl, hel⟩
      · exact Nat.zero_le _
      · have hs := sized_slice hsz (j := 3) (t := 42) (e := 3) (elems := elems) (spare := spare) (by rw [Tryd.params5]; rfl) rfl Tryd.underlying42
        rw [bytesOfI, hr] at hs
        omega
    exact xGateCommutes x0 us x2 us' ao ao' c c' (by omega) (by omega) W hT.1 hT.2 hus hus'
  refine hwalk.mono ?_
  rintro e W' ⟨rfl, hb⟩
  exact ⟨_, rfl, hfin _ rfl ⟨rfl, rfl, rfl⟩ W' hb⟩
theorem laid_met (os : Os) (args : Array Value) : laidMet Tryd.prog Rows.gateCommutesRow.laid ((laidWorld os).forCall (fun _ _ => 0) ⟨#[], args, []⟩).memory :=
  laid_met8 os args
theorem reads (os : Os) {H : Type} (enc : TypeId × Value → H) : ∃ places, DataW.whole enc Tryd.prog ((laidWorld os).forCall (fun _ _ => 0) ⟨#[], #[.int .i64 1, .slice none 0 0, .int .i64 1, .slice none 0 0], []⟩).memory Tryd.f5.params.toList Rows.gateCommutesSpec.vars false #[(.int .i64 1 : Value), .slice none 0 0, .int .i64 1, .slice none 0 0].toList 8 = some ([.lit (.int .i64 1), .nil, .lit (.int .i64 1), .nil], [], places) :=
  ⟨[], by kernel_rfl⟩

set_option maxRecDepth 100000 in
theorem lifted (os : Os) (started : os.Started) (H : Type) (enc : TypeId × Value → H) (F : Stop.Interp) :
    ReturnsInHanded {} Tryd.checked os 5 .any ((OpenSpec.ofChange Rows.gateCommutesSpec).preRow enc Tryd.prog Tryd.f5 Rows.gateCommutesRow.domain false Rows.gateCommutesRow.laid) (((OpenSpec.ofChange Rows.gateCommutesSpec).at F).post enc Tryd.prog Tryd.f5 false true false false) := by
  obtain ⟨places, hx⟩ := reads os enc
  refine returnsInHanded_of_row (C := Tryd.checked) (s := OpenSpec.ofChange Rows.gateCommutesSpec) own started (by kernel_rfl) Tryd.func5
    (witness_row_shaped (enc := enc) (C := Tryd.checked) false (laidWorld os) #[.int .i64 1, .slice none 0 0, .int .i64 1, .slice none 0 0] (laidWorld_os os) (shaped8 os _) (by kernel_rfl)
      (OpenSpec.preRow_of_cond 8 hx (by kernel_rfl) (fun k hk => by cases hk) (by kernel_rfl) (laid_met os _))) ?_
  intro W base args ds gs before hval hW _ _ hsz hL _ _
  exact contract H enc W base args ds gs before hval hW hsz hL
theorem said : Rows.GateCommutesSaid :=
  OpenClaim.holds_of_cond 5 Tryd.f5 rfl rfl rfl rfl rfl rfl rfl ⟨rfl, rfl, rfl, rfl, rfl⟩ rfl rfl rfl rfl rfl (by kernel_rfl) Tryd.func5 (by kernel_rfl)
    (of_decide_eq_true (by kernel_rfl)) (by unfold Func.isWrapper; first | (rw [if_pos (by decide +kernel)]; kernel_rfl) | (rw [if_neg (by decide +kernel)]; exact ⟨rfl, rfl⟩))
    (fun os started H enc _ F => by rw [OpenClaim.pre_eq_preRow]; exact lifted os started H enc F)
/-- No parameter wants a stand-in; the program's own looks are off. -/
theorem plain (f : FuncId) (fn : Func) (hf : Tryd.pinned.checked.prog.funcNamed "phasor/phasorlaw06.GateCommutes" = some f) (hfn : Tryd.pinned.checked.prog.funcs[f]? = some fn) :
    false = Tryd.pinned.checked.prog.looks [] ∧ ∀ (j : Nat) t, fn.params[j]? = some t → Tryd.pinned.checked.prog.wantsStandIn t = false := by
  obtain rfl : f = 5 := Option.some.inj ((show Tryd.prog.funcNamed "phasor/phasorlaw06.GateCommutes" = some 5 by kernel_rfl).symm.trans hf) |>.symm
  obtain rfl : fn = Tryd.f5 := (Option.some.inj (Tryd.func5.symm.trans hfn)).symm
  refine ⟨by kernel_rfl, fun j t ht => ?_⟩
  rw [Tryd.params5] at ht
  have hm := Array.mem_of_getElem? ht
  simp at hm
  rcases hm with rfl | rfl | rfl | rfl
  · exact (show Tryd.prog.wantsStandIn 22 = false by kernel_rfl)
  · exact (show Tryd.prog.wantsStandIn 42 = false by kernel_rfl)
  · exact (show Tryd.prog.wantsStandIn 22 = false by kernel_rfl)
  · exact (show Tryd.prog.wantsStandIn 42 = false by kernel_rfl)
end gateCommutes
end Go.Proofs.YtnhdgellckcnbaaDoor.Gt
namespace Go.Proofs.YtnhdgellckcnbaaDoor
open Go
/-- The card. -/
theorem GateCommutes_card : Rows.GateCommutesCardSaid :=
  Claim7.holds_tied_plain_at .later [] _ _ _ _ Gt.gateCommutes.said (fun _ h => by cases h) (by kernel_rfl) (fun _ h => by cases h) gateCommutes_row_tie rfl ⟨rfl, rfl⟩ (by kernel_rfl) rfl Gt.gateCommutes.plain (by kernel_rfl)
end Go.Proofs.YtnhdgellckcnbaaDoor
