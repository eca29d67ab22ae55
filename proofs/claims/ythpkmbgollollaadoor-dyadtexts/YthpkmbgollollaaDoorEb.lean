/- The document's least, made, Make. -/
import Derived.Test.YthpkmbgollollaaDoorEa
import Derived.Test.YthpkmbgollollaaDoorDe
namespace Go.Proofs.YthpkmbgollollaaDoor.Dy
open Go.RowKit Go.Shelf Go.Proofs.YthpkmbgollollaaDoor.Sca

theorem hide {p : Prop} (h : p) : Hid p := h
/-- What a call answers: a struct in a cell. -/
theorem results_c {P : Program} {fn : Func} {p : Tmp} {ty : TypeId} (h : fn.results = #[.cell p ty]) (tmps : Array Value) (w : World) (g : Nat) (t : TypeId) (cs : Array Value) (fr : Nat × Nat) (d : TypeDesc)
    (hp : tmps.getD p undef = .pointer (some ⟨g, 0, none⟩)) (hg : w.heap[g]? = some (.cells cs t fr))
    (hu : P.underlying ty = some d) (hd : (match d with | .struct _ | .array _ _ => true | _ => false) = true) (hi : (P.info? ty).map (·.size) = some cs.size) :
    (results fn tmps).run P w = .ok (.agg cs) w := by
  have hp' : tmps[p]?.getD undef = .pointer (some ⟨g, 0, none⟩) := by simpa using hp
  simp [results, h, hp', asAddr, run_loadVar_row w g t ty cs fr d hg hu hd hi]
theorem tdiv2 {x : Int} (h : x % 2 = 0) : x.tdiv 2 = x / 2 := by
  obtain ⟨k, rfl⟩ : ∃ k, x = 2 * k := ⟨x / 2, by omega⟩
  rw [Int.mul_tdiv_cancel_left _ (by decide), Int.mul_ediv_cancel_left _ (by decide)]
set_option maxRecDepth 100000 in
set_option maxHeartbeats 2000000 in
theorem zLeast (re im : Int) (e : Nat) (hr : i64 re) (hi : i64 im) (he : e ≤ 120) (w : World) : Calls Tryd.prog 57 #[.int .i64 re, .int .i64 im, .int .i64 (e : Int)] w fun x w' => x = .returned (dV (lst e re im)) ∧ Below w.heap.size w w' := by
  have hA := At.new w 0 0 0
  go_enter Tryd.func57, Tryd.ntmps57
  go_wp2_with fail
  go_loopw [0, 1, 2] (fun va vb vc wr => ∃ (a b : Int) (n : Nat), va = .int .i64 a ∧ vb = .int .i64 b ∧ vc = .int .i64 (n : Int) ∧ i64 a ∧ i64 b ∧ n ≤ 120 ∧ Hid (lst n a b = lst e re im) ∧ wr = w.alloc (dO 0 0 0)) (fun _ _ vc _ => (RowKit.intOf vc).toNat)
  case atStart => exact ⟨re, im, e, rfl, rfl, rfl, hr, hi, he, hide rfl, rfl⟩
  case round =>
    clear hr hi he
    obtain ⟨a, b, n, rfl, rfl, rfl, ha, hb, hn, HL, rfl⟩ := hrel
    have ta := tmod2 a
    have tb := tmod2 b
    cases n with
    | zero =>
      clear ta tb ha hb hn
      go_wp2_with (refine wpList_store_row rfl _ _ _ rfl w.heap.size _ rfl rfl _ _ hA (by exact infoD) (by rfl) (allD _ _ _) ?_)
      refine bodyPost_ret (results_c rfl _ _ w.heap.size _ _ _ _ rfl (setRow_heap _ _ _ _ _ _ hA) Tryd.underlying23 rfl (by exact infoD)) rfl ?_
      exact ⟨by rw [← HL.out]; rfl, below_setRow (below_new _ _) (Nat.le_refl _) _⟩
    | succ n =>
      have hpos : 0 < ((n + 1 : Nat) : Int) := by omega
      by_cases h1 : a % 2 = 0
      · have h1z : a.tmod 2 = 0 := ta.2 h1
        have h1d := tdiv2 h1
        by_cases h2 : b % 2 = 0
        · have h2z : b.tmod 2 = 0 := tb.2 h2
          have h2d := tdiv2 h2
          have HL2 : Hid (lst n (a / 2) (b / 2) = lst e re im) := hide (by rw [← HL.out, lst, if_pos ⟨h1, h2⟩])
          have k1 : i64 (a / 2) := ⟨by omega, by omega⟩
          have k2 : i64 (b / 2) := ⟨by omega, by omega⟩
          have w1 : IntKind.i64.wrap (a / 2) = a / 2 := by rw [wrapI]; omega
          have w2 : IntKind.i64.wrap (b / 2) = b / 2 := by rw [wrapI]; omega
          have w3 : ((n + 1 : Nat) : Int) - 1 = (n : Int) := by omega
          clear h1 h2 ta tb HL ha hb
          go_wp2_with fail
          exact ⟨⟨a / 2, b / 2, n, rfl, rfl, by simp, k1, k2, by omega, HL2, trivial⟩, by simp [RowKit.intOf]⟩
        · have h2z : (b.tmod 2 == 0) = false := by rw [beq_eq_false_iff_ne]; exact fun h => h2 (tb.1 h)
          have HL : Hid (⟨a, b, ((n + 1 : Nat) : Int)⟩ = lst e re im) := hide (by rw [← HL.out, lst, if_neg (fun h => h2 h.2)])
          clear h1 h2 ta tb ha hb
          go_wp2_with (refine wpList_store_row rfl _ _ _ rfl w.heap.size _ rfl rfl _ _ hA (by exact infoD) (by rfl) (allD _ _ _) ?_)
          refine bodyPost_ret (results_c rfl _ _ w.heap.size _ _ _ _ rfl (setRow_heap _ _ _ _ _ _ hA) Tryd.underlying23 rfl (by exact infoD)) rfl ?_
          exact ⟨by rw [← HL.out]; rfl, below_setRow (below_new _ _) (Nat.le_refl _) _⟩
      · have h1z : (a.tmod 2 == 0) = false := by rw [beq_eq_false_iff_ne]; exact fun h => h1 (ta.1 h)
        have HL : Hid (⟨a, b, ((n + 1 : Nat) : Int)⟩ = lst e re im) := hide (by rw [← HL.out, lst, if_neg (fun h => h1 h.1)])
        clear h1 ta tb ha hb
        go_wp2_with (refine wpList_store_row rfl _ _ _ rfl w.heap.size _ rfl rfl _ _ hA (by exact infoD) (by rfl) (allD _ _ _) ?_)
        refine bodyPost_ret (results_c rfl _ _ w.heap.size _ _ _ _ rfl (setRow_heap _ _ _ _ _ _ hA) Tryd.underlying23 rfl (by exact infoD)) rfl ?_
        exact ⟨by rw [← HL.out]; rfl, below_setRow (below_new _ _) (Nat.le_refl _) _⟩
theorem lst_rt (n : Nat) (a b : Int) : decide (Rt (lst n a b)) = decide (inR (lst n a b)) := decide_eq_decide.2 ⟨fun h => h.1, fun h => lst_right n a b h⟩
theorem lst_i64 {n : Nat} {a b : Int} (ha : i64 a) (hb : i64 b) (hn : n ≤ 120) : d64 (lst n a b) := by
  obtain ⟨h, h1, h2, h3, h4, _⟩ := lst_val n a b
  have hp := pow_pos' h
  have key : ∀ x y : Int, i64 x → x = y * 2 ^ h → i64 y := fun x y hx hxy => by
    have : y = x / 2 ^ h := by rw [hxy, Int.mul_ediv_cancel _ (Int.ne_of_gt hp)]
    rw [this]
    exact i64_div hx h
  exact ⟨key a _ ha h3, key b _ hb h4, by rw [h2]; constructor <;> omega⟩
set_option maxRecDepth 100000 in
set_option maxHeartbeats 2000000 in
theorem zMade (re im : Int) (e : Nat) (hr : i64 re) (hi : i64 im) (he : e ≤ 120) (w : World) : Calls Tryd.prog 34 #[.int .i64 re, .int .i64 im, .int .i64 (e : Int)] w fun x w' => x = .returned (aV (ans (mkP e re im))) ∧ Below w.heap.size w w' := by
  have cL := fun w => zLeast re im e hr hi he w
  have cR := fun w => zRight (lst e re im) w
  have hA := At.new w 0 0 0
  rw [lst_rt] at cR
  unfold mkP
  generalize hB : decide (inR (lst e re im)) = B at cR
  have hv : ans (if inR (lst e re im) then some (lst e re im) else none) = if B = true then (lst e re im, 0) else (o0, 50) := by
    cases B with
    | true => rw [if_pos (of_decide_eq_true hB)]; rfl
    | false => rw [if_neg (of_decide_eq_false hB)]; rfl
  rw [hv]
  clear hv hB hr hi he
  generalize lst e re im = l at *
  obtain ⟨l1, l2, l3⟩ := l
  unfold aV dV at *
  dsimp only at *
  go_enter Tryd.func34, Tryd.ntmps34
  go_wp2_with fail
  refine (cL _).mono ?_
  rintro e w1 ⟨rfl, hb1⟩
  have hbw1 : Below w.heap.size w w1 := (below_new _ _).trans (hb1.mono (by simp))
  have hA1 := (hA.below hb1).below (below_new w1 (dO l1 l2 l3))
  have hbw2 := hbw1.trans ((below_new w1 (dO l1 l2 l3)).mono hbw1.size)
  have hD := At.new w1 l1 l2 l3
  obtain ⟨f0, f1, f2⟩ := hD.cells
  clear hb1 cL hA hbw1
  go_wp2_with fail
  refine (cR _).mono ?_
  rintro e w3 ⟨rfl, hb3⟩
  have hbw3 := hbw2.trans (hb3.mono hbw2.size)
  have hA3 := hA1.below hb3
  clear f0 f1 f2
  obtain ⟨f0, f1, f2⟩ := (hD.below hb3).cells
  clear hb3 cR hA1 hbw2 hD
  cases B
  · go_wp2_with (refine wpList_store_row rfl _ _ _ rfl w.heap.size _ rfl rfl _ _ hA3 (by exact infoD) (by rfl) (allD _ _ _) ?_)
    refine bodyPost_ret (results_ct rfl _ _ w.heap.size _ _ _ _ rfl (setRow_heap _ _ _ _ _ _ hA3) Tryd.underlying23 rfl (by exact infoD)) rfl ?_
    exact ⟨rfl, below_setRow hbw3 (by omega) _⟩
  · go_wp2_with (refine wpList_store_row rfl _ _ _ rfl w.heap.size _ rfl rfl _ _ hA3 (by exact infoD) (by rfl) (allD _ _ _) ?_)
    refine bodyPost_ret (results_ct rfl _ _ w.heap.size _ _ _ _ rfl (setRow_heap _ _ _ _ _ _ hA3) Tryd.underlying23 rfl (by exact infoD)) rfl ?_
    exact ⟨rfl, below_setRow hbw3 (by omega) _⟩
set_option maxRecDepth 100000 in
set_option maxHeartbeats 2000000 in
theorem zMake (re im ex : Int) (hr : i64 re) (hi : i64 im) (w : World) : Calls Tryd.prog 9 #[.int .i64 re, .int .i64 im, .int .i64 ex] w fun x w' => x = .returned (aV (makeR re im ex)) ∧ Below w.heap.size w w' := by
  unfold makeR
  have hA := At.new w 0 0 0
  by_cases c1 : ex < 0
  · rw [if_neg (by omega)]
    have z1 : decide (ex < 0) = true := decide_eq_true c1
    go_enter Tryd.func9, Tryd.ntmps9
    go_wp2_with (refine wpList_store_row rfl _ _ _ rfl w.heap.size _ rfl rfl _ _ hA (by exact infoD) (by rfl) (allD _ _ _) ?_)
    refine bodyPost_ret (results_ct rfl _ _ w.heap.size _ _ _ _ rfl (setRow_heap _ _ _ _ _ _ hA) Tryd.underlying23 rfl (by exact infoD)) rfl ?_
    exact ⟨rfl, below_setRow (below_new _ _) (by omega) _⟩
  · by_cases c2 : 60 < ex
    · rw [if_neg (by omega)]
      have z1 : decide (ex < 0) = false := decide_eq_false c1
      have z2 : decide (60 < ex) = true := decide_eq_true c2
      clear c1
      go_enter Tryd.func9, Tryd.ntmps9
      go_wp2_with (refine wpList_store_row rfl _ _ _ rfl w.heap.size _ rfl rfl _ _ hA (by exact infoD) (by rfl) (allD _ _ _) ?_)
      refine bodyPost_ret (results_ct rfl _ _ w.heap.size _ _ _ _ rfl (setRow_heap _ _ _ _ _ _ hA) Tryd.underlying23 rfl (by exact infoD)) rfl ?_
      exact ⟨rfl, below_setRow (below_new _ _) (by omega) _⟩
    · rw [if_pos (by omega)]
      obtain ⟨e, rfl⟩ : ∃ e : Nat, ex = e := ⟨ex.toNat, by omega⟩
      have z1 : decide ((e : Int) < 0) = false := decide_eq_false c1
      have z2 : decide (60 < (e : Int)) = false := decide_eq_false c2
      have cH := fun w => zMade re im e hr hi (by omega) w
      rw [Int.toNat_natCast]
      generalize ans (mkP e re im) = r at *
      obtain ⟨⟨r1, r2, r3⟩, r4⟩ := r
      unfold aV dV at *
      dsimp only at *
      clear c1 c2 hr hi
      go_enter Tryd.func9, Tryd.ntmps9
      go_wp2_with fail
      refine (cH _).mono ?_
      rintro e w2 ⟨rfl, hb2⟩
      have hbw2 : Below w.heap.size w w2 := (below_new _ _).trans (hb2.mono (by simp))
      have hA2 := hA.below hb2
      clear hb2 hA cH
      go_wp2_with (refine wpList_store_row rfl _ _ _ rfl w.heap.size _ rfl rfl _ _ hA2 (by exact infoD) (by rfl) (allD _ _ _) ?_)
      refine bodyPost_ret (results_ct rfl _ _ w.heap.size _ _ _ _ rfl (setRow_heap _ _ _ _ _ _ hA2) Tryd.underlying23 rfl (by exact infoD)) rfl ?_
      exact ⟨rfl, below_setRow hbw2 (by omega) _⟩
end Go.Proofs.YthpkmbgollollaaDoor.Dy
