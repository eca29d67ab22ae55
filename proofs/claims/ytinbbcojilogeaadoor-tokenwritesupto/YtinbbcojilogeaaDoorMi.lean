/- The document's one, as it is walked: a number, a mark. -/
import Derived.Test.YtinbbcojilogeaaDoorMh
import Derived.Deep.DeepBigQuietO
namespace Go.Proofs.YtinbbcojilogeaaDoor.Tok
open Go.RowKit Go.Shelf Go.Proofs.YtinbbcojilogeaaDoor.Oct

theorem oneV_form (C : Cut) (i : Nat) (x : Int) : ∃ (k v a er : Int) (t : ByteArray), oneV C i x = .tuple #[.agg #[.int .i64 k, .string t, .int .i64 v, .int .i64 0, .int .i64 0, .int .i64 0], .int .i64 a, .int .i64 er] := by
  cases C with
  | tok k t v n => exact ⟨_, _, _, _, _, rfl⟩
  | bad e => exact ⟨_, _, _, _, _, rfl⟩
set_option maxRecDepth 100000 in
set_option maxHeartbeats 2000000 in
theorem one_num (C : Cut) (s : ByteArray) (L i : Nat) (b : UInt8) (w : World) (hsz : s.size = L) (hi : i < L) (hb : By s i b) (hbl : isL b = false) (hbd : isD b = true)
    (cN : ∀ w, Calls Tryd.prog 46 #[.string s, .int .i64 (i : Int)] w fun e w' => (∃ x, e = .returned (oneV C i x)) ∧ Below w.heap.size w w') :
    Calls Tryd.prog 32 #[.string s, .int .i64 (i : Int)] w fun e w' => (∃ x, e = .returned (oneV C i x)) ∧ Below w.heap.size w w' := by
  have hb0 := hb (by omega)
  have h' : ¬ (L : Int) ≤ (i : Int) := by omega
  have cb := fun w => dLetter b w
  have cd := fun w => dDigit b w
  rw [hbl] at cb
  rw [hbd] at cd
  clear hb hbl hbd
  go_enter Tryd.func32, Tryd.ntmps32
  go_wp2_with (first | (go_at_call 26; refine (cb _).mono ?_; rintro e w1 ⟨rfl, hw⟩; obtain rfl := hw.symm) | (go_at_call 27; refine (cd _).mono ?_; rintro e w1 ⟨rfl, hw⟩; obtain rfl := hw.symm))
  refine (cN _).mono ?_
  rintro e w1 ⟨⟨x, rfl⟩, hb1⟩
  have hg1 := (hb1.block w.heap.size (by simp)).trans (heap_alloc_new _ _)
  obtain ⟨k, v, a, er, t, ho⟩ := oneV_form C i x
  have Ho := hide ho
  rw [ho]
  clear ho cN
  go_wp2_with (refine wpList_store_row rfl _ _ _ rfl w.heap.size _ rfl rfl _ _ hg1 (by exact infoTok) (by rfl) (allTok _ _ _ _ _ _) ?_)
  refine bodyPost_ret (results_ctt rfl _ _ w.heap.size _ _ _ _ rfl (setRow_heap _ _ _ _ _ _ hg1) Tryd.underlying37 rfl (by exact infoTok)) rfl ?_
  refine ⟨⟨x, ?_⟩, below_setRow ((below_new _ _).trans (hb1.mono (by simp))) (Nat.le_refl _) _⟩
  rw [Ho.out]
  rfl
def dmarks : List (List UInt8) := [[45, 62], [61, 61], [59], [44], [40], [41], [91], [93], [123], [125]]
def dmO : Obj := .cells #[.string ⟨#[45, 62]⟩, .string ⟨#[61, 61]⟩, .string ⟨#[59]⟩, .string ⟨#[44]⟩, .string ⟨#[40]⟩, .string ⟨#[41]⟩, .string ⟨#[91]⟩, .string ⟨#[93]⟩, .string ⟨#[123]⟩, .string ⟨#[125]⟩] 9
theorem dMarks (w : World) : Calls Tryd.prog 47 #[] w fun e w' => e = .returned (.slice (some ⟨w.heap.size, 0, none⟩) 10 10) ∧ w' = w.alloc dmO := by
  go_enter Tryd.func47, Tryd.ntmps47
  go_wp2_with fail
  go_ret
  exact ⟨rfl, rfl⟩
theorem dm_cell (w : World) (n : Nat) (mb : List UInt8) (h : dmarks[n]? = some mb) : (w.alloc dmO).cell? ⟨w.heap.size, n, none⟩ = some (.string ⟨mb.toArray⟩) := by
  have hn : n < 10 := (List.getElem?_eq_some_iff.1 h).1
  have h0 : (w.alloc dmO).heap[w.heap.size]? = some dmO := heap_alloc_new _ _
  unfold dmO at h0
  rw [show (w.alloc dmO).cell? ⟨w.heap.size, n, none⟩ = _ from cell_of_row _ _ n _ _ _ h0]
  have : n = 0 ∨ n = 1 ∨ n = 2 ∨ n = 3 ∨ n = 4 ∨ n = 5 ∨ n = 6 ∨ n = 7 ∨ n = 8 ∨ n = 9 := by omega
  rcases this with rfl | rfl | rfl | rfl | rfl | rfl | rfl | rfl | rfl | rfl <;> (cases h; rfl)
theorem below_drewN {B : Nat} {a w : World} (h : Below B a w) (n : Nat) : Below B a (w.drewN n) := ⟨h.os, h.tape, h.output, h.size, h.block⟩
theorem pre_ext (l mb : List UInt8) (i : Nat) : (((⟨l.toArray⟩ : ByteArray).extract i (i + mb.length)).toList == (⟨mb.toArray⟩ : ByteArray).toList) = mb.isPrefixOf (l.drop i) := by
  rw [ext_list, List.drop_take, Nat.add_sub_cancel_left, ByteArray.toList_eq, ByteArray.toList_eq]
  show ((l.drop i).take mb.length == mb) = _
  rw [Bool.eq_iff_iff, beq_iff_eq, List.isPrefixOf_iff_prefix, List.prefix_iff_eq_take]
  exact eq_comm
theorem pre_short (l mb : List UInt8) (i : Nat) (h : ¬ mb.length ≤ l.length - i) : mb.isPrefixOf (l.drop i) = false := by
  rw [Bool.eq_false_iff]
  intro hp
  have := (List.isPrefixOf_iff_prefix.1 hp).length_le
  rw [List.length_drop] at this
  exact h this
theorem set_six (w : World) (g : Nat) (a b c d e f a' b' c' d' e' f' : Value) (t : TypeId) (fr : Nat × Nat) (h : w.heap[g]? = some (.cells #[a, b, c, d, e, f] t fr)) :
    (((((w.setCell ⟨g, 0, none⟩ a').setCell ⟨g, 1, none⟩ b').setCell ⟨g, 2, none⟩ c').setCell ⟨g, 3, none⟩ d').setCell ⟨g, 4, none⟩ e').setCell ⟨g, 5, none⟩ f' = w.setRow g #[a', b', c', d', e', f'] := by
  rw [setCell_eq_setRow w g 0 _ t fr _ h, setCell_eq_setRow _ g 1 _ t fr _ (setRow_heap w g _ _ t fr h), setRow_setRow,
    setCell_eq_setRow _ g 2 _ t fr _ (setRow_heap w g _ _ t fr h), setRow_setRow, setCell_eq_setRow _ g 3 _ t fr _ (setRow_heap w g _ _ t fr h), setRow_setRow,
    setCell_eq_setRow _ g 4 _ t fr _ (setRow_heap w g _ _ t fr h), setRow_setRow, setCell_eq_setRow _ g 5 _ t fr _ (setRow_heap w g _ _ t fr h), setRow_setRow]
  rfl
theorem dm_len : ∀ m ∈ dmarks, 1 ≤ m.length ∧ m.length ≤ 2 := by decide
set_option maxRecDepth 100000 in
set_option maxHeartbeats 2000000 in
theorem one_mark (C : Cut) (l : List UInt8) (s : ByteArray) (L i : Nat) (b : UInt8) (w : World) (hL : L ≤ 140737488355328) (hsl : (⟨l.toArray⟩ : ByteArray) = s) (hLL : l.length = L) (hi : i < L) (hb : By s i b) (hbl : isL b = false) (hbd : isD b = false) (h34 : ((b.toNat : Int) == 34) = false) (HC : Hid (C = cMarkF (l.drop i) dmarks)) :
    Calls Tryd.prog 32 #[.string s, .int .i64 (i : Int)] w fun e w' => (∃ x, e = .returned (oneV C i x)) ∧ Below w.heap.size w w' := by
  have hsz : s.size = L := by rw [← hsl, ← hLL]; exact size_str l
  have hb0 := hb (by rw [hsz]; exact hi)
  have mixed := mixed_ok
  have h' : ¬ (L : Int) ≤ (i : Int) := by omega
  have cb := fun w => dLetter b w
  have cd := fun w => dDigit b w
  rw [hbl] at cb
  rw [hbd] at cd
  have Hsl := hide hsl
  have HLL := hide hLL
  clear hb hbl hbd hsl hLL
  go_enter Tryd.func32, Tryd.ntmps32
  go_wp2_with (first | (go_at_call 26; refine (cb _).mono ?_; rintro e w1 ⟨rfl, hw⟩; obtain rfl := hw.symm) | (go_at_call 27; refine (cd _).mono ?_; rintro e w1 ⟨rfl, hw⟩; obtain rfl := hw.symm))
  refine (dMarks _).mono ?_
  rintro e w1 ⟨rfl, rfl⟩
  have hcel := fun n mb h => dm_cell (w.alloc (.cells #[.int .i64 0, .string ⟨#[]⟩, .int .i64 0, .int .i64 0, .int .i64 0, .int .i64 0] 37)) n mb h
  have hg1 : ((w.alloc (.cells #[.int .i64 0, .string ⟨#[]⟩, .int .i64 0, .int .i64 0, .int .i64 0, .int .i64 0] 37)).alloc dmO).heap[w.heap.size]? = some (.cells #[.int .i64 0, .string ⟨#[]⟩, .int .i64 0, .int .i64 0, .int .i64 0, .int .i64 0] 37) := heap_first _ _ _
  have hbl1 : Below w.heap.size w ((w.alloc (.cells #[.int .i64 0, .string ⟨#[]⟩, .int .i64 0, .int .i64 0, .int .i64 0, .int .i64 0] 37)).alloc dmO) := below_two _ _ _
  generalize (w.alloc (.cells #[.int .i64 0, .string ⟨#[]⟩, .int .i64 0, .int .i64 0, .int .i64 0, .int .i64 0] 37)).alloc dmO = w2 at *
  have Hcel := hide hcel
  clear hcel cb cd
  have hG1 : ¬ (w.alloc (.cells #[.int .i64 0, .string ⟨#[]⟩, .int .i64 0, .int .i64 0, .int .i64 0, .int .i64 0] 37)).heap.size = w.heap.size := by simp
  have hG2 : ¬ w.heap.size = (w.alloc (.cells #[.int .i64 0, .string ⟨#[]⟩, .int .i64 0, .int .i64 0, .int .i64 0, .int .i64 0] 37)).heap.size := by simp
  generalize (w.alloc (.cells #[.int .i64 0, .string ⟨#[]⟩, .int .i64 0, .int .i64 0, .int .i64 0, .int .i64 0] 37)).heap.size = G at *
  go_wp2_with fail
  go_loopw [10] (fun x wz => ∃ n : Nat, n ≤ 10 ∧ x = .int .i64 (n : Int) ∧ Hid (C = cMarkF (l.drop i) (dmarks.drop n)) ∧ Hid (∀ n mb, dmarks[n]? = some mb → wz.cell? ⟨G, n, none⟩ = some (.string ⟨mb.toArray⟩)) ∧ wz.heap[w.heap.size]? = some (.cells #[.int .i64 0, .string ⟨#[]⟩, .int .i64 0, .int .i64 0, .int .i64 0, .int .i64 0] 37) ∧ Below w.heap.size w wz) (fun x _ => 10 - (RowKit.intOf x).toNat)
  case atStart => exact ⟨0, by omega, rfl, HC, Hcel, hg1, hbl1⟩
  case round =>
    rcases hrel with ⟨n, hn, rfl, HCn, Hcl, hg, hbel⟩
    clear Hcel hg1 hbl1 HC
    by_cases hlt : n < 10
    · have hlt' : (n : Int) < 10 := by omega
      obtain ⟨mb, hmb⟩ : ∃ m, dmarks[n]? = some m := ⟨_, List.getElem?_eq_getElem hlt⟩
      have hc := Hcl.out n mb hmb
      obtain ⟨hm1, hm2⟩ := dm_len mb (List.mem_of_getElem? hmb)
      have hdr : dmarks.drop n = mb :: dmarks.drop (n + 1) := by
        rw [List.drop_eq_getElem_cons hlt]
        rw [List.getElem?_eq_getElem hlt] at hmb
        rw [Option.some.inj hmb]
      obtain ⟨sm, hsm⟩ : ∃ z, (⟨mb.toArray⟩ : ByteArray) = z := ⟨_, rfl⟩
      obtain ⟨ml, hml⟩ : ∃ z, mb.length = z := ⟨_, rfl⟩
      have hz : sm.size = ml := by rw [← hsm, ← hml]; exact size_str mb
      rw [hsm] at hc
      rw [hml] at hm1 hm2
      have Hsm := hide hsm
      have Hml := hide hml
      have Hdr := hide hdr
      clear hmb hdr hsm hml
      by_cases hsh : ml ≤ L - i
      · have hsh' : (ml : Int) ≤ (L : Int) - (i : Int) := by omega
        obtain ⟨sx, hx⟩ : ∃ z, s.extract i (i + ml) = z := ⟨_, rfl⟩
        have hpx : (sx.toList == sm.toList) = mb.isPrefixOf (l.drop i) := by
          rw [← hx, ← Hsm.out, ← Hsl.out, ← Hml.out]
          exact pre_ext l mb i
        cases heq : mb.isPrefixOf (l.drop i) with
        | true =>
          rw [heq] at hpx
          have HC2 : Hid (C = .tok 5 mb 0 ml) := hide (by rw [HCn.out, Hdr.out, cMarkF, if_pos heq, Hml.out])
          clear heq HCn
          go_wp2_with fail
          go_big_quiet_o (fail)
          go_wp2_with fail
          have hc3 : (wr.drewN nq).cell? ⟨G, n, none⟩ = some (.string sm) := hc
          have hg3 : (wr.drewN nq).heap[w.heap.size]? = some (.cells #[.int .i64 0, .string ⟨#[]⟩, .int .i64 0, .int .i64 0, .int .i64 0, .int .i64 0] 37) := hg
          have hb3 : Below w.heap.size w (wr.drewN nq) := (below_drewN hbel nq)
          generalize wr.drewN nq = w3 at *
          have z0 : w3.cell? ⟨w.heap.size, 0, none⟩ = some (.int .i64 0) := cell_of_row _ _ 0 _ _ _ hg3
          have z1 : w3.cell? ⟨w.heap.size, 1, none⟩ = some (.string ⟨#[]⟩) := cell_of_row _ _ 1 _ _ _ hg3
          have z2 : w3.cell? ⟨w.heap.size, 2, none⟩ = some (.int .i64 0) := cell_of_row _ _ 2 _ _ _ hg3
          have z3 : w3.cell? ⟨w.heap.size, 3, none⟩ = some (.int .i64 0) := cell_of_row _ _ 3 _ _ _ hg3
          have z4 : w3.cell? ⟨w.heap.size, 4, none⟩ = some (.int .i64 0) := cell_of_row _ _ 4 _ _ _ hg3
          have z5 : w3.cell? ⟨w.heap.size, 5, none⟩ = some (.int .i64 0) := cell_of_row _ _ 5 _ _ _ hg3
          have fz : ∀ j, w3.frozen? ⟨w.heap.size, j, none⟩ = false := fun j => by simp [World.frozen?, hg3]
          clear hpx
          go_region
          all_goals try go_wp2_with fail
          rw [set_six _ _ _ _ _ _ _ _ _ _ _ _ _ _ _ _ hg3]
          refine bodyPost_ret (results_ctt rfl _ _ w.heap.size _ _ _ _ rfl (setRow_heap _ _ _ _ _ _ hg3) Tryd.underlying37 rfl (by exact infoTok)) rfl ?_
          refine ⟨⟨0, ?_⟩, (below_setRow hb3 (Nat.le_refl _) _).drew⟩
          rw [HC2.out, oneV, tokV, Hsm.out]
          rfl
        | false =>
          rw [heq] at hpx
          have HC2 : Hid (C = cMarkF (l.drop i) (dmarks.drop (n + 1))) := hide (by rw [HCn.out, Hdr.out, cMarkF, if_neg (by rw [heq]; simp)])
          clear heq HCn
          go_wp2_with fail
          go_big_quiet_o (fail)
          go_wp2_with fail
          exact ⟨⟨n + 1, by omega, by go_num, HC2, Hcl, hg, (below_drewN hbel nq)⟩, by simp [RowKit.intOf]; omega⟩
      · have hsh' : ¬ (ml : Int) ≤ (L : Int) - (i : Int) := by omega
        have hsh2 : decide ((ml : Int) ≤ (L : Int) - (i : Int)) = false := decide_eq_false hsh'
        have heq := pre_short l mb i (by rw [Hml.out, HLL.out]; exact hsh)
        have HC2 : Hid (C = cMarkF (l.drop i) (dmarks.drop (n + 1))) := hide (by rw [HCn.out, Hdr.out, cMarkF, if_neg (by rw [heq]; simp)])
        clear heq HCn
        go_wp2_with fail
        go_big_quiet_o (fail)
        go_wp2_with fail
        exact ⟨⟨n + 1, by omega, by go_num, HC2, Hcl, hg, (below_drewN hbel nq)⟩, by simp [RowKit.intOf]; omega⟩
    · have hlt' : ¬ (n : Int) < 10 := by omega
      have HC2 : Hid (C = .bad 40) := hide (by rw [HCn.out, show dmarks.drop n = [] from List.drop_of_length_le (by show 10 ≤ n; omega)]; rfl)
      go_wp2_with (refine wpList_store_row rfl _ _ _ rfl w.heap.size _ rfl rfl _ _ hg (by exact infoTok) (by rfl) (allTok _ _ _ _ _ _) ?_)
      refine bodyPost_ret (results_ctt rfl _ _ w.heap.size _ _ _ _ rfl (setRow_heap _ _ _ _ _ _ hg) Tryd.underlying37 rfl (by exact infoTok)) rfl ?_
      rw [HC2.out]
      exact ⟨⟨_, rfl⟩, below_setRow hbel (Nat.le_refl _) _⟩
theorem marks_same (r : List UInt8) : cMarkF r dmarks = cMark r := by
  cases r with
  | nil => rfl
  | cons a t =>
    by_cases h1 : a = 45
    · subst h1
      simp [cMarkF, dmarks, marks, cMark, List.isPrefixOf]
    · by_cases h2 : a = 61
      · subst h2
        simp [cMarkF, dmarks, marks, cMark, List.isPrefixOf]
      · have h1' : ¬ 45 = a := fun e => h1 e.symm
        have h2' : ¬ 61 = a := fun e => h2 e.symm
        simp [cMarkF, dmarks, marks, cMark, List.isPrefixOf, h1', h2']
theorem alls_of (p : UInt8 → Bool) (l : List UInt8) (a n : Nat) (hn : n ≤ sp p (l.drop a)) : Alls p ⟨l.toArray⟩ a (a + n) := by
  intro j h1 h2
  have hlen := sp_le p (l.drop a)
  rw [List.length_drop] at hlen
  have hj : j < l.length := by omega
  refine ⟨l[j], by_str l j _ (List.getElem?_eq_getElem hj), ?_⟩
  have h := sp_getD p (l.drop a) (j - a) (by omega)
  rw [List.getD_eq_getElem?_getD, List.getElem?_drop, show a + (j - a) = j by omega, List.getElem?_eq_getElem hj] at h
  exact h
/-- The document's one. -/
theorem dOne (l : List UInt8) (i : Nat) (hl : l.length ≤ 140737488355328) (w : World) :
    Calls Tryd.prog 32 #[str l, .int .i64 (i : Int)] w fun e w' => (∃ x, e = .returned (oneV (cut (l.drop i)) i x)) ∧ Below w.heap.size w w' := by
  unfold str
  by_cases h : l.length ≤ i
  · rw [List.drop_of_length_le h]
    exact one_end _ l.length i w (size_str l) h
  · have hlt : i < l.length := by omega
    obtain ⟨b, hb⟩ : ∃ b, l[i]? = some b := ⟨_, List.getElem?_eq_getElem hlt⟩
    have hdr : l.drop i = b :: l.drop (i + 1) := by
      rw [List.drop_eq_getElem_cons hlt]
      rw [List.getElem?_eq_getElem hlt] at hb
      rw [Option.some.inj hb]
    have hcut : cut (l.drop i) = if isL b then cName (l.drop i) else if isD b then cNum (l.drop i) else if b = 34 then cQuo (l.drop i) else cMark (l.drop i) := by rw [hdr]; rfl
    cases hL : isL b with
    | true =>
      rw [hcut, if_pos hL]
      obtain ⟨n, hn⟩ : ∃ n, sp inW (l.drop i) = n := ⟨_, rfl⟩
      have hn1 : 1 ≤ n := by rw [← hn, hdr, sp_cons_true _ (by simp [inW, hL])]; omega
      have hnl : i + n ≤ l.length := by
        have := sp_le inW (l.drop i)
        rw [List.length_drop, hn] at this
        omega
      have hx : (⟨l.toArray⟩ : ByteArray).extract i (i + n) = ⟨((l.drop i).take n).toArray⟩ := by rw [ext_list, List.drop_take, Nat.add_sub_cancel_left]
      exact one_name _ _ l.length i (i + n) b w hl (size_str l) (by omega) hnl (by_str l i b hb) hL (hide (alls_of inW l i n (by omega))) (hide (stop_of inW l i n (by omega) hn)) hx _ rfl _ (hide (by unfold cName; rw [hn, Nat.add_sub_cancel_left]))
    | false =>
      rw [hcut, if_neg (by rw [hL]; simp)]
      cases hD : isD b with
      | true =>
        rw [if_pos rfl]
        exact one_num _ _ l.length i b w (size_str l) hlt (by_str l i b hb) hL hD (fun w => dNumber l i b hb hD hl w)
      | false =>
        rw [if_neg (by simp)]
        by_cases h34 : b = 34
        · rw [if_pos h34]
          obtain ⟨n, hn⟩ : ∃ n, sp inQ (l.drop (i + 1)) = n := ⟨_, rfl⟩
          have hd1 : (l.drop i).drop 1 = l.drop (i + 1) := List.drop_drop ..
          have hdn : (l.drop (i + 1)).drop n = l.drop (i + 1 + n) := List.drop_drop ..
          have hnl : i + 1 + n ≤ l.length := by
            have := sp_le inQ (l.drop (i + 1))
            rw [List.length_drop, hn] at this
            omega
          have hx : (⟨l.toArray⟩ : ByteArray).extract (i + 1) (i + 1 + n) = ⟨((l.drop (i + 1)).take n).toArray⟩ := by rw [ext_list, List.drop_take, Nat.add_sub_cancel_left]
          refine one_quo _ ((l.drop (i + 1)).take n) _ _ l.length i (i + 1 + n) b w hl (size_str l) (by omega) hnl (by_str l i b hb) hL hD (by rw [h34]; rfl) (hide (alls_of inQ l (i + 1) n (by omega))) (hide ?_) hx rfl
          unfold cQuo
          rw [hd1, hn, hdn]
          by_cases hE : i + 1 + n = l.length
          · refine .inl ⟨hE, ?_⟩
            rw [show l.drop (i + 1 + n) = [] from List.drop_of_length_le (by omega)]
            rfl
          · have hE' : i + 1 + n < l.length := by omega
            have hq : l.drop (i + 1 + n) = l[i + 1 + n] :: l.drop (i + 1 + n + 1) := List.drop_eq_getElem_cons hE'
            have hstop := sp_stop inQ (l.drop (i + 1)) l[i + 1 + n] (l.drop (i + 1 + n + 1)) (by rw [hn, hdn, hq])
            have hby := by_str l (i + 1 + n) _ (List.getElem?_eq_getElem hE')
            rw [hq, cQuoT]
            generalize l[i + 1 + n] = a at *
            by_cases ha : a = 34
            · subst ha
              exact .inr (.inr ⟨hE', hby, by rw [if_pos rfl, show i + 1 + n - i + 1 = n + 2 by omega]⟩)
            · have ha10 : a = 10 := by
                have h34n : a.toNat ≠ 34 := fun e => ha (UInt8.toNat_inj.1 e)
                have : a.toNat = 10 := by simpa [inQ, h34n] using hstop
                exact UInt8.toNat_inj.1 this
              subst ha10
              exact .inr (.inl ⟨hE', hby, if_neg ha⟩)
        · rw [if_neg h34]
          exact one_mark _ l _ l.length i b w hl rfl rfl hlt (by_str l i b hb) hL hD (by rw [beq_eq_false_iff_ne]; intro e; exact h34 (UInt8.toNat_inj.1 (by show b.toNat = 34; omega))) (hide (marks_same _).symm)
end Go.Proofs.YtinbbcojilogeaaDoor.Tok
