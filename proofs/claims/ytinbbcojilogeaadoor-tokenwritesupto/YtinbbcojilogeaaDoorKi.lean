/- Package token: Scan, as it is walked. -/
import Derived.Test.YtinbbcojilogeaaDoorKh
namespace Go.Proofs.YtinbbcojilogeaaDoor.Tok
open Go.RowKit Go.Shelf Go.Proofs.YtinbbcojilogeaaDoor.Oct

/-- What Scan answers. -/
def ScanPost (l : List UInt8) (w : World) (e : Ending) (w' : World) : Prop := match scanAll l with
  | .ok ts => ∃ ao c, e = .returned (.tuple #[.slice ao ts.length c, .agg #[.int .i64 0, .int .i64 0, .int .i64 0, .int .i64 0]]) ∧ w'.ownsRow w.heap.size 37 6 (.slice ao ts.length c) ts.length (tvs ts) ∧ Below w.heap.size w w'
  | .bad f => e = .returned (.tuple #[.slice none 0 0, .agg #[.int .i64 (f.code : Int), .int .i64 (f.off : Int), .int .i64 (f.line : Int), .int .i64 (f.col : Int)]]) ∧ Below w.heap.size w w'
theorem results_tc {P : Program} {fn : Func} {p u : Tmp} {ty : TypeId} (h : fn.results = #[.tmp u, .cell p ty]) (tmps : Array Value) (w : World) (g : Nat) (t : TypeId) (cs : Array Value) (fr : Nat × Nat) (d : TypeDesc)
    (hp : tmps.getD p undef = .pointer (some ⟨g, 0, none⟩)) (hg : w.heap[g]? = some (.cells cs t fr))
    (hu : P.underlying ty = some d) (hd : (match d with | .struct _ | .array _ _ => true | _ => false) = true) (hi : (P.info? ty).map (·.size) = some cs.size) :
    (results fn tmps).run P w = .ok (.tuple #[tmps.getD u undef, .agg cs]) w := by
  have hp' : tmps[p]?.getD undef = .pointer (some ⟨g, 0, none⟩) := by simpa using hp
  simp [results, h, hp', asAddr, run_loadVar_row w g t ty cs fr d hg hu hd hi]
/-- How far Scan has come. -/
def offAt (w : World) (A : Nat) : Nat := match w.cell? ⟨A, 0, none⟩ with
  | some (.int _ z) => z.toNat
  | _ => 0
theorem offAt_eq {w wr : World} {bs bf ba : Nat} {s : ByteArray} {off line col : Nat} {ao : Option Addr} {c : Nat} {ts : List T} (h : Sn w bs bf ba s off line col ao c ts wr) : offAt wr ba = off := by
  unfold offAt
  rw [cell_of_row wr ba 0 _ _ _ h.ca]
  rfl
theorem eMove : ∀ args w, (callFunc 28 args).run Tryd.prog w = .ok (.enter 28 args) w := enters_of Tryd.func28 (by kernel_rfl) rfl
theorem set_four (w : World) (g : Nat) (a b c d a' b' c' d' : Value) (t : TypeId) (fr : Nat × Nat) (h : w.heap[g]? = some (.cells #[a, b, c, d] t fr)) :
    (((w.setCell ⟨g, 0, none⟩ a').setCell ⟨g, 1, none⟩ b').setCell ⟨g, 2, none⟩ c').setCell ⟨g, 3, none⟩ d' = w.setRow g #[a', b', c', d'] := by
  rw [setCell_eq_setRow w g 0 _ t fr _ h, setCell_eq_setRow _ g 1 _ t fr _ (setRow_heap w g _ _ t fr h), setRow_setRow,
    setCell_eq_setRow _ g 2 _ t fr _ (setRow_heap w g _ _ t fr h), setRow_setRow, setCell_eq_setRow _ g 3 _ t fr _ (setRow_heap w g _ _ t fr h), setRow_setRow]
  rfl
theorem scan_bad (f : Nat) (l : List UInt8) (off : Nat) (p : Nat × Nat) (e : Nat) (h : cut (l.drop (gp false l)) = .bad e) :
    scan (f + 1) l off p = .bad ⟨e, off + gp false l, (adv 0 (gp false l) l p).1, (adv 0 (gp false l) l p).2⟩ := by
  rw [scan, h]
theorem scan_tok (f : Nat) (l : List UInt8) (off : Nat) (p : Nat × Nat) (k v n : Nat) (t : List UInt8) (h : cut (l.drop (gp false l)) = .tok k t v n) :
    scan (f + 1) l off p = if k = 0 then .ok [⟨k, t, v, off + gp false l, (adv 0 (gp false l) l p).1, (adv 0 (gp false l) l p).2⟩]
      else Sc.pre [⟨k, t, v, off + gp false l, (adv 0 (gp false l) l p).1, (adv 0 (gp false l) l p).2⟩]
        (scan f ((l.drop (gp false l)).drop n) (off + gp false l + n) (adv 0 n (l.drop (gp false l)) (adv 0 (gp false l) l p))) := by
  rw [scan, h]
theorem cMarkF_ne (l : List UInt8) : ∀ ms, cMarkF l ms ≠ .bad 0
  | [] => by simp [cMarkF]
  | m :: r => by
    unfold cMarkF
    split
    · simp
    · exact cMarkF_ne l r
theorem cut_bad_ne (l : List UInt8) : cut l ≠ .bad 0 := by
  cases l with
  | nil => simp [cut]
  | cons b r =>
    rw [show cut (b :: r) = if isL b then cName (b :: r) else if isD b then cNum (b :: r) else if b = 34 then cQuo (b :: r) else cMark (b :: r) from rfl]
    repeat' split
    · unfold cName; split <;> simp
    · unfold cNum; repeat' split
      all_goals simp
    · unfold cQuo
      generalize (List.drop (sp inQ (List.drop 1 (b :: r))) (List.drop 1 (b :: r))) = x
      cases x with
      | nil => simp [cQuoT]
      | cons a t => rw [cQuoT]; by_cases h : a = 34 <;> simp [h]
    · exact cMarkF_ne _ _
theorem cMarkF_len (l : List UInt8) : ∀ (ms : List (List UInt8)), (∀ m ∈ ms, 1 ≤ m.length) → ∀ k t v n, cMarkF l ms = .tok k t v n → n ≤ l.length ∧ 1 ≤ n
  | [], _, k, t, v, n, h => by simp [cMarkF] at h
  | m :: r, hm, k, t, v, n, h => by
    unfold cMarkF at h
    split at h
    · rename_i hp
      cases h
      have := (List.isPrefixOf_iff_prefix.1 hp).length_le
      exact ⟨this, hm m (by simp)⟩
    · exact cMarkF_len l r (fun x hx => hm x (by simp [hx])) k t v n h
/-- How long a token is. -/
theorem cut_len (l : List UInt8) (k : Nat) (t : List UInt8) (v n : Nat) (h : cut l = .tok k t v n) : n ≤ l.length ∧ (k ≠ 0 → 1 ≤ n) := by
  cases l with
  | nil => cases h; exact ⟨Nat.le_refl _, fun h => absurd rfl h⟩
  | cons b r =>
    rw [show cut (b :: r) = if isL b then cName (b :: r) else if isD b then cNum (b :: r) else if b = 34 then cQuo (b :: r) else cMark (b :: r) from rfl] at h
    split at h
    · rename_i hL
      unfold cName at h
      split at h
      · cases h
      · cases h
        refine ⟨sp_le _ _, fun _ => ?_⟩
        rw [sp_cons_true r (by simp [inW, hL])]
        omega
    · split at h
      · rename_i hD
        have h1 : 1 ≤ sp isD (b :: r) := by rw [sp_cons_true r hD]; omega
        have h2 := sp_le isD (b :: r)
        have h3 := frac_le ((b :: r).drop (sp isD (b :: r)))
        rw [List.length_drop] at h3
        unfold cNum at h
        split at h
        · cases h
        · split at h
          · cases h; exact ⟨by omega, fun _ => by omega⟩
          · split at h
            · cases h
            · cases h; exact ⟨by omega, fun _ => by omega⟩
      · split at h
        · unfold cQuo at h
          rw [List.drop_succ_cons, List.drop_zero] at h
          cases hx : r.drop (sp inQ r) with
          | nil => rw [hx] at h; cases h
          | cons a t =>
            rw [hx, cQuoT] at h
            split at h
            · cases h
              have := congrArg List.length hx
              rw [List.length_drop] at this
              simp at this ⊢
              omega
            · cases h
        · obtain ⟨h1, h2⟩ := cMarkF_len _ marks (by decide) _ _ _ _ h
          exact ⟨h1, fun _ => h2⟩
set_option maxRecDepth 1000000 in
set_option maxHeartbeats 4000000 in
theorem nScan (l : List UInt8) (hl : l.length ≤ 1099511627776) (w : World) (hT : Tw w) : Calls Tryd.prog 14 #[str l] w (ScanPost l w) := by
  have cA := fun w => nAt l 0 (by omega) (by omega) (by omega) w
  rw [show atOff l.length 0 = 0 by unfold atOff; omega] at cA
  have hq : spotAt l 0 = (1, 1) := by unfold spotAt; rw [adv_zero]
  rw [hq] at cA
  have hsz := size_str l
  unfold spotV at cA
  unfold str at cA ⊢
  obtain ⟨s, hs⟩ : ∃ s, (⟨l.toArray⟩ : ByteArray) = s := ⟨_, rfl⟩
  rw [hs] at cA hsz ⊢
  go_enter Tryd.func14, Tryd.ntmps14
  go_wp2_with fail
  refine (cA _).mono ?_
  rintro e w1 ⟨rfl, hb1⟩
  go_wp2_with fail
  have hbw : Below w.heap.size w w1 := ((Below.refl _ _).alloc (Nat.le_refl _) _ |>.alloc (by simp) _).trans (hb1.mono (by simp; omega))
  have hs1 : w.heap.size + 2 ≤ w1.heap.size := by have := hb1.size; simp at this; omega
  have S0 : Sn w w.heap.size (w.heap.size + 1) w1.heap.size s 0 1 1 none 0 [] (w1.alloc (.cells #[.int .i64 0, .int .i64 1, .int .i64 1] 23)) := by
    refine ⟨?_, ?_, heap_alloc_new _ _, World.ownsRow_nil _ _ _ _, hbw.alloc (by omega) _⟩
    · exact (Below.heap_alloc _ _ _ (by omega)).trans ((hb1.block _ (by simp; omega)).trans ((Below.heap_alloc _ _ _ (by simp)).trans (heap_alloc_new _ _)))
    · refine (Below.heap_alloc _ _ _ (by omega)).trans ((hb1.block _ (by simp)).trans ?_)
      exact heap_alloc2_new w _ _
  generalize (w1.alloc (.cells #[.int .i64 0, .int .i64 1, .int .i64 1] 23)) = W0 at *
  clear hb1 hbw cA
  generalize w1.heap.size = A at *
  go_loopw [4] (fun v wr => ∃ (off line col : Nat) (ao : Option Addr) (c : Nat) (ts : List T), v = .slice ao ts.length c ∧ Sn w w.heap.size (w.heap.size + 1) A s off line col ao c ts wr ∧ off ≤ l.length ∧ line ≤ off + 1 ∧ col ≤ off + 1 ∧ ts.length ≤ off ∧
      ∃ f, l.length - off < f ∧ Hid (scanAll l = Sc.pre ts (scan f (l.drop off) off (line, col)))) (fun _ wr => l.length - offAt wr A)
  case atStart => exact ⟨0, 1, 1, none, 0, [], rfl, S0, Nat.zero_le _, by omega, by omega, Nat.le_refl _, l.length + 1, by omega, hide (by rw [Sc.pre_nil]; rfl)⟩
  case round =>
    clear S0
    obtain ⟨off, line, col, ao, c, ts, rfl, hS, hoff, hln, hcl, htl, f, hf, Hinv⟩ := hrel
    obtain ⟨f, rfl⟩ : ∃ f', f = f' + 1 := ⟨f - 1, by omega⟩
    have c1 := fun w => nGap (l.drop off) (by rw [List.length_drop]; omega) w
    have hg := gp_le false (l.drop off)
    rw [List.length_drop] at hg
    have hx1 := ext_drop l off
    rw [hs] at hx1
    have hcs : wr.cell? ⟨w.heap.size, 0, none⟩ = some (.string s) := cell_of_row _ _ 0 _ _ _ hS.cs
    have hca : wr.cell? ⟨A, 0, none⟩ = some (.int .i64 (off : Int)) := cell_of_row _ _ 0 _ _ _ hS.ca
    have c2 := nMove l w.heap.size A off line col (gp false (l.drop off)) (by omega) (by omega) (by omega) (by omega) wr (by rw [hcs, ← hs]; rfl) hS.ca
    have hbd := adv_bd (gp false (l.drop off)) 0 (l.drop off) (line, col)
    have Hu : Hid (scanAll l = Sc.pre ts (scan (f + 1) (l.drop off) off (line, col))) := Hinv
    unfold str at c1
    generalize (⟨(l.drop off).toArray⟩ : ByteArray) = s1 at *
    generalize hgg : gp false (l.drop off) = g at *
    generalize hqq : adv 0 g (l.drop off) (line, col) = q at *
    clear Hinv
    go_wp2_with (first | (go_at_call 29; refine (c1 _).mono ?_; rintro e w1 ⟨rfl, rfl⟩))
    refine c2.mono ?_
    rintro e w2 ⟨rfl, w3, hb3, rfl⟩
    have hS2 := (hS.below hb3).set (off + g) q.1 q.2 (by omega) (by omega) (by omega)
    have hmu : offAt w1 A = off := offAt_eq hS
    generalize (w3.setRow A #[.int .i64 ((off + g : Nat) : Int), .int .i64 (q.1 : Int), .int .i64 (q.2 : Int)]) = w4 at *
    have Hx := hide hx1
    clear hS hcs hca c1 c2 hb3 hx1
    have hx2 := ext_drop l (off + g)
    rw [hs] at hx2
    have hcs2 : w4.cell? ⟨w.heap.size, 0, none⟩ = some (.string s) := cell_of_row _ _ 0 _ _ _ hS2.cs
    have hca2 : w4.cell? ⟨A, 0, none⟩ = some (.int .i64 ((off + g : Nat) : Int)) := cell_of_row _ _ 0 _ _ _ hS2.ca
    have c3 := nCut (l.drop (off + g)) (by rw [List.length_drop]; omega) w4 (hT.below hS2.bel)
    have Hd : Hid (l.drop (off + g) = (l.drop off).drop g) := hide (by rw [List.drop_drop])
    unfold str at c3
    generalize (⟨(l.drop (off + g)).toArray⟩ : ByteArray) = s2 at *
    cases hC : cut (l.drop (off + g)) with
    | bad er =>
      rw [hC] at c3
      simp only [cutV, tokV] at c3
      generalize hng : off + g = k at *
      go_wp2_with fail
      refine c3.mono ?_
      rintro e w5 ⟨rfl, hb5⟩
      have hS5 := hS2.below hb5
      have hlt5 : A < w5.heap.size := (Array.getElem?_eq_some_iff.1 hS5.ca).1
      have her : er ≠ 0 := fun e => cut_bad_ne _ (by rw [← e]; exact hC)
      have her1 : ((er : Int) == 0) = false := by rw [beq_eq_false_iff_ne]; omega
      have her2 : ((er : Int) != 0) = true := by rw [bne, her1]; rfl
      have hS6 : ∀ o, Sn w w.heap.size (w.heap.size + 1) A s k q.1 q.2 ao c ts (w5.alloc o) := fun o => hS5.below (below_new _ o)
      have a0 : ∀ o, (w5.alloc o).cell? ⟨A, 0, none⟩ = some (.int .i64 (k : Int)) := fun o => cell_of_row _ _ 0 _ _ _ (hS6 o).ca
      have a1 : ∀ o, (w5.alloc o).cell? ⟨A, 1, none⟩ = some (.int .i64 (q.1 : Int)) := fun o => cell_of_row _ _ 1 _ _ _ (hS6 o).ca
      have a2 : ∀ o, (w5.alloc o).cell? ⟨A, 2, none⟩ = some (.int .i64 (q.2 : Int)) := fun o => cell_of_row _ _ 2 _ _ _ (hS6 o).ca
      have b0 : w5.cell? ⟨A, 0, none⟩ = some (.int .i64 (k : Int)) := cell_of_row _ _ 0 _ _ _ hS5.ca
      have b1 : w5.cell? ⟨A, 1, none⟩ = some (.int .i64 (q.1 : Int)) := cell_of_row _ _ 1 _ _ _ hS5.ca
      have b2 : w5.cell? ⟨A, 2, none⟩ = some (.int .i64 (q.2 : Int)) := cell_of_row _ _ 2 _ _ _ hS5.ca
      clear hcs2 hca2 c3 hb5 hS2 hS5
      go_wp2_with fail
      have hX := hS6 (.cells #[.int .i64 0, .string ⟨#[]⟩, .int .i64 0, .int .i64 0, .int .i64 0, .int .i64 0] 37)
      clear a0 a1 a2 b0 b1 b2 hS6
      generalize w5.alloc (.cells #[.int .i64 0, .string ⟨#[]⟩, .int .i64 0, .int .i64 0, .int .i64 0, .int .i64 0] 37) = w6 at hX ⊢
      have a0 : w6.cell? ⟨A, 0, none⟩ = some (.int .i64 (k : Int)) := cell_of_row _ _ 0 _ _ _ hX.ca
      have a1 : w6.cell? ⟨A, 1, none⟩ = some (.int .i64 (q.1 : Int)) := cell_of_row _ _ 1 _ _ _ hX.ca
      have a2 : w6.cell? ⟨A, 2, none⟩ = some (.int .i64 (q.2 : Int)) := cell_of_row _ _ 2 _ _ _ hX.ca
      have f0 : w6.cell? ⟨w.heap.size + 1, 0, none⟩ = some (.int .i64 0) := cell_of_row _ _ 0 _ _ _ hX.cf
      have f1 : w6.cell? ⟨w.heap.size + 1, 1, none⟩ = some (.int .i64 0) := cell_of_row _ _ 1 _ _ _ hX.cf
      have f2 : w6.cell? ⟨w.heap.size + 1, 2, none⟩ = some (.int .i64 0) := cell_of_row _ _ 2 _ _ _ hX.cf
      have f3 : w6.cell? ⟨w.heap.size + 1, 3, none⟩ = some (.int .i64 0) := cell_of_row _ _ 3 _ _ _ hX.cf
      have fz : ∀ j, w6.frozen? ⟨w.heap.size + 1, j, none⟩ = false := fun j => by simp [World.frozen?, hX.cf]
      go_region
      all_goals try go_wp2_with fail
      rw [set_four _ _ _ _ _ _ _ _ _ _ _ _ hX.cf]
      refine bodyPost_ret (results_tc rfl _ _ (w.heap.size + 1) _ _ _ _ rfl (setRow_heap _ _ _ _ _ _ hX.cf) Tryd.underlying31 rfl (by exact infoFlt)) rfl ?_
      have hres : scanAll l = .bad ⟨er, k, q.1, q.2⟩ := by
        rw [Hu.out, scan_bad _ _ _ _ er (by rw [hgg, ← Hd.out]; exact hC), hgg, hqq, hng]
        rfl
      unfold ScanPost
      rw [hres]
      exact ⟨rfl, (below_setRow hX.bel (by omega) _).drew⟩
    | tok kd tx v n =>
      rw [hC] at c3
      simp only [cutV, tokV] at c3
      generalize hng : off + g = k at *
      go_wp2_with fail
      refine c3.mono ?_
      rintro e w5 ⟨rfl, hb5⟩
      have hS5 := hS2.below hb5
      have hlt5 : A < w5.heap.size := (Array.getElem?_eq_some_iff.1 hS5.ca).1
      have hS6 : ∀ o, Sn w w.heap.size (w.heap.size + 1) A s k q.1 q.2 ao c ts (w5.alloc o) := fun o => hS5.below (below_new _ o)
      have a0 : ∀ o, (w5.alloc o).cell? ⟨A, 0, none⟩ = some (.int .i64 (k : Int)) := fun o => cell_of_row _ _ 0 _ _ _ (hS6 o).ca
      have a1 : ∀ o, (w5.alloc o).cell? ⟨A, 1, none⟩ = some (.int .i64 (q.1 : Int)) := fun o => cell_of_row _ _ 1 _ _ _ (hS6 o).ca
      have a2 : ∀ o, (w5.alloc o).cell? ⟨A, 2, none⟩ = some (.int .i64 (q.2 : Int)) := fun o => cell_of_row _ _ 2 _ _ _ (hS6 o).ca
      have b0 : w5.cell? ⟨A, 0, none⟩ = some (.int .i64 (k : Int)) := cell_of_row _ _ 0 _ _ _ hS5.ca
      have b1 : w5.cell? ⟨A, 1, none⟩ = some (.int .i64 (q.1 : Int)) := cell_of_row _ _ 1 _ _ _ hS5.ca
      have b2 : w5.cell? ⟨A, 2, none⟩ = some (.int .i64 (q.2 : Int)) := cell_of_row _ _ 2 _ _ _ hS5.ca
      have hsz5 := hS5.bel.size
      clear hcs2 hca2 c3 hb5 hS2
      go_wp2_with (at_builtin; refine wpList_pushT rfl _ _ 28 rfl 37 Tryd.underlying28 infoT w.heap.size ao ts.length c ts rfl (hS6 _).own ⟨kd, tx, v, k, q.1, q.2⟩ _ rfl _ (by simp) rfl (by omega) (Nat.le_trans hsz5 (by simp)) ?_)
      intro g6 cap6 w6 hown6 hgrow6 hat6
      have hS7 : Sn w w.heap.size (w.heap.size + 1) A s k q.1 q.2 (some ⟨g6, 0, none⟩) cap6 (ts ++ [⟨kd, tx, v, k, q.1, q.2⟩]) w6 := (hS6 _).grown hgrow6 (by rw [List.length_append]; exact hown6)
      have hne6 : some w5.heap.size ≠ ob ao := fun e => by have := (own_lt hS5.own _ e.symm).2; omega
      have t0 : w6.cell? ⟨w5.heap.size, 0, none⟩ = some (.int .i64 (kd : Int)) := cell_of_row _ _ 0 _ _ _ ((hgrow6.block w5.heap.size (by simp) hne6).trans (heap_alloc_new _ _))
      have htk : (ts ++ [(⟨kd, tx, v, k, q.1, q.2⟩ : T)]).length = ts.length + 1 := by simp
      clear a0 a1 a2 b0 b1 b2 hown6 hgrow6 hat6 hS6 hS5 hne6
      by_cases hkd : kd = 0
      · subst hkd
        have f0 : w6.cell? ⟨w.heap.size + 1, 0, none⟩ = some (.int .i64 0) := cell_of_row _ _ 0 _ _ _ hS7.cf
        have f1 : w6.cell? ⟨w.heap.size + 1, 1, none⟩ = some (.int .i64 0) := cell_of_row _ _ 1 _ _ _ hS7.cf
        have f2 : w6.cell? ⟨w.heap.size + 1, 2, none⟩ = some (.int .i64 0) := cell_of_row _ _ 2 _ _ _ hS7.cf
        have f3 : w6.cell? ⟨w.heap.size + 1, 3, none⟩ = some (.int .i64 0) := cell_of_row _ _ 3 _ _ _ hS7.cf
        have fz : ∀ j, w6.frozen? ⟨w.heap.size + 1, j, none⟩ = false := fun j => by simp [World.frozen?, hS7.cf]
        go_wp2_with fail
        rw [set_four _ _ _ _ _ _ _ _ _ _ _ _ hS7.cf]
        refine bodyPost_ret (results_tc rfl _ _ (w.heap.size + 1) _ _ _ _ rfl (setRow_heap _ _ _ _ _ _ hS7.cf) Tryd.underlying31 rfl (by exact infoFlt)) rfl ?_
        have hres : scanAll l = .ok (ts ++ [⟨0, tx, v, k, q.1, q.2⟩]) := by
          rw [Hu.out, scan_tok _ _ _ _ 0 v n tx (by rw [hgg, ← Hd.out]; exact hC), if_pos rfl, hgg, hqq, hng]
          rfl
        unfold ScanPost
        rw [hres]
        refine ⟨some ⟨g6, 0, none⟩, cap6, ?_, ?_, below_setRow hS7.bel (by omega) _⟩
        · rw [htk]; rfl
        · exact own_of_block hS7.own (fun j hj => setRow_other _ _ _ _ (fun e => own_ne hS7.own hS7.cf (by decide) (by rw [hj, e])))
      · have hkd1 : ((kd : Int) == 0) = false := by rw [beq_eq_false_iff_ne]; omega
        obtain ⟨hnl, hn1⟩ := cut_len _ _ _ _ _ hC
        have hn1 := hn1 hkd
        rw [List.length_drop] at hnl
        have hcs7 : w6.cell? ⟨w.heap.size, 0, none⟩ = some (.string s) := cell_of_row _ _ 0 _ _ _ hS7.cs
        have c4 := nMove l w.heap.size A k q.1 q.2 n (by omega) (by omega) (by omega) (by omega) w6 (by rw [hcs7, ← hs]; rfl) hS7.ca
        have hbd2 := adv_bd n 0 (l.drop k) q
        go_wp2_with fail
        refine c4.mono ?_
        rintro e w7 ⟨rfl, w8, hb8, rfl⟩
        have hS8 := (hS7.below hb8).set (k + n) (adv 0 n (l.drop k) (q.1, q.2)).1 (adv 0 n (l.drop k) (q.1, q.2)).2 (by omega) (by omega) (by omega)
        have hmu2 := offAt_eq hS8
        have Hres : Hid (scanAll l = Sc.pre (ts ++ [⟨kd, tx, v, k, q.1, q.2⟩]) (scan f (l.drop (k + n)) (k + n) (adv 0 n (l.drop k) (q.1, q.2)))) := hide (by
          rw [Hu.out, scan_tok _ _ _ _ kd v n tx (by rw [hgg, ← Hd.out]; exact hC), if_neg hkd, hgg, hqq, hng, Sc.pre_pre, ← Hd.out, List.drop_drop])
        have hbd3 : (adv 0 n (l.drop k) (q.1, q.2)).1 ≤ q.1 + n ∧ ((adv 0 n (l.drop k) (q.1, q.2)).2 ≤ q.2 + n ∨ (adv 0 n (l.drop k) (q.1, q.2)).2 ≤ n + 1) := hbd2
        clear hbd2 c4
        generalize adv 0 n (l.drop k) (q.1, q.2) = q2 at *
        generalize (w8.setRow A #[.int .i64 ((k + n : Nat) : Int), .int .i64 (q2.1 : Int), .int .i64 (q2.2 : Int)]) = w9 at *
        clear hb8 hS7 hcs7 t0
        go_wp2_with fail
        rw [hmu2, hmu]
        exact ⟨⟨k + n, q2.1, q2.2, some ⟨g6, 0, none⟩, cap6, ts ++ [⟨kd, tx, v, k, q.1, q.2⟩], by rw [htk], hS8, by omega, by omega, by omega, by omega, f, by omega, Hres⟩, by omega⟩
end Go.Proofs.YtinbbcojilogeaaDoor.Tok
