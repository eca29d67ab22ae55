import Derived.Test.YtnghfdnlcnocjaaGreatDoorE40c825da
import Derived.Test.YtnghfdnlcnocjaaGreatDoorE7a51f508
import Derived.Test.YtnghfdnlcnocjaaGreatDoorEa4a40189
set_option maxRecDepth 100000
set_option maxHeartbeats 4000000
namespace Go.Proofs.YtnghfdnlcnocjaaGreatDoor.Tok
open Go.RowKit Go.Shelf Go.Proofs.YtnghfdnlcnocjaaGreatDoor.Oct
def ScanPost (l : List UInt8) (w : World) (e : Ending) (w' : World) : Prop := match scanAll l with
  | .ok ts => ∃ ao c, e = .returned (.tuple #[.slice ao ts.length c, .agg #[.int .i64 0, .int .i64 0, .int .i64 0, .int .i64 0]]) /\ w'.ownsRow w.heap.size 100 6 (.slice ao ts.length c) ts.length (tvs ts) /\ Below w.heap.size w w'
  | .bad f => e = .returned (.tuple #[.slice none 0 0, .agg #[.int .i64 (f.code : Int), .int .i64 (f.off : Int), .int .i64 (f.line : Int), .int .i64 (f.col : Int)]]) /\ Below w.heap.size w w'
theorem results_tc {P : Program} {fn : Func} {p u : Tmp} {ty : TypeId} (h : fn.results = #[.tmp u, .cell p ty]) (tmps : Array Value) (w : World) (g : Nat) (t : TypeId) (cs : Array Value) (fr : Nat × Nat) (d : TypeDesc)
    (hp : tmps.getD p undef = .pointer (some ⟨g, 0, none⟩)) (hg : w.heap[g]? = some (.cells cs t fr))
    (hu : P.underlying ty = some d) (hd : (match d with | .struct _ | .array _ _ => true | _ => false) = true) (hi : (P.info? ty).map (·.size) = some cs.size) :
    (results fn tmps).run P w = .ok (.tuple #[tmps.getD u undef, .agg cs]) w := by
  have hp' : tmps[p]?.getD undef = .pointer (some ⟨g, 0, none⟩) := by simpa using hp
  simp [results, h, hp', asAddr, run_loadVar_row w g t ty cs fr d hg hu hd hi]
def offAt (w : World) (A : Nat) : Nat := match w.cell? ⟨A, 0, none⟩ with
  | some (.int _ z) => z.toNat
  | _ => 0
theorem offAt_eq {w wr : World} {bs bf ba : Nat} {s : ByteArray} {off line col : Nat} {ao : Option Addr} {c : Nat} {ts : List T} (h : Sn w bs bf ba s off line col ao c ts wr) : offAt wr ba = off := by
  unfold offAt
  rw [cell_of_row wr ba 0 _ _ _ h.ca]
  rfl
theorem set_four (w : World) (g : Nat) (a b c d a' b' c' d' : Value) (t : TypeId) (fr : Nat × Nat) (h : w.heap[g]? = some (.cells #[a, b, c, d] t fr)) :
    (((w.setCell ⟨g, 0, none⟩ a').setCell ⟨g, 1, none⟩ b').setCell ⟨g, 2, none⟩ c').setCell ⟨g, 3, none⟩ d' = w.setRow g #[a', b', c', d'] := by
  rw [setCell_eq_setRow w g 0 _ t fr _ h, setCell_eq_setRow _ g 1 _ t fr _ (setRow_heap w g _ _ t fr h), setRow_setRow,
    setCell_eq_setRow _ g 2 _ t fr _ (setRow_heap w g _ _ t fr h), setRow_setRow, setCell_eq_setRow _ g 3 _ t fr _ (setRow_heap w g _ _ t fr h), setRow_setRow]
  rfl
theorem scan_bad (f : Nat) (l : List UInt8) (off : Nat) (p : Nat × Nat) (e : Nat) (h : cut (l.drop (gp false l)) = .bad e) :
    scan (f + 1) l off p = .bad ⟨e, off + gp false l, (adv 0 (gp false l) l p).1, (adv 0 (gp false l) l p).2⟩ := by
  rw [scan, h]
theorem scan_tok (f : Nat) (l : List UInt8) (off : Nat) (p : Nat × Nat) (k v n : Nat) (t : List UInt8) (h : cut (l.drop (gp false l)) = .tok k t v n) :
    scan (f + 1) l off p = if k = 0 then .ok [⟨k, t, v, off + gp false l, (adv 0 (gp false l) l p).1, (adv 0 (gp false l) l p).2⟩]
      else Sc.pre [⟨k, t, v, off + gp false l, (adv 0 (gp false l) l p).1, (adv 0 (gp false l) l p).2⟩]
        (scan f ((l.drop (gp false l)).drop n) (off + gp false l + n) (adv 0 n (l.drop (gp false l)) (adv 0 (gp false l) l p))) := by
  rw [scan, h]
theorem cMarkF_ne (l : List UInt8) : ∀ ms, cMarkF l ms ≠ .bad 0
  | [] => by simp [cMarkF]
  | m :: r => by
    unfold cMarkF
    split
    . simp
    . exact cMarkF_ne l r
theorem cut_bad_ne (l : List UInt8) : cut l ≠ .bad 0 := by
  cases l with
  | nil => simp [cut]
  | cons b r =>
    rw [show cut (b :: r) = if isL b then cName (b :: r) else if isD b then cNum (b :: r) else if b = 34 then cQuo (b :: r) else cMark (b :: r) from rfl]
    repeat' split
    . unfold cName; split <;> simp
    . unfold cNum; repeat' split
      all_goals simp
    . unfold cQuo
      generalize (List.drop (sp inQ (List.drop 1 (b :: r))) (List.drop 1 (b :: r))) = x
      cases x with
      | nil => simp [cQuoT]
      | cons a t => rw [cQuoT]; by_cases h : a = 34 <;> simp [h]
    . exact cMarkF_ne _ _
theorem cMarkF_len (l : List UInt8) : ∀ (ms : List (List UInt8)), (∀ m ∈ ms, 1 <= m.length) -> ∀ k t v n, cMarkF l ms = .tok k t v n -> n <= l.length /\ 1 <= n
  | [], _, k, t, v, n, h => by simp [cMarkF] at h
  | m :: r, hm, k, t, v, n, h => by
    unfold cMarkF at h
    split at h
    . rename_i hp
      cases h
      have := (List.isPrefixOf_iff_prefix.1 hp).length_le
      exact ⟨this, hm m (by simp)⟩
    . exact cMarkF_len l r (fun x hx => hm x (by simp [hx])) k t v n h
theorem cut_len (l : List UInt8) (k : Nat) (t : List UInt8) (v n : Nat) (h : cut l = .tok k t v n) : n <= l.length /\ (k ≠ 0 -> 1 <= n) := by
  cases l with
  | nil => cases h; exact ⟨Nat.le_refl _, fun h => absurd rfl h⟩
  | cons b r =>
    rw [show cut (b :: r) = if isL b then cName (b :: r) else if isD b then cNum (b :: r) else if b = 34 then cQuo (b :: r) else cMark (b :: r) from rfl] at h
    split at h
    . rename_i hL
      unfold cName at h
      split at h
      . cases h
      . cases h
        refine ⟨sp_le _ _, fun _ => ?_⟩
        rw [sp_cons_true r (by simp [inW, hL])]
        omega
    . split at h
      . rename_i hD
        have h1 : 1 <= sp isD (b :: r) := by rw [sp_cons_true r hD]; omega
        have h2 := sp_le isD (b :: r)
        have h3 := frac_le ((b :: r).drop (sp isD (b :: r)))
        rw [List.length_drop] at h3
        unfold cNum at h
        split at h
        . cases h
        . split at h
          . cases h; exact ⟨by omega, fun _ => by omega⟩
          . split at h
            . cases h
            . cases h; exact ⟨by omega, fun _ => by omega⟩
      . split at h
        . unfold cQuo at h
          rw [List.drop_succ_cons, List.drop_zero] at h
          cases hx : r.drop (sp inQ r) with
          | nil => rw [hx] at h; cases h
          | cons a t =>
            rw [hx, cQuoT] at h
            split at h
            . cases h
              have := congrArg List.length hx
              rw [List.length_drop] at this
              simp at this ⊢
              omega
            . cases h
        . obtain ⟨h1, h2⟩ := cMarkF_len _ marks (by decide) _ _ _ _ h
          exact ⟨h1, fun _ => h2⟩
set_option maxRecDepth 1000000 in
theorem nScan (l : List UInt8) (hl : l.length <= 1099511627776) (w : World) (hT : Tw w) : Calls Tryz.prog 22 #[str l] w (ScanPost l w) := by
  have cA := fun w => nAt l 0 (by omega) (by omega) (by omega) w
  rw [show atOff l.length 0 = 0 by unfold atOff; omega] at cA
  have hq : spotAt l 0 = (1, 1) := by unfold spotAt; rw [adv_zero]
  rw [hq] at cA
  have hsz := size_str l
  unfold spotV at cA
  unfold str at cA ⊢
  obtain ⟨s, hs⟩ : ∃ s, (⟨l.toArray⟩ : ByteArray) = s := ⟨_, rfl⟩
  rw [hs] at cA hsz ⊢
  go_enter Tryz.func22, Tryz.ntmps22
  go_wp2_with fail
  refine (cA _).mono ?_
  rintro e w1 ⟨rfl, hb1⟩
  go_wp2_with fail
  have hbw : Below w.heap.size w w1 := ((Below.refl _ _).alloc (Nat.le_refl _) _ |>.alloc (by simp) _).trans (hb1.mono (by simp; omega))
  have hs1 : w.heap.size + 2 <= w1.heap.size := by have := hb1.size; simp at this; omega
  have S0 : Sn w w.heap.size (w.heap.size + 1) w1.heap.size s 0 1 1 none 0 [] (w1.alloc (.cells #[.int .i64 0, .int .i64 1, .int .i64 1] 39)) := by
    refine ⟨?_, ?_, heap_alloc_new _ _, World.ownsRow_nil _ _ _ _, hbw.alloc (by omega) _⟩
    . exact (Below.heap_alloc _ _ _ (by omega)).trans ((hb1.block _ (by simp; omega)).trans ((Below.heap_alloc _ _ _ (by simp)).trans (heap_alloc_new _ _)))
    . refine (Below.heap_alloc _ _ _ (by omega)).trans ((hb1.block _ (by simp)).trans ?_)
      exact heap_alloc2_new w _ _
  generalize (w1.alloc (.cells #[.int .i64 0, .int .i64 1, .int .i64 1] 39)) = W0 at *
  clear hb1 hbw cA
  generalize w1.heap.size = A at *
  go_loopw [4] (fun v wr => ∃ (off line col : Nat) (ao : Option Addr) (c : Nat) (ts : List T), v = .slice ao ts.length c /\ Sn w w.heap.size (w.heap.size + 1) A s off line col ao c ts wr /\ off <= l.length /\ line <= off + 1 /\ col <= off + 1 /\ ts.length <= off /\
      ∃ f, l.length - off < f /\ Hid (scanAll l = Sc.pre ts (scan f (l.drop off) off (line, col)))) (fun _ wr => l.length - offAt wr A)
  case atStart => exact ⟨0, 1, 1, none, 0, [], rfl, S0, Nat.zero_le _, by omega, by omega, Nat.le_refl _, l.length + 1, by omega, hide (by rw [Sc.pre_nil]; rfl)⟩
  case round =>
    clear S0
    obtain ⟨off, line, col, ao, c, ts, rfl, hS, hoff, hln, hcl, htl, f, hf, Hinv⟩ := hrel
    obtain ⟨f, rfl⟩ : ∃ f', f = f' + 1 := ⟨f - 1, by omega⟩
    have c1 := fun w => nGap (l.drop off) (by rw [List.length_drop]; omega) w
    have hg := gp_le false (l.drop off)
    rw [List.length_drop] at hg
    have hx1 := ext_drop l off
    rw [hs] at hx1
    have hcs : wr.cell? ⟨w.heap.size, 0, none⟩ = some (.string s) := cell_of_row _ _ 0 _ _ _ hS.cs
    have hca : wr.cell? ⟨A, 0, none⟩ = some (.int .i64 (off : Int)) := cell_of_row _ _ 0 _ _ _ hS.ca
    have c2 := nMove l w.heap.size A off line col (gp false (l.drop off)) (by omega) (by omega) (by omega) (by omega) wr (by rw [hcs, ← hs]; rfl) hS.ca
    have hbd := adv_bd (gp false (l.drop off)) 0 (l.drop off) (line, col)
    have Hu : Hid (scanAll l = Sc.pre ts (scan (f + 1) (l.drop off) off (line, col))) := Hinv
    unfold str at c1
    generalize (⟨(l.drop off).toArray⟩ : ByteArray) = s1 at *
    generalize hgg : gp false (l.drop off) = g at *
    generalize hqq : adv 0 g (l.drop off) (line, col) = q at *
    clear Hinv
    go_wp2_with (first | (go_at_call 51; refine (c1 _).mono ?_; rintro e w1 ⟨rfl, rfl⟩))
    refine c2.mono ?_
    rintro e w2 ⟨rfl, w3, hb3, rfl⟩
    have hS2 := (hS.below hb3).set (off + g) q.1 q.2 (by omega) (by omega) (by omega)
    have hmu : offAt w1 A = off := offAt_eq hS
    generalize (w3.setRow A #[.int .i64 ((off + g : Nat) : Int), .int .i64 (q.1 : Int), .int .i64 (q.2 : Int)]) = w4 at *
    have Hx := hide hx1
    clear hS hcs hca c1 c2 hb3 hx1
    have hx2 := ext_drop l (off + g)
    rw [hs] at hx2
    have hcs2 : w4.cell? ⟨w.heap.size, 0, none⟩ = some (.string s) := cell_of_row _ _ 0 _ _ _ hS2.cs
    have hca2 : w4.cell? ⟨A, 0, none⟩ = some (.int .i64 ((off + g : Nat) : Int)) := cell_of_row _ _ 0 _ _ _ hS2.ca
    have c3 := nCut (l.drop (off + g)) (by rw [List.length_drop]; omega) w4 (hT.below hS2.bel)
    have Hd : Hid (l.drop (off + g) = (l.drop off).drop g) := hide (by rw [List.drop_drop])
    unfold str at c3
    generalize (⟨(l.drop (off + g)).toArray⟩ : ByteArray) = s2 at *
    cases hC : cut (l.drop (off + g)) with
    | bad er =>
      rw [hC] at c3
      simp only [cutV, tokV] at c3
      generalize hng : off + g = k at *
      go_wp2_with fail
      refine c3.mono ?_
      rintro e w5 ⟨rfl, hb5⟩
      have hS5 := hS2.below hb5
      have hlt5 : A < w5.heap.size := (Array.getElem?_eq_some_iff.1 hS5.ca).1
      have her : er ≠ 0 := fun e => cut_bad_ne _ (by rw [← e]; exact hC)
      have her1 : ((er : Int) == 0) = false := by rw [beq_eq_false_iff_ne]; omega
      have her2 : ((er : Int) != 0) = true := by rw [bne, her1]; rfl
      have hS6 : ∀ o, Sn w w.heap.size (w.heap.size + 1) A s k q.1 q.2 ao c ts (w5.alloc o) := fun o => hS5.below (below_new _ o)
      have a0 : ∀ o, (w5.alloc o).cell? ⟨A, 0, none⟩ = some (.int .i64 (k : Int)) := fun o => cell_of_row _ _ 0 _ _ _ (hS6 o).ca
      have a1 : ∀ o, (w5.alloc o).cell? ⟨A, 1, none⟩ = some (.int .i64 (q.1 : Int)) := fun o => cell_of_row _ _ 1 _ _ _ (hS6 o).ca
      have a2 : ∀ o, (w5.alloc o).cell? ⟨A, 2, none⟩ = some (.int .i64 (q.2 : Int)) := fun o => cell_of_row _ _ 2 _ _ _ (hS6 o).ca
      have b0 : w5.cell? ⟨A, 0, none⟩ = some (.int .i64 (k : Int)) := cell_of_row _ _ 0 _ _ _ hS5.ca
      have b1 : w5.cell? ⟨A, 1, none⟩ = some (.int .i64 (q.1 : Int)) := cell_of_row _ _ 1 _ _ _ hS5.ca
      have b2 : w5.cell? ⟨A, 2, none⟩ = some (.int .i64 (q.2 : Int)) := cell_of_row _ _ 2 _ _ _ hS5.ca
      clear hcs2 hca2 c3 hb5 hS2 hS5
      go_wp2_with fail
      have hX := hS6 (.cells #[.int .i64 0, .string ⟨#[]⟩, .int .i64 0, .int .i64 0, .int .i64 0, .int .i64 0] 100)
      clear a0 a1 a2 b0 b1 b2 hS6
      generalize w5.alloc (.cells #[.int .i64 0, .string ⟨#[]⟩, .int .i64 0, .int .i64 0, .int .i64 0, .int .i64 0] 100) = w6 at hX ⊢
      have a0 : w6.cell? ⟨A, 0, none⟩ = some (.int .i64 (k : Int)) := cell_of_row _ _ 0 _ _ _ hX.ca
      have a1 : w6.cell? ⟨A, 1, none⟩ = some (.int .i64 (q.1 : Int)) := cell_of_row _ _ 1 _ _ _ hX.ca
      have a2 : w6.cell? ⟨A, 2, none⟩ = some (.int .i64 (q.2 : Int)) := cell_of_row _ _ 2 _ _ _ hX.ca
      have f0 : w6.cell? ⟨w.heap.size + 1, 0, none⟩ = some (.int .i64 0) := cell_of_row _ _ 0 _ _ _ hX.cf
      have f1 : w6.cell? ⟨w.heap.size + 1, 1, none⟩ = some (.int .i64 0) := cell_of_row _ _ 1 _ _ _ hX.cf
      have f2 : w6.cell? ⟨w.heap.size + 1, 2, none⟩ = some (.int .i64 0) := cell_of_row _ _ 2 _ _ _ hX.cf
      have f3 : w6.cell? ⟨w.heap.size + 1, 3, none⟩ = some (.int .i64 0) := cell_of_row _ _ 3 _ _ _ hX.cf
      have fz : ∀ j, w6.frozen? ⟨w.heap.size + 1, j, none⟩ = false := fun j => by simp [World.frozen?, hX.cf]
      go_region
      all_goals try go_wp2_with fail
      rw [set_four _ _ _ _ _ _ _ _ _ _ _ _ hX.cf]
      refine bodyPost_ret (results_tc rfl _ _ (w.heap.size + 1) _ _ _ _ rfl (setRow_heap _ _ _ _ _ _ hX.cf) Tryz.underlying41 rfl (by exact infoFlt)) rfl ?_
      have hres : scanAll l = .bad ⟨er, k, q.1, q.2⟩ := by
        rw [Hu.out, scan_bad _ _ _ _ er (by rw [hgg, ← Hd.out]; exact hC), hgg, hqq, hng]
        rfl
      unfold ScanPost
      rw [hres]
      exact ⟨rfl, (below_setRow hX.bel (by omega) _).drew⟩
    | tok kd tx v n =>
      rw [hC] at c3
      simp only [cutV, tokV] at c3
      generalize hng : off + g = k at *
      go_wp2_with fail
      refine c3.mono ?_
      rintro e w5 ⟨rfl, hb5⟩
      have hS5 := hS2.below hb5
      have hlt5 : A < w5.heap.size := (Array.getElem?_eq_some_iff.1 hS5.ca).1
      have hS6 : ∀ o, Sn w w.heap.size (w.heap.size + 1) A s k q.1 q.2 ao c ts (w5.alloc o) := fun o => hS5.below (below_new _ o)
      have a0 : ∀ o, (w5.alloc o).cell? ⟨A, 0, none⟩ = some (.int .i64 (k : Int)) := fun o => cell_of_row _ _ 0 _ _ _ (hS6 o).ca
      have a1 : ∀ o, (w5.alloc o).cell? ⟨A, 1, none⟩ = some (.int .i64 (q.1 : Int)) := fun o => cell_of_row _ _ 1 _ _ _ (hS6 o).ca
      have a2 : ∀ o, (w5.alloc o).cell? ⟨A, 2, none⟩ = some (.int .i64 (q.2 : Int)) := fun o => cell_of_row _ _ 2 _ _ _ (hS6 o).ca
      have b0 : w5.cell? ⟨A, 0, none⟩ = some (.int .i64 (k : Int)) := cell_of_row _ _ 0 _ _ _ hS5.ca
      have b1 : w5.cell? ⟨A, 1, none⟩ = some (.int .i64 (q.1 : Int)) := cell_of_row _ _ 1 _ _ _ hS5.ca
      have b2 : w5.cell? ⟨A, 2, none⟩ = some (.int .i64 (q.2 : Int)) := cell_of_row _ _ 2 _ _ _ hS5.ca
      have hsz5 := hS5.bel.size
      clear hcs2 hca2 c3 hb5 hS2
      go_wp2_with (at_builtin; refine wpList_pushT rfl _ _ 57 rfl 100 Tryz.underlying57 infoT w.heap.size ao ts.length c ts rfl (hS6 _).own ⟨kd, tx, v, k, q.1, q.2⟩ _ rfl _ (by simp) rfl (by omega) (Nat.le_trans hsz5 (by simp)) ?_)
      intro g6 cap6 w6 hown6 hgrow6 hat6
      have hS7 : Sn w w.heap.size (w.heap.size + 1) A s k q.1 q.2 (some ⟨g6, 0, none⟩) cap6 (ts ++ [⟨kd, tx, v, k, q.1, q.2⟩]) w6 := (hS6 _).grown hgrow6 (by rw [List.length_append]; exact hown6)
      have hne6 : some w5.heap.size ≠ ob ao := fun e => by have := (own_lt hS5.own _ e.symm).2; omega
      have t0 : w6.cell? ⟨w5.heap.size, 0, none⟩ = some (.int .i64 (kd : Int)) := cell_of_row _ _ 0 _ _ _ ((hgrow6.block w5.heap.size (by simp) hne6).trans (heap_alloc_new _ _))
      have htk : (ts ++ [(⟨kd, tx, v, k, q.1, q.2⟩ : T)]).length = ts.length + 1 := by simp
      clear a0 a1 a2 b0 b1 b2 hown6 hgrow6 hat6 hS6 hS5 hne6
      by_cases hkd : kd = 0
      . subst hkd
        have f0 : w6.cell? ⟨w.heap.size + 1, 0, none⟩ = some (.int .i64 0) := cell_of_row _ _ 0 _ _ _ hS7.cf
        have f1 : w6.cell? ⟨w.heap.size + 1, 1, none⟩ = some (.int .i64 0) := cell_of_row _ _ 1 _ _ _ hS7.cf
        have f2 : w6.cell? ⟨w.heap.size + 1, 2, none⟩ = some (.int .i64 0) := cell_of_row _ _ 2 _ _ _ hS7.cf
        have f3 : w6.cell? ⟨w.heap.size + 1, 3, none⟩ = some (.int .i64 0) := cell_of_row _ _ 3 _ _ _ hS7.cf
        have fz : ∀ j, w6.frozen? ⟨w.heap.size + 1, j, none⟩ = false := fun j => by simp [World.frozen?, hS7.cf]
        go_wp2_with fail
        rw [set_four _ _ _ _ _ _ _ _ _ _ _ _ hS7.cf]
        refine bodyPost_ret (results_tc rfl _ _ (w.heap.size + 1) _ _ _ _ rfl (setRow_heap _ _ _ _ _ _ hS7.cf) Tryz.underlying41 rfl (by exact infoFlt)) rfl ?_
        have hres : scanAll l = .ok (ts ++ [⟨0, tx, v, k, q.1, q.2⟩]) := by
          rw [Hu.out, scan_tok _ _ _ _ 0 v n tx (by rw [hgg, ← Hd.out]; exact hC), if_pos rfl, hgg, hqq, hng]
          rfl
        unfold ScanPost
        rw [hres]
        refine ⟨some ⟨g6, 0, none⟩, cap6, ?_, ?_, below_setRow hS7.bel (by omega) _⟩
        . rw [htk]; rfl
        . exact own_of_block hS7.own (fun j hj => setRow_other _ _ _ _ (fun e => own_ne hS7.own hS7.cf (by decide) (by rw [hj, e])))
      . have hkd1 : ((kd : Int) == 0) = false := by rw [beq_eq_false_iff_ne]; omega
        obtain ⟨hnl, hn1⟩ := cut_len _ _ _ _ _ hC
        have hn1 := hn1 hkd
        rw [List.length_drop] at hnl
        have hcs7 : w6.cell? ⟨w.heap.size, 0, none⟩ = some (.string s) := cell_of_row _ _ 0 _ _ _ hS7.cs
        have c4 := nMove l w.heap.size A k q.1 q.2 n (by omega) (by omega) (by omega) (by omega) w6 (by rw [hcs7, ← hs]; rfl) hS7.ca
        have hbd2 := adv_bd n 0 (l.drop k) q
        go_wp2_with fail
        refine c4.mono ?_
        rintro e w7 ⟨rfl, w8, hb8, rfl⟩
        have hS8 := (hS7.below hb8).set (k + n) (adv 0 n (l.drop k) (q.1, q.2)).1 (adv 0 n (l.drop k) (q.1, q.2)).2 (by omega) (by omega) (by omega)
        have hmu2 := offAt_eq hS8
        have Hres : Hid (scanAll l = Sc.pre (ts ++ [⟨kd, tx, v, k, q.1, q.2⟩]) (scan f (l.drop (k + n)) (k + n) (adv 0 n (l.drop k) (q.1, q.2)))) := hide (by
          rw [Hu.out, scan_tok _ _ _ _ kd v n tx (by rw [hgg, ← Hd.out]; exact hC), if_neg hkd, hgg, hqq, hng, Sc.pre_pre, ← Hd.out, List.drop_drop])
        have hbd3 : (adv 0 n (l.drop k) (q.1, q.2)).1 <= q.1 + n /\ ((adv 0 n (l.drop k) (q.1, q.2)).2 <= q.2 + n ∨ (adv 0 n (l.drop k) (q.1, q.2)).2 <= n + 1) := hbd2
        clear hbd2 c4
        generalize adv 0 n (l.drop k) (q.1, q.2) = q2 at *
        generalize (w8.setRow A #[.int .i64 ((k + n : Nat) : Int), .int .i64 (q2.1 : Int), .int .i64 (q2.2 : Int)]) = w9 at *
        clear hb8 hS7 hcs7 t0
        go_wp2_with fail
        rw [hmu2, hmu]
        exact ⟨⟨k + n, q2.1, q2.2, some ⟨g6, 0, none⟩, cap6, ts ++ [⟨kd, tx, v, k, q.1, q.2⟩], by rw [htk], hS8, by omega, by omega, by omega, by omega, f, by omega, Hres⟩, by omega⟩
end Go.Proofs.YtnghfdnlcnocjaaGreatDoor.Tok
namespace Go.Proofs.YtnghfdnlcnocjaaGreatDoor.Cir
open Go.RowKit Go.Shelf Go.Proofs.YtnghfdnlcnocjaaGreatDoor.Oct Go.Proofs.YtnghfdnlcnocjaaGreatDoor.Tok Go.Proofs.YtnghfdnlcnocjaaGreatDoor.Gt
def PPa (l : List UInt8) (w : World) (e : Ending) (w' : World) : Prop := Below w.heap.size w w' /\ match parP l with
  | .ok c => ∃ ao k, e = .returned (.tuple #[.agg #[.int .i64 c.q, .int .i64 c.b, .slice ao c.ops.length k], .agg #[.int .i64 0, .int .i64 0, .int .i64 0, .int .i64 0]]) /\ OpsAt w' w.heap.size ao c.ops.length k c.ops
  | .bad f => e = .returned (.tuple #[.agg #[.int .i64 0, .int .i64 0, .slice none 0 0], .agg #[.int .i64 (f.code : Int), .int .i64 (f.off : Int), .int .i64 (f.line : Int), .int .i64 (f.col : Int)]])
theorem infoCi : (Tryz.prog.info? 24).map (·.size) = some 3 := by kernel_rfl
theorem infoFt : (Tryz.prog.info? 41).map (·.size) = some 4 := by kernel_rfl
theorem results_cc {P : Program} {fn : Func} {p q : Tmp} {ty ty2 : TypeId} (h : fn.results = #[.cell p ty, .cell q ty2]) (tmps : Array Value) (w : World) (g g2 : Nat) (t t2 : TypeId) (cs cs2 : Array Value) (fr fr2 : Nat × Nat) (d d2 : TypeDesc)
    (hp : tmps.getD p undef = .pointer (some ⟨g, 0, none⟩)) (hg : w.heap[g]? = some (.cells cs t fr)) (hq : tmps.getD q undef = .pointer (some ⟨g2, 0, none⟩)) (hg2 : w.heap[g2]? = some (.cells cs2 t2 fr2))
    (hu : P.underlying ty = some d) (hd : (match d with | .struct _ | .array _ _ => true | _ => false) = true) (hi : (P.info? ty).map (·.size) = some cs.size)
    (hu2 : P.underlying ty2 = some d2) (hd2 : (match d2 with | .struct _ | .array _ _ => true | _ => false) = true) (hi2 : (P.info? ty2).map (·.size) = some cs2.size) :
    (results fn tmps).run P w = .ok (.tuple #[.agg cs, .agg cs2]) w := by
  have hp' : tmps[p]?.getD undef = .pointer (some ⟨g, 0, none⟩) := by simpa using hp
  have hq' : tmps[q]?.getD undef = .pointer (some ⟨g2, 0, none⟩) := by simpa using hq
  simp [results, h, hp', hq', asAddr, run_loadVar_row w g t ty cs fr d hg hu hd hi, run_loadVar_row w g2 t2 ty2 cs2 fr2 d2 hg2 hu2 hd2 hi2, Result.andThen]
theorem c3_set (w : World) (g : Nat) (a b c a' b' c' : Value) (t : TypeId) (h : w.heap[g]? = some (.cells #[a, b, c] t (0, 0))) : ((w.setCell ⟨g, 0, none⟩ a').setCell ⟨g, 1, none⟩ b').setCell ⟨g, 2, none⟩ c' = w.setRow g #[a', b', c'] := by
  rw [setCell_eq_setRow w g 0 _ t _ _ h, setCell_eq_setRow _ g 1 _ t _ _ (setRow_heap w g _ _ t _ h), setRow_setRow, setCell_eq_setRow _ g 2 _ t _ _ (setRow_heap w g _ _ t _ h), setRow_setRow]
  rfl
theorem c4_set (w : World) (g : Nat) (a b c d a' b' c' d' : Value) (t : TypeId) (h : w.heap[g]? = some (.cells #[a, b, c, d] t (0, 0))) : (((w.setCell ⟨g, 0, none⟩ a').setCell ⟨g, 1, none⟩ b').setCell ⟨g, 2, none⟩ c').setCell ⟨g, 3, none⟩ d' = w.setRow g #[a', b', c', d'] := by
  rw [setCell_eq_setRow w g 0 _ t _ _ h, setCell_eq_setRow _ g 1 _ t _ _ (setRow_heap w g _ _ t _ h), setRow_setRow, setCell_eq_setRow _ g 2 _ t _ _ (setRow_heap w g _ _ t _ h), setRow_setRow, setCell_eq_setRow _ g 3 _ t _ _ (setRow_heap w g _ _ t _ h), setRow_setRow]
  rfl
theorem par7 {w w1 : World} {g : Nat} {a0 b0 c0 x0 y0 z0 u0 : Value} {t1 t2 : TypeId} (hA : w1.heap[g]? = some (.cells #[a0, b0, c0] t1 (0, 0))) (hB : w1.heap[g + 1]? = some (.cells #[x0, y0, z0, u0] t2 (0, 0))) (hb : Below g w w1) (a b c x y z u : Value) :
    (((((((w1.setCell ⟨g, 0, none⟩ a).setCell ⟨g, 1, none⟩ b).setCell ⟨g, 2, none⟩ c).setCell ⟨g + 1, 0, none⟩ x).setCell ⟨g + 1, 1, none⟩ y).setCell ⟨g + 1, 2, none⟩ z).setCell ⟨g + 1, 3, none⟩ u).heap[g]? = some (.cells #[a, b, c] t1 (0, 0)) /\
    (((((((w1.setCell ⟨g, 0, none⟩ a).setCell ⟨g, 1, none⟩ b).setCell ⟨g, 2, none⟩ c).setCell ⟨g + 1, 0, none⟩ x).setCell ⟨g + 1, 1, none⟩ y).setCell ⟨g + 1, 2, none⟩ z).setCell ⟨g + 1, 3, none⟩ u).heap[g + 1]? = some (.cells #[x, y, z, u] t2 (0, 0)) /\
    Below g w (((((((w1.setCell ⟨g, 0, none⟩ a).setCell ⟨g, 1, none⟩ b).setCell ⟨g, 2, none⟩ c).setCell ⟨g + 1, 0, none⟩ x).setCell ⟨g + 1, 1, none⟩ y).setCell ⟨g + 1, 2, none⟩ z).setCell ⟨g + 1, 3, none⟩ u) /\ Kb [g, g + 1] w1 (((((((w1.setCell ⟨g, 0, none⟩ a).setCell ⟨g, 1, none⟩ b).setCell ⟨g, 2, none⟩ c).setCell ⟨g + 1, 0, none⟩ x).setCell ⟨g + 1, 1, none⟩ y).setCell ⟨g + 1, 2, none⟩ z).setCell ⟨g + 1, 3, none⟩ u) := by
  have h2 : (w1.setRow g #[a, b, c]).heap[g + 1]? = some (.cells #[x0, y0, z0, u0] t2 (0, 0)) := (setRow_other _ _ _ _ (by omega)).trans hB
  rw [c3_set w1 g a0 b0 c0 a b c t1 hA, c4_set _ (g + 1) x0 y0 z0 u0 x y z u t2 h2]
  refine ⟨(setRow_other _ _ _ _ (by omega)).trans (setRow_heap _ _ _ _ _ _ hA), setRow_heap _ _ _ _ _ _ h2, Below.row (Below.row hb _ _ (Nat.le_refl _)) _ _ (by omega), ((Kb.refl _ _).setRow _ _ (.inl (by simp))).setRow _ _ (.inl (by simp))⟩
theorem own_base {w : World} {B B' e size n : Nat} {v : Value} {xs : List Value} (h : w.ownsRow B e size v n xs) (hB : B' <= B) : w.ownsRow B' e size v n xs := by
  refine ⟨h.1, ?_⟩
  rcases h.2 with h0 | ⟨g, cap, cur, hv, hbg, r⟩
  . exact .inl h0
  . exact .inr ⟨g, cap, cur, hv, by omega, r⟩
theorem OpsAt.base {w : World} {B B' : Nat} {ao : Option Addr} {n c : Nat} {ops : List COp} (h : OpsAt w B ao n c ops) (hB : B' <= B) : OpsAt w B' ao n c ops := by
  obtain ⟨xs, h1, h2, h3, h4⟩ := h
  exact ⟨xs, h1, h2, own_base h3 hB, h4⟩
theorem dc0_ok : DcOk dc0 := ⟨Nat.zero_le _, Nat.zero_le _, (fun _ _ h => by cases h), (fun _ _ h => by cases h)⟩
theorem par_cx {w1 w2 : World} {W0 : World} {ao1 : Option Addr} {k1 mq mb md : Nat} {ts : List T} {o1 o2 : Obj} (hT : Tb W0) (hF : Fine ts) (hb1 : Below W0.heap.size W0 w1) (hown1 : w1.ownsRow W0.heap.size 100 6 (.slice ao1 ts.length k1) ts.length (tvs ts)) (hb2 : Below (w1.alloc o1).heap.size (w1.alloc o1) w2)
    (hq : (w1.alloc o1).heap.size <= mq) (hqb : mq < mb) (hbd : mb < md) (hm1 : Mp w2 mq 0 (fun _ => none)) (hm2 : Mp w2 mb 0 (fun _ => none)) (hm3 : Mp w2 md 0 (fun _ => none)) :
    ∃ bt, Cx W0 ((w2.alloc (.cells #[.map (some mq), .int .i64 0, .int .i64 64, .map (some mb), .int .i64 0, .int .i64 64, .map (some md), .slice ao1 ts.length k1, .slice none 0 0] 68)).alloc o2) w2.heap.size ⟨mq, mb, md, bt⟩ 0 0 dc0 none 0 0 [] ts := by
  have z1 := hb1.size
  have z2 := hb2.size
  simp only [World.size_alloc] at z2 hq
  have hB2 : Below W0.heap.size W0 w2 := (hb1.trans ((bnew _ _).mono z1)).trans (hb2.mono (by simp; omega))
  have hB3 : Below W0.heap.size W0 ((w2.alloc (.cells #[.map (some mq), .int .i64 0, .int .i64 64, .map (some mb), .int .i64 0, .int .i64 64, .map (some md), .slice ao1 ts.length k1, .slice none 0 0] 68)).alloc o2) := (hB2.trans ((bnew _ _).mono hB2.size)).trans ((bnew _ _).mono (by have := hB2.size; simp; omega))
  have hbel : Below w2.heap.size w2 ((w2.alloc (.cells #[.map (some mq), .int .i64 0, .int .i64 64, .map (some mb), .int .i64 0, .int .i64 64, .map (some md), .slice ao1 ts.length k1, .slice none 0 0] 68)).alloc o2) := (bnew _ _).trans ((bnew _ _).mono (by simp))
  have z3 := hB2.size
  rcases hown1.2 with ⟨_, h0⟩ | ⟨g, cap, cur, hv, hbg, hg, e1, e2, e3, e4⟩
  . exact absurd (List.length_eq_zero_iff.1 h0) hF.ends.ne
  . simp only [Value.slice.injEq] at hv
    obtain ⟨rfl, -, rfl⟩ := hv
    have hgl := (Array.getElem?_eq_some_iff.1 hg).1
    refine ⟨g, ⟨dc0_ok, ⟨0, Nat.le_refl _, hm1.below hbel⟩, ⟨0, Nat.le_refl _, hm2.below hbel⟩, ⟨fun _ => none, hm3.below hbel, fun _ => ⟨rfl, fun _ _ h => by cases h⟩⟩, Nat.zero_le _, hB3, hT, z3, ⟨show W0.heap.size <= mq by omega, show W0.heap.size <= mb by omega, show W0.heap.size <= md by omega⟩, ⟨show mq ≠ mb by omega, show mq ≠ md by omega, show mb ≠ md by omega⟩⟩, ⟨⟨.slice (some ⟨g, 0, none⟩) ts.length k1, ?_, 0, k1, cur, (0, 0), rfl, e1, ?_, fun j u hu => ?_⟩, hF⟩, ⟨[], rfl, rfl, World.ownsRow_nil _ _ _ _, fun _ h => absurd h List.not_mem_nil⟩, Nat.zero_le _⟩
    . exact (Below.heap_alloc _ _ _ (by simp)).trans (heap_alloc_new _ _)
    . exact (Below.heap_alloc _ _ g (show g < _ by simp; omega)).trans ((Below.heap_alloc _ _ g (show g < w2.heap.size by omega)).trans ((hb2.block g (by simp; omega)).trans ((Below.heap_alloc _ _ _ hgl).trans hg)))
    . rw [← e4, List.getElem?_take] at hu
      split at hu
      . rw [Nat.zero_add]; simpa using hu
      . cases hu
theorem cParse (l : List UInt8) (hl : l.length <= 1099511627776) (w : World) (hW : Tw w) (hT : Tb w) (hE : Te8 w) (hZ : ∀ f, scanAll l = .bad f -> f.code ≠ 0) (hF : ∀ ts, scanAll l = .ok ts -> Fine ts /\ (∀ t ∈ ts, t.text = kwX 7 -> RsOk) /\ (∀ t ∈ ts, t.text = kwX 8 -> BrOk)) :
    Calls Tryz.prog 9 #[str l] w (PPa l w) := by
  have c1 := fun V (h : Below w.heap.size w V) => nScan l hl V (hW.below h)
  unfold ScanPost at c1
  unfold PPa parP
  cases hS : scanAll l with
  | bad f =>
    rw [hS] at c1
    simp only at c1 ⊢
    have hz := hZ f hS
    have e1 : ((f.code : Int) != 0) = true := by simp; omega
    have e2 : ((f.code : Int) == 0) = false := by simp; omega
    generalize str l = sl at *
    clear hF hS hZ
    go_enter Tryz.func9, Tryz.ntmps9
    go_wp2_with (first
      | (go_at_call 22; refine (c1 _ ((bnew _ _).trans ((bnew _ _).mono (by simp)))).mono ?_; rintro e w1 ⟨rfl, hb1⟩))
    have hz1 := hb1.size
    simp only [World.size_alloc] at hz1
    have hA : w1.heap[w.heap.size]? = some (.cells #[.int .i64 0, .int .i64 0, .slice none 0 0] 24 (0, 0)) := (hb1.block _ (by simp; omega)).trans ((Below.heap_alloc _ _ _ (by simp)).trans (heap_alloc_new _ _))
    have hB : w1.heap[w.heap.size + 1]? = some (.cells #[.int .i64 0, .int .i64 0, .int .i64 0, .int .i64 0] 41 (0, 0)) := (hb1.block _ (by simp)).trans (by have := heap_alloc_new (w.alloc (.cells #[.int .i64 0, .int .i64 0, .slice none 0 0] 24)) (.cells #[.int .i64 0, .int .i64 0, .int .i64 0, .int .i64 0] 41); simpa using this)
    have hw1 : Below w.heap.size w w1 := ((bnew _ _).trans ((bnew _ _).mono (by simp))).trans (hb1.mono (by simp; omega))
    obtain ⟨a0, a1, a2, a3⟩ := def_cells hA
    obtain ⟨b0, b1, b2, b3, b4⟩ := st4_cells hB
    have fA : ∀ j, w1.frozen? ⟨w.heap.size, j, none⟩ = false := fun j => by simp [World.frozen?, hA]
    have fB : ∀ j, w1.frozen? ⟨w.heap.size + 1, j, none⟩ = false := fun j => by simp [World.frozen?, hB]
    go_region
    obtain ⟨r1, r2, r3, -⟩ := par7 hA hB hw1 (.int .i64 0) (.int .i64 0) (.slice none 0 0) (.int .i64 (f.code : Int)) (.int .i64 (f.off : Int)) (.int .i64 (f.line : Int)) (.int .i64 (f.col : Int))
    generalize (((((((w1.setCell ⟨w.heap.size, 0, none⟩ (.int .i64 0)).setCell ⟨w.heap.size, 1, none⟩ (.int .i64 0)).setCell ⟨w.heap.size, 2, none⟩ (.slice none 0 0)).setCell ⟨w.heap.size + 1, 0, none⟩ (.int .i64 (f.code : Int))).setCell ⟨w.heap.size + 1, 1, none⟩ (.int .i64 (f.off : Int))).setCell ⟨w.heap.size + 1, 2, none⟩ (.int .i64 (f.line : Int))).setCell ⟨w.heap.size + 1, 3, none⟩ (.int .i64 (f.col : Int))) = X at *
    have l1 := (Array.getElem?_eq_some_iff.1 r1).1
    have l2 := (Array.getElem?_eq_some_iff.1 r2).1
    go_wp2_with fail
    refine bodyPost_ret (results_cc rfl _ _ w.heap.size (w.heap.size + 1) _ _ _ _ _ _ _ _ rfl ((Below.heap_alloc _ _ _ l1).trans r1) rfl ((Below.heap_alloc _ _ _ l2).trans r2) Tryz.underlying24 rfl (by exact infoCi) Tryz.underlying41 rfl (by exact infoFt)) rfl ?_
    exact ⟨(r3.trans ((bnew _ _).mono r3.size)).drew, rfl⟩
  | ok ts =>
    rw [hS] at c1
    simp only at c1 ⊢
    obtain ⟨hFi, hRs, hBr⟩ := hF ts hS
    have c2 := fun W => cNothing W
    generalize str l = sl at *
    clear hF hS hZ
    cases hP : pProg ts with
    | no c t =>
    simp only
    go_enter Tryz.func9, Tryz.ntmps9
    go_wp2_with (first
      | (go_at_call 22; refine (c1 _ ((bnew _ _).trans ((bnew _ _).mono (by simp)))).mono ?_; rintro e w1 ⟨ao1, k1, rfl, hown1, hb1⟩)
      | (go_at_call 23; refine (c2 _).mono ?_; rintro e w2 ⟨mq, mb, md, rfl, hq, hqb, hbd, hm1, hm2, hm3, hb2⟩))
    obtain ⟨bt, hCx⟩ := par_cx (o2 := (.cells #[.int .i64 0, .int .i64 0, .int .i64 0, .int .i64 0] 70)) (hT.below ((bnew w (.cells #[.int .i64 0, .int .i64 0, .slice none 0 0] 24)).trans ((bnew _ (.cells #[.int .i64 0, .int .i64 0, .int .i64 0, .int .i64 0] 41)).mono (by simp)))) hFi hb1 hown1 hb2 hq hqb hbd hm1 hm2 hm3
    have c3 := cProgram ((w.alloc (.cells #[.int .i64 0, .int .i64 0, .slice none 0 0] 24)).alloc (.cells #[.int .i64 0, .int .i64 0, .int .i64 0, .int .i64 0] 41)) w2.heap.size ⟨mq, mb, md, bt⟩ 0 none 0 0 ts _ hCx hRs hBr
    rw [hP] at c3
    have hRb : ((w2.alloc (.cells #[.map (some mq), .int .i64 0, .int .i64 64, .map (some mb), .int .i64 0, .int .i64 64, .map (some md), .slice ao1 ts.length k1, .slice none 0 0] 68)).alloc (.cells #[.int .i64 0, .int .i64 0, .int .i64 0, .int .i64 0] 70)).heap[w2.heap.size + 1]? = some (.cells #[.int .i64 0, .int .i64 0, .int .i64 0, .int .i64 0] 70) := by have := heap_alloc_new (w2.alloc (.cells #[.map (some mq), .int .i64 0, .int .i64 64, .map (some mb), .int .i64 0, .int .i64 64, .map (some md), .slice ao1 ts.length k1, .slice none 0 0] 68)) (.cells #[.int .i64 0, .int .i64 0, .int .i64 0, .int .i64 0] 70); simpa using this
    have z1 := hb1.size
    have z2 := hb2.size
    simp only [World.size_alloc] at z1 z2
    have h0A : ((w.alloc (.cells #[.int .i64 0, .int .i64 0, .slice none 0 0] 24)).alloc (.cells #[.int .i64 0, .int .i64 0, .int .i64 0, .int .i64 0] 41)).heap[w.heap.size]? = some (.cells #[.int .i64 0, .int .i64 0, .slice none 0 0] 24) := (Below.heap_alloc _ _ _ (by simp)).trans (heap_alloc_new _ _)
    have h0B : ((w.alloc (.cells #[.int .i64 0, .int .i64 0, .slice none 0 0] 24)).alloc (.cells #[.int .i64 0, .int .i64 0, .int .i64 0, .int .i64 0] 41)).heap[w.heap.size + 1]? = some (.cells #[.int .i64 0, .int .i64 0, .int .i64 0, .int .i64 0] 41) := by have := heap_alloc_new (w.alloc (.cells #[.int .i64 0, .int .i64 0, .slice none 0 0] 24)) (.cells #[.int .i64 0, .int .i64 0, .int .i64 0, .int .i64 0] 41); simpa using this
    have HW0 : Hid (∀ V, Below ((w.alloc (.cells #[.int .i64 0, .int .i64 0, .slice none 0 0] 24)).alloc (.cells #[.int .i64 0, .int .i64 0, .int .i64 0, .int .i64 0] 41)).heap.size ((w.alloc (.cells #[.int .i64 0, .int .i64 0, .slice none 0 0] 24)).alloc (.cells #[.int .i64 0, .int .i64 0, .int .i64 0, .int .i64 0] 41)) V -> V.heap[w.heap.size]? = some (.cells #[.int .i64 0, .int .i64 0, .slice none 0 0] 24) /\ V.heap[w.heap.size + 1]? = some (.cells #[.int .i64 0, .int .i64 0, .int .i64 0, .int .i64 0] 41) /\ Below w.heap.size w V /\ Te8 V) := hide (fun V hV => by
      have hw : Below w.heap.size w V := ((bnew _ _).trans ((bnew _ _).mono (by simp))).trans (hV.mono (by simp; omega))
      exact ⟨(hV.block _ (by simp; omega)).trans h0A, (hV.block _ (by simp)).trans h0B, hw, hE.below (World.block_lt_of_cell? _ _ hE) hw⟩)
    clear hm1 hm2 hm3 hown1 hq hqb hbd hCx h0A h0B hb1 hb2
    go_wp2_with (first
      | (go_at_call 25; (with_reducible refine Calls.mono c3 ?_); rintro e w3 ⟨hf3, rfl, hb3⟩; obtain ⟨hA3, hB3, hw3, hE3⟩ := HW0.out w3 hb3; have hR3 := (hf3 _ _ _ hRb).trans hRb)
      | (go_at_call 24; refine (eAs_hit c t (w2.heap.size + 1) _ _ _ _ w3 hE3 hR3).mono ?_; rintro e w4 ⟨rfl, hR4, hk4⟩; have hA := (hk4.block w.heap.size (Array.getElem?_eq_some_iff.1 hA3).1 (by simp; omega)).trans hA3; have hB := (hk4.block (w.heap.size + 1) (Array.getElem?_eq_some_iff.1 hB3).1 (by simp; omega)).trans hB3; obtain ⟨a0, a1, a2, a3⟩ := def_cells hA; obtain ⟨b0, b1, b2, b3, b4⟩ := st4_cells hB; obtain ⟨r0, r1, r2, r3, r4⟩ := st4_cells hR4))
    have fA : ∀ j, w4.frozen? ⟨w.heap.size, j, none⟩ = false := fun j => by simp [World.frozen?, hA]
    have fB : ∀ j, w4.frozen? ⟨w.heap.size + 1, j, none⟩ = false := fun j => by simp [World.frozen?, hB]
    have hw1 : Below w.heap.size w w4 := hw3.trans (hk4.below hw3.size (fun m hm => by rw [List.mem_singleton] at hm; omega))
    go_region
    obtain ⟨p1, p2, p3, -⟩ := par7 hA hB hw1 (.int .i64 0) (.int .i64 0) (.slice none 0 0) (.int .i64 (c : Int)) (.int .i64 (t.off : Int)) (.int .i64 (t.line : Int)) (.int .i64 (t.col : Int))
    generalize (((((((w4.setCell ⟨w.heap.size, 0, none⟩ (.int .i64 0)).setCell ⟨w.heap.size, 1, none⟩ (.int .i64 0)).setCell ⟨w.heap.size, 2, none⟩ (.slice none 0 0)).setCell ⟨w.heap.size + 1, 0, none⟩ (.int .i64 (c : Int))).setCell ⟨w.heap.size + 1, 1, none⟩ (.int .i64 (t.off : Int))).setCell ⟨w.heap.size + 1, 2, none⟩ (.int .i64 (t.line : Int))).setCell ⟨w.heap.size + 1, 3, none⟩ (.int .i64 (t.col : Int))) = X at *
    go_wp2_with fail
    refine bodyPost_ret (results_cc rfl _ _ w.heap.size (w.heap.size + 1) _ _ _ _ _ _ _ _ rfl p1 rfl p2 Tryz.underlying24 rfl (by exact infoCi) Tryz.underlying41 rfl (by exact infoFt)) rfl ?_
    exact ⟨p3.drew, rfl⟩
    | ok s ts' =>
    simp only
    go_enter Tryz.func9, Tryz.ntmps9
    go_wp2_with (first
      | (go_at_call 22; refine (c1 _ ((bnew _ _).trans ((bnew _ _).mono (by simp)))).mono ?_; rintro e w1 ⟨ao1, k1, rfl, hown1, hb1⟩)
      | (go_at_call 23; refine (c2 _).mono ?_; rintro e w2 ⟨mq, mb, md, rfl, hq, hqb, hbd, hm1, hm2, hm3, hb2⟩))
    obtain ⟨bt, hCx⟩ := par_cx (o2 := (.cells #[.int .i64 0, .int .i64 0, .int .i64 0, .int .i64 0] 70)) (hT.below ((bnew w (.cells #[.int .i64 0, .int .i64 0, .slice none 0 0] 24)).trans ((bnew _ (.cells #[.int .i64 0, .int .i64 0, .int .i64 0, .int .i64 0] 41)).mono (by simp)))) hFi hb1 hown1 hb2 hq hqb hbd hm1 hm2 hm3
    have c3 := cProgram ((w.alloc (.cells #[.int .i64 0, .int .i64 0, .slice none 0 0] 24)).alloc (.cells #[.int .i64 0, .int .i64 0, .int .i64 0, .int .i64 0] 41)) w2.heap.size ⟨mq, mb, md, bt⟩ 0 none 0 0 ts _ hCx hRs hBr
    rw [hP] at c3
    have hRb : ((w2.alloc (.cells #[.map (some mq), .int .i64 0, .int .i64 64, .map (some mb), .int .i64 0, .int .i64 64, .map (some md), .slice ao1 ts.length k1, .slice none 0 0] 68)).alloc (.cells #[.int .i64 0, .int .i64 0, .int .i64 0, .int .i64 0] 70)).heap[w2.heap.size + 1]? = some (.cells #[.int .i64 0, .int .i64 0, .int .i64 0, .int .i64 0] 70) := by have := heap_alloc_new (w2.alloc (.cells #[.map (some mq), .int .i64 0, .int .i64 64, .map (some mb), .int .i64 0, .int .i64 64, .map (some md), .slice ao1 ts.length k1, .slice none 0 0] 68)) (.cells #[.int .i64 0, .int .i64 0, .int .i64 0, .int .i64 0] 70); simpa using this
    have z1 := hb1.size
    have z2 := hb2.size
    simp only [World.size_alloc] at z1 z2
    have h0A : ((w.alloc (.cells #[.int .i64 0, .int .i64 0, .slice none 0 0] 24)).alloc (.cells #[.int .i64 0, .int .i64 0, .int .i64 0, .int .i64 0] 41)).heap[w.heap.size]? = some (.cells #[.int .i64 0, .int .i64 0, .slice none 0 0] 24) := (Below.heap_alloc _ _ _ (by simp)).trans (heap_alloc_new _ _)
    have h0B : ((w.alloc (.cells #[.int .i64 0, .int .i64 0, .slice none 0 0] 24)).alloc (.cells #[.int .i64 0, .int .i64 0, .int .i64 0, .int .i64 0] 41)).heap[w.heap.size + 1]? = some (.cells #[.int .i64 0, .int .i64 0, .int .i64 0, .int .i64 0] 41) := by have := heap_alloc_new (w.alloc (.cells #[.int .i64 0, .int .i64 0, .slice none 0 0] 24)) (.cells #[.int .i64 0, .int .i64 0, .int .i64 0, .int .i64 0] 41); simpa using this
    have HW0 : Hid (∀ V, Below ((w.alloc (.cells #[.int .i64 0, .int .i64 0, .slice none 0 0] 24)).alloc (.cells #[.int .i64 0, .int .i64 0, .int .i64 0, .int .i64 0] 41)).heap.size ((w.alloc (.cells #[.int .i64 0, .int .i64 0, .slice none 0 0] 24)).alloc (.cells #[.int .i64 0, .int .i64 0, .int .i64 0, .int .i64 0] 41)) V -> V.heap[w.heap.size]? = some (.cells #[.int .i64 0, .int .i64 0, .slice none 0 0] 24) /\ V.heap[w.heap.size + 1]? = some (.cells #[.int .i64 0, .int .i64 0, .int .i64 0, .int .i64 0] 41) /\ Below w.heap.size w V /\ Te8 V) := hide (fun V hV => by
      have hw : Below w.heap.size w V := ((bnew _ _).trans ((bnew _ _).mono (by simp))).trans (hV.mono (by simp; omega))
      exact ⟨(hV.block _ (by simp; omega)).trans h0A, (hV.block _ (by simp)).trans h0B, hw, hE.below (World.block_lt_of_cell? _ _ hE) hw⟩)
    clear hm1 hm2 hm3 hown1 hq hqb hbd hCx h0A h0B hb1 hb2
    go_wp2_with (first
      | (go_at_call 25; (with_reducible refine Calls.mono c3 ?_); rintro e w3 ⟨hf3, rfl, B', N', ao', n', c', hcx⟩; obtain ⟨hA3, hB3, hw3, hE3⟩ := HW0.out w3 hcx.rd.bel; obtain ⟨x0, x1, x2, x3, x4, x5, x6, x8⟩ := hcx.rt.cells; have hlr := hcx.rt.lt; have HCX := hide hcx; clear hcx)
      | (go_at_call 24; refine (eAs_nil _ w3).mono ?_; rintro e w4 ⟨rfl, rfl⟩)
      | refine wpList_store_row rfl _ _ _ rfl w.heap.size _ rfl rfl _ _ hA3 (by exact infoCi) (by rfl) (by simp [Value.oneCell']) ?_
      | refine wpList_store_row rfl _ _ _ rfl (w.heap.size + 1) _ rfl rfl _ _ ((setRow_other _ _ _ _ (by omega)).trans hB3) (by exact infoFt) (by rfl) (by simp [Value.oneCell']) ?_)
    have hB5 : (w4.setRow w.heap.size #[.int .i64 (s.d.q.size : Int), .int .i64 (s.d.b.size : Int), .slice ao' n' c']).heap[w.heap.size + 1]? = some (.cells #[.int .i64 0, .int .i64 0, .int .i64 0, .int .i64 0] 41 (0, 0)) := (setRow_other _ _ _ _ (by omega)).trans hB3
    refine bodyPost_ret (results_cc rfl _ _ w.heap.size (w.heap.size + 1) _ _ _ _ _ _ _ _ rfl ((setRow_other _ _ _ _ (by omega)).trans (setRow_heap _ _ _ _ _ _ hA3)) rfl (setRow_heap _ _ _ _ _ _ hB5) Tryz.underlying24 rfl (by exact infoCi) Tryz.underlying41 rfl (by exact infoFt)) rfl ?_
    have hln := HCX.out.op.len
    refine ⟨Below.row (Below.row hw3 _ _ (Nat.le_refl _)) _ _ (by omega), ao', c', by rw [hln], ?_⟩
    have hO := HCX.out.op.base (B' := w.heap.size) (by simp; omega)
    rw [hln] at hO
    refine hO.keptM (M := [w.heap.size, w.heap.size + 1]) (((Kb.refl _ _).setRow _ _ (.inl (by simp))).setRow _ _ (.inl (by simp))) fun m hm cs t fr hg => ?_
    simp only [List.mem_cons, List.not_mem_nil, or_false] at hm
    rcases hm with rfl | rfl
    . rw [hA3] at hg
      simp only [Option.some.injEq, Obj.cells.injEq] at hg
      rw [← hg.2.1]; exact ⟨by decide, by decide⟩
    . rw [hB3] at hg
      simp only [Option.some.injEq, Obj.cells.injEq] at hg
      rw [← hg.2.1]; exact ⟨by decide, by decide⟩
theorem set6_take (xs : List Value) (i : Nat) (a b c d e f : Value) (h : (i + 1) * 6 <= xs.length) : ((((((xs.set (i * 6) a).set (i * 6 + 1) b).set (i * 6 + 2) c).set (i * 6 + 3) d).set (i * 6 + 4) e).set (i * 6 + 5) f).take ((i + 1) * 6) = xs.take (i * 6) ++ [a, b, c, d, e, f] := by
  have e1 : xs = xs.take (i * 6) ++ xs.drop (i * 6) := (List.take_append_drop _ _).symm
  obtain ⟨p, hp⟩ : ∃ p, xs.take (i * 6) = p := ⟨_, rfl⟩
  obtain ⟨q, hq⟩ : ∃ q, xs.drop (i * 6) = q := ⟨_, rfl⟩
  have hpl : p.length = i * 6 := by rw [← hp, List.length_take]; omega
  have hql : 6 <= q.length := by rw [← hq, List.length_drop]; omega
  rw [hp]
  rw [hp, hq] at e1
  rw [e1, ← hpl, show (i + 1) * 6 = p.length + 6 by omega]
  match q, hql with
  | q0 :: q1 :: q2 :: q3 :: q4 :: q5 :: r, _ =>
    have hz : (p ++ a :: b :: c :: d :: e :: f :: r).take (p.length + 6) = p ++ [a, b, c, d, e, f] := by
      rw [List.take_append, List.take_of_length_le (by omega), Nat.add_sub_cancel_left]
      rfl
    rw [← hz]
    simp
theorem set_mid (p : List Value) (a b c d e f v : Value) (i : Nat) (h : p.length = i * 6) : (p ++ [a, b, c, d, e, f]).set (i * 6 + 2) v = p ++ [a, b, v, d, e, f] := by
  rw [← h]
  simp
theorem take6 (xs : List Value) (i : Nat) (h : (i + 1) * 6 <= xs.length) : ∃ a b c d e f, xs[i * 6]? = some a /\ xs[i * 6 + 1]? = some b /\ xs[i * 6 + 2]? = some c /\ xs[i * 6 + 3]? = some d /\ xs[i * 6 + 4]? = some e /\ xs[i * 6 + 5]? = some f :=
  ⟨_, _, _, _, _, _, List.getElem?_eq_getElem (by omega), List.getElem?_eq_getElem (by omega), List.getElem?_eq_getElem (by omega), List.getElem?_eq_getElem (by omega), List.getElem?_eq_getElem (by omega), List.getElem?_eq_getElem (by omega)⟩
theorem make_op (n : Nat) (hn : n <= 1000000) (w : World) : ∃ w' xs, (Instr.makeSlice 22 (.int .i64 (n : Int)) (.int .i64 (n : Int))).run Tryz.prog w = .ok (.slice (some ⟨w.heap.size, 0, none⟩) n n) w' /\ w'.ownsRow w.heap.size 34 6 (.slice (some ⟨w.heap.size, 0, none⟩) n n) n xs /\ Below w.heap.size w w' := by
  obtain ⟨i, hi, hz0, hz1, hz2⟩ := info_parts infoOp
  obtain ⟨w', h1, h2, h3⟩ := run_make_full (P := Tryz.prog) w w.heap.size 22 34 i _ 6 Tryz.underlying22 hi hz0 hz1 .i64 .i64 n (by rw [hz2]; omega) (by unfold maxLen; omega) (Nat.le_refl _)
  exact ⟨w', _, h1, h2, ⟨h3.os, h3.tape, h3.output, h3.size, fun k hk => h3.block k hk (by simp)⟩⟩
def Sml (ops : List COp) : Prop := ops.length <= 1000000 /\ ∀ o ∈ ops, 0 < o.qs.length /\ o.qs.length <= 1000000
theorem IsI.below {w w' : World} {v : Value} {l : List Int} (h : IsI w v l) (hb : Below w.heap.size w w') : IsI w' v l := h.block fun g _ _ hg => hb.block g (Array.getElem?_eq_some_iff.1 hg).1
theorem IsI.of_own {w : World} {B g c : Nat} {l : List Int} (h : w.ownsRow B 3 1 (.slice (some ⟨g, 0, none⟩) l.length c) l.length (l.map (Value.int .i64))) : IsI w (.slice (some ⟨g, 0, none⟩) l.length c) l := by
  rcases h.2 with ⟨hv, h0⟩ | ⟨g', cap, cur, hv, hbg, hg, h1, h2, h3, h4⟩
  . cases hv
  . simp only [Value.slice.injEq, Option.some.injEq, Addr.mk.injEq] at hv
    obtain ⟨⟨rfl, -⟩, -, rfl⟩ := hv
    refine .inr ⟨g, 0, c, cur, _, rfl, h1, hg, fun j z hj => ?_⟩
    have : (l.map (Value.int .i64))[j]? = some (.int .i64 z) := by rw [List.getElem?_map, hj]; rfl
    rw [← h4, List.getElem?_take] at this
    split at this
    . rw [Nat.zero_add]; simpa using this
    . cases this
theorem cCopyOps (ops : List COp) (ao : Option Addr) (k : Nat) (hS : Sml ops) (w : World) (hO : OpsIn w ao ops) : Calls Tryz.prog 37 #[.slice ao ops.length k] w fun e w' => ∃ g, e = .returned (.slice (some ⟨g, 0, none⟩) ops.length ops.length) /\ OpsAt w' w.heap.size (some ⟨g, 0, none⟩) ops.length ops.length ops /\ Below w.heap.size w w' := by
  have HO := hide hO
  have HSm := hide hS.2
  have hsl := hS.1
  obtain ⟨n, hn⟩ : ∃ n, ops.length = n := ⟨_, rfl⟩
  have HL := hide hn
  rw [hn] at hsl ⊢
  clear hn hO hS
  obtain ⟨w1, xs1, hmk, hown1, hb1⟩ := make_op n hsl w
  have HM := hide hown1
  have HB := hide hb1
  clear hown1 hb1
  go_enter Tryz.func37, Tryz.ntmps37
  go_wp2_with fail
  go_loopw [4, 11] (fun _ vi wr => ∃ i : Nat, vi = .int .i64 (i : Int) /\ i <= n /\ Below w.heap.size w wr /\ ∃ (xs : List Value) (ys : List (COp × Value)), wr.ownsRow w.heap.size 34 6 (.slice (some ⟨w.heap.size, 0, none⟩) n n) n xs /\ ys.map (·.1) = ops.take i /\ (∀ x ∈ ys, IsI wr x.2 x.1.qs) /\ xs.take (i * 6) = ys.flatMap opC) (fun _ vi _ => n - (Go.RowKit.intOf vi).toNat)
  case atStart => exact ⟨0, rfl, Nat.zero_le _, HB.out, xs1, [], HM.out, rfl, (fun _ h => absurd h List.not_mem_nil), by simp⟩
  case round =>
    obtain ⟨i, rfl, hi, hb, xs, ys, hown, hys, hI, hxs⟩ := hrel
    by_cases h : i < n
    . have hd : decide ((i : Int) < (n : Int)) = true := decide_eq_true (by omega)
      obtain ⟨o, ho⟩ : ∃ o, ops[i]? = some o := ⟨_, List.getElem?_eq_getElem (by rw [HL.out]; exact h)⟩
      obtain ⟨g, off, aq, cq, rfl, hgl0, hoc0⟩ := HO.out.at ho
      have hoc := hoc0.below hb
      have hgl : g < wr.heap.size := Nat.lt_of_lt_of_le hgl0 hb.size
      have hgG : g ≠ w.heap.size := by omega
      obtain ⟨hq0, hq1⟩ := HSm.out o (List.mem_of_getElem? ho)
      have hxl := hown.1
      obtain ⟨z0, z1, z2, z3, z4, z5, y0, y1, y2, y3, y4, y5⟩ := take6 xs i (by omega)
      have k0 := hoc.kind
      have k1 := hoc.gate
      have k2 := hoc.qs
      have k3 := hoc.bit
      have k4 := hoc.cond
      have k5 := hoc.whn
      have d0 := own_at hown _ _ y0
      have d1 := own_at hown _ _ y1
      have d2 := own_at hown _ _ y2
      have d3 := own_at hown _ _ y3
      have d4 := own_at hown _ _ y4
      have d5 := own_at hown _ _ y5
      have df := own_free hown
      have hgw : w.heap.size < wr.heap.size := (own_lt hown w.heap.size rfl).2
      have hkk : (i : Int) < (n : Int) := by omega
      have c1 := fun V (hN : Ns V aq o.qs) => sClone aq cq o.qs hq1 hq0 V hN
      have HNS := hide hoc0.ns
      have HOW := hide hown
      have HYS := hide hys
      have HI := hide hI
      have HXS := hide hxs
      have HOO := hide ho
      clear hoc hoc0 ho y0 y1 y2 y3 y4 y5 hown hys hI hxs
      obtain ⟨kind, gate, qs, bit, cond, whn⟩ := o
      simp only at k0 k1 k2 k3 k4 k5 c1 hq0 hq1 HNS
      go_wp2_with fail
      have hXo : (((((((wr.setCell ⟨w.heap.size, i * 6, none⟩ (.int .i64 kind)).setCell ⟨w.heap.size, i * 6 + 1, none⟩ (.int .i64 gate)).setCell ⟨w.heap.size, i * 6 + 2, none⟩ (.slice aq qs.length cq)).setCell ⟨w.heap.size, i * 6 + 3, none⟩ (.int .i64 bit)).setCell ⟨w.heap.size, i * 6 + 4, none⟩ (.int .i64 cond)).setCell ⟨w.heap.size, i * 6 + 5, none⟩ (.int .i64 whn))).ownsRow w.heap.size 34 6 (.slice (some ⟨w.heap.size, 0, none⟩) n n) n ((((((xs.set (i * 6) (.int .i64 kind)).set (i * 6 + 1) (.int .i64 gate)).set (i * 6 + 2) (.slice aq qs.length cq)).set (i * 6 + 3) (.int .i64 bit)).set (i * 6 + 4) (.int .i64 cond)).set (i * 6 + 5) (.int .i64 whn)) := own_set (own_set (own_set (own_set (own_set (own_set HOW.out _ _) _ _) _ _) _ _) _ _) _ _
      have hXb : Below w.heap.size w (((((((wr.setCell ⟨w.heap.size, i * 6, none⟩ (.int .i64 kind)).setCell ⟨w.heap.size, i * 6 + 1, none⟩ (.int .i64 gate)).setCell ⟨w.heap.size, i * 6 + 2, none⟩ (.slice aq qs.length cq)).setCell ⟨w.heap.size, i * 6 + 3, none⟩ (.int .i64 bit)).setCell ⟨w.heap.size, i * 6 + 4, none⟩ (.int .i64 cond)).setCell ⟨w.heap.size, i * 6 + 5, none⟩ (.int .i64 whn))) := (((((hb.setCell (p := ⟨w.heap.size, i * 6, none⟩) (Nat.le_refl _) _).setCell (p := ⟨w.heap.size, i * 6 + 1, none⟩) (Nat.le_refl _) _).setCell (p := ⟨w.heap.size, i * 6 + 2, none⟩) (Nat.le_refl _) _).setCell (p := ⟨w.heap.size, i * 6 + 3, none⟩) (Nat.le_refl _) _).setCell (p := ⟨w.heap.size, i * 6 + 4, none⟩) (Nat.le_refl _) _).setCell (p := ⟨w.heap.size, i * 6 + 5, none⟩) (Nat.le_refl _) _
      have hXk : ∀ b, b ≠ w.heap.size -> (((((((wr.setCell ⟨w.heap.size, i * 6, none⟩ (.int .i64 kind)).setCell ⟨w.heap.size, i * 6 + 1, none⟩ (.int .i64 gate)).setCell ⟨w.heap.size, i * 6 + 2, none⟩ (.slice aq qs.length cq)).setCell ⟨w.heap.size, i * 6 + 3, none⟩ (.int .i64 bit)).setCell ⟨w.heap.size, i * 6 + 4, none⟩ (.int .i64 cond)).setCell ⟨w.heap.size, i * 6 + 5, none⟩ (.int .i64 whn))).heap[b]? = wr.heap[b]? := fun b hb' => by
        rw [Below.heap_setCell _ _ _ _ hb', Below.heap_setCell _ _ _ _ hb', Below.heap_setCell _ _ _ _ hb', Below.heap_setCell _ _ _ _ hb', Below.heap_setCell _ _ _ _ hb', Below.heap_setCell _ _ _ _ hb']
      have hXs : (((((((wr.setCell ⟨w.heap.size, i * 6, none⟩ (.int .i64 kind)).setCell ⟨w.heap.size, i * 6 + 1, none⟩ (.int .i64 gate)).setCell ⟨w.heap.size, i * 6 + 2, none⟩ (.slice aq qs.length cq)).setCell ⟨w.heap.size, i * 6 + 3, none⟩ (.int .i64 bit)).setCell ⟨w.heap.size, i * 6 + 4, none⟩ (.int .i64 cond)).setCell ⟨w.heap.size, i * 6 + 5, none⟩ (.int .i64 whn))).heap.size = wr.heap.size := by simp [World.setCell]
      generalize (((((((wr.setCell ⟨w.heap.size, i * 6, none⟩ (.int .i64 kind)).setCell ⟨w.heap.size, i * 6 + 1, none⟩ (.int .i64 gate)).setCell ⟨w.heap.size, i * 6 + 2, none⟩ (.slice aq qs.length cq)).setCell ⟨w.heap.size, i * 6 + 3, none⟩ (.int .i64 bit)).setCell ⟨w.heap.size, i * 6 + 4, none⟩ (.int .i64 cond)).setCell ⟨w.heap.size, i * 6 + 5, none⟩ (.int .i64 whn))) = X at *
      have hYb : Below w.heap.size w (X.alloc (.cells #[.int .i64 kind, .int .i64 gate, .slice aq qs.length cq, .int .i64 bit, .int .i64 cond, .int .i64 whn] 34)) := hXb.trans ((bnew _ _).mono hXb.size)
      have hYo := hXo.alloc (.cells #[.int .i64 kind, .int .i64 gate, .slice aq qs.length cq, .int .i64 bit, .int .i64 cond, .int .i64 whn] 34)
      have hYk : ∀ b, b < wr.heap.size -> b ≠ w.heap.size -> (X.alloc (.cells #[.int .i64 kind, .int .i64 gate, .slice aq qs.length cq, .int .i64 bit, .int .i64 cond, .int .i64 whn] 34)).heap[b]? = wr.heap[b]? := fun b hl hb' => (Below.heap_alloc _ _ _ (by omega)).trans (hXk b hb')
      have hYs : (X.alloc (.cells #[.int .i64 kind, .int .i64 gate, .slice aq qs.length cq, .int .i64 bit, .int .i64 cond, .int .i64 whn] 34)).heap.size = wr.heap.size + 1 := by rw [World.size_alloc, hXs]
      generalize (X.alloc (.cells #[.int .i64 kind, .int .i64 gate, .slice aq qs.length cq, .int .i64 bit, .int .i64 cond, .int .i64 whn] 34)) = Y at *
      refine (c1 Y (HNS.out.below hYb)).mono ?_
      rintro e w3 ⟨g3, c3, rfl, hown3, hb3⟩
      have h3o := own_below hYo hb3
      have hlt2 : i * 6 + 2 < xs.length := by rw [hxl]; omega
      have m2 : w3.cell? ⟨w.heap.size, i * 6 + 2, none⟩ = some (.slice aq qs.length cq) := own_at h3o _ _ (by
        rw [List.getElem?_set_ne (by omega), List.getElem?_set_ne (by omega), List.getElem?_set_ne (by omega), List.getElem?_set_self (by simpa using hlt2)])
      have mf := own_free h3o (i * 6 + 2)
      have hz3 := hb3.size
      have hnG : g3 ≠ w.heap.size := by have := (own_lt hown3 g3 rfl).1; omega
      have H3 : Hid (∃ (xs' : List Value) (ys' : List (COp × Value)), (w3.setCell ⟨w.heap.size, i * 6 + 2, none⟩ (.slice (some ⟨g3, 0, none⟩) qs.length c3)).ownsRow w.heap.size 34 6 (.slice (some ⟨w.heap.size, 0, none⟩) n n) n xs' /\ ys'.map (·.1) = ops.take (i + 1) /\ (∀ x ∈ ys', IsI (w3.setCell ⟨w.heap.size, i * 6 + 2, none⟩ (.slice (some ⟨g3, 0, none⟩) qs.length c3)) x.2 x.1.qs) /\ xs'.take ((i + 1) * 6) = ys'.flatMap opC) := hide (by
        obtain ⟨Gcs, Gfr, hG⟩ := own_cells' h3o (k := w.heap.size) rfl
        have hkI : ∀ (b : Nat) (cs : Array Value) (fr : Nat × Nat), w3.heap[b]? = some (Obj.cells cs 3 fr) -> (w3.setCell ⟨w.heap.size, i * 6 + 2, none⟩ (.slice (some ⟨g3, 0, none⟩) qs.length c3)).heap[b]? = w3.heap[b]? := fun b cs fr hbb => Below.heap_setCell _ _ _ _ (fun e => by
          rw [show b = w.heap.size from e, hG] at hbb
          simp at hbb)
        obtain ⟨Rcs, Rfr, hRG⟩ := own_cells' HOW.out (k := w.heap.size) rfl
        refine ⟨_, ys ++ [(⟨kind, gate, qs, bit, cond, whn⟩, .slice (some ⟨g3, 0, none⟩) qs.length c3)], own_set h3o _ _, ?_, fun x hx => ?_, ?_⟩
        . rw [List.map_append, HYS.out, List.take_add_one, HOO.out]
          rfl
        . rcases List.mem_append.1 hx with hx | hx
          . refine ((HI.out x hx).block (fun b cs fr hbb => ?_)).block hkI
            have hlb := (Array.getElem?_eq_some_iff.1 hbb).1
            have hne : b ≠ w.heap.size := fun e => by
              rw [e, hRG] at hbb
              simp at hbb
            exact (hb3.block b (by omega)).trans (hYk b hlb hne)
          . rw [List.mem_singleton] at hx
            subst hx
            exact (IsI.of_own hown3).block hkI
        . rw [List.take_set, set6_take _ _ _ _ _ _ _ _ (by omega), set_mid _ _ _ _ _ _ _ _ _ (by rw [List.length_take]; omega), HXS.out, List.flatMap_append]
          rfl)
      have hb4 : Below w.heap.size w w3 := hYb.trans (hb3.mono hYb.size)
      clear hown3 h3o hYo hXo
      go_wp2_with fail
      go_roundw
      case rel =>
        obtain ⟨xs', ys', q1, q2, q3, q4⟩ := H3.out
        exact ⟨i + 1, by go_num, by omega, hb4.setCell (p := ⟨w.heap.size, i * 6 + 2, none⟩) (Nat.le_refl _) _, xs', ys', q1, q2, q3, q4⟩
      case measure => simp [Go.RowKit.intOf]; omega
    . obtain rfl : n = i := by omega
      have HF : Hid (OpsAt wr w.heap.size (some ⟨w.heap.size, 0, none⟩) n n ops) := hide (by
        have hxl := hown.1
        rw [List.take_of_length_le (by omega)] at hxs
        rw [List.take_of_length_le (by rw [HL.out]; exact Nat.le_refl _)] at hys
        refine ⟨ys, ?_, hys.symm, by rw [← hxs]; exact hown, hI⟩
        rw [← HL.out, ← hys, List.length_map])
      clear hown hys hI hxs
      go_wp2_with fail
      go_ret
      exact ⟨w.heap.size, rfl, HF.out, hb⟩
theorem OpsAt.row {w : World} {B : Nat} {ao : Option Addr} {n c : Nat} {ops : List COp} (h : OpsAt w B ao n c ops) {g : Nat} {cs : Array Value} {t : TypeId} {fr : Nat × Nat} (hg : w.heap[g]? = some (.cells cs t fr)) (h1 : t ≠ 34) (h2 : t ≠ 3) (cs' : Array Value) : OpsAt (w.setRow g cs') B ao n c ops :=
  h.keptM (M := [g]) ((Kb.refl _ _).setRow _ _ (.inl (by simp))) fun m hm cs2 t2 fr2 hg2 => by
    rw [List.mem_singleton] at hm
    rw [hm, hg] at hg2
    simp only [Option.some.injEq, Obj.cells.injEq] at hg2
    rw [← hg2.2.1]
    exact ⟨h1, h2⟩
theorem cCopy (c : Circ) (ao : Option Addr) (k : Nat) (hS : Sml c.ops) (w : World) (hC : Ci w c ao k) : Calls Tryz.prog 18 #[cV c ao k] w fun e w' => ∃ bo j, e = .returned (cV c bo j) /\ OpsAt w' w.heap.size bo c.ops.length j c.ops /\ Below w.heap.size w w' := by
  have c1 := fun V (h : Below w.heap.size w V) => cCopyOps c.ops ao k hS V (hC.ops.below h)
  unfold cV
  obtain ⟨q, b, ops⟩ := c
  simp only at c1 ⊢
  obtain ⟨n, hn⟩ : ∃ n, ops.length = n := ⟨_, rfl⟩
  rw [hn] at c1 ⊢
  clear hC hS hn
  have hb0 : Below w.heap.size w ((w.alloc (.cells #[.int .i64 q, .int .i64 b, .slice ao n k] 24)).alloc (.cells #[.int .i64 0, .int .i64 0, .slice none 0 0] 24)) := (bnew _ _).trans ((bnew _ _).mono (by simp))
  have HB0 := hide hb0
  clear hb0
  go_enter Tryz.func18, Tryz.ntmps18
  go_wp2_with (first
    | (go_at_call 37; refine (c1 _ HB0.out).mono ?_; rintro e w1 ⟨g1, rfl, hO1, hb1⟩; obtain ⟨m1, m2⟩ := may_keep hb1; obtain ⟨x0, x1, x2, x3⟩ := def_cells m1; have xf : w1.frozen? ⟨w.heap.size, 2, none⟩ = false := (by simp [World.frozen?, m1]); have hz1 := hb1.size; simp only [World.size_alloc] at hz1)
    | refine wpList_store_row rfl _ _ _ rfl (w.heap.size + 1) _ rfl rfl _ _ ((Below.heap_setCell _ _ _ _ (by simp)).trans m2) (by exact infoCi) (by rfl) (by simp [Value.oneCell']) ?_)
  have e1 : (w1.setCell ⟨w.heap.size, 2, none⟩ (.slice (some ⟨g1, 0, none⟩) n n)) = w1.setRow w.heap.size #[.int .i64 q, .int .i64 b, .slice (some ⟨g1, 0, none⟩) n n] := by
    rw [setCell_eq_setRow _ _ 2 _ _ _ _ m1]
    rfl
  rw [e1]
  have m3 : (w1.setRow w.heap.size #[.int .i64 q, .int .i64 b, .slice (some ⟨g1, 0, none⟩) n n]).heap[w.heap.size + 1]? = some (.cells #[.int .i64 0, .int .i64 0, .slice none 0 0] 24 (0, 0)) := (setRow_other _ _ _ _ (by omega)).trans m2
  refine bodyPost_ret (results_c rfl _ _ (w.heap.size + 1) _ _ _ _ rfl (setRow_heap _ _ _ _ _ _ m3) Tryz.underlying24 rfl (by exact infoCi)) rfl ?_
  refine ⟨some ⟨g1, 0, none⟩, n, rfl, ?_, Below.row (Below.row (HB0.out.trans (hb1.mono HB0.out.size)) _ _ (Nat.le_refl _)) _ _ (by omega)⟩
  exact ((hO1.base HB0.out.size).row m1 (by decide) (by decide) _).row m3 (by decide) (by decide) _
theorem cEmbed_no (c : Circ) (ao : Option Addr) (k : Nat) (aq ab : Option Addr) (nq nb cq cb : Nat) (n m : Int) (hk : (chkC c).2 = 0) (hq : (nq : Int) ≠ c.q) (w : World) (hT : Tb w) (hC : Ci w c ao k) : Calls Tryz.prog 16 #[cV c ao k, .slice aq nq cq, .slice ab nb cb, .int .i64 n, .int .i64 m] w fun e w' => e = .returned (.tuple #[.agg #[.int .i64 0, .int .i64 0, .slice none 0 0], .int .i64 2]) /\ Below w.heap.size w w' := by
  have c1 := fun V (h : Below w.heap.size w V) => cCheck c ao k V (hT.below h) (hC.below h)
  rw [hk] at c1
  obtain ⟨q, b, ops⟩ := c
  unfold cV at *
  simp only at c1 hq ⊢
  generalize (chkC ⟨q, b, ops⟩).1 = z at *
  generalize ops.length = nn at *
  have e1 : ((nq : Int) == q) = false := by simpa using hq
  clear hC hk hq
  have hb0 : Below w.heap.size w ((((w.alloc (.cells #[.int .i64 q, .int .i64 b, .slice ao nn k] 24)).alloc (.cells #[.slice aq nq cq] 32)).alloc (.cells #[.slice ab nb cb] 32)).alloc (.cells #[.int .i64 0, .int .i64 0, .slice none 0 0] 24)) := (bnew _ _).trans (((bnew _ _).trans (((bnew _ _).trans ((bnew _ _).mono (by simp))).mono (by simp))).mono (by simp))
  have h1 : ((((w.alloc (.cells #[.int .i64 q, .int .i64 b, .slice ao nn k] 24)).alloc (.cells #[.slice aq nq cq] 32)).alloc (.cells #[.slice ab nb cb] 32)).alloc (.cells #[.int .i64 0, .int .i64 0, .slice none 0 0] 24)).heap[w.heap.size]? = some (.cells #[.int .i64 q, .int .i64 b, .slice ao nn k] 24 (0, 0)) := (Below.heap_alloc _ _ _ (by simp; omega)).trans ((Below.heap_alloc _ _ _ (by simp; omega)).trans ((Below.heap_alloc _ _ _ (by simp)).trans (heap_alloc_new _ _)))
  have h2 : ((((w.alloc (.cells #[.int .i64 q, .int .i64 b, .slice ao nn k] 24)).alloc (.cells #[.slice aq nq cq] 32)).alloc (.cells #[.slice ab nb cb] 32)).alloc (.cells #[.int .i64 0, .int .i64 0, .slice none 0 0] 24)).heap[w.heap.size + 1]? = some (.cells #[.slice aq nq cq] 32 (0, 0)) := (Below.heap_alloc _ _ _ (by simp)).trans ((Below.heap_alloc _ _ _ (by simp)).trans (by have := heap_alloc_new (w.alloc (.cells #[.int .i64 q, .int .i64 b, .slice ao nn k] 24)) (.cells #[.slice aq nq cq] 32); simpa using this))
  have h3 : ((((w.alloc (.cells #[.int .i64 q, .int .i64 b, .slice ao nn k] 24)).alloc (.cells #[.slice aq nq cq] 32)).alloc (.cells #[.slice ab nb cb] 32)).alloc (.cells #[.int .i64 0, .int .i64 0, .slice none 0 0] 24)).heap[w.heap.size + 1 + 1 + 1]? = some (.cells #[.int .i64 0, .int .i64 0, .slice none 0 0] 24 (0, 0)) := by have := heap_alloc_new (((w.alloc (.cells #[.int .i64 q, .int .i64 b, .slice ao nn k] 24)).alloc (.cells #[.slice aq nq cq] 32)).alloc (.cells #[.slice ab nb cb] 32)) (.cells #[.int .i64 0, .int .i64 0, .slice none 0 0] 24); simpa using this
  have HB0 := hide hb0
  have H1 := hide h1
  have H2 := hide h2
  have H3 := hide h3
  clear hb0 h1 h2 h3
  go_enter Tryz.func16, Tryz.ntmps16
  go_wp2_with (first
    | (go_at_call 4; refine (c1 _ HB0.out).mono ?_; rintro e w1 ⟨rfl, hb1⟩; have m1 := (hb1.block w.heap.size (by simp; omega)).trans H1.out; have m2 := (hb1.block (w.heap.size + 1) (by simp)).trans H2.out; have m3 := (hb1.block (w.heap.size + 1 + 1 + 1) (by simp)).trans H3.out; obtain ⟨x0, x1, x2, x3⟩ := def_cells m1; have y0 : w1.cell? ⟨w.heap.size + 1, 0, none⟩ = some (.slice aq nq cq) := cell_of_row _ _ 0 _ _ _ m2; have hz1 := hb1.size; simp only [World.size_alloc] at hz1)
    | refine wpList_store_row rfl _ _ _ rfl (w.heap.size + 1 + 1 + 1) _ rfl rfl _ _ m3 (by exact infoCi) (by rfl) (by simp [Value.oneCell']) ?_)
  refine bodyPost_ret (results_ct rfl _ _ (w.heap.size + 1 + 1 + 1) _ _ _ _ rfl (setRow_heap _ _ _ _ _ _ m3) Tryz.underlying24 rfl (by exact infoCi)) rfl ?_
  exact ⟨rfl, Below.row (HB0.out.trans (hb1.mono HB0.out.size)) _ _ (by omega)⟩
def cnO (j : Nat) (o : COp) : Bool := decide (o.kind = 1) && knB (rw' o.gate) && decide (o.gate = (j : Int))
def cntL (ops : List COp) (j : Nat) : Nat := (ops.filter (cnO j)).length
theorem cnt_succ (ops : List COp) (i j : Nat) (o : COp) (h : ops[i]? = some o) : cntL (ops.take (i + 1)) j = cntL (ops.take i) j + (if cnO j o then 1 else 0) := by
  unfold cntL
  rw [List.take_add_one, h, List.filter_append, List.length_append]
  congr 1
  cases hb : cnO j o <;> simp [hb]
theorem cnt_le (ops : List COp) (i j : Nat) : cntL (ops.take i) j <= i := by
  unfold cntL
  refine Nat.le_trans (List.length_filter_le _ _) ?_
  rw [List.length_take]
  omega
theorem kn_range (g : Int) (h : knB (rw' g) = true) : ∃ m : Nat, g = (m : Int) /\ m < 21 := by
  unfold rw' at h
  split at h
  . rename_i hh
    exact ⟨g.toNat, by omega, by omega⟩
  . exact absurd h (by decide)
def cntF (ops : List COp) (j : Nat) : Value := .int .i64 (cntL ops j : Int)
theorem cCounts (c : Circ) (ao : Option Addr) (k : Nat) (w : World) (hT : Tb w) (hC : Ci w c ao k) : Calls Tryz.prog 17 #[cV c ao k] w fun e w' => ∃ g, e = .returned (.slice (some ⟨g, 0, none⟩) 21 21) /\ Rk w' g 3 21 (cntF c.ops) /\ w.heap.size <= g /\ Below w.heap.size w w' := by
  have HT := hide hT
  have HC := hide hC
  have c0 := fun V (h : Below w.heap.size w V) => gKinds V (hT.below h)
  have hmk : ∀ W : World, (Instr.makeSlice 32 (.int .i64 21) (.int .i64 21)).run Tryz.prog W = .ok (.slice (some ⟨W.heap.size, 0, none⟩) 21 21) (W.alloc (.cells (madeCells #[.int .i64 0] 21) 3)) := fun W => make_in 21 (by omega) W
  obtain ⟨n, hn⟩ : ∃ n, c.ops.length = n := ⟨_, rfl⟩
  have HL := hide hn
  have hlen := hC.len
  obtain ⟨q, b, ops⟩ := c
  unfold cV
  simp only at hn hlen HL ⊢
  rw [hn] at hlen ⊢
  clear hn hT hC
  go_enter Tryz.func17, Tryz.ntmps17
  go_wp2_with (first
    | (go_at_call 41; refine (c0 _ (bnew _ _)).mono ?_; rintro e w1 ⟨g1, c1, rfl, hown1, hb1⟩; have hk1 := (hb1.block w.heap.size (by simp)).trans (heap_alloc_new w (.cells #[.int .i64 q, .int .i64 b, .slice ao n k] 24)); obtain ⟨x0, x1, x2, x3⟩ := def_cells hk1))
  have hw1 : Below w.heap.size w w1 := (bnew _ _).trans (hb1.mono (by simp))
  have hR0 := (rk_mk w1 21 3 (.int .i64 0)).congr (f' := cntF (ops.take 0)) (fun j _ => rfl)
  have HR0 := hide hR0
  have hw2 : Below w.heap.size w (w1.alloc (.cells (madeCells #[.int .i64 0] 21) 3)) := hw1.trans ((bnew _ _).mono hw1.size)
  have HW2 := hide hw2
  have hz1 := hw1.size
  clear hown1 hR0 hw2 hk1
  go_loopw [13] (fun vi wr => ∃ i : Nat, vi = .int .i64 (i : Int) /\ i <= n /\ Rk wr w1.heap.size 3 21 (cntF (ops.take i)) /\ Below w.heap.size w wr) (fun vi _ => n - (Go.RowKit.intOf vi).toNat)
  case atStart => exact ⟨0, rfl, Nat.zero_le _, HR0.out, HW2.out⟩
  case round =>
    obtain ⟨i, rfl, hi, hRk, hb⟩ := hrel
    by_cases h : i < n
    . have hd : decide ((i : Int) < (n : Int)) = true := decide_eq_true (by omega)
      obtain ⟨o, ho⟩ : ∃ o, ops[i]? = some o := ⟨_, List.getElem?_eq_getElem (by rw [HL.out]; exact h)⟩
      obtain ⟨g, off, aq, cq, rfl, hgl, hoc⟩ := (HC.out.below hb).ops.at (show (⟨q, b, ops⟩ : Circ).ops[i]? = some o from ho)
      have k0 := hoc.kind
      have k1 := hoc.gate
      have k2 := hoc.qs
      have k3 := hoc.bit
      have k4 := hoc.cond
      have k5 := hoc.whn
      have HS := hide (fun j => cnt_succ ops i j o ho)
      have c2 := fun V (h : Below wr.heap.size wr V) => gArity o.gate V ((HT.out.below hb).below h)
      have hz := hb.size
      have hlr := hRk.lt
      have HRK := hide hRk
      unfold cnO at HS
      clear hoc ho hRk
      obtain ⟨kind, gate, qs, bit, cond, whn⟩ := o
      simp only at k0 k1 k2 k3 k4 k5 HS c2
      by_cases hk : kind = 1
      . subst hk
        by_cases hq : knB (rw' gate) = true
        . obtain ⟨m, rfl, hm⟩ := kn_range gate hq
          have hqq : decide ((rw' (m : Int)).q > 0) = true := hq
          have hqq2 : decide (0 < (rw' (m : Int)).q) = true := hq
          generalize (rw' (m : Int)).q = rq at *
          have hle := cnt_le ops i m
          have hcell : ∀ V, Below wr.heap.size wr V -> V.cell? ⟨w1.heap.size, m, none⟩ = some (.int .i64 (cntL (ops.take i) m : Int)) /\ V.frozen? ⟨w1.heap.size, m, none⟩ = false := fun V hV => ⟨(HRK.out.below hV).cell m hm, (HRK.out.below hV).frozen m⟩
          have HCe := hide hcell
          have HSet : Hid (∀ V, Below wr.heap.size wr V -> Rk (V.setCell ⟨w1.heap.size, m, none⟩ (.int .i64 ((cntL (ops.take i) m + 1 : Nat) : Int))) w1.heap.size 3 21 (cntF (ops.take (i + 1)))) := hide (fun V hV => ((HRK.out.below hV).set m _).congr fun j hj => by
            unfold cntF
            rw [HS.out j]
            by_cases e : j = m
            . subst e
              simp [hq]
            . rw [if_neg e, if_neg (by simp; intro _; omega)]
              simp)
          have hwr : IntKind.i64.wrap ((cntL (ops.take i) m : Int) + 1) = ((cntL (ops.take i) m + 1 : Nat) : Int) := by rw [wrapN _ (by omega) (by omega)]; omega
          have hm1 : (m : Int) < 21 := by omega
          generalize cntL (ops.take i) m = cm at *
          clear hcell hq HS
          go_wp2_with (first | (go_at_call 42; refine (c2 _ (bnew _ _)).mono ?_; rintro e w2 ⟨rfl, hb2⟩; have hV := (bnew wr (.cells #[.int .i64 1, .int .i64 (m : Int), .slice aq qs.length cq, .int .i64 bit, .int .i64 cond, .int .i64 whn] 34)).trans (hb2.mono (by simp)); obtain ⟨v0, vf⟩ := HCe.out w2 hV; have hop := (hb2.block wr.heap.size (by simp)).trans (heap_alloc_new wr (.cells #[.int .i64 1, .int .i64 (m : Int), .slice aq qs.length cq, .int .i64 bit, .int .i64 cond, .int .i64 whn] 34)); obtain ⟨y0, y1, y2, y3, y4, y5, y6⟩ := op6_cells hop))
          go_roundw
          case rel => exact ⟨i + 1, by go_num, by omega, by simpa using HSet.out w2 hV, (hb.trans (hV.mono hb.size)).setCell (p := ⟨w1.heap.size, m, none⟩) hz1 _⟩
          case measure => simp [Go.RowKit.intOf]; omega
        . have hqq : decide ((rw' gate).q > 0) = false := by simpa [knB] using hq
          have hqq2 : decide (0 < (rw' gate).q) = false := by simpa [knB] using hq
          have HSame : Hid (∀ j, cntF (ops.take i) j = cntF (ops.take (i + 1)) j) := hide (fun j => by unfold cntF; rw [HS.out j]; simp [hq])
          generalize (rw' gate).q = rq at *
          clear hq HS
          go_wp2_with (first | (go_at_call 42; refine (c2 _ (bnew _ _)).mono ?_; rintro e w2 ⟨rfl, hb2⟩; have hV := (bnew wr (.cells #[.int .i64 1, .int .i64 gate, .slice aq qs.length cq, .int .i64 bit, .int .i64 cond, .int .i64 whn] 34)).trans (hb2.mono (by simp))))
          go_roundw
          case rel => exact ⟨i + 1, by go_num, by omega, (HRK.out.below hV).congr (fun j _ => HSame.out j), hb.trans (hV.mono hb.size)⟩
          case measure => simp [Go.RowKit.intOf]; omega
      . have e1 : (kind == 1) = false := by simpa using hk
        have HSame : Hid (∀ j, cntF (ops.take i) j = cntF (ops.take (i + 1)) j) := hide (fun j => by unfold cntF; rw [HS.out j]; simp [hk])
        clear HS
        go_wp2_with fail
        go_roundw
        case rel => exact ⟨i + 1, by go_num, by omega, (HRK.out.below (bnew _ _)).congr (fun j _ => HSame.out j), hb.trans ((bnew _ _).mono hb.size)⟩
        case measure => simp [Go.RowKit.intOf]; omega
    . obtain rfl : n = i := by omega
      have hz : Rk wr w1.heap.size 3 21 (cntF ops) := by
        rw [List.take_of_length_le (by rw [HL.out]; exact Nat.le_refl _)] at hRk
        exact hRk
      have HZ := hide hz
      clear hz hRk
      go_wp2_with fail
      go_ret
      exact ⟨w1.heap.size, rfl, HZ.out, hz1, hb⟩
end Go.Proofs.YtnghfdnlcnocjaaGreatDoor.Cir
