import Derived.Test.YtnghfdnlcnocjaaGreatDoorE78e82716
import Derived.Test.YtnghfdnlcnocjaaGreatDoorEc7f0558e
set_option maxRecDepth 100000
set_option maxHeartbeats 2000000
namespace Go.Proofs.YtnghfdnlcnocjaaGreatDoor.Cir
open Go.RowKit Go.Shelf Go.Proofs.YtnghfdnlcnocjaaGreatDoor.Oct Go.Proofs.YtnghfdnlcnocjaaGreatDoor.Tok Go.Proofs.YtnghfdnlcnocjaaGreatDoor.Gt
theorem rsOk : RsOk := fun w0 R L B N d ao no co ops t ts w hC => by
  cases hP : pReset d ops t ts with
  | no c' t' => exact cReset_no w0 R L B N d ao no co ops t ts w hC c' t' hP
  | ok o' ts' => exact cReset_ok w0 R L B N d ao no co ops t ts w hC o' ts' hP
theorem eBarr1 : ∀ args w, (callFunc 119 args).run Tryz.prog w = .ok (.enter 119 args) w := enters_of Tryz.func119 (by kernel_rfl) rfl
theorem allN_val (l : List Ag) (hbd : ∀ a ∈ l, a.fr + a.sz <= 64 /\ 1 <= a.sz) : (allN l).map (·.1) = l.flatMap eachP /\ ∀ x ∈ allN l, x.1 < 64 := by
  have h : ∀ i ∈ l.flatMap eachP, i < 64 := fun i hi => by
    obtain ⟨a, ha, hi⟩ := List.mem_flatMap.1 hi
    unfold eachP at hi
    obtain ⟨k, hk, rfl⟩ := List.mem_map.1 hi
    rw [List.mem_range] at hk
    have := hbd a ha
    unfold atP
    split <;> omega
  have e := nx_id (l.flatMap eachP) (fun i hi => Nat.lt_trans (h i hi) (by decide))
  refine ⟨e, fun x hx => ?_⟩
  have : x.1 ∈ (allN l).map (·.1) := List.mem_map_of_mem hx
  rw [show (allN l).map (·.1) = l.flatMap eachP from e] at this
  exact h _ this
theorem cOnceB (V : World) (l : List Ag) (hbd : ∀ a ∈ l, a.fr + a.sz <= 64 /\ 1 <= a.sz) (aoA : Option Addr) (cA Bq : Nat) (h : V.ownsRow Bq 184 3 (.slice aoA l.length cA) l.length (l.flatMap agC)) (hl : l.length <= 4398046511104) :
    Calls Tryz.prog 118 #[.func (.func 119) #[] #[.pointer (some ⟨V.heap.size, 0, none⟩)]] (V.alloc (.cells #[.slice aoA l.length cA] 191)) (PO1 (V.alloc (.cells #[.slice aoA l.length cA] 191)) (allN l)) := by
  have hA := (Asb.of_own h).below (Nat.le_refl _) (bnew V (.cells #[.slice aoA l.length cA] 191))
  have hc : (V.alloc (.cells #[.slice aoA l.length cA] 191)).cell? ⟨V.heap.size, 0, none⟩ = some (.slice aoA l.length cA) := (cell_of_row _ _ 0 _ _ _ (heap_alloc_new V _)).trans rfl
  have hz : (V.alloc (.cells #[.slice aoA l.length cA] 191)).heap.size = V.heap.size + 1 := by simp
  generalize V.alloc (.cells #[.slice aoA l.length cA] 191) = U at *
  refine cOnceK 119 _ eBarr1 (allN l) (allN_val l hbd).2 U (fun X hX l' J Jx Y hY hJ hJx hYl h0 => ?_)
  have hB : Below U.heap.size U Y := hX.trans (hY.mono hX.size)
  exact cBarr1 l' V.heap.size U.heap.size cA aoA l (by omega) (fun a ha => (hbd a ha).1) J Jx Y hJ hJx hB.size hYl ((hB.cell (p := ⟨V.heap.size, 0, none⟩) (by show V.heap.size < U.heap.size; omega)).trans hc) (by
    rcases hA with h | ⟨g, off, c, cs, fr, h0, h1, h2, h3⟩
    . exact .inl h
    . exact .inr ⟨g, off, c, cs, fr, by omega, h1, (hB.block g (by omega)).trans h2, h3⟩) h0
theorem po_no {w w' : World} {xs : List N64} {e : Ending} (h : PO1 w xs e w') (hn : ¬ (xs.map (·.1)).Nodup) : Below w.heap.size w w' /\ e = .returned (.tuple #[.slice none 0 0, .bool false]) := by
  obtain ⟨h1, ⟨h2, _⟩ | ⟨_, h3⟩⟩ := h
  . exact absurd h2 hn
  . exact ⟨h1, h3⟩
theorem po_ok {w w' : World} {xs : List N64} {e : Ending} (h : PO1 w xs e w') (hn : (xs.map (·.1)).Nodup) : Below w.heap.size w w' /\ ∃ (ao : Option Addr) (n c : Nat), e = .returned (.tuple #[.slice ao n c, .bool true]) /\ IsI w' (.slice ao n c) ((xs.map (·.1)).map Int.ofNat) := by
  obtain ⟨h1, ⟨_, v, h2, h3⟩ | ⟨h2, _⟩⟩ := h
  . refine ⟨h1, ?_⟩
    have h3' := h3
    rcases h3.2 with ⟨hv, h0⟩ | ⟨g, cap, cur, hv, _⟩
    . subst hv
      have hx := List.length_eq_zero_iff.1 h0
      subst hx
      exact ⟨_, _, _, h2, .inl ⟨rfl, _, _, rfl⟩⟩
    . subst hv
      refine ⟨_, _, _, h2, ?_⟩
      have e1 : ((xs.map (·.1)).map Int.ofNat).length = xs.length := by simp
      have e2 : xs.map (fun x => iv x.1) = ((xs.map (·.1)).map Int.ofNat).map (Value.int .i64) := by simp [iv]
      rw [e2, ← e1] at h3'
      rw [← e1]
      exact IsI.of_own h3'
  . exact absurd hn h2
theorem brOk : BrOk := fun w0 R L B N d ao no co ops t ts w hC => by
  obtain ⟨hD, hR, hO, hno⟩ := hC
  have hlt := hR.lt
  have eG := erG
  have eN := erN
  have HD := hide hD
  have HR := hide hR
  have HO := hide hO
  have HLN := hide hO.len
  have c3 := fun W => cRefuse 85 t W
  have c4 : ∀ (V : World) (ts2 : List T), no + 1 <= 4611686018427387904 -> Rt V R (xOf L d) (.slice ao no co) ts2 -> Calls Tryz.prog 114 #[.pointer (some ⟨R, 0, none⟩), .int .i64 1, tkV t] V fun e w' => e = .returned (if 4096 < no + 1 then erV 86 t else .nilIface) /\ Below V.heap.size V w' := fun V ts2 hn hr => cRoom R L d ao no co 1 t ts2 hn V hr
  have HC2 := hide (fun V (h : Rdr w0 V R L B N d) (hr : Rt V R (xOf L d) (.slice ao no co) ts) => cArgs w0 R L B N d (.slice ao no co) ts V h hr)
  have hno2 : no <= 4096 := by rw [HLN.out]; exact hno
  unfold pBarrier
  obtain ⟨kind, text, num, o', line, col⟩ := t
  unfold tkV at c3 c4 ⊢
  simp only at c3 c4 ⊢
  have hD1 : Rdr w0 (w.alloc (.cells #[.int .i64 (kind : Int), .string ⟨text.toArray⟩, .int .i64 (num : Int), .int .i64 (o' : Int), .int .i64 (line : Int), .int .i64 (col : Int)] 100)) R L B N d := hD.below (bnew _ _)
  have hR1 : Rt (w.alloc (.cells #[.int .i64 (kind : Int), .string ⟨text.toArray⟩, .int .i64 (num : Int), .int .i64 (o' : Int), .int .i64 (line : Int), .int .i64 (col : Int)] 100)) R (xOf L d) (.slice ao no co) ts := hR.below (bnew _ _)
  have HT : Hid (∀ (w2 w4 : World) (o : Obj), Kb [R] (w.alloc (.cells #[.int .i64 (kind : Int), .string ⟨text.toArray⟩, .int .i64 (num : Int), .int .i64 (o' : Int), .int .i64 (line : Int), .int .i64 (col : Int)] 100)) w2 -> Below (w2.alloc o).heap.size (w2.alloc o) w4 -> w4.heap[w.heap.size]? = some (.cells #[.int .i64 (kind : Int), .string ⟨text.toArray⟩, .int .i64 (num : Int), .int .i64 (o' : Int), .int .i64 (line : Int), .int .i64 (col : Int)] 100)) := hide (fun w2 w4 o hk hb => by
    have z := hk.size
    simp only [World.size_alloc] at z
    exact (hb.block _ (by simp only [World.size_alloc]; omega)).trans ((Below.heap_alloc _ _ _ (by omega)).trans ((hk.block _ (by simp) (by simp; omega)).trans (heap_alloc_new w _))))
  clear hO hR
  cases h1 : pArgs d ts with
  | no c t =>
    rw [h1] at HC2
    go_enter Tryz.func94, Tryz.ntmps94
    go_wp2_with (first
      | (go_at_call 117; (with_reducible refine Calls.mono (HC2.out _ hD1 hR1) ?_); rintro e w2 ⟨⟨aoA, nA, cA, rfl⟩, hk2⟩))
    go_ret
    exact ⟨rfl, (((Kb.of_below (bnew _ _)).trans hk2).alloc _).mono (by simp)⟩
  | ok l ts1 =>
  rw [h1] at HC2
  simp only
  have hbd := pArgs_bd hD.ok h1
  have hval := (allN_val l hbd).1
  by_cases hN : ¬ (l.flatMap eachP).Nodup
  . rw [if_pos hN]
    have HN : Hid (¬ ((allN l).map (·.1)).Nodup) := hide (by rw [hval]; exact hN)
    clear hN hval
    go_enter Tryz.func94, Tryz.ntmps94
    go_wp2_with (first
      | (go_at_call 117; (with_reducible refine Calls.mono (HC2.out _ hD1 hR1) ?_); rintro e w2 ⟨aoA, cA, rfl, hownA, hlA, hr2, hk2⟩; have CO := cOnceB w2 l hbd aoA cA _ hownA hlA)
      | (go_at_call 118; (with_reducible refine Calls.mono CO ?_); intro e w4 hp4; obtain ⟨hb4, rfl⟩ := po_no hp4 HN.out; have hq := HT.out w2 w4 (.cells #[.slice aoA l.length cA] 191) hk2 hb4; obtain ⟨q0, q1, q2, q3, q4, q5, q6⟩ := tok_cells hq; have hr4 := (hr2.below (bnew w2 (.cells #[.slice aoA l.length cA] 191))).below hb4; have hl4 := hr4.lt; have HK4 : Hid (Kb [R] w w4) := hide ((((Kb.of_below (bnew _ _)).trans hk2).alloc _).then_below hb4))
      | (go_at_call 87; refine (c3 _).mono ?_; rintro e w6 ⟨rfl, hb6⟩))
    go_ret
    exact ⟨rfl, (HK4.out.then_below hb6).mono (by simp)⟩
  rw [if_neg hN]
  replace hN := Classical.not_not.1 hN
  have HN : Hid (((allN l).map (·.1)).Nodup) := hide (by rw [hval]; exact hN)
  by_cases h6 : 4096 < ops.length + 1
  . rw [if_pos h6]
    have H6 : (if 4096 < no + 1 then erV 86 ⟨kind, text, num, o', line, col⟩ else .nilIface) = erV 86 ⟨kind, text, num, o', line, col⟩ := if_pos (by rw [HLN.out]; exact h6)
    clear hN hval
    go_enter Tryz.func94, Tryz.ntmps94
    go_wp2_with (first
      | (go_at_call 117; (with_reducible refine Calls.mono (HC2.out _ hD1 hR1) ?_); rintro e w2 ⟨aoA, cA, rfl, hownA, hlA, hr2, hk2⟩; have CO := cOnceB w2 l hbd aoA cA _ hownA hlA)
      | (go_at_call 118; (with_reducible refine Calls.mono CO ?_); intro e w4 hp4; obtain ⟨hb4, ao4, n4, c4', rfl, hI4⟩ := po_ok hp4 HN.out; have hq := HT.out w2 w4 (.cells #[.slice aoA l.length cA] 191) hk2 hb4; obtain ⟨q0, q1, q2, q3, q4, q5, q6⟩ := tok_cells hq; have hr4 := (hr2.below (bnew w2 (.cells #[.slice aoA l.length cA] 191))).below hb4; have hl4 := hr4.lt; have HK4 : Hid (Kb [R] w w4) := hide ((((Kb.of_below (bnew _ _)).trans hk2).alloc _).then_below hb4))
      | (go_at_call 114; (with_reducible refine Calls.mono (c4 _ _ (by omega) hr4) ?_); rintro e w6 ⟨rfl, hb6⟩; rw [H6]))
    go_ret
    exact ⟨rfl, (HK4.out.then_below hb6).mono (by simp)⟩
  rw [if_neg h6]
  have H6 : (if 4096 < no + 1 then erV 86 ⟨kind, text, num, o', line, col⟩ else .nilIface) = .nilIface := if_neg (by rw [HLN.out]; exact h6)
  have hB0 := hD.bel.size
  have HFIN : Hid (∀ (V : World) (ao4 : Option Addr) (n4 c4 : Nat), Kb [R] w V -> Rt V R (xOf L d) (.slice ao no co) ts1 -> IsI V (.slice ao4 n4 c4) ((l.flatMap eachP).map Int.ofNat) -> ∃ (XC : List Value), V.ownsRow w0.heap.size 34 6 (.slice ao no co) no XC /\ (∀ (w7 : World) (g7 cap : Nat), w7.ownsRow w0.heap.size 34 6 (.slice (some ⟨g7, 0, none⟩) (no + 1) cap) (no + 1) (XC ++ [.int .i64 4, .int .i64 0, .slice ao4 n4 c4, .int .i64 0, .int .i64 (-1), .int .i64 0]) -> V.grownBy w7 (ob ao) -> (ob ao = some g7 ∨ V.heap.size <= g7) -> (w7.cell? ⟨R, 8, none⟩ = some (.slice ao no co) /\ w7.frozen? ⟨R, 8, none⟩ = false /\ R < w7.heap.size) /\ PC R L d w0.heap.size ao w (.ok (ops ++ [⟨4, 0, (l.flatMap eachP).map Int.ofNat, 0, -1, 0⟩]) ts1) (.returned .nilIface) (w7.setCell ⟨R, 8, none⟩ (.slice (some ⟨g7, 0, none⟩) (no + 1) cap)))) := hide (fun V ao4 n4 c4 hk hr hI => by
    have hOV : OpsAt V w0.heap.size ao no co ops := HO.out.turn HR.out hk
    refine ⟨hOV.choose.flatMap opC, hOV.choose_spec.2.2.1, fun w7 g7 cap hown hg hat => ?_⟩
    have hneR : some R ≠ ob ao := by
      obtain ⟨⟨v, hrr, _⟩, _⟩ := id hr
      unfold rbO at hrr
      obtain ⟨xs, _, _, h3, _⟩ := id hOV
      exact (own_ne h3 hrr (by decide)).symm
    have hbtn : some L.bt ≠ ob ao := by
      obtain ⟨tcs, tfr, htb⟩ := hr.btB
      obtain ⟨xs, _, _, h3, _⟩ := id hOV
      exact (own_ne h3 htb (by decide)).symm
    have hR7 : Rt w7 R (xOf L d) (.slice ao no co) ts1 := hr.kept (hg.block R hr.lt hneR) (hg.block L.bt hr.bt hbtn)
    have hO7 := hOV.push ⟨4, 0, (l.flatMap eachP).map Int.ofNat, 0, -1, 0⟩ (.slice ao4 n4 c4) hI hg hown
    have hKs : Kb [R] w7 (w7.setCell ⟨R, 8, none⟩ (.slice (some ⟨g7, 0, none⟩) (no + 1) cap)) := (Kb.refl _ _).setCell (.inl (by simp)) _
    refine ⟨⟨hR7.cells.2.2.2.2.2.2.2, hR7.free 8, hR7.lt⟩, rfl, _, _, _, hR7.put8 _, hO7.turn hR7 hKs, ?_, (((hk.mono (by simp)).grown hg (fun b hb => .inl (by simp [hb])))).setCell (.inl (by simp)) _, fun b hb => ?_⟩
    . simp only [List.length_append, List.length_cons, List.length_nil]
      omega
    . cases hb
      rcases hat with e | e
      . exact .inl e
      . exact .inr (Nat.le_trans hk.size e))
  rw [← hval] at HFIN
  have hval' := hide hval
  clear hN hval
  go_enter Tryz.func94, Tryz.ntmps94
  go_wp2_with (first
    | (go_at_call 117; (with_reducible refine Calls.mono (HC2.out _ hD1 hR1) ?_); rintro e w2 ⟨aoA, cA, rfl, hownA, hlA, hr2, hk2⟩; have CO := cOnceB w2 l hbd aoA cA _ hownA hlA)
    | (go_at_call 118; (with_reducible refine Calls.mono CO ?_); intro e w4 hp4; obtain ⟨hb4, ao4, n4, c4', rfl, hI4⟩ := po_ok hp4 HN.out; have hq := HT.out w2 w4 (.cells #[.slice aoA l.length cA] 191) hk2 hb4; obtain ⟨q0, q1, q2, q3, q4, q5, q6⟩ := tok_cells hq; have hr4 := (hr2.below (bnew w2 (.cells #[.slice aoA l.length cA] 191))).below hb4; have hl4 := hr4.lt; have HK4 : Hid (Kb [R] w w4) := hide ((((Kb.of_below (bnew _ _)).trans hk2).alloc _).then_below hb4))
    | (go_at_call 114; (with_reducible refine Calls.mono (c4 _ _ (by omega) hr4) ?_); rintro e w6 ⟨rfl, hb6⟩; rw [H6]; have hr6 := hr4.below hb6; have hl6 := hr6.lt; have r8 := hr6.cells.2.2.2.2.2.2.2; have hz6 := HK4.out.size; have hz6' := hb6.size; obtain ⟨XC, HXC, HF⟩ := HFIN.out w6 ao4 n4 c4' (HK4.out.then_below hb6) hr6 (hI4.below hb6); have HF' := hide HF; clear HF)
    | (at_builtin; refine push rfl _ _ 22 rfl 34 Tryz.underlying22 _ 6 64 infoOp rfl (by decide) w0.heap.size ao no co _ rfl HXC [.int .i64 4, .int .i64 0, .slice ao4 n4 c4', .int .i64 0, .int .i64 (-1), .int .i64 0] _ rfl rfl (by simp [Value.oneCell']) w6.heap.size rfl rfl (by omega) (by omega) (by omega) ?_; intro g7 cap w7 hown7 hg7 hat7; obtain ⟨⟨y0, y1, y2⟩, HPC⟩ := HF'.out w7 g7 cap hown7 hg7 hat7))
  go_ret
  rw [hval'.out] at HPC
  exact HPC
end Go.Proofs.YtnghfdnlcnocjaaGreatDoor.Cir
