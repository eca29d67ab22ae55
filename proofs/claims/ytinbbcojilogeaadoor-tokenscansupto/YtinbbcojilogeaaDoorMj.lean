/- The document's Scan, as it is walked. -/
import Derived.Test.YtinbbcojilogeaaDoorMi
namespace Go.Proofs.YtinbbcojilogeaaDoor.Tok
open Go.RowKit Go.Shelf Go.Proofs.YtinbbcojilogeaaDoor.Oct

/-- What lies in memory while the document's Scan goes on. -/
structure Sm (w : World) (bf ba : Nat) (off line col : Nat) (ao : Option Addr) (c : Nat) (ts : List T) (wr : World) : Prop where
  cf : wr.heap[bf]? = some (.cells #[.int .i64 0, .int .i64 0, .int .i64 0, .int .i64 0] 31 (0, 0))
  ca : wr.heap[ba]? = some (.cells #[.int .i64 (off : Int), .int .i64 (line : Int), .int .i64 (col : Int)] 23 (0, 0))
  own : wr.ownsRow w.heap.size 37 6 (.slice ao ts.length c) ts.length (tvs ts)
  bel : Below w.heap.size w wr
theorem Sm.below {w wr wr' : World} {bf ba : Nat} {off line col : Nat} {ao : Option Addr} {c : Nat} {ts : List T} (h : Sm w bf ba off line col ao c ts wr) (hb : Below wr.heap.size wr wr') : Sm w bf ba off line col ao c ts wr' :=
  ⟨(hb.block bf (Array.getElem?_eq_some_iff.1 h.cf).1).trans h.cf, (hb.block ba (Array.getElem?_eq_some_iff.1 h.ca).1).trans h.ca,
    own_of_block h.own (fun k hk => hb.block k (own_lt h.own k hk).2), h.bel.trans (hb.mono h.bel.size)⟩
theorem Sm.set {w wr : World} {bf ba : Nat} {off line col : Nat} {ao : Option Addr} {c : Nat} {ts : List T} (h : Sm w bf ba off line col ao c ts wr) (off' line' col' : Nat) (hB : w.heap.size ≤ ba) (h2 : bf ≠ ba) :
    Sm w bf ba off' line' col' ao c ts (wr.setRow ba #[.int .i64 (off' : Int), .int .i64 (line' : Int), .int .i64 (col' : Int)]) :=
  ⟨(setRow_other _ _ _ _ h2).trans h.cf, setRow_heap _ _ _ _ _ _ h.ca,
    own_of_block h.own (fun k hk => setRow_other _ _ _ _ (fun e => own_ne h.own h.ca (by decide) (by rw [hk, e]))), below_setRow h.bel hB _⟩
theorem Sm.grown {w wr wr' : World} {bf ba : Nat} {off line col : Nat} {ao ao' : Option Addr} {c c' : Nat} {ts ts' : List T} (h : Sm w bf ba off line col ao c ts wr) (hg : wr.grownBy wr' (ob ao))
    (ho : wr'.ownsRow w.heap.size 37 6 (.slice ao' ts'.length c') ts'.length (tvs ts')) : Sm w bf ba off line col ao' c' ts' wr' :=
  ⟨(hg.block bf (Array.getElem?_eq_some_iff.1 h.cf).1 (own_ne h.own h.cf (by decide)).symm).trans h.cf,
    (hg.block ba (Array.getElem?_eq_some_iff.1 h.ca).1 (own_ne h.own h.ca (by decide)).symm).trans h.ca, ho, h.bel.grown hg h.bel.size (fun q hq => (own_lt h.own q hq).1)⟩
set_option maxRecDepth 1000000 in
set_option maxHeartbeats 4000000 in
theorem dScan (l : List UInt8) (hl : l.length ≤ 1099511627776) (w : World) : Calls Tryd.prog 15 #[str l] w (ScanPost l w) := by
  have cS := fun i hi w => dSkip l i hi (by omega) w
  have cO := fun fo fl fc off h1 h2 h3 h4 w => dOn l fo fl fc off (by omega) h1 h2 h3 h4 w
  have cN := fun i w => dOne l i (by omega) w
  unfold str at cS cO cN ⊢
  unfold spotV at cO
  generalize (⟨l.toArray⟩ : ByteArray) = s at *
  have mixed := mixed_ok
  go_enter Tryd.func15, Tryd.ntmps15
  go_wp2_with fail
  have S0 : Sm w w.heap.size (w.heap.size + 1) 0 1 1 none 0 [] ((w.alloc (.cells #[.int .i64 0, .int .i64 0, .int .i64 0, .int .i64 0] 31)).alloc (.cells #[.int .i64 0, .int .i64 1, .int .i64 1] 23)) :=
    ⟨heap_first _ _ _, heap_alloc2_new w _ _, World.ownsRow_nil _ _ _ _, below_two _ _ _⟩
  have hA1 : w.heap.size < w.heap.size + 1 := Nat.lt_succ_self _
  generalize ((w.alloc (.cells #[.int .i64 0, .int .i64 0, .int .i64 0, .int .i64 0] 31)).alloc (.cells #[.int .i64 0, .int .i64 1, .int .i64 1] 23)) = W0 at *
  generalize w.heap.size + 1 = A at *
  go_loopw [4, 5] (fun v x wr => ∃ (ak line col off : Nat) (ao : Option Addr) (c : Nat) (ts : List T), v = .slice ao ts.length c ∧ x = .int .i64 (off : Int) ∧ Sm w w.heap.size A ak line col ao c ts wr ∧ ak ≤ off ∧ off ≤ l.length ∧ line ≤ ak + 1 ∧ col ≤ ak + 1 ∧ ts.length ≤ off ∧ Hid (off - ak = 0 ∨ ((l.drop ak).getD (off - ak - 1) 0).toNat < 128) ∧
      ∃ f, l.length - off < f ∧ Hid (scanAll l = Sc.pre ts (scan f (l.drop off) off (adv 0 (off - ak) (l.drop ak) (line, col))))) (fun _ x _ => l.length - (RowKit.intOf x).toNat)
  case atStart => exact ⟨0, 1, 1, 0, none, 0, [], rfl, rfl, S0, Nat.le_refl _, Nat.zero_le _, by omega, by omega, Nat.le_refl _, hide (.inl rfl), l.length + 1, by omega, hide (by rw [Sc.pre_nil, adv_zero]; rfl)⟩
  case round =>
    clear S0
    obtain ⟨ak, line, col, off, ao, c, ts, rfl, rfl, hS, hak, hoff, hln, hcl, htl, Hend, f, hf, Hu⟩ := hrel
    obtain ⟨f, rfl⟩ : ∃ f', f = f' + 1 := ⟨f - 1, by omega⟩
    have hg := gp_le false (l.drop off)
    rw [List.length_drop] at hg
    have c1 := fun w => cS off hoff w
    obtain ⟨g, hgg⟩ : ∃ g, gp false (l.drop off) = g := ⟨_, rfl⟩
    rw [hgg] at hg c1
    obtain ⟨k, hng⟩ : ∃ k, off + g = k := ⟨_, rfl⟩
    rw [hng] at c1
    have hk : k ≤ l.length := by omega
    have c2 := fun w => cO ak line col k (by omega) hk (by omega) (by omega) w
    have hbd := adv_bd (k - ak) 0 (l.drop ak) (line, col)
    obtain ⟨p, hp⟩ : ∃ p, adv 0 (off - ak) (l.drop ak) (line, col) = p := ⟨_, rfl⟩
    have Hq : Hid (adv 0 (k - ak) (l.drop ak) (line, col) = adv 0 g (l.drop off) p) := hide (by
      have := adv_add (off - ak) (off - ak) g (l.drop ak) (line, col) (Nat.le_refl _) (by rw [List.length_drop]; omega) Hend.out
      rw [show off - ak + g = k - ak by omega, hp, List.drop_drop, show ak + (off - ak) = off by omega] at this
      exact this)
    obtain ⟨q, hqq⟩ : ∃ q, adv 0 (k - ak) (l.drop ak) (line, col) = q := ⟨_, rfl⟩
    rw [hqq] at c2 hbd Hq
    simp only at hbd
    rw [hp] at Hu
    have Hgg := hide hgg
    have Hng := hide hng
    have Hd : Hid (l.drop k = (l.drop off).drop g) := hide (by rw [List.drop_drop, hng])
    have b0 : wr.cell? ⟨A, 0, none⟩ = some (.int .i64 (ak : Int)) := cell_of_row _ _ 0 _ _ _ hS.ca
    have b1 : wr.cell? ⟨A, 1, none⟩ = some (.int .i64 (line : Int)) := cell_of_row _ _ 1 _ _ _ hS.ca
    have b2 : wr.cell? ⟨A, 2, none⟩ = some (.int .i64 (col : Int)) := cell_of_row _ _ 2 _ _ _ hS.ca
    have c3 := fun w => cN k w
    clear hgg hp hqq cS cO cN Hend
    go_wp2_with (first | (go_at_call 31; refine (c1 _).mono ?_; rintro e w1 ⟨rfl, hw⟩; obtain rfl := hw.symm))
    refine (c2 _).mono ?_
    rintro e w1 ⟨rfl, hb1⟩
    have hS1 := hS.below hb1
    clear b0 b1 b2 c1 c2 hS
    go_wp2_with (refine wpList_store_row rfl _ _ _ rfl A _ rfl rfl _ _ hS1.ca (by exact infoSpot) (by rfl) (allSpot _ _ _) ?_)
    have hS2 := hS1.set k q.1 q.2 (by omega) (by omega)
    generalize (w1.setRow A #[.int .i64 (k : Int), .int .i64 (q.1 : Int), .int .i64 (q.2 : Int)]) = w2 at *
    clear hS1 hb1
    have hkb : off ≤ k := by omega
    clear hng
    cases hC : cut (l.drop k) with
    | bad er =>
      rw [hC] at c3
      simp only [oneV, tokV] at c3
      refine (c3 _).mono ?_
      rintro e w5 ⟨⟨x, rfl⟩, hb5⟩
      have hS5 := hS2.below hb5
      have hlt5 : A < w5.heap.size := (Array.getElem?_eq_some_iff.1 hS5.ca).1
      have her : er ≠ 0 := fun e => cut_bad_ne _ (by rw [← e]; exact hC)
      have her1 : ((er : Int) == 0) = false := by rw [beq_eq_false_iff_ne]; omega
      have her2 : ((er : Int) != 0) = true := by rw [bne, her1]; rfl
      clear c3 hb5 hS2
      go_wp2_with fail
      have hX : Sm w w.heap.size A k q.1 q.2 ao c ts (w5.alloc (.cells #[.int .i64 0, .string ⟨#[]⟩, .int .i64 0, .int .i64 0, .int .i64 0, .int .i64 0] 37)) := hS5.below (below_new _ _)
      generalize w5.alloc (.cells #[.int .i64 0, .string ⟨#[]⟩, .int .i64 0, .int .i64 0, .int .i64 0, .int .i64 0] 37) = w6 at hX ⊢
      have a0 : w6.cell? ⟨A, 0, none⟩ = some (.int .i64 (k : Int)) := cell_of_row _ _ 0 _ _ _ hX.ca
      have a1 : w6.cell? ⟨A, 1, none⟩ = some (.int .i64 (q.1 : Int)) := cell_of_row _ _ 1 _ _ _ hX.ca
      have a2 : w6.cell? ⟨A, 2, none⟩ = some (.int .i64 (q.2 : Int)) := cell_of_row _ _ 2 _ _ _ hX.ca
      have f0 : w6.cell? ⟨w.heap.size, 0, none⟩ = some (.int .i64 0) := cell_of_row _ _ 0 _ _ _ hX.cf
      have f1 : w6.cell? ⟨w.heap.size, 1, none⟩ = some (.int .i64 0) := cell_of_row _ _ 1 _ _ _ hX.cf
      have f2 : w6.cell? ⟨w.heap.size, 2, none⟩ = some (.int .i64 0) := cell_of_row _ _ 2 _ _ _ hX.cf
      have f3 : w6.cell? ⟨w.heap.size, 3, none⟩ = some (.int .i64 0) := cell_of_row _ _ 3 _ _ _ hX.cf
      have fz : ∀ j, w6.frozen? ⟨w.heap.size, j, none⟩ = false := fun j => by simp [World.frozen?, hX.cf]
      go_region
      all_goals try go_wp2_with fail
      rw [set_four _ _ _ _ _ _ _ _ _ _ _ _ hX.cf]
      refine bodyPost_ret (results_tc rfl _ _ w.heap.size _ _ _ _ rfl (setRow_heap _ _ _ _ _ _ hX.cf) Tryd.underlying31 rfl (by exact infoFlt)) rfl ?_
      have hres : scanAll l = .bad ⟨er, k, q.1, q.2⟩ := by
        rw [Hu.out, scan_bad _ _ _ _ er (by rw [Hgg.out, ← Hd.out]; exact hC), Hgg.out, ← Hq.out, Hng.out]
        rfl
      unfold ScanPost
      rw [hres]
      exact ⟨rfl, (below_setRow hX.bel (Nat.le_refl _) _).drew⟩
    | tok kd tx v n =>
      rw [hC] at c3
      simp only [oneV, tokV] at c3
      refine (c3 _).mono ?_
      rintro e w5 ⟨⟨x, rfl⟩, hb5⟩
      have hS5 := hS2.below hb5
      have hlt5 : A < w5.heap.size := (Array.getElem?_eq_some_iff.1 hS5.ca).1
      have hS6 : ∀ o, Sm w w.heap.size A k q.1 q.2 ao c ts (w5.alloc o) := fun o => hS5.below (below_new _ o)
      have a0 : ∀ o, (w5.alloc o).cell? ⟨A, 0, none⟩ = some (.int .i64 (k : Int)) := fun o => cell_of_row _ _ 0 _ _ _ (hS6 o).ca
      have a1 : ∀ o, (w5.alloc o).cell? ⟨A, 1, none⟩ = some (.int .i64 (q.1 : Int)) := fun o => cell_of_row _ _ 1 _ _ _ (hS6 o).ca
      have a2 : ∀ o, (w5.alloc o).cell? ⟨A, 2, none⟩ = some (.int .i64 (q.2 : Int)) := fun o => cell_of_row _ _ 2 _ _ _ (hS6 o).ca
      have b0 : w5.cell? ⟨A, 0, none⟩ = some (.int .i64 (k : Int)) := cell_of_row _ _ 0 _ _ _ hS5.ca
      have b1 : w5.cell? ⟨A, 1, none⟩ = some (.int .i64 (q.1 : Int)) := cell_of_row _ _ 1 _ _ _ hS5.ca
      have b2 : w5.cell? ⟨A, 2, none⟩ = some (.int .i64 (q.2 : Int)) := cell_of_row _ _ 2 _ _ _ hS5.ca
      have hsz5 := hS5.bel.size
      clear c3 hb5 hS2
      go_wp2_with (at_builtin; refine wpList_pushT rfl _ _ 28 rfl 37 Tryd.underlying28 infoT w.heap.size ao ts.length c ts rfl (hS6 _).own ⟨kd, tx, v, k, q.1, q.2⟩ _ rfl _ (by simp) rfl (by omega) (Nat.le_trans hsz5 (by simp)) ?_)
      intro g6 cap6 w6 hown6 hgrow6 hat6
      have hS7 : Sm w w.heap.size A k q.1 q.2 (some ⟨g6, 0, none⟩) cap6 (ts ++ [⟨kd, tx, v, k, q.1, q.2⟩]) w6 := (hS6 _).grown hgrow6 (by rw [List.length_append]; exact hown6)
      have hne6 : some w5.heap.size ≠ ob ao := fun e => by have := (own_lt hS5.own _ e.symm).2; omega
      have t0 : w6.cell? ⟨w5.heap.size, 0, none⟩ = some (.int .i64 (kd : Int)) := cell_of_row _ _ 0 _ _ _ ((hgrow6.block w5.heap.size (by simp) hne6).trans (heap_alloc_new _ _))
      have htk : (ts ++ [(⟨kd, tx, v, k, q.1, q.2⟩ : T)]).length = ts.length + 1 := by simp
      have Htk := hide htk
      clear a0 a1 a2 b0 b1 b2 hown6 hgrow6 hat6 hS6 hS5 hne6 htk
      by_cases hkd : kd = 0
      · subst hkd
        have f0 : w6.cell? ⟨w.heap.size, 0, none⟩ = some (.int .i64 0) := cell_of_row _ _ 0 _ _ _ hS7.cf
        have f1 : w6.cell? ⟨w.heap.size, 1, none⟩ = some (.int .i64 0) := cell_of_row _ _ 1 _ _ _ hS7.cf
        have f2 : w6.cell? ⟨w.heap.size, 2, none⟩ = some (.int .i64 0) := cell_of_row _ _ 2 _ _ _ hS7.cf
        have f3 : w6.cell? ⟨w.heap.size, 3, none⟩ = some (.int .i64 0) := cell_of_row _ _ 3 _ _ _ hS7.cf
        have fz : ∀ j, w6.frozen? ⟨w.heap.size, j, none⟩ = false := fun j => by simp [World.frozen?, hS7.cf]
        go_wp2_with fail
        rw [set_four _ _ _ _ _ _ _ _ _ _ _ _ hS7.cf]
        refine bodyPost_ret (results_tc rfl _ _ w.heap.size _ _ _ _ rfl (setRow_heap _ _ _ _ _ _ hS7.cf) Tryd.underlying31 rfl (by exact infoFlt)) rfl ?_
        have hres : scanAll l = .ok (ts ++ [⟨0, tx, v, k, q.1, q.2⟩]) := by
          rw [Hu.out, scan_tok _ _ _ _ 0 v n tx (by rw [Hgg.out, ← Hd.out]; exact hC), if_pos rfl, Hgg.out, ← Hq.out, Hng.out]
          rfl
        unfold ScanPost
        rw [hres]
        refine ⟨some ⟨g6, 0, none⟩, cap6, ?_, ?_, below_setRow hS7.bel (Nat.le_refl _) _⟩
        · rw [Htk.out]; rfl
        · exact own_of_block hS7.own (fun j hj => setRow_other _ _ _ _ (fun e => own_ne hS7.own hS7.cf (by decide) (by rw [hj, e])))
      · have hkd1 : ((kd : Int) == 0) = false := by rw [beq_eq_false_iff_ne]; omega
        obtain ⟨hnl, hn1⟩ := cut_len _ _ _ _ _ hC
        have hn1 := hn1 hkd
        rw [List.length_drop] at hnl
        have hla := cut_last _ _ _ _ _ hC hkd
        have Hres : Hid (scanAll l = Sc.pre (ts ++ [⟨kd, tx, v, k, q.1, q.2⟩]) (scan f (l.drop (k + n)) (k + n) (adv 0 (k + n - k) (l.drop k) (q.1, q.2)))) := hide (by
          rw [Hu.out, scan_tok _ _ _ _ kd v n tx (by rw [Hgg.out, ← Hd.out]; exact hC), if_neg hkd, Hgg.out, ← Hq.out, Hng.out, Sc.pre_pre, ← Hd.out, List.drop_drop, Nat.add_sub_cancel_left])
        have Hla : Hid (k + n - k = 0 ∨ ((l.drop k).getD (k + n - k - 1) 0).toNat < 128) := hide (.inr (by rw [Nat.add_sub_cancel_left]; exact hla))
        clear hla hC
        go_wp2_with fail
        exact ⟨⟨k, q.1, q.2, k + n, some ⟨g6, 0, none⟩, cap6, ts ++ [⟨kd, tx, v, k, q.1, q.2⟩], by rw [Htk.out], rfl, hS7, by omega, by omega, by omega, by omega, by rw [Htk.out]; omega, Hla, f, by omega, Hres⟩, by simp [RowKit.intOf]; omega⟩
end Go.Proofs.YtinbbcojilogeaaDoor.Tok
