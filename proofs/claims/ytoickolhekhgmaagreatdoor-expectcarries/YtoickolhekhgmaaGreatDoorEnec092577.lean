import Derived.Test.YtoickolhekhgmaaGreatDoorEna02bcbba
namespace Go.Proofs.YtoickolhekhgmaaGreatDoor.Gt
end Go.Proofs.YtoickolhekhgmaaGreatDoor.Gt
namespace Go.Proofs.YtoickolhekhgmaaGreatDoor.Oct
end Go.Proofs.YtoickolhekhgmaaGreatDoor.Oct
set_option maxRecDepth 100000
set_option maxHeartbeats 4000000
namespace Go.Proofs.YtoickolhekhgmaaGreatDoor.Pau
open Go.RowKit Go.Shelf Go.Proofs.YtoickolhekhgmaaGreatDoor.Oct Go.Proofs.YtoickolhekhgmaaGreatDoor.Gt
def lw (f : UInt8 -> Nat) (l : List UInt8) (ns : List Nat) : Nat -> Nat
  | 0 => 0
  | t + 1 => lw f l ns t ||| f (l.getD (t + 1) 0) * 2 ^ (ns.getD t 0)
theorem lw_lt {f : UInt8 -> Nat} (hf : ∀ b, f b <= 1) (l : List UInt8) (ns : List Nat) (h : ∀ q ∈ ns, q < 64) : ∀ k, k <= ns.length -> lw f l ns k < 18446744073709551616
  | 0, _ => by simp [lw]
  | k + 1, hk => by
    rw [lw]
    exact Nat.or_lt_two_pow (n := 64) (lw_lt hf l ns h k (by omega)) (bit_lt _ _ (by have := hf (l.getD (k + 1) 0); omega) (h _ (getD_mem (by omega)))).1
def sgn (l : List UInt8) : Int := if l.getD 0 0 = 45 then 2 else 0
def leP (l : List UInt8) (ns : List Nat) (n : Int) : P := ⟨n, lw cx l ns ns.length, lw cz l ns ns.length, sgn l⟩
theorem dLetters_p (l : List UInt8) (ns : List Nat) (hl : l.length = ns.length + 1) (hs : l.getD 0 0 ≠ 45) (hns : ∀ q ∈ ns, q < 64) (hln : ns.length <= 64) (n : Int) (ao : Option Addr) (c : Nat) (w : World) (hN : Ns w ao (im64 ns)) : Calls Tryz.prog 47 #[str l, .int .i64 n, .slice ao ns.length c] w fun e w' => e = .returned (pV (leP l ns n)) /\ Below w.heap.size w w' := by
  obtain ⟨a0, ha0⟩ : ∃ a0, l[0]? = some a0 := ⟨_, List.getElem?_eq_getElem (by omega)⟩
  have ga : l.getD 0 0 = a0 := by rw [List.getD_eq_getElem?_getD, ha0]; rfl
  have ixa := fun W => ix_at l 0 a0 ha0 W
  rw [show (((0 : Nat)) : Int) = 0 from rfl] at ixa
  have hsg : sgn l = 0 := by unfold sgn; exact if_neg hs
  have na : ((a0.toNat : Int) == 45) = false := beq_eq_false_iff_ne.2 (fun e => hs (ga.trans (UInt8.toNat_inj.1 (by simpa using Int.ofNat_inj.1 e))))
  generalize (a0.toNat : Int) = av at *
  have HXL := hide (fun k hk => lw_lt cx_le l ns hns k hk)
  have HZL := hide (fun k hk => lw_lt cz_le l ns hns k hk)
  have HXS : Hid (∀ k, lw cx l ns (k + 1) = lw cx l ns k ||| cx (l.getD (k + 1) 0) * 2 ^ (ns.getD k 0)) := hide (fun k => rfl)
  have HZS : Hid (∀ k, lw cz l ns (k + 1) = lw cz l ns k ||| cz (l.getD (k + 1) 0) * 2 ^ (ns.getD k 0)) := hide (fun k => rfl)
  have HX0 : Hid (lw cx l ns 0 = 0) := hide rfl
  have HZ0 : Hid (lw cz l ns 0 = 0) := hide rfl
  have HQ : Hid (∀ k, k < ns.length -> ns.getD k 0 < 64) := hide (fun k hk => hns _ (getD_mem hk))
  have HIX : Hid (∀ k, k < ns.length -> ∀ W, (Instr.index 9 (.string ⟨l.toArray⟩) (.int .i64 ((k : Int) + 1))).run Tryz.prog W = .ok (.int .u8 ((l.getD (k + 1) 0).toNat : Int)) W) := hide (fun k hk W => by
    have e : l[k + 1]? = some (l.getD (k + 1) 0) := by rw [List.getD_eq_getElem?_getD, List.getElem?_eq_getElem (by omega)]; rfl
    have := ix_at l (k + 1) _ e W
    rw [show (((k + 1 : Nat)) : Int) = (k : Int) + 1 by omega] at this
    exact this)
  have HC0 : Hid (∀ k, k < ns.length -> ∀ g off, (∀ (j : Nat) z, (im64 ns)[j]? = some z -> w.cell? ⟨g, off + j, none⟩ = some (.int .i64 z)) -> w.cell? ⟨g, off + k, none⟩ = some (.int .i64 ((ns.getD k 0 : Nat) : Int))) := hide (fun k hk g off h => h k _ (by
    unfold im64
    rw [List.getElem?_map, List.getD_eq_getElem?_getD, List.getElem?_eq_getElem hk]
    rfl))
  have hgl : ns.length = 0 ∨ ∃ g off, ao = some ⟨g, off, none⟩ /\ Hid (∀ (j : Nat) z, (im64 ns)[j]? = some z -> w.cell? ⟨g, off + j, none⟩ = some (.int .i64 z)) := by
    rcases hN with h | h
    . left
      unfold im64 at h
      rw [List.map_eq_nil_iff] at h
      rw [h]
      rfl
    . exact .inr h
  unfold leP str
  rw [hsg]
  generalize hfx : lw cx l ns = fx at *
  generalize hfz : lw cz l ns = fz at *
  generalize hnq : (fun k => ns.getD k 0) = nq at *
  generalize hlq : (fun k => l.getD (k + 1) 0) = lq at *
  have eq1 : ∀ k, ns.getD k 0 = nq k := fun k => congrFun hnq k
  have eq2 : ∀ k, l.getD (k + 1) 0 = lq k := fun k => congrFun hlq k
  simp only [eq1, eq2] at HXS HZS HQ HIX HC0
  obtain ⟨m, hm⟩ : ∃ m, ns.length = m := ⟨_, rfl⟩
  rw [hm] at hl hln hgl HXL HZL HQ HIX HC0 ⊢
  have hsz := size_str l
  rw [hl] at hsz
  generalize (⟨l.toArray⟩ : ByteArray) = s at *
  unfold pV
  simp only
  obtain ⟨G1, G2⟩ := At4.two w (.int .i64 0) (.int .u64 0) (.int .u64 0) (.int .i64 0) (.int .i64 n) (.int .u64 0) (.int .u64 0) (.int .i64 0)
  have HG1 := hide G1
  have HG2 := hide G2
  have HBw := hide (bkp (bnew w (.cells #[.int .i64 0, .int .u64 0, .int .u64 0, .int .i64 0] 27)) (bnew _ (.cells #[.int .i64 n, .int .u64 0, .int .u64 0, .int .i64 0] 27)))
  clear G1 G2 hfx hfz hnq hlq eq1 eq2 hN hns hs hsg ga ha0 hl hm
  go_enter Tryz.func47, Tryz.ntmps47
  go_wp2_with fail
  generalize hw2 : (w.alloc (.cells #[.int .i64 0, .int .u64 0, .int .u64 0, .int .i64 0] 27)).alloc (.cells #[.int .i64 n, .int .u64 0, .int .u64 0, .int .i64 0] 27) = w2 at *
  clear hw2
  go_loopw [8] (fun vi wr => ∃ k : Nat, vi = .int .i64 (k : Int) /\ k <= m /\ Hid (Below w.heap.size w wr /\ At4 wr w.heap.size (.int .i64 0) (.int .u64 0) (.int .u64 0) (.int .i64 0) /\ At4 wr (w.heap.size + 1) (.int .i64 n) (.int .u64 (fx k : Int)) (.int .u64 (fz k : Int)) (.int .i64 0))) (fun vi _ => m - (Go.RowKit.intOf vi).toNat)
  case atStart => exact ⟨0, rfl, Nat.zero_le _, hide ⟨HBw.out, HG1.out, by rw [HX0.out, HZ0.out]; exact HG2.out⟩⟩
  case round =>
    obtain ⟨k, rfl, hk, HI⟩ := hrel
    obtain ⟨x0, x1, x2, x3, x4⟩ := HI.out.2.2.cells
    by_cases h : k < m
    . have hd : decide ((k : Int) < (m : Int)) = true := decide_eq_true (by omega)
      obtain ⟨gq, off, rfl, hall⟩ := hgl.resolve_left (by omega)
      have hcw := HC0.out k h gq off hall.out
      have hgw : gq < w.heap.size := World.block_lt_of_cell? _ _ hcw
      have hq64 := HQ.out k h
      have hix := HIX.out k h
      have hwk : wrap64 ((k : Int) + 1) = (k : Int) + 1 := by unfold wrap64; omega
      obtain ⟨a1, a2, a3⟩ := pow_run (nq k) hq64
      have u1 : IntKind.u64.wrap (nq k : Int) = (nq k : Int) := by rw [wrapU]; omega
      have o1 : bits .or .u64 (fx k : Int) ((2 ^ nq k : Nat) : Int) = ((fx k ||| 2 ^ nq k : Nat) : Int) := u64_or_nat _ _ (HXL.out k (by omega)) a3
      have o2 : bits .or .u64 (fz k : Int) ((2 ^ nq k : Nat) : Int) = ((fz k ||| 2 ^ nq k : Nat) : Int) := u64_or_nat _ _ (HZL.out k (by omega)) a3
      have hxs := HXS.out k
      have hzs := HZS.out k
      have hst := store_i
      have HJ := hide (And.intro HI.out.1 (And.intro HI.out.2.1 (And.intro HI.out.2.2 (cell_below hcw HI.out.1))))
      have hq64' : (nq k : Int) < 64 := by omega
      clear HI HXL HZL HXS HZS HX0 HZ0 hall hcw HC0 HIX HQ a3
      generalize lq k = b at *
      generalize hX1 : fx k ||| 2 ^ nq k = X1 at *
      generalize hZ1 : fz k ||| 2 ^ nq k = Z1 at *
      have HX1 := hide hX1
      have HZ1 := hide hZ1
      generalize hXp : fx (k + 1) = Xp at *
      generalize hZp : fz (k + 1) = Zp at *
      have HXp := hide hXp
      have HZp := hide hZp
      generalize fx k = X at *
      generalize fz k = Z at *
      clear hX1 hZ1 hXp hZp
      generalize hpw : 2 ^ nq k = pw at *
      generalize nq k = q at *
      clear hpw
      by_cases b88 : b = 88
      . subst b88
        have HX : Hid (fx (k + 1) = X1) := hide (by rw [HXp.out, hxs, show cx 88 = 1 by decide, Nat.one_mul]; exact HX1.out)
        have HZ : Hid (fz (k + 1) = Z) := hide (by rw [HZp.out, hzs, show cz 88 = 0 by decide, Nat.zero_mul, Nat.or_zero])
        clear hxs hzs
        have HC1 : Hid (∀ W, Below wr.heap.size wr W -> (W.cell? ⟨w.heap.size + 1, 0, none⟩ = some (.int .i64 n) /\ W.cell? ⟨w.heap.size + 1, 1, none⟩ = some (.int .u64 (X : Int)) /\ W.cell? ⟨w.heap.size + 1, 2, none⟩ = some (.int .u64 (Z : Int)) /\ W.cell? ⟨w.heap.size + 1, 3, none⟩ = some (.int .i64 0) /\ w.heap.size + 1 < W.heap.size) /\ W.frozen? ⟨w.heap.size + 1, 1, none⟩ = false /\ W.frozen? ⟨w.heap.size + 1, 2, none⟩ = false /\ W.cell? ⟨gq, off + k, none⟩ = some (.int .i64 (q : Int)) /\ gq < W.heap.size) := hide (fun W hW => ⟨(HJ.out.2.2.1.below hW).cells, (HJ.out.2.2.1.below hW).fz 1, (HJ.out.2.2.1.below hW).fz 2, cell_below HJ.out.2.2.2 hW, World.block_lt_of_cell? _ _ (cell_below HJ.out.2.2.2 hW)⟩)
        have HT1 : Hid (∀ W, Below wr.heap.size wr W -> Below w.heap.size w (W.setCell ⟨w.heap.size + 1, 1, none⟩ (.int .u64 (X1 : Int))) /\ At4 (W.setCell ⟨w.heap.size + 1, 1, none⟩ (.int .u64 (X1 : Int))) w.heap.size (.int .i64 0) (.int .u64 0) (.int .u64 0) (.int .i64 0) /\ At4 (W.setCell ⟨w.heap.size + 1, 1, none⟩ (.int .u64 (X1 : Int))) (w.heap.size + 1) (.int .i64 n) (.int .u64 (X1 : Int)) (.int .u64 (Z : Int)) (.int .i64 0) /\ (W.setCell ⟨w.heap.size + 1, 1, none⟩ (.int .u64 (X1 : Int))).cell? ⟨gq, off + k, none⟩ = some (.int .i64 (q : Int))) := hide (fun W hW => ⟨(bkp HJ.out.1 hW).setCell (p := ⟨w.heap.size + 1, 1, none⟩) (show w.heap.size <= w.heap.size + 1 by omega) _, (HJ.out.2.1.below hW).off (by omega), (HJ.out.2.2.1.below hW).set1 _, (World.cell?_of_block (a := ⟨gq, off + k, none⟩) (Below.heap_setCell _ _ _ _ (show gq ≠ w.heap.size + 1 by omega))).trans (cell_below HJ.out.2.2.2 hW)⟩)
        go_wp2_with fail
        refine wp_region_quiet_last (C := fun W => Below wr.heap.size wr W) (by kernel_rfl) 10 rfl (by kernel_rfl) (by kernel_rfl) (bdrew (Below.refl _ _) 1) ?_
        simp only [List.take_succ_cons, List.take_zero]
        repeat
          refine wpQuiet_step (fun K hK => ?_)
          go_simp
          first
            | (refine hK _ ?_; clear hK K)
            | (apply Exists.intro
               refine ⟨fun W hW => ?_, hK _ ?_⟩
               first
                 | (obtain ⟨⟨d0, d1, d2, d3, d4⟩, d5, d6, c0, c1⟩ := HC1.out W hW; go_simp; rfl)
               clear hK K)
        refine wpQuiet_nil ?_
        intro W1 hW
        obtain ⟨⟨d0, d1, d2, d3, d4⟩, d5, d6, c0, c1⟩ := HC1.out W1 hW
        have HT1' := hide (HT1.out W1 hW)
        clear hW HC1 HT1
        have NN := HT1'
        go_wp2_with fail
        go_roundw
        case rel => exact ⟨k + 1, by go_num, by omega, hide ⟨NN.out.1, NN.out.2.1, by rw [HX.out, HZ.out]; exact NN.out.2.2.1⟩⟩
        case measure => simp [Go.RowKit.intOf]; omega
      . have n88 : ((b.toNat : Int) == 88) = false := beq_eq_false_iff_ne.2 (fun e => b88 (UInt8.toNat_inj.1 (by simpa using Int.ofNat_inj.1 e)))
        by_cases b89 : b = 89
        . subst b89
          have HX : Hid (fx (k + 1) = X1) := hide (by rw [HXp.out, hxs, show cx 89 = 1 by decide, Nat.one_mul]; exact HX1.out)
          have HZ : Hid (fz (k + 1) = Z1) := hide (by rw [HZp.out, hzs, show cz 89 = 1 by decide, Nat.one_mul]; exact HZ1.out)
          clear hxs hzs n88
          have HC1 : Hid (∀ W, Below wr.heap.size wr W -> (W.cell? ⟨w.heap.size + 1, 0, none⟩ = some (.int .i64 n) /\ W.cell? ⟨w.heap.size + 1, 1, none⟩ = some (.int .u64 (X : Int)) /\ W.cell? ⟨w.heap.size + 1, 2, none⟩ = some (.int .u64 (Z : Int)) /\ W.cell? ⟨w.heap.size + 1, 3, none⟩ = some (.int .i64 0) /\ w.heap.size + 1 < W.heap.size) /\ W.frozen? ⟨w.heap.size + 1, 1, none⟩ = false /\ W.frozen? ⟨w.heap.size + 1, 2, none⟩ = false /\ W.cell? ⟨gq, off + k, none⟩ = some (.int .i64 (q : Int)) /\ gq < W.heap.size) := hide (fun W hW => ⟨(HJ.out.2.2.1.below hW).cells, (HJ.out.2.2.1.below hW).fz 1, (HJ.out.2.2.1.below hW).fz 2, cell_below HJ.out.2.2.2 hW, World.block_lt_of_cell? _ _ (cell_below HJ.out.2.2.2 hW)⟩)
          have HT1 : Hid (∀ W, Below wr.heap.size wr W -> Below w.heap.size w (W.setCell ⟨w.heap.size + 1, 1, none⟩ (.int .u64 (X1 : Int))) /\ At4 (W.setCell ⟨w.heap.size + 1, 1, none⟩ (.int .u64 (X1 : Int))) w.heap.size (.int .i64 0) (.int .u64 0) (.int .u64 0) (.int .i64 0) /\ At4 (W.setCell ⟨w.heap.size + 1, 1, none⟩ (.int .u64 (X1 : Int))) (w.heap.size + 1) (.int .i64 n) (.int .u64 (X1 : Int)) (.int .u64 (Z : Int)) (.int .i64 0) /\ (W.setCell ⟨w.heap.size + 1, 1, none⟩ (.int .u64 (X1 : Int))).cell? ⟨gq, off + k, none⟩ = some (.int .i64 (q : Int))) := hide (fun W hW => ⟨(bkp HJ.out.1 hW).setCell (p := ⟨w.heap.size + 1, 1, none⟩) (show w.heap.size <= w.heap.size + 1 by omega) _, (HJ.out.2.1.below hW).off (by omega), (HJ.out.2.2.1.below hW).set1 _, (World.cell?_of_block (a := ⟨gq, off + k, none⟩) (Below.heap_setCell _ _ _ _ (show gq ≠ w.heap.size + 1 by omega))).trans (cell_below HJ.out.2.2.2 hW)⟩)
          go_wp2_with fail
          refine wp_region_quiet_last (C := fun W => Below wr.heap.size wr W) (by kernel_rfl) 10 rfl (by kernel_rfl) (by kernel_rfl) (bdrew (Below.refl _ _) 1) ?_
          simp only [List.take_succ_cons, List.take_zero]
          repeat
            refine wpQuiet_step (fun K hK => ?_)
            go_simp
            first
              | (refine hK _ ?_; clear hK K)
              | (apply Exists.intro
                 refine ⟨fun W hW => ?_, hK _ ?_⟩
                 first
                   | (obtain ⟨⟨d0, d1, d2, d3, d4⟩, d5, d6, c0, c1⟩ := HC1.out W hW; go_simp; rfl)
                 clear hK K)
          refine wpQuiet_nil ?_
          intro W1 hW
          obtain ⟨⟨d0, d1, d2, d3, d4⟩, d5, d6, c0, c1⟩ := HC1.out W1 hW
          have HT1' := hide (HT1.out W1 hW)
          clear hW HC1 HT1
          go_wp2_with fail
          generalize W1.setCell ⟨w.heap.size + 1, 1, none⟩ (.int .u64 (X1 : Int)) = wm at *
          clear d0 d1 d2 d3 d4 d5 d6 c0 c1
          have HC2 : Hid (∀ W, Below wm.heap.size wm W -> (W.cell? ⟨w.heap.size + 1, 0, none⟩ = some (.int .i64 n) /\ W.cell? ⟨w.heap.size + 1, 1, none⟩ = some (.int .u64 (X1 : Int)) /\ W.cell? ⟨w.heap.size + 1, 2, none⟩ = some (.int .u64 (Z : Int)) /\ W.cell? ⟨w.heap.size + 1, 3, none⟩ = some (.int .i64 0) /\ w.heap.size + 1 < W.heap.size) /\ W.frozen? ⟨w.heap.size + 1, 1, none⟩ = false /\ W.frozen? ⟨w.heap.size + 1, 2, none⟩ = false /\ W.cell? ⟨gq, off + k, none⟩ = some (.int .i64 (q : Int)) /\ gq < W.heap.size) := hide (fun W hW => ⟨(HT1'.out.2.2.1.below hW).cells, (HT1'.out.2.2.1.below hW).fz 1, (HT1'.out.2.2.1.below hW).fz 2, cell_below HT1'.out.2.2.2 hW, World.block_lt_of_cell? _ _ (cell_below HT1'.out.2.2.2 hW)⟩)
          have HT2 : Hid (∀ W, Below wm.heap.size wm W -> Below w.heap.size w (W.setCell ⟨w.heap.size + 1, 2, none⟩ (.int .u64 (Z1 : Int))) /\ At4 (W.setCell ⟨w.heap.size + 1, 2, none⟩ (.int .u64 (Z1 : Int))) w.heap.size (.int .i64 0) (.int .u64 0) (.int .u64 0) (.int .i64 0) /\ At4 (W.setCell ⟨w.heap.size + 1, 2, none⟩ (.int .u64 (Z1 : Int))) (w.heap.size + 1) (.int .i64 n) (.int .u64 (X1 : Int)) (.int .u64 (Z1 : Int)) (.int .i64 0) /\ (W.setCell ⟨w.heap.size + 1, 2, none⟩ (.int .u64 (Z1 : Int))).cell? ⟨gq, off + k, none⟩ = some (.int .i64 (q : Int))) := hide (fun W hW => ⟨(bkp HT1'.out.1 hW).setCell (p := ⟨w.heap.size + 1, 2, none⟩) (show w.heap.size <= w.heap.size + 1 by omega) _, (HT1'.out.2.1.below hW).off (by omega), (HT1'.out.2.2.1.below hW).set2 _, (World.cell?_of_block (a := ⟨gq, off + k, none⟩) (Below.heap_setCell _ _ _ _ (show gq ≠ w.heap.size + 1 by omega))).trans (cell_below HT1'.out.2.2.2 hW)⟩)
          refine wp_region_quiet_last (C := fun W => Below wm.heap.size wm W) (by kernel_rfl) 10 rfl (by kernel_rfl) (by kernel_rfl) (bdrew (Below.refl _ _) 1) ?_
          simp only [List.take_succ_cons, List.take_zero]
          repeat
            refine wpQuiet_step (fun K hK => ?_)
            go_simp
            first
              | (refine hK _ ?_; clear hK K)
              | (apply Exists.intro
                 refine ⟨fun W hW => ?_, hK _ ?_⟩
                 first
                   | (obtain ⟨⟨d0, d1, d2, d3, d4⟩, d5, d6, c0, c1⟩ := HC2.out W hW; go_simp; rfl)
                 clear hK K)
          refine wpQuiet_nil ?_
          intro W2 hW
          obtain ⟨⟨d0, d1, d2, d3, d4⟩, d5, d6, c0, c1⟩ := HC2.out W2 hW
          have HT2' := hide (HT2.out W2 hW)
          clear hW HC2 HT2
          have NN := HT2'
          go_wp2_with fail
          go_roundw
          case rel => exact ⟨k + 1, by go_num, by omega, hide ⟨NN.out.1, NN.out.2.1, by rw [HX.out, HZ.out]; exact NN.out.2.2.1⟩⟩
          case measure => simp [Go.RowKit.intOf]; omega
        . have n89 : ((b.toNat : Int) == 89) = false := beq_eq_false_iff_ne.2 (fun e => b89 (UInt8.toNat_inj.1 (by simpa using Int.ofNat_inj.1 e)))
          by_cases b90 : b = 90
          . subst b90
            have HX : Hid (fx (k + 1) = X) := hide (by rw [HXp.out, hxs, show cx 90 = 0 by decide, Nat.zero_mul, Nat.or_zero])
            have HZ : Hid (fz (k + 1) = Z1) := hide (by rw [HZp.out, hzs, show cz 90 = 1 by decide, Nat.one_mul]; exact HZ1.out)
            clear hxs hzs n88 n89
            have HC1 : Hid (∀ W, Below wr.heap.size wr W -> (W.cell? ⟨w.heap.size + 1, 0, none⟩ = some (.int .i64 n) /\ W.cell? ⟨w.heap.size + 1, 1, none⟩ = some (.int .u64 (X : Int)) /\ W.cell? ⟨w.heap.size + 1, 2, none⟩ = some (.int .u64 (Z : Int)) /\ W.cell? ⟨w.heap.size + 1, 3, none⟩ = some (.int .i64 0) /\ w.heap.size + 1 < W.heap.size) /\ W.frozen? ⟨w.heap.size + 1, 1, none⟩ = false /\ W.frozen? ⟨w.heap.size + 1, 2, none⟩ = false /\ W.cell? ⟨gq, off + k, none⟩ = some (.int .i64 (q : Int)) /\ gq < W.heap.size) := hide (fun W hW => ⟨(HJ.out.2.2.1.below hW).cells, (HJ.out.2.2.1.below hW).fz 1, (HJ.out.2.2.1.below hW).fz 2, cell_below HJ.out.2.2.2 hW, World.block_lt_of_cell? _ _ (cell_below HJ.out.2.2.2 hW)⟩)
            have HT1 : Hid (∀ W, Below wr.heap.size wr W -> Below w.heap.size w (W.setCell ⟨w.heap.size + 1, 2, none⟩ (.int .u64 (Z1 : Int))) /\ At4 (W.setCell ⟨w.heap.size + 1, 2, none⟩ (.int .u64 (Z1 : Int))) w.heap.size (.int .i64 0) (.int .u64 0) (.int .u64 0) (.int .i64 0) /\ At4 (W.setCell ⟨w.heap.size + 1, 2, none⟩ (.int .u64 (Z1 : Int))) (w.heap.size + 1) (.int .i64 n) (.int .u64 (X : Int)) (.int .u64 (Z1 : Int)) (.int .i64 0) /\ (W.setCell ⟨w.heap.size + 1, 2, none⟩ (.int .u64 (Z1 : Int))).cell? ⟨gq, off + k, none⟩ = some (.int .i64 (q : Int))) := hide (fun W hW => ⟨(bkp HJ.out.1 hW).setCell (p := ⟨w.heap.size + 1, 2, none⟩) (show w.heap.size <= w.heap.size + 1 by omega) _, (HJ.out.2.1.below hW).off (by omega), (HJ.out.2.2.1.below hW).set2 _, (World.cell?_of_block (a := ⟨gq, off + k, none⟩) (Below.heap_setCell _ _ _ _ (show gq ≠ w.heap.size + 1 by omega))).trans (cell_below HJ.out.2.2.2 hW)⟩)
            go_wp2_with fail
            refine wp_region_quiet_last (C := fun W => Below wr.heap.size wr W) (by kernel_rfl) 10 rfl (by kernel_rfl) (by kernel_rfl) (bdrew (Below.refl _ _) 1) ?_
            simp only [List.take_succ_cons, List.take_zero]
            repeat
              refine wpQuiet_step (fun K hK => ?_)
              go_simp
              first
                | (refine hK _ ?_; clear hK K)
                | (apply Exists.intro
                   refine ⟨fun W hW => ?_, hK _ ?_⟩
                   first
                     | (obtain ⟨⟨d0, d1, d2, d3, d4⟩, d5, d6, c0, c1⟩ := HC1.out W hW; go_simp; rfl)
                   clear hK K)
            refine wpQuiet_nil ?_
            intro W1 hW
            obtain ⟨⟨d0, d1, d2, d3, d4⟩, d5, d6, c0, c1⟩ := HC1.out W1 hW
            have HT1' := hide (HT1.out W1 hW)
            clear hW HC1 HT1
            have NN := HT1'
            go_wp2_with fail
            go_roundw
            case rel => exact ⟨k + 1, by go_num, by omega, hide ⟨NN.out.1, NN.out.2.1, by rw [HX.out, HZ.out]; exact NN.out.2.2.1⟩⟩
            case measure => simp [Go.RowKit.intOf]; omega
          . have n90 : ((b.toNat : Int) == 90) = false := beq_eq_false_iff_ne.2 (fun e => b90 (UInt8.toNat_inj.1 (by simpa using Int.ofNat_inj.1 e)))
            have HX : Hid (fx (k + 1) = X) := hide (by rw [HXp.out, hxs, show cx b = 0 by unfold cx; exact if_neg (by rintro (e | e) <;> contradiction), Nat.zero_mul, Nat.or_zero])
            have HZ : Hid (fz (k + 1) = Z) := hide (by rw [HZp.out, hzs, show cz b = 0 by unfold cz; exact if_neg (by rintro (e | e) <;> contradiction), Nat.zero_mul, Nat.or_zero])
            generalize (b.toNat : Int) = bv at *
            have NN := HJ
            clear hxs hzs
            go_wp2_with fail
            go_roundw
            case rel => exact ⟨k + 1, by go_num, by omega, hide ⟨NN.out.1, NN.out.2.1, by rw [HX.out, HZ.out]; exact NN.out.2.2.1⟩⟩
            case measure => simp [Go.RowKit.intOf]; omega
    . obtain rfl : k = m := by omega
      have hd : decide ((k : Int) < (k : Int)) = false := decide_eq_false (by omega)
      have hR := HI.out.2.1
      have HBi := hide HI.out.1
      unfold At4 at hR
      clear HI
      go_wp2_with (first
        | (refine wpList_store_row rfl _ _ _ rfl w.heap.size _ rfl rfl _ _ hR (by exact infoP) (by rfl) (allP _ _ _ _) ?_))
      refine bodyPost_ret (results_c rfl _ _ w.heap.size _ _ _ _ rfl (setRow_heap _ _ _ _ _ _ hR) Tryz.underlying27 rfl (by exact infoP)) rfl ?_
      exact ⟨rfl, below_setRow HBi.out (Nat.le_refl _) _⟩
theorem dLetters_m (l : List UInt8) (ns : List Nat) (hl : l.length = ns.length + 1) (hs : l.getD 0 0 = 45) (hns : ∀ q ∈ ns, q < 64) (hln : ns.length <= 64) (n : Int) (ao : Option Addr) (c : Nat) (w : World) (hN : Ns w ao (im64 ns)) : Calls Tryz.prog 47 #[str l, .int .i64 n, .slice ao ns.length c] w fun e w' => e = .returned (pV (leP l ns n)) /\ Below w.heap.size w w' := by
  obtain ⟨a0, ha0⟩ : ∃ a0, l[0]? = some a0 := ⟨_, List.getElem?_eq_getElem (by omega)⟩
  have ga : l.getD 0 0 = a0 := by rw [List.getD_eq_getElem?_getD, ha0]; rfl
  have ixa := fun W => ix_at l 0 a0 ha0 W
  rw [show (((0 : Nat)) : Int) = 0 from rfl] at ixa
  have hsg : sgn l = 2 := by unfold sgn; exact if_pos hs
  have ea : a0 = 45 := ga.symm.trans hs
  subst ea
  have HXL := hide (fun k hk => lw_lt cx_le l ns hns k hk)
  have HZL := hide (fun k hk => lw_lt cz_le l ns hns k hk)
  have HXS : Hid (∀ k, lw cx l ns (k + 1) = lw cx l ns k ||| cx (l.getD (k + 1) 0) * 2 ^ (ns.getD k 0)) := hide (fun k => rfl)
  have HZS : Hid (∀ k, lw cz l ns (k + 1) = lw cz l ns k ||| cz (l.getD (k + 1) 0) * 2 ^ (ns.getD k 0)) := hide (fun k => rfl)
  have HX0 : Hid (lw cx l ns 0 = 0) := hide rfl
  have HZ0 : Hid (lw cz l ns 0 = 0) := hide rfl
  have HQ : Hid (∀ k, k < ns.length -> ns.getD k 0 < 64) := hide (fun k hk => hns _ (getD_mem hk))
  have HIX : Hid (∀ k, k < ns.length -> ∀ W, (Instr.index 9 (.string ⟨l.toArray⟩) (.int .i64 ((k : Int) + 1))).run Tryz.prog W = .ok (.int .u8 ((l.getD (k + 1) 0).toNat : Int)) W) := hide (fun k hk W => by
    have e : l[k + 1]? = some (l.getD (k + 1) 0) := by rw [List.getD_eq_getElem?_getD, List.getElem?_eq_getElem (by omega)]; rfl
    have := ix_at l (k + 1) _ e W
    rw [show (((k + 1 : Nat)) : Int) = (k : Int) + 1 by omega] at this
    exact this)
  have HC0 : Hid (∀ k, k < ns.length -> ∀ g off, (∀ (j : Nat) z, (im64 ns)[j]? = some z -> w.cell? ⟨g, off + j, none⟩ = some (.int .i64 z)) -> w.cell? ⟨g, off + k, none⟩ = some (.int .i64 ((ns.getD k 0 : Nat) : Int))) := hide (fun k hk g off h => h k _ (by
    unfold im64
    rw [List.getElem?_map, List.getD_eq_getElem?_getD, List.getElem?_eq_getElem hk]
    rfl))
  have hgl : ns.length = 0 ∨ ∃ g off, ao = some ⟨g, off, none⟩ /\ Hid (∀ (j : Nat) z, (im64 ns)[j]? = some z -> w.cell? ⟨g, off + j, none⟩ = some (.int .i64 z)) := by
    rcases hN with h | h
    . left
      unfold im64 at h
      rw [List.map_eq_nil_iff] at h
      rw [h]
      rfl
    . exact .inr h
  unfold leP str
  rw [hsg]
  generalize hfx : lw cx l ns = fx at *
  generalize hfz : lw cz l ns = fz at *
  generalize hnq : (fun k => ns.getD k 0) = nq at *
  generalize hlq : (fun k => l.getD (k + 1) 0) = lq at *
  have eq1 : ∀ k, ns.getD k 0 = nq k := fun k => congrFun hnq k
  have eq2 : ∀ k, l.getD (k + 1) 0 = lq k := fun k => congrFun hlq k
  simp only [eq1, eq2] at HXS HZS HQ HIX HC0
  obtain ⟨m, hm⟩ : ∃ m, ns.length = m := ⟨_, rfl⟩
  rw [hm] at hl hln hgl HXL HZL HQ HIX HC0 ⊢
  have hsz := size_str l
  rw [hl] at hsz
  generalize (⟨l.toArray⟩ : ByteArray) = s at *
  unfold pV
  simp only
  obtain ⟨G1, G2⟩ := At4.two w (.int .i64 0) (.int .u64 0) (.int .u64 0) (.int .i64 0) (.int .i64 n) (.int .u64 0) (.int .u64 0) (.int .i64 2)
  have HG1 := hide G1
  have HG2 := hide G2
  have HBw := hide (bkp (bnew w (.cells #[.int .i64 0, .int .u64 0, .int .u64 0, .int .i64 0] 27)) (bnew _ (.cells #[.int .i64 n, .int .u64 0, .int .u64 0, .int .i64 2] 27)))
  clear G1 G2 hfx hfz hnq hlq eq1 eq2 hN hns hs hsg ga ha0 hl hm
  go_enter Tryz.func47, Tryz.ntmps47
  go_wp2_with fail
  generalize hw2 : (w.alloc (.cells #[.int .i64 0, .int .u64 0, .int .u64 0, .int .i64 0] 27)).alloc (.cells #[.int .i64 n, .int .u64 0, .int .u64 0, .int .i64 2] 27) = w2 at *
  clear hw2
  go_loopw [8] (fun vi wr => ∃ k : Nat, vi = .int .i64 (k : Int) /\ k <= m /\ Hid (Below w.heap.size w wr /\ At4 wr w.heap.size (.int .i64 0) (.int .u64 0) (.int .u64 0) (.int .i64 0) /\ At4 wr (w.heap.size + 1) (.int .i64 n) (.int .u64 (fx k : Int)) (.int .u64 (fz k : Int)) (.int .i64 2))) (fun vi _ => m - (Go.RowKit.intOf vi).toNat)
  case atStart => exact ⟨0, rfl, Nat.zero_le _, hide ⟨HBw.out, HG1.out, by rw [HX0.out, HZ0.out]; exact HG2.out⟩⟩
  case round =>
    obtain ⟨k, rfl, hk, HI⟩ := hrel
    obtain ⟨x0, x1, x2, x3, x4⟩ := HI.out.2.2.cells
    by_cases h : k < m
    . have hd : decide ((k : Int) < (m : Int)) = true := decide_eq_true (by omega)
      obtain ⟨gq, off, rfl, hall⟩ := hgl.resolve_left (by omega)
      have hcw := HC0.out k h gq off hall.out
      have hgw : gq < w.heap.size := World.block_lt_of_cell? _ _ hcw
      have hq64 := HQ.out k h
      have hix := HIX.out k h
      have hwk : wrap64 ((k : Int) + 1) = (k : Int) + 1 := by unfold wrap64; omega
      obtain ⟨a1, a2, a3⟩ := pow_run (nq k) hq64
      have u1 : IntKind.u64.wrap (nq k : Int) = (nq k : Int) := by rw [wrapU]; omega
      have o1 : bits .or .u64 (fx k : Int) ((2 ^ nq k : Nat) : Int) = ((fx k ||| 2 ^ nq k : Nat) : Int) := u64_or_nat _ _ (HXL.out k (by omega)) a3
      have o2 : bits .or .u64 (fz k : Int) ((2 ^ nq k : Nat) : Int) = ((fz k ||| 2 ^ nq k : Nat) : Int) := u64_or_nat _ _ (HZL.out k (by omega)) a3
      have hxs := HXS.out k
      have hzs := HZS.out k
      have hst := store_i
      have HJ := hide (And.intro HI.out.1 (And.intro HI.out.2.1 (And.intro HI.out.2.2 (cell_below hcw HI.out.1))))
      have hq64' : (nq k : Int) < 64 := by omega
      clear HI HXL HZL HXS HZS HX0 HZ0 hall hcw HC0 HIX HQ a3
      generalize lq k = b at *
      generalize hX1 : fx k ||| 2 ^ nq k = X1 at *
      generalize hZ1 : fz k ||| 2 ^ nq k = Z1 at *
      have HX1 := hide hX1
      have HZ1 := hide hZ1
      generalize hXp : fx (k + 1) = Xp at *
      generalize hZp : fz (k + 1) = Zp at *
      have HXp := hide hXp
      have HZp := hide hZp
      generalize fx k = X at *
      generalize fz k = Z at *
      clear hX1 hZ1 hXp hZp
      generalize hpw : 2 ^ nq k = pw at *
      generalize nq k = q at *
      clear hpw
      by_cases b88 : b = 88
      . subst b88
        have HX : Hid (fx (k + 1) = X1) := hide (by rw [HXp.out, hxs, show cx 88 = 1 by decide, Nat.one_mul]; exact HX1.out)
        have HZ : Hid (fz (k + 1) = Z) := hide (by rw [HZp.out, hzs, show cz 88 = 0 by decide, Nat.zero_mul, Nat.or_zero])
        clear hxs hzs
        have HC1 : Hid (∀ W, Below wr.heap.size wr W -> (W.cell? ⟨w.heap.size + 1, 0, none⟩ = some (.int .i64 n) /\ W.cell? ⟨w.heap.size + 1, 1, none⟩ = some (.int .u64 (X : Int)) /\ W.cell? ⟨w.heap.size + 1, 2, none⟩ = some (.int .u64 (Z : Int)) /\ W.cell? ⟨w.heap.size + 1, 3, none⟩ = some (.int .i64 2) /\ w.heap.size + 1 < W.heap.size) /\ W.frozen? ⟨w.heap.size + 1, 1, none⟩ = false /\ W.frozen? ⟨w.heap.size + 1, 2, none⟩ = false /\ W.cell? ⟨gq, off + k, none⟩ = some (.int .i64 (q : Int)) /\ gq < W.heap.size) := hide (fun W hW => ⟨(HJ.out.2.2.1.below hW).cells, (HJ.out.2.2.1.below hW).fz 1, (HJ.out.2.2.1.below hW).fz 2, cell_below HJ.out.2.2.2 hW, World.block_lt_of_cell? _ _ (cell_below HJ.out.2.2.2 hW)⟩)
        have HT1 : Hid (∀ W, Below wr.heap.size wr W -> Below w.heap.size w (W.setCell ⟨w.heap.size + 1, 1, none⟩ (.int .u64 (X1 : Int))) /\ At4 (W.setCell ⟨w.heap.size + 1, 1, none⟩ (.int .u64 (X1 : Int))) w.heap.size (.int .i64 0) (.int .u64 0) (.int .u64 0) (.int .i64 0) /\ At4 (W.setCell ⟨w.heap.size + 1, 1, none⟩ (.int .u64 (X1 : Int))) (w.heap.size + 1) (.int .i64 n) (.int .u64 (X1 : Int)) (.int .u64 (Z : Int)) (.int .i64 2) /\ (W.setCell ⟨w.heap.size + 1, 1, none⟩ (.int .u64 (X1 : Int))).cell? ⟨gq, off + k, none⟩ = some (.int .i64 (q : Int))) := hide (fun W hW => ⟨(bkp HJ.out.1 hW).setCell (p := ⟨w.heap.size + 1, 1, none⟩) (show w.heap.size <= w.heap.size + 1 by omega) _, (HJ.out.2.1.below hW).off (by omega), (HJ.out.2.2.1.below hW).set1 _, (World.cell?_of_block (a := ⟨gq, off + k, none⟩) (Below.heap_setCell _ _ _ _ (show gq ≠ w.heap.size + 1 by omega))).trans (cell_below HJ.out.2.2.2 hW)⟩)
        go_wp2_with fail
        refine wp_region_quiet_last (C := fun W => Below wr.heap.size wr W) (by kernel_rfl) 10 rfl (by kernel_rfl) (by kernel_rfl) (bdrew (Below.refl _ _) 1) ?_
        simp only [List.take_succ_cons, List.take_zero]
        repeat
          refine wpQuiet_step (fun K hK => ?_)
          go_simp
          first
            | (refine hK _ ?_; clear hK K)
            | (apply Exists.intro
               refine ⟨fun W hW => ?_, hK _ ?_⟩
               first
                 | (obtain ⟨⟨d0, d1, d2, d3, d4⟩, d5, d6, c0, c1⟩ := HC1.out W hW; go_simp; rfl)
               clear hK K)
        refine wpQuiet_nil ?_
        intro W1 hW
        obtain ⟨⟨d0, d1, d2, d3, d4⟩, d5, d6, c0, c1⟩ := HC1.out W1 hW
        have HT1' := hide (HT1.out W1 hW)
        clear hW HC1 HT1
        have NN := HT1'
        go_wp2_with fail
        go_roundw
        case rel => exact ⟨k + 1, by go_num, by omega, hide ⟨NN.out.1, NN.out.2.1, by rw [HX.out, HZ.out]; exact NN.out.2.2.1⟩⟩
        case measure => simp [Go.RowKit.intOf]; omega
      . have n88 : ((b.toNat : Int) == 88) = false := beq_eq_false_iff_ne.2 (fun e => b88 (UInt8.toNat_inj.1 (by simpa using Int.ofNat_inj.1 e)))
        by_cases b89 : b = 89
        . subst b89
          have HX : Hid (fx (k + 1) = X1) := hide (by rw [HXp.out, hxs, show cx 89 = 1 by decide, Nat.one_mul]; exact HX1.out)
          have HZ : Hid (fz (k + 1) = Z1) := hide (by rw [HZp.out, hzs, show cz 89 = 1 by decide, Nat.one_mul]; exact HZ1.out)
          clear hxs hzs n88
          have HC1 : Hid (∀ W, Below wr.heap.size wr W -> (W.cell? ⟨w.heap.size + 1, 0, none⟩ = some (.int .i64 n) /\ W.cell? ⟨w.heap.size + 1, 1, none⟩ = some (.int .u64 (X : Int)) /\ W.cell? ⟨w.heap.size + 1, 2, none⟩ = some (.int .u64 (Z : Int)) /\ W.cell? ⟨w.heap.size + 1, 3, none⟩ = some (.int .i64 2) /\ w.heap.size + 1 < W.heap.size) /\ W.frozen? ⟨w.heap.size + 1, 1, none⟩ = false /\ W.frozen? ⟨w.heap.size + 1, 2, none⟩ = false /\ W.cell? ⟨gq, off + k, none⟩ = some (.int .i64 (q : Int)) /\ gq < W.heap.size) := hide (fun W hW => ⟨(HJ.out.2.2.1.below hW).cells, (HJ.out.2.2.1.below hW).fz 1, (HJ.out.2.2.1.below hW).fz 2, cell_below HJ.out.2.2.2 hW, World.block_lt_of_cell? _ _ (cell_below HJ.out.2.2.2 hW)⟩)
          have HT1 : Hid (∀ W, Below wr.heap.size wr W -> Below w.heap.size w (W.setCell ⟨w.heap.size + 1, 1, none⟩ (.int .u64 (X1 : Int))) /\ At4 (W.setCell ⟨w.heap.size + 1, 1, none⟩ (.int .u64 (X1 : Int))) w.heap.size (.int .i64 0) (.int .u64 0) (.int .u64 0) (.int .i64 0) /\ At4 (W.setCell ⟨w.heap.size + 1, 1, none⟩ (.int .u64 (X1 : Int))) (w.heap.size + 1) (.int .i64 n) (.int .u64 (X1 : Int)) (.int .u64 (Z : Int)) (.int .i64 2) /\ (W.setCell ⟨w.heap.size + 1, 1, none⟩ (.int .u64 (X1 : Int))).cell? ⟨gq, off + k, none⟩ = some (.int .i64 (q : Int))) := hide (fun W hW => ⟨(bkp HJ.out.1 hW).setCell (p := ⟨w.heap.size + 1, 1, none⟩) (show w.heap.size <= w.heap.size + 1 by omega) _, (HJ.out.2.1.below hW).off (by omega), (HJ.out.2.2.1.below hW).set1 _, (World.cell?_of_block (a := ⟨gq, off + k, none⟩) (Below.heap_setCell _ _ _ _ (show gq ≠ w.heap.size + 1 by omega))).trans (cell_below HJ.out.2.2.2 hW)⟩)
          go_wp2_with fail
          refine wp_region_quiet_last (C := fun W => Below wr.heap.size wr W) (by kernel_rfl) 10 rfl (by kernel_rfl) (by kernel_rfl) (bdrew (Below.refl _ _) 1) ?_
          simp only [List.take_succ_cons, List.take_zero]
          repeat
            refine wpQuiet_step (fun K hK => ?_)
            go_simp
            first
              | (refine hK _ ?_; clear hK K)
              | (apply Exists.intro
                 refine ⟨fun W hW => ?_, hK _ ?_⟩
                 first
                   | (obtain ⟨⟨d0, d1, d2, d3, d4⟩, d5, d6, c0, c1⟩ := HC1.out W hW; go_simp; rfl)
                 clear hK K)
          refine wpQuiet_nil ?_
          intro W1 hW
          obtain ⟨⟨d0, d1, d2, d3, d4⟩, d5, d6, c0, c1⟩ := HC1.out W1 hW
          have HT1' := hide (HT1.out W1 hW)
          clear hW HC1 HT1
          go_wp2_with fail
          generalize W1.setCell ⟨w.heap.size + 1, 1, none⟩ (.int .u64 (X1 : Int)) = wm at *
          clear d0 d1 d2 d3 d4 d5 d6 c0 c1
          have HC2 : Hid (∀ W, Below wm.heap.size wm W -> (W.cell? ⟨w.heap.size + 1, 0, none⟩ = some (.int .i64 n) /\ W.cell? ⟨w.heap.size + 1, 1, none⟩ = some (.int .u64 (X1 : Int)) /\ W.cell? ⟨w.heap.size + 1, 2, none⟩ = some (.int .u64 (Z : Int)) /\ W.cell? ⟨w.heap.size + 1, 3, none⟩ = some (.int .i64 2) /\ w.heap.size + 1 < W.heap.size) /\ W.frozen? ⟨w.heap.size + 1, 1, none⟩ = false /\ W.frozen? ⟨w.heap.size + 1, 2, none⟩ = false /\ W.cell? ⟨gq, off + k, none⟩ = some (.int .i64 (q : Int)) /\ gq < W.heap.size) := hide (fun W hW => ⟨(HT1'.out.2.2.1.below hW).cells, (HT1'.out.2.2.1.below hW).fz 1, (HT1'.out.2.2.1.below hW).fz 2, cell_below HT1'.out.2.2.2 hW, World.block_lt_of_cell? _ _ (cell_below HT1'.out.2.2.2 hW)⟩)
          have HT2 : Hid (∀ W, Below wm.heap.size wm W -> Below w.heap.size w (W.setCell ⟨w.heap.size + 1, 2, none⟩ (.int .u64 (Z1 : Int))) /\ At4 (W.setCell ⟨w.heap.size + 1, 2, none⟩ (.int .u64 (Z1 : Int))) w.heap.size (.int .i64 0) (.int .u64 0) (.int .u64 0) (.int .i64 0) /\ At4 (W.setCell ⟨w.heap.size + 1, 2, none⟩ (.int .u64 (Z1 : Int))) (w.heap.size + 1) (.int .i64 n) (.int .u64 (X1 : Int)) (.int .u64 (Z1 : Int)) (.int .i64 2) /\ (W.setCell ⟨w.heap.size + 1, 2, none⟩ (.int .u64 (Z1 : Int))).cell? ⟨gq, off + k, none⟩ = some (.int .i64 (q : Int))) := hide (fun W hW => ⟨(bkp HT1'.out.1 hW).setCell (p := ⟨w.heap.size + 1, 2, none⟩) (show w.heap.size <= w.heap.size + 1 by omega) _, (HT1'.out.2.1.below hW).off (by omega), (HT1'.out.2.2.1.below hW).set2 _, (World.cell?_of_block (a := ⟨gq, off + k, none⟩) (Below.heap_setCell _ _ _ _ (show gq ≠ w.heap.size + 1 by omega))).trans (cell_below HT1'.out.2.2.2 hW)⟩)
          refine wp_region_quiet_last (C := fun W => Below wm.heap.size wm W) (by kernel_rfl) 10 rfl (by kernel_rfl) (by kernel_rfl) (bdrew (Below.refl _ _) 1) ?_
          simp only [List.take_succ_cons, List.take_zero]
          repeat
            refine wpQuiet_step (fun K hK => ?_)
            go_simp
            first
              | (refine hK _ ?_; clear hK K)
              | (apply Exists.intro
                 refine ⟨fun W hW => ?_, hK _ ?_⟩
                 first
                   | (obtain ⟨⟨d0, d1, d2, d3, d4⟩, d5, d6, c0, c1⟩ := HC2.out W hW; go_simp; rfl)
                 clear hK K)
          refine wpQuiet_nil ?_
          intro W2 hW
          obtain ⟨⟨d0, d1, d2, d3, d4⟩, d5, d6, c0, c1⟩ := HC2.out W2 hW
          have HT2' := hide (HT2.out W2 hW)
          clear hW HC2 HT2
          have NN := HT2'
          go_wp2_with fail
          go_roundw
          case rel => exact ⟨k + 1, by go_num, by omega, hide ⟨NN.out.1, NN.out.2.1, by rw [HX.out, HZ.out]; exact NN.out.2.2.1⟩⟩
          case measure => simp [Go.RowKit.intOf]; omega
        . have n89 : ((b.toNat : Int) == 89) = false := beq_eq_false_iff_ne.2 (fun e => b89 (UInt8.toNat_inj.1 (by simpa using Int.ofNat_inj.1 e)))
          by_cases b90 : b = 90
          . subst b90
            have HX : Hid (fx (k + 1) = X) := hide (by rw [HXp.out, hxs, show cx 90 = 0 by decide, Nat.zero_mul, Nat.or_zero])
            have HZ : Hid (fz (k + 1) = Z1) := hide (by rw [HZp.out, hzs, show cz 90 = 1 by decide, Nat.one_mul]; exact HZ1.out)
            clear hxs hzs n88 n89
            have HC1 : Hid (∀ W, Below wr.heap.size wr W -> (W.cell? ⟨w.heap.size + 1, 0, none⟩ = some (.int .i64 n) /\ W.cell? ⟨w.heap.size + 1, 1, none⟩ = some (.int .u64 (X : Int)) /\ W.cell? ⟨w.heap.size + 1, 2, none⟩ = some (.int .u64 (Z : Int)) /\ W.cell? ⟨w.heap.size + 1, 3, none⟩ = some (.int .i64 2) /\ w.heap.size + 1 < W.heap.size) /\ W.frozen? ⟨w.heap.size + 1, 1, none⟩ = false /\ W.frozen? ⟨w.heap.size + 1, 2, none⟩ = false /\ W.cell? ⟨gq, off + k, none⟩ = some (.int .i64 (q : Int)) /\ gq < W.heap.size) := hide (fun W hW => ⟨(HJ.out.2.2.1.below hW).cells, (HJ.out.2.2.1.below hW).fz 1, (HJ.out.2.2.1.below hW).fz 2, cell_below HJ.out.2.2.2 hW, World.block_lt_of_cell? _ _ (cell_below HJ.out.2.2.2 hW)⟩)
            have HT1 : Hid (∀ W, Below wr.heap.size wr W -> Below w.heap.size w (W.setCell ⟨w.heap.size + 1, 2, none⟩ (.int .u64 (Z1 : Int))) /\ At4 (W.setCell ⟨w.heap.size + 1, 2, none⟩ (.int .u64 (Z1 : Int))) w.heap.size (.int .i64 0) (.int .u64 0) (.int .u64 0) (.int .i64 0) /\ At4 (W.setCell ⟨w.heap.size + 1, 2, none⟩ (.int .u64 (Z1 : Int))) (w.heap.size + 1) (.int .i64 n) (.int .u64 (X : Int)) (.int .u64 (Z1 : Int)) (.int .i64 2) /\ (W.setCell ⟨w.heap.size + 1, 2, none⟩ (.int .u64 (Z1 : Int))).cell? ⟨gq, off + k, none⟩ = some (.int .i64 (q : Int))) := hide (fun W hW => ⟨(bkp HJ.out.1 hW).setCell (p := ⟨w.heap.size + 1, 2, none⟩) (show w.heap.size <= w.heap.size + 1 by omega) _, (HJ.out.2.1.below hW).off (by omega), (HJ.out.2.2.1.below hW).set2 _, (World.cell?_of_block (a := ⟨gq, off + k, none⟩) (Below.heap_setCell _ _ _ _ (show gq ≠ w.heap.size + 1 by omega))).trans (cell_below HJ.out.2.2.2 hW)⟩)
            go_wp2_with fail
            refine wp_region_quiet_last (C := fun W => Below wr.heap.size wr W) (by kernel_rfl) 10 rfl (by kernel_rfl) (by kernel_rfl) (bdrew (Below.refl _ _) 1) ?_
            simp only [List.take_succ_cons, List.take_zero]
            repeat
              refine wpQuiet_step (fun K hK => ?_)
              go_simp
              first
                | (refine hK _ ?_; clear hK K)
                | (apply Exists.intro
                   refine ⟨fun W hW => ?_, hK _ ?_⟩
                   first
                     | (obtain ⟨⟨d0, d1, d2, d3, d4⟩, d5, d6, c0, c1⟩ := HC1.out W hW; go_simp; rfl)
                   clear hK K)
            refine wpQuiet_nil ?_
            intro W1 hW
            obtain ⟨⟨d0, d1, d2, d3, d4⟩, d5, d6, c0, c1⟩ := HC1.out W1 hW
            have HT1' := hide (HT1.out W1 hW)
            clear hW HC1 HT1
            have NN := HT1'
            go_wp2_with fail
            go_roundw
            case rel => exact ⟨k + 1, by go_num, by omega, hide ⟨NN.out.1, NN.out.2.1, by rw [HX.out, HZ.out]; exact NN.out.2.2.1⟩⟩
            case measure => simp [Go.RowKit.intOf]; omega
          . have n90 : ((b.toNat : Int) == 90) = false := beq_eq_false_iff_ne.2 (fun e => b90 (UInt8.toNat_inj.1 (by simpa using Int.ofNat_inj.1 e)))
            have HX : Hid (fx (k + 1) = X) := hide (by rw [HXp.out, hxs, show cx b = 0 by unfold cx; exact if_neg (by rintro (e | e) <;> contradiction), Nat.zero_mul, Nat.or_zero])
            have HZ : Hid (fz (k + 1) = Z) := hide (by rw [HZp.out, hzs, show cz b = 0 by unfold cz; exact if_neg (by rintro (e | e) <;> contradiction), Nat.zero_mul, Nat.or_zero])
            generalize (b.toNat : Int) = bv at *
            have NN := HJ
            clear hxs hzs
            go_wp2_with fail
            go_roundw
            case rel => exact ⟨k + 1, by go_num, by omega, hide ⟨NN.out.1, NN.out.2.1, by rw [HX.out, HZ.out]; exact NN.out.2.2.1⟩⟩
            case measure => simp [Go.RowKit.intOf]; omega
    . obtain rfl : k = m := by omega
      have hd : decide ((k : Int) < (k : Int)) = false := decide_eq_false (by omega)
      have hR := HI.out.2.1
      have HBi := hide HI.out.1
      unfold At4 at hR
      clear HI
      go_wp2_with (first
        | (refine wpList_store_row rfl _ _ _ rfl w.heap.size _ rfl rfl _ _ hR (by exact infoP) (by rfl) (allP _ _ _ _) ?_))
      refine bodyPost_ret (results_c rfl _ _ w.heap.size _ _ _ _ rfl (setRow_heap _ _ _ _ _ _ hR) Tryz.underlying27 rfl (by exact infoP)) rfl ?_
      exact ⟨rfl, below_setRow HBi.out (Nat.le_refl _) _⟩
theorem dLetters (l : List UInt8) (ns : List Nat) (hl : l.length = ns.length + 1) (hns : ∀ q ∈ ns, q < 64) (hln : ns.length <= 64) (n : Int) (ao : Option Addr) (c : Nat) (w : World) (hN : Ns w ao (im64 ns)) : Calls Tryz.prog 47 #[str l, .int .i64 n, .slice ao ns.length c] w fun e w' => e = .returned (pV (leP l ns n)) /\ Below w.heap.size w w' := by
  by_cases hs : l.getD 0 0 = 45
  . exact dLetters_m l ns hl hs hns hln n ao c w hN
  . exact dLetters_p l ns hl hs hns hln n ao c w hN
end Go.Proofs.YtoickolhekhgmaaGreatDoor.Pau
