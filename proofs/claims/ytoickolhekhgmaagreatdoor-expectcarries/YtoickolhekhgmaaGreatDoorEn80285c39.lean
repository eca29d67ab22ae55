import Derived.Test.YtoickolhekhgmaaGreatDoorEn87eb129a
import Derived.Test.YtoickolhekhgmaaGreatDoorEnb38265d0
namespace Go.Proofs.YtoickolhekhgmaaGreatDoor.Gt
end Go.Proofs.YtoickolhekhgmaaGreatDoor.Gt
namespace Go.Proofs.YtoickolhekhgmaaGreatDoor.Oct
end Go.Proofs.YtoickolhekhgmaaGreatDoor.Oct
set_option maxRecDepth 100000
set_option maxHeartbeats 4000000
namespace Go.Proofs.YtoickolhekhgmaaGreatDoor.Pau
open Go.RowKit Go.Shelf Go.Proofs.YtoickolhekhgmaaGreatDoor.Oct Go.Proofs.YtoickolhekhgmaaGreatDoor.Gt
def clw (x : Nat) (ns : List Nat) : Nat -> Nat
  | 0 => x
  | k + 1 => clw x ns k &&& (18446744073709551615 - 2 ^ (ns.getD k 0))
theorem clw_lt {x : Nat} (hx : x < 18446744073709551616) (ns : List Nat) : ∀ k, clw x ns k < 18446744073709551616
  | 0 => hx
  | k + 1 => Nat.lt_of_le_of_lt Nat.and_le_left (clw_lt hx ns k)
def stp (k : Nat) (ns : List Nat) (p b : P) (t : Nat) : P := if lt (bt p.x (ns.getD t 0)) (bt p.z (ns.getD t 0)) = 73 then b else (mulR b (ldP (parR (im k t (lt (bt p.x (ns.getD t 0)) (bt p.z (ns.getD t 0)) - 88))).1 ns p.n)).1
def thf (k : Nat) (ns : List Nat) (p : P) : Nat -> P
  | 0 => ⟨p.n, clw p.x ns ns.length, clw p.z ns ns.length, p.ph⟩
  | t + 1 => stp k ns p (thf k ns p t) t
def thrP (k : Nat) (ns : List Nat) (p : P) : P := thf k ns p ns.length
theorem mulR_wd {a b : P} (ha : Wd a) (hb : Wd b) : Wd (mulR a b).1 := by
  unfold mulR
  split
  . exact ⟨Nat.xor_lt_two_pow (n := 64) ha.1 hb.1, Nat.xor_lt_two_pow (n := 64) ha.2 hb.2⟩
  . exact ⟨by decide, by decide⟩
theorem parR_wd (l : List UInt8) : Wd (parR l).1 := by
  unfold parR
  split
  . exact ⟨by decide, by decide⟩
  . rename_i h
    have h64 : (cutP l).2.length <= 64 := Nat.le_of_not_lt (fun g => h (.inr (.inl g)))
    have e : 2 ^ (cutP l).2.length <= 2 ^ 64 := Nat.pow_le_pow_right (by decide) h64
    exact ⟨Nat.lt_of_lt_of_le (rd_lt cx_le _ _) e, Nat.lt_of_lt_of_le (rd_lt cz_le _ _) e⟩
theorem ldP_wd (p : P) (ns : List Nat) (h : ∀ q ∈ ns, q < 64) (n : Int) : Wd (ldP p ns n) := ⟨ldw_lt p.x ns h _ (Nat.le_refl _), ldw_lt p.z ns h _ (Nat.le_refl _)⟩
theorem thf_wd (k : Nat) (ns : List Nat) (h : ∀ q ∈ ns, q < 64) {p : P} (hp : Wd p) : ∀ t, Wd (thf k ns p t)
  | 0 => ⟨clw_lt hp.1 ns _, clw_lt hp.2 ns _⟩
  | t + 1 => by
    rw [thf]
    unfold stp
    split
    . exact thf_wd k ns h hp t
    . exact mulR_wd (thf_wd k ns h hp t) (ldP_wd _ ns h _)
theorem lt_cases (u v : Nat) : lt u v = 73 ∨ ∃ j, j < 3 /\ lt u v = 88 + j := by
  unfold lt
  (repeat' split)
  . exact .inl rfl
  . exact .inr ⟨2, by decide, rfl⟩
  . exact .inr ⟨0, by decide, rfl⟩
  . exact .inr ⟨1, by decide, rfl⟩
theorem At4.row {w : World} {g : Nat} {a b c d a' b' c' d' : Value} (h : At4 w g a b c d) : At4 (w.setRow g #[a', b', c', d']) g a' b' c' d' := setRow_heap _ _ _ _ _ _ h
theorem At4.offRow {w : World} {g k : Nat} {cs : Array Value} {a b c d : Value} (h : At4 w g a b c d) (hk : g ≠ k) : At4 (w.setRow k cs) g a b c d := (setRow_other w k g cs hk).trans h
theorem pow_run (q : Nat) (hq : q < 64) : IntKind.u64.wrap ((2 : Int) ^ q) = ((2 ^ q : Nat) : Int) /\ IntKind.u64.wrap ((1 : Int) * 2 ^ q) = ((2 ^ q : Nat) : Int) /\ 2 ^ q < 18446744073709551616 := by
  obtain ⟨h1, h2⟩ := bit_lt 1 q (by decide) hq
  rw [Nat.one_mul] at h1 h2
  refine ⟨?_, h2, h1⟩
  have e : ((1 : Nat) : Int) * 2 ^ q = 2 ^ q := by simp
  rw [e] at h2
  exact h2
theorem eval_put_ne (a : Act) (v : Value) {d t : Nat} (h : d ≠ t) : (a.put (some d) v).eval (.tmp t) = a.eval (.tmp t) := by
  simp [Act.put, Act.eval, Array.getElem?_setIfInBounds_ne h]
theorem store_swap {o : Oper} {ty : TypeId} {t1 t2 d : Nat} (ho : o.op = .store ty (.tmp t1) (.tmp t2)) (h1 : d ≠ t1) (h2 : d ≠ t2) (a : Act) (v : Value) (w : World) : (execOp (a.put (some d) v).eval o).run Tryz.prog w = (execOp a.eval o).run Tryz.prog w := by
  unfold execOp
  simp only [ho, eval_put_ne a v h1, eval_put_ne a v h2]
theorem store_run {o : Oper} {ty : TypeId} {x y : Operand} (ho : o.op = .store ty x y) {a : Act} {w : World} {g : Nat} {cells : Array Value} (hx : a.eval x = .pointer (some ⟨g, 0, none⟩)) (hy : a.eval y = .agg cells) {t : TypeId} {old : Array Value} (hg : w.heap[g]? = some (.cells old t (0, 0)))
    (hi : (Tryz.prog.info? ty).map (·.size) = some cells.size) (hold : old.size = cells.size) (h1 : cells.all (·.oneCell') = true) : (execOp a.eval o).run Tryz.prog w = .ok .skip (w.setRow g cells) := by
  unfold execOp
  simp only [ho, hx, hy, Instr.storeAt, Instr.sureAddr, Sem.run_bind, Sem.run_pure, Result.andThen_ok, run_storeVar_row w g t ty old cells hg hi hold h1]
structure Qs (ns : List Nat) (n : Int) : Prop where
  lt : ∀ q ∈ ns, q < 64
  inn : ∀ q ∈ ns, (q : Int) < n
  len : ns.length <= 2
theorem pThrough_ok (p : P) (hp : Wd p) (hr : rt p = true) (k : Nat) (hk : k < 18) (ns : List Nat) (hq : Qs ns p.n) (hcl : clB (rw' (k : Int)) = true) (hck : chkP (k : Int) (im64 ns) p.n = 0) (ao : Option Addr) (c : Nat) (hc : ns.length <= c) (w : World) (hT : Tb w) (hS : Ts w) (hI : Ti w) (hN : Ns w ao (im64 ns)) :
    Calls Tryz.prog 13 #[pV p, .int .i64 (k : Int), .slice ao ns.length c] w fun e w' => e = .returned (.tuple #[pV (thrP k ns p), .int .i64 0]) /\ Below w.heap.size w w' := by
  have c1 := fun W => pCheck p hp W
  unfold ck at c1
  rw [hr] at c1
  simp only [if_true] at c1
  have c2 := fun W (h : Below w.heap.size w W) => gClifford (k : Int) W (hT.below h)
  rw [hcl] at c2
  have hil : (im64 ns).length = ns.length := by unfold im64; rw [List.length_map]
  have c3 := fun W (h : Below w.heap.size w W) => gCheck (k : Int) ao c (im64 ns) p.n (by rw [hil]; have := hq.len; omega) (by rw [hil]; exact hc) W (hT.below h) (hN.below h)
  rw [hck, hil] at c3
  have HQ : Hid (∀ t, t < ns.length -> ns.getD t 0 < 64 /\ ((ns.getD t 0 : Nat) : Int) < p.n) := hide (fun t ht => ⟨hq.lt _ (getD_mem ht), hq.inn _ (getD_mem ht)⟩)
  have HL := hide (fun (q : Nat) (hq : (q : Int) < p.n) W => letP_in hr hq ▸ pLetter p hp (q : Int) W)
  have HIM := hide (fun (t j : Nat) (ht : t < 2) (hj : j < 3) W (h : Below w.heap.size w W) => pImage k t j hk ht hj W (hS.below h) (hI.below h))
  have HLD := hide (fun (l : List UInt8) W (h : Below w.heap.size w W) => pLaid (parR l).1 (parR_wd l) ns hq.lt (by have := hq.len; omega) p.n ao c W (hN.below h))
  have HMU := hide (fun (t : Nat) (l : List UInt8) W => pMul (thf k ns p t) (ldP (parR l).1 ns p.n) (thf_wd k ns hq.lt hp t) (ldP_wd _ ns hq.lt _) W)
  have HS0 : Hid (∀ t, lt (bt p.x (ns.getD t 0)) (bt p.z (ns.getD t 0)) = 73 -> thf k ns p (t + 1) = thf k ns p t) := hide (fun t h => by rw [thf]; unfold stp; rw [if_pos h])
  have HS1 : Hid (∀ t j, lt (bt p.x (ns.getD t 0)) (bt p.z (ns.getD t 0)) = 88 + j -> thf k ns p (t + 1) = (mulR (thf k ns p t) (ldP (parR (im k t j)).1 ns p.n)).1) := hide (fun t j h => by rw [thf]; unfold stp; rw [if_neg (by omega), h, show 88 + j - 88 = j by omega])
  have HF0 : Hid (thf k ns p 0 = ⟨p.n, clw p.x ns ns.length, clw p.z ns ns.length, p.ph⟩) := hide rfl
  have HXL := hide (fun j => clw_lt hp.1 ns j)
  have HZL := hide (fun j => clw_lt hp.2 ns j)
  have HX0 : Hid (clw p.x ns 0 = p.x) := hide rfl
  have HZ0 : Hid (clw p.z ns 0 = p.z) := hide rfl
  have HXS : Hid (∀ j, clw p.x ns (j + 1) = clw p.x ns j &&& (18446744073709551615 - 2 ^ (ns.getD j 0))) := hide (fun j => rfl)
  have HZS : Hid (∀ j, clw p.z ns (j + 1) = clw p.z ns j &&& (18446744073709551615 - 2 ^ (ns.getD j 0))) := hide (fun j => rfl)
  have HC0 : Hid (∀ j, j < ns.length -> ∀ g off, (∀ (i : Nat) z, (im64 ns)[i]? = some z -> w.cell? ⟨g, off + i, none⟩ = some (.int .i64 z)) -> w.cell? ⟨g, off + j, none⟩ = some (.int .i64 ((ns.getD j 0 : Nat) : Int))) := hide (fun j hj g off h => h j _ (by
    unfold im64
    rw [List.getElem?_map, List.getD_eq_getElem?_getD, List.getElem?_eq_getElem hj]
    rfl))
  have hgl : ns.length = 0 ∨ ∃ g off, ao = some ⟨g, off, none⟩ /\ Hid (∀ (j : Nat) z, (im64 ns)[j]? = some z -> w.cell? ⟨g, off + j, none⟩ = some (.int .i64 z)) := by
    rcases hN with h | h
    . left
      rw [← hil, h]
      rfl
    . exact .inr h
  have hn2 := hq.len
  unfold thrP
  generalize hF : thf k ns p = F at *
  generalize hfx : clw p.x ns = fx at *
  generalize hfz : clw p.z ns = fz at *
  generalize hnq : (fun j => ns.getD j 0) = nq at *
  have eq' : ∀ j, ns.getD j 0 = nq j := fun j => congrFun hnq j
  simp only [eq'] at HQ HS0 HS1 HXS HZS HC0
  obtain ⟨n, x, z, ph⟩ := p
  simp only at *
  obtain ⟨m, hm⟩ : ∃ m, ns.length = m := ⟨_, rfl⟩
  rw [hm] at c3 hgl HC0 HQ HF0 HLD hn2 hc ⊢
  unfold pV at c1 HL ⊢
  simp only at *
  obtain ⟨G1, G2⟩ := At4.two w (.int .i64 n) (.int .u64 (x : Int)) (.int .u64 (z : Int)) (.int .i64 ph) (.int .i64 0) (.int .u64 0) (.int .u64 0) (.int .i64 0)
  have HG1 := hide G1
  have HG2 := hide G2
  have HBw := hide (bkp (bnew w (.cells #[.int .i64 n, .int .u64 (x : Int), .int .u64 (z : Int), .int .i64 ph] 27)) (bnew _ (.cells #[.int .i64 0, .int .u64 0, .int .u64 0, .int .i64 0] 27)))
  clear G1 G2 hF hfx hfz hnq eq' hq hN hS hI hT hp hr hil hcl hck
  go_enter Tryz.func13, Tryz.ntmps13
  go_wp2_with fail
  refine (c1 _).mono ?_
  rintro e w1 ⟨rfl, hb1⟩
  have HB1 := hide (bkp HBw.out hb1)
  have K1 := hide (HG1.out.below hb1)
  have K2 := hide (HG2.out.below hb1)
  obtain ⟨x0, x1, x2, x3, x4⟩ := K1.out.cells
  clear hb1 HG1 HG2 HBw c1
  go_wp2_with fail
  refine (c2 _ HB1.out).mono ?_
  rintro e w2 ⟨rfl, hb2⟩
  have HB2 := hide (bkp HB1.out hb2)
  have L1 := hide (K1.out.below hb2)
  have L2 := hide (K2.out.below hb2)
  clear hb2 K1 K2 HB1 c2 x0 x1 x2 x3 x4
  obtain ⟨x0, x1, x2, x3, x4⟩ := L1.out.cells
  go_wp2_with fail
  refine (c3 _ HB2.out).mono ?_
  rintro e w3 ⟨rfl, hb3⟩
  have hbn := bnew w3 (.cells #[.int .i64 n, .int .u64 (x : Int), .int .u64 (z : Int), .int .i64 ph] 27)
  have HB3 := hide (bkp (bkp HB2.out hb3) hbn)
  have M1 := hide ((L1.out.below hb3).below hbn)
  have M2 := hide ((L2.out.below hb3).below hbn)
  have M3 := hide (At4.new w3 (.int .i64 n) (.int .u64 (x : Int)) (.int .u64 (z : Int)) (.int .i64 ph))
  have hsz : w.heap.size + 1 < w3.heap.size := (L2.out.below hb3).lt
  clear x0 x1 x2 x3 x4
  obtain ⟨x0, x1, x2, x3, x4⟩ := (L1.out.below hb3).cells
  clear hb3 L1 L2 HB2 c3 hbn
  go_wp2_with fail
  generalize w3.alloc (.cells #[.int .i64 n, .int .u64 (x : Int), .int .u64 (z : Int), .int .i64 ph] 27) = w4 at *
  generalize w3.heap.size = g at *
  clear x0 x1 x2 x3 x4
  go_loopw [34] (fun vi wr => ∃ k1 : Nat, vi = .int .i64 (k1 : Int) /\ k1 <= m /\ Hid (Below w.heap.size w wr /\ At4 wr w.heap.size (.int .i64 n) (.int .u64 (x : Int)) (.int .u64 (z : Int)) (.int .i64 ph) /\ At4 wr (w.heap.size + 1) (.int .i64 0) (.int .u64 0) (.int .u64 0) (.int .i64 0) /\ At4 wr g (.int .i64 n) (.int .u64 (fx k1 : Int)) (.int .u64 (fz k1 : Int)) (.int .i64 ph))) (fun vi _ => m - (Go.RowKit.intOf vi).toNat)
  case atStart => exact ⟨0, rfl, Nat.zero_le _, hide ⟨HB3.out, M1.out, M2.out, by rw [HX0.out, HZ0.out]; exact M3.out⟩⟩
  case round =>
    obtain ⟨k1, rfl, hk1, HI⟩ := hrel
    by_cases h : k1 < m
    . have hd : decide ((k1 : Int) < (m : Int)) = true := decide_eq_true (by omega)
      obtain ⟨gq, off, rfl, hall⟩ := hgl.resolve_left (by omega)
      have hcell := cell_below (HC0.out k1 h gq off hall.out) HI.out.1
      have hglt := World.block_lt_of_cell? _ _ hcell
      have hq64 := (HQ.out k1 h).1
      obtain ⟨a1, a2, a3⟩ := pow_run (nq k1) hq64
      have o1 : bits .andNot .u64 (fx k1 : Int) ((2 ^ nq k1 : Nat) : Int) = (fx (k1 + 1) : Int) := by rw [u64_andNot_nat _ _ (HXL.out k1) a3, HXS.out k1]
      have o2 : bits .andNot .u64 (fz k1 : Int) ((2 ^ nq k1 : Nat) : Int) = (fz (k1 + 1) : Int) := by rw [u64_andNot_nat _ _ (HZL.out k1) a3, HZS.out k1]
      have HC1 : Hid (∀ W, Below wr.heap.size wr W -> (W.cell? ⟨w.heap.size, 0, none⟩ = some (.int .i64 n) /\ W.cell? ⟨w.heap.size, 1, none⟩ = some (.int .u64 (x : Int)) /\ W.cell? ⟨w.heap.size, 2, none⟩ = some (.int .u64 (z : Int)) /\ W.cell? ⟨w.heap.size, 3, none⟩ = some (.int .i64 ph) /\ w.heap.size < W.heap.size) /\ (W.cell? ⟨g, 0, none⟩ = some (.int .i64 n) /\ W.cell? ⟨g, 1, none⟩ = some (.int .u64 (fx k1 : Int)) /\ W.cell? ⟨g, 2, none⟩ = some (.int .u64 (fz k1 : Int)) /\ W.cell? ⟨g, 3, none⟩ = some (.int .i64 ph) /\ g < W.heap.size) /\ W.frozen? ⟨g, 1, none⟩ = false /\ W.frozen? ⟨g, 2, none⟩ = false) := hide (fun W hW => ⟨(HI.out.2.1.below hW).cells, (HI.out.2.2.2.below hW).cells, (HI.out.2.2.2.below hW).fz 1, (HI.out.2.2.2.below hW).fz 2⟩)
      have HT1 : Hid (∀ W, Below wr.heap.size wr W -> Below w.heap.size w (W.setCell ⟨g, 1, none⟩ (.int .u64 (fx (k1 + 1) : Int))) /\ At4 (W.setCell ⟨g, 1, none⟩ (.int .u64 (fx (k1 + 1) : Int))) w.heap.size (.int .i64 n) (.int .u64 (x : Int)) (.int .u64 (z : Int)) (.int .i64 ph) /\ At4 (W.setCell ⟨g, 1, none⟩ (.int .u64 (fx (k1 + 1) : Int))) (w.heap.size + 1) (.int .i64 0) (.int .u64 0) (.int .u64 0) (.int .i64 0) /\ At4 (W.setCell ⟨g, 1, none⟩ (.int .u64 (fx (k1 + 1) : Int))) g (.int .i64 n) (.int .u64 (fx (k1 + 1) : Int)) (.int .u64 (fz k1 : Int)) (.int .i64 ph)) := hide (fun W hW => ⟨(bkp HI.out.1 hW).setCell (p := ⟨g, 1, none⟩) (show w.heap.size <= g by omega) _, (HI.out.2.1.below hW).off (by omega), (HI.out.2.2.1.below hW).off (by omega), (HI.out.2.2.2.below hW).set1 _⟩)
      have hst := store_i
      have hq64' : (nq k1 : Int) < 64 := by omega
      clear HI HXL HZL HXS HZS HX0 HZ0 hall a3 HIM HLD HMU HS0 HS1 HL HF0
      generalize hpw : 2 ^ nq k1 = pw at *
      generalize hX1 : fx (k1 + 1) = X1 at *
      generalize hZ1 : fz (k1 + 1) = Z1 at *
      generalize fx k1 = X at *
      generalize fz k1 = Z at *
      generalize nq k1 = q at *
      clear hpw
      go_wp2_with fail
      refine wp_region_quiet_last (C := fun W => Below wr.heap.size wr W) (by kernel_rfl) 6 rfl (by kernel_rfl) (by kernel_rfl) (bdrew (Below.refl _ _) 1) ?_
      simp only [List.take_succ_cons, List.take_zero]
      repeat
        refine wpQuiet_step (fun K hK => ?_)
        go_simp
        first
          | (refine hK _ ?_; clear hK K)
          | (apply Exists.intro
             refine ⟨fun W hW => ?_, hK _ ?_⟩
             first
               | (obtain ⟨⟨c0, c1, c2, c3, c4⟩, ⟨d0, d1, d2, d3, d4⟩, d5, d6⟩ := HC1.out W hW; go_simp; rfl)
             clear hK K)
      refine wpQuiet_nil ?_
      intro W1 hW
      obtain ⟨-, ⟨d0, d1, d2, d3, d4⟩, d5, d6⟩ := HC1.out W1 hW
      have HT1' := hide (HT1.out W1 hW)
      clear hW HC1 HT1
      go_wp2_with fail
      generalize W1.setCell ⟨g, 1, none⟩ (.int .u64 (X1 : Int)) = wm at *
      have HC2 : Hid (∀ W, Below wm.heap.size wm W -> (W.cell? ⟨w.heap.size, 0, none⟩ = some (.int .i64 n) /\ W.cell? ⟨w.heap.size, 1, none⟩ = some (.int .u64 (x : Int)) /\ W.cell? ⟨w.heap.size, 2, none⟩ = some (.int .u64 (z : Int)) /\ W.cell? ⟨w.heap.size, 3, none⟩ = some (.int .i64 ph) /\ w.heap.size < W.heap.size) /\ (W.cell? ⟨g, 0, none⟩ = some (.int .i64 n) /\ W.cell? ⟨g, 1, none⟩ = some (.int .u64 (X1 : Int)) /\ W.cell? ⟨g, 2, none⟩ = some (.int .u64 (Z : Int)) /\ W.cell? ⟨g, 3, none⟩ = some (.int .i64 ph) /\ g < W.heap.size) /\ W.frozen? ⟨g, 1, none⟩ = false /\ W.frozen? ⟨g, 2, none⟩ = false) := hide (fun W hW => ⟨(HT1'.out.2.1.below hW).cells, (HT1'.out.2.2.2.below hW).cells, (HT1'.out.2.2.2.below hW).fz 1, (HT1'.out.2.2.2.below hW).fz 2⟩)
      have HT2 : Hid (∀ W, Below wm.heap.size wm W -> Below w.heap.size w (W.setCell ⟨g, 2, none⟩ (.int .u64 (Z1 : Int))) /\ At4 (W.setCell ⟨g, 2, none⟩ (.int .u64 (Z1 : Int))) w.heap.size (.int .i64 n) (.int .u64 (x : Int)) (.int .u64 (z : Int)) (.int .i64 ph) /\ At4 (W.setCell ⟨g, 2, none⟩ (.int .u64 (Z1 : Int))) (w.heap.size + 1) (.int .i64 0) (.int .u64 0) (.int .u64 0) (.int .i64 0) /\ At4 (W.setCell ⟨g, 2, none⟩ (.int .u64 (Z1 : Int))) g (.int .i64 n) (.int .u64 (X1 : Int)) (.int .u64 (Z1 : Int)) (.int .i64 ph)) := hide (fun W hW => ⟨(bkp HT1'.out.1 hW).setCell (p := ⟨g, 2, none⟩) (show w.heap.size <= g by omega) _, (HT1'.out.2.1.below hW).off (by omega), (HT1'.out.2.2.1.below hW).off (by omega), (HT1'.out.2.2.2.below hW).set2 _⟩)
      clear d0 d1 d2 d3 d4 d5 d6
      refine wp_region_quiet_last (C := fun W => Below wm.heap.size wm W) (by kernel_rfl) 6 rfl (by kernel_rfl) (by kernel_rfl) (bdrew (Below.refl _ _) 1) ?_
      simp only [List.take_succ_cons, List.take_zero]
      repeat
        refine wpQuiet_step (fun K hK => ?_)
        go_simp
        first
          | (refine hK _ ?_; clear hK K)
          | (apply Exists.intro
             refine ⟨fun W hW => ?_, hK _ ?_⟩
             first
               | (obtain ⟨⟨c0, c1, c2, c3, c4⟩, ⟨d0, d1, d2, d3, d4⟩, d5, d6⟩ := HC2.out W hW; go_simp; rfl)
             clear hK K)
      refine wpQuiet_nil ?_
      intro W2 hW
      obtain ⟨-, ⟨d0, d1, d2, d3, d4⟩, d5, d6⟩ := HC2.out W2 hW
      have HT2' := hide (HT2.out W2 hW)
      clear hW HC2 HT2
      go_wp2_with fail
      go_roundw
      case rel => exact ⟨k1 + 1, by go_num, by omega, hide ⟨HT2'.out.1, HT2'.out.2.1, HT2'.out.2.2.1, by rw [hX1, hZ1]; exact HT2'.out.2.2.2⟩⟩
      case measure => simp [Go.RowKit.intOf]; omega
    . obtain rfl : k1 = m := by omega
      have hd : decide ((k1 : Int) < (k1 : Int)) = false := decide_eq_false (by omega)
      go_wp2_with fail
      have HI0 := hide (show At4 wr g (.int .i64 (F 0).n) (.int .u64 ((F 0).x : Int)) (.int .u64 ((F 0).z : Int)) (.int .i64 (F 0).ph) by rw [HF0.out]; exact HI.out.2.2.2)
      clear HXL HZL HXS HZS HX0 HZ0 HF0 M1 M2 M3 HB3
      go_loopw [53] (fun vi wr => ∃ t : Nat, vi = .int .i64 (t : Int) /\ t <= k1 /\ Hid (Below w.heap.size w wr /\ At4 wr w.heap.size (.int .i64 n) (.int .u64 (x : Int)) (.int .u64 (z : Int)) (.int .i64 ph) /\ At4 wr (w.heap.size + 1) (.int .i64 0) (.int .u64 0) (.int .u64 0) (.int .i64 0) /\ At4 wr g (.int .i64 (F t).n) (.int .u64 ((F t).x : Int)) (.int .u64 ((F t).z : Int)) (.int .i64 (F t).ph))) (fun vi _ => k1 - (Go.RowKit.intOf vi).toNat)
      case atStart => exact ⟨0, rfl, Nat.zero_le _, hide ⟨HI.out.1, HI.out.2.1, HI.out.2.2.1, HI0.out⟩⟩
      case round =>
        rename_i wr1
        obtain ⟨t, rfl, ht, HI2⟩ := hrel
        clear HI HI0
        obtain ⟨x0, x1, x2, x3, x4⟩ := HI2.out.2.1.cells
        by_cases h2 : t < k1
        . have hd2 : decide ((t : Int) < (k1 : Int)) = true := decide_eq_true (by omega)
          obtain ⟨gq, off, rfl, hall⟩ := hgl.resolve_left (by omega)
          have hcell := cell_below (HC0.out t h2 gq off hall.out) HI2.out.1
          have hglt := World.block_lt_of_cell? _ _ hcell
          obtain ⟨hq64, hqn⟩ := HQ.out t h2
          have cL := fun W => HL.out (nq t) hqn W
          have hs0 := HS0.out t
          have hs1 := HS1.out t
          have hlc := lt_cases (bt x (nq t)) (bt z (nq t))
          generalize lt (bt x (nq t)) (bt z (nq t)) = lc at *
          rcases hlc with rfl | ⟨j, hj, rfl⟩
          . have HS := hide (hs0 rfl)
            clear hs0 hs1 HIM HLD HMU HS0 HS1 HL
            go_wp2_with fail
            refine (cL _).mono ?_
            rintro e w5 ⟨rfl, hb5⟩
            have HI5 := hide (And.intro (bkp HI2.out.1 hb5) (And.intro (HI2.out.2.1.below hb5) (And.intro (HI2.out.2.2.1.below hb5) (HI2.out.2.2.2.below hb5))))
            clear hb5 x0 x1 x2 x3 x4 hcell hglt
            go_wp2_with fail
            go_roundw
            case rel => exact ⟨t + 1, by go_num, by omega, hide ⟨HI5.out.1, HI5.out.2.1, HI5.out.2.2.1, by rw [HS.out]; exact HI5.out.2.2.2⟩⟩
            case measure => simp [Go.RowKit.intOf]; omega
          . have HS := hide (hs1 j rfl)
            have i1 := fun W h => HIM.out t j (by omega) hj W h
            have i2 := fun W h => HLD.out (im k t j) W h
            have i3 := fun W => HMU.out t (im k t j) W
            have hne : (((88 + j : Nat) : Int) != 73) = true := bne_iff_ne.2 (by omega)
            generalize ((88 + j : Nat) : Int) = lcv at *
            generalize (mulR (F t) (ldP (parR (im k t j)).1 ns n)) = R at *
            generalize ldP (parR (im k t j)).1 ns n = L at *
            generalize (parR (im k t j)).1 = I at *
            generalize F t = b at *
            obtain ⟨bn, bx, bz, bp⟩ := b
            obtain ⟨⟨rn, rx, rz, rp⟩, re⟩ := R
            obtain ⟨ln, lx, lz, lp⟩ := L
            obtain ⟨inn, ix, iz, ip⟩ := I
            unfold pV at i1 i2 i3
            simp only at *
            clear hs0 hs1 HIM HLD HMU HS0 HS1 HL
            go_wp2_with fail
            refine (cL _).mono ?_
            rintro e w5 ⟨rfl, hb5⟩
            have HI5 := hide (And.intro (bkp HI2.out.1 hb5) (And.intro (HI2.out.2.1.below hb5) (And.intro (HI2.out.2.2.1.below hb5) (HI2.out.2.2.2.below hb5))))
            clear hb5 x0 x1 x2 x3 x4 hcell hglt HI2 cL
            go_wp2_with fail
            have HC3 : Hid (∀ W, Below w5.heap.size w5 W -> (W.cell? ⟨w.heap.size, 0, none⟩ = some (.int .i64 n) /\ W.cell? ⟨w.heap.size, 1, none⟩ = some (.int .u64 (x : Int)) /\ W.cell? ⟨w.heap.size, 2, none⟩ = some (.int .u64 (z : Int)) /\ W.cell? ⟨w.heap.size, 3, none⟩ = some (.int .i64 ph) /\ w.heap.size < W.heap.size) /\ (W.cell? ⟨g, 0, none⟩ = some (.int .i64 bn) /\ W.cell? ⟨g, 1, none⟩ = some (.int .u64 (bx : Int)) /\ W.cell? ⟨g, 2, none⟩ = some (.int .u64 (bz : Int)) /\ W.cell? ⟨g, 3, none⟩ = some (.int .i64 bp) /\ g < W.heap.size) /\ W.frozen? ⟨g, 1, none⟩ = false /\ W.frozen? ⟨g, 2, none⟩ = false) := hide (fun W hW => ⟨(HI5.out.2.1.below hW).cells, (HI5.out.2.2.2.below hW).cells, (HI5.out.2.2.2.below hW).fz 1, (HI5.out.2.2.2.below hW).fz 2⟩)
            have HBW : Hid (∀ W, Below w5.heap.size w5 W -> Below w.heap.size w W) := hide (fun W hW => bkp HI5.out.1 hW)
            refine wp_region_quiet_S (C := fun W => Below w5.heap.size w5 W) (by kernel_rfl) 12 rfl rfl rfl (by kernel_rfl) (by kernel_rfl) (bdrew (Below.refl _ _) 1) (fun a v w => store_swap rfl (by decide) (by decide) a v w) ?_
            simp only [List.take_succ_cons, List.take_zero]
            repeat
              refine wpQuiet_step (fun K hK => ?_)
              go_simp
              first
                | (refine hK _ ?_; clear hK K)
                | (apply Exists.intro
                   refine ⟨fun W hW => ?_, hK _ ?_⟩
                   first
                     | ((with_reducible refine Calls.mono (i1 _ (HBW.out W hW)) ?_); rintro e x ⟨rfl, hb⟩; exact ⟨rfl, bkp hW hb⟩)
                     | ((with_reducible refine Calls.mono (i2 _ (HBW.out W hW)) ?_); rintro e x ⟨rfl, hb⟩; exact ⟨rfl, bkp hW hb⟩)
                     | ((with_reducible refine Calls.mono (i3 _) ?_); rintro e x ⟨rfl, hb⟩; exact ⟨rfl, bkp hW hb⟩)
                     | (obtain ⟨⟨c0, c1, c2, c3, c4⟩, ⟨d0, d1, d2, d3, d4⟩, d5, d6⟩ := HC3.out W hW; go_simp; rfl)
                   clear hK K)
            refine wpQuiet_nil ?_
            intro W3 hW
            have hR := HI5.out.2.2.2.below hW
            have HN1 := hide (And.intro (below_setRow (bkp HI5.out.1 hW) (show w.heap.size <= g by omega) #[.int .i64 rn, .int .u64 (rx : Int), .int .u64 (rz : Int), .int .i64 rp]) (And.intro ((HI5.out.2.1.below hW).offRow (k := g) (cs := #[.int .i64 rn, .int .u64 (rx : Int), .int .u64 (rz : Int), .int .i64 rp]) (by omega)) (And.intro ((HI5.out.2.2.1.below hW).offRow (k := g) (cs := #[.int .i64 rn, .int .u64 (rx : Int), .int .u64 (rz : Int), .int .i64 rp]) (by omega)) ((HI5.out.2.2.2.below hW).row (a' := .int .i64 rn) (b' := .int .u64 (rx : Int)) (c' := .int .u64 (rz : Int)) (d' := .int .i64 rp)))))
            unfold At4 at hR
            clear hW HC3 HI5
            refine ⟨_, store_run rfl rfl rfl hR (by exact infoP) (by rfl) (allP _ _ _ _), ?_⟩
            go_wp2_with fail
            go_roundw
            case rel => exact ⟨t + 1, by go_num, by omega, hide ⟨HN1.out.1, HN1.out.2.1, HN1.out.2.2.1, by rw [HS.out]; exact HN1.out.2.2.2⟩⟩
            case measure => simp [Go.RowKit.intOf]; omega
        . obtain rfl : t = k1 := by omega
          have hd2 : decide ((t : Int) < (t : Int)) = false := decide_eq_false (by omega)
          obtain ⟨d0, d1, d2, d3, d4⟩ := HI2.out.2.2.2.cells
          have hR := HI2.out.2.2.1
          have HBi := hide HI2.out.1
          unfold At4 at hR
          clear HI2 HIM HLD HMU HS0 HS1 HL x0 x1 x2 x3 x4
          go_wp2_with (first
            | (refine wpList_store_row rfl _ _ _ rfl (w.heap.size + 1) _ rfl rfl _ _ hR (by exact infoP) (by rfl) (allP _ _ _ _) ?_))
          refine bodyPost_ret (results_ct rfl _ _ (w.heap.size + 1) _ _ _ _ rfl (setRow_heap _ _ _ _ _ _ hR) Tryz.underlying27 rfl (by exact infoP)) rfl ?_
          exact ⟨rfl, below_setRow HBi.out (by omega) _⟩
def thrOk (k : Int) (l : List Int) (p : P) : Bool := rt p && clB (rw' k) && decide (chkP k l p.n = 0)
def thrR (k : Int) (l : List Int) (p : P) : P × Int := if thrOk k l p = true then (thrP k.toNat (l.map Int.toNat) p, 0) else (oP, 130)
theorem cl_tab : ∀ k : Fin 21, clB (tab.getD k.1 r0) = true -> 1 <= k.1 /\ k.1 <= 17 /\ (tab.getD k.1 r0).q = if k.1 <= 10 then 1 else 2 := by decide
theorem cl_rng {k : Int} (h : clB (rw' k) = true) : 1 <= k /\ k <= 17 /\ (rw' k).q = if k <= 10 then 1 else 2 := by
  unfold rw' at h ⊢
  by_cases hk : 0 <= k /\ k < 21
  . rw [if_pos hk] at h ⊢
    obtain ⟨h1, h2, h3⟩ := cl_tab ⟨k.toNat, by omega⟩ h
    simp only at h1 h2 h3
    refine ⟨by omega, by omega, ?_⟩
    rw [h3]
    split <;> split <;> omega
  . rw [if_neg hk] at h
    exact absurd h (by decide)
theorem apG_pos (l : List Int) : ∀ m i, apG l m i = true -> ∀ j, i <= j -> j < i + m -> 0 <= l.getD j 0
  | 0, _, _, j, h1, h2 => absurd h2 (by omega)
  | m + 1, i, h, j, h1, h2 => by
    rw [apG, Bool.and_eq_true, Bool.and_eq_true] at h
    by_cases e : j = i
    . subst e; exact of_decide_eq_true h.1.1
    . exact apG_pos l m (i + 1) h.2 j (by omega) (by omega)
theorem chk_qs {k : Int} {l : List Int} {n : Int} (h : chkP k l n = 0) (hq : (rw' k).q <= 2) (hn : n <= 64) (h0 : 1 <= (rw' k).q) : im64 (l.map Int.toNat) = l /\ Qs (l.map Int.toNat) n := by
  unfold chkP at h
  split at h
  . cases h
  . split at h
    . cases h
    . split at h
      . cases h
      . rename_i h1 h2 h3
        have h2' : apP (rw' k).q l = true := by simpa using h2
        unfold apP at h2'
        rw [Bool.and_eq_true] at h2'
        have hlen := of_decide_eq_true h2'.1
        have hpos : ∀ j, j < l.length -> 0 <= l.getD j 0 := fun j hj => apG_pos l _ 0 h2'.2 j (by omega) (by omega)
        have hlt : ∀ j, j < l.length -> l.getD j 0 < n := fun j hj => by
          rcases Int.lt_or_le (l.getD j 0) n with g | g
          . exact g
          . exact absurd ((mxG_ge l n (l.length - 1)).2 ⟨j, by omega, g⟩) h3
        have hmem : ∀ q ∈ l, 0 <= q /\ q < n := fun q hq => by
          obtain ⟨j, hj⟩ := List.getElem?_of_mem hq
          have hjl := (List.getElem?_eq_some_iff.1 hj).1
          have e : l.getD j 0 = q := by rw [List.getD_eq_getElem?_getD, hj]; rfl
          exact ⟨e ▸ hpos j hjl, e ▸ hlt j hjl⟩
        refine ⟨?_, ⟨fun q hq => ?_, fun q hq => ?_, ?_⟩⟩
        . unfold im64
          rw [List.map_map]
          refine (List.map_congr_left (fun q hq => ?_)).trans (List.map_id l)
          have := (hmem q hq).1
          show ((q.toNat : Nat) : Int) = q
          omega
        . obtain ⟨z, hz, rfl⟩ := List.mem_map.1 hq
          have := hmem z hz
          omega
        . obtain ⟨z, hz, rfl⟩ := List.mem_map.1 hq
          have := hmem z hz
          omega
        . rw [List.length_map]
          omega
theorem pThrough_no (p : P) (hp : Wd p) (k : Int) (l : List Int) (hf : thrOk k l p = false) (hl : l.length <= 1000000000000000) (ao : Option Addr) (c : Nat) (hc : l.length <= c) (w : World) (hT : Tb w) (hN : Ns w ao l) :
    Calls Tryz.prog 13 #[pV p, .int .i64 k, .slice ao l.length c] w fun e w' => e = .returned (.tuple #[pV oP, .int .i64 130]) /\ Below w.heap.size w w' := by
  have c1 := fun W => pCheck p hp W
  unfold ck at c1
  have c2 := fun W (h : Below w.heap.size w W) => gClifford k W (hT.below h)
  have c3 := fun W (h : Below w.heap.size w W) => gCheck k ao c l p.n hl hc W (hT.below h) (hN.below h)
  unfold thrOk at hf
  generalize hck : chkP k l p.n = z1 at *
  generalize clB (rw' k) = b1 at *
  generalize rt p = r at *
  obtain ⟨n, x, z, ph⟩ := p
  unfold oP pV at *
  simp only at *
  obtain ⟨G1, G2⟩ := At4.two w (.int .i64 n) (.int .u64 (x : Int)) (.int .u64 (z : Int)) (.int .i64 ph) (.int .i64 0) (.int .u64 0) (.int .u64 0) (.int .i64 0)
  have HG1 := hide G1
  have HG2 := hide G2
  have HBw := hide (bkp (bnew w (.cells #[.int .i64 n, .int .u64 (x : Int), .int .u64 (z : Int), .int .i64 ph] 27)) (bnew _ (.cells #[.int .i64 0, .int .u64 0, .int .u64 0, .int .i64 0] 27)))
  clear G1 G2 hN hT hp
  generalize l.length = m at *
  cases r
  . simp only [Bool.false_eq_true, if_false] at c1
    go_enter Tryz.func13, Tryz.ntmps13
    go_wp2_with fail
    refine (c1 _).mono ?_
    rintro e w1 ⟨rfl, hb1⟩
    have HB1 := hide (bkp HBw.out hb1)
    have hR := HG2.out.below hb1
    obtain ⟨x0, x1, x2, x3, x4⟩ := (HG1.out.below hb1).cells
    unfold At4 at hR
    clear hb1 HG1 HG2 c1 c2 c3
    go_wp2_with (first
      | (refine wpList_store_row rfl _ _ _ rfl (w.heap.size + 1) _ rfl rfl _ _ hR (by exact infoP) (by rfl) (allP _ _ _ _) ?_))
    refine bodyPost_ret (results_ct rfl _ _ (w.heap.size + 1) _ _ _ _ rfl (setRow_heap _ _ _ _ _ _ hR) Tryz.underlying27 rfl (by exact infoP)) rfl ?_
    exact ⟨rfl, below_setRow HB1.out (by omega) _⟩
  . simp only [if_true] at c1
    go_enter Tryz.func13, Tryz.ntmps13
    go_wp2_with fail
    refine (c1 _).mono ?_
    rintro e w1 ⟨rfl, hb1⟩
    have HB1 := hide (bkp HBw.out hb1)
    have K1 := hide (HG1.out.below hb1)
    have K2 := hide (HG2.out.below hb1)
    obtain ⟨x0, x1, x2, x3, x4⟩ := K1.out.cells
    clear hb1 HG1 HG2 HBw c1
    go_wp2_with fail
    refine (c2 _ HB1.out).mono ?_
    rintro e w2 ⟨rfl, hb2⟩
    have HB2 := hide (bkp HB1.out hb2)
    have L1 := hide (K1.out.below hb2)
    have L2 := hide (K2.out.below hb2)
    clear hb2 K1 K2 HB1 c2 x0 x1 x2 x3 x4
    obtain ⟨x0, x1, x2, x3, x4⟩ := L1.out.cells
    cases b1
    . have hR := L2.out
      unfold At4 at hR
      go_wp2_with (first
        | (refine wpList_store_row rfl _ _ _ rfl (w.heap.size + 1) _ rfl rfl _ _ hR (by exact infoP) (by rfl) (allP _ _ _ _) ?_))
      refine bodyPost_ret (results_ct rfl _ _ (w.heap.size + 1) _ _ _ _ rfl (setRow_heap _ _ _ _ _ _ hR) Tryz.underlying27 rfl (by exact infoP)) rfl ?_
      exact ⟨rfl, below_setRow HB2.out (by omega) _⟩
    . have hz : z1 ≠ 0 := fun e => by subst e; simp at hf
      have hz' : (z1 != 0) = true := bne_iff_ne.2 hz
      go_wp2_with fail
      refine (c3 _ HB2.out).mono ?_
      rintro e w3 ⟨rfl, hb3⟩
      have hR := L2.out.below hb3
      have HB3 := hide (bkp HB2.out hb3)
      unfold At4 at hR
      clear hb3 x0 x1 x2 x3 x4 L1 L2 c3
      go_wp2_with (first
        | (refine wpList_store_row rfl _ _ _ rfl (w.heap.size + 1) _ rfl rfl _ _ hR (by exact infoP) (by rfl) (allP _ _ _ _) ?_))
      refine bodyPost_ret (results_ct rfl _ _ (w.heap.size + 1) _ _ _ _ rfl (setRow_heap _ _ _ _ _ _ hR) Tryz.underlying27 rfl (by exact infoP)) rfl ?_
      exact ⟨rfl, below_setRow HB3.out (by omega) _⟩
theorem pThrough (p : P) (hp : Wd p) (k : Int) (l : List Int) (hl : l.length <= 1000000000000000) (ao : Option Addr) (c : Nat) (hc : l.length <= c) (w : World) (hT : Tb w) (hS : Ts w) (hI : Ti w) (hN : Ns w ao l) :
    Calls Tryz.prog 13 #[pV p, .int .i64 k, .slice ao l.length c] w fun e w' => e = .returned (.tuple #[pV (thrR k l p).1, .int .i64 (thrR k l p).2]) /\ Below w.heap.size w w' := by
  unfold thrR
  cases hf : thrOk k l p with
  | false =>
    rw [if_neg (by decide)]
    exact pThrough_no p hp k l hf hl ao c hc w hT hN
  | true =>
    rw [if_pos rfl]
    unfold thrOk at hf
    rw [Bool.and_eq_true, Bool.and_eq_true, decide_eq_true_eq] at hf
    obtain ⟨⟨h1, h2⟩, h3⟩ := hf
    obtain ⟨k1, k2, k3⟩ := cl_rng h2
    have hn := (rt_iff.1 h1).2.1
    obtain ⟨e1, e2⟩ := chk_qs h3 (by rw [k3]; split <;> omega) hn (by rw [k3]; split <;> omega)
    have ek : ((k.toNat : Nat) : Int) = k := by omega
    have hlen : (l.map Int.toNat).length = l.length := List.length_map ..
    have := pThrough_ok p hp h1 k.toNat (by omega) (l.map Int.toNat) e2 (by rw [ek]; exact h2) (by rw [ek, e1]; exact h3) ao c (by rw [hlen]; exact hc) w hT hS hI (by rw [e1]; exact hN)
    rw [ek, hlen] at this
    exact this
end Go.Proofs.YtoickolhekhgmaaGreatDoor.Pau
