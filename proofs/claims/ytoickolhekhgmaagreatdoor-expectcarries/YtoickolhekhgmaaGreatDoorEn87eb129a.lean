import Derived.Test.YtoickolhekhgmaaGreatDoorEn2fcf5ca7
import Derived.Test.YtoickolhekhgmaaGreatDoorEn713d04a7
namespace Go.Proofs.YtoickolhekhgmaaGreatDoor.Gt
end Go.Proofs.YtoickolhekhgmaaGreatDoor.Gt
namespace Go.Proofs.YtoickolhekhgmaaGreatDoor.Oct
end Go.Proofs.YtoickolhekhgmaaGreatDoor.Oct
set_option maxRecDepth 100000
set_option maxHeartbeats 4000000
namespace Go.Proofs.YtoickolhekhgmaaGreatDoor.Pau
open Go.RowKit Go.Shelf Go.Proofs.YtoickolhekhgmaaGreatDoor.Oct Go.Proofs.YtoickolhekhgmaaGreatDoor.Gt
def imgs : List (List UInt8) := [[], [], [], [], [], [], [43, 88], [43, 89], [43, 90], [], [], [], [43, 88], [45, 89], [45, 90], [], [], [], [45, 88], [43, 89], [45, 90], [], [], [], [45, 88], [45, 89], [43, 90], [], [], [], [43, 89], [45, 88], [43, 90], [], [], [], [45, 89], [43, 88], [43, 90], [], [], [], [43, 88], [43, 90], [45, 89], [], [], [], [43, 88], [45, 90], [43, 89], [], [], [], [45, 90], [43, 89], [43, 88], [], [], [], [43, 90], [43, 89], [45, 88], [], [], [], [43, 88, 88], [43, 89, 88], [43, 90, 73], [43, 73, 88], [43, 90, 89], [43, 90, 90], [43, 88, 89], [43, 89, 89], [43, 90, 73], [43, 90, 88], [43, 73, 89], [43, 90, 90], [43, 88, 90], [43, 89, 90], [43, 90, 73], [43, 90, 88], [43, 90, 89], [43, 73, 90], [43, 73, 88], [43, 73, 89], [43, 73, 90], [43, 88, 73], [43, 89, 73], [43, 90, 73], [43, 90, 89], [45, 90, 88], [43, 73, 90], [43, 89, 90], [45, 88, 90], [43, 90, 73], [45, 90, 89], [43, 90, 88], [43, 73, 90], [45, 89, 90], [43, 88, 90], [43, 90, 73], [43, 90, 73], [45, 89, 73], [43, 88, 73], [43, 73, 90], [45, 73, 89], [43, 73, 88]]
def im (k t j : Nat) : List UInt8 := imgs.getD (k * 6 + t * 3 + j) []
def Ti (w : World) : Prop := ∀ j, j < 108 -> w.cell? ⟨0, j, none⟩ = some (.string ⟨(imgs.getD j []).toArray⟩)
theorem Ti.below {w w' : World} (h : Ti w) (hb : Below w.heap.size w w') : Ti w' := fun j hj => cell_below (h j hj) hb
theorem results_c {P : Program} {fn : Func} {p : Tmp} {ty : TypeId} (h : fn.results = #[.cell p ty]) (tmps : Array Value) (w : World) (g : Nat) (t : TypeId) (cs : Array Value) (fr : Nat × Nat) (d : TypeDesc)
    (hp : tmps.getD p undef = .pointer (some ⟨g, 0, none⟩)) (hg : w.heap[g]? = some (.cells cs t fr))
    (hu : P.underlying ty = some d) (hd : (match d with | .struct _ | .array _ _ => true | _ => false) = true) (hi : (P.info? ty).map (·.size) = some cs.size) :
    (results fn tmps).run P w = .ok (.agg cs) w := by
  have hp' : tmps[p]?.getD undef = .pointer (some ⟨g, 0, none⟩) := by simpa using hp
  simp [results, h, hp', asAddr, run_loadVar_row w g t ty cs fr d hg hu hd hi]
theorem pImage (k t j : Nat) (hk : k < 18) (ht : t < 2) (hj : j < 3) (w : World) (hS : Ts w) (hT : Ti w) : Calls Tryz.prog 39 #[.int .i64 (k : Int), .int .i64 (t : Int), .int .u8 ((88 + j : Nat) : Int)] w fun e w' => e = .returned (pV (parR (im k t j)).1) /\ Below w.heap.size w w' := by
  have c1 := fun W (h : Below w.heap.size w W) => pParse (im k t j) W (hS.below h)
  have hb := bnew w (.cells #[.int .i64 0, .int .u64 0, .int .u64 0, .int .i64 0] 27)
  have t1 := (hT.below hb) (k * 6 + t * 3 + j) (by omega)
  have hgl := World.block_lt_of_cell? _ _ t1
  have HR := hide (At4.new w (.int .i64 0) (.int .u64 0) (.int .u64 0) (.int .i64 0))
  have HB := hide hb
  unfold im at *
  unfold str at c1
  generalize parR (imgs.getD (k * 6 + t * 3 + j) []) = G at *
  generalize (⟨(imgs.getD (k * 6 + t * 3 + j) []).toArray⟩ : ByteArray) = s at *
  obtain ⟨⟨gn, gx, gz, gp⟩, ge⟩ := G
  have hw : IntKind.u8.wrap (((88 + j : Nat) : Int) - 88) = (j : Int) := by
    have hj3 : j = 0 ∨ j = 1 ∨ j = 2 := by omega
    rcases hj3 with rfl | rfl | rfl <;> decide
  obtain ⟨lc, hlc⟩ : ∃ lc : Int, ((88 + j : Nat) : Int) = lc := ⟨_, rfl⟩
  rw [hlc] at hw ⊢
  clear hlc
  unfold pV at *
  simp only at *
  have hk' : (k : Int) < 18 := by omega
  have ht' : (t : Int) < 2 := by omega
  have hj' : (j : Int) < 3 := by omega
  clear hS hT hb
  go_enter Tryz.func39, Tryz.ntmps39
  go_wp2_with fail
  refine (c1 _ HB.out).mono ?_
  rintro e w1 ⟨rfl, hb1⟩
  have hR := (HR.out.below hb1).below (bnew w1 (.cells #[.int .i64 gn, .int .u64 (gx : Int), .int .u64 (gz : Int), .int .i64 gp] 27))
  have HB1 := hide (bkp (bkp HB.out hb1) (bnew w1 (.cells #[.int .i64 gn, .int .u64 (gx : Int), .int .u64 (gz : Int), .int .i64 gp] 27)))
  unfold At4 at hR
  clear hb1 HR t1 hgl c1
  go_wp2_with (first
    | (refine wpList_store_row rfl _ _ _ rfl w.heap.size _ rfl rfl _ _ hR (by exact infoP) (by rfl) (allP _ _ _ _) ?_))
  refine bodyPost_ret (results_c rfl _ _ w.heap.size _ _ _ _ rfl (setRow_heap _ _ _ _ _ _ hR) Tryz.underlying27 rfl (by exact infoP)) rfl ?_
  exact ⟨rfl, below_setRow HB1.out (Nat.le_refl _) _⟩
def ldw (x : Nat) (ns : List Nat) : Nat -> Nat
  | 0 => 0
  | k + 1 => ldw x ns k ||| bt x k * 2 ^ (ns.getD k 0)
theorem bit_lt (u q : Nat) (hu : u < 2) (hq : q < 64) : u * 2 ^ q < 18446744073709551616 /\ IntKind.u64.wrap ((u : Int) * 2 ^ q) = ((u * 2 ^ q : Nat) : Int) := by
  have e : (u : Int) * 2 ^ q = ((u * 2 ^ q : Nat) : Int) := by simp
  have e64 : 2 ^ q <= 2 ^ 63 := Nat.pow_le_pow_right (by decide) (by omega)
  have hl : u * 2 ^ q <= 1 * 2 ^ 63 := Nat.mul_le_mul (by omega) e64
  rw [e, wrapU]
  generalize u * 2 ^ q = y at *
  exact ⟨by omega, by omega⟩
theorem getD_mem {ns : List Nat} {k : Nat} (h : k < ns.length) : ns.getD k 0 ∈ ns := by
  rw [List.getD_eq_getElem?_getD, List.getElem?_eq_getElem h]
  exact List.getElem_mem h
theorem ldw_lt (x : Nat) (ns : List Nat) (h : ∀ q ∈ ns, q < 64) : ∀ k, k <= ns.length -> ldw x ns k < 18446744073709551616
  | 0, _ => by simp [ldw]
  | k + 1, hk => by
    rw [ldw]
    exact Nat.or_lt_two_pow (n := 64) (ldw_lt x ns h k (by omega)) (bit_lt _ _ (bt_lt x k) (h _ (getD_mem (by omega)))).1
def ldP (p : P) (ns : List Nat) (n : Int) : P := ⟨n, ldw p.x ns ns.length, ldw p.z ns ns.length, p.ph⟩
def im64 (ns : List Nat) : List Int := ns.map fun (q : Nat) => (q : Int)
theorem pLaid (p : P) (hp : Wd p) (ns : List Nat) (hns : ∀ q ∈ ns, q < 64) (hln : ns.length <= 64) (n : Int) (ao : Option Addr) (c : Nat) (w : World) (hN : Ns w ao (im64 ns)) : Calls Tryz.prog 38 #[pV p, .slice ao ns.length c, .int .i64 n] w fun e w' => e = .returned (pV (ldP p ns n)) /\ Below w.heap.size w w' := by
  have b1 := fun k => bit_run p.x k hp.1
  have b2 := fun k => bit_run p.z k hp.2
  have HXL := hide (fun k hk => ldw_lt p.x ns hns k hk)
  have HZL := hide (fun k hk => ldw_lt p.z ns hns k hk)
  have HXS : Hid (∀ k, ldw p.x ns (k + 1) = ldw p.x ns k ||| bt p.x k * 2 ^ (ns.getD k 0)) := hide (fun k => rfl)
  have HZS : Hid (∀ k, ldw p.z ns (k + 1) = ldw p.z ns k ||| bt p.z k * 2 ^ (ns.getD k 0)) := hide (fun k => rfl)
  have HX0 : Hid (ldw p.x ns 0 = 0) := hide rfl
  have HZ0 : Hid (ldw p.z ns 0 = 0) := hide rfl
  have HQ : Hid (∀ k, k < ns.length -> ns.getD k 0 < 64) := hide (fun k hk => hns _ (getD_mem hk))
  have HNN := hide hN
  have HC0 : Hid (∀ k, k < ns.length -> ∀ g off, ao = some ⟨g, off, none⟩ -> (∀ (j : Nat) z, (im64 ns)[j]? = some z -> w.cell? ⟨g, off + j, none⟩ = some (.int .i64 z)) -> w.cell? ⟨g, off + k, none⟩ = some (.int .i64 ((ns.getD k 0 : Nat) : Int))) := hide (fun k hk g off _ h => h k _ (by
    unfold im64
    rw [List.getElem?_map, List.getD_eq_getElem?_getD, List.getElem?_eq_getElem hk]
    rfl))
  unfold ldP
  generalize hfx : ldw p.x ns = fx at *
  generalize hfz : ldw p.z ns = fz at *
  generalize hq : (fun k => ns.getD k 0) = nq at *
  have eq' : ∀ k, ns.getD k 0 = nq k := fun k => congrFun hq k
  simp only [eq'] at HXS HZS HQ HC0
  have HB1 := hide b1
  have HB2 := hide b2
  obtain ⟨pn, x, z, ph⟩ := p
  simp only at *
  obtain ⟨m, hm⟩ : ∃ m, ns.length = m := ⟨_, rfl⟩
  have hgl : m = 0 ∨ ∃ g off, ao = some ⟨g, off, none⟩ /\ ∀ (j : Nat) z, (im64 ns)[j]? = some z -> w.cell? ⟨g, off + j, none⟩ = some (.int .i64 z) := by
    rcases hN with h | h
    . left
      unfold im64 at h
      rw [← hm]
      rw [List.map_eq_nil_iff] at h
      rw [h]
      rfl
    . exact .inr h
  rw [hm] at hln HC0 HXL HZL HQ ⊢
  unfold pV at *
  simp only at *
  clear hfx hfz hq eq' b1 b2 hp hns hN
  obtain ⟨G1, G2, G3⟩ := At4.three w (.int .i64 pn) (.int .u64 (x : Int)) (.int .u64 (z : Int)) (.int .i64 ph) (.int .i64 0) (.int .u64 0) (.int .u64 0) (.int .i64 0) (.int .i64 n) (.int .u64 ((0 : Nat) : Int)) (.int .u64 ((0 : Nat) : Int)) (.int .i64 ph)
  have HG1 := hide G1
  have HG2 := hide G2
  have HG3 := hide G3
  have HBw := hide (bkp (bkp (bnew w (.cells #[.int .i64 pn, .int .u64 (x : Int), .int .u64 (z : Int), .int .i64 ph] 27)) (bnew _ (.cells #[.int .i64 0, .int .u64 0, .int .u64 0, .int .i64 0] 27))) (bnew _ (.cells #[.int .i64 n, .int .u64 ((0 : Nat) : Int), .int .u64 ((0 : Nat) : Int), .int .i64 ph] 27)))
  clear G1 G2 G3
  rw [show (((0 : Nat)) : Int) = 0 from rfl] at HG1 HG2 HG3 HBw
  go_enter Tryz.func38, Tryz.ntmps38
  go_wp2_with fail
  generalize hw2 : ((w.alloc (.cells #[.int .i64 pn, .int .u64 (x : Int), .int .u64 (z : Int), .int .i64 ph] 27)).alloc (.cells #[.int .i64 0, .int .u64 0, .int .u64 0, .int .i64 0] 27)).alloc (.cells #[.int .i64 n, .int .u64 0, .int .u64 0, .int .i64 ph] 27) = w2 at *
  clear hw2
  go_loopw [16] (fun vi wr => ∃ k : Nat, vi = .int .i64 (k : Int) /\ k <= m /\ Hid (Below w.heap.size w wr /\ At4 wr w.heap.size (.int .i64 pn) (.int .u64 (x : Int)) (.int .u64 (z : Int)) (.int .i64 ph) /\ At4 wr (w.heap.size + 1) (.int .i64 0) (.int .u64 0) (.int .u64 0) (.int .i64 0) /\ At4 wr (w.heap.size + 1 + 1) (.int .i64 n) (.int .u64 (fx k : Int)) (.int .u64 (fz k : Int)) (.int .i64 ph))) (fun vi _ => m - (Go.RowKit.intOf vi).toNat)
  case atStart => exact ⟨0, rfl, Nat.zero_le _, hide ⟨HBw.out, HG1.out, HG2.out, by rw [HX0.out, HZ0.out]; exact HG3.out⟩⟩
  case round =>
    obtain ⟨k, rfl, hk, HI⟩ := hrel
    by_cases h : k < m
    . have hd : decide ((k : Int) < (m : Int)) = true := decide_eq_true (by omega)
      obtain ⟨gq, off, rfl, hall⟩ := hgl.resolve_left (by omega)
      have hcell := cell_below (HC0.out k h gq off rfl hall) HI.out.1
      have hglt := World.block_lt_of_cell? _ _ hcell
      have hq64 := HQ.out k h
      have b1 := HB1.out k
      have b2 := HB2.out k
      obtain ⟨l1, a1⟩ := bit_lt (bt x k) (nq k) (bt_lt x k) hq64
      obtain ⟨l2, a2⟩ := bit_lt (bt z k) (nq k) (bt_lt z k) hq64
      have o1 : bits .or .u64 (fx k : Int) ((bt x k * 2 ^ nq k : Nat) : Int) = (fx (k + 1) : Int) := by rw [u64_or_nat _ _ (HXL.out k (by omega)) l1, HXS.out k]
      have o2 : bits .or .u64 (fz k : Int) ((bt z k * 2 ^ nq k : Nat) : Int) = (fz (k + 1) : Int) := by rw [u64_or_nat _ _ (HZL.out k (by omega)) l2, HZS.out k]
      have HC1 : Hid (∀ W, Below wr.heap.size wr W -> (W.cell? ⟨w.heap.size, 0, none⟩ = some (.int .i64 pn) /\ W.cell? ⟨w.heap.size, 1, none⟩ = some (.int .u64 (x : Int)) /\ W.cell? ⟨w.heap.size, 2, none⟩ = some (.int .u64 (z : Int)) /\ W.cell? ⟨w.heap.size, 3, none⟩ = some (.int .i64 ph) /\ w.heap.size < W.heap.size) /\ (W.cell? ⟨w.heap.size + 1 + 1, 0, none⟩ = some (.int .i64 n) /\ W.cell? ⟨w.heap.size + 1 + 1, 1, none⟩ = some (.int .u64 (fx k : Int)) /\ W.cell? ⟨w.heap.size + 1 + 1, 2, none⟩ = some (.int .u64 (fz k : Int)) /\ W.cell? ⟨w.heap.size + 1 + 1, 3, none⟩ = some (.int .i64 ph) /\ w.heap.size + 1 + 1 < W.heap.size) /\ W.frozen? ⟨w.heap.size + 1 + 1, 1, none⟩ = false /\ W.frozen? ⟨w.heap.size + 1 + 1, 2, none⟩ = false) := hide (fun W hW => ⟨(HI.out.2.1.below hW).cells, (HI.out.2.2.2.below hW).cells, (HI.out.2.2.2.below hW).fz 1, (HI.out.2.2.2.below hW).fz 2⟩)
      have HT1 : Hid (∀ W, Below wr.heap.size wr W -> Below w.heap.size w (W.setCell ⟨w.heap.size + 1 + 1, 1, none⟩ (.int .u64 (fx (k + 1) : Int))) /\ At4 (W.setCell ⟨w.heap.size + 1 + 1, 1, none⟩ (.int .u64 (fx (k + 1) : Int))) w.heap.size (.int .i64 pn) (.int .u64 (x : Int)) (.int .u64 (z : Int)) (.int .i64 ph) /\ At4 (W.setCell ⟨w.heap.size + 1 + 1, 1, none⟩ (.int .u64 (fx (k + 1) : Int))) (w.heap.size + 1) (.int .i64 0) (.int .u64 0) (.int .u64 0) (.int .i64 0) /\ At4 (W.setCell ⟨w.heap.size + 1 + 1, 1, none⟩ (.int .u64 (fx (k + 1) : Int))) (w.heap.size + 1 + 1) (.int .i64 n) (.int .u64 (fx (k + 1) : Int)) (.int .u64 (fz k : Int)) (.int .i64 ph)) := hide (fun W hW => ⟨(bkp HI.out.1 hW).setCell (p := ⟨w.heap.size + 1 + 1, 1, none⟩) (show w.heap.size <= w.heap.size + 1 + 1 by omega) _, (HI.out.2.1.below hW).off (by omega), (HI.out.2.2.1.below hW).off (by omega), (HI.out.2.2.2.below hW).set1 _⟩)
      have hst := store_i
      have hk64 : (k : Int) < 64 := by omega
      have hq64' : (nq k : Int) < 64 := by omega
      clear HI l1 l2 HXL HZL HXS HZS HX0 HZ0 hall
      generalize bt x k * 2 ^ nq k = u1 at *
      generalize bt z k * 2 ^ nq k = u2 at *
      generalize bt x k = v1 at *
      generalize bt z k = v2 at *
      generalize hX1 : fx (k + 1) = X1 at *
      generalize hZ1 : fz (k + 1) = Z1 at *
      generalize fx k = X at *
      generalize fz k = Z at *
      generalize nq k = q at *
      go_wp2_with fail
      refine wp_region_quiet_last (C := fun W => Below wr.heap.size wr W) (by kernel_rfl) 11 rfl (by kernel_rfl) (by kernel_rfl) (bdrew (Below.refl _ _) 1) ?_
      simp only [List.take_succ_cons, List.take_zero]
      repeat
        refine wpQuiet_step (fun K hK => ?_)
        go_simp
        first
          | (refine hK _ ?_; clear hK K)
          | (apply Exists.intro
             refine ⟨fun W hW => ?_, hK _ ?_⟩
             first
               | (obtain ⟨⟨c0, c1, c2, c3, c4⟩, ⟨d0, d1, d2, d3, d4⟩, d5, d6⟩ := HC1.out W hW; go_simp; rfl)
             clear hK K)
      refine wpQuiet_nil ?_
      intro W1 hW
      obtain ⟨-, ⟨d0, d1, d2, d3, d4⟩, d5, d6⟩ := HC1.out W1 hW
      have HT1' := hide (HT1.out W1 hW)
      clear hW HC1 HT1
      go_wp2_with fail
      generalize W1.setCell ⟨w.heap.size + 1 + 1, 1, none⟩ (.int .u64 (X1 : Int)) = wm at *
      have HC2 : Hid (∀ W, Below wm.heap.size wm W -> (W.cell? ⟨w.heap.size, 0, none⟩ = some (.int .i64 pn) /\ W.cell? ⟨w.heap.size, 1, none⟩ = some (.int .u64 (x : Int)) /\ W.cell? ⟨w.heap.size, 2, none⟩ = some (.int .u64 (z : Int)) /\ W.cell? ⟨w.heap.size, 3, none⟩ = some (.int .i64 ph) /\ w.heap.size < W.heap.size) /\ (W.cell? ⟨w.heap.size + 1 + 1, 0, none⟩ = some (.int .i64 n) /\ W.cell? ⟨w.heap.size + 1 + 1, 1, none⟩ = some (.int .u64 (X1 : Int)) /\ W.cell? ⟨w.heap.size + 1 + 1, 2, none⟩ = some (.int .u64 (Z : Int)) /\ W.cell? ⟨w.heap.size + 1 + 1, 3, none⟩ = some (.int .i64 ph) /\ w.heap.size + 1 + 1 < W.heap.size) /\ W.frozen? ⟨w.heap.size + 1 + 1, 1, none⟩ = false /\ W.frozen? ⟨w.heap.size + 1 + 1, 2, none⟩ = false) := hide (fun W hW => ⟨(HT1'.out.2.1.below hW).cells, (HT1'.out.2.2.2.below hW).cells, (HT1'.out.2.2.2.below hW).fz 1, (HT1'.out.2.2.2.below hW).fz 2⟩)
      have HT2 : Hid (∀ W, Below wm.heap.size wm W -> Below w.heap.size w (W.setCell ⟨w.heap.size + 1 + 1, 2, none⟩ (.int .u64 (Z1 : Int))) /\ At4 (W.setCell ⟨w.heap.size + 1 + 1, 2, none⟩ (.int .u64 (Z1 : Int))) w.heap.size (.int .i64 pn) (.int .u64 (x : Int)) (.int .u64 (z : Int)) (.int .i64 ph) /\ At4 (W.setCell ⟨w.heap.size + 1 + 1, 2, none⟩ (.int .u64 (Z1 : Int))) (w.heap.size + 1) (.int .i64 0) (.int .u64 0) (.int .u64 0) (.int .i64 0) /\ At4 (W.setCell ⟨w.heap.size + 1 + 1, 2, none⟩ (.int .u64 (Z1 : Int))) (w.heap.size + 1 + 1) (.int .i64 n) (.int .u64 (X1 : Int)) (.int .u64 (Z1 : Int)) (.int .i64 ph)) := hide (fun W hW => ⟨(bkp HT1'.out.1 hW).setCell (p := ⟨w.heap.size + 1 + 1, 2, none⟩) (show w.heap.size <= w.heap.size + 1 + 1 by omega) _, (HT1'.out.2.1.below hW).off (by omega), (HT1'.out.2.2.1.below hW).off (by omega), (HT1'.out.2.2.2.below hW).set2 _⟩)
      clear d0 d1 d2 d3 d4 d5 d6
      refine wp_region_quiet_last (C := fun W => Below wm.heap.size wm W) (by kernel_rfl) 11 rfl (by kernel_rfl) (by kernel_rfl) (bdrew (Below.refl _ _) 1) ?_
      simp only [List.take_succ_cons, List.take_zero]
      repeat
        refine wpQuiet_step (fun K hK => ?_)
        go_simp
        first
          | (refine hK _ ?_; clear hK K)
          | (apply Exists.intro
             refine ⟨fun W hW => ?_, hK _ ?_⟩
             first
               | (obtain ⟨⟨c0, c1, c2, c3, c4⟩, ⟨d0, d1, d2, d3, d4⟩, d5, d6⟩ := HC2.out W hW; go_simp; rfl)
             clear hK K)
      refine wpQuiet_nil ?_
      intro W2 hW
      obtain ⟨-, ⟨d0, d1, d2, d3, d4⟩, d5, d6⟩ := HC2.out W2 hW
      have HT2' := hide (HT2.out W2 hW)
      clear hW HC2 HT2
      go_wp2_with fail
      go_roundw
      case rel => exact ⟨k + 1, by go_num, by omega, hide ⟨HT2'.out.1, HT2'.out.2.1, HT2'.out.2.2.1, by rw [hX1, hZ1]; exact HT2'.out.2.2.2⟩⟩
      case measure => simp [Go.RowKit.intOf]; omega
    . obtain rfl : k = m := by omega
      have hd : decide ((k : Int) < (k : Int)) = false := decide_eq_false (by omega)
      have hR := HI.out.2.2.1
      obtain ⟨d0, d1, d2, d3, d4⟩ := HI.out.2.2.2.cells
      have HBi := hide HI.out.1
      unfold At4 at hR
      clear HI
      go_wp2_with (first
        | (refine wpList_store_row rfl _ _ _ rfl (w.heap.size + 1) _ rfl rfl _ _ hR (by exact infoP) (by rfl) (allP _ _ _ _) ?_))
      refine bodyPost_ret (results_c rfl _ _ (w.heap.size + 1) _ _ _ _ rfl (setRow_heap _ _ _ _ _ _ hR) Tryz.underlying27 rfl (by exact infoP)) rfl ?_
      exact ⟨rfl, below_setRow HBi.out (by omega) _⟩
end Go.Proofs.YtoickolhekhgmaaGreatDoor.Pau
