import Derived.Test.YtaggifpnamjghaaDoorKb79aaeee
import Derived.Test.YtaggifpnamjghaaDoorK3104db64
import Derived.Test.YtaggifpnamjghaaDoorK78c50310
import Derived.Deep.CutRange
set_option maxRecDepth 100000
set_option maxHeartbeats 8000000
namespace Go.Proofs.YtaggifpnamjghaaDoor.Tbl
open Go.RowKit Go.Shelf Go.Proofs.YtaggifpnamjghaaDoor.Pau Go.Proofs.YtaggifpnamjghaaDoor.Gt
theorem At4.set {w : World} {g : Nat} {a b c d : Value} (h : At4 w g a b c d) (p : P) : At4 ((((w.setCell ⟨g, 0, none⟩ (.int .i64 p.n)).setCell ⟨g, 1, none⟩ (.int .u64 (p.x : Int))).setCell ⟨g, 2, none⟩ (.int .u64 (p.z : Int))).setCell ⟨g, 3, none⟩ (.int .i64 p.ph)) g (.int .i64 p.n) (.int .u64 (p.x : Int)) (.int .u64 (p.z : Int)) (.int .i64 p.ph) := by
  unfold At4 at *
  simp [World.setCell, Array.getElem?_modify, h]
theorem At4.fz {w : World} {g : Nat} {a b c d : Value} (h : At4 w g a b c d) (j : Nat) : w.frozen? ⟨g, j, none⟩ = false := by unfold At4 at h; simp [World.frozen?, h]
theorem take_to15 {P : Program} {md : Region.Mode} {ops : Array Oper} {Q : Exit -> Act -> World -> Prop} {S : World -> Prop} {i d : Nat} {oi : Oper} {v : Value} {fuel : Nat} {listed : Array Bool} {a : Act} {w : World} (hi : ops[i]? = some oi) (hd : oi.dst = some d) (hs : Region.noSelect ops = true) (hf : Region.free md ops listed i = true) (hr : (Region.ready md ops listed).contains i = true)
    (hQ : ∀ c a w, Q (.panic c) (a.put (some d) v) w -> Q (.panic c) a w) (hy : YieldsIf P ops S oi v a) (hS : S w) (h : wpAnyH P md ops Q S fuel (listed.setIfInBounds i true) (a.put (some d) v) w) : wpAnyH P md ops Q S (fuel + 1) listed a w :=
  wpAnyH_take hi hs hf hr (by rw [hd]; exact hQ) hy hS (by rw [hd]; exact h)
def zg17 : Oper := { dst := none, op := Op.store 32 (Operand.tmp 119) (Operand.tmp 113), type := 0, pos := "law.go:178", after := #[{ on := 16, ground := Ground.data }, { on := 10, ground := Ground.data }, { on := 0, ground := Ground.phase }, { on := 1, ground := Ground.phase }, { on := 2, ground := Ground.phase }, { on := 3, ground := Ground.textOnly Departure.lateStores }, { on := 4, ground := Ground.textOnly Departure.lateStores }, { on := 5, ground := Ground.textOnly Departure.lateStores }, { on := 6, ground := Ground.phase }, { on := 7, ground := Ground.phase }, { on := 8, ground := Ground.phase }, { on := 9, ground := Ground.phase }, { on := 10, ground := Ground.phase }, { on := 11, ground := Ground.textOnly Departure.lateStores }, { on := 12, ground := Ground.textOnly Departure.lateStores }, { on := 13, ground := Ground.textOnly Departure.lateStores }, { on := 14, ground := Ground.textOnly Departure.lateStoresUnsure }, { on := 15, ground := Ground.phase }], guard := none }
def zg19 : Oper := { dst := none, op := Op.store 32 (Operand.tmp 120) (Operand.tmp 118), type := 0, pos := "law.go:178", after := #[{ on := 18, ground := Ground.data }, { on := 15, ground := Ground.data }, { on := 17, ground := Ground.chain }, { on := 0, ground := Ground.phase }, { on := 1, ground := Ground.phase }, { on := 2, ground := Ground.phase }, { on := 3, ground := Ground.phase }, { on := 4, ground := Ground.phase }, { on := 5, ground := Ground.phase }, { on := 6, ground := Ground.phase }, { on := 7, ground := Ground.phase }, { on := 8, ground := Ground.phase }, { on := 9, ground := Ground.phase }, { on := 10, ground := Ground.phase }, { on := 11, ground := Ground.phase }, { on := 12, ground := Ground.phase }, { on := 13, ground := Ground.phase }, { on := 14, ground := Ground.phase }, { on := 15, ground := Ground.phase }, { on := 16, ground := Ground.phase }, { on := 17, ground := Ground.phase }], guard := none }
def zh9 : Oper := { dst := none, op := Op.store 32 (Operand.tmp 129) (Operand.tmp 127), type := 0, pos := "law.go:179", after := #[{ on := 8, ground := Ground.data }, { on := 6, ground := Ground.data }, { on := 0, ground := Ground.phase }, { on := 1, ground := Ground.phase }, { on := 2, ground := Ground.phase }, { on := 3, ground := Ground.textOnly Departure.lateStores }, { on := 4, ground := Ground.textOnly Departure.lateStores }, { on := 5, ground := Ground.textOnly Departure.lateStores }, { on := 6, ground := Ground.phase }, { on := 7, ground := Ground.textOnly Departure.lateStores }], guard := none }
def zh11 : Oper := { dst := none, op := Op.store 32 (Operand.tmp 130) (Operand.tmp 128), type := 0, pos := "law.go:179", after := #[{ on := 10, ground := Ground.data }, { on := 7, ground := Ground.data }, { on := 9, ground := Ground.chain }, { on := 0, ground := Ground.phase }, { on := 1, ground := Ground.phase }, { on := 2, ground := Ground.phase }, { on := 3, ground := Ground.phase }, { on := 4, ground := Ground.phase }, { on := 5, ground := Ground.phase }, { on := 6, ground := Ground.phase }, { on := 7, ground := Ground.phase }, { on := 8, ground := Ground.phase }, { on := 9, ground := Ground.phase }], guard := none }
theorem two44 (w : World) (a b c d a' b' c' d' : Value) : At4 ((w.alloc (.cells #[a, b, c, d] 32)).alloc (.cells #[a', b', c', d'] 32)).drew w.heap.size a b c d /\ At4 ((w.alloc (.cells #[a, b, c, d] 32)).alloc (.cells #[a', b', c', d'] 32)).drew (w.heap.size + 1) a' b' c' d' := by
  have h := At4.new (w.alloc (.cells #[a, b, c, d] 32)) a' b' c' d'
  have e : (w.alloc (.cells #[a, b, c, d] 32)).heap.size = w.heap.size + 1 := by simp
  rw [e] at h
  exact ⟨((At4.new w a b c d).below (bnew _ _)).below (Below.refl _ _).drew, h.below (Below.refl _ _).drew⟩
structure Ow (V : World) (N gu g1 g2 c1 c2 : Nat) (su du : List P) : Prop where
  hd : At3 V gu (.int .i64 (N : Int)) (.slice (some ⟨g1, 0, none⟩) N c1) (.slice (some ⟨g2, 0, none⟩) N c2)
  s : PO V g1 su
  d : PO V g2 du
  n1 : gu ≠ g1
  n2 : gu ≠ g2
  n12 : g1 ≠ g2
  l1 : N <= c1
  l2 : N <= c2
namespace Ow
variable {V V' : World} {N gu g1 g2 c1 c2 : Nat} {su du : List P}
theorem keep (h : Ow V N gu g1 g2 c1 c2 su du) (hb : Below V.heap.size V V') : Ow V' N gu g1 g2 c1 c2 su du := ⟨h.hd.below hb, h.s.below hb, h.d.below hb, h.n1, h.n2, h.n12, h.l1, h.l2⟩
theorem setS (h : Ow V N gu g1 g2 c1 c2 su du) (i : Nat) (q : P) : Ow (set4 V g1 (i * 4) q) N gu g1 g2 c1 c2 (su.set i q) du := ⟨h.hd.off h.n1, h.s.set q, h.d.off h.n12.symm, h.n1, h.n2, h.n12, h.l1, h.l2⟩
theorem setD (h : Ow V N gu g1 g2 c1 c2 su du) (i : Nat) (q : P) : Ow (set4 V g2 (i * 4) q) N gu g1 g2 c1 c2 su (du.set i q) := ⟨h.hd.off h.n2, h.s.off h.n12, h.d.set q, h.n1, h.n2, h.n12, h.l1, h.l2⟩
theorem off (h : Ow V N gu g1 g2 c1 c2 su du) {k o : Nat} {q : P} (h0 : gu ≠ k) (h1 : g1 ≠ k) (h2 : g2 ≠ k) : Ow (set4 V k o q) N gu g1 g2 c1 c2 su du := ⟨h.hd.off h0, h.s.off h1, h.d.off h2, h.n1, h.n2, h.n12, h.l1, h.l2⟩
theorem lts (h : Ow V N gu g1 g2 c1 c2 su du) : gu < V.heap.size /\ g1 < V.heap.size /\ g2 < V.heap.size := ⟨h.hd.lt, h.s.lt, h.d.lt⟩
theorem drew (h : Ow V N gu g1 g2 c1 c2 su du) : Ow V.drew N gu g1 g2 c1 c2 su du := h.keep (Below.refl _ _).drew
end Ow
theorem ow_of {W : World} {B : Nat} {t : TT} {a b : Option Addr} {ca cb N : Nat} (h : Tn W B t a b ca cb) (ls : t.s.length = N) (ld : t.d.length = N) (h0 : 0 < N) : ∃ g1 g2, a = some ⟨g1, 0, none⟩ /\ b = some ⟨g2, 0, none⟩ /\ B <= g1 /\ B <= g2 /\ Ow (W.alloc (.cells #[.int .i64 (N : Int), .slice (some ⟨g1, 0, none⟩) N ca, .slice (some ⟨g2, 0, none⟩) N cb] 24)) N W.heap.size g1 g2 ca cb t.s t.d := by
  obtain ⟨g1, e1, b1, o1⟩ := get_some h.s (by omega)
  obtain ⟨g2, e2, b2, o2⟩ := get_some h.d (by omega)
  have hb := bnew W (.cells #[.int .i64 (N : Int), .slice (some ⟨g1, 0, none⟩) N ca, .slice (some ⟨g2, 0, none⟩) N cb] 24)
  refine ⟨g1, g2, e1, e2, b1, b2, At3.new _ _ _ _, o1.below hb, o2.below hb, by have := o1.lt; omega, by have := o2.lt; omega, ?_, by rw [← ls]; exact h.la, by rw [← ld]; exact h.lb⟩
  rcases h.ne with e | e | e
  . rw [e] at ls; simp at ls; omega
  . rw [e] at ld; simp at ld; omega
  . exact e _ _ e1 e2
theorem Ow.th {V : World} {N gu g1 g2 c1 c2 : Nat} {u : TT} (h : Ow V N gu g1 g2 c1 c2 u.s u.d) (ls : u.s.length = N) (ld : u.d.length = N) (ws : Wl u.s) (wd : Wl u.d) (h64 : N <= 64) : Th V u (some ⟨g1, 0, none⟩) (some ⟨g2, 0, none⟩) c1 c2 := ⟨h.s.pin, h.d.pin, ws, wd, by rw [ls]; exact h.l1, by rw [ld]; exact h.l2, by omega, by omega⟩
theorem wl_ch {u : TT} (h : chB u = true) : Wl u.s /\ Wl u.d := ⟨fun p hp => ((ch_rr h).1 p hp).wd, fun p hp => ((ch_rr h).2 p hp).wd⟩
def modI (i : Int) (N : Nat) : Nat := (i % 18446744073709551616).toNat % N
theorem modI_lt (i : Int) {N : Nat} (h : 0 < N) : modI i N < N := Nat.mod_lt _ h
theorem modI_eq (i : Int) {N : Nat} (h2 : 2 <= N) (h64 : N <= 64) : wrap64 ((IntKind.u64.wrap i).tmod (N : Int)) = ((modI i N : Nat) : Int) := by
  rw [Pau.wrapU]
  have h0 : 0 <= i % 18446744073709551616 := Int.emod_nonneg _ (by decide)
  obtain ⟨m, hm⟩ := Int.eq_ofNat_of_zero_le h0
  unfold modI
  rw [hm, Int.toNat_natCast]
  have e : ((m : Int)).tmod (N : Int) = ((m % N : Nat) : Int) := rfl
  have := Nat.mod_lt m (show 0 < N by omega)
  rw [e]
  unfold wrap64
  omega
theorem xCanon_no (t : TT) (a b : Option Addr) (ca cb : Nat) (i k : Int) (w : World) (hT : Tg w) (h : Th w t a b ca cb) (hno : ¬ (chB t = true /\ 2 <= t.n)) :
    Calls Tryd.prog 3 #[tV t a b ca cb, .int .i64 i, .int .i64 k] w fun e w' => e = .returned (.bool true) /\ Below w.heap.size w w' := by
  have HC1 := hide (fun W (hb : Below w.heap.size w W) => tCheck t a b ca cb W (h.below hb))
  have HAL := hide (fun W (hb : Below w.heap.size w W) => tAlive W (hT.below hb))
  have hnum := tNum
  have HA0 := hide (At3.new w (.int .i64 t.n) (.slice a t.s.length ca) (.slice b t.d.length cb))
  have HB0 := hide (bnew w (.cells #[.int .i64 t.n, .slice a t.s.length ca, .slice b t.d.length cb] 24))
  unfold chI at HC1
  unfold tV at HC1 ⊢
  by_cases hc : chB t = true
  . have hn : t.n < 2 := by by_cases e : t.n < 2; exact e; exact absurd ⟨hc, by omega⟩ hno
    rw [if_pos hc] at HC1
    have hd : decide (t.n < 2) = true := decide_eq_true hn
    clear hno hc h hT hn
    generalize t.n = n at *
    generalize t.s.length = ns at *
    generalize t.d.length = nd at *
    go_enter Tryd.func3, Tryd.ntmps3
    go_wp2_with fail
    refine (HC1.out _ HB0.out).mono ?_
    rintro e w1 ⟨rfl, hb1⟩
    have HB1 := hide (bkp HB0.out hb1)
    obtain ⟨x0, x1, x2, x3⟩ := (HA0.out.below hb1).cells
    clear hb1 HA0 HB0 HC1
    go_wp2_with (go_at_call 5; refine (hnum _ _).mono ?_; rintro e wn ⟨rfl, hw⟩; obtain rfl := hw.symm)
    refine (HAL.out _ HB1.out).mono ?_
    rintro e w2 ⟨rfl, hb2⟩
    have HB2 := hide (bkp HB1.out hb2)
    clear hb2 HB1 HAL x0 x1 x2 x3
    go_wp2_with fail
    go_ret
    exact ⟨rfl, HB2.out⟩
  . rw [if_neg hc] at HC1
    clear hno hc h hT
    generalize t.n = n at *
    generalize t.s.length = ns at *
    generalize t.d.length = nd at *
    go_enter Tryd.func3, Tryd.ntmps3
    go_wp2_with fail
    refine (HC1.out _ HB0.out).mono ?_
    rintro e w1 ⟨rfl, hb1⟩
    have HB1 := hide (bkp HB0.out hb1)
    clear hb1 HA0 HB0 HC1
    go_wp2_with (go_at_call 5; refine (hnum _ _).mono ?_; rintro e wn ⟨rfl, hw⟩; obtain rfl := hw.symm)
    refine (HAL.out _ HB1.out).mono ?_
    rintro e w2 ⟨rfl, hb2⟩
    have HB2 := hide (bkp HB1.out hb2)
    clear hb2 HB1 HAL
    go_wp2_with fail
    go_ret
    exact ⟨rfl, HB2.out⟩
theorem xCanon_eq (t : TT) (a b : Option Addr) (ca cb : Nat) (i k : Int) (N : Nat) (w : World) (hT : Tg w) (h : Th w t a b ca cb) (hc : chB t = true) (hN : t.n = (N : Int)) (h2 : 2 <= N) (hik : modI i N = modI k N) :
    Calls Tryd.prog 3 #[tV t a b ca cb, .int .i64 i, .int .i64 k] w fun e w' => e = .returned (.bool true) /\ Below w.heap.size w w' := by
  have HC1 := hide (fun W (hb : Below w.heap.size w W) => tCheck t a b ca cb W (h.below hb))
  have HAL := hide (fun W (hb : Below w.heap.size w W) => tAlive W (hT.below hb))
  have hnum := tNum
  have HA0 := hide (At3.new w (.int .i64 t.n) (.slice a t.s.length ca) (.slice b t.d.length cb))
  have HB0 := hide (bnew w (.cells #[.int .i64 t.n, .slice a t.s.length ca, .slice b t.d.length cb] 24))
  unfold chI at HC1
  unfold tV at HC1 ⊢
  have h64 := n64_of hc hN
  rw [if_pos hc] at HC1
  rw [hN] at HC1 HA0 HB0 ⊢
  have hd : decide ((N : Int) < 2) = false := decide_eq_false (by omega)
  have em1 := modI_eq i h2 h64
  have em2 := modI_eq k h2 h64
  rw [hik] at em1
  generalize modI k N = kk at *
  have ek : ((kk : Int) == (kk : Int)) = true := by simp
  clear hik
  clear hc h hT hN
  generalize t.s.length = ns at *
  generalize t.d.length = nd at *
  go_enter Tryd.func3, Tryd.ntmps3
  go_wp2_with fail
  refine (HC1.out _ HB0.out).mono ?_
  rintro e w1 ⟨rfl, hb1⟩
  have HB1 := hide (bkp HB0.out hb1)
  obtain ⟨x0, x1, x2, x3⟩ := (HA0.out.below hb1).cells
  clear hb1 HA0 HB0 HC1
  go_wp2_with (go_at_call 5; refine (hnum _ _).mono ?_; rintro e wn ⟨rfl, hw⟩; obtain rfl := hw.symm)
  refine (HAL.out _ HB1.out).mono ?_
  rintro e w2 ⟨rfl, hb2⟩
  have HB2 := hide (bkp HB1.out hb2)
  clear hb2 HB1 HAL x0 x1 x2 x3
  go_wp2_with fail
  go_ret
  exact ⟨rfl, HB2.out⟩
theorem xCanon_ok (t : TT) (a b : Option Addr) (ca cb : Nat) (i k : Int) (N : Nat) (w : World) (hT : Tg w) (h : Th w t a b ca cb) (hc : chB t = true) (hN : t.n = (N : Int)) (h2 : 2 <= N) (hik : modI i N ≠ modI k N) :
    Calls Tryd.prog 3 #[tV t a b ca cb, .int .i64 i, .int .i64 k] w fun e w' => e = .returned (.bool true) /\ Below w.heap.size w w' := by
  have HC1 := hide (fun W (hb : Below w.heap.size w W) => tCheck t a b ca cb W (h.below hb))
  have HAL := hide (fun W (hb : Below w.heap.size w W) => tAlive W (hT.below hb))
  have hnum := tNum
  have HA0 := hide (At3.new w (.int .i64 t.n) (.slice a t.s.length ca) (.slice b t.d.length cb))
  have HB0 := hide (bnew w (.cells #[.int .i64 t.n, .slice a t.s.length ca, .slice b t.d.length cb] 24))
  unfold chI at HC1
  have h64 := n64_of hc hN
  rw [if_pos hc] at HC1
  have em1 := modI_eq i h2 h64
  have em2 := modI_eq k h2 h64
  have hi := modI_lt i (show 0 < N by omega)
  have hk := modI_lt k (show 0 < N by omega)
  generalize modI i N = ii at *
  generalize modI k N = kk at *
  obtain ⟨ls, ld⟩ := len_of hc hN
  have HU := hide (And.intro (uT_ch hc hN hi hk hik) (uT_cn hc hN hi hk hik))
  have HV := hide (And.intro (vT_ch hc hN hi hk) (vT_cn hc hN hi hk))
  obtain ⟨gs, os, rfl, hcs1⟩ := h.s.get (by omega)
  obtain ⟨gd, od, rfl, hcd1⟩ := h.d.get (by omega)
  have HRS : Hid (∀ V, Below w.heap.size w V -> ∀ i, i < N -> Pc V gs (os + i * 4) (t.s.getD i oP) /\ gs < V.heap.size) := hide (fun V hb i hi => by
    have := (hcs1 i _ (get_of (by omega))).below hb
    exact ⟨this, this.lt⟩)
  have HRD : Hid (∀ V, Below w.heap.size w V -> ∀ i, i < N -> Pc V gd (od + i * 4) (t.d.getD i oP) /\ gd < V.heap.size) := hide (fun V hb i hi => by
    have := (hcd1 i _ (get_of (by omega))).below hb
    exact ⟨this, this.lt⟩)
  have rr1 := fun j (hj : j < N) => (sgB_iff.1 (sg_of hc hN hj).1).1
  have rr2 := fun j (hj : j < N) => (sgB_iff.1 (sg_of hc hN hj).2).1
  have HM1 := hide (fun W => pMul_ok (t.s.getD ii oP) (t.s.getD kk oP) (rr1 ii hi).wd (rr1 kk hk).wd ((rr1 ii hi).fit (rr1 kk hk)) W)
  have HM2 := hide (fun W => pMul_ok (t.d.getD kk oP) (t.d.getD ii oP) (rr2 kk hk).wd (rr2 ii hi).wd ((rr2 kk hk).fit (rr2 ii hi)) W)
  rw [← ((rr1 ii hi).pd (rr1 kk hk)).1] at HM1
  rw [← ((rr2 kk hk).pd (rr2 ii hi)).1] at HM2
  have HCP := hide (fun W (hb : Below w.heap.size w W) => dCopy t (some ⟨gs, os, none⟩) (some ⟨gd, od, none⟩) ca cb (by omega) (by omega) W (h.below hb))
  have HOW : Hid (∀ W B a' b' ca' cb', Tn W B t a' b' ca' cb' -> ∃ g1 g2, a' = some ⟨g1, 0, none⟩ /\ b' = some ⟨g2, 0, none⟩ /\ B <= g1 /\ B <= g2 /\ Ow (W.alloc (.cells #[.int .i64 (N : Int), .slice (some ⟨g1, 0, none⟩) N ca', .slice (some ⟨g2, 0, none⟩) N cb'] 24)) N W.heap.size g1 g2 ca' cb' t.s t.d) := hide (fun W B a' b' ca' cb' hh => ow_of hh ls ld (by omega))
  have lu : (uT t ii kk).s.length = N /\ (uT t ii kk).d.length = N := ⟨by show (List.set _ _ _).length = N; rw [List.length_set, ls], by show (List.set _ _ _).length = N; rw [List.length_set, ld]⟩
  have lv : (vT t ii kk).s.length = N /\ (vT t ii kk).d.length = N := ⟨by show (List.set _ _ _).length = N; rw [List.length_set, List.length_set, ls], by show (List.set _ _ _).length = N; rw [List.length_set, List.length_set, ld]⟩
  have HCU : Hid (∀ W gu g1 g2 c1 c2, Ow W N gu g1 g2 c1 c2 (t.s.set ii (pdP (t.s.getD ii oP) (t.s.getD kk oP))) (t.d.set kk (pdP (t.d.getD kk oP) (t.d.getD ii oP))) -> Calls Tryd.prog 6 #[.agg #[.int .i64 (N : Int), .slice (some ⟨g1, 0, none⟩) N c1, .slice (some ⟨g2, 0, none⟩) N c2]] W fun e w' => e = .returned (.int .i64 0) /\ Below W.heap.size W w') := hide (fun W gu g1 g2 c1 c2 ho => by
    have := tCheck (uT t ii kk) _ _ _ _ W (Ow.th (u := uT t ii kk) ho lu.1 lu.2 (wl_ch HU.out.1).1 (wl_ch HU.out.1).2 h64)
    unfold chI tV at this
    rw [if_pos HU.out.1, lu.1, lu.2, show (uT t ii kk).n = (N : Int) from hN] at this
    exact this)
  have HCV : Hid (∀ W gu g1 g2 c1 c2, Ow W N gu g1 g2 c1 c2 ((t.s.set ii (t.s.getD kk oP)).set kk (t.s.getD ii oP)) ((t.d.set ii (t.d.getD kk oP)).set kk (t.d.getD ii oP)) -> Calls Tryd.prog 6 #[.agg #[.int .i64 (N : Int), .slice (some ⟨g1, 0, none⟩) N c1, .slice (some ⟨g2, 0, none⟩) N c2]] W fun e w' => e = .returned (.int .i64 0) /\ Below W.heap.size W w') := hide (fun W gu g1 g2 c1 c2 ho => by
    have := tCheck (vT t ii kk) _ _ _ _ W (Ow.th (u := vT t ii kk) ho lv.1 lv.2 (wl_ch HV.out.1).1 (wl_ch HV.out.1).2 h64)
    unfold chI tV at this
    rw [if_pos HV.out.1, lv.1, lv.2, show (vT t ii kk).n = (N : Int) from hN] at this
    exact this)
  have HSU : Hid (∀ W gu g1 g2 c1 c2, Below w.heap.size w W -> Ow W N gu g1 g2 c1 c2 (t.s.set ii (pdP (t.s.getD ii oP) (t.s.getD kk oP))) (t.d.set kk (pdP (t.d.getD kk oP) (t.d.getD ii oP))) -> Calls Tryd.prog 10 #[.agg #[.int .i64 (N : Int), .slice (some ⟨gs, os, none⟩) N ca, .slice (some ⟨gd, od, none⟩) N cb], .agg #[.int .i64 (N : Int), .slice (some ⟨g1, 0, none⟩) N c1, .slice (some ⟨g2, 0, none⟩) N c2]] W fun e w' => e = .returned (.bool true) /\ Below W.heap.size W w') := hide (fun W gu g1 g2 c1 c2 hb ho => by
    have := tSame t (uT t ii kk) _ _ _ _ _ _ _ _ W (h.below hb) (Ow.th (u := uT t ii kk) ho lu.1 lu.2 (wl_ch HU.out.1).1 (wl_ch HU.out.1).2 h64)
    unfold tV at this
    rw [sm_of hc HU.out.1 rfl HU.out.2, lu.1, lu.2, ls, ld, show (uT t ii kk).n = (N : Int) from hN, hN] at this
    exact this)
  have HSV : Hid (∀ W gu g1 g2 c1 c2, Below w.heap.size w W -> Ow W N gu g1 g2 c1 c2 ((t.s.set ii (t.s.getD kk oP)).set kk (t.s.getD ii oP)) ((t.d.set ii (t.d.getD kk oP)).set kk (t.d.getD ii oP)) -> Calls Tryd.prog 10 #[.agg #[.int .i64 (N : Int), .slice (some ⟨gs, os, none⟩) N ca, .slice (some ⟨gd, od, none⟩) N cb], .agg #[.int .i64 (N : Int), .slice (some ⟨g1, 0, none⟩) N c1, .slice (some ⟨g2, 0, none⟩) N c2]] W fun e w' => e = .returned (.bool true) /\ Below W.heap.size W w') := hide (fun W gu g1 g2 c1 c2 hb ho => by
    have := tSame t (vT t ii kk) _ _ _ _ _ _ _ _ W (h.below hb) (Ow.th (u := vT t ii kk) ho lv.1 lv.2 (wl_ch HV.out.1).1 (wl_ch HV.out.1).2 h64)
    unfold tV at this
    rw [sm_of hc HV.out.1 rfl HV.out.2, lv.1, lv.2, ls, ld, show (vT t ii kk).n = (N : Int) from hN, hN] at this
    exact this)
  have HPS := hide (fun V hb => HRS.out V hb ii hi)
  have HPK := hide (fun V hb => HRS.out V hb kk hk)
  have HQS := hide (fun V hb => HRD.out V hb ii hi)
  have HQK := hide (fun V hb => HRD.out V hb kk hk)
  have HG1 : Hid (∀ V g, PO V g t.s -> Pc V g (ii * 4) (t.s.getD ii oP) /\ Pc V g (kk * 4) (t.s.getD kk oP)) := hide (fun V g ho => ⟨ho.at (get_of (by omega)), ho.at (get_of (by omega))⟩)
  have HG2 : Hid (∀ V g, PO V g t.d -> Pc V g (ii * 4) (t.d.getD ii oP) /\ Pc V g (kk * 4) (t.d.getD kk oP)) := hide (fun V g ho => ⟨ho.at (get_of (by omega)), ho.at (get_of (by omega))⟩)
  have HG3 : Hid (∀ V g q, PO V g (t.s.set ii q) -> Pc V g (kk * 4) (t.s.getD kk oP)) := hide (fun V g q ho => ho.at (by rw [List.getElem?_set_ne hik]; exact get_of (by omega)))
  have HG4 : Hid (∀ V g q, PO V g (t.d.set ii q) -> Pc V g (kk * 4) (t.d.getD kk oP)) := hide (fun V g q ho => ho.at (by rw [List.getElem?_set_ne hik]; exact get_of (by omega)))
  unfold tV at HC1 HCP ⊢
  rw [hN, ls, ld] at HC1 HA0 HB0 ⊢
  rw [hN, ls, ld] at HCP
  have hd : decide ((N : Int) < 2) = false := decide_eq_false (by omega)
  have ek : ((ii : Int) == (kk : Int)) = false := beq_false_of_ne (by omega)
  clear hc h hT hN HU HV lu lv ls ld rr1 rr2 hcs1 hcd1 HRS HRD hik
  generalize pdP (t.s.getD ii oP) (t.s.getD kk oP) = q5 at *
  generalize pdP (t.d.getD kk oP) (t.d.getD ii oP) = q6 at *
  generalize t.s.getD ii oP = q1 at *
  generalize t.s.getD kk oP = q2 at *
  generalize t.d.getD ii oP = q3 at *
  generalize t.d.getD kk oP = q4 at *
  obtain ⟨m1, x1, z1, f1⟩ := q1
  obtain ⟨m2, x2, z2, f2⟩ := q2
  obtain ⟨m3, x3, z3, f3⟩ := q3
  obtain ⟨m4, x4, z4, f4⟩ := q4
  obtain ⟨m5, x5, z5, f5⟩ := q5
  obtain ⟨m6, x6, z6, f6⟩ := q6
  unfold pV at HM1 HM2
  simp only at HM1 HM2
  go_enter Tryd.func3, Tryd.ntmps3
  go_wp2_with fail
  refine (HC1.out _ HB0.out).mono ?_
  rintro e w1 ⟨rfl, hb1⟩
  have HB1 := hide (bkp HB0.out hb1)
  have HA1 := hide (HA0.out.below hb1)
  obtain ⟨x0, y1, y2, y3⟩ := HA1.out.cells
  clear hb1 HA0 HB0 HC1
  go_wp2_with (go_at_call 5; refine (hnum _ _).mono ?_; rintro e wn ⟨rfl, hw⟩; obtain rfl := hw.symm)
  clear x0 y1 y2 y3
  refine (HCP.out _ HB1.out).mono ?_
  rintro e w2 ⟨a', b', ca', cb', rfl, hTn, hb2⟩
  obtain ⟨g1, g2, rfl, rfl, hg1, hg2, hO2⟩ := HOW.out _ _ _ _ _ _ hTn
  have HO := hide hO2
  have hbn := bnew w2 (.cells #[.int .i64 (N : Int), .slice (some ⟨g1, 0, none⟩) N ca', .slice (some ⟨g2, 0, none⟩) N cb'] 24)
  have HB2 := hide (bkp (bkp HB1.out hb2) hbn)
  have HA2 := hide ((HA1.out.below hb2).below hbn)
  have HGE : Hid (w.heap.size < g1 /\ w.heap.size < g2) := hide ⟨by have := HA1.out.lt; omega, by have := HA1.out.lt; omega⟩
  clear hTn hO2 hbn hb2 hg1 hg2 HB1 HA1
  go_upto_region 8 with fail
  generalize w2.alloc (.cells #[.int .i64 (N : Int), .slice (some ⟨g1, 0, none⟩) N ca', .slice (some ⟨g2, 0, none⟩) N cb'] 24) = V2 at *
  generalize w2.heap.size = gu at *
  go_cut [8, 9] from 45 (fun sa sb we => ∃ gx : Nat, sa = .pointer (some ⟨gx, 0, none⟩) /\ sb = .int .i64 0 /\ Hid (Below V2.heap.size V2 we /\ At4 we gx (.int .i64 m5) (.int .u64 (x5 : Int)) (.int .u64 (z5 : Int)) (.int .i64 f5) /\ V2.heap.size <= gx))
  case first =>
    have HSS : Hid (∀ V, Below V2.heap.size V2 V -> (Below V2.heap.size V2 V /\ V.cell? ⟨w.heap.size, 1, none⟩ = some (.slice (some ⟨gs, os, none⟩) N ca) /\ (V.cell? ⟨gs, os + ii * 4, none⟩ = some (.int .i64 m1) /\ V.cell? ⟨gs, os + ii * 4 + 1, none⟩ = some (.int .u64 (x1 : Int)) /\ V.cell? ⟨gs, os + ii * 4 + 2, none⟩ = some (.int .u64 (z1 : Int)) /\ V.cell? ⟨gs, os + ii * 4 + 3, none⟩ = some (.int .i64 f1)) /\ (V.cell? ⟨gs, os + kk * 4, none⟩ = some (.int .i64 m2) /\ V.cell? ⟨gs, os + kk * 4 + 1, none⟩ = some (.int .u64 (x2 : Int)) /\ V.cell? ⟨gs, os + kk * 4 + 2, none⟩ = some (.int .u64 (z2 : Int)) /\ V.cell? ⟨gs, os + kk * 4 + 3, none⟩ = some (.int .i64 f2)) /\ gs < V.heap.size)) := hide (fun V hV => by
      obtain ⟨-, k1, k2, -⟩ := (HA2.out.below hV).cells
      obtain ⟨⟨c0, c1, c2, c3⟩, c4⟩ := HPS.out V (bkp HB2.out hV)
      obtain ⟨⟨d0, d1, d2, d3⟩, d4⟩ := HPK.out V (bkp HB2.out hV)
      exact ⟨hV, k1, ⟨c0, c1, c2, c3⟩, ⟨d0, d1, d2, d3⟩, c4⟩)
    have HD0 : Hid (Below V2.heap.size V2 V2.drew) := hide (Below.refl _ _).drew
    have HD1 : Hid (∀ o, Below V2.heap.size V2 (V2.alloc o).drew) := hide (fun o => (bnew V2 o).drew)
    go_region_held3 (fun V => Below V2.heap.size V2 V /\ V.cell? ⟨w.heap.size, 1, none⟩ = some (.slice (some ⟨gs, os, none⟩) N ca) /\ (V.cell? ⟨gs, os + ii * 4, none⟩ = some (.int .i64 m1) /\ V.cell? ⟨gs, os + ii * 4 + 1, none⟩ = some (.int .u64 (x1 : Int)) /\ V.cell? ⟨gs, os + ii * 4 + 2, none⟩ = some (.int .u64 (z1 : Int)) /\ V.cell? ⟨gs, os + ii * 4 + 3, none⟩ = some (.int .i64 f1)) /\ (V.cell? ⟨gs, os + kk * 4, none⟩ = some (.int .i64 m2) /\ V.cell? ⟨gs, os + kk * 4 + 1, none⟩ = some (.int .u64 (x2 : Int)) /\ V.cell? ⟨gs, os + kk * 4 + 2, none⟩ = some (.int .u64 (z2 : Int)) /\ V.cell? ⟨gs, os + kk * 4 + 3, none⟩ = some (.int .i64 f2)) /\ gs < V.heap.size)
      (first | exact HSS.out _ HD0.out | exact HSS.out _ (HD1.out _) | exact HSS.out _ (by assumption) | exact HSS.out _ (bkp hb4 (bnew _ _)) | exact HSS.out _ (bkp ‹Below V2.heap.size V2 _ /\ _›.1 (bnew _ _)) | exact HSS.out _ ((((hb4.setCell (p := ⟨_, 0, none⟩) (Nat.le_refl _) _).setCell (p := ⟨_, 1, none⟩) (Nat.le_refl _) _).setCell (p := ⟨_, 2, none⟩) (Nat.le_refl _) _).setCell (p := ⟨_, 3, none⟩) (Nat.le_refl _) _))
      (first
        | (go_at_call 9; (with_reducible refine Calls.mono (HM1.out _) ?_); rintro e w4 ⟨rfl, q4⟩; have hb4 := bkp (‹Below V2.heap.size V2 _ /\ _›.1) q4; first | (have zz4 : At4 w4 V2.heap.size (.int .i64 0) (.int .u64 0) (.int .u64 0) (.int .i64 0) := (q4.block V2.heap.size (by simp)).trans (heap_alloc_new V2 _); obtain ⟨z0, z1, z2, z3, z4⟩ := zz4.cells; have zf := fun j => At4.fz zz4 j) | skip))
    . have HX : Hid (Below V2.heap.size V2 (w4.alloc (.cells #[.int .i64 m5, .int .u64 (x5 : Int), .int .u64 (z5 : Int), .int .i64 f5] 32)) /\ At4 (w4.alloc (.cells #[.int .i64 m5, .int .u64 (x5 : Int), .int .u64 (z5 : Int), .int .i64 f5] 32)) w4.heap.size (.int .i64 m5) (.int .u64 (x5 : Int)) (.int .u64 (z5 : Int)) (.int .i64 f5) /\ V2.heap.size <= w4.heap.size) := hide ⟨bkp hb4 (bnew _ _), At4.new _ _ _ _ _, hb4.size⟩
      clear HSS HD0 HD1
      go_wp2_with fail
      go_meet
      case rel => exact ⟨_, rfl, rfl, HX⟩
    . have HX : Hid (Below V2.heap.size V2 ((((w4.setCell ⟨V2.heap.size, 0, none⟩ (.int .i64 m5)).setCell ⟨V2.heap.size, 1, none⟩ (.int .u64 (x5 : Int))).setCell ⟨V2.heap.size, 2, none⟩ (.int .u64 (z5 : Int))).setCell ⟨V2.heap.size, 3, none⟩ (.int .i64 f5)) /\ At4 ((((w4.setCell ⟨V2.heap.size, 0, none⟩ (.int .i64 m5)).setCell ⟨V2.heap.size, 1, none⟩ (.int .u64 (x5 : Int))).setCell ⟨V2.heap.size, 2, none⟩ (.int .u64 (z5 : Int))).setCell ⟨V2.heap.size, 3, none⟩ (.int .i64 f5)) V2.heap.size (.int .i64 m5) (.int .u64 (x5 : Int)) (.int .u64 (z5 : Int)) (.int .i64 f5) /\ V2.heap.size <= V2.heap.size) := hide ⟨(((hb4.setCell (p := ⟨_, 0, none⟩) (Nat.le_refl _) _).setCell (p := ⟨_, 1, none⟩) (Nat.le_refl _) _).setCell (p := ⟨_, 2, none⟩) (Nat.le_refl _) _).setCell (p := ⟨_, 3, none⟩) (Nat.le_refl _) _, At4.set zz4 ⟨m5, x5, z5, f5⟩, Nat.le_refl _⟩
      clear HSS HD0 HD1
      go_wp2_with fail
      go_meet
      case rel => exact ⟨_, rfl, rfl, HX⟩
  case rest =>
    obtain ⟨gx, rfl, rfl, HX⟩ := hcut
    have HO3 := hide (HO.out.keep HX.out.1)
    have HB3 := hide (bkp HB2.out HX.out.1)
    have HA3 := hide (HA2.out.below HX.out.1)
    have HX3 := hide HX.out.2.1
    have HGX : Hid (gx ≠ gu /\ gx ≠ g1 /\ gx ≠ g2 /\ w.heap.size < gx) := hide (by
      have k1 := HO.out.lts
      have k2 := HX.out.2.2
      have k3 := HA2.out.lt
      exact ⟨by omega, by omega, by omega, by omega⟩)
    clear HO HB2 HA2 HX HM1
    go_upto_region 9 with fail
    go_cut [10, 11] from 59 (fun sa sb we => ∃ gx : Nat, sa = .pointer (some ⟨gx, 0, none⟩) /\ sb = .int .i64 0 /\ Hid (Below wc.heap.size wc we /\ At4 we gx (.int .i64 m6) (.int .u64 (x6 : Int)) (.int .u64 (z6 : Int)) (.int .i64 f6) /\ wc.heap.size <= gx))
    case first =>
      have HSS : Hid (∀ V, Below wc.heap.size wc V -> (Below wc.heap.size wc V /\ V.cell? ⟨w.heap.size, 2, none⟩ = some (.slice (some ⟨gd, od, none⟩) N cb) /\ (V.cell? ⟨gd, od + kk * 4, none⟩ = some (.int .i64 m4) /\ V.cell? ⟨gd, od + kk * 4 + 1, none⟩ = some (.int .u64 (x4 : Int)) /\ V.cell? ⟨gd, od + kk * 4 + 2, none⟩ = some (.int .u64 (z4 : Int)) /\ V.cell? ⟨gd, od + kk * 4 + 3, none⟩ = some (.int .i64 f4)) /\ (V.cell? ⟨gd, od + ii * 4, none⟩ = some (.int .i64 m3) /\ V.cell? ⟨gd, od + ii * 4 + 1, none⟩ = some (.int .u64 (x3 : Int)) /\ V.cell? ⟨gd, od + ii * 4 + 2, none⟩ = some (.int .u64 (z3 : Int)) /\ V.cell? ⟨gd, od + ii * 4 + 3, none⟩ = some (.int .i64 f3)) /\ gd < V.heap.size)) := hide (fun V hV => by
        obtain ⟨-, k1, k2, -⟩ := (HA3.out.below hV).cells
        obtain ⟨⟨c0, c1, c2, c3⟩, c4⟩ := HQK.out V (bkp HB3.out hV)
        obtain ⟨⟨d0, d1, d2, d3⟩, d4⟩ := HQS.out V (bkp HB3.out hV)
        exact ⟨hV, k2, ⟨c0, c1, c2, c3⟩, ⟨d0, d1, d2, d3⟩, c4⟩)
      have HD0 : Hid (Below wc.heap.size wc wc.drew) := hide (Below.refl _ _).drew
      have HD1 : Hid (∀ o, Below wc.heap.size wc (wc.alloc o).drew) := hide (fun o => (bnew wc o).drew)
      go_region_held3 (fun V => Below wc.heap.size wc V /\ V.cell? ⟨w.heap.size, 2, none⟩ = some (.slice (some ⟨gd, od, none⟩) N cb) /\ (V.cell? ⟨gd, od + kk * 4, none⟩ = some (.int .i64 m4) /\ V.cell? ⟨gd, od + kk * 4 + 1, none⟩ = some (.int .u64 (x4 : Int)) /\ V.cell? ⟨gd, od + kk * 4 + 2, none⟩ = some (.int .u64 (z4 : Int)) /\ V.cell? ⟨gd, od + kk * 4 + 3, none⟩ = some (.int .i64 f4)) /\ (V.cell? ⟨gd, od + ii * 4, none⟩ = some (.int .i64 m3) /\ V.cell? ⟨gd, od + ii * 4 + 1, none⟩ = some (.int .u64 (x3 : Int)) /\ V.cell? ⟨gd, od + ii * 4 + 2, none⟩ = some (.int .u64 (z3 : Int)) /\ V.cell? ⟨gd, od + ii * 4 + 3, none⟩ = some (.int .i64 f3)) /\ gd < V.heap.size)
        (first | exact HSS.out _ HD0.out | exact HSS.out _ (HD1.out _) | exact HSS.out _ (by assumption) | exact HSS.out _ (bkp hb4 (bnew _ _)) | exact HSS.out _ (bkp ‹Below wc.heap.size wc _ /\ _›.1 (bnew _ _)) | exact HSS.out _ ((((hb4.setCell (p := ⟨_, 0, none⟩) (Nat.le_refl _) _).setCell (p := ⟨_, 1, none⟩) (Nat.le_refl _) _).setCell (p := ⟨_, 2, none⟩) (Nat.le_refl _) _).setCell (p := ⟨_, 3, none⟩) (Nat.le_refl _) _))
        (first
          | (go_at_call 9; (with_reducible refine Calls.mono (HM2.out _) ?_); rintro e w4 ⟨rfl, q4⟩; have hb4 := bkp (‹Below wc.heap.size wc _ /\ _›.1) q4; first | (have zz4 : At4 w4 wc.heap.size (.int .i64 0) (.int .u64 0) (.int .u64 0) (.int .i64 0) := (q4.block wc.heap.size (by simp)).trans (heap_alloc_new wc _); obtain ⟨z0, z1, z2, z3, z4⟩ := zz4.cells; have zf := fun j => At4.fz zz4 j) | skip))
      . have HX : Hid (Below wc.heap.size wc (w4.alloc (.cells #[.int .i64 m6, .int .u64 (x6 : Int), .int .u64 (z6 : Int), .int .i64 f6] 32)) /\ At4 (w4.alloc (.cells #[.int .i64 m6, .int .u64 (x6 : Int), .int .u64 (z6 : Int), .int .i64 f6] 32)) w4.heap.size (.int .i64 m6) (.int .u64 (x6 : Int)) (.int .u64 (z6 : Int)) (.int .i64 f6) /\ wc.heap.size <= w4.heap.size) := hide ⟨bkp hb4 (bnew _ _), At4.new _ _ _ _ _, hb4.size⟩
        clear HSS HD0 HD1
        go_wp2_with fail
        go_meet
        case rel => exact ⟨_, rfl, rfl, HX⟩
      . have HX : Hid (Below wc.heap.size wc ((((w4.setCell ⟨wc.heap.size, 0, none⟩ (.int .i64 m6)).setCell ⟨wc.heap.size, 1, none⟩ (.int .u64 (x6 : Int))).setCell ⟨wc.heap.size, 2, none⟩ (.int .u64 (z6 : Int))).setCell ⟨wc.heap.size, 3, none⟩ (.int .i64 f6)) /\ At4 ((((w4.setCell ⟨wc.heap.size, 0, none⟩ (.int .i64 m6)).setCell ⟨wc.heap.size, 1, none⟩ (.int .u64 (x6 : Int))).setCell ⟨wc.heap.size, 2, none⟩ (.int .u64 (z6 : Int))).setCell ⟨wc.heap.size, 3, none⟩ (.int .i64 f6)) wc.heap.size (.int .i64 m6) (.int .u64 (x6 : Int)) (.int .u64 (z6 : Int)) (.int .i64 f6) /\ wc.heap.size <= wc.heap.size) := hide ⟨(((hb4.setCell (p := ⟨_, 0, none⟩) (Nat.le_refl _) _).setCell (p := ⟨_, 1, none⟩) (Nat.le_refl _) _).setCell (p := ⟨_, 2, none⟩) (Nat.le_refl _) _).setCell (p := ⟨_, 3, none⟩) (Nat.le_refl _) _, At4.set zz4 ⟨m6, x6, z6, f6⟩, Nat.le_refl _⟩
        clear HSS HD0 HD1
        go_wp2_with fail
        go_meet
        case rel => exact ⟨_, rfl, rfl, HX⟩
    case rest =>
      obtain ⟨gy, rfl, rfl, HX⟩ := hcut
      have HO4 := hide (HO3.out.keep HX.out.1)
      have HB4 := hide (bkp HB3.out HX.out.1)
      have HA4 := hide (HA3.out.below HX.out.1)
      have HX4 := hide (HX3.out.below HX.out.1)
      have HY4 := hide HX.out.2.1
      have HGY : Hid (gy ≠ gu /\ gy ≠ g1 /\ gy ≠ g2 /\ w.heap.size < gy) := hide (by
        have k1 := HO3.out.lts
        have k2 := HX.out.2.2
        have k3 := HA3.out.lt
        exact ⟨by omega, by omega, by omega, by omega⟩)
      clear HO3 HB3 HA3 HX HX3 HM2
      go_upto_region 12 with (go_at_call 5; refine (hnum _ _).mono ?_; rintro e wn ⟨rfl, hw⟩; obtain rfl := hw.symm)
      obtain ⟨e0, e1, e2, e3⟩ := HO4.out.hd.cells
      obtain ⟨y0, y1, y2, y3, y4⟩ := HX4.out.cells
      obtain ⟨⟨a0, a1, a2, a3⟩, -⟩ := HG1.out _ _ HO4.out.s
      have ff := HO4.out.s.fz
      have kl := HO4.out.s.lt
      simp only at a0 a1 a2 a3
      have HO5 := hide (HO4.out.setS ii ⟨m5, x5, z5, f5⟩)
      have HB5 := hide (below_set4 (o := ii * 4) (p := ⟨m5, x5, z5, f5⟩) HB4.out (show w.heap.size <= g1 by have := HGE.out; omega))
      have HA5 := hide (HA4.out.off (k := g1) (o := ii * 4) (p := ⟨m5, x5, z5, f5⟩) (by have := HGE.out; omega))
      have HY5 := hide (At4.off4 HY4.out (k := g1) (o := ii * 4) (p := ⟨m5, x5, z5, f5⟩) HGY.out.2.1)
      unfold set4 at HO5 HB5 HA5 HY5
      go_upto_region 13 with fail
      generalize (((wc.setCell ⟨g1, ii * 4, none⟩ (.int .i64 m5)).setCell ⟨g1, ii * 4 + 1, none⟩ (.int .u64 (x5 : Int))).setCell ⟨g1, ii * 4 + 2, none⟩ (.int .u64 (z5 : Int))).setCell ⟨g1, ii * 4 + 3, none⟩ (.int .i64 f5) = V5 at *
      clear e0 e1 e2 e3 y0 y1 y2 y3 y4 a0 a1 a2 a3 ff kl HO4 HB4 HA4 HX4 HY4
      obtain ⟨e0, e1, e2, e3⟩ := HO5.out.hd.cells
      obtain ⟨y0, y1, y2, y3, y4⟩ := HY5.out.cells
      obtain ⟨-, ⟨a0, a1, a2, a3⟩⟩ := HG2.out _ _ HO5.out.d
      have ff := HO5.out.d.fz
      have kl := HO5.out.d.lt
      simp only at a0 a1 a2 a3
      have HO6 := hide (HO5.out.setD kk ⟨m6, x6, z6, f6⟩)
      have HB6 := hide (below_set4 (o := kk * 4) (p := ⟨m6, x6, z6, f6⟩) HB5.out (show w.heap.size <= g2 by have := HGE.out; omega))
      have HA6 := hide (HA5.out.off (k := g2) (o := kk * 4) (p := ⟨m6, x6, z6, f6⟩) (by have := HGE.out; omega))
      unfold set4 at HO6 HB6 HA6
      go_upto_region 14 with fail
      generalize (((V5.setCell ⟨g2, kk * 4, none⟩ (.int .i64 m6)).setCell ⟨g2, kk * 4 + 1, none⟩ (.int .u64 (x6 : Int))).setCell ⟨g2, kk * 4 + 2, none⟩ (.int .u64 (z6 : Int))).setCell ⟨g2, kk * 4 + 3, none⟩ (.int .i64 f6) = V6 at *
      clear e0 e1 e2 e3 y0 y1 y2 y3 y4 a0 a1 a2 a3 ff kl HO5 HB5 HA5 HY5
      obtain ⟨e0, e1, e2, e3⟩ := HA6.out.cells
      go_wp2_with fail
      refine (HCP.out _ HB6.out).mono ?_
      rintro e w7 ⟨a', b', ca2, cb2, rfl, hTn, hb7⟩
      obtain ⟨g3, g4, rfl, rfl, hg3, hg4, hO7⟩ := HOW.out _ _ _ _ _ _ hTn
      have HV7 := hide hO7
      have hbn := bnew w7 (.cells #[.int .i64 (N : Int), .slice (some ⟨g3, 0, none⟩) N ca2, .slice (some ⟨g4, 0, none⟩) N cb2] 24)
      have HB7 := hide (bkp (bkp HB6.out hb7) hbn)
      have HA7 := hide ((HA6.out.below hb7).below hbn)
      have HO7 := hide ((HO6.out.keep hb7).keep hbn)
      have HGV : Hid (gu ≠ g3 /\ g1 ≠ g3 /\ g2 ≠ g3 /\ gu ≠ g4 /\ g1 ≠ g4 /\ g2 ≠ g4 /\ w.heap.size < g3 /\ w.heap.size < g4) := hide (by
        have k1 := HO6.out.lts
        have k3 := HA6.out.lt
        exact ⟨by omega, by omega, by omega, by omega, by omega, by omega, by omega, by omega⟩)
      clear hTn hO7 hbn hb7 hg3 hg4 HB6 HA6 HO6 HCP HOW e0 e1 e2 e3
      go_upto_region 15 with fail
      generalize w7.alloc (.cells #[.int .i64 (N : Int), .slice (some ⟨g3, 0, none⟩) N ca2, .slice (some ⟨g4, 0, none⟩) N cb2] 24) = V7 at *
      generalize w7.heap.size = gv at *
      go_cut [13, 14] from 93 (fun sa sb we => ∃ ga gb : Nat, sa = .pointer (some ⟨ga, 0, none⟩) /\ sb = .pointer (some ⟨gb, 0, none⟩) /\ Hid (Below V7.heap.size V7 we /\ At4 we ga (.int .i64 m1) (.int .u64 (x1 : Int)) (.int .u64 (z1 : Int)) (.int .i64 f1) /\ At4 we gb (.int .i64 m3) (.int .u64 (x3 : Int)) (.int .u64 (z3 : Int)) (.int .i64 f3) /\ V7.heap.size <= ga /\ V7.heap.size <= gb))
      case first =>
        have HSS : Hid (∀ V, Below V7.heap.size V7 V -> (Below V7.heap.size V7 V /\ (V.cell? ⟨gv, 1, none⟩ = some (.slice (some ⟨g3, 0, none⟩) N ca2) /\ V.cell? ⟨gv, 2, none⟩ = some (.slice (some ⟨g4, 0, none⟩) N cb2)) /\ (V.cell? ⟨g3, ii * 4, none⟩ = some (.int .i64 m1) /\ V.cell? ⟨g3, ii * 4 + 1, none⟩ = some (.int .u64 (x1 : Int)) /\ V.cell? ⟨g3, ii * 4 + 2, none⟩ = some (.int .u64 (z1 : Int)) /\ V.cell? ⟨g3, ii * 4 + 3, none⟩ = some (.int .i64 f1)) /\ (V.cell? ⟨g4, ii * 4, none⟩ = some (.int .i64 m3) /\ V.cell? ⟨g4, ii * 4 + 1, none⟩ = some (.int .u64 (x3 : Int)) /\ V.cell? ⟨g4, ii * 4 + 2, none⟩ = some (.int .u64 (z3 : Int)) /\ V.cell? ⟨g4, ii * 4 + 3, none⟩ = some (.int .i64 f3)) /\ g3 < V.heap.size /\ g4 < V.heap.size)) := hide (fun V hV => by
          have ho := HV7.out.keep hV
          obtain ⟨-, k1, k2, -⟩ := ho.hd.cells
          obtain ⟨⟨c0, c1, c2, c3⟩, -⟩ := HG1.out _ _ ho.s
          obtain ⟨⟨d0, d1, d2, d3⟩, -⟩ := HG2.out _ _ ho.d
          exact ⟨hV, ⟨k1, k2⟩, ⟨c0, c1, c2, c3⟩, ⟨d0, d1, d2, d3⟩, ho.s.lt, ho.d.lt⟩)
        have HD0 : Hid (Below V7.heap.size V7 V7.drew) := hide (Below.refl _ _).drew
        have HD1 : Hid (∀ o, Below V7.heap.size V7 (V7.alloc o).drew) := hide (fun o => (bnew V7 o).drew)
        have HD2 : Hid (∀ o o', Below V7.heap.size V7 ((V7.alloc o).alloc o').drew) := hide (fun o o' => (bkp (bnew V7 o) (bnew _ o')).drew)
        go_region_held3 (fun V => Below V7.heap.size V7 V /\ (V.cell? ⟨gv, 1, none⟩ = some (.slice (some ⟨g3, 0, none⟩) N ca2) /\ V.cell? ⟨gv, 2, none⟩ = some (.slice (some ⟨g4, 0, none⟩) N cb2)) /\ (V.cell? ⟨g3, ii * 4, none⟩ = some (.int .i64 m1) /\ V.cell? ⟨g3, ii * 4 + 1, none⟩ = some (.int .u64 (x1 : Int)) /\ V.cell? ⟨g3, ii * 4 + 2, none⟩ = some (.int .u64 (z1 : Int)) /\ V.cell? ⟨g3, ii * 4 + 3, none⟩ = some (.int .i64 f1)) /\ (V.cell? ⟨g4, ii * 4, none⟩ = some (.int .i64 m3) /\ V.cell? ⟨g4, ii * 4 + 1, none⟩ = some (.int .u64 (x3 : Int)) /\ V.cell? ⟨g4, ii * 4 + 2, none⟩ = some (.int .u64 (z3 : Int)) /\ V.cell? ⟨g4, ii * 4 + 3, none⟩ = some (.int .i64 f3)) /\ g3 < V.heap.size /\ g4 < V.heap.size)
          (first | exact HSS.out _ HD0.out | exact HSS.out _ (HD1.out _) | exact HSS.out _ (HD2.out _ _) | exact HSS.out _ (by assumption) | exact HSS.out _ (bkp ‹Below V7.heap.size V7 _ /\ _›.1 (bnew _ _)))
          (fail)
        all_goals clear HSS HD0 HD1 HD2
        . have HX : Hid (Below V7.heap.size V7 ((V7.alloc (.cells #[.int .i64 m1, .int .u64 (x1 : Int), .int .u64 (z1 : Int), .int .i64 f1] 32)).alloc (.cells #[.int .i64 m3, .int .u64 (x3 : Int), .int .u64 (z3 : Int), .int .i64 f3] 32)).drew /\ At4 ((V7.alloc (.cells #[.int .i64 m1, .int .u64 (x1 : Int), .int .u64 (z1 : Int), .int .i64 f1] 32)).alloc (.cells #[.int .i64 m3, .int .u64 (x3 : Int), .int .u64 (z3 : Int), .int .i64 f3] 32)).drew V7.heap.size (.int .i64 m1) (.int .u64 (x1 : Int)) (.int .u64 (z1 : Int)) (.int .i64 f1) /\ At4 ((V7.alloc (.cells #[.int .i64 m1, .int .u64 (x1 : Int), .int .u64 (z1 : Int), .int .i64 f1] 32)).alloc (.cells #[.int .i64 m3, .int .u64 (x3 : Int), .int .u64 (z3 : Int), .int .i64 f3] 32)).drew (V7.heap.size + 1) (.int .i64 m3) (.int .u64 (x3 : Int)) (.int .u64 (z3 : Int)) (.int .i64 f3) /\ V7.heap.size <= V7.heap.size /\ V7.heap.size <= V7.heap.size + 1) := hide ⟨(bkp (bnew V7 _) (bnew _ _)).drew, (two44 V7 _ _ _ _ _ _ _ _).1, (two44 V7 _ _ _ _ _ _ _ _).2, Nat.le_refl _, Nat.le_succ _⟩
          go_wp2_with fail
          go_meet
          case rel => exact ⟨_, _, rfl, rfl, HX⟩
        . have HX : Hid (Below V7.heap.size V7 ((V7.alloc (.cells #[.int .i64 m3, .int .u64 (x3 : Int), .int .u64 (z3 : Int), .int .i64 f3] 32)).alloc (.cells #[.int .i64 m1, .int .u64 (x1 : Int), .int .u64 (z1 : Int), .int .i64 f1] 32)).drew /\ At4 ((V7.alloc (.cells #[.int .i64 m3, .int .u64 (x3 : Int), .int .u64 (z3 : Int), .int .i64 f3] 32)).alloc (.cells #[.int .i64 m1, .int .u64 (x1 : Int), .int .u64 (z1 : Int), .int .i64 f1] 32)).drew (V7.heap.size + 1) (.int .i64 m1) (.int .u64 (x1 : Int)) (.int .u64 (z1 : Int)) (.int .i64 f1) /\ At4 ((V7.alloc (.cells #[.int .i64 m3, .int .u64 (x3 : Int), .int .u64 (z3 : Int), .int .i64 f3] 32)).alloc (.cells #[.int .i64 m1, .int .u64 (x1 : Int), .int .u64 (z1 : Int), .int .i64 f1] 32)).drew V7.heap.size (.int .i64 m3) (.int .u64 (x3 : Int)) (.int .u64 (z3 : Int)) (.int .i64 f3) /\ V7.heap.size <= V7.heap.size + 1 /\ V7.heap.size <= V7.heap.size) := hide ⟨(bkp (bnew V7 _) (bnew _ _)).drew, (two44 V7 _ _ _ _ _ _ _ _).2, (two44 V7 _ _ _ _ _ _ _ _).1, Nat.le_succ _, Nat.le_refl _⟩
          go_wp2_with fail
          go_meet
          case rel => exact ⟨_, _, rfl, rfl, HX⟩
      case rest =>
        obtain ⟨ga, gb, rfl, rfl, HX⟩ := hcut
        have HV8 := hide (HV7.out.keep HX.out.1)
        have HO8 := hide (HO7.out.keep HX.out.1)
        have HB8 := hide (bkp HB7.out HX.out.1)
        have HA8 := hide (HA7.out.below HX.out.1)
        have HPA := hide HX.out.2.1
        have HPB := hide HX.out.2.2.1
        have HGA : Hid (ga ≠ g3 /\ ga ≠ g4 /\ gb ≠ g3 /\ gb ≠ g4) := hide (by
          have k1 := HV7.out.lts
          have k2 := HX.out.2.2.2
          exact ⟨by omega, by omega, by omega, by omega⟩)
        clear HV7 HO7 HB7 HA7 HX
        go_upto_region 16 with fail
        have HPA8 := HPA
        have HPB8 := HPB
        clear HPA HPB
        have HD := hide HV8.out.drew
        have HVX := hide (HD.out.setS ii ⟨m2, x2, z2, f2⟩)
        have HV9 := hide (HVX.out.setD ii ⟨m4, x4, z4, f4⟩)
        have HPAd := hide (At4.below HPA8.out (Below.refl _ _).drew)
        have HPBd := hide (At4.below HPB8.out (Below.refl _ _).drew)
        have HPAx := hide (At4.off4 HPAd.out (k := g3) (o := ii * 4) (p := ⟨m2, x2, z2, f2⟩) HGA.out.1)
        have HPBx := hide (At4.off4 HPBd.out (k := g3) (o := ii * 4) (p := ⟨m2, x2, z2, f2⟩) HGA.out.2.2.1)
        have HPA9 := hide (At4.off4 HPAx.out (k := g4) (o := ii * 4) (p := ⟨m4, x4, z4, f4⟩) HGA.out.2.1)
        have HPB9 := hide (At4.off4 HPBx.out (k := g4) (o := ii * 4) (p := ⟨m4, x4, z4, f4⟩) HGA.out.2.2.2)
        have HS0 : Hid ((fun V => (V.cell? ⟨gv, 1, none⟩ = some (.slice (some ⟨g3, 0, none⟩) N ca2) /\ V.cell? ⟨gv, 2, none⟩ = some (.slice (some ⟨g4, 0, none⟩) N cb2)) /\ (V.cell? ⟨g3, kk * 4, none⟩ = some (.int .i64 m2) /\ V.cell? ⟨g3, kk * 4 + 1, none⟩ = some (.int .u64 (x2 : Int)) /\ V.cell? ⟨g3, kk * 4 + 2, none⟩ = some (.int .u64 (z2 : Int)) /\ V.cell? ⟨g3, kk * 4 + 3, none⟩ = some (.int .i64 f2)) /\ (V.cell? ⟨g4, kk * 4, none⟩ = some (.int .i64 m4) /\ V.cell? ⟨g4, kk * 4 + 1, none⟩ = some (.int .u64 (x4 : Int)) /\ V.cell? ⟨g4, kk * 4 + 2, none⟩ = some (.int .u64 (z4 : Int)) /\ V.cell? ⟨g4, kk * 4 + 3, none⟩ = some (.int .i64 f4)) /\ g3 < V.heap.size /\ g4 < V.heap.size) wc.drew) := hide (by
          obtain ⟨-, k1, k2, -⟩ := HD.out.hd.cells
          obtain ⟨c0, c1, c2, c3⟩ := (HG1.out _ _ HD.out.s).2
          obtain ⟨d0, d1, d2, d3⟩ := (HG2.out _ _ HD.out.d).2
          exact ⟨⟨k1, k2⟩, ⟨c0, c1, c2, c3⟩, ⟨d0, d1, d2, d3⟩, HD.out.s.lt, HD.out.d.lt⟩)
        have HS1 : Hid ((fun V => (V.cell? ⟨gv, 1, none⟩ = some (.slice (some ⟨g3, 0, none⟩) N ca2) /\ V.cell? ⟨gv, 2, none⟩ = some (.slice (some ⟨g4, 0, none⟩) N cb2)) /\ (V.cell? ⟨g3, kk * 4, none⟩ = some (.int .i64 m2) /\ V.cell? ⟨g3, kk * 4 + 1, none⟩ = some (.int .u64 (x2 : Int)) /\ V.cell? ⟨g3, kk * 4 + 2, none⟩ = some (.int .u64 (z2 : Int)) /\ V.cell? ⟨g3, kk * 4 + 3, none⟩ = some (.int .i64 f2)) /\ (V.cell? ⟨g4, kk * 4, none⟩ = some (.int .i64 m4) /\ V.cell? ⟨g4, kk * 4 + 1, none⟩ = some (.int .u64 (x4 : Int)) /\ V.cell? ⟨g4, kk * 4 + 2, none⟩ = some (.int .u64 (z4 : Int)) /\ V.cell? ⟨g4, kk * 4 + 3, none⟩ = some (.int .i64 f4)) /\ g3 < V.heap.size /\ g4 < V.heap.size) (set4 wc.drew g3 (ii * 4) ⟨m2, x2, z2, f2⟩)) := hide (by
          obtain ⟨-, k1, k2, -⟩ := HVX.out.hd.cells
          obtain ⟨c0, c1, c2, c3⟩ := (HG3.out _ _ _ HVX.out.s)
          obtain ⟨d0, d1, d2, d3⟩ := (HG2.out _ _ HVX.out.d).2
          exact ⟨⟨k1, k2⟩, ⟨c0, c1, c2, c3⟩, ⟨d0, d1, d2, d3⟩, HVX.out.s.lt, HVX.out.d.lt⟩)
        have HS2 : Hid ((fun V => (V.cell? ⟨gv, 1, none⟩ = some (.slice (some ⟨g3, 0, none⟩) N ca2) /\ V.cell? ⟨gv, 2, none⟩ = some (.slice (some ⟨g4, 0, none⟩) N cb2)) /\ (V.cell? ⟨g3, kk * 4, none⟩ = some (.int .i64 m2) /\ V.cell? ⟨g3, kk * 4 + 1, none⟩ = some (.int .u64 (x2 : Int)) /\ V.cell? ⟨g3, kk * 4 + 2, none⟩ = some (.int .u64 (z2 : Int)) /\ V.cell? ⟨g3, kk * 4 + 3, none⟩ = some (.int .i64 f2)) /\ (V.cell? ⟨g4, kk * 4, none⟩ = some (.int .i64 m4) /\ V.cell? ⟨g4, kk * 4 + 1, none⟩ = some (.int .u64 (x4 : Int)) /\ V.cell? ⟨g4, kk * 4 + 2, none⟩ = some (.int .u64 (z4 : Int)) /\ V.cell? ⟨g4, kk * 4 + 3, none⟩ = some (.int .i64 f4)) /\ g3 < V.heap.size /\ g4 < V.heap.size) (set4 (set4 wc.drew g3 (ii * 4) ⟨m2, x2, z2, f2⟩) g4 (ii * 4) ⟨m4, x4, z4, f4⟩)) := hide (by
          obtain ⟨-, k1, k2, -⟩ := HV9.out.hd.cells
          obtain ⟨c0, c1, c2, c3⟩ := (HG3.out _ _ _ HV9.out.s)
          obtain ⟨d0, d1, d2, d3⟩ := (HG4.out _ _ _ HV9.out.d)
          exact ⟨⟨k1, k2⟩, ⟨c0, c1, c2, c3⟩, ⟨d0, d1, d2, d3⟩, HV9.out.s.lt, HV9.out.d.lt⟩)
        obtain ⟨⟨a0, a1, a2, a3⟩, -⟩ := HG1.out _ _ HD.out.s
        obtain ⟨⟨p0, p1, p2, p3⟩, -⟩ := HG2.out _ _ HVX.out.d
        have fz1 := HD.out.s.fz
        have qf := HVX.out.d.fz
        have k1 := HD.out.s.lt
        have ql := HVX.out.d.lt
        simp only at a0 a1 a2 a3 p0 p1 p2 p3
        have HO9 := hide ((HO8.out.drew.off (k := g3) (o := ii * 4) (q := ⟨m2, x2, z2, f2⟩) HGV.out.1 HGV.out.2.1 HGV.out.2.2.1).off (k := g4) (o := ii * 4) (q := ⟨m4, x4, z4, f4⟩) HGV.out.2.2.2.1 HGV.out.2.2.2.2.1 HGV.out.2.2.2.2.2.1)
        have HB9 := hide (below_set4 (o := ii * 4) (p := ⟨m4, x4, z4, f4⟩) (below_set4 (o := ii * 4) (p := ⟨m2, x2, z2, f2⟩) HB8.out.drew (show w.heap.size <= g3 by have := HGV.out.2.2.2.2.2.2.1; omega)) (show w.heap.size <= g4 by have := HGV.out.2.2.2.2.2.2.2; omega))
        have HA9 := hide (((HA8.out.below (Below.refl _ _).drew).off (k := g3) (o := ii * 4) (p := ⟨m2, x2, z2, f2⟩) (by have := HGV.out.2.2.2.2.2.2.1; omega)).off (k := g4) (o := ii * 4) (p := ⟨m4, x4, z4, f4⟩) (by have := HGV.out.2.2.2.2.2.2.2; omega))
        unfold set4 at p0 p1 p2 p3 qf ql HS1 HS2
        simp only at p0 p1 p2 p3 qf ql HS0 HS1 HS2
        clear HVX HD HV8 HO8 HB8 HA8 HPA8 HPB8 HPAx HPBx HPAd HPBd
        refine wp_region_held_drew (S := fun V => (V.cell? ⟨gv, 1, none⟩ = some (.slice (some ⟨g3, 0, none⟩) N ca2) /\ V.cell? ⟨gv, 2, none⟩ = some (.slice (some ⟨g4, 0, none⟩) N cb2)) /\ (V.cell? ⟨g3, kk * 4, none⟩ = some (.int .i64 m2) /\ V.cell? ⟨g3, kk * 4 + 1, none⟩ = some (.int .u64 (x2 : Int)) /\ V.cell? ⟨g3, kk * 4 + 2, none⟩ = some (.int .u64 (z2 : Int)) /\ V.cell? ⟨g3, kk * 4 + 3, none⟩ = some (.int .i64 f2)) /\ (V.cell? ⟨g4, kk * 4, none⟩ = some (.int .i64 m4) /\ V.cell? ⟨g4, kk * 4 + 1, none⟩ = some (.int .u64 (x4 : Int)) /\ V.cell? ⟨g4, kk * 4 + 2, none⟩ = some (.int .u64 (z4 : Int)) /\ V.cell? ⟨g4, kk * 4 + 3, none⟩ = some (.int .i64 f4)) /\ g3 < V.heap.size /\ g4 < V.heap.size) (by kernel_rfl) HS0.out (fun hHeld => ?_)
        generalize wc.drew = vz at *
        refine take_to15 (i := 0) (d := 103) (v := ?_) rfl rfl (by kernel_rfl) (by kernel_rfl) (by kernel_rfl) (fun _ _ _ h => h) (Or.inl ⟨by rfl, ?_⟩) (by assumption) ?_
        rotate_left 1
        . intro W hSw
          obtain ⟨⟨s1, s2⟩, ⟨t0, t1, t2, t3⟩, ⟨u0, u1, u2, u3⟩, l1, l2⟩ := hSw
          go_simp
          with_reducible rfl
        simp only [Act.put, List.setIfInBounds_toArray, List.set_cons_zero, List.set_cons_succ]
        refine take_to15 (i := 1) (d := 104) (v := ?_) rfl rfl (by kernel_rfl) (by kernel_rfl) (by kernel_rfl) (fun _ _ _ h => h) (Or.inl ⟨by rfl, ?_⟩) (by assumption) ?_
        rotate_left 1
        . intro W hSw
          obtain ⟨⟨s1, s2⟩, ⟨t0, t1, t2, t3⟩, ⟨u0, u1, u2, u3⟩, l1, l2⟩ := hSw
          go_simp
          with_reducible rfl
        simp only [Act.put, List.setIfInBounds_toArray, List.set_cons_zero, List.set_cons_succ]
        refine take_to15 (i := 2) (d := 105) (v := ?_) rfl rfl (by kernel_rfl) (by kernel_rfl) (by kernel_rfl) (fun _ _ _ h => h) (Or.inl ⟨by rfl, ?_⟩) (by assumption) ?_
        rotate_left 1
        . intro W hSw
          obtain ⟨⟨s1, s2⟩, ⟨t0, t1, t2, t3⟩, ⟨u0, u1, u2, u3⟩, l1, l2⟩ := hSw
          go_simp
          with_reducible rfl
        simp only [Act.put, List.setIfInBounds_toArray, List.set_cons_zero, List.set_cons_succ]
        refine take_to15 (i := 3) (d := 106) (v := ?_) rfl rfl (by kernel_rfl) (by kernel_rfl) (by kernel_rfl) (fun _ _ _ h => h) (Or.inl ⟨by rfl, ?_⟩) (by assumption) ?_
        rotate_left 1
        . intro W hSw
          obtain ⟨⟨s1, s2⟩, ⟨t0, t1, t2, t3⟩, ⟨u0, u1, u2, u3⟩, l1, l2⟩ := hSw
          go_simp
          with_reducible rfl
        simp only [Act.put, List.setIfInBounds_toArray, List.set_cons_zero, List.set_cons_succ]
        refine take_to15 (i := 4) (d := 107) (v := ?_) rfl rfl (by kernel_rfl) (by kernel_rfl) (by kernel_rfl) (fun _ _ _ h => h) (Or.inl ⟨by rfl, ?_⟩) (by assumption) ?_
        rotate_left 1
        . intro W hSw
          obtain ⟨⟨s1, s2⟩, ⟨t0, t1, t2, t3⟩, ⟨u0, u1, u2, u3⟩, l1, l2⟩ := hSw
          go_simp
          with_reducible rfl
        simp only [Act.put, List.setIfInBounds_toArray, List.set_cons_zero, List.set_cons_succ]
        refine take_to15 (i := 5) (d := 108) (v := ?_) rfl rfl (by kernel_rfl) (by kernel_rfl) (by kernel_rfl) (fun _ _ _ h => h) (Or.inl ⟨by rfl, ?_⟩) (by assumption) ?_
        rotate_left 1
        . intro W hSw
          obtain ⟨⟨s1, s2⟩, ⟨t0, t1, t2, t3⟩, ⟨u0, u1, u2, u3⟩, l1, l2⟩ := hSw
          go_simp
          with_reducible rfl
        simp only [Act.put, List.setIfInBounds_toArray, List.set_cons_zero, List.set_cons_succ]
        refine take_to15 (i := 6) (d := 109) (v := ?_) rfl rfl (by kernel_rfl) (by kernel_rfl) (by kernel_rfl) (fun _ _ _ h => h) (Or.inl ⟨by rfl, ?_⟩) (by assumption) ?_
        rotate_left 1
        . intro W hSw
          obtain ⟨⟨s1, s2⟩, ⟨t0, t1, t2, t3⟩, ⟨u0, u1, u2, u3⟩, l1, l2⟩ := hSw
          go_simp
          with_reducible rfl
        simp only [Act.put, List.setIfInBounds_toArray, List.set_cons_zero, List.set_cons_succ]
        refine take_to15 (i := 7) (d := 110) (v := ?_) rfl rfl (by kernel_rfl) (by kernel_rfl) (by kernel_rfl) (fun _ _ _ h => h) (Or.inl ⟨by rfl, ?_⟩) (by assumption) ?_
        rotate_left 1
        . intro W hSw
          obtain ⟨⟨s1, s2⟩, ⟨t0, t1, t2, t3⟩, ⟨u0, u1, u2, u3⟩, l1, l2⟩ := hSw
          go_simp
          with_reducible rfl
        simp only [Act.put, List.setIfInBounds_toArray, List.set_cons_zero, List.set_cons_succ]
        refine take_to15 (i := 8) (d := 111) (v := ?_) rfl rfl (by kernel_rfl) (by kernel_rfl) (by kernel_rfl) (fun _ _ _ h => h) (Or.inl ⟨by rfl, ?_⟩) (by assumption) ?_
        rotate_left 1
        . intro W hSw
          obtain ⟨⟨s1, s2⟩, ⟨t0, t1, t2, t3⟩, ⟨u0, u1, u2, u3⟩, l1, l2⟩ := hSw
          go_simp
          with_reducible rfl
        simp only [Act.put, List.setIfInBounds_toArray, List.set_cons_zero, List.set_cons_succ]
        refine take_to15 (i := 9) (d := 112) (v := ?_) rfl rfl (by kernel_rfl) (by kernel_rfl) (by kernel_rfl) (fun _ _ _ h => h) (Or.inl ⟨by rfl, ?_⟩) (by assumption) ?_
        rotate_left 1
        . intro W hSw
          obtain ⟨⟨s1, s2⟩, ⟨t0, t1, t2, t3⟩, ⟨u0, u1, u2, u3⟩, l1, l2⟩ := hSw
          go_simp
          with_reducible rfl
        simp only [Act.put, List.setIfInBounds_toArray, List.set_cons_zero, List.set_cons_succ]
        refine take_to15 (i := 10) (d := 113) (v := ?_) rfl rfl (by kernel_rfl) (by kernel_rfl) (by kernel_rfl) (fun _ _ _ h => h) (Or.inl ⟨by rfl, ?_⟩) (by assumption) ?_
        rotate_left 1
        . intro W hSw
          obtain ⟨⟨s1, s2⟩, ⟨t0, t1, t2, t3⟩, ⟨u0, u1, u2, u3⟩, l1, l2⟩ := hSw
          go_simp
          with_reducible rfl
        simp only [Act.put, List.setIfInBounds_toArray, List.set_cons_zero, List.set_cons_succ]
        refine take_to15 (i := 11) (d := 114) (v := ?_) rfl rfl (by kernel_rfl) (by kernel_rfl) (by kernel_rfl) (fun _ _ _ h => h) (Or.inl ⟨by rfl, ?_⟩) (by assumption) ?_
        rotate_left 1
        . intro W hSw
          obtain ⟨⟨s1, s2⟩, ⟨t0, t1, t2, t3⟩, ⟨u0, u1, u2, u3⟩, l1, l2⟩ := hSw
          go_simp
          with_reducible rfl
        simp only [Act.put, List.setIfInBounds_toArray, List.set_cons_zero, List.set_cons_succ]
        refine take_to15 (i := 12) (d := 115) (v := ?_) rfl rfl (by kernel_rfl) (by kernel_rfl) (by kernel_rfl) (fun _ _ _ h => h) (Or.inl ⟨by rfl, ?_⟩) (by assumption) ?_
        rotate_left 1
        . intro W hSw
          obtain ⟨⟨s1, s2⟩, ⟨t0, t1, t2, t3⟩, ⟨u0, u1, u2, u3⟩, l1, l2⟩ := hSw
          go_simp
          with_reducible rfl
        simp only [Act.put, List.setIfInBounds_toArray, List.set_cons_zero, List.set_cons_succ]
        refine take_to15 (i := 13) (d := 116) (v := ?_) rfl rfl (by kernel_rfl) (by kernel_rfl) (by kernel_rfl) (fun _ _ _ h => h) (Or.inl ⟨by rfl, ?_⟩) (by assumption) ?_
        rotate_left 1
        . intro W hSw
          obtain ⟨⟨s1, s2⟩, ⟨t0, t1, t2, t3⟩, ⟨u0, u1, u2, u3⟩, l1, l2⟩ := hSw
          go_simp
          with_reducible rfl
        simp only [Act.put, List.setIfInBounds_toArray, List.set_cons_zero, List.set_cons_succ]
        refine take_to15 (i := 14) (d := 117) (v := ?_) rfl rfl (by kernel_rfl) (by kernel_rfl) (by kernel_rfl) (fun _ _ _ h => h) (Or.inl ⟨by rfl, ?_⟩) (by assumption) ?_
        rotate_left 1
        . intro W hSw
          obtain ⟨⟨s1, s2⟩, ⟨t0, t1, t2, t3⟩, ⟨u0, u1, u2, u3⟩, l1, l2⟩ := hSw
          go_simp
          with_reducible rfl
        simp only [Act.put, List.setIfInBounds_toArray, List.set_cons_zero, List.set_cons_succ]
        refine take_to15 (i := 15) (d := 118) (v := ?_) rfl rfl (by kernel_rfl) (by kernel_rfl) (by kernel_rfl) (fun _ _ _ h => h) (Or.inl ⟨by rfl, ?_⟩) (by assumption) ?_
        rotate_left 1
        . intro W hSw
          obtain ⟨⟨s1, s2⟩, ⟨t0, t1, t2, t3⟩, ⟨u0, u1, u2, u3⟩, l1, l2⟩ := hSw
          go_simp
          with_reducible rfl
        simp only [Act.put, List.setIfInBounds_toArray, List.set_cons_zero, List.set_cons_succ]
        refine take_to15 (i := 16) (d := 119) (v := ?_) rfl rfl (by kernel_rfl) (by kernel_rfl) (by kernel_rfl) (fun _ _ _ h => h) (Or.inl ⟨by rfl, ?_⟩) (by assumption) ?_
        rotate_left 1
        . intro W hSw
          obtain ⟨⟨s1, s2⟩, ⟨t0, t1, t2, t3⟩, ⟨u0, u1, u2, u3⟩, l1, l2⟩ := hSw
          go_simp
          with_reducible rfl
        simp only [Act.put, List.setIfInBounds_toArray, List.set_cons_zero, List.set_cons_succ]
        clear hHeld
        refine wpAnyH_ready (rs := [17]) (by kernel_rfl) (by simp) ?_
        refine AllReadyH.cons (o := zg17) rfl (fun K hK => ?_) AllReadyH.nil
        unfold zg17
        go_simp
        refine hK.out _ _ HS1.out (fun hHeld => ?_)
        clear hK K
        refine take_to15 (i := 18) (d := 120) (v := ?_) rfl rfl (by kernel_rfl) (by kernel_rfl) (by kernel_rfl) (fun _ _ _ h => h) (Or.inl ⟨by rfl, ?_⟩) (by assumption) ?_
        rotate_left 1
        . intro W hSw
          obtain ⟨⟨s1, s2⟩, ⟨t0, t1, t2, t3⟩, ⟨u0, u1, u2, u3⟩, l1, l2⟩ := hSw
          go_simp
          with_reducible rfl
        simp only [Act.put, List.setIfInBounds_toArray, List.set_cons_zero, List.set_cons_succ]
        clear hHeld
        refine wpAnyH_ready (rs := [19]) (by kernel_rfl) (by simp) ?_
        refine AllReadyH.cons (o := zg19) rfl (fun K hK => ?_) AllReadyH.nil
        unfold zg19
        go_simp
        refine hK.out _ _ HS2.out (fun hHeld => ?_)
        clear hK K hHeld
        refine wpAnyH_done (by kernel_rfl) ?_ _
        change Exit.then _ _ _ _ (set4 (set4 vz g3 (ii * 4) ⟨m2, x2, z2, f2⟩) g4 (ii * 4) ⟨m4, x4, z4, f4⟩)
        clear a0 a1 a2 a3 p0 p1 p2 p3 fz1 qf k1 ql HS0 HS1 HS2
        generalize (set4 (set4 vz g3 (ii * 4) ⟨m2, x2, z2, f2⟩) g4 (ii * 4) ⟨m4, x4, z4, f4⟩) = W9 at *
        go_upto_region 17 with fail
        skip
        have HD := hide HV9.out.drew
        have HVX := hide (HD.out.setS kk ⟨m1, x1, z1, f1⟩)
        have HV10 := hide (HVX.out.setD kk ⟨m3, x3, z3, f3⟩)
        have HPAd := hide (At4.below HPA9.out (Below.refl _ _).drew)
        have HPBd := hide (At4.below HPB9.out (Below.refl _ _).drew)
        have HPAx := hide (At4.off4 HPAd.out (k := g3) (o := kk * 4) (p := ⟨m1, x1, z1, f1⟩) HGA.out.1)
        have HPBx := hide (At4.off4 HPBd.out (k := g3) (o := kk * 4) (p := ⟨m1, x1, z1, f1⟩) HGA.out.2.2.1)
        have HPA10 := hide (At4.off4 HPAx.out (k := g4) (o := kk * 4) (p := ⟨m3, x3, z3, f3⟩) HGA.out.2.1)
        have HPB10 := hide (At4.off4 HPBx.out (k := g4) (o := kk * 4) (p := ⟨m3, x3, z3, f3⟩) HGA.out.2.2.2)
        have HS0 : Hid ((fun V => (V.cell? ⟨gv, 1, none⟩ = some (.slice (some ⟨g3, 0, none⟩) N ca2) /\ V.cell? ⟨gv, 2, none⟩ = some (.slice (some ⟨g4, 0, none⟩) N cb2)) /\ (V.cell? ⟨ga, 0, none⟩ = some (.int .i64 m1) /\ V.cell? ⟨ga, 1, none⟩ = some (.int .u64 (x1 : Int)) /\ V.cell? ⟨ga, 2, none⟩ = some (.int .u64 (z1 : Int)) /\ V.cell? ⟨ga, 3, none⟩ = some (.int .i64 f1)) /\ (V.cell? ⟨gb, 0, none⟩ = some (.int .i64 m3) /\ V.cell? ⟨gb, 1, none⟩ = some (.int .u64 (x3 : Int)) /\ V.cell? ⟨gb, 2, none⟩ = some (.int .u64 (z3 : Int)) /\ V.cell? ⟨gb, 3, none⟩ = some (.int .i64 f3)) /\ g3 < V.heap.size /\ g4 < V.heap.size) W9.drew) := hide (by
          obtain ⟨-, k1, k2, -⟩ := HD.out.hd.cells
          obtain ⟨c0, c1, c2, c3, -⟩ := HPAd.out.cells
          obtain ⟨d0, d1, d2, d3, -⟩ := HPBd.out.cells
          exact ⟨⟨k1, k2⟩, ⟨c0, c1, c2, c3⟩, ⟨d0, d1, d2, d3⟩, HD.out.s.lt, HD.out.d.lt⟩)
        have HS1 : Hid ((fun V => (V.cell? ⟨gv, 1, none⟩ = some (.slice (some ⟨g3, 0, none⟩) N ca2) /\ V.cell? ⟨gv, 2, none⟩ = some (.slice (some ⟨g4, 0, none⟩) N cb2)) /\ (V.cell? ⟨ga, 0, none⟩ = some (.int .i64 m1) /\ V.cell? ⟨ga, 1, none⟩ = some (.int .u64 (x1 : Int)) /\ V.cell? ⟨ga, 2, none⟩ = some (.int .u64 (z1 : Int)) /\ V.cell? ⟨ga, 3, none⟩ = some (.int .i64 f1)) /\ (V.cell? ⟨gb, 0, none⟩ = some (.int .i64 m3) /\ V.cell? ⟨gb, 1, none⟩ = some (.int .u64 (x3 : Int)) /\ V.cell? ⟨gb, 2, none⟩ = some (.int .u64 (z3 : Int)) /\ V.cell? ⟨gb, 3, none⟩ = some (.int .i64 f3)) /\ g3 < V.heap.size /\ g4 < V.heap.size) (set4 W9.drew g3 (kk * 4) ⟨m1, x1, z1, f1⟩)) := hide (by
          obtain ⟨-, k1, k2, -⟩ := HVX.out.hd.cells
          obtain ⟨c0, c1, c2, c3, -⟩ := HPAx.out.cells
          obtain ⟨d0, d1, d2, d3, -⟩ := HPBx.out.cells
          exact ⟨⟨k1, k2⟩, ⟨c0, c1, c2, c3⟩, ⟨d0, d1, d2, d3⟩, HVX.out.s.lt, HVX.out.d.lt⟩)
        have HS2 : Hid ((fun V => (V.cell? ⟨gv, 1, none⟩ = some (.slice (some ⟨g3, 0, none⟩) N ca2) /\ V.cell? ⟨gv, 2, none⟩ = some (.slice (some ⟨g4, 0, none⟩) N cb2)) /\ (V.cell? ⟨ga, 0, none⟩ = some (.int .i64 m1) /\ V.cell? ⟨ga, 1, none⟩ = some (.int .u64 (x1 : Int)) /\ V.cell? ⟨ga, 2, none⟩ = some (.int .u64 (z1 : Int)) /\ V.cell? ⟨ga, 3, none⟩ = some (.int .i64 f1)) /\ (V.cell? ⟨gb, 0, none⟩ = some (.int .i64 m3) /\ V.cell? ⟨gb, 1, none⟩ = some (.int .u64 (x3 : Int)) /\ V.cell? ⟨gb, 2, none⟩ = some (.int .u64 (z3 : Int)) /\ V.cell? ⟨gb, 3, none⟩ = some (.int .i64 f3)) /\ g3 < V.heap.size /\ g4 < V.heap.size) (set4 (set4 W9.drew g3 (kk * 4) ⟨m1, x1, z1, f1⟩) g4 (kk * 4) ⟨m3, x3, z3, f3⟩)) := hide (by
          obtain ⟨-, k1, k2, -⟩ := HV10.out.hd.cells
          obtain ⟨c0, c1, c2, c3, -⟩ := HPA10.out.cells
          obtain ⟨d0, d1, d2, d3, -⟩ := HPB10.out.cells
          exact ⟨⟨k1, k2⟩, ⟨c0, c1, c2, c3⟩, ⟨d0, d1, d2, d3⟩, HV10.out.s.lt, HV10.out.d.lt⟩)
        obtain ⟨a0, a1, a2, a3⟩ := HG3.out _ _ _ HD.out.s
        obtain ⟨p0, p1, p2, p3⟩ := HG4.out _ _ _ HVX.out.d
        have fz1 := HD.out.s.fz
        have qf := HVX.out.d.fz
        have k1 := HD.out.s.lt
        have ql := HVX.out.d.lt
        simp only at a0 a1 a2 a3 p0 p1 p2 p3
        have HO10 := hide ((HO9.out.drew.off (k := g3) (o := kk * 4) (q := ⟨m1, x1, z1, f1⟩) HGV.out.1 HGV.out.2.1 HGV.out.2.2.1).off (k := g4) (o := kk * 4) (q := ⟨m3, x3, z3, f3⟩) HGV.out.2.2.2.1 HGV.out.2.2.2.2.1 HGV.out.2.2.2.2.2.1)
        have HB10 := hide (below_set4 (o := kk * 4) (p := ⟨m3, x3, z3, f3⟩) (below_set4 (o := kk * 4) (p := ⟨m1, x1, z1, f1⟩) HB9.out.drew (show w.heap.size <= g3 by have := HGV.out.2.2.2.2.2.2.1; omega)) (show w.heap.size <= g4 by have := HGV.out.2.2.2.2.2.2.2; omega))
        have HA10 := hide (((HA9.out.below (Below.refl _ _).drew).off (k := g3) (o := kk * 4) (p := ⟨m1, x1, z1, f1⟩) (by have := HGV.out.2.2.2.2.2.2.1; omega)).off (k := g4) (o := kk * 4) (p := ⟨m3, x3, z3, f3⟩) (by have := HGV.out.2.2.2.2.2.2.2; omega))
        unfold set4 at p0 p1 p2 p3 qf ql HS1 HS2
        simp only at p0 p1 p2 p3 qf ql HS0 HS1 HS2
        clear HVX HD HV9 HO9 HB9 HA9 HPA9 HPB9 HPAx HPBx HPAd HPBd
        refine wp_region_held_drew (S := fun V => (V.cell? ⟨gv, 1, none⟩ = some (.slice (some ⟨g3, 0, none⟩) N ca2) /\ V.cell? ⟨gv, 2, none⟩ = some (.slice (some ⟨g4, 0, none⟩) N cb2)) /\ (V.cell? ⟨ga, 0, none⟩ = some (.int .i64 m1) /\ V.cell? ⟨ga, 1, none⟩ = some (.int .u64 (x1 : Int)) /\ V.cell? ⟨ga, 2, none⟩ = some (.int .u64 (z1 : Int)) /\ V.cell? ⟨ga, 3, none⟩ = some (.int .i64 f1)) /\ (V.cell? ⟨gb, 0, none⟩ = some (.int .i64 m3) /\ V.cell? ⟨gb, 1, none⟩ = some (.int .u64 (x3 : Int)) /\ V.cell? ⟨gb, 2, none⟩ = some (.int .u64 (z3 : Int)) /\ V.cell? ⟨gb, 3, none⟩ = some (.int .i64 f3)) /\ g3 < V.heap.size /\ g4 < V.heap.size) (by kernel_rfl) HS0.out (fun hHeld => ?_)
        generalize W9.drew = vz at *
        refine take_to15 (i := 0) (d := 121) (v := ?_) rfl rfl (by kernel_rfl) (by kernel_rfl) (by kernel_rfl) (fun _ _ _ h => h) (Or.inl ⟨by rfl, ?_⟩) (by assumption) ?_
        rotate_left 1
        . intro W hSw
          obtain ⟨⟨s1, s2⟩, ⟨t0, t1, t2, t3⟩, ⟨u0, u1, u2, u3⟩, l1, l2⟩ := hSw
          go_simp
          with_reducible rfl
        simp only [Act.put, List.setIfInBounds_toArray, List.set_cons_zero, List.set_cons_succ]
        refine take_to15 (i := 1) (d := 122) (v := ?_) rfl rfl (by kernel_rfl) (by kernel_rfl) (by kernel_rfl) (fun _ _ _ h => h) (Or.inl ⟨by rfl, ?_⟩) (by assumption) ?_
        rotate_left 1
        . intro W hSw
          obtain ⟨⟨s1, s2⟩, ⟨t0, t1, t2, t3⟩, ⟨u0, u1, u2, u3⟩, l1, l2⟩ := hSw
          go_simp
          with_reducible rfl
        simp only [Act.put, List.setIfInBounds_toArray, List.set_cons_zero, List.set_cons_succ]
        refine take_to15 (i := 2) (d := 123) (v := ?_) rfl rfl (by kernel_rfl) (by kernel_rfl) (by kernel_rfl) (fun _ _ _ h => h) (Or.inl ⟨by rfl, ?_⟩) (by assumption) ?_
        rotate_left 1
        . intro W hSw
          obtain ⟨⟨s1, s2⟩, ⟨t0, t1, t2, t3⟩, ⟨u0, u1, u2, u3⟩, l1, l2⟩ := hSw
          go_simp
          with_reducible rfl
        simp only [Act.put, List.setIfInBounds_toArray, List.set_cons_zero, List.set_cons_succ]
        refine take_to15 (i := 3) (d := 124) (v := ?_) rfl rfl (by kernel_rfl) (by kernel_rfl) (by kernel_rfl) (fun _ _ _ h => h) (Or.inl ⟨by rfl, ?_⟩) (by assumption) ?_
        rotate_left 1
        . intro W hSw
          obtain ⟨⟨s1, s2⟩, ⟨t0, t1, t2, t3⟩, ⟨u0, u1, u2, u3⟩, l1, l2⟩ := hSw
          go_simp
          with_reducible rfl
        simp only [Act.put, List.setIfInBounds_toArray, List.set_cons_zero, List.set_cons_succ]
        refine take_to15 (i := 4) (d := 125) (v := ?_) rfl rfl (by kernel_rfl) (by kernel_rfl) (by kernel_rfl) (fun _ _ _ h => h) (Or.inl ⟨by rfl, ?_⟩) (by assumption) ?_
        rotate_left 1
        . intro W hSw
          obtain ⟨⟨s1, s2⟩, ⟨t0, t1, t2, t3⟩, ⟨u0, u1, u2, u3⟩, l1, l2⟩ := hSw
          go_simp
          with_reducible rfl
        simp only [Act.put, List.setIfInBounds_toArray, List.set_cons_zero, List.set_cons_succ]
        refine take_to15 (i := 5) (d := 126) (v := ?_) rfl rfl (by kernel_rfl) (by kernel_rfl) (by kernel_rfl) (fun _ _ _ h => h) (Or.inl ⟨by rfl, ?_⟩) (by assumption) ?_
        rotate_left 1
        . intro W hSw
          obtain ⟨⟨s1, s2⟩, ⟨t0, t1, t2, t3⟩, ⟨u0, u1, u2, u3⟩, l1, l2⟩ := hSw
          go_simp
          with_reducible rfl
        simp only [Act.put, List.setIfInBounds_toArray, List.set_cons_zero, List.set_cons_succ]
        refine take_to15 (i := 6) (d := 127) (v := ?_) rfl rfl (by kernel_rfl) (by kernel_rfl) (by kernel_rfl) (fun _ _ _ h => h) (Or.inl ⟨by rfl, ?_⟩) (by assumption) ?_
        rotate_left 1
        . intro W hSw
          obtain ⟨⟨s1, s2⟩, ⟨t0, t1, t2, t3⟩, ⟨u0, u1, u2, u3⟩, l1, l2⟩ := hSw
          go_simp
          with_reducible rfl
        simp only [Act.put, List.setIfInBounds_toArray, List.set_cons_zero, List.set_cons_succ]
        refine take_to15 (i := 7) (d := 128) (v := ?_) rfl rfl (by kernel_rfl) (by kernel_rfl) (by kernel_rfl) (fun _ _ _ h => h) (Or.inl ⟨by rfl, ?_⟩) (by assumption) ?_
        rotate_left 1
        . intro W hSw
          obtain ⟨⟨s1, s2⟩, ⟨t0, t1, t2, t3⟩, ⟨u0, u1, u2, u3⟩, l1, l2⟩ := hSw
          go_simp
          with_reducible rfl
        simp only [Act.put, List.setIfInBounds_toArray, List.set_cons_zero, List.set_cons_succ]
        refine take_to15 (i := 8) (d := 129) (v := ?_) rfl rfl (by kernel_rfl) (by kernel_rfl) (by kernel_rfl) (fun _ _ _ h => h) (Or.inl ⟨by rfl, ?_⟩) (by assumption) ?_
        rotate_left 1
        . intro W hSw
          obtain ⟨⟨s1, s2⟩, ⟨t0, t1, t2, t3⟩, ⟨u0, u1, u2, u3⟩, l1, l2⟩ := hSw
          go_simp
          with_reducible rfl
        simp only [Act.put, List.setIfInBounds_toArray, List.set_cons_zero, List.set_cons_succ]
        clear hHeld
        refine wpAnyH_ready (rs := [9]) (by kernel_rfl) (by simp) ?_
        refine AllReadyH.cons (o := zh9) rfl (fun K hK => ?_) AllReadyH.nil
        unfold zh9
        go_simp
        refine hK.out _ _ HS1.out (fun hHeld => ?_)
        clear hK K
        refine take_to15 (i := 10) (d := 130) (v := ?_) rfl rfl (by kernel_rfl) (by kernel_rfl) (by kernel_rfl) (fun _ _ _ h => h) (Or.inl ⟨by rfl, ?_⟩) (by assumption) ?_
        rotate_left 1
        . intro W hSw
          obtain ⟨⟨s1, s2⟩, ⟨t0, t1, t2, t3⟩, ⟨u0, u1, u2, u3⟩, l1, l2⟩ := hSw
          go_simp
          with_reducible rfl
        simp only [Act.put, List.setIfInBounds_toArray, List.set_cons_zero, List.set_cons_succ]
        clear hHeld
        refine wpAnyH_ready (rs := [11]) (by kernel_rfl) (by simp) ?_
        refine AllReadyH.cons (o := zh11) rfl (fun K hK => ?_) AllReadyH.nil
        unfold zh11
        go_simp
        refine hK.out _ _ HS2.out (fun hHeld => ?_)
        clear hK K hHeld
        refine wpAnyH_done (by kernel_rfl) ?_ _
        change Exit.then _ _ _ _ (set4 (set4 vz g3 (kk * 4) ⟨m1, x1, z1, f1⟩) g4 (kk * 4) ⟨m3, x3, z3, f3⟩)
        clear a0 a1 a2 a3 p0 p1 p2 p3 fz1 qf k1 ql HS0 HS1 HS2
        generalize (set4 (set4 vz g3 (kk * 4) ⟨m1, x1, z1, f1⟩) g4 (kk * 4) ⟨m3, x3, z3, f3⟩) = W10 at *
        skip
        clear HPA10 HPB10
        obtain ⟨e0, e1, e2, e3⟩ := HO10.out.hd.cells
        go_wp2_with fail
        clear e0 e1 e2 e3
        refine (HCU.out _ _ _ _ _ _ HO10.out).mono ?_
        rintro e v1 ⟨rfl, hb⟩
        have HV11 := hide (HV10.out.keep hb)
        have HO11 := hide (HO10.out.keep hb)
        have HB11 := hide (bkp HB10.out hb)
        have HA11 := hide (HA10.out.below hb)
        clear hb HV10 HO10 HB10 HA10
        obtain ⟨e0, e1, e2, e3⟩ := HV11.out.hd.cells
        go_wp2_with (go_at_call 5; refine (hnum _ _).mono ?_; rintro e wn ⟨rfl, hw⟩; obtain rfl := hw.symm)
        clear e0 e1 e2 e3
        refine (HCV.out _ _ _ _ _ _ HV11.out).mono ?_
        rintro e v2 ⟨rfl, hb⟩
        have HV12 := hide (HV11.out.keep hb)
        have HO12 := hide (HO11.out.keep hb)
        have HB12 := hide (bkp HB11.out hb)
        have HA12 := hide (HA11.out.below hb)
        clear hb HV11 HO11 HB11 HA11
        obtain ⟨e0, e1, e2, e3⟩ := HO12.out.hd.cells
        obtain ⟨y0, y1, y2, y3⟩ := HA12.out.cells
        go_wp2_with (go_at_call 5; refine (hnum _ _).mono ?_; rintro e wn ⟨rfl, hw⟩; obtain rfl := hw.symm)
        clear e0 e1 e2 e3 y0 y1 y2 y3
        refine (HSU.out _ _ _ _ _ _ HB12.out HO12.out).mono ?_
        rintro e v3 ⟨rfl, hb⟩
        have HV13 := hide (HV12.out.keep hb)
        have HO13 := hide (HO12.out.keep hb)
        have HB13 := hide (bkp HB12.out hb)
        have HA13 := hide (HA12.out.below hb)
        clear hb HV12 HO12 HB12 HA12
        obtain ⟨e0, e1, e2, e3⟩ := HV13.out.hd.cells
        obtain ⟨y0, y1, y2, y3⟩ := HA13.out.cells
        go_wp2_with (go_at_call 5; refine (hnum _ _).mono ?_; rintro e wn ⟨rfl, hw⟩; obtain rfl := hw.symm)
        clear e0 e1 e2 e3 y0 y1 y2 y3
        refine (HSV.out _ _ _ _ _ _ HB13.out HV13.out).mono ?_
        rintro e v4 ⟨rfl, hb⟩
        have HV14 := hide (HV13.out.keep hb)
        have HO14 := hide (HO13.out.keep hb)
        have HB14 := hide (bkp HB13.out hb)
        have HA14 := hide (HA13.out.below hb)
        clear hb HV13 HO13 HB13 HA13
        go_wp2_with fail
        refine (HAL.out _ HB14.out).mono ?_
        rintro e v5 ⟨rfl, hb⟩
        have HBZ := hide (bkp HB14.out hb)
        clear hb
        go_wp2_with fail
        go_ret
        exact ⟨rfl, HBZ.out⟩
theorem xTableauCanon (t : TT) (a b : Option Addr) (ca cb : Nat) (i k : Int) (w : World) (hT : Tg w) (h : Th w t a b ca cb) :
    Calls Tryd.prog 3 #[tV t a b ca cb, .int .i64 i, .int .i64 k] w fun e w' => e = .returned (.bool true) /\ Below w.heap.size w w' := by
  by_cases hh : chB t = true /\ 2 <= t.n
  . obtain ⟨N, hN⟩ : ∃ N : Nat, t.n = (N : Int) := ⟨t.n.toNat, by omega⟩
    by_cases e : modI i N = modI k N
    . exact xCanon_eq t a b ca cb i k N w hT h hh.1 hN (by omega) e
    . exact xCanon_ok t a b ca cb i k N w hT h hh.1 hN (by omega) e
  . exact xCanon_no t a b ca cb i k w hT h hh
end Go.Proofs.YtaggifpnamjghaaDoor.Tbl
