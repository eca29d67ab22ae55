import Derived.Test.YtpehekonjdneaaaDoorK5b5634e8
set_option maxRecDepth 100000
set_option maxHeartbeats 8000000
namespace Go.Proofs.YtpehekonjdneaaaDoor.Tbl
open Go.RowKit Go.Shelf Go.Proofs.YtpehekonjdneaaaDoor.Pau Go.Proofs.YtpehekonjdneaaaDoor.Gt
theorem Tell.below {D : P -> Prop} {w V : World} {fv : Value} {T : P -> Bool} (h : Tell D w fv T) (hb : Below w.heap.size w V) : Tell D V fv T := by
  obtain ⟨f, cap, e, he, h⟩ := h
  exact ⟨f, cap, e, he, fun U hU p hp => h U (bkp hb hU) p hp⟩
def tnB (p : P) : P -> Bool := fun s => !cmB s p
theorem tell_turn {V : World} {g : Nat} {q : P} (hq : Wd q) (h : At4 V g (.int .i64 q.n) (.int .u64 (q.x : Int)) (.int .u64 (q.z : Int)) (.int .i64 q.ph)) : Tell Wd V (.func (.func 63) #[] #[.pointer (some ⟨g, 0, none⟩)]) (tnB q) := ⟨63, _, rfl, eTurn1, fun U hU p hp => tTurn1 p q hp hq g U (h.below hU)⟩
theorem tTurning2 (q : P) (w : World) :
    Calls Tryd.prog 52 #[pV q] w fun e w' => e = .returned (.func (.func 63) #[] #[.pointer (some ⟨w.heap.size, 0, none⟩)]) /\ At4 w' w.heap.size (.int .i64 q.n) (.int .u64 (q.x : Int)) (.int .u64 (q.z : Int)) (.int .i64 q.ph) /\ Below w.heap.size w w' := by
  have HB := hide (bnew w (.cells #[.int .i64 q.n, .int .u64 (q.x : Int), .int .u64 (q.z : Int), .int .i64 q.ph] 49))
  have HA := hide (At4.new w (.int .i64 q.n) (.int .u64 (q.x : Int)) (.int .u64 (q.z : Int)) (.int .i64 q.ph))
  obtain ⟨n, x, z, ph⟩ := q
  unfold pV
  simp only at *
  go_enter Tryd.func52, Tryd.ntmps52
  go_wp2_with fail
  go_ret
  exact ⟨rfl, HA.out, HB.out⟩
def lsI (t : TT) (p : P) : Nat := t.s.findIdx (tnB p)
def fcT (t : TT) (p : P) : TT := ⟨t.n, (mlL t.s (t.s.getD (lsI t p) oP) (lsI t p) (tnB p)).set (lsI t p) p, (mlL t.d (t.s.getD (lsI t p) oP) (lsI t p) (tnB p)).set (lsI t p) (t.s.getD (lsI t p) oP)⟩
def zrT : TT := ⟨0, [], []⟩
def frR (t : TT) (p : P) : TT × Int × Int := if memI t p = 1 then (t, 0, 0) else if memI t p = -1 then (zrT, 0, 142) else (fcT t p, 1, 0)
theorem At3.fz {w : World} {g : Nat} {a b c : Value} (h : At3 w g a b c) (j : Nat) : w.frozen? ⟨g, j, none⟩ = false := by unfold At3 at h; simp [World.frozen?, h]
theorem ml_len (l : List P) (q : P) (k : Nat) (T : P -> Bool) : (mlL l q k T).length = l.length := upd_len _ _ _
theorem wl_ml {l : List P} (h : Wl l) {q : P} (hq : Wd q) (k : Nat) (T : P -> Bool) : Wl (mlL l q k T) := by
  intro p hp
  obtain ⟨i, hi⟩ := List.getElem?_of_mem hp
  have hl := (List.getElem?_eq_some_iff.1 hi).1
  rw [ml_len] at hl
  unfold mlL at hi
  rw [upd_at _ _ _ _ hl, if_pos hl] at hi
  cases hi
  unfold mulF
  split
  . exact wd_pd (h.getD hl) hq
  . exact h.getD hl
theorem wl_set {l : List P} (h : Wl l) {q : P} (hq : Wd q) (k : Nat) : Wl (l.set k q) := by
  intro p hp
  rcases List.mem_or_eq_of_mem_set hp with h1 | h1
  . exact h p h1
  . rw [h1]; exact hq
theorem mem_zero {t : TT} {p : P} (h : memI t p = 0) : lsB t p = true := by
  unfold memI at h
  split at h
  . assumption
  . split at h <;> exact absurd h (by decide)
theorem mem_three (t : TT) (p : P) : memI t p = 0 ∨ memI t p = 1 ∨ memI t p = -1 := by
  unfold memI
  split
  . exact .inl rfl
  . split
    . exact .inr (.inl rfl)
    . exact .inr (.inr rfl)
theorem ls_lt {t : TT} {p : P} (h : lsB t p = true) : lsI t p < t.s.length /\ ixF (tnB p) t.s = (lsI t p : Int) := by
  have h' : t.s.any (tnB p) = true := h
  refine ⟨?_, ?_⟩
  . obtain ⟨x, hx, hT⟩ := List.any_eq_true.1 h'
    exact List.findIdx_lt_length_of_exists ⟨x, hx, hT⟩
  . unfold ixF
    rw [if_pos h']
    rfl
theorem results_ctt {P : Program} {fn : Func} {p u v : Tmp} {ty : TypeId} (h : fn.results = #[.cell p ty, .tmp u, .tmp v]) (tmps : Array Value) (w : World) (g : Nat) (t : TypeId) (cs : Array Value) (fr : Nat × Nat) (d : TypeDesc)
    (hp : tmps.getD p undef = .pointer (some ⟨g, 0, none⟩)) (hg : w.heap[g]? = some (.cells cs t fr))
    (hu : P.underlying ty = some d) (hd : (match d with | .struct _ | .array _ _ => true | _ => false) = true) (hi : (P.info? ty).map (·.size) = some cs.size) :
    (results fn tmps).run P w = .ok (.tuple #[.agg cs, tmps.getD u undef, tmps.getD v undef]) w := by
  have hp' : tmps[p]?.getD undef = .pointer (some ⟨g, 0, none⟩) := by simpa using hp
  simp [results, h, hp', asAddr, run_loadVar_row w g t ty cs fr d hg hu hd hi, Result.andThen]
theorem Tn.th {w : World} {B : Nat} {t : TT} {a b : Option Addr} {ca cb : Nat} (h : Tn w B t a b ca cb) (ws : Wl t.s) (wd : Wl t.d) (na : t.s.length <= 1000000000000000) (nb : t.d.length <= 1000000000000000) : Th w t a b ca cb := ⟨h.s.pin, h.d.pin, ws, wd, h.la, h.lb, na, nb⟩
theorem Tn.row {w : World} {B k : Nat} {t : TT} {a b : Option Addr} {ca cb : Nat} (h : Tn w B t a b ca cb) (hk : k < B) (cs : Array Value) : Tn (w.setRow k cs) B t a b ca cb := ⟨h.s.kept (fun g hg _ => setRow_other _ _ _ _ (by omega)), h.d.kept (fun g hg _ => setRow_other _ _ _ _ (by omega)), h.ne, h.la, h.lb⟩
theorem th_zero (w : World) : Th w zrT none none 0 0 := ⟨.inl rfl, .inl rfl, (fun p hp => by cases hp), (fun p hp => by cases hp), Nat.le_refl _, Nat.le_refl _, by decide, by decide⟩
theorem three343 (w : World) (a b c a1 b1 c1 d1 a2 b2 c2 : Value) : At3 (((w.alloc (.cells #[a, b, c] 24)).alloc (.cells #[a1, b1, c1, d1] 49)).alloc (.cells #[a2, b2, c2] 24)) w.heap.size a b c /\ At4 (((w.alloc (.cells #[a, b, c] 24)).alloc (.cells #[a1, b1, c1, d1] 49)).alloc (.cells #[a2, b2, c2] 24)) (w.heap.size + 1) a1 b1 c1 d1 /\ At3 (((w.alloc (.cells #[a, b, c] 24)).alloc (.cells #[a1, b1, c1, d1] 49)).alloc (.cells #[a2, b2, c2] 24)) (w.heap.size + 1 + 1) a2 b2 c2 := three_new _ _ _ _
theorem fr_one {t : TT} {p : P} (h : memI t p = 1) : frR t p = (t, 0, 0) := by unfold frR; rw [if_pos h]
theorem fr_neg {t : TT} {p : P} (h : memI t p = -1) : frR t p = (zrT, 0, 142) := by unfold frR; rw [if_neg (by rw [h]; decide), if_pos h]
theorem fr_two {t : TT} {p : P} (h : memI t p = 0) : frR t p = (fcT t p, 1, 0) := by unfold frR; rw [if_neg (by rw [h]; decide), if_neg (by rw [h]; decide)]
theorem tForce_sure (t : TT) (a b : Option Addr) (ca cb : Nat) (hz : szB t = true) (p : P) (hp : Wd p) (hm : memI t p = 1 ∨ memI t p = -1) (w : World) (h : Th w t a b ca cb) :
    Calls Tryd.prog 35 #[tV t a b ca cb, pV p] w fun e w' => ∃ a' b' ca' cb', e = .returned (.tuple #[tV (frR t p).1 a' b' ca' cb', .int .i64 (frR t p).2.1, .int .i64 (frR t p).2.2]) /\ Th w' (frR t p).1 a' b' ca' cb' /\ Below w.heap.size w w' := by
  obtain ⟨h0, h64, hls, hld⟩ := sz_of hz
  have HC1 := hide (fun W (hb : Below w.heap.size w W) => tMember t a b ca cb hz p hp W (h.below hb))
  have HC2 := hide (fun W (hb : Below w.heap.size w W) => tCopied t a b ca cb (by omega) (by omega) W (h.below hb))
  have HTh : Hid (∀ W B a' b' ca' cb', Tn W B t a' b' ca' cb' -> Th W t a' b' ca' cb') := hide (fun W B a' b' ca' cb' hT => hT.th h.ws h.wd (by omega) (by omega))
  obtain ⟨hA, hP, hZ⟩ := three343 w (.int .i64 t.n) (.slice a t.s.length ca) (.slice b t.d.length cb) (.int .i64 p.n) (.int .u64 (p.x : Int)) (.int .u64 (p.z : Int)) (.int .i64 p.ph) (.int .i64 0) (.slice none 0 0) (.slice none 0 0)
  have HA := hide hA
  have HP := hide hP
  have HZ := hide hZ
  have HB0 := hide (bkp (bkp (bnew w (.cells #[.int .i64 t.n, .slice a t.s.length ca, .slice b t.d.length cb] 24)) (bnew _ (.cells #[.int .i64 p.n, .int .u64 (p.x : Int), .int .u64 (p.z : Int), .int .i64 p.ph] 49))) (bnew _ (.cells #[.int .i64 0, .slice none 0 0, .slice none 0 0] 24)))
  clear hA hP hZ h0 h64 hls hld hz h
  rcases hm with hm | hm
  . rw [fr_one hm]
    rw [hm] at HC1
    unfold tV at HC1 HC2 ⊢
    unfold pV at HC1 ⊢
    clear hm hp
    simp only at *
    generalize t.s.length = ns at *
    generalize t.d.length = nd at *
    generalize t.n = n at *
    go_enter Tryd.func35, Tryd.ntmps35
    go_wp2_with fail
    refine (HC1.out _ HB0.out).mono ?_
    rintro e w1 ⟨rfl, hb1⟩
    have HB1 := hide (bkp HB0.out hb1)
    have HA1 := hide (HA.out.below hb1)
    have HZ1 := hide (HZ.out.below hb1)
    clear hb1 HA HP HZ HB0 HC1
    obtain ⟨x0, x1, x2, x3⟩ := HA1.out.cells
    go_wp2_with fail
    refine (HC2.out _ HB1.out).mono ?_
    rintro e w2 ⟨a', b', ca', cb', rfl, hTn, hb2⟩
    have hR := HZ1.out.below hb2
    have hlt := HZ1.out.lt
    have HX := hide (And.intro (HTh.out _ _ _ _ _ _ (hTn.row hlt #[.int .i64 n, .slice a' ns ca', .slice b' nd cb'])) (bkp HB1.out hb2))
    clear hTn hb2 HA1 HZ1 HC2 x0 x1 x2 x3
    unfold At3 at hR
    go_wp2_with (first
      | (refine wpList_store_row rfl _ _ _ rfl (w.heap.size + 1 + 1) _ rfl rfl _ _ hR (by exact infoT) (by rfl) (all3 _ _ _ _ _ _ _) ?_))
    refine bodyPost_ret (results_ctt rfl _ _ (w.heap.size + 1 + 1) _ _ _ _ rfl (setRow_heap _ _ _ _ _ _ hR) Tryd.underlying24 rfl (by exact infoT)) rfl ?_
    exact ⟨a', b', ca', cb', rfl, HX.out.1, below_setRow HX.out.2 (by omega) _⟩
  . rw [fr_neg hm]
    rw [hm] at HC1
    have HZT := hide th_zero
    unfold tV at HC1 ⊢
    unfold pV at HC1 ⊢
    unfold zrT at HZT ⊢
    clear hm hp HC2 HTh
    simp only [List.length_nil] at *
    generalize t.s.length = ns at *
    generalize t.d.length = nd at *
    generalize t.n = n at *
    go_enter Tryd.func35, Tryd.ntmps35
    go_wp2_with fail
    refine (HC1.out _ HB0.out).mono ?_
    rintro e w1 ⟨rfl, hb1⟩
    have HB1 := hide (bkp HB0.out hb1)
    have hR := HZ.out.below hb1
    clear hb1 HA HP HZ HB0 HC1
    unfold At3 at hR
    go_wp2_with (first
      | (refine wpList_store_row rfl _ _ _ rfl (w.heap.size + 1 + 1) _ rfl rfl _ _ hR (by exact infoT) (by rfl) (all3 _ _ _ _ _ _ _) ?_))
    refine bodyPost_ret (results_ctt rfl _ _ (w.heap.size + 1 + 1) _ _ _ _ rfl (setRow_heap _ _ _ _ _ _ hR) Tryd.underlying24 rfl (by exact infoT)) rfl ?_
    exact ⟨none, none, 0, 0, rfl, HZT.out _, below_setRow HB1.out (by omega) _⟩
structure Fi (w V : World) (g8 gq g1 g2 : Nat) (x y z : Value) (p : P) (l m : List P) : Prop where
  bw : Below w.heap.size w V
  t8 : At3 V g8 x y z
  cl : At4 V gq (.int .i64 p.n) (.int .u64 (p.x : Int)) (.int .u64 (p.z : Int)) (.int .i64 p.ph)
  s : PO V g1 l
  d : PO V g2 m
  pb : At4 V (w.heap.size + 1) (.int .i64 p.n) (.int .u64 (p.x : Int)) (.int .u64 (p.z : Int)) (.int .i64 p.ph)
  rs : At3 V (w.heap.size + 1 + 1) (.int .i64 0) (.slice none 0 0) (.slice none 0 0)
structure Fn (w : World) (g8 gq g1 g2 : Nat) : Prop where
  a8 : w.heap.size + 2 < g8
  a1 : w.heap.size + 2 < g1
  a2 : w.heap.size + 2 < g2
  aq : w.heap.size + 2 < gq
  b1 : g8 ≠ g1
  b2 : g8 ≠ g2
  q1 : gq ≠ g1
  q2 : gq ≠ g2
  n : g1 ≠ g2
theorem Fi.below {w V V' : World} {g8 gq g1 g2 : Nat} {x y z : Value} {p : P} {l m : List P} (h : Fi w V g8 gq g1 g2 x y z p l m) (hb : Below V.heap.size V V') : Fi w V' g8 gq g1 g2 x y z p l m := ⟨bkp h.bw hb, h.t8.below hb, h.cl.below hb, h.s.below hb, h.d.below hb, h.pb.below hb, h.rs.below hb⟩
theorem Fi.mul1 {w V V' : World} {g8 gq g1 g2 : Nat} {x y z : Value} {p : P} {l l' m : List P} (h : Fi w V g8 gq g1 g2 x y z p l m) (hn : Fn w g8 gq g1 g2) (hb : Bx g1 V V') (hp : PO V' g1 l') : Fi w V' g8 gq g1 g2 x y z p l' m := by
  obtain ⟨n1, n2, n3, n4, n5, n6, n7, n8, n9⟩ := hn
  exact ⟨hb.below h.bw (by omega) (Nat.le_refl _), h.t8.bx hb n5, At4.bx h.cl hb n7, hp, h.d.bx hb n9.symm, At4.bx h.pb hb (by omega), h.rs.bx hb (by omega)⟩
theorem Fi.mul2 {w V V' : World} {g8 gq g1 g2 : Nat} {x y z : Value} {p : P} {l m m' : List P} (h : Fi w V g8 gq g1 g2 x y z p l m) (hn : Fn w g8 gq g1 g2) (hb : Bx g2 V V') (hp : PO V' g2 m') : Fi w V' g8 gq g1 g2 x y z p l m' := by
  obtain ⟨n1, n2, n3, n4, n5, n6, n7, n8, n9⟩ := hn
  exact ⟨hb.below h.bw (by omega) (Nat.le_refl _), h.t8.bx hb n6, At4.bx h.cl hb n8, h.s.bx hb n9, hp, At4.bx h.pb hb (by omega), h.rs.bx hb (by omega)⟩
theorem tForce_open (t : TT) (a b : Option Addr) (ca cb : Nat) (hz : szB t = true) (p : P) (hp : Wd p) (hm : memI t p = 0) (w : World) (h : Th w t a b ca cb) :
    Calls Tryd.prog 35 #[tV t a b ca cb, pV p] w fun e w' => ∃ a' b' ca' cb', e = .returned (.tuple #[tV (fcT t p) a' b' ca' cb', .int .i64 1, .int .i64 0]) /\ Th w' (fcT t p) a' b' ca' cb' /\ Below w.heap.size w w' := by
  obtain ⟨h0, h64, hls, hld⟩ := sz_of hz
  obtain ⟨hk, hix⟩ := ls_lt (mem_zero hm)
  have HC1 := hide (fun W (hb : Below w.heap.size w W) => tMember t a b ca cb hz p hp W (h.below hb))
  rw [hm] at HC1
  have HC2 := hide (fun W (hb : Below w.heap.size w W) => tCopied t a b ca cb (by omega) (by omega) W (h.below hb))
  have HC3 := hide (fun W => tTurning2 p W)
  have HTL : Hid (∀ V g, At4 V g (.int .i64 p.n) (.int .u64 (p.x : Int)) (.int .u64 (p.z : Int)) (.int .i64 p.ph) -> Tell Wd V (.func (.func 63) #[] #[.pointer (some ⟨g, 0, none⟩)]) (tnB p)) := hide (fun V g h => tell_turn hp h)
  have HC4 : Hid (∀ W fv g c, PO W g t.s -> Tell Wd W fv (tnB p) -> Calls Tryd.prog 41 #[.slice (some ⟨g, 0, none⟩) t.s.length c, fv] W fun e w' => e = .returned (.int .i64 (lsI t p : Int)) /\ Below W.heap.size W w') := hide (fun W fv g c hO hf => by
    rw [← hix]
    exact tIndexF Wd (tnB p) fv t.s h.ws _ c (by omega) W hO.pin hf)
  have hw := h.ws.getD hk
  have HC5 : Hid (∀ W fv g c, PO W g t.s -> (∀ V, Bx g W V -> Tell Wd V fv (tnB p)) -> Calls Tryd.prog 42 #[.slice (some ⟨g, 0, none⟩) t.s.length c, pV (t.s.getD (lsI t p) oP), .int .i64 (lsI t p : Int), fv] W fun e w' => e = .returned (.tuple #[]) /\ PO w' g (mlL t.s (t.s.getD (lsI t p) oP) (lsI t p) (tnB p)) /\ Bx g W w') := hide (fun W fv g c hO hf => tMultiply Wd (fun _ h => h) (tnB p) fv t.s h.ws _ hw _ g c (by omega) W hO hf)
  have HC6 : Hid (∀ W fv g c, PO W g t.d -> (∀ V, Bx g W V -> Tell Wd V fv (tnB p)) -> Calls Tryd.prog 42 #[.slice (some ⟨g, 0, none⟩) t.d.length c, pV (t.s.getD (lsI t p) oP), .int .i64 (lsI t p : Int), fv] W fun e w' => e = .returned (.tuple #[]) /\ PO w' g (mlL t.d (t.s.getD (lsI t p) oP) (lsI t p) (tnB p)) /\ Bx g W w') := hide (fun W fv g c hO hf => tMultiply Wd (fun _ h => h) (tnB p) fv t.d h.wd _ hw _ g c (by omega) W hO hf)
  have HTH : Hid (∀ W g1 g2 c1 c2, PO W g1 (fcT t p).s -> PO W g2 (fcT t p).d -> t.s.length <= c1 -> t.d.length <= c2 -> Th W (fcT t p) (some ⟨g1, 0, none⟩) (some ⟨g2, 0, none⟩) c1 c2) := hide (fun W g1 g2 c1 c2 h1 h2 h3 h4 => ⟨h1.pin, h2.pin, wl_set (wl_ml h.ws hw _ _) hp _, wl_set (wl_ml h.wd hw _ _) hw _, by show (List.set _ _ _).length <= _; rw [List.length_set, ml_len]; exact h3, by show (List.set _ _ _).length <= _; rw [List.length_set, ml_len]; exact h4, by show (List.set _ _ _).length <= _; rw [List.length_set, ml_len]; omega, by show (List.set _ _ _).length <= _; rw [List.length_set, ml_len]; omega⟩)
  have hls' : (fcT t p).s.length = t.s.length := by show (List.set _ _ _).length = _; rw [List.length_set, ml_len]
  have hld' : (fcT t p).d.length = t.d.length := by show (List.set _ _ _).length = _; rw [List.length_set, ml_len]
  have HPO : Hid (∀ W B a' b' ca' cb', Tn W B t a' b' ca' cb' -> ∃ g1 g2, a' = some ⟨g1, 0, none⟩ /\ b' = some ⟨g2, 0, none⟩ /\ PO W g1 t.s /\ PO W g2 t.d /\ B <= g1 /\ B <= g2 /\ g1 ≠ g2 /\ t.s.length <= ca' /\ t.d.length <= cb') := hide (fun W B a' b' ca' cb' hT => by
    have n1 : t.s ≠ [] := fun e => by rw [e] at hk; simp at hk
    have n2 : t.d ≠ [] := fun e => by rw [e] at hld; simp at hld; omega
    obtain ⟨g1, e1, b1, p1⟩ := hT.s.resolve_left n1
    obtain ⟨g2, e2, b2, p2⟩ := hT.d.resolve_left n2
    exact ⟨g1, g2, e1, e2, p1, p2, b1, b2, (hT.ne.resolve_left n1).resolve_left n2 g1 g2 e1 e2, hT.la, hT.lb⟩)
  have hgs := get_of hk
  have HL1 : Hid (∀ W g, PO W g t.s -> Pc W g (lsI t p * 4) (t.s.getD (lsI t p) oP)) := hide (fun W g h => h.at hgs)
  have hk' : lsI t p < t.d.length := by omega
  unfold tV
  rw [hls', hld']
  have hn' : (fcT t p).n = t.n := rfl
  rw [hn']
  have HS1 : Hid (∀ W g, PO W g (mlL t.s (t.s.getD (lsI t p) oP) (lsI t p) (tnB p)) -> (∃ q, Pc W g (lsI t p * 4) q) /\ PO (set4 W g (lsI t p * 4) p) g (fcT t p).s) := hide (fun W g h => ⟨⟨_, h.at (get_of (by rw [ml_len]; exact hk))⟩, h.set p⟩)
  have HS2 : Hid (∀ W g, PO W g (mlL t.d (t.s.getD (lsI t p) oP) (lsI t p) (tnB p)) -> (∃ q, Pc W g (lsI t p * 4) q) /\ PO (set4 W g (lsI t p * 4) (t.s.getD (lsI t p) oP)) g (fcT t p).d) := hide (fun W g h => ⟨⟨_, h.at (get_of (by rw [ml_len]; exact hk'))⟩, h.set _⟩)
  generalize mlL t.s (t.s.getD (lsI t p) oP) (lsI t p) (tnB p) = M1 at *
  generalize mlL t.d (t.s.getD (lsI t p) oP) (lsI t p) (tnB p) = M2 at *
  generalize fcT t p = F at *
  generalize t.s.getD (lsI t p) oP = old at *
  generalize lsI t p = k at *
  generalize tnB p = T at *
  obtain ⟨hA, hP, hZ⟩ := three343 w (.int .i64 t.n) (.slice a t.s.length ca) (.slice b t.d.length cb) (.int .i64 p.n) (.int .u64 (p.x : Int)) (.int .u64 (p.z : Int)) (.int .i64 p.ph) (.int .i64 0) (.slice none 0 0) (.slice none 0 0)
  have HA := hide hA
  have HP := hide hP
  have HZ := hide hZ
  have HB0 := hide (bkp (bkp (bnew w (.cells #[.int .i64 t.n, .slice a t.s.length ca, .slice b t.d.length cb] 24)) (bnew _ (.cells #[.int .i64 p.n, .int .u64 (p.x : Int), .int .u64 (p.z : Int), .int .i64 p.ph] 49))) (bnew _ (.cells #[.int .i64 0, .slice none 0 0, .slice none 0 0] 24)))
  unfold tV at HC1 HC2
  unfold pV at HC1 HC3 HC5 HC6 ⊢
  obtain ⟨pn, px, pz, pph⟩ := p
  obtain ⟨on, ox, oz, oph⟩ := old
  simp only at *
  have hN64 : t.s.length <= 64 := by omega
  have hD64 : t.d.length <= 64 := by omega
  generalize t.s.length = ns at *
  generalize t.d.length = nd at *
  generalize t.n = n at *
  clear hA hP hZ h0 h64 hls hld hz h hm hp hw hix hgs hls' hld' hn'
  go_enter Tryd.func35, Tryd.ntmps35
  go_wp2_with fail
  refine (HC1.out _ HB0.out).mono ?_
  rintro e w1 ⟨rfl, hb1⟩
  have HB1 := hide (bkp HB0.out hb1)
  have HA1 := hide (HA.out.below hb1)
  have HP1 := hide (HP.out.below hb1)
  have HZ1 := hide (HZ.out.below hb1)
  clear hb1 HA HP HZ HB0 HC1
  obtain ⟨x0, x1, x2, x3⟩ := HA1.out.cells
  obtain ⟨y0, y1, y2, y3, y4⟩ := HP1.out.cells
  go_wp2_with fail
  clear x0 x1 x2 x3 y0 y1 y2 y3 y4
  have HSV : Hid (∀ V, Below w1.heap.size w1 V -> (Below w1.heap.size w1 V /\ V.cell? ⟨w.heap.size, 0, none⟩ = some (.int .i64 n) /\ V.cell? ⟨w.heap.size, 1, none⟩ = some (.slice a ns ca) /\ V.cell? ⟨w.heap.size, 2, none⟩ = some (.slice b nd cb) /\ V.cell? ⟨w.heap.size + 1, 0, none⟩ = some (.int .i64 pn) /\ V.cell? ⟨w.heap.size + 1, 1, none⟩ = some (.int .u64 (px : Int)) /\ V.cell? ⟨w.heap.size + 1, 2, none⟩ = some (.int .u64 (pz : Int)) /\ V.cell? ⟨w.heap.size + 1, 3, none⟩ = some (.int .i64 pph))) := hide (fun V hV => by
    obtain ⟨k0, k1, k2, -⟩ := (HA1.out.below hV).cells
    obtain ⟨l0, l1, l2, l3, -⟩ := (HP1.out.below hV).cells
    exact ⟨hV, k0, k1, k2, l0, l1, l2, l3⟩)
  have HBV : Hid (∀ V, Below w1.heap.size w1 V -> Below w.heap.size w V) := hide (fun V hV => bkp HB1.out hV)
  have HD0 : Hid (Below w1.heap.size w1 w1.drew) := hide (Below.refl _ _).drew
  have HD1 : Hid (∀ o, Below w1.heap.size w1 (w1.alloc o).drew) := hide (fun o => (bnew w1 o).drew)
  go_region_held3 (fun V => Below w1.heap.size w1 V /\ V.cell? ⟨w.heap.size, 0, none⟩ = some (.int .i64 n) /\ V.cell? ⟨w.heap.size, 1, none⟩ = some (.slice a ns ca) /\ V.cell? ⟨w.heap.size, 2, none⟩ = some (.slice b nd cb) /\ V.cell? ⟨w.heap.size + 1, 0, none⟩ = some (.int .i64 pn) /\ V.cell? ⟨w.heap.size + 1, 1, none⟩ = some (.int .u64 (px : Int)) /\ V.cell? ⟨w.heap.size + 1, 2, none⟩ = some (.int .u64 (pz : Int)) /\ V.cell? ⟨w.heap.size + 1, 3, none⟩ = some (.int .i64 pph))
    (first | exact HSV.out _ HD0.out | exact HSV.out _ (HD1.out _) | exact HSV.out _ (by assumption) | exact HSV.out _ (bkp ‹Below w1.heap.size w1 _ /\ _›.1 (bnew _ _)) | exact HSV.out _ (bkp hb4 (bnew _ _)) | exact HSV.out _ (((hb4.setCell (p := ⟨_, 0, none⟩) (Nat.le_refl _) _).setCell (p := ⟨_, 1, none⟩) (Nat.le_refl _) _).setCell (p := ⟨_, 2, none⟩) (Nat.le_refl _) _) | exact HSV.out _ (((hb4.setCell (p := ⟨_, 0, none⟩) hb3.size _).setCell (p := ⟨_, 1, none⟩) hb3.size _).setCell (p := ⟨_, 2, none⟩) hb3.size _))
    (first
      | (go_at_call 52; (with_reducible refine Calls.mono (HC3.out _) ?_); rintro e w3 ⟨rfl, hT3, q3⟩; have hb3 := bkp (‹Below w1.heap.size w1 _ /\ _›.1) q3; first | (have zz3 : At3 w3 w1.heap.size (.int .i64 0) (.slice none 0 0) (.slice none 0 0) := (q3.block w1.heap.size (by simp)).trans (heap_alloc_new w1 _)) | skip)
      | (go_at_call 55; (with_reducible refine Calls.mono (HC2.out _ (HBV.out _ (‹Below w1.heap.size w1 _ /\ _›.1))) ?_); rintro e w4 ⟨a', b', ca', cb', rfl, hTn, q4⟩; have hb4 := bkp (‹Below w1.heap.size w1 _ /\ _›.1) q4; first | (have zz4 := At3.below zz3 q4; obtain ⟨z0, z1, z2, z3⟩ := zz4.cells; have zf := fun j => At3.fz zz4 j) | (have zz4 : At3 w4 w3.heap.size (.int .i64 0) (.slice none 0 0) (.slice none 0 0) := (q4.block w3.heap.size (by simp)).trans (heap_alloc_new w3 _); obtain ⟨z0, z1, z2, z3⟩ := zz4.cells; have zf := fun j => At3.fz zz4 j) | skip))
  all_goals obtain ⟨g1, g2, rfl, rfl, po1, po2, bg1, bg2, hne, hla, hlb⟩ := HPO.out _ _ _ _ _ _ hTn
  . have l1 : w.heap.size + 1 + 1 < w1.heap.size := HZ1.out.lt
    have l2 := hT3.lt
    have l3 := q3.size
    have l4 := q4.size
    have l5 := po1.lt
    have l6 := po2.lt
    try simp only [World.size_alloc] at l2 l3 l4 bg1 bg2
    have l7 : w1.drew.heap.size = w1.heap.size := rfl
    have l8 : (w1.alloc (.cells #[.int .i64 0, .slice none 0 0, .slice none 0 0] 24)).drew.heap.size = w1.heap.size + 1 := World.size_alloc ..
    have HX : Hid (Below w.heap.size w (w4.alloc (.cells #[.int .i64 n, .slice (some ⟨g1, 0, none⟩) ns ca', .slice (some ⟨g2, 0, none⟩) nd cb'] 24)) /\ At3 (w4.alloc (.cells #[.int .i64 n, .slice (some ⟨g1, 0, none⟩) ns ca', .slice (some ⟨g2, 0, none⟩) nd cb'] 24)) w4.heap.size (.int .i64 n) (.slice (some ⟨g1, 0, none⟩) ns ca') (.slice (some ⟨g2, 0, none⟩) nd cb') /\ At4 (w4.alloc (.cells #[.int .i64 n, .slice (some ⟨g1, 0, none⟩) ns ca', .slice (some ⟨g2, 0, none⟩) nd cb'] 24)) w1.heap.size (.int .i64 pn) (.int .u64 (px : Int)) (.int .u64 (pz : Int)) (.int .i64 pph) /\ PO (w4.alloc (.cells #[.int .i64 n, .slice (some ⟨g1, 0, none⟩) ns ca', .slice (some ⟨g2, 0, none⟩) nd cb'] 24)) g1 t.s /\ PO (w4.alloc (.cells #[.int .i64 n, .slice (some ⟨g1, 0, none⟩) ns ca', .slice (some ⟨g2, 0, none⟩) nd cb'] 24)) g2 t.d /\ At4 (w4.alloc (.cells #[.int .i64 n, .slice (some ⟨g1, 0, none⟩) ns ca', .slice (some ⟨g2, 0, none⟩) nd cb'] 24)) (w.heap.size + 1) (.int .i64 pn) (.int .u64 (px : Int)) (.int .u64 (pz : Int)) (.int .i64 pph) /\ At3 (w4.alloc (.cells #[.int .i64 n, .slice (some ⟨g1, 0, none⟩) ns ca', .slice (some ⟨g2, 0, none⟩) nd cb'] 24)) (w.heap.size + 1 + 1) (.int .i64 0) (.slice none 0 0) (.slice none 0 0)) := hide ⟨HBV.out _ (bkp hb4 (bnew _ _)), At3.new _ _ _ _, (hT3.below q4).below (bnew _ _), po1.below (bnew _ _), po2.below (bnew _ _), HP1.out.below (bkp hb4 (bnew _ _)), HZ1.out.below (bkp hb4 (bnew _ _))⟩
    have hN : w.heap.size + 2 < w4.heap.size /\ w.heap.size + 2 < g1 /\ w.heap.size + 2 < g2 /\ w.heap.size + 2 < w1.heap.size /\ w4.heap.size ≠ g1 /\ w4.heap.size ≠ g2 /\ w1.heap.size ≠ g1 /\ w1.heap.size ≠ g2 /\ w1.heap.size ≠ w4.heap.size := by omega
    have HN := hide hN
    have HLA := hide hla
    have HLB := hide hlb
    clear hla hlb hN HSV HBV HD0 HD1 HB1 HA1 HP1 HZ1 hb3 hb4 hT3 q3 q4 hTn po1 po2 bg1 bg2 HPO HC2 HC3 l1 l2 l3 l4 l5 l6 l7 l8
    generalize w4.alloc (.cells #[.int .i64 n, .slice (some ⟨g1, 0, none⟩) ns ca', .slice (some ⟨g2, 0, none⟩) nd cb'] 24) = V at *
    generalize w4.heap.size = g8 at *
    generalize w1.heap.size = gq at *
    obtain ⟨n1, n2, n3, n4, n5, n6, n7, n8, -⟩ := HN.out
    have HFN : Hid (Fn w g8 gq g1 g2) := hide ⟨n1, n2, n3, n4, n5, n6, n7, n8, hne⟩
    have HF : Hid (Fi w V g8 gq g1 g2 (.int .i64 n) (.slice (some ⟨g1, 0, none⟩) ns ca') (.slice (some ⟨g2, 0, none⟩) nd cb') ⟨pn, px, pz, pph⟩ t.s t.d) := hide ⟨HX.out.1, HX.out.2.1, HX.out.2.2.1, HX.out.2.2.2.1, HX.out.2.2.2.2.1, HX.out.2.2.2.2.2.1, HX.out.2.2.2.2.2.2⟩
    clear HX HN n1 n2 n3 n4 n5 n6 n7 n8 hne
    obtain ⟨t0, t1, t2, t3⟩ := HF.out.t8.cells
    go_wp2_with fail
    refine (HC4.out _ _ g1 ca' HF.out.s (HTL.out V gq HF.out.cl)).mono ?_
    rintro e w6 ⟨rfl, hb6⟩
    have HF6 := hide (HF.out.below hb6)
    clear hb6 HF t0 t1 t2 t3 HC4
    obtain ⟨t0, t1, t2, t3⟩ := HF6.out.t8.cells
    obtain ⟨o0, o1, o2, o3⟩ := HL1.out _ _ HF6.out.s
    have hl1 := HF6.out.s.lt
    have hl2 := HF6.out.d.lt
    simp only at o0 o1 o2 o3
    go_wp2_with fail
    have hbn := bnew w6 (.cells #[.int .i64 on, .int .u64 (ox : Int), .int .u64 (oz : Int), .int .i64 oph] 49)
    have HF7 := hide (HF6.out.below hbn)
    have HO7 := hide (At4.new w6 (.int .i64 on) (.int .u64 (ox : Int)) (.int .u64 (oz : Int)) (.int .i64 oph))
    have ho1 : w6.heap.size ≠ g1 := by omega
    have ho2 : w6.heap.size ≠ g2 := by omega
    clear hbn HF6 o0 o1 o2 o3 t0 t1 t2 t3 hl1 hl2
    generalize w6.alloc (.cells #[.int .i64 on, .int .u64 (ox : Int), .int .u64 (oz : Int), .int .i64 oph] 49) = W7 at *
    generalize w6.heap.size = go at *
    obtain ⟨t0, t1, t2, t3⟩ := HF7.out.t8.cells
    obtain ⟨o0, o1, o2, o3, o4⟩ := HO7.out.cells
    go_wp2_with fail
    refine (HC5.out _ _ g1 ca' HF7.out.s (fun U hU => HTL.out U gq (At4.bx HF7.out.cl hU HFN.out.q1))).mono ?_
    rintro e w9 ⟨rfl, po9, bx9⟩
    have HF9 := hide (HF7.out.mul1 HFN.out bx9 po9)
    have HO9 := hide (At4.bx HO7.out bx9 ho1)
    clear po9 bx9 HF7 HO7 o0 o1 o2 o3 o4 t0 t1 t2 t3 HC5
    obtain ⟨t0, t1, t2, t3⟩ := HF9.out.t8.cells
    obtain ⟨o0, o1, o2, o3, o4⟩ := HO9.out.cells
    go_wp2_with fail
    refine (HC6.out _ _ g2 cb' HF9.out.d (fun U hU => HTL.out U gq (At4.bx HF9.out.cl hU HFN.out.q2))).mono ?_
    rintro e w10 ⟨rfl, po10, bx10⟩
    have HF10 := hide (HF9.out.mul2 HFN.out bx10 po10)
    have HO10 := hide (At4.bx HO9.out bx10 ho2)
    clear po10 bx10 HF9 HO9 o0 o1 o2 o3 o4 t0 t1 t2 t3 HC6 HTL
    obtain ⟨t0, t1, t2, t3⟩ := HF10.out.t8.cells
    obtain ⟨o0, o1, o2, o3, o4⟩ := HO10.out.cells
    obtain ⟨p0, p1, p2, p3, p4⟩ := HF10.out.pb.cells
    obtain ⟨⟨⟨qn, qx, qz, qp⟩, ⟨r0, r1, r2, r3⟩⟩, hPO1⟩ := HS1.out _ _ HF10.out.s
    obtain ⟨⟨⟨sn, sx, sz, sp⟩, hPc2⟩, -⟩ := HS2.out _ _ HF10.out.d
    obtain ⟨s0, s1, s2, s3⟩ := hPc2
    have f1 := HF10.out.s.fz
    have f2 := HF10.out.d.fz
    have hl1 := HF10.out.s.lt
    have hl2 := HF10.out.d.lt
    have hn12 := HFN.out.n
    simp only at r0 r1 r2 r3 s0 s1 s2 s3
    have HY1 := hide hPO1
    clear hPO1
    have hb1 := HFN.out.b1
    have hk1 := (HF10.out.t8.off (k := g1) (o := k * 4) (p := ⟨pn, px, pz, pph⟩) hb1).cells
    have hk2 := (At4.off4 HO10.out (k := g1) (o := k * 4) (p := ⟨pn, px, pz, pph⟩) ho1).cells
    have hk3 := (HS2.out _ _ (HF10.out.d.off (k := g1) (o := k * 4) (p := ⟨pn, px, pz, pph⟩) (Ne.symm hn12)))
    have hk4 := (HF10.out.d.off (k := g1) (o := k * 4) (p := ⟨pn, px, pz, pph⟩) (Ne.symm hn12)).fz
    have hk5 := (HF10.out.d.off (k := g1) (o := k * 4) (p := ⟨pn, px, pz, pph⟩) (Ne.symm hn12)).lt
    obtain ⟨⟨⟨un, ux, uz, up⟩, ⟨v0, v1, v2, v3⟩⟩, hPO2⟩ := hk3
    have HFF : Hid (Fi w (set4 (set4 w10 g1 (k * 4) ⟨pn, px, pz, pph⟩) g2 (k * 4) ⟨on, ox, oz, oph⟩) g8 gq g1 g2 (.int .i64 n) (.slice (some ⟨g1, 0, none⟩) ns ca') (.slice (some ⟨g2, 0, none⟩) nd cb') ⟨pn, px, pz, pph⟩ F.s F.d) := hide ((HF10.out.mul1 HFN.out (Bx.set _ _ _ _) HY1.out).mul2 HFN.out (Bx.set _ _ _ _) hPO2)
    clear hPO2 HY1 HF10 HO10
    obtain ⟨e0, e1, e2, e3⟩ := hk1
    obtain ⟨d0, d1, d2, d3, d4⟩ := hk2
    unfold set4 at e0 e1 e2 e3 d0 d1 d2 d3 d4 v0 v1 v2 v3 hk4 hk5
    simp only at e0 e1 e2 e3 d0 d1 d2 d3 d4 v0 v1 v2 v3 hk4 hk5
    go_wp2_with fail
    go_region
    change Exit.then _ _ _ _ (set4 (set4 w10 g1 (k * 4) ⟨pn, px, pz, pph⟩) g2 (k * 4) ⟨on, ox, oz, oph⟩).drew
    clear e0 e1 e2 e3 d0 d1 d2 d3 d4 v0 v1 v2 v3 hk4 hk5 f1 f2 hl1 hl2 p0 p1 p2 p3 p4 r0 r1 r2 r3 s0 s1 s2 s3 o0 o1 o2 o3 o4 t0 t1 t2 t3
    generalize set4 (set4 w10 g1 (k * 4) ⟨pn, px, pz, pph⟩) g2 (k * 4) ⟨on, ox, oz, oph⟩ = W11 at *
    have HFG : Hid (Fi w W11.drew g8 gq g1 g2 (.int .i64 n) (.slice (some ⟨g1, 0, none⟩) ns ca') (.slice (some ⟨g2, 0, none⟩) nd cb') ⟨pn, px, pz, pph⟩ F.s F.d) := hide ⟨HFF.out.bw.drew, HFF.out.t8, HFF.out.cl, HFF.out.s, HFF.out.d, HFF.out.pb, HFF.out.rs⟩
    clear HFF
    generalize W11.drew = W12 at *
    obtain ⟨t0, t1, t2, t3⟩ := HFG.out.t8.cells
    have hR := HFG.out.rs
    unfold At3 at hR
    have q1 := HFN.out.a1
    have q2 := HFN.out.a2
    have HXX : Hid (Th (W12.setRow (w.heap.size + 1 + 1) #[.int .i64 n, .slice (some ⟨g1, 0, none⟩) ns ca', .slice (some ⟨g2, 0, none⟩) nd cb']) F (some ⟨g1, 0, none⟩) (some ⟨g2, 0, none⟩) ca' cb' /\ Below w.heap.size w (W12.setRow (w.heap.size + 1 + 1) #[.int .i64 n, .slice (some ⟨g1, 0, none⟩) ns ca', .slice (some ⟨g2, 0, none⟩) nd cb'])) := hide ⟨HTH.out _ _ _ _ _ (HFG.out.s.of_block (setRow_other _ _ _ _ (by omega))) (HFG.out.d.of_block (setRow_other _ _ _ _ (by omega))) HLA.out HLB.out, below_setRow HFG.out.bw (by omega) _⟩
    clear HFG HTH
    go_wp2_with (first
      | (refine wpList_store_row rfl _ _ _ rfl (w.heap.size + 1 + 1) _ rfl rfl _ _ hR (by exact infoT) (by rfl) (all3 _ _ _ _ _ _ _) ?_))
    refine bodyPost_ret (results_ctt rfl _ _ (w.heap.size + 1 + 1) _ _ _ _ rfl (setRow_heap _ _ _ _ _ _ hR) Tryd.underlying24 rfl (by exact infoT)) rfl ?_
    exact ⟨some ⟨g1, 0, none⟩, some ⟨g2, 0, none⟩, ca', cb', rfl, HXX.out.1, HXX.out.2⟩
  . have l1 : w.heap.size + 1 + 1 < w1.heap.size := HZ1.out.lt
    have l2 := hT3.lt
    have l3 := q3.size
    have l4 := q4.size
    have l5 := po1.lt
    have l6 := po2.lt
    try simp only [World.size_alloc] at l2 l3 l4 bg1 bg2
    have l7 : w1.drew.heap.size = w1.heap.size := rfl
    have l8 : (w1.alloc (.cells #[.int .i64 0, .slice none 0 0, .slice none 0 0] 24)).drew.heap.size = w1.heap.size + 1 := World.size_alloc ..
    have e8 : ∀ k, k ≠ w3.heap.size -> ((((w4).setCell ⟨w3.heap.size, 0, none⟩ (.int .i64 n)).setCell ⟨w3.heap.size, 1, none⟩ (.slice (some ⟨g1, 0, none⟩) ns ca')).setCell ⟨w3.heap.size, 2, none⟩ (.slice (some ⟨g2, 0, none⟩) nd cb')).heap[k]? = w4.heap[k]? := fun k hk => set3_heap _ _ _ _ _ _ hk
    have HX : Hid (Below w.heap.size w ((((w4).setCell ⟨w3.heap.size, 0, none⟩ (.int .i64 n)).setCell ⟨w3.heap.size, 1, none⟩ (.slice (some ⟨g1, 0, none⟩) ns ca')).setCell ⟨w3.heap.size, 2, none⟩ (.slice (some ⟨g2, 0, none⟩) nd cb')) /\ At3 ((((w4).setCell ⟨w3.heap.size, 0, none⟩ (.int .i64 n)).setCell ⟨w3.heap.size, 1, none⟩ (.slice (some ⟨g1, 0, none⟩) ns ca')).setCell ⟨w3.heap.size, 2, none⟩ (.slice (some ⟨g2, 0, none⟩) nd cb')) w3.heap.size (.int .i64 n) (.slice (some ⟨g1, 0, none⟩) ns ca') (.slice (some ⟨g2, 0, none⟩) nd cb') /\ At4 ((((w4).setCell ⟨w3.heap.size, 0, none⟩ (.int .i64 n)).setCell ⟨w3.heap.size, 1, none⟩ (.slice (some ⟨g1, 0, none⟩) ns ca')).setCell ⟨w3.heap.size, 2, none⟩ (.slice (some ⟨g2, 0, none⟩) nd cb')) w1.heap.size (.int .i64 pn) (.int .u64 (px : Int)) (.int .u64 (pz : Int)) (.int .i64 pph) /\ PO ((((w4).setCell ⟨w3.heap.size, 0, none⟩ (.int .i64 n)).setCell ⟨w3.heap.size, 1, none⟩ (.slice (some ⟨g1, 0, none⟩) ns ca')).setCell ⟨w3.heap.size, 2, none⟩ (.slice (some ⟨g2, 0, none⟩) nd cb')) g1 t.s /\ PO ((((w4).setCell ⟨w3.heap.size, 0, none⟩ (.int .i64 n)).setCell ⟨w3.heap.size, 1, none⟩ (.slice (some ⟨g1, 0, none⟩) ns ca')).setCell ⟨w3.heap.size, 2, none⟩ (.slice (some ⟨g2, 0, none⟩) nd cb')) g2 t.d /\ At4 ((((w4).setCell ⟨w3.heap.size, 0, none⟩ (.int .i64 n)).setCell ⟨w3.heap.size, 1, none⟩ (.slice (some ⟨g1, 0, none⟩) ns ca')).setCell ⟨w3.heap.size, 2, none⟩ (.slice (some ⟨g2, 0, none⟩) nd cb')) (w.heap.size + 1) (.int .i64 pn) (.int .u64 (px : Int)) (.int .u64 (pz : Int)) (.int .i64 pph) /\ At3 ((((w4).setCell ⟨w3.heap.size, 0, none⟩ (.int .i64 n)).setCell ⟨w3.heap.size, 1, none⟩ (.slice (some ⟨g1, 0, none⟩) ns ca')).setCell ⟨w3.heap.size, 2, none⟩ (.slice (some ⟨g2, 0, none⟩) nd cb')) (w.heap.size + 1 + 1) (.int .i64 0) (.slice none 0 0) (.slice none 0 0)) := hide ⟨below_set3 (HBV.out _ hb4) _ _ _ (by omega), zz4.set _ _ _, (e8 _ (by omega)).trans ((hT3.below (bnew _ _)).below q4), po1.of_block (e8 _ (by omega)), po2.of_block (e8 _ (by omega)), (e8 _ (by omega)).trans (HP1.out.below hb4), (e8 _ (by omega)).trans (HZ1.out.below hb4)⟩
    clear e8 z0 z1 z2 z3 zf zz4
    have hN : w.heap.size + 2 < w3.heap.size /\ w.heap.size + 2 < g1 /\ w.heap.size + 2 < g2 /\ w.heap.size + 2 < w1.heap.size /\ w3.heap.size ≠ g1 /\ w3.heap.size ≠ g2 /\ w1.heap.size ≠ g1 /\ w1.heap.size ≠ g2 /\ w1.heap.size ≠ w3.heap.size := by omega
    have HN := hide hN
    have HLA := hide hla
    have HLB := hide hlb
    clear hla hlb hN HSV HBV HD0 HD1 HB1 HA1 HP1 HZ1 hb3 hb4 hT3 q3 q4 hTn po1 po2 bg1 bg2 HPO HC2 HC3 l1 l2 l3 l4 l5 l6 l7 l8
    generalize ((((w4).setCell ⟨w3.heap.size, 0, none⟩ (.int .i64 n)).setCell ⟨w3.heap.size, 1, none⟩ (.slice (some ⟨g1, 0, none⟩) ns ca')).setCell ⟨w3.heap.size, 2, none⟩ (.slice (some ⟨g2, 0, none⟩) nd cb')) = V at *
    generalize w3.heap.size = g8 at *
    generalize w1.heap.size = gq at *
    obtain ⟨n1, n2, n3, n4, n5, n6, n7, n8, -⟩ := HN.out
    have HFN : Hid (Fn w g8 gq g1 g2) := hide ⟨n1, n2, n3, n4, n5, n6, n7, n8, hne⟩
    have HF : Hid (Fi w V g8 gq g1 g2 (.int .i64 n) (.slice (some ⟨g1, 0, none⟩) ns ca') (.slice (some ⟨g2, 0, none⟩) nd cb') ⟨pn, px, pz, pph⟩ t.s t.d) := hide ⟨HX.out.1, HX.out.2.1, HX.out.2.2.1, HX.out.2.2.2.1, HX.out.2.2.2.2.1, HX.out.2.2.2.2.2.1, HX.out.2.2.2.2.2.2⟩
    clear HX HN n1 n2 n3 n4 n5 n6 n7 n8 hne
    obtain ⟨t0, t1, t2, t3⟩ := HF.out.t8.cells
    go_wp2_with fail
    refine (HC4.out _ _ g1 ca' HF.out.s (HTL.out V gq HF.out.cl)).mono ?_
    rintro e w6 ⟨rfl, hb6⟩
    have HF6 := hide (HF.out.below hb6)
    clear hb6 HF t0 t1 t2 t3 HC4
    obtain ⟨t0, t1, t2, t3⟩ := HF6.out.t8.cells
    obtain ⟨o0, o1, o2, o3⟩ := HL1.out _ _ HF6.out.s
    have hl1 := HF6.out.s.lt
    have hl2 := HF6.out.d.lt
    simp only at o0 o1 o2 o3
    go_wp2_with fail
    have hbn := bnew w6 (.cells #[.int .i64 on, .int .u64 (ox : Int), .int .u64 (oz : Int), .int .i64 oph] 49)
    have HF7 := hide (HF6.out.below hbn)
    have HO7 := hide (At4.new w6 (.int .i64 on) (.int .u64 (ox : Int)) (.int .u64 (oz : Int)) (.int .i64 oph))
    have ho1 : w6.heap.size ≠ g1 := by omega
    have ho2 : w6.heap.size ≠ g2 := by omega
    clear hbn HF6 o0 o1 o2 o3 t0 t1 t2 t3 hl1 hl2
    generalize w6.alloc (.cells #[.int .i64 on, .int .u64 (ox : Int), .int .u64 (oz : Int), .int .i64 oph] 49) = W7 at *
    generalize w6.heap.size = go at *
    obtain ⟨t0, t1, t2, t3⟩ := HF7.out.t8.cells
    obtain ⟨o0, o1, o2, o3, o4⟩ := HO7.out.cells
    go_wp2_with fail
    refine (HC5.out _ _ g1 ca' HF7.out.s (fun U hU => HTL.out U gq (At4.bx HF7.out.cl hU HFN.out.q1))).mono ?_
    rintro e w9 ⟨rfl, po9, bx9⟩
    have HF9 := hide (HF7.out.mul1 HFN.out bx9 po9)
    have HO9 := hide (At4.bx HO7.out bx9 ho1)
    clear po9 bx9 HF7 HO7 o0 o1 o2 o3 o4 t0 t1 t2 t3 HC5
    obtain ⟨t0, t1, t2, t3⟩ := HF9.out.t8.cells
    obtain ⟨o0, o1, o2, o3, o4⟩ := HO9.out.cells
    go_wp2_with fail
    refine (HC6.out _ _ g2 cb' HF9.out.d (fun U hU => HTL.out U gq (At4.bx HF9.out.cl hU HFN.out.q2))).mono ?_
    rintro e w10 ⟨rfl, po10, bx10⟩
    have HF10 := hide (HF9.out.mul2 HFN.out bx10 po10)
    have HO10 := hide (At4.bx HO9.out bx10 ho2)
    clear po10 bx10 HF9 HO9 o0 o1 o2 o3 o4 t0 t1 t2 t3 HC6 HTL
    obtain ⟨t0, t1, t2, t3⟩ := HF10.out.t8.cells
    obtain ⟨o0, o1, o2, o3, o4⟩ := HO10.out.cells
    obtain ⟨p0, p1, p2, p3, p4⟩ := HF10.out.pb.cells
    obtain ⟨⟨⟨qn, qx, qz, qp⟩, ⟨r0, r1, r2, r3⟩⟩, hPO1⟩ := HS1.out _ _ HF10.out.s
    obtain ⟨⟨⟨sn, sx, sz, sp⟩, hPc2⟩, -⟩ := HS2.out _ _ HF10.out.d
    obtain ⟨s0, s1, s2, s3⟩ := hPc2
    have f1 := HF10.out.s.fz
    have f2 := HF10.out.d.fz
    have hl1 := HF10.out.s.lt
    have hl2 := HF10.out.d.lt
    have hn12 := HFN.out.n
    simp only at r0 r1 r2 r3 s0 s1 s2 s3
    have HY1 := hide hPO1
    clear hPO1
    have hb1 := HFN.out.b1
    have hk1 := (HF10.out.t8.off (k := g1) (o := k * 4) (p := ⟨pn, px, pz, pph⟩) hb1).cells
    have hk2 := (At4.off4 HO10.out (k := g1) (o := k * 4) (p := ⟨pn, px, pz, pph⟩) ho1).cells
    have hk3 := (HS2.out _ _ (HF10.out.d.off (k := g1) (o := k * 4) (p := ⟨pn, px, pz, pph⟩) (Ne.symm hn12)))
    have hk4 := (HF10.out.d.off (k := g1) (o := k * 4) (p := ⟨pn, px, pz, pph⟩) (Ne.symm hn12)).fz
    have hk5 := (HF10.out.d.off (k := g1) (o := k * 4) (p := ⟨pn, px, pz, pph⟩) (Ne.symm hn12)).lt
    obtain ⟨⟨⟨un, ux, uz, up⟩, ⟨v0, v1, v2, v3⟩⟩, hPO2⟩ := hk3
    have HFF : Hid (Fi w (set4 (set4 w10 g1 (k * 4) ⟨pn, px, pz, pph⟩) g2 (k * 4) ⟨on, ox, oz, oph⟩) g8 gq g1 g2 (.int .i64 n) (.slice (some ⟨g1, 0, none⟩) ns ca') (.slice (some ⟨g2, 0, none⟩) nd cb') ⟨pn, px, pz, pph⟩ F.s F.d) := hide ((HF10.out.mul1 HFN.out (Bx.set _ _ _ _) HY1.out).mul2 HFN.out (Bx.set _ _ _ _) hPO2)
    clear hPO2 HY1 HF10 HO10
    obtain ⟨e0, e1, e2, e3⟩ := hk1
    obtain ⟨d0, d1, d2, d3, d4⟩ := hk2
    unfold set4 at e0 e1 e2 e3 d0 d1 d2 d3 d4 v0 v1 v2 v3 hk4 hk5
    simp only at e0 e1 e2 e3 d0 d1 d2 d3 d4 v0 v1 v2 v3 hk4 hk5
    go_wp2_with fail
    go_region
    change Exit.then _ _ _ _ (set4 (set4 w10 g1 (k * 4) ⟨pn, px, pz, pph⟩) g2 (k * 4) ⟨on, ox, oz, oph⟩).drew
    clear e0 e1 e2 e3 d0 d1 d2 d3 d4 v0 v1 v2 v3 hk4 hk5 f1 f2 hl1 hl2 p0 p1 p2 p3 p4 r0 r1 r2 r3 s0 s1 s2 s3 o0 o1 o2 o3 o4 t0 t1 t2 t3
    generalize set4 (set4 w10 g1 (k * 4) ⟨pn, px, pz, pph⟩) g2 (k * 4) ⟨on, ox, oz, oph⟩ = W11 at *
    have HFG : Hid (Fi w W11.drew g8 gq g1 g2 (.int .i64 n) (.slice (some ⟨g1, 0, none⟩) ns ca') (.slice (some ⟨g2, 0, none⟩) nd cb') ⟨pn, px, pz, pph⟩ F.s F.d) := hide ⟨HFF.out.bw.drew, HFF.out.t8, HFF.out.cl, HFF.out.s, HFF.out.d, HFF.out.pb, HFF.out.rs⟩
    clear HFF
    generalize W11.drew = W12 at *
    obtain ⟨t0, t1, t2, t3⟩ := HFG.out.t8.cells
    have hR := HFG.out.rs
    unfold At3 at hR
    have q1 := HFN.out.a1
    have q2 := HFN.out.a2
    have HXX : Hid (Th (W12.setRow (w.heap.size + 1 + 1) #[.int .i64 n, .slice (some ⟨g1, 0, none⟩) ns ca', .slice (some ⟨g2, 0, none⟩) nd cb']) F (some ⟨g1, 0, none⟩) (some ⟨g2, 0, none⟩) ca' cb' /\ Below w.heap.size w (W12.setRow (w.heap.size + 1 + 1) #[.int .i64 n, .slice (some ⟨g1, 0, none⟩) ns ca', .slice (some ⟨g2, 0, none⟩) nd cb'])) := hide ⟨HTH.out _ _ _ _ _ (HFG.out.s.of_block (setRow_other _ _ _ _ (by omega))) (HFG.out.d.of_block (setRow_other _ _ _ _ (by omega))) HLA.out HLB.out, below_setRow HFG.out.bw (by omega) _⟩
    clear HFG HTH
    go_wp2_with (first
      | (refine wpList_store_row rfl _ _ _ rfl (w.heap.size + 1 + 1) _ rfl rfl _ _ hR (by exact infoT) (by rfl) (all3 _ _ _ _ _ _ _) ?_))
    refine bodyPost_ret (results_ctt rfl _ _ (w.heap.size + 1 + 1) _ _ _ _ rfl (setRow_heap _ _ _ _ _ _ hR) Tryd.underlying24 rfl (by exact infoT)) rfl ?_
    exact ⟨some ⟨g1, 0, none⟩, some ⟨g2, 0, none⟩, ca', cb', rfl, HXX.out.1, HXX.out.2⟩
  . have l1 : w.heap.size + 1 + 1 < w1.heap.size := HZ1.out.lt
    have l2 := hT3.lt
    have l3 := q3.size
    have l4 := q4.size
    have l5 := po1.lt
    have l6 := po2.lt
    try simp only [World.size_alloc] at l2 l3 l4 bg1 bg2
    have l7 : w1.drew.heap.size = w1.heap.size := rfl
    have l8 : (w1.alloc (.cells #[.int .i64 0, .slice none 0 0, .slice none 0 0] 24)).drew.heap.size = w1.heap.size + 1 := World.size_alloc ..
    have e8 : ∀ k, k ≠ w1.heap.size -> ((((w4).setCell ⟨w1.heap.size, 0, none⟩ (.int .i64 n)).setCell ⟨w1.heap.size, 1, none⟩ (.slice (some ⟨g1, 0, none⟩) ns ca')).setCell ⟨w1.heap.size, 2, none⟩ (.slice (some ⟨g2, 0, none⟩) nd cb')).heap[k]? = w4.heap[k]? := fun k hk => set3_heap _ _ _ _ _ _ hk
    have HX : Hid (Below w.heap.size w ((((w4).setCell ⟨w1.heap.size, 0, none⟩ (.int .i64 n)).setCell ⟨w1.heap.size, 1, none⟩ (.slice (some ⟨g1, 0, none⟩) ns ca')).setCell ⟨w1.heap.size, 2, none⟩ (.slice (some ⟨g2, 0, none⟩) nd cb')) /\ At3 ((((w4).setCell ⟨w1.heap.size, 0, none⟩ (.int .i64 n)).setCell ⟨w1.heap.size, 1, none⟩ (.slice (some ⟨g1, 0, none⟩) ns ca')).setCell ⟨w1.heap.size, 2, none⟩ (.slice (some ⟨g2, 0, none⟩) nd cb')) w1.heap.size (.int .i64 n) (.slice (some ⟨g1, 0, none⟩) ns ca') (.slice (some ⟨g2, 0, none⟩) nd cb') /\ At4 ((((w4).setCell ⟨w1.heap.size, 0, none⟩ (.int .i64 n)).setCell ⟨w1.heap.size, 1, none⟩ (.slice (some ⟨g1, 0, none⟩) ns ca')).setCell ⟨w1.heap.size, 2, none⟩ (.slice (some ⟨g2, 0, none⟩) nd cb')) (w1.heap.size + 1) (.int .i64 pn) (.int .u64 (px : Int)) (.int .u64 (pz : Int)) (.int .i64 pph) /\ PO ((((w4).setCell ⟨w1.heap.size, 0, none⟩ (.int .i64 n)).setCell ⟨w1.heap.size, 1, none⟩ (.slice (some ⟨g1, 0, none⟩) ns ca')).setCell ⟨w1.heap.size, 2, none⟩ (.slice (some ⟨g2, 0, none⟩) nd cb')) g1 t.s /\ PO ((((w4).setCell ⟨w1.heap.size, 0, none⟩ (.int .i64 n)).setCell ⟨w1.heap.size, 1, none⟩ (.slice (some ⟨g1, 0, none⟩) ns ca')).setCell ⟨w1.heap.size, 2, none⟩ (.slice (some ⟨g2, 0, none⟩) nd cb')) g2 t.d /\ At4 ((((w4).setCell ⟨w1.heap.size, 0, none⟩ (.int .i64 n)).setCell ⟨w1.heap.size, 1, none⟩ (.slice (some ⟨g1, 0, none⟩) ns ca')).setCell ⟨w1.heap.size, 2, none⟩ (.slice (some ⟨g2, 0, none⟩) nd cb')) (w.heap.size + 1) (.int .i64 pn) (.int .u64 (px : Int)) (.int .u64 (pz : Int)) (.int .i64 pph) /\ At3 ((((w4).setCell ⟨w1.heap.size, 0, none⟩ (.int .i64 n)).setCell ⟨w1.heap.size, 1, none⟩ (.slice (some ⟨g1, 0, none⟩) ns ca')).setCell ⟨w1.heap.size, 2, none⟩ (.slice (some ⟨g2, 0, none⟩) nd cb')) (w.heap.size + 1 + 1) (.int .i64 0) (.slice none 0 0) (.slice none 0 0)) := hide ⟨below_set3 (HBV.out _ hb4) _ _ _ (by omega), zz4.set _ _ _, (e8 _ (by omega)).trans (by rw [← l8]; exact hT3.below q4), po1.of_block (e8 _ (by omega)), po2.of_block (e8 _ (by omega)), (e8 _ (by omega)).trans (HP1.out.below hb4), (e8 _ (by omega)).trans (HZ1.out.below hb4)⟩
    clear zz3 e8 z0 z1 z2 z3 zf zz4
    have hN : w.heap.size + 2 < w1.heap.size /\ w.heap.size + 2 < g1 /\ w.heap.size + 2 < g2 /\ w.heap.size + 2 < (w1.heap.size + 1) /\ w1.heap.size ≠ g1 /\ w1.heap.size ≠ g2 /\ (w1.heap.size + 1) ≠ g1 /\ (w1.heap.size + 1) ≠ g2 /\ (w1.heap.size + 1) ≠ w1.heap.size := by omega
    have HN := hide hN
    have HLA := hide hla
    have HLB := hide hlb
    clear hla hlb hN HSV HBV HD0 HD1 HB1 HA1 HP1 HZ1 hb3 hb4 hT3 q3 q4 hTn po1 po2 bg1 bg2 HPO HC2 HC3 l1 l2 l3 l4 l5 l6 l7 l8
    generalize ((((w4).setCell ⟨w1.heap.size, 0, none⟩ (.int .i64 n)).setCell ⟨w1.heap.size, 1, none⟩ (.slice (some ⟨g1, 0, none⟩) ns ca')).setCell ⟨w1.heap.size, 2, none⟩ (.slice (some ⟨g2, 0, none⟩) nd cb')) = V at *
    generalize (w1.heap.size + 1) = gq at *
    generalize w1.heap.size = g8 at *
    obtain ⟨n1, n2, n3, n4, n5, n6, n7, n8, -⟩ := HN.out
    have HFN : Hid (Fn w g8 gq g1 g2) := hide ⟨n1, n2, n3, n4, n5, n6, n7, n8, hne⟩
    have HF : Hid (Fi w V g8 gq g1 g2 (.int .i64 n) (.slice (some ⟨g1, 0, none⟩) ns ca') (.slice (some ⟨g2, 0, none⟩) nd cb') ⟨pn, px, pz, pph⟩ t.s t.d) := hide ⟨HX.out.1, HX.out.2.1, HX.out.2.2.1, HX.out.2.2.2.1, HX.out.2.2.2.2.1, HX.out.2.2.2.2.2.1, HX.out.2.2.2.2.2.2⟩
    clear HX HN n1 n2 n3 n4 n5 n6 n7 n8 hne
    obtain ⟨t0, t1, t2, t3⟩ := HF.out.t8.cells
    go_wp2_with fail
    refine (HC4.out _ _ g1 ca' HF.out.s (HTL.out V gq HF.out.cl)).mono ?_
    rintro e w6 ⟨rfl, hb6⟩
    have HF6 := hide (HF.out.below hb6)
    clear hb6 HF t0 t1 t2 t3 HC4
    obtain ⟨t0, t1, t2, t3⟩ := HF6.out.t8.cells
    obtain ⟨o0, o1, o2, o3⟩ := HL1.out _ _ HF6.out.s
    have hl1 := HF6.out.s.lt
    have hl2 := HF6.out.d.lt
    simp only at o0 o1 o2 o3
    go_wp2_with fail
    have hbn := bnew w6 (.cells #[.int .i64 on, .int .u64 (ox : Int), .int .u64 (oz : Int), .int .i64 oph] 49)
    have HF7 := hide (HF6.out.below hbn)
    have HO7 := hide (At4.new w6 (.int .i64 on) (.int .u64 (ox : Int)) (.int .u64 (oz : Int)) (.int .i64 oph))
    have ho1 : w6.heap.size ≠ g1 := by omega
    have ho2 : w6.heap.size ≠ g2 := by omega
    clear hbn HF6 o0 o1 o2 o3 t0 t1 t2 t3 hl1 hl2
    generalize w6.alloc (.cells #[.int .i64 on, .int .u64 (ox : Int), .int .u64 (oz : Int), .int .i64 oph] 49) = W7 at *
    generalize w6.heap.size = go at *
    obtain ⟨t0, t1, t2, t3⟩ := HF7.out.t8.cells
    obtain ⟨o0, o1, o2, o3, o4⟩ := HO7.out.cells
    go_wp2_with fail
    refine (HC5.out _ _ g1 ca' HF7.out.s (fun U hU => HTL.out U gq (At4.bx HF7.out.cl hU HFN.out.q1))).mono ?_
    rintro e w9 ⟨rfl, po9, bx9⟩
    have HF9 := hide (HF7.out.mul1 HFN.out bx9 po9)
    have HO9 := hide (At4.bx HO7.out bx9 ho1)
    clear po9 bx9 HF7 HO7 o0 o1 o2 o3 o4 t0 t1 t2 t3 HC5
    obtain ⟨t0, t1, t2, t3⟩ := HF9.out.t8.cells
    obtain ⟨o0, o1, o2, o3, o4⟩ := HO9.out.cells
    go_wp2_with fail
    refine (HC6.out _ _ g2 cb' HF9.out.d (fun U hU => HTL.out U gq (At4.bx HF9.out.cl hU HFN.out.q2))).mono ?_
    rintro e w10 ⟨rfl, po10, bx10⟩
    have HF10 := hide (HF9.out.mul2 HFN.out bx10 po10)
    have HO10 := hide (At4.bx HO9.out bx10 ho2)
    clear po10 bx10 HF9 HO9 o0 o1 o2 o3 o4 t0 t1 t2 t3 HC6 HTL
    obtain ⟨t0, t1, t2, t3⟩ := HF10.out.t8.cells
    obtain ⟨o0, o1, o2, o3, o4⟩ := HO10.out.cells
    obtain ⟨p0, p1, p2, p3, p4⟩ := HF10.out.pb.cells
    obtain ⟨⟨⟨qn, qx, qz, qp⟩, ⟨r0, r1, r2, r3⟩⟩, hPO1⟩ := HS1.out _ _ HF10.out.s
    obtain ⟨⟨⟨sn, sx, sz, sp⟩, hPc2⟩, -⟩ := HS2.out _ _ HF10.out.d
    obtain ⟨s0, s1, s2, s3⟩ := hPc2
    have f1 := HF10.out.s.fz
    have f2 := HF10.out.d.fz
    have hl1 := HF10.out.s.lt
    have hl2 := HF10.out.d.lt
    have hn12 := HFN.out.n
    simp only at r0 r1 r2 r3 s0 s1 s2 s3
    have HY1 := hide hPO1
    clear hPO1
    have hb1 := HFN.out.b1
    have hk1 := (HF10.out.t8.off (k := g1) (o := k * 4) (p := ⟨pn, px, pz, pph⟩) hb1).cells
    have hk2 := (At4.off4 HO10.out (k := g1) (o := k * 4) (p := ⟨pn, px, pz, pph⟩) ho1).cells
    have hk3 := (HS2.out _ _ (HF10.out.d.off (k := g1) (o := k * 4) (p := ⟨pn, px, pz, pph⟩) (Ne.symm hn12)))
    have hk4 := (HF10.out.d.off (k := g1) (o := k * 4) (p := ⟨pn, px, pz, pph⟩) (Ne.symm hn12)).fz
    have hk5 := (HF10.out.d.off (k := g1) (o := k * 4) (p := ⟨pn, px, pz, pph⟩) (Ne.symm hn12)).lt
    obtain ⟨⟨⟨un, ux, uz, up⟩, ⟨v0, v1, v2, v3⟩⟩, hPO2⟩ := hk3
    have HFF : Hid (Fi w (set4 (set4 w10 g1 (k * 4) ⟨pn, px, pz, pph⟩) g2 (k * 4) ⟨on, ox, oz, oph⟩) g8 gq g1 g2 (.int .i64 n) (.slice (some ⟨g1, 0, none⟩) ns ca') (.slice (some ⟨g2, 0, none⟩) nd cb') ⟨pn, px, pz, pph⟩ F.s F.d) := hide ((HF10.out.mul1 HFN.out (Bx.set _ _ _ _) HY1.out).mul2 HFN.out (Bx.set _ _ _ _) hPO2)
    clear hPO2 HY1 HF10 HO10
    obtain ⟨e0, e1, e2, e3⟩ := hk1
    obtain ⟨d0, d1, d2, d3, d4⟩ := hk2
    unfold set4 at e0 e1 e2 e3 d0 d1 d2 d3 d4 v0 v1 v2 v3 hk4 hk5
    simp only at e0 e1 e2 e3 d0 d1 d2 d3 d4 v0 v1 v2 v3 hk4 hk5
    go_wp2_with fail
    go_region
    change Exit.then _ _ _ _ (set4 (set4 w10 g1 (k * 4) ⟨pn, px, pz, pph⟩) g2 (k * 4) ⟨on, ox, oz, oph⟩).drew
    clear e0 e1 e2 e3 d0 d1 d2 d3 d4 v0 v1 v2 v3 hk4 hk5 f1 f2 hl1 hl2 p0 p1 p2 p3 p4 r0 r1 r2 r3 s0 s1 s2 s3 o0 o1 o2 o3 o4 t0 t1 t2 t3
    generalize set4 (set4 w10 g1 (k * 4) ⟨pn, px, pz, pph⟩) g2 (k * 4) ⟨on, ox, oz, oph⟩ = W11 at *
    have HFG : Hid (Fi w W11.drew g8 gq g1 g2 (.int .i64 n) (.slice (some ⟨g1, 0, none⟩) ns ca') (.slice (some ⟨g2, 0, none⟩) nd cb') ⟨pn, px, pz, pph⟩ F.s F.d) := hide ⟨HFF.out.bw.drew, HFF.out.t8, HFF.out.cl, HFF.out.s, HFF.out.d, HFF.out.pb, HFF.out.rs⟩
    clear HFF
    generalize W11.drew = W12 at *
    obtain ⟨t0, t1, t2, t3⟩ := HFG.out.t8.cells
    have hR := HFG.out.rs
    unfold At3 at hR
    have q1 := HFN.out.a1
    have q2 := HFN.out.a2
    have HXX : Hid (Th (W12.setRow (w.heap.size + 1 + 1) #[.int .i64 n, .slice (some ⟨g1, 0, none⟩) ns ca', .slice (some ⟨g2, 0, none⟩) nd cb']) F (some ⟨g1, 0, none⟩) (some ⟨g2, 0, none⟩) ca' cb' /\ Below w.heap.size w (W12.setRow (w.heap.size + 1 + 1) #[.int .i64 n, .slice (some ⟨g1, 0, none⟩) ns ca', .slice (some ⟨g2, 0, none⟩) nd cb'])) := hide ⟨HTH.out _ _ _ _ _ (HFG.out.s.of_block (setRow_other _ _ _ _ (by omega))) (HFG.out.d.of_block (setRow_other _ _ _ _ (by omega))) HLA.out HLB.out, below_setRow HFG.out.bw (by omega) _⟩
    clear HFG HTH
    go_wp2_with (first
      | (refine wpList_store_row rfl _ _ _ rfl (w.heap.size + 1 + 1) _ rfl rfl _ _ hR (by exact infoT) (by rfl) (all3 _ _ _ _ _ _ _) ?_))
    refine bodyPost_ret (results_ctt rfl _ _ (w.heap.size + 1 + 1) _ _ _ _ rfl (setRow_heap _ _ _ _ _ _ hR) Tryd.underlying24 rfl (by exact infoT)) rfl ?_
    exact ⟨some ⟨g1, 0, none⟩, some ⟨g2, 0, none⟩, ca', cb', rfl, HXX.out.1, HXX.out.2⟩
theorem tForce (t : TT) (a b : Option Addr) (ca cb : Nat) (hz : szB t = true) (p : P) (hp : Wd p) (w : World) (h : Th w t a b ca cb) :
    Calls Tryd.prog 35 #[tV t a b ca cb, pV p] w fun e w' => ∃ a' b' ca' cb', e = .returned (.tuple #[tV (frR t p).1 a' b' ca' cb', .int .i64 (frR t p).2.1, .int .i64 (frR t p).2.2]) /\ Th w' (frR t p).1 a' b' ca' cb' /\ Below w.heap.size w w' := by
  rcases mem_three t p with hm | hm
  . rw [fr_two hm]
    exact tForce_open t a b ca cb hz p hp hm w h
  . exact tForce_sure t a b ca cb hz p hp hm w h
def cqI (t : TT) (q : Int) : Int := if chB t = true then (if 0 <= q /\ q < t.n then 0 else 2) else 140
def csI (t : TT) (p : P) : Int := if chB t = true then (if sgB p t.n = true then 0 else 2) else 140
theorem tCheckQ (t : TT) (a b : Option Addr) (ca cb : Nat) (q : Int) (w : World) (h : Th w t a b ca cb) :
    Calls Tryd.prog 32 #[tV t a b ca cb, .int .i64 q] w fun e w' => e = .returned (.int .i64 (cqI t q)) /\ Below w.heap.size w w' := by
  have HC1 := hide (fun W (hb : Below w.heap.size w W) => tCheck t a b ca cb W (h.below hb))
  unfold chI at HC1
  unfold cqI
  unfold tV at HC1 ⊢
  generalize chB t = r at *
  generalize t.s.length = ns at *
  generalize t.d.length = nd at *
  generalize t.n = n at *
  have HB0 := hide (bnew w (.cells #[.int .i64 n, .slice a ns ca, .slice b nd cb] 24))
  have HA0 := hide (At3.new w (.int .i64 n) (.slice a ns ca) (.slice b nd cb))
  clear h
  cases r with
  | false =>
    simp only [Bool.false_eq_true, if_false] at HC1 ⊢
    go_enter Tryd.func32, Tryd.ntmps32
    go_wp2_with (first | (go_at_call 10; refine (HC1.out _ HB0.out).mono ?_; rintro e w1 ⟨rfl, hb1⟩; have HB1 := hide (bkp HB0.out hb1)))
    go_ret
    exact ⟨rfl, HB1.out⟩
  | true =>
    simp only [if_true] at HC1 ⊢
    by_cases h1 : q < 0
    . rw [if_neg (by omega)]
      have d1 : decide (q < 0) = true := decide_eq_true h1
      go_enter Tryd.func32, Tryd.ntmps32
      go_wp2_with (first | (go_at_call 10; refine (HC1.out _ HB0.out).mono ?_; rintro e w1 ⟨rfl, hb1⟩; have HB1 := hide (bkp HB0.out hb1)))
      go_ret
      exact ⟨rfl, HB1.out⟩
    . have d1 : decide (q < 0) = false := decide_eq_false h1
      by_cases h2 : q < n
      . rw [if_pos (by omega)]
        have d2 : decide (n <= q) = false := decide_eq_false (by omega)
        go_enter Tryd.func32, Tryd.ntmps32
        go_wp2_with (first | (go_at_call 10; refine (HC1.out _ HB0.out).mono ?_; rintro e w1 ⟨rfl, hb1⟩; have HB1 := hide (bkp HB0.out hb1); obtain ⟨x0, x1, x2, x3⟩ := (HA0.out.below hb1).cells))
        go_ret
        exact ⟨rfl, HB1.out⟩
      . rw [if_neg (by omega)]
        have d2 : decide (n <= q) = true := decide_eq_true (by omega)
        go_enter Tryd.func32, Tryd.ntmps32
        go_wp2_with (first | (go_at_call 10; refine (HC1.out _ HB0.out).mono ?_; rintro e w1 ⟨rfl, hb1⟩; have HB1 := hide (bkp HB0.out hb1); obtain ⟨x0, x1, x2, x3⟩ := (HA0.out.below hb1).cells))
        go_ret
        exact ⟨rfl, HB1.out⟩
theorem two34 (w : World) (a b c a1 b1 c1 d1 : Value) : At3 ((w.alloc (.cells #[a, b, c] 24)).alloc (.cells #[a1, b1, c1, d1] 49)) w.heap.size a b c /\ At4 ((w.alloc (.cells #[a, b, c] 24)).alloc (.cells #[a1, b1, c1, d1] 49)) (w.heap.size + 1) a1 b1 c1 d1 :=
  ⟨(At3.new w a b c).below (bnew _ _), by have := At4.new (w.alloc (.cells #[a, b, c] 24)) a1 b1 c1 d1; simpa using this⟩
theorem tCheckS (t : TT) (a b : Option Addr) (ca cb : Nat) (p : P) (hp : Wd p) (w : World) (h : Th w t a b ca cb) :
    Calls Tryd.prog 37 #[tV t a b ca cb, pV p] w fun e w' => e = .returned (.int .i64 (csI t p)) /\ Below w.heap.size w w' := by
  have HC1 := hide (fun W (hb : Below w.heap.size w W) => tCheck t a b ca cb W (h.below hb))
  have HC2 := hide (fun W => tSigned p hp t.n W)
  unfold chI at HC1
  unfold csI
  unfold tV at HC1 ⊢
  generalize chB t = r at *
  generalize sgB p t.n = s at *
  generalize t.s.length = ns at *
  generalize t.d.length = nd at *
  generalize t.n = n at *
  obtain ⟨pn, px, pz, pph⟩ := p
  unfold pV at HC2 ⊢
  simp only at HC2 ⊢
  obtain ⟨hA, hP⟩ := two34 w (.int .i64 n) (.slice a ns ca) (.slice b nd cb) (.int .i64 pn) (.int .u64 (px : Int)) (.int .u64 (pz : Int)) (.int .i64 pph)
  have HA0 := hide hA
  have HP0 := hide hP
  have HB0 := hide (bkp (bnew w (.cells #[.int .i64 n, .slice a ns ca, .slice b nd cb] 24)) (bnew _ (.cells #[.int .i64 pn, .int .u64 (px : Int), .int .u64 (pz : Int), .int .i64 pph] 49)))
  clear h hA hP hp
  cases r with
  | false =>
    simp only [Bool.false_eq_true, if_false] at HC1 ⊢
    go_enter Tryd.func37, Tryd.ntmps37
    go_wp2_with (first | (go_at_call 10; refine (HC1.out _ HB0.out).mono ?_; rintro e w1 ⟨rfl, hb1⟩; have HB1 := hide (bkp HB0.out hb1)))
    go_ret
    exact ⟨rfl, HB1.out⟩
  | true =>
    simp only [if_true] at HC1 ⊢
    cases s <;> simp only [if_true, Bool.false_eq_true, if_false]
    all_goals go_enter Tryd.func37, Tryd.ntmps37
    all_goals go_wp2_with (first
      | (go_at_call 10; refine (HC1.out _ HB0.out).mono ?_; rintro e w1 ⟨rfl, hb1⟩; have HB1 := hide (bkp HB0.out hb1); obtain ⟨x0, x1, x2, x3⟩ := (HA0.out.below hb1).cells; obtain ⟨y0, y1, y2, y3, y4⟩ := (HP0.out.below hb1).cells)
      | (go_at_call 25; refine (HC2.out _).mono ?_; rintro e w2 ⟨rfl, hb2⟩; have HB2 := hide (bkp HB1.out hb2)))
    all_goals go_ret
    all_goals exact ⟨rfl, HB2.out⟩
def lzP (n : Int) (q : Nat) (v : Int) : P := ⟨n, 0, 2 ^ q, 2 * v⟩
theorem tLetterZ (n : Int) (q : Nat) (hq : q < 64) (v : Int) (h0 : 0 <= v) (h1 : v <= 1) (w : World) :
    Calls Tryd.prog 34 #[.int .i64 n, .int .i64 (q : Int), .int .i64 v] w fun e w' => e = .returned (pV (lzP n q v)) /\ Below w.heap.size w w' := by
  have e1 := shl_one q hq
  have e2 : IntKind.i64.wrap (2 * v) = 2 * v := by rw [wrapI]; omega
  have e3 : wrap64 (2 * v) = 2 * v := by unfold wrap64; omega
  have HB0 := hide (bnew w (.cells #[.int .i64 0, .int .u64 0, .int .u64 0, .int .i64 0] 49))
  have hR := At4.new w (.int .i64 0) (.int .u64 0) (.int .u64 0) (.int .i64 0)
  unfold lzP pV
  simp only at *
  unfold At4 at hR
  go_enter Tryd.func34, Tryd.ntmps34
  go_wp2_with (first
    | (refine wpList_store_row rfl _ _ _ rfl w.heap.size _ rfl rfl _ _ hR (by exact infoP) (by rfl) (allP _ _ _ _) ?_))
  refine bodyPost_ret (results_c rfl _ _ w.heap.size _ _ _ _ rfl (setRow_heap _ _ _ _ _ _ hR) Tryd.underlying49 rfl (by exact infoP)) rfl ?_
  exact ⟨rfl, below_setRow HB0.out (by omega) _⟩
theorem wd_lz (n : Int) {q : Nat} (hq : q < 64) (v : Int) : Wd (lzP n q v) := ⟨(by decide : (0 : Nat) < 18446744073709551616), pow_lt64 hq⟩
def odI (t : TT) (q : Int) : Int := if cqI t q = 0 then (if memI t (lzP t.n q.toNat 0) = 1 then 0 else if memI t (lzP t.n q.toNat 0) = -1 then 1 else 2) else 0
theorem cq_ok {t : TT} {q : Int} (h : cqI t q = 0) : chB t = true /\ 0 <= q /\ q < t.n /\ q.toNat < 64 /\ szB t = true := by
  unfold cqI at h
  split at h
  . rename_i hc
    split at h
    . rename_i hq
      have := sz_of (ch_size hc)
      exact ⟨hc, hq.1, hq.2, by omega, ch_size hc⟩
    . cases h
  . cases h
theorem tOdds (t : TT) (a b : Option Addr) (ca cb : Nat) (q : Int) (w : World) (h : Th w t a b ca cb) :
    Calls Tryd.prog 15 #[tV t a b ca cb, .int .i64 q] w fun e w' => e = .returned (.tuple #[.int .i64 (odI t q), .int .i64 (cqI t q)]) /\ Below w.heap.size w w' := by
  have HC1 := hide (fun W (hb : Below w.heap.size w W) => tCheckQ t a b ca cb q W (h.below hb))
  unfold odI
  have HB0 := hide (bnew w (.cells #[.int .i64 t.n, .slice a t.s.length ca, .slice b t.d.length cb] 24))
  have HA0 := hide (At3.new w (.int .i64 t.n) (.slice a t.s.length ca) (.slice b t.d.length cb))
  by_cases hc : cqI t q = 0
  . rw [if_pos hc]
    rw [hc] at HC1 ⊢
    obtain ⟨-, q0, q1, q64, hz⟩ := cq_ok hc
    obtain ⟨k, rfl⟩ : ∃ k : Nat, q = (k : Int) := ⟨q.toNat, by omega⟩
    rw [Int.toNat_natCast] at q64 ⊢
    have HC2 := hide (fun W => tLetterZ t.n k q64 0 (by decide) (by decide) W)
    have HC3 := hide (fun W (hb : Below w.heap.size w W) => tMember t a b ca cb hz (lzP t.n k 0) (wd_lz _ q64 _) W (h.below hb))
    have hm := mem_three t (lzP t.n k 0)
    unfold tV at HC1 HC3 ⊢
    generalize memI t (lzP t.n k 0) = m at *
    generalize hlz : lzP t.n k 0 = z at *
    generalize t.s.length = ns at *
    generalize t.d.length = nd at *
    generalize t.n = n at *
    obtain ⟨zn, zx, zz, zp⟩ := z
    unfold pV at HC2 HC3
    simp only at HC2 HC3
    clear h hlz hc hz q0 q1
    go_enter Tryd.func15, Tryd.ntmps15
    go_wp2_with fail
    refine (HC1.out _ HB0.out).mono ?_
    rintro e w1 ⟨rfl, hb1⟩
    have HB1 := hide (bkp HB0.out hb1)
    have HA1 := hide (HA0.out.below hb1)
    clear hb1 HB0 HA0 HC1
    obtain ⟨x0, x1, x2, x3⟩ := HA1.out.cells
    go_wp2_with fail
    have HCC : Hid (∀ W, Below w1.heap.size w1 W -> (W.cell? ⟨w.heap.size, 0, none⟩ = some (.int .i64 n) /\ W.cell? ⟨w.heap.size, 1, none⟩ = some (.slice a ns ca) /\ W.cell? ⟨w.heap.size, 2, none⟩ = some (.slice b nd cb) /\ w.heap.size < W.heap.size)) := hide (fun W hW => (HA1.out.below hW).cells)
    have HBW : Hid (∀ W, Below w1.heap.size w1 W -> Below w.heap.size w W) := hide (fun W hW => bkp HB1.out hW)
    refine wp_region_quiet_C (C := fun W => Below w1.heap.size w1 W) (by kernel_rfl) (by kernel_rfl) (bdrew (Below.refl _ _) 1) ?_
    refine unhideP ?_
    repeat
      refine wpQuiet_stepH (fun K hK => ?_)
      go_simp
      first
        | (refine hK _ ?_; clear hK K)
        | (apply Exists.intro
           refine ⟨fun W hW => ?_, hK _ ?_⟩
           first
             | ((with_reducible refine Calls.mono (HC2.out _) ?_); rintro e x ⟨rfl, hb⟩; exact ⟨rfl, bkp hW hb⟩)
             | ((with_reducible refine Calls.mono (HC3.out _ (HBW.out W hW)) ?_); rintro e x ⟨rfl, hb⟩; exact ⟨rfl, bkp hW hb⟩)
             | (obtain ⟨p0, p1, p2, p3⟩ := HCC.out W hW; go_simp; rfl)
           clear hK K)
    refine wpQuiet_nilH ?_
    intro W hW
    have HF := hide (HBW.out W hW)
    clear hW HCC HBW HA1 HB1 x0 x1 x2 x3 HC2 HC3
    rcases hm with rfl | rfl | rfl
    . go_wp2_with fail
      go_ret2
      exact ⟨by first | rfl | simp, HF.out⟩
    . go_wp2_with fail
      go_ret2
      exact ⟨by first | rfl | simp, HF.out⟩
    . go_wp2_with fail
      go_ret2
      exact ⟨by first | rfl | simp, HF.out⟩
  . rw [if_neg hc]
    have d1 : (cqI t q != 0) = true := bne_iff_ne.2 hc
    unfold tV at HC1 ⊢
    generalize cqI t q = c at *
    generalize t.s.length = ns at *
    generalize t.d.length = nd at *
    generalize t.n = n at *
    clear h hc
    go_enter Tryd.func15, Tryd.ntmps15
    go_wp2_with (first | (go_at_call 32; refine (HC1.out _ HB0.out).mono ?_; rintro e w1 ⟨rfl, hb1⟩; have HB1 := hide (bkp HB0.out hb1)))
    go_ret2
    exact ⟨rfl, HB1.out⟩
theorem cs_ok {t : TT} {p : P} (h : csI t p = 0) : chB t = true /\ szB t = true /\ sgB p t.n = true := by
  unfold csI at h
  split at h
  . rename_i hc
    split at h
    . rename_i hq
      exact ⟨hc, ch_size hc, hq⟩
    . cases h
  . cases h
def mbI (t : TT) (p : P) : Int := if csI t p = 0 then memI t p else 0
theorem tMemberP (t : TT) (a b : Option Addr) (ca cb : Nat) (p : P) (hp : Wd p) (w : World) (h : Th w t a b ca cb) :
    Calls Tryd.prog 18 #[tV t a b ca cb, pV p] w fun e w' => e = .returned (.tuple #[.int .i64 (mbI t p), .int .i64 (csI t p)]) /\ Below w.heap.size w w' := by
  have HC1 := hide (fun W (hb : Below w.heap.size w W) => tCheckS t a b ca cb p hp W (h.below hb))
  have HC2 := hide (fun W (hb : Below w.heap.size w W) (hz : szB t = true) => tMember t a b ca cb hz p hp W (h.below hb))
  unfold mbI
  obtain ⟨hA, hP⟩ := two34 w (.int .i64 t.n) (.slice a t.s.length ca) (.slice b t.d.length cb) (.int .i64 p.n) (.int .u64 (p.x : Int)) (.int .u64 (p.z : Int)) (.int .i64 p.ph)
  have HA0 := hide hA
  have HP0 := hide hP
  have HB0 := hide (bkp (bnew w (.cells #[.int .i64 t.n, .slice a t.s.length ca, .slice b t.d.length cb] 24)) (bnew _ (.cells #[.int .i64 p.n, .int .u64 (p.x : Int), .int .u64 (p.z : Int), .int .i64 p.ph] 49)))
  clear hA hP
  by_cases hc : csI t p = 0
  . rw [if_pos hc]
    have hz := (cs_ok hc).2.1
    rw [hc] at HC1 ⊢
    have HC3 := hide (fun W hb => HC2.out W hb hz)
    unfold tV at HC1 HC3 ⊢
    generalize memI t p = m at *
    obtain ⟨pn, px, pz, pph⟩ := p
    unfold pV at HC1 HC3 ⊢
    simp only at *
    generalize t.s.length = ns at *
    generalize t.d.length = nd at *
    generalize t.n = n at *
    clear h hc hz HC2 hp
    go_enter Tryd.func18, Tryd.ntmps18
    go_wp2_with (first
      | (go_at_call 37; refine (HC1.out _ HB0.out).mono ?_; rintro e w1 ⟨rfl, hb1⟩; have HB1 := hide (bkp HB0.out hb1); obtain ⟨x0, x1, x2, x3⟩ := (HA0.out.below hb1).cells; obtain ⟨y0, y1, y2, y3, y4⟩ := (HP0.out.below hb1).cells)
      | (go_at_call 33; refine (HC3.out _ HB1.out).mono ?_; rintro e w2 ⟨rfl, hb2⟩; have HB2 := hide (bkp HB1.out hb2)))
    go_ret2
    exact ⟨rfl, HB2.out⟩
  . rw [if_neg hc]
    have d1 : (csI t p != 0) = true := bne_iff_ne.2 hc
    unfold tV at HC1 ⊢
    generalize csI t p = c at *
    obtain ⟨pn, px, pz, pph⟩ := p
    unfold pV at HC1 ⊢
    simp only at *
    generalize t.s.length = ns at *
    generalize t.d.length = nd at *
    generalize t.n = n at *
    clear h hc HC2 hp
    go_enter Tryd.func18, Tryd.ntmps18
    go_wp2_with (first | (go_at_call 37; refine (HC1.out _ HB0.out).mono ?_; rintro e w1 ⟨rfl, hb1⟩; have HB1 := hide (bkp HB0.out hb1)))
    go_ret2
    exact ⟨rfl, HB1.out⟩
end Go.Proofs.YtpehekonjdneaaaDoor.Tbl
