import Derived.Test.YtoickolhekhgmaaGreatDoorEn8d4fd886
import Derived.Shelf.Abstract
import Derived.Deep.AppendLies
import Derived.Deep.RegionHeld3
import Derived.Lib.SmallJoins
namespace Go.Proofs.YtoickolhekhgmaaGreatDoor.Gt
end Go.Proofs.YtoickolhekhgmaaGreatDoor.Gt
namespace Go.Proofs.YtoickolhekhgmaaGreatDoor.Pau
end Go.Proofs.YtoickolhekhgmaaGreatDoor.Pau
set_option maxRecDepth 100000
set_option maxHeartbeats 8000000
namespace Go.Proofs.YtoickolhekhgmaaGreatDoor.Tbl
open Go.RowKit Go.Shelf Go.Proofs.YtoickolhekhgmaaGreatDoor.Pau Go.Proofs.YtoickolhekhgmaaGreatDoor.Gt
def Tell (D : P -> Prop) (w : World) (fv : Value) (T : P -> Bool) : Prop := ∃ f cap, fv = .func (.func f) #[] cap /\ (∀ args V, (callFunc f args).run Tryz.prog V = .ok (.enter f args) V) /\ ∀ V, Below w.heap.size w V -> ∀ p, D p -> Calls Tryz.prog f (#[pV p] ++ cap) V fun e w' => e = .returned (.bool (T p)) /\ Below V.heap.size V w'
theorem tTurn1 (p q : P) (hp : Wd p) (hq : Wd q) (g : Nat) (w : World) (h : At4 w g (.int .i64 q.n) (.int .u64 (q.x : Int)) (.int .u64 (q.z : Int)) (.int .i64 q.ph)) :
    Calls Tryz.prog 110 #[pV p, .pointer (some ⟨g, 0, none⟩)] w fun e w' => e = .returned (.bool (!cmB p q)) /\ Below w.heap.size w w' := by
  have c1 := fun W => tCommute p q hp hq W
  generalize cmB p q = r at *
  obtain ⟨n, x, z, ph⟩ := p
  obtain ⟨n', x', z', ph'⟩ := q
  unfold pV at *
  simp only at *
  have HB := hide (bnew w (.cells #[.int .i64 n, .int .u64 (x : Int), .int .u64 (z : Int), .int .i64 ph] 27))
  obtain ⟨x0, x1, x2, x3, x4⟩ := (h.below HB.out).cells
  clear hp hq h
  go_enter Tryz.func110, Tryz.ntmps110
  go_wp2_with (go_at_call 111; refine (c1 _).mono ?_; rintro e w1 ⟨rfl, hb1⟩; have HB1 := hide (bkp HB.out hb1))
  go_ret
  exact ⟨rfl, HB1.out⟩
theorem eTurn1 : ∀ args w, (callFunc 110 args).run Tryz.prog w = .ok (.enter 110 args) w := enters_of Tryz.func110 (by kernel_rfl) rfl
theorem tTurning (q : P) (hq : Wd q) (w : World) :
    Calls Tryz.prog 82 #[pV q] w fun e w' => (∃ fv, e = .returned fv /\ Tell Wd w' fv (fun p => !cmB p q)) /\ Below w.heap.size w w' := by
  have HB := hide (bnew w (.cells #[.int .i64 q.n, .int .u64 (q.x : Int), .int .u64 (q.z : Int), .int .i64 q.ph] 27))
  have HA := hide (At4.new w (.int .i64 q.n) (.int .u64 (q.x : Int)) (.int .u64 (q.z : Int)) (.int .i64 q.ph))
  have HT : Hid (Tell Wd (w.alloc (.cells #[.int .i64 q.n, .int .u64 (q.x : Int), .int .u64 (q.z : Int), .int .i64 q.ph] 27)) (.func (.func 110) #[] #[.pointer (some ⟨w.heap.size, 0, none⟩)]) (fun p => !cmB p q)) := hide ⟨110, _, rfl, eTurn1, fun V hb p hp => tTurn1 p q hp hq w.heap.size V (HA.out.below hb)⟩
  generalize (fun p => !cmB p q) = T at *
  obtain ⟨n, x, z, ph⟩ := q
  unfold pV
  simp only at *
  clear hq HA
  go_enter Tryz.func82, Tryz.ntmps82
  go_wp2_with fail
  go_ret
  exact ⟨⟨_, rfl, HT.out⟩, HB.out⟩
def ixF (T : P -> Bool) (l : List P) : Int := if l.any T = true then (l.findIdx T : Int) else -1
theorem tIndexF (D : P -> Prop) (T : P -> Bool) (fv : Value) (l : List P) (hw : ∀ p ∈ l, D p) (ao : Option Addr) (k : Nat) (hn : l.length <= 1000000000000000) (w : World) (hO : PIn w ao l) (hf : Tell D w fv T) :
    Calls Tryz.prog 112 #[.slice ao l.length k, fv] w fun e w' => e = .returned (.int .i64 (ixF T l)) /\ Below w.heap.size w w' := by
  obtain ⟨f, cap, rfl, he, hf⟩ := hf
  have HO := hide hO
  obtain ⟨n, hn'⟩ : ∃ n, l.length = n := ⟨_, rfl⟩
  have HL := hide hn'
  have HW := hide hw
  have HY : Hid (∀ i p, l[i]? = some p -> (l.take i).any T = false -> T p = true -> ixF T l = (i : Int)) := hide (fun i p hp hi hT => by
    have hany : l.any T = true := List.any_eq_true.2 ⟨p, List.mem_of_getElem? hp, hT⟩
    unfold ixF
    rw [if_pos hany]
    have hlt := (List.getElem?_eq_some_iff.1 hp).1
    have he := (List.getElem?_eq_some_iff.1 hp).2
    congr 1
    rw [List.findIdx_eq hlt]
    refine ⟨by rw [he]; exact hT, fun j hj => ?_⟩
    have := List.any_eq_false.1 hi l[j] (List.mem_of_getElem? (i := j) (by rw [List.getElem?_take_of_lt hj, List.getElem?_eq_getElem]))
    simpa using this)
  have HZ : Hid (l.any T = false -> ixF T l = -1) := hide (fun h => by unfold ixF; rw [h]; rfl)
  generalize ixF T l = R at *
  rw [hn'] at hn ⊢
  clear hn' hO hw
  go_enter Tryz.func112, Tryz.ntmps112
  go_wp2_with fail
  go_loopw [5, 8] (fun _ vi wr => ∃ i : Nat, vi = .int .i64 (i : Int) /\ i <= n /\ Hid ((l.take i).any T = false) /\ Below w.heap.size w wr) (fun _ vi _ => n - (Go.RowKit.intOf vi).toNat)
  case atStart => exact ⟨0, rfl, Nat.zero_le _, hide rfl, Below.refl _ _⟩
  case round =>
    obtain ⟨i, rfl, hi, HA, hb⟩ := hrel
    by_cases h : i < n
    . have hd : decide ((i : Int) < (n : Int)) = true := decide_eq_true (by omega)
      obtain ⟨p, hp⟩ : ∃ p, l[i]? = some p := ⟨_, List.getElem?_eq_getElem (by rw [HL.out]; exact h)⟩
      obtain ⟨g, off, rfl, hgl, ⟨a0, a1, a2, a3⟩⟩ := (HO.out.below hb).at hp
      have c1 := hf wr hb p (HW.out p (List.mem_of_getElem? hp))
      have HS : Hid (T p = false -> (l.take (i + 1)).any T = false) := hide (fun e => by
        rw [List.take_add_one, hp, List.any_append, HA.out]
        simp [e])
      have HR : Hid (T p = true -> R = (i : Int)) := hide (fun e => HY.out i p hp HA.out e)
      unfold pV at c1
      generalize T p = po at *
      clear hp
      obtain ⟨m, x, z, ph⟩ := p
      simp only at a0 a1 a2 a3 c1
      cases po with
      | true =>
        have hR := HR.out rfl
        subst hR
        clear HS HR
        go_wp2_with fail
        refine c1.mono ?_
        rintro e w2 ⟨rfl, hb2⟩
        go_wp2_with fail
        go_ret
        exact ⟨rfl, bkp hb hb2⟩
      | false =>
        have HS2 := hide (HS.out rfl)
        clear HS HR
        go_wp2_with fail
        refine c1.mono ?_
        rintro e w2 ⟨rfl, hb2⟩
        go_wp2_with fail
        go_roundw
        case rel => exact ⟨i + 1, by go_num, by omega, HS2, bkp hb hb2⟩
        case measure => simp [Go.RowKit.intOf]; omega
    . obtain rfl : n = i := by omega
      have hz := HA.out
      rw [List.take_of_length_le (by rw [HL.out]; exact Nat.le_refl _)] at hz
      have hR := HZ.out hz
      subst hR
      clear hz HA
      go_wp2_with fail
      go_ret
      exact ⟨rfl, hb⟩
theorem tContainsF (D : P -> Prop) (T : P -> Bool) (fv : Value) (l : List P) (hw : ∀ p ∈ l, D p) (ao : Option Addr) (k : Nat) (hn : l.length <= 1000000000000000) (w : World) (hO : PIn w ao l) (hf : Tell D w fv T) :
    Calls Tryz.prog 83 #[.slice ao l.length k, fv] w fun e w' => e = .returned (.bool (l.any T)) /\ Below w.heap.size w w' := by
  have c1 := tIndexF D T fv l hw ao k hn w hO hf
  have hr : decide (0 <= ixF T l) = l.any T := by
    unfold ixF
    cases l.any T
    . rfl
    . exact decide_eq_true (by simp)
  rw [← hr]
  clear hr
  generalize ixF T l = R at *
  generalize l.length = n at *
  clear hf hO
  go_enter Tryz.func83, Tryz.ntmps83
  go_wp2_with (first | (go_at_call 112; refine c1.mono ?_; rintro e w2 ⟨rfl, hb2⟩))
  go_ret
  exact ⟨rfl, hb2⟩
theorem wd_pd {a b : P} (ha : Wd a) (hb : Wd b) : Wd (pdP a b) := by
  unfold pdP mulR
  split
  . exact ⟨Nat.xor_lt_two_pow (n := 64) ha.1 hb.1, Nat.xor_lt_two_pow (n := 64) ha.2 hb.2⟩
  . exact wd_o
theorem hS14 : Tryz.prog.underlying 27 = some (.struct (Tryz.prog.fieldsOf 27)) := by kernel_rfl
theorem hP14 : Tryz.prog.stoodInHeld 27 = false := by kernel_rfl
theorem eqIn14 (a b c d a' b' c' d' : Int) (w : World) : (Op.equalIn 10000 27 (.agg #[.int .i64 a, .int .u64 b, .int .u64 c, .int .i64 d]) (.agg #[.int .i64 a', .int .u64 b', .int .u64 c', .int .i64 d'])).run Tryz.prog w = .ok (a == a' && b == b' && c == c' && d == d') w := by
  rw [show (10000 : Nat) = 9999 + 1 from rfl, run_equalIn_agg w 9999 27 _ _ hS14 hP14]
  simp only [Program.fieldsOf, Tryz.underlying27]
  go_simp
  by_cases h1 : a = a' <;> by_cases h2 : b = b' <;> by_cases h3 : c = c' <;> by_cases h4 : d = d' <;> simp [h1, h2, h3, h4]
theorem p_beq (a b : P) : (a.n == b.n && (a.x : Int) == (b.x : Int) && (a.z : Int) == (b.z : Int) && a.ph == b.ph) = decide (a = b) := by
  rw [Bool.eq_iff_iff]
  simp only [Bool.and_eq_true, beq_iff_eq, Int.ofNat_inj, decide_eq_true_eq]
  obtain ⟨n, x, z, ph⟩ := a
  obtain ⟨n', x', z', ph'⟩ := b
  simp only [P.mk.injEq, and_assoc]
theorem eql14 (a b : P) (w : World) : (binOp .eql 27 (.agg #[.int .i64 a.n, .int .u64 (a.x : Int), .int .u64 (a.z : Int), .int .i64 a.ph]) (.agg #[.int .i64 b.n, .int .u64 (b.x : Int), .int .u64 (b.z : Int), .int .i64 b.ph])).run Tryz.prog w = .ok (.bool (decide (a = b))) w := by
  rw [run_eql_struct, eqIn14, ← p_beq]
  rfl
def alP (t : TT) (p : P) : Nat -> P
  | 0 => ⟨t.n, 0, 0, 0⟩
  | k + 1 => if cmB (t.d.getD k oP) p = true then alP t p k else pdP (alP t p k) (t.s.getD k oP)
def lsB (t : TT) (p : P) : Bool := t.s.any (fun s => !cmB s p)
def memI (t : TT) (p : P) : Int := if lsB t p = true then 0 else if decide (alP t p t.n.toNat = p) = true then 1 else -1
theorem wd_al {t : TT} (h : Wl t.s) (p : P) : ∀ k, k <= t.s.length -> Wd (alP t p k)
  | 0, _ => ⟨(by decide : (0 : Nat) < 18446744073709551616), (by decide : (0 : Nat) < 18446744073709551616)⟩
  | k + 1, hk => by
    rw [alP]
    split
    . exact wd_al h p k (by omega)
    . exact wd_pd (wd_al h p k (by omega)) (h.getD (by omega))
theorem At4.rowP {w : World} {g : Nat} {a b c d a' b' c' d' : Value} (h : At4 w g a b c d) : At4 (w.setRow g #[a', b', c', d']) g a' b' c' d' := setRow_heap _ _ _ _ _ _ h
theorem At4.offR {w : World} {g k : Nat} {a b c d : Value} {cs : Array Value} (h : At4 w g a b c d) (hk : g ≠ k) : At4 (w.setRow k cs) g a b c d := (setRow_other _ _ _ _ hk).trans h
theorem At3.offR {w : World} {g k : Nat} {a b c : Value} {cs : Array Value} (h : At3 w g a b c) (hk : g ≠ k) : At3 (w.setRow k cs) g a b c := (setRow_other _ _ _ _ hk).trans h
theorem tMember (t : TT) (a b : Option Addr) (ca cb : Nat) (hz : szB t = true) (p : P) (hp : Wd p) (w : World) (h : Th w t a b ca cb) :
    Calls Tryz.prog 52 #[tV t a b ca cb, pV p] w fun e w' => e = .returned (.int .i64 (memI t p)) /\ Below w.heap.size w w' := by
  obtain ⟨h0, h64, hls, hld⟩ := sz_of hz
  obtain ⟨N, hN⟩ : ∃ N : Nat, t.n = (N : Int) := ⟨t.n.toNat, by omega⟩
  rw [hN, Int.toNat_natCast] at hls hld
  have hN64 : N <= 64 := by omega
  have HG : Hid (∀ k, k < N -> ∀ W, Below w.heap.size w W -> (∃ gs os, a = some ⟨gs, os, none⟩ /\ gs < W.heap.size /\ Pc W gs (os + k * 4) (t.s.getD k oP)) /\ (∃ gd od, b = some ⟨gd, od, none⟩ /\ gd < W.heap.size /\ Pc W gd (od + k * 4) (t.d.getD k oP))) := hide (fun k hk W hb => ⟨(h.s.below hb).at (get_of (by omega)), (h.d.below hb).at (get_of (by omega))⟩)
  have c1 := fun W => tTurning p hp W
  have c2 := fun W fv hb hf => tContainsF Wd (fun s => !cmB s p) fv t.s h.ws a ca h.na W (h.s.below hb) hf
  have HWs := hide h.ws
  have HWd := hide h.wd
  have HAL := hide (wd_al (t := t) h.ws p)
  have HPR : Hid (∀ k, k < N -> ∀ W, Calls Tryz.prog 84 #[pV (alP t p k), pV (t.s.getD k oP)] W fun e w' => e = .returned (pV (pdP (alP t p k) (t.s.getD k oP))) /\ Below W.heap.size W w') := hide (fun k hk W => tProduct _ _ (wd_al h.ws p k (by omega)) (h.ws.getD (by omega)) W)
  have HD : Hid (∀ k, k < N -> Wd (t.d.getD k oP)) := hide (fun k hk => h.wd.getD (by omega))
  have HT : Hid (∀ k, k < N -> (cmB (t.d.getD k oP) p = true -> alP t p (k + 1) = alP t p k) /\ (cmB (t.d.getD k oP) p = false -> alP t p (k + 1) = pdP (alP t p k) (t.s.getD k oP))) := hide (fun k hk => ⟨fun e => by rw [alP, if_pos e], fun e => by rw [alP, if_neg (by rw [e]; decide)]⟩)
  have hq := fun a b W => eql14 a b W
  have HM : Hid (memI t p = if lsB t p = true then 0 else if decide (alP t p N = p) = true then 1 else -1) := hide (by unfold memI; rw [hN, Int.toNat_natCast])
  have HA0 : Hid (alP t p 0 = ⟨N, 0, 0, 0⟩) := hide (by rw [alP, hN])
  unfold tV
  rw [hls] at c2
  rw [hN, hls, hld]
  change ∀ W fv, Below w.heap.size w W -> Tell Wd W fv (fun s => !cmB s p) -> Calls Tryz.prog 83 #[.slice a N ca, fv] W fun e w' => e = .returned (.bool (lsB t p)) /\ Below W.heap.size W w' at c2
  generalize lsB t p = ls at *
  generalize memI t p = R at *
  have HTE : Hid (∀ W fv, Tell Wd W fv (fun s => !cmB s p) -> ∃ f cap, fv = .func (.func f) #[] cap /\ (∀ args V, (callFunc f args).run Tryz.prog V = .ok (.enter f args) V) /\ ∀ V, Below W.heap.size W V -> ∀ s, Wd s -> Calls Tryz.prog f (#[pV s] ++ cap) V fun e w' => e = .returned (.bool (!cmB s p)) /\ Below V.heap.size V w') := hide (fun W fv h => h)
  generalize hA : alP t p = A at *
  clear h hz h0 h64 hls hld hN hA
  have HB0 := hide (bkp (bnew w (.cells #[.int .i64 (N : Int), .slice a N ca, .slice b N cb] 30)) (bnew _ (.cells #[.int .i64 p.n, .int .u64 (p.x : Int), .int .u64 (p.z : Int), .int .i64 p.ph] 27)))
  have HA1 := hide ((At3.new w (.int .i64 (N : Int)) (.slice a N ca) (.slice b N cb)).below (bnew _ (.cells #[.int .i64 p.n, .int .u64 (p.x : Int), .int .u64 (p.z : Int), .int .i64 p.ph] 27)))
  have HA2 : Hid (At4 ((w.alloc (.cells #[.int .i64 (N : Int), .slice a N ca, .slice b N cb] 30)).alloc (.cells #[.int .i64 p.n, .int .u64 (p.x : Int), .int .u64 (p.z : Int), .int .i64 p.ph] 27)) (w.heap.size + 1) (.int .i64 p.n) (.int .u64 (p.x : Int)) (.int .u64 (p.z : Int)) (.int .i64 p.ph)) := hide (by
    have := At4.new (w.alloc (.cells #[.int .i64 (N : Int), .slice a N ca, .slice b N cb] 30)) (.int .i64 p.n) (.int .u64 (p.x : Int)) (.int .u64 (p.z : Int)) (.int .i64 p.ph)
    simpa using this)
  generalize hpp : p = pp at *
  obtain ⟨pn, px, pz, pph⟩ := pp
  unfold pV at c1 ⊢
  simp only at *
  go_enter Tryz.func52, Tryz.ntmps52
  go_wp2_with fail
  refine (c1 _).mono ?_
  rintro e w1 ⟨⟨fv, rfl, hT⟩, hb1⟩
  have HB1 := hide (bkp HB0.out hb1)
  have HX1 := hide (HA1.out.below hb1)
  have HX2 := hide (HA2.out.below hb1)
  have HT1 := hide hT
  clear hb1 hT HB0 HA1 HA2 c1
  obtain ⟨x0, x1, x2, x3⟩ := HX1.out.cells
  go_wp2_with fail
  refine (c2 _ _ HB1.out HT1.out).mono ?_
  rintro e w2 ⟨rfl, hb2⟩
  have HB2 := hide (bkp HB1.out hb2)
  have HY1 := hide (HX1.out.below hb2)
  have HY2 := hide (HX2.out.below hb2)
  have HK2 := hide hb2
  clear hb2 HX1 HX2 c2 x0 x1 x2 x3
  obtain ⟨f, cap, rfl, he, hf⟩ := HTE.out _ _ HT1.out
  cases ls with
  | true =>
    have hR := HM.out
    rw [if_pos rfl] at hR
    subst hR
    go_wp2_with fail
    go_ret
    exact ⟨rfl, HB2.out⟩
  | false =>
    have hR := HM.out
    rw [if_neg (by decide)] at hR
    have HM2 := hide hR
    clear HM hR
    obtain ⟨x0, x1, x2, x3⟩ := HY1.out.cells
    go_wp2_with fail
    have hbn := bnew w2 (.cells #[.int .i64 (N : Int), .int .u64 0, .int .u64 0, .int .i64 0] 27)
    have HI0 : Hid (Below w1.heap.size w1 (w2.alloc (.cells #[.int .i64 (N : Int), .int .u64 0, .int .u64 0, .int .i64 0] 27)) /\ At3 (w2.alloc (.cells #[.int .i64 (N : Int), .int .u64 0, .int .u64 0, .int .i64 0] 27)) w.heap.size (.int .i64 (N : Int)) (.slice a N ca) (.slice b N cb) /\ At4 (w2.alloc (.cells #[.int .i64 (N : Int), .int .u64 0, .int .u64 0, .int .i64 0] 27)) (w.heap.size + 1) (.int .i64 pn) (.int .u64 (px : Int)) (.int .u64 (pz : Int)) (.int .i64 pph) /\ At4 (w2.alloc (.cells #[.int .i64 (N : Int), .int .u64 0, .int .u64 0, .int .i64 0] 27)) w2.heap.size (.int .i64 (A 0).n) (.int .u64 ((A 0).x : Int)) (.int .u64 ((A 0).z : Int)) (.int .i64 (A 0).ph)) := hide ⟨bkp HK2.out hbn, HY1.out.below hbn, HY2.out.below hbn, by rw [HA0.out]; exact At4.new _ _ _ _ _⟩
    have hg1 : w1.heap.size <= w2.heap.size := HK2.out.size
    have hg2 : w.heap.size + 1 < w2.heap.size := HY2.out.lt
    clear HY1 HY2 HK2 hbn x0 x1 x2 x3 HA0 HB2
    generalize w2.alloc (.cells #[.int .i64 (N : Int), .int .u64 0, .int .u64 0, .int .i64 0] 27) = W2 at *
    generalize w2.heap.size = ga at *
    go_loopw [19] (fun vi wr => ∃ i : Nat, vi = .int .i64 (i : Int) /\ i <= N /\ Hid (Below w1.heap.size w1 wr /\ At3 wr w.heap.size (.int .i64 (N : Int)) (.slice a N ca) (.slice b N cb) /\ At4 wr (w.heap.size + 1) (.int .i64 pn) (.int .u64 (px : Int)) (.int .u64 (pz : Int)) (.int .i64 pph) /\ At4 wr ga (.int .i64 (A i).n) (.int .u64 ((A i).x : Int)) (.int .u64 ((A i).z : Int)) (.int .i64 (A i).ph))) (fun vi _ => N - (Go.RowKit.intOf vi).toNat)
    case atStart => exact ⟨0, rfl, Nat.zero_le _, HI0⟩
    case round =>
      obtain ⟨i, rfl, hi, HI⟩ := hrel
      clear HI0
      by_cases hlt : i < N
      . have hd : decide ((i : Int) < (N : Int)) = true := decide_eq_true (by omega)
        obtain ⟨x0, x1, x2, x3⟩ := HI.out.2.1.cells
        obtain ⟨⟨gs, os, rfl, -, -⟩, ⟨gd, od, rfl, hgd, hpd⟩⟩ := HG.out i hlt _ (bkp HB1.out HI.out.1)
        have HGS : Hid (∀ W, Below w.heap.size w W -> gs < W.heap.size /\ Pc W gs (os + i * 4) (t.s.getD i oP)) := hide (fun W hW => by
          obtain ⟨⟨gs', os', e, h1, h2⟩, -⟩ := HG.out i hlt W hW
          cases e
          exact ⟨h1, h2⟩)
        have c3 := hf wr HI.out.1 _ (HD.out i hlt)
        have c4 := HPR.out i hlt
        obtain ⟨ht1, ht2⟩ := HT.out i hlt
        generalize cmB (t.d.getD i oP) ⟨pn, px, pz, pph⟩ = r at *
        generalize hNX : A (i + 1) = B at *
        have HNX := hide hNX
        clear hNX
        generalize pdP (A i) (t.s.getD i oP) = C at *
        generalize t.d.getD i oP = dd at *
        generalize t.s.getD i oP = ss at *
        generalize A i = AA at *
        obtain ⟨m1, y1, z1, p1⟩ := dd
        obtain ⟨m2, y2, z2, p2⟩ := ss
        obtain ⟨m3, y3, z3, p3⟩ := AA
        obtain ⟨m4, y4, z4, p4⟩ := C
        obtain ⟨a0, a1, a2, a3⟩ := hpd
        unfold pV at c3 c4
        simp only at *
        cases r with
        | true =>
          have hB := ht1 rfl
          subst hB
          clear ht1 ht2
          go_wp2_with fail
          refine c3.mono ?_
          rintro e w5 ⟨rfl, hb5⟩
          have HI5 := hide (And.intro (bkp HI.out.1 hb5) (And.intro (HI.out.2.1.below hb5) (And.intro (HI.out.2.2.1.below hb5) (HI.out.2.2.2.below hb5))))
          clear hb5 HI
          go_wp2_with fail
          go_roundw
          case rel => exact ⟨i + 1, by go_num, by omega, hide ⟨HI5.out.1, HI5.out.2.1, HI5.out.2.2.1, by rw [HNX.out]; exact HI5.out.2.2.2⟩⟩
          case measure => simp [Go.RowKit.intOf]; omega
        | false =>
          have hB := ht2 rfl
          subst hB
          clear ht1 ht2
          go_wp2_with fail
          refine c3.mono ?_
          rintro e w5 ⟨rfl, hb5⟩
          have HI5 := hide (And.intro (bkp HI.out.1 hb5) (And.intro (HI.out.2.1.below hb5) (And.intro (HI.out.2.2.1.below hb5) (HI.out.2.2.2.below hb5))))
          clear hb5 HI a0 a1 a2 a3 x0 x1 x2 x3 c3 hgd
          go_wp2_with fail
          have HC : Hid (∀ W, Below w5.heap.size w5 W -> (W.cell? ⟨w.heap.size, 0, none⟩ = some (.int .i64 (N : Int)) /\ W.cell? ⟨w.heap.size, 1, none⟩ = some (.slice (some ⟨gs, os, none⟩) N ca) /\ W.cell? ⟨w.heap.size, 2, none⟩ = some (.slice (some ⟨gd, od, none⟩) N cb) /\ w.heap.size < W.heap.size) /\ (W.cell? ⟨ga, 0, none⟩ = some (.int .i64 m3) /\ W.cell? ⟨ga, 1, none⟩ = some (.int .u64 (y3 : Int)) /\ W.cell? ⟨ga, 2, none⟩ = some (.int .u64 (z3 : Int)) /\ W.cell? ⟨ga, 3, none⟩ = some (.int .i64 p3) /\ ga < W.heap.size) /\ Pc W gs (os + i * 4) ⟨m2, y2, z2, p2⟩ /\ gs < W.heap.size) := hide (fun W hW => by
            have hw := HGS.out W (bkp HB1.out (bkp HI5.out.1 hW))
            exact ⟨(HI5.out.2.1.below hW).cells, (HI5.out.2.2.2.below hW).cells, hw.2, hw.1⟩)
          refine wp_region_quiet_last (C := fun W => Below w5.heap.size w5 W) (by kernel_rfl) 7 rfl (by kernel_rfl) (by kernel_rfl) (bdrew (Below.refl _ _) 1) ?_
          simp only [List.take_succ_cons, List.take_zero]
          repeat
            refine wpQuiet_step (fun K hK => ?_)
            go_simp
            first
              | (refine hK _ ?_; clear hK K)
              | (apply Exists.intro
                 refine ⟨fun W hW => ?_, hK _ ?_⟩
                 first
                   | ((with_reducible refine Calls.mono (c4 _) ?_); rintro e x ⟨rfl, hb⟩; exact ⟨rfl, bkp hW hb⟩)
                   | (obtain ⟨⟨q0, q1, q2, q3⟩, ⟨r0, r1, r2, r3, r4⟩, ⟨a0, a1, a2, a3⟩, s1⟩ := HC.out W hW; go_simp; rfl)
                 clear hK K)
          refine wpQuiet_nil ?_
          intro W hW
          have hR := HI5.out.2.2.2.below hW
          have HN1 := hide (And.intro (below_setRow (bkp HI5.out.1 hW) hg1 #[.int .i64 m4, .int .u64 (y4 : Int), .int .u64 (z4 : Int), .int .i64 p4]) (And.intro ((HI5.out.2.1.below hW).offR (k := ga) (cs := #[.int .i64 m4, .int .u64 (y4 : Int), .int .u64 (z4 : Int), .int .i64 p4]) (by omega)) (And.intro (At4.offR (HI5.out.2.2.1.below hW) (k := ga) (cs := #[.int .i64 m4, .int .u64 (y4 : Int), .int .u64 (z4 : Int), .int .i64 p4]) (by omega)) (At4.rowP (HI5.out.2.2.2.below hW) (a' := .int .i64 m4) (b' := .int .u64 (y4 : Int)) (c' := .int .u64 (z4 : Int)) (d' := .int .i64 p4)))))
          unfold At4 at hR
          clear hW HC HI5
          go_wp2_with (first
            | (refine wpList_store_row rfl _ _ _ rfl ga _ rfl rfl _ _ hR (by exact infoP) (by rfl) (allP _ _ _ _) ?_))
          go_roundw
          case rel => exact ⟨i + 1, by go_num, by omega, hide ⟨HN1.out.1, HN1.out.2.1, HN1.out.2.2.1, by rw [HNX.out]; exact HN1.out.2.2.2⟩⟩
          case measure => simp [Go.RowKit.intOf]; omega
      . obtain rfl : N = i := by omega
        have hd : decide ((N : Int) < (N : Int)) = false := decide_eq_false (by omega)
        obtain ⟨x0, x1, x2, x3, x4⟩ := HI.out.2.2.1.cells
        obtain ⟨y0, y1, y2, y3, y4⟩ := HI.out.2.2.2.cells
        have hq' := fun W => hq (A N) ⟨pn, px, pz, pph⟩ W
        have hR := HM2.out
        have HF := hide (bkp HB1.out HI.out.1)
        simp only at hq'
        generalize decide (A N = ⟨pn, px, pz, pph⟩) = rr at *
        cases rr with
        | true =>
          rw [if_pos rfl] at hR
          subst hR
          clear HM2 HI hq
          go_wp2_with fail
          go_ret
          exact ⟨rfl, HF.out⟩
        | false =>
          rw [if_neg (by decide)] at hR
          subst hR
          clear HM2 HI hq
          go_wp2_with fail
          go_ret
          exact ⟨rfl, HF.out⟩
def c4 (p : P) : List Value := [.int .i64 p.n, .int .u64 (p.x : Int), .int .u64 (p.z : Int), .int .i64 p.ph]
end Go.Proofs.YtoickolhekhgmaaGreatDoor.Tbl
