import Derived.Test.YtpehekonjdneaaaDoorKe3d40ad7
set_option maxRecDepth 100000
set_option maxHeartbeats 8000000
namespace Go.Proofs.YtpehekonjdneaaaDoor.Tbl
open Go.RowKit Go.Shelf Go.Proofs.YtpehekonjdneaaaDoor.Pau Go.Proofs.YtpehekonjdneaaaDoor.Gt
def ulG (n : Int) : List Int -> Nat -> Bool
  | [], _ => true
  | q :: l, m => decide (0 <= q) && decide (q < n) && decide (bt m q.toNat = 0) && ulG n l (m ||| 2 ^ q.toNat)
def ulB (n : Int) (l : List Int) : Bool := ulG n l 0
def mkG : List Int -> Nat -> Nat
  | [], m => m
  | q :: l, m => mkG l (m ||| 2 ^ q.toNat)
theorem or_run (m q : Nat) (hm : m < 18446744073709551616) (hq : q < 64) : bits .or .u64 (m : Int) ((2 ^ q : Nat) : Int) = ((m ||| 2 ^ q : Nat) : Int) := u64_or_nat _ _ hm (pow_lt64 hq)
theorem or_lt64 {m q : Nat} (hm : m < 18446744073709551616) (hq : q < 64) : m ||| 2 ^ q < 18446744073709551616 := Nat.or_lt_two_pow (n := 64) hm (pow_lt64 hq)
theorem tUnlike (l : List Int) (hl : l.length <= 1000000000000000) (n : Nat) (hn : n <= 64) (ao : Option Addr) (c : Nat) (w : World) (hN : Ns w ao l) :
    Calls Tryd.prog 22 #[.slice ao l.length c, .int .i64 (n : Int)] w fun e w' => e = .returned (.bool (ulB (n : Int) l)) /\ Below w.heap.size w w' := by
  have HN := hide hN
  obtain ⟨k, hk⟩ : ∃ k, l.length = k := ⟨_, rfl⟩
  have HL := hide hk
  rw [hk] at hl ⊢
  unfold ulB
  have HR : Hid (ulG (n : Int) l 0 = ulG (n : Int) (l.drop 0) 0) := hide (by rw [List.drop_zero])
  have hb2 := Pau.bit_run
  have hsh := shl_one
  have hor := or_run
  generalize ulG (n : Int) l 0 = R at *
  clear hN hk
  go_enter Tryd.func22, Tryd.ntmps22
  go_wp2_with fail
  go_loopw [5, 10] (fun vm vi wr => ∃ i m : Nat, vm = .int .u64 (m : Int) /\ vi = .int .i64 (i : Int) /\ i <= k /\ m < 18446744073709551616 /\ Hid (R = ulG (n : Int) (l.drop i) m) /\ Below w.heap.size w wr) (fun _ vi _ => k - (Go.RowKit.intOf vi).toNat)
  case atStart => exact ⟨0, 0, rfl, rfl, Nat.zero_le _, by decide, HR, Below.refl _ _⟩
  case round =>
    obtain ⟨i, m, rfl, rfl, hi, hm, HS, hb⟩ := hrel
    clear HR
    by_cases h : i < k
    . have hd : decide ((i : Int) < (k : Int)) = true := decide_eq_true (by omega)
      obtain ⟨q, hq⟩ : ∃ q, l[i]? = some q := ⟨_, List.getElem?_eq_getElem (by rw [HL.out]; exact h)⟩
      have hne : l ≠ [] := fun e => by rw [e] at hq; simp at hq
      obtain ⟨g, off, rfl, hc⟩ := (HN.out.below hb).resolve_left hne
      have a0 := hc i q hq
      have a1 := World.block_lt_of_cell? _ _ a0
      have hdr : l.drop i = q :: l.drop (i + 1) := by
        have hlt := (List.getElem?_eq_some_iff.1 hq).1
        have he := (List.getElem?_eq_some_iff.1 hq).2
        rw [List.drop_eq_getElem_cons hlt, he]
      have HS2 : Hid (R = (decide (0 <= q) && decide (q < (n : Int)) && decide (bt m q.toNat = 0) && ulG (n : Int) (l.drop (i + 1)) (m ||| 2 ^ q.toNat))) := hide (by rw [HS.out, hdr, ulG])
      clear hq hne hc hdr HS
      by_cases h0 : q < 0
      . have d0 : decide (q < 0) = true := decide_eq_true h0
        have hR : R = false := by rw [HS2.out, decide_eq_false (show ¬ 0 <= q by omega)]; rfl
        subst hR
        clear HS2 hb2 hsh hor
        go_wp2_with fail
        go_ret
        exact ⟨rfl, hb⟩
      . have d0 : decide (q < 0) = false := decide_eq_false h0
        by_cases h1 : (n : Int) <= q
        . have d1 : decide ((n : Int) <= q) = true := decide_eq_true h1
          have hR : R = false := by rw [HS2.out, decide_eq_false (show ¬ q < (n : Int) by omega)]; simp
          subst hR
          clear HS2 hb2 hsh hor
          go_wp2_with fail
          go_ret
          exact ⟨rfl, hb⟩
        . have d1 : decide ((n : Int) <= q) = false := decide_eq_false h1
          obtain ⟨x, rfl⟩ : ∃ x : Nat, q = (x : Int) := ⟨q.toNat, by omega⟩
          rw [Int.toNat_natCast] at HS2
          have hx : x < 64 := by omega
          have hx64 : (x : Int) <= 64 := by omega
          have b2 := hb2 m x hm
          have s1 := hsh x hx
          have o1 := hor m x hm hx
          have HLT := hide (or_lt64 hm hx)
          have hbl := bt_lt m x
          have HS3 : Hid (R = (decide (bt m x = 0) && ulG (n : Int) (l.drop (i + 1)) (m ||| 2 ^ x))) := hide (by rw [HS2.out, decide_eq_true (show (0 : Int) <= (x : Int) by omega), decide_eq_true (show (x : Int) < (n : Int) by omega)]; simp)
          clear HS2 hb2 hsh hor
          generalize bt m x = y at *
          generalize m ||| 2 ^ x = m2 at *
          have hy : y = 0 ∨ y = 1 := by omega
          rcases hy with rfl | rfl
          . have HS4 : Hid (R = ulG (n : Int) (l.drop (i + 1)) m2) := hide (by rw [HS3.out]; simp)
            clear HS3
            go_wp2_with fail
            go_roundw
            case rel => exact ⟨i + 1, m2, by rw [show (2 : Int) ^ x = ((2 ^ x : Nat) : Int) by simp, o1], by go_num, by omega, HLT.out, HS4, hb⟩
            case measure => simp [Go.RowKit.intOf]; omega
          . have hR : R = false := by rw [HS3.out]; simp
            subst hR
            clear HS3
            go_wp2_with fail
            go_ret
            exact ⟨rfl, hb⟩
    . obtain rfl : k = i := by omega
      have hR : R = true := by
        rw [HS.out, List.drop_eq_nil_of_le (by rw [HL.out]; exact Nat.le_refl _)]
        rfl
      subst hR
      clear HS
      go_wp2_with fail
      go_ret
      exact ⟨rfl, hb⟩
def mkP (m : Nat) (n : Int) (p : P) : P := ⟨n, p.x &&& m, p.z &&& m, 0⟩
def cuL (t : TT) (l : List Int) : List P := (List.range t.s.length).map (fun i => mkP (mkG l 0) t.n (t.s.getD i oP))
def cuR (t : TT) (l : List Int) : Int × Int := if chB t = true then (if ulB t.n l = true then (((redS t.n.toNat (cuL t l) (2 * t.n.toNat)).2 : Int) - (l.length : Int), 0) else (0, 2)) else (0, 140)
theorem ul_len {n : Nat} (hn : n <= 64) : ∀ (l : List Int) (m : Nat), ulG (n : Int) l m = true -> (∀ q ∈ l, 0 <= q /\ q < (n : Int))
  | [], _, _ => by simp
  | q :: l, m, h => by
    rw [ulG, Bool.and_eq_true, Bool.and_eq_true, Bool.and_eq_true] at h
    obtain ⟨⟨⟨h1, h2⟩, -⟩, h4⟩ := h
    intro x hx
    rcases List.mem_cons.1 hx with rfl | hx
    . exact ⟨of_decide_eq_true h1, of_decide_eq_true h2⟩
    . exact ul_len hn l _ h4 x hx
theorem mk_lt {n : Nat} (hn : n <= 64) : ∀ (l : List Int) (m : Nat), (∀ q ∈ l, 0 <= q /\ q < (n : Int)) -> m < 18446744073709551616 -> mkG l m < 18446744073709551616
  | [], m, _, hm => hm
  | q :: l, m, h, hm => by
    rw [mkG]
    have hq := h q (List.mem_cons_self ..)
    exact mk_lt hn l _ (fun x hx => h x (List.mem_cons_of_mem _ hx)) (or_lt64 hm (by omega))
theorem rr_mk {N : Nat} {p : P} (h : Rr N p) (m : Nat) : Rr N (mkP m (N : Int) p) := by
  obtain ⟨h1, h2⟩ := h
  obtain ⟨a, b, c, d, e, f⟩ := rt_iff.1 h1
  refine ⟨rt_iff.2 ⟨by show (0 : Int) <= (N : Int); omega, by show (N : Int) <= 64; omega, ?_, ?_, by show (0 : Int) <= 0; decide, by show (0 : Int) <= 3; decide⟩, rfl⟩
  . rw [h2] at c
    exact Nat.lt_of_le_of_lt Nat.and_le_left c
  . rw [h2] at d
    exact Nat.lt_of_le_of_lt Nat.and_le_left d
theorem tCut_no (t : TT) (a b : Option Addr) (ca cb : Nat) (l : List Int) (hl : l.length <= 1000000000000000) (ao : Option Addr) (c : Nat) (hno : ¬ (chB t = true /\ ulB t.n l = true)) (w : World) (h : Th w t a b ca cb) (hN : Ns w ao l) :
    Calls Tryd.prog 8 #[tV t a b ca cb, .slice ao l.length c] w fun e w' => e = .returned (.tuple #[.int .i64 (cuR t l).1, .int .i64 (cuR t l).2]) /\ Below w.heap.size w w' := by
  have HC1 := hide (fun W (hb : Below w.heap.size w W) => tCheck t a b ca cb W (h.below hb))
  have HB0 := hide (bnew w (.cells #[.int .i64 t.n, .slice a t.s.length ca, .slice b t.d.length cb] 24))
  have HA0 := hide (At3.new w (.int .i64 t.n) (.slice a t.s.length ca) (.slice b t.d.length cb))
  unfold cuR
  unfold chI at HC1
  cases hc : chB t with
  | false =>
    rw [hc] at HC1
    simp only [Bool.false_eq_true, if_false] at HC1 ⊢
    unfold tV at HC1 ⊢
    generalize t.s.length = ns at *
    generalize t.d.length = nd at *
    generalize t.n = n at *
    generalize l.length = m at *
    clear h hN hno hc
    go_enter Tryd.func8, Tryd.ntmps8
    go_wp2_with (first | (go_at_call 10; refine (HC1.out _ HB0.out).mono ?_; rintro e w1 ⟨rfl, hb1⟩; have HB1 := hide (bkp HB0.out hb1)))
    go_ret2
    exact ⟨rfl, HB1.out⟩
  | true =>
    obtain ⟨h0, h64, -, -⟩ := sz_of (ch_size hc)
    obtain ⟨N, hNn⟩ : ∃ N : Nat, t.n = (N : Int) := ⟨t.n.toNat, by omega⟩
    have hu : ulB t.n l = false := by
      cases e : ulB t.n l
      . rfl
      . exact absurd ⟨hc, e⟩ hno
    rw [hu]
    rw [hc] at HC1
    have HC2 := hide (fun W (hb : Below w.heap.size w W) => tUnlike l hl N (by omega) ao c W (hN.below hb))
    rw [← hNn, hu] at HC2
    simp only [if_true, Bool.false_eq_true, if_false] at HC1 ⊢
    unfold tV at HC1 ⊢
    generalize t.s.length = ns at *
    generalize t.d.length = nd at *
    generalize t.n = n at *
    generalize l.length = m at *
    clear h hN hno hc h0 h64 hNn hu
    go_enter Tryd.func8, Tryd.ntmps8
    go_wp2_with (first
      | (go_at_call 10; refine (HC1.out _ HB0.out).mono ?_; rintro e w1 ⟨rfl, hb1⟩; have HB1 := hide (bkp HB0.out hb1); obtain ⟨x0, x1, x2, x3⟩ := (HA0.out.below hb1).cells)
      | (go_at_call 22; refine (HC2.out _ HB1.out).mono ?_; rintro e w2 ⟨rfl, hb2⟩; have HB2 := hide (bkp HB1.out hb2)))
    go_ret2
    exact ⟨rfl, HB2.out⟩
theorem tCut_ok (t : TT) (a b : Option Addr) (ca cb : Nat) (l : List Int) (hl : l.length <= 1000000000000000) (ao : Option Addr) (c : Nat) (hc : chB t = true) (hu : ulB t.n l = true) (w : World) (h : Th w t a b ca cb) (hN : Ns w ao l) :
    Calls Tryd.prog 8 #[tV t a b ca cb, .slice ao l.length c] w fun e w' => e = .returned (.tuple #[.int .i64 (((redS t.n.toNat (cuL t l) (2 * t.n.toNat)).2 : Int) - (l.length : Int)), .int .i64 0]) /\ Below w.heap.size w w' := by
  obtain ⟨h0, h64, hls, hld⟩ := sz_of (ch_size hc)
  obtain ⟨N, hNn⟩ : ∃ N : Nat, t.n = (N : Int) := ⟨t.n.toNat, by omega⟩
  have hN64 : N <= 64 := by omega
  rw [hNn, Int.toNat_natCast] at hls hld
  have hrr := (ch_rr hc).1
  rw [hNn, Int.toNat_natCast] at hrr
  have HC1 := hide (fun W (hb : Below w.heap.size w W) => tCheck t a b ca cb W (h.below hb))
  unfold chI at HC1
  rw [if_pos hc] at HC1
  have HC2 := hide (fun W (hb : Below w.heap.size w W) => tUnlike l hl N hN64 ao c W (hN.below hb))
  rw [← hNn, hu] at HC2
  have hin := ul_len hN64 l 0 (by rw [← hNn]; exact hu)
  have hmk := mk_lt hN64 l 0 hin (by decide)
  have hcl : cuL t l = (List.range N).map (fun i => mkP (mkG l 0) (N : Int) (t.s.getD i oP)) := by unfold cuL; rw [hls, hNn]
  have hcr : ∀ p ∈ cuL t l, Rr N p := by
    intro p hp
    rw [hcl] at hp
    obtain ⟨i, hi, rfl⟩ := List.mem_map.1 hp
    exact rr_mk (hrr _ (List.mem_of_getElem? (get_of (by rw [hls]; exact List.mem_range.1 hi)))) _
  have hcn : (cuL t l).length = N := by rw [hcl]; simp
  have HC3 : Hid (∀ W g, PO W g (fillL N (fun i => mkP (mkG l 0) (N : Int) (t.s.getD i oP)) N) -> Calls Tryd.prog 23 #[.slice (some ⟨g, 0, none⟩) N N, .int .i64 (N : Int)] W fun e w' => e = .returned (.int .i64 ((redS N (cuL t l) (2 * N)).2 : Int)) /\ Bx g W w') := hide (fun W g hO => by
    rw [fill_all, ← hcl] at hO
    have := tReduce N (cuL t l) hcr hN64 (by omega) g N (by omega) W hO
    rw [hcn] at this
    refine this.mono ?_
    rintro e w' ⟨h1, -, h3⟩
    exact ⟨h1, h3⟩)
  have hrk := redS_rank N (cuL t l) (2 * N)
  rw [hcn] at hrk
  have HG : Hid (∀ i, i < N -> ∀ W, Below w.heap.size w W -> ∃ gs os, a = some ⟨gs, os, none⟩ /\ gs < w.heap.size /\ Pc W gs (os + i * 4) (t.s.getD i oP)) := hide (fun i hi W hb => by
    obtain ⟨gs, os, e1, h1, p1⟩ := h.s.at (get_of (show i < t.s.length by omega))
    exact ⟨gs, os, e1, h1, p1.below hb⟩)
  have HW : Hid (∀ i, i < N -> Wd (t.s.getD i oP)) := hide (fun i hi => h.ws.getD (by omega))
  have HIN := hide hin
  have HB0 := hide (bnew w (.cells #[.int .i64 (N : Int), .slice a N ca, .slice b N cb] 24))
  have HA0 := hide (At3.new w (.int .i64 (N : Int)) (.slice a N ca) (.slice b N cb))
  have HN := hide hN
  have HMK : Hid (mkG (l.drop 0) 0 = mkG l 0) := hide (by rw [List.drop_zero])
  have hmake := fun W => make_p N (by omega) W
  unfold tV at HC1 ⊢
  rw [hNn, hls, hld] at HC1
  rw [hNn, hls, hld, Int.toNat_natCast]
  rw [hNn] at HC2
  generalize (redS N (cuL t l) (2 * N)).2 = rk at *
  have HF : Hid (∀ i, (fun i => mkP (mkG l 0) (N : Int) (t.s.getD i oP)) i = mkP (mkG l 0) (N : Int) (t.s.getD i oP)) := hide (fun _ => rfl)
  generalize (fun i => mkP (mkG l 0) (N : Int) (t.s.getD i oP)) = F at *
  generalize mkG l 0 = MK at *
  obtain ⟨k, hk⟩ : ∃ k, l.length = k := ⟨_, rfl⟩
  have HL := hide hk
  rw [hk] at hl HC2 ⊢
  have hor := or_run
  have hsh := shl_one
  clear hc hu h hN h0 h64 hls hld hNn hrr hin hcl hcr hcn hk
  go_enter Tryd.func8, Tryd.ntmps8
  go_wp2_with fail
  refine (HC1.out _ HB0.out).mono ?_
  rintro e w1 ⟨rfl, hb1⟩
  have HB1 := hide (bkp HB0.out hb1)
  have HA1 := hide (HA0.out.below hb1)
  clear hb1 HB0 HA0 HC1
  obtain ⟨x0, x1, x2, x3⟩ := HA1.out.cells
  go_wp2_with fail
  refine (HC2.out _ HB1.out).mono ?_
  rintro e w2 ⟨rfl, hb2⟩
  have HI0 : Hid (Below w.heap.size w w2 /\ At3 w2 w.heap.size (.int .i64 (N : Int)) (.slice a N ca) (.slice b N cb)) := hide ⟨bkp HB1.out hb2, HA1.out.below hb2⟩
  clear hb2 HB1 HA1 HC2 x0 x1 x2 x3
  go_wp2_with fail
  go_loopw [7, 24] (fun vm vi wr => ∃ i m : Nat, vm = .int .u64 (m : Int) /\ vi = .int .i64 (i : Int) /\ i <= k /\ m < 18446744073709551616 /\ Hid (mkG (l.drop i) m = MK) /\ Hid (Below w.heap.size w wr /\ At3 wr w.heap.size (.int .i64 (N : Int)) (.slice a N ca) (.slice b N cb))) (fun _ vi _ => k - (Go.RowKit.intOf vi).toNat)
  case atStart => exact ⟨0, 0, rfl, rfl, Nat.zero_le _, by decide, HMK, HI0⟩
  case round =>
    obtain ⟨i, m, rfl, rfl, hi, hm, HS, HI⟩ := hrel
    clear HI0 HMK
    by_cases h : i < k
    . have hd : decide ((i : Int) < (k : Int)) = true := decide_eq_true (by omega)
      obtain ⟨q, hq⟩ : ∃ q, l[i]? = some q := ⟨_, List.getElem?_eq_getElem (by rw [HL.out]; exact h)⟩
      have hne : l ≠ [] := fun e => by rw [e] at hq; simp at hq
      obtain ⟨g, off, rfl, hc⟩ := (HN.out.below HI.out.1).resolve_left hne
      have a0 := hc i q hq
      have a1 := World.block_lt_of_cell? _ _ a0
      have hqr := HIN.out q (List.mem_of_getElem? hq)
      have hdr : l.drop i = q :: l.drop (i + 1) := by
        have hlt := (List.getElem?_eq_some_iff.1 hq).1
        have he := (List.getElem?_eq_some_iff.1 hq).2
        rw [List.drop_eq_getElem_cons hlt, he]
      have HS2 : Hid (mkG (l.drop (i + 1)) (m ||| 2 ^ q.toNat) = MK) := hide (by rw [← HS.out, hdr, mkG])
      clear hq hne hc hdr HS
      obtain ⟨x, rfl⟩ : ∃ x : Nat, q = (x : Int) := ⟨q.toNat, by omega⟩
      rw [Int.toNat_natCast] at HS2
      have hx : x < 64 := by omega
      have s1 := hsh x hx
      have o1 := hor m x hm hx
      have HLT := hide (or_lt64 hm hx)
      clear hsh hor hqr
      generalize m ||| 2 ^ x = m2 at *
      go_wp2_with fail
      go_roundw
      case rel => exact ⟨i + 1, m2, by rw [show (2 : Int) ^ x = ((2 ^ x : Nat) : Int) by simp, o1], by go_num, by omega, HLT.out, HS2, HI⟩
      case measure => simp [Go.RowKit.intOf]; omega
    . obtain rfl : k = i := by omega
      have hmm : m = MK := by
        rw [← HS.out, List.drop_eq_nil_of_le (by rw [HL.out]; exact Nat.le_refl _)]
        rfl
      subst hmm
      clear HS hsh hor
      obtain ⟨x0, x1, x2, x3⟩ := HI.out.2.cells
      go_wp2_with fail
      have hbn := bnew wr (.cells (pRow N) 49)
      have hgw := HI.out.2.lt
      have HI1 : Hid (Below w.heap.size w (wr.alloc (.cells (pRow N) 49)) /\ At3 (wr.alloc (.cells (pRow N) 49)) w.heap.size (.int .i64 (N : Int)) (.slice a N ca) (.slice b N cb) /\ PO (wr.alloc (.cells (pRow N) 49)) wr.heap.size (fillL N F 0)) := hide ⟨bkp HI.out.1 hbn, HI.out.2.below hbn, by rw [fill_zero]; exact PO.made _ _⟩
      clear hbn x0 x1 x2 x3 HI
      generalize wr.alloc (.cells (pRow N) 49) = W1 at *
      generalize wr.heap.size = gr at *
      obtain ⟨x0, x1, x2, x3⟩ := HI1.out.2.1.cells
      go_wp2_with fail
      clear x0 x1 x2 x3
      go_loopw [38] (fun vi wr => ∃ i : Nat, vi = .int .i64 (i : Int) /\ i <= N /\ Hid (Below w.heap.size w wr /\ At3 wr w.heap.size (.int .i64 (N : Int)) (.slice a N ca) (.slice b N cb) /\ PO wr gr (fillL N F i))) (fun vi _ => N - (Go.RowKit.intOf vi).toNat)
      case atStart => exact ⟨0, rfl, Nat.zero_le _, HI1⟩
      case round =>
        obtain ⟨i, rfl, hi, HJ⟩ := hrel
        clear HI1
        obtain ⟨x0, x1, x2, x3⟩ := HJ.out.2.1.cells
        by_cases h2 : i < N
        . have hd2 : decide ((i : Int) < (N : Int)) = true := decide_eq_true (by omega)
          obtain ⟨gs, os, rfl, hgs, ⟨a0, a1, a2, a3⟩⟩ := HG.out i h2 _ HJ.out.1
          have hgs2 := World.block_lt_of_cell? _ _ a0
          have hww := HW.out i h2
          have hf := HF.out i
          unfold mkP at hf
          have n1 := andN (t.s.getD i oP).x m hww.1 hm
          have n2 := andN (t.s.getD i oP).z m hww.2 hm
          generalize t.s.getD i oP = p1 at *
          obtain ⟨pn, px, pz, pp⟩ := p1
          simp only at *
          generalize px &&& m = ax at *
          generalize pz &&& m = az at *
          have hpo := HJ.out.2.2.at (get_of (l := fillL N F i) (i := i) (by rw [fill_len]; exact h2))
          generalize (fillL N F i).getD i oP = p2 at *
          obtain ⟨qn, qx, qz, qp⟩ := p2
          obtain ⟨b0, b1, b2, b3⟩ := hpo
          have f1 := HJ.out.2.2.fz
          have k1 := HJ.out.2.2.lt
          simp only at b0 b1 b2 b3
          have HX : Hid (Below w.heap.size w (set4 wr gr (i * 4) ⟨N, ax, az, 0⟩) /\ At3 (set4 wr gr (i * 4) ⟨N, ax, az, 0⟩) w.heap.size (.int .i64 (N : Int)) (.slice (some ⟨gs, os, none⟩) N ca) (.slice b N cb) /\ PO (set4 wr gr (i * 4) ⟨N, ax, az, 0⟩) gr (fillL N F (i + 1))) := hide ⟨below_set4 HJ.out.1 (by omega), HJ.out.2.1.off (by omega), by rw [← fill_succ, hf]; exact HJ.out.2.2.set _⟩
          clear HJ hww hf
          go_wp2_with fail
          go_region
          change Exit.inBlock _ _ _ _ (set4 wr gr (i * 4) ⟨N, ax, az, 0⟩).drew
          clear a0 a1 a2 a3 b0 b1 b2 b3 f1 k1 x0 x1 x2 x3
          generalize set4 wr gr (i * 4) ⟨N, ax, az, 0⟩ = W3 at *
          go_wp2_with fail
          go_roundw
          case rel => exact ⟨i + 1, by go_num, by omega, hide ⟨HX.out.1.drew, HX.out.2.1, HX.out.2.2⟩⟩
          case measure => simp [Go.RowKit.intOf]; omega
        . obtain rfl : N = i := by omega
          have e1 : wrap64 ((rk : Int) - (k : Int)) = (rk : Int) - (k : Int) := by unfold wrap64; omega
          have e2 : IntKind.i64.wrap ((rk : Int) - (k : Int)) = (rk : Int) - (k : Int) := by rw [wrapI]; omega
          go_wp2_with fail
          refine (HC3.out _ _ HJ.out.2.2).mono ?_
          rintro e w5 ⟨rfl, hx5⟩
          have HF5 := hide (hx5.below HJ.out.1 (by omega) (Nat.le_refl _))
          clear hx5 HJ HC3 x0 x1 x2 x3
          go_wp2_with fail
          go_ret2
          exact ⟨rfl, HF5.out⟩
theorem tCut (t : TT) (a b : Option Addr) (ca cb : Nat) (l : List Int) (hl : l.length <= 1000000000000000) (ao : Option Addr) (c : Nat) (w : World) (h : Th w t a b ca cb) (hN : Ns w ao l) :
    Calls Tryd.prog 8 #[tV t a b ca cb, .slice ao l.length c] w fun e w' => e = .returned (.tuple #[.int .i64 (cuR t l).1, .int .i64 (cuR t l).2]) /\ Below w.heap.size w w' := by
  by_cases hc : chB t = true /\ ulB t.n l = true
  . unfold cuR
    rw [if_pos hc.1, if_pos hc.2]
    exact tCut_ok t a b ca cb l hl ao c hc.1 hc.2 w h hN
  . exact tCut_no t a b ca cb l hl ao c hc w h hN
end Go.Proofs.YtpehekonjdneaaaDoor.Tbl
