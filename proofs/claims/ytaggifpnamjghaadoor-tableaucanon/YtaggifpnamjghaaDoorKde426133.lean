import Derived.Test.YtaggifpnamjghaaDoorKcfc5ad69
set_option maxRecDepth 100000
set_option maxHeartbeats 4000000
namespace Go.Proofs.YtaggifpnamjghaaDoor.Tbl
open Go.RowKit Go.Proofs.YtaggifpnamjghaaDoor.Pau Go.Proofs.YtaggifpnamjghaaDoor.Gt
def PO (w : World) (g : Nat) (l : List P) : Prop := ∃ cur : Array Value, w.heap[g]? = some (.cells cur 32 (0, 0)) /\ ∀ (i : Nat) p, l[i]? = some p -> cur[i * 4]? = some (.int .i64 p.n) /\ cur[i * 4 + 1]? = some (.int .u64 (p.x : Int)) /\ cur[i * 4 + 2]? = some (.int .u64 (p.z : Int)) /\ cur[i * 4 + 3]? = some (.int .i64 p.ph)
theorem cell_at {w : World} {g i : Nat} {cur : Array Value} {t : TypeId} {fr : Nat × Nat} {v : Value} (hg : w.heap[g]? = some (.cells cur t fr)) (h : cur[i]? = some v) : w.cell? ⟨g, i, none⟩ = some v := by
  simp [World.cell?, hg, h]
theorem PO.at {w : World} {g : Nat} {l : List P} (h : PO w g l) {i : Nat} {p : P} (hi : l[i]? = some p) : Pc w g (i * 4) p := by
  obtain ⟨cur, h, hc⟩ := h
  obtain ⟨h0, h1, h2, h3⟩ := hc i p hi
  exact ⟨cell_at h h0, cell_at h h1, cell_at h h2, cell_at h h3⟩
namespace PO
variable {w w' : World} {g : Nat} {l : List P}
theorem lt (h : PO w g l) : g < w.heap.size := by
  obtain ⟨cur, h, -⟩ := h
  exact (Array.getElem?_eq_some_iff.1 h).1
theorem pin (h : PO w g l) : PIn w (some ⟨g, 0, none⟩) l := .inr ⟨g, 0, rfl, fun i p hi => by rw [Nat.zero_add]; exact h.at hi⟩
theorem fz (h : PO w g l) (j : Nat) : w.frozen? ⟨g, j, none⟩ = false := by
  obtain ⟨cur, h, -⟩ := h
  simp [World.frozen?, h]
theorem of_block (h : PO w g l) (e : w'.heap[g]? = w.heap[g]?) : PO w' g l := by
  obtain ⟨cur, h, hc⟩ := h
  exact ⟨cur, e.trans h, hc⟩
theorem below (h : PO w g l) (hb : Below w.heap.size w w') : PO w' g l := h.of_block (hb.block g h.lt)
theorem mono (h : PO w g l) {l' : List P} (hl : ∀ (i : Nat) p, l'[i]? = some p -> l[i]? = some p) : PO w g l' := by
  obtain ⟨cur, h, hc⟩ := h
  exact ⟨cur, h, fun i p hi => hc i p (hl i p hi)⟩
end PO
def set4 (w : World) (g o : Nat) (p : P) : World := (((w.setCell ⟨g, o, none⟩ (.int .i64 p.n)).setCell ⟨g, o + 1, none⟩ (.int .u64 (p.x : Int))).setCell ⟨g, o + 2, none⟩ (.int .u64 (p.z : Int))).setCell ⟨g, o + 3, none⟩ (.int .i64 p.ph)
theorem set_heap {w : World} {g o : Nat} {cur : Array Value} {t : TypeId} {fr : Nat × Nat} (h : w.heap[g]? = some (.cells cur t fr)) (v : Value) : (w.setCell ⟨g, o, none⟩ v).heap[g]? = some (.cells (cur.setIfInBounds o v) t fr) := by
  simp [World.setCell, Array.getElem?_modify, h]
theorem PO.set {w : World} {g : Nat} {l : List P} (h : PO w g l) {i : Nat} (p : P) : PO (set4 w g (i * 4) p) g (l.set i p) := by
  obtain ⟨cur, h, hc⟩ := h
  refine ⟨_, set_heap (set_heap (set_heap (set_heap h _) _) _) _, fun j q hj => ?_⟩
  rw [List.getElem?_set] at hj
  by_cases e : i = j
  . subst e
    rw [if_pos rfl] at hj
    split at hj
    . cases hj
      rename_i hlt
      obtain ⟨h0, h1, h2, h3⟩ := hc i _ (List.getElem?_eq_getElem hlt)
      have s0 := (Array.getElem?_eq_some_iff.1 h0).1
      have s1 := (Array.getElem?_eq_some_iff.1 h1).1
      have s2 := (Array.getElem?_eq_some_iff.1 h2).1
      have s3 := (Array.getElem?_eq_some_iff.1 h3).1
      refine ⟨?_, ?_, ?_, ?_⟩ <;> simp [s0, s1, s2, s3]
    . cases hj
  . rw [if_neg e] at hj
    obtain ⟨h0, h1, h2, h3⟩ := hc j q hj
    have n0 : ∀ a b, a < 4 -> b < 4 -> ¬ i * 4 + a = j * 4 + b := by omega
    have m0 : ∀ b, b < 4 -> ¬ i * 4 = j * 4 + b := by omega
    have m1 : ∀ a, a < 4 -> ¬ i * 4 + a = j * 4 := by omega
    have m2 : ¬ i * 4 = j * 4 := by omega
    refine ⟨?_, ?_, ?_, ?_⟩ <;> simp [n0, m0, m1, m2, h0, h1, h2, h3]
theorem set4_heap (w : World) (g o : Nat) (p : P) (k : Nat) (h : k ≠ g) : (set4 w g o p).heap[k]? = w.heap[k]? := by
  unfold set4
  rw [Below.heap_setCell _ _ _ _ h, Below.heap_setCell _ _ _ _ h, Below.heap_setCell _ _ _ _ h, Below.heap_setCell _ _ _ _ h]
theorem PO.off {w : World} {g k o : Nat} {l : List P} {p : P} (h : PO w g l) (hk : g ≠ k) : PO (set4 w k o p) g l := h.of_block (set4_heap _ _ _ _ _ hk)
theorem below_set4 {B : Nat} {a w : World} (h : Below B a w) {g o : Nat} {p : P} (hg : B <= g) : Below B a (set4 w g o p) := (((h.setCell (p := ⟨g, o, none⟩) hg _).setCell (p := ⟨g, o + 1, none⟩) hg _).setCell (p := ⟨g, o + 2, none⟩) hg _).setCell (p := ⟨g, o + 3, none⟩) hg _
theorem At3.off {w : World} {g k o : Nat} {a b c : Value} {p : P} (h : At3 w g a b c) (hk : g ≠ k) : At3 (set4 w k o p) g a b c := (set4_heap _ _ _ _ _ hk).trans h
theorem At4.off4 {w : World} {g k o : Nat} {a b c d : Value} {p : P} (h : At4 w g a b c d) (hk : g ≠ k) : At4 (set4 w k o p) g a b c d := (set4_heap _ _ _ _ _ hk).trans h
theorem infoP3 : (Tryd.prog.info? 32).map (fun i => (i.zero, i.size, i.bytes)) = some (some (.agg #[.int .i64 0, .int .u64 0, .int .u64 0, .int .i64 0]), 4, 32) := by kernel_rfl
def pRow (n : Nat) : Array Value := madeCells #[.int .i64 0, .int .u64 0, .int .u64 0, .int .i64 0] (n * 4)
theorem make_p (n : Nat) (hn : n <= 4096) (w : World) : (Instr.makeSlice 22 (.int .i64 (n : Int)) (.int .i64 (n : Int))).run Tryd.prog w = .ok (.slice (some ⟨w.heap.size, 0, none⟩) n n) (w.alloc (.cells (pRow n) 32)) := by
  obtain ⟨i, hi, hz⟩ := Option.map_eq_some_iff.1 infoP3
  simp only [Prod.mk.injEq] at hz
  obtain ⟨h1, h2, h3⟩ := hz
  have hr := run_make (P := Tryd.prog) w 22 32 i _ Tryd.underlying22 hi h1 .i64 .i64 n n (by omega) (Int.le_refl _) (by rw [h3]; omega) (by omega)
  rw [h2, Int.toNat_natCast] at hr
  exact hr
theorem made_at (z : Array Value) (n i : Nat) (h : i < n) : (madeCells z n)[i]? = some (z[i % z.size]!) := by
  unfold madeCells
  rw [Array.getElem?_map, Array.getElem?_range, if_pos h]
  rfl
theorem PO.made (w : World) (n : Nat) : PO (w.alloc (.cells (pRow n) 32)) w.heap.size (List.replicate n oP) := by
  refine ⟨_, heap_alloc_new _ _, fun i p hi => ?_⟩
  rw [List.getElem?_replicate] at hi
  split at hi
  . cases hi
    rename_i hlt
    unfold pRow
    rw [made_at _ _ _ (by omega), made_at _ _ _ (by omega), made_at _ _ _ (by omega), made_at _ _ _ (by omega)]
    have e0 : i * 4 % 4 = 0 := by omega
    have e1 : (i * 4 + 1) % 4 = 1 := by omega
    have e2 : (i * 4 + 2) % 4 = 2 := by omega
    have e3 : (i * 4 + 3) % 4 = 3 := by omega
    simp [e0, e1, e2, e3, oP]
  . cases hi
structure To (w : World) (B : Nat) (t : TT) (g1 g2 : Nat) : Prop where
  s : PO w g1 t.s
  d : PO w g2 t.d
  b1 : B <= g1
  b2 : B <= g2
  ne : g1 ≠ g2
theorem To.below {w w' : World} {B : Nat} {t : TT} {g1 g2 : Nat} (h : To w B t g1 g2) (hb : Below w.heap.size w w') : To w' B t g1 g2 := ⟨h.s.below hb, h.d.below hb, h.b1, h.b2, h.ne⟩
def zT (n : Nat) : TT := ⟨n, List.replicate n oP, List.replicate n oP⟩
theorem all3 (n : Int) (a b : Option Addr) (k l c d : Nat) : (#[Value.int .i64 n, .slice a k c, .slice b l d]).all (·.oneCell') = true := by simp [Value.oneCell']
theorem three_new (w : World) (o1 o2 o3 : Obj) : (((w.alloc o1).alloc o2).alloc o3).heap[w.heap.size]? = some o1 /\ (((w.alloc o1).alloc o2).alloc o3).heap[w.heap.size + 1]? = some o2 /\ (((w.alloc o1).alloc o2).alloc o3).heap[w.heap.size + 1 + 1]? = some o3 := by
  refine ⟨?_, ?_, ?_⟩
  . rw [Below.heap_alloc _ _ _ (by simp; omega), Below.heap_alloc _ _ _ (by simp)]
    exact heap_alloc_new _ _
  . rw [Below.heap_alloc _ _ _ (by simp)]
    have := heap_alloc_new (w.alloc o1) o2
    simpa using this
  . have := heap_alloc_new ((w.alloc o1).alloc o2) o3
    simpa using this
theorem made_row {w : World} {g n : Nat} (h : w.heap[g]? = some (.cells (pRow n) 32)) : PO w g (List.replicate n oP) := by
  obtain ⟨cur, h1, h2⟩ := PO.made w n
  rw [heap_alloc_new] at h1
  cases h1
  exact ⟨_, h, h2⟩
theorem tBlank (n : Nat) (hn : n <= 64) (w : World) :
    Calls Tryd.prog 41 #[.int .i64 (n : Int)] w fun e w' => ∃ g1 g2, e = .returned (.agg #[.int .i64 (n : Int), .slice (some ⟨g1, 0, none⟩) n n, .slice (some ⟨g2, 0, none⟩) n n]) /\ To w' w.heap.size (zT n) g1 g2 /\ Below w.heap.size w w' := by
  have hm := fun W => make_p n (by omega) W
  have H1 := hide (three_new w (.cells #[.int .i64 (n : Int), .slice (some ⟨w.heap.size + 1, 0, none⟩) n n, .slice (some ⟨w.heap.size + 1 + 1, 0, none⟩) n n] 24) (.cells (pRow n) 32) (.cells (pRow n) 32))
  have H2 := hide (three_new w (.cells #[.int .i64 (n : Int), .slice (some ⟨w.heap.size + 1 + 1, 0, none⟩) n n, .slice (some ⟨w.heap.size + 1, 0, none⟩) n n] 24) (.cells (pRow n) 32) (.cells (pRow n) 32))
  have HB : Hid (∀ o1 o2 o3 : Obj, Below w.heap.size w (((w.alloc o1).alloc o2).alloc o3)) := hide (fun o1 o2 o3 => bkp (bkp (bnew _ _) (bnew _ _)) (bnew _ _))
  go_enter Tryd.func41, Tryd.ntmps41
  go_wp2_with fail
  go_region
  . go_wp2_with fail
    obtain ⟨e1, e2, e3⟩ := H1.out
    refine bodyPost_ret (results_c rfl _ _ w.heap.size _ _ _ _ rfl e1 Tryd.underlying24 rfl (by exact infoT)) rfl ?_
    exact ⟨_, _, rfl, ⟨made_row e2, made_row e3, by omega, by omega, by omega⟩, (HB.out _ _ _).drew⟩
  . go_wp2_with fail
    obtain ⟨e1, e2, e3⟩ := H2.out
    refine bodyPost_ret (results_c rfl _ _ w.heap.size _ _ _ _ rfl e1 Tryd.underlying24 rfl (by exact infoT)) rfl ?_
    exact ⟨_, _, rfl, ⟨made_row e3, made_row e2, by omega, by omega, by omega⟩, (HB.out _ _ _).drew⟩
def fillL (N : Nat) (f : Nat -> P) (q : Nat) : List P := (List.range N).map (fun k => if k < q then f k else oP)
theorem fill_zero (N : Nat) (f : Nat -> P) : fillL N f 0 = List.replicate N oP := by
  unfold fillL
  rw [List.eq_replicate_iff]
  simp
theorem fill_len (N : Nat) (f : Nat -> P) (q : Nat) : (fillL N f q).length = N := by simp [fillL]
theorem fill_succ (N : Nat) (f : Nat -> P) (q : Nat) : (fillL N f q).set q (f q) = fillL N f (q + 1) := by
  unfold fillL
  refine List.ext_getElem? fun j => ?_
  rw [List.getElem?_set]
  simp only [List.getElem?_map, List.length_map, List.length_range]
  by_cases e : q = j
  . subst e
    rw [if_pos rfl]
    by_cases h : q < N
    . rw [if_pos h, List.getElem?_range h]
      simp
    . rw [if_neg h, List.getElem?_eq_none (by simp; omega)]
      rfl
  . rw [if_neg e]
    by_cases h : j < N
    . rw [List.getElem?_range h]
      simp only [Option.map_some, Option.some.injEq]
      by_cases h2 : j < q
      . rw [if_pos h2, if_pos (by omega)]
      . rw [if_neg h2, if_neg (by omega)]
    . rw [List.getElem?_eq_none (by simp; omega)]
      rfl
theorem fill_all (N : Nat) (f : Nat -> P) : fillL N f N = (List.range N).map f := by
  unfold fillL
  refine List.map_congr_left fun k hk => ?_
  rw [if_pos (List.mem_range.1 hk)]
def nzP (N q : Nat) : P := ⟨N, 0, 2 ^ q, 0⟩
def nxP (N q : Nat) : P := ⟨N, 2 ^ q, 0, 0⟩
def newT (N : Nat) : TT := ⟨N, (List.range N).map (nzP N), (List.range N).map (nxP N)⟩
theorem pow_lt64 {q : Nat} (h : q < 64) : 2 ^ q < 18446744073709551616 := by
  have h2 : 2 ^ q < 2 ^ 64 := Nat.pow_lt_pow_right (by decide) h
  exact Nat.lt_of_lt_of_eq h2 (by decide)
theorem shl_one (q : Nat) (h : q < 64) : IntKind.u64.wrap ((2 : Int) ^ q) = ((2 ^ q : Nat) : Int) := by
  have h2 := pow_lt64 h
  rw [wrapU, show ((2 : Int) ^ q) = ((2 ^ q : Nat) : Int) by simp]
  generalize 2 ^ q = m at *
  omega
theorem tNew_ok (N : Nat) (hN : N <= 64) (w : World) :
    Calls Tryd.prog 18 #[.int .i64 (N : Int)] w fun e w' => ∃ g1 g2, e = .returned (.tuple #[.agg #[.int .i64 (N : Int), .slice (some ⟨g1, 0, none⟩) N N, .slice (some ⟨g2, 0, none⟩) N N], .int .i64 0]) /\ To w' w.heap.size (newT N) g1 g2 /\ Below w.heap.size w w' := by
  have c1 := fun W => tBlank N hN W
  have d1 : decide ((N : Int) < 0) = false := decide_eq_false (by omega)
  have d2 : decide (64 < (N : Int)) = false := decide_eq_false (by omega)
  have HB0 := hide (bnew w (.cells #[.int .i64 0, .slice none 0 0, .slice none 0 0] 24))
  have HA0 := hide (At3.new w (.int .i64 0) (.slice none 0 0) (.slice none 0 0))
  go_enter Tryd.func18, Tryd.ntmps18
  go_wp2_with fail
  refine (c1 _).mono ?_
  rintro e w1 ⟨g1, g2, rfl, ht, hb1⟩
  have hbn := bnew w1 (.cells #[.int .i64 (N : Int), .slice (some ⟨g1, 0, none⟩) N N, .slice (some ⟨g2, 0, none⟩) N N] 24)
  have HB1 := hide (bkp (bkp HB0.out hb1) hbn)
  have HA1 := hide ((HA0.out.below hb1).below hbn)
  have HT1 := hide (At3.new w1 (.int .i64 (N : Int)) (.slice (some ⟨g1, 0, none⟩) N N) (.slice (some ⟨g2, 0, none⟩) N N))
  have HO1 := hide (ht.below hbn)
  have hlt1 := ht.s.lt
  have hlt2 := ht.d.lt
  have hg1 := ht.b1
  have hg2 := ht.b2
  simp only [World.size_alloc] at hg1 hg2
  clear ht hb1 hbn HB0 HA0
  go_wp2_with fail
  generalize w1.alloc (.cells #[.int .i64 (N : Int), .slice (some ⟨g1, 0, none⟩) N N, .slice (some ⟨g2, 0, none⟩) N N] 24) = W1 at *
  generalize w1.heap.size = gt at *
  have HI0 : Hid (Below w.heap.size w W1 /\ At3 W1 w.heap.size (.int .i64 0) (.slice none 0 0) (.slice none 0 0) /\ At3 W1 gt (.int .i64 (N : Int)) (.slice (some ⟨g1, 0, none⟩) N N) (.slice (some ⟨g2, 0, none⟩) N N) /\ PO W1 g1 (fillL N (nzP N) 0) /\ PO W1 g2 (fillL N (nxP N) 0)) := hide ⟨HB1.out, HA1.out, HT1.out, by rw [fill_zero]; exact HO1.out.s, by rw [fill_zero]; exact HO1.out.d⟩
  have hne := HO1.out.ne
  have h64 := shl_one
  clear HB1 HA1 HT1 HO1
  go_loopw [16] (fun vi wr => ∃ q : Nat, vi = .int .i64 (q : Int) /\ q <= N /\ Hid (Below w.heap.size w wr /\ At3 wr w.heap.size (.int .i64 0) (.slice none 0 0) (.slice none 0 0) /\ At3 wr gt (.int .i64 (N : Int)) (.slice (some ⟨g1, 0, none⟩) N N) (.slice (some ⟨g2, 0, none⟩) N N) /\ PO wr g1 (fillL N (nzP N) q) /\ PO wr g2 (fillL N (nxP N) q))) (fun vi _ => N - (Go.RowKit.intOf vi).toNat)
  case atStart => exact ⟨0, rfl, Nat.zero_le _, HI0⟩
  case round =>
    obtain ⟨q, rfl, hq, HI⟩ := hrel
    clear HI0
    obtain ⟨t0, t1, t2, t3⟩ := HI.out.2.2.1.cells
    by_cases hlt : q < N
    . have hd : decide ((q : Int) < (N : Int)) = true := decide_eq_true (by omega)
      have h64' := h64 q (by omega)
      have hp1 := HI.out.2.2.2.1.at (get_of (l := fillL N (nzP N) q) (i := q) (by rw [fill_len]; exact hlt))
      generalize (fillL N (nzP N) q).getD q oP = p1 at *
      obtain ⟨n1, x1, z1, ph1⟩ := p1
      obtain ⟨a0, a1, a2, a3⟩ := hp1
      have f1 := HI.out.2.2.2.1.fz
      have k1 := HI.out.2.2.2.1.lt
      simp only at a0 a1 a2 a3
      have HX : Hid (Below w.heap.size w (set4 wr g1 (q * 4) (nzP N q)) /\ At3 (set4 wr g1 (q * 4) (nzP N q)) w.heap.size (.int .i64 0) (.slice none 0 0) (.slice none 0 0) /\ At3 (set4 wr g1 (q * 4) (nzP N q)) gt (.int .i64 (N : Int)) (.slice (some ⟨g1, 0, none⟩) N N) (.slice (some ⟨g2, 0, none⟩) N N) /\ PO (set4 wr g1 (q * 4) (nzP N q)) g1 (fillL N (nzP N) (q + 1)) /\ PO (set4 wr g1 (q * 4) (nzP N q)) g2 (fillL N (nxP N) q)) := hide ⟨below_set4 HI.out.1 (by omega), HI.out.2.1.off (by omega), HI.out.2.2.1.off (by omega), by rw [← fill_succ]; exact HI.out.2.2.2.1.set _, HI.out.2.2.2.2.off (by omega)⟩
      clear HI
      go_wp2_with fail
      go_region
      change Exit.then _ _ _ _ (set4 wr g1 (q * 4) (nzP N q)).drew
      clear a0 a1 a2 a3 f1 k1 t0 t1 t2 t3
      generalize set4 wr g1 (q * 4) (nzP N q) = W2 at *
      obtain ⟨t0, t1, t2, t3⟩ := HX.out.2.2.1.cells
      have hp1 := HX.out.2.2.2.2.at (get_of (l := fillL N (nxP N) q) (i := q) (by rw [fill_len]; exact hlt))
      generalize (fillL N (nxP N) q).getD q oP = p1 at *
      obtain ⟨n1, x1, z1, ph1⟩ := p1
      obtain ⟨a0, a1, a2, a3⟩ := hp1
      have f1 := HX.out.2.2.2.2.fz
      have k1 := HX.out.2.2.2.2.lt
      simp only at a0 a1 a2 a3
      have HY : Hid (Below w.heap.size w (set4 W2 g2 (q * 4) (nxP N q)) /\ At3 (set4 W2 g2 (q * 4) (nxP N q)) w.heap.size (.int .i64 0) (.slice none 0 0) (.slice none 0 0) /\ At3 (set4 W2 g2 (q * 4) (nxP N q)) gt (.int .i64 (N : Int)) (.slice (some ⟨g1, 0, none⟩) N N) (.slice (some ⟨g2, 0, none⟩) N N) /\ PO (set4 W2 g2 (q * 4) (nxP N q)) g1 (fillL N (nzP N) (q + 1)) /\ PO (set4 W2 g2 (q * 4) (nxP N q)) g2 (fillL N (nxP N) (q + 1))) := hide ⟨below_set4 HX.out.1 (by omega), HX.out.2.1.off (by omega), HX.out.2.2.1.off (by omega), HX.out.2.2.2.1.off (by omega), by rw [← fill_succ]; exact HX.out.2.2.2.2.set _⟩
      clear HX
      go_wp2_with fail
      go_region
      change Exit.inBlock _ _ _ _ (set4 W2 g2 (q * 4) (nxP N q)).drew.drew
      clear a0 a1 a2 a3 f1 k1 t0 t1 t2 t3
      generalize set4 W2 g2 (q * 4) (nxP N q) = W3 at *
      go_wp2_with fail
      go_roundw
      case rel => exact ⟨q + 1, by go_num, by omega, hide ⟨HY.out.1.drew.drew, HY.out.2.1, HY.out.2.2.1, HY.out.2.2.2.1, HY.out.2.2.2.2⟩⟩
      case measure => simp [Go.RowKit.intOf]; omega
    . obtain rfl : N = q := by omega
      have hR := HI.out.2.1
      unfold At3 at hR
      have HZ : Hid (To (wr.setRow w.heap.size #[.int .i64 (N : Int), .slice (some ⟨g1, 0, none⟩) N N, .slice (some ⟨g2, 0, none⟩) N N]) w.heap.size (newT N) g1 g2) := hide ⟨(HI.out.2.2.2.1.of_block (setRow_other _ _ _ _ (by omega))).mono (fun i p h => by rw [fill_all]; exact h), (HI.out.2.2.2.2.of_block (setRow_other _ _ _ _ (by omega))).mono (fun i p h => by rw [fill_all]; exact h), by omega, by omega, hne⟩
      have HB := hide HI.out.1
      clear HI
      go_wp2_with (first
        | (refine wpList_store_row rfl _ _ _ rfl w.heap.size _ rfl rfl _ _ hR (by exact infoT) (by rfl) (all3 _ _ _ _ _ _ _) ?_))
      refine bodyPost_ret (results_ct rfl _ _ w.heap.size _ _ _ _ rfl (setRow_heap _ _ _ _ _ _ hR) Tryd.underlying24 rfl (by exact infoT)) rfl ?_
      exact ⟨g1, g2, rfl, HZ.out, below_setRow HB.out (Nat.le_refl _) _⟩
end Go.Proofs.YtaggifpnamjghaaDoor.Tbl
