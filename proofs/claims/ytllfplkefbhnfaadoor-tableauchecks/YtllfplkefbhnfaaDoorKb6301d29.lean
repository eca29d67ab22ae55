import Derived.Test.YtllfplkefbhnfaaDoorKaf19d6d1
set_option maxRecDepth 100000
set_option maxHeartbeats 2000000
namespace Go.Proofs.YtllfplkefbhnfaaDoor.Tbl
open Go.RowKit Go.Proofs.YtllfplkefbhnfaaDoor.Pau Go.Proofs.YtllfplkefbhnfaaDoor.Gt
def PO (w : World) (g : Nat) (l : List P) : Prop := ∃ cur : Array Value, w.heap[g]? = some (.cells cur 39 (0, 0)) /\ ∀ (i : Nat) p, l[i]? = some p -> cur[i * 4]? = some (.int .i64 p.n) /\ cur[i * 4 + 1]? = some (.int .u64 (p.x : Int)) /\ cur[i * 4 + 2]? = some (.int .u64 (p.z : Int)) /\ cur[i * 4 + 3]? = some (.int .i64 p.ph)
theorem cell_at {w : World} {g i : Nat} {cur : Array Value} {t : TypeId} {fr : Nat × Nat} {v : Value} (hg : w.heap[g]? = some (.cells cur t fr)) (h : cur[i]? = some v) : w.cell? ⟨g, i, none⟩ = some v := by
  simp [World.cell?, hg, h]
theorem PO.at {w : World} {g : Nat} {l : List P} (h : PO w g l) {i : Nat} {p : P} (hi : l[i]? = some p) : Pc w g (i * 4) p := by
  obtain ⟨cur, h, hc⟩ := h
  obtain ⟨h0, h1, h2, h3⟩ := hc i p hi
  exact ⟨cell_at h h0, cell_at h h1, cell_at h h2, cell_at h h3⟩
namespace PO
variable {w w' : World} {g : Nat} {l : List P}
theorem lt (h : PO w g l) : g < w.heap.size := by
  obtain ⟨cur, h, -⟩ := h
  exact (Array.getElem?_eq_some_iff.1 h).1
theorem pin (h : PO w g l) : PIn w (some ⟨g, 0, none⟩) l := .inr ⟨g, 0, rfl, fun i p hi => by rw [Nat.zero_add]; exact h.at hi⟩
theorem fz (h : PO w g l) (j : Nat) : w.frozen? ⟨g, j, none⟩ = false := by
  obtain ⟨cur, h, -⟩ := h
  simp [World.frozen?, h]
theorem of_block (h : PO w g l) (e : w'.heap[g]? = w.heap[g]?) : PO w' g l := by
  obtain ⟨cur, h, hc⟩ := h
  exact ⟨cur, e.trans h, hc⟩
theorem below (h : PO w g l) (hb : Below w.heap.size w w') : PO w' g l := h.of_block (hb.block g h.lt)
theorem mono (h : PO w g l) {l' : List P} (hl : ∀ (i : Nat) p, l'[i]? = some p -> l[i]? = some p) : PO w g l' := by
  obtain ⟨cur, h, hc⟩ := h
  exact ⟨cur, h, fun i p hi => hc i p (hl i p hi)⟩
end PO
def set4 (w : World) (g o : Nat) (p : P) : World := (((w.setCell ⟨g, o, none⟩ (.int .i64 p.n)).setCell ⟨g, o + 1, none⟩ (.int .u64 (p.x : Int))).setCell ⟨g, o + 2, none⟩ (.int .u64 (p.z : Int))).setCell ⟨g, o + 3, none⟩ (.int .i64 p.ph)
theorem set_heap {w : World} {g o : Nat} {cur : Array Value} {t : TypeId} {fr : Nat × Nat} (h : w.heap[g]? = some (.cells cur t fr)) (v : Value) : (w.setCell ⟨g, o, none⟩ v).heap[g]? = some (.cells (cur.setIfInBounds o v) t fr) := by
  simp [World.setCell, Array.getElem?_modify, h]
theorem PO.set {w : World} {g : Nat} {l : List P} (h : PO w g l) {i : Nat} (p : P) : PO (set4 w g (i * 4) p) g (l.set i p) := by
  obtain ⟨cur, h, hc⟩ := h
  refine ⟨_, set_heap (set_heap (set_heap (set_heap h _) _) _) _, fun j q hj => ?_⟩
  rw [List.getElem?_set] at hj
  by_cases e : i = j
  . subst e
    rw [if_pos rfl] at hj
    split at hj
    . cases hj
      rename_i hlt
      obtain ⟨h0, h1, h2, h3⟩ := hc i _ (List.getElem?_eq_getElem hlt)
      have s0 := (Array.getElem?_eq_some_iff.1 h0).1
      have s1 := (Array.getElem?_eq_some_iff.1 h1).1
      have s2 := (Array.getElem?_eq_some_iff.1 h2).1
      have s3 := (Array.getElem?_eq_some_iff.1 h3).1
      refine ⟨?_, ?_, ?_, ?_⟩ <;> simp [s0, s1, s2, s3]
    . cases hj
  . rw [if_neg e] at hj
    obtain ⟨h0, h1, h2, h3⟩ := hc j q hj
    have n0 : ∀ a b, a < 4 -> b < 4 -> ¬ i * 4 + a = j * 4 + b := by omega
    have m0 : ∀ b, b < 4 -> ¬ i * 4 = j * 4 + b := by omega
    have m1 : ∀ a, a < 4 -> ¬ i * 4 + a = j * 4 := by omega
    have m2 : ¬ i * 4 = j * 4 := by omega
    refine ⟨?_, ?_, ?_, ?_⟩ <;> simp [n0, m0, m1, m2, h0, h1, h2, h3]
theorem set4_heap (w : World) (g o : Nat) (p : P) (k : Nat) (h : k ≠ g) : (set4 w g o p).heap[k]? = w.heap[k]? := by
  unfold set4
  rw [Below.heap_setCell _ _ _ _ h, Below.heap_setCell _ _ _ _ h, Below.heap_setCell _ _ _ _ h, Below.heap_setCell _ _ _ _ h]
theorem PO.off {w : World} {g k o : Nat} {l : List P} {p : P} (h : PO w g l) (hk : g ≠ k) : PO (set4 w k o p) g l := h.of_block (set4_heap _ _ _ _ _ hk)
theorem below_set4 {B : Nat} {a w : World} (h : Below B a w) {g o : Nat} {p : P} (hg : B <= g) : Below B a (set4 w g o p) := (((h.setCell (p := ⟨g, o, none⟩) hg _).setCell (p := ⟨g, o + 1, none⟩) hg _).setCell (p := ⟨g, o + 2, none⟩) hg _).setCell (p := ⟨g, o + 3, none⟩) hg _
theorem At3.off {w : World} {g k o : Nat} {a b c : Value} {p : P} (h : At3 w g a b c) (hk : g ≠ k) : At3 (set4 w k o p) g a b c := (set4_heap _ _ _ _ _ hk).trans h
theorem At4.off4 {w : World} {g k o : Nat} {a b c d : Value} {p : P} (h : At4 w g a b c d) (hk : g ≠ k) : At4 (set4 w k o p) g a b c d := (set4_heap _ _ _ _ _ hk).trans h
theorem infoP3 : (Tryd.prog.info? 39).map (fun i => (i.zero, i.size, i.bytes)) = some (some (.agg #[.int .i64 0, .int .u64 0, .int .u64 0, .int .i64 0]), 4, 32) := by kernel_rfl
def pRow (n : Nat) : Array Value := madeCells #[.int .i64 0, .int .u64 0, .int .u64 0, .int .i64 0] (n * 4)
theorem make_p (n : Nat) (hn : n <= 4096) (w : World) : (Instr.makeSlice 22 (.int .i64 (n : Int)) (.int .i64 (n : Int))).run Tryd.prog w = .ok (.slice (some ⟨w.heap.size, 0, none⟩) n n) (w.alloc (.cells (pRow n) 39)) := by
  obtain ⟨i, hi, hz⟩ := Option.map_eq_some_iff.1 infoP3
  simp only [Prod.mk.injEq] at hz
  obtain ⟨h1, h2, h3⟩ := hz
  have hr := run_make (P := Tryd.prog) w 22 39 i _ Tryd.underlying22 hi h1 .i64 .i64 n n (by omega) (Int.le_refl _) (by rw [h3]; omega) (by omega)
  rw [h2, Int.toNat_natCast] at hr
  exact hr
theorem made_at (z : Array Value) (n i : Nat) (h : i < n) : (madeCells z n)[i]? = some (z[i % z.size]!) := by
  unfold madeCells
  rw [Array.getElem?_map, Array.getElem?_range, if_pos h]
  rfl
theorem PO.made (w : World) (n : Nat) : PO (w.alloc (.cells (pRow n) 39)) w.heap.size (List.replicate n oP) := by
  refine ⟨_, heap_alloc_new _ _, fun i p hi => ?_⟩
  rw [List.getElem?_replicate] at hi
  split at hi
  . cases hi
    rename_i hlt
    unfold pRow
    rw [made_at _ _ _ (by omega), made_at _ _ _ (by omega), made_at _ _ _ (by omega), made_at _ _ _ (by omega)]
    have e0 : i * 4 % 4 = 0 := by omega
    have e1 : (i * 4 + 1) % 4 = 1 := by omega
    have e2 : (i * 4 + 2) % 4 = 2 := by omega
    have e3 : (i * 4 + 3) % 4 = 3 := by omega
    simp [e0, e1, e2, e3, oP]
  . cases hi
structure To (w : World) (B : Nat) (t : TT) (g1 g2 : Nat) : Prop where
  s : PO w g1 t.s
  d : PO w g2 t.d
  b1 : B <= g1
  b2 : B <= g2
  ne : g1 ≠ g2
theorem To.below {w w' : World} {B : Nat} {t : TT} {g1 g2 : Nat} (h : To w B t g1 g2) (hb : Below w.heap.size w w') : To w' B t g1 g2 := ⟨h.s.below hb, h.d.below hb, h.b1, h.b2, h.ne⟩
def zT (n : Nat) : TT := ⟨n, List.replicate n oP, List.replicate n oP⟩
theorem all3 (n : Int) (a b : Option Addr) (k l c d : Nat) : (#[Value.int .i64 n, .slice a k c, .slice b l d]).all (·.oneCell') = true := by simp [Value.oneCell']
theorem three_new (w : World) (o1 o2 o3 : Obj) : (((w.alloc o1).alloc o2).alloc o3).heap[w.heap.size]? = some o1 /\ (((w.alloc o1).alloc o2).alloc o3).heap[w.heap.size + 1]? = some o2 /\ (((w.alloc o1).alloc o2).alloc o3).heap[w.heap.size + 1 + 1]? = some o3 := by
  refine ⟨?_, ?_, ?_⟩
  . rw [Below.heap_alloc _ _ _ (by simp; omega), Below.heap_alloc _ _ _ (by simp)]
    exact heap_alloc_new _ _
  . rw [Below.heap_alloc _ _ _ (by simp)]
    have := heap_alloc_new (w.alloc o1) o2
    simpa using this
  . have := heap_alloc_new ((w.alloc o1).alloc o2) o3
    simpa using this
theorem made_row {w : World} {g n : Nat} (h : w.heap[g]? = some (.cells (pRow n) 39)) : PO w g (List.replicate n oP) := by
  obtain ⟨cur, h1, h2⟩ := PO.made w n
  rw [heap_alloc_new] at h1
  cases h1
  exact ⟨_, h, h2⟩
theorem tBlank (n : Nat) (hn : n <= 64) (w : World) :
    Calls Tryd.prog 21 #[.int .i64 (n : Int)] w fun e w' => ∃ g1 g2, e = .returned (.agg #[.int .i64 (n : Int), .slice (some ⟨g1, 0, none⟩) n n, .slice (some ⟨g2, 0, none⟩) n n]) /\ To w' w.heap.size (zT n) g1 g2 /\ Below w.heap.size w w' := by
  have hm := fun W => make_p n (by omega) W
  have H1 := hide (three_new w (.cells #[.int .i64 (n : Int), .slice (some ⟨w.heap.size + 1, 0, none⟩) n n, .slice (some ⟨w.heap.size + 1 + 1, 0, none⟩) n n] 24) (.cells (pRow n) 39) (.cells (pRow n) 39))
  have H2 := hide (three_new w (.cells #[.int .i64 (n : Int), .slice (some ⟨w.heap.size + 1 + 1, 0, none⟩) n n, .slice (some ⟨w.heap.size + 1, 0, none⟩) n n] 24) (.cells (pRow n) 39) (.cells (pRow n) 39))
  have HB : Hid (∀ o1 o2 o3 : Obj, Below w.heap.size w (((w.alloc o1).alloc o2).alloc o3)) := hide (fun o1 o2 o3 => bkp (bkp (bnew _ _) (bnew _ _)) (bnew _ _))
  go_enter Tryd.func21, Tryd.ntmps21
  go_wp2_with fail
  go_region
  . go_wp2_with fail
    obtain ⟨e1, e2, e3⟩ := H1.out
    refine bodyPost_ret (results_c rfl _ _ w.heap.size _ _ _ _ rfl e1 Tryd.underlying24 rfl (by exact infoT)) rfl ?_
    exact ⟨_, _, rfl, ⟨made_row e2, made_row e3, by omega, by omega, by omega⟩, (HB.out _ _ _).drew⟩
  . go_wp2_with fail
    obtain ⟨e1, e2, e3⟩ := H2.out
    refine bodyPost_ret (results_c rfl _ _ w.heap.size _ _ _ _ rfl e1 Tryd.underlying24 rfl (by exact infoT)) rfl ?_
    exact ⟨_, _, rfl, ⟨made_row e3, made_row e2, by omega, by omega, by omega⟩, (HB.out _ _ _).drew⟩
end Go.Proofs.YtllfplkefbhnfaaDoor.Tbl
