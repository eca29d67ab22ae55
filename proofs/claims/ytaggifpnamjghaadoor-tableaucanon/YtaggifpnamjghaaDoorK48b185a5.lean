import Derived.Test.YtaggifpnamjghaaDoorK45539548
set_option maxRecDepth 100000
set_option maxHeartbeats 1000000
namespace Go.Proofs.YtaggifpnamjghaaDoor.Tbl
open Go.RowKit Go.Proofs.YtaggifpnamjghaaDoor.Pau Go.Proofs.YtaggifpnamjghaaDoor.Gt
deriving instance DecidableEq for P
structure TT where
  n : Int
  s : List P
  d : List P
deriving DecidableEq
def sgB (p : P) (n : Int) : Bool := decide (p.n = n) && (rt p && decide (p.ph = 0 ∨ p.ph = 2))
def cmB (a b : P) : Bool := fitP a b && comB a b
def pdP (a b : P) : P := (mulR a b).1
def prB (t : TT) (i j : Nat) : Bool := cmB (t.s.getD i oP) (t.s.getD j oP) && cmB (t.d.getD i oP) (t.d.getD j oP) && (cmB (t.d.getD i oP) (t.s.getD j oP) == decide (i ≠ j))
def szB (t : TT) : Bool := decide (0 <= t.n /\ t.n <= 64 /\ (t.s.length : Int) = t.n /\ (t.d.length : Int) = t.n)
def sg2 (t : TT) (i : Nat) : Bool := sgB (t.s.getD i oP) t.n && sgB (t.d.getD i oP) t.n
def chB (t : TT) : Bool := szB t && (List.range t.n.toNat).all (sg2 t) && (List.range t.n.toNat).all (fun i => (List.range t.n.toNat).all (prB t i))
structure Pc (w : World) (g o : Nat) (p : P) : Prop where
  n : w.cell? ⟨g, o, none⟩ = some (.int .i64 p.n)
  x : w.cell? ⟨g, o + 1, none⟩ = some (.int .u64 (p.x : Int))
  z : w.cell? ⟨g, o + 2, none⟩ = some (.int .u64 (p.z : Int))
  ph : w.cell? ⟨g, o + 3, none⟩ = some (.int .i64 p.ph)
theorem Pc.lt {w : World} {g o : Nat} {p : P} (h : Pc w g o p) : g < w.heap.size := World.block_lt_of_cell? _ _ h.n
theorem Pc.below {w w' : World} {g o : Nat} {p : P} (h : Pc w g o p) (hb : Below w.heap.size w w') : Pc w' g o p := by
  have key : ∀ j, w'.cell? ⟨g, j, none⟩ = w.cell? ⟨g, j, none⟩ := fun j => hb.cell (p := ⟨g, j, none⟩) h.lt
  exact ⟨(key _).trans h.n, (key _).trans h.x, (key _).trans h.z, (key _).trans h.ph⟩
def PIn (w : World) (ao : Option Addr) (l : List P) : Prop := l = [] ∨ ∃ g off, ao = some ⟨g, off, none⟩ /\ ∀ (i : Nat) p, l[i]? = some p -> Pc w g (off + i * 4) p
theorem PIn.below {w w' : World} {ao : Option Addr} {l : List P} (h : PIn w ao l) (hb : Below w.heap.size w w') : PIn w' ao l := by
  rcases h with h | ⟨g, off, e, h⟩
  . exact .inl h
  . exact .inr ⟨g, off, e, fun i p hp => (h i p hp).below hb⟩
theorem PIn.at {w : World} {ao : Option Addr} {l : List P} (h : PIn w ao l) {i : Nat} {p : P} (hi : l[i]? = some p) : ∃ g off, ao = some ⟨g, off, none⟩ /\ g < w.heap.size /\ Pc w g (off + i * 4) p := by
  rcases h with h | ⟨g, off, e, h⟩
  . rw [h] at hi; simp at hi
  . exact ⟨g, off, e, (h i p hi).lt, h i p hi⟩
theorem PIn.get {w : World} {ao : Option Addr} {l : List P} (h : PIn w ao l) (h0 : 0 < l.length) : ∃ g off, ao = some ⟨g, off, none⟩ /\ ∀ (i : Nat) p, l[i]? = some p -> Pc w g (off + i * 4) p := by
  rcases h with h | h
  . rw [h] at h0; simp at h0
  . exact h
def Wl (l : List P) : Prop := ∀ p ∈ l, Wd p
theorem Wl.at {l : List P} (h : Wl l) {i : Nat} {p : P} (hi : l[i]? = some p) : Wd p := h p (List.mem_of_getElem? hi)
def tV (t : TT) (a b : Option Addr) (ca cb : Nat) : Value := .agg #[.int .i64 t.n, .slice a t.s.length ca, .slice b t.d.length cb]
structure Th (w : World) (t : TT) (a b : Option Addr) (ca cb : Nat) : Prop where
  s : PIn w a t.s
  d : PIn w b t.d
  ws : Wl t.s
  wd : Wl t.d
  la : t.s.length <= ca
  lb : t.d.length <= cb
  na : t.s.length <= 1000000000000000
  nb : t.d.length <= 1000000000000000
theorem Th.below {w w' : World} {t : TT} {a b : Option Addr} {ca cb : Nat} (h : Th w t a b ca cb) (hb : Below w.heap.size w w') : Th w' t a b ca cb := ⟨h.s.below hb, h.d.below hb, h.ws, h.wd, h.la, h.lb, h.na, h.nb⟩
theorem get_of {l : List P} {i : Nat} (h : i < l.length) : l[i]? = some (l.getD i oP) := by
  rw [List.getD_eq_getElem?_getD, List.getElem?_eq_getElem h]; rfl
theorem Wl.getD {l : List P} (h : Wl l) {i : Nat} (hi : i < l.length) : Wd (l.getD i oP) := h.at (get_of hi)
theorem wd_o : Wd oP := ⟨by decide, by decide⟩
def At3 (w : World) (g : Nat) (a b c : Value) : Prop := w.heap[g]? = some (.cells #[a, b, c] 24 (0, 0))
theorem At3.cells {w : World} {g : Nat} {a b c : Value} (h : At3 w g a b c) : w.cell? ⟨g, 0, none⟩ = some a /\ w.cell? ⟨g, 1, none⟩ = some b /\ w.cell? ⟨g, 2, none⟩ = some c /\ g < w.heap.size :=
  ⟨cell_of_row _ _ 0 _ _ _ h, cell_of_row _ _ 1 _ _ _ h, cell_of_row _ _ 2 _ _ _ h, (Array.getElem?_eq_some_iff.1 h).1⟩
theorem At3.lt {w : World} {g : Nat} {a b c : Value} (h : At3 w g a b c) : g < w.heap.size := (Array.getElem?_eq_some_iff.1 h).1
theorem At3.below {w w' : World} {g : Nat} {a b c : Value} (h : At3 w g a b c) (hb : Below w.heap.size w w') : At3 w' g a b c := (hb.block g h.lt).trans h
theorem At3.new (w : World) (a b c : Value) : At3 (w.alloc (.cells #[a, b, c] 24)) w.heap.size a b c := heap_alloc_new _ _
theorem wp_region_quiet_C {P : Program} {C : World -> Prop} {id : Nat} {Q : Exit -> Act -> World -> Prop} {a : Act} {w : World} {l : List Oper} (hm : P.follows .mixedOrders = true) (hB : Region.lexB .any l.toArray = true) (hC : C { w with drawn := w.drawn + 1 })
    (h : wpQuiet P l.toArray C (fun a' => ∀ w', C w' -> Q .normal a' w') l a) : (Code.region id l.toArray true).wp P Q a w :=
  wp_region_quiet hm hB hC (by simpa using h)
theorem infoT : (Tryd.prog.info? 24).map (·.size) = some 3 := by kernel_rfl
theorem tSigned (p : P) (hp : Wd p) (n : Int) (w : World) : Calls Tryd.prog 16 #[pV p, .int .i64 n] w fun e w' => e = .returned (.bool (sgB p n)) /\ Below w.heap.size w w' := by
  have c1 := fun W => pHerm p hp W
  unfold sgB
  generalize (rt p && decide (p.ph = 0 ∨ p.ph = 2)) = r at *
  obtain ⟨m, x, z, ph⟩ := p
  have HB := hide (bnew w (.cells #[.int .i64 m, .int .u64 (x : Int), .int .u64 (z : Int), .int .i64 ph] 32))
  unfold pV at *
  simp only at *
  clear hp
  by_cases h : m = n
  . subst h
    go_enter Tryd.func16, Tryd.ntmps16
    go_wp2_with (go_at_call 39; refine (c1 _).mono ?_; rintro e w1 ⟨rfl, hb1⟩; have HB1 := hide (bkp HB.out hb1))
    go_ret
    exact ⟨by simp, HB1.out⟩
  . have e1 : (m == n) = false := by simpa using h
    go_enter Tryd.func16, Tryd.ntmps16
    go_wp2_with fail
    go_ret
    exact ⟨by simp [h], HB.out⟩
theorem tCommute (a b : P) (ha : Wd a) (hb : Wd b) (w : World) : Calls Tryd.prog 40 #[pV a, pV b] w fun e w' => e = .returned (.bool (cmB a b)) /\ Below w.heap.size w w' := by
  have c1 := fun W => pCommute a b ha hb W
  unfold cmB
  generalize (fitP a b && comB a b) = r at *
  generalize (if fitP a b = true then (0 : Int) else 130) = q at *
  obtain ⟨n, x, z, ph⟩ := a
  obtain ⟨n', x', z', ph'⟩ := b
  unfold pV at *
  simp only at *
  have HB := hide (bkp (bnew w (.cells #[.int .i64 n, .int .u64 (x : Int), .int .u64 (z : Int), .int .i64 ph] 32)) (bnew _ (.cells #[.int .i64 n', .int .u64 (x' : Int), .int .u64 (z' : Int), .int .i64 ph'] 32)))
  clear ha hb
  go_enter Tryd.func40, Tryd.ntmps40
  go_wp2_with (go_at_call 60; refine (c1 _).mono ?_; rintro e w1 ⟨rfl, hb1⟩; have HB1 := hide (bkp HB.out hb1))
  go_ret
  exact ⟨rfl, HB1.out⟩
theorem results_c {P : Program} {fn : Func} {p : Tmp} {ty : TypeId} (h : fn.results = #[.cell p ty]) (tmps : Array Value) (w : World) (g : Nat) (t : TypeId) (cs : Array Value) (fr : Nat × Nat) (d : TypeDesc)
    (hp : tmps.getD p undef = .pointer (some ⟨g, 0, none⟩)) (hg : w.heap[g]? = some (.cells cs t fr))
    (hu : P.underlying ty = some d) (hd : (match d with | .struct _ | .array _ _ => true | _ => false) = true) (hi : (P.info? ty).map (·.size) = some cs.size) :
    (results fn tmps).run P w = .ok (.agg cs) w := by
  have hp' : tmps[p]?.getD undef = .pointer (some ⟨g, 0, none⟩) := by simpa using hp
  simp [results, h, hp', asAddr, run_loadVar_row w g t ty cs fr d hg hu hd hi]
theorem tProduct (a b : P) (ha : Wd a) (hb : Wd b) (w : World) : Calls Tryd.prog 67 #[pV a, pV b] w fun e w' => e = .returned (pV (pdP a b)) /\ Below w.heap.size w w' := by
  have c1 := fun W => pMul a b ha hb W
  unfold pdP
  generalize mulR a b = r at *
  obtain ⟨⟨rn, rx, rz, rp⟩, re⟩ := r
  obtain ⟨n, x, z, ph⟩ := a
  obtain ⟨n', x', z', ph'⟩ := b
  unfold pV at *
  simp only at *
  obtain ⟨-, -, HA2⟩ := At4.three w (.int .i64 n) (.int .u64 (x : Int)) (.int .u64 (z : Int)) (.int .i64 ph) (.int .i64 n') (.int .u64 (x' : Int)) (.int .u64 (z' : Int)) (.int .i64 ph') (.int .i64 0) (.int .u64 0) (.int .u64 0) (.int .i64 0)
  have HAh2 := hide HA2
  have HB := hide (bkp (bkp (bnew w (.cells #[.int .i64 n, .int .u64 (x : Int), .int .u64 (z : Int), .int .i64 ph] 32)) (bnew _ (.cells #[.int .i64 n', .int .u64 (x' : Int), .int .u64 (z' : Int), .int .i64 ph'] 32))) (bnew _ (.cells #[.int .i64 0, .int .u64 0, .int .u64 0, .int .i64 0] 32)))
  clear HA2 ha hb
  go_enter Tryd.func67, Tryd.ntmps67
  go_wp2_with fail
  refine (c1 _).mono ?_
  rintro e w1 ⟨rfl, hb1⟩
  have hbn := bnew w1 (.cells #[.int .i64 rn, .int .u64 (rx : Int), .int .u64 (rz : Int), .int .i64 rp] 32)
  have HB1 := hide (bkp (bkp HB.out hb1) hbn)
  have hR := (HAh2.out.below hb1).below hbn
  clear hb1 HAh2 hbn
  unfold At4 at hR
  go_wp2_with (first
    | (refine wpList_store_row rfl _ _ _ rfl (w.heap.size + 1 + 1) _ rfl rfl _ _ hR (by exact infoP) (by rfl) (allP _ _ _ _) ?_))
  refine bodyPost_ret (results_c rfl _ _ (w.heap.size + 1 + 1) _ _ _ _ rfl (setRow_heap _ _ _ _ _ _ hR) Tryd.underlying32 rfl (by exact infoP)) rfl ?_
  exact ⟨rfl, below_setRow HB1.out (by omega) _⟩
end Go.Proofs.YtaggifpnamjghaaDoor.Tbl
