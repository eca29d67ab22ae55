import Derived.Test.YtllfplkefbhnfaaDoorKe2d0bb6e
set_option maxRecDepth 100000
set_option maxHeartbeats 2000000
namespace Go.Proofs.YtllfplkefbhnfaaDoor.Tbl
open Go.RowKit Go.Shelf Go.Proofs.YtllfplkefbhnfaaDoor.Pau Go.Proofs.YtllfplkefbhnfaaDoor.Gt
def Rr (N : Nat) (p : P) : Prop := rt p = true /\ p.n = (N : Int)
theorem Rr.wd {N : Nat} {p : P} (h : Rr N p) : Wd p := by
  obtain ⟨h1, h2⟩ := h
  obtain ⟨a, b, c, d, -⟩ := rt_iff.1 h1
  have hp : 2 ^ p.n.toNat <= 2 ^ 64 := Nat.pow_le_pow_right (by decide) (by omega)
  have e : (2 : Nat) ^ 64 = 18446744073709551616 := by decide
  exact ⟨by omega, by omega⟩
theorem Rr.fit {N : Nat} {a b : P} (ha : Rr N a) (hb : Rr N b) : fitP a b = true := fit_iff.2 ⟨ha.1, hb.1, ha.2.trans hb.2.symm⟩
theorem Rr.pd {N : Nat} {a b : P} (ha : Rr N a) (hb : Rr N b) : pdP a b = mulP a b /\ Rr N (pdP a b) := by
  have hf := ha.fit hb
  have e : pdP a b = mulP a b := by unfold pdP mulR; rw [if_pos hf]
  rw [e]
  exact ⟨rfl, mul_rt hf, ha.2⟩
theorem Rr.n64 {N : Nat} {p : P} (h : Rr N p) : N <= 64 := by
  have := (rt_iff.1 h.1).2.1
  have := h.2
  omega
def bitN (N : Nat) (p : P) (c : Nat) : Nat := if c < N then bt p.x c else bt p.z (c - N)
def bitB (N c : Nat) (p : P) : Bool := bitN N p c == 1
theorem bitN_lt (N : Nat) (p : P) (c : Nat) : bitN N p c < 2 := by unfold bitN; split <;> exact bt_lt _ _
theorem tBit (N : Nat) (p : P) (hp : Rr N p) (c : Nat) (hc : c < 2 * N) (w : World) : Calls Tryd.prog 58 #[pV p, .int .i64 (c : Int)] w fun e w' => e = .returned (.int .u64 (bitN N p c : Int)) /\ Below w.heap.size w w' := by
  have hN := hp.n64
  have hw := hp.wd
  have hpn := hp.2
  have b1 := bit_run p.x c hw.1
  have b2 := bit_run p.z (c - N) hw.2
  unfold bitN
  obtain ⟨n, x, z, ph⟩ := p
  simp only at *
  subst hpn
  unfold pV
  simp only
  have HB := hide (bnew w (.cells #[.int .i64 (N : Int), .int .u64 (x : Int), .int .u64 (z : Int), .int .i64 ph] 39))
  clear hp
  by_cases h : c < N
  . rw [if_pos h]
    have d1 : decide ((c : Int) < (N : Int)) = true := decide_eq_true (by omega)
    generalize bt x c = r at *
    clear b2
    go_enter Tryd.func58, Tryd.ntmps58
    go_wp2_with fail
    go_ret
    exact ⟨rfl, HB.out⟩
  . rw [if_neg h]
    obtain ⟨d, rfl⟩ : ∃ d, c = N + d := ⟨c - N, by omega⟩
    rw [show N + d - N = d by omega] at b2 ⊢
    have d1 : decide (((N + d : Nat) : Int) < (N : Int)) = false := decide_eq_false (by omega)
    have e1 : wrap64 (((N + d : Nat) : Int) - (N : Int)) = (d : Int) := by unfold wrap64; omega
    have e2 : IntKind.i64.wrap (((N + d : Nat) : Int) - (N : Int)) = (d : Int) := by rw [wrapI]; omega
    have hd64 : (d : Int) <= 64 := by omega
    generalize bt z d = r at *
    clear b1
    go_enter Tryd.func58, Tryd.ntmps58
    go_wp2_with fail
    go_ret
    exact ⟨rfl, HB.out⟩
def At1 (w : World) (g : Nat) (c : Int) : Prop := w.heap[g]? = some (.cells #[.int .i64 c] 3 (0, 0))
theorem At1.lt {w : World} {g : Nat} {c : Int} (h : At1 w g c) : g < w.heap.size := (Array.getElem?_eq_some_iff.1 h).1
theorem At1.below {w w' : World} {g : Nat} {c : Int} (h : At1 w g c) (hb : Below w.heap.size w w') : At1 w' g c := (hb.block g h.lt).trans h
theorem At1.cell {w : World} {g : Nat} {c : Int} (h : At1 w g c) : w.cell? ⟨g, 0, none⟩ = some (.int .i64 c) := cell_of_row _ _ 0 _ _ _ h
theorem At1.bx {g b : Nat} {w w' : World} {c : Int} (h : At1 w b c) (hb : Bx g w w') (hne : b ≠ g) : At1 w' b c := (hb.block b h.lt hne).trans h
theorem tSet (N : Nat) (p : P) (hp : Rr N p) (c : Nat) (hc : c < 2 * N) (g : Nat) (w : World) (h : At1 w g (c : Int)) :
    Calls Tryd.prog 57 #[pV p, .pointer (some ⟨g, 0, none⟩)] w fun e w' => e = .returned (.bool (bitB N c p)) /\ Below w.heap.size w w' := by
  have c1 := fun W => tBit N p hp c hc W
  unfold bitB
  have hl := bitN_lt N p c
  generalize bitN N p c = r at *
  have hr : (r == 1) = ((r : Int) == 1) := by
    have : r = 0 ∨ r = 1 := by omega
    rcases this with rfl | rfl <;> rfl
  rw [hr]
  obtain ⟨n, x, z, ph⟩ := p
  unfold pV at *
  simp only at *
  have HB := hide (bnew w (.cells #[.int .i64 n, .int .u64 (x : Int), .int .u64 (z : Int), .int .i64 ph] 39))
  have x0 := (h.below HB.out).cell
  have x1 := (h.below HB.out).lt
  clear hp h hr
  go_enter Tryd.func57, Tryd.ntmps57
  go_wp2_with (go_at_call 58; refine (c1 _).mono ?_; rintro e w1 ⟨rfl, hb1⟩; have HB1 := hide (bkp HB.out hb1))
  go_ret
  exact ⟨rfl, HB1.out⟩
theorem eSet : ∀ args w, (callFunc 57 args).run Tryd.prog w = .ok (.enter 57 args) w := enters_of Tryd.func57 (by kernel_rfl) rfl
theorem tell_set {V : World} {g N c : Nat} (hc : c < 2 * N) (h : At1 V g (c : Int)) : Tell (Rr N) V (.func (.func 57) #[] #[.pointer (some ⟨g, 0, none⟩)]) (bitB N c) := ⟨57, _, rfl, eSet, fun U hU p hp => tSet N p hp c hc g U (h.below hU)⟩
def pvK (N c : Nat) (s : List P × Nat) : Nat := s.2 + (s.1.drop s.2).findIdx (bitB N c)
def redC (N c : Nat) (s : List P × Nat) : List P × Nat :=
  if (s.1.drop s.2).any (bitB N c) = true then (mlL ((s.1.set s.2 (s.1.getD (pvK N c s) oP)).set (pvK N c s) (s.1.getD s.2 oP)) (s.1.getD (pvK N c s) oP) s.2 (bitB N c), s.2 + 1) else s
def redS (N : Nat) (l : List P) : Nat -> List P × Nat
  | 0 => (l, 0)
  | c + 1 => redC N c (redS N l c)
theorem redC_len (N c : Nat) (s : List P × Nat) : (redC N c s).1.length = s.1.length := by
  unfold redC
  split
  . simp only [ml_len, List.length_set]
  . rfl
theorem redS_len (N : Nat) (l : List P) : ∀ c, (redS N l c).1.length = l.length
  | 0 => rfl
  | c + 1 => by rw [redS, redC_len, redS_len N l c]
theorem redC_rank {N c : Nat} {s : List P × Nat} (h : s.2 <= s.1.length) : (redC N c s).2 <= s.1.length /\ s.2 <= (redC N c s).2 /\ ((s.1.drop s.2).any (bitB N c) = true -> pvK N c s < s.1.length /\ s.2 < s.1.length) := by
  have key : (s.1.drop s.2).any (bitB N c) = true -> pvK N c s < s.1.length /\ s.2 < s.1.length := by
    intro ha
    obtain ⟨x, hx, hT⟩ := List.any_eq_true.1 ha
    have := List.findIdx_lt_length_of_exists (p := bitB N c) ⟨x, hx, hT⟩
    rw [List.length_drop] at this
    unfold pvK
    omega
  unfold redC
  split
  . rename_i ha
    have := key ha
    exact ⟨by show s.2 + 1 <= _; omega, by show s.2 <= s.2 + 1; omega, key⟩
  . exact ⟨h, Nat.le_refl _, key⟩
theorem redS_rank (N : Nat) (l : List P) : ∀ c, (redS N l c).2 <= l.length
  | 0 => Nat.zero_le _
  | c + 1 => by
    have h := redS_rank N l c
    rw [← redS_len N l c] at h
    have := (redC_rank (N := N) (c := c) h).1
    rw [redS_len] at this
    exact this
theorem rr_ml {N : Nat} {l : List P} (h : ∀ p ∈ l, Rr N p) {q : P} (hq : Rr N q) (k : Nat) (T : P -> Bool) : ∀ p ∈ mlL l q k T, Rr N p := by
  intro p hp
  obtain ⟨i, hi⟩ := List.getElem?_of_mem hp
  have hl := (List.getElem?_eq_some_iff.1 hi).1
  rw [ml_len] at hl
  unfold mlL at hi
  rw [upd_at _ _ _ _ hl, if_pos hl] at hi
  cases hi
  have hh := h _ (List.mem_of_getElem? (get_of hl))
  unfold mulF
  split
  . exact (hh.pd hq).2
  . exact hh
theorem rr_set {N : Nat} {l : List P} (h : ∀ p ∈ l, Rr N p) {q : P} (hq : Rr N q) (k : Nat) : ∀ p ∈ l.set k q, Rr N p := by
  intro p hp
  rcases List.mem_or_eq_of_mem_set hp with h1 | h1
  . exact h p h1
  . rw [h1]; exact hq
theorem rr_getD {N : Nat} {l : List P} (h : ∀ p ∈ l, Rr N p) {i : Nat} (hi : i < l.length) : Rr N (l.getD i oP) := h _ (List.mem_of_getElem? (get_of hi))
theorem redC_rr {N c : Nat} {s : List P × Nat} (h : ∀ p ∈ s.1, Rr N p) (hr : s.2 <= s.1.length) : ∀ p ∈ (redC N c s).1, Rr N p := by
  have hk := (redC_rank (N := N) (c := c) hr).2.2
  unfold redC
  split
  . rename_i ha
    obtain ⟨h1, h2⟩ := hk ha
    exact rr_ml (rr_set (rr_set h (rr_getD h h1) _) (rr_getD h h2) _) (rr_getD h h1) _ _
  . exact h
theorem redS_rr {N : Nat} {l : List P} (h : ∀ p ∈ l, Rr N p) : ∀ c, ∀ p ∈ (redS N l c).1, Rr N p
  | 0 => h
  | c + 1 => redC_rr (redS_rr h c) (by rw [redS_len]; exact redS_rank N l c)
end Go.Proofs.YtllfplkefbhnfaaDoor.Tbl
