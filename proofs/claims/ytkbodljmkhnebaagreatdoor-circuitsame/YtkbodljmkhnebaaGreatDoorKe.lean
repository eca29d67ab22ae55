/- Package token: number and cut, as they are walked. -/
import Derived.Test.YtkbodljmkhnebaaGreatDoorKd
import Derived.Laws.CopyOwn
namespace Go.Proofs.YtkbodljmkhnebaaGreatDoor.Tok
open Go.RowKit Go.Lib Go.Shelf Go.Proofs.YtkbodljmkhnebaaGreatDoor.Oct

theorem cell_below {w w' : World} {p : Addr} {v : Value} (h : w.cell? p = some v) (hb : Below w.heap.size w w') : w'.cell? p = some v := (hb.cell (World.block_lt_of_cell? w p h)).trans h
/-- strconv.ErrRange is there. -/
def Rg (w : World) : Prop := ∃ ev, w.cell? ⟨6, 0, none⟩ = some ev ∧ (ev = .nilIface ∨ ∃ te pe, ev = .iface te pe)
theorem Rg.below {w w' : World} (h : Rg w) (hb : Below w.heap.size w w') : Rg w' := by
  obtain ⟨e1, h1, k1⟩ := h
  exact ⟨e1, cell_below h1 hb, k1⟩
theorem Mk.below' {w w' : World} (h : Mk w) (hb : Below w.heap.size w w') : Mk w' := fun j v hv => cell_below (h j v hv) hb
theorem Mk.lt {w : World} (h : Mk w) : 2 < w.heap.size := World.block_lt_of_cell? w _ (h 0 _ rfl)
/-- What the program's variables hold, as far as cut leans on them. -/
structure Tw (w : World) : Prop where
  mks : Mk w
  rg : Rg w
theorem Tw.below {w w' : World} (h : Tw w) (hb : Below w.heap.size w w') : Tw w' := ⟨h.mks.below' hb, h.rg.below hb⟩

theorem nAtoi_ok (l : List UInt8) (h0 : l ≠ []) (hd : ∀ b ∈ l, isD b = true) (hl : l.length ≤ 140737488355328) (h : dv 0 l < 9223372036854775808) (w : World) :
    Calls Tryz.prog 165 #[.string ⟨l.toArray⟩] w fun e w' => e = .returned (.tuple #[.int .i64 (dv 0 l : Nat), .nilIface]) ∧ Below w.heap.size w w' := by
  have h' := atoi_dv l h0 hd
  rw [if_pos h] at h'
  refine (Any.strconv_Atoi_ok Tryz.laysAtoi ⟨l.toArray⟩ (by show l.toArray.size ≤ _; simp; omega) _ h' w).mono ?_
  rintro e w' ⟨rfl, h | ⟨t, h⟩⟩
  · exact ⟨rfl, h ▸ Below.refl _ _⟩
  · exact ⟨rfl, h ▸ Lib.bytesWorld_below w _ t⟩
theorem nAtoi_err (l : List UInt8) (h0 : l ≠ []) (hd : ∀ b ∈ l, isD b = true) (hl : l.length ≤ 140737488355328) (h : ¬ dv 0 l < 9223372036854775808) (w : World) (hT : Rg w) :
    Calls Tryz.prog 165 #[.string ⟨l.toArray⟩] w fun e w' => (∃ v N, e = .returned (.tuple #[.int .i64 v, .iface 287 (.pointer (some ⟨N, 0, none⟩))])) ∧ Below w.heap.size w w' := by
  have h' := atoi_dv l h0 hd
  rw [if_neg h] at h'
  have hsz : (⟨l.toArray⟩ : ByteArray).size ≤ 281474976710656 := by show l.toArray.size ≤ _; simp; omega
  obtain ⟨ev, h1, h2⟩ := hT
  exact (Any.strconv_Atoi_range Tryz.laysAtoi ⟨l.toArray⟩ hsz h' ev w h1 h2).mono fun _ _ ⟨N, he, _, _, hb⟩ => ⟨⟨_, N, he⟩, hb⟩

theorem allTok (a c d e f : Int) (s : ByteArray) : (#[Value.int .i64 a, .string s, .int .i64 c, .int .i64 d, .int .i64 e, .int .i64 f]).all (·.oneCell') = true := by simp [Value.oneCell']
theorem frac_le (l : List UInt8) : frac l ≤ l.length := by
  cases l with
  | nil => exact Nat.le_refl _
  | cons a r =>
    have := sp_le isD r
    rw [frac]
    by_cases h : a = 46
    · rw [if_pos h]
      split <;> simp
      omega
    · rw [if_neg h]; exact Nat.zero_le _
theorem numNought (s s1 : ByteArray) (L n0 fr : Nat) (b : UInt8) (w : World) (hL : L ≤ 140737488355328) (hsz : s.size = L) (hn : n0 + fr ≤ L) (hb : ∀ h : 0 < s.size, s[0]'h = b)
    (c1 : ∀ w, Calls Tryz.prog 115 #[.string s, .func (.func 119) #[] #[]] w fun e w' => e = .returned (.int .i64 (n0 : Int)) ∧ w' = w)
    (c2 : ∀ w, Calls Tryz.prog 164 #[.string s1] w fun e w' => e = .returned (.int .i64 (fr : Int)) ∧ w' = w)
    (hx1 : s.extract n0 L = s1) (ha : 1 < n0) (hq : b = 48) :
    Calls Tryz.prog 120 #[.string s] w fun e w' => e = .returned (cutV (.bad 41)) ∧ Below w.heap.size w w' := by
  have mixed := mixed_ok
  subst hq
  have ha' : (1 : Int) < (n0 : Int) := by omega
  have hb0 := hb (by omega)
  clear hb
  go_enter Tryz.func120, Tryz.ntmps120
  go_wp2_with (first | (go_at_call 115; refine (c1 _).mono ?_; rintro e w1 ⟨rfl, rfl⟩) | (go_at_call 164; refine (c2 _).mono ?_; rintro e w1 ⟨rfl, rfl⟩))
  refine bodyPost_ret (results_ctt rfl _ _ w.heap.size _ _ _ _ rfl (heap_alloc_new _ _) Tryz.underlying62 rfl infoTok) rfl ?_
  exact ⟨rfl, below_new _ _⟩
theorem numLetter (s s1 s2 : ByteArray) (L n0 fr m : Nat) (b : UInt8) (w : World) (hL : L ≤ 140737488355328) (hsz : s.size = L) (h1 : 1 ≤ n0) (hn : n0 + fr ≤ L) (hb : ∀ h : 0 < s.size, s[0]'h = b)
    (c1 : ∀ w, Calls Tryz.prog 115 #[.string s, .func (.func 119) #[] #[]] w fun e w' => e = .returned (.int .i64 (n0 : Int)) ∧ w' = w)
    (c2 : ∀ w, Calls Tryz.prog 164 #[.string s1] w fun e w' => e = .returned (.int .i64 (fr : Int)) ∧ w' = w)
    (c3 : ∀ w, Calls Tryz.prog 115 #[.string s2, .func (.func 117) #[] #[]] w fun e w' => e = .returned (.int .i64 (m : Int)) ∧ w' = w)
    (hx1 : s.extract n0 L = s1) (hx2 : s.extract (n0 + fr) L = s2) (hA : ¬ 1 < n0 ∨ (1 < n0 ∧ b ≠ 48)) (hm : 0 < m) :
    Calls Tryz.prog 120 #[.string s] w fun e w' => e = .returned (cutV (.bad 41)) ∧ Below w.heap.size w w' := by
  have mixed := mixed_ok
  have hm' : (0 : Int) < (m : Int) := by omega
  have hb0 := hb (by omega)
  clear hb
  rcases hA with hA | ⟨hA, hq⟩
  · have ha' : ¬ (1 : Int) < (n0 : Int) := by omega
    go_enter Tryz.func120, Tryz.ntmps120
    go_wp2_with (first | (go_at_call 115; (first | (with_reducible refine (c1 _).mono ?_) | (with_reducible refine (c3 _).mono ?_)); rintro e w1 ⟨rfl, rfl⟩) | (go_at_call 164; refine (c2 _).mono ?_; rintro e w1 ⟨rfl, rfl⟩))
    refine bodyPost_ret (results_ctt rfl _ _ w.heap.size _ _ _ _ rfl (heap_alloc_new _ _) Tryz.underlying62 rfl infoTok) rfl ?_
    exact ⟨rfl, below_new _ _⟩
  · have ha' : (1 : Int) < (n0 : Int) := by omega
    have hq1 : ((b.toNat : Int) == 48) = false := by rw [beq_eq_false_iff_ne]; intro e; apply hq; apply UInt8.toNat.inj; simp; omega
    go_enter Tryz.func120, Tryz.ntmps120
    go_wp2_with (first | (go_at_call 115; (first | (with_reducible refine (c1 _).mono ?_) | (with_reducible refine (c3 _).mono ?_)); rintro e w1 ⟨rfl, rfl⟩) | (go_at_call 164; refine (c2 _).mono ?_; rintro e w1 ⟨rfl, rfl⟩))
    refine bodyPost_ret (results_ctt rfl _ _ w.heap.size _ _ _ _ rfl (heap_alloc_new _ _) Tryz.underlying62 rfl infoTok) rfl ?_
    exact ⟨rfl, below_new _ _⟩
theorem numReal (s s1 s2 s3 : ByteArray) (L n0 fr m : Nat) (b : UInt8) (w : World) (hL : L ≤ 140737488355328) (hsz : s.size = L) (h1 : 1 ≤ n0) (hn : n0 + fr ≤ L) (hb : ∀ h : 0 < s.size, s[0]'h = b)
    (c1 : ∀ w, Calls Tryz.prog 115 #[.string s, .func (.func 119) #[] #[]] w fun e w' => e = .returned (.int .i64 (n0 : Int)) ∧ w' = w)
    (c2 : ∀ w, Calls Tryz.prog 164 #[.string s1] w fun e w' => e = .returned (.int .i64 (fr : Int)) ∧ w' = w)
    (c3 : ∀ w, Calls Tryz.prog 115 #[.string s2, .func (.func 117) #[] #[]] w fun e w' => e = .returned (.int .i64 (m : Int)) ∧ w' = w)
    (hx1 : s.extract n0 L = s1) (hx2 : s.extract (n0 + fr) L = s2) (hx3 : s.extract 0 (n0 + fr) = s3) (hA : ¬ 1 < n0 ∨ (1 < n0 ∧ b ≠ 48)) (hm : m = 0) (hf : 0 < fr) (t : List UInt8) (ht : (⟨t.toArray⟩ : ByteArray) = s3) :
    Calls Tryz.prog 120 #[.string s] w fun e w' => e = .returned (cutV (.tok 3 t 0 (n0 + fr))) ∧ Below w.heap.size w w' := by
  have mixed := mixed_ok
  have Ht := hide ht
  clear ht
  subst hm
  have hf' : (n0 : Int) < (n0 : Int) + (fr : Int) := by omega
  have hb0 := hb (by omega)
  clear hb
  rcases hA with hA | ⟨hA, hq⟩
  · have ha' : ¬ (1 : Int) < (n0 : Int) := by omega
    go_enter Tryz.func120, Tryz.ntmps120
    go_wp2_with (first | (go_at_call 115; (first | (with_reducible refine (c1 _).mono ?_) | (with_reducible refine (c3 _).mono ?_)); rintro e w1 ⟨rfl, rfl⟩) | (go_at_call 164; refine (c2 _).mono ?_; rintro e w1 ⟨rfl, rfl⟩))
    refine bodyPost_ret (results_ctt rfl _ _ w.heap.size _ _ _ _ rfl (heap_alloc_new _ _) Tryz.underlying62 rfl infoTok) rfl ?_
    refine ⟨?_, below_new _ _⟩
    rw [cutV, tokV, Ht.out]
    rfl
  · have ha' : (1 : Int) < (n0 : Int) := by omega
    have hq1 : ((b.toNat : Int) == 48) = false := by rw [beq_eq_false_iff_ne]; intro e; apply hq; apply UInt8.toNat.inj; simp; omega
    go_enter Tryz.func120, Tryz.ntmps120
    go_wp2_with (first | (go_at_call 115; (first | (with_reducible refine (c1 _).mono ?_) | (with_reducible refine (c3 _).mono ?_)); rintro e w1 ⟨rfl, rfl⟩) | (go_at_call 164; refine (c2 _).mono ?_; rintro e w1 ⟨rfl, rfl⟩))
    refine bodyPost_ret (results_ctt rfl _ _ w.heap.size _ _ _ _ rfl (heap_alloc_new _ _) Tryz.underlying62 rfl infoTok) rfl ?_
    refine ⟨?_, below_new _ _⟩
    rw [cutV, tokV, Ht.out]
    rfl
theorem numErr (s s1 s3 : ByteArray) (L n0 m : Nat) (b : UInt8) (w : World) (hL : L ≤ 140737488355328) (hsz : s.size = L) (h1 : 1 ≤ n0) (hn : n0 ≤ L) (hb : ∀ h : 0 < s.size, s[0]'h = b)
    (c1 : ∀ w, Calls Tryz.prog 115 #[.string s, .func (.func 119) #[] #[]] w fun e w' => e = .returned (.int .i64 (n0 : Int)) ∧ w' = w)
    (c2 : ∀ w, Calls Tryz.prog 164 #[.string s1] w fun e w' => e = .returned (.int .i64 0) ∧ w' = w)
    (c3 : ∀ w, Calls Tryz.prog 115 #[.string s1, .func (.func 117) #[] #[]] w fun e w' => e = .returned (.int .i64 (m : Int)) ∧ w' = w)
    (hx1 : s.extract n0 L = s1) (hx3 : s.extract 0 (n0) = s3) (hA : ¬ 1 < n0 ∨ (1 < n0 ∧ b ≠ 48)) (hm : m = 0)
    (c4 : ∀ o, Calls Tryz.prog 165 #[.string s3] (w.alloc o) fun e w' => (∃ v N, e = .returned (.tuple #[.int .i64 v, .iface 287 (.pointer (some ⟨N, 0, none⟩))])) ∧ Below (w.alloc o).heap.size (w.alloc o) w') :
    Calls Tryz.prog 120 #[.string s] w fun e w' => e = .returned (cutV (.bad 41)) ∧ Below w.heap.size w w' := by
  have mixed := mixed_ok
  subst hm
  have hb0 := hb (by omega)
  clear hb
  rcases hA with hA | ⟨hA, hq⟩
  · have ha' : ¬ (1 : Int) < (n0 : Int) := by omega
    go_enter Tryz.func120, Tryz.ntmps120
    go_wp2_with (first | (go_at_call 115; (first | (with_reducible refine (c1 _).mono ?_) | (with_reducible refine (c3 _).mono ?_)); rintro e w1 ⟨rfl, rfl⟩) | (go_at_call 164; refine (c2 _).mono ?_; rintro e w1 ⟨rfl, rfl⟩))
    refine (c4 _).mono ?_
    rintro e w1 ⟨⟨v, N, rfl⟩, hb1⟩
    have hg1 := (hb1.block w.heap.size (by simp)).trans (heap_alloc_new _ _)
    go_wp2_with (refine wpList_store_row rfl _ _ _ rfl w.heap.size _ rfl rfl _ _ hg1 (by exact infoTok) (by rfl) (allTok _ _ _ _ _ _) ?_)
    refine bodyPost_ret (results_ctt rfl _ _ w.heap.size _ _ _ _ rfl (setRow_heap _ _ _ _ _ _ hg1) Tryz.underlying62 rfl (by exact infoTok)) rfl ?_
    refine ⟨?_, below_setRow ((below_new _ _).trans (hb1.mono (by simp))) (Nat.le_refl _) _⟩
    rfl
  · have ha' : (1 : Int) < (n0 : Int) := by omega
    have hq1 : ((b.toNat : Int) == 48) = false := by rw [beq_eq_false_iff_ne]; intro e; apply hq; apply UInt8.toNat.inj; simp; omega
    go_enter Tryz.func120, Tryz.ntmps120
    go_wp2_with (first | (go_at_call 115; (first | (with_reducible refine (c1 _).mono ?_) | (with_reducible refine (c3 _).mono ?_)); rintro e w1 ⟨rfl, rfl⟩) | (go_at_call 164; refine (c2 _).mono ?_; rintro e w1 ⟨rfl, rfl⟩))
    refine (c4 _).mono ?_
    rintro e w1 ⟨⟨v, N, rfl⟩, hb1⟩
    have hg1 := (hb1.block w.heap.size (by simp)).trans (heap_alloc_new _ _)
    go_wp2_with (refine wpList_store_row rfl _ _ _ rfl w.heap.size _ rfl rfl _ _ hg1 (by exact infoTok) (by rfl) (allTok _ _ _ _ _ _) ?_)
    refine bodyPost_ret (results_ctt rfl _ _ w.heap.size _ _ _ _ rfl (setRow_heap _ _ _ _ _ _ hg1) Tryz.underlying62 rfl (by exact infoTok)) rfl ?_
    refine ⟨?_, below_setRow ((below_new _ _).trans (hb1.mono (by simp))) (Nat.le_refl _) _⟩
    rfl
theorem numGreat (s s1 s3 : ByteArray) (L n0 m : Nat) (b : UInt8) (w : World) (hL : L ≤ 140737488355328) (hsz : s.size = L) (h1 : 1 ≤ n0) (hn : n0 ≤ L) (hb : ∀ h : 0 < s.size, s[0]'h = b)
    (c1 : ∀ w, Calls Tryz.prog 115 #[.string s, .func (.func 119) #[] #[]] w fun e w' => e = .returned (.int .i64 (n0 : Int)) ∧ w' = w)
    (c2 : ∀ w, Calls Tryz.prog 164 #[.string s1] w fun e w' => e = .returned (.int .i64 0) ∧ w' = w)
    (c3 : ∀ w, Calls Tryz.prog 115 #[.string s1, .func (.func 117) #[] #[]] w fun e w' => e = .returned (.int .i64 (m : Int)) ∧ w' = w)
    (hx1 : s.extract n0 L = s1) (hx3 : s.extract 0 (n0) = s3) (hA : ¬ 1 < n0 ∨ (1 < n0 ∧ b ≠ 48)) (hm : m = 0) (v : Nat) (hv : 1000000000 < v)
    (c4 : ∀ o, Calls Tryz.prog 165 #[.string s3] (w.alloc o) fun e w' => e = .returned (.tuple #[.int .i64 (v : Int), .nilIface]) ∧ Below (w.alloc o).heap.size (w.alloc o) w') :
    Calls Tryz.prog 120 #[.string s] w fun e w' => e = .returned (cutV (.bad 41)) ∧ Below w.heap.size w w' := by
  have mixed := mixed_ok
  subst hm
  have hv' : (1000000000 : Int) < (v : Int) := by omega
  have hb0 := hb (by omega)
  clear hb
  rcases hA with hA | ⟨hA, hq⟩
  · have ha' : ¬ (1 : Int) < (n0 : Int) := by omega
    go_enter Tryz.func120, Tryz.ntmps120
    go_wp2_with (first | (go_at_call 115; (first | (with_reducible refine (c1 _).mono ?_) | (with_reducible refine (c3 _).mono ?_)); rintro e w1 ⟨rfl, rfl⟩) | (go_at_call 164; refine (c2 _).mono ?_; rintro e w1 ⟨rfl, rfl⟩))
    refine (c4 _).mono ?_
    rintro e w1 ⟨rfl, hb1⟩
    have hg1 := (hb1.block w.heap.size (by simp)).trans (heap_alloc_new _ _)
    go_wp2_with (refine wpList_store_row rfl _ _ _ rfl w.heap.size _ rfl rfl _ _ hg1 (by exact infoTok) (by rfl) (allTok _ _ _ _ _ _) ?_)
    refine bodyPost_ret (results_ctt rfl _ _ w.heap.size _ _ _ _ rfl (setRow_heap _ _ _ _ _ _ hg1) Tryz.underlying62 rfl (by exact infoTok)) rfl ?_
    refine ⟨?_, below_setRow ((below_new _ _).trans (hb1.mono (by simp))) (Nat.le_refl _) _⟩
    rfl
  · have ha' : (1 : Int) < (n0 : Int) := by omega
    have hq1 : ((b.toNat : Int) == 48) = false := by rw [beq_eq_false_iff_ne]; intro e; apply hq; apply UInt8.toNat.inj; simp; omega
    go_enter Tryz.func120, Tryz.ntmps120
    go_wp2_with (first | (go_at_call 115; (first | (with_reducible refine (c1 _).mono ?_) | (with_reducible refine (c3 _).mono ?_)); rintro e w1 ⟨rfl, rfl⟩) | (go_at_call 164; refine (c2 _).mono ?_; rintro e w1 ⟨rfl, rfl⟩))
    refine (c4 _).mono ?_
    rintro e w1 ⟨rfl, hb1⟩
    have hg1 := (hb1.block w.heap.size (by simp)).trans (heap_alloc_new _ _)
    go_wp2_with (refine wpList_store_row rfl _ _ _ rfl w.heap.size _ rfl rfl _ _ hg1 (by exact infoTok) (by rfl) (allTok _ _ _ _ _ _) ?_)
    refine bodyPost_ret (results_ctt rfl _ _ w.heap.size _ _ _ _ rfl (setRow_heap _ _ _ _ _ _ hg1) Tryz.underlying62 rfl (by exact infoTok)) rfl ?_
    refine ⟨?_, below_setRow ((below_new _ _).trans (hb1.mono (by simp))) (Nat.le_refl _) _⟩
    rfl
theorem numInt (s s1 s3 : ByteArray) (L n0 m : Nat) (b : UInt8) (w : World) (hL : L ≤ 140737488355328) (hsz : s.size = L) (h1 : 1 ≤ n0) (hn : n0 ≤ L) (hb : ∀ h : 0 < s.size, s[0]'h = b)
    (c1 : ∀ w, Calls Tryz.prog 115 #[.string s, .func (.func 119) #[] #[]] w fun e w' => e = .returned (.int .i64 (n0 : Int)) ∧ w' = w)
    (c2 : ∀ w, Calls Tryz.prog 164 #[.string s1] w fun e w' => e = .returned (.int .i64 0) ∧ w' = w)
    (c3 : ∀ w, Calls Tryz.prog 115 #[.string s1, .func (.func 117) #[] #[]] w fun e w' => e = .returned (.int .i64 (m : Int)) ∧ w' = w)
    (hx1 : s.extract n0 L = s1) (hx3 : s.extract 0 (n0) = s3) (hA : ¬ 1 < n0 ∨ (1 < n0 ∧ b ≠ 48)) (hm : m = 0) (v : Nat) (hv : ¬ 1000000000 < v)
    (c4 : ∀ o, Calls Tryz.prog 165 #[.string s3] (w.alloc o) fun e w' => e = .returned (.tuple #[.int .i64 (v : Int), .nilIface]) ∧ Below (w.alloc o).heap.size (w.alloc o) w') :
    Calls Tryz.prog 120 #[.string s] w fun e w' => e = .returned (cutV (.tok 2 [] v n0)) ∧ Below w.heap.size w w' := by
  have mixed := mixed_ok
  subst hm
  have hv' : ¬ (1000000000 : Int) < (v : Int) := by omega
  have hb0 := hb (by omega)
  clear hb
  rcases hA with hA | ⟨hA, hq⟩
  · have ha' : ¬ (1 : Int) < (n0 : Int) := by omega
    go_enter Tryz.func120, Tryz.ntmps120
    go_wp2_with (first | (go_at_call 115; (first | (with_reducible refine (c1 _).mono ?_) | (with_reducible refine (c3 _).mono ?_)); rintro e w1 ⟨rfl, rfl⟩) | (go_at_call 164; refine (c2 _).mono ?_; rintro e w1 ⟨rfl, rfl⟩))
    refine (c4 _).mono ?_
    rintro e w1 ⟨rfl, hb1⟩
    have hg1 := (hb1.block w.heap.size (by simp)).trans (heap_alloc_new _ _)
    go_wp2_with (refine wpList_store_row rfl _ _ _ rfl w.heap.size _ rfl rfl _ _ hg1 (by exact infoTok) (by rfl) (allTok _ _ _ _ _ _) ?_)
    refine bodyPost_ret (results_ctt rfl _ _ w.heap.size _ _ _ _ rfl (setRow_heap _ _ _ _ _ _ hg1) Tryz.underlying62 rfl (by exact infoTok)) rfl ?_
    refine ⟨?_, below_setRow ((below_new _ _).trans (hb1.mono (by simp))) (Nat.le_refl _) _⟩
    rfl
  · have ha' : (1 : Int) < (n0 : Int) := by omega
    have hq1 : ((b.toNat : Int) == 48) = false := by rw [beq_eq_false_iff_ne]; intro e; apply hq; apply UInt8.toNat.inj; simp; omega
    go_enter Tryz.func120, Tryz.ntmps120
    go_wp2_with (first | (go_at_call 115; (first | (with_reducible refine (c1 _).mono ?_) | (with_reducible refine (c3 _).mono ?_)); rintro e w1 ⟨rfl, rfl⟩) | (go_at_call 164; refine (c2 _).mono ?_; rintro e w1 ⟨rfl, rfl⟩))
    refine (c4 _).mono ?_
    rintro e w1 ⟨rfl, hb1⟩
    have hg1 := (hb1.block w.heap.size (by simp)).trans (heap_alloc_new _ _)
    go_wp2_with (refine wpList_store_row rfl _ _ _ rfl w.heap.size _ rfl rfl _ _ hg1 (by exact infoTok) (by rfl) (allTok _ _ _ _ _ _) ?_)
    refine bodyPost_ret (results_ctt rfl _ _ w.heap.size _ _ _ _ rfl (setRow_heap _ _ _ _ _ _ hg1) Tryz.underlying62 rfl (by exact infoTok)) rfl ?_
    refine ⟨?_, below_setRow ((below_new _ _).trans (hb1.mono (by simp))) (Nat.le_refl _) _⟩
    rfl
theorem nNum (l : List UInt8) (b : UInt8) (r : List UInt8) (hlb : l = b :: r) (hd : isD b = true) (hl : l.length ≤ 140737488355328) (w : World) (hT : Rg w) :
    Calls Tryz.prog 120 #[str l] w fun e w' => e = .returned (cutV (cNum l)) ∧ Below w.heap.size w w' := by
  have h1 : 1 ≤ sp isD l := by rw [hlb, sp_cons_true r hd]; omega
  have hn0 := sp_le isD l
  have hf0 := frac_le (l.drop (sp isD l))
  rw [List.length_drop] at hf0
  have hb : ∀ h : 0 < (⟨l.toArray⟩ : ByteArray).size, (⟨l.toArray⟩ : ByteArray)[0]'h = b := fun h => at_str l 0 b (by rw [hlb]; rfl) h
  have hall := sp_all isD l
  have hhead : l.head? = some b := by rw [hlb]; rfl
  have c1 := fun w => nSpan _ isD eDigit nDigit l hl w
  have c2 := fun w => nFrac (l.drop (sp isD l)) (by rw [List.length_drop]; omega) w
  have c3 := fun w => nSpan _ isL eLetter nLetter (l.drop (sp isD l + frac (l.drop (sp isD l)))) (by rw [List.length_drop]; omega) w
  have hx1 := ext_drop l (sp isD l)
  have hx2 := ext_drop l (sp isD l + frac (l.drop (sp isD l)))
  have hx3 := ext_take l (sp isD l + frac (l.drop (sp isD l)))
  have hsz := size_str l
  unfold cNum
  rw [hhead]
  by_cases hA : 1 < sp isD l ∧ b = 48
  · rw [if_pos (.inl ⟨hA.1, by rw [hA.2]⟩)]
    exact numNought _ _ _ _ _ b w hl hsz (by omega) hb c1 c2 hx1 hA.1 hA.2
  · have hA' : ¬ 1 < sp isD l ∨ (1 < sp isD l ∧ b ≠ 48) := by
      by_cases h : 1 < sp isD l
      · exact .inr ⟨h, fun e => hA ⟨h, e⟩⟩
      · exact .inl h
    by_cases hm : 0 < sp isL (l.drop (sp isD l + frac (l.drop (sp isD l))))
    · rw [if_pos (.inr hm)]
      exact numLetter _ _ _ _ _ _ _ b w hl hsz h1 (by omega) hb c1 c2 c3 hx1 hx2 hA' hm
    · rw [if_neg (by
        rintro (⟨h, e⟩ | h)
        · exact hA ⟨h, Option.some.inj e⟩
        · exact hm h)]
      by_cases hf : 0 < frac (l.drop (sp isD l))
      · rw [if_pos hf]
        exact numReal _ _ _ _ _ _ _ _ b w hl hsz h1 (by omega) hb c1 c2 c3 hx1 hx2 hx3 hA' (by omega) hf _ rfl
      · rw [if_neg hf]
        have hf' : frac (l.drop (sp isD l)) = 0 := by omega
        rw [hf', Nat.add_zero] at c3 hx3 hm
        rw [hf'] at c2
        have h0 : l.take (sp isD l) ≠ [] := by
          intro e
          have := congrArg List.length e
          rw [List.length_take, Nat.min_eq_left hn0] at this
          have h2 : sp isD l = 0 := this
          omega
        have hlt : (l.take (sp isD l)).length ≤ 140737488355328 := by rw [List.length_take]; omega
        by_cases hv : 1000000000 < dv 0 (l.take (sp isD l))
        · rw [if_pos hv]
          by_cases hv2 : dv 0 (l.take (sp isD l)) < 9223372036854775808
          · exact numGreat _ _ _ _ _ _ b w hl hsz h1 (by omega) hb c1 c2 c3 hx1 hx3 hA' (by omega) _ hv (fun o => nAtoi_ok _ h0 hall hlt hv2 _)
          · exact numErr _ _ _ _ _ _ b w hl hsz h1 (by omega) hb c1 c2 c3 hx1 hx3 hA' (by omega) (fun o => nAtoi_err _ h0 hall hlt hv2 _ (hT.below (below_new w o)))
        · rw [if_neg hv]
          exact numInt _ _ _ _ _ _ b w hl hsz h1 (by omega) hb c1 c2 c3 hx1 hx3 hA' (by omega) _ hv (fun o => nAtoi_ok _ h0 hall hlt (by omega) _)

theorem cut_form (C : Cut) : ∃ (k : Int) (t : ByteArray) (v n e : Int), cutV C = .tuple #[.agg #[.int .i64 k, .string t, .int .i64 v, .int .i64 0, .int .i64 0, .int .i64 0], .int .i64 n, .int .i64 e] := by
  cases C with
  | tok k t v n => exact ⟨k, _, v, n, 0, rfl⟩
  | bad e => exact ⟨0, _, 0, 0, e, rfl⟩
theorem cut_name (s : ByteArray) (b : UInt8) (h0 : 0 < s.size) (he : (s.toList == []) = false) (hb : s[0]'h0 = b) (C : Cut) (w : World)
    (hL : isL b = true)
    (c : ∀ o, Calls Tryz.prog 118 #[.string s] (w.alloc o) fun e w' => e = .returned (cutV C) ∧ Below (w.alloc o).heap.size (w.alloc o) w') :
    Calls Tryz.prog 70 #[.string s] w fun e w' => e = .returned (cutV C) ∧ Below w.heap.size w w' := by
  have c1 := fun w => nLetter b w
  rw [hL] at c1
  obtain ⟨k, t, v, n, er, hC⟩ := cut_form C
  rw [hC] at c ⊢
  have h0' : (0 : Int) < (s.size : Int) := by omega
  clear hC
  go_enter Tryz.func70, Tryz.ntmps70
  go_wp2_with (first | (go_at_call 117; refine (c1 _).mono ?_; rintro e w1 ⟨rfl, rfl⟩))
  refine (c _).mono ?_
  rintro e w1 ⟨rfl, hb1⟩
  have hg1 := (hb1.block w.heap.size (by simp)).trans (heap_alloc_new _ _)
  go_wp2_with (refine wpList_store_row rfl _ _ _ rfl w.heap.size _ rfl rfl _ _ hg1 (by exact infoTok) (by rfl) (allTok _ _ _ _ _ _) ?_)
  refine bodyPost_ret (results_ctt rfl _ _ w.heap.size _ _ _ _ rfl (setRow_heap _ _ _ _ _ _ hg1) Tryz.underlying62 rfl (by exact infoTok)) rfl ?_
  exact ⟨rfl, below_setRow ((below_new _ _).trans (hb1.mono (by simp))) (Nat.le_refl _) _⟩
theorem cut_number (s : ByteArray) (b : UInt8) (h0 : 0 < s.size) (he : (s.toList == []) = false) (hb : s[0]'h0 = b) (C : Cut) (w : World)
    (hL : isL b = false) (hD : isD b = true)
    (c : ∀ o, Calls Tryz.prog 120 #[.string s] (w.alloc o) fun e w' => e = .returned (cutV C) ∧ Below (w.alloc o).heap.size (w.alloc o) w') :
    Calls Tryz.prog 70 #[.string s] w fun e w' => e = .returned (cutV C) ∧ Below w.heap.size w w' := by
  have c1 := fun w => nLetter b w
  rw [hL] at c1
  have c2 := fun w => nDigit b w
  rw [hD] at c2
  obtain ⟨k, t, v, n, er, hC⟩ := cut_form C
  rw [hC] at c ⊢
  have h0' : (0 : Int) < (s.size : Int) := by omega
  clear hC
  go_enter Tryz.func70, Tryz.ntmps70
  go_wp2_with (first | (go_at_call 117; refine (c1 _).mono ?_; rintro e w1 ⟨rfl, rfl⟩) | (go_at_call 119; refine (c2 _).mono ?_; rintro e w1 ⟨rfl, rfl⟩))
  refine (c _).mono ?_
  rintro e w1 ⟨rfl, hb1⟩
  have hg1 := (hb1.block w.heap.size (by simp)).trans (heap_alloc_new _ _)
  go_wp2_with (refine wpList_store_row rfl _ _ _ rfl w.heap.size _ rfl rfl _ _ hg1 (by exact infoTok) (by rfl) (allTok _ _ _ _ _ _) ?_)
  refine bodyPost_ret (results_ctt rfl _ _ w.heap.size _ _ _ _ rfl (setRow_heap _ _ _ _ _ _ hg1) Tryz.underlying62 rfl (by exact infoTok)) rfl ?_
  exact ⟨rfl, below_setRow ((below_new _ _).trans (hb1.mono (by simp))) (Nat.le_refl _) _⟩
theorem cut_quoted (s : ByteArray) (b : UInt8) (h0 : 0 < s.size) (he : (s.toList == []) = false) (hb : s[0]'h0 = b) (C : Cut) (w : World)
    (hL : isL b = false) (hD : isD b = false) (hQ : ((b.toNat : Int) == 34) = true)
    (c : ∀ o, Calls Tryz.prog 121 #[.string s] (w.alloc o) fun e w' => e = .returned (cutV C) ∧ Below (w.alloc o).heap.size (w.alloc o) w') :
    Calls Tryz.prog 70 #[.string s] w fun e w' => e = .returned (cutV C) ∧ Below w.heap.size w w' := by
  have c1 := fun w => nLetter b w
  rw [hL] at c1
  have c2 := fun w => nDigit b w
  rw [hD] at c2
  obtain ⟨k, t, v, n, er, hC⟩ := cut_form C
  rw [hC] at c ⊢
  have h0' : (0 : Int) < (s.size : Int) := by omega
  clear hC
  go_enter Tryz.func70, Tryz.ntmps70
  go_wp2_with (first | (go_at_call 117; refine (c1 _).mono ?_; rintro e w1 ⟨rfl, rfl⟩) | (go_at_call 119; refine (c2 _).mono ?_; rintro e w1 ⟨rfl, rfl⟩))
  refine (c _).mono ?_
  rintro e w1 ⟨rfl, hb1⟩
  have hg1 := (hb1.block w.heap.size (by simp)).trans (heap_alloc_new _ _)
  go_wp2_with (refine wpList_store_row rfl _ _ _ rfl w.heap.size _ rfl rfl _ _ hg1 (by exact infoTok) (by rfl) (allTok _ _ _ _ _ _) ?_)
  refine bodyPost_ret (results_ctt rfl _ _ w.heap.size _ _ _ _ rfl (setRow_heap _ _ _ _ _ _ hg1) Tryz.underlying62 rfl (by exact infoTok)) rfl ?_
  exact ⟨rfl, below_setRow ((below_new _ _).trans (hb1.mono (by simp))) (Nat.le_refl _) _⟩
theorem cut_mark (s : ByteArray) (b : UInt8) (h0 : 0 < s.size) (he : (s.toList == []) = false) (hb : s[0]'h0 = b) (C : Cut) (w : World)
    (hL : isL b = false) (hD : isD b = false) (hQ : ((b.toNat : Int) == 34) = false)
    (c : ∀ o, Calls Tryz.prog 122 #[.string s] (w.alloc o) fun e w' => e = .returned (cutV C) ∧ Below (w.alloc o).heap.size (w.alloc o) w') :
    Calls Tryz.prog 70 #[.string s] w fun e w' => e = .returned (cutV C) ∧ Below w.heap.size w w' := by
  have c1 := fun w => nLetter b w
  rw [hL] at c1
  have c2 := fun w => nDigit b w
  rw [hD] at c2
  obtain ⟨k, t, v, n, er, hC⟩ := cut_form C
  rw [hC] at c ⊢
  have h0' : (0 : Int) < (s.size : Int) := by omega
  clear hC
  go_enter Tryz.func70, Tryz.ntmps70
  go_wp2_with (first | (go_at_call 117; refine (c1 _).mono ?_; rintro e w1 ⟨rfl, rfl⟩) | (go_at_call 119; refine (c2 _).mono ?_; rintro e w1 ⟨rfl, rfl⟩))
  refine (c _).mono ?_
  rintro e w1 ⟨rfl, hb1⟩
  have hg1 := (hb1.block w.heap.size (by simp)).trans (heap_alloc_new _ _)
  go_wp2_with (refine wpList_store_row rfl _ _ _ rfl w.heap.size _ rfl rfl _ _ hg1 (by exact infoTok) (by rfl) (allTok _ _ _ _ _ _) ?_)
  refine bodyPost_ret (results_ctt rfl _ _ w.heap.size _ _ _ _ rfl (setRow_heap _ _ _ _ _ _ hg1) Tryz.underlying62 rfl (by exact infoTok)) rfl ?_
  exact ⟨rfl, below_setRow ((below_new _ _).trans (hb1.mono (by simp))) (Nat.le_refl _) _⟩
/-- A token, as cut hands it on. -/
theorem nCut (l : List UInt8) (hl : l.length ≤ 140737488355328) (w : World) (hT : Tw w) : Calls Tryz.prog 70 #[str l] w fun e w' => e = .returned (cutV (cut l)) ∧ Below w.heap.size w w' := by
  cases l with
  | nil =>
    unfold str
    go_enter Tryz.func70, Tryz.ntmps70
    go_wp2_with fail
    refine bodyPost_ret (results_ctt rfl _ _ w.heap.size _ _ _ _ rfl (heap_alloc_new _ _) Tryz.underlying62 rfl infoTok) rfl ?_
    exact ⟨rfl, below_new _ _⟩
  | cons b r =>
    have h0 : 0 < (⟨(b :: r).toArray⟩ : ByteArray).size := by rw [size_str]; simp
    have he : ((⟨(b :: r).toArray⟩ : ByteArray).toList == []) = false := by rw [ByteArray.toList_eq]; rfl
    have hb := at_str (b :: r) 0 b rfl h0
    rw [show cut (b :: r) = if isL b then cName (b :: r) else if isD b then cNum (b :: r) else if b = 34 then cQuo (b :: r) else cMark (b :: r) from rfl]
    have hW : ∀ o, Tw (w.alloc o) := fun o => hT.below (below_new w o)
    cases hL : isL b with
    | true =>
      rw [if_pos rfl]
      exact cut_name _ b h0 he hb _ w hL (fun o => nName _ hl _)
    | false =>
      rw [if_neg (by simp)]
      cases hD : isD b with
      | true =>
        rw [if_pos rfl]
        exact cut_number _ b h0 he hb _ w hL hD (fun o => nNum _ b r rfl hD hl _ (hW o).rg)
      | false =>
        rw [if_neg (by simp)]
        by_cases hq : b = 34
        · rw [if_pos hq]
          exact cut_quoted _ b h0 he hb _ w hL hD (by rw [hq]; rfl) (fun o => nQuo _ (by simp) hl _)
        · rw [if_neg hq]
          exact cut_mark _ b h0 he hb _ w hL hD (by rw [beq_eq_false_iff_ne]; intro e; apply hq; apply UInt8.toNat.inj; simp; omega) (fun o => nMark _ _ (hW o).mks (hW o).mks.lt)
end Go.Proofs.YtkbodljmkhnebaaGreatDoor.Tok
