import Derived.Test.YtnghfdnlcnocjaaGreatDoorE888acaa8
import Derived.Laws.CopyOwn
set_option maxHeartbeats 2000000
namespace Go.Proofs.YtnghfdnlcnocjaaGreatDoor.Tok
open Go.RowKit Go.Lib Go.Shelf Go.Proofs.YtnghfdnlcnocjaaGreatDoor.Oct
theorem cell_below {w w' : World} {p : Addr} {v : Value} (h : w.cell? p = some v) (hb : Below w.heap.size w w') : w'.cell? p = some v := (hb.cell (World.block_lt_of_cell? w p h)).trans h
def Rg (w : World) : Prop := ∃ ev, w.cell? ⟨6, 0, none⟩ = some ev /\ (ev = .nilIface ∨ ∃ te pe, ev = .iface te pe)
theorem Rg.below {w w' : World} (h : Rg w) (hb : Below w.heap.size w w') : Rg w' := by
  obtain ⟨e1, h1, k1⟩ := h
  exact ⟨e1, cell_below h1 hb, k1⟩
theorem Mk.below' {w w' : World} (h : Mk w) (hb : Below w.heap.size w w') : Mk w' := fun j v hv => cell_below (h j v hv) hb
theorem Mk.lt {w : World} (h : Mk w) : 2 < w.heap.size := World.block_lt_of_cell? w _ (h 0 _ rfl)
structure Tw (w : World) : Prop where
  mks : Mk w
  rg : Rg w
theorem Tw.below {w w' : World} (h : Tw w) (hb : Below w.heap.size w w') : Tw w' := ⟨h.mks.below' hb, h.rg.below hb⟩
theorem nAtoi_ok (l : List UInt8) (h0 : l ≠ []) (hd : ∀ b ∈ l, isD b = true) (hl : l.length <= 140737488355328) (h : dv 0 l < 9223372036854775808) (w : World) :
    Calls Tryz.prog 103 #[.string ⟨l.toArray⟩] w fun e w' => e = .returned (.tuple #[.int .i64 (dv 0 l : Nat), .nilIface]) /\ Below w.heap.size w w' := by
  have h' := atoi_dv l h0 hd
  rw [if_pos h] at h'
  refine (Any.strconv_Atoi_ok Tryz.laysAtoi ⟨l.toArray⟩ (by show l.toArray.size <= _; simp; omega) _ h' w).mono ?_
  rintro e w' ⟨rfl, h | ⟨t, h⟩⟩
  . exact ⟨rfl, h ▸ Below.refl _ _⟩
  . exact ⟨rfl, h ▸ Lib.bytesWorld_below w _ t⟩
theorem nAtoi_err (l : List UInt8) (h0 : l ≠ []) (hd : ∀ b ∈ l, isD b = true) (hl : l.length <= 140737488355328) (h : ¬ dv 0 l < 9223372036854775808) (w : World) (hT : Rg w) :
    Calls Tryz.prog 103 #[.string ⟨l.toArray⟩] w fun e w' => (∃ v N, e = .returned (.tuple #[.int .i64 v, .iface 233 (.pointer (some ⟨N, 0, none⟩))])) /\ Below w.heap.size w w' := by
  have h' := atoi_dv l h0 hd
  rw [if_neg h] at h'
  have hsz : (⟨l.toArray⟩ : ByteArray).size <= 281474976710656 := by show l.toArray.size <= _; simp; omega
  obtain ⟨ev, h1, h2⟩ := hT
  exact (Any.strconv_Atoi_range Tryz.laysAtoi ⟨l.toArray⟩ hsz h' ev w h1 h2).mono fun _ _ ⟨N, he, _, _, hb⟩ => ⟨⟨_, N, he⟩, hb⟩
theorem allTok (a c d e f : Int) (s : ByteArray) : (#[Value.int .i64 a, .string s, .int .i64 c, .int .i64 d, .int .i64 e, .int .i64 f]).all (·.oneCell') = true := by simp [Value.oneCell']
theorem frac_le (l : List UInt8) : frac l <= l.length := by
  cases l with
  | nil => exact Nat.le_refl _
  | cons a r =>
    have := sp_le isD r
    rw [frac]
    by_cases h : a = 46
    . rw [if_pos h]
      split <;> simp
      omega
    . rw [if_neg h]; exact Nat.zero_le _
theorem numNought (s s1 : ByteArray) (L n0 fr : Nat) (b : UInt8) (w : World) (hL : L <= 140737488355328) (hsz : s.size = L) (hn : n0 + fr <= L) (hb : ∀ h : 0 < s.size, s[0]'h = b)
    (c1 : ∀ w, Calls Tryz.prog 74 #[.string s, .func (.func 78) #[] #[]] w fun e w' => e = .returned (.int .i64 (n0 : Int)) /\ w' = w)
    (c2 : ∀ w, Calls Tryz.prog 102 #[.string s1] w fun e w' => e = .returned (.int .i64 (fr : Int)) /\ w' = w)
    (hx1 : s.extract n0 L = s1) (ha : 1 < n0) (hq : b = 48) :
    Calls Tryz.prog 79 #[.string s] w fun e w' => e = .returned (cutV (.bad 41)) /\ Below w.heap.size w w' := by
  have mixed := mixed_ok
  subst hq
  have ha' : (1 : Int) < (n0 : Int) := by omega
  have hb0 := hb (by omega)
  clear hb
  go_enter Tryz.func79, Tryz.ntmps79
  go_wp2_with (first | (go_at_call 74; refine (c1 _).mono ?_; rintro e w1 ⟨rfl, rfl⟩) | (go_at_call 102; refine (c2 _).mono ?_; rintro e w1 ⟨rfl, rfl⟩))
  refine bodyPost_ret (results_ctt rfl _ _ w.heap.size _ _ _ _ rfl (heap_alloc_new _ _) Tryz.underlying100 rfl infoTok) rfl ?_
  exact ⟨rfl, below_new _ _⟩
theorem numLetter (s s1 s2 : ByteArray) (L n0 fr m : Nat) (b : UInt8) (w : World) (hL : L <= 140737488355328) (hsz : s.size = L) (h1 : 1 <= n0) (hn : n0 + fr <= L) (hb : ∀ h : 0 < s.size, s[0]'h = b)
    (c1 : ∀ w, Calls Tryz.prog 74 #[.string s, .func (.func 78) #[] #[]] w fun e w' => e = .returned (.int .i64 (n0 : Int)) /\ w' = w)
    (c2 : ∀ w, Calls Tryz.prog 102 #[.string s1] w fun e w' => e = .returned (.int .i64 (fr : Int)) /\ w' = w)
    (c3 : ∀ w, Calls Tryz.prog 74 #[.string s2, .func (.func 76) #[] #[]] w fun e w' => e = .returned (.int .i64 (m : Int)) /\ w' = w)
    (hx1 : s.extract n0 L = s1) (hx2 : s.extract (n0 + fr) L = s2) (hA : ¬ 1 < n0 ∨ (1 < n0 /\ b ≠ 48)) (hm : 0 < m) :
    Calls Tryz.prog 79 #[.string s] w fun e w' => e = .returned (cutV (.bad 41)) /\ Below w.heap.size w w' := by
  have mixed := mixed_ok
  have hm' : (0 : Int) < (m : Int) := by omega
  have hb0 := hb (by omega)
  clear hb
  rcases hA with hA | ⟨hA, hq⟩
  . have ha' : ¬ (1 : Int) < (n0 : Int) := by omega
    go_enter Tryz.func79, Tryz.ntmps79
    go_wp2_with (first | (go_at_call 74; (first | (with_reducible refine (c1 _).mono ?_) | (with_reducible refine (c3 _).mono ?_)); rintro e w1 ⟨rfl, rfl⟩) | (go_at_call 102; refine (c2 _).mono ?_; rintro e w1 ⟨rfl, rfl⟩))
    refine bodyPost_ret (results_ctt rfl _ _ w.heap.size _ _ _ _ rfl (heap_alloc_new _ _) Tryz.underlying100 rfl infoTok) rfl ?_
    exact ⟨rfl, below_new _ _⟩
  . have ha' : (1 : Int) < (n0 : Int) := by omega
    have hq1 : ((b.toNat : Int) == 48) = false := by rw [beq_eq_false_iff_ne]; intro e; apply hq; apply UInt8.toNat.inj; simp; omega
    go_enter Tryz.func79, Tryz.ntmps79
    go_wp2_with (first | (go_at_call 74; (first | (with_reducible refine (c1 _).mono ?_) | (with_reducible refine (c3 _).mono ?_)); rintro e w1 ⟨rfl, rfl⟩) | (go_at_call 102; refine (c2 _).mono ?_; rintro e w1 ⟨rfl, rfl⟩))
    refine bodyPost_ret (results_ctt rfl _ _ w.heap.size _ _ _ _ rfl (heap_alloc_new _ _) Tryz.underlying100 rfl infoTok) rfl ?_
    exact ⟨rfl, below_new _ _⟩
theorem numReal (s s1 s2 s3 : ByteArray) (L n0 fr m : Nat) (b : UInt8) (w : World) (hL : L <= 140737488355328) (hsz : s.size = L) (h1 : 1 <= n0) (hn : n0 + fr <= L) (hb : ∀ h : 0 < s.size, s[0]'h = b)
    (c1 : ∀ w, Calls Tryz.prog 74 #[.string s, .func (.func 78) #[] #[]] w fun e w' => e = .returned (.int .i64 (n0 : Int)) /\ w' = w)
    (c2 : ∀ w, Calls Tryz.prog 102 #[.string s1] w fun e w' => e = .returned (.int .i64 (fr : Int)) /\ w' = w)
    (c3 : ∀ w, Calls Tryz.prog 74 #[.string s2, .func (.func 76) #[] #[]] w fun e w' => e = .returned (.int .i64 (m : Int)) /\ w' = w)
    (hx1 : s.extract n0 L = s1) (hx2 : s.extract (n0 + fr) L = s2) (hx3 : s.extract 0 (n0 + fr) = s3) (hA : ¬ 1 < n0 ∨ (1 < n0 /\ b ≠ 48)) (hm : m = 0) (hf : 0 < fr) (t : List UInt8) (ht : (⟨t.toArray⟩ : ByteArray) = s3) :
    Calls Tryz.prog 79 #[.string s] w fun e w' => e = .returned (cutV (.tok 3 t 0 (n0 + fr))) /\ Below w.heap.size w w' := by
  have mixed := mixed_ok
  have Ht := hide ht
  clear ht
  subst hm
  have hf' : (n0 : Int) < (n0 : Int) + (fr : Int) := by omega
  have hb0 := hb (by omega)
  clear hb
  rcases hA with hA | ⟨hA, hq⟩
  . have ha' : ¬ (1 : Int) < (n0 : Int) := by omega
    go_enter Tryz.func79, Tryz.ntmps79
    go_wp2_with (first | (go_at_call 74; (first | (with_reducible refine (c1 _).mono ?_) | (with_reducible refine (c3 _).mono ?_)); rintro e w1 ⟨rfl, rfl⟩) | (go_at_call 102; refine (c2 _).mono ?_; rintro e w1 ⟨rfl, rfl⟩))
    refine bodyPost_ret (results_ctt rfl _ _ w.heap.size _ _ _ _ rfl (heap_alloc_new _ _) Tryz.underlying100 rfl infoTok) rfl ?_
    refine ⟨?_, below_new _ _⟩
    rw [cutV, tokV, Ht.out]
    rfl
  . have ha' : (1 : Int) < (n0 : Int) := by omega
    have hq1 : ((b.toNat : Int) == 48) = false := by rw [beq_eq_false_iff_ne]; intro e; apply hq; apply UInt8.toNat.inj; simp; omega
    go_enter Tryz.func79, Tryz.ntmps79
    go_wp2_with (first | (go_at_call 74; (first | (with_reducible refine (c1 _).mono ?_) | (with_reducible refine (c3 _).mono ?_)); rintro e w1 ⟨rfl, rfl⟩) | (go_at_call 102; refine (c2 _).mono ?_; rintro e w1 ⟨rfl, rfl⟩))
    refine bodyPost_ret (results_ctt rfl _ _ w.heap.size _ _ _ _ rfl (heap_alloc_new _ _) Tryz.underlying100 rfl infoTok) rfl ?_
    refine ⟨?_, below_new _ _⟩
    rw [cutV, tokV, Ht.out]
    rfl
theorem numErr (s s1 s3 : ByteArray) (L n0 m : Nat) (b : UInt8) (w : World) (hL : L <= 140737488355328) (hsz : s.size = L) (h1 : 1 <= n0) (hn : n0 <= L) (hb : ∀ h : 0 < s.size, s[0]'h = b)
    (c1 : ∀ w, Calls Tryz.prog 74 #[.string s, .func (.func 78) #[] #[]] w fun e w' => e = .returned (.int .i64 (n0 : Int)) /\ w' = w)
    (c2 : ∀ w, Calls Tryz.prog 102 #[.string s1] w fun e w' => e = .returned (.int .i64 0) /\ w' = w)
    (c3 : ∀ w, Calls Tryz.prog 74 #[.string s1, .func (.func 76) #[] #[]] w fun e w' => e = .returned (.int .i64 (m : Int)) /\ w' = w)
    (hx1 : s.extract n0 L = s1) (hx3 : s.extract 0 (n0) = s3) (hA : ¬ 1 < n0 ∨ (1 < n0 /\ b ≠ 48)) (hm : m = 0)
    (c4 : ∀ o, Calls Tryz.prog 103 #[.string s3] (w.alloc o) fun e w' => (∃ v N, e = .returned (.tuple #[.int .i64 v, .iface 233 (.pointer (some ⟨N, 0, none⟩))])) /\ Below (w.alloc o).heap.size (w.alloc o) w') :
    Calls Tryz.prog 79 #[.string s] w fun e w' => e = .returned (cutV (.bad 41)) /\ Below w.heap.size w w' := by
  have mixed := mixed_ok
  subst hm
  have hb0 := hb (by omega)
  clear hb
  rcases hA with hA | ⟨hA, hq⟩
  . have ha' : ¬ (1 : Int) < (n0 : Int) := by omega
    go_enter Tryz.func79, Tryz.ntmps79
    go_wp2_with (first | (go_at_call 74; (first | (with_reducible refine (c1 _).mono ?_) | (with_reducible refine (c3 _).mono ?_)); rintro e w1 ⟨rfl, rfl⟩) | (go_at_call 102; refine (c2 _).mono ?_; rintro e w1 ⟨rfl, rfl⟩))
    refine (c4 _).mono ?_
    rintro e w1 ⟨⟨v, N, rfl⟩, hb1⟩
    have hg1 := (hb1.block w.heap.size (by simp)).trans (heap_alloc_new _ _)
    go_wp2_with (refine wpList_store_row rfl _ _ _ rfl w.heap.size _ rfl rfl _ _ hg1 (by exact infoTok) (by rfl) (allTok _ _ _ _ _ _) ?_)
    refine bodyPost_ret (results_ctt rfl _ _ w.heap.size _ _ _ _ rfl (setRow_heap _ _ _ _ _ _ hg1) Tryz.underlying100 rfl (by exact infoTok)) rfl ?_
    refine ⟨?_, below_setRow ((below_new _ _).trans (hb1.mono (by simp))) (Nat.le_refl _) _⟩
    rfl
  . have ha' : (1 : Int) < (n0 : Int) := by omega
    have hq1 : ((b.toNat : Int) == 48) = false := by rw [beq_eq_false_iff_ne]; intro e; apply hq; apply UInt8.toNat.inj; simp; omega
    go_enter Tryz.func79, Tryz.ntmps79
    go_wp2_with (first | (go_at_call 74; (first | (with_reducible refine (c1 _).mono ?_) | (with_reducible refine (c3 _).mono ?_)); rintro e w1 ⟨rfl, rfl⟩) | (go_at_call 102; refine (c2 _).mono ?_; rintro e w1 ⟨rfl, rfl⟩))
    refine (c4 _).mono ?_
    rintro e w1 ⟨⟨v, N, rfl⟩, hb1⟩
    have hg1 := (hb1.block w.heap.size (by simp)).trans (heap_alloc_new _ _)
    go_wp2_with (refine wpList_store_row rfl _ _ _ rfl w.heap.size _ rfl rfl _ _ hg1 (by exact infoTok) (by rfl) (allTok _ _ _ _ _ _) ?_)
    refine bodyPost_ret (results_ctt rfl _ _ w.heap.size _ _ _ _ rfl (setRow_heap _ _ _ _ _ _ hg1) Tryz.underlying100 rfl (by exact infoTok)) rfl ?_
    refine ⟨?_, below_setRow ((below_new _ _).trans (hb1.mono (by simp))) (Nat.le_refl _) _⟩
    rfl
theorem numGreat (s s1 s3 : ByteArray) (L n0 m : Nat) (b : UInt8) (w : World) (hL : L <= 140737488355328) (hsz : s.size = L) (h1 : 1 <= n0) (hn : n0 <= L) (hb : ∀ h : 0 < s.size, s[0]'h = b)
    (c1 : ∀ w, Calls Tryz.prog 74 #[.string s, .func (.func 78) #[] #[]] w fun e w' => e = .returned (.int .i64 (n0 : Int)) /\ w' = w)
    (c2 : ∀ w, Calls Tryz.prog 102 #[.string s1] w fun e w' => e = .returned (.int .i64 0) /\ w' = w)
    (c3 : ∀ w, Calls Tryz.prog 74 #[.string s1, .func (.func 76) #[] #[]] w fun e w' => e = .returned (.int .i64 (m : Int)) /\ w' = w)
    (hx1 : s.extract n0 L = s1) (hx3 : s.extract 0 (n0) = s3) (hA : ¬ 1 < n0 ∨ (1 < n0 /\ b ≠ 48)) (hm : m = 0) (v : Nat) (hv : 1000000000 < v)
    (c4 : ∀ o, Calls Tryz.prog 103 #[.string s3] (w.alloc o) fun e w' => e = .returned (.tuple #[.int .i64 (v : Int), .nilIface]) /\ Below (w.alloc o).heap.size (w.alloc o) w') :
    Calls Tryz.prog 79 #[.string s] w fun e w' => e = .returned (cutV (.bad 41)) /\ Below w.heap.size w w' := by
  have mixed := mixed_ok
  subst hm
  have hv' : (1000000000 : Int) < (v : Int) := by omega
  have hb0 := hb (by omega)
  clear hb
  rcases hA with hA | ⟨hA, hq⟩
  . have ha' : ¬ (1 : Int) < (n0 : Int) := by omega
    go_enter Tryz.func79, Tryz.ntmps79
    go_wp2_with (first | (go_at_call 74; (first | (with_reducible refine (c1 _).mono ?_) | (with_reducible refine (c3 _).mono ?_)); rintro e w1 ⟨rfl, rfl⟩) | (go_at_call 102; refine (c2 _).mono ?_; rintro e w1 ⟨rfl, rfl⟩))
    refine (c4 _).mono ?_
    rintro e w1 ⟨rfl, hb1⟩
    have hg1 := (hb1.block w.heap.size (by simp)).trans (heap_alloc_new _ _)
    go_wp2_with (refine wpList_store_row rfl _ _ _ rfl w.heap.size _ rfl rfl _ _ hg1 (by exact infoTok) (by rfl) (allTok _ _ _ _ _ _) ?_)
    refine bodyPost_ret (results_ctt rfl _ _ w.heap.size _ _ _ _ rfl (setRow_heap _ _ _ _ _ _ hg1) Tryz.underlying100 rfl (by exact infoTok)) rfl ?_
    refine ⟨?_, below_setRow ((below_new _ _).trans (hb1.mono (by simp))) (Nat.le_refl _) _⟩
    rfl
  . have ha' : (1 : Int) < (n0 : Int) := by omega
    have hq1 : ((b.toNat : Int) == 48) = false := by rw [beq_eq_false_iff_ne]; intro e; apply hq; apply UInt8.toNat.inj; simp; omega
    go_enter Tryz.func79, Tryz.ntmps79
    go_wp2_with (first | (go_at_call 74; (first | (with_reducible refine (c1 _).mono ?_) | (with_reducible refine (c3 _).mono ?_)); rintro e w1 ⟨rfl, rfl⟩) | (go_at_call 102; refine (c2 _).mono ?_; rintro e w1 ⟨rfl, rfl⟩))
    refine (c4 _).mono ?_
    rintro e w1 ⟨rfl, hb1⟩
    have hg1 := (hb1.block w.heap.size (by simp)).trans (heap_alloc_new _ _)
    go_wp2_with (refine wpList_store_row rfl _ _ _ rfl w.heap.size _ rfl rfl _ _ hg1 (by exact infoTok) (by rfl) (allTok _ _ _ _ _ _) ?_)
    refine bodyPost_ret (results_ctt rfl _ _ w.heap.size _ _ _ _ rfl (setRow_heap _ _ _ _ _ _ hg1) Tryz.underlying100 rfl (by exact infoTok)) rfl ?_
    refine ⟨?_, below_setRow ((below_new _ _).trans (hb1.mono (by simp))) (Nat.le_refl _) _⟩
    rfl
theorem numInt (s s1 s3 : ByteArray) (L n0 m : Nat) (b : UInt8) (w : World) (hL : L <= 140737488355328) (hsz : s.size = L) (h1 : 1 <= n0) (hn : n0 <= L) (hb : ∀ h : 0 < s.size, s[0]'h = b)
    (c1 : ∀ w, Calls Tryz.prog 74 #[.string s, .func (.func 78) #[] #[]] w fun e w' => e = .returned (.int .i64 (n0 : Int)) /\ w' = w)
    (c2 : ∀ w, Calls Tryz.prog 102 #[.string s1] w fun e w' => e = .returned (.int .i64 0) /\ w' = w)
    (c3 : ∀ w, Calls Tryz.prog 74 #[.string s1, .func (.func 76) #[] #[]] w fun e w' => e = .returned (.int .i64 (m : Int)) /\ w' = w)
    (hx1 : s.extract n0 L = s1) (hx3 : s.extract 0 (n0) = s3) (hA : ¬ 1 < n0 ∨ (1 < n0 /\ b ≠ 48)) (hm : m = 0) (v : Nat) (hv : ¬ 1000000000 < v)
    (c4 : ∀ o, Calls Tryz.prog 103 #[.string s3] (w.alloc o) fun e w' => e = .returned (.tuple #[.int .i64 (v : Int), .nilIface]) /\ Below (w.alloc o).heap.size (w.alloc o) w') :
    Calls Tryz.prog 79 #[.string s] w fun e w' => e = .returned (cutV (.tok 2 [] v n0)) /\ Below w.heap.size w w' := by
  have mixed := mixed_ok
  subst hm
  have hv' : ¬ (1000000000 : Int) < (v : Int) := by omega
  have hb0 := hb (by omega)
  clear hb
  rcases hA with hA | ⟨hA, hq⟩
  . have ha' : ¬ (1 : Int) < (n0 : Int) := by omega
    go_enter Tryz.func79, Tryz.ntmps79
    go_wp2_with (first | (go_at_call 74; (first | (with_reducible refine (c1 _).mono ?_) | (with_reducible refine (c3 _).mono ?_)); rintro e w1 ⟨rfl, rfl⟩) | (go_at_call 102; refine (c2 _).mono ?_; rintro e w1 ⟨rfl, rfl⟩))
    refine (c4 _).mono ?_
    rintro e w1 ⟨rfl, hb1⟩
    have hg1 := (hb1.block w.heap.size (by simp)).trans (heap_alloc_new _ _)
    go_wp2_with (refine wpList_store_row rfl _ _ _ rfl w.heap.size _ rfl rfl _ _ hg1 (by exact infoTok) (by rfl) (allTok _ _ _ _ _ _) ?_)
    refine bodyPost_ret (results_ctt rfl _ _ w.heap.size _ _ _ _ rfl (setRow_heap _ _ _ _ _ _ hg1) Tryz.underlying100 rfl (by exact infoTok)) rfl ?_
    refine ⟨?_, below_setRow ((below_new _ _).trans (hb1.mono (by simp))) (Nat.le_refl _) _⟩
    rfl
  . have ha' : (1 : Int) < (n0 : Int) := by omega
    have hq1 : ((b.toNat : Int) == 48) = false := by rw [beq_eq_false_iff_ne]; intro e; apply hq; apply UInt8.toNat.inj; simp; omega
    go_enter Tryz.func79, Tryz.ntmps79
    go_wp2_with (first | (go_at_call 74; (first | (with_reducible refine (c1 _).mono ?_) | (with_reducible refine (c3 _).mono ?_)); rintro e w1 ⟨rfl, rfl⟩) | (go_at_call 102; refine (c2 _).mono ?_; rintro e w1 ⟨rfl, rfl⟩))
    refine (c4 _).mono ?_
    rintro e w1 ⟨rfl, hb1⟩
    have hg1 := (hb1.block w.heap.size (by simp)).trans (heap_alloc_new _ _)
    go_wp2_with (refine wpList_store_row rfl _ _ _ rfl w.heap.size _ rfl rfl _ _ hg1 (by exact infoTok) (by rfl) (allTok _ _ _ _ _ _) ?_)
    refine bodyPost_ret (results_ctt rfl _ _ w.heap.size _ _ _ _ rfl (setRow_heap _ _ _ _ _ _ hg1) Tryz.underlying100 rfl (by exact infoTok)) rfl ?_
    refine ⟨?_, below_setRow ((below_new _ _).trans (hb1.mono (by simp))) (Nat.le_refl _) _⟩
    rfl
theorem nNum (l : List UInt8) (b : UInt8) (r : List UInt8) (hlb : l = b :: r) (hd : isD b = true) (hl : l.length <= 140737488355328) (w : World) (hT : Rg w) :
    Calls Tryz.prog 79 #[str l] w fun e w' => e = .returned (cutV (cNum l)) /\ Below w.heap.size w w' := by
  have h1 : 1 <= sp isD l := by rw [hlb, sp_cons_true r hd]; omega
  have hn0 := sp_le isD l
  have hf0 := frac_le (l.drop (sp isD l))
  rw [List.length_drop] at hf0
  have hb : ∀ h : 0 < (⟨l.toArray⟩ : ByteArray).size, (⟨l.toArray⟩ : ByteArray)[0]'h = b := fun h => at_str l 0 b (by rw [hlb]; rfl) h
  have hall := sp_all isD l
  have hhead : l.head? = some b := by rw [hlb]; rfl
  have c1 := fun w => nSpan _ isD eDigit nDigit l hl w
  have c2 := fun w => nFrac (l.drop (sp isD l)) (by rw [List.length_drop]; omega) w
  have c3 := fun w => nSpan _ isL eLetter nLetter (l.drop (sp isD l + frac (l.drop (sp isD l)))) (by rw [List.length_drop]; omega) w
  have hx1 := ext_drop l (sp isD l)
  have hx2 := ext_drop l (sp isD l + frac (l.drop (sp isD l)))
  have hx3 := ext_take l (sp isD l + frac (l.drop (sp isD l)))
  have hsz := size_str l
  unfold cNum
  rw [hhead]
  by_cases hA : 1 < sp isD l /\ b = 48
  . rw [if_pos (.inl ⟨hA.1, by rw [hA.2]⟩)]
    exact numNought _ _ _ _ _ b w hl hsz (by omega) hb c1 c2 hx1 hA.1 hA.2
  . have hA' : ¬ 1 < sp isD l ∨ (1 < sp isD l /\ b ≠ 48) := by
      by_cases h : 1 < sp isD l
      . exact .inr ⟨h, fun e => hA ⟨h, e⟩⟩
      . exact .inl h
    by_cases hm : 0 < sp isL (l.drop (sp isD l + frac (l.drop (sp isD l))))
    . rw [if_pos (.inr hm)]
      exact numLetter _ _ _ _ _ _ _ b w hl hsz h1 (by omega) hb c1 c2 c3 hx1 hx2 hA' hm
    . rw [if_neg (by
        rintro (⟨h, e⟩ | h)
        . exact hA ⟨h, Option.some.inj e⟩
        . exact hm h)]
      by_cases hf : 0 < frac (l.drop (sp isD l))
      . rw [if_pos hf]
        exact numReal _ _ _ _ _ _ _ _ b w hl hsz h1 (by omega) hb c1 c2 c3 hx1 hx2 hx3 hA' (by omega) hf _ rfl
      . rw [if_neg hf]
        have hf' : frac (l.drop (sp isD l)) = 0 := by omega
        rw [hf', Nat.add_zero] at c3 hx3 hm
        rw [hf'] at c2
        have h0 : l.take (sp isD l) ≠ [] := by
          intro e
          have := congrArg List.length e
          rw [List.length_take, Nat.min_eq_left hn0] at this
          have h2 : sp isD l = 0 := this
          omega
        have hlt : (l.take (sp isD l)).length <= 140737488355328 := by rw [List.length_take]; omega
        by_cases hv : 1000000000 < dv 0 (l.take (sp isD l))
        . rw [if_pos hv]
          by_cases hv2 : dv 0 (l.take (sp isD l)) < 9223372036854775808
          . exact numGreat _ _ _ _ _ _ b w hl hsz h1 (by omega) hb c1 c2 c3 hx1 hx3 hA' (by omega) _ hv (fun o => nAtoi_ok _ h0 hall hlt hv2 _)
          . exact numErr _ _ _ _ _ _ b w hl hsz h1 (by omega) hb c1 c2 c3 hx1 hx3 hA' (by omega) (fun o => nAtoi_err _ h0 hall hlt hv2 _ (hT.below (below_new w o)))
        . rw [if_neg hv]
          exact numInt _ _ _ _ _ _ b w hl hsz h1 (by omega) hb c1 c2 c3 hx1 hx3 hA' (by omega) _ hv (fun o => nAtoi_ok _ h0 hall hlt (by omega) _)
theorem cut_form (C : Cut) : ∃ (k : Int) (t : ByteArray) (v n e : Int), cutV C = .tuple #[.agg #[.int .i64 k, .string t, .int .i64 v, .int .i64 0, .int .i64 0, .int .i64 0], .int .i64 n, .int .i64 e] := by
  cases C with
  | tok k t v n => exact ⟨k, _, v, n, 0, rfl⟩
  | bad e => exact ⟨0, _, 0, 0, e, rfl⟩
theorem cut_name (s : ByteArray) (b : UInt8) (h0 : 0 < s.size) (he : (s.toList == []) = false) (hb : s[0]'h0 = b) (C : Cut) (w : World)
    (hL : isL b = true)
    (c : ∀ o, Calls Tryz.prog 77 #[.string s] (w.alloc o) fun e w' => e = .returned (cutV C) /\ Below (w.alloc o).heap.size (w.alloc o) w') :
    Calls Tryz.prog 52 #[.string s] w fun e w' => e = .returned (cutV C) /\ Below w.heap.size w w' := by
  have c1 := fun w => nLetter b w
  rw [hL] at c1
  obtain ⟨k, t, v, n, er, hC⟩ := cut_form C
  rw [hC] at c ⊢
  have h0' : (0 : Int) < (s.size : Int) := by omega
  clear hC
  go_enter Tryz.func52, Tryz.ntmps52
  go_wp2_with (first | (go_at_call 76; refine (c1 _).mono ?_; rintro e w1 ⟨rfl, rfl⟩))
  refine (c _).mono ?_
  rintro e w1 ⟨rfl, hb1⟩
  have hg1 := (hb1.block w.heap.size (by simp)).trans (heap_alloc_new _ _)
  go_wp2_with (refine wpList_store_row rfl _ _ _ rfl w.heap.size _ rfl rfl _ _ hg1 (by exact infoTok) (by rfl) (allTok _ _ _ _ _ _) ?_)
  refine bodyPost_ret (results_ctt rfl _ _ w.heap.size _ _ _ _ rfl (setRow_heap _ _ _ _ _ _ hg1) Tryz.underlying100 rfl (by exact infoTok)) rfl ?_
  exact ⟨rfl, below_setRow ((below_new _ _).trans (hb1.mono (by simp))) (Nat.le_refl _) _⟩
theorem cut_number (s : ByteArray) (b : UInt8) (h0 : 0 < s.size) (he : (s.toList == []) = false) (hb : s[0]'h0 = b) (C : Cut) (w : World)
    (hL : isL b = false) (hD : isD b = true)
    (c : ∀ o, Calls Tryz.prog 79 #[.string s] (w.alloc o) fun e w' => e = .returned (cutV C) /\ Below (w.alloc o).heap.size (w.alloc o) w') :
    Calls Tryz.prog 52 #[.string s] w fun e w' => e = .returned (cutV C) /\ Below w.heap.size w w' := by
  have c1 := fun w => nLetter b w
  rw [hL] at c1
  have c2 := fun w => nDigit b w
  rw [hD] at c2
  obtain ⟨k, t, v, n, er, hC⟩ := cut_form C
  rw [hC] at c ⊢
  have h0' : (0 : Int) < (s.size : Int) := by omega
  clear hC
  go_enter Tryz.func52, Tryz.ntmps52
  go_wp2_with (first | (go_at_call 76; refine (c1 _).mono ?_; rintro e w1 ⟨rfl, rfl⟩) | (go_at_call 78; refine (c2 _).mono ?_; rintro e w1 ⟨rfl, rfl⟩))
  refine (c _).mono ?_
  rintro e w1 ⟨rfl, hb1⟩
  have hg1 := (hb1.block w.heap.size (by simp)).trans (heap_alloc_new _ _)
  go_wp2_with (refine wpList_store_row rfl _ _ _ rfl w.heap.size _ rfl rfl _ _ hg1 (by exact infoTok) (by rfl) (allTok _ _ _ _ _ _) ?_)
  refine bodyPost_ret (results_ctt rfl _ _ w.heap.size _ _ _ _ rfl (setRow_heap _ _ _ _ _ _ hg1) Tryz.underlying100 rfl (by exact infoTok)) rfl ?_
  exact ⟨rfl, below_setRow ((below_new _ _).trans (hb1.mono (by simp))) (Nat.le_refl _) _⟩
theorem cut_quoted (s : ByteArray) (b : UInt8) (h0 : 0 < s.size) (he : (s.toList == []) = false) (hb : s[0]'h0 = b) (C : Cut) (w : World)
    (hL : isL b = false) (hD : isD b = false) (hQ : ((b.toNat : Int) == 34) = true)
    (c : ∀ o, Calls Tryz.prog 80 #[.string s] (w.alloc o) fun e w' => e = .returned (cutV C) /\ Below (w.alloc o).heap.size (w.alloc o) w') :
    Calls Tryz.prog 52 #[.string s] w fun e w' => e = .returned (cutV C) /\ Below w.heap.size w w' := by
  have c1 := fun w => nLetter b w
  rw [hL] at c1
  have c2 := fun w => nDigit b w
  rw [hD] at c2
  obtain ⟨k, t, v, n, er, hC⟩ := cut_form C
  rw [hC] at c ⊢
  have h0' : (0 : Int) < (s.size : Int) := by omega
  clear hC
  go_enter Tryz.func52, Tryz.ntmps52
  go_wp2_with (first | (go_at_call 76; refine (c1 _).mono ?_; rintro e w1 ⟨rfl, rfl⟩) | (go_at_call 78; refine (c2 _).mono ?_; rintro e w1 ⟨rfl, rfl⟩))
  refine (c _).mono ?_
  rintro e w1 ⟨rfl, hb1⟩
  have hg1 := (hb1.block w.heap.size (by simp)).trans (heap_alloc_new _ _)
  go_wp2_with (refine wpList_store_row rfl _ _ _ rfl w.heap.size _ rfl rfl _ _ hg1 (by exact infoTok) (by rfl) (allTok _ _ _ _ _ _) ?_)
  refine bodyPost_ret (results_ctt rfl _ _ w.heap.size _ _ _ _ rfl (setRow_heap _ _ _ _ _ _ hg1) Tryz.underlying100 rfl (by exact infoTok)) rfl ?_
  exact ⟨rfl, below_setRow ((below_new _ _).trans (hb1.mono (by simp))) (Nat.le_refl _) _⟩
theorem cut_mark (s : ByteArray) (b : UInt8) (h0 : 0 < s.size) (he : (s.toList == []) = false) (hb : s[0]'h0 = b) (C : Cut) (w : World)
    (hL : isL b = false) (hD : isD b = false) (hQ : ((b.toNat : Int) == 34) = false)
    (c : ∀ o, Calls Tryz.prog 81 #[.string s] (w.alloc o) fun e w' => e = .returned (cutV C) /\ Below (w.alloc o).heap.size (w.alloc o) w') :
    Calls Tryz.prog 52 #[.string s] w fun e w' => e = .returned (cutV C) /\ Below w.heap.size w w' := by
  have c1 := fun w => nLetter b w
  rw [hL] at c1
  have c2 := fun w => nDigit b w
  rw [hD] at c2
  obtain ⟨k, t, v, n, er, hC⟩ := cut_form C
  rw [hC] at c ⊢
  have h0' : (0 : Int) < (s.size : Int) := by omega
  clear hC
  go_enter Tryz.func52, Tryz.ntmps52
  go_wp2_with (first | (go_at_call 76; refine (c1 _).mono ?_; rintro e w1 ⟨rfl, rfl⟩) | (go_at_call 78; refine (c2 _).mono ?_; rintro e w1 ⟨rfl, rfl⟩))
  refine (c _).mono ?_
  rintro e w1 ⟨rfl, hb1⟩
  have hg1 := (hb1.block w.heap.size (by simp)).trans (heap_alloc_new _ _)
  go_wp2_with (refine wpList_store_row rfl _ _ _ rfl w.heap.size _ rfl rfl _ _ hg1 (by exact infoTok) (by rfl) (allTok _ _ _ _ _ _) ?_)
  refine bodyPost_ret (results_ctt rfl _ _ w.heap.size _ _ _ _ rfl (setRow_heap _ _ _ _ _ _ hg1) Tryz.underlying100 rfl (by exact infoTok)) rfl ?_
  exact ⟨rfl, below_setRow ((below_new _ _).trans (hb1.mono (by simp))) (Nat.le_refl _) _⟩
theorem nCut (l : List UInt8) (hl : l.length <= 140737488355328) (w : World) (hT : Tw w) : Calls Tryz.prog 52 #[str l] w fun e w' => e = .returned (cutV (cut l)) /\ Below w.heap.size w w' := by
  cases l with
  | nil =>
    unfold str
    go_enter Tryz.func52, Tryz.ntmps52
    go_wp2_with fail
    refine bodyPost_ret (results_ctt rfl _ _ w.heap.size _ _ _ _ rfl (heap_alloc_new _ _) Tryz.underlying100 rfl infoTok) rfl ?_
    exact ⟨rfl, below_new _ _⟩
  | cons b r =>
    have h0 : 0 < (⟨(b :: r).toArray⟩ : ByteArray).size := by rw [size_str]; simp
    have he : ((⟨(b :: r).toArray⟩ : ByteArray).toList == []) = false := by rw [ByteArray.toList_eq]; rfl
    have hb := at_str (b :: r) 0 b rfl h0
    rw [show cut (b :: r) = if isL b then cName (b :: r) else if isD b then cNum (b :: r) else if b = 34 then cQuo (b :: r) else cMark (b :: r) from rfl]
    have hW : ∀ o, Tw (w.alloc o) := fun o => hT.below (below_new w o)
    cases hL : isL b with
    | true =>
      rw [if_pos rfl]
      exact cut_name _ b h0 he hb _ w hL (fun o => nName _ hl _)
    | false =>
      rw [if_neg (by simp)]
      cases hD : isD b with
      | true =>
        rw [if_pos rfl]
        exact cut_number _ b h0 he hb _ w hL hD (fun o => nNum _ b r rfl hD hl _ (hW o).rg)
      | false =>
        rw [if_neg (by simp)]
        by_cases hq : b = 34
        . rw [if_pos hq]
          exact cut_quoted _ b h0 he hb _ w hL hD (by rw [hq]; rfl) (fun o => nQuo _ (by simp) hl _)
        . rw [if_neg hq]
          exact cut_mark _ b h0 he hb _ w hL hD (by rw [beq_eq_false_iff_ne]; intro e; apply hq; apply UInt8.toNat.inj; simp; omega) (fun o => nMark _ _ (hW o).mks (hW o).mks.lt)
end Go.Proofs.YtnghfdnlcnocjaaGreatDoor.Tok
namespace Go.Proofs.YtnghfdnlcnocjaaGreatDoor.Tok
open Go.RowKit Go.Shelf Go.Proofs.YtnghfdnlcnocjaaGreatDoor.Oct
theorem blank_cases (b : UInt8) (h : blank b = true) : b = 32 ∨ b = 9 ∨ b = 10 ∨ b = 13 := by
  simp [blank] at h
  rcases h with ((h | h) | h) | h
  . exact .inl (UInt8.toNat.inj (by simpa using h))
  . exact .inr (.inl (UInt8.toNat.inj (by simpa using h)))
  . exact .inr (.inr (.inl (UInt8.toNat.inj (by simpa using h))))
  . exact .inr (.inr (.inr (UInt8.toNat.inj (by simpa using h))))
theorem blank_not (b : UInt8) (h : blank b = false) : ((b.toNat : Int) == 32) = false /\ ((b.toNat : Int) == 9) = false /\ ((b.toNat : Int) == 10) = false /\ ((b.toNat : Int) == 13) = false := by
  simp [blank] at h
  simp only [beq_eq_false_iff_ne]
  omega
theorem sp_slash (l : List UInt8) (h : ([47, 47] : List UInt8).isPrefixOf l = true) : 1 <= sp inLn l := by
  cases l with
  | nil => simp at h
  | cons a r =>
    cases r with
    | nil => simp at h
    | cons c r =>
      simp at h
      obtain ⟨rfl, rfl⟩ := h
      rw [sp_cons_true _ (by decide)]
      omega
theorem nGap (l : List UInt8) (hl : l.length <= 140737488355328) (w : World) : Calls Tryz.prog 51 #[str l] w fun e w' => e = .returned (.int .i64 (gp false l : Nat)) /\ w' = w := by
  have hsz := size_str l
  have hat := at_str l
  have hxd := fun k => ext_drop l k
  unfold str
  have hsl : (⟨l.toArray⟩ : ByteArray) = ⟨l.toArray⟩ := rfl
  generalize (⟨l.toArray⟩ : ByteArray) = s at *
  go_enter Tryz.func51, Tryz.ntmps51
  go_wp2_with fail
  go_step3
  go_wp2_with fail
  go_step3
  go_wp2_with fail
  go_loopw [3] (fun i wr => wr = w /\ ∃ k : Nat, k <= l.length /\ i = .int .i64 (k : Int) /\ gp false l = k + gp false (l.drop k)) (fun i _ => l.length - (RowKit.intOf i).toNat)
  case atStart => exact ⟨rfl, 0, Nat.zero_le _, rfl, by simp⟩
  case round =>
    obtain ⟨rfl, k, hk, rfl, hinv⟩ := hrel
    by_cases hlt : k < l.length
    . have hlt' : (k : Int) < (s.size : Int) := by omega
      obtain ⟨b, hb0⟩ : ∃ b, l[k]? = some b := ⟨_, List.getElem?_eq_getElem hlt⟩
      have hb := hat k b hb0 (by rw [hsz]; exact hlt)
      have hdr : l.drop k = b :: l.drop (k + 1) := by
        rw [List.drop_eq_getElem_cons hlt]
        rw [List.getElem?_eq_getElem hlt] at hb0
        rw [Option.some.inj hb0]
      cases hbl : blank b with
      | true =>
        have Hn : Hid (gp false l = k + 1 + gp false (l.drop (k + 1))) := hide (by rw [hinv, hdr, gp_blank _ hbl]; omega)
        clear hinv hdr hat hb0 hxd
        rcases blank_cases b hbl with rfl | rfl | rfl | rfl
        all_goals go_wp2_with fail
        all_goals exact ⟨⟨trivial, k + 1, by omega, by go_num, Hn.out⟩, by simp [RowKit.intOf]; omega⟩
      | false =>
        obtain ⟨n1, n2, n3, n4⟩ := blank_not b hbl
        by_cases hs : b = 47
        . have c1 := fun w => sHasPrefix (l.drop k) [47, 47] w
          have hx := hxd k
          cases hp : ([47, 47] : List UInt8).isPrefixOf (l.drop k) with
          | true =>
            have c2 := fun w => nSpan _ inLn eLine nLine (l.drop k) (by rw [List.length_drop]; omega) w
            have hsp := sp_le inLn (l.drop k)
            have hsp1 := sp_slash _ hp
            rw [List.length_drop] at hsp
            have Hn : Hid (gp false l = k + sp inLn (l.drop k) + gp false (l.drop (k + sp inLn (l.drop k)))) := hide (by rw [hinv, gp_com _ hp, List.drop_drop]; omega)
            rw [hp] at c1
            unfold str at c2
            clear hinv hdr hat hb0 hxd hp
            generalize (⟨(l.drop k).toArray⟩ : ByteArray) = s1 at *
            generalize sp inLn (l.drop k) = m at *
            subst hs
            go_wp2_with (first | (go_at_call 74; refine (c2 _).mono ?_; rintro e w1 ⟨rfl, rfl⟩) | (go_at_call 73; refine (c1 _).mono ?_; rintro e w1 ⟨rfl, rfl⟩))
            exact ⟨⟨trivial, k + m, by omega, by go_num, Hn.out⟩, by simp [RowKit.intOf]; omega⟩
          | false =>
            have Hn : Hid (gp false l = k) := hide (by rw [hinv, gp_stop _ b _ hdr hbl hp, Nat.add_zero])
            rw [hp] at c1
            clear hinv hdr hat hb0 hxd hp
            generalize (⟨(l.drop k).toArray⟩ : ByteArray) = s1 at *
            subst hs
            go_wp2_with (go_at_call 73; refine (c1 _).mono ?_; rintro e w1 ⟨rfl, rfl⟩)
            rw [Exit.noGoto_ret]
            go_ret
            rw [Hn.out]
            exact ⟨rfl, rfl⟩
        . have n5 : ((b.toNat : Int) == 47) = false := by rw [beq_eq_false_iff_ne]; intro e; apply hs; apply UInt8.toNat.inj; simp; omega
          have hp : ([47, 47] : List UInt8).isPrefixOf (l.drop k) = false := by
            rw [hdr]
            have : ¬ 47 = b := fun e => hs e.symm
            simp [List.isPrefixOf, this]
          have Hn : Hid (gp false l = k) := hide (by rw [hinv, gp_stop _ b _ hdr hbl hp, Nat.add_zero])
          clear hp
          clear hinv hdr hat hb0 hxd
          go_wp2_with fail
          rw [Exit.noGoto_ret]
          go_ret
          rw [Hn.out]
          exact ⟨rfl, rfl⟩
    . have hlt' : ¬ (k : Int) < (s.size : Int) := by omega
      have Hn : Hid (gp false l = k) := hide (by rw [hinv, List.drop_of_length_le (by omega)]; rfl)
      clear hinv hat hxd
      go_wp2_with fail
      go_ret
      rw [Hn.out]
      exact ⟨rfl, rfl⟩
theorem get_str (m : List UInt8) (i : Nat) : (⟨m.toArray⟩ : ByteArray).get! i = m.getD i 0 := by
  show m.toArray[i]! = _
  simp [List.getD_eq_getElem?_getD, getElem!_def]
  cases m[i]? <;> rfl
def rn (l : List UInt8) : Nat := (Lib.decodeN l.length (l.getD 0 0).toNat (l.getD 1 0).toNat (l.getD 2 0).toNat (l.getD 3 0).toNat).1
theorem dec_eq (m : List UInt8) (pos : Nat) : Utf8.decode ⟨m.toArray⟩ pos = (rn (m.drop pos), wid (m.drop pos)) := by
  have hd : ∀ i, (m.drop pos).getD i 0 = m.getD (pos + i) 0 := fun i => by simp [List.getD_eq_getElem?_getD]
  rw [Lib.decode_at, get_str, get_str, get_str, get_str, size_str]
  unfold rn wid
  rw [hd, hd, hd, hd, List.length_drop]
  rfl
theorem rn_ten (a : UInt8) (r : List UInt8) : (rn (a :: r) = 10) ↔ a.toNat = 10 := by
  unfold rn Lib.decodeN
  simp only [List.getD_cons_zero]
  by_cases h : a.toNat < 128
  . rw [if_pos h]
  . rw [if_neg h]
    have hn : ¬ a.toNat = 10 := by omega
    repeat' split
    all_goals simp only [hn, iff_false]
    all_goals omega
theorem rn_le (l : List UInt8) : rn l <= 2147483647 := by
  have := decode_le ⟨l.toArray⟩ 0
  rw [dec_eq] at this
  simpa using this
def oW (w : World) (fo fl fc off line col : Nat) (s : ByteArray) (pos : Nat) : World :=
  (((w.alloc (.cells #[.int .i64 (fo : Int), .int .i64 (fl : Int), .int .i64 (fc : Int)] 39)).alloc (.cells #[.int .i64 0, .int .i64 0, .int .i64 0] 39)).alloc (.cells #[.int .i64 (off : Int), .int .i64 (line : Int), .int .i64 (col : Int)] 39)).alloc (.stringIter s pos)
theorem oW_pos (w : World) (fo fl fc off line col : Nat) (s : ByteArray) (pos : Nat) : (oW w fo fl fc off line col s pos).iterPos (w.heap.size + 1 + 1 + 1) = pos := by
  have h := World.iterPos_iter (((w.alloc (.cells #[.int .i64 (fo : Int), .int .i64 (fl : Int), .int .i64 (fc : Int)] 39)).alloc (.cells #[.int .i64 0, .int .i64 0, .int .i64 0] 39)).alloc (.cells #[.int .i64 (off : Int), .int .i64 (line : Int), .int .i64 (col : Int)] 39)) s pos
  have e : (((w.alloc (.cells #[.int .i64 (fo : Int), .int .i64 (fl : Int), .int .i64 (fc : Int)] 39)).alloc (.cells #[.int .i64 0, .int .i64 0, .int .i64 0] 39)).alloc (.cells #[.int .i64 (off : Int), .int .i64 (line : Int), .int .i64 (col : Int)] 39)).heap.size = w.heap.size + 1 + 1 + 1 := by simp
  rw [e] at h
  exact h
theorem oW_next (w : World) (fo fl fc off line col : Nat) (m : List UInt8) (pos : Nat) (hp : pos < m.length) (ty : TypeId) :
    (Instr.next (.pointer (some ⟨w.heap.size + 1 + 1 + 1, 0, none⟩)) true ty).run Tryz.prog (oW w fo fl fc off line col ⟨m.toArray⟩ pos) =
      .ok (.tuple #[.bool true, .int .i64 (pos : Int), .int .i32 (rn (m.drop pos) : Int)]) (oW w fo fl fc off line col ⟨m.toArray⟩ (pos + wid (m.drop pos))) := by
  have h := run_next_any (P := Tryz.prog) (((w.alloc (.cells #[.int .i64 (fo : Int), .int .i64 (fl : Int), .int .i64 (fc : Int)] 39)).alloc (.cells #[.int .i64 0, .int .i64 0, .int .i64 0] 39)).alloc (.cells #[.int .i64 (off : Int), .int .i64 (line : Int), .int .i64 (col : Int)] 39)) ⟨m.toArray⟩ pos ty (by rw [size_str]; exact hp)
  rw [dec_eq] at h
  have e : (((w.alloc (.cells #[.int .i64 (fo : Int), .int .i64 (fl : Int), .int .i64 (fc : Int)] 39)).alloc (.cells #[.int .i64 0, .int .i64 0, .int .i64 0] 39)).alloc (.cells #[.int .i64 (off : Int), .int .i64 (line : Int), .int .i64 (col : Int)] 39)).heap.size = w.heap.size + 1 + 1 + 1 := by simp
  rw [e] at h
  exact h
theorem oW_end (w : World) (fo fl fc off line col : Nat) (m : List UInt8) (pos : Nat) (hp : ¬ pos < m.length) (ty : TypeId) :
    (Instr.next (.pointer (some ⟨w.heap.size + 1 + 1 + 1, 0, none⟩)) true ty).run Tryz.prog (oW w fo fl fc off line col ⟨m.toArray⟩ pos) = .ok (.tuple #[.bool false]) (oW w fo fl fc off line col ⟨m.toArray⟩ pos) := by
  have h := run_next_end (P := Tryz.prog) (((w.alloc (.cells #[.int .i64 (fo : Int), .int .i64 (fl : Int), .int .i64 (fc : Int)] 39)).alloc (.cells #[.int .i64 0, .int .i64 0, .int .i64 0] 39)).alloc (.cells #[.int .i64 (off : Int), .int .i64 (line : Int), .int .i64 (col : Int)] 39)) ⟨m.toArray⟩ pos ty (by rw [size_str]; exact hp)
  have e : (((w.alloc (.cells #[.int .i64 (fo : Int), .int .i64 (fl : Int), .int .i64 (fc : Int)] 39)).alloc (.cells #[.int .i64 0, .int .i64 0, .int .i64 0] 39)).alloc (.cells #[.int .i64 (off : Int), .int .i64 (line : Int), .int .i64 (col : Int)] 39)).heap.size = w.heap.size + 1 + 1 + 1 := by simp
  rw [e] at h
  exact h
theorem heap_four (w : World) (A B C D : Obj) : ((((w.alloc A).alloc B).alloc C).alloc D).heap[w.heap.size + 1]? = some B :=
  (Below.heap_alloc _ _ _ (by simp)).trans ((Below.heap_alloc _ _ _ (by simp)).trans (heap_alloc2_new w A B))
theorem below_four (w : World) (A B C D : Obj) : Below w.heap.size w ((((w.alloc A).alloc B).alloc C).alloc D) :=
  ((((Below.refl _ _).alloc (Nat.le_refl _) _).alloc (by simp) _).alloc (by simp; omega) _).alloc (by simp; omega) _
set_option maxRecDepth 1000000 in
theorem nOnward (l : List UInt8) (fo fl fc off : Nat) (hl : l.length <= 140737488355328) (hfo : fo <= off) (hoff : off <= l.length) (hfl : fl <= 140737488355329) (hfc : fc <= 140737488355329) (w : World) :
    Calls Tryz.prog 50 #[str l, spotV fo fl fc, .int .i64 (off : Int)] w fun e w' => e = .returned (spotV off (adv 0 (off - fo) (l.drop fo) (fl, fc)).1 (adv 0 (off - fo) (l.drop fo) (fl, fc)).2) /\ Below w.heap.size w w' := by
  have hsz := size_str l
  obtain ⟨m, hm⟩ : ∃ m, l.drop fo = m := ⟨_, rfl⟩
  have hml : m.length = l.length - fo := by rw [← hm, List.length_drop]
  have hx := ext_drop l fo
  rw [hm] at hx ⊢
  unfold str spotV
  clear hm
  obtain ⟨s1, hs1⟩ : ∃ s1, (⟨m.toArray⟩ : ByteArray) = s1 := ⟨_, rfl⟩
  generalize (⟨l.toArray⟩ : ByteArray) = s at *
  rw [hs1] at hx
  have hfo' : (fo : Int) <= (l.length : Int) := by omega
  go_enter Tryz.func50, Tryz.ntmps50
  go_wp2
  go_loopw [] (fun w' => ∃ (pos line col : Nat), w' = oW w fo fl fc off line col s1 pos /\ pos <= m.length /\ line <= fl + pos /\ col <= fc + pos + 1 /\ Hid (adv 0 (off - fo) m (fl, fc) = adv 0 (off - fo - pos) (m.drop pos) (line, col))) (fun w' => m.length - w'.iterPos (w.heap.size + 1 + 1 + 1))
  case atStart => exact ⟨0, fl, fc, rfl, Nat.zero_le _, Nat.le_refl _, Nat.le_succ _, hide (by simp)⟩
  case round =>
    obtain ⟨pos, line, col, rfl, hpm, hln, hcl, Hinv⟩ := hrel
    by_cases hp : pos < m.length
    . have hnx := fun ty => oW_next w fo fl fc off line col m pos hp ty
      obtain ⟨a, r, har⟩ : ∃ a r, m.drop pos = a :: r := ⟨_, _, List.drop_eq_getElem_cons hp⟩
      have hwd := wid_pos (m.drop pos)
      have hwl : wid (m.drop pos) <= m.length - pos := by rw [← List.length_drop, har]; exact wid_le a r
      have hten := rn_ten a r
      rw [← har] at hten
      have hrl := rn_le (m.drop pos)
      rw [hs1] at hnx
      have Hstep : ∀ k, off - fo - pos = k + 1 -> Hid (adv 0 (off - fo) m (fl, fc) = adv 0 (off - fo - (pos + wid (m.drop pos))) (m.drop (pos + wid (m.drop pos))) (stp a (line, col))) := fun k hk => hide (by
        rw [Hinv.out, hk, ← List.drop_drop]
        have := adv_rune k a r (line, col) (by rw [← har]; exact hwd)
        rw [← har] at this
        rw [this]
        congr 1
        omega)
      generalize wid (m.drop pos) = wd at *
      generalize rn (m.drop pos) = ru at *
      unfold oW at hnx ⊢
      by_cases hge : off <= fo + pos
      . have hge' : (off : Int) <= (fo : Int) + (pos : Int) := by omega
        have Hd : Hid (adv 0 (off - fo) m (fl, fc) = (line, col)) := hide (by rw [Hinv.out, show off - fo - pos = 0 by omega, adv_zero])
        clear Hstep Hinv hten har
        go_wp2_with fail
        refine bodyPost_ret (results_cell_row rfl _ _ (w.heap.size + 1) _ _ _ _ rfl (heap_four _ _ _ _ _) Tryz.underlying39 rfl infoSpot) rfl ?_
        rw [Hd.out]
        exact ⟨rfl, below_four _ _ _ _ _⟩
      . have hge' : ¬ (off : Int) <= (fo : Int) + (pos : Int) := by omega
        have hs := Hstep (off - fo - pos - 1) (by omega)
        clear Hstep Hinv har
        by_cases h10 : a.toNat = 10
        . have hr10 : ru = 10 := hten.2 h10
          subst hr10
          rw [stp, if_pos h10] at hs
          clear hten h10
          go_wp2_with fail
          refine ⟨⟨pos + wd, line + 1, 1, rfl, by omega, by omega, by omega, hs⟩, ?_⟩
          show m.length - (oW w fo fl fc off (line + 1) (1) s1 (pos + wd)).iterPos _ < m.length - (oW w fo fl fc off line col s1 pos).iterPos _
          rw [oW_pos, oW_pos]
          omega
        . have hr10 : ((ru : Int) == 10) = false := by rw [beq_eq_false_iff_ne]; intro e; exact h10 (hten.1 (by omega))
          rw [stp, if_neg h10] at hs
          clear hten h10
          go_wp2_with fail
          refine ⟨⟨pos + wd, line, col + 1, rfl, by omega, by omega, by omega, hs⟩, ?_⟩
          show m.length - (oW w fo fl fc off (line) (col + 1) s1 (pos + wd)).iterPos _ < m.length - (oW w fo fl fc off line col s1 pos).iterPos _
          rw [oW_pos, oW_pos]
          omega
    . have hnx := fun ty => oW_end w fo fl fc off line col m pos hp ty
      have Hd : Hid (adv 0 (off - fo) m (fl, fc) = (line, col)) := hide (by rw [Hinv.out, List.drop_of_length_le (by omega), adv_nil])
      rw [hs1] at hnx
      clear Hinv
      unfold oW at hnx ⊢
      go_wp2_with fail
      refine bodyPost_ret (results_cell_row rfl _ _ (w.heap.size + 1) _ _ _ _ rfl (heap_four _ _ _ _ _) Tryz.underlying39 rfl infoSpot) rfl ?_
      rw [Hd.out]
      exact ⟨rfl, below_four _ _ _ _ _⟩
theorem allSpot (a c d : Int) : (#[Value.int .i64 a, .int .i64 c, .int .i64 d]).all (·.oneCell') = true := by simp [Value.oneCell']
def atOff (n : Nat) (off : Int) : Nat := (min (max off 0) (n : Int)).toNat
theorem nAt (l : List UInt8) (off : Int) (h1 : -9223372036854775808 <= off) (h2 : off <= 9223372036854775807) (hl : l.length <= 140737488355328) (w : World) :
    Calls Tryz.prog 48 #[str l, .int .i64 off] w fun e w' => e = .returned (spotV (atOff l.length off) (spotAt l (atOff l.length off)).1 (spotAt l (atOff l.length off)).2) /\ Below w.heap.size w w' := by
  have hk : atOff l.length off <= l.length := by unfold atOff; omega
  have c := fun w => nOnward l 0 1 1 (atOff l.length off) hl (Nat.zero_le _) hk (by omega) (by omega) w
  have hsz := size_str l
  rw [Nat.sub_zero, List.drop_zero] at c
  unfold spotAt
  have hmin : min (max off 0) (l.length : Int) = (atOff l.length off : Int) := by unfold atOff; omega
  generalize atOff l.length off = k at *
  generalize adv 0 k l (1, 1) = q at *
  unfold str spotV at *
  generalize (⟨l.toArray⟩ : ByteArray) = s at *
  go_enter Tryz.func48, Tryz.ntmps48
  go_wp2_with fail
  refine (c _).mono ?_
  rintro e w1 ⟨rfl, hb1⟩
  have hg1 := (hb1.block w.heap.size (by simp)).trans (heap_alloc_new _ _)
  go_wp2_with (refine wpList_store_row rfl _ _ _ rfl w.heap.size _ rfl rfl _ _ hg1 (by exact infoSpot) (by rfl) (allSpot _ _ _) ?_)
  refine bodyPost_ret (results_cell_row rfl _ _ w.heap.size _ _ _ _ rfl (setRow_heap _ _ _ _ _ _ hg1) Tryz.underlying39 rfl (by exact infoSpot)) rfl ?_
  exact ⟨rfl, below_setRow ((below_new _ _).trans (hb1.mono (by simp))) (Nat.le_refl _) _⟩
theorem nMove (l : List UInt8) (bs ba off line col n : Nat) (hl : l.length <= 140737488355328) (hoff : off + n <= l.length) (hfl : line <= 140737488355329) (hfc : col <= 140737488355329) (w : World)
    (hs : w.cell? ⟨bs, 0, none⟩ = some (str l)) (ha : w.heap[ba]? = some (.cells #[.int .i64 (off : Int), .int .i64 (line : Int), .int .i64 (col : Int)] 39 (0, 0))) :
    Calls Tryz.prog 49 #[.int .i64 (n : Int), .pointer (some ⟨bs, 0, none⟩), .pointer (some ⟨ba, 0, none⟩)] w fun e w' => e = .returned (.tuple #[]) /\
      ∃ w1, Below w.heap.size w w1 /\ w' = w1.setRow ba #[.int .i64 ((off + n : Nat) : Int), .int .i64 ((adv 0 n (l.drop off) (line, col)).1 : Int), .int .i64 ((adv 0 n (l.drop off) (line, col)).2 : Int)] := by
  have c := fun w => nOnward l off line col (off + n) hl (by omega) hoff hfl hfc w
  rw [show off + n - off = n by omega] at c
  generalize adv 0 n (l.drop off) (line, col) = q at *
  have c0 : w.cell? ⟨ba, 0, none⟩ = some (.int .i64 (off : Int)) := cell_of_row w ba 0 _ _ _ ha
  have c1 : w.cell? ⟨ba, 1, none⟩ = some (.int .i64 (line : Int)) := cell_of_row w ba 1 _ _ _ ha
  have c2 : w.cell? ⟨ba, 2, none⟩ = some (.int .i64 (col : Int)) := cell_of_row w ba 2 _ _ _ ha
  have hlt : ba < w.heap.size := (Array.getElem?_eq_some_iff.1 ha).1
  unfold str spotV at *
  generalize (⟨l.toArray⟩ : ByteArray) = s at *
  go_enter Tryz.func49, Tryz.ntmps49
  go_wp2_with fail
  refine (c _).mono ?_
  rintro e w1 ⟨rfl, hb1⟩
  have hg1 := (hb1.block ba hlt).trans ha
  clear c0 c1 c2 hs
  go_wp2_with (refine wpList_store_row rfl _ _ _ rfl ba _ rfl rfl _ _ hg1 (by exact infoSpot) (by rfl) (allSpot _ _ _) ?_)
  go_end0
  exact ⟨rfl, w1, hb1, rfl⟩
def tv (t : T) : List Value := [.int .i64 (t.kind : Int), .string ⟨t.text.toArray⟩, .int .i64 (t.num : Int), .int .i64 (t.off : Int), .int .i64 (t.line : Int), .int .i64 (t.col : Int)]
def tvs (ts : List T) : List Value := ts.flatMap tv
theorem tvs_append (a b : List T) : tvs (a ++ b) = tvs a ++ tvs b := by simp [tvs]
theorem tvs_one (t : T) : tvs [t] = tv t := by simp [tvs]
theorem infoT : (Tryz.prog.info? 100).map (fun i => (i.zero, i.size, i.bytes)) = some (some (.agg #[.int .i64 0, .string ⟨#[]⟩, .int .i64 0, .int .i64 0, .int .i64 0, .int .i64 0]), 6, 56) := by kernel_rfl
theorem infoFlt : (Tryz.prog.info? 41).map (·.size) = some 4 := by kernel_rfl
theorem own_lt {w : World} {B e size n : Nat} {ao : Option Addr} {m c : Nat} {xs : List Value} (h : w.ownsRow B e size (.slice ao m c) n xs) : ∀ k, ob ao = some k -> B <= k /\ k < w.heap.size := by
  intro k hk
  exact h.lt k (by rw [ob_eq]; exact hk)
theorem own_of_block {w w' : World} {B e size n : Nat} {ao : Option Addr} {m c : Nat} {xs : List Value} (h : w.ownsRow B e size (.slice ao m c) n xs) (hb : ∀ k, ob ao = some k -> w'.heap[k]? = w.heap[k]?) : w'.ownsRow B e size (.slice ao m c) n xs := by
  refine ⟨h.1, ?_⟩
  rcases h.2 with h0 | ⟨g, cap, cur, hv, hbg, hg, h1⟩
  . exact .inl h0
  . refine .inr ⟨g, cap, cur, hv, hbg, ?_, h1⟩
    simp only [Value.slice.injEq] at hv
    rw [hb g (by rw [hv.1]; rfl)]
    exact hg
theorem own_ne {w : World} {B e size n : Nat} {ao : Option Addr} {m c : Nat} {xs : List Value} (h : w.ownsRow B e size (.slice ao m c) n xs) {k : Nat} {cs : Array Value} {t : TypeId} {fr : Nat × Nat} (hk : w.heap[k]? = some (.cells cs t fr)) (ht : t ≠ e) : ob ao ≠ some k := by
  intro he
  rcases h.2 with h0 | ⟨g, cap, cur, hv, hbg, hg, h1⟩
  . simp only [Value.slice.injEq] at h0
    rw [h0.1.1] at he
    cases he
  . simp only [Value.slice.injEq] at hv
    rw [hv.1] at he
    cases he
    rw [hg] at hk
    cases hk
    exact ht rfl
structure Sn (w : World) (bs bf ba : Nat) (s : ByteArray) (off line col : Nat) (ao : Option Addr) (c : Nat) (ts : List T) (wr : World) : Prop where
  cs : wr.heap[bs]? = some (.cells #[.string s] 9 (0, 0))
  cf : wr.heap[bf]? = some (.cells #[.int .i64 0, .int .i64 0, .int .i64 0, .int .i64 0] 41 (0, 0))
  ca : wr.heap[ba]? = some (.cells #[.int .i64 (off : Int), .int .i64 (line : Int), .int .i64 (col : Int)] 39 (0, 0))
  own : wr.ownsRow w.heap.size 100 6 (.slice ao ts.length c) ts.length (tvs ts)
  bel : Below w.heap.size w wr
theorem Sn.below {w wr wr' : World} {bs bf ba : Nat} {s : ByteArray} {off line col : Nat} {ao : Option Addr} {c : Nat} {ts : List T} (h : Sn w bs bf ba s off line col ao c ts wr) (hb : Below wr.heap.size wr wr') : Sn w bs bf ba s off line col ao c ts wr' :=
  ⟨(hb.block bs (Array.getElem?_eq_some_iff.1 h.cs).1).trans h.cs, (hb.block bf (Array.getElem?_eq_some_iff.1 h.cf).1).trans h.cf, (hb.block ba (Array.getElem?_eq_some_iff.1 h.ca).1).trans h.ca,
    own_of_block h.own (fun k hk => hb.block k (own_lt h.own k hk).2), h.bel.trans (hb.mono h.bel.size)⟩
theorem Sn.set {w wr : World} {bs bf ba : Nat} {s : ByteArray} {off line col : Nat} {ao : Option Addr} {c : Nat} {ts : List T} (h : Sn w bs bf ba s off line col ao c ts wr) (off' line' col' : Nat) (hB : w.heap.size <= ba) (h1 : bs ≠ ba) (h2 : bf ≠ ba) :
    Sn w bs bf ba s off' line' col' ao c ts (wr.setRow ba #[.int .i64 (off' : Int), .int .i64 (line' : Int), .int .i64 (col' : Int)]) :=
  ⟨(setRow_other _ _ _ _ h1).trans h.cs, (setRow_other _ _ _ _ h2).trans h.cf, setRow_heap _ _ _ _ _ _ h.ca,
    own_of_block h.own (fun k hk => setRow_other _ _ _ _ (fun e => own_ne h.own h.ca (by decide) (by rw [hk, e]))), below_setRow h.bel hB _⟩
theorem Sn.grown {w wr wr' : World} {bs bf ba : Nat} {s : ByteArray} {off line col : Nat} {ao ao' : Option Addr} {c c' : Nat} {ts ts' : List T} (h : Sn w bs bf ba s off line col ao c ts wr) (hg : wr.grownBy wr' (ob ao))
    (ho : wr'.ownsRow w.heap.size 100 6 (.slice ao' ts'.length c') ts'.length (tvs ts')) : Sn w bs bf ba s off line col ao' c' ts' wr' :=
  ⟨(hg.block bs (Array.getElem?_eq_some_iff.1 h.cs).1 (own_ne h.own h.cs (by decide)).symm).trans h.cs, (hg.block bf (Array.getElem?_eq_some_iff.1 h.cf).1 (own_ne h.own h.cf (by decide)).symm).trans h.cf,
    (hg.block ba (Array.getElem?_eq_some_iff.1 h.ca).1 (own_ne h.own h.ca (by decide)).symm).trans h.ca, ho, h.bel.grown hg h.bel.size (fun q hq => (own_lt h.own q hq).1)⟩
section
variable {P : Program}
theorem cell_tok_new (w : World) (t : T) (e : TypeId) : ∀ j u, (tv t)[j]? = some u -> (w.alloc (.cells (tv t).toArray e)).cell? ((⟨w.heap.size, 0, none⟩ : Addr).add j) = some u := by
  intro j u hu
  rw [Addr.add_lit, cell_of_row _ _ _ _ _ _ (heap_alloc_new w _)]
  simpa using hu
theorem wpList_pushT {ops : Array Oper} {rest : List Oper} {o : Oper} {a : Act} {Q : Exit -> Act -> World -> Prop} {w : World} (hgd : o.guard = none) (s x : Operand) (t : TypeId)
    (ho : o.op = .call { callee := .builtin .append, args := #[s, x], argTypes := #[t, t] })
    (e : TypeId) (ht : P.underlying t = some (.slice e)) (hinfo : (P.info? e).map (fun i => (i.zero, i.size, i.bytes)) = some (some (.agg #[.int .i64 0, .string ⟨#[]⟩, .int .i64 0, .int .i64 0, .int .i64 0, .int .i64 0]), 6, 56))
    (B : Nat) (ao : Option Addr) (n c : Nat) (ts : List T) (hs : a.eval s = .slice ao n c) (hown : w.ownsRow B e 6 (.slice ao n c) n (tvs ts))
    (tk : T) (cells : Array Value) (hz : cells = (tv tk).toArray) (H : Nat) (hH : w.heap.size = H) (hx : a.eval x = .slice (some ⟨H, 0, none⟩) 1 1) (hlen : n + 1 <= 2199023255552) (hbase : B <= w.heap.size)
    (h : ∀ g cap w', w'.ownsRow B e 6 (.slice (some ⟨g, 0, none⟩) (n + 1) cap) (n + 1) (tvs (ts ++ [tk])) -> w.grownBy w' (ob ao) -> (ob ao = some g ∨ w.heap.size <= g) -> wpList P ops Q rest (a.put o.dst (.slice (some ⟨g, 0, none⟩) (n + 1) cap)) w') :
    wpList P ops Q (o :: rest) a (w.alloc (.cells cells e)) := by
  obtain ⟨i, hi, hz0, hz1, hz2⟩ := info_parts hinfo
  subst hz
  subst hH
  refine wpList_append_lies _ hgd s x t ho B e i _ 6 56 ht hi hz0 hz1 hz2 rfl (by decide) _ n (tvs ts) hs (hown.alloc _) ⟨w.heap.size, 0, none⟩ 1 1 (tv tk) hx rfl (cell_tok_new _ _ _) (by intro u hu; simp [tv] at hu; rcases hu with rfl | rfl | rfl | rfl | rfl | rfl <;> rfl) (by decide) (by unfold maxLen; omega) (by omega) (by simp; omega) _ rfl ?_
  intro g cap w' ho' hg hat hlt
  rw [ob_eq] at hg hat
  refine h g cap w' (by rw [tvs_append, tvs_one]; exact ho') ((grown_alloc w _ _).trans hg) ?_
  rcases hat with e | e
  . exact .inl e
  . right; simp at e; omega
end
end Go.Proofs.YtnghfdnlcnocjaaGreatDoor.Tok
