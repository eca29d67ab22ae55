/- The program's Make, Turn, Conj, over. -/
import Derived.Test.YthpkmbgollollabDoorDd
namespace Go.Proofs.YthpkmbgollollabDoor.Dy
open Go.RowKit Go.Shelf Go.Proofs.YthpkmbgollollabDoor.Sca

/-- What Make answers. -/
def makeR (re im ex : Int) : DD × Int := if 0 ≤ ex ∧ ex ≤ 60 then ans (mkP ex.toNat re im) else (o0, 50)
set_option maxRecDepth 100000 in
set_option maxHeartbeats 1000000 in
theorem yMake (re im ex : Int) (hr : i64 re) (hi : i64 im) (w : World) (hT : Tz w) :
    Calls Tryd.prog 20 #[.int .i64 re, .int .i64 im, .int .i64 ex] w fun x w' => x = .returned (aV (makeR re im ex)) ∧ Below w.heap.size w w' := by
  unfold makeR
  have hA := At.new w 0 0 0
  by_cases c1 : ex < 0
  · rw [if_neg (by omega)]
    have z1 : decide (ex < 0) = true := decide_eq_true c1
    go_enter Tryd.func20, Tryd.ntmps20
    go_wp2_with (refine wpList_store_row rfl _ _ _ rfl w.heap.size _ rfl rfl _ _ hA (by exact infoD) (by rfl) (allD _ _ _) ?_)
    refine bodyPost_ret (results_ct rfl _ _ w.heap.size _ _ _ _ rfl (setRow_heap _ _ _ _ _ _ hA) Tryd.underlying23 rfl (by exact infoD)) rfl ?_
    exact ⟨rfl, below_setRow (below_new _ _) (Nat.le_refl _) _⟩
  · by_cases c2 : 60 < ex
    · rw [if_neg (by omega)]
      have z1 : decide (ex < 0) = false := decide_eq_false c1
      have z2 : decide (60 < ex) = true := decide_eq_true c2
      clear c1
      go_enter Tryd.func20, Tryd.ntmps20
      go_wp2_with (refine wpList_store_row rfl _ _ _ rfl w.heap.size _ rfl rfl _ _ hA (by exact infoD) (by rfl) (allD _ _ _) ?_)
      refine bodyPost_ret (results_ct rfl _ _ w.heap.size _ _ _ _ rfl (setRow_heap _ _ _ _ _ _ hA) Tryd.underlying23 rfl (by exact infoD)) rfl ?_
      exact ⟨rfl, below_setRow (below_new _ _) (Nat.le_refl _) _⟩
    · rw [if_pos (by omega)]
      obtain ⟨e, rfl⟩ : ∃ e : Nat, ex = e := ⟨ex.toNat, by omega⟩
      have z1 : decide ((e : Int) < 0) = false := decide_eq_false c1
      have z2 : decide (60 < (e : Int)) = false := decide_eq_false c2
      have cH := fun w hT => yHalved re im e hr hi (by omega) (fun _ => by omega) w hT
      rw [Int.toNat_natCast]
      generalize ans (mkP e re im) = r at *
      obtain ⟨⟨r1, r2, r3⟩, r4⟩ := r
      unfold aV dV at *
      dsimp only at *
      clear c1 c2 hr hi
      go_enter Tryd.func20, Tryd.ntmps20
      go_wp2_with fail
      refine (cH _ (hT.below (below_new _ _))).mono ?_
      rintro e w2 ⟨rfl, hb2⟩
      have hbw2 : Below w.heap.size w w2 := (below_new _ _).trans (hb2.mono (by simp))
      have hA2 := hA.below hb2
      clear hb2 hA cH
      go_wp2_with (refine wpList_store_row rfl _ _ _ rfl w.heap.size _ rfl rfl _ _ hA2 (by exact infoD) (by rfl) (allD _ _ _) ?_)
      refine bodyPost_ret (results_ct rfl _ _ w.heap.size _ _ _ _ rfl (setRow_heap _ _ _ _ _ _ hA2) Tryd.underlying23 rfl (by exact infoD)) rfl ?_
      exact ⟨rfl, below_setRow hbw2 (Nat.le_refl _) _⟩
theorem chk_ok {d : DD} (h : Rt d) : chk d = 0 := if_pos h
theorem chk_no {d : DD} (h : ¬ Rt d) : chk d = 2 := if_neg h
abbrev dO (a b c : Int) : Obj := .cells #[.int .i64 a, .int .i64 b, .int .i64 c] 23
theorem two_new (w : World) (a b c a' b' c' : Int) : At ((w.alloc (dO a b c)).alloc (dO a' b' c')) w.heap.size a b c ∧ At ((w.alloc (dO a b c)).alloc (dO a' b' c')) (w.heap.size + 1) a' b' c' ∧ Below w.heap.size w ((w.alloc (dO a b c)).alloc (dO a' b' c')) := by
  refine ⟨(At.new w a b c).below (below_new _ _), ?_, (below_new w _).trans ((below_new _ _).mono (by simp))⟩
  have := At.new (w.alloc (dO a b c)) a' b' c'
  rwa [show (w.alloc (dO a b c)).heap.size = w.heap.size + 1 by simp] at this
theorem three_new (w : World) (a b c a' b' c' a'' b'' c'' : Int) : At (((w.alloc (dO a b c)).alloc (dO a' b' c')).alloc (dO a'' b'' c'')) w.heap.size a b c ∧ At (((w.alloc (dO a b c)).alloc (dO a' b' c')).alloc (dO a'' b'' c'')) (w.heap.size + 1) a' b' c' ∧
    At (((w.alloc (dO a b c)).alloc (dO a' b' c')).alloc (dO a'' b'' c'')) (w.heap.size + 2) a'' b'' c'' ∧ Below w.heap.size w (((w.alloc (dO a b c)).alloc (dO a' b' c')).alloc (dO a'' b'' c'')) := by
  obtain ⟨h1, h2, h3⟩ := two_new w a b c a' b' c'
  refine ⟨h1.below (below_new _ _), h2.below (below_new _ _), ?_, h3.trans ((below_new _ _).mono (by simp; omega))⟩
  have := At.new ((w.alloc (dO a b c)).alloc (dO a' b' c')) a'' b'' c''
  rwa [show ((w.alloc (dO a b c)).alloc (dO a' b' c')).heap.size = w.heap.size + 2 by simp] at this
theorem At.far {w : World} {k : Nat} {re im ex : Int} (h : At w k re im ex) (p : Addr) (v : Value) (hp : p.block ≠ k) : At (w.setCell p v) k re im ex := (Below.heap_setCell _ _ _ _ (fun e => hp e.symm)).trans h
theorem At.farRow {w : World} {k : Nat} {re im ex : Int} (h : At w k re im ex) (g : Nat) (cs : Array Value) (hp : g ≠ k) : At (w.setRow g cs) k re im ex := by
  unfold At at *
  rw [← h]
  show (w.heap.modify g _)[k]? = _
  rw [Array.getElem?_modify, if_neg hp]
theorem below_set {B : Nat} {a w : World} (h : Below B a w) (p : Addr) (v : Value) (hp : B ≤ p.block) : Below B a (w.setCell p v) := h.setCell hp v
end Go.Proofs.YthpkmbgollollabDoor.Dy
