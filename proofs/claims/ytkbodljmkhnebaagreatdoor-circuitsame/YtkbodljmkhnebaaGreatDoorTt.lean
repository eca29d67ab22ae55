/- Picking numbers out of a row. -/
import Derived.Test.YtkbodljmkhnebaaGreatDoorTg
namespace Go.Proofs.YtkbodljmkhnebaaGreatDoor.Cir
open Go.RowKit Go.Shelf Go.Proofs.YtkbodljmkhnebaaGreatDoor.Oct Go.Proofs.YtkbodljmkhnebaaGreatDoor.Tok Go.Proofs.YtkbodljmkhnebaaGreatDoor.Gt

theorem make_in (n : Nat) (hn : n ≤ 4398046511105) (w : World) : (Instr.makeSlice 30 (.int .i64 (n : Int)) (.int .i64 (n : Int))).run Tryz.prog w = .ok (.slice (some ⟨w.heap.size, 0, none⟩) n n) (w.alloc (.cells (madeCells #[.int .i64 0] n) 3)) :=
  run_make_row' 30 3 (.int .i64 0) 8 Tryz.underlying30 infoI rfl .i64 .i64 n (by omega) (by omega) w
theorem Is.cell {w : World} {ao : Option Addr} {c n : Nat} {l : List Nat} (h : Is w (.slice ao n c) l) {j z : Nat} (hj : l[j]? = some z) : ∃ g off, ao = some ⟨g, off, none⟩ ∧ w.cell? ⟨g, off + j, none⟩ = some (.int .i64 (z : Int)) := by
  rcases h with ⟨rfl, _⟩ | ⟨g, off, c', cs, fr, h1, h2, h3⟩
  · simp at hj
  · simp only [Value.slice.injEq] at h1
    exact ⟨g, off, h1.1, (cell_of_row _ _ _ _ _ _ h2).trans (h3 j z hj)⟩
/-- What pick has made behind i places. -/
def pkF (l ps : List Nat) (i j : Nat) : Value := if j < i then iv (l.getD (ps.getD j 0) 0) else iv 0
theorem pkF_succ (l ps : List Nat) (i : Nat) : (fun j => if j = i then iv (l.getD (ps.getD i 0) 0) else pkF l ps i j) = pkF l ps (i + 1) := by
  funext j
  unfold pkF
  by_cases h : j = i
  · subst h; simp
  · rw [if_neg h]
    by_cases h2 : j < i
    · rw [if_pos h2, if_pos (by omega)]
    · rw [if_neg h2, if_neg (by omega)]
theorem rk_mk (w : World) (n : Nat) (t : TypeId) (z : Value) : Rk (w.alloc (.cells (madeCells #[z] n) t)) w.heap.size t n (fun _ => z) := by
  obtain ⟨c, h1, h2, h3⟩ := World.rowIs_made w z n t
  exact ⟨c, h1, by omega, h3⟩
set_option maxRecDepth 100000 in
set_option maxHeartbeats 600000 in
theorem cPick (al ap : Option Addr) (cl cp : Nat) (l ps : List Nat) (hp : ps.length ≤ 4398046511105) (hlt : ∀ p ∈ ps, p < l.length) (w : World) (hL : Is w (.slice al l.length cl) l) (hP : Is w (.slice ap ps.length cp) ps) :
    Calls Tryz.prog 212 #[.slice al l.length cl, .slice ap ps.length cp] w fun e w' => ∃ g, e = .returned (.slice (some ⟨g, 0, none⟩) ps.length ps.length) ∧ Is w' (.slice (some ⟨g, 0, none⟩) ps.length ps.length) (pk l ps) ∧ w.heap.size ≤ g ∧ Below w.heap.size w w' := by
  have hmk := fun W => make_in ps.length hp W
  have HL := hide hL
  have HP := hide hP
  have HT := hide hlt
  clear hL hP hlt
  obtain ⟨n, hn⟩ : ∃ n, ps.length = n := ⟨_, rfl⟩
  obtain ⟨m, hm⟩ : ∃ m, l.length = m := ⟨_, rfl⟩
  have HN := hide hn
  have HM := hide hm
  rw [hn] at hmk hp ⊢
  rw [hm]
  clear hn hm
  go_enter Tryz.func212, Tryz.ntmps212
  go_wp2_with fail
  go_loopw [13] (fun v wr => ∃ i : Nat, v = .int .i64 (i : Int) ∧ i ≤ n ∧ Rk wr w.heap.size 3 n (pkF l ps i) ∧ Below w.heap.size w wr) (fun v _ => n - (Go.RowKit.intOf v).toNat)
  case atStart => exact ⟨0, rfl, Nat.zero_le _, (rk_mk w n 3 (.int .i64 0)).congr (fun i _ => rfl), bnew _ _⟩
  case round =>
    obtain ⟨i, rfl, hi, hR, hb⟩ := hrel
    by_cases h : i < n
    · have hdd : decide ((i : Int) < (n : Int)) = true := decide_eq_true (by omega)
      obtain ⟨p, hp1⟩ : ∃ p, ps[i]? = some p := ⟨_, List.getElem?_eq_getElem (by rw [HN.out]; exact h)⟩
      have hpl := HT.out p (List.mem_of_getElem? hp1)
      obtain ⟨z, hz1⟩ : ∃ z, l[p]? = some z := ⟨_, List.getElem?_eq_getElem hpl⟩
      have hP1 := HP.out
      have hL1 := HL.out
      rw [HN.out] at hP1
      rw [HM.out] at hL1 hpl
      obtain ⟨gp, op, rfl, hcp⟩ := (hP1.below hb).cell hp1
      obtain ⟨gl, ol, rfl, hcl⟩ := (hL1.below hb).cell hz1
      have hF := hR.frozen i
      have hC := hR.cell i h
      have hset := hR.set i (iv z)
      have e1 : (fun j => if j = i then iv z else pkF l ps i j) = pkF l ps (i + 1) := by
        rw [← pkF_succ]
        have : ps.getD i 0 = p := by simp [List.getD, hp1]
        have h2 : l.getD p 0 = z := by simp [List.getD, hz1]
        rw [this, h2]
      rw [e1] at hset
      have HC := hide hset
      have hbs := hb.setCell (p := ⟨w.heap.size, i, none⟩) (Nat.le_refl _) (iv z)
      unfold iv at HC hbs
      clear e1 hset hP1 hL1 hz1 hp1
      generalize pkF l ps i i = old at hC
      clear hR
      go_wp2_with fail
      go_roundw
      case rel => exact ⟨i + 1, by go_num, by omega, HC.out, hbs⟩
      case measure => simp [Go.RowKit.intOf]; omega
    · obtain rfl : n = i := by omega
      go_wp2_with fail
      go_ret
      refine ⟨w.heap.size, rfl, ?_, Nat.le_refl _, hb⟩
      have hln : (pk l ps).length = n := by rw [← HN.out]; simp [pk]
      rw [← hln]
      obtain ⟨cur, h1, h2, h3⟩ := hR
      refine .inr ⟨w.heap.size, 0, _, cur, (0, 0), rfl, h1, fun j z hj => ?_⟩
      have hj' : j < n := by rw [← hln]; exact (List.getElem?_eq_some_iff.1 hj).1
      rw [Nat.zero_add, h3 j hj']
      unfold pkF
      rw [if_pos hj']
      unfold pk at hj
      rw [List.getElem?_map] at hj
      have hps : j < ps.length := by rw [HN.out]; exact hj'
      rw [List.getElem?_eq_getElem hps] at hj
      simp at hj
      rw [← hj]
      simp [List.getD, hps]
end Go.Proofs.YtkbodljmkhnebaaGreatDoor.Cir
