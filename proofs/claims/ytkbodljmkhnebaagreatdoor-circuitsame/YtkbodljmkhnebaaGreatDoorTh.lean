/- One operation as a define; gates by their names. -/
import Derived.Test.YtkbodljmkhnebaaGreatDoorTg
namespace Go.Proofs.YtkbodljmkhnebaaGreatDoor.Cir
open Go.RowKit Go.Shelf Go.Proofs.YtkbodljmkhnebaaGreatDoor.Oct Go.Proofs.YtkbodljmkhnebaaGreatDoor.Tok Go.Proofs.YtkbodljmkhnebaaGreatDoor.Gt

theorem range_iv (i : Nat) : (List.range (i + 1)).map iv = (List.range i).map iv ++ [.int .i64 (i : Int)] := by
  rw [List.range_succ, List.map_append]
  rfl
theorem pk_range (l : List Nat) : pk l (List.range l.length) = l := by
  refine List.ext_getElem? fun j => ?_
  unfold pk
  rw [List.getElem?_map]
  by_cases h : j < l.length
  · rw [List.getElem?_range h, List.getElem?_eq_getElem h]
    simp [List.getD, h]
  · rw [List.getElem?_eq_none (by simpa using h), List.getElem?_eq_none (by omega)]
    rfl
set_option maxRecDepth 100000 in
set_option maxHeartbeats 2000000 in
theorem cSingle (kind gate n : Nat) (hn : n ≤ 4398046511104) (w : World) : Calls Tryz.prog 202 #[.int .i64 (kind : Int), .int .i64 (gate : Int), .int .i64 (n : Int)] w fun e w' => ∃ u, e = .returned u ∧ DefS w' w'.heap.size (sng kind gate n) u ∧ Below w.heap.size w w' := by
  go_enter Tryz.func202, Tryz.ntmps202
  go_wp2_with fail
  go_loopw [13] (fun v wr => ∃ (i : Nat) (ao : Option Addr) (c : Nat), v = .int .i64 (i : Int) ∧ i ≤ n ∧ wr.heap[w.heap.size + 1]? = some (.cells #[.int .i64 (kind : Int), .int .i64 (gate : Int), .slice none 0 0, .slice ao i c] 276 (0, 0)) ∧
      wr.heap[w.heap.size]? = some (.cells #[.int .i64 0, .int .i64 0, .slice none 0 0] 221 (0, 0)) ∧ wr.ownsRow (w.heap.size + 2) 3 1 (.slice ao i c) i ((List.range i).map iv) ∧ Below w.heap.size w wr) (fun v _ => n - (Go.RowKit.intOf v).toNat)
  case atStart =>
    refine ⟨0, none, 0, rfl, Nat.zero_le _, ?_, ?_, World.ownsRow_nil _ _ _ _, (bnew _ _).trans ((bnew _ _).mono (by simp))⟩
    · have := heap_alloc_new (w.alloc (.cells #[.int .i64 0, .int .i64 0, .slice none 0 0] 221)) (.cells #[.int .i64 (kind : Int), .int .i64 (gate : Int), .slice none 0 0, .slice none 0 0] 276)
      simpa using this
    · exact (Below.heap_alloc _ _ _ (by simp)).trans (heap_alloc_new _ _)
  case round =>
    obtain ⟨i, ao, c, rfl, hi, h1, h2, hown, hb⟩ := hrel
    have hsz : w.heap.size + 2 ≤ wr.heap.size := by
      have := (Array.getElem?_eq_some_iff.1 h1).1
      omega
    by_cases h : i < n
    · have hdd : decide ((i : Int) < (n : Int)) = true := decide_eq_true (by omega)
      have k3 : wr.cell? ⟨w.heap.size + 1, 3, none⟩ = some (.slice ao i c) := cell_of_row _ _ 3 _ _ _ h1
      have hlt : w.heap.size + 1 < wr.heap.size := by omega
      go_wp2_with (at_builtin; refine push rfl _ _ 30 rfl 3 Tryz.underlying30 _ 1 8 infoI rfl (by decide) (w.heap.size + 2) ao i c _ rfl hown [.int .i64 (i : Int)] _ rfl rfl (by simp [Value.oneCell']) _ rfl rfl (by omega) (by omega) hsz ?_)
      intro g cap w6 hown6 hgrow6 hat6
      have hne1 : some (w.heap.size + 1) ≠ ob ao := fun e => by have := (own_lt hown _ e.symm).1; omega
      have hne2 : some w.heap.size ≠ ob ao := fun e => by have := (own_lt hown _ e.symm).1; omega
      have g1 := (hgrow6.block _ (by omega) hne1).trans h1
      have g2 := (hgrow6.block _ (by omega) hne2).trans h2
      have gb := hb.grown hgrow6 hb.size (fun k hk => by have := (own_lt hown k hk).1; omega)
      have e3 : w6.cell? ⟨w.heap.size + 1, 3, none⟩ = some (.slice ao i c) := cell_of_row _ _ 3 _ _ _ g1
      have ez : w6.frozen? ⟨w.heap.size + 1, 3, none⟩ = false := by simp [World.frozen?, g1]
      have hgg : g ≠ w.heap.size + 1 := by have := own_lt hown6 g rfl; omega
      clear k3
      go_wp2_with fail
      go_roundw
      case rel =>
        refine ⟨i + 1, some ⟨g, 0, none⟩, cap, by go_num, by omega, ?_, ?_, ?_, gb.setCell (by simp) _⟩
        · rw [setCell_eq_setRow _ _ 3 _ _ _ _ g1]
          exact setRow_heap _ _ _ _ _ _ g1
        · exact (Below.heap_setCell _ _ _ _ (by simp)).trans g2
        · rw [range_iv]
          exact own_of_block hown6 (fun k hk => Below.heap_setCell _ _ _ _ (by simp [ob] at hk; subst hk; exact hgg))
      case measure => simp [Go.RowKit.intOf]; omega
    · obtain rfl : n = i := by omega
      have k0 : wr.cell? ⟨w.heap.size + 1, 0, none⟩ = some (.int .i64 (kind : Int)) := cell_of_row _ _ 0 _ _ _ h1
      have k1 : wr.cell? ⟨w.heap.size + 1, 1, none⟩ = some (.int .i64 (gate : Int)) := cell_of_row _ _ 1 _ _ _ h1
      have k2 : wr.cell? ⟨w.heap.size + 1, 2, none⟩ = some (.slice none 0 0) := cell_of_row _ _ 2 _ _ _ h1
      have k3 : wr.cell? ⟨w.heap.size + 1, 3, none⟩ = some (.slice ao n c) := cell_of_row _ _ 3 _ _ _ h1
      have hA := (Below.heap_alloc wr (.cells #[.int .i64 (kind : Int), .int .i64 (gate : Int), .slice none 0 0, .slice ao n c] 276) w.heap.size (by omega)).trans h2
      go_wp2_with (refine wpList_store_row rfl _ _ _ rfl w.heap.size _ rfl rfl _ _ hA (by exact infoDf) (by rfl) (by simp [Value.oneCell']) ?_)
      refine bodyPost_ret (results_c rfl _ _ w.heap.size _ _ _ _ rfl (setRow_heap _ _ _ _ _ _ hA) Tryz.underlying221 rfl (by exact infoDf)) rfl ?_
      have hI : Is (wr.alloc (.cells #[.int .i64 (kind : Int), .int .i64 (gate : Int), .slice none 0 0, .slice ao n c] 276)) (.slice ao n c) (List.range n) := by
        have := Is.of_own (l := List.range n) (ao := ao) (c := c) (B := w.heap.size + 2) (w := wr) (by rw [List.length_range]; exact hown)
        rw [List.length_range] at this
        exact this.below (bnew _ _)
      refine ⟨_, rfl, ⟨some ⟨wr.heap.size, 0, none⟩, 1, rfl, ⟨some ⟨wr.heap.size, 0, none⟩, 1, [⟨kind, gate, .slice none 0 0, .slice ao n c, [⟨kind, gate, List.range n⟩]⟩], rfl, rfl, rfl, ?_, .inr ⟨wr.heap.size, 0, #[.int .i64 (kind : Int), .int .i64 (gate : Int), .slice none 0 0, .slice ao n c], (0, 0), rfl, by simp [World.setRow], ?_, ?_⟩⟩, hn, by simp [sng]⟩, ?_⟩
      · intro s hs
        rw [List.mem_singleton] at hs
        subst hs
        refine ⟨List.range n, ?_, fun i hi => List.mem_range.1 hi, by rw [List.length_range]; exact hn, .inl ⟨⟨none, 0, rfl⟩, rfl⟩⟩
        refine (hI.b.mono (by simp [World.setRow])).block fun g _ cs fr hg => setRow_other _ _ _ _ ?_
        intro e
        rw [e, hA] at hg
        simp at hg
      · refine (setRow_other _ _ _ _ (by omega)).trans ?_
        exact heap_alloc_new _ _
      · intro j u hu
        rw [Nat.zero_add]
        simpa [Sx.cells, iv] using hu
      · exact below_setRow (hb.trans ((bnew _ _).mono hb.size)) (Nat.le_refl _) _
end Go.Proofs.YtkbodljmkhnebaaGreatDoor.Cir
