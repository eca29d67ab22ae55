/- The row of calls. -/
import Derived.Test.YtkbodljmkhnebaaGreatDoorTy
import Derived.Deep.RegionHeld3
namespace Go.Proofs.YtkbodljmkhnebaaGreatDoor.Cir
open Go.RowKit Go.Shelf Go.Proofs.YtkbodljmkhnebaaGreatDoor.Oct Go.Proofs.YtkbodljmkhnebaaGreatDoor.Tok Go.Proofs.YtkbodljmkhnebaaGreatDoor.Gt

def nx (z : Nat) : N64 := ⟨min z 4611686018427387903, by omega⟩
theorem nx_map (args : List Ag) (k : Nat) (h : ∀ a ∈ args, a.fr ≤ 64) (hk : k ≤ 64) : (args.map fun a => nx (atP k a)).map (·.1) = args.map (atP k) := by
  rw [List.map_map]
  refine List.map_congr_left fun a ha => ?_
  show min (atP k a) 4611686018427387903 = atP k a
  have := h a ha
  unfold atP
  split <;> omega
theorem hmP_le : ∀ (l : List Ag) (n : Nat), n ≤ 64 → (∀ a ∈ l, a.sz ≤ 64) → ∀ m, hmP n l = some m → m ≤ 64 ∧ 1 ≤ m
  | [], n, hn, _, m, h => by simp only [hmP, Option.some.injEq] at h; omega
  | a :: r, n, hn, hs, m, h => by
    rw [hmP_cons] at h
    have h2 : ∀ b ∈ r, b.sz ≤ 64 := fun b hb => hs b (List.mem_cons_of_mem _ hb)
    split at h
    · split at h
      · cases h
      · exact hmP_le r a.sz (hs a (by simp)) h2 m h
    · exact hmP_le r n hn h2 m h
/-- What rowOfCalls answers. -/
def PRC (args : List Ag) (w : World) (P : Option (List (List Nat))) (e : Ending) (w' : World) : Prop := match P with
  | none => e = .returned (.tuple #[.slice none 0 0, .bool false]) ∧ Below w.heap.size w w'
  | some _ => ∃ g n, e = .returned (.tuple #[.slice (some ⟨g, 0, none⟩) n n, .bool true]) ∧ hmP 0 args = some n ∧ n ≤ 64 ∧ w.heap.size ≤ g ∧ Rws w' g n n (fun k => args.map (atP k)) ∧ Below w.heap.size w w'
set_option maxRecDepth 100000 in
set_option maxHeartbeats 1000000 in
theorem cRowOfCalls (c : Nat) (ao : Option Addr) (args : List Ag) (hl : args.length ≤ 4398046511104) (hfr : ∀ a ∈ args, a.fr ≤ 64) (hsz : ∀ a ∈ args, a.sz ≤ 64) (w : World) (hI : Asb w.heap.size w (.slice ao args.length c) args) :
    Calls Tryz.prog 184 #[.slice ao args.length c] w (PRC args w (callsP args)) := by
  have c1 := fun o => cHowMany w.heap.size c ao args (by omega) (w.alloc o) (by simp) (hI.below (Nat.le_refl _) (bnew _ _))
  unfold callsP
  cases h1 : hmP 0 args with
  | none =>
    rw [h1] at c1
    unfold hmV at c1
    go_enter Tryz.func184, Tryz.ntmps184
    go_wp2_with (first | (go_at_call 210; refine (c1 _).mono ?_; rintro e w1 ⟨rfl, hb1⟩))
    go_ret2
    exact ⟨rfl, (bnew _ _).trans (hb1.mono (by simp))⟩
  | some n =>
    rw [h1] at c1
    unfold hmV at c1
    simp only at c1 ⊢
    obtain ⟨hn64, hn1⟩ := hmP_le args 0 (by omega) hsz n h1
    have hmk := fun W => make_is n (by omega) W
    obtain ⟨P, hP⟩ : ∃ P : Option (List (List Nat)), P = (if ∀ k, k < n → (args.map (atP k)).Nodup then some ((List.range n).map fun k => args.map (atP k)) else none) := ⟨_, rfl⟩
    rw [← hP]
    have HP := hide hP
    have H1 := hide h1
    clear hP h1
    go_enter Tryz.func184, Tryz.ntmps184
    go_wp2_with (first | (go_at_call 210; refine (c1 _).mono ?_; rintro e w1 ⟨rfl, hb1⟩))
    have hA : ((w1.alloc (.cells (madeCells #[.slice none 0 0] n) 30))).cell? ⟨w.heap.size, 0, none⟩ = some (.slice ao args.length c) := by
      have hz := hb1.size
      simp only [World.size_alloc] at hz
      exact ((bnew _ _).cell (p := ⟨w.heap.size, 0, none⟩) (by show w.heap.size < _; omega)).trans ((hb1.cell (p := ⟨w.heap.size, 0, none⟩) (by simp)).trans (by simp))
    have hbw : Below w.heap.size w w1 := (bnew _ _).trans (hb1.mono (by simp))
    have hlw : w.heap.size < w1.heap.size := by have := hb1.size; simp at this; omega
    have hR0 : Rws (w1.alloc (.cells (madeCells #[.slice none 0 0] n) 30)) w1.heap.size n 0 (fun k => args.map (atP k)) := ⟨_, heap_alloc_new _ _, size_madeCells _ _, fun j hj => absurd hj (by omega)⟩
    clear hmk c1
    have hb2 : Below w.heap.size w (w1.alloc (.cells (madeCells #[.slice none 0 0] n) 30)) := hbw.trans ((bnew _ _).mono hbw.size)
    generalize (w1.alloc (.cells (madeCells #[.slice none 0 0] n) 30)) = W1 at *
    have hgg : w.heap.size < w1.heap.size := hlw
    clear hb1 hbw
    generalize w1.heap.size = gc at *
    go_loopw [20] (fun v wr => ∃ k : Nat, v = .int .i64 (k : Int) ∧ k ≤ n ∧ Hid (∀ j, j < k → (args.map (atP j)).Nodup) ∧ Rws wr gc n k (fun k => args.map (atP k)) ∧ wr.cell? ⟨w.heap.size, 0, none⟩ = some (.slice ao args.length c) ∧ Below w.heap.size w wr) (fun v _ => n - (Go.RowKit.intOf v).toNat)
    case atStart => exact ⟨0, rfl, Nat.zero_le _, hide (fun j hj => absurd hj (by omega)), hR0, hA, hb2⟩
    case round =>
      clear hR0 hA hb2
      obtain ⟨k, rfl, hk, HD, hR, hA, hb⟩ := hrel
      by_cases h : k < n
      · have hdd : decide ((k : Int) < (n : Int)) = true := decide_eq_true (by omega)
        have hlw0 : w.heap.size < wr.heap.size := World.block_lt_of_cell? _ _ hA
        have hgc : gc < wr.heap.size := by obtain ⟨cur, h1, _⟩ := hR; exact (Array.getElem?_eq_some_iff.1 h1).1
        have hbV : Below wr.heap.size wr (wr.alloc (.cells #[.int .i64 (k : Int)] 3)) := bnew _ _
        have hcV := cell_of_row (wr.alloc (.cells #[.int .i64 (k : Int)] 3)) wr.heap.size 0 _ _ _ (heap_alloc_new wr (.cells #[.int .i64 (k : Int)] 3))
        have c2 : Calls Tryz.prog 181 #[.func (.func 211) #[] #[.pointer (some ⟨w.heap.size, 0, none⟩), .pointer (some ⟨wr.heap.size, 0, none⟩)]] (wr.alloc (.cells #[.int .i64 (k : Int)] 3)).drew (PO1 (wr.alloc (.cells #[.int .i64 (k : Int)] 3)).drew (args.map fun a => nx (atP k a))) := by
          refine cOnce _ _ eCall1 _ (by rw [List.length_map]; exact hl) _ (fun W hW => ?_)
          have hsV : (wr.alloc (.cells #[.int .i64 (k : Int)] 3)).drew.heap.size = wr.heap.size + 1 := by show (wr.alloc _).heap.size = _; simp
          refine call_stops w.heap.size wr.heap.size _ c k ao args _ (nx_map args k hfr (by omega)) (by omega) (fun a ha => by have := hfr a ha; omega) (by omega) (by rw [hsV]; omega) (by rw [hsV]; omega) W hW.size ?_ ?_ ?_
          · exact (hW.cell (p := ⟨w.heap.size, 0, none⟩) (by show w.heap.size < _; rw [hsV]; omega)).trans ((hbV.cell (p := ⟨w.heap.size, 0, none⟩) hlw0).trans hA)
          · exact (hW.cell (p := ⟨wr.heap.size, 0, none⟩) (by show wr.heap.size < _; rw [hsV]; omega)).trans hcV
          · have h0 : Asb w.heap.size wr (.slice ao args.length c) args := hI.below (Nat.le_refl _) hb
            have h1 : Asb w.heap.size W (.slice ao args.length c) args := h0.block fun g hg _ _ _ => (hW.block g (by rw [hsV]; omega)).trans (hbV.block g (by omega))
            rcases h1 with h1 | ⟨g, off, c', cs, fr, h2, h3⟩
            · exact .inl h1
            · exact .inr ⟨g, off, c', cs, fr, by rw [hsV]; omega, h3⟩
        have hneg : wr.heap.size ≠ gc := by omega
        have hR1 := hR.below hbV
        have hAV := (hbV.cell (p := ⟨w.heap.size, 0, none⟩) hlw0).trans hA
        have hbW : Below w.heap.size w (wr.alloc (.cells #[.int .i64 (k : Int)] 3)) := hb.trans (hbV.mono hb.size)
        have hsz1 : (wr.alloc (.cells #[.int .i64 (k : Int)] 3)).heap.size = wr.heap.size + 1 := by simp
        unfold PO1 at c2
        have hxm := nx_map args k hfr (by omega : k ≤ 64)
        rw [hxm] at c2
        have hxm2 : (args.map fun a => nx (atP k a)).length = args.length := List.length_map ..
        have hxm3 : ((args.map fun a => nx (atP k a)).map fun x => iv x.1) = (args.map (atP k)).map iv := by rw [← hxm]; simp only [List.map_map]; rfl
        rw [hxm2, hxm3] at c2
        clear hxm hxm2 hxm3 hbV hA hR
        by_cases hnd : (args.map (atP k)).Nodup
        · have c3 : Calls Tryz.prog 181 #[.func (.func 211) #[] #[.pointer (some ⟨w.heap.size, 0, none⟩), .pointer (some ⟨wr.heap.size, 0, none⟩)]] (wr.alloc (.cells #[.int .i64 (k : Int)] 3)).drew (fun e w' => ∃ ao' m' c', e = .returned (.tuple #[.slice ao' m' c', .bool true]) ∧ Is w' (.slice ao' m' c') (args.map (atP k)) ∧ Below (wr.alloc (.cells #[.int .i64 (k : Int)] 3)).heap.size (wr.alloc (.cells #[.int .i64 (k : Int)] 3)) w') := c2.mono (fun e w' h => by
            obtain ⟨hb', h' | h'⟩ := h
            · obtain ⟨_, v, rfl, ho⟩ := h'
              have hvs : ∃ ao m c, v = .slice ao m c := by
                rcases ho.2 with ⟨e, _⟩ | ⟨g, cap, cur, e, _⟩
                · exact ⟨_, _, _, e⟩
                · exact ⟨_, _, _, e⟩
              obtain ⟨ao', m', c', rfl⟩ := hvs
              have hm : m' = args.length := by
                rcases ho.2 with ⟨e, e0⟩ | ⟨g, cap, cur, e, _⟩
                · simp only [Value.slice.injEq] at e; omega
                · simp only [Value.slice.injEq] at e; omega
              refine ⟨ao', m', c', rfl, ?_, ⟨hb'.os, hb'.tape, hb'.output, hb'.size, hb'.block⟩⟩
              rw [hm]
              have := Is.of_own (l := args.map (atP k)) (ao := ao') (c := c') (by rw [List.length_map]; rw [hm] at ho; exact ho)
              rw [List.length_map] at this
              exact this
            · exact absurd hnd h'.1)
          clear c2
          go_wp2_with fail
          generalize (wr.alloc (.cells #[.int .i64 (k : Int)] 3)) = V at *
          obtain ⟨⟨u0, hu0⟩, hf0⟩ := hR1.cell k h
          have HS0 : Hid (V.drew.cell? ⟨wr.heap.size, 0, none⟩ = some (.int .i64 (k : Int))) := hide hcV
          have HS1 : Hid (∀ w', Below V.heap.size V w' → w'.cell? ⟨wr.heap.size, 0, none⟩ = some (.int .i64 (k : Int))) := hide (fun w' h' => (h'.cell (p := ⟨wr.heap.size, 0, none⟩) (by show wr.heap.size < _; omega)).trans hcV)
          have HS2 : Hid (∀ (w' : World) (u : Value), w'.cell? ⟨wr.heap.size, 0, none⟩ = some (.int .i64 (k : Int)) → (w'.setCell ⟨gc, k, none⟩ u).cell? ⟨wr.heap.size, 0, none⟩ = some (.int .i64 (k : Int))) := hide (fun w' u h' => (cell_far _ _ _ _ hneg).trans h')
          have HU : Hid (∀ w', Below V.heap.size V w' → w'.cell? ⟨gc, k, none⟩ = some u0 ∧ w'.frozen? ⟨gc, k, none⟩ = false) := hide (fun w' h' => ⟨(h'.cell (p := ⟨gc, k, none⟩) (by show gc < _; omega)).trans hu0, (h'.frozen (p := ⟨gc, k, none⟩) (by show gc < _; omega)).trans hf0⟩)
          clear hu0 hf0 hcV
          go_region_held3 (fun X => X.cell? ⟨wr.heap.size, 0, none⟩ = some (.int .i64 (k : Int)))
            (first | (with_reducible exact HS0.out) | (with_reducible assumption) | (with_reducible exact HS2.out _ _ (by assumption)))
            (first | (go_at_call 181; (with_reducible refine Calls.mono c3 ?_); rintro e w2 ⟨ao', m', c', rfl, hI2, hb2⟩; have hS := HS1.out w2 hb2; obtain ⟨hu2, hf2⟩ := HU.out w2 hb2))
          go_wp2_with fail
          go_roundw
          case rel =>
            refine ⟨k + 1, by go_num, by omega, hide (fun j hj => ?_), (hR1.below hb2).set h _ hI2, (cell_far _ _ _ _ (by show w.heap.size ≠ gc; omega)).trans ((hb2.cell (p := ⟨w.heap.size, 0, none⟩) (by show w.heap.size < _; omega)).trans hAV), (hbW.trans (hb2.mono hbW.size)).setCell (by show w.heap.size ≤ gc; omega) _⟩
            by_cases e : j = k
            · rw [e]; exact hnd
            · exact HD.out j (by omega)
          case measure => simp [Go.RowKit.intOf]; omega
        · have c3 : Calls Tryz.prog 181 #[.func (.func 211) #[] #[.pointer (some ⟨w.heap.size, 0, none⟩), .pointer (some ⟨wr.heap.size, 0, none⟩)]] (wr.alloc (.cells #[.int .i64 (k : Int)] 3)).drew (fun e w' => e = .returned (.tuple #[.slice none 0 0, .bool false]) ∧ Below (wr.alloc (.cells #[.int .i64 (k : Int)] 3)).heap.size (wr.alloc (.cells #[.int .i64 (k : Int)] 3)) w') := c2.mono (fun e w' h => by
            obtain ⟨hb', h' | h'⟩ := h
            · exact absurd h'.1 hnd
            · exact ⟨h'.2, ⟨hb'.os, hb'.tape, hb'.output, hb'.size, hb'.block⟩⟩)
          clear c2
          go_wp2_with fail
          generalize (wr.alloc (.cells #[.int .i64 (k : Int)] 3)) = V at *
          obtain ⟨⟨u0, hu0⟩, hf0⟩ := hR1.cell k h
          have HS0 : Hid (V.drew.cell? ⟨wr.heap.size, 0, none⟩ = some (.int .i64 (k : Int))) := hide hcV
          have HS1 : Hid (∀ w', Below V.heap.size V w' → w'.cell? ⟨wr.heap.size, 0, none⟩ = some (.int .i64 (k : Int))) := hide (fun w' h' => (h'.cell (p := ⟨wr.heap.size, 0, none⟩) (by show wr.heap.size < _; omega)).trans hcV)
          have HS2 : Hid (∀ (w' : World) (u : Value), w'.cell? ⟨wr.heap.size, 0, none⟩ = some (.int .i64 (k : Int)) → (w'.setCell ⟨gc, k, none⟩ u).cell? ⟨wr.heap.size, 0, none⟩ = some (.int .i64 (k : Int))) := hide (fun w' u h' => (cell_far _ _ _ _ hneg).trans h')
          have HU : Hid (∀ w', Below V.heap.size V w' → w'.cell? ⟨gc, k, none⟩ = some u0 ∧ w'.frozen? ⟨gc, k, none⟩ = false) := hide (fun w' h' => ⟨(h'.cell (p := ⟨gc, k, none⟩) (by show gc < _; omega)).trans hu0, (h'.frozen (p := ⟨gc, k, none⟩) (by show gc < _; omega)).trans hf0⟩)
          clear hu0 hf0 hcV
          go_region_held3 (fun X => X.cell? ⟨wr.heap.size, 0, none⟩ = some (.int .i64 (k : Int)))
            (first | (with_reducible exact HS0.out) | (with_reducible assumption) | (with_reducible exact HS2.out _ _ (by assumption)))
            (first | (go_at_call 181; (with_reducible refine Calls.mono c3 ?_); rintro e w2 ⟨rfl, hb2⟩; have hS := HS1.out w2 hb2; obtain ⟨hu2, hf2⟩ := HU.out w2 hb2))
          go_wp2_with fail
          go_ret2
          have hno : P = none := by rw [HP.out, if_neg (fun hh => hnd (hh k h))]
          rw [hno]
          exact ⟨rfl, (hbW.trans (hb2.mono hbW.size)).setCell (by show w.heap.size ≤ gc; omega) _⟩
      · obtain rfl : n = k := by omega
        go_wp2_with fail
        go_ret2
        rw [HP.out, if_pos HD.out]
        exact ⟨gc, n, rfl, H1.out, hn64, by omega, hR, hb⟩
end Go.Proofs.YtkbodljmkhnebaaGreatDoor.Cir
