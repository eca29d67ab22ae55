/- The law CircuitChecks, as it is walked. -/
import Derived.Test.YtkbodljmkhnebaaGreatDoorMd756e51f
import Derived.Test.YtkbodljmkhnebaaGreatDoorM5bc8c963
import Derived.Test.YtkbodljmkhnebaaGreatDoorMf3483e5f
import Derived.Test.YtkbodljmkhnebaaGreatDoorM31808e84
import Derived.Test.YtkbodljmkhnebaaGreatDoorM7485edfe
/- The law CircuitChecks, as it is walked. -/
namespace Go.Proofs.YtkbodljmkhnebaaGreatDoor.Cir
open Go.RowKit Go.Shelf Go.Proofs.YtkbodljmkhnebaaGreatDoor.Oct Go.Proofs.YtkbodljmkhnebaaGreatDoor.Tok Go.Proofs.YtkbodljmkhnebaaGreatDoor.Gt

/-- Nothing has turned but blocks from B to below E. -/
structure Ot (B E : Nat) (w w' : World) : Prop where
  os : w'.os = w.os
  tape : w'.tape = w.tape
  output : w'.output = w.output
  size : w'.heap.size = w.heap.size
  block : ∀ g, g < B ∨ E ≤ g → w'.heap[g]? = w.heap[g]?
theorem Ot.refl (B E : Nat) (w : World) : Ot B E w w := ⟨rfl, rfl, rfl, rfl, fun _ _ => rfl⟩
theorem Ot.setCell {B E : Nat} {w w' : World} (h : Ot B E w w') {g : Nat} (i : Nat) (h1 : B ≤ g) (h2 : g < E) (v : Value) : Ot B E w (w'.setCell ⟨g, i, none⟩ v) :=
  ⟨h.os, h.tape, h.output, by simp [World.setCell, h.size], fun k hk => (Below.heap_setCell _ _ _ _ (fun e => by have e' : k = g := e; omega)).trans (h.block k hk)⟩
theorem Ot.below {B E : Nat} {w w' : World} (h : Ot B E w w') : Below B w w' := ⟨h.os, h.tape, h.output, Nat.le_of_eq h.size.symm, fun k hk => h.block k (.inl hk)⟩
theorem ci_own {w : World} {B : Nat} {c : Circ} {ao bo : Option Addr} {k j : Nat} {w0 : World} (hC : Ci w0 c ao k) (h : OpsOwn w B bo c.ops.length j c.ops) : Ci w c bo j := by
  obtain ⟨h1, h2⟩ := h.at.rd
  exact ⟨h1, h2, hC.len, hC.qs⟩
set_option maxRecDepth 100000 in
set_option maxHeartbeats 4000000 in
theorem xCircuitChecks (c : Circ) (ao : Option Addr) (k : Nat) (hS : Szs c.ops) (w : World) (hT : Tq w) (hC : Ci w c ao k) : Calls Tryz.prog 3 #[cV c ao k] w fun e w' => e = .returned (.bool true) ∧ Below w.heap.size w w' := by
  have C1 := hide (fun V (h : Below w.heap.size w V) => cCheck c ao k V (hT.below h).tb (hC.below h))
  have C2 := hide (fun V (h : Below w.heap.size w V) => eCheck c ao k V (hC.below h))
  have C3 := hide (fun V (h : Below w.heap.size w V) => cCounts c ao k V (hT.below h).tb (hC.below h))
  have C4 := hide (fun V (h : Below w.heap.size w V) => eCounts c ao k V (hC.below h))
  have C5 := hide (fun V (h : Below w.heap.size w V) => cHalves c ao k V (hT.below h).tb (hC.below h))
  have C6 := hide (fun V (h : Below w.heap.size w V) => eHalves c ao k V (hC.below h))
  have C7 := hide (fun V (h : Below w.heap.size w V) => cUnitary c ao k V (hC.below h))
  have C8 := hide (fun V (h : Below w.heap.size w V) => eUnitary c ao k V (hC.below h))
  have C9 := hide (fun V (h : Below w.heap.size w V) => cClifford c ao k V (hT.below h).tb (hC.below h))
  have C10 := hide (fun V (h : Below w.heap.size w V) => eClifford c ao k V (hC.below h))
  have C11 := hide (fun V (h : Below w.heap.size w V) => cCopyO c ao k hS V (hC.below h))
  have C12 := hide (fun V (h : Below w.heap.size w V) bo j (hD : Ci V c bo j) => eSame c c ao bo k j V (hC.below h) hD)
  have C13 := hide (fun V (h : Below w.heap.size w V) => eCopyO c ao k hS V (hC.below h))
  have C14 := hide (fun V (h : Below w.heap.size w V) => aAlive V (hT.below h))
  have C15 := hide (fun (V : World) (B : Nat) bo j (hO : OpsOwn V B bo c.ops.length j c.ops) => ci_own hC hO)
  rw [decide_eq_true (rfl : c = c)] at C12
  generalize (chkC c).1 = A1 at *
  generalize (chkC c).2 = A2 at *
  generalize (hlvP c.ops : Int) = A3 at *
  generalize (!c.ops.any unO) = A4 at *
  generalize (!c.ops.any clO) = A5 at *
  have HSZ := hide hS
  clear hC hT hS
  obtain ⟨q, b, ops⟩ := c
  unfold cV at *
  simp only at *
  obtain ⟨n, hn⟩ : ∃ n, ops.length = n := ⟨_, rfl⟩
  have HL := hide hn
  rw [hn] at C1 C2 C3 C4 C5 C6 C7 C8 C9 C10 C11 C12 C13 C15 ⊢
  have HNN : Hid (n ≤ 2199023255552) := hide (by rw [← hn]; exact HSZ.out.1)
  clear hn
  have HB0 := hide (bnew w (.cells #[.int .i64 q, .int .i64 b, .slice ao n k] 24))
  have HD0 := hide (heap_alloc_new w (.cells #[.int .i64 q, .int .i64 b, .slice ao n k] 24))
  go_enter Tryz.func3, Tryz.ntmps3
  go_wp2_with (first
    | (go_at_call 9; (with_reducible refine Calls.mono (C1.out _ HB0.out) ?_); rintro e w1 ⟨rfl, hb1⟩; have HB1 := hide (HB0.out.trans (hb1.mono HB0.out.size)); have HD1 := hide ((hb1.block _ (by simp)).trans HD0.out); obtain ⟨x10, x11, x12, x13⟩ := def_cells HD1.out; clear hb1)
    | (go_at_call 10; (with_reducible refine Calls.mono (C2.out _ HB1.out) ?_); rintro e w2 ⟨rfl, hb2⟩; have HB2 := hide (HB1.out.trans (hb2.mono HB1.out.size)); have HD2 := hide ((hb2.block _ x13).trans HD1.out); obtain ⟨x20, x21, x22, x23⟩ := def_cells HD2.out; clear hb2)
    | (go_at_call 11; (with_reducible refine Calls.mono (C3.out _ HB2.out) ?_); rintro e w3 ⟨g3, rfl, hR3, hg3, hb3⟩; have HB3 := hide (HB2.out.trans (hb3.mono HB2.out.size)); have HD3 := hide ((hb3.block _ x23).trans HD2.out); obtain ⟨x30, x31, x32, x33⟩ := def_cells HD3.out; have HR3 := hide hR3; clear hR3 hg3 hb3)
    | (go_at_call 12; (with_reducible refine Calls.mono (C4.out _ HB3.out) ?_); rintro e w4 ⟨g4, rfl, hR4, hg4, hb4⟩; have HB4 := hide (HB3.out.trans (hb4.mono HB3.out.size)); have HD4 := hide ((hb4.block _ x33).trans HD3.out); have HR34 := hide (HR3.out.below hb4); have HR4 := hide hR4; clear hR4 hg4 hb4 x10 x11 x12 x13 x20 x21 x22 x23 x30 x31 x32 x33))
  clear C1 C2 C3 C4 HB1 HB2 HB3 HD1 HD2 HD3 HR3
  have HK : Hid (∀ V, Below w4.heap.size w4 V → V.cell? ⟨w.heap.size, 0, none⟩ = some (.int .i64 q) ∧ V.cell? ⟨w.heap.size, 1, none⟩ = some (.int .i64 b) ∧ V.cell? ⟨w.heap.size, 2, none⟩ = some (.slice ao n k) ∧ w.heap.size < V.heap.size) := hide (fun V hV => def_cells ((hV.block _ (def_cells HD4.out).2.2.2).trans HD4.out))
  refine wp_region_quiet (C := fun W => Below w4.heap.size w4 W) (by kernel_rfl) (by kernel_rfl) (below_drewN (Below.refl _ _) 1) ?_
  repeat
    refine wpQuiet_step (fun K hK => ?_)
    go_simp
    first
      | (refine hK _ ?_; clear hK K)
      | (apply Exists.intro
         refine ⟨fun W hW => ?_, hK _ ?_⟩
         first
           | ((with_reducible refine Calls.mono (aNum _ _) ?_); rintro e x ⟨rfl, rfl⟩; exact ⟨rfl, hW⟩)
           | ((with_reducible refine Calls.mono (C5.out _ (HB4.out.trans (hW.mono HB4.out.size))) ?_); rintro e x ⟨rfl, q⟩; exact ⟨rfl, hW.trans (q.mono hW.size)⟩)
           | ((with_reducible refine Calls.mono (C6.out _ (HB4.out.trans (hW.mono HB4.out.size))) ?_); rintro e x ⟨rfl, q⟩; exact ⟨rfl, hW.trans (q.mono hW.size)⟩)
           | ((with_reducible refine Calls.mono (C7.out _ (HB4.out.trans (hW.mono HB4.out.size))) ?_); rintro e x ⟨rfl, q⟩; exact ⟨rfl, hW.trans (q.mono hW.size)⟩)
           | ((with_reducible refine Calls.mono (C8.out _ (HB4.out.trans (hW.mono HB4.out.size))) ?_); rintro e x ⟨rfl, q⟩; exact ⟨rfl, hW.trans (q.mono hW.size)⟩)
           | ((with_reducible refine Calls.mono (C9.out _ (HB4.out.trans (hW.mono HB4.out.size))) ?_); rintro e x ⟨rfl, q⟩; exact ⟨rfl, hW.trans (q.mono hW.size)⟩)
           | ((with_reducible refine Calls.mono (C10.out _ (HB4.out.trans (hW.mono HB4.out.size))) ?_); rintro e x ⟨rfl, q⟩; exact ⟨rfl, hW.trans (q.mono hW.size)⟩)
           | (obtain ⟨y0, y1, y2, y3⟩ := HK.out W hW; go_simp; rfl)
         clear hK K)
  refine wpQuiet_nil ?_
  intro W hW
  clear C5 C6 C7 C8 C9 C10
  have HBW := hide (HB4.out.trans (hW.mono HB4.out.size))
  have HDW := hide ((hW.block _ (def_cells HD4.out).2.2.2).trans HD4.out)
  have HR1 := hide (HR34.out.below hW)
  have HR2 := hide (HR4.out.below hW)
  clear HR34 HR4 HB4 HD4 HK hW
  go_wp2_with fail
  go_loopw [9] (fun vi wr => ∃ i : Nat, vi = .int .i64 (i : Int) ∧ i ≤ 21 ∧ Below W.heap.size W wr) (fun vi _ => 21 - (Go.RowKit.intOf vi).toNat)
  case atStart => exact ⟨0, rfl, Nat.zero_le _, Below.refl _ _⟩
  case round =>
    obtain ⟨i, rfl, hi, hb⟩ := hrel
    by_cases h : i < 21
    · have hd : decide ((i : Int) < 21) = true := decide_eq_true (by omega)
      have k1 := (HR1.out.below hb).cell i h
      have k2 := (HR2.out.below hb).cell i h
      unfold cntF at k1 k2
      generalize (cntL ops i : Int) = z at *
      go_wp2_with fail
      go_region
      go_wp2_with fail
      go_roundw
      case rel => exact ⟨i + 1, by go_num, by omega, hb.drew⟩
      case measure => simp [Go.RowKit.intOf]; omega
    · obtain rfl : i = 21 := by omega
      have HB5 := hide (HBW.out.trans (hb.mono HBW.out.size))
      have HD5 := hide ((hb.block _ (def_cells HDW.out).2.2.2).trans HDW.out)
      obtain ⟨x50, x51, x52, x53⟩ := def_cells HD5.out
      clear HR1 HR2 HBW HDW hb h hi
      obtain ⟨B, hB⟩ : ∃ B, wr.heap.size = B := ⟨_, rfl⟩
      have HSB : Hid (w.heap.size ≤ B) := hide (by rw [← hB]; exact HB5.out.size)
      have HE5 := hide hB
      clear hB
      go_wp2_with (first
        | (go_at_call 20; (with_reducible refine Calls.mono (C11.out _ HB5.out) ?_); rintro e w6 ⟨bo, j, rfl, hO6, hb6⟩; rw [HE5.out] at hO6; have HB6 := hide (HB5.out.trans (hb6.mono HB5.out.size)); have HD6 := hide ((hb6.block _ x53).trans HD5.out); have HO6 := hide hO6; have HZ6 : Hid (B ≤ w6.heap.size) := hide (by rw [← HE5.out]; exact hb6.size); obtain ⟨x60, x61, x62, x63⟩ := def_cells HD6.out; have HB7 := hide (HB6.out.trans ((bnew w6 (.cells #[.int .i64 q, .int .i64 b, .slice bo n j] 24)).mono HB6.out.size)); have HD7 := hide ((Below.heap_alloc w6 (.cells #[.int .i64 q, .int .i64 b, .slice bo n j] 24) _ x63).trans HD6.out); have HD7d := hide (heap_alloc_new w6 (.cells #[.int .i64 q, .int .i64 b, .slice bo n j] 24)); clear hb6 hO6)
        | (go_at_call 21; (with_reducible refine Calls.mono (C12.out _ HB7.out bo j (C15.out _ _ bo j (HO6.out.below (bnew _ _)))) ?_); rintro e w8 ⟨rfl, hb8⟩; have HB8 := hide (HB7.out.trans (hb8.mono HB7.out.size)); have HD8 := hide ((hb8.block _ (def_cells HD7.out).2.2.2).trans HD7.out); have HD8d := hide ((hb8.block _ (def_cells HD7d.out).2.2.2).trans HD7d.out); have HBel8 := hide hb8; obtain ⟨x80, x81, x82, x83⟩ := def_cells HD8.out; clear hb8)
        | (go_at_call 22; (with_reducible refine Calls.mono (C13.out _ HB8.out) ?_); rintro e w9 ⟨bo2, j2, rfl, hO9, hb9⟩; have HB9 := hide (HB8.out.trans (hb9.mono HB8.out.size)); have HD9 := hide ((hb9.block _ x83).trans HD8.out); have HD9d := hide ((hb9.block _ (def_cells HD8d.out).2.2.2).trans HD8d.out); have HO9 := hide hO9; have HBel9 := hide hb9; obtain ⟨x90, x91, x92, x93⟩ := def_cells HD9.out; clear hb9 hO9))
      have HBS := hide (HB9.out.trans ((bnew w9 (.cells #[.int .i64 q, .int .i64 b, .slice bo2 n j2] 24)).mono HB9.out.size))
      have HDS := hide ((Below.heap_alloc w9 (.cells #[.int .i64 q, .int .i64 b, .slice bo2 n j2] 24) _ x93).trans HD9.out)
      have HDSd := hide ((Below.heap_alloc w9 (.cells #[.int .i64 q, .int .i64 b, .slice bo2 n j2] 24) _ (def_cells HD9d.out).2.2.2).trans HD9d.out)
      have HDSk := hide (heap_alloc_new w9 (.cells #[.int .i64 q, .int .i64 b, .slice bo2 n j2] 24))
      have HOS := hide (HO9.out.below (bnew w9 (.cells #[.int .i64 q, .int .i64 b, .slice bo2 n j2] 24)))
      have HZS : Hid (w6.heap.size ≤ w8.heap.size ∧ w8.heap.size ≤ w9.heap.size) := hide ⟨by have := HBel8.out.size; simp only [World.size_alloc] at this; omega, HBel9.out.size⟩
      have HDO : Hid (DOwn (w9.alloc (.cells #[.int .i64 q, .int .i64 b, .slice bo2 n j2] 24)) B w6.heap.size bo n j (ops.map (·.qs.length))) := hide (HO6.out.down.kept fun g' h1 h2 => by
        have z := HZS.out
        rw [Below.heap_alloc _ _ _ (by omega), HBel9.out.block g' (by omega), HBel8.out.block g' (by simp; omega), Below.heap_alloc _ _ _ h2])
      clear x50 x51 x52 x53 x60 x61 x62 x63 x80 x81 x82 x83 x90 x91 x92 x93
      generalize hWS : (w9.alloc (.cells #[.int .i64 q, .int .i64 b, .slice bo2 n j2] 24)) = WS at *
      clear hWS
      go_loopw [12] (fun vi wr => ∃ i : Nat, vi = .int .i64 (i : Int) ∧ i ≤ n ∧ Ot B w6.heap.size WS wr ∧ DOwn wr B w6.heap.size bo n j (ops.map (·.qs.length))) (fun vi _ => n - (Go.RowKit.intOf vi).toNat)
      case atStart => exact ⟨0, rfl, Nat.zero_le _, Ot.refl _ _ _, HDO.out⟩
      case round =>
        obtain ⟨i, rfl, hi, hot, hdo⟩ := hrel
        have hcd := (hot.block _ (.inr (Nat.le_refl _))).trans HDSd.out
        obtain ⟨y0, y1, y2, y3⟩ := def_cells hcd
        have HOT := hide hot
        have HDD := hide hdo
        clear hot hdo hcd
        by_cases h : i < n
        · have hd : decide ((i : Int) < (n : Int)) = true := decide_eq_true (by omega)
          have hkk : (i : Int) < (n : Int) := by omega
          obtain ⟨m, hm⟩ : ∃ m, (ops.map (·.qs.length))[i]? = some m := ⟨_, List.getElem?_eq_getElem (by rw [List.length_map, HL.out]; exact h)⟩
          have HM := hide hm
          have hmb : m ≤ 17592186044416 := by
            rw [List.getElem?_map] at hm
            obtain ⟨o, ho, rfl⟩ := Option.map_eq_some_iff.1 hm
            exact HSZ.out.2 o (List.mem_of_getElem? ho)
          have hnb := HNN.out
          clear hm
          obtain ⟨gd, -, -, -, rfl, -⟩ := HDD.out.get HM.out
          go_wp2_with fail
          go_loopw [13] (fun vk wr => ∃ k' : Nat, vk = .int .i64 (k' : Int) ∧ k' ≤ m ∧ Ot B w6.heap.size WS wr ∧ DOwn wr B w6.heap.size (some ⟨gd, 0, none⟩) n j (ops.map (·.qs.length))) (fun vk _ => m - (Go.RowKit.intOf vk).toNat)
          case atStart => exact ⟨0, rfl, Nat.zero_le _, HOT.out, HDD.out⟩
          case round =>
            obtain ⟨k', rfl, hk', hot, hdo⟩ := hrel
            have hcd := (hot.block _ (.inr (Nat.le_refl _))).trans HDSd.out
            obtain ⟨z0, z1, z2, z3⟩ := def_cells hcd
            obtain ⟨aq, cq, u, p1, p2, p3, p4, p5, p6, p7, p8⟩ := hdo.getS HM.out
            have HOT2 := hide hot
            have HP7 := hide p7
            by_cases hk : k' < m
            · have hd2 : decide ((k' : Int) < (m : Int)) = true := decide_eq_true (by omega)
              have hkk2 : (k' : Int) < (m : Int) := by omega
              obtain ⟨g, x, rfl, r1, r2, r3, r4, r5, r6⟩ := p8 k' hk
              have HR6 := hide r6
              clear hot hdo hcd p7 p8 r6
              go_wp2_with fail
              go_roundw
              case rel => exact ⟨k' + 1, by go_num, by omega, HOT2.out.setCell _ r1 r2 _, HR6.out _⟩
              case measure => simp [Go.RowKit.intOf]; omega
            · obtain rfl : m = k' := by omega
              clear hot hdo hcd p7 p8
              go_wp2_with fail
              go_roundw
              case rel => exact ⟨i + 1, by go_num, by omega, HOT2.out.setCell _ p1 p2 _, HP7.out _⟩
              case measure => simp [Go.RowKit.intOf]; omega
        · obtain rfl : n = i := by omega
          have HBF : Hid (Below w.heap.size w wr) := hide (HBS.out.trans (HOT.out.below.mono HSB.out))
          have HOF := hide (HOS.out.kept (w' := wr) fun g' h1 _ => HOT.out.block g' (.inr (by have := HZS.out; omega)))
          obtain ⟨v0, v1, v2, v3⟩ := def_cells ((HOT.out.block _ (.inl (Nat.lt_of_lt_of_le (def_cells HD5.out).2.2.2 (Nat.le_of_eq HE5.out)))).trans HDS.out)
          obtain ⟨t0, t1, t2, t3⟩ := def_cells ((HOT.out.block _ (.inr (by have := HZS.out; omega))).trans HDSk.out)
          go_wp2_with (first
            | (go_at_call 21; (with_reducible refine Calls.mono (C12.out _ HBF.out bo2 j2 (C15.out _ _ bo2 j2 HOF.out)) ?_); rintro e w10 ⟨rfl, hb10⟩; have HB10 := hide (HBF.out.trans (hb10.mono HBF.out.size)); clear hb10)
            | (go_at_call 23; (with_reducible refine Calls.mono (C14.out _ HB10.out) ?_); rintro e w11 ⟨rfl, hb11⟩; have HB11 := hide (HB10.out.trans (hb11.mono HB10.out.size)); clear hb11))
          go_ret
          exact ⟨rfl, HB11.out⟩
end Go.Proofs.YtkbodljmkhnebaaGreatDoor.Cir
