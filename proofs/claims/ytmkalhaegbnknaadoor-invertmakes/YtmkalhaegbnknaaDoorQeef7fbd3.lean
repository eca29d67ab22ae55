import Derived.Test.YtmkalhaegbnknaaDoorQ46d9e303
set_option maxRecDepth 100000
set_option maxHeartbeats 4000000
namespace Go.Proofs.YtmkalhaegbnknaaDoor.Cir
open Go.RowKit Go.Shelf Go.Proofs.YtmkalhaegbnknaaDoor.Oct Go.Proofs.YtmkalhaegbnknaaDoor.Tok Go.Proofs.YtmkalhaegbnknaaDoor.Gt Go.Proofs.YtmkalhaegbnknaaDoor.Rf
def zr6 (w : World) (g i : Nat) : World := (((((w.setCell ⟨g, i * 6, none⟩ (.int .i64 0)).setCell ⟨g, i * 6 + 1, none⟩ (.int .i64 0)).setCell ⟨g, i * 6 + 2, none⟩ (.slice none 0 0)).setCell ⟨g, i * 6 + 3, none⟩ (.int .i64 0)).setCell ⟨g, i * 6 + 4, none⟩ (.int .i64 0)).setCell ⟨g, i * 6 + 5, none⟩ (.int .i64 0)
theorem zr6_other (w : World) (g i b : Nat) (h : b ≠ g) : (zr6 w g i).heap[b]? = w.heap[b]? := by
  unfold zr6
  rw [Below.heap_setCell _ _ _ _ h, Below.heap_setCell _ _ _ _ h, Below.heap_setCell _ _ _ _ h, Below.heap_setCell _ _ _ _ h, Below.heap_setCell _ _ _ _ h, Below.heap_setCell _ _ _ _ h]
theorem Ot.zr6 {B E : Nat} {w w' : World} (h : Ot B E w w') {g : Nat} (i : Nat) (h1 : B <= g) (h2 : g < E) : Ot B E w (zr6 w' g i) := by
  unfold Cir.zr6
  exact (((((h.setCell _ h1 h2 _).setCell _ h1 h2 _).setCell _ h1 h2 _).setCell _ h1 h2 _).setCell _ h1 h2 _).setCell _ h1 h2 _
theorem DOwn.zero {w : World} {B E gd : Nat} {n j : Nat} {ls : List Nat} (h : DOwn w B E (some ⟨gd, 0, none⟩) n j ls) {i : Nat} (hi : i < n) : (∃ u0 u1 u2 u3 u4 u5, w.cell? ⟨gd, i * 6, none⟩ = some u0 /\ w.cell? ⟨gd, i * 6 + 1, none⟩ = some u1 /\ w.cell? ⟨gd, i * 6 + 2, none⟩ = some u2 /\ w.cell? ⟨gd, i * 6 + 3, none⟩ = some u3 /\ w.cell? ⟨gd, i * 6 + 4, none⟩ = some u4 /\ w.cell? ⟨gd, i * 6 + 5, none⟩ = some u5) /\ (∀ x, w.frozen? ⟨gd, x, none⟩ = false) /\ DOwn (zr6 w gd i) B E (some ⟨gd, 0, none⟩) n j (ls.set i 0) := by
  obtain ⟨xs, h1, h2, h3, h4⟩ := h
  have hxl := h1.1
  have hex : ∀ p, p < n * 6 -> ∃ u, w.cell? ⟨gd, p, none⟩ = some u := fun p hp => ⟨_, own_at h1 p _ (List.getElem?_eq_getElem (by omega))⟩
  obtain ⟨gcs, gfr, hgc⟩ := own_cells' h1 (k := gd) rfl
  refine ⟨?_, own_free h1, ?_⟩
  . obtain ⟨u0, e0⟩ := hex (i * 6) (by omega)
    obtain ⟨u1, e1⟩ := hex (i * 6 + 1) (by omega)
    obtain ⟨u2, e2⟩ := hex (i * 6 + 2) (by omega)
    obtain ⟨u3, e3⟩ := hex (i * 6 + 3) (by omega)
    obtain ⟨u4, e4⟩ := hex (i * 6 + 4) (by omega)
    obtain ⟨u5, e5⟩ := hex (i * 6 + 5) (by omega)
    exact ⟨u0, u1, u2, u3, u4, u5, e0, e1, e2, e3, e4, e5⟩
  . refine ⟨_, own_set (own_set (own_set (own_set (own_set (own_set h1 (i * 6) (.int .i64 0)) (i * 6 + 1) (.int .i64 0)) (i * 6 + 2) (.slice none 0 0)) (i * 6 + 3) (.int .i64 0)) (i * 6 + 4) (.int .i64 0)) (i * 6 + 5) (.int .i64 0), h2, by rw [List.length_set]; exact h3, fun i' m' hm' => ?_⟩
    by_cases he : i' = i
    . subst he
      rw [List.getElem?_set_self (by omega)] at hm'
      cases hm'
      refine ⟨none, 0, [], ?_, ⟨rfl, .inl ⟨rfl, rfl⟩⟩, fun g hg => by cases hg⟩
      rw [List.getElem?_set_ne (by omega), List.getElem?_set_ne (by omega), List.getElem?_set_ne (by omega), List.getElem?_set_self (by simp; omega)]
    . rw [List.getElem?_set_ne (fun e => he e.symm)] at hm'
      obtain ⟨ao, c, ys, e1, e2, e3⟩ := h4 i' m' hm'
      refine ⟨ao, c, ys, ?_, own_of_block e2 (fun b hb => zr6_other w gd i b (fun e => ?_)), e3⟩
      . rw [List.getElem?_set_ne (by omega), List.getElem?_set_ne (by omega), List.getElem?_set_ne (by omega), List.getElem?_set_ne (by omega), List.getElem?_set_ne (by omega), List.getElem?_set_ne (by omega)]
        exact e1
      . subst e
        exact own_ne e2 hgc (by decide) hb
theorem wSame (c d : Circ) (bo ao : Option Addr) (j k : Nat) (er f : Int) (B : Nat) (hS : Szs c.ops) (w0 w : World) (hB : B <= w0.heap.size) (hO0 : OpsOwn w0 B bo c.ops.length j c.ops) (hkeep : ∀ g, B <= g -> g < w0.heap.size -> w.heap[g]? = w0.heap[g]?) (hE : w0.heap.size <= w.heap.size) (hD : Ci w d ao k) : Calls Tryd.prog 7 #[cV c bo j, .int .i64 er, cV d ao k, .int .i64 f] w fun r w' => r = .returned (.bool (decide (c = d) && decide (er = f))) /\ (∀ g, (g < B ∨ w0.heap.size <= g) -> g < w.heap.size -> w'.heap[g]? = w.heap[g]?) /\ Below B w w' := by
  have hO := hO0.kept hkeep
  have c1 := fun V (h : Below w.heap.size w V) => eSame c d bo ao j k V ((ci_szs hS hO).below h) (hD.below h)
  have HDO : Hid (DOwn w B w0.heap.size bo c.ops.length j (c.ops.map (·.qs.length))) := hide (hO0.down.kept (fun g h1 h2 => hkeep g h1 h2))
  have HLS : Hid (∀ m ∈ c.ops.map (·.qs.length), m <= 17592186044416) := hide (fun m hm => by
    obtain ⟨o, ho, rfl⟩ := List.mem_map.1 hm
    exact hS.2 o ho)
  have hnn := hS.1
  have HR : Hid (∃ r1 r2 : Bool, decide (c = d) = r1 /\ decide (er = f) = r2 /\ (er == f) = r2) := hide ⟨_, _, rfl, rfl, by cases h : decide (er = f) <;> simp_all⟩
  obtain ⟨r1, r2, h1, h2, h3⟩ := HR.out
  rw [h1, h2]
  rw [h1] at c1
  obtain ⟨q, b, l⟩ := c
  obtain ⟨q2, b2, l2⟩ := d
  unfold cV at *
  simp only at *
  generalize l.map (·.qs.length) = ls at *
  generalize l.length = n at *
  generalize l2.length = n2 at *
  clear hS hO hO0 hkeep hD h1 h2 HR
  generalize w0.heap.size = E at *
  have HB0 := hide (show Below w.heap.size w ((w.alloc (.cells #[.int .i64 q, .int .i64 b, .slice bo n j] 24)).alloc (.cells #[.int .i64 q2, .int .i64 b2, .slice ao n2 k] 24)) from (bnew _ _).trans ((bnew _ _).mono (by simp)))
  cases r1 with
  | false =>
    go_enter Tryd.func7, Tryd.ntmps7
    go_wp2_with (go_at_call 16; refine (c1 _ HB0.out).mono ?_; rintro e w1 ⟨rfl, hb1⟩; obtain ⟨m1, m2⟩ := may_keep hb1; have HM1 := hide m1; have HBw := hide (HB0.out.trans (hb1.mono HB0.out.size)); clear hb1 m1 m2)
    have HD1 : Hid (DOwn w1 B E bo n j ls) := hide (HDO.out.kept (fun g _ h2 => HBw.out.block g (by omega)))
    have HW1 : Hid (w.heap.size < w1.heap.size) := hide (Array.getElem?_eq_some_iff.1 HM1.out).1
    clear c1
    go_loopw [10, 11] (fun vi _ wr => ∃ i : Nat, vi = .int .i64 (i : Int) /\ i <= n /\ Ot B E w1 wr /\ ∃ ls : List Nat, DOwn wr B E bo n j ls /\ ∀ m ∈ ls, m <= 17592186044416) (fun vi _ _ => n - (Go.RowKit.intOf vi).toNat)
    case atStart => exact ⟨0, rfl, Nat.zero_le _, Ot.refl _ _ _, ls, HD1.out, HLS.out⟩
    case round =>
      obtain ⟨i, rfl, hi, hot, ls2, hdo, hls⟩ := hrel
      have hcd := (hot.block w.heap.size (.inr hE)).trans HM1.out
      obtain ⟨y0, y1, y2, y3⟩ := def_cells hcd
      have HOT := hide hot
      have HDD := hide hdo
      have HL2 := hide hls
      clear hot hdo hcd hls
      by_cases h : i < n
      . have hd : decide ((i : Int) < (n : Int)) = true := decide_eq_true (by omega)
        have hkk : (i : Int) < (n : Int) := by omega
        obtain ⟨mm, hm⟩ : ∃ mm, ls2[i]? = some mm := ⟨_, List.getElem?_eq_getElem (by obtain ⟨xs, -, -, e, -⟩ := HDD.out; omega)⟩
        have HM := hide hm
        have hmb : mm <= 17592186044416 := HL2.out mm (List.mem_of_getElem? hm)
        clear hm
        obtain ⟨gd, -, -, -, rfl, -⟩ := HDD.out.get HM.out
        go_wp2_with fail
        go_loopw [11] (fun vk wr => ∃ k' : Nat, vk = .int .i64 (k' : Int) /\ k' <= mm /\ Ot B E w1 wr /\ DOwn wr B E (some ⟨gd, 0, none⟩) n j ls2) (fun vk _ => mm - (Go.RowKit.intOf vk).toNat)
        case atStart => exact ⟨0, rfl, Nat.zero_le _, HOT.out, HDD.out⟩
        case round =>
          obtain ⟨k', rfl, hk', hot, hdo⟩ := hrel
          have hcd := (hot.block w.heap.size (.inr hE)).trans HM1.out
          obtain ⟨z0, z1, z2, z3⟩ := def_cells hcd
          obtain ⟨aq', cq', u, p1, p2, p3, p4, p5, p6, p7, p8⟩ := hdo.getS HM.out
          have HOT2 := hide hot
          have HDD2 := hide hdo
          by_cases hk : k' < mm
          . have hd2 : decide ((k' : Int) < (mm : Int)) = true := decide_eq_true (by omega)
            have hkk2 : (k' : Int) < (mm : Int) := by omega
            obtain ⟨g, x, rfl, r1', r2', r3', r4', r5', r6'⟩ := p8 k' hk
            have HR6 := hide r6'
            clear hot hdo hcd p7 p8 r6'
            go_wp2_with fail
            go_roundw
            case rel => exact ⟨k' + 1, by go_num, by omega, HOT2.out.setCell _ r1' r2' _, HR6.out _⟩
            case measure => simp [Go.RowKit.intOf]; omega
          . obtain rfl : mm = k' := by omega
            obtain ⟨⟨u0, u1, u2, u3, u4, u5, a0, a1, a2, a3, a4, a5⟩, afz, hz⟩ := hdo.zero h
            have HZ := hide hz
            clear hot hdo hcd a2 p5 p6 p7 p8 hz
            go_wp2_with fail
            go_roundw
            case rel => exact ⟨i + 1, by go_num, by omega, HOT2.out.zr6 i p1 p2, _, HZ.out, fun m hm => by
              rcases List.mem_or_eq_of_mem_set hm with h | h
              . exact HL2.out m h
              . omega⟩
            case measure => simp [Go.RowKit.intOf]; omega
      . obtain rfl : n = i := by omega
        have hd : decide ((n : Int) < (n : Int)) = false := decide_eq_false (by omega)
        go_wp2_with fail
        go_ret
        exact ⟨rfl, fun g hg hl => (HOT.out.block g hg).trans (HBw.out.block g hl), (HBw.out.mono (by omega)).trans HOT.out.below⟩
  | true =>
    go_enter Tryd.func7, Tryd.ntmps7
    go_wp2_with (go_at_call 16; refine (c1 _ HB0.out).mono ?_; rintro e w1 ⟨rfl, hb1⟩; obtain ⟨m1, m2⟩ := may_keep hb1; have HM1 := hide m1; have HBw := hide (HB0.out.trans (hb1.mono HB0.out.size)); clear hb1 m1 m2)
    have HD1 : Hid (DOwn w1 B E bo n j ls) := hide (HDO.out.kept (fun g _ h2 => HBw.out.block g (by omega)))
    have HW1 : Hid (w.heap.size < w1.heap.size) := hide (Array.getElem?_eq_some_iff.1 HM1.out).1
    clear c1
    go_loopw [10, 11] (fun vi _ wr => ∃ i : Nat, vi = .int .i64 (i : Int) /\ i <= n /\ Ot B E w1 wr /\ ∃ ls : List Nat, DOwn wr B E bo n j ls /\ ∀ m ∈ ls, m <= 17592186044416) (fun vi _ _ => n - (Go.RowKit.intOf vi).toNat)
    case atStart => exact ⟨0, rfl, Nat.zero_le _, Ot.refl _ _ _, ls, HD1.out, HLS.out⟩
    case round =>
      obtain ⟨i, rfl, hi, hot, ls2, hdo, hls⟩ := hrel
      have hcd := (hot.block w.heap.size (.inr hE)).trans HM1.out
      obtain ⟨y0, y1, y2, y3⟩ := def_cells hcd
      have HOT := hide hot
      have HDD := hide hdo
      have HL2 := hide hls
      clear hot hdo hcd hls
      by_cases h : i < n
      . have hd : decide ((i : Int) < (n : Int)) = true := decide_eq_true (by omega)
        have hkk : (i : Int) < (n : Int) := by omega
        obtain ⟨mm, hm⟩ : ∃ mm, ls2[i]? = some mm := ⟨_, List.getElem?_eq_getElem (by obtain ⟨xs, -, -, e, -⟩ := HDD.out; omega)⟩
        have HM := hide hm
        have hmb : mm <= 17592186044416 := HL2.out mm (List.mem_of_getElem? hm)
        clear hm
        obtain ⟨gd, -, -, -, rfl, -⟩ := HDD.out.get HM.out
        go_wp2_with fail
        go_loopw [11] (fun vk wr => ∃ k' : Nat, vk = .int .i64 (k' : Int) /\ k' <= mm /\ Ot B E w1 wr /\ DOwn wr B E (some ⟨gd, 0, none⟩) n j ls2) (fun vk _ => mm - (Go.RowKit.intOf vk).toNat)
        case atStart => exact ⟨0, rfl, Nat.zero_le _, HOT.out, HDD.out⟩
        case round =>
          obtain ⟨k', rfl, hk', hot, hdo⟩ := hrel
          have hcd := (hot.block w.heap.size (.inr hE)).trans HM1.out
          obtain ⟨z0, z1, z2, z3⟩ := def_cells hcd
          obtain ⟨aq', cq', u, p1, p2, p3, p4, p5, p6, p7, p8⟩ := hdo.getS HM.out
          have HOT2 := hide hot
          have HDD2 := hide hdo
          by_cases hk : k' < mm
          . have hd2 : decide ((k' : Int) < (mm : Int)) = true := decide_eq_true (by omega)
            have hkk2 : (k' : Int) < (mm : Int) := by omega
            obtain ⟨g, x, rfl, r1', r2', r3', r4', r5', r6'⟩ := p8 k' hk
            have HR6 := hide r6'
            clear hot hdo hcd p7 p8 r6'
            go_wp2_with fail
            go_roundw
            case rel => exact ⟨k' + 1, by go_num, by omega, HOT2.out.setCell _ r1' r2' _, HR6.out _⟩
            case measure => simp [Go.RowKit.intOf]; omega
          . obtain rfl : mm = k' := by omega
            obtain ⟨⟨u0, u1, u2, u3, u4, u5, a0, a1, a2, a3, a4, a5⟩, afz, hz⟩ := hdo.zero h
            have HZ := hide hz
            clear hot hdo hcd a2 p5 p6 p7 p8 hz
            go_wp2_with fail
            go_roundw
            case rel => exact ⟨i + 1, by go_num, by omega, HOT2.out.zr6 i p1 p2, _, HZ.out, fun m hm => by
              rcases List.mem_or_eq_of_mem_set hm with h | h
              . exact HL2.out m h
              . omega⟩
            case measure => simp [Go.RowKit.intOf]; omega
      . obtain rfl : n = i := by omega
        have hd : decide ((n : Int) < (n : Int)) = false := decide_eq_false (by omega)
        go_wp2_with fail
        go_ret
        exact ⟨rfl, fun g hg hl => (HOT.out.block g hg).trans (HBw.out.block g hl), (HBw.out.mono (by omega)).trans HOT.out.below⟩
end Go.Proofs.YtmkalhaegbnknaaDoor.Cir
