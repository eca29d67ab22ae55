import Derived.Test.YtpehekonjdneaaaGreatDoorK780cc812
set_option maxRecDepth 100000
set_option maxHeartbeats 2000000
namespace Go.Proofs.YtpehekonjdneaaaGreatDoor.Tbl
open Go.RowKit Go.Shelf Go.Proofs.YtpehekonjdneaaaGreatDoor.Pau Go.Proofs.YtpehekonjdneaaaGreatDoor.Gt
def orX (x : Nat) (to' : List Int) : Nat -> Nat
  | 0 => 0
  | k + 1 => orX x to' k ||| (bt x k * 2 ^ (to'.getD k 0).toNat)
def ordP (to' : List Int) (p : P) : P := ⟨p.n, orX p.x to' p.n.toNat, orX p.z to' p.n.toNat, p.ph⟩
theorem orX_lt {to' : List Int} (h : ∀ q ∈ to', 0 <= q /\ q < 64) (x : Nat) : ∀ k, k <= to'.length -> orX x to' k < 18446744073709551616
  | 0, _ => by rw [orX]; decide
  | k + 1, hk => by
    have ih := orX_lt h x k (by omega)
    have e : to'[k]? = some (to'.getD k 0) := by rw [List.getD_eq_getElem?_getD, List.getElem?_eq_getElem (by omega)]; rfl
    have hq := h _ (List.mem_of_getElem? e)
    have hb := bt_lt x k
    rw [orX]
    have hy : bt x k = 0 ∨ bt x k = 1 := by omega
    rcases hy with hy | hy <;> rw [hy]
    . rw [Nat.zero_mul, Nat.or_zero]; exact ih
    . rw [Nat.one_mul]; exact or_lt64 ih (by omega)
structure Oo (w V : World) (p : P) (x z : Nat) : Prop where
  pp : At4 V w.heap.size (.int .i64 p.n) (.int .u64 (p.x : Int)) (.int .u64 (p.z : Int)) (.int .i64 p.ph)
  rs : At4 V (w.heap.size + 1) (.int .i64 0) (.int .u64 0) (.int .u64 0) (.int .i64 0)
  mv : At4 V (w.heap.size + 1 + 1) (.int .i64 p.n) (.int .u64 (x : Int)) (.int .u64 (z : Int)) (.int .i64 p.ph)
  bw : Below w.heap.size w V
theorem Oo.keep {w V V' : World} {p : P} {x z : Nat} (h : Oo w V p x z) (hb : Below V.heap.size V V') : Oo w V' p x z := ⟨h.pp.below hb, h.rs.below hb, h.mv.below hb, bkp h.bw hb⟩
theorem Oo.setX {w V : World} {p : P} {x z : Nat} (h : Oo w V p x z) (y : Nat) : Oo w (V.setCell ⟨w.heap.size + 1 + 1, 1, none⟩ (.int .u64 (y : Int))) p y z := by
  have far : ∀ k, k ≠ w.heap.size + 1 + 1 -> (V.setCell ⟨w.heap.size + 1 + 1, 1, none⟩ (.int .u64 (y : Int))).heap[k]? = V.heap[k]? := fun k hk => Below.heap_setCell _ _ _ _ hk
  refine ⟨(far _ (by omega)).trans h.pp, (far _ (by omega)).trans h.rs, ?_, h.bw.setCell (p := ⟨w.heap.size + 1 + 1, 1, none⟩) (by show w.heap.size <= w.heap.size + 1 + 1; omega) _⟩
  have := h.mv
  unfold At4 at this ⊢
  simp [World.setCell, Array.getElem?_modify, this]
theorem Oo.setZ {w V : World} {p : P} {x z : Nat} (h : Oo w V p x z) (y : Nat) : Oo w (V.setCell ⟨w.heap.size + 1 + 1, 2, none⟩ (.int .u64 (y : Int))) p x y := by
  have far : ∀ k, k ≠ w.heap.size + 1 + 1 -> (V.setCell ⟨w.heap.size + 1 + 1, 2, none⟩ (.int .u64 (y : Int))).heap[k]? = V.heap[k]? := fun k hk => Below.heap_setCell _ _ _ _ hk
  refine ⟨(far _ (by omega)).trans h.pp, (far _ (by omega)).trans h.rs, ?_, h.bw.setCell (p := ⟨w.heap.size + 1 + 1, 2, none⟩) (by show w.heap.size <= w.heap.size + 1 + 1; omega) _⟩
  have := h.mv
  unfold At4 at this ⊢
  simp [World.setCell, Array.getElem?_modify, this]
theorem two444 (w : World) (a b c d a1 b1 c1 d1 a2 b2 c2 d2 : Value) : At4 (((w.alloc (.cells #[a, b, c, d] 25)).alloc (.cells #[a1, b1, c1, d1] 25)).alloc (.cells #[a2, b2, c2, d2] 25)) w.heap.size a b c d /\ At4 (((w.alloc (.cells #[a, b, c, d] 25)).alloc (.cells #[a1, b1, c1, d1] 25)).alloc (.cells #[a2, b2, c2, d2] 25)) (w.heap.size + 1) a1 b1 c1 d1 /\ At4 (((w.alloc (.cells #[a, b, c, d] 25)).alloc (.cells #[a1, b1, c1, d1] 25)).alloc (.cells #[a2, b2, c2, d2] 25)) (w.heap.size + 1 + 1) a2 b2 c2 d2 := three_new w _ _ _
theorem infoP4 : (Tryz.prog.info? 25).map (·.size) = some 4 := by kernel_rfl
theorem all4 (n : Int) (x z : Int) (f : Int) : (#[Value.int .i64 n, .int .u64 x, .int .u64 z, .int .i64 f]).all (·.oneCell') = true := by simp [Value.oneCell']
theorem tOrdered (p : P) (hp : Wd p) (N : Nat) (hN : p.n = (N : Int)) (h64 : N <= 64) (l : List Int) (hl : l.length = N) (hin : ∀ q ∈ l, 0 <= q /\ q < 64) (ao : Option Addr) (c : Nat) (w : World) (hNs : Ns w ao l) :
    Calls Tryz.prog 54 #[pV p, .slice ao N c] w fun e w' => e = .returned (pV (ordP l p)) /\ Below w.heap.size w w' := by
  unfold ordP
  rw [hN, Int.toNat_natCast]
  have HOX : Hid (∀ x k, k <= N -> orX x l k < 18446744073709551616) := hide (fun x k hk => orX_lt hin x k (by omega))
  have HST : Hid (∀ x k, orX x l (k + 1) = orX x l k ||| (bt x k * 2 ^ (l.getD k 0).toNat)) := hide (fun x k => rfl)
  have HZ0 : Hid (∀ x, orX x l 0 = 0) := hide (fun x => rfl)
  have HNC : Hid (∀ i, i < N -> ∃ (tq : Nat), tq < 64 /\ l.getD i 0 = (tq : Int) /\ ∃ g off, ao = some ⟨g, off, none⟩ /\ ∀ V, Below w.heap.size w V -> V.cell? ⟨g, off + i, none⟩ = some (.int .i64 (tq : Int)) /\ g < V.heap.size) := hide (fun i hi => by
    have e : l[i]? = some (l.getD i 0) := by rw [List.getD_eq_getElem?_getD, List.getElem?_eq_getElem (by omega)]; rfl
    have hq := hin _ (List.mem_of_getElem? e)
    have hne : l ≠ [] := fun e => by rw [e] at hl; simp at hl; omega
    obtain ⟨g, off, e2, hc⟩ := hNs.resolve_left hne
    refine ⟨(l.getD i 0).toNat, by omega, by omega, g, off, e2, fun V hb => ?_⟩
    have h1 := hc i _ e
    have hlt : g < w.heap.size := World.block_lt_of_cell? _ _ h1
    refine ⟨?_, Nat.lt_of_lt_of_le hlt hb.size⟩
    rw [Int.toNat_of_nonneg hq.1]
    exact (hb.cell (p := ⟨g, off + i, none⟩) hlt).trans h1)
  have hsh := shl_one
  have hor := or_run
  have hbr := Pau.bit_run
  have hbl := bt_lt
  obtain ⟨pn, px, pz, pf⟩ := p
  simp only at hN hp
  subst hN
  obtain ⟨k1, k2, k3⟩ := two444 w (.int .i64 (N : Int)) (.int .u64 (px : Int)) (.int .u64 (pz : Int)) (.int .i64 pf) (.int .i64 0) (.int .u64 0) (.int .u64 0) (.int .i64 0) (.int .i64 (N : Int)) (.int .u64 0) (.int .u64 0) (.int .i64 pf)
  have HI0 : Hid (Oo w (((w.alloc (.cells #[.int .i64 (N : Int), .int .u64 (px : Int), .int .u64 (pz : Int), .int .i64 pf] 25)).alloc (.cells #[.int .i64 0, .int .u64 0, .int .u64 0, .int .i64 0] 25)).alloc (.cells #[.int .i64 (N : Int), .int .u64 0, .int .u64 0, .int .i64 pf] 25)) ⟨(N : Int), px, pz, pf⟩ 0 0) := hide ⟨k1, k2, k3, bkp (bkp (bnew w _) (bnew _ _)) (bnew _ _)⟩
  generalize hGX : orX px l = FX at *
  generalize hGZ : orX pz l = FZ at *
  have HSX : Hid (∀ k, FX (k + 1) = FX k ||| (bt px k * 2 ^ (l.getD k 0).toNat)) := hide (fun k => by rw [← hGX]; exact HST.out px k)
  have HSZ : Hid (∀ k, FZ (k + 1) = FZ k ||| (bt pz k * 2 ^ (l.getD k 0).toNat)) := hide (fun k => by rw [← hGZ]; exact HST.out pz k)
  have HFX : Hid (∀ k, k <= N -> FX k < 18446744073709551616 /\ FZ k < 18446744073709551616) := hide (fun k hk => ⟨by rw [← hGX]; exact HOX.out px k hk, by rw [← hGZ]; exact HOX.out pz k hk⟩)
  have HF0 : Hid (FX 0 = 0 /\ FZ 0 = 0) := hide ⟨by rw [← hGX]; exact HZ0.out px, by rw [← hGZ]; exact HZ0.out pz⟩
  have HPD := hide hp
  unfold pV
  simp only
  clear hGX hGZ HST HOX HZ0 k1 k2 k3 hp hin hNs hl
  rcases Nat.eq_zero_or_pos N with hz | hpos
  . have HZ := hide hz
    clear hz
    obtain ⟨x0, x1, x2, x3, x4⟩ := HI0.out.pp.cells
    simp only at x0 x1 x2 x3
    go_enter Tryz.func54, Tryz.ntmps54
    go_wp2_with fail
    clear x0 x1 x2 x3 x4
    generalize ((w.alloc (.cells #[.int .i64 (N : Int), .int .u64 (px : Int), .int .u64 (pz : Int), .int .i64 pf] 25)).alloc (.cells #[.int .i64 0, .int .u64 0, .int .u64 0, .int .i64 0] 25)).alloc (.cells #[.int .i64 (N : Int), .int .u64 0, .int .u64 0, .int .i64 pf] 25) = V0 at *
    go_loopw [14] (fun vi wr => ∃ i : Nat, vi = .int .i64 (i : Int) /\ i <= N /\ Hid (Oo w wr ⟨(N : Int), px, pz, pf⟩ (FX i) (FZ i))) (fun vi _ => N - (Go.RowKit.intOf vi).toNat)
    case atStart => exact ⟨0, rfl, Nat.zero_le _, hide (by rw [HF0.out.1, HF0.out.2]; exact HI0.out)⟩
    case round =>
      obtain ⟨i, rfl, hi, HI⟩ := hrel
      clear HI0
      obtain ⟨x0, x1, x2, x3, x4⟩ := HI.out.pp.cells
      simp only at x0 x1 x2 x3
      by_cases h : i < N
      . exact absurd h (by have := HZ.out; omega)
      . obtain rfl : N = i := by omega
        have hd : decide ((N : Int) < (N : Int)) = false := decide_eq_false (by omega)
        obtain ⟨y0, y1, y2, y3, y4⟩ := HI.out.mv.cells
        have hR := HI.out.rs
        have HBW := hide HI.out.bw
        unfold At4 at hR
        simp only at y0 y1 y2 y3
        clear HI x0 x1 x2 x3 x4
        go_wp2_with (first
          | (refine wpList_store_row rfl _ _ _ rfl (w.heap.size + 1) _ rfl rfl _ _ hR (by exact infoP4) (by rfl) (all4 _ _ _ _) ?_))
        refine bodyPost_ret (results_c rfl _ _ (w.heap.size + 1) _ _ _ _ rfl (setRow_heap _ _ _ _ _ _ hR) Tryz.underlying25 rfl (by exact infoP4)) rfl ?_
        exact ⟨rfl, below_setRow HBW.out (by omega) _⟩
  . obtain ⟨-, -, -, gq, oq, rfl, -⟩ := HNC.out 0 hpos
    have HNC' : Hid (∀ i, i < N -> ∃ (tq : Nat), tq < 64 /\ l.getD i 0 = (tq : Int) /\ ∀ V, Below w.heap.size w V -> V.cell? ⟨gq, oq + i, none⟩ = some (.int .i64 (tq : Int)) /\ gq < V.heap.size) := hide (fun i hi => by
      obtain ⟨tq, h1, h2, g', o', e, h3⟩ := HNC.out i hi
      cases e
      exact ⟨tq, h1, h2, h3⟩)
    clear HNC hpos
    obtain ⟨x0, x1, x2, x3, x4⟩ := HI0.out.pp.cells
    simp only at x0 x1 x2 x3
    go_enter Tryz.func54, Tryz.ntmps54
    go_wp2_with fail
    clear x0 x1 x2 x3 x4
    generalize ((w.alloc (.cells #[.int .i64 (N : Int), .int .u64 (px : Int), .int .u64 (pz : Int), .int .i64 pf] 25)).alloc (.cells #[.int .i64 0, .int .u64 0, .int .u64 0, .int .i64 0] 25)).alloc (.cells #[.int .i64 (N : Int), .int .u64 0, .int .u64 0, .int .i64 pf] 25) = V0 at *
    go_loopw [14] (fun vi wr => ∃ i : Nat, vi = .int .i64 (i : Int) /\ i <= N /\ Hid (Oo w wr ⟨(N : Int), px, pz, pf⟩ (FX i) (FZ i))) (fun vi _ => N - (Go.RowKit.intOf vi).toNat)
    case atStart => exact ⟨0, rfl, Nat.zero_le _, hide (by rw [HF0.out.1, HF0.out.2]; exact HI0.out)⟩
    case round =>
      obtain ⟨i, rfl, hi, HI⟩ := hrel
      clear HI0
      obtain ⟨x0, x1, x2, x3, x4⟩ := HI.out.pp.cells
      simp only at x0 x1 x2 x3
      by_cases h : i < N
      . have hd : decide ((i : Int) < (N : Int)) = true := decide_eq_true (by omega)
        obtain ⟨tq, ht64, htq, hT⟩ := HNC'.out i h
        have HT := hide hT
        have hsX := HSX.out i
        have hsZ := HSZ.out i
        rw [htq, Int.toNat_natCast] at hsX hsZ
        have hcX := (HFX.out i hi).1
        have hcZ := (HFX.out i hi).2
        have b1 := hbr px i HPD.out.1
        have b2 := hbr pz i HPD.out.2
        have l1 := hbl px i
        have l2 := hbl pz i
        have ht65 : (tq : Int) <= 64 := by omega
        have hi65 : (i : Int) <= 64 := by omega
        have s1 := hsh tq ht64
        skip
        skip
        obtain ⟨nx, hnx⟩ : ∃ y, FX (i + 1) = y := ⟨_, rfl⟩
        obtain ⟨nz, hnz⟩ : ∃ y, FZ (i + 1) = y := ⟨_, rfl⟩
        rw [hnx] at hsX
        rw [hnz] at hsZ
        have HNX := hide hnx
        have HNZ := hide hnz
        clear hnx hnz hT htq hbr hbl hsh HSX HSZ HFX HF0
        generalize FX i = cx at *
        generalize FZ i = cz at *
        generalize bt px i = bX at *
        generalize bt pz i = bZ at *
        have hb1 : bX = 0 ∨ bX = 1 := by omega
        have hb2 : bZ = 0 ∨ bZ = 1 := by omega
        clear l1 l2
        rcases hb1 with rfl | rfl <;> rcases hb2 with rfl | rfl
        . have oX : bits .or .u64 (cx : Int) 0 = (nx : Int) := by have := u64_or_nat cx 0 hcX (by decide); rw [hsX, Nat.zero_mul]; exact this
          have oZ : bits .or .u64 (cz : Int) 0 = (nz : Int) := by have := u64_or_nat cz 0 hcZ (by decide); rw [hsZ, Nat.zero_mul]; exact this
          clear hsX hsZ hor
          go_wp2_with fail
          clear x0 x1 x2 x3 x4
          have HCX : Hid (∀ W, Below wr.heap.size wr W -> (W.cell? ⟨w.heap.size, 1, none⟩ = some (.int .u64 (px : Int)) /\ W.cell? ⟨w.heap.size, 2, none⟩ = some (.int .u64 (pz : Int))) /\ W.cell? ⟨w.heap.size + 1 + 1, 1, none⟩ = some (.int .u64 (cx : Int)) /\ W.cell? ⟨gq, oq + i, none⟩ = some (.int .i64 (tq : Int)) /\ gq < W.heap.size /\ w.heap.size < W.heap.size /\ w.heap.size + 1 + 1 < W.heap.size) := hide (fun W hW => by
            obtain ⟨-, k1, k2, -, k4⟩ := (HI.out.pp.below hW).cells
            obtain ⟨-, l1, l2, -, l4⟩ := (HI.out.mv.below hW).cells
            obtain ⟨j1, j2⟩ := HT.out W (bkp HI.out.bw hW)
            exact ⟨⟨k1, k2⟩, l1, j1, j2, k4, l4⟩)
          refine wp_region_quiet_last (C := fun W => Below wr.heap.size wr W) (by kernel_rfl) 14 rfl (by kernel_rfl) (by kernel_rfl) (bdrew (Below.refl _ _) 1) ?_
          simp only [List.take_succ_cons, List.take_zero]
          repeat
            refine wpQuiet_step (fun K hK => ?_)
            go_simp
            first
              | (refine hK _ ?_; clear hK K)
              | (apply Exists.intro
                 refine ⟨fun W hW => ?_, hK _ ?_⟩
                 first
                   | (obtain ⟨⟨p0, p1⟩, a0, b0, e1, e2, e3⟩ := HCX.out W hW; go_simp; rfl)
                 clear hK K)
          refine wpQuiet_nil ?_
          intro WX hWX
          have HXX : Hid (Oo w (WX.setCell ⟨w.heap.size + 1 + 1, 1, none⟩ (.int .u64 (nx : Int))) ⟨(N : Int), px, pz, pf⟩ nx cz) := hide ((HI.out.keep hWX).setX nx)
          obtain ⟨y0, y1, y2, y3, y4⟩ := (HI.out.mv.below hWX).cells
          have yf : ∀ j, WX.frozen? ⟨w.heap.size + 1 + 1, j, none⟩ = false := fun j => by have := HI.out.mv.below hWX; unfold At4 at this; simp [World.frozen?, this]
          simp only at y0 y1 y2 y3
          clear hWX HCX HI
          go_upto_region 6 with fail
          first | rw [oX] | skip
          generalize WX.setCell ⟨w.heap.size + 1 + 1, 1, none⟩ (.int .u64 (nx : Int)) = VX at *
          clear y0 y1 y2 y3 y4 yf
          have HCZ : Hid (∀ W, Below VX.heap.size VX W -> (W.cell? ⟨w.heap.size, 1, none⟩ = some (.int .u64 (px : Int)) /\ W.cell? ⟨w.heap.size, 2, none⟩ = some (.int .u64 (pz : Int))) /\ W.cell? ⟨w.heap.size + 1 + 1, 2, none⟩ = some (.int .u64 (cz : Int)) /\ W.cell? ⟨gq, oq + i, none⟩ = some (.int .i64 (tq : Int)) /\ gq < W.heap.size /\ w.heap.size < W.heap.size /\ w.heap.size + 1 + 1 < W.heap.size) := hide (fun W hW => by
            obtain ⟨-, k1, k2, -, k4⟩ := (HXX.out.pp.below hW).cells
            obtain ⟨-, l1, l2, -, l4⟩ := (HXX.out.mv.below hW).cells
            obtain ⟨j1, j2⟩ := HT.out W (bkp HXX.out.bw hW)
            exact ⟨⟨k1, k2⟩, l2, j1, j2, k4, l4⟩)
          refine wp_region_quiet_last (C := fun W => Below VX.heap.size VX W) (by kernel_rfl) 14 rfl (by kernel_rfl) (by kernel_rfl) (bdrew (Below.refl _ _) 1) ?_
          simp only [List.take_succ_cons, List.take_zero]
          repeat
            refine wpQuiet_step (fun K hK => ?_)
            go_simp
            first
              | (refine hK _ ?_; clear hK K)
              | (apply Exists.intro
                 refine ⟨fun W hW => ?_, hK _ ?_⟩
                 first
                   | (obtain ⟨⟨p0, p1⟩, a0, b0, e1, e2, e3⟩ := HCZ.out W hW; go_simp; rfl)
                 clear hK K)
          refine wpQuiet_nil ?_
          intro WZ hWZ
          have HXZ : Hid (Oo w (WZ.setCell ⟨w.heap.size + 1 + 1, 2, none⟩ (.int .u64 (nz : Int))) ⟨(N : Int), px, pz, pf⟩ nx nz) := hide ((HXX.out.keep hWZ).setZ nz)
          obtain ⟨y0, y1, y2, y3, y4⟩ := (HXX.out.mv.below hWZ).cells
          have yf : ∀ j, WZ.frozen? ⟨w.heap.size + 1 + 1, j, none⟩ = false := fun j => by have := HXX.out.mv.below hWZ; unfold At4 at this; simp [World.frozen?, this]
          simp only at y0 y1 y2 y3
          clear hWZ HCZ HXX
          go_wp2_with fail
          first | rw [oZ] | skip
          generalize WZ.setCell ⟨w.heap.size + 1 + 1, 2, none⟩ (.int .u64 (nz : Int)) = VZ at *
          go_roundw
          case rel => exact ⟨i + 1, by go_num, by omega, hide (by rw [HNX.out, HNZ.out]; exact HXZ.out)⟩
          case measure => simp [Go.RowKit.intOf]; omega
        . have oX : bits .or .u64 (cx : Int) 0 = (nx : Int) := by have := u64_or_nat cx 0 hcX (by decide); rw [hsX, Nat.zero_mul]; exact this
          have oZ : bits .or .u64 (cz : Int) ((2 : Int) ^ tq) = (nz : Int) := by rw [hsZ, Nat.one_mul, show ((2 : Int) ^ tq) = ((2 ^ tq : Nat) : Int) by simp]; exact hor cz tq hcZ ht64
          have oZ' : bits .or .u64 (cz : Int) ((2 ^ tq : Nat) : Int) = (nz : Int) := by rw [hsZ, Nat.one_mul]; exact hor cz tq hcZ ht64
          clear hsX hsZ hor
          go_wp2_with fail
          clear x0 x1 x2 x3 x4
          have HCX : Hid (∀ W, Below wr.heap.size wr W -> (W.cell? ⟨w.heap.size, 1, none⟩ = some (.int .u64 (px : Int)) /\ W.cell? ⟨w.heap.size, 2, none⟩ = some (.int .u64 (pz : Int))) /\ W.cell? ⟨w.heap.size + 1 + 1, 1, none⟩ = some (.int .u64 (cx : Int)) /\ W.cell? ⟨gq, oq + i, none⟩ = some (.int .i64 (tq : Int)) /\ gq < W.heap.size /\ w.heap.size < W.heap.size /\ w.heap.size + 1 + 1 < W.heap.size) := hide (fun W hW => by
            obtain ⟨-, k1, k2, -, k4⟩ := (HI.out.pp.below hW).cells
            obtain ⟨-, l1, l2, -, l4⟩ := (HI.out.mv.below hW).cells
            obtain ⟨j1, j2⟩ := HT.out W (bkp HI.out.bw hW)
            exact ⟨⟨k1, k2⟩, l1, j1, j2, k4, l4⟩)
          refine wp_region_quiet_last (C := fun W => Below wr.heap.size wr W) (by kernel_rfl) 14 rfl (by kernel_rfl) (by kernel_rfl) (bdrew (Below.refl _ _) 1) ?_
          simp only [List.take_succ_cons, List.take_zero]
          repeat
            refine wpQuiet_step (fun K hK => ?_)
            go_simp
            first
              | (refine hK _ ?_; clear hK K)
              | (apply Exists.intro
                 refine ⟨fun W hW => ?_, hK _ ?_⟩
                 first
                   | (obtain ⟨⟨p0, p1⟩, a0, b0, e1, e2, e3⟩ := HCX.out W hW; go_simp; rfl)
                 clear hK K)
          refine wpQuiet_nil ?_
          intro WX hWX
          have HXX : Hid (Oo w (WX.setCell ⟨w.heap.size + 1 + 1, 1, none⟩ (.int .u64 (nx : Int))) ⟨(N : Int), px, pz, pf⟩ nx cz) := hide ((HI.out.keep hWX).setX nx)
          obtain ⟨y0, y1, y2, y3, y4⟩ := (HI.out.mv.below hWX).cells
          have yf : ∀ j, WX.frozen? ⟨w.heap.size + 1 + 1, j, none⟩ = false := fun j => by have := HI.out.mv.below hWX; unfold At4 at this; simp [World.frozen?, this]
          simp only at y0 y1 y2 y3
          clear hWX HCX HI
          go_upto_region 6 with fail
          first | rw [oX] | skip
          generalize WX.setCell ⟨w.heap.size + 1 + 1, 1, none⟩ (.int .u64 (nx : Int)) = VX at *
          clear y0 y1 y2 y3 y4 yf
          have HCZ : Hid (∀ W, Below VX.heap.size VX W -> (W.cell? ⟨w.heap.size, 1, none⟩ = some (.int .u64 (px : Int)) /\ W.cell? ⟨w.heap.size, 2, none⟩ = some (.int .u64 (pz : Int))) /\ W.cell? ⟨w.heap.size + 1 + 1, 2, none⟩ = some (.int .u64 (cz : Int)) /\ W.cell? ⟨gq, oq + i, none⟩ = some (.int .i64 (tq : Int)) /\ gq < W.heap.size /\ w.heap.size < W.heap.size /\ w.heap.size + 1 + 1 < W.heap.size) := hide (fun W hW => by
            obtain ⟨-, k1, k2, -, k4⟩ := (HXX.out.pp.below hW).cells
            obtain ⟨-, l1, l2, -, l4⟩ := (HXX.out.mv.below hW).cells
            obtain ⟨j1, j2⟩ := HT.out W (bkp HXX.out.bw hW)
            exact ⟨⟨k1, k2⟩, l2, j1, j2, k4, l4⟩)
          refine wp_region_quiet_last (C := fun W => Below VX.heap.size VX W) (by kernel_rfl) 14 rfl (by kernel_rfl) (by kernel_rfl) (bdrew (Below.refl _ _) 1) ?_
          simp only [List.take_succ_cons, List.take_zero]
          repeat
            refine wpQuiet_step (fun K hK => ?_)
            go_simp
            first
              | (refine hK _ ?_; clear hK K)
              | (apply Exists.intro
                 refine ⟨fun W hW => ?_, hK _ ?_⟩
                 first
                   | (obtain ⟨⟨p0, p1⟩, a0, b0, e1, e2, e3⟩ := HCZ.out W hW; go_simp; rfl)
                 clear hK K)
          refine wpQuiet_nil ?_
          intro WZ hWZ
          have HXZ : Hid (Oo w (WZ.setCell ⟨w.heap.size + 1 + 1, 2, none⟩ (.int .u64 (nz : Int))) ⟨(N : Int), px, pz, pf⟩ nx nz) := hide ((HXX.out.keep hWZ).setZ nz)
          obtain ⟨y0, y1, y2, y3, y4⟩ := (HXX.out.mv.below hWZ).cells
          have yf : ∀ j, WZ.frozen? ⟨w.heap.size + 1 + 1, j, none⟩ = false := fun j => by have := HXX.out.mv.below hWZ; unfold At4 at this; simp [World.frozen?, this]
          simp only at y0 y1 y2 y3
          clear hWZ HCZ HXX
          go_wp2_with fail
          first | rw [oZ] | skip
          generalize WZ.setCell ⟨w.heap.size + 1 + 1, 2, none⟩ (.int .u64 (nz : Int)) = VZ at *
          go_roundw
          case rel => exact ⟨i + 1, by go_num, by omega, hide (by rw [HNX.out, HNZ.out]; exact HXZ.out)⟩
          case measure => simp [Go.RowKit.intOf]; omega
        . have oX : bits .or .u64 (cx : Int) ((2 : Int) ^ tq) = (nx : Int) := by rw [hsX, Nat.one_mul, show ((2 : Int) ^ tq) = ((2 ^ tq : Nat) : Int) by simp]; exact hor cx tq hcX ht64
          have oX' : bits .or .u64 (cx : Int) ((2 ^ tq : Nat) : Int) = (nx : Int) := by rw [hsX, Nat.one_mul]; exact hor cx tq hcX ht64
          have oZ : bits .or .u64 (cz : Int) 0 = (nz : Int) := by have := u64_or_nat cz 0 hcZ (by decide); rw [hsZ, Nat.zero_mul]; exact this
          clear hsX hsZ hor
          go_wp2_with fail
          clear x0 x1 x2 x3 x4
          have HCX : Hid (∀ W, Below wr.heap.size wr W -> (W.cell? ⟨w.heap.size, 1, none⟩ = some (.int .u64 (px : Int)) /\ W.cell? ⟨w.heap.size, 2, none⟩ = some (.int .u64 (pz : Int))) /\ W.cell? ⟨w.heap.size + 1 + 1, 1, none⟩ = some (.int .u64 (cx : Int)) /\ W.cell? ⟨gq, oq + i, none⟩ = some (.int .i64 (tq : Int)) /\ gq < W.heap.size /\ w.heap.size < W.heap.size /\ w.heap.size + 1 + 1 < W.heap.size) := hide (fun W hW => by
            obtain ⟨-, k1, k2, -, k4⟩ := (HI.out.pp.below hW).cells
            obtain ⟨-, l1, l2, -, l4⟩ := (HI.out.mv.below hW).cells
            obtain ⟨j1, j2⟩ := HT.out W (bkp HI.out.bw hW)
            exact ⟨⟨k1, k2⟩, l1, j1, j2, k4, l4⟩)
          refine wp_region_quiet_last (C := fun W => Below wr.heap.size wr W) (by kernel_rfl) 14 rfl (by kernel_rfl) (by kernel_rfl) (bdrew (Below.refl _ _) 1) ?_
          simp only [List.take_succ_cons, List.take_zero]
          repeat
            refine wpQuiet_step (fun K hK => ?_)
            go_simp
            first
              | (refine hK _ ?_; clear hK K)
              | (apply Exists.intro
                 refine ⟨fun W hW => ?_, hK _ ?_⟩
                 first
                   | (obtain ⟨⟨p0, p1⟩, a0, b0, e1, e2, e3⟩ := HCX.out W hW; go_simp; rfl)
                 clear hK K)
          refine wpQuiet_nil ?_
          intro WX hWX
          have HXX : Hid (Oo w (WX.setCell ⟨w.heap.size + 1 + 1, 1, none⟩ (.int .u64 (nx : Int))) ⟨(N : Int), px, pz, pf⟩ nx cz) := hide ((HI.out.keep hWX).setX nx)
          obtain ⟨y0, y1, y2, y3, y4⟩ := (HI.out.mv.below hWX).cells
          have yf : ∀ j, WX.frozen? ⟨w.heap.size + 1 + 1, j, none⟩ = false := fun j => by have := HI.out.mv.below hWX; unfold At4 at this; simp [World.frozen?, this]
          simp only at y0 y1 y2 y3
          clear hWX HCX HI
          go_upto_region 6 with fail
          first | rw [oX] | skip
          generalize WX.setCell ⟨w.heap.size + 1 + 1, 1, none⟩ (.int .u64 (nx : Int)) = VX at *
          clear y0 y1 y2 y3 y4 yf
          have HCZ : Hid (∀ W, Below VX.heap.size VX W -> (W.cell? ⟨w.heap.size, 1, none⟩ = some (.int .u64 (px : Int)) /\ W.cell? ⟨w.heap.size, 2, none⟩ = some (.int .u64 (pz : Int))) /\ W.cell? ⟨w.heap.size + 1 + 1, 2, none⟩ = some (.int .u64 (cz : Int)) /\ W.cell? ⟨gq, oq + i, none⟩ = some (.int .i64 (tq : Int)) /\ gq < W.heap.size /\ w.heap.size < W.heap.size /\ w.heap.size + 1 + 1 < W.heap.size) := hide (fun W hW => by
            obtain ⟨-, k1, k2, -, k4⟩ := (HXX.out.pp.below hW).cells
            obtain ⟨-, l1, l2, -, l4⟩ := (HXX.out.mv.below hW).cells
            obtain ⟨j1, j2⟩ := HT.out W (bkp HXX.out.bw hW)
            exact ⟨⟨k1, k2⟩, l2, j1, j2, k4, l4⟩)
          refine wp_region_quiet_last (C := fun W => Below VX.heap.size VX W) (by kernel_rfl) 14 rfl (by kernel_rfl) (by kernel_rfl) (bdrew (Below.refl _ _) 1) ?_
          simp only [List.take_succ_cons, List.take_zero]
          repeat
            refine wpQuiet_step (fun K hK => ?_)
            go_simp
            first
              | (refine hK _ ?_; clear hK K)
              | (apply Exists.intro
                 refine ⟨fun W hW => ?_, hK _ ?_⟩
                 first
                   | (obtain ⟨⟨p0, p1⟩, a0, b0, e1, e2, e3⟩ := HCZ.out W hW; go_simp; rfl)
                 clear hK K)
          refine wpQuiet_nil ?_
          intro WZ hWZ
          have HXZ : Hid (Oo w (WZ.setCell ⟨w.heap.size + 1 + 1, 2, none⟩ (.int .u64 (nz : Int))) ⟨(N : Int), px, pz, pf⟩ nx nz) := hide ((HXX.out.keep hWZ).setZ nz)
          obtain ⟨y0, y1, y2, y3, y4⟩ := (HXX.out.mv.below hWZ).cells
          have yf : ∀ j, WZ.frozen? ⟨w.heap.size + 1 + 1, j, none⟩ = false := fun j => by have := HXX.out.mv.below hWZ; unfold At4 at this; simp [World.frozen?, this]
          simp only at y0 y1 y2 y3
          clear hWZ HCZ HXX
          go_wp2_with fail
          first | rw [oZ] | skip
          generalize WZ.setCell ⟨w.heap.size + 1 + 1, 2, none⟩ (.int .u64 (nz : Int)) = VZ at *
          go_roundw
          case rel => exact ⟨i + 1, by go_num, by omega, hide (by rw [HNX.out, HNZ.out]; exact HXZ.out)⟩
          case measure => simp [Go.RowKit.intOf]; omega
        . have oX : bits .or .u64 (cx : Int) ((2 : Int) ^ tq) = (nx : Int) := by rw [hsX, Nat.one_mul, show ((2 : Int) ^ tq) = ((2 ^ tq : Nat) : Int) by simp]; exact hor cx tq hcX ht64
          have oX' : bits .or .u64 (cx : Int) ((2 ^ tq : Nat) : Int) = (nx : Int) := by rw [hsX, Nat.one_mul]; exact hor cx tq hcX ht64
          have oZ : bits .or .u64 (cz : Int) ((2 : Int) ^ tq) = (nz : Int) := by rw [hsZ, Nat.one_mul, show ((2 : Int) ^ tq) = ((2 ^ tq : Nat) : Int) by simp]; exact hor cz tq hcZ ht64
          have oZ' : bits .or .u64 (cz : Int) ((2 ^ tq : Nat) : Int) = (nz : Int) := by rw [hsZ, Nat.one_mul]; exact hor cz tq hcZ ht64
          clear hsX hsZ hor
          go_wp2_with fail
          clear x0 x1 x2 x3 x4
          have HCX : Hid (∀ W, Below wr.heap.size wr W -> (W.cell? ⟨w.heap.size, 1, none⟩ = some (.int .u64 (px : Int)) /\ W.cell? ⟨w.heap.size, 2, none⟩ = some (.int .u64 (pz : Int))) /\ W.cell? ⟨w.heap.size + 1 + 1, 1, none⟩ = some (.int .u64 (cx : Int)) /\ W.cell? ⟨gq, oq + i, none⟩ = some (.int .i64 (tq : Int)) /\ gq < W.heap.size /\ w.heap.size < W.heap.size /\ w.heap.size + 1 + 1 < W.heap.size) := hide (fun W hW => by
            obtain ⟨-, k1, k2, -, k4⟩ := (HI.out.pp.below hW).cells
            obtain ⟨-, l1, l2, -, l4⟩ := (HI.out.mv.below hW).cells
            obtain ⟨j1, j2⟩ := HT.out W (bkp HI.out.bw hW)
            exact ⟨⟨k1, k2⟩, l1, j1, j2, k4, l4⟩)
          refine wp_region_quiet_last (C := fun W => Below wr.heap.size wr W) (by kernel_rfl) 14 rfl (by kernel_rfl) (by kernel_rfl) (bdrew (Below.refl _ _) 1) ?_
          simp only [List.take_succ_cons, List.take_zero]
          repeat
            refine wpQuiet_step (fun K hK => ?_)
            go_simp
            first
              | (refine hK _ ?_; clear hK K)
              | (apply Exists.intro
                 refine ⟨fun W hW => ?_, hK _ ?_⟩
                 first
                   | (obtain ⟨⟨p0, p1⟩, a0, b0, e1, e2, e3⟩ := HCX.out W hW; go_simp; rfl)
                 clear hK K)
          refine wpQuiet_nil ?_
          intro WX hWX
          have HXX : Hid (Oo w (WX.setCell ⟨w.heap.size + 1 + 1, 1, none⟩ (.int .u64 (nx : Int))) ⟨(N : Int), px, pz, pf⟩ nx cz) := hide ((HI.out.keep hWX).setX nx)
          obtain ⟨y0, y1, y2, y3, y4⟩ := (HI.out.mv.below hWX).cells
          have yf : ∀ j, WX.frozen? ⟨w.heap.size + 1 + 1, j, none⟩ = false := fun j => by have := HI.out.mv.below hWX; unfold At4 at this; simp [World.frozen?, this]
          simp only at y0 y1 y2 y3
          clear hWX HCX HI
          go_upto_region 6 with fail
          first | rw [oX] | skip
          generalize WX.setCell ⟨w.heap.size + 1 + 1, 1, none⟩ (.int .u64 (nx : Int)) = VX at *
          clear y0 y1 y2 y3 y4 yf
          have HCZ : Hid (∀ W, Below VX.heap.size VX W -> (W.cell? ⟨w.heap.size, 1, none⟩ = some (.int .u64 (px : Int)) /\ W.cell? ⟨w.heap.size, 2, none⟩ = some (.int .u64 (pz : Int))) /\ W.cell? ⟨w.heap.size + 1 + 1, 2, none⟩ = some (.int .u64 (cz : Int)) /\ W.cell? ⟨gq, oq + i, none⟩ = some (.int .i64 (tq : Int)) /\ gq < W.heap.size /\ w.heap.size < W.heap.size /\ w.heap.size + 1 + 1 < W.heap.size) := hide (fun W hW => by
            obtain ⟨-, k1, k2, -, k4⟩ := (HXX.out.pp.below hW).cells
            obtain ⟨-, l1, l2, -, l4⟩ := (HXX.out.mv.below hW).cells
            obtain ⟨j1, j2⟩ := HT.out W (bkp HXX.out.bw hW)
            exact ⟨⟨k1, k2⟩, l2, j1, j2, k4, l4⟩)
          refine wp_region_quiet_last (C := fun W => Below VX.heap.size VX W) (by kernel_rfl) 14 rfl (by kernel_rfl) (by kernel_rfl) (bdrew (Below.refl _ _) 1) ?_
          simp only [List.take_succ_cons, List.take_zero]
          repeat
            refine wpQuiet_step (fun K hK => ?_)
            go_simp
            first
              | (refine hK _ ?_; clear hK K)
              | (apply Exists.intro
                 refine ⟨fun W hW => ?_, hK _ ?_⟩
                 first
                   | (obtain ⟨⟨p0, p1⟩, a0, b0, e1, e2, e3⟩ := HCZ.out W hW; go_simp; rfl)
                 clear hK K)
          refine wpQuiet_nil ?_
          intro WZ hWZ
          have HXZ : Hid (Oo w (WZ.setCell ⟨w.heap.size + 1 + 1, 2, none⟩ (.int .u64 (nz : Int))) ⟨(N : Int), px, pz, pf⟩ nx nz) := hide ((HXX.out.keep hWZ).setZ nz)
          obtain ⟨y0, y1, y2, y3, y4⟩ := (HXX.out.mv.below hWZ).cells
          have yf : ∀ j, WZ.frozen? ⟨w.heap.size + 1 + 1, j, none⟩ = false := fun j => by have := HXX.out.mv.below hWZ; unfold At4 at this; simp [World.frozen?, this]
          simp only at y0 y1 y2 y3
          clear hWZ HCZ HXX
          go_wp2_with fail
          first | rw [oZ] | skip
          generalize WZ.setCell ⟨w.heap.size + 1 + 1, 2, none⟩ (.int .u64 (nz : Int)) = VZ at *
          go_roundw
          case rel => exact ⟨i + 1, by go_num, by omega, hide (by rw [HNX.out, HNZ.out]; exact HXZ.out)⟩
          case measure => simp [Go.RowKit.intOf]; omega
      . obtain rfl : N = i := by omega
        have hd : decide ((N : Int) < (N : Int)) = false := decide_eq_false (by omega)
        obtain ⟨y0, y1, y2, y3, y4⟩ := HI.out.mv.cells
        have hR := HI.out.rs
        have HBW := hide HI.out.bw
        unfold At4 at hR
        simp only at y0 y1 y2 y3
        clear HI x0 x1 x2 x3 x4
        go_wp2_with (first
          | (refine wpList_store_row rfl _ _ _ rfl (w.heap.size + 1) _ rfl rfl _ _ hR (by exact infoP4) (by rfl) (all4 _ _ _ _) ?_))
        refine bodyPost_ret (results_c rfl _ _ (w.heap.size + 1) _ _ _ _ rfl (setRow_heap _ _ _ _ _ _ hR) Tryz.underlying25 rfl (by exact infoP4)) rfl ?_
        exact ⟨rfl, below_setRow HBW.out (by omega) _⟩
theorem dOrdered (p : P) (hp : Wd p) (N : Nat) (hN : p.n = (N : Int)) (h64 : N <= 64) (l : List Int) (hl : l.length = N) (hin : ∀ q ∈ l, 0 <= q /\ q < 64) (ao : Option Addr) (c : Nat) (w : World) (hNs : Ns w ao l) :
    Calls Tryz.prog 56 #[pV p, .slice ao N c] w fun e w' => e = .returned (pV (ordP l p)) /\ Below w.heap.size w w' := by
  unfold ordP
  rw [hN, Int.toNat_natCast]
  have HOX : Hid (∀ x k, k <= N -> orX x l k < 18446744073709551616) := hide (fun x k hk => orX_lt hin x k (by omega))
  have HST : Hid (∀ x k, orX x l (k + 1) = orX x l k ||| (bt x k * 2 ^ (l.getD k 0).toNat)) := hide (fun x k => rfl)
  have HZ0 : Hid (∀ x, orX x l 0 = 0) := hide (fun x => rfl)
  have HNC : Hid (∀ i, i < N -> ∃ (tq : Nat), tq < 64 /\ l.getD i 0 = (tq : Int) /\ ∃ g off, ao = some ⟨g, off, none⟩ /\ ∀ V, Below w.heap.size w V -> V.cell? ⟨g, off + i, none⟩ = some (.int .i64 (tq : Int)) /\ g < V.heap.size) := hide (fun i hi => by
    have e : l[i]? = some (l.getD i 0) := by rw [List.getD_eq_getElem?_getD, List.getElem?_eq_getElem (by omega)]; rfl
    have hq := hin _ (List.mem_of_getElem? e)
    have hne : l ≠ [] := fun e => by rw [e] at hl; simp at hl; omega
    obtain ⟨g, off, e2, hc⟩ := hNs.resolve_left hne
    refine ⟨(l.getD i 0).toNat, by omega, by omega, g, off, e2, fun V hb => ?_⟩
    have h1 := hc i _ e
    have hlt : g < w.heap.size := World.block_lt_of_cell? _ _ h1
    refine ⟨?_, Nat.lt_of_lt_of_le hlt hb.size⟩
    rw [Int.toNat_of_nonneg hq.1]
    exact (hb.cell (p := ⟨g, off + i, none⟩) hlt).trans h1)
  have hsh := shl_one
  have hor := or_run
  have hbr := Pau.bit_run
  have hbl := bt_lt
  obtain ⟨pn, px, pz, pf⟩ := p
  simp only at hN hp
  subst hN
  obtain ⟨k1, k2, k3⟩ := two444 w (.int .i64 (N : Int)) (.int .u64 (px : Int)) (.int .u64 (pz : Int)) (.int .i64 pf) (.int .i64 0) (.int .u64 0) (.int .u64 0) (.int .i64 0) (.int .i64 (N : Int)) (.int .u64 0) (.int .u64 0) (.int .i64 pf)
  have HI0 : Hid (Oo w (((w.alloc (.cells #[.int .i64 (N : Int), .int .u64 (px : Int), .int .u64 (pz : Int), .int .i64 pf] 25)).alloc (.cells #[.int .i64 0, .int .u64 0, .int .u64 0, .int .i64 0] 25)).alloc (.cells #[.int .i64 (N : Int), .int .u64 0, .int .u64 0, .int .i64 pf] 25)) ⟨(N : Int), px, pz, pf⟩ 0 0) := hide ⟨k1, k2, k3, bkp (bkp (bnew w _) (bnew _ _)) (bnew _ _)⟩
  generalize hGX : orX px l = FX at *
  generalize hGZ : orX pz l = FZ at *
  have HSX : Hid (∀ k, FX (k + 1) = FX k ||| (bt px k * 2 ^ (l.getD k 0).toNat)) := hide (fun k => by rw [← hGX]; exact HST.out px k)
  have HSZ : Hid (∀ k, FZ (k + 1) = FZ k ||| (bt pz k * 2 ^ (l.getD k 0).toNat)) := hide (fun k => by rw [← hGZ]; exact HST.out pz k)
  have HFX : Hid (∀ k, k <= N -> FX k < 18446744073709551616 /\ FZ k < 18446744073709551616) := hide (fun k hk => ⟨by rw [← hGX]; exact HOX.out px k hk, by rw [← hGZ]; exact HOX.out pz k hk⟩)
  have HF0 : Hid (FX 0 = 0 /\ FZ 0 = 0) := hide ⟨by rw [← hGX]; exact HZ0.out px, by rw [← hGZ]; exact HZ0.out pz⟩
  have HPD := hide hp
  unfold pV
  simp only
  clear hGX hGZ HST HOX HZ0 k1 k2 k3 hp hin hNs hl
  rcases Nat.eq_zero_or_pos N with hz | hpos
  . have HZ := hide hz
    clear hz
    obtain ⟨x0, x1, x2, x3, x4⟩ := HI0.out.pp.cells
    simp only at x0 x1 x2 x3
    go_enter Tryz.func56, Tryz.ntmps56
    go_wp2_with fail
    clear x0 x1 x2 x3 x4
    generalize ((w.alloc (.cells #[.int .i64 (N : Int), .int .u64 (px : Int), .int .u64 (pz : Int), .int .i64 pf] 25)).alloc (.cells #[.int .i64 0, .int .u64 0, .int .u64 0, .int .i64 0] 25)).alloc (.cells #[.int .i64 (N : Int), .int .u64 0, .int .u64 0, .int .i64 pf] 25) = V0 at *
    go_loopw [6] (fun vi wr => ∃ i : Nat, vi = .int .i64 (i : Int) /\ i <= N /\ Hid (Oo w wr ⟨(N : Int), px, pz, pf⟩ (FX i) (FZ i))) (fun vi _ => N - (Go.RowKit.intOf vi).toNat)
    case atStart => exact ⟨0, rfl, Nat.zero_le _, hide (by rw [HF0.out.1, HF0.out.2]; exact HI0.out)⟩
    case round =>
      obtain ⟨i, rfl, hi, HI⟩ := hrel
      clear HI0
      obtain ⟨x0, x1, x2, x3, x4⟩ := HI.out.pp.cells
      simp only at x0 x1 x2 x3
      by_cases h : i < N
      . exact absurd h (by have := HZ.out; omega)
      . obtain rfl : N = i := by omega
        have hd : decide ((N : Int) < (N : Int)) = false := decide_eq_false (by omega)
        obtain ⟨y0, y1, y2, y3, y4⟩ := HI.out.mv.cells
        have hR := HI.out.rs
        have HBW := hide HI.out.bw
        unfold At4 at hR
        simp only at y0 y1 y2 y3
        clear HI x0 x1 x2 x3 x4
        go_wp2_with (first
          | (refine wpList_store_row rfl _ _ _ rfl (w.heap.size + 1) _ rfl rfl _ _ hR (by exact infoP4) (by rfl) (all4 _ _ _ _) ?_))
        refine bodyPost_ret (results_c rfl _ _ (w.heap.size + 1) _ _ _ _ rfl (setRow_heap _ _ _ _ _ _ hR) Tryz.underlying25 rfl (by exact infoP4)) rfl ?_
        exact ⟨rfl, below_setRow HBW.out (by omega) _⟩
  . obtain ⟨-, -, -, gq, oq, rfl, -⟩ := HNC.out 0 hpos
    have HNC' : Hid (∀ i, i < N -> ∃ (tq : Nat), tq < 64 /\ l.getD i 0 = (tq : Int) /\ ∀ V, Below w.heap.size w V -> V.cell? ⟨gq, oq + i, none⟩ = some (.int .i64 (tq : Int)) /\ gq < V.heap.size) := hide (fun i hi => by
      obtain ⟨tq, h1, h2, g', o', e, h3⟩ := HNC.out i hi
      cases e
      exact ⟨tq, h1, h2, h3⟩)
    clear HNC hpos
    obtain ⟨x0, x1, x2, x3, x4⟩ := HI0.out.pp.cells
    simp only at x0 x1 x2 x3
    go_enter Tryz.func56, Tryz.ntmps56
    go_wp2_with fail
    clear x0 x1 x2 x3 x4
    generalize ((w.alloc (.cells #[.int .i64 (N : Int), .int .u64 (px : Int), .int .u64 (pz : Int), .int .i64 pf] 25)).alloc (.cells #[.int .i64 0, .int .u64 0, .int .u64 0, .int .i64 0] 25)).alloc (.cells #[.int .i64 (N : Int), .int .u64 0, .int .u64 0, .int .i64 pf] 25) = V0 at *
    go_loopw [6] (fun vi wr => ∃ i : Nat, vi = .int .i64 (i : Int) /\ i <= N /\ Hid (Oo w wr ⟨(N : Int), px, pz, pf⟩ (FX i) (FZ i))) (fun vi _ => N - (Go.RowKit.intOf vi).toNat)
    case atStart => exact ⟨0, rfl, Nat.zero_le _, hide (by rw [HF0.out.1, HF0.out.2]; exact HI0.out)⟩
    case round =>
      obtain ⟨i, rfl, hi, HI⟩ := hrel
      clear HI0
      obtain ⟨x0, x1, x2, x3, x4⟩ := HI.out.pp.cells
      simp only at x0 x1 x2 x3
      by_cases h : i < N
      . have hd : decide ((i : Int) < (N : Int)) = true := decide_eq_true (by omega)
        obtain ⟨tq, ht64, htq, hT⟩ := HNC'.out i h
        have HT := hide hT
        have hsX := HSX.out i
        have hsZ := HSZ.out i
        rw [htq, Int.toNat_natCast] at hsX hsZ
        have hcX := (HFX.out i hi).1
        have hcZ := (HFX.out i hi).2
        have b1 := hbr px i HPD.out.1
        have b2 := hbr pz i HPD.out.2
        have l1 := hbl px i
        have l2 := hbl pz i
        have ht65 : (tq : Int) <= 64 := by omega
        have hi65 : (i : Int) <= 64 := by omega
        have s1 := hsh tq ht64
        have mi : min i 64 = i := by omega
        have mt : min tq 64 = tq := by omega
        obtain ⟨nx, hnx⟩ : ∃ y, FX (i + 1) = y := ⟨_, rfl⟩
        obtain ⟨nz, hnz⟩ : ∃ y, FZ (i + 1) = y := ⟨_, rfl⟩
        rw [hnx] at hsX
        rw [hnz] at hsZ
        have HNX := hide hnx
        have HNZ := hide hnz
        clear hnx hnz hT htq hbr hbl hsh HSX HSZ HFX HF0
        generalize FX i = cx at *
        generalize FZ i = cz at *
        generalize bt px i = bX at *
        generalize bt pz i = bZ at *
        have hb1 : bX = 0 ∨ bX = 1 := by omega
        have hb2 : bZ = 0 ∨ bZ = 1 := by omega
        clear l1 l2
        rcases hb1 with rfl | rfl <;> rcases hb2 with rfl | rfl
        . have oX : bits .or .u64 (cx : Int) 0 = (nx : Int) := by have := u64_or_nat cx 0 hcX (by decide); rw [hsX, Nat.zero_mul]; exact this
          have oZ : bits .or .u64 (cz : Int) 0 = (nz : Int) := by have := u64_or_nat cz 0 hcZ (by decide); rw [hsZ, Nat.zero_mul]; exact this
          have oXw : bits .or .u64 (cx : Int) (IntKind.u64.wrap (bits .and .u64 ((px : Int) / 2 ^ min i 64) 1 * 2 ^ min tq 64)) = (nx : Int) := by
            rw [mi, mt, b1]
            rw [show (((0 : Nat) : Int) * 2 ^ tq) = 0 by simp, show IntKind.u64.wrap 0 = 0 by decide]
            exact oX
          have OX := hide oXw
          clear oXw
          have oZw : bits .or .u64 (cz : Int) (IntKind.u64.wrap (bits .and .u64 ((pz : Int) / 2 ^ min i 64) 1 * 2 ^ min tq 64)) = (nz : Int) := by
            rw [mi, mt, b2]
            rw [show (((0 : Nat) : Int) * 2 ^ tq) = 0 by simp, show IntKind.u64.wrap 0 = 0 by decide]
            exact oZ
          have OZ := hide oZw
          clear oZw
          clear hsX hsZ hor
          go_wp2_with fail
          clear x0 x1 x2 x3 x4
          have HCX : Hid (∀ W, Below wr.heap.size wr W -> (W.cell? ⟨w.heap.size, 1, none⟩ = some (.int .u64 (px : Int)) /\ W.cell? ⟨w.heap.size, 2, none⟩ = some (.int .u64 (pz : Int))) /\ W.cell? ⟨w.heap.size + 1 + 1, 1, none⟩ = some (.int .u64 (cx : Int)) /\ W.cell? ⟨gq, oq + i, none⟩ = some (.int .i64 (tq : Int)) /\ gq < W.heap.size /\ w.heap.size < W.heap.size /\ w.heap.size + 1 + 1 < W.heap.size) := hide (fun W hW => by
            obtain ⟨-, k1, k2, -, k4⟩ := (HI.out.pp.below hW).cells
            obtain ⟨-, l1, l2, -, l4⟩ := (HI.out.mv.below hW).cells
            obtain ⟨j1, j2⟩ := HT.out W (bkp HI.out.bw hW)
            exact ⟨⟨k1, k2⟩, l1, j1, j2, k4, l4⟩)
          refine wp_region_quiet_last (C := fun W => Below wr.heap.size wr W) (by kernel_rfl) 16 rfl (by kernel_rfl) (by kernel_rfl) (bdrew (Below.refl _ _) 1) ?_
          simp only [List.take_succ_cons, List.take_zero]
          repeat
            refine wpQuiet_step (fun K hK => ?_)
            go_simp
            first
              | (refine hK _ ?_; clear hK K)
              | (apply Exists.intro
                 refine ⟨fun W hW => ?_, hK _ ?_⟩
                 first
                   | (obtain ⟨⟨p0, p1⟩, a0, b0, e1, e2, e3⟩ := HCX.out W hW; go_simp; rfl)
                 clear hK K)
          refine wpQuiet_nil ?_
          intro WX hWX
          have HXX : Hid (Oo w (WX.setCell ⟨w.heap.size + 1 + 1, 1, none⟩ (.int .u64 (nx : Int))) ⟨(N : Int), px, pz, pf⟩ nx cz) := hide ((HI.out.keep hWX).setX nx)
          obtain ⟨y0, y1, y2, y3, y4⟩ := (HI.out.mv.below hWX).cells
          have yf : ∀ j, WX.frozen? ⟨w.heap.size + 1 + 1, j, none⟩ = false := fun j => by have := HI.out.mv.below hWX; unfold At4 at this; simp [World.frozen?, this]
          simp only at y0 y1 y2 y3
          clear hWX HCX HI
          go_upto_region 6 with fail
          first | rw [OX.out] | rw [oX] | skip
          generalize WX.setCell ⟨w.heap.size + 1 + 1, 1, none⟩ (.int .u64 (nx : Int)) = VX at *
          clear y0 y1 y2 y3 y4 yf
          have HCZ : Hid (∀ W, Below VX.heap.size VX W -> (W.cell? ⟨w.heap.size, 1, none⟩ = some (.int .u64 (px : Int)) /\ W.cell? ⟨w.heap.size, 2, none⟩ = some (.int .u64 (pz : Int))) /\ W.cell? ⟨w.heap.size + 1 + 1, 2, none⟩ = some (.int .u64 (cz : Int)) /\ W.cell? ⟨gq, oq + i, none⟩ = some (.int .i64 (tq : Int)) /\ gq < W.heap.size /\ w.heap.size < W.heap.size /\ w.heap.size + 1 + 1 < W.heap.size) := hide (fun W hW => by
            obtain ⟨-, k1, k2, -, k4⟩ := (HXX.out.pp.below hW).cells
            obtain ⟨-, l1, l2, -, l4⟩ := (HXX.out.mv.below hW).cells
            obtain ⟨j1, j2⟩ := HT.out W (bkp HXX.out.bw hW)
            exact ⟨⟨k1, k2⟩, l2, j1, j2, k4, l4⟩)
          refine wp_region_quiet_last (C := fun W => Below VX.heap.size VX W) (by kernel_rfl) 16 rfl (by kernel_rfl) (by kernel_rfl) (bdrew (Below.refl _ _) 1) ?_
          simp only [List.take_succ_cons, List.take_zero]
          repeat
            refine wpQuiet_step (fun K hK => ?_)
            go_simp
            first
              | (refine hK _ ?_; clear hK K)
              | (apply Exists.intro
                 refine ⟨fun W hW => ?_, hK _ ?_⟩
                 first
                   | (obtain ⟨⟨p0, p1⟩, a0, b0, e1, e2, e3⟩ := HCZ.out W hW; go_simp; rfl)
                 clear hK K)
          refine wpQuiet_nil ?_
          intro WZ hWZ
          have HXZ : Hid (Oo w (WZ.setCell ⟨w.heap.size + 1 + 1, 2, none⟩ (.int .u64 (nz : Int))) ⟨(N : Int), px, pz, pf⟩ nx nz) := hide ((HXX.out.keep hWZ).setZ nz)
          obtain ⟨y0, y1, y2, y3, y4⟩ := (HXX.out.mv.below hWZ).cells
          have yf : ∀ j, WZ.frozen? ⟨w.heap.size + 1 + 1, j, none⟩ = false := fun j => by have := HXX.out.mv.below hWZ; unfold At4 at this; simp [World.frozen?, this]
          simp only at y0 y1 y2 y3
          clear hWZ HCZ HXX
          go_wp2_with fail
          first | rw [OZ.out] | rw [oZ] | skip
          generalize WZ.setCell ⟨w.heap.size + 1 + 1, 2, none⟩ (.int .u64 (nz : Int)) = VZ at *
          go_roundw
          case rel => exact ⟨i + 1, by go_num, by omega, hide (by rw [HNX.out, HNZ.out]; exact HXZ.out)⟩
          case measure => simp [Go.RowKit.intOf]; omega
        . have oX : bits .or .u64 (cx : Int) 0 = (nx : Int) := by have := u64_or_nat cx 0 hcX (by decide); rw [hsX, Nat.zero_mul]; exact this
          have oZ : bits .or .u64 (cz : Int) ((2 : Int) ^ tq) = (nz : Int) := by rw [hsZ, Nat.one_mul, show ((2 : Int) ^ tq) = ((2 ^ tq : Nat) : Int) by simp]; exact hor cz tq hcZ ht64
          have oZ' : bits .or .u64 (cz : Int) ((2 ^ tq : Nat) : Int) = (nz : Int) := by rw [hsZ, Nat.one_mul]; exact hor cz tq hcZ ht64
          have oXw : bits .or .u64 (cx : Int) (IntKind.u64.wrap (bits .and .u64 ((px : Int) / 2 ^ min i 64) 1 * 2 ^ min tq 64)) = (nx : Int) := by
            rw [mi, mt, b1]
            rw [show (((0 : Nat) : Int) * 2 ^ tq) = 0 by simp, show IntKind.u64.wrap 0 = 0 by decide]
            exact oX
          have OX := hide oXw
          clear oXw
          have oZw : bits .or .u64 (cz : Int) (IntKind.u64.wrap (bits .and .u64 ((pz : Int) / 2 ^ min i 64) 1 * 2 ^ min tq 64)) = (nz : Int) := by
            rw [mi, mt, b2]
            rw [show (((1 : Nat) : Int) * 2 ^ tq) = 2 ^ tq by simp, s1]
            exact oZ'
          have OZ := hide oZw
          clear oZw
          clear hsX hsZ hor
          go_wp2_with fail
          clear x0 x1 x2 x3 x4
          have HCX : Hid (∀ W, Below wr.heap.size wr W -> (W.cell? ⟨w.heap.size, 1, none⟩ = some (.int .u64 (px : Int)) /\ W.cell? ⟨w.heap.size, 2, none⟩ = some (.int .u64 (pz : Int))) /\ W.cell? ⟨w.heap.size + 1 + 1, 1, none⟩ = some (.int .u64 (cx : Int)) /\ W.cell? ⟨gq, oq + i, none⟩ = some (.int .i64 (tq : Int)) /\ gq < W.heap.size /\ w.heap.size < W.heap.size /\ w.heap.size + 1 + 1 < W.heap.size) := hide (fun W hW => by
            obtain ⟨-, k1, k2, -, k4⟩ := (HI.out.pp.below hW).cells
            obtain ⟨-, l1, l2, -, l4⟩ := (HI.out.mv.below hW).cells
            obtain ⟨j1, j2⟩ := HT.out W (bkp HI.out.bw hW)
            exact ⟨⟨k1, k2⟩, l1, j1, j2, k4, l4⟩)
          refine wp_region_quiet_last (C := fun W => Below wr.heap.size wr W) (by kernel_rfl) 16 rfl (by kernel_rfl) (by kernel_rfl) (bdrew (Below.refl _ _) 1) ?_
          simp only [List.take_succ_cons, List.take_zero]
          repeat
            refine wpQuiet_step (fun K hK => ?_)
            go_simp
            first
              | (refine hK _ ?_; clear hK K)
              | (apply Exists.intro
                 refine ⟨fun W hW => ?_, hK _ ?_⟩
                 first
                   | (obtain ⟨⟨p0, p1⟩, a0, b0, e1, e2, e3⟩ := HCX.out W hW; go_simp; rfl)
                 clear hK K)
          refine wpQuiet_nil ?_
          intro WX hWX
          have HXX : Hid (Oo w (WX.setCell ⟨w.heap.size + 1 + 1, 1, none⟩ (.int .u64 (nx : Int))) ⟨(N : Int), px, pz, pf⟩ nx cz) := hide ((HI.out.keep hWX).setX nx)
          obtain ⟨y0, y1, y2, y3, y4⟩ := (HI.out.mv.below hWX).cells
          have yf : ∀ j, WX.frozen? ⟨w.heap.size + 1 + 1, j, none⟩ = false := fun j => by have := HI.out.mv.below hWX; unfold At4 at this; simp [World.frozen?, this]
          simp only at y0 y1 y2 y3
          clear hWX HCX HI
          go_upto_region 6 with fail
          first | rw [OX.out] | rw [oX] | skip
          generalize WX.setCell ⟨w.heap.size + 1 + 1, 1, none⟩ (.int .u64 (nx : Int)) = VX at *
          clear y0 y1 y2 y3 y4 yf
          have HCZ : Hid (∀ W, Below VX.heap.size VX W -> (W.cell? ⟨w.heap.size, 1, none⟩ = some (.int .u64 (px : Int)) /\ W.cell? ⟨w.heap.size, 2, none⟩ = some (.int .u64 (pz : Int))) /\ W.cell? ⟨w.heap.size + 1 + 1, 2, none⟩ = some (.int .u64 (cz : Int)) /\ W.cell? ⟨gq, oq + i, none⟩ = some (.int .i64 (tq : Int)) /\ gq < W.heap.size /\ w.heap.size < W.heap.size /\ w.heap.size + 1 + 1 < W.heap.size) := hide (fun W hW => by
            obtain ⟨-, k1, k2, -, k4⟩ := (HXX.out.pp.below hW).cells
            obtain ⟨-, l1, l2, -, l4⟩ := (HXX.out.mv.below hW).cells
            obtain ⟨j1, j2⟩ := HT.out W (bkp HXX.out.bw hW)
            exact ⟨⟨k1, k2⟩, l2, j1, j2, k4, l4⟩)
          refine wp_region_quiet_last (C := fun W => Below VX.heap.size VX W) (by kernel_rfl) 16 rfl (by kernel_rfl) (by kernel_rfl) (bdrew (Below.refl _ _) 1) ?_
          simp only [List.take_succ_cons, List.take_zero]
          repeat
            refine wpQuiet_step (fun K hK => ?_)
            go_simp
            first
              | (refine hK _ ?_; clear hK K)
              | (apply Exists.intro
                 refine ⟨fun W hW => ?_, hK _ ?_⟩
                 first
                   | (obtain ⟨⟨p0, p1⟩, a0, b0, e1, e2, e3⟩ := HCZ.out W hW; go_simp; rfl)
                 clear hK K)
          refine wpQuiet_nil ?_
          intro WZ hWZ
          have HXZ : Hid (Oo w (WZ.setCell ⟨w.heap.size + 1 + 1, 2, none⟩ (.int .u64 (nz : Int))) ⟨(N : Int), px, pz, pf⟩ nx nz) := hide ((HXX.out.keep hWZ).setZ nz)
          obtain ⟨y0, y1, y2, y3, y4⟩ := (HXX.out.mv.below hWZ).cells
          have yf : ∀ j, WZ.frozen? ⟨w.heap.size + 1 + 1, j, none⟩ = false := fun j => by have := HXX.out.mv.below hWZ; unfold At4 at this; simp [World.frozen?, this]
          simp only at y0 y1 y2 y3
          clear hWZ HCZ HXX
          go_wp2_with fail
          first | rw [OZ.out] | rw [oZ] | skip
          generalize WZ.setCell ⟨w.heap.size + 1 + 1, 2, none⟩ (.int .u64 (nz : Int)) = VZ at *
          go_roundw
          case rel => exact ⟨i + 1, by go_num, by omega, hide (by rw [HNX.out, HNZ.out]; exact HXZ.out)⟩
          case measure => simp [Go.RowKit.intOf]; omega
        . have oX : bits .or .u64 (cx : Int) ((2 : Int) ^ tq) = (nx : Int) := by rw [hsX, Nat.one_mul, show ((2 : Int) ^ tq) = ((2 ^ tq : Nat) : Int) by simp]; exact hor cx tq hcX ht64
          have oX' : bits .or .u64 (cx : Int) ((2 ^ tq : Nat) : Int) = (nx : Int) := by rw [hsX, Nat.one_mul]; exact hor cx tq hcX ht64
          have oZ : bits .or .u64 (cz : Int) 0 = (nz : Int) := by have := u64_or_nat cz 0 hcZ (by decide); rw [hsZ, Nat.zero_mul]; exact this
          have oXw : bits .or .u64 (cx : Int) (IntKind.u64.wrap (bits .and .u64 ((px : Int) / 2 ^ min i 64) 1 * 2 ^ min tq 64)) = (nx : Int) := by
            rw [mi, mt, b1]
            rw [show (((1 : Nat) : Int) * 2 ^ tq) = 2 ^ tq by simp, s1]
            exact oX'
          have OX := hide oXw
          clear oXw
          have oZw : bits .or .u64 (cz : Int) (IntKind.u64.wrap (bits .and .u64 ((pz : Int) / 2 ^ min i 64) 1 * 2 ^ min tq 64)) = (nz : Int) := by
            rw [mi, mt, b2]
            rw [show (((0 : Nat) : Int) * 2 ^ tq) = 0 by simp, show IntKind.u64.wrap 0 = 0 by decide]
            exact oZ
          have OZ := hide oZw
          clear oZw
          clear hsX hsZ hor
          go_wp2_with fail
          clear x0 x1 x2 x3 x4
          have HCX : Hid (∀ W, Below wr.heap.size wr W -> (W.cell? ⟨w.heap.size, 1, none⟩ = some (.int .u64 (px : Int)) /\ W.cell? ⟨w.heap.size, 2, none⟩ = some (.int .u64 (pz : Int))) /\ W.cell? ⟨w.heap.size + 1 + 1, 1, none⟩ = some (.int .u64 (cx : Int)) /\ W.cell? ⟨gq, oq + i, none⟩ = some (.int .i64 (tq : Int)) /\ gq < W.heap.size /\ w.heap.size < W.heap.size /\ w.heap.size + 1 + 1 < W.heap.size) := hide (fun W hW => by
            obtain ⟨-, k1, k2, -, k4⟩ := (HI.out.pp.below hW).cells
            obtain ⟨-, l1, l2, -, l4⟩ := (HI.out.mv.below hW).cells
            obtain ⟨j1, j2⟩ := HT.out W (bkp HI.out.bw hW)
            exact ⟨⟨k1, k2⟩, l1, j1, j2, k4, l4⟩)
          refine wp_region_quiet_last (C := fun W => Below wr.heap.size wr W) (by kernel_rfl) 16 rfl (by kernel_rfl) (by kernel_rfl) (bdrew (Below.refl _ _) 1) ?_
          simp only [List.take_succ_cons, List.take_zero]
          repeat
            refine wpQuiet_step (fun K hK => ?_)
            go_simp
            first
              | (refine hK _ ?_; clear hK K)
              | (apply Exists.intro
                 refine ⟨fun W hW => ?_, hK _ ?_⟩
                 first
                   | (obtain ⟨⟨p0, p1⟩, a0, b0, e1, e2, e3⟩ := HCX.out W hW; go_simp; rfl)
                 clear hK K)
          refine wpQuiet_nil ?_
          intro WX hWX
          have HXX : Hid (Oo w (WX.setCell ⟨w.heap.size + 1 + 1, 1, none⟩ (.int .u64 (nx : Int))) ⟨(N : Int), px, pz, pf⟩ nx cz) := hide ((HI.out.keep hWX).setX nx)
          obtain ⟨y0, y1, y2, y3, y4⟩ := (HI.out.mv.below hWX).cells
          have yf : ∀ j, WX.frozen? ⟨w.heap.size + 1 + 1, j, none⟩ = false := fun j => by have := HI.out.mv.below hWX; unfold At4 at this; simp [World.frozen?, this]
          simp only at y0 y1 y2 y3
          clear hWX HCX HI
          go_upto_region 6 with fail
          first | rw [OX.out] | rw [oX] | skip
          generalize WX.setCell ⟨w.heap.size + 1 + 1, 1, none⟩ (.int .u64 (nx : Int)) = VX at *
          clear y0 y1 y2 y3 y4 yf
          have HCZ : Hid (∀ W, Below VX.heap.size VX W -> (W.cell? ⟨w.heap.size, 1, none⟩ = some (.int .u64 (px : Int)) /\ W.cell? ⟨w.heap.size, 2, none⟩ = some (.int .u64 (pz : Int))) /\ W.cell? ⟨w.heap.size + 1 + 1, 2, none⟩ = some (.int .u64 (cz : Int)) /\ W.cell? ⟨gq, oq + i, none⟩ = some (.int .i64 (tq : Int)) /\ gq < W.heap.size /\ w.heap.size < W.heap.size /\ w.heap.size + 1 + 1 < W.heap.size) := hide (fun W hW => by
            obtain ⟨-, k1, k2, -, k4⟩ := (HXX.out.pp.below hW).cells
            obtain ⟨-, l1, l2, -, l4⟩ := (HXX.out.mv.below hW).cells
            obtain ⟨j1, j2⟩ := HT.out W (bkp HXX.out.bw hW)
            exact ⟨⟨k1, k2⟩, l2, j1, j2, k4, l4⟩)
          refine wp_region_quiet_last (C := fun W => Below VX.heap.size VX W) (by kernel_rfl) 16 rfl (by kernel_rfl) (by kernel_rfl) (bdrew (Below.refl _ _) 1) ?_
          simp only [List.take_succ_cons, List.take_zero]
          repeat
            refine wpQuiet_step (fun K hK => ?_)
            go_simp
            first
              | (refine hK _ ?_; clear hK K)
              | (apply Exists.intro
                 refine ⟨fun W hW => ?_, hK _ ?_⟩
                 first
                   | (obtain ⟨⟨p0, p1⟩, a0, b0, e1, e2, e3⟩ := HCZ.out W hW; go_simp; rfl)
                 clear hK K)
          refine wpQuiet_nil ?_
          intro WZ hWZ
          have HXZ : Hid (Oo w (WZ.setCell ⟨w.heap.size + 1 + 1, 2, none⟩ (.int .u64 (nz : Int))) ⟨(N : Int), px, pz, pf⟩ nx nz) := hide ((HXX.out.keep hWZ).setZ nz)
          obtain ⟨y0, y1, y2, y3, y4⟩ := (HXX.out.mv.below hWZ).cells
          have yf : ∀ j, WZ.frozen? ⟨w.heap.size + 1 + 1, j, none⟩ = false := fun j => by have := HXX.out.mv.below hWZ; unfold At4 at this; simp [World.frozen?, this]
          simp only at y0 y1 y2 y3
          clear hWZ HCZ HXX
          go_wp2_with fail
          first | rw [OZ.out] | rw [oZ] | skip
          generalize WZ.setCell ⟨w.heap.size + 1 + 1, 2, none⟩ (.int .u64 (nz : Int)) = VZ at *
          go_roundw
          case rel => exact ⟨i + 1, by go_num, by omega, hide (by rw [HNX.out, HNZ.out]; exact HXZ.out)⟩
          case measure => simp [Go.RowKit.intOf]; omega
        . have oX : bits .or .u64 (cx : Int) ((2 : Int) ^ tq) = (nx : Int) := by rw [hsX, Nat.one_mul, show ((2 : Int) ^ tq) = ((2 ^ tq : Nat) : Int) by simp]; exact hor cx tq hcX ht64
          have oX' : bits .or .u64 (cx : Int) ((2 ^ tq : Nat) : Int) = (nx : Int) := by rw [hsX, Nat.one_mul]; exact hor cx tq hcX ht64
          have oZ : bits .or .u64 (cz : Int) ((2 : Int) ^ tq) = (nz : Int) := by rw [hsZ, Nat.one_mul, show ((2 : Int) ^ tq) = ((2 ^ tq : Nat) : Int) by simp]; exact hor cz tq hcZ ht64
          have oZ' : bits .or .u64 (cz : Int) ((2 ^ tq : Nat) : Int) = (nz : Int) := by rw [hsZ, Nat.one_mul]; exact hor cz tq hcZ ht64
          have oXw : bits .or .u64 (cx : Int) (IntKind.u64.wrap (bits .and .u64 ((px : Int) / 2 ^ min i 64) 1 * 2 ^ min tq 64)) = (nx : Int) := by
            rw [mi, mt, b1]
            rw [show (((1 : Nat) : Int) * 2 ^ tq) = 2 ^ tq by simp, s1]
            exact oX'
          have OX := hide oXw
          clear oXw
          have oZw : bits .or .u64 (cz : Int) (IntKind.u64.wrap (bits .and .u64 ((pz : Int) / 2 ^ min i 64) 1 * 2 ^ min tq 64)) = (nz : Int) := by
            rw [mi, mt, b2]
            rw [show (((1 : Nat) : Int) * 2 ^ tq) = 2 ^ tq by simp, s1]
            exact oZ'
          have OZ := hide oZw
          clear oZw
          clear hsX hsZ hor
          go_wp2_with fail
          clear x0 x1 x2 x3 x4
          have HCX : Hid (∀ W, Below wr.heap.size wr W -> (W.cell? ⟨w.heap.size, 1, none⟩ = some (.int .u64 (px : Int)) /\ W.cell? ⟨w.heap.size, 2, none⟩ = some (.int .u64 (pz : Int))) /\ W.cell? ⟨w.heap.size + 1 + 1, 1, none⟩ = some (.int .u64 (cx : Int)) /\ W.cell? ⟨gq, oq + i, none⟩ = some (.int .i64 (tq : Int)) /\ gq < W.heap.size /\ w.heap.size < W.heap.size /\ w.heap.size + 1 + 1 < W.heap.size) := hide (fun W hW => by
            obtain ⟨-, k1, k2, -, k4⟩ := (HI.out.pp.below hW).cells
            obtain ⟨-, l1, l2, -, l4⟩ := (HI.out.mv.below hW).cells
            obtain ⟨j1, j2⟩ := HT.out W (bkp HI.out.bw hW)
            exact ⟨⟨k1, k2⟩, l1, j1, j2, k4, l4⟩)
          refine wp_region_quiet_last (C := fun W => Below wr.heap.size wr W) (by kernel_rfl) 16 rfl (by kernel_rfl) (by kernel_rfl) (bdrew (Below.refl _ _) 1) ?_
          simp only [List.take_succ_cons, List.take_zero]
          repeat
            refine wpQuiet_step (fun K hK => ?_)
            go_simp
            first
              | (refine hK _ ?_; clear hK K)
              | (apply Exists.intro
                 refine ⟨fun W hW => ?_, hK _ ?_⟩
                 first
                   | (obtain ⟨⟨p0, p1⟩, a0, b0, e1, e2, e3⟩ := HCX.out W hW; go_simp; rfl)
                 clear hK K)
          refine wpQuiet_nil ?_
          intro WX hWX
          have HXX : Hid (Oo w (WX.setCell ⟨w.heap.size + 1 + 1, 1, none⟩ (.int .u64 (nx : Int))) ⟨(N : Int), px, pz, pf⟩ nx cz) := hide ((HI.out.keep hWX).setX nx)
          obtain ⟨y0, y1, y2, y3, y4⟩ := (HI.out.mv.below hWX).cells
          have yf : ∀ j, WX.frozen? ⟨w.heap.size + 1 + 1, j, none⟩ = false := fun j => by have := HI.out.mv.below hWX; unfold At4 at this; simp [World.frozen?, this]
          simp only at y0 y1 y2 y3
          clear hWX HCX HI
          go_upto_region 6 with fail
          first | rw [OX.out] | rw [oX] | skip
          generalize WX.setCell ⟨w.heap.size + 1 + 1, 1, none⟩ (.int .u64 (nx : Int)) = VX at *
          clear y0 y1 y2 y3 y4 yf
          have HCZ : Hid (∀ W, Below VX.heap.size VX W -> (W.cell? ⟨w.heap.size, 1, none⟩ = some (.int .u64 (px : Int)) /\ W.cell? ⟨w.heap.size, 2, none⟩ = some (.int .u64 (pz : Int))) /\ W.cell? ⟨w.heap.size + 1 + 1, 2, none⟩ = some (.int .u64 (cz : Int)) /\ W.cell? ⟨gq, oq + i, none⟩ = some (.int .i64 (tq : Int)) /\ gq < W.heap.size /\ w.heap.size < W.heap.size /\ w.heap.size + 1 + 1 < W.heap.size) := hide (fun W hW => by
            obtain ⟨-, k1, k2, -, k4⟩ := (HXX.out.pp.below hW).cells
            obtain ⟨-, l1, l2, -, l4⟩ := (HXX.out.mv.below hW).cells
            obtain ⟨j1, j2⟩ := HT.out W (bkp HXX.out.bw hW)
            exact ⟨⟨k1, k2⟩, l2, j1, j2, k4, l4⟩)
          refine wp_region_quiet_last (C := fun W => Below VX.heap.size VX W) (by kernel_rfl) 16 rfl (by kernel_rfl) (by kernel_rfl) (bdrew (Below.refl _ _) 1) ?_
          simp only [List.take_succ_cons, List.take_zero]
          repeat
            refine wpQuiet_step (fun K hK => ?_)
            go_simp
            first
              | (refine hK _ ?_; clear hK K)
              | (apply Exists.intro
                 refine ⟨fun W hW => ?_, hK _ ?_⟩
                 first
                   | (obtain ⟨⟨p0, p1⟩, a0, b0, e1, e2, e3⟩ := HCZ.out W hW; go_simp; rfl)
                 clear hK K)
          refine wpQuiet_nil ?_
          intro WZ hWZ
          have HXZ : Hid (Oo w (WZ.setCell ⟨w.heap.size + 1 + 1, 2, none⟩ (.int .u64 (nz : Int))) ⟨(N : Int), px, pz, pf⟩ nx nz) := hide ((HXX.out.keep hWZ).setZ nz)
          obtain ⟨y0, y1, y2, y3, y4⟩ := (HXX.out.mv.below hWZ).cells
          have yf : ∀ j, WZ.frozen? ⟨w.heap.size + 1 + 1, j, none⟩ = false := fun j => by have := HXX.out.mv.below hWZ; unfold At4 at this; simp [World.frozen?, this]
          simp only at y0 y1 y2 y3
          clear hWZ HCZ HXX
          go_wp2_with fail
          first | rw [OZ.out] | rw [oZ] | skip
          generalize WZ.setCell ⟨w.heap.size + 1 + 1, 2, none⟩ (.int .u64 (nz : Int)) = VZ at *
          go_roundw
          case rel => exact ⟨i + 1, by go_num, by omega, hide (by rw [HNX.out, HNZ.out]; exact HXZ.out)⟩
          case measure => simp [Go.RowKit.intOf]; omega
      . obtain rfl : N = i := by omega
        have hd : decide ((N : Int) < (N : Int)) = false := decide_eq_false (by omega)
        obtain ⟨y0, y1, y2, y3, y4⟩ := HI.out.mv.cells
        have hR := HI.out.rs
        have HBW := hide HI.out.bw
        unfold At4 at hR
        simp only at y0 y1 y2 y3
        clear HI x0 x1 x2 x3 x4
        go_wp2_with (first
          | (refine wpList_store_row rfl _ _ _ rfl (w.heap.size + 1) _ rfl rfl _ _ hR (by exact infoP4) (by rfl) (all4 _ _ _ _) ?_))
        refine bodyPost_ret (results_c rfl _ _ (w.heap.size + 1) _ _ _ _ rfl (setRow_heap _ _ _ _ _ _ hR) Tryz.underlying25 rfl (by exact infoP4)) rfl ?_
        exact ⟨rfl, below_setRow HBW.out (by omega) _⟩
end Go.Proofs.YtpehekonjdneaaaGreatDoor.Tbl
