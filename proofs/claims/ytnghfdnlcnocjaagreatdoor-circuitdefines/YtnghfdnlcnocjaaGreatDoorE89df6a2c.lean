import Derived.Test.YtnghfdnlcnocjaaGreatDoorE2d7ebe20
set_option maxRecDepth 100000
set_option maxHeartbeats 1000000
namespace Go.Proofs.YtnghfdnlcnocjaaGreatDoor.Cir
open Go.RowKit Go.Shelf Go.Proofs.YtnghfdnlcnocjaaGreatDoor.Oct Go.Proofs.YtnghfdnlcnocjaaGreatDoor.Tok Go.Proofs.YtnghfdnlcnocjaaGreatDoor.Gt
theorem PC.base {R : Nat} {L : Ly} {d : Dc} {B0 : Nat} {ao : Option Addr} {w0 w : World} {P : Res (List COp)} {e : Ending} {w' : World} (hk : Kb [R] w0 w) (h : PC R L d B0 ao w P e w') : PC R L d B0 ao w0 P e w' := by
  cases P with
  | ok o ts =>
    obtain ⟨h1, ao', n', c', h2, h3, h4, h5, h6⟩ := h
    refine ⟨h1, ao', n', c', h2, h3, h4, (hk.mono (by simp)).trans h5, fun b hb => ?_⟩
    rcases h6 b hb with e | e
    . exact .inl e
    . exact .inr (Nat.le_trans hk.size e)
  | no c t => exact ⟨h.1, (hk.mono (by simp)).trans h.2⟩
theorem PC.val {R : Nat} {L : Ly} {d : Dc} {B0 : Nat} {ao : Option Addr} {w : World} {P : Res (List COp)} {e : Ending} {w' : World} (h : PC R L d B0 ao w P e w') : ∃ v, e = .returned v := by
  cases P with
  | ok o ts => exact ⟨_, h.1⟩
  | no c t => exact ⟨_, h.1⟩
theorem cIf (w0 : World) (R : Nat) (L : Ly) (B N : Nat) (d : Dc) (ao : Option Addr) (no co : Nat) (ops : List COp) (ts : List T) (w : World) (hD : Rdr w0 w R L B N d) (hR : Rt w R (xOf L d) (.slice ao no co) ts) (hO : OpsAt w w0.heap.size ao no co ops) (hno : ops.length <= 4096) :
    Calls Tryz.prog 91 #[.pointer (some ⟨R, 0, none⟩)] w (PC R L d w0.heap.size ao w (pIf d ops ts)) := by
  have hlt := hR.lt
  have eG := erG
  have eN := erN
  have HD := hide hD
  have HO := hide hO
  have HR := hide hR
  clear hO
  unfold pIf
  have M1 : Hid (∀ V, Rt V R (xOf L d) (.slice ao no co) ts -> Calls Tryz.prog 58 #[.pointer (some ⟨R, 0, none⟩), .slice (some ⟨V.heap.size, 0, none⟩) 1 1] (V.alloc (.cells #[.string ⟨#[40]⟩] 9)) (PT R (xOf L d) (.slice ao no co) V (fun _ => .nilIface) id (pMks [[40]] ts))) := hide (fun V h => cMark1 R (xOf L d) (.slice ao no co) ts [40] V h)
  cases h1 : pMks [[40]] ts with
  | no c t =>
    rw [h1] at M1
    simp only
    go_enter Tryz.func91, Tryz.ntmps91
    go_wp2_with (first
      | (go_at_call 58; (with_reducible refine Calls.mono (M1.out w hR) ?_); rintro e w1 ⟨rfl, hn1, hk1⟩))
    go_ret
    exact ⟨rfl, (hk1).mono (by simp)⟩
  | ok u1 ts1 =>
  rw [h1] at M1
  simp only
  have M2 : Hid (∀ V, Rt V R (xOf L d) (.slice ao no co) ts1 -> Kb [R] w V -> Calls Tryz.prog 111 #[.pointer (some ⟨R, 0, none⟩), .agg #[.map (some L.mb), .int .i64 (d.b.size : Int), .int .i64 64]] V (PT R (xOf L d) (.slice ao no co) V (fun r => .tuple #[rgV r, .nilIface]) (fun e => .tuple #[rgV ⟨0, 0⟩, e]) (pReg d.b ts1))) := hide (fun V h hk => cRegOf R (xOf L d) (.slice ao no co) ts1 L.mb (d.b.size : Int) 64 d.b V h (by
    obtain ⟨⟨v, hb, _⟩, _⟩ := id h
    unfold rbO at hb
    exact (HD.out.turn HR.out hk).mb.ne hb) (HD.out.turn HR.out hk).mb.rm)
  cases h2 : pReg d.b ts1 with
  | no c t =>
    rw [h2] at M2
    unfold rgV at M2
    simp only at M2
    simp only
    go_enter Tryz.func91, Tryz.ntmps91
    go_wp2_with (first
      | (go_at_call 58; (with_reducible refine Calls.mono (M1.out w hR) ?_); rintro e w1 ⟨rfl, hr1, hk1⟩; obtain ⟨-, -, -, b3, b4, b5, -, -⟩ := hr1.cells; have hl1 := hr1.lt)
      | (go_at_call 111; (with_reducible refine Calls.mono (M2.out w1 hr1 hk1) ?_); rintro e w2 ⟨rfl, hn2, hk2⟩))
    go_ret
    exact ⟨rfl, ((hk1.trans hk2).alloc _).mono (by simp)⟩
  | ok r ts2 =>
  rw [h2] at M2
  simp only
  have hfs0 : r.fr + r.sz <= 64 := by
    unfold pReg at h2
    split at h2
    . cases h2
    . split at h2
      . cases h2
      . simp only [Res.ok.injEq] at h2
        rename_i hf
        rw [← h2.1]
        exact Nat.le_trans (hD.ok.rb _ _ hf).2 hD.ok.b
  obtain ⟨fr, sz⟩ := r
  have hfs : (⟨fr, sz⟩ : Rg).fr + (⟨fr, sz⟩ : Rg).sz <= 64 := hfs0
  unfold rgV at M2
  simp only at M2
  clear hfs0
  have M3 : Hid (∀ V, Rt V R (xOf L d) (.slice ao no co) ts2 -> Calls Tryz.prog 112 #[.pointer (some ⟨R, 0, none⟩), .agg #[.int .i64 (fr : Int), .int .i64 (sz : Int)]] V (PX R (xOf L d) (.slice ao no co) V (fun (n : Nat) => .tuple #[.int .i64 (n : Int), .nilIface]) bdI (pIdx ⟨fr, sz⟩ ts2))) := hide (fun V h => cIndex R (xOf L d) (.slice ao no co) ts2 ⟨fr, sz⟩ hfs V h)
  cases h3 : pIdx ⟨fr, sz⟩ ts2 with
  | no c t =>
    rw [h3] at M3
    simp only
    go_enter Tryz.func91, Tryz.ntmps91
    go_wp2_with (first
      | (go_at_call 58; (with_reducible refine Calls.mono (M1.out w hR) ?_); rintro e w1 ⟨rfl, hr1, hk1⟩; obtain ⟨-, -, -, b3, b4, b5, -, -⟩ := hr1.cells; have hl1 := hr1.lt)
      | (go_at_call 111; (with_reducible refine Calls.mono (M2.out w1 hr1 hk1) ?_); rintro e w2 ⟨rfl, hr2, hk2⟩; have hr2a := hr2.below (bnew w2 (.cells #[.int .i64 (fr : Int), .int .i64 (sz : Int)] 179)))
      | (go_at_call 112; (with_reducible refine Calls.mono (M3.out _ hr2a) ?_); rintro e w3 ⟨⟨z, rfl⟩, hn3, hk3⟩))
    go_ret
    exact ⟨rfl, (((hk1.trans hk2).alloc _).trans hk3).mono (by simp)⟩
  | ok i3 ts3 =>
  rw [h3] at M3
  simp only
  have M4 : Hid (∀ V, Rt V R (xOf L d) (.slice ao no co) ts3 -> Calls Tryz.prog 58 #[.pointer (some ⟨R, 0, none⟩), .slice (some ⟨V.heap.size, 0, none⟩) 1 1] (V.alloc (.cells #[.string ⟨#[61, 61]⟩] 9)) (PT R (xOf L d) (.slice ao no co) V (fun _ => .nilIface) id (pMks [[61, 61]] ts3))) := hide (fun V h => cMark1 R (xOf L d) (.slice ao no co) ts3 [61, 61] V h)
  cases h4 : pMks [[61, 61]] ts3 with
  | no c t =>
    rw [h4] at M4
    simp only
    go_enter Tryz.func91, Tryz.ntmps91
    go_wp2_with (first
      | (go_at_call 58; (with_reducible refine Calls.mono (M1.out w hR) ?_); rintro e w1 ⟨rfl, hr1, hk1⟩; obtain ⟨-, -, -, b3, b4, b5, -, -⟩ := hr1.cells; have hl1 := hr1.lt)
      | (go_at_call 111; (with_reducible refine Calls.mono (M2.out w1 hr1 hk1) ?_); rintro e w2 ⟨rfl, hr2, hk2⟩; have hr2a := hr2.below (bnew w2 (.cells #[.int .i64 (fr : Int), .int .i64 (sz : Int)] 179)))
      | (go_at_call 112; (with_reducible refine Calls.mono (M3.out _ hr2a) ?_); rintro e w3 ⟨rfl, hr3, hk3⟩)
      | (go_at_call 58; (with_reducible refine Calls.mono (M4.out w3 hr3) ?_); rintro e w4 ⟨rfl, hn4, hk4⟩))
    go_ret
    exact ⟨rfl, ((((hk1.trans hk2).alloc _).trans hk3).trans hk4).mono (by simp)⟩
  | ok u4 ts4 =>
  rw [h4] at M4
  simp only
  have M5 : Hid (∀ V, Rt V R (xOf L d) (.slice ao no co) ts4 -> Calls Tryz.prog 106 #[.pointer (some ⟨R, 0, none⟩), .int .i64 0, .int .i64 1] V (PT R (xOf L d) (.slice ao no co) V (fun (n : Nat) => .tuple #[.int .i64 (n : Int), .nilIface]) (fun e => .tuple #[.int .i64 0, e]) (pNum 0 1 ts4))) := hide (fun V h => cNumber R (xOf L d) (.slice ao no co) ts4 0 1 V h)
  cases h5 : pNum 0 1 ts4 with
  | no c t =>
    rw [h5] at M5
    simp only
    go_enter Tryz.func91, Tryz.ntmps91
    go_wp2_with (first
      | (go_at_call 58; (with_reducible refine Calls.mono (M1.out w hR) ?_); rintro e w1 ⟨rfl, hr1, hk1⟩; obtain ⟨-, -, -, b3, b4, b5, -, -⟩ := hr1.cells; have hl1 := hr1.lt)
      | (go_at_call 111; (with_reducible refine Calls.mono (M2.out w1 hr1 hk1) ?_); rintro e w2 ⟨rfl, hr2, hk2⟩; have hr2a := hr2.below (bnew w2 (.cells #[.int .i64 (fr : Int), .int .i64 (sz : Int)] 179)))
      | (go_at_call 112; (with_reducible refine Calls.mono (M3.out _ hr2a) ?_); rintro e w3 ⟨rfl, hr3, hk3⟩)
      | (go_at_call 58; (with_reducible refine Calls.mono (M4.out w3 hr3) ?_); rintro e w4 ⟨rfl, hr4, hk4⟩)
      | (go_at_call 106; (with_reducible refine Calls.mono (M5.out w4 hr4) ?_); rintro e w5 ⟨rfl, hn5, hk5⟩))
    go_ret
    exact ⟨rfl, (((((hk1.trans hk2).alloc _).trans hk3).trans hk4).trans hk5).mono (by simp)⟩
  | ok w5n ts5 =>
  rw [h5] at M5
  simp only
  have M6 : Hid (∀ V, Rt V R (xOf L d) (.slice ao no co) ts5 -> Calls Tryz.prog 58 #[.pointer (some ⟨R, 0, none⟩), .slice (some ⟨V.heap.size, 0, none⟩) 1 1] (V.alloc (.cells #[.string ⟨#[41]⟩] 9)) (PT R (xOf L d) (.slice ao no co) V (fun _ => .nilIface) id (pMks [[41]] ts5))) := hide (fun V h => cMark1 R (xOf L d) (.slice ao no co) ts5 [41] V h)
  cases h6 : pMks [[41]] ts5 with
  | no c t =>
    rw [h6] at M6
    simp only
    go_enter Tryz.func91, Tryz.ntmps91
    go_wp2_with (first
      | (go_at_call 58; (with_reducible refine Calls.mono (M1.out w hR) ?_); rintro e w1 ⟨rfl, hr1, hk1⟩; obtain ⟨-, -, -, b3, b4, b5, -, -⟩ := hr1.cells; have hl1 := hr1.lt)
      | (go_at_call 111; (with_reducible refine Calls.mono (M2.out w1 hr1 hk1) ?_); rintro e w2 ⟨rfl, hr2, hk2⟩; have hr2a := hr2.below (bnew w2 (.cells #[.int .i64 (fr : Int), .int .i64 (sz : Int)] 179)))
      | (go_at_call 112; (with_reducible refine Calls.mono (M3.out _ hr2a) ?_); rintro e w3 ⟨rfl, hr3, hk3⟩)
      | (go_at_call 58; (with_reducible refine Calls.mono (M4.out w3 hr3) ?_); rintro e w4 ⟨rfl, hr4, hk4⟩)
      | (go_at_call 106; (with_reducible refine Calls.mono (M5.out w4 hr4) ?_); rintro e w5 ⟨rfl, hr5, hk5⟩)
      | (go_at_call 58; (with_reducible refine Calls.mono (M6.out w5 hr5) ?_); rintro e w6 ⟨rfl, hn6, hk6⟩))
    go_ret
    exact ⟨rfl, ((((((hk1.trans hk2).alloc _).trans hk3).trans hk4).trans hk5).trans hk6).mono (by simp)⟩
  | ok u6 ts6 =>
  rw [h6] at M6
  simp only
  have M7 : Hid (∀ V, Rt V R (xOf L d) (.slice ao no co) ts6 -> Calls Tryz.prog 85 #[.pointer (some ⟨R, 0, none⟩)] V fun e w' => e = .returned (tkV (hd ts6)) /\ Rt w' R (xOf L d) (.slice ao no co) (tl ts6) /\ Kb [R] V w') := hide (fun V h => cTake R (xOf L d) (.slice ao no co) ts6 V h)
  have M8 : Hid (∀ V, Rt V R (xOf L d) (.slice ao no co) (tl ts6) -> Kb [R] w V -> (hd ts6).text.length <= 140737488355328 -> Calls Tryz.prog 95 #[.pointer (some ⟨R, 0, none⟩), tkV (hd ts6), .agg #[.int .i64 (i3 : Int), .int .i64 (w5n : Int)]] V (PC R L d w0.heap.size ao V (pCall d ops (hd ts6) ((i3 : Int), w5n) (tl ts6)))) := hide (fun V h hk hx => cCall w0 R L B N d ao no co ops (hd ts6) (tl ts6) (i3 : Int) w5n hx V (HD.out.turn HR.out hk) h (HO.out.turn HR.out hk) hno)
  generalize pCall d ops (hd ts6) ((i3 : Int), w5n) (tl ts6) = PP at *
  go_enter Tryz.func91, Tryz.ntmps91
  go_wp2_with (first
    | (go_at_call 58; (with_reducible refine Calls.mono (M1.out w hR) ?_); rintro e w1 ⟨rfl, hr1, hk1⟩; obtain ⟨-, -, -, b3, b4, b5, -, -⟩ := hr1.cells; have hl1 := hr1.lt)
    | (go_at_call 111; (with_reducible refine Calls.mono (M2.out w1 hr1 hk1) ?_); rintro e w2 ⟨rfl, hr2, hk2⟩; have hr2a := hr2.below (bnew w2 (.cells #[.int .i64 (fr : Int), .int .i64 (sz : Int)] 179)))
    | (go_at_call 112; (with_reducible refine Calls.mono (M3.out _ hr2a) ?_); rintro e w3 ⟨rfl, hr3, hk3⟩)
    | (go_at_call 58; (with_reducible refine Calls.mono (M4.out w3 hr3) ?_); rintro e w4 ⟨rfl, hr4, hk4⟩)
    | (go_at_call 106; (with_reducible refine Calls.mono (M5.out w4 hr4) ?_); rintro e w5 ⟨rfl, hr5, hk5⟩)
    | (go_at_call 58; (with_reducible refine Calls.mono (M6.out w5 hr5) ?_); rintro e w6 ⟨rfl, hr6, hk6⟩)
    | (go_at_call 85; (with_reducible refine Calls.mono (M7.out w6 hr6) ?_); rintro e w7 ⟨rfl, hr7, hk7⟩)
    | (go_at_call 95; (with_reducible refine Calls.mono (M8.out w7 hr7 (((((((hk1.trans hk2).alloc _).trans hk3).trans hk4).trans hk5).trans hk6).trans hk7) (Nat.le_trans hr6.fine.hd (by omega))) ?_); intro e w8 h8; obtain ⟨u, rfl⟩ := PC.val h8))
  go_ret
  exact PC.base (((((((hk1.trans hk2).alloc _).trans hk3).trans hk4).trans hk5).trans hk6).trans hk7) h8
theorem meas_keeps {w w1 w2 w3 w4 : World} {R : Nat} {c1 c2 c3 : Array Value} {t1 t2 t3 : TypeId} (hlt : R < w.heap.size) (hk1 : Kb [R] (w.alloc (.cells c1 t1)) w1) (hk2 : Kb [R] (w1.alloc (.cells c2 t2)) w2) (hk3 : Kb [R] w2 w3) (hk4 : Kb [R] (w3.alloc (.cells c3 t3)) w4) :
    w4.heap[w.heap.size]? = some (.cells c1 t1 (0, 0)) /\ w4.heap[w1.heap.size]? = some (.cells c2 t2 (0, 0)) /\ w4.heap[w3.heap.size]? = some (.cells c3 t3 (0, 0)) /\ w.heap.size < w1.heap.size /\ w1.heap.size < w3.heap.size /\ w3.heap.size < w4.heap.size := by
  have z1 := hk1.size
  have z2 := hk2.size
  have z3 := hk3.size
  have z4 := hk4.size
  simp only [World.size_alloc] at z1 z2 z4
  have g3 : ∀ b o, R < b -> b < w3.heap.size -> w3.heap[b]? = some o -> w4.heap[b]? = some o := fun b o hb hl h =>
    (hk4.block b (by simp only [World.size_alloc]; omega) (by simp; omega)).trans ((Below.heap_alloc _ _ _ hl).trans h)
  have g1 : ∀ b o, R < b -> b < w1.heap.size + 1 -> (w1.alloc (.cells c2 t2)).heap[b]? = some o -> w4.heap[b]? = some o := fun b o hb hl h =>
    g3 b o hb (by omega) ((hk3.block b (by omega) (by simp; omega)).trans ((hk2.block b (by simp only [World.size_alloc]; omega) (by simp; omega)).trans h))
  refine ⟨g1 _ _ hlt (by omega) ((Below.heap_alloc _ _ _ (by omega)).trans ((hk1.block _ (by simp only [World.size_alloc]; omega) (by simp; omega)).trans (heap_alloc_new _ _))), g1 _ _ (by omega) (by omega) (heap_alloc_new _ _), (hk4.block _ (by simp only [World.size_alloc]; omega) (by simp; omega)).trans (heap_alloc_new _ _), by omega, by omega, by omega⟩
theorem cMeasure_no (w0 : World) (R : Nat) (L : Ly) (B N : Nat) (d : Dc) (ao : Option Addr) (no co : Nat) (ops : List COp) (t : T) (ts : List T) (w : World) (hD : Rdr w0 w R L B N d) (hR : Rt w R (xOf L d) (.slice ao no co) ts) (hO : OpsAt w w0.heap.size ao no co ops) (hno : ops.length <= 4096) (c' : Nat) (t' : T) (hP : pMeasure d ops t ts = .no c' t') :
    Calls Tryz.prog 92 #[.pointer (some ⟨R, 0, none⟩), tkV t] w (PC R L d w0.heap.size ao w (.no c' t')) := by
  have hlt := hR.lt
  have eG := erG
  have eN := erN
  have HD := hide hD
  have HR := hide hR
  have HLN := hide hO.len
  obtain ⟨b0, b1, b2, -, -, -, -, -⟩ := hR.cells
  have c3 := fun W => cRefuse 85 t W
  have c4 := fun (V : World) (ts2 : List T) (n : Nat) (hn : no + n <= 4611686018427387904) (hr : Rt V R (xOf L d) (.slice ao no co) ts2) => cRoom R L d ao no co n t ts2 hn V hr
  unfold pMeasure at hP
  obtain ⟨kind, text, num, o', line, col⟩ := t
  unfold tkV at c3 c4 ⊢
  simp only at c3 c4 ⊢
  have hR0 : Rt (w.alloc (.cells #[.int .i64 (kind : Int), .string ⟨text.toArray⟩, .int .i64 (num : Int), .int .i64 (o' : Int), .int .i64 (line : Int), .int .i64 (col : Int)] 100)) R (xOf L d) (.slice ao no co) ts := hR.below (bnew _ _)
  have HW0 : Hid (Kb [R] w (w.alloc (.cells #[.int .i64 (kind : Int), .string ⟨text.toArray⟩, .int .i64 (num : Int), .int .i64 (o' : Int), .int .i64 (line : Int), .int .i64 (col : Int)] 100))) := hide (Kb.of_below (bnew _ _))
  have M1 : Hid (∀ V, Rt V R (xOf L d) (.slice ao no co) ts -> Kb [R] w V -> Calls Tryz.prog 113 #[.pointer (some ⟨R, 0, none⟩), .agg #[.map (some L.mq), .int .i64 (d.q.size : Int), .int .i64 64]] V (PX R (xOf L d) (.slice ao no co) V (fun a => .tuple #[agV a, .nilIface]) bdA (pArg d.q ts))) := hide (fun V h hk => cArg R (xOf L d) (.slice ao no co) ts L.mq (d.q.size : Int) 64 d.q (fun y r hf => Nat.le_trans (HD.out.ok.rq y r hf).2 HD.out.ok.q) V h (by
    obtain ⟨⟨v, hb, _⟩, _⟩ := id h
    unfold rbO at hb
    exact (HD.out.turn HR.out hk).mq.ne hb) (HD.out.turn HR.out hk).mq.rm)
  cases h1 : pArg d.q ts with
  | no c t =>
    rw [h1] at M1 hP
    simp only [Res.no.injEq] at hP
    obtain ⟨rfl, rfl⟩ := hP
    go_enter Tryz.func92, Tryz.ntmps92
    go_wp2_with (first
      | (go_at_call 113; (with_reducible refine Calls.mono (M1.out _ hR0 HW0.out) ?_); rintro e w1 ⟨⟨za, zb, zc, rfl⟩, hn1, hk1⟩))
    go_ret
    exact ⟨rfl, ((HW0.out.trans hk1).alloc _).mono (by simp)⟩
  | ok a ts1 =>
  rw [h1] at M1 hP
  simp only at hP
  have ha64 := pArg_bd hD.ok.rq hD.ok.q h1
  obtain ⟨fa, sa, wa⟩ := a
  replace ha64 : fa + sa <= 64 /\ 1 <= sa := ha64
  unfold agV at M1
  have M2 : Hid (∀ (V : World) (o1 : Obj), Rt (V.alloc o1) R (xOf L d) (.slice ao no co) ts1 -> Calls Tryz.prog 58 #[.pointer (some ⟨R, 0, none⟩), .slice (some ⟨V.heap.size + 1, 0, none⟩) 1 1] ((V.alloc o1).alloc (.cells #[.string ⟨#[45, 62]⟩] 9)) (PT R (xOf L d) (.slice ao no co) (V.alloc o1) (fun _ => .nilIface) id (pMks [[45, 62]] ts1))) := hide (fun V o1 h => by
    have := cMark1 R (xOf L d) (.slice ao no co) ts1 [45, 62] (V.alloc o1) h
    simp only [World.size_alloc] at this
    exact this)
  cases h2 : pMks [[45, 62]] ts1 with
  | no c t =>
    rw [h2] at M2 hP
    simp only [Res.no.injEq] at hP
    obtain ⟨rfl, rfl⟩ := hP
    go_enter Tryz.func92, Tryz.ntmps92
    go_wp2_with (first
      | (go_at_call 113; (with_reducible refine Calls.mono (M1.out _ hR0 HW0.out) ?_); rintro e w1 ⟨rfl, hr1, hk1⟩; have hr1a := hr1.below (bnew w1 (.cells #[.int .i64 (fa : Int), .int .i64 (sa : Int), .bool wa] 184)); have HK1 : Hid (Kb [R] w (w1.alloc (.cells #[.int .i64 (fa : Int), .int .i64 (sa : Int), .bool wa] 184))) := hide ((HW0.out.trans hk1).alloc _))
      | (go_at_call 58; (with_reducible refine Calls.mono (M2.out w1 _ hr1a) ?_); rintro e w2 ⟨rfl, hn2, hk2⟩))
    go_ret
    exact ⟨rfl, (HK1.out.trans hk2).mono (by simp)⟩
  | ok u2 ts2 =>
  rw [h2] at M2 hP
  simp only at hP
  have M3 : Hid (∀ V, Rt V R (xOf L d) (.slice ao no co) ts2 -> Kb [R] w V -> Calls Tryz.prog 113 #[.pointer (some ⟨R, 0, none⟩), .agg #[.map (some L.mb), .int .i64 (d.b.size : Int), .int .i64 64]] V (PX R (xOf L d) (.slice ao no co) V (fun a => .tuple #[agV a, .nilIface]) bdA (pArg d.b ts2))) := hide (fun V h hk => cArg R (xOf L d) (.slice ao no co) ts2 L.mb (d.b.size : Int) 64 d.b (fun y r hf => Nat.le_trans (HD.out.ok.rb y r hf).2 HD.out.ok.b) V h (by
    obtain ⟨⟨v, hb, _⟩, _⟩ := id h
    unfold rbO at hb
    exact (HD.out.turn HR.out hk).mb.ne hb) (HD.out.turn HR.out hk).mb.rm)
  cases h3 : pArg d.b ts2 with
  | no c t =>
    rw [h3] at M3 hP
    simp only [Res.no.injEq] at hP
    obtain ⟨rfl, rfl⟩ := hP
    go_enter Tryz.func92, Tryz.ntmps92
    go_wp2_with (first
      | (go_at_call 113; (with_reducible refine Calls.mono (M1.out _ hR0 HW0.out) ?_); rintro e w1 ⟨rfl, hr1, hk1⟩; have hr1a := hr1.below (bnew w1 (.cells #[.int .i64 (fa : Int), .int .i64 (sa : Int), .bool wa] 184)); have HK1 : Hid (Kb [R] w (w1.alloc (.cells #[.int .i64 (fa : Int), .int .i64 (sa : Int), .bool wa] 184))) := hide ((HW0.out.trans hk1).alloc _))
      | (go_at_call 58; (with_reducible refine Calls.mono (M2.out w1 _ hr1a) ?_); rintro e w2 ⟨rfl, hr2, hk2⟩; obtain ⟨-, -, -, b3, b4, b5, -, -⟩ := hr2.cells; have hl2 := hr2.lt; have HK2 : Hid (Kb [R] w w2) := hide (HK1.out.trans hk2))
      | (go_at_call 113; (with_reducible refine Calls.mono (M3.out w2 hr2 HK2.out) ?_); rintro e w3 ⟨⟨za, zb, zc, rfl⟩, hn3, hk3⟩))
    go_ret
    exact ⟨rfl, ((HK2.out.trans hk3).alloc _).mono (by simp)⟩
  | ok b ts3 =>
  rw [h3] at M3 hP
  simp only at hP
  have hb64 := pArg_bd hD.ok.rb hD.ok.b h3
  obtain ⟨fb, sb, wb⟩ := b
  replace hb64 : fb + sb <= 64 /\ 1 <= sb := hb64
  unfold agV at M3
  have M4 : Hid (∀ (V : World) (o1 : Obj), Rt (V.alloc o1) R (xOf L d) (.slice ao no co) ts3 -> Calls Tryz.prog 58 #[.pointer (some ⟨R, 0, none⟩), .slice (some ⟨V.heap.size + 1, 0, none⟩) 1 1] ((V.alloc o1).alloc (.cells #[.string ⟨#[59]⟩] 9)) (PT R (xOf L d) (.slice ao no co) (V.alloc o1) (fun _ => .nilIface) id (pMks [[59]] ts3))) := hide (fun V o1 h => by
    have := cMark1 R (xOf L d) (.slice ao no co) ts3 [59] (V.alloc o1) h
    simp only [World.size_alloc] at this
    exact this)
  cases h4 : pMks [[59]] ts3 with
  | no c t =>
    rw [h4] at M4 hP
    simp only [Res.no.injEq] at hP
    obtain ⟨rfl, rfl⟩ := hP
    go_enter Tryz.func92, Tryz.ntmps92
    go_wp2_with (first
      | (go_at_call 113; (with_reducible refine Calls.mono (M1.out _ hR0 HW0.out) ?_); rintro e w1 ⟨rfl, hr1, hk1⟩; have hr1a := hr1.below (bnew w1 (.cells #[.int .i64 (fa : Int), .int .i64 (sa : Int), .bool wa] 184)); have HK1 : Hid (Kb [R] w (w1.alloc (.cells #[.int .i64 (fa : Int), .int .i64 (sa : Int), .bool wa] 184))) := hide ((HW0.out.trans hk1).alloc _))
      | (go_at_call 58; (with_reducible refine Calls.mono (M2.out w1 _ hr1a) ?_); rintro e w2 ⟨rfl, hr2, hk2⟩; obtain ⟨-, -, -, b3, b4, b5, -, -⟩ := hr2.cells; have hl2 := hr2.lt; have HK2 : Hid (Kb [R] w w2) := hide (HK1.out.trans hk2))
      | (go_at_call 113; (with_reducible refine Calls.mono (M3.out w2 hr2 HK2.out) ?_); rintro e w3 ⟨rfl, hr3, hk3⟩; have hr3a := hr3.below (bnew w3 (.cells #[.int .i64 (fb : Int), .int .i64 (sb : Int), .bool wb] 184)); have HK3 : Hid (Kb [R] w (w3.alloc (.cells #[.int .i64 (fb : Int), .int .i64 (sb : Int), .bool wb] 184))) := hide ((HK2.out.trans hk3).alloc _))
      | (go_at_call 58; (with_reducible refine Calls.mono (M4.out w3 _ hr3a) ?_); rintro e w4 ⟨rfl, hn4, hk4⟩))
    go_ret
    exact ⟨rfl, (HK3.out.trans hk4).mono (by simp)⟩
  | ok u4 ts4 =>
  rw [h4] at M4 hP
  simp only at hP
  have hno2 : no <= 4096 := by rw [HLN.out]; exact hno
  clear hO
  by_cases h5 : wa ≠ wb ∨ sa ≠ sb
  . rw [if_pos h5] at hP
    simp only [Res.no.injEq] at hP
    obtain ⟨rfl, rfl⟩ := hP
    clear c4
    cases wa with
    | true =>
      cases wb with
      | true =>
        have hs : sa ≠ sb := by simpa using h5
        have e1 : ((sa : Int) != (sb : Int)) = true := by simp; omega
        have e2 : ((sa : Int) == (sb : Int)) = false := by simp; omega
        clear h5 hs
        go_enter Tryz.func92, Tryz.ntmps92
        go_wp2_with (first
          | (go_at_call 113; (with_reducible refine Calls.mono (M1.out _ hR0 HW0.out) ?_); rintro e w1 ⟨rfl, hr1, hk1⟩; have hr1a := hr1.below (bnew w1 (.cells #[.int .i64 (fa : Int), .int .i64 (sa : Int), .bool true] 184)); have HK1 : Hid (Kb [R] w (w1.alloc (.cells #[.int .i64 (fa : Int), .int .i64 (sa : Int), .bool true] 184))) := hide ((HW0.out.trans hk1).alloc _))
          | (go_at_call 58; (with_reducible refine Calls.mono (M2.out w1 _ hr1a) ?_); rintro e w2 ⟨rfl, hr2, hk2⟩; obtain ⟨-, -, -, b3, b4, b5, -, -⟩ := hr2.cells; have hl2 := hr2.lt; have HK2 : Hid (Kb [R] w w2) := hide (HK1.out.trans hk2))
          | (go_at_call 113; (with_reducible refine Calls.mono (M3.out w2 hr2 HK2.out) ?_); rintro e w3 ⟨rfl, hr3, hk3⟩; have hr3a := hr3.below (bnew w3 (.cells #[.int .i64 (fb : Int), .int .i64 (sb : Int), .bool true] 184)); have HK3 : Hid (Kb [R] w (w3.alloc (.cells #[.int .i64 (fb : Int), .int .i64 (sb : Int), .bool true] 184))) := hide ((HK2.out.trans hk3).alloc _))
          | (go_at_call 58; (with_reducible refine Calls.mono (M4.out w3 _ hr3a) ?_); rintro e w4 ⟨rfl, hr4, hk4⟩; obtain ⟨k1, k2, k3, k4, k5, k6⟩ := meas_keeps hlt hk1 hk2 hk3 hk4; obtain ⟨q0, q1, q2, q3, q4, q5, q6⟩ := tok_cells k1; obtain ⟨x0, x1, x2, x3⟩ := def_cells k2; obtain ⟨y0, y1, y2, y3⟩ := def_cells k3; have HK4 : Hid (Kb [R] w w4) := hide (HK3.out.trans hk4))
          | (go_at_call 87; refine (c3 _).mono ?_; rintro e w6 ⟨rfl, hb6⟩))
        go_ret
        exact ⟨rfl, (HK4.out.then_below hb6).mono (by simp)⟩
      | false =>
        clear h5
        go_enter Tryz.func92, Tryz.ntmps92
        go_wp2_with (first
          | (go_at_call 113; (with_reducible refine Calls.mono (M1.out _ hR0 HW0.out) ?_); rintro e w1 ⟨rfl, hr1, hk1⟩; have hr1a := hr1.below (bnew w1 (.cells #[.int .i64 (fa : Int), .int .i64 (sa : Int), .bool true] 184)); have HK1 : Hid (Kb [R] w (w1.alloc (.cells #[.int .i64 (fa : Int), .int .i64 (sa : Int), .bool true] 184))) := hide ((HW0.out.trans hk1).alloc _))
          | (go_at_call 58; (with_reducible refine Calls.mono (M2.out w1 _ hr1a) ?_); rintro e w2 ⟨rfl, hr2, hk2⟩; obtain ⟨-, -, -, b3, b4, b5, -, -⟩ := hr2.cells; have hl2 := hr2.lt; have HK2 : Hid (Kb [R] w w2) := hide (HK1.out.trans hk2))
          | (go_at_call 113; (with_reducible refine Calls.mono (M3.out w2 hr2 HK2.out) ?_); rintro e w3 ⟨rfl, hr3, hk3⟩; have hr3a := hr3.below (bnew w3 (.cells #[.int .i64 (fb : Int), .int .i64 (sb : Int), .bool false] 184)); have HK3 : Hid (Kb [R] w (w3.alloc (.cells #[.int .i64 (fb : Int), .int .i64 (sb : Int), .bool false] 184))) := hide ((HK2.out.trans hk3).alloc _))
          | (go_at_call 58; (with_reducible refine Calls.mono (M4.out w3 _ hr3a) ?_); rintro e w4 ⟨rfl, hr4, hk4⟩; obtain ⟨k1, k2, k3, k4, k5, k6⟩ := meas_keeps hlt hk1 hk2 hk3 hk4; obtain ⟨q0, q1, q2, q3, q4, q5, q6⟩ := tok_cells k1; obtain ⟨x0, x1, x2, x3⟩ := def_cells k2; obtain ⟨y0, y1, y2, y3⟩ := def_cells k3; have HK4 : Hid (Kb [R] w w4) := hide (HK3.out.trans hk4))
          | (go_at_call 87; refine (c3 _).mono ?_; rintro e w6 ⟨rfl, hb6⟩))
        go_ret
        exact ⟨rfl, (HK4.out.then_below hb6).mono (by simp)⟩
    | false =>
      cases wb with
      | false =>
        have hs : sa ≠ sb := by simpa using h5
        have e1 : ((sa : Int) != (sb : Int)) = true := by simp; omega
        have e2 : ((sa : Int) == (sb : Int)) = false := by simp; omega
        clear h5 hs
        go_enter Tryz.func92, Tryz.ntmps92
        go_wp2_with (first
          | (go_at_call 113; (with_reducible refine Calls.mono (M1.out _ hR0 HW0.out) ?_); rintro e w1 ⟨rfl, hr1, hk1⟩; have hr1a := hr1.below (bnew w1 (.cells #[.int .i64 (fa : Int), .int .i64 (sa : Int), .bool false] 184)); have HK1 : Hid (Kb [R] w (w1.alloc (.cells #[.int .i64 (fa : Int), .int .i64 (sa : Int), .bool false] 184))) := hide ((HW0.out.trans hk1).alloc _))
          | (go_at_call 58; (with_reducible refine Calls.mono (M2.out w1 _ hr1a) ?_); rintro e w2 ⟨rfl, hr2, hk2⟩; obtain ⟨-, -, -, b3, b4, b5, -, -⟩ := hr2.cells; have hl2 := hr2.lt; have HK2 : Hid (Kb [R] w w2) := hide (HK1.out.trans hk2))
          | (go_at_call 113; (with_reducible refine Calls.mono (M3.out w2 hr2 HK2.out) ?_); rintro e w3 ⟨rfl, hr3, hk3⟩; have hr3a := hr3.below (bnew w3 (.cells #[.int .i64 (fb : Int), .int .i64 (sb : Int), .bool false] 184)); have HK3 : Hid (Kb [R] w (w3.alloc (.cells #[.int .i64 (fb : Int), .int .i64 (sb : Int), .bool false] 184))) := hide ((HK2.out.trans hk3).alloc _))
          | (go_at_call 58; (with_reducible refine Calls.mono (M4.out w3 _ hr3a) ?_); rintro e w4 ⟨rfl, hr4, hk4⟩; obtain ⟨k1, k2, k3, k4, k5, k6⟩ := meas_keeps hlt hk1 hk2 hk3 hk4; obtain ⟨q0, q1, q2, q3, q4, q5, q6⟩ := tok_cells k1; obtain ⟨x0, x1, x2, x3⟩ := def_cells k2; obtain ⟨y0, y1, y2, y3⟩ := def_cells k3; have HK4 : Hid (Kb [R] w w4) := hide (HK3.out.trans hk4))
          | (go_at_call 87; refine (c3 _).mono ?_; rintro e w6 ⟨rfl, hb6⟩))
        go_ret
        exact ⟨rfl, (HK4.out.then_below hb6).mono (by simp)⟩
      | true =>
        clear h5
        go_enter Tryz.func92, Tryz.ntmps92
        go_wp2_with (first
          | (go_at_call 113; (with_reducible refine Calls.mono (M1.out _ hR0 HW0.out) ?_); rintro e w1 ⟨rfl, hr1, hk1⟩; have hr1a := hr1.below (bnew w1 (.cells #[.int .i64 (fa : Int), .int .i64 (sa : Int), .bool false] 184)); have HK1 : Hid (Kb [R] w (w1.alloc (.cells #[.int .i64 (fa : Int), .int .i64 (sa : Int), .bool false] 184))) := hide ((HW0.out.trans hk1).alloc _))
          | (go_at_call 58; (with_reducible refine Calls.mono (M2.out w1 _ hr1a) ?_); rintro e w2 ⟨rfl, hr2, hk2⟩; obtain ⟨-, -, -, b3, b4, b5, -, -⟩ := hr2.cells; have hl2 := hr2.lt; have HK2 : Hid (Kb [R] w w2) := hide (HK1.out.trans hk2))
          | (go_at_call 113; (with_reducible refine Calls.mono (M3.out w2 hr2 HK2.out) ?_); rintro e w3 ⟨rfl, hr3, hk3⟩; have hr3a := hr3.below (bnew w3 (.cells #[.int .i64 (fb : Int), .int .i64 (sb : Int), .bool true] 184)); have HK3 : Hid (Kb [R] w (w3.alloc (.cells #[.int .i64 (fb : Int), .int .i64 (sb : Int), .bool true] 184))) := hide ((HK2.out.trans hk3).alloc _))
          | (go_at_call 58; (with_reducible refine Calls.mono (M4.out w3 _ hr3a) ?_); rintro e w4 ⟨rfl, hr4, hk4⟩; obtain ⟨k1, k2, k3, k4, k5, k6⟩ := meas_keeps hlt hk1 hk2 hk3 hk4; obtain ⟨q0, q1, q2, q3, q4, q5, q6⟩ := tok_cells k1; obtain ⟨x0, x1, x2, x3⟩ := def_cells k2; obtain ⟨y0, y1, y2, y3⟩ := def_cells k3; have HK4 : Hid (Kb [R] w w4) := hide (HK3.out.trans hk4))
          | (go_at_call 87; refine (c3 _).mono ?_; rintro e w6 ⟨rfl, hb6⟩))
        go_ret
        exact ⟨rfl, (HK4.out.then_below hb6).mono (by simp)⟩
  . rw [if_neg h5] at hP
    simp only [not_or, Classical.not_not] at h5
    obtain ⟨rfl, rfl⟩ := h5
    by_cases h6 : 4096 < ops.length + sa
    . rw [if_pos h6] at hP
      simp only [Res.no.injEq] at hP
      obtain ⟨rfl, rfl⟩ := hP
      have H5 : Hid (4096 < no + sa) := hide (by rw [HLN.out]; exact h6)
      clear h6 c3
      cases wa with
      | true =>
        go_enter Tryz.func92, Tryz.ntmps92
        go_wp2_with (first
          | (go_at_call 113; (with_reducible refine Calls.mono (M1.out _ hR0 HW0.out) ?_); rintro e w1 ⟨rfl, hr1, hk1⟩; have hr1a := hr1.below (bnew w1 (.cells #[.int .i64 (fa : Int), .int .i64 (sa : Int), .bool true] 184)); have HK1 : Hid (Kb [R] w (w1.alloc (.cells #[.int .i64 (fa : Int), .int .i64 (sa : Int), .bool true] 184))) := hide ((HW0.out.trans hk1).alloc _))
          | (go_at_call 58; (with_reducible refine Calls.mono (M2.out w1 _ hr1a) ?_); rintro e w2 ⟨rfl, hr2, hk2⟩; obtain ⟨-, -, -, b3, b4, b5, -, -⟩ := hr2.cells; have hl2 := hr2.lt; have HK2 : Hid (Kb [R] w w2) := hide (HK1.out.trans hk2))
          | (go_at_call 113; (with_reducible refine Calls.mono (M3.out w2 hr2 HK2.out) ?_); rintro e w3 ⟨rfl, hr3, hk3⟩; have hr3a := hr3.below (bnew w3 (.cells #[.int .i64 (fb : Int), .int .i64 (sa : Int), .bool true] 184)); have HK3 : Hid (Kb [R] w (w3.alloc (.cells #[.int .i64 (fb : Int), .int .i64 (sa : Int), .bool true] 184))) := hide ((HK2.out.trans hk3).alloc _))
          | (go_at_call 58; (with_reducible refine Calls.mono (M4.out w3 _ hr3a) ?_); rintro e w4 ⟨rfl, hr4, hk4⟩; obtain ⟨k1, k2, k3, k4, k5, k6⟩ := meas_keeps hlt hk1 hk2 hk3 hk4; obtain ⟨q0, q1, q2, q3, q4, q5, q6⟩ := tok_cells k1; obtain ⟨x0, x1, x2, x3⟩ := def_cells k2; obtain ⟨y0, y1, y2, y3⟩ := def_cells k3; have HK4 : Hid (Kb [R] w w4) := hide (HK3.out.trans hk4))
          | (go_at_call 114; refine (c4 w4 ts4 sa (by omega) hr4).mono ?_; rw [if_pos H5.out]; rintro e w6 ⟨rfl, hb6⟩))
        go_ret
        exact ⟨rfl, (HK4.out.then_below hb6).mono (by simp)⟩
      | false =>
        go_enter Tryz.func92, Tryz.ntmps92
        go_wp2_with (first
          | (go_at_call 113; (with_reducible refine Calls.mono (M1.out _ hR0 HW0.out) ?_); rintro e w1 ⟨rfl, hr1, hk1⟩; have hr1a := hr1.below (bnew w1 (.cells #[.int .i64 (fa : Int), .int .i64 (sa : Int), .bool false] 184)); have HK1 : Hid (Kb [R] w (w1.alloc (.cells #[.int .i64 (fa : Int), .int .i64 (sa : Int), .bool false] 184))) := hide ((HW0.out.trans hk1).alloc _))
          | (go_at_call 58; (with_reducible refine Calls.mono (M2.out w1 _ hr1a) ?_); rintro e w2 ⟨rfl, hr2, hk2⟩; obtain ⟨-, -, -, b3, b4, b5, -, -⟩ := hr2.cells; have hl2 := hr2.lt; have HK2 : Hid (Kb [R] w w2) := hide (HK1.out.trans hk2))
          | (go_at_call 113; (with_reducible refine Calls.mono (M3.out w2 hr2 HK2.out) ?_); rintro e w3 ⟨rfl, hr3, hk3⟩; have hr3a := hr3.below (bnew w3 (.cells #[.int .i64 (fb : Int), .int .i64 (sa : Int), .bool false] 184)); have HK3 : Hid (Kb [R] w (w3.alloc (.cells #[.int .i64 (fb : Int), .int .i64 (sa : Int), .bool false] 184))) := hide ((HK2.out.trans hk3).alloc _))
          | (go_at_call 58; (with_reducible refine Calls.mono (M4.out w3 _ hr3a) ?_); rintro e w4 ⟨rfl, hr4, hk4⟩; obtain ⟨k1, k2, k3, k4, k5, k6⟩ := meas_keeps hlt hk1 hk2 hk3 hk4; obtain ⟨q0, q1, q2, q3, q4, q5, q6⟩ := tok_cells k1; obtain ⟨x0, x1, x2, x3⟩ := def_cells k2; obtain ⟨y0, y1, y2, y3⟩ := def_cells k3; have HK4 : Hid (Kb [R] w w4) := hide (HK3.out.trans hk4))
          | (go_at_call 114; refine (c4 w4 ts4 sa (by omega) hr4).mono ?_; rw [if_pos H5.out]; rintro e w6 ⟨rfl, hb6⟩))
        go_ret
        exact ⟨rfl, (HK4.out.then_below hb6).mono (by simp)⟩
    . rw [if_neg h6] at hP
      cases hP
end Go.Proofs.YtnghfdnlcnocjaaGreatDoor.Cir
