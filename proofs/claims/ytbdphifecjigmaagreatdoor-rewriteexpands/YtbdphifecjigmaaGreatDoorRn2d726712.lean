import Derived.Test.YtbdphifecjigmaaGreatDoorRn59f809d0
import Derived.Test.YtbdphifecjigmaaGreatDoorRn63fc76d5
namespace Go.Proofs.YtbdphifecjigmaaGreatDoor.Cir
end Go.Proofs.YtbdphifecjigmaaGreatDoor.Cir
namespace Go.Proofs.YtbdphifecjigmaaGreatDoor.Gt
end Go.Proofs.YtbdphifecjigmaaGreatDoor.Gt
namespace Go.Proofs.YtbdphifecjigmaaGreatDoor.Oct
end Go.Proofs.YtbdphifecjigmaaGreatDoor.Oct
namespace Go.Proofs.YtbdphifecjigmaaGreatDoor.Tok
end Go.Proofs.YtbdphifecjigmaaGreatDoor.Tok
set_option maxRecDepth 100000
set_option maxHeartbeats 4000000
namespace Go.Proofs.YtbdphifecjigmaaGreatDoor.Rwt
open Go.RowKit Go.Shelf Go.Proofs.YtbdphifecjigmaaGreatDoor.Oct Go.Proofs.YtbdphifecjigmaaGreatDoor.Tok Go.Proofs.YtbdphifecjigmaaGreatDoor.Gt Go.Proofs.YtbdphifecjigmaaGreatDoor.Cir
theorem xNum18 (n : Int) (w : World) : Calls Tryz.prog 7 #[.int .i64 n] w fun e w' => e = .returned (.int .i64 n) /\ w' = w := by
  go_enter Tryz.func7, Tryz.ntmps7
  go_wp2_with fail
  go_ret
  exact ⟨rfl, rfl⟩
theorem box_below {w V : World} {g : Nat} {cs : Array Value} {t : TypeId} (h : w.heap[g]? = some (.cells cs t (0, 0))) (hb : Below w.heap.size w V) : V.heap[g]? = some (.cells cs t (0, 0)) := (hb.block _ (Array.getElem?_eq_some_iff.1 h).1).trans h
theorem xRewriteExpands (c : Circ) (ao : Option Addr) (k : Nat) (w : World) (hT : Tw w) (hC : Ci w c ao k) (hS : Szs c.ops) : Calls Tryz.prog 3 #[cV c ao k] w fun e w' => e = .returned (.bool true) /\ Below w.heap.size w w' := by
  have c1 := fun V (h : Below w.heap.size w V) => eCopyO c ao k hS V (hC.below h)
  have c2 := fun V (h : Below w.heap.size w V) => rEx c ao k V (hT.below h).tb (hC.below h)
  have c3 := fun V (h : Below w.heap.size w V) => dEx c ao k V (hC.below h) hS
  have c5 := fun V (h : Below w.heap.size w V) => xAlive V (hT.below h)
  have c6 := xNum18
  have HCI := hide (fun V (h : Below w.heap.size w V) => hC.below h)
  have HKI := hide (fun (V : World) (B : Nat) (bo : Option Addr) (j : Nat) (h : OpsOwn V B bo c.ops.length j c.ops) => ci_szs hS h)
  have HRI := hide (fun (V : World) (B : Nat) (bo : Option Addr) (j : Nat) (h : OpsOwn V B bo (exR c).1.ops.length j (exR c).1.ops) => exr_ci hS h)
  obtain ⟨hRn, hRq⟩ := exr_bd c hS
  unfold XPost at c2 c3
  generalize exR c = RR at *
  obtain ⟨R, E⟩ := RR
  simp only at hRn hRq c2 c3 HRI
  have HRQ : Hid (∀ m ∈ R.ops.map (·.qs.length), m <= 1000000000000000) := hide (fun m hm => by
    obtain ⟨o, ho, rfl⟩ := List.mem_map.1 hm
    exact hRq o ho)
  have HSame : Hid (∀ (V : World) (b2 b3 : Option Addr) (j2 j3 : Nat), Ci V R b2 j2 -> Ci V R b3 j3 -> Calls Tryz.prog 8 #[cV R b2 j2, cV R b3 j3] V fun e w' => e = .returned (.bool true) /\ Below V.heap.size V w') := hide (fun V b2 b3 j2 j3 h2 h3 => by
    have := eSame R R b2 b3 j2 j3 V h2 h3
    simpa using this)
  have HOwn : Hid (∀ (V0 V : World) (b1 b2 : Option Addr) (j1 j2 : Nat) (B E' : Nat), Ci V0 c ao k -> Ci V0 c b1 j1 -> Below V0.heap.size V0 V -> V0.heap.size <= B -> DOwn V B E' b2 R.ops.length j2 (R.ops.map (·.qs.length)) -> E' <= V.heap.size -> Calls Tryz.prog 9 #[cV c ao k, cV R b2 j2, cV c b1 j1] V fun e w' => e = .returned (.bool true) /\ Below V0.heap.size V0 w') := hide (fun V0 V b1 b2 j1 j2 B E' h1 h2 h3 h4 h5 h6 => by
    have := wOwn c c ao b1 k j1 R.q R.b b2 R.ops.length j2 _ B E' V0 V hRn HRQ.out h1 h2 h3 h4 h5 h6
    simp only [eq_self, decide_true] at this
    exact this)
  clear hT hC hS hRq HRQ
  have hb1 := bnew w (.cells #[.int .i64 c.q, .int .i64 c.b, .slice ao c.ops.length k] 24)
  have hx1 : (w.alloc (.cells #[.int .i64 c.q, .int .i64 c.b, .slice ao c.ops.length k] 24)).heap[w.heap.size]? = some (.cells #[.int .i64 c.q, .int .i64 c.b, .slice ao c.ops.length k] 24 (0, 0)) := heap_alloc_new _ _
  have HB1 := hide hb1
  have HX1 := hide hx1
  obtain ⟨x0, x1, x2, x3⟩ := def_cells hx1
  clear hb1 hx1
  have HRn := hide hRn
  clear hRn
  obtain ⟨q, b, ops⟩ := c
  obtain ⟨rq, rb, rops⟩ := R
  unfold cV at *
  simp only at *
  generalize hn : ops.length = n at *
  generalize hm : rops.length = m at *
  have HN := hide hn
  have HM := hide hm
  clear hn hm
  go_enter Tryz.func3, Tryz.ntmps3
  go_wp2_with (first
    | (go_at_call 4; refine (c1 _ HB1.out).mono ?_; rintro e w2 ⟨b1, j1, rfl, ho2, hb2⟩; have hnew := bnew w2 (.cells #[.int .i64 q, .int .i64 b, .slice b1 n j1] 24); have HB3 := hide (bkp (bkp HB1.out hb2) hnew); have HX3 := hide (box_below (box_below HX1.out hb2) hnew); have HY3 : Hid ((w2.alloc (.cells #[.int .i64 q, .int .i64 b, .slice b1 n j1] 24)).heap[w2.heap.size]? = some (.cells #[.int .i64 q, .int .i64 b, .slice b1 n j1] 24 (0, 0))) := hide (heap_alloc_new _ _); have HK3 := hide (HKI.out _ _ _ _ (ho2.below hnew)); have HC3 := hide (HCI.out _ HB3.out); clear ho2 hb2 hnew HX1 HB1 c1 x0 x1 x2 x3; obtain ⟨x0, x1, x2, x3⟩ := def_cells HX3.out)
    | (go_at_call 5; refine (c2 _ HB3.out).mono ?_; rintro e w4 ⟨b2, j2, rfl, ho4, hb4⟩; have hnew := bnew w4 (.cells #[.int .i64 rq, .int .i64 rb, .slice b2 m j2] 24); have HV5 := hide (bkp hb4 hnew); have HB5 := hide (bkp HB3.out HV5.out); have HX5 := hide (box_below HX3.out HV5.out); have HY5 := hide (box_below HY3.out HV5.out); have HZ5 : Hid ((w4.alloc (.cells #[.int .i64 rq, .int .i64 rb, .slice b2 m j2] 24)).heap[w4.heap.size]? = some (.cells #[.int .i64 rq, .int .i64 rb, .slice b2 m j2] 24 (0, 0))) := hide (heap_alloc_new _ _); have HR5 := hide (HRI.out _ _ _ _ (ho4.below hnew)); have HD5 := hide (ho4.down); have HN5 := hide hnew; clear ho4 hb4 hnew HX3 HY3 c2 x0 x1 x2 x3; obtain ⟨x0, x1, x2, x3⟩ := def_cells HX5.out)
    | (go_at_call 6; refine (c3 _ HB5.out).mono ?_; rintro e w6 ⟨b3, j3, rfl, ho6, hb6⟩; have hnew := bnew w6 (.cells #[.int .i64 rq, .int .i64 rb, .slice b3 m j3] 24); have HW7 := hide (bkp hb6 hnew); have HV7 := hide (bkp HV5.out HW7.out); have HX7 := hide (box_below HX5.out HW7.out); have HY7 := hide (box_below HY5.out HW7.out); have HZ7 := hide (box_below HZ5.out HW7.out); have HU7 : Hid ((w6.alloc (.cells #[.int .i64 rq, .int .i64 rb, .slice b3 m j3] 24)).heap[w6.heap.size]? = some (.cells #[.int .i64 rq, .int .i64 rb, .slice b3 m j3] 24 (0, 0))) := hide (heap_alloc_new _ _); have HR7 := hide (HR5.out.below HW7.out); have HS7 := hide (HRI.out _ _ _ _ (ho6.below hnew)); have HD7 := hide (HD5.out.kept (fun g _ hg => (bkp HN5.out HW7.out).block g hg)); have HE7 := hide (bkp HN5.out HW7.out).size; clear ho6 hb6 hnew HX5 HY5 HZ5 HR5 HD5 HN5 HB5 HV5 c3 x0 x1 x2 x3; obtain ⟨x0, x1, x2, x3⟩ := def_cells HX7.out; obtain ⟨y0, y1, y2, y3⟩ := def_cells HY7.out; obtain ⟨z0, z1, z2, z3⟩ := def_cells HZ7.out; obtain ⟨u0, u1, u2, u3⟩ := def_cells HU7.out)
    | (go_at_call 7; refine (c6 _ _).mono ?_; rintro e y ⟨rfl, rfl⟩)
    | (go_at_call 8; refine (HSame.out _ _ _ _ _ HR7.out HS7.out).mono ?_; rintro e w8 ⟨rfl, hb8⟩; have HV8 := hide (bkp HV7.out hb8); have HX8 := hide (box_below HX7.out hb8); have HY8 := hide (box_below HY7.out hb8); have HZ8 := hide (box_below HZ7.out hb8); have HD8 := hide (HD7.out.kept (fun g _ hg => hb8.block g (Nat.lt_of_lt_of_le hg HE7.out))); have HE8 := hide (Nat.le_trans HE7.out hb8.size); clear hb8 HX7 HY7 HZ7 HU7 HR7 HS7 HD7 HE7 HV7 x0 x1 x2 x3 y0 y1 y2 y3 z0 z1 z2 z3 u0 u1 u2 u3; obtain ⟨x0, x1, x2, x3⟩ := def_cells HX8.out; obtain ⟨y0, y1, y2, y3⟩ := def_cells HY8.out; obtain ⟨z0, z1, z2, z3⟩ := def_cells HZ8.out)
    | (go_at_call 9; refine (HOwn.out _ _ _ _ _ _ _ _ HC3.out HK3.out HV8.out (Nat.le_refl _) HD8.out HE8.out).mono ?_; rintro e w9 ⟨rfl, hb9⟩; have HB9 := hide (bkp HB3.out hb9); clear hb9)
    | (go_at_call 10; refine (c5 _ HB9.out).mono ?_; rintro e w10 ⟨rfl, hb10⟩; have HB10 := hide (bkp HB9.out hb10)))
  go_ret
  exact ⟨rfl, HB10.out⟩
end Go.Proofs.YtbdphifecjigmaaGreatDoor.Rwt
