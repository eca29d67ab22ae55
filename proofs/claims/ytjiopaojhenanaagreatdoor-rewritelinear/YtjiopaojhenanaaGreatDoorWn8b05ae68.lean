import Derived.Test.YtjiopaojhenanaaGreatDoorWne8fad1ca
import Derived.Test.YtjiopaojhenanaaGreatDoorWnd0e0a47d
namespace Go.Proofs.YtjiopaojhenanaaGreatDoor.Cir
end Go.Proofs.YtjiopaojhenanaaGreatDoor.Cir
namespace Go.Proofs.YtjiopaojhenanaaGreatDoor.Gt
end Go.Proofs.YtjiopaojhenanaaGreatDoor.Gt
namespace Go.Proofs.YtjiopaojhenanaaGreatDoor.Oct
end Go.Proofs.YtjiopaojhenanaaGreatDoor.Oct
namespace Go.Proofs.YtjiopaojhenanaaGreatDoor.Tok
end Go.Proofs.YtjiopaojhenanaaGreatDoor.Tok
set_option maxRecDepth 100000
set_option maxHeartbeats 8000000
namespace Go.Proofs.YtjiopaojhenanaaGreatDoor.Rwt
open Go.RowKit Go.Shelf Go.Proofs.YtjiopaojhenanaaGreatDoor.Oct Go.Proofs.YtjiopaojhenanaaGreatDoor.Tok Go.Proofs.YtjiopaojhenanaaGreatDoor.Gt Go.Proofs.YtjiopaojhenanaaGreatDoor.Cir
theorem xNum18 (n : Int) (w : World) : Calls Tryz.prog 9 #[.int .i64 n] w fun e w' => e = .returned (.int .i64 n) /\ w' = w := by
  go_enter Tryz.func9, Tryz.ntmps9
  go_wp2_with fail
  go_ret
  exact ⟨rfl, rfl⟩
theorem box_below {w V : World} {g : Nat} {cs : Array Value} {t : TypeId} (h : w.heap[g]? = some (.cells cs t (0, 0))) (hb : Below w.heap.size w V) : V.heap[g]? = some (.cells cs t (0, 0)) := (hb.block _ (Array.getElem?_eq_some_iff.1 h).1).trans h
theorem app_none18 {ops : Array Oper} {rest : List Oper} {o : Oper} {a : Act} {Q : Exit -> Act -> World -> Prop} {X : World} (hgd : o.guard = none) (s x : Operand)
    (ho : o.op = .call { callee := .builtin .append, args := #[s, x], argTypes := #[25, 25] }) (H c : Nat) (hs : a.eval s = .slice (some ⟨H, 0, none⟩) 0 0) (hx : a.eval x = .slice none 0 c)
    (h : wpList Tryz.prog ops Q rest (a.put o.dst (.slice (some ⟨H, 0, none⟩) 0 0)) X) : wpList Tryz.prog ops Q (o :: rest) a X := by
  refine wpList_plain hgd fun K hK => ?_
  have hr : (Builtin.append_ #[25, 25] o.type #[.slice (some ⟨H, 0, none⟩) 0 0, .slice none 0 c]).run Tryz.prog X = .ok (.slice (some ⟨H, 0, none⟩) 0 0) X := by kernel_rfl
  unfold Oper.wp execOp
  simp only [ho, resolve, invoke, builtin, Sem.run_bind, Sem.run_pure, Result.andThen_ok, List.map_toArray, List.map_cons, List.map_nil, hs, hx, hr]
  exact hK _ _ h
theorem xRewriteLinear (c : Circ) (ao : Option Addr) (k : Nat) (uo : Option Addr) (uk : Nat) (rs : List Nat) (hr : ∀ x ∈ rs, x < 18446744073709551616) (hl : rs.length <= 17592186044416) (w : World) (hT : Tw w) (hC : Ci w c ao k) (hU : Nu w uo (uI rs)) : Calls Tryz.prog 3 #[cV c ao k, .slice uo rs.length uk] w fun e w' => e = .returned (.bool true) /\ Below w.heap.size w w' := by
  have c1 := fun V (h : Below w.heap.size w V) => rLi c ao k V (hT.below h).tb (hC.below h)
  have c2 := fun V (h : Below w.heap.size w V) => dLi c ao k V (hC.below h)
  have c5 := fun V (h : Below w.heap.size w V) => xAlive V (hT.below h)
  have c6 := xNum18
  have HSy := hide (fun (io : Option Addr) (ik : Nat) (V : World) (h : Nu V io (uI rs)) => rSy io ik rs hr (by omega) V h)
  have HSz := hide (fun (V : World) (h : Below w.heap.size w V) => dSy uo uk rs hr (by omega) V (hU.below h))
  have HCI := hide (fun (V : World) (B : Nat) (bo : Option Addr) (j : Nat) (h : OpsOwn V B bo (syR rs).1.ops.length j (syR rs).1.ops) => ci_szs (c := (syR rs).1) (syr_szs hr) h)
  have HWb := hide (fun (io : Option Addr) (ik : Nat) (V : World) (h : Below w.heap.size w V) (hi : Nu V io (uI rs)) => (by
    have := wWords io uo ik uk (uI rs) (uI rs) (by rw [List.length_map]; omega) V hi (hU.below h)
    simp only [decide_true, List.length_map] at this
    exact this : Calls Tryz.prog 8 #[.slice io rs.length ik, .slice uo rs.length uk] V fun e w' => e = .returned (.bool true) /\ Below V.heap.size V w'))
  have hLl : (uI (liR c).1).length <= 1000000000000000 := by
    rw [List.length_map]
    unfold liR
    split
    . simp
    . cases hh : liP c with
      | none => simp
      | some rs' =>
        simp only
        have h1 := liP_len hh
        by_cases hk : (chkC c).2 = 0
        . have := (chkC_ok hk).2.1
          omega
        . rename_i hn
          exact absurd hk hn
  have HWa := hide (fun (a3 a4 : Option Addr) (j3 j4 : Nat) (V : World) (h1 : Nu V a3 (uI (liR c).1)) (h2 : Nu V a4 (uI (liR c).1)) => (by
    have := wWords a3 a4 j3 j4 (uI (liR c).1) (uI (liR c).1) hLl V h1 h2
    simp only [decide_true] at this
    exact this : Calls Tryz.prog 8 #[.slice a3 (uI (liR c).1).length j3, .slice a4 (uI (liR c).1).length j4] V fun e w' => e = .returned (.bool true) /\ Below V.heap.size V w'))
  have HSame : Hid (∀ (V : World) (b2 b3 : Option Addr) (j2 j3 : Nat), Ci V (syR rs).1 b2 j2 -> Ci V (syR rs).1 b3 j3 -> Calls Tryz.prog 10 #[cV (syR rs).1 b2 j2, cV (syR rs).1 b3 j3] V fun e w' => e = .returned (.bool true) /\ Below V.heap.size V w') := hide (fun V b2 b3 j2 j3 h2 h3 => by
    have := eSame (syR rs).1 (syR rs).1 b2 b3 j2 j3 V h2 h3
    simpa using this)
  unfold LPost at c1 c2
  unfold YPost at HSy HSz
  generalize liR c = LR at *
  obtain ⟨L, LE⟩ := LR
  simp only at c1 c2 HWa hLl
  generalize (uI L).length = ln at *
  have hSR := syr_q (rs := rs)
  generalize syR rs = RR at *
  obtain ⟨R, RE⟩ := RR
  obtain ⟨rq, rb, rops⟩ := R
  simp only at HSy HSz HCI HSame hSR
  have hb1 := bnew w (.cells #[.int .i64 c.q, .int .i64 c.b, .slice ao c.ops.length k] 24)
  have hx1 : (w.alloc (.cells #[.int .i64 c.q, .int .i64 c.b, .slice ao c.ops.length k] 24)).heap[w.heap.size]? = some (.cells #[.int .i64 c.q, .int .i64 c.b, .slice ao c.ops.length k] 24 (0, 0)) := heap_alloc_new _ _
  have hs1 : (w.alloc (.cells #[.int .i64 c.q, .int .i64 c.b, .slice ao c.ops.length k] 24)).heap.size = w.heap.size + 1 := by simp
  have hbe := bnew (w.alloc (.cells #[.int .i64 c.q, .int .i64 c.b, .slice ao c.ops.length k] 24)) (.cells #[] 42)
  have HUe : Hid (UO ((w.alloc (.cells #[.int .i64 c.q, .int .i64 c.b, .slice ao c.ops.length k] 24)).alloc (.cells #[] 42)) (w.heap.size + 1) (.slice (some ⟨w.heap.size + 1, 0, none⟩) 0 0) []) := hide (by
    have := uo_empty (w.alloc (.cells #[.int .i64 c.q, .int .i64 c.b, .slice ao c.ops.length k] 24))
    rw [hs1] at this
    exact this)
  have HNe := hide (hU.below (bkp hb1 hbe))
  have HBe := hide (bkp hb1 hbe)
  have HXe := hide (box_below hx1 hbe)
  have HSe : Hid (w.heap.size + 1 <= ((w.alloc (.cells #[.int .i64 c.q, .int .i64 c.b, .slice ao c.ops.length k] 24)).alloc (.cells #[] 42)).heap.size) := hide (by rw [← hs1]; exact hbe.size)
  obtain ⟨q, b, ops⟩ := c
  unfold cV at *
  simp only at *
  generalize ops.length = n at *
  obtain ⟨m, hm⟩ : ∃ m, rops.length = m := ⟨_, rfl⟩
  rw [hm] at HSy HSz HCI
  simp only [hm] at HSame
  clear hm hT hC hb1 hx1 hbe hU hs1
  obtain ⟨N, hN⟩ : ∃ N, rs.length = N := ⟨_, rfl⟩
  have HNl := hide hN
  rw [hN] at HSy HSz HWb hl ⊢
  by_cases h0 : 0 < N
  . clear hN
    go_enter Tryz.func3, Tryz.ntmps3
    go_wp2_with (at_builtin; refine app_u18 rfl _ _ rfl _ _ [] 0 rfl rfl HUe.out _ _ rs N HNl.out h0 rfl HNe.out N (Nat.zero_add N) hl HSe.out ?_)
    intro G qc w2 hu hg
    have HB2 : Hid (Below w.heap.size w w2) := hide (HBe.out.grown hg (by have := HSe.out; omega) (fun k hk => by
      have e : some (w.heap.size + 1) = some k := hk
      have := Option.some.inj e
      omega))
    have HX2 : Hid (w2.heap[w.heap.size]? = some (.cells #[.int .i64 q, .int .i64 b, .slice ao n k] 24 (0, 0))) := hide ((hg.block _ (Array.getElem?_eq_some_iff.1 HXe.out).1 (fun e => by
      have e2 : some w.heap.size = some (w.heap.size + 1) := e
      have := Option.some.inj e2
      omega)).trans HXe.out)
    have HI2 : Hid (Nu w2 (some ⟨G, 0, none⟩) (uI rs)) := hide (UO.uz hu).nu
    obtain ⟨x0, x1, x2, x3⟩ := def_cells HX2.out
    clear hu hg HUe HNe HBe HXe HSe
    go_wp2_with (first
      | (go_at_call 4; refine (c1 _ HB2.out).mono ?_; rintro e w3 ⟨a3, j3, rfl, hn3, hb3⟩; have HB3 := hide (bkp HB2.out hb3); have HX3 := hide (box_below HX2.out hb3); have HI3 := hide (HI2.out.below hb3); have HA3 := hide hn3; clear hn3 hb3 HX2 HI2 c1 x0 x1 x2 x3; obtain ⟨x0, x1, x2, x3⟩ := def_cells HX3.out)
      | (go_at_call 5; refine (c2 _ HB3.out).mono ?_; rintro e w4 ⟨a4, j4, rfl, hn4, hb4⟩; have HB4 := hide (bkp HB3.out hb4); have HI4 := hide (HI3.out.below hb4); have HA4 := hide (HA3.out.below hb4); have HE4 := hide hn4; clear hn4 hb4 HX3 HI3 HA3 c2 x0 x1 x2 x3)
      | (go_at_call 6; (with_reducible refine Calls.mono (HSy.out _ _ w4 HI4.out) ?_); rintro e w5 ⟨b5, j5, rfl, ho5, hb5⟩; have hnew := bnew w5 (.cells #[.int .i64 rq, .int .i64 rb, .slice b5 m j5] 24); have HV6 := hide (bkp hb5 hnew); have HB6 := hide (bkp HB4.out HV6.out); have HI6 := hide (HI4.out.below HV6.out); have HA6 := hide (HA4.out.below HV6.out); have HE6 := hide (HE4.out.below HV6.out); have HO6 := hide (HCI.out _ _ _ _ (ho5.below hnew)); have HY6 : Hid ((w5.alloc (.cells #[.int .i64 rq, .int .i64 rb, .slice b5 m j5] 24)).heap[w5.heap.size]? = some (.cells #[.int .i64 rq, .int .i64 rb, .slice b5 m j5] 24 (0, 0))) := hide (heap_alloc_new _ _); clear ho5 hb5 hnew HI4 HA4 HE4 HV6)
      | (go_at_call 7; (with_reducible refine Calls.mono (HSz.out _ HB6.out) ?_); rintro e w7 ⟨b7, j7, rfl, ho7, hb7⟩; have hnew := bnew w7 (.cells #[.int .i64 rq, .int .i64 rb, .slice b7 m j7] 24); have HV8 := hide (bkp hb7 hnew); have HB8 := hide (bkp HB6.out HV8.out); have HI8 := hide (HI6.out.below HV8.out); have HA8 := hide (HA6.out.below HV8.out); have HE8 := hide (HE6.out.below HV8.out); have HP8 := hide (HCI.out _ _ _ _ (ho7.below hnew)); have HO8 := hide (HO6.out.below HV8.out); have HY8 := hide (box_below HY6.out HV8.out); have HZ8 : Hid ((w7.alloc (.cells #[.int .i64 rq, .int .i64 rb, .slice b7 m j7] 24)).heap[w7.heap.size]? = some (.cells #[.int .i64 rq, .int .i64 rb, .slice b7 m j7] 24 (0, 0))) := hide (heap_alloc_new _ _); clear ho7 hb7 hnew HI6 HA6 HE6 HO6 HY6 HV8; obtain ⟨y0, y1, y2, y3⟩ := def_cells HY8.out; obtain ⟨z0, z1, z2, z3⟩ := def_cells HZ8.out)
      | (go_at_call 8; (with_reducible refine Calls.mono (HWa.out _ _ _ _ _ HA8.out HE8.out) ?_); rintro e w9 ⟨rfl, hb9⟩; have HB9 := hide (bkp HB8.out hb9); have HI9 := hide (HI8.out.below hb9); have HO9 := hide (HO8.out.below hb9); have HP9 := hide (HP8.out.below hb9); have HY9 := hide (box_below HY8.out hb9); have HZ9 := hide (box_below HZ8.out hb9); clear hb9 HI8 HA8 HE8 HO8 HP8 HY8 HZ8 y0 y1 y2 y3 z0 z1 z2 z3; obtain ⟨y0, y1, y2, y3⟩ := def_cells HY9.out; obtain ⟨z0, z1, z2, z3⟩ := def_cells HZ9.out)
      | (go_at_call 9; refine (c6 _ _).mono ?_; rintro e y ⟨rfl, rfl⟩)
      | (go_at_call 10; (with_reducible refine Calls.mono (HSame.out _ _ _ _ _ HO9.out HP9.out) ?_); rintro e wa ⟨rfl, hba⟩; have HBa := hide (bkp HB9.out hba); have HIa := hide (HI9.out.below hba); clear hba HI9 HO9 HP9 HY9 HZ9 y0 y1 y2 y3 z0 z1 z2 z3)
      | (go_at_call 8; (with_reducible refine Calls.mono (HWb.out _ _ _ HBa.out HIa.out) ?_); rintro e wb ⟨rfl, hbb⟩; have HBb := hide (bkp HBa.out hbb); clear hbb HIa)
      | (go_at_call 11; refine (c5 _ HBb.out).mono ?_; rintro e wc ⟨rfl, hbc⟩; have HBc := hide (bkp HBb.out hbc)))
    go_ret
    exact ⟨rfl, HBc.out⟩
  . obtain rfl : N = 0 := by omega
    obtain rfl : rs = [] := List.length_eq_zero_iff.1 hN
    have HB2 := HBe
    have HX2 := HXe
    have HI2 : Hid (Nu ((w.alloc (.cells #[.int .i64 q, .int .i64 b, .slice ao n k] 24)).alloc (.cells #[] 42)) (some ⟨w.heap.size + 1, 0, none⟩) (uI [])) := hide (.inl rfl)
    obtain ⟨x0, x1, x2, x3⟩ := def_cells HX2.out
    clear hN HUe HNe HBe HXe HSe
    cases uo with
    | some ua =>
      go_enter Tryz.func3, Tryz.ntmps3
      go_wp2_with (first
        | (go_at_call 4; refine (c1 _ HB2.out).mono ?_; rintro e w3 ⟨a3, j3, rfl, hn3, hb3⟩; have HB3 := hide (bkp HB2.out hb3); have HX3 := hide (box_below HX2.out hb3); have HI3 := hide (HI2.out.below hb3); have HA3 := hide hn3; clear hn3 hb3 HX2 HI2 c1 x0 x1 x2 x3; obtain ⟨x0, x1, x2, x3⟩ := def_cells HX3.out)
        | (go_at_call 5; refine (c2 _ HB3.out).mono ?_; rintro e w4 ⟨a4, j4, rfl, hn4, hb4⟩; have HB4 := hide (bkp HB3.out hb4); have HI4 := hide (HI3.out.below hb4); have HA4 := hide (HA3.out.below hb4); have HE4 := hide hn4; clear hn4 hb4 HX3 HI3 HA3 c2 x0 x1 x2 x3)
        | (go_at_call 6; (with_reducible refine Calls.mono (HSy.out _ _ w4 HI4.out) ?_); rintro e w5 ⟨b5, j5, rfl, ho5, hb5⟩; have hnew := bnew w5 (.cells #[.int .i64 rq, .int .i64 rb, .slice b5 m j5] 24); have HV6 := hide (bkp hb5 hnew); have HB6 := hide (bkp HB4.out HV6.out); have HI6 := hide (HI4.out.below HV6.out); have HA6 := hide (HA4.out.below HV6.out); have HE6 := hide (HE4.out.below HV6.out); have HO6 := hide (HCI.out _ _ _ _ (ho5.below hnew)); have HY6 : Hid ((w5.alloc (.cells #[.int .i64 rq, .int .i64 rb, .slice b5 m j5] 24)).heap[w5.heap.size]? = some (.cells #[.int .i64 rq, .int .i64 rb, .slice b5 m j5] 24 (0, 0))) := hide (heap_alloc_new _ _); clear ho5 hb5 hnew HI4 HA4 HE4 HV6)
        | (go_at_call 7; (with_reducible refine Calls.mono (HSz.out _ HB6.out) ?_); rintro e w7 ⟨b7, j7, rfl, ho7, hb7⟩; have hnew := bnew w7 (.cells #[.int .i64 rq, .int .i64 rb, .slice b7 m j7] 24); have HV8 := hide (bkp hb7 hnew); have HB8 := hide (bkp HB6.out HV8.out); have HI8 := hide (HI6.out.below HV8.out); have HA8 := hide (HA6.out.below HV8.out); have HE8 := hide (HE6.out.below HV8.out); have HP8 := hide (HCI.out _ _ _ _ (ho7.below hnew)); have HO8 := hide (HO6.out.below HV8.out); have HY8 := hide (box_below HY6.out HV8.out); have HZ8 : Hid ((w7.alloc (.cells #[.int .i64 rq, .int .i64 rb, .slice b7 m j7] 24)).heap[w7.heap.size]? = some (.cells #[.int .i64 rq, .int .i64 rb, .slice b7 m j7] 24 (0, 0))) := hide (heap_alloc_new _ _); clear ho7 hb7 hnew HI6 HA6 HE6 HO6 HY6 HV8; obtain ⟨y0, y1, y2, y3⟩ := def_cells HY8.out; obtain ⟨z0, z1, z2, z3⟩ := def_cells HZ8.out)
        | (go_at_call 8; (with_reducible refine Calls.mono (HWa.out _ _ _ _ _ HA8.out HE8.out) ?_); rintro e w9 ⟨rfl, hb9⟩; have HB9 := hide (bkp HB8.out hb9); have HI9 := hide (HI8.out.below hb9); have HO9 := hide (HO8.out.below hb9); have HP9 := hide (HP8.out.below hb9); have HY9 := hide (box_below HY8.out hb9); have HZ9 := hide (box_below HZ8.out hb9); clear hb9 HI8 HA8 HE8 HO8 HP8 HY8 HZ8 y0 y1 y2 y3 z0 z1 z2 z3; obtain ⟨y0, y1, y2, y3⟩ := def_cells HY9.out; obtain ⟨z0, z1, z2, z3⟩ := def_cells HZ9.out)
        | (go_at_call 9; refine (c6 _ _).mono ?_; rintro e y ⟨rfl, rfl⟩)
        | (go_at_call 10; (with_reducible refine Calls.mono (HSame.out _ _ _ _ _ HO9.out HP9.out) ?_); rintro e wa ⟨rfl, hba⟩; have HBa := hide (bkp HB9.out hba); have HIa := hide (HI9.out.below hba); clear hba HI9 HO9 HP9 HY9 HZ9 y0 y1 y2 y3 z0 z1 z2 z3)
        | (go_at_call 8; (with_reducible refine Calls.mono (HWb.out _ _ _ HBa.out HIa.out) ?_); rintro e wb ⟨rfl, hbb⟩; have HBb := hide (bkp HBa.out hbb); clear hbb HIa)
        | (go_at_call 11; refine (c5 _ HBb.out).mono ?_; rintro e wc ⟨rfl, hbc⟩; have HBc := hide (bkp HBb.out hbc)))
      go_ret
      exact ⟨rfl, HBc.out⟩
    | none =>
      go_enter Tryz.func3, Tryz.ntmps3
      go_wp2_with (first | (at_builtin; refine app_none18 rfl _ _ rfl (w.heap.size + 1) uk rfl rfl ?_) | (first
        | (go_at_call 4; refine (c1 _ HB2.out).mono ?_; rintro e w3 ⟨a3, j3, rfl, hn3, hb3⟩; have HB3 := hide (bkp HB2.out hb3); have HX3 := hide (box_below HX2.out hb3); have HI3 := hide (HI2.out.below hb3); have HA3 := hide hn3; clear hn3 hb3 HX2 HI2 c1 x0 x1 x2 x3; obtain ⟨x0, x1, x2, x3⟩ := def_cells HX3.out)
        | (go_at_call 5; refine (c2 _ HB3.out).mono ?_; rintro e w4 ⟨a4, j4, rfl, hn4, hb4⟩; have HB4 := hide (bkp HB3.out hb4); have HI4 := hide (HI3.out.below hb4); have HA4 := hide (HA3.out.below hb4); have HE4 := hide hn4; clear hn4 hb4 HX3 HI3 HA3 c2 x0 x1 x2 x3)
        | (go_at_call 6; (with_reducible refine Calls.mono (HSy.out _ _ w4 HI4.out) ?_); rintro e w5 ⟨b5, j5, rfl, ho5, hb5⟩; have hnew := bnew w5 (.cells #[.int .i64 rq, .int .i64 rb, .slice b5 m j5] 24); have HV6 := hide (bkp hb5 hnew); have HB6 := hide (bkp HB4.out HV6.out); have HI6 := hide (HI4.out.below HV6.out); have HA6 := hide (HA4.out.below HV6.out); have HE6 := hide (HE4.out.below HV6.out); have HO6 := hide (HCI.out _ _ _ _ (ho5.below hnew)); have HY6 : Hid ((w5.alloc (.cells #[.int .i64 rq, .int .i64 rb, .slice b5 m j5] 24)).heap[w5.heap.size]? = some (.cells #[.int .i64 rq, .int .i64 rb, .slice b5 m j5] 24 (0, 0))) := hide (heap_alloc_new _ _); clear ho5 hb5 hnew HI4 HA4 HE4 HV6)
        | (go_at_call 7; (with_reducible refine Calls.mono (HSz.out _ HB6.out) ?_); rintro e w7 ⟨b7, j7, rfl, ho7, hb7⟩; have hnew := bnew w7 (.cells #[.int .i64 rq, .int .i64 rb, .slice b7 m j7] 24); have HV8 := hide (bkp hb7 hnew); have HB8 := hide (bkp HB6.out HV8.out); have HI8 := hide (HI6.out.below HV8.out); have HA8 := hide (HA6.out.below HV8.out); have HE8 := hide (HE6.out.below HV8.out); have HP8 := hide (HCI.out _ _ _ _ (ho7.below hnew)); have HO8 := hide (HO6.out.below HV8.out); have HY8 := hide (box_below HY6.out HV8.out); have HZ8 : Hid ((w7.alloc (.cells #[.int .i64 rq, .int .i64 rb, .slice b7 m j7] 24)).heap[w7.heap.size]? = some (.cells #[.int .i64 rq, .int .i64 rb, .slice b7 m j7] 24 (0, 0))) := hide (heap_alloc_new _ _); clear ho7 hb7 hnew HI6 HA6 HE6 HO6 HY6 HV8; obtain ⟨y0, y1, y2, y3⟩ := def_cells HY8.out; obtain ⟨z0, z1, z2, z3⟩ := def_cells HZ8.out)
        | (go_at_call 8; (with_reducible refine Calls.mono (HWa.out _ _ _ _ _ HA8.out HE8.out) ?_); rintro e w9 ⟨rfl, hb9⟩; have HB9 := hide (bkp HB8.out hb9); have HI9 := hide (HI8.out.below hb9); have HO9 := hide (HO8.out.below hb9); have HP9 := hide (HP8.out.below hb9); have HY9 := hide (box_below HY8.out hb9); have HZ9 := hide (box_below HZ8.out hb9); clear hb9 HI8 HA8 HE8 HO8 HP8 HY8 HZ8 y0 y1 y2 y3 z0 z1 z2 z3; obtain ⟨y0, y1, y2, y3⟩ := def_cells HY9.out; obtain ⟨z0, z1, z2, z3⟩ := def_cells HZ9.out)
        | (go_at_call 9; refine (c6 _ _).mono ?_; rintro e y ⟨rfl, rfl⟩)
        | (go_at_call 10; (with_reducible refine Calls.mono (HSame.out _ _ _ _ _ HO9.out HP9.out) ?_); rintro e wa ⟨rfl, hba⟩; have HBa := hide (bkp HB9.out hba); have HIa := hide (HI9.out.below hba); clear hba HI9 HO9 HP9 HY9 HZ9 y0 y1 y2 y3 z0 z1 z2 z3)
        | (go_at_call 8; (with_reducible refine Calls.mono (HWb.out _ _ _ HBa.out HIa.out) ?_); rintro e wb ⟨rfl, hbb⟩; have HBb := hide (bkp HBa.out hbb); clear hbb HIa)
        | (go_at_call 11; refine (c5 _ HBb.out).mono ?_; rintro e wc ⟨rfl, hbc⟩; have HBc := hide (bkp HBb.out hbc))))
      go_ret
      exact ⟨rfl, HBc.out⟩
end Go.Proofs.YtjiopaojhenanaaGreatDoor.Rwt
