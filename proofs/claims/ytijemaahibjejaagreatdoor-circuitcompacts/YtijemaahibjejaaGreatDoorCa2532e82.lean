import Derived.Test.YtijemaahibjejaaGreatDoorC852da33f
import Derived.Test.YtijemaahibjejaaGreatDoorC71c725b4
import Derived.Test.YtijemaahibjejaaGreatDoorC3bf52b1a
set_option maxRecDepth 100000
set_option maxHeartbeats 8000000
namespace Go.Proofs.YtijemaahibjejaaGreatDoor.Cir
open Go.RowKit Go.Shelf Go.Proofs.YtijemaahibjejaaGreatDoor.Oct Go.Proofs.YtijemaahibjejaaGreatDoor.Tok Go.Proofs.YtijemaahibjejaaGreatDoor.Gt
theorem cmp_tab {c : Circ} (hk : (chkC c).2 = 0) : c.ops.map (reO (lk (nwN (usQ c.ops) c.q.toNat c.q.toNat)) (lk (nwN (usB c.ops) c.b.toNat c.b.toNat))) = (cmpO c).ops := by
  have h1 := (chkC_ok hk).1
  have h3 := (chkC_ok hk).2.2.1
  have hq : ∀ x, x ∈ usQ c.ops -> lk (nwN (usQ c.ops) c.q.toNat c.q.toNat) x = ixI (rise (usQ c.ops)) x := fun x hx => by
    have hr := usQ_rng hk x hx
    have := nwN_at (usQ c.ops) c.q.toNat x hx hr.1 (by omega)
    unfold lk
    rw [cmp_q hk]
    simp [List.getD, this]
  have hb : ∀ x, x ∈ usB c.ops -> lk (nwN (usB c.ops) c.b.toNat c.b.toNat) x = ixI (rise (usB c.ops)) x := fun x hx => by
    have hr := usB_rng hk x hx
    have := nwN_at (usB c.ops) c.b.toNat x hx hr.1 (by omega)
    unfold lk
    rw [cmp_b hk]
    simp [List.getD, this]
  show _ = c.ops.map _
  apply List.map_congr_left
  intro o ho
  have e1 : o.qs.map (lk (nwN (usQ c.ops) c.q.toNat c.q.toNat)) = o.qs.map (ixI (rise (usQ c.ops))) := List.map_congr_left fun z hz => hq z (List.mem_flatMap.2 ⟨o, ho, hz⟩)
  have e2 : o.kind = 2 -> lk (nwN (usB c.ops) c.b.toNat c.b.toNat) o.bit = ixI (rise (usB c.ops)) o.bit := fun h => hb _ (List.mem_flatMap.2 ⟨o, ho, by simp [bO, h]⟩)
  have e3 : o.cond ≠ -1 -> lk (nwN (usB c.ops) c.b.toNat c.b.toNat) o.cond = ixI (rise (usB c.ops)) o.cond := fun h => hb _ (List.mem_flatMap.2 ⟨o, ho, by simp [bO, h]⟩)
  unfold reO
  rw [e1]
  by_cases h2 : o.kind = 2
  . by_cases h4 : o.cond ≠ -1
    . rw [if_pos h2, if_pos h2, if_pos h4, if_pos h4, e2 h2, e3 h4]
    . rw [if_pos h2, if_pos h2, if_neg h4, if_neg h4, e2 h2]
  . by_cases h4 : o.cond ≠ -1
    . rw [if_neg h2, if_neg h2, if_pos h4, if_pos h4, e3 h4]
    . rw [if_neg h2, if_neg h2, if_neg h4, if_neg h4]
theorem mem_add (A l : List Int) (j : Nat) (z x : Int) (h : l[j]? = some z) : decide (x ∈ A ++ l.take (j + 1)) = (decide (x ∈ A ++ l.take j) || (z == x)) := by
  rw [List.take_add_one, h, ← List.append_assoc, Bool.eq_iff_iff, Bool.or_eq_true, decide_eq_true_eq, decide_eq_true_eq, List.mem_append, beq_iff_eq]
  simp [eq_comm]
theorem memB_add (ops : List COp) (i : Nat) (o : COp) (x : Int) (hx : 0 <= x) (h : ops[i]? = some o) : decide (x ∈ usB (ops.take (i + 1))) = (decide (x ∈ usB (ops.take i)) || (o.cond == x) || ((o.kind == 2) && (o.bit == x))) := by
  have e : usB (ops.take (i + 1)) = usB (ops.take i) ++ bO o := us_take ops i o h
  rw [e, Bool.eq_iff_iff, Bool.or_eq_true, Bool.or_eq_true, Bool.and_eq_true, decide_eq_true_eq, decide_eq_true_eq, List.mem_append, beq_iff_eq, beq_iff_eq, beq_iff_eq]
  unfold bO
  rw [List.mem_append]
  constructor
  . rintro (h | h | h)
    . exact .inl (.inl h)
    . split at h
      . rename_i h2
        rw [List.mem_singleton] at h
        exact .inr ⟨h2, h.symm⟩
      . cases h
    . split at h
      . rw [List.mem_singleton] at h
        exact .inl (.inr h.symm)
      . cases h
  . rintro ((h | h) | ⟨h, h'⟩)
    . exact .inl h
    . exact .inr (.inr (by rw [if_pos (by omega)]; simp [h]))
    . exact .inr (.inl (by rw [if_pos h]; simp [h']))
structure R4 (w : World) (B : Nat) (pa : Option Addr) (ka : Nat) (A : List Int) (pb : Option Addr) (kb : Nat) (Bl : List Int) (pc : Option Addr) (kc : Nat) (C : List Int) (pd : Option Addr) (kd : Nat) (D : List Int) : Prop where
  a : OwnI w B pa ka A
  b : OwnI w B pb kb Bl
  c : OwnI w B pc kc C
  d : OwnI w B pd kd D
  ab : ∀ g, ob pa = some g -> ob pb = some g -> False
  ac : ∀ g, ob pa = some g -> ob pc = some g -> False
  ad : ∀ g, ob pa = some g -> ob pd = some g -> False
  bc : ∀ g, ob pb = some g -> ob pc = some g -> False
  bd : ∀ g, ob pb = some g -> ob pd = some g -> False
  cd : ∀ g, ob pc = some g -> ob pd = some g -> False
section
variable {w w' : World} {B : Nat} {a : Option Addr} {ka : Nat} {A : List Int} {b : Option Addr} {kb : Nat} {Bl : List Int} {c : Option Addr} {kc : Nat} {C : List Int} {d : Option Addr} {kd : Nat} {D : List Int}
theorem R4.sab (h : R4 w B a ka A b kb Bl c kc C d kd D) : R4 w B b kb Bl a ka A c kc C d kd D := ⟨h.b, h.a, h.c, h.d, fun g x y => h.ab g y x, h.bc, h.bd, h.ac, h.ad, h.cd⟩
theorem R4.sac (h : R4 w B a ka A b kb Bl c kc C d kd D) : R4 w B c kc C b kb Bl a ka A d kd D := ⟨h.c, h.b, h.a, h.d, fun g x y => h.bc g y x, fun g x y => h.ac g y x, h.cd, fun g x y => h.ab g y x, h.bd, h.ad⟩
theorem R4.sad (h : R4 w B a ka A b kb Bl c kc C d kd D) : R4 w B d kd D b kb Bl c kc C a ka A := ⟨h.d, h.b, h.c, h.a, fun g x y => h.bd g y x, fun g x y => h.cd g y x, fun g x y => h.ad g y x, h.bc, fun g x y => h.ab g y x, fun g x y => h.ac g y x⟩
theorem R4.turn (h : R4 w B a ka A b kb Bl c kc C d kd D) (hg : w.grownBy w' (ob a)) {a' : Option Addr} {ka' : Nat} {A' : List Int} (ho : OwnI w' B a' ka' A') (ha : ∀ g, ob a' = some g -> ob a = some g ∨ w.heap.size <= g) : R4 w' B a' ka' A' b kb Bl c kc C d kd D := by
  refine ⟨ho, h.b.grown hg (fun k hk e => h.ab k e hk), h.c.grown hg (fun k hk e => h.ac k e hk), h.d.grown hg (fun k hk e => h.ad k e hk), fun g x y => ?_, fun g x y => ?_, fun g x y => ?_, h.bc, h.bd, h.cd⟩
  . rcases ha g x with e | e
    . exact h.ab g e y
    . have := (h.b.lt y).2
      omega
  . rcases ha g x with e | e
    . exact h.ac g e y
    . have := (h.c.lt y).2
      omega
  . rcases ha g x with e | e
    . exact h.ad g e y
    . have := (h.d.lt y).2
      omega
theorem R4.below (h : R4 w B a ka A b kb Bl c kc C d kd D) (hb : Below w.heap.size w w') : R4 w' B a ka A b kb Bl c kc C d kd D := ⟨h.a.below hb, h.b.below hb, h.c.below hb, h.d.below hb, h.ab, h.ac, h.ad, h.bc, h.bd, h.cd⟩
end
theorem grown_setCell (w : World) (g i : Nat) (v : Value) : w.grownBy (w.setCell ⟨g, i, none⟩ v) (some g) :=
  ⟨rfl, rfl, rfl, by simp [World.setCell], fun k _ hk => Below.heap_setCell _ _ _ _ (fun e => hk (congrArg some e))⟩
theorem OwnI.set {w : World} {B g c : Nat} {l : List Int} (h : OwnI w B (some ⟨g, 0, none⟩) c l) (i : Nat) (z : Int) : OwnI (w.setCell ⟨g, i, none⟩ (.int .i64 z)) B (some ⟨g, 0, none⟩) c (l.set i z) := by
  have := own_set h i (.int .i64 z)
  unfold OwnI
  rw [List.length_set, List.map_set]
  exact this
theorem OwnI.made (w : World) (B n : Nat) (hB : B <= w.heap.size) (hn : n <= 1000000) : OwnI (w.alloc (.cells (madeCells #[.int .i64 0] n) 3)) B (some ⟨w.heap.size, 0, none⟩) n (List.replicate n 0) := by
  refine ⟨by simp, .inr ⟨w.heap.size, n, _, by rw [List.length_replicate], hB, heap_alloc_new _ _, by simp, by unfold maxLen; omega, by rw [size_madeCells]; omega, ?_⟩⟩
  rw [List.length_replicate, Nat.mul_one, List.take_of_length_le (by simp [madeCells])]
  apply List.ext_getElem (by simp [madeCells])
  intro i h1 h2
  simp [madeCells, Nat.mod_one]
theorem OpsOwn.offC {w : World} {B g n c : Nat} {l : List COp} (h : OpsOwn w B (some ⟨g, 0, none⟩) n c l) {i : Nat} {o : COp} (hi : l[i]? = some o) {x : Nat} {cs : Array Value} {fr : Nat × Nat} (hx : w.heap[x]? = some (.cells cs 24 fr)) : x ≠ g /\ ∀ gr cr, w.cell? ⟨g, i * 6 + 2, none⟩ = some (.slice (some ⟨gr, 0, none⟩) o.qs.length cr) -> x ≠ gr := by
  obtain ⟨xs, h1, h2, h3, h4, -⟩ := h
  rw [h2, List.getElem?_map] at hi
  obtain ⟨y, hy, rfl⟩ := Option.map_eq_some_iff.1 hi
  obtain ⟨ao, cr, e, hrow⟩ := h4 y (List.mem_of_getElem? hy)
  refine ⟨fun e' => ?_, fun gr cr' hc e' => ?_⟩
  . subst e'
    exact own_ne h3 hx (by decide) rfl
  . rw [own_at h3 _ _ (opC_at xs i y hy 2 y.2 rfl), e] at hc
    simp only [Option.some.injEq, Value.slice.injEq] at hc
    subst e'
    exact own_ne hrow hx (by decide) (by rw [hc.1]; rfl)
theorem at_new {ao : Option Addr} {n g7 g : Nat} (h : ob ao = some g7 ∨ n <= g7) (hg : ob (some ⟨g7, 0, none⟩) = some g) : ob ao = some g ∨ n <= g := by
  have e : g7 = g := by simpa [ob] using hg
  subst e
  exact h
theorem r4_qb (w : World) (B Q Bn : Nat) (hB : B <= w.heap.size) (hq : Q <= 1000) (hb : Bn <= 1000) : R4 ((w.alloc (.cells (madeCells #[.int .i64 0] Q) 3)).alloc (.cells (madeCells #[.int .i64 0] Bn) 3)) B none 0 [] none 0 [] (some ⟨w.heap.size, 0, none⟩) Q (List.replicate Q 0) (some ⟨w.heap.size + 1, 0, none⟩) Bn (List.replicate Bn 0) := by
  have h1 := OwnI.made w B Q hB (by omega)
  have h2 := OwnI.made (w.alloc (.cells (madeCells #[.int .i64 0] Q) 3)) B Bn (by simp; omega) (by omega)
  simp only [World.size_alloc] at h2
  refine ⟨OwnI.nil _ _, OwnI.nil _ _, h1.below (bnew _ _), h2, ?_, ?_, ?_, ?_, ?_, ?_⟩
  all_goals (intro g e1 e2; simp [ob] at e1 e2)
  omega
theorem r4_bq (w : World) (B Q Bn : Nat) (hB : B <= w.heap.size) (hq : Q <= 1000) (hb : Bn <= 1000) : R4 ((w.alloc (.cells (madeCells #[.int .i64 0] Bn) 3)).alloc (.cells (madeCells #[.int .i64 0] Q) 3)) B none 0 [] none 0 [] (some ⟨w.heap.size + 1, 0, none⟩) Q (List.replicate Q 0) (some ⟨w.heap.size, 0, none⟩) Bn (List.replicate Bn 0) := by
  have h1 := OwnI.made w B Bn hB (by omega)
  have h2 := OwnI.made (w.alloc (.cells (madeCells #[.int .i64 0] Bn) 3)) B Q (by simp; omega) (by omega)
  simp only [World.size_alloc] at h2
  refine ⟨OwnI.nil _ _, OwnI.nil _ _, h2, h1.below (bnew _ _), ?_, ?_, ?_, ?_, ?_, ?_⟩
  all_goals (intro g e1 e2; simp [ob] at e1 e2)
  omega
theorem eCompact_ok (c : Circ) (ao : Option Addr) (k : Nat) (hS : Szs c.ops) (hk : (chkC c).2 = 0) (w : World) (hC : Ci w c ao k) : Calls Tryz.prog 6 #[cV c ao k] w fun e w' => ∃ co cap aq cq ab cb, e = .returned (.tuple #[.agg #[.int .i64 ((rise (usQ c.ops)).length : Int), .int .i64 ((rise (usB c.ops)).length : Int), .slice co c.ops.length cap], .slice aq (rise (usQ c.ops)).length cq, .slice ab (rise (usB c.ops)).length cb, .int .i64 0]) /\ OpsOwn w' w.heap.size co c.ops.length cap (cmpO c).ops /\ OwnI w' w.heap.size aq cq (rise (usQ c.ops)) /\ OwnI w' w.heap.size ab cb (rise (usB c.ops)) /\ Below w.heap.size w w' := by
  obtain ⟨h1, h2, h3, h4, h5, h6⟩ := chkC_ok hk
  have c1 := fun V (h : Below w.heap.size w V) => eMay c ao k V (hC.below h)
  have c5 := fun V (h : Below w.heap.size w V) => eCopyO c ao k hS V (hC.below h)
  have HFin := hide (cmp_tab hk)
  rw [cmp_q hk, cmp_b hk, ← HFin.out]
  rw [hk] at c1
  simp only [beq_self_eq_true] at c1
  clear HFin
  have HOK := hide h6
  have HSz := hide hS
  have HO := hide hC.ops
  obtain ⟨q0, b0, l0⟩ := c
  simp only at *
  obtain ⟨Q, rfl⟩ := Int.eq_ofNat_of_zero_le h1
  obtain ⟨Bn, rfl⟩ := Int.eq_ofNat_of_zero_le h3
  simp only [Int.toNat_natCast]
  have hQ : Q <= 64 := by omega
  have hB : Bn <= 64 := by omega
  unfold cV at *
  simp only at *
  obtain ⟨n0, hn0⟩ : ∃ n0, l0.length = n0 := ⟨_, rfl⟩
  have HN0 := hide hn0
  simp only [hn0] at c1 c5 ⊢
  have hsl : n0 <= 4096 := by rw [← hn0]; exact h5
  clear hn0 h1 h2 h3 h4 h5 h6 hk hS hC
  have HW := hide (cmp_boxes w (Q : Int) (Bn : Int) ao n0 k)
  generalize hW0 : ((w.alloc (.cells #[.int .i64 (Q : Int), .int .i64 (Bn : Int), .slice ao n0 k] 24)).alloc (.cells #[.int .i64 0, .int .i64 0, .slice none 0 0] 24)) = W0 at HW
  have HZ := hide hW0
  have HP : Hid (∀ V, Below W0.heap.size W0 V -> Below w.heap.size w V /\ V.heap[w.heap.size]? = some (.cells #[.int .i64 (Q : Int), .int .i64 (Bn : Int), .slice ao n0 k] 24) /\ V.heap[w.heap.size + 1]? = some (.cells #[.int .i64 0, .int .i64 0, .slice none 0 0] 24)) := hide (fun V h => ⟨HW.out.1.trans (h.mono HW.out.1.size), (h.block _ (Array.getElem?_eq_some_iff.1 HW.out.2.1).1).trans HW.out.2.1, (h.block _ (Array.getElem?_eq_some_iff.1 HW.out.2.2).1).trans HW.out.2.2⟩)
  have HSW : Hid (w.heap.size <= W0.heap.size) := hide HW.out.1.size
  clear hW0
  go_enter Tryz.func6, Tryz.ntmps6
  go_wp2_with fail
  rw [HZ.out]
  go_upto_region 4 with (first
    | (go_at_call 19; (with_reducible refine Calls.mono (c1 _ HW.out.1) ?_); rintro e w1 ⟨rfl, hb1⟩; have HB1 := hide hb1; obtain ⟨p1, m1, m2⟩ := HP.out w1 hb1; obtain ⟨x0, x1, x2, x3⟩ := def_cells m1; clear hb1 p1 m1 m2))
  have mq := fun W => make_in Q (by omega) W
  have mb := fun W => make_in Bn (by omega) W
  go_cut [8, 9] from 24 (fun s8 s9 wc => ∃ gq gb : Nat, s8 = .slice (some ⟨gq, 0, none⟩) Q Q /\ s9 = .slice (some ⟨gb, 0, none⟩) Bn Bn /\ Below W0.heap.size W0 wc /\ R4 wc W0.heap.size none 0 [] none 0 [] (some ⟨gq, 0, none⟩) Q (nwN (usQ l0) Q 0) (some ⟨gb, 0, none⟩) Bn (nwN (usB l0) Bn 0))
  case first =>
    go_region
    all_goals (
      go_wp2_with fail
      go_meet)
    all_goals first
      | exact ⟨_, _, rfl, rfl, ((HB1.out.trans ((bnew _ _).mono HB1.out.size)).trans ((bnew _ _).mono (by have := HB1.out.size; simp; omega))).drew, by rw [nwN_zero, nwN_zero]; exact (r4_qb w1 _ Q Bn HB1.out.size (by omega) (by omega)).below (Below.refl _ _).drew⟩
      | exact ⟨_, _, rfl, rfl, ((HB1.out.trans ((bnew _ _).mono HB1.out.size)).trans ((bnew _ _).mono (by have := HB1.out.size; simp; omega))).drew, by rw [nwN_zero, nwN_zero]; exact (r4_bq w1 _ Q Bn HB1.out.size (by omega) (by omega)).below (Below.refl _ _).drew⟩
  case rest =>
    obtain ⟨gq, gb, rfl, rfl, hbw, hR⟩ := hcut
    clear mq mb x0 x1 x2 x3 HB1 c1
    go_wp2_with fail
    go_loopw [6, 10] (fun v6 v10 wr => ∃ (x : Nat) (aq : Option Addr) (cq : Nat), v10 = .int .i64 (x : Int) /\ x <= Q /\ v6 = .slice aq (flN (usQ l0) x).length cq /\ Below W0.heap.size W0 wr /\ R4 wr W0.heap.size aq cq (flN (usQ l0) x) none 0 [] (some ⟨gq, 0, none⟩) Q (nwN (usQ l0) Q x) (some ⟨gb, 0, none⟩) Bn (nwN (usB l0) Bn 0)) (fun _ v10 _ => Q - (Go.RowKit.intOf v10).toNat)
    case atStart => exact ⟨0, none, 0, rfl, Nat.zero_le _, rfl, hbw, hR⟩
    case round =>
      obtain ⟨x, aq, cq, rfl, hx, rfl, hbr, hR⟩ := hrel
      obtain ⟨p1, m1, m2⟩ := HP.out wr hbr
      obtain ⟨x0, x1, x2, x3⟩ := def_cells m1
      have HR := hide (And.intro hbr hR)
      have HPw := hide p1
      clear hbr hR m1 m2 p1
      by_cases h : x < Q
      . have hd : decide ((x : Int) < (Q : Int)) = true := decide_eq_true (by omega)
        have hkk : (x : Int) < (Q : Int) := by omega
        go_wp2_with fail
        go_loopw [11, 12] (fun v11 v12 wx => ∃ i : Nat, v12 = .int .i64 (i : Int) /\ i <= n0 /\ wr = wx /\ v11 = .bool (decide ((x : Int) ∈ usQ (l0.take i)))) (fun _ v12 _ => n0 - (Go.RowKit.intOf v12).toNat)
        case atStart => exact ⟨0, rfl, Nat.zero_le _, rfl, by simp [usQ]⟩
        case round =>
          obtain ⟨i, rfl, hi, hw, rfl⟩ := hrel
          subst hw
          by_cases h2 : i < n0
          . have hd2 : decide ((i : Int) < (n0 : Int)) = true := decide_eq_true (by omega)
            have hkk2 : (i : Int) < (n0 : Int) := by omega
            obtain ⟨o, ho⟩ : ∃ o, l0[i]? = some o := ⟨_, List.getElem?_eq_getElem (by rw [HN0.out]; exact h2)⟩
            obtain ⟨g, off, ar, cr, rfl, hgl0, hoc0⟩ := HO.out.at ho
            have hmb := HSz.out.2 o (List.mem_of_getElem? ho)
            have HHO := hide ho
            have hoc := hoc0.below HPw.out
            have hgl : g < wr.heap.size := Nat.lt_of_lt_of_le hgl0 HPw.out.size
            have k2 := hoc.qs
            have HNs := hide hoc.ns
            obtain ⟨m, hm⟩ : ∃ m, o.qs.length = m := ⟨_, rfl⟩
            have HM := hide hm
            rw [hm] at k2 hmb
            clear hm ho hoc hoc0
            go_wp2_with fail
            go_loopw [11, 13] (fun v11 v13 wx => ∃ jj : Nat, v13 = .int .i64 (jj : Int) /\ jj <= m /\ wr = wx /\ v11 = .bool (decide ((x : Int) ∈ usQ (l0.take i) ++ o.qs.take jj))) (fun _ v13 _ => m - (Go.RowKit.intOf v13).toNat)
            case atStart => exact ⟨0, rfl, Nat.zero_le _, rfl, by simp⟩
            case round =>
              obtain ⟨jj, rfl, hjj, hw, rfl⟩ := hrel
              subst hw
              by_cases h3 : jj < m
              . have hd3 : decide ((jj : Int) < (m : Int)) = true := decide_eq_true (by omega)
                have hkk3 : (jj : Int) < (m : Int) := by omega
                obtain ⟨z, hz⟩ : ∃ z, o.qs[jj]? = some z := ⟨_, List.getElem?_eq_getElem (by rw [HM.out]; exact h3)⟩
                obtain ⟨ga, offa, rfl, hcell⟩ := HNs.out.resolve_left (fun e => by rw [e] at hz; simp at hz)
                have hz1 := hcell jj z hz
                have hz2 := World.block_lt_of_cell? wr _ hz1
                have hadd := mem_add (usQ (l0.take i)) o.qs jj z (x : Int) hz
                obtain ⟨bb, hbb⟩ : ∃ bb, decide ((x : Int) ∈ usQ (l0.take i) ++ o.qs.take jj) = bb := ⟨_, rfl⟩
                rw [hbb] at hadd ⊢
                have HADD := hide hadd
                clear hadd hbb hz hcell
                cases bb
                . go_wp2_with fail
                  go_roundw
                  case rel => exact ⟨jj + 1, by go_num, by omega, by first | rfl | trivial, by rw [HADD.out, Bool.false_or]⟩
                  case measure => simp [Go.RowKit.intOf]; omega
                . go_wp2_with fail
                  go_roundw
                  case rel => exact ⟨jj + 1, by go_num, by omega, by first | rfl | trivial, by rw [HADD.out]; rfl⟩
                  case measure => simp [Go.RowKit.intOf]; omega
              . obtain rfl : m = jj := by omega
                have e : usQ (l0.take i) ++ o.qs.take m = usQ (l0.take (i + 1)) := by
                  rw [List.take_of_length_le (l := o.qs) (by rw [HM.out]; exact Nat.le_refl _)]
                  exact (us_take (f := fun o => o.qs) l0 i o HHO.out).symm
                rw [e]
                go_wp2_with fail
                go_roundw
                case rel => exact ⟨i + 1, by go_num, by omega, by first | rfl | trivial, rfl⟩
                case measure => simp [Go.RowKit.intOf]; omega
          . obtain rfl : n0 = i := by omega
            rw [List.take_of_length_le (l := l0) (by rw [HN0.out]; exact Nat.le_refl _)]
            by_cases hme : (x : Int) ∈ (usQ l0)
            . rw [decide_eq_true hme]
              have HMe := hide hme
              have hrow := HR.out.2.c
              obtain ⟨u, hu⟩ : ∃ u, ((nwN (usQ l0) Q x).map (Value.int .i64))[x]? = some u := ⟨_, List.getElem?_eq_getElem (by rw [List.length_map, nwN_len]; exact h)⟩
              have s1 := own_at hrow x u hu
              have s2 := own_free hrow x
              obtain ⟨s3, s4⟩ := own_lt hrow gq rfl
              obtain ⟨nx, hnx⟩ : ∃ nx, (flN (usQ l0) x).length = nx := ⟨_, rfl⟩
              have hnb := flN_len (usQ l0) x
              have HNX := hide hnx
              rw [hnx] at hnb ⊢
              have HN1 : Hid (OwnI (wr.setCell ⟨gq, x, none⟩ (.int .i64 (nx : Int))) W0.heap.size (some ⟨gq, 0, none⟩) Q (nwN (usQ l0) Q (x + 1))) := hide (by
                have := hrow.set x (nx : Int)
                rw [← HNX.out, nwN_yes (usQ l0) Q x h HMe.out] at this
                rw [← HNX.out]
                exact this)
              have HY := hide ((HR.out.2.sac.turn (grown_setCell _ _ _ _) HN1.out (fun g hg => .inl hg)).sac)
              have HYr := hide (own_num HNX.out HY.out.a)
              have HWS : Hid ((wr.setCell ⟨gq, x, none⟩ (.int .i64 (nx : Int))).heap.size = wr.heap.size) := hide (by simp [World.setCell])
              have HYb := hide (HR.out.1.setCell (p := ⟨gq, x, none⟩) s3 (.int .i64 (nx : Int)))
              clear hrow hu hnx hme
              generalize hwy : wr.setCell ⟨gq, x, none⟩ (.int .i64 (nx : Int)) = wy at HN1 HY HYr HYb HWS
              have HWY := hide hwy
              clear hwy
              go_wp2_with (first
                | (rw [HWY.out]; at_builtin; refine push rfl _ _ 26 rfl 3 Tryz.underlying26 _ 1 8 infoI rfl (by decide) W0.heap.size aq nx cq _ rfl HYr.out [.int .i64 (x : Int)] _ rfl rfl (by simp [Value.oneCell']) wr.heap.size HWS.out rfl (by omega) (by omega) HYb.out.size ?_; intro g7 c7 w7 hown7 hgr7 hat7; have HO7 : Hid (OwnI w7 W0.heap.size (some ⟨g7, 0, none⟩) c7 (flN (usQ l0) (x + 1))) := hide (by unfold OwnI; rw [flN_yes _ _ HMe.out, List.length_append, HNX.out, List.map_append]; exact hown7); have HR7 := hide (HY.out.turn hgr7 HO7.out (fun _ hg => at_new hat7 hg)); have HB7 := hide (HYb.out.grown hgr7 HYb.out.size (fun k hk => (own_lt HYr.out k hk).1)); clear hown7 hgr7 hat7))
              go_roundw
              case rel => exact ⟨x + 1, some ⟨g7, 0, none⟩, c7, by go_num, by omega, by rw [flN_yes _ _ HMe.out, List.length_append, HNX.out]; rfl, HB7.out, HR7.out⟩
              case measure => simp [Go.RowKit.intOf]; omega
            . rw [decide_eq_false hme]
              go_wp2_with fail
              go_roundw
              case rel => exact ⟨x + 1, aq, cq, by go_num, by omega, by rw [flN_no _ _ hme], HR.out.1, by rw [flN_no _ _ hme, nwN_no _ _ _ hme]; exact HR.out.2⟩
              case measure => simp [Go.RowKit.intOf]; omega
      . obtain rfl : Q = x := by omega
        have HX := hide HR.out
        clear HR
        go_wp2_with fail
        go_loopw [7, 14] (fun v6 v10 wr => ∃ (x : Nat) (ab : Option Addr) (cb : Nat), v10 = .int .i64 (x : Int) /\ x <= Bn /\ v6 = .slice ab (flN (usB l0) x).length cb /\ Below W0.heap.size W0 wr /\ R4 wr W0.heap.size aq cq (flN (usQ l0) Q) ab cb (flN (usB l0) x) (some ⟨gq, 0, none⟩) Q (nwN (usQ l0) Q Q) (some ⟨gb, 0, none⟩) Bn (nwN (usB l0) Bn x)) (fun _ v10 _ => Bn - (Go.RowKit.intOf v10).toNat)
        case atStart => exact ⟨0, none, 0, rfl, Nat.zero_le _, rfl, HX.out.1, HX.out.2⟩
        case round =>
          obtain ⟨x, ab, cb, rfl, hx, rfl, hbr, hR⟩ := hrel
          obtain ⟨p1, m1, m2⟩ := HP.out wr hbr
          obtain ⟨x0, x1, x2, x3⟩ := def_cells m1
          have HR := hide (And.intro hbr hR)
          have HPw := hide p1
          clear hbr hR m1 m2 p1
          by_cases h : x < Bn
          . have hd : decide ((x : Int) < (Bn : Int)) = true := decide_eq_true (by omega)
            have hkk : (x : Int) < (Bn : Int) := by omega
            go_wp2_with fail
            go_loopw [15, 16] (fun v15 v16 wx => ∃ i : Nat, v16 = .int .i64 (i : Int) /\ i <= n0 /\ wr = wx /\ v15 = .bool (decide ((x : Int) ∈ usB (l0.take i)))) (fun _ v16 _ => n0 - (Go.RowKit.intOf v16).toNat)
            case atStart => exact ⟨0, rfl, Nat.zero_le _, rfl, by simp [usB]⟩
            case round =>
              obtain ⟨i, rfl, hi, hw, rfl⟩ := hrel
              subst hw
              by_cases h2 : i < n0
              . have hd2 : decide ((i : Int) < (n0 : Int)) = true := decide_eq_true (by omega)
                have hkk2 : (i : Int) < (n0 : Int) := by omega
                obtain ⟨o, ho⟩ : ∃ o, l0[i]? = some o := ⟨_, List.getElem?_eq_getElem (by rw [HN0.out]; exact h2)⟩
                obtain ⟨g, off, ar, cr, rfl, hgl0, hoc0⟩ := HO.out.at ho
                have hoc := hoc0.below HPw.out
                have hgl : g < wr.heap.size := Nat.lt_of_lt_of_le hgl0 HPw.out.size
                have k0 := hoc.kind
                have k3 := hoc.bit
                have k4 := hoc.cond
                have hadd := memB_add l0 i o (x : Int) (by omega) ho
                clear hoc hoc0 ho
                obtain ⟨bb, hbb⟩ : ∃ bb, decide ((x : Int) ∈ usB (l0.take i)) = bb := ⟨_, rfl⟩
                obtain ⟨b1, hb1⟩ : ∃ b1, (o.cond == (x : Int)) = b1 := ⟨_, rfl⟩
                obtain ⟨b2, hb2⟩ : ∃ b2, (o.kind == 2) = b2 := ⟨_, rfl⟩
                obtain ⟨b3, hb3⟩ : ∃ b3, (o.bit == (x : Int)) = b3 := ⟨_, rfl⟩
                rw [hbb, hb1, hb2, hb3] at hadd
                rw [hbb]
                have HADD := hide hadd
                clear hadd hbb
                cases bb <;> cases b1 <;> cases b2 <;> cases b3
                all_goals (
                  go_wp2_with fail
                  go_roundw
                  case rel => exact ⟨i + 1, by go_num, by omega, by first | rfl | trivial, by rw [HADD.out]; rfl⟩
                  case measure => simp [Go.RowKit.intOf]; omega)
              . obtain rfl : n0 = i := by omega
                rw [List.take_of_length_le (l := l0) (by rw [HN0.out]; exact Nat.le_refl _)]
                by_cases hme : (x : Int) ∈ (usB l0)
                . rw [decide_eq_true hme]
                  have HMe := hide hme
                  have hrow := HR.out.2.d
                  obtain ⟨u, hu⟩ : ∃ u, ((nwN (usB l0) Bn x).map (Value.int .i64))[x]? = some u := ⟨_, List.getElem?_eq_getElem (by rw [List.length_map, nwN_len]; exact h)⟩
                  have s1 := own_at hrow x u hu
                  have s2 := own_free hrow x
                  obtain ⟨s3, s4⟩ := own_lt hrow gb rfl
                  obtain ⟨nx, hnx⟩ : ∃ nx, (flN (usB l0) x).length = nx := ⟨_, rfl⟩
                  have hnb := flN_len (usB l0) x
                  have HNX := hide hnx
                  rw [hnx] at hnb ⊢
                  have HN1 : Hid (OwnI (wr.setCell ⟨gb, x, none⟩ (.int .i64 (nx : Int))) W0.heap.size (some ⟨gb, 0, none⟩) Bn (nwN (usB l0) Bn (x + 1))) := hide (by
                    have := hrow.set x (nx : Int)
                    rw [← HNX.out, nwN_yes (usB l0) Bn x h HMe.out] at this
                    rw [← HNX.out]
                    exact this)
                  have HY := hide ((HR.out.2.sad.turn (grown_setCell _ _ _ _) HN1.out (fun g hg => .inl hg)).sad)
                  have HYr := hide (own_num HNX.out HY.out.b)
                  have HWS : Hid ((wr.setCell ⟨gb, x, none⟩ (.int .i64 (nx : Int))).heap.size = wr.heap.size) := hide (by simp [World.setCell])
                  have HYb := hide (HR.out.1.setCell (p := ⟨gb, x, none⟩) s3 (.int .i64 (nx : Int)))
                  clear hrow hu hnx hme
                  generalize hwy : wr.setCell ⟨gb, x, none⟩ (.int .i64 (nx : Int)) = wy at HN1 HY HYr HYb HWS
                  have HWY := hide hwy
                  clear hwy
                  go_wp2_with (first
                    | (rw [HWY.out]; at_builtin; refine push rfl _ _ 26 rfl 3 Tryz.underlying26 _ 1 8 infoI rfl (by decide) W0.heap.size ab nx cb _ rfl HYr.out [.int .i64 (x : Int)] _ rfl rfl (by simp [Value.oneCell']) wr.heap.size HWS.out rfl (by omega) (by omega) HYb.out.size ?_; intro g7 c7 w7 hown7 hgr7 hat7; have HO7 : Hid (OwnI w7 W0.heap.size (some ⟨g7, 0, none⟩) c7 (flN (usB l0) (x + 1))) := hide (by unfold OwnI; rw [flN_yes _ _ HMe.out, List.length_append, HNX.out, List.map_append]; exact hown7); have HR7 := hide ((HY.out.sab.turn hgr7 HO7.out (fun _ hg => at_new hat7 hg)).sab); have HB7 := hide (HYb.out.grown hgr7 HYb.out.size (fun k hk => (own_lt HYr.out k hk).1)); clear hown7 hgr7 hat7))
                  go_roundw
                  case rel => exact ⟨x + 1, some ⟨g7, 0, none⟩, c7, by go_num, by omega, by rw [flN_yes _ _ HMe.out, List.length_append, HNX.out]; rfl, HB7.out, HR7.out⟩
                  case measure => simp [Go.RowKit.intOf]; omega
                . rw [decide_eq_false hme]
                  go_wp2_with fail
                  go_roundw
                  case rel => exact ⟨x + 1, ab, cb, by go_num, by omega, by rw [flN_no _ _ hme], HR.out.1, by rw [flN_no _ _ hme, nwN_no _ _ _ hme]; exact HR.out.2⟩
                  case measure => simp [Go.RowKit.intOf]; omega
          . obtain rfl : Bn = x := by omega
            obtain ⟨w3, hw3⟩ : ∃ w3, w3 = wr := ⟨_, rfl⟩
            subst hw3
            have HQ : Hid (∀ V, Below w3.heap.size w3 V -> ∀ z : Nat, (z : Int) < (Q : Int) -> gq < V.heap.size /\ V.cell? ⟨gq, z, none⟩ = some (.int .i64 (lk (nwN (usQ l0) Q Q) (z : Int)))) := hide (fun V hV z hz => by
              have hat := lk_at (nwN (usQ l0) Q Q) (z : Int) (by omega) (by rw [nwN_len]; exact hz)
              rw [Int.toNat_natCast] at hat
              have := own_at (HR.out.2.c.below hV) z _ (by rw [List.getElem?_map, hat]; rfl)
              exact ⟨World.block_lt_of_cell? _ _ this, this⟩)
            have HBt : Hid (∀ V, Below w3.heap.size w3 V -> ∀ z : Nat, (z : Int) < (Bn : Int) -> gb < V.heap.size /\ V.cell? ⟨gb, z, none⟩ = some (.int .i64 (lk (nwN (usB l0) Bn Bn) (z : Int)))) := hide (fun V hV z hz => by
              have hat := lk_at (nwN (usB l0) Bn Bn) (z : Int) (by omega) (by rw [nwN_len]; exact hz)
              rw [Int.toNat_natCast] at hat
              have := own_at (HR.out.2.d.below hV) z _ (by rw [List.getElem?_map, hat]; rfl)
              exact ⟨World.block_lt_of_cell? _ _ this, this⟩)
            have HRows : Hid (∀ V, Below w3.heap.size w3 V -> OwnI V w.heap.size aq cq (flN (usQ l0) Q) /\ OwnI V w.heap.size ab cb (flN (usB l0) Bn) /\ Below w.heap.size w V /\ V.heap[w.heap.size + 1]? = some (.cells #[.int .i64 0, .int .i64 0, .slice none 0 0] 24) /\ w.heap.size <= w3.heap.size) := hide (fun V hV => by
              obtain ⟨y1, y2, y3⟩ := HP.out V (HR.out.1.trans (hV.mono HR.out.1.size))
              exact ⟨(HR.out.2.a.below hV).base HSW.out, (HR.out.2.b.below hV).base HSW.out, y1, y3, HPw.out.size⟩)
            obtain ⟨nq, hnq⟩ : ∃ nq, (flN (usQ l0) Q).length = nq := ⟨_, rfl⟩
            obtain ⟨nb, hnb⟩ : ∃ nb, (flN (usB l0) Bn).length = nb := ⟨_, rfl⟩
            have HLq := hide hnq
            have HLb := hide hnb
            rw [hnq, hnb]
            clear hnq hnb
            generalize hNQ : nwN (usQ l0) Q Q = NQ at HQ
            generalize hNB : nwN (usB l0) Bn Bn = NB at HBt
            have HNQ := hide hNQ
            have HNB := hide hNB
            clear hNQ hNB
            go_wp2_with (first
              | (go_at_call 4; (with_reducible refine Calls.mono (c5 _ HPw.out) ?_); rintro e w4 ⟨bo, j, rfl, hO4, hb4⟩; have HO4 := hide hO4; have HB4 := hide hb4; clear hO4 hb4))
            have HS0 : Hid (Below w3.heap.size w3 (w4.alloc (.cells #[.int .i64 (nq : Int), .int .i64 (nb : Int), .slice bo n0 j] 24)) /\ (w4.alloc (.cells #[.int .i64 (nq : Int), .int .i64 (nb : Int), .slice bo n0 j] 24)).heap[w4.heap.size]? = some (.cells #[.int .i64 (nq : Int), .int .i64 (nb : Int), .slice bo n0 j] 24) /\ OpsOwn (w4.alloc (.cells #[.int .i64 (nq : Int), .int .i64 (nb : Int), .slice bo n0 j] 24)) w3.heap.size bo n0 j l0) := hide ⟨HB4.out.trans ((bnew _ _).mono HB4.out.size), heap_alloc_new _ _, HO4.out.below (bnew w4 (.cells #[.int .i64 (nq : Int), .int .i64 (nb : Int), .slice bo n0 j] 24))⟩
            generalize (w4.alloc (.cells #[.int .i64 (nq : Int), .int .i64 (nb : Int), .slice bo n0 j] 24)) = WD at *
            by_cases hz0 : n0 = 0
            . have HZ0 := hide hz0
              have hd : decide ((0 : Int) < (n0 : Int)) = false := decide_eq_false (by omega)
              have hd' : decide (0 < n0) = false := decide_eq_false (by omega)
              obtain ⟨y0, y1, y2, y3⟩ := def_cells HS0.out.2.1
              have hzz := (HRows.out WD HS0.out.1).2.2.2.1
              obtain ⟨s0, s1, s2, s3⟩ := def_cells hzz
              have sf : ∀ i, WD.frozen? ⟨w.heap.size + 1, i, none⟩ = false := fun i => by simp [World.frozen?, hzz]
              have HF : Hid (OpsOwn WD w3.heap.size bo n0 j (l0.map (reO (lk NQ) (lk NB)))) := hide (by
                have e : l0 = [] := List.length_eq_zero_iff.1 (by rw [HN0.out]; exact hz0)
                have := HS0.out.2.2
                rw [e] at this ⊢
                exact this)
              clear hz0
              refine wp_loop_rounds 1 ?_
              rw [rounds_succ]
              go_wp2_with fail
              rw [c3_set _ _ _ _ _ _ _ _ _ hzz]
              refine bodyPost_ret (results_cttt rfl _ _ (w.heap.size + 1) _ #[.int .i64 (nq : Int), .int .i64 (nb : Int), .slice bo n0 j] _ _ rfl (setRow_heap _ _ _ _ _ _ hzz) Tryz.underlying24 rfl (by exact infoCi)) rfl ?_
              obtain ⟨t1, t2, t3, t4, t5⟩ := HRows.out WD HS0.out.1
              exact ⟨bo, j, aq, cq, ab, cb, (by rw [HLq.out, HLb.out]; first | done | rfl), (by rw [HNQ.out, HNB.out]; exact (HF.out.base t5).row hzz (by decide) (by decide) _), t1.row hzz (by decide) _, t2.row hzz (by decide) _, Below.row t3 _ _ (by omega)⟩
            . obtain ⟨g, rfl⟩ : ∃ g, bo = some ⟨g, 0, none⟩ := by
                obtain ⟨xs, -, -, h3, -, -⟩ := HS0.out.2.2
                obtain ⟨g, e, -⟩ := own_some h3 (by omega)
                exact ⟨g, e⟩
              go_loopw [18] (fun vi wr => ∃ i : Nat, vi = .int .i64 (i : Int) /\ i <= n0 /\ Below w3.heap.size w3 wr /\ wr.heap[w4.heap.size]? = some (.cells #[.int .i64 (nq : Int), .int .i64 (nb : Int), .slice (some ⟨g, 0, none⟩) n0 j] 24) /\ OpsOwn wr w3.heap.size (some ⟨g, 0, none⟩) n0 j (mxL (lk NQ) (lk NB) l0 i)) (fun vi _ => n0 - (Go.RowKit.intOf vi).toNat)
              case atStart => exact ⟨0, rfl, Nat.zero_le _, HS0.out.1, HS0.out.2.1, by rw [mxL_zero]; exact HS0.out.2.2⟩
              case round =>
                obtain ⟨i, rfl, hi, hbr, hdb, hOr⟩ := hrel
                obtain ⟨y0, y1, y2, y3⟩ := def_cells hdb
                by_cases h : i < n0
                . have hd : decide ((i : Int) < (n0 : Int)) = true := decide_eq_true (by omega)
                  have hkk : (i : Int) < (n0 : Int) := by omega
                  obtain ⟨o, ho⟩ : ∃ o, l0[i]? = some o := ⟨_, List.getElem?_eq_getElem (by rw [HN0.out]; exact h)⟩
                  have hom := List.mem_of_getElem? ho
                  have hmb := HSz.out.2 o hom
                  have HRG := hide (may_rng (HOK.out o hom))
                  have HREL := hide (And.intro hbr (And.intro hdb hOr))
                  have HOO := hide ho
                  have HLE := hide (mxL_lt (lk NQ) (lk NB) l0 i o ho)
                  obtain ⟨mr, hmr⟩ : ∃ mr, o.qs.length = mr := ⟨_, rfl⟩
                  have HMR := hide hmr
                  rw [hmr] at hmb
                  clear ho hom hOr hbr hdb hmr
                  go_wp2_with fail
                  go_loopw [19] (fun vk wr => ∃ k' : Nat, vk = .int .i64 (k' : Int) /\ k' <= mr /\ Below w3.heap.size w3 wr /\ wr.heap[w4.heap.size]? = some (.cells #[.int .i64 (nq : Int), .int .i64 (nb : Int), .slice (some ⟨g, 0, none⟩) n0 j] 24) /\ OpsOwn wr w3.heap.size (some ⟨g, 0, none⟩) n0 j ((mxL (lk NQ) (lk NB) l0 i).set i { o with qs := mqL (lk NQ) o.qs k' })) (fun vk _ => mr - (Go.RowKit.intOf vk).toNat)
                  case atStart => exact ⟨0, rfl, Nat.zero_le _, HREL.out.1, HREL.out.2.1, by rw [mqL_zero, set_same (mxL_at (lk NQ) (lk NB) l0 i o HOO.out)]; exact HREL.out.2.2⟩
                  case round =>
                    clear y0 y1 y2 y3
                    obtain ⟨k', rfl, hk', hbr, hdb, hOr⟩ := hrel
                    obtain ⟨y0, y1, y2, y3⟩ := def_cells hdb
                    have hli := set_at (mxL (lk NQ) (lk NB) l0 i) i { o with qs := mqL (lk NQ) o.qs k' } HLE.out
                    obtain ⟨ar, cr, g1', g2', j0, j2, j3, j4, jf, jb, jc, jr⟩ := hOr.one hli
                    obtain ⟨hoff, hoffr⟩ := hOr.offC hli hdb
                    simp only at j0 j2 j3 j4 jr jb jc hoffr
                    have hml : (mqL (lk NQ) o.qs k').length = mr := by rw [← HMR.out]; unfold mqL; simp; omega
                    rw [hml] at j2 hoffr
                    by_cases hk : k' < mr
                    . have hd2 : decide ((k' : Int) < (mr : Int)) = true := decide_eq_true (by omega)
                      have hkk2 : (k' : Int) < (mr : Int) := by omega
                      obtain ⟨z0, hz0'⟩ : ∃ z, o.qs[k']? = some z := ⟨_, List.getElem?_eq_getElem (by rw [HMR.out]; exact hk)⟩
                      have hrg := HRG.out.1 z0 (List.mem_of_getElem? hz0')
                      obtain ⟨z, rfl⟩ := Int.eq_ofNat_of_zero_le hrg.1
                      obtain ⟨gr, rfl, r1, r2, r3, r4, r5, r6⟩ := jr k' z (mqL_at (lk NQ) o.qs k' z hz0')
                      obtain ⟨hga, hcell⟩ := HQ.out wr hbr z hrg.2
                      have hzn : (z : Int) < (Q : Int) := hrg.2
                      have HK : Hid (∀ V, Below wr.heap.size wr V -> V.cell? ⟨w4.heap.size, 2, none⟩ = some (.slice (some ⟨g, 0, none⟩) n0 j) /\ w4.heap.size < V.heap.size /\ V.cell? ⟨g, i * 6 + 2, none⟩ = some (.slice (some ⟨gr, 0, none⟩) mr cr) /\ g < V.heap.size /\ V.cell? ⟨gr, k', none⟩ = some (.int .i64 (z : Int)) /\ V.frozen? ⟨gr, k', none⟩ = false /\ gr < V.heap.size /\ V.cell? ⟨gq, z, none⟩ = some (.int .i64 (lk NQ (z : Int))) /\ gq < V.heap.size) := hide (fun V hV => ⟨(hV.cell (p := ⟨w4.heap.size, 2, none⟩) y3).trans y2, Nat.lt_of_lt_of_le y3 hV.size, (hV.cell (p := ⟨g, i * 6 + 2, none⟩) g2').trans j2, Nat.lt_of_lt_of_le g2' hV.size, (hV.cell (p := ⟨gr, k', none⟩) r2).trans r4, (hV.frozen (p := ⟨gr, k', none⟩) r2).trans r5, Nat.lt_of_lt_of_le r2 hV.size, (hV.cell (p := ⟨gq, z, none⟩) hga).trans hcell, Nat.lt_of_lt_of_le hga hV.size⟩)
                      have HF : Hid (∀ V, Below wr.heap.size wr V -> (Below w3.heap.size w3 (V.setCell ⟨gr, k', none⟩ (.int .i64 (lk NQ (z : Int)))) /\ (V.setCell ⟨gr, k', none⟩ (.int .i64 (lk NQ (z : Int)))).heap[w4.heap.size]? = some (.cells #[.int .i64 (nq : Int), .int .i64 (nb : Int), .slice (some ⟨g, 0, none⟩) n0 j] 24) /\ OpsOwn (V.setCell ⟨gr, k', none⟩ (.int .i64 (lk NQ (z : Int)))) w3.heap.size (some ⟨g, 0, none⟩) n0 j ((mxL (lk NQ) (lk NB) l0 i).set i { o with qs := mqL (lk NQ) o.qs (k' + 1) }))) := hide (fun V hV => by
                        obtain ⟨ax, cx, -, -, -, x2, -, -, -, -, -, xr⟩ := (hOr.below hV).one hli
                        obtain ⟨gr', e', -, -, -, -, -, x6⟩ := xr k' z (mqL_at (lk NQ) o.qs k' z hz0')
                        simp only at x2
                        rw [(hV.cell (p := ⟨g, i * 6 + 2, none⟩) g2').trans j2] at x2
                        simp only [Option.some.injEq, Value.slice.injEq] at x2
                        rw [e'] at x2
                        have e4 : gr = gr' := by simpa using x2.1
                        subst e4
                        refine ⟨(hbr.trans (hV.mono hbr.size)).setCell (p := ⟨gr, k', none⟩) r1 _, (Below.heap_setCell _ _ _ _ (hoffr gr cr j2)).trans ((hV.block _ y3).trans hdb), ?_⟩
                        have := x6 (lk NQ (z : Int))
                        rw [List.set_set] at this
                        simp only at this
                        rw [mqL_succ (lk NQ) o.qs k' z hz0'] at this
                        exact this)
                      clear hOr jr jb jc r6 hbr hdb hz0' hoffr hli hrg hoff
                      go_wp2_with fail
                      refine wp_region_quiet_last (C := fun W => Below wr.heap.size wr W) (by kernel_rfl) 20 rfl (by kernel_rfl) (by kernel_rfl) (below_drewN (Below.refl _ _) 1) ?_
                      simp only [List.take_succ_cons, List.take_zero]
                      repeat
                        refine wpQuiet_step (fun K hK => ?_)
                        go_simp
                        first
                          | (refine hK _ ?_; clear hK K)
                          | (apply Exists.intro
                             refine ⟨fun W hW => ?_, hK _ ?_⟩
                             first
                               | with_reducible rfl
                               | (obtain ⟨a0, a1, a2, a3, a4, a5, a6, a7, a8⟩ := HK.out W hW; go_simp; rfl)
                             clear hK K)
                      refine wpQuiet_nil ?_
                      intro W hW
                      obtain ⟨a0, a1, a2, a3, a4, a5, a6, a7, a8⟩ := HK.out W hW
                      have HWf := hide (HF.out W hW)
                      clear hW HK HF
                      go_wp2_with fail
                      go_roundw
                      case rel => exact ⟨k' + 1, by go_num, by omega, HWf.out⟩
                      case measure => simp [Go.RowKit.intOf]; omega
                    . obtain rfl : mr = k' := by omega
                      have HV : Hid (Below w3.heap.size w3 wr /\ wr.heap[w4.heap.size]? = some (.cells #[.int .i64 (nq : Int), .int .i64 (nb : Int), .slice (some ⟨g, 0, none⟩) n0 j] 24) /\ OpsOwn wr w3.heap.size (some ⟨g, 0, none⟩) n0 j ((mxL (lk NQ) (lk NB) l0 i).set i { o with qs := o.qs.map (lk NQ) })) := hide ⟨hbr, hdb, by
                        have := hOr
                        rwa [mqL_end (lk NQ) o.qs mr (by rw [HMR.out]; exact Nat.le_refl _)] at this⟩
                      clear hOr hbr hdb jr jb jc hli hoff hoffr
                      by_cases hcn : o.cond = -1
                      . have eC1 : decide (o.cond ≥ 0) = false := decide_eq_false (by omega)
                        have eC2 : decide (0 <= o.cond) = false := decide_eq_false (by omega)
                        by_cases hk2 : o.kind = 2
                        . have eK : (o.kind == 2) = true := by simpa using hk2
                          obtain ⟨bz, hbz⟩ := Int.eq_ofNat_of_zero_le (HRG.out.2.1 hk2).1
                          have HZ1 : Hid (o.bit = (bz : Int) /\ (bz : Int) < (Bn : Int)) := hide ⟨hbz, by rw [← hbz]; exact (HRG.out.2.1 hk2).2⟩
                          obtain ⟨v1, v3, v4⟩ := HV.out
                          obtain ⟨-, -, e1, e2, -, -, e3, e4, ef, -, -, -⟩ := v4.one (set_at _ i _ HLE.out)
                          simp only at e3 e4
                          obtain ⟨f1, -⟩ := v4.offC (set_at _ i _ HLE.out) v3
                          obtain ⟨d0, d1, d2, d3⟩ := def_cells v3
                          obtain ⟨hga, hcell⟩ := HBt.out wr v1 bz HZ1.out.2
                          have hz1 : (bz : Int) < (Bn : Int) := HZ1.out.2
                          have HK1 : Hid (∀ V, Below wr.heap.size wr V -> V.cell? ⟨w4.heap.size, 2, none⟩ = some (.slice (some ⟨g, 0, none⟩) n0 j) /\ w4.heap.size < V.heap.size /\ V.cell? ⟨g, i * 6 + 3, none⟩ = some (.int .i64 (bz : Int)) /\ V.frozen? ⟨g, i * 6 + 3, none⟩ = false /\ g < V.heap.size /\ V.cell? ⟨gb, bz, none⟩ = some (.int .i64 (lk NB (bz : Int))) /\ gb < V.heap.size) := hide (fun V hV => ⟨(hV.cell (p := ⟨w4.heap.size, 2, none⟩) d3).trans d2, Nat.lt_of_lt_of_le d3 hV.size, (hV.cell (p := ⟨g, i * 6 + 3, none⟩) e2).trans (by rw [← HZ1.out.1]; exact e3), (hV.frozen (p := ⟨g, i * 6 + 3, none⟩) e2).trans (ef _), Nat.lt_of_lt_of_le e2 hV.size, (hV.cell (p := ⟨gb, bz, none⟩) hga).trans hcell, Nat.lt_of_lt_of_le hga hV.size⟩)
                          have HF1 : Hid (∀ V, Below wr.heap.size wr V -> (Below w3.heap.size w3 (V.setCell ⟨g, i * 6 + 3, none⟩ (.int .i64 (lk NB (bz : Int)))) /\ (V.setCell ⟨g, i * 6 + 3, none⟩ (.int .i64 (lk NB (bz : Int)))).heap[w4.heap.size]? = some (.cells #[.int .i64 (nq : Int), .int .i64 (nb : Int), .slice (some ⟨g, 0, none⟩) n0 j] 24) /\ OpsOwn (V.setCell ⟨g, i * 6 + 3, none⟩ (.int .i64 (lk NB (bz : Int)))) w3.heap.size (some ⟨g, 0, none⟩) n0 j ((mxL (lk NQ) (lk NB) l0 i).set i { o with qs := o.qs.map (lk NQ), bit := lk NB (bz : Int) }))) := hide (fun V hV => by
                            obtain ⟨-, -, -, -, -, -, -, -, -, xu, -, -⟩ := (v4.below hV).one (set_at _ i _ HLE.out)
                            have := xu (lk NB (bz : Int))
                            simp only [List.set_set] at this
                            exact ⟨(v1.trans (hV.mono v1.size)).setCell (p := ⟨g, i * 6 + 3, none⟩) e1 _, (Below.heap_setCell _ _ _ _ f1).trans ((hV.block _ d3).trans v3), this⟩)
                          clear v1 v3 v4 f1 e1 e3 e4
                          clear hbz
                          go_wp2_with fail
                          refine wp_region_quiet_last2 (C := fun W => Below wr.heap.size wr W) (by kernel_rfl) 13 rfl (by kernel_rfl) (by kernel_rfl) (below_drewN (Below.refl _ _) 1) ?_
                          simp only [List.take_succ_cons, List.take_zero]
                          repeat
                            refine wpQuiet_step (fun K hK => ?_)
                            go_simp
                            first
                              | (refine hK _ ?_; clear hK K)
                              | (apply Exists.intro
                                 refine ⟨fun W hW => ?_, hK _ ?_⟩
                                 first
                                   | with_reducible rfl
                                   | (obtain ⟨a0, a1, a2, a3, a4, a5, a6⟩ := HK1.out W hW; go_simp; rfl)
                                 clear hK K)
                          refine wpQuiet_nil ?_
                          intro W hW
                          obtain ⟨a0, a1, a2, a3, a4, a5, a6⟩ := HK1.out W hW
                          have HWf := hide (HF1.out W hW)
                          clear hW HK1 HF1
                          go_wp2_with fail
                          go_roundw
                          case rel =>
                            refine ⟨i + 1, by go_num, by omega, HWf.out.1, HWf.out.2.1, ?_⟩
                            rw [← mxL_succ (lk NQ) (lk NB) l0 i o HOO.out]
                            have := HWf.out.2.2
                            simpa [reO, hk2, hcn, HZ1.out.1] using this
                          case measure => simp [Go.RowKit.intOf]; omega
                        . have eK : (o.kind == 2) = false := by simpa using hk2
                          go_wp2_with fail
                          go_roundw
                          case rel =>
                            refine ⟨i + 1, by go_num, by omega, HV.out.1, HV.out.2.1, ?_⟩
                            rw [← mxL_succ (lk NQ) (lk NB) l0 i o HOO.out]
                            have := HV.out.2.2
                            simpa [reO, hk2, hcn] using this
                          case measure => simp [Go.RowKit.intOf]; omega
                      . have eC1 : decide (o.cond ≥ 0) = true := decide_eq_true (HRG.out.2.2 hcn).1
                        have eC2 : decide (0 <= o.cond) = true := decide_eq_true (HRG.out.2.2 hcn).1
                        obtain ⟨cz, hcz⟩ := Int.eq_ofNat_of_zero_le (HRG.out.2.2 hcn).1
                        have HZ1 : Hid (o.cond = (cz : Int) /\ (cz : Int) < (Bn : Int)) := hide ⟨hcz, by rw [← hcz]; exact (HRG.out.2.2 hcn).2⟩
                        clear hcz
                        obtain ⟨v1, v3, v4⟩ := HV.out
                        obtain ⟨-, -, e1, e2, -, -, e3, e4, ef, -, -, -⟩ := v4.one (set_at _ i _ HLE.out)
                        simp only at e3 e4
                        obtain ⟨f1, -⟩ := v4.offC (set_at _ i _ HLE.out) v3
                        obtain ⟨d0, d1, d2, d3⟩ := def_cells v3
                        obtain ⟨hga, hcell⟩ := HBt.out wr v1 cz HZ1.out.2
                        have hz1 : (cz : Int) < (Bn : Int) := HZ1.out.2
                        have HK1 : Hid (∀ V, Below wr.heap.size wr V -> V.cell? ⟨w4.heap.size, 2, none⟩ = some (.slice (some ⟨g, 0, none⟩) n0 j) /\ w4.heap.size < V.heap.size /\ V.cell? ⟨g, i * 6 + 4, none⟩ = some (.int .i64 (cz : Int)) /\ V.frozen? ⟨g, i * 6 + 4, none⟩ = false /\ g < V.heap.size /\ V.cell? ⟨gb, cz, none⟩ = some (.int .i64 (lk NB (cz : Int))) /\ gb < V.heap.size) := hide (fun V hV => ⟨(hV.cell (p := ⟨w4.heap.size, 2, none⟩) d3).trans d2, Nat.lt_of_lt_of_le d3 hV.size, (hV.cell (p := ⟨g, i * 6 + 4, none⟩) e2).trans (by rw [← HZ1.out.1]; exact e4), (hV.frozen (p := ⟨g, i * 6 + 4, none⟩) e2).trans (ef _), Nat.lt_of_lt_of_le e2 hV.size, (hV.cell (p := ⟨gb, cz, none⟩) hga).trans hcell, Nat.lt_of_lt_of_le hga hV.size⟩)
                        have HF1 : Hid (∀ V, Below wr.heap.size wr V -> (Below w3.heap.size w3 (V.setCell ⟨g, i * 6 + 4, none⟩ (.int .i64 (lk NB (cz : Int)))) /\ (V.setCell ⟨g, i * 6 + 4, none⟩ (.int .i64 (lk NB (cz : Int)))).heap[w4.heap.size]? = some (.cells #[.int .i64 (nq : Int), .int .i64 (nb : Int), .slice (some ⟨g, 0, none⟩) n0 j] 24) /\ OpsOwn (V.setCell ⟨g, i * 6 + 4, none⟩ (.int .i64 (lk NB (cz : Int)))) w3.heap.size (some ⟨g, 0, none⟩) n0 j ((mxL (lk NQ) (lk NB) l0 i).set i { o with qs := o.qs.map (lk NQ), cond := lk NB (cz : Int) }))) := hide (fun V hV => by
                          obtain ⟨-, -, -, -, -, -, -, -, -, -, xu, -⟩ := (v4.below hV).one (set_at _ i _ HLE.out)
                          have := xu (lk NB (cz : Int))
                          simp only [List.set_set] at this
                          exact ⟨(v1.trans (hV.mono v1.size)).setCell (p := ⟨g, i * 6 + 4, none⟩) e1 _, (Below.heap_setCell _ _ _ _ f1).trans ((hV.block _ d3).trans v3), this⟩)
                        clear v1 v3 v4 f1 e1 e3 e4
                        by_cases hk2 : o.kind = 2
                        . have eK : (o.kind == 2) = true := by simpa using hk2
                          go_wp2_with fail
                          refine wp_region_quiet_last2 (C := fun W => Below wr.heap.size wr W) (by kernel_rfl) 13 rfl (by kernel_rfl) (by kernel_rfl) (below_drewN (Below.refl _ _) 1) ?_
                          simp only [List.take_succ_cons, List.take_zero]
                          repeat
                            refine wpQuiet_step (fun K hK => ?_)
                            go_simp
                            first
                              | (refine hK _ ?_; clear hK K)
                              | (apply Exists.intro
                                 refine ⟨fun W hW => ?_, hK _ ?_⟩
                                 first
                                   | with_reducible rfl
                                   | (obtain ⟨a0, a1, a2, a3, a4, a5, a6⟩ := HK1.out W hW; go_simp; rfl)
                                 clear hK K)
                          refine wpQuiet_nil ?_
                          intro W hW
                          obtain ⟨a0, a1, a2, a3, a4, a5, a6⟩ := HK1.out W hW
                          have HWf := hide (HF1.out W hW)
                          clear hW HK1 HF1
                          obtain ⟨t1, t3, t4⟩ := HWf.out
                          obtain ⟨q0', q1', q2', q3'⟩ := def_cells t3
                          obtain ⟨-, -, -, q5', q4', -, -, -, -, -, -, -⟩ := t4.one (set_at _ i _ HLE.out)
                          simp only at q4'
                          clear t1 t3 t4
                          go_wp2_with fail
                          generalize W.setCell ⟨g, i * 6 + 4, none⟩ (.int .i64 (lk NB (cz : Int))) = wx at *
                          obtain ⟨bz, hbz⟩ := Int.eq_ofNat_of_zero_le (HRG.out.2.1 hk2).1
                          have HZ2 : Hid (o.bit = (bz : Int) /\ (bz : Int) < (Bn : Int)) := hide ⟨hbz, by rw [← hbz]; exact (HRG.out.2.1 hk2).2⟩
                          clear hbz q0' q1' q2' q3' q4' q5' hga hcell d0 d1 d2 d3 e2 ef
                          obtain ⟨v1, v3, v4⟩ := HWf.out
                          obtain ⟨-, -, e1, e2, -, -, e3, e4, ef, -, -, -⟩ := v4.one (set_at _ i _ HLE.out)
                          simp only at e3 e4
                          obtain ⟨f1, -⟩ := v4.offC (set_at _ i _ HLE.out) v3
                          obtain ⟨d0, d1, d2, d3⟩ := def_cells v3
                          obtain ⟨hga, hcell⟩ := HBt.out wx v1 bz HZ2.out.2
                          have hz2 : (bz : Int) < (Bn : Int) := HZ2.out.2
                          have HK2 : Hid (∀ V, Below wx.heap.size wx V -> V.cell? ⟨w4.heap.size, 2, none⟩ = some (.slice (some ⟨g, 0, none⟩) n0 j) /\ w4.heap.size < V.heap.size /\ V.cell? ⟨g, i * 6 + 3, none⟩ = some (.int .i64 (bz : Int)) /\ V.frozen? ⟨g, i * 6 + 3, none⟩ = false /\ g < V.heap.size /\ V.cell? ⟨gb, bz, none⟩ = some (.int .i64 (lk NB (bz : Int))) /\ gb < V.heap.size) := hide (fun V hV => ⟨(hV.cell (p := ⟨w4.heap.size, 2, none⟩) d3).trans d2, Nat.lt_of_lt_of_le d3 hV.size, (hV.cell (p := ⟨g, i * 6 + 3, none⟩) e2).trans (by rw [← HZ2.out.1]; exact e3), (hV.frozen (p := ⟨g, i * 6 + 3, none⟩) e2).trans (ef _), Nat.lt_of_lt_of_le e2 hV.size, (hV.cell (p := ⟨gb, bz, none⟩) hga).trans hcell, Nat.lt_of_lt_of_le hga hV.size⟩)
                          have HF2 : Hid (∀ V, Below wx.heap.size wx V -> (Below w3.heap.size w3 (V.setCell ⟨g, i * 6 + 3, none⟩ (.int .i64 (lk NB (bz : Int)))) /\ (V.setCell ⟨g, i * 6 + 3, none⟩ (.int .i64 (lk NB (bz : Int)))).heap[w4.heap.size]? = some (.cells #[.int .i64 (nq : Int), .int .i64 (nb : Int), .slice (some ⟨g, 0, none⟩) n0 j] 24) /\ OpsOwn (V.setCell ⟨g, i * 6 + 3, none⟩ (.int .i64 (lk NB (bz : Int)))) w3.heap.size (some ⟨g, 0, none⟩) n0 j ((mxL (lk NQ) (lk NB) l0 i).set i { o with qs := o.qs.map (lk NQ), bit := lk NB (bz : Int), cond := lk NB (cz : Int) }))) := hide (fun V hV => by
                            obtain ⟨-, -, -, -, -, -, -, -, -, xu, -, -⟩ := (v4.below hV).one (set_at _ i _ HLE.out)
                            have := xu (lk NB (bz : Int))
                            simp only [List.set_set] at this
                            exact ⟨(v1.trans (hV.mono v1.size)).setCell (p := ⟨g, i * 6 + 3, none⟩) e1 _, (Below.heap_setCell _ _ _ _ f1).trans ((hV.block _ d3).trans v3), this⟩)
                          clear v1 v3 v4 f1 e1 e3 e4
                          refine wp_region_quiet_last2 (C := fun W => Below wx.heap.size wx W) (by kernel_rfl) 13 rfl (by kernel_rfl) (by kernel_rfl) (below_drewN (Below.refl _ _) 1) ?_
                          simp only [List.take_succ_cons, List.take_zero]
                          repeat
                            refine wpQuiet_step (fun K hK => ?_)
                            go_simp
                            first
                              | (refine hK _ ?_; clear hK K)
                              | (apply Exists.intro
                                 refine ⟨fun W hW => ?_, hK _ ?_⟩
                                 first
                                   | with_reducible rfl
                                   | (obtain ⟨a0, a1, a2, a3, a4, a5, a6⟩ := HK2.out W hW; go_simp; rfl)
                                 clear hK K)
                          refine wpQuiet_nil ?_
                          intro W hW
                          obtain ⟨a0, a1, a2, a3, a4, a5, a6⟩ := HK2.out W hW
                          have HWg := hide (HF2.out W hW)
                          clear hW HK2 HF2
                          go_wp2_with fail
                          go_roundw
                          case rel =>
                            refine ⟨i + 1, by go_num, by omega, HWg.out.1, HWg.out.2.1, ?_⟩
                            rw [← mxL_succ (lk NQ) (lk NB) l0 i o HOO.out]
                            have := HWg.out.2.2
                            simpa [reO, hk2, hcn, HZ1.out.1, HZ2.out.1] using this
                          case measure => simp [Go.RowKit.intOf]; omega
                        . have eK : (o.kind == 2) = false := by simpa using hk2
                          go_wp2_with fail
                          refine wp_region_quiet_last2 (C := fun W => Below wr.heap.size wr W) (by kernel_rfl) 13 rfl (by kernel_rfl) (by kernel_rfl) (below_drewN (Below.refl _ _) 1) ?_
                          simp only [List.take_succ_cons, List.take_zero]
                          repeat
                            refine wpQuiet_step (fun K hK => ?_)
                            go_simp
                            first
                              | (refine hK _ ?_; clear hK K)
                              | (apply Exists.intro
                                 refine ⟨fun W hW => ?_, hK _ ?_⟩
                                 first
                                   | with_reducible rfl
                                   | (obtain ⟨a0, a1, a2, a3, a4, a5, a6⟩ := HK1.out W hW; go_simp; rfl)
                                 clear hK K)
                          refine wpQuiet_nil ?_
                          intro W hW
                          obtain ⟨a0, a1, a2, a3, a4, a5, a6⟩ := HK1.out W hW
                          have HWf := hide (HF1.out W hW)
                          clear hW HK1 HF1
                          obtain ⟨t1, t3, t4⟩ := HWf.out
                          obtain ⟨q0', q1', q2', q3'⟩ := def_cells t3
                          obtain ⟨-, -, -, q5', q4', -, -, -, -, -, -, -⟩ := t4.one (set_at _ i _ HLE.out)
                          simp only at q4'
                          clear t1 t3 t4
                          go_wp2_with fail
                          go_roundw
                          case rel =>
                            refine ⟨i + 1, by go_num, by omega, HWf.out.1, HWf.out.2.1, ?_⟩
                            rw [← mxL_succ (lk NQ) (lk NB) l0 i o HOO.out]
                            have := HWf.out.2.2
                            simpa [reO, hk2, hcn, HZ1.out.1] using this
                          case measure => simp [Go.RowKit.intOf]; omega
                . obtain rfl : n0 = i := by omega
                  have HF : Hid (OpsOwn wr w3.heap.size (some ⟨g, 0, none⟩) n0 j (l0.map (reO (lk NQ) (lk NB)))) := hide (by
                    have := hOr
                    rwa [mxL_end (lk NQ) (lk NB) l0 n0 (by rw [HN0.out]; exact Nat.le_refl _)] at this)
                  obtain ⟨t1, t2, t3, t4, t5⟩ := HRows.out wr hbr
                  obtain ⟨s0, s1, s2, s3⟩ := def_cells t4
                  have sf : ∀ i, wr.frozen? ⟨w.heap.size + 1, i, none⟩ = false := fun i => by simp [World.frozen?, t4]
                  have HT := hide (And.intro t1 (And.intro t2 (And.intro t3 (And.intro t4 t5))))
                  clear hOr hbr t1 t2 t3
                  go_wp2_with fail
                  rw [c3_set _ _ _ _ _ _ _ _ _ t4]
                  refine bodyPost_ret (results_cttt rfl _ _ (w.heap.size + 1) _ #[.int .i64 (nq : Int), .int .i64 (nb : Int), .slice (some ⟨g, 0, none⟩) n0 j] _ _ rfl (setRow_heap _ _ _ _ _ _ t4) Tryz.underlying24 rfl (by exact infoCi)) rfl ?_
                  obtain ⟨t1, t2, t3, t4, t5⟩ := HT.out
                  exact ⟨some ⟨g, 0, none⟩, j, aq, cq, ab, cb, (by rw [HLq.out, HLb.out]; first | done | rfl), (by rw [HNQ.out, HNB.out]; exact (HF.out.base t5).row t4 (by decide) (by decide) _), t1.row t4 (by decide) _, t2.row t4 (by decide) _, Below.row t3 _ _ (by omega)⟩
theorem eCompact_80 (c : Circ) (ao : Option Addr) (k : Nat) (hk : (chkC c).2 ≠ 0) (w : World) (hC : Ci w c ao k) : Calls Tryz.prog 6 #[cV c ao k] w fun e w' => e = .returned (.tuple #[.agg #[.int .i64 0, .int .i64 0, .slice none 0 0], .slice none 0 0, .slice none 0 0, .int .i64 80]) /\ Below w.heap.size w w' := by
  have c1 := fun V (h : Below w.heap.size w V) => eMay c ao k V (hC.below h)
  rw [show ((chkC c).2 == 0) = false by simpa using hk] at c1
  obtain ⟨q0, b0, l0⟩ := c
  unfold cV at *
  simp only at *
  generalize l0.length = n0 at *
  have HW := hide (cmp_boxes w q0 b0 ao n0 k)
  generalize hW0 : ((w.alloc (.cells #[.int .i64 q0, .int .i64 b0, .slice ao n0 k] 24)).alloc (.cells #[.int .i64 0, .int .i64 0, .slice none 0 0] 24)) = W0 at HW
  have HZ := hide hW0
  have HP : Hid (∀ V, Below W0.heap.size W0 V -> Below w.heap.size w V /\ V.heap[w.heap.size + 1]? = some (.cells #[.int .i64 0, .int .i64 0, .slice none 0 0] 24)) := hide (fun V h => ⟨HW.out.1.trans (h.mono HW.out.1.size), (h.block _ (Array.getElem?_eq_some_iff.1 HW.out.2.2).1).trans HW.out.2.2⟩)
  clear hW0 hC hk
  go_enter Tryz.func6, Tryz.ntmps6
  go_wp2_with fail
  rw [HZ.out]
  go_wp2_with (first
    | (go_at_call 19; (with_reducible refine Calls.mono (c1 _ HW.out.1) ?_); rintro e w1 ⟨rfl, hb1⟩; obtain ⟨p1, m4⟩ := HP.out w1 hb1; obtain ⟨u0, u1, u2, u3⟩ := def_cells m4; have uf : ∀ i, w1.frozen? ⟨w.heap.size + 1, i, none⟩ = false := fun i => (by simp [World.frozen?, m4])))
  rw [c3_set _ _ _ _ _ _ _ _ _ m4]
  refine bodyPost_ret (results_cttt rfl _ _ (w.heap.size + 1) _ #[.int .i64 0, .int .i64 0, .slice none 0 0] _ _ rfl (setRow_heap _ _ _ _ _ _ m4) Tryz.underlying24 rfl (by exact infoCi)) rfl ?_
  exact ⟨rfl, Below.row p1 _ _ (by omega)⟩
theorem eCompactA (c : Circ) (ao : Option Addr) (k : Nat) (hS : Szs c.ops) (w : World) (hC : Ci w c ao k) : Calls Tryz.prog 6 #[cV c ao k] w fun e w' => ∃ (co : Option Addr) (cap : Nat) (aq : Option Addr) (cq : Nat) (ab : Option Addr) (cb : Nat), e = .returned (.tuple #[cV (cmpP c).1 co cap, .slice aq (cmpP c).2.1.length cq, .slice ab (cmpP c).2.2.1.length cb, .int .i64 (cmpP c).2.2.2]) /\ OpsOwn w' w.heap.size co (cmpP c).1.ops.length cap (cmpP c).1.ops /\ OwnI w' w.heap.size aq cq (cmpP c).2.1 /\ OwnI w' w.heap.size ab cb (cmpP c).2.2.1 /\ Below w.heap.size w w' := by
  unfold cmpP
  by_cases hk : (chkC c).2 ≠ 0
  . rw [if_pos hk]
    refine (eCompact_80 c ao k hk w hC).mono ?_
    rintro e w' ⟨rfl, hb⟩
    exact ⟨none, 0, none, 0, none, 0, rfl, OpsOwn.nil _ _, OwnI.nil _ _, OwnI.nil _ _, hb⟩
  . rw [if_neg hk]
    refine (eCompact_ok c ao k hS (by omega) w hC).mono ?_
    rintro e w' ⟨co, cap, aq, cq, ab, cb, rfl, hO, hq, hb', hb⟩
    have hl : (cmpO c).ops.length = c.ops.length := by simp [cmpO]
    exact ⟨co, cap, aq, cq, ab, cb, by unfold cV; rw [hl]; rfl, by rw [hl]; exact hO, hq, hb', hb⟩
end Go.Proofs.YtijemaahibjejaaGreatDoor.Cir
