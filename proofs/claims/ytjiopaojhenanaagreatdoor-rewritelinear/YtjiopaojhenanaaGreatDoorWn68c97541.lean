import Derived.Test.YtjiopaojhenanaaGreatDoorWn259bf0e4
namespace Go.Proofs.YtjiopaojhenanaaGreatDoor.Cir
end Go.Proofs.YtjiopaojhenanaaGreatDoor.Cir
namespace Go.Proofs.YtjiopaojhenanaaGreatDoor.Gt
end Go.Proofs.YtjiopaojhenanaaGreatDoor.Gt
namespace Go.Proofs.YtjiopaojhenanaaGreatDoor.Oct
end Go.Proofs.YtjiopaojhenanaaGreatDoor.Oct
namespace Go.Proofs.YtjiopaojhenanaaGreatDoor.Tok
end Go.Proofs.YtjiopaojhenanaaGreatDoor.Tok
set_option maxRecDepth 100000
set_option maxHeartbeats 8000000
namespace Go.Proofs.YtjiopaojhenanaaGreatDoor.Rwt
open Go.RowKit Go.Shelf Go.Proofs.YtjiopaojhenanaaGreatDoor.Oct Go.Proofs.YtjiopaojhenanaaGreatDoor.Tok Go.Proofs.YtjiopaojhenanaaGreatDoor.Gt Go.Proofs.YtjiopaojhenanaaGreatDoor.Cir
theorem put_cell {w : World} {G : Nat} {cs : Array Value} {t : TypeId} (h : w.heap[G]? = some (.cells cs t (0, 0))) (i : Nat) (v : Value) {H j : Nat} (hne : H ≠ G) : (w.setCell ⟨G, i, none⟩ v).cell? ⟨H, j, none⟩ = w.cell? ⟨H, j, none⟩ := by
  rw [setCell_eq_setRow _ _ _ _ _ _ _ h]
  exact World.cell?_of_block (w := w) (setRow_other _ _ _ _ hne)
theorem Su.put_cell {w : World} {G q : Nat} {rs : List Nat} (h : Su w G q rs) (i : Nat) (v : Value) {H j : Nat} (hne : H ≠ G) : (w.setCell ⟨G, i, none⟩ v).cell? ⟨H, j, none⟩ = w.cell? ⟨H, j, none⟩ := by
  obtain ⟨cur, h1, -⟩ := h
  exact Rwt.put_cell h1 i v hne
theorem Su.put_froz {w : World} {G q : Nat} {rs : List Nat} (h : Su w G q rs) (i x : Nat) (j : Nat) : (w.setCell ⟨G, i, none⟩ (.int .u64 (x : Nat))).frozen? ⟨G, j, none⟩ = false := by
  obtain ⟨cur, h1, -⟩ := h.put i x
  simp [World.frozen?, h1]
theorem dLinear_ok (q b : Int) (ops : List COp) (ao : Option Addr) (k Q : Nat) (hk : (chkC ⟨q, b, ops⟩).2 = 0) (hq : q = (Q : Int)) (hQ : Q <= 64) (hok : ∀ o ∈ ops, lnOk o Q) (hl : ops.length <= 4096) (w : World) (hC : Ci w ⟨q, b, ops⟩ ao k) : Calls Tryz.prog 5 #[cV ⟨q, b, ops⟩ ao k] w (LiD w (lnL ops (lnI Q))) := by
  subst hq
  have c1 := fun V (h : Below w.heap.size w V) => eMay ⟨Q, b, ops⟩ ao k V (hC.below h)
  rw [show ((chkC ⟨Q, b, ops⟩).2 == 0) = true from beq_iff_eq.2 hk] at c1
  have HO := hide hC.ops
  have HOK := hide hok
  unfold cV at *
  simp only at *
  obtain ⟨n, hn⟩ : ∃ n, ops.length = n := ⟨_, rfl⟩
  have HL := hide hn
  rw [hn] at hl c1 ⊢
  clear hk hC hok hn
  have HB0 : Hid (Below w.heap.size w (w.alloc (.cells #[.int .i64 Q, .int .i64 b, .slice ao n k] 24))) := hide ((Below.refl _ _).alloc (Nat.le_refl _) _)
  have HN0 : Hid ((w.alloc (.cells #[.int .i64 Q, .int .i64 b, .slice ao n k] 24)).heap[w.heap.size]? = some (.cells #[.int .i64 Q, .int .i64 b, .slice ao n k] 24 (0, 0))) := hide (heap_alloc_new _ _)
  go_enter Tryz.func5, Tryz.ntmps5
  go_wp2_with fail
  refine (c1 _ HB0.out).mono ?_
  rintro e w1 ⟨rfl, hb1⟩
  have m1 := (hb1.block w.heap.size (by simp)).trans HN0.out
  obtain ⟨x0, x1, x2, x3⟩ := def_cells m1
  have HM := hide m1
  have HW := hide (bkp HB0.out hb1)
  clear hb1 c1 m1 HB0 HN0
  go_wp2_with fail
  go_loopw [4, 5] (fun vl vi wr => ∃ (i : Nat) (a : Option Addr) (j : Nat), vl = .slice a i j /\ vi = .int .i64 (i : Int) /\ i <= Q /\ Hid (UO wr w1.heap.size (.slice a i j) ((lnI Q).take i)) /\ Hid (Below w1.heap.size w1 wr)) (fun _ vi _ => Q - (Go.RowKit.intOf vi).toNat)
  case atStart => exact ⟨0, none, 0, rfl, rfl, Nat.zero_le _, hide ⟨rfl, .inl ⟨rfl, rfl⟩⟩, hide (Below.refl _ _)⟩
  case round =>
    obtain ⟨i, a, j, rfl, rfl, hi, HU, HB⟩ := hrel
    have m2 := (HB.out.block w.heap.size x3).trans HM.out
    obtain ⟨y0, y1, y2, y3⟩ := def_cells m2
    have HM2 := hide m2
    clear m2
    by_cases h : i < Q
    . have hd : decide ((i : Int) < (Q : Int)) = true := decide_eq_true (by omega)
      have e1 := sh64 i (by omega)
      have e0 : IntKind.u64.wrap (i : Int) = (i : Int) := by simp [IntKind.wrap, IntKind.bits, IntKind.signed]; omega
      obtain ⟨J, hJ⟩ : ∃ J : Nat, J = 1 <<< i := ⟨_, rfl⟩
      rw [← hJ] at e1
      have HJ := hide hJ
      clear hJ
      have hb := bnew wr (.cells #[.int .u64 (J : Int)] 42)
      have HX1 := hide (HU.out.below hb)
      have HX2 := hide (nu_one wr J)
      have HX3 : Hid (Below w1.heap.size w1 (wr.alloc (.cells #[.int .u64 (J : Int)] 42))) := hide (HB.out.trans (hb.mono HB.out.size))
      have HX4 : Hid (w1.heap.size <= (wr.alloc (.cells #[.int .u64 (J : Int)] 42)).heap.size) := hide (Nat.le_trans HB.out.size hb.size)
      have hlt : ((lnI Q).take i).length = i := by rw [List.length_take, lnI_len]; omega
      have HLT := hide hlt
      clear hb hlt
      go_wp2_with (at_builtin; refine app_u18 rfl _ _ rfl w1.heap.size _ ((lnI Q).take i) i HLT.out rfl HX1.out _ _ [J] 1 rfl Nat.one_pos rfl HX2.out (i + 1) rfl (by omega) HX4.out ?_)
      intro G q w2 hu hg
      have HU2 : Hid (UO w2 w1.heap.size (.slice (some ⟨G, 0, none⟩) (i + 1) q) ((lnI Q).take (i + 1))) := hide (by
        rw [← lnI_snoc Q i h, ← HJ.out]
        exact hu)
      have HB2 := hide (HX1.out.grown HX3.out (Nat.le_refl _) HX4.out hg)
      clear hu hg
      go_wp2_with fail
      go_roundw
      case rel => exact ⟨i + 1, some ⟨G, 0, none⟩, q, rfl, by go_num, by omega, HU2, HB2⟩
      case measure => simp [Go.RowKit.intOf]; omega
    . obtain rfl : Q = i := by omega
      have hd : decide ((Q : Int) < (Q : Int)) = false := decide_eq_false (by omega)
      have HZ : Hid (UZ wr w1.heap.size a j (lnI Q)) := hide (by
        have := HU.out.uz
        rwa [List.take_of_length_le (by rw [lnI_len]; exact Nat.le_refl _)] at this)
      clear HU HM2
      go_wp2_with fail
      go_loopw [6] (fun vi wq => ∃ i : Nat, vi = .int .i64 (i : Int) /\ i <= n /\ Hid (∃ rs, lnL (ops.take i) (lnI Q) = some rs /\ UZ wq w1.heap.size a j rs /\ rs.length = Q /\ ∀ x ∈ rs, x < 18446744073709551616) /\ Hid (Below w1.heap.size w1 wq)) (fun vi _ => n - (Go.RowKit.intOf vi).toNat)
      case atStart => exact ⟨0, rfl, Nat.zero_le _, hide ⟨lnI Q, by simp [lnL], HZ.out, lnI_len Q, lnI_lt Q hQ⟩, HB⟩
      case round =>
        clear HZ HB y0 y1 y2 y3
        obtain ⟨i, rfl, hi, HR, HB⟩ := hrel
        have m3 := (HB.out.block w.heap.size x3).trans HM.out
        obtain ⟨t0, t1, t2, t3⟩ := def_cells m3
        have HBW := hide (bkp' HW.out HB.out)
        clear m3
        by_cases h : i < n
        . have hd2 : decide ((i : Int) < (n : Int)) = true := decide_eq_true (by omega)
          have hii : (i : Int) < (n : Int) := by omega
          obtain ⟨o, ho⟩ : ∃ o, ops[i]? = some o := ⟨_, List.getElem?_eq_getElem (by rw [HL.out]; exact h)⟩
          obtain ⟨g, off, aq, cq, rfl, hgl0, hoc0⟩ := HO.out.at ho
          have hoc := hoc0.below HBW.out
          have hgl : g < wr.heap.size := Nat.lt_of_lt_of_le hgl0 HBW.out.size
          have k0 := hoc.kind
          have k1 := hoc.gate
          have k2 := hoc.qs
          have k3 := hoc.bit
          have k4 := hoc.cond
          have k5 := hoc.whn
          obtain ⟨rs, hrs, huz, hlen, hlt⟩ := HR.out
          have hts : lnL (ops.take (i + 1)) (lnI Q) = lnS o rs := by rw [List.take_add_one, ho, Option.toList, lnL_snoc, hrs]; rfl
          have hFN : lnS o rs = none -> lnL ops (lnI Q) = none := fun eS => by
            have h2 := lnL_none _ (ops.drop (i + 1)) _ (hts.trans eS)
            rwa [List.take_append_drop] at h2
          have hLO := HOK.out o (List.mem_of_getElem? ho)
          have HNS := hide hoc.ns
          have HNS0 := hide hoc0.ns
          have hbX := bnew wr (.cells #[.int .i64 o.kind, .int .i64 o.gate, .slice aq o.qs.length cq, .int .i64 o.bit, .int .i64 o.cond, .int .i64 o.whn] 49)
          have hmX : (wr.alloc (.cells #[.int .i64 o.kind, .int .i64 o.gate, .slice aq o.qs.length cq, .int .i64 o.bit, .int .i64 o.cond, .int .i64 o.whn] 49)).heap[wr.heap.size]? = some (.cells #[.int .i64 o.kind, .int .i64 o.gate, .slice aq o.qs.length cq, .int .i64 o.bit, .int .i64 o.cond, .int .i64 o.whn] 49 (0, 0)) := heap_alloc_new _ _
          obtain ⟨o0, o1, o2, o3, o4, o5, o6⟩ := op_cells18 hmX
          have HX := hide hbX
          have HMX := hide hmX
          have cP := fun v W => dPlain o v W
          have HFN := hide hFN
          have HTS := hide hts
          clear hoc hoc0 ho hbX hmX hFN hts HOK
          have HBX := hide (HB.out.trans (HX.out.mono HB.out.size))
          have HKX := hide (fun V (hV : Below (wr.alloc (.cells #[.int .i64 o.kind, .int .i64 o.gate, .slice aq o.qs.length cq, .int .i64 o.bit, .int .i64 o.cond, .int .i64 o.whn] 49)).heap.size (wr.alloc (.cells #[.int .i64 o.kind, .int .i64 o.gate, .slice aq o.qs.length cq, .int .i64 o.bit, .int .i64 o.cond, .int .i64 o.whn] 49)) V) => (⟨(hV.block _ (Array.getElem?_eq_some_iff.1 HMX.out).1).trans HMX.out, bkp HX.out hV, HBX.out.trans (hV.mono (Nat.le_trans HB.out.size HX.out.size))⟩ : V.heap[wr.heap.size]? = some (.cells #[.int .i64 o.kind, .int .i64 o.gate, .slice aq o.qs.length cq, .int .i64 o.bit, .int .i64 o.cond, .int .i64 o.whn] 49 (0, 0)) /\ Below wr.heap.size wr V /\ Below w1.heap.size w1 V))
          by_cases h4 : o.kind = 4
          . have HS2 : Hid (∃ rs, lnL (ops.take (i + 1)) (lnI Q) = some rs /\ UZ (wr.alloc (.cells #[.int .i64 o.kind, .int .i64 o.gate, .slice aq o.qs.length cq, .int .i64 o.bit, .int .i64 o.cond, .int .i64 o.whn] 49)) w1.heap.size a j rs /\ rs.length = Q /\ ∀ x ∈ rs, x < 18446744073709551616) := hide ⟨rs, HTS.out.trans (lns4 h4 rs), huz.below HX.out, hlen, hlt⟩
            have e4 : (o.kind == 4) = true := beq_iff_eq.2 h4
            clear huz hrs h4 hLO HKX HMX cP
            go_wp2_with fail
            go_roundw
            case rel => exact ⟨i + 1, by go_num, by omega, HS2, HBX⟩
            case measure => simp [Go.RowKit.intOf]; omega
          have e4 : (o.kind == 4) = false := beq_eq_false_iff_ne.2 h4
          by_cases hp : plP o = false
          . have HF := hide (HFN.out (lns_np h4 hp rs))
            rw [hp] at cP
            clear huz hrs h4 hLO
            go_wp2_with (go_at_call 15; (with_reducible refine Calls.mono (cP _ _) ?_); rintro e w2 ⟨rfl, hb2⟩; obtain ⟨m2, hw2, hv2⟩ := HKX.out w2 hb2; obtain ⟨s0, s1, s2, s3, s4, s5, s6⟩ := op_cells18 m2; have HW2 := hide hw2; have HV2 := hide hv2; clear m2 hb2 hw2 hv2 cP)
            go_ret2
            exact ⟨fun _ => rfl, fun rs' h' => (by rw [HF.out] at h'; cases h'), HW.out.trans (HV2.out.mono HW.out.size)⟩
          have hp : plP o = true := by simpa using hp
          rw [hp] at cP
          by_cases h1 : o.gate = 1
          . have HS2 : Hid (∀ V, Below wr.heap.size wr V -> ∃ rs, lnL (ops.take (i + 1)) (lnI Q) = some rs /\ UZ V w1.heap.size a j rs /\ rs.length = Q /\ ∀ x ∈ rs, x < 18446744073709551616) := hide (fun V hV => ⟨rs, HTS.out.trans (lns_i hp h1 rs), huz.below hV, hlen, hlt⟩)
            have g1 : (o.gate != 1) = false := by rw [h1]; rfl
            have g2 : (o.gate == 11) = false := by rw [h1]; rfl
            have g3 : (o.gate == 14) = false := by rw [h1]; rfl
            clear huz hrs h4 hLO hp h1
            go_wp2_with (go_at_call 15; (with_reducible refine Calls.mono (cP _ _) ?_); rintro e w2 ⟨rfl, hb2⟩; obtain ⟨m2, hw2, hv2⟩ := HKX.out w2 hb2; obtain ⟨s0, s1, s2, s3, s4, s5, s6⟩ := op_cells18 m2; have HW2 := hide hw2; have HV2 := hide hv2; clear m2 hb2 hw2 hv2 cP)
            go_roundw
            case rel => exact ⟨i + 1, by go_num, by omega, hide (HS2.out _ HW2.out), HV2⟩
            case measure => simp [Go.RowKit.intOf]; omega
          have g1 : (o.gate != 1) = true := by simpa using h1
          by_cases h11 : o.gate = 11
          . obtain ⟨p, r, hq, hpQ, hrQ, hne⟩ := hLO (.inl h11) (by unfold plP at hp; simp at hp; exact hp.1)
            obtain ⟨G, rfl, hGB, hSu⟩ := huz.resolve_left (fun e => by rw [e] at hlen; simp at hlen; omega)
            obtain ⟨vp, xp⟩ : ∃ x, rs[p]? = some x := ⟨_, List.getElem?_eq_getElem (by omega)⟩
            obtain ⟨vr, xr⟩ : ∃ x, rs[r]? = some x := ⟨_, List.getElem?_eq_getElem (by omega)⟩
            have lp := hlt _ (List.mem_of_getElem? xp)
            have lr := hlt _ (List.mem_of_getElem? xr)
            have hns := HNS.out
            rw [hq] at hns
            obtain ⟨gq, oq, rfl, hcq⟩ := hns.resolve_left (by simp)
            have hns0 := HNS0.out
            rw [hq] at hns0
            obtain ⟨gq', oq', eq', hcq'⟩ := hns0.resolve_left (by simp)
            cases eq'
            have HGQW := hide (World.block_lt_of_cell? _ _ (hcq' 0 _ rfl))
            clear hns0 hcq'
            have hl0 : (0 : Int) < (o.qs.length : Int) := by rw [hq]; simp
            have hl1 : (1 : Int) < (o.qs.length : Int) := by rw [hq]; simp
            have hpm : (p : Int) < (Q : Int) := by omega
            have hrm : (r : Int) < (Q : Int) := by omega
            have HV := hide (fun V (hV : Below wr.heap.size wr V) => (by
              have c0 := cell_below (hcq 0 _ rfl) hV
              have c1 := cell_below (hcq 1 _ rfl) hV
              have hs := hSu.below hV
              rw [Nat.add_zero] at c0
              exact ⟨c0, c1, (hs.cell xp).1, (hs.cell xr).1, (hs.cell xp).2.1, hs.lt, World.block_lt_of_cell? _ _ c0, hs⟩ : V.cell? ⟨gq, oq, none⟩ = some (.int .i64 (p : Int)) /\ V.cell? ⟨gq, oq + 1, none⟩ = some (.int .i64 (r : Int)) /\ V.cell? ⟨G, p, none⟩ = some (.int .u64 (vp : Nat)) /\ V.cell? ⟨G, r, none⟩ = some (.int .u64 (vr : Nat)) /\ (∀ x, V.frozen? ⟨G, x, none⟩ = false) /\ G < V.heap.size /\ gq < V.heap.size /\ Su V G j rs))
            have HLN := hide (lns_cx hp h11 hq xp xr)
            have HLE := hide (And.intro hlen hlt)
            have HGB := hide hGB
            have HXX := hide (And.intro xp xr)
            have HGW := hide hSu.lt
            have hx := bits_xor_u64_nat _ _ lr lp
            have g2 : (o.gate == 11) = true := beq_iff_eq.2 h11
            have g3 : (o.gate == 14) = false := by rw [h11]; rfl
            have g4 : (o.gate != 11) = false := by rw [h11]; rfl
            clear hrs h4 hLO hp h1 hq hSu hGB xp xr hns hcq hlen hlt huz h11
            go_wp2_with (go_at_call 15; (with_reducible refine Calls.mono (cP _ _) ?_); rintro e w2 ⟨rfl, hb2⟩; obtain ⟨m2, hw2, hv2⟩ := HKX.out w2 hb2; obtain ⟨s0, s1, s2, s3, s4, s5, s6⟩ := op_cells18 m2; obtain ⟨d0, d1, d2, d3, d4, d5, d6, d7⟩ := HV.out w2 hw2; have HSU := hide d7; have HW2 := hide hw2; have HV2 := hide hv2; clear m2 hb2 hw2 hv2 cP d7)
            have s1' := fun v => (HSU.out.put_cell r v (H := wr.heap.size) (j := 1) (by have := HGW.out; omega)).trans s1
            have HE : Hid (∃ rs, lnL (ops.take (i + 1)) (lnI Q) = some rs /\ UZ (w2.setCell ⟨G, r, none⟩ (.int .u64 ((vr ^^^ vp : Nat) : Int))).drew w1.heap.size (some ⟨G, 0, none⟩) j rs /\ rs.length = Q /\ ∀ x ∈ rs, x < 18446744073709551616) := hide ⟨_, HTS.out.trans HLN.out, .inr ⟨G, rfl, HGB.out, (HSU.out.put r (vr ^^^ vp)).block rfl⟩, (lnS_len HLN.out).trans HLE.out.1, lnS_lt HLN.out HLE.out.2⟩
            have HB2 : Hid (Below w1.heap.size w1 (w2.setCell ⟨G, r, none⟩ (.int .u64 ((vr ^^^ vp : Nat) : Int))).drew) := hide ((HV2.out.setCell (p := ⟨G, r, none⟩) HGB.out _).drew)
            go_region
            go_wp2_with fail
            go_roundw
            case rel => exact ⟨i + 1, by go_num, by omega, HE, HB2⟩
            case measure => simp [Go.RowKit.intOf]; omega
          have g2 : (o.gate != 11) = true := by simpa using h11
          have g2' : (o.gate == 11) = false := beq_eq_false_iff_ne.2 h11
          by_cases h14 : o.gate = 14
          . obtain ⟨p, r, hq, hpQ, hrQ, hne⟩ := hLO (.inr h14) (by unfold plP at hp; simp at hp; exact hp.1)
            obtain ⟨G, rfl, hGB, hSu⟩ := huz.resolve_left (fun e => by rw [e] at hlen; simp at hlen; omega)
            obtain ⟨vp, xp⟩ : ∃ x, rs[p]? = some x := ⟨_, List.getElem?_eq_getElem (by omega)⟩
            obtain ⟨vr, xr⟩ : ∃ x, rs[r]? = some x := ⟨_, List.getElem?_eq_getElem (by omega)⟩
            have lp := hlt _ (List.mem_of_getElem? xp)
            have lr := hlt _ (List.mem_of_getElem? xr)
            have hns := HNS.out
            rw [hq] at hns
            obtain ⟨gq, oq, rfl, hcq⟩ := hns.resolve_left (by simp)
            have hns0 := HNS0.out
            rw [hq] at hns0
            obtain ⟨gq', oq', eq', hcq'⟩ := hns0.resolve_left (by simp)
            cases eq'
            have HGQW := hide (World.block_lt_of_cell? _ _ (hcq' 0 _ rfl))
            clear hns0 hcq'
            have hl0 : (0 : Int) < (o.qs.length : Int) := by rw [hq]; simp
            have hl1 : (1 : Int) < (o.qs.length : Int) := by rw [hq]; simp
            have hpm : (p : Int) < (Q : Int) := by omega
            have hrm : (r : Int) < (Q : Int) := by omega
            have HV := hide (fun V (hV : Below wr.heap.size wr V) => (by
              have c0 := cell_below (hcq 0 _ rfl) hV
              have c1 := cell_below (hcq 1 _ rfl) hV
              have hs := hSu.below hV
              rw [Nat.add_zero] at c0
              exact ⟨c0, c1, (hs.cell xp).1, (hs.cell xr).1, (hs.cell xp).2.1, hs.lt, World.block_lt_of_cell? _ _ c0, hs⟩ : V.cell? ⟨gq, oq, none⟩ = some (.int .i64 (p : Int)) /\ V.cell? ⟨gq, oq + 1, none⟩ = some (.int .i64 (r : Int)) /\ V.cell? ⟨G, p, none⟩ = some (.int .u64 (vp : Nat)) /\ V.cell? ⟨G, r, none⟩ = some (.int .u64 (vr : Nat)) /\ (∀ x, V.frozen? ⟨G, x, none⟩ = false) /\ G < V.heap.size /\ gq < V.heap.size /\ Su V G j rs))
            have HLN := hide (lns_sw hp h14 hq xp xr)
            have HLE := hide (And.intro hlen hlt)
            have HGB := hide hGB
            have HXX := hide (And.intro xp xr)
            have HGW := hide hSu.lt
            have g3 : (o.gate == 14) = true := beq_iff_eq.2 h14
            have g4 : (o.gate != 14) = false := by rw [h14]; rfl
            clear hrs h4 hLO hp h1 hq hSu hGB xp xr hns hcq hlen hlt huz h11 h14
            go_wp2_with (go_at_call 15; (with_reducible refine Calls.mono (cP _ _) ?_); rintro e w2 ⟨rfl, hb2⟩; obtain ⟨m2, hw2, hv2⟩ := HKX.out w2 hb2; obtain ⟨s0, s1, s2, s3, s4, s5, s6⟩ := op_cells18 m2; obtain ⟨d0, d1, d2, d3, d4, d5, d6, d7⟩ := HV.out w2 hw2; have HSU := hide d7; have HW2 := hide hw2; have HV2 := hide hv2; clear m2 hb2 hw2 hv2 cP d7)
            have f1' := fun x : Nat => HSU.out.put_froz p x
            have s2' := fun v => (HSU.out.put_cell p v (H := wr.heap.size) (j := 2) (by have := HGW.out; omega)).trans s2
            have HE : Hid (∃ rs, lnL (ops.take (i + 1)) (lnI Q) = some rs /\ UZ ((w2.setCell ⟨G, p, none⟩ (.int .u64 (vr : Nat))).setCell ⟨G, r, none⟩ (.int .u64 (vp : Nat))).drew w1.heap.size (some ⟨G, 0, none⟩) j rs /\ rs.length = Q /\ ∀ x ∈ rs, x < 18446744073709551616) := hide ⟨_, HTS.out.trans HLN.out, .inr ⟨G, rfl, HGB.out, ((HSU.out.put p vr).put r vp).block rfl⟩, (lnS_len HLN.out).trans HLE.out.1, lnS_lt HLN.out HLE.out.2⟩
            have HB2 : Hid (Below w1.heap.size w1 ((w2.setCell ⟨G, p, none⟩ (.int .u64 (vr : Nat))).setCell ⟨G, r, none⟩ (.int .u64 (vp : Nat))).drew) := hide (((HV2.out.setCell (p := ⟨G, p, none⟩) HGB.out _).setCell (p := ⟨G, r, none⟩) HGB.out _).drew)
            have HGQ : Hid (gq ≠ G) := hide (by have := HGQW.out; have := HGB.out; have := HW.out.size; omega)
            have d1' := fun v => (HSU.out.put_cell p v (H := gq) (j := oq + 1) HGQ.out).trans d1
            go_region
            go_wp2_with fail
            go_roundw
            case rel => exact ⟨i + 1, by go_num, by omega, HE, HB2⟩
            case measure => simp [Go.RowKit.intOf]; omega
          have g3 : (o.gate != 14) = true := by simpa using h14
          have HF := hide (HFN.out (lns_no hp h1 h11 h14 rs))
          clear huz hrs h4 hLO hp h1 h11 h14
          go_wp2_with (go_at_call 15; (with_reducible refine Calls.mono (cP _ _) ?_); rintro e w2 ⟨rfl, hb2⟩; obtain ⟨m2, hw2, hv2⟩ := HKX.out w2 hb2; obtain ⟨s0, s1, s2, s3, s4, s5, s6⟩ := op_cells18 m2; have HW2 := hide hw2; have HV2 := hide hv2; clear m2 hb2 hw2 hv2 cP)
          go_ret2
          exact ⟨fun _ => rfl, fun rs' h' => (by rw [HF.out] at h'; cases h'), HW.out.trans (HV2.out.mono HW.out.size)⟩
        . obtain rfl : n = i := by omega
          have hd2 : decide ((n : Int) < (n : Int)) = false := decide_eq_false (by omega)
          go_wp2_with fail
          go_ret2
          obtain ⟨rs, hrs, huz, hlen, -⟩ := HR.out
          rw [← HL.out, List.take_length] at hrs
          refine ⟨fun h' => (by rw [hrs] at h'; cases h'), fun rs' h' => ?_, HBW.out⟩
          rw [hrs] at h'
          cases h'
          rw [hlen]
          exact ⟨a, j, rfl, huz.nu⟩
theorem dLinear (c : Circ) (ao : Option Addr) (k : Nat) (hk : (chkC c).2 = 0) (w : World) (hC : Ci w c ao k) : Calls Tryz.prog 5 #[cV c ao k] w (LiD w (liP c)) := by
  obtain ⟨q, b, ops⟩ := c
  obtain ⟨h1, h2, -, -, h5, h6⟩ := chkC_ok hk
  simp only at h1 h2 h5 h6
  have hq : q = (q.toNat : Int) := by omega
  exact dLinear_ok q b ops ao k q.toNat hk hq (by omega) (fun o ho => ln_ok hq (h6 o ho)) h5 w hC
end Go.Proofs.YtjiopaojhenanaaGreatDoor.Rwt
