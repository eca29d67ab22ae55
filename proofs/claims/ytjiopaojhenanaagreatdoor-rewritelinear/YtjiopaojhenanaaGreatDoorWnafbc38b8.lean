import Derived.Test.YtjiopaojhenanaaGreatDoorWne28c0523
namespace Go.Proofs.YtjiopaojhenanaaGreatDoor.Cir
end Go.Proofs.YtjiopaojhenanaaGreatDoor.Cir
namespace Go.Proofs.YtjiopaojhenanaaGreatDoor.Gt
end Go.Proofs.YtjiopaojhenanaaGreatDoor.Gt
namespace Go.Proofs.YtjiopaojhenanaaGreatDoor.Oct
end Go.Proofs.YtjiopaojhenanaaGreatDoor.Oct
namespace Go.Proofs.YtjiopaojhenanaaGreatDoor.Tok
end Go.Proofs.YtjiopaojhenanaaGreatDoor.Tok
set_option maxRecDepth 100000
set_option maxHeartbeats 8000000
namespace Go.Proofs.YtjiopaojhenanaaGreatDoor.Rwt
open Go.RowKit Go.Shelf Go.Proofs.YtjiopaojhenanaaGreatDoor.Oct Go.Proofs.YtjiopaojhenanaaGreatDoor.Tok Go.Proofs.YtjiopaojhenanaaGreatDoor.Gt Go.Proofs.YtjiopaojhenanaaGreatDoor.Cir
theorem dSynth_far (ao : Option Addr) (c n : Nat) (hn : 64 < n) (hn2 : n <= 1000000000000000) (w : World) : Calls Tryz.prog 7 #[.slice ao n c] w fun e w' => e = .returned (.tuple #[.agg #[.int .i64 0, .int .i64 0, .slice none 0 0], .int .i64 2]) /\ Below w.heap.size w w' := by
  have HB := hide (bnew w (.cells #[.int .i64 0, .int .i64 0, .slice none 0 0] 24))
  have HM := hide (heap_alloc_new w (.cells #[.int .i64 0, .int .i64 0, .slice none 0 0] 24))
  obtain ⟨x0, x1, x2, x3⟩ := def_cells HM.out
  have hd : decide ((64 : Int) < (n : Int)) = true := decide_eq_true (by omega)
  go_enter Tryz.func7, Tryz.ntmps7
  go_wp2_with fail
  refine bodyPost_ret (results_ct rfl _ _ w.heap.size _ _ _ _ rfl HM.out Tryz.underlying24 rfl (by exact infoCi18)) rfl ?_
  exact ⟨rfl, HB.out⟩
theorem syp_big {rs : List Nat} {x : Nat} (hx : x ∈ rs) (h : 2 ^ rs.length <= x) : syP rs = none := by
  unfold syP
  split
  . rfl
  . rw [if_pos]
    exact decide_eq_true ⟨x, hx, h⟩
theorem syp_syn {rs : List Nat} (hn : rs.length <= 64) (h : ∀ x ∈ rs, ¬ 2 ^ rs.length <= x) : syP rs = syn rs := by
  unfold syP
  rw [if_neg (by omega), if_neg]
  intro e
  obtain ⟨x, hx, h2⟩ := of_decide_eq_true e
  exact h x hx h2
theorem dSynth_ok (ao : Option Addr) (c : Nat) (rs : List Nat) (hr : ∀ x ∈ rs, x < 18446744073709551616) (hn : rs.length <= 64) (w : World) (hA : Nu w ao (rs.map fun (x : Nat) => (x : Int))) : Calls Tryz.prog 7 #[.slice ao rs.length c] w (SyP w rs.length (syP rs)) := by
  have hb0 := bnew w (.cells #[.int .i64 0, .int .i64 0, .slice none 0 0] 24)
  have hm0 := heap_alloc_new w (.cells #[.int .i64 0, .int .i64 0, .slice none 0 0] 24)
  have hws : w.heap.size + 1 <= (w.alloc (.cells #[.int .i64 0, .int .i64 0, .slice none 0 0] 24)).heap.size := by simp
  obtain ⟨x0, x1, x2, x3⟩ := def_cells hm0
  have HW := hide hb0
  have HM := hide hm0
  have HWs := hide hws
  have HA := hide hA
  have HR := hide hr
  have HBG := hide (fun x (hx : x ∈ rs) (h : 2 ^ rs.length <= x) => syp_big hx h)
  have HSY := hide (fun (h : ∀ x ∈ rs, ¬ 2 ^ rs.length <= x) => syp_syn hn h)
  have HSN := hide (fun i (hi : i <= rs.length) (h : syI rs.length i (rs, []) = none) => syn_none hi h)
  have HSE := hide (fun s (h : syI rs.length rs.length (rs, []) = some s) => syn_some h)
  have hd : decide ((64 : Int) < (rs.length : Int)) = false := decide_eq_false (by omega)
  obtain ⟨n, hnl⟩ : ∃ n, rs.length = n := ⟨_, rfl⟩
  have HL := hide hnl
  rw [hnl] at HBG HSY HSN HSE hn hd ⊢
  clear hb0 hm0 hws hA hr hnl
  go_enter Tryz.func7, Tryz.ntmps7
  go_wp2_with fail
  generalize w.alloc (.cells #[.int .i64 0, .int .i64 0, .slice none 0 0] 24) = W0 at *
  go_loopw [5, 6] (fun vl vi wr => ∃ (i : Nat) (a : Option Addr) (j : Nat), vl = .slice a i j /\ vi = .int .i64 (i : Int) /\ i <= n /\ Hid (UO wr (w.heap.size + 1) (.slice a i j) (rs.take i)) /\ Hid (Below (w.heap.size + 1) W0 wr) /\ Hid (∀ x ∈ rs.take i, ¬ 2 ^ n <= x)) (fun _ vi _ => n - (Go.RowKit.intOf vi).toNat)
  case atStart => exact ⟨0, none, 0, rfl, rfl, Nat.zero_le _, hide ⟨rfl, .inl ⟨rfl, rfl⟩⟩, hide (Below.refl _ _), hide (by simp)⟩
  case round =>
    obtain ⟨i, a, j, rfl, rfl, hi, HU, HB, HNB⟩ := hrel
    have HMr := hide ((HB.out.block w.heap.size (Nat.lt_succ_self _)).trans HM.out)
    have HBr := hide (HW.out.trans (HB.out.mono (Nat.le_succ _)))
    obtain ⟨y0, y1, y2, y3⟩ := def_cells HMr.out
    have yf : ∀ z, wr.frozen? ⟨w.heap.size, z, none⟩ = false := fun z => fz_c18' HMr.out z
    by_cases h : i < n
    . have hd2 : decide ((i : Int) < (n : Int)) = true := decide_eq_true (by omega)
      have hii : (i : Int) < (n : Int) := by omega
      obtain ⟨x, hx⟩ : ∃ x, rs[i]? = some x := ⟨_, List.getElem?_eq_getElem (by rw [HL.out]; exact h)⟩
      have hxm : (rs.map fun (x : Nat) => (x : Int))[i]? = some (x : Int) := by simp [hx]
      obtain ⟨g, off, rfl, hg⟩ := (HA.out.below HBr.out).resolve_left (fun e => by rw [e] at hxm; simp at hxm)
      have k1 := hg i _ hxm
      have hgl := World.block_lt_of_cell? _ _ k1
      have hxl := HR.out x (List.mem_of_getElem? hx)
      have e0 : IntKind.u64.wrap (n : Int) = (n : Int) := by simp [IntKind.wrap, IntKind.bits, IntKind.signed]; omega
      have hts : rs.take i ++ [x] = rs.take (i + 1) := by rw [List.take_add_one, hx]; rfl
      have hlt : (rs.take i).length = i := by rw [List.length_take, HL.out]; omega
      have hb := bnew wr (.cells #[.int .u64 (x : Int)] 42)
      have HX1 := hide (HU.out.below hb)
      have HX2 := hide (nu_one wr x)
      have HX3 : Hid (Below (w.heap.size + 1) W0 (wr.alloc (.cells #[.int .u64 (x : Int)] 42))) := hide (HB.out.trans (hb.mono (Nat.le_trans HWs.out HB.out.size)))
      have HX4 : Hid (w.heap.size + 1 <= (wr.alloc (.cells #[.int .u64 (x : Int)] 42)).heap.size) := hide (Nat.le_trans (Nat.le_trans HWs.out HB.out.size) hb.size)
      have HLT := hide hlt
      have HTS := hide hts
      have HXI := hide (List.mem_of_getElem? hx)
      clear hb hlt hts hg hx hxm
      by_cases hb : 2 ^ n <= x
      . have hn64 : n < 64 := by
          rcases Nat.lt_or_ge n 64 with h1 | h1
          . exact h1
          . obtain rfl : n = 64 := by omega
            omega
        have hd3 : decide ((n : Int) < (64 : Int)) = true := decide_eq_true (by omega)
        have hbt := big_t hb
        have HF := hide (HBG.out x HXI.out hb)
        clear hb HBG
        go_wp2_with fail
        rw [c3_set18 _ _ _ _ _ _ _ _ _ HMr.out]
        refine bodyPost_ret (results_ct rfl _ _ w.heap.size _ _ _ _ rfl (setRow_heap _ _ _ _ _ _ HMr.out) Tryz.underlying24 rfl (by exact infoCi18)) rfl ?_
        exact ⟨fun _ => rfl, fun nt e => (by rw [HF.out] at e; cases e), Below.row HBr.out _ _ (Nat.le_refl _)⟩
      . have HN2 : Hid (∀ z ∈ rs.take (i + 1), ¬ 2 ^ n <= z) := hide (fun z hz => by
          rw [← HTS.out] at hz
          rcases List.mem_append.1 hz with hz | hz
          . exact HNB.out z hz
          . rw [List.mem_singleton.1 hz]; exact hb)
        have hbf := big_f hb
        clear hb HBG
        by_cases hn64 : n < 64
        . have hd3 : decide ((n : Int) < (64 : Int)) = true := decide_eq_true (by omega)
          go_wp2_with (at_builtin; refine app_u18 rfl _ _ rfl (w.heap.size + 1) _ (rs.take i) i HLT.out rfl HX1.out _ _ [x] 1 rfl Nat.one_pos rfl HX2.out (i + 1) rfl (by omega) HX4.out ?_)
          intro G q w2 hu hg
          have HU2 : Hid (UO w2 (w.heap.size + 1) (.slice (some ⟨G, 0, none⟩) (i + 1) q) (rs.take (i + 1))) := hide (by rw [← HTS.out]; exact hu)
          have HB2 := hide (HX1.out.grown HX3.out (Nat.le_refl _) HX4.out hg)
          clear hu hg
          go_wp2_with fail
          go_roundw
          case rel => exact ⟨i + 1, some ⟨G, 0, none⟩, q, rfl, by go_num, by omega, HU2, HB2, HN2⟩
          case measure => simp [Go.RowKit.intOf]; omega
        . have hd3 : decide ((n : Int) < (64 : Int)) = false := decide_eq_false (by omega)
          go_wp2_with (at_builtin; refine app_u18 rfl _ _ rfl (w.heap.size + 1) _ (rs.take i) i HLT.out rfl HX1.out _ _ [x] 1 rfl Nat.one_pos rfl HX2.out (i + 1) rfl (by omega) HX4.out ?_)
          intro G q w2 hu hg
          have HU2 : Hid (UO w2 (w.heap.size + 1) (.slice (some ⟨G, 0, none⟩) (i + 1) q) (rs.take (i + 1))) := hide (by rw [← HTS.out]; exact hu)
          have HB2 := hide (HX1.out.grown HX3.out (Nat.le_refl _) HX4.out hg)
          clear hu hg
          go_wp2_with fail
          go_roundw
          case rel => exact ⟨i + 1, some ⟨G, 0, none⟩, q, rfl, by go_num, by omega, HU2, HB2, HN2⟩
          case measure => simp [Go.RowKit.intOf]; omega
    . obtain rfl : n = i := by omega
      have hd2 : decide ((n : Int) < (n : Int)) = false := decide_eq_false (by omega)
      have htk : rs.take n = rs := List.take_of_length_le (by rw [HL.out]; exact Nat.le_refl _)
      have HSYN : Hid (syP rs = syn rs) := hide (HSY.out (by rw [← htk]; exact HNB.out))
      have HZ : Hid (UZ wr (w.heap.size + 1) a j rs) := hide (by
        have := HU.out.uz
        rwa [htk] at this)
      clear HU HNB HSY HBG htk
      go_wp2_with fail
      go_loopw [7, 8] (fun vn vi wq => ∃ (i : Nat) (na : Option Addr) (nn nc : Nat), vn = .slice na nn nc /\ vi = .int .i64 (i : Int) /\ i <= n /\ Hid (∃ s, syI n i (rs, []) = some s /\ DS wq (w.heap.size + 1) a j na nn nc n (i * (n + 1)) s) /\ Hid (Below (w.heap.size + 1) W0 wq)) (fun _ vi _ => n - (Go.RowKit.intOf vi).toNat)
      case atStart => exact ⟨0, none, 0, 0, rfl, rfl, Nat.zero_le _, hide ⟨(rs, []), rfl, HZ.out, opsown_nil _ _, ⟨HL.out, HR.out, Nat.zero_le _⟩⟩, HB⟩
      case round =>
        clear HZ HB HMr HBr y0 y1 y2 y3 yf
        obtain ⟨i, na, nn, nc, rfl, rfl, hi, HD0, HB⟩ := hrel
        by_cases hin : i < n
        . have hd2 : decide ((i : Int) < (n : Int)) = true := decide_eq_true (by omega)
          have hii : (i : Int) < (n : Int) := by omega
          have e0 : IntKind.u64.wrap (i : Int) = (i : Int) := by simp [IntKind.wrap, IntKind.bits, IntKind.signed]; omega
          obtain ⟨s, hsy, hDS⟩ := HD0.out
          obtain ⟨G, rfl, hGB, hSu⟩ := hDS.su (by omega)
          have HD := hide hDS
          have HMr := hide ((HB.out.block w.heap.size (Nat.lt_succ_self _)).trans HM.out)
          have HBr := hide (HW.out.trans (HB.out.mono (Nat.le_succ _)))
          obtain ⟨y0, y1, y2, y3⟩ := def_cells HMr.out
          have yf : ∀ z, wr.frozen? ⟨w.heap.size, z, none⟩ = false := fun z => fz_c18' HMr.out z
          have HLS := hide hDS.gi.len
          clear hDS hSu hGB HD0
          go_wp2_with fail
          go_loopw [9] (fun vi wq => wq = wr /\ ∃ r : Nat, vi = .int .i64 (r : Int) /\ i <= r /\ r <= n /\ Hid (noB s.1 i i r)) (fun vi _ => n - (Go.RowKit.intOf vi).toNat)
          case atStart => exact ⟨rfl, i, rfl, Nat.le_refl _, by omega, hide (fun j h1 h2 => absurd h2 (by omega))⟩
          case round =>
            obtain ⟨rfl, r, rfl, hir, hrn, HN⟩ := hrel
            by_cases hr2 : r < n
            . have hd3 : decide ((r : Int) < (n : Int)) = true := decide_eq_true (by omega)
              have hri : (r : Int) < (n : Int) := by omega
              have hre : ((r : Int) == (n : Int)) = false := beq_eq_false_iff_ne.2 (by omega)
              obtain ⟨xv, hxv, u0, u1, u2, u3⟩ := HD.out.word hr2
              cases hb : xv.testBit i with
              | false =>
                have hbb := bit_f u1 hb
                have HN2 := hide (HN.out.succ (by rw [hxv]; exact hb))
                clear hb hxv
                go_wp2_with fail
                go_roundw
                case rel => exact ⟨trivial, r + 1, by go_num, by omega, by omega, HN2⟩
                case measure => simp [Go.RowKit.intOf]; omega
              | true =>
                have hbb := bit_t u1 hb
                by_cases hrc : r = i
                . have hrc2 := hrc.symm
                  subst hrc2
                  have hne : ((i : Int) != (i : Int)) = false := by simp
                  have HPR : Hid (prS i s = some s) := hide (pr_here HLS.out hin (by rw [hxv]; exact hb))
                  have HD1 : Hid (DS _ (w.heap.size + 1) (some ⟨G, 0, none⟩) j na nn nc n (i * (n + 1) + 0) (swI i 0 s)) := HD
                  have HB1 := HB
                  clear hb hxv HN hrc
                  go_wp2_with fail
                  clear u0 u1 hbb
                  go_loopw [7, 10] (fun vn vi wq => ∃ (y : Nat) (na : Option Addr) (nn nc : Nat), vn = .slice na nn nc /\ vi = .int .i64 (y : Int) /\ y <= n /\ Hid (DS wq (w.heap.size + 1) (some ⟨G, 0, none⟩) j na nn nc n (i * (n + 1) + y) (swI i y (s))) /\ Hid (Below (w.heap.size + 1) W0 wq)) (fun _ vi _ => n - (Go.RowKit.intOf vi).toNat)
                  case atStart => exact ⟨0, _, _, _, rfl, rfl, Nat.zero_le _, HD1, HB1⟩
                  case round =>
                    obtain ⟨y, na, nn, nc, rfl, rfl, hy, HD, HB⟩ := hrel
                    by_cases hyn : y < n
                    . have hd3 : decide ((y : Int) < (n : Int)) = true := decide_eq_true (by omega)
                      have hyi : (y : Int) < (n : Int) := by omega
                      obtain ⟨xv, hxv, u0, u1, u2, u3⟩ := HD.out.word hyn
                      by_cases hyc : y = i
                      . have hne : ((y : Int) != (i : Int)) = false := by rw [hyc]; simp
                        have HD2 : Hid (DS _ (w.heap.size + 1) (some ⟨G, 0, none⟩) j na nn nc n (i * (n + 1) + (y + 1)) (swI i (y + 1) (s))) := hide (by
                          have : swI i (y + 1) (s) = swI i y (s) := by
                            show swS i y (swI i y (s)) = _
                            unfold swS
                            rw [if_neg (fun e => e.1 hyc)]
                          rw [this]
                          exact HD.out.more (by omega))
                        go_wp2_with fail
                        go_roundw
                        case rel => exact ⟨y + 1, na, nn, nc, rfl, by go_num, by omega, HD2, HB⟩
                        case measure => simp [Go.RowKit.intOf]; omega
                      . have hne : ((y : Int) != (i : Int)) = true := by simp; omega
                        cases hb : xv.testBit i with
                        | false =>
                          have hbb := bit_f u1 hb
                          have HD2 : Hid (DS _ (w.heap.size + 1) (some ⟨G, 0, none⟩) j na nn nc n (i * (n + 1) + (y + 1)) (swI i (y + 1) (s))) := hide (by
                            have : swI i (y + 1) (s) = swI i y (s) := by
                              show swS i y (swI i y (s)) = _
                              unfold swS
                              rw [if_neg (fun e => by rw [hxv, hb] at e; cases e.2)]
                            rw [this]
                            exact HD.out.more (by omega))
                          clear hb
                          go_wp2_with fail
                          go_roundw
                          case rel => exact ⟨y + 1, na, nn, nc, rfl, by go_num, by omega, HD2, HB⟩
                          case measure => simp [Go.RowKit.intOf]; omega
                        | true =>
                          have hbb := bit_t u1 hb
                          obtain ⟨xi, hxi, z0, z1, -, -⟩ := HD.out.word hin
                          have hxx := bits_xor_u64_nat _ _ u1 z1
                          obtain ⟨J, hJ⟩ : ∃ J : Nat, J = xv ^^^ xi := ⟨_, rfl⟩
                          rw [← hJ] at hxx
                          have HNT := hide (dNote HD.out (show w.heap.size + 1 <= _ from Nat.le_trans HWs.out HB.out.size) i y hin hyn J (by rw [hJ, hxv, hxi]))
                          have HSW : Hid (swI i (y + 1) (s) = adS i y (swI i y (s))) := hide (by
                            show swS i y (swI i y (s)) = _
                            unfold swS
                            rw [if_pos ⟨hyc, by rw [hxv]; exact hb⟩])
                          have hnn : nn <= 1000000000 := by
                            have h1 := HD.out.nn_eq
                            have h2 := HD.out.gi.nt
                            have h3 := sy_bound (Nat.le_of_lt hin) hn
                            omega
                          have HBS : Hid (w.heap.size + 1 <= _) := hide (Nat.le_trans HWs.out HB.out.size)
                          clear hb hJ hxv hxi
                          go_wp2_with fail
                          go_region
                          go_wp2_with (first | (go_at_call 21; (with_reducible refine Calls.mono (HNT.out) ?_); rintro e w3 ⟨a3, c3, rfl, p1, p2, p3, p4, p5⟩; have HP5 := hide p5; clear p5) | (at_builtin; refine list_push18x rfl _ _ rfl p1 HBS.out p2 ⟨1, 11, [(i : Int), (y : Int)], 0, -1, 0⟩ (.slice a3 2 c3) p3 w3.heap.size p4 (by omega) rfl rfl ?_))
                          intro g6 c6 w6 ho6 hg6
                          obtain ⟨q1, q2⟩ := HP5.out g6 c6 w6 ho6 hg6
                          have HD2 : Hid (DS w6 (w.heap.size + 1) (some ⟨G, 0, none⟩) j (some ⟨g6, 0, none⟩) (nn + 1) c6 n (i * (n + 1) + (y + 1)) (swI i (y + 1) (s))) := hide (by rw [HSW.out]; exact q1)
                          have HB2 := hide (HB.out.trans q2)
                          clear q1 q2 ho6 hg6
                          go_wp2_with fail
                          go_roundw
                          case rel => exact ⟨y + 1, _, _, _, rfl, by go_num, by omega, HD2, HB2⟩
                          case measure => simp [Go.RowKit.intOf]; omega
                    . obtain rfl : n = y := by omega
                      have hd3 : decide ((n : Int) < (n : Int)) = false := decide_eq_false (by omega)
                      have HD2 : Hid (∃ s, syI n (i + 1) (rs, []) = some s /\ DS _ (w.heap.size + 1) (some ⟨G, 0, none⟩) j na nn nc n ((i + 1) * (n + 1)) s) := hide ⟨_, (by simp only [syI]; rw [hsy]; unfold clS; simp only [Option.bind_some]; rw [HPR.out]; rfl), HD.out.more (by rw [Nat.succ_mul]; omega)⟩
                      go_wp2_with fail
                      go_roundw
                      case rel => exact ⟨i + 1, na, nn, nc, rfl, by go_num, by omega, HD2, HB⟩
                      case measure => simp [Go.RowKit.intOf]; omega
                . have hne : ((r : Int) != (i : Int)) = true := by simp; omega
                  have HPR : Hid (prS i s = some (adS r i s)) := hide (pr_at HLS.out (Nat.lt_of_le_of_ne hir (fun e => hrc e.symm)) hr2 HN.out (by rw [hxv]; exact hb))
                  obtain ⟨xi, hxi, z0, z1, -, -⟩ := HD.out.word hin
                  have hxx := bits_xor_u64_nat _ _ z1 u1
                  obtain ⟨J, hJ⟩ : ∃ J : Nat, J = xi ^^^ xv := ⟨_, rfl⟩
                  rw [← hJ] at hxx
                  have HNT := hide (dNote HD.out (show w.heap.size + 1 <= _ from Nat.le_trans HWs.out HB.out.size) r i hr2 hin J (by rw [hJ, hxv, hxi]))
                  have hnn : nn <= 1000000000 := by
                    have h1 := HD.out.nn_eq
                    have h2 := HD.out.gi.nt
                    have h3 := sy_bound (Nat.le_of_lt hin) hn
                    omega
                  have HBS : Hid (w.heap.size + 1 <= _) := hide (Nat.le_trans HWs.out HB.out.size)
                  clear hb hxv hxi hJ HN
                  go_wp2_with fail
                  go_region
                  go_wp2_with (first | (go_at_call 21; (with_reducible refine Calls.mono (HNT.out) ?_); rintro e w3 ⟨a3, c3, rfl, p1, p2, p3, p4, p5⟩; have HP5 := hide p5; clear p5) | (at_builtin; refine list_push18x rfl _ _ rfl p1 HBS.out p2 ⟨1, 11, [(r : Int), (i : Int)], 0, -1, 0⟩ (.slice a3 2 c3) p3 w3.heap.size p4 (by omega) rfl rfl ?_))
                  intro g6 c6 w6 ho6 hg6
                  obtain ⟨q1, q2⟩ := HP5.out g6 c6 w6 ho6 hg6
                  have HD1 : Hid (DS w6 (w.heap.size + 1) (some ⟨G, 0, none⟩) j (some ⟨g6, 0, none⟩) (nn + 1) c6 n (i * (n + 1) + 1 + 0) (swI i 0 (adS r i s))) := hide q1
                  have HB1 := hide (HB.out.trans q2)
                  clear q1 q2 ho6 hg6 z0 z1 u0 u1 hbb hxx
                  go_wp2_with fail
                  go_loopw [7, 10] (fun vn vi wq => ∃ (y : Nat) (na : Option Addr) (nn nc : Nat), vn = .slice na nn nc /\ vi = .int .i64 (y : Int) /\ y <= n /\ Hid (DS wq (w.heap.size + 1) (some ⟨G, 0, none⟩) j na nn nc n (i * (n + 1) + 1 + y) (swI i y (adS r i s))) /\ Hid (Below (w.heap.size + 1) W0 wq)) (fun _ vi _ => n - (Go.RowKit.intOf vi).toNat)
                  case atStart => exact ⟨0, _, _, _, rfl, rfl, Nat.zero_le _, HD1, HB1⟩
                  case round =>
                    obtain ⟨y, na, nn, nc, rfl, rfl, hy, HD, HB⟩ := hrel
                    by_cases hyn : y < n
                    . have hd3 : decide ((y : Int) < (n : Int)) = true := decide_eq_true (by omega)
                      have hyi : (y : Int) < (n : Int) := by omega
                      obtain ⟨xv, hxv, u0, u1, u2, u3⟩ := HD.out.word hyn
                      by_cases hyc : y = i
                      . have hne : ((y : Int) != (i : Int)) = false := by rw [hyc]; simp
                        have HD2 : Hid (DS _ (w.heap.size + 1) (some ⟨G, 0, none⟩) j na nn nc n (i * (n + 1) + 1 + (y + 1)) (swI i (y + 1) (adS r i s))) := hide (by
                          have : swI i (y + 1) (adS r i s) = swI i y (adS r i s) := by
                            show swS i y (swI i y (adS r i s)) = _
                            unfold swS
                            rw [if_neg (fun e => e.1 hyc)]
                          rw [this]
                          exact HD.out.more (by omega))
                        go_wp2_with fail
                        go_roundw
                        case rel => exact ⟨y + 1, na, nn, nc, rfl, by go_num, by omega, HD2, HB⟩
                        case measure => simp [Go.RowKit.intOf]; omega
                      . have hne : ((y : Int) != (i : Int)) = true := by simp; omega
                        cases hb : xv.testBit i with
                        | false =>
                          have hbb := bit_f u1 hb
                          have HD2 : Hid (DS _ (w.heap.size + 1) (some ⟨G, 0, none⟩) j na nn nc n (i * (n + 1) + 1 + (y + 1)) (swI i (y + 1) (adS r i s))) := hide (by
                            have : swI i (y + 1) (adS r i s) = swI i y (adS r i s) := by
                              show swS i y (swI i y (adS r i s)) = _
                              unfold swS
                              rw [if_neg (fun e => by rw [hxv, hb] at e; cases e.2)]
                            rw [this]
                            exact HD.out.more (by omega))
                          clear hb
                          go_wp2_with fail
                          go_roundw
                          case rel => exact ⟨y + 1, na, nn, nc, rfl, by go_num, by omega, HD2, HB⟩
                          case measure => simp [Go.RowKit.intOf]; omega
                        | true =>
                          have hbb := bit_t u1 hb
                          obtain ⟨xi, hxi, z0, z1, -, -⟩ := HD.out.word hin
                          have hxx := bits_xor_u64_nat _ _ u1 z1
                          obtain ⟨J, hJ⟩ : ∃ J : Nat, J = xv ^^^ xi := ⟨_, rfl⟩
                          rw [← hJ] at hxx
                          have HNT := hide (dNote HD.out (show w.heap.size + 1 <= _ from Nat.le_trans HWs.out HB.out.size) i y hin hyn J (by rw [hJ, hxv, hxi]))
                          have HSW : Hid (swI i (y + 1) (adS r i s) = adS i y (swI i y (adS r i s))) := hide (by
                            show swS i y (swI i y (adS r i s)) = _
                            unfold swS
                            rw [if_pos ⟨hyc, by rw [hxv]; exact hb⟩])
                          have hnn : nn <= 1000000000 := by
                            have h1 := HD.out.nn_eq
                            have h2 := HD.out.gi.nt
                            have h3 := sy_bound (Nat.le_of_lt hin) hn
                            omega
                          have HBS : Hid (w.heap.size + 1 <= _) := hide (Nat.le_trans HWs.out HB.out.size)
                          clear hb hJ hxv hxi
                          go_wp2_with fail
                          go_region
                          go_wp2_with (first | (go_at_call 21; (with_reducible refine Calls.mono (HNT.out) ?_); rintro e w3 ⟨a3, c3, rfl, p1, p2, p3, p4, p5⟩; have HP5 := hide p5; clear p5) | (at_builtin; refine list_push18x rfl _ _ rfl p1 HBS.out p2 ⟨1, 11, [(i : Int), (y : Int)], 0, -1, 0⟩ (.slice a3 2 c3) p3 w3.heap.size p4 (by omega) rfl rfl ?_))
                          intro g6 c6 w6 ho6 hg6
                          obtain ⟨q1, q2⟩ := HP5.out g6 c6 w6 ho6 hg6
                          have HD2 : Hid (DS w6 (w.heap.size + 1) (some ⟨G, 0, none⟩) j (some ⟨g6, 0, none⟩) (nn + 1) c6 n (i * (n + 1) + 1 + (y + 1)) (swI i (y + 1) (adS r i s))) := hide (by rw [HSW.out]; exact q1)
                          have HB2 := hide (HB.out.trans q2)
                          clear q1 q2 ho6 hg6
                          go_wp2_with fail
                          go_roundw
                          case rel => exact ⟨y + 1, _, _, _, rfl, by go_num, by omega, HD2, HB2⟩
                          case measure => simp [Go.RowKit.intOf]; omega
                    . obtain rfl : n = y := by omega
                      have hd3 : decide ((n : Int) < (n : Int)) = false := decide_eq_false (by omega)
                      have HD2 : Hid (∃ s, syI n (i + 1) (rs, []) = some s /\ DS _ (w.heap.size + 1) (some ⟨G, 0, none⟩) j na nn nc n ((i + 1) * (n + 1)) s) := hide ⟨_, (by simp only [syI]; rw [hsy]; unfold clS; simp only [Option.bind_some]; rw [HPR.out]; rfl), HD.out.more (by rw [Nat.succ_mul]; omega)⟩
                      go_wp2_with fail
                      go_roundw
                      case rel => exact ⟨i + 1, na, nn, nc, rfl, by go_num, by omega, HD2, HB⟩
                      case measure => simp [Go.RowKit.intOf]; omega
            . obtain rfl : n = r := by omega
              have hd3 : decide ((n : Int) < (n : Int)) = false := decide_eq_false (by omega)
              have hre : ((n : Int) == (n : Int)) = true := beq_self_eq_true _
              have HF : Hid (syP rs = none) := hide (by
                rw [HSYN.out]
                refine HSN.out (i + 1) hin ?_
                simp only [syI]
                rw [hsy]
                show clS n i s = none
                unfold clS
                rw [pr_none HLS.out hin HN.out]
                rfl)
              go_wp2_with fail
              rw [c3_set18 _ _ _ _ _ _ _ _ _ HMr.out]
              refine bodyPost_ret (results_ct rfl _ _ w.heap.size _ _ _ _ rfl (setRow_heap _ _ _ _ _ _ HMr.out) Tryz.underlying24 rfl (by exact infoCi18)) rfl ?_
              exact ⟨fun _ => rfl, fun nt e => (by rw [HF.out] at e; cases e), Below.row HBr.out _ _ (Nat.le_refl _)⟩
        . obtain rfl : n = i := by omega
          have hd2 : decide ((n : Int) < (n : Int)) = false := decide_eq_false (by omega)
          obtain ⟨s, hsy, hDS⟩ := HD0.out
          have HF := hide (HSYN.out.trans (HSE.out s hsy))
          have HNN := hide hDS.nn_eq
          obtain ⟨xs, q1, q2, q3, q4, q5⟩ := hDS.ops
          have hbn : nn <= 4160 := by
            have h1 := hDS.nn_eq
            have h2 := hDS.gi.nt
            have h3 := sy_bound (Nat.le_refl n) hn
            omega
          have HN := hide q3
          have HXL := hide q1
          have HX2 := hide q2
          have HR4 := hide q4
          have HP5 := hide q5
          obtain ⟨V1, hV1⟩ : ∃ V1, V1 = wr := ⟨_, rfl⟩
          subst hV1
          have HBW1 := hide (bnew V1 (.cells #[.int .i64 (n : Int), .int .i64 0, .slice none 0 0] 24))
          have HBD : Hid (w.heap.size + 1 <= V1.heap.size) := hide (Nat.le_trans HWs.out HB.out.size)
          have HL0 := hide (dl_start (wr := V1) (B := w.heap.size + 1) (n := n) q1)
          have HM1 := hide (HBW1.out.block w.heap.size (by have := HBD.out; omega) |>.trans ((HB.out.block w.heap.size (Nat.lt_succ_self _)).trans HM.out))
          have HB1 := hide ((HW.out.trans (HB.out.mono (Nat.le_succ _))).trans (HBW1.out.mono (by have := HBD.out; omega)))
          clear hsy hDS q1 q2 q3 q4 q5 HD0 HB HSE HSN HSYN
          go_wp2_with fail
          generalize V1.alloc (.cells #[.int .i64 (n : Int), .int .i64 0, .slice none 0 0] 24) = W1 at *
          go_loopw [12] (fun vi wq => ∃ (i : Nat) (z : Int) (da : Option Addr) (dc : Nat), vi = .int .i64 z /\ z = (i : Int) - 1 /\ i <= nn /\ Hid (DL W1 wq (w.heap.size + 1) V1.heap.size n nn xs i da dc)) (fun vi _ => (Go.RowKit.intOf vi + 1).toNat)
          case atStart => exact ⟨nn, (nn : Int) - 1, none, 0, by go_num, rfl, Nat.le_refl _, HL0⟩
          case round =>
            clear HL0
            obtain ⟨i, z, da, dc, rfl, hz, hi2, HDL⟩ := hrel
            by_cases h0 : i = 0
            . subst h0
              obtain rfl : z = -1 := by omega
              clear hz
              have hd5 : decide ((0 : Int) <= (-1 : Int)) = false := rfl
              have hdd := HDL.out.hd
              rw [Nat.sub_zero] at hdd
              obtain ⟨d0, d1, d2, d3⟩ := def_cells hdd
              have HMr := hide ((HDL.out.bel.block w.heap.size (Nat.lt_succ_self _)).trans HM1.out)
              have HBr := hide (HB1.out.trans (HDL.out.bel.mono (Nat.le_succ _)))
              obtain ⟨y0, y1, y2, y3⟩ := def_cells HMr.out
              have yf : ∀ j, wr.frozen? ⟨w.heap.size, j, none⟩ = false := fun j => fz_c18' HMr.out j
              have HO := hide ((HDL.out.fin HXL.out HBD.out HBW1.out HR4.out HP5.out).base (Nat.le_succ _))
              clear hdd
              go_wp2_with fail
              rw [c3_set18 _ _ _ _ _ _ _ _ _ HMr.out]
              refine bodyPost_ret (results_ct rfl _ _ w.heap.size _ _ _ _ rfl (setRow_heap _ _ _ _ _ _ HMr.out) Tryz.underlying24 rfl (by exact infoCi18)) rfl ?_
              refine ⟨fun e => (by rw [HF.out] at e; cases e), fun nt e => ?_, Below.row HBr.out _ _ (Nat.le_refl _)⟩
              rw [HF.out] at e
              cases e
              rw [← HNN.out, HX2.out]
              exact ⟨da, dc, rfl, HO.out.row HMr.out (by decide) (by decide) _⟩
            . obtain ⟨p, rfl⟩ : ∃ p, i = p + 1 := ⟨i - 1, by omega⟩
              obtain rfl : z = (p : Int) := by omega
              clear hz
              have hd5 : decide ((0 : Int) <= (p : Int)) = true := decide_eq_true (by omega)
              obtain ⟨⟨⟨kind, gate, qs, bit, cond, whn⟩, v⟩, hx⟩ : ∃ x, xs[p]? = some x := ⟨_, List.getElem?_eq_getElem (by rw [← HXL.out]; omega)⟩
              obtain ⟨aq, cq, hv, -⟩ := HR4.out _ (List.mem_of_getElem? hx)
              simp only at hv
              subst hv
              obtain ⟨gN, rfl, -⟩ := own_some HN.out (by omega)
              have hpn : (p : Int) < (nn : Int) := by omega
              have HGN : Hid (gN < V1.heap.size) := hide (own_lt HN.out gN rfl).2
              have r0 := HDL.out.read HBW1.out HN.out hx 0 _ rfl
              rw [Nat.add_zero] at r0
              have HS0 : Hid ((SL V1.heap.size n (nn - (p + 1)) dc gN p qs.length cq da aq kind gate bit cond whn) wr) := hide ⟨HDL.out.hd, r0, HDL.out.read HBW1.out HN.out hx 1 _ rfl, HDL.out.read HBW1.out HN.out hx 2 _ rfl, HDL.out.read HBW1.out HN.out hx 3 _ rfl, HDL.out.read HBW1.out HN.out hx 4 _ rfl, HDL.out.read HBW1.out HN.out hx 5 _ rfl⟩
              have HSX : Hid ((SL V1.heap.size n (nn - (p + 1)) dc gN p qs.length cq da aq kind gate bit cond whn) wr.drew) := hide (HS0.out.keep (fun _ _ _ => rfl) HGN.out)
              have hbY : Below wr.heap.size wr (wr.drew.alloc (.cells #[.int .i64 kind, .int .i64 gate, .slice aq qs.length cq, .int .i64 bit, .int .i64 cond, .int .i64 whn] 49)) := (bnew wr (.cells #[.int .i64 kind, .int .i64 gate, .slice aq qs.length cq, .int .i64 bit, .int .i64 cond, .int .i64 whn] 49)).drew
              have HS6 : Hid ((SL V1.heap.size n (nn - (p + 1)) dc gN p qs.length cq da aq kind gate bit cond whn) (wr.drew.alloc (.cells #[.int .i64 kind, .int .i64 gate, .slice aq qs.length cq, .int .i64 bit, .int .i64 cond, .int .i64 whn] 49))) := hide (HS0.out.keep (fun b _ hl => hbY.block b hl) HGN.out)
              have HRY : Hid ((wr.drew.alloc (.cells #[.int .i64 kind, .int .i64 gate, .slice aq qs.length cq, .int .i64 bit, .int .i64 cond, .int .i64 whn] 49)).ownsRow (V1.heap.size + 1) 49 6 (.slice da (nn - (p + 1)) dc) (nn - (p + 1)) ((xs.drop (p + 1)).reverse.flatMap opC)) := hide (own_of_block HDL.out.row (fun k hk => hbY.block k (own_lt HDL.out.row k hk).2))
              have HYs : Hid (V1.heap.size + 1 <= (wr.drew.alloc (.cells #[.int .i64 kind, .int .i64 gate, .slice aq qs.length cq, .int .i64 bit, .int .i64 cond, .int .i64 whn] 49)).heap.size) := hide (by
                have h1 := hbY.size
                have h2 := (Array.getElem?_eq_some_iff.1 HDL.out.hd).1
                omega)
              have HHY : Hid ((wr.drew.alloc (.cells #[.int .i64 kind, .int .i64 gate, .slice aq qs.length cq, .int .i64 bit, .int .i64 cond, .int .i64 whn] 49)).heap[wr.heap.size]? = some (.cells (opC ((⟨kind, gate, qs, bit, cond, whn⟩ : COp), Value.slice aq qs.length cq)).toArray 49 (0, 0))) := hide (heap_alloc_new wr.drew _)
              have HST : Hid (∀ (g6 c6 : Nat) (w6 : World), w6.ownsRow (V1.heap.size + 1) 49 6 (.slice (some ⟨g6, 0, none⟩) (nn - (p + 1) + 1) c6) (nn - (p + 1) + 1) ((xs.drop (p + 1)).reverse.flatMap opC ++ opC ((⟨kind, gate, qs, bit, cond, whn⟩ : COp), Value.slice aq qs.length cq)) -> (wr.drew.alloc (.cells #[.int .i64 kind, .int .i64 gate, .slice aq qs.length cq, .int .i64 bit, .int .i64 cond, .int .i64 whn] 49)).grownBy w6 (ob da) -> (SL V1.heap.size n (nn - (p + 1)) dc gN p qs.length cq da aq kind gate bit cond whn) w6 /\ DL W1 (w6.setCell ⟨V1.heap.size, 2, none⟩ (.slice (some ⟨g6, 0, none⟩) (nn - (p + 1) + 1) c6)) (w.heap.size + 1) V1.heap.size n nn xs p (some ⟨g6, 0, none⟩) c6) := hide (fun g6 c6 w6 ho hg => ⟨HS6.out.grown HGN.out HRY.out hg, HDL.out.step HBD.out (Nat.le_trans HBD.out HBW1.out.size) (by omega) hx hbY ho hg⟩)
              have hmn : nn - (p + 1) <= 1000000000 := by omega
              obtain ⟨hc1, -, -, -, -, -, -⟩ := HS0.out
              obtain ⟨d0, d1, d2, d3⟩ := def_cells hc1
              clear hx r0 hbY hc1
              go_wp2_with fail
              refine region_front (S := (SL V1.heap.size n (nn - (p + 1)) dc gN p qs.length cq da aq kind gate bit cond whn)) (by kernel_rfl) 9 (by kernel_rfl) HSX.out (fun hHeld => ?_)
              simp only [List.take_succ_cons, List.take_zero]
              refine take_to (i := 0) (d := 138) (v := ?_) rfl rfl (by kernel_rfl) (by kernel_rfl) (by kernel_rfl) (fun _ _ _ h => h) (Or.inl ⟨by rfl, ?_⟩) (by assumption) ?_
              rotate_left 1
              . intro W hSw
                obtain ⟨hc1, t0, t1, t2, t3, t4, t5⟩ := hSw
                obtain ⟨s0, s1, s2, s3⟩ := def_cells hc1
                have tg := World.block_lt_of_cell? _ _ t0
                go_simp
                with_reducible rfl
              simp only [Act.put, List.setIfInBounds_toArray, List.set_cons_zero, List.set_cons_succ]
              refine take_to (i := 1) (d := 139) (v := ?_) rfl rfl (by kernel_rfl) (by kernel_rfl) (by kernel_rfl) (fun _ _ _ h => h) (Or.inl ⟨by rfl, ?_⟩) (by assumption) ?_
              rotate_left 1
              . intro W hSw
                obtain ⟨hc1, t0, t1, t2, t3, t4, t5⟩ := hSw
                obtain ⟨s0, s1, s2, s3⟩ := def_cells hc1
                have tg := World.block_lt_of_cell? _ _ t0
                go_simp
                with_reducible rfl
              simp only [Act.put, List.setIfInBounds_toArray, List.set_cons_zero, List.set_cons_succ]
              refine take_to (i := 2) (d := 140) (v := ?_) rfl rfl (by kernel_rfl) (by kernel_rfl) (by kernel_rfl) (fun _ _ _ h => h) (Or.inl ⟨by rfl, ?_⟩) (by assumption) ?_
              rotate_left 1
              . intro W hSw
                obtain ⟨hc1, t0, t1, t2, t3, t4, t5⟩ := hSw
                obtain ⟨s0, s1, s2, s3⟩ := def_cells hc1
                have tg := World.block_lt_of_cell? _ _ t0
                go_simp
                with_reducible rfl
              simp only [Act.put, List.setIfInBounds_toArray, List.set_cons_zero, List.set_cons_succ]
              refine take_to (i := 3) (d := 141) (v := ?_) rfl rfl (by kernel_rfl) (by kernel_rfl) (by kernel_rfl) (fun _ _ _ h => h) (Or.inl ⟨by rfl, ?_⟩) (by assumption) ?_
              rotate_left 1
              . intro W hSw
                obtain ⟨hc1, t0, t1, t2, t3, t4, t5⟩ := hSw
                obtain ⟨s0, s1, s2, s3⟩ := def_cells hc1
                have tg := World.block_lt_of_cell? _ _ t0
                go_simp
                with_reducible rfl
              simp only [Act.put, List.setIfInBounds_toArray, List.set_cons_zero, List.set_cons_succ]
              refine take_to (i := 4) (d := 142) (v := ?_) rfl rfl (by kernel_rfl) (by kernel_rfl) (by kernel_rfl) (fun _ _ _ h => h) (Or.inl ⟨by rfl, ?_⟩) (by assumption) ?_
              rotate_left 1
              . intro W hSw
                obtain ⟨hc1, t0, t1, t2, t3, t4, t5⟩ := hSw
                obtain ⟨s0, s1, s2, s3⟩ := def_cells hc1
                have tg := World.block_lt_of_cell? _ _ t0
                go_simp
                with_reducible rfl
              simp only [Act.put, List.setIfInBounds_toArray, List.set_cons_zero, List.set_cons_succ]
              refine take_to (i := 5) (d := 143) (v := ?_) rfl rfl (by kernel_rfl) (by kernel_rfl) (by kernel_rfl) (fun _ _ _ h => h) (Or.inl ⟨by rfl, ?_⟩) (by assumption) ?_
              rotate_left 1
              . intro W hSw
                obtain ⟨hc1, t0, t1, t2, t3, t4, t5⟩ := hSw
                obtain ⟨s0, s1, s2, s3⟩ := def_cells hc1
                have tg := World.block_lt_of_cell? _ _ t0
                go_simp
                with_reducible rfl
              simp only [Act.put, List.setIfInBounds_toArray, List.set_cons_zero, List.set_cons_succ]
              refine wpAnyH_ready (rs := [6]) (by kernel_rfl) (by simp) ?_
              refine AllReadyH.cons (o := { dst := some 144, op := Op.buildSlice 22 1 #[(0, Operand.tmp 143)], type := 22, pos := "ref.go:414", after := #[{ on := 5, ground := Ground.data }], guard := none }) rfl (fun K hK => ?_) AllReadyH.nil
              go_simp
              refine hK.out _ _ (show (SL V1.heap.size n (nn - (p + 1)) dc gN p qs.length cq da aq kind gate bit cond whn) (wr.drew.alloc (.cells #[.int .i64 kind, .int .i64 gate, .slice aq qs.length cq, .int .i64 bit, .int .i64 cond, .int .i64 whn] 49)) from HS6.out) (fun hHeld => ?_)
              clear hK K
              try simp only [Act.put, List.setIfInBounds_toArray, List.set_cons_zero, List.set_cons_succ]
              refine wpAnyH_ready (rs := [7]) (by kernel_rfl) (by simp) ?_
              refine AllReadyH.cons (o := { dst := some 145, op := Op.call { callee := Callee.builtin Builtin.append, args := #[Operand.tmp 139, Operand.tmp 144], argTypes := #[22, 22] }, type := 22, pos := "ref.go:414", after := #[{ on := 1, ground := Ground.data }, { on := 6, ground := Ground.data }], guard := none }) rfl (fun K hK => ?_) AllReadyH.nil
              refine step_own18 rfl (.tmp 139) (.tmp 144) rfl HRY.out HYs.out ⟨kind, gate, qs, bit, cond, whn⟩ (.slice aq qs.length cq) rfl wr.heap.size HHY.out hmn (by rfl) (by rfl) ?_
              intro g6 c6 w6 hown6 hg6
              obtain ⟨hS7, hF6⟩ := HST.out g6 c6 w6 hown6 hg6
              refine hK.out _ _ (show (SL V1.heap.size n (nn - (p + 1)) dc gN p qs.length cq da aq kind gate bit cond whn) w6 from hS7) (fun hHeld => ?_)
              clear hK K
              try simp only [Act.put, List.setIfInBounds_toArray, List.set_cons_zero, List.set_cons_succ]
              refine take_to (i := 8) (d := 146) (v := ?_) rfl rfl (by kernel_rfl) (by kernel_rfl) (by kernel_rfl) (fun _ _ _ h => h) (Or.inl ⟨by rfl, ?_⟩) (by assumption) ?_
              rotate_left 1
              . intro W hSw
                obtain ⟨hc1, t0, t1, t2, t3, t4, t5⟩ := hSw
                obtain ⟨s0, s1, s2, s3⟩ := def_cells hc1
                have tg := World.block_lt_of_cell? _ _ t0
                go_simp
                with_reducible rfl
              simp only [Act.put, List.setIfInBounds_toArray, List.set_cons_zero, List.set_cons_succ]
              refine wpAnyH_done (by kernel_rfl) ?_ _
              refine ql_last (o := { dst := none, op := Op.store 22 (Operand.tmp 146) (Operand.tmp 145), type := 0, pos := "ref.go:414", after := #[{ on := 8, ground := Ground.data }, { on := 7, ground := Ground.data }, { on := 7, ground := Ground.chain }, { on := 0, ground := Ground.phase }, { on := 1, ground := Ground.phase }, { on := 2, ground := Ground.phase }, { on := 3, ground := Ground.phase }, { on := 4, ground := Ground.phase }, { on := 5, ground := Ground.phase }, { on := 6, ground := Ground.phase }, { on := 7, ground := Ground.phase }], guard := none }) rfl (fun K hK => ?_)
              have HF6 := hide hF6
              obtain ⟨e6, -, -, -, -, -, -⟩ := hS7
              obtain ⟨v0, v1, v2, v3⟩ := def_cells e6
              have vf : ∀ j, w6.frozen? ⟨V1.heap.size, j, none⟩ = false := fun j => fz_c18' e6 j
              clear hF6 e6 hown6 hg6 hHeld d0 d1 d2 d3
              go_simp
              refine hK.out _ _ ?_
              clear hK K
              go_wp2_with fail
              go_roundw
              case rel => exact ⟨p, (p : Int) - 1, some ⟨g6, 0, none⟩, c6, by go_num, rfl, by omega, HF6⟩
              case measure => simp [Go.RowKit.intOf]
theorem dSynth (ao : Option Addr) (c : Nat) (rs : List Nat) (hr : ∀ x ∈ rs, x < 18446744073709551616) (hl : rs.length <= 1000000000000000) (w : World) (hA : Nu w ao (rs.map fun (x : Nat) => (x : Int))) : Calls Tryz.prog 7 #[.slice ao rs.length c] w (SyP w rs.length (syP rs)) := by
  by_cases h1 : 64 < rs.length
  . have : syP rs = none := by
      unfold syP
      rw [if_pos h1]
    rw [this]
    exact (dSynth_far ao c rs.length h1 hl w).mono fun _ _ h => .of_none h
  . exact dSynth_ok ao c rs hr (by omega) w hA
end Go.Proofs.YtjiopaojhenanaaGreatDoor.Rwt
