import Derived.Test.YtpehekonjdneaaaGreatDoorK872573c5
import Derived.Deep.CutRange
set_option maxRecDepth 100000
set_option maxHeartbeats 4000000
namespace Go.Proofs.YtpehekonjdneaaaGreatDoor.Tbl
open Go.RowKit Go.Shelf Go.Proofs.YtpehekonjdneaaaGreatDoor.Pau Go.Proofs.YtpehekonjdneaaaGreatDoor.Gt
def krP (n : Int) (k : Nat) (p : P) : P := ⟨n, p.x * 2 ^ k % 18446744073709551616, p.z * 2 ^ k % 18446744073709551616, p.ph⟩
def krL (n : Int) (hs ls : List P) : List P := ls.map (krP n 0) ++ hs.map (krP n ls.length)
def krR (t u : TT) : TT × Int := if chB t = true /\ chB u = true then (if t.n + u.n <= 64 then (⟨t.n + u.n, krL (t.n + u.n) t.s u.s, krL (t.n + u.n) t.d u.d⟩, 0) else (zrT, 2)) else (zrT, 140)
theorem kr_zero (n : Int) (p : P) (h : Wd p) : krP n 0 p = ⟨n, p.x, p.z, p.ph⟩ := by
  unfold krP
  rw [Nat.pow_zero, Nat.mul_one, Nat.mul_one, Nat.mod_eq_of_lt h.1, Nat.mod_eq_of_lt h.2]
theorem kr_wd (n : Int) (k : Nat) (p : P) : Wd (krP n k p) := ⟨Nat.mod_lt _ (by decide), Nat.mod_lt _ (by decide)⟩
theorem kr_wl (n : Int) (hs ls : List P) : Wl (krL n hs ls) := by
  intro p hp
  rcases List.mem_append.1 hp with h | h
  . obtain ⟨q, -, rfl⟩ := List.mem_map.1 h; exact kr_wd _ _ _
  . obtain ⟨q, -, rfl⟩ := List.mem_map.1 h; exact kr_wd _ _ _
theorem kr_len (n : Int) (hs ls : List P) : (krL n hs ls).length = hs.length + ls.length := by unfold krL; simp; omega
theorem shl_run14 (x k : Nat) : IntKind.u64.wrap ((x : Int) * 2 ^ k) = ((x * 2 ^ k % 18446744073709551616 : Nat) : Int) := by
  rw [wrapU, show ((2 : Int) ^ k) = ((2 ^ k : Nat) : Int) by simp, ← Int.natCast_mul, Int.natCast_emod]
  rfl
theorem krL_low (n : Int) (hs ls : List P) (i : Nat) (h : i < ls.length) : (krL n hs ls).take i ++ [krP n 0 (ls.getD i oP)] = (krL n hs ls).take (i + 1) := by
  have e : (krL n hs ls)[i]? = some (krP n 0 (ls.getD i oP)) := by
    unfold krL
    rw [List.getElem?_append_left (by simpa using h), List.getElem?_map, get_of h]
    rfl
  rw [List.take_add_one, e]
  rfl
theorem krL_high (n : Int) (hs ls : List P) (i : Nat) (h : i < hs.length) : (krL n hs ls).take (ls.length + i) ++ [krP n ls.length (hs.getD i oP)] = (krL n hs ls).take (ls.length + i + 1) := by
  have e : (krL n hs ls)[ls.length + i]? = some (krP n ls.length (hs.getD i oP)) := by
    unfold krL
    rw [List.getElem?_append_right (by simp), List.getElem?_map, List.length_map, Nat.add_sub_cancel_left, get_of h]
    rfl
  rw [List.take_add_one, e]
  rfl
theorem make_p0 (n : Nat) (hn : n <= 4096) (w : World) : (Instr.makeSlice 27 (.int .i64 0) (.int .i64 (n : Int))).run Tryz.prog w = .ok (.slice (some ⟨w.heap.size, 0, none⟩) 0 n) (w.alloc (.cells (pRow n) 25)) := by
  obtain ⟨i, hi, hz⟩ := Option.map_eq_some_iff.1 infoP3
  simp only [Prod.mk.injEq] at hz
  obtain ⟨h1, h2, h3⟩ := hz
  have hr := run_make (P := Tryz.prog) w 27 25 i _ Tryz.underlying27 hi h1 .i64 .i64 0 n (by omega) (by omega) (by rw [h3]; omega) (by omega)
  rw [h2, Int.toNat_natCast] at hr
  exact hr
theorem Gr.made (w : World) (n : Nat) (hn : n <= 4096) : Gr (w.alloc (.cells (pRow n) 25)) w.heap.size (some ⟨w.heap.size, 0, none⟩) n [] := by
  refine ⟨rfl, .inr ⟨w.heap.size, n, pRow n, rfl, Nat.le_refl _, heap_alloc_new _ _, Nat.zero_le _, by unfold maxLen; omega, by unfold pRow; rw [size_madeCells], ?_⟩⟩
  simp [fl]
theorem Gr.poo {w : World} {B : Nat} {ao : Option Addr} {c : Nat} {l : List P} (h : Gr w B ao c l) : POo w B ao l /\ l.length <= c := by
  refine ⟨?_, h.pin.2⟩
  obtain ⟨h1, h2 | ⟨g', cap, cur, e, hB, hh, hc, hm, hs, ht⟩⟩ := h
  . exact .inl (List.length_eq_zero_iff.1 h2.2)
  . cases e
    have := po_own (w := w) (B := B) (g := g') (n := l.length) (c := c) (l := l) ⟨h1, .inr ⟨g', c, cur, rfl, hB, hh, hc, hm, hs, ht⟩⟩
    exact .inr ⟨g', rfl, hB, this.1⟩
theorem two_at (w : World) (A B : Obj) : ((w.alloc A).alloc B).heap[w.heap.size + 1]? = some B := by
  have := heap_alloc_new (w.alloc A) B
  simpa using this
theorem tBeside (hs ls : List P) (n : Nat) (hn : hs.length + ls.length = n) (h64 : n <= 64) (ha la : Option Addr) (ch cl : Nat) (w : World) (hH : PIn w ha hs) (hL : PIn w la ls) (hwh : Wl hs) (hwl : Wl ls) :
    Calls Tryz.prog 38 #[.slice ha hs.length ch, .slice la ls.length cl, .int .i64 (n : Int)] w fun e w' => ∃ ao c, e = .returned (.slice ao n c) /\ POo w' w.heap.size ao (krL (n : Int) hs ls) /\ n <= c /\ Below w.heap.size w w' := by
  have hm := fun W => make_p0 n (by omega) W
  obtain ⟨i0, hi, hz0, hz1, hz2⟩ := info_parts infoP3
  have HG0 := hide (Gr.made w n (by omega))
  have HB0 := hide (bnew w (.cells (pRow n) 25))
  have HLO := hide (fun i h => krL_low (n : Int) hs ls i h)
  have HHI := hide (fun i h => krL_high (n : Int) hs ls i h)
  have HLE : Hid ((krL (n : Int) hs ls).length = n) := hide (by rw [kr_len]; exact hn)
  have HT0 : Hid ((krL (n : Int) hs ls).take 0 = []) := hide (List.take_zero)
  obtain ⟨L, hLL⟩ : ∃ L, krL (n : Int) hs ls = L := ⟨_, rfl⟩
  rw [hLL] at HLO HHI HLE HT0 ⊢
  clear hLL
  have HTL : Hid (∀ i, i <= n -> (L.take i).length = i) := hide (fun i hi => by rw [List.length_take, HLE.out]; omega)
  have HWL := hide hwl
  have HWH := hide hwh
  have HPL : Hid (∀ i, i < ls.length -> ∃ g o, la = some ⟨g, o, none⟩ /\ ∀ V, Below w.heap.size w V -> Pc V g (o + i * 4) (ls.getD i oP) /\ g < V.heap.size) := hide (fun i hi' => by
    obtain ⟨g, o, e, hh⟩ := hL.get (by omega)
    exact ⟨g, o, e, fun V hb => ⟨(hh i _ (get_of hi')).below hb, ((hh i _ (get_of hi')).below hb).lt⟩⟩)
  have HPH : Hid (∀ i, i < hs.length -> ∃ g o, ha = some ⟨g, o, none⟩ /\ ∀ V, Below w.heap.size w V -> Pc V g (o + i * 4) (hs.getD i oP) /\ g < V.heap.size) := hide (fun i hi' => by
    obtain ⟨g, o, e, hh⟩ := hH.get (by omega)
    exact ⟨g, o, e, fun V hb => ⟨(hh i _ (get_of hi')).below hb, ((hh i _ (get_of hi')).below hb).lt⟩⟩)
  obtain ⟨nl, hnl⟩ : ∃ k, ls.length = k := ⟨_, rfl⟩
  obtain ⟨nh, hnh⟩ : ∃ k, hs.length = k := ⟨_, rfl⟩
  rw [hnl] at HLO HHI HPL hn ⊢
  rw [hnh] at HHI HPH hn ⊢
  have HNL := hide hnl
  have HNH := hide hnh
  have HNN := hide hn
  have hl64 : nl <= 64 := by omega
  have hh64 : nh <= 64 := by omega
  clear hnl hnh hH hL hwh hwl hn
  have htw := two_at
  have HTW := hide htw
  clear htw
  go_enter Tryz.func38, Tryz.ntmps38
  go_wp2_with fail
  generalize hW0 : w.alloc (.cells (pRow n) 25) = W0 at *
  have HI0 : Hid (Gr W0 w.heap.size (some ⟨w.heap.size, 0, none⟩) n (L.take 0) /\ Below w.heap.size w W0) := hide (by rw [HT0.out]; exact ⟨HG0.out, HB0.out⟩)
  clear hW0 HG0 HB0
  go_loopw [7, 16] (fun vl vi wr => ∃ (i : Nat) (a1 : Option Addr) (c1 : Nat), vl = .slice a1 i c1 /\ vi = .int .i64 (i : Int) /\ i <= nl /\ Hid (Gr wr w.heap.size a1 c1 (L.take i) /\ Below w.heap.size w wr)) (fun _ vi _ => nl - (Go.RowKit.intOf vi).toNat)
  case atStart => exact ⟨0, _, _, rfl, rfl, Nat.zero_le _, HI0⟩
  case round =>
    obtain ⟨i, a1, c1, rfl, rfl, hi2, HI⟩ := hrel
    clear HI0
    by_cases h : i < nl
    . have hd : decide ((i : Int) < (nl : Int)) = true := decide_eq_true (by omega)
      obtain ⟨gl, ol, rfl, hP⟩ := HPL.out i h
      have HP := hide hP
      have hwd := HWL.out.getD (i := i) (by rw [HNL.out]; exact h)
      have HTK := hide (HLO.out i h)
      have HTL' := hide (HTL.out i (by have := HNN.out; omega))
      rw [kr_zero _ _ hwd] at HTK
      clear hP hwd
      generalize ls.getD i oP = pp at *
      obtain ⟨pn, px, pz, pf⟩ := pp
      simp only at HTK
      have hone := c4_one (⟨(n : Int), px, pz, pf⟩ : P)
      have hc4 : c4 (⟨(n : Int), px, pz, pf⟩ : P) = [.int .i64 (n : Int), .int .u64 (px : Int), .int .u64 (pz : Int), .int .i64 pf] := rfl
      have HC4 := hide hc4
      rw [hc4] at hone
      clear hc4
      have HOW : Hid (∀ A B, ((wr.alloc A).alloc B).ownsRow w.heap.size 25 4 (.slice a1 i c1) i (fl (L.take i))) := hide (fun A B => by
        have := HI.out.1.below (bkp (bnew wr A) (bnew _ B))
        unfold Gr at this
        rw [HTL'.out] at this
        exact this)
      have HBB : Hid (∀ A B, Below w.heap.size w ((wr.alloc A).alloc B)) := hide (fun A B => bkp (bkp HI.out.2 (bnew wr A)) (bnew _ B))
      have HGL : Hid (∀ k, (Value.slice a1 i c1).ownBlock = some k -> w.heap.size <= k) := hide (fun k hk => by
        rw [own_blk] at hk
        exact (HI.out.1.lt hk).1)
      have hsz : w.heap.size <= wr.heap.size := HI.out.2.size
      obtain ⟨⟨r0, r1, r2, r3⟩, r4⟩ := HP.out _ HI.out.2
      simp only at r0 r1 r2 r3
      go_wp2_with (first
        | (at_builtin; refine wpList_append_lies _ rfl _ _ 27 rfl w.heap.size 25 i0 _ 4 32 Tryz.underlying27 hi hz0 hz1 hz2 rfl (by decide) (.slice a1 i c1) i (fl (L.take i)) rfl (HOW.out _ _) ⟨wr.heap.size + 1, 0, none⟩ 1 1 [.int .i64 (n : Int), .int .u64 (px : Int), .int .u64 (pz : Int), .int .i64 pf] rfl rfl (World.news_of_block (HTW.out _ _ _)) hone (by decide) (by unfold maxLen; omega) (by omega) (by simp; omega) _ rfl ?_; intro g7 c7 w7 ho7 hgr7 hat7 hlt7))
      have HIn : Hid (Gr w7 w.heap.size (some ⟨g7, 0, none⟩) c7 (L.take (i + 1)) /\ Below w.heap.size w w7) := hide (by
        refine ⟨?_, (HBB.out _ _).grown hgr7 (by simp; omega) HGL.out⟩
        rw [← HTK.out]
        exact Gr.snoc HTL'.out.symm (by rw [HC4.out]; exact ho7))
      clear ho7 hgr7 hat7 hlt7 HOW HBB HGL hone HP HI r0 r1 r2 r3 r4
      go_wp2_with fail
      go_roundw
      case rel => first | exact ⟨i + 1, some ⟨g7, 0, none⟩, c7, rfl, by go_num, by omega, HIn⟩ | ((repeat apply Exists.intro); exact ⟨⟨rfl, by go_num, by omega, HIn⟩, rfl⟩)
      case measure => simp [Go.RowKit.intOf]; omega
    . obtain rfl : nl = i := by omega
      have hd : decide ((nl : Int) < (nl : Int)) = false := decide_eq_false (by omega)
      have hl64' : (nl : Int) <= 64 := by omega
      go_wp2_with fail
      go_loopw [7, 34] (fun vl vi wr => ∃ (i : Nat) (a1 : Option Addr) (c1 : Nat), vl = .slice a1 (nl + i) c1 /\ vi = .int .i64 (i : Int) /\ i <= nh /\ Hid (Gr wr w.heap.size a1 c1 (L.take (nl + i)) /\ Below w.heap.size w wr)) (fun _ vi _ => nh - (Go.RowKit.intOf vi).toNat)
      case atStart => exact ⟨0, _, _, rfl, rfl, Nat.zero_le _, HI⟩
      case round =>
        obtain ⟨i, a2, c2, rfl, rfl, hi3, HJ⟩ := hrel
        clear HI
        by_cases h2 : i < nh
        . have hd2 : decide ((i : Int) < (nh : Int)) = true := decide_eq_true (by omega)
          obtain ⟨gl, ol, rfl, hP⟩ := HPH.out i h2
          have HP := hide hP
          have hwd := HWH.out.getD (i := i) (by rw [HNH.out]; exact h2)
          have HTK := hide (HHI.out i h2)
          have HTL' := hide (HTL.out (nl + i) (by have := HNN.out; omega))
          clear hP
          generalize hs.getD i oP = pp at *
          obtain ⟨pn, px, pz, pf⟩ := pp
          unfold krP at HTK
          simp only at HTK hwd
          have sX := shl_run14 px nl
          have sZ := shl_run14 pz nl
          generalize px * 2 ^ nl % 18446744073709551616 = qx at *
          generalize pz * 2 ^ nl % 18446744073709551616 = qz at *
          have hone := c4_one (⟨(n : Int), qx, qz, pf⟩ : P)
          have hc4 : c4 (⟨(n : Int), qx, qz, pf⟩ : P) = [.int .i64 (n : Int), .int .u64 (qx : Int), .int .u64 (qz : Int), .int .i64 pf] := rfl
          have HC4 := hide hc4
          rw [hc4] at hone
          clear hc4 hwd
          have hsz : w.heap.size <= wr.heap.size := HJ.out.2.size
          obtain ⟨⟨r0, r1, r2, r3⟩, r4⟩ := HP.out _ HJ.out.2
          simp only at r0 r1 r2 r3
          go_upto_region 10 with fail
          generalize hV9 : wr.alloc (.cells #[.int .i64 pn, .int .u64 (px : Int), .int .u64 (pz : Int), .int .i64 pf] 25) = V9 at *
          have HBX : Hid (At4 V9 wr.heap.size (.int .i64 pn) (.int .u64 (px : Int)) (.int .u64 (pz : Int)) (.int .i64 pf)) := hide (by rw [← hV9]; exact At4.new _ _ _ _ _)
          have HV9 : Hid (Below wr.heap.size wr V9) := hide (by rw [← hV9]; exact bnew _ _)
          have hz9 : V9.heap.size = wr.heap.size + 1 := by rw [← hV9]; simp
          have HOW : Hid (∀ o, (V9.alloc o).drew.ownsRow w.heap.size 25 4 (.slice a2 (nl + i) c2) (nl + i) (fl (L.take (nl + i)))) := hide (fun o => by
            have := (HJ.out.1.below HV9.out).below (bnew V9 o)
            unfold Gr at this
            rw [HTL'.out] at this
            exact this)
          have HGL : Hid (∀ k, (Value.slice a2 (nl + i) c2).ownBlock = some k -> w.heap.size <= k /\ k < wr.heap.size) := hide (fun k hk => by
            rw [own_blk] at hk
            exact HJ.out.1.lt hk)
          have HS0 : Hid (Below w.heap.size w V9.drew /\ V9.drew.cell? ⟨wr.heap.size, 1, none⟩ = some (.int .u64 (px : Int)) /\ V9.drew.cell? ⟨wr.heap.size, 2, none⟩ = some (.int .u64 (pz : Int)) /\ V9.drew.cell? ⟨wr.heap.size, 3, none⟩ = some (.int .i64 pf) /\ wr.heap.size < V9.drew.heap.size) := hide (by
            obtain ⟨-, k1, k2, k3, k4⟩ := HBX.out.cells
            exact ⟨(bkp HJ.out.2 HV9.out).drew, k1, k2, k3, k4⟩)
          have HS1 : Hid (∀ o, Below w.heap.size w (V9.alloc o).drew /\ (V9.alloc o).drew.cell? ⟨wr.heap.size, 1, none⟩ = some (.int .u64 (px : Int)) /\ (V9.alloc o).drew.cell? ⟨wr.heap.size, 2, none⟩ = some (.int .u64 (pz : Int)) /\ (V9.alloc o).drew.cell? ⟨wr.heap.size, 3, none⟩ = some (.int .i64 pf) /\ wr.heap.size < (V9.alloc o).drew.heap.size) := hide (fun o => by
            obtain ⟨-, k1, k2, k3, k4⟩ := (HBX.out.below (bnew V9 o)).cells
            exact ⟨(bkp (bkp HJ.out.2 HV9.out) (bnew V9 o)).drew, k1, k2, k3, k4⟩)
          have HS2 : Hid (∀ o V, (V9.alloc o).drew.grownBy V (Value.slice a2 (nl + i) c2).ownBlock -> (Below w.heap.size w V /\ V.cell? ⟨wr.heap.size, 1, none⟩ = some (.int .u64 (px : Int)) /\ V.cell? ⟨wr.heap.size, 2, none⟩ = some (.int .u64 (pz : Int)) /\ V.cell? ⟨wr.heap.size, 3, none⟩ = some (.int .i64 pf) /\ wr.heap.size < V.heap.size)) := hide (fun o V hg => by
            have hb : At4 V wr.heap.size (.int .i64 pn) (.int .u64 (px : Int)) (.int .u64 (pz : Int)) (.int .i64 pf) := (hg.block _ (HBX.out.below (bnew V9 o).drew).lt (fun e => by have := (HGL.out _ e.symm).2; omega)).trans (HBX.out.below (bnew V9 o).drew)
            obtain ⟨-, k1, k2, k3, k4⟩ := hb.cells
            exact ⟨(bkp (bkp HJ.out.2 HV9.out) (bnew V9 o)).drew.grown hg (by simp; omega) (fun k hk => (HGL.out k hk).1), k1, k2, k3, k4⟩)
          clear hV9 r0 r1 r2 r3 r4
          go_region_held3 (fun V => Below w.heap.size w V /\ V.cell? ⟨wr.heap.size, 1, none⟩ = some (.int .u64 (px : Int)) /\ V.cell? ⟨wr.heap.size, 2, none⟩ = some (.int .u64 (pz : Int)) /\ V.cell? ⟨wr.heap.size, 3, none⟩ = some (.int .i64 pf) /\ wr.heap.size < V.heap.size)
            (first | exact HS0.out | exact HS1.out _ | exact HS2.out _ _ (by assumption))
            (first
              | (refine step_append_lies _ rfl (.tmp 38) (.tmp 53) 27 rfl w.heap.size 25 i0 _ 4 32 Tryz.underlying27 hi hz0 hz1 hz2 rfl (by decide) (.slice a2 (nl + i) c2) (nl + i) (fl (L.take (nl + i))) (by simp [Act.eval]) (HOW.out _) ⟨V9.heap.size, 0, none⟩ 1 1 [.int .i64 (n : Int), .int .u64 (qx : Int), .int .u64 (qz : Int), .int .i64 pf] (by simp [Act.eval]) rfl (World.news_of_block (heap_alloc_new V9 _)) hone (by decide) (by unfold maxLen; omega) (by omega) (by simp; omega) _ rfl ?_; intro g7 c7 w7 ho7 hgr7 hat7 hlt7))
          have HIn : Hid (Gr w7 w.heap.size (some ⟨g7, 0, none⟩) c7 (L.take (nl + (i + 1))) /\ Below w.heap.size w w7) := hide (by
            refine ⟨?_, (HS2.out _ _ hgr7).1⟩
            rw [show nl + (i + 1) = nl + i + 1 from rfl, ← HTK.out]
            exact Gr.snoc HTL'.out.symm (by rw [HC4.out]; exact ho7))
          clear ho7 hgr7 hat7 hlt7 HOW HS0 HS1 HS2 HGL hone HP HBX HV9 hz9 HJ
          go_wp2_with fail
          go_roundw
          case rel => first | exact ⟨i + 1, some ⟨g7, 0, none⟩, c7, rfl, by go_num, by omega, HIn⟩ | ((repeat apply Exists.intro); exact ⟨⟨rfl, by go_num, by omega, HIn⟩, rfl⟩)
          case measure => simp [Go.RowKit.intOf]; omega
        . obtain rfl : nh = i := by omega
          have hd2 : decide ((nh : Int) < (nh : Int)) = false := decide_eq_false (by omega)
          have HF : Hid (∃ x y, Value.slice a2 (nl + nh) c2 = .slice x n y /\ POo wr w.heap.size x L /\ n <= y /\ Below w.heap.size w wr) := hide (by
            have hnn : nl + nh = n := by have := HNN.out; omega
            have hg := HJ.out.1
            rw [hnn, List.take_of_length_le (Nat.le_of_eq HLE.out)] at hg
            have hp := hg.poo
            rw [HLE.out] at hp
            exact ⟨a2, c2, by rw [hnn], hp.1, hp.2, HJ.out.2⟩)
          clear HJ
          go_wp2_with fail
          go_ret
          obtain ⟨x, y, e, h1, h2, h3⟩ := HF.out
          exact ⟨x, y, by rw [← e]; rfl, h1, h2, h3⟩
structure Kw (V0 V : World) (K : Nat) (x y : Option Addr) (cx cy : Nat) (l1 l2 : List P) (F : List (Nat × Obj)) : Prop where
  bx : At3 V V0.heap.size (.int .i64 (K : Int)) (.slice x l1.length cx) (.slice y l2.length cy)
  g1 : Gr V (V0.heap.size + 1) x cx l1
  g2 : Gr V (V0.heap.size + 1) y cy l2
  ne : ∀ g, blk x = some g -> blk y = some g -> False
  bw : Below V0.heap.size V0 V
  fr : ∀ q ∈ F, V.heap[q.1]? = some q.2 /\ V0.heap.size < q.1 /\ blk x ≠ some q.1 /\ blk y ≠ some q.1
namespace Kw
variable {V0 V V' : World} {K : Nat} {x y : Option Addr} {cx cy : Nat} {l1 l2 : List P} {F : List (Nat × Obj)}
theorem push (h : Kw V0 V K x y cx cy l1 l2 F) (o : Obj) : Kw V0 (V.alloc o) K x y cx cy l1 l2 ((V.heap.size, o) :: F) := by
  have hb := bnew V o
  refine ⟨h.bx.below hb, h.g1.below hb, h.g2.below hb, h.ne, bkp h.bw hb, fun q hq => ?_⟩
  rcases List.mem_cons.1 hq with rfl | hq
  . exact ⟨heap_alloc_new V o, h.bx.lt, fun e => by have := (h.g1.lt e).2; simp at this, fun e => by have := (h.g2.lt e).2; simp at this⟩
  . obtain ⟨h1, h2, h3, h4⟩ := h.fr q hq
    exact ⟨(hb.block q.1 (Array.getElem?_eq_some_iff.1 h1).1).trans h1, h2, h3, h4⟩
theorem drew (h : Kw V0 V K x y cx cy l1 l2 F) : Kw V0 V.drew K x y cx cy l1 l2 F := ⟨h.bx, h.g1, h.g2, h.ne, h.bw.drew, h.fr⟩
theorem less (h : Kw V0 V K x y cx cy l1 l2 F) {F' : List (Nat × Obj)} (hs : ∀ q ∈ F', q ∈ F) : Kw V0 V K x y cx cy l1 l2 F' := ⟨h.bx, h.g1, h.g2, h.ne, h.bw, fun q hq => h.fr q (hs q hq)⟩
theorem swap (h : Kw V0 V K x y cx cy l1 l2 F) {a b : Nat × Obj} {G : List (Nat × Obj)} (e : F = a :: b :: G) : Kw V0 V K x y cx cy l1 l2 (b :: a :: G) := h.less (fun q hq => by rw [e]; simp only [List.mem_cons] at hq ⊢; rcases hq with h | h | h <;> simp [h])
theorem mid1 (h : Kw V0 V K x y cx cy l1 l2 F) (n : Nat) (hg : V.grownBy V' (Value.slice x n cx).ownBlock) : At3 V' V0.heap.size (.int .i64 (K : Int)) (.slice x l1.length cx) (.slice y l2.length cy) := by
  rw [own_blk] at hg
  refine (hg.block _ h.bx.lt (fun e => ?_)).trans h.bx
  have := (h.g1.lt e.symm).1
  omega
theorem mid2 (h : Kw V0 V K x y cx cy l1 l2 F) (n : Nat) (hg : V.grownBy V' (Value.slice y n cy).ownBlock) : At3 V' V0.heap.size (.int .i64 (K : Int)) (.slice x l1.length cx) (.slice y l2.length cy) := by
  rw [own_blk] at hg
  refine (hg.block _ h.bx.lt (fun e => ?_)).trans h.bx
  have := (h.g2.lt e.symm).1
  omega
theorem app1 {n g c : Nat} {p : P} (h : Kw V0 V K x y cx cy l1 l2 F) (hn : n = l1.length) (hg : V.grownBy V' (Value.slice x n cx).ownBlock) (ho : V'.ownsRow (V0.heap.size + 1) 25 4 (.slice (some ⟨g, 0, none⟩) (n + 1) c) (n + 1) (fl l1 ++ c4 p)) (hat : (Value.slice x n cx).ownBlock = some g ∨ g = V.heap.size) :
    Kw V0 (V'.setCell ⟨V0.heap.size, 1, none⟩ (.slice (some ⟨g, 0, none⟩) (n + 1) c)) K (some ⟨g, 0, none⟩) y c cy (l1 ++ [p]) l2 F := by
  have hm := h.mid1 n hg
  have hG := Gr.snoc hn ho
  have hgB : V0.heap.size + 1 <= g := (hG.lt rfl).1
  have hm1 := hm.set1 (.slice (some ⟨g, 0, none⟩) (n + 1) c)
  rw [own_blk] at hg hat
  have hsz := h.bx.lt
  refine ⟨?_, hG.of_block (fun k hk => ?_), ?_, ?_, ?_, ?_⟩
  . rw [List.length_append]; subst hn; exact hm1
  . cases hk; exact Below.heap_setCell _ _ _ _ (show g ≠ V0.heap.size by omega)
  . refine (h.g2.of_block (w' := V') (fun k hk => hg.block k (h.g2.lt hk).2 (fun e => h.ne k e.symm hk))).of_block (fun k hk => ?_)
    have := (h.g2.lt hk).1
    exact Below.heap_setCell _ _ _ _ (show k ≠ V0.heap.size by omega)
  . intro k h1 h2
    obtain rfl : g = k := Option.some.inj h1
    rcases hat with e | e
    . exact h.ne g e h2
    . have := (h.g2.lt h2).2; omega
  . exact (h.bw.grown hg (by omega) (fun k hk => by have := (h.g1.lt hk).1; omega)).setCell (p := ⟨V0.heap.size, 1, none⟩) (Nat.le_refl _) _
  . intro q hq
    obtain ⟨h1, h2, h3, h4⟩ := h.fr q hq
    have hl := (Array.getElem?_eq_some_iff.1 h1).1
    refine ⟨(Below.heap_setCell _ _ _ _ (show q.1 ≠ V0.heap.size by omega)).trans ((hg.block q.1 hl (fun e => h3 e.symm)).trans h1), h2, fun e => ?_, h4⟩
    obtain rfl : g = q.1 := Option.some.inj e
    rcases hat with e | e
    . exact h3 e
    . omega
theorem app2 {n g c : Nat} {p : P} (h : Kw V0 V K x y cx cy l1 l2 F) (hn : n = l2.length) (hg : V.grownBy V' (Value.slice y n cy).ownBlock) (ho : V'.ownsRow (V0.heap.size + 1) 25 4 (.slice (some ⟨g, 0, none⟩) (n + 1) c) (n + 1) (fl l2 ++ c4 p)) (hat : (Value.slice y n cy).ownBlock = some g ∨ g = V.heap.size) :
    Kw V0 (V'.setCell ⟨V0.heap.size, 2, none⟩ (.slice (some ⟨g, 0, none⟩) (n + 1) c)) K x (some ⟨g, 0, none⟩) cx c l1 (l2 ++ [p]) F := by
  have hm := h.mid2 n hg
  have hG := Gr.snoc hn ho
  have hgB : V0.heap.size + 1 <= g := (hG.lt rfl).1
  have hm1 := hm.set2 (.slice (some ⟨g, 0, none⟩) (n + 1) c)
  rw [own_blk] at hg hat
  have hsz := h.bx.lt
  refine ⟨?_, ?_, hG.of_block (fun k hk => ?_), ?_, ?_, ?_⟩
  . rw [List.length_append]; subst hn; exact hm1
  . refine (h.g1.of_block (w' := V') (fun k hk => hg.block k (h.g1.lt hk).2 (fun e => h.ne k hk e.symm))).of_block (fun k hk => ?_)
    have := (h.g1.lt hk).1
    exact Below.heap_setCell _ _ _ _ (show k ≠ V0.heap.size by omega)
  . cases hk; exact Below.heap_setCell _ _ _ _ (show g ≠ V0.heap.size by omega)
  . intro k h1 h2
    obtain rfl : g = k := Option.some.inj h2
    rcases hat with e | e
    . exact h.ne g h1 e
    . have := (h.g1.lt h1).2; omega
  . exact (h.bw.grown hg (by omega) (fun k hk => by have := (h.g2.lt hk).1; omega)).setCell (p := ⟨V0.heap.size, 2, none⟩) (Nat.le_refl _) _
  . intro q hq
    obtain ⟨h1, h2, h3, h4⟩ := h.fr q hq
    have hl := (Array.getElem?_eq_some_iff.1 h1).1
    refine ⟨(Below.heap_setCell _ _ _ _ (show q.1 ≠ V0.heap.size by omega)).trans ((hg.block q.1 hl (fun e => h4 e.symm)).trans h1), h2, h3, fun e => ?_⟩
    obtain rfl : g = q.1 := Option.some.inj e
    rcases hat with e | e
    . exact h4 e
    . omega
end Kw
end Go.Proofs.YtpehekonjdneaaaGreatDoor.Tbl
