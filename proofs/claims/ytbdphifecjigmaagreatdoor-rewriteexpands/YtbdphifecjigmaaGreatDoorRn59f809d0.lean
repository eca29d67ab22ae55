import Derived.Test.YtbdphifecjigmaaGreatDoorRn5faf5990
import Derived.Test.YtbdphifecjigmaaGreatDoorRne010345d
namespace Go.Proofs.YtbdphifecjigmaaGreatDoor.Cir
end Go.Proofs.YtbdphifecjigmaaGreatDoor.Cir
namespace Go.Proofs.YtbdphifecjigmaaGreatDoor.Gt
end Go.Proofs.YtbdphifecjigmaaGreatDoor.Gt
namespace Go.Proofs.YtbdphifecjigmaaGreatDoor.Oct
end Go.Proofs.YtbdphifecjigmaaGreatDoor.Oct
namespace Go.Proofs.YtbdphifecjigmaaGreatDoor.Tok
end Go.Proofs.YtbdphifecjigmaaGreatDoor.Tok
set_option maxRecDepth 100000
set_option maxHeartbeats 2000000
namespace Go.Proofs.YtbdphifecjigmaaGreatDoor.Rwt
open Go.RowKit Go.Shelf Go.Proofs.YtbdphifecjigmaaGreatDoor.Oct Go.Proofs.YtbdphifecjigmaaGreatDoor.Tok Go.Proofs.YtbdphifecjigmaaGreatDoor.Gt Go.Proofs.YtbdphifecjigmaaGreatDoor.Cir
def exR (c : Circ) : Circ × Int := if (chkC c).2 ≠ 0 then (⟨0, 0, []⟩, 80) else if 4096 < (c.ops.flatMap xpO).length then (⟨0, 0, []⟩, 180) else (⟨c.q, c.b, c.ops.flatMap xpO⟩, 0)
theorem chk_two18 (c : Circ) : (chkC c).2 = 0 ∨ (chkC c).2 = 80 := by
  unfold chkC
  split
  . exact .inr rfl
  . split
    . exact .inr rfl
    . exact .inl rfl
def XPost (w : World) (R : Circ × Int) (e : Ending) (w' : World) : Prop := ∃ bo j, e = .returned (.tuple #[cV R.1 bo j, .int .i64 R.2]) /\ OpsOwn w' w.heap.size bo R.1.ops.length j R.1.ops /\ Below w.heap.size w w'
theorem rEx (c : Circ) (ao : Option Addr) (k : Nat) (w : World) (hT : Tb w) (hC : Ci w c ao k) : Calls Tryz.prog 5 #[cV c ao k] w (XPost w (exR c)) := by
  unfold exR
  by_cases hk : (chkC c).2 = 0
  . rw [if_neg (by rw [hk]; simp)]
    refine (rExpandC_ok c ao k hk w hT hC).mono ?_
    rintro e w' ⟨h1, h2⟩
    by_cases hl : 4096 < (c.ops.flatMap xpO).length
    . rw [if_pos hl]
      obtain ⟨rfl, hb⟩ := h1 hl
      exact ⟨none, 0, rfl, opsown_nil _ _, hb⟩
    . rw [if_neg hl]
      obtain ⟨bo, j, rfl, ho, hb⟩ := h2 hl
      exact ⟨bo, j, rfl, ho, hb⟩
  . rw [if_pos hk]
    have h80 := (chk_two18 c).resolve_left hk
    refine (rExpandC_no c ao k hk w hT hC).mono ?_
    rintro e w' ⟨rfl, hb⟩
    rw [h80]
    exact ⟨none, 0, rfl, opsown_nil _ _, hb⟩
theorem dEx (c : Circ) (ao : Option Addr) (k : Nat) (w : World) (hC : Ci w c ao k) (hS : Szs c.ops) : Calls Tryz.prog 6 #[cV c ao k] w (XPost w (exR c)) := by
  unfold exR
  by_cases hk : (chkC c).2 = 0
  . rw [if_neg (by rw [hk]; simp)]
    refine (dExpandC_ok c ao k hk w hC hS).mono ?_
    rintro e w' ⟨h1, h2⟩
    by_cases hl : 4096 < (c.ops.flatMap xpO).length
    . rw [if_pos hl]
      obtain ⟨rfl, hb⟩ := h1 hl
      exact ⟨none, 0, rfl, opsown_nil _ _, hb⟩
    . rw [if_neg hl]
      obtain ⟨bo, j, rfl, ho, hb⟩ := h2 hl
      exact ⟨bo, j, rfl, ho, hb⟩
  . rw [if_pos hk]
    refine (dExpandC_no c ao k hk w hC).mono ?_
    rintro e w' ⟨rfl, hb⟩
    exact ⟨none, 0, rfl, opsown_nil _ _, hb⟩
theorem ex_qs (k : Int) (qs : List Int) : ∀ x ∈ exP k qs, x.2.length <= qs.length + 3 := by
  unfold exP
  intro x hx
  split at hx
  . simp [ex12] at hx; rcases hx with rfl | rfl | rfl <;> simp
  split at hx
  . simp [ex13] at hx; rcases hx with rfl | rfl | rfl <;> simp
  split at hx
  . simp [ex14] at hx; rcases hx with rfl | rfl | rfl <;> simp
  split at hx
  . simp [ex15] at hx; rcases hx with rfl | rfl | rfl | rfl | rfl | rfl | rfl | rfl <;> simp
  split at hx
  . simp [ex16] at hx; rcases hx with rfl | rfl | rfl | rfl | rfl | rfl | rfl | rfl <;> simp
  split at hx
  . simp [ex17] at hx; rcases hx with rfl | rfl | rfl | rfl | rfl | rfl <;> simp
  split at hx
  . simp [ex19] at hx; rcases hx with rfl | rfl | rfl <;> simp
  split at hx
  . simp [ex20] at hx; rcases hx with rfl | rfl | rfl <;> simp
  . simp at hx; subst hx; simp
theorem exr_bd (c : Circ) (hS : Szs c.ops) : (exR c).1.ops.length <= 1000000000000000 /\ ∀ o ∈ (exR c).1.ops, o.qs.length <= 1000000000000000 := by
  unfold exR
  split
  . simp
  split
  . simp
  . rename_i hl
    refine ⟨by simp only; omega, fun o ho => ?_⟩
    simp only [List.mem_flatMap] at ho
    obtain ⟨p, hp, ho⟩ := ho
    unfold xpO at ho
    obtain ⟨x, hx, rfl⟩ := List.mem_map.1 ho
    have h1 := ex_qs p.gate p.qs x hx
    have h2 := hS.2 p hp
    show x.2.length <= _
    omega
theorem exr_ci {c : Circ} (hS : Szs c.ops) {w : World} {B : Nat} {bo : Option Addr} {j : Nat} (h : OpsOwn w B bo (exR c).1.ops.length j (exR c).1.ops) : Ci w (exR c).1 bo j := by
  obtain ⟨h1, h2⟩ := exr_bd c hS
  obtain ⟨r1, r2⟩ := h.at.rd
  exact ⟨r1, r2, h1, h2⟩
theorem down_get1 {w : World} {B E : Nat} {bo : Option Addr} {n j : Nat} {ls : List Nat} (h : DOwn w B E bo n j ls) {i m : Nat} (hi : ls[i]? = some m) : ∃ gd u, bo = some ⟨gd, 0, none⟩ /\ B <= gd /\ gd < E /\ gd < w.heap.size /\ w.cell? ⟨gd, i * 6 + 1, none⟩ = some u /\ w.frozen? ⟨gd, i * 6 + 1, none⟩ = false /\ ∀ v, DOwn (w.setCell ⟨gd, i * 6 + 1, none⟩ v) B E bo n j ls := by
  obtain ⟨xs, h1, h2, h3, h4⟩ := h
  have hin : i < n := by rw [h3]; exact (List.getElem?_eq_some_iff.1 hi).1
  obtain ⟨gd, rfl, -⟩ := own_some h1 (by omega)
  have hxl := h1.1
  obtain ⟨u, hu⟩ : ∃ u, xs[i * 6 + 1]? = some u := ⟨_, List.getElem?_eq_getElem (by omega)⟩
  have hgd := own_lt h1 gd rfl
  obtain ⟨dcs, dfr, hdc⟩ := own_cells' h1 (k := gd) rfl
  refine ⟨gd, u, rfl, hgd.1, h2 gd rfl, hgd.2, own_at h1 _ _ hu, own_free h1 _, fun v => ?_⟩
  refine ⟨_, own_set h1 _ v, h2, h3, fun i' m' hm' => ?_⟩
  obtain ⟨ao', c', ys', e1', e2', e3'⟩ := h4 i' m' hm'
  refine ⟨ao', c', ys', by rw [List.getElem?_set_ne (by omega)]; exact e1', own_of_block e2' (fun b hb => Below.heap_setCell _ _ _ _ (fun e => ?_)), e3'⟩
  have e' : b = gd := e
  subst e'
  exact own_ne e2' hdc (by decide) hb
structure BT (w : World) (g : Nat) (u v x : Value) (u0 u1 v0 v1 x0 x1 : Int) : Prop where
  a : w.heap[g]? = some (.cells #[.int .i64 u0, .int .i64 u1, u] 24 (0, 0))
  b : w.heap[g + 1]? = some (.cells #[.int .i64 v0, .int .i64 v1, v] 24 (0, 0))
  c : w.heap[g + 2]? = some (.cells #[.int .i64 x0, .int .i64 x1, x] 24 (0, 0))
theorem wOwn (c kp : Circ) (ao co : Option Addr) (k kk : Nat) (q b : Int) (bo : Option Addr) (n j : Nat) (ls : List Nat) (B E : Nat) (V0 w : World) (hn : n <= 1000000000000000) (hls : ∀ m ∈ ls, m <= 1000000000000000) (hC : Ci V0 c ao k) (hK : Ci V0 kp co kk) (hb : Below V0.heap.size V0 w) (hVB : V0.heap.size <= B) (hD : DOwn w B E bo n j ls) (hE : E <= w.heap.size) :
    Calls Tryz.prog 9 #[cV c ao k, .agg #[.int .i64 q, .int .i64 b, .slice bo n j], cV kp co kk] w fun e w' => e = .returned (.bool (decide (c = kp))) /\ Below V0.heap.size V0 w' := by
  have HS := hide (fun V (h : Below V0.heap.size V0 V) => eSame c kp ao co k kk V (hC.below h) (hK.below h))
  have hnl : n = ls.length := by obtain ⟨xs, h1, h2, h3, h4⟩ := hD; exact h3
  have HNL := hide hnl
  have HLS := hide hls
  generalize decide (c = kp) = R at *
  obtain ⟨q1, b1, l1⟩ := c
  obtain ⟨q2, b2, l2⟩ := kp
  unfold cV at *
  simp only at *
  generalize l1.length = n1 at *
  generalize l2.length = n2 at *
  clear hC hK hnl hls
  have hw3 : Below w.heap.size w (((w.alloc (.cells #[.int .i64 q1, .int .i64 b1, .slice ao n1 k] 24)).alloc (.cells #[.int .i64 q, .int .i64 b, .slice bo n j] 24)).alloc (.cells #[.int .i64 q2, .int .i64 b2, .slice co n2 kk] 24)) := bkp (bkp (bnew _ _) (bnew _ _)) (bnew _ _)
  have HBT : Hid (BT (((w.alloc (.cells #[.int .i64 q1, .int .i64 b1, .slice ao n1 k] 24)).alloc (.cells #[.int .i64 q, .int .i64 b, .slice bo n j] 24)).alloc (.cells #[.int .i64 q2, .int .i64 b2, .slice co n2 kk] 24)) w.heap.size (.slice ao n1 k) (.slice bo n j) (.slice co n2 kk) q1 b1 q b q2 b2) := by
    refine hide ⟨?_, ?_, ?_⟩
    . exact (Below.heap_alloc _ _ _ (by simp; omega)).trans ((Below.heap_alloc _ _ _ (by simp)).trans (heap_alloc_new _ _))
    . refine (Below.heap_alloc _ _ _ (by simp)).trans ?_
      have := heap_alloc_new (w.alloc (.cells #[.int .i64 q1, .int .i64 b1, .slice ao n1 k] 24)) (.cells #[.int .i64 q, .int .i64 b, .slice bo n j] 24)
      rwa [World.size_alloc] at this
    . have := heap_alloc_new ((w.alloc (.cells #[.int .i64 q1, .int .i64 b1, .slice ao n1 k] 24)).alloc (.cells #[.int .i64 q, .int .i64 b, .slice bo n j] 24)) (.cells #[.int .i64 q2, .int .i64 b2, .slice co n2 kk] 24)
      rwa [World.size_alloc, World.size_alloc] at this
  have HDn := hide (hD.kept (fun g _ hg => hw3.block g (by omega)) : DOwn _ B E bo n j ls)
  have HV0 := hide (bkp hb hw3)
  clear hw3 hD hb
  go_enter Tryz.func9, Tryz.ntmps9
  go_wp2_with fail
  generalize ((w.alloc (.cells #[.int .i64 q1, .int .i64 b1, .slice ao n1 k] 24)).alloc (.cells #[.int .i64 q, .int .i64 b, .slice bo n j] 24)).alloc (.cells #[.int .i64 q2, .int .i64 b2, .slice co n2 kk] 24) = W1 at *
  have HF : Hid (∀ V, Ot B E W1 V -> BT V w.heap.size (.slice ao n1 k) (.slice bo n j) (.slice co n2 kk) q1 b1 q b q2 b2 /\ Below V0.heap.size V0 V) := hide (fun V h => ⟨⟨(h.block _ (.inr hE)).trans HBT.out.a, (h.block _ (.inr (by omega))).trans HBT.out.b, (h.block _ (.inr (by omega))).trans HBT.out.c⟩, ⟨h.os.trans HV0.out.os, h.tape.trans HV0.out.tape, h.output.trans HV0.out.output, by rw [h.size]; exact HV0.out.size, fun x hx => (h.block _ (.inl (by omega))).trans (HV0.out.block x hx)⟩⟩)
  go_loopw [7, 8] (fun vi _ wr => ∃ i : Nat, vi = .int .i64 (i : Int) /\ i <= n /\ Hid (DOwn wr B E bo n j ls) /\ Hid (Ot B E W1 wr)) (fun vi _ _ => n - (Go.RowKit.intOf vi).toNat)
  case atStart => exact ⟨0, rfl, Nat.zero_le _, HDn, hide (Ot.refl _ _ _)⟩
  case round =>
    clear HDn
    obtain ⟨i, rfl, hi, HDi, HOi⟩ := hrel
    obtain ⟨⟨p1, p2, p3⟩, p4⟩ := HF.out wr HOi.out
    obtain ⟨x0, x1, x2, x3⟩ := def_cells p1
    obtain ⟨y0, y1, y2, y3⟩ := def_cells p2
    obtain ⟨z0, z1, z2, z3⟩ := def_cells p3
    by_cases h : i < n
    . have hd : decide ((i : Int) < (n : Int)) = true := decide_eq_true (by omega)
      have hiZ : (i : Int) < (n : Int) := by omega
      obtain ⟨m, hm⟩ : ∃ m, ls[i]? = some m := ⟨_, List.getElem?_eq_getElem (by rw [← HNL.out]; exact h)⟩
      have hmb := HLS.out m (List.mem_of_getElem? hm)
      clear x0 x1 x2 x3 y0 y1 z0 z1 z2 z3 p1 p2 p3 p4
      go_wp2_with fail
      go_loopw [8] (fun vj wr => ∃ jj : Nat, vj = .int .i64 (jj : Int) /\ jj <= m /\ Hid (DOwn wr B E bo n j ls) /\ Hid (Ot B E W1 wr)) (fun vj _ => m - (Go.RowKit.intOf vj).toNat)
      case atStart => exact ⟨0, rfl, Nat.zero_le _, HDi, HOi⟩
      case round =>
        clear HDi HOi y2 y3
        obtain ⟨jj, rfl, hjj, HDj, HOj⟩ := hrel
        obtain ⟨⟨p1, p2, p3⟩, p4⟩ := HF.out wr HOj.out
        obtain ⟨y0, y1, y2, y3⟩ := def_cells p2
        obtain ⟨gd, ad, cd, ud, hbo, g1, g2, g3, g4, -, -, -, g5⟩ := HDj.out.get hm
        by_cases h2 : jj < m
        . obtain ⟨gr, xr, had, r1, r2, r3, r4, r5, r6⟩ := g5 jj h2
          have hjd : decide ((jj : Int) < (m : Int)) = true := decide_eq_true (by omega)
          have hjZ : (jj : Int) < (m : Int) := by omega
          subst hbo had
          have HR6 := hide (r6 (.int .i64 (-9)))
          have HO6 := hide (HOj.out.setCell jj r1 r2 (.int .i64 (-9)))
          clear g5 r6 p1 p2 p3 p4 HDj HOj
          go_wp2_with fail
          go_roundw
          case rel => exact ⟨jj + 1, by go_num, by omega, HR6, HO6⟩
          case measure => simp [Go.RowKit.intOf]; omega
        . obtain rfl : jj = m := by omega
          have hjd : decide ((jj : Int) < (jj : Int)) = false := decide_eq_false (by omega)
          obtain ⟨gd2, u2, hb2, s1, s2, s3, s4, s5, s6⟩ := down_get1 HDj.out hm
          subst hbo
          simp only [Option.some.injEq, Addr.mk.injEq, and_true] at hb2
          subst hb2
          have HR6 := hide (s6 (.int .i64 77))
          have HO6 := hide (HOj.out.setCell (i * 6 + 1) s1 s2 (.int .i64 77))
          clear g5 s6 p1 p2 p3 p4 HDj HOj
          go_wp2_with fail
          go_roundw
          case rel => exact ⟨i + 1, by go_num, by omega, HR6, HO6⟩
          case measure => simp [Go.RowKit.intOf]; omega
    . obtain rfl : i = n := by omega
      have hd : decide ((i : Int) < (i : Int)) = false := decide_eq_false (by omega)
      have HP4 := hide p4
      clear p1 p2 p3 p4
      go_wp2_with (go_at_call 8; refine (HS.out _ HP4.out).mono ?_; rintro e w5 ⟨rfl, hb5⟩; have HB5 := hide (HP4.out.trans (hb5.mono HP4.out.size)))
      go_ret
      exact ⟨rfl, HB5.out⟩
end Go.Proofs.YtbdphifecjigmaaGreatDoor.Rwt
