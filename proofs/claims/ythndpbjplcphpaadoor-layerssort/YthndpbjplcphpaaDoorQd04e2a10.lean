import Derived.Test.YthndpbjplcphpaaDoorQ7f07ccd0
set_option maxRecDepth 100000
set_option maxHeartbeats 4000000
namespace Go.Proofs.YthndpbjplcphpaaDoor.Lay
open Go.RowKit Go.Shelf Go.Proofs.YthndpbjplcphpaaDoor.Oct Go.Proofs.YthndpbjplcphpaaDoor.Tok Go.Proofs.YthndpbjplcphpaaDoor.Gt Go.Proofs.YthndpbjplcphpaaDoor.Cir
def asE (c : Circ) (l : List Int) : Int := if (chkC c).2 ≠ 0 then 80 else if apaP l c.q then 0 else 190
def asM (c : Circ) (l : List Int) (x : Int) : Bool := decide (asE c l = 0) && decide (x ∈ l)
theorem chk_two (c : Circ) : (chkC c).2 = 0 ∨ (chkC c).2 = 80 := by
  unfold chkC
  split
  . exact .inr rfl
  . split
    . exact .inr rfl
    . exact .inl rfl
theorem apaN_succ {l : List Int} {n : Int} {i : Nat} {z : Int} (h : apaN l n i) (hz : l[i]? = some z) (h1 : wiP z n = true) (h2 : z ∉ l.take i) : apaN l n (i + 1) := by
  intro j x hj hx
  by_cases e : j = i
  . subst e
    rw [hz] at hx
    cases hx
    exact ⟨h1, h2⟩
  . exact h j x (by omega) hx
theorem apaN_not {l : List Int} {n : Int} {i : Nat} {z : Int} (hz : l[i]? = some z) (h : wiP z n = false ∨ z ∈ l.take i) : apaP l n = false := by
  cases hp : apaP l n
  . rfl
  . have := (apaN_all.2 hp) i z (List.getElem?_eq_some_iff.1 hz).1 hz
    rcases h with h | h
    . rw [h] at this; exact absurd this.1 (by decide)
    . exact absurd h this.2
theorem zM_size : Tryd.zeroCells63.size = 128 := by rw [zeroM, av_size]
theorem zM_all : Tryd.zeroCells63.all (·.oneCell') = true := by rw [zeroM]; exact av_one fun _ => rfl
theorem res_ct {P : Program} {fn : Func} {p u : Tmp} {ty : TypeId} (h : fn.results = #[.cell p ty, .tmp u]) (tmps : Array Value) (w : World) (g : Nat) (t : TypeId) (cs : Array Value) (d : TypeDesc) (x : Value)
    (hp : tmps.getD p undef = .pointer (some ⟨g, 0, none⟩)) (hx : tmps.getD u undef = x) (hg : w.heap[g]? = some (.cells cs t (0, 0)))
    (hu : P.underlying ty = some d) (hd : (match d with | .struct _ | .array _ _ => true | _ => false) = true) (hi : (P.info? ty).map (·.size) = some cs.size) :
    (results fn tmps).run P w = .ok (.tuple #[.agg cs, x]) w := by
  have hp' : tmps[p]?.getD undef = .pointer (some ⟨g, 0, none⟩) := by simpa using hp
  have hx' : tmps[u]?.getD undef = x := by simpa using hx
  simp [results, h, hp', hx', asAddr, run_loadVar_row w g t ty cs (0, 0) d hg hu hd hi]
theorem lAsked (c : Circ) (ao : Option Addr) (k : Nat) (l : List Int) (aq : Option Addr) (cq : Nat) (hl : l.length <= 1000000000000000) (w : World) (hT : Tb w) (hC : Ci w c ao k) (hN : Ns w aq l) : Calls Tryd.prog 34 #[cV c ao k, .slice aq l.length cq] w fun e w' => e = .returned (.tuple #[.agg (av fun x => .bool (asM c l (x : Int))), .int .i64 (asE c l)]) /\ Below w.heap.size w w' := by
  have c1 := fun V (h : Below w.heap.size w V) => cCheck c ao k V (hT.below h) (hC.below h)
  have hE : ∀ b, (chkC c).2 = b -> b ≠ 0 -> asE c l = 80 := fun b e hb => by unfold asE; rw [if_pos (by rw [e]; exact hb)]
  have hE2 : (chkC c).2 = 0 -> asE c l = if apaP l c.q then 0 else 190 := fun e => by unfold asE; rw [if_neg (by simp [e])]
  have hq64 : (chkC c).2 = 0 -> c.q <= 64 := fun e => (chkC_ok e).2.1
  have HN := hide hN
  obtain ⟨q, b, ops⟩ := c
  unfold cV at *
  simp only at *
  generalize (chkC ⟨q, b, ops⟩).1 = z1 at *
  have h2 := chk_two ⟨q, b, ops⟩
  have HAM : Hid (∀ x, asM ⟨q, b, ops⟩ l x = (decide (asE ⟨q, b, ops⟩ l = 0) && decide (x ∈ l))) := hide fun x => rfl
  generalize (chkC ⟨q, b, ops⟩).2 = z2 at *
  generalize asE ⟨q, b, ops⟩ l = E at *
  generalize hAM : asM ⟨q, b, ops⟩ l = AM at *
  generalize ops.length = no at *
  generalize hnl : l.length = n at *
  have HL := hide hnl
  clear hnl hAM hT hC hN
  have hB2 : Below w.heap.size w ((w.alloc (.cells #[.int .i64 q, .int .i64 b, .slice ao no k] 24)).alloc (.cells (av fun _ => .bool false) 63)) := (bnew _ _).trans ((bnew _ _).mono (by simp))
  have hC2 : ((w.alloc (.cells #[.int .i64 q, .int .i64 b, .slice ao no k] 24)).alloc (.cells (av fun _ => .bool false) 63)).heap[w.heap.size]? = some (.cells #[.int .i64 q, .int .i64 b, .slice ao no k] 24 (0, 0)) := (Below.heap_alloc _ _ _ (by simp)).trans (heap_alloc_new _ _)
  have hA2 : Ar ((w.alloc (.cells #[.int .i64 q, .int .i64 b, .slice ao no k] 24)).alloc (.cells (av fun _ => .bool false) 63)) (w.heap.size + 1) 63 (fun _ => .bool false) := by
    have := heap_alloc_new (w.alloc (.cells #[.int .i64 q, .int .i64 b, .slice ao no k] 24)) (.cells (av fun _ => .bool false) 63)
    rw [World.size_alloc] at this
    exact this
  go_enter Tryd.func34, Tryd.ntmps34
  go_upto_region 1 with fail
  rw [zeroM]
  have hsz : ((w.alloc (.cells #[.int .i64 q, .int .i64 b, .slice ao no k] 24)).alloc (.cells (av fun _ => .bool false) 63)).heap.size = w.heap.size + 2 := by simp
  generalize ((w.alloc (.cells #[.int .i64 q, .int .i64 b, .slice ao no k] 24)).alloc (.cells (av fun _ => .bool false) 63)) = W0 at *
  have c1' := c1 W0 hB2
  obtain ⟨x0, x1, x2, x3⟩ := def_cells hC2
  rcases h2 with rfl | rfl
  . have hq64 := hq64 rfl
    have HE2 := hide (hE2 rfl)
    clear hE hE2 c1
    go_upto_region 5 with (first
      | (go_at_call 29; refine c1'.mono ?_; rintro e w1 ⟨rfl, hb1⟩; have hA1 := hA2.below hb1; have hB1 := hB2.trans (hb1.mono hB2.size); have hC1 := (hb1.block _ (Array.getElem?_eq_some_iff.1 hC2).1).trans hC2))
    rw [zeroM]
    obtain ⟨gm, hgm⟩ : ∃ gm, gm = w1.heap.size := ⟨_, rfl⟩
    rw [← hgm]
    have hgs : w.heap.size + 2 <= gm := by have := hb1.size; omega
    have hA3 : Ar (w1.alloc (.cells (av fun _ => .bool false) 63)) (w.heap.size + 1) 63 (fun _ => .bool false) := hA1.below (bnew _ _)
    have hC3 := (Below.heap_alloc w1 (.cells (av fun _ => .bool false) 63) _ (Array.getElem?_eq_some_iff.1 hC1).1).trans hC1
    have hM3 : Ar (w1.alloc (.cells (av fun _ => .bool false) 63)) gm 63 (fun _ => .bool false) := by rw [hgm]; exact heap_alloc_new w1 _
    have hB3 : Below w.heap.size w (w1.alloc (.cells (av fun _ => .bool false) 63)) := hB1.alloc hB1.size _
    generalize w1.alloc (.cells (av fun _ => .bool false) 63) = W3 at *
    clear hgm hb1 hA1 hB1 hC1 c1' x0 x1 x2 x3 hA2 hB2 hC2 hsz
    go_wp2_with fail
    go_loopw [10, 22] (fun _ vi wr => ∃ i : Nat, i <= n /\ vi = .int .i64 (i : Int) /\ Hid (apaN l q i) /\ Hid (Ar wr (w.heap.size + 1) 63 (fun _ => .bool false)) /\ Hid (wr.heap[w.heap.size]? = some (.cells #[.int .i64 q, .int .i64 b, .slice ao no k] 24 (0, 0))) /\ Hid (Ar wr gm 63 (fun x => .bool (decide ((x : Int) ∈ l.take i)))) /\ Hid (Below w.heap.size w wr)) (fun _ vi _ => n - (intOf vi).toNat)
    case atStart => exact ⟨0, Nat.zero_le _, rfl, hide (fun j x hj => by omega), hide hA3, hide hC3, hide (hM3.congr fun x _ => by simp), hide hB3⟩
    case round =>
      clear hA3 hC3 hM3 hB3
      obtain ⟨i, hi, rfl, HAP, HA1, HC1, HM1, HB1⟩ := hrel
      obtain ⟨x0, x1, x2, x3⟩ := def_cells HC1.out
      by_cases h : i < n
      . have hd : decide ((i : Int) < (n : Int)) = true := decide_eq_true (by omega)
        have hkk : (i : Int) < (n : Int) := by omega
        obtain ⟨z, hz⟩ : ∃ z, l[i]? = some z := ⟨_, List.getElem?_eq_getElem (by rw [HL.out]; exact h)⟩
        have HZ := hide hz
        obtain ⟨g', off', rfl, hc⟩ := ns_cell (HN.out.below HB1.out) hz
        have hlt' := World.block_lt_of_cell? _ _ hc
        clear hz
        by_cases hz0 : z < 0
        . have HE : Hid (E = 190) := hide (by rw [HE2.out, apaN_not HZ.out (.inl (by unfold wiP; simp; omega))]; rfl)
          have HA0 : Hid (∀ x, AM x = false) := hide fun x => by rw [HAM.out, HE.out]; rfl
          have hdz : decide (z < 0) = true := decide_eq_true hz0
          clear hz0
          go_wp2_with (refine wpList_store_row rfl _ _ _ rfl (w.heap.size + 1) Tryd.zeroCells63 (by rfl) (by rfl) _ _ HA1.out (by rw [zM_size]; exact infoM) (by rw [av_size, zM_size]) zM_all ?_)
          refine bodyPost_ret (res_ct rfl _ _ (w.heap.size + 1) _ _ _ (.int .i64 190) (by rfl) (by rfl) (setRow_heap _ _ _ _ _ _ HA1.out) Tryd.underlying63 rfl (by rw [zM_size]; exact infoM)) rfl ?_
          refine ⟨?_, Below.row HB1.out _ _ (by omega)⟩
          rw [HE.out, zeroM, av_congr (g := fun x => .bool (AM (x : Int))) fun x _ => by rw [HA0.out]]
        . by_cases hz1 : q <= z
          . have HE : Hid (E = 190) := hide (by rw [HE2.out, apaN_not HZ.out (.inl (by unfold wiP; simp; omega))]; rfl)
            have HA0 : Hid (∀ x, AM x = false) := hide fun x => by rw [HAM.out, HE.out]; rfl
            have hdz : decide (z < 0) = false := decide_eq_false hz0
            have hdq : decide (z ≥ q) = true := decide_eq_true hz1
            have hdq' : decide (q <= z) = true := decide_eq_true hz1
            go_wp2_with (refine wpList_store_row rfl _ _ _ rfl (w.heap.size + 1) Tryd.zeroCells63 (by rfl) (by rfl) _ _ HA1.out (by rw [zM_size]; exact infoM) (by rw [av_size, zM_size]) zM_all ?_)
            refine bodyPost_ret (res_ct rfl _ _ (w.heap.size + 1) _ _ _ (.int .i64 190) (by rfl) (by rfl) (setRow_heap _ _ _ _ _ _ HA1.out) Tryd.underlying63 rfl (by rw [zM_size]; exact infoM)) rfl ?_
            refine ⟨?_, Below.row HB1.out _ _ (by omega)⟩
            rw [HE.out, zeroM, av_congr (g := fun x => .bool (AM (x : Int))) fun x _ => by rw [HA0.out]]
          . have hdz : decide (z < 0) = false := decide_eq_false hz0
            have hdq : decide (z ≥ q) = false := decide_eq_false hz1
            have hdq' : decide (q <= z) = false := decide_eq_false hz1
            obtain ⟨y, rfl⟩ : ∃ y : Nat, z = (y : Int) := ⟨z.toNat, by omega⟩
            have hm0 := HM1.out.rk.cell y (by omega)
            have hmf := HM1.out.rk.frozen y
            have hml := HM1.out.lt
            have hy1 : (y : Int) < 128 := by omega
            by_cases hmem : (y : Int) ∈ l.take i
            . have HE : Hid (E = 190) := hide (by rw [HE2.out, apaN_not HZ.out (.inr hmem)]; rfl)
              have HA0 : Hid (∀ x, AM x = false) := hide fun x => by rw [HAM.out, HE.out]; rfl
              rw [decide_eq_true hmem] at hm0
              clear hmem
              go_wp2_with (refine wpList_store_row rfl _ _ _ rfl (w.heap.size + 1) Tryd.zeroCells63 (by rfl) (by rfl) _ _ HA1.out (by rw [zM_size]; exact infoM) (by rw [av_size, zM_size]) zM_all ?_)
              refine bodyPost_ret (res_ct rfl _ _ (w.heap.size + 1) _ _ _ (.int .i64 190) (by rfl) (by rfl) (setRow_heap _ _ _ _ _ _ HA1.out) Tryd.underlying63 rfl (by rw [zM_size]; exact infoM)) rfl ?_
              refine ⟨?_, Below.row HB1.out _ _ (by omega)⟩
              rw [HE.out, zeroM, av_congr (g := fun x => .bool (AM (x : Int))) fun x _ => by rw [HA0.out]]
            . rw [decide_eq_false hmem] at hm0
              have HAP2 : Hid (apaN l q (i + 1)) := hide (apaN_succ HAP.out HZ.out (by unfold wiP; simp; omega) hmem)
              have HM2 : Hid (Ar (wr.setCell ⟨gm, y, none⟩ (.bool true)) gm 63 (fun x => .bool (decide ((x : Int) ∈ l.take (i + 1))))) := hide ((HM1.out.set y _).congr fun y' hy => by
                have ht : (y' : Int) ∈ l.take (i + 1) ↔ (y' : Int) ∈ l.take i ∨ y' = y := by
                  rw [List.take_add_one, HZ.out]
                  simp only [Option.toList_some, List.mem_append, List.mem_singleton]
                  constructor
                  . rintro (h | h)
                    . exact .inl h
                    . exact .inr (by omega)
                  . rintro (h | h)
                    . exact .inl h
                    . exact .inr (by omega)
                by_cases e : y' = y
                . rw [if_pos e, decide_eq_true (ht.2 (.inr e))]
                . rw [if_neg e]
                  congr 1
                  rw [decide_eq_decide, ht]
                  simp [e])
              have HA2 : Hid (Ar (wr.setCell ⟨gm, y, none⟩ (.bool true)) (w.heap.size + 1) 63 (fun _ => .bool false)) := hide (HA1.out.far (a := ⟨gm, y, none⟩) (by simp; omega) _)
              have HC2 : Hid ((wr.setCell ⟨gm, y, none⟩ (.bool true)).heap[w.heap.size]? = some (.cells #[.int .i64 q, .int .i64 b, .slice ao no k] 24 (0, 0))) := hide ((Below.heap_setCell _ _ _ _ (by simp; omega)).trans HC1.out)
              have HB2 : Hid (Below w.heap.size w (wr.setCell ⟨gm, y, none⟩ (.bool true))) := hide (HB1.out.setCell (p := ⟨gm, y, none⟩) (by simp; omega) _)
              clear hmem
              go_wp2_with fail
              exact ⟨⟨i + 1, by omega, by go_num, HAP2, HA2, HC2, HM2, HB2⟩, by simp [intOf]; omega⟩
      . obtain rfl : n = i := by omega
        have hd : decide ((n : Int) < (n : Int)) = false := decide_eq_false (by omega)
        have HE : Hid (E = 0) := hide (by
          have := HAP.out
          rw [← HL.out, apaN_all] at this
          rw [HE2.out, this]; rfl)
        have HM2 : Hid (Ar wr gm 63 (fun x => .bool (AM (x : Int)))) := hide (HM1.out.congr fun x _ => by rw [HAM.out, HE.out, ← HL.out, List.take_length]; rfl)
        go_wp2_with (first
          | refine wpList_load_row rfl _ _ rfl gm (by rfl) _ _ _ _ HM2.out Tryd.underlying63 rfl (by rw [av_size]; exact infoM) ?_
          | refine wpList_store_row rfl _ _ _ rfl (w.heap.size + 1) _ (by rfl) (by rfl) _ _ HA1.out (by rw [av_size]; exact infoM) (by rw [av_size, av_size]) (av_one fun _ => rfl) ?_)
        refine bodyPost_ret (res_ct rfl _ _ (w.heap.size + 1) _ _ _ (.int .i64 0) (by rfl) (by rfl) (setRow_heap _ _ _ _ _ _ HA1.out) Tryd.underlying63 rfl (by rw [av_size]; exact infoM)) rfl ?_
        rw [HE.out]
        exact ⟨rfl, Below.row HB1.out _ _ (by omega)⟩
  . have HE := hide (hE 80 rfl (by decide))
    have HA0 : Hid (∀ x, AM x = false) := hide fun x => by rw [HAM.out, HE.out]; rfl
    clear hE hE2 hq64 c1
    go_wp2_with (first
      | (go_at_call 29; refine c1'.mono ?_; rintro e w1 ⟨rfl, hb1⟩; have HA1 := hide (hA2.below hb1); have HB1 := hide (hB2.trans (hb1.mono hB2.size)))
      | refine wpList_store_row rfl _ _ _ rfl (w.heap.size + 1) Tryd.zeroCells63 (by rfl) (by rfl) _ _ HA1.out (by rw [zM_size]; exact infoM) (by rw [av_size, zM_size]) zM_all ?_)
    refine bodyPost_ret (res_ct rfl _ _ (w.heap.size + 1) _ _ _ (.int .i64 80) (by rfl) (by rfl) (setRow_heap _ _ _ _ _ _ HA1.out) Tryd.underlying63 rfl (by rw [zM_size]; exact infoM)) rfl ?_
    refine ⟨?_, Below.row HB1.out _ _ (by omega)⟩
    rw [HE.out, zeroM, av_congr (g := fun x => .bool (AM (x : Int))) fun x _ => by rw [HA0.out]]
end Go.Proofs.YthndpbjplcphpaaDoor.Lay
