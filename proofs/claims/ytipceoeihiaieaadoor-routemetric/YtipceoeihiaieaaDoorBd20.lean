/- Layer 20: the program's path (gen_bd20.py). -/
import Derived.Test.YtipceoeihiaieaaDoorBc20
namespace Go.Proofs.YtipceoeihiaieaaDoor.Rou
open Go.RowKit

theorem far_at {N f : Nat} {ps : List Pr} {L : Nat → List Pr} {far : List Int} {q : List Nat} (hN : N ≤ 64) (hf : f < N) (hv : Vl N ps) (hL : LP N ps L) (h : BI N ps L f q.length far q) : (∀ k, k < N → far.getD k 0 = Dd N ps f k) ∧ ∀ k, k < 64 → -1 ≤ far.getD k 0 ∧ far.getD k 0 ≤ 64 := by
  have h1 := far_eq hN hf hv hL h
  refine ⟨fun k hk => ?_, fun k hk => ?_⟩
  · unfold Dd
    rw [← h1, List.getD_eq_getElem?_getD, List.getD_eq_getElem?_getD, List.getElem?_take, if_pos hk]
  · by_cases hq : k ∈ q
    · obtain ⟨j, hj⟩ := List.getElem?_of_mem hq
      have h2 := h.val j k hj
      have h3 := (List.getElem?_eq_some_iff.1 hj).1
      have h4 := h.short
      omega
    · have h2 : far.getD k 0 = -1 := Classical.byContradiction fun e => hq ((h.dom k hk).1 e)
      omega
theorem QO.push {w' : World} {B : Nat} {q : List Nat} {k g cap : Nat} (hO : w'.ownsRow B 3 1 (.slice (some ⟨g, 0, none⟩) (q.length + 1) cap) (q.length + 1) (iv (q.map fun (k : Nat) => (k : Int)) ++ [.int .i64 (k : Int)])) : QO w' B (some ⟨g, 0, none⟩) cap (q ++ [k]) := by
  unfold QO
  rw [List.length_append, List.map_append, show iv (List.map (fun (k : Nat) => (k : Int)) q ++ List.map (fun (k : Nat) => (k : Int)) [k]) = iv (q.map fun (k : Nat) => (k : Int)) ++ [.int .i64 (k : Int)] by simp [iv]]
  exact hO
set_option maxRecDepth 100000 in
set_option maxHeartbeats 8000000 in
theorem rPathC (B C a b N : Nat) (ps : List Pr) (ao : Nat → Option Addr) (cp : Nat → Nat) (L : Nat → List Pr) (hN : N ≤ 64) (hR : RtP (N : Int) ps) (hL : LP N ps L) (hA : ∀ a, a < N → Asc (L a)) (hs : ∀ a, (L a).length ≤ 1000) (ha : a < N) (hb : b < N) (w : World) (hC : Ch w B C N ao cp L) : Calls Tryd.prog 18 #[.pointer (some ⟨C, 0, none⟩), .int .i64 (a : Int), .int .i64 (b : Int)] w fun e w' => (∃ ao c, e = .returned (.slice ao (pth N ps a b).length c) ∧ QO w' w.heap.size ao c (pth N ps a b)) ∧ Below w.heap.size w w' := by
  have cf := rFar N ps B C b ao cp L hN hb hL hs w hC
  have HR := hide hR
  have HLP := hide hL
  have HAS := hide hA
  have HSL := hide hs
  have HC := hide hC
  obtain ⟨full, hfull⟩ : ∃ l, pth N ps a b = l := ⟨_, rfl⟩
  have HFU := hide hfull
  have hfl : full.length ≤ 100 := by
    rw [← hfull, pth, List.length_cons, pt_len]
    have := Dd_hi hR ha hb
    omega
  rw [hfull]
  clear hfull hR hL hA hs hC
  go_enter Tryd.func18, Tryd.ntmps18
  go_wp2_with (first | (go_at_call 9; (with_reducible refine Calls.mono cf ?_); rintro e w6 ⟨⟨far, q, rfl, hbi⟩, hb6⟩; have HBI := hide hbi; have HLF := hide hbi.len; have HB6 := hide hb6; have hz6 := heap_alloc_new w6 (.cells #[.int .i64 0, .int .i64 0, .int .i64 0, .int .i64 0, .int .i64 0, .int .i64 0, .int .i64 0, .int .i64 0, .int .i64 0, .int .i64 0, .int .i64 0, .int .i64 0, .int .i64 0, .int .i64 0, .int .i64 0, .int .i64 0, .int .i64 0, .int .i64 0, .int .i64 0, .int .i64 0, .int .i64 0, .int .i64 0, .int .i64 0, .int .i64 0, .int .i64 0, .int .i64 0, .int .i64 0, .int .i64 0, .int .i64 0, .int .i64 0, .int .i64 0, .int .i64 0, .int .i64 0, .int .i64 0, .int .i64 0, .int .i64 0, .int .i64 0, .int .i64 0, .int .i64 0, .int .i64 0, .int .i64 0, .int .i64 0, .int .i64 0, .int .i64 0, .int .i64 0, .int .i64 0, .int .i64 0, .int .i64 0, .int .i64 0, .int .i64 0, .int .i64 0, .int .i64 0, .int .i64 0, .int .i64 0, .int .i64 0, .int .i64 0, .int .i64 0, .int .i64 0, .int .i64 0, .int .i64 0, .int .i64 0, .int .i64 0, .int .i64 0, .int .i64 0] 44); have HZ6 := hide hz6; clear hbi hb6 hz6) | (refine wpList_store_row rfl 44 _ _ rfl w6.heap.size _ rfl rfl _ _ HZ6.out (by rw [infoD]; simp [iv_len, HLF.out]) (by simp [iv_len, HLF.out]) (iv_one far) ?_; have HD7 : Hid (((w6.alloc (.cells #[.int .i64 0, .int .i64 0, .int .i64 0, .int .i64 0, .int .i64 0, .int .i64 0, .int .i64 0, .int .i64 0, .int .i64 0, .int .i64 0, .int .i64 0, .int .i64 0, .int .i64 0, .int .i64 0, .int .i64 0, .int .i64 0, .int .i64 0, .int .i64 0, .int .i64 0, .int .i64 0, .int .i64 0, .int .i64 0, .int .i64 0, .int .i64 0, .int .i64 0, .int .i64 0, .int .i64 0, .int .i64 0, .int .i64 0, .int .i64 0, .int .i64 0, .int .i64 0, .int .i64 0, .int .i64 0, .int .i64 0, .int .i64 0, .int .i64 0, .int .i64 0, .int .i64 0, .int .i64 0, .int .i64 0, .int .i64 0, .int .i64 0, .int .i64 0, .int .i64 0, .int .i64 0, .int .i64 0, .int .i64 0, .int .i64 0, .int .i64 0, .int .i64 0, .int .i64 0, .int .i64 0, .int .i64 0, .int .i64 0, .int .i64 0, .int .i64 0, .int .i64 0, .int .i64 0, .int .i64 0, .int .i64 0, .int .i64 0, .int .i64 0, .int .i64 0] 44)).setRow w6.heap.size (iv far).toArray).heap[w6.heap.size]? = some (.cells (iv far).toArray 44 (0, 0))) := hide (setRow_heap _ _ _ _ _ _ HZ6.out); have HB7 : Hid (Below w.heap.size w ((w6.alloc (.cells #[.int .i64 0, .int .i64 0, .int .i64 0, .int .i64 0, .int .i64 0, .int .i64 0, .int .i64 0, .int .i64 0, .int .i64 0, .int .i64 0, .int .i64 0, .int .i64 0, .int .i64 0, .int .i64 0, .int .i64 0, .int .i64 0, .int .i64 0, .int .i64 0, .int .i64 0, .int .i64 0, .int .i64 0, .int .i64 0, .int .i64 0, .int .i64 0, .int .i64 0, .int .i64 0, .int .i64 0, .int .i64 0, .int .i64 0, .int .i64 0, .int .i64 0, .int .i64 0, .int .i64 0, .int .i64 0, .int .i64 0, .int .i64 0, .int .i64 0, .int .i64 0, .int .i64 0, .int .i64 0, .int .i64 0, .int .i64 0, .int .i64 0, .int .i64 0, .int .i64 0, .int .i64 0, .int .i64 0, .int .i64 0, .int .i64 0, .int .i64 0, .int .i64 0, .int .i64 0, .int .i64 0, .int .i64 0, .int .i64 0, .int .i64 0, .int .i64 0, .int .i64 0, .int .i64 0, .int .i64 0, .int .i64 0, .int .i64 0, .int .i64 0, .int .i64 0] 44)).setRow w6.heap.size (iv far).toArray)) := hide (bkp HB6.out (brow (bnew _ _) _ _ (Nat.le_refl _))); clear HZ6; generalize (w6.alloc (.cells #[.int .i64 0, .int .i64 0, .int .i64 0, .int .i64 0, .int .i64 0, .int .i64 0, .int .i64 0, .int .i64 0, .int .i64 0, .int .i64 0, .int .i64 0, .int .i64 0, .int .i64 0, .int .i64 0, .int .i64 0, .int .i64 0, .int .i64 0, .int .i64 0, .int .i64 0, .int .i64 0, .int .i64 0, .int .i64 0, .int .i64 0, .int .i64 0, .int .i64 0, .int .i64 0, .int .i64 0, .int .i64 0, .int .i64 0, .int .i64 0, .int .i64 0, .int .i64 0, .int .i64 0, .int .i64 0, .int .i64 0, .int .i64 0, .int .i64 0, .int .i64 0, .int .i64 0, .int .i64 0, .int .i64 0, .int .i64 0, .int .i64 0, .int .i64 0, .int .i64 0, .int .i64 0, .int .i64 0, .int .i64 0, .int .i64 0, .int .i64 0, .int .i64 0, .int .i64 0, .int .i64 0, .int .i64 0, .int .i64 0, .int .i64 0, .int .i64 0, .int .i64 0, .int .i64 0, .int .i64 0, .int .i64 0, .int .i64 0, .int .i64 0, .int .i64 0] 44)).setRow w6.heap.size (iv far).toArray = W7 at *))
  have HSZ : Hid (w.heap.size ≤ w6.heap.size) := hide HB6.out.size
  have HFA := hide (far_at hN hb (Rt.vl HR.out) HLP.out HBI.out)
  have HIB : Hid (IB (W7.alloc (.cells #[.int .i64 (a : Int)] 3)) w6.heap.size far) := hide ((bnew W7 (.cells #[.int .i64 (a : Int)] 3)).block w6.heap.size (Array.getElem?_eq_some_iff.1 HD7.out).1 |>.trans HD7.out)
  have HQ : Hid (QO (W7.alloc (.cells #[.int .i64 (a : Int)] 3)) w.heap.size (some ⟨W7.heap.size, 0, none⟩) 1 [a]) := hide ⟨by simp [iv], .inr ⟨W7.heap.size, 1, _, rfl, HB7.out.size, heap_alloc_new _ _, Nat.le_refl _, by decide, by simp, by simp [iv]⟩⟩
  have HBB := hide (bkp HB7.out (bnew W7 (.cells #[.int .i64 (a : Int)] 3)))
  have HPT : Hid ([a] ++ pt N ps b (Dd N ps a b).toNat a = full) := hide (by rw [← HFU.out]; rfl)
  clear HB7 HD7 HB6 HBI
  generalize W7.alloc (.cells #[.int .i64 (a : Int)] 3) = W8 at *
  generalize W7.heap.size = g8 at *
  generalize w6.heap.size = Z at *
  go_loopw [1, 8] (fun v1 v8 wr => ∃ (x : Nat) (l : List Nat) (a2 : Option Addr) (c2 : Nat), v1 = .int .i64 (x : Int) ∧ v8 = .slice a2 l.length c2 ∧ x < N ∧ l.length ≤ 100 ∧ Hid (Below w.heap.size w wr) ∧ Hid (IB wr Z far) ∧ Hid (QO wr w.heap.size a2 c2 l) ∧ Hid (l ++ pt N ps b (Dd N ps x b).toNat x = full)) (fun v1 _ _ => (Dd N ps (Go.RowKit.intOf v1).toNat b).toNat)
  case atStart => exact ⟨a, [a], _, 1, rfl, rfl, ha, by simp, HBB, HIB, HQ, HPT⟩
  case round =>
    clear HBB HIB HQ HPT
    obtain ⟨x, l, a2, c2, rfl, rfl, hx, hll, HBB, HIB, HQ, HPT⟩ := hrel
    by_cases h : x = b
    · subst h
      have e1 : ((x : Int) != (x : Int)) = false := by simp
      have HF : Hid (l = full) := hide (by
        have := HPT.out
        rw [(Dd_zero HR.out hx hx).2 rfl] at this
        simpa [pt] using this)
      go_wp2_with fail
      go_ret
      refine ⟨⟨a2, c2, by rw [HF.out]; rfl, by have := HQ.out; rwa [HF.out] at this⟩, HBB.out⟩
    · have e1 : ((x : Int) != (b : Int)) = true := by simpa using (fun e => h (by omega))
      have hx64 : x < 64 := by omega
      have HNS := hide (nx_spec HR.out hx hb h)
      have HPN := hide (pt_next HR.out hx hb h)
      have HDP := hide (Dd_pos HR.out HNS.out.1 hb)
      have cn := rNearer B C Z x N ao cp L far hx64 HLF.out HFA.out.2 (fun p hp => by have := HLP.out.sub x p hp; omega) (HSL.out x) wr (HC.out.below HBB.out) HIB.out
      rw [near_eq HR.out HLP.out (HAS.out x hx) hx hb HFA.out.1] at cn
      obtain ⟨y, hy⟩ : ∃ y, nx N ps x b = y := ⟨_, rfl⟩
      have HY := hide hy
      rw [hy] at cn
      obtain ⟨ll, hl2⟩ : ∃ k, l.length = k := ⟨_, rfl⟩
      have HLL := hide hl2
      rw [hl2] at hll ⊢
      clear h hy hl2
      go_wp2_with (first | (go_at_call 35; (with_reducible refine Calls.mono cn ?_); rintro e w9 ⟨rfl, hb9⟩; have HB9 := hide hb9; have HQ9 : Hid (w9.ownsRow w.heap.size 3 1 (.slice a2 ll c2) ll (iv (l.map fun (k : Nat) => (k : Int)))) := hide (by have := own_below HQ.out hb9; rwa [HLL.out] at this); have hsz9 : w.heap.size ≤ w9.heap.size := Nat.le_trans HBB.out.size hb9.size; clear hb9) | (at_builtin; refine wpList_pushN rfl _ _ 32 rfl 3 Tryd.underlying32 _ 1 8 infoI rfl (by decide) w.heap.size a2 ll c2 _ rfl HQ9.out [.int .i64 (y : Int)] _ rfl rfl (by simp [Value.oneCell']) w9.heap.size (by simp) rfl (by omega) (by omega) hsz9 ?_))
      intro g3 cap w3 hO hgr _
      have hyN : y < N := by rw [← HY.out]; exact HNS.out.1
      have HQ3 : Hid (QO w3 w.heap.size (some ⟨g3, 0, none⟩) cap (l ++ [y])) := hide (QO.push (by rw [HLL.out]; exact hO))
      have HIB9 := (HB9.out.block Z (Array.getElem?_eq_some_iff.1 HIB.out).1).trans HIB.out
      have HIB3 : Hid (IB w3 Z far) := hide ((hgr.block Z (Array.getElem?_eq_some_iff.1 HIB9).1 (own_ne HQ9.out HIB9 (by decide)).symm).trans HIB9)
      have HB3 : Hid (Below w.heap.size w w3) := hide ((bkp HBB.out HB9.out).grown hgr hsz9 (fun k hk => (own_lt HQ9.out k hk).1))
      have HPT3 : Hid ((l ++ [y]) ++ pt N ps b (Dd N ps y b).toNat y = full) := hide (by
        have := HPT.out
        rw [HPN.out, HY.out] at this
        rw [List.append_assoc]
        exact this)
      have hl100 : (l ++ [y]).length ≤ 100 := by
        have := congrArg List.length HPT3.out
        rw [List.length_append] at this
        omega
      have hms : (Dd N ps y b).toNat < (Dd N ps x b).toNat := by
        have h1 := HNS.out.2
        have h2 := HDP.out
        rw [HY.out] at h1 h2
        omega
      clear hO hgr HIB9
      go_wp2_with fail
      go_roundw
      case rel => exact ⟨y, l ++ [y], some ⟨g3, 0, none⟩, cap, rfl, by rw [List.length_append, HLL.out]; rfl, hyN, hl100, HB3, HIB3, HQ3, HPT3⟩
      case measure => simpa [Go.RowKit.intOf] using hms
end Go.Proofs.YtipceoeihiaieaaDoor.Rou
