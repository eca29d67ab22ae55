/- The document's Print, as it is walked. -/
import Derived.Test.YteknpejkooemjaaDoorV13
namespace Go.Proofs.YteknpejkooemjaaDoor.Pau
open Go.RowKit Go.Shelf Go.Proofs.YteknpejkooemjaaDoor.Oct Go.Proofs.YteknpejkooemjaaDoor.Gt

theorem cat_str (a b : List UInt8) : (⟨a.toArray⟩ : ByteArray) ++ ⟨b.toArray⟩ = ⟨(a ++ b).toArray⟩ := by
  apply ByteArray.ext
  simp
theorem conv_one (u : UInt8) (z : Int) (hz : z = (u.toNat : Int)) (w : World) : (convert 74 9 (.slice (some ⟨w.heap.size, 0, none⟩) 1 1)).run Tryd.prog (w.alloc (.cells #[.int .u8 z] 5)) = .ok (.string ⟨[u].toArray⟩) (w.alloc (.cells #[.int .u8 z] 5)) := by
  subst hz
  refine conv_bs (l := [u]) 74 9 5 Tryd.underlying74 Tryd.underlying5 Tryd.underlying9 ?_
  intro j b hj
  match j, hj with
  | 0, hj =>
    simp at hj
    subst hj
    exact ⟨_, 0, rfl, cell_of_row _ _ 0 _ _ _ (heap_alloc_new _ _)⟩
set_option maxRecDepth 100000 in
set_option maxHeartbeats 2000000 in
theorem dPrint_no (p : P) (hp : Wd p) (hr : rt p = false) (w : World) : Calls Tryd.prog 23 #[pV p] w fun e w' => e = .returned (.tuple #[.string ⟨#[]⟩, .int .i64 130]) ∧ Below w.heap.size w w' := by
  have c1 := fun W => dRight p hp W
  rw [hr] at c1
  obtain ⟨n, x, z, ph⟩ := p
  have HB := hide (bnew w (.cells #[.int .i64 n, .int .u64 (x : Int), .int .u64 (z : Int), .int .i64 ph] 24))
  unfold pV at *
  simp only at *
  clear hp hr
  go_enter Tryd.func23, Tryd.ntmps23
  go_wp2_with fail
  refine (c1 _).mono ?_
  rintro e w1 ⟨rfl, hb1⟩
  have HB1 := hide (bkp HB.out hb1)
  clear hb1 HB
  go_wp2_with fail
  go_ret2
  exact ⟨rfl, HB1.out⟩
set_option maxRecDepth 100000 in
set_option maxHeartbeats 2000000 in
theorem dPrint_ok (p : P) (hp : Wd p) (hr : rt p = true) (w : World) : Calls Tryd.prog 23 #[pV p] w fun e w' => e = .returned (.tuple #[.string ⟨(prt p).toArray⟩, .int .i64 0]) ∧ Below w.heap.size w w' := by
  have c1 := fun W => dRight p hp W
  rw [hr] at c1
  obtain ⟨a1, a2, -, -, a5, a6⟩ := rt_iff.1 hr
  have HL := hide (fun (k : Nat) (hk : (k : Int) < p.n) W => letP_in hr hk ▸ dLetter p hp (k : Int) W)
  have HPR : Hid (∀ k, k = p.n.toNat → sg p.ph.toNat ++ ltr p k = prt p) := hide (fun k e => by rw [e]; rfl)
  have HLS := hide (fun k => ltr_succ p k)
  have HLL := hide (fun k => ltr_len p k)
  have HL0 : Hid (ltr p 0 = []) := hide rfl
  obtain ⟨q, hq⟩ : ∃ q : Nat, p.ph = (q : Int) := ⟨p.ph.toNat, by omega⟩
  obtain ⟨N, hN⟩ : ∃ N : Nat, p.n = (N : Int) := ⟨p.n.toNat, by omega⟩
  rw [hq, Int.toNat_natCast, hN, Int.toNat_natCast] at HPR
  rw [hN] at HL
  have hN64 : N ≤ 64 := by omega
  have hq4 : q < 4 := by omega
  generalize ltr p = F at *
  generalize prt p = R at *
  obtain ⟨n, x, z, ph⟩ := p
  simp only at *
  subst hq
  subst hN
  have HB := hide (bnew w (.cells #[.int .i64 (N : Int), .int .u64 (x : Int), .int .u64 (z : Int), .int .i64 (q : Int)] 24))
  have HA := hide (At4.new w (.int .i64 (N : Int)) (.int .u64 (x : Int)) (.int .u64 (z : Int)) (.int .i64 (q : Int)))
  unfold pV at *
  simp only at *
  clear hp hr a1 a2 a5 a6
  generalize hA : (fun k => lt (bt x k) (bt z k)) = lA at *
  have eA : ∀ k, lt (bt x k) (bt z k) = lA k := fun k => congrFun hA k
  simp only [eA] at HL HLS
  have HLT : Hid (∀ k, lA k < 256) := hide (fun k => by rw [← eA k]; exact lt_lt _ _)
  clear eA hA
  go_enter Tryd.func23, Tryd.ntmps23
  go_wp2_with fail
  refine (c1 _).mono ?_
  rintro e w1 ⟨rfl, hb1⟩
  have hn := bnew w1 (.cells #[.string ⟨#[43]⟩, .string ⟨#[43, 105]⟩, .string ⟨#[45]⟩, .string ⟨#[45, 105]⟩] 9)
  have HB1 := hide (bkp (bkp HB.out hb1) hn)
  have HA1 := hide ((HA.out.below hb1).below hn)
  obtain ⟨x0, x1, x2, x3, x4⟩ := HA1.out.cells
  have hsg : (w1.alloc (.cells #[.string ⟨#[43]⟩, .string ⟨#[43, 105]⟩, .string ⟨#[45]⟩, .string ⟨#[45, 105]⟩] 9)).cell? ⟨w1.heap.size, q, none⟩ = some (.string ⟨(sg q).toArray⟩) := by
    rw [cell_of_row _ _ q _ _ _ (heap_alloc_new _ _)]
    have h4 : q = 0 ∨ q = 1 ∨ q = 2 ∨ q = 3 := by omega
    rcases h4 with rfl | rfl | rfl | rfl <;> rfl
  have hq4' : (q : Int) < 4 := by omega
  clear hb1 HB HA c1 hn
  go_wp2_with fail
  generalize w1.alloc (.cells #[.string ⟨#[43]⟩, .string ⟨#[43, 105]⟩, .string ⟨#[45]⟩, .string ⟨#[45, 105]⟩] 9) = w2 at *
  clear x0 x1 x2 x3 x4 hsg
  go_loopw [5, 6] (fun vs vi wr => ∃ k : Nat, vi = .int .i64 (k : Int) ∧ vs = .string ⟨(sg q ++ F k).toArray⟩ ∧ k ≤ N ∧ Hid (Below w.heap.size w wr ∧ At4 wr w.heap.size (.int .i64 (N : Int)) (.int .u64 (x : Int)) (.int .u64 (z : Int)) (.int .i64 (q : Int)))) (fun _ vi _ => N - (Go.RowKit.intOf vi).toNat)
  case atStart => exact ⟨0, rfl, by rw [HL0.out, List.append_nil], Nat.zero_le _, hide ⟨HB1.out, HA1.out⟩⟩
  case round =>
    obtain ⟨k, rfl, rfl, hk, HI⟩ := hrel
    obtain ⟨x0, x1, x2, x3, x4⟩ := HI.out.2.cells
    by_cases h : k < N
    · have hd : decide ((k : Int) < (N : Int)) = true := decide_eq_true (by omega)
      have cL := fun W => HL.out k (by omega) W
      have hlt := HLT.out k
      have hu : (lA k : Int) = ((UInt8.ofNat (lA k)).toNat : Int) := by
        rw [UInt8.toNat_ofNat', Nat.mod_eq_of_lt (by omega)]
      have hcv := fun W => conv_one (UInt8.ofNat (lA k)) (lA k : Int) hu W
      clear hu
      have HLk := hide (HLS.out k)
      have hlen := HLL.out k
      have hsl := sg_len q
      have hcat := cat_str (sg q ++ F k) [UInt8.ofNat (lA k)]
      have hs1 := size_str (sg q ++ F k)
      have hs2 := size_str [UInt8.ofNat (lA k)]
      rw [List.length_append] at hs1
      have HC : Hid (((sg q ++ F k) ++ [UInt8.ofNat (lA k)]) = sg q ++ F (k + 1)) := hide (by rw [HLk.out, List.append_assoc])
      obtain ⟨b3, hb3'⟩ : ∃ b3, (⟨((sg q ++ F k) ++ [UInt8.ofNat (lA k)]).toArray⟩ : ByteArray) = b3 := ⟨_, rfl⟩
      rw [hb3'] at hcat
      have HB3 := hide hb3'
      clear hb3'
      generalize (⟨(sg q ++ F k).toArray⟩ : ByteArray) = b1 at *
      generalize (⟨[UInt8.ofNat (lA k)].toArray⟩ : ByteArray) = b2 at *
      go_wp2_with fail
      refine (cL _).mono ?_
      rintro e w3 ⟨rfl, hb3⟩
      have hn3 := bnew w3 (.cells #[.int .u8 (lA k : Int)] 5)
      have HI3 := hide (And.intro (bkp (bkp HI.out.1 hb3) hn3) ((HI.out.2.below hb3).below hn3))
      have hcv3 := hcv w3
      clear hb3 x0 x1 x2 x3 x4 hn3 hcv
      go_wp2_with fail
      go_roundw
      case rel => exact ⟨k + 1, by go_num, by rw [← HC.out, ← HB3.out], by omega, HI3⟩
      case measure => simp [Go.RowKit.intOf]; omega
    · obtain rfl : k = N := by omega
      have hd : decide ((k : Int) < (k : Int)) = false := decide_eq_false (by omega)
      have HR := hide (HPR.out k rfl)
      have HBi := hide HI.out.1
      clear HI
      go_wp2_with fail
      go_ret2
      exact ⟨by rw [HR.out]; rfl, HBi.out⟩
end Go.Proofs.YteknpejkooemjaaDoor.Pau
