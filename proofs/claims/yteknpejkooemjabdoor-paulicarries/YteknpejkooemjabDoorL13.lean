/- Package pauli's Print, as it is walked. -/
import Derived.Test.YteknpejkooemjabDoorK13
namespace Go.Proofs.YteknpejkooemjabDoor.Pau
open Go.RowKit Go.Shelf Go.Proofs.YteknpejkooemjabDoor.Oct

theorem Bd.below {w w' : World} {B b : Nat} {p : Value} {l : List UInt8} (h : Bd w B b p l) (hb : Below w.heap.size w w') : Bd w' B b p l := by
  obtain ⟨ao, c, h1, h2, h3, h4⟩ := h.buf
  refine ⟨h4, .slice ao l.length c, (hb.block b (Array.getElem?_eq_some_iff.1 h1).1).trans h1, ?_, ?_⟩
  · rw [bv_length]
    refine ownsRow_of_block h2 (fun k hk => ?_)
    rcases h2.2 with ⟨hv, -⟩ | ⟨g, cap, cur, hv, -, hg, -⟩
    · simp at hv; rw [hv.1] at hk; cases hk
    · simp at hv
      rw [hv.1] at hk
      simp [ob] at hk
      subst hk
      exact hb.block g (Array.getElem?_eq_some_iff.1 hg).1
  · rw [ob_eq]; exact h3
/-- What is written ahead of the letters. -/
def sg (k : Nat) : List UInt8 := if k = 0 then [43] else if k = 1 then [43, 105] else if k = 2 then [45] else [45, 105]
/-- The letters of the first k qubits. -/
def ltr (p : P) (k : Nat) : List UInt8 := (List.range k).map fun q => UInt8.ofNat (lt (bt p.x q) (bt p.z q))
def prt (p : P) : List UInt8 := sg p.ph.toNat ++ ltr p p.n.toNat
theorem ltr_succ (p : P) (k : Nat) : ltr p (k + 1) = ltr p k ++ [UInt8.ofNat (lt (bt p.x k) (bt p.z k))] := by
  unfold ltr
  rw [List.range_succ, List.map_append]
  rfl
theorem ltr_len (p : P) (k : Nat) : (ltr p k).length = k := by simp [ltr]
theorem sg_len (k : Nat) : (sg k).length ≤ 2 := by unfold sg; (repeat' split) <;> decide
theorem sg_ne (k : Nat) : sg k ≠ [] := by unfold sg; (repeat' split) <;> decide
theorem lt_lt (u v : Nat) : lt u v < 256 := by unfold lt; (repeat' split) <;> decide
/-- The signs' table. -/
def Ts (w : World) : Prop := ∀ j, j < 4 → w.cell? ⟨0, j, none⟩ = some (.string ⟨(sg j).toArray⟩)
theorem cell_below {w w' : World} {a : Addr} {v : Value} (h : w.cell? a = some v) (hb : Below w.heap.size w w') : w'.cell? a = some v := (hb.cell (World.block_lt_of_cell? w a h)).trans h
theorem Ts.below {w w' : World} (h : Ts w) (hb : Below w.heap.size w w') : Ts w' := fun j hj => cell_below (h j hj) hb
set_option maxRecDepth 100000 in
set_option maxHeartbeats 2000000 in
theorem pPrint_no (p : P) (hp : Wd p) (hr : rt p = false) (w : World) : Calls Tryd.prog 10 #[pV p] w fun e w' => e = .returned (.tuple #[.string ⟨#[]⟩, .int .i64 130]) ∧ Below w.heap.size w w' := by
  have c1 := fun W => pCheck p hp W
  unfold ck at c1
  rw [hr] at c1
  simp only [Bool.false_eq_true, if_false] at c1
  obtain ⟨n, x, z, ph⟩ := p
  have HB := hide (bnew w (.cells #[.int .i64 n, .int .u64 (x : Int), .int .u64 (z : Int), .int .i64 ph] 24))
  unfold pV at *
  simp only at *
  clear hp hr
  go_enter Tryd.func10, Tryd.ntmps10
  go_wp2_with fail
  refine (c1 _).mono ?_
  rintro e w1 ⟨rfl, hb1⟩
  have HB1 := hide (bkp HB.out hb1)
  clear hb1 HB
  go_wp2_with fail
  go_ret2
  exact ⟨rfl, HB1.out⟩
set_option maxRecDepth 100000 in
set_option maxHeartbeats 2000000 in
theorem pPrint_ok (p : P) (hp : Wd p) (hr : rt p = true) (w : World) (hT : Ts w) : Calls Tryd.prog 10 #[pV p] w fun e w' => e = .returned (.tuple #[.string ⟨(prt p).toArray⟩, .int .i64 0]) ∧ Below w.heap.size w w' := by
  have c1 := fun W => pCheck p hp W
  unfold ck at c1
  rw [hr] at c1
  simp only [if_true] at c1
  obtain ⟨a1, a2, -, -, a5, a6⟩ := rt_iff.1 hr
  have HL := hide (fun (k : Nat) (hk : (k : Int) < p.n) W => letP_in hr hk ▸ pLetter p hp (k : Int) W)
  have HPR : Hid (∀ k, k = p.n.toNat → sg p.ph.toNat ++ ltr p k = prt p) := hide (fun k e => by rw [e]; rfl)
  have HLS := hide (fun k => ltr_succ p k)
  have HLL := hide (fun k => ltr_len p k)
  have HL0 : Hid (ltr p 0 = []) := hide rfl
  obtain ⟨q, hq⟩ : ∃ q : Nat, p.ph = (q : Int) := ⟨p.ph.toNat, by omega⟩
  obtain ⟨N, hN⟩ : ∃ N : Nat, p.n = (N : Int) := ⟨p.n.toNat, by omega⟩
  rw [hq, Int.toNat_natCast, hN, Int.toNat_natCast] at HPR
  rw [hN] at HL
  have hN64 : N ≤ 64 := by omega
  have hq4 : q < 4 := by omega
  have HT := hide hT
  generalize ltr p = F at *
  generalize prt p = R at *
  obtain ⟨n, x, z, ph⟩ := p
  simp only at *
  subst hq
  subst hN
  have HB := hide (bnew w (.cells #[.int .i64 (N : Int), .int .u64 (x : Int), .int .u64 (z : Int), .int .i64 (q : Int)] 24))
  have HA := hide (At4.new w (.int .i64 (N : Int)) (.int .u64 (x : Int)) (.int .u64 (z : Int)) (.int .i64 (q : Int)))
  unfold pV at *
  simp only at *
  clear hp hr hT a1 a2 a5 a6
  generalize hA : (fun k => lt (bt x k) (bt z k)) = lA at *
  have eA : ∀ k, lt (bt x k) (bt z k) = lA k := fun k => congrFun hA k
  simp only [eA] at HL HLS
  have HLT : Hid (∀ k, lA k < 256) := hide (fun k => by rw [← eA k]; exact lt_lt _ _)
  clear eA hA
  go_enter Tryd.func10, Tryd.ntmps10
  go_wp2_with fail
  refine (c1 _).mono ?_
  rintro e w1 ⟨rfl, hb1⟩
  have HB1 := hide (bkp HB.out hb1)
  have HA1 := hide (HA.out.below hb1)
  obtain ⟨x0, x1, x2, x3, x4⟩ := HA1.out.cells
  have hT1 := HT.out.below (bkp HB.out hb1) q hq4
  have hgl := World.block_lt_of_cell? _ _ hT1
  clear hb1 HB HA c1
  have hbd : Bd (w1.alloc (.cells #[.pointer none, .slice none 0 0] 56)) w1.heap.size w1.heap.size (.pointer none) [] := ⟨Nat.le_refl _, .slice none 0 0, heap_alloc_new _ _, ⟨rfl, .inl ⟨rfl, rfl⟩⟩, by intro e; cases e⟩
  have cS := bWS w1.heap.size w1.heap.size (.pointer none) (.inl rfl) [] ⟨(sg q).toArray⟩ _ hbd (by have := sg_len q; simp [ByteArray.size]; omega) (by simp)
  rw [List.nil_append, show (⟨(sg q).toArray⟩ : ByteArray).data.toList = sg q from rfl] at cS
  have HA2 : Hid (∀ W, Below w1.heap.size w1 W → At4 W w.heap.size (.int .i64 (N : Int)) (.int .u64 (x : Int)) (.int .u64 (z : Int)) (.int .i64 (q : Int)) ∧ Below w.heap.size w W) := hide (fun W hW => ⟨HA1.out.below hW, bkp HB1.out hW⟩)
  have HBN := hide (bnew w1 (.cells #[.pointer none, .slice none 0 0] 56))
  have hq4' : (q : Int) < 4 := by omega
  go_wp2_with fail
  refine cS.mono ?_
  rintro e w2 ⟨⟨v2, rfl⟩, hb2, hbl2⟩
  have HBD2 := hide hb2
  have HBL2 := hide (HBN.out.trans hbl2)
  clear x0 x1 x2 x3 x4 cS hbd hb2 hbl2
  have hg2 : w1.heap.size < w2.heap.size := by
    obtain ⟨ao, c, h1, -⟩ := HBD2.out.buf
    exact (Array.getElem?_eq_some_iff.1 h1).1
  obtain ⟨x0, x1, x2, x3, x4⟩ := (HA2.out w2 HBL2.out).1.cells
  go_wp2_with fail
  generalize hb0 : w1.heap.size = b at *
  clear x0 x1 x2 x3 x4
  go_loopw [16] (fun vi wr => ∃ k : Nat, vi = .int .i64 (k : Int) ∧ k ≤ N ∧ b < wr.heap.size ∧ Hid (Below b w1 wr ∧ Bd wr b b (me b) (sg q ++ F k))) (fun vi _ => N - (Go.RowKit.intOf vi).toNat)
  case atStart => exact ⟨0, rfl, Nat.zero_le _, hg2, hide ⟨HBL2.out, by rw [HL0.out, List.append_nil]; exact HBD2.out⟩⟩
  case round =>
    obtain ⟨k, rfl, hk, hbs, HI⟩ := hrel
    obtain ⟨x0, x1, x2, x3, x4⟩ := (HA2.out wr HI.out.1).1.cells
    by_cases h : k < N
    · have hd : decide ((k : Int) < (N : Int)) = true := decide_eq_true (by omega)
      have cL := fun W => HL.out k (by omega) W
      have hlt := HLT.out k
      have hu : ((UInt8.ofNat (lA k)).toNat : Int) = (lA k : Int) := by
        rw [UInt8.toNat_ofNat', Nat.mod_eq_of_lt (by omega)]
      have HLk := hide (HLS.out k)
      have hlen := HLL.out k
      have hsl := sg_len q
      go_wp2_with fail
      refine (cL _).mono ?_
      rintro e w3 ⟨rfl, hb3⟩
      have cB := bWB b b (sg q ++ F k) (UInt8.ofNat (lA k)) w3 (HI.out.2.below hb3) (by rw [List.length_append]; omega) (Nat.le_trans (Nat.le_of_lt hbs) hb3.size)
      rw [hu] at cB
      have HB3 := hide (HI.out.1.trans (hb3.mono (Nat.le_of_lt hbs)))
      have hs3 : b < w3.heap.size := Nat.lt_of_lt_of_le hbs hb3.size
      clear hb3 x0 x1 x2 x3 x4
      go_wp2_with fail
      refine cB.mono ?_
      rintro e w4 ⟨⟨v4, rfl⟩, hd4, hb4⟩
      have HB4 := hide (HB3.out.trans hb4)
      have HD4 := hide hd4
      have hs4 : b < w4.heap.size := Nat.lt_of_lt_of_le hs3 hb4.size
      clear hd4 hb4 cB
      go_wp2_with fail
      go_roundw
      case rel => exact ⟨k + 1, by go_num, by omega, hs4, hide ⟨HB4.out, by rw [HLk.out, ← List.append_assoc]; exact HD4.out⟩⟩
      case measure => simp [Go.RowKit.intOf]; omega
    · obtain rfl : k = N := by omega
      have hR := HPR.out k rfl
      have cF := bString b b (sg q ++ F k) wr HI.out.2 (by intro e; exact sg_ne q (List.append_eq_nil_iff.1 e).1)
      rw [hR] at cF
      have HBw := hide (HA2.out wr HI.out.1).2
      have hwb : w.heap.size ≤ b := by rw [← hb0]; exact HB1.out.size
      clear x0 x1 x2 x3 x4
      go_wp2_with fail
      refine cF.mono ?_
      rintro e w5 ⟨rfl, hb5⟩
      have HB5 := hide (HBw.out.trans (hb5.mono hwb))
      clear hb5 cF
      go_wp2_with fail
      go_ret2
      exact ⟨rfl, HB5.out⟩
end Go.Proofs.YteknpejkooemjabDoor.Pau
