/- The document's Join, as it is walked. -/
import Derived.Test.YtinbbcojilogeaaDoorMo
import Derived.Test.YtinbbcojilogeaaDoorKm
namespace Go.Proofs.YtinbbcojilogeaaDoor.Tok
open Go.RowKit Go.Shelf Go.Proofs.YtinbbcojilogeaaDoor.Oct

def app : Nat → List UInt8 → List (List UInt8) → List UInt8
  | _, cur, [] => cur
  | 0, cur, x :: r => app 1 (cur ++ x) r
  | k + 1, cur, x :: r => app (k + 2) (cur ++ [32] ++ x) r
theorem app_succ : ∀ (xs : List (List UInt8)) (k : Nat) (cur : List UInt8), app (k + 1) cur xs = cur ++ Lib.joinTail [32] xs
  | [], k, cur => by simp [app, Lib.joinTail]
  | x :: r, k, cur => by
    rw [app, app_succ r (k + 1)]
    simp [Lib.joinTail]
theorem app_join (xs : List (List UInt8)) : Lib.join xs [32] = app 0 [] xs := by
  cases xs with
  | nil => rfl
  | cons x r => rw [app, app_succ r 0, Lib.join_cons]; rfl
theorem bulk_cons (t : TA) (r : List TA) : bulk (t :: r) = t.tx.length + 22 + bulk r := by simp [bulk]
set_option maxRecDepth 100000 in
set_option maxHeartbeats 2000000 in
theorem dJoin (ao : Option Addr) (cp : Nat) (ts : List TA) (w : World) (hR : Ta w ao ts) (hi : ∀ t ∈ ts, in64 t.nm) (hb : bulk ts ≤ 1099511627776) (hT : Tx w) :
    Calls Tryd.prog 20 #[.slice ao ts.length cp] w fun e w' => e = .returned (wrV (joinR ts)) ∧ Below w.heap.size w w' := by
  have hbl := bulk_len ts
  obtain ⟨n, hn⟩ : ∃ n, ts.length = n := ⟨_, rfl⟩
  rw [hn] at hbl ⊢
  have HR := hide hR
  have Hi := hide hi
  have Hn := hide hn
  have hnb : n ≤ 1099511627776 := by omega
  obtain ⟨BB, hBB⟩ : ∃ BB, bulk ts = BB := ⟨_, rfl⟩
  rw [hBB] at hb
  have HBB := hide hBB
  clear hR hi hn hbl hBB
  go_enter Tryd.func20, Tryd.ntmps20
  go_wp2_with fail
  go_loopw [4, 5] (fun vt vi wr => ∃ (k : Nat) (cur : List UInt8), vi = .int .i64 (k : Int) ∧ vt = .string ⟨cur.toArray⟩ ∧ k ≤ n ∧ Below w.heap.size w wr ∧ Hid (cur.length + bulk (ts.drop k) ≤ BB) ∧ Hid (joinR ts = (joinT (ts.drop k)).map (app k cur))) (fun _ vi _ => n - (RowKit.intOf vi).toNat)
  case atStart => exact ⟨0, [], rfl, rfl, Nat.zero_le _, Below.refl _ _, hide (by rw [List.drop_zero, HBB.out]; simp), hide (by unfold joinR; rw [List.drop_zero]; congr 1; funext xs; exact app_join xs)⟩
  case round =>
    obtain ⟨k, cur, rfl, rfl, hk, hbel, Hlen, Hinv⟩ := hrel
    by_cases hlt : k < n
    · have hlt' : (k : Int) < (n : Int) := by omega
      have hkl : k < ts.length := by rw [Hn.out]; exact hlt
      obtain ⟨t, ht⟩ : ∃ t, ts[k]? = some t := ⟨_, List.getElem?_eq_getElem hkl⟩
      have hdr : ts.drop k = t :: ts.drop (k + 1) := by
        rw [List.drop_eq_getElem_cons hkl]
        rw [List.getElem?_eq_getElem hkl] at ht
        rw [Option.some.inj ht]
      have hmem : t ∈ ts := List.mem_of_getElem? ht
      have hin := Hi.out t hmem
      have hln := Hlen.out
      rw [hdr, bulk_cons] at hln
      obtain ⟨br, hbr⟩ : ∃ br, bulk (ts.drop (k + 1)) = br := ⟨_, rfl⟩
      rw [hbr] at hln
      have Hbr := hide hbr
      have hrne : (ts.drop (k + 1) ≠ []) ↔ k < n - 1 := by
        rw [← List.length_pos_iff, List.length_drop, Hn.out]
        omega
      have hrneE : (t.kd = 0 ∧ ts.drop (k + 1) ≠ []) = (t.kd = 0 ∧ k < n - 1) := by rw [propext hrne]
      obtain ⟨g, off, hlo, hcl⟩ := (HR.out.below hbel) k t ht
      have hx : t.tx.length ≤ 140737488355300 := by omega
      have cW := dWrite t.kd t.nm t.o1 t.o2 t.o3 t.tx hx hin.1 hin.2 wr (hT.below hbel).ten
      have a0 := hcl 0 _ rfl
      have a1 := hcl 1 _ rfl
      have a2 := hcl 2 _ rfl
      have a3 := hcl 3 _ rfl
      have a4 := hcl 4 _ rfl
      have a5 := hcl 5 _ rfl
      rw [Nat.add_zero] at a0
      have hwl := fun s h => wr_len t hin s h
      have hjn : t.wr = none → joinT (ts.drop k) = none := fun h => by rw [hdr, joinT, h]
      have hjs : ∀ sl, t.wr = some sl → joinT (ts.drop k) = if t.kd = 0 ∧ ts.drop (k + 1) ≠ [] then none else (joinT (ts.drop (k + 1))).map (sl :: ·) := fun sl h => by rw [hdr, joinT, h]
      have hwe : writeR t.kd t.tx t.nm = t.wr := rfl
      rw [hwe] at cW
      subst hlo
      cases hw : t.wr with
      | none =>
        rw [hw] at cW
        simp only [wrV] at cW
        have HJ : Hid (joinR ts = none) := hide (by rw [Hinv.out, hjn hw]; rfl)
        obtain ⟨kd, tx, nm, o1, o2, o3⟩ := t
        simp only at *
        generalize (⟨tx.toArray⟩ : ByteArray) = st at *
        generalize (⟨cur.toArray⟩ : ByteArray) = sc at *
        clear hwl hjn hjs hwe hw hdr ht hmem hin hcl hbr hrne hrneE Hinv Hlen Hi HR
        go_wp2_with fail
        refine cW.mono ?_
        rintro e w5 ⟨rfl, hb5⟩
        clear cW a0 a1 a2 a3 a4 a5
        go_wp2_with fail
        go_ret2
        exact ⟨by rw [HJ.out]; rfl, hbel.trans (hb5.mono hbel.size)⟩
      | some sl =>
        rw [hw] at cW
        simp only [wrV] at cW
        have hsl := hwl sl hw
        have hj := hjs sl hw
        simp only [hrneE] at hj
        have e1 := cat_str cur sl
        have e2 := cat_str cur [32]
        have e3 := cat_str (cur ++ [32]) sl
        have z1 := size_str cur
        have z2 := size_str sl
        have z3 := size_str (cur ++ [32])
        rw [List.length_append] at z3
        obtain ⟨kd, tx, nm, o1, o2, o3⟩ := t
        simp only at *
        have HS1 : ∀ z, (⟨(cur ++ sl).toArray⟩ : ByteArray) = z → Hid ((⟨(cur ++ sl).toArray⟩ : ByteArray) = z) := fun _ h => hide h
        obtain ⟨sa, hsa⟩ : ∃ z, (⟨(cur ++ sl).toArray⟩ : ByteArray) = z := ⟨_, rfl⟩
        obtain ⟨sb, hsb⟩ : ∃ z, (⟨(cur ++ [32] ++ sl).toArray⟩ : ByteArray) = z := ⟨_, rfl⟩
        obtain ⟨sm, hsm⟩ : ∃ z, (⟨(cur ++ [32]).toArray⟩ : ByteArray) = z := ⟨_, rfl⟩
        rw [hsa] at e1
        rw [hsm] at e2 z3
        rw [hsb, hsm] at e3
        have Hsa := hide hsa
        have Hsb := hide hsb
        have e2' : (⟨cur.toArray⟩ : ByteArray) ++ (⟨#[32]⟩ : ByteArray) = sm := e2
        have z3' : sm.size = cur.length + 1 := z3
        generalize (⟨tx.toArray⟩ : ByteArray) = st at *
        generalize (⟨cur.toArray⟩ : ByteArray) = sc at *
        generalize (⟨sl.toArray⟩ : ByteArray) = ss at *
        obtain ⟨tln, htln⟩ : ∃ z, tx.length = z := ⟨_, rfl⟩
        rw [htln] at hsl hln hx
        have HL1 : Hid ((cur ++ sl).length + bulk (ts.drop (k + 1)) ≤ BB) := hide (by rw [Hbr.out, List.length_append]; omega)
        have HL2 : Hid ((cur ++ [32] ++ sl).length + bulk (ts.drop (k + 1)) ≤ BB) := hide (by rw [Hbr.out, List.length_append, List.length_append]; show cur.length + 1 + sl.length + br ≤ BB; omega)
        have HI := hide hj
        clear hwl hjn hjs hwe hw hdr ht hmem hin hcl hbr hrne hrneE Hlen Hi HR hj hsa hsb hsm htln e2 z3 HS1
        go_wp2_with fail
        refine cW.mono ?_
        rintro e w5 ⟨rfl, hb5⟩
        have b0 := cell_below a0 hb5
        have hbw5 := hbel.trans (hb5.mono hbel.size)
        clear cW a0 a1 a2 a3 a4 a5
        by_cases hend : kd = 0 ∧ k < n - 1
        · obtain ⟨rfl, hk1⟩ := hend
          have hk1' : (k : Int) < (n : Int) - 1 := by omega
          have HJ : Hid (joinR ts = none) := hide (by rw [Hinv.out, HI.out, if_pos ⟨rfl, hk1⟩]; rfl)
          clear HI Hinv
          go_wp2_with fail
          go_ret2
          exact ⟨by rw [HJ.out]; rfl, hbw5⟩
        · have HI2 : Hid (joinT (ts.drop k) = (joinT (ts.drop (k + 1))).map (sl :: ·)) := hide (by rw [HI.out, if_neg hend])
          have hcase : (kd = 0 ∧ ¬ (k : Int) < (n : Int) - 1) ∨ (kd == 0) = false := by
            by_cases h0 : kd = 0
            · exact .inl ⟨h0, fun h => hend ⟨h0, by omega⟩⟩
            · exact .inr (by rw [beq_eq_false_iff_ne]; exact h0)
          clear HI hend
          by_cases hz : k = 0
          · have HJ : Hid (joinR ts = (joinT (ts.drop (k + 1))).map (app (k + 1) (cur ++ sl))) := hide (by
              rw [Hinv.out, HI2.out, Option.map_map, hz]
              rfl)
            have q1 : decide ((0 : Int) < (k : Int)) = false := decide_eq_false (by omega)
            have q2 : decide (0 < k) = false := decide_eq_false (by omega)
            have q3 : ¬ (0 : Int) < (k : Int) := by omega
            clear Hinv HI2 hz
            rcases hcase with ⟨rfl, hk1⟩ | hk1
            all_goals go_wp2_with fail
            all_goals exact ⟨⟨k + 1, cur ++ sl, by go_num, (by rw [Hsa.out]), by omega, hbw5, HL1, HJ⟩, by simp [RowKit.intOf]; omega⟩
          · have HJ : Hid (joinR ts = (joinT (ts.drop (k + 1))).map (app (k + 1) (cur ++ [32] ++ sl))) := hide (by
              obtain ⟨m, rfl⟩ : ∃ m, k = m + 1 := ⟨k - 1, by omega⟩
              rw [Hinv.out, HI2.out, Option.map_map]
              rfl)
            have q1 : decide ((0 : Int) < (k : Int)) = true := decide_eq_true (by omega)
            have q2 : decide (0 < k) = true := decide_eq_true (by omega)
            have q3 : (0 : Int) < (k : Int) := by omega
            clear Hinv HI2 hz
            rcases hcase with ⟨rfl, hk1⟩ | hk1
            all_goals go_wp2_with fail
            all_goals exact ⟨⟨k + 1, cur ++ [32] ++ sl, by go_num, (by rw [Hsb.out]), by omega, hbw5, HL2, HJ⟩, by simp [RowKit.intOf]; omega⟩
    · have hlt' : ¬ (k : Int) < (n : Int) := by omega
      have HJ : Hid (joinR ts = some cur) := hide (by
        rw [Hinv.out, List.drop_of_length_le (by rw [Hn.out]; omega)]
        show some (app k cur []) = _
        cases k <;> rfl)
      generalize hsc : (⟨cur.toArray⟩ : ByteArray) = sc at *
      have Hsc := hide hsc
      clear hsc Hinv Hlen Hi HR
      go_wp2_with fail
      go_ret2
      exact ⟨by rw [HJ.out, wrV, Hsc.out]; rfl, hbel⟩
end Go.Proofs.YtinbbcojilogeaaDoor.Tok
