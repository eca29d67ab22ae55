import Derived.Test.YtoickolhekhgmaaGreatDoorEn88894748
import Derived.Lib.IndexBytes
import Derived.Shelf.Small.Wraps
import Derived.Test.YtoickolhekhgmaaGreatDoorEna45e642b
namespace Go.Proofs.YtoickolhekhgmaaGreatDoor.Gt
end Go.Proofs.YtoickolhekhgmaaGreatDoor.Gt
namespace Go.Proofs.YtoickolhekhgmaaGreatDoor.Oct
end Go.Proofs.YtoickolhekhgmaaGreatDoor.Oct
set_option maxRecDepth 100000
set_option maxHeartbeats 4000000
namespace Go.Proofs.YtoickolhekhgmaaGreatDoor.Pau
open Go.RowKit Go.Shelf Go.Proofs.YtoickolhekhgmaaGreatDoor.Oct Go.Proofs.YtoickolhekhgmaaGreatDoor.Gt
def str (l : List UInt8) : Value := .string ⟨l.toArray⟩
theorem size_str (l : List UInt8) : (⟨l.toArray⟩ : ByteArray).size = l.length := by show l.toArray.size = _; simp
theorem ix_at (l : List UInt8) (k : Nat) (b : UInt8) (h : l[k]? = some b) (w : World) : (Instr.index 9 (.string ⟨l.toArray⟩) (.int .i64 (k : Int))).run Tryz.prog w = .ok (.int .u8 (b.toNat : Int)) w := by
  have hk : k < l.length := (List.getElem?_eq_some_iff.1 h).1
  have hi : (0 : Int) <= (k : Int) /\ (k : Int) < ((⟨l.toArray⟩ : ByteArray).size : Int) := ⟨by omega, by rw [size_str]; omega⟩
  rw [run_index_string w 9 _ .i64 (k : Int) Tryz.underlying9, dif_pos hi]
  have e : (⟨l.toArray⟩ : ByteArray)[(k : Int).toNat]'(by rw [size_str]; omega) = b := by
    show l.toArray[(k : Int).toNat]'(by simp; omega) = b
    simp only [Int.toNat_natCast, List.getElem_toArray]
    rw [List.getElem?_eq_getElem hk] at h
    exact Option.some.inj h
  rw [e]
theorem sCutP (l p : List UInt8) (w : World) :
    Calls Tryz.prog 125 #[.string ⟨l.toArray⟩, .string ⟨p.toArray⟩] w fun e w' => e = .returned (.tuple #[.string ⟨(Lib.trimPrefix l p).toArray⟩, .bool (Lib.hasPrefix l p)]) /\ w' = w :=
  Any.strings_CutPrefix Tryz.laysCutPrefix ⟨l.toArray⟩ ⟨p.toArray⟩ w
theorem sIB (l : List UInt8) (c : UInt8) (w : World) : Calls Tryz.prog 107 #[.string ⟨l.toArray⟩, .int .u8 (c.toNat : Int)] w fun e w' => e = .returned (.int .i64 (Lib.indexByte l c)) /\ w' = w := by
  have c1 := fun W => Any.stringslite_IndexByte Tryz.laysIB ⟨l.toArray⟩ (c.toNat : Int) W
  rw [show (ByteArray.mk l.toArray).data.toList = l from rfl, show ((c.toNat : Int)).toNat.toUInt8 = c by simp] at c1
  generalize Lib.indexByte l c = r at *
  generalize (⟨l.toArray⟩ : ByteArray) = s at *
  go_enter Tryz.func107, Tryz.ntmps107
  go_wp2_with (go_at_call 126; refine (c1 _).mono ?_; rintro e w1 ⟨rfl, hw⟩; obtain rfl := hw.symm)
  go_ret
  exact ⟨rfl, rfl⟩
def cutP (l : List UInt8) : Int × List UInt8 :=
  if Lib.hasPrefix l (sg 3) = true then (3, Lib.trimPrefix l (sg 3)) else if Lib.hasPrefix l (sg 2) = true then (2, Lib.trimPrefix l (sg 2)) else if Lib.hasPrefix l (sg 1) = true then (1, Lib.trimPrefix l (sg 1)) else if Lib.hasPrefix l (sg 0) = true then (0, Lib.trimPrefix l (sg 0)) else (-1, [])
theorem pCut (l : List UInt8) (w : World) (hT : Ts w) : Calls Tryz.prog 106 #[str l] w fun e w' => e = .returned (.tuple #[.int .i64 (cutP l).1, str (cutP l).2]) /\ w' = w := by
  have c3 := fun W => sCutP l (sg 3) W
  have c2 := fun W => sCutP l (sg 2) W
  have c1 := fun W => sCutP l (sg 1) W
  have c0 := fun W => sCutP l (sg 0) W
  have t3 := hT 3 (by decide)
  have t2 := hT 2 (by decide)
  have t1 := hT 1 (by decide)
  have t0 := hT 0 (by decide)
  have hgl := World.block_lt_of_cell? _ _ t0
  unfold cutP str
  clear hT
  generalize (⟨l.toArray⟩ : ByteArray) = s at *
  generalize (⟨(sg 3).toArray⟩ : ByteArray) = g3 at *
  generalize (⟨(sg 2).toArray⟩ : ByteArray) = g2 at *
  generalize (⟨(sg 1).toArray⟩ : ByteArray) = g1 at *
  generalize (⟨(sg 0).toArray⟩ : ByteArray) = g0 at *
  cases h3 : Lib.hasPrefix l (sg 3)
  . cases h2 : Lib.hasPrefix l (sg 2)
    . cases h1 : Lib.hasPrefix l (sg 1)
      . cases h0 : Lib.hasPrefix l (sg 0)
        . rw [h3] at c3
          rw [h2] at c2
          rw [h1] at c1
          rw [h0] at c0
          simp only [Bool.false_eq_true, if_false]
          go_enter Tryz.func106, Tryz.ntmps106
          go_wp2_with fail
          refine wp_loop_rounds 6 ?_
          rw [rounds_succ]
          go_wp2_with (go_at_call 125; (with_reducible refine Calls.mono (c3 _) ?_); rintro e w1 ⟨rfl, hw⟩; obtain rfl := hw.symm)
          rw [rounds_succ]
          go_wp2_with (go_at_call 125; (with_reducible refine Calls.mono (c2 _) ?_); rintro e w1 ⟨rfl, hw⟩; obtain rfl := hw.symm)
          rw [rounds_succ]
          go_wp2_with (go_at_call 125; (with_reducible refine Calls.mono (c1 _) ?_); rintro e w1 ⟨rfl, hw⟩; obtain rfl := hw.symm)
          rw [rounds_succ]
          go_wp2_with (go_at_call 125; (with_reducible refine Calls.mono (c0 _) ?_); rintro e w1 ⟨rfl, hw⟩; obtain rfl := hw.symm)
          rw [rounds_succ]
          go_wp2_with fail
          go_ret2
          exact ⟨rfl, rfl⟩
        . rw [h3] at c3
          rw [h2] at c2
          rw [h1] at c1
          rw [h0] at c0
          simp only [Bool.false_eq_true, if_false, if_true]
          generalize (⟨(Lib.trimPrefix l (sg 0)).toArray⟩ : ByteArray) = r at *
          go_enter Tryz.func106, Tryz.ntmps106
          go_wp2_with fail
          refine wp_loop_rounds 5 ?_
          rw [rounds_succ]
          go_wp2_with (go_at_call 125; (with_reducible refine Calls.mono (c3 _) ?_); rintro e w1 ⟨rfl, hw⟩; obtain rfl := hw.symm)
          rw [rounds_succ]
          go_wp2_with (go_at_call 125; (with_reducible refine Calls.mono (c2 _) ?_); rintro e w1 ⟨rfl, hw⟩; obtain rfl := hw.symm)
          rw [rounds_succ]
          go_wp2_with (go_at_call 125; (with_reducible refine Calls.mono (c1 _) ?_); rintro e w1 ⟨rfl, hw⟩; obtain rfl := hw.symm)
          rw [rounds_succ]
          go_wp2_with (go_at_call 125; (with_reducible refine Calls.mono (c0 _) ?_); rintro e w1 ⟨rfl, hw⟩; obtain rfl := hw.symm)
          go_ret2
          exact ⟨rfl, rfl⟩
      . rw [h3] at c3
        rw [h2] at c2
        rw [h1] at c1
        simp only [Bool.false_eq_true, if_false, if_true]
        generalize (⟨(Lib.trimPrefix l (sg 1)).toArray⟩ : ByteArray) = r at *
        go_enter Tryz.func106, Tryz.ntmps106
        go_wp2_with fail
        refine wp_loop_rounds 4 ?_
        rw [rounds_succ]
        go_wp2_with (go_at_call 125; (with_reducible refine Calls.mono (c3 _) ?_); rintro e w1 ⟨rfl, hw⟩; obtain rfl := hw.symm)
        rw [rounds_succ]
        go_wp2_with (go_at_call 125; (with_reducible refine Calls.mono (c2 _) ?_); rintro e w1 ⟨rfl, hw⟩; obtain rfl := hw.symm)
        rw [rounds_succ]
        go_wp2_with (go_at_call 125; (with_reducible refine Calls.mono (c1 _) ?_); rintro e w1 ⟨rfl, hw⟩; obtain rfl := hw.symm)
        go_ret2
        exact ⟨rfl, rfl⟩
    . rw [h3] at c3
      rw [h2] at c2
      simp only [Bool.false_eq_true, if_false, if_true]
      generalize (⟨(Lib.trimPrefix l (sg 2)).toArray⟩ : ByteArray) = r at *
      go_enter Tryz.func106, Tryz.ntmps106
      go_wp2_with fail
      refine wp_loop_rounds 3 ?_
      rw [rounds_succ]
      go_wp2_with (go_at_call 125; (with_reducible refine Calls.mono (c3 _) ?_); rintro e w1 ⟨rfl, hw⟩; obtain rfl := hw.symm)
      rw [rounds_succ]
      go_wp2_with (go_at_call 125; (with_reducible refine Calls.mono (c2 _) ?_); rintro e w1 ⟨rfl, hw⟩; obtain rfl := hw.symm)
      go_ret2
      exact ⟨rfl, rfl⟩
  . rw [h3] at c3
    simp only [if_true]
    generalize (⟨(Lib.trimPrefix l (sg 3)).toArray⟩ : ByteArray) = r at *
    go_enter Tryz.func106, Tryz.ntmps106
    go_wp2_with fail
    refine wp_loop_rounds 2 ?_
    rw [rounds_succ]
    go_wp2_with (go_at_call 125; (with_reducible refine Calls.mono (c3 _) ?_); rintro e w1 ⟨rfl, hw⟩; obtain rfl := hw.symm)
    go_ret2
    exact ⟨rfl, rfl⟩
def cx (b : UInt8) : Nat := if b = 88 ∨ b = 89 then 1 else 0
def cz (b : UInt8) : Nat := if b = 90 ∨ b = 89 then 1 else 0
def okB (b : UInt8) : Bool := decide (b = 73 ∨ b = 88 ∨ b = 89 ∨ b = 90)
def rd (f : UInt8 -> Nat) (l : List UInt8) : Nat -> Nat
  | 0 => 0
  | k + 1 => rd f l k + f (l.getD k 0) * 2 ^ k
theorem cx_le (b : UInt8) : cx b <= 1 := by unfold cx; split <;> omega
theorem cz_le (b : UInt8) : cz b <= 1 := by unfold cz; split <;> omega
theorem rd_lt {f : UInt8 -> Nat} (hf : ∀ b, f b <= 1) (l : List UInt8) : ∀ k, rd f l k < 2 ^ k
  | 0 => by simp [rd]
  | k + 1 => by
    have h1 := rd_lt hf l k
    have h2 := hf (l.getD k 0)
    rw [rd, Nat.pow_succ]
    have : f (l.getD k 0) * 2 ^ k <= 1 * 2 ^ k := Nat.mul_le_mul_right _ h2
    omega
theorem rd_or {f : UInt8 -> Nat} (hf : ∀ b, f b <= 1) (l : List UInt8) (k : Nat) : rd f l k ||| f (l.getD k 0) * 2 ^ k = rd f l (k + 1) := by
  have h1 := rd_lt hf l k
  have := Nat.two_pow_add_eq_or_of_lt h1 (f (l.getD k 0))
  rw [rd, Nat.or_comm, Nat.mul_comm, ← this, Nat.add_comm]
def parR (l : List UInt8) : P × Int := if (cutP l).1 < 0 ∨ 64 < (cutP l).2.length ∨ (cutP l).2.all okB = false then (oP, 130) else (⟨((cutP l).2.length : Int), rd cx (cutP l).2 (cutP l).2.length, rd cz (cutP l).2 (cutP l).2.length, (cutP l).1⟩, 0)
theorem index_ok (b : UInt8) : (okB b = false /\ Lib.indexByte [73, 88, 90, 89] b = -1) ∨ (okB b = true /\ ∃ u v : Nat, Lib.indexByte [73, 88, 90, 89] b = ((u + 2 * v : Nat) : Int) /\ cx b = u /\ cz b = v /\ u < 2 /\ v < 2) := by
  by_cases h1 : b = 73
  . subst h1; exact .inr ⟨by decide, 0, 0, by decide, by decide, by decide, by decide, by decide⟩
  . by_cases h2 : b = 88
    . subst h2; exact .inr ⟨by decide, 1, 0, by decide, by decide, by decide, by decide, by decide⟩
    . by_cases h3 : b = 90
      . subst h3; exact .inr ⟨by decide, 0, 1, by decide, by decide, by decide, by decide, by decide⟩
      . by_cases h4 : b = 89
        . subst h4; exact .inr ⟨by decide, 1, 1, by decide, by decide, by decide, by decide, by decide⟩
        . refine .inl ⟨?_, ?_⟩
          . unfold okB
            exact decide_eq_false (by rintro (h | h | h | h) <;> contradiction)
          . have e1 : ¬ 73 = b := fun e => h1 e.symm
            have e2 : ¬ 88 = b := fun e => h2 e.symm
            have e3 : ¬ 90 = b := fun e => h3 e.symm
            have e4 : ¬ 89 = b := fun e => h4 e.symm
            simp [Lib.indexByte, e1, e2, e3, e4]
theorem pParse_out (l : List UInt8) (hc : (cutP l).1 < 0 ∨ 64 < (cutP l).2.length) (w : World) (hT : Ts w) : Calls Tryz.prog 74 #[str l] w fun e w' => e = .returned (.tuple #[pV oP, .int .i64 130]) /\ Below w.heap.size w w' := by
  have c1 := fun W (h : Below w.heap.size w W) => pCut l W (hT.below h)
  have hR := At4.new w (.int .i64 0) (.int .u64 0) (.int .u64 0) (.int .i64 0)
  have HB := hide (bnew w (.cells #[.int .i64 0, .int .u64 0, .int .u64 0, .int .i64 0] 27))
  generalize (cutP l).1 = ph at *
  generalize (cutP l).2 = row at *
  have hsz := size_str row
  unfold oP pV
  unfold str at *
  simp only at *
  generalize (⟨l.toArray⟩ : ByteArray) = s at *
  generalize (⟨row.toArray⟩ : ByteArray) = r at *
  generalize row.length = m at *
  unfold At4 at hR
  by_cases h0 : ph < 0
  . have d0 : decide (ph < 0) = true := decide_eq_true h0
    go_enter Tryz.func74, Tryz.ntmps74
    go_wp2_with (first
      | (go_at_call 106; refine (c1 _ HB.out).mono ?_; rintro e w1 ⟨rfl, hw⟩; obtain rfl := hw.symm)
      | (refine wpList_store_row rfl _ _ _ rfl w.heap.size _ rfl rfl _ _ hR (by exact infoP) (by rfl) (allP _ _ _ _) ?_))
    refine bodyPost_ret (results_ct rfl _ _ w.heap.size _ _ _ _ rfl (setRow_heap _ _ _ _ _ _ hR) Tryz.underlying27 rfl (by exact infoP)) rfl ?_
    exact ⟨rfl, below_setRow HB.out (Nat.le_refl _) _⟩
  . have d0 : decide (ph < 0) = false := decide_eq_false h0
    have d1 : decide (64 < (m : Int)) = true := decide_eq_true (by omega)
    go_enter Tryz.func74, Tryz.ntmps74
    go_wp2_with (first
      | (go_at_call 106; refine (c1 _ HB.out).mono ?_; rintro e w1 ⟨rfl, hw⟩; obtain rfl := hw.symm)
      | (refine wpList_store_row rfl _ _ _ rfl w.heap.size _ rfl rfl _ _ hR (by exact infoP) (by rfl) (allP _ _ _ _) ?_))
    refine bodyPost_ret (results_ct rfl _ _ w.heap.size _ _ _ _ rfl (setRow_heap _ _ _ _ _ _ hR) Tryz.underlying27 rfl (by exact infoP)) rfl ?_
    exact ⟨rfl, below_setRow HB.out (Nat.le_refl _) _⟩
theorem At4.set1 {w : World} {g : Nat} {a b c d : Value} (h : At4 w g a b c d) (v : Value) : At4 (w.setCell ⟨g, 1, none⟩ v) g a v c d := by
  unfold At4 at *
  simp [World.setCell, Array.getElem?_modify, h]
theorem At4.set2 {w : World} {g : Nat} {a b c d : Value} (h : At4 w g a b c d) (v : Value) : At4 (w.setCell ⟨g, 2, none⟩ v) g a b v d := by
  unfold At4 at *
  simp [World.setCell, Array.getElem?_modify, h]
theorem pParse_in (l : List UInt8) (hc0 : 0 <= (cutP l).1) (hc1 : (cutP l).2.length <= 64) (w : World) (hT : Ts w) : Calls Tryz.prog 74 #[str l] w fun e w' => e = .returned (.tuple #[pV (parR l).1, .int .i64 (parR l).2]) /\ Below w.heap.size w w' := by
  have c1 := fun W (h : Below w.heap.size w W) => pCut l W (hT.below h)
  have HG := hide (show parR l = if (cutP l).2.all okB = false then (oP, 130) else (⟨((cutP l).2.length : Int), rd cx (cutP l).2 (cutP l).2.length, rd cz (cutP l).2 (cutP l).2.length, (cutP l).1⟩, 0) by
    unfold parR
    by_cases h : (cutP l).2.all okB = false
    . rw [if_pos (.inr (.inr h)), if_pos h]
    . rw [if_neg (fun g => g.elim (fun g => absurd g (by omega)) (fun g => g.elim (fun g => absurd g (by omega)) h)), if_neg h])
  generalize parR l = G at *
  generalize (cutP l).1 = ph at *
  generalize (cutP l).2 = row at *
  have hR0 := hide (At4.new w (.int .i64 0) (.int .u64 0) (.int .u64 0) (.int .i64 0))
  have HB := hide (bnew w (.cells #[.int .i64 0, .int .u64 0, .int .u64 0, .int .i64 0] 27))
  have hsz := size_str row
  have HIX := hide (fun (k : Nat) (b : UInt8) (h : row[k]? = some b) W => ix_at row k b h W)
  have HIB := hide (fun (b : UInt8) W => sIB [73, 88, 90, 89] b W)
  have d0 : decide (ph < 0) = false := decide_eq_false (by omega)
  have d1 : decide (64 < (row.length : Int)) = false := decide_eq_false (by omega)
  have HXL := hide (fun k => rd_lt cx_le row k)
  have HZL := hide (fun k => rd_lt cz_le row k)
  have HXO := hide (fun k => rd_or cx_le row k)
  have HZO := hide (fun k => rd_or cz_le row k)
  unfold str at *
  generalize (⟨l.toArray⟩ : ByteArray) = s at *
  generalize (⟨row.toArray⟩ : ByteArray) = r at *
  rw [show ([73, 88, 90, 89] : List UInt8).toArray = #[73, 88, 90, 89] from rfl] at HIB
  obtain ⟨N, hN⟩ : ∃ N, row.length = N := ⟨_, rfl⟩
  have HN := hide hN
  rw [hN] at hsz d1 HG hc1
  clear hN hT
  go_enter Tryz.func74, Tryz.ntmps74
  go_wp2_with fail
  refine (c1 _ HB.out).mono ?_
  rintro e w1 ⟨rfl, hw⟩
  subst hw
  have HB1 := hide (bkp HB.out (bnew _ (.cells #[.int .i64 (N : Int), .int .u64 0, .int .u64 0, .int .i64 ph] 27)))
  obtain ⟨G1, G2⟩ := At4.two w (.int .i64 0) (.int .u64 0) (.int .u64 0) (.int .i64 0) (.int .i64 (N : Int)) (.int .u64 0) (.int .u64 0) (.int .i64 ph)
  have HG1 := hide G1
  have HG2 := hide G2
  clear G1 G2 c1
  go_wp2_with fail
  generalize hw2 : (w.alloc (.cells #[.int .i64 0, .int .u64 0, .int .u64 0, .int .i64 0] 27)).alloc (.cells #[.int .i64 (N : Int), .int .u64 0, .int .u64 0, .int .i64 ph] 27) = w2 at *
  clear hw2
  go_loopw [28] (fun vi wr => ∃ k : Nat, vi = .int .i64 (k : Int) /\ k <= N /\ Hid (Below w.heap.size w wr /\ At4 wr w.heap.size (.int .i64 0) (.int .u64 0) (.int .u64 0) (.int .i64 0) /\ At4 wr (w.heap.size + 1) (.int .i64 (N : Int)) (.int .u64 (rd cx row k : Int)) (.int .u64 (rd cz row k : Int)) (.int .i64 ph) /\ ∀ j b, j < k -> row[j]? = some b -> okB b = true)) (fun vi _ => N - (Go.RowKit.intOf vi).toNat)
  case atStart => exact ⟨0, rfl, Nat.zero_le _, hide ⟨HB1.out, HG1.out, HG2.out, fun j b h => absurd h (by omega)⟩⟩
  case round =>
    obtain ⟨k, rfl, hk, HI⟩ := hrel
    obtain ⟨x0, x1, x2, x3, x4⟩ := HI.out.2.2.1.cells
    by_cases h : k < N
    . have hd : decide ((k : Int) < (N : Int)) = true := decide_eq_true (by omega)
      obtain ⟨b, hb⟩ : ∃ b, row[k]? = some b := ⟨_, List.getElem?_eq_getElem (by rw [HN.out]; exact h)⟩
      have hgd : row.getD k 0 = b := by rw [List.getD_eq_getElem?_getD, hb]; rfl
      have hix := fun W => HIX.out k b hb W
      have hib := fun W => HIB.out b W
      have HBB := hide hb
      have hxo := HXO.out k
      have hzo := HZO.out k
      rw [hgd] at hxo hzo
      have hxl := HXL.out k
      have hzl := HZL.out k
      rcases index_ok b with ⟨o1, o2⟩ | ⟨o1, u, v, o2, o3, o4, o5, o6⟩
      . have HE : Hid (G = (oP, 130)) := hide (by
          rw [HG.out, if_pos]
          rw [Bool.eq_false_iff]
          intro hall
          have := List.all_eq_true.1 hall b (List.mem_of_getElem? hb)
          rw [o1] at this
          cases this)
        rw [o2] at hib
        have hR := HI.out.2.1
        have HBi := hide HI.out.1
        unfold At4 at hR
        clear hgd hxo hzo hxl hzl o1 o2 HXL HZL HXO HZO HI hb
        go_wp2_with (first
          | (go_at_call 107; refine (hib _).mono ?_; rintro e w3 ⟨rfl, hw⟩; obtain rfl := hw.symm)
          | (refine wpList_store_row rfl _ _ _ rfl w.heap.size _ rfl rfl _ _ hR (by exact infoP) (by rfl) (allP _ _ _ _) ?_))
        refine bodyPost_ret (results_ct rfl _ _ w.heap.size _ _ _ _ rfl (setRow_heap _ _ _ _ _ _ hR) Tryz.underlying27 rfl (by exact infoP)) rfl ?_
        exact ⟨by rw [HE.out]; rfl, below_setRow HBi.out (Nat.le_refl _) _⟩
      . rw [o2] at hib
        rw [o3] at hxo
        rw [o4] at hzo
        have HOK := hide o1
        have hk64 : k < 64 := by omega
        have hk64' : (k : Int) < 64 := by omega
        have e64 : 2 ^ k <= 2 ^ 63 := Nat.pow_le_pow_right (by decide) (by omega)
        generalize hX : rd cx row k = X at *
        generalize hZ : rd cz row k = Z at *
        generalize hX1 : rd cx row (k + 1) = X1 at *
        generalize hZ1 : rd cz row (k + 1) = Z1 at *
        clear hgd o1 o2 o3 o4 HXL HZL HXO HZO hb
        obtain ⟨c, hcc⟩ : ∃ c : Int, ((u + 2 * v : Nat) : Int) = c := ⟨_, rfl⟩
        rw [hcc] at hib
        have a0 : decide (c < 0) = false := decide_eq_false (by omega)
        have a1 : bits .and .i64 c 1 = (u : Int) := by
          rw [← hcc]
          have hu : u = 0 ∨ u = 1 := by omega
          have hv : v = 0 ∨ v = 1 := by omega
          rcases hu with rfl | rfl <;> rcases hv with rfl | rfl <;> decide
        have a2 : IntKind.u64.wrap (u : Int) = (u : Int) := by rw [wrapU]; omega
        have a2' : IntKind.u64.wrap (v : Int) = (v : Int) := by rw [wrapU]; omega
        have a6 : c / 2 = (v : Int) := by omega
        have sh : ∀ t : Nat, t < 2 -> IntKind.u64.wrap ((t : Int) * 2 ^ k) = ((t * 2 ^ k : Nat) : Int) /\ t * 2 ^ k < 18446744073709551616 := fun t ht => by
          have e : (t : Int) * 2 ^ k = ((t * 2 ^ k : Nat) : Int) := by simp
          have hl : t * 2 ^ k <= 1 * 2 ^ 63 := Nat.mul_le_mul (by omega) e64
          rw [e, wrapU]
          generalize t * 2 ^ k = y at *
          exact ⟨by omega, by omega⟩
        obtain ⟨a3, l3⟩ := sh u o5
        obtain ⟨b3, m3⟩ := sh v o6
        have hX64 : X < 18446744073709551616 := Nat.lt_of_lt_of_le hxl (Nat.le_trans e64 (by decide))
        have hZ64 : Z < 18446744073709551616 := Nat.lt_of_lt_of_le hzl (Nat.le_trans e64 (by decide))
        have a4 : bits .or .u64 (X : Int) ((u * 2 ^ k : Nat) : Int) = (X1 : Int) := by rw [u64_or_nat X _ hX64 l3, hxo]
        have b4 : bits .or .u64 (Z : Int) ((v * 2 ^ k : Nat) : Int) = (Z1 : Int) := by rw [u64_or_nat Z _ hZ64 m3, hzo]
        generalize u * 2 ^ k = ku at *
        generalize v * 2 ^ k = kv at *
        clear sh l3 m3 hxo hzo hxl hzl hX64 hZ64 e64 hcc o5 o6
        have HC1 : Hid (∀ W, Below wr.heap.size wr W -> (W.cell? ⟨w.heap.size + 1, 0, none⟩ = some (.int .i64 (N : Int)) /\ W.cell? ⟨w.heap.size + 1, 1, none⟩ = some (.int .u64 (X : Int)) /\ W.cell? ⟨w.heap.size + 1, 2, none⟩ = some (.int .u64 (Z : Int)) /\ W.cell? ⟨w.heap.size + 1, 3, none⟩ = some (.int .i64 ph) /\ w.heap.size + 1 < W.heap.size) /\ W.frozen? ⟨w.heap.size + 1, 1, none⟩ = false /\ W.frozen? ⟨w.heap.size + 1, 2, none⟩ = false) := hide (fun W hW => ⟨(HI.out.2.2.1.below hW).cells, (HI.out.2.2.1.below hW).fz 1, (HI.out.2.2.1.below hW).fz 2⟩)
        have HT1 : Hid (∀ W, Below wr.heap.size wr W -> Below w.heap.size w (W.setCell ⟨w.heap.size + 1, 1, none⟩ (.int .u64 (X1 : Int))) /\ At4 (W.setCell ⟨w.heap.size + 1, 1, none⟩ (.int .u64 (X1 : Int))) w.heap.size (.int .i64 0) (.int .u64 0) (.int .u64 0) (.int .i64 0) /\ At4 (W.setCell ⟨w.heap.size + 1, 1, none⟩ (.int .u64 (X1 : Int))) (w.heap.size + 1) (.int .i64 (N : Int)) (.int .u64 (X1 : Int)) (.int .u64 (Z : Int)) (.int .i64 ph)) := hide (fun W hW => ⟨(bkp HI.out.1 hW).setCell (p := ⟨w.heap.size + 1, 1, none⟩) (show w.heap.size <= w.heap.size + 1 by omega) _, (HI.out.2.1.below hW).off (by omega), (HI.out.2.2.1.below hW).set1 _⟩)
        have HPA := hide HI.out.2.2.2
        have hst := store_i
        clear HI
        go_wp2_with (first
          | (go_at_call 107; refine (hib _).mono ?_; rintro e w3 ⟨rfl, hw⟩; obtain rfl := hw.symm))
        refine wp_region_quiet_last (C := fun W => Below wr.heap.size wr W) (by kernel_rfl) 9 rfl (by kernel_rfl) (by kernel_rfl) (bdrew (Below.refl _ _) 1) ?_
        simp only [List.take_succ_cons, List.take_zero]
        repeat
          refine wpQuiet_step (fun K hK => ?_)
          go_simp
          first
            | (refine hK _ ?_; clear hK K)
            | (apply Exists.intro
               refine ⟨fun W hW => ?_, hK _ ?_⟩
               first
                 | (obtain ⟨⟨d0, d1, d2, d3, d4⟩, d5, d6⟩ := HC1.out W hW; go_simp; rfl)
               clear hK K)
        refine wpQuiet_nil ?_
        intro W1 hW
        obtain ⟨⟨d0, d1, d2, d3, d4⟩, d5, d6⟩ := HC1.out W1 hW
        have HT1' := hide (HT1.out W1 hW)
        clear hW HC1 HT1
        clear x0 x1 x2 x3 x4
        go_wp2_with fail
        generalize W1.setCell ⟨w.heap.size + 1, 1, none⟩ (.int .u64 (X1 : Int)) = wm at *
        have HC2 : Hid (∀ W, Below wm.heap.size wm W -> (W.cell? ⟨w.heap.size + 1, 0, none⟩ = some (.int .i64 (N : Int)) /\ W.cell? ⟨w.heap.size + 1, 1, none⟩ = some (.int .u64 (X1 : Int)) /\ W.cell? ⟨w.heap.size + 1, 2, none⟩ = some (.int .u64 (Z : Int)) /\ W.cell? ⟨w.heap.size + 1, 3, none⟩ = some (.int .i64 ph) /\ w.heap.size + 1 < W.heap.size) /\ W.frozen? ⟨w.heap.size + 1, 1, none⟩ = false /\ W.frozen? ⟨w.heap.size + 1, 2, none⟩ = false) := hide (fun W hW => ⟨(HT1'.out.2.2.below hW).cells, (HT1'.out.2.2.below hW).fz 1, (HT1'.out.2.2.below hW).fz 2⟩)
        have HT2 : Hid (∀ W, Below wm.heap.size wm W -> Below w.heap.size w (W.setCell ⟨w.heap.size + 1, 2, none⟩ (.int .u64 (Z1 : Int))) /\ At4 (W.setCell ⟨w.heap.size + 1, 2, none⟩ (.int .u64 (Z1 : Int))) w.heap.size (.int .i64 0) (.int .u64 0) (.int .u64 0) (.int .i64 0) /\ At4 (W.setCell ⟨w.heap.size + 1, 2, none⟩ (.int .u64 (Z1 : Int))) (w.heap.size + 1) (.int .i64 (N : Int)) (.int .u64 (X1 : Int)) (.int .u64 (Z1 : Int)) (.int .i64 ph)) := hide (fun W hW => ⟨(bkp HT1'.out.1 hW).setCell (p := ⟨w.heap.size + 1, 2, none⟩) (show w.heap.size <= w.heap.size + 1 by omega) _, (HT1'.out.2.1.below hW).off (by omega), (HT1'.out.2.2.below hW).set2 _⟩)
        clear d0 d1 d2 d3 d4 d5 d6
        refine wp_region_quiet_last (C := fun W => Below wm.heap.size wm W) (by kernel_rfl) 9 rfl (by kernel_rfl) (by kernel_rfl) (bdrew (Below.refl _ _) 1) ?_
        simp only [List.take_succ_cons, List.take_zero]
        repeat
          refine wpQuiet_step (fun K hK => ?_)
          go_simp
          first
            | (refine hK _ ?_; clear hK K)
            | (apply Exists.intro
               refine ⟨fun W hW => ?_, hK _ ?_⟩
               first
                 | (obtain ⟨⟨d0, d1, d2, d3, d4⟩, d5, d6⟩ := HC2.out W hW; go_simp; rfl)
               clear hK K)
        refine wpQuiet_nil ?_
        intro W2 hW
        obtain ⟨⟨d0, d1, d2, d3, d4⟩, d5, d6⟩ := HC2.out W2 hW
        have HT2' := hide (HT2.out W2 hW)
        clear hW HC2 HT2
        go_wp2_with fail
        go_roundw
        case rel => exact ⟨k + 1, by go_num, by omega, hide ⟨HT2'.out.1, HT2'.out.2.1, by rw [hX1, hZ1]; exact HT2'.out.2.2, fun j b' hj hb' => by
          by_cases e : j = k
          . subst e
            rw [HBB.out] at hb'
            cases hb'
            exact HOK.out
          . exact HPA.out j b' (by omega) hb'⟩⟩
        case measure => simp [Go.RowKit.intOf]; omega
    . obtain rfl : k = N := by omega
      have hd : decide ((k : Int) < (k : Int)) = false := decide_eq_false (by omega)
      have HE : Hid (G = (⟨(k : Int), rd cx row k, rd cz row k, ph⟩, 0)) := hide (by
        rw [HG.out, if_neg]
        rw [Bool.not_eq_false]
        refine List.all_eq_true.2 (fun b hb => ?_)
        obtain ⟨j, hj⟩ := List.getElem?_of_mem hb
        have hlt : j < k := by have := (List.getElem?_eq_some_iff.1 hj).1; have := HN.out; omega
        exact HI.out.2.2.2 j b hlt hj)
      have hR := HI.out.2.1
      have HBi := hide HI.out.1
      unfold At4 at hR
      clear HI HG
      go_wp2_with (first
        | (refine wpList_store_row rfl _ _ _ rfl w.heap.size _ rfl rfl _ _ hR (by exact infoP) (by rfl) (allP _ _ _ _) ?_))
      refine bodyPost_ret (results_ct rfl _ _ w.heap.size _ _ _ _ rfl (setRow_heap _ _ _ _ _ _ hR) Tryz.underlying27 rfl (by exact infoP)) rfl ?_
      exact ⟨by rw [HE.out]; rfl, below_setRow HBi.out (Nat.le_refl _) _⟩
theorem pParse (l : List UInt8) (w : World) (hT : Ts w) : Calls Tryz.prog 74 #[str l] w fun e w' => e = .returned (.tuple #[pV (parR l).1, .int .i64 (parR l).2]) /\ Below w.heap.size w w' := by
  by_cases h : (cutP l).1 < 0 ∨ 64 < (cutP l).2.length
  . have e : parR l = (oP, 130) := by
      unfold parR
      rw [if_pos (h.elim .inl (fun h => .inr (.inl h)))]
    rw [e]
    exact pParse_out l h w hT
  . exact pParse_in l (by omega) (by omega) w hT
end Go.Proofs.YtoickolhekhgmaaGreatDoor.Pau
