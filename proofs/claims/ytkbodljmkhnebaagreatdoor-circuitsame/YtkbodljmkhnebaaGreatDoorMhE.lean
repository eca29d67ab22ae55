/- written with a condition (gen_bq.py). -/
import Derived.Test.YtkbodljmkhnebaaGreatDoorMhD
import Derived.Laws.OwnMore
/- written with a condition (gen_bq.py). -/
namespace Go.Proofs.YtkbodljmkhnebaaGreatDoor.Cir
open Go.RowKit Go.Shelf Go.Proofs.YtkbodljmkhnebaaGreatDoor.Oct Go.Proofs.YtkbodljmkhnebaaGreatDoor.Tok Go.Proofs.YtkbodljmkhnebaaGreatDoor.Gt

set_option maxRecDepth 100000 in
set_option maxHeartbeats 2000000 in
theorem cWritten_if (o : COp) (aq : Option Addr) (cq : Nat) (hl : o.qs.length ≤ 1000000) (hq : ∀ z ∈ o.qs, In64 z) (hb : In64 o.bit) (hc : In64 o.cond) (hw : In64 o.whn) (hk2 : o.kind ≠ 2) (hk3 : o.kind ≠ 3) (hk4 : o.kind ≠ 4) (hkc : o.cond ≠ -1) (w : World) (hT : Tb w) (h10 : T10 w) (hN : Ns w aq o.qs) :
    Calls Tryz.prog 60 #[opV o aq cq] w fun e w' => e = .returned (.string ⟨(wrP o).toArray⟩) ∧ Below w.heap.size w w' := by
  have hmk := fun W => make_st o.qs.length hl W
  have HQ := hide hq
  have HN := hide hN
  have H10 := hide h10
  have hal : (agP o.qs).length ≤ 26000000 := by
    have := join_le [44, 32] 24 (o.qs.map (elP 113)) (fun x hx => by
      obtain ⟨z, hz, rfl⟩ := List.mem_map.1 hx
      exact elP_len 113 z (hq z hz).1 (hq z hz).2)
    unfold agP
    rw [List.length_map] at this
    simp only [List.length_cons, List.length_nil] at this
    omega
  have cB := fun V (h : Below w.heap.size w V) => cElement 99 o.cond hc.1 hc.2 V (h10.below h)
  have cI := fun V (h : Below w.heap.size w V) => nItoa o.whn hw.1 hw.2 V (h10.below h)
  have cN := fun V (h : Below w.heap.size w V) => gName o.gate V (hT.below h)
  obtain ⟨R, hR⟩ : ∃ R, wrP o = R := ⟨_, rfl⟩
  rw [hR]
  unfold wrP at hR
  have HR := hide hR
  have hnl := nm_len o.gate
  have hbl := elP_len 99 o.cond hc.1 hc.2
  have hil : (Lib.itoa o.whn).length ≤ 21 := Lib.itoa_length_le o.whn hw.1 hw.2
  obtain ⟨kind, gate, qs, bit, cond, whn⟩ := o
  unfold opV
  simp only at *
  obtain ⟨n, hn⟩ : ∃ n, qs.length = n := ⟨_, rfl⟩
  have HL := hide hn
  rw [hn] at hmk hl ⊢
  clear hR hq hb hc hw hn hN h10
  go_enter Tryz.func60, Tryz.ntmps60
  go_wp2_with fail
  have hR0 := (rk_mk (w.alloc (.cells #[.int .i64 kind, .int .i64 gate, .slice aq n cq, .int .i64 bit, .int .i64 cond, .int .i64 whn] 40)) n 9 (.string ⟨#[]⟩)).congr (f' := elF qs 0) (fun j _ => by unfold elF; simp)
  rw [World.size_alloc] at hR0
  have hop : ((w.alloc (.cells #[.int .i64 kind, .int .i64 gate, .slice aq n cq, .int .i64 bit, .int .i64 cond, .int .i64 whn] 40)).alloc (.cells (madeCells #[.string ⟨#[]⟩] n) 9)).heap[w.heap.size]? = some (.cells #[.int .i64 kind, .int .i64 gate, .slice aq n cq, .int .i64 bit, .int .i64 cond, .int .i64 whn] 40 (0, 0)) := (Below.heap_alloc _ _ _ (by simp)).trans (heap_alloc_new _ _)
  have HR0 := hide hR0
  have HOP := hide hop
  clear hR0 hop
  go_loopw [4, 5, 15] (fun _ _ vi wr => ∃ i : Nat, vi = .int .i64 (i : Int) ∧ i ≤ n ∧ Rk wr (w.heap.size + 1) 9 n (elF qs i) ∧ wr.heap[w.heap.size]? = some (.cells #[.int .i64 kind, .int .i64 gate, .slice aq n cq, .int .i64 bit, .int .i64 cond, .int .i64 whn] 40 (0, 0)) ∧ Below w.heap.size w wr) (fun _ _ vi _ => n - (Go.RowKit.intOf vi).toNat)
  case atStart => exact ⟨0, rfl, Nat.zero_le _, HR0.out, HOP.out, (bnew _ _).trans ((bnew _ _).mono (by simp))⟩
  case round =>
    clear HR0 HOP
    obtain ⟨i, rfl, hi, hRk, hop, hbe⟩ := hrel
    have hlr := hRk.lt
    by_cases h : i < n
    · have hd : decide ((i : Int) < (n : Int)) = true := decide_eq_true (by omega)
      obtain ⟨z, hz⟩ : ∃ z, qs[i]? = some z := ⟨_, List.getElem?_eq_getElem (by rw [HL.out]; exact h)⟩
      obtain ⟨g, off, rfl, hcs⟩ := (HN.out.below hbe).resolve_left (fun e => by rw [e] at hz; simp at hz)
      have hcell := hcs i z hz
      have hin := HQ.out z (List.mem_of_getElem? hz)
      have c1 := cElement 113 z hin.1 hin.2 wr (H10.out.below hbe)
      have HSt : Hid (∀ V, Below wr.heap.size wr V → V.cell? ⟨w.heap.size + 1, i, none⟩ = some (.string ⟨#[]⟩) ∧ V.frozen? ⟨w.heap.size + 1, i, none⟩ = false ∧ Rk (V.setCell ⟨w.heap.size + 1, i, none⟩ (.string ⟨(elP 113 z).toArray⟩)) (w.heap.size + 1) 9 n (elF qs (i + 1)) ∧ (V.setCell ⟨w.heap.size + 1, i, none⟩ (.string ⟨(elP 113 z).toArray⟩)).heap[w.heap.size]? = some (.cells #[.int .i64 kind, .int .i64 gate, .slice (some ⟨g, off, none⟩) n cq, .int .i64 bit, .int .i64 cond, .int .i64 whn] 40 (0, 0)) ∧ Below w.heap.size w (V.setCell ⟨w.heap.size + 1, i, none⟩ (.string ⟨(elP 113 z).toArray⟩))) := hide (fun V hV => by
        have hr := hRk.below hV
        refine ⟨(hr.cell i h).trans (by unfold elF; rw [if_neg (by omega)]), hr.frozen i, ?_, ?_, (hbe.trans (hV.mono hbe.size)).setCell (p := ⟨w.heap.size + 1, i, none⟩) (by simp) _⟩
        · rw [← elF_succ qs i z hz]
          exact hr.set i _
        · exact (Below.heap_setCell _ _ _ _ (by simp)).trans ((hV.block _ (by omega)).trans hop))
      have hkk : (i : Int) < (n : Int) := by omega
      clear hcs hz hRk hop
      generalize (⟨(elP 113 z).toArray⟩ : ByteArray) = eb at *
      go_wp2_with (first | (go_at_call 59; refine c1.mono ?_; rintro e w2 ⟨rfl, hb2⟩; obtain ⟨v1, v2, v3, v4, v5⟩ := HSt.out w2 hb2; have hz2 := hb2.size))
      go_roundw
      case rel => exact ⟨i + 1, by go_num, by omega, v3, v4, v5⟩
      case measure => simp [Go.RowKit.intOf]; omega
    · obtain rfl : n = i := by omega
      have cJ := sJoinS [44, 32] (w.heap.size + 1) n (qs.map (elP 113)) wr (fun j x hx => by
        rw [List.getElem?_map] at hx
        obtain ⟨z, hz, rfl⟩ := Option.map_eq_some_iff.1 hx
        have hj : j < n := by rw [← HL.out]; exact (List.getElem?_eq_some_iff.1 hz).1
        refine (hRk.cell j hj).trans ?_
        unfold elF
        rw [if_pos hj]
        simp [List.getD, hz]) hlr (by rw [List.length_map, HL.out]; omega) (by rw [List.length_map, HL.out]; exact Nat.le_refl _) (show (agP qs).length ≤ _ by omega)
      rw [List.length_map, HL.out] at cJ
      have cJ' : Calls Tryz.prog 61 #[.slice (some ⟨w.heap.size + 1, 0, none⟩) n n, .string ⟨#[44, 32]⟩] wr fun e w' => e = .returned (.string ⟨(agP qs).toArray⟩) ∧ Below wr.heap.size wr w' := cJ
      clear cJ hRk
      have hza := ba_size (agP qs)
      have hzn := ba_size (rw' gate).nm
      have hzb := ba_size (elP 99 cond)
      have hzi := ba_size (Lib.itoa whn)
      have n2 : (kind == 2) = false := by simpa using hk2
      have n3 : (kind == 3) = false := by simpa using hk3
      have n4 : (kind == 4) = false := by simpa using hk4
      have n5 : (cond == -1) = false := by simpa using hkc
      have e1 : (⟨((rw' gate).nm).toArray⟩ : ByteArray) ++ (⟨#[32]⟩ : ByteArray) = (⟨((rw' gate).nm ++ [32]).toArray⟩ : ByteArray) := cat_str (rw' gate).nm [32]
      have e2 : (⟨((rw' gate).nm ++ [32]).toArray⟩ : ByteArray) ++ (⟨(agP qs).toArray⟩ : ByteArray) = (⟨((rw' gate).nm ++ [32] ++ agP qs).toArray⟩ : ByteArray) := cat_str _ _
      have e3 : (⟨#[105, 102, 32, 40]⟩ : ByteArray) ++ (⟨(elP 99 cond).toArray⟩ : ByteArray) = (⟨([105, 102, 32, 40] ++ elP 99 cond).toArray⟩ : ByteArray) := cat_str [105, 102, 32, 40] (elP 99 cond)
      have e4 : (⟨([105, 102, 32, 40] ++ elP 99 cond).toArray⟩ : ByteArray) ++ (⟨#[32, 61, 61, 32]⟩ : ByteArray) = (⟨([105, 102, 32, 40] ++ elP 99 cond ++ [32, 61, 61, 32]).toArray⟩ : ByteArray) := cat_str _ [32, 61, 61, 32]
      have e5 : (⟨([105, 102, 32, 40] ++ elP 99 cond ++ [32, 61, 61, 32]).toArray⟩ : ByteArray) ++ (⟨(Lib.itoa whn).toArray⟩ : ByteArray) = (⟨([105, 102, 32, 40] ++ elP 99 cond ++ [32, 61, 61, 32] ++ Lib.itoa whn).toArray⟩ : ByteArray) := cat_str _ _
      have e6 : (⟨([105, 102, 32, 40] ++ elP 99 cond ++ [32, 61, 61, 32] ++ Lib.itoa whn).toArray⟩ : ByteArray) ++ (⟨#[41, 32]⟩ : ByteArray) = (⟨([105, 102, 32, 40] ++ elP 99 cond ++ [32, 61, 61, 32] ++ Lib.itoa whn ++ [41, 32]).toArray⟩ : ByteArray) := cat_str _ [41, 32]
      have e7 : (⟨([105, 102, 32, 40] ++ elP 99 cond ++ [32, 61, 61, 32] ++ Lib.itoa whn ++ [41, 32]).toArray⟩ : ByteArray) ++ (⟨((rw' gate).nm ++ [32] ++ agP qs).toArray⟩ : ByteArray) = ⟨R.toArray⟩ := (cat_str _ _).trans (by rw [← HR.out, if_neg hk2, if_neg hk3, if_neg hk4, if_neg hkc])
      have s0 := ba_size ((rw' gate).nm ++ [32])
      have s1 := ba_size ((rw' gate).nm ++ [32] ++ agP qs)
      have s2 := ba_size ([105, 102, 32, 40] ++ elP 99 cond)
      have s3 := ba_size ([105, 102, 32, 40] ++ elP 99 cond ++ [32, 61, 61, 32])
      have s4 := ba_size ([105, 102, 32, 40] ++ elP 99 cond ++ [32, 61, 61, 32] ++ Lib.itoa whn)
      have s5 := ba_size ([105, 102, 32, 40] ++ elP 99 cond ++ [32, 61, 61, 32] ++ Lib.itoa whn ++ [41, 32])
      simp only [List.length_append, List.length_cons, List.length_nil] at s0 s1 s2 s3 s4 s5
      generalize (⟨([105, 102, 32, 40] ++ elP 99 cond ++ [32, 61, 61, 32] ++ Lib.itoa whn ++ [41, 32]).toArray⟩ : ByteArray) = c4 at *
      generalize (⟨([105, 102, 32, 40] ++ elP 99 cond ++ [32, 61, 61, 32] ++ Lib.itoa whn).toArray⟩ : ByteArray) = c3 at *
      generalize (⟨([105, 102, 32, 40] ++ elP 99 cond ++ [32, 61, 61, 32]).toArray⟩ : ByteArray) = c2 at *
      generalize (⟨([105, 102, 32, 40] ++ elP 99 cond).toArray⟩ : ByteArray) = c1 at *
      generalize (⟨((rw' gate).nm ++ [32] ++ agP qs).toArray⟩ : ByteArray) = b2 at *
      generalize (⟨((rw' gate).nm ++ [32]).toArray⟩ : ByteArray) = b1 at *
      generalize (⟨((rw' gate).nm).toArray⟩ : ByteArray) = nb at *
      generalize (⟨(agP qs).toArray⟩ : ByteArray) = ab at *
      generalize (⟨(elP 99 cond).toArray⟩ : ByteArray) = bb at *
      generalize (⟨(Lib.itoa whn).toArray⟩ : ByteArray) = ib at *
      generalize hrb : (⟨R.toArray⟩ : ByteArray) = rb at e7
      have HRB := hide hrb
      clear hrb
      go_wp2_with (first
        | (go_at_call 61; refine cJ'.mono ?_; rintro e w2 ⟨rfl, hb2⟩; have hop2 := (hb2.block w.heap.size (by omega)).trans hop; obtain ⟨y0, y1, y2, y3, y4, y5, y6⟩ := op6_cells hop2; have hw2 := Below.trans hbe (hb2.mono hbe.size))
        | (go_at_call 108; refine (cN _ hw2).mono ?_; rintro e w3 ⟨rfl, hb3⟩; have hop3 := (hb3.block w.heap.size (by have := hb2.size; omega)).trans hop2; obtain ⟨u0, u1, u2, u3, u4, u5, u6⟩ := op6_cells hop3))
      have hbN := hw2.trans (hb3.mono hw2.size)
      have HOP3 := hide hop3
      clear hop3 hop2 hop y0 y1 y2 y3 y4 y5 y6 u0 u1 u2 u3 u4 u5 u6 cJ' cN
      refine wp_region_quiet (C := fun W => Below w3.heap.size w3 W) (by kernel_rfl) (by kernel_rfl) (below_drewN (Below.refl _ _) 1) ?_
      repeat
        refine wpQuiet_step (fun K hK => ?_)
        go_simp
        first
          | (refine hK _ ?_; clear hK K)
          | (apply Exists.intro
             refine ⟨fun W hW => ?_, hK _ ?_⟩
             first
               | (rw [if_neg (by omega)]; exact ⟨rfl, rfl⟩)
               | (refine (cB _ (hbN.trans (hW.mono hbN.size))).mono ?_; rintro e x ⟨rfl, q⟩; exact ⟨rfl, hW.trans (q.mono hW.size)⟩)
               | (refine (cI _ (hbN.trans (hW.mono hbN.size))).mono ?_; rintro e x ⟨rfl, q⟩; exact ⟨rfl, hW.trans (q.mono hW.size)⟩)
               | (obtain ⟨u0, u1, u2, u3, u4, u5, u6⟩ := op6_cells ((hW.block _ (by have := (Array.getElem?_eq_some_iff.1 HOP3.out).1; omega)).trans HOP3.out); go_simp; rfl)
             clear hK K)
      refine wpQuiet_nil ?_
      intro W hW
      have hbF := hbN.trans (hW.mono hbN.size)
      go_wp2_with fail
      go_ret
      exact ⟨by rw [HRB.out]; rfl, hbF⟩
end Go.Proofs.YtkbodljmkhnebaaGreatDoor.Cir
/- Print (gen_br.py). -/
namespace Go.Proofs.YtkbodljmkhnebaaGreatDoor.Cir
open Go.RowKit Go.Shelf Go.Proofs.YtkbodljmkhnebaaGreatDoor.Oct Go.Proofs.YtkbodljmkhnebaaGreatDoor.Tok Go.Proofs.YtkbodljmkhnebaaGreatDoor.Gt

def sV (x : List UInt8) : Value := .string ⟨x.toArray⟩
/-- A circuit's lines without their ends. -/
def hdP (q b : Int) : List (List UInt8) := [[79, 80, 69, 78, 81, 65, 83, 77, 32, 50, 46, 48], [105, 110, 99, 108, 117, 100, 101, 32, 34, 113, 101, 108, 105, 98, 49, 46, 105, 110, 99, 34]] ++ (if 0 < q then [[113, 114, 101, 103, 32] ++ elP 113 q] else []) ++ (if 0 < b then [[99, 114, 101, 103, 32] ++ elP 99 b] else [])
def lnP (c : Circ) : List (List UInt8) := hdP c.q c.b ++ c.ops.map wrP
def prP (c : Circ) : List UInt8 := Lib.join (lnP c) [59, 10] ++ [59, 10]
theorem wi_in {x n : Int} (h : wiP x n = true) : 0 ≤ x ∧ x < n := by
  unfold wiP at h
  simpa using h
theorem badI_may (q b : Int) : ∀ (i : Nat) (l : List COp), badI q b i l = none → ∀ o ∈ l, mayP q b o = true
  | _, [], _, o, ho => by cases ho
  | i, a :: r, h, o, ho => by
    rw [badI] at h
    split at h
    · rename_i ha
      rcases List.mem_cons.1 ho with rfl | ho
      · exact ha
      · exact badI_may q b (i + 1) r h o ho
    · cases h
theorem chkC_ok {c : Circ} (h : (chkC c).2 = 0) : 0 ≤ c.q ∧ c.q ≤ 64 ∧ 0 ≤ c.b ∧ c.b ≤ 64 ∧ c.ops.length ≤ 4096 ∧ ∀ o ∈ c.ops, mayP c.q c.b o = true := by
  unfold chkC at h
  split at h
  · cases h
  · rename_i hn
    simp only [Bool.or_eq_true, Bool.not_eq_eq_eq_not, Bool.not_true, decide_eq_true_eq, not_or, Bool.not_eq_false] at hn
    unfold cntP at hn
    rw [Bool.and_eq_true] at hn
    have h1 := wi_in hn.1.1
    have h2 := wi_in hn.1.2
    split at h
    · cases h
    · rename_i hb
      exact ⟨h1.1, by omega, h2.1, by omega, by omega, badI_may _ _ _ _ hb⟩
theorem nodup_len : ∀ (n : Nat) (l : List Int), l.Nodup → (∀ x ∈ l, 0 ≤ x ∧ x < (n : Int)) → l.length ≤ n
  | 0, [], _, _ => Nat.le_refl _
  | 0, a :: r, _, h => by have := h a (by simp); omega
  | n + 1, l, hd, h => by
    have h1 := nodup_len n (l.erase (n : Int)) (hd.erase _) (fun x hx => by
      have hm := (hd.mem_erase_iff).1 hx
      have := h x hm.2
      have hne := hm.1
      omega)
    have h2 := List.length_erase (a := (n : Int)) (l := l)
    split at h2 <;> omega
theorem mxG_bd (l : List Int) (n : Int) : ∀ m, ¬ n ≤ mxG l m → ∀ j, j ≤ m → l.getD j 0 < n
  | 0, h, j, hj => by
    obtain rfl : j = 0 := by omega
    rw [mxG] at h
    omega
  | m + 1, h, j, hj => by
    rw [mxG] at h
    split at h
    · rename_i hlt
      by_cases e : j = m + 1
      · subst e
        omega
      · have := mxG_bd l (mxG l m + 1) m (by omega) j (by omega)
        omega
    · rename_i hge
      by_cases e : j = m + 1
      · subst e
        omega
      · exact mxG_bd l n m h j (by omega)
theorem apG_pos (l : List Int) : ∀ m i, apG l m i = true → ∀ j, i ≤ j → j < i + m → 0 ≤ l.getD j 0
  | 0, i, _, j, h1, h2 => by omega
  | m + 1, i, h, j, h1, h2 => by
    rw [apG, Bool.and_eq_true, Bool.and_eq_true] at h
    by_cases e : j = i
    · subst e
      exact of_decide_eq_true h.1.1
    · exact apG_pos l m (i + 1) h.2 j (by omega) (by omega)
theorem rw_q3 (g : Int) : (rw' g).q ≤ 3 := by
  unfold rw'
  split
  · rename_i h
    have key : ∀ j : Fin 21, (tab.getD j.1 r0).q ≤ 3 := by decide +kernel
    have := key ⟨g.toNat, by omega⟩
    simpa using this
  · decide
theorem chk_ok64 (k : Int) (l : List Int) (n : Int) (h0 : 0 ≤ n) (hn : n ≤ 64) (h : chkP k l n = 0) : l.length ≤ 64 ∧ ∀ z ∈ l, In64 z := by
  unfold chkP at h
  split at h
  · cases h
  · split at h
    · cases h
    · rename_i ha
      split at h
      · cases h
      · rename_i hm
        have ha' : apP (rw' k).q l = true := by simpa using ha
        unfold apP at ha'
        rw [Bool.and_eq_true, decide_eq_true_eq] at ha'
        have hq := rw_q3 k
        refine ⟨by omega, fun z hz => ?_⟩
        obtain ⟨j, hj, rfl⟩ := List.getElem_of_mem hz
        have e : l[j] = l.getD j 0 := by simp [List.getD, List.getElem?_eq_getElem hj]
        have a1 := apG_pos l l.length 0 ha'.2 j (by omega) (by omega)
        have a2 := mxG_bd l n _ hm j (by omega)
        rw [e]
        unfold In64
        omega
theorem may_in {q b : Int} {o : COp} (hq0 : 0 ≤ q) (hq : q ≤ 64) (hb : b ≤ 64) (h : mayP q b o = true) : o.qs.length ≤ 64 ∧ (∀ z ∈ o.qs, In64 z) ∧ In64 o.bit ∧ In64 o.cond ∧ In64 o.whn := by
  have hap : apaP o.qs q = true → o.qs.length ≤ 64 ∧ ∀ z ∈ o.qs, In64 z := fun h => by
    unfold apaP at h
    rw [Bool.and_eq_true, decide_eq_true_eq, List.all_eq_true] at h
    refine ⟨nodup_len 64 _ h.1 (fun x hx => ?_), fun z hz => ?_⟩
    · have := wi_in (h.2 x hx); omega
    · have := wi_in (h.2 z hz); unfold In64; omega
  have hfr : freeP o = true → In64 o.cond ∧ In64 o.whn := fun h => by
    unfold freeP at h
    simp only [Bool.and_eq_true, decide_eq_true_eq] at h
    unfold In64
    omega
  have hng : noGP o = true → In64 o.cond ∧ In64 o.whn := fun h => by
    unfold noGP at h
    rw [Bool.and_eq_true] at h
    exact hfr h.2
  have z64 : In64 0 := by unfold In64; omega
  unfold mayP at h
  split at h
  · simp only [Bool.and_eq_true, decide_eq_true_eq, Bool.or_eq_true] at h
    obtain ⟨⟨h1, h2⟩, h3⟩ := h
    have h4 : o.qs.length ≤ 64 ∧ ∀ z ∈ o.qs, In64 z := by
      have := chk_ok64 o.gate o.qs q hq0 hq h1
      exact this
    refine ⟨h4.1, h4.2, by rw [h2]; exact z64, ?_⟩
    rcases h3 with h3 | h3
    · exact hfr h3
    · unfold askP at h3
      rw [Bool.and_eq_true] at h3
      have a1 := wi_in h3.1
      have a2 := wi_in h3.2
      unfold In64
      omega
  · split at h
    · simp only [Bool.and_eq_true] at h
      have h4 := hap h.1.2
      have h5 := wi_in h.2
      exact ⟨h4.1, h4.2, by unfold In64; omega, hng h.1.1.1⟩
    · split at h
      · simp only [Bool.and_eq_true, decide_eq_true_eq] at h
        have h4 := hap h.1.2
        exact ⟨h4.1, h4.2, by rw [h.2]; exact z64, hng h.1.1.1⟩
      · split at h
        · simp only [Bool.and_eq_true, decide_eq_true_eq] at h
          have h4 := hap h.1.2
          exact ⟨h4.1, h4.2, by rw [h.2]; exact z64, hng h.1.1.1⟩
        · cases h
theorem own_room {w : World} {B e size n g c : Nat} {xs : List Value} (h : w.ownsRow B e size (.slice (some ⟨g, 0, none⟩) n c) n xs) : n ≤ c := by
  rcases h.2 with ⟨h', _⟩ | ⟨g', cap', cur, h', _, _, hnc, _⟩
  · simp at h'
  · simp only [Value.slice.injEq, Option.some.injEq, Addr.mk.injEq, and_true, true_and] at h'
    obtain ⟨rfl, rfl⟩ := h'
    exact hnc
theorem ag_len (qs : List Int) (h : ∀ z ∈ qs, In64 z) : (agP qs).length ≤ qs.length * 26 := by
  have := join_le [44, 32] 24 (qs.map (elP 113)) (fun x hx => by
    obtain ⟨z, hz, rfl⟩ := List.mem_map.1 hx
    exact elP_len 113 z (h z hz).1 (h z hz).2)
  unfold agP
  simpa using this
theorem wr_len (o : COp) (h1 : o.qs.length ≤ 64) (h2 : ∀ z ∈ o.qs, In64 z) (h3 : In64 o.bit) (h4 : In64 o.cond) (h5 : In64 o.whn) : (wrP o).length ≤ 2000 := by
  have a := ag_len o.qs h2
  have b := elP_len 99 o.bit h3.1 h3.2
  have c := elP_len 99 o.cond h4.1 h4.2
  have d : (Lib.itoa o.whn).length ≤ 21 := Lib.itoa_length_le o.whn h5.1 h5.2
  have e := nm_len o.gate
  unfold wrP
  (repeat' split) <;> simp only [List.length_append, List.length_cons, List.length_nil] <;> omega
theorem hd_len (q b : Int) (h1 : In64 q) (h2 : In64 b) : (hdP q b).length ≤ 4 ∧ ∀ x ∈ hdP q b, x.length ≤ 2000 := by
  have a := elP_len 113 q h1.1 h1.2
  have c := elP_len 99 b h2.1 h2.2
  unfold hdP
  refine ⟨by (repeat' split) <;> simp, fun x hx => ?_⟩
  simp only [List.mem_append, List.mem_cons, List.not_mem_nil, or_false] at hx
  rcases hx with ((rfl | rfl) | hx) | hx
  · simp
  · simp
  · split at hx
    · simp only [List.mem_cons, List.not_mem_nil, or_false] at hx
      subst hx
      simp only [List.length_append, List.length_cons, List.length_nil]
      omega
    · cases hx
  · split at hx
    · simp only [List.mem_cons, List.not_mem_nil, or_false] at hx
      subst hx
      simp only [List.length_append, List.length_cons, List.length_nil]
      omega
    · cases hx
theorem cWr (o : COp) (aq : Option Addr) (cq : Nat) (h1 : o.qs.length ≤ 64) (h2 : ∀ z ∈ o.qs, In64 z) (h3 : In64 o.bit) (h4 : In64 o.cond) (h5 : In64 o.whn) (w : World) (hT : Tb w) (h10 : T10 w) (hN : Ns w aq o.qs) :
    Calls Tryz.prog 60 #[opV o aq cq] w fun e w' => e = .returned (.string ⟨(wrP o).toArray⟩) ∧ Below w.heap.size w w' := by
  by_cases k2 : o.kind = 2
  · exact cWritten o aq cq (by omega) h2 h3 h4 h5 (.inl k2) w hT h10 hN
  by_cases k3 : o.kind = 3
  · exact cWritten o aq cq (by omega) h2 h3 h4 h5 (.inr (.inl k3)) w hT h10 hN
  by_cases k4 : o.kind = 4
  · exact cWritten o aq cq (by omega) h2 h3 h4 h5 (.inr (.inr (.inl k4))) w hT h10 hN
  by_cases kc : o.cond = -1
  · exact cWritten o aq cq (by omega) h2 h3 h4 h5 (.inr (.inr (.inr kc))) w hT h10 hN
  · exact cWritten_if o aq cq (by omega) h2 h3 h4 h5 k2 k3 k4 kc w hT h10 hN
end Go.Proofs.YtkbodljmkhnebaaGreatDoor.Cir
/- Print, as it is walked (gen_bs.py). -/
namespace Go.Proofs.YtkbodljmkhnebaaGreatDoor.Cir
open Go.RowKit Go.Shelf Go.Proofs.YtkbodljmkhnebaaGreatDoor.Oct Go.Proofs.YtkbodljmkhnebaaGreatDoor.Tok Go.Proofs.YtkbodljmkhnebaaGreatDoor.Gt

set_option maxRecDepth 100000 in
set_option maxHeartbeats 1000000 in
theorem cPrint_no (c : Circ) (ao : Option Addr) (k : Nat) (hk : (chkC c).2 ≠ 0) (w : World) (hT : Tb w) (hC : Ci w c ao k) : Calls Tryz.prog 27 #[cV c ao k] w fun e w' => e = .returned (.tuple #[.string ⟨#[]⟩, .int .i64 (chkC c).2]) ∧ Below w.heap.size w w' := by
  have c1 := fun V (h : Below w.heap.size w V) => cCheck c ao k V (hT.below h) (hC.below h)
  obtain ⟨q, b, ops⟩ := c
  unfold cV at *
  simp only at *
  generalize (chkC ⟨q, b, ops⟩).1 = z1 at *
  generalize (chkC ⟨q, b, ops⟩).2 = z2 at *
  have hz : (z2 == 0) = false := by simpa using hk
  generalize ops.length = n at *
  clear hC hk hT
  go_enter Tryz.func27, Tryz.ntmps27
  go_wp2_with (first | (go_at_call 9; refine (c1 _ (bnew _ _)).mono ?_; rintro e w1 ⟨rfl, hb1⟩))
  go_ret2
  exact ⟨rfl, (bnew _ _).trans (hb1.mono (by simp))⟩
set_option maxRecDepth 100000 in
set_option maxHeartbeats 4000000 in
theorem cPrint (c : Circ) (ao : Option Addr) (k : Nat) (hk : (chkC c).2 = 0) (w : World) (hT : Tb w) (h10 : T10 w) (hC : Ci w c ao k) : Calls Tryz.prog 27 #[cV c ao k] w fun e w' => e = .returned (.tuple #[.string ⟨(prP c).toArray⟩, .int .i64 0]) ∧ Below w.heap.size w w' := by
  obtain ⟨q0, q1, b0, b1, hl, hmay⟩ := chkC_ok hk
  have c1 := fun V (h : Below w.heap.size w V) => cCheck c ao k V (hT.below h) (hC.below h)
  rw [hk] at c1
  have cQ := fun V (h : Below w.heap.size w V) => cElement 113 c.q (by omega) (by omega) V (h10.below h)
  have cB := fun V (h : Below w.heap.size w V) => cElement 99 c.b (by omega) (by omega) V (h10.below h)
  have HW := hide (fun V (h : Below w.heap.size w V) (o : COp) (ho : o ∈ c.ops) (aq : Option Addr) (cq : Nat) (hn : Ns V aq o.qs) => by
    have hm := may_in q0 q1 b1 (hmay o ho)
    exact cWr o aq cq hm.1 hm.2.1 hm.2.2.1 hm.2.2.2.1 hm.2.2.2.2 V (hT.below h) (h10.below h) hn)
  have hhd := hd_len c.q c.b (by unfold In64; omega) (by unfold In64; omega)
  have hln : (Lib.join (lnP c) [59, 10]).length ≤ 10000000 := by
    have := join_le [59, 10] 2000 (lnP c) (fun x hx => by
      unfold lnP at hx
      rcases List.mem_append.1 hx with hx | hx
      · exact hhd.2 x hx
      · obtain ⟨o, ho, rfl⟩ := List.mem_map.1 hx
        have hm := may_in q0 q1 b1 (hmay o ho)
        exact wr_len o hm.1 hm.2.1 hm.2.2.1 hm.2.2.2.1 hm.2.2.2.2)
    have h2 : (lnP c).length ≤ 4100 := by unfold lnP; rw [List.length_append, List.length_map]; have := hhd.1; omega
    simp only [List.length_cons, List.length_nil] at this
    omega
  have HHD := hide hhd.1
  have eqb := cat_str [113, 114, 101, 103, 32] (elP 113 c.q)
  have ebb := cat_str [99, 114, 101, 103, 32] (elP 99 c.b)
  have zq := ba_size (elP 113 c.q)
  have zb := ba_size (elP 99 c.b)
  have lq := elP_len 113 c.q (by omega) (by omega)
  have lb := elP_len 99 c.b (by omega) (by omega)
  have HC := hide hC
  obtain ⟨R, hR⟩ : ∃ R, prP c = R := ⟨_, rfl⟩
  rw [hR]
  have HR := hide hR
  obtain ⟨n, hn⟩ : ∃ n, c.ops.length = n := ⟨_, rfl⟩
  have HL := hide hn
  obtain ⟨q, b, ops⟩ := c
  have HD : Hid (∀ x, hdP q b = x → lnP ⟨q, b, ops⟩ = x ++ ops.map wrP) := hide (fun x hx => by rw [← hx]; rfl)
  unfold cV at *
  simp only at *
  rw [hn] at hl c1 ⊢
  generalize (chkC ⟨q, b, ops⟩).1 = z1 at *
  clear hC hk hmay hT h10 hhd hR hn q1 b1
  have hW1 : ∀ w1, Below (w.alloc (.cells #[.int .i64 q, .int .i64 b, .slice ao n k] 24)).heap.size (w.alloc (.cells #[.int .i64 q, .int .i64 b, .slice ao n k] 24)) w1 → w1.heap[w.heap.size]? = some (.cells #[.int .i64 q, .int .i64 b, .slice ao n k] 24 (0, 0)) ∧ w1.cell? ⟨w.heap.size, 0, none⟩ = some (.int .i64 q) ∧ w1.cell? ⟨w.heap.size, 1, none⟩ = some (.int .i64 b) ∧ w1.cell? ⟨w.heap.size, 2, none⟩ = some (.slice ao n k) ∧ w.heap.size < w1.heap.size ∧ Below w.heap.size w w1 := fun w1 hb1 => by
    have hk1 := (hb1.block w.heap.size (by simp)).trans (heap_alloc_new w (.cells #[.int .i64 q, .int .i64 b, .slice ao n k] 24))
    obtain ⟨x0, x1, x2, x3⟩ := def_cells hk1
    exact ⟨hk1, x0, x1, x2, x3, (bnew _ _).trans (hb1.mono (by simp))⟩
  have HW1 := hide hW1
  clear hW1
  by_cases hq : 0 < q
  · by_cases hb : 0 < b
    · have dq : decide (q > 0) = true := decide_eq_true (by omega)
      have dq2 : decide (0 < q) = true := decide_eq_true (by omega)
      have db : decide (b > 0) = true := decide_eq_true (by omega)
      have db2 : decide (0 < b) = true := decide_eq_true (by omega)
      have hhd2 : hdP q b = [[79, 80, 69, 78, 81, 65, 83, 77, 32, 50, 46, 48], [105, 110, 99, 108, 117, 100, 101, 32, 34, 113, 101, 108, 105, 98, 49, 46, 105, 110, 99, 34], [113, 114, 101, 103, 32] ++ elP 113 q, [99, 114, 101, 103, 32] ++ elP 99 b] := by unfold hdP; rw [if_pos (by omega), if_pos (by omega)]; rfl
      clear hq hb q0 b0
      generalize hqb : (⟨([113, 114, 101, 103, 32] ++ elP 113 q).toArray⟩ : ByteArray) = qb at eqb
      have HQB := hide hqb
      clear hqb
      generalize (⟨(elP 113 q).toArray⟩ : ByteArray) = qe at cQ eqb zq
      generalize hbb : (⟨([99, 114, 101, 103, 32] ++ elP 99 b).toArray⟩ : ByteArray) = bb at ebb
      have HBB := hide hbb
      clear hbb
      generalize (⟨(elP 99 b).toArray⟩ : ByteArray) = be at cB ebb zb
      go_enter Tryz.func27, Tryz.ntmps27
      go_wp2_with (first
        | (go_at_call 9; refine (c1 _ (bnew _ _)).mono ?_; rintro e w1 ⟨rfl, hb1⟩; obtain ⟨hk1, x0, x1, x2, x3, hbw1⟩ := HW1.out w1 hb1; have hown1 := World.ownsRow_lit (base := w.heap.size + 1) (e := 9) (size := 1) w1 #[.string ⟨#[79, 80, 69, 78, 81, 65, 83, 77, 32, 50, 46, 48]⟩, .string ⟨#[105, 110, 99, 108, 117, 100, 101, 32, 34, 113, 101, 108, 105, 98, 49, 46, 105, 110, 99, 34]⟩] 2 (by omega) (by unfold maxLen; omega) rfl; have hbL := hbw1.trans ((bnew w1 (.cells #[.string ⟨#[79, 80, 69, 78, 81, 65, 83, 77, 32, 50, 46, 48]⟩, .string ⟨#[105, 110, 99, 108, 117, 100, 101, 32, 34, 113, 101, 108, 105, 98, 49, 46, 105, 110, 99, 34]⟩] 9)).mono hbw1.size); have hkL := (Below.heap_alloc w1 (.cells #[.string ⟨#[79, 80, 69, 78, 81, 65, 83, 77, 32, 50, 46, 48]⟩, .string ⟨#[105, 110, 99, 108, 117, 100, 101, 32, 34, 113, 101, 108, 105, 98, 49, 46, 105, 110, 99, 34]⟩] 9) _ x3).trans hk1)
        | (go_at_call_of 59 (Value.string ⟨#[113]⟩); refine (cQ _ hbL).mono ?_; rintro e v2 ⟨rfl, hv2⟩; have hownv2 := own_below hown1 hv2; have hbv2 := hbL.trans (hv2.mono hbL.size); have hsv2 : w.heap.size + 1 ≤ v2.heap.size := (by have := hbv2.size; have := own_lt hownv2 _ rfl; omega); have hkv2 := (hv2.block w.heap.size (Array.getElem?_eq_some_iff.1 hkL).1).trans hkL; obtain ⟨xa2, xb2, xc2, xd2⟩ := def_cells hkv2)
        | (at_builtin; refine wpList_pushV rfl _ _ 58 rfl 9 Tryz.underlying58 _ 16 infoStr8 rfl (w.heap.size + 1) (some ⟨w1.heap.size, 0, none⟩) 2 2 [.string ⟨#[79, 80, 69, 78, 81, 65, 83, 77, 32, 50, 46, 48]⟩, .string ⟨#[105, 110, 99, 108, 117, 100, 101, 32, 34, 113, 101, 108, 105, 98, 49, 46, 105, 110, 99, 34]⟩] rfl hownv2 (.string qb) rfl rfl (by omega) (by omega) hsv2 ?_; intro g2 p2 u2 hownu2 hgr2 hat2; have hbu2 : Below w.heap.size w u2 := hbv2.grown hgr2 (by omega) (fun q hq => by have := (hownv2.lt q (by rw [ob_eq]; exact hq)).1; omega); have hku2 := (hgr2.block w.heap.size (Array.getElem?_eq_some_iff.1 hkv2).1 (fun e => by have := (own_lt hownv2 _ e.symm).1; omega)).trans hkv2; obtain ⟨ya2, yb2, yc2, yd2⟩ := def_cells hku2)
        | (go_at_call_of 59 (Value.string ⟨#[99]⟩); refine (cB _ hbu2).mono ?_; rintro e v3 ⟨rfl, hv3⟩; have hownv3 := own_below hownu2 hv3; have hbv3 := hbu2.trans (hv3.mono hbu2.size); have hsv3 : w.heap.size + 1 ≤ v3.heap.size := (by have := hbv3.size; have := own_lt hownv3 _ rfl; omega); have hkv3 := (hv3.block w.heap.size (Array.getElem?_eq_some_iff.1 hku2).1).trans hku2; obtain ⟨xa3, xb3, xc3, xd3⟩ := def_cells hkv3)
        | (at_builtin; refine wpList_pushV rfl _ _ 58 rfl 9 Tryz.underlying58 _ 16 infoStr8 rfl (w.heap.size + 1) (some ⟨g2, 0, none⟩) 3 p2 ([.string ⟨#[79, 80, 69, 78, 81, 65, 83, 77, 32, 50, 46, 48]⟩, .string ⟨#[105, 110, 99, 108, 117, 100, 101, 32, 34, 113, 101, 108, 105, 98, 49, 46, 105, 110, 99, 34]⟩] ++ [(.string qb)]) rfl hownv3 (.string bb) rfl rfl (by omega) (by omega) hsv3 ?_; intro g3 p3 u3 hownu3 hgr3 hat3; have hbu3 : Below w.heap.size w u3 := hbv3.grown hgr3 (by omega) (fun q hq => by have := (hownv3.lt q (by rw [ob_eq]; exact hq)).1; omega); have hku3 := (hgr3.block w.heap.size (Array.getElem?_eq_some_iff.1 hkv3).1 (fun e => by have := (own_lt hownv3 _ e.symm).1; omega)).trans hkv3; obtain ⟨ya3, yb3, yc3, yd3⟩ := def_cells hku3))
      rw [← HQB.out] at hownu3
      rw [← HBB.out] at hownu3
      have HO := hide hownu3
      have HB := hide hbu3
      have HHd := hide hhd2
      clear hownu3
      go_loopw [6, 41] (fun vl vi wr => ∃ (i L g cap : Nat) (X : List Value), vl = .slice (some ⟨g, 0, none⟩) L cap ∧ vi = .int .i64 (i : Int) ∧ i ≤ n ∧ L ≤ 4 + i ∧ Hid (L = 4 + i) ∧ Hid (X = (hdP q b ++ (ops.take i).map wrP).map sV) ∧ wr.ownsRow (w.heap.size + 1) 9 1 (.slice (some ⟨g, 0, none⟩) L cap) L X ∧ Below w.heap.size w wr) (fun _ vi _ => n - (Go.RowKit.intOf vi).toNat)
      case atStart => exact ⟨0, 4, _, _, _, rfl, rfl, Nat.zero_le _, by omega, hide rfl, hide rfl, (by rw [HHd.out]; exact HO.out), HB.out⟩
      case round =>
        obtain ⟨i, L, g, cap, X, rfl, rfl, hi, hL, HLL, HX, hown, hbe⟩ := hrel
        clear HO HB
        by_cases h : i < n
        · have hd : decide ((i : Int) < (n : Int)) = true := decide_eq_true (by omega)
          obtain ⟨o, ho⟩ : ∃ o, ops[i]? = some o := ⟨_, List.getElem?_eq_getElem (by rw [HL.out]; exact h)⟩
          have hom := List.mem_of_getElem? ho
          obtain ⟨go, off, aq, cq, rfl, hgl, hoc⟩ := (HC.out.below hbe).ops.at (show (⟨q, b, ops⟩ : Circ).ops[i]? = some o from ho)
          have k0 := hoc.kind
          have k1 := hoc.gate
          have k2 := hoc.qs
          have k3 := hoc.bit
          have k4 := hoc.cond
          have k5 := hoc.whn
          have hM2 := HW.out (wr.alloc (.cells #[.int .i64 o.kind, .int .i64 o.gate, .slice aq o.qs.length cq, .int .i64 o.bit, .int .i64 o.cond, .int .i64 o.whn] 40)) (hbe.trans ((bnew _ _).mono hbe.size)) o hom aq cq (hoc.ns.below (bnew _ _))
          have HXs : Hid (X ++ [sV (wrP o)] = (hdP q b ++ (ops.take (i + 1)).map wrP).map sV) := hide (by
            rw [HX.out, List.take_add_one, ho]
            simp)
          have hzr := hbe.size
          unfold opV at hM2
          unfold sV at HXs
          clear hoc ho hom
          generalize (⟨(wrP o).toArray⟩ : ByteArray) = wb at *
          obtain ⟨kind, gate, qs, bit, cond, whn⟩ := o
          simp only at *
          generalize qs.length = qn at *
          have HM2 := hide hM2
          clear hM2
          have hbc := (bnew wr (.cells #[.int .i64 kind, .int .i64 gate, .slice aq qn cq, .int .i64 bit, .int .i64 cond, .int .i64 whn] 40))
          have hown1 := own_below hown hbc
          have hbe1 := hbe.trans (hbc.mono hbe.size)
          clear hown
          generalize hWA : (wr.alloc (.cells #[.int .i64 kind, .int .i64 gate, .slice aq qn cq, .int .i64 bit, .int .i64 cond, .int .i64 whn] 40)) = wA at hown1 hbe1
          have HWA := hide hWA
          clear hWA hbc
          go_wp2_with (first
            | (go_at_call 60; refine HM2.out.mono ?_; rintro e w2 ⟨rfl, hb2⟩; rw [HWA.out] at hb2; have hown2 := own_below hown1 hb2; have hbe2 := hbe1.trans (hb2.mono hbe1.size); have hs2 : w.heap.size + 1 ≤ w2.heap.size := (by have := own_lt hown2 g rfl; omega))
            | (at_builtin; refine wpList_pushV rfl _ _ 58 rfl 9 Tryz.underlying58 _ 16 infoStr8 rfl (w.heap.size + 1) (some ⟨g, 0, none⟩) L cap X rfl hown2 (.string wb) rfl rfl (by omega) (by omega) hs2 ?_; intro g3 c3 w3 hown3 hgr3 hat3; have hb3 : Below w.heap.size w w3 := hbe2.grown hgr3 (by omega) (fun q hq => by have := (hown2.lt q (by rw [ob_eq]; exact hq)).1; omega); clear hgr3 hat3))
          go_roundw
          case rel => exact ⟨i + 1, L + 1, g3, c3, X ++ [.string wb], rfl, by go_num, by omega, by omega, hide (by have := HLL.out; omega), HXs, hown3, hb3⟩
          case measure => simp [Go.RowKit.intOf]; omega
        · obtain rfl : n = i := by omega
          have hLn : (lnP ⟨q, b, ops⟩).length = L := by
            rw [HLL.out, HD.out _ HHd.out, List.length_append, List.length_map, HL.out]
            rfl
          have cJ := sJoinS [59, 10] g cap (lnP ⟨q, b, ops⟩) wr (fun j x hx => by
            refine (own_at hown j (sV x) ?_)
            rw [HX.out, List.take_of_length_le (by rw [HL.out]; exact Nat.le_refl _)]
            show (List.map sV (lnP ⟨q, b, ops⟩))[j]? = _
            rw [List.getElem?_map, hx]
            rfl) (own_lt hown g rfl).2 (by rw [hLn]; omega) (by rw [hLn]; exact own_room hown) (by omega)
          rw [hLn] at cJ
          have e1 : (⟨(Lib.join (lnP ⟨q, b, ops⟩) [59, 10]).toArray⟩ : ByteArray) ++ ⟨#[59, 10]⟩ = ⟨R.toArray⟩ := (cat_str _ [59, 10]).trans (by rw [← HR.out]; rfl)
          have cJ' : Calls Tryz.prog 61 #[.slice (some ⟨g, 0, none⟩) L cap, .string ⟨#[59, 10]⟩] wr fun e w' => e = .returned (.string ⟨(Lib.join (lnP ⟨q, b, ops⟩) [59, 10]).toArray⟩) ∧ Below wr.heap.size wr w' := cJ
          have s1 := ba_size (Lib.join (lnP ⟨q, b, ops⟩) [59, 10])
          clear cJ hLn
          generalize (⟨(Lib.join (lnP ⟨q, b, ops⟩) [59, 10]).toArray⟩ : ByteArray) = jb at *
          generalize hrb : (⟨R.toArray⟩ : ByteArray) = rb at e1
          have HRB := hide hrb
          clear hrb hown
          go_wp2_with (first | (go_at_call 61; refine cJ'.mono ?_; rintro e w2 ⟨rfl, hb2⟩))
          go_ret2
          exact ⟨by rw [HRB.out]; rfl, hbe.trans (hb2.mono hbe.size)⟩
    · have dq : decide (q > 0) = true := decide_eq_true (by omega)
      have dq2 : decide (0 < q) = true := decide_eq_true (by omega)
      have db : decide (b > 0) = false := decide_eq_false (by omega)
      have db2 : decide (0 < b) = false := decide_eq_false (by omega)
      have hhd2 : hdP q b = [[79, 80, 69, 78, 81, 65, 83, 77, 32, 50, 46, 48], [105, 110, 99, 108, 117, 100, 101, 32, 34, 113, 101, 108, 105, 98, 49, 46, 105, 110, 99, 34], [113, 114, 101, 103, 32] ++ elP 113 q] := by unfold hdP; rw [if_pos (by omega), if_neg (by omega)]; rfl
      clear hq hb q0 b0
      generalize hqb : (⟨([113, 114, 101, 103, 32] ++ elP 113 q).toArray⟩ : ByteArray) = qb at eqb
      have HQB := hide hqb
      clear hqb
      generalize (⟨(elP 113 q).toArray⟩ : ByteArray) = qe at cQ eqb zq
      clear ebb zb cB
      go_enter Tryz.func27, Tryz.ntmps27
      go_wp2_with (first
        | (go_at_call 9; refine (c1 _ (bnew _ _)).mono ?_; rintro e w1 ⟨rfl, hb1⟩; obtain ⟨hk1, x0, x1, x2, x3, hbw1⟩ := HW1.out w1 hb1; have hown1 := World.ownsRow_lit (base := w.heap.size + 1) (e := 9) (size := 1) w1 #[.string ⟨#[79, 80, 69, 78, 81, 65, 83, 77, 32, 50, 46, 48]⟩, .string ⟨#[105, 110, 99, 108, 117, 100, 101, 32, 34, 113, 101, 108, 105, 98, 49, 46, 105, 110, 99, 34]⟩] 2 (by omega) (by unfold maxLen; omega) rfl; have hbL := hbw1.trans ((bnew w1 (.cells #[.string ⟨#[79, 80, 69, 78, 81, 65, 83, 77, 32, 50, 46, 48]⟩, .string ⟨#[105, 110, 99, 108, 117, 100, 101, 32, 34, 113, 101, 108, 105, 98, 49, 46, 105, 110, 99, 34]⟩] 9)).mono hbw1.size); have hkL := (Below.heap_alloc w1 (.cells #[.string ⟨#[79, 80, 69, 78, 81, 65, 83, 77, 32, 50, 46, 48]⟩, .string ⟨#[105, 110, 99, 108, 117, 100, 101, 32, 34, 113, 101, 108, 105, 98, 49, 46, 105, 110, 99, 34]⟩] 9) _ x3).trans hk1)
        | (go_at_call_of 59 (Value.string ⟨#[113]⟩); refine (cQ _ hbL).mono ?_; rintro e v2 ⟨rfl, hv2⟩; have hownv2 := own_below hown1 hv2; have hbv2 := hbL.trans (hv2.mono hbL.size); have hsv2 : w.heap.size + 1 ≤ v2.heap.size := (by have := hbv2.size; have := own_lt hownv2 _ rfl; omega); have hkv2 := (hv2.block w.heap.size (Array.getElem?_eq_some_iff.1 hkL).1).trans hkL; obtain ⟨xa2, xb2, xc2, xd2⟩ := def_cells hkv2)
        | (at_builtin; refine wpList_pushV rfl _ _ 58 rfl 9 Tryz.underlying58 _ 16 infoStr8 rfl (w.heap.size + 1) (some ⟨w1.heap.size, 0, none⟩) 2 2 [.string ⟨#[79, 80, 69, 78, 81, 65, 83, 77, 32, 50, 46, 48]⟩, .string ⟨#[105, 110, 99, 108, 117, 100, 101, 32, 34, 113, 101, 108, 105, 98, 49, 46, 105, 110, 99, 34]⟩] rfl hownv2 (.string qb) rfl rfl (by omega) (by omega) hsv2 ?_; intro g2 p2 u2 hownu2 hgr2 hat2; have hbu2 : Below w.heap.size w u2 := hbv2.grown hgr2 (by omega) (fun q hq => by have := (hownv2.lt q (by rw [ob_eq]; exact hq)).1; omega); have hku2 := (hgr2.block w.heap.size (Array.getElem?_eq_some_iff.1 hkv2).1 (fun e => by have := (own_lt hownv2 _ e.symm).1; omega)).trans hkv2; obtain ⟨ya2, yb2, yc2, yd2⟩ := def_cells hku2))
      rw [← HQB.out] at hownu2
      have HO := hide hownu2
      have HB := hide hbu2
      have HHd := hide hhd2
      clear hownu2
      go_loopw [6, 41] (fun vl vi wr => ∃ (i L g cap : Nat) (X : List Value), vl = .slice (some ⟨g, 0, none⟩) L cap ∧ vi = .int .i64 (i : Int) ∧ i ≤ n ∧ L ≤ 4 + i ∧ Hid (L = 3 + i) ∧ Hid (X = (hdP q b ++ (ops.take i).map wrP).map sV) ∧ wr.ownsRow (w.heap.size + 1) 9 1 (.slice (some ⟨g, 0, none⟩) L cap) L X ∧ Below w.heap.size w wr) (fun _ vi _ => n - (Go.RowKit.intOf vi).toNat)
      case atStart => exact ⟨0, 3, _, _, _, rfl, rfl, Nat.zero_le _, by omega, hide rfl, hide rfl, (by rw [HHd.out]; exact HO.out), HB.out⟩
      case round =>
        obtain ⟨i, L, g, cap, X, rfl, rfl, hi, hL, HLL, HX, hown, hbe⟩ := hrel
        clear HO HB
        by_cases h : i < n
        · have hd : decide ((i : Int) < (n : Int)) = true := decide_eq_true (by omega)
          obtain ⟨o, ho⟩ : ∃ o, ops[i]? = some o := ⟨_, List.getElem?_eq_getElem (by rw [HL.out]; exact h)⟩
          have hom := List.mem_of_getElem? ho
          obtain ⟨go, off, aq, cq, rfl, hgl, hoc⟩ := (HC.out.below hbe).ops.at (show (⟨q, b, ops⟩ : Circ).ops[i]? = some o from ho)
          have k0 := hoc.kind
          have k1 := hoc.gate
          have k2 := hoc.qs
          have k3 := hoc.bit
          have k4 := hoc.cond
          have k5 := hoc.whn
          have hM2 := HW.out (wr.alloc (.cells #[.int .i64 o.kind, .int .i64 o.gate, .slice aq o.qs.length cq, .int .i64 o.bit, .int .i64 o.cond, .int .i64 o.whn] 40)) (hbe.trans ((bnew _ _).mono hbe.size)) o hom aq cq (hoc.ns.below (bnew _ _))
          have HXs : Hid (X ++ [sV (wrP o)] = (hdP q b ++ (ops.take (i + 1)).map wrP).map sV) := hide (by
            rw [HX.out, List.take_add_one, ho]
            simp)
          have hzr := hbe.size
          unfold opV at hM2
          unfold sV at HXs
          clear hoc ho hom
          generalize (⟨(wrP o).toArray⟩ : ByteArray) = wb at *
          obtain ⟨kind, gate, qs, bit, cond, whn⟩ := o
          simp only at *
          generalize qs.length = qn at *
          have HM2 := hide hM2
          clear hM2
          have hbc := (bnew wr (.cells #[.int .i64 kind, .int .i64 gate, .slice aq qn cq, .int .i64 bit, .int .i64 cond, .int .i64 whn] 40))
          have hown1 := own_below hown hbc
          have hbe1 := hbe.trans (hbc.mono hbe.size)
          clear hown
          generalize hWA : (wr.alloc (.cells #[.int .i64 kind, .int .i64 gate, .slice aq qn cq, .int .i64 bit, .int .i64 cond, .int .i64 whn] 40)) = wA at hown1 hbe1
          have HWA := hide hWA
          clear hWA hbc
          go_wp2_with (first
            | (go_at_call 60; refine HM2.out.mono ?_; rintro e w2 ⟨rfl, hb2⟩; rw [HWA.out] at hb2; have hown2 := own_below hown1 hb2; have hbe2 := hbe1.trans (hb2.mono hbe1.size); have hs2 : w.heap.size + 1 ≤ w2.heap.size := (by have := own_lt hown2 g rfl; omega))
            | (at_builtin; refine wpList_pushV rfl _ _ 58 rfl 9 Tryz.underlying58 _ 16 infoStr8 rfl (w.heap.size + 1) (some ⟨g, 0, none⟩) L cap X rfl hown2 (.string wb) rfl rfl (by omega) (by omega) hs2 ?_; intro g3 c3 w3 hown3 hgr3 hat3; have hb3 : Below w.heap.size w w3 := hbe2.grown hgr3 (by omega) (fun q hq => by have := (hown2.lt q (by rw [ob_eq]; exact hq)).1; omega); clear hgr3 hat3))
          go_roundw
          case rel => exact ⟨i + 1, L + 1, g3, c3, X ++ [.string wb], rfl, by go_num, by omega, by omega, hide (by have := HLL.out; omega), HXs, hown3, hb3⟩
          case measure => simp [Go.RowKit.intOf]; omega
        · obtain rfl : n = i := by omega
          have hLn : (lnP ⟨q, b, ops⟩).length = L := by
            rw [HLL.out, HD.out _ HHd.out, List.length_append, List.length_map, HL.out]
            rfl
          have cJ := sJoinS [59, 10] g cap (lnP ⟨q, b, ops⟩) wr (fun j x hx => by
            refine (own_at hown j (sV x) ?_)
            rw [HX.out, List.take_of_length_le (by rw [HL.out]; exact Nat.le_refl _)]
            show (List.map sV (lnP ⟨q, b, ops⟩))[j]? = _
            rw [List.getElem?_map, hx]
            rfl) (own_lt hown g rfl).2 (by rw [hLn]; omega) (by rw [hLn]; exact own_room hown) (by omega)
          rw [hLn] at cJ
          have e1 : (⟨(Lib.join (lnP ⟨q, b, ops⟩) [59, 10]).toArray⟩ : ByteArray) ++ ⟨#[59, 10]⟩ = ⟨R.toArray⟩ := (cat_str _ [59, 10]).trans (by rw [← HR.out]; rfl)
          have cJ' : Calls Tryz.prog 61 #[.slice (some ⟨g, 0, none⟩) L cap, .string ⟨#[59, 10]⟩] wr fun e w' => e = .returned (.string ⟨(Lib.join (lnP ⟨q, b, ops⟩) [59, 10]).toArray⟩) ∧ Below wr.heap.size wr w' := cJ
          have s1 := ba_size (Lib.join (lnP ⟨q, b, ops⟩) [59, 10])
          clear cJ hLn
          generalize (⟨(Lib.join (lnP ⟨q, b, ops⟩) [59, 10]).toArray⟩ : ByteArray) = jb at *
          generalize hrb : (⟨R.toArray⟩ : ByteArray) = rb at e1
          have HRB := hide hrb
          clear hrb hown
          go_wp2_with (first | (go_at_call 61; refine cJ'.mono ?_; rintro e w2 ⟨rfl, hb2⟩))
          go_ret2
          exact ⟨by rw [HRB.out]; rfl, hbe.trans (hb2.mono hbe.size)⟩
  · by_cases hb : 0 < b
    · have dq : decide (q > 0) = false := decide_eq_false (by omega)
      have dq2 : decide (0 < q) = false := decide_eq_false (by omega)
      have db : decide (b > 0) = true := decide_eq_true (by omega)
      have db2 : decide (0 < b) = true := decide_eq_true (by omega)
      have hhd2 : hdP q b = [[79, 80, 69, 78, 81, 65, 83, 77, 32, 50, 46, 48], [105, 110, 99, 108, 117, 100, 101, 32, 34, 113, 101, 108, 105, 98, 49, 46, 105, 110, 99, 34], [99, 114, 101, 103, 32] ++ elP 99 b] := by unfold hdP; rw [if_neg (by omega), if_pos (by omega)]; rfl
      clear hq hb q0 b0
      clear eqb zq cQ
      generalize hbb : (⟨([99, 114, 101, 103, 32] ++ elP 99 b).toArray⟩ : ByteArray) = bb at ebb
      have HBB := hide hbb
      clear hbb
      generalize (⟨(elP 99 b).toArray⟩ : ByteArray) = be at cB ebb zb
      go_enter Tryz.func27, Tryz.ntmps27
      go_wp2_with (first
        | (go_at_call 9; refine (c1 _ (bnew _ _)).mono ?_; rintro e w1 ⟨rfl, hb1⟩; obtain ⟨hk1, x0, x1, x2, x3, hbw1⟩ := HW1.out w1 hb1; have hown1 := World.ownsRow_lit (base := w.heap.size + 1) (e := 9) (size := 1) w1 #[.string ⟨#[79, 80, 69, 78, 81, 65, 83, 77, 32, 50, 46, 48]⟩, .string ⟨#[105, 110, 99, 108, 117, 100, 101, 32, 34, 113, 101, 108, 105, 98, 49, 46, 105, 110, 99, 34]⟩] 2 (by omega) (by unfold maxLen; omega) rfl; have hbL := hbw1.trans ((bnew w1 (.cells #[.string ⟨#[79, 80, 69, 78, 81, 65, 83, 77, 32, 50, 46, 48]⟩, .string ⟨#[105, 110, 99, 108, 117, 100, 101, 32, 34, 113, 101, 108, 105, 98, 49, 46, 105, 110, 99, 34]⟩] 9)).mono hbw1.size); have hkL := (Below.heap_alloc w1 (.cells #[.string ⟨#[79, 80, 69, 78, 81, 65, 83, 77, 32, 50, 46, 48]⟩, .string ⟨#[105, 110, 99, 108, 117, 100, 101, 32, 34, 113, 101, 108, 105, 98, 49, 46, 105, 110, 99, 34]⟩] 9) _ x3).trans hk1)
        | (go_at_call_of 59 (Value.string ⟨#[99]⟩); refine (cB _ hbL).mono ?_; rintro e v2 ⟨rfl, hv2⟩; have hownv2 := own_below hown1 hv2; have hbv2 := hbL.trans (hv2.mono hbL.size); have hsv2 : w.heap.size + 1 ≤ v2.heap.size := (by have := hbv2.size; have := own_lt hownv2 _ rfl; omega); have hkv2 := (hv2.block w.heap.size (Array.getElem?_eq_some_iff.1 hkL).1).trans hkL; obtain ⟨xa2, xb2, xc2, xd2⟩ := def_cells hkv2)
        | (at_builtin; refine wpList_pushV rfl _ _ 58 rfl 9 Tryz.underlying58 _ 16 infoStr8 rfl (w.heap.size + 1) (some ⟨w1.heap.size, 0, none⟩) 2 2 [.string ⟨#[79, 80, 69, 78, 81, 65, 83, 77, 32, 50, 46, 48]⟩, .string ⟨#[105, 110, 99, 108, 117, 100, 101, 32, 34, 113, 101, 108, 105, 98, 49, 46, 105, 110, 99, 34]⟩] rfl hownv2 (.string bb) rfl rfl (by omega) (by omega) hsv2 ?_; intro g2 p2 u2 hownu2 hgr2 hat2; have hbu2 : Below w.heap.size w u2 := hbv2.grown hgr2 (by omega) (fun q hq => by have := (hownv2.lt q (by rw [ob_eq]; exact hq)).1; omega); have hku2 := (hgr2.block w.heap.size (Array.getElem?_eq_some_iff.1 hkv2).1 (fun e => by have := (own_lt hownv2 _ e.symm).1; omega)).trans hkv2; obtain ⟨ya2, yb2, yc2, yd2⟩ := def_cells hku2))
      rw [← HBB.out] at hownu2
      have HO := hide hownu2
      have HB := hide hbu2
      have HHd := hide hhd2
      clear hownu2
      go_loopw [6, 41] (fun vl vi wr => ∃ (i L g cap : Nat) (X : List Value), vl = .slice (some ⟨g, 0, none⟩) L cap ∧ vi = .int .i64 (i : Int) ∧ i ≤ n ∧ L ≤ 4 + i ∧ Hid (L = 3 + i) ∧ Hid (X = (hdP q b ++ (ops.take i).map wrP).map sV) ∧ wr.ownsRow (w.heap.size + 1) 9 1 (.slice (some ⟨g, 0, none⟩) L cap) L X ∧ Below w.heap.size w wr) (fun _ vi _ => n - (Go.RowKit.intOf vi).toNat)
      case atStart => exact ⟨0, 3, _, _, _, rfl, rfl, Nat.zero_le _, by omega, hide rfl, hide rfl, (by rw [HHd.out]; exact HO.out), HB.out⟩
      case round =>
        obtain ⟨i, L, g, cap, X, rfl, rfl, hi, hL, HLL, HX, hown, hbe⟩ := hrel
        clear HO HB
        by_cases h : i < n
        · have hd : decide ((i : Int) < (n : Int)) = true := decide_eq_true (by omega)
          obtain ⟨o, ho⟩ : ∃ o, ops[i]? = some o := ⟨_, List.getElem?_eq_getElem (by rw [HL.out]; exact h)⟩
          have hom := List.mem_of_getElem? ho
          obtain ⟨go, off, aq, cq, rfl, hgl, hoc⟩ := (HC.out.below hbe).ops.at (show (⟨q, b, ops⟩ : Circ).ops[i]? = some o from ho)
          have k0 := hoc.kind
          have k1 := hoc.gate
          have k2 := hoc.qs
          have k3 := hoc.bit
          have k4 := hoc.cond
          have k5 := hoc.whn
          have hM2 := HW.out (wr.alloc (.cells #[.int .i64 o.kind, .int .i64 o.gate, .slice aq o.qs.length cq, .int .i64 o.bit, .int .i64 o.cond, .int .i64 o.whn] 40)) (hbe.trans ((bnew _ _).mono hbe.size)) o hom aq cq (hoc.ns.below (bnew _ _))
          have HXs : Hid (X ++ [sV (wrP o)] = (hdP q b ++ (ops.take (i + 1)).map wrP).map sV) := hide (by
            rw [HX.out, List.take_add_one, ho]
            simp)
          have hzr := hbe.size
          unfold opV at hM2
          unfold sV at HXs
          clear hoc ho hom
          generalize (⟨(wrP o).toArray⟩ : ByteArray) = wb at *
          obtain ⟨kind, gate, qs, bit, cond, whn⟩ := o
          simp only at *
          generalize qs.length = qn at *
          have HM2 := hide hM2
          clear hM2
          have hbc := (bnew wr (.cells #[.int .i64 kind, .int .i64 gate, .slice aq qn cq, .int .i64 bit, .int .i64 cond, .int .i64 whn] 40))
          have hown1 := own_below hown hbc
          have hbe1 := hbe.trans (hbc.mono hbe.size)
          clear hown
          generalize hWA : (wr.alloc (.cells #[.int .i64 kind, .int .i64 gate, .slice aq qn cq, .int .i64 bit, .int .i64 cond, .int .i64 whn] 40)) = wA at hown1 hbe1
          have HWA := hide hWA
          clear hWA hbc
          go_wp2_with (first
            | (go_at_call 60; refine HM2.out.mono ?_; rintro e w2 ⟨rfl, hb2⟩; rw [HWA.out] at hb2; have hown2 := own_below hown1 hb2; have hbe2 := hbe1.trans (hb2.mono hbe1.size); have hs2 : w.heap.size + 1 ≤ w2.heap.size := (by have := own_lt hown2 g rfl; omega))
            | (at_builtin; refine wpList_pushV rfl _ _ 58 rfl 9 Tryz.underlying58 _ 16 infoStr8 rfl (w.heap.size + 1) (some ⟨g, 0, none⟩) L cap X rfl hown2 (.string wb) rfl rfl (by omega) (by omega) hs2 ?_; intro g3 c3 w3 hown3 hgr3 hat3; have hb3 : Below w.heap.size w w3 := hbe2.grown hgr3 (by omega) (fun q hq => by have := (hown2.lt q (by rw [ob_eq]; exact hq)).1; omega); clear hgr3 hat3))
          go_roundw
          case rel => exact ⟨i + 1, L + 1, g3, c3, X ++ [.string wb], rfl, by go_num, by omega, by omega, hide (by have := HLL.out; omega), HXs, hown3, hb3⟩
          case measure => simp [Go.RowKit.intOf]; omega
        · obtain rfl : n = i := by omega
          have hLn : (lnP ⟨q, b, ops⟩).length = L := by
            rw [HLL.out, HD.out _ HHd.out, List.length_append, List.length_map, HL.out]
            rfl
          have cJ := sJoinS [59, 10] g cap (lnP ⟨q, b, ops⟩) wr (fun j x hx => by
            refine (own_at hown j (sV x) ?_)
            rw [HX.out, List.take_of_length_le (by rw [HL.out]; exact Nat.le_refl _)]
            show (List.map sV (lnP ⟨q, b, ops⟩))[j]? = _
            rw [List.getElem?_map, hx]
            rfl) (own_lt hown g rfl).2 (by rw [hLn]; omega) (by rw [hLn]; exact own_room hown) (by omega)
          rw [hLn] at cJ
          have e1 : (⟨(Lib.join (lnP ⟨q, b, ops⟩) [59, 10]).toArray⟩ : ByteArray) ++ ⟨#[59, 10]⟩ = ⟨R.toArray⟩ := (cat_str _ [59, 10]).trans (by rw [← HR.out]; rfl)
          have cJ' : Calls Tryz.prog 61 #[.slice (some ⟨g, 0, none⟩) L cap, .string ⟨#[59, 10]⟩] wr fun e w' => e = .returned (.string ⟨(Lib.join (lnP ⟨q, b, ops⟩) [59, 10]).toArray⟩) ∧ Below wr.heap.size wr w' := cJ
          have s1 := ba_size (Lib.join (lnP ⟨q, b, ops⟩) [59, 10])
          clear cJ hLn
          generalize (⟨(Lib.join (lnP ⟨q, b, ops⟩) [59, 10]).toArray⟩ : ByteArray) = jb at *
          generalize hrb : (⟨R.toArray⟩ : ByteArray) = rb at e1
          have HRB := hide hrb
          clear hrb hown
          go_wp2_with (first | (go_at_call 61; refine cJ'.mono ?_; rintro e w2 ⟨rfl, hb2⟩))
          go_ret2
          exact ⟨by rw [HRB.out]; rfl, hbe.trans (hb2.mono hbe.size)⟩
    · have dq : decide (q > 0) = false := decide_eq_false (by omega)
      have dq2 : decide (0 < q) = false := decide_eq_false (by omega)
      have db : decide (b > 0) = false := decide_eq_false (by omega)
      have db2 : decide (0 < b) = false := decide_eq_false (by omega)
      have hhd2 : hdP q b = [[79, 80, 69, 78, 81, 65, 83, 77, 32, 50, 46, 48], [105, 110, 99, 108, 117, 100, 101, 32, 34, 113, 101, 108, 105, 98, 49, 46, 105, 110, 99, 34]] := by unfold hdP; rw [if_neg (by omega), if_neg (by omega)]; rfl
      clear hq hb q0 b0
      clear eqb zq cQ
      clear ebb zb cB
      go_enter Tryz.func27, Tryz.ntmps27
      go_wp2_with (first
        | (go_at_call 9; refine (c1 _ (bnew _ _)).mono ?_; rintro e w1 ⟨rfl, hb1⟩; obtain ⟨hk1, x0, x1, x2, x3, hbw1⟩ := HW1.out w1 hb1; have hown1 := World.ownsRow_lit (base := w.heap.size + 1) (e := 9) (size := 1) w1 #[.string ⟨#[79, 80, 69, 78, 81, 65, 83, 77, 32, 50, 46, 48]⟩, .string ⟨#[105, 110, 99, 108, 117, 100, 101, 32, 34, 113, 101, 108, 105, 98, 49, 46, 105, 110, 99, 34]⟩] 2 (by omega) (by unfold maxLen; omega) rfl; have hbL := hbw1.trans ((bnew w1 (.cells #[.string ⟨#[79, 80, 69, 78, 81, 65, 83, 77, 32, 50, 46, 48]⟩, .string ⟨#[105, 110, 99, 108, 117, 100, 101, 32, 34, 113, 101, 108, 105, 98, 49, 46, 105, 110, 99, 34]⟩] 9)).mono hbw1.size); have hkL := (Below.heap_alloc w1 (.cells #[.string ⟨#[79, 80, 69, 78, 81, 65, 83, 77, 32, 50, 46, 48]⟩, .string ⟨#[105, 110, 99, 108, 117, 100, 101, 32, 34, 113, 101, 108, 105, 98, 49, 46, 105, 110, 99, 34]⟩] 9) _ x3).trans hk1))
      have HO := hide hown1
      have HB := hide hbL
      have HHd := hide hhd2
      clear hown1
      go_loopw [6, 41] (fun vl vi wr => ∃ (i L g cap : Nat) (X : List Value), vl = .slice (some ⟨g, 0, none⟩) L cap ∧ vi = .int .i64 (i : Int) ∧ i ≤ n ∧ L ≤ 4 + i ∧ Hid (L = 2 + i) ∧ Hid (X = (hdP q b ++ (ops.take i).map wrP).map sV) ∧ wr.ownsRow (w.heap.size + 1) 9 1 (.slice (some ⟨g, 0, none⟩) L cap) L X ∧ Below w.heap.size w wr) (fun _ vi _ => n - (Go.RowKit.intOf vi).toNat)
      case atStart => exact ⟨0, 2, _, _, _, rfl, rfl, Nat.zero_le _, by omega, hide rfl, hide rfl, (by rw [HHd.out]; exact HO.out), HB.out⟩
      case round =>
        obtain ⟨i, L, g, cap, X, rfl, rfl, hi, hL, HLL, HX, hown, hbe⟩ := hrel
        clear HO HB
        by_cases h : i < n
        · have hd : decide ((i : Int) < (n : Int)) = true := decide_eq_true (by omega)
          obtain ⟨o, ho⟩ : ∃ o, ops[i]? = some o := ⟨_, List.getElem?_eq_getElem (by rw [HL.out]; exact h)⟩
          have hom := List.mem_of_getElem? ho
          obtain ⟨go, off, aq, cq, rfl, hgl, hoc⟩ := (HC.out.below hbe).ops.at (show (⟨q, b, ops⟩ : Circ).ops[i]? = some o from ho)
          have k0 := hoc.kind
          have k1 := hoc.gate
          have k2 := hoc.qs
          have k3 := hoc.bit
          have k4 := hoc.cond
          have k5 := hoc.whn
          have hM2 := HW.out (wr.alloc (.cells #[.int .i64 o.kind, .int .i64 o.gate, .slice aq o.qs.length cq, .int .i64 o.bit, .int .i64 o.cond, .int .i64 o.whn] 40)) (hbe.trans ((bnew _ _).mono hbe.size)) o hom aq cq (hoc.ns.below (bnew _ _))
          have HXs : Hid (X ++ [sV (wrP o)] = (hdP q b ++ (ops.take (i + 1)).map wrP).map sV) := hide (by
            rw [HX.out, List.take_add_one, ho]
            simp)
          have hzr := hbe.size
          unfold opV at hM2
          unfold sV at HXs
          clear hoc ho hom
          generalize (⟨(wrP o).toArray⟩ : ByteArray) = wb at *
          obtain ⟨kind, gate, qs, bit, cond, whn⟩ := o
          simp only at *
          generalize qs.length = qn at *
          have HM2 := hide hM2
          clear hM2
          have hbc := (bnew wr (.cells #[.int .i64 kind, .int .i64 gate, .slice aq qn cq, .int .i64 bit, .int .i64 cond, .int .i64 whn] 40))
          have hown1 := own_below hown hbc
          have hbe1 := hbe.trans (hbc.mono hbe.size)
          clear hown
          generalize hWA : (wr.alloc (.cells #[.int .i64 kind, .int .i64 gate, .slice aq qn cq, .int .i64 bit, .int .i64 cond, .int .i64 whn] 40)) = wA at hown1 hbe1
          have HWA := hide hWA
          clear hWA hbc
          go_wp2_with (first
            | (go_at_call 60; refine HM2.out.mono ?_; rintro e w2 ⟨rfl, hb2⟩; rw [HWA.out] at hb2; have hown2 := own_below hown1 hb2; have hbe2 := hbe1.trans (hb2.mono hbe1.size); have hs2 : w.heap.size + 1 ≤ w2.heap.size := (by have := own_lt hown2 g rfl; omega))
            | (at_builtin; refine wpList_pushV rfl _ _ 58 rfl 9 Tryz.underlying58 _ 16 infoStr8 rfl (w.heap.size + 1) (some ⟨g, 0, none⟩) L cap X rfl hown2 (.string wb) rfl rfl (by omega) (by omega) hs2 ?_; intro g3 c3 w3 hown3 hgr3 hat3; have hb3 : Below w.heap.size w w3 := hbe2.grown hgr3 (by omega) (fun q hq => by have := (hown2.lt q (by rw [ob_eq]; exact hq)).1; omega); clear hgr3 hat3))
          go_roundw
          case rel => exact ⟨i + 1, L + 1, g3, c3, X ++ [.string wb], rfl, by go_num, by omega, by omega, hide (by have := HLL.out; omega), HXs, hown3, hb3⟩
          case measure => simp [Go.RowKit.intOf]; omega
        · obtain rfl : n = i := by omega
          have hLn : (lnP ⟨q, b, ops⟩).length = L := by
            rw [HLL.out, HD.out _ HHd.out, List.length_append, List.length_map, HL.out]
            rfl
          have cJ := sJoinS [59, 10] g cap (lnP ⟨q, b, ops⟩) wr (fun j x hx => by
            refine (own_at hown j (sV x) ?_)
            rw [HX.out, List.take_of_length_le (by rw [HL.out]; exact Nat.le_refl _)]
            show (List.map sV (lnP ⟨q, b, ops⟩))[j]? = _
            rw [List.getElem?_map, hx]
            rfl) (own_lt hown g rfl).2 (by rw [hLn]; omega) (by rw [hLn]; exact own_room hown) (by omega)
          rw [hLn] at cJ
          have e1 : (⟨(Lib.join (lnP ⟨q, b, ops⟩) [59, 10]).toArray⟩ : ByteArray) ++ ⟨#[59, 10]⟩ = ⟨R.toArray⟩ := (cat_str _ [59, 10]).trans (by rw [← HR.out]; rfl)
          have cJ' : Calls Tryz.prog 61 #[.slice (some ⟨g, 0, none⟩) L cap, .string ⟨#[59, 10]⟩] wr fun e w' => e = .returned (.string ⟨(Lib.join (lnP ⟨q, b, ops⟩) [59, 10]).toArray⟩) ∧ Below wr.heap.size wr w' := cJ
          have s1 := ba_size (Lib.join (lnP ⟨q, b, ops⟩) [59, 10])
          clear cJ hLn
          generalize (⟨(Lib.join (lnP ⟨q, b, ops⟩) [59, 10]).toArray⟩ : ByteArray) = jb at *
          generalize hrb : (⟨R.toArray⟩ : ByteArray) = rb at e1
          have HRB := hide hrb
          clear hrb hown
          go_wp2_with (first | (go_at_call 61; refine cJ'.mono ?_; rintro e w2 ⟨rfl, hb2⟩))
          go_ret2
          exact ⟨by rw [HRB.out]; rfl, hbe.trans (hb2.mono hbe.size)⟩
end Go.Proofs.YtkbodljmkhnebaaGreatDoor.Cir
/- Append (gen_bl.py). -/
namespace Go.Proofs.YtkbodljmkhnebaaGreatDoor.Cir
open Go.RowKit Go.Shelf Go.Proofs.YtkbodljmkhnebaaGreatDoor.Oct Go.Proofs.YtkbodljmkhnebaaGreatDoor.Tok Go.Proofs.YtkbodljmkhnebaaGreatDoor.Gt

/-- Two circuits' cells. -/
def SAp (x : Nat) (q1 b1 q2 b2 : Int) (v1 v2 : Value) (V : World) : Prop := V.cell? ⟨x, 0, none⟩ = some (.int .i64 q1) ∧ V.cell? ⟨x, 1, none⟩ = some (.int .i64 b1) ∧ V.cell? ⟨x, 2, none⟩ = some v1 ∧ V.cell? ⟨x + 1, 0, none⟩ = some (.int .i64 q2) ∧ V.cell? ⟨x + 1, 1, none⟩ = some (.int .i64 b2) ∧ V.cell? ⟨x + 1, 2, none⟩ = some v2
theorem SAp.kept {x : Nat} {q1 b1 q2 b2 : Int} {v1 v2 : Value} {V V' : World} (h : SAp x q1 b1 q2 b2 v1 v2 V) (hk : ∀ b, b = x ∨ b = x + 1 → b < V.heap.size → V'.heap[b]? = V.heap[b]?) : SAp x q1 b1 q2 b2 v1 v2 V' := by
  obtain ⟨h0, h1, h2, h3, h4, h5⟩ := h
  have k0 := hk x (.inl rfl) (World.block_lt_of_cell? _ _ h0)
  have k1 := hk (x + 1) (.inr rfl) (World.block_lt_of_cell? _ _ h3)
  exact ⟨(World.cell?_of_block (w := V) k0).trans h0, (World.cell?_of_block (w := V) k0).trans h1, (World.cell?_of_block (w := V) k0).trans h2, (World.cell?_of_block (w := V) k1).trans h3, (World.cell?_of_block (w := V) k1).trans h4, (World.cell?_of_block (w := V) k1).trans h5⟩
theorem opC_one {w : World} {ys : List (COp × Value)} (h : ∀ x ∈ ys, IsI w x.2 x.1.qs) : ∀ u ∈ ys.flatMap opC, u.oneCell' = true := by
  intro u hu
  obtain ⟨x, hx, hux⟩ := List.mem_flatMap.1 hu
  obtain ⟨aq, cq, hv, _⟩ := (h x hx).ns
  unfold opC at hux
  rw [hv] at hux
  simp only [List.mem_cons, List.not_mem_nil, or_false] at hux
  rcases hux with rfl | rfl | rfl | rfl | rfl | rfl <;> rfl
theorem OpsAt.join {w w' : World} {B g1 n1 c1 n2 g cap : Nat} {l1 l2 : List COp} {ys2 : List (COp × Value)} (h1 : OpsAt w B (some ⟨g1, 0, none⟩) n1 c1 l1) (e2 : l2 = ys2.map (·.1)) (hn2 : n2 = ys2.length) (hI2 : ∀ x ∈ ys2, IsI w x.2 x.1.qs) (hg : w.grownBy w' (some g1)) (ho : w'.ownsRow B 40 6 (.slice (some ⟨g, 0, none⟩) (n1 + n2) cap) (n1 + n2) ((h1.choose).flatMap opC ++ ys2.flatMap opC)) : OpsAt w' B (some ⟨g, 0, none⟩) (n1 + n2) cap (l1 ++ l2) := by
  obtain ⟨a1, a2, a3, a4⟩ := h1.choose_spec
  obtain ⟨gc, gf, hgc⟩ := own_cells' a3 (k := g1) rfl
  have hk : ∀ (b : Nat) (cs : Array Value) (fr : Nat × Nat), w.heap[b]? = some (Obj.cells cs 3 fr) → w'.heap[b]? = w.heap[b]? := fun b cs fr hb => hg.block b (Array.getElem?_eq_some_iff.1 hb).1 (fun e => by
    cases e
    rw [hgc] at hb
    simp at hb)
  refine ⟨h1.choose ++ ys2, by rw [List.length_append, ← a1, ← hn2], by rw [List.map_append, ← a2, ← e2], by rw [List.flatMap_append]; exact ho, fun x hx => ?_⟩
  rcases List.mem_append.1 hx with hx | hx
  · exact (a4 x hx).block hk
  · exact (hI2 x hx).block hk
set_option maxRecDepth 100000 in
set_option maxHeartbeats 4000000 in
theorem cAppend (a b : Circ) (ao bo : Option Addr) (k j : Nat) (ha : (chkC a).2 = 0) (hb : (chkC b).2 = 0) (hl : a.ops.length + b.ops.length ≤ 4096) (h0 : 0 < b.ops.length) (hSa : Sml a.ops) (hSb : Sml b.ops) (w : World) (hT : Tb w) (hA : Ci w a ao k) (hB : Ci w b bo j) : Calls Tryz.prog 46 #[cV a ao k, cV b bo j] w fun e w' => ∃ (g cap : Nat), e = .returned (.tuple #[.agg #[.int .i64 (max a.q b.q), .int .i64 (max a.b b.b), .slice (some ⟨g, 0, none⟩) (a.ops.length + b.ops.length) cap], .int .i64 0]) ∧ OpsAt w' w.heap.size (some ⟨g, 0, none⟩) (a.ops.length + b.ops.length) cap (a.ops ++ b.ops) ∧ Below w.heap.size w w' := by
  have c1 := fun V (h : Below w.heap.size w V) => cCheck a ao k V (hT.below h) (hA.below h)
  have c2 := fun V (h : Below w.heap.size w V) => cCheck b bo j V (hT.below h) (hB.below h)
  have c3 := fun V (h : Below w.heap.size w V) => cCopyOps a.ops ao k hSa V (hA.ops.below h)
  have c4 := fun V (h : Below w.heap.size w V) => cCopyOps b.ops bo j hSb V (hB.ops.below h)
  rw [ha] at c1
  rw [hb] at c2
  obtain ⟨q1, b1, l1⟩ := a
  obtain ⟨q2, b2, l2⟩ := b
  unfold cV at *
  simp only at *
  generalize (chkC ⟨q1, b1, l1⟩).1 = z1 at *
  generalize (chkC ⟨q2, b2, l2⟩).1 = z2 at *
  generalize hn1 : l1.length = n1 at *
  generalize hn2 : l2.length = n2 at *
  have hwr : IntKind.i64.wrap ((n1 : Int) + (n2 : Int)) = (n1 : Int) + (n2 : Int) := wrapN _ (by omega) (by omega)
  have d1 : decide ((n1 : Int) + (n2 : Int) > 4096) = false := decide_eq_false (by omega)
  have d2 : decide ((4096 : Int) < (n1 : Int) + (n2 : Int)) = false := decide_eq_false (by omega)
  obtain ⟨i0, hi, hz0, hz1, hz2⟩ := info_parts infoOp
  have HN2 := hide hn2
  clear hA hB hSa hSb ha hb hn1 hn2
  have hW : Below w.heap.size w (((w.alloc (.cells #[.int .i64 q1, .int .i64 b1, .slice ao n1 k] 24)).alloc (.cells #[.int .i64 q2, .int .i64 b2, .slice bo n2 j] 24)).alloc (.cells #[.int .i64 0, .int .i64 0, .slice none 0 0] 24)) ∧ (((w.alloc (.cells #[.int .i64 q1, .int .i64 b1, .slice ao n1 k] 24)).alloc (.cells #[.int .i64 q2, .int .i64 b2, .slice bo n2 j] 24)).alloc (.cells #[.int .i64 0, .int .i64 0, .slice none 0 0] 24)).heap[w.heap.size]? = some (.cells #[.int .i64 q1, .int .i64 b1, .slice ao n1 k] 24) ∧ (((w.alloc (.cells #[.int .i64 q1, .int .i64 b1, .slice ao n1 k] 24)).alloc (.cells #[.int .i64 q2, .int .i64 b2, .slice bo n2 j] 24)).alloc (.cells #[.int .i64 0, .int .i64 0, .slice none 0 0] 24)).heap[w.heap.size + 1]? = some (.cells #[.int .i64 q2, .int .i64 b2, .slice bo n2 j] 24) ∧ (((w.alloc (.cells #[.int .i64 q1, .int .i64 b1, .slice ao n1 k] 24)).alloc (.cells #[.int .i64 q2, .int .i64 b2, .slice bo n2 j] 24)).alloc (.cells #[.int .i64 0, .int .i64 0, .slice none 0 0] 24)).heap[w.heap.size + 1 + 1]? = some (.cells #[.int .i64 0, .int .i64 0, .slice none 0 0] 24) := by
    refine ⟨(bnew _ _).trans (((bnew _ _).trans ((bnew _ _).mono (by simp))).mono (by simp)), (Below.heap_alloc _ _ _ (by simp; omega)).trans ((Below.heap_alloc _ _ _ (by simp)).trans (heap_alloc_new _ _)), (Below.heap_alloc _ _ _ (by simp)).trans ?_, ?_⟩
    · have := heap_alloc_new (w.alloc (.cells #[.int .i64 q1, .int .i64 b1, .slice ao n1 k] 24)) (.cells #[.int .i64 q2, .int .i64 b2, .slice bo n2 j] 24); simpa using this
    · have := heap_alloc_new ((w.alloc (.cells #[.int .i64 q1, .int .i64 b1, .slice ao n1 k] 24)).alloc (.cells #[.int .i64 q2, .int .i64 b2, .slice bo n2 j] 24)) (.cells #[.int .i64 0, .int .i64 0, .slice none 0 0] 24); simpa using this
  have HW := hide hW
  have HP : Hid (∀ V, Below (((w.alloc (.cells #[.int .i64 q1, .int .i64 b1, .slice ao n1 k] 24)).alloc (.cells #[.int .i64 q2, .int .i64 b2, .slice bo n2 j] 24)).alloc (.cells #[.int .i64 0, .int .i64 0, .slice none 0 0] 24)).heap.size (((w.alloc (.cells #[.int .i64 q1, .int .i64 b1, .slice ao n1 k] 24)).alloc (.cells #[.int .i64 q2, .int .i64 b2, .slice bo n2 j] 24)).alloc (.cells #[.int .i64 0, .int .i64 0, .slice none 0 0] 24)) V → Below w.heap.size w V ∧ V.heap[w.heap.size]? = some (.cells #[.int .i64 q1, .int .i64 b1, .slice ao n1 k] 24) ∧ V.heap[w.heap.size + 1]? = some (.cells #[.int .i64 q2, .int .i64 b2, .slice bo n2 j] 24) ∧ V.heap[w.heap.size + 1 + 1]? = some (.cells #[.int .i64 0, .int .i64 0, .slice none 0 0] 24) ∧ w.heap.size + 3 ≤ V.heap.size) := hide (fun V h => ⟨hW.1.trans (h.mono hW.1.size), (h.block _ (by simp; omega)).trans hW.2.1, (h.block _ (by simp)).trans hW.2.2.1, (h.block _ (by simp)).trans hW.2.2.2, by have := h.size; simpa using this⟩)
  clear hW
  go_enter Tryz.func46, Tryz.ntmps46
  go_wp2_with (first
    | (go_at_call_of 9 (Value.agg #[.int .i64 q1, .int .i64 b1, .slice ao n1 k]); refine (c1 _ HW.out.1).mono ?_; clear c1; rintro e w1 ⟨rfl, hb1⟩; obtain ⟨p1, m1, m2, m3, m4⟩ := HP.out w1 hb1; obtain ⟨x0, x1, x2, x3⟩ := def_cells m1; obtain ⟨y0, y1, y2, y3⟩ := def_cells m2)
    | (go_at_call 9; refine (c2 _ p1).mono ?_; rintro e w2 ⟨rfl, hb2⟩; have hb2' := Below.trans hb1 (hb2.mono hb1.size); obtain ⟨p2, m1, m2, m3, m4⟩ := HP.out w2 hb2'; obtain ⟨x0, x1, x2, x3⟩ := def_cells m1; obtain ⟨y0, y1, y2, y3⟩ := def_cells m2))
  have hS0 : SAp w.heap.size q1 b1 q2 b2 (.slice ao n1 k) (.slice bo n2 j) w2.drew := ⟨x0, x1, x2, y0, y1, y2⟩
  have HM3 := hide m3
  have HP2 := hide p2
  have c3' := c3 w2.drew (p2.drew)
  refine wp_region_held_drew (S := SAp w.heap.size q1 b1 q2 b2 (.slice ao n1 k) (.slice bo n2 j)) (by kernel_rfl) hS0 (fun hHeld => ?_)
  refine take_to (i := 0) (d := 37) (v := ?_) rfl rfl (by kernel_rfl) (by kernel_rfl) (by kernel_rfl) (fun _ _ _ h => h) (Or.inl ⟨by rfl, ?_⟩) (by assumption) ?_
  rotate_left 1
  · intro W hSw
    obtain ⟨s0, s1, s2, t0, t1, t2⟩ := hSw
    go_simp
    with_reducible rfl
  simp only [Act.put, List.setIfInBounds_toArray, List.set_cons_zero, List.set_cons_succ]
  refine take_to (i := 1) (d := 38) (v := ?_) rfl rfl (by kernel_rfl) (by kernel_rfl) (by kernel_rfl) (fun _ _ _ h => h) (Or.inl ⟨by rfl, ?_⟩) (by assumption) ?_
  rotate_left 1
  · intro W hSw
    obtain ⟨s0, s1, s2, t0, t1, t2⟩ := hSw
    go_simp
    with_reducible rfl
  simp only [Act.put, List.setIfInBounds_toArray, List.set_cons_zero, List.set_cons_succ]
  refine take_to (i := 2) (d := 39) (v := ?_) rfl rfl (by kernel_rfl) (by kernel_rfl) (by kernel_rfl) (fun _ _ _ h => h) (Or.inl ⟨by rfl, ?_⟩) (by assumption) ?_
  rotate_left 1
  · intro W hSw
    obtain ⟨s0, s1, s2, t0, t1, t2⟩ := hSw
    go_simp
    with_reducible rfl
  simp only [Act.put, List.setIfInBounds_toArray, List.set_cons_zero, List.set_cons_succ]
  refine take_to (i := 3) (d := 40) (v := ?_) rfl rfl (by kernel_rfl) (by kernel_rfl) (by kernel_rfl) (fun _ _ _ h => h) (Or.inl ⟨by rfl, ?_⟩) (by assumption) ?_
  rotate_left 1
  · intro W hSw
    obtain ⟨s0, s1, s2, t0, t1, t2⟩ := hSw
    go_simp
    with_reducible rfl
  simp only [Act.put, List.setIfInBounds_toArray, List.set_cons_zero, List.set_cons_succ]
  refine take_to (i := 4) (d := 41) (v := ?_) rfl rfl (by kernel_rfl) (by kernel_rfl) (by kernel_rfl) (fun _ _ _ h => h) (Or.inl ⟨by rfl, ?_⟩) (by assumption) ?_
  rotate_left 1
  · intro W hSw
    obtain ⟨s0, s1, s2, t0, t1, t2⟩ := hSw
    go_simp
    with_reducible rfl
  simp only [Act.put, List.setIfInBounds_toArray, List.set_cons_zero, List.set_cons_succ]
  refine take_to (i := 5) (d := 42) (v := ?_) rfl rfl (by kernel_rfl) (by kernel_rfl) (by kernel_rfl) (fun _ _ _ h => h) (Or.inl ⟨by rfl, ?_⟩) (by assumption) ?_
  rotate_left 1
  · intro W hSw
    obtain ⟨s0, s1, s2, t0, t1, t2⟩ := hSw
    go_simp
    with_reducible rfl
  simp only [Act.put, List.setIfInBounds_toArray, List.set_cons_zero, List.set_cons_succ]
  refine take_to (i := 6) (d := 43) (v := ?_) rfl rfl (by kernel_rfl) (by kernel_rfl) (by kernel_rfl) (fun _ _ _ h => h) (Or.inl ⟨by rfl, ?_⟩) (by assumption) ?_
  rotate_left 1
  · intro W hSw
    obtain ⟨s0, s1, s2, t0, t1, t2⟩ := hSw
    go_simp
    with_reducible rfl
  simp only [Act.put, List.setIfInBounds_toArray, List.set_cons_zero, List.set_cons_succ]
  refine take_to (i := 7) (d := 44) (v := ?_) rfl rfl (by kernel_rfl) (by kernel_rfl) (by kernel_rfl) (fun _ _ _ h => h) (Or.inl ⟨by rfl, ?_⟩) (by assumption) ?_
  rotate_left 1
  · intro W hSw
    obtain ⟨s0, s1, s2, t0, t1, t2⟩ := hSw
    go_simp
    with_reducible rfl
  simp only [Act.put, List.setIfInBounds_toArray, List.set_cons_zero, List.set_cons_succ]
  refine take_to (i := 8) (d := 45) (v := ?_) rfl rfl (by kernel_rfl) (by kernel_rfl) (by kernel_rfl) (fun _ _ _ h => h) (Or.inl ⟨by rfl, ?_⟩) (by assumption) ?_
  rotate_left 1
  · intro W hSw
    obtain ⟨s0, s1, s2, t0, t1, t2⟩ := hSw
    go_simp
    with_reducible rfl
  simp only [Act.put, List.setIfInBounds_toArray, List.set_cons_zero, List.set_cons_succ]
  refine take_to (i := 9) (d := 46) (v := ?_) rfl rfl (by kernel_rfl) (by kernel_rfl) (by kernel_rfl) (fun _ _ _ h => h) (Or.inl ⟨by rfl, ?_⟩) (by assumption) ?_
  rotate_left 1
  · intro W hSw
    obtain ⟨s0, s1, s2, t0, t1, t2⟩ := hSw
    go_simp
    with_reducible rfl
  simp only [Act.put, List.setIfInBounds_toArray, List.set_cons_zero, List.set_cons_succ]
  refine take_to (i := 10) (d := 47) (v := ?_) rfl rfl (by kernel_rfl) (by kernel_rfl) (by kernel_rfl) (fun _ _ _ h => h) (Or.inl ⟨by rfl, ?_⟩) (by assumption) ?_
  rotate_left 1
  · intro W hSw
    obtain ⟨s0, s1, s2, t0, t1, t2⟩ := hSw
    go_simp
    with_reducible rfl
  simp only [Act.put, List.setIfInBounds_toArray, List.set_cons_zero, List.set_cons_succ]
  refine take_to (i := 11) (d := 48) (v := ?_) rfl rfl (by kernel_rfl) (by kernel_rfl) (by kernel_rfl) (fun _ _ _ h => h) (Or.inl ⟨by rfl, ?_⟩) (by assumption) ?_
  rotate_left 1
  · intro W hSw
    obtain ⟨s0, s1, s2, t0, t1, t2⟩ := hSw
    go_simp
    with_reducible rfl
  simp only [Act.put, List.setIfInBounds_toArray, List.set_cons_zero, List.set_cons_succ]
  refine take_to (i := 13) (d := 50) (v := ?_) rfl rfl (by kernel_rfl) (by kernel_rfl) (by kernel_rfl) (fun _ _ _ h => h) (Or.inl ⟨by rfl, ?_⟩) (by assumption) ?_
  rotate_left 1
  · intro W hSw
    obtain ⟨s0, s1, s2, t0, t1, t2⟩ := hSw
    go_simp
    with_reducible rfl
  simp only [Act.put, List.setIfInBounds_toArray, List.set_cons_zero, List.set_cons_succ]
  refine take_to (i := 14) (d := 51) (v := ?_) rfl rfl (by kernel_rfl) (by kernel_rfl) (by kernel_rfl) (fun _ _ _ h => h) (Or.inl ⟨by rfl, ?_⟩) (by assumption) ?_
  rotate_left 1
  · intro W hSw
    obtain ⟨s0, s1, s2, t0, t1, t2⟩ := hSw
    go_simp
    with_reducible rfl
  simp only [Act.put, List.setIfInBounds_toArray, List.set_cons_zero, List.set_cons_succ]
  refine wpAnyH_ready (rs := [12]) (by kernel_rfl) (by simp) ?_
  refine AllReadyH.cons (o := { dst := some 49, op := Op.call { callee := Callee.value (Operand.func 44), args := #[Operand.tmp 48], argTypes := #[22] }, type := 22, pos := "join.go:19", after := #[{ on := 11, ground := Ground.data }], guard := none }) rfl (fun K hK => ?_) AllReadyH.nil
  go_simp
  go_at_call 44
  refine Calls.mono c3' ?_
  rintro e w3 ⟨g3, rfl, hO3, hb3⟩
  go_wp2_with fail
  refine hK.out _ _ (SAp.kept (by assumption) (fun b _ hl => hb3.block b hl)) (fun hHeld => ?_)
  clear hK K
  refine wpAnyH_ready (rs := [15]) (by kernel_rfl) (by simp) ?_
  refine AllReadyH.cons (o := { dst := some 52, op := Op.call { callee := Callee.value (Operand.func 44), args := #[Operand.tmp 51], argTypes := #[22] }, type := 22, pos := "join.go:19", after := #[{ on := 14, ground := Ground.data }, { on := 12, ground := Ground.chain }], guard := none }) rfl (fun K hK => ?_) AllReadyH.nil
  have p3 : Below w.heap.size w w3 := HP2.out.trans ((show Below w2.heap.size w2 w3 from ⟨hb3.os, hb3.tape, hb3.output, hb3.size, hb3.block⟩).mono HP2.out.size)
  have c4' := c4 w3 p3
  go_simp
  go_at_call 44
  refine Calls.mono c4' ?_
  rintro e w4 ⟨g4, rfl, hO4, hb4⟩
  go_wp2_with fail
  refine hK.out _ _ (SAp.kept (by assumption) (fun b _ hl => hb4.block b hl)) (fun hHeld => ?_)
  clear hK K
  have hO5 := (hO3.base (show w.heap.size ≤ w2.drew.heap.size from HP2.out.size)).below hb4
  have z3 := hb3.size
  have z4 := hb4.size
  have m5 : w4.heap[w.heap.size + 1 + 1]? = some (.cells #[.int .i64 0, .int .i64 0, .slice none 0 0] 24) := (hb4.block _ (by have := (Array.getElem?_eq_some_iff.1 HM3.out).1; have : w2.heap.size ≤ w3.heap.size := z3; omega)).trans ((hb3.block _ (Array.getElem?_eq_some_iff.1 HM3.out).1).trans HM3.out)
  have hsv := hHeld
  refine wpAnyH_ready (rs := [16]) (by kernel_rfl) (by simp) ?_
  refine AllReadyH.cons (o := { dst := some 53, op := Op.call { callee := Callee.builtin Builtin.append, args := #[Operand.tmp 49, Operand.tmp 52], argTypes := #[22, 22] }, type := 22, pos := "join.go:16", after := #[{ on := 12, ground := Ground.data }, { on := 15, ground := Ground.data }, { on := 15, ground := Ground.chain }], guard := none }) rfl (fun K hK => ?_) AllReadyH.nil
  obtain ⟨ys2, f1, f2, f3, f4⟩ := id hO4
  have F1 := hide f1
  have F2 := hide f2
  clear f1 f2
  refine step_append_lies w4 rfl (.tmp 49) (.tmp 52) 22 rfl w.heap.size 40 i0 _ 6 64 Tryz.underlying22 hi hz0 hz1 hz2 rfl (by decide) (.slice (some ⟨g3, 0, none⟩) n1 n1) n1 _ (by rfl) hO5.choose_spec.2.2.1 ⟨g4, 0, none⟩ n2 n2 (ys2.flatMap opC) (by rfl) f3.1 (fun j u hu => by rw [Addr.add_lit, Nat.zero_add]; exact own_at f3 _ _ hu) (opC_one f4) h0 (by unfold maxLen; omega) (by omega) (by have := HP2.out.size; have : w2.heap.size ≤ w3.heap.size := z3; omega) w4.heap.size rfl ?_
  intro g5 cap w5 hown5 hg5 hat5 hlt5
  have hO6 : OpsAt w5 w.heap.size (some ⟨g5, 0, none⟩) (n1 + n2) cap (l1 ++ l2) := hO5.join F2.out F1.out f4 hg5 hown5
  obtain ⟨gc, gf, hgc⟩ := own_cells' hO5.choose_spec.2.2.1 (k := g3) rfl
  have hneb : ∀ (b : Nat) (cs : Array Value) (t : TypeId) (fr : Nat × Nat), w4.heap[b]? = some (Obj.cells cs t fr) → t ≠ 40 → w5.heap[b]? = w4.heap[b]? := fun b cs t fr hbb ht => hg5.block b (Array.getElem?_eq_some_iff.1 hbb).1 (fun e => by
    cases e
    rw [hgc] at hbb
    simp only [Option.some.injEq, Obj.cells.injEq] at hbb
    exact ht hbb.2.1.symm)
  have p4 : Below w.heap.size w w4 := p3.trans (hb4.mono p3.size)
  have a4 : w4.heap[w.heap.size]? = some (.cells #[.int .i64 q1, .int .i64 b1, .slice ao n1 k] 24) := (HP.out w4 (by
    have := hb2'.trans ((show Below w2.heap.size w2 w3 from ⟨hb3.os, hb3.tape, hb3.output, hb3.size, hb3.block⟩).mono hb2'.size)
    exact this.trans (hb4.mono this.size))).2.1
  have b4 : w4.heap[w.heap.size + 1]? = some (.cells #[.int .i64 q2, .int .i64 b2, .slice bo n2 j] 24) := (HP.out w4 (by
    have := hb2'.trans ((show Below w2.heap.size w2 w3 from ⟨hb3.os, hb3.tape, hb3.output, hb3.size, hb3.block⟩).mono hb2'.size)
    exact this.trans (hb4.mono this.size))).2.2.1
  have hS5 : SAp w.heap.size q1 b1 q2 b2 (.slice ao n1 k) (.slice bo n2 j) w5 := hsv.kept fun b hbx _ => by
    rcases hbx with rfl | rfl
    · exact hneb _ _ _ _ a4 (by decide)
    · exact hneb _ _ _ _ b4 (by decide)
  have m6 := (hneb _ _ _ _ m5 (by decide)).trans m5
  obtain ⟨u0, u1, u2, u3⟩ := def_cells m6
  have uf : ∀ i, w5.frozen? ⟨w.heap.size + 1 + 1, i, none⟩ = false := fun i => by simp [World.frozen?, m6]
  have p5 : Below w.heap.size w w5 := p4.grown hg5 p4.size (fun q hq => by
    have := (own_lt hO5.choose_spec.2.2.1 q hq).1
    exact this)
  refine hK.out _ _ hS5 (fun hHeld => ?_)
  clear hK K
  simp only [Act.put, List.setIfInBounds_toArray, List.set_cons_zero, List.set_cons_succ]
  refine take_to (i := 17) (d := 54) (v := ?_) rfl rfl (by kernel_rfl) (by kernel_rfl) (by kernel_rfl) (fun _ _ _ h => h) (Or.inl ⟨by rfl, ?_⟩) (by assumption) ?_
  rotate_left 1
  · intro W hSw
    obtain ⟨s0, s1, s2, t0, t1, t2⟩ := hSw
    go_simp
    with_reducible rfl
  simp only [Act.put, List.setIfInBounds_toArray, List.set_cons_zero, List.set_cons_succ]
  refine wpAnyH_ready (rs := [18]) (by kernel_rfl) (by simp) ?_
  refine AllReadyH.cons (o := { dst := none, op := Op.store 24 (Operand.tmp 4) (Operand.tmp 54), type := 0, pos := "join.go:16", after := #[{ on := 17, ground := Ground.data }, { on := 16, ground := Ground.chain }, { on := 0, ground := Ground.phase }, { on := 1, ground := Ground.phase }, { on := 2, ground := Ground.phase }, { on := 3, ground := Ground.phase }, { on := 4, ground := Ground.phase }, { on := 5, ground := Ground.phase }, { on := 6, ground := Ground.phase }, { on := 7, ground := Ground.phase }, { on := 8, ground := Ground.phase }, { on := 9, ground := Ground.phase }, { on := 10, ground := Ground.phase }, { on := 11, ground := Ground.phase }, { on := 12, ground := Ground.phase }, { on := 13, ground := Ground.phase }, { on := 14, ground := Ground.phase }, { on := 15, ground := Ground.phase }, { on := 16, ground := Ground.phase }, { on := 17, ground := Ground.phase }], guard := none }) rfl (fun K hK => ?_) AllReadyH.nil
  go_simp
  refine hK.out _ _ (SAp.kept (by assumption) (fun b hbx _ => by
    have hne : b ≠ w.heap.size + 1 + 1 := by omega
    rw [Below.heap_setCell _ _ _ _ hne, Below.heap_setCell _ _ _ _ hne, Below.heap_setCell _ _ _ _ hne])) (fun hHeld => ?_)
  clear hK K
  try simp only [Act.put, List.setIfInBounds_toArray, List.set_cons_zero, List.set_cons_succ]
  refine take_to (i := 19) (d := 5) (v := ?_) rfl rfl (by kernel_rfl) (by kernel_rfl) (by kernel_rfl) (fun _ _ _ h => h) (Or.inl ⟨by rfl, ?_⟩) (by assumption) ?_
  rotate_left 1
  · intro W hSw
    obtain ⟨s0, s1, s2, t0, t1, t2⟩ := hSw
    go_simp
    with_reducible rfl
  simp only [Act.put, List.setIfInBounds_toArray, List.set_cons_zero, List.set_cons_succ]
  refine wpAnyH_done (by kernel_rfl) ?_ _
  rw [c3_set w5 _ _ _ _ _ _ _ _ m6]
  go_wp2_with fail
  refine bodyPost_ret (results_ct rfl _ _ (w.heap.size + 1 + 1) _ #[.int .i64 (max q1 q2), .int .i64 (max b1 b2), .slice (some ⟨g5, 0, none⟩) (n1 + n2) cap] _ _ rfl (setRow_heap _ _ _ _ _ _ m6) Tryz.underlying24 rfl (by exact infoCi)) rfl ?_
  exact ⟨g5, cap, rfl, hO6.row m6 (by decide) (by decide) _, Below.row p5 _ _ (by omega)⟩
end Go.Proofs.YtkbodljmkhnebaaGreatDoor.Cir
/- The texts of the set-up, as data (gen_da8.py). -/
namespace Go.Proofs.YtkbodljmkhnebaaGreatDoor.Cir
open Go.RowKit Go.Shelf Go.Proofs.YtkbodljmkhnebaaGreatDoor.Oct Go.Proofs.YtkbodljmkhnebaaGreatDoor.Tok Go.Proofs.YtkbodljmkhnebaaGreatDoor.Gt

def txA : List UInt8 := (([79, 80, 69, 78, 81, 65, 83, 77, 32, 50, 46, 48, 59, 32, 113, 114, 101, 103, 32, 97, 91, 50, 93, 59, 32, 113, 114, 101, 103, 32, 98, 91, 49, 93].append [59, 32, 99, 114, 101, 103, 32, 99, 91, 50, 93, 59, 32, 103, 97, 116, 101, 32, 98, 101, 108, 108, 32, 112, 44, 32, 114, 32, 123, 32, 115, 121, 32, 112, 59]).append ([32, 99, 120, 32, 112, 44, 32, 114, 59, 32, 125, 32, 120, 32, 97, 59, 32, 98, 101, 108, 108, 32, 97, 91, 49, 93, 44, 32, 98, 91, 48, 93, 59, 32].append [105, 102, 32, 40, 99, 91, 49, 93, 32, 61, 61, 32, 49, 41, 32, 115, 32, 98, 59, 32, 109, 101, 97, 115, 117, 114, 101, 32, 97, 32, 45, 62, 32, 99, 59]))
def txB : List UInt8 := [79, 80, 69, 78, 81, 65, 83, 77, 32, 50, 46, 48, 59, 32, 113, 114, 101, 103, 32, 97, 91, 50, 93, 59, 32, 99, 120, 32, 97, 91, 48, 93, 44, 32, 97, 91, 48, 93, 59]
def txP : List UInt8 := [79, 80, 69, 78, 81, 65, 83, 77, 32, 50, 46, 48, 59, 10, 105, 110, 99, 108, 117, 100, 101, 32, 34, 113, 101, 108, 105, 98, 49, 46, 105, 110, 99, 34, 59, 10, 113, 114, 101, 103, 32, 113, 91, 51, 93, 59, 10, 99, 114, 101, 103, 32, 99, 91, 50, 93, 59, 10, 120, 32, 113, 91, 48, 93, 59, 10, 120, 32, 113, 91, 49, 93, 59, 10, 115, 121, 32, 113, 91, 49, 93, 59, 10, 99, 120, 32, 113, 91, 49, 93, 44, 32, 113, 91, 50, 93, 59, 10, 105, 102, 32, 40, 99, 91, 49, 93, 32, 61, 61, 32, 49, 41, 32, 115, 32, 113, 91, 50, 93, 59, 10, 109, 101, 97, 115, 117, 114, 101, 32, 113, 91, 48, 93, 32, 45, 62, 32, 99, 91, 48, 93, 59, 10, 109, 101, 97, 115, 117, 114, 101, 32, 113, 91, 49, 93, 32, 45, 62, 32, 99, 91, 49, 93, 59, 10]
def cA : Circ := ⟨3, 2, [⟨1, 2, [0], 0, -1, 0⟩, ⟨1, 2, [1], 0, -1, 0⟩, ⟨1, 9, [1], 0, -1, 0⟩, ⟨1, 11, [1, 2], 0, -1, 0⟩, ⟨1, 5, [2], 0, 1, 1⟩, ⟨2, 0, [0], 0, -1, 0⟩, ⟨2, 0, [1], 1, -1, 0⟩]⟩
def endsB : List T → Bool
  | [] => false
  | t :: r => (decide (t.kind = 0) && r.isEmpty) || (decide (t.kind ≠ 0) && endsB r)
theorem ends_of : ∀ ts : List T, endsB ts = true → Ends ts
  | [], h => by cases h
  | t :: r, h => by
    rw [endsB, Bool.or_eq_true, Bool.and_eq_true, Bool.and_eq_true] at h
    rcases h with ⟨h1, h2⟩ | ⟨h1, h2⟩
    · exact .inl ⟨of_decide_eq_true h1, by simpa using h2⟩
    · exact .inr ⟨of_decide_eq_true h1, ends_of r h2⟩
def okB (l : List UInt8) : Bool := match scanAll l with
  | .bad f => decide (f.code ≠ 0)
  | .ok ts => endsB ts && decide (ts.length ≤ 4398046511104) && ts.all fun t => decide (t.text.length ≤ 4398046511104) && decide (t.text ≠ kwX 7) && decide (t.text ≠ kwX 8)
theorem okB_bad {l : List UInt8} (h : okB l = true) : ∀ f, scanAll l = .bad f → f.code ≠ 0 := by
  intro f hf
  unfold okB at h
  rw [hf] at h
  exact of_decide_eq_true h
theorem okB_ok {l : List UInt8} (h : okB l = true) : ∀ ts, scanAll l = .ok ts → Fine ts ∧ (∀ t ∈ ts, t.text = kwX 7 → RsOk) ∧ (∀ t ∈ ts, t.text = kwX 8 → BrOk) := by
  intro ts hs
  unfold okB at h
  rw [hs] at h
  simp only [Bool.and_eq_true, decide_eq_true_eq, List.all_eq_true] at h
  obtain ⟨⟨h1, h2⟩, h3⟩ := h
  exact ⟨⟨ends_of ts h1, h2, fun t ht => (h3 t ht).1.1⟩, fun t ht e => absurd e (h3 t ht).1.2, fun t ht e => absurd e (h3 t ht).2⟩
theorem okA : okB txA = true := by decide +kernel
theorem okBB : okB txB = true := by decide +kernel
theorem okP : okB txP = true := by decide +kernel
theorem parA : parP txA = .ok cA := by decide +kernel
theorem parB : parP txB = .bad ⟨85, 25, 1, 26⟩ := by decide +kernel
theorem parPr : parP txP = .ok cA := by decide +kernel
theorem chkA : (chkC cA).2 = 0 := by decide +kernel
end Go.Proofs.YtkbodljmkhnebaaGreatDoor.Cir
/- What each call of the set-up comes to. -/
namespace Go.Proofs.YtkbodljmkhnebaaGreatDoor.Cir
open Go.RowKit Go.Shelf Go.Proofs.YtkbodljmkhnebaaGreatDoor.Oct Go.Proofs.YtkbodljmkhnebaaGreatDoor.Tok Go.Proofs.YtkbodljmkhnebaaGreatDoor.Gt

/-- What the program's variables hold. -/
structure Tq (w : World) : Prop where
  tx : Tx w
  tb : Tb w
  te : Te8 w
theorem Tq.below {w w' : World} (h : Tq w) (hb : Below w.heap.size w w') : Tq w' := ⟨h.tx.below hb, h.tb.below hb, h.te.below (World.block_lt_of_cell? _ _ h.te) hb⟩
theorem prA : prP cA = txP := by decide +kernel
theorem own_cell8 {w : World} {B e size n m c : Nat} {ao : Option Addr} {xs : List Value} (h : w.ownsRow B e size (.slice ao m c) n xs) (hn : n ≠ 0) : ∃ g, ao = some ⟨g, 0, none⟩ ∧ ∀ j v, xs[j]? = some v → w.cell? ⟨g, j, none⟩ = some v := by
  rcases h.2 with ⟨_, h0⟩ | ⟨g, cap, cur, hv, _⟩
  · exact absurd h0 hn
  · simp only [Value.slice.injEq] at hv
    refine ⟨g, hv.1, fun j v hj => ?_⟩
    have hc := h.cells (g := g) (by rw [ob_eq, hv.1]; rfl) j v hj
    rw [Addr.add_lit, Nat.zero_add] at hc
    exact hc
/-- The circuit of the set-up in memory: what is read of it. -/
structure CA (w : World) (B : Nat) (ao : Option Addr) (k : Nat) : Prop where
  ops : OpsAt w B ao 7 k cA.ops
  cells : ∃ g gq oq cq, ao = some ⟨g, 0, none⟩ ∧ g < w.heap.size ∧ w.cell? ⟨g, 13, none⟩ = some (.int .i64 9) ∧ w.cell? ⟨g, 20, none⟩ = some (.slice (some ⟨gq, oq, none⟩) 2 cq) ∧ w.cell? ⟨gq, oq + 1, none⟩ = some (.int .i64 2) ∧ w.cell? ⟨g, 28, none⟩ = some (.int .i64 1) ∧ w.cell? ⟨g, 39, none⟩ = some (.int .i64 1) ∧ gq < w.heap.size
theorem CA.of {w : World} {B : Nat} {ao : Option Addr} {k : Nat} (h : OpsAt w B ao 7 k cA.ops) : CA w B ao k := by
  refine ⟨h, ?_⟩
  obtain ⟨xs, h1, h2, h3, h4⟩ := h
  obtain ⟨g, rfl, hc⟩ := own_cell8 h3 (by decide)
  match xs, h1 with
  | [x0, x1, x2, x3, x4, x5, x6], _ =>
    simp only [cA, List.map_cons, List.map_nil, List.cons.injEq, and_true] at h2
    obtain ⟨e0, e1, e2, e3, e4, e5, e6⟩ := h2
    have hI := h4 x3 (by simp)
    rw [← e3] at hI
    rcases hI with ⟨hn, _⟩ | ⟨gq, oq, cq, cs, fr, hv, hl, hg, hz⟩
    · cases hn
    · refine ⟨g, gq, oq, cq, rfl, (own_lt h3 g rfl).2, ?_, ?_, ?_, ?_, ?_, (Array.getElem?_eq_some_iff.1 hg).1⟩
      · refine hc 13 _ ?_
        show some (Value.int .i64 x2.1.gate) = _
        rw [← e2]
      · refine hc 20 _ ?_
        show some x3.2 = _
        rw [hv]
        rfl
      · rw [cell_of_row _ _ _ _ _ _ hg]
        exact hz 1 2 rfl
      · refine hc 28 _ ?_
        show some (Value.int .i64 x4.1.cond) = _
        rw [← e4]
      · refine hc 39 _ ?_
        show some (Value.int .i64 x6.1.bit) = _
        rw [← e6]
theorem CA.below {w w' : World} {B : Nat} {ao : Option Addr} {k : Nat} (h : CA w B ao k) (hb : Below w.heap.size w w') : CA w' B ao k := CA.of (h.ops.below hb)
theorem CA.ci {w : World} {B : Nat} {ao : Option Addr} {k : Nat} (h : CA w B ao k) : Ci w cA ao k := ⟨h.ops.rd.1, h.ops.rd.2, by decide, by decide⟩
theorem aParse (l : List UInt8) (hl : l.length ≤ 1000) (hk : okB l = true) (hp : parP l = .ok cA) (w : World) (hT : Tq w) : Calls Tryz.prog 25 #[str l] w fun e w' => ∃ ao k, e = .returned (.tuple #[.agg #[.int .i64 3, .int .i64 2, .slice ao 7 k], .agg #[.int .i64 0, .int .i64 0, .int .i64 0, .int .i64 0]]) ∧ CA w' w.heap.size ao k ∧ Below w.heap.size w w' := by
  refine (cParse l (by omega) w hT.tx.tw hT.tb hT.te (okB_bad hk) (okB_ok hk)).mono ?_
  intro e w' h
  unfold PPa at h
  rw [hp] at h
  obtain ⟨hb, ao, k, rfl, ho⟩ := h
  exact ⟨ao, k, rfl, CA.of ho, hb⟩
theorem aParseB (w : World) (hT : Tq w) : Calls Tryz.prog 25 #[str txB] w fun e w' => e = .returned (.tuple #[.agg #[.int .i64 0, .int .i64 0, .slice none 0 0], .agg #[.int .i64 85, .int .i64 25, .int .i64 1, .int .i64 26]]) ∧ Below w.heap.size w w' := by
  refine (cParse txB (by decide) w hT.tx.tw hT.tb hT.te (okB_bad okBB) (okB_ok okBB)).mono ?_
  intro e w' h
  unfold PPa at h
  rw [parB] at h
  exact ⟨h.2, h.1⟩
theorem aPrint (ao : Option Addr) (k B : Nat) (w : World) (hT : Tq w) (hC : CA w B ao k) : Calls Tryz.prog 27 #[.agg #[.int .i64 3, .int .i64 2, .slice ao 7 k]] w fun e w' => e = .returned (.tuple #[str txP, .int .i64 0]) ∧ Below w.heap.size w w' := by
  have h := cPrint cA ao k chkA w hT.tb hT.tx.ten hC.ci
  rw [prA] at h
  exact h
/-- The small circuit that may not be. -/
def cN : Circ := ⟨1, 0, [⟨3, 0, [1], 0, -1, 0⟩]⟩
theorem chkN : chkC cN = (0, 80) := by decide +kernel
theorem aCheck (g gq : Nat) (w : World) (hT : Tq w) (hg : w.heap[g]? = some (.cells #[.int .i64 3, .int .i64 0, .slice (some ⟨gq, 0, none⟩) 1 1, .int .i64 0, .int .i64 (-1), .int .i64 0] 40 (0, 0))) (hq : w.heap[gq]? = some (.cells #[.int .i64 1] 3 (0, 0))) : Calls Tryz.prog 9 #[.agg #[.int .i64 1, .int .i64 0, .slice (some ⟨g, 0, none⟩) 1 1]] w fun e w' => e = .returned (.tuple #[.int .i64 0, .int .i64 80]) ∧ Below w.heap.size w w' := by
  obtain ⟨y0, y1, y2, y3, y4, y5, y6⟩ := op6_cells hg
  have h := cCheck cN (some ⟨g, 0, none⟩) 1 w hT.tb ⟨.inr ⟨g, 0, rfl, fun i o ho => by
    match i, ho with
    | 0, ho =>
      simp only [cN, List.getElem?_cons_zero, Option.some.injEq] at ho
      subst ho
      refine ⟨some ⟨gq, 0, none⟩, 1, y0, y1, y2, y3, y4, y5, Nat.le_refl _, .inr ⟨gq, 0, rfl, fun j z hz => ?_⟩⟩
      match j, hz with
      | 0, hz =>
        simp only [List.getElem?_cons_zero, Option.some.injEq] at hz
        subst hz
        rw [cell_of_row _ _ _ _ _ _ hq]
        rfl
      | j + 1, hz => simp at hz
    | i + 1, ho => simp [cN] at ho⟩, by decide, by decide, by decide⟩
  rw [chkN] at h
  exact h
theorem smlA : Sml cA.ops := by unfold Sml; decide
theorem aAppend (ao bo : Option Addr) (k j B B' : Nat) (w : World) (hT : Tq w) (hA : CA w B ao k) (hD : CA w B' bo j) : Calls Tryz.prog 46 #[.agg #[.int .i64 3, .int .i64 2, .slice ao 7 k], .agg #[.int .i64 3, .int .i64 2, .slice bo 7 j]] w fun e w' => ∃ (g cap : Nat), e = .returned (.tuple #[.agg #[.int .i64 3, .int .i64 2, .slice (some ⟨g, 0, none⟩) 14 cap], .int .i64 0]) ∧ Below w.heap.size w w' := by
  refine (cAppend cA cA ao bo k j chkA chkA (by decide) (by decide) smlA smlA w hT.tb hA.ci hD.ci).mono ?_
  rintro e w' ⟨g, cap, rfl, _, hb⟩
  exact ⟨g, cap, rfl, hb⟩
theorem aEmbed (ao : Option Addr) (k B : Nat) (w : World) (hT : Tq w) (hA : CA w B ao k) : Calls Tryz.prog 47 #[.agg #[.int .i64 3, .int .i64 2, .slice ao 7 k], .slice none 0 0, .slice none 0 0, .int .i64 3, .int .i64 2] w fun e w' => e = .returned (.tuple #[.agg #[.int .i64 0, .int .i64 0, .slice none 0 0], .int .i64 2]) ∧ Below w.heap.size w w' :=
  cEmbed_no cA ao k none none 0 0 0 0 3 2 chkA (by decide) w hT.tb hA.ci
theorem cntA : cntF cA.ops 2 = .int .i64 2 := by kernel_rfl
theorem aCounts (ao : Option Addr) (k B : Nat) (w : World) (hT : Tq w) (hA : CA w B ao k) : Calls Tryz.prog 11 #[.agg #[.int .i64 3, .int .i64 2, .slice ao 7 k]] w fun e w' => ∃ g, e = .returned (.slice (some ⟨g, 0, none⟩) 21 21) ∧ w'.cell? ⟨g, 2, none⟩ = some (.int .i64 2) ∧ g < w'.heap.size ∧ Below w.heap.size w w' := by
  refine (cCounts cA ao k w hT.tb hA.ci).mono ?_
  rintro e w' ⟨g, rfl, hR, _, hb⟩
  exact ⟨g, rfl, (hR.cell 2 (by decide)).trans (by rw [cntA]), hR.lt, hb⟩
theorem aSame (ao bo : Option Addr) (k j B B' : Nat) (w : World) (hA : CA w B ao k) (hD : CA w B' bo j) : Calls Tryz.prog 24 #[.agg #[.int .i64 3, .int .i64 2, .slice ao 7 k], .agg #[.int .i64 3, .int .i64 2, .slice bo 7 j]] w fun e w' => e = .returned (.bool true) ∧ Below w.heap.size w w' := by
  have h := cSame cA cA ao bo k j w hA.ci hD.ci
  rw [decide_eq_true rfl] at h
  exact h
theorem aCopy (ao : Option Addr) (k B : Nat) (w : World) (hA : CA w B ao k) : Calls Tryz.prog 20 #[.agg #[.int .i64 3, .int .i64 2, .slice ao 7 k]] w fun e w' => ∃ bo j, e = .returned (.agg #[.int .i64 3, .int .i64 2, .slice bo 7 j]) ∧ CA w' w.heap.size bo j ∧ Below w.heap.size w w' := by
  refine (cCopy cA ao k smlA w hA.ci).mono ?_
  rintro e w' ⟨bo, j, rfl, ho, hb⟩
  exact ⟨bo, j, rfl, CA.of ho, hb⟩
theorem aHalves (ao : Option Addr) (k B : Nat) (w : World) (hT : Tq w) (hA : CA w B ao k) : Calls Tryz.prog 14 #[.agg #[.int .i64 3, .int .i64 2, .slice ao 7 k]] w fun e w' => e = .returned (.int .i64 1) ∧ Below w.heap.size w w' := by
  have h := cHalves cA ao k w hT.tb hA.ci
  rw [show hlvP cA.ops = 1 by decide +kernel] at h
  exact h
theorem aUnitary (ao : Option Addr) (k B : Nat) (w : World) (hA : CA w B ao k) : Calls Tryz.prog 16 #[.agg #[.int .i64 3, .int .i64 2, .slice ao 7 k]] w fun e w' => e = .returned (.bool false) ∧ Below w.heap.size w w' := by
  have h := cUnitary cA ao k w hA.ci
  rw [show (!cA.ops.any unO) = false by decide +kernel] at h
  exact h
theorem aClifford (ao : Option Addr) (k B : Nat) (w : World) (hT : Tq w) (hA : CA w B ao k) : Calls Tryz.prog 18 #[.agg #[.int .i64 3, .int .i64 2, .slice ao 7 k]] w fun e w' => e = .returned (.bool true) ∧ Below w.heap.size w w' := by
  have h := cClifford cA ao k w hT.tb hA.ci
  rw [show (!cA.ops.any clO) = true by decide +kernel] at h
  exact h
theorem aNum (z : Int) (w : World) : Calls Tryz.prog 13 #[.int .i64 z] w fun e w' => e = .returned (.int .i64 z) ∧ w' = w := by
  go_enter Tryz.func13, Tryz.ntmps13
  go_wp2_with fail
  go_ret
  exact ⟨rfl, rfl⟩
end Go.Proofs.YtkbodljmkhnebaaGreatDoor.Cir
/- The set-up, as it is walked. -/
namespace Go.Proofs.YtkbodljmkhnebaaGreatDoor.Cir
open Go.RowKit Go.Shelf Go.Proofs.YtkbodljmkhnebaaGreatDoor.Oct Go.Proofs.YtkbodljmkhnebaaGreatDoor.Tok Go.Proofs.YtkbodljmkhnebaaGreatDoor.Gt

theorem two_new (w : World) (c1 c2 : Array Value) (t1 t2 : TypeId) : Below w.heap.size w ((w.alloc (.cells c1 t1)).alloc (.cells c2 t2)) ∧ ((w.alloc (.cells c1 t1)).alloc (.cells c2 t2)).heap[w.heap.size]? = some (.cells c1 t1 (0, 0)) ∧ ((w.alloc (.cells c1 t1)).alloc (.cells c2 t2)).heap[w.heap.size + 1]? = some (.cells c2 t2 (0, 0)) := by
  obtain ⟨h1, h2⟩ := may_keep (Below.refl ((w.alloc (.cells c1 t1)).alloc (.cells c2 t2)).heap.size ((w.alloc (.cells c1 t1)).alloc (.cells c2 t2)))
  exact ⟨(bnew _ _).trans ((bnew _ _).mono (by simp)), h1, h2⟩
theorem blk_keep {w V : World} (hb : Below w.heap.size w V) {g : Nat} {o : Obj} (h : w.heap[g]? = some o) : V.heap[g]? = some o := (hb.block g (Array.getElem?_eq_some_iff.1 h).1).trans h
theorem bel_keep {w V U : World} (h1 : Below w.heap.size w V) (h2 : Below V.heap.size V U) : Below w.heap.size w U := h1.trans (h2.mono h1.size)
theorem c4_cells {w1 : World} {c : Nat} {x0 x1 x2 x3 : Value} {t : TypeId} (h : w1.heap[c]? = some (.cells #[x0, x1, x2, x3] t (0, 0))) : w1.cell? ⟨c, 0, none⟩ = some x0 ∧ w1.cell? ⟨c, 1, none⟩ = some x1 ∧ w1.cell? ⟨c, 2, none⟩ = some x2 ∧ w1.cell? ⟨c, 3, none⟩ = some x3 ∧ c < w1.heap.size := by
  refine ⟨?_, ?_, ?_, ?_, (Array.getElem?_eq_some_iff.1 h).1⟩ <;> rw [cell_of_row _ _ _ _ _ _ h] <;> rfl
set_option maxRecDepth 100000 in
set_option maxHeartbeats 4000000 in
theorem aAlive (w : World) (hT : Tq w) : Calls Tryz.prog 23 #[] w fun e w' => e = .returned (.bool true) ∧ Below w.heap.size w w' := by
  have c1 := aParse txA (by decide) okA parA w hT
  have c3 := fun V hV => aParse txP (by decide) okP parPr V hV
  have c4 := fun V hV => aParseB V hV
  unfold str txA at c1
  unfold str at c3
  unfold str txB at c4
  have C3 := hide c3
  have C4 := hide c4
  clear c3 c4
  go_enter Tryz.func23, Tryz.ntmps23
  go_wp2_with (first
    | (go_at_call 25; refine c1.mono ?_; clear c1; rintro e w1 ⟨ao, k, rfl, hA1, hb1⟩; obtain ⟨g, gq, oq, cq, rfl, hg1, x13, x20, xq, x28, x39, hgq⟩ := hA1.cells))
  clear x13 x20 xq x28 x39 hgq hg1
  have F1 := two_new w1 #[.int .i64 3, .int .i64 2, .slice (some ⟨g, 0, none⟩) 7 k] #[.int .i64 0, .int .i64 0, .int .i64 0, .int .i64 0] 24 45
  generalize ((w1.alloc (.cells #[.int .i64 3, .int .i64 2, .slice (some ⟨g, 0, none⟩) 7 k] 24)).alloc (.cells #[.int .i64 0, .int .i64 0, .int .i64 0, .int .i64 0] 45)) = W1 at F1 ⊢
  obtain ⟨F1a, F1b, -⟩ := F1
  have H1 : Hid (∀ V, Below W1.heap.size W1 V → V.heap[w1.heap.size]? = some (.cells #[.int .i64 3, .int .i64 2, .slice (some ⟨g, 0, none⟩) 7 k] 24 (0, 0)) ∧ CA V w.heap.size (some ⟨g, 0, none⟩) k ∧ Tq V ∧ Below w.heap.size w V) := hide (fun V hV => ⟨blk_keep hV F1b, hA1.below (bel_keep F1a hV), hT.below (bel_keep hb1 (bel_keep F1a hV)), bel_keep hb1 (bel_keep F1a hV)⟩)
  generalize w1.heap.size = n1 at *
  clear F1a F1b hA1 hb1
  obtain ⟨-, a1, a2, -⟩ := H1.out W1 (Below.refl _ _)
  refine (aPrint (some ⟨g, 0, none⟩) k w.heap.size W1 a2 a1).mono ?_
  rintro e w2 ⟨rfl, hb2⟩
  clear a1 a2
  unfold str
  obtain ⟨-, -, a2, -⟩ := H1.out w2 hb2
  generalize (⟨txP.toArray⟩ : ByteArray) = tb at *
  go_wp2_with fail
  refine (C3.out w2 a2).mono ?_
  rintro e w3 ⟨bo, j, rfl, hA3, hb3⟩
  clear C3 a2
  go_wp2_with fail
  have F3 := two_new w3 #[.int .i64 3, .int .i64 2, .slice bo 7 j] #[.int .i64 0, .int .i64 0, .int .i64 0, .int .i64 0] 24 45
  generalize ((w3.alloc (.cells #[.int .i64 3, .int .i64 2, .slice bo 7 j] 24)).alloc (.cells #[.int .i64 0, .int .i64 0, .int .i64 0, .int .i64 0] 45)) = W3 at F3 ⊢
  obtain ⟨F3a, F3b, F3c⟩ := F3
  have H3 : Hid (∀ V, Below W3.heap.size W3 V → V.heap[w3.heap.size]? = some (.cells #[.int .i64 3, .int .i64 2, .slice bo 7 j] 24 (0, 0)) ∧ V.heap[w3.heap.size + 1]? = some (.cells #[.int .i64 0, .int .i64 0, .int .i64 0, .int .i64 0] 45 (0, 0)) ∧ CA V w2.heap.size bo j ∧ Below W1.heap.size W1 V) := hide (fun V hV => ⟨blk_keep hV F3b, blk_keep hV F3c, hA3.below (bel_keep F3a hV), bel_keep hb2 (bel_keep hb3 (bel_keep F3a hV))⟩)
  generalize w3.heap.size = n3 at *
  clear F3a F3b F3c hA3 hb2 hb3
  obtain ⟨-, -, -, a3⟩ := H3.out W3 (Below.refl _ _)
  obtain ⟨-, -, a2, -⟩ := H1.out W3 a3
  refine (C4.out W3 a2).mono ?_
  rintro e w4 ⟨rfl, hb4⟩
  clear C4 a2 a3
  go_wp2_with fail
  have F4 := two_new w4 #[.int .i64 0, .int .i64 0, .slice none 0 0] #[.int .i64 85, .int .i64 25, .int .i64 1, .int .i64 26] 24 45
  have F5 := two_new ((w4.alloc (.cells #[.int .i64 0, .int .i64 0, .slice none 0 0] 24)).alloc (.cells #[.int .i64 85, .int .i64 25, .int .i64 1, .int .i64 26] 45)) #[.int .i64 1] #[.int .i64 3, .int .i64 0, .slice (some ⟨w4.heap.size + 1 + 1, 0, none⟩) 1 1, .int .i64 0, .int .i64 (-1), .int .i64 0] 3 40
  have z5 : ((w4.alloc (.cells #[.int .i64 0, .int .i64 0, .slice none 0 0] 24)).alloc (.cells #[.int .i64 85, .int .i64 25, .int .i64 1, .int .i64 26] 45)).heap.size = w4.heap.size + 1 + 1 := by simp
  rw [z5] at F5
  generalize hW5 : ((((w4.alloc (.cells #[.int .i64 0, .int .i64 0, .slice none 0 0] 24)).alloc (.cells #[.int .i64 85, .int .i64 25, .int .i64 1, .int .i64 26] 45)).alloc (.cells #[.int .i64 1] 3)).alloc (.cells #[.int .i64 3, .int .i64 0, .slice (some ⟨w4.heap.size + 1 + 1, 0, none⟩) 1 1, .int .i64 0, .int .i64 (-1), .int .i64 0] 40)) = W5 at F5 ⊢
  obtain ⟨F4a, -, F4c⟩ := F4
  obtain ⟨F5a, F5b, F5c⟩ := F5
  have F5d : Below ((w4.alloc (.cells #[.int .i64 0, .int .i64 0, .slice none 0 0] 24)).alloc (.cells #[.int .i64 85, .int .i64 25, .int .i64 1, .int .i64 26] 45)).heap.size ((w4.alloc (.cells #[.int .i64 0, .int .i64 0, .slice none 0 0] 24)).alloc (.cells #[.int .i64 85, .int .i64 25, .int .i64 1, .int .i64 26] 45)) W5 := by rw [z5]; exact F5a
  have H4 : Hid (∀ V, Below W5.heap.size W5 V → V.heap[w4.heap.size + 1]? = some (.cells #[.int .i64 85, .int .i64 25, .int .i64 1, .int .i64 26] 45 (0, 0)) ∧ Below W3.heap.size W3 V) := hide (fun V hV => ⟨blk_keep (bel_keep F5d hV) F4c, bel_keep hb4 (bel_keep F4a (bel_keep F5d hV))⟩)
  clear F4a F4c F5a F5d z5 hW5 hb4
  generalize w4.heap.size = n4 at *
  obtain ⟨-, a4⟩ := H4.out W5 (Below.refl _ _)
  obtain ⟨-, -, -, a3⟩ := H3.out W5 a4
  obtain ⟨-, -, a2, -⟩ := H1.out W5 a3
  refine (aCheck (n4 + 1 + 1 + 1) (n4 + 1 + 1) W5 a2 F5c F5b).mono ?_
  clear F5b F5c a2 a3 a4
  rintro e w5 ⟨rfl, hb5⟩
  obtain ⟨-, a4⟩ := H4.out w5 hb5
  obtain ⟨m3, -, d3, a3⟩ := H3.out w5 a4
  obtain ⟨m1, d1, a2, -⟩ := H1.out w5 a3
  obtain ⟨x0, x1, x2, x3⟩ := def_cells m1
  obtain ⟨y0, y1, y2, y3⟩ := def_cells m3
  go_wp2_with fail
  clear x0 x1 x2 x3 y0 y1 y2 y3 m1 m3
  refine (aAppend _ _ _ _ _ _ w5 a2 d1 d3).mono ?_
  rintro e w6 ⟨gj, capj, rfl, hb6⟩
  clear a2 d1 d3 a3 a4
  have F6 := bnew w6 (.cells #[.int .i64 3, .int .i64 2, .slice (some ⟨gj, 0, none⟩) 14 capj] 24)
  have F6b := heap_alloc_new w6 (.cells #[.int .i64 3, .int .i64 2, .slice (some ⟨gj, 0, none⟩) 14 capj] 24)
  have H6 : Hid (∀ V, Below w6.heap.size w6 V → Below W5.heap.size W5 V) := hide (fun V hV => bel_keep hb5 (bel_keep hb6 hV))
  obtain ⟨-, a4⟩ := H4.out _ (H6.out _ F6)
  obtain ⟨-, -, -, a3⟩ := H3.out _ a4
  obtain ⟨m1, d1, a2, -⟩ := H1.out _ a3
  obtain ⟨x0, x1, x2, x3⟩ := def_cells m1
  clear hb5 hb6
  go_wp2_with fail
  clear x0 x1 x2 x3 m1 a3 a4
  refine (aEmbed _ _ _ _ a2 d1).mono ?_
  rintro e w7 ⟨rfl, hb7⟩
  clear a2 d1
  have F7 := bnew w7 (.cells #[.int .i64 0, .int .i64 0, .slice none 0 0] 24)
  have H7 : Hid (∀ V, Below w7.heap.size w7 V → V.heap[w6.heap.size]? = some (.cells #[.int .i64 3, .int .i64 2, .slice (some ⟨gj, 0, none⟩) 14 capj] 24 (0, 0)) ∧ Below W5.heap.size W5 V) := hide (fun V hV => ⟨blk_keep (bel_keep hb7 hV) F6b, H6.out V (bel_keep F6 (bel_keep hb7 hV))⟩)
  clear F6b F6 H6 hb7
  generalize w6.heap.size = n6 at *
  have HA : Hid (∀ V, Below w7.heap.size w7 V → CA V w.heap.size (some ⟨g, 0, none⟩) k ∧ CA V w2.heap.size bo j ∧ Tq V ∧ Below w.heap.size w V) := hide (fun V hV => by
    obtain ⟨-, b5⟩ := H7.out V hV
    obtain ⟨-, b4⟩ := H4.out V b5
    obtain ⟨-, -, p1, b3⟩ := H3.out V b4
    obtain ⟨-, p2, p3, p4⟩ := H1.out V b3
    exact ⟨p2, p1, p3, p4⟩)
  have HC : Hid (∀ V, Below w7.heap.size w7 V → (V.cell? ⟨n1, 0, none⟩ = some (.int .i64 3) ∧ V.cell? ⟨n1, 1, none⟩ = some (.int .i64 2) ∧ V.cell? ⟨n1, 2, none⟩ = some (.slice (some ⟨g, 0, none⟩) 7 k) ∧ n1 < V.heap.size) ∧ (V.cell? ⟨n3, 0, none⟩ = some (.int .i64 3) ∧ V.cell? ⟨n3, 1, none⟩ = some (.int .i64 2) ∧ V.cell? ⟨n3, 2, none⟩ = some (.slice bo 7 j) ∧ n3 < V.heap.size) ∧ (V.cell? ⟨n3 + 1, 0, none⟩ = some (.int .i64 0) ∧ V.cell? ⟨n3 + 1, 1, none⟩ = some (.int .i64 0) ∧ V.cell? ⟨n3 + 1, 2, none⟩ = some (.int .i64 0) ∧ V.cell? ⟨n3 + 1, 3, none⟩ = some (.int .i64 0) ∧ n3 + 1 < V.heap.size) ∧ (V.cell? ⟨n4 + 1, 0, none⟩ = some (.int .i64 85) ∧ V.cell? ⟨n4 + 1, 1, none⟩ = some (.int .i64 25) ∧ V.cell? ⟨n4 + 1, 2, none⟩ = some (.int .i64 1) ∧ V.cell? ⟨n4 + 1, 3, none⟩ = some (.int .i64 26) ∧ n4 + 1 < V.heap.size) ∧ (V.cell? ⟨n6, 0, none⟩ = some (.int .i64 3) ∧ V.cell? ⟨n6, 1, none⟩ = some (.int .i64 2) ∧ V.cell? ⟨n6, 2, none⟩ = some (.slice (some ⟨gj, 0, none⟩) 14 capj) ∧ n6 < V.heap.size)) := hide (fun V hV => by
    obtain ⟨p6, b5⟩ := H7.out V hV
    obtain ⟨p4, b4⟩ := H4.out V b5
    obtain ⟨p3, p3', -, b3⟩ := H3.out V b4
    obtain ⟨p1, -, -, -⟩ := H1.out V b3
    exact ⟨def_cells p1, def_cells p3, c4_cells p3', c4_cells p4, def_cells p6⟩)
  clear H7 H4 H3 H1
  obtain ⟨⟨x0, x1, x2, x3⟩, -⟩ := HC.out _ F7
  go_wp2_with fail
  clear x0 x1 x2 x3
  obtain ⟨d1, -, a2, -⟩ := HA.out _ F7
  refine (aCounts _ _ _ _ a2 d1).mono ?_
  rintro e w8 ⟨gn, rfl, hcn, hgn, hb8⟩
  have hb8' := bel_keep F7 hb8
  clear d1 a2 hb8 F7
  have HS : Hid (∀ V, Below w8.heap.size w8 V → Below w8.heap.size w8 V ∧ V.cell? ⟨n1, 0, none⟩ = some (.int .i64 3) ∧ V.cell? ⟨n1, 1, none⟩ = some (.int .i64 2) ∧ V.cell? ⟨n1, 2, none⟩ = some (.slice (some ⟨g, 0, none⟩) 7 k) ∧ V.cell? ⟨n3, 0, none⟩ = some (.int .i64 3) ∧ V.cell? ⟨n3, 1, none⟩ = some (.int .i64 2) ∧ V.cell? ⟨n3, 2, none⟩ = some (.slice bo 7 j) ∧ V.cell? ⟨n3 + 1, 0, none⟩ = some (.int .i64 0) ∧ V.cell? ⟨n3 + 1, 1, none⟩ = some (.int .i64 0) ∧ V.cell? ⟨n3 + 1, 2, none⟩ = some (.int .i64 0) ∧ V.cell? ⟨n3 + 1, 3, none⟩ = some (.int .i64 0) ∧ V.cell? ⟨n4 + 1, 0, none⟩ = some (.int .i64 85) ∧ V.cell? ⟨n4 + 1, 1, none⟩ = some (.int .i64 25) ∧ V.cell? ⟨n6, 2, none⟩ = some (.slice (some ⟨gj, 0, none⟩) 14 capj) ∧ V.cell? ⟨gn, 2, none⟩ = some (.int .i64 2)) := hide (fun V hV => by
    obtain ⟨⟨x0, x1, x2, -⟩, ⟨y0, y1, y2, -⟩, ⟨z0, z1, z2, z3, -⟩, ⟨r0, r1, -⟩, ⟨-, -, t2, -⟩⟩ := HC.out _ (bel_keep hb8' hV)
    exact ⟨hV, x0, x1, x2, y0, y1, y2, z0, z1, z2, z3, r0, r1, t2, (hV.cell (p := ⟨gn, 2, none⟩) hgn).trans hcn⟩)
  have HCa : Hid (∀ V, Below w8.heap.size w8 V → CA V w.heap.size (some ⟨g, 0, none⟩) k ∧ CA V w2.heap.size bo j ∧ Tq V ∧ Below w.heap.size w V) := hide (fun V hV => HA.out V (bel_keep hb8' hV))
  have HS1 := hide (fun V (hV : Below w8.heap.size w8 V) => aSame _ _ _ _ _ _ V (HCa.out V hV).1 (HCa.out V hV).2.1)
  have HS2 := hide (fun V bo2 j2 B2 (hV : Below w8.heap.size w8 V) (h2 : CA V B2 bo2 j2) => aSame _ _ _ _ _ _ V (HCa.out V hV).1 h2)
  have HS3 := hide (fun V (hV : Below w8.heap.size w8 V) => aCopy _ _ _ V (HCa.out V hV).1)
  have HS4 := hide (fun V (hV : Below w8.heap.size w8 V) => aHalves _ _ _ V (HCa.out V hV).2.2.1 (HCa.out V hV).1)
  have HS5 := hide (fun V (hV : Below w8.heap.size w8 V) => aUnitary _ _ _ V (HCa.out V hV).1)
  have HS6 := hide (fun V (hV : Below w8.heap.size w8 V) => aClifford _ _ _ V (HCa.out V hV).2.2.1 (HCa.out V hV).1)
  have hbD : Below w8.heap.size w8 w8.drew := (Below.refl _ _).drew
  clear HA HC hcn hgn hb8'
  go_wp2_with fail
  simp only [List.append_eq, List.cons_append, List.nil_append]
  go_region_held3 (fun V => Below w8.heap.size w8 V ∧ V.cell? ⟨n1, 0, none⟩ = some (.int .i64 3) ∧ V.cell? ⟨n1, 1, none⟩ = some (.int .i64 2) ∧ V.cell? ⟨n1, 2, none⟩ = some (.slice (some ⟨g, 0, none⟩) 7 k) ∧ V.cell? ⟨n3, 0, none⟩ = some (.int .i64 3) ∧ V.cell? ⟨n3, 1, none⟩ = some (.int .i64 2) ∧ V.cell? ⟨n3, 2, none⟩ = some (.slice bo 7 j) ∧ V.cell? ⟨n3 + 1, 0, none⟩ = some (.int .i64 0) ∧ V.cell? ⟨n3 + 1, 1, none⟩ = some (.int .i64 0) ∧ V.cell? ⟨n3 + 1, 2, none⟩ = some (.int .i64 0) ∧ V.cell? ⟨n3 + 1, 3, none⟩ = some (.int .i64 0) ∧ V.cell? ⟨n4 + 1, 0, none⟩ = some (.int .i64 85) ∧ V.cell? ⟨n4 + 1, 1, none⟩ = some (.int .i64 25) ∧ V.cell? ⟨n6, 2, none⟩ = some (.slice (some ⟨gj, 0, none⟩) 14 capj) ∧ V.cell? ⟨gn, 2, none⟩ = some (.int .i64 2))
    (first | (with_reducible exact HS.out _ (by assumption)) | (with_reducible assumption))
    (first
      | (go_at_call 13; (with_reducible refine Calls.mono (aNum _ _) ?_); rintro e v ⟨rfl, rfl⟩)
      | (go_at_call 24; (with_reducible refine Calls.mono (HS1.out _ (‹Below w8.heap.size w8 _ ∧ _›.1)) ?_); rintro e v ⟨rfl, q⟩; have hbx := bel_keep (‹Below w8.heap.size w8 _ ∧ _›.1) q)
      | (go_at_call 24; (with_reducible refine Calls.mono (HS2.out _ _ _ _ (‹Below w8.heap.size w8 _ ∧ _›.1) hcp) ?_); rintro e v ⟨rfl, q⟩; have hbx := bel_keep (‹Below w8.heap.size w8 _ ∧ _›.1) q)
      | (go_at_call 20; (with_reducible refine Calls.mono (HS3.out _ (‹Below w8.heap.size w8 _ ∧ _›.1)) ?_); rintro e v ⟨bo2, j2, rfl, hcp, q⟩; have hbx := bel_keep (‹Below w8.heap.size w8 _ ∧ _›.1) q)
      | (go_at_call 14; (with_reducible refine Calls.mono (HS4.out _ (‹Below w8.heap.size w8 _ ∧ _›.1)) ?_); rintro e v ⟨rfl, q⟩; have hbx := bel_keep (‹Below w8.heap.size w8 _ ∧ _›.1) q)
      | (go_at_call 16; (with_reducible refine Calls.mono (HS5.out _ (‹Below w8.heap.size w8 _ ∧ _›.1)) ?_); rintro e v ⟨rfl, q⟩; have hbx := bel_keep (‹Below w8.heap.size w8 _ ∧ _›.1) q)
      | (go_at_call 18; (with_reducible refine Calls.mono (HS6.out _ (‹Below w8.heap.size w8 _ ∧ _›.1)) ?_); rintro e v ⟨rfl, q⟩; have hbx := bel_keep (‹Below w8.heap.size w8 _ ∧ _›.1) q))
  go_wp2_with fail
  go_ret
  exact ⟨rfl, (HCa.out _ hbx).2.2.2⟩
end Go.Proofs.YtkbodljmkhnebaaGreatDoor.Cir
/- The document's Same (gen_dd8.py). -/
namespace Go.Proofs.YtkbodljmkhnebaaGreatDoor.Cir
open Go.RowKit Go.Shelf Go.Proofs.YtkbodljmkhnebaaGreatDoor.Oct Go.Proofs.YtkbodljmkhnebaaGreatDoor.Tok Go.Proofs.YtkbodljmkhnebaaGreatDoor.Gt

set_option maxRecDepth 100000 in
set_option maxHeartbeats 1000000 in
theorem eInts (a b : Option Addr) (ca cb : Nat) (l m : List Int) (hl : l.length ≤ 1000000000000000) (w : World) (hA : Ns w a l) (hB : Ns w b m) : Calls Tryz.prog 85 #[.slice a l.length ca, .slice b m.length cb] w fun e w' => e = .returned (.bool (decide (l = m))) ∧ Below w.heap.size w w' := by
  by_cases hlm : l.length = m.length
  · have HA := hide hA
    have HB := hide hB
    obtain ⟨n, hn⟩ : ∃ n, l.length = n := ⟨_, rfl⟩
    have HL := hide hn
    have HM : Hid (m.length = n) := hide (by omega)
    obtain ⟨R, hR⟩ : ∃ R, decide (l = m) = R := ⟨_, rfl⟩
    have HR := hide hR
    rw [← hlm, hn, hR]
    rw [hn] at hl
    clear hA hB hn hlm hR
    go_enter Tryz.func85, Tryz.ntmps85
    go_wp2_with fail
    go_loopw [5] (fun vi wr => ∃ i : Nat, vi = .int .i64 (i : Int) ∧ i ≤ n ∧ Hid (l.take i = m.take i) ∧ Below w.heap.size w wr) (fun vi _ => n - (Go.RowKit.intOf vi).toNat)
    case atStart => exact ⟨0, rfl, Nat.zero_le _, hide rfl, Below.refl _ _⟩
    case round =>
      obtain ⟨i, rfl, hi, HS, hb⟩ := hrel
      by_cases h : i < n
      · have hd : decide ((i : Int) < (n : Int)) = true := decide_eq_true (by omega)
        obtain ⟨x, hx⟩ : ∃ x, l[i]? = some x := ⟨_, List.getElem?_eq_getElem (by rw [HL.out]; exact h)⟩
        obtain ⟨y, hy⟩ : ∃ y, m[i]? = some y := ⟨_, List.getElem?_eq_getElem (by rw [HM.out]; exact h)⟩
        obtain ⟨g, off, rfl, hg⟩ := (HA.out.below hb).resolve_left (fun e => by rw [e] at hx; simp at hx)
        obtain ⟨g2, off2, rfl, hg2⟩ := (HB.out.below hb).resolve_left (fun e => by rw [e] at hy; simp at hy)
        have k1 := hg i x hx
        have k2 := hg2 i y hy
        by_cases hxy : x = y
        · subst hxy
          have HS2 := hide (take_eq_succ HS.out hx hy)
          clear hg hg2 hx hy HS
          go_wp2_with fail
          go_region
          go_wp2_with fail
          go_roundw
          case rel => exact ⟨i + 1, by go_num, by omega, HS2, hb.drew⟩
          case measure => simp [Go.RowKit.intOf]; omega
        · have e1 : (x != y) = true := by simpa using hxy
          have e2 : (x == y) = false := by simpa using hxy
          have HN : Hid (R = false) := hide (by
            rw [← HR.out]
            refine decide_eq_false fun e => ?_
            rw [e, hy] at hx
            cases hx
            exact hxy rfl)
          clear hg hg2 hx hy HS
          go_wp2_with fail
          go_region
          go_wp2_with fail
          go_ret
          exact ⟨by rw [HN.out]; rfl, hb.drew⟩
      · obtain rfl : n = i := by omega
        have HN : Hid (R = true) := hide (by
          rw [← HR.out]
          refine decide_eq_true (eq_of_take (by rw [HL.out, HM.out]) ?_)
          rw [HL.out]
          exact HS.out)
        clear HS
        go_wp2_with fail
        go_ret
        exact ⟨by rw [HN.out]; rfl, hb⟩
  · have e1 : ((l.length : Int) != (m.length : Int)) = true := by simp; omega
    have e2 : ((l.length : Int) == (m.length : Int)) = false := by simp; omega
    have hR : decide (l = m) = false := decide_eq_false fun e => hlm (by rw [e])
    rw [hR]
    generalize l.length = n at *
    generalize m.length = n2 at *
    clear hA hB
    go_enter Tryz.func85, Tryz.ntmps85
    go_wp2_with fail
    go_ret
    exact ⟨rfl, Below.refl _ _⟩
set_option maxRecDepth 100000 in
set_option maxHeartbeats 2000000 in
theorem eSameOp (o p : COp) (aq ap : Option Addr) (cq cp : Nat) (hl : o.qs.length ≤ 1000000000000000) (w : World) (hA : Ns w aq o.qs) (hB : Ns w ap p.qs) : Calls Tryz.prog 45 #[opV o aq cq, opV p ap cp] w fun e w' => e = .returned (.bool (decide (o = p))) ∧ Below w.heap.size w w' := by
  have c1 := fun V (h : Below w.heap.size w V) => eInts aq ap cq cp o.qs p.qs hl V (hA.below h) (hB.below h)
  obtain ⟨k1, g1, q1, b1, i1, n1⟩ := o
  obtain ⟨k2, g2, q2, b2, i2, n2⟩ := p
  have hdec : decide ((⟨k1, g1, q1, b1, i1, n1⟩ : COp) = ⟨k2, g2, q2, b2, i2, n2⟩) = (decide (k1 = k2) && decide (g1 = g2) && decide (q1 = q2) && decide (b1 = b2) && decide (i1 = i2) && decide (n1 = n2)) := by
    simp only [COp.mk.injEq, Bool.decide_and, Bool.and_assoc]
  rw [hdec]
  clear hdec
  unfold opV
  simp only at *
  generalize decide (q1 = q2) = qe at *
  generalize q1.length = l1 at *
  generalize q2.length = l2 at *
  have hb0 : Below w.heap.size w ((w.alloc (.cells #[.int .i64 k1, .int .i64 g1, .slice aq l1 cq, .int .i64 b1, .int .i64 i1, .int .i64 n1] 40)).alloc (.cells #[.int .i64 k2, .int .i64 g2, .slice ap l2 cp, .int .i64 b2, .int .i64 i2, .int .i64 n2] 40)) := (bnew _ _).trans ((bnew _ _).mono (by simp))
  have HB0 := hide hb0
  clear hb0 hA hB
  by_cases hk : k1 = k2
  · subst hk
    by_cases hg : g1 = g2
    · subst hg
      by_cases hb : b1 = b2
      · subst hb
        by_cases hi : i1 = i2
        · subst hi
          by_cases hn : n1 = n2
          · subst hn
            go_enter Tryz.func45, Tryz.ntmps45
            go_wp2_with (first | (go_at_call 85; refine (c1 _ HB0.out).mono ?_; rintro e w1 ⟨rfl, hb1⟩))
            go_ret
            exact ⟨by simp, HB0.out.trans (hb1.mono HB0.out.size)⟩
          · have e1 : (n1 == n2) = false := by simpa using hn
            go_enter Tryz.func45, Tryz.ntmps45
            go_wp2_with fail
            go_ret
            exact ⟨by simp [hn], HB0.out⟩
        · have e1 : (i1 == i2) = false := by simpa using hi
          go_enter Tryz.func45, Tryz.ntmps45
          go_wp2_with fail
          go_ret
          exact ⟨by simp [hi], HB0.out⟩
      · have e1 : (b1 == b2) = false := by simpa using hb
        go_enter Tryz.func45, Tryz.ntmps45
        go_wp2_with fail
        go_ret
        exact ⟨by simp [hb], HB0.out⟩
    · have e1 : (g1 == g2) = false := by simpa using hg
      go_enter Tryz.func45, Tryz.ntmps45
      go_wp2_with fail
      go_ret
      exact ⟨by simp [hg], HB0.out⟩
  · have e1 : (k1 == k2) = false := by simpa using hk
    go_enter Tryz.func45, Tryz.ntmps45
    go_wp2_with fail
    go_ret
    exact ⟨by simp [hk], HB0.out⟩
set_option maxRecDepth 100000 in
set_option maxHeartbeats 2000000 in
theorem eSame (c d : Circ) (ao bo : Option Addr) (k j : Nat) (w : World) (hC : Ci w c ao k) (hD : Ci w d bo j) : Calls Tryz.prog 21 #[cV c ao k, cV d bo j] w fun e w' => e = .returned (.bool (decide (c = d))) ∧ Below w.heap.size w w' := by
  obtain ⟨q1, b1, l⟩ := c
  obtain ⟨q2, b2, m⟩ := d
  have hdec : decide ((⟨q1, b1, l⟩ : Circ) = ⟨q2, b2, m⟩) = (decide (q1 = q2) && decide (b1 = b2) && decide (l = m)) := by
    simp only [Circ.mk.injEq, Bool.decide_and, Bool.and_assoc]
  rw [hdec]
  clear hdec
  have hA := hC.ops
  have hB := hD.ops
  have hq := hC.qs
  have hl := hC.len
  clear hC hD
  unfold cV
  simp only at *
  have hb0 : Below w.heap.size w ((w.alloc (.cells #[.int .i64 q1, .int .i64 b1, .slice ao l.length k] 24)).alloc (.cells #[.int .i64 q2, .int .i64 b2, .slice bo m.length j] 24)) := (bnew _ _).trans ((bnew _ _).mono (by simp))
  have HB0 := hide hb0
  clear hb0
  by_cases hqq : q1 = q2
  · subst hqq
    by_cases hbb : b1 = b2
    · subst hbb
      by_cases hlm : l.length = m.length
      · have HA := hide hA
        have HB := hide hB
        obtain ⟨n, hn⟩ : ∃ n, l.length = n := ⟨_, rfl⟩
        have HL := hide hn
        have HM : Hid (m.length = n) := hide (by omega)
        obtain ⟨R, hR⟩ : ∃ R, (decide (q1 = q1) && decide (b1 = b1) && decide (l = m)) = R := ⟨_, rfl⟩
        have HR : Hid (decide (l = m) = R) := hide (by simpa using hR)
        have HQ := hide hq
        rw [← hlm, hn] at HB0
        rw [← hlm, hn, hR]
        rw [hn] at hl
        clear hA hB hn hlm hR hq
        have HK : Hid (∀ V, Below ((w.alloc (.cells #[.int .i64 q1, .int .i64 b1, .slice ao n k] 24)).alloc (.cells #[.int .i64 q1, .int .i64 b1, .slice bo n j] 24)).heap.size ((w.alloc (.cells #[.int .i64 q1, .int .i64 b1, .slice ao n k] 24)).alloc (.cells #[.int .i64 q1, .int .i64 b1, .slice bo n j] 24)) V → V.cell? ⟨w.heap.size, 2, none⟩ = some (.slice ao n k) ∧ V.cell? ⟨w.heap.size + 1, 2, none⟩ = some (.slice bo n j) ∧ w.heap.size + 1 < V.heap.size) := hide (fun V hV => by
          obtain ⟨m1, m2⟩ := may_keep hV
          obtain ⟨-, -, x2, x3⟩ := def_cells m1
          obtain ⟨-, -, y2, y3⟩ := def_cells m2
          exact ⟨x2, y2, y3⟩)
        go_enter Tryz.func21, Tryz.ntmps21
        go_wp2_with fail
        generalize hWW : ((w.alloc (.cells #[.int .i64 q1, .int .i64 b1, .slice ao n k] 24)).alloc (.cells #[.int .i64 q1, .int .i64 b1, .slice bo n j] 24)) = WW at *
        clear hWW
        go_loopw [5] (fun vi wr => ∃ i : Nat, vi = .int .i64 (i : Int) ∧ i ≤ n ∧ Hid (l.take i = m.take i) ∧ Below WW.heap.size WW wr) (fun vi _ => n - (Go.RowKit.intOf vi).toNat)
        case atStart => exact ⟨0, rfl, Nat.zero_le _, hide rfl, Below.refl _ _⟩
        case round =>
          obtain ⟨i, rfl, hi, HS, hbW⟩ := hrel
          have hb := HB0.out.trans (hbW.mono HB0.out.size)
          obtain ⟨x2, y2, xl⟩ := HK.out wr hbW
          by_cases h : i < n
          · have hd : decide ((i : Int) < (n : Int)) = true := decide_eq_true (by omega)
            obtain ⟨x, hx⟩ : ∃ x, l[i]? = some x := ⟨_, List.getElem?_eq_getElem (by rw [HL.out]; exact h)⟩
            obtain ⟨y, hy⟩ : ∃ y, m[i]? = some y := ⟨_, List.getElem?_eq_getElem (by rw [HM.out]; exact h)⟩
            obtain ⟨g, off, aq, cq, rfl, hgl, hoc⟩ := (HA.out.below hb).at hx
            obtain ⟨g2, off2, aq2, cq2, rfl, hgl2, hoc2⟩ := (HB.out.below hb).at hy
            have HC := hide (fun V (h : Below wr.heap.size wr V) => eSameOp x y aq aq2 cq cq2 (HQ.out x (List.mem_of_getElem? hx)) V (hoc.ns.below h) (hoc2.ns.below h))
            have HO1 := hide hoc
            have HO2 := hide hoc2
            have HY : Hid (decide (x = y) = true → l.take (i + 1) = m.take (i + 1)) := hide (fun e => by
              have e' : x = y := by simpa using e
              subst e'
              exact take_eq_succ HS.out hx hy)
            have HN : Hid (decide (x = y) = false → R = false) := hide (fun e => by
              have e' : ¬ x = y := by simpa using e
              rw [← HR.out]
              refine decide_eq_false fun e => ?_
              rw [e, hy] at hx
              cases hx
              exact e' rfl)
            clear hx hy hoc hoc2
            have hz := hb.size
            unfold opV at HC
            generalize decide (x = y) = xy at *
            have hi1 : (0 : Int) ≤ (i : Int) := by omega
            have hi2 : (i : Int) < (n : Int) := by omega
            have HXY : Hid (∀ V, Below wr.heap.size wr V → (V.cell? ⟨w.heap.size, 2, none⟩ = some (.slice (some ⟨g, off, none⟩) n k) ∧ V.cell? ⟨w.heap.size + 1, 2, none⟩ = some (.slice (some ⟨g2, off2, none⟩) n j) ∧ w.heap.size + 1 < V.heap.size) ∧ g < V.heap.size ∧ g2 < V.heap.size ∧ (V.cell? ⟨g, off + i * 6, none⟩ = some (.int .i64 x.kind) ∧ V.cell? ⟨g, off + i * 6 + 1, none⟩ = some (.int .i64 x.gate) ∧ V.cell? ⟨g, off + i * 6 + 2, none⟩ = some (.slice aq x.qs.length cq) ∧ V.cell? ⟨g, off + i * 6 + 3, none⟩ = some (.int .i64 x.bit) ∧ V.cell? ⟨g, off + i * 6 + 4, none⟩ = some (.int .i64 x.cond) ∧ V.cell? ⟨g, off + i * 6 + 5, none⟩ = some (.int .i64 x.whn)) ∧ (V.cell? ⟨g2, off2 + i * 6, none⟩ = some (.int .i64 y.kind) ∧ V.cell? ⟨g2, off2 + i * 6 + 1, none⟩ = some (.int .i64 y.gate) ∧ V.cell? ⟨g2, off2 + i * 6 + 2, none⟩ = some (.slice aq2 y.qs.length cq2) ∧ V.cell? ⟨g2, off2 + i * 6 + 3, none⟩ = some (.int .i64 y.bit) ∧ V.cell? ⟨g2, off2 + i * 6 + 4, none⟩ = some (.int .i64 y.cond) ∧ V.cell? ⟨g2, off2 + i * 6 + 5, none⟩ = some (.int .i64 y.whn))) := hide (fun V hV => by
              have a1 := HO1.out.below hV
              have a2 := HO2.out.below hV
              exact ⟨HK.out V (hbW.trans (hV.mono hbW.size)), Nat.lt_of_lt_of_le hgl hV.size, Nat.lt_of_lt_of_le hgl2 hV.size, ⟨a1.kind, a1.gate, a1.qs, a1.bit, a1.cond, a1.whn⟩, ⟨a2.kind, a2.gate, a2.qs, a2.bit, a2.cond, a2.whn⟩⟩)
            clear HO1 HO2
            obtain ⟨kk1, g1, q1', b1', i1, n1⟩ := x
            obtain ⟨kk2, gg2, q2', b2', i2, n2⟩ := y
            simp only at *
            generalize q1'.length = ql1 at *
            generalize q2'.length = ql2 at *
            go_wp2_with fail
            clear x2 y2
            refine wp_region_quiet (C := fun W => Below wr.heap.size wr W) (by kernel_rfl) (by kernel_rfl) (below_drewN (Below.refl _ _) 1) ?_
            repeat
              refine wpQuiet_step (fun K hK => ?_)
              go_simp
              first
                | (refine hK _ ?_; clear hK K)
                | (apply Exists.intro
                   refine ⟨fun W hW => ?_, hK _ ?_⟩
                   first
                     | (refine (HC.out _ hW).mono ?_; rintro e x ⟨rfl, q⟩; exact ⟨rfl, hW.trans (q.mono hW.size)⟩)
                     | (obtain ⟨⟨v0, v1, v2⟩, v3, v4, ⟨r0, r1, r2, r3, r4, r5⟩, ⟨s0, s1, s2, s3, s4, s5⟩⟩ := HXY.out W hW; go_simp; rfl)
                   clear hK K)
            refine wpQuiet_nil ?_
            intro W hW
            have hbF := hbW.trans (hW.mono hbW.size)
            obtain ⟨⟨v0, v1, v2⟩, -⟩ := HXY.out W hW
            clear HXY
            cases xy with
            | true =>
              have HY2 := hide (HY.out rfl)
              clear HY HN
              go_wp2_with fail
              go_roundw
              case rel => exact ⟨i + 1, by go_num, by omega, HY2, hbF⟩
              case measure => simp [Go.RowKit.intOf]; omega
            | false =>
              have HN2 := hide (HN.out rfl)
              clear HY HN
              go_wp2_with fail
              go_ret
              exact ⟨by rw [HN2.out]; rfl, HB0.out.trans (hbF.mono HB0.out.size)⟩
          · obtain rfl : n = i := by omega
            have HN : Hid (R = true) := hide (by
              rw [← HR.out]
              refine decide_eq_true (eq_of_take (by rw [HL.out, HM.out]) ?_)
              rw [HL.out]
              exact HS.out)
            clear HS
            go_wp2_with fail
            go_ret
            exact ⟨by rw [HN.out]; rfl, hb⟩
      · have e1 : ((l.length : Int) != (m.length : Int)) = true := by simp; omega
        have e2 : ((l.length : Int) == (m.length : Int)) = false := by simp; omega
        have hR : (decide (q1 = q1) && decide (b1 = b1) && decide (l = m)) = false := by
          rw [decide_eq_false (p := l = m) (fun e => hlm (by rw [e]))]
          simp
        rw [hR]
        generalize l.length = n at *
        generalize m.length = n2 at *
        clear hA hB hq hR
        go_enter Tryz.func21, Tryz.ntmps21
        go_wp2_with fail
        go_ret
        exact ⟨rfl, HB0.out⟩
    · have e1 : (b1 == b2) = false := by simpa using hbb
      clear hA hB hq
      generalize decide (l = m) = le at *
      generalize l.length = n at *
      generalize m.length = n2 at *
      go_enter Tryz.func21, Tryz.ntmps21
      go_wp2_with fail
      go_ret
      exact ⟨by simp [hbb], HB0.out⟩
  · have e1 : (q1 == q2) = false := by simpa using hqq
    clear hA hB hq
    generalize decide (l = m) = le at *
    generalize l.length = n at *
    generalize m.length = n2 at *
    go_enter Tryz.func21, Tryz.ntmps21
    go_wp2_with fail
    go_ret
    exact ⟨by simp [hqq], HB0.out⟩
end Go.Proofs.YtkbodljmkhnebaaGreatDoor.Cir
/- The law CircuitSame, as it is walked. -/
namespace Go.Proofs.YtkbodljmkhnebaaGreatDoor.Cir
open Go.RowKit Go.Shelf Go.Proofs.YtkbodljmkhnebaaGreatDoor.Oct Go.Proofs.YtkbodljmkhnebaaGreatDoor.Tok Go.Proofs.YtkbodljmkhnebaaGreatDoor.Gt

set_option maxRecDepth 100000 in
set_option maxHeartbeats 2000000 in
theorem xCircuitSame (c d : Circ) (ao bo : Option Addr) (k j : Nat) (w : World) (hT : Tq w) (hC : Ci w c ao k) (hD : Ci w d bo j) : Calls Tryz.prog 4 #[cV c ao k, cV d bo j] w fun e w' => e = .returned (.bool true) ∧ Below w.heap.size w w' := by
  have c1 := fun V (h : Below w.heap.size w V) => cSame c d ao bo k j V (hC.below h) (hD.below h)
  have c2 := fun V (h : Below w.heap.size w V) => eSame c d ao bo k j V (hC.below h) (hD.below h)
  have c3 := fun V (h : Below w.heap.size w V) => cSame c c ao ao k k V (hC.below h) (hC.below h)
  have c4 := fun V (h : Below w.heap.size w V) => aAlive V (hT.below h)
  rw [decide_eq_true (rfl : c = c)] at c3
  generalize decide (c = d) = R at *
  obtain ⟨q1, b1, l1⟩ := c
  obtain ⟨q2, b2, l2⟩ := d
  unfold cV at *
  simp only at *
  generalize l1.length = n1 at *
  generalize l2.length = n2 at *
  clear hC hD hT
  go_enter Tryz.func4, Tryz.ntmps4
  go_wp2_with fail
  have hbN : Below w.heap.size w ((w.alloc (.cells #[.int .i64 q1, .int .i64 b1, .slice ao n1 k] 24)).alloc (.cells #[.int .i64 q2, .int .i64 b2, .slice bo n2 j] 24)) := (bnew _ _).trans ((bnew _ _).mono (by simp))
  have HK : Hid (∀ V, Below ((w.alloc (.cells #[.int .i64 q1, .int .i64 b1, .slice ao n1 k] 24)).alloc (.cells #[.int .i64 q2, .int .i64 b2, .slice bo n2 j] 24)).heap.size ((w.alloc (.cells #[.int .i64 q1, .int .i64 b1, .slice ao n1 k] 24)).alloc (.cells #[.int .i64 q2, .int .i64 b2, .slice bo n2 j] 24)) V → (V.cell? ⟨w.heap.size, 0, none⟩ = some (.int .i64 q1) ∧ V.cell? ⟨w.heap.size, 1, none⟩ = some (.int .i64 b1) ∧ V.cell? ⟨w.heap.size, 2, none⟩ = some (.slice ao n1 k) ∧ w.heap.size < V.heap.size) ∧ (V.cell? ⟨w.heap.size + 1, 0, none⟩ = some (.int .i64 q2) ∧ V.cell? ⟨w.heap.size + 1, 1, none⟩ = some (.int .i64 b2) ∧ V.cell? ⟨w.heap.size + 1, 2, none⟩ = some (.slice bo n2 j) ∧ w.heap.size + 1 < V.heap.size)) := hide (fun V hV => by
    obtain ⟨m1, m2⟩ := may_keep hV
    exact ⟨def_cells m1, def_cells m2⟩)
  generalize ((w.alloc (.cells #[.int .i64 q1, .int .i64 b1, .slice ao n1 k] 24)).alloc (.cells #[.int .i64 q2, .int .i64 b2, .slice bo n2 j] 24)) = W0 at *
  refine wp_region_quiet (C := fun W => Below W0.heap.size W0 W) (by kernel_rfl) (by kernel_rfl) (below_drewN (Below.refl _ _) 1) ?_
  repeat
    refine wpQuiet_step (fun K hK => ?_)
    go_simp
    first
      | (refine hK _ ?_; clear hK K)
      | (apply Exists.intro
         refine ⟨fun W hW => ?_, hK _ ?_⟩
         first
           | ((with_reducible refine Calls.mono (c1 _ (hbN.trans (hW.mono hbN.size))) ?_); rintro e x ⟨rfl, q⟩; exact ⟨rfl, hW.trans (q.mono hW.size)⟩)
           | ((with_reducible refine Calls.mono (c2 _ (hbN.trans (hW.mono hbN.size))) ?_); rintro e x ⟨rfl, q⟩; exact ⟨rfl, hW.trans (q.mono hW.size)⟩)
           | ((with_reducible refine Calls.mono (c3 _ (hbN.trans (hW.mono hbN.size))) ?_); rintro e x ⟨rfl, q⟩; exact ⟨rfl, hW.trans (q.mono hW.size)⟩)
           | ((with_reducible refine Calls.mono (c4 _ (hbN.trans (hW.mono hbN.size))) ?_); rintro e x ⟨rfl, q⟩; exact ⟨rfl, hW.trans (q.mono hW.size)⟩)
           | (obtain ⟨⟨x0, x1, x2, x3⟩, ⟨y0, y1, y2, y3⟩⟩ := HK.out W hW; go_simp; rfl)
         clear hK K)
  refine wpQuiet_nil ?_
  intro W hW
  have hbF := hbN.trans (hW.mono hbN.size)
  go_wp2_with fail
  go_ret
  exact ⟨rfl, hbF⟩
end Go.Proofs.YtkbodljmkhnebaaGreatDoor.Cir
