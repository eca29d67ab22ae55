import Derived.Test.YtnghfdnlcnocjaaGreatDoorE08eb46a6
set_option maxRecDepth 100000
set_option maxHeartbeats 4000000
namespace Go.Proofs.YtnghfdnlcnocjaaGreatDoor.Cir
open Go.RowKit Go.Shelf Go.Proofs.YtnghfdnlcnocjaaGreatDoor.Oct Go.Proofs.YtnghfdnlcnocjaaGreatDoor.Tok Go.Proofs.YtnghfdnlcnocjaaGreatDoor.Gt
theorem cWritten_if (o : COp) (aq : Option Addr) (cq : Nat) (hl : o.qs.length <= 1000000) (hq : ∀ z ∈ o.qs, In64 z) (hb : In64 o.bit) (hc : In64 o.cond) (hw : In64 o.whn) (hk2 : o.kind ≠ 2) (hk3 : o.kind ≠ 3) (hk4 : o.kind ≠ 4) (hkc : o.cond ≠ -1) (w : World) (hT : Tb w) (h10 : T10 w) (hN : Ns w aq o.qs) :
    Calls Tryz.prog 35 #[opV o aq cq] w fun e w' => e = .returned (.string ⟨(wrP o).toArray⟩) /\ Below w.heap.size w w' := by
  have hmk := fun W => make_st o.qs.length hl W
  have HQ := hide hq
  have HN := hide hN
  have H10 := hide h10
  have hal : (agP o.qs).length <= 26000000 := by
    have := join_le [44, 32] 24 (o.qs.map (elP 113)) (fun x hx => by
      obtain ⟨z, hz, rfl⟩ := List.mem_map.1 hx
      exact elP_len 113 z (hq z hz).1 (hq z hz).2)
    unfold agP
    rw [List.length_map] at this
    simp only [List.length_cons, List.length_nil] at this
    omega
  have cB := fun V (h : Below w.heap.size w V) => cElement 99 o.cond hc.1 hc.2 V (h10.below h)
  have cI := fun V (h : Below w.heap.size w V) => nItoa o.whn hw.1 hw.2 V (h10.below h)
  have cN := fun V (h : Below w.heap.size w V) => gName o.gate V (hT.below h)
  obtain ⟨R, hR⟩ : ∃ R, wrP o = R := ⟨_, rfl⟩
  rw [hR]
  unfold wrP at hR
  have HR := hide hR
  have hnl := nm_len o.gate
  have hbl := elP_len 99 o.cond hc.1 hc.2
  have hil : (Lib.itoa o.whn).length <= 21 := Lib.itoa_length_le o.whn hw.1 hw.2
  obtain ⟨kind, gate, qs, bit, cond, whn⟩ := o
  unfold opV
  simp only at *
  obtain ⟨n, hn⟩ : ∃ n, qs.length = n := ⟨_, rfl⟩
  have HL := hide hn
  rw [hn] at hmk hl ⊢
  clear hR hq hb hc hw hn hN h10
  go_enter Tryz.func35, Tryz.ntmps35
  go_wp2_with fail
  have hR0 := (rk_mk (w.alloc (.cells #[.int .i64 kind, .int .i64 gate, .slice aq n cq, .int .i64 bit, .int .i64 cond, .int .i64 whn] 34)) n 9 (.string ⟨#[]⟩)).congr (f' := elF qs 0) (fun j _ => by unfold elF; simp)
  rw [World.size_alloc] at hR0
  have hop : ((w.alloc (.cells #[.int .i64 kind, .int .i64 gate, .slice aq n cq, .int .i64 bit, .int .i64 cond, .int .i64 whn] 34)).alloc (.cells (madeCells #[.string ⟨#[]⟩] n) 9)).heap[w.heap.size]? = some (.cells #[.int .i64 kind, .int .i64 gate, .slice aq n cq, .int .i64 bit, .int .i64 cond, .int .i64 whn] 34 (0, 0)) := (Below.heap_alloc _ _ _ (by simp)).trans (heap_alloc_new _ _)
  have HR0 := hide hR0
  have HOP := hide hop
  clear hR0 hop
  go_loopw [4, 5, 15] (fun _ _ vi wr => ∃ i : Nat, vi = .int .i64 (i : Int) /\ i <= n /\ Rk wr (w.heap.size + 1) 9 n (elF qs i) /\ wr.heap[w.heap.size]? = some (.cells #[.int .i64 kind, .int .i64 gate, .slice aq n cq, .int .i64 bit, .int .i64 cond, .int .i64 whn] 34 (0, 0)) /\ Below w.heap.size w wr) (fun _ _ vi _ => n - (Go.RowKit.intOf vi).toNat)
  case atStart => exact ⟨0, rfl, Nat.zero_le _, HR0.out, HOP.out, (bnew _ _).trans ((bnew _ _).mono (by simp))⟩
  case round =>
    clear HR0 HOP
    obtain ⟨i, rfl, hi, hRk, hop, hbe⟩ := hrel
    have hlr := hRk.lt
    by_cases h : i < n
    . have hd : decide ((i : Int) < (n : Int)) = true := decide_eq_true (by omega)
      obtain ⟨z, hz⟩ : ∃ z, qs[i]? = some z := ⟨_, List.getElem?_eq_getElem (by rw [HL.out]; exact h)⟩
      obtain ⟨g, off, rfl, hcs⟩ := (HN.out.below hbe).resolve_left (fun e => by rw [e] at hz; simp at hz)
      have hcell := hcs i z hz
      have hin := HQ.out z (List.mem_of_getElem? hz)
      have c1 := cElement 113 z hin.1 hin.2 wr (H10.out.below hbe)
      have HSt : Hid (∀ V, Below wr.heap.size wr V -> V.cell? ⟨w.heap.size + 1, i, none⟩ = some (.string ⟨#[]⟩) /\ V.frozen? ⟨w.heap.size + 1, i, none⟩ = false /\ Rk (V.setCell ⟨w.heap.size + 1, i, none⟩ (.string ⟨(elP 113 z).toArray⟩)) (w.heap.size + 1) 9 n (elF qs (i + 1)) /\ (V.setCell ⟨w.heap.size + 1, i, none⟩ (.string ⟨(elP 113 z).toArray⟩)).heap[w.heap.size]? = some (.cells #[.int .i64 kind, .int .i64 gate, .slice (some ⟨g, off, none⟩) n cq, .int .i64 bit, .int .i64 cond, .int .i64 whn] 34 (0, 0)) /\ Below w.heap.size w (V.setCell ⟨w.heap.size + 1, i, none⟩ (.string ⟨(elP 113 z).toArray⟩))) := hide (fun V hV => by
        have hr := hRk.below hV
        refine ⟨(hr.cell i h).trans (by unfold elF; rw [if_neg (by omega)]), hr.frozen i, ?_, ?_, (hbe.trans (hV.mono hbe.size)).setCell (p := ⟨w.heap.size + 1, i, none⟩) (by simp) _⟩
        . rw [← elF_succ qs i z hz]
          exact hr.set i _
        . exact (Below.heap_setCell _ _ _ _ (by simp)).trans ((hV.block _ (by omega)).trans hop))
      have hkk : (i : Int) < (n : Int) := by omega
      clear hcs hz hRk hop
      generalize (⟨(elP 113 z).toArray⟩ : ByteArray) = eb at *
      go_wp2_with (first | (go_at_call 34; refine c1.mono ?_; rintro e w2 ⟨rfl, hb2⟩; obtain ⟨v1, v2, v3, v4, v5⟩ := HSt.out w2 hb2; have hz2 := hb2.size))
      go_roundw
      case rel => exact ⟨i + 1, by go_num, by omega, v3, v4, v5⟩
      case measure => simp [Go.RowKit.intOf]; omega
    . obtain rfl : n = i := by omega
      have cJ := sJoinS [44, 32] (w.heap.size + 1) n (qs.map (elP 113)) wr (fun j x hx => by
        rw [List.getElem?_map] at hx
        obtain ⟨z, hz, rfl⟩ := Option.map_eq_some_iff.1 hx
        have hj : j < n := by rw [← HL.out]; exact (List.getElem?_eq_some_iff.1 hz).1
        refine (hRk.cell j hj).trans ?_
        unfold elF
        rw [if_pos hj]
        simp [List.getD, hz]) hlr (by rw [List.length_map, HL.out]; omega) (by rw [List.length_map, HL.out]; exact Nat.le_refl _) (show (agP qs).length <= _ by omega)
      rw [List.length_map, HL.out] at cJ
      have cJ' : Calls Tryz.prog 36 #[.slice (some ⟨w.heap.size + 1, 0, none⟩) n n, .string ⟨#[44, 32]⟩] wr fun e w' => e = .returned (.string ⟨(agP qs).toArray⟩) /\ Below wr.heap.size wr w' := cJ
      clear cJ hRk
      have hza := ba_size (agP qs)
      have hzn := ba_size (rw' gate).nm
      have hzb := ba_size (elP 99 cond)
      have hzi := ba_size (Lib.itoa whn)
      have n2 : (kind == 2) = false := by simpa using hk2
      have n3 : (kind == 3) = false := by simpa using hk3
      have n4 : (kind == 4) = false := by simpa using hk4
      have n5 : (cond == -1) = false := by simpa using hkc
      have e1 : (⟨((rw' gate).nm).toArray⟩ : ByteArray) ++ (⟨#[32]⟩ : ByteArray) = (⟨((rw' gate).nm ++ [32]).toArray⟩ : ByteArray) := cat_str (rw' gate).nm [32]
      have e2 : (⟨((rw' gate).nm ++ [32]).toArray⟩ : ByteArray) ++ (⟨(agP qs).toArray⟩ : ByteArray) = (⟨((rw' gate).nm ++ [32] ++ agP qs).toArray⟩ : ByteArray) := cat_str _ _
      have e3 : (⟨#[105, 102, 32, 40]⟩ : ByteArray) ++ (⟨(elP 99 cond).toArray⟩ : ByteArray) = (⟨([105, 102, 32, 40] ++ elP 99 cond).toArray⟩ : ByteArray) := cat_str [105, 102, 32, 40] (elP 99 cond)
      have e4 : (⟨([105, 102, 32, 40] ++ elP 99 cond).toArray⟩ : ByteArray) ++ (⟨#[32, 61, 61, 32]⟩ : ByteArray) = (⟨([105, 102, 32, 40] ++ elP 99 cond ++ [32, 61, 61, 32]).toArray⟩ : ByteArray) := cat_str _ [32, 61, 61, 32]
      have e5 : (⟨([105, 102, 32, 40] ++ elP 99 cond ++ [32, 61, 61, 32]).toArray⟩ : ByteArray) ++ (⟨(Lib.itoa whn).toArray⟩ : ByteArray) = (⟨([105, 102, 32, 40] ++ elP 99 cond ++ [32, 61, 61, 32] ++ Lib.itoa whn).toArray⟩ : ByteArray) := cat_str _ _
      have e6 : (⟨([105, 102, 32, 40] ++ elP 99 cond ++ [32, 61, 61, 32] ++ Lib.itoa whn).toArray⟩ : ByteArray) ++ (⟨#[41, 32]⟩ : ByteArray) = (⟨([105, 102, 32, 40] ++ elP 99 cond ++ [32, 61, 61, 32] ++ Lib.itoa whn ++ [41, 32]).toArray⟩ : ByteArray) := cat_str _ [41, 32]
      have e7 : (⟨([105, 102, 32, 40] ++ elP 99 cond ++ [32, 61, 61, 32] ++ Lib.itoa whn ++ [41, 32]).toArray⟩ : ByteArray) ++ (⟨((rw' gate).nm ++ [32] ++ agP qs).toArray⟩ : ByteArray) = ⟨R.toArray⟩ := (cat_str _ _).trans (by rw [← HR.out, if_neg hk2, if_neg hk3, if_neg hk4, if_neg hkc])
      have s0 := ba_size ((rw' gate).nm ++ [32])
      have s1 := ba_size ((rw' gate).nm ++ [32] ++ agP qs)
      have s2 := ba_size ([105, 102, 32, 40] ++ elP 99 cond)
      have s3 := ba_size ([105, 102, 32, 40] ++ elP 99 cond ++ [32, 61, 61, 32])
      have s4 := ba_size ([105, 102, 32, 40] ++ elP 99 cond ++ [32, 61, 61, 32] ++ Lib.itoa whn)
      have s5 := ba_size ([105, 102, 32, 40] ++ elP 99 cond ++ [32, 61, 61, 32] ++ Lib.itoa whn ++ [41, 32])
      simp only [List.length_append, List.length_cons, List.length_nil] at s0 s1 s2 s3 s4 s5
      generalize (⟨([105, 102, 32, 40] ++ elP 99 cond ++ [32, 61, 61, 32] ++ Lib.itoa whn ++ [41, 32]).toArray⟩ : ByteArray) = c4 at *
      generalize (⟨([105, 102, 32, 40] ++ elP 99 cond ++ [32, 61, 61, 32] ++ Lib.itoa whn).toArray⟩ : ByteArray) = c3 at *
      generalize (⟨([105, 102, 32, 40] ++ elP 99 cond ++ [32, 61, 61, 32]).toArray⟩ : ByteArray) = c2 at *
      generalize (⟨([105, 102, 32, 40] ++ elP 99 cond).toArray⟩ : ByteArray) = c1 at *
      generalize (⟨((rw' gate).nm ++ [32] ++ agP qs).toArray⟩ : ByteArray) = b2 at *
      generalize (⟨((rw' gate).nm ++ [32]).toArray⟩ : ByteArray) = b1 at *
      generalize (⟨((rw' gate).nm).toArray⟩ : ByteArray) = nb at *
      generalize (⟨(agP qs).toArray⟩ : ByteArray) = ab at *
      generalize (⟨(elP 99 cond).toArray⟩ : ByteArray) = bb at *
      generalize (⟨(Lib.itoa whn).toArray⟩ : ByteArray) = ib at *
      generalize hrb : (⟨R.toArray⟩ : ByteArray) = rb at e7
      have HRB := hide hrb
      clear hrb
      go_wp2_with (first
        | (go_at_call 36; refine cJ'.mono ?_; rintro e w2 ⟨rfl, hb2⟩; have hop2 := (hb2.block w.heap.size (by omega)).trans hop; obtain ⟨y0, y1, y2, y3, y4, y5, y6⟩ := op6_cells hop2; have hw2 := Below.trans hbe (hb2.mono hbe.size))
        | (go_at_call 66; refine (cN _ hw2).mono ?_; rintro e w3 ⟨rfl, hb3⟩; have hop3 := (hb3.block w.heap.size (by have := hb2.size; omega)).trans hop2; obtain ⟨u0, u1, u2, u3, u4, u5, u6⟩ := op6_cells hop3))
      have hbN := hw2.trans (hb3.mono hw2.size)
      have HOP3 := hide hop3
      clear hop3 hop2 hop y0 y1 y2 y3 y4 y5 y6 u0 u1 u2 u3 u4 u5 u6 cJ' cN
      refine wp_region_quiet (C := fun W => Below w3.heap.size w3 W) (by kernel_rfl) (by kernel_rfl) (below_drewN (Below.refl _ _) 1) ?_
      repeat
        refine wpQuiet_step (fun K hK => ?_)
        go_simp
        first
          | (refine hK _ ?_; clear hK K)
          | (apply Exists.intro
             refine ⟨fun W hW => ?_, hK _ ?_⟩
             first
               | (rw [if_neg (by omega)]; exact ⟨rfl, rfl⟩)
               | (refine (cB _ (hbN.trans (hW.mono hbN.size))).mono ?_; rintro e x ⟨rfl, q⟩; exact ⟨rfl, hW.trans (q.mono hW.size)⟩)
               | (refine (cI _ (hbN.trans (hW.mono hbN.size))).mono ?_; rintro e x ⟨rfl, q⟩; exact ⟨rfl, hW.trans (q.mono hW.size)⟩)
               | (obtain ⟨u0, u1, u2, u3, u4, u5, u6⟩ := op6_cells ((hW.block _ (by have := (Array.getElem?_eq_some_iff.1 HOP3.out).1; omega)).trans HOP3.out); go_simp; rfl)
             clear hK K)
      refine wpQuiet_nil ?_
      intro W hW
      have hbF := hbN.trans (hW.mono hbN.size)
      go_wp2_with fail
      go_ret
      exact ⟨by rw [HRB.out]; rfl, hbF⟩
def sV (x : List UInt8) : Value := .string ⟨x.toArray⟩
def hdP (q b : Int) : List (List UInt8) := [[79, 80, 69, 78, 81, 65, 83, 77, 32, 50, 46, 48], [105, 110, 99, 108, 117, 100, 101, 32, 34, 113, 101, 108, 105, 98, 49, 46, 105, 110, 99, 34]] ++ (if 0 < q then [[113, 114, 101, 103, 32] ++ elP 113 q] else []) ++ (if 0 < b then [[99, 114, 101, 103, 32] ++ elP 99 b] else [])
def lnP (c : Circ) : List (List UInt8) := hdP c.q c.b ++ c.ops.map wrP
def prP (c : Circ) : List UInt8 := Lib.join (lnP c) [59, 10] ++ [59, 10]
theorem wi_in {x n : Int} (h : wiP x n = true) : 0 <= x /\ x < n := by
  unfold wiP at h
  simpa using h
theorem badI_may (q b : Int) : ∀ (i : Nat) (l : List COp), badI q b i l = none -> ∀ o ∈ l, mayP q b o = true
  | _, [], _, o, ho => by cases ho
  | i, a :: r, h, o, ho => by
    rw [badI] at h
    split at h
    . rename_i ha
      rcases List.mem_cons.1 ho with rfl | ho
      . exact ha
      . exact badI_may q b (i + 1) r h o ho
    . cases h
theorem chkC_ok {c : Circ} (h : (chkC c).2 = 0) : 0 <= c.q /\ c.q <= 64 /\ 0 <= c.b /\ c.b <= 64 /\ c.ops.length <= 4096 /\ ∀ o ∈ c.ops, mayP c.q c.b o = true := by
  unfold chkC at h
  split at h
  . cases h
  . rename_i hn
    simp only [Bool.or_eq_true, Bool.not_eq_eq_eq_not, Bool.not_true, decide_eq_true_eq, not_or, Bool.not_eq_false] at hn
    unfold cntP at hn
    rw [Bool.and_eq_true] at hn
    have h1 := wi_in hn.1.1
    have h2 := wi_in hn.1.2
    split at h
    . cases h
    . rename_i hb
      exact ⟨h1.1, by omega, h2.1, by omega, by omega, badI_may _ _ _ _ hb⟩
theorem nodup_len : ∀ (n : Nat) (l : List Int), l.Nodup -> (∀ x ∈ l, 0 <= x /\ x < (n : Int)) -> l.length <= n
  | 0, [], _, _ => Nat.le_refl _
  | 0, a :: r, _, h => by have := h a (by simp); omega
  | n + 1, l, hd, h => by
    have h1 := nodup_len n (l.erase (n : Int)) (hd.erase _) (fun x hx => by
      have hm := (hd.mem_erase_iff).1 hx
      have := h x hm.2
      have hne := hm.1
      omega)
    have h2 := List.length_erase (a := (n : Int)) (l := l)
    split at h2 <;> omega
theorem mxG_bd (l : List Int) (n : Int) : ∀ m, ¬ n <= mxG l m -> ∀ j, j <= m -> l.getD j 0 < n
  | 0, h, j, hj => by
    obtain rfl : j = 0 := by omega
    rw [mxG] at h
    omega
  | m + 1, h, j, hj => by
    rw [mxG] at h
    split at h
    . rename_i hlt
      by_cases e : j = m + 1
      . subst e
        omega
      . have := mxG_bd l (mxG l m + 1) m (by omega) j (by omega)
        omega
    . rename_i hge
      by_cases e : j = m + 1
      . subst e
        omega
      . exact mxG_bd l n m h j (by omega)
theorem apG_pos (l : List Int) : ∀ m i, apG l m i = true -> ∀ j, i <= j -> j < i + m -> 0 <= l.getD j 0
  | 0, i, _, j, h1, h2 => by omega
  | m + 1, i, h, j, h1, h2 => by
    rw [apG, Bool.and_eq_true, Bool.and_eq_true] at h
    by_cases e : j = i
    . subst e
      exact of_decide_eq_true h.1.1
    . exact apG_pos l m (i + 1) h.2 j (by omega) (by omega)
theorem rw_q3 (g : Int) : (rw' g).q <= 3 := by
  unfold rw'
  split
  . rename_i h
    have key : ∀ j : Fin 21, (tab.getD j.1 r0).q <= 3 := by decide +kernel
    have := key ⟨g.toNat, by omega⟩
    simpa using this
  . decide
theorem chk_ok64 (k : Int) (l : List Int) (n : Int) (h0 : 0 <= n) (hn : n <= 64) (h : chkP k l n = 0) : l.length <= 64 /\ ∀ z ∈ l, In64 z := by
  unfold chkP at h
  split at h
  . cases h
  . split at h
    . cases h
    . rename_i ha
      split at h
      . cases h
      . rename_i hm
        have ha' : apP (rw' k).q l = true := by simpa using ha
        unfold apP at ha'
        rw [Bool.and_eq_true, decide_eq_true_eq] at ha'
        have hq := rw_q3 k
        refine ⟨by omega, fun z hz => ?_⟩
        obtain ⟨j, hj, rfl⟩ := List.getElem_of_mem hz
        have e : l[j] = l.getD j 0 := by simp [List.getD, List.getElem?_eq_getElem hj]
        have a1 := apG_pos l l.length 0 ha'.2 j (by omega) (by omega)
        have a2 := mxG_bd l n _ hm j (by omega)
        rw [e]
        unfold In64
        omega
theorem may_in {q b : Int} {o : COp} (hq0 : 0 <= q) (hq : q <= 64) (hb : b <= 64) (h : mayP q b o = true) : o.qs.length <= 64 /\ (∀ z ∈ o.qs, In64 z) /\ In64 o.bit /\ In64 o.cond /\ In64 o.whn := by
  have hap : apaP o.qs q = true -> o.qs.length <= 64 /\ ∀ z ∈ o.qs, In64 z := fun h => by
    unfold apaP at h
    rw [Bool.and_eq_true, decide_eq_true_eq, List.all_eq_true] at h
    refine ⟨nodup_len 64 _ h.1 (fun x hx => ?_), fun z hz => ?_⟩
    . have := wi_in (h.2 x hx); omega
    . have := wi_in (h.2 z hz); unfold In64; omega
  have hfr : freeP o = true -> In64 o.cond /\ In64 o.whn := fun h => by
    unfold freeP at h
    simp only [Bool.and_eq_true, decide_eq_true_eq] at h
    unfold In64
    omega
  have hng : noGP o = true -> In64 o.cond /\ In64 o.whn := fun h => by
    unfold noGP at h
    rw [Bool.and_eq_true] at h
    exact hfr h.2
  have z64 : In64 0 := by unfold In64; omega
  unfold mayP at h
  split at h
  . simp only [Bool.and_eq_true, decide_eq_true_eq, Bool.or_eq_true] at h
    obtain ⟨⟨h1, h2⟩, h3⟩ := h
    have h4 : o.qs.length <= 64 /\ ∀ z ∈ o.qs, In64 z := by
      have := chk_ok64 o.gate o.qs q hq0 hq h1
      exact this
    refine ⟨h4.1, h4.2, by rw [h2]; exact z64, ?_⟩
    rcases h3 with h3 | h3
    . exact hfr h3
    . unfold askP at h3
      rw [Bool.and_eq_true] at h3
      have a1 := wi_in h3.1
      have a2 := wi_in h3.2
      unfold In64
      omega
  . split at h
    . simp only [Bool.and_eq_true] at h
      have h4 := hap h.1.2
      have h5 := wi_in h.2
      exact ⟨h4.1, h4.2, by unfold In64; omega, hng h.1.1.1⟩
    . split at h
      . simp only [Bool.and_eq_true, decide_eq_true_eq] at h
        have h4 := hap h.1.2
        exact ⟨h4.1, h4.2, by rw [h.2]; exact z64, hng h.1.1.1⟩
      . split at h
        . simp only [Bool.and_eq_true, decide_eq_true_eq] at h
          have h4 := hap h.1.2
          exact ⟨h4.1, h4.2, by rw [h.2]; exact z64, hng h.1.1.1⟩
        . cases h
theorem own_room {w : World} {B e size n g c : Nat} {xs : List Value} (h : w.ownsRow B e size (.slice (some ⟨g, 0, none⟩) n c) n xs) : n <= c := by
  rcases h.2 with ⟨h', _⟩ | ⟨g', cap', cur, h', _, _, hnc, _⟩
  . simp at h'
  . simp only [Value.slice.injEq, Option.some.injEq, Addr.mk.injEq, and_true, true_and] at h'
    obtain ⟨rfl, rfl⟩ := h'
    exact hnc
theorem ag_len (qs : List Int) (h : ∀ z ∈ qs, In64 z) : (agP qs).length <= qs.length * 26 := by
  have := join_le [44, 32] 24 (qs.map (elP 113)) (fun x hx => by
    obtain ⟨z, hz, rfl⟩ := List.mem_map.1 hx
    exact elP_len 113 z (h z hz).1 (h z hz).2)
  unfold agP
  simpa using this
theorem wr_len (o : COp) (h1 : o.qs.length <= 64) (h2 : ∀ z ∈ o.qs, In64 z) (h3 : In64 o.bit) (h4 : In64 o.cond) (h5 : In64 o.whn) : (wrP o).length <= 2000 := by
  have a := ag_len o.qs h2
  have b := elP_len 99 o.bit h3.1 h3.2
  have c := elP_len 99 o.cond h4.1 h4.2
  have d : (Lib.itoa o.whn).length <= 21 := Lib.itoa_length_le o.whn h5.1 h5.2
  have e := nm_len o.gate
  unfold wrP
  (repeat' split) <;> simp only [List.length_append, List.length_cons, List.length_nil] <;> omega
theorem hd_len (q b : Int) (h1 : In64 q) (h2 : In64 b) : (hdP q b).length <= 4 /\ ∀ x ∈ hdP q b, x.length <= 2000 := by
  have a := elP_len 113 q h1.1 h1.2
  have c := elP_len 99 b h2.1 h2.2
  unfold hdP
  refine ⟨by (repeat' split) <;> simp, fun x hx => ?_⟩
  simp only [List.mem_append, List.mem_cons, List.not_mem_nil, or_false] at hx
  rcases hx with ((rfl | rfl) | hx) | hx
  . simp
  . simp
  . split at hx
    . simp only [List.mem_cons, List.not_mem_nil, or_false] at hx
      subst hx
      simp only [List.length_append, List.length_cons, List.length_nil]
      omega
    . cases hx
  . split at hx
    . simp only [List.mem_cons, List.not_mem_nil, or_false] at hx
      subst hx
      simp only [List.length_append, List.length_cons, List.length_nil]
      omega
    . cases hx
theorem cWr (o : COp) (aq : Option Addr) (cq : Nat) (h1 : o.qs.length <= 64) (h2 : ∀ z ∈ o.qs, In64 z) (h3 : In64 o.bit) (h4 : In64 o.cond) (h5 : In64 o.whn) (w : World) (hT : Tb w) (h10 : T10 w) (hN : Ns w aq o.qs) :
    Calls Tryz.prog 35 #[opV o aq cq] w fun e w' => e = .returned (.string ⟨(wrP o).toArray⟩) /\ Below w.heap.size w w' := by
  by_cases k2 : o.kind = 2
  . exact cWritten o aq cq (by omega) h2 h3 h4 h5 (.inl k2) w hT h10 hN
  by_cases k3 : o.kind = 3
  . exact cWritten o aq cq (by omega) h2 h3 h4 h5 (.inr (.inl k3)) w hT h10 hN
  by_cases k4 : o.kind = 4
  . exact cWritten o aq cq (by omega) h2 h3 h4 h5 (.inr (.inr (.inl k4))) w hT h10 hN
  by_cases kc : o.cond = -1
  . exact cWritten o aq cq (by omega) h2 h3 h4 h5 (.inr (.inr (.inr kc))) w hT h10 hN
  . exact cWritten_if o aq cq (by omega) h2 h3 h4 h5 k2 k3 k4 kc w hT h10 hN
theorem cPrint (c : Circ) (ao : Option Addr) (k : Nat) (hk : (chkC c).2 = 0) (w : World) (hT : Tb w) (h10 : T10 w) (hC : Ci w c ao k) : Calls Tryz.prog 14 #[cV c ao k] w fun e w' => e = .returned (.tuple #[.string ⟨(prP c).toArray⟩, .int .i64 0]) /\ Below w.heap.size w w' := by
  obtain ⟨q0, q1, b0, b1, hl, hmay⟩ := chkC_ok hk
  have c1 := fun V (h : Below w.heap.size w V) => cCheck c ao k V (hT.below h) (hC.below h)
  rw [hk] at c1
  have cQ := fun V (h : Below w.heap.size w V) => cElement 113 c.q (by omega) (by omega) V (h10.below h)
  have cB := fun V (h : Below w.heap.size w V) => cElement 99 c.b (by omega) (by omega) V (h10.below h)
  have HW := hide (fun V (h : Below w.heap.size w V) (o : COp) (ho : o ∈ c.ops) (aq : Option Addr) (cq : Nat) (hn : Ns V aq o.qs) => by
    have hm := may_in q0 q1 b1 (hmay o ho)
    exact cWr o aq cq hm.1 hm.2.1 hm.2.2.1 hm.2.2.2.1 hm.2.2.2.2 V (hT.below h) (h10.below h) hn)
  have hhd := hd_len c.q c.b (by unfold In64; omega) (by unfold In64; omega)
  have hln : (Lib.join (lnP c) [59, 10]).length <= 10000000 := by
    have := join_le [59, 10] 2000 (lnP c) (fun x hx => by
      unfold lnP at hx
      rcases List.mem_append.1 hx with hx | hx
      . exact hhd.2 x hx
      . obtain ⟨o, ho, rfl⟩ := List.mem_map.1 hx
        have hm := may_in q0 q1 b1 (hmay o ho)
        exact wr_len o hm.1 hm.2.1 hm.2.2.1 hm.2.2.2.1 hm.2.2.2.2)
    have h2 : (lnP c).length <= 4100 := by unfold lnP; rw [List.length_append, List.length_map]; have := hhd.1; omega
    simp only [List.length_cons, List.length_nil] at this
    omega
  have HHD := hide hhd.1
  have eqb := cat_str [113, 114, 101, 103, 32] (elP 113 c.q)
  have ebb := cat_str [99, 114, 101, 103, 32] (elP 99 c.b)
  have zq := ba_size (elP 113 c.q)
  have zb := ba_size (elP 99 c.b)
  have lq := elP_len 113 c.q (by omega) (by omega)
  have lb := elP_len 99 c.b (by omega) (by omega)
  have HC := hide hC
  obtain ⟨R, hR⟩ : ∃ R, prP c = R := ⟨_, rfl⟩
  rw [hR]
  have HR := hide hR
  obtain ⟨n, hn⟩ : ∃ n, c.ops.length = n := ⟨_, rfl⟩
  have HL := hide hn
  obtain ⟨q, b, ops⟩ := c
  have HD : Hid (∀ x, hdP q b = x -> lnP ⟨q, b, ops⟩ = x ++ ops.map wrP) := hide (fun x hx => by rw [← hx]; rfl)
  unfold cV at *
  simp only at *
  rw [hn] at hl c1 ⊢
  generalize (chkC ⟨q, b, ops⟩).1 = z1 at *
  clear hC hk hmay hT h10 hhd hR hn q1 b1
  have hW1 : ∀ w1, Below (w.alloc (.cells #[.int .i64 q, .int .i64 b, .slice ao n k] 24)).heap.size (w.alloc (.cells #[.int .i64 q, .int .i64 b, .slice ao n k] 24)) w1 -> w1.heap[w.heap.size]? = some (.cells #[.int .i64 q, .int .i64 b, .slice ao n k] 24 (0, 0)) /\ w1.cell? ⟨w.heap.size, 0, none⟩ = some (.int .i64 q) /\ w1.cell? ⟨w.heap.size, 1, none⟩ = some (.int .i64 b) /\ w1.cell? ⟨w.heap.size, 2, none⟩ = some (.slice ao n k) /\ w.heap.size < w1.heap.size /\ Below w.heap.size w w1 := fun w1 hb1 => by
    have hk1 := (hb1.block w.heap.size (by simp)).trans (heap_alloc_new w (.cells #[.int .i64 q, .int .i64 b, .slice ao n k] 24))
    obtain ⟨x0, x1, x2, x3⟩ := def_cells hk1
    exact ⟨hk1, x0, x1, x2, x3, (bnew _ _).trans (hb1.mono (by simp))⟩
  have HW1 := hide hW1
  clear hW1
  by_cases hq : 0 < q
  . by_cases hb : 0 < b
    . have dq : decide (q > 0) = true := decide_eq_true (by omega)
      have dq2 : decide (0 < q) = true := decide_eq_true (by omega)
      have db : decide (b > 0) = true := decide_eq_true (by omega)
      have db2 : decide (0 < b) = true := decide_eq_true (by omega)
      have hhd2 : hdP q b = [[79, 80, 69, 78, 81, 65, 83, 77, 32, 50, 46, 48], [105, 110, 99, 108, 117, 100, 101, 32, 34, 113, 101, 108, 105, 98, 49, 46, 105, 110, 99, 34], [113, 114, 101, 103, 32] ++ elP 113 q, [99, 114, 101, 103, 32] ++ elP 99 b] := by unfold hdP; rw [if_pos (by omega), if_pos (by omega)]; rfl
      clear hq hb q0 b0
      generalize hqb : (⟨([113, 114, 101, 103, 32] ++ elP 113 q).toArray⟩ : ByteArray) = qb at eqb
      have HQB := hide hqb
      clear hqb
      generalize (⟨(elP 113 q).toArray⟩ : ByteArray) = qe at cQ eqb zq
      generalize hbb : (⟨([99, 114, 101, 103, 32] ++ elP 99 b).toArray⟩ : ByteArray) = bb at ebb
      have HBB := hide hbb
      clear hbb
      generalize (⟨(elP 99 b).toArray⟩ : ByteArray) = be at cB ebb zb
      go_enter Tryz.func14, Tryz.ntmps14
      go_wp2_with (first
        | (go_at_call 4; refine (c1 _ (bnew _ _)).mono ?_; rintro e w1 ⟨rfl, hb1⟩; obtain ⟨hk1, x0, x1, x2, x3, hbw1⟩ := HW1.out w1 hb1; have hown1 := World.ownsRow_lit (base := w.heap.size + 1) (e := 9) (size := 1) w1 #[.string ⟨#[79, 80, 69, 78, 81, 65, 83, 77, 32, 50, 46, 48]⟩, .string ⟨#[105, 110, 99, 108, 117, 100, 101, 32, 34, 113, 101, 108, 105, 98, 49, 46, 105, 110, 99, 34]⟩] 2 (by omega) (by unfold maxLen; omega) rfl; have hbL := hbw1.trans ((bnew w1 (.cells #[.string ⟨#[79, 80, 69, 78, 81, 65, 83, 77, 32, 50, 46, 48]⟩, .string ⟨#[105, 110, 99, 108, 117, 100, 101, 32, 34, 113, 101, 108, 105, 98, 49, 46, 105, 110, 99, 34]⟩] 9)).mono hbw1.size); have hkL := (Below.heap_alloc w1 (.cells #[.string ⟨#[79, 80, 69, 78, 81, 65, 83, 77, 32, 50, 46, 48]⟩, .string ⟨#[105, 110, 99, 108, 117, 100, 101, 32, 34, 113, 101, 108, 105, 98, 49, 46, 105, 110, 99, 34]⟩] 9) _ x3).trans hk1)
        | (go_at_call_of 34 (Value.string ⟨#[113]⟩); refine (cQ _ hbL).mono ?_; rintro e v2 ⟨rfl, hv2⟩; have hownv2 := own_below hown1 hv2; have hbv2 := hbL.trans (hv2.mono hbL.size); have hsv2 : w.heap.size + 1 <= v2.heap.size := (by have := hbv2.size; have := own_lt hownv2 _ rfl; omega); have hkv2 := (hv2.block w.heap.size (Array.getElem?_eq_some_iff.1 hkL).1).trans hkL; obtain ⟨xa2, xb2, xc2, xd2⟩ := def_cells hkv2)
        | (at_builtin; refine wpList_pushV rfl _ _ 82 rfl 9 Tryz.underlying82 _ 16 infoStr8 rfl (w.heap.size + 1) (some ⟨w1.heap.size, 0, none⟩) 2 2 [.string ⟨#[79, 80, 69, 78, 81, 65, 83, 77, 32, 50, 46, 48]⟩, .string ⟨#[105, 110, 99, 108, 117, 100, 101, 32, 34, 113, 101, 108, 105, 98, 49, 46, 105, 110, 99, 34]⟩] rfl hownv2 (.string qb) rfl rfl (by omega) (by omega) hsv2 ?_; intro g2 p2 u2 hownu2 hgr2 hat2; have hbu2 : Below w.heap.size w u2 := hbv2.grown hgr2 (by omega) (fun q hq => by have := (hownv2.lt q (by rw [ob_eq]; exact hq)).1; omega); have hku2 := (hgr2.block w.heap.size (Array.getElem?_eq_some_iff.1 hkv2).1 (fun e => by have := (own_lt hownv2 _ e.symm).1; omega)).trans hkv2; obtain ⟨ya2, yb2, yc2, yd2⟩ := def_cells hku2)
        | (go_at_call_of 34 (Value.string ⟨#[99]⟩); refine (cB _ hbu2).mono ?_; rintro e v3 ⟨rfl, hv3⟩; have hownv3 := own_below hownu2 hv3; have hbv3 := hbu2.trans (hv3.mono hbu2.size); have hsv3 : w.heap.size + 1 <= v3.heap.size := (by have := hbv3.size; have := own_lt hownv3 _ rfl; omega); have hkv3 := (hv3.block w.heap.size (Array.getElem?_eq_some_iff.1 hku2).1).trans hku2; obtain ⟨xa3, xb3, xc3, xd3⟩ := def_cells hkv3)
        | (at_builtin; refine wpList_pushV rfl _ _ 82 rfl 9 Tryz.underlying82 _ 16 infoStr8 rfl (w.heap.size + 1) (some ⟨g2, 0, none⟩) 3 p2 ([.string ⟨#[79, 80, 69, 78, 81, 65, 83, 77, 32, 50, 46, 48]⟩, .string ⟨#[105, 110, 99, 108, 117, 100, 101, 32, 34, 113, 101, 108, 105, 98, 49, 46, 105, 110, 99, 34]⟩] ++ [(.string qb)]) rfl hownv3 (.string bb) rfl rfl (by omega) (by omega) hsv3 ?_; intro g3 p3 u3 hownu3 hgr3 hat3; have hbu3 : Below w.heap.size w u3 := hbv3.grown hgr3 (by omega) (fun q hq => by have := (hownv3.lt q (by rw [ob_eq]; exact hq)).1; omega); have hku3 := (hgr3.block w.heap.size (Array.getElem?_eq_some_iff.1 hkv3).1 (fun e => by have := (own_lt hownv3 _ e.symm).1; omega)).trans hkv3; obtain ⟨ya3, yb3, yc3, yd3⟩ := def_cells hku3))
      rw [← HQB.out] at hownu3
      rw [← HBB.out] at hownu3
      have HO := hide hownu3
      have HB := hide hbu3
      have HHd := hide hhd2
      clear hownu3
      go_loopw [6, 41] (fun vl vi wr => ∃ (i L g cap : Nat) (X : List Value), vl = .slice (some ⟨g, 0, none⟩) L cap /\ vi = .int .i64 (i : Int) /\ i <= n /\ L <= 4 + i /\ Hid (L = 4 + i) /\ Hid (X = (hdP q b ++ (ops.take i).map wrP).map sV) /\ wr.ownsRow (w.heap.size + 1) 9 1 (.slice (some ⟨g, 0, none⟩) L cap) L X /\ Below w.heap.size w wr) (fun _ vi _ => n - (Go.RowKit.intOf vi).toNat)
      case atStart => exact ⟨0, 4, _, _, _, rfl, rfl, Nat.zero_le _, by omega, hide rfl, hide rfl, (by rw [HHd.out]; exact HO.out), HB.out⟩
      case round =>
        obtain ⟨i, L, g, cap, X, rfl, rfl, hi, hL, HLL, HX, hown, hbe⟩ := hrel
        clear HO HB
        by_cases h : i < n
        . have hd : decide ((i : Int) < (n : Int)) = true := decide_eq_true (by omega)
          obtain ⟨o, ho⟩ : ∃ o, ops[i]? = some o := ⟨_, List.getElem?_eq_getElem (by rw [HL.out]; exact h)⟩
          have hom := List.mem_of_getElem? ho
          obtain ⟨go, off, aq, cq, rfl, hgl, hoc⟩ := (HC.out.below hbe).ops.at (show (⟨q, b, ops⟩ : Circ).ops[i]? = some o from ho)
          have k0 := hoc.kind
          have k1 := hoc.gate
          have k2 := hoc.qs
          have k3 := hoc.bit
          have k4 := hoc.cond
          have k5 := hoc.whn
          have hM2 := HW.out (wr.alloc (.cells #[.int .i64 o.kind, .int .i64 o.gate, .slice aq o.qs.length cq, .int .i64 o.bit, .int .i64 o.cond, .int .i64 o.whn] 34)) (hbe.trans ((bnew _ _).mono hbe.size)) o hom aq cq (hoc.ns.below (bnew _ _))
          have HXs : Hid (X ++ [sV (wrP o)] = (hdP q b ++ (ops.take (i + 1)).map wrP).map sV) := hide (by
            rw [HX.out, List.take_add_one, ho]
            simp)
          have hzr := hbe.size
          unfold opV at hM2
          unfold sV at HXs
          clear hoc ho hom
          generalize (⟨(wrP o).toArray⟩ : ByteArray) = wb at *
          obtain ⟨kind, gate, qs, bit, cond, whn⟩ := o
          simp only at *
          generalize qs.length = qn at *
          have HM2 := hide hM2
          clear hM2
          have hbc := (bnew wr (.cells #[.int .i64 kind, .int .i64 gate, .slice aq qn cq, .int .i64 bit, .int .i64 cond, .int .i64 whn] 34))
          have hown1 := own_below hown hbc
          have hbe1 := hbe.trans (hbc.mono hbe.size)
          clear hown
          generalize hWA : (wr.alloc (.cells #[.int .i64 kind, .int .i64 gate, .slice aq qn cq, .int .i64 bit, .int .i64 cond, .int .i64 whn] 34)) = wA at hown1 hbe1
          have HWA := hide hWA
          clear hWA hbc
          go_wp2_with (first
            | (go_at_call 35; refine HM2.out.mono ?_; rintro e w2 ⟨rfl, hb2⟩; rw [HWA.out] at hb2; have hown2 := own_below hown1 hb2; have hbe2 := hbe1.trans (hb2.mono hbe1.size); have hs2 : w.heap.size + 1 <= w2.heap.size := (by have := own_lt hown2 g rfl; omega))
            | (at_builtin; refine wpList_pushV rfl _ _ 82 rfl 9 Tryz.underlying82 _ 16 infoStr8 rfl (w.heap.size + 1) (some ⟨g, 0, none⟩) L cap X rfl hown2 (.string wb) rfl rfl (by omega) (by omega) hs2 ?_; intro g3 c3 w3 hown3 hgr3 hat3; have hb3 : Below w.heap.size w w3 := hbe2.grown hgr3 (by omega) (fun q hq => by have := (hown2.lt q (by rw [ob_eq]; exact hq)).1; omega); clear hgr3 hat3))
          go_roundw
          case rel => exact ⟨i + 1, L + 1, g3, c3, X ++ [.string wb], rfl, by go_num, by omega, by omega, hide (by have := HLL.out; omega), HXs, hown3, hb3⟩
          case measure => simp [Go.RowKit.intOf]; omega
        . obtain rfl : n = i := by omega
          have hLn : (lnP ⟨q, b, ops⟩).length = L := by
            rw [HLL.out, HD.out _ HHd.out, List.length_append, List.length_map, HL.out]
            rfl
          have cJ := sJoinS [59, 10] g cap (lnP ⟨q, b, ops⟩) wr (fun j x hx => by
            refine (own_at hown j (sV x) ?_)
            rw [HX.out, List.take_of_length_le (by rw [HL.out]; exact Nat.le_refl _)]
            show (List.map sV (lnP ⟨q, b, ops⟩))[j]? = _
            rw [List.getElem?_map, hx]
            rfl) (own_lt hown g rfl).2 (by rw [hLn]; omega) (by rw [hLn]; exact own_room hown) (by omega)
          rw [hLn] at cJ
          have e1 : (⟨(Lib.join (lnP ⟨q, b, ops⟩) [59, 10]).toArray⟩ : ByteArray) ++ ⟨#[59, 10]⟩ = ⟨R.toArray⟩ := (cat_str _ [59, 10]).trans (by rw [← HR.out]; rfl)
          have cJ' : Calls Tryz.prog 36 #[.slice (some ⟨g, 0, none⟩) L cap, .string ⟨#[59, 10]⟩] wr fun e w' => e = .returned (.string ⟨(Lib.join (lnP ⟨q, b, ops⟩) [59, 10]).toArray⟩) /\ Below wr.heap.size wr w' := cJ
          have s1 := ba_size (Lib.join (lnP ⟨q, b, ops⟩) [59, 10])
          clear cJ hLn
          generalize (⟨(Lib.join (lnP ⟨q, b, ops⟩) [59, 10]).toArray⟩ : ByteArray) = jb at *
          generalize hrb : (⟨R.toArray⟩ : ByteArray) = rb at e1
          have HRB := hide hrb
          clear hrb hown
          go_wp2_with (first | (go_at_call 36; refine cJ'.mono ?_; rintro e w2 ⟨rfl, hb2⟩))
          go_ret2
          exact ⟨by rw [HRB.out]; rfl, hbe.trans (hb2.mono hbe.size)⟩
    . have dq : decide (q > 0) = true := decide_eq_true (by omega)
      have dq2 : decide (0 < q) = true := decide_eq_true (by omega)
      have db : decide (b > 0) = false := decide_eq_false (by omega)
      have db2 : decide (0 < b) = false := decide_eq_false (by omega)
      have hhd2 : hdP q b = [[79, 80, 69, 78, 81, 65, 83, 77, 32, 50, 46, 48], [105, 110, 99, 108, 117, 100, 101, 32, 34, 113, 101, 108, 105, 98, 49, 46, 105, 110, 99, 34], [113, 114, 101, 103, 32] ++ elP 113 q] := by unfold hdP; rw [if_pos (by omega), if_neg (by omega)]; rfl
      clear hq hb q0 b0
      generalize hqb : (⟨([113, 114, 101, 103, 32] ++ elP 113 q).toArray⟩ : ByteArray) = qb at eqb
      have HQB := hide hqb
      clear hqb
      generalize (⟨(elP 113 q).toArray⟩ : ByteArray) = qe at cQ eqb zq
      clear ebb zb cB
      go_enter Tryz.func14, Tryz.ntmps14
      go_wp2_with (first
        | (go_at_call 4; refine (c1 _ (bnew _ _)).mono ?_; rintro e w1 ⟨rfl, hb1⟩; obtain ⟨hk1, x0, x1, x2, x3, hbw1⟩ := HW1.out w1 hb1; have hown1 := World.ownsRow_lit (base := w.heap.size + 1) (e := 9) (size := 1) w1 #[.string ⟨#[79, 80, 69, 78, 81, 65, 83, 77, 32, 50, 46, 48]⟩, .string ⟨#[105, 110, 99, 108, 117, 100, 101, 32, 34, 113, 101, 108, 105, 98, 49, 46, 105, 110, 99, 34]⟩] 2 (by omega) (by unfold maxLen; omega) rfl; have hbL := hbw1.trans ((bnew w1 (.cells #[.string ⟨#[79, 80, 69, 78, 81, 65, 83, 77, 32, 50, 46, 48]⟩, .string ⟨#[105, 110, 99, 108, 117, 100, 101, 32, 34, 113, 101, 108, 105, 98, 49, 46, 105, 110, 99, 34]⟩] 9)).mono hbw1.size); have hkL := (Below.heap_alloc w1 (.cells #[.string ⟨#[79, 80, 69, 78, 81, 65, 83, 77, 32, 50, 46, 48]⟩, .string ⟨#[105, 110, 99, 108, 117, 100, 101, 32, 34, 113, 101, 108, 105, 98, 49, 46, 105, 110, 99, 34]⟩] 9) _ x3).trans hk1)
        | (go_at_call_of 34 (Value.string ⟨#[113]⟩); refine (cQ _ hbL).mono ?_; rintro e v2 ⟨rfl, hv2⟩; have hownv2 := own_below hown1 hv2; have hbv2 := hbL.trans (hv2.mono hbL.size); have hsv2 : w.heap.size + 1 <= v2.heap.size := (by have := hbv2.size; have := own_lt hownv2 _ rfl; omega); have hkv2 := (hv2.block w.heap.size (Array.getElem?_eq_some_iff.1 hkL).1).trans hkL; obtain ⟨xa2, xb2, xc2, xd2⟩ := def_cells hkv2)
        | (at_builtin; refine wpList_pushV rfl _ _ 82 rfl 9 Tryz.underlying82 _ 16 infoStr8 rfl (w.heap.size + 1) (some ⟨w1.heap.size, 0, none⟩) 2 2 [.string ⟨#[79, 80, 69, 78, 81, 65, 83, 77, 32, 50, 46, 48]⟩, .string ⟨#[105, 110, 99, 108, 117, 100, 101, 32, 34, 113, 101, 108, 105, 98, 49, 46, 105, 110, 99, 34]⟩] rfl hownv2 (.string qb) rfl rfl (by omega) (by omega) hsv2 ?_; intro g2 p2 u2 hownu2 hgr2 hat2; have hbu2 : Below w.heap.size w u2 := hbv2.grown hgr2 (by omega) (fun q hq => by have := (hownv2.lt q (by rw [ob_eq]; exact hq)).1; omega); have hku2 := (hgr2.block w.heap.size (Array.getElem?_eq_some_iff.1 hkv2).1 (fun e => by have := (own_lt hownv2 _ e.symm).1; omega)).trans hkv2; obtain ⟨ya2, yb2, yc2, yd2⟩ := def_cells hku2))
      rw [← HQB.out] at hownu2
      have HO := hide hownu2
      have HB := hide hbu2
      have HHd := hide hhd2
      clear hownu2
      go_loopw [6, 41] (fun vl vi wr => ∃ (i L g cap : Nat) (X : List Value), vl = .slice (some ⟨g, 0, none⟩) L cap /\ vi = .int .i64 (i : Int) /\ i <= n /\ L <= 4 + i /\ Hid (L = 3 + i) /\ Hid (X = (hdP q b ++ (ops.take i).map wrP).map sV) /\ wr.ownsRow (w.heap.size + 1) 9 1 (.slice (some ⟨g, 0, none⟩) L cap) L X /\ Below w.heap.size w wr) (fun _ vi _ => n - (Go.RowKit.intOf vi).toNat)
      case atStart => exact ⟨0, 3, _, _, _, rfl, rfl, Nat.zero_le _, by omega, hide rfl, hide rfl, (by rw [HHd.out]; exact HO.out), HB.out⟩
      case round =>
        obtain ⟨i, L, g, cap, X, rfl, rfl, hi, hL, HLL, HX, hown, hbe⟩ := hrel
        clear HO HB
        by_cases h : i < n
        . have hd : decide ((i : Int) < (n : Int)) = true := decide_eq_true (by omega)
          obtain ⟨o, ho⟩ : ∃ o, ops[i]? = some o := ⟨_, List.getElem?_eq_getElem (by rw [HL.out]; exact h)⟩
          have hom := List.mem_of_getElem? ho
          obtain ⟨go, off, aq, cq, rfl, hgl, hoc⟩ := (HC.out.below hbe).ops.at (show (⟨q, b, ops⟩ : Circ).ops[i]? = some o from ho)
          have k0 := hoc.kind
          have k1 := hoc.gate
          have k2 := hoc.qs
          have k3 := hoc.bit
          have k4 := hoc.cond
          have k5 := hoc.whn
          have hM2 := HW.out (wr.alloc (.cells #[.int .i64 o.kind, .int .i64 o.gate, .slice aq o.qs.length cq, .int .i64 o.bit, .int .i64 o.cond, .int .i64 o.whn] 34)) (hbe.trans ((bnew _ _).mono hbe.size)) o hom aq cq (hoc.ns.below (bnew _ _))
          have HXs : Hid (X ++ [sV (wrP o)] = (hdP q b ++ (ops.take (i + 1)).map wrP).map sV) := hide (by
            rw [HX.out, List.take_add_one, ho]
            simp)
          have hzr := hbe.size
          unfold opV at hM2
          unfold sV at HXs
          clear hoc ho hom
          generalize (⟨(wrP o).toArray⟩ : ByteArray) = wb at *
          obtain ⟨kind, gate, qs, bit, cond, whn⟩ := o
          simp only at *
          generalize qs.length = qn at *
          have HM2 := hide hM2
          clear hM2
          have hbc := (bnew wr (.cells #[.int .i64 kind, .int .i64 gate, .slice aq qn cq, .int .i64 bit, .int .i64 cond, .int .i64 whn] 34))
          have hown1 := own_below hown hbc
          have hbe1 := hbe.trans (hbc.mono hbe.size)
          clear hown
          generalize hWA : (wr.alloc (.cells #[.int .i64 kind, .int .i64 gate, .slice aq qn cq, .int .i64 bit, .int .i64 cond, .int .i64 whn] 34)) = wA at hown1 hbe1
          have HWA := hide hWA
          clear hWA hbc
          go_wp2_with (first
            | (go_at_call 35; refine HM2.out.mono ?_; rintro e w2 ⟨rfl, hb2⟩; rw [HWA.out] at hb2; have hown2 := own_below hown1 hb2; have hbe2 := hbe1.trans (hb2.mono hbe1.size); have hs2 : w.heap.size + 1 <= w2.heap.size := (by have := own_lt hown2 g rfl; omega))
            | (at_builtin; refine wpList_pushV rfl _ _ 82 rfl 9 Tryz.underlying82 _ 16 infoStr8 rfl (w.heap.size + 1) (some ⟨g, 0, none⟩) L cap X rfl hown2 (.string wb) rfl rfl (by omega) (by omega) hs2 ?_; intro g3 c3 w3 hown3 hgr3 hat3; have hb3 : Below w.heap.size w w3 := hbe2.grown hgr3 (by omega) (fun q hq => by have := (hown2.lt q (by rw [ob_eq]; exact hq)).1; omega); clear hgr3 hat3))
          go_roundw
          case rel => exact ⟨i + 1, L + 1, g3, c3, X ++ [.string wb], rfl, by go_num, by omega, by omega, hide (by have := HLL.out; omega), HXs, hown3, hb3⟩
          case measure => simp [Go.RowKit.intOf]; omega
        . obtain rfl : n = i := by omega
          have hLn : (lnP ⟨q, b, ops⟩).length = L := by
            rw [HLL.out, HD.out _ HHd.out, List.length_append, List.length_map, HL.out]
            rfl
          have cJ := sJoinS [59, 10] g cap (lnP ⟨q, b, ops⟩) wr (fun j x hx => by
            refine (own_at hown j (sV x) ?_)
            rw [HX.out, List.take_of_length_le (by rw [HL.out]; exact Nat.le_refl _)]
            show (List.map sV (lnP ⟨q, b, ops⟩))[j]? = _
            rw [List.getElem?_map, hx]
            rfl) (own_lt hown g rfl).2 (by rw [hLn]; omega) (by rw [hLn]; exact own_room hown) (by omega)
          rw [hLn] at cJ
          have e1 : (⟨(Lib.join (lnP ⟨q, b, ops⟩) [59, 10]).toArray⟩ : ByteArray) ++ ⟨#[59, 10]⟩ = ⟨R.toArray⟩ := (cat_str _ [59, 10]).trans (by rw [← HR.out]; rfl)
          have cJ' : Calls Tryz.prog 36 #[.slice (some ⟨g, 0, none⟩) L cap, .string ⟨#[59, 10]⟩] wr fun e w' => e = .returned (.string ⟨(Lib.join (lnP ⟨q, b, ops⟩) [59, 10]).toArray⟩) /\ Below wr.heap.size wr w' := cJ
          have s1 := ba_size (Lib.join (lnP ⟨q, b, ops⟩) [59, 10])
          clear cJ hLn
          generalize (⟨(Lib.join (lnP ⟨q, b, ops⟩) [59, 10]).toArray⟩ : ByteArray) = jb at *
          generalize hrb : (⟨R.toArray⟩ : ByteArray) = rb at e1
          have HRB := hide hrb
          clear hrb hown
          go_wp2_with (first | (go_at_call 36; refine cJ'.mono ?_; rintro e w2 ⟨rfl, hb2⟩))
          go_ret2
          exact ⟨by rw [HRB.out]; rfl, hbe.trans (hb2.mono hbe.size)⟩
  . by_cases hb : 0 < b
    . have dq : decide (q > 0) = false := decide_eq_false (by omega)
      have dq2 : decide (0 < q) = false := decide_eq_false (by omega)
      have db : decide (b > 0) = true := decide_eq_true (by omega)
      have db2 : decide (0 < b) = true := decide_eq_true (by omega)
      have hhd2 : hdP q b = [[79, 80, 69, 78, 81, 65, 83, 77, 32, 50, 46, 48], [105, 110, 99, 108, 117, 100, 101, 32, 34, 113, 101, 108, 105, 98, 49, 46, 105, 110, 99, 34], [99, 114, 101, 103, 32] ++ elP 99 b] := by unfold hdP; rw [if_neg (by omega), if_pos (by omega)]; rfl
      clear hq hb q0 b0
      clear eqb zq cQ
      generalize hbb : (⟨([99, 114, 101, 103, 32] ++ elP 99 b).toArray⟩ : ByteArray) = bb at ebb
      have HBB := hide hbb
      clear hbb
      generalize (⟨(elP 99 b).toArray⟩ : ByteArray) = be at cB ebb zb
      go_enter Tryz.func14, Tryz.ntmps14
      go_wp2_with (first
        | (go_at_call 4; refine (c1 _ (bnew _ _)).mono ?_; rintro e w1 ⟨rfl, hb1⟩; obtain ⟨hk1, x0, x1, x2, x3, hbw1⟩ := HW1.out w1 hb1; have hown1 := World.ownsRow_lit (base := w.heap.size + 1) (e := 9) (size := 1) w1 #[.string ⟨#[79, 80, 69, 78, 81, 65, 83, 77, 32, 50, 46, 48]⟩, .string ⟨#[105, 110, 99, 108, 117, 100, 101, 32, 34, 113, 101, 108, 105, 98, 49, 46, 105, 110, 99, 34]⟩] 2 (by omega) (by unfold maxLen; omega) rfl; have hbL := hbw1.trans ((bnew w1 (.cells #[.string ⟨#[79, 80, 69, 78, 81, 65, 83, 77, 32, 50, 46, 48]⟩, .string ⟨#[105, 110, 99, 108, 117, 100, 101, 32, 34, 113, 101, 108, 105, 98, 49, 46, 105, 110, 99, 34]⟩] 9)).mono hbw1.size); have hkL := (Below.heap_alloc w1 (.cells #[.string ⟨#[79, 80, 69, 78, 81, 65, 83, 77, 32, 50, 46, 48]⟩, .string ⟨#[105, 110, 99, 108, 117, 100, 101, 32, 34, 113, 101, 108, 105, 98, 49, 46, 105, 110, 99, 34]⟩] 9) _ x3).trans hk1)
        | (go_at_call_of 34 (Value.string ⟨#[99]⟩); refine (cB _ hbL).mono ?_; rintro e v2 ⟨rfl, hv2⟩; have hownv2 := own_below hown1 hv2; have hbv2 := hbL.trans (hv2.mono hbL.size); have hsv2 : w.heap.size + 1 <= v2.heap.size := (by have := hbv2.size; have := own_lt hownv2 _ rfl; omega); have hkv2 := (hv2.block w.heap.size (Array.getElem?_eq_some_iff.1 hkL).1).trans hkL; obtain ⟨xa2, xb2, xc2, xd2⟩ := def_cells hkv2)
        | (at_builtin; refine wpList_pushV rfl _ _ 82 rfl 9 Tryz.underlying82 _ 16 infoStr8 rfl (w.heap.size + 1) (some ⟨w1.heap.size, 0, none⟩) 2 2 [.string ⟨#[79, 80, 69, 78, 81, 65, 83, 77, 32, 50, 46, 48]⟩, .string ⟨#[105, 110, 99, 108, 117, 100, 101, 32, 34, 113, 101, 108, 105, 98, 49, 46, 105, 110, 99, 34]⟩] rfl hownv2 (.string bb) rfl rfl (by omega) (by omega) hsv2 ?_; intro g2 p2 u2 hownu2 hgr2 hat2; have hbu2 : Below w.heap.size w u2 := hbv2.grown hgr2 (by omega) (fun q hq => by have := (hownv2.lt q (by rw [ob_eq]; exact hq)).1; omega); have hku2 := (hgr2.block w.heap.size (Array.getElem?_eq_some_iff.1 hkv2).1 (fun e => by have := (own_lt hownv2 _ e.symm).1; omega)).trans hkv2; obtain ⟨ya2, yb2, yc2, yd2⟩ := def_cells hku2))
      rw [← HBB.out] at hownu2
      have HO := hide hownu2
      have HB := hide hbu2
      have HHd := hide hhd2
      clear hownu2
      go_loopw [6, 41] (fun vl vi wr => ∃ (i L g cap : Nat) (X : List Value), vl = .slice (some ⟨g, 0, none⟩) L cap /\ vi = .int .i64 (i : Int) /\ i <= n /\ L <= 4 + i /\ Hid (L = 3 + i) /\ Hid (X = (hdP q b ++ (ops.take i).map wrP).map sV) /\ wr.ownsRow (w.heap.size + 1) 9 1 (.slice (some ⟨g, 0, none⟩) L cap) L X /\ Below w.heap.size w wr) (fun _ vi _ => n - (Go.RowKit.intOf vi).toNat)
      case atStart => exact ⟨0, 3, _, _, _, rfl, rfl, Nat.zero_le _, by omega, hide rfl, hide rfl, (by rw [HHd.out]; exact HO.out), HB.out⟩
      case round =>
        obtain ⟨i, L, g, cap, X, rfl, rfl, hi, hL, HLL, HX, hown, hbe⟩ := hrel
        clear HO HB
        by_cases h : i < n
        . have hd : decide ((i : Int) < (n : Int)) = true := decide_eq_true (by omega)
          obtain ⟨o, ho⟩ : ∃ o, ops[i]? = some o := ⟨_, List.getElem?_eq_getElem (by rw [HL.out]; exact h)⟩
          have hom := List.mem_of_getElem? ho
          obtain ⟨go, off, aq, cq, rfl, hgl, hoc⟩ := (HC.out.below hbe).ops.at (show (⟨q, b, ops⟩ : Circ).ops[i]? = some o from ho)
          have k0 := hoc.kind
          have k1 := hoc.gate
          have k2 := hoc.qs
          have k3 := hoc.bit
          have k4 := hoc.cond
          have k5 := hoc.whn
          have hM2 := HW.out (wr.alloc (.cells #[.int .i64 o.kind, .int .i64 o.gate, .slice aq o.qs.length cq, .int .i64 o.bit, .int .i64 o.cond, .int .i64 o.whn] 34)) (hbe.trans ((bnew _ _).mono hbe.size)) o hom aq cq (hoc.ns.below (bnew _ _))
          have HXs : Hid (X ++ [sV (wrP o)] = (hdP q b ++ (ops.take (i + 1)).map wrP).map sV) := hide (by
            rw [HX.out, List.take_add_one, ho]
            simp)
          have hzr := hbe.size
          unfold opV at hM2
          unfold sV at HXs
          clear hoc ho hom
          generalize (⟨(wrP o).toArray⟩ : ByteArray) = wb at *
          obtain ⟨kind, gate, qs, bit, cond, whn⟩ := o
          simp only at *
          generalize qs.length = qn at *
          have HM2 := hide hM2
          clear hM2
          have hbc := (bnew wr (.cells #[.int .i64 kind, .int .i64 gate, .slice aq qn cq, .int .i64 bit, .int .i64 cond, .int .i64 whn] 34))
          have hown1 := own_below hown hbc
          have hbe1 := hbe.trans (hbc.mono hbe.size)
          clear hown
          generalize hWA : (wr.alloc (.cells #[.int .i64 kind, .int .i64 gate, .slice aq qn cq, .int .i64 bit, .int .i64 cond, .int .i64 whn] 34)) = wA at hown1 hbe1
          have HWA := hide hWA
          clear hWA hbc
          go_wp2_with (first
            | (go_at_call 35; refine HM2.out.mono ?_; rintro e w2 ⟨rfl, hb2⟩; rw [HWA.out] at hb2; have hown2 := own_below hown1 hb2; have hbe2 := hbe1.trans (hb2.mono hbe1.size); have hs2 : w.heap.size + 1 <= w2.heap.size := (by have := own_lt hown2 g rfl; omega))
            | (at_builtin; refine wpList_pushV rfl _ _ 82 rfl 9 Tryz.underlying82 _ 16 infoStr8 rfl (w.heap.size + 1) (some ⟨g, 0, none⟩) L cap X rfl hown2 (.string wb) rfl rfl (by omega) (by omega) hs2 ?_; intro g3 c3 w3 hown3 hgr3 hat3; have hb3 : Below w.heap.size w w3 := hbe2.grown hgr3 (by omega) (fun q hq => by have := (hown2.lt q (by rw [ob_eq]; exact hq)).1; omega); clear hgr3 hat3))
          go_roundw
          case rel => exact ⟨i + 1, L + 1, g3, c3, X ++ [.string wb], rfl, by go_num, by omega, by omega, hide (by have := HLL.out; omega), HXs, hown3, hb3⟩
          case measure => simp [Go.RowKit.intOf]; omega
        . obtain rfl : n = i := by omega
          have hLn : (lnP ⟨q, b, ops⟩).length = L := by
            rw [HLL.out, HD.out _ HHd.out, List.length_append, List.length_map, HL.out]
            rfl
          have cJ := sJoinS [59, 10] g cap (lnP ⟨q, b, ops⟩) wr (fun j x hx => by
            refine (own_at hown j (sV x) ?_)
            rw [HX.out, List.take_of_length_le (by rw [HL.out]; exact Nat.le_refl _)]
            show (List.map sV (lnP ⟨q, b, ops⟩))[j]? = _
            rw [List.getElem?_map, hx]
            rfl) (own_lt hown g rfl).2 (by rw [hLn]; omega) (by rw [hLn]; exact own_room hown) (by omega)
          rw [hLn] at cJ
          have e1 : (⟨(Lib.join (lnP ⟨q, b, ops⟩) [59, 10]).toArray⟩ : ByteArray) ++ ⟨#[59, 10]⟩ = ⟨R.toArray⟩ := (cat_str _ [59, 10]).trans (by rw [← HR.out]; rfl)
          have cJ' : Calls Tryz.prog 36 #[.slice (some ⟨g, 0, none⟩) L cap, .string ⟨#[59, 10]⟩] wr fun e w' => e = .returned (.string ⟨(Lib.join (lnP ⟨q, b, ops⟩) [59, 10]).toArray⟩) /\ Below wr.heap.size wr w' := cJ
          have s1 := ba_size (Lib.join (lnP ⟨q, b, ops⟩) [59, 10])
          clear cJ hLn
          generalize (⟨(Lib.join (lnP ⟨q, b, ops⟩) [59, 10]).toArray⟩ : ByteArray) = jb at *
          generalize hrb : (⟨R.toArray⟩ : ByteArray) = rb at e1
          have HRB := hide hrb
          clear hrb hown
          go_wp2_with (first | (go_at_call 36; refine cJ'.mono ?_; rintro e w2 ⟨rfl, hb2⟩))
          go_ret2
          exact ⟨by rw [HRB.out]; rfl, hbe.trans (hb2.mono hbe.size)⟩
    . have dq : decide (q > 0) = false := decide_eq_false (by omega)
      have dq2 : decide (0 < q) = false := decide_eq_false (by omega)
      have db : decide (b > 0) = false := decide_eq_false (by omega)
      have db2 : decide (0 < b) = false := decide_eq_false (by omega)
      have hhd2 : hdP q b = [[79, 80, 69, 78, 81, 65, 83, 77, 32, 50, 46, 48], [105, 110, 99, 108, 117, 100, 101, 32, 34, 113, 101, 108, 105, 98, 49, 46, 105, 110, 99, 34]] := by unfold hdP; rw [if_neg (by omega), if_neg (by omega)]; rfl
      clear hq hb q0 b0
      clear eqb zq cQ
      clear ebb zb cB
      go_enter Tryz.func14, Tryz.ntmps14
      go_wp2_with (first
        | (go_at_call 4; refine (c1 _ (bnew _ _)).mono ?_; rintro e w1 ⟨rfl, hb1⟩; obtain ⟨hk1, x0, x1, x2, x3, hbw1⟩ := HW1.out w1 hb1; have hown1 := World.ownsRow_lit (base := w.heap.size + 1) (e := 9) (size := 1) w1 #[.string ⟨#[79, 80, 69, 78, 81, 65, 83, 77, 32, 50, 46, 48]⟩, .string ⟨#[105, 110, 99, 108, 117, 100, 101, 32, 34, 113, 101, 108, 105, 98, 49, 46, 105, 110, 99, 34]⟩] 2 (by omega) (by unfold maxLen; omega) rfl; have hbL := hbw1.trans ((bnew w1 (.cells #[.string ⟨#[79, 80, 69, 78, 81, 65, 83, 77, 32, 50, 46, 48]⟩, .string ⟨#[105, 110, 99, 108, 117, 100, 101, 32, 34, 113, 101, 108, 105, 98, 49, 46, 105, 110, 99, 34]⟩] 9)).mono hbw1.size); have hkL := (Below.heap_alloc w1 (.cells #[.string ⟨#[79, 80, 69, 78, 81, 65, 83, 77, 32, 50, 46, 48]⟩, .string ⟨#[105, 110, 99, 108, 117, 100, 101, 32, 34, 113, 101, 108, 105, 98, 49, 46, 105, 110, 99, 34]⟩] 9) _ x3).trans hk1))
      have HO := hide hown1
      have HB := hide hbL
      have HHd := hide hhd2
      clear hown1
      go_loopw [6, 41] (fun vl vi wr => ∃ (i L g cap : Nat) (X : List Value), vl = .slice (some ⟨g, 0, none⟩) L cap /\ vi = .int .i64 (i : Int) /\ i <= n /\ L <= 4 + i /\ Hid (L = 2 + i) /\ Hid (X = (hdP q b ++ (ops.take i).map wrP).map sV) /\ wr.ownsRow (w.heap.size + 1) 9 1 (.slice (some ⟨g, 0, none⟩) L cap) L X /\ Below w.heap.size w wr) (fun _ vi _ => n - (Go.RowKit.intOf vi).toNat)
      case atStart => exact ⟨0, 2, _, _, _, rfl, rfl, Nat.zero_le _, by omega, hide rfl, hide rfl, (by rw [HHd.out]; exact HO.out), HB.out⟩
      case round =>
        obtain ⟨i, L, g, cap, X, rfl, rfl, hi, hL, HLL, HX, hown, hbe⟩ := hrel
        clear HO HB
        by_cases h : i < n
        . have hd : decide ((i : Int) < (n : Int)) = true := decide_eq_true (by omega)
          obtain ⟨o, ho⟩ : ∃ o, ops[i]? = some o := ⟨_, List.getElem?_eq_getElem (by rw [HL.out]; exact h)⟩
          have hom := List.mem_of_getElem? ho
          obtain ⟨go, off, aq, cq, rfl, hgl, hoc⟩ := (HC.out.below hbe).ops.at (show (⟨q, b, ops⟩ : Circ).ops[i]? = some o from ho)
          have k0 := hoc.kind
          have k1 := hoc.gate
          have k2 := hoc.qs
          have k3 := hoc.bit
          have k4 := hoc.cond
          have k5 := hoc.whn
          have hM2 := HW.out (wr.alloc (.cells #[.int .i64 o.kind, .int .i64 o.gate, .slice aq o.qs.length cq, .int .i64 o.bit, .int .i64 o.cond, .int .i64 o.whn] 34)) (hbe.trans ((bnew _ _).mono hbe.size)) o hom aq cq (hoc.ns.below (bnew _ _))
          have HXs : Hid (X ++ [sV (wrP o)] = (hdP q b ++ (ops.take (i + 1)).map wrP).map sV) := hide (by
            rw [HX.out, List.take_add_one, ho]
            simp)
          have hzr := hbe.size
          unfold opV at hM2
          unfold sV at HXs
          clear hoc ho hom
          generalize (⟨(wrP o).toArray⟩ : ByteArray) = wb at *
          obtain ⟨kind, gate, qs, bit, cond, whn⟩ := o
          simp only at *
          generalize qs.length = qn at *
          have HM2 := hide hM2
          clear hM2
          have hbc := (bnew wr (.cells #[.int .i64 kind, .int .i64 gate, .slice aq qn cq, .int .i64 bit, .int .i64 cond, .int .i64 whn] 34))
          have hown1 := own_below hown hbc
          have hbe1 := hbe.trans (hbc.mono hbe.size)
          clear hown
          generalize hWA : (wr.alloc (.cells #[.int .i64 kind, .int .i64 gate, .slice aq qn cq, .int .i64 bit, .int .i64 cond, .int .i64 whn] 34)) = wA at hown1 hbe1
          have HWA := hide hWA
          clear hWA hbc
          go_wp2_with (first
            | (go_at_call 35; refine HM2.out.mono ?_; rintro e w2 ⟨rfl, hb2⟩; rw [HWA.out] at hb2; have hown2 := own_below hown1 hb2; have hbe2 := hbe1.trans (hb2.mono hbe1.size); have hs2 : w.heap.size + 1 <= w2.heap.size := (by have := own_lt hown2 g rfl; omega))
            | (at_builtin; refine wpList_pushV rfl _ _ 82 rfl 9 Tryz.underlying82 _ 16 infoStr8 rfl (w.heap.size + 1) (some ⟨g, 0, none⟩) L cap X rfl hown2 (.string wb) rfl rfl (by omega) (by omega) hs2 ?_; intro g3 c3 w3 hown3 hgr3 hat3; have hb3 : Below w.heap.size w w3 := hbe2.grown hgr3 (by omega) (fun q hq => by have := (hown2.lt q (by rw [ob_eq]; exact hq)).1; omega); clear hgr3 hat3))
          go_roundw
          case rel => exact ⟨i + 1, L + 1, g3, c3, X ++ [.string wb], rfl, by go_num, by omega, by omega, hide (by have := HLL.out; omega), HXs, hown3, hb3⟩
          case measure => simp [Go.RowKit.intOf]; omega
        . obtain rfl : n = i := by omega
          have hLn : (lnP ⟨q, b, ops⟩).length = L := by
            rw [HLL.out, HD.out _ HHd.out, List.length_append, List.length_map, HL.out]
            rfl
          have cJ := sJoinS [59, 10] g cap (lnP ⟨q, b, ops⟩) wr (fun j x hx => by
            refine (own_at hown j (sV x) ?_)
            rw [HX.out, List.take_of_length_le (by rw [HL.out]; exact Nat.le_refl _)]
            show (List.map sV (lnP ⟨q, b, ops⟩))[j]? = _
            rw [List.getElem?_map, hx]
            rfl) (own_lt hown g rfl).2 (by rw [hLn]; omega) (by rw [hLn]; exact own_room hown) (by omega)
          rw [hLn] at cJ
          have e1 : (⟨(Lib.join (lnP ⟨q, b, ops⟩) [59, 10]).toArray⟩ : ByteArray) ++ ⟨#[59, 10]⟩ = ⟨R.toArray⟩ := (cat_str _ [59, 10]).trans (by rw [← HR.out]; rfl)
          have cJ' : Calls Tryz.prog 36 #[.slice (some ⟨g, 0, none⟩) L cap, .string ⟨#[59, 10]⟩] wr fun e w' => e = .returned (.string ⟨(Lib.join (lnP ⟨q, b, ops⟩) [59, 10]).toArray⟩) /\ Below wr.heap.size wr w' := cJ
          have s1 := ba_size (Lib.join (lnP ⟨q, b, ops⟩) [59, 10])
          clear cJ hLn
          generalize (⟨(Lib.join (lnP ⟨q, b, ops⟩) [59, 10]).toArray⟩ : ByteArray) = jb at *
          generalize hrb : (⟨R.toArray⟩ : ByteArray) = rb at e1
          have HRB := hide hrb
          clear hrb hown
          go_wp2_with (first | (go_at_call 36; refine cJ'.mono ?_; rintro e w2 ⟨rfl, hb2⟩))
          go_ret2
          exact ⟨by rw [HRB.out]; rfl, hbe.trans (hb2.mono hbe.size)⟩
end Go.Proofs.YtnghfdnlcnocjaaGreatDoor.Cir
