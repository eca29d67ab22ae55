import Derived.Test.YtnghfdnlcnocjaaGreatDoorEb576c467
namespace Go.Proofs.YtnghfdnlcnocjaaGreatDoor.Cir
open Go.Proofs.YtnghfdnlcnocjaaGreatDoor.Tok Go.Proofs.YtnghfdnlcnocjaaGreatDoor.Gt
def tk (k : Nat) (t : List UInt8) (v : Nat) : T := ⟨k, t, v, 0, 0, 0⟩
theorem hd_tk (t : T) (r : List T) : hd (t :: r) = t := rfl
theorem tl_tk (k : Nat) (t : List UInt8) (v : Nat) (r : List T) (h : k ≠ 0) : tl (tk k t v :: r) = r := by
  rw [tl_cons, if_neg (show (tk k t v).kind ≠ 0 from h)]
theorem isT_tk (k : Nat) (t x : List UInt8) (v : Nat) : isT k x (tk k t v) = (t == x) := by
  unfold isT tk
  simp
def elT (r : UInt8) (i : Nat) : List T := [tk 1 [r] 0, tk 5 [91] 0, tk 2 [] i, tk 5 [93] 0]
theorem mk_one (m : Nm) (r : List T) : pMks [m] (tk 5 m 0 :: r) = .ok () r := by
  unfold pMks
  rw [hd_tk, isT_tk, tl_tk _ _ _ _ (by decide), if_pos (by simp)]
  rfl
theorem nam_one (x : Nm) (r : List T) (h : rsv x = false) : pNam (tk 1 x 0 :: r) = .ok (tk 1 x 0) r := by
  unfold pNam
  rw [hd_tk, tl_tk _ _ _ _ (by decide), if_pos]
  unfold isN tk
  simp [h]
theorem num_one (lo hi : Int) (n : Nat) (r : List T) (h1 : lo <= (n : Int)) (h2 : (n : Int) <= hi) : pNum lo hi (tk 2 [] n :: r) = .ok n r := by
  unfold pNum
  rw [hd_tk, tl_tk _ _ _ _ (by decide), if_neg (by simp [tk]), if_neg]
  . rfl
  show ¬ ((n : Int) < lo ∨ hi < (n : Int))
  omega
theorem arg_one {b : Bk} {r : UInt8} {n i : Nat} (rest : List T) (hb : b.find [r] = some ⟨0, n⟩) (hr : rsv [r] = false) (hi : i < n) : pArg b (elT r i ++ rest) = .ok ⟨i, 1, false⟩ rest := by
  unfold pArg pReg elT
  rw [List.cons_append, nam_one _ _ hr]
  simp only
  rw [show (tk 1 [r] 0).text = [r] from rfl, hb]
  simp only [List.cons_append, List.nil_append]
  rw [hd_tk, isT_tk, if_pos (by simp)]
  unfold pIdx
  rw [mk_one]
  simp only
  rw [num_one _ _ _ _ (Int.natCast_nonneg _) (by omega)]
  simp only
  rw [mk_one]
  simp only [Nat.zero_add]
def argsT : List Nat -> List T
  | [] => []
  | [i] => elT 113 i
  | i :: j :: r => elT 113 i ++ (tk 5 [44] 0 :: argsT (j :: r))
theorem row_args {b : Bk} {n : Nat} (hb : b.find [113] = some ⟨0, n⟩) : ∀ (qs : List Nat) (acc : List Ag) (f : Nat) (rest : List T), qs ≠ [] -> qs.length <= f -> (∀ i ∈ qs, i < n) -> isT 5 [44] (hd rest) = false -> pRow (fun _ => pArg b) f acc (argsT qs ++ rest) = .ok (acc ++ qs.map fun i => ⟨i, 1, false⟩) rest
  | [], _, _, _, h, _, _, _ => absurd rfl h
  | [i], acc, f, rest, _, hf, hq, hc => by
    obtain ⟨f, rfl⟩ : ∃ x, f = x + 1 := ⟨f - 1, by simp at hf; omega⟩
    unfold pRow argsT
    rw [arg_one rest hb (by decide) (hq i (by simp))]
    simp only
    rw [hc]
    simp
  | i :: j :: r, acc, f, rest, _, hf, hq, hc => by
    obtain ⟨f, rfl⟩ : ∃ x, f = x + 1 := ⟨f - 1, by simp at hf; omega⟩
    unfold pRow
    rw [argsT, List.append_assoc, List.cons_append, arg_one _ hb (by decide) (hq i (by simp))]
    simp only
    rw [hd_tk, isT_tk, if_pos (by simp), tl_tk _ _ _ _ (by decide), row_args hb (j :: r) _ f rest (by simp) (by simp at hf ⊢; omega) (fun x hx => hq x (by simp [hx])) hc]
    simp
theorem argsT_len : ∀ qs : List Nat, qs.length <= (argsT qs).length
  | [] => Nat.le_refl _
  | [i] => by simp [argsT, elT]
  | i :: j :: r => by
    have := argsT_len (j :: r)
    rw [argsT]
    simp only [List.length_append, List.length_cons] at *
    simp [elT]
    omega
theorem args_all {d : Dc} {n : Nat} (hb : d.q.find [113] = some ⟨0, n⟩) (qs : List Nat) (rest : List T) (h : qs ≠ []) (hq : ∀ i ∈ qs, i < n) : pArgs d (argsT qs ++ (tk 5 [59] 0 :: rest)) = .ok (qs.map fun i => ⟨i, 1, false⟩) rest := by
  unfold pArgs
  rw [row_args hb qs [] _ (tk 5 [59] 0 :: rest) h (by have := argsT_len qs; rw [List.length_append]; omega) hq (by rw [hd_tk, isT_tk]; decide)]
  simp only [List.nil_append]
  rw [mk_one]
theorem hm_elems : ∀ qs : List Nat, hmP 0 (qs.map fun i => (⟨i, 1, false⟩ : Ag)) = some 1
  | [] => rfl
  | i :: r => by
    rw [List.map_cons, hmP_cons, if_neg (by simp)]
    exact hm_elems r
theorem calls_elems (qs : List Nat) (h : qs.Nodup) : callsP (qs.map fun i => (⟨i, 1, false⟩ : Ag)) = some [qs] := by
  have e : ∀ k, (qs.map fun i => (⟨i, 1, false⟩ : Ag)).map (atP k) = qs := fun k => by
    rw [List.map_map]
    exact (List.map_congr_left fun i _ => rfl).trans (List.map_id qs)
  unfold callsP
  rw [hm_elems]
  simp only
  rw [if_pos (fun k _ => by rw [e]; exact h)]
  simp [e]
structure Two (d : Dc) (q b : Nat) : Prop where
  q : 0 < q -> d.q.find [113] = some ⟨0, q⟩
  b : 0 < b -> d.b.find [99] = some ⟨0, b⟩
theorem nat_qs {l : List Int} (h : ∀ z ∈ l, 0 <= z) : (l.map Int.toNat).map Int.ofNat = l := by
  rw [List.map_map]
  refine (List.map_congr_left fun z hz => ?_).trans (List.map_id l)
  have := h z hz
  show Int.ofNat z.toNat = z
  exact Int.toNat_of_nonneg this
theorem nat_nd {l : List Int} (h : ∀ z ∈ l, 0 <= z) (hd : l.Nodup) : (l.map Int.toNat).Nodup := by
  induction l with
  | nil => simp
  | cons a r ih =>
    obtain ⟨h1, h2⟩ := List.nodup_cons.1 hd
    rw [List.map_cons, List.nodup_cons]
    refine ⟨fun hm => h1 ?_, ih (fun z hz => h z (by simp [hz])) h2⟩
    obtain ⟨b, hb, e⟩ := List.mem_map.1 hm
    have p1 := h a (by simp)
    have p2 := h b (by simp [hb])
    have : b = a := by omega
    rw [← this]
    exact hb
theorem apa_in {l : List Int} {n : Nat} (h : apaP l (n : Int) = true) : (l.map Int.toNat).map Int.ofNat = l /\ (l.map Int.toNat).Nodup /\ ∀ i ∈ l.map Int.toNat, i < n := by
  unfold apaP at h
  rw [Bool.and_eq_true, decide_eq_true_eq, List.all_eq_true] at h
  have h0 : ∀ z ∈ l, 0 <= z /\ z < (n : Int) := fun z hz => wi_in (h.2 z hz)
  refine ⟨nat_qs fun z hz => (h0 z hz).1, nat_nd (fun z hz => (h0 z hz).1) h.1, fun i hi => ?_⟩
  obtain ⟨z, hz, rfl⟩ := List.mem_map.1 hi
  have := h0 z hz
  omega
theorem kn_nat {k : Int} (h : knB (rw' k) = true) : ∃ n : Nat, k = (n : Int) /\ 1 <= n /\ n <= 20 := by
  unfold rw' at h
  split at h
  . rename_i hk
    have key : ∀ j : Fin 21, knB (tab.getD j.1 r0) = true -> 1 <= j.1 := by decide +kernel
    have := key ⟨k.toNat, by omega⟩ h
    exact ⟨k.toNat, by omega, this, by omega⟩
  . exact absurd h (by decide)
theorem nm_facts (k : Nat) (h1 : 1 <= k) (h2 : k <= 20) : rsv (rw' (k : Int)).nm = false /\ ofP (rw' (k : Int)).nm = ((k : Int), 0) := by
  have h := (by decide +kernel : ∀ j : Fin 20, rsv (rw' ((j.1 + 1 : Nat) : Int)).nm = false /\ ofP (rw' ((j.1 + 1 : Nat) : Int)).nm = (((j.1 + 1 : Nat) : Int), 0)) ⟨k - 1, by omega⟩
  simp only [show k - 1 + 1 = k by omega] at h
  exact h
theorem rsv_ne {x : Nm} (h : rsv x = false) (j : Nat) (hj : j < 10) : ¬ x = kwX j := by
  intro e
  subst e
  have := (by decide +kernel : ∀ j : Fin 10, rsv (kwX j.1) = true) ⟨j, hj⟩
  simp only at this
  rw [this] at h
  cases h
theorem chk_in {k : Int} {l : List Int} {q : Nat} (h : chkP k l (q : Int) = 0) : ∃ n : Nat, k = (n : Int) /\ 1 <= n /\ n <= 20 /\ (l.map Int.toNat).length = (rw' (n : Int)).q.toNat /\ l.map Int.toNat ≠ [] /\ (l.map Int.toNat).Nodup /\ (∀ i ∈ l.map Int.toNat, i < q) /\ (l.map Int.toNat).map Int.ofNat = l := by
  have hr := chk_rng k l _ h
  unfold chkP at h
  split at h
  . cases h
  . rename_i hk
    have hk' : knB (rw' k) = true := by simpa using hk
    split at h
    . cases h
    . rename_i ha
      have ha' : apP (rw' k).q l = true := by simpa using ha
      unfold apP at ha'
      rw [Bool.and_eq_true, decide_eq_true_eq] at ha'
      have hp : 0 < (rw' k).q := by
        unfold knB at hk'
        exact of_decide_eq_true hk'
      obtain ⟨n, rfl, h1, h2⟩ := kn_nat hk'
      have hnd := apG_nod l ha'.2
      refine ⟨n, rfl, h1, h2, by rw [List.length_map]; omega, ?_, nat_nd (fun z hz => (hr z hz).1) hnd, fun i hi => ?_, nat_qs fun z hz => (hr z hz).1⟩
      . intro e
        have : (l.map Int.toNat).length = 0 := by rw [e]; rfl
        rw [List.length_map] at this
        omega
      . obtain ⟨z, hz, rfl⟩ := List.mem_map.1 hi
        have := hr z hz
        omega
theorem stmts_step {f : Nat} {s s' : St} {ts ts' : List T} (h0 : (hd ts).kind ≠ 0) (h : pStmt s ts = .ok s' ts') : pStmts (f + 1) s ts = pStmts f s' ts' := by
  rw [pStmts, if_neg h0, h]
def incX : List UInt8 := [113, 101, 108, 105, 98, 49, 46, 105, 110, 99]
theorem st_include (s : St) (rest : List T) : pStmt s (tk 1 (kwX 1) 0 :: tk 4 incX 0 :: tk 5 [59] 0 :: rest) = .ok s rest := by
  unfold pStmt
  simp only [hd_tk, tl_tk _ _ _ _ (show (1 : Nat) ≠ 0 by decide)]
  rw [if_neg (by simp [tk]), if_pos (by decide)]
  unfold pInclude pExp
  rw [hd_tk, isT_tk, tl_tk _ _ _ _ (by decide), if_pos (by decide)]
  simp only
  rw [mk_one]
  rfl
def regT (k : Nat) (r : UInt8) (n : Nat) : List T := [tk 1 (kwX k) 0, tk 1 [r] 0, tk 5 [91] 0, tk 2 [] n, tk 5 [93] 0, tk 5 [59] 0]
theorem reg_one {d : Dc} {b : Bk} {r : UInt8} {n : Nat} (rest : List T) (hr : rsv [r] = false) (ht : taken d [r] = false) (h1 : 1 <= n) (h2 : b.size + n <= 64) : pRegister d b (tk 1 [r] 0 :: tk 5 [91] 0 :: tk 2 [] n :: tk 5 [93] 0 :: tk 5 [59] 0 :: rest) = .ok ⟨put b.find [r] ⟨b.size, n⟩, b.size + n⟩ rest := by
  unfold pRegister pNew
  rw [nam_one _ _ hr]
  simp only [show (tk 1 [r] 0).text = [r] from rfl, ht]
  simp only [Bool.false_eq_true, if_false]
  rw [mk_one]
  simp only
  rw [num_one _ _ _ _ (by omega) (by omega)]
  simp only
  unfold pMks
  rw [hd_tk, isT_tk, tl_tk _ _ _ _ (by decide), if_pos (by simp), mk_one]
theorem st_qreg (s : St) (n : Nat) (rest : List T) (ht : taken s.d [113] = false) (h1 : 1 <= n) (h2 : s.d.q.size + n <= 64) : pStmt s (regT 2 113 n ++ rest) = .ok ⟨⟨⟨put s.d.q.find [113] ⟨s.d.q.size, n⟩, s.d.q.size + n⟩, s.d.b, s.d.defs⟩, s.ops⟩ rest := by
  unfold pStmt regT
  simp only [List.cons_append, List.nil_append, hd_tk, tl_tk _ _ _ _ (show (1 : Nat) ≠ 0 by decide)]
  rw [if_neg (by simp [tk]), if_neg (by decide), if_pos (by decide), reg_one rest (by decide) ht h1 h2]
  rfl
end Go.Proofs.YtnghfdnlcnocjaaGreatDoor.Cir
namespace Go.Proofs.YtnghfdnlcnocjaaGreatDoor.Tok
structure Pc where
  x : List UInt8
  k : Nat
  t : List UInt8
  v : Nat
  g : List UInt8
def pcT : List Pc -> List UInt8
  | [] => []
  | p :: r => p.x ++ (p.g ++ pcT r)
def PcG : List Pc -> Prop
  | [] => True
  | p :: r => cut (p.x ++ (p.g ++ pcT r)) = .tok p.k p.t p.v p.x.length /\ p.k ≠ 0 /\ Gap p.g /\ PcG r
theorem pcT_app : ∀ a b : List Pc, pcT (a ++ b) = pcT a ++ pcT b
  | [], _ => rfl
  | p :: r, b => by
    rw [List.cons_append, pcT, pcT, pcT_app r b]
    simp
def Pc.tok (p : Pc) : Nat × List UInt8 × Nat := (p.k, p.t, p.v)
theorem scan_pcs : ∀ (ps : List Pc) (G : List UInt8) (f off : Nat) (q : Nat × Nat), PcG ps -> Gap G -> ps.length < f -> ∃ ms, scan f (G ++ pcT ps) off q = .ok ms /\ ms.map (fun t => (t.kind, t.text, t.num)) = ps.map Pc.tok ++ [(0, [], 0)]
  | [], G, f, off, q, _, hG, hf => by
    obtain ⟨f, rfl⟩ : ∃ x, f = x + 1 := ⟨f - 1, by omega⟩
    obtain ⟨o, l, c, he⟩ := step_end G hG f off q
    exact ⟨_, by rw [pcT, List.append_nil]; exact he, rfl⟩
  | p :: r, G, f, off, q, ⟨h1, h2, h3, h4⟩, hG, hf => by
    obtain ⟨f, rfl⟩ : ∃ x, f = x + 1 := ⟨f - 1, by omega⟩
    have hg : gp false (G ++ (p.x ++ (p.g ++ pcT r))) = G.length := by rw [hG, tok_gp _ _ _ _ _ h1]; omega
    have e := scan_tok f (G ++ (p.x ++ (p.g ++ pcT r))) off q p.k p.v p.x.length p.t (by rw [hg, List.drop_left]; exact h1)
    rw [if_neg h2, hg, List.drop_left, List.drop_left] at e
    obtain ⟨ms, hms, hm⟩ := scan_pcs r p.g f (off + G.length + p.x.length) (adv 0 p.x.length (p.x ++ (p.g ++ pcT r)) (adv 0 G.length (G ++ (p.x ++ (p.g ++ pcT r))) q)) h4 h3 (by simp at hf; omega)
    refine ⟨_, by rw [pcT, e, hms]; rfl, ?_⟩
    rw [List.map_append, hm]
    rfl
theorem scan_pcs_all (ps : List Pc) (h : PcG ps) : ∃ ms, scanAll (pcT ps) = .ok ms /\ ms.map (fun t => (t.kind, t.text, t.num)) = ps.map Pc.tok ++ [(0, [], 0)] := by
  obtain ⟨ms, h1, h2⟩ := scan_pcs ps [] ((pcT ps).length + ps.length + 1) 0 (1, 1) h gap_nil8 (by omega)
  rw [List.nil_append] at h1
  exact ⟨ms, by rw [scanAll_eq _ ((pcT ps).length + ps.length + 1) (by omega)]; exact h1, h2⟩
theorem cut_59 (r : List UInt8) : cut (59 :: r) = .tok 5 [59] 0 1 := rfl
theorem cut_44 (r : List UInt8) : cut (44 :: r) = .tok 5 [44] 0 1 := rfl
theorem cut_91 (r : List UInt8) : cut (91 :: r) = .tok 5 [91] 0 1 := rfl
theorem cut_93 (r : List UInt8) : cut (93 :: r) = .tok 5 [93] 0 1 := rfl
theorem cut_123 (r : List UInt8) : cut (123 :: r) = .tok 5 [123] 0 1 := rfl
theorem cut_125 (r : List UInt8) : cut (125 :: r) = .tok 5 [125] 0 1 := rfl
end Go.Proofs.YtnghfdnlcnocjaaGreatDoor.Tok
namespace Go.Proofs.YtnghfdnlcnocjaaGreatDoor.Cir
open Go.Proofs.YtnghfdnlcnocjaaGreatDoor.Tok Go.Proofs.YtnghfdnlcnocjaaGreatDoor.Gt
def PcR : List Pc -> List UInt8 -> Prop
  | [], _ => True
  | p :: r, R => cut (p.x ++ (p.g ++ (pcT r ++ R))) = .tok p.k p.t p.v p.x.length /\ p.k ≠ 0 /\ Gap p.g /\ PcR r R
theorem pcR_app : ∀ (a b : List Pc) (R : List UInt8), PcR a (pcT b ++ R) -> PcR b R -> PcR (a ++ b) R
  | [], _, _, _, h => h
  | p :: r, b, R, ⟨h1, h2, h3, h4⟩, h => by
    refine ⟨?_, h2, h3, pcR_app r b R h4 h⟩
    show cut (p.x ++ (p.g ++ (pcT (r ++ b) ++ R))) = _
    rw [pcT_app, List.append_assoc]
    exact h1
theorem pcG_of : ∀ ps : List Pc, PcR ps [] -> PcG ps
  | [], _ => trivial
  | p :: r, ⟨h1, h2, h3, h4⟩ => ⟨by simpa using h1, h2, h3, pcG_of r h4⟩
def nmPc (x g : List UInt8) : Pc := ⟨x, 1, x, 0, g⟩
def mkPc (x g : List UInt8) : Pc := ⟨x, 5, x, 0, g⟩
def nuPc (n : Nat) (g : List UInt8) : Pc := ⟨Lib.itoa (n : Int), 2, [], n, g⟩
theorem num_cut (n : Nat) (h : n <= 64) : cut (Lib.itoa (n : Int)) = .tok 2 [] n (Lib.itoa (n : Int)).length :=
  (by decide +kernel : ∀ j : Fin 65, cut (Lib.itoa ((j.1 : Nat) : Int)) = .tok 2 [] j.1 (Lib.itoa ((j.1 : Nat) : Int)).length) ⟨n, by omega⟩
theorem sep_of (c : UInt8) (r : List UInt8) (h : inW c = false /\ c ≠ 46) : Sep (c :: r) := by
  intro c' t e
  cases e
  exact h
theorem gap_32 : Gap [32] := gap_all8 _ (by decide)
theorem gap_10 : Gap [10] := gap_all8 _ (by decide)
def elPc (r : UInt8) (i : Nat) (g : List UInt8) : List Pc := [nmPc [r] [], mkPc [91] [], nuPc i [], mkPc [93] g]
theorem el_txt (r : UInt8) (i : Nat) (g : List UInt8) : pcT (elPc r i g) = elP r (i : Int) ++ g := by
  simp [elPc, pcT, nmPc, mkPc, nuPc, elP]
theorem el_pcs (r : UInt8) (hr : cut [r] = .tok 1 [r] 0 1) (i : Nat) (hi : i <= 64) (g R : List UInt8) (hg : Gap g) : PcR (elPc r i g) R := by
  refine ⟨?_, by simp [nmPc], gap_nil, cut_91 _, by simp [mkPc], gap_nil, ?_, by simp [nuPc], gap_nil, cut_93 _, by simp [mkPc], hg, trivial⟩
  . exact cut_ext [r] _ 1 [r] 0 hr (by decide) (sep_of 91 _ (by decide))
  . exact cut_ext (Lib.itoa (i : Int)) _ 2 [] i (num_cut i hi) (by decide) (sep_of 93 _ (by decide))
theorem cut_q : cut [113] = .tok 1 [113] 0 1 := by decide +kernel
def agPc (g : List UInt8) : List Nat -> List Pc
  | [] => []
  | [i] => elPc 113 i g
  | i :: j :: r => elPc 113 i [] ++ (mkPc [44] [32] :: agPc g (j :: r))
theorem ag_txt (g : List UInt8) : ∀ qs : List Nat, qs ≠ [] -> pcT (agPc g qs) = agP (qs.map Int.ofNat) ++ g
  | [], h => absurd rfl h
  | [i], _ => by
    rw [agPc, el_txt]
    simp [agP, Lib.join, List.intercalate]
  | i :: j :: r, _ => by
    rw [agPc, pcT_app, el_txt, pcT, ag_txt g (j :: r) (by simp)]
    simp [mkPc, agP, Lib.join, List.intercalate]
theorem ag_pcs (g R : List UInt8) (hg : Gap g) : ∀ qs : List Nat, (∀ i ∈ qs, i <= 64) -> PcR (agPc g qs) R
  | [], _ => trivial
  | [i], h => el_pcs 113 cut_q i (h i (by simp)) g R hg
  | i :: j :: r, h => by
    refine pcR_app _ _ _ (el_pcs 113 cut_q i (h i (by simp)) [] _ gap_nil) ⟨cut_44 _, by decide, gap_32, ag_pcs g R hg (j :: r) (fun x hx => h x (by simp [hx]))⟩
def endPc : Pc := mkPc [59] [10]
def opPc (o : COp) : List Pc :=
  if o.kind = 2 then nmPc (kwX 6) [32] :: (agPc [32] (o.qs.map Int.toNat) ++ (mkPc [45, 62] [32] :: (elPc 99 o.bit.toNat [] ++ [endPc])))
  else if o.kind = 3 then nmPc (kwX 7) [32] :: (agPc [] (o.qs.map Int.toNat) ++ [endPc])
  else if o.kind = 4 then nmPc (kwX 8) [32] :: (agPc [] (o.qs.map Int.toNat) ++ [endPc])
  else if o.cond = -1 then nmPc (rw' o.gate).nm [32] :: (agPc [] (o.qs.map Int.toNat) ++ [endPc])
  else nmPc (kwX 5) [32] :: mkPc [40] [] :: (elPc 99 o.cond.toNat [32] ++ (mkPc [61, 61] [32] :: nuPc o.whn.toNat [] :: mkPc [41] [32] :: nmPc (rw' o.gate).nm [32] :: (agPc [] (o.qs.map Int.toNat) ++ [endPc])))
def tri (t : T) : Nat × List UInt8 × Nat := (t.kind, t.text, t.num)
theorem ag_tok (g : List UInt8) : ∀ qs : List Nat, (agPc g qs).map Pc.tok = (argsT qs).map tri
  | [] => rfl
  | [i] => rfl
  | i :: j :: r => by
    rw [agPc, argsT, List.map_append, List.map_append, List.map_cons, List.map_cons, ag_tok g (j :: r)]
    rfl
structure Sm (o : COp) : Prop where
  ne : o.qs.map Int.toNat ≠ []
  id : (o.qs.map Int.toNat).map Int.ofNat = o.qs
  le : ∀ i ∈ o.qs.map Int.toNat, i <= 64
  bit : 0 <= o.bit /\ o.bit <= 64
  cond : o.cond = -1 ∨ (0 <= o.cond /\ o.cond <= 64)
  whn : 0 <= o.whn /\ o.whn <= 64
  kind : o.kind = 1 ∨ o.kind = 2 ∨ o.kind = 3 ∨ o.kind = 4
  gate : o.kind = 1 -> cut (rw' o.gate).nm = .tok 1 (rw' o.gate).nm 0 (rw' o.gate).nm.length
theorem nm_cut (k : Nat) (h1 : 1 <= k) (h2 : k <= 20) : cut (rw' (k : Int)).nm = .tok 1 (rw' (k : Int)).nm 0 (rw' (k : Int)).nm.length := by
  have h := (by decide +kernel : ∀ j : Fin 20, cut (rw' ((j.1 + 1 : Nat) : Int)).nm = .tok 1 (rw' ((j.1 + 1 : Nat) : Int)).nm 0 (rw' ((j.1 + 1 : Nat) : Int)).nm.length) ⟨k - 1, by omega⟩
  simp only [show k - 1 + 1 = k by omega] at h
  exact h
theorem sm_of {q b : Nat} (hq : q <= 64) (hb : b <= 64) {o : COp} (h : mayP (q : Int) (b : Int) o = true) : Sm o := by
  obtain ⟨kind, gate, qs, bit, cond, whn⟩ := o
  unfold mayP at h
  simp only at h
  split at h
  . rename_i hk
    subst hk
    simp only [Bool.and_eq_true, Bool.or_eq_true, decide_eq_true_eq] at h
    obtain ⟨⟨h1, h2⟩, h3⟩ := h
    subst h2
    obtain ⟨n, rfl, g1, g2, g3, g4, g5, g6, g7⟩ := chk_in h1
    refine ⟨g4, g7, fun i hi => by have := g6 i hi; omega, by simp, ?_, ?_, .inl rfl, fun _ => nm_cut n g1 g2⟩
    . rcases h3 with e | e
      . unfold freeP at e
        simp at e
        exact .inl e.1
      . unfold askP at e
        rw [Bool.and_eq_true] at e
        have := wi_in e.1
        simp only at this ⊢
        omega
    . rcases h3 with e | e
      . unfold freeP at e
        simp at e
        simp only
        omega
      . unfold askP at e
        rw [Bool.and_eq_true] at e
        have := wi_in e.2
        simp only at this ⊢
        omega
  . rename_i hk1
    have key : ∀ (hn : noGP ⟨kind, gate, qs, bit, cond, whn⟩ = true) (hl : 0 < qs.length) (ha : apaP qs (q : Int) = true) (hbt : 0 <= bit /\ bit <= 64) (hkk : kind = 1 ∨ kind = 2 ∨ kind = 3 ∨ kind = 4), Sm ⟨kind, gate, qs, bit, cond, whn⟩ := by
      intro hn hl ha hbt hkk
      simp only [noGP, freeP, Bool.and_eq_true, decide_eq_true_eq] at hn
      obtain ⟨e1, e2, e3⟩ := apa_in ha
      refine ⟨?_, e1, fun i hi => by have := e3 i hi; omega, hbt, .inl hn.2.1, ?_, hkk, fun e => absurd e hk1⟩
      . intro e
        have : (qs.map Int.toNat).length = 0 := by rw [show qs.map Int.toNat = [] from e]; rfl
        rw [List.length_map] at this
        omega
      . show 0 <= whn /\ whn <= 64
        omega
    split at h
    . rename_i hk
      rw [Bool.and_eq_true, Bool.and_eq_true, Bool.and_eq_true, decide_eq_true_eq] at h
      have := wi_in h.2
      exact key h.1.1.1 (by omega) h.1.2 (by omega) (.inr (.inl hk))
    . split at h
      . rename_i hk
        rw [Bool.and_eq_true, Bool.and_eq_true, Bool.and_eq_true, decide_eq_true_eq, decide_eq_true_eq] at h
        exact key h.1.1.1 (by omega) h.1.2 (by omega) (.inr (.inr (.inl hk)))
      . split at h
        . rename_i hk
          rw [Bool.and_eq_true, Bool.and_eq_true, Bool.and_eq_true, decide_eq_true_eq, decide_eq_true_eq] at h
          exact key h.1.1.1 h.1.1.2 h.1.2 (by omega) (.inr (.inr (.inr hk)))
        . cases h
theorem kw_cut (j : Nat) (h : j < 10) : cut (kwX j) = .tok 1 (kwX j) 0 (kwX j).length :=
  (by decide +kernel : ∀ i : Fin 10, cut (kwX i.1) = .tok 1 (kwX i.1) 0 (kwX i.1).length) ⟨j, h⟩
theorem nm_pc {x : List UInt8} (h : cut x = .tok 1 x 0 x.length) (r : List Pc) (R : List UInt8) (hr : PcR r R) : PcR (nmPc x [32] :: r) R :=
  ⟨cut_ext x _ 1 x 0 h (by decide) (sep_of 32 _ (by decide)), by simp [nmPc], gap_32, hr⟩
theorem end_pc (R : List UInt8) : PcR [endPc] R := ⟨cut_59 _, by simp [endPc, mkPc], gap_10, trivial⟩
theorem op_txt {o : COp} (h : Sm o) : pcT (opPc o) = wrP o ++ [59, 10] := by
  have hb : ((o.bit.toNat : Nat) : Int) = o.bit := Int.toNat_of_nonneg h.bit.1
  have hw : ((o.whn.toNat : Nat) : Int) = o.whn := Int.toNat_of_nonneg h.whn.1
  unfold opPc wrP
  split
  . rw [pcT, pcT_app, ag_txt _ _ h.ne, h.id, pcT, pcT_app, el_txt, hb]
    simp [nmPc, mkPc, endPc, pcT, kwX, rsvL]
  . split
    . rw [pcT, pcT_app, ag_txt _ _ h.ne, h.id]
      simp [nmPc, mkPc, endPc, pcT, kwX, rsvL]
    . split
      . rw [pcT, pcT_app, ag_txt _ _ h.ne, h.id]
        simp [nmPc, mkPc, endPc, pcT, kwX, rsvL]
      . split
        . rw [pcT, pcT_app, ag_txt _ _ h.ne, h.id]
          simp [nmPc, mkPc, endPc, pcT]
        . rename_i hc
          have hcd : ((o.cond.toNat : Nat) : Int) = o.cond := by
            rcases h.cond with e | e
            . exact absurd e hc
            . exact Int.toNat_of_nonneg e.1
          rw [pcT, pcT, pcT_app, el_txt, hcd, pcT, pcT, pcT, pcT, pcT_app, ag_txt _ _ h.ne, h.id]
          simp [nmPc, mkPc, nuPc, endPc, pcT, kwX, rsvL, hw]
def regPc (k : Nat) (r : UInt8) (n : Nat) : List Pc := nmPc (kwX k) [32] :: (elPc r n [] ++ [endPc])
def hdPc (q b : Nat) : List Pc := nmPc (kwX 0) [32] :: ⟨[50, 46, 48], 3, [50, 46, 48], 0, []⟩ :: endPc :: nmPc (kwX 1) [32] :: ⟨[34] ++ incX ++ [34], 4, incX, 0, []⟩ :: endPc :: ((if 0 < q then regPc 2 113 q else []) ++ (if 0 < b then regPc 3 99 b else []))
def crPc (q b : Nat) (ops : List COp) : List Pc := hdPc q b ++ ops.flatMap opPc
theorem reg_tok (k : Nat) (r : UInt8) (n : Nat) : (regPc k r n).map Pc.tok = (regT k r n).map tri := rfl
theorem reg_pcs (k : Nat) (hk : k < 10) (r : UInt8) (hr : cut [r] = .tok 1 [r] 0 1) (n : Nat) (hn : n <= 64) (R : List UInt8) : PcR (regPc k r n) R :=
  nm_pc (kw_cut k hk) _ _ (pcR_app _ _ _ (el_pcs r hr n hn [] _ gap_nil) (end_pc R))
theorem cut_two : cut [50, 46, 48] = .tok 3 [50, 46, 48] 0 3 := by decide +kernel
theorem cut_inc : cut ([34] ++ incX ++ [34]) = .tok 4 incX 0 ([34] ++ incX ++ [34]).length := by decide +kernel
theorem join_flat (sep : List UInt8) : ∀ xs : List (List UInt8), xs ≠ [] -> Lib.join xs sep ++ sep = xs.flatMap (· ++ sep)
  | [], h => absurd rfl h
  | [x], _ => by simp [Lib.join, List.intercalate]
  | x :: y :: r, _ => by
    have e : Lib.join (x :: y :: r) sep = x ++ sep ++ Lib.join (y :: r) sep := by simp [Lib.join, List.intercalate]
    rw [e, List.append_assoc, join_flat sep (y :: r) (by simp)]
    simp
theorem ops_txt : ∀ ops : List COp, (∀ o ∈ ops, Sm o) -> pcT (ops.flatMap opPc) = (ops.map wrP).flatMap (· ++ [59, 10])
  | [], _ => rfl
  | o :: r, h => by
    rw [List.flatMap_cons, pcT_app, op_txt (h o (by simp)), ops_txt r (fun x hx => h x (by simp [hx])), List.map_cons, List.flatMap_cons]
theorem reg_txt (k : Nat) (r : UInt8) (n : Nat) : pcT (regPc k r n) = kwX k ++ [32] ++ elP r (n : Int) ++ [59, 10] := by
  unfold regPc
  rw [pcT, pcT_app, el_txt]
  simp [nmPc, mkPc, endPc, pcT]
theorem cr_txt (q b : Nat) (ops : List COp) (h : ∀ o ∈ ops, Sm o) : pcT (crPc q b ops) = prP ⟨(q : Int), (b : Int), ops⟩ := by
  unfold prP
  rw [join_flat _ _ (by unfold lnP hdP; simp)]
  unfold lnP crPc hdP
  rw [pcT_app, ops_txt ops h, List.flatMap_append]
  congr 1
  unfold hdPc
  have e1 : (0 < (q : Int)) ↔ 0 < q := by omega
  have e2 : (0 < (b : Int)) ↔ 0 < b := by omega
  simp only [pcT, pcT_app, e1, e2]
  by_cases h1 : 0 < q <;> by_cases h2 : 0 < b <;> simp [h1, h2, reg_txt, pcT, nmPc, mkPc, endPc, kwX, rsvL, incX]
theorem tri_E : ∀ (a b : List T), a.map tri = b.map tri -> E a = E b
  | [], [], _ => rfl
  | [], _ :: _, h => by cases h
  | _ :: _, [], h => by cases h
  | x :: r, y :: s, h => by
    simp only [List.map_cons, List.cons.injEq] at h
    show er x :: E r = er y :: E s
    rw [tri_E r s h.2]
    have h1 := h.1
    unfold tri at h1
    simp only [Prod.mk.injEq] at h1
    congr 1
    unfold er
    rw [h1.1, h1.2.1, h1.2.2]
end Go.Proofs.YtnghfdnlcnocjaaGreatDoor.Cir
