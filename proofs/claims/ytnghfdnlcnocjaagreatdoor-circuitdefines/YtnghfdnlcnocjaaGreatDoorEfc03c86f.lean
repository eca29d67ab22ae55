import Derived.Test.YtnghfdnlcnocjaaGreatDoorE01ce7ec3
namespace Go.Proofs.YtnghfdnlcnocjaaGreatDoor.Cir
open Go.Proofs.YtnghfdnlcnocjaaGreatDoor.Tok Go.Proofs.YtnghfdnlcnocjaaGreatDoor.Gt
def er (t : T) : T := ⟨t.kind, t.text, t.num, 0, 0, 0⟩
def E (ts : List T) : List T := ts.map er
def Er {α : Type} : Res α -> Res α
  | .ok a ts => .ok a (E ts)
  | .no c t => .no c (er t)
def ErT : Res T -> Res T
  | .ok a ts => .ok (er a) (E ts)
  | .no c t => .no c (er t)
theorem hd_e : ∀ ts, hd (E ts) = er (hd ts)
  | [] => rfl
  | _ :: _ => rfl
theorem tl_e : ∀ ts, tl (E ts) = E (tl ts)
  | [] => rfl
  | t :: r => by
    show tl (er t :: E r) = E (tl (t :: r))
    rw [tl_cons, tl_cons]
    have : (er t).kind = t.kind := rfl
    rw [this]
    split <;> rfl
theorem E_len (ts : List T) : (E ts).length = ts.length := by simp [E]
theorem isT_e (k : Nat) (x : Nm) (t : T) : isT k x (er t) = isT k x t := rfl
theorem isN_e (t : T) : isN (er t) = isN t := rfl
theorem pExp_e (k : Nat) (x : Nm) (ts : List T) : pExp k x (E ts) = Er (pExp k x ts) := by
  unfold pExp
  rw [hd_e, isT_e, tl_e]
  split <;> rfl
theorem pMks_e : ∀ (ms : List Nm) (ts : List T), pMks ms (E ts) = Er (pMks ms ts)
  | [], _ => rfl
  | m :: r, ts => by
    unfold pMks
    rw [hd_e, isT_e, tl_e, pMks_e r]
    split <;> rfl
theorem pNam_e (ts : List T) : pNam (E ts) = ErT (pNam ts) := by
  unfold pNam
  rw [hd_e, isN_e, tl_e]
  split <;> rfl
theorem pNum_e (lo hi : Int) (ts : List T) : pNum lo hi (E ts) = Er (pNum lo hi ts) := by
  unfold pNum
  rw [hd_e, tl_e]
  show (if (hd ts).kind ≠ 2 then _ else if ((hd ts).num : Int) < lo ∨ hi < ((hd ts).num : Int) then _ else _) = _
  split
  . rfl
  . split <;> rfl
theorem pNew_e (d : Dc) (ts : List T) : pNew d (E ts) = Er (pNew d ts) := by
  unfold pNew
  rw [pNam_e]
  cases pNam ts with
  | no c t => rfl
  | ok t ts' =>
    show (if taken d t.text then _ else _) = Er (if taken d t.text then _ else _)
    split <;> rfl
theorem pReg_e (b : Bk) (ts : List T) : pReg b (E ts) = Er (pReg b ts) := by
  unfold pReg
  rw [pNam_e]
  cases pNam ts with
  | no c t => rfl
  | ok t ts' =>
    show (match b.find t.text with | none => _ | some r => _) = Er (match b.find t.text with | none => _ | some r => _)
    cases b.find t.text <;> rfl
theorem pIdx_e (r : Rg) (ts : List T) : pIdx r (E ts) = Er (pIdx r ts) := by
  unfold pIdx
  rw [pMks_e]
  cases pMks [[91]] ts with
  | no c t => rfl
  | ok _ ts1 =>
    simp only [Er]
    rw [pNum_e]
    cases pNum 0 ((r.sz : Int) - 1) ts1 with
    | no c t => rfl
    | ok n ts2 =>
      simp only [Er]
      rw [pMks_e]
      cases pMks [[93]] ts2 <;> rfl
theorem pArg_e (b : Bk) (ts : List T) : pArg b (E ts) = Er (pArg b ts) := by
  unfold pArg
  rw [pReg_e]
  cases pReg b ts with
  | no c t => rfl
  | ok r ts1 =>
    simp only [Er]
    rw [hd_e, isT_e, pIdx_e]
    split
    . cases pIdx r ts1 <;> rfl
    . rfl
theorem pRow_e {α : Type} (one : List α -> List T -> Res α) (h : ∀ acc ts, one acc (E ts) = Er (one acc ts)) : ∀ (f : Nat) (acc : List α) (ts : List T), pRow one f acc (E ts) = Er (pRow one f acc ts)
  | 0, _, ts => by
    unfold pRow
    rw [hd_e]
    rfl
  | f + 1, acc, ts => by
    unfold pRow
    rw [h]
    cases one acc ts with
    | no c t => rfl
    | ok a ts1 =>
      simp only [Er]
      rw [hd_e, isT_e, tl_e, pRow_e one h f]
      split <;> rfl
theorem pArgs_e (d : Dc) (ts : List T) : pArgs d (E ts) = Er (pArgs d ts) := by
  unfold pArgs
  rw [E_len, pRow_e _ (fun _ ts => pArg_e d.q ts)]
  cases pRow (fun _ => pArg d.q) (ts.length + 1) [] ts with
  | no c t => rfl
  | ok l ts1 =>
    simp only [Er]
    rw [pMks_e]
    cases pMks [[59]] ts1 <;> rfl
theorem oneName_e (acc : List Nm) (ts : List T) : oneName acc (E ts) = Er (oneName acc ts) := by
  unfold oneName
  rw [pNam_e]
  cases pNam ts with
  | no c t => rfl
  | ok t ts1 =>
    show (if acc.contains t.text then _ else _) = Er (if acc.contains t.text then _ else _)
    split <;> rfl
theorem pNames_e (ts : List T) : pNames (E ts) = Er (pNames ts) := by
  unfold pNames
  rw [E_len, pRow_e _ oneName_e]
theorem oneGiven_e (names : List Nm) (ts : List T) : oneGiven names (E ts) = Er (oneGiven names ts) := by
  unfold oneGiven
  rw [pNam_e]
  cases pNam ts with
  | no c t => rfl
  | ok t ts1 =>
    show (match ixN names t.text with | none => _ | some n => _) = Er (match ixN names t.text with | none => _ | some n => _)
    cases ixN names t.text <;> rfl
theorem pGiven_e (names : List Nm) (ts : List T) : pGiven names (E ts) = Er (pGiven names ts) := by
  unfold pGiven
  rw [E_len, pRow_e _ (fun _ ts => oneGiven_e names ts)]
  cases pRow (fun _ => oneGiven names) (ts.length + 1) [] ts with
  | no c t => rfl
  | ok l ts1 =>
    simp only [Er]
    rw [pMks_e]
    cases pMks [[59]] ts1 <;> rfl
theorem pCallee_e (d : Dc) (t : T) (ts : List T) : pCallee d (er t) (E ts) = Er (pCallee d t ts) := by
  unfold pCallee
  rw [isN_e]
  show (if isN t then (match gOfD d t.text with | none => _ | some g => _) else _) = _
  split
  . cases gOfD d t.text <;> rfl
  . rfl
theorem pInner_e (d : Dc) (names : List Nm) (body : List PO) (ts : List T) : pInner d names body (E ts) = Er (pInner d names body ts) := by
  unfold pInner
  simp only [hd_e, isT_e, tl_e, pCallee_e]
  have key : (if isT 1 barX (hd ts) then (.ok ⟨0, []⟩ (E (tl ts)) : Res Df) else Er (pCallee d (hd ts) (tl ts))) = Er (if isT 1 barX (hd ts) then .ok ⟨0, []⟩ (tl ts) else pCallee d (hd ts) (tl ts)) := by split <;> rfl
  rw [key]
  cases (if isT 1 barX (hd ts) then (.ok ⟨0, []⟩ (tl ts) : Res Df) else pCallee d (hd ts) (tl ts)) with
  | no c t => rfl
  | ok g ts1 =>
    simp only [Er]
    rw [pGiven_e]
    cases pGiven names ts1 with
    | no c t => rfl
    | ok l ts2 =>
      simp only [Er]
      generalize (if isT 1 barX (hd ts) = true then sng 4 0 l.length else g) = g'
      split
      . rfl
      . split <;> rfl
theorem pBody_e (d : Dc) (names : List Nm) : ∀ (f : Nat) (body : List PO) (ts : List T), pBody d names f body (E ts) = Er (pBody d names f body ts)
  | 0, _, ts => by
    unfold pBody
    rw [hd_e]
    rfl
  | f + 1, body, ts => by
    unfold pBody
    rw [hd_e, isT_e, pInner_e]
    split
    . rfl
    . cases pInner d names body ts with
      | no c t => rfl
      | ok b ts1 => exact pBody_e d names f b ts1
theorem pDefine_e (d : Dc) (ts : List T) : pDefine d (E ts) = Er (pDefine d ts) := by
  unfold pDefine
  rw [pNew_e]
  cases pNew d ts with
  | no c t => rfl
  | ok x ts1 =>
    simp only [Er]
    rw [pNames_e]
    cases pNames ts1 with
    | no c t => rfl
    | ok ns ts2 =>
      simp only [Er]
      rw [pMks_e]
      cases pMks [[123]] ts2 with
      | no c t => rfl
      | ok _ ts3 =>
        simp only [Er]
        rw [E_len, pBody_e]
        cases pBody d ns (ts3.length + 1) [] ts3 with
        | no c t => rfl
        | ok body ts4 =>
          simp only [Er]
          rw [pMks_e]
          cases pMks [[125]] ts4 <;> rfl
theorem pRegister_e (d : Dc) (b : Bk) (ts : List T) : pRegister d b (E ts) = Er (pRegister d b ts) := by
  unfold pRegister
  rw [pNew_e]
  cases pNew d ts with
  | no c t => rfl
  | ok x ts1 =>
    simp only [Er]
    rw [pMks_e]
    cases pMks [[91]] ts1 with
    | no c t => rfl
    | ok _ ts2 =>
      simp only [Er]
      rw [pNum_e]
      cases pNum 1 (64 - (b.size : Int)) ts2 with
      | no c t => rfl
      | ok n ts3 =>
        simp only [Er]
        rw [pMks_e]
        cases pMks [[93], [59]] ts3 <;> rfl
theorem pInclude_e (ts : List T) : pInclude (E ts) = Er (pInclude ts) := by
  unfold pInclude
  rw [pExp_e]
  cases pExp 4 [113, 101, 108, 105, 98, 49, 46, 105, 110, 99] ts with
  | no c t => rfl
  | ok _ ts1 => exact pMks_e _ ts1
theorem pCall_e (d : Dc) (ops : List COp) (t : T) (on : Int × Nat) (ts : List T) : pCall d ops (er t) on (E ts) = Er (pCall d ops t on ts) := by
  unfold pCall
  rw [pCallee_e]
  cases pCallee d t ts with
  | no c t => rfl
  | ok g ts1 =>
    simp only [Er]
    rw [pArgs_e]
    cases pArgs d ts1 with
    | no c t => rfl
    | ok args ts2 =>
      simp only [Er]
      cases callsP args with
      | none => rfl
      | some calls =>
        simp only
        split
        . rfl
        . split <;> rfl
theorem pIf_e (d : Dc) (ops : List COp) (ts : List T) : pIf d ops (E ts) = Er (pIf d ops ts) := by
  unfold pIf
  rw [pMks_e]
  cases pMks [[40]] ts with
  | no c t => rfl
  | ok _ ts1 =>
    simp only [Er]
    rw [pReg_e]
    cases pReg d.b ts1 with
    | no c t => rfl
    | ok r ts2 =>
      simp only [Er]
      rw [pIdx_e]
      cases pIdx r ts2 with
      | no c t => rfl
      | ok i ts3 =>
        simp only [Er]
        rw [pMks_e]
        cases pMks [[61, 61]] ts3 with
        | no c t => rfl
        | ok _ ts4 =>
          simp only [Er]
          rw [pNum_e]
          cases pNum 0 1 ts4 with
          | no c t => rfl
          | ok w ts5 =>
            simp only [Er]
            rw [pMks_e]
            cases pMks [[41]] ts5 with
            | no c t => rfl
            | ok _ ts6 =>
              simp only [Er]
              rw [hd_e, tl_e, pCall_e]
              rfl
theorem pMeasure_e (d : Dc) (ops : List COp) (t : T) (ts : List T) : pMeasure d ops (er t) (E ts) = Er (pMeasure d ops t ts) := by
  unfold pMeasure
  rw [pArg_e]
  cases pArg d.q ts with
  | no c t => rfl
  | ok a ts1 =>
    simp only [Er]
    rw [pMks_e]
    cases pMks [[45, 62]] ts1 with
    | no c t => rfl
    | ok _ ts2 =>
      simp only [Er]
      rw [pArg_e]
      cases pArg d.b ts2 with
      | no c t => rfl
      | ok b ts3 =>
        simp only [Er]
        rw [pMks_e]
        cases pMks [[59]] ts3 with
        | no c t => rfl
        | ok _ ts4 =>
          simp only [Er]
          split
          . rfl
          . split <;> rfl
theorem pReset_e (d : Dc) (ops : List COp) (t : T) (ts : List T) : pReset d ops (er t) (E ts) = Er (pReset d ops t ts) := by
  unfold pReset
  rw [pArg_e]
  cases pArg d.q ts with
  | no c t => rfl
  | ok a ts1 =>
    simp only [Er]
    rw [pMks_e]
    cases pMks [[59]] ts1 with
    | no c t => rfl
    | ok _ ts2 =>
      simp only [Er]
      split <;> rfl
theorem pBarrier_e (d : Dc) (ops : List COp) (t : T) (ts : List T) : pBarrier d ops (er t) (E ts) = Er (pBarrier d ops t ts) := by
  unfold pBarrier
  rw [pArgs_e]
  cases pArgs d ts with
  | no c t => rfl
  | ok l ts1 =>
    simp only [Er]
    split
    . rfl
    . split <;> rfl
theorem map_e {α β : Type} (f : α -> β) (r : Res α) : (Er r).map f = Er (r.map f) := by cases r <;> rfl
theorem pStmt_e (s : St) (ts : List T) : pStmt s (E ts) = Er (pStmt s ts) := by
  unfold pStmt
  simp only [hd_e, tl_e, pInclude_e, pRegister_e, pDefine_e, pIf_e, pMeasure_e, pReset_e, pBarrier_e, pCall_e, map_e]
  show (if (hd ts).kind ≠ 1 then _ else if (hd ts).text = kwX 1 then _ else if (hd ts).text = kwX 2 then _ else if (hd ts).text = kwX 3 then _ else if (hd ts).text = kwX 4 then _ else if (hd ts).text = kwX 5 then _ else if (hd ts).text = kwX 6 then _ else if (hd ts).text = kwX 7 then _ else if (hd ts).text = kwX 8 then _ else _) = _
  repeat (first | rfl | split)
theorem pStmts_e : ∀ (f : Nat) (s : St) (ts : List T), pStmts f s (E ts) = Er (pStmts f s ts)
  | 0, _, ts => by
    unfold pStmts
    rw [hd_e]
    rfl
  | f + 1, s, ts => by
    unfold pStmts
    rw [hd_e, pStmt_e]
    show (if (hd ts).kind = 0 then _ else _) = _
    split
    . rfl
    . cases pStmt s ts with
      | no c t => rfl
      | ok s' ts' => exact pStmts_e f s' ts'
theorem pProg_e (ts : List T) : pProg (E ts) = Er (pProg ts) := by
  unfold pProg
  rw [pExp_e]
  cases pExp 1 (kwX 0) ts with
  | no c t => rfl
  | ok _ ts1 =>
    simp only [Er]
    rw [pExp_e]
    cases pExp 3 [50, 46, 48] ts1 with
    | no c t => rfl
    | ok _ ts2 =>
      simp only [Er]
      rw [pMks_e]
      cases pMks [[59]] ts2 with
      | no c t => rfl
      | ok _ ts3 =>
        simp only [Er]
        rw [E_len, pStmts_e]
        rfl
end Go.Proofs.YtnghfdnlcnocjaaGreatDoor.Cir
namespace Go.Proofs.YtnghfdnlcnocjaaGreatDoor.Tok
def gaps8 : List (List UInt8) := [[32], [10], [32, 47, 47, 32, 120, 10], [9, 13, 32]]
theorem gap_all8 : ∀ g ∈ gaps8, Gap g := by
  intro g hg
  simp [gaps8] at hg
  rcases hg with rfl | rfl | rfl | rfl
  all_goals
    intro r
    simp [gp, blank]
  all_goals omega
theorem gap_sep8 : ∀ g ∈ gaps8, ∀ r, Sep (g ++ r) := by
  intro g hg r
  simp [gaps8] at hg
  rcases hg with rfl | rfl | rfl | rfl
  all_goals
    intro c t h
    cases h
    exact ⟨by decide, by decide⟩
theorem gap_len8 : ∀ g ∈ gaps8, g.length <= 8 := by decide
def gapAt8 (mk : List UInt8) (i : Nat) : List UInt8 := gaps8.getD ((mk.getD i 0).toNat % 4) []
theorem gapAt_mem8 (mk : List UInt8) (i : Nat) : gapAt8 mk i ∈ gaps8 := by
  unfold gapAt8
  have : (mk.getD i 0).toNat % 4 < 4 := Nat.mod_lt _ (by decide)
  rw [List.getD_eq_getElem?_getD, List.getElem?_eq_getElem (by simpa [gaps8] using this)]
  exact List.getElem_mem _
def txt8 (mk : List UInt8) : Nat -> List T -> List UInt8
  | _, [] => []
  | i, t :: r => t.dr ++ (gapAt8 mk i ++ txt8 mk (i + 1) r)
theorem txt_len8 (mk : List UInt8) : ∀ (ts : List T) (i : Nat), (txt8 mk i ts).length <= (ts.map fun t => t.dr.length).sum + 8 * ts.length
  | [], i => by simp [txt8]
  | t :: r, i => by
    have h1 := txt_len8 mk r (i + 1)
    have h2 := gap_len8 _ (gapAt_mem8 mk i)
    rw [txt8, List.length_append, List.length_append, List.map_cons, List.sum_cons, List.length_cons]
    omega
theorem silent8 (mk : List UInt8) (e : T) (h0 : e.kind = 0) (h1 : e.text = []) (h2 : e.num = 0) : ∀ (init : List T) (i : Nat) (G : List UInt8), (∀ t ∈ init, t.good) -> Gap G -> ∀ (f off : Nat) (p : Nat × Nat), init.length < f -> ∃ ms, scan f (G ++ txt8 mk i (init ++ [e])) off p = .ok ms /\ (ms.map T.ta).map TA.pl = ((init ++ [e]).map T.ta).map TA.pl
  | [], i, G, _, hG, f, off, p, hf => by
    obtain ⟨f, rfl⟩ : ∃ x, f = x + 1 := ⟨f - 1, by omega⟩
    have e1 : G ++ txt8 mk i ([] ++ [e]) = G ++ gapAt8 mk i := by
      rw [List.nil_append, txt8, txt8, end_dr e h0 h1]
      simp
    obtain ⟨o, l, c, he⟩ := step_end (G ++ gapAt8 mk i) (hG.app (gap_all8 _ (gapAt_mem8 mk i))) f off p
    refine ⟨_, by rw [e1]; exact he, ?_⟩
    simp [T.ta, TA.pl, h0, h1, h2]
  | t :: r, i, G, hgd, hG, f, off, p, hf => by
    obtain ⟨f, rfl⟩ : ∃ x, f = x + 1 := ⟨f - 1, by omega⟩
    obtain ⟨hk, hcut⟩ := hgd t (by simp)
    have e1 : G ++ txt8 mk i ((t :: r) ++ [e]) = G ++ (t.dr ++ (gapAt8 mk i ++ txt8 mk (i + 1) (r ++ [e]))) := rfl
    obtain ⟨o, l, c, off', p', he⟩ := step_tok G t.dr (gapAt8 mk i ++ txt8 mk (i + 1) (r ++ [e])) t.kind t.text t.num hG hcut hk (gap_sep8 _ (gapAt_mem8 mk i) _) f off p
    obtain ⟨ms, hms, hpl⟩ := silent8 mk e h0 h1 h2 r (i + 1) (gapAt8 mk i) (fun x hx => hgd x (by simp [hx])) (gap_all8 _ (gapAt_mem8 mk i)) f off' p' (by simp at hf; omega)
    refine ⟨⟨t.kind, t.text, t.num, o, l, c⟩ :: ms, by rw [e1, he, hms]; rfl, ?_⟩
    rw [List.map_cons, List.map_cons, hpl, List.cons_append, List.map_cons, List.map_cons]
    rfl
theorem gap_nil8 : Gap [] := by
  intro r
  simp
theorem silent_all8 (mk : List UInt8) (l : List UInt8) (us : List T) (h : scanAll l = .ok us) :
    (∀ t ∈ us, writeR t.kind t.text t.num = some t.dr) /\ (∀ t ∈ us, t.text.length <= l.length /\ t.num <= 1000000000) /\ us.length <= l.length + 1 /\ (txt8 mk 0 us).length <= 9 * l.length + 8 /\ ∃ ms, scanAll (txt8 mk 0 us) = .ok ms /\ (ms.map T.ta).map TA.pl = (us.map T.ta).map TA.pl /\ ms.length = us.length := by
  obtain ⟨init, e, rfl, hgd, h0, h1, h2, hsum, hlen⟩ := scan_shape _ l 0 (1, 1) us h (by omega)
  have hul : (init ++ [e]).length <= l.length + 1 := by rw [List.length_append]; simp; exact hlen
  have htl : (txt8 mk 0 (init ++ [e])).length <= 9 * l.length + 8 := by
    have := txt_len8 mk (init ++ [e]) 0
    rw [List.map_append, List.sum_append] at this
    simp only [List.map_cons, List.map_nil, List.sum_cons, List.sum_nil, end_dr e h0 h1, List.length_nil] at this
    omega
  refine ⟨fun t ht => ?_, fun t ht => ?_, hul, htl, ?_⟩
  . rcases List.mem_append.1 ht with ht | ht
    . obtain ⟨hk, hcut⟩ := hgd t ht
      have hw : wholeB t.dr t.kind t.text t.num = true := by
        unfold wholeB
        rw [hcut]
        simp
      unfold writeR
      rw [show draftL (t.kind : Int) t.text (t.num : Int) = t.dr from rfl, if_pos hw]
    . have : t = e := by simpa using ht
      subst this
      rw [end_dr t h0 h1, h0, h1, h2]
      rfl
  . rcases List.mem_append.1 ht with ht | ht
    . obtain ⟨hk, hcut⟩ := hgd t ht
      have hb := cut_bounds _ _ _ _ _ hcut
      have hm := mem_sum init t ht
      exact ⟨by omega, hb.2⟩
    . have : t = e := by simpa using ht
      subst this
      rw [h1, h2]
      exact ⟨Nat.zero_le _, by omega⟩
  . obtain ⟨ms, hms, hpl⟩ := silent8 mk e h0 h1 h2 init 0 [] hgd gap_nil8 ((txt8 mk 0 (init ++ [e])).length + init.length + 1) 0 (1, 1) (by omega)
    refine ⟨ms, ?_, hpl, ?_⟩
    . rw [scanAll_eq _ ((txt8 mk 0 (init ++ [e])).length + init.length + 1) (by omega)]
      exact hms
    . have := congrArg List.length hpl
      simpa using this
end Go.Proofs.YtnghfdnlcnocjaaGreatDoor.Tok
namespace Go.Proofs.YtnghfdnlcnocjaaGreatDoor.Cir
open Go.Proofs.YtnghfdnlcnocjaaGreatDoor.Tok Go.Proofs.YtnghfdnlcnocjaaGreatDoor.Gt
theorem ends_app : ∀ (init : List T) (e : T), (∀ t ∈ init, t.kind ≠ 0) -> e.kind = 0 -> Ends (init ++ [e])
  | [], e, _, h => .inl ⟨h, rfl⟩
  | t :: r, e, h1, h => .inr ⟨h1 t (by simp), ends_app r e (fun x hx => h1 x (by simp [hx])) h⟩
theorem scan_fine {l : List UInt8} {us : List T} (h : scanAll l = .ok us) (hl : l.length <= 1099511627776) : Fine us := by
  obtain ⟨-, h2, h3, -⟩ := silent_all8 [] l us h
  obtain ⟨init, e, rfl, hgd, h0, -⟩ := scan_shape _ l 0 (1, 1) us h (by omega)
  exact ⟨ends_app init e (fun t ht => (hgd t ht).1) h0, by omega, fun t ht => by have := (h2 t ht).1; omega⟩
theorem scan_code {l : List UInt8} {f : Flt} (h : scanAll l = .bad f) : f.code ≠ 0 := by
  have := fault_code _ _ _ _ f h
  omega
def Pg (ts : List T) : Prop := Ends ts /\ (∀ t ∈ ts, 1 <= t.line) /\ ts.length <= 4398046511104
def Gd {α : Type} : Res α -> Prop
  | .ok _ ts => Pg ts
  | .no _ t => 1 <= t.line
theorem Pg.hd {ts : List T} (h : Pg ts) : 1 <= (hd ts).line := by
  obtain ⟨h1, h2, -⟩ := h
  cases ts with
  | nil => exact h1.elim
  | cons t r => exact h2 t (by simp)
theorem Pg.tl {ts : List T} (h : Pg ts) : Pg (tl ts) := by
  refine ⟨h.1.tl, fun t ht => ?_, Nat.le_trans (tl_length _) h.2.2⟩
  cases ts with
  | nil => exact h.1.elim
  | cons a r =>
    rw [tl_cons] at ht
    split at ht
    . exact h.2.1 t ht
    . exact h.2.1 t (by simp [ht])
theorem gd_map {α β : Type} (f : α -> β) : ∀ {r : Res α}, Gd r -> Gd (r.map f)
  | .ok _ _, h => h
  | .no _ _, h => h
theorem gd_pExp (k : Nat) (x : Nm) (ts : List T) (h : Pg ts) : Gd (pExp k x ts) := by
  unfold pExp
  split
  . exact h.tl
  . exact h.hd
theorem gd_pMks : ∀ (ms : List Nm) (ts : List T), Pg ts -> Gd (pMks ms ts)
  | [], _, h => h
  | m :: r, ts, h => by
    unfold pMks
    split
    . exact gd_pMks r _ h.tl
    . exact h.hd
theorem gd_pNam (ts : List T) (h : Pg ts) : Gd (pNam ts) := by
  unfold pNam
  split
  . exact h.tl
  . exact h.hd
theorem nam_line {ts ts' : List T} {t : T} (h : Pg ts) (e : pNam ts = .ok t ts') : 1 <= t.line := by
  unfold pNam at e
  split at e
  . cases e; exact h.hd
  . cases e
theorem gd_pNum (lo hi : Int) (ts : List T) (h : Pg ts) : Gd (pNum lo hi ts) := by
  unfold pNum
  split
  . exact h.hd
  . split
    . exact h.hd
    . exact h.tl
theorem gd_pNew (d : Dc) (ts : List T) (h : Pg ts) : Gd (pNew d ts) := by
  unfold pNew
  have h1 := gd_pNam _ h
  cases e1 : pNam ts with
  | no c t => rw [e1] at h1; exact h1
  | ok a1 ts1 =>
  rw [e1] at h1
  simp only
  split
  . exact nam_line h e1
  . exact h1
theorem gd_pReg (b : Bk) (ts : List T) (h : Pg ts) : Gd (pReg b ts) := by
  unfold pReg
  have h1 := gd_pNam _ h
  cases e1 : pNam ts with
  | no c t => rw [e1] at h1; exact h1
  | ok a1 ts1 =>
  rw [e1] at h1
  simp only
  split
  . exact nam_line h e1
  . exact h1
theorem gd_pIdx (r : Rg) (ts : List T) (h : Pg ts) : Gd (pIdx r ts) := by
  unfold pIdx
  have h1 := gd_pMks [[91]] _ h
  cases e1 : pMks [[91]] ts with
  | no c t => rw [e1] at h1; exact h1
  | ok a1 ts1 =>
  rw [e1] at h1
  simp only
  have h2 := gd_pNum 0 ((r.sz : Int) - 1) _ h1
  cases e2 : pNum 0 ((r.sz : Int) - 1) ts1 with
  | no c t => rw [e2] at h2; exact h2
  | ok a2 ts2 =>
  rw [e2] at h2
  simp only
  have h3 := gd_pMks [[93]] _ h2
  cases e3 : pMks [[93]] ts2 with
  | no c t => rw [e3] at h3; exact h3
  | ok a3 ts3 =>
  rw [e3] at h3
  simp only
  exact h3
theorem gd_pArg (b : Bk) (ts : List T) (h : Pg ts) : Gd (pArg b ts) := by
  unfold pArg
  have h1 := gd_pReg b _ h
  cases e1 : pReg b ts with
  | no c t => rw [e1] at h1; exact h1
  | ok a1 ts1 =>
  rw [e1] at h1
  simp only
  split
  . have h2 := gd_pIdx a1 _ h1
    cases e2 : pIdx a1 ts1 with
    | no c t => rw [e2] at h2; exact h2
    | ok a2 ts2 => rw [e2] at h2; exact h2
  . exact h1
theorem gd_pRow {α : Type} (one : List α -> List T -> Res α) (ho : ∀ acc ts, Pg ts -> Gd (one acc ts)) : ∀ (f : Nat) (acc : List α) (ts : List T), Pg ts -> Gd (pRow one f acc ts)
  | 0, _, ts, h => by unfold pRow; exact h.hd
  | f + 1, acc, ts, h => by
    unfold pRow
    have h1 := ho acc ts h
    cases e1 : one acc ts with
    | no c t => rw [e1] at h1; exact h1
    | ok a ts1 =>
      rw [e1] at h1
      simp only
      split
      . exact gd_pRow one ho f _ _ (Pg.tl h1)
      . exact h1
theorem gd_pArgs (d : Dc) (ts : List T) (h : Pg ts) : Gd (pArgs d ts) := by
  unfold pArgs
  have h1 := gd_pRow (fun _ => pArg d.q) (fun _ ts h => gd_pArg d.q ts h) (ts.length + 1) [] ts h
  cases e1 : pRow (fun _ => pArg d.q) (ts.length + 1) [] ts with
  | no c t => rw [e1] at h1; exact h1
  | ok a1 ts1 =>
  rw [e1] at h1
  simp only
  have h2 := gd_pMks [[59]] _ h1
  cases e2 : pMks [[59]] ts1 with
  | no c t => rw [e2] at h2; exact h2
  | ok a2 ts2 =>
  rw [e2] at h2
  simp only
  exact h2
theorem gd_oneName (acc : List Nm) (ts : List T) (h : Pg ts) : Gd (oneName acc ts) := by
  unfold oneName
  have h1 := gd_pNam _ h
  cases e1 : pNam ts with
  | no c t => rw [e1] at h1; exact h1
  | ok a1 ts1 =>
  rw [e1] at h1
  simp only
  split
  . exact nam_line h e1
  . exact h1
theorem gd_pNames (ts : List T) (h : Pg ts) : Gd (pNames ts) := gd_pRow oneName (fun acc ts h => gd_oneName acc ts h) (ts.length + 1) [] ts h
theorem gd_oneGiven (names : List Nm) (ts : List T) (h : Pg ts) : Gd (oneGiven names ts) := by
  unfold oneGiven
  have h1 := gd_pNam _ h
  cases e1 : pNam ts with
  | no c t => rw [e1] at h1; exact h1
  | ok a1 ts1 =>
  rw [e1] at h1
  simp only
  split
  . exact nam_line h e1
  . exact h1
theorem gd_pGiven (names : List Nm) (ts : List T) (h : Pg ts) : Gd (pGiven names ts) := by
  unfold pGiven
  have h1 := gd_pRow (fun _ => oneGiven names) (fun _ ts h => gd_oneGiven names ts h) (ts.length + 1) [] ts h
  cases e1 : pRow (fun _ => oneGiven names) (ts.length + 1) [] ts with
  | no c t => rw [e1] at h1; exact h1
  | ok a1 ts1 =>
  rw [e1] at h1
  simp only
  have h2 := gd_pMks [[59]] _ h1
  cases e2 : pMks [[59]] ts1 with
  | no c t => rw [e2] at h2; exact h2
  | ok a2 ts2 =>
  rw [e2] at h2
  simp only
  exact h2
theorem gd_pCallee (d : Dc) (t : T) (ts : List T) (ht : 1 <= t.line) (h : Pg ts) : Gd (pCallee d t ts) := by
  unfold pCallee
  split
  . split
    . exact ht
    . exact h
  . exact ht
theorem gd_pInner (d : Dc) (names : List Nm) (body : List PO) (ts : List T) (h : Pg ts) : Gd (pInner d names body ts) := by
  unfold pInner
  simp only
  have h1 : Gd (if isT 1 barX (hd ts) = true then Res.ok ⟨0, []⟩ (tl ts) else pCallee d (hd ts) (tl ts)) := by
    split
    . exact h.tl
    . exact gd_pCallee d _ _ h.hd h.tl
  generalize (if isT 1 barX (hd ts) = true then Res.ok ⟨0, []⟩ (tl ts) else pCallee d (hd ts) (tl ts)) = X at *
  cases X with
  | no c t => exact h1
  | ok g ts1 =>
    simp only
    have h2 := gd_pGiven names ts1 h1
    cases e2 : pGiven names ts1 with
    | no c t => rw [e2] at h2; exact h2
    | ok l ts2 =>
      rw [e2] at h2
      simp only
      generalize (if isT 1 barX (hd ts) = true then sng 4 0 l.length else g) = g'
      split
      . exact h.hd
      . split
        . exact h.hd
        . exact h2
theorem gd_pBody (d : Dc) (names : List Nm) : ∀ (f : Nat) (body : List PO) (ts : List T), Pg ts -> Gd (pBody d names f body ts)
  | 0, _, ts, h => by unfold pBody; exact h.hd
  | f + 1, body, ts, h => by
    unfold pBody
    split
    . exact h
    . have h1 := gd_pInner d names body ts h
      cases e1 : pInner d names body ts with
      | no c t => rw [e1] at h1; exact h1
      | ok b ts1 => rw [e1] at h1; exact gd_pBody d names f b ts1 h1
theorem gd_pDefine (d : Dc) (ts : List T) (h : Pg ts) : Gd (pDefine d ts) := by
  unfold pDefine
  have h1 := gd_pNew d _ h
  cases e1 : pNew d ts with
  | no c t => rw [e1] at h1; exact h1
  | ok a1 ts1 =>
  rw [e1] at h1
  simp only
  have h2 := gd_pNames _ h1
  cases e2 : pNames ts1 with
  | no c t => rw [e2] at h2; exact h2
  | ok a2 ts2 =>
  rw [e2] at h2
  simp only
  have h3 := gd_pMks [[123]] _ h2
  cases e3 : pMks [[123]] ts2 with
  | no c t => rw [e3] at h3; exact h3
  | ok a3 ts3 =>
  rw [e3] at h3
  simp only
  have h4 := gd_pBody d a2 (ts3.length + 1) [] _ h3
  cases e4 : pBody d a2 (ts3.length + 1) [] ts3 with
  | no c t => rw [e4] at h4; exact h4
  | ok a4 ts4 =>
  rw [e4] at h4
  simp only
  have h5 := gd_pMks [[125]] _ h4
  cases e5 : pMks [[125]] ts4 with
  | no c t => rw [e5] at h5; exact h5
  | ok a5 ts5 =>
  rw [e5] at h5
  simp only
  exact h5
theorem gd_pRegister (d : Dc) (b : Bk) (ts : List T) (h : Pg ts) : Gd (pRegister d b ts) := by
  unfold pRegister
  have h1 := gd_pNew d _ h
  cases e1 : pNew d ts with
  | no c t => rw [e1] at h1; exact h1
  | ok a1 ts1 =>
  rw [e1] at h1
  simp only
  have h2 := gd_pMks [[91]] _ h1
  cases e2 : pMks [[91]] ts1 with
  | no c t => rw [e2] at h2; exact h2
  | ok a2 ts2 =>
  rw [e2] at h2
  simp only
  have h3 := gd_pNum 1 (64 - (b.size : Int)) _ h2
  cases e3 : pNum 1 (64 - (b.size : Int)) ts2 with
  | no c t => rw [e3] at h3; exact h3
  | ok a3 ts3 =>
  rw [e3] at h3
  simp only
  have h4 := gd_pMks [[93], [59]] _ h3
  cases e4 : pMks [[93], [59]] ts3 with
  | no c t => rw [e4] at h4; exact h4
  | ok a4 ts4 =>
  rw [e4] at h4
  simp only
  exact h4
theorem gd_pInclude (ts : List T) (h : Pg ts) : Gd (pInclude ts) := by
  unfold pInclude
  have h1 := gd_pExp 4 [113, 101, 108, 105, 98, 49, 46, 105, 110, 99] _ h
  cases e1 : pExp 4 [113, 101, 108, 105, 98, 49, 46, 105, 110, 99] ts with
  | no c t => rw [e1] at h1; exact h1
  | ok a1 ts1 =>
  rw [e1] at h1
  simp only
  exact gd_pMks _ _ h1
theorem gd_pCall (d : Dc) (ops : List COp) (t : T) (on : Int × Nat) (ts : List T) (ht : 1 <= t.line) (h : Pg ts) : Gd (pCall d ops t on ts) := by
  unfold pCall
  have h1 := gd_pCallee d t _ ht h
  cases e1 : pCallee d t ts with
  | no c t => rw [e1] at h1; exact h1
  | ok a1 ts1 =>
  rw [e1] at h1
  simp only
  have h2 := gd_pArgs d _ h1
  cases e2 : pArgs d ts1 with
  | no c t => rw [e2] at h2; exact h2
  | ok a2 ts2 =>
  rw [e2] at h2
  simp only
  split
  . exact ht
  . split
    . exact ht
    . split
      . exact ht
      . exact h2
theorem gd_pIf (d : Dc) (ops : List COp) (ts : List T) (h : Pg ts) : Gd (pIf d ops ts) := by
  unfold pIf
  have h1 := gd_pMks [[40]] _ h
  cases e1 : pMks [[40]] ts with
  | no c t => rw [e1] at h1; exact h1
  | ok a1 ts1 =>
  rw [e1] at h1
  simp only
  have h2 := gd_pReg d.b _ h1
  cases e2 : pReg d.b ts1 with
  | no c t => rw [e2] at h2; exact h2
  | ok a2 ts2 =>
  rw [e2] at h2
  simp only
  have h3 := gd_pIdx a2 _ h2
  cases e3 : pIdx a2 ts2 with
  | no c t => rw [e3] at h3; exact h3
  | ok a3 ts3 =>
  rw [e3] at h3
  simp only
  have h4 := gd_pMks [[61, 61]] _ h3
  cases e4 : pMks [[61, 61]] ts3 with
  | no c t => rw [e4] at h4; exact h4
  | ok a4 ts4 =>
  rw [e4] at h4
  simp only
  have h5 := gd_pNum 0 1 _ h4
  cases e5 : pNum 0 1 ts4 with
  | no c t => rw [e5] at h5; exact h5
  | ok a5 ts5 =>
  rw [e5] at h5
  simp only
  have h6 := gd_pMks [[41]] _ h5
  cases e6 : pMks [[41]] ts5 with
  | no c t => rw [e6] at h6; exact h6
  | ok a6 ts6 =>
  rw [e6] at h6
  simp only
  exact gd_pCall d ops _ _ _ (Pg.hd h6) (Pg.tl h6)
theorem gd_pMeasure (d : Dc) (ops : List COp) (t : T) (ts : List T) (ht : 1 <= t.line) (h : Pg ts) : Gd (pMeasure d ops t ts) := by
  unfold pMeasure
  have h1 := gd_pArg d.q _ h
  cases e1 : pArg d.q ts with
  | no c t => rw [e1] at h1; exact h1
  | ok a1 ts1 =>
  rw [e1] at h1
  simp only
  have h2 := gd_pMks [[45, 62]] _ h1
  cases e2 : pMks [[45, 62]] ts1 with
  | no c t => rw [e2] at h2; exact h2
  | ok a2 ts2 =>
  rw [e2] at h2
  simp only
  have h3 := gd_pArg d.b _ h2
  cases e3 : pArg d.b ts2 with
  | no c t => rw [e3] at h3; exact h3
  | ok a3 ts3 =>
  rw [e3] at h3
  simp only
  have h4 := gd_pMks [[59]] _ h3
  cases e4 : pMks [[59]] ts3 with
  | no c t => rw [e4] at h4; exact h4
  | ok a4 ts4 =>
  rw [e4] at h4
  simp only
  split
  . exact ht
  . split
    . exact ht
    . exact h4
theorem gd_pReset (d : Dc) (ops : List COp) (t : T) (ts : List T) (ht : 1 <= t.line) (h : Pg ts) : Gd (pReset d ops t ts) := by
  unfold pReset
  have h1 := gd_pArg d.q _ h
  cases e1 : pArg d.q ts with
  | no c t => rw [e1] at h1; exact h1
  | ok a1 ts1 =>
  rw [e1] at h1
  simp only
  have h2 := gd_pMks [[59]] _ h1
  cases e2 : pMks [[59]] ts1 with
  | no c t => rw [e2] at h2; exact h2
  | ok a2 ts2 =>
  rw [e2] at h2
  simp only
  split
  . exact ht
  . exact h2
theorem gd_pBarrier (d : Dc) (ops : List COp) (t : T) (ts : List T) (ht : 1 <= t.line) (h : Pg ts) : Gd (pBarrier d ops t ts) := by
  unfold pBarrier
  have h1 := gd_pArgs d _ h
  cases e1 : pArgs d ts with
  | no c t => rw [e1] at h1; exact h1
  | ok a1 ts1 =>
  rw [e1] at h1
  simp only
  split
  . exact ht
  . split
    . exact ht
    . exact h1
theorem gd_pStmt (s : St) (ts : List T) (h : Pg ts) : Gd (pStmt s ts) := by
  unfold pStmt
  simp only
  have a := h.hd
  have b := h.tl
  split
  . exact a
  . split
    . exact gd_map _ (gd_pInclude _ b)
    . split
      . exact gd_map _ (gd_pRegister _ _ _ b)
      . split
        . exact gd_map _ (gd_pRegister _ _ _ b)
        . split
          . exact gd_map _ (gd_pDefine _ _ b)
          . split
            . exact gd_map _ (gd_pIf _ _ _ b)
            . split
              . exact gd_map _ (gd_pMeasure _ _ _ _ a b)
              . split
                . exact gd_map _ (gd_pReset _ _ _ _ a b)
                . split
                  . exact gd_map _ (gd_pBarrier _ _ _ _ a b)
                  . exact gd_map _ (gd_pCall _ _ _ _ _ a b)
theorem adv_line : ∀ (j k : Nat) (l : List UInt8) (p : Nat × Nat), p.1 <= (adv j k l p).1
  | j, 0, l, p => by rw [adv_zero]; exact Nat.le_refl _
  | j, k + 1, [], p => by rw [adv_nil]; exact Nat.le_refl _
  | j + 1, k + 1, _ :: r, p => by
    unfold adv
    exact adv_line j k r p
  | 0, k + 1, a :: r, p => by
    unfold adv
    refine Nat.le_trans ?_ (adv_line _ k r (stp a p))
    unfold stp
    split <;> simp
theorem scan_lines : ∀ (f : Nat) (l : List UInt8) (off : Nat) (p : Nat × Nat) (us : List T), scan f l off p = .ok us -> 1 <= p.1 -> ∀ t ∈ us, 1 <= t.line
  | 0, l, off, p, us, h, _ => by
    unfold scan at h
    cases h
    intro t ht
    simp at ht
  | f + 1, l, off, p, us, h, hp => by
    have ha := adv_line 0 (gp false l) l p
    cases hC : cut (l.drop (gp false l)) with
    | bad e => rw [scan_bad _ _ _ _ e hC] at h; cases h
    | tok k t v n =>
      rw [scan_tok _ _ _ _ k v n t hC] at h
      by_cases hk : k = 0
      . rw [if_pos hk] at h
        cases h
        intro t ht
        rw [List.mem_singleton] at ht
        subst ht
        exact Nat.le_trans hp ha
      . rw [if_neg hk] at h
        cases hr : scan f ((l.drop (gp false l)).drop n) (off + gp false l + n) (adv 0 n (l.drop (gp false l)) (adv 0 (gp false l) l p)) with
        | bad F => rw [hr] at h; cases h
        | ok us' =>
          rw [hr] at h
          cases h
          intro t ht
          rcases List.mem_cons.1 ht with rfl | ht
          . exact Nat.le_trans hp ha
          . exact scan_lines f _ _ _ us' hr (Nat.le_trans (Nat.le_trans hp ha) (adv_line _ _ _ _)) t ht
end Go.Proofs.YtnghfdnlcnocjaaGreatDoor.Cir
