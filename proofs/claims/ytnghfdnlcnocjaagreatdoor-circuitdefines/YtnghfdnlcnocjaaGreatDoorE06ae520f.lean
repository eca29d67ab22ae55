import Derived.Test.YtnghfdnlcnocjaaGreatDoorEfc03c86f
import Derived.Test.YtnghfdnlcnocjaaGreatDoorEce3478ce
namespace Go.Proofs.YtnghfdnlcnocjaaGreatDoor.Cir
open Go.Proofs.YtnghfdnlcnocjaaGreatDoor.Tok Go.Proofs.YtnghfdnlcnocjaaGreatDoor.Gt
theorem row_lenA {α : Type} (one : List α -> List T -> Res α) : ∀ (f : Nat) (acc : List α) (ts : List T) (l : List α) (r : List T), pRow one f acc ts = .ok l r -> l.length <= acc.length + f
  | 0, _, _, _, _, h => by unfold pRow at h; cases h
  | f + 1, acc, ts, l, r, h => by
    unfold pRow at h
    split at h
    . cases h
    . split at h
      . have := row_lenA one f _ _ _ _ h
        rw [List.length_append] at this
        simp at this
        omega
      . cases h
        rw [List.length_append]
        simp
theorem args_len {d : Dc} {ts r : List T} {l : List Ag} (h : pArgs d ts = .ok l r) : l.length <= ts.length + 1 := by
  unfold pArgs at h
  split at h
  . cases h
  . rename_i l1 ts1 h1
    split at h
    . cases h
    . cases h
      have := row_lenA _ _ _ _ _ _ h1
      simpa using this
theorem given_len {names : List Nm} {ts r : List T} {l : List Nat} (h : pGiven names ts = .ok l r) : l.length <= ts.length + 1 := by
  unfold pGiven at h
  split at h
  . cases h
  . rename_i l1 ts1 h1
    split at h
    . cases h
    . cases h
      have := row_lenA _ _ _ _ _ _ h1
      simpa using this
def NsB (l : List PO) : Prop := ∀ o ∈ l, o.ns.length <= 4398046511105
def DfB (d : Dc) : Prop := ∀ x g, d.defs x = some g -> NsB g.ops
theorem callee_ns {d : Dc} (hd : DfB d) {t : T} {ts r : List T} {g : Df} (h : pCallee d t ts = .ok g r) : NsB g.ops /\ r = ts := by
  unfold pCallee at h
  split at h
  . split at h
    . cases h
    . rename_i g' hg
      cases h
      refine ⟨?_, rfl⟩
      unfold gOfD at hg
      split at hg
      . cases hg
        intro o ho
        simp only [sng, List.mem_singleton] at ho
        subst ho
        have := rw_q3 (ofP t.text).1
        simp only [List.length_range]
        omega
      . exact hd _ _ hg
  . cases h
theorem inner_ns {d : Dc} (hd' : DfB d) {names : List Nm} {body b : List PO} {ts r : List T} (h : pInner d names body ts = .ok b r) (hb : NsB body) (hp : Pg ts) : NsB b := by
  unfold pInner at h
  simp only at h
  have hX : ∀ g ts1, (if isT 1 barX (hd ts) = true then Res.ok ⟨0, []⟩ (tl ts) else pCallee d (hd ts) (tl ts)) = Res.ok g ts1 -> NsB g.ops /\ ts1 = tl ts := by
    intro g ts1 hx
    split at hx
    . cases hx
      exact ⟨fun o ho => by simp at ho, rfl⟩
    . exact callee_ns hd' hx
  generalize (if isT 1 barX (hd ts) = true then Res.ok ⟨0, []⟩ (tl ts) else pCallee d (hd ts) (tl ts)) = X at *
  cases X with
  | no c t => cases h
  | ok g ts1 =>
    obtain ⟨h1, rfl⟩ := hX g ts1 rfl
    simp only at h
    cases e2 : pGiven names (tl ts) with
    | no c t => rw [e2] at h; cases h
    | ok l ts2 =>
      rw [e2] at h
      simp only at h
      have hl := given_len e2
      have hK := hp.tl.2.2
      have h3 : NsB (if isT 1 barX (hd ts) = true then sng 4 0 l.length else g).ops := by
        split
        . intro o ho
          simp only [sng, List.mem_singleton] at ho
          subst ho
          simp only [List.length_range]
          omega
        . exact h1
      generalize (if isT 1 barX (hd ts) = true then sng 4 0 l.length else g) = g' at *
      split at h
      . cases h
      . split at h
        . cases h
        . cases h
          intro o ho
          rcases List.mem_append.1 ho with ho | ho
          . exact hb o ho
          . obtain ⟨o', ho', rfl⟩ := List.mem_map.1 ho
            have := h3 o' ho'
            simpa [onP, pk] using this
theorem body_ns {d : Dc} (hd' : DfB d) (names : List Nm) : ∀ (f : Nat) (body b : List PO) (ts r : List T), pBody d names f body ts = .ok b r -> NsB body -> Pg ts -> NsB b
  | 0, _, _, _, _, h, _, _ => by unfold pBody at h; cases h
  | f + 1, body, b, ts, r, h, hb, hp => by
    unfold pBody at h
    split at h
    . cases h; exact hb
    . have h1 := gd_pInner d names body ts hp
      cases e1 : pInner d names body ts with
      | no c t => rw [e1] at h; cases h
      | ok b1 ts1 =>
        rw [e1] at h h1
        exact body_ns hd' names f b1 b ts1 r h (inner_ns hd' e1 hb hp) h1
theorem define_ns {d d' : Dc} (hd' : DfB d) {ts r : List T} (h : pDefine d ts = .ok d' r) (hp : Pg ts) : DfB d' /\ d'.q = d.q /\ d'.b = d.b := by
  unfold pDefine at h
  have h1 := gd_pNew d ts hp
  cases e1 : pNew d ts with
  | no c t => rw [e1] at h; cases h
  | ok x ts1 =>
  rw [e1] at h h1
  simp only at h
  have h2 := gd_pNames ts1 h1
  cases e2 : pNames ts1 with
  | no c t => rw [e2] at h; cases h
  | ok ns ts2 =>
  rw [e2] at h h2
  simp only at h
  have h3 := gd_pMks [[123]] ts2 h2
  cases e3 : pMks [[123]] ts2 with
  | no c t => rw [e3] at h; cases h
  | ok u ts3 =>
  rw [e3] at h h3
  simp only at h
  cases e4 : pBody d ns (ts3.length + 1) [] ts3 with
  | no c t => rw [e4] at h; cases h
  | ok body ts4 =>
  rw [e4] at h
  simp only at h
  have h5 := body_ns hd' ns _ _ _ _ _ e4 (fun o ho => by simp at ho) h3
  split at h
  . cases h
  . cases h
    refine ⟨fun y g hg => ?_, rfl, rfl⟩
    simp only [put] at hg
    split at hg
    . cases hg; exact h5
    . exact hd' y g hg
structure Iv (s : St) : Prop where
  ok : DcOk s.d
  df : DfB s.d
  len : s.ops.length <= 4096
  qs : ∀ o ∈ s.ops, o.qs.length <= 1000000000000000
theorem map_ok {α β : Type} {f : α -> β} {r : Res α} {b : β} {ts : List T} (h : r.map f = .ok b ts) : ∃ a, r = .ok a ts /\ f a = b := by
  cases r with
  | ok a t => cases h; exact ⟨a, rfl, rfl⟩
  | no c t => cases h
theorem lay_len (on : Int × Nat) (l : List PO) : ∀ calls : List (List Nat), (calls.flatMap (layP on l)).length = calls.length * l.length
  | [] => by simp
  | a :: r => by
    rw [List.flatMap_cons, List.length_append, lay_len on l r, List.length_cons, Nat.succ_mul]
    simp [layP]
    omega
theorem call_iv {d : Dc} (hd' : DfB d) {ops o : List COp} {t : T} {on : Int × Nat} {ts r : List T} (h : pCall d ops t on ts = .ok o r) (hq : ∀ p ∈ ops, p.qs.length <= 1000000000000000) : o.length <= 4096 /\ ∀ p ∈ o, p.qs.length <= 1000000000000000 := by
  unfold pCall at h
  split at h
  . cases h
  . rename_i g ts1 e1
    have hg := (callee_ns hd' e1).1
    split at h
    . cases h
    . split at h
      . cases h
      . split at h
        . cases h
        . split at h
          . cases h
          . rename_i calls _ _ hn
            cases h
            refine ⟨by rw [List.length_append, lay_len]; omega, fun p hp => ?_⟩
            rcases List.mem_append.1 hp with hp | hp
            . exact hq p hp
            . obtain ⟨qs, -, hp⟩ := List.mem_flatMap.1 hp
              obtain ⟨o', ho', rfl⟩ := List.mem_map.1 hp
              have := hg o' ho'
              unfold layO
              split <;> simp [pk] <;> omega
theorem each_len : ∀ l : List Ag, (∀ a ∈ l, a.fr + a.sz <= 64 /\ 1 <= a.sz) -> (l.flatMap eachP).length <= 64 * l.length
  | [], _ => by simp
  | a :: r, h => by
    have h1 := each_len r (fun b hb => h b (by simp [hb]))
    have h2 := (h a (by simp)).1
    rw [List.flatMap_cons, List.length_append, List.length_cons]
    have : (eachP a).length = a.sz := by simp [eachP]
    omega
theorem stmt_iv {s s' : St} (hs : Iv s) {ts r : List T} (hp : Pg ts) (h : pStmt s ts = .ok s' r) : Iv s' := by
  unfold pStmt at h
  simp only at h
  split at h
  . cases h
  split at h
  . obtain ⟨a, -, rfl⟩ := map_ok h
    exact hs
  split at h
  . obtain ⟨b, hb, rfl⟩ := map_ok h
    obtain ⟨x, n, r1, r2, r3⟩ := pRegister_ok hb
    obtain ⟨s1, s2⟩ := reg_ok r1 r2 r3 hs.ok.rq
    exact ⟨⟨s1, hs.ok.b, s2, hs.ok.rb⟩, hs.df, hs.len, hs.qs⟩
  split at h
  . obtain ⟨b, hb, rfl⟩ := map_ok h
    obtain ⟨x, n, r1, r2, r3⟩ := pRegister_ok hb
    obtain ⟨s1, s2⟩ := reg_ok r1 r2 r3 hs.ok.rb
    exact ⟨⟨hs.ok.q, s1, hs.ok.rq, s2⟩, hs.df, hs.len, hs.qs⟩
  split at h
  . obtain ⟨d, hb, rfl⟩ := map_ok h
    obtain ⟨h1, h2, h3⟩ := define_ns hs.df hb hp.tl
    refine ⟨⟨?_, ?_, ?_, ?_⟩, h1, hs.len, hs.qs⟩
    . show d.q.size <= 64; rw [h2]; exact hs.ok.q
    . show d.b.size <= 64; rw [h3]; exact hs.ok.b
    . show ∀ x r, d.q.find x = some r -> 1 <= r.sz /\ r.fr + r.sz <= d.q.size; rw [h2]; exact hs.ok.rq
    . show ∀ x r, d.b.find x = some r -> 1 <= r.sz /\ r.fr + r.sz <= d.b.size; rw [h3]; exact hs.ok.rb
  split at h
  . obtain ⟨o, hb, rfl⟩ := map_ok h
    have key : o.length <= 4096 /\ ∀ p ∈ o, p.qs.length <= 1000000000000000 := by
      unfold pIf at hb
      split at hb
      . cases hb
      split at hb
      . cases hb
      split at hb
      . cases hb
      split at hb
      . cases hb
      split at hb
      . cases hb
      split at hb
      . cases hb
      exact call_iv hs.df hb hs.qs
    exact ⟨hs.ok, hs.df, key.1, key.2⟩
  split at h
  . obtain ⟨o, hb, rfl⟩ := map_ok h
    have key : o.length <= 4096 /\ ∀ p ∈ o, p.qs.length <= 1000000000000000 := by
      unfold pMeasure at hb
      split at hb
      . cases hb
      split at hb
      . cases hb
      split at hb
      . cases hb
      split at hb
      . cases hb
      split at hb
      . cases hb
      split at hb
      . cases hb
      rename_i hn
      cases hb
      refine ⟨by rw [List.length_append, List.length_map, List.length_range]; omega, fun p hq => ?_⟩
      rcases List.mem_append.1 hq with hq | hq
      . exact hs.qs p hq
      . obtain ⟨k, -, rfl⟩ := List.mem_map.1 hq
        simp [msO]
    exact ⟨hs.ok, hs.df, key.1, key.2⟩
  split at h
  . obtain ⟨o, hb, rfl⟩ := map_ok h
    have key : o.length <= 4096 /\ ∀ p ∈ o, p.qs.length <= 1000000000000000 := by
      unfold pReset at hb
      split at hb
      . cases hb
      split at hb
      . cases hb
      split at hb
      . cases hb
      rename_i hn
      cases hb
      refine ⟨by rw [List.length_append, List.length_map, List.length_range]; omega, fun p hq => ?_⟩
      rcases List.mem_append.1 hq with hq | hq
      . exact hs.qs p hq
      . obtain ⟨k, -, rfl⟩ := List.mem_map.1 hq
        simp [rsO]
    exact ⟨hs.ok, hs.df, key.1, key.2⟩
  split at h
  . obtain ⟨o, hb, rfl⟩ := map_ok h
    have key : o.length <= 4096 /\ ∀ p ∈ o, p.qs.length <= 1000000000000000 := by
      unfold pBarrier at hb
      split at hb
      . cases hb
      rename_i l ts1 e1
      split at hb
      . cases hb
      split at hb
      . cases hb
      rename_i hn
      cases hb
      refine ⟨by rw [List.length_append]; simp; omega, fun p hq => ?_⟩
      rcases List.mem_append.1 hq with hq | hq
      . exact hs.qs p hq
      . rw [List.mem_singleton] at hq
        subst hq
        have h1 := args_len e1
        have h2 := each_len l (pArgs_bd hs.ok e1)
        have h3 := hp.tl.2.2
        simp only [List.length_map]
        omega
    exact ⟨hs.ok, hs.df, key.1, key.2⟩
  . obtain ⟨o, hb, rfl⟩ := map_ok h
    have key := call_iv hs.df hb hs.qs
    exact ⟨hs.ok, hs.df, key.1, key.2⟩
theorem stmts_iv : ∀ (f : Nat) (s s' : St) (ts r : List T), Iv s -> Pg ts -> pStmts f s ts = .ok s' r -> Iv s'
  | 0, _, _, _, _, _, _, h => by unfold pStmts at h; cases h
  | f + 1, s, s', ts, r, hs, hp, h => by
    unfold pStmts at h
    split at h
    . cases h; exact hs
    . have h1 := gd_pStmt s ts hp
      cases e1 : pStmt s ts with
      | no c t => rw [e1] at h; cases h
      | ok b ts1 =>
        rw [e1] at h h1
        exact stmts_iv f b s' ts1 r (stmt_iv hs hp e1) h1 h
theorem par_iv {l : List UInt8} {c : Circ} (hl : l.length <= 1099511627776) (h : parP l = .ok c) : c.ops.length <= 4096 /\ ∀ o ∈ c.ops, o.qs.length <= 1000000000000000 := by
  unfold parP at h
  cases hS : scanAll l with
  | bad F => rw [hS] at h; cases h
  | ok us =>
    rw [hS] at h
    simp only at h
    have hp : Pg us := ⟨(scan_fine hS hl).ends, scan_lines _ l 0 (1, 1) us hS (Nat.le_refl _), (scan_fine hS hl).len⟩
    cases hP : pProg us with
    | no c t => rw [hP] at h; cases h
    | ok s r =>
      rw [hP] at h
      cases h
      unfold pProg at hP
      have h1 := gd_pExp 1 (kwX 0) us hp
      cases e1 : pExp 1 (kwX 0) us with
      | no c t => rw [e1] at hP; cases hP
      | ok u1 ts1 =>
      rw [e1] at hP h1
      simp only at hP
      have h2 := gd_pExp 3 [50, 46, 48] ts1 h1
      cases e2 : pExp 3 [50, 46, 48] ts1 with
      | no c t => rw [e2] at hP; cases hP
      | ok u2 ts2 =>
      rw [e2] at hP h2
      simp only at hP
      have h3 := gd_pMks [[59]] ts2 h2
      cases e3 : pMks [[59]] ts2 with
      | no c t => rw [e3] at hP; cases hP
      | ok u3 ts3 =>
      rw [e3] at hP h3
      simp only at hP
      have := stmts_iv _ _ _ _ _ ⟨dc0_ok, fun x g hg => (by cases hg), Nat.zero_le _, fun o ho => (by simp at ho)⟩ h3 hP
      exact ⟨this.len, this.qs⟩
end Go.Proofs.YtnghfdnlcnocjaaGreatDoor.Cir
