import Derived.Test.YtnghfdnlcnocjaaGreatDoorE4bbab4c0
namespace Go.Proofs.YtnghfdnlcnocjaaGreatDoor.Cir
open Go.Proofs.YtnghfdnlcnocjaaGreatDoor.Tok Go.Proofs.YtnghfdnlcnocjaaGreatDoor.Gt
def blockX : Nm := [98, 108, 111, 99, 107]
def nnX (i : Nat) : Nm := 110 :: Lib.itoa (i : Int)
theorem nn_cut (i : Nat) (h : i <= 64) : cut (nnX i) = .tok 1 (nnX i) 0 (nnX i).length :=
  (by decide +kernel : ∀ j : Fin 65, cut (nnX j.1) = .tok 1 (nnX j.1) 0 (nnX j.1).length) ⟨i, by omega⟩
theorem nn_rsv (i : Nat) (h : i <= 64) : rsv (nnX i) = false :=
  (by decide +kernel : ∀ j : Fin 65, rsv (nnX j.1) = false) ⟨i, by omega⟩
theorem nn_inj {i j : Nat} (hi : i <= 64) (hj : j <= 64) (h : nnX i = nnX j) : i = j := by
  unfold nnX at h
  have h' : Lib.itoa (i : Int) = Lib.itoa (j : Int) := (List.cons.inj h).2
  have e := num_cut i hi
  rw [h', num_cut j hj] at e
  injection e with _ _ e
  exact e.symm
def nsT : List Nat -> List T
  | [] => []
  | [i] => [tk 1 (nnX i) 0]
  | i :: j :: r => tk 1 (nnX i) 0 :: tk 5 [44] 0 :: nsT (j :: r)
theorem nsT_len : ∀ qs : List Nat, qs.length <= (nsT qs).length
  | [] => Nat.le_refl _
  | [i] => by simp [nsT]
  | i :: j :: r => by
    have := nsT_len (j :: r)
    rw [nsT]
    simp only [List.length_cons] at *
    omega
theorem row_names : ∀ (qs : List Nat) (acc : List Nm) (f : Nat) (rest : List T), qs ≠ [] -> qs.length <= f -> (∀ i ∈ qs, i <= 64) -> qs.Nodup -> (∀ i ∈ qs, nnX i ∉ acc) -> isT 5 [44] (hd rest) = false -> pRow oneName f acc (nsT qs ++ rest) = .ok (acc ++ qs.map nnX) rest
  | [], _, _, _, h, _, _, _, _, _ => absurd rfl h
  | [i], acc, f, rest, _, hf, hq, _, ha, hc => by
    obtain ⟨f, rfl⟩ : ∃ x, f = x + 1 := ⟨f - 1, by simp at hf; omega⟩
    unfold pRow nsT oneName
    rw [List.cons_append, List.nil_append, nam_one _ _ (nn_rsv i (hq i (by simp)))]
    simp only [show (tk 1 (nnX i) 0).text = nnX i from rfl]
    rw [if_neg (by simpa using ha i (by simp))]
    simp only
    rw [hc]
    simp
  | i :: j :: r, acc, f, rest, _, hf, hq, hn, ha, hc => by
    obtain ⟨f, rfl⟩ : ∃ x, f = x + 1 := ⟨f - 1, by simp at hf; omega⟩
    unfold pRow oneName
    rw [nsT, List.cons_append, List.cons_append, nam_one _ _ (nn_rsv i (hq i (by simp)))]
    simp only [show (tk 1 (nnX i) 0).text = nnX i from rfl]
    rw [if_neg (by simpa using ha i (by simp))]
    simp only
    rw [hd_tk, isT_tk, if_pos (by simp), tl_tk _ _ _ _ (by decide)]
    have ih := row_names (j :: r) (acc ++ [nnX i]) f rest (by simp) (by simp at hf ⊢; omega) (fun x hx => hq x (by simp at hx ⊢; exact .inr hx)) (List.nodup_cons.1 hn).2 (fun x hx hm => by
      rcases List.mem_append.1 hm with hm | hm
      . exact ha x (by simp at hx ⊢; exact .inr hx) hm
      . have e := List.mem_singleton.1 hm
        have : x = i := nn_inj (hq x (by simp at hx ⊢; exact .inr hx)) (hq i (by simp)) e
        subst this
        exact (List.nodup_cons.1 hn).1 hx) hc
    unfold oneName at ih
    rw [ih]
    simp
theorem ix_names : ∀ (n s i : Nat), s <= i -> i < s + n -> s + n <= 65 -> ixN ((List.range' s n).map nnX) (nnX i) = some (i - s)
  | 0, s, i, h1, h2, _ => by omega
  | n + 1, s, i, h1, h2, h3 => by
    rw [List.range'_succ, List.map_cons, ixN]
    by_cases e : i = s
    . subst e
      rw [if_pos rfl]
      simp
    . rw [if_neg (fun h => e (nn_inj (by omega) (by omega) h)), ix_names n (s + 1) i (by omega) (by omega) (by omega)]
      simp
      omega
theorem ix_name (q i : Nat) (hq : q <= 64) (h : i < q) : ixN ((List.range q).map nnX) (nnX i) = some i := by
  rw [List.range_eq_range']
  have := ix_names q 0 i (by omega) (by omega) (by omega)
  simpa using this
theorem row_given {q : Nat} (hq64 : q <= 64) : ∀ (qs acc : List Nat) (f : Nat) (rest : List T), qs ≠ [] -> qs.length <= f -> (∀ i ∈ qs, i < q) -> isT 5 [44] (hd rest) = false -> pRow (fun _ => oneGiven ((List.range q).map nnX)) f acc (nsT qs ++ rest) = .ok (acc ++ qs) rest
  | [], _, _, _, h, _, _, _ => absurd rfl h
  | [i], acc, f, rest, _, hf, hq, hc => by
    obtain ⟨f, rfl⟩ : ∃ x, f = x + 1 := ⟨f - 1, by simp at hf; omega⟩
    have hi := hq i (by simp)
    unfold pRow nsT oneGiven
    rw [List.cons_append, List.nil_append, nam_one _ _ (nn_rsv i (by omega))]
    simp only [show (tk 1 (nnX i) 0).text = nnX i from rfl, ix_name q i hq64 hi]
    rw [hc]
    simp
  | i :: j :: r, acc, f, rest, _, hf, hq, hc => by
    obtain ⟨f, rfl⟩ : ∃ x, f = x + 1 := ⟨f - 1, by simp at hf; omega⟩
    have hi := hq i (by simp)
    have ih := row_given hq64 (j :: r) (acc ++ [i]) f rest (by simp) (by simp at hf ⊢; omega) (fun x hx => hq x (by simp at hx ⊢; exact .inr hx)) hc
    unfold pRow
    rw [nsT, List.cons_append, List.cons_append]
    rw [show oneGiven ((List.range q).map nnX) (tk 1 (nnX i) 0 :: tk 5 [44] 0 :: (nsT (j :: r) ++ rest)) = .ok i (tk 5 [44] 0 :: (nsT (j :: r) ++ rest)) by
      unfold oneGiven
      rw [nam_one _ _ (nn_rsv i (by omega))]
      simp only [show (tk 1 (nnX i) 0).text = nnX i from rfl, ix_name q i hq64 hi]]
    simp only
    rw [hd_tk, isT_tk, if_pos (by simp), tl_tk _ _ _ _ (by decide), ih]
    simp
theorem given_all {q : Nat} (hq64 : q <= 64) (qs : List Nat) (rest : List T) (h : qs ≠ []) (hq : ∀ i ∈ qs, i < q) : pGiven ((List.range q).map nnX) (nsT qs ++ (tk 5 [59] 0 :: rest)) = .ok qs rest := by
  unfold pGiven
  rw [row_given hq64 qs [] _ (tk 5 [59] 0 :: rest) h (by have := nsT_len qs; rw [List.length_append]; omega) hq (by rw [hd_tk, isT_tk]; decide)]
  simp only [List.nil_append]
  rw [mk_one]
theorem inner_gate {d : Dc} {q : Nat} (hq64 : q <= 64) (body : List PO) (k : Nat) (h1 : 1 <= k) (h2 : k <= 20) (qs : List Nat) (hl : qs.length = (rw' (k : Int)).q.toNat) (hne : qs ≠ []) (hd' : qs.Nodup) (hr : ∀ i ∈ qs, i < q) (hn : body.length < 4096) (rest : List T) :
    pInner d ((List.range q).map nnX) body (tk 1 (rw' (k : Int)).nm 0 :: (nsT qs ++ (tk 5 [59] 0 :: rest))) = .ok (body ++ [⟨1, k, qs⟩]) rest := by
  obtain ⟨f1, f2⟩ := nm_facts k h1 h2
  have hb : isT 1 barX (tk 1 (rw' (k : Int)).nm 0) = false := by
    rw [isT_tk]
    have := rsv_ne f1 8 (by decide)
    exact beq_eq_false_iff_ne.2 this
  unfold pInner
  simp only [hd_tk, tl_tk _ _ _ _ (show (1 : Nat) ≠ 0 by decide), hb, Bool.false_eq_true, if_false]
  unfold pCallee gOfD
  rw [if_pos (by unfold isN tk; simp [f1])]
  simp only [show (tk 1 (rw' (k : Int)).nm 0).text = (rw' (k : Int)).nm from rfl, f2, if_true]
  rw [given_all hq64 qs rest hne hr]
  simp only
  rw [if_neg (by show ¬ (¬ qs.Nodup ∨ qs.length ≠ (rw' (k : Int)).q.toNat); rw [hl]; simp [hd']), if_neg (by show ¬ 4096 < body.length + 1; omega)]
  simp only [sng, List.map_cons, List.map_nil, onP, ← hl, pk_range, Int.toNat_natCast]
theorem inner_bar {d : Dc} {q : Nat} (hq64 : q <= 64) (body : List PO) (qs : List Nat) (hne : qs ≠ []) (hd' : qs.Nodup) (hr : ∀ i ∈ qs, i < q) (hn : body.length < 4096) (rest : List T) :
    pInner d ((List.range q).map nnX) body (tk 1 (kwX 8) 0 :: (nsT qs ++ (tk 5 [59] 0 :: rest))) = .ok (body ++ [⟨4, 0, qs⟩]) rest := by
  have hb : isT 1 barX (tk 1 (kwX 8) 0) = true := by decide
  unfold pInner
  simp only [hd_tk, tl_tk _ _ _ _ (show (1 : Nat) ≠ 0 by decide), hb, if_true]
  rw [given_all hq64 qs rest hne hr]
  simp only
  rw [if_neg (by show ¬ (¬ qs.Nodup ∨ qs.length ≠ qs.length); simp [hd']), if_neg (by show ¬ 4096 < body.length + 1; omega)]
  simp only [sng, List.map_cons, List.map_nil, onP, pk_range]
def Pl (o : COp) : Prop := o.kind = 4 ∨ (o.kind = 1 /\ o.cond = -1)
def dopT (o : COp) : List T := if o.kind = 4 then tk 1 (kwX 8) 0 :: (nsT (o.qs.map Int.toNat) ++ [tk 5 [59] 0]) else tk 1 (rw' o.gate).nm 0 :: (nsT (o.qs.map Int.toNat) ++ [tk 5 [59] 0])
def poO (o : COp) : PO := if o.kind = 4 then ⟨4, 0, o.qs.map Int.toNat⟩ else ⟨1, o.gate.toNat, o.qs.map Int.toNat⟩
theorem may_bar {q : Nat} {b : Int} {o : COp} (h : mayP (q : Int) b o = true) (hk : o.kind = 4) : o = ⟨4, 0, o.qs, 0, -1, 0⟩ /\ o.qs ≠ [] /\ apaP o.qs (q : Int) = true := by
  obtain ⟨kind, gate, qs, bit, cond, whn⟩ := o
  simp only at hk
  subst hk
  unfold mayP at h
  simp only [show ¬ (4 : Int) = 1 by decide, show ¬ (4 : Int) = 2 by decide, show ¬ (4 : Int) = 3 by decide, if_false, if_true, noGP, freeP, Bool.and_eq_true, decide_eq_true_eq] at h
  obtain ⟨⟨⟨⟨h1, h2, h3⟩, h4⟩, h5⟩, h6⟩ := h
  subst h1 h2 h3 h6
  exact ⟨rfl, fun e => by simp only at e; rw [e] at h4; simp at h4, h5⟩
theorem may_gate {q : Nat} {b : Int} {o : COp} (h : mayP (q : Int) b o = true) (hk : o.kind = 1) (hc : o.cond = -1) : o = ⟨1, o.gate, o.qs, 0, -1, 0⟩ /\ chkP o.gate o.qs (q : Int) = 0 := by
  obtain ⟨kind, gate, qs, bit, cond, whn⟩ := o
  simp only at hk hc
  subst hk hc
  unfold mayP at h
  simp only [if_true, Bool.and_eq_true, Bool.or_eq_true, decide_eq_true_eq] at h
  obtain ⟨⟨h1, h2⟩, h3⟩ := h
  subst h2
  have hw : whn = 0 := by
    rcases h3 with e | e
    . unfold freeP at e
      simpa using e
    . unfold askP at e
      rw [Bool.and_eq_true] at e
      have := wi_in e.1
      simp only at this
      omega
  subst hw
  exact ⟨rfl, h1⟩
theorem inner_op {d : Dc} {q : Nat} (hq64 : q <= 64) (body : List PO) {b : Int} {o : COp} (h : mayP (q : Int) b o = true) (hp : Pl o) (hn : body.length < 4096) (rest : List T) :
    pInner d ((List.range q).map nnX) body (dopT o ++ rest) = .ok (body ++ [poO o]) rest := by
  unfold dopT poO
  rcases hp with hk | ⟨hk, hc⟩
  . obtain ⟨-, h1, h2⟩ := may_bar h hk
    obtain ⟨e1, e2, e3⟩ := apa_in h2
    rw [if_pos hk, if_pos hk]
    have := inner_bar (d := d) hq64 body (o.qs.map Int.toNat) (by simpa using h1) e2 e3 hn rest
    simpa using this
  . obtain ⟨-, h1⟩ := may_gate h hk hc
    have h4 : ¬ o.kind = 4 := by omega
    rw [if_neg h4, if_neg h4]
    obtain ⟨n, e, g1, g2, g3, g4, g5, g6, g7⟩ := chk_in h1
    rw [e]
    have := inner_gate (d := d) hq64 body n g1 g2 (o.qs.map Int.toNat) g3 g4 g5 g6 hn rest
    simpa using this
theorem dopT_hd (o : COp) (r : List T) : isT 5 [125] (hd (dopT o ++ r)) = false := by
  unfold dopT
  split <;> simp [hd, tk, isT]
theorem dopT_len (o : COp) : 1 <= (dopT o).length := by
  unfold dopT
  split <;> simp
theorem dops_len : ∀ ops : List COp, ops.length <= (ops.flatMap dopT).length
  | [] => Nat.zero_le _
  | o :: r => by
    have := dops_len r
    have := dopT_len o
    rw [List.flatMap_cons, List.length_append, List.length_cons]
    omega
theorem body_ops {d : Dc} {q : Nat} {b : Int} (hq64 : q <= 64) (rest : List T) : ∀ (ops : List COp) (body : List PO) (f : Nat), (∀ o ∈ ops, mayP (q : Int) b o = true /\ Pl o) -> body.length + ops.length <= 4096 -> ops.length < f -> pBody d ((List.range q).map nnX) f body (ops.flatMap dopT ++ (tk 5 [125] 0 :: rest)) = .ok (body ++ ops.map poO) (tk 5 [125] 0 :: rest)
  | [], body, f, _, _, hf => by
    obtain ⟨f, rfl⟩ : ∃ x, f = x + 1 := ⟨f - 1, by omega⟩
    unfold pBody
    simp only [List.flatMap_nil, List.nil_append]
    rw [if_pos (by rw [hd_tk, isT_tk]; decide)]
    simp
  | o :: r, body, f, hm, hn, hf => by
    obtain ⟨f, rfl⟩ : ∃ x, f = x + 1 := ⟨f - 1, by omega⟩
    rw [List.length_cons] at hn hf
    unfold pBody
    rw [List.flatMap_cons, List.append_assoc, dopT_hd, if_neg (by simp), inner_op hq64 body (hm o (by simp)).1 (hm o (by simp)).2 (by omega)]
    simp only
    rw [body_ops hq64 rest r (body ++ [poO o]) f (fun x hx => hm x (by simp [hx])) (by simp; omega) (by omega)]
    simp
theorem st_define (s : St) {q : Nat} {b : Int} (hq0 : 0 < q) (hq64 : q <= 64) (ops : List COp) (hm : ∀ o ∈ ops, mayP (q : Int) b o = true /\ Pl o) (hn : ops.length <= 4096) (ht : taken s.d blockX = false) (rest : List T) :
    pStmt s (tk 1 (kwX 4) 0 :: tk 1 blockX 0 :: (nsT (List.range q) ++ (tk 5 [123] 0 :: (ops.flatMap dopT ++ (tk 5 [125] 0 :: rest))))) = .ok ⟨⟨s.d.q, s.d.b, put s.d.defs blockX ⟨q, ops.map poO⟩⟩, s.ops⟩ rest := by
  unfold pStmt
  simp only [hd_tk, tl_tk _ _ _ _ (show (1 : Nat) ≠ 0 by decide)]
  rw [if_neg (by simp [tk]), if_neg (by decide), if_neg (by decide), if_neg (by decide), if_pos (by decide)]
  unfold pDefine pNew
  rw [nam_one _ _ (by decide)]
  simp only [show (tk 1 blockX 0).text = blockX from rfl, ht, Bool.false_eq_true, if_false]
  unfold pNames
  rw [row_names (List.range q) [] _ _ (by simp; omega) (by have := nsT_len (List.range q); rw [List.length_append]; omega) (fun i hi => by have := List.mem_range.1 hi; omega) List.nodup_range (fun _ _ h => nomatch h) (by rw [hd_tk, isT_tk]; decide)]
  simp only [List.nil_append]
  rw [mk_one]
  simp only
  rw [body_ops hq64 rest ops [] _ hm (by simpa using hn) (by have := dops_len ops; rw [List.length_append]; omega)]
  simp only [List.nil_append]
  rw [mk_one]
  simp [Res.map]
theorem st_block (s : St) {q : Nat} (hq0 : 0 < q) (body : List PO) (hf : s.d.q.find [113] = some ⟨0, q⟩) (hD : s.d.defs blockX = some ⟨q, body⟩) (hn : s.ops.length + body.length <= 4096) (rest : List T) :
    pStmt s (tk 1 blockX 0 :: (argsT (List.range q) ++ (tk 5 [59] 0 :: rest))) = .ok ⟨s.d, s.ops ++ layP (-1, 0) body (List.range q)⟩ rest := by
  unfold pStmt
  simp only [hd_tk, tl_tk _ _ _ _ (show (1 : Nat) ≠ 0 by decide)]
  rw [if_neg (by simp [tk]), if_neg (by decide), if_neg (by decide), if_neg (by decide), if_neg (by decide), if_neg (by decide), if_neg (by decide), if_neg (by decide), if_neg (by decide)]
  unfold pCall pCallee gOfD
  rw [if_pos (by decide)]
  simp only [show (tk 1 blockX 0).text = blockX from rfl]
  rw [if_neg (by decide +kernel), hD]
  simp only
  rw [args_all hf (List.range q) rest (by simp; omega) (fun i hi => List.mem_range.1 hi)]
  simp only
  rw [calls_elems _ List.nodup_range]
  simp only
  rw [if_neg (by simp), if_neg (by simp; omega)]
  simp [Res.map]
theorem pk_id {q : Nat} {ns : List Nat} (h : ∀ i ∈ ns, i < q) : pk (List.range q) ns = ns := by
  unfold pk
  refine (List.map_congr_left fun i hi => ?_).trans (List.map_id ns)
  have := h i hi
  simp [List.getD, this]
theorem lay_back {q : Nat} {b : Int} : ∀ ops : List COp, (∀ o ∈ ops, mayP (q : Int) b o = true /\ Pl o) -> layP (-1, 0) (ops.map poO) (List.range q) = ops
  | [], _ => rfl
  | o :: r, h => by
    have ih := lay_back r (fun x hx => h x (by simp [hx]))
    unfold layP at ih ⊢
    rw [List.map_cons, List.map_cons, ih]
    congr 1
    obtain ⟨hm, hp⟩ := h o (by simp)
    rcases hp with hk | ⟨hk, hc⟩
    . obtain ⟨e, h1, h2⟩ := may_bar hm hk
      obtain ⟨e1, e2, e3⟩ := apa_in h2
      have hpo : poO o = ⟨4, 0, o.qs.map Int.toNat⟩ := by unfold poO; rw [if_pos hk]
      rw [hpo]
      unfold layO
      rw [if_neg (by show ¬ (4 : Nat) = 1; decide)]
      simp only
      rw [pk_id e3, e1]
      exact e.symm
    . obtain ⟨e, h1⟩ := may_gate hm hk hc
      obtain ⟨n, e', g1, g2, g3, g4, g5, g6, g7⟩ := chk_in h1
      have hpo : poO o = ⟨1, o.gate.toNat, o.qs.map Int.toNat⟩ := by unfold poO; rw [if_neg (by omega)]
      rw [hpo]
      unfold layO
      rw [if_pos rfl]
      simp only
      rw [pk_id g6, g7, e', Int.toNat_natCast, ← e']
      exact e.symm
theorem ex_five (n : Nat) (h : 5 <= n) : ∃ f, n = f + 1 + 1 + 1 + 1 + 1 := ⟨n - 5, by omega⟩
def dfT (q : Nat) (ops : List COp) : List T := tk 1 (kwX 0) 0 :: tk 3 [50, 46, 48] 0 :: tk 5 [59] 0 :: (tk 1 (kwX 1) 0 :: tk 4 incX 0 :: tk 5 [59] 0 :: (regT 2 113 q ++ (tk 1 (kwX 4) 0 :: tk 1 blockX 0 :: (nsT (List.range q) ++ (tk 5 [123] 0 :: (ops.flatMap dopT ++ (tk 5 [125] 0 :: (tk 1 blockX 0 :: (argsT (List.range q) ++ (tk 5 [59] 0 :: [tk 0 [] 0]))))))))))
theorem prog_def (q : Nat) (hq0 : 0 < q) (hq : q <= 64) {b : Int} (ops : List COp) (hm : ∀ o ∈ ops, mayP (q : Int) b o = true /\ Pl o) (hn : ops.length <= 4096) : ∃ d, pProg (dfT q ops) = .ok ⟨d, ops⟩ [tk 0 [] 0] /\ d.q.size = q /\ d.b.size = 0 := by
  unfold pProg dfT pExp
  rw [hd_tk, isT_tk, tl_tk _ _ _ _ (by decide), if_pos (by decide)]
  simp only
  rw [hd_tk, isT_tk, tl_tk _ _ _ _ (by decide), if_pos (by decide)]
  simp only
  rw [mk_one]
  simp only
  obtain ⟨f, hf⟩ : ∃ f, (tk 1 (kwX 1) 0 :: tk 4 incX 0 :: tk 5 [59] 0 :: (regT 2 113 q ++ (tk 1 (kwX 4) 0 :: tk 1 blockX 0 :: (nsT (List.range q) ++ (tk 5 [123] 0 :: (ops.flatMap dopT ++ (tk 5 [125] 0 :: (tk 1 blockX 0 :: (argsT (List.range q) ++ (tk 5 [59] 0 :: [tk 0 [] 0])))))))))).length + 1 = f + 1 + 1 + 1 + 1 + 1 := by
    refine ex_five _ ?_
    simp only [List.length_cons, List.length_append, regT]
    omega
  rw [hf, stmts_step (by simp [hd, tk]) (st_include _ _)]
  have tq : taken dc0 [113] = false := by decide +kernel
  rw [stmts_step (by simp [hd, tk, regT]) (st_qreg ⟨dc0, []⟩ q _ tq hq0 (by simpa [dc0] using hq))]
  have tb : taken (⟨⟨put dc0.q.find [113] ⟨dc0.q.size, q⟩, dc0.q.size + q⟩, dc0.b, dc0.defs⟩ : Dc) blockX = false := by
    unfold taken gOfD
    rw [show (ofP blockX).2 = 60 by decide +kernel]
    simp [dc0, put, blockX]
  rw [stmts_step (by simp [hd, tk]) (st_define ⟨⟨⟨put dc0.q.find [113] ⟨dc0.q.size, q⟩, dc0.q.size + q⟩, dc0.b, dc0.defs⟩, []⟩ hq0 hq ops hm hn tb _)]
  rw [stmts_step (by simp [hd, tk]) (st_block _ hq0 (ops.map poO) (by simp [put, dc0]) (by simp [put]) (by simpa using hn) _)]
  simp only [List.nil_append]
  rw [lay_back ops hm]
  exact ⟨⟨⟨put dc0.q.find [113] ⟨dc0.q.size, q⟩, dc0.q.size + q⟩, dc0.b, put dc0.defs blockX ⟨q, ops.map poO⟩⟩, by rw [pStmts, if_pos (by simp [hd, tk])], by simp [dc0], by simp [dc0]⟩
end Go.Proofs.YtnghfdnlcnocjaaGreatDoor.Cir
namespace Go.Proofs.YtnghfdnlcnocjaaGreatDoor.Cir
open Go.RowKit Go.Shelf Go.Proofs.YtnghfdnlcnocjaaGreatDoor.Oct Go.Proofs.YtnghfdnlcnocjaaGreatDoor.Tok Go.Proofs.YtnghfdnlcnocjaaGreatDoor.Gt
theorem join_snoc (sep y : List UInt8) : ∀ xs : List (List UInt8), xs ≠ [] -> Lib.join (xs ++ [y]) sep = Lib.join xs sep ++ sep ++ y
  | [], h => absurd rfl h
  | [x], _ => by simp [Lib.join, List.intercalate]
  | x :: z :: r, _ => by
    have ih := join_snoc sep y (z :: r) (by simp)
    have e1 : Lib.join (x :: z :: r) sep = x ++ sep ++ Lib.join (z :: r) sep := by simp [Lib.join, List.intercalate]
    have e2 : Lib.join ((x :: z :: r) ++ [y]) sep = x ++ sep ++ Lib.join ((z :: r) ++ [y]) sep := by simp [Lib.join, List.intercalate]
    rw [e1, e2, ih]
    simp
end Go.Proofs.YtnghfdnlcnocjaaGreatDoor.Cir
namespace Go.Proofs.YtnghfdnlcnocjaaGreatDoor.Cir
open Go.Proofs.YtnghfdnlcnocjaaGreatDoor.Tok Go.Proofs.YtnghfdnlcnocjaaGreatDoor.Gt
def nsPc (g : List UInt8) : List Nat -> List Pc
  | [] => []
  | [i] => [nmPc (nnX i) g]
  | i :: j :: r => nmPc (nnX i) [] :: mkPc [44] [32] :: nsPc g (j :: r)
theorem ns_txt (g : List UInt8) : ∀ qs : List Nat, qs ≠ [] -> pcT (nsPc g qs) = Lib.join (qs.map nnX) [44, 32] ++ g
  | [], h => absurd rfl h
  | [i], _ => by simp [nsPc, pcT, nmPc, Lib.join, List.intercalate]
  | i :: j :: r, _ => by
    rw [nsPc, pcT, pcT, ns_txt g (j :: r) (by simp)]
    simp [mkPc, nmPc, Lib.join, List.intercalate]
theorem ns_tok (g : List UInt8) : ∀ qs : List Nat, (nsPc g qs).map Pc.tok = (nsT qs).map tri
  | [] => rfl
  | [i] => rfl
  | i :: j :: r => by
    rw [nsPc, nsT, List.map_cons, List.map_cons, List.map_cons, List.map_cons, ns_tok g (j :: r)]
    rfl
theorem ns_pcs (g R : List UInt8) (hg : Gap g) (hs : Sep (g ++ R)) : ∀ qs : List Nat, (∀ i ∈ qs, i <= 64) -> PcR (nsPc g qs) R
  | [], _ => trivial
  | [i], h => ⟨by
      have := cut_ext (nnX i) (g ++ R) 1 (nnX i) 0 (nn_cut i (h i (by simp))) (by decide) hs
      simpa [nmPc, pcT] using this, by simp [nmPc], hg, trivial⟩
  | i :: j :: r, h => ⟨cut_ext (nnX i) _ 1 (nnX i) 0 (nn_cut i (h i (by simp))) (by decide) (sep_of 44 _ (by decide)), by simp [nmPc], gap_nil, cut_44 _, by simp [mkPc], gap_32, ns_pcs g R hg hs (j :: r) (fun x hx => h x (by simp at hx ⊢; exact .inr hx))⟩
def dopPc (o : COp) : List Pc := if o.kind = 4 then nmPc (kwX 8) [32] :: (nsPc [] (o.qs.map Int.toNat) ++ [endPc]) else nmPc (rw' o.gate).nm [32] :: (nsPc [] (o.qs.map Int.toNat) ++ [endPc])
theorem dop_tok (o : COp) : (dopPc o).map Pc.tok = (dopT o).map tri := by
  unfold dopPc dopT
  split
  . simp only [List.map_cons, List.map_append, ns_tok]
    rfl
  . simp only [List.map_cons, List.map_append, ns_tok]
    rfl
theorem dop_pcs {o : COp} (h : Sm o) (hp : Pl o) (R : List UInt8) : PcR (dopPc o) R := by
  unfold dopPc
  have key : PcR (nsPc [] (o.qs.map Int.toNat) ++ [endPc]) R := pcR_app _ _ _ (ns_pcs [] _ gap_nil (by
    show Sep ([] ++ (59 :: _))
    exact sep_of 59 _ (by decide)) _ h.le) (end_pc R)
  split
  . exact nm_pc (kw_cut 8 (by decide)) _ _ key
  . rename_i hk
    rcases hp with e | ⟨e, -⟩
    . exact absurd e hk
    . exact nm_pc (h.gate e) _ _ key
theorem dops_tok : ∀ ops : List COp, (ops.flatMap dopPc).map Pc.tok = (ops.flatMap dopT).map tri
  | [] => rfl
  | o :: r => by rw [List.flatMap_cons, List.flatMap_cons, List.map_append, List.map_append, dop_tok, dops_tok r]
theorem dops_pcs : ∀ (ops : List COp) (R : List UInt8), (∀ o ∈ ops, Sm o /\ Pl o) -> PcR (ops.flatMap dopPc) R
  | [], _, _ => trivial
  | o :: r, R, h => by
    rw [List.flatMap_cons]
    exact pcR_app _ _ _ (dop_pcs (h o (by simp)).1 (h o (by simp)).2 _) (dops_pcs r R (fun x hx => h x (by simp [hx])))
def dwrP (o : COp) : List UInt8 := (if o.kind = 4 then [98, 97, 114, 114, 105, 101, 114, 32] else (rw' o.gate).nm ++ [32]) ++ Lib.join ((o.qs.map Int.toNat).map nnX) [44, 32] ++ [59, 10]
theorem dop_txt {o : COp} (h : Sm o) : pcT (dopPc o) = dwrP o := by
  unfold dopPc dwrP
  split
  . rw [pcT, pcT_app, ns_txt _ _ h.ne]
    simp [nmPc, mkPc, endPc, pcT, kwX, rsvL]
  . rw [pcT, pcT_app, ns_txt _ _ h.ne]
    simp [nmPc, mkPc, endPc, pcT]
theorem dops_txt : ∀ ops : List COp, (∀ o ∈ ops, Sm o) -> pcT (ops.flatMap dopPc) = ops.flatMap dwrP
  | [], _ => rfl
  | o :: r, h => by rw [List.flatMap_cons, pcT_app, dop_txt (h o (by simp)), dops_txt r (fun x hx => h x (by simp [hx])), List.flatMap_cons]
def dfPc (q : Nat) (ops : List COp) : List Pc := hdPc q 0 ++ (nmPc (kwX 4) [32] :: nmPc blockX [32] :: (nsPc [32] (List.range q) ++ (mkPc [123] [32] :: (ops.flatMap dopPc ++ (mkPc [125] [10] :: nmPc blockX [32] :: (agPc [] (List.range q) ++ [endPc]))))))
theorem df_tok (q : Nat) (hq : 0 < q) (ops : List COp) : (dfPc q ops).map Pc.tok ++ [(0, [], 0)] = (dfT q ops).map tri := by
  unfold dfPc hdPc dfT
  simp only [hq, if_true, show ¬ 0 < 0 by decide, if_false, List.append_nil, List.cons_append, List.map_cons, List.map_append, List.append_assoc, dops_tok, ns_tok, ag_tok, reg_tok]
  rfl
theorem df_pcs (q : Nat) (hq0 : 0 < q) (hq : q <= 64) (ops : List COp) (h : ∀ o ∈ ops, Sm o /\ Pl o) : PcR (dfPc q ops) [] := by
  have hr : ∀ i ∈ List.range q, i <= 64 := fun i hi => by have := List.mem_range.1 hi; omega
  have cb : cut blockX = .tok 1 blockX 0 blockX.length := by decide +kernel
  unfold dfPc
  refine pcR_app _ _ _ ?_ ?_
  . unfold hdPc
    refine nm_pc (kw_cut 0 (by decide)) _ _ ⟨cut_ext [50, 46, 48] _ 3 [50, 46, 48] 0 cut_two (by decide) (sep_of 59 _ (by decide)), by decide, gap_nil, cut_59 _, by simp [endPc, mkPc], gap_10, nm_pc (kw_cut 1 (by decide)) _ _ ⟨cut_ext _ _ 4 incX 0 cut_inc (by decide) (sep_of 59 _ (by decide)), by decide, gap_nil, cut_59 _, by simp [endPc, mkPc], gap_10, pcR_app _ _ _ ?_ ?_⟩⟩
    . split
      . exact reg_pcs 2 (by decide) 113 cut_q q hq _
      . trivial
    . exact trivial
  . refine nm_pc (kw_cut 4 (by decide)) _ _ (nm_pc cb _ _ (pcR_app _ _ _ (ns_pcs [32] _ gap_32 (sep_of 32 _ (by decide)) _ hr) ⟨cut_123 _, by simp [mkPc], gap_32, pcR_app _ _ _ (dops_pcs ops _ h) ⟨cut_125 _, by simp [mkPc], gap_10, nm_pc cb _ _ (pcR_app _ _ _ (ag_pcs [] _ gap_nil _ hr) (end_pc []))⟩⟩))
def dfP (q : Nat) (ops : List COp) : List UInt8 := prP ⟨(q : Int), 0, []⟩ ++ [103, 97, 116, 101, 32, 98, 108, 111, 99, 107, 32] ++ Lib.join ((List.range q).map nnX) [44, 32] ++ [32, 123, 32] ++ ops.flatMap dwrP ++ [125, 10, 98, 108, 111, 99, 107, 32] ++ agP ((List.range q).map Int.ofNat) ++ [59, 10]
theorem df_txt (q : Nat) (hq0 : 0 < q) (ops : List COp) (h : ∀ o ∈ ops, Sm o) : pcT (dfPc q ops) = dfP q ops := by
  have hr : List.range q ≠ [] := by simp; omega
  have e1 : pcT (hdPc q 0) = prP ⟨(q : Int), 0, []⟩ := by
    have := cr_txt q 0 [] (fun _ h => nomatch h)
    unfold crPc at this
    simpa using this
  unfold dfPc dfP
  rw [pcT_app, e1, pcT, pcT, pcT_app, ns_txt _ _ hr, pcT, pcT_app, dops_txt ops h, pcT, pcT, pcT_app, ag_txt _ _ hr]
  simp [nmPc, mkPc, endPc, pcT, kwX, rsvL, blockX]
theorem par_def (q : Nat) (hq0 : 0 < q) (hq : q <= 64) (ops : List COp) (hm : ∀ o ∈ ops, mayP (q : Int) 0 o = true /\ Pl o) (hn : ops.length <= 4096) : parP (dfP q ops) = .ok ⟨(q : Int), 0, ops⟩ := by
  have hs : ∀ o ∈ ops, Sm o := fun o ho => sm_of (b := 0) hq (by omega) (hm o ho).1
  obtain ⟨ms, h1, h2⟩ := scan_pcs_all (dfPc q ops) (pcG_of _ (df_pcs q hq0 hq ops (fun o ho => ⟨hs o ho, (hm o ho).2⟩)))
  rw [df_txt q hq0 ops hs] at h1
  rw [df_tok q hq0] at h2
  have hE : E ms = E (dfT q ops) := tri_E _ _ h2
  obtain ⟨d, hp, hd1, hd2⟩ := prog_def q hq0 hq ops hm hn
  have e := (pProg_e ms).symm.trans ((congrArg pProg hE).trans (pProg_e (dfT q ops)))
  rw [hp] at e
  unfold parP
  rw [h1]
  simp only
  cases hr : pProg ms with
  | no c t => rw [hr] at e; cases e
  | ok s r =>
    rw [hr] at e
    simp only [Er, Res.ok.injEq] at e
    obtain ⟨rfl, -⟩ := e
    show PR.ok ⟨(d.q.size : Int), (d.b.size : Int), ops⟩ = _
    rw [hd1, hd2]
    rfl
def nmdP : List UInt8 -> List UInt8
  | [] => []
  | [c] => if c = 93 then [] else [c]
  | c :: e :: r => if c = 113 /\ e = 91 then 110 :: nmdP r else if c = 93 then nmdP (e :: r) else c :: nmdP (e :: r)
theorem nmd_cons (c : UInt8) (r : List UInt8) (h1 : c ≠ 113) (h2 : c ≠ 93) : nmdP (c :: r) = c :: nmdP r := by
  cases r with
  | nil => simp [nmdP, h2]
  | cons e r => rw [nmdP, if_neg (fun h => h1 h.1), if_neg h2]
theorem nmd_clean : ∀ (x R : List UInt8), (∀ b ∈ x, b ≠ 113 /\ b ≠ 93) -> nmdP (x ++ R) = x ++ nmdP R
  | [], _, _ => rfl
  | c :: r, R, h => by
    rw [List.cons_append, nmd_cons c _ (h c (by simp)).1 (h c (by simp)).2, nmd_clean r R (fun b hb => h b (by simp [hb])), List.cons_append]
theorem nmd_93 (R : List UInt8) : nmdP (93 :: R) = nmdP R := by
  cases R with
  | nil => rfl
  | cons e r => rw [nmdP, if_neg (fun h => absurd h.1 (by decide)), if_pos rfl]
theorem nmd_el (i : Nat) (hi : i <= 64) (R : List UInt8) : nmdP (elP 113 (i : Int) ++ R) = nnX i ++ nmdP R := by
  have hc : ∀ b ∈ Lib.itoa (i : Int), b ≠ 113 /\ b ≠ 93 := (by decide +kernel : ∀ j : Fin 65, ∀ b ∈ Lib.itoa ((j.1 : Nat) : Int), b ≠ 113 /\ b ≠ 93) ⟨i, by omega⟩
  unfold elP nnX
  simp only [List.cons_append, List.nil_append, List.append_assoc]
  rw [nmdP, if_pos (by decide), nmd_clean _ _ hc, nmd_93]
theorem nmd_ag (R : List UInt8) : ∀ qs : List Nat, qs ≠ [] -> (∀ i ∈ qs, i <= 64) -> nmdP (agP (qs.map Int.ofNat) ++ R) = Lib.join (qs.map nnX) [44, 32] ++ nmdP R
  | [], h, _ => absurd rfl h
  | [i], _, h => by
    have := nmd_el i (h i (by simp)) R
    simpa [agP, Lib.join, List.intercalate] using this
  | i :: j :: r, _, h => by
    have e1 : agP ((i :: j :: r).map Int.ofNat) = elP 113 (i : Int) ++ ([44, 32] ++ agP ((j :: r).map Int.ofNat)) := by simp [agP, Lib.join, List.intercalate]
    have e2 : Lib.join ((i :: j :: r).map nnX) [44, 32] = nnX i ++ ([44, 32] ++ Lib.join ((j :: r).map nnX) [44, 32]) := by simp [Lib.join, List.intercalate]
    rw [e1, e2, List.append_assoc, nmd_el i (h i (by simp)), List.append_assoc, nmd_clean _ _ (by decide), nmd_ag R (j :: r) (by simp) (fun x hx => h x (by simp at hx ⊢; exact .inr hx))]
    simp
theorem nm_clean (k : Nat) (h1 : 1 <= k) (h2 : k <= 20) : ∀ b ∈ (rw' (k : Int)).nm, b ≠ 113 /\ b ≠ 93 := by
  have h := (by decide +kernel : ∀ j : Fin 20, ∀ b ∈ (rw' ((j.1 + 1 : Nat) : Int)).nm, b ≠ 113 /\ b ≠ 93) ⟨k - 1, by omega⟩
  simp only [show k - 1 + 1 = k by omega] at h
  exact h
theorem nmd_op {q : Nat} (hq : q <= 64) {o : COp} (hm : mayP (q : Int) 0 o = true) (hp : Pl o) (R : List UInt8) : nmdP (wrP o ++ [59, 10] ++ R) = dwrP o ++ nmdP R := by
  have hs : Sm o := sm_of (b := 0) hq (by omega) hm
  have key : nmdP (agP o.qs ++ ([59, 10] ++ R)) = Lib.join ((o.qs.map Int.toNat).map nnX) [44, 32] ++ ([59, 10] ++ nmdP R) := by
    have := nmd_ag ([59, 10] ++ R) (o.qs.map Int.toNat) hs.ne hs.le
    rw [hs.id, nmd_clean [59, 10] R (by decide)] at this
    exact this
  unfold wrP dwrP
  rcases hp with hk | ⟨hk, hc⟩
  . simp only [hk, show ¬ (4 : Int) = 2 by decide, show ¬ (4 : Int) = 3 by decide, if_false, if_true]
    rw [List.append_assoc, List.append_assoc, nmd_clean _ _ (by decide), key]
    simp
  . obtain ⟨-, h1⟩ := may_gate hm hk hc
    obtain ⟨n, e', g1, g2, -⟩ := chk_in h1
    simp only [hk, hc, e', show ¬ (1 : Int) = 2 by decide, show ¬ (1 : Int) = 3 by decide, show ¬ (1 : Int) = 4 by decide, if_false, if_true]
    rw [List.append_assoc, List.append_assoc, List.append_assoc, nmd_clean _ _ (nm_clean n g1 g2), nmd_clean _ _ (by decide), key]
    simp
theorem nmd_ops {q : Nat} (hq : q <= 64) : ∀ ops : List COp, (∀ o ∈ ops, mayP (q : Int) 0 o = true /\ Pl o) -> nmdP ((ops.map wrP).flatMap (· ++ [59, 10])) = ops.flatMap dwrP
  | [], _ => rfl
  | o :: r, h => by
    rw [List.map_cons, List.flatMap_cons, nmd_op hq (h o (by simp)).1 (h o (by simp)).2, nmd_ops hq r (fun x hx => h x (by simp [hx])), List.flatMap_cons]
end Go.Proofs.YtnghfdnlcnocjaaGreatDoor.Cir
