import Derived.Test.YtnghfdnlcnocjaaGreatDoorE4f3e6e15
set_option maxRecDepth 100000
set_option maxHeartbeats 600000
namespace Go.Proofs.YtnghfdnlcnocjaaGreatDoor.Cir
open Go.RowKit Go.Shelf Go.Proofs.YtnghfdnlcnocjaaGreatDoor.Oct Go.Proofs.YtnghfdnlcnocjaaGreatDoor.Tok Go.Proofs.YtnghfdnlcnocjaaGreatDoor.Gt
theorem contains_ix : ∀ (l : List Nm) (x : Nm), l.contains x = (ixN l x).isSome
  | [], _ => rfl
  | a :: r, x => by
    rw [List.contains_cons, ixN]
    by_cases h : x = a
    . simp [h]
    . rw [if_neg h, Option.isSome_map, ← contains_ix r x]
      simp [h]
theorem ix_snoc : ∀ (l : List Nm) (x : Nm), ixN l x = none -> ∀ y, ixN (l ++ [x]) y = if y = x then some l.length else ixN l y
  | [], x, _, y => by simp [ixN]
  | a :: r, x, h, y => by
    rw [ixN] at h
    by_cases hx : x = a
    . rw [if_pos hx] at h; cases h
    . rw [if_neg hx] at h
      have h' : ixN r x = none := by simpa using h
      have ih := ix_snoc r x h' y
      rw [List.cons_append, ixN, ixN, ih]
      by_cases hy : y = a
      . rw [if_pos hy, if_pos hy, if_neg (by intro e; exact hx (by rw [← e, hy]))]
      . rw [if_neg hy, if_neg hy]
        by_cases hyx : y = x
        . simp [hyx]
        . simp [hyx]
theorem ix_lt : ∀ (l : List Nm) (x : Nm) (n : Nat), ixN l x = some n -> n < l.length
  | [], _, _, h => by simp [ixN] at h
  | a :: r, x, n, h => by
    rw [ixN] at h
    by_cases hx : x = a
    . rw [if_pos hx] at h; cases h; simp
    . rw [if_neg hx] at h
      cases hr : ixN r x with
      | none => simp [hr] at h
      | some m =>
        have := ix_lt r x m hr
        simp [hr] at h
        subst h
        simp
        exact this
def NM (w : World) (b : Nat) (ns : List Nm) : Prop := ∃ D : DataW Value, w.ownsMap Tryz.prog 9 hv b ns.length D /\ Maps.size D = ns.length /\ ∀ x, Maps.has D (.string x) = (ixN ns x).isSome /\ ∀ z, D.atKey (.string x) z = match ixN ns x with
  | some n => .held (iv n)
  | none => z
theorem zInt (w : World) : (zeroValue 3).run Tryz.prog w = .ok (.int .i64 0) w := by kernel_rfl
namespace NM
variable {w w' : World} {b : Nat} {ns : List Nm}
theorem mp (h : NM w b ns) : Mp w b ns.length (fun x => (ixN ns x).map iv) := by
  obtain ⟨D, h1, _, h3⟩ := h
  refine ⟨D, h1, fun x => ⟨by rw [(h3 x).1, Option.isSome_map], fun z => ?_⟩⟩
  rw [(h3 x).2]
  show _ = match (ixN ns x).map iv with
    | some v => DataW.held v
    | none => z
  cases ixN ns x <;> rfl
theorem new (w : World) : NM (w.alloc (.map #[] 0)) w.heap.size [] := ⟨.map [], World.ownsMap_made w _ _ _, rfl, fun _ => ⟨rfl, fun _ => rfl⟩⟩
theorem of_block (h : NM w b ns) (e : w'.heap[b]? = w.heap[b]?) : NM w' b ns := by
  obtain ⟨D, ⟨es, cl, hb, r⟩, k⟩ := h
  exact ⟨D, ⟨es, cl, e.trans hb, r⟩, k⟩
theorem lt (h : NM w b ns) : b < w.heap.size := h.mp.lt
theorem below (h : NM w b ns) (hb : Below w.heap.size w w') : NM w' b ns := h.of_block (hb.block b h.lt)
theorem kept {M : List Nat} (h : NM w b ns) (hk : Kb M w w') (hm : b ∉ M) : NM w' b ns := h.of_block (hk.block b h.lt hm)
theorem ne (h : NM w b ns) {k : Nat} {cs : Array Value} {t : TypeId} {fr : Nat × Nat} (hk : w.heap[k]? = some (.cells cs t fr)) : b ≠ k := h.mp.ne hk
theorem look (h : NM w b ns) (x : Nm) (hx : x.length <= 140737488355328) :
    (Instr.lookup 169 (.map (some b)) (.string ⟨x.toArray⟩) true).run Tryz.prog w = .ok (.tuple #[iv ((ixN ns x).getD 0), .bool (ixN ns x).isSome]) w := by
  rw [h.mp.look Tryz.underlying169 (zInt w) x hx]
  cases ixN ns x <;> rfl
theorem len (h : NM w b ns) (ty : TypeId) : (Builtin.len_ #[169] ty #[.map (some b)]).run Tryz.prog w = .ok (.int .i64 (ns.length : Int)) w := by
  obtain ⟨D, h1, h2, _⟩ := h
  rw [h1.len Tryz.underlying169 ty, h2]
theorem store (h : NM w b ns) (hn : ns.length < 140737488355328) (x : Nm) (hx : x.length <= 140737488355328) (hno : ixN ns x = none) :
    ∃ w', (Instr.mapUpdate 169 (.map (some b)) (.string ⟨x.toArray⟩) (.int .i64 (ns.length : Int))).run Tryz.prog w = .ok () w' /\ NM w' b (ns ++ [x]) /\ w.grownBy w' (some b) := by
  obtain ⟨D, h1, h2, k⟩ := h
  obtain ⟨w', hr, ho, hg⟩ := h1.update strK Tryz.underlying169 (by unfold maxLen; omega) (keyS x hx) (show hv (.int .i64 (ns.length : Int)) = _ from rfl)
  have hm : Maps.IsMap D := h1.isMap
  have ht := h1.tidy strK
  refine ⟨w', hr, ⟨_, by rw [List.length_append]; exact ho, ?_, fun y => ?_⟩, hg⟩
  . rw [Maps.size_put ht, (k x).1, hno, h2, List.length_append]
    rfl
  . rw [ix_snoc ns x hno y]
    by_cases e : y = x
    . subst e
      simp only [if_true]
      exact ⟨Maps.has_put_same hm (isKey _) _, fun z => Maps.atKey_put_same hm (isKey _) _ z⟩
    . simp only [if_neg e]
      have ne : (Lit.string y) ≠ Lit.string x := fun h => e (by cases h; rfl)
      exact ⟨(Maps.has_put_other ne _).trans (k y).1, fun z => (Maps.atKey_put_other ne _ z).trans ((k y).2 z)⟩
end NM
theorem oneName_lt {acc : List Nm} {ts : List T} {x : Nm} {ts' : List T} (h : oneName acc ts = .ok x ts') : ts'.length < ts.length := by
  unfold oneName at h
  split at h
  . cases h
  . rename_i h1
    split at h
    . cases h
    . simp only [Res.ok.injEq] at h
      rw [← h.2]
      exact pNam_lt h1
structure JN (w0 W : World) (R : Nat) (L : Ly) (B N : Nat) (d : Dc) (o : Value) (br bm mm : Nat) (acc : List Nm) (ts : List T) (w : World) : Prop where
  rt : Rt w R (xOf L d) o ts
  rd : Rdr w0 w R L B N d
  kb : Kb [R] W w
  box : w.heap[br]? = some (.cells #[.pointer (some ⟨R, 0, none⟩)] 115 (0, 0))
  bxm : w.heap[bm]? = some (.cells #[.map (some mm)] 169 (0, 0))
  nm : NM w mm acc
  len : acc.length + ts.length <= 4398046511104 + 1
theorem cNames1 (w0 W : World) (R : Nat) (L : Ly) (B N : Nat) (d : Dc) (o : Value) (br bm mm : Nat) (hRW : R < W.heap.size) (h1 : W.heap.size <= br) (h2 : W.heap.size <= bm) (h3 : W.heap.size <= mm) (h4 : L.mq < W.heap.size /\ L.mb < W.heap.size /\ L.md < W.heap.size) (acc : List Nm) (ts : List T) (w : World) (hJ : JN w0 W R L B N d o br bm mm acc ts w) :
    Calls Tryz.prog 131 #[.pointer (some ⟨br, 0, none⟩), .pointer (some ⟨bm, 0, none⟩)] w (P11 (JN w0 W R L B N d o br bm mm) (fun w' => Kb [R] W w' /\ w'.cell? ⟨bm, 0, none⟩ = some (.map (some mm))) acc (oneName acc ts)) := by
  have c1 := cName R (xOf L d) o ts w hJ.rt
  have eG := erG
  have eN := erN
  have hTx := hJ.rt.fine.hd
  have hb0 : w.cell? ⟨br, 0, none⟩ = some (.pointer (some ⟨R, 0, none⟩)) := cell_of_row _ _ 0 _ _ _ hJ.box
  have hltb : br < w.heap.size := (Array.getElem?_eq_some_iff.1 hJ.box).1
  have hltm : bm < w.heap.size := (Array.getElem?_eq_some_iff.1 hJ.bxm).1
  unfold oneName
  cases hP : pNam ts with
  | no c t =>
    rw [hP] at c1
    go_enter Tryz.func131, Tryz.ntmps131
    go_wp2_with (first | (go_at_call 128; refine c1.mono ?_; rintro e w1 ⟨rfl, -, hk1⟩; unfold tkV))
    go_ret
    exact ⟨rfl, (hJ.kb.trans hk1).alloc _, cell_of_row _ _ 0 _ _ _ ((Below.heap_alloc _ _ _ (by have := hk1.size; omega)).trans ((hk1.block bm hltm (by simp; omega)).trans hJ.bxm))⟩
  | ok t ts' =>
    have hlt1 := pNam_lt hP
    obtain ⟨rfl, rfl⟩ := pNam_ok hP
    rw [hP] at c1
    simp only [contains_ix]
    generalize hd ts = t at *
    clear hP
    have c3 := fun W => cRefuse 83 t W
    have hL := fun W' (h : NM W' mm acc) => h.look t.text (by omega)
    have hst := fun W' (h : NM W' mm acc) (hn : ixN acc t.text = none) => h.store (by have := hJ.len; omega) t.text (by omega) hn
    obtain ⟨kind, text, num, o', line, col⟩ := t
    unfold tkV at c1 c3
    simp only at c1 c3 hL hst ⊢
    have hne : bm ≠ R := by omega
    cases hi : ixN acc text with
    | some n =>
      rw [hi] at hL
      simp only [Option.isSome_some, Option.getD_some, if_true] at hL ⊢
      unfold iv at hL
      go_enter Tryz.func131, Tryz.ntmps131
      go_wp2_with (first
        | (go_at_call 128; refine c1.mono ?_; rintro e w1 ⟨rfl, hr1, hk1⟩; have hLL := hL _ ((hJ.nm.kept hk1 (by simp; omega)).below (bnew w1 (.cells #[.int .i64 (kind : Int), .string ⟨text.toArray⟩, .int .i64 (num : Int), .int .i64 (o' : Int), .int .i64 (line : Int), .int .i64 (col : Int)] 100))); have hm1 : w1.cell? ⟨bm, 0, none⟩ = some (.map (some mm)) := cell_of_row _ _ 0 _ _ _ ((hk1.block bm hltm (by simpa using hne)).trans hJ.bxm); have hz1 : bm < w1.heap.size := World.block_lt_of_cell? _ _ hm1)
        | (go_at_call 87; refine (c3 _).mono ?_; rintro e w3 ⟨rfl, hb3⟩))
      go_ret
      exact ⟨rfl, ((hJ.kb.trans hk1).alloc _).then_below hb3, (hb3.cell (p := ⟨bm, 0, none⟩) (by simp; omega)).trans (((bnew _ _).cell (p := ⟨bm, 0, none⟩) hz1).trans hm1)⟩
    | none =>
      rw [hi] at hL
      simp only [Option.isSome_none, Option.getD_none, Bool.false_eq_true, if_false] at hL ⊢
      unfold iv at hL
      go_enter Tryz.func131, Tryz.ntmps131
      go_wp2_with (first
        | (go_at_call 128; refine c1.mono ?_; rintro e w1 ⟨rfl, hr1, hk1⟩; have hN1 := (hJ.nm.kept hk1 (by simp; omega)).below (bnew w1 (.cells #[.int .i64 (kind : Int), .string ⟨text.toArray⟩, .int .i64 (num : Int), .int .i64 (o' : Int), .int .i64 (line : Int), .int .i64 (col : Int)] 100)); have hLL := hL _ hN1; have hle := hN1.len; obtain ⟨w2, hu, hN2, hg2⟩ := hst _ hN1 hi; have hm1 : w1.cell? ⟨bm, 0, none⟩ = some (.map (some mm)) := cell_of_row _ _ 0 _ _ _ ((hk1.block bm hltm (by simpa using hne)).trans hJ.bxm); have hz1 : bm < w1.heap.size := World.block_lt_of_cell? _ _ hm1))
      go_ret
      have hD1 := (hJ.rd.turn hJ.rt hk1).below (bnew w1 (.cells #[.int .i64 (kind : Int), .string ⟨text.toArray⟩, .int .i64 (num : Int), .int .i64 (o' : Int), .int .i64 (line : Int), .int .i64 (col : Int)] 100))
      have hR1 := hr1.below (bnew w1 (.cells #[.int .i64 (kind : Int), .string ⟨text.toArray⟩, .int .i64 (num : Int), .int .i64 (o' : Int), .int .i64 (line : Int), .int .i64 (col : Int)] 100))
      have hX1 := (Below.heap_alloc w1 (.cells #[.int .i64 (kind : Int), .string ⟨text.toArray⟩, .int .i64 (num : Int), .int .i64 (o' : Int), .int .i64 (line : Int), .int .i64 (col : Int)] 100) br (by have := hk1.size; omega)).trans ((hk1.block br hltb (by simp; omega)).trans hJ.box)
      have hX2 := (Below.heap_alloc w1 (.cells #[.int .i64 (kind : Int), .string ⟨text.toArray⟩, .int .i64 (num : Int), .int .i64 (o' : Int), .int .i64 (line : Int), .int .i64 (col : Int)] 100) bm hz1).trans ((hk1.block bm hltm (by simp; omega)).trans hJ.bxm)
      have hK1 := (hJ.kb.trans hk1).alloc (.cells #[.int .i64 (kind : Int), .string ⟨text.toArray⟩, .int .i64 (num : Int), .int .i64 (o' : Int), .int .i64 (line : Int), .int .i64 (col : Int)] 100)
      generalize (w1.alloc (.cells #[.int .i64 (kind : Int), .string ⟨text.toArray⟩, .int .i64 (num : Int), .int .i64 (o' : Int), .int .i64 (line : Int), .int .i64 (col : Int)] 100)) = V at *
      have hKm : Kb [mm] V w2 := (Kb.refl _ _).grown hg2 (fun k hk => by cases hk; exact .inl (by simp))
      obtain ⟨tcs, tfr, htb⟩ := hR1.btB
      have h0 := hJ.rd.R0
      refine ⟨rfl, hR1.kept (hKm.block R hR1.lt (by simp; omega)) (hKm.block _ hR1.bt (by simpa using (hN1.ne htb).symm)), hD1.kept hKm ?_ (by intro m hm; simp at hm; subst hm; omega) (by simp; omega) (by simp; omega) (by simp; omega), hK1.grown hg2 (fun k hk => .inr (by cases hk; exact h3)),
        (hKm.block br (Array.getElem?_eq_some_iff.1 hX1).1 (by simpa using (hN1.ne hX1).symm)).trans hX1, (hKm.block bm (Array.getElem?_eq_some_iff.1 hX2).1 (by simpa using (hN1.ne hX2).symm)).trans hX2, hN2, ?_⟩
      . intro m hm cs t fr hg
        rw [List.mem_singleton] at hm
        exact absurd hm (fun e => (hN1.ne hg) e.symm)
      . have := hJ.len
        rw [List.length_append]
        simp
        omega
theorem eNames1 : ∀ args w, (callFunc 131 args).run Tryz.prog w = .ok (.enter 131 args) w := enters_of Tryz.func131 (by kernel_rfl) rfl
def PN (R : Nat) (x : X) (o : Value) (w : World) (P : Res (List Nm)) (e : Ending) (w' : World) : Prop := match P with
  | .ok l ts' => ∃ mm, e = .returned (.tuple #[.map (some mm), .nilIface]) /\ NM w' mm l /\ w.heap.size <= mm /\ l.length <= 4398046511104 /\ Rt w' R x o ts' /\ Kb [R] w w'
  | .no c t => (∃ mm, e = .returned (.tuple #[.map (some mm), erV c t])) /\ Kb [R] w w'
theorem cNames (w0 : World) (R : Nat) (L : Ly) (B N : Nat) (d : Dc) (o : Value) (ts : List T) (w : World) (hD : Rdr w0 w R L B N d) (hR : Rt w R (xOf L d) o ts) :
    Calls Tryz.prog 108 #[.pointer (some ⟨R, 0, none⟩)] w (PN R (xOf L d) o w (pNames ts)) := by
  have hlt := hR.lt
  have hmk := @run_makeMap Tryz.prog
  obtain ⟨V, hV⟩ : ∃ V, V = (((w.alloc (.cells #[.pointer (some ⟨R, 0, none⟩)] 115)).alloc (.map #[] 0)).alloc (.cells #[.map (some (w.heap.size + 1))] 169)) := ⟨_, rfl⟩
  have hb1 : Below w.heap.size w ((w.alloc (.cells #[.pointer (some ⟨R, 0, none⟩)] 115)).alloc (.map #[] 0)) := (bnew _ _).trans ((bnew _ _).mono (by simp))
  have hb2 : Below w.heap.size w V := by rw [hV]; exact hb1.trans ((bnew _ _).mono hb1.size)
  have hJ0 : JN w0 w R L B N d o w.heap.size (w.heap.size + 2) (w.heap.size + 1) [] ts V := by
    refine ⟨hR.below hb2, hD.below hb2, Kb.of_below hb2, ?_, ?_, ?_, ?_⟩
    . rw [hV]
      exact (Below.heap_alloc _ _ _ (by simp; omega)).trans ((Below.heap_alloc _ _ _ (by simp)).trans (heap_alloc_new _ _))
    . rw [hV]
      have := heap_alloc_new ((w.alloc (.cells #[.pointer (some ⟨R, 0, none⟩)] 115)).alloc (.map #[] 0)) (.cells #[.map (some (w.heap.size + 1))] 169)
      simpa using this
    . rw [hV]
      have := NM.new (w.alloc (.cells #[.pointer (some ⟨R, 0, none⟩)] 115))
      rw [World.size_alloc] at this
      exact this.below (bnew _ _)
    . have := hR.fine.len
      simp
      omega
  have h4 : L.mq < w.heap.size /\ L.mb < w.heap.size /\ L.md < w.heap.size := by
    obtain ⟨n, _, m1⟩ := hD.mq
    obtain ⟨n2, _, m2⟩ := hD.mb
    obtain ⟨vs, m3, _⟩ := hD.md
    exact ⟨m1.lt, m2.lt, m3.lt⟩
  have c1 := cRow R (xOf L d) o 131 #[.pointer (some ⟨w.heap.size, 0, none⟩), .pointer (some ⟨w.heap.size + 2, 0, none⟩)] eNames1 oneName (JN w0 w R L B N d o w.heap.size (w.heap.size + 2) (w.heap.size + 1)) (fun w' => Kb [R] w w' /\ w'.cell? ⟨w.heap.size + 2, 0, none⟩ = some (.map (some (w.heap.size + 1))))
    (fun acc ts w1 h => cNames1 w0 w R L B N d o _ _ _ hlt (Nat.le_refl _) (by omega) (by omega) h4 acc ts w1 h)
    (fun acc ts w1 h => h.rt)
    (fun acc ts ts' w1 w2 h hle hk hr => by
      have l1 := (Array.getElem?_eq_some_iff.1 h.box).1
      have l2 := (Array.getElem?_eq_some_iff.1 h.bxm).1
      refine ⟨hr, h.rd.turn h.rt hk, h.kb.trans hk, (hk.block _ l1 (by simp; omega)).trans h.box, (hk.block _ l2 (by simp; omega)).trans h.bxm, h.nm.kept hk (by simp; omega), ?_⟩
      have := h.len
      omega)
    (fun _ _ _ _ h => Nat.le_of_lt (oneName_lt h)) ts V hJ0
  unfold pNames
  rw [hV] at c1
  clear hV hJ0 hb2
  cases h1 : pRow oneName (ts.length + 1) [] ts with
  | no c t =>
    rw [h1] at c1
    go_enter Tryz.func108, Tryz.ntmps108
    go_wp2_with (first | (go_at_call 130; refine c1.mono ?_; rintro e w1 ⟨rfl, hk1, hm1⟩))
    go_ret2
    exact ⟨⟨_, rfl⟩, hk1⟩
  | ok l ts1 =>
    rw [h1] at c1
    go_enter Tryz.func108, Tryz.ntmps108
    go_wp2_with (first | (go_at_call 130; refine c1.mono ?_; rintro e w1 ⟨rfl, hj1⟩; have hm1 : w1.cell? ⟨w.heap.size + 2, 0, none⟩ = some (.map (some (w.heap.size + 1))) := cell_of_row _ _ 0 _ _ _ hj1.bxm))
    go_ret2
    refine ⟨_, rfl, hj1.nm, by omega, ?_, hj1.rt, hj1.kb⟩
    have := hj1.len
    have := List.length_pos_iff.2 hj1.rt.fine.ends.ne
    omega
theorem oneGiven_lt {names : List Nm} {ts : List T} {x : Nat} {ts' : List T} (h : oneGiven names ts = .ok x ts') : ts'.length < ts.length /\ x < names.length := by
  unfold oneGiven at h
  split at h
  . cases h
  . rename_i h1
    split at h
    . cases h
    . rename_i h2
      simp only [Res.ok.injEq] at h
      rw [← h.2, ← h.1]
      exact ⟨pNam_lt h1, ix_lt _ _ _ h2⟩
structure JG (w0 W : World) (R : Nat) (L : Ly) (B N : Nat) (d : Dc) (o : Value) (br bm mm bl : Nat) (names : List Nm) (acc : List Nat) (ts : List T) (w : World) : Prop where
  rt : Rt w R (xOf L d) o ts
  rd : Rdr w0 w R L B N d
  kb : Kb [R] W w
  box : w.heap[br]? = some (.cells #[.pointer (some ⟨R, 0, none⟩)] 115 (0, 0))
  bxm : w.heap[bm]? = some (.cells #[.map (some mm)] 169 (0, 0))
  nm : NM w mm names
  row : ∃ ao c, w.heap[bl]? = some (.cells #[.slice ao acc.length c] 32 (0, 0)) /\ w.ownsRow W.heap.size 3 1 (.slice ao acc.length c) acc.length (acc.map iv)
  lt : ∀ i ∈ acc, i < names.length
  len : acc.length + ts.length <= 4398046511104 + 1
theorem cGiven1 (w0 W : World) (R : Nat) (L : Ly) (B N : Nat) (d : Dc) (o : Value) (br bm mm bl : Nat) (names : List Nm) (hRW : R < W.heap.size) (hBW : B <= W.heap.size) (h1 : W.heap.size <= br) (h2 : W.heap.size <= bm) (h5 : W.heap.size <= bl) (h3 : mm ≠ R) (h6 : br ≠ bl /\ bm ≠ bl) (acc : List Nat) (ts : List T) (w : World) (hJ : JG w0 W R L B N d o br bm mm bl names acc ts w) :
    Calls Tryz.prog 153 #[.pointer (some ⟨br, 0, none⟩), .pointer (some ⟨bm, 0, none⟩), .pointer (some ⟨bl, 0, none⟩)] w (P11 (JG w0 W R L B N d o br bm mm bl names) (fun w' => Kb [R] W w') acc (oneGiven names ts)) := by
  have c1 := cName R (xOf L d) o ts w hJ.rt
  have eG := erG
  have eN := erN
  have hTx := hJ.rt.fine.hd
  obtain ⟨ao, c, hbl, hown⟩ := hJ.row
  have hb0 : w.cell? ⟨br, 0, none⟩ = some (.pointer (some ⟨R, 0, none⟩)) := cell_of_row _ _ 0 _ _ _ hJ.box
  have hltb : br < w.heap.size := (Array.getElem?_eq_some_iff.1 hJ.box).1
  have hltm : bm < w.heap.size := (Array.getElem?_eq_some_iff.1 hJ.bxm).1
  have hltl : bl < w.heap.size := (Array.getElem?_eq_some_iff.1 hbl).1
  unfold oneGiven
  cases hP : pNam ts with
  | no c t =>
    rw [hP] at c1
    go_enter Tryz.func153, Tryz.ntmps153
    go_wp2_with (first | (go_at_call 128; refine c1.mono ?_; rintro e w1 ⟨rfl, -, hk1⟩; unfold tkV))
    go_ret
    exact ⟨rfl, (hJ.kb.trans hk1).alloc _⟩
  | ok t ts' =>
    have hlt1 := pNam_lt hP
    obtain ⟨rfl, rfl⟩ := pNam_ok hP
    rw [hP] at c1
    simp only
    generalize hd ts = t at *
    clear hP
    have c3 := fun W => cRefuse 82 t W
    have hL := fun W' (h : NM W' mm names) => h.look t.text (by omega)
    obtain ⟨kind, text, num, o', line, col⟩ := t
    unfold tkV at c1 c3
    simp only at c1 c3 hL ⊢
    have hne : bm ≠ R := by omega
    have hnel : bl ≠ R := by omega
    cases hi : ixN names text with
    | none =>
      rw [hi] at hL
      simp only [Option.isSome_none, Option.getD_none] at hL ⊢
      unfold iv at hL
      go_enter Tryz.func153, Tryz.ntmps153
      go_wp2_with (first
        | (go_at_call 128; refine c1.mono ?_; rintro e w1 ⟨rfl, hr1, hk1⟩; have hLL := hL _ ((hJ.nm.kept hk1 (by simpa using h3)).below (bnew w1 (.cells #[.int .i64 (kind : Int), .string ⟨text.toArray⟩, .int .i64 (num : Int), .int .i64 (o' : Int), .int .i64 (line : Int), .int .i64 (col : Int)] 100))); have hm1 : w1.cell? ⟨bm, 0, none⟩ = some (.map (some mm)) := cell_of_row _ _ 0 _ _ _ ((hk1.block bm hltm (by simpa using hne)).trans hJ.bxm); have hz1 : bm < w1.heap.size := World.block_lt_of_cell? _ _ hm1)
        | (go_at_call 87; refine (c3 _).mono ?_; rintro e w3 ⟨rfl, hb3⟩))
      go_ret
      exact ⟨rfl, ((hJ.kb.trans hk1).alloc _).then_below hb3⟩
    | some n =>
      rw [hi] at hL
      simp only [Option.isSome_some, Option.getD_some] at hL ⊢
      unfold iv at hL
      have hnn := ix_lt _ _ _ hi
      have hlen := hJ.len
      go_enter Tryz.func153, Tryz.ntmps153
      go_wp2_with (first
        | (go_at_call 128; refine c1.mono ?_; rintro e w1 ⟨rfl, hr1, hk1⟩; have hzz := hk1.size; have hN1 := (hJ.nm.kept hk1 (by simpa using h3)).below (bnew w1 (.cells #[.int .i64 (kind : Int), .string ⟨text.toArray⟩, .int .i64 (num : Int), .int .i64 (o' : Int), .int .i64 (line : Int), .int .i64 (col : Int)] 100)); have hLL := hL _ hN1; have hm1 : w1.cell? ⟨bm, 0, none⟩ = some (.map (some mm)) := cell_of_row _ _ 0 _ _ _ ((hk1.block bm hltm (by simpa using hne)).trans hJ.bxm); have hz1 : bm < w1.heap.size := World.block_lt_of_cell? _ _ hm1; have hl1 : w1.cell? ⟨bl, 0, none⟩ = some (.slice ao acc.length c) := cell_of_row _ _ 0 _ _ _ ((hk1.block bl hltl (by simpa using hnel)).trans hbl); have hz2 : bl < w1.heap.size := World.block_lt_of_cell? _ _ hl1; have hVo := (own_kept hown hk1 (by omega)).alloc (.cells #[.int .i64 (kind : Int), .string ⟨text.toArray⟩, .int .i64 (num : Int), .int .i64 (o' : Int), .int .i64 (line : Int), .int .i64 (col : Int)] 100))
        | (at_builtin; refine push rfl _ _ 32 rfl 3 Tryz.underlying32 _ 1 8 infoI rfl (by decide) W.heap.size ao acc.length c _ rfl hVo [.int .i64 (n : Int)] _ rfl rfl (by simp [Value.oneCell']) _ (by simp) rfl (by omega) (by omega) (by have := hJ.kb.size; simp; omega) ?_))
      intro g6 cap w6 hown6 hgrow6 hat6
      have hV := (Below.heap_alloc w1 (.cells #[.int .i64 (kind : Int), .string ⟨text.toArray⟩, .int .i64 (num : Int), .int .i64 (o' : Int), .int .i64 (line : Int), .int .i64 (col : Int)] 100) bl hz2).trans ((hk1.block bl hltl (by simpa using hnel)).trans hbl)
      have hK1 : Kb [R] w (w1.alloc (.cells #[.int .i64 (kind : Int), .string ⟨text.toArray⟩, .int .i64 (num : Int), .int .i64 (o' : Int), .int .i64 (line : Int), .int .i64 (col : Int)] 100)) := hk1.alloc _
      have hR1 := hr1.below (bnew w1 (.cells #[.int .i64 (kind : Int), .string ⟨text.toArray⟩, .int .i64 (num : Int), .int .i64 (o' : Int), .int .i64 (line : Int), .int .i64 (col : Int)] 100))
      have hneb : some bl ≠ ob ao := (own_ne hown hbl (by decide)).symm
      clear hLL
      generalize (w1.alloc (.cells #[.int .i64 (kind : Int), .string ⟨text.toArray⟩, .int .i64 (num : Int), .int .i64 (o' : Int), .int .i64 (line : Int), .int .i64 (col : Int)] 100)) = V at *
      have hlV : bl < V.heap.size := (Array.getElem?_eq_some_iff.1 hV).1
      have h6' := (hgrow6.block bl hlV hneb).trans hV
      have e0 : w6.cell? ⟨bl, 0, none⟩ = some (.slice ao acc.length c) := cell_of_row _ _ 0 _ _ _ h6'
      have ef : w6.frozen? ⟨bl, 0, none⟩ = false := by simp [World.frozen?, h6']
      go_wp2_with fail
      go_ret
      have hne6 : g6 ≠ bl := fun e => own_ne hown6 h6' (by decide) (by rw [e]; rfl)
      have hVs := hK1.size
      have hWw := hJ.kb.size
      have hR6 : some R ≠ ob ao := fun e => by have := (own_lt hown R e.symm).1; omega
      obtain ⟨tcs, tfr, htb⟩ := hR1.btB
      have hB6 : some L.bt ≠ ob ao := (own_ne hVo htb (by decide)).symm
      have hBb : L.bt ≠ bl := fun e => by
        rw [show (xOf L d).bt = bl from e, hV] at htb
        simp at htb
      refine ⟨rfl, hR1.kept ((Below.heap_setCell _ _ _ _ (by simp; omega)).trans (hgrow6.block R hR1.lt hR6)) ((Below.heap_setCell _ _ _ _ hBb).trans (hgrow6.block L.bt hR1.bt hB6)), ?_,
        ((hJ.kb.trans hK1).grown hgrow6 (fun k hk => .inr (own_lt hVo k hk).1)).setCell (.inr h5) _, ?_, ?_, ?_, ⟨some ⟨g6, 0, none⟩, cap, ?_, ?_⟩, ?_, ?_⟩
      . refine hJ.rd.more (M := bl :: (ob ao).toList) hJ.rt ((hK1.mono (by simp)).grown hgrow6 (fun k hk => .inl (by simp [hk])) |>.setCell (.inl (by simp)) _) ?_
        intro m hm
        have h0R := hJ.rd.R0
        rcases List.mem_cons.1 hm with e | e
        . subst e
          exact ⟨by omega, _, _, _, hbl, fun e => absurd e (by decide), fun e => absurd e (by decide)⟩
        . have hk : ob ao = some m := by simpa using e
          obtain ⟨cs, fr, hg⟩ := own_cells hown hk
          have := (own_lt hown m hk).1
          exact ⟨by omega, cs, _, fr, hg, fun _ => by omega, fun e => absurd e (by decide)⟩
      . exact (Below.heap_setCell _ _ _ _ h6.1).trans ((hgrow6.block br (by omega) (own_ne hown hJ.box (by decide)).symm).trans ((hK1.block br hltb (by simp; omega)).trans hJ.box))
      . exact (Below.heap_setCell _ _ _ _ h6.2).trans ((hgrow6.block bm (by omega) (own_ne hown hJ.bxm (by decide)).symm).trans ((hK1.block bm hltm (by simp; omega)).trans hJ.bxm))
      . have hmo : some mm ≠ ob ao := fun e => by
          obtain ⟨cs, fr, hg⟩ := own_cells hVo e.symm
          exact hN1.ne hg rfl
        exact hN1.of_block ((Below.heap_setCell _ _ _ _ (hN1.ne hV)).trans (hgrow6.block mm hN1.lt hmo))
      . rw [List.length_append, setCell_eq_setRow _ _ 0 _ _ _ _ h6']
        exact setRow_heap _ _ _ _ _ _ h6'
      . rw [List.length_append, List.map_append]
        exact own_of_block (by simpa [iv] using hown6) (fun k hk => Below.heap_setCell _ _ _ _ (by simp [ob] at hk; subst hk; exact hne6))
      . intro i hi
        rcases List.mem_append.1 hi with h | h
        . exact hJ.lt i h
        . rw [List.mem_singleton] at h; omega
      . rw [List.length_append]; simp; omega
theorem eGiven1 : ∀ args w, (callFunc 153 args).run Tryz.prog w = .ok (.enter 153 args) w := enters_of Tryz.func153 (by kernel_rfl) rfl
def PG (R : Nat) (x : X) (o : Value) (w : World) (names : List Nm) (P : Res (List Nat)) (e : Ending) (w' : World) : Prop := match P with
  | .ok l ts' => ∃ ao c, e = .returned (.tuple #[.slice ao l.length c, .nilIface]) /\ w'.ownsRow w.heap.size 3 1 (.slice ao l.length c) l.length (l.map iv) /\ (∀ i ∈ l, i < names.length) /\ l.length <= 4398046511104 /\ Rt w' R x o ts' /\ Kb [R] w w'
  | .no c t => (∃ ao n c', e = .returned (.tuple #[.slice ao n c', erV c t])) /\ Kb [R] w w'
theorem cGiven (w0 : World) (R : Nat) (L : Ly) (B N : Nat) (d : Dc) (o : Value) (mm : Nat) (names : List Nm) (ts : List T) (w : World) (hD : Rdr w0 w R L B N d) (hR : Rt w R (xOf L d) o ts) (hN : NM w mm names) :
    Calls Tryz.prog 132 #[.pointer (some ⟨R, 0, none⟩), .map (some mm)] w (PG R (xOf L d) o w names (pGiven names ts)) := by
  have hlt := hR.lt
  have eG := erG
  have eN := erN
  obtain ⟨⟨v, hbR, _⟩, _⟩ := id hR
  have hmR : mm ≠ R := hN.ne hbR
  have hb1 : Below w.heap.size w ((w.alloc (.cells #[.pointer (some ⟨R, 0, none⟩)] 115)).alloc (.cells #[.map (some mm)] 169)) := (bnew _ _).trans ((bnew _ _).mono (by simp))
  have hb2 : Below w.heap.size w (((w.alloc (.cells #[.pointer (some ⟨R, 0, none⟩)] 115)).alloc (.cells #[.map (some mm)] 169)).alloc (.cells #[.slice none 0 0] 32)) := hb1.trans ((bnew _ _).mono hb1.size)
  have hJ0 : JG w0 w R L B N d o w.heap.size (w.heap.size + 1) mm (w.heap.size + 2) names [] ts (((w.alloc (.cells #[.pointer (some ⟨R, 0, none⟩)] 115)).alloc (.cells #[.map (some mm)] 169)).alloc (.cells #[.slice none 0 0] 32)) := by
    refine ⟨hR.below hb2, hD.below hb2, Kb.of_below hb2, ?_, ?_, hN.below hb2, ⟨none, 0, ?_, World.ownsRow_nil _ _ _ _⟩, fun i hi => absurd hi List.not_mem_nil, ?_⟩
    . exact (Below.heap_alloc _ _ _ (by simp; omega)).trans ((Below.heap_alloc _ _ _ (by simp)).trans (heap_alloc_new _ _))
    . refine (Below.heap_alloc _ _ _ (by simp)).trans ?_
      have := heap_alloc_new (w.alloc (.cells #[.pointer (some ⟨R, 0, none⟩)] 115)) (.cells #[.map (some mm)] 169)
      simpa using this
    . have := heap_alloc_new ((w.alloc (.cells #[.pointer (some ⟨R, 0, none⟩)] 115)).alloc (.cells #[.map (some mm)] 169)) (.cells #[.slice none 0 0] 32)
      simpa using this
    . have := hR.fine.len
      simp
      omega
  have c1 := cRow R (xOf L d) o 153 #[.pointer (some ⟨w.heap.size, 0, none⟩), .pointer (some ⟨w.heap.size + 1, 0, none⟩), .pointer (some ⟨w.heap.size + 2, 0, none⟩)] eGiven1 (fun _ => oneGiven names) (JG w0 w R L B N d o w.heap.size (w.heap.size + 1) mm (w.heap.size + 2) names) (fun w' => Kb [R] w w')
    (fun acc ts w1 h => cGiven1 w0 w R L B N d o _ _ _ _ names hlt hD.hB (Nat.le_refl _) (by omega) (by omega) hmR ⟨by omega, by omega⟩ acc ts w1 h) (fun acc ts w1 h => h.rt)
    (fun acc ts ts' w1 w2 h hle hk hr => by
      obtain ⟨ao, c, h1, h2⟩ := h.row
      have l1 := (Array.getElem?_eq_some_iff.1 h.box).1
      have l2 := (Array.getElem?_eq_some_iff.1 h1).1
      have l3 := (Array.getElem?_eq_some_iff.1 h.bxm).1
      refine ⟨hr, h.rd.turn h.rt hk, h.kb.trans hk, (hk.block _ l1 (by simp; omega)).trans h.box, (hk.block _ l3 (by simp; omega)).trans h.bxm, h.nm.kept hk (by simpa using hmR), ⟨ao, c, (hk.block _ l2 (by simp; omega)).trans h1, own_kept h2 hk hlt⟩, h.lt, ?_⟩
      have := h.len
      omega)
    (fun _ _ _ _ h => Nat.le_of_lt (oneGiven_lt h).1) ts _ hJ0
  clear hJ0 hbR
  unfold pGiven
  cases h1 : pRow (fun _ => oneGiven names) (ts.length + 1) [] ts with
  | no c t =>
    rw [h1] at c1
    go_enter Tryz.func132, Tryz.ntmps132
    go_wp2_with (first | (go_at_call 130; refine c1.mono ?_; rintro e w1 ⟨rfl, hk1⟩))
    go_ret2
    exact ⟨⟨_, _, _, rfl⟩, hk1⟩
  | ok l ts1 =>
    rw [h1] at c1
    simp only
    have c3 := fun W (h : Rt W R (xOf L d) o ts1) => cMark1 R (xOf L d) o ts1 [59] W h
    cases h2 : pMks [[59]] ts1 with
    | no c t =>
      rw [h2] at c3
      go_enter Tryz.func132, Tryz.ntmps132
      go_wp2_with (first | (go_at_call 130; refine c1.mono ?_; rintro e w1 ⟨rfl, hj1⟩; obtain ⟨ao, cc, hbl, hown⟩ := hj1.row; have hbr := hj1.box; have c4 : Calls Tryz.prog 58 #[.pointer (some ⟨R, 0, none⟩), .slice (some ⟨w1.heap.size, 0, none⟩) 1 1] (w1.alloc (.cells #[.string ⟨#[59]⟩] 9)).drew (PT R (xOf L d) o w1.drew (fun _ => .nilIface) id (.no c t)) := c3 w1.drew hj1.rt))
      have hl1 := (Array.getElem?_eq_some_iff.1 hbr).1
      have hl2 := (Array.getElem?_eq_some_iff.1 hbl).1
      have hS0 : SB R w.heap.size (w.heap.size + 2) (.slice ao l.length cc) w1 := ⟨cell_of_row _ _ 0 _ _ _ hbl, cell_of_row _ _ 0 _ _ _ hbr⟩
      have HS0 : Hid (SB R w.heap.size (w.heap.size + 2) (.slice ao l.length cc) w1.drew) := hide hS0
      have HS1 : Hid (∀ o', SB R w.heap.size (w.heap.size + 2) (.slice ao l.length cc) (w1.alloc o').drew) := hide (fun o' => ⟨((bnew w1 o').cell (p := ⟨w.heap.size + 2, 0, none⟩) hl2).trans hS0.1, ((bnew w1 o').cell (p := ⟨w.heap.size, 0, none⟩) hl1).trans hS0.2⟩)
      have HS2 : Hid (∀ w2, Kb [R] w1.drew w2 -> SB R w.heap.size (w.heap.size + 2) (.slice ao l.length cc) w2) := hide (fun w2 hk => ⟨(hk.undrew.cell (p := ⟨w.heap.size + 2, 0, none⟩) hl2 (by simp; omega)).trans hS0.1, (hk.undrew.cell (p := ⟨w.heap.size, 0, none⟩) hl1 (by simp; omega)).trans hS0.2⟩)
      clear hS0
      go_region_held3 (fun V => V.cell? ⟨w.heap.size + 2, 0, none⟩ = some (.slice ao l.length cc) /\ V.cell? ⟨w.heap.size, 0, none⟩ = some (.pointer (some ⟨R, 0, none⟩)))
        (first | (with_reducible exact HS0.out) | (with_reducible exact HS1.out _) | (with_reducible assumption))
        (first | (go_at_call 58; (with_reducible refine Calls.mono c4 ?_); rintro e w2 ⟨rfl, hn2, hk2⟩; have hS := HS2.out w2 hk2))
      go_wp2_with fail
      go_ret2
      exact ⟨⟨_, _, _, rfl⟩, hj1.kb.trans hk2.undrew⟩
    | ok u ts2 =>
      rw [h2] at c3
      go_enter Tryz.func132, Tryz.ntmps132
      go_wp2_with (first | (go_at_call 130; refine c1.mono ?_; rintro e w1 ⟨rfl, hj1⟩; obtain ⟨ao, cc, hbl, hown⟩ := hj1.row; have hbr := hj1.box; have c4 : Calls Tryz.prog 58 #[.pointer (some ⟨R, 0, none⟩), .slice (some ⟨w1.heap.size, 0, none⟩) 1 1] (w1.alloc (.cells #[.string ⟨#[59]⟩] 9)).drew (PT R (xOf L d) o w1.drew (fun _ => .nilIface) id (.ok u ts2)) := c3 w1.drew hj1.rt))
      have hl1 := (Array.getElem?_eq_some_iff.1 hbr).1
      have hl2 := (Array.getElem?_eq_some_iff.1 hbl).1
      have hS0 : SB R w.heap.size (w.heap.size + 2) (.slice ao l.length cc) w1 := ⟨cell_of_row _ _ 0 _ _ _ hbl, cell_of_row _ _ 0 _ _ _ hbr⟩
      have HS0 : Hid (SB R w.heap.size (w.heap.size + 2) (.slice ao l.length cc) w1.drew) := hide hS0
      have HS1 : Hid (∀ o', SB R w.heap.size (w.heap.size + 2) (.slice ao l.length cc) (w1.alloc o').drew) := hide (fun o' => ⟨((bnew w1 o').cell (p := ⟨w.heap.size + 2, 0, none⟩) hl2).trans hS0.1, ((bnew w1 o').cell (p := ⟨w.heap.size, 0, none⟩) hl1).trans hS0.2⟩)
      have HS2 : Hid (∀ w2, Kb [R] w1.drew w2 -> SB R w.heap.size (w.heap.size + 2) (.slice ao l.length cc) w2) := hide (fun w2 hk => ⟨(hk.undrew.cell (p := ⟨w.heap.size + 2, 0, none⟩) hl2 (by simp; omega)).trans hS0.1, (hk.undrew.cell (p := ⟨w.heap.size, 0, none⟩) hl1 (by simp; omega)).trans hS0.2⟩)
      clear hS0
      go_region_held3 (fun V => V.cell? ⟨w.heap.size + 2, 0, none⟩ = some (.slice ao l.length cc) /\ V.cell? ⟨w.heap.size, 0, none⟩ = some (.pointer (some ⟨R, 0, none⟩)))
        (first | (with_reducible exact HS0.out) | (with_reducible exact HS1.out _) | (with_reducible assumption))
        (first | (go_at_call 58; (with_reducible refine Calls.mono c4 ?_); rintro e w2 ⟨rfl, hr2, hk2⟩; have hS := HS2.out w2 hk2))
      go_wp2_with fail
      go_ret2
      exact ⟨ao, cc, rfl, own_kept hown hk2.undrew hlt, hj1.lt, by have := hj1.len; have := List.length_pos_iff.2 hj1.rt.fine.ends.ne; omega, hr2, hj1.kb.trans hk2.undrew⟩
end Go.Proofs.YtnghfdnlcnocjaaGreatDoor.Cir
