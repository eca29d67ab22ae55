import Derived.Test.YtnghfdnlcnocjaaGreatDoorE25bfe7cd
import Derived.Test.YtnghfdnlcnocjaaGreatDoorE0f41c879
set_option maxRecDepth 100000
set_option maxHeartbeats 2000000
namespace Go.Proofs.YtnghfdnlcnocjaaGreatDoor.Cir
open Go.RowKit Go.Shelf Go.Proofs.YtnghfdnlcnocjaaGreatDoor.Oct Go.Proofs.YtnghfdnlcnocjaaGreatDoor.Tok Go.Proofs.YtnghfdnlcnocjaaGreatDoor.Gt
theorem pRow_len {α : Type} {one : List α -> List T -> Res α} (h : ∀ acc ts a ts', one acc ts = .ok a ts' -> ts'.length <= ts.length) : ∀ {f : Nat} {acc : List α} {ts : List T} {l : List α} {ts' : List T}, pRow one f acc ts = .ok l ts' -> ts'.length <= ts.length
  | 0, _, _, _, _, e => by cases e
  | f + 1, acc, ts, l, ts', e => by
    rw [pRow] at e
    cases h1 : one acc ts with
    | no c t => rw [h1] at e; cases e
    | ok a ts1 =>
      rw [h1] at e
      simp only at e
      have h2 := h _ _ _ _ h1
      split at e
      . have := pRow_len h e
        have := tl_length ts1
        omega
      . simp only [Res.ok.injEq] at e
        rw [← e.2]
        exact h2
theorem pMks_le : ∀ {ms : List Nm} {ts ts' : List T} {u : Unit}, pMks ms ts = .ok u ts' -> ts'.length <= ts.length
  | [], ts, ts', u, e => by
    simp only [pMks, Res.ok.injEq] at e
    rw [e.2]
    exact Nat.le_refl _
  | m :: r, ts, ts', u, e => by
    rw [pMks] at e
    split at e
    . have := pMks_le e
      have := tl_length ts
      omega
    . cases e
theorem pGiven_len {names : List Nm} {ts : List T} {l : List Nat} {ts' : List T} (h : pGiven names ts = .ok l ts') : ts'.length <= ts.length := by
  unfold pGiven at h
  split at h
  . cases h
  . rename_i h1
    split at h
    . cases h
    . rename_i h2
      simp only [Res.ok.injEq] at h
      have a := pRow_len (fun _ _ _ _ e => Nat.le_of_lt (oneGiven_lt e).1) h1
      have b := pMks_le h2
      rw [← h.2]
      omega
theorem tl_lt1 {ts : List T} (h : (hd ts).kind ≠ 0) (h0 : ts ≠ []) : (tl ts).length < ts.length := by
  cases ts with
  | nil => exact absurd rfl h0
  | cons t r =>
    rw [tl_cons, if_neg (show ¬ t.kind = 0 from h)]
    simp
theorem pInner_lt {d : Dc} {names : List Nm} {body b' : List PO} {ts ts' : List T} (h0 : ts ≠ []) (h : pInner d names body ts = .ok b' ts') : ts'.length < ts.length := by
  unfold pInner at h
  simp only at h
  have hk : (hd ts).kind ≠ 0 := by
    intro hz
    have hb : isT 1 barX (hd ts) = false := by simp [isT, hz]
    rw [hb] at h
    have hc : pCallee d (hd ts) (tl ts) = .no 81 (hd ts) := by
      unfold pCallee
      rw [if_neg (by simp [isN, hz])]
    simp only [Bool.false_eq_true, if_false] at h
    rw [hc] at h
    cases h
  have hlt := tl_lt1 hk h0
  split at h
  . cases h
  . rename_i g ts1 h1
    have e1 : ts1 = tl ts := by
      split at h1
      . simp only [Res.ok.injEq] at h1; exact h1.2.symm
      . exact pCallee_ok h1
    split at h
    . cases h
    . rename_i l ts2 h2
      have := pGiven_len h2
      generalize (if isT 1 barX (hd ts) = true then sng 4 0 l.length else g) = g' at h
      split at h
      . cases h
      . split at h
        . cases h
        . simp only [Res.ok.injEq] at h
          subst e1
          rw [← h.2]
          omega
def fin125 (d : Dc) (x : Nm) (ns : List Nm) : Res (List PO) -> Res Dc
  | .no c t => .no c t
  | .ok body ts4 => match pMks [[125]] ts4 with
    | .no c t => .no c t
    | .ok _ ts5 => .ok ⟨d.q, d.b, put d.defs x ⟨ns.length, body⟩⟩ ts5
theorem pDefine_fin {d : Dc} {ts ts1 ts2 ts3 : List T} {x : Nm} {ns : List Nm} {u : Unit} (h1 : pNew d ts = .ok x ts1) (h2 : pNames ts1 = .ok ns ts2) (h3 : pMks [[123]] ts2 = .ok u ts3) : pDefine d ts = fin125 d x ns (pBody d ns (ts3.length + 1) [] ts3) := by
  unfold pDefine
  rw [h1]
  simp only
  rw [h2]
  simp only
  rw [h3]
  simp only
  cases pBody d ns (ts3.length + 1) [] ts3 <;> rfl
def PDe (R : Nat) (L : Ly) (w0 : World) (N : Nat) (o : Value) (w : World) (P : Res Dc) (e : Ending) (w' : World) : Prop := match P with
  | .ok d' ts' => e = .returned .nilIface /\ (∃ B', Rdr w0 w' R L B' (N + 1) d') /\ Rt w' R (xOf L d') o ts' /\ Kb [R, L.md] w w'
  | .no c t => e = .returned (erV c t) /\ Kb [R, L.md] w w'
theorem DefV.grown {w w' : World} {B b : Nat} {g : Df} {u : Value} (h : DefV w B g u) (hg : w.grownBy w' (some b)) (hb : ∃ es cl, w.heap[b]? = some (.map es cl)) : DefV w' B g u := by
  obtain ⟨d, ao, k, c, h1, h2, h3⟩ := h
  obtain ⟨es, cl, hm⟩ := hb
  have key : ∀ (g : Nat) (cs : Array Value) (t : TypeId) (fr : Nat × Nat), w.heap[g]? = some (Obj.cells cs t fr) -> w'.heap[g]? = w.heap[g]? := fun g cs t fr hgg => hg.block g (Array.getElem?_eq_some_iff.1 hgg).1 (fun e => by
    cases e
    rw [hm] at hgg
    cases hgg)
  exact ⟨d, ao, k, c, h1, SpAt.block (fun g _ cs fr hgg => key _ _ _ _ hgg) (fun g _ cs fr hgg => key _ _ _ _ hgg) _ _ _ _ _ h2, h3⟩
theorem DM.store {w : World} {B b N : Nat} {f : Nm -> Option Df} (h : DM w B b N f) (hN : N < 140737488355328) (x : Nm) (hx : x.length <= 140737488355328) (g : Df) (u : Value) (hu : DefV w B g u) :
    ∃ w', (Instr.mapUpdate 63 (.map (some b)) (.string ⟨x.toArray⟩) u).run Tryz.prog w = .ok () w' /\ DM w' B b (N + 1) (put f x g) /\ w.grownBy w' (some b) := by
  obtain ⟨vs, h1, h2⟩ := h
  obtain ⟨w', hr, hm, hg⟩ := h1.store Tryz.underlying63 hN x hx u
  refine ⟨w', hr, ⟨_, hm, fun y => ?_⟩, hg⟩
  by_cases e : y = x
  . subst e
    simp only [put, if_true]
    exact ⟨rfl, fun g' u' hg' hu' => by cases hg'; cases hu'; exact hu.grown hg h1.block⟩
  . simp only [put, if_neg e]
    exact ⟨(h2 y).1, fun g' u' hg' hu' => ((h2 y).2 g' u' hg' hu').grown hg h1.block⟩
theorem cDefine (w0 : World) (R : Nat) (L : Ly) (B N : Nat) (d : Dc) (o : Value) (ts : List T) (w : World) (hD : Rdr w0 w R L B N d) (hR : Rt w R (xOf L d) o ts) (hN : N < 140737488355328) :
    Calls Tryz.prog 90 #[.pointer (some ⟨R, 0, none⟩)] w (PDe R L w0 N o w (pDefine d ts)) := by
  have eG := erG
  have eN := erN
  have c1 := cNewName w0 R L B N d o ts w hD hR
  have hTx := hR.fine.hd
  have hlt := hR.lt
  cases h1 : pNew d ts with
  | no c t =>
    rw [h1] at c1
    rw [show pDefine d ts = .no c t by unfold pDefine; rw [h1]]
    go_enter Tryz.func90, Tryz.ntmps90
    go_wp2_with (first | (go_at_call 105; refine c1.mono ?_; rintro e w1 ⟨rfl, hn1, hk1⟩))
    go_ret
    exact ⟨rfl, kb2 hk1⟩
  | ok x ts1 =>
  rw [h1] at c1
  have hxl : x.length <= 140737488355328 := by rw [(pNew_len h1).1]; omega
  have HC2 := hide (fun W (hk : Kb [R] w W) (h : Rt W R (xOf L d) o ts1) => cNames w0 R L B N d o ts1 W (hD.turn hR hk) h)
  cases h2 : pNames ts1 with
  | no c t =>
    rw [h2] at HC2
    rw [show pDefine d ts = .no c t by unfold pDefine; rw [h1]; simp only; rw [h2]]
    go_enter Tryz.func90, Tryz.ntmps90
    go_wp2_with (first
      | (go_at_call 105; refine c1.mono ?_; rintro e w1 ⟨rfl, hr1, hk1⟩)
      | (go_at_call 108; (with_reducible refine Calls.mono (HC2.out _ hk1 hr1) ?_); rintro e w2 ⟨⟨mm, rfl⟩, hk2⟩))
    go_ret
    exact ⟨rfl, kb2 (hk1.trans hk2)⟩
  | ok ns ts2 =>
  rw [h2] at HC2
  have c3 := fun W (h : Rt W R (xOf L d) o ts2) => cMark1 R (xOf L d) o ts2 [123] W h
  cases h3 : pMks [[123]] ts2 with
  | no c t =>
    rw [h3] at c3
    rw [show pDefine d ts = .no c t by unfold pDefine; rw [h1]; simp only; rw [h2]; simp only; rw [h3]]
    go_enter Tryz.func90, Tryz.ntmps90
    go_wp2_with (first
      | (go_at_call 105; refine c1.mono ?_; rintro e w1 ⟨rfl, hr1, hk1⟩)
      | (go_at_call 108; (with_reducible refine Calls.mono (HC2.out _ hk1 hr1) ?_); rintro e w2 ⟨mm, rfl, hn2, hm2, hl2, hr2, hk2⟩)
      | (go_at_call 58; refine (c3 _ hr2).mono ?_; rintro e w3 ⟨rfl, hn3, hk3⟩))
    go_ret
    exact ⟨rfl, kb2 ((hk1.trans hk2).trans hk3)⟩
  | ok u3 ts3 =>
  rw [h3] at c3
  generalize hP : pDefine d ts = P
  have HP : Hid (fin125 d x ns (pBody d ns (ts3.length + 1) [] ts3) = P) := hide (by rw [← hP, pDefine_fin h1 h2 h3])
  clear hP
  go_enter Tryz.func90, Tryz.ntmps90
  go_wp2_with (first
    | (go_at_call 105; refine c1.mono ?_; rintro e w1 ⟨rfl, hr1, hk1⟩)
    | (go_at_call 108; (with_reducible refine Calls.mono (HC2.out _ hk1 hr1) ?_); rintro e w2 ⟨mm, rfl, hn2, hm2, hl2, hr2, hk2⟩)
    | (go_at_call 58; refine (c3 _ hr2).mono ?_; rintro e w3 ⟨rfl, hr3, hk3⟩; have hn3 := hn2.kept hk3 (show mm ∉ [R] by have := hk1.size; simp; omega); have hL3 := fun ty => hn3.len ty))
  have hKw : Kb [R] w w3 := (hk1.trans hk2).trans hk3
  have hz3 := hKw.size
  have hB3 : B <= w.heap.size := hD.hB
  have h03 := hD.bel.size
  have hK0 : Kb [R] w (w3.alloc (.cells #[.int .i64 (ns.length : Int), .int .i64 0, .slice none 0 0] 174)) := hKw.alloc _
  have hA0 : DfAt (w3.alloc (.cells #[.int .i64 (ns.length : Int), .int .i64 0, .slice none 0 0] 174)) w3.heap.size B w3.heap.size ns.length none [] := ⟨0, 0, 0, [], heap_alloc_new _ _, rfl, rfl, World.ownsRow_nil _ _ _ _, fun _ hs => absurd hs List.not_mem_nil⟩
  have HS : Hid (Rt (w3.alloc (.cells #[.int .i64 (ns.length : Int), .int .i64 0, .slice none 0 0] 174)) R (xOf L d) o ts3 /\ Rdr w0 (w3.alloc (.cells #[.int .i64 (ns.length : Int), .int .i64 0, .slice none 0 0] 174)) R L B N d /\ NM (w3.alloc (.cells #[.int .i64 (ns.length : Int), .int .i64 0, .slice none 0 0] 174)) mm ns /\ DfAt (w3.alloc (.cells #[.int .i64 (ns.length : Int), .int .i64 0, .slice none 0 0] 174)) w3.heap.size B w3.heap.size ns.length none [] /\ Kb [R] w (w3.alloc (.cells #[.int .i64 (ns.length : Int), .int .i64 0, .slice none 0 0] 174))) := hide ⟨hr3.below (bnew _ _), hD.turn hR hK0, hn3.below (bnew _ _), hA0, hK0⟩
  have HD := hide hD
  have HR := hide hR
  clear c1 c3 hr1 hr2 hr3 hn2 hn3 hL3 hKw hK0 hA0 hk1 hk2 hk3 h1 h2 h3 hD hR
  go_loopw [8] (fun _ wr => ∃ (n : Nat) (body : List PO) (ao : Option Addr) (ts' : List T), ts'.length < n /\ Hid (fin125 d x ns (pBody d ns n body ts') = P) /\ Rt wr R (xOf L d) o ts' /\ Rdr w0 wr R L B N d /\ NM wr mm ns /\ DfAt wr w3.heap.size B w3.heap.size ns.length ao body /\ body.length <= 4096 /\ Kb [R] w wr) (fun _ wr => lenAt wr R)
  case atStart =>
    obtain ⟨s1, s2, s3, s4, s5⟩ := HS.out
    exact ⟨_, [], none, ts3, by omega, HP, s1, s2, s3, s4, by simp, s5⟩
  case round =>
    clear HS HP
    obtain ⟨n, body, ao, ts', hn, HP, hr, hd, hm, hA, hbl, hk⟩ := hrel
    obtain ⟨n, rfl⟩ : ∃ n', n = n' + 1 := ⟨n - 1, by omega⟩
    have hle := lenAt_eq hr
    have hlw := hk.size
    have hDl := hA.cells.2.2
    have c2 := fun W (h : Rt W R (xOf L d) o ts') => cStands R (xOf L d) o ts' [125] W h
    have hP := HP.out
    rw [pBody] at hP
    cases hT : isT 5 [125] (Cir.hd ts') with
    | false =>
      rw [hT] at c2 hP
      simp only [Bool.false_eq_true, if_false] at hP
      have HI := hide (fun W (h : Below wr.heap.size wr W) => cInner w0 R L B N d o w3.heap.size w3.heap.size mm ns ao body ts' W (hd.below h) (hr.below h) (hm.below h) (hA.below h) (by omega) (by have := h.size; omega) hbl hl2)
      have HA := hide hA
      have Hr := hide hr
      have Hd := hide hd
      have Hm := hide hm
      cases h2 : pInner d ns body ts' with
      | no c t =>
        rw [h2] at HI hP
        have HP2 := hide hP
        clear hP HP hA hd hm
        go_wp2_with (first
          | (go_at_call 109; refine (c2 _ hr).mono ?_; rintro e w5 ⟨rfl, hb5⟩)
          | (go_at_call 110; (with_reducible refine Calls.mono (HI.out w5 hb5) ?_); rintro e w6 ⟨rfl, hk6⟩))
        go_ret
        rw [← HP2.out]
        refine ⟨rfl, ((hk.then_below hb5).mono (by simp)).via hk6 (fun m hm => ?_)⟩
        rcases List.mem_cons.1 hm with e | e
        . exact .inl (by simp [e])
        . rcases List.mem_cons.1 e with e | e
          . exact .inr (by omega)
          . have he : ob ao = some m := by simpa using e
            obtain ⟨_, _, _, _, _, _, _, hown, _⟩ := HA.out
            have := (own_lt hown m he).1
            exact .inr (by omega)
      | ok b' ts1 =>
        rw [h2] at HI hP
        simp only at hP
        have HP2 := hide hP
        have hlt1 := pInner_lt hr.fine.ends.ne h2
        clear hP HP hA hd hm
        go_wp2_with (first
          | (go_at_call 109; refine (c2 _ hr).mono ?_; rintro e w5 ⟨rfl, hb5⟩)
          | (go_at_call 110; (with_reducible refine Calls.mono (HI.out w5 hb5) ?_); rintro e w6 ⟨rfl, ao6, hr6, hA6, hbl6, hk6, hat6⟩))
        go_roundw
        case rel =>
          have hM : ∀ m, m ∈ w3.heap.size :: (ob ao).toList -> w0.heap.size <= m /\ w.heap.size <= m /\ ∃ cs t fr, w5.heap[m]? = some (Obj.cells cs t fr) /\ (t = 3 -> B <= m) /\ (t = 222 -> B <= m) := by
            intro m hm
            obtain ⟨_, _, _, _, hD5, _, _, hown, _⟩ := HA.out.below hb5
            rcases List.mem_cons.1 hm with e | e
            . subst e
              exact ⟨by omega, by omega, _, _, _, hD5, fun e => absurd e (by decide), fun e => absurd e (by decide)⟩
            . have he : ob ao = some m := by simpa using e
              obtain ⟨cs, fr, hg⟩ := own_cells' hown he
              have := (own_lt hown m he).1
              exact ⟨by omega, by omega, cs, _, fr, hg, fun e => absurd e (by decide), fun _ => by omega⟩
          refine ⟨n, b', ao6, ts1, by omega, HP2, hr6, (Hd.out.below hb5).more (Hr.out.below hb5) hk6 (fun m hm => ⟨(hM m hm).1, (hM m hm).2.2⟩), (Hm.out.below hb5).kept hk6 (fun hm => ?_), hA6, hbl6, (hk.then_below hb5).via hk6 (fun m hm => ?_)⟩
          . rcases List.mem_cons.1 hm with e | e
            . have := Hm.out.lt
              obtain ⟨⟨v, hb, _⟩, _⟩ := Hr.out.below hb5
              unfold rbO at hb
              exact (Hm.out.below hb5).ne hb e
            . obtain ⟨_, _, cs, t, fr, hg, _⟩ := hM mm e
              exact (Hm.out.below hb5).ne hg rfl
          . rcases List.mem_cons.1 hm with e | e
            . exact .inl (by simp [e])
            . exact .inr (hM m e).2.1
        case measure => rw [lenAt_eq hr6, hle]; omega
    | true =>
      rw [hT] at c2 hP
      simp only [if_true] at hP
      have hq : pMks [[125]] ts' = .ok () (tl ts') := by
        rw [pMks, if_pos hT]
        rfl
      rw [fin125, hq] at hP
      simp only at hP
      obtain ⟨k, c, hDb, hDV⟩ := hA.defv (by omega) hl2 hbl
      have c5 := fun W (h : Rt W R (xOf L d) o ts') => cMark1 R (xOf L d) o ts' [125] W h
      rw [hq] at c5
      have HDB := hide hDb
      have HDV := hide hDV
      have Hr := hide hr
      have Hd := hide hd
      have HA := hide hA
      have HP2 := hide hP
      clear hP HP hA hd hm hDb hDV
      go_wp2_with (first
        | (go_at_call 109; refine (c2 _ hr).mono ?_; rintro e w5 ⟨rfl, hb5⟩))
      have hr5 := Hr.out.below hb5
      obtain ⟨-, -, -, -, -, -, f6, -⟩ := hr5.cells
      have hl5 := hr5.lt
      have hD5 := (hb5.block _ hDl).trans HDB.out
      obtain ⟨x0, x1, x2, x3⟩ := def_cells hD5
      have hV5 : DefV w5.drew w5.heap.size ⟨ns.length, body⟩ (.agg #[iv ns.length, iv body.length, .slice ao k c]) := (HDV.out.below hb5).mono hb5.size |>.below (Below.refl _ _).drew
      have hd5 := Hd.out.below hb5
      obtain ⟨w6, hu, hM6, hg6⟩ := DM.store (w := w5.drew) ((hd5.md.mono hd5.hB).below (Below.refl _ _).drew) hN x hxl ⟨ns.length, body⟩ _ hV5
      unfold iv at hu x0 x1
      have Hg6 := hide hg6
      have HM6 := hide hM6
      clear hg6 hM6 hV5
      go_region
      have hg := Hg6.out
      have hk6 : Kb [R, L.md] w w6 := ((hk.then_below hb5).mono (by simp)).trans ⟨hg.os, hg.tape, hg.output, hg.size, fun b hb hm => hg.block b hb (fun e => by cases e; simp at hm)⟩
      have hmap := fun (b : Nat) (cs : Array Value) (t : TypeId) (fr : Nat × Nat) (hb : w5.heap[b]? = some (Obj.cells cs t fr)) => (show w6.heap[b]? = w5.heap[b]? from hg.block b (Array.getElem?_eq_some_iff.1 hb).1 (fun e => by cases e; exact hd5.md.ne hb rfl))
      have hr6 : Rt w6 R (xOf L d) o ts' := by
        obtain ⟨tcs, tfr, htb⟩ := hr5.btB
        obtain ⟨⟨v, hb, _⟩, _⟩ := id hr5
        unfold rbO at hb
        exact hr5.kept (hmap _ _ _ _ hb) (hmap _ _ _ _ htb)
      have hRd : Rdr w0 w6 R L w5.heap.size (N + 1) ⟨d.q, d.b, put d.defs x ⟨ns.length, body⟩⟩ := by
        have n1 : some L.mq ≠ some L.md := fun e => hd5.ne.2.1 (Option.some.inj e)
        have n2 : some L.mb ≠ some L.md := fun e => hd5.ne.2.2 (Option.some.inj e)
        refine ⟨⟨hd5.ok.q, hd5.ok.b, hd5.ok.rq, hd5.ok.rb⟩, ?_, ?_, HM6.out, hg.size, ?_, hd5.T0, hd5.R0, hd5.q0, hd5.ne⟩
        . obtain ⟨n, h1, h2⟩ := hd5.mq
          exact ⟨n, h1, h2.of_block (hg.block _ h2.lt n1)⟩
        . obtain ⟨n, h1, h2⟩ := hd5.mb
          exact ⟨n, h1, h2.of_block (hg.block _ h2.lt n2)⟩
        . have hb := hd5.bel
          exact ⟨hg.os.trans hb.os, hg.tape.trans hb.tape, hg.output.trans hb.output, Nat.le_trans hb.size hg.size, fun b hb' => (hg.block b (Nat.lt_of_lt_of_le hb' hb.size) (fun e => by cases e; have := hd5.q0.2.2; omega)).trans (hb.block b hb')⟩
      have HRd := hide hRd
      clear hRd hmap hg
      go_wp2_with (first | (go_at_call 58; refine (c5 _ hr6).mono ?_; rintro e w7 ⟨rfl, hr7, hk7⟩))
      go_ret
      rw [← HP2.out]
      exact ⟨rfl, ⟨_, HRd.out.turn (ts := ts') hr6 hk7⟩, hr7, hk6.trans (hk7.mono (by simp))⟩
structure Cx (w0 w : World) (R : Nat) (L : Ly) (B N : Nat) (d : Dc) (ao : Option Addr) (no co : Nat) (ops : List COp) (ts : List T) : Prop where
  rd : Rdr w0 w R L B N d
  rt : Rt w R (xOf L d) (.slice ao no co) ts
  op : OpsAt w w0.heap.size ao no co ops
  le : ops.length <= 4096
def Rf (w w' : World) : Prop := ∀ (b : Nat) (cs : Array Value) (fr : Nat × Nat), w.heap[b]? = some (Obj.cells cs 70 fr) -> w'.heap[b]? = w.heap[b]?
theorem Rf.trans {a b c : World} (h : Rf a b) (k : Rf b c) : Rf a c := fun n cs fr hn => (k n cs fr ((h n cs fr hn).trans hn)).trans (h n cs fr hn)
theorem Rf.below {a b : World} (h : Below a.heap.size a b) : Rf a b := fun n _ _ hn => h.block n (Array.getElem?_eq_some_iff.1 hn).1
theorem Rf.kb {M : List Nat} {a b : World} (hk : Kb M a b) (hM : ∀ m, m ∈ M -> ∀ cs t fr, a.heap[m]? = some (Obj.cells cs t fr) -> t ≠ 70) : Rf a b := fun n cs fr hn => hk.block n (Array.getElem?_eq_some_iff.1 hn).1 (fun e => hM n e cs _ fr hn rfl)
def PS (R : Nat) (L : Ly) (w0 : World) (N : Nat) (w : World) (P : Res St) (e : Ending) (w' : World) : Prop := Rf w w' /\ match P with
  | .ok s ts' => e = .returned .nilIface /\ ∃ B' ao' n' c', Cx w0 w' R L B' (N + 1) s.d ao' n' c' s.ops ts'
  | .no c t => e = .returned (erV c t) /\ Below w0.heap.size w0 w'
theorem Rdr.monoN {w0 w : World} {R : Nat} {L : Ly} {B N N' : Nat} {d : Dc} (h : Rdr w0 w R L B N d) (hN : N <= N') : Rdr w0 w R L B N' d := by
  obtain ⟨a1, a2, a3, ⟨vs, m1, m2⟩, a5, a6, a7, a8, a9, a10⟩ := h
  exact ⟨a1, a2, a3, ⟨vs, m1.mono hN, m2⟩, a5, a6, a7, a8, a9, a10⟩
theorem OpsAt.keptM {w w' : World} {B : Nat} {ao : Option Addr} {n c : Nat} {ops : List COp} {M : List Nat} (h : OpsAt w B ao n c ops) (hk : Kb M w w') (hM : ∀ m, m ∈ M -> ∀ cs t fr, w.heap[m]? = some (.cells cs t fr) -> t ≠ 34 /\ t ≠ 3) : OpsAt w' B ao n c ops := by
  obtain ⟨xs, h1, h2, h3, h4⟩ := h
  refine ⟨xs, h1, h2, own_of_block h3 (fun k hk' => hk.block k (own_lt h3 k hk').2 (fun e => ?_)), fun x hx => (h4 x hx).block fun g _ _ hg => hk.block g (Array.getElem?_eq_some_iff.1 hg).1 (fun e => (hM g e _ _ _ hg).2 rfl)⟩
  obtain ⟨cs, fr, hg⟩ := own_cells' h3 hk'
  exact (hM k e _ _ _ hg).1 rfl
theorem Rt.rdr {w : World} {R : Nat} {x : X} {o : Value} {ts : List T} (h : Rt w R x o ts) {cs : Array Value} {t : TypeId} {fr : Nat × Nat} (hg : w.heap[R]? = some (.cells cs t fr)) : t = 68 := by
  obtain ⟨⟨v, hb, _⟩, _⟩ := h
  unfold rbO at hb
  rw [hb] at hg
  simp only [Option.some.injEq, Obj.cells.injEq] at hg
  exact hg.2.1.symm
theorem ps_pc {w0 V : World} {R : Nat} {L : Ly} {B N : Nat} {d : Dc} {ao : Option Addr} {no co : Nat} {ops : List COp} {ts : List T} (h : Cx w0 V R L B N d ao no co ops ts) {P : Res (List COp)} {e : Ending} {w' : World} (hp : PC R L d w0.heap.size ao V P e w') : ∃ v, e = .returned v /\ PS R L w0 N V (P.map fun o => ⟨d, o⟩) (.returned v) w' := by
  have hM : ∀ m, m ∈ (ob ao).toList -> w0.heap.size <= m /\ ∃ cs t fr, V.heap[m]? = some (Obj.cells cs t fr) /\ (t = 3 -> B <= m) /\ (t = 222 -> B <= m) := by
    intro m hm
    have he : ob ao = some m := by simpa using hm
    obtain ⟨xs, _, _, h3, _⟩ := h.op
    obtain ⟨cs, fr, hg⟩ := own_cells' h3 he
    exact ⟨(own_lt h3 m he).1, cs, _, fr, hg, fun e => absurd e (by decide), fun e => absurd e (by decide)⟩
  have hRf : ∀ {w'}, Kb (R :: (ob ao).toList) V w' -> Rf V w' := fun hk => Rf.kb hk fun m hm cs t fr hg => by
    rcases List.mem_cons.1 hm with e | e
    . subst e
      rw [h.rt.rdr hg]; decide
    . have he : ob ao = some m := by simpa using e
      obtain ⟨xs, _, _, h3, _⟩ := h.op
      obtain ⟨cs', fr', hg'⟩ := own_cells' h3 he
      rw [hg'] at hg
      simp only [Option.some.injEq, Obj.cells.injEq] at hg
      rw [← hg.2.1]; decide
  cases P with
  | ok o ts' =>
    obtain ⟨rfl, ao', n', c', h1, h2, h3, h4, h5⟩ := hp
    exact ⟨_, rfl, hRf h4, rfl, B, ao', n', c', (h.rd.more h.rt h4 hM).monoN (Nat.le_succ _), h1, h2, h3⟩
  | no c t =>
    obtain ⟨rfl, h4⟩ := hp
    exact ⟨_, rfl, hRf h4, rfl, (h.rd.more h.rt h4 hM).bel⟩
theorem ps_pt {w0 V : World} {R : Nat} {L : Ly} {B N : Nat} {d : Dc} {ao : Option Addr} {no co : Nat} {ops : List COp} {ts : List T} (h : Cx w0 V R L B N d ao no co ops ts) {P : Res Unit} {e : Ending} {w' : World} (hp : PT R (xOf L d) (.slice ao no co) V (fun _ => .nilIface) id P e w') : ∃ v, e = .returned v /\ PS R L w0 N V (P.map fun _ => ⟨d, ops⟩) (.returned v) w' := by
  have hRf : ∀ {w'}, Kb [R] V w' -> Rf V w' := fun hk => Rf.kb hk fun m hm cs t fr hg => by
    rw [List.mem_singleton] at hm
    subst hm
    rw [h.rt.rdr hg]; decide
  cases P with
  | ok o ts' =>
    obtain ⟨rfl, h1, h2⟩ := hp
    exact ⟨_, rfl, hRf h2, rfl, B, ao, no, co, (h.rd.turn h.rt h2).monoN (Nat.le_succ _), h1, h.op.turn h.rt h2, h.le⟩
  | no c t =>
    obtain ⟨rfl, -, h2⟩ := hp
    exact ⟨_, rfl, hRf h2, rfl, (h.rd.turn h.rt h2).bel⟩
theorem op_map {w0 V w' : World} {R m : Nat} {L : Ly} {B N : Nat} {d : Dc} {ao : Option Addr} {no co : Nat} {ops : List COp} {ts : List T} (h : Cx w0 V R L B N d ao no co ops ts) (hm : ∀ k cs t fr, V.heap[k]? = some (Obj.cells cs t fr) -> m ≠ k) (hk : Kb [R, m] V w') : OpsAt w' w0.heap.size ao no co ops := by
  refine h.op.keptM hk fun k hk' cs t fr hg => ?_
  simp only [List.mem_cons, List.not_mem_nil, or_false] at hk'
  rcases hk' with rfl | rfl
  . rw [h.rt.rdr hg]; exact ⟨by decide, by decide⟩
  . exact absurd rfl (hm _ _ _ _ hg)
theorem rf_map {w0 V w' : World} {R m : Nat} {L : Ly} {B N : Nat} {d : Dc} {ao : Option Addr} {no co : Nat} {ops : List COp} {ts : List T} (h : Cx w0 V R L B N d ao no co ops ts) (hm : ∀ k cs t fr, V.heap[k]? = some (Obj.cells cs t fr) -> m ≠ k) (hk : Kb [R, m] V w') : Rf V w' := by
  refine Rf.kb hk fun k hk' cs t fr hg => ?_
  simp only [List.mem_cons, List.not_mem_nil, or_false] at hk'
  rcases hk' with rfl | rfl
  . rw [h.rt.rdr hg]; decide
  . exact absurd rfl (hm _ _ _ _ hg)
theorem ps_def {w0 V : World} {R : Nat} {L : Ly} {B N : Nat} {d : Dc} {ao : Option Addr} {no co : Nat} {ops : List COp} {ts : List T} (h : Cx w0 V R L B N d ao no co ops ts) {P : Res Dc} {e : Ending} {w' : World} (hp : PDe R L w0 N (.slice ao no co) V P e w') : ∃ v, e = .returned v /\ PS R L w0 N V (P.map fun d' => ⟨d', ops⟩) (.returned v) w' := by
  cases P with
  | ok d' ts' =>
    obtain ⟨rfl, ⟨B', h1⟩, h2, h3⟩ := hp
    exact ⟨_, rfl, rf_map h (fun k cs t fr hg => h.rd.md.ne hg) h3, rfl, B', ao, no, co, h1, h2, op_map h (fun k cs t fr hg => h.rd.md.ne hg) h3, h.le⟩
  | no c t =>
    obtain ⟨rfl, h3⟩ := hp
    refine ⟨_, rfl, rf_map h (fun k cs t fr hg => h.rd.md.ne hg) h3, rfl, h.rd.bel.trans (h3.below h.rd.bel.size fun m hm => ?_)⟩
    simp only [List.mem_cons, List.not_mem_nil, or_false] at hm
    rcases hm with rfl | rfl
    . exact h.rd.R0
    . exact h.rd.q0.2.2
theorem pRegister_ok {d : Dc} {b b' : Bk} {ts ts' : List T} (h : pRegister d b ts = .ok b' ts') : ∃ (x : Nm) (n : Nat), 1 <= n /\ (n : Int) <= 64 - (b.size : Int) /\ b' = ⟨put b.find x ⟨b.size, n⟩, b.size + n⟩ := by
  unfold pRegister at h
  split at h
  . cases h
  . rename_i x ts1 h1
    split at h
    . cases h
    . split at h
      . cases h
      . rename_i n ts3 h3
        split at h
        . cases h
        . simp only [Res.ok.injEq] at h
          unfold pNum at h3
          split at h3
          . cases h3
          . split at h3
            . cases h3
            . rename_i hlo
              simp only [Res.ok.injEq] at h3
              rw [not_or] at hlo
              exact ⟨x, n, by omega, by omega, h.1.symm⟩
theorem reg_ok {b b' : Bk} {x : Nm} {n : Nat} (h1 : 1 <= n) (h2 : (n : Int) <= 64 - (b.size : Int)) (hb : b' = ⟨put b.find x ⟨b.size, n⟩, b.size + n⟩) (hr : ∀ x r, b.find x = some r -> 1 <= r.sz /\ r.fr + r.sz <= b.size) : b'.size <= 64 /\ ∀ x r, b'.find x = some r -> 1 <= r.sz /\ r.fr + r.sz <= b'.size := by
  subst hb
  refine ⟨show b.size + n <= 64 by omega, fun y r hy => ?_⟩
  simp only [put] at hy
  split at hy
  . cases hy
    exact ⟨h1, Nat.le_refl _⟩
  . have := hr y r hy
    exact ⟨this.1, show r.fr + r.sz <= b.size + n by omega⟩
theorem ps_regq {w0 V : World} {R : Nat} {L : Ly} {B N : Nat} {d : Dc} {ao : Option Addr} {no co : Nat} {ops : List COp} {ts : List T} (h : Cx w0 V R L B N d ao no co ops ts) {e : Ending} {w' : World} (hp : PB R (xOf L d) (.slice ao no co) L.mq 0 V (pRegister d d.q ts) e w') : ∃ v, e = .returned v /\ PS R L w0 N V ((pRegister d d.q ts).map fun b => ⟨⟨b, d.b, d.defs⟩, ops⟩) (.returned v) w' := by
  have hne : ∀ k cs t fr, V.heap[k]? = some (Obj.cells cs t fr) -> L.mq ≠ k := fun k cs t fr hg => h.rd.mq.ne hg
  have hrR : ∃ cs fr, V.heap[R]? = some (Obj.cells cs 68 fr) := by
    obtain ⟨⟨v, hb, _⟩, _⟩ := h.rt
    exact ⟨_, _, hb⟩
  obtain ⟨rcs, rfr, hrb⟩ := hrR
  have hbel : ∀ w', Kb [R, L.mq] V w' -> Below w0.heap.size w0 w' := fun w' h3 => h.rd.bel.trans (h3.below h.rd.bel.size fun m hm => by
    simp only [List.mem_cons, List.not_mem_nil, or_false] at hm
    rcases hm with rfl | rfl
    . exact h.rd.R0
    . exact h.rd.q0.1)
  cases hP : pRegister d d.q ts with
  | ok b ts' =>
    rw [hP] at hp
    obtain ⟨rfl, h1, h2, h3⟩ := hp
    obtain ⟨x, n, r1, r2, r3⟩ := pRegister_ok hP
    obtain ⟨s1, s2⟩ := reg_ok r1 r2 r3 h.rd.ok.rq
    refine ⟨_, rfl, rf_map h hne h3, rfl, B, ao, no, co, ⟨⟨⟨s1, h.rd.ok.b, s2, h.rd.ok.rb⟩, h2, h.rd.mb.kept h3 ?_, (h.rd.monoN (Nat.le_succ _)).md.kept h3 ?_ ?_, Nat.le_trans h.rd.hB h3.size, hbel _ h3, h.rd.T0, h.rd.R0, h.rd.q0, h.rd.ne⟩, h1, op_map h hne h3, h.le⟩⟩
    . simp only [List.mem_cons, List.not_mem_nil, or_false, not_or]
      exact ⟨h.rd.mb.ne hrb, fun e => h.rd.ne.1 e.symm⟩
    . intro m hm cs t fr hg
      simp only [List.mem_cons, List.not_mem_nil, or_false] at hm
      rcases hm with rfl | rfl
      . rw [h.rt.rdr hg]; exact ⟨fun e => absurd e (by decide), fun e => absurd e (by decide)⟩
      . exact absurd rfl (hne _ _ _ _ hg)
    . simp only [List.mem_cons, List.not_mem_nil, or_false, not_or]
      exact ⟨h.rd.md.ne hrb, fun e => h.rd.ne.2.1 e.symm⟩
  | no c t =>
    rw [hP] at hp
    obtain ⟨rfl, h3⟩ := hp
    exact ⟨_, rfl, rf_map h hne h3, rfl, hbel _ h3⟩
theorem ps_regb {w0 V : World} {R : Nat} {L : Ly} {B N : Nat} {d : Dc} {ao : Option Addr} {no co : Nat} {ops : List COp} {ts : List T} (h : Cx w0 V R L B N d ao no co ops ts) {e : Ending} {w' : World} (hp : PB R (xOf L d) (.slice ao no co) L.mb 3 V (pRegister d d.b ts) e w') : ∃ v, e = .returned v /\ PS R L w0 N V ((pRegister d d.b ts).map fun b => ⟨⟨d.q, b, d.defs⟩, ops⟩) (.returned v) w' := by
  have hne : ∀ k cs t fr, V.heap[k]? = some (Obj.cells cs t fr) -> L.mb ≠ k := fun k cs t fr hg => h.rd.mb.ne hg
  have hrR : ∃ cs fr, V.heap[R]? = some (Obj.cells cs 68 fr) := by
    obtain ⟨⟨v, hb, _⟩, _⟩ := h.rt
    exact ⟨_, _, hb⟩
  obtain ⟨rcs, rfr, hrb⟩ := hrR
  have hbel : ∀ w', Kb [R, L.mb] V w' -> Below w0.heap.size w0 w' := fun w' h3 => h.rd.bel.trans (h3.below h.rd.bel.size fun m hm => by
    simp only [List.mem_cons, List.not_mem_nil, or_false] at hm
    rcases hm with rfl | rfl
    . exact h.rd.R0
    . exact h.rd.q0.2.1)
  cases hP : pRegister d d.b ts with
  | ok b ts' =>
    rw [hP] at hp
    obtain ⟨rfl, h1, h2, h3⟩ := hp
    obtain ⟨x, n, r1, r2, r3⟩ := pRegister_ok hP
    obtain ⟨s1, s2⟩ := reg_ok r1 r2 r3 h.rd.ok.rb
    refine ⟨_, rfl, rf_map h hne h3, rfl, B, ao, no, co, ⟨⟨⟨h.rd.ok.q, s1, h.rd.ok.rq, s2⟩, h.rd.mq.kept h3 ?_, h2, (h.rd.monoN (Nat.le_succ _)).md.kept h3 ?_ ?_, Nat.le_trans h.rd.hB h3.size, hbel _ h3, h.rd.T0, h.rd.R0, h.rd.q0, h.rd.ne⟩, h1, op_map h hne h3, h.le⟩⟩
    . simp only [List.mem_cons, List.not_mem_nil, or_false, not_or]
      exact ⟨h.rd.mq.ne hrb, h.rd.ne.1⟩
    . intro m hm cs t fr hg
      simp only [List.mem_cons, List.not_mem_nil, or_false] at hm
      rcases hm with rfl | rfl
      . rw [h.rt.rdr hg]; exact ⟨fun e => absurd e (by decide), fun e => absurd e (by decide)⟩
      . exact absurd rfl (hne _ _ _ _ hg)
    . simp only [List.mem_cons, List.not_mem_nil, or_false, not_or]
      exact ⟨h.rd.md.ne hrb, fun e => h.rd.ne.2.2 e.symm⟩
  | no c t =>
    rw [hP] at hp
    obtain ⟨rfl, h3⟩ := hp
    exact ⟨_, rfl, rf_map h hne h3, rfl, hbel _ h3⟩
def RsOk : Prop := ∀ (w0 : World) (R : Nat) (L : Ly) (B N : Nat) (d : Dc) (ao : Option Addr) (no co : Nat) (ops : List COp) (t : T) (ts : List T) (w : World), Cx w0 w R L B N d ao no co ops ts -> Calls Tryz.prog 93 #[.pointer (some ⟨R, 0, none⟩), tkV t] w (PC R L d w0.heap.size ao w (pReset d ops t ts))
def BrOk : Prop := ∀ (w0 : World) (R : Nat) (L : Ly) (B N : Nat) (d : Dc) (ao : Option Addr) (no co : Nat) (ops : List COp) (t : T) (ts : List T) (w : World), Cx w0 w R L B N d ao no co ops ts -> Calls Tryz.prog 94 #[.pointer (some ⟨R, 0, none⟩), tkV t] w (PC R L d w0.heap.size ao w (pBarrier d ops t ts))
theorem cStatement (w0 : World) (R : Nat) (L : Ly) (B N : Nat) (d : Dc) (ao : Option Addr) (no co : Nat) (ops : List COp) (ts : List T) (w : World) (hC : Cx w0 w R L B N d ao no co ops ts) (hN : N < 140737488355328) (hRs : (hd ts).text = kwX 7 -> RsOk) (hBr : (hd ts).text = kwX 8 -> BrOk) :
    Calls Tryz.prog 59 #[.pointer (some ⟨R, 0, none⟩)] w (PS R L w0 N w (pStmt ⟨d, ops⟩ ts)) := by
  have c1 := cTake R (xOf L d) (.slice ao no co) ts w hC.rt
  have hTx := hC.rt.fine.hd
  have hlt := hC.rt.lt
  have HV : Hid (∀ V, Kb [R] w V -> Rt V R (xOf L d) (.slice ao no co) (tl ts) -> Cx w0 V R L B N d ao no co ops (tl ts)) := hide (fun V hk hr => ⟨hC.rd.turn hC.rt hk, hr, hC.op.turn hC.rt hk, hC.le⟩)
  have HRF : Hid (∀ V, Kb [R] w V -> Rf w V) := hide (fun V hk => Rf.kb hk fun m hm cs t fr hg => by
    rw [List.mem_singleton] at hm
    subst hm
    rw [hC.rt.rdr hg]; decide)
  unfold pStmt
  simp only
  generalize hd ts = t at *
  have c81 := fun W => cRefuse 81 t W
  obtain ⟨kind, text, num, o', line, col⟩ := t
  simp only at hRs hBr hTx ⊢
  unfold tkV at c1 c81
  simp only at c1 c81
  by_cases hk : kind = 1
  . subst hk
    simp only [ne_eq, not_true_eq_false, if_false]
    by_cases h1 : text = kwX 1
    . rw [if_pos h1]
      have e1 : text = [105, 110, 99, 108, 117, 100, 101] := h1
      clear h1
      subst e1
      clear c81
      go_enter Tryz.func59, Tryz.ntmps59
      go_wp2_with (first
        | (go_at_call 85; refine c1.mono ?_; rintro e w1 ⟨rfl, hr1, hk1⟩; have hl1 := hr1.lt; have hC1 := HV.out (w1.alloc (.cells #[.int .i64 1, .string ⟨#[105, 110, 99, 108, 117, 100, 101]⟩, .int .i64 (num : Int), .int .i64 (o' : Int), .int .i64 (line : Int), .int .i64 (col : Int)] 100)) (hk1.alloc _) (hr1.below (bnew _ _)); have hRf := HRF.out (w1.alloc (.cells #[.int .i64 1, .string ⟨#[105, 110, 99, 108, 117, 100, 101]⟩, .int .i64 (num : Int), .int .i64 (o' : Int), .int .i64 (line : Int), .int .i64 (col : Int)] 100)) (hk1.alloc _))
        | (go_at_call 88; refine Calls.mono ((cInclude R (xOf L d) (.slice ao no co) (tl ts) _ hC1.rt).mono (fun _ _ h => ps_pt hC1 h)) ?_; rintro e w2 ⟨v, rfl, h2⟩))
      go_ret
      exact ⟨hRf.trans h2.1, h2.2⟩
    rw [if_neg h1]
    by_cases h2 : text = kwX 2
    . rw [if_pos h2]
      have e2 : text = [113, 114, 101, 103] := h2
      clear h2
      subst e2
      clear c81
      go_enter Tryz.func59, Tryz.ntmps59
      go_wp2_with (first
        | (go_at_call 85; refine c1.mono ?_; rintro e w1 ⟨rfl, hr1, hk1⟩; have hl1 := hr1.lt; have hC1 := HV.out (w1.alloc (.cells #[.int .i64 1, .string ⟨#[113, 114, 101, 103]⟩, .int .i64 (num : Int), .int .i64 (o' : Int), .int .i64 (line : Int), .int .i64 (col : Int)] 100)) (hk1.alloc _) (hr1.below (bnew _ _)); have hRf := HRF.out (w1.alloc (.cells #[.int .i64 1, .string ⟨#[113, 114, 101, 103]⟩, .int .i64 (num : Int), .int .i64 (o' : Int), .int .i64 (line : Int), .int .i64 (col : Int)] 100)) (hk1.alloc _))
        | (go_at_call 89; refine Calls.mono ((cRegister w0 R L B N d (.slice ao no co) L.mq 0 d.q (.inl ⟨rfl, rfl, rfl⟩) (tl ts) _ hC1.rd hC1.rt).mono (fun _ _ h => ps_regq hC1 h)) ?_; rintro e w2 ⟨v, rfl, h2⟩))
      go_ret
      exact ⟨hRf.trans h2.1, h2.2⟩
    rw [if_neg h2]
    by_cases h3 : text = kwX 3
    . rw [if_pos h3]
      have e3 : text = [99, 114, 101, 103] := h3
      clear h3
      subst e3
      clear c81
      go_enter Tryz.func59, Tryz.ntmps59
      go_wp2_with (first
        | (go_at_call 85; refine c1.mono ?_; rintro e w1 ⟨rfl, hr1, hk1⟩; have hl1 := hr1.lt; have hC1 := HV.out (w1.alloc (.cells #[.int .i64 1, .string ⟨#[99, 114, 101, 103]⟩, .int .i64 (num : Int), .int .i64 (o' : Int), .int .i64 (line : Int), .int .i64 (col : Int)] 100)) (hk1.alloc _) (hr1.below (bnew _ _)); have hRf := HRF.out (w1.alloc (.cells #[.int .i64 1, .string ⟨#[99, 114, 101, 103]⟩, .int .i64 (num : Int), .int .i64 (o' : Int), .int .i64 (line : Int), .int .i64 (col : Int)] 100)) (hk1.alloc _))
        | (go_at_call 89; refine Calls.mono ((cRegister w0 R L B N d (.slice ao no co) L.mb 3 d.b (.inr ⟨rfl, rfl, rfl⟩) (tl ts) _ hC1.rd hC1.rt).mono (fun _ _ h => ps_regb hC1 h)) ?_; rintro e w2 ⟨v, rfl, h2⟩))
      go_ret
      exact ⟨hRf.trans h2.1, h2.2⟩
    rw [if_neg h3]
    by_cases h4 : text = kwX 4
    . rw [if_pos h4]
      have e4 : text = [103, 97, 116, 101] := h4
      clear h4
      subst e4
      clear c81
      go_enter Tryz.func59, Tryz.ntmps59
      go_wp2_with (first
        | (go_at_call 85; refine c1.mono ?_; rintro e w1 ⟨rfl, hr1, hk1⟩; have hl1 := hr1.lt; have hC1 := HV.out (w1.alloc (.cells #[.int .i64 1, .string ⟨#[103, 97, 116, 101]⟩, .int .i64 (num : Int), .int .i64 (o' : Int), .int .i64 (line : Int), .int .i64 (col : Int)] 100)) (hk1.alloc _) (hr1.below (bnew _ _)); have hRf := HRF.out (w1.alloc (.cells #[.int .i64 1, .string ⟨#[103, 97, 116, 101]⟩, .int .i64 (num : Int), .int .i64 (o' : Int), .int .i64 (line : Int), .int .i64 (col : Int)] 100)) (hk1.alloc _))
        | (go_at_call 90; refine Calls.mono ((cDefine w0 R L B N d (.slice ao no co) (tl ts) _ hC1.rd hC1.rt hN).mono (fun _ _ h => ps_def hC1 h)) ?_; rintro e w2 ⟨v, rfl, h2⟩))
      go_ret
      exact ⟨hRf.trans h2.1, h2.2⟩
    rw [if_neg h4]
    by_cases h5 : text = kwX 5
    . rw [if_pos h5]
      have e5 : text = [105, 102] := h5
      clear h5
      subst e5
      clear c81
      go_enter Tryz.func59, Tryz.ntmps59
      go_wp2_with (first
        | (go_at_call 85; refine c1.mono ?_; rintro e w1 ⟨rfl, hr1, hk1⟩; have hl1 := hr1.lt; have hC1 := HV.out (w1.alloc (.cells #[.int .i64 1, .string ⟨#[105, 102]⟩, .int .i64 (num : Int), .int .i64 (o' : Int), .int .i64 (line : Int), .int .i64 (col : Int)] 100)) (hk1.alloc _) (hr1.below (bnew _ _)); have hRf := HRF.out (w1.alloc (.cells #[.int .i64 1, .string ⟨#[105, 102]⟩, .int .i64 (num : Int), .int .i64 (o' : Int), .int .i64 (line : Int), .int .i64 (col : Int)] 100)) (hk1.alloc _))
        | (go_at_call 91; refine Calls.mono ((cIf w0 R L B N d ao no co ops (tl ts) _ hC1.rd hC1.rt hC1.op hC1.le).mono (fun _ _ h => ps_pc hC1 h)) ?_; rintro e w2 ⟨v, rfl, h2⟩))
      go_ret
      exact ⟨hRf.trans h2.1, h2.2⟩
    rw [if_neg h5]
    by_cases h6 : text = kwX 6
    . rw [if_pos h6]
      have e6 : text = [109, 101, 97, 115, 117, 114, 101] := h6
      clear h6
      subst e6
      clear c81
      go_enter Tryz.func59, Tryz.ntmps59
      go_wp2_with (first
        | (go_at_call 85; refine c1.mono ?_; rintro e w1 ⟨rfl, hr1, hk1⟩; have hl1 := hr1.lt; have hC1 := HV.out (w1.alloc (.cells #[.int .i64 1, .string ⟨#[109, 101, 97, 115, 117, 114, 101]⟩, .int .i64 (num : Int), .int .i64 (o' : Int), .int .i64 (line : Int), .int .i64 (col : Int)] 100)) (hk1.alloc _) (hr1.below (bnew _ _)); have hRf := HRF.out (w1.alloc (.cells #[.int .i64 1, .string ⟨#[109, 101, 97, 115, 117, 114, 101]⟩, .int .i64 (num : Int), .int .i64 (o' : Int), .int .i64 (line : Int), .int .i64 (col : Int)] 100)) (hk1.alloc _))
        | (go_at_call 92; refine Calls.mono ((cMeasure w0 R L B N d ao no co ops ⟨1, [109, 101, 97, 115, 117, 114, 101], num, o', line, col⟩ (tl ts) _ hC1.rd hC1.rt hC1.op hC1.le).mono (fun _ _ h => ps_pc hC1 h)) ?_; rintro e w2 ⟨v, rfl, h2⟩))
      go_ret
      exact ⟨hRf.trans h2.1, h2.2⟩
    rw [if_neg h6]
    by_cases h7 : text = kwX 7
    . rw [if_pos h7]
      have e7 : text = [114, 101, 115, 101, 116] := h7
      clear h7
      subst e7
      clear c81
      go_enter Tryz.func59, Tryz.ntmps59
      go_wp2_with (first
        | (go_at_call 85; refine c1.mono ?_; rintro e w1 ⟨rfl, hr1, hk1⟩; have hl1 := hr1.lt; have hC1 := HV.out (w1.alloc (.cells #[.int .i64 1, .string ⟨#[114, 101, 115, 101, 116]⟩, .int .i64 (num : Int), .int .i64 (o' : Int), .int .i64 (line : Int), .int .i64 (col : Int)] 100)) (hk1.alloc _) (hr1.below (bnew _ _)); have hRf := HRF.out (w1.alloc (.cells #[.int .i64 1, .string ⟨#[114, 101, 115, 101, 116]⟩, .int .i64 (num : Int), .int .i64 (o' : Int), .int .i64 (line : Int), .int .i64 (col : Int)] 100)) (hk1.alloc _))
        | (go_at_call 93; refine Calls.mono ((hRs rfl w0 R L B N d ao no co ops ⟨1, [114, 101, 115, 101, 116], num, o', line, col⟩ (tl ts) _ hC1).mono (fun _ _ h => ps_pc hC1 h)) ?_; rintro e w2 ⟨v, rfl, h2⟩))
      go_ret
      exact ⟨hRf.trans h2.1, h2.2⟩
    rw [if_neg h7]
    by_cases h8 : text = kwX 8
    . rw [if_pos h8]
      have e8 : text = [98, 97, 114, 114, 105, 101, 114] := h8
      clear h8
      subst e8
      clear c81
      go_enter Tryz.func59, Tryz.ntmps59
      go_wp2_with (first
        | (go_at_call 85; refine c1.mono ?_; rintro e w1 ⟨rfl, hr1, hk1⟩; have hl1 := hr1.lt; have hC1 := HV.out (w1.alloc (.cells #[.int .i64 1, .string ⟨#[98, 97, 114, 114, 105, 101, 114]⟩, .int .i64 (num : Int), .int .i64 (o' : Int), .int .i64 (line : Int), .int .i64 (col : Int)] 100)) (hk1.alloc _) (hr1.below (bnew _ _)); have hRf := HRF.out (w1.alloc (.cells #[.int .i64 1, .string ⟨#[98, 97, 114, 114, 105, 101, 114]⟩, .int .i64 (num : Int), .int .i64 (o' : Int), .int .i64 (line : Int), .int .i64 (col : Int)] 100)) (hk1.alloc _))
        | (go_at_call 94; refine Calls.mono ((hBr rfl w0 R L B N d ao no co ops ⟨1, [98, 97, 114, 114, 105, 101, 114], num, o', line, col⟩ (tl ts) _ hC1).mono (fun _ _ h => ps_pc hC1 h)) ?_; rintro e w2 ⟨v, rfl, h2⟩))
      go_ret
      exact ⟨hRf.trans h2.1, h2.2⟩
    rw [if_neg h8]
    have s1 : ((⟨text.toArray⟩ : ByteArray).toList == [105, 110, 99, 108, 117, 100, 101]) = false := by rw [ba_toList]; exact beq_eq_false_iff_ne.2 h1
    have s2 : ((⟨text.toArray⟩ : ByteArray).toList == [113, 114, 101, 103]) = false := by rw [ba_toList]; exact beq_eq_false_iff_ne.2 h2
    have s3 : ((⟨text.toArray⟩ : ByteArray).toList == [99, 114, 101, 103]) = false := by rw [ba_toList]; exact beq_eq_false_iff_ne.2 h3
    have s4 : ((⟨text.toArray⟩ : ByteArray).toList == [103, 97, 116, 101]) = false := by rw [ba_toList]; exact beq_eq_false_iff_ne.2 h4
    have s5 : ((⟨text.toArray⟩ : ByteArray).toList == [105, 102]) = false := by rw [ba_toList]; exact beq_eq_false_iff_ne.2 h5
    have s6 : ((⟨text.toArray⟩ : ByteArray).toList == [109, 101, 97, 115, 117, 114, 101]) = false := by rw [ba_toList]; exact beq_eq_false_iff_ne.2 h6
    have s7 : ((⟨text.toArray⟩ : ByteArray).toList == [114, 101, 115, 101, 116]) = false := by rw [ba_toList]; exact beq_eq_false_iff_ne.2 h7
    have s8 : ((⟨text.toArray⟩ : ByteArray).toList == [98, 97, 114, 114, 105, 101, 114]) = false := by rw [ba_toList]; exact beq_eq_false_iff_ne.2 h8
    have HCC := hide (fun V (h : Cx w0 V R L B N d ao no co ops (tl ts)) => (cCall w0 R L B N d ao no co ops ⟨1, text, num, o', line, col⟩ (tl ts) (-1) 0 (show text.length <= 140737488355328 by omega) V h.rd h.rt h.op h.le).mono (fun _ _ hh => ps_pc h hh))
    unfold tkV at HCC
    simp only at HCC
    clear c81 hRs hBr h1 h2 h3 h4 h5 h6 h7 h8
    generalize (⟨text.toArray⟩ : ByteArray) = s at *
    go_enter Tryz.func59, Tryz.ntmps59
    go_wp2_with (first
      | (go_at_call 85; refine c1.mono ?_; rintro e w1 ⟨rfl, hr1, hk1⟩; have hl1 := hr1.lt; have hC1 := HV.out (w1.alloc (.cells #[.int .i64 1, .string s, .int .i64 (num : Int), .int .i64 (o' : Int), .int .i64 (line : Int), .int .i64 (col : Int)] 100)) (hk1.alloc _) (hr1.below (bnew _ _)); have hRf := HRF.out (w1.alloc (.cells #[.int .i64 1, .string s, .int .i64 (num : Int), .int .i64 (o' : Int), .int .i64 (line : Int), .int .i64 (col : Int)] 100)) (hk1.alloc _))
      | (go_at_call 95; refine Calls.mono (HCC.out _ hC1) ?_; rintro e w2 ⟨v, rfl, h2⟩))
    go_ret
    exact ⟨hRf.trans h2.1, h2.2⟩
  . rw [if_pos hk]
    have e1 : ((kind : Int) != 1) = true := by simp; omega
    have e2 : ((kind : Int) == 1) = false := by simp; omega
    clear hRs hBr
    go_enter Tryz.func59, Tryz.ntmps59
    go_wp2_with (first
      | (go_at_call 85; refine c1.mono ?_; rintro e w1 ⟨rfl, hr1, hk1⟩; have hl1 := hr1.lt; have hC1 := HV.out (w1.alloc (.cells #[.int .i64 (kind : Int), .string ⟨text.toArray⟩, .int .i64 (num : Int), .int .i64 (o' : Int), .int .i64 (line : Int), .int .i64 (col : Int)] 100)) (hk1.alloc _) (hr1.below (bnew _ _)); have hRf := HRF.out (w1.alloc (.cells #[.int .i64 (kind : Int), .string ⟨text.toArray⟩, .int .i64 (num : Int), .int .i64 (o' : Int), .int .i64 (line : Int), .int .i64 (col : Int)] 100)) (hk1.alloc _))
      | (go_at_call 87; refine (c81 _).mono ?_; rintro e w2 ⟨rfl, hb2⟩))
    go_ret
    exact ⟨hRf.trans (Rf.below hb2), rfl, (hC1.rd.below hb2).bel⟩
theorem tl_sf : ∀ (ts : List T), tl ts <:+ ts
  | [] => List.suffix_refl _
  | t :: r => by
    rw [tl_cons]
    split
    . exact List.suffix_refl _
    . exact List.suffix_cons t r
theorem pExp_sf {k : Nat} {x : Nm} {ts ts' : List T} {u : Unit} (h : pExp k x ts = .ok u ts') : ts' <:+ ts := by
  unfold pExp at h
  split at h
  . simp only [Res.ok.injEq] at h; rw [← h.2]; exact tl_sf _
  . cases h
theorem pMks_sf : ∀ {ms : List Nm} {ts ts' : List T} {u : Unit}, pMks ms ts = .ok u ts' -> ts' <:+ ts
  | [], ts, ts', u, h => by simp only [pMks, Res.ok.injEq] at h; rw [← h.2]; exact List.suffix_refl _
  | m :: r, ts, ts', u, h => by
    rw [pMks] at h
    split at h
    . exact (pMks_sf h).trans (tl_sf _)
    . cases h
theorem pNam_sf {ts ts' : List T} {t : T} (h : pNam ts = .ok t ts') : ts' <:+ ts := by
  unfold pNam at h
  split at h
  . simp only [Res.ok.injEq] at h; rw [← h.2]; exact tl_sf _
  . cases h
theorem pNum_sf {lo hi : Int} {ts ts' : List T} {n : Nat} (h : pNum lo hi ts = .ok n ts') : ts' <:+ ts := by
  unfold pNum at h
  split at h
  . cases h
  . split at h
    . cases h
    . simp only [Res.ok.injEq] at h; rw [← h.2]; exact tl_sf _
theorem pNew_sf {d : Dc} {ts ts' : List T} {x : Nm} (h : pNew d ts = .ok x ts') : ts' <:+ ts := by
  unfold pNew at h
  split at h
  . cases h
  . rename_i h1
    split at h
    . cases h
    . simp only [Res.ok.injEq] at h; rw [← h.2]; exact pNam_sf h1
theorem pReg_sf {b : Bk} {ts ts' : List T} {r : Rg} (h : pReg b ts = .ok r ts') : ts' <:+ ts := by
  unfold pReg at h
  split at h
  . cases h
  . rename_i h1
    split at h
    . cases h
    . simp only [Res.ok.injEq] at h; rw [← h.2]; exact pNam_sf h1
theorem pIdx_sf {r : Rg} {ts ts' : List T} {n : Nat} (h : pIdx r ts = .ok n ts') : ts' <:+ ts := by
  unfold pIdx at h
  split at h
  . cases h
  . rename_i h1
    split at h
    . cases h
    . rename_i h2
      split at h
      . cases h
      . rename_i h3
        simp only [Res.ok.injEq] at h
        rw [← h.2]
        exact (pMks_sf h3).trans ((pNum_sf h2).trans (pMks_sf h1))
theorem pArg_sf {b : Bk} {ts ts' : List T} {a : Ag} (h : pArg b ts = .ok a ts') : ts' <:+ ts := by
  unfold pArg at h
  split at h
  . cases h
  . rename_i h1
    split at h
    . split at h
      . cases h
      . rename_i h2
        simp only [Res.ok.injEq] at h
        rw [← h.2]
        exact (pIdx_sf h2).trans (pReg_sf h1)
    . simp only [Res.ok.injEq] at h
      rw [← h.2]
      exact pReg_sf h1
theorem pRow_sf {α : Type} {one : List α -> List T -> Res α} (h : ∀ acc ts a ts', one acc ts = .ok a ts' -> ts' <:+ ts) : ∀ {f : Nat} {acc : List α} {ts : List T} {l : List α} {ts' : List T}, pRow one f acc ts = .ok l ts' -> ts' <:+ ts
  | 0, _, _, _, _, e => by cases e
  | f + 1, acc, ts, l, ts', e => by
    rw [pRow] at e
    cases h1 : one acc ts with
    | no c t => rw [h1] at e; cases e
    | ok a ts1 =>
      rw [h1] at e
      simp only at e
      have h2 := h _ _ _ _ h1
      split at e
      . exact (pRow_sf h e).trans ((tl_sf _).trans h2)
      . simp only [Res.ok.injEq] at e
        rw [← e.2]
        exact h2
theorem pArgs_sf {d : Dc} {ts ts' : List T} {l : List Ag} (h : pArgs d ts = .ok l ts') : ts' <:+ ts := by
  unfold pArgs at h
  split at h
  . cases h
  . rename_i h1
    split at h
    . cases h
    . rename_i h2
      simp only [Res.ok.injEq] at h
      rw [← h.2]
      exact (pMks_sf h2).trans (pRow_sf (fun _ _ _ _ e => pArg_sf e) h1)
theorem pNames_sf {ts ts' : List T} {l : List Nm} (h : pNames ts = .ok l ts') : ts' <:+ ts := by
  unfold pNames at h
  refine pRow_sf (fun acc ts a ts' e => ?_) h
  unfold oneName at e
  split at e
  . cases e
  . rename_i h1
    split at e
    . cases e
    . simp only [Res.ok.injEq] at e; rw [← e.2]; exact pNam_sf h1
theorem pGiven_sf {names : List Nm} {ts ts' : List T} {l : List Nat} (h : pGiven names ts = .ok l ts') : ts' <:+ ts := by
  unfold pGiven at h
  split at h
  . cases h
  . rename_i h1
    split at h
    . cases h
    . rename_i h2
      simp only [Res.ok.injEq] at h
      rw [← h.2]
      refine (pMks_sf h2).trans (pRow_sf (fun acc ts a ts' e => ?_) h1)
      unfold oneGiven at e
      split at e
      . cases e
      . rename_i h3
        split at e
        . cases e
        . simp only [Res.ok.injEq] at e; rw [← e.2]; exact pNam_sf h3
theorem pInner_sf {d : Dc} {names : List Nm} {body b' : List PO} {ts ts' : List T} (h : pInner d names body ts = .ok b' ts') : ts' <:+ ts := by
  unfold pInner at h
  simp only at h
  split at h
  . cases h
  . rename_i g ts1 h1
    have e1 : ts1 = tl ts := by
      split at h1
      . simp only [Res.ok.injEq] at h1; exact h1.2.symm
      . exact pCallee_ok h1
    split at h
    . cases h
    . rename_i l ts2 h2
      have h3 := pGiven_sf h2
      generalize (if isT 1 barX (hd ts) = true then sng 4 0 l.length else g) = g' at h
      split at h
      . cases h
      . split at h
        . cases h
        . simp only [Res.ok.injEq] at h
          subst e1
          rw [← h.2]
          exact h3.trans (tl_sf _)
theorem pBody_sf {d : Dc} {names : List Nm} : ∀ {f : Nat} {body b' : List PO} {ts ts' : List T}, pBody d names f body ts = .ok b' ts' -> ts' <:+ ts
  | 0, _, _, _, _, e => by cases e
  | f + 1, body, b', ts, ts', e => by
    rw [pBody] at e
    split at e
    . simp only [Res.ok.injEq] at e; rw [← e.2]; exact List.suffix_refl _
    . split at e
      . cases e
      . rename_i h1
        exact (pBody_sf e).trans (pInner_sf h1)
theorem pDefine_sf {d d' : Dc} {ts ts' : List T} (h : pDefine d ts = .ok d' ts') : ts' <:+ ts := by
  unfold pDefine at h
  split at h
  . cases h
  . rename_i h1
    split at h
    . cases h
    . rename_i h2
      split at h
      . cases h
      . rename_i h3
        split at h
        . cases h
        . rename_i h4
          split at h
          . cases h
          . rename_i h5
            simp only [Res.ok.injEq] at h
            rw [← h.2]
            exact (pMks_sf h5).trans ((pBody_sf h4).trans ((pMks_sf h3).trans ((pNames_sf h2).trans (pNew_sf h1))))
theorem pRegister_sf {d : Dc} {b b' : Bk} {ts ts' : List T} (h : pRegister d b ts = .ok b' ts') : ts' <:+ ts := by
  unfold pRegister at h
  split at h
  . cases h
  . rename_i h1
    split at h
    . cases h
    . rename_i h2
      split at h
      . cases h
      . rename_i h3
        split at h
        . cases h
        . rename_i h4
          simp only [Res.ok.injEq] at h
          rw [← h.2]
          exact (pMks_sf h4).trans ((pNum_sf h3).trans ((pMks_sf h2).trans (pNew_sf h1)))
theorem pInclude_sf {ts ts' : List T} {u : Unit} (h : pInclude ts = .ok u ts') : ts' <:+ ts := by
  unfold pInclude at h
  split at h
  . cases h
  . rename_i h1
    exact (pMks_sf h).trans (pExp_sf h1)
theorem pCall_sf {d : Dc} {ops o' : List COp} {t : T} {on : Int × Nat} {ts ts' : List T} (h : pCall d ops t on ts = .ok o' ts') : ts' <:+ ts := by
  unfold pCall at h
  split at h
  . cases h
  . rename_i h1
    have e1 := pCallee_ok h1
    split at h
    . cases h
    . rename_i h2
      have h3 := pArgs_sf h2
      split at h
      . cases h
      . split at h
        . cases h
        . split at h
          . cases h
          . simp only [Res.ok.injEq] at h
            rw [← h.2]
            rw [e1] at h3
            exact h3
theorem pIf_sf {d : Dc} {ops o' : List COp} {ts ts' : List T} (h : pIf d ops ts = .ok o' ts') : ts' <:+ ts := by
  unfold pIf at h
  split at h
  . cases h
  . rename_i h1
    split at h
    . cases h
    . rename_i h2
      split at h
      . cases h
      . rename_i h3
        split at h
        . cases h
        . rename_i h4
          split at h
          . cases h
          . rename_i h5
            split at h
            . cases h
            . rename_i h6
              exact (pCall_sf h).trans ((tl_sf _).trans ((pMks_sf h6).trans ((pNum_sf h5).trans ((pMks_sf h4).trans ((pIdx_sf h3).trans ((pReg_sf h2).trans (pMks_sf h1)))))))
theorem pMeasure_sf {d : Dc} {ops o' : List COp} {t : T} {ts ts' : List T} (h : pMeasure d ops t ts = .ok o' ts') : ts' <:+ ts := by
  unfold pMeasure at h
  split at h
  . cases h
  . rename_i h1
    split at h
    . cases h
    . rename_i h2
      split at h
      . cases h
      . rename_i h3
        split at h
        . cases h
        . rename_i h4
          split at h
          . cases h
          . split at h
            . cases h
            . simp only [Res.ok.injEq] at h
              rw [← h.2]
              exact (pMks_sf h4).trans ((pArg_sf h3).trans ((pMks_sf h2).trans (pArg_sf h1)))
theorem pReset_sf {d : Dc} {ops o' : List COp} {t : T} {ts ts' : List T} (h : pReset d ops t ts = .ok o' ts') : ts' <:+ ts := by
  unfold pReset at h
  split at h
  . cases h
  . rename_i h1
    split at h
    . cases h
    . rename_i h2
      split at h
      . cases h
      . simp only [Res.ok.injEq] at h
        rw [← h.2]
        exact (pMks_sf h2).trans (pArg_sf h1)
theorem pBarrier_sf {d : Dc} {ops o' : List COp} {t : T} {ts ts' : List T} (h : pBarrier d ops t ts = .ok o' ts') : ts' <:+ ts := by
  unfold pBarrier at h
  split at h
  . cases h
  . rename_i h1
    split at h
    . cases h
    . split at h
      . cases h
      . simp only [Res.ok.injEq] at h
        rw [← h.2]
        exact pArgs_sf h1
theorem Res.map_ok {α β : Type} {f : α -> β} {P : Res α} {b : β} {ts : List T} (h : P.map f = .ok b ts) : ∃ a, P = .ok a ts := by
  cases P with
  | ok a ts' =>
    simp only [Res.map, Res.ok.injEq] at h
    exact ⟨a, by rw [h.2]⟩
  | no c t => cases h
theorem pStmt_sf {s s' : St} {ts ts' : List T} (h : pStmt s ts = .ok s' ts') : ts' <:+ tl ts /\ (hd ts).kind ≠ 0 := by
  unfold pStmt at h
  simp only at h
  split at h
  . cases h
  . rename_i hk
    refine ⟨?_, by omega⟩
    split at h
    . obtain ⟨a, e⟩ := Res.map_ok h; exact pInclude_sf e
    . split at h
      . obtain ⟨a, e⟩ := Res.map_ok h; exact pRegister_sf e
      . split at h
        . obtain ⟨a, e⟩ := Res.map_ok h; exact pRegister_sf e
        . split at h
          . obtain ⟨a, e⟩ := Res.map_ok h; exact pDefine_sf e
          . split at h
            . obtain ⟨a, e⟩ := Res.map_ok h; exact pIf_sf e
            . split at h
              . obtain ⟨a, e⟩ := Res.map_ok h; exact pMeasure_sf e
              . split at h
                . obtain ⟨a, e⟩ := Res.map_ok h; exact pReset_sf e
                . split at h
                  . obtain ⟨a, e⟩ := Res.map_ok h; exact pBarrier_sf e
                  . obtain ⟨a, e⟩ := Res.map_ok h; exact pCall_sf e
theorem Rt.first {w : World} {R : Nat} {x : X} {o : Value} {ts : List T} (h : Rt w R x o ts) : ∃ off n c, w.cell? ⟨R, 7, none⟩ = some (.slice (some ⟨x.bt, off, none⟩) (n + 1) c) /\ w.cell? ⟨x.bt, off, none⟩ = some (.int .i64 ((hd ts).kind : Int)) /\ x.bt < w.heap.size := by
  obtain ⟨⟨v, hb, off, c, cs, fr, rfl, hc, ht, hcs⟩, hF⟩ := h
  cases ts with
  | nil => exact hF.ends.elim
  | cons t r =>
    unfold rbO at hb
    refine ⟨off, r.length, c, cell_of_row _ _ 7 _ _ _ hb, (cell_of_row _ _ _ _ _ _ ht).trans ?_, (Array.getElem?_eq_some_iff.1 ht).1⟩
    exact hcs 0 (.int .i64 (t.kind : Int)) (by rw [tvs_cons]; rfl)
def PQ (R : Nat) (L : Ly) (w0 w : World) (P : Res St) (e : Ending) (w' : World) : Prop := Rf w w' /\ match P with
  | .ok s ts' => e = .returned .nilIface /\ ∃ B' N' ao' n' c', Cx w0 w' R L B' N' s.d ao' n' c' s.ops ts'
  | .no c t => e = .returned (erV c t) /\ Below w0.heap.size w0 w'
theorem pProg_fin {ts ts1 ts2 ts3 : List T} {u1 u2 u3 : Unit} (h1 : pExp 1 (kwX 0) ts = .ok u1 ts1) (h2 : pExp 3 [50, 46, 48] ts1 = .ok u2 ts2) (h3 : pMks [[59]] ts2 = .ok u3 ts3) : pProg ts = pStmts (ts3.length + 1) ⟨dc0, []⟩ ts3 := by
  unfold pProg
  rw [h1]
  simp only
  rw [h2]
  simp only
  rw [h3]
theorem cProgram (w0 : World) (R : Nat) (L : Ly) (B : Nat) (ao : Option Addr) (no co : Nat) (ts : List T) (w : World) (hC : Cx w0 w R L B 0 dc0 ao no co [] ts) (hRs : ∀ t ∈ ts, t.text = kwX 7 -> RsOk) (hBr : ∀ t ∈ ts, t.text = kwX 8 -> BrOk) :
    Calls Tryz.prog 25 #[.pointer (some ⟨R, 0, none⟩)] w (PQ R L w0 w (pProg ts)) := by
  have eG := erG
  have eN := erN
  have hlt := hC.rt.lt
  have hln := hC.rt.fine.len
  have c1 : Calls Tryz.prog 57 #[.pointer (some ⟨R, 0, none⟩), .int .i64 1, .string ⟨#[79, 80, 69, 78, 81, 65, 83, 77]⟩] w (PT R (xOf L dc0) (.slice ao no co) w (fun _ => .nilIface) id (pExp 1 (kwX 0) ts)) := cExpect R (xOf L dc0) (.slice ao no co) ts 1 (kwX 0) w hC.rt
  have HV : Hid (∀ V, Kb [R] w V -> Below w0.heap.size w0 V) := hide (fun V hk => (hC.rd.turn hC.rt hk).bel)
  have HRF : Hid (∀ V, Kb [R] w V -> Rf w V) := hide (fun V hk => Rf.kb hk fun m hm cs t fr hg => by
    rw [List.mem_singleton] at hm
    subst hm
    rw [hC.rt.rdr hg]; decide)
  cases h1 : pExp 1 (kwX 0) ts with
  | no c t =>
    rw [h1] at c1
    rw [show pProg ts = .no c t by unfold pProg; rw [h1]]
    go_enter Tryz.func25, Tryz.ntmps25
    go_wp2_with (first | (go_at_call 57; (with_reducible refine Calls.mono c1 ?_); rintro e w1 ⟨rfl, hn1, hk1⟩))
    go_ret
    exact ⟨HRF.out _ hk1, rfl, HV.out _ hk1⟩
  | ok u1 ts1 =>
  rw [h1] at c1
  have HC2 : Hid (∀ V, Rt V R (xOf L dc0) (.slice ao no co) ts1 -> Calls Tryz.prog 57 #[.pointer (some ⟨R, 0, none⟩), .int .i64 3, .string ⟨#[50, 46, 48]⟩] V (PT R (xOf L dc0) (.slice ao no co) V (fun _ => .nilIface) id (pExp 3 [50, 46, 48] ts1))) := hide (fun V hr => cExpect R (xOf L dc0) (.slice ao no co) ts1 3 [50, 46, 48] V hr)
  cases h2 : pExp 3 [50, 46, 48] ts1 with
  | no c t =>
    rw [h2] at HC2
    rw [show pProg ts = .no c t by unfold pProg; rw [h1]; simp only; rw [h2]]
    go_enter Tryz.func25, Tryz.ntmps25
    go_wp2_with (first
      | (go_at_call 57; (with_reducible refine Calls.mono c1 ?_); rintro e w1 ⟨rfl, hr1, hk1⟩)
      | (go_at_call 57; (with_reducible refine Calls.mono (HC2.out _ hr1) ?_); rintro e w2 ⟨rfl, hn2, hk2⟩))
    go_ret
    exact ⟨HRF.out _ (hk1.trans hk2), rfl, HV.out _ (hk1.trans hk2)⟩
  | ok u2 ts2 =>
  rw [h2] at HC2
  have c3 := fun W (h : Rt W R (xOf L dc0) (.slice ao no co) ts2) => cMark1 R (xOf L dc0) (.slice ao no co) ts2 [59] W h
  cases h3 : pMks [[59]] ts2 with
  | no c t =>
    rw [h3] at c3
    rw [show pProg ts = .no c t by unfold pProg; rw [h1]; simp only; rw [h2]; simp only; rw [h3]]
    go_enter Tryz.func25, Tryz.ntmps25
    go_wp2_with (first
      | (go_at_call 57; (with_reducible refine Calls.mono c1 ?_); rintro e w1 ⟨rfl, hr1, hk1⟩)
      | (go_at_call 57; (with_reducible refine Calls.mono (HC2.out _ hr1) ?_); rintro e w2 ⟨rfl, hr2, hk2⟩)
      | (go_at_call 58; refine (c3 _ hr2).mono ?_; rintro e w3 ⟨rfl, hn3, hk3⟩))
    go_ret
    exact ⟨HRF.out _ ((hk1.trans hk2).trans hk3), rfl, HV.out _ ((hk1.trans hk2).trans hk3)⟩
  | ok u3 ts3 =>
  rw [h3] at c3
  generalize hP : pProg ts = P
  have HP : Hid (pStmts (ts3.length + 1) ⟨dc0, []⟩ ts3 = P) := hide (by rw [← hP, pProg_fin h1 h2 h3])
  have hsf : ts3 <:+ ts := (pMks_sf h3).trans ((pExp_sf h2).trans (pExp_sf h1))
  have HST : Hid (∀ V, Kb [R] w V -> Rt V R (xOf L dc0) (.slice ao no co) ts3 -> Cx w0 V R L B 0 dc0 ao no co [] ts3) := hide (fun V hk hr => ⟨hC.rd.turn hC.rt hk, hr, hC.op.turn hC.rt hk, hC.le⟩)
  clear hP
  go_enter Tryz.func25, Tryz.ntmps25
  go_wp2_with (first
    | (go_at_call 57; (with_reducible refine Calls.mono c1 ?_); rintro e w1 ⟨rfl, hr1, hk1⟩)
    | (go_at_call 57; (with_reducible refine Calls.mono (HC2.out _ hr1) ?_); rintro e w2 ⟨rfl, hr2, hk2⟩)
    | (go_at_call 58; refine (c3 _ hr2).mono ?_; rintro e w3 ⟨rfl, hr3, hk3⟩))
  have HR3 := HRF.out _ ((hk1.trans hk2).trans hk3)
  have HCX := hide (HST.out _ ((hk1.trans hk2).trans hk3) hr3)
  clear c1 c3 HC2 hr1 hr2 hr3 hk1 hk2 hk3 h1 h2 h3 HST
  go_loopw [6] (fun _ wr => ∃ (n : Nat) (s : St) (ts' : List T) (B' N' : Nat) (ao' : Option Addr) (n' c' : Nat), ts'.length < n /\ Hid (pStmts n s ts' = P) /\ Cx w0 wr R L B' N' s.d ao' n' c' s.ops ts' /\ ts' <:+ ts /\ N' + ts'.length <= ts.length /\ Rf w wr) (fun _ wr => lenAt wr R)
  case atStart => exact ⟨_, ⟨dc0, []⟩, ts3, B, 0, ao, no, co, by omega, HP, HCX.out, hsf, by have := hsf.length_le; omega, HR3⟩
  case round =>
    clear HP HCX
    obtain ⟨n, s, ts', B', N', ao', n', c', hn, HP, hcx, hsf', hNl, hRf⟩ := hrel
    obtain ⟨n, rfl⟩ : ∃ n', n = n' + 1 := ⟨n - 1, by omega⟩
    have hle := lenAt_eq hcx.rt
    obtain ⟨off, m, c, k7, k0, kl⟩ := hcx.rt.first
    have hlr := hcx.rt.lt
    have hne := hcx.rt.fine.ends.ne
    have hpos : 0 < ts'.length := List.length_pos_iff.2 hne
    have hP := HP.out
    rw [pStmts] at hP
    have k0' : wr.cell? ⟨L.bt, off, none⟩ = some (.int .i64 ((Cir.hd ts').kind : Int)) := k0
    have k7' : wr.cell? ⟨R, 7, none⟩ = some (.slice (some ⟨L.bt, off, none⟩) (m + 1) c) := k7
    have kl' : L.bt < wr.heap.size := kl
    clear k0 k7 kl
    by_cases hk : (Cir.hd ts').kind = 0
    . rw [if_pos hk] at hP
      rw [hk] at k0'
      have HP2 := hide hP
      have HCX := hide hcx
      clear hP HP hcx
      go_wp2_with fail
      go_ret
      rw [← HP2.out]
      exact ⟨hRf, rfl, B', N', ao', n', c', HCX.out⟩
    . rw [if_neg hk] at hP
      generalize hkk : (Cir.hd ts').kind = kd at *
      have e1 : ((kd : Int) != 0) = true := by simp; omega
      have e2 : ((kd : Int) == 0) = false := by simp; omega
      have hmem : Cir.hd ts' ∈ ts := by
        refine hsf'.subset ?_
        cases ts' with
        | nil => exact absurd rfl hne
        | cons t r => exact List.mem_cons_self ..
      have c5 := cStatement w0 R L B' N' s.d ao' n' c' s.ops ts' wr hcx (by omega) (hRs _ hmem) (hBr _ hmem)
      cases h2 : pStmt s ts' with
      | no c t =>
        rw [show pStmt ⟨s.d, s.ops⟩ ts' = _ from h2] at c5
        rw [h2] at hP
        have HP2 := hide hP
        clear hP HP
        go_wp2_with (first | (go_at_call 59; (with_reducible refine Calls.mono c5 ?_); rintro e w5 ⟨hf5, rfl, hb5⟩))
        go_ret
        rw [← HP2.out]
        exact ⟨hRf.trans hf5, rfl, hb5⟩
      | ok s' ts1 =>
        rw [show pStmt ⟨s.d, s.ops⟩ ts' = _ from h2] at c5
        rw [h2] at hP
        simp only at hP
        have HP2 := hide hP
        obtain ⟨hs1, hs2⟩ := pStmt_sf h2
        have hl1 := tl_lt1 hs2 hne
        have hl2 := hs1.length_le
        clear hP HP
        go_wp2_with (first | (go_at_call 59; (with_reducible refine Calls.mono c5 ?_); rintro e w5 ⟨hf5, rfl, B5, ao5, n5, c5', hcx5⟩))
        go_roundw
        case rel => exact ⟨n, s', ts1, B5, N' + 1, ao5, n5, c5', by omega, HP2, hcx5, (hs1.trans (tl_sf _)).trans hsf', by omega, hRf.trans hf5⟩
        case measure => rw [lenAt_eq hcx5.rt, hle]; omega
theorem infoDc : (Tryz.prog.info? 65).map (·.size) = some 7 := by kernel_rfl
theorem allD7 (a b c : Nat) : (#[Value.map (some a), .int .i64 0, .int .i64 64, .map (some b), .int .i64 0, .int .i64 64, .map (some c)]).all (·.oneCell') = true := by simp [Value.oneCell']
theorem cNothing (w : World) : Calls Tryz.prog 23 #[] w fun e w' => ∃ mq mb md, e = .returned (.agg #[.map (some mq), .int .i64 0, .int .i64 64, .map (some mb), .int .i64 0, .int .i64 64, .map (some md)]) /\ w.heap.size <= mq /\ mq < mb /\ mb < md /\ Mp w' mq 0 (fun _ => none) /\ Mp w' mb 0 (fun _ => none) /\ Mp w' md 0 (fun _ => none) /\ Below w.heap.size w w' := by
  have hmk := @run_makeMap Tryz.prog
  have hA : ((((w.alloc (.cells #[.map none, .int .i64 0, .int .i64 0, .map none, .int .i64 0, .int .i64 0, .map none] 65)).alloc (.map #[] 0)).alloc (.map #[] 0)).alloc (.map #[] 0)).heap[w.heap.size]? = some (.cells #[.map none, .int .i64 0, .int .i64 0, .map none, .int .i64 0, .int .i64 0, .map none] 65 (0, 0)) :=
    (Below.heap_alloc _ _ _ (by simp; omega)).trans ((Below.heap_alloc _ _ _ (by simp; omega)).trans ((Below.heap_alloc _ _ _ (by simp)).trans (heap_alloc_new _ _)))
  have h1 : Mp ((((w.alloc (.cells #[.map none, .int .i64 0, .int .i64 0, .map none, .int .i64 0, .int .i64 0, .map none] 65)).alloc (.map #[] 0)).alloc (.map #[] 0)).alloc (.map #[] 0)) (w.heap.size + 1) 0 (fun _ => none) := by
    have := ((Mp.new (w.alloc (.cells #[.map none, .int .i64 0, .int .i64 0, .map none, .int .i64 0, .int .i64 0, .map none] 65))).below (bnew _ (.map #[] 0))).below (bnew _ (.map #[] 0))
    simpa using this
  have h2 : Mp ((((w.alloc (.cells #[.map none, .int .i64 0, .int .i64 0, .map none, .int .i64 0, .int .i64 0, .map none] 65)).alloc (.map #[] 0)).alloc (.map #[] 0)).alloc (.map #[] 0)) (w.heap.size + 1 + 1) 0 (fun _ => none) := by
    have := (Mp.new ((w.alloc (.cells #[.map none, .int .i64 0, .int .i64 0, .map none, .int .i64 0, .int .i64 0, .map none] 65)).alloc (.map #[] 0))).below (bnew _ (.map #[] 0))
    simpa using this
  have h3 : Mp ((((w.alloc (.cells #[.map none, .int .i64 0, .int .i64 0, .map none, .int .i64 0, .int .i64 0, .map none] 65)).alloc (.map #[] 0)).alloc (.map #[] 0)).alloc (.map #[] 0)) (w.heap.size + 1 + 1 + 1) 0 (fun _ => none) := by
    have := Mp.new (((w.alloc (.cells #[.map none, .int .i64 0, .int .i64 0, .map none, .int .i64 0, .int .i64 0, .map none] 65)).alloc (.map #[] 0)).alloc (.map #[] 0))
    simpa using this
  have hb : Below w.heap.size w ((((w.alloc (.cells #[.map none, .int .i64 0, .int .i64 0, .map none, .int .i64 0, .int .i64 0, .map none] 65)).alloc (.map #[] 0)).alloc (.map #[] 0)).alloc (.map #[] 0)) := (bnew _ _).trans (((bnew _ _).trans (((bnew _ _).trans ((bnew _ _).mono (by simp))).mono (by simp))).mono (by simp))
  have H1 := hide h1
  have H2 := hide h2
  have H3 := hide h3
  have HB := hide hb
  clear h1 h2 h3 hb
  go_enter Tryz.func23, Tryz.ntmps23
  go_wp2_with (refine wpList_store_row rfl _ _ _ rfl w.heap.size _ rfl rfl _ _ hA (by exact infoDc) (by rfl) (allD7 _ _ _) ?_)
  refine bodyPost_ret (results_c rfl _ _ w.heap.size _ _ _ _ rfl (setRow_heap _ _ _ _ _ _ hA) Tryz.underlying65 rfl (by exact infoDc)) rfl ?_
  refine ⟨w.heap.size + 1, w.heap.size + 1 + 1, w.heap.size + 1 + 1 + 1, rfl, by omega, by omega, by omega, H1.out.of_block (setRow_other _ _ _ _ (by omega)), H2.out.of_block (setRow_other _ _ _ _ (by omega)), H3.out.of_block (setRow_other _ _ _ _ (by omega)), Below.row HB.out _ _ (Nat.le_refl _)⟩
end Go.Proofs.YtnghfdnlcnocjaaGreatDoor.Cir
