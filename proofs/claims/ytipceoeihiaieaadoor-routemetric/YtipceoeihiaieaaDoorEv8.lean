/- append is reckoned as it is run. -/
import Derived.Test.YtipceoeihiaieaaDoorEv7
namespace Go.Proofs.YtipceoeihiaieaaDoor.Ev
open Go
open ren (renR renL)
open plain (plainR plainL)

theorem Gn_put {F : Nat} {K : Nat → Prop} {g : Nat → Option Blk} {h : H} (ha : Agree F K g h) (b : Nat) (x : Option Blk) : Gn g (h.put b x) = fun c => if c = b then x else g c := by
  funext c
  unfold Gn
  rw [H.get_put]
  simp only [H.put, bit_test]
  by_cases e : c = b
  · simp [e]
  · simp only [e, decide_false, Bool.or_false, if_false]
    cases hw : h.wr.testBit c
    · rfl
    · exact (ha.eq c (ha.wr c hw)).symm
theorem Post.kill {F : Nat} {K : Nat → Prop} {M : Mp} {g : Nat → Option Blk} {h : H} {w : World} {b : Nat} (ha : Agree F K g h) (hr : Rep K M g w) :
    Post h (h.put b none) K M g w M w := by
  have hG := Gn_put ha b none
  have sub : ∀ c x, (if c = b then none else g c) = some x → g c = some x := by
    intro c x hc
    by_cases e : c = b
    · rw [if_pos e] at hc; cases hc
    · rwa [if_neg e] at hc
  refine ⟨fun _ _ => rfl, ?_, fun _ _ _ => rfl, fun c x hk hc => ?_, Nat.le_refl _, Env.refl _⟩
  · rw [show (h.put b none).size = h.size from rfl, Kn_self, hG]
    exact ⟨fun c x hc m hm => hr.blk c x (sub c x hc) m hm, fun c x hc => hr.known c x (sub c x hc), fun c d x y hc hd hne => hr.inj c d x y (sub c x hc) (sub d y hd) hne, hr.lt⟩
  · rw [hG] at hc
    exact absurd (hr.known c x (sub c x hc)) hk

/-- The old row is no longer asked; a new one lies where it lay. -/
theorem Post.alias {F : Nat} {K : Nat → Prop} {M : Mp} {g : Nat → Option Blk} {h : H} {w w' : World} {b : Nat} {x0 y : Blk} {p : Pl} (ha : Agree F K g h) (hF : F.testBit h.size = true) (hr : Rep K M g w)
    (hb : g b = some x0) (hs : w'.heap.size = w.heap.size) (hn : ∀ r, r ≠ (M b).b → w'.heap[r]? = w.heap[r]?) (hp : p.b = (M b).b) (hbs : b < h.size)
    (hy : ∀ m, Cl K M m → BlkRel m w' p y) (he : Env w w') : Post h ((h.put b none).push y) K M g w (fun i => if i = h.size then p else M i) w' := by
  have hk0 : ¬ K h.size := ha.free _ hF (Nat.le_refl _)
  have hne : b ≠ h.size := Nat.ne_of_lt hbs
  have hG : Gn g ((h.put b none).push y) = fun c => if c = h.size then some y else if c = b then none else g c := by
    funext c
    unfold Gn
    rw [H.get_push, H.get_put]
    simp only [H.push, H.put, bit_test]
    by_cases e : c = h.size
    · simp [e]
    · by_cases e' : c = b
      · simp [e', hne]
      · simp only [e, e', decide_false, Bool.or_false, if_false]
        cases hw : h.wr.testBit c
        · rfl
        · exact (ha.eq c (ha.wr c hw)).symm
  have hsz : ((h.put b none).push y).size = h.size + 1 := rfl
  have hKn : ∀ i, Kn K h.size (h.size + 1) i ↔ K i ∨ i = h.size := fun i => by
    unfold Kn
    constructor
    · rintro (h | h)
      · exact .inl h
      · exact .inr (by omega)
    · rintro (h | h)
      · exact .inl h
      · exact .inr (by omega)
  have other : ∀ q : Pl, q.b ≠ (M b).b → ∀ m z, BlkRel m w q z → BlkRel m w' q z := by
    intro q hq m z hz
    cases z with
    | row vs sz => unfold BlkRel at hz ⊢; simpa only [hn _ hq] using hz
    | ro vs => unfold BlkRel at hz ⊢; simpa only [World.cell?, hn _ hq] using hz
    | obj o => unfold BlkRel at hz ⊢; simpa only [hn _ hq] using hz
  have sub : ∀ m, Cl (Kn K h.size (h.size + 1)) (fun i => if i = h.size then p else M i) m → Cl K M m := fun m hm b hb =>
    (hm b (.inl hb)).trans (if_neg (fun e => hk0 (by rw [← e]; exact hb)))
  have old : ∀ c z, c ≠ h.size → (if c = h.size then some y else if c = b then none else g c) = some z → g c = some z ∧ c ≠ b := by
    intro c z e hc
    rw [if_neg e] at hc
    by_cases e' : c = b
    · rw [if_pos e'] at hc; cases hc
    · rw [if_neg e'] at hc; exact ⟨hc, e'⟩
  refine ⟨fun c hc => if_neg (fun e => hk0 (by rw [← e]; exact hc)), ?_, fun r _ hh => hn r fun e => hh b x0 hb (by simp [H.push, H.put, bit_test]) e.symm, fun c z hk hc => ?_, Nat.le_of_eq hs.symm, he⟩
  · rw [hsz, hG]
    refine ⟨fun c z hc m hm => ?_, fun c z hc => ?_, fun c d u v hc hd hcd => ?_, fun c hc => ?_⟩
    · by_cases e : c = h.size
      · subst e; simp only [if_true, Option.some.injEq] at hc ⊢; subst hc; exact hy m (sub m hm)
      · obtain ⟨h1, h2⟩ := old c z e hc
        simp only [e, if_false]
        exact other _ (hr.inj c b z x0 h1 hb h2) m z (hr.blk c z h1 m (sub m hm))
    · by_cases e : c = h.size
      · exact (hKn c).2 (.inr e)
      · exact (hKn c).2 (.inl (hr.known c z (old c z e hc).1))
    · by_cases e : c = h.size
      · have e' : d ≠ h.size := fun x => hcd (e.trans x.symm)
        obtain ⟨h1, h2⟩ := old d v e' hd
        simp only [e, e', if_true, if_false, hp]
        exact hr.inj b d x0 v hb h1 (Ne.symm h2)
      · obtain ⟨h1, h2⟩ := old c u e hc
        by_cases e' : d = h.size
        · simp only [e, e', if_true, if_false, hp]
          exact hr.inj c b u x0 h1 hb h2
        · obtain ⟨h3, h4⟩ := old d v e' hd
          simp only [e, e', if_false]
          exact hr.inj c d u v h1 h3 hcd
    · rw [hs]
      by_cases e : c = h.size
      · simp only [e, if_true, hp]; exact hr.lt b (hr.known b x0 hb)
      · simp only [e, if_false]
        exact hr.lt c (((hKn c).1 hc).resolve_right e)
  · rw [hG] at hc
    by_cases e : c = h.size
    · right
      exact ⟨b, x0, hb, by simp [H.push, H.put, bit_test], by simp only [e, if_true, hp]⟩
    · exact absurd (hr.known c z (old c z e hc).1) hk

noncomputable def aappend (P : Program) (t tx : TypeId) (s x : Value) (h : H) : Option (Value × H) :=
  match s, P.underlying t with
  | .slice base sLen cap, some (.slice e) =>
    match P.info? e with
    | none => none
    | some i => match i.zero with
      | none => none
      | some z => match srcOf P h i.size tx x with
        | none => none
        | some (n, news, h1) =>
          bif Nat.beq z.cells.size i.size && news.all single && Nat.ble (sLen + n) 4194304 && Nat.ble i.bytes 1048576 && Nat.beq news.length (n * i.size) then
            match base with
            | none => bif Nat.beq sLen 0 then
                bif Nat.ble (sLen + n) cap then (bif Nat.beq n 0 then some (.slice none (sLen + n) cap, h1) else none)
                else some (.slice (some ⟨h1.size, 0, none⟩) (sLen + n) (Big + (sLen + n)), h1.push (.row news i.size))
              else none
            | some a =>
              match rowAt h1 a (sLen * i.size) with
              | none => none
              | some olds =>
                bif Nat.blt cap Big then
                  bif Nat.ble (sLen + n) cap then
                    match h1.get a.block with
                    | some (.row vs sz) => bif Nat.ble (a.off + sLen * i.size + news.length) vs.length then
                        some (.slice (some a) (sLen + n) cap, h1.put a.block (some (.row (splice vs (a.off + sLen * i.size) news) sz))) else none
                    | _ => none
                  else some (.slice (some ⟨h1.size, 0, none⟩) (sLen + n) (Big + (sLen + n)), (h1.rd a.block).push (.row (olds ++ news) i.size))
                else
                  match h1.get a.block with
                  | some (.row vs sz) => bif Nat.beq sz i.size && Nat.ble (a.off + (cap - Big) * sz) vs.length && Nat.blt a.block h1.size then
                      some (.slice (some ⟨h1.size, 0, none⟩) (sLen + n) (Big + (sLen + n)), (h1.put a.block none).push (.row (olds ++ news) i.size)) else none
                  | _ => none
          else none
  | _, _ => none

theorem grown_run {P : Program} {t tx ty e : TypeId} {i : TypeInfo} {z : Value} (ht : P.underlying t = some (.slice e)) (hi : P.info? e = some i) (hz : i.zero = some z) (hzs : z.cells.size = i.size)
    {base : Option Addr} {sLen cap n : Nat} {olds news : List Value} {x : Value} {w : World}
    (hold : (Builtin.firstCells i.size sLen (.slice base sLen cap)).run P w.drew = .ok olds.toArray w.drew) (hs : Src P i.size tx x n news w) (hol : olds.length = sLen * i.size)
    (hg : cap < sLen + n) (hb1 : sLen + n ≤ 4194304) (hb2 : i.bytes ≤ 1048576) :
    ∃ (ex : Nat) (cs : Array Value) (w' : World), (Builtin.append_ #[t, tx] ty #[.slice base sLen cap, x]).run P w = .ok (.slice (some ⟨w.heap.size, 0, none⟩) (sLen + n) (sLen + n + ex)) w' ∧
      (w'.heap = w.heap.push (.cells cs e) ∧ Env w w') ∧ cs.size = (sLen + n + ex) * i.size ∧ ∀ (j : Nat) (v : Value), (olds ++ news)[j]? = some v → cs[j]? = some v := by
  have hfit : Builtin.nextslicecap (sLen + n) cap * i.bytes ≤ 281474976710656 := by
    have h1 := nextslicecap_le hg
    have h2 : Builtin.nextslicecap (sLen + n) cap * i.bytes ≤ 8388608 * 1048576 := Nat.mul_le_mul (by omega) hb2
    omega
  have hr := run_append_grow_src (P := P) w t tx ty e i z ht hi hz base sLen cap olds hold x n news hs hg (by omega) hfit
  have hge := grownCap_ge w (sLen + n) cap e
  refine ⟨grownCap w (sLen + n) cap e - (sLen + n), (olds ++ news).toArray ++ Builtin.zeroCells z.cells (grownCap w (sLen + n) cap e - (sLen + n)),
    w.drew.alloc (.cells ((olds ++ news).toArray ++ Builtin.zeroCells z.cells (grownCap w (sLen + n) cap e - (sLen + n))) e), ?_, ⟨rfl, rfl, rfl, rfl⟩, ?_, fun j v hj => ?_⟩
  · rw [hr]
    congr 2
    omega
  · simp only [Array.size_append, List.size_toArray, size_zeroCells, hzs, List.length_append, hol, hs.newsLen, ← Nat.add_mul]
  · have hlt : j < (olds ++ news).length := (List.getElem?_eq_some_iff.1 hj).1
    rw [Array.getElem?_append_left (by simpa using hlt)]
    simpa using hj

theorem aappend_le {P : Program} {t tx : TypeId} {s x v : Value} {h h' : H} (e : aappend P t tx s x h = some (v, h')) : Le h h' := by
  unfold aappend at e
  split at e
  case h_2 => cases e
  next base sLen cap el hu =>
  split at e
  · cases e
  next i hi =>
  split at e
  · cases e
  next z hz =>
  split at e
  · cases e
  next n news h1 hsrc =>
  cases hc : (Nat.beq z.cells.size i.size && news.all single && Nat.ble (sLen + n) 4194304 && Nat.ble i.bytes 1048576 && Nat.beq news.length (n * i.size))
  · rw [hc] at e; cases e
  rw [hc] at e
  simp only [cond_true] at e
  have hl1 : Le h h1 := by
    rcases srcOf_le hsrc with rfl | ⟨b, rfl⟩
    · exact Le.refl _
    · exact Le.rd _ _
  refine hl1.trans ?_
  cases base with
  | none =>
    simp only at e
    cases h0 : Nat.beq sLen 0
    · rw [h0] at e; cases e
    rw [h0] at e
    simp only [cond_true] at e
    cases h2 : Nat.ble (sLen + n) cap
    · rw [h2] at e
      simp only [cond_false, Option.some.injEq, Prod.mk.injEq] at e
      rw [← e.2]; exact Le.push _ _
    · rw [h2] at e
      simp only [cond_true] at e
      cases h3 : Nat.beq n 0
      · rw [h3] at e; cases e
      · rw [h3] at e
        simp only [cond_true, Option.some.injEq, Prod.mk.injEq] at e
        rw [← e.2]; exact Le.refl _
  | some a =>
    simp only at e
    split at e
    · cases e
    next olds hol =>
    cases h2 : Nat.blt cap Big
    · rw [h2] at e
      simp only [cond_false] at e
      split at e
      · next vs sz hgt =>
        cases h3 : (Nat.beq sz i.size && Nat.ble (a.off + (cap - Big) * sz) vs.length && Nat.blt a.block h1.size)
        · rw [h3] at e; cases e
        · rw [h3] at e
          simp only [cond_true, Option.some.injEq, Prod.mk.injEq] at e
          rw [← e.2]; exact (Le.put _ _ _ ⟨_, hgt⟩).trans (Le.push _ _)
      · cases e
    · rw [h2] at e
      simp only [cond_true] at e
      cases h3 : Nat.ble (sLen + n) cap
      · rw [h3] at e
        simp only [cond_false, Option.some.injEq, Prod.mk.injEq] at e
        rw [← e.2]; exact (Le.rd _ _).trans (Le.push _ _)
      · rw [h3] at e
        simp only [cond_true] at e
        split at e
        · next vs sz hgt =>
          cases h4 : Nat.ble (a.off + sLen * i.size + news.length) vs.length
          · rw [h4] at e; cases e
          · rw [h4] at e
            simp only [cond_true, Option.some.injEq, Prod.mk.injEq] at e
            rw [← e.2]; exact Le.put _ _ _ ⟨_, hgt⟩
        · cases e
theorem aappend_sound {P : Program} {t tx : TypeId} {s x v : Value} {h h' : H} {F : Nat} {K : Nat → Prop} {M : Mp} {g : Nat → Option Blk} {w : World} {ty : TypeId} {s' x' : Value}
    (e : aappend P t tx s x h = some (v, h')) (hf : Sub h'.fp F) (ha : Agree F K g h) (hr : Rep K M g w) (hs : ∀ m, Cl K M m → s' = ren m s) (hx : ∀ m, Cl K M m → x' = ren m x) :
    Le h h' ∧ ∃ v' M' w', (Builtin.append_ #[t, tx] ty #[s', x']).run P w = .ok v' w' ∧ Post h h' K M g w M' w' ∧ ∀ m, Cl (Kn K h.size h'.size) M' m → v' = ren m v := by
  unfold aappend at e
  split at e
  case h_2 => cases e
  next base sLen cap el hu =>
  split at e
  · cases e
  next i hi =>
  split at e
  · cases e
  next z hz =>
  split at e
  · cases e
  next n news h1 hsrc =>
  cases hc : (Nat.beq z.cells.size i.size && news.all single && Nat.ble (sLen + n) 4194304 && Nat.ble i.bytes 1048576 && Nat.beq news.length (n * i.size))
  · rw [hc] at e; cases e
  rw [hc] at e
  simp only [cond_true] at e
  simp only [Bool.and_eq_true, Nat.beq_eq, Nat.ble_eq] at hc
  obtain ⟨⟨⟨⟨hzs, hsing⟩, hb1⟩, hb2⟩, hnl⟩ := hc
  have hl1 : Le h h1 ∧ h1.wr = h.wr ∧ h1.size = h.size ∧ ∀ b, h1.get b = h.get b := by
    rcases srcOf_le hsrc with rfl | ⟨b, rfl⟩
    · exact ⟨Le.refl _, rfl, rfl, fun _ => rfl⟩
    · exact ⟨Le.rd _ _, rfl, rfl, fun _ => rfl⟩
  obtain ⟨hl1, hw1, hs1, hg1⟩ := hl1
  -- whatever follows, from h1 on
  suffices H : Le h1 h' → Sub h'.fp F → ∃ v' M' w', (Builtin.append_ #[t, tx] ty #[s', x']).run P w = .ok v' w' ∧ Post h1 h' K M g w M' w' ∧ ∀ m, Cl (Kn K h1.size h'.size) M' m → v' = ren m v by
    have hl2 : Le h1 h' := by
      cases base with
      | none =>
        simp only at e
        cases h0 : Nat.beq sLen 0
        · rw [h0] at e; cases e
        rw [h0] at e
        simp only [cond_true] at e
        cases h2 : Nat.ble (sLen + n) cap
        · rw [h2] at e
          simp only [cond_false, Option.some.injEq, Prod.mk.injEq] at e
          rw [← e.2]; exact Le.push _ _
        · rw [h2] at e
          simp only [cond_true] at e
          cases h3 : Nat.beq n 0
          · rw [h3] at e; cases e
          · rw [h3] at e
            simp only [cond_true, Option.some.injEq, Prod.mk.injEq] at e
            rw [← e.2]; exact Le.refl _
      | some a =>
        simp only at e
        split at e
        · cases e
        next olds hol =>
        cases h2 : Nat.blt cap Big
        · rw [h2] at e
          simp only [cond_false] at e
          split at e
          · next vs sz hgt =>
            cases h3 : (Nat.beq sz i.size && Nat.ble (a.off + (cap - Big) * sz) vs.length && Nat.blt a.block h1.size)
            · rw [h3] at e; cases e
            · rw [h3] at e
              simp only [cond_true, Option.some.injEq, Prod.mk.injEq] at e
              rw [← e.2]; exact (Le.put _ _ _ ⟨_, hgt⟩).trans (Le.push _ _)
          · cases e
        · rw [h2] at e
          simp only [cond_true] at e
          cases h3 : Nat.ble (sLen + n) cap
          · rw [h3] at e
            simp only [cond_false, Option.some.injEq, Prod.mk.injEq] at e
            rw [← e.2]; exact (Le.rd _ _).trans (Le.push _ _)
          · rw [h3] at e
            simp only [cond_true] at e
            split at e
            · next vs sz hgt =>
              cases h4 : Nat.ble (a.off + sLen * i.size + news.length) vs.length
              · rw [h4] at e; cases e
              · rw [h4] at e
                simp only [cond_true, Option.some.injEq, Prod.mk.injEq] at e
                rw [← e.2]; exact Le.put _ _ _ ⟨_, hgt⟩
            · cases e
    refine ⟨hl1.trans hl2, ?_⟩
    obtain ⟨v', M', w', r1, r2, r3⟩ := H hl2 hf
    have hP := Post.same ha hr h1 hw1 hs1 hg1
    have hGn := Gn_eq ha h1 hw1 hg1
    refine ⟨v', M', w', r1, ?_, fun m hm => r3 m ?_⟩
    · refine Post.trans ha (hl2.fp.trans hf) hl1 hl2 hP ?_
      rw [hs1, Kn_self, hGn]; exact r2
    · rw [hs1]; exact hm
  intro hl2 hf'
  have hf1 : Sub h1.fp F := hl2.fp.trans hf
  have ha1 : Agree F K g h1 := by
    have := ha.next hl1 hf1
    rwa [hs1, Kn_self, Gn_eq ha h1 hw1 hg1] at this
  have hsr := srcOf_src hsrc hsing hf1 ha hr
  have hxm := hx M Cl.refl
  have hsm := hs M Cl.refl
  have hnews : ∀ m, Cl K M m → news.map (ren m) = news.map (ren M) := fun m hm => by
    have c1 := (hsr m hm).cells
    have c2 := (hsr M Cl.refl).cells
    rw [← hx m hm] at c1
    rw [← hxm] at c2
    rw [c1] at c2
    simp only [Result.ok.injEq, and_true] at c2
    have := congrArg Array.toList c2
    simpa using this
  have hS : Src P i.size tx x' n (news.map (ren M)) w := by have := hsr M Cl.refl; rwa [← hxm] at this
  -- a new row
  have grow : ∀ (base' : Option Addr) (cap' : Nat) (olds : List Value) (hh : Ev.H), s' = .slice base' sLen cap' → olds.length = sLen * i.size → cap' < sLen + n →
      (Builtin.firstCells i.size sLen (.slice base' sLen cap')).run P w.drew = .ok (olds.map (ren M)).toArray w.drew → (∀ m, Cl K M m → olds.map (ren m) = olds.map (ren M)) →
      Le h1 hh → hh.size = h1.size → Post h1 hh K M g w M w → Sub (hh.push (.row (olds ++ news) i.size)).fp F → v = .slice (some ⟨h1.size, 0, none⟩) (sLen + n) (Big + (sLen + n)) →
      h' = hh.push (.row (olds ++ news) i.size) →
      ∃ v' M' w', (Builtin.append_ #[t, tx] ty #[s', x']).run P w = .ok v' w' ∧ Post h1 h' K M g w M' w' ∧ ∀ m, Cl (Kn K h1.size h'.size) M' m → v' = ren m v := by
    intro base' cap' olds hh hs' hol hcap hold holds hle hsz hP hfp hv hh'
    subst hv hh'
    obtain ⟨ex, cs, w', r1, r2, r3, r4⟩ := grown_run (ty := ty) hu hi hz hzs hold hS (by simpa using hol) hcap hb1 hb2
    have hah : Agree F K (Gn g hh) hh := by
      have := ha1.next hle (Sub.trans (Le.push hh (.row (olds ++ news) i.size)).fp hfp)
      rwa [hsz, Kn_self] at this
    have hFs : F.testBit hh.size = true := hfp _ (by simp [H.push, bit_test])
    have hrep : Rep K M (Gn g hh) w := by have := hP.rep; rwa [hsz, Kn_self] at this
    have hpush : Post hh (hh.push (.row (olds ++ news) i.size)) K M (Gn g hh) w (fun j => if j = hh.size then ⟨w.heap.size, 0, ex⟩ else M j) { w with heap := w.heap.push (.cells cs el) } := by
      refine Post.push hah hFs hrep (fun m hm => ?_)
      refine ⟨cs, el, by simp, ?_, fun j u hj => ?_⟩
      · simp only [List.length_append, hol, hnl, r3, Nat.zero_add, Nat.add_mul]; omega
      · have := r4 j (ren m u) (by
          rw [← holds m hm, ← hnews m hm, ← List.map_append, List.getElem?_map, hj]; rfl)
        simpa using this
    refine ⟨.slice (some ⟨w.heap.size, 0, none⟩) (sLen + n) (sLen + n + ex), _, w', by rw [hs']; exact r1, Post.of_heap (w1 := { w with heap := w.heap.push (.cells cs el) }) r2.1 r2.2 (Post.trans ha1 (Sub.trans (Le.push hh (.row (olds ++ news) i.size)).fp hfp) hle (Le.push _ _) hP (by rw [hsz, Kn_self]; exact hpush)), fun m hm => ?_⟩
    have hmn : m hh.size = ⟨w.heap.size, 0, ex⟩ := (hm hh.size (.inr ⟨by rw [hsz]; exact Nat.le_refl _, Nat.lt_succ_self _⟩)).trans (if_pos rfl)
    rw [hsz] at hmn
    simp only [ren, Option.map_some, renA, renC, hmn, Nat.zero_add]
    rw [if_neg (by omega)]
    simp only [Value.slice.injEq, true_and]
    omega
  cases base with
  | none =>
    simp only at e
    have hs' : s' = .slice none sLen cap := by rw [hsm]; simp [ren, renC]
    cases h0 : Nat.beq sLen 0
    · rw [h0] at e; cases e
    rw [h0] at e
    have h0' := Nat.eq_of_beq_eq_true h0
    subst h0'
    simp only [cond_true] at e
    cases h2 : Nat.ble (0 + n) cap
    · rw [h2] at e
      simp only [cond_false, Option.some.injEq, Prod.mk.injEq] at e
      have hlt : cap < 0 + n := by
        rcases Nat.lt_or_ge cap (0 + n) with h | h
        · exact h
        · rw [Nat.ble_eq_true_of_le h] at h2; cases h2
      refine grow none cap [] h1 hs' (by simp) hlt (by simpa using run_firstCells_none w.drew i.size 0 0 cap) (fun _ _ => rfl) (Le.refl _) rfl (Post.same ha1 hr h1 rfl rfl fun _ => rfl) ?_ e.1.symm e.2.symm
      have := e.2
      simp only [List.nil_append] at this ⊢
      rw [this]; exact hf'
    · rw [h2] at e
      simp only [cond_true] at e
      cases h3 : Nat.beq n 0
      · rw [h3] at e; cases e
      · rw [h3] at e
        simp only [cond_true, Option.some.injEq, Prod.mk.injEq] at e
        obtain ⟨rfl, rfl⟩ := e
        refine ⟨.slice none (0 + n) cap, M, w, ?_, Post.same ha1 hr h1 rfl rfl fun _ => rfl, fun m _ => (ren_plain m _ rfl).symm⟩
        have hroom := Nat.le_of_ble_eq_true h2
        rw [hs']
        rcases hS.kind with ⟨e', hk⟩ | hk <;> simp [Builtin.append_, run_underlying hu, run_underlying hk, sizeOf, typeInfo, hi, hS.len, hS.cells]
        all_goals (intro hlt; exfalso; omega)
  | some a =>
    simp only at e
    split at e
    · cases e
    next olds hol =>
    cases h2 : Nat.blt cap Big
    · -- capacity known from below alone
      rw [h2] at e
      simp only [cond_false] at e
      split at e
      case h_2 => cases e
      next vs sz hgt =>
      cases h3 : (Nat.beq sz i.size && Nat.ble (a.off + (cap - Big) * sz) vs.length && Nat.blt a.block h1.size)
      · rw [h3] at e; cases e
      rw [h3] at e
      simp only [cond_true, Option.some.injEq, Prod.mk.injEq] at e
      obtain ⟨ev, eh⟩ := e
      simp only [Bool.and_eq_true, Nat.beq_eq, Nat.ble_eq, Nat.blt_eq] at h3
      obtain ⟨⟨hsz, hfit⟩, hblt⟩ := h3
      have hcb : ¬ cap < Big := fun h => by rw [show Nat.blt cap Big = true by simpa [Nat.blt_eq] using h] at h2; cases h2
      have hFa : F.testBit a.block = true := hf' _ (by rw [← eh]; simp [H.push, H.put, bit_test])
      have hg := ha1.eq _ hFa
      obtain ⟨ol1, hsp, _, ol2⟩ := rowAt_cells hol hg hr
      have hgv := hg.trans hgt
      obtain ⟨cs, el', e1, e2, e3⟩ := hr.blk _ _ hgv M Cl.refl
      have hs' : s' = .slice (some (renA M a)) sLen (cap - Big + (M a.block).x) := by rw [hsm]; simp [ren, renC, hcb]
      have hA : renA M a = ⟨(M a.block).b, a.off + (M a.block).s, none⟩ := by simp [renA, hsp]
      have holds : ∀ m, Cl K M m → olds.map (ren m) = olds.map (ren M) := fun m hm => by
        apply List.map_congr_left
        intro u hu'
        obtain ⟨j, hj⟩ := List.getElem?_of_mem hu'
        have c1 := ol2 m hm j u hj
        have c2 := ol2 M Cl.refl j u hj
        have : renA m a = renA M a := by simp [renA, hm _ (hr.known _ _ hgv)]
        rw [this, c2] at c1
        exact (Option.some.inj c1).symm
      rcases Nat.lt_or_ge (cap - Big + (M a.block).x) (sLen + n) with hlt | hge
      · refine grow _ _ olds (h1.put a.block none) hs' ol1 hlt ?_ holds (Le.put _ _ _ ⟨_, hgt⟩) rfl (Post.kill ha1 hr) (by rw [eh]; exact hf') ev.symm eh.symm
        refine run_firstCells_some w.drew i.size sLen (renA M a) sLen _ _ (by simpa using ol1) (fun j u hj => ?_)
        rw [List.getElem?_map] at hj
        cases hoj : olds[j]? with
        | none => rw [hoj] at hj; cases hj
        | some u0 =>
          rw [hoj] at hj
          simp only [Option.map_some, Option.some.injEq] at hj
          subst hj
          have := ol2 M Cl.refl j u0 hoj
          simpa using this
      · -- there is room: the new row lies where the old one lay
        have hsz' : sz = i.size := hsz
        have hreal : a.off + (M a.block).s + (cap - Big + (M a.block).x) * i.size ≤ cs.size := by
          rw [hsz'] at hfit e2
          rw [Nat.add_mul]; omega
        have hmul : (sLen + n) * i.size ≤ (cap - Big + (M a.block).x) * i.size := Nat.mul_le_mul_right _ hge
        have hmul' : (sLen + n) * i.size = sLen * i.size + n * i.size := Nat.add_mul _ _ _
        have hroomc : a.off + (M a.block).s + sLen * i.size + news.length ≤ cs.size := by omega
        have hcell : ∀ k, k < cs.size → ∃ u, w.cell? ⟨(M a.block).b, k, none⟩ = some u := fun k hk => by
          simp only [World.cell?, e1, Option.isSome_none, Bool.false_eq_true, if_false]
          exact ⟨_, Array.getElem?_eq_getElem hk⟩
        have hrun := run_append_room_src (P := P) w t tx ty el i hu hi (M a.block).b (a.off + (M a.block).s) sLen (cap - Big + (M a.block).x) x' n (news.map (ren M)) hS hge
          (fun j hj => by
            simp only [List.length_map] at hj
            obtain ⟨u, hu'⟩ := hcell (a.off + (M a.block).s + sLen * i.size + j) (by omega)
            rw [hu']; rfl)
          (fun j hj => by simp only [World.frozen?, e1]; simp)
        obtain ⟨q1, q2, q3⟩ := setCells_heap (M a.block).b (news.map (ren M)) (a.off + (M a.block).s + sLen * i.size) w
        obtain ⟨cs', f1, f2, f3, f4⟩ := q3 cs el' (0, 0) e1 (by simpa using hroomc)
        have hFs : F.testBit h1.size = true := hf' _ (by rw [← eh]; simp [H.push, H.put, bit_test])
        have hal : Post h1 ((h1.put a.block none).push (.row (olds ++ news) i.size)) K M g w (fun j => if j = h1.size then ⟨(M a.block).b, a.off + (M a.block).s, cap - Big + (M a.block).x - (sLen + n)⟩ else M j)
            (w.setCells (M a.block).b (a.off + (M a.block).s + sLen * i.size) (news.map (ren M))) := by
          refine Post.alias (b := a.block) (p := ⟨(M a.block).b, a.off + (M a.block).s, cap - Big + (M a.block).x - (sLen + n)⟩) ha1 hFs hr hgv q2 q1 rfl hblt (fun m hm => ?_) (setCells_env _ _ _ _)
          refine ⟨cs', el', f1, ?_, fun j u hj => ?_⟩
          · simp only [List.length_append, ol1, hnl, f2]
            have : (cap - Big + (M a.block).x - (sLen + n)) * i.size = (cap - Big + (M a.block).x) * i.size - (sLen + n) * i.size := Nat.sub_mul _ _ _
            omega
          · simp only
            rcases Nat.lt_or_ge j olds.length with hj' | hj'
            · rw [List.getElem?_append_left hj'] at hj
              rw [f3 _ (.inl (by omega))]
              have c1 := ol2 m hm j u hj
              have : renA m a = renA M a := by simp [renA, hm _ (hr.known _ _ hgv)]
              rw [this, renA_add' M a j hsp] at c1
              simpa only [World.cell?, e1, Option.isSome_none, Bool.false_eq_true, if_false] using c1
            · rw [List.getElem?_append_right hj'] at hj
              have := f4 (j - olds.length) (ren m u) (by rw [← hnews m hm, List.getElem?_map, hj]; rfl)
              rwa [show a.off + (M a.block).s + sLen * i.size + (j - olds.length) = a.off + (M a.block).s + j by omega] at this
        subst ev eh
        refine ⟨_, _, _, by rw [hs', hA]; exact hrun, hal, fun m hm => ?_⟩
        have hmn : m h1.size = ⟨(M a.block).b, a.off + (M a.block).s, cap - Big + (M a.block).x - (sLen + n)⟩ := (hm h1.size (.inr ⟨Nat.le_refl _, Nat.lt_succ_self _⟩)).trans (if_pos rfl)
        simp only [ren, Option.map_some, renA, renC, hmn, Nat.zero_add]
        rw [if_neg (by omega)]
        simp only [Value.slice.injEq, true_and]
        omega
    · -- capacity known
      rw [h2] at e
      simp only [cond_true] at e
      have hcb : cap < Big := by simpa [Nat.blt_eq] using h2
      have hs' : s' = .slice (some (renA M a)) sLen cap := by rw [hsm]; exact ren_slice a sLen hcb
      cases h3 : Nat.ble (sLen + n) cap
      · rw [h3] at e
        simp only [cond_false, Option.some.injEq, Prod.mk.injEq] at e
        obtain ⟨ev, eh⟩ := e
        have hlt : cap < sLen + n := by
          rcases Nat.lt_or_ge cap (sLen + n) with h | h
          · exact h
          · rw [Nat.ble_eq_true_of_le h] at h3; cases h3
        have hFa : F.testBit a.block = true := hf' _ (by rw [← eh]; simp [H.push, H.rd, bit_test])
        have hg := ha1.eq _ hFa
        obtain ⟨ol1, hsp, ⟨y, hy⟩, ol2⟩ := rowAt_cells hol hg hr
        have hgv := hg.trans hy
        have holds : ∀ m, Cl K M m → olds.map (ren m) = olds.map (ren M) := fun m hm => by
          apply List.map_congr_left
          intro u hu'
          obtain ⟨j, hj⟩ := List.getElem?_of_mem hu'
          have c1 := ol2 m hm j u hj
          have c2 := ol2 M Cl.refl j u hj
          have : renA m a = renA M a := by simp [renA, hm _ (hr.known _ _ hgv)]
          rw [this, c2] at c1
          exact (Option.some.inj c1).symm
        refine grow _ _ olds (h1.rd a.block) hs' ol1 hlt ?_ holds (Le.rd _ _) rfl (Post.same ha1 hr _ rfl rfl fun _ => rfl) (by rw [eh]; exact hf') ev.symm eh.symm
        refine run_firstCells_some w.drew i.size sLen (renA M a) sLen _ _ (by simpa using ol1) (fun j u hj => ?_)
        rw [List.getElem?_map] at hj
        cases hoj : olds[j]? with
        | none => rw [hoj] at hj; cases hj
        | some u0 =>
          rw [hoj] at hj
          simp only [Option.map_some, Option.some.injEq] at hj
          subst hj
          have := ol2 M Cl.refl j u0 hoj
          simpa using this
      · rw [h3] at e
        simp only [cond_true] at e
        have hroom := Nat.le_of_ble_eq_true h3
        split at e
        case h_2 => cases e
        next vs sz hgt =>
        cases h4 : Nat.ble (a.off + sLen * i.size + news.length) vs.length
        · rw [h4] at e; cases e
        rw [h4] at e
        simp only [cond_true, Option.some.injEq, Prod.mk.injEq] at e
        obtain ⟨ev, eh⟩ := e
        have hfit := Nat.le_of_ble_eq_true h4
        have hFa : F.testBit a.block = true := hf' _ (by rw [← eh]; simp [H.put, bit_test])
        have hg := ha1.eq _ hFa
        obtain ⟨ol1, hsp, _, ol2⟩ := rowAt_cells hol hg hr
        have hgv := hg.trans hgt
        obtain ⟨cs, el', e1, e2, e3⟩ := hr.blk _ _ hgv M Cl.refl
        have hA : renA M a = ⟨(M a.block).b, a.off + (M a.block).s, none⟩ := by simp [renA, hsp]
        have hcell : ∀ k, k < cs.size → ∃ u, w.cell? ⟨(M a.block).b, k, none⟩ = some u := fun k hk => by
          simp only [World.cell?, e1, Option.isSome_none, Bool.false_eq_true, if_false]
          exact ⟨_, Array.getElem?_eq_getElem hk⟩
        have hrun := run_append_room_src (P := P) w t tx ty el i hu hi (M a.block).b (a.off + (M a.block).s) sLen cap x' n (news.map (ren M)) hS hroom
          (fun j hj => by
            simp only [List.length_map] at hj
            obtain ⟨u, hu'⟩ := hcell (a.off + (M a.block).s + sLen * i.size + j) (by omega)
            rw [hu']; rfl)
          (fun j hj => by simp only [World.frozen?, e1]; simp)
        obtain ⟨q1, q2, q3⟩ := setCells_heap (M a.block).b (news.map (ren M)) (a.off + (M a.block).s + sLen * i.size) w
        obtain ⟨cs', f1, f2, f3, f4⟩ := q3 cs el' (0, 0) e1 (by simp; omega)
        subst ev eh
        refine ⟨_, M, _, by rw [hs', hA]; exact hrun, Post.turn ha1 hFa hr hgv q2 q1 (fun m hm => ?_) (setCells_env _ _ _ _), fun m hm => ?_⟩
        · obtain ⟨cs2, el2, g1, g2, g3⟩ := hr.blk _ _ hgv m hm
          rw [e1] at g1
          simp only [Option.some.injEq, Obj.cells.injEq] at g1
          obtain ⟨rfl, rfl, _⟩ := g1
          refine ⟨cs', _, f1, by rw [splice_length hfit, f2]; exact g2, fun j u hj => ?_⟩
          rcases splice_get hfit hj with ⟨j1, j2, j3⟩ | ⟨j1, j2⟩
          · have := f4 (j - (a.off + sLen * i.size)) (ren m u) (by rw [← hnews m hm, List.getElem?_map, j3]; rfl)
            rwa [show a.off + (M a.block).s + sLen * i.size + (j - (a.off + sLen * i.size)) = (M a.block).s + j by omega] at this
          · rw [f3 _ (by simp only [List.length_map]; omega)]
            exact g3 j u j2
        · have hm' : Cl K M m := Cl.next (fun _ _ => rfl) hm
          rw [ren_slice a _ hcb]
          have : renA m a = renA M a := by simp [renA, hm' _ (hr.known _ _ hgv)]
          rw [this, hA]
end Go.Proofs.YtipceoeihiaieaaDoor.Ev
