/- What a listed variable of plain data holds, cell for cell; a reckoned call, said of the model. -/
import Derived.Test.YtipceoeihiaieaaDoorEv17
import Derived.Below
import Derived.Lib.LaidU8
import Derived.ChangeAt
namespace Go.Proofs.YtipceoeihiaieaaDoor.Ev
open Go Go.Lib Go.RowKit Go.ChangeAt
open ren (renR renL)
open plain (plainR plainL)
open beqV (beqR beqVs)

/- Data without addresses, laid out cell by cell. -/
def flF (rec : TypeId → DataW Unit → Option (List Value)) : List Field → List (DataW Unit) → Nat → Option (List Value)
  | [], [], _ => some []
  | f :: fs, d :: ds, off => if Nat.beq f.offset off then (rec f.type d).bind fun l => (flF rec fs ds (off + l.length)).bind fun r => some (l ++ r) else none
  | _, _, _ => none
def flA (rec : DataW Unit → Option (List Value)) (c : Nat) : List (DataW Unit) → Option (List Value)
  | [] => some []
  | d :: ds => (rec d).bind fun l => if Nat.beq l.length c then (flA rec c ds).bind fun r => some (l ++ r) else none
def fl (P : Program) : Nat → TypeId → DataW Unit → Option (List Value)
  | 0, _, _ => none
  | n + 1, t, d => match P.underlying t, d with
    | some .bool, .lit (.bool b) => some [.bool b]
    | some (.int k), .lit (.int j z) => if Nat.beq (kNat j) (kNat k) then some [.int k z] else none
    | some .string, .lit (.string bs) => some [.string ⟨bs.toArray⟩]
    | some (.struct fs), .agg ds => flF (fl P n) fs.toList ds 0
    | some (.array _ e), .agg ds => flA (fl P n e) (P.cellsOf e) ds
    | _, _ => none

def At (vs cs : List Value) : Prop := ∀ (i : Nat) (v : Value), vs[i]? = some v → cs[i]? = some v
theorem At.drop {l cs : List Value} {k c : Nat} (h : At l ((cs.drop k).take c)) {i : Nat} {v : Value} (hi : l[i]? = some v) : cs[k + i]? = some v := by
  have := h i v hi
  rw [List.getElem?_take] at this
  split at this
  · rwa [List.getElem?_drop] at this
  · cases this
theorem At.join {l r cs : List Value} {k c : Nat} (h : At l ((cs.drop k).take c)) (hr : ∀ i v, r[i]? = some v → cs[k + l.length + i]? = some v) : ∀ i v, (l ++ r)[i]? = some v → cs[k + i]? = some v := by
  intro i v hi
  rw [List.getElem?_append] at hi
  split at hi
  · exact h.drop hi
  · next hl =>
    have := hr _ _ hi
    rwa [show k + l.length + (i - l.length) = k + i by omega] at this

section
variable {enc : TypeId × Value → Unit} {P : Program} {w : World} {base : Nat} {sp : Nat → Bool} {held : Bool}
theorem flF_at {rec : TypeId → DataW Unit → Option (List Value)} {cs : List Value} : ∀ (fs : List Field) (ds : List (DataW Unit)) (off : Nat) (r : List Value), flF rec fs ds off = some r →
    (∀ (i : Nat) (f : Field) (d : DataW Unit), fs[i]? = some f → ds[i]? = some d → ∀ l, rec f.type d = some l → At l ((cs.drop f.offset).take (P.cellsOf f.type))) → ∀ i v, r[i]? = some v → cs[off + i]? = some v
  | [], [], off, r, e, _ => by
    simp only [flF, Option.some.injEq] at e
    subst e
    intro i v hi
    simp at hi
  | [], _ :: _, _, _, e, _ => by cases e
  | _ :: _, [], _, _, e, _ => by cases e
  | f :: fs, d :: ds, off, r, e, h => by
    simp only [flF] at e
    split at e
    · next ho =>
      obtain rfl := Nat.eq_of_beq_eq_true ho
      simp only [Option.bind_eq_some_iff, Option.some.injEq] at e
      obtain ⟨l, h1, r', h2, rfl⟩ := e
      refine At.join (h 0 f d rfl rfl l h1) ?_
      exact flF_at fs ds _ r' h2 fun i f' d' hf hd => h (i + 1) f' d' (by simpa using hf) (by simpa using hd)
    · cases e
theorem flA_at {rec : DataW Unit → Option (List Value)} {cs : List Value} {c : Nat} : ∀ (ds : List (DataW Unit)) (k : Nat) (r : List Value), flA rec c ds = some r →
    (∀ (i : Nat) (d : DataW Unit), ds[i]? = some d → ∀ l, rec d = some l → At l ((cs.drop ((k + i) * c)).take c)) → ∀ i v, r[i]? = some v → cs[k * c + i]? = some v
  | [], k, r, e, _ => by
    simp only [flA, Option.some.injEq] at e
    subst e
    intro i v hi
    simp at hi
  | d :: ds, k, r, e, h => by
    simp only [flA, Option.bind_eq_some_iff] at e
    obtain ⟨l, h1, e⟩ := e
    split at e
    · next hc =>
      simp only [Option.bind_eq_some_iff, Option.some.injEq] at e
      obtain ⟨r', h2, rfl⟩ := e
      have hc := Nat.eq_of_beq_eq_true hc
      refine At.join (c := c) (h 0 d rfl l h1) ?_
      intro i v hi
      have := flA_at ds (k + 1) r' h2 (fun i d' hd => by
        have := h (i + 1) d' (by simpa using hd)
        rwa [show k + (i + 1) = k + 1 + i by omega] at this) i v hi
      rw [Nat.add_mul, Nat.one_mul] at this
      rw [hc]; exact this
      
    · cases e
theorem fl_at : ∀ (n : Nat) (t : TypeId) (d : DataW Unit) (vs : List Value), fl P n t d = some vs → ∀ (fuel : Nat) (cs : List Value) (p : List MemPlace), DataW.trod enc P w base sp held fuel t cs = some (d, p) → At vs cs
  | 0, _, _, _, e, _, _, _, _ => by cases e
  | n + 1, t, d, vs, e, fuel, cs, p, h => by
    simp only [fl] at e
    split at e
    · next ht =>
      obtain ⟨b, rfl, hb⟩ := DataW.trod_bool ht h
      simp only [Prod.mk.injEq, DataW.lit.injEq, Lit.bool.injEq] at hb
      simp only [Option.some.injEq] at e
      subst e
      rw [hb.1]
      exact fun _ _ => id
    · next ht =>
      obtain ⟨b, rfl, hb, _⟩ := DataW.trod_int ht h
      simp only [Prod.mk.injEq, DataW.lit.injEq, Lit.int.injEq] at hb
      split at e
      · simp only [Option.some.injEq] at e
        subst e
        rw [hb.1.2]
        exact fun _ _ => id
      · cases e
    · next ht =>
      obtain ⟨b, rfl, hb, _⟩ := DataW.trod_string ht h
      simp only [Prod.mk.injEq, DataW.lit.injEq, Lit.string.injEq] at hb
      simp only [Option.some.injEq] at e
      subst e
      rw [hb.1]
      exact fun _ _ => id
    · next ht =>
      obtain ⟨xs, m, rfl, hx, hl, hxl, hall⟩ := DataW.trod_struct ht h
      simp only [Prod.mk.injEq, DataW.agg.injEq] at hx
      have := flF_at (P := P) (cs := cs) _ _ 0 vs e (fun i f d' hf hd l hl => by
        rw [hx.1] at hd
        simp only [List.getElem?_map, Option.map_eq_some_iff] at hd
        obtain ⟨y, hy, rfl⟩ := hd
        have h3 := hall i f (by simpa using hf)
        rw [hy] at h3
        exact fl_at n f.type y.1 l hl m _ y.2 h3)
      intro i v hi
      have := this i v hi
      rwa [Nat.zero_add] at this
    · next k e' ds ht =>
      have := flA_at (cs := cs) _ 0 vs e (fun i d' hd l hl => by
        rcases Nat.lt_or_ge i k with hi | hi
        · obtain ⟨fuel', d'', q, h1, h2⟩ := array_elem ht h i hi
          rw [hd] at h1
          simp only [Option.some.injEq] at h1
          subst h1
          rw [Nat.zero_add]
          exact fl_at n e' d' l hl fuel' _ q h2
        · exfalso
          obtain ⟨xs, hx, hlen⟩ : ∃ xs : List (DataW Unit × List MemPlace), ds = xs.map (·.1) ∧ xs.length = k := by
            cases fuel with
            | zero => simp [DataW.trod] at h
            | succ fuel =>
              simp only [DataW.trod, ht] at h
              split at h
              · obtain ⟨xs, hm, hx⟩ := Option.map_eq_some_iff.1 h
                simp only [Prod.mk.injEq, DataW.agg.injEq] at hx
                exact ⟨xs, hx.1.symm, by simpa using mapM_length hm⟩
              · cases h
          rw [hx, List.getElem?_eq_none (by simp; omega)] at hd
          cases hd)
      intro i v hi
      have := this i v hi
      rwa [Nat.zero_mul, Nat.zero_add] at this
    · cases e
end
theorem cells_of_reads {P : Program} {w : World} {n : String} {d : DataW Unit} {g : Nat} {t : TypeId} {vs : List Value} (m : Nat) (h : VarReads P w n d) (hg : P.globalNamed n = some g) (ht : (P.globals[g]?).map (·.type) = some t)
    (hf : fl P m t d = some vs) : ∀ i v, vs[i]? = some v → w.cell? ⟨g, i, none⟩ = some v := by
  obtain ⟨g', t', cs, fuel, p, h1, h2, h3, h4⟩ := h
  obtain rfl := Option.some.inj (hg.symm.trans h1)
  obtain rfl := Option.some.inj (ht.symm.trans h2)
  intro i v hi
  have h5 := fl_at m _ d vs hf fuel cs.toList p h4 i v hi
  have := World.var?_cell h1 h3 i
  rw [Array.getElem?_toList] at h5
  rw [h5] at this
  exact this

/-- What a world must hold for a summary whose memory is constant tables alone. -/
def tables (GL : Nat → Bool) (l : List (Nat × Blk)) : Bool := l.all fun x => GL x.1 && match x.2 with
  | .ro vs => plainL vs
  | _ => false
/-- A reckoned call that begins with constant tables alone is a call of the model: it answers so, and turns no old memory. -/
theorem SumOk.calls {P : Program} {GL : Nat → Bool} {s : Sum} (hs : SumOk P GL s) {w : World} (hpre : tables GL s.pre = true) (hargs : plainL s.args = true) (hv : plain s.v = true)
    (hGL : ∀ b, GL b = true → b < s.s0 ∧ s.wr.testBit b = false ∧ b < w.heap.size) (hw : ∀ b vs, (b, Blk.ro vs) ∈ s.pre → ∀ i v, vs[i]? = some v → w.cell? ⟨b, i, none⟩ = some v) :
    Calls P s.f ⟨s.args⟩ w fun e w' => e = .returned s.v ∧ Below w.heap.size w w' := by
  obtain ⟨hfine, call, h', hC, hcall, z1, z2, z3, z4⟩ := hs
  obtain ⟨l1, k1, _⟩ := hC _ _ _ _ _ hcall
  replace k1 := k1 (Sum.fine_ne hfine)
  have hp : ∀ b x, s.h0.get b = some x → GL b = true ∧ ∃ vs, x = .ro vs ∧ plainL vs = true ∧ (b, Blk.ro vs) ∈ s.pre := fun b x hb => by
    have hm : (b, x) ∈ s.pre := ofList_get hb
    have := List.all_eq_true.1 hpre _ hm
    simp only [Bool.and_eq_true] at this
    refine ⟨this.1, ?_⟩
    cases x with
    | ro vs => exact ⟨vs, rfl, this.2, hm⟩
    | row _ _ => cases this.2
    | obj _ => cases this.2
  refine Calls.mono (k1 s.fp (fun b => GL b = true) (fun b => ⟨b, 0, 0⟩) s.h0.get w ⟨s.args⟩ (by rw [z2]; exact Sub.refl _) ⟨fun _ _ => rfl, fun b _ h1 h2 => ?_, fun b hb => ?_⟩ ⟨?_, fun b x hb => (hp b x hb).1, fun b c _ _ _ _ h => h, fun b hb => (hGL b hb).2.2⟩
    (fun b hb => ⟨hb, rfl⟩) fun m _ => (renR_plain m _ (by simpa [plainR] using hargs)).symm) ?_
  · have := (hGL b h2).1
    change s.s0 ≤ b at h1
    omega
  · change (0 : Nat).testBit b = true at hb
    simp at hb
  · intro b x hb m _
    obtain ⟨_, vs, rfl, hpl, hm⟩ := hp b x hb
    intro i v hi
    rw [ren_plain m v (plainL_iff.1 hpl v (List.mem_of_getElem? hi)), Nat.zero_add]
    exact hw b vs hm i v hi
  · rintro e w' ⟨v', M', rfl, p, hr⟩
    refine ⟨?_, p.env.1, p.env.2.1, p.env.2.2, p.grow, fun k hk => p.frame k hk fun b x hb hwb => ?_⟩
    · rw [hr M' Cl.refl, ren_plain _ _ hv]
    · exfalso
      rw [z3, (hGL b (hp b x hb).1).2.1] at hwb
      cases hwb
end Go.Proofs.YtipceoeihiaieaaDoor.Ev
