/- call: what goes wrong. -/
import Derived.Test.YtkbodljmkhnebaaGreatDoorOb
import Derived.Test.YtkbodljmkhnebaaGreatDoorOd
import Derived.Test.YtkbodljmkhnebaaGreatDoorTo
import Derived.Test.YtkbodljmkhnebaaGreatDoorTz
namespace Go.Proofs.YtkbodljmkhnebaaGreatDoor.Cir
open Go.RowKit Go.Shelf Go.Proofs.YtkbodljmkhnebaaGreatDoor.Oct Go.Proofs.YtkbodljmkhnebaaGreatDoor.Tok Go.Proofs.YtkbodljmkhnebaaGreatDoor.Gt

theorem pRow_all {α : Type} {one : List α → List T → Res α} {P : α → Prop} (h : ∀ acc ts a ts', one acc ts = .ok a ts' → P a) : ∀ {f : Nat} {acc : List α} {ts : List T} {l : List α} {ts' : List T}, (∀ a ∈ acc, P a) → pRow one f acc ts = .ok l ts' → ∀ a ∈ l, P a
  | 0, _, _, _, _, _, e => by cases e
  | f + 1, acc, ts, l, ts', ha, e => by
    rw [pRow] at e
    cases h1 : one acc ts with
    | no c t => rw [h1] at e; cases e
    | ok a ts1 =>
      rw [h1] at e
      simp only at e
      have hb : ∀ b ∈ acc ++ [a], P b := by
        intro b hb
        rcases List.mem_append.1 hb with e | e
        · exact ha b e
        · rw [List.mem_singleton] at e; rw [e]; exact h _ _ _ _ h1
      split at e
      · exact pRow_all h hb e
      · simp only [Res.ok.injEq] at e
        rw [← e.1]
        exact hb
theorem pIdx_ok {r : Rg} {ts : List T} {n : Nat} {ts' : List T} (h : pIdx r ts = .ok n ts') : n < r.fr + r.sz := by
  unfold pIdx at h
  split at h
  · cases h
  · split at h
    · cases h
    · rename_i hn
      split at h
      · cases h
      · simp only [Res.ok.injEq] at h
        unfold pNum at hn
        split at hn
        · cases hn
        · split at hn
          · cases hn
          · simp only [Res.ok.injEq] at hn
            omega
theorem pArg_bd {b : Bk} {ts : List T} {a : Ag} {ts' : List T} (hb : ∀ x r, b.find x = some r → 1 ≤ r.sz ∧ r.fr + r.sz ≤ b.size) (h64 : b.size ≤ 64) (h : pArg b ts = .ok a ts') : a.fr + a.sz ≤ 64 ∧ 1 ≤ a.sz := by
  unfold pArg at h
  cases h1 : pReg b ts with
  | no c t => rw [h1] at h; cases h
  | ok r ts1 =>
    rw [h1] at h
    simp only at h
    have hr : 1 ≤ r.sz ∧ r.fr + r.sz ≤ b.size := by
      unfold pReg at h1
      split at h1
      · cases h1
      · split at h1
        · cases h1
        · simp only [Res.ok.injEq] at h1
          rename_i hf
          rw [← h1.1]
          exact hb _ _ hf
    split at h
    · cases h2 : pIdx r ts1 with
      | no c t => rw [h2] at h; cases h
      | ok i ts2 =>
        rw [h2] at h
        simp only [Res.ok.injEq] at h
        have := pIdx_ok h2
        rw [← h.1]
        exact ⟨show i + 1 ≤ 64 by omega, Nat.le_refl _⟩
    · simp only [Res.ok.injEq] at h
      rw [← h.1]
      exact ⟨show r.fr + r.sz ≤ 64 by omega, hr.1⟩
theorem pArgs_bd {d : Dc} {ts : List T} {l : List Ag} {ts' : List T} (hd : DcOk d) (h : pArgs d ts = .ok l ts') : ∀ a ∈ l, a.fr + a.sz ≤ 64 ∧ 1 ≤ a.sz := by
  unfold pArgs at h
  split at h
  · cases h
  · rename_i hp
    split at h
    · cases h
    · simp only [Res.ok.injEq] at h
      rw [← h.1]
      exact pRow_all (fun _ _ _ _ e => pArg_bd hd.rq hd.q e) (by simp) hp
theorem pCallee_ok {d : Dc} {t : T} {ts : List T} {g : Df} {ts1 : List T} (h : pCallee d t ts = .ok g ts1) : ts1 = ts := by
  unfold pCallee at h
  split at h
  · split at h
    · cases h
    · simp only [Res.ok.injEq] at h; exact h.2.symm
  · cases h
theorem PCa.ok' {B : Nat} {w : World} {g : Df} {ts : List T} {e : Ending} {w' : World} (h : PCa B w (.ok g ts) e w') : Below w.heap.size w w' ∧ ∃ (dd : Nat) (ao : Option Addr) (k m : Nat), e = .returned (.tuple #[.agg #[.int .i64 (g.names : Int), .int .i64 (g.ops.length : Int), .slice ao k m], .nilIface]) ∧ SpAt dd w' w'.heap.size w'.heap.size g.names (.slice ao k m) k g.ops ∧ g.names ≤ 4398046511104 ∧ g.ops.length ≤ 4096 := by
  obtain ⟨hb, a, b, ao, k, m, rfl, ⟨dd, ao', k', c', he, h1, h2, h3⟩, -⟩ := h
  refine ⟨hb, dd, ao', k', c', ?_, h1, h2, h3⟩
  rw [he]
  rfl
/-- A row of operations as a part of the reader turned. -/
theorem OpsAt.turn {w w' : World} {B R : Nat} {x : X} {o : Value} {ts : List T} {ao : Option Addr} {n c : Nat} {ops : List COp} (h : OpsAt w B ao n c ops) (hR : Rt w R x o ts) (hk : Kb [R] w w') : OpsAt w' B ao n c ops := by
  obtain ⟨⟨v, hb, _⟩, _⟩ := hR
  unfold rbO at hb
  obtain ⟨xs, h1, h2, h3, h4⟩ := h
  refine ⟨xs, h1, h2, own_of_block h3 (fun k hk' => hk.block k (own_lt h3 k hk').2 (fun e => ?_)), fun x hx => (h4 x hx).block fun g _ _ hg => hk.block g (Array.getElem?_eq_some_iff.1 hg).1 (fun e => ?_)⟩
  · rw [List.mem_singleton] at e
    subst e
    exact own_ne h3 hb (by decide) hk'
  · rw [List.mem_singleton] at e
    subst e
    rw [hb] at hg
    simp at hg
/-- What a statement that adds operations comes to. -/
def PC (R : Nat) (L : Ly) (d : Dc) (B0 : Nat) (ao : Option Addr) (w : World) (P : Res (List COp)) (e : Ending) (w' : World) : Prop := match P with
  | .ok ops ts' => e = .returned .nilIface ∧ ∃ ao' n' c', Rt w' R (xOf L d) (.slice ao' n' c') ts' ∧ OpsAt w' B0 ao' n' c' ops ∧ ops.length ≤ 4096 ∧ Kb (R :: (ob ao).toList) w w' ∧ ∀ b, ob ao' = some b → ob ao = some b ∨ w.heap.size ≤ b
  | .no c t => e = .returned (erV c t) ∧ Kb (R :: (ob ao).toList) w w'
end Go.Proofs.YtkbodljmkhnebaaGreatDoor.Cir
