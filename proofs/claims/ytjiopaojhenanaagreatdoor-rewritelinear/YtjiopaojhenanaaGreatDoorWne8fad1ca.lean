import Derived.Test.YtjiopaojhenanaaGreatDoorWnafbc38b8
import Derived.Test.YtjiopaojhenanaaGreatDoorWn7098bdaa
namespace Go.Proofs.YtjiopaojhenanaaGreatDoor.Cir
end Go.Proofs.YtjiopaojhenanaaGreatDoor.Cir
namespace Go.Proofs.YtjiopaojhenanaaGreatDoor.Gt
end Go.Proofs.YtjiopaojhenanaaGreatDoor.Gt
namespace Go.Proofs.YtjiopaojhenanaaGreatDoor.Oct
end Go.Proofs.YtjiopaojhenanaaGreatDoor.Oct
namespace Go.Proofs.YtjiopaojhenanaaGreatDoor.Tok
end Go.Proofs.YtjiopaojhenanaaGreatDoor.Tok
namespace Go.Proofs.YtjiopaojhenanaaGreatDoor.Rwt
open Go.RowKit Go.Shelf Go.Proofs.YtjiopaojhenanaaGreatDoor.Oct Go.Proofs.YtjiopaojhenanaaGreatDoor.Tok Go.Proofs.YtjiopaojhenanaaGreatDoor.Gt Go.Proofs.YtjiopaojhenanaaGreatDoor.Cir
theorem chk_two' (c : Circ) : (chkC c).2 = 0 ∨ (chkC c).2 = 80 := by
  unfold chkC
  split
  . exact .inr rfl
  . split
    . exact .inr rfl
    . exact .inl rfl
abbrev uI (rs : List Nat) : List Int := rs.map fun (x : Nat) => (x : Int)
def liR (c : Circ) : List Nat × Int := if (chkC c).2 ≠ 0 then ([], 80) else match liP c with | none => ([], 180) | some rs => (rs, 0)
def LPost (w : World) (R : List Nat × Int) (e : Ending) (w' : World) : Prop := ∃ a j, e = .returned (.tuple #[.slice a (uI R.1).length j, .int .i64 R.2]) /\ Nu w' a (uI R.1) /\ Below w.heap.size w w'
theorem lnL_len (l : List COp) {rs rs' : List Nat} (h : lnL l rs = some rs') : rs'.length = rs.length := by
  induction l generalizing rs with
  | nil =>
    simp only [lnL, Option.some.injEq] at h
    rw [h]
  | cons o l ih =>
    simp only [lnL] at h
    obtain ⟨r, h1, h2⟩ := Option.bind_eq_some_iff.1 h
    rw [ih h2, lnS_len h1]
theorem liP_len {c : Circ} {rs : List Nat} (h : liP c = some rs) : rs.length = c.q.toNat := (lnL_len _ h).trans (lnI_len _)
theorem rLi (c : Circ) (ao : Option Addr) (k : Nat) (w : World) (hT : Tb w) (hC : Ci w c ao k) : Calls Tryz.prog 4 #[cV c ao k] w (LPost w (liR c)) := by
  refine (rLinear c ao k w hT hC).mono ?_
  rintro e w' ⟨h1, h2, hb⟩
  unfold liR
  by_cases hk : (chkC c).2 = 0
  . rw [if_neg (by rw [hk]; simp)]
    obtain ⟨h3, h4⟩ := h2 hk
    cases hl : liP c with
    | none => exact ⟨none, 0, h3 hl, .inl rfl, hb⟩
    | some rs =>
      obtain ⟨G, -, he, hs⟩ := h4 rs hl
      refine ⟨some ⟨G, 0, none⟩, c.q.toNat, ?_, hs.su.nu, hb⟩
      rw [he]
      simp only [List.length_map, liP_len hl]
  . rw [if_pos hk]
    have := h1 hk
    rw [(chk_two' c).resolve_left hk] at this
    exact ⟨none, 0, this, .inl rfl, hb⟩
theorem dLi (c : Circ) (ao : Option Addr) (k : Nat) (w : World) (hC : Ci w c ao k) : Calls Tryz.prog 5 #[cV c ao k] w (LPost w (liR c)) := by
  unfold liR
  by_cases hk : (chkC c).2 = 0
  . rw [if_neg (by rw [hk]; simp)]
    refine (dLinear c ao k hk w hC).mono ?_
    rintro e w' ⟨h1, h2, hb⟩
    cases hl : liP c with
    | none => exact ⟨none, 0, h1 hl, .inl rfl, hb⟩
    | some rs =>
      obtain ⟨a, j, he, hs⟩ := h2 rs hl
      refine ⟨a, j, ?_, hs, hb⟩
      rw [he]
      simp only [List.length_map]
  . rw [if_pos hk]
    refine (dLinear_no c ao k hk w hC).mono ?_
    rintro e w' ⟨rfl, hb⟩
    exact ⟨none, 0, rfl, .inl rfl, hb⟩
def syR (rs : List Nat) : Circ × Int := match syP rs with | none => (⟨0, 0, []⟩, 2) | some nt => (⟨(rs.length : Int), 0, (nt.map opS).reverse⟩, 0)
def YPost (w : World) (R : Circ × Int) (e : Ending) (w' : World) : Prop := ∃ bo j, e = .returned (.tuple #[cV R.1 bo j, .int .i64 R.2]) /\ OpsOwn w' w.heap.size bo R.1.ops.length j R.1.ops /\ Below w.heap.size w w'
theorem y_of {w : World} {rs : List Nat} {e : Ending} {w' : World} (h : SyP w rs.length (syP rs) e w') : YPost w (syR rs) e w' := by
  obtain ⟨h1, h2, hb⟩ := h
  unfold syR
  cases hs : syP rs with
  | none => exact ⟨none, 0, h1 hs, opsown_nil _ _, hb⟩
  | some nt =>
    obtain ⟨bo, j, he, ho⟩ := h2 nt hs
    have hl : ((nt.map opS).reverse).length = nt.length := by simp
    refine ⟨bo, j, ?_, ?_, hb⟩
    . rw [he]
      unfold cV
      simp only [hl]
    . simp only [hl]
      exact ho
theorem rSy (ao : Option Addr) (c : Nat) (rs : List Nat) (hr : ∀ x ∈ rs, x < 18446744073709551616) (hl : rs.length <= 1000000000000000) (w : World) (hA : Nu w ao (uI rs)) : Calls Tryz.prog 6 #[.slice ao rs.length c] w (YPost w (syR rs)) := (rSynth ao c rs hr hl w hA).mono fun _ _ h => y_of h
theorem dSy (ao : Option Addr) (c : Nat) (rs : List Nat) (hr : ∀ x ∈ rs, x < 18446744073709551616) (hl : rs.length <= 1000000000000000) (w : World) (hA : Nu w ao (uI rs)) : Calls Tryz.prog 7 #[.slice ao rs.length c] w (YPost w (syR rs)) := (dSynth ao c rs hr hl w hA).mono fun _ _ h => y_of h
theorem syP_bd {rs : List Nat} {nt : List (Nat × Nat)} (hr : ∀ x ∈ rs, x < 18446744073709551616) (h : syP rs = some nt) : nt.length <= 4160 := by
  unfold syP at h
  split at h
  . cases h
  . rename_i hn
    split at h
    . cases h
    . unfold syn at h
      obtain ⟨s, hs, rfl⟩ := Option.map_eq_some_iff.1 h
      have hg : GI rs.length 0 (rs, []) := ⟨rfl, hr, Nat.zero_le _⟩
      exact Nat.le_trans (hg.sy _ (Nat.le_refl _) s hs).nt (sy_bound (Nat.le_refl _) (by omega))
theorem syr_szs {rs : List Nat} (hr : ∀ x ∈ rs, x < 18446744073709551616) : Szs (syR rs).1.ops := by
  unfold syR
  cases hs : syP rs with
  | none => exact ⟨by simp, by simp⟩
  | some nt =>
    refine ⟨?_, fun o ho => ?_⟩
    . simp only [List.length_reverse, List.length_map]
      have := syP_bd hr hs
      omega
    . simp only [List.mem_reverse, List.mem_map] at ho
      obtain ⟨x, -, rfl⟩ := ho
      simp [opS]
theorem syr_q {rs : List Nat} : (syR rs).2 = 0 ∨ (syR rs).2 = 2 := by
  unfold syR
  cases syP rs with
  | none => exact .inr rfl
  | some nt => exact .inl rfl
end Go.Proofs.YtjiopaojhenanaaGreatDoor.Rwt
