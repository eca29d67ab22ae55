/- Rows of tokens that were handed in, and what Join answers of them. -/
import Derived.Test.YtinbbcojilogeaaDoorKk
import Derived.Test.YtinbbcojilogeaaDoorKSh2
import Derived.Deep.OwnRows
namespace Go.Proofs.YtinbbcojilogeaaDoor.Tok
open Go.RowKit Go.Shelf Go.Proofs.YtinbbcojilogeaaDoor.Oct

theorem Tryd_extra : Builder.Extra Tryd.prog Tryd.laysJoin_ren where
  sizeBuilder := by kernel_rfl
  liesBuilder := by kernel_rfl
  t5 := Tryd.underlying5
  a5 := Tryd.isAgg5
  z5 := Tryd.sizeOf5
  v5 := Tryd.zeroValue5
  infoByte := by kernel_rfl
  cellsByte := by kernel_rfl
  sizeByte := by kernel_rfl
  neB5 := by decide
theorem sJoin (bk c : Nat) (xs : List (List UInt8)) (w : World) (hcells : ∀ (j : Nat) x, xs[j]? = some x → w.cell? ⟨bk, j, none⟩ = some (.string ⟨x.toArray⟩)) (hbk : bk < w.heap.size) (hN : xs.length ≤ 140737488355328) (hcap : xs.length ≤ c)
    (hlen : (Lib.join xs [32]).length ≤ 140737488355328) :
    Calls Tryd.prog 35 #[.slice (some ⟨bk, 0, none⟩) xs.length c, .string ⟨#[32]⟩] w fun e w' => e = .returned (.string ⟨(Lib.join xs [32]).toArray⟩) ∧ Below w.heap.size w w' := by
  have e : (xs.map fun x => (⟨x.toArray⟩ : ByteArray)).map (·.data.toList) = xs := by rw [List.map_map]; exact (List.map_congr_left (fun a _ => rfl)).trans (List.map_id _)
  have h := Any.strings_Join Tryd.laysJoin Tryd_extra bk 0 c (xs.map fun x => ⟨x.toArray⟩) ⟨#[32]⟩ w (by
    intro j x hx
    rw [List.getElem?_map] at hx
    obtain ⟨y, hy, rfl⟩ := Option.map_eq_some_iff.1 hx
    rw [Nat.zero_add]
    exact hcells j y hy) hbk (by rw [List.length_map]; exact hN) (by rw [List.length_map]; exact hcap) (by rw [e]; exact hlen)
  rw [e, List.length_map] at h
  exact h

/-- A token of whatever fields. -/
structure TA where
  kd : Int
  tx : List UInt8
  nm : Int
  o1 : Int
  o2 : Int
  o3 : Int
def TA.val (t : TA) : Value := .agg #[.int .i64 t.kd, .string ⟨t.tx.toArray⟩, .int .i64 t.nm, .int .i64 t.o1, .int .i64 t.o2, .int .i64 t.o3]
def TA.cells (t : TA) : List Value := [.int .i64 t.kd, .string ⟨t.tx.toArray⟩, .int .i64 t.nm, .int .i64 t.o1, .int .i64 t.o2, .int .i64 t.o3]
/-- A row of tokens in memory. -/
def Ta (w : World) (ao : Option Addr) (ts : List TA) : Prop := ∀ j t, ts[j]? = some t → ∃ g off, ao = some ⟨g, off, none⟩ ∧ ∀ i v, t.cells[i]? = some v → w.cell? ⟨g, off + j * 6 + i, none⟩ = some v
theorem Ta.below {w w' : World} {ao : Option Addr} {ts : List TA} (h : Ta w ao ts) (hb : Below w.heap.size w w') : Ta w' ao ts := by
  intro j t hj
  obtain ⟨g, off, e, hc⟩ := h j t hj
  exact ⟨g, off, e, fun i v hv => cell_below (hc i v hv) hb⟩
/-- What a number of 64 bits is. -/
def in64 (z : Int) : Prop := -9223372036854775808 ≤ z ∧ z ≤ 9223372036854775807
def TA.wr (t : TA) : Option (List UInt8) := writeR t.kd t.tx t.nm
/-- The texts that Join puts together. -/
def joinT : List TA → Option (List (List UInt8))
  | [] => some []
  | t :: r => match t.wr with
    | none => none
    | some s => if t.kd = 0 ∧ r ≠ [] then none else (joinT r).map (s :: ·)
def joinR (ts : List TA) : Option (List UInt8) := (joinT ts).map fun xs => Lib.join xs [32]
def bulk (ts : List TA) : Nat := (ts.map fun t => t.tx.length + 22).sum
theorem wr_len (t : TA) (h : in64 t.nm) (s : List UInt8) (hs : t.wr = some s) : s.length ≤ t.tx.length + 21 := by
  unfold TA.wr writeR at hs
  split at hs
  · cases hs; exact draftL_len _ _ _ h.1 h.2
  · cases hs
theorem join_len : ∀ xs : List (List UInt8), (Lib.join xs [32]).length ≤ (xs.map fun x => x.length + 1).sum
  | [] => by simp [Lib.join]
  | [x] => by simp [Lib.join, List.intercalate]
  | x :: y :: r => by
    have ih := join_len (y :: r)
    have e : Lib.join (x :: y :: r) [32] = x ++ [32] ++ Lib.join (y :: r) [32] := by simp [Lib.join, List.intercalate, List.intersperse]
    rw [e]
    simp only [List.length_append, List.map_cons, List.sum_cons, List.length_cons, List.length_nil] at ih ⊢
    omega
theorem joinT_len : ∀ (ts : List TA) (xs : List (List UInt8)), (∀ t ∈ ts, in64 t.nm) → joinT ts = some xs → (xs.map fun x => x.length + 1).sum ≤ bulk ts ∧ xs.length = ts.length
  | [], xs, _, h => by cases h; exact ⟨Nat.le_refl _, rfl⟩
  | t :: r, xs, hi, h => by
    unfold joinT at h
    cases hw : t.wr with
    | none => rw [hw] at h; cases h
    | some s =>
      rw [hw] at h
      simp only at h
      split at h
      · cases h
      · cases hr : joinT r with
        | none => rw [hr] at h; cases h
        | some ys =>
          rw [hr] at h
          cases h
          have := joinT_len r ys (fun x hx => hi x (by simp [hx])) hr
          have h2 := wr_len t (hi t (by simp)) s hw
          unfold bulk at this ⊢
          simp only [List.map_cons, List.sum_cons, List.length_cons]
          omega
theorem bulk_mem (ts : List TA) (t : TA) (h : t ∈ ts) : t.tx.length + 22 ≤ bulk ts := by
  induction ts with
  | nil => cases h
  | cons a r ih =>
    unfold bulk at *
    simp only [List.map_cons, List.sum_cons]
    rcases List.mem_cons.1 h with rfl | h
    · omega
    · have := ih h; omega
theorem bulk_len (ts : List TA) : ts.length * 22 ≤ bulk ts := by
  induction ts with
  | nil => exact Nat.zero_le _
  | cons a r ih =>
    unfold bulk at *
    simp only [List.map_cons, List.sum_cons, List.length_cons]
    omega
def joV : Option (List UInt8) → Value := wrV
end Go.Proofs.YtinbbcojilogeaaDoor.Tok
