/- A token that came in, opened. -/
import Derived.Test.YtinbbcojilogeaaDoorNo
namespace Go.Proofs.YtinbbcojilogeaaDoor.Tok
open Go.ChangeShapes Go.WideShapes Go.ChangeAt Go.RowKit Go.Shelf

set_option maxRecDepth 100000 in
theorem token_open {H : Type} {enc : TypeId × Value → H} {W : World} {base : Nat} {v : Value} {d : DataW H} {p : List MemPlace} (hval : Value.okWide Tryd.prog W .any base 37 v)
    (h : DataW.Trod enc Tryd.prog W 0 (fun _ => true) true 37 v d p) :
    ∃ t : TA, v = .agg #[.int .i64 t.kd, .string ⟨t.tx.toArray⟩, .int .i64 t.nm, .int .i64 t.o1, .int .i64 t.o2, .int .i64 t.o3] ∧ in64 t.nm ∧ t.tx.length ≤ Rows.uptoBulk d := by
  obtain ⟨cs, rfl, _⟩ := okWide_struct Tryd.underlying37 hval
  obtain ⟨fuel, hf⟩ := h
  obtain ⟨t, ht, _, hnm, _, _, _, _, hb⟩ := tok_of hf
  refine ⟨t, ?_, hnm, hb⟩
  have hc : cs.toList = t.cells := ht
  congr 1
  apply Array.ext'
  rw [hc]
  rfl
end Go.Proofs.YtinbbcojilogeaaDoor.Tok
