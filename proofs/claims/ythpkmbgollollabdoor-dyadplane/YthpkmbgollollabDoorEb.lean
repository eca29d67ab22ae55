/- The document's least, made, Make. -/
import Derived.Test.YthpkmbgollollabDoorEa
import Derived.Test.YthpkmbgollollabDoorDe
namespace Go.Proofs.YthpkmbgollollabDoor.Dy
open Go.RowKit Go.Shelf Go.Proofs.YthpkmbgollollabDoor.Sca

theorem hide {p : Prop} (h : p) : Hid p := h
/-- What a call answers: a struct in a cell. -/
theorem results_c {P : Program} {fn : Func} {p : Tmp} {ty : TypeId} (h : fn.results = #[.cell p ty]) (tmps : Array Value) (w : World) (g : Nat) (t : TypeId) (cs : Array Value) (fr : Nat × Nat) (d : TypeDesc)
    (hp : tmps.getD p undef = .pointer (some ⟨g, 0, none⟩)) (hg : w.heap[g]? = some (.cells cs t fr))
    (hu : P.underlying ty = some d) (hd : (match d with | .struct _ | .array _ _ => true | _ => false) = true) (hi : (P.info? ty).map (·.size) = some cs.size) :
    (results fn tmps).run P w = .ok (.agg cs) w := by
  have hp' : tmps[p]?.getD undef = .pointer (some ⟨g, 0, none⟩) := by simpa using hp
  simp [results, h, hp', asAddr, run_loadVar_row w g t ty cs fr d hg hu hd hi]
theorem tdiv2 {x : Int} (h : x % 2 = 0) : x.tdiv 2 = x / 2 := by
  obtain ⟨k, rfl⟩ : ∃ k, x = 2 * k := ⟨x / 2, by omega⟩
  rw [Int.mul_tdiv_cancel_left _ (by decide), Int.mul_ediv_cancel_left _ (by decide)]
theorem lst_rt (n : Nat) (a b : Int) : decide (Rt (lst n a b)) = decide (inR (lst n a b)) := decide_eq_decide.2 ⟨fun h => h.1, fun h => lst_right n a b h⟩
theorem lst_i64 {n : Nat} {a b : Int} (ha : i64 a) (hb : i64 b) (hn : n ≤ 120) : d64 (lst n a b) := by
  obtain ⟨h, h1, h2, h3, h4, _⟩ := lst_val n a b
  have hp := pow_pos' h
  have key : ∀ x y : Int, i64 x → x = y * 2 ^ h → i64 y := fun x y hx hxy => by
    have : y = x / 2 ^ h := by rw [hxy, Int.mul_ediv_cancel _ (Int.ne_of_gt hp)]
    rw [this]
    exact i64_div hx h
  exact ⟨key a _ ha h3, key b _ hb h4, by rw [h2]; constructor <;> omega⟩
end Go.Proofs.YthpkmbgollollabDoor.Dy
