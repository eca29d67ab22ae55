import Derived.Test.YtjiopaojhenanaaGreatDoorWnbb9c0d41
namespace Go.Proofs.YtjiopaojhenanaaGreatDoor.Cir
end Go.Proofs.YtjiopaojhenanaaGreatDoor.Cir
namespace Go.Proofs.YtjiopaojhenanaaGreatDoor.Gt
end Go.Proofs.YtjiopaojhenanaaGreatDoor.Gt
namespace Go.Proofs.YtjiopaojhenanaaGreatDoor.Oct
end Go.Proofs.YtjiopaojhenanaaGreatDoor.Oct
namespace Go.Proofs.YtjiopaojhenanaaGreatDoor.Tok
end Go.Proofs.YtjiopaojhenanaaGreatDoor.Tok
namespace Go.Proofs.YtjiopaojhenanaaGreatDoor.Rwt
open Go.RowKit Go.Shelf Go.Proofs.YtjiopaojhenanaaGreatDoor.Oct Go.Proofs.YtjiopaojhenanaaGreatDoor.Tok Go.Proofs.YtjiopaojhenanaaGreatDoor.Gt Go.Proofs.YtjiopaojhenanaaGreatDoor.Cir
theorem UO.below {w w' : World} {B n q : Nat} {a : Option Addr} {rs : List Nat} (h : UO w B (.slice a n q) rs) (hb : Below w.heap.size w w') : UO w' B (.slice a n q) rs := own_of_block h (fun k hk => hb.block k (own_lt h k hk).2)
theorem UO.grown {w V V' : World} {B E i j : Nat} {a : Option Addr} {rs : List Nat} (h : UO V B (.slice a i j) rs) (hb : Below E w V) (hE : E <= B) (hs : E <= V.heap.size) (hg : V.grownBy V' (Value.slice a i j).ownBlock) : Below E w V' := hb.grown hg hs (fun k hk => by
  rw [ob_eq] at hk
  have := (own_lt h k hk).1
  omega)
def UZ (w : World) (B : Nat) (a : Option Addr) (q : Nat) (rs : List Nat) : Prop := rs = [] ∨ ∃ G, a = some ⟨G, 0, none⟩ /\ B <= G /\ Su w G q rs
theorem UO.uz {w : World} {B n q : Nat} {a : Option Addr} {rs : List Nat} (h : UO w B (.slice a n q) rs) : UZ w B a q rs := by
  by_cases h0 : 0 < rs.length
  . exact .inr (h.su h0)
  . exact .inl (List.length_eq_zero_iff.1 (by omega))
theorem UZ.below {w w' : World} {B q : Nat} {a : Option Addr} {rs : List Nat} (h : UZ w B a q rs) (hb : Below w.heap.size w w') : UZ w' B a q rs := by
  rcases h with h | ⟨G, e, h1, h2⟩
  . exact .inl h
  . exact .inr ⟨G, e, h1, h2.below hb⟩
theorem UZ.nu {w : World} {B q : Nat} {a : Option Addr} {rs : List Nat} (h : UZ w B a q rs) : Nu w a (rs.map fun (x : Nat) => (x : Int)) := by
  rcases h with rfl | ⟨G, rfl, h1, h2⟩
  . exact .inl rfl
  . exact h2.nu
theorem lnI_snoc (Q i : Nat) (h : i < Q) : (lnI Q).take i ++ [1 <<< i] = (lnI Q).take (i + 1) := by
  rw [List.take_add_one]
  congr 1
  simp [lnI, h]
theorem nu_one (X : World) (J : Nat) : Nu (X.alloc (.cells #[.int .u64 (J : Int)] 42)) (some ⟨X.heap.size, 0, none⟩) (([J] : List Nat).map fun (x : Nat) => (x : Int)) := by
  refine .inr ⟨X.heap.size, 0, rfl, fun j z hj => ?_⟩
  rw [Nat.zero_add]
  refine (cell_of_row _ _ j _ _ _ (heap_alloc_new _ _)).trans ?_
  match j, hj with
  | 0, hj => simp at hj; subst hj; rfl
  | j + 1, hj => simp at hj
def LiD (w : World) (r : Option (List Nat)) (e : Ending) (w' : World) : Prop :=
  (r = none -> e = .returned (.tuple #[.slice none 0 0, .int .i64 180])) /\ (∀ rs, r = some rs -> ∃ a j, e = .returned (.tuple #[.slice a rs.length j, .int .i64 0]) /\ Nu w' a (rs.map fun (x : Nat) => (x : Int))) /\ Below w.heap.size w w'
theorem lns4 {o : COp} (h : o.kind = 4) (rs : List Nat) : lnS o rs = some rs := by unfold lnS; rw [if_pos h]
theorem lns_np {o : COp} (h4 : o.kind ≠ 4) (hp : plP o = false) (rs : List Nat) : lnS o rs = none := by unfold lnS; rw [if_neg h4, if_pos hp]
theorem pl_kind {o : COp} (hp : plP o = true) : o.kind ≠ 4 := by
  unfold plP at hp
  simp at hp
  omega
theorem lns_i {o : COp} (hp : plP o = true) (hg : o.gate = 1) (rs : List Nat) : lnS o rs = some rs := by unfold lnS; rw [if_neg (pl_kind hp), if_neg (by rw [hp]; decide), if_pos hg]
theorem lns_cx {o : COp} (hp : plP o = true) (hg : o.gate = 11) {a b : Nat} (hq : o.qs = [(a : Int), (b : Int)]) {rs : List Nat} {va vb : Nat} (xa : rs[a]? = some va) (xb : rs[b]? = some vb) : lnS o rs = some (rs.set b (vb ^^^ va)) := by
  unfold lnS
  rw [if_neg (pl_kind hp), if_neg (by rw [hp]; decide), if_neg (by omega), if_pos hg]
  simp [lnA, lnV, hq, xa, xb]
theorem lns_sw {o : COp} (hp : plP o = true) (hg : o.gate = 14) {a b : Nat} (hq : o.qs = [(a : Int), (b : Int)]) {rs : List Nat} {va vb : Nat} (xa : rs[a]? = some va) (xb : rs[b]? = some vb) : lnS o rs = some ((rs.set a vb).set b va) := by
  unfold lnS
  rw [if_neg (pl_kind hp), if_neg (by rw [hp]; decide), if_neg (by omega), if_neg (by omega), if_pos hg]
  simp [lnA, lnV, hq, xa, xb]
theorem lns_no {o : COp} (hp : plP o = true) (h1 : o.gate ≠ 1) (h2 : o.gate ≠ 11) (h3 : o.gate ≠ 14) (rs : List Nat) : lnS o rs = none := by
  unfold lnS
  rw [if_neg (pl_kind hp), if_neg (by rw [hp]; decide), if_neg h1, if_neg h2, if_neg h3]
end Go.Proofs.YtjiopaojhenanaaGreatDoor.Rwt
