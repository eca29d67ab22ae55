/- The document's Reader, as it is walked: Left, Num. -/
import Derived.Test.YtckcdgobgpjdkaaDoorRs1
import Derived.Test.YtckcdgobgpjdkaaDoorWb
namespace Go.Proofs.YtckcdgobgpjdkaaDoor.Oct
open Go.RowKit
open Go.Lib (validD)

/-- The document's Reader at (qb, 0): its slice holds l, it stands at a. -/
structure RR (w : World) (qb a : Nat) (bo : Option Addr) (bc : Nat) (l : List UInt8) : Prop where
  b : w.cell? ⟨qb, 0, none⟩ = some (.slice bo l.length bc)
  at_ : w.cell? ⟨qb, 1, none⟩ = some (.int .i64 (a : Int))
  fr : w.frozen? ⟨qb, 1, none⟩ = false
  bs : Bs w bo l
  apart : ob bo ≠ some qb
  ale : a ≤ l.length
  len : l.length ≤ 140737488355328
  cap : l.length ≤ bc
theorem RR.set {w : World} {qb a : Nat} {bo : Option Addr} {bc : Nat} {l : List UInt8} (h : RR w qb a bo bc l) (a' : Nat) (ha : a' ≤ l.length) : RR (w.setCell ⟨qb, 1, none⟩ (.int .i64 (a' : Int))) qb a' bo bc l := by
  refine ⟨?_, ?_, ?_, h.bs.grown (grown_setCell w ⟨qb, 1, none⟩ _) (.inl h.apart), h.apart, ha, h.len, h.cap⟩
  · rw [World.cell?_setCell_other _ _ _ _ (by simp)]; exact h.b
  · exact World.cell?_setCell_same _ _ _ h.at_
  · rw [World.frozen?_setCell]; exact h.fr
theorem RR.below {w w' : World} {qb a : Nat} {bo : Option Addr} {bc : Nat} {l : List UInt8} (h : RR w qb a bo bc l) (hb : Below w.heap.size w w') : RR w' qb a bo bc l := by
  have hq : qb < w.heap.size := World.block_lt_of_cell? w ⟨qb, 0, none⟩ h.b
  exact ⟨(hb.cell (p := ⟨qb, 0, none⟩) hq).trans h.b, (hb.cell (p := ⟨qb, 1, none⟩) hq).trans h.at_, (hb.frozen (p := ⟨qb, 1, none⟩) hq).trans h.fr, h.bs.below hb, h.apart, h.ale, h.len, h.cap⟩
theorem RR.drew {w : World} {qb a : Nat} {bo : Option Addr} {bc : Nat} {l : List UInt8} (h : RR w qb a bo bc l) (q : Nat) : RR (w.drewN q) qb a bo bc l := h.below (below_drewN (Below.refl _ _) _)
set_option maxHeartbeats 400000 in
theorem refLeft_any (qb a : Nat) (bo : Option Addr) (bc : Nat) (l : List UInt8) (w : World) (h : RR w qb a bo bc l) :
    Calls Tryd.prog 26 #[.pointer (some ⟨qb, 0, none⟩)] w fun e w' => e = .returned (.int .i64 ((l.drop a).length : Int)) ∧ ∃ q, w' = w.drewN q := by
  have mixed : Tryd.prog.follows .mixedOrders = true := by kernel_rfl
  have h1 := h.b
  have h2 := h.at_
  have h3 := h.ale
  have h4 := h.len
  have HE : Hid ((l.length : Int) - (a : Int) = ((l.drop a).length : Int)) := hide (by rw [List.length_drop]; omega)
  go_enter Tryd.func26, Tryd.ntmps26
  go_wp2_with fail
  go_big_quiet_o (fail)
  go_wp2
  go_ret
  exact ⟨ret_int' HE.out, _, rfl⟩
set_option maxHeartbeats 400000 in
theorem refNum_short (qb a n : Nat) (bo : Option Addr) (bc : Nat) (l : List UInt8) (w : World) (h : RR w qb a bo bc l) (hn : (l.drop a).length < n) :
    Calls Tryd.prog 51 #[.pointer (some ⟨qb, 0, none⟩), .int .i64 (n : Int)] w fun e w' => e = .returned (.tuple #[.int .u64 0, .int .i64 10]) ∧ ∃ q, w' = w.drewN q := by
  have cL := refLeft_any qb a bo bc l w h
  generalize (l.drop a).length = m at *
  have hn' : (m : Int) < (n : Int) := by omega
  go_enter Tryd.func51, Tryd.ntmps51
  go_wp2_with fail
  refine cL.mono ?_
  rintro e w' ⟨rfl, q, rfl⟩
  go_wp2_with fail
  go_ret2
  exact ⟨rfl, _, rfl⟩
set_option maxHeartbeats 1000000 in
theorem refNum_ok (qb a n : Nat) (bo : Option Addr) (bc : Nat) (l : List UInt8) (w : World) (h : RR w qb a bo bc l) (hn : n ≤ (l.drop a).length) (h8 : n ≤ 8) :
    Calls Tryd.prog 51 #[.pointer (some ⟨qb, 0, none⟩), .int .i64 (n : Int)] w fun e w' => e = .returned (.tuple #[.int .u64 (num ((l.drop a).take n) : Int), .int .i64 0]) ∧ RR w' qb (a + n) bo bc l ∧ w.grownBy w' (some qb) := by
  have mixed : Tryd.prog.follows .mixedOrders = true := by kernel_rfl
  have cL := refLeft_any qb a bo bc l w h
  have hdl : a + (l.drop a).length = l.length := by rw [List.length_drop]; have := h.ale; omega
  have Hdr : ∀ k, Hid ((l.drop a)[k]? = l[a + k]?) := fun k => hide (List.getElem?_drop)
  have hfin : ∀ q, RR ((w.drewN q).setCell ⟨qb, 1, none⟩ (.int .i64 ((a + n : Nat) : Int))) qb (a + n) bo bc l ∧ w.grownBy ((w.drewN q).setCell ⟨qb, 1, none⟩ (.int .i64 ((a + n : Nat) : Int))) (some qb) := fun q =>
    ⟨(h.drew q).set (a + n) (by omega), (grown_of_below (below_drewN (Below.refl _ _) _) _).trans (grown_setCell _ ⟨qb, 1, none⟩ _)⟩
  have Hfin : Hid (∀ q, RR ((w.drewN q).setCell ⟨qb, 1, none⟩ (.int .i64 ((a + n : Nat) : Int))) qb (a + n) bo bc l ∧ w.grownBy ((w.drewN q).setCell ⟨qb, 1, none⟩ (.int .i64 ((a + n : Nat) : Int))) (some qb)) := hide hfin
  clear hfin
  generalize l.drop a = r at *
  have hn' : ¬ (r.length : Int) < (n : Int) := by omega
  go_enter Tryd.func51, Tryd.ntmps51
  go_wp2_with fail
  refine cL.mono ?_
  rintro e w' ⟨rfl, q0, rfl⟩
  clear cL
  go_wp2_with fail
  go_loopw [6, 7] (fun v i wx => (∃ q, wx = w.drewN q) ∧ ∃ k : Nat, k ≤ n ∧ i = .int .i64 k ∧ v = .int .u64 (num (r.take k) : Int)) (fun _ i _ => n - (intOf i).toNat)
  case atStart => exact ⟨⟨q0, rfl⟩, 0, Nat.zero_le _, rfl, rfl⟩
  case round =>
    obtain ⟨⟨q, rfl⟩, k, hk, rfl, rfl⟩ := hrel
    have hd := h
    have h1 := hd.b
    have h2 := hd.at_
    have h3 := hd.fr
    have h4 := hd.len
    have h5 := hd.cap
    have hbs := hd.bs
    clear hd
    by_cases hlt : k < n
    · have hlt' : (k : Int) < n := by omega
      obtain ⟨b, hb⟩ : ∃ b, r[k]? = some b := ⟨r[k], by simp⟩
      obtain ⟨g, off, rfl, hcell⟩ := hbs (a + k) b ((Hdr k).out ▸ hb)
      have hakz : (a : Int) + (k : Int) < (l.length : Int) := by omega
      have htk : r.take (k + 1) = r.take k ++ [b] := by rw [List.take_add_one, hb]; rfl
      have hlk : (r.take k).length = k := by rw [List.length_take]; omega
      have HS : Hid (bits .or .u64 (num (r.take k) : Int) (IntKind.u64.wrap (IntKind.u64.wrap (b.toNat : Int) * 2 ^ (8 * k))) = (num (r.take (k + 1)) : Int)) := show _ = _ by
        rw [or_step (num (r.take k)) b.toNat k (by omega) (by have := num_lt (r.take k); rw [hlk] at this; exact this) b.toNat_lt, htk, num_snoc, hlk]
      clear htk hlk hb hbs Hdr h Hfin
      go_wp2_with fail
      go_big_quiet_o (fail)
      go_wp2_with fail
      exact ⟨⟨⟨_, rfl⟩, k + 1, by omega, by go_num, by rw [HS.out]⟩, by simp [intOf]; omega⟩
    · have hlt' : ¬ (k : Int) < n := by omega
      obtain rfl : k = n := by omega
      clear hbs Hdr h
      go_wp2_with fail
      go_ret2
      rw [← Int.natCast_add]
      exact ⟨rfl, Hfin.out q⟩
end Go.Proofs.YtckcdgobgpjdkaaDoor.Oct
