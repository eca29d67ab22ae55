import Derived.Test.YtjiopaojhenanaaGreatDoorWn8c692eb0
namespace Go.Proofs.YtjiopaojhenanaaGreatDoor.Cir
end Go.Proofs.YtjiopaojhenanaaGreatDoor.Cir
namespace Go.Proofs.YtjiopaojhenanaaGreatDoor.Gt
end Go.Proofs.YtjiopaojhenanaaGreatDoor.Gt
namespace Go.Proofs.YtjiopaojhenanaaGreatDoor.Oct
end Go.Proofs.YtjiopaojhenanaaGreatDoor.Oct
namespace Go.Proofs.YtjiopaojhenanaaGreatDoor.Tok
end Go.Proofs.YtjiopaojhenanaaGreatDoor.Tok
set_option maxRecDepth 100000
set_option maxHeartbeats 2000000
namespace Go.Proofs.YtjiopaojhenanaaGreatDoor.Rwt
open Go.RowKit Go.Shelf Go.Proofs.YtjiopaojhenanaaGreatDoor.Oct Go.Proofs.YtjiopaojhenanaaGreatDoor.Tok Go.Proofs.YtjiopaojhenanaaGreatDoor.Gt Go.Proofs.YtjiopaojhenanaaGreatDoor.Cir
theorem rAdds_bar (g off : Nat) (o : COp) (aq : Option Addr) (cq : Nat) (v : Value) (hk : o.kind = 4) (w : World) (h : Oc w g off o aq cq) : Calls Tryz.prog 13 #[.pointer (some ⟨g, off, none⟩), v] w fun e w' => e = .returned (.bool true) /\ w' = w := by
  have h0 := h.kind
  have hlt := World.block_lt_of_cell? _ _ h0
  rw [hk] at h0
  clear h
  go_enter Tryz.func13, Tryz.ntmps13
  go_wp2_with fail
  go_ret
  exact ⟨rfl, rfl⟩
theorem rAdds_not (g off : Nat) (o : COp) (aq : Option Addr) (cq : Nat) (v : Value) (hk : o.kind ≠ 4) (hp : plP o = false) (w : World) (h : Oc w g off o aq cq) : Calls Tryz.prog 13 #[.pointer (some ⟨g, off, none⟩), v] w fun e w' => e = .returned (.bool false) /\ w' = w := by
  have h0 := h.kind
  have hlt := World.block_lt_of_cell? _ _ h0
  have c1 := rPlain g off o aq cq w h
  have hkb : (o.kind == 4) = false := by simpa using hk
  rw [hp] at c1
  clear h
  go_enter Tryz.func13, Tryz.ntmps13
  go_wp2_with (go_at_call 34; (with_reducible refine Calls.mono c1 ?_); rintro e w1 ⟨rfl, rfl⟩)
  go_ret
  exact ⟨rfl, rfl⟩
theorem rAdds_id (g off : Nat) (o : COp) (aq : Option Addr) (cq : Nat) (v : Value) (hp : plP o = true) (hg : o.gate = 1) (w : World) (h : Oc w g off o aq cq) : Calls Tryz.prog 13 #[.pointer (some ⟨g, off, none⟩), v] w fun e w' => e = .returned (.bool true) /\ w' = w := by
  have h0 := h.kind
  have h1 := h.gate
  have h2 := h.qs
  have hlt := World.block_lt_of_cell? _ _ h0
  have c1 := rPlain g off o aq cq w h
  have hk1 : o.kind = 1 := by
    unfold plP at hp
    simp at hp
    exact hp.1
  rw [hp] at c1
  rw [hg] at h1
  rw [hk1] at h0
  clear h
  go_enter Tryz.func13, Tryz.ntmps13
  go_wp2_with (go_at_call 34; (with_reducible refine Calls.mono c1 ?_); rintro e w1 ⟨rfl, rfl⟩)
  go_ret
  exact ⟨rfl, rfl⟩
theorem rAdds_other (g off : Nat) (o : COp) (aq : Option Addr) (cq : Nat) (v : Value) (hp : plP o = true) (hg : o.gate ≠ 1 /\ o.gate ≠ 11 /\ o.gate ≠ 14) (w : World) (h : Oc w g off o aq cq) : Calls Tryz.prog 13 #[.pointer (some ⟨g, off, none⟩), v] w fun e w' => e = .returned (.bool false) /\ w' = w := by
  have h0 := h.kind
  have h1 := h.gate
  have h2 := h.qs
  have hlt := World.block_lt_of_cell? _ _ h0
  have c1 := rPlain g off o aq cq w h
  have hk1 : o.kind = 1 := by
    unfold plP at hp
    simp at hp
    exact hp.1
  rw [hp] at c1
  rw [hk1] at h0
  have e1 : (o.gate == 1) = false := by simpa using hg.1
  have e2 : (o.gate == 11) = false := by simpa using hg.2.1
  have e3 : (o.gate == 14) = false := by simpa using hg.2.2
  clear h
  go_enter Tryz.func13, Tryz.ntmps13
  go_wp2_with (go_at_call 34; (with_reducible refine Calls.mono c1 ?_); rintro e w1 ⟨rfl, rfl⟩)
  go_ret
  exact ⟨rfl, rfl⟩
theorem rAdds_cx (g off : Nat) (o : COp) (aq : Option Addr) (cq : Nat) (G m c : Nat) (rs : List Nat) (hm : rs.length = m) (hr : ∀ x ∈ rs, x < 18446744073709551616) (a b va vb : Nat) (xa : rs[a]? = some va) (xb : rs[b]? = some vb) (hp : plP o = true) (hg : o.gate = 11) (hq : o.qs = [(a : Int), (b : Int)]) (w : World) (h : Oc w g off o aq cq)
    (hG : w.heap[G]? = some (.cells (rs.map fun x => Value.int .u64 (x : Nat)).toArray 42 (0, 0))) : Calls Tryz.prog 13 #[.pointer (some ⟨g, off, none⟩), .slice (some ⟨G, 0, none⟩) m c] w fun e w' => e = .returned (.bool true) /\ w'.heap[G]? = some (.cells ((rs.set b (vb ^^^ va)).map fun x => Value.int .u64 (x : Nat)).toArray 42 (0, 0)) /\ Kb [G] w w' := by
  have h0 := h.kind
  have h1 := h.gate
  have h2 := h.qs
  have hlt := World.block_lt_of_cell? _ _ h0
  have c1 := rPlain g off o aq cq w h
  have hk1 : o.kind = 1 := by
    unfold plP at hp
    simp at hp
    exact hp.1
  rw [hp] at c1
  rw [hg] at h1
  rw [hk1] at h0
  rw [hq] at h2
  have hns := h.ns
  rw [hq] at hns
  obtain ⟨gq, oq, rfl, hc⟩ := hns.resolve_left (by simp)
  have q0 := hc 0 _ rfl
  have q1 := hc 1 _ rfl
  have hgq := World.block_lt_of_cell? _ _ q0
  rw [Nat.add_zero] at q0
  have ha : a < m := by rw [← hm]; exact (List.getElem?_eq_some_iff.1 xa).1
  have hb : b < m := by rw [← hm]; exact (List.getElem?_eq_some_iff.1 xb).1
  have hab : (a : Int) < (m : Int) := by omega
  have hbb : (b : Int) < (m : Int) := by omega
  have la := hr _ (List.mem_of_getElem? xa)
  have lb := hr _ (List.mem_of_getElem? xb)
  have y0 : w.cell? ⟨G, a, none⟩ = some (.int .u64 (va : Nat)) := (cell_of_row _ _ _ _ _ _ hG).trans (by simp [xa])
  have y1 : w.cell? ⟨G, b, none⟩ = some (.int .u64 (vb : Nat)) := (cell_of_row _ _ _ _ _ _ hG).trans (by simp [xb])
  have yf : ∀ x, w.frozen? ⟨G, x, none⟩ = false := fun x => by simp [World.frozen?, hG]
  have hGs := World.block_lt_of_cell? _ _ y0
  have hx := bits_xor_u64_nat _ _ lb la
  have HG := hide hG
  clear hG h hns hc hr xa xb
  go_enter Tryz.func13, Tryz.ntmps13
  go_wp2_with (go_at_call 34; (with_reducible refine Calls.mono c1 ?_); rintro e w1 ⟨rfl, rfl⟩)
  go_region
  go_wp2_with fail
  go_ret
  refine ⟨rfl, ?_, ?_⟩
  . show (World.setCell w1 ⟨G, b, none⟩ (.int .u64 ((vb ^^^ va : Nat) : Int))).heap[G]? = _
    rw [setCell_eq_setRow _ _ _ _ _ _ _ HG.out, setRow_heap _ _ _ _ _ _ HG.out]
    simp [List.map_set]
  . rw [setCell_eq_setRow _ _ _ _ _ _ _ HG.out]
    have hk := kb_row HG.out ((rs.map fun x => Value.int .u64 (x : Nat)).toArray.setIfInBounds b (.int .u64 ((vb ^^^ va : Nat) : Int)))
    exact ⟨hk.os, hk.tape, hk.output, hk.size, hk.block⟩
theorem rAdds_swap (g off : Nat) (o : COp) (aq : Option Addr) (cq : Nat) (G m c : Nat) (rs : List Nat) (hm : rs.length = m) (hr : ∀ x ∈ rs, x < 18446744073709551616) (a b va vb : Nat) (xa : rs[a]? = some va) (xb : rs[b]? = some vb) (hne : a ≠ b) (hp : plP o = true) (hg : o.gate = 14) (hq : o.qs = [(a : Int), (b : Int)]) (w : World) (h : Oc w g off o aq cq)
    (hG : w.heap[G]? = some (.cells (rs.map fun x => Value.int .u64 (x : Nat)).toArray 42 (0, 0))) : Calls Tryz.prog 13 #[.pointer (some ⟨g, off, none⟩), .slice (some ⟨G, 0, none⟩) m c] w fun e w' => e = .returned (.bool true) /\ w'.heap[G]? = some (.cells (((rs.set a vb).set b va).map fun x => Value.int .u64 (x : Nat)).toArray 42 (0, 0)) /\ Kb [G] w w' := by
  have h0 := h.kind
  have h1 := h.gate
  have h2 := h.qs
  have hlt := World.block_lt_of_cell? _ _ h0
  have c1 := rPlain g off o aq cq w h
  have hk1 : o.kind = 1 := by
    unfold plP at hp
    simp at hp
    exact hp.1
  rw [hp] at c1
  rw [hg] at h1
  rw [hk1] at h0
  rw [hq] at h2
  have hns := h.ns
  rw [hq] at hns
  obtain ⟨gq, oq, rfl, hc⟩ := hns.resolve_left (by simp)
  have q0 := hc 0 _ rfl
  have q1 := hc 1 _ rfl
  have hgq := World.block_lt_of_cell? _ _ q0
  rw [Nat.add_zero] at q0
  have ha : a < m := by rw [← hm]; exact (List.getElem?_eq_some_iff.1 xa).1
  have hb : b < m := by rw [← hm]; exact (List.getElem?_eq_some_iff.1 xb).1
  have hab : (a : Int) < (m : Int) := by omega
  have hbb : (b : Int) < (m : Int) := by omega
  have la := hr _ (List.mem_of_getElem? xa)
  have lb := hr _ (List.mem_of_getElem? xb)
  have y0 : w.cell? ⟨G, a, none⟩ = some (.int .u64 (va : Nat)) := (cell_of_row _ _ _ _ _ _ hG).trans (by simp [xa])
  have y1 : w.cell? ⟨G, b, none⟩ = some (.int .u64 (vb : Nat)) := (cell_of_row _ _ _ _ _ _ hG).trans (by simp [xb])
  have yf : ∀ x, w.frozen? ⟨G, x, none⟩ = false := fun x => by simp [World.frozen?, hG]
  have hGs := World.block_lt_of_cell? _ _ y0
  have z1 : (w.setCell ⟨G, a, none⟩ (.int .u64 (vb : Nat))).cell? ⟨G, b, none⟩ = some (.int .u64 (vb : Nat)) := by
    rw [setCell_eq_setRow _ _ _ _ _ _ _ hG]
    refine (cell_of_row _ _ _ _ _ _ (setRow_heap _ _ _ _ _ _ hG)).trans ?_
    rw [Array.getElem?_setIfInBounds_ne hne]
    simp [xb]
  have z2 : (w.setCell ⟨G, a, none⟩ (.int .u64 (vb : Nat))).frozen? ⟨G, b, none⟩ = false := by
    rw [setCell_eq_setRow _ _ _ _ _ _ _ hG]
    simp [World.frozen?, setRow_heap _ _ _ _ _ _ hG]
  have HG := hide hG
  clear hG h hns hc hr xa xb
  go_enter Tryz.func13, Tryz.ntmps13
  go_wp2_with (go_at_call 34; (with_reducible refine Calls.mono c1 ?_); rintro e w1 ⟨rfl, rfl⟩)
  go_region
  go_wp2_with fail
  go_ret
  have e1 : (w1.setCell ⟨G, a, none⟩ (.int .u64 (vb : Nat))).setCell ⟨G, b, none⟩ (.int .u64 (va : Nat)) = w1.setRow G (((rs.set a vb).set b va).map fun x => Value.int .u64 (x : Nat)).toArray := by
    rw [setCell_eq_setRow _ _ _ _ _ _ _ HG.out, setCell_eq_setRow _ _ _ _ _ _ _ (setRow_heap _ _ _ _ _ _ HG.out), setRow_setRow]
    simp [List.map_set]
  rw [e1]
  have hk := kb_row HG.out (((rs.set a vb).set b va).map fun x => Value.int .u64 (x : Nat)).toArray
  exact ⟨rfl, setRow_heap _ _ _ _ _ _ HG.out, hk.os, hk.tape, hk.output, hk.size, hk.block⟩
def lnA (o : COp) (k : Nat) : Nat := ((o.qs[k]?).getD 0).toNat
def lnV (rs : List Nat) (i : Nat) : Nat := (rs[i]?).getD 0
def lnS (o : COp) (rs : List Nat) : Option (List Nat) :=
  if o.kind = 4 then some rs
  else if plP o = false then none
  else if o.gate = 1 then some rs
  else if o.gate = 11 then some (rs.set (lnA o 1) (lnV rs (lnA o 1) ^^^ lnV rs (lnA o 0)))
  else if o.gate = 14 then some ((rs.set (lnA o 0) (lnV rs (lnA o 1))).set (lnA o 1) (lnV rs (lnA o 0)))
  else none
theorem xor_lt64 {a b : Nat} (ha : a < 18446744073709551616) (hb : b < 18446744073709551616) : a ^^^ b < 18446744073709551616 := Nat.xor_lt_two_pow (n := 64) ha hb
theorem lnV_lt {rs : List Nat} (h : ∀ x ∈ rs, x < 18446744073709551616) (i : Nat) : lnV rs i < 18446744073709551616 := by
  unfold lnV
  cases e : rs[i]? with
  | none => simp
  | some x => exact h x (List.mem_of_getElem? e)
theorem lnS_len {o : COp} {rs rs' : List Nat} (h : lnS o rs = some rs') : rs'.length = rs.length := by
  unfold lnS at h
  split at h
  . cases h; rfl
  . split at h
    . cases h
    . split at h
      . cases h; rfl
      . split at h
        . cases h; simp
        . split at h
          . cases h; simp
          . cases h
theorem lnS_lt {o : COp} {rs rs' : List Nat} (h : lnS o rs = some rs') (hr : ∀ x ∈ rs, x < 18446744073709551616) : ∀ x ∈ rs', x < 18446744073709551616 := by
  have key : ∀ (i v : Nat) (l : List Nat), (∀ x ∈ l, x < 18446744073709551616) -> v < 18446744073709551616 -> ∀ x ∈ l.set i v, x < 18446744073709551616 := fun i v l hl hv x hx => by
    rcases List.mem_or_eq_of_mem_set hx with h | h
    . exact hl x h
    . rw [h]; exact hv
  unfold lnS at h
  split at h
  . cases h; exact hr
  . split at h
    . cases h
    . split at h
      . cases h; exact hr
      . split at h
        . cases h; exact key _ _ _ hr (xor_lt64 (lnV_lt hr _) (lnV_lt hr _))
        . split at h
          . cases h; exact key _ _ _ (key _ _ _ hr (lnV_lt hr _)) (lnV_lt hr _)
          . cases h
def lnOk (o : COp) (m : Nat) : Prop := (o.gate = 11 ∨ o.gate = 14) -> o.kind = 1 -> ∃ a b : Nat, o.qs = [(a : Int), (b : Int)] /\ a < m /\ b < m /\ a ≠ b
theorem rAdds (g off : Nat) (o : COp) (aq : Option Addr) (cq : Nat) (G m c : Nat) (rs : List Nat) (hm : rs.length = m) (hr : ∀ x ∈ rs, x < 18446744073709551616) (hok : lnOk o m) (w : World) (h : Oc w g off o aq cq)
    (hG : w.heap[G]? = some (.cells (rs.map fun x => Value.int .u64 (x : Nat)).toArray 42 (0, 0))) : Calls Tryz.prog 13 #[.pointer (some ⟨g, off, none⟩), .slice (some ⟨G, 0, none⟩) m c] w fun e w' => e = .returned (.bool (lnS o rs).isSome) /\ w'.heap[G]? = some (.cells (((lnS o rs).getD rs).map fun x => Value.int .u64 (x : Nat)).toArray 42 (0, 0)) /\ Kb [G] w w' := by
  have kr : Kb [G] w w := ⟨rfl, rfl, rfl, Nat.le_refl _, fun _ _ _ => rfl⟩
  unfold lnS
  by_cases h4 : o.kind = 4
  . rw [if_pos h4]
    refine Calls.mono (rAdds_bar g off o aq cq _ h4 w h) ?_
    rintro e w' ⟨rfl, rfl⟩
    exact ⟨rfl, hG, kr⟩
  rw [if_neg h4]
  by_cases hp : plP o = false
  . rw [if_pos hp]
    refine Calls.mono (rAdds_not g off o aq cq _ h4 hp w h) ?_
    rintro e w' ⟨rfl, rfl⟩
    exact ⟨rfl, hG, kr⟩
  rw [if_neg hp]
  have hp : plP o = true := by simpa using hp
  have hk1 : o.kind = 1 := by
    unfold plP at hp
    simp at hp
    exact hp.1
  by_cases h1 : o.gate = 1
  . rw [if_pos h1]
    refine Calls.mono (rAdds_id g off o aq cq _ hp h1 w h) ?_
    rintro e w' ⟨rfl, rfl⟩
    exact ⟨rfl, hG, kr⟩
  rw [if_neg h1]
  by_cases h11 : o.gate = 11
  . rw [if_pos h11]
    obtain ⟨a, b, hq, ha, hb, hne⟩ := hok (.inl h11) hk1
    have e0 : lnA o 0 = a := by simp [lnA, hq]
    have e1 : lnA o 1 = b := by simp [lnA, hq]
    rw [e0, e1]
    have xa : rs[a]? = some (lnV rs a) := by
      obtain ⟨x, hx⟩ : ∃ x, rs[a]? = some x := ⟨_, List.getElem?_eq_getElem (by rw [hm]; exact ha)⟩
      rw [lnV, hx]; rfl
    have xb : rs[b]? = some (lnV rs b) := by
      obtain ⟨x, hx⟩ : ∃ x, rs[b]? = some x := ⟨_, List.getElem?_eq_getElem (by rw [hm]; exact hb)⟩
      rw [lnV, hx]; rfl
    refine Calls.mono (rAdds_cx g off o aq cq G m c rs hm hr a b _ _ xa xb hp h11 hq w h hG) ?_
    rintro e w' ⟨rfl, q1, q2⟩
    exact ⟨rfl, q1, q2⟩
  rw [if_neg h11]
  by_cases h14 : o.gate = 14
  . rw [if_pos h14]
    obtain ⟨a, b, hq, ha, hb, hne⟩ := hok (.inr h14) hk1
    have e0 : lnA o 0 = a := by simp [lnA, hq]
    have e1 : lnA o 1 = b := by simp [lnA, hq]
    rw [e0, e1]
    have xa : rs[a]? = some (lnV rs a) := by
      obtain ⟨x, hx⟩ : ∃ x, rs[a]? = some x := ⟨_, List.getElem?_eq_getElem (by rw [hm]; exact ha)⟩
      rw [lnV, hx]; rfl
    have xb : rs[b]? = some (lnV rs b) := by
      obtain ⟨x, hx⟩ : ∃ x, rs[b]? = some x := ⟨_, List.getElem?_eq_getElem (by rw [hm]; exact hb)⟩
      rw [lnV, hx]; rfl
    refine Calls.mono (rAdds_swap g off o aq cq G m c rs hm hr a b _ _ xa xb hne hp h14 hq w h hG) ?_
    rintro e w' ⟨rfl, q1, q2⟩
    exact ⟨rfl, q1, q2⟩
  rw [if_neg h14]
  refine Calls.mono (rAdds_other g off o aq cq _ hp ⟨h1, h11, h14⟩ w h) ?_
  rintro e w' ⟨rfl, rfl⟩
  exact ⟨rfl, hG, kr⟩
end Go.Proofs.YtjiopaojhenanaaGreatDoor.Rwt
