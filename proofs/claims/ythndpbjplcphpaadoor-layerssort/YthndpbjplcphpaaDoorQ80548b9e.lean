import Derived.Test.YthndpbjplcphpaaDoorQe21fba6c
import Derived.Test.YthndpbjplcphpaaDoorQ64814638
import Derived.Test.YthndpbjplcphpaaDoorQ54c82225
set_option maxRecDepth 100000
set_option maxHeartbeats 8000000
namespace Go.Proofs.YthndpbjplcphpaaDoor.Lay
open Go.RowKit Go.Shelf Go.Lib Go.Sort Go.Proofs.YthndpbjplcphpaaDoor.Oct Go.Proofs.YthndpbjplcphpaaDoor.Tok Go.Proofs.YthndpbjplcphpaaDoor.Gt Go.Proofs.YthndpbjplcphpaaDoor.Cir
def SB (ops : List COp) (f : Nat -> Int) (p : List Nat) : Prop := ∀ (s t a b : Nat), s < t -> p[s]? = some a -> p[t]? = some b -> f a < f b ∨ f a = f b /\ (ln (oa ops b) < ln (oa ops a) ∨ ln (oa ops b) = ln (oa ops a) /\ a < b)
def LO (ops : List COp) (f : Nat -> Int) (n : Nat) (x y : Fin n) : Prop := f x.1 < f y.1 ∨ f x.1 = f y.1 /\ (ln (oa ops y.1) < ln (oa ops x.1) ∨ ln (oa ops y.1) = ln (oa ops x.1) /\ x.1 < y.1)
theorem lo_tr (ops : List COp) (f : Nat -> Int) (n : Nat) (x y z : Fin n) (h1 : LO ops f n x y) (h2 : LO ops f n y z) : LO ops f n x z := by
  unfold LO at *
  omega
theorem lo_1 (ops : List COp) (f : Nat -> Int) (n : Nat) (x y : Fin n) (h : cfv ops f x.1 y.1 < 0) : LO ops f n x y := by
  unfold cfv orI Lib.compareInt at h
  unfold LO
  repeat' split at h
  all_goals omega
theorem lo_2 (ops : List COp) (f : Nat -> Int) (n : Nat) (x y : Fin n) (h : 0 <= cfv ops f x.1 y.1) (hxy : y.1 < x.1) : LO ops f n y x := by
  unfold cfv orI Lib.compareInt at h
  unfold LO
  repeat' split at h
  all_goals omega
theorem nd_le : ∀ (n : Nat) (l : List Nat), l.Nodup -> (∀ x ∈ l, x < n) -> l.length <= n
  | 0, [], _, _ => Nat.le_refl _
  | 0, a :: l, _, h => by have := h a (List.mem_cons_self ..); omega
  | n + 1, l, hn, h => by
    by_cases hm : n ∈ l
    . have h1 := nd_le n (l.erase n) (hn.erase n) (fun x hx => by
        have h2 := (hn.mem_erase_iff.1 hx)
        have := h x h2.2
        have := h2.1
        omega)
      rw [List.length_erase_of_mem hm] at h1
      omega
    . have := nd_le n l hn (fun x hx => by
        have h2 := h x hx
        have : x ≠ n := fun e => hm (e ▸ hx)
        omega)
      omega
theorem nd_all {n : Nat} {l : List Nat} (hn : l.Nodup) (h : ∀ x ∈ l, x < n) (hl : l.length = n) : ∀ i, i < n -> i ∈ l := by
  intro i hi
  refine Classical.byContradiction fun hc => ?_
  have := nd_le n (i :: l) (List.nodup_cons.2 ⟨hc, hn⟩) (fun x hx => by
    rcases List.mem_cons.1 hx with e | e
    . subst e; exact hi
    . exact h x e)
  rw [List.length_cons] at this
  omega
theorem ord_of {ops : List COp} {f : Nat -> Int} {n : Nat} [Inhabited (Fin n)] {p : Array (Fin n)} (hs : p.size = n) (h : Srt (LO ops f n) p 0 n) : Ord n (p.toList.map (·.1)) /\ SB ops f (p.toList.map (·.1)) := by
  have key : SB ops f (p.toList.map (·.1)) := by
    intro s t a b hst ha hb
    rw [List.getElem?_map] at ha hb
    obtain ⟨x, hx, rfl⟩ := Option.map_eq_some_iff.1 ha
    obtain ⟨y, hy, rfl⟩ := Option.map_eq_some_iff.1 hb
    rw [Array.getElem?_toList] at hx hy
    obtain ⟨h1, e1⟩ := Array.getElem?_eq_some_iff.1 hx
    obtain ⟨h2, e2⟩ := Array.getElem?_eq_some_iff.1 hy
    have h3 := h s t (Nat.zero_le _) hst (by omega)
    rw [getElem!_pos p s h1, getElem!_pos p t h2, e1, e2] at h3
    exact h3
  have nd : (p.toList.map (·.1)).Nodup := by
    rw [List.nodup_iff_pairwise_ne, List.pairwise_iff_getElem]
    intro i j hi hj hij e
    have := key i j _ _ hij (List.getElem?_eq_getElem hi) (List.getElem?_eq_getElem hj)
    rw [e] at this
    omega
  have lt : ∀ i ∈ p.toList.map (·.1), i < n := fun i hi => by
    obtain ⟨x, -, rfl⟩ := List.mem_map.1 hi
    exact x.2
  have ln : (p.toList.map (·.1)).length = n := by rw [List.length_map, Array.length_toList, hs]
  exact ⟨⟨ln, lt, nd_all nd lt ln, nd⟩, key⟩
theorem lIns0 (gL gf : Nat) (cb : Array Value) (w : World) : Calls Tryd.prog 82 #[.slice (some ⟨gL, 0, none⟩) 0 0, .int .i64 0, .int .i64 0, .func (.func gf) #[] cb] w fun e w' => e = .returned (.tuple #[]) /\ w' = w := by
  go_enter Tryd.func82, Tryd.ntmps82
  go_wp2_with fail
  go_loopw [8] (fun v8 wr => wr = w /\ v8 = .int .i64 1) (fun _ _ => 0)
  case atStart => exact ⟨rfl, rfl⟩
  case round =>
    obtain ⟨rfl, rfl⟩ := hrel
    go_wp2_with fail
    go_end0
    exact ⟨rfl, rfl⟩
theorem lStab0 (gL gf : Nat) (cb : Array Value) (w : World) : Calls Tryd.prog 74 #[.slice (some ⟨gL, 0, none⟩) 0 0, .int .i64 0, .func (.func gf) #[] cb] w fun e w' => e = .returned (.tuple #[]) /\ w' = w := by
  have c1 := lIns0 gL gf cb w
  go_enter Tryd.func74, Tryd.ntmps74
  go_wp2_with fail
  go_loopw [7, 8] (fun v7 v8 wr => wr = w /\ v7 = .int .i64 0 /\ v8 = .int .i64 20) (fun _ _ _ => 0)
  case atStart => exact ⟨rfl, rfl, rfl⟩
  case round =>
    obtain ⟨rfl, rfl, rfl⟩ := hrel
    go_wp2_with (go_at_call 82; refine Calls.mono c1 ?_; rintro e w2 ⟨rfl, rfl⟩)
    go_loopw [6, 7, 8, 9] (fun v6 _ _ _ wx => v6 = .int .i64 20 /\ wx = w2) (fun _ _ _ _ _ => 0)
    case atStart => exact ⟨rfl, rfl⟩
    case round =>
      obtain ⟨rfl, rfl⟩ := hrel
      go_wp2_with fail
      go_end0
      exact ⟨rfl, rfl⟩
theorem lSort0 (gL gf : Nat) (cb : Array Value) (w : World) : Calls Tryd.prog 61 #[.slice (some ⟨gL, 0, none⟩) 0 0, .func (.func gf) #[] cb] w fun e w' => e = .returned (.tuple #[]) /\ w' = w := by
  have c1 := lStab0 gL gf cb w
  go_enter Tryd.func61, Tryd.ntmps61
  go_wp2_with (go_at_call 74; refine Calls.mono c1 ?_; rintro e w2 ⟨rfl, rfl⟩)
  go_end0
  exact ⟨rfl, rfl⟩
theorem lSortOps (ops : List COp) (f : Nat -> Int) (n : Nat) (hn : ops.length = n) (h96 : n <= 4096) (gM gR gO gL : Nat) (ao : Option Addr) (k : Nat) (w : World) (hM : w.heap[gM]? = some (.cells #[.slice (some ⟨gR, 0, none⟩) n n] 25 (0, 0))) (hR : Rk w gR 3 n (fun j => .int .i64 (f j))) (hOb : w.heap[gO]? = some (.cells #[.slice ao n k] 22 (0, 0))) (hL : Rk w gL 3 n (fun j => .int .i64 (j : Int))) (h1 : gM ≠ gL) (h2 : gR ≠ gL) (h3 : gO ≠ gL) (B : Nat) (hBo : ∀ V, Below B w V -> OpsIn V ao ops) (hB : B <= gL) (hBw : B <= w.heap.size) :
    Calls Tryd.prog 61 #[.slice (some ⟨gL, 0, none⟩) n n, .func (.func 62) #[] #[.pointer (some ⟨gM, 0, none⟩), .pointer (some ⟨gO, 0, none⟩)]] w fun e w' => e = .returned (.tuple #[]) /\ ∃ p : List Nat, Ord n p /\ SB ops f p /\ Ns w' (some ⟨gL, 0, none⟩) (p.map fun x : Nat => (x : Int)) /\ Below B w w' := by
  by_cases h0 : n = 0
  . subst h0
    refine (lSort0 gL 62 #[.pointer (some ⟨gM, 0, none⟩), .pointer (some ⟨gO, 0, none⟩)] w).mono ?_
    rintro e w' ⟨rfl, rfl⟩
    exact ⟨rfl, [], ⟨rfl, fun i hi => (by cases hi), fun i hi => (by omega), List.nodup_nil⟩, fun s t a b _ ha => by simp at ha, .inl rfl, Below.refl _ _⟩
  . haveI : Inhabited (Fin n) := ⟨⟨0, by omega⟩⟩
    have hfs : (finA n).size = n := by simp [finA]
    have hH : Sort.Holds (encF (n := n)) w gL 0 (finA n) := fun j hj => by
      have hj' : j < n := by rw [hfs] at hj; exact hj
      have h1 := hL.cell j hj'
      rw [getElem!_pos _ j hj]
      refine ⟨?_, by rw [Nat.zero_add]; exact hL.frozen j⟩
      rw [Nat.zero_add, h1]
      simp [finA, encF]
    have hcl := cmpLays ops f n hn gM gR gO gL ao k w hM hR hOb h1 h2 h3 B hBo hB hBw
    refine (lSortStableA n gL 62 #[.pointer (some ⟨gM, 0, none⟩), .pointer (some ⟨gO, 0, none⟩)] (fun x y => cfv ops f x.1 y.1) (LO ops f n) (lo_tr ops f n) (lo_1 ops f n) (fun x y h hh => lo_2 ops f n x y h hh) (finA n) hfs (fun i hi => by rw [getElem!_pos _ i (by rw [hfs]; exact hi)]; simp [finA]) w (enters_of Tryd.func62 (by kernel_rfl) rfl) hcl hH hL.lt (by omega)).mono ?_
    rintro e w' ⟨rfl, d', hs, hsrt, hS⟩
    have ho := ord_of hs hsrt
    have hH6 := hS.holds hL.lt hH (by rw [hs, hfs])
    refine ⟨rfl, _, ho.1, ho.2, .inr ⟨gL, 0, rfl, fun j z hz => ?_⟩, sw_keep hS hB hBw⟩
    rw [List.map_map] at hz
    have hj : j < d'.size := by have := (List.getElem?_eq_some_iff.1 hz).1; simpa using this
    have h1 := (hH6 j hj).1
    rw [getElem!_pos _ j hj] at h1
    rw [h1]
    have e := (List.getElem?_eq_some_iff.1 hz).2
    simp at e
    rw [← e]
    rfl
end Go.Proofs.YthndpbjplcphpaaDoor.Lay
namespace Go.Proofs.YthndpbjplcphpaaDoor.Lay
open Go.RowKit Go.Shelf Go.Proofs.YthndpbjplcphpaaDoor.Oct Go.Proofs.YthndpbjplcphpaaDoor.Tok Go.Proofs.YthndpbjplcphpaaDoor.Gt Go.Proofs.YthndpbjplcphpaaDoor.Cir
theorem lSortedA (ops : List COp) (f : Nat -> Int) (hE : EV ops f) (hW : ∀ o ∈ ops, Wk o) (n : Nat) (hn : ops.length = n) (h96 : n <= 4096) (ao : Option Addr) (k : Nat) (w : World) (hO : OpsIn w ao ops) : Calls Tryd.prog 44 #[.slice ao n k] w fun e w' => ∃ g p, e = .returned (.slice (some ⟨g, 0, none⟩) n n) /\ Ord n p /\ SB ops f p /\ Ns w' (some ⟨g, 0, none⟩) (p.map fun x : Nat => (x : Int)) /\ Below w.heap.size w w' := by
  have c0 := fun V (h : Below w.heap.size w V) => lEarly1 ops f hE hW (by omega) ao k V (hO.below h)
  rw [hn] at c0
  have HO := hide hO
  have HN := hide hn
  clear hO hn hE hW
  have mq := fun W => make19 n (by omega) W
  have hb1 := bnew w (.cells #[.slice ao n k] 22)
  have hx1 : (w.alloc (.cells #[.slice ao n k] 22)).heap[w.heap.size]? = some (.cells #[.slice ao n k] 22 (0, 0)) := heap_alloc_new _ _
  go_enter Tryd.func44, Tryd.ntmps44
  go_upto_region 1 with fail
  generalize w.alloc (.cells #[.slice ao n k] 22) = W1 at *
  have hwx : w.heap.size < W1.heap.size := (Array.getElem?_eq_some_iff.1 hx1).1
  have c1 : ∀ V, Below W1.heap.size W1 V -> _ := fun V hV => c0 V (hb1.trans (hV.mono hb1.size))
  have HX : Hid (∀ V, Below W1.heap.size W1 V -> V.cell? ⟨w.heap.size, 0, none⟩ = some (.slice ao n k) /\ V.frozen? ⟨w.heap.size, 0, none⟩ = false /\ w.heap.size < V.heap.size) := hide (fun V hV => by
    have hb := (hV.block _ (Array.getElem?_eq_some_iff.1 hx1).1).trans hx1
    exact ⟨cell_of_row _ _ 0 _ _ _ hb, by simp [World.frozen?, hb], (Array.getElem?_eq_some_iff.1 hb).1⟩)
  clear c0
  go_cut [3, 4] from 11 (fun s3 s4 wc => ∃ gM gR gL : Nat, s3 = .pointer (some ⟨gM, 0, none⟩) /\ s4 = .slice (some ⟨gL, 0, none⟩) n n /\ Hid (wc.heap[gM]? = some (.cells #[.slice (some ⟨gR, 0, none⟩) n n] 25 (0, 0))) /\ Hid (Rk wc gR 3 n (fun j => .int .i64 (f j))) /\ Hid (Rk wc gL 3 n (fun _ => .int .i64 0)) /\ gR ≠ gL /\ W1.heap.size <= gM /\ W1.heap.size <= gR /\ W1.heap.size <= gL /\ Hid (Below W1.heap.size W1 wc))
  case first =>
    refine wp_region_held_drew (S := fun V : World => Below W1.heap.size W1 V) (by kernel_rfl) (Below.refl W1.heap.size W1).drew (fun hHeld => ?_)
    refine take_to (i := 0) (d := 6) (v := ?_) rfl rfl (by kernel_rfl) (by kernel_rfl) (by kernel_rfl) (fun _ _ _ h => h) (Or.inl ⟨by rfl, ?_⟩) (by assumption) ?_
    rotate_left 1
    . intro W hSw
      obtain ⟨x0, x1, x2⟩ := HX.out W hSw
      go_simp
      with_reducible rfl
    simp only [Act.put, List.setIfInBounds_toArray, List.set_cons_zero, List.set_cons_succ]
    refine take_to (i := 2) (d := 8) (v := ?_) rfl rfl (by kernel_rfl) (by kernel_rfl) (by kernel_rfl) (fun _ _ _ h => h) (Or.inl ⟨by rfl, ?_⟩) (by assumption) ?_
    rotate_left 1
    . intro W hSw
      obtain ⟨x0, x1, x2⟩ := HX.out W hSw
      go_simp
      with_reducible rfl
    simp only [Act.put, List.setIfInBounds_toArray, List.set_cons_zero, List.set_cons_succ]
    refine take_to (i := 3) (d := 9) (v := ?_) rfl rfl (by kernel_rfl) (by kernel_rfl) (by kernel_rfl) (fun _ _ _ h => h) (Or.inl ⟨by rfl, ?_⟩) (by assumption) ?_
    rotate_left 1
    . intro W hSw
      obtain ⟨x0, x1, x2⟩ := HX.out W hSw
      go_simp
      with_reducible rfl
    simp only [Act.put, List.setIfInBounds_toArray, List.set_cons_zero, List.set_cons_succ]
    refine wpAnyH_ready (rs := [1, 4, 5]) (by kernel_rfl) (by simp) ?_
    refine AllReadyH.cons (o := { dst := some 7, op := Op.call { callee := Callee.value (Operand.func 30), args := #[Operand.tmp 6], argTypes := #[22] }, type := 25, pos := "moments.go:75", after := #[{ on := 0, ground := Ground.data }], guard := none }) rfl (fun K hK => ?_) (AllReadyH.cons (o := { dst := some 10, op := Op.makeSlice 25 (Operand.tmp 9) (Operand.tmp 9), type := 25, pos := "moments.go:75", after := #[{ on := 3, ground := Ground.data }, { on := 3, ground := Ground.data }], guard := none }) rfl (fun K hK => ?_) (AllReadyH.cons (o := { dst := some 3, op := Op.alloc 25, type := 0, pos := "moments.go:75", after := #[], guard := none }) rfl (fun K hK => ?_) AllReadyH.nil))
    . go_simp
      go_at_call 30
      refine (c1 _ hHeld).mono ?_
      rintro e w2 ⟨gR, rfl, hR, hgR, hb⟩
      have hb' := Below.trans hHeld (hb.mono hHeld.size)
      have HR := hide hR
      have hRB : W1.heap.size <= gR := Nat.le_trans hHeld.size hgR
      go_wp2_with fail
      refine hK.out _ _ (show Below W1.heap.size W1 w2 from hb') (fun hHeld => ?_)
      clear hK K hb' hR hgR
      try simp only [Act.put, List.setIfInBounds_toArray, List.set_cons_zero, List.set_cons_succ]
      refine wpAnyH_ready (rs := [4, 5]) (by kernel_rfl) (by simp) ?_
      refine AllReadyH.cons (o := { dst := some 10, op := Op.makeSlice 25 (Operand.tmp 9) (Operand.tmp 9), type := 25, pos := "moments.go:75", after := #[{ on := 3, ground := Ground.data }, { on := 3, ground := Ground.data }], guard := none }) rfl (fun K hK => ?_) (AllReadyH.cons (o := { dst := some 3, op := Op.alloc 25, type := 0, pos := "moments.go:75", after := #[], guard := none }) rfl (fun K hK => ?_) AllReadyH.nil)
      . go_simp
        have hLB : W1.heap.size <= w2.heap.size := Nat.le_trans hHeld.size (Nat.le_of_eq (by first | rfl | simp))
        have hneL : gR ≠ w2.heap.size := fun e => by have := HR.out.lt; have h2 : (w2).heap.size = w2.heap.size := (by first | rfl | simp); omega
        refine hK.out _ _ (show Below W1.heap.size W1 _ from (hHeld.alloc hHeld.size (.cells (madeCells #[.int .i64 0] n) 3))) (fun hHeld => ?_)
        clear hK K
        replace HR := hide (HR.out.below (bnew w2 (.cells (madeCells #[.int .i64 0] n) 3)))
        have HL : Hid (Rk (w2.alloc (.cells (madeCells #[.int .i64 0] n) 3)) (w2.heap.size) 3 n (fun _ => .int .i64 0)) := hide (made19 w2 n (w2.heap.size) (by simp))
        try simp only [Act.put, List.setIfInBounds_toArray, List.set_cons_zero, List.set_cons_succ]
        refine wpAnyH_ready (rs := [5]) (by kernel_rfl) (by simp) ?_
        refine AllReadyH.cons (o := { dst := some 3, op := Op.alloc 25, type := 0, pos := "moments.go:75", after := #[], guard := none }) rfl (fun K hK => ?_) AllReadyH.nil
        go_simp
        have hEB : W1.heap.size <= w2.heap.size + 1 := Nat.le_trans hHeld.size (Nat.le_of_eq (by first | rfl | simp))
        refine hK.out _ _ (show Below W1.heap.size W1 _ from (hHeld.alloc hHeld.size (.cells #[.slice none 0 0] 25))) (fun hHeld => ?_)
        clear hK K
        replace HL := hide (HL.out.below (bnew (w2.alloc (.cells (madeCells #[.int .i64 0] n) 3)) (.cells #[.slice none 0 0] 25)))
        replace HR := hide (HR.out.below (bnew (w2.alloc (.cells (madeCells #[.int .i64 0] n) 3)) (.cells #[.slice none 0 0] 25)))
        have HE : Hid (((w2.alloc (.cells (madeCells #[.int .i64 0] n) 3)).alloc (.cells #[.slice none 0 0] 25)).heap[w2.heap.size + 1]? = some (.cells #[.slice none 0 0] 25 (0, 0))) := hide (box19 (w2.alloc (.cells (madeCells #[.int .i64 0] n) 3)) _ (w2.heap.size + 1) (by simp))
        try simp only [Act.put, List.setIfInBounds_toArray, List.set_cons_zero, List.set_cons_succ]
        refine wpAnyH_ready (rs := [6]) (by kernel_rfl) (by simp) ?_
        refine AllReadyH.cons (o := { dst := none, op := Op.store 25 (Operand.tmp 3) (Operand.tmp 7), type := 0, pos := "moments.go:75", after := #[{ on := 5, ground := Ground.data }, { on := 1, ground := Ground.data }, { on := 1, ground := Ground.chain }, { on := 0, ground := Ground.phase }, { on := 1, ground := Ground.phase }, { on := 2, ground := Ground.textOnly Departure.lateStores }, { on := 3, ground := Ground.textOnly Departure.lateStoresUnsure }, { on := 4, ground := Ground.textOnly Departure.lateStoresUnsure }, { on := 5, ground := Ground.phase }], guard := none }) rfl (fun K hK => ?_) AllReadyH.nil
        generalize ((w2.alloc (.cells (madeCells #[.int .i64 0] n) 3)).alloc (.cells #[.slice none 0 0] 25)) = V at *
        have hcE := cell_of_row _ _ 0 _ _ _ HE.out
        have hfE : V.frozen? ⟨w2.heap.size + 1, 0, none⟩ = false := by simp [World.frozen?, HE.out]
        simp only [List.getElem?_toArray, List.getElem?_cons_zero] at hcE
        have hnR : gR ≠ w2.heap.size + 1 := rk_box HR.out HE.out
        have hnL : w2.heap.size ≠ w2.heap.size + 1 := rk_box HL.out HE.out
        have HR2 : Hid (Rk (V.setCell ⟨w2.heap.size + 1, 0, none⟩ (.slice (some ⟨gR, 0, none⟩) n n)) gR 3 n (fun j => .int .i64 (f j))) := hide (HR.out.of_block (Below.heap_setCell _ _ _ _ hnR))
        have HL2 : Hid (Rk (V.setCell ⟨w2.heap.size + 1, 0, none⟩ (.slice (some ⟨gR, 0, none⟩) n n)) (w2.heap.size) 3 n (fun _ => .int .i64 0)) := hide (HL.out.of_block (Below.heap_setCell _ _ _ _ hnL))
        have HE2 : Hid ((V.setCell ⟨w2.heap.size + 1, 0, none⟩ (.slice (some ⟨gR, 0, none⟩) n n)).heap[w2.heap.size + 1]? = some (.cells #[.slice (some ⟨gR, 0, none⟩) n n] 25 (0, 0))) := hide (box_set HE.out _)
        go_simp
        refine hK.out _ _ (show Below W1.heap.size W1 _ from (hHeld.setCell (p := ⟨w2.heap.size + 1, 0, none⟩) hEB _)) (fun hHeld => ?_)
        clear hK K
        refine take_to (i := 7) (d := 4) (v := ?_) rfl rfl (by kernel_rfl) (by kernel_rfl) (by kernel_rfl) (fun _ _ _ h => h) (Or.inl ⟨by rfl, ?_⟩) (by assumption) ?_
        rotate_left 1
        . intro W hSw
          obtain ⟨x0, x1, x2⟩ := HX.out W hSw
          go_simp
          with_reducible rfl
        simp only [Act.put, List.setIfInBounds_toArray, List.set_cons_zero, List.set_cons_succ]
        refine wpAnyH_done (by kernel_rfl) ?_ _
        go_wp2_with fail
        go_meet
        case rel => exact ⟨w2.heap.size + 1, gR, w2.heap.size, rfl, rfl, HE2, HR2, HL2, hneL, hEB, hRB, hLB, hide hHeld⟩
      . go_simp
        have hEB : W1.heap.size <= w2.heap.size := Nat.le_trans hHeld.size (Nat.le_of_eq (by first | rfl | simp))
        refine hK.out _ _ (show Below W1.heap.size W1 _ from (hHeld.alloc hHeld.size (.cells #[.slice none 0 0] 25))) (fun hHeld => ?_)
        clear hK K
        replace HR := hide (HR.out.below (bnew w2 (.cells #[.slice none 0 0] 25)))
        have HE : Hid ((w2.alloc (.cells #[.slice none 0 0] 25)).heap[w2.heap.size]? = some (.cells #[.slice none 0 0] 25 (0, 0))) := hide (box19 w2 _ (w2.heap.size) (by simp))
        try simp only [Act.put, List.setIfInBounds_toArray, List.set_cons_zero, List.set_cons_succ]
        refine wpAnyH_ready (rs := [4, 6]) (by kernel_rfl) (by simp) ?_
        refine AllReadyH.cons (o := { dst := some 10, op := Op.makeSlice 25 (Operand.tmp 9) (Operand.tmp 9), type := 25, pos := "moments.go:75", after := #[{ on := 3, ground := Ground.data }, { on := 3, ground := Ground.data }], guard := none }) rfl (fun K hK => ?_) (AllReadyH.cons (o := { dst := none, op := Op.store 25 (Operand.tmp 3) (Operand.tmp 7), type := 0, pos := "moments.go:75", after := #[{ on := 5, ground := Ground.data }, { on := 1, ground := Ground.data }, { on := 1, ground := Ground.chain }, { on := 0, ground := Ground.phase }, { on := 1, ground := Ground.phase }, { on := 2, ground := Ground.textOnly Departure.lateStores }, { on := 3, ground := Ground.textOnly Departure.lateStoresUnsure }, { on := 4, ground := Ground.textOnly Departure.lateStoresUnsure }, { on := 5, ground := Ground.phase }], guard := none }) rfl (fun K hK => ?_) AllReadyH.nil)
        . go_simp
          have hLB : W1.heap.size <= w2.heap.size + 1 := Nat.le_trans hHeld.size (Nat.le_of_eq (by first | rfl | simp))
          have hneL : gR ≠ w2.heap.size + 1 := fun e => by have := HR.out.lt; have h2 : ((w2.alloc (.cells #[.slice none 0 0] 25))).heap.size = w2.heap.size + 1 := (by first | rfl | simp); omega
          refine hK.out _ _ (show Below W1.heap.size W1 _ from (hHeld.alloc hHeld.size (.cells (madeCells #[.int .i64 0] n) 3))) (fun hHeld => ?_)
          clear hK K
          replace HE := hide (((bnew (w2.alloc (.cells #[.slice none 0 0] 25)) (.cells (madeCells #[.int .i64 0] n) 3)).block _ (Array.getElem?_eq_some_iff.1 HE.out).1).trans HE.out)
          replace HR := hide (HR.out.below (bnew (w2.alloc (.cells #[.slice none 0 0] 25)) (.cells (madeCells #[.int .i64 0] n) 3)))
          have HL : Hid (Rk ((w2.alloc (.cells #[.slice none 0 0] 25)).alloc (.cells (madeCells #[.int .i64 0] n) 3)) (w2.heap.size + 1) 3 n (fun _ => .int .i64 0)) := hide (made19 (w2.alloc (.cells #[.slice none 0 0] 25)) n (w2.heap.size + 1) (by simp))
          try simp only [Act.put, List.setIfInBounds_toArray, List.set_cons_zero, List.set_cons_succ]
          refine wpAnyH_ready (rs := [6]) (by kernel_rfl) (by simp) ?_
          refine AllReadyH.cons (o := { dst := none, op := Op.store 25 (Operand.tmp 3) (Operand.tmp 7), type := 0, pos := "moments.go:75", after := #[{ on := 5, ground := Ground.data }, { on := 1, ground := Ground.data }, { on := 1, ground := Ground.chain }, { on := 0, ground := Ground.phase }, { on := 1, ground := Ground.phase }, { on := 2, ground := Ground.textOnly Departure.lateStores }, { on := 3, ground := Ground.textOnly Departure.lateStoresUnsure }, { on := 4, ground := Ground.textOnly Departure.lateStoresUnsure }, { on := 5, ground := Ground.phase }], guard := none }) rfl (fun K hK => ?_) AllReadyH.nil
          generalize ((w2.alloc (.cells #[.slice none 0 0] 25)).alloc (.cells (madeCells #[.int .i64 0] n) 3)) = V at *
          have hcE := cell_of_row _ _ 0 _ _ _ HE.out
          have hfE : V.frozen? ⟨w2.heap.size, 0, none⟩ = false := by simp [World.frozen?, HE.out]
          simp only [List.getElem?_toArray, List.getElem?_cons_zero] at hcE
          have hnR : gR ≠ w2.heap.size := rk_box HR.out HE.out
          have hnL : w2.heap.size + 1 ≠ w2.heap.size := rk_box HL.out HE.out
          have HR2 : Hid (Rk (V.setCell ⟨w2.heap.size, 0, none⟩ (.slice (some ⟨gR, 0, none⟩) n n)) gR 3 n (fun j => .int .i64 (f j))) := hide (HR.out.of_block (Below.heap_setCell _ _ _ _ hnR))
          have HL2 : Hid (Rk (V.setCell ⟨w2.heap.size, 0, none⟩ (.slice (some ⟨gR, 0, none⟩) n n)) (w2.heap.size + 1) 3 n (fun _ => .int .i64 0)) := hide (HL.out.of_block (Below.heap_setCell _ _ _ _ hnL))
          have HE2 : Hid ((V.setCell ⟨w2.heap.size, 0, none⟩ (.slice (some ⟨gR, 0, none⟩) n n)).heap[w2.heap.size]? = some (.cells #[.slice (some ⟨gR, 0, none⟩) n n] 25 (0, 0))) := hide (box_set HE.out _)
          go_simp
          refine hK.out _ _ (show Below W1.heap.size W1 _ from (hHeld.setCell (p := ⟨w2.heap.size, 0, none⟩) hEB _)) (fun hHeld => ?_)
          clear hK K
          refine take_to (i := 7) (d := 4) (v := ?_) rfl rfl (by kernel_rfl) (by kernel_rfl) (by kernel_rfl) (fun _ _ _ h => h) (Or.inl ⟨by rfl, ?_⟩) (by assumption) ?_
          rotate_left 1
          . intro W hSw
            obtain ⟨x0, x1, x2⟩ := HX.out W hSw
            go_simp
            with_reducible rfl
          simp only [Act.put, List.setIfInBounds_toArray, List.set_cons_zero, List.set_cons_succ]
          refine wpAnyH_done (by kernel_rfl) ?_ _
          go_wp2_with fail
          go_meet
          case rel => exact ⟨w2.heap.size, gR, w2.heap.size + 1, rfl, rfl, HE2, HR2, HL2, hneL, hEB, hRB, hLB, hide hHeld⟩
        . generalize (w2.alloc (.cells #[.slice none 0 0] 25)) = V at *
          have hcE := cell_of_row _ _ 0 _ _ _ HE.out
          have hfE : V.frozen? ⟨w2.heap.size, 0, none⟩ = false := by simp [World.frozen?, HE.out]
          simp only [List.getElem?_toArray, List.getElem?_cons_zero] at hcE
          have hnR : gR ≠ w2.heap.size := rk_box HR.out HE.out
          have HR2 : Hid (Rk (V.setCell ⟨w2.heap.size, 0, none⟩ (.slice (some ⟨gR, 0, none⟩) n n)) gR 3 n (fun j => .int .i64 (f j))) := hide (HR.out.of_block (Below.heap_setCell _ _ _ _ hnR))
          have HE2 : Hid ((V.setCell ⟨w2.heap.size, 0, none⟩ (.slice (some ⟨gR, 0, none⟩) n n)).heap[w2.heap.size]? = some (.cells #[.slice (some ⟨gR, 0, none⟩) n n] 25 (0, 0))) := hide (box_set HE.out _)
          go_simp
          refine hK.out _ _ (show Below W1.heap.size W1 _ from (hHeld.setCell (p := ⟨w2.heap.size, 0, none⟩) hEB _)) (fun hHeld => ?_)
          clear hK K
          refine wpAnyH_ready (rs := [4]) (by kernel_rfl) (by simp) ?_
          refine AllReadyH.cons (o := { dst := some 10, op := Op.makeSlice 25 (Operand.tmp 9) (Operand.tmp 9), type := 25, pos := "moments.go:75", after := #[{ on := 3, ground := Ground.data }, { on := 3, ground := Ground.data }], guard := none }) rfl (fun K hK => ?_) AllReadyH.nil
          go_simp
          have hLB : W1.heap.size <= V.heap.size := Nat.le_trans hHeld.size (Nat.le_of_eq (by simp))
          have hneL : gR ≠ V.heap.size := fun e => by have := HR.out.lt; omega
          refine hK.out _ _ (show Below W1.heap.size W1 _ from (hHeld.alloc hHeld.size (.cells (madeCells #[.int .i64 0] n) 3))) (fun hHeld => ?_)
          clear hK K
          replace HR2 := hide (HR2.out.below (bnew (V.setCell ⟨w2.heap.size, 0, none⟩ (.slice (some ⟨gR, 0, none⟩) n n)) (.cells (madeCells #[.int .i64 0] n) 3)))
          replace HE2 := hide (((bnew (V.setCell ⟨w2.heap.size, 0, none⟩ (.slice (some ⟨gR, 0, none⟩) n n)) (.cells (madeCells #[.int .i64 0] n) 3)).block _ (Array.getElem?_eq_some_iff.1 HE2.out).1).trans HE2.out)
          have HL2 : Hid (Rk ((V.setCell ⟨w2.heap.size, 0, none⟩ (.slice (some ⟨gR, 0, none⟩) n n)).alloc (.cells (madeCells #[.int .i64 0] n) 3)) V.heap.size 3 n (fun _ => .int .i64 0)) := hide (made19 (V.setCell ⟨w2.heap.size, 0, none⟩ (.slice (some ⟨gR, 0, none⟩) n n)) n V.heap.size (by simp))
          try simp only [Act.put, List.setIfInBounds_toArray, List.set_cons_zero, List.set_cons_succ]
          refine take_to (i := 7) (d := 4) (v := ?_) rfl rfl (by kernel_rfl) (by kernel_rfl) (by kernel_rfl) (fun _ _ _ h => h) (Or.inl ⟨by rfl, ?_⟩) (by assumption) ?_
          rotate_left 1
          . intro W hSw
            obtain ⟨x0, x1, x2⟩ := HX.out W hSw
            go_simp
            with_reducible rfl
          simp only [Act.put, List.setIfInBounds_toArray, List.set_cons_zero, List.set_cons_succ]
          refine wpAnyH_done (by kernel_rfl) ?_ _
          go_wp2_with fail
          go_meet
          case rel => exact ⟨w2.heap.size, gR, V.heap.size, rfl, rfl, HE2, HR2, HL2, hneL, hEB, hRB, hLB, hide hHeld⟩
    . go_simp
      have hLB : W1.heap.size <= W1.heap.size := Nat.le_trans hHeld.size (Nat.le_of_eq (by first | rfl | simp))
      refine hK.out _ _ (show Below W1.heap.size W1 _ from (hHeld.alloc hHeld.size (.cells (madeCells #[.int .i64 0] n) 3))) (fun hHeld => ?_)
      clear hK K
      have HL : Hid (Rk (W1.drew.alloc (.cells (madeCells #[.int .i64 0] n) 3)) (W1.heap.size) 3 n (fun _ => .int .i64 0)) := hide (made19 W1.drew n (W1.heap.size) (by simp))
      try simp only [Act.put, List.setIfInBounds_toArray, List.set_cons_zero, List.set_cons_succ]
      refine wpAnyH_ready (rs := [1, 5]) (by kernel_rfl) (by simp) ?_
      refine AllReadyH.cons (o := { dst := some 7, op := Op.call { callee := Callee.value (Operand.func 30), args := #[Operand.tmp 6], argTypes := #[22] }, type := 25, pos := "moments.go:75", after := #[{ on := 0, ground := Ground.data }], guard := none }) rfl (fun K hK => ?_) (AllReadyH.cons (o := { dst := some 3, op := Op.alloc 25, type := 0, pos := "moments.go:75", after := #[], guard := none }) rfl (fun K hK => ?_) AllReadyH.nil)
      . go_simp
        go_at_call 30
        refine (c1 _ hHeld).mono ?_
        rintro e w2 ⟨gR, rfl, hR, hgR, hb⟩
        have hneL : gR ≠ W1.heap.size := fun e => by have h1 := HL.out.lt; have h3 : ((W1.drew.alloc (.cells (madeCells #[.int .i64 0] n) 3))).heap.size <= gR := hgR; omega
        replace HL := hide (HL.out.below hb)
        have hb' := Below.trans hHeld (hb.mono hHeld.size)
        have HR := hide hR
        have hRB : W1.heap.size <= gR := Nat.le_trans hHeld.size hgR
        go_wp2_with fail
        refine hK.out _ _ (show Below W1.heap.size W1 w2 from hb') (fun hHeld => ?_)
        clear hK K hb' hR hgR
        try simp only [Act.put, List.setIfInBounds_toArray, List.set_cons_zero, List.set_cons_succ]
        refine wpAnyH_ready (rs := [5]) (by kernel_rfl) (by simp) ?_
        refine AllReadyH.cons (o := { dst := some 3, op := Op.alloc 25, type := 0, pos := "moments.go:75", after := #[], guard := none }) rfl (fun K hK => ?_) AllReadyH.nil
        go_simp
        have hEB : W1.heap.size <= w2.heap.size := Nat.le_trans hHeld.size (Nat.le_of_eq (by first | rfl | simp))
        refine hK.out _ _ (show Below W1.heap.size W1 _ from (hHeld.alloc hHeld.size (.cells #[.slice none 0 0] 25))) (fun hHeld => ?_)
        clear hK K
        replace HL := hide (HL.out.below (bnew w2 (.cells #[.slice none 0 0] 25)))
        replace HR := hide (HR.out.below (bnew w2 (.cells #[.slice none 0 0] 25)))
        have HE : Hid ((w2.alloc (.cells #[.slice none 0 0] 25)).heap[w2.heap.size]? = some (.cells #[.slice none 0 0] 25 (0, 0))) := hide (box19 w2 _ (w2.heap.size) (by simp))
        try simp only [Act.put, List.setIfInBounds_toArray, List.set_cons_zero, List.set_cons_succ]
        refine wpAnyH_ready (rs := [6]) (by kernel_rfl) (by simp) ?_
        refine AllReadyH.cons (o := { dst := none, op := Op.store 25 (Operand.tmp 3) (Operand.tmp 7), type := 0, pos := "moments.go:75", after := #[{ on := 5, ground := Ground.data }, { on := 1, ground := Ground.data }, { on := 1, ground := Ground.chain }, { on := 0, ground := Ground.phase }, { on := 1, ground := Ground.phase }, { on := 2, ground := Ground.textOnly Departure.lateStores }, { on := 3, ground := Ground.textOnly Departure.lateStoresUnsure }, { on := 4, ground := Ground.textOnly Departure.lateStoresUnsure }, { on := 5, ground := Ground.phase }], guard := none }) rfl (fun K hK => ?_) AllReadyH.nil
        generalize (w2.alloc (.cells #[.slice none 0 0] 25)) = V at *
        have hcE := cell_of_row _ _ 0 _ _ _ HE.out
        have hfE : V.frozen? ⟨w2.heap.size, 0, none⟩ = false := by simp [World.frozen?, HE.out]
        simp only [List.getElem?_toArray, List.getElem?_cons_zero] at hcE
        have hnR : gR ≠ w2.heap.size := rk_box HR.out HE.out
        have hnL : W1.heap.size ≠ w2.heap.size := rk_box HL.out HE.out
        have HR2 : Hid (Rk (V.setCell ⟨w2.heap.size, 0, none⟩ (.slice (some ⟨gR, 0, none⟩) n n)) gR 3 n (fun j => .int .i64 (f j))) := hide (HR.out.of_block (Below.heap_setCell _ _ _ _ hnR))
        have HL2 : Hid (Rk (V.setCell ⟨w2.heap.size, 0, none⟩ (.slice (some ⟨gR, 0, none⟩) n n)) (W1.heap.size) 3 n (fun _ => .int .i64 0)) := hide (HL.out.of_block (Below.heap_setCell _ _ _ _ hnL))
        have HE2 : Hid ((V.setCell ⟨w2.heap.size, 0, none⟩ (.slice (some ⟨gR, 0, none⟩) n n)).heap[w2.heap.size]? = some (.cells #[.slice (some ⟨gR, 0, none⟩) n n] 25 (0, 0))) := hide (box_set HE.out _)
        go_simp
        refine hK.out _ _ (show Below W1.heap.size W1 _ from (hHeld.setCell (p := ⟨w2.heap.size, 0, none⟩) hEB _)) (fun hHeld => ?_)
        clear hK K
        refine take_to (i := 7) (d := 4) (v := ?_) rfl rfl (by kernel_rfl) (by kernel_rfl) (by kernel_rfl) (fun _ _ _ h => h) (Or.inl ⟨by rfl, ?_⟩) (by assumption) ?_
        rotate_left 1
        . intro W hSw
          obtain ⟨x0, x1, x2⟩ := HX.out W hSw
          go_simp
          with_reducible rfl
        simp only [Act.put, List.setIfInBounds_toArray, List.set_cons_zero, List.set_cons_succ]
        refine wpAnyH_done (by kernel_rfl) ?_ _
        go_wp2_with fail
        go_meet
        case rel => exact ⟨w2.heap.size, gR, W1.heap.size, rfl, rfl, HE2, HR2, HL2, hneL, hEB, hRB, hLB, hide hHeld⟩
      . go_simp
        have hEB : W1.heap.size <= W1.heap.size + 1 := Nat.le_trans hHeld.size (Nat.le_of_eq (by first | rfl | simp))
        refine hK.out _ _ (show Below W1.heap.size W1 _ from (hHeld.alloc hHeld.size (.cells #[.slice none 0 0] 25))) (fun hHeld => ?_)
        clear hK K
        replace HL := hide (HL.out.below (bnew (W1.drew.alloc (.cells (madeCells #[.int .i64 0] n) 3)) (.cells #[.slice none 0 0] 25)))
        have HE : Hid (((W1.drew.alloc (.cells (madeCells #[.int .i64 0] n) 3)).alloc (.cells #[.slice none 0 0] 25)).heap[W1.heap.size + 1]? = some (.cells #[.slice none 0 0] 25 (0, 0))) := hide (box19 (W1.drew.alloc (.cells (madeCells #[.int .i64 0] n) 3)) _ (W1.heap.size + 1) (by simp))
        try simp only [Act.put, List.setIfInBounds_toArray, List.set_cons_zero, List.set_cons_succ]
        refine wpAnyH_ready (rs := [1]) (by kernel_rfl) (by simp) ?_
        refine AllReadyH.cons (o := { dst := some 7, op := Op.call { callee := Callee.value (Operand.func 30), args := #[Operand.tmp 6], argTypes := #[22] }, type := 25, pos := "moments.go:75", after := #[{ on := 0, ground := Ground.data }], guard := none }) rfl (fun K hK => ?_) AllReadyH.nil
        go_simp
        go_at_call 30
        refine (c1 _ hHeld).mono ?_
        rintro e w2 ⟨gR, rfl, hR, hgR, hb⟩
        have hneL : gR ≠ W1.heap.size := fun e => by have h1 := HL.out.lt; have h3 : (((W1.drew.alloc (.cells (madeCells #[.int .i64 0] n) 3)).alloc (.cells #[.slice none 0 0] 25))).heap.size <= gR := hgR; omega
        replace HL := hide (HL.out.below hb)
        replace HE := hide ((hb.block _ (Array.getElem?_eq_some_iff.1 HE.out).1).trans HE.out)
        have hb' := Below.trans hHeld (hb.mono hHeld.size)
        have HR := hide hR
        have hRB : W1.heap.size <= gR := Nat.le_trans hHeld.size hgR
        go_wp2_with fail
        refine hK.out _ _ (show Below W1.heap.size W1 w2 from hb') (fun hHeld => ?_)
        clear hK K hb' hR hgR
        try simp only [Act.put, List.setIfInBounds_toArray, List.set_cons_zero, List.set_cons_succ]
        refine wpAnyH_ready (rs := [6]) (by kernel_rfl) (by simp) ?_
        refine AllReadyH.cons (o := { dst := none, op := Op.store 25 (Operand.tmp 3) (Operand.tmp 7), type := 0, pos := "moments.go:75", after := #[{ on := 5, ground := Ground.data }, { on := 1, ground := Ground.data }, { on := 1, ground := Ground.chain }, { on := 0, ground := Ground.phase }, { on := 1, ground := Ground.phase }, { on := 2, ground := Ground.textOnly Departure.lateStores }, { on := 3, ground := Ground.textOnly Departure.lateStoresUnsure }, { on := 4, ground := Ground.textOnly Departure.lateStoresUnsure }, { on := 5, ground := Ground.phase }], guard := none }) rfl (fun K hK => ?_) AllReadyH.nil
        generalize w2 = V at *
        have hcE := cell_of_row _ _ 0 _ _ _ HE.out
        have hfE : V.frozen? ⟨W1.heap.size + 1, 0, none⟩ = false := by simp [World.frozen?, HE.out]
        simp only [List.getElem?_toArray, List.getElem?_cons_zero] at hcE
        have hnR : gR ≠ W1.heap.size + 1 := rk_box HR.out HE.out
        have hnL : W1.heap.size ≠ W1.heap.size + 1 := rk_box HL.out HE.out
        have HR2 : Hid (Rk (V.setCell ⟨W1.heap.size + 1, 0, none⟩ (.slice (some ⟨gR, 0, none⟩) n n)) gR 3 n (fun j => .int .i64 (f j))) := hide (HR.out.of_block (Below.heap_setCell _ _ _ _ hnR))
        have HL2 : Hid (Rk (V.setCell ⟨W1.heap.size + 1, 0, none⟩ (.slice (some ⟨gR, 0, none⟩) n n)) (W1.heap.size) 3 n (fun _ => .int .i64 0)) := hide (HL.out.of_block (Below.heap_setCell _ _ _ _ hnL))
        have HE2 : Hid ((V.setCell ⟨W1.heap.size + 1, 0, none⟩ (.slice (some ⟨gR, 0, none⟩) n n)).heap[W1.heap.size + 1]? = some (.cells #[.slice (some ⟨gR, 0, none⟩) n n] 25 (0, 0))) := hide (box_set HE.out _)
        go_simp
        refine hK.out _ _ (show Below W1.heap.size W1 _ from (hHeld.setCell (p := ⟨W1.heap.size + 1, 0, none⟩) hEB _)) (fun hHeld => ?_)
        clear hK K
        refine take_to (i := 7) (d := 4) (v := ?_) rfl rfl (by kernel_rfl) (by kernel_rfl) (by kernel_rfl) (fun _ _ _ h => h) (Or.inl ⟨by rfl, ?_⟩) (by assumption) ?_
        rotate_left 1
        . intro W hSw
          obtain ⟨x0, x1, x2⟩ := HX.out W hSw
          go_simp
          with_reducible rfl
        simp only [Act.put, List.setIfInBounds_toArray, List.set_cons_zero, List.set_cons_succ]
        refine wpAnyH_done (by kernel_rfl) ?_ _
        go_wp2_with fail
        go_meet
        case rel => exact ⟨W1.heap.size + 1, gR, W1.heap.size, rfl, rfl, HE2, HR2, HL2, hneL, hEB, hRB, hLB, hide hHeld⟩
    . go_simp
      have hEB : W1.heap.size <= W1.heap.size := Nat.le_trans hHeld.size (Nat.le_of_eq (by first | rfl | simp))
      refine hK.out _ _ (show Below W1.heap.size W1 _ from (hHeld.alloc hHeld.size (.cells #[.slice none 0 0] 25))) (fun hHeld => ?_)
      clear hK K
      have HE : Hid ((W1.drew.alloc (.cells #[.slice none 0 0] 25)).heap[W1.heap.size]? = some (.cells #[.slice none 0 0] 25 (0, 0))) := hide (box19 W1.drew _ (W1.heap.size) (by simp))
      try simp only [Act.put, List.setIfInBounds_toArray, List.set_cons_zero, List.set_cons_succ]
      refine wpAnyH_ready (rs := [1, 4]) (by kernel_rfl) (by simp) ?_
      refine AllReadyH.cons (o := { dst := some 7, op := Op.call { callee := Callee.value (Operand.func 30), args := #[Operand.tmp 6], argTypes := #[22] }, type := 25, pos := "moments.go:75", after := #[{ on := 0, ground := Ground.data }], guard := none }) rfl (fun K hK => ?_) (AllReadyH.cons (o := { dst := some 10, op := Op.makeSlice 25 (Operand.tmp 9) (Operand.tmp 9), type := 25, pos := "moments.go:75", after := #[{ on := 3, ground := Ground.data }, { on := 3, ground := Ground.data }], guard := none }) rfl (fun K hK => ?_) AllReadyH.nil)
      . go_simp
        go_at_call 30
        refine (c1 _ hHeld).mono ?_
        rintro e w2 ⟨gR, rfl, hR, hgR, hb⟩
        replace HE := hide ((hb.block _ (Array.getElem?_eq_some_iff.1 HE.out).1).trans HE.out)
        have hb' := Below.trans hHeld (hb.mono hHeld.size)
        have HR := hide hR
        have hRB : W1.heap.size <= gR := Nat.le_trans hHeld.size hgR
        go_wp2_with fail
        refine hK.out _ _ (show Below W1.heap.size W1 w2 from hb') (fun hHeld => ?_)
        clear hK K hb' hR hgR
        try simp only [Act.put, List.setIfInBounds_toArray, List.set_cons_zero, List.set_cons_succ]
        refine wpAnyH_ready (rs := [4, 6]) (by kernel_rfl) (by simp) ?_
        refine AllReadyH.cons (o := { dst := some 10, op := Op.makeSlice 25 (Operand.tmp 9) (Operand.tmp 9), type := 25, pos := "moments.go:75", after := #[{ on := 3, ground := Ground.data }, { on := 3, ground := Ground.data }], guard := none }) rfl (fun K hK => ?_) (AllReadyH.cons (o := { dst := none, op := Op.store 25 (Operand.tmp 3) (Operand.tmp 7), type := 0, pos := "moments.go:75", after := #[{ on := 5, ground := Ground.data }, { on := 1, ground := Ground.data }, { on := 1, ground := Ground.chain }, { on := 0, ground := Ground.phase }, { on := 1, ground := Ground.phase }, { on := 2, ground := Ground.textOnly Departure.lateStores }, { on := 3, ground := Ground.textOnly Departure.lateStoresUnsure }, { on := 4, ground := Ground.textOnly Departure.lateStoresUnsure }, { on := 5, ground := Ground.phase }], guard := none }) rfl (fun K hK => ?_) AllReadyH.nil)
        . go_simp
          have hLB : W1.heap.size <= w2.heap.size := Nat.le_trans hHeld.size (Nat.le_of_eq (by first | rfl | simp))
          have hneL : gR ≠ w2.heap.size := fun e => by have := HR.out.lt; have h2 : (w2).heap.size = w2.heap.size := (by first | rfl | simp); omega
          refine hK.out _ _ (show Below W1.heap.size W1 _ from (hHeld.alloc hHeld.size (.cells (madeCells #[.int .i64 0] n) 3))) (fun hHeld => ?_)
          clear hK K
          replace HE := hide (((bnew w2 (.cells (madeCells #[.int .i64 0] n) 3)).block _ (Array.getElem?_eq_some_iff.1 HE.out).1).trans HE.out)
          replace HR := hide (HR.out.below (bnew w2 (.cells (madeCells #[.int .i64 0] n) 3)))
          have HL : Hid (Rk (w2.alloc (.cells (madeCells #[.int .i64 0] n) 3)) (w2.heap.size) 3 n (fun _ => .int .i64 0)) := hide (made19 w2 n (w2.heap.size) (by simp))
          try simp only [Act.put, List.setIfInBounds_toArray, List.set_cons_zero, List.set_cons_succ]
          refine wpAnyH_ready (rs := [6]) (by kernel_rfl) (by simp) ?_
          refine AllReadyH.cons (o := { dst := none, op := Op.store 25 (Operand.tmp 3) (Operand.tmp 7), type := 0, pos := "moments.go:75", after := #[{ on := 5, ground := Ground.data }, { on := 1, ground := Ground.data }, { on := 1, ground := Ground.chain }, { on := 0, ground := Ground.phase }, { on := 1, ground := Ground.phase }, { on := 2, ground := Ground.textOnly Departure.lateStores }, { on := 3, ground := Ground.textOnly Departure.lateStoresUnsure }, { on := 4, ground := Ground.textOnly Departure.lateStoresUnsure }, { on := 5, ground := Ground.phase }], guard := none }) rfl (fun K hK => ?_) AllReadyH.nil
          generalize (w2.alloc (.cells (madeCells #[.int .i64 0] n) 3)) = V at *
          have hcE := cell_of_row _ _ 0 _ _ _ HE.out
          have hfE : V.frozen? ⟨W1.heap.size, 0, none⟩ = false := by simp [World.frozen?, HE.out]
          simp only [List.getElem?_toArray, List.getElem?_cons_zero] at hcE
          have hnR : gR ≠ W1.heap.size := rk_box HR.out HE.out
          have hnL : w2.heap.size ≠ W1.heap.size := rk_box HL.out HE.out
          have HR2 : Hid (Rk (V.setCell ⟨W1.heap.size, 0, none⟩ (.slice (some ⟨gR, 0, none⟩) n n)) gR 3 n (fun j => .int .i64 (f j))) := hide (HR.out.of_block (Below.heap_setCell _ _ _ _ hnR))
          have HL2 : Hid (Rk (V.setCell ⟨W1.heap.size, 0, none⟩ (.slice (some ⟨gR, 0, none⟩) n n)) (w2.heap.size) 3 n (fun _ => .int .i64 0)) := hide (HL.out.of_block (Below.heap_setCell _ _ _ _ hnL))
          have HE2 : Hid ((V.setCell ⟨W1.heap.size, 0, none⟩ (.slice (some ⟨gR, 0, none⟩) n n)).heap[W1.heap.size]? = some (.cells #[.slice (some ⟨gR, 0, none⟩) n n] 25 (0, 0))) := hide (box_set HE.out _)
          go_simp
          refine hK.out _ _ (show Below W1.heap.size W1 _ from (hHeld.setCell (p := ⟨W1.heap.size, 0, none⟩) hEB _)) (fun hHeld => ?_)
          clear hK K
          refine take_to (i := 7) (d := 4) (v := ?_) rfl rfl (by kernel_rfl) (by kernel_rfl) (by kernel_rfl) (fun _ _ _ h => h) (Or.inl ⟨by rfl, ?_⟩) (by assumption) ?_
          rotate_left 1
          . intro W hSw
            obtain ⟨x0, x1, x2⟩ := HX.out W hSw
            go_simp
            with_reducible rfl
          simp only [Act.put, List.setIfInBounds_toArray, List.set_cons_zero, List.set_cons_succ]
          refine wpAnyH_done (by kernel_rfl) ?_ _
          go_wp2_with fail
          go_meet
          case rel => exact ⟨W1.heap.size, gR, w2.heap.size, rfl, rfl, HE2, HR2, HL2, hneL, hEB, hRB, hLB, hide hHeld⟩
        . generalize w2 = V at *
          have hcE := cell_of_row _ _ 0 _ _ _ HE.out
          have hfE : V.frozen? ⟨W1.heap.size, 0, none⟩ = false := by simp [World.frozen?, HE.out]
          simp only [List.getElem?_toArray, List.getElem?_cons_zero] at hcE
          have hnR : gR ≠ W1.heap.size := rk_box HR.out HE.out
          have HR2 : Hid (Rk (V.setCell ⟨W1.heap.size, 0, none⟩ (.slice (some ⟨gR, 0, none⟩) n n)) gR 3 n (fun j => .int .i64 (f j))) := hide (HR.out.of_block (Below.heap_setCell _ _ _ _ hnR))
          have HE2 : Hid ((V.setCell ⟨W1.heap.size, 0, none⟩ (.slice (some ⟨gR, 0, none⟩) n n)).heap[W1.heap.size]? = some (.cells #[.slice (some ⟨gR, 0, none⟩) n n] 25 (0, 0))) := hide (box_set HE.out _)
          go_simp
          refine hK.out _ _ (show Below W1.heap.size W1 _ from (hHeld.setCell (p := ⟨W1.heap.size, 0, none⟩) hEB _)) (fun hHeld => ?_)
          clear hK K
          refine wpAnyH_ready (rs := [4]) (by kernel_rfl) (by simp) ?_
          refine AllReadyH.cons (o := { dst := some 10, op := Op.makeSlice 25 (Operand.tmp 9) (Operand.tmp 9), type := 25, pos := "moments.go:75", after := #[{ on := 3, ground := Ground.data }, { on := 3, ground := Ground.data }], guard := none }) rfl (fun K hK => ?_) AllReadyH.nil
          go_simp
          have hLB : W1.heap.size <= V.heap.size := Nat.le_trans hHeld.size (Nat.le_of_eq (by simp))
          have hneL : gR ≠ V.heap.size := fun e => by have := HR.out.lt; omega
          refine hK.out _ _ (show Below W1.heap.size W1 _ from (hHeld.alloc hHeld.size (.cells (madeCells #[.int .i64 0] n) 3))) (fun hHeld => ?_)
          clear hK K
          replace HR2 := hide (HR2.out.below (bnew (V.setCell ⟨W1.heap.size, 0, none⟩ (.slice (some ⟨gR, 0, none⟩) n n)) (.cells (madeCells #[.int .i64 0] n) 3)))
          replace HE2 := hide (((bnew (V.setCell ⟨W1.heap.size, 0, none⟩ (.slice (some ⟨gR, 0, none⟩) n n)) (.cells (madeCells #[.int .i64 0] n) 3)).block _ (Array.getElem?_eq_some_iff.1 HE2.out).1).trans HE2.out)
          have HL2 : Hid (Rk ((V.setCell ⟨W1.heap.size, 0, none⟩ (.slice (some ⟨gR, 0, none⟩) n n)).alloc (.cells (madeCells #[.int .i64 0] n) 3)) V.heap.size 3 n (fun _ => .int .i64 0)) := hide (made19 (V.setCell ⟨W1.heap.size, 0, none⟩ (.slice (some ⟨gR, 0, none⟩) n n)) n V.heap.size (by simp))
          try simp only [Act.put, List.setIfInBounds_toArray, List.set_cons_zero, List.set_cons_succ]
          refine take_to (i := 7) (d := 4) (v := ?_) rfl rfl (by kernel_rfl) (by kernel_rfl) (by kernel_rfl) (fun _ _ _ h => h) (Or.inl ⟨by rfl, ?_⟩) (by assumption) ?_
          rotate_left 1
          . intro W hSw
            obtain ⟨x0, x1, x2⟩ := HX.out W hSw
            go_simp
            with_reducible rfl
          simp only [Act.put, List.setIfInBounds_toArray, List.set_cons_zero, List.set_cons_succ]
          refine wpAnyH_done (by kernel_rfl) ?_ _
          go_wp2_with fail
          go_meet
          case rel => exact ⟨W1.heap.size, gR, V.heap.size, rfl, rfl, HE2, HR2, HL2, hneL, hEB, hRB, hLB, hide hHeld⟩
      . go_simp
        have hLB : W1.heap.size <= W1.heap.size + 1 := Nat.le_trans hHeld.size (Nat.le_of_eq (by first | rfl | simp))
        refine hK.out _ _ (show Below W1.heap.size W1 _ from (hHeld.alloc hHeld.size (.cells (madeCells #[.int .i64 0] n) 3))) (fun hHeld => ?_)
        clear hK K
        replace HE := hide (((bnew (W1.drew.alloc (.cells #[.slice none 0 0] 25)) (.cells (madeCells #[.int .i64 0] n) 3)).block _ (Array.getElem?_eq_some_iff.1 HE.out).1).trans HE.out)
        have HL : Hid (Rk ((W1.drew.alloc (.cells #[.slice none 0 0] 25)).alloc (.cells (madeCells #[.int .i64 0] n) 3)) (W1.heap.size + 1) 3 n (fun _ => .int .i64 0)) := hide (made19 (W1.drew.alloc (.cells #[.slice none 0 0] 25)) n (W1.heap.size + 1) (by simp))
        try simp only [Act.put, List.setIfInBounds_toArray, List.set_cons_zero, List.set_cons_succ]
        refine wpAnyH_ready (rs := [1]) (by kernel_rfl) (by simp) ?_
        refine AllReadyH.cons (o := { dst := some 7, op := Op.call { callee := Callee.value (Operand.func 30), args := #[Operand.tmp 6], argTypes := #[22] }, type := 25, pos := "moments.go:75", after := #[{ on := 0, ground := Ground.data }], guard := none }) rfl (fun K hK => ?_) AllReadyH.nil
        go_simp
        go_at_call 30
        refine (c1 _ hHeld).mono ?_
        rintro e w2 ⟨gR, rfl, hR, hgR, hb⟩
        have hneL : gR ≠ W1.heap.size + 1 := fun e => by have h1 := HL.out.lt; have h3 : (((W1.drew.alloc (.cells #[.slice none 0 0] 25)).alloc (.cells (madeCells #[.int .i64 0] n) 3))).heap.size <= gR := hgR; omega
        replace HL := hide (HL.out.below hb)
        replace HE := hide ((hb.block _ (Array.getElem?_eq_some_iff.1 HE.out).1).trans HE.out)
        have hb' := Below.trans hHeld (hb.mono hHeld.size)
        have HR := hide hR
        have hRB : W1.heap.size <= gR := Nat.le_trans hHeld.size hgR
        go_wp2_with fail
        refine hK.out _ _ (show Below W1.heap.size W1 w2 from hb') (fun hHeld => ?_)
        clear hK K hb' hR hgR
        try simp only [Act.put, List.setIfInBounds_toArray, List.set_cons_zero, List.set_cons_succ]
        refine wpAnyH_ready (rs := [6]) (by kernel_rfl) (by simp) ?_
        refine AllReadyH.cons (o := { dst := none, op := Op.store 25 (Operand.tmp 3) (Operand.tmp 7), type := 0, pos := "moments.go:75", after := #[{ on := 5, ground := Ground.data }, { on := 1, ground := Ground.data }, { on := 1, ground := Ground.chain }, { on := 0, ground := Ground.phase }, { on := 1, ground := Ground.phase }, { on := 2, ground := Ground.textOnly Departure.lateStores }, { on := 3, ground := Ground.textOnly Departure.lateStoresUnsure }, { on := 4, ground := Ground.textOnly Departure.lateStoresUnsure }, { on := 5, ground := Ground.phase }], guard := none }) rfl (fun K hK => ?_) AllReadyH.nil
        generalize w2 = V at *
        have hcE := cell_of_row _ _ 0 _ _ _ HE.out
        have hfE : V.frozen? ⟨W1.heap.size, 0, none⟩ = false := by simp [World.frozen?, HE.out]
        simp only [List.getElem?_toArray, List.getElem?_cons_zero] at hcE
        have hnR : gR ≠ W1.heap.size := rk_box HR.out HE.out
        have hnL : W1.heap.size + 1 ≠ W1.heap.size := rk_box HL.out HE.out
        have HR2 : Hid (Rk (V.setCell ⟨W1.heap.size, 0, none⟩ (.slice (some ⟨gR, 0, none⟩) n n)) gR 3 n (fun j => .int .i64 (f j))) := hide (HR.out.of_block (Below.heap_setCell _ _ _ _ hnR))
        have HL2 : Hid (Rk (V.setCell ⟨W1.heap.size, 0, none⟩ (.slice (some ⟨gR, 0, none⟩) n n)) (W1.heap.size + 1) 3 n (fun _ => .int .i64 0)) := hide (HL.out.of_block (Below.heap_setCell _ _ _ _ hnL))
        have HE2 : Hid ((V.setCell ⟨W1.heap.size, 0, none⟩ (.slice (some ⟨gR, 0, none⟩) n n)).heap[W1.heap.size]? = some (.cells #[.slice (some ⟨gR, 0, none⟩) n n] 25 (0, 0))) := hide (box_set HE.out _)
        go_simp
        refine hK.out _ _ (show Below W1.heap.size W1 _ from (hHeld.setCell (p := ⟨W1.heap.size, 0, none⟩) hEB _)) (fun hHeld => ?_)
        clear hK K
        refine take_to (i := 7) (d := 4) (v := ?_) rfl rfl (by kernel_rfl) (by kernel_rfl) (by kernel_rfl) (fun _ _ _ h => h) (Or.inl ⟨by rfl, ?_⟩) (by assumption) ?_
        rotate_left 1
        . intro W hSw
          obtain ⟨x0, x1, x2⟩ := HX.out W hSw
          go_simp
          with_reducible rfl
        simp only [Act.put, List.setIfInBounds_toArray, List.set_cons_zero, List.set_cons_succ]
        refine wpAnyH_done (by kernel_rfl) ?_ _
        go_wp2_with fail
        go_meet
        case rel => exact ⟨W1.heap.size, gR, W1.heap.size + 1, rfl, rfl, HE2, HR2, HL2, hneL, hEB, hRB, hLB, hide hHeld⟩
  case rest =>
    obtain ⟨gM, gR, gL, rfl, rfl, HM4, HR4, HL4, hneL, hgM, hgR, hgL, HW4⟩ := hcut
    have hx4 := (HW4.out.block _ hwx).trans hx1
    have hB4 : Below w.heap.size w wc := hb1.trans (HW4.out.mono hb1.size)
    have hneM : gM ≠ gL := fun e => rk_box HL4.out HM4.out e.symm
    clear mq c1 HX hx1
    go_wp2_with fail
    go_loopw [5, 13] (fun _ vi wr => ∃ i : Nat, i <= n /\ vi = .int .i64 (i : Int) /\ Hid (Rk wr gL 3 n (fun j => .int .i64 (if j < i then (j : Int) else 0))) /\ Hid (wr.heap[gM]? = some (.cells #[.slice (some ⟨gR, 0, none⟩) n n] 25 (0, 0))) /\ Hid (Rk wr gR 3 n (fun j => .int .i64 (f j))) /\ Hid (wr.heap[w.heap.size]? = some (.cells #[.slice ao n k] 22 (0, 0))) /\ Hid (Below w.heap.size w wr)) (fun _ vi _ => n - (intOf vi).toNat)
    case atStart => exact ⟨0, Nat.zero_le _, rfl, hide (HL4.out.congr fun j _ => by rw [if_neg (by omega)]), HM4, HR4, hide hx4, hide hB4⟩
    case round =>
      clear HL4 HM4 HR4 hx4 hB4 HW4
      obtain ⟨i, hi, rfl, HL1, HM1, HR1, HX1, HB1⟩ := hrel
      by_cases h : i < n
      . have hd : decide ((i : Int) < (n : Int)) = true := decide_eq_true (by omega)
        have hkk : (i : Int) < (n : Int) := by omega
        have r0 := HL1.out.cell i h
        have r1 := HL1.out.frozen i
        have r2 := HL1.out.lt
        have HL2 : Hid (Rk (wr.setCell ⟨gL, i, none⟩ (.int .i64 (i : Int))) gL 3 n (fun j => .int .i64 (if j < i + 1 then (j : Int) else 0))) := hide ((HL1.out.set i _).congr fun j hj => by
          by_cases e : j = i
          . rw [if_pos e, if_pos (by omega), e]
          . rw [if_neg e]
            congr 1
            split <;> split <;> first | rfl | omega)
        have HM2 : Hid ((wr.setCell ⟨gL, i, none⟩ (.int .i64 (i : Int))).heap[gM]? = some (.cells #[.slice (some ⟨gR, 0, none⟩) n n] 25 (0, 0))) := hide ((Below.heap_setCell _ _ _ _ hneM).trans HM1.out)
        have HR2 : Hid (Rk (wr.setCell ⟨gL, i, none⟩ (.int .i64 (i : Int))) gR 3 n (fun j => .int .i64 (f j))) := hide (HR1.out.of_block (Below.heap_setCell _ _ _ _ hneL))
        have HX2 : Hid ((wr.setCell ⟨gL, i, none⟩ (.int .i64 (i : Int))).heap[w.heap.size]? = some (.cells #[.slice ao n k] 22 (0, 0))) := hide ((Below.heap_setCell _ _ _ _ (by simp; omega)).trans HX1.out)
        have HB2 : Hid (Below w.heap.size w (wr.setCell ⟨gL, i, none⟩ (.int .i64 (i : Int)))) := hide (HB1.out.setCell (p := ⟨gL, i, none⟩) (by simp; omega) _)
        go_wp2_with fail
        exact ⟨⟨i + 1, by omega, by go_num, HL2, HM2, HR2, HX2, HB2⟩, by simp [intOf]; omega⟩
      . obtain rfl : n = i := by omega
        have hd : decide ((n : Int) < (n : Int)) = false := decide_eq_false (by omega)
        have c5 := lSortOps ops f n HN.out h96 gM gR w.heap.size gL ao k wr HM1.out HR1.out HX1.out (HL1.out.congr fun j hj => by rw [if_pos hj]) hneM hneL (by omega) w.heap.size (fun V hV => HO.out.below (HB1.out.trans hV)) (by omega) HB1.out.size
        go_wp2_with (go_at_call 61; refine Calls.mono c5 ?_; rintro e w6 ⟨rfl, p, hp1, hp2, hp3, hp4⟩; have HS := hide (And.intro hp1 (And.intro hp2 (And.intro hp3 hp4))); clear hp1 hp2 hp3 hp4 c5)
        go_ret
        exact ⟨gL, p, rfl, HS.out.1, HS.out.2.1, HS.out.2.2.1, HB1.out.trans HS.out.2.2.2⟩
theorem pk_map (ops : List COp) (p : List Nat) : (p.map fun x : Nat => (x : Int)).map (fun z => oa ops z.toNat) = p.map (oa ops) := by
  rw [List.map_map]
  rfl
theorem pSortedA (c : Circ) (f : Nat -> Int) (hE : EV c.ops f) (hok : okC c = true) (n : Nat) (hn : c.ops.length = n) (ao : Option Addr) (k : Nat) (w : World) (hT : Tb w) (hC : Ci w c ao k) : Calls Tryd.prog 23 #[cV c ao k] w fun e w' => ∃ bo j p, e = .returned (.tuple #[.agg #[.int .i64 c.q, .int .i64 c.b, .slice bo n j], .int .i64 0]) /\ Ord n p /\ SB c.ops f p /\ OpsOwn w' w.heap.size bo n j (p.map (oa c.ops)) /\ Below w.heap.size w w' := by
  have c1 := fun V (h : Below w.heap.size w V) => cCheck c ao k V (hT.below h) (hC.below h)
  have h0 : (chkC c).2 = 0 := by unfold okC at hok; simpa using hok
  rw [h0] at c1
  have hwk := (ok_wk hok).1
  have h96 : n <= 4096 := by rw [← hn]; exact (ok_wk hok).2
  have HSo : Hid (∀ V, Below w.heap.size w V -> Calls Tryd.prog 44 #[.slice ao n k] V fun e w' => ∃ g p, e = .returned (.slice (some ⟨g, 0, none⟩) n n) /\ Ord n p /\ SB c.ops f p /\ Ns w' (some ⟨g, 0, none⟩) (p.map fun x : Nat => (x : Int)) /\ Below V.heap.size V w') := hide (fun V hV => lSortedA c.ops f hE (fun o ho => (hwk o ho).1) n hn h96 ao k V (hC.ops.below hV))
  have HPi : Hid (∀ V, Below w.heap.size w V -> ∀ (p : List Nat), Ord n p -> ∀ al cl, Ns V al (p.map fun x : Nat => (x : Int)) -> Calls Tryd.prog 43 #[cV c ao k, .slice al n cl] V fun e w' => ∃ bo j, e = .returned (.agg #[.int .i64 c.q, .int .i64 c.b, .slice bo n j]) /\ OpsOwn w' V.heap.size bo n j (p.map (oa c.ops)) /\ Below V.heap.size V w') := hide (fun V hV p hp al cl hN => by
    have h1 := lPicked c ao k (fun o ho => (hwk o ho).1.len) (p.map fun x : Nat => (x : Int)) al cl (fun z hz => by
      obtain ⟨y, hy, rfl⟩ := List.mem_map.1 hz
      have := hp.lt y hy
      omega) (by rw [List.length_map, hp.len]; omega) V (hC.below hV) hN
    unfold cV at h1 ⊢
    rw [pk_map] at h1
    simp only [List.length_map, hp.len] at h1
    exact h1)
  obtain ⟨q, b, ops⟩ := c
  unfold cV at *
  simp only at *
  generalize (chkC ⟨q, b, ops⟩).1 = z1 at *
  rw [hn] at c1 HPi ⊢
  clear hn hT hC hE hok h0 hwk
  have hB1 : Below w.heap.size w ((w.alloc (.cells #[.int .i64 q, .int .i64 b, .slice ao n k] 24)).alloc (.cells #[.int .i64 0, .int .i64 0, .slice none 0 0] 24)) := (bnew _ _).trans ((bnew _ _).mono (by simp))
  have hm1 : ((w.alloc (.cells #[.int .i64 q, .int .i64 b, .slice ao n k] 24)).alloc (.cells #[.int .i64 0, .int .i64 0, .slice none 0 0] 24)).heap[w.heap.size]? = some (.cells #[.int .i64 q, .int .i64 b, .slice ao n k] 24 (0, 0)) := (Below.heap_alloc _ _ _ (by simp)).trans (heap_alloc_new _ _)
  have hz1 : ((w.alloc (.cells #[.int .i64 q, .int .i64 b, .slice ao n k] 24)).alloc (.cells #[.int .i64 0, .int .i64 0, .slice none 0 0] 24)).heap[w.heap.size + 1]? = some (.cells #[.int .i64 0, .int .i64 0, .slice none 0 0] 24 (0, 0)) := by
    have := heap_alloc_new (w.alloc (.cells #[.int .i64 q, .int .i64 b, .slice ao n k] 24)) (.cells #[.int .i64 0, .int .i64 0, .slice none 0 0] 24)
    rw [World.size_alloc] at this
    exact this
  go_enter Tryd.func23, Tryd.ntmps23
  go_upto_region 1 with fail
  obtain ⟨b1, hb1⟩ : ∃ b1, b1 = w.heap.size := ⟨_, rfl⟩
  obtain ⟨b2, hb2⟩ : ∃ b2, b2 = w.heap.size + 1 := ⟨_, rfl⟩
  rw [← hb2, ← hb1]
  rw [← hb1] at hm1
  rw [← hb2] at hz1
  have hbs : b1 < b2 /\ w.heap.size <= b1 := ⟨by omega, by omega⟩
  clear hb1 hb2
  generalize ((w.alloc (.cells #[.int .i64 q, .int .i64 b, .slice ao n k] 24)).alloc (.cells #[.int .i64 0, .int .i64 0, .slice none 0 0] 24)) = W1 at *
  have c1' := c1 W1 hB1
  obtain ⟨x0, x1, x2, x3⟩ := def_cells hm1
  clear c1
  go_upto_region 4 with (go_at_call 29; refine c1'.mono ?_; rintro e w2 ⟨rfl, hb2⟩; have hm2 := (hb2.block _ (Array.getElem?_eq_some_iff.1 hm1).1).trans hm1; have hz2 := (hb2.block _ (Array.getElem?_eq_some_iff.1 hz1).1).trans hz1; have hB2 := hB1.trans (hb2.mono hB1.size); clear c1')
  have HZ2 := hide hz2
  clear hm1 hz1 hB1 hb2 hz2 x0 x1 x2 x3
  refine wp_region_held_drew (S := (fun V : World => V.heap[b1]? = some (.cells #[.int .i64 q, .int .i64 b, .slice ao n k] 24 (0, 0)) /\ Below w.heap.size w V)) (by kernel_rfl) ⟨hm2, hB2.drew⟩ (fun hHeld => ?_)
  replace HZ2 : Hid (w2.drew.heap[b2]? = some (.cells #[.int .i64 0, .int .i64 0, .slice none 0 0] 24 (0, 0))) := hide HZ2.out
  clear hm2 hB2
  refine take_to (i := 0) (d := 15) (v := ?_) rfl rfl (by kernel_rfl) (by kernel_rfl) (by kernel_rfl) (fun _ _ _ h => h) (Or.inl ⟨by rfl, ?_⟩) (by assumption) ?_
  rotate_left 1
  . intro W hSw
    obtain ⟨hc1, hc2⟩ := hSw
    obtain ⟨s0, s1, s2, s3⟩ := def_cells hc1
    go_simp
    with_reducible rfl
  simp only [Act.put, List.setIfInBounds_toArray, List.set_cons_zero, List.set_cons_succ]
  refine take_to (i := 1) (d := 16) (v := ?_) rfl rfl (by kernel_rfl) (by kernel_rfl) (by kernel_rfl) (fun _ _ _ h => h) (Or.inl ⟨by rfl, ?_⟩) (by assumption) ?_
  rotate_left 1
  . intro W hSw
    obtain ⟨hc1, hc2⟩ := hSw
    obtain ⟨s0, s1, s2, s3⟩ := def_cells hc1
    go_simp
    with_reducible rfl
  simp only [Act.put, List.setIfInBounds_toArray, List.set_cons_zero, List.set_cons_succ]
  refine take_to (i := 2) (d := 17) (v := ?_) rfl rfl (by kernel_rfl) (by kernel_rfl) (by kernel_rfl) (fun _ _ _ h => h) (Or.inl ⟨by rfl, ?_⟩) (by assumption) ?_
  rotate_left 1
  . intro W hSw
    obtain ⟨hc1, hc2⟩ := hSw
    obtain ⟨s0, s1, s2, s3⟩ := def_cells hc1
    go_simp
    with_reducible rfl
  simp only [Act.put, List.setIfInBounds_toArray, List.set_cons_zero, List.set_cons_succ]
  refine wpAnyH_ready (rs := [3]) (by kernel_rfl) (by simp) ?_
  refine AllReadyH.cons (o := { dst := some 18, op := Op.call { callee := Callee.value (Operand.func 44), args := #[Operand.tmp 17], argTypes := #[22] }, type := 25, pos := "layers.go:55", after := #[{ on := 2, ground := Ground.data }], guard := none }) rfl (fun K hK => ?_) AllReadyH.nil
  go_simp
  go_at_call 44
  refine (HSo.out _ hHeld.2).mono ?_
  rintro e w3 ⟨gs, p, rfl, hp, hsb, hNs, hb3⟩
  have HP := hide (And.intro hp hsb)
  have hB3 := Below.trans hHeld.2 (hb3.mono hHeld.2.size)
  have hm3 := (hb3.block _ (Array.getElem?_eq_some_iff.1 hHeld.1).1).trans hHeld.1
  have HZ3 := hide ((hb3.block _ (Array.getElem?_eq_some_iff.1 HZ2.out).1).trans HZ2.out)
  have c4 := HPi.out w3 hB3 p hp (some ⟨gs, 0, none⟩) n hNs
  clear hp hsb hNs
  go_wp2_with fail
  refine hK.out _ _ (show (fun V : World => V.heap[b1]? = some (.cells #[.int .i64 q, .int .i64 b, .slice ao n k] 24 (0, 0)) /\ Below w.heap.size w V) w3 from ⟨hm3, hB3⟩) (fun hHeld => ?_)
  clear hK K
  try simp only [Act.put, List.setIfInBounds_toArray, List.set_cons_zero, List.set_cons_succ]
  refine wpAnyH_ready (rs := [4]) (by kernel_rfl) (by simp) ?_
  refine AllReadyH.cons (o := { dst := some 19, op := Op.call { callee := Callee.value (Operand.func 43), args := #[Operand.tmp 15, Operand.tmp 18], argTypes := #[24, 25] }, type := 24, pos := "layers.go:55", after := #[{ on := 0, ground := Ground.data }, { on := 3, ground := Ground.data }, { on := 3, ground := Ground.chain }], guard := none }) rfl (fun K hK => ?_) AllReadyH.nil
  go_simp
  go_at_call 43
  refine Calls.mono c4 ?_
  rintro e w4 ⟨bo, jj, rfl, hO4, hb4⟩
  have hB4 : Below w.heap.size w w4 := hB3.trans (hb4.mono hB3.size)
  have hm4 := (hb4.block _ (Array.getElem?_eq_some_iff.1 hm3).1).trans hm3
  have HZ4 := hide ((hb4.block _ (Array.getElem?_eq_some_iff.1 HZ3.out).1).trans HZ3.out)
  have HO4 := hide hO4
  go_wp2_with fail
  refine hK.out _ _ (show (fun V : World => V.heap[b1]? = some (.cells #[.int .i64 q, .int .i64 b, .slice ao n k] 24 (0, 0)) /\ Below w.heap.size w V) w4 from ⟨hm4, hB4⟩) (fun hHeld => ?_)
  clear hK K c4 hO4
  try simp only [Act.put, List.setIfInBounds_toArray, List.set_cons_zero, List.set_cons_succ]
  refine wpAnyH_ready (rs := [5]) (by kernel_rfl) (by simp) ?_
  refine AllReadyH.cons (o := { dst := none, op := Op.store 24 (Operand.tmp 2) (Operand.tmp 19), type := 0, pos := "layers.go:55", after := #[{ on := 4, ground := Ground.data }, { on := 4, ground := Ground.chain }, { on := 0, ground := Ground.phase }, { on := 1, ground := Ground.phase }, { on := 2, ground := Ground.phase }, { on := 3, ground := Ground.phase }, { on := 4, ground := Ground.phase }], guard := none }) rfl (fun K hK => ?_) AllReadyH.nil
  rw [if_pos (by rfl)]
  refine wp_store_row _ _ _ rfl _ _ (by rfl) (by rfl) _ _ HZ4.out (by exact infoC3) (by rfl) (by simp [Value.oneCell']) ?_
  refine hK.out _ _ (show (fun V : World => V.heap[b1]? = some (.cells #[.int .i64 q, .int .i64 b, .slice ao n k] 24 (0, 0)) /\ Below w.heap.size w V) _ from ⟨(setRow_other _ _ _ _ (by omega)).trans hm4, Below.row hB4 _ _ (by omega)⟩) (fun hHeld => ?_)
  clear hK K
  refine take_to (i := 6) (d := 3) (v := ?_) rfl rfl (by kernel_rfl) (by kernel_rfl) (by kernel_rfl) (fun _ _ _ h => h) (Or.inl ⟨by rfl, ?_⟩) (by assumption) ?_
  rotate_left 1
  . intro W hSw
    obtain ⟨hc1, hc2⟩ := hSw
    obtain ⟨s0, s1, s2, s3⟩ := def_cells hc1
    go_simp
    with_reducible rfl
  simp only [Act.put, List.setIfInBounds_toArray, List.set_cons_zero, List.set_cons_succ]
  refine wpAnyH_done (by kernel_rfl) ?_ _
  go_wp2_with fail
  refine bodyPost_ret (res_ct rfl _ _ b2 _ _ _ (.int .i64 0) (by rfl) (by rfl) (setRow_heap _ _ _ _ _ _ HZ4.out) Tryd.underlying24 rfl (by exact infoC3)) rfl ?_
  refine ⟨bo, jj, p, rfl, HP.out.1, HP.out.2, ?_, Below.row hB4 _ _ (by omega)⟩
  exact (HO4.out.base hB3.size).row HZ4.out (by decide) (by decide) _
end Go.Proofs.YthndpbjplcphpaaDoor.Lay
