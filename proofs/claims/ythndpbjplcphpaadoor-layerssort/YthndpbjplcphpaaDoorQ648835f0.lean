import Derived.Stop.Asserts
import Derived.StillTail
import Derived.Test.YthndpbjplcphpaaDoorQ6c237446
set_option maxRecDepth 100000
set_option maxHeartbeats 2000000
namespace Go.Proofs.YthndpbjplcphpaaDoor.Cir
open Go.RowKit Go.Shelf Go.Proofs.YthndpbjplcphpaaDoor.Oct Go.Proofs.YthndpbjplcphpaaDoor.Tok Go.Proofs.YthndpbjplcphpaaDoor.Gt
theorem sClone_nil (c : Nat) (w : World) : Calls Tryd.prog 72 #[.slice none 0 c] w fun e w' => e = .returned (.slice none 0 0) /\ Below w.heap.size w w' := by
  have heq := fun a n c w => Lib.run_eql_slice_nil (P := Tryd.prog) w a n c
  go_enter Tryd.func72, Tryd.ntmps72
  go_wp2_with fail
  go_ret
  exact ⟨rfl, Below.refl _ _⟩
theorem sCloneB (ao : Option Addr) (c : Nat) (l : List Int) (hl : l.length <= 17592186044416) (h0 : 0 < l.length) (w : World) (hN : Ns w ao l) : Calls Tryd.prog 72 #[.slice ao l.length c] w fun e w' => ∃ g c', e = .returned (.slice (some ⟨g, 0, none⟩) l.length c') /\ w'.ownsRow w.heap.size 3 1 (.slice (some ⟨g, 0, none⟩) l.length c') l.length (l.map (Value.int .i64)) /\ Below w.heap.size w w' := by
  obtain ⟨i0, hi, hz0, hz1, hz2⟩ := info_parts Gt.infoI
  have hne : l ≠ [] := fun e => by rw [e] at h0; simp at h0
  obtain ⟨g, off, rfl, hc⟩ := hN.resolve_left hne
  have heq := fun a n c w => Lib.run_eql_slice_nil (P := Tryd.prog) w a n c
  have hnews : ∀ j u, (l.map (Value.int .i64))[j]? = some u -> (w.alloc (.cells #[] 3)).cell? ((⟨g, off, none⟩ : Addr).add j) = some u := by
    intro j u hu
    rw [Addr.add_lit]
    rw [List.getElem?_map] at hu
    obtain ⟨z, hz, rfl⟩ := Option.map_eq_some_iff.1 hu
    exact ((bnew w _).cell (World.block_lt_of_cell? w _ (hc j z hz))).trans (hc j z hz)
  have hown : (w.alloc (.cells #[] 3)).ownsRow w.heap.size 3 1 (.slice (some ⟨w.heap.size, 0, none⟩) 0 0) 0 [] := ⟨rfl, .inr ⟨w.heap.size, 0, #[], rfl, Nat.le_refl _, heap_alloc_new _ _, Nat.le_refl _, by decide, rfl, rfl⟩⟩
  obtain ⟨n, hn⟩ : ∃ n, l.length = n := ⟨_, rfl⟩
  have hml : (l.map (Value.int .i64)).length = n * 1 := by rw [List.length_map]; omega
  rw [hn] at hl h0 ⊢
  generalize hL : l.map (Value.int .i64) = L at *
  have hone : ∀ u ∈ L, u.oneCell' = true := by
    intro u hu
    rw [← hL] at hu
    obtain ⟨z, _, rfl⟩ := List.mem_map.1 hu
    rfl
  clear hc hN hne hn hL
  go_enter Tryd.func72, Tryd.ntmps72
  go_wp2_with (at_builtin; refine wpList_append_lies _ rfl _ _ 25 rfl w.heap.size 3 i0 (.int .i64 0) 1 8 Tryd.underlying25 hi hz0 hz1 hz2 rfl (by decide) _ 0 [] rfl hown ⟨g, off, none⟩ n c L rfl hml hnews hone h0 (by unfold maxLen; omega) (by omega) (by simp) _ rfl ?_)
  intro g2 cap w2 hown2 hgrow hat hlt
  have hb2 : Below w.heap.size w w2 := (bnew w _).grown hgrow (by simp) (fun q hq => by simp [Value.ownBlock] at hq; omega)
  clear hgrow hat hnews hone hown
  go_wp2_with fail
  go_ret
  exact ⟨g2, cap, rfl, hown2, hb2⟩
def Szs (ops : List COp) : Prop := ops.length <= 2199023255552 /\ ∀ o ∈ ops, o.qs.length <= 17592186044416
theorem make_opG (n : Nat) (hn : n <= 2199023255552) (w : World) : ∃ w' xs, (Instr.makeSlice 22 (.int .i64 (n : Int)) (.int .i64 (n : Int))).run Tryd.prog w = .ok (.slice (some ⟨w.heap.size, 0, none⟩) n n) w' /\ w'.ownsRow w.heap.size 57 6 (.slice (some ⟨w.heap.size, 0, none⟩) n n) n xs /\ Below w.heap.size w w' := by
  obtain ⟨i, hi, hz0, hz1, hz2⟩ := info_parts infoOp
  obtain ⟨w', h1, h2, h3⟩ := run_make_full (P := Tryd.prog) w w.heap.size 22 57 i _ 6 Tryd.underlying22 hi hz0 hz1 .i64 .i64 n (by rw [hz2]; omega) (by unfold maxLen; omega) (Nat.le_refl _)
  exact ⟨w', _, h1, h2, ⟨h3.os, h3.tape, h3.output, h3.size, fun k hk => h3.block k hk (by simp)⟩⟩
def RowO (w : World) (B : Nat) (v : Value) (l : List Int) : Prop := ∃ ao c, v = .slice ao l.length c /\ w.ownsRow B 3 1 (.slice ao l.length c) l.length (l.map (Value.int .i64))
theorem RowO.block {w w' : World} {B : Nat} {v : Value} {l : List Int} (h : RowO w B v l) (hk : ∀ (g : Nat) (cs : Array Value) (fr : Nat × Nat), w.heap[g]? = some (Obj.cells cs 3 fr) -> w'.heap[g]? = w.heap[g]?) : RowO w' B v l := by
  obtain ⟨ao, c, e, h⟩ := h
  refine ⟨ao, c, e, own_of_block h fun k hk' => ?_⟩
  obtain ⟨cs, fr, hg⟩ := own_cells' h hk'
  exact hk k cs fr hg
theorem RowO.below {w w' : World} {B : Nat} {v : Value} {l : List Int} (h : RowO w B v l) (hb : Below w.heap.size w w') : RowO w' B v l := h.block fun g _ _ hg => hb.block g (Array.getElem?_eq_some_iff.1 hg).1
theorem RowO.base {w : World} {B B' : Nat} {v : Value} {l : List Int} (h : RowO w B v l) (hb : B' <= B) : RowO w B' v l := by
  obtain ⟨ao, c, e, h1, h2⟩ := h
  refine ⟨ao, c, e, h1, ?_⟩
  rcases h2 with h2 | ⟨g, cap, cur, e1, e2, e3⟩
  . exact .inl h2
  . exact .inr ⟨g, cap, cur, e1, Nat.le_trans hb e2, e3⟩
theorem RowO.lt {w : World} {B : Nat} {v : Value} {l : List Int} (h : RowO w B v l) {g : Nat} (hg : v.ownBlock = some g) : B <= g /\ g < w.heap.size := by
  obtain ⟨ao, c, e, h⟩ := h
  subst e
  exact own_lt h g (by rw [← ob_eq]; exact hg)
theorem RowO.isI {w : World} {B : Nat} {v : Value} {l : List Int} (h : RowO w B v l) : IsI w v l := by
  obtain ⟨ao, c, e, h⟩ := h
  rcases h.2 with ⟨hv, h0⟩ | ⟨g, cap, cur, hv, -⟩
  . exact .inl ⟨List.length_eq_zero_iff.1 h0, ao, c, by rw [e, h0]⟩
  . simp only [Value.slice.injEq] at hv
    obtain ⟨rfl, -, rfl⟩ := hv
    rw [e]
    exact IsI.of_own h
def Pw (ys : List (COp × Value)) : Prop := ys.Pairwise fun x y => ∀ g, x.2.ownBlock = some g -> y.2.ownBlock = some g -> False
theorem Pw.snoc {ys : List (COp × Value)} {y : COp × Value} (h : Pw ys) (hn : ∀ x ∈ ys, ∀ g, x.2.ownBlock = some g -> y.2.ownBlock = some g -> False) : Pw (ys ++ [y]) := by
  unfold Pw
  rw [List.pairwise_append]
  exact ⟨h, List.pairwise_singleton _ _, fun a ha b hb => by rw [List.mem_singleton] at hb; subst hb; exact hn a ha⟩
def OpsOwn (w : World) (B : Nat) (ao : Option Addr) (n c : Nat) (ops : List COp) : Prop := ∃ xs : List (COp × Value), n = xs.length /\ ops = xs.map (·.1) /\ w.ownsRow B 57 6 (.slice ao n c) n (xs.flatMap opC) /\ (∀ x ∈ xs, RowO w B x.2 x.1.qs) /\ Pw xs
theorem OpsOwn.at {w : World} {B : Nat} {ao : Option Addr} {n c : Nat} {ops : List COp} (h : OpsOwn w B ao n c ops) : OpsAt w B ao n c ops := by
  obtain ⟨xs, h1, h2, h3, h4, -⟩ := h
  exact ⟨xs, h1, h2, h3, fun x hx => (h4 x hx).isI⟩
theorem OpsOwn.kept {w w' : World} {B : Nat} {ao : Option Addr} {n c : Nat} {ops : List COp} (h : OpsOwn w B ao n c ops) (hb : ∀ g, B <= g -> g < w.heap.size -> w'.heap[g]? = w.heap[g]?) : OpsOwn w' B ao n c ops := by
  obtain ⟨xs, h1, h2, h3, h4, h5⟩ := h
  refine ⟨xs, h1, h2, own_of_block h3 (fun k hk => hb k (own_lt h3 k hk).1 (own_lt h3 k hk).2), fun x hx => ?_, h5⟩
  obtain ⟨ao, c, e, h⟩ := h4 x hx
  exact ⟨ao, c, e, own_of_block h (fun k hk => hb k (own_lt h k hk).1 (own_lt h k hk).2)⟩
theorem OpsOwn.base {w : World} {B B' : Nat} {ao : Option Addr} {n c : Nat} {ops : List COp} (h : OpsOwn w B ao n c ops) (hb : B' <= B) : OpsOwn w B' ao n c ops := by
  obtain ⟨xs, h1, h2, h3, h4, h5⟩ := h
  refine ⟨xs, h1, h2, ⟨h3.1, ?_⟩, fun x hx => (h4 x hx).base hb, h5⟩
  rcases h3.2 with h2 | ⟨g, cap, cur, e1, e2, e3⟩
  . exact .inl h2
  . exact .inr ⟨g, cap, cur, e1, Nat.le_trans hb e2, e3⟩
theorem OpsOwn.below {w w' : World} {B : Nat} {ao : Option Addr} {n c : Nat} {ops : List COp} (h : OpsOwn w B ao n c ops) (hb : Below w.heap.size w w') : OpsOwn w' B ao n c ops := h.kept fun g _ hg => hb.block g hg
theorem OpsOwn.row {w : World} {B : Nat} {ao : Option Addr} {n c : Nat} {ops : List COp} (h : OpsOwn w B ao n c ops) {g : Nat} {cs : Array Value} {t : TypeId} {fr : Nat × Nat} (hg : w.heap[g]? = some (.cells cs t fr)) (h1 : t ≠ 57) (h2 : t ≠ 3) (cs' : Array Value) : OpsOwn (w.setRow g cs') B ao n c ops := by
  obtain ⟨xs, e1, e2, e3, e4, e5⟩ := h
  refine ⟨xs, e1, e2, own_of_block e3 (fun k hk => setRow_other _ _ _ _ (fun e => ?_)), fun x hx => (e4 x hx).block (fun b cs2 fr2 hb => setRow_other _ _ _ _ (fun e => ?_)), e5⟩
  . subst e
    exact own_ne e3 hg h1 hk
  . subst e
    rw [hg] at hb
    cases hb
    exact h2 rfl
theorem sClone_noneO (a : Addr) (c : Nat) (w : World) : Calls Tryd.prog 72 #[.slice (some a) 0 c] w fun e w' => e = .returned (.slice (some ⟨w.heap.size, 0, none⟩) 0 0) /\ w'.ownsRow w.heap.size 3 1 (.slice (some ⟨w.heap.size, 0, none⟩) 0 0) 0 [] /\ Below w.heap.size w w' := by
  have heq := fun a n c w => Lib.run_eql_slice_nil (P := Tryd.prog) w a n c
  go_enter Tryd.func72, Tryd.ntmps72
  go_wp2_with fail
  go_ret
  exact ⟨rfl, ⟨rfl, .inr ⟨w.heap.size, 0, #[], rfl, Nat.le_refl _, heap_alloc_new _ _, Nat.le_refl _, by decide, rfl, rfl⟩⟩, bnew _ _⟩
theorem sCloneO (ao : Option Addr) (c : Nat) (l : List Int) (hl : l.length <= 17592186044416) (w : World) (hN : Ns w ao l) : Calls Tryd.prog 72 #[.slice ao l.length c] w fun e w' => ∃ ao' c', e = .returned (.slice ao' l.length c') /\ RowO w' w.heap.size (.slice ao' l.length c') l /\ Below w.heap.size w w' := by
  by_cases h0 : 0 < l.length
  . refine (sCloneB ao c l hl h0 w hN).mono ?_
    rintro e w' ⟨g, c', rfl, hown, hb⟩
    exact ⟨some ⟨g, 0, none⟩, c', rfl, ⟨_, _, rfl, hown⟩, hb⟩
  . obtain rfl : l = [] := List.length_eq_zero_iff.1 (by omega)
    cases ao with
    | none =>
      refine (sClone_nil c w).mono ?_
      rintro e w' ⟨rfl, hb⟩
      exact ⟨none, 0, rfl, ⟨_, _, rfl, rfl, .inl ⟨rfl, rfl⟩⟩, hb⟩
    | some a =>
      refine (sClone_noneO a c w).mono ?_
      rintro e w' ⟨rfl, hown, hb⟩
      exact ⟨some ⟨w.heap.size, 0, none⟩, 0, rfl, ⟨_, _, rfl, hown⟩, hb⟩
theorem cCopyOpsO (ops : List COp) (ao : Option Addr) (k : Nat) (hS : Szs ops) (w : World) (hO : OpsIn w ao ops) : Calls Tryd.prog 73 #[.slice ao ops.length k] w fun e w' => ∃ g, e = .returned (.slice (some ⟨g, 0, none⟩) ops.length ops.length) /\ OpsOwn w' w.heap.size (some ⟨g, 0, none⟩) ops.length ops.length ops /\ Below w.heap.size w w' := by
  have HO := hide hO
  have HSm := hide hS.2
  have hsl := hS.1
  obtain ⟨n, hn⟩ : ∃ n, ops.length = n := ⟨_, rfl⟩
  have HL := hide hn
  rw [hn] at hsl ⊢
  clear hn hO hS
  obtain ⟨w1, xs1, hmk, hown1, hb1⟩ := make_opG n hsl w
  have HM := hide hown1
  have HB := hide hb1
  clear hown1 hb1
  go_enter Tryd.func73, Tryd.ntmps73
  go_wp2_with fail
  go_loopw [4, 11] (fun _ vi wr => ∃ i : Nat, vi = .int .i64 (i : Int) /\ i <= n /\ Below w.heap.size w wr /\ ∃ (xs : List Value) (ys : List (COp × Value)), wr.ownsRow w.heap.size 57 6 (.slice (some ⟨w.heap.size, 0, none⟩) n n) n xs /\ ys.map (·.1) = ops.take i /\ ((∀ x ∈ ys, RowO wr w.heap.size x.2 x.1.qs) /\ Pw ys) /\ xs.take (i * 6) = ys.flatMap opC) (fun _ vi _ => n - (Go.RowKit.intOf vi).toNat)
  case atStart => exact ⟨0, rfl, Nat.zero_le _, HB.out, xs1, [], HM.out, rfl, ⟨(fun _ h => absurd h List.not_mem_nil), List.Pairwise.nil⟩, by simp⟩
  case round =>
    obtain ⟨i, rfl, hi, hb, xs, ys, hown, hys, hI, hxs⟩ := hrel
    by_cases h : i < n
    . have hd : decide ((i : Int) < (n : Int)) = true := decide_eq_true (by omega)
      obtain ⟨o, ho⟩ : ∃ o, ops[i]? = some o := ⟨_, List.getElem?_eq_getElem (by rw [HL.out]; exact h)⟩
      obtain ⟨g, off, aq, cq, rfl, hgl0, hoc0⟩ := HO.out.at ho
      have hoc := hoc0.below hb
      have hgl : g < wr.heap.size := Nat.lt_of_lt_of_le hgl0 hb.size
      have hgG : g ≠ w.heap.size := by omega
      have hq1 := HSm.out o (List.mem_of_getElem? ho)
      have hxl := hown.1
      obtain ⟨z0, z1, z2, z3, z4, z5, y0, y1, y2, y3, y4, y5⟩ := take6 xs i (by omega)
      have k0 := hoc.kind
      have k1 := hoc.gate
      have k2 := hoc.qs
      have k3 := hoc.bit
      have k4 := hoc.cond
      have k5 := hoc.whn
      have d0 := own_at hown _ _ y0
      have d1 := own_at hown _ _ y1
      have d2 := own_at hown _ _ y2
      have d3 := own_at hown _ _ y3
      have d4 := own_at hown _ _ y4
      have d5 := own_at hown _ _ y5
      have df := own_free hown
      have hgw : w.heap.size < wr.heap.size := (own_lt hown w.heap.size rfl).2
      have hkk : (i : Int) < (n : Int) := by omega
      have c1 := fun V (hN : Ns V aq o.qs) => sCloneO aq cq o.qs hq1 V hN
      have HNS := hide hoc0.ns
      have HOW := hide hown
      have HYS := hide hys
      have HI := hide hI
      have HXS := hide hxs
      have HOO := hide ho
      clear hoc hoc0 ho y0 y1 y2 y3 y4 y5 hown hys hI hxs
      obtain ⟨kind, gate, qs, bit, cond, whn⟩ := o
      simp only at k0 k1 k2 k3 k4 k5 c1 hq1 HNS
      go_wp2_with fail
      have hXo : (((((((wr.setCell ⟨w.heap.size, i * 6, none⟩ (.int .i64 kind)).setCell ⟨w.heap.size, i * 6 + 1, none⟩ (.int .i64 gate)).setCell ⟨w.heap.size, i * 6 + 2, none⟩ (.slice aq qs.length cq)).setCell ⟨w.heap.size, i * 6 + 3, none⟩ (.int .i64 bit)).setCell ⟨w.heap.size, i * 6 + 4, none⟩ (.int .i64 cond)).setCell ⟨w.heap.size, i * 6 + 5, none⟩ (.int .i64 whn))).ownsRow w.heap.size 57 6 (.slice (some ⟨w.heap.size, 0, none⟩) n n) n ((((((xs.set (i * 6) (.int .i64 kind)).set (i * 6 + 1) (.int .i64 gate)).set (i * 6 + 2) (.slice aq qs.length cq)).set (i * 6 + 3) (.int .i64 bit)).set (i * 6 + 4) (.int .i64 cond)).set (i * 6 + 5) (.int .i64 whn)) := own_set (own_set (own_set (own_set (own_set (own_set HOW.out _ _) _ _) _ _) _ _) _ _) _ _
      have hXb : Below w.heap.size w (((((((wr.setCell ⟨w.heap.size, i * 6, none⟩ (.int .i64 kind)).setCell ⟨w.heap.size, i * 6 + 1, none⟩ (.int .i64 gate)).setCell ⟨w.heap.size, i * 6 + 2, none⟩ (.slice aq qs.length cq)).setCell ⟨w.heap.size, i * 6 + 3, none⟩ (.int .i64 bit)).setCell ⟨w.heap.size, i * 6 + 4, none⟩ (.int .i64 cond)).setCell ⟨w.heap.size, i * 6 + 5, none⟩ (.int .i64 whn))) := (((((hb.setCell (p := ⟨w.heap.size, i * 6, none⟩) (Nat.le_refl _) _).setCell (p := ⟨w.heap.size, i * 6 + 1, none⟩) (Nat.le_refl _) _).setCell (p := ⟨w.heap.size, i * 6 + 2, none⟩) (Nat.le_refl _) _).setCell (p := ⟨w.heap.size, i * 6 + 3, none⟩) (Nat.le_refl _) _).setCell (p := ⟨w.heap.size, i * 6 + 4, none⟩) (Nat.le_refl _) _).setCell (p := ⟨w.heap.size, i * 6 + 5, none⟩) (Nat.le_refl _) _
      have hXk : ∀ b, b ≠ w.heap.size -> (((((((wr.setCell ⟨w.heap.size, i * 6, none⟩ (.int .i64 kind)).setCell ⟨w.heap.size, i * 6 + 1, none⟩ (.int .i64 gate)).setCell ⟨w.heap.size, i * 6 + 2, none⟩ (.slice aq qs.length cq)).setCell ⟨w.heap.size, i * 6 + 3, none⟩ (.int .i64 bit)).setCell ⟨w.heap.size, i * 6 + 4, none⟩ (.int .i64 cond)).setCell ⟨w.heap.size, i * 6 + 5, none⟩ (.int .i64 whn))).heap[b]? = wr.heap[b]? := fun b hb' => by
        rw [Below.heap_setCell _ _ _ _ hb', Below.heap_setCell _ _ _ _ hb', Below.heap_setCell _ _ _ _ hb', Below.heap_setCell _ _ _ _ hb', Below.heap_setCell _ _ _ _ hb', Below.heap_setCell _ _ _ _ hb']
      have hXs : (((((((wr.setCell ⟨w.heap.size, i * 6, none⟩ (.int .i64 kind)).setCell ⟨w.heap.size, i * 6 + 1, none⟩ (.int .i64 gate)).setCell ⟨w.heap.size, i * 6 + 2, none⟩ (.slice aq qs.length cq)).setCell ⟨w.heap.size, i * 6 + 3, none⟩ (.int .i64 bit)).setCell ⟨w.heap.size, i * 6 + 4, none⟩ (.int .i64 cond)).setCell ⟨w.heap.size, i * 6 + 5, none⟩ (.int .i64 whn))).heap.size = wr.heap.size := by simp [World.setCell]
      generalize (((((((wr.setCell ⟨w.heap.size, i * 6, none⟩ (.int .i64 kind)).setCell ⟨w.heap.size, i * 6 + 1, none⟩ (.int .i64 gate)).setCell ⟨w.heap.size, i * 6 + 2, none⟩ (.slice aq qs.length cq)).setCell ⟨w.heap.size, i * 6 + 3, none⟩ (.int .i64 bit)).setCell ⟨w.heap.size, i * 6 + 4, none⟩ (.int .i64 cond)).setCell ⟨w.heap.size, i * 6 + 5, none⟩ (.int .i64 whn))) = X at *
      have hYb : Below w.heap.size w (X.alloc (.cells #[.int .i64 kind, .int .i64 gate, .slice aq qs.length cq, .int .i64 bit, .int .i64 cond, .int .i64 whn] 57)) := hXb.trans ((bnew _ _).mono hXb.size)
      have hYo := hXo.alloc (.cells #[.int .i64 kind, .int .i64 gate, .slice aq qs.length cq, .int .i64 bit, .int .i64 cond, .int .i64 whn] 57)
      have hYk : ∀ b, b < wr.heap.size -> b ≠ w.heap.size -> (X.alloc (.cells #[.int .i64 kind, .int .i64 gate, .slice aq qs.length cq, .int .i64 bit, .int .i64 cond, .int .i64 whn] 57)).heap[b]? = wr.heap[b]? := fun b hl hb' => (Below.heap_alloc _ _ _ (by omega)).trans (hXk b hb')
      have hYs : (X.alloc (.cells #[.int .i64 kind, .int .i64 gate, .slice aq qs.length cq, .int .i64 bit, .int .i64 cond, .int .i64 whn] 57)).heap.size = wr.heap.size + 1 := by rw [World.size_alloc, hXs]
      generalize (X.alloc (.cells #[.int .i64 kind, .int .i64 gate, .slice aq qs.length cq, .int .i64 bit, .int .i64 cond, .int .i64 whn] 57)) = Y at *
      refine (c1 Y (HNS.out.below hYb)).mono ?_
      rintro e w3 ⟨ao3, c3, rfl, hI3, hb3⟩
      have h3o := own_below hYo hb3
      have hlt2 : i * 6 + 2 < xs.length := by rw [hxl]; omega
      have m2 : w3.cell? ⟨w.heap.size, i * 6 + 2, none⟩ = some (.slice aq qs.length cq) := own_at h3o _ _ (by
        rw [List.getElem?_set_ne (by omega), List.getElem?_set_ne (by omega), List.getElem?_set_ne (by omega), List.getElem?_set_self (by simpa using hlt2)])
      have mf := own_free h3o (i * 6 + 2)
      have hz3 := hb3.size
      have H3 : Hid (∃ (xs' : List Value) (ys' : List (COp × Value)), (w3.setCell ⟨w.heap.size, i * 6 + 2, none⟩ (.slice ao3 qs.length c3)).ownsRow w.heap.size 57 6 (.slice (some ⟨w.heap.size, 0, none⟩) n n) n xs' /\ ys'.map (·.1) = ops.take (i + 1) /\ ((∀ x ∈ ys', RowO (w3.setCell ⟨w.heap.size, i * 6 + 2, none⟩ (.slice ao3 qs.length c3)) w.heap.size x.2 x.1.qs) /\ Pw ys') /\ xs'.take ((i + 1) * 6) = ys'.flatMap opC) := hide (by
        obtain ⟨Gcs, Gfr, hG⟩ := own_cells' h3o (k := w.heap.size) rfl
        have hkI : ∀ (b : Nat) (cs : Array Value) (fr : Nat × Nat), w3.heap[b]? = some (Obj.cells cs 3 fr) -> (w3.setCell ⟨w.heap.size, i * 6 + 2, none⟩ (.slice ao3 qs.length c3)).heap[b]? = w3.heap[b]? := fun b cs fr hbb => Below.heap_setCell _ _ _ _ (fun e => by
          rw [show b = w.heap.size from e, hG] at hbb
          simp at hbb)
        obtain ⟨Rcs, Rfr, hRG⟩ := own_cells' HOW.out (k := w.heap.size) rfl
        refine ⟨_, ys ++ [(⟨kind, gate, qs, bit, cond, whn⟩, .slice ao3 qs.length c3)], own_set h3o _ _, ?_, ⟨fun x hx => ?_, ?_⟩, ?_⟩
        . rw [List.map_append, HYS.out, List.take_add_one, HOO.out]
          rfl
        . rcases List.mem_append.1 hx with hx | hx
          . refine ((HI.out.1 x hx).block (fun b cs fr hbb => ?_)).block hkI
            have hlb := (Array.getElem?_eq_some_iff.1 hbb).1
            have hne : b ≠ w.heap.size := fun e => by
              rw [e, hRG] at hbb
              simp at hbb
            exact (hb3.block b (by omega)).trans (hYk b hlb hne)
          . rw [List.mem_singleton] at hx
            subst hx
            exact (hI3.base hYb.size).block hkI
        . refine Pw.snoc HI.out.2 (fun x hx gg hg hg2 => ?_)
          have q1 := ((HI.out.1 x hx).lt hg).2
          have q2 := (hI3.lt hg2).1
          omega
        . rw [List.take_set, set6_take _ _ _ _ _ _ _ _ (by omega), set_mid _ _ _ _ _ _ _ _ _ (by rw [List.length_take]; omega), HXS.out, List.flatMap_append]
          rfl)
      have hb4 : Below w.heap.size w w3 := hYb.trans (hb3.mono hYb.size)
      clear h3o hYo hXo
      go_wp2_with fail
      go_roundw
      case rel =>
        obtain ⟨xs', ys', q1, q2, q3, q4⟩ := H3.out
        exact ⟨i + 1, by go_num, by omega, hb4.setCell (p := ⟨w.heap.size, i * 6 + 2, none⟩) (Nat.le_refl _) _, xs', ys', q1, q2, q3, q4⟩
      case measure => simp [Go.RowKit.intOf]; omega
    . obtain rfl : n = i := by omega
      have HF : Hid (OpsOwn wr w.heap.size (some ⟨w.heap.size, 0, none⟩) n n ops) := hide (by
        have hxl := hown.1
        rw [List.take_of_length_le (by omega)] at hxs
        rw [List.take_of_length_le (by rw [HL.out]; exact Nat.le_refl _)] at hys
        refine ⟨ys, ?_, hys.symm, by rw [← hxs]; exact hown, hI.1, hI.2⟩
        rw [← HL.out, ← hys, List.length_map])
      clear hown hys hI hxs
      go_wp2_with fail
      go_ret
      exact ⟨w.heap.size, rfl, HF.out, hb⟩
theorem cCopyO (c : Circ) (ao : Option Addr) (k : Nat) (hS : Szs c.ops) (w : World) (hC : Ci w c ao k) : Calls Tryd.prog 60 #[cV c ao k] w fun e w' => ∃ bo j, e = .returned (cV c bo j) /\ OpsOwn w' w.heap.size bo c.ops.length j c.ops /\ Below w.heap.size w w' := by
  have c1 := fun V (h : Below w.heap.size w V) => cCopyOpsO c.ops ao k hS V (hC.ops.below h)
  unfold cV
  obtain ⟨q, b, ops⟩ := c
  simp only at c1 ⊢
  obtain ⟨n, hn⟩ : ∃ n, ops.length = n := ⟨_, rfl⟩
  rw [hn] at c1 ⊢
  clear hC hS hn
  have hb0 : Below w.heap.size w ((w.alloc (.cells #[.int .i64 q, .int .i64 b, .slice ao n k] 24)).alloc (.cells #[.int .i64 0, .int .i64 0, .slice none 0 0] 24)) := (bnew _ _).trans ((bnew _ _).mono (by simp))
  have HB0 := hide hb0
  clear hb0
  go_enter Tryd.func60, Tryd.ntmps60
  go_wp2_with (first
    | (go_at_call 73; refine (c1 _ HB0.out).mono ?_; rintro e w1 ⟨g1, rfl, hO1, hb1⟩; obtain ⟨m1, m2⟩ := may_keep hb1; obtain ⟨x0, x1, x2, x3⟩ := def_cells m1; have xf : w1.frozen? ⟨w.heap.size, 2, none⟩ = false := (by simp [World.frozen?, m1]); have hz1 := hb1.size; simp only [World.size_alloc] at hz1)
    | refine wpList_store_row rfl _ _ _ rfl (w.heap.size + 1) _ rfl rfl _ _ ((Below.heap_setCell _ _ _ _ (by simp)).trans m2) (by exact infoCi) (by rfl) (by simp [Value.oneCell']) ?_)
  have e1 : (w1.setCell ⟨w.heap.size, 2, none⟩ (.slice (some ⟨g1, 0, none⟩) n n)) = w1.setRow w.heap.size #[.int .i64 q, .int .i64 b, .slice (some ⟨g1, 0, none⟩) n n] := by
    rw [setCell_eq_setRow _ _ 2 _ _ _ _ m1]
    rfl
  rw [e1]
  have m3 : (w1.setRow w.heap.size #[.int .i64 q, .int .i64 b, .slice (some ⟨g1, 0, none⟩) n n]).heap[w.heap.size + 1]? = some (.cells #[.int .i64 0, .int .i64 0, .slice none 0 0] 24 (0, 0)) := (setRow_other _ _ _ _ (by omega)).trans m2
  refine bodyPost_ret (results_c rfl _ _ (w.heap.size + 1) _ _ _ _ rfl (setRow_heap _ _ _ _ _ _ m3) Tryd.underlying24 rfl (by exact infoCi)) rfl ?_
  refine ⟨some ⟨g1, 0, none⟩, n, rfl, ?_, Below.row (Below.row (HB0.out.trans (hb1.mono HB0.out.size)) _ _ (Nat.le_refl _)) _ _ (by omega)⟩
  exact ((hO1.base HB0.out.size).row m1 (by decide) (by decide) _).row m3 (by decide) (by decide) _
theorem run_app_none (ao : Option Addr) (c ty : Nat) (w : World) : (Builtin.append_ #[25, 25] ty #[.slice none 0 0, .slice ao 0 c]).run Tryd.prog w = .ok (.slice none 0 0) w := by
  obtain ⟨i0, hi, hz0, hz1, hz2⟩ := info_parts Gt.infoI
  have ht := Tryd.underlying25
  cases ao <;> simp [Builtin.append_, run_underlying ht, sizeOf, typeInfo, hi, Builtin.lenOf, Builtin.firstCells, loadCells, loadCellsFrom]
theorem app_row {ops : Array Oper} {rest : List Oper} {o : Oper} {a : Act} {Q : Exit -> Act -> World -> Prop} {w : World} (hgd : o.guard = none) (s x : Operand)
    (ho : o.op = .call { callee := .builtin .append, args := #[s, x], argTypes := #[25, 25] }) (hs : a.eval s = .slice none 0 0)
    (ao : Option Addr) (c : Nat) (l : List Int) (n : Nat) (hn : l.length = n) (hx : a.eval x = .slice ao n c) (hN : Ns w ao l) (hl : n <= 17592186044416)
    (h : ∀ ao' c' w', RowO w' w.heap.size (.slice ao' n c') l -> Below w.heap.size w w' -> wpList Tryd.prog ops Q rest (a.put o.dst (.slice ao' n c')) w') : wpList Tryd.prog ops Q (o :: rest) a w := by
  obtain ⟨i0, hi, hz0, hz1, hz2⟩ := info_parts Gt.infoI
  subst hn
  by_cases h0 : 0 < l.length
  . have hne : l ≠ [] := fun e => by rw [e] at h0; simp at h0
    obtain ⟨g, off, rfl, hc⟩ := hN.resolve_left hne
    refine wpList_append_lies w hgd s x 25 ho w.heap.size 3 i0 (.int .i64 0) 1 8 Tryd.underlying25 hi hz0 hz1 hz2 rfl (by decide) _ 0 [] hs ⟨rfl, .inl ⟨rfl, rfl⟩⟩ ⟨g, off, none⟩ l.length c (l.map (Value.int .i64)) hx (by simp) (fun j u hu => ?_) (fun u hu => ?_) h0 (by unfold maxLen; omega) (by omega) (Nat.le_refl _) _ rfl ?_
    . rw [Addr.add_lit]
      rw [List.getElem?_map] at hu
      obtain ⟨z, hz, rfl⟩ := Option.map_eq_some_iff.1 hu
      exact hc j z hz
    . obtain ⟨z, _, rfl⟩ := List.mem_map.1 hu
      rfl
    . intro g2 cap w2 hown2 hgrow hat hlt
      simp only [Nat.zero_add, List.nil_append] at hown2 ⊢
      exact h _ _ w2 ⟨_, _, rfl, hown2⟩ ((Below.refl _ _).grown hgrow (Nat.le_refl _) (fun q hq => by simp [Value.ownBlock] at hq))
  . obtain rfl : l = [] := List.length_eq_zero_iff.1 (by omega)
    refine wpList_plain hgd fun K hK => ?_
    have hrun := fun ty => run_app_none ao c ty w
    have hx' : a.eval x = .slice ao 0 c := hx
    unfold Oper.wp
    simp [execOp, ho, resolve, invoke, builtin, hs, hx', hrun, Result.andThen]
    exact hK _ _ (h none 0 w ⟨_, _, rfl, rfl, .inl ⟨rfl, rfl⟩⟩ (Below.refl _ _))
theorem OpsOwn.push {w w' : World} {B : Nat} {ao : Option Addr} {n c : Nat} {ops : List COp} {xs : List (COp × Value)} (h1 : n = xs.length) (h2 : ops = xs.map (·.1)) (h3 : w.ownsRow B 57 6 (.slice ao n c) n (xs.flatMap opC)) (h4 : ∀ x ∈ xs, RowO w B x.2 x.1.qs) (h5 : Pw xs) (op : COp) (v : Value) (hv : RowO w B v op.qs) (hnew : ∀ x ∈ xs, ∀ g, x.2.ownBlock = some g -> v.ownBlock = some g -> False) {g cap : Nat} (hg : w.grownBy w' (ob ao))
    (ho : w'.ownsRow B 57 6 (.slice (some ⟨g, 0, none⟩) (n + 1) cap) (n + 1) (xs.flatMap opC ++ opC (op, v))) : OpsOwn w' B (some ⟨g, 0, none⟩) (n + 1) cap (ops ++ [op]) := by
  have hno : ∀ (b : Nat) (cs : Array Value) (fr : Nat × Nat), w.heap[b]? = some (Obj.cells cs 3 fr) -> w'.heap[b]? = w.heap[b]? := fun b cs fr hb => hg.block b (Array.getElem?_eq_some_iff.1 hb).1 (own_ne h3 hb (by decide)).symm
  refine ⟨xs ++ [(op, v)], by rw [List.length_append, ← h1]; rfl, by rw [List.map_append, ← h2]; rfl, by rw [List.flatMap_append]; simpa using ho, fun x hx => ?_, h5.snoc hnew⟩
  rcases List.mem_append.1 hx with e | e
  . exact (h4 x e).block hno
  . rw [List.mem_singleton] at e
    rw [e]
    exact hv.block hno
theorem eCopyO (c : Circ) (ao : Option Addr) (k : Nat) (hS : Szs c.ops) (w : World) (hC : Ci w c ao k) : Calls Tryd.prog 6 #[cV c ao k] w fun e w' => ∃ bo j, e = .returned (cV c bo j) /\ OpsOwn w' w.heap.size bo c.ops.length j c.ops /\ Below w.heap.size w w' := by
  have HO := hide hC.ops
  have HSm := hide hS.2
  have hsl := hS.1
  obtain ⟨q, b, ops⟩ := c
  unfold cV
  simp only at *
  obtain ⟨n, hn⟩ : ∃ n, ops.length = n := ⟨_, rfl⟩
  have HL := hide hn
  rw [hn] at hsl ⊢
  clear hn hC hS
  have hb0 : Below w.heap.size w (((w.alloc (.cells #[.int .i64 q, .int .i64 b, .slice ao n k] 24)).alloc (.cells #[.int .i64 0, .int .i64 0, .slice none 0 0] 24)).alloc (.cells #[.int .i64 q, .int .i64 b, .slice none 0 0] 24)) := ((bnew _ _).trans ((bnew _ _).mono (by simp))).trans ((bnew _ _).mono (by simp; omega))
  have HB0 := hide hb0
  have HD0 : Hid ((((w.alloc (.cells #[.int .i64 q, .int .i64 b, .slice ao n k] 24)).alloc (.cells #[.int .i64 0, .int .i64 0, .slice none 0 0] 24)).alloc (.cells #[.int .i64 q, .int .i64 b, .slice none 0 0] 24)).heap[w.heap.size]? = some (.cells #[.int .i64 q, .int .i64 b, .slice ao n k] 24 (0, 0)) /\ (((w.alloc (.cells #[.int .i64 q, .int .i64 b, .slice ao n k] 24)).alloc (.cells #[.int .i64 0, .int .i64 0, .slice none 0 0] 24)).alloc (.cells #[.int .i64 q, .int .i64 b, .slice none 0 0] 24)).heap[w.heap.size + 1]? = some (.cells #[.int .i64 0, .int .i64 0, .slice none 0 0] 24 (0, 0)) /\ (((w.alloc (.cells #[.int .i64 q, .int .i64 b, .slice ao n k] 24)).alloc (.cells #[.int .i64 0, .int .i64 0, .slice none 0 0] 24)).alloc (.cells #[.int .i64 q, .int .i64 b, .slice none 0 0] 24)).heap[w.heap.size + 1 + 1]? = some (.cells #[.int .i64 q, .int .i64 b, .slice none 0 0] 24 (0, 0))) := hide (by
    obtain ⟨m1, m2⟩ := may_keep (w := w) (bnew ((w.alloc (.cells #[.int .i64 q, .int .i64 b, .slice ao n k] 24)).alloc (.cells #[.int .i64 0, .int .i64 0, .slice none 0 0] 24)) (.cells #[.int .i64 q, .int .i64 b, .slice none 0 0] 24))
    refine ⟨m1, m2, ?_⟩
    have := heap_alloc_new ((w.alloc (.cells #[.int .i64 q, .int .i64 b, .slice ao n k] 24)).alloc (.cells #[.int .i64 0, .int .i64 0, .slice none 0 0] 24)) (.cells #[.int .i64 q, .int .i64 b, .slice none 0 0] 24)
    simpa using this)
  clear hb0
  go_enter Tryd.func6, Tryd.ntmps6
  go_wp2_with fail
  go_loopw [4] (fun vi wr => ∃ i : Nat, vi = .int .i64 (i : Int) /\ i <= n /\ Below w.heap.size w wr /\ wr.heap[w.heap.size]? = some (.cells #[.int .i64 q, .int .i64 b, .slice ao n k] 24 (0, 0)) /\ wr.heap[w.heap.size + 1]? = some (.cells #[.int .i64 0, .int .i64 0, .slice none 0 0] 24 (0, 0)) /\ ∃ (bo : Option Addr) (j : Nat), wr.heap[w.heap.size + 1 + 1]? = some (.cells #[.int .i64 q, .int .i64 b, .slice bo i j] 24 (0, 0)) /\ OpsOwn wr w.heap.size bo i j (ops.take i)) (fun vi _ => n - (Go.RowKit.intOf vi).toNat)
  case atStart => exact ⟨0, rfl, Nat.zero_le _, HB0.out, HD0.out.1, HD0.out.2.1, none, 0, HD0.out.2.2, [], rfl, by simp, ⟨rfl, .inl ⟨rfl, rfl⟩⟩, (fun _ h => absurd h List.not_mem_nil), List.Pairwise.nil⟩
  case round =>
    obtain ⟨i, rfl, hi, hb, hm0, hm1, bo, j, hm2, hO⟩ := hrel
    obtain ⟨p0, p1, p2, p3⟩ := def_cells hm0
    obtain ⟨r0, r1, r2, r3⟩ := def_cells hm2
    have HBr := hide hb
    have HM0 := hide hm0
    have HM1 := hide hm1
    have HM2 := hide hm2
    have HOw := hide hO
    obtain ⟨xs, h1, h2, h3, h4, h5⟩ := hO
    have H1 := hide h1
    have H2 := hide h2
    have H3 := hide h3
    have H4 := hide h4
    have H5 := hide h5
    clear h1 h2 h3 h4 h5
    by_cases h : i < n
    . have hd : decide ((i : Int) < (n : Int)) = true := decide_eq_true (by omega)
      have hkk : (i : Int) < (n : Int) := by omega
      obtain ⟨o, ho⟩ : ∃ o, ops[i]? = some o := ⟨_, List.getElem?_eq_getElem (by rw [HL.out]; exact h)⟩
      obtain ⟨g, off, aq, cq, rfl, hgl0, hoc0⟩ := HO.out.at ho
      have hoc := hoc0.below hb
      have hgl : g < wr.heap.size := Nat.lt_of_lt_of_le hgl0 hb.size
      have hq1 := HSm.out o (List.mem_of_getElem? ho)
      have k0 := hoc.kind
      have k1 := hoc.gate
      have k2 := hoc.qs
      have k3 := hoc.bit
      have k4 := hoc.cond
      have k5 := hoc.whn
      have HNS := hide hoc.ns
      have HOO := hide ho
      clear hoc hoc0 ho hb hm0 hm1 hm2
      obtain ⟨kind, gate, qs, bit, cond, whn⟩ := o
      simp only at k0 k1 k2 k3 k4 k5 hq1 HNS
      obtain ⟨m, hm⟩ : ∃ m, qs.length = m := ⟨_, rfl⟩
      have HQ := hide hm
      rw [hm] at k2 hq1
      clear hm
      go_wp2_with (at_builtin; refine app_row rfl _ _ rfl rfl aq cq qs m HQ.out rfl (HNS.out.below (bnew _ _)) hq1 ?_)
      intro ao3 c3 w3 hR3 hb3
      have hz3 := hb3.size
      simp only [World.size_alloc] at hz3
      have f0 := (hb3.block wr.heap.size (by simp)).trans (heap_alloc_new wr _)
      have HF0 := hide f0
      have HB3 := hide hb3
      have HR3 := hide hR3
      have fx : w3.cell? ⟨wr.heap.size, 2, none⟩ = some (.slice aq m cq) := by simp [World.cell?, f0]
      have ff : w3.frozen? ⟨wr.heap.size, 2, none⟩ = false := by simp [World.frozen?, f0]
      obtain ⟨t0, t1, -, t3, t4, t5⟩ : w3.cell? ⟨wr.heap.size, 0, none⟩ = some (.int .i64 kind) /\ w3.cell? ⟨wr.heap.size, 1, none⟩ = some (.int .i64 gate) /\ True /\ w3.cell? ⟨wr.heap.size, 3, none⟩ = some (.int .i64 bit) /\ w3.cell? ⟨wr.heap.size, 4, none⟩ = some (.int .i64 cond) /\ w3.cell? ⟨wr.heap.size, 5, none⟩ = some (.int .i64 whn) := by simp [World.cell?, f0]
      have hold : ∀ g, g < wr.heap.size -> w3.heap[g]? = wr.heap[g]? := fun g hg => (hb3.block g (by omega)).trans (Below.heap_alloc _ _ _ hg)
      have HOLD := hide hold
      obtain ⟨s0, s1, s2, s3⟩ := def_cells ((hold _ r3).trans HM2.out)
      have hXE : (w3.setCell ⟨wr.heap.size, 2, none⟩ (.slice ao3 m c3)) = w3.setRow wr.heap.size #[.int .i64 kind, .int .i64 gate, .slice ao3 m c3, .int .i64 bit, .int .i64 cond, .int .i64 whn] := by
        rw [setCell_eq_setRow _ _ 2 _ _ _ _ f0]
        rfl
      have HX : Hid ((w3.setCell ⟨wr.heap.size, 2, none⟩ (.slice ao3 m c3)).ownsRow w.heap.size 57 6 (.slice bo i j) i (xs.flatMap opC)) := hide (own_of_block H3.out fun g' hg' => (Below.heap_setCell _ _ _ _ (by have := (own_lt H3.out g' hg').2; show g' ≠ wr.heap.size; omega)).trans (hold g' (own_lt H3.out g' hg').2))
      have HXW : Hid (∀ x ∈ xs, RowO (w3.setCell ⟨wr.heap.size, 2, none⟩ (.slice ao3 m c3)) w.heap.size x.2 x.1.qs) := hide (fun x hx => (H4.out x hx).block (fun b' cs fr hbb => by
        have hl := (Array.getElem?_eq_some_iff.1 hbb).1
        exact (Below.heap_setCell _ _ _ _ (by show b' ≠ wr.heap.size; omega)).trans (hold b' hl)))
      have HXR : Hid (RowO (w3.setCell ⟨wr.heap.size, 2, none⟩ (.slice ao3 m c3)) w.heap.size (.slice ao3 m c3) qs) := hide (by
        rw [hXE]
        refine (HR3.out.base (by omega)).block (fun b' cs fr hbb => setRow_other _ _ _ _ (fun e => ?_))
        subst e
        rw [f0] at hbb
        simp at hbb)
      have HXN : Hid (∀ x ∈ xs, ∀ g', x.2.ownBlock = some g' -> (Value.slice ao3 m c3).ownBlock = some g' -> False) := hide (fun x hx g' hg1 hg2 => by
        have q2 := (HR3.out.lt hg2).1
        have q1 := ((H4.out x hx).lt hg1).2
        omega)
      have hXs : (w3.setCell ⟨wr.heap.size, 2, none⟩ (.slice ao3 m c3)).heap.size = w3.heap.size := by simp [World.setCell]
      have hx2 : (w3.setCell ⟨wr.heap.size, 2, none⟩ (.slice ao3 m c3)).cell? ⟨w.heap.size + 1 + 1, 2, none⟩ = some (.slice bo i j) := (World.cell?_of_block (w := w3) (Below.heap_setCell _ _ _ _ (by show w.heap.size + 1 + 1 ≠ wr.heap.size; omega))).trans s2
      obtain ⟨v0, v1, v2, v3, v4, v5⟩ : (w3.setCell ⟨wr.heap.size, 2, none⟩ (.slice ao3 m c3)).cell? ⟨wr.heap.size, 0, none⟩ = some (.int .i64 kind) /\ (w3.setCell ⟨wr.heap.size, 2, none⟩ (.slice ao3 m c3)).cell? ⟨wr.heap.size, 1, none⟩ = some (.int .i64 gate) /\ (w3.setCell ⟨wr.heap.size, 2, none⟩ (.slice ao3 m c3)).cell? ⟨wr.heap.size, 2, none⟩ = some (.slice ao3 m c3) /\ (w3.setCell ⟨wr.heap.size, 2, none⟩ (.slice ao3 m c3)).cell? ⟨wr.heap.size, 3, none⟩ = some (.int .i64 bit) /\ (w3.setCell ⟨wr.heap.size, 2, none⟩ (.slice ao3 m c3)).cell? ⟨wr.heap.size, 4, none⟩ = some (.int .i64 cond) /\ (w3.setCell ⟨wr.heap.size, 2, none⟩ (.slice ao3 m c3)).cell? ⟨wr.heap.size, 5, none⟩ = some (.int .i64 whn) := by
        rw [hXE]
        simp [World.cell?, setRow_heap _ _ _ _ _ _ f0]
      clear f0 hb3 hR3 hold hXE
      go_wp2_with (at_builtin; refine push rfl _ _ 22 rfl 57 Tryd.underlying22 _ 6 64 infoOp rfl (by decide) w.heap.size bo i j _ rfl HX.out [.int .i64 kind, .int .i64 gate, .slice ao3 m c3, .int .i64 bit, .int .i64 cond, .int .i64 whn] _ rfl rfl (by simp [Value.oneCell']) w3.heap.size hXs rfl (by omega) (by omega) (by rw [hXs]; omega) ?_)
      intro g6 cap w6 hown6 hgrow6 hat6
      have hz6 := hgrow6.size
      rw [hXs] at hz6
      have hcir : ∀ g' cs, g' < wr.heap.size -> wr.heap[g']? = some (.cells cs 24 (0, 0)) -> w6.heap[g']? = some (.cells cs 24 (0, 0)) := fun g' cs hl hg' => by
        have e1 : (w3.setCell ⟨wr.heap.size, 2, none⟩ (.slice ao3 m c3)).heap[g']? = some (.cells cs 24 (0, 0)) := (Below.heap_setCell _ _ _ _ (by show g' ≠ wr.heap.size; omega)).trans ((HOLD.out g' hl).trans hg')
        exact (hgrow6.block g' (by rw [hXs]; omega) (own_ne HX.out e1 (by decide)).symm).trans e1
      have n0 := hcir _ _ p3 HM0.out
      have n1 := hcir _ _ (by omega) HM1.out
      have n2 := hcir _ _ r3 HM2.out
      have HN0 := hide n0
      have HN1 := hide n1
      have HN2 := hide n2
      obtain ⟨z0, z1, z2, z3⟩ := def_cells n2
      have zf : w6.frozen? ⟨w.heap.size + 1 + 1, 2, none⟩ = false := by simp [World.frozen?, n2]
      have HO6 : Hid (OpsOwn w6 w.heap.size (some ⟨g6, 0, none⟩) (i + 1) cap (ops.take (i + 1))) := hide (by
        have := OpsOwn.push H1.out H2.out HX.out HXW.out H5.out ⟨kind, gate, qs, bit, cond, whn⟩ (.slice ao3 m c3) HXR.out HXN.out hgrow6 (by simpa [opC] using hown6)
        rw [List.take_add_one, HOO.out]
        exact this)
      have HB6 : Hid (Below w.heap.size w w6) := hide (by
        have e1 : Below w.heap.size w (w3.setCell ⟨wr.heap.size, 2, none⟩ (.slice ao3 m c3)) := ((HBr.out.trans ((bnew _ _).mono HBr.out.size)).trans (HB3.out.mono (by omega))).setCell (p := ⟨wr.heap.size, 2, none⟩) (by show w.heap.size <= wr.heap.size; omega) _
        exact e1.grown hgrow6 (by rw [hXs]; omega) (fun k' hk' => (own_lt HX.out k' hk').1))
      clear n0 n1 n2 hcir hown6 hgrow6 hat6
      go_wp2_with fail
      go_roundw
      case rel =>
        have e1 : (w6.setCell ⟨w.heap.size + 1 + 1, 2, none⟩ (.slice (some ⟨g6, 0, none⟩) (i + 1) cap)) = w6.setRow (w.heap.size + 1 + 1) #[.int .i64 q, .int .i64 b, .slice (some ⟨g6, 0, none⟩) (i + 1) cap] := by
          rw [setCell_eq_setRow _ _ 2 _ _ _ _ HN2.out]
          rfl
        refine ⟨i + 1, by go_num, by omega, ?_⟩
        rw [e1]
        exact ⟨Below.row HB6.out _ _ (by omega), (setRow_other _ _ _ _ (by omega)).trans HN0.out, (setRow_other _ _ _ _ (by omega)).trans HN1.out, some ⟨g6, 0, none⟩, cap, setRow_heap _ _ _ _ _ _ HN2.out, HO6.out.row HN2.out (by decide) (by decide) _⟩
      case measure => simp [Go.RowKit.intOf]; omega
    . obtain rfl : n = i := by omega
      obtain ⟨o0, o1, o2, o3⟩ := def_cells hm1
      have HF : Hid (OpsOwn wr w.heap.size bo n j ops) := hide (by
        have := HOw.out
        rwa [List.take_of_length_le (by rw [HL.out]; exact Nat.le_refl _)] at this)
      clear hb hm0 hm1 hm2 HOw
      go_wp2_with (refine wpList_store_row rfl _ _ _ rfl (w.heap.size + 1) _ rfl rfl _ _ HM1.out (by exact infoCi) (by rfl) (by simp [Value.oneCell']) ?_)
      refine bodyPost_ret (results_c rfl _ _ (w.heap.size + 1) _ _ _ _ rfl (setRow_heap _ _ _ _ _ _ HM1.out) Tryd.underlying24 rfl (by exact infoCi)) rfl ?_
      exact ⟨bo, j, rfl, HF.out.row HM1.out (by decide) (by decide) _, Below.row HBr.out _ _ (by omega)⟩
theorem own_anyset {w : World} {B e size n : Nat} {ao : Option Addr} {m c : Nat} {xs : List Value} (h : w.ownsRow B e size (.slice ao m c) n xs) (g i : Nat) (v : Value) : ∃ xs', (w.setCell ⟨g, i, none⟩ v).ownsRow B e size (.slice ao m c) n xs' := by
  by_cases hg : ob ao = some g
  . rcases h.2 with ⟨hv, h0⟩ | ⟨g', cap, cur, hv, -⟩
    . simp only [Value.slice.injEq] at hv
      rw [hv.1] at hg
      cases hg
    . simp only [Value.slice.injEq] at hv
      obtain ⟨rfl, rfl, rfl⟩ := hv
      simp [ob] at hg
      subst hg
      exact ⟨_, own_set h i v⟩
  . exact ⟨xs, own_of_block h fun k hk => Below.heap_setCell _ _ _ _ (fun e => hg (by rw [hk]; exact congrArg some e))⟩
def DOwn (w : World) (B E : Nat) (bo : Option Addr) (n j : Nat) (ls : List Nat) : Prop := ∃ xs, w.ownsRow B 57 6 (.slice bo n j) n xs /\ (∀ g, ob bo = some g -> g < E) /\ n = ls.length /\ ∀ i m, ls[i]? = some m -> ∃ ao c ys, xs[i * 6 + 2]? = some (.slice ao m c) /\ w.ownsRow B 3 1 (.slice ao m c) m ys /\ ∀ g, ob ao = some g -> g < E
theorem OpsOwn.down {w : World} {B : Nat} {bo : Option Addr} {n j : Nat} {ops : List COp} (h : OpsOwn w B bo n j ops) : DOwn w B w.heap.size bo n j (ops.map (·.qs.length)) := by
  obtain ⟨xs, h1, h2, h3, h4, -⟩ := h
  refine ⟨xs.flatMap opC, h3, fun g hg => (own_lt h3 g hg).2, by rw [h2, h1]; simp, fun i m hm => ?_⟩
  rw [h2, List.map_map, List.getElem?_map] at hm
  obtain ⟨x, hx, rfl⟩ := Option.map_eq_some_iff.1 hm
  obtain ⟨ao, c, e, ho⟩ := h4 x (List.mem_of_getElem? hx)
  exact ⟨ao, c, _, opC_at xs i x hx 2 _ (by show some x.2 = _; rw [e]; rfl), ho, fun g hg => (own_lt ho g hg).2⟩
theorem DOwn.kept {w w' : World} {B E : Nat} {bo : Option Addr} {n j : Nat} {ls : List Nat} (h : DOwn w B E bo n j ls) (hb : ∀ g, B <= g -> g < E -> w'.heap[g]? = w.heap[g]?) : DOwn w' B E bo n j ls := by
  obtain ⟨xs, h1, h2, h3, h4⟩ := h
  refine ⟨xs, own_of_block h1 (fun k hk => hb k (own_lt h1 k hk).1 (h2 k hk)), h2, h3, fun i m hm => ?_⟩
  obtain ⟨ao, c, ys, e1, e2, e3⟩ := h4 i m hm
  exact ⟨ao, c, ys, e1, own_of_block e2 (fun k hk => hb k (own_lt e2 k hk).1 (e3 k hk)), e3⟩
theorem own_some {w : World} {B e size n : Nat} {ao : Option Addr} {m c : Nat} {xs : List Value} (h : w.ownsRow B e size (.slice ao m c) n xs) (h0 : 0 < n) : ∃ g, ao = some ⟨g, 0, none⟩ /\ m = n := by
  rcases h.2 with ⟨hv, h0'⟩ | ⟨g', cap, cur, hv, -⟩
  . omega
  . simp only [Value.slice.injEq] at hv
    exact ⟨g', hv.1, hv.2.1⟩
theorem DOwn.get {w : World} {B E : Nat} {bo : Option Addr} {n j : Nat} {ls : List Nat} (h : DOwn w B E bo n j ls) {i m : Nat} (hi : ls[i]? = some m) : ∃ gd ao c u, bo = some ⟨gd, 0, none⟩ /\ B <= gd /\ gd < E /\ gd < w.heap.size /\ w.cell? ⟨gd, i * 6 + 2, none⟩ = some (.slice ao m c) /\ w.cell? ⟨gd, i * 6 + 3, none⟩ = some u /\ w.frozen? ⟨gd, i * 6 + 3, none⟩ = false /\ (∀ v, DOwn (w.setCell ⟨gd, i * 6 + 3, none⟩ v) B E bo n j ls) /\
    ∀ k, k < m -> ∃ g x, ao = some ⟨g, 0, none⟩ /\ B <= g /\ g < E /\ g < w.heap.size /\ w.cell? ⟨g, k, none⟩ = some x /\ w.frozen? ⟨g, k, none⟩ = false /\ ∀ v, DOwn (w.setCell ⟨g, k, none⟩ v) B E bo n j ls := by
  obtain ⟨xs, h1, h2, h3, h4⟩ := h
  obtain ⟨ao, c, ys, e1, e2, e3⟩ := h4 i m hi
  have hin : i < n := by rw [h3]; exact (List.getElem?_eq_some_iff.1 hi).1
  obtain ⟨gd, rfl, -⟩ := own_some h1 (by omega)
  have hxl := h1.1
  obtain ⟨u, hu⟩ : ∃ u, xs[i * 6 + 3]? = some u := ⟨_, List.getElem?_eq_getElem (by omega)⟩
  have hgd := own_lt h1 gd rfl
  obtain ⟨dcs, dfr, hdc⟩ := own_cells' h1 (k := gd) rfl
  refine ⟨gd, ao, c, u, rfl, hgd.1, h2 gd rfl, hgd.2, own_at h1 _ _ e1, own_at h1 _ _ hu, own_free h1 _, fun v => ?_, fun k hk => ?_⟩
  . refine ⟨_, own_set h1 _ v, h2, h3, fun i' m' hm' => ?_⟩
    obtain ⟨ao', c', ys', e1', e2', e3'⟩ := h4 i' m' hm'
    refine ⟨ao', c', ys', by rw [List.getElem?_set_ne (by omega)]; exact e1', own_of_block e2' (fun b hb => Below.heap_setCell _ _ _ _ (fun e => ?_)), e3'⟩
    have e' : b = gd := e
    subst e'
    exact own_ne e2' hdc (by decide) hb
  . obtain ⟨g, rfl, -⟩ := own_some e2 (by omega)
    have hyl := e2.1
    obtain ⟨x, hx⟩ : ∃ x, ys[k]? = some x := ⟨_, List.getElem?_eq_getElem (by omega)⟩
    have hg := own_lt e2 g rfl
    obtain ⟨gcs, gfr, hgc⟩ := own_cells' e2 (k := g) rfl
    refine ⟨g, x, rfl, hg.1, e3 g rfl, hg.2, own_at e2 _ _ hx, own_free e2 _, fun v => ?_⟩
    refine ⟨xs, own_of_block h1 (fun b hb => Below.heap_setCell _ _ _ _ (fun e => ?_)), h2, h3, fun i' m' hm' => ?_⟩
    . have e' : b = g := e
      subst e'
      exact own_ne h1 hgc (by decide) hb
    . obtain ⟨ao', c', ys', e1', e2', e3'⟩ := h4 i' m' hm'
      obtain ⟨ys'', hy⟩ := own_anyset e2' g k v
      exact ⟨ao', c', ys'', e1', hy, e3'⟩
theorem DOwn.getS {w : World} {B E gd : Nat} {n j : Nat} {ls : List Nat} (h : DOwn w B E (some ⟨gd, 0, none⟩) n j ls) {i m : Nat} (hi : ls[i]? = some m) : ∃ ao c u, B <= gd /\ gd < E /\ gd < w.heap.size /\ w.cell? ⟨gd, i * 6 + 2, none⟩ = some (.slice ao m c) /\ w.cell? ⟨gd, i * 6 + 3, none⟩ = some u /\ w.frozen? ⟨gd, i * 6 + 3, none⟩ = false /\ (∀ v, DOwn (w.setCell ⟨gd, i * 6 + 3, none⟩ v) B E (some ⟨gd, 0, none⟩) n j ls) /\
    ∀ k, k < m -> ∃ g x, ao = some ⟨g, 0, none⟩ /\ B <= g /\ g < E /\ g < w.heap.size /\ w.cell? ⟨g, k, none⟩ = some x /\ w.frozen? ⟨g, k, none⟩ = false /\ ∀ v, DOwn (w.setCell ⟨g, k, none⟩ v) B E (some ⟨gd, 0, none⟩) n j ls := by
  obtain ⟨gd', ao, c, u, e, h1⟩ := h.get hi
  cases e
  exact ⟨ao, c, u, h1⟩
def SAp (x : Nat) (q1 b1 q2 b2 : Int) (v1 v2 : Value) (V : World) : Prop := V.cell? ⟨x, 0, none⟩ = some (.int .i64 q1) /\ V.cell? ⟨x, 1, none⟩ = some (.int .i64 b1) /\ V.cell? ⟨x, 2, none⟩ = some v1 /\ V.cell? ⟨x + 1, 0, none⟩ = some (.int .i64 q2) /\ V.cell? ⟨x + 1, 1, none⟩ = some (.int .i64 b2) /\ V.cell? ⟨x + 1, 2, none⟩ = some v2
theorem SAp.kept {x : Nat} {q1 b1 q2 b2 : Int} {v1 v2 : Value} {V V' : World} (h : SAp x q1 b1 q2 b2 v1 v2 V) (hk : ∀ b, b = x ∨ b = x + 1 -> b < V.heap.size -> V'.heap[b]? = V.heap[b]?) : SAp x q1 b1 q2 b2 v1 v2 V' := by
  obtain ⟨h0, h1, h2, h3, h4, h5⟩ := h
  have k0 := hk x (.inl rfl) (World.block_lt_of_cell? _ _ h0)
  have k1 := hk (x + 1) (.inr rfl) (World.block_lt_of_cell? _ _ h3)
  exact ⟨(World.cell?_of_block (w := V) k0).trans h0, (World.cell?_of_block (w := V) k0).trans h1, (World.cell?_of_block (w := V) k0).trans h2, (World.cell?_of_block (w := V) k1).trans h3, (World.cell?_of_block (w := V) k1).trans h4, (World.cell?_of_block (w := V) k1).trans h5⟩
theorem OpsOwn.nil (w : World) (B : Nat) : OpsOwn w B none 0 0 [] := ⟨[], rfl, rfl, ⟨rfl, .inl ⟨rfl, rfl⟩⟩, (fun _ h => absurd h List.not_mem_nil), List.Pairwise.nil⟩
theorem Pw.set {xs : List (COp × Value)} (h : Pw xs) {i : Nat} {x : COp × Value} (hx : xs[i]? = some x) (o : COp) : Pw (xs.set i (o, x.2)) := by
  have key : ∀ ys : List (COp × Value), Pw ys ↔ (ys.map (·.2)).Pairwise (fun a b => ∀ g, a.ownBlock = some g -> b.ownBlock = some g -> False) := fun ys => by unfold Pw; rw [List.pairwise_map]
  rw [key] at h ⊢
  have e : (xs.set i (o, x.2)).map (·.2) = xs.map (·.2) := by
    rw [List.map_set]
    apply List.ext_getElem?
    intro j
    rw [List.getElem?_set]
    split
    . rename_i e
      subst e
      split
      . rw [List.getElem?_map, hx]; rfl
      . rename_i hn
        rw [List.getElem?_eq_none (by omega)]
    . rfl
  rw [e]
  exact h
theorem Pw.apart {xs : List (COp × Value)} (h : Pw xs) {i j : Nat} {x y : COp × Value} (hx : xs[i]? = some x) (hy : xs[j]? = some y) (hne : i ≠ j) (g : Nat) (h1 : x.2.ownBlock = some g) (h2 : y.2.ownBlock = some g) : False := by
  unfold Pw at h
  rw [List.pairwise_iff_getElem] at h
  obtain ⟨hi, rfl⟩ := List.getElem?_eq_some_iff.1 hx
  obtain ⟨hj, rfl⟩ := List.getElem?_eq_some_iff.1 hy
  rcases Nat.lt_or_gt_of_ne hne with hlt | hlt
  . exact h i j hi hj hlt g h1 h2
  . exact h j i hj hi hlt g h2 h1
end Go.Proofs.YthndpbjplcphpaaDoor.Cir
namespace Go.Proofs.YthndpbjplcphpaaDoor.Gt
open Go
section
variable {P : Program} {C : World -> Prop} {Q : Exit -> Act -> World -> Prop} {md : Region.Mode} {ops : Array Oper} {N : Nat}
structure Front (md : Region.Mode) (ops : Array Oper) (N : Nat) : Prop where
  size : ops.size = N + 1
  low : ∀ i o, i < N -> ops[i]? = some o -> o.guard = none /\ ∀ e ∈ o.after, e.on < i
  last : ∃ o, ops[N]? = some o /\ (∀ e ∈ o.after, e.on < N) /\ ∀ j, j < N -> ∃ e ∈ o.after, Region.binds md e = true /\ e.on = j
structure HidP (p : Prop) : Prop where
  out : p
end
end Go.Proofs.YthndpbjplcphpaaDoor.Gt
namespace Go.Proofs.YthndpbjplcphpaaDoor.Cir
open Go.RowKit Go.Shelf Go.Proofs.YthndpbjplcphpaaDoor.Oct Go.Proofs.YthndpbjplcphpaaDoor.Tok Go.Proofs.YthndpbjplcphpaaDoor.Gt
theorem chk_rng (k : Int) (l : List Int) (n : Int) (h : chkP k l n = 0) : ∀ z ∈ l, 0 <= z /\ z < n := by
  unfold chkP at h
  split at h
  . cases h
  . split at h
    . cases h
    . rename_i ha
      split at h
      . cases h
      . rename_i hm
        have ha' : apP (rw' k).q l = true := by simpa using ha
        unfold apP at ha'
        rw [Bool.and_eq_true, decide_eq_true_eq] at ha'
        intro z hz
        obtain ⟨j, hj, rfl⟩ := List.getElem_of_mem hz
        have e : l[j] = l.getD j 0 := by simp [List.getD, List.getElem?_eq_getElem hj]
        have a1 := apG_pos l l.length 0 ha'.2 j (by omega) (by omega)
        have a2 := mxG_bd l n _ hm j (by omega)
        rw [e]
        exact ⟨a1, a2⟩
theorem may_rng {q b : Int} {o : COp} (h : mayP q b o = true) : (∀ z ∈ o.qs, 0 <= z /\ z < q) /\ (o.kind = 2 -> 0 <= o.bit /\ o.bit < b) /\ (o.cond ≠ -1 -> 0 <= o.cond /\ o.cond < b) := by
  have hap : apaP o.qs q = true -> ∀ z ∈ o.qs, 0 <= z /\ z < q := fun h z hz => by
    unfold apaP at h
    rw [Bool.and_eq_true, List.all_eq_true] at h
    exact wi_in (h.2 z hz)
  have hng : noGP o = true -> o.cond = -1 := fun h => by
    unfold noGP freeP at h
    simp only [Bool.and_eq_true, decide_eq_true_eq] at h
    exact h.2.1
  unfold mayP at h
  split at h
  . rename_i hk
    simp only [Bool.and_eq_true, decide_eq_true_eq, Bool.or_eq_true] at h
    obtain ⟨⟨h1, h2⟩, h3⟩ := h
    refine ⟨chk_rng _ _ _ h1, fun e => by omega, fun e => ?_⟩
    rcases h3 with h3 | h3
    . unfold freeP at h3
      simp only [Bool.and_eq_true, decide_eq_true_eq] at h3
      exact absurd h3.1 e
    . unfold askP at h3
      rw [Bool.and_eq_true] at h3
      exact wi_in h3.1
  . split at h
    . simp only [Bool.and_eq_true, decide_eq_true_eq] at h
      obtain ⟨⟨⟨h1, h2⟩, h3⟩, h4⟩ := h
      exact ⟨hap h3, fun _ => wi_in h4, fun e => absurd (hng h1) e⟩
    . rename_i hk2
      split at h
      . simp only [Bool.and_eq_true, decide_eq_true_eq] at h
        obtain ⟨⟨⟨h1, h2⟩, h3⟩, h4⟩ := h
        exact ⟨hap h3, fun e => absurd e hk2, fun e => absurd (hng h1) e⟩
      . split at h
        . simp only [Bool.and_eq_true, decide_eq_true_eq] at h
          obtain ⟨⟨⟨h1, h2⟩, h3⟩, h4⟩ := h
          exact ⟨hap h3, fun e => absurd e hk2, fun e => absurd (hng h1) e⟩
        . cases h
end Go.Proofs.YthndpbjplcphpaaDoor.Cir
