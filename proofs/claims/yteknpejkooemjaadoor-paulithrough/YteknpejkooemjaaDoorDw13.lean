/- The law PauliThrough, as it is walked (mk_dw13.py). -/
import Derived.Test.YteknpejkooemjaaDoorDv13
import Derived.Test.YteknpejkooemjaaDoorV13
import Derived.Deep.Upon
import Derived.BigQuiet
namespace Go.Proofs.YteknpejkooemjaaDoor.Pau
open Go.RowKit Go.Shelf Go.Proofs.YteknpejkooemjaaDoor.Oct Go.Proofs.YteknpejkooemjaaDoor.Gt

theorem size_al (w : World) (o : Obj) : w.heap.size + 1 = (w.alloc o).heap.size := (Array.size_push _).symm
theorem ns_own {w : World} {B g c : Nat} {l : List Int} {n m : Nat} (h : w.ownsRow B 3 1 (.slice (some ⟨g, 0, none⟩) m c) n (l.map (Value.int .i64))) : Ns w (some ⟨g, 0, none⟩) l := by
  refine .inr ⟨g, 0, rfl, fun j z hj => ?_⟩
  have hc := h.cells (g := g) (by rw [ob_eq]; rfl) j (.int .i64 z) (by rw [List.getElem?_map, hj]; rfl)
  rw [Addr.add_lit] at hc
  exact hc
/-- A copy of numbers that came in. -/
theorem wpList_copy {ops : Array Oper} {rest : List Oper} {o : Oper} {a : Act} {Q : Exit → Act → World → Prop} {w : World} (hgd : o.guard = none) (s x : Operand)
    (ho : o.op = .call { callee := .builtin .append, args := #[s, x], argTypes := #[43, 43] }) (ao : Option Addr) (n c : Nat) (l : List Int) (g0 : Nat) (hg0 : g0 = w.heap.size) (hs' : a.eval s = .slice (some ⟨g0, 0, none⟩) 0 0) (hx : a.eval x = .slice ao n c) (hn : l.length = n) (hb : n ≤ 17592186044415) (hN : Ns w ao l)
    (h : ∀ ao' c' w', Ns w' ao' l → n ≤ c' → Below w.heap.size w w' → wpList Tryd.prog ops Q rest (a.put o.dst (.slice ao' n c')) w') :
    wpList Tryd.prog ops Q (o :: rest) a (w.alloc (.cells #[] 3)) := by
  have hs : a.eval s = .slice (some ⟨w.heap.size, 0, none⟩) 0 0 := by rw [hs', hg0]
  obtain ⟨i0, hi, hz0, hz1, hz2⟩ := info_parts infoI
  by_cases h0 : n = 0
  · subst h0
    have hl : l = [] := List.eq_nil_of_length_eq_zero hn
    subst hl
    have hsrc : Src Tryd.prog i0.size 43 (.slice ao 0 c) 0 [] (w.alloc (.cells #[] 3)) := by
      cases ao with
      | none => exact Src.ofNil _ Tryd.underlying43 c
      | some ad => exact Src.ofSlice _ Tryd.underlying43 ad 0 c [] (by simp) (fun j u hj => by simp at hj) (fun u hu => by cases hu)
    refine wpList_plain hgd fun K hK' => ?_
    have hrun := run_append_nothing (P := Tryd.prog) (w.alloc (.cells #[] 3)) 43 43 o.type 3 i0 Tryd.underlying43 hi (some ⟨w.heap.size, 0, none⟩) 0 0 (Nat.le_refl _) (.slice ao 0 c) hsrc
    unfold Oper.wp
    simp [execOp, ho, resolve, invoke, builtin, hs, hx, hrun, Result.andThen]
    exact hK' _ _ (h _ _ _ (.inl rfl) (Nat.le_refl _) (below_new w _))
  · have hne : l ≠ [] := fun e => by rw [e] at hn; simp at hn; omega
    obtain ⟨g, off, rfl, hc⟩ := hN.resolve_left hne
    have hnews : ∀ j u, (l.map (Value.int .i64))[j]? = some u → (w.alloc (.cells #[] 3)).cell? ((⟨g, off, none⟩ : Addr).add j) = some u := by
      intro j u hu
      rw [Addr.add_lit]
      rw [List.getElem?_map] at hu
      obtain ⟨z, hz, rfl⟩ := Option.map_eq_some_iff.1 hu
      exact ((below_new w _).cell (World.block_lt_of_cell? w _ (hc j z hz))).trans (hc j z hz)
    have hown : (w.alloc (.cells #[] 3)).ownsRow w.heap.size 3 1 (.slice (some ⟨w.heap.size, 0, none⟩) 0 0) 0 [] := ⟨rfl, .inr ⟨w.heap.size, 0, #[], rfl, Nat.le_refl _, heap_alloc_new _ _, Nat.le_refl _, by decide, rfl, rfl⟩⟩
    refine wpList_append_lies _ hgd s x 43 ho w.heap.size 3 i0 (.int .i64 0) 1 8 Tryd.underlying43 hi hz0 hz1 hz2 rfl (by decide) _ 0 [] hs hown ⟨g, off, none⟩ n c (l.map (Value.int .i64)) hx (by rw [List.length_map]; omega) hnews (by
      intro u hu
      obtain ⟨z, _, rfl⟩ := List.mem_map.1 hu
      rfl) (by omega) (by unfold maxLen; omega) (by omega) (by simp) _ rfl ?_
    intro g2 cap w2 hown2 hgrow hat hlt
    have hb2 : Below w.heap.size w w2 := (below_new w _).grown hgrow (by simp) (fun q hq => by simp [Value.ownBlock] at hq; omega)
    rw [Nat.zero_add] at hown2 ⊢
    rw [List.nil_append] at hown2
    refine h _ _ _ (ns_own hown2) ?_ hb2
    rcases hown2.2 with ⟨e, _⟩ | ⟨g', cap', cur, e, _, _, hcap, _⟩
    · cases e
    · cases e; exact hcap
set_option maxRecDepth 100000 in
set_option maxHeartbeats 4000000 in
theorem xPauliThrough (p : P) (hp : Wd p) (k : Int) (l : List Int) (hl : l.length ≤ 17592186044415) (ao : Option Addr) (c : Nat) (w : World) (hT : Tp w) (hN : Ns w ao l) : Calls Tryd.prog 4 #[pV p, .int .i64 k, .slice ao l.length c] w fun e w' => e = .returned (.bool true) ∧ Below w.heap.size w w' := by
  have c1 := fun ax cx (hcx : l.length ≤ cx) W (h : Below w.heap.size w W) (hX : Ns W ax l) => pThrough p hp k l (by omega) ax cx hcx W (hT.tb.below h) (hT.ts.below h) (hT.ti.below h) hX
  have c2 := fun W (h : Below w.heap.size w W) => dThrough p hp k l (by omega) ao c W (hN.below h)
  have c5 := fun W (h : Below w.heap.size w W) => pHeads W (hT.below h)
  generalize thrR k l p = R at *
  obtain ⟨⟨rn, rx, rz, rp⟩, re⟩ := R
  have heq := fun W => eql_same rn (rx : Int) (rz : Int) rp W
  obtain ⟨n, x, z, ph⟩ := p
  unfold pV at *
  simp only at *
  have HA := hide hN
  obtain ⟨m, hm⟩ : ∃ m, l.length = m := ⟨_, rfl⟩
  have HN := hide hm
  rw [hm] at hl c1 c2 ⊢
  have C1 := hide c1
  have C2 := hide c2
  have HG := hide (At4.new w (.int .i64 n) (.int .u64 (x : Int)) (.int .u64 (z : Int)) (.int .i64 ph))
  have HB := hide (bnew w (.cells #[.int .i64 n, .int .u64 (x : Int), .int .u64 (z : Int), .int .i64 ph] 24))
  have HS1 : Hid (w.heap.size + 1 = (w.alloc (.cells #[.int .i64 n, .int .u64 (x : Int), .int .u64 (z : Int), .int .i64 ph] 24)).heap.size) := hide (size_al w _)
  clear hp hT hN hm c1 c2
  go_enter Tryd.func4, Tryd.ntmps4
  go_wp2_with (at_builtin; refine wpList_copy rfl _ _ rfl ao m c l (w.heap.size + 1) HS1.out rfl rfl HN.out hl (HA.out.below HB.out) ?_)
  intro ax cx w1 hAx hcx q1
  rw [HS1.out] at q1
  clear HS1
  have HAx := hide hAx
  have HB1 := hide (bkp HB.out q1)
  have K0 := hide (HG.out.below q1)
  obtain ⟨x0, x1, x2, x3, x4⟩ := K0.out.cells
  clear hAx HB HG q1
  go_wp2_with fail
  refine (C1.out ax cx hcx _ HB1.out HAx.out).mono ?_
  rintro e w2 ⟨rfl, hb2⟩
  have hn2 := bnew w2 (.cells #[.int .i64 rn, .int .u64 (rx : Int), .int .u64 (rz : Int), .int .i64 rp] 24)
  have HB2 := hide (bkp (bkp HB1.out hb2) hn2)
  have HAx2 := hide ((HAx.out.below hb2).below hn2)
  have K1 := hide ((K0.out.below hb2).below hn2)
  have L1 := hide (At4.new w2 (.int .i64 rn) (.int .u64 (rx : Int)) (.int .u64 (rz : Int)) (.int .i64 rp))
  clear hb2 HB1 hn2 HAx K0 C1 x0 x1 x2 x3 x4
  obtain ⟨x0, x1, x2, x3, x4⟩ := K1.out.cells
  go_wp2_with fail
  refine (C2.out _ HB2.out).mono ?_
  rintro e w3 ⟨rfl, hb3⟩
  have hn3 := bnew w3 (.cells #[.int .i64 rn, .int .u64 (rx : Int), .int .u64 (rz : Int), .int .i64 rp] 24)
  have HB3 := hide (bkp (bkp HB2.out hb3) hn3)
  have HAx3 := hide ((HAx2.out.below hb3).below hn3)
  have M1 := hide ((L1.out.below hb3).below hn3)
  have M2 := hide (At4.new w3 (.int .i64 rn) (.int .u64 (rx : Int)) (.int .u64 (rz : Int)) (.int .i64 rp))
  clear hb3 HB2 hn3 HAx2 K1 C2 x0 x1 x2 x3 x4 L1
  go_wp2_with fail
  generalize w3.alloc (.cells #[.int .i64 rn, .int .u64 (rx : Int), .int .u64 (rz : Int), .int .i64 rp] 24) = w4 at *
  generalize w3.heap.size = g3 at *
  generalize w2.heap.size = g2 at *
  go_loopw [12] (fun vi wr => ∃ i : Nat, vi = .int .i64 (i : Int) ∧ i ≤ m ∧ Hid (Ns wr ax l ∧ Below w.heap.size w wr ∧ At4 wr g2 (.int .i64 rn) (.int .u64 (rx : Int)) (.int .u64 (rz : Int)) (.int .i64 rp) ∧ At4 wr g3 (.int .i64 rn) (.int .u64 (rx : Int)) (.int .u64 (rz : Int)) (.int .i64 rp))) (fun vi _ => m - (Go.RowKit.intOf vi).toNat)
  case atStart => exact ⟨0, rfl, by omega, hide ⟨HAx3.out, HB3.out, M1.out, M2.out⟩⟩
  case round =>
    clear HAx3 HB3 M1 M2
    obtain ⟨i, rfl, hi, HX⟩ := hrel
    by_cases h : i < m
    · have hd : decide ((i : Int) < (m : Int)) = true := decide_eq_true (by omega)
      obtain ⟨z1, hz⟩ : ∃ z1, l[i]? = some z1 := ⟨_, List.getElem?_eq_getElem (by rw [HN.out]; exact h)⟩
      obtain ⟨g, off, hgo, hcs⟩ := (HA.out.below HX.out.2.1).resolve_left (fun e => by rw [e] at hz; simp at hz)
      obtain ⟨g', off', hgo', hcs'⟩ := HX.out.1.resolve_left (fun e => by rw [e] at hz; simp at hz)
      subst hgo hgo'
      have hcx1 := hcs i z1 hz
      have hcy1 := hcs' i z1 hz
      have hiZ : (i : Int) < (m : Int) := by omega
      have HX2 : Hid (∀ W, Below wr.heap.size wr W → Ns W (some ⟨g', off', none⟩) l ∧ Below w.heap.size w W ∧ At4 W g2 (.int .i64 rn) (.int .u64 (rx : Int)) (.int .u64 (rz : Int)) (.int .i64 rp) ∧ At4 W g3 (.int .i64 rn) (.int .u64 (rx : Int)) (.int .u64 (rz : Int)) (.int .i64 rp)) := hide (fun W hW => ⟨HX.out.1.below hW, bkp HX.out.2.1 hW, HX.out.2.2.1.below hW, HX.out.2.2.2.below hW⟩)
      clear hcs hcs' hz HX
      go_wp2_with fail
      go_quiet (fail)
      go_wp2_with fail
      exact ⟨⟨i + 1, by go_num, by omega, hide (HX2.out _ (below_drewN (Below.refl _ _) _))⟩, by simp [Go.RowKit.intOf]; omega⟩
    · have hd : decide ((i : Int) < (m : Int)) = false := decide_eq_false (by omega)
      have HBi := hide HX.out.2.1
      obtain ⟨a0, a1, a2, a3, a4⟩ := HX.out.2.2.1.cells
      obtain ⟨b0, b1, b2, b3, b4⟩ := HX.out.2.2.2.cells
      clear HX
      go_wp2_with fail
      refine (c5 _ HBi.out).mono ?_
      rintro e w5 ⟨rfl, hb5⟩
      have HB5 := hide (bkp HBi.out hb5)
      clear hb5 HBi c5 a0 a1 a2 a3 a4 b0 b1 b2 b3 b4
      go_wp2_with fail
      go_ret
      exact ⟨rfl, HB5.out⟩
end Go.Proofs.YteknpejkooemjaaDoor.Pau
