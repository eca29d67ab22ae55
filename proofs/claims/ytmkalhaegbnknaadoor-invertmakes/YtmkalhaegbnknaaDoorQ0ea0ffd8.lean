import Derived.Test.YtmkalhaegbnknaaDoorQ46d9e303
import Derived.Test.YtmkalhaegbnknaaDoorQ724bfa53
set_option maxRecDepth 100000
set_option maxHeartbeats 4000000
namespace Go.Proofs.YtmkalhaegbnknaaDoor.Cir
open Go.RowKit Go.Shelf Go.Proofs.YtmkalhaegbnknaaDoor.Oct Go.Proofs.YtmkalhaegbnknaaDoor.Tok Go.Proofs.YtmkalhaegbnknaaDoor.Gt Go.Proofs.YtmkalhaegbnknaaDoor.Rf
def Rx (w : World) (xs : List (COp × Value)) : Prop := ∀ x ∈ xs, ∃ aq cq, x.2 = .slice aq x.1.qs.length cq /\ x.1.qs.length <= cq /\ Ns w aq x.1.qs
theorem Rx.below {w w' : World} {xs : List (COp × Value)} (h : Rx w xs) (hb : Below w.heap.size w w') : Rx w' xs := fun x hx => by
  obtain ⟨aq, cq, e, h1, h2⟩ := h x hx
  exact ⟨aq, cq, e, h1, h2.below hb⟩
theorem own_cap17 {w : World} {B e size n c : Nat} {ao : Option Addr} {xs : List Value} (h : w.ownsRow B e size (.slice ao n c) n xs) : n <= c := by
  rcases h.2 with ⟨e, e0⟩ | ⟨g', cap, cur, e, _, _, h4, _⟩
  . omega
  . simp only [Value.slice.injEq] at e
    omega
theorem run_app_zero (d ao : Option Addr) (n1 c1 c ty : Nat) (hc : n1 <= c1) (w : World) : (Builtin.append_ #[22, 22] ty #[.slice d n1 c1, .slice ao 0 c]).run Tryd.prog w = .ok (.slice d n1 c1) w := by
  obtain ⟨i0, hi, hz0, hz1, hz2⟩ := info_parts infoOp
  have ht := Tryd.underlying22
  cases ao <;> cases d <;> simp [Builtin.append_, run_underlying ht, sizeOf, typeInfo, hi, Builtin.lenOf, Builtin.firstCells, loadCells, loadCellsFrom, hc, storeCells]
theorem run_app_in17 {w : World} {B n1 c1 n2 c2 : Nat} {d ao : Option Addr} {xs1 xs2 : List (COp × Value)} (h1 : w.ownsRow B 41 6 (.slice d n1 c1) n1 (xs1.flatMap opC)) (hn2 : n2 = xs2.length) (hx : Rx w xs2) (h2 : xs2 = [] ∨ ∃ g off, ao = some ⟨g, off, none⟩ /\ ∀ j u, (xs2.flatMap opC)[j]? = some u -> w.cell? ⟨g, off + j, none⟩ = some u) (hlen : n1 + n2 <= 2199023255552) (hB : B <= w.heap.size) (ty : TypeId) :
    ∃ ao' cap w', (Builtin.append_ #[22, 22] ty #[.slice d n1 c1, .slice ao n2 c2]).run Tryd.prog w = .ok (.slice ao' (n1 + n2) cap) w' /\ w'.ownsRow B 41 6 (.slice ao' (n1 + n2) cap) (n1 + n2) ((xs1 ++ xs2).flatMap opC) /\ w.grownBy w' (ob d) := by
  obtain ⟨i0, hi, hz0, hz1, hz2⟩ := info_parts infoOp
  by_cases h0 : xs2 = []
  . subst h0
    simp only [List.length_nil] at hn2
    subst hn2
    exact ⟨d, c1, w, run_app_zero d ao n1 c1 c2 ty (own_cap17 h1) w, by simpa using h1, grown_refl _ _⟩
  . obtain ⟨g, off, rfl, hc⟩ := h2.resolve_left h0
    have hlen2 : (xs2.flatMap opC).length = n2 * 6 := by
      rw [hn2]
      clear hc h2 hx hn2 h0
      induction xs2 with
      | nil => rfl
      | cons a r ih =>
        rw [List.flatMap_cons, List.length_append, ih, List.length_cons]
        show 6 + r.length * 6 = _
        omega
    have hone : ∀ u ∈ xs2.flatMap opC, u.oneCell' = true := by
      intro u hu
      obtain ⟨x, hx', hux⟩ := List.mem_flatMap.1 hu
      obtain ⟨aq, cq, e, -, -⟩ := hx x hx'
      refine opC_one17 x.1 x.2 ?_ u hux
      rw [e]
      rfl
    obtain ⟨v', w', hr, ho, hg, _, _⟩ := run_append_own_at (P := Tryd.prog) w B 22 ty 41 i0 _ 6 64 Tryd.underlying22 hi hz0 hz1 hz2 rfl (by decide) _ n1 _ h1 ⟨g, off, none⟩ n2 c2 (xs2.flatMap opC) hlen2 (fun j u hu => by rw [Addr.add_lit]; exact hc j u hu) hone (by unfold maxLen; omega) (by omega) hB
    rw [ob_eq] at hg
    obtain ⟨ao', cap, rfl⟩ : ∃ ao' cap, v' = .slice ao' (n1 + n2) cap := by
      rcases ho.2 with ⟨e, e0⟩ | ⟨g', cap', cur', e, -⟩
      . exact ⟨none, 0, by rw [e, e0]⟩
      . exact ⟨_, cap', e⟩
    exact ⟨ao', cap, w', hr, by rw [List.flatMap_append]; exact ho, hg⟩
theorem step_app_in17 {ops : Array Oper} {o : Oper} {a : Act} {K : Act -> World -> Prop} {Q : Exit -> Act -> World -> Prop} {E : Prop} {w : World} (hgd : o.guard = none) (s x : Operand)
    (ho : o.op = .call { callee := .builtin .append, args := #[s, x], argTypes := #[22, 22] }) {B n1 c1 n2 c2 : Nat} {d ao : Option Addr} {xs1 xs2 : List (COp × Value)} (hs : a.eval s = .slice d n1 c1) (hx' : a.eval x = .slice ao n2 c2) (h1 : w.ownsRow B 41 6 (.slice d n1 c1) n1 (xs1.flatMap opC)) (hn2 : n2 = xs2.length) (hx : Rx w xs2) (h2 : xs2 = [] ∨ ∃ g off, ao = some ⟨g, off, none⟩ /\ ∀ j u, (xs2.flatMap opC)[j]? = some u -> w.cell? ⟨g, off + j, none⟩ = some u) (hlen : n1 + n2 <= 2199023255552) (hB : B <= w.heap.size)
    (h : ∀ ao' cap w', w'.ownsRow B 41 6 (.slice ao' (n1 + n2) cap) (n1 + n2) ((xs1 ++ xs2).flatMap opC) -> w.grownBy w' (ob d) -> K (a.put o.dst (.slice ao' (n1 + n2) cap)) w') :
    if Region.wanted o (yielded ops a.tmps) = true then Oper.wp Tryd.prog o a w K Q else E := by
  have hw : Region.wanted o (yielded ops a.tmps) = true := by simp [Region.wanted, hgd]
  rw [if_pos hw]
  obtain ⟨ao', cap, w', hr, h3, h4⟩ := run_app_in17 (c2 := c2) h1 hn2 hx h2 hlen hB o.type
  unfold Oper.wp execOp
  simp only [ho, resolve, invoke, builtin, Sem.run_bind, Sem.run_pure, Result.andThen_ok, List.map_toArray, List.map_cons, List.map_nil, hs, hx', hr]
  exact h ao' cap w' h3 h4
theorem dEmpty (c : Circ) (ao : Option Addr) (k : Nat) (w : World) : Calls Tryd.prog 25 #[cV c ao k] w fun e w' => e = .returned (.agg #[.int .i64 c.q, .int .i64 c.b, .slice none 0 0]) /\ Below w.heap.size w w' := by
  obtain ⟨q, b, l⟩ := c
  unfold cV
  simp only
  generalize l.length = n
  have HM : Hid (((w.alloc (.cells #[.int .i64 q, .int .i64 b, .slice ao n k] 24)).alloc (.cells #[.int .i64 0, .int .i64 0, .slice none 0 0] 24)).heap[w.heap.size + 1]? = some (.cells #[.int .i64 0, .int .i64 0, .slice none 0 0] 24 (0, 0)) /\ Below w.heap.size w ((w.alloc (.cells #[.int .i64 q, .int .i64 b, .slice ao n k] 24)).alloc (.cells #[.int .i64 0, .int .i64 0, .slice none 0 0] 24))) := hide ⟨(may_keep (w := w) (Below.refl _ _)).2, (bnew _ _).trans ((bnew _ _).mono (by simp))⟩
  go_enter Tryd.func25, Tryd.ntmps25
  go_wp2_with (refine wpList_store_row rfl _ _ _ rfl (w.heap.size + 1) _ rfl rfl _ _ HM.out.1 (by exact infoCi) (by rfl) (by simp [Value.oneCell']) ?_)
  refine bodyPost_ret (results_c rfl _ _ (w.heap.size + 1) _ _ _ _ rfl (setRow_heap _ _ _ _ _ _ HM.out.1) Tryd.underlying24 rfl (by exact infoCi)) rfl ?_
  exact ⟨rfl, Below.row HM.out.2 _ _ (by omega)⟩
theorem ct_none {k : Int} (h : 0 <= k) (h2 : k <= 20) (h3 : ¬ (k = 1 ∨ k = 2 ∨ k = 3 ∨ k = 4 ∨ k = 11 ∨ k = 13 ∨ k = 14)) : ctK k = 0 := by
  have key : ∀ x : Fin 21, ¬ (x.1 = 1 ∨ x.1 = 2 ∨ x.1 = 3 ∨ x.1 = 4 ∨ x.1 = 11 ∨ x.1 = 13 ∨ x.1 = 14) -> ctK (x.1 : Int) = 0 := by decide +kernel
  have := key ⟨k.toNat, by omega⟩ (fun hh => h3 (by simp only at hh; omega))
  simpa [Int.toNat_of_nonneg h] using this
theorem dControlled (k : Int) (h0 : 0 <= k) (h1 : k <= 20) (w : World) : Calls Tryd.prog 36 #[.int .i64 k] w fun e w' => e = .returned (.int .i64 (ctK k)) /\ w' = w := by
  by_cases h : k = 1 ∨ k = 2 ∨ k = 3 ∨ k = 4 ∨ k = 11 ∨ k = 13 ∨ k = 14
  . rcases h with rfl | rfl | rfl | rfl | rfl | rfl | rfl
    . rw [show ctK 1 = 1 from by decide +kernel]
      go_enter Tryd.func36, Tryd.ntmps36
      go_wp2_with fail
      go_ret
      exact ⟨rfl, rfl⟩
    . rw [show ctK 2 = 11 from by decide +kernel]
      go_enter Tryd.func36, Tryd.ntmps36
      go_wp2_with fail
      go_ret
      exact ⟨rfl, rfl⟩
    . rw [show ctK 3 = 12 from by decide +kernel]
      go_enter Tryd.func36, Tryd.ntmps36
      go_wp2_with fail
      go_ret
      exact ⟨rfl, rfl⟩
    . rw [show ctK 4 = 13 from by decide +kernel]
      go_enter Tryd.func36, Tryd.ntmps36
      go_wp2_with fail
      go_ret
      exact ⟨rfl, rfl⟩
    . rw [show ctK 11 = 18 from by decide +kernel]
      go_enter Tryd.func36, Tryd.ntmps36
      go_wp2_with fail
      go_ret
      exact ⟨rfl, rfl⟩
    . rw [show ctK 13 = 19 from by decide +kernel]
      go_enter Tryd.func36, Tryd.ntmps36
      go_wp2_with fail
      go_ret
      exact ⟨rfl, rfl⟩
    . rw [show ctK 14 = 20 from by decide +kernel]
      go_enter Tryd.func36, Tryd.ntmps36
      go_wp2_with fail
      go_ret
      exact ⟨rfl, rfl⟩
  . rw [ct_none h0 h1 h]
    have e1 : (k == 1) = false := by simp; omega
    have e2 : (k == 2) = false := by simp; omega
    have e3 : (k == 3) = false := by simp; omega
    have e4 : (k == 4) = false := by simp; omega
    have e5 : (k == 11) = false := by simp; omega
    have e6 : (k == 13) = false := by simp; omega
    have e7 : (k == 14) = false := by simp; omega
    clear h h0 h1
    go_enter Tryd.func36, Tryd.ntmps36
    go_wp2_with fail
    go_ret
    exact ⟨rfl, rfl⟩
theorem own_base17 {w : World} {B B' e size n c : Nat} {ao : Option Addr} {m : Nat} {xs : List Value} (h : w.ownsRow B e size (.slice ao m c) n xs) (hb : B' <= B) : w.ownsRow B' e size (.slice ao m c) n xs := by
  refine ⟨h.1, ?_⟩
  rcases h.2 with h2 | ⟨g, cap, cur, e1, e2, e3⟩
  . exact .inl h2
  . exact .inr ⟨g, cap, cur, e1, Nat.le_trans hb e2, e3⟩
theorem rx_own17 {w : World} {B : Nat} {xs : List (COp × Value)} (h : ∀ x ∈ xs, RowO w B x.2 x.1.qs) : Rx w xs := fun x hx => by
  obtain ⟨aq, cq, hv, hr, hn⟩ := (h x hx).isI.ns
  exact ⟨aq, cq, hv, hr, hn⟩
theorem dMore (a b : Circ) (ao bo : Option Addr) (k j : Nat) (hSb : Szs b.ops) (hlen : a.ops.length + b.ops.length <= 2199023255552) (w : World) {B1 : Nat} (hA : OpsAt w B1 ao a.ops.length k a.ops) (hB : Ci w b bo j) : Calls Tryd.prog 31 #[cV a ao k, cV b bo j] w fun e w' => ∃ co cap, e = .returned (cV ⟨a.q, a.b, a.ops ++ b.ops⟩ co cap) /\ OpsAt w' w.heap.size co (a.ops ++ b.ops).length cap (a.ops ++ b.ops) /\ Below w.heap.size w w' := by
  have c1 := fun V (h : Below w.heap.size w V) => eCopyO b bo j hSb V (hB.below h)
  obtain ⟨xs1, hx1n, hxa', hx3, hx4⟩ := hA
  have hxa : xs1.map (·.1) = a.ops := hxa'.symm
  have hxb : Rx w xs1 := fun x hx => by
    obtain ⟨aq, cq, hv, hr, hn⟩ := (hx4 x hx).ns
    exact ⟨aq, cq, hv, hr, hn⟩
  have hxc : a.ops = [] ∨ ∃ g off, ao = some ⟨g, off, none⟩ /\ ∀ j u, (xs1.flatMap opC)[j]? = some u -> w.cell? ⟨g, off + j, none⟩ = some u := by
    by_cases h0 : a.ops.length = 0
    . exact .inl (List.length_eq_zero_iff.1 h0)
    . obtain ⟨g, e, -⟩ := own_some hx3 (by omega)
      rw [e] at hx3
      exact .inr ⟨g, 0, e, fun j u hu => by
        rw [Nat.zero_add]
        exact own_at hx3 _ _ hu⟩
  have HI4 := hide hx4
  clear hxa' hx3 hx4 hx1n
  obtain ⟨q1, b1, l1⟩ := a
  obtain ⟨q2, b2, l2⟩ := b
  unfold cV at *
  simp only [List.length_append] at *
  obtain ⟨n1, hn1⟩ : ∃ n1, l1.length = n1 := ⟨_, rfl⟩
  obtain ⟨n2, hn2⟩ : ∃ n2, l2.length = n2 := ⟨_, rfl⟩
  rw [hn1] at hlen ⊢
  rw [hn2] at c1 hlen ⊢
  have HX1 : Hid (n1 = xs1.length /\ Rx w xs1) := hide ⟨by rw [← hn1, ← hxa, List.length_map], hxb⟩
  have HXC0 := hide hxc
  have HL1 := hide hxa
  have HN2 := hide hn2
  have HN1 := hide hn1
  clear hB hSb hxa hxb hxc hn1 hn2
  have HB0 : Hid (Below w.heap.size w (((w.alloc (.cells #[.int .i64 q1, .int .i64 b1, .slice ao n1 k] 24)).alloc (.cells #[.int .i64 q2, .int .i64 b2, .slice bo n2 j] 24)).alloc (.cells #[.int .i64 0, .int .i64 0, .slice none 0 0] 24)) /\ (((w.alloc (.cells #[.int .i64 q1, .int .i64 b1, .slice ao n1 k] 24)).alloc (.cells #[.int .i64 q2, .int .i64 b2, .slice bo n2 j] 24)).alloc (.cells #[.int .i64 0, .int .i64 0, .slice none 0 0] 24)).heap[w.heap.size]? = some (.cells #[.int .i64 q1, .int .i64 b1, .slice ao n1 k] 24) /\ (((w.alloc (.cells #[.int .i64 q1, .int .i64 b1, .slice ao n1 k] 24)).alloc (.cells #[.int .i64 q2, .int .i64 b2, .slice bo n2 j] 24)).alloc (.cells #[.int .i64 0, .int .i64 0, .slice none 0 0] 24)).heap[w.heap.size + 1]? = some (.cells #[.int .i64 q2, .int .i64 b2, .slice bo n2 j] 24) /\ (((w.alloc (.cells #[.int .i64 q1, .int .i64 b1, .slice ao n1 k] 24)).alloc (.cells #[.int .i64 q2, .int .i64 b2, .slice bo n2 j] 24)).alloc (.cells #[.int .i64 0, .int .i64 0, .slice none 0 0] 24)).heap[w.heap.size + 1 + 1]? = some (.cells #[.int .i64 0, .int .i64 0, .slice none 0 0] 24)) := hide (by
    obtain ⟨m1, m2⟩ := may_keep (w := w) (bnew ((w.alloc (.cells #[.int .i64 q1, .int .i64 b1, .slice ao n1 k] 24)).alloc (.cells #[.int .i64 q2, .int .i64 b2, .slice bo n2 j] 24)) (.cells #[.int .i64 0, .int .i64 0, .slice none 0 0] 24))
    refine ⟨((bnew _ _).trans ((bnew _ _).mono (by simp))).trans ((bnew _ _).mono (by simp; omega)), m1, m2, ?_⟩
    have := heap_alloc_new ((w.alloc (.cells #[.int .i64 q1, .int .i64 b1, .slice ao n1 k] 24)).alloc (.cells #[.int .i64 q2, .int .i64 b2, .slice bo n2 j] 24)) (.cells #[.int .i64 0, .int .i64 0, .slice none 0 0] 24)
    simpa using this)
  go_enter Tryd.func31, Tryd.ntmps31
  go_wp2_with (go_at_call 4; refine (c1 _ HB0.out.1).mono ?_; rintro e w1 ⟨co2, j2, rfl, hO2, hb1⟩; have HB1a := hide (HB0.out.1.trans (hb1.mono HB0.out.1.size)); have HBA := hide hb1; have HO2 := hide hO2; clear hO2 hb1)
  obtain ⟨xs2, hya, hyb, hyc, hyd, -⟩ := HO2.out
  have hal : Below w1.heap.size w1 (w1.alloc (.cells #[.int .i64 q2, .int .i64 b2, .slice co2 n2 j2] 24)) := bnew _ _
  have HZ1 : Hid ((w1.alloc (.cells #[.int .i64 q2, .int .i64 b2, .slice co2 n2 j2] 24)).heap[w.heap.size + 1 + 1]? = some (.cells #[.int .i64 0, .int .i64 0, .slice none 0 0] 24)) := hide ((hal.block _ (Nat.lt_of_lt_of_le (Array.getElem?_eq_some_iff.1 HB0.out.2.2.2).1 HBA.out.size)).trans ((HBA.out.block _ (Array.getElem?_eq_some_iff.1 HB0.out.2.2.2).1).trans HB0.out.2.2.2))
  have HS1 : Hid ((w1.alloc (.cells #[.int .i64 q2, .int .i64 b2, .slice co2 n2 j2] 24)).heap[w.heap.size]? = some (.cells #[.int .i64 q1, .int .i64 b1, .slice ao n1 k] 24) /\ (w1.alloc (.cells #[.int .i64 q2, .int .i64 b2, .slice co2 n2 j2] 24)).heap[w1.heap.size]? = some (.cells #[.int .i64 q2, .int .i64 b2, .slice co2 n2 j2] 24)) := hide ⟨(hal.block _ (Nat.lt_of_lt_of_le (Array.getElem?_eq_some_iff.1 HB0.out.2.1).1 HBA.out.size)).trans ((HBA.out.block _ (Array.getElem?_eq_some_iff.1 HB0.out.2.1).1).trans HB0.out.2.1), heap_alloc_new _ _⟩
  have HB1 : Hid (Below w.heap.size w (w1.alloc (.cells #[.int .i64 q2, .int .i64 b2, .slice co2 n2 j2] 24))) := hide (HB1a.out.trans (hal.mono HB1a.out.size))
  have HDW : Hid (w.heap.size + 1 + 1 < w1.heap.size) := hide (Nat.lt_of_lt_of_le (Array.getElem?_eq_some_iff.1 HB0.out.2.2.2).1 HBA.out.size)
  have hyc' := own_of_block hyc (fun q hq => hal.block q (own_lt hyc q hq).2)
  have hyd' : ∀ x ∈ xs2, RowO (w1.alloc (.cells #[.int .i64 q2, .int .i64 b2, .slice co2 n2 j2] 24)) (((w.alloc (.cells #[.int .i64 q1, .int .i64 b1, .slice ao n1 k] 24)).alloc (.cells #[.int .i64 q2, .int .i64 b2, .slice bo n2 j] 24)).alloc (.cells #[.int .i64 0, .int .i64 0, .slice none 0 0] 24)).heap.size x.2 x.1.qs := fun x hx => (hyd x hx).below hal
  have HL2 := hide hyb.symm
  have HX2 : Hid (n2 = xs2.length /\ Rx (w1.alloc (.cells #[.int .i64 q2, .int .i64 b2, .slice co2 n2 j2] 24)) xs2 /\ ∀ x ∈ xs2, RowO (w1.alloc (.cells #[.int .i64 q2, .int .i64 b2, .slice co2 n2 j2] 24)) (((w.alloc (.cells #[.int .i64 q1, .int .i64 b1, .slice ao n1 k] 24)).alloc (.cells #[.int .i64 q2, .int .i64 b2, .slice bo n2 j] 24)).alloc (.cells #[.int .i64 0, .int .i64 0, .slice none 0 0] 24)).heap.size x.2 x.1.qs) := hide ⟨hya, rx_own17 hyd', hyd'⟩
  have HXD : Hid (∀ V, Below (w1.alloc (.cells #[.int .i64 q2, .int .i64 b2, .slice co2 n2 j2] 24)).heap.size (w1.alloc (.cells #[.int .i64 q2, .int .i64 b2, .slice co2 n2 j2] 24)) V -> (xs2 = [] ∨ ∃ g off, co2 = some ⟨g, off, none⟩ /\ ∀ j u, (xs2.flatMap opC)[j]? = some u -> V.cell? ⟨g, off + j, none⟩ = some u)) := hide (fun V hV => by
    by_cases h0 : n2 = 0
    . exact .inl (List.length_eq_zero_iff.1 (by omega))
    . obtain ⟨g, rfl, -⟩ := own_some hyc' (by omega)
      exact .inr ⟨g, 0, rfl, fun j u hu => by
        rw [Nat.zero_add]
        exact cell_below (own_at hyc' _ _ hu) hV⟩)
  have HXC : Hid (∀ V, Below (w1.alloc (.cells #[.int .i64 q2, .int .i64 b2, .slice co2 n2 j2] 24)).heap.size (w1.alloc (.cells #[.int .i64 q2, .int .i64 b2, .slice co2 n2 j2] 24)) V -> (xs1 = [] ∨ ∃ g off, ao = some ⟨g, off, none⟩ /\ ∀ j u, (xs1.flatMap opC)[j]? = some u -> V.cell? ⟨g, off + j, none⟩ = some u)) := hide (fun V hV => by
    rcases HXC0.out with h | ⟨g, off, e, h⟩
    . left
      have := HL1.out
      rw [h] at this
      exact List.map_eq_nil_iff.1 this
    . exact .inr ⟨g, off, e, fun j u hu => cell_below (cell_below (h j u hu) HB1.out) hV⟩)
  have HX1b := HX1
  have HX1 : Hid (n1 = xs1.length /\ Rx (w1.alloc (.cells #[.int .i64 q2, .int .i64 b2, .slice co2 n2 j2] 24)) xs1 /\ Rx w xs1) := hide ⟨HX1b.out.1, HX1b.out.2.below HB1.out, HX1b.out.2⟩
  clear hya hyb hyc hyd hyc' hyd' hal HX1b HXC0 HB1a HBA HO2 c1
  have hDW := HDW.out
  generalize (w1.alloc (.cells #[.int .i64 q2, .int .i64 b2, .slice co2 n2 j2] 24)) = W1 at *
  generalize w1.heap.size = D at *
  refine region_front (S := (fun V : World => V.heap[w.heap.size]? = some (.cells #[.int .i64 q1, .int .i64 b1, .slice ao n1 k] 24) /\ V.heap[D]? = some (.cells #[.int .i64 q2, .int .i64 b2, .slice co2 n2 j2] 24))) (by kernel_rfl) 8 (by kernel_rfl) HS1.out (fun hHeld => ?_)
  simp only [List.take_succ_cons, List.take_zero]
  refine take_to (i := 1) (d := 9) (v := ?_) rfl rfl (by kernel_rfl) (by kernel_rfl) (by kernel_rfl) (fun _ _ _ h => h) (Or.inl ⟨by rfl, ?_⟩) (by assumption) ?_
  rotate_left 1
  . intro W hSw
    obtain ⟨hc1, hc2⟩ := hSw
    obtain ⟨s0, s1, s2, s3⟩ := def_cells hc1
    obtain ⟨t0, t1, t2, t3⟩ := def_cells hc2
    go_simp
    with_reducible rfl
  simp only [Act.put, List.setIfInBounds_toArray, List.set_cons_zero, List.set_cons_succ]
  refine take_to (i := 2) (d := 10) (v := ?_) rfl rfl (by kernel_rfl) (by kernel_rfl) (by kernel_rfl) (fun _ _ _ h => h) (Or.inl ⟨by rfl, ?_⟩) (by assumption) ?_
  rotate_left 1
  . intro W hSw
    obtain ⟨hc1, hc2⟩ := hSw
    obtain ⟨s0, s1, s2, s3⟩ := def_cells hc1
    obtain ⟨t0, t1, t2, t3⟩ := def_cells hc2
    go_simp
    with_reducible rfl
  simp only [Act.put, List.setIfInBounds_toArray, List.set_cons_zero, List.set_cons_succ]
  refine take_to (i := 4) (d := 12) (v := ?_) rfl rfl (by kernel_rfl) (by kernel_rfl) (by kernel_rfl) (fun _ _ _ h => h) (Or.inl ⟨by rfl, ?_⟩) (by assumption) ?_
  rotate_left 1
  . intro W hSw
    obtain ⟨hc1, hc2⟩ := hSw
    obtain ⟨s0, s1, s2, s3⟩ := def_cells hc1
    obtain ⟨t0, t1, t2, t3⟩ := def_cells hc2
    go_simp
    with_reducible rfl
  simp only [Act.put, List.setIfInBounds_toArray, List.set_cons_zero, List.set_cons_succ]
  refine take_to (i := 5) (d := 13) (v := ?_) rfl rfl (by kernel_rfl) (by kernel_rfl) (by kernel_rfl) (fun _ _ _ h => h) (Or.inl ⟨by rfl, ?_⟩) (by assumption) ?_
  rotate_left 1
  . intro W hSw
    obtain ⟨hc1, hc2⟩ := hSw
    obtain ⟨s0, s1, s2, s3⟩ := def_cells hc1
    obtain ⟨t0, t1, t2, t3⟩ := def_cells hc2
    go_simp
    with_reducible rfl
  simp only [Act.put, List.setIfInBounds_toArray, List.set_cons_zero, List.set_cons_succ]
  refine wpAnyH_ready (rs := [0]) (by kernel_rfl) (by simp) ?_
  refine AllReadyH.cons (o := { dst := some 8, op := Op.buildSlice 22 0 #[], type := 22, pos := "ref.go:91", after := #[], guard := none }) rfl (fun K hK => ?_) AllReadyH.nil
  go_simp
  have hba : Below W1.heap.size W1 (W1.alloc (.cells #[] 41)).drew := (bnew _ _).drew
  have hS4 : (fun V : World => V.heap[w.heap.size]? = some (.cells #[.int .i64 q1, .int .i64 b1, .slice ao n1 k] 24) /\ V.heap[D]? = some (.cells #[.int .i64 q2, .int .i64 b2, .slice co2 n2 j2] 24)) (W1.alloc (.cells #[] 41)).drew := ⟨(hba.block _ (Array.getElem?_eq_some_iff.1 HS1.out.1).1).trans HS1.out.1, (hba.block _ (Array.getElem?_eq_some_iff.1 HS1.out.2).1).trans HS1.out.2⟩
  have hown : ((W1.alloc (.cells #[] 41)).drew).ownsRow W1.heap.size 41 6 (.slice (some ⟨W1.heap.size, 0, none⟩) 0 0) 0 (([] : List (COp × Value)).flatMap opC) := ⟨rfl, .inr ⟨W1.heap.size, 0, #[], rfl, Nat.le_refl _, heap_alloc_new _ _, Nat.le_refl _, by decide, rfl, rfl⟩⟩
  refine hK.out _ _ hS4 (fun hHeld => ?_)
  clear hK K
  generalize (W1.alloc (.cells #[] 41)).drew = W4 at *
  try simp only [Act.put, List.setIfInBounds_toArray, List.set_cons_zero, List.set_cons_succ]
  refine wpAnyH_ready (rs := [3]) (by kernel_rfl) (by simp) ?_
  refine AllReadyH.cons (o := { dst := some 11, op := Op.call { callee := Callee.builtin Builtin.append, args := #[Operand.tmp 8, Operand.tmp 10], argTypes := #[22, 22] }, type := 22, pos := "ref.go:91", after := #[{ on := 0, ground := Ground.data }, { on := 2, ground := Ground.data }], guard := none }) rfl (fun K hK => ?_) AllReadyH.nil
  have hx1 := HX1.out.2.1.below hba
  have hc1 := HXC.out W4 hba
  refine step_app_in17 rfl (.tmp 8) (.tmp 10) rfl (by rfl) (by rfl) hown HX1.out.1 hx1 hc1 (by omega) hba.size ?_
  intro ao5 c5 w5 hown5 hg5
  simp only [Nat.zero_add] at hown5 ⊢
  have hb5 : Below W1.heap.size W1 w5 := hba.grown hg5 hba.size (fun q hq => by cases hq; exact Nat.le_refl _)
  have hS5 : (fun V : World => V.heap[w.heap.size]? = some (.cells #[.int .i64 q1, .int .i64 b1, .slice ao n1 k] 24) /\ V.heap[D]? = some (.cells #[.int .i64 q2, .int .i64 b2, .slice co2 n2 j2] 24)) w5 := ⟨(hb5.block _ (Array.getElem?_eq_some_iff.1 HS1.out.1).1).trans HS1.out.1, (hb5.block _ (Array.getElem?_eq_some_iff.1 HS1.out.2).1).trans HS1.out.2⟩
  refine hK.out _ _ hS5 (fun hHeld => ?_)
  clear hK K
  try simp only [Act.put, List.setIfInBounds_toArray, List.set_cons_zero, List.set_cons_succ]
  refine wpAnyH_ready (rs := [6]) (by kernel_rfl) (by simp) ?_
  refine AllReadyH.cons (o := { dst := some 14, op := Op.call { callee := Callee.builtin Builtin.append, args := #[Operand.tmp 11, Operand.tmp 13], argTypes := #[22, 22] }, type := 22, pos := "ref.go:91", after := #[{ on := 3, ground := Ground.data }, { on := 5, ground := Ground.data }, { on := 3, ground := Ground.chain }], guard := none }) rfl (fun K hK => ?_) AllReadyH.nil
  have hx2 := HX2.out.2.1.below hb5
  have hc2 := HXD.out w5 hb5
  refine step_app_in17 rfl (.tmp 11) (.tmp 13) rfl (by rfl) (by rfl) (show w5.ownsRow W1.heap.size 41 6 (.slice ao5 n1 c5) n1 (xs1.flatMap opC) from by simpa using hown5) HX2.out.1 hx2 hc2 (by omega) hb5.size ?_
  intro co6 c6 w6 hown6 hg6
  have hob : ∀ q, ob ao5 = some q -> W1.heap.size <= q := fun q hq => (own_lt hown5 q hq).1
  have hb6 : Below W1.heap.size W1 w6 := hb5.grown hg6 hb5.size hob
  have hS6 : (fun V : World => V.heap[w.heap.size]? = some (.cells #[.int .i64 q1, .int .i64 b1, .slice ao n1 k] 24) /\ V.heap[D]? = some (.cells #[.int .i64 q2, .int .i64 b2, .slice co2 n2 j2] 24)) w6 := ⟨(hb6.block _ (Array.getElem?_eq_some_iff.1 HS1.out.1).1).trans HS1.out.1, (hb6.block _ (Array.getElem?_eq_some_iff.1 HS1.out.2).1).trans HS1.out.2⟩
  refine hK.out _ _ hS6 (fun hHeld => ?_)
  clear hK K
  try simp only [Act.put, List.setIfInBounds_toArray, List.set_cons_zero, List.set_cons_succ]
  refine take_to (i := 7) (d := 15) (v := ?_) rfl rfl (by kernel_rfl) (by kernel_rfl) (by kernel_rfl) (fun _ _ _ h => h) (Or.inl ⟨by rfl, ?_⟩) (by assumption) ?_
  rotate_left 1
  . intro W hSw
    obtain ⟨hc1, hc2⟩ := hSw
    obtain ⟨s0, s1, s2, s3⟩ := def_cells hc1
    obtain ⟨t0, t1, t2, t3⟩ := def_cells hc2
    go_simp
    with_reducible rfl
  simp only [Act.put, List.setIfInBounds_toArray, List.set_cons_zero, List.set_cons_succ]
  refine wpAnyH_done (by kernel_rfl) ?_ _
  refine ql_last17 (o := { dst := none, op := Op.store 22 (Operand.tmp 15) (Operand.tmp 14), type := 0, pos := "ref.go:91", after := #[{ on := 7, ground := Ground.data }, { on := 6, ground := Ground.data }, { on := 6, ground := Ground.chain }, { on := 0, ground := Ground.phase }, { on := 1, ground := Ground.phase }, { on := 2, ground := Ground.phase }, { on := 3, ground := Ground.phase }, { on := 4, ground := Ground.phase }, { on := 5, ground := Ground.phase }, { on := 6, ground := Ground.phase }], guard := none }) rfl (fun K hK => ?_)
  obtain ⟨v0, v1, v2, v3⟩ := def_cells hS6.1
  have vf : ∀ x, w6.frozen? ⟨w.heap.size, x, none⟩ = false := fun x => by simp [World.frozen?, hS6.1]
  have e6 : w6.setCell ⟨w.heap.size, 2, none⟩ (.slice co6 (n1 + n2) c6) = w6.setRow w.heap.size #[.int .i64 q1, .int .i64 b1, .slice co6 (n1 + n2) c6] := by
    rw [setCell_eq_setRow _ _ 2 _ _ _ _ hS6.1]
    rfl
  have HE6 := hide e6
  have hm6 : (w6.setRow w.heap.size #[.int .i64 q1, .int .i64 b1, .slice co6 (n1 + n2) c6]).heap[w.heap.size]? = some (.cells #[.int .i64 q1, .int .i64 b1, .slice co6 (n1 + n2) c6] 24 (0, 0)) := setRow_heap _ _ _ _ _ _ hS6.1
  have hz6 : (w6.setRow w.heap.size #[.int .i64 q1, .int .i64 b1, .slice co6 (n1 + n2) c6]).heap[w.heap.size + 1 + 1]? = some (.cells #[.int .i64 0, .int .i64 0, .slice none 0 0] 24) := (setRow_other _ _ _ _ (by omega)).trans ((hb6.block _ (Array.getElem?_eq_some_iff.1 HZ1.out).1).trans HZ1.out)
  obtain ⟨y0, y1, y2, y3⟩ := def_cells hm6
  have HZ6 := hide hz6
  have HF : Hid (Below w.heap.size w ((w6.setRow w.heap.size #[.int .i64 q1, .int .i64 b1, .slice co6 (n1 + n2) c6]).setRow (w.heap.size + 1 + 1) #[.int .i64 q1, .int .i64 b1, .slice co6 (n1 + n2) c6]) /\ OpsAt ((w6.setRow w.heap.size #[.int .i64 q1, .int .i64 b1, .slice co6 (n1 + n2) c6]).setRow (w.heap.size + 1 + 1) #[.int .i64 q1, .int .i64 b1, .slice co6 (n1 + n2) c6]) w.heap.size co6 (n1 + n2) c6 (l1 ++ l2)) := hide (by
    have hne : ∀ (b : Nat) (cs : Array Value) (t : TypeId) (fr : Nat × Nat), w6.heap[b]? = some (.cells cs t fr) -> t ≠ 24 -> (((w6.setRow w.heap.size #[.int .i64 q1, .int .i64 b1, .slice co6 (n1 + n2) c6]).setRow (w.heap.size + 1 + 1) #[.int .i64 q1, .int .i64 b1, .slice co6 (n1 + n2) c6])).heap[b]? = w6.heap[b]? := fun b cs t fr hb ht => by
      have q1 : b ≠ w.heap.size := fun e => by
        rw [e, hS6.1] at hb
        simp only [Option.some.injEq, Obj.cells.injEq] at hb
        exact ht hb.2.1.symm
      have q2 : b ≠ w.heap.size + 1 + 1 := fun e => by
        rw [e, (hb6.block _ (Array.getElem?_eq_some_iff.1 HZ1.out).1).trans HZ1.out] at hb
        simp only [Option.some.injEq, Obj.cells.injEq] at hb
        exact ht hb.2.1.symm
      rw [setRow_other _ _ _ _ q2, setRow_other _ _ _ _ q1]
    have hbf : Below w.heap.size w ((w6.setRow w.heap.size #[.int .i64 q1, .int .i64 b1, .slice co6 (n1 + n2) c6]).setRow (w.heap.size + 1 + 1) #[.int .i64 q1, .int .i64 b1, .slice co6 (n1 + n2) c6]) := Below.row (Below.row (HB1.out.trans (hb6.mono HB1.out.size)) _ _ (Nat.le_refl _)) _ _ (by omega)
    have hrw : (((w6.setRow w.heap.size #[.int .i64 q1, .int .i64 b1, .slice co6 (n1 + n2) c6]).setRow (w.heap.size + 1 + 1) #[.int .i64 q1, .int .i64 b1, .slice co6 (n1 + n2) c6])).ownsRow W1.heap.size 41 6 (.slice co6 (n1 + n2) c6) (n1 + n2) ((xs1 ++ xs2).flatMap opC) := own_of_block hown6 (fun q hq => by
      obtain ⟨cs, fr, hc⟩ := own_cells' hown6 hq
      exact hne q cs _ fr hc (by decide))
    have hrx : ∀ x ∈ xs1 ++ xs2, IsI ((w6.setRow w.heap.size #[.int .i64 q1, .int .i64 b1, .slice co6 (n1 + n2) c6]).setRow (w.heap.size + 1 + 1) #[.int .i64 q1, .int .i64 b1, .slice co6 (n1 + n2) c6]) x.2 x.1.qs := fun x hx => by
      rcases List.mem_append.1 hx with h | h
      . exact ((((HI4.out x h).block (fun g cs fr hg => HB1.out.block g (Array.getElem?_eq_some_iff.1 hg).1)).block (fun g cs fr hg => hb6.block g (Array.getElem?_eq_some_iff.1 hg).1)).block (w' := ((w6.setRow w.heap.size #[.int .i64 q1, .int .i64 b1, .slice co6 (n1 + n2) c6]).setRow (w.heap.size + 1 + 1) #[.int .i64 q1, .int .i64 b1, .slice co6 (n1 + n2) c6])) (fun g cs fr hg => hne g cs _ fr hg (by decide)))
      . exact (((HX2.out.2.2 x h).below hb6).block (w' := ((w6.setRow w.heap.size #[.int .i64 q1, .int .i64 b1, .slice co6 (n1 + n2) c6]).setRow (w.heap.size + 1 + 1) #[.int .i64 q1, .int .i64 b1, .slice co6 (n1 + n2) c6])) (fun g cs fr hg => hne g cs _ fr hg (by decide))).isI
    exact ⟨hbf, xs1 ++ xs2, by rw [HX1.out.1, HX2.out.1, List.length_append], by rw [List.map_append, HL1.out, HL2.out], own_base17 hrw HB1.out.size, hrx⟩)
  clear hS4 hS5 hS6 hown hown5 hown6 hx1 hx2 hc1 hc2 hb5 hb6 hg5 hg6 hba hob hm6 hz6 e6 hHeld
  go_simp
  refine hK.out _ _ ?_
  clear hK K
  rw [HE6.out]
  go_wp2_with (refine wpList_store_row rfl _ _ _ rfl (w.heap.size + 1 + 1) _ rfl rfl _ _ HZ6.out (by exact infoCi) (by rfl) (by simp [Value.oneCell']) ?_)
  refine bodyPost_ret (results_c rfl _ _ (w.heap.size + 1 + 1) _ _ _ _ rfl (setRow_heap _ _ _ _ _ _ HZ6.out) Tryd.underlying24 rfl (by exact infoCi)) rfl ?_
  exact ⟨co6, c6, rfl, HF.out.2, HF.out.1⟩
end Go.Proofs.YtmkalhaegbnknaaDoor.Cir
