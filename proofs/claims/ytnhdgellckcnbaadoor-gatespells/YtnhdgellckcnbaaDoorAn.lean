/- Package gate: gatesOf. -/
import Derived.Test.YtnhdgellckcnbaaDoorAm
namespace Go.Proofs.YtnhdgellckcnbaaDoor.Gt
open Go.RowKit Go.Proofs.YtnhdgellckcnbaaDoor.Oct Go.Proofs.YtnhdgellckcnbaaDoor.Dy

section
variable {P : Program}
/-- 'x = append(x, v)', elements of several cells. -/
theorem wpList_pushN {ops : Array Oper} {rest : List Oper} {o : Oper} {a : Act} {Q : Exit → Act → World → Prop} {w : World} (hgd : o.guard = none) (s x : Operand) (t : TypeId)
    (ho : o.op = .call { callee := .builtin .append, args := #[s, x], argTypes := #[t, t] })
    (e : TypeId) (ht : P.underlying t = some (.slice e)) (z0 : Value) (size by' : Nat) (hinfo : (P.info? e).map (fun i => (i.zero, i.size, i.bytes)) = some (some z0, size, by')) (hz0' : z0.cells.size = size) (hs0 : 0 < size)
    (B : Nat) (ao : Option Addr) (n c : Nat) (xs : List Value) (hs : a.eval s = .slice ao n c) (hown : w.ownsRow B e size (.slice ao n c) n xs)
    (news : List Value) (cells : Array Value) (hz : cells = news.toArray) (hl : news.length = size) (hv : ∀ u ∈ news, u.oneCell' = true) (H : Nat) (hH : w.heap.size = H) (hx : a.eval x = .slice (some ⟨H, 0, none⟩) 1 1) (hlen : (n + 1) * by' ≤ 140737488355328) (hn : n + 1 ≤ 140737488355328) (hbase : B ≤ w.heap.size)
    (h : ∀ g cap w', w'.ownsRow B e size (.slice (some ⟨g, 0, none⟩) (n + 1) cap) (n + 1) (xs ++ news) → w.grownBy w' (ob ao) → (ob ao = some g ∨ w.heap.size ≤ g) → wpList P ops Q rest (a.put o.dst (.slice (some ⟨g, 0, none⟩) (n + 1) cap)) w') :
    wpList P ops Q (o :: rest) a (w.alloc (.cells cells e)) := by
  obtain ⟨i, hi, hz0, hz1, hz2⟩ := info_parts hinfo
  subst hz
  subst hH
  refine wpList_append_lies _ hgd s x t ho B e i z0 size by' ht hi hz0 hz1 hz2 hz0' hs0 _ n xs hs (hown.alloc _) ⟨w.heap.size, 0, none⟩ 1 1 news hx (by omega) (fun j u hu => by rw [Addr.add_lit, Nat.zero_add, cell_of_row _ _ _ _ _ _ (heap_alloc_new w _)]; simpa using hu) hv (by decide) (by unfold maxLen; omega) hlen (by simp; omega) _ rfl ?_
  intro g cap w' ho' hg hat hlt
  rw [ob_eq] at hg hat
  refine h g cap w' ho' ((grown_alloc w _ _).trans hg) ?_
  rcases hat with e | e
  · exact .inl e
  · right; simp at e; omega
end
theorem infoW : (Tryd.prog.info? 84).map (fun i => (i.zero, i.size, i.bytes)) = some (some (.agg #[.slice none 0 0, .int .i64 0, .slice none 0 0]), 3, 56) := by kernel_rfl
/-- A word of one kind: the kind, where its row of kinds lies, where its matrix lies. -/
structure Wk where
  k : Nat
  gk : Nat
  gm : Nat
def Wk.N (x : Wk) : Nat := rowsN x.k * rowsN x.k
def Wk.cells (x : Wk) : List Value := [.slice (some ⟨x.gk, 0, none⟩) 1 1, .int .i64 (rowsN x.k : Int), .slice (some ⟨x.gm, 0, none⟩) x.N x.N]
structure Wd (w : World) (x : Wk) : Prop where
  le : x.k ≤ 20
  kind : Rk w x.gk 22 1 (fun _ => .int .i64 (x.k : Int))
  mat : Rk w x.gm 34 x.N (fun j => cx (mbs x.k j))
theorem Wd.below {w w' : World} {x : Wk} (h : Wd w x) (hb : Below w.heap.size w w') : Wd w' x := ⟨h.le, h.kind.below hb, h.mat.below hb⟩
theorem own_ne {w : World} {B e size n : Nat} {ao : Option Addr} {m c : Nat} {xs : List Value} (h : w.ownsRow B e size (.slice ao m c) n xs) {g : Nat} {t : TypeId} {l : Nat} {f : Nat → Value} (hk : Rk w g t l f) (ht : t ≠ e) : ob ao ≠ some g := by
  obtain ⟨cs, hk, _, _⟩ := hk
  intro he
  rcases h.2 with h0 | ⟨g', cap, cur, hv, hbg, hg, h1⟩
  · simp only [Value.slice.injEq] at h0
    rw [h0.1.1] at he
    cases he
  · simp only [Value.slice.injEq] at hv
    rw [hv.1] at he
    cases he
    rw [hg] at hk
    cases hk
    exact ht rfl
theorem Rk.grown {w w' : World} {g : Nat} {t : TypeId} {l : Nat} {f : Nat → Value} {r : Option Nat} (h : Rk w g t l f) (hg : w.grownBy w' r) (hne : r ≠ some g) : Rk w' g t l f := h.of_block (hg.block g h.lt (fun e => hne e.symm))
/-- The kinds of so many qubits, among the first. -/
def kq (q : Int) (i : Nat) : List Nat := ((List.range i).map (· + 1)).filter fun (k : Nat) => decide ((rw' (k : Int)).q = q)
theorem kq_succ (q : Int) (i : Nat) : kq q (i + 1) = if (rw' ((i + 1 : Nat) : Int)).q = q then kq q i ++ [i + 1] else kq q i := by
  unfold kq
  rw [List.range_succ, List.map_append, List.filter_append]
  by_cases h : (rw' ((i + 1 : Nat) : Int)).q = q
  · rw [if_pos h]; simp; exact h
  · rw [if_neg h]; simp; exact h
/-- What gatesOf answers. -/
def GPost (q : Int) (w : World) (e : Ending) (w' : World) : Prop :=
  ∃ (ao : Option Addr) (c : Nat) (ws : List Wk), e = .returned (.slice ao ws.length c) ∧ w'.ownsRow w.heap.size 84 3 (.slice ao ws.length c) ws.length (ws.flatMap Wk.cells) ∧ (∀ x ∈ ws, Wd w' x) ∧ ws.map (·.k) = kq q 20 ∧ Below w.heap.size w w'
theorem below_two (w : World) (A B : Obj) : Below w.heap.size w ((w.alloc A).alloc B) := (below_new w _).trans ((below_new _ _).mono (by simp))
theorem rk_one {W : World} {g i : Nat} {t : TypeId} (h : W.heap[g]? = some (.cells #[.int .i64 ((i : Int) + 1)] t)) : Rk W g t 1 (fun _ => .int .i64 ((i + 1 : Nat) : Int)) :=
  ⟨_, h, by simp, fun j hj => by obtain rfl : j = 0 := by omega
                                 simp⟩
set_option maxRecDepth 100000 in
set_option maxHeartbeats 2000000 in
theorem gGatesOf (q : Int) (w : World) (hT : Tb w) (hD : Td w) : Calls Tryd.prog 45 #[.int .i64 q] w (GPost q w) := by
  go_enter Tryd.func45, Tryd.ntmps45
  go_wp2_with fail
  refine (gKinds _ hT).mono ?_
  rintro e w1 ⟨g, c, rfl, hown, hb1⟩
  obtain ⟨hR, hg⟩ := rk_kinds hown
  clear hown
  go_wp2_with fail
  go_loopw [3, 5, 7, 10] (fun vl _ _ vi wr => ∃ (i c' : Nat) (ao : Option Addr) (ws : List Wk), vl = .slice ao ws.length c' ∧ vi = .int .i64 (i : Int) ∧ i ≤ 20 ∧ wr.ownsRow w.heap.size 84 3 (.slice ao ws.length c') ws.length (ws.flatMap Wk.cells) ∧ (∀ x ∈ ws, Wd wr x) ∧ Hid (ws.map (·.k) = kq q i) ∧ Rk wr g 22 20 (fun j => .int .i64 ((j + 1 : Nat) : Int)) ∧ Below w.heap.size w wr) (fun _ _ _ vi _ => 20 - (Go.RowKit.intOf vi).toNat)
  case atStart => exact ⟨0, 0, none, [], rfl, rfl, by omega, World.ownsRow_nil _ _ _ _, fun x hx => by simp at hx, hide rfl, hR, hb1⟩
  case round =>
    clear hR hb1
    obtain ⟨i, c', ao, ws, rfl, rfl, hi, hown, hW, HK, hR, hb⟩ := hrel
    have hTr := hT.below hb
    have hDr := hD.below hb
    have HS := hide (kq_succ q i)
    have hwl : ws.length ≤ i := by
      have := congrArg List.length HK.out
      rw [List.length_map] at this
      have h2 := List.length_filter_le (fun (k : Nat) => decide ((rw' (k : Int)).q = q)) ((List.range i).map (· + 1))
      rw [List.length_map, List.length_range] at h2
      unfold kq at this
      omega
    by_cases h : i < 20
    · have hd : decide ((i : Int) < 20) = true := decide_eq_true (by omega)
      have hcell := hR.cell i h
      have cA := fun w hT => gArity ((i + 1 : Nat) : Int) w hT
      have cM := fun w hT hD => gMat (i + 1) (by omega) (by omega) w hT hD
      by_cases hq : (rw' ((i + 1 : Nat) : Int)).q = q
      · have hbq : ((rw' ((i + 1 : Nat) : Int)).q == q) = true := by simpa using hq
        have HK2 : Hid (ws.map (·.k) ++ [i + 1] = kq q (i + 1)) := hide (by rw [HS.out, if_pos hq, HK.out])
        clear hq HS HK
        generalize (rw' ((i + 1 : Nat) : Int)).q = qq at *
        go_wp2_with fail
        refine (cA _ hTr).mono ?_
        rintro e w2 ⟨rfl, q2⟩
        go_wp2_with fail
        refine (cM _ (hTr.below q2) (hDr.below q2)).mono ?_
        rintro e w3 ⟨gm, rfl, hRm, hgm, q3⟩
        replace q3 := q2.trans (q3.mono q2.size)
        have hown3 := own_below hown q3
        have hW3 : ∀ x ∈ ws, Wd w3 x := fun x hx => (hW x hx).below q3
        have hR3 := hR.below q3
        have hb3 := hb.trans (q3.mono hb.size)
        clear hown hW hR hb hTr hDr q2 q3 cA cM hcell
        have hN64 := rowsN_le (i + 1)
        have hm := heap2_0 w3 (.cells #[.int .i64 (rowsN (i + 1) : Int), .slice (some ⟨gm, 0, none⟩) (rowsN (i + 1) * rowsN (i + 1)) (rowsN (i + 1) * rowsN (i + 1))] 25) (.cells #[.int .i64 ((i : Int) + 1)] 22)
        have hk := heap2_1 w3 (.cells #[.int .i64 (rowsN (i + 1) : Int), .slice (some ⟨gm, 0, none⟩) (rowsN (i + 1) * rowsN (i + 1)) (rowsN (i + 1) * rowsN (i + 1))] 25) (.cells #[.int .i64 ((i : Int) + 1)] 22)
        have q4 := below_two w3 (.cells #[.int .i64 (rowsN (i + 1) : Int), .slice (some ⟨gm, 0, none⟩) (rowsN (i + 1) * rowsN (i + 1)) (rowsN (i + 1) * rowsN (i + 1))] 25) (.cells #[.int .i64 ((i : Int) + 1)] 22)
        have hown4 := own_below hown3 q4
        have hs4 : w.heap.size ≤ ((w3.alloc (.cells #[.int .i64 (rowsN (i + 1) : Int), .slice (some ⟨gm, 0, none⟩) (rowsN (i + 1) * rowsN (i + 1)) (rowsN (i + 1) * rowsN (i + 1))] 25)).alloc (.cells #[.int .i64 ((i : Int) + 1)] 22)).heap.size := Nat.le_trans hb3.size q4.size
        have hone : ∀ u ∈ Wk.cells ⟨i + 1, w3.heap.size + 1, gm⟩, u.oneCell' = true := by
          intro u hu
          simp [Wk.cells] at hu
          rcases hu with rfl | rfl | rfl <;> rfl
        go_wp2_with (first
          | refine wpList_load_row rfl 25 _ rfl w3.heap.size rfl 25 _ (0, 0) _ hm Tryd.underlying25 rfl (by exact infoM) ?_
          | (at_builtin; refine wpList_pushN rfl _ _ 81 rfl 84 Tryd.underlying81 _ 3 56 infoW rfl (by decide) w.heap.size ao ws.length c' (ws.flatMap Wk.cells) rfl hown4 (Wk.cells ⟨i + 1, w3.heap.size + 1, gm⟩) _ rfl rfl hone (w3.heap.size + 1 + 1) (by simp) rfl (by omega) (by omega) hs4 ?_))
        intro g2 c2 w5 hown5 hgrow hat
        generalize (w3.alloc (.cells #[.int .i64 (rowsN (i + 1) : Int), .slice (some ⟨gm, 0, none⟩) (rowsN (i + 1) * rowsN (i + 1)) (rowsN (i + 1) * rowsN (i + 1))] 25)).alloc (.cells #[.int .i64 ((i : Int) + 1)] 22) = W1 at *
        obtain ⟨X, hX⟩ : ∃ X : Wk, X = ⟨i + 1, w3.heap.size + 1, gm⟩ := ⟨_, rfl⟩
        rw [← hX] at hown5
        have hkR := rk_one hk (i := i)
        have hW4 : ∀ x ∈ ws ++ [X], Wd w5 x := by
          intro x hx
          have h4 : Wd W1 x := by
            rcases List.mem_append.1 hx with hx | hx
            · exact (hW3 x hx).below q4
            · obtain rfl : x = X := by simpa using hx
              rw [hX]
              exact ⟨by show i + 1 ≤ 20; omega, hkR, hRm.below q4⟩
          exact ⟨h4.le, h4.kind.grown hgrow (own_ne hown4 h4.kind (by decide)), h4.mat.grown hgrow (own_ne hown4 h4.mat (by decide))⟩
        have hR5 := (hR3.below q4).grown hgrow (own_ne hown4 (hR3.below q4) (by decide))
        have hb5 : Below w.heap.size w w5 := (hb3.trans (q4.mono hb3.size)).grown hgrow hs4 (fun q hq => (hown4.lt q (by rw [ob_eq]; exact hq)).1)
        have hown6 : w5.ownsRow w.heap.size 84 3 (.slice (some ⟨g2, 0, none⟩) (ws ++ [X]).length c2) (ws ++ [X]).length ((ws ++ [X]).flatMap Wk.cells) := by
          rw [List.length_append, List.flatMap_append]
          simpa using hown5
        have HK3 : Hid ((ws ++ [X]).map (·.k) = kq q (i + 1)) := hide (by rw [List.map_append, hX]; exact HK2.out)
        clear hX hkR hk hm hown4 hown5 hgrow hat hone hN64 HK2 hW3 hRm hR3 hown3 q4 hs4
        go_wp2_with fail
        exact ⟨⟨i + 1, c2, some ⟨g2, 0, none⟩, ws ++ [X], by simp, by go_num, by omega, hown6, hW4, HK3, hR5, hb5⟩, by simp [Go.RowKit.intOf]; omega⟩
      · have hbq : ((rw' ((i + 1 : Nat) : Int)).q == q) = false := by simpa using hq
        have HK2 : Hid (ws.map (·.k) = kq q (i + 1)) := hide (by rw [HS.out, if_neg hq, HK.out])
        clear hq HS HK
        generalize (rw' ((i + 1 : Nat) : Int)).q = qq at *
        go_wp2_with fail
        refine (cA _ hTr).mono ?_
        rintro e w2 ⟨rfl, q2⟩
        have hown3 := own_below hown q2
        have hW3 : ∀ x ∈ ws, Wd w2 x := fun x hx => (hW x hx).below q2
        have hR3 := hR.below q2
        have hb3 := hb.trans (q2.mono hb.size)
        clear hown hW hR hb hTr hDr q2 cA cM hcell
        go_wp2_with fail
        exact ⟨⟨i + 1, c', ao, ws, rfl, by go_num, by omega, hown3, hW3, HK2, hR3, hb3⟩, by simp [Go.RowKit.intOf]; omega⟩
    · obtain rfl : i = 20 := by omega
      clear HS
      go_wp2_with fail
      go_ret
      exact ⟨ao, c', ws, rfl, hown, hW, HK.out, hb⟩
end Go.Proofs.YtnhdgellckcnbaaDoor.Gt
