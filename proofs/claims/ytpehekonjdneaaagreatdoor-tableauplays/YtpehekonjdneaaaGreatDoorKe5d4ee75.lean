import Derived.Test.YtpehekonjdneaaaGreatDoorK05328cc2
import Derived.Test.YtpehekonjdneaaaGreatDoorK2823b5a8
set_option maxRecDepth 100000
namespace Go.Proofs.YtpehekonjdneaaaGreatDoor.Tbl
open Go.ChangeShapes Go.WideShapes Go.ChangeAt Go.RowKit Go.Shelf Go.Proofs.YtpehekonjdneaaaGreatDoor.Pau Go.Proofs.YtpehekonjdneaaaGreatDoor.Gt
structure AC where
  k : Int
  g : Int
  l : List Int
  v : Int
def Ac1 (w : World) (b o : Nat) (x : AC) : Prop := ∃ (lo : Option Addr) (lc : Nat), (w.cell? ⟨b, o, none⟩ = some (.int .i64 x.k) /\ w.cell? ⟨b, o + 1, none⟩ = some (.int .i64 x.g) /\ w.cell? ⟨b, o + 2, none⟩ = some (.slice lo x.l.length lc) /\ w.cell? ⟨b, o + 3, none⟩ = some (.int .i64 x.v)) /\ Ns w lo x.l /\ x.l.length <= lc /\ x.l.length <= 1000000000000000
def AIn (w : World) (ao : Option Addr) (acts : List AC) : Prop := acts = [] ∨ ∃ g off, ao = some ⟨g, off, none⟩ /\ ∀ (i : Nat) x, acts[i]? = some x -> Ac1 w g (off + i * 4) x
theorem Ac1.lt {w : World} {b o : Nat} {x : AC} (h : Ac1 w b o x) : b < w.heap.size := by
  obtain ⟨lo, lc, ⟨h0, -⟩, -⟩ := h
  exact World.block_lt_of_cell? _ _ h0
theorem Ac1.below {w w' : World} {b o : Nat} {x : AC} (h : Ac1 w b o x) (hb : Below w.heap.size w w') : Ac1 w' b o x := by
  have hl := h.lt
  obtain ⟨lo, lc, ⟨h0, h1, h2, h3⟩, hn, hc, hm⟩ := h
  have key : ∀ j, w'.cell? ⟨b, j, none⟩ = w.cell? ⟨b, j, none⟩ := fun j => hb.cell (p := ⟨b, j, none⟩) hl
  exact ⟨lo, lc, ⟨(key _).trans h0, (key _).trans h1, (key _).trans h2, (key _).trans h3⟩, hn.below hb, hc, hm⟩
theorem AIn.below {w w' : World} {ao : Option Addr} {acts : List AC} (h : AIn w ao acts) (hb : Below w.heap.size w w') : AIn w' ao acts := by
  rcases h with h | ⟨g, off, e, h⟩
  . exact .inl h
  . exact .inr ⟨g, off, e, fun i x hx => (h i x hx).below hb⟩
def oA : AC := ⟨0, 0, [], 0⟩
theorem aget_of {l : List AC} {i : Nat} (h : i < l.length) : l[i]? = some (l.getD i oA) := by
  rw [List.getD_eq_getElem?_getD, List.getElem?_eq_getElem h]; rfl
def Sm (t : TT) : Prop := t.s.length <= 64 /\ t.d.length <= 64
theorem sm_zr : Sm zrT := ⟨by decide, by decide⟩
theorem sm_th {t : TT} (h : Sm t) (k : Int) (l : List Int) : Sm (thT t k l) := by unfold Sm thT at *; simpa using h
theorem sm_fc {t : TT} (h : Sm t) (p : P) : Sm (fcT t p) := by unfold Sm fcT at *; simpa [ml_len] using h
theorem sm_fr {t : TT} (h : Sm t) (p : P) : Sm (frR t p).1 := by
  unfold frR
  split
  . exact h
  . split
    . exact sm_zr
    . exact sm_fc h p
theorem sm_pr {t : TT} (h : Sm t) (q v : Int) : Sm (prR t q v).1 := by
  unfold prR
  split
  . split
    . exact sm_fr h _
    . exact sm_zr
  . exact sm_zr
theorem sm_st {t : TT} (h : Sm t) (q v : Int) : Sm (stR t q v).1 := by
  unfold stR
  split
  . split
    . exact sm_pr h q v
    . exact sm_th (sm_pr h q v) _ _
  . exact sm_pr h q v
theorem sm_gt {t : TT} (h : Sm t) (k : Int) (l : List Int) : Sm (gtR t k l).1 := by
  unfold gtR
  split
  . split
    . split
      . exact sm_th h k l
      . exact sm_zr
    . exact sm_zr
  . exact sm_zr
theorem sm_or {t : TT} (h : Sm t) (l : List Int) : Sm (orR t l).1 := by
  unfold orR
  split
  . split
    . unfold Sm odT at *; simpa using h
    . exact sm_zr
  . exact sm_zr
theorem sm_kr (t u : TT) : Sm (krR t u).1 := by
  unfold krR
  split
  . rename_i hh
    split
    . rename_i hle
      obtain ⟨h0, h64, hls, hld⟩ := sz_of (ch_size hh.1)
      obtain ⟨k0, k64, kls, kld⟩ := sz_of (ch_size hh.2)
      refine ⟨?_, ?_⟩
      . show (krL _ _ _).length <= 64; rw [kr_len]; omega
      . show (krL _ _ _).length <= 64; rw [kr_len]; omega
    . exact sm_zr
  . exact sm_zr
theorem sm_nw (n : Int) : Sm (nwR n).1 := by
  unfold nwR
  split
  . rename_i h
    have := new_len n.toNat
    exact ⟨by show (newT n.toNat).s.length <= 64; omega, by show (newT n.toNat).d.length <= 64; omega⟩
  . exact sm_zr
theorem sm_dn {t : TT} (h : Sm t) (k g : Int) (l : List Int) (v : Int) : Sm (dnT t k g l v) := by
  unfold dnT
  split
  . unfold dnR
    split
    . exact sm_gt h _ _
    . split
      . exact sm_pr h _ _
      . split
        . exact sm_st h _ _
        . split
          . exact sm_or h _
          . split
            . exact sm_kr _ _
            . exact h
  . exact h
theorem bytesA14 : Tryz.prog.bytesOf 41 = 48 := by kernel_rfl
section
variable {H : Type} {enc : TypeId × Value -> H} {W : World} {base : Nat} {d : DataW H}
theorem weights_all14 {P : Program} {e : TypeId} : ∀ (l : List (DataW H)) (d : DataW H), d ∈ l -> ∀ n ∈ d.weights P e, n ∈ DataW.weightsAll P e l
  | [], _, h, _, _ => by cases h
  | a :: r, d, h, n, hn => by
    rw [DataW.weightsAll]
    rcases List.mem_cons.1 h with rfl | h
    . exact List.mem_append_left _ hn
    . exact List.mem_append_right _ (weights_all14 r d h n hn)
theorem acts_open {v : Value} {p : List MemPlace} (hval : Value.okWide Tryz.prog W .any base 22 v)
    (h : DataW.Trod enc Tryz.prog W 0 (fun _ => true) true 22 v d p) (hw : ∀ m ∈ d.weights Tryz.prog 22, m <= reachBytes) :
    ∃ (ao : Option Addr) (l : List AC) (c : Nat), v = .slice ao l.length c /\ AIn W ao l /\ l.length <= c /\ l.length <= 1000000000000000 := by
  obtain ⟨a0, len0, cap0, rfl⟩ := okWide_slice Tryz.underlying22 hval
  obtain ⟨fuel, hf⟩ := h
  rcases Go.Deep.open_slice Tryz.underlying22 hf with ⟨hcs, hx⟩ | ⟨a, len, cap, m, n', D, Pl, hcs, _, hl, hm, hmm, hx, hcell⟩
  . have hc : (Value.slice a0 len0 cap0).cells.toList = [Value.slice a0 len0 cap0] := rfl
    rw [hc] at hcs
    cases hcs
    exact ⟨none, [], 0, rfl, .inl rfl, Nat.le_refl _, Nat.zero_le _⟩
  . have hc : (Value.slice a0 len0 cap0).cells.toList = [Value.slice a0 len0 cap0] := rfl
    rw [hc] at hcs
    cases hcs
    simp only [Prod.mk.injEq] at hx
    simp only [if_true] at hmm
    rw [hmm] at hcell hx
    clear hmm
    rw [hx.1] at hw
    have hlen : len0 <= 4398046511104 := by
      have h2 := hw _ (by simp only [DataW.weights, Tryz.underlying22]; exact List.mem_cons_self)
      rw [bytesA14, List.length_map, List.length_range] at h2
      have h4 := reachBytes_lt
      omega
    have hone : ∀ i, ∃ x : AC, i < len0 -> ∃ (lo : Option Addr) (lc : Nat), (∀ j v, ([.int .i64 x.k, .int .i64 x.g, .slice lo x.l.length lc, .int .i64 x.v] : List Value)[j]? = some v -> W.cell? ((a.add (i * 4)).add j) = some v) /\ Ns W lo x.l /\ x.l.length <= lc /\ x.l.length <= 1000000000000000 := by
      intro i
      by_cases hi : i < len0
      . obtain ⟨cs', h1, h2⟩ := hcell i (by omega)
        rw [cellsA14] at h1
        obtain ⟨k, g, x, l, lo, lc, rfl, hn, hr, hwl⟩ := act_of h2
        refine ⟨⟨k, g, l, x⟩, fun _ => ⟨lo, lc, fun j v hv => ?_, hn, hr, hwl (fun m hm => hw m ?_)⟩⟩
        . unfold World.cells? at h1
          rw [if_pos (Nat.zero_le _)] at h1
          have hj : j < 4 := (List.getElem?_eq_some_iff.1 hv).1
          obtain ⟨b, hb1, hb2⟩ := Lib.mapM_at h1 j j (by rw [List.getElem?_range hj])
          rw [hv] at hb1
          cases hb1
          exact hb2
        . simp only [DataW.weights, Tryz.underlying22]
          exact List.mem_cons_of_mem _ (List.mem_append_left _ (weights_all14 _ _ (List.mem_map.2 ⟨i, List.mem_range.2 hi, rfl⟩) m hm))
      . exact ⟨oA, fun h => absurd h hi⟩
    obtain ⟨TA, hTT⟩ := Classical.axiomOfChoice hone
    have hll : ((List.range len0).map TA).length = len0 := by simp
    refine ⟨some a, (List.range len0).map TA, cap0, by rw [hll], ?_, by rw [hll]; omega, by rw [hll]; omega⟩
    by_cases h0 : len0 = 0
    . left
      subst h0
      rfl
    . right
      have key : ∃ g off, a = ⟨g, off, none⟩ := by
        obtain ⟨lo, lc, hc, -⟩ := hTT 0 (by omega)
        have hc0 := hc 0 _ rfl
        obtain ⟨g, off, spot⟩ := a
        have hspot : spot = none := by simpa [Addr.add] using World.cell?_spot hc0
        subst hspot
        exact ⟨g, off, rfl⟩
      obtain ⟨g, off, rfl⟩ := key
      refine ⟨g, off, rfl, fun i x hp => ?_⟩
      rw [List.getElem?_map] at hp
      obtain ⟨j, hj, rfl⟩ := Option.map_eq_some_iff.1 hp
      have hjl : i < len0 := by have := (List.getElem?_eq_some_iff.1 hj).1; simpa using this
      rw [List.getElem?_range hjl] at hj
      cases hj
      obtain ⟨lo, lc, hc, hn, hr, hm2⟩ := hTT i hjl
      have hadd : ∀ j, (((⟨g, off, none⟩ : Addr).add (i * 4)).add j) = ⟨g, off + i * 4 + j, none⟩ := fun j => by rw [Addr.add_lit, Addr.add_lit]
      have c0 := hc 0 _ rfl
      have c1 := hc 1 _ rfl
      have c2 := hc 2 _ rfl
      have c3 := hc 3 _ rfl
      rw [hadd] at c0 c1 c2 c3
      exact ⟨lo, lc, ⟨c0, c1, c2, c3⟩, hn, hr, hm2⟩
end
end Go.Proofs.YtpehekonjdneaaaGreatDoor.Tbl
