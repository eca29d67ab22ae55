import Derived.Test.YthndpbjplcphpaaDoorQ17d1a4c9
set_option maxRecDepth 100000
set_option maxHeartbeats 2000000
namespace Go.Proofs.YthndpbjplcphpaaDoor.Lay
open Go.RowKit Go.Shelf Go.Proofs.YthndpbjplcphpaaDoor.Oct Go.Proofs.YthndpbjplcphpaaDoor.Tok Go.Proofs.YthndpbjplcphpaaDoor.Gt Go.Proofs.YthndpbjplcphpaaDoor.Cir
theorem cn_memF (z : Int) : ∀ (l : List (Nat × COp)) (s : (Int -> Bool) × List Int), z ∈ (l.foldl (fun s p => if hit s.1 p.2 then (fun x => s.1 x || decide (x ∈ wr p.2), s.2 ++ [(p.1 : Int)]) else s) s).2 -> z ∈ s.2 ∨ ∃ p ∈ l, z = (p.1 : Int)
  | [], s, h => .inl h
  | p :: l, s, h => by
    rw [List.foldl_cons] at h
    rcases cn_memF z l _ h with h1 | ⟨p', h1, h2⟩
    . split at h1
      . rcases List.mem_append.1 h1 with h1 | h1
        . exact .inl h1
        . exact .inr ⟨p, List.mem_cons_self .., List.mem_singleton.1 h1⟩
      . exact .inl h1
    . exact .inr ⟨p', List.mem_cons_of_mem _ h1, h2⟩
theorem cnR_rng {c : Circ} {l : List Int} (h : asE c l = 0) : ∀ z ∈ cnR c l true, 0 <= z /\ z < (c.ops.length : Int) := by
  intro z hz
  unfold cnR at hz
  rw [if_pos h, if_pos rfl, List.mem_reverse] at hz
  rcases cn_memF z _ _ hz with h1 | ⟨p, h1, h2⟩
  . cases h1
  . obtain ⟨i, hi, rfl⟩ := List.mem_map.1 h1
    rw [List.mem_reverse, List.mem_range] at hi
    rw [h2]
    exact ⟨by simp, by simp only; omega⟩
theorem as_ok {c : Circ} {l : List Int} (h : asE c l = 0) : okC c = true := by
  unfold asE at h
  split at h
  . cases h
  . rename_i h1
    unfold okC
    simpa using h1
theorem cnR_len {c : Circ} {l : List Int} (h : asE c l = 0) : (cnR c l true).length <= 4096 := by
  have h1 := (ok_wk (as_ok h)).2
  unfold cnR
  rw [if_pos h, if_pos rfl, List.length_reverse]
  have := cn_len (asM c l) (((List.range c.ops.length).reverse).map fun i => (i, oa c.ops i))
  rw [List.length_map, List.length_reverse, List.length_range] at this
  omega
def prC (c : Circ) (l : List Int) : Circ := if asE c l = 0 then ⟨c.q, c.b, (cnR c l true).map fun z => oa c.ops z.toNat⟩ else ⟨0, 0, []⟩
theorem pPrune (c : Circ) (l : List Int) (al : Option Addr) (cl : Nat) (hl : l.length <= 1000000000000000) (ao : Option Addr) (k : Nat) (w : World) (hT : Tb w) (hC : Ci w c ao k) (hN : Ns w al l) : Calls Tryd.prog 25 #[cV c ao k, .slice al l.length cl] w fun e w' => ∃ bo j, e = .returned (.tuple #[cV (prC c l) bo j, .int .i64 (asE c l)]) /\ OpsOwn w' w.heap.size bo (prC c l).ops.length j (prC c l).ops /\ Below w.heap.size w w' := by
  obtain ⟨er, her⟩ : ∃ er, asE c l = er := ⟨_, rfl⟩
  obtain ⟨N, hNN⟩ : ∃ N, (cnR c l true).length = N := ⟨_, rfl⟩
  obtain ⟨m, hm⟩ : ∃ m, l.length = m := ⟨_, rfl⟩
  have c1 : Hid (∀ V, Below w.heap.size w V -> Calls Tryd.prog 12 #[cV c ao k, .slice al m cl] V fun e V' => ∃ a cc, e = .returned (.tuple #[.slice a N cc, .int .i64 er]) /\ Ns V' a (cnR c l true) /\ Below V.heap.size V V') := hide (fun V h => by
    rw [← hm]
    refine (lPast c ao k l al cl hl V (hT.below h) (hC.below h) (hN.below h)).mono ?_
    rintro e V' ⟨a, cc, rfl, h1, h2⟩
    exact ⟨a, cc, by rw [her, hNN], h1.ns, h2⟩)
  by_cases h0 : er = 0
  . subst h0
    have hok := as_ok her
    have hrng := cnR_rng her (l := l)
    have hlen := cnR_len her (l := l)
    have c2 : Hid (∀ V a cc, Below w.heap.size w V -> Ns V a (cnR c l true) -> Calls Tryd.prog 43 #[cV c ao k, .slice a N cc] V fun e V' => ∃ bo j, e = .returned (.agg #[.int .i64 c.q, .int .i64 c.b, .slice bo N j]) /\ OpsOwn V' V.heap.size bo N j ((cnR c l true).map fun z => oa c.ops z.toNat) /\ Below V.heap.size V V') := hide (fun V a cc h hN2 => by
      have h1 := lPicked c ao k (fun o ho => ((ok_wk hok).1 o ho).1.len) (cnR c l true) a cc hrng hlen V (hC.below h) hN2
      rw [hNN] at h1
      refine h1.mono ?_
      rintro e V' ⟨bo, j, rfl, h2, h3⟩
      refine ⟨bo, j, ?_, h2, h3⟩
      unfold cV
      simp only [List.length_map, hNN])
    have e1 : prC c l = ⟨c.q, c.b, (cnR c l true).map fun z => oa c.ops z.toNat⟩ := by unfold prC; rw [if_pos her]
    rw [e1, her, hm]
    have e2 : ((cnR c l true).map fun z => oa c.ops z.toNat).length = N := by rw [List.length_map]; exact hNN
    obtain ⟨q, b, ops⟩ := c
    unfold cV at *
    simp only at *
    rw [e2]
    generalize (cnR ⟨q, b, ops⟩ l true).map (fun z => oa ops z.toNat) = R at *
    generalize cnR ⟨q, b, ops⟩ l true = L at *
    generalize ops.length = n at *
    clear hC hN her hNN hm e1 e2 hrng hlen hok
    have r0 : ((w.alloc (.cells #[.int .i64 q, .int .i64 b, .slice ao n k] 24)).alloc (.cells #[.int .i64 0, .int .i64 0, .slice none 0 0] 24)).heap[w.heap.size]? = some (.cells #[.int .i64 q, .int .i64 b, .slice ao n k] 24 (0, 0)) := (Below.heap_alloc _ _ _ (by simp)).trans (heap_alloc_new _ _)
    have q0 : ((w.alloc (.cells #[.int .i64 q, .int .i64 b, .slice ao n k] 24)).alloc (.cells #[.int .i64 0, .int .i64 0, .slice none 0 0] 24)).heap[w.heap.size + 1]? = some (.cells #[.int .i64 0, .int .i64 0, .slice none 0 0] 24 (0, 0)) := by
      have := heap_alloc_new (w.alloc (.cells #[.int .i64 q, .int .i64 b, .slice ao n k] 24)) (.cells #[.int .i64 0, .int .i64 0, .slice none 0 0] 24)
      rw [World.size_alloc] at this
      exact this
    have B0 : Below w.heap.size w ((w.alloc (.cells #[.int .i64 q, .int .i64 b, .slice ao n k] 24)).alloc (.cells #[.int .i64 0, .int .i64 0, .slice none 0 0] 24)) := (bnew _ _).trans ((bnew _ _).mono (by simp))
    obtain ⟨x0, x1, x2, x3⟩ := def_cells r0
    go_enter Tryd.func25, Tryd.ntmps25
    go_wp2_with (first
      | (go_at_call 12; refine (c1.out _ B0).mono ?_; rintro e V1 ⟨a1, ca1, rfl, hn1, hb1⟩; have r1 := kq hb1 r0; have q1 := kq hb1 q0; have B1 := B0.trans (hb1.mono B0.size); clear x0 x1 x2 x3; obtain ⟨x0, x1, x2, x3⟩ := def_cells r1)
      | (go_at_call 43; refine (c2.out _ a1 ca1 B1 hn1).mono ?_; rintro e w8 ⟨bo, j, rfl, hO8, hb8⟩; have HZ8 := hide (kq hb8 q1); have HO8 := hide (hO8.base B1.size); have HB8 := hide (B1.trans (hb8.mono B1.size)); clear hO8 hb8)
      | refine wpList_store_row rfl _ _ _ rfl (w.heap.size + 1) _ (by rfl) (by rfl) _ _ HZ8.out (by exact infoC3) (by rfl) (by simp [Value.oneCell']) ?_)
    refine bodyPost_ret (res_ct rfl _ _ (w.heap.size + 1) _ _ _ (.int .i64 0) (by rfl) (by rfl) (setRow_heap _ _ _ _ _ _ HZ8.out) Tryd.underlying24 rfl (by exact infoC3)) rfl ?_
    exact ⟨bo, j, rfl, HO8.out.row HZ8.out (by decide) (by decide) _, Below.row HB8.out _ _ (by omega)⟩
  . have e1 : prC c l = ⟨0, 0, []⟩ := by unfold prC; rw [if_neg (by rw [her]; exact h0)]
    have ez : (er == 0) = false := by simpa using h0
    have ez2 : (er != 0) = true := by simpa using h0
    rw [e1, her, hm]
    obtain ⟨q, b, ops⟩ := c
    unfold cV at *
    simp only at *
    generalize cnR ⟨q, b, ops⟩ l true = L at *
    generalize ops.length = n at *
    clear hC hN her hNN hm e1 h0
    have r0 : ((w.alloc (.cells #[.int .i64 q, .int .i64 b, .slice ao n k] 24)).alloc (.cells #[.int .i64 0, .int .i64 0, .slice none 0 0] 24)).heap[w.heap.size]? = some (.cells #[.int .i64 q, .int .i64 b, .slice ao n k] 24 (0, 0)) := (Below.heap_alloc _ _ _ (by simp)).trans (heap_alloc_new _ _)
    have q0 : ((w.alloc (.cells #[.int .i64 q, .int .i64 b, .slice ao n k] 24)).alloc (.cells #[.int .i64 0, .int .i64 0, .slice none 0 0] 24)).heap[w.heap.size + 1]? = some (.cells #[.int .i64 0, .int .i64 0, .slice none 0 0] 24 (0, 0)) := by
      have := heap_alloc_new (w.alloc (.cells #[.int .i64 q, .int .i64 b, .slice ao n k] 24)) (.cells #[.int .i64 0, .int .i64 0, .slice none 0 0] 24)
      rw [World.size_alloc] at this
      exact this
    have B0 : Below w.heap.size w ((w.alloc (.cells #[.int .i64 q, .int .i64 b, .slice ao n k] 24)).alloc (.cells #[.int .i64 0, .int .i64 0, .slice none 0 0] 24)) := (bnew _ _).trans ((bnew _ _).mono (by simp))
    obtain ⟨x0, x1, x2, x3⟩ := def_cells r0
    go_enter Tryd.func25, Tryd.ntmps25
    go_wp2_with (first
      | (go_at_call 12; refine (c1.out _ B0).mono ?_; rintro e V1 ⟨a1, ca1, rfl, hn1, hb1⟩; have HZ8 := hide (kq hb1 q0); have HB8 := hide (B0.trans (hb1.mono B0.size)); clear x0 x1 x2 x3)
      | refine wpList_store_row rfl _ _ _ rfl (w.heap.size + 1) _ (by rfl) (by rfl) _ _ HZ8.out (by exact infoC3) (by rfl) (by simp [Value.oneCell']) ?_)
    refine bodyPost_ret (res_ct rfl _ _ (w.heap.size + 1) _ _ _ (.int .i64 er) (by rfl) (by rfl) (setRow_heap _ _ _ _ _ _ HZ8.out) Tryd.underlying24 rfl (by exact infoC3)) rfl ?_
    exact ⟨none, 0, rfl, ⟨[], rfl, rfl, World.ownsRow_nil _ _ _ _, fun x hx => (by cases hx), List.Pairwise.nil⟩, Below.row HB8.out _ _ (by omega)⟩
theorem dPrune (c : Circ) (hS : Szs c.ops) (l : List Int) (al : Option Addr) (cl : Nat) (hl : l.length <= 1000000000000000) (ao : Option Addr) (k : Nat) (w : World) (hC : Ci w c ao k) (hN : Ns w al l) : Calls Tryd.prog 26 #[cV c ao k, .slice al l.length cl] w fun e w' => ∃ bo j, e = .returned (.tuple #[cV (prC c l) bo j, .int .i64 (asE c l)]) /\ OW w' w.heap.size bo (prC c l).ops.length j (prC c l).ops /\ Below w.heap.size w w' := by
  obtain ⟨er, her⟩ : ∃ er, asE c l = er := ⟨_, rfl⟩
  obtain ⟨N, hNN⟩ : ∃ N, (cnR c l true).length = N := ⟨_, rfl⟩
  obtain ⟨m, hm⟩ : ∃ m, l.length = m := ⟨_, rfl⟩
  have c1 : Hid (∀ V, Below w.heap.size w V -> Calls Tryd.prog 13 #[cV c ao k, .slice al m cl] V fun e V' => ∃ a cc, e = .returned (.tuple #[.slice a N cc, .int .i64 er]) /\ Ns V' a (cnR c l true) /\ Below V.heap.size V V') := hide (fun V h => by
    rw [← hm]
    refine (dPast c ao k l al cl hl V (hC.below h) (hN.below h)).mono ?_
    rintro e V' ⟨a, cc, rfl, h1, -, h2⟩
    exact ⟨a, cc, by rw [her, hNN], h1, h2⟩)
  by_cases h0 : er = 0
  . subst h0
    have hok := as_ok her
    have hrng := cnR_rng her (l := l)
    have hlen := cnR_len her (l := l)
    have c2 : Hid (∀ V a cc, Below w.heap.size w V -> Ns V a (cnR c l true) -> Calls Tryd.prog 45 #[cV c ao k, .slice a N cc] V fun e V' => ∃ bo j, e = .returned (.agg #[.int .i64 c.q, .int .i64 c.b, .slice bo N j]) /\ OW V' V.heap.size bo N j ((cnR c l true).map fun z => oa c.ops z.toNat) /\ Below V.heap.size V V') := hide (fun V a cc h hN2 => by
      have h1 := dOnly c ao k hS (cnR c l true) a cc hrng hlen V (hC.below h) hN2
      rw [hNN] at h1
      refine h1.mono ?_
      rintro e V' ⟨bo, j, rfl, h2, h3⟩
      refine ⟨bo, j, ?_, h2, h3⟩
      unfold cV
      simp only [List.length_map, hNN])
    have e1 : prC c l = ⟨c.q, c.b, (cnR c l true).map fun z => oa c.ops z.toNat⟩ := by unfold prC; rw [if_pos her]
    rw [e1, her, hm]
    have e2 : ((cnR c l true).map fun z => oa c.ops z.toNat).length = N := by rw [List.length_map]; exact hNN
    obtain ⟨q, b, ops⟩ := c
    unfold cV at *
    simp only at *
    rw [e2]
    generalize (cnR ⟨q, b, ops⟩ l true).map (fun z => oa ops z.toNat) = R at *
    generalize cnR ⟨q, b, ops⟩ l true = L at *
    generalize ops.length = n at *
    clear hC hN her hNN hm e1 e2 hrng hlen hok
    have r0 : ((w.alloc (.cells #[.int .i64 q, .int .i64 b, .slice ao n k] 24)).alloc (.cells #[.int .i64 0, .int .i64 0, .slice none 0 0] 24)).heap[w.heap.size]? = some (.cells #[.int .i64 q, .int .i64 b, .slice ao n k] 24 (0, 0)) := (Below.heap_alloc _ _ _ (by simp)).trans (heap_alloc_new _ _)
    have q0 : ((w.alloc (.cells #[.int .i64 q, .int .i64 b, .slice ao n k] 24)).alloc (.cells #[.int .i64 0, .int .i64 0, .slice none 0 0] 24)).heap[w.heap.size + 1]? = some (.cells #[.int .i64 0, .int .i64 0, .slice none 0 0] 24 (0, 0)) := by
      have := heap_alloc_new (w.alloc (.cells #[.int .i64 q, .int .i64 b, .slice ao n k] 24)) (.cells #[.int .i64 0, .int .i64 0, .slice none 0 0] 24)
      rw [World.size_alloc] at this
      exact this
    have B0 : Below w.heap.size w ((w.alloc (.cells #[.int .i64 q, .int .i64 b, .slice ao n k] 24)).alloc (.cells #[.int .i64 0, .int .i64 0, .slice none 0 0] 24)) := (bnew _ _).trans ((bnew _ _).mono (by simp))
    obtain ⟨x0, x1, x2, x3⟩ := def_cells r0
    go_enter Tryd.func26, Tryd.ntmps26
    go_wp2_with (first
      | (go_at_call 13; refine (c1.out _ B0).mono ?_; rintro e V1 ⟨a1, ca1, rfl, hn1, hb1⟩; have r1 := kq hb1 r0; have q1 := kq hb1 q0; have B1 := B0.trans (hb1.mono B0.size); clear x0 x1 x2 x3; obtain ⟨x0, x1, x2, x3⟩ := def_cells r1)
      | (go_at_call 45; refine (c2.out _ a1 ca1 B1 hn1).mono ?_; rintro e w8 ⟨bo, j, rfl, hO8, hb8⟩; have HZ8 := hide (kq hb8 q1); have HO8 := hide (hO8.base B1.size); have HB8 := hide (B1.trans (hb8.mono B1.size)); clear hO8 hb8)
      | refine wpList_store_row rfl _ _ _ rfl (w.heap.size + 1) _ (by rfl) (by rfl) _ _ HZ8.out (by exact infoC3) (by rfl) (by simp [Value.oneCell']) ?_)
    refine bodyPost_ret (res_ct rfl _ _ (w.heap.size + 1) _ _ _ (.int .i64 0) (by rfl) (by rfl) (setRow_heap _ _ _ _ _ _ HZ8.out) Tryd.underlying24 rfl (by exact infoC3)) rfl ?_
    exact ⟨bo, j, rfl, HO8.out.row HZ8.out (by decide) (by decide) _, Below.row HB8.out _ _ (by omega)⟩
  . have e1 : prC c l = ⟨0, 0, []⟩ := by unfold prC; rw [if_neg (by rw [her]; exact h0)]
    have ez : (er == 0) = false := by simpa using h0
    have ez2 : (er != 0) = true := by simpa using h0
    rw [e1, her, hm]
    obtain ⟨q, b, ops⟩ := c
    unfold cV at *
    simp only at *
    generalize cnR ⟨q, b, ops⟩ l true = L at *
    generalize ops.length = n at *
    clear hC hN her hNN hm e1 h0
    have r0 : ((w.alloc (.cells #[.int .i64 q, .int .i64 b, .slice ao n k] 24)).alloc (.cells #[.int .i64 0, .int .i64 0, .slice none 0 0] 24)).heap[w.heap.size]? = some (.cells #[.int .i64 q, .int .i64 b, .slice ao n k] 24 (0, 0)) := (Below.heap_alloc _ _ _ (by simp)).trans (heap_alloc_new _ _)
    have q0 : ((w.alloc (.cells #[.int .i64 q, .int .i64 b, .slice ao n k] 24)).alloc (.cells #[.int .i64 0, .int .i64 0, .slice none 0 0] 24)).heap[w.heap.size + 1]? = some (.cells #[.int .i64 0, .int .i64 0, .slice none 0 0] 24 (0, 0)) := by
      have := heap_alloc_new (w.alloc (.cells #[.int .i64 q, .int .i64 b, .slice ao n k] 24)) (.cells #[.int .i64 0, .int .i64 0, .slice none 0 0] 24)
      rw [World.size_alloc] at this
      exact this
    have B0 : Below w.heap.size w ((w.alloc (.cells #[.int .i64 q, .int .i64 b, .slice ao n k] 24)).alloc (.cells #[.int .i64 0, .int .i64 0, .slice none 0 0] 24)) := (bnew _ _).trans ((bnew _ _).mono (by simp))
    obtain ⟨x0, x1, x2, x3⟩ := def_cells r0
    go_enter Tryd.func26, Tryd.ntmps26
    go_wp2_with (first
      | (go_at_call 13; refine (c1.out _ B0).mono ?_; rintro e V1 ⟨a1, ca1, rfl, hn1, hb1⟩; have HZ8 := hide (kq hb1 q0); have HB8 := hide (B0.trans (hb1.mono B0.size)); clear x0 x1 x2 x3)
      | refine wpList_store_row rfl _ _ _ rfl (w.heap.size + 1) _ (by rfl) (by rfl) _ _ HZ8.out (by exact infoC3) (by rfl) (by simp [Value.oneCell']) ?_)
    refine bodyPost_ret (res_ct rfl _ _ (w.heap.size + 1) _ _ _ (.int .i64 er) (by rfl) (by rfl) (setRow_heap _ _ _ _ _ _ HZ8.out) Tryd.underlying24 rfl (by exact infoC3)) rfl ?_
    exact ⟨none, 0, rfl, ⟨[], rfl, rfl, World.ownsRow_nil _ _ _ _, fun x hx => (by cases hx)⟩, Below.row HB8.out _ _ (by omega)⟩
theorem pSortedNo (c : Circ) (hok : okC c = false) (ao : Option Addr) (k : Nat) (w : World) (hT : Tb w) (hC : Ci w c ao k) : Calls Tryd.prog 23 #[cV c ao k] w fun e w' => e = .returned (.tuple #[.agg #[.int .i64 0, .int .i64 0, .slice none 0 0], .int .i64 80]) /\ Below w.heap.size w w' := by
  have c1 := fun V (h : Below w.heap.size w V) => cCheck c ao k V (hT.below h) (hC.below h)
  have h0 : (chkC c).2 = 80 := by
    have h2 := chk_two c
    unfold okC at hok
    rcases h2 with h2 | h2
    . rw [h2] at hok; cases hok
    . exact h2
  rw [h0] at c1
  obtain ⟨q, b, ops⟩ := c
  unfold cV at *
  simp only at *
  generalize (chkC ⟨q, b, ops⟩).1 = z1 at *
  generalize ops.length = n at *
  clear hC hT h0 hok
  have r0 : ((w.alloc (.cells #[.int .i64 q, .int .i64 b, .slice ao n k] 24)).alloc (.cells #[.int .i64 0, .int .i64 0, .slice none 0 0] 24)).heap[w.heap.size]? = some (.cells #[.int .i64 q, .int .i64 b, .slice ao n k] 24 (0, 0)) := (Below.heap_alloc _ _ _ (by simp)).trans (heap_alloc_new _ _)
  have q0 : ((w.alloc (.cells #[.int .i64 q, .int .i64 b, .slice ao n k] 24)).alloc (.cells #[.int .i64 0, .int .i64 0, .slice none 0 0] 24)).heap[w.heap.size + 1]? = some (.cells #[.int .i64 0, .int .i64 0, .slice none 0 0] 24 (0, 0)) := by
    have := heap_alloc_new (w.alloc (.cells #[.int .i64 q, .int .i64 b, .slice ao n k] 24)) (.cells #[.int .i64 0, .int .i64 0, .slice none 0 0] 24)
    rw [World.size_alloc] at this
    exact this
  have B0 : Below w.heap.size w ((w.alloc (.cells #[.int .i64 q, .int .i64 b, .slice ao n k] 24)).alloc (.cells #[.int .i64 0, .int .i64 0, .slice none 0 0] 24)) := (bnew _ _).trans ((bnew _ _).mono (by simp))
  obtain ⟨x0, x1, x2, x3⟩ := def_cells r0
  go_enter Tryd.func23, Tryd.ntmps23
  go_wp2_with (first
    | (go_at_call 29; refine (c1 _ B0).mono ?_; rintro e V1 ⟨rfl, hb1⟩; have HZ8 := hide (kq hb1 q0); have HB8 := hide (B0.trans (hb1.mono B0.size)); clear x0 x1 x2 x3)
    | refine wpList_store_row rfl _ _ _ rfl (w.heap.size + 1) _ (by rfl) (by rfl) _ _ HZ8.out (by exact infoC3) (by rfl) (by simp [Value.oneCell']) ?_)
  refine bodyPost_ret (res_ct rfl _ _ (w.heap.size + 1) _ _ _ (.int .i64 80) (by rfl) (by rfl) (setRow_heap _ _ _ _ _ _ HZ8.out) Tryd.underlying24 rfl (by exact infoC3)) rfl ?_
  exact ⟨rfl, Below.row HB8.out _ _ (by omega)⟩
theorem dSortedNo (c : Circ) (hok : okC c = false) (ao : Option Addr) (k : Nat) (w : World) (hC : Ci w c ao k) : Calls Tryd.prog 24 #[cV c ao k] w fun e w' => e = .returned (.tuple #[.agg #[.int .i64 0, .int .i64 0, .slice none 0 0], .int .i64 80]) /\ Below w.heap.size w w' := by
  obtain ⟨f, hE⟩ := ev_exists c.ops
  have er : erC c = 80 := by unfold erC; rw [hok]; rfl
  have c1 : Hid (∀ V, Below w.heap.size w V -> Calls Tryd.prog 8 #[cV c ao k] V fun e V' => ∃ a cc, e = .returned (.tuple #[.slice a 0 cc, .int .i64 80]) /\ Below V.heap.size V V') := hide (fun V h => by
    refine (dEarly c f hE ao k V (hC.below h)).mono ?_
    rintro e V' ⟨a, cc, rfl, -, -, h2⟩
    exact ⟨a, cc, by rw [er]; unfold rwC; rw [hok]; rfl, h2⟩)
  have c2 : Hid (∀ V, Below w.heap.size w V -> Calls Tryd.prog 17 #[cV c ao k] V fun e V' => e = .returned (.tuple #[.int .i64 0, .int .i64 80]) /\ Below V.heap.size V V') := hide (fun V h => by
    refine (dDepth c f hE ao k V (hC.below h)).mono ?_
    rintro e V' ⟨rfl, h2⟩
    exact ⟨by rw [er, hok]; rfl, h2⟩)
  obtain ⟨q, b, ops⟩ := c
  unfold cV at *
  simp only at *
  generalize ops.length = n at *
  clear hC hE er hok
  have r0 : ((w.alloc (.cells #[.int .i64 q, .int .i64 b, .slice ao n k] 24)).alloc (.cells #[.int .i64 0, .int .i64 0, .slice none 0 0] 24)).heap[w.heap.size]? = some (.cells #[.int .i64 q, .int .i64 b, .slice ao n k] 24 (0, 0)) := (Below.heap_alloc _ _ _ (by simp)).trans (heap_alloc_new _ _)
  have q0 : ((w.alloc (.cells #[.int .i64 q, .int .i64 b, .slice ao n k] 24)).alloc (.cells #[.int .i64 0, .int .i64 0, .slice none 0 0] 24)).heap[w.heap.size + 1]? = some (.cells #[.int .i64 0, .int .i64 0, .slice none 0 0] 24 (0, 0)) := by
    have := heap_alloc_new (w.alloc (.cells #[.int .i64 q, .int .i64 b, .slice ao n k] 24)) (.cells #[.int .i64 0, .int .i64 0, .slice none 0 0] 24)
    rw [World.size_alloc] at this
    exact this
  have B0 : Below w.heap.size w ((w.alloc (.cells #[.int .i64 q, .int .i64 b, .slice ao n k] 24)).alloc (.cells #[.int .i64 0, .int .i64 0, .slice none 0 0] 24)) := (bnew _ _).trans ((bnew _ _).mono (by simp))
  obtain ⟨x0, x1, x2, x3⟩ := def_cells r0
  go_enter Tryd.func24, Tryd.ntmps24
  go_wp2_with (first
    | (first | (go_at_call 8; refine (c1.out _ B0).mono ?_; rintro e V1 ⟨a1, ca1, rfl, hb1⟩; have r1 := kq hb1 r0; have q1 := kq hb1 q0; have B1 := B0.trans (hb1.mono B0.size); clear x0 x1 x2 x3; obtain ⟨x0, x1, x2, x3⟩ := def_cells r1) | (go_at_call 17; refine (c2.out _ B1).mono ?_; rintro e V2 ⟨rfl, hb2⟩; have HZ8 := hide (kq hb2 q1); have HB8 := hide (B1.trans (hb2.mono B1.size)); clear x0 x1 x2 x3))
    | refine wpList_store_row rfl _ _ _ rfl (w.heap.size + 1) _ (by rfl) (by rfl) _ _ HZ8.out (by exact infoC3) (by rfl) (by simp [Value.oneCell']) ?_)
  refine bodyPost_ret (res_ct rfl _ _ (w.heap.size + 1) _ _ _ (.int .i64 80) (by rfl) (by rfl) (setRow_heap _ _ _ _ _ _ HZ8.out) Tryd.underlying24 rfl (by exact infoC3)) rfl ?_
  exact ⟨rfl, Below.row HB8.out _ _ (by omega)⟩
theorem dMomentsNo (c : Circ) (hok : okC c = false) (ao : Option Addr) (k : Nat) (w : World) (hC : Ci w c ao k) : Calls Tryd.prog 22 #[cV c ao k] w fun e w' => e = .returned (.tuple #[.slice none 0 0, .int .i64 80]) /\ Below w.heap.size w w' := by
  obtain ⟨f, hE⟩ := ev_exists c.ops
  have er : erC c = 80 := by unfold erC; rw [hok]; rfl
  have c1 : Hid (∀ V, Below w.heap.size w V -> Calls Tryd.prog 8 #[cV c ao k] V fun e V' => ∃ a cc, e = .returned (.tuple #[.slice a 0 cc, .int .i64 80]) /\ Below V.heap.size V V') := hide (fun V h => by
    refine (dEarly c f hE ao k V (hC.below h)).mono ?_
    rintro e V' ⟨a, cc, rfl, -, -, h2⟩
    exact ⟨a, cc, by rw [er]; unfold rwC; rw [hok]; rfl, h2⟩)
  have c2 : Hid (∀ V, Below w.heap.size w V -> Calls Tryd.prog 17 #[cV c ao k] V fun e V' => e = .returned (.tuple #[.int .i64 0, .int .i64 80]) /\ Below V.heap.size V V') := hide (fun V h => by
    refine (dDepth c f hE ao k V (hC.below h)).mono ?_
    rintro e V' ⟨rfl, h2⟩
    exact ⟨by rw [er, hok]; rfl, h2⟩)
  obtain ⟨q, b, ops⟩ := c
  unfold cV at *
  simp only at *
  generalize ops.length = n at *
  clear hC hE er hok
  have r0 := heap_alloc_new w (.cells #[.int .i64 q, .int .i64 b, .slice ao n k] 24)
  have B0 := bnew w (.cells #[.int .i64 q, .int .i64 b, .slice ao n k] 24)
  obtain ⟨x0, x1, x2, x3⟩ := def_cells r0
  go_enter Tryd.func22, Tryd.ntmps22
  go_wp2_with (first | (go_at_call 8; refine (c1.out _ B0).mono ?_; rintro e V1 ⟨a1, ca1, rfl, hb1⟩; have r1 := kq hb1 r0; have B1 := B0.trans (hb1.mono B0.size); clear x0 x1 x2 x3; obtain ⟨x0, x1, x2, x3⟩ := def_cells r1) | (go_at_call 17; refine (c2.out _ B1).mono ?_; rintro e V2 ⟨rfl, hb2⟩; have HB8 := hide (B1.trans (hb2.mono B1.size)); clear x0 x1 x2 x3))
  go_ret2
  exact ⟨rfl, HB8.out⟩
theorem sub_len : ∀ (l1 l2 : List Nat), l1.Nodup -> (∀ x ∈ l1, x ∈ l2) -> l1.length <= l2.length
  | [], _, _, _ => Nat.zero_le _
  | a :: l1, l2, h, hs => by
    rw [List.nodup_cons] at h
    have h1 := sub_len l1 (l2.erase a) h.2 (fun x hx => (List.mem_erase_of_ne (fun (e : x = a) => h.1 (by rw [← e]; exact hx))).2 (hs x (List.mem_cons_of_mem _ hx)))
    have h2 := hs a (List.mem_cons_self ..)
    rw [List.length_erase_of_mem h2] at h1
    have := List.length_pos_of_mem h2
    rw [List.length_cons]
    omega
theorem ord_ol {ops : List COp} {f : Nat -> Int} {n D : Nat} (hr : ∀ i, i < n -> 0 <= f i /\ f i <= (D : Int)) : Ord n (ol ops f n (D + 1)) /\ SB ops f (ol ops f n (D + 1)) := by
  have pw : (ol ops f n (D + 1)).Pairwise (AH ops f) := ol_pw _
  have nd : (ol ops f n (D + 1)).Nodup := List.nodup_iff_pairwise_ne.2 (pw.imp (fun {a b} hab (e : a = b) => by subst e; exact ah_irr hab))
  have lt : ∀ i ∈ ol ops f n (D + 1), i < n := fun i hi => ((ol_mem _).1 hi).1
  have all : ∀ i, i < n -> i ∈ ol ops f n (D + 1) := fun i hi => (ol_mem _).2 ⟨hi, (hr i hi).1, by have := (hr i hi).2; omega⟩
  refine ⟨⟨Nat.le_antisymm (nd_le n _ nd lt) ?_, lt, all, nd⟩, fun s t a b hst ha hb => ?_⟩
  . have := sub_len (List.range n) (ol ops f n (D + 1)) List.nodup_range (fun x hx => all x (List.mem_range.1 hx))
    rw [List.length_range] at this
    exact this
  . obtain ⟨h1, e1⟩ := List.getElem?_eq_some_iff.1 ha
    obtain ⟨h2, e2⟩ := List.getElem?_eq_some_iff.1 hb
    have := List.pairwise_iff_getElem.1 pw s t h1 h2 hst
    rw [e1, e2] at this
    exact this
def mD (c : Circ) (f : Nat -> Int) : Nat := if okC c then (gr f c.ops.length).toNat else 0
def stC (c : Circ) (f : Nat -> Int) : Circ := if okC c then ⟨c.q, c.b, (ol c.ops f c.ops.length (mD c f + 1)).map (oa c.ops)⟩ else ⟨0, 0, []⟩
theorem ev_mD {c : Circ} {f : Nat -> Int} (hE : EV c.ops f) (hok : okC c = true) : ∀ i, i < c.ops.length -> 0 <= f i /\ f i <= ((mD c f : Nat) : Int) := by
  intro i hi
  have h1 := ev_rng hE i hi
  have h2 := gr_ge (f := f) _ i hi
  unfold mD
  rw [if_pos hok]
  omega
theorem uMomP (c : Circ) (f : Nat -> Int) (hE : EV c.ops f) (ao : Option Addr) (k : Nat) (w : World) (hT : Tb w) (hC : Ci w c ao k) : Calls Tryd.prog 21 #[cV c ao k] w fun e w' => ∃ mo mj, e = .returned (.tuple #[.slice mo (mD c f) mj, .int .i64 (erC c)]) /\ (mD c f = 0 ∨ ∃ gT vs, mo = some ⟨gT, 0, none⟩ /\ w.heap.size <= gT /\ MR w' gT (mD c f) (fun d => mr c.ops f d c.ops.length) vs) /\ Below w.heap.size w w' := by
  cases hok : okC c with
  | true =>
    have e1 : mD c f = (gr f c.ops.length).toNat := by unfold mD; rw [if_pos hok]
    refine (pMomentsA c f hE hok ao k w hT hC).mono ?_
    rintro e w' ⟨gT, vs, rfl, h1, h2, h3⟩
    rw [e1]
    exact ⟨some ⟨gT, 0, none⟩, _, by unfold erC; rw [hok]; rfl, .inr ⟨gT, vs, rfl, h1, h2⟩, h3⟩
  | false =>
    have e1 : mD c f = 0 := by unfold mD; rw [hok]; rfl
    refine (pMomentsNo c hok ao k w hT hC).mono ?_
    rintro e w' ⟨rfl, h3⟩
    rw [e1]
    exact ⟨none, 0, by unfold erC; rw [hok]; rfl, .inl rfl, h3⟩
theorem uMomD (c : Circ) (f : Nat -> Int) (hE : EV c.ops f) (ao : Option Addr) (k : Nat) (w : World) (hC : Ci w c ao k) : Calls Tryd.prog 22 #[cV c ao k] w fun e w' => ∃ bo cb, e = .returned (.tuple #[.slice bo (mD c f) cb, .int .i64 (erC c)]) /\ (mD c f = 0 ∨ ∃ vs, DR w' w.heap.size (mD c f) (fun d => mr c.ops f d c.ops.length) bo cb vs) /\ Below w.heap.size w w' := by
  cases hok : okC c with
  | true =>
    have e1 : mD c f = (gr f c.ops.length).toNat := by unfold mD; rw [if_pos hok]
    refine (dMoments c f hE hok ao k w hC).mono ?_
    rintro e w' ⟨bo, cb, vs, rfl, h1, h3⟩
    rw [e1]
    exact ⟨bo, cb, by unfold erC; rw [hok]; rfl, .inr ⟨vs, h1⟩, h3⟩
  | false =>
    have e1 : mD c f = 0 := by unfold mD; rw [hok]; rfl
    refine (dMomentsNo c hok ao k w hC).mono ?_
    rintro e w' ⟨rfl, h3⟩
    rw [e1]
    exact ⟨none, 0, by unfold erC; rw [hok]; rfl, .inl rfl, h3⟩
theorem uSoP (c : Circ) (f : Nat -> Int) (hE : EV c.ops f) (ao : Option Addr) (k : Nat) (w : World) (hT : Tb w) (hC : Ci w c ao k) : Calls Tryd.prog 23 #[cV c ao k] w fun e w' => ∃ so sj, e = .returned (.tuple #[cV (stC c f) so sj, .int .i64 (erC c)]) /\ OpsOwn w' w.heap.size so (stC c f).ops.length sj (stC c f).ops /\ Below w.heap.size w w' := by
  cases hok : okC c with
  | true =>
    refine (pSortedA c f hE hok _ rfl ao k w hT hC).mono ?_
    rintro e w' ⟨bo, j, p, rfl, h1, h2, h3, h4⟩
    have e1 : stC c f = ⟨c.q, c.b, p.map (oa c.ops)⟩ := by
      unfold stC
      rw [if_pos hok, ol_eq h1 h2 (ev_mD hE hok)]
    rw [e1]
    unfold cV
    simp only [List.length_map, h1.len]
    exact ⟨bo, j, by unfold erC; rw [hok]; rfl, h3, h4⟩
  | false =>
    have e1 : stC c f = ⟨0, 0, []⟩ := by unfold stC; rw [hok]; rfl
    refine (pSortedNo c hok ao k w hT hC).mono ?_
    rintro e w' ⟨rfl, h3⟩
    rw [e1]
    exact ⟨none, 0, by unfold erC; rw [hok]; rfl, ⟨[], rfl, rfl, World.ownsRow_nil _ _ _ _, fun x hx => (by cases hx), List.Pairwise.nil⟩, h3⟩
theorem uSoD (c : Circ) (f : Nat -> Int) (hE : EV c.ops f) (hS : Szs c.ops) (ao : Option Addr) (k : Nat) (w : World) (hC : Ci w c ao k) : Calls Tryd.prog 24 #[cV c ao k] w fun e w' => ∃ so sj, e = .returned (.tuple #[cV (stC c f) so sj, .int .i64 (erC c)]) /\ OW w' w.heap.size so (stC c f).ops.length sj (stC c f).ops /\ Below w.heap.size w w' := by
  cases hok : okC c with
  | true =>
    have ho := ord_ol (ops := c.ops) (ev_mD hE hok)
    have e1 : stC c f = ⟨c.q, c.b, (ol c.ops f c.ops.length (mD c f + 1)).map (oa c.ops)⟩ := by unfold stC; rw [if_pos hok]
    refine (dSorted c f hE hok hS _ ho.1 ho.2 ao k w hC).mono ?_
    rintro e w' ⟨bo, j, rfl, h3, h4⟩
    rw [e1]
    unfold cV
    simp only [List.length_map, ho.1.len]
    exact ⟨bo, j, by unfold erC; rw [hok]; rfl, h3, h4⟩
  | false =>
    have e1 : stC c f = ⟨0, 0, []⟩ := by unfold stC; rw [hok]; rfl
    refine (dSortedNo c hok ao k w hC).mono ?_
    rintro e w' ⟨rfl, h3⟩
    rw [e1]
    exact ⟨none, 0, by unfold erC; rw [hok]; rfl, ⟨[], rfl, rfl, World.ownsRow_nil _ _ _ _, fun x hx => (by cases hx)⟩, h3⟩
theorem szs_st {c : Circ} {f : Nat -> Int} (hE : EV c.ops f) (hS : Szs c.ops) : Szs (stC c f).ops := by
  unfold stC
  split
  . rename_i hok
    have ho := ord_ol (ops := c.ops) (ev_mD hE hok)
    refine ⟨?_, fun o hoo => ?_⟩
    . simp only [List.length_map, ho.1.len]
      exact hS.1
    . obtain ⟨i, hi, rfl⟩ := List.mem_map.1 hoo
      exact hS.2 _ (List.mem_of_getElem? (oa_some (ho.1.lt i hi)))
  . exact ⟨Nat.zero_le _, fun o ho => by cases ho⟩
theorem szs_pr {c : Circ} {l : List Int} (hS : Szs c.ops) : Szs (prC c l).ops := by
  unfold prC
  split
  . rename_i h
    refine ⟨?_, fun o hoo => ?_⟩
    . simp only [List.length_map]
      have := cnR_len h
      omega
    . obtain ⟨z, hz, rfl⟩ := List.mem_map.1 hoo
      have := cnR_rng h z hz
      exact hS.2 _ (List.mem_of_getElem? (oa_some (show z.toNat < c.ops.length by omega)))
  . exact ⟨Nat.zero_le _, fun o ho => by cases ho⟩
theorem OW.ci {V : World} {B : Nat} {c : Circ} {bo : Option Addr} {j : Nat} (hS : Szs c.ops) (h : OW V B bo c.ops.length j c.ops) : Ci V c bo j := by
  obtain ⟨h1, h2⟩ := h.rd
  exact ⟨h1, h2, Nat.le_trans hS.1 (by decide), fun o ho => Nat.le_trans (hS.2 o ho) (by decide)⟩
structure LT (W : World) (i D : Nat) (L : Nat -> List Int) (gT : Nat) (vs : Nat -> RV) (B2 : Nat) (bo : Option Addr) (cb : Nat) (vs2 : Nat -> RV) : Prop where
  rk : Rk W gT 25 D (fun d => (vs d).v)
  row : ∀ d, i <= d -> d < D -> W.ownsRow gT 3 1 (.slice (vs d).1 (L d).length (vs d).2.2.1) (L d).length ((L d).map (Value.int .i64)) /\ (vs d).2.1 = (L d).length
  blk : ∀ d, d < D -> ∀ g, ob (vs d).1 = some g -> gT <= g /\ g < B2 /\ g ≠ gT
  apart : ∀ d e, d < D -> e < D -> d ≠ e -> ∀ g, ob (vs d).1 = some g -> ob (vs e).1 ≠ some g
  dr : DR W B2 D L bo cb vs2
theorem LT.step {W W' : World} {i D : Nat} {L : Nat -> List Int} {gT : Nat} {vs : Nat -> RV} {B2 : Nat} {bo : Option Addr} {cb : Nat} {vs2 : Nat -> RV} (h : LT W i D L gT vs B2 bo cb vs2) (hi : i < D) (hg : W.grownBy W' (ob (vs i).1)) : LT W' (i + 1) D L gT vs B2 bo cb vs2 := by
  refine ⟨h.rk.of_block (hg.block _ h.rk.lt (fun e => (h.blk i hi gT e.symm).2.2 rfl)), fun d h1 h2 => ?_, h.blk, h.apart, ?_, fun e he => ?_⟩
  . have hr := h.row d (by omega) h2
    exact ⟨own_of_block hr.1 fun kk hk => hg.block kk (own_lt hr.1 kk hk).2 (fun e => h.apart d i h2 hi (by omega) kk hk e.symm), hr.2⟩
  . exact own_of_block h.dr.own fun kk hk => hg.block kk (own_lt h.dr.own kk hk).2 (fun e => by
      have h1 := (own_lt h.dr.own kk hk).1
      have h2 := (h.blk i hi kk e.symm).2.1
      omega)
  . have hr := h.dr.rows e he
    exact ⟨own_of_block hr.1 fun kk hk => hg.block kk (own_lt hr.1 kk hk).2 (fun e2 => by
      have h1 := (own_lt hr.1 kk hk).1
      have h2 := (h.blk i hi kk e2.symm).2.1
      omega), hr.2⟩
theorem lt_of {V2 W : World} {D : Nat} {L : Nat -> List Int} {gT : Nat} {vs : Nat -> RV} {bo : Option Addr} {cb : Nat} {vs2 : Nat -> RV} (hm : MR V2 gT D L vs) (hb : Below V2.heap.size V2 W) (hd : DR W V2.heap.size D L bo cb vs2) : LT W 0 D L gT vs V2.heap.size bo cb vs2 := by
  refine ⟨hm.rk.below hb, fun d _ h2 => ?_, fun d hd g hg => ?_, hm.rs.apart, hd⟩
  . have e := hm.eq d h2
    have hr := hm.rs.own d h2
    rw [e.1, e.2] at hr
    exact ⟨own_of_block hr fun kk hk => hb.block kk (own_lt hr kk hk).2, e.2⟩
  . have hr := own_lt (hm.rs.own d hd) g hg
    exact ⟨hr.1, hr.2, fun e => own_rkr (hm.rs.own d hd) hm.rk (by rw [← e]; exact hg)⟩
end Go.Proofs.YthndpbjplcphpaaDoor.Lay
