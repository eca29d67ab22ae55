import Derived.Test.YtnghfdnlcnocjaaGreatDoorE0f41c879
set_option maxRecDepth 100000
set_option maxHeartbeats 1000000
namespace Go.Proofs.YtnghfdnlcnocjaaGreatDoor.Cir
open Go.RowKit Go.Shelf Go.Proofs.YtnghfdnlcnocjaaGreatDoor.Oct Go.Proofs.YtnghfdnlcnocjaaGreatDoor.Tok Go.Proofs.YtnghfdnlcnocjaaGreatDoor.Gt
attribute [local go_sem] Oper.semAt_some
theorem cEach (a : Ag) (w : World) : Calls Tryz.prog 116 #[agV a] w fun e w' => e = .returned (.func (.func 137) #[] #[.pointer (some ⟨w.heap.size, 0, none⟩)]) /\ w' = w.alloc (.cells #[.int .i64 (a.fr : Int), .int .i64 (a.sz : Int), .bool a.whole] 184) := by
  obtain ⟨fr, sz, wh⟩ := a
  unfold agV
  simp only
  go_enter Tryz.func116, Tryz.ntmps116
  go_wp2_with fail
  go_ret
  exact ⟨rfl, rfl⟩
theorem eEach1 : ∀ args w, (callFunc 137 args).run Tryz.prog w = .ok (.enter 137 args) w := enters_of Tryz.func137 (by kernel_rfl) rfl
theorem cEach1 (l Bs : Nat) (Kp : World -> World -> Prop) (a : Ag) (xs : List N64) (hxs : xs.map (·.1) = eachP a) (h1 : a.fr <= 4398046511104) (hl : a.sz <= 4398046511104) (J Jx : List N64 -> World -> Prop)
    (hY : ∀ pre x W, J pre W -> pre.length < xs.length -> YieldAt Fence.wide (2 - 1) Tryz.prog l #[.int .i64 (x.1 : Int)] W fun e W' =>
      (e = .returned (.bool true) /\ J (pre ++ [x]) W' /\ Kp W W') ∨ (e = .returned (.bool false) /\ Jx (pre ++ [x]) W'))
    (W : World) (hKp : ∀ V V', Kp V V' -> V.heap[Bs]? = some (.cells #[.int .i64 (a.fr : Int), .int .i64 (a.sz : Int), .bool a.whole] 184) -> V'.heap[Bs]? = some (.cells #[.int .i64 (a.fr : Int), .int .i64 (a.sz : Int), .bool a.whole] 184)) (hJa : ∀ pre V o, J pre V -> J pre (V.alloc o)) (hBs : W.heap[Bs]? = some (.cells #[.int .i64 (a.fr : Int), .int .i64 (a.sz : Int), .bool a.whole] 184)) (h0 : J [] W) :
    CallsIn Fence.wide 2 Tryz.prog 137 #[.func (.yield l) #[] #[], .pointer (some ⟨Bs, 0, none⟩)] W fun e W' => (∃ v, e = .returned v) /\
      ((∃ ys, ys = xs /\ J ys W') ∨ (∃ pre, pre <+: xs /\ Jx pre W')) := by
  refine callsIn_of_wp Tryz.func137 rfl trivial ?_ rfl
  simp only [Tryz.ntmps137, List.size_toArray, List.length_cons, List.length_nil, Nat.reduceAdd, Nat.reduceSub, Array.replicate_succ, Array.replicate_zero, List.push_toArray, List.append_toArray, List.nil_append, List.cons_append]
  have hlen : xs.length = a.sz := by
    have := congrArg List.length hxs
    simpa [eachP] using this
  have c1 := fun (k : Nat) (hk : k <= 4398046511104) V => cAt a k h1 hk V
  have HAT : Hid (∀ (k : Nat) (x : N64), xs[k]? = some x -> (x.1 : Int) = (atP k a : Int)) := hide (fun k x hx => by
    have : (xs.map (·.1))[k]? = some x.1 := by rw [List.getElem?_map, hx]; rfl
    rw [hxs] at this
    unfold eachP at this
    rw [List.getElem?_map] at this
    obtain ⟨z, hz, e⟩ := Option.map_eq_some_iff.1 this
    have := (List.getElem?_eq_some_iff.1 hz)
    obtain ⟨hz1, hz2⟩ := this
    simp at hz2
    subst hz2
    rw [← e])
  obtain ⟨fr, sz, wh⟩ := a
  unfold agV at c1
  simp only at c1 hBs hlen hl hKp
  have HN := hide hlen
  rw [hlen] at hY
  clear hlen hxs h1
  have HBX : Hid (∀ V : World, V.heap[Bs]? = some (.cells #[.int .i64 (fr : Int), .int .i64 (sz : Int), .bool wh] 184) -> V.cell? ⟨Bs, 0, none⟩ = some (.int .i64 (fr : Int)) /\ V.cell? ⟨Bs, 1, none⟩ = some (.int .i64 (sz : Int)) /\ V.cell? ⟨Bs, 2, none⟩ = some (.bool wh) /\ Bs < V.heap.size) := hide (fun V hb => ⟨cell_of_row _ _ _ _ _ _ hb, cell_of_row _ _ _ _ _ _ hb, cell_of_row _ _ _ _ _ _ hb, (Array.getElem?_eq_some_iff.1 hb).1⟩)
  obtain ⟨x0, x1, x2, x3⟩ := HBX.out W hBs
  have HBS := hide hBs
  clear hBs
  gi_wp2
  gi_loopw [7] (fun i wr => ∃ k : Nat, k <= sz /\ i = .int .i64 (k : Int) /\ J (xs.take k) wr /\ wr.heap[Bs]? = some (.cells #[.int .i64 (fr : Int), .int .i64 (sz : Int), .bool wh] 184)) (fun i _ => sz - (Go.RowKit.intOf i).toNat)
  case atStart => exact ⟨0, Nat.zero_le _, rfl, h0, HBS.out⟩
  case round =>
    obtain ⟨k, hk, rfl, hJs, hnx⟩ := hrel
    by_cases hlt : k < sz
    . obtain ⟨x, hx⟩ : ∃ x, xs[k]? = some x := ⟨_, List.getElem?_eq_getElem (by rw [HN.out]; exact hlt)⟩
      have hpl : (xs.take k).length < sz := by simp; omega
      have hJs2 := hJa _ _ (.cells #[.int .i64 (fr : Int), .int .i64 (sz : Int), .bool wh] 184) hJs
      have HX2 : Hid ((wr.alloc (.cells #[.int .i64 (fr : Int), .int .i64 (sz : Int), .bool wh] 184)).heap[Bs]? = some (.cells #[.int .i64 (fr : Int), .int .i64 (sz : Int), .bool wh] 184)) := hide ((Below.heap_alloc _ _ _ (Array.getElem?_eq_some_iff.1 hnx).1).trans hnx)
      obtain ⟨fn, tmps, assign, body, hy, hR⟩ := hY _ x _ hJs2 hpl
      have c2 := fun V => c1 k (by omega) V
      have hax := HAT.out k x hx
      rw [← hax] at c2
      have htk : xs.take (k + 1) = xs.take k ++ [x] := by
        rw [List.take_add_one, hx]
        rfl
      have Htk := hide htk
      have hdd : decide ((k : Int) < (sz : Int)) = true := decide_eq_true (by omega)
      obtain ⟨y0, y1, y2, y3⟩ := HBX.out wr hnx
      clear htk hx hax x0 x1 x2 x3 hnx
      gi_wp2_with (refine ⟨trivial, ?_⟩; gi_at_call 115; refine (callsIn_wide.2 (c2 _)).mono ?_; rintro e w' ⟨rfl, rfl⟩)
      refine hR.mono ?_
      rintro e W3 (⟨rfl, hJ3, hk3⟩ | ⟨rfl, hJx3⟩)
      . gi_wp2
        go_roundw
        case rel => exact ⟨k + 1, by omega, by go_num, by rw [Htk.out]; exact hJ3, hKp _ _ hk3 HX2.out⟩
        case measure => simp [Go.RowKit.intOf]; omega
      . gi_wp2
        refine bodyPost_ret (results_none rfl _ _ _) rfl ?_
        exact ⟨⟨_, rfl⟩, .inr ⟨_, by rw [← Htk.out]; exact List.take_prefix _ _, hJx3⟩⟩
    . obtain rfl : sz = k := by omega
      gi_wp2
      go_end0
      refine ⟨⟨_, rfl⟩, .inl ⟨_, rfl, ?_⟩⟩
      rw [List.take_of_length_le (by rw [HN.out]; exact Nat.le_refl _)] at hJs
      exact hJs
theorem each_stopsK (Bs : Nat) (Kp : World -> World -> Prop) (a : Ag) (xs : List N64) (hxs : xs.map (·.1) = eachP a) (h1 : a.fr <= 4398046511104) (hl : a.sz <= 4398046511104) (w : World) (hKp : ∀ V V', Kp V V' -> V.heap[Bs]? = some (.cells #[.int .i64 (a.fr : Int), .int .i64 (a.sz : Int), .bool a.whole] 184) -> V'.heap[Bs]? = some (.cells #[.int .i64 (a.fr : Int), .int .i64 (a.sz : Int), .bool a.whole] 184)) (hBs : w.heap[Bs]? = some (.cells #[.int .i64 (a.fr : Int), .int .i64 (a.sz : Int), .bool a.whole] 184)) :
    SeqStopsK Fence.wide (3 - 1) Tryz.prog 137 #[.pointer (some ⟨Bs, 0, none⟩)] (fun x : N64 => #[.int .i64 (x.1 : Int)]) Kp (fun ys => ys = xs) (fun pre => pre <+: xs) xs.length w := fun l J Jx W hW hJ _ hY h0 =>
  cEach1 l Bs Kp a xs hxs h1 hl J Jx hY W hKp (fun pre V o h => hJ pre V _ none h (World.grownBy_alloc V o none) (fun r e => by cases e)) ((hW.block Bs (Array.getElem?_eq_some_iff.1 hBs).1).trans hBs) h0
end Go.Proofs.YtnghfdnlcnocjaaGreatDoor.Cir
namespace Go.Proofs.YtnghfdnlcnocjaaGreatDoor.Cir
open Go.RowKit Go.Shelf
theorem op_round {P : Program} {o : Oper} {a : Act} {w : World} {K K' : Act -> World -> Prop} {Q : Exit -> Act -> World -> Prop} {n l : Nat} (hd : ∀ c, o.op ≠ .defer c) (hK : ∀ a w, K a w -> K' a w) (h : o.wp P a w K Q) : o.wpIn (Fence.wide.inRound l) n P a w K' Q := by
  refine ⟨fun _ _ => trivial, ?_⟩
  rw [show (Fence.wide.inRound l).round = some l from rfl, Oper.semAt_some l _ _ hd]
  unfold Oper.wp at h
  generalize (execOp a.eval o).run P w = r at *
  cases r with
  | halt v w' =>
    cases v with
    | panic v => exact h
    | _ => exact h.elim
  | ok x w' =>
    cases x with
    | value v => exact hK _ _ h
    | skip => exact hK _ _ h
    | defer d => exact hK _ _ h
    | enter f args =>
      refine ⟨(fun e => nomatch (show (none : Option Nat).isSome = true from e)), (callsIn_wide.2 (Calls.mono h ?_)).inRound l⟩
      intro e w2 h2
      cases e with
      | returned v => exact hK _ _ h2
      | panicked chain => exact h2
      | outgrown => exact h2
    | row r args => exact ⟨(fun e => nomatch (show (none : Option Nat).isSome = true from e)), fun c cs _ => let ⟨v, w2, q, s⟩ := h c cs; ⟨v, w2, hK _ _ q, stepsIn_wide.2 s⟩⟩
    | _ => exact h.elim
def calmB (ops : Array Oper) : Bool := ops.all fun o => match o.op with | .defer _ => false | _ => true
theorem calm_at {ops : Array Oper} (h : calmB ops = true) (i : Nat) (o : Oper) (ho : ops[i]? = some o) : ∀ c, o.op ≠ .defer c := by
  intro c e
  unfold calmB at h
  rw [Array.all_eq_true] at h
  obtain ⟨hi, rfl⟩ := Array.getElem?_eq_some_iff.1 ho
  have := h i hi
  rw [e] at this
  cases this
theorem any_round {P : Program} {md : Region.Mode} {ops : Array Oper} {Q : Exit -> Act -> World -> Prop} {n l : Nat} (hc : calmB ops = true) (hQ : ¬ LetsOut Q) : ∀ (fuel : Nat) (listed : Array Bool) (a : Act) (w : World), wpAny P md ops Q fuel listed a w -> wpAnyIn (Fence.wide.inRound l) n P md ops Q fuel listed a w
  | 0, _, _, _, h => h
  | fuel + 1, listed, a, w, h => by
    refine ⟨h.1, fun i hi => ?_⟩
    have h2 := h.2 i hi
    unfold wpOp at h2
    unfold wpOpIn
    cases ho : ops[i]? with
    | none =>
      rw [ho] at h2
      exact any_round hc hQ fuel _ _ _ h2
    | some o =>
      rw [ho] at h2
      simp only at h2 ⊢
      have c1 := calm_at hc i o ho
      split
      . rename_i hw
        rw [if_pos hw] at h2
        rcases h2 with h2 | ⟨-, h2⟩
        . exact op_round c1 (fun a w h => any_round hc hQ fuel _ a w h) h2
        . exact absurd h2 hQ
      . rename_i hw
        rw [if_neg hw] at h2
        exact ⟨fun _ _ => trivial, any_round hc hQ fuel _ _ _ h2⟩
theorem region_front_round {P : Program} {Q : Exit -> Act -> World -> Prop} {id m r : Nat} {a : Act} {w : World} {l : List Oper} {S : World -> Prop} (hc : calmB l.toArray = true) (hQ : ¬ LetsOut Q) (hm : P.follows .mixedOrders = true) (n : Nat) (hF : frB .any l.toArray n = true) (hS : S w.drew)
    (h : S w.drew -> wpAnyH P .any (l.take n).toArray (QL P l.toArray Q n) S n (Array.replicate (n + 1) false) a w.drew) : (Code.region id l.toArray true).wpIn (Fence.wide.inRound r) m P Q a w := by
  have hf := fr_of hF
  have hsz : l.length = n + 1 := by simpa using hf.size
  have hpop : l.toArray.pop = (l.take n).toArray := by
    apply Array.ext'
    simp [List.dropLast_eq_take, hsz]
  refine wpIn_region_any hm (any_round hc hQ _ _ _ _ ?_)
  have H := wpAny_of_held _ _ _ _ (h hS)
  rw [← hpop] at H
  have := any_of_fr hf n (Array.replicate (n + 1) false) a _ (by simp) (by simp) (fun i o hi hl => by simp [Array.getD] at hl) H
  simpa [hsz] using this
theorem yield_in {P : Program} {m m' l l' : Nat} {args : Array Value} {W : World} {R : Ending -> World -> Prop} (h : YieldAt Fence.wide m P l args W R) : YieldAt (Fence.wide.inRound l') m' P l args W R := by
  obtain ⟨fn, tmps, assign, body, hy, hF, hr⟩ := h
  exact ⟨fn, tmps, assign, body, hy, trivial, fun c cs _ => hr c cs (room_wide _)⟩
end Go.Proofs.YtnghfdnlcnocjaaGreatDoor.Cir
