import Derived.Test.YtpehekonjdneaaaDoorKba56e0a7
import Derived.Test.YtpehekonjdneaaaDoorKe1ae5b70
namespace Go.Proofs.YtpehekonjdneaaaDoor.Tbl
open Go.RowKit Go.Shelf Go.Proofs.YtpehekonjdneaaaDoor.Pau Go.Proofs.YtpehekonjdneaaaDoor.Gt
theorem sq_ph (q : P) : mulPh q q = (2 * q.ph) % 4 := by
  unfold mulPh
  rw [Nat.xor_self, Nat.xor_self, Nat.and_comm q.z q.x]
  have : pc (0 &&& 0) = 0 := pc_zero
  rw [this]
  omega
theorem even_sq {q : P} (h : q.ph = 0 ∨ q.ph = 2) : mulP q q = ⟨q.n, 0, 0, 0⟩ := by
  have e : mulPh q q = 0 := by rw [sq_ph]; rcases h with e | e <;> rw [e] <;> rfl
  show (⟨q.n, q.x ^^^ q.x, q.z ^^^ q.z, mulPh q q⟩ : P) = _
  rw [Nat.xor_self, Nat.xor_self, e]
theorem th_ph {k : Int} {l : List Int} {a : P} (hf : thrOk k l a = true) (hp : a.ph = 0 ∨ a.ph = 2) : ∃ x, thrR k l a = (x, 0) /\ rt x = true /\ x.n = a.n /\ (x.ph = 0 ∨ x.ph = 2) := by
  obtain ⟨ra, -, -, -, ca⟩ := ok_ql hf
  have hid : rt (⟨a.n, 0, 0, 0⟩ : P) = true := by
    have := rt_iff.1 ra
    exact rt_iff.2 ⟨this.1, this.2.1, Nat.two_pow_pos _, Nat.two_pow_pos _, by show (0 : Int) <= 0; decide, by show (0 : Int) <= 3; decide⟩
  have hfi : thrOk k l ⟨a.n, 0, 0, 0⟩ = true := by
    unfold thrOk at hf ⊢
    rw [Bool.and_eq_true, Bool.and_eq_true] at hf
    rw [hid, hf.1.2]
    exact hf.2
  obtain ⟨x, -, e1, -, -, -, -, fx, m1, -, -⟩ := carry hf hf rfl
  obtain ⟨y, -, e2, -, -, -, -, fy, m2, -, -⟩ := carry hfi hfi rfl
  obtain ⟨x', e1', m1'⟩ : ∃ x', thrR k l a = (x', 0) /\ thrR k l (mulP a a) = (mulP x' x', 0) := by
    obtain ⟨u, v, u1, u2, -, -, -, -, u3, -, -⟩ := carry hf hf rfl
    rw [u1] at u2; cases u2
    exact ⟨u, u1, u3⟩
  obtain ⟨y', e2', m2'⟩ : ∃ y', thrR k l ⟨a.n, 0, 0, 0⟩ = (y', 0) /\ thrR k l (mulP ⟨a.n, 0, 0, 0⟩ ⟨a.n, 0, 0, 0⟩) = (mulP y' y', 0) := by
    obtain ⟨u, v, u1, u2, -, -, -, -, u3, -, -⟩ := carry hfi hfi rfl
    rw [u1] at u2; cases u2
    exact ⟨u, u1, u3⟩
  have hii : mulP (⟨a.n, 0, 0, 0⟩ : P) ⟨a.n, 0, 0, 0⟩ = ⟨a.n, 0, 0, 0⟩ := even_sq (.inl rfl)
  rw [hii, e2'] at m2'
  have hy : y' = mulP y' y' := congrArg Prod.fst m2'
  rw [even_sq hp, e2'] at m1'
  have hx : y' = mulP x' x' := congrArg Prod.fst m1'
  have rx : fitP x' x' = true := by
    obtain ⟨u, v, u1, u2, -, -, -, fu, -, -, -⟩ := carry hf hf rfl
    rw [u1] at u2; cases u2
    rw [e1'] at u1; cases u1
    exact fu
  have hrx := (fit_iff.1 rx).1
  have yx : y'.x = 0 := by have := congrArg P.x hy; rw [this]; exact Nat.xor_self _
  have yz : y'.z = 0 := by have := congrArg P.z hy; rw [this]; exact Nat.xor_self _
  have hry : rt y' = true := by
    obtain ⟨u, v, u1, u2, -, -, -, fu, -, -, -⟩ := carry hfi hfi rfl
    rw [u1] at u2; cases u2
    rw [e2'] at u1; cases u1
    exact (fit_iff.1 fu).1
  have yp : y'.ph = 0 := by
    have h1 : y'.ph = mulPh y' y' := congrArg P.ph hy
    rw [sq_ph] at h1
    have := rt_iff.1 hry
    omega
  have xp : x'.ph = 0 ∨ x'.ph = 2 := by
    have h1 : y'.ph = mulPh x' x' := congrArg P.ph hx
    rw [sq_ph, yp] at h1
    have := rt_iff.1 hrx
    omega
  have hn : x'.n = a.n := by
    obtain ⟨r1, q1, -, -, -⟩ := ok_ql hf
    have := thrP_rt q1 r1
    unfold thrR at e1'
    rw [if_pos hf] at e1'
    cases e1'
    exact this.2
  exact ⟨x', e1', hrx, hn, xp⟩
theorem getD_map {n i : Nat} (f : Nat -> P) (h : i < n) : ((List.range n).map f).getD i oP = f i := by
  rw [List.getD_eq_getElem?_getD, List.getElem?_map, List.getElem?_range h]; rfl
theorem iv_rng {k : Int} (h1 : 1 <= k) (h2 : k <= 17) : ∃ v : Nat, (rw' k).v = (v : Int) /\ 1 <= v /\ v < 18 /\ ∀ l n, chkP (v : Int) l n = chkP k l n := by
  obtain ⟨m, rfl⟩ : ∃ m : Nat, k = (m : Int) := ⟨k.toNat, by omega⟩
  have hm : m < 18 := by omega
  obtain ⟨i1, i2, -, i4⟩ := iv_tab ⟨m, hm⟩ (by show 1 <= m; omega)
  exact ⟨iv m, by rw [rw_in hm]; exact i4, i1, i2, fun l n => chk_iv (by omega) hm l n⟩
theorem gt_back {t u : TT} {k : Int} {l : List Int} (hg : gtR t k l = (u, 0)) : chB u = true /\ u.n = t.n /\ gtR u (rw' k).v l = (t, 0) := by
  unfold gtR at hg
  split at hg
  . rename_i hc
    split at hg
    . rename_i hk
      split at hg
      . rename_i hcl
        obtain ⟨k1, k2, -⟩ := cl_rng hcl
        obtain ⟨rfl, -⟩ := Prod.mk.inj hg
        obtain ⟨h0, h64, hls, hld⟩ := sz_of (ch_size hc)
        obtain ⟨N, hN⟩ : ∃ N : Nat, t.n = (N : Int) := ⟨t.n.toNat, by omega⟩
        rw [hN, Int.toNat_natCast] at hls hld
        have hok : ∀ p, sgB p (N : Int) = true -> thrOk k l p = true /\ (p.ph = 0 ∨ p.ph = 2) := fun p hp => by
          obtain ⟨⟨hr, hn⟩, hph⟩ := sgB_iff.1 hp
          refine ⟨?_, hph⟩
          unfold thrOk
          rw [hr, hcl, hn, ← hN, hk]
          rfl
        have hs : ∀ i, i < N -> thrOk k l (t.s.getD i oP) = true /\ ((t.s.getD i oP).ph = 0 ∨ (t.s.getD i oP).ph = 2) := fun i hi => hok _ (sg_of hc hN hi).1
        have hd : ∀ i, i < N -> thrOk k l (t.d.getD i oP) = true /\ ((t.d.getD i oP).ph = 0 ∨ (t.d.getD i oP).ph = 2) := fun i hi => hok _ (sg_of hc hN hi).2
        have us : ∀ i, i < N -> (thT t k l).s.getD i oP = (thrR k l (t.s.getD i oP)).1 := fun i hi => getD_map _ (by omega)
        have ud : ∀ i, i < N -> (thT t k l).d.getD i oP = (thrR k l (t.d.getD i oP)).1 := fun i hi => getD_map _ (by omega)
        have hnn : ∀ p, sgB p (N : Int) = true -> p.n = (N : Int) := fun p hp => (sgB_iff.1 hp).1.2
        have hsg : ∀ p, sgB p (N : Int) = true -> sgB (thrR k l p).1 (N : Int) = true := fun p hp => by
          obtain ⟨x, e, hr, hn, hph⟩ := th_ph (hok p hp).1 (hok p hp).2
          rw [e]
          exact sgB_iff.2 ⟨⟨hr, hn.trans (hnn p hp)⟩, hph⟩
        have hcm : ∀ p q, sgB p (N : Int) = true -> sgB q (N : Int) = true -> cmB (thrR k l p).1 (thrR k l q).1 = cmB p q := fun p q hp hq => by
          obtain ⟨x, y, e1, e2, -, -, f1, f2, -, hcom, -⟩ := carry (hok p hp).1 (hok q hq).1 ((hnn p hp).trans (hnn q hq).symm)
          rw [e1, e2]
          unfold cmB
          rw [f1, f2, hcom]
        have hback : ∀ p, sgB p (N : Int) = true -> thrR (rw' k).v l (thrR k l p).1 = (p, 0) := fun p hp => by
          obtain ⟨x, y, e1, -, -, -, -, -, -, -, hb⟩ := carry (hok p hp).1 (hok p hp).1 rfl
          rw [e1]
          exact hb
        have hch : chB (thT t k l) = true := by
          have hci := ch_iff.1 hc
          refine ch_iff.2 ⟨?_, fun i hi => ?_, fun i hi j hj => ?_⟩
          . unfold szB thT
            simp only [List.length_map, List.length_range]
            exact hci.1
          . have hi' : i < N := by show i < N; have : (thT t k l).n = t.n := rfl; rw [this, hN, Int.toNat_natCast] at hi; exact hi
            unfold sg2
            rw [us i hi', ud i hi']
            have hn' : (thT t k l).n = (N : Int) := hN
            rw [hn', hsg _ (sg_of hc hN hi').1, hsg _ (sg_of hc hN hi').2]
            rfl
          . have hi' : i < N := by have : (thT t k l).n = t.n := rfl; rw [this, hN, Int.toNat_natCast] at hi; exact hi
            have hj' : j < N := by have : (thT t k l).n = t.n := rfl; rw [this, hN, Int.toNat_natCast] at hj; exact hj
            have h3 := hci.2.2 i (by rw [hN, Int.toNat_natCast]; exact hi') j (by rw [hN, Int.toNat_natCast]; exact hj')
            unfold prB at h3 ⊢
            rw [us i hi', us j hj', ud i hi', ud j hj', hcm _ _ (sg_of hc hN hi').1 (sg_of hc hN hj').1, hcm _ _ (sg_of hc hN hi').2 (sg_of hc hN hj').2, hcm _ _ (sg_of hc hN hi').2 (sg_of hc hN hj').1]
            exact h3
        refine ⟨hch, rfl, ?_⟩
        obtain ⟨v, ev, v1, v2, hcv⟩ := iv_rng k1 k2
        have e1 : chkP (rw' k).v l (thT t k l).n = 0 := by rw [ev, hcv]; exact hk
        have e2 : clB (rw' (rw' k).v) = true := by rw [ev, rw_in v2]; exact cl_conv ⟨v, v2⟩ v1
        unfold gtR
        rw [if_pos hch, if_pos e1, if_pos e2]
        have hsl : (thT t k l).s.length = N := by show ((List.range t.s.length).map _).length = N; simp [hls]
        have hdl : (thT t k l).d.length = N := by show ((List.range t.d.length).map _).length = N; simp [hld]
        have ext : ∀ (a b : List P), a.length = N -> b.length = N -> (∀ i, i < N -> a.getD i oP = b.getD i oP) -> a = b := fun a b ha hb h => List.ext_getElem? fun i => by
          by_cases hi : i < N
          . rw [get_of (by omega), get_of (by omega), h i hi]
          . rw [List.getElem?_eq_none (by omega), List.getElem?_eq_none (by omega)]
        have hS : (thT (thT t k l) (rw' k).v l).s = t.s := ext _ _ (by show ((List.range (thT t k l).s.length).map _).length = N; simp [hsl]) hls (fun i hi => by
          show ((List.range (thT t k l).s.length).map _).getD i oP = _
          rw [getD_map _ (by omega), us i hi, hback _ (sg_of hc hN hi).1])
        have hD : (thT (thT t k l) (rw' k).v l).d = t.d := ext _ _ (by show ((List.range (thT t k l).d.length).map _).length = N; simp [hdl]) hld (fun i hi => by
          show ((List.range (thT t k l).d.length).map _).getD i oP = _
          rw [getD_map _ (by omega), ud i hi, hback _ (sg_of hc hN hi).2])
        have : thT (thT t k l) (rw' k).v l = ⟨t.n, t.s, t.d⟩ := by
          rw [← hS, ← hD]
          rfl
        rw [this]
      . simp at hg
    . rename_i hk
      have := congrArg Prod.snd hg
      exact absurd this hk
  . simp at hg
end Go.Proofs.YtpehekonjdneaaaDoor.Tbl
