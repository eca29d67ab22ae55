import Derived.Test.YtpehekonjdneaaaDoorK20148d4e
namespace Go.Proofs.YtpehekonjdneaaaDoor.Pau
open Go.RowKit Go.Shelf Go.Proofs.YtpehekonjdneaaaDoor.Gt
theorem cl_conv : ∀ k : Fin 18, 1 <= k.1 -> clB (tab.getD k.1 r0) = true := by decide
theorem rw_in {k : Nat} (h : k < 18) : rw' (k : Int) = tab.getD k r0 := by
  unfold rw'
  rw [if_pos (by omega), Int.toNat_natCast]
theorem chk_nd {k : Int} {l : List Int} {n : Int} (h : chkP k l n = 0) (hq : (rw' k).q = 1 ∨ (rw' k).q = 2) : (l.map Int.toNat).Nodup /\ (l.length : Int) = (rw' k).q := by
  unfold chkP at h
  split at h
  . cases h
  . split at h
    . cases h
    . rename_i h1 h2
      have h2' : apP (rw' k).q l = true := by simpa using h2
      unfold apP at h2'
      rw [Bool.and_eq_true] at h2'
      have hlen := of_decide_eq_true h2'.1
      refine ⟨?_, hlen⟩
      have hg := h2'.2
      match l, hlen, hg with
      | [], _, _ => exact List.nodup_nil
      | [a], _, _ => simp
      | [a, b], _, hg =>
        simp [apG] at hg
        have h0 : 0 <= a := hg.1
        have h3 : 0 <= b /\ ¬ b = a := hg.2
        show [a.toNat, b.toNat].Nodup
        simp only [List.nodup_cons, List.mem_singleton, List.not_mem_nil, not_false_eq_true, List.nodup_nil, and_true]
        omega
      | a :: b :: c :: t, hlen, _ => simp at hlen; omega
theorem ok_ql {k : Int} {l : List Int} {p : P} (h : thrOk k l p = true) : rt p = true /\ Ql k.toNat (l.map Int.toNat) p.n /\ 1 <= k /\ k <= 17 /\ chkP k l p.n = 0 := by
  unfold thrOk at h
  rw [Bool.and_eq_true, Bool.and_eq_true, decide_eq_true_eq] at h
  obtain ⟨⟨h1, h2⟩, h3⟩ := h
  obtain ⟨k1, k2, k3⟩ := cl_rng h2
  have hn := (rt_iff.1 h1).2.1
  obtain ⟨e1, e2⟩ := chk_qs h3 (by rw [k3]; split <;> omega) hn (by rw [k3]; split <;> omega)
  obtain ⟨e3, e4⟩ := chk_nd h3 (by rw [k3]; split <;> omega)
  have hlen : (l.map Int.toNat).length = l.length := List.length_map ..
  refine ⟨h1, ⟨by omega, by omega, ?_, e3, e2.inn, hn⟩, k1, k2, h3⟩
  rw [hlen]
  unfold ar
  rw [k3] at e4
  split at e4 <;> split <;> omega
theorem ok_of {k : Nat} {l : List Int} {p : P} (h1 : 1 <= k) (h2 : k < 18) (hp : rt p = true) (hc : chkP (k : Int) l p.n = 0) : thrOk (k : Int) l p = true := by
  unfold thrOk
  rw [hp, rw_in h2, cl_conv ⟨k, h2⟩ h1, hc]
  rfl
theorem kn_tab : ∀ k : Fin 18, 1 <= k.1 -> knB (tab.getD k.1 r0) = true /\ knB (tab.getD (iv k.1) r0) = true /\ (tab.getD (iv k.1) r0).q = (tab.getD k.1 r0).q := by decide +kernel
theorem chk_iv {k : Nat} (h1 : 1 <= k) (h2 : k < 18) (l : List Int) (n : Int) : chkP (iv k : Int) l n = chkP (k : Int) l n := by
  obtain ⟨i1, i2, i3, -⟩ := iv_tab ⟨k, h2⟩ h1
  obtain ⟨n1, n2, n3⟩ := kn_tab ⟨k, h2⟩ h1
  unfold chkP
  rw [rw_in h2, rw_in i2, n1, n2, n3]
theorem carry {k : Int} {l : List Int} {a b : P} (hf : thrOk k l a = true) (hg : thrOk k l b = true) (hn : a.n = b.n) :
    ∃ x y, thrR k l a = (x, 0) /\ thrR k l b = (y, 0) /\ Wd x /\ Wd y /\ fitP a b = true /\ fitP x y = true /\ thrR k l (mulP a b) = (mulP x y, 0) /\ comB x y = comB a b /\ thrR (rw' k).v l x = (a, 0) := by
  obtain ⟨ra, qa, k1, k2, ca⟩ := ok_ql hf
  obtain ⟨rb, qb, -, -, cb⟩ := ok_ql hg
  have hab : fitP a b = true := fit_iff.2 ⟨ra, rb, hn⟩
  obtain ⟨rx, nx⟩ := thrP_rt qa ra
  obtain ⟨ry, ny⟩ := thrP_rt qb rb
  have ek : ((k.toNat : Nat) : Int) = k := by omega
  obtain ⟨i1, i2, i3, i4⟩ := iv_tab ⟨k.toNat, qa.k2⟩ qa.k1
  have hm : thrOk k l (mulP a b) = true := by
    have := ok_of (l := l) (p := mulP a b) qa.k1 qa.k2 (mul_rt hab) (by rw [ek]; exact ca)
    rw [ek] at this
    exact this
  have ev : (rw' k).v = (iv k.toNat : Int) := by
    have := rw_in qa.k2
    rw [ek] at this
    rw [this]
    exact i4
  have hx : thrOk (rw' k).v l (thrP k.toNat (l.map Int.toNat) a) = true := by
    rw [ev]
    exact ok_of i1 i2 rx (by rw [nx, chk_iv qa.k1 qa.k2, ek]; exact ca)
  refine ⟨thrP k.toNat (l.map Int.toNat) a, thrP k.toNat (l.map Int.toNat) b, ?_, ?_, rt_wd rx, rt_wd ry, hab, fit_iff.2 ⟨rx, ry, by rw [nx, ny, hn]⟩, ?_, thr_com qa hab, ?_⟩
  . unfold thrR; rw [if_pos hf]
  . unfold thrR; rw [if_pos hg]
  . unfold thrR; rw [if_pos hm, thr_mul qa hab]
  . unfold thrR; rw [if_pos hx, ev, Int.toNat_natCast, thr_inv qa ra]
end Go.Proofs.YtpehekonjdneaaaDoor.Pau
