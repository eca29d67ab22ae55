import Derived.Test.YtpehekonjdneaaaDoorKc279323d
import Derived.Test.YtpehekonjdneaaaDoorKb9e5525e
import Derived.Test.YtpehekonjdneaaaDoorKaf27e571
namespace Go.Proofs.YtpehekonjdneaaaDoor.Pau
open Go.RowKit Go.Shelf Go.Proofs.YtpehekonjdneaaaDoor.Gt
theorem ar1 {k : Nat} (h : ar k = 1) : k < 11 := by unfold ar at h; split at h <;> omega
theorem ar2 {k : Nat} (h : ar k = 2) : 11 <= k := by unfold ar at h; split at h <;> omega
theorem Lc1 (p : P) (q : Nat) : Lc [q] p = ⟨1, bt p.x q, bt p.z q, 0⟩ := P.ext' rfl (by show 0 + bt p.x q * 1 = bt p.x q; omega) (by show 0 + bt p.z q * 1 = bt p.z q; omega) rfl
theorem Lc2 (p : P) (q r : Nat) : Lc [q, r] p = ⟨2, bt p.x q + 2 * bt p.x r, bt p.z q + 2 * bt p.z r, 0⟩ := P.ext' rfl (by show 0 + bt p.x q * 1 + bt p.x r * 2 = bt p.x q + 2 * bt p.x r; omega) (by show 0 + bt p.z q * 1 + bt p.z r * 2 = bt p.z q + 2 * bt p.z r; omega) rfl
theorem sf_mul {k : Nat} {ns : List Nat} {n : Int} (h : Ql k ns n) (a b : P) : mulP (Sf k ns a (ar k)) (Sf k ns b (ar k)) = sh (Sf k ns (mulP a b) (ar k)) (mulPh (Lc ns a) (Lc ns b)) := by
  rcases h.cases with ⟨e, q, rfl, hq, -⟩ | ⟨e, q, r, rfl, hqr, hq, hr, -, -⟩
  . rw [e, Lc1, Lc1]
    show mulP (s1 k (bt a.x q) (bt a.z q)) (s1 k (bt b.x q) (bt b.z q)) = sh (s1 k (bt (a.x ^^^ b.x) q) (bt (a.z ^^^ b.z) q)) _
    rw [bt_xor, bt_xor]
    exact mtb1 ⟨k, ar1 e⟩ h.k1 ⟨_, bt_lt a.x q⟩ ⟨_, bt_lt a.z q⟩ ⟨_, bt_lt b.x q⟩ ⟨_, bt_lt b.z q⟩
  . rw [e, Lc2, Lc2]
    show mulP (s2 k (bt a.x q) (bt a.z q) (bt a.x r) (bt a.z r)) (s2 k (bt b.x q) (bt b.z q) (bt b.x r) (bt b.z r)) = sh (s2 k (bt (a.x ^^^ b.x) q) (bt (a.z ^^^ b.z) q) (bt (a.x ^^^ b.x) r) (bt (a.z ^^^ b.z) r)) _
    rw [bt_xor, bt_xor, bt_xor, bt_xor]
    exact mtb2 ⟨k, h.k2⟩ (ar2 e) ⟨_, bt_lt a.x q⟩ ⟨_, bt_lt a.z q⟩ ⟨_, bt_lt a.x r⟩ ⟨_, bt_lt a.z r⟩ ⟨_, bt_lt b.x q⟩ ⟨_, bt_lt b.z q⟩ ⟨_, bt_lt b.x r⟩ ⟨_, bt_lt b.z r⟩
theorem sh_ld (A : P) (ns : List Nat) (n d : Int) : sh (ldP A ns n) d = ldP (sh A d) ns n := rfl
theorem thr_mul {k : Nat} {ns : List Nat} {a b : P} (h : Ql k ns a.n) (hf : fitP a b = true) : thrP k ns (mulP a b) = mulP (thrP k ns a) (thrP k ns b) := by
  obtain ⟨ra, rb, hn⟩ := fit_iff.1 hf
  have hb : Ql k ns b.n := hn ▸ h
  have si := Sf_in h.k1 h.k2 ns a (ar k) (Nat.le_refl _)
  have hm : Ql k ns (mulP a b).n := h
  rw [thrP_dec hm (mul_rt hf), thrP_dec h ra, thrP_dec hb rb, rs_mul h hf, sh_l, ← sh_r, sh_ld, ← sf_mul h a b]
  have := two_mul (r := rs ns a) (s := rs ns b) (A := Sf k ns a (ar k)) hb (rs_dj hb (rt_wd rb)) hn (Sf k ns b (ar k)) ⟨si.1, si.2.1⟩ rfl
  exact this.symm
theorem iv_ql {k : Nat} {ns : List Nat} {n : Int} (h : Ql k ns n) : Ql (iv k) ns n := by
  obtain ⟨i1, i2, i3, -⟩ := iv_tab ⟨k, h.k2⟩ h.k1
  exact ⟨i1, i2, h.len.trans i3.symm, h.nd, h.inn, h.le⟩
theorem ld_at {k : Nat} {ns : List Nat} {n : Int} (h : Ql k ns n) (x t : Nat) (ht : t < ar k) : bt (ldw x ns ns.length) (ns.getD t 0) = bt x t := by
  rcases h.cases with ⟨e, q, rfl, hq, -⟩ | ⟨e, q, r, rfl, hqr, hq, hr, -, -⟩
  . obtain rfl : t = 0 := by omega
    show bt (ldw x [q] 1) q = _
    rw [ldw1, if_pos rfl]
  . rcases (show t = 0 ∨ t = 1 by omega) with rfl | rfl
    . show bt (ldw x [q, r] 2) q = _
      rw [ldw2 _ _ _ _ hqr, if_pos rfl]
    . show bt (ldw x [q, r] 2) r = _
      rw [ldw2 _ _ _ _ hqr, if_neg (fun g => hqr g.symm), if_pos rfl]
theorem thr_inv {k : Nat} {ns : List Nat} {a : P} (h : Ql k ns a.n) (ha : rt a = true) : thrP (iv k) ns (thrP k ns a) = a := by
  have wa := rt_wd ha
  have si := Sf_in h.k1 h.k2 ns a (ar k) (Nat.le_refl _)
  obtain ⟨ry, ny⟩ := thrP_rt h ha
  have wy := rt_wd ry
  have hy := thrP_dec h ha
  have dj := rs_dj h wa
  obtain ⟨i1, i2, i3, -⟩ := iv_tab ⟨k, h.k2⟩ h.k1
  have i3' : ar (iv k) = ar k := i3
  have h' : Ql (iv k) ns (thrP k ns a).n := ny ▸ iv_ql h
  have ex : (thrP k ns a).x = (rs ns a).x ^^^ ldw (Sf k ns a (ar k)).x ns ns.length := by rw [hy]; rfl
  have ez : (thrP k ns a).z = (rs ns a).z ^^^ ldw (Sf k ns a (ar k)).z ns ns.length := by rw [hy]; rfl
  have ep : (thrP k ns a).ph = (a.ph + (Sf k ns a (ar k)).ph) % 4 := by
    rw [hy]
    exact (ph_l h dj _ _).1
  have bits : ∀ (w : Nat) (s : Nat) (y : Nat), w < 18446744073709551616 -> y < 18446744073709551616 -> y = clw w ns ns.length ^^^ ldw s ns ns.length -> clw y ns ns.length = clw w ns ns.length /\ ∀ t, t < ar k -> bt y (ns.getD t 0) = bt s t := fun w s y hw hyl e => by
    constructor
    . refine bt_ext (fun j => ?_)
      rw [clw_in h hyl, clw_in h hw]
      by_cases hj : j ∈ ns
      . rw [if_pos hj, if_pos hj]
      . rw [if_neg hj, if_neg hj, e, bt_xor, clw_in h hw, if_neg hj, ld_out h s hj]
        have := bt_lt w j
        omega
    . intro t ht
      have hm : ns.getD t 0 ∈ ns := getD_mem (by rw [h.len]; exact ht)
      rw [e, bt_xor, clw_in h hw, if_pos hm, ld_at h s t ht]
      have := bt_lt s t
      omega
  obtain ⟨bx1, bx2⟩ := bits a.x _ _ wa.1 wy.1 ex
  obtain ⟨bz1, bz2⟩ := bits a.z _ _ wa.2 wy.2 ez
  have hrs : rs ns (thrP k ns a) = sh (rs ns a) (Sf k ns a (ar k)).ph := P.ext' ny bx1 bz1 ep
  have hS : sh (Sf (iv k) ns (thrP k ns a) (ar (iv k))) (Sf k ns a (ar k)).ph = Lc ns a := by
    rw [i3']
    rcases h.cases with ⟨e, q, hns, hq, -⟩ | ⟨e, q, r, hns, hqr, hq, hr, -, -⟩
    . have b1 := bx2 0 (by omega)
      have b2 := bz2 0 (by omega)
      rw [hns] at b1 b2 ⊢
      rw [e] at b1 b2 ⊢
      have b1' : bt (thrP k [q] a).x q = bt (s1 k (bt a.x q) (bt a.z q)).x 0 := b1
      have b2' : bt (thrP k [q] a).z q = bt (s1 k (bt a.x q) (bt a.z q)).z 0 := b2
      show sh (s1 (iv k) (bt (thrP k [q] a).x q) (bt (thrP k [q] a).z q)) (s1 k (bt a.x q) (bt a.z q)).ph = _
      rw [b1', b2', Lc1]
      exact inv1 ⟨k, ar1 e⟩ h.k1 ⟨_, bt_lt a.x q⟩ ⟨_, bt_lt a.z q⟩
    . have b1 := bx2 0 (by omega)
      have b2 := bz2 0 (by omega)
      have b3 := bx2 1 (by omega)
      have b4 := bz2 1 (by omega)
      rw [hns] at b1 b2 b3 b4 ⊢
      rw [e] at b1 b2 b3 b4 ⊢
      have b1' : bt (thrP k [q, r] a).x q = bt (s2 k (bt a.x q) (bt a.z q) (bt a.x r) (bt a.z r)).x 0 := b1
      have b2' : bt (thrP k [q, r] a).z q = bt (s2 k (bt a.x q) (bt a.z q) (bt a.x r) (bt a.z r)).z 0 := b2
      have b3' : bt (thrP k [q, r] a).x r = bt (s2 k (bt a.x q) (bt a.z q) (bt a.x r) (bt a.z r)).x 1 := b3
      have b4' : bt (thrP k [q, r] a).z r = bt (s2 k (bt a.x q) (bt a.z q) (bt a.x r) (bt a.z r)).z 1 := b4
      show sh (s2 (iv k) (bt (thrP k [q, r] a).x q) (bt (thrP k [q, r] a).z q) (bt (thrP k [q, r] a).x r) (bt (thrP k [q, r] a).z r)) (s2 k (bt a.x q) (bt a.z q) (bt a.x r) (bt a.z r)).ph = _
      rw [b1', b2', b3', b4', Lc2]
      exact inv2 ⟨k, h.k2⟩ (ar2 e) ⟨_, bt_lt a.x q⟩ ⟨_, bt_lt a.z q⟩ ⟨_, bt_lt a.x r⟩ ⟨_, bt_lt a.z r⟩
  rw [thrP_dec h' ry, hrs, sh_l, ← sh_r, sh_ld, hS, ny]
  exact rs_lc h ha
theorem thr_com {k : Nat} {ns : List Nat} {a b : P} (h : Ql k ns a.n) (hf : fitP a b = true) : comB (thrP k ns a) (thrP k ns b) = comB a b := by
  obtain ⟨ra, rb, hn⟩ := fit_iff.1 hf
  have hb : Ql k ns b.n := hn ▸ h
  have hf' : fitP b a = true := fit_iff.2 ⟨rb, ra, hn.symm⟩
  obtain ⟨rx, nx⟩ := thrP_rt h ra
  obtain ⟨ry, ny⟩ := thrP_rt hb rb
  have hxy : fitP (thrP k ns a) (thrP k ns b) = true := fit_iff.2 ⟨rx, ry, by rw [nx, ny, hn]⟩
  have e1 := thr_mul h hf
  have e2 := thr_mul hb hf'
  cases hc : comB a b with
  | true =>
    rw [com_iff hxy, ← e1, ← e2, (com_iff hf).1 hc]
  | false =>
    cases hd : comB (thrP k ns a) (thrP k ns b) with
    | false => rfl
    | true =>
      have hd' := (com_iff hxy).1 hd
      rw [← e1, ← e2] at hd'
      have hm : Ql k ns (mulP a b).n := h
      have hm' : Ql k ns (mulP b a).n := hb
      have i1 := thr_inv hm (mul_rt hf)
      have i2 := thr_inv hm' (mul_rt hf')
      rw [hd', i2] at i1
      rw [(com_iff hf).2 i1.symm] at hc
      cases hc
end Go.Proofs.YtpehekonjdneaaaDoor.Pau
