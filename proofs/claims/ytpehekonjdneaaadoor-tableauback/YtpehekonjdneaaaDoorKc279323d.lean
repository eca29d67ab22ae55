import Derived.Test.YtpehekonjdneaaaDoorK11f867fe
namespace Go.Proofs.YtpehekonjdneaaaDoor.Pau
open Go.RowKit Go.Shelf Go.Proofs.YtpehekonjdneaaaDoor.Gt
theorem ip_in {k t j : Nat} (h1 : 1 <= k) (h2 : k < 18) (ht : t < ar k) (hj : j < 3) : (ip k t j).x < 2 ^ ar k /\ (ip k t j).z < 2 ^ ar k /\ 0 <= (ip k t j).ph /\ (ip k t j).ph <= 3 := by
  have ht2 : t < 2 := by have : ar k <= 2 := by { unfold ar; split <;> omega }; omega
  have i := ip_tab ⟨k, h2⟩ ⟨t, ht2⟩ ⟨j, hj⟩ h1 ht
  exact ⟨i.2.2.1, i.2.2.2.1, i.2.2.2.2.1, i.2.2.2.2.2⟩
theorem pow_pos' (m : Nat) : 0 < 2 ^ m := Nat.two_pow_pos m
theorem Ai_in {k t : Nat} (h1 : 1 <= k) (h2 : k < 18) (ht : t < ar k) (u v : Nat) : (Ai k t u v).x < 2 ^ ar k /\ (Ai k t u v).z < 2 ^ ar k := by
  unfold Ai
  rcases lt_cases u v with e | ⟨j, hj, e⟩
  . rw [if_pos e]; exact ⟨pow_pos' _, pow_pos' _⟩
  . rw [if_neg (by omega), e, show 88 + j - 88 = j by omega]
    exact ⟨(ip_in h1 h2 ht hj).1, (ip_in h1 h2 ht hj).2.1⟩
def Sf (k : Nat) (ns : List Nat) (p : P) : Nat -> P
  | 0 => wn k
  | t + 1 => mulP (Sf k ns p t) (Ai k t (bt p.x (ns.getD t 0)) (bt p.z (ns.getD t 0)))
theorem mulPh_rng (a b : P) : 0 <= mulPh a b /\ mulPh a b <= 3 := by unfold mulPh; omega
theorem Sf_in {k : Nat} (h1 : 1 <= k) (h2 : k < 18) (ns : List Nat) (p : P) : ∀ t, t <= ar k -> (Sf k ns p t).x < 2 ^ ar k /\ (Sf k ns p t).z < 2 ^ ar k /\ 0 <= (Sf k ns p t).ph /\ (Sf k ns p t).ph <= 3
  | 0, _ => ⟨pow_pos' _, pow_pos' _, Int.le_refl _, by show (0 : Int) <= 3; decide⟩
  | t + 1, ht => by
    have i := Sf_in h1 h2 ns p t (by omega)
    have a := Ai_in h1 h2 (show t < ar k by omega) (bt p.x (ns.getD t 0)) (bt p.z (ns.getD t 0))
    exact ⟨Nat.xor_lt_two_pow i.1 a.1, Nat.xor_lt_two_pow i.2.1 a.2, mulPh_rng _ _⟩
theorem ldw_zero (ns : List Nat) : ∀ m, ldw 0 ns m = 0
  | 0 => rfl
  | m + 1 => by rw [ldw, ldw_zero ns m]; simp [bt]
theorem onq_r {a b : P} {q : Nat} (h1 : bt b.x q = 0) (h2 : bt b.z q = 0) : onq a b q = 0 := by
  unfold onq
  rw [h1, h2, lt00]
  exact on_l _
theorem mul_one_of {a b : P} (hx : b.x = 0) (hz : b.z = 0) (hp : b.ph = 0) (ha : 0 <= a.ph /\ a.ph <= 3) : mulP a b = a := by
  refine P.ext' rfl (by show a.x ^^^ b.x = a.x; rw [hx, Nat.xor_zero]) (by show a.z ^^^ b.z = a.z; rw [hz, Nat.xor_zero]) ?_
  show mulPh a b = a.ph
  have z0 : ∀ q, bt 0 q = 0 := fun q => by simp [bt]
  rw [mulPh_eq, sm_z (fun j => onq_r (by rw [hx]; exact z0 j) (by rw [hz]; exact z0 j)), hp]
  show (a.ph + 0 + 0) % 4 = a.ph
  omega
theorem thr_dec {k : Nat} {ns : List Nat} {p : P} (h : Ql k ns p.n) (hp : rt p = true) : ∀ t, t <= ar k -> thf k ns p t = mulP (rs ns p) (ldP (Sf k ns p t) ns p.n)
  | 0, _ => by
    obtain ⟨-, -, -, -, h5, h6⟩ := rt_iff.1 hp
    exact (mul_one_of (a := rs ns p) (ldw_zero ns _) (ldw_zero ns _) rfl ⟨h5, h6⟩).symm
  | t + 1, ht => by
    have ih := thr_dec h hp t (by omega)
    obtain ⟨r1, r2⟩ := thf_rt h hp t (by omega)
    have si := Sf_in h.k1 h.k2 ns p t (by omega)
    have h0 := (rt_iff.1 hp).1
    rw [thf, Sf]
    unfold stp Ai
    rcases lt_cases (bt p.x (ns.getD t 0)) (bt p.z (ns.getD t 0)) with e | ⟨j, hj, e⟩
    . rw [if_pos e, if_pos e, ih, mul_one_of (a := Sf k ns p t) (b := wn k) rfl rfl rfl si.2.2]
    . rw [if_neg (by omega), if_neg (by omega), e, show 88 + j - 88 = j by omega]
      show (mulR (thf k ns p t) (ldP (ip k t j) ns p.n)).1 = _
      rw [mulR_fit (fit_iff.2 ⟨r1, img_rt h h0 (by omega) hj, r2⟩), ih, mul_ass, ld_mul (a := Sf k ns p t) h _ ⟨si.1, si.2.1⟩]
theorem thrP_dec {k : Nat} {ns : List Nat} {p : P} (h : Ql k ns p.n) (hp : rt p = true) : thrP k ns p = mulP (rs ns p) (ldP (Sf k ns p (ar k)) ns p.n) := by
  unfold thrP
  rw [h.len]
  exact thr_dec h hp _ (Nat.le_refl _)
theorem thrP_rt {k : Nat} {ns : List Nat} {p : P} (h : Ql k ns p.n) (hp : rt p = true) : rt (thrP k ns p) = true /\ (thrP k ns p).n = p.n := by
  unfold thrP
  rw [h.len]
  exact thf_rt h hp _ (Nat.le_refl _)
theorem Lc_in {k : Nat} {ns : List Nat} {p : P} {n : Int} (h : Ql k ns n) : (Lc ns p).x < 2 ^ ar k /\ (Lc ns p).z < 2 ^ ar k := by
  rcases h.cases with ⟨e, q, rfl, hq, -⟩ | ⟨e, q, r, rfl, hqr, hq, hr, -, -⟩
  . rw [e]
    have a1 := bt_lt p.x q
    have a2 := bt_lt p.z q
    exact ⟨by show 0 + bt p.x q * 1 < 2; omega, by show 0 + bt p.z q * 1 < 2; omega⟩
  . rw [e]
    have a1 := bt_lt p.x q
    have a2 := bt_lt p.z q
    have a3 := bt_lt p.x r
    have a4 := bt_lt p.z r
    exact ⟨by show 0 + bt p.x q * 1 + bt p.x r * 2 < 4; omega, by show 0 + bt p.z q * 1 + bt p.z r * 2 < 4; omega⟩
theorem rs_mul {k : Nat} {ns : List Nat} {a b : P} (h : Ql k ns a.n) (hf : fitP a b = true) : rs ns (mulP a b) = sh (mulP (rs ns a) (rs ns b)) (mulPh (Lc ns a) (Lc ns b)) := by
  obtain ⟨ra, rb, hn⟩ := fit_iff.1 hf
  have wa := rt_wd ra
  have wb := rt_wd rb
  have hb : Ql k ns b.n := hn ▸ h
  have key : ∀ x y, x < 18446744073709551616 -> y < 18446744073709551616 -> clw (x ^^^ y) ns ns.length = clw x ns ns.length ^^^ clw y ns ns.length := fun x y hx hy => by
    refine bt_ext (fun j => ?_)
    rw [clw_in h (Nat.xor_lt_two_pow (n := 64) hx hy), bt_xor, bt_xor, clw_in h hx, clw_in h hy]
    split <;> rfl
  refine P.ext' rfl (key _ _ wa.1 wb.1) (key _ _ wa.2 wb.2) ?_
  show mulPh a b = (mulPh (rs ns a) (rs ns b) + mulPh (Lc ns a) (Lc ns b)) % 4
  have e : mulP a b = mulP (mulP (rs ns a) (rs ns b)) (ldP (mulP (Lc ns a) (Lc ns b)) ns a.n) := by
    have ea := rs_lc h ra
    have eb := rs_lc hb rb
    have := two_mul (r := rs ns a) (s := rs ns b) (A := Lc ns a) hb (rs_dj hb wb) hn (Lc ns b) (Lc_in h) rfl
    rw [show (rs ns a).n = a.n from rfl, show (rs ns b).n = b.n from rfl, ea, eb] at this
    exact this
  have hd : Dj ns (mulP (rs ns a) (rs ns b)) := fun q hq => by
    have d1 := rs_dj h wa q hq
    have d2 := rs_dj hb wb q hq
    constructor
    . show bt ((rs ns a).x ^^^ (rs ns b).x) q = 0
      rw [bt_xor, d1.1, d2.1]
    . show bt ((rs ns a).z ^^^ (rs ns b).z) q = 0
      rw [bt_xor, d1.2, d2.2]
  have e2 : (mulP a b).ph = (mulP (mulP (rs ns a) (rs ns b)) (ldP (mulP (Lc ns a) (Lc ns b)) ns a.n)).ph := congrArg P.ph e
  have e3 : mulPh a b = mulPh (mulP (rs ns a) (rs ns b)) (ldP (mulP (Lc ns a) (Lc ns b)) ns a.n) := e2
  rw [e3, (ph_l h hd _ _).1]
  rfl
end Go.Proofs.YtpehekonjdneaaaDoor.Pau
