import Derived.Test.YthndpbjplcphpaaDoorQ2f9d986d
set_option maxHeartbeats 4000000
namespace Go.Proofs.YthndpbjplcphpaaDoor.Lay
open Go.RowKit Go.Shelf Go.Lib Go.Sort Go.Proofs.YthndpbjplcphpaaDoor.Oct Go.Proofs.YthndpbjplcphpaaDoor.Tok Go.Proofs.YthndpbjplcphpaaDoor.Gt Go.Proofs.YthndpbjplcphpaaDoor.Cir
def swr {α : Type} [Inhabited α] (d : Array α) (a b : Nat) : Nat -> Array α
  | 0 => d
  | k + 1 => swp (swr d a b k) (a + k) (b + k)
theorem size_swr {α : Type} [Inhabited α] (d : Array α) (a b : Nat) : ∀ k, (swr d a b k).size = d.size
  | 0 => rfl
  | k + 1 => by rw [swr, size_swp, size_swr d a b k]
set_option maxRecDepth 1000000 in
theorem lSwapRange (n : Nat) [Inhabited (Fin n)] (gL gf : Nat) (cb : Array Value) (a b m : Nat) (d0 d : Array (Fin n)) (hd : d.size = n) (w0 w : World) (R : Row1 (encF (n := n)) w0 gL 0 d0) (hs : d0.size = d.size) (S : SW (encF (n := n)) w0 gL 0 d w) (ha : a + m <= n) (hb : b + m <= n) (hsz : n < 4611686018427387904) :
    Calls Tryd.prog 90 #[.slice (some ⟨gL, 0, none⟩) n n, .int .i64 (a : Int), .int .i64 (b : Int), .int .i64 (m : Int), .func (.func gf) #[] cb] w fun e w' => e = .returned (.tuple #[]) /\ SW (encF (n := n)) w0 gL 0 (swr d a b m) w' := by
  have mixed : Tryd.prog.follows Departure.mixedOrders = true := by kernel_rfl
  have S0 : Aside (SW (encF (n := n)) w0 gL 0 d w) := S
  clear S
  go_enter Tryd.func90, Tryd.ntmps90
  go_wp2
  go_loopg [10] (m) (fun kx s10 wr => ∃ i : Nat, s10 = .int .i64 (i : Int) /\ i <= m /\ m - i <= kx /\ Aside (SW (encF (n := n)) w0 gL 0 (swr d a b i) wr))
  case atStart => exact ⟨0, rfl, Nat.zero_le _, by omega, S0⟩
  case round =>
    clear S0
    obtain ⟨i, rfl, hi, hkx, S1⟩ := hrel
    by_cases hlt : i < m
    . have hd1 : decide ((i : Int) < (m : Int)) = true := decide_eq_true (by omega)
      have hds : (swr d a b i).size = n := by rw [size_swr, hd]
      obtain ⟨dk, hdk⟩ : ∃ dk, dk = swr d a b i := ⟨_, rfl⟩
      rw [← hdk] at S1 hds
      obtain ⟨iN, hiN⟩ : ∃ q, q = a + i := ⟨_, rfl⟩
      obtain ⟨jN, hjN⟩ : ∃ q, q = b + i := ⟨_, rfl⟩
      have ra : IntKind.i64.wrap ((a : Int) + (i : Int)) = (a : Int) + (i : Int) := by rw [IntKind.wrap_i64]; omega
      have rc : IntKind.i64.wrap ((b : Int) + (i : Int)) = (b : Int) + (i : Int) := by rw [IntKind.wrap_i64]; omega
      have ba : (a : Int) + (i : Int) < (n : Int) := by omega
      have bc : (b : Int) + (i : Int) < (n : Int) := by omega
      have pa : (0 : Int) <= (a : Int) + (i : Int) := by omega
      have pc : (0 : Int) <= (b : Int) + (i : Int) := by omega
      have ea : ((a : Int) + (i : Int)).toNat = iN := by omega
      have ec : ((b : Int) + (i : Int)).toNat = jN := by omega
      have HI : Hid (iN = a + i /\ jN = b + i /\ dk = swr d a b i) := hide ⟨hiN, hjN, hdk⟩
      obtain ⟨x, hx⟩ : ∃ x, x = dk[iN]! := ⟨_, rfl⟩
      obtain ⟨y, hy⟩ : ∃ x, x = dk[jN]! := ⟨_, rfl⟩
      have S2 : Aside (SW (encF (n := n)) w0 gL 0 (swp dk iN jN) ((wr.setCell ⟨gL, 0 + iN, none⟩ (encF y)).setCell ⟨gL, 0 + jN, none⟩ (encF x)).drew) := by rw [hx, hy]; exact S1.out.swapped R iN jN (by omega) (by omega)
      have ca := S1.out.c1 R (by omega) iN (by omega)
      have cb1 := S1.out.c1 R (by omega) jN (by omega)
      have fa := S1.out.f1 R (by omega) iN (by omega)
      have fb := S1.out.f1 R (by omega) jN (by omega)
      obtain ⟨u, cc⟩ := S1.out.c2 R (by omega) iN jN (by omega) (by omega) (encF y)
      rw [← hx] at ca
      rw [← hy] at cb1
      simp only [encF, Nat.zero_add] at ca cb1 fa fb cc S2
      clear S1 hx hy hiN hjN hdk
      go_wp2_with fail
      go_big_region_o
      clear ca cb1 cc fa fb
      generalize ((wr.setCell ⟨gL, iN, none⟩ (.int .i64 ((y.1 : Nat) : Int))).setCell ⟨gL, jN, none⟩ (.int .i64 ((x.1 : Nat) : Int))).drew = w2 at S2 ⊢
      go_wp2
      go_roundg (m - (i + 1))
      case measure => omega
      case rel =>
        refine ⟨i + 1, by simp, by omega, Nat.le_refl _, ?_⟩
        rw [swr, ← HI.out.2.2, ← HI.out.1, ← HI.out.2.1]
        exact S2
    . obtain rfl : i = m := by omega
      have hd1 : decide ((i : Int) < (i : Int)) = false := decide_eq_false (by omega)
      go_wp2
      go_end0
      exact ⟨rfl, S1.out⟩
def sx (a b m k : Nat) : Nat := if a <= k /\ k < a + m then k - a + b else if b <= k /\ k < b + m then k - b + a else k
def tg (a m b k : Nat) : Nat := if k < a then k else if k < a + (b - m) then m + (k - a) else if k < b then k - (b - m) else k
theorem at_swp {α : Type} [Inhabited α] (d : Array α) (i j : Nat) (hi : i < d.size) (hj : j < d.size) (k : Nat) : (swp d i j)[k]! = if k = i then d[j]! else if k = j then d[i]! else d[k]! := by
  rw [swp_get d hi hj k]
  repeat' split
  all_goals first | rfl | (subst_vars; rfl) | omega
theorem at_swr {α : Type} [Inhabited α] (d : Array α) (a b : Nat) : ∀ m, a + m <= b -> b + m <= d.size -> ∀ k, (swr d a b m)[k]! = d[sx a b m k]!
  | 0, _, _, k => by
    have e : sx a b 0 k = k := by
      unfold sx
      repeat' split
      all_goals omega
    rw [e]
    rfl
  | m + 1, h1, h2, k => by
    rw [swr, at_swp _ _ _ (by rw [size_swr]; omega) (by rw [size_swr]; omega), at_swr d a b m (by omega) (by omega), at_swr d a b m (by omega) (by omega), at_swr d a b m (by omega) (by omega)]
    split
    . rename_i e; subst e; congr 1; unfold sx; repeat' split
      all_goals omega
    . split
      . rename_i e; subst e; congr 1; unfold sx; repeat' split
        all_goals omega
      . congr 1; unfold sx; repeat' split
        all_goals omega
theorem tg_more (m i j k : Nat) (h : j < i) (hm : i <= m) : sx (m - i) m j (tg (m - (i - j)) m (m + j) k) = tg (m - i) m (m + j) k := by
  unfold sx tg
  repeat' split
  all_goals omega
theorem tg_less (m i j k : Nat) (h : i < j) (hm : i <= m) : sx (m - i) (m + j - i) i (tg (m - i) m (m + (j - i)) k) = tg (m - i) m (m + j) k := by
  unfold sx tg
  repeat' split
  all_goals omega
theorem tg_same (m i k : Nat) (hm : i <= m) : sx (m - i) m i k = tg (m - i) m (m + i) k := by
  unfold sx tg
  repeat' split
  all_goals omega
def Rot {α : Type} [Inhabited α] (d d' : Array α) (a m b : Nat) : Prop := d'.size = d.size /\ ∀ k, d'[k]! = d[tg a m b k]!
set_option maxRecDepth 1000000 in
theorem lRotate (n : Nat) [Inhabited (Fin n)] (gL gf : Nat) (cb : Array Value) (a m b : Nat) (d0 d : Array (Fin n)) (hd : d.size = n) (w0 w : World) (R : Row1 (encF (n := n)) w0 gL 0 d0) (hs : d0.size = d.size) (S : SW (encF (n := n)) w0 gL 0 d w) (ham : a < m) (hmb : m < b) (hb : b <= n) (hsz : n < 4611686018427387904) :
    Calls Tryd.prog 89 #[.slice (some ⟨gL, 0, none⟩) n n, .int .i64 (a : Int), .int .i64 (m : Int), .int .i64 (b : Int), .func (.func gf) #[] cb] w fun e w' => e = .returned (.tuple #[]) /\ ∃ d', Rot d d' a m b /\ SW (encF (n := n)) w0 gL 0 d' w' := by
  have HR := hide R
  have S0 := hide S
  have HD := hide (And.intro hd hs)
  clear S R hd hs
  have ri : IntKind.i64.wrap ((m : Int) - (a : Int)) = ((m - a : Nat) : Int) := by rw [IntKind.wrap_i64]; omega
  have rj : IntKind.i64.wrap ((b : Int) - (m : Int)) = ((b - m : Nat) : Int) := by rw [IntKind.wrap_i64]; omega
  go_enter Tryd.func89, Tryd.ntmps89
  go_wp2_with fail
  go_loopg [10, 11] (b) (fun kx s10 s11 wr => ∃ (i j : Nat) (dk : Array (Fin n)), s10 = .int .i64 (i : Int) /\ s11 = .int .i64 (j : Int) /\ 0 < i /\ 0 < j /\ i <= m /\ m + j <= n /\ i + j <= kx /\ Hid (dk.size = n) /\ Hid (SW (encF (n := n)) w0 gL 0 dk wr) /\ Hid (∀ k, d[tg a m b k]! = dk[tg (m - i) m (m + j) k]!))
  case atStart => exact ⟨m - a, b - m, d, rfl, rfl, by omega, by omega, by omega, by omega, by omega, hide HD.out.1, S0, hide (fun k => by rw [show m - (m - a) = a by omega, show m + (b - m) = b by omega])⟩
  case round =>
    clear S0
    obtain ⟨i, j, dk, rfl, rfl, hi, hj, him, hjn, hkx, HS, S1, HT⟩ := hrel
    have q1 : IntKind.i64.wrap ((m : Int) - (i : Int)) = ((m - i : Nat) : Int) := by rw [IntKind.wrap_i64]; omega
    rcases Nat.lt_trichotomy j i with hlt | heq | hgt
    . have d1 : ((i : Int) != (j : Int)) = true := by simp; omega
      have d2 : decide ((j : Int) < (i : Int)) = true := decide_eq_true (by omega)
      have q2 : IntKind.i64.wrap ((i : Int) - (j : Int)) = ((i - j : Nat) : Int) := by rw [IntKind.wrap_i64]; omega
      go_wp2_with (go_at_call 90; with_reducible refine Calls.mono (lSwapRange n gL gf cb (m - i) m j d0 dk HS.out w0 _ HR.out (by rw [HD.out.2, HD.out.1, HS.out]) S1.out (by omega) (by omega) hsz) ?_; rintro e w2 ⟨rfl, hS2⟩; have S2 := hide hS2; clear hS2)
      go_roundg ((i - j) + j)
      case measure => omega
      case rel =>
        exact ⟨i - j, j, swr dk (m - i) m j, rfl, rfl, by omega, hj, by omega, hjn, Nat.le_refl _, hide (by rw [size_swr]; exact HS.out), S2, hide (fun k => by rw [HT.out, at_swr _ _ _ _ (by omega) (by rw [HS.out]; omega), tg_more m i j k hlt him])⟩
    . subst heq
      have d1 : ((j : Int) != (j : Int)) = false := by simp
      go_wp2_with (go_at_call 90; with_reducible refine Calls.mono (lSwapRange n gL gf cb (m - j) m j d0 dk HS.out w0 _ HR.out (by rw [HD.out.2, HD.out.1, HS.out]) S1.out (by omega) (by omega) hsz) ?_; rintro e w2 ⟨rfl, hS2⟩; have S2 := hide hS2; clear hS2)
      go_end0
      exact ⟨rfl, _, ⟨by rw [size_swr, HS.out, HD.out.1], fun k => by rw [at_swr _ _ _ _ (by omega) (by rw [HS.out]; omega), HT.out, tg_same m j k him]⟩, S2.out⟩
    . have d1 : ((i : Int) != (j : Int)) = true := by simp; omega
      have d2 : decide ((j : Int) < (i : Int)) = false := decide_eq_false (by omega)
      have q2 : IntKind.i64.wrap ((j : Int) - (i : Int)) = ((j - i : Nat) : Int) := by rw [IntKind.wrap_i64]; omega
      have q3 : IntKind.i64.wrap ((m : Int) + (j : Int)) = (m : Int) + (j : Int) := by rw [IntKind.wrap_i64]; omega
      have q4 : IntKind.i64.wrap ((m : Int) + (j : Int) - (i : Int)) = ((m + j - i : Nat) : Int) := by rw [IntKind.wrap_i64]; omega
      go_wp2_with (go_at_call 90; with_reducible refine Calls.mono (lSwapRange n gL gf cb (m - i) (m + j - i) i d0 dk HS.out w0 _ HR.out (by rw [HD.out.2, HD.out.1, HS.out]) S1.out (by omega) (by omega) hsz) ?_; rintro e w2 ⟨rfl, hS2⟩; have S2 := hide hS2; clear hS2)
      go_roundg (i + (j - i))
      case measure => omega
      case rel =>
        exact ⟨i, j - i, swr dk (m - i) (m + j - i) i, rfl, rfl, hi, by omega, him, by omega, Nat.le_refl _, hide (by rw [size_swr]; exact HS.out), S2, hide (fun k => by rw [HT.out, at_swr _ _ _ _ (by omega) (by rw [HS.out]; omega), tg_less m i j k hgt him])⟩
section
variable {α : Type} [Inhabited α] {L : α -> α -> Prop}
def Srt (L : α -> α -> Prop) (d : Array α) (a b : Nat) : Prop := ∀ i j, a <= i -> i < j -> j < b -> L d[i]! d[j]!
theorem Srt.sub {d : Array α} {a b a' b' : Nat} (h : Srt L d a b) (h1 : a <= a') (h2 : b' <= b) : Srt L d a' b' := fun i j hi hij hj => h i j (by omega) hij (by omega)
theorem Srt.up {d : Array α} {a b i j : Nat} (h : Srt L d a b) (tr : ∀ x y z, L x y -> L y z -> L x z) (hi : a <= i) (hij : i <= j) (hj : j < b) {z : α} (hz : L d[j]! z) : L d[i]! z := by
  rcases Nat.lt_or_eq_of_le hij with h1 | h1
  . exact tr _ _ _ (h i j hi h1 hj) hz
  . subst h1; exact hz
theorem Srt.down {d : Array α} {a b i j : Nat} (h : Srt L d a b) (tr : ∀ x y z, L x y -> L y z -> L x z) (hi : a <= i) (hij : i <= j) (hj : j < b) {z : α} (hz : L z d[i]!) : L z d[j]! := by
  rcases Nat.lt_or_eq_of_le hij with h1 | h1
  . exact tr _ _ _ hz (h i j hi h1 hj)
  . subst h1; exact hz
theorem rot_at {d d' : Array α} {s m e : Nat} (h : Rot d d' s m e) (k : Nat) : (k < s -> d'[k]! = d[k]!) /\ (s <= k -> k < s + (e - m) -> d'[k]! = d[m + (k - s)]!) /\ (s + (e - m) <= k -> k < e -> s <= e -> d'[k]! = d[k - (e - m)]!) /\ (s <= m -> m <= e -> e <= k -> d'[k]! = d[k]!) := by
  have h1 := h.2 k
  unfold tg at h1
  refine ⟨fun h2 => ?_, fun h2 h3 => ?_, fun h2 h3 h4 => ?_, fun h2 h3 h4 => ?_⟩
  . rw [if_pos h2] at h1; exact h1
  . rw [if_neg (by omega), if_pos h3] at h1; exact h1
  . rw [if_neg (by omega), if_neg (by omega), if_pos h3] at h1; exact h1
  . rw [if_neg (by omega), if_neg (by omega), if_neg (by omega)] at h1; exact h1
theorem sym_key (tr : ∀ x y z, L x y -> L y z -> L x z) {d d' : Array α} {a s m e b : Nat} (h1 : a <= s) (h2 : s <= m) (h3 : m <= e) (h4 : e <= b) (hA : Srt L d a m) (hB : Srt L d m b) (hR : Rot d d' s m e)
    (c1 : s = a ∨ e = b ∨ L d[s - 1]! d[e]!) (c2 : e = m ∨ s = m ∨ L d[e - 1]! d[s]!) :
    Srt L d' a s /\ Srt L d' s (s + (e - m)) /\ Srt L d' (s + (e - m)) e /\ Srt L d' e b /\ ∀ i j, a <= i -> i < s + (e - m) -> s + (e - m) <= j -> j < b -> L d'[i]! d'[j]! := by
  refine ⟨fun i j hi hij hj => ?_, fun i j hi hij hj => ?_, fun i j hi hij hj => ?_, fun i j hi hij hj => ?_, fun i j hi hi2 hj hj2 => ?_⟩
  . rw [(rot_at hR i).1 (by omega), (rot_at hR j).1 (by omega)]
    exact hA i j (by omega) hij (by omega)
  . rw [(rot_at hR i).2.1 (by omega) (by omega), (rot_at hR j).2.1 (by omega) (by omega)]
    exact hB _ _ (by omega) (by omega) (by omega)
  . rw [(rot_at hR i).2.2.1 (by omega) (by omega) (by omega), (rot_at hR j).2.2.1 (by omega) (by omega) (by omega)]
    exact hA _ _ (by omega) (by omega) (by omega)
  . rw [(rot_at hR i).2.2.2 (by omega) (by omega) (by omega), (rot_at hR j).2.2.2 (by omega) (by omega) (by omega)]
    exact hB _ _ (by omega) hij (by omega)
  . by_cases hx : i < s
    . rw [(rot_at hR i).1 hx]
      by_cases hy : j < e
      . rw [(rot_at hR j).2.2.1 hj hy (by omega)]
        exact hA _ _ (by omega) (by omega) (by omega)
      . rw [(rot_at hR j).2.2.2 (by omega) (by omega) (by omega)]
        have c := (c1.resolve_left (by omega)).resolve_left (by omega)
        exact hA.up tr hi (by omega : i <= s - 1) (by omega) (hB.down tr (by omega) (by omega : e <= j) hj2 c)
    . rw [(rot_at hR i).2.1 (by omega) (by omega)]
      by_cases hy : j < e
      . rw [(rot_at hR j).2.2.1 hj hy (by omega)]
        have c := (c2.resolve_left (by omega)).resolve_left (by omega)
        exact hB.up tr (by omega) (by omega : m + (i - s) <= e - 1) (by omega) (hA.down tr (by omega) (by omega : s <= j - (e - m)) (by omega) c)
      . rw [(rot_at hR j).2.2.2 (by omega) (by omega) (by omega)]
        exact hB _ _ (by omega) (by omega) (by omega)
theorem srt_join {d : Array α} {a c b : Nat} (h1 : Srt L d a c) (h2 : Srt L d c b) (h3 : ∀ i j, a <= i -> i < c -> c <= j -> j < b -> L d[i]! d[j]!) : Srt L d a b := by
  intro i j hi hij hj
  by_cases hc : j < c
  . exact h1 i j hi hij hc
  . by_cases hd : i < c
    . exact h3 i j hi hd (by omega) hj
    . exact h2 i j (by omega) hij hj
end
section
variable {α : Type} [Inhabited α] {L : α -> α -> Prop}
theorem rot_none (d : Array α) (s m : Nat) (h : s <= m) : Rot d d s m m := ⟨rfl, fun k => by
  congr 1
  unfold tg
  repeat' split
  all_goals omega⟩
theorem rot_none2 (d : Array α) (m e : Nat) (h : m <= e) : Rot d d m m e := ⟨rfl, fun k => by
  congr 1
  unfold tg
  repeat' split
  all_goals omega⟩
theorem rot_right {d dk : Array α} {a c : Nat} (ha : a < c) (hc : c < d.size) (h : Rot d dk a (a + 1) c) : Rot d (swp dk (c - 1) c) a (a + 1) (c + 1) := by
  refine ⟨by rw [size_swp]; exact h.1, fun k => ?_⟩
  rw [at_swp _ _ _ (by rw [h.1]; omega) (by rw [h.1]; omega), h.2, h.2, h.2]
  split
  . congr 1
    unfold tg
    repeat' split
    all_goals omega
  . split
    . congr 1
      unfold tg
      repeat' split
      all_goals omega
    . congr 1
      unfold tg
      repeat' split
      all_goals omega
theorem rot_left {d dk : Array α} {c m : Nat} (hc : 0 < c) (hm : c <= m) (hs : m < d.size) (h : Rot d dk c m (m + 1)) : Rot d (swp dk c (c - 1)) (c - 1) m (m + 1) := by
  refine ⟨by rw [size_swp]; exact h.1, fun k => ?_⟩
  rw [at_swp _ _ _ (by rw [h.1]; omega) (by rw [h.1]; omega), h.2, h.2, h.2]
  split
  . congr 1
    unfold tg
    repeat' split
    all_goals omega
  . split
    . congr 1
      unfold tg
      repeat' split
      all_goals omega
    . congr 1
      unfold tg
      repeat' split
      all_goals omega
theorem ins_first (tr : ∀ x y z, L x y -> L y z -> L x z) {d d' : Array α} {a i b : Nat} (h1 : a + 1 <= i) (h2 : i <= b) (hB : Srt L d (a + 1) b) (c1 : i = a + 1 ∨ L d[i - 1]! d[a]!) (c2 : i = b ∨ L d[a]! d[i]!) (hR : Rot d d' a (a + 1) i) : Srt L d' a b := by
  have ha : d'[i - 1]! = d[a]! := by
    by_cases e : i = a + 1
    . have := hR.2 (i - 1)
      rw [this]
      congr 1
      unfold tg
      repeat' split
      all_goals omega
    . have := (rot_at hR (i - 1)).2.2.1 (by omega) (by omega) (by omega)
      rw [this]
      congr 1
      omega
  intro x y hx hxy hy
  by_cases y1 : y < i - 1
  . rw [(rot_at hR x).2.1 hx (by omega), (rot_at hR y).2.1 (by omega) (by omega)]
    exact hB _ _ (by omega) (by omega) (by omega)
  . by_cases y2 : y = i - 1
    . subst y2
      rw [ha, (rot_at hR x).2.1 hx (by omega)]
      exact hB.up tr (by omega) (by omega : a + 1 + (x - a) <= i - 1) (by omega) (c1.resolve_left (by omega))
    . have ey := (rot_at hR y).2.2.2 (by omega) (by omega) (by omega : i <= y)
      rw [ey]
      by_cases x1 : x < i - 1
      . rw [(rot_at hR x).2.1 hx (by omega)]
        exact hB _ _ (by omega) (by omega) (by omega)
      . by_cases x2 : x = i - 1
        . subst x2
          rw [ha]
          exact hB.down tr (by omega) (by omega : i <= y) hy (c2.resolve_left (by omega))
        . rw [(rot_at hR x).2.2.2 (by omega) (by omega) (by omega : i <= x)]
          exact hB _ _ (by omega) hxy hy
theorem ins_last (tr : ∀ x y z, L x y -> L y z -> L x z) {d d' : Array α} {a i m : Nat} (h1 : a <= i) (h2 : i <= m) (hA : Srt L d a m) (c1 : i = a ∨ L d[i - 1]! d[m]!) (c2 : i = m ∨ L d[m]! d[i]!) (hR : Rot d d' i m (m + 1)) : Srt L d' a (m + 1) := by
  have hm : d'[i]! = d[m]! := by
    have := (rot_at hR i).2.1 (Nat.le_refl _) (by omega)
    rw [this]
    congr 1
    omega
  intro x y hx hxy hy
  by_cases y1 : y < i
  . rw [(rot_at hR x).1 (by omega), (rot_at hR y).1 y1]
    exact hA _ _ hx hxy (by omega)
  . by_cases y2 : y = i
    . subst y2
      rw [hm, (rot_at hR x).1 hxy]
      exact hA.up tr hx (by omega : x <= y - 1) (by omega) (c1.resolve_left (by omega))
    . have ey := (rot_at hR y).2.2.1 (by omega) hy (by omega)
      rw [ey]
      by_cases x1 : x < i
      . rw [(rot_at hR x).1 x1]
        exact hA _ _ hx (by omega) (by omega)
      . by_cases x2 : x = i
        . subst x2
          rw [hm]
          exact hA.down tr (by omega) (by omega : x <= y - (m + 1 - m)) (by omega) (c2.resolve_left (by omega))
        . rw [(rot_at hR x).2.2.1 (by omega) (by omega) (by omega)]
          exact hA _ _ (by omega) (by omega) (by omega)
end
set_option maxRecDepth 1000000 in
theorem lSymFirst (n : Nat) [Inhabited (Fin n)] (gL gf : Nat) (cb : Array Value) (cf : Fin n -> Fin n -> Int) (a b : Nat) (d0 d : Array (Fin n)) (hd : d.size = n) (w0 w : World) (eg : ∀ args w, (callFunc gf args).run Tryd.prog w = .ok (.enter gf args) w) (hcmp : CmpLays1 Tryd.prog gf cb (encF (n := n)) cf gL 0 n w0) (R : Row1 (encF (n := n)) w0 gL 0 d0) (hs : d0.size = d.size) (S : SW (encF (n := n)) w0 gL 0 d w) (m : Nat) (hm1 : m <= a + 1) (hm2 : a + 1 <= m) (hab : m < b) (hb : b <= n) (hsz : n < 4611686018427387904) :
    Calls Tryd.prog 83 #[.slice (some ⟨gL, 0, none⟩) n n, .int .i64 (a : Int), .int .i64 (m : Int), .int .i64 (b : Int), .func (.func gf) #[] cb] w fun e w' => e = .returned (.tuple #[]) /\ ∃ i, m <= i /\ i <= b /\ (i = m ∨ cf d[i - 1]! d[a]! < 0) /\ (i = b ∨ 0 <= cf d[i]! d[a]!) /\ ∃ d', Rot d d' a m i /\ SW (encF (n := n)) w0 gL 0 d' w' := by
  have mixed : Tryd.prog.follows Departure.mixedOrders = true := by kernel_rfl
  have HC : Aside _ := hcmp
  have S0 : Aside (SW (encF (n := n)) w0 gL 0 d w) := S
  clear S hcmp
  have q1 : IntKind.i64.wrap ((m : Int) - (a : Int)) = 1 := by rw [IntKind.wrap_i64]; omega
  go_enter Tryd.func83, Tryd.ntmps83
  go_wp2_with fail
  go_loopg [10, 11, 12] (b) (fun kx s10 s11 _ wr => ∃ (i j : Nat), s10 = .int .i64 (i : Int) /\ s11 = .int .i64 (j : Int) /\ m <= i /\ i <= j /\ j <= b /\ j - i <= kx /\ Hid (i = m ∨ cf d[i - 1]! d[a]! < 0) /\ Hid (j = b ∨ 0 <= cf d[j]! d[a]!) /\ Aside (SW (encF (n := n)) w0 gL 0 d wr))
  case atStart => exact ⟨m, b, rfl, rfl, Nat.le_refl _, by omega, Nat.le_refl _, by omega, hide (.inl rfl), hide (.inl rfl), S0⟩
  case round =>
    clear S0
    obtain ⟨i, j, rfl, rfl, hmi, hij, hjb, hkx, HI, HJ, S1⟩ := hrel
    by_cases hlt : i < j
    . have d1 : decide ((i : Int) < (j : Int)) = true := decide_eq_true (by omega)
      obtain ⟨h, hh⟩ : ∃ h, h = (i + j) / 2 := ⟨_, rfl⟩
      have r1 : IntKind.i64.wrap ((i : Int) + (j : Int)) = (i : Int) + (j : Int) := by rw [IntKind.wrap_i64]; omega
      have hN : h < n := by omega
      obtain ⟨hn, ehn⟩ : ∃ q, q = h := ⟨_, rfl⟩
      obtain ⟨an, ean⟩ : ∃ q, q = a := ⟨_, rfl⟩
      have ea : (((i : Int) + (j : Int)) / 2).toNat = hn := by omega
      have pa : (0 : Int) <= ((i : Int) + (j : Int)) / 2 := by omega
      have ba : ((i : Int) + (j : Int)) / 2 < (n : Int) := by omega
      have ec : ((a : Int)).toNat = an := by omega
      have bc : (a : Int) < (n : Int) := by omega
      have l1 := S1.out.cl R (by omega) h (by omega)
      have l2 := S1.out.cl R (by omega) a (by omega)
      obtain ⟨x, hx⟩ : ∃ x, x = d[h]! := ⟨_, rfl⟩
      obtain ⟨y, hy⟩ : ∃ x, x = d[a]! := ⟨_, rfl⟩
      rw [← hx, ← ehn] at l1
      rw [← hy, ← ean] at l2
      have hc := S1.out.cmp HC.out (by omega) x y
      simp only [encF, Nat.zero_add] at l1 l2 hc
      have HX := hide (And.intro hx hy)
      have HE := hide (And.intro hh (And.intro ehn ean))
      clear hx hy ehn ean hh
      by_cases hv : cf x y < 0
      . have hdv : decide (cf x y < 0) = true := decide_eq_true hv
        go_wp2_with fail
        go_quiet_grown (first | (go_at_fn gf; refine Calls.grown_of (hc _ _)))
        have S2 : Aside (SW (encF (n := n)) w0 gL 0 d (grow (wr.drewN nq) osq)) := S1.out.grown nq osq
        clear l1 l2 hc S1
        generalize grow (wr.drewN nq) osq = w2 at S2 ⊢
        clear nq osq
        go_wp2_with fail
        go_roundg (j - (h + 1))
        case measure => have := HE.out; omega
        case rel =>
          have e1 := HE.out
          have e2 := HX.out
          exact ⟨h + 1, j, by congr 1; omega, rfl, by omega, by omega, hjb, Nat.le_refl _, hide (.inr (by rw [show h + 1 - 1 = h by omega, ← e2.1, ← e2.2]; exact hv)), HJ, S2⟩
      . have hdv : decide (cf x y < 0) = false := decide_eq_false hv
        go_wp2_with fail
        go_quiet_grown (first | (go_at_fn gf; refine Calls.grown_of (hc _ _)))
        have S2 : Aside (SW (encF (n := n)) w0 gL 0 d (grow (wr.drewN nq) osq)) := S1.out.grown nq osq
        clear l1 l2 hc S1
        generalize grow (wr.drewN nq) osq = w2 at S2 ⊢
        clear nq osq
        go_wp2_with fail
        go_roundg (h - i)
        case measure => have := HE.out; omega
        case rel =>
          have e1 := HE.out
          have e2 := HX.out
          exact ⟨i, h, rfl, by congr 1; omega, hmi, by omega, by omega, Nat.le_refl _, HI, hide (.inr (by rw [← e2.1, ← e2.2]; omega)), S2⟩
    . obtain rfl : i = j := by omega
      have d1 : decide ((i : Int) < (i : Int)) = false := decide_eq_false (by omega)
      go_wp2_with fail
      obtain ⟨s, hs1⟩ : ∃ s, s + 1 = i := ⟨i - 1, by omega⟩
      have q2 : IntKind.i64.wrap ((i : Int) - 1) = (s : Int) := by rw [IntKind.wrap_i64]; omega
      have HI' := HI
      have HJ' := HJ
      have HS1 := hide hs1
      have b1 : s + 1 <= b := by omega
      have b2 : a <= s := by omega
      clear HI HJ hs1 hmi hij hjb hkx hlt
      have HID : Hid (a + 1 = m) := hide (by omega)
      go_loopg [13] (b) (fun kx s13 wx => ∃ (t : Nat) (dk : Array (Fin n)), s13 = .int .i64 (t : Int) /\ a <= t /\ t <= s /\ s - t <= kx /\ Hid (Rot d dk a m (t + 1)) /\ Aside (SW (encF (n := n)) w0 gL 0 dk wx))
      case atStart => exact ⟨a, d, rfl, Nat.le_refl _, b2, by omega, hide (by rw [← HID.out]; exact rot_none d a (a + 1) (by omega)), S1⟩
      case round =>
        clear S1
        obtain ⟨t, dk, rfl, hat, hts, hkx, HR, S1⟩ := hrel
        have hds : dk.size = n := by rw [HR.out.1, hd]
        by_cases hlt : t < s
        . have d1 : decide ((t : Int) < (s : Int)) = true := decide_eq_true (by omega)
          obtain ⟨iN, hiN⟩ : ∃ q, q = t := ⟨_, rfl⟩
          obtain ⟨jN, hjN⟩ : ∃ q, q = t + 1 := ⟨_, rfl⟩
          have ea : ((t : Int)).toNat = iN := by omega
          have ba : (t : Int) < (n : Int) := by omega
          have ec : ((t : Int) + 1).toNat = jN := by omega
          have pc : (0 : Int) <= (t : Int) + 1 := by omega
          have bc : (t : Int) + 1 < (n : Int) := by omega
          have rc : IntKind.i64.wrap ((t : Int) + 1) = (t : Int) + 1 := by rw [IntKind.wrap_i64]; omega
          have HE : Hid (iN = t /\ jN = t + 1) := hide ⟨hiN, hjN⟩
          obtain ⟨x, hx⟩ : ∃ x, x = dk[iN]! := ⟨_, rfl⟩
          obtain ⟨y, hy⟩ : ∃ x, x = dk[jN]! := ⟨_, rfl⟩
          have S2 : Aside (SW (encF (n := n)) w0 gL 0 (swp dk iN jN) ((wr.setCell ⟨gL, 0 + iN, none⟩ (encF y)).setCell ⟨gL, 0 + jN, none⟩ (encF x)).drew) := by rw [hx, hy]; exact S1.out.swapped R iN jN (by omega) (by omega)
          have ca := S1.out.c1 R (by omega) iN (by omega)
          have cb1 := S1.out.c1 R (by omega) jN (by omega)
          have fa := S1.out.f1 R (by omega) iN (by omega)
          have fb := S1.out.f1 R (by omega) jN (by omega)
          obtain ⟨u, cc⟩ := S1.out.c2 R (by omega) iN jN (by omega) (by omega) (encF y)
          rw [← hx] at ca
          rw [← hy] at cb1
          simp only [encF, Nat.zero_add] at ca cb1 fa fb cc S2
          clear S1 hx hy hiN hjN
          go_wp2_with fail
          go_big_region_o
          clear ca cb1 cc fa fb
          generalize ((wr.setCell ⟨gL, iN, none⟩ (.int .i64 ((y.1 : Nat) : Int))).setCell ⟨gL, jN, none⟩ (.int .i64 ((x.1 : Nat) : Int))).drew = w2 at S2 ⊢
          clear ea ec
          go_wp2
          go_roundg (s - (t + 1))
          case measure => omega
          case rel =>
            refine ⟨t + 1, swp dk t (t + 1), by simp, by omega, by omega, Nat.le_refl _, hide ?_, ?_⟩
            . have h1 := HR.out
              rw [← HID.out] at h1 ⊢
              have h2 := rot_right (c := t + 1) (by omega) (by omega) h1
              exact h2
            . rw [← HE.out.2, ← HE.out.1]
              exact S2
        . have d1 : decide ((t : Int) < (s : Int)) = false := decide_eq_false (by omega)
          go_wp2_with fail
          refine bodyPost_ret (results_none rfl _ _ _) rfl ?_
          have e1 := HS1.out
          have c1 : s + 1 = m ∨ cf d[s + 1 - 1]! d[a]! < 0 := by rw [e1]; exact HI'.out
          have c2 : s + 1 = b ∨ 0 <= cf d[s + 1]! d[a]! := by rw [e1]; exact HJ'.out
          have c3 : Rot d dk a m (s + 1) := by rw [show s = t by omega]; exact HR.out
          exact ⟨rfl, s + 1, by omega, b1, c1, c2, dk, c3, S1.out⟩
set_option maxRecDepth 1000000 in
theorem lSymLast (n : Nat) [Inhabited (Fin n)] (gL gf : Nat) (cb : Array Value) (cf : Fin n -> Fin n -> Int) (a b : Nat) (d0 d : Array (Fin n)) (hd : d.size = n) (w0 w : World) (eg : ∀ args w, (callFunc gf args).run Tryd.prog w = .ok (.enter gf args) w) (hcmp : CmpLays1 Tryd.prog gf cb (encF (n := n)) cf gL 0 n w0) (R : Row1 (encF (n := n)) w0 gL 0 d0) (hs : d0.size = d.size) (S : SW (encF (n := n)) w0 gL 0 d w) (m : Nat) (hm1 : b <= m + 1) (hm2 : m + 1 <= b) (hab : a + 1 < m) (hb : b <= n) (hsz : n < 4611686018427387904) :
    Calls Tryd.prog 83 #[.slice (some ⟨gL, 0, none⟩) n n, .int .i64 (a : Int), .int .i64 (m : Int), .int .i64 (b : Int), .func (.func gf) #[] cb] w fun e w' => e = .returned (.tuple #[]) /\ ∃ i, a <= i /\ i <= m /\ (i = a ∨ 0 <= cf d[m]! d[i - 1]!) /\ (i = m ∨ cf d[m]! d[i]! < 0) /\ ∃ d', Rot d d' i m b /\ SW (encF (n := n)) w0 gL 0 d' w' := by
  have mixed : Tryd.prog.follows Departure.mixedOrders = true := by kernel_rfl
  have HC : Aside _ := hcmp
  have S0 : Aside (SW (encF (n := n)) w0 gL 0 d w) := S
  clear S hcmp
  have q1 : IntKind.i64.wrap ((m : Int) - (a : Int)) = (m : Int) - (a : Int) := by rw [IntKind.wrap_i64]; omega
  have q2 : ((m : Int) - (a : Int) == 1) = false := by simp; omega
  have q3 : IntKind.i64.wrap ((b : Int) - (m : Int)) = 1 := by rw [IntKind.wrap_i64]; omega
  go_enter Tryd.func83, Tryd.ntmps83
  go_wp2_with fail
  go_loopg [14, 15, 16] (b) (fun kx s10 s11 _ wr => ∃ (i j : Nat), s10 = .int .i64 (i : Int) /\ s11 = .int .i64 (j : Int) /\ a <= i /\ i <= j /\ j <= m /\ j - i <= kx /\ Hid (i = a ∨ 0 <= cf d[m]! d[i - 1]!) /\ Hid (j = m ∨ cf d[m]! d[j]! < 0) /\ Aside (SW (encF (n := n)) w0 gL 0 d wr))
  case atStart => exact ⟨a, m, rfl, rfl, Nat.le_refl _, by omega, Nat.le_refl _, by omega, hide (.inl rfl), hide (.inl rfl), S0⟩
  case round =>
    clear S0
    obtain ⟨i, j, rfl, rfl, hmi, hij, hjb, hkx, HI, HJ, S1⟩ := hrel
    by_cases hlt : i < j
    . have d1 : decide ((i : Int) < (j : Int)) = true := decide_eq_true (by omega)
      obtain ⟨h, hh⟩ : ∃ h, h = (i + j) / 2 := ⟨_, rfl⟩
      have r1 : IntKind.i64.wrap ((i : Int) + (j : Int)) = (i : Int) + (j : Int) := by rw [IntKind.wrap_i64]; omega
      have hN : h < n := by omega
      obtain ⟨hn, ehn⟩ : ∃ q, q = h := ⟨_, rfl⟩
      obtain ⟨an, ean⟩ : ∃ q, q = m := ⟨_, rfl⟩
      have ea : (((i : Int) + (j : Int)) / 2).toNat = hn := by omega
      have pa : (0 : Int) <= ((i : Int) + (j : Int)) / 2 := by omega
      have ba : ((i : Int) + (j : Int)) / 2 < (n : Int) := by omega
      have ec : ((m : Int)).toNat = an := by omega
      have bc : (m : Int) < (n : Int) := by omega
      have l1 := S1.out.cl R (by omega) h (by omega)
      have l2 := S1.out.cl R (by omega) m (by omega)
      obtain ⟨x, hx⟩ : ∃ x, x = d[h]! := ⟨_, rfl⟩
      obtain ⟨y, hy⟩ : ∃ x, x = d[m]! := ⟨_, rfl⟩
      rw [← hx, ← ehn] at l1
      rw [← hy, ← ean] at l2
      have hc := S1.out.cmp HC.out (by omega) y x
      simp only [encF, Nat.zero_add] at l1 l2 hc
      have HX := hide (And.intro hx hy)
      have HE := hide (And.intro hh (And.intro ehn ean))
      clear hx hy ehn ean hh
      by_cases hv : ¬ cf y x < 0
      . have hdv : decide (cf y x < 0) = false := decide_eq_false hv
        go_wp2_with fail
        go_quiet_grown (first | (go_at_fn gf; refine Calls.grown_of (hc _ _)))
        have S2 : Aside (SW (encF (n := n)) w0 gL 0 d (grow (wr.drewN nq) osq)) := S1.out.grown nq osq
        clear l1 l2 hc S1
        generalize grow (wr.drewN nq) osq = w2 at S2 ⊢
        clear nq osq
        go_wp2_with fail
        go_roundg (j - (h + 1))
        case measure => have := HE.out; omega
        case rel =>
          have e1 := HE.out
          have e2 := HX.out
          exact ⟨h + 1, j, by congr 1; omega, rfl, by omega, by omega, hjb, Nat.le_refl _, hide (.inr (by rw [show h + 1 - 1 = h by omega, ← e2.1, ← e2.2]; omega)), HJ, S2⟩
      . have hdv : decide (cf y x < 0) = true := decide_eq_true (by omega)
        go_wp2_with fail
        go_quiet_grown (first | (go_at_fn gf; refine Calls.grown_of (hc _ _)))
        have S2 : Aside (SW (encF (n := n)) w0 gL 0 d (grow (wr.drewN nq) osq)) := S1.out.grown nq osq
        clear l1 l2 hc S1
        generalize grow (wr.drewN nq) osq = w2 at S2 ⊢
        clear nq osq
        go_wp2_with fail
        go_roundg (h - i)
        case measure => have := HE.out; omega
        case rel =>
          have e1 := HE.out
          have e2 := HX.out
          exact ⟨i, h, rfl, by congr 1; omega, hmi, by omega, by omega, Nat.le_refl _, HI, hide (.inr (by rw [← e2.1, ← e2.2]; omega)), S2⟩
    . obtain rfl : i = j := by omega
      have d1 : decide ((i : Int) < (i : Int)) = false := decide_eq_false (by omega)
      go_wp2_with fail
      have HI' := HI
      have HJ' := HJ
      clear HI HJ hij hkx hlt
      have HID : Hid (m + 1 = b) := hide (by omega)
      go_loopg [17] (b) (fun kx s17 wx => ∃ (t : Nat) (dk : Array (Fin n)), s17 = .int .i64 (t : Int) /\ i <= t /\ t <= m /\ t - i <= kx /\ Hid (Rot d dk t m b) /\ Aside (SW (encF (n := n)) w0 gL 0 dk wx))
      case atStart => exact ⟨m, d, rfl, hjb, Nat.le_refl _, by omega, hide (rot_none2 d m b (by omega)), S1⟩
      case round =>
        clear S1
        obtain ⟨t, dk, rfl, hat, hts, hkx, HR, S1⟩ := hrel
        have hds : dk.size = n := by rw [HR.out.1, hd]
        by_cases hlt : i < t
        . have d1 : decide ((i : Int) < (t : Int)) = true := decide_eq_true (by omega)
          obtain ⟨iN, hiN⟩ : ∃ q, q = t := ⟨_, rfl⟩
          obtain ⟨jN, hjN⟩ : ∃ q, q = t - 1 := ⟨_, rfl⟩
          have ea : ((t : Int)).toNat = iN := by omega
          have ba : (t : Int) < (n : Int) := by omega
          have ec : ((t : Int) - 1).toNat = jN := by omega
          have pc : (0 : Int) <= (t : Int) - 1 := by omega
          have bc : (t : Int) - 1 < (n : Int) := by omega
          have rc : IntKind.i64.wrap ((t : Int) - 1) = (t : Int) - 1 := by rw [IntKind.wrap_i64]; omega
          have HE : Hid (iN = t /\ jN = t - 1) := hide ⟨hiN, hjN⟩
          obtain ⟨x, hx⟩ : ∃ x, x = dk[iN]! := ⟨_, rfl⟩
          obtain ⟨y, hy⟩ : ∃ x, x = dk[jN]! := ⟨_, rfl⟩
          have S2 : Aside (SW (encF (n := n)) w0 gL 0 (swp dk iN jN) ((wr.setCell ⟨gL, 0 + iN, none⟩ (encF y)).setCell ⟨gL, 0 + jN, none⟩ (encF x)).drew) := by rw [hx, hy]; exact S1.out.swapped R iN jN (by omega) (by omega)
          have ca := S1.out.c1 R (by omega) iN (by omega)
          have cb1 := S1.out.c1 R (by omega) jN (by omega)
          have fa := S1.out.f1 R (by omega) iN (by omega)
          have fb := S1.out.f1 R (by omega) jN (by omega)
          obtain ⟨u, cc⟩ := S1.out.c2 R (by omega) iN jN (by omega) (by omega) (encF y)
          rw [← hx] at ca
          rw [← hy] at cb1
          simp only [encF, Nat.zero_add] at ca cb1 fa fb cc S2
          clear S1 hx hy hiN hjN
          go_wp2_with fail
          go_big_region_o
          clear ca cb1 cc fa fb
          generalize ((wr.setCell ⟨gL, iN, none⟩ (.int .i64 ((y.1 : Nat) : Int))).setCell ⟨gL, jN, none⟩ (.int .i64 ((x.1 : Nat) : Int))).drew = w2 at S2 ⊢
          clear ea ec
          go_wp2
          go_roundg (t - 1 - i)
          case measure => omega
          case rel =>
            refine ⟨t - 1, swp dk t (t - 1), by congr 1; omega, by omega, by omega, Nat.le_refl _, hide ?_, ?_⟩
            . have h1 := HR.out
              rw [← HID.out] at h1 ⊢
              exact rot_left (by omega) hts (by omega) h1
            . rw [← HE.out.2, ← HE.out.1]
              exact S2
        . have d1 : decide ((i : Int) < (t : Int)) = false := decide_eq_false (by omega)
          go_wp2_with fail
          refine bodyPost_ret (results_none rfl _ _ _) rfl ?_
          have c3 : Rot d dk i m b := by rw [show i = t by omega]; exact HR.out
          exact ⟨rfl, i, hmi, hjb, HI'.out, HJ'.out, dk, c3, S1.out⟩
section
variable {α : Type} [Inhabited α] {L : α -> α -> Prop}
def Mv (d d' : Array α) (a b : Nat) : Prop := d'.size = d.size /\ (∀ k, k < a ∨ b <= k -> d'[k]! = d[k]!) /\ ∀ k, a <= k -> k < b -> ∃ k', a <= k' /\ k' < b /\ d'[k]! = d[k']!
theorem Mv.refl (d : Array α) (a b : Nat) : Mv d d a b := ⟨rfl, fun _ _ => rfl, fun k h1 h2 => ⟨k, h1, h2, rfl⟩⟩
theorem Mv.wide {d d' : Array α} {a b a' b' : Nat} (h : Mv d d' a' b') (h1 : a <= a') (h2 : b' <= b) : Mv d d' a b := by
  refine ⟨h.1, fun k hk => h.2.1 k (by omega), fun k hk1 hk2 => ?_⟩
  by_cases hc : a' <= k /\ k < b'
  . obtain ⟨k', q1, q2, q3⟩ := h.2.2 k hc.1 hc.2
    exact ⟨k', by omega, by omega, q3⟩
  . exact ⟨k, hk1, hk2, h.2.1 k (by omega)⟩
theorem Mv.trans {d d' d'' : Array α} {a b : Nat} (h : Mv d d' a b) (g : Mv d' d'' a b) : Mv d d'' a b := by
  refine ⟨g.1.trans h.1, fun k hk => (g.2.1 k hk).trans (h.2.1 k hk), fun k h1 h2 => ?_⟩
  obtain ⟨k', q1, q2, q3⟩ := g.2.2 k h1 h2
  obtain ⟨j, p1, p2, p3⟩ := h.2.2 k' q1 q2
  exact ⟨j, p1, p2, q3.trans p3⟩
theorem rot_mv {d d' : Array α} {s m e : Nat} (h : Rot d d' s m e) (h1 : s <= m) (h2 : m <= e) : Mv d d' s e := by
  refine ⟨h.1, fun k hk => ?_, fun k hk1 hk2 => ?_⟩
  . rcases hk with hk | hk
    . exact (rot_at h k).1 hk
    . exact (rot_at h k).2.2.2 h1 h2 hk
  . by_cases hc : k < s + (e - m)
    . exact ⟨_, by omega, by omega, (rot_at h k).2.1 hk1 hc⟩
    . exact ⟨_, by omega, by omega, (rot_at h k).2.2.1 (by omega) hk2 (by omega)⟩
theorem Srt.same {d d' : Array α} {a b : Nat} (h : Srt L d a b) (he : ∀ k, a <= k -> k < b -> d'[k]! = d[k]!) : Srt L d' a b := fun i j hi hij hj => by
  rw [he i hi (by omega), he j (by omega) hj]; exact h i j hi hij hj
theorem srt_one (d : Array α) {a b : Nat} (h : b <= a + 1) : Srt L d a b := fun i j hi hij hj => by omega
def Cr (cf : α -> α -> Int) (L : α -> α -> Prop) (d : Array α) (a m b : Nat) : Prop := ∀ i j, a <= i -> i < m -> m <= j -> j < b -> 0 <= cf d[j]! d[i]! -> L d[i]! d[j]!
theorem cr_fst {cf : α -> α -> Int} {d d' : Array α} {a s m e b : Nat} (h : Cr cf L d a m b) (hR : Rot d d' s m e) (h2 : s <= m) (h3 : m <= e) (h4 : e <= b) : Cr cf L d' a s (s + (e - m)) := by
  intro i j hi hi2 hj hj2
  rw [(rot_at hR i).1 hi2, (rot_at hR j).2.1 hj hj2]
  exact h _ _ hi (by omega) (by omega) (by omega)
theorem cr_snd {cf : α -> α -> Int} {d d' : Array α} {a s m e b : Nat} (h : Cr cf L d a m b) (hR : Rot d d' s m e) (h1 : a <= s) (h2 : s <= m) (h3 : m <= e) : Cr cf L d' (s + (e - m)) e b := by
  intro i j hi hi2 hj hj2
  rw [(rot_at hR i).2.2.1 hi hi2 (by omega), (rot_at hR j).2.2.2 h2 h3 hj]
  exact h _ _ (by omega) (by omega) (by omega) (by omega)
theorem Cr.same {cf : α -> α -> Int} {d d' : Array α} {a m b : Nat} (h : Cr cf L d a m b) (he : ∀ k, a <= k -> k < b -> d'[k]! = d[k]!) : Cr cf L d' a m b := fun i j hi hi2 hj hj2 => by
  rw [he i hi (by omega), he j (by omega) hj2]; exact h i j hi hi2 hj hj2
theorem sym_join {d1 d2 d3 : Array α} {a c b : Nat} (hac : a <= c) (hcb : c <= b) (h1 : Mv d1 d2 a c) (h2 : Mv d2 d3 c b) (s1 : Srt L d2 a c) (s2 : Srt L d3 c b) (hx : ∀ i j, a <= i -> i < c -> c <= j -> j < b -> L d1[i]! d1[j]!) : Srt L d3 a b /\ Mv d1 d3 a b := by
  refine ⟨srt_join (s1.same fun k _ hk => h2.2.1 k (Or.inl hk)) s2 fun i j hi hi2 hj hj2 => ?_, (h1.wide (Nat.le_refl _) hcb).trans (h2.wide hac (Nat.le_refl _))⟩
  rw [h2.2.1 i (Or.inl hi2)]
  obtain ⟨i', p1, p2, p3⟩ := h1.2.2 i hi hi2
  obtain ⟨j', q1, q2, q3⟩ := h2.2.2 j hj hj2
  rw [p3, q3, h1.2.1 j' (Or.inr q1)]
  exact hx _ _ p1 p2 q1 q2
end
section
variable {n : Nat} [Inhabited (Fin n)] {L : Fin n -> Fin n -> Prop} {cf : Fin n -> Fin n -> Int}
theorem inner_rot (D : Array (Fin n)) (a i : Nat) (hi : i < D.size) : ∀ (j : Nat) (d : Array (Fin n)), a <= j -> j <= i -> Rot D d j i (i + 1) -> (j = i ∨ cf D[i]! D[j]! < 0) -> ∃ c, a <= c /\ c <= i /\ Rot D (insInner (ltOf cf) a j d) c i (i + 1) /\ (c = a ∨ 0 <= cf D[i]! D[c - 1]!) /\ (c = i ∨ cf D[i]! D[c]! < 0)
  | 0, d, haj, hji, hR, hc => ⟨0, by omega, by omega, hR, .inl (by omega), hc⟩
  | j + 1, d, haj, hji, hR, hc => by
    rw [insInner]
    have e1 : d[j + 1]! = D[i]! := by
      rw [(rot_at hR (j + 1)).2.1 (Nat.le_refl _) (by omega)]
      congr 1; omega
    have e2 : d[j]! = D[j]! := (rot_at hR j).1 (by omega)
    rw [e1, e2]
    by_cases h : (decide (j + 1 > a) && ltOf cf D[i]! D[j]!) = true
    . rw [if_pos h]
      have h' := Bool.and_eq_true_iff.1 h
      have h1 : j + 1 > a := of_decide_eq_true h'.1
      have h2 : cf D[i]! D[j]! < 0 := of_decide_eq_true h'.2
      have hR' := rot_left (c := j + 1) (by omega) hji hi hR
      exact inner_rot D a i hi j _ (by omega) (by omega) hR' (.inr h2)
    . rw [if_neg h]
      refine ⟨j + 1, haj, hji, hR, ?_, hc⟩
      by_cases hh : j + 1 = a
      . exact .inl hh
      . refine .inr ?_
        rw [show j + 1 - 1 = j by omega]
        refine Int.not_lt.1 fun h3 => h ?_
        rw [Bool.and_eq_true_iff]
        exact ⟨decide_eq_true (by omega), decide_eq_true h3⟩
theorem outer_srt (tr : ∀ x y z, L x y -> L y z -> L x z) (hL1 : ∀ x y, cf x y < 0 -> L x y) (hL2 : ∀ x y : Fin n, 0 <= cf x y -> y.1 < x.1 -> L y x) (D : Array (Fin n)) (a b : Nat) (hb : b <= D.size) (hD : ∀ x y, a <= x -> x < y -> y < b -> D[x]!.1 < D[y]!.1) : ∀ (r i : Nat) (d : Array (Fin n)), b - i <= r -> a < i -> i <= b -> Srt L d a i -> Mv D d a i -> Srt L (insOuter (ltOf cf) a b i d) a b /\ Mv D (insOuter (ltOf cf) a b i d) a b := by
  intro r
  induction r with
  | zero =>
    intro i d hr hai hib hs hm
    obtain rfl : i = b := by omega
    rw [insOuter, if_neg (by omega)]
    exact ⟨hs, hm⟩
  | succ r ih =>
    intro i d hr hai hib hs hm
    by_cases hib' : i < b
    . rw [insOuter, if_pos hib']
      obtain ⟨c, h1, h2, h3, h4, h5⟩ := inner_rot (cf := cf) d a i (by rw [hm.1]; omega) i d (by omega) (Nat.le_refl _) (rot_none2 d i (i + 1) (by omega)) (.inl rfl)
      have hdi : d[i]! = D[i]! := hm.2.1 i (.inr (Nat.le_refl _))
      have hs' := ins_last tr h1 h2 hs (h4.elim .inl fun h => by
        by_cases e : c = a
        . exact .inl e
        . refine .inr (hL2 _ _ h ?_)
          obtain ⟨k', q1, q2, q3⟩ := hm.2.2 (c - 1) (by omega) (by omega)
          rw [q3, hdi]
          exact hD _ _ q1 q2 hib') (h5.elim .inl fun h => .inr (hL1 _ _ h)) h3
      exact ih (i + 1) _ (by omega) (by omega) (by omega) hs' ((hm.wide (Nat.le_refl _) (Nat.le_succ _)).trans ((rot_mv h3 h2 (by omega)).wide h1 (Nat.le_refl _)))
    . obtain rfl : i = b := by omega
      rw [insOuter, if_neg (by omega)]
      exact ⟨hs, hm⟩
theorem ins_srt (tr : ∀ x y z, L x y -> L y z -> L x z) (hL1 : ∀ x y, cf x y < 0 -> L x y) (hL2 : ∀ x y : Fin n, 0 <= cf x y -> y.1 < x.1 -> L y x) (D : Array (Fin n)) (a b : Nat) (hab : a <= b) (hb : b <= D.size) (hD : ∀ x y, a <= x -> x < y -> y < b -> D[x]!.1 < D[y]!.1) : Srt L (insertionSort (ltOf cf) D a b) a b /\ Mv D (insertionSort (ltOf cf) D a b) a b := by
  unfold insertionSort
  by_cases e : a < b
  . exact outer_srt tr hL1 hL2 D a b hb hD (b - a) (a + 1) D (by omega) (by omega) (by omega) (srt_one D (by omega)) (Mv.refl _ _ _)
  . rw [insOuter, if_neg (by omega)]
    exact ⟨srt_one D (by omega), Mv.refl _ _ _⟩
structure Bx (L : Fin n -> Fin n -> Prop) (d : Array (Fin n)) (s S A : Nat) : Prop where
  sz : d.size = n
  lo : ∀ i j, i < j -> j < n -> j < A -> i / S = j / S -> L d[i]! d[j]!
  hi : ∀ i j, i < j -> j < n -> A <= i -> i / s = j / s -> L d[i]! d[j]!
  ol : ∀ k, k < n -> k < A -> d[k]!.1 / S = k / S
  oh : ∀ k, k < n -> A <= k -> d[k]!.1 / s = k / s
theorem Bx.next {d : Array (Fin n)} {s S A : Nat} (h : Bx L d s S A) (hA : n <= A) (S' : Nat) : Bx L d S S' 0 := ⟨h.sz, fun i j _ _ h0 => by omega, fun i j hij hj _ he => h.lo i j hij hj (by omega) he, fun k _ h0 => by omega, fun k hk _ => h.ol k hk (by omega)⟩
theorem Bx.all {d : Array (Fin n)} {s S : Nat} (h : Bx L d s S 0) (hs : n <= s) : Srt L d 0 n := fun i j _ hij hj => h.hi i j hij hj (Nat.zero_le _) (by rw [Nat.div_eq_of_lt (by omega), Nat.div_eq_of_lt (by omega)])
theorem div_in {S t x : Nat} (h1 : S * t <= x) (h2 : x < S * t + S) : x / S = t := by
  refine Nat.div_eq_of_lt_le ?_ ?_
  . rw [Nat.mul_comm]; exact h1
  . rw [Nat.succ_mul, Nat.mul_comm]; exact h2
theorem in_div {S t x : Nat} (hS : 0 < S) (h : x / S = t) : S * t <= x /\ x < S * t + S := by
  subst h
  have h1 := Nat.div_add_mod x S
  have h2 := Nat.mod_lt x hS
  constructor <;> omega
theorem Bx.step {d d' : Array (Fin n)} {s S t q B : Nat} (h : Bx L d s S (S * t)) (hs : 0 < s) (hq : 0 < q) (hS : S = s * q) (hB : B <= S * t + S) (hBn : B <= n) (hBe : B = S * t + S ∨ B = n) (hm : Mv d d' (S * t) B) (hs' : Srt L d' (S * t) B) : Bx L d' s S (S * t + S) := by
  have hS0 : 0 < S := by rw [hS]; exact Nat.mul_pos hs hq
  have coarse : ∀ x y, x / s = y / s -> x / S = y / S := fun x y e => by rw [hS, ← Nat.div_div_eq_div_mul, ← Nat.div_div_eq_div_mul, e]
  refine ⟨hm.1.trans h.sz, fun i j hij hj hj2 he => ?_, fun i j hij hj hi he => ?_, fun k hk hk2 => ?_, fun k hk hk2 => ?_⟩
  . by_cases hA : j < S * t
    . rw [hm.2.1 i (.inl (by omega)), hm.2.1 j (.inl hA)]
      exact h.lo i j hij hj hA he
    . have e1 := div_in (by omega : S * t <= j) hj2
      have e2 := in_div hS0 (he.trans e1)
      exact hs' i j e2.1 hij (by omega)
  . rw [hm.2.1 i (.inr (by omega)), hm.2.1 j (.inr (by omega))]
    exact h.hi i j hij hj (by omega) he
  . by_cases hA : k < S * t
    . rw [hm.2.1 k (.inl hA)]
      exact h.ol k hk hA
    . obtain ⟨k', q1, q2, q3⟩ := hm.2.2 k (by omega) (by omega)
      rw [q3, coarse _ _ (h.oh k' (by omega) q1), div_in q1 (by omega), div_in (by omega) hk2]
  . rw [hm.2.1 k (.inr (by omega))]
    exact h.oh k hk (by omega)
theorem Bx.srt {d : Array (Fin n)} {s S A : Nat} (h : Bx L d s S A) {t b : Nat} (hA : A <= s * t) (hb : b <= s * t + s) (hbn : b <= n) : Srt L d (s * t) b := fun i j hi hij hj => h.hi i j hij (by omega) (by omega) (by rw [div_in (by omega : s * t <= i) (by omega), div_in (by omega : s * t <= j) (by omega)])
theorem Bx.cr {d : Array (Fin n)} {s S A : Nat} (h : Bx L d s S A) (hs : 0 < s) (hL2 : ∀ x y : Fin n, 0 <= cf x y -> y.1 < x.1 -> L y x) {t b : Nat} (hA : A <= s * t) (hb : b <= s * t + s + s) (hbn : b <= n) : Cr cf L d (s * t) (s * t + s) b := by
  intro i j hi hi2 hj hj2 hc
  refine hL2 _ _ hc ?_
  have h1 := h.oh i (by omega) (by omega)
  have h2 := h.oh j (by omega) (by omega)
  rw [div_in (x := i) hi hi2] at h1
  rw [div_in (t := t + 1) (x := j) (by rw [Nat.mul_succ]; omega) (by rw [Nat.mul_succ]; omega)] at h2
  have h3 := in_div hs h1
  have h4 := in_div hs h2
  rw [Nat.mul_succ] at h4
  omega
end
set_option maxRecDepth 1000000 in
theorem lSym (n : Nat) [Inhabited (Fin n)] (gL gf : Nat) (cb : Array Value) (cf : Fin n -> Fin n -> Int) (L : Fin n -> Fin n -> Prop) (tr : ∀ x y z, L x y -> L y z -> L x z) (hL1 : ∀ x y, cf x y < 0 -> L x y) (d0 : Array (Fin n)) (w0 : World) (eg : ∀ args w, (callFunc gf args).run Tryd.prog w = .ok (.enter gf args) w) (hcmp : CmpLays1 Tryd.prog gf cb (encF (n := n)) cf gL 0 n w0) (R : Row1 (encF (n := n)) w0 gL 0 d0) (hs0 : d0.size = n) (hsz : n < 4611686018427387904) :
    ∀ (sz a m b : Nat) (d : Array (Fin n)) (w : World), b - a <= sz -> a < m -> m < b -> b <= n -> d.size = n -> SW (encF (n := n)) w0 gL 0 d w -> Srt L d a m -> Srt L d m b -> Cr cf L d a m b -> Calls Tryd.prog 83 #[.slice (some ⟨gL, 0, none⟩) n n, .int .i64 (a : Int), .int .i64 (m : Int), .int .i64 (b : Int), .func (.func gf) #[] cb] w fun e w' => e = .returned (.tuple #[]) /\ ∃ d', Srt L d' a b /\ Mv d d' a b /\ SW (encF (n := n)) w0 gL 0 d' w' := by
  intro sz
  induction sz with
  | zero => intro a m b d w h1 h2 h3; omega
  | succ sz ih =>
    intro a m b d w hsz2 ham hmb hbn hd S hA hB hX
    by_cases c1 : m <= a + 1
    . have e := lSymFirst n gL gf cb cf a b d0 d hd w0 w eg hcmp R (by omega) S m c1 (by omega) hmb hbn hsz
      refine Calls.mono e ?_
      rintro e w' ⟨rfl, i, h1, h2, h3, h4, d', hR, hS⟩
      obtain rfl : m = a + 1 := by omega
      refine ⟨rfl, d', ins_first tr h1 h2 hB (h3.elim .inl fun h => .inr (hL1 _ _ h)) ?_ hR, (rot_mv hR (by omega) h1).wide (Nat.le_refl _) h2, hS⟩
      by_cases e : i = b
      . exact .inl e
      . exact .inr (hX a i (Nat.le_refl _) (by omega) h1 (by omega) (h4.resolve_left e))
    by_cases c2 : b <= m + 1
    . have e := lSymLast n gL gf cb cf a b d0 d hd w0 w eg hcmp R (by omega) S m c2 (by omega) (by omega) hbn hsz
      refine Calls.mono e ?_
      rintro e w' ⟨rfl, i, h1, h2, h3, h4, d', hR, hS⟩
      obtain rfl : b = m + 1 := by omega
      refine ⟨rfl, d', ins_last tr h1 h2 hA ?_ (h4.elim .inl fun h => .inr (hL1 _ _ h)) hR, (rot_mv hR h2 (by omega)).wide h1 (Nat.le_refl _), hS⟩
      by_cases e : i = a
      . exact .inl e
      . exact .inr (hX (i - 1) m (by omega) (by omega) (Nat.le_refl _) (by omega) (h3.resolve_left e))
    have mixed : Tryd.prog.follows Departure.mixedOrders = true := by kernel_rfl
    have HC : Aside _ := hcmp
    have HQ : Aside _ := hcmp
    have S0 : Aside (SW (encF (n := n)) w0 gL 0 d w) := S
    have IH := hide ih
    have HAB := hide (And.intro hA (And.intro hB hX))
    have HT := hide (And.intro tr hL1)
    clear S hcmp ih hA hB hX tr hL1
    obtain ⟨mid, hm1, hm2⟩ : ∃ q : Nat, 2 * q <= a + b /\ a + b <= 2 * q + 1 := ⟨(a + b) / 2, by omega, by omega⟩
    obtain ⟨nn, hn1, hn2⟩ : ∃ q : Nat, q <= mid + m /\ mid + m <= q := ⟨_, Nat.le_refl _, Nat.le_refl _⟩
    obtain ⟨p, hp1, hp2⟩ : ∃ q : Nat, q + 1 <= nn /\ nn <= q + 1 := ⟨nn - 1, by omega, by omega⟩
    have q1 : IntKind.i64.wrap ((m : Int) - (a : Int)) = (m : Int) - (a : Int) := by rw [IntKind.wrap_i64]; omega
    have q2 : ((m : Int) - (a : Int) == 1) = false := by simp; omega
    have q3 : IntKind.i64.wrap ((b : Int) - (m : Int)) = (b : Int) - (m : Int) := by rw [IntKind.wrap_i64]; omega
    have q4 : ((b : Int) - (m : Int) == 1) = false := by simp; omega
    have q5 : IntKind.i64.wrap ((a : Int) + (b : Int)) = (a : Int) + (b : Int) := by rw [IntKind.wrap_i64]; omega
    have q6 : ((a : Int) + (b : Int)) / 2 = (mid : Int) := by omega
    have q7 : IntKind.i64.wrap ((mid : Int) + (m : Int)) = (nn : Int) := by rw [IntKind.wrap_i64]; omega
    have q8 : IntKind.i64.wrap ((nn : Int) - 1) = (p : Int) := by rw [IntKind.wrap_i64]; omega
    go_enter Tryd.func83, Tryd.ntmps83
    go_upto_if 140 with fail
    go_cut [20, 21] from 138 (fun s20 s21 wc => ∃ st r : Nat, s20 = .int .i64 (st : Int) /\ s21 = .int .i64 (r : Int) /\ a <= st /\ st <= r /\ r <= m /\ r <= mid /\ nn <= st + b /\ Hid (st = a ∨ nn = st + b) /\ Hid (r = mid ∨ r = m) /\ wc = w)
    case first =>
      by_cases hc : mid < m
      . have d1 : decide ((mid : Int) < (m : Int)) = true := decide_eq_true (by omega)
        obtain ⟨st, hs1, hs2⟩ : ∃ q : Nat, q + b <= nn /\ nn <= q + b := ⟨nn - b, by omega, by omega⟩
        have q9 : IntKind.i64.wrap ((nn : Int) - (b : Int)) = (st : Int) := by rw [IntKind.wrap_i64]; omega
        go_wp2_with fail
        go_meet
        case rel => exact ⟨st, mid, rfl, rfl, by omega, by omega, by omega, by omega, by omega, hide (.inr (by omega)), hide (.inl rfl), rfl⟩
      . have d1 : decide ((mid : Int) < (m : Int)) = false := decide_eq_false (by omega)
        go_wp2_with fail
        go_meet
        case rel => exact ⟨a, m, rfl, rfl, by omega, by omega, by omega, by omega, by omega, hide (.inl rfl), hide (.inr rfl), rfl⟩
    case rest =>
      obtain ⟨st0, r0, rfl, rfl, hst1, hst2, hr1, hr2, hst3, HST, HRR, rfl⟩ := hcut
      go_wp2_with fail
      go_loopg [20, 21, 23] (b) (fun kx s20 s21 _ wr => ∃ (i j : Nat), s20 = .int .i64 (i : Int) /\ s21 = .int .i64 (j : Int) /\ st0 <= i /\ i <= j /\ j <= r0 /\ j - i <= kx /\ Hid (i = st0 ∨ 0 <= cf d[p - (i - 1)]! d[i - 1]!) /\ Hid (j = r0 ∨ cf d[p - j]! d[j]! < 0) /\ Aside (SW (encF (n := n)) w0 gL 0 d wr))
      case atStart => exact ⟨st0, r0, rfl, rfl, Nat.le_refl _, by omega, Nat.le_refl _, by omega, hide (.inl rfl), hide (.inl rfl), S0⟩
      case round =>
        clear S0
        obtain ⟨i, j, rfl, rfl, hmi, hij, hjb, hkx, HI, HJ, S1⟩ := hrel
        by_cases hlt : i < j
        . have d1 : decide ((i : Int) < (j : Int)) = true := decide_eq_true (by omega)
          obtain ⟨c, hc1, hc2⟩ : ∃ q : Nat, 2 * q <= i + j /\ i + j <= 2 * q + 1 := ⟨(i + j) / 2, by omega, by omega⟩
          obtain ⟨pc, hpc1, hpc2⟩ : ∃ q : Nat, q + c <= p /\ p <= q + c := ⟨p - c, by omega, by omega⟩
          have r1 : IntKind.i64.wrap ((i : Int) + (j : Int)) = (i : Int) + (j : Int) := by rw [IntKind.wrap_i64]; omega
          have r2 : ((i : Int) + (j : Int)) / 2 = (c : Int) := by omega
          have r3 : IntKind.i64.wrap ((p : Int) - (c : Int)) = (pc : Int) := by rw [IntKind.wrap_i64]; omega
          have l1 := S1.out.cl R (by omega) pc (by omega)
          have l2 := S1.out.cl R (by omega) c (by omega)
          obtain ⟨x, hx⟩ : ∃ x, x = d[pc]! := ⟨_, rfl⟩
          obtain ⟨y, hy⟩ : ∃ x, x = d[c]! := ⟨_, rfl⟩
          rw [← hx] at l1
          rw [← hy] at l2
          have hc := S1.out.cmp HC.out (by omega) x y
          obtain ⟨pN, epN⟩ : ∃ q, q = pc := ⟨_, rfl⟩
          obtain ⟨cN, ecN⟩ : ∃ q, q = c := ⟨_, rfl⟩
          have ea : ((pc : Int)).toNat = pN := by omega
          have ba : (pc : Int) < (n : Int) := by omega
          have ec : ((c : Int)).toNat = cN := by omega
          have bc : (c : Int) < (n : Int) := by omega
          rw [← epN] at l1
          rw [← ecN] at l2
          simp only [encF, Nat.zero_add] at l1 l2 hc
          have HX := hide (And.intro hx hy)
          clear hx hy epN ecN
          by_cases hv : cf x y < 0
          . have hdv : decide (cf x y < 0) = true := decide_eq_true hv
            go_wp2_with fail
            go_quiet_grown (first | (go_at_fn gf; refine Calls.grown_of (hc _ _)))
            have S2 : Aside (SW (encF (n := n)) w0 gL 0 d (grow (wr.drewN nq) osq)) := S1.out.grown nq osq
            clear l1 l2 hc S1
            generalize grow (wr.drewN nq) osq = w2 at S2 ⊢
            clear nq osq
            go_wp2_with fail
            go_roundg (c - i)
            case measure => omega
            case rel =>
              have e2 := HX.out
              exact ⟨i, c, rfl, rfl, hmi, by omega, by omega, Nat.le_refl _, HI, hide (.inr (by rw [show p - c = pc by omega, ← e2.1, ← e2.2]; exact hv)), S2⟩
          . have hdv : decide (cf x y < 0) = false := decide_eq_false hv
            go_wp2_with fail
            go_quiet_grown (first | (go_at_fn gf; refine Calls.grown_of (hc _ _)))
            have S2 : Aside (SW (encF (n := n)) w0 gL 0 d (grow (wr.drewN nq) osq)) := S1.out.grown nq osq
            clear l1 l2 hc S1
            generalize grow (wr.drewN nq) osq = w2 at S2 ⊢
            clear nq osq
            go_wp2_with fail
            go_roundg (j - (c + 1))
            case measure => omega
            case rel =>
              have e2 := HX.out
              exact ⟨c + 1, j, by congr 1, rfl, by omega, by omega, hjb, Nat.le_refl _, hide (.inr (by rw [show p - (c + 1 - 1) = pc by omega, show c + 1 - 1 = c by omega, ← e2.1, ← e2.2]; omega)), HJ, S2⟩
        . obtain rfl : i = j := by omega
          have d1 : decide ((i : Int) < (i : Int)) = false := decide_eq_false (by omega)
          obtain ⟨e, he1, he2⟩ : ∃ q : Nat, q + i <= nn /\ nn <= q + i := ⟨nn - i, by omega, by omega⟩
          have q9 : IntKind.i64.wrap ((nn : Int) - (i : Int)) = (e : Int) := by rw [IntKind.wrap_i64]; omega
          have hme : m <= e := by omega
          have heb : e <= b := by omega
          have him : i <= m := by omega
          have hai : a <= i := by omega
          have himid : i <= mid := by omega
          have k1 : i = a ∨ e = b ∨ L d[i - 1]! d[e]! := by
            rcases HI.out with h | h
            . rcases HST.out with h2 | h2
              . exact .inl (by omega)
              . exact .inr (.inl (by omega))
            . by_cases g1 : i = a
              . exact .inl g1
              . by_cases g2 : e = b
                . exact .inr (.inl g2)
                . by_cases g3 : i = st0
                  . rcases HST.out with h2 | h2 <;> omega
                  . refine .inr (.inr (HAB.out.2.2 (i - 1) e (by omega) (by omega) hme (by omega) ?_))
                    rw [show e = p - (i - 1) by omega]
                    exact h
          have k2 : e = m ∨ i = m ∨ L d[e - 1]! d[i]! := by
            rcases HJ.out with h | h
            . rcases HRR.out with h2 | h2
              . exact .inl (by omega)
              . exact .inr (.inl (by omega))
            . refine .inr (.inr (HT.out.2 _ _ ?_))
              rw [show e - 1 = p - i by omega]
              exact h
          have hsum : mid <= i + (e - m) /\ i + (e - m) <= mid := by omega
          have KK := hide (fun d' (hR : Rot d d' i m e) => sym_key HT.out.1 hai him hme heb HAB.out.1 HAB.out.2.1 hR k1 k2)
          clear k1 k2 HI HJ
          go_upto_region 39 with fail
          go_cut [185] from 178 (fun sb wc => ∃ bb : Bool, sb = .bool bb /\ Hid (bb = true ↔ i < m /\ m < e) /\ wc = wr)
          case first =>
            by_cases g1 : i < m
            . have d2 : decide ((i : Int) < (m : Int)) = true := decide_eq_true (by omega)
              by_cases g2 : m < e
              . have d3 : decide ((m : Int) < (e : Int)) = true := decide_eq_true (by omega)
                go_wp2_with fail
                go_meet
                case rel => exact ⟨true, rfl, hide ⟨fun _ => ⟨g1, g2⟩, fun _ => rfl⟩, rfl⟩
              . have d3 : decide ((m : Int) < (e : Int)) = false := decide_eq_false (by omega)
                go_wp2_with fail
                go_meet
                case rel => exact ⟨false, rfl, hide ⟨fun h => (by cases h), fun h => absurd h.2 g2⟩, rfl⟩
            . have d2 : decide ((i : Int) < (m : Int)) = false := decide_eq_false (by omega)
              go_wp2_with fail
              go_meet
              case rel => exact ⟨false, rfl, hide ⟨fun h => (by cases h), fun h => absurd h.1 g1⟩, rfl⟩
          case rest =>
          obtain ⟨bb, rfl, HBB, rfl⟩ := hcut
          go_upto_if 185 with fail
          go_cut [] from 178 (fun wc => ∃ d1, Hid (Rot d d1 i m e) /\ Aside (SW (encF (n := n)) w0 gL 0 d1 wc))
          case first =>
            cases bb with
            | true =>
              obtain ⟨g1, g2⟩ := HBB.out.1 rfl
              go_wp2_with (go_at_call 89; (with_reducible refine Calls.mono (lRotate n gL gf cb i m e d0 d hd w0 _ R (by omega) S1.out g1 g2 (by omega) hsz) ?_); rintro _ w2 ⟨rfl, d1, hR, hS2⟩; have HR2 := hide hR; have S2 : Aside (SW (encF (n := n)) w0 gL 0 d1 w2) := hS2; clear hS2 hR)
              go_meet
              case rel => exact ⟨d1, HR2, S2⟩
            | false =>
              go_wp2_with fail
              go_meet
              case rel =>
                refine ⟨d, hide ?_, S1⟩
                by_cases g1 : i < m
                . rw [show e = m from Nat.le_antisymm (Nat.le_of_not_lt fun g2 => by have := HBB.out.2 ⟨g1, g2⟩; cases this) hme]; exact rot_none d i m him
                . rw [show i = m by omega]; exact rot_none2 d m e hme
          case rest =>
            clear S1
            obtain ⟨d1, HR1, S1⟩ := hcut
            have hd1 : d1.size = n := by rw [HR1.out.1, hd]
            go_upto_region 41 with fail
            go_cut [199] from 192 (fun sb wc2 => ∃ bb : Bool, sb = .bool bb /\ Hid (bb = true ↔ a < i /\ i < mid) /\ wc2 = wc)
            case first =>
              by_cases g1 : a < i
              . have d2 : decide ((a : Int) < (i : Int)) = true := decide_eq_true (by omega)
                by_cases g2 : i < mid
                . have d3 : decide ((i : Int) < (mid : Int)) = true := decide_eq_true (by omega)
                  go_wp2_with fail
                  go_meet
                  case rel => exact ⟨true, rfl, hide ⟨fun _ => ⟨g1, g2⟩, fun _ => rfl⟩, rfl⟩
                . have d3 : decide ((i : Int) < (mid : Int)) = false := decide_eq_false (by omega)
                  go_wp2_with fail
                  go_meet
                  case rel => exact ⟨false, rfl, hide ⟨fun h => (by cases h), fun h => absurd h.2 g2⟩, rfl⟩
              . have d2 : decide ((a : Int) < (i : Int)) = false := decide_eq_false (by omega)
                go_wp2_with fail
                go_meet
                case rel => exact ⟨false, rfl, hide ⟨fun h => (by cases h), fun h => absurd h.1 g1⟩, rfl⟩
            case rest =>
            obtain ⟨bb, rfl, HBB, rfl⟩ := hcut
            go_upto_if 199 with fail
            go_cut [] from 192 (fun wc => ∃ d2, Hid (Srt L d2 a mid /\ Mv d1 d2 a mid) /\ Aside (SW (encF (n := n)) w0 gL 0 d2 wc))
            case first =>
              cases bb with
              | true =>
                obtain ⟨g1, g2⟩ := HBB.out.1 rfl
                have kk := KK.out d1 HR1.out
                have kc := cr_fst HAB.out.2.2 HR1.out him hme heb
                have es : i + (e - m) = mid := by omega
                rw [es] at kk kc
                have c5 := IH.out a i mid d1 _ (by omega) g1 g2 (by omega) hd1 S1.out kk.1 kk.2.1 kc
                clear kk kc es
                go_wp2_with (go_at_call 83; (with_reducible refine Calls.mono c5 ?_); rintro _ w2 ⟨rfl, d2, h1, h2, hS2⟩; have HR2 := hide (And.intro h1 h2); have S2 : Aside (SW (encF (n := n)) w0 gL 0 d2 w2) := hS2; clear hS2 h1 h2)
                go_meet
                case rel => exact ⟨d2, HR2, S2⟩
              | false =>
                go_wp2_with fail
                go_meet
                case rel =>
                  refine ⟨d1, hide ⟨?_, Mv.refl _ _ _⟩, S1⟩
                  by_cases g1 : a < i
                  . rw [show mid = i from Nat.le_antisymm (Nat.le_of_not_lt fun g2 => by have := HBB.out.2 ⟨g1, g2⟩; cases this) himid]; exact (KK.out d1 HR1.out).1
                  . have h := (KK.out d1 HR1.out).2.1
                    rw [show i + (e - m) = mid by omega, show i = a by omega] at h
                    exact h
            case rest =>
              clear S1
              obtain ⟨d2, HS2, S1⟩ := hcut
              have hd2 : d2.size = n := by rw [HS2.out.2.1, hd1]
              have FIN : ∀ d3, Srt L d3 mid b -> Mv d2 d3 mid b -> Srt L d3 a b /\ Mv d d3 a b := fun d3 h1 h2 => by
                have kk := (KK.out d1 HR1.out).2.2.2.2
                rw [show i + (e - m) = mid by omega] at kk
                have h3 := sym_join (by omega) (by omega) HS2.out.2 h2 HS2.out.1 h1 kk
                exact ⟨h3.1, ((rot_mv HR1.out him hme).wide hai heb).trans h3.2⟩
              have HF := hide FIN
              have k4 : Srt L d2 mid e := by
                have h := (KK.out d1 HR1.out).2.2.1
                rw [show i + (e - m) = mid by omega] at h
                exact h.same fun k hk _ => HS2.out.2.2.1 k (.inr hk)
              have k5 : Srt L d2 e b := (KK.out d1 HR1.out).2.2.2.1.same fun k hk _ => HS2.out.2.2.1 k (.inr (by omega))
              have HK := hide (And.intro k4 k5)
              clear FIN k4 k5
              by_cases g1 : mid < e
              . have d2' : decide ((mid : Int) < (e : Int)) = true := decide_eq_true (by omega)
                by_cases g2 : e < b
                . have d3 : decide ((e : Int) < (b : Int)) = true := decide_eq_true (by omega)
                  have kc := cr_snd HAB.out.2.2 HR1.out hai him hme
                  rw [show i + (e - m) = mid by omega] at kc
                  have c5 := IH.out mid e b d2 wc (by omega) g1 g2 (by omega) hd2 S1.out HK.out.1 HK.out.2 (kc.same fun k hk _ => HS2.out.2.2.1 k (.inr hk))
                  clear kc
                  go_wp2_with (go_at_call 83; (with_reducible refine Calls.mono c5 ?_); rintro _ w2 ⟨rfl, d3, h1, h2, hS2⟩; have HR2 := hide (And.intro h1 h2); have S2 : Aside (SW (encF (n := n)) w0 gL 0 d3 w2) := hS2; clear hS2 h1 h2)
                  go_end0
                  exact ⟨rfl, d3, (HF.out d3 HR2.out.1 HR2.out.2).1, (HF.out d3 HR2.out.1 HR2.out.2).2, S2.out⟩
                . have d3 : decide ((e : Int) < (b : Int)) = false := decide_eq_false (by omega)
                  go_wp2_with fail
                  go_end0
                  have h := HF.out d2 (by rw [show b = e by omega]; exact HK.out.1) (Mv.refl _ _ _)
                  exact ⟨rfl, d2, h.1, h.2, S1.out⟩
              . have d2' : decide ((mid : Int) < (e : Int)) = false := decide_eq_false (by omega)
                go_wp2_with fail
                go_end0
                have h := HF.out d2 (by rw [show mid = e by omega]; exact HK.out.2) (Mv.refl _ _ _)
                exact ⟨rfl, d2, h.1, h.2, S1.out⟩
theorem mul_two (s t : Nat) : 2 * s * t = s * (2 * t) := by rw [Nat.mul_comm 2 s, Nat.mul_assoc]
set_option maxRecDepth 1000000 in
theorem lStableA (n : Nat) [Inhabited (Fin n)] (gL gf : Nat) (cb : Array Value) (cf : Fin n -> Fin n -> Int) (L : Fin n -> Fin n -> Prop) (tr : ∀ x y z, L x y -> L y z -> L x z) (hL1 : ∀ x y, cf x y < 0 -> L x y) (hL2 : ∀ x y : Fin n, 0 <= cf x y -> y.1 < x.1 -> L y x) (d : Array (Fin n)) (hd : d.size = n) (hid : ∀ k, k < n -> d[k]!.1 = k) (w : World) (eg : ∀ args w, (callFunc gf args).run Tryd.prog w = .ok (.enter gf args) w) (hcmp : CmpLays1 Tryd.prog gf cb (encF (n := n)) cf gL 0 n w) (hH : Sort.Holds (encF (n := n)) w gL 0 d) (hblk : gL < w.heap.size) (hsz : n < 1000000000000000000) :
    Calls Tryd.prog 74 #[.slice (some ⟨gL, 0, none⟩) n n, .int .i64 (n : Int), .func (.func gf) #[] cb] w fun e w' => e = .returned (.tuple #[]) /\ ∃ d', d'.size = n /\ Srt L d' 0 n /\ SW (encF (n := n)) w gL 0 d' w' := by
  have hR : Row1 (encF (n := n)) w gL 0 d := ⟨fun _ => rfl, hH, hblk⟩
  have S0 : Aside (SW (encF (n := n)) w gL 0 d w) := SW.start hH
  have CI : Hid (∀ (A B : Nat) (dk : Array (Fin n)) (W : World), dk.size = n -> SW (encF (n := n)) w gL 0 dk W -> A <= B -> B <= n -> Calls Tryd.prog 82 #[.slice (some ⟨gL, 0, none⟩) n n, .int .i64 (A : Int), .int .i64 (B : Int), .func (.func gf) #[] cb] W fun e w' => e = .returned (.tuple #[]) /\ SW (encF (n := n)) w gL 0 (insertionSort (ltOf cf) dk A B) w') := hide (fun A B dk W h1 hS hab hb => by
    have c1 := Any.insertionSortCmpFunc_s Tryd.insertI (encF (n := n)) cf gf cb gL 0 n A B d dk w W eg (by rw [hd]; exact hcmp) hR (by rw [hd, h1]) hS hab (by omega) (by omega)
    rw [h1] at c1
    exact c1)
  have CS := hide (fun (A m B : Nat) (dk : Array (Fin n)) (W : World) (h1 : dk.size = n) (hS : SW (encF (n := n)) w gL 0 dk W) (ham : A < m) (hmb : m < B) (hb : B <= n) (q1 : Srt L dk A m) (q2 : Srt L dk m B) (q3 : Cr cf L dk A m B) => lSym n gL gf cb cf L tr hL1 d w eg hcmp hR hd (by omega) (B - A) A m B dk W (Nat.le_refl _) ham hmb hb h1 hS q1 q2 q3)
  have B0 : Hid (Bx L d 1 20 (20 * 0)) := hide ⟨hd, fun i j _ _ h0 => by omega, fun i j hij _ _ he => by rw [Nat.div_one, Nat.div_one] at he; omega, fun k _ h0 => by omega, fun k hk _ => by rw [hid k hk]⟩
  have HL := hide (And.intro tr (And.intro hL1 hL2))
  clear hcmp hH hR hd hid eg tr hL1 hL2
  go_enter Tryd.func74, Tryd.ntmps74
  go_wp2_with fail
  go_loopg [7, 8] (n) (fun kx v7 v8 wr => ∃ (A B t : Nat) (dk : Array (Fin n)), v7 = .int .i64 (A : Int) /\ v8 = .int .i64 (B : Int) /\ Hid (A = 20 * t) /\ A <= n /\ B <= A + 20 /\ A + 20 <= B /\ n - A <= kx /\ Hid (Bx L dk 1 20 (20 * t)) /\ Aside (SW (encF (n := n)) w gL 0 dk wr))
  case atStart => exact ⟨0, 20, 0, d, rfl, rfl, hide rfl, by omega, by omega, by omega, by omega, B0, S0⟩
  case round =>
    clear S0 B0
    obtain ⟨A, B, t, dk, rfl, rfl, HA, hAn, hB1, hB2, hkx, HB, S1⟩ := hrel
    have hdk := HB.out.sz
    have asc : ∀ (x y : Nat), A <= x -> x < y -> y < n -> dk[x]!.1 < dk[y]!.1 := fun x y h1 h2 h3 => by
      have e1 := HB.out.oh x (by omega) (by rw [← HA.out]; omega)
      have e2 := HB.out.oh y (by omega) (by rw [← HA.out]; omega)
      rw [Nat.div_one, Nat.div_one] at e1 e2
      omega
    have HAS := hide asc
    clear asc
    by_cases hlt : B <= n
    . have d1 : decide ((B : Int) <= (n : Int)) = true := decide_eq_true (by omega)
      obtain ⟨B2, hb1, hb2⟩ : ∃ q : Nat, q <= B + 20 /\ B + 20 <= q := ⟨_, Nat.le_refl _, Nat.le_refl _⟩
      have r1 : IntKind.i64.wrap ((B : Int) + 20) = (B2 : Int) := by rw [IntKind.wrap_i64]; omega
      have c1 := CI.out A B dk wr hdk S1.out (by omega) hlt
      go_wp2_with (go_at_call 82; (with_reducible refine Calls.mono c1 ?_); rintro _ w2 ⟨rfl, hS2⟩; have S2 : Aside (SW (encF (n := n)) w gL 0 (insertionSort (ltOf cf) dk A B) w2) := hS2; clear hS2)
      go_roundg (n - B)
      case measure => omega
      case rel =>
        have hi := ins_srt HL.out.1 HL.out.2.1 HL.out.2.2 dk A B (by omega) (by omega) (fun x y h1 h2 h3 => HAS.out x y h1 h2 (by omega))
        have eA := HA.out
        refine ⟨B, B2, t + 1, _, rfl, rfl, hide (by omega), hlt, by omega, by omega, Nat.le_refl _, hide ?_, S2⟩
        rw [eA] at hi
        have := HB.out.step (q := 20) (B := B) (by omega) (by omega) rfl (by omega) hlt (.inl (by omega)) hi.2 hi.1
        rw [eA]
        exact this
    . have d1 : decide ((B : Int) <= (n : Int)) = false := decide_eq_false (by omega)
      have c1 := CI.out A n dk wr hdk S1.out hAn (Nat.le_refl _)
      go_wp2_with (go_at_call 82; (with_reducible refine Calls.mono c1 ?_); rintro _ w2 ⟨rfl, hS2⟩; have S2 : Aside (SW (encF (n := n)) w gL 0 (insertionSort (ltOf cf) dk A n) w2) := hS2; clear hS2)
      have B2 : Hid (Bx L (insertionSort (ltOf cf) dk A n) 20 40 0) := hide (by
        have hi := ins_srt HL.out.1 HL.out.2.1 HL.out.2.2 dk A n (by omega) (by omega) (fun x y h1 h2 h3 => HAS.out x y h1 h2 h3)
        have eA := HA.out
        rw [eA] at hi
        have := HB.out.step (q := 20) (B := n) (by omega) (by omega) rfl (by omega) (Nat.le_refl _) (.inr rfl) hi.2 hi.1
        rw [eA]
        exact this.next (by omega) 40)
      generalize insertionSort (ltOf cf) dk A n = d2 at S2 B2
      clear c1 S1 HB HAS HA hkx
      go_loopg [6, 7, 8, 9] (n) (fun kx v6 _ _ _ wx => ∃ (s : Nat) (dj : Array (Fin n)), v6 = .int .i64 (s : Int) /\ 20 <= s /\ s <= 2 * n + 40 /\ n - s <= kx /\ Hid (Bx L dj s (2 * s) (2 * s * 0)) /\ Aside (SW (encF (n := n)) w gL 0 dj wx))
      case atStart => exact ⟨20, d2, rfl, by omega, by omega, by omega, hide (by rw [Nat.mul_zero]; exact B2.out), S2⟩
      case round =>
        clear S2 B2
        obtain ⟨s, dj, rfl, hs20, hs2, hkx, HB, S1⟩ := hrel
        by_cases hsn : s < n
        . have d2 : decide ((s : Int) < (n : Int)) = true := decide_eq_true (by omega)
          obtain ⟨SS, hS1, hS2⟩ : ∃ q : Nat, q <= 2 * s /\ 2 * s <= q := ⟨_, Nat.le_refl _, Nat.le_refl _⟩
          have r1 : IntKind.i64.wrap (2 * (s : Int)) = (SS : Int) := by rw [IntKind.wrap_i64]; omega
          have r2 : IntKind.i64.wrap ((s : Int) * 2) = (SS : Int) := by rw [IntKind.wrap_i64]; omega
          go_wp2_with fail
          go_loopg [7, 8] (n) (fun ky v7 v8 wy => ∃ (A B t : Nat) (dk : Array (Fin n)), v7 = .int .i64 (A : Int) /\ v8 = .int .i64 (B : Int) /\ Hid (A = 2 * s * t) /\ A <= n /\ B <= A + SS /\ A + SS <= B /\ n - A <= ky /\ Hid (Bx L dk s (2 * s) (2 * s * t)) /\ Aside (SW (encF (n := n)) w gL 0 dk wy))
          case atStart => exact ⟨0, SS, 0, dj, rfl, rfl, hide rfl, by omega, by omega, by omega, by omega, HB, S1⟩
          case round =>
            clear S1 HB
            obtain ⟨A, B, t, dk, rfl, rfl, HA, hAn, hB1, hB2, hky, HB, S1⟩ := hrel
            have hdk := HB.out.sz
            obtain ⟨mm, hm1, hm2⟩ : ∃ q : Nat, q <= A + s /\ A + s <= q := ⟨_, Nat.le_refl _, Nat.le_refl _⟩
            have r3 : IntKind.i64.wrap ((A : Int) + (s : Int)) = (mm : Int) := by rw [IntKind.wrap_i64]; omega
            have K1 : ∀ b, b <= A + s -> b <= n -> Srt L dk A b := fun b h1 h2 => by
              have e := HA.out
              rw [mul_two] at e
              rw [e]
              exact HB.out.srt (t := 2 * t) (by rw [mul_two]; exact Nat.le_refl _) (by omega) h2
            have K2 : ∀ b, b <= mm + s -> b <= n -> Srt L dk mm b := fun b h1 h2 => by
              have e := HA.out
              rw [mul_two] at e
              have e2 : mm = s * (2 * t + 1) := by rw [Nat.mul_succ]; omega
              rw [e2]
              exact HB.out.srt (t := 2 * t + 1) (by rw [mul_two]; rw [Nat.mul_succ]; omega) (by omega) h2
            have K3 : ∀ b, b <= A + s + s -> b <= n -> Cr cf L dk A mm b := fun b h1 h2 => by
              have e := HA.out
              rw [mul_two] at e
              have := HB.out.cr (t := 2 * t) (b := b) (by omega) HL.out.2.2 (by rw [mul_two]; exact Nat.le_refl _) (by omega) h2
              rw [← e, show A + s = mm by omega] at this
              exact this
            have ST : ∀ b d', b <= A + SS -> b <= n -> (b = A + SS ∨ b = n) -> Mv dk d' A b -> Srt L d' A b -> Bx L d' s (2 * s) (2 * s * (t + 1)) := fun b d' h1 h2 h3 h4 h5 => by
              have e := HA.out
              rw [e] at h4 h5
              rw [Nat.mul_succ]
              exact HB.out.step (q := 2) (by omega) (by omega) (Nat.mul_comm _ _) (by omega) h2 (by omega) h4 h5
            have KK := hide (And.intro K1 (And.intro K2 (And.intro K3 ST)))
            clear K1 K2 K3 ST
            by_cases hlt2 : B <= n
            . have d3 : decide ((B : Int) <= (n : Int)) = true := decide_eq_true (by omega)
              obtain ⟨B2, hb1, hb2⟩ : ∃ q : Nat, q <= B + SS /\ B + SS <= q := ⟨_, Nat.le_refl _, Nat.le_refl _⟩
              have r4 : IntKind.i64.wrap ((B : Int) + (SS : Int)) = (B2 : Int) := by rw [IntKind.wrap_i64]; omega
              have c1 := CS.out A mm B dk wr hdk S1.out (by omega) (by omega) hlt2 (KK.out.1 mm (by omega) (by omega)) (KK.out.2.1 B (by omega) hlt2) (KK.out.2.2.1 B (by omega) hlt2)
              go_wp2_with (go_at_call 83; (with_reducible refine Calls.mono c1 ?_); rintro _ w3 ⟨rfl, d3, h1, h2, hS2⟩; have HM := hide (And.intro h1 h2); have S2 : Aside (SW (encF (n := n)) w gL 0 d3 w3) := hS2; clear hS2 h1 h2)
              go_roundg (n - B)
              case measure => omega
              case rel =>
                have eA := HA.out
                exact ⟨B, B2, t + 1, d3, rfl, rfl, hide (by rw [Nat.mul_succ]; omega), hlt2, by omega, by omega, Nat.le_refl _, hide (KK.out.2.2.2 B d3 (by omega) hlt2 (.inl (by omega)) HM.out.2 HM.out.1), S2⟩
            . have d3 : decide ((B : Int) <= (n : Int)) = false := decide_eq_false (by omega)
              have eNA : n <= 2 * s * (t + 1) := by
                have eA := HA.out
                rw [Nat.mul_succ]; omega
              have HNA := hide eNA
              clear eNA
              by_cases hmn : mm < n
              . have d4 : decide ((mm : Int) < (n : Int)) = true := decide_eq_true (by omega)
                have c1 := CS.out A mm n dk wr hdk S1.out (by omega) hmn (Nat.le_refl _) (KK.out.1 mm (by omega) (by omega)) (KK.out.2.1 n (by omega) (Nat.le_refl _)) (KK.out.2.2.1 n (by omega) (Nat.le_refl _))
                go_wp2_with (go_at_call 83; (with_reducible refine Calls.mono c1 ?_); rintro _ w3 ⟨rfl, d3, h1, h2, hS2⟩; have HM := hide (And.intro h1 h2); have S2 : Aside (SW (encF (n := n)) w gL 0 d3 w3) := hS2; clear hS2 h1 h2)
                go_roundg (n - SS)
                case measure => omega
                case rel =>
                  refine ⟨SS, d3, rfl, by omega, by omega, Nat.le_refl _, hide ?_, S2⟩
                  have := (KK.out.2.2.2 n d3 (by omega) (Nat.le_refl _) (.inr rfl) HM.out.2 HM.out.1).next HNA.out (2 * SS)
                  rw [Nat.mul_zero, show SS = 2 * s by omega]
                  rw [show SS = 2 * s by omega] at this
                  exact this
              . have d4 : decide ((mm : Int) < (n : Int)) = false := decide_eq_false (by omega)
                go_wp2_with fail
                go_roundg (n - SS)
                case measure => omega
                case rel =>
                  refine ⟨SS, dk, rfl, by omega, by omega, Nat.le_refl _, hide ?_, S1⟩
                  have := (KK.out.2.2.2 n dk (by omega) (Nat.le_refl _) (.inr rfl) (Mv.refl _ _ _) (KK.out.1 n (by omega) (Nat.le_refl _))).next HNA.out (2 * SS)
                  rw [Nat.mul_zero, show SS = 2 * s by omega]
                  rw [show SS = 2 * s by omega] at this
                  exact this
        . have d2 : decide ((s : Int) < (n : Int)) = false := decide_eq_false (by omega)
          go_wp2_with fail
          go_end0
          refine ⟨rfl, dj, HB.out.sz, ?_, S1.out⟩
          have := HB.out
          rw [Nat.mul_zero] at this
          exact this.all (by omega)
theorem lSortStableA (n : Nat) [Inhabited (Fin n)] (gL gf : Nat) (cb : Array Value) (cf : Fin n -> Fin n -> Int) (L : Fin n -> Fin n -> Prop) (tr : ∀ x y z, L x y -> L y z -> L x z) (hL1 : ∀ x y, cf x y < 0 -> L x y) (hL2 : ∀ x y : Fin n, 0 <= cf x y -> y.1 < x.1 -> L y x) (d : Array (Fin n)) (hd : d.size = n) (hid : ∀ k, k < n -> d[k]!.1 = k) (w : World) (eg : ∀ args w, (callFunc gf args).run Tryd.prog w = .ok (.enter gf args) w) (hcmp : CmpLays1 Tryd.prog gf cb (encF (n := n)) cf gL 0 n w) (hH : Sort.Holds (encF (n := n)) w gL 0 d) (hblk : gL < w.heap.size) (hsz : n < 1000000000000000000) :
    Calls Tryd.prog 61 #[.slice (some ⟨gL, 0, none⟩) n n, .func (.func gf) #[] cb] w fun e w' => e = .returned (.tuple #[]) /\ ∃ d', d'.size = n /\ Srt L d' 0 n /\ SW (encF (n := n)) w gL 0 d' w' := by
  have c1 := lStableA n gL gf cb cf L tr hL1 hL2 d hd hid w eg hcmp hH hblk hsz
  clear hcmp hH eg hid
  go_enter Tryd.func61, Tryd.ntmps61
  go_wp2_with (go_at_call 74; refine Calls.mono c1 ?_; rintro e w2 ⟨rfl, d', h1, h2, hS⟩; have HS := hide (And.intro h1 (And.intro h2 hS)); clear hS h1 h2)
  go_end0
  exact ⟨rfl, d', HS.out⟩
end Go.Proofs.YthndpbjplcphpaaDoor.Lay
