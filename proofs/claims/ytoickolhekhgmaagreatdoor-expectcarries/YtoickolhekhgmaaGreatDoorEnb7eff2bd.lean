import Derived.Test.YtoickolhekhgmaaGreatDoorProg
import Derived.Laws.BitsAllLaws
import Derived.KernelRfl
set_option maxHeartbeats 2000000
namespace Go.Proofs.YtoickolhekhgmaaGreatDoor.Pau
open Go
def bt (x q : Nat) : Nat := x / 2 ^ q % 2
def sm : Nat -> (Nat -> Nat) -> Nat
  | 0, _ => 0
  | n + 1, f => sm n f + f n
theorem bt_lt (x q : Nat) : bt x q < 2 := Nat.mod_lt _ (by decide)
theorem sm_congr {f g : Nat -> Nat} : ∀ n, (∀ q, q < n -> f q = g q) -> sm n f = sm n g
  | 0, _ => rfl
  | n + 1, h => by rw [sm, sm, sm_congr n (fun q hq => h q (by omega)), h n (by omega)]
theorem sm_add (f g : Nat -> Nat) : ∀ n, sm n (fun q => f q + g q) = sm n f + sm n g
  | 0 => rfl
  | n + 1 => by rw [sm, sm, sm, sm_add f g n]; omega
theorem sm_mul (c : Nat) (f : Nat -> Nat) : ∀ n, sm n (fun q => c * f q) = c * sm n f
  | 0 => rfl
  | n + 1 => by rw [sm, sm, sm_mul c f n, Nat.mul_add]
theorem sm_le (f : Nat -> Nat) (c : Nat) (h : ∀ q, f q <= c) : ∀ n, sm n f <= n * c
  | 0 => by simp [sm]
  | n + 1 => by
    have := sm_le f c h n
    have := h n
    rw [sm, Nat.succ_mul]
    omega
theorem sm_split (f : Nat -> Nat) (m : Nat) : ∀ n, sm (m + n) f = sm m f + sm n (fun q => f (m + q))
  | 0 => rfl
  | n + 1 => by rw [← Nat.add_assoc, sm, sm, sm_split f m n]; omega
theorem sm_zero {f : Nat -> Nat} : ∀ n, (∀ q, q < n -> f q = 0) -> sm n f = 0
  | 0, _ => rfl
  | n + 1, h => by rw [sm, sm_zero n (fun q hq => h q (by omega)), h n (by omega)]
theorem bt_hi (x q : Nat) : bt x (8 + q) = bt (x / 256) q := by
  unfold bt
  rw [Nat.pow_add, show (2 : Nat) ^ 8 = 256 from rfl, Nat.div_div_eq_div_mul]
theorem bt_lo (x q : Nat) (h : q < 8) : bt x q = bt (x % 256) q := by
  unfold bt
  obtain ⟨k, hk⟩ : ∃ k, q + (k + 1) = 8 := ⟨7 - q, by omega⟩
  rw [show (256 : Nat) = 2 ^ (q + (k + 1)) from by rw [hk], Nat.pow_add, Nat.mod_mul, Nat.add_mul_div_left _ _ (Nat.two_pow_pos q), Nat.div_eq_of_lt (Nat.mod_lt _ (Nat.two_pow_pos q)), Nat.zero_add, Nat.pow_succ, Nat.mod_mod_of_dvd _ (Nat.dvd_mul_left 2 (2 ^ k))]
def pb (a : Nat) : Nat := sm 8 (bt a)
theorem pop_byte (x n : Nat) : sm (8 + n) (bt x) = pb (x % 256) + sm n (bt (x / 256)) := by
  rw [sm_split, sm_congr n (fun q _ => bt_hi x q), sm_congr 8 (fun q hq => bt_lo x q hq)]
  rfl
def Mk8 (c : Nat) : Nat -> Nat
  | 0 => 0
  | k + 1 => c + 256 * Mk8 c k
theorem and_split (x c : Nat) (hc : c < 256) (k : Nat) : x &&& Mk8 c (k + 1) = (x % 256 &&& c) + 256 * (x / 256 &&& Mk8 c k) := by
  have h1 : (x &&& Mk8 c (k + 1)) % 2 ^ 8 = x % 2 ^ 8 &&& Mk8 c (k + 1) % 2 ^ 8 := Nat.and_mod_two_pow
  have h2 : (x &&& Mk8 c (k + 1)) / 2 ^ 8 = x / 2 ^ 8 &&& Mk8 c (k + 1) / 2 ^ 8 := Nat.and_div_two_pow
  have e1 : Mk8 c (k + 1) % 2 ^ 8 = c := by rw [Mk8]; omega
  have e2 : Mk8 c (k + 1) / 2 ^ 8 = Mk8 c k := by rw [Mk8]; omega
  rw [e1] at h1
  rw [e2] at h2
  rw [show (256 : Nat) = 2 ^ 8 from rfl, ← h1, ← h2]
  exact (Nat.mod_add_div _ _).symm
def f1 (k x : Nat) : Nat := (x / 2 &&& Mk8 85 k) + (x &&& Mk8 85 k)
def f2 (k x : Nat) : Nat := (x / 4 &&& Mk8 51 k) + (x &&& Mk8 51 k)
def f3 (k x : Nat) : Nat := x / 16 + x &&& Mk8 15 k
def t1 (a : Nat) : Nat := (a / 2 &&& 85) + (a &&& 85)
def t2 (a : Nat) : Nat := (a / 4 &&& 51) + (a &&& 51)
theorem tab1 : ∀ a : Fin 256, ∀ b : Fin 2, (a.1 / 2 + 128 * b.1 &&& 85) = (a.1 / 2 &&& 85) /\ t1 a.1 < 256 := by decide +kernel
theorem tab2 : ∀ a : Fin 256, ∀ b : Fin 4, (a.1 / 4 + 64 * b.1 &&& 51) = (a.1 / 4 &&& 51) /\ t2 (t1 a.1) <= 68 /\ t2 (t1 a.1) % 16 <= 4 := by decide +kernel
theorem tab3 : ∀ a : Fin 69, ∀ b : Fin 5, (a.1 / 16 + 16 * b.1 + a.1 &&& 15) = (a.1 / 16 + a.1) % 16 := by decide +kernel
theorem tabP : ∀ a : Fin 256, (t2 (t1 a.1) / 16 + t2 (t1 a.1)) % 16 = pb a.1 /\ pb a.1 <= 8 := by decide +kernel
theorem f1_succ (k x : Nat) : f1 (k + 1) x = t1 (x % 256) + 256 * f1 k (x / 256) := by
  unfold f1
  rw [and_split _ _ (by decide), and_split _ _ (by decide), show x / 2 % 256 = x % 256 / 2 + 128 * (x / 256 % 2) by omega, show (x % 256 / 2 + 128 * (x / 256 % 2) &&& 85) = (x % 256 / 2 &&& 85) from (tab1 ⟨x % 256, Nat.mod_lt _ (by decide)⟩ ⟨x / 256 % 2, Nat.mod_lt _ (by decide)⟩).1, show x / 2 / 256 = x / 256 / 2 by omega]
  unfold t1
  omega
theorem f2_succ (k x : Nat) : f2 (k + 1) x = t2 (x % 256) + 256 * f2 k (x / 256) := by
  unfold f2
  rw [and_split _ _ (by decide), and_split _ _ (by decide), show x / 4 % 256 = x % 256 / 4 + 64 * (x / 256 % 4) by omega, show (x % 256 / 4 + 64 * (x / 256 % 4) &&& 51) = (x % 256 / 4 &&& 51) from (tab2 ⟨x % 256, Nat.mod_lt _ (by decide)⟩ ⟨x / 256 % 4, Nat.mod_lt _ (by decide)⟩).1, show x / 4 / 256 = x / 256 / 4 by omega]
  unfold t2
  omega
theorem f21_succ (k x : Nat) : f2 (k + 1) (f1 (k + 1) x) = t2 (t1 (x % 256)) + 256 * f2 k (f1 k (x / 256)) := by
  have h := (tab1 ⟨x % 256, Nat.mod_lt _ (by decide)⟩ 0).2
  rw [f1_succ, f2_succ]
  simp only at h
  rw [show (t1 (x % 256) + 256 * f1 k (x / 256)) % 256 = t1 (x % 256) by omega, show (t1 (x % 256) + 256 * f1 k (x / 256)) / 256 = f1 k (x / 256) by omega]
theorem f21_low (k x : Nat) : f2 k (f1 k x) % 16 <= 4 := by
  cases k with
  | zero => unfold f2 Mk8; simp
  | succ k =>
    have h := (tab2 ⟨x % 256, Nat.mod_lt _ (by decide)⟩ 0).2.2
    rw [f21_succ]
    simp only at h
    omega
def R8 : Nat -> Nat -> Nat
  | 0, _ => 0
  | k + 1, x => pb (x % 256) + 256 * R8 k (x / 256)
theorem f321 : ∀ k x, f3 k (f2 k (f1 k x)) = R8 k x
  | 0, x => by unfold f3 Mk8; simp [R8]
  | k + 1, x => by
    have h2 := (tab2 ⟨x % 256, Nat.mod_lt _ (by decide)⟩ 0).2
    have h3 := f21_low k (x / 256)
    have ih := f321 k (x / 256)
    have hP := (tabP ⟨x % 256, Nat.mod_lt _ (by decide)⟩).1
    simp only at h2 hP
    rw [f21_succ, R8, ← hP, ← ih]
    generalize t2 (t1 (x % 256)) = u at *
    generalize f2 k (f1 k (x / 256)) = v at *
    unfold f3
    have h4 := tab3 ⟨u, by omega⟩ ⟨v % 16, by omega⟩
    simp only at h4
    rw [and_split _ _ (by decide), show ((u + 256 * v) / 16 + (u + 256 * v)) % 256 = u / 16 + 16 * (v % 16) + u by omega, h4, show ((u + 256 * v) / 16 + (u + 256 * v)) / 256 = v / 16 + v by omega]
theorem pb_le (x : Nat) : pb (x % 256) <= 8 := (tabP ⟨x % 256, Nat.mod_lt _ (by decide)⟩).2
def pc (x : Nat) : Nat := sm 64 (bt x)
theorem pc_le (x : Nat) : pc x <= 64 := by
  have := sm_le (bt x) 1 (fun q => by have := bt_lt x q; omega) 64
  unfold pc
  omega
theorem sum8 (x : Nat) : ∃ y z v : Nat, R8 8 x + R8 8 x / 256 = y /\ y + y / 65536 = z /\ z + z / 4294967296 = v /\ v % 128 = pc x /\ R8 8 x < 578721382704613385 /\ y < 1157442765409226770 /\ z < 2314885530818453540 /\ v < 4629771061636907080 := by
  refine ⟨_, _, _, rfl, rfl, rfl, ?_⟩
  have e : pc x = pb (x % 256) + (pb (x / 256 % 256) + (pb (x / 256 / 256 % 256) + (pb (x / 256 / 256 / 256 % 256) + (pb (x / 256 / 256 / 256 / 256 % 256) + (pb (x / 256 / 256 / 256 / 256 / 256 % 256) + (pb (x / 256 / 256 / 256 / 256 / 256 / 256 % 256) + pb (x / 256 / 256 / 256 / 256 / 256 / 256 / 256 % 256))))))) := by
    unfold pc
    rw [show 64 = 8 + (8 + (8 + (8 + (8 + (8 + (8 + (8 + 0))))))) from rfl, pop_byte, pop_byte, pop_byte, pop_byte, pop_byte, pop_byte, pop_byte, pop_byte]
    rfl
  have h0 := pb_le x
  have h1 := pb_le (x / 256)
  have h2 := pb_le (x / 256 / 256)
  have h3 := pb_le (x / 256 / 256 / 256)
  have h4 := pb_le (x / 256 / 256 / 256 / 256)
  have h5 := pb_le (x / 256 / 256 / 256 / 256 / 256)
  have h6 := pb_le (x / 256 / 256 / 256 / 256 / 256 / 256)
  have h7 := pb_le (x / 256 / 256 / 256 / 256 / 256 / 256 / 256)
  rw [e]
  simp only [R8]
  generalize pb (x % 256) = a0 at *
  generalize pb (x / 256 % 256) = a1 at *
  generalize pb (x / 256 / 256 % 256) = a2 at *
  generalize pb (x / 256 / 256 / 256 % 256) = a3 at *
  generalize pb (x / 256 / 256 / 256 / 256 % 256) = a4 at *
  generalize pb (x / 256 / 256 / 256 / 256 / 256 % 256) = a5 at *
  generalize pb (x / 256 / 256 / 256 / 256 / 256 / 256 % 256) = a6 at *
  generalize pb (x / 256 / 256 / 256 / 256 / 256 / 256 / 256 % 256) = a7 at *
  clear e
  have e0 : a0 + 256 * (a1 + 256 * (a2 + 256 * (a3 + 256 * (a4 + 256 * (a5 + 256 * (a6 + 256 * (a7 + 256 * 0))))))) = a0 + 256 * (a1 + 256 * (a2 + 256 * (a3 + 256 * (a4 + 256 * (a5 + 256 * (a6 + 256 * (a7))))))) := by omega
  rw [e0]
  have q1 : (a0 + 256 * (a1 + 256 * (a2 + 256 * (a3 + 256 * (a4 + 256 * (a5 + 256 * (a6 + 256 * (a7)))))))) / 256 = a1 + 256 * (a2 + 256 * (a3 + 256 * (a4 + 256 * (a5 + 256 * (a6 + 256 * (a7)))))) := by
    rw [show a0 + 256 * (a1 + 256 * (a2 + 256 * (a3 + 256 * (a4 + 256 * (a5 + 256 * (a6 + 256 * (a7))))))) = (a0) + 256 * (a1 + 256 * (a2 + 256 * (a3 + 256 * (a4 + 256 * (a5 + 256 * (a6 + 256 * (a7))))))) by omega, Nat.add_mul_div_left _ _ (by decide), Nat.div_eq_of_lt (by omega), Nat.zero_add]
  have s1 : (a0 + 256 * (a1 + 256 * (a2 + 256 * (a3 + 256 * (a4 + 256 * (a5 + 256 * (a6 + 256 * (a7)))))))) + (a1 + 256 * (a2 + 256 * (a3 + 256 * (a4 + 256 * (a5 + 256 * (a6 + 256 * (a7))))))) = (a0 + a1) + 256 * ((a1 + a2) + 256 * ((a2 + a3) + 256 * ((a3 + a4) + 256 * ((a4 + a5) + 256 * ((a5 + a6) + 256 * ((a6 + a7) + 256 * ((a7)))))))) := by omega
  rw [q1, s1]
  have q2 : ((a0 + a1) + 256 * ((a1 + a2) + 256 * ((a2 + a3) + 256 * ((a3 + a4) + 256 * ((a4 + a5) + 256 * ((a5 + a6) + 256 * ((a6 + a7) + 256 * ((a7))))))))) / 65536 = (a2 + a3) + 256 * ((a3 + a4) + 256 * ((a4 + a5) + 256 * ((a5 + a6) + 256 * ((a6 + a7) + 256 * ((a7)))))) := by
    rw [show (a0 + a1) + 256 * ((a1 + a2) + 256 * ((a2 + a3) + 256 * ((a3 + a4) + 256 * ((a4 + a5) + 256 * ((a5 + a6) + 256 * ((a6 + a7) + 256 * ((a7)))))))) = ((a0 + a1) + 256 * ((a1 + a2))) + 65536 * ((a2 + a3) + 256 * ((a3 + a4) + 256 * ((a4 + a5) + 256 * ((a5 + a6) + 256 * ((a6 + a7) + 256 * ((a7))))))) by omega, Nat.add_mul_div_left _ _ (by decide), Nat.div_eq_of_lt (by omega), Nat.zero_add]
  have s2 : ((a0 + a1) + 256 * ((a1 + a2) + 256 * ((a2 + a3) + 256 * ((a3 + a4) + 256 * ((a4 + a5) + 256 * ((a5 + a6) + 256 * ((a6 + a7) + 256 * ((a7))))))))) + ((a2 + a3) + 256 * ((a3 + a4) + 256 * ((a4 + a5) + 256 * ((a5 + a6) + 256 * ((a6 + a7) + 256 * ((a7))))))) = (a0 + a1 + a2 + a3) + 256 * ((a1 + a2 + a3 + a4) + 256 * ((a2 + a3 + a4 + a5) + 256 * ((a3 + a4 + a5 + a6) + 256 * ((a4 + a5 + a6 + a7) + 256 * ((a5 + a6 + a7) + 256 * ((a6 + a7) + 256 * ((a7)))))))) := by omega
  rw [q2, s2]
  have q4 : ((a0 + a1 + a2 + a3) + 256 * ((a1 + a2 + a3 + a4) + 256 * ((a2 + a3 + a4 + a5) + 256 * ((a3 + a4 + a5 + a6) + 256 * ((a4 + a5 + a6 + a7) + 256 * ((a5 + a6 + a7) + 256 * ((a6 + a7) + 256 * ((a7))))))))) / 4294967296 = (a4 + a5 + a6 + a7) + 256 * ((a5 + a6 + a7) + 256 * ((a6 + a7) + 256 * ((a7)))) := by
    rw [show (a0 + a1 + a2 + a3) + 256 * ((a1 + a2 + a3 + a4) + 256 * ((a2 + a3 + a4 + a5) + 256 * ((a3 + a4 + a5 + a6) + 256 * ((a4 + a5 + a6 + a7) + 256 * ((a5 + a6 + a7) + 256 * ((a6 + a7) + 256 * ((a7)))))))) = ((a0 + a1 + a2 + a3) + 256 * ((a1 + a2 + a3 + a4) + 256 * ((a2 + a3 + a4 + a5) + 256 * ((a3 + a4 + a5 + a6))))) + 4294967296 * ((a4 + a5 + a6 + a7) + 256 * ((a5 + a6 + a7) + 256 * ((a6 + a7) + 256 * ((a7))))) by omega, Nat.add_mul_div_left _ _ (by decide), Nat.div_eq_of_lt (by omega), Nat.zero_add]
  have s4 : ((a0 + a1 + a2 + a3) + 256 * ((a1 + a2 + a3 + a4) + 256 * ((a2 + a3 + a4 + a5) + 256 * ((a3 + a4 + a5 + a6) + 256 * ((a4 + a5 + a6 + a7) + 256 * ((a5 + a6 + a7) + 256 * ((a6 + a7) + 256 * ((a7))))))))) + ((a4 + a5 + a6 + a7) + 256 * ((a5 + a6 + a7) + 256 * ((a6 + a7) + 256 * ((a7))))) = (a0 + a1 + a2 + a3 + a4 + a5 + a6 + a7) + 256 * ((a1 + a2 + a3 + a4 + a5 + a6 + a7) + 256 * ((a2 + a3 + a4 + a5 + a6 + a7) + 256 * ((a3 + a4 + a5 + a6 + a7) + 256 * ((a4 + a5 + a6 + a7) + 256 * ((a5 + a6 + a7) + 256 * ((a6 + a7) + 256 * ((a7)))))))) := by omega
  rw [q4, s4]
  clear q1 s1 q2 s2 q4 s4 e0
  refine ⟨?_, by omega, by omega, by omega, by omega⟩
  rw [show (a0 + a1 + a2 + a3 + a4 + a5 + a6 + a7) + 256 * ((a1 + a2 + a3 + a4 + a5 + a6 + a7) + 256 * ((a2 + a3 + a4 + a5 + a6 + a7) + 256 * ((a3 + a4 + a5 + a6 + a7) + 256 * ((a4 + a5 + a6 + a7) + 256 * ((a5 + a6 + a7) + 256 * ((a6 + a7) + 256 * ((a7)))))))) = (a0 + a1 + a2 + a3 + a4 + a5 + a6 + a7) + 128 * (2 * ((a1 + a2 + a3 + a4 + a5 + a6 + a7) + 256 * ((a2 + a3 + a4 + a5 + a6 + a7) + 256 * ((a3 + a4 + a5 + a6 + a7) + 256 * ((a4 + a5 + a6 + a7) + 256 * ((a5 + a6 + a7) + 256 * ((a6 + a7) + 256 * ((a7))))))))) by omega, Nat.add_mul_mod_self_left, Nat.mod_eq_of_lt (by omega)]
  omega
end Go.Proofs.YtoickolhekhgmaaGreatDoor.Pau
