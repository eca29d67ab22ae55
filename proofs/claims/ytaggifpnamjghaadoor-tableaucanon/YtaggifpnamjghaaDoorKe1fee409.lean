import Derived.Test.YtaggifpnamjghaaDoorK248a2a06
set_option maxRecDepth 100000
namespace Go.Proofs.YtaggifpnamjghaaDoor.Tbl
open Go.RowKit Go.Shelf Go.Proofs.YtaggifpnamjghaaDoor.Pau Go.Proofs.YtaggifpnamjghaaDoor.Gt
def T0 : TT := ⟨2, [⟨2, 0, 1, 0⟩, ⟨2, 0, 2, 0⟩], [⟨2, 1, 0, 0⟩, ⟨2, 2, 0, 0⟩]⟩
def T1 : TT := ⟨2, [⟨2, 1, 0, 0⟩, ⟨2, 0, 2, 0⟩], [⟨2, 0, 1, 2⟩, ⟨2, 2, 0, 0⟩]⟩
def T2 : TT := ⟨2, [⟨2, 3, 0, 0⟩, ⟨2, 0, 3, 0⟩], [⟨2, 0, 1, 2⟩, ⟨2, 2, 0, 0⟩]⟩
def T3 : TT := ⟨2, [⟨2, 0, 1, 2⟩, ⟨2, 0, 3, 0⟩], [⟨2, 3, 0, 0⟩, ⟨2, 2, 0, 0⟩]⟩
def T4 : TT := ⟨2, [⟨2, 0, 1, 0⟩, ⟨2, 0, 3, 2⟩], [⟨2, 3, 0, 0⟩, ⟨2, 2, 0, 0⟩]⟩
theorem v_new : newT 2 = T0 := by decide +kernel
theorem v_g1 : gtR T0 9 [0] = (T1, 0) := by decide +kernel
theorem v_g2 : gtR T1 11 [0, 1] = (T2, 0) := by decide +kernel
theorem v_od : odI T2 0 = 2 /\ cqI T2 0 = 0 := by decide +kernel
theorem v_pr : prR T2 0 1 = (T3, 0) := by decide +kernel
theorem v_od2 : odI T3 1 = 1 /\ cqI T3 1 = 0 := by decide +kernel
theorem v_pr2 : prR T3 1 0 = (zrT, 142) := by decide +kernel
theorem v_cn : cnL T2 = [⟨2, 3, 0, 0⟩, ⟨2, 0, 3, 0⟩] /\ chI T2 = 0 := by decide +kernel
theorem v_cu : cuR T2 [0] = (1, 0) := by decide +kernel
theorem v_mb : mbI T2 ⟨2, 3, 3, 2⟩ = 1 /\ csI T2 ⟨2, 3, 3, 2⟩ = 0 := by decide +kernel
theorem v_g3 : gtR T2 18 [0, 1, 2] = (zrT, 61) := by decide +kernel
theorem v_st : stR T2 0 1 = (T4, 0) := by decide +kernel
theorem v_ch : chI T4 = 0 := by decide +kernel
theorem v_sm : smB T2 T2 = true := by decide +kernel
theorem To.th {w : World} {B : Nat} {t : TT} {g1 g2 n : Nat} (h : To w B t g1 g2) (ws : Wl t.s) (wd : Wl t.d) (e1 : t.s.length = n) (e2 : t.d.length = n) (hn : n <= 64) : Th w t (some ⟨g1, 0, none⟩) (some ⟨g2, 0, none⟩) n n := ⟨h.s.pin, h.d.pin, ws, wd, by omega, by omega, by omega, by omega⟩
structure Va (w V : World) (g : Nat) (t : TT) (a b : Option Addr) (ca cb : Nat) : Prop where
  bw : Below w.heap.size w V
  bx : At3 V g (.int .i64 t.n) (.slice a t.s.length ca) (.slice b t.d.length cb)
  th : Th V t a b ca cb
  hg : w.heap.size <= g
theorem Va.below {w V V' : World} {g : Nat} {t : TT} {a b : Option Addr} {ca cb : Nat} (h : Va w V g t a b ca cb) (hb : Below V.heap.size V V') : Va w V' g t a b ca cb := ⟨bkp h.bw hb, h.bx.below hb, h.th.below hb, h.hg⟩
theorem Va.new {w V : World} {t : TT} {a b : Option Addr} {ca cb : Nat} (hb : Below w.heap.size w V) (h : Th V t a b ca cb) : Va w (V.alloc (.cells #[.int .i64 t.n, .slice a t.s.length ca, .slice b t.d.length cb] 24)) V.heap.size t a b ca cb := ⟨bkp hb (bnew _ _), At3.new _ _ _ _, h.below (bnew _ _), hb.size⟩
theorem Va.row {w V : World} {g : Nat} {t t' : TT} {a b a' b' : Option Addr} {ca cb ca' cb' : Nat} (h : Va w V g t a b ca cb) (h' : Th V t' a' b' ca' cb') : Va w (V.setRow g #[.int .i64 t'.n, .slice a' t'.s.length ca', .slice b' t'.d.length cb']) g t' a' b' ca' cb' := ⟨below_setRow h.bw h.hg _, setRow_heap _ _ _ _ _ _ h.bx, h'.row h.bx _, h.hg⟩
theorem tNum (k : Int) (w : World) : Calls Tryd.prog 5 #[.int .i64 k] w fun e w' => e = .returned (.int .i64 k) /\ w' = w := by
  go_enter Tryd.func5, Tryd.ntmps5
  go_wp2_with fail
  go_ret
  exact ⟨rfl, rfl⟩
theorem ns_two (w : World) (q r : Int) : Ns (w.alloc (.cells #[.int .i64 q, .int .i64 r] 3)) (some ⟨w.heap.size, 0, none⟩) [q, r] := .inr ⟨w.heap.size, 0, rfl, fun j z hj => by
  match j, hj with
  | 0, hj =>
    simp at hj
    subst hj
    exact cell_of_row _ _ 0 _ _ _ (heap_alloc_new _ _)
  | 1, hj =>
    simp at hj
    subst hj
    exact cell_of_row _ _ 1 _ _ _ (heap_alloc_new _ _)⟩
theorem ns_three (w : World) (q r s : Int) : Ns (w.alloc (.cells #[.int .i64 q, .int .i64 r, .int .i64 s] 3)) (some ⟨w.heap.size, 0, none⟩) [q, r, s] := .inr ⟨w.heap.size, 0, rfl, fun j z hj => by
  match j, hj with
  | 0, hj =>
    simp at hj
    subst hj
    exact cell_of_row _ _ 0 _ _ _ (heap_alloc_new _ _)
  | 1, hj =>
    simp at hj
    subst hj
    exact cell_of_row _ _ 1 _ _ _ (heap_alloc_new _ _)
  | 2, hj =>
    simp at hj
    subst hj
    exact cell_of_row _ _ 2 _ _ _ (heap_alloc_new _ _)⟩
theorem aGate (t t' : TT) (k e : Int) (l : List Int) (hl : l.length <= 1000000000000000) (hv : gtR t k l = (t', e)) (a b : Option Addr) (ca cb g c : Nat) (hc : l.length <= c) (W : World) (h : Th W t a b ca cb) (hT : Tg W) (hN : Ns W (some ⟨g, 0, none⟩) l) :
    Calls Tryd.prog 19 #[tV t a b ca cb, .int .i64 k, .slice (some ⟨g, 0, none⟩) l.length c] W fun e' w' => ∃ a' b' ca' cb', e' = .returned (.tuple #[tV t' a' b' ca' cb', .int .i64 e]) /\ Th w' t' a' b' ca' cb' /\ Below W.heap.size W w' := by
  have := tGate t a b ca cb k l hl _ c hc W h hT hN
  rw [hv] at this
  exact this
theorem aProject (t t' : TT) (q v e : Int) (hv : prR t q v = (t', e)) (a b : Option Addr) (ca cb : Nat) (W : World) (h : Th W t a b ca cb) :
    Calls Tryd.prog 21 #[tV t a b ca cb, .int .i64 q, .int .i64 v] W fun e' w' => ∃ a' b' ca' cb', e' = .returned (.tuple #[tV t' a' b' ca' cb', .int .i64 e]) /\ Th w' t' a' b' ca' cb' /\ Below W.heap.size W w' := by
  have := tProject t a b ca cb q v W h
  rw [hv] at this
  exact this
theorem aSettle (t t' : TT) (q v e : Int) (hv : stR t q v = (t', e)) (a b : Option Addr) (ca cb : Nat) (W : World) (h : Th W t a b ca cb) (hT : Tg W) :
    Calls Tryd.prog 25 #[tV t a b ca cb, .int .i64 q, .int .i64 v] W fun e' w' => ∃ a' b' ca' cb', e' = .returned (.tuple #[tV t' a' b' ca' cb', .int .i64 e]) /\ Th w' t' a' b' ca' cb' /\ Below W.heap.size W w' := by
  have := tSettle t a b ca cb q v W h hT
  rw [hv] at this
  exact this
theorem aOdds (t : TT) (q o e : Int) (hv : odI t q = o /\ cqI t q = e) (a b : Option Addr) (ca cb : Nat) (W : World) (h : Th W t a b ca cb) :
    Calls Tryd.prog 20 #[tV t a b ca cb, .int .i64 q] W fun e' w' => e' = .returned (.tuple #[.int .i64 o, .int .i64 e]) /\ Below W.heap.size W w' := by
  have := tOdds t a b ca cb q W h
  rw [hv.1, hv.2] at this
  exact this
theorem pc_zero : pc 0 = 0 := by decide
theorem pc_xor (x y : Nat) : pc (x ^^^ y) % 2 = (pc x + pc y) % 2 := by
  unfold pc
  rw [← sm_add]
  refine sm_mod 2 64 fun q _ => ?_
  rw [bt_xor]
  omega
end Go.Proofs.YtaggifpnamjghaaDoor.Tbl
