import Derived.Test.YtpehekonjdneaaaGreatDoorKc0c17353
import Derived.Test.YtpehekonjdneaaaGreatDoorK53de0180
namespace Go.Proofs.YtpehekonjdneaaaGreatDoor.Tbl
open Go.RowKit Go.Shelf Go.Proofs.YtpehekonjdneaaaGreatDoor.Pau Go.Proofs.YtpehekonjdneaaaGreatDoor.Gt
def dnR (t : TT) (k g : Int) (l : List Int) (v : Int) : TT × Int :=
  if k = 1 then gtR t g l else if k = 2 then prR t (fsI l) v else if k = 3 then stR t (fsI l) v else if k = 4 then orR t l else if k = 5 then krR (nwR v).1 t else (t, 0)
def dnT (t : TT) (k g : Int) (l : List Int) (v : Int) : TT := if (dnR t k g l v).2 = 0 then (dnR t k g l v).1 else t
theorem jDone (t : TT) (a b a2 b2 : Option Addr) (ca cb ca2 cb2 : Nat) (k g v : Int) (l : List Int) (hl : l.length <= 1000000000000000) (ao : Option Addr) (c : Nat) (hlc : l.length <= c) (w : World) (h : Th w t a b ca cb) (h2 : Th w t a2 b2 ca2 cb2) (hT : Tg w) (hN : Ns w ao l) :
    Calls Tryz.prog 9 #[tV t a b ca cb, tV t a2 b2 ca2 cb2, .agg #[.int .i64 k, .int .i64 g, .slice ao l.length c, .int .i64 v]] w fun e w' => ∃ a' b' ca' cb' a3 b3 ca3 cb3, e = .returned (.tuple #[tV (dnT t k g l v) a' b' ca' cb', tV (dnT t k g l v) a3 b3 ca3 cb3, .bool true]) /\ (Th w' (dnT t k g l v) a' b' ca' cb' /\ Th w' (dnT t k g l v) a3 b3 ca3 cb3) /\ Below w.heap.size w w' := by
  unfold dnT
  by_cases hr : (dnR t k g l v).2 = 0
  . rw [if_pos hr]
    unfold dnR at hr ⊢
    by_cases e1 : k = 1
    . subst e1
      rw [if_pos rfl] at hr ⊢
      exact jDone1_ok t _ a b a2 b2 ca cb ca2 cb2 g v l hl ao c hlc (Prod.ext rfl hr) w h h2 hT hN
    rw [if_neg e1] at hr ⊢
    by_cases e2 : k = 2
    . subst e2
      rw [if_pos rfl] at hr ⊢
      exact jDone2_ok t _ a b a2 b2 ca cb ca2 cb2 g v l hl ao c hlc (Prod.ext rfl hr) w h h2 hT hN
    rw [if_neg e2] at hr ⊢
    by_cases e3 : k = 3
    . subst e3
      rw [if_pos rfl] at hr ⊢
      exact jDone3_ok t _ a b a2 b2 ca cb ca2 cb2 g v l hl ao c hlc (Prod.ext rfl hr) w h h2 hT hN
    rw [if_neg e3] at hr ⊢
    by_cases e4 : k = 4
    . subst e4
      rw [if_pos rfl] at hr ⊢
      exact jDone4_ok t _ a b a2 b2 ca cb ca2 cb2 g v l hl ao c hlc (Prod.ext rfl hr) w h h2 hT hN
    rw [if_neg e4] at hr ⊢
    by_cases e5 : k = 5
    . subst e5
      rw [if_pos rfl] at hr ⊢
      exact jDone5_ok t _ a b a2 b2 ca cb ca2 cb2 g v l hl ao c hlc (Prod.ext rfl hr) w h h2 hT hN
    rw [if_neg e5]
    exact jDone0 t a b a2 b2 ca cb ca2 cb2 k g v l hl ao c hlc ⟨e1, e2, e3, e4, e5⟩ w h h2 hT hN
  . rw [if_neg hr]
    unfold dnR at hr
    by_cases e1 : k = 1
    . subst e1
      rw [if_pos rfl] at hr
      exact jDone1_no t _ _ a b a2 b2 ca cb ca2 cb2 g v l hl ao c hlc (Prod.ext rfl rfl) hr w h h2 hT hN
    rw [if_neg e1] at hr
    by_cases e2 : k = 2
    . subst e2
      rw [if_pos rfl] at hr
      exact jDone2_no t _ _ a b a2 b2 ca cb ca2 cb2 g v l hl ao c hlc (Prod.ext rfl rfl) hr w h h2 hT hN
    rw [if_neg e2] at hr
    by_cases e3 : k = 3
    . subst e3
      rw [if_pos rfl] at hr
      exact jDone3_no t _ _ a b a2 b2 ca cb ca2 cb2 g v l hl ao c hlc (Prod.ext rfl rfl) hr w h h2 hT hN
    rw [if_neg e3] at hr
    by_cases e4 : k = 4
    . subst e4
      rw [if_pos rfl] at hr
      exact jDone4_no t _ _ a b a2 b2 ca cb ca2 cb2 g v l hl ao c hlc (Prod.ext rfl rfl) hr w h h2 hT hN
    rw [if_neg e4] at hr
    by_cases e5 : k = 5
    . subst e5
      rw [if_pos rfl] at hr
      exact jDone5_no t _ _ a b a2 b2 ca cb ca2 cb2 g v l hl ao c hlc (Prod.ext rfl rfl) hr w h h2 hT hN
    rw [if_neg e5] at hr
    exact absurd rfl hr
end Go.Proofs.YtpehekonjdneaaaGreatDoor.Tbl
