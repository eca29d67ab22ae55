import Derived.StillTail
import Derived.Test.YtmkalhaegbnknaaDoorQb290883b
import Derived.Lib.AppendIntMem
import Derived.Lib.ItoaLen
namespace Go.Proofs.YtmkalhaegbnknaaDoor.Gt
open Go
section
variable {P : Program} {C : World -> Prop} {Q : Exit -> Act -> World -> Prop} {md : Region.Mode} {ops : Array Oper} {N : Nat}
structure Front (md : Region.Mode) (ops : Array Oper) (N : Nat) : Prop where
  size : ops.size = N + 1
  low : ∀ i o, i < N -> ops[i]? = some o -> o.guard = none /\ ∀ e ∈ o.after, e.on < i
  last : ∃ o, ops[N]? = some o /\ (∀ e ∈ o.after, e.on < N) /\ ∀ j, j < N -> ∃ e ∈ o.after, Region.binds md e = true /\ e.on = j
theorem wpAny_end : ∀ (fuel : Nat) {listed : Array Bool} {a : Act} {w : World}, Region.ready md ops listed = [] -> Q .normal a w -> wpAny P md ops Q fuel listed a w
  | 0, _, _, _, h, hq => ⟨h, hq⟩
  | _ + 1, _, _, _, h, hq => ⟨fun _ => hq, fun i hi => by rw [h] at hi; cases hi⟩
theorem wpAnyQ_mono {K K' : Act -> Prop} (h : ∀ a, K a -> K' a) : ∀ (fuel : Nat) (listed : Array Bool) (a : Act), wpAnyQ P md ops C K fuel listed a -> wpAnyQ P md ops C K' fuel listed a
  | 0, _, _, hh => ⟨hh.1, h _ hh.2⟩
  | fuel + 1, _, _, hh => ⟨fun h0 => h _ (hh.1 h0), fun i hi => qOp_mono (fun a' h' => wpAnyQ_mono h fuel _ a' h') (hh.2 i hi)⟩
structure HidP (p : Prop) : Prop where
  out : p
end
end Go.Proofs.YtmkalhaegbnknaaDoor.Gt
namespace Go.Proofs.YtmkalhaegbnknaaDoor.Tok
open Go.RowKit Go.Shelf Go.Proofs.YtmkalhaegbnknaaDoor.Oct
def wholeB (l : List UInt8) (kd : Int) (tx : List UInt8) (nm : Int) : Bool := match cut l with
  | .tok k t v n => n == l.length && ((k : Int) == kd && t == tx && (v : Int) == nm)
  | .bad _ => false
def T10 (w : World) : Prop := Lib.TabIs Tryd.prog w "internal/strconv.uint64pow10" .u64 Lib.pow10Tab
theorem T10.below {w w' : World} (h : T10 w) (hb : Below w.heap.size w w') : T10 w' := Lib.tabBelow_of_tabIs h w' hb
def draftL (kd : Int) (tx : List UInt8) (nm : Int) : List UInt8 := if kd = 2 then Lib.itoa nm else if kd = 4 then 34 :: (tx ++ [34]) else tx
def writeR (kd : Int) (tx : List UInt8) (nm : Int) : Option (List UInt8) := if wholeB (draftL kd tx nm) kd tx nm then some (draftL kd tx nm) else none
structure TA where
  kd : Int
  tx : List UInt8
  nm : Int
  o1 : Int
  o2 : Int
  o3 : Int
def TA.cells (t : TA) : List Value := [.int .i64 t.kd, .string ⟨t.tx.toArray⟩, .int .i64 t.nm, .int .i64 t.o1, .int .i64 t.o2, .int .i64 t.o3]
def Ta (w : World) (ao : Option Addr) (ts : List TA) : Prop := ∀ j t, ts[j]? = some t -> ∃ g off, ao = some ⟨g, off, none⟩ /\ ∀ i v, t.cells[i]? = some v -> w.cell? ⟨g, off + j * 6 + i, none⟩ = some v
theorem Ta.below {w w' : World} {ao : Option Addr} {ts : List TA} (h : Ta w ao ts) (hb : Below w.heap.size w w') : Ta w' ao ts := by
  intro j t hj
  obtain ⟨g, off, e, hc⟩ := h j t hj
  exact ⟨g, off, e, fun i v hv => cell_below (hc i v hv) hb⟩
def TA.wr (t : TA) : Option (List UInt8) := writeR t.kd t.tx t.nm
end Go.Proofs.YtmkalhaegbnknaaDoor.Tok
