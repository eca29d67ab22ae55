/- A reckoner for programs at constants: abstract blocks, what they stand for, and that a reckoned run is a run of the model. -/
import Derived.Orders
namespace Go.Proofs.YtipceoeihiaieaaDoor.Ev
open Go

/-- Where an abstract block lies: the real block, how far in, how many elements more than is known. -/
structure Pl where
  b : Nat
  s : Nat
  x : Nat
abbrev Mp := Nat → Pl
/-- A capacity from here on is known only from below. -/
def Big : Nat := 1152921504606846976
def renA (m : Mp) (a : Addr) : Addr := { block := (m a.block).b, off := a.off + (m a.block).s, spot := a.spot }
def renC (m : Mp) (a : Option Addr) (c : Nat) : Nat :=
  match a with
  | some a => if c < Big then c else c - Big + (m a.block).x
  | none => c
def renF (m : Mp) : Fn → Fn
  | .yield l => .yield (m l).b
  | fn => fn
def ren : Mp → Value → Value
  | m, .pointer a => .pointer (a.map (renA m))
  | m, .slice a l c => .slice (a.map (renA m)) l (renC m a c)
  | m, .map r => .map (r.map fun r => (m r).b)
  | m, .func fn first captured => .func (renF m fn) (renR m first) (renR m captured)
  | m, .iface t v => .iface t (ren m v)
  | m, .agg cs => .agg (renR m cs)
  | m, .tuple vs => .tuple (renR m vs)
  | _, v => v
  where
  renR : Mp → Array Value → Array Value
    | m, ⟨l⟩ => ⟨renL m l⟩
  renL : Mp → List Value → List Value
    | _, [] => []
    | m, v :: l => ren m v :: renL m l
open ren (renR renL)
theorem renL_map (m : Mp) (l : List Value) : renL m l = l.map (ren m) := by
  induction l with
  | nil => simp [renL]
  | cons v l ih => simp [renL, ih]
theorem renR_map (m : Mp) (l : Array Value) : renR m l = l.map (ren m) := by
  obtain ⟨l⟩ := l
  simp [renR, renL_map]
def plain : Value → Bool
  | .pointer none => true
  | .pointer (some _) => false
  | .slice none _ _ => true
  | .slice (some _) _ _ => false
  | .map none => true
  | .map (some _) => false
  | .func fn first captured => (match fn with | .yield _ => false | _ => true) && plainR first && plainR captured
  | .iface _ v => plain v
  | .agg cs => plainR cs
  | .tuple vs => plainR vs
  | _ => true
  where
  plainR : Array Value → Bool
    | ⟨l⟩ => plainL l
  plainL : List Value → Bool
    | [] => true
    | v :: l => plain v && plainL l
open plain (plainR plainL)
theorem ren_plain (m : Mp) : ∀ v, plain v = true → ren m v = v
  | .pointer none, _ => by simp [ren]
  | .pointer (some _), h => by simp [plain] at h
  | .slice none _ _, _ => by simp [ren, renC]
  | .slice (some _) _ _, h => by simp [plain] at h
  | .map none, _ => by simp [ren]
  | .map (some _), h => by simp [plain] at h
  | .func fn first captured, h => by
    simp only [plain, Bool.and_eq_true] at h
    rw [ren, goR m first h.1.2, goR m captured h.2]
    cases fn <;> first | rfl | (simp at h)
  | .iface _ v, h => by rw [ren, ren_plain m v (by simpa [plain] using h)]
  | .agg cs, h => by rw [ren, goR m cs (by simpa [plain] using h)]
  | .tuple vs, h => by rw [ren, goR m vs (by simpa [plain] using h)]
  | .bool _, _ => by simp [ren]
  | .int _ _, _ => by simp [ren]
  | .float _ _, _ => by simp [ren]
  | .complex _ _ _, _ => by simp [ren]
  | .string _, _ => by simp [ren]
  | .chan _, _ => by simp [ren]
  | .nilFunc, _ => by simp [ren]
  | .nilIface, _ => by simp [ren]
  where
  goR (m : Mp) : ∀ a, plainR a = true → renR m a = a
    | ⟨l⟩, h => by rw [renR, goL m l (by simpa [plainR] using h)]
  goL (m : Mp) : ∀ l, plainL l = true → renL m l = l
    | [], _ => by simp [renL]
    | v :: l, h => by
      simp only [plainL, Bool.and_eq_true] at h
      rw [renL, ren_plain m v h.1, goL m l h.2]
theorem renL_plain (m : Mp) : ∀ l, plainL l = true → renL m l = l
  | [], _ => by simp [renL]
  | v :: l, h => by
    simp only [plainL, Bool.and_eq_true] at h
    rw [renL, ren_plain m v h.1, renL_plain m l h.2]
theorem renR_plain (m : Mp) : ∀ a, plainR a = true → renR m a = a
  | ⟨l⟩, h => by rw [renR, renL_plain m l (by simpa [plainR] using h)]
theorem plainL_iff {l : List Value} : plainL l = true ↔ ∀ v ∈ l, plain v = true := by
  induction l with
  | nil => simp [plainL]
  | cons v l ih => simp [plainL, ih]
theorem plainR_iff {a : Array Value} : plainR a = true ↔ ∀ v ∈ a, plain v = true := by
  obtain ⟨l⟩ := a
  simp [plainR, plainL_iff]

def renO (m : Mp) : Obj → Obj
  | .cells c e fr => .cells (renR m c) e fr
  | .map es cl => .map (es.map fun e => { e with key := ren m e.key, val := ren m e.val }) cl
  | .loop l => .loop { l with fn := (m l.fn).s, tmps := renR m l.tmps, defers := (m l.defers).b }
  | o => o

/- Blocks by number. -/
inductive Tr (α : Type) where
  | leaf
  | node (l : Tr α) (v : Option α) (r : Tr α)
/-- A number as a way through the tree. -/
def pathGo : Nat → Nat → List Bool
  | 0, _ => []
  | f + 1, n => bif Nat.beq n 0 then [] else Nat.beq (n % 2) 1 :: pathGo f ((n - 1) / 2)
def pathOf (n : Nat) : List Bool := pathGo (n + 1) n
theorem pathGo_inj : ∀ (f g n k : Nat), n < f → k < g → pathGo f n = pathGo g k → n = k
  | 0, _, n, _, h, _, _ => by omega
  | _ + 1, 0, _, k, _, h, _ => by omega
  | f + 1, g + 1, n, k, h1, h2, e => by
    simp only [pathGo] at e
    cases hn : Nat.beq n 0 <;> cases hk : Nat.beq k 0 <;> rw [hn, hk] at e <;> simp only [cond_true, cond_false, reduceCtorEq, List.cons.injEq] at e
    · have hn0 : n ≠ 0 := by intro h; subst h; simp at hn
      have hk0 : k ≠ 0 := by intro h; subst h; simp at hk
      have := pathGo_inj f g _ _ (by omega) (by omega) e.2
      have h3 : (n % 2 = 1) ↔ (k % 2 = 1) := by
        rw [← Nat.beq_eq, ← Nat.beq_eq, e.1]
      omega
    · have h1 := Nat.eq_of_beq_eq_true hn
      have h2 := Nat.eq_of_beq_eq_true hk
      omega
theorem pathOf_inj {n k : Nat} (h : pathOf n = pathOf k) : n = k := pathGo_inj _ _ n k (Nat.lt_succ_self _) (Nat.lt_succ_self _) h
namespace Tr
variable {α : Type}
noncomputable def getP (p : List Bool) : Tr α → Option α :=
  @List.rec Bool (fun _ => Tr α → Option α) (fun t => @Tr.rec α (fun _ => Option α) none (fun _ v _ _ _ => v) t)
    (fun b _ ih t => @Tr.rec α (fun _ => Option α) none (fun l _ r _ _ => @Bool.rec (fun _ => Option α) (ih r) (ih l) b) t) p
noncomputable def setP (p : List Bool) : Option α → Tr α → Tr α :=
  @List.rec Bool (fun _ => Option α → Tr α → Tr α) (fun v t => @Tr.rec α (fun _ => Tr α) (node leaf v leaf) (fun l _ r _ _ => node l v r) t)
    (fun b _ ih v t => @Tr.rec α (fun _ => Tr α) (@Bool.rec (fun _ => Tr α) (node leaf none (ih v leaf)) (node (ih v leaf) none leaf) b)
      (fun l x r _ _ => @Bool.rec (fun _ => Tr α) (node l x (ih v r)) (node (ih v l) x r) b) t) p
theorem getP_setP : ∀ (p : List Bool) (v : Option α) (t : Tr α), getP p (setP p v t) = v
  | [], v, t => by cases t <;> rfl
  | b :: p, v, t => by cases t <;> cases b <;> exact getP_setP p v _
theorem getP_leaf : ∀ (p : List Bool), getP p (leaf : Tr α) = none
  | [] => rfl
  | _ :: _ => rfl
theorem getP_setP_ne : ∀ (p q : List Bool) (v : Option α) (t : Tr α), q ≠ p → getP q (setP p v t) = getP q t
  | [], [], v, t, h => absurd rfl h
  | [], b :: q, v, t, _ => by cases t <;> cases b <;> first | rfl | exact getP_leaf q
  | b :: p, [], v, t, _ => by cases t <;> cases b <;> rfl
  | b :: p, c :: q, v, t, h => by
    by_cases e : b = c
    · subst e
      have h' : q ≠ p := fun x => h (by rw [x])
      cases t with
      | leaf => cases b <;> exact (getP_setP_ne p q v leaf h').trans (getP_leaf q)
      | node l x r => cases b <;> exact getP_setP_ne p q v _ h'
    · cases t with
      | leaf => cases b <;> cases c <;> first | exact absurd rfl e | exact getP_leaf q
      | node l x r => cases b <;> cases c <;> first | exact absurd rfl e | rfl
noncomputable def get (t : Tr α) (n : Nat) : Option α := getP (pathOf n) t
noncomputable def set (_ : Nat) (t : Tr α) (n : Nat) (v : Option α) : Tr α := setP (pathOf n) v t
theorem get_set (f : Nat) (t : Tr α) (n : Nat) (v : Option α) (_ : n < f) : (set f t n v).get n = v := getP_setP _ _ _
theorem get_set_ne (f : Nat) (t : Tr α) (n k : Nat) (v : Option α) (h : k ≠ n) : (set f t n v).get k = t.get k :=
  getP_setP_ne _ _ _ _ fun e => h (pathOf_inj e)
end Tr

inductive Blk where
  | row (vs : List Value) (sz : Nat)
  | ro (vs : List Value)
  | obj (o : Obj)

structure H where
  heap : Tr Blk
  size : Nat
  fp : Nat
  wr : Nat
noncomputable def H.get (h : H) (b : Nat) : Option Blk := h.heap.get b
def bit (m b : Nat) : Nat := Nat.lor m (Nat.shiftLeft 1 b)
theorem bit_test {m b c : Nat} : (bit m b).testBit c = (m.testBit c || decide (c = b)) := by
  unfold bit
  change (m ||| 1 <<< b).testBit c = _
  rw [Nat.testBit_or, Nat.one_shiftLeft, Nat.testBit_two_pow]
  congr 1
  exact decide_eq_decide.2 eq_comm
def H.rd (h : H) (b : Nat) : H := { h with fp := bit h.fp b }
noncomputable def H.put (h : H) (b : Nat) (x : Option Blk) : H := { heap := h.heap.set (b + 1) b x, size := h.size, fp := bit h.fp b, wr := bit h.wr b }
noncomputable def H.push (h : H) (x : Blk) : H := { heap := h.heap.set (h.size + 1) h.size (some x), size := h.size + 1, fp := bit h.fp h.size, wr := bit h.wr h.size }
theorem H.get_put (h : H) (b : Nat) (x : Option Blk) (c : Nat) : (h.put b x).get c = if c = b then x else h.get c := by
  unfold H.get H.put
  split
  · next e => subst e; exact Tr.get_set _ _ _ _ (Nat.lt_succ_self _)
  · next e => exact Tr.get_set_ne (b + 1) _ _ _ _ e
theorem H.get_push (h : H) (x : Blk) (c : Nat) : (h.push x).get c = if c = h.size then some x else h.get c := by
  unfold H.get H.push
  split
  · next e => subst e; exact Tr.get_set _ _ _ _ (Nat.lt_succ_self _)
  · next e => exact Tr.get_set_ne (h.size + 1) _ _ _ _ e

def blkOf : Obj → Option Blk
  | .cells c _ (0, 0) => some (.row c.toList 0)
  | .map es cl => some (.obj (.map es cl))
  | .stringIter s p => some (.obj (.stringIter s p))
  | .loop l => some (.obj (.loop l))
  | .deferred (some []) => some (.obj (.deferred (some [])))
  | _ => none
def objOk : Obj → Bool
  | .map _ _ => true
  | .stringIter _ _ => true
  | .loop _ => true
  | .deferred (some []) => true
  | .deferred none => true
  | _ => false
def single : Value → Bool
  | .agg _ => false
  | .tuple _ => false
  | _ => true

/-- A run over abstract blocks. -/
noncomputable def arun (P : Program) {α : Type} : Sem α → H → Option (α × H)
  | .pure a, h => some (a, h)
  | .load _ a k, h =>
    match a.spot, h.get a.block with
    | none, some (.row vs _) => match vs[a.off]? with
      | some v => arun P (k v) (h.rd a.block)
      | none => none
    | none, some (.ro vs) => match vs[a.off]? with
      | some v => arun P (k v) (h.rd a.block)
      | none => none
    | _, _ => none
  | .store _ a v k, h =>
    match single v, a.spot, h.get a.block with
    | true, none, some (.row vs sz) => bif Nat.blt a.off vs.length then arun P k (h.put a.block (some (.row (vs.set a.off v) sz))) else none
    | _, _, _ => none
  | .new o k, h => match blkOf o with
    | some b => arun P (k h.size) (h.push b)
    | none => none
  | .shape _ _, _ => none
  | .freeze _ _ _, _ => none
  | .frozen a k, h => match h.get a.block with
    | some (.row _ _) => arun P (k false) (h.rd a.block)
    | _ => none
  | .getObj r k, h => match h.get r with
    | some (.obj o) => arun P (k o) (h.rd r)
    | _ => none
  | .setObj r o k, h => match h.get r, objOk o with
    | some (.obj _), true => arun P k (h.put r (some (.obj o)))
    | _, _ => none
  | .choose q k, h => match q.forced with
    | true => arun P (k 0) h
    | false => none
  | .sys _ _, _ => none
  | .program k, h => arun P (k P) h
  | .mark _ k, h => arun P k h
  | .halt _, _ => none

theorem arun_bind {P : Program} {α β : Type} (s : Sem α) (f : α → Sem β) : ∀ h, arun P (s.bind f) h = (arun P s h).bind fun x => arun P (f x.1) x.2 := by
  induction s with
  | pure a => intro h; rfl
  | load md a k ih =>
    intro h
    simp only [Sem.bind, arun]
    split
    · split <;> simp [ih]
    · split <;> simp [ih]
    · rfl
  | store md a v k ih =>
    intro h
    simp only [Sem.bind, arun]
    split
    · cases Nat.blt a.off _ <;> simp [ih]
    · rfl
  | new o k ih => intro h; simp only [Sem.bind, arun]; split <;> simp [ih]
  | shape r k ih => intro h; rfl
  | freeze a n k ih => intro h; rfl
  | frozen a k ih => intro h; simp only [Sem.bind, arun]; split <;> simp [ih]
  | getObj r k ih => intro h; simp only [Sem.bind, arun]; split <;> simp [ih]
  | setObj r o k ih => intro h; simp only [Sem.bind, arun]; split <;> simp [ih]
  | choose q k ih => intro h; simp only [Sem.bind, arun]; split <;> simp [ih]
  | sys c k ih => intro h; rfl
  | program k ih => intro h; simp only [Sem.bind, arun]; exact ih _ _
  | mark x k ih => intro h; simp only [Sem.bind, arun]; exact ih _
  | halt x => intro h; rfl

/-- The second does what the first does, with blocks renamed. -/
inductive Sim (P : Program) {α : Type} (R : α → α → Prop) (m : Mp) : Sem α → Sem α → Prop
  | doom {s s' : Sem α} (h : ∀ h, arun P s h = none) : Sim P R m s s'
  | pure {a a' : α} (h : R a a') : Sim P R m (.pure a) (.pure a')
  | load {md : Mode} {a : Addr} {k k' : Value → Sem α} (h : ∀ v, Sim P R m (k v) (k' (ren m v))) : Sim P R m (.load md a k) (.load md (renA m a) k')
  | store {md : Mode} {a : Addr} {v : Value} {k k' : Sem α} (h : Sim P R m k k') : Sim P R m (.store md a v k) (.store md (renA m a) (ren m v) k')
  | new {o : Obj} {k k' : Nat → Sem α} (h : ∀ n, (m n).s = 0 → (m n).x = 0 → Sim P R m (k n) (k' (m n).b)) : Sim P R m (.new o k) (.new (renO m o) k')
  | frozen {a : Addr} {k k' : Bool → Sem α} (h : Sim P R m (k false) (k' false)) : Sim P R m (.frozen a k) (.frozen (renA m a) k')
  | getObj {r : Nat} {k k' : Obj → Sem α} (h : ∀ o, Sim P R m (k o) (k' (renO m o))) : Sim P R m (.getObj r k) (.getObj (m r).b k')
  | setObj {r : Nat} {o : Obj} {k k' : Sem α} (h : Sim P R m k k') : Sim P R m (.setObj r o k) (.setObj (m r).b (renO m o) k')
  | program {k k' : Program → Sem α} (h : Sim P R m (k P) (k' P)) : Sim P R m (.program k) (.program k')
  | mark {x : Mark} {k k' : Sem α} (h : Sim P R m k k') : Sim P R m (.mark x k) (.mark x k')
  | choose {q : Question} {k k' : Nat → Sem α} (h : Sim P R m (k 0) (k' 0)) : Sim P R m (.choose q k) (.choose q k')

theorem Sim.bind {P : Program} {α β : Type} {R : α → α → Prop} {Q : β → β → Prop} {m : Mp} {s s' : Sem α} {f f' : α → Sem β} (hs : Sim P R m s s')
    (hf : ∀ a a', R a a' → Sim P Q m (f a) (f' a')) : Sim P Q m (s.bind f) (s'.bind f') := by
  induction hs with
  | doom h => exact .doom fun x => by rw [arun_bind, h]; rfl
  | pure h => exact hf _ _ h
  | load _ ih => exact .load fun v => ih v
  | store _ ih => exact .store ih
  | new _ ih => exact .new fun n h0 h1 => ih n h0 h1
  | frozen _ ih => exact .frozen ih
  | getObj _ ih => exact .getObj fun o => ih o
  | setObj _ ih => exact .setObj ih
  | program _ ih => exact .program ih
  | mark _ ih => exact .mark ih
  | choose _ ih => exact .choose ih
end Go.Proofs.YtipceoeihiaieaaDoor.Ev
