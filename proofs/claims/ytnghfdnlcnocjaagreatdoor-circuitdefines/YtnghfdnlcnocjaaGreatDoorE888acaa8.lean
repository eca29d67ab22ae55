import Derived.Test.YtnghfdnlcnocjaaGreatDoorE43077cd5
import Derived.Test.YtnghfdnlcnocjaaGreatDoorE112e09fc
set_option maxRecDepth 100000
set_option maxHeartbeats 1000000
namespace Go.Proofs.YtnghfdnlcnocjaaGreatDoor.Tok
open Go.RowKit Go.Lib Go.Shelf Go.Proofs.YtnghfdnlcnocjaaGreatDoor.Oct
def spotV (off line col : Nat) : Value := .agg #[.int .i64 (off : Int), .int .i64 (line : Int), .int .i64 (col : Int)]
def tokV (k : Nat) (t : List UInt8) (v : Nat) (off line col : Nat) : Value := .agg #[.int .i64 (k : Int), .string ⟨t.toArray⟩, .int .i64 (v : Int), .int .i64 (off : Int), .int .i64 (line : Int), .int .i64 (col : Int)]
theorem infoTok : (Tryz.prog.info? 100).map (·.size) = some 6 := by kernel_rfl
theorem infoSpot : (Tryz.prog.info? 39).map (·.size) = some 3 := by kernel_rfl
theorem results_ctt {P : Program} {fn : Func} {p u v : Tmp} {ty : TypeId} (h : fn.results = #[.cell p ty, .tmp u, .tmp v]) (tmps : Array Value) (w : World) (g : Nat) (t : TypeId) (cs : Array Value) (fr : Nat × Nat) (d : TypeDesc)
    (hp : tmps.getD p undef = .pointer (some ⟨g, 0, none⟩)) (hg : w.heap[g]? = some (.cells cs t fr))
    (hu : P.underlying ty = some d) (hd : (match d with | .struct _ | .array _ _ => true | _ => false) = true) (hi : (P.info? ty).map (·.size) = some cs.size) :
    (results fn tmps).run P w = .ok (.tuple #[.agg cs, tmps.getD u undef, tmps.getD v undef]) w := by
  have hp' : tmps[p]?.getD undef = .pointer (some ⟨g, 0, none⟩) := by simpa using hp
  simp [results, h, hp', asAddr, run_loadVar_row w g t ty cs fr d hg hu hd hi, Result.andThen]
def cutV : Cut -> Value
  | .tok k t v n => .tuple #[tokV k t v 0 0 0, .int .i64 (n : Int), .int .i64 0]
  | .bad e => .tuple #[tokV 0 [] 0 0 0 0, .int .i64 0, .int .i64 (e : Int)]
theorem at_str (l : List UInt8) : ∀ i b, l[i]? = some b -> ∀ h : i < (⟨l.toArray⟩ : ByteArray).size, (⟨l.toArray⟩ : ByteArray)[i]'h = b := by
  intro i b hb h
  have : l[i]? = some ((⟨l.toArray⟩ : ByteArray)[i]'h) := List.getElem?_eq_getElem (by rw [size_str] at h; exact h)
  rw [this] at hb
  exact Option.some.inj hb
theorem ext_list (l : List UInt8) (a b : Nat) : (⟨l.toArray⟩ : ByteArray).extract a b = ⟨((l.take b).drop a).toArray⟩ := by
  apply ByteArray.ext
  simp [ByteArray.data_extract, List.drop_take]
theorem ext_take (l : List UInt8) (b : Nat) : (⟨l.toArray⟩ : ByteArray).extract 0 b = ⟨(l.take b).toArray⟩ := by rw [ext_list]; rfl
theorem ext_drop (l : List UInt8) (a : Nat) : (⟨l.toArray⟩ : ByteArray).extract a l.length = ⟨(l.drop a).toArray⟩ := by rw [ext_list, List.take_length]
theorem eDigit : ∀ args w, (callFunc 78 args).run Tryz.prog w = .ok (.enter 78 args) w := enters_of Tryz.func78 (by kernel_rfl) rfl
theorem eLetter : ∀ args w, (callFunc 76 args).run Tryz.prog w = .ok (.enter 76 args) w := enters_of Tryz.func76 (by kernel_rfl) rfl
theorem eWord : ∀ args w, (callFunc 101 args).run Tryz.prog w = .ok (.enter 101 args) w := enters_of Tryz.func101 (by kernel_rfl) rfl
theorem eLine : ∀ args w, (callFunc 75 args).run Tryz.prog w = .ok (.enter 75 args) w := enters_of Tryz.func75 (by kernel_rfl) rfl
theorem eQuotes : ∀ args w, (callFunc 104 args).run Tryz.prog w = .ok (.enter 104 args) w := enters_of Tryz.func104 (by kernel_rfl) rfl
theorem below_new (w : World) (o : Obj) : Below w.heap.size w (w.alloc o) := (Below.refl _ _).alloc (Nat.le_refl _) _
theorem sHasPrefix (l p : List UInt8) (w : World) : Calls Tryz.prog 73 #[.string ⟨l.toArray⟩, .string ⟨p.toArray⟩] w fun e w' => e = .returned (.bool (p.isPrefixOf l)) /\ w' = w :=
  Any.strings_HasPrefix Tryz.laysHasPrefix ⟨l.toArray⟩ ⟨p.toArray⟩ w
theorem nName (l : List UInt8) (hl : l.length <= 140737488355328) (w : World) : Calls Tryz.prog 77 #[str l] w fun e w' => e = .returned (cutV (cName l)) /\ Below w.heap.size w w' := by
  have c1 := fun w => nSpan _ inW eWord nWord l hl w
  have hn := sp_le inW l
  unfold cName
  generalize sp inW l = n at *
  obtain ⟨s1, hs1⟩ : ∃ s1, (⟨(l.take n).toArray⟩ : ByteArray) = s1 := ⟨_, rfl⟩
  have hx := ext_take l n
  rw [hs1] at hx
  have Hs := hide hs1
  have hsz := size_str l
  unfold str at *
  clear hs1
  generalize (⟨l.toArray⟩ : ByteArray) = s at *
  by_cases h : 32 < n
  . rw [if_pos h]
    have h' : (32 : Int) < (n : Int) := by omega
    go_enter Tryz.func77, Tryz.ntmps77
    go_wp2_with (go_at_call 74; refine (c1 _).mono ?_; rintro e w1 ⟨rfl, rfl⟩)
    refine bodyPost_ret (results_ctt rfl _ _ w.heap.size _ _ _ _ rfl (heap_alloc_new _ _) Tryz.underlying100 rfl infoTok) rfl ?_
    exact ⟨rfl, below_new _ _⟩
  . rw [if_neg h]
    have h' : ¬ (32 : Int) < (n : Int) := by omega
    go_enter Tryz.func77, Tryz.ntmps77
    go_wp2_with (go_at_call 74; refine (c1 _).mono ?_; rintro e w1 ⟨rfl, rfl⟩)
    refine bodyPost_ret (results_ctt rfl _ _ w.heap.size _ _ _ _ rfl (heap_alloc_new _ _) Tryz.underlying100 rfl infoTok) rfl ?_
    refine ⟨?_, below_new _ _⟩
    rw [cutV, tokV, Hs.out]
    rfl
theorem nFrac (l : List UInt8) (hl : l.length <= 140737488355328) (w : World) : Calls Tryz.prog 102 #[str l] w fun e w' => e = .returned (.int .i64 (frac l : Nat)) /\ w' = w := by
  have c1 := fun w => sHasPrefix l [46] w
  by_cases hp : ([46] : List UInt8).isPrefixOf l = true
  . obtain ⟨r, rfl⟩ : ∃ r, l = 46 :: r := by
      cases l with
      | nil => simp at hp
      | cons a r => simp at hp; exact ⟨r, by rw [← hp]⟩
    have c2 := fun w => nSpan _ isD eDigit nDigit r (by simp at hl; omega) w
    have hn := sp_le isD r
    have hf : frac (46 :: r) = if sp isD r = 0 then 0 else 1 + sp isD r := by simp [frac]
    rw [hf]
    rw [hp] at c1
    have hx := ext_drop (46 :: r) 1
    rw [List.drop_succ_cons, List.drop_zero] at hx
    have hsz := size_str (46 :: r)
    have hlen : 1 <= (46 :: r).length := by simp
    have hrl : r.length <= 140737488355328 := by simp at hl; omega
    unfold str at *
    generalize (46 :: r).length = n at *
    generalize (⟨(46 :: r).toArray⟩ : ByteArray) = s at *
    generalize (⟨r.toArray⟩ : ByteArray) = s1 at *
    generalize sp isD r = m at *
    by_cases h0 : m = 0
    . rw [if_pos h0]
      subst h0
      go_enter Tryz.func102, Tryz.ntmps102
      go_wp2_with (first | (go_at_call 74; refine (c2 _).mono ?_; rintro e w1 ⟨rfl, rfl⟩) | (go_at_call 73; refine (c1 _).mono ?_; rintro e w1 ⟨rfl, rfl⟩))
      go_ret
      exact ⟨rfl, rfl⟩
    . rw [if_neg h0]
      have h0' : ((m : Int) == 0) = false := by rw [beq_eq_false_iff_ne]; omega
      go_enter Tryz.func102, Tryz.ntmps102
      go_wp2_with (first | (go_at_call 74; refine (c2 _).mono ?_; rintro e w1 ⟨rfl, rfl⟩) | (go_at_call 73; refine (c1 _).mono ?_; rintro e w1 ⟨rfl, rfl⟩))
      go_ret
      refine ⟨?_, rfl⟩
      go_num
  . have hp' : ([46] : List UInt8).isPrefixOf l = false := Bool.eq_false_iff.2 hp
    have hf : frac l = 0 := by
      cases l with
      | nil => rfl
      | cons a r =>
        have : a ≠ 46 := by intro e; subst e; simp at hp'
        simp [frac, this]
    rw [hf]
    rw [hp'] at c1
    unfold str at *
    generalize (⟨l.toArray⟩ : ByteArray) = s at *
    go_enter Tryz.func102, Tryz.ntmps102
    go_wp2_with (go_at_call 73; refine (c1 _).mono ?_; rintro e w1 ⟨rfl, rfl⟩)
    go_ret
    exact ⟨rfl, rfl⟩
theorem nQuo (l : List UInt8) (h1 : 1 <= l.length) (hl : l.length <= 140737488355328) (w : World) : Calls Tryz.prog 80 #[str l] w fun e w' => e = .returned (cutV (cQuo l)) /\ Below w.heap.size w w' := by
  have mixed := mixed_ok
  obtain ⟨r, hr⟩ : ∃ r, l.drop 1 = r := ⟨_, rfl⟩
  have hrl : r.length + 1 = l.length := by rw [← hr, List.length_drop]; omega
  have c1 := fun w => nSpan _ inQ eQuotes nQuotes r (by omega) w
  have hn := sp_le inQ r
  unfold cQuo
  rw [hr]
  have hx1 := ext_drop l 1
  rw [hr] at hx1
  generalize sp inQ r = n at *
  obtain ⟨s2, hs2⟩ : ∃ s2, (⟨(r.take n).toArray⟩ : ByteArray) = s2 := ⟨_, rfl⟩
  have hx2 := ext_list l 1 (1 + n)
  have hx3 : (l.take (1 + n)).drop 1 = r.take n := by rw [← hr, List.drop_take]; congr 1; omega
  rw [hx3, hs2] at hx2
  have Hs := hide hs2
  have hsz := size_str l
  have hsz2 : s2.size = n := by rw [← hs2, size_str, List.length_take]; omega
  have hat := at_str l
  have hln : l[n + 1]? = r[n]? := by rw [← hr, List.getElem?_drop, Nat.add_comm]
  unfold str at *
  clear hs2 hx3
  generalize (⟨l.toArray⟩ : ByteArray) = s at *
  generalize (⟨r.toArray⟩ : ByteArray) = s1 at *
  by_cases h : n + 1 < l.length
  . obtain ⟨b, hb0⟩ : ∃ b, r[n]? = some b := ⟨_, List.getElem?_eq_getElem (by omega)⟩
    have hdr : r.drop n = b :: r.drop (n + 1) := by
      rw [List.drop_eq_getElem_cons (by omega)]
      rw [List.getElem?_eq_getElem (by omega)] at hb0
      rw [Option.some.inj hb0]
    have hb := hat (n + 1) b (by rw [hln]; exact hb0) (by omega)
    rw [hdr, cQuoT]
    have h' : ¬ (l.length : Int) < (n : Int) + 2 := by omega
    have h2 : (n : Int) + 2 - 1 = ((n + 1 : Nat) : Int) := by omega
    clear hdr hat hln hb0
    by_cases hq : b = 34
    . rw [if_pos hq]
      subst hq
      go_enter Tryz.func80, Tryz.ntmps80
      go_wp2_with (go_at_call 74; refine (c1 _).mono ?_; rintro e w1 ⟨rfl, rfl⟩)
      refine bodyPost_ret (results_ctt rfl _ _ w.heap.size _ _ _ _ rfl (heap_alloc_new _ _) Tryz.underlying100 rfl infoTok) rfl ?_
      refine ⟨?_, below_new _ _⟩
      rw [cutV, tokV, Hs.out]
      rfl
    . rw [if_neg hq]
      have hq1 : ((b.toNat : Int) == 34) = false := by rw [beq_eq_false_iff_ne]; intro e; apply hq; apply UInt8.toNat.inj; simp; omega
      have hq2 : ((b.toNat : Int) != 34) = true := by rw [bne, hq1]; rfl
      go_enter Tryz.func80, Tryz.ntmps80
      go_wp2_with (go_at_call 74; refine (c1 _).mono ?_; rintro e w1 ⟨rfl, rfl⟩)
      refine bodyPost_ret (results_ctt rfl _ _ w.heap.size _ _ _ _ rfl (heap_alloc_new _ _) Tryz.underlying100 rfl infoTok) rfl ?_
      exact ⟨rfl, below_new _ _⟩
  . have h' : (l.length : Int) < (n : Int) + 2 := by omega
    have hdr : r.drop n = [] := List.drop_of_length_le (by omega)
    rw [hdr, cQuoT]
    clear hat hdr
    go_enter Tryz.func80, Tryz.ntmps80
    go_wp2_with (go_at_call 74; refine (c1 _).mono ?_; rintro e w1 ⟨rfl, rfl⟩)
    refine bodyPost_ret (results_ctt rfl _ _ w.heap.size _ _ _ _ rfl (heap_alloc_new _ _) Tryz.underlying100 rfl infoTok) rfl ?_
    exact ⟨rfl, below_new _ _⟩
section
variable {P : Program}
theorem run_loadVar_cells (w : World) (g : Nat) (ty : TypeId) (cs : List Value) (d : TypeDesc) (hg : ∀ j v, cs[j]? = some v -> w.cell? ⟨g, j, none⟩ = some v)
    (hu : P.underlying ty = some d) (hd : (match d with | .struct _ | .array _ _ => true | _ => false) = true) (hi : (P.info? ty).map (·.size) = some cs.length) :
    (loadVar ty ⟨g, 0, none⟩).run P w = .ok (.agg cs.toArray) w := by
  have hl : (loadCells ⟨g, 0, none⟩ cs.length).run P w = .ok cs.toArray w :=
    run_loadCells_list (P := P) w ⟨g, 0, none⟩ cs (fun j v hv => by
      have hadd : (⟨g, 0, none⟩ : Addr).add j = ⟨g, j, none⟩ := by unfold Addr.add; split <;> simp_all
      rw [hadd]
      exact hg j v hv)
  cases hq : P.info? ty with
  | none => simp [hq] at hi
  | some i =>
    have hs : i.size = cs.length := by simpa [hq] using hi
    have hagg : (isAgg ty).run P w = .ok true w := by
      unfold isAgg
      rw [Sem.run_bind, run_underlying hu w]
      cases d <;> simp_all
    simp [loadVar, Sem.run_bind, hagg, sizeOf, typeInfo, hq, hs, hl]
theorem wpList_load_cells {ops : Array Oper} {rest : List Oper} {o : Oper} {a : Act} {w : World} {Q : Exit -> Act -> World -> Prop} (hgd : o.guard = none) (ty : TypeId) (x : Operand) (ho : o.op = .load ty x)
    (g : Nat) (hx : a.eval x = .pointer (some ⟨g, 0, none⟩)) (cs : List Value) (d : TypeDesc) (hg : ∀ j v, cs[j]? = some v -> w.cell? ⟨g, j, none⟩ = some v)
    (hu : P.underlying ty = some d) (hd : (match d with | .struct _ | .array _ _ => true | _ => false) = true) (hi : (P.info? ty).map (·.size) = some cs.length)
    (h : wpList P ops Q rest (a.put o.dst (.agg cs.toArray)) w) : wpList P ops Q (o :: rest) a w :=
  wpList_plain hgd fun K hK => by
    unfold Oper.wp execOp
    simp only [ho, hx, Instr.loadAt, Instr.sureAddr, Sem.run_bind, Sem.run_pure, Result.andThen_ok, run_loadVar_cells w g ty cs d hg hu hd hi]
    exact hK _ _ h
end
def mkV : List Value := [.string ⟨#[59]⟩, .string ⟨#[44]⟩, .string ⟨#[40]⟩, .string ⟨#[41]⟩, .string ⟨#[91]⟩, .string ⟨#[93]⟩, .string ⟨#[123]⟩, .string ⟨#[125]⟩, .string ⟨#[45, 62]⟩, .string ⟨#[61, 61]⟩]
theorem ix0 (w : World) : (Instr.index 164 (.agg mkV.toArray) (.int .i64 0)).run Tryz.prog w = .ok (.string ⟨#[59]⟩) w := by kernel_rfl
theorem ix1 (w : World) : (Instr.index 164 (.agg mkV.toArray) (.int .i64 1)).run Tryz.prog w = .ok (.string ⟨#[44]⟩) w := by kernel_rfl
theorem ix2 (w : World) : (Instr.index 164 (.agg mkV.toArray) (.int .i64 2)).run Tryz.prog w = .ok (.string ⟨#[40]⟩) w := by kernel_rfl
theorem ix3 (w : World) : (Instr.index 164 (.agg mkV.toArray) (.int .i64 3)).run Tryz.prog w = .ok (.string ⟨#[41]⟩) w := by kernel_rfl
theorem ix4 (w : World) : (Instr.index 164 (.agg mkV.toArray) (.int .i64 4)).run Tryz.prog w = .ok (.string ⟨#[91]⟩) w := by kernel_rfl
theorem ix5 (w : World) : (Instr.index 164 (.agg mkV.toArray) (.int .i64 5)).run Tryz.prog w = .ok (.string ⟨#[93]⟩) w := by kernel_rfl
theorem ix6 (w : World) : (Instr.index 164 (.agg mkV.toArray) (.int .i64 6)).run Tryz.prog w = .ok (.string ⟨#[123]⟩) w := by kernel_rfl
theorem ix7 (w : World) : (Instr.index 164 (.agg mkV.toArray) (.int .i64 7)).run Tryz.prog w = .ok (.string ⟨#[125]⟩) w := by kernel_rfl
theorem ix8 (w : World) : (Instr.index 164 (.agg mkV.toArray) (.int .i64 8)).run Tryz.prog w = .ok (.string ⟨#[45, 62]⟩) w := by kernel_rfl
theorem ix9 (w : World) : (Instr.index 164 (.agg mkV.toArray) (.int .i64 9)).run Tryz.prog w = .ok (.string ⟨#[61, 61]⟩) w := by kernel_rfl
def Mk (w : World) : Prop := ∀ j v, mkV[j]? = some v -> w.cell? ⟨2, j, none⟩ = some v
theorem Mk.below {w w' : World} {B : Nat} (h : Mk w) (hb : Below B w w') (hB : 2 < B) : Mk w' := fun j v hv => (hb.cell hB).trans (h j v hv)
theorem nMark (l : List UInt8) (w : World) (hM : Mk w) (hw : 2 < w.heap.size) : Calls Tryz.prog 81 #[str l] w fun e w' => e = .returned (cutV (cMark l)) /\ Below w.heap.size w w' := by
  have cp := fun p w => sHasPrefix l p w
  unfold cMark str at *
  have hM1 : ∀ o, Mk (w.alloc o) := fun o => hM.below (below_new w o) hw
  generalize hs : (⟨l.toArray⟩ : ByteArray) = s at *
  go_enter Tryz.func81, Tryz.ntmps81
  go_wp2_with (refine wpList_load_cells rfl _ _ rfl 2 rfl mkV _ (hM1 _) Tryz.underlying164 rfl (by kernel_rfl) ?_)
  refine wp_loop_rounds 11 ?_
  clear hM hM1 hs
  rw [rounds_succ]
  have c0 := fun w => cp [59] w
  have i0 := ix0
  cases h0 : ([59] : List UInt8).isPrefixOf l
  rotate_left
  . rw [h0] at c0
    have Hr : Hid (cMarkF l marks = .tok 5 [59] 0 1) := hide (by simp only [marks, cMarkF, h0, if_true]; rfl)
    go_wp2_with (go_at_call 73; refine (c0 _).mono ?_; rintro e w1 ⟨rfl, rfl⟩)
    refine bodyPost_ret (results_ctt rfl _ _ w.heap.size _ _ _ _ rfl (heap_alloc_new _ _) Tryz.underlying100 rfl infoTok) rfl ?_
    rw [Hr.out]
    exact ⟨rfl, below_new _ _⟩
  rw [h0] at c0
  go_wp2_with (go_at_call 73; refine (c0 _).mono ?_; rintro e w1 ⟨rfl, rfl⟩)
  clear c0 i0
  rw [rounds_succ]
  have c1 := fun w => cp [44] w
  have i1 := ix1
  cases h1 : ([44] : List UInt8).isPrefixOf l
  rotate_left
  . rw [h1] at c1
    have Hr : Hid (cMarkF l marks = .tok 5 [44] 0 1) := hide (by simp only [marks, cMarkF, h0, h1, if_true, Bool.false_eq_true, if_false]; rfl)
    go_wp2_with (go_at_call 73; refine (c1 _).mono ?_; rintro e w1 ⟨rfl, rfl⟩)
    refine bodyPost_ret (results_ctt rfl _ _ w.heap.size _ _ _ _ rfl (heap_alloc_new _ _) Tryz.underlying100 rfl infoTok) rfl ?_
    rw [Hr.out]
    exact ⟨rfl, below_new _ _⟩
  rw [h1] at c1
  go_wp2_with (go_at_call 73; refine (c1 _).mono ?_; rintro e w1 ⟨rfl, rfl⟩)
  clear c1 i1
  rw [rounds_succ]
  have c2 := fun w => cp [40] w
  have i2 := ix2
  cases h2 : ([40] : List UInt8).isPrefixOf l
  rotate_left
  . rw [h2] at c2
    have Hr : Hid (cMarkF l marks = .tok 5 [40] 0 1) := hide (by simp only [marks, cMarkF, h0, h1, h2, if_true, Bool.false_eq_true, if_false]; rfl)
    go_wp2_with (go_at_call 73; refine (c2 _).mono ?_; rintro e w1 ⟨rfl, rfl⟩)
    refine bodyPost_ret (results_ctt rfl _ _ w.heap.size _ _ _ _ rfl (heap_alloc_new _ _) Tryz.underlying100 rfl infoTok) rfl ?_
    rw [Hr.out]
    exact ⟨rfl, below_new _ _⟩
  rw [h2] at c2
  go_wp2_with (go_at_call 73; refine (c2 _).mono ?_; rintro e w1 ⟨rfl, rfl⟩)
  clear c2 i2
  rw [rounds_succ]
  have c3 := fun w => cp [41] w
  have i3 := ix3
  cases h3 : ([41] : List UInt8).isPrefixOf l
  rotate_left
  . rw [h3] at c3
    have Hr : Hid (cMarkF l marks = .tok 5 [41] 0 1) := hide (by simp only [marks, cMarkF, h0, h1, h2, h3, if_true, Bool.false_eq_true, if_false]; rfl)
    go_wp2_with (go_at_call 73; refine (c3 _).mono ?_; rintro e w1 ⟨rfl, rfl⟩)
    refine bodyPost_ret (results_ctt rfl _ _ w.heap.size _ _ _ _ rfl (heap_alloc_new _ _) Tryz.underlying100 rfl infoTok) rfl ?_
    rw [Hr.out]
    exact ⟨rfl, below_new _ _⟩
  rw [h3] at c3
  go_wp2_with (go_at_call 73; refine (c3 _).mono ?_; rintro e w1 ⟨rfl, rfl⟩)
  clear c3 i3
  rw [rounds_succ]
  have c4 := fun w => cp [91] w
  have i4 := ix4
  cases h4 : ([91] : List UInt8).isPrefixOf l
  rotate_left
  . rw [h4] at c4
    have Hr : Hid (cMarkF l marks = .tok 5 [91] 0 1) := hide (by simp only [marks, cMarkF, h0, h1, h2, h3, h4, if_true, Bool.false_eq_true, if_false]; rfl)
    go_wp2_with (go_at_call 73; refine (c4 _).mono ?_; rintro e w1 ⟨rfl, rfl⟩)
    refine bodyPost_ret (results_ctt rfl _ _ w.heap.size _ _ _ _ rfl (heap_alloc_new _ _) Tryz.underlying100 rfl infoTok) rfl ?_
    rw [Hr.out]
    exact ⟨rfl, below_new _ _⟩
  rw [h4] at c4
  go_wp2_with (go_at_call 73; refine (c4 _).mono ?_; rintro e w1 ⟨rfl, rfl⟩)
  clear c4 i4
  rw [rounds_succ]
  have c5 := fun w => cp [93] w
  have i5 := ix5
  cases h5 : ([93] : List UInt8).isPrefixOf l
  rotate_left
  . rw [h5] at c5
    have Hr : Hid (cMarkF l marks = .tok 5 [93] 0 1) := hide (by simp only [marks, cMarkF, h0, h1, h2, h3, h4, h5, if_true, Bool.false_eq_true, if_false]; rfl)
    go_wp2_with (go_at_call 73; refine (c5 _).mono ?_; rintro e w1 ⟨rfl, rfl⟩)
    refine bodyPost_ret (results_ctt rfl _ _ w.heap.size _ _ _ _ rfl (heap_alloc_new _ _) Tryz.underlying100 rfl infoTok) rfl ?_
    rw [Hr.out]
    exact ⟨rfl, below_new _ _⟩
  rw [h5] at c5
  go_wp2_with (go_at_call 73; refine (c5 _).mono ?_; rintro e w1 ⟨rfl, rfl⟩)
  clear c5 i5
  rw [rounds_succ]
  have c6 := fun w => cp [123] w
  have i6 := ix6
  cases h6 : ([123] : List UInt8).isPrefixOf l
  rotate_left
  . rw [h6] at c6
    have Hr : Hid (cMarkF l marks = .tok 5 [123] 0 1) := hide (by simp only [marks, cMarkF, h0, h1, h2, h3, h4, h5, h6, if_true, Bool.false_eq_true, if_false]; rfl)
    go_wp2_with (go_at_call 73; refine (c6 _).mono ?_; rintro e w1 ⟨rfl, rfl⟩)
    refine bodyPost_ret (results_ctt rfl _ _ w.heap.size _ _ _ _ rfl (heap_alloc_new _ _) Tryz.underlying100 rfl infoTok) rfl ?_
    rw [Hr.out]
    exact ⟨rfl, below_new _ _⟩
  rw [h6] at c6
  go_wp2_with (go_at_call 73; refine (c6 _).mono ?_; rintro e w1 ⟨rfl, rfl⟩)
  clear c6 i6
  rw [rounds_succ]
  have c7 := fun w => cp [125] w
  have i7 := ix7
  cases h7 : ([125] : List UInt8).isPrefixOf l
  rotate_left
  . rw [h7] at c7
    have Hr : Hid (cMarkF l marks = .tok 5 [125] 0 1) := hide (by simp only [marks, cMarkF, h0, h1, h2, h3, h4, h5, h6, h7, if_true, Bool.false_eq_true, if_false]; rfl)
    go_wp2_with (go_at_call 73; refine (c7 _).mono ?_; rintro e w1 ⟨rfl, rfl⟩)
    refine bodyPost_ret (results_ctt rfl _ _ w.heap.size _ _ _ _ rfl (heap_alloc_new _ _) Tryz.underlying100 rfl infoTok) rfl ?_
    rw [Hr.out]
    exact ⟨rfl, below_new _ _⟩
  rw [h7] at c7
  go_wp2_with (go_at_call 73; refine (c7 _).mono ?_; rintro e w1 ⟨rfl, rfl⟩)
  clear c7 i7
  rw [rounds_succ]
  have c8 := fun w => cp [45, 62] w
  have i8 := ix8
  cases h8 : ([45, 62] : List UInt8).isPrefixOf l
  rotate_left
  . rw [h8] at c8
    have Hr : Hid (cMarkF l marks = .tok 5 [45, 62] 0 2) := hide (by simp only [marks, cMarkF, h0, h1, h2, h3, h4, h5, h6, h7, h8, if_true, Bool.false_eq_true, if_false]; rfl)
    go_wp2_with (go_at_call 73; refine (c8 _).mono ?_; rintro e w1 ⟨rfl, rfl⟩)
    refine bodyPost_ret (results_ctt rfl _ _ w.heap.size _ _ _ _ rfl (heap_alloc_new _ _) Tryz.underlying100 rfl infoTok) rfl ?_
    rw [Hr.out]
    exact ⟨rfl, below_new _ _⟩
  rw [h8] at c8
  go_wp2_with (go_at_call 73; refine (c8 _).mono ?_; rintro e w1 ⟨rfl, rfl⟩)
  clear c8 i8
  rw [rounds_succ]
  have c9 := fun w => cp [61, 61] w
  have i9 := ix9
  cases h9 : ([61, 61] : List UInt8).isPrefixOf l
  rotate_left
  . rw [h9] at c9
    have Hr : Hid (cMarkF l marks = .tok 5 [61, 61] 0 2) := hide (by simp only [marks, cMarkF, h0, h1, h2, h3, h4, h5, h6, h7, h8, h9, if_true, Bool.false_eq_true, if_false]; rfl)
    go_wp2_with (go_at_call 73; refine (c9 _).mono ?_; rintro e w1 ⟨rfl, rfl⟩)
    refine bodyPost_ret (results_ctt rfl _ _ w.heap.size _ _ _ _ rfl (heap_alloc_new _ _) Tryz.underlying100 rfl infoTok) rfl ?_
    rw [Hr.out]
    exact ⟨rfl, below_new _ _⟩
  rw [h9] at c9
  go_wp2_with (go_at_call 73; refine (c9 _).mono ?_; rintro e w1 ⟨rfl, rfl⟩)
  clear c9 i9
  rw [rounds_succ]
  have Hr : Hid (cMarkF l marks = .bad 40) := hide (by simp only [marks, cMarkF, h0, h1, h2, h3, h4, h5, h6, h7, h8, h9, Bool.false_eq_true, if_false])
  go_wp2_with fail
  refine bodyPost_ret (results_ctt rfl _ _ w.heap.size _ _ _ _ rfl (heap_alloc_new _ _) Tryz.underlying100 rfl infoTok) rfl ?_
  rw [Hr.out]
  exact ⟨rfl, below_new _ _⟩
end Go.Proofs.YtnghfdnlcnocjaaGreatDoor.Tok
