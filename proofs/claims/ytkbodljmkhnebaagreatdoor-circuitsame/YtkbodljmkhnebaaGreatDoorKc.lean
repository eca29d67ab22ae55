/- Package token: name, as it is walked. -/
import Derived.Test.YtkbodljmkhnebaaGreatDoorKb
import Derived.Test.YtkbodljmkhnebaaGreatDoorKShelf
namespace Go.Proofs.YtkbodljmkhnebaaGreatDoor.Tok
open Go.RowKit Go.Lib Go.Shelf Go.Proofs.YtkbodljmkhnebaaGreatDoor.Oct

def spotV (off line col : Nat) : Value := .agg #[.int .i64 (off : Int), .int .i64 (line : Int), .int .i64 (col : Int)]
def tokV (k : Nat) (t : List UInt8) (v : Nat) (off line col : Nat) : Value := .agg #[.int .i64 (k : Int), .string ⟨t.toArray⟩, .int .i64 (v : Int), .int .i64 (off : Int), .int .i64 (line : Int), .int .i64 (col : Int)]
theorem infoTok : (Tryz.prog.info? 62).map (·.size) = some 6 := by kernel_rfl
theorem infoSpot : (Tryz.prog.info? 43).map (·.size) = some 3 := by kernel_rfl
/-- What a call answers: a struct in a cell, and two words. -/
theorem results_ctt {P : Program} {fn : Func} {p u v : Tmp} {ty : TypeId} (h : fn.results = #[.cell p ty, .tmp u, .tmp v]) (tmps : Array Value) (w : World) (g : Nat) (t : TypeId) (cs : Array Value) (fr : Nat × Nat) (d : TypeDesc)
    (hp : tmps.getD p undef = .pointer (some ⟨g, 0, none⟩)) (hg : w.heap[g]? = some (.cells cs t fr))
    (hu : P.underlying ty = some d) (hd : (match d with | .struct _ | .array _ _ => true | _ => false) = true) (hi : (P.info? ty).map (·.size) = some cs.size) :
    (results fn tmps).run P w = .ok (.tuple #[.agg cs, tmps.getD u undef, tmps.getD v undef]) w := by
  have hp' : tmps[p]?.getD undef = .pointer (some ⟨g, 0, none⟩) := by simpa using hp
  simp [results, h, hp', asAddr, run_loadVar_row w g t ty cs fr d hg hu hd hi, Result.andThen]
def cutV : Cut → Value
  | .tok k t v n => .tuple #[tokV k t v 0 0 0, .int .i64 (n : Int), .int .i64 0]
  | .bad e => .tuple #[tokV 0 [] 0 0 0 0, .int .i64 0, .int .i64 (e : Int)]
theorem at_str (l : List UInt8) : ∀ i b, l[i]? = some b → ∀ h : i < (⟨l.toArray⟩ : ByteArray).size, (⟨l.toArray⟩ : ByteArray)[i]'h = b := by
  intro i b hb h
  have : l[i]? = some ((⟨l.toArray⟩ : ByteArray)[i]'h) := List.getElem?_eq_getElem (by rw [size_str] at h; exact h)
  rw [this] at hb
  exact Option.some.inj hb
theorem ext_list (l : List UInt8) (a b : Nat) : (⟨l.toArray⟩ : ByteArray).extract a b = ⟨((l.take b).drop a).toArray⟩ := by
  apply ByteArray.ext
  simp [ByteArray.data_extract, List.drop_take]
theorem ext_take (l : List UInt8) (b : Nat) : (⟨l.toArray⟩ : ByteArray).extract 0 b = ⟨(l.take b).toArray⟩ := by rw [ext_list]; rfl
theorem ext_drop (l : List UInt8) (a : Nat) : (⟨l.toArray⟩ : ByteArray).extract a l.length = ⟨(l.drop a).toArray⟩ := by rw [ext_list, List.take_length]

theorem eDigit : ∀ args w, (callFunc 119 args).run Tryz.prog w = .ok (.enter 119 args) w := enters_of Tryz.func119 (by kernel_rfl) rfl
theorem eLetter : ∀ args w, (callFunc 117 args).run Tryz.prog w = .ok (.enter 117 args) w := enters_of Tryz.func117 (by kernel_rfl) rfl
theorem eWord : ∀ args w, (callFunc 163 args).run Tryz.prog w = .ok (.enter 163 args) w := enters_of Tryz.func163 (by kernel_rfl) rfl
theorem eLine : ∀ args w, (callFunc 116 args).run Tryz.prog w = .ok (.enter 116 args) w := enters_of Tryz.func116 (by kernel_rfl) rfl
theorem eQuotes : ∀ args w, (callFunc 166 args).run Tryz.prog w = .ok (.enter 166 args) w := enters_of Tryz.func166 (by kernel_rfl) rfl

theorem below_new (w : World) (o : Obj) : Below w.heap.size w (w.alloc o) := (Below.refl _ _).alloc (Nat.le_refl _) _
theorem sHasPrefix (l p : List UInt8) (w : World) : Calls Tryz.prog 114 #[.string ⟨l.toArray⟩, .string ⟨p.toArray⟩] w fun e w' => e = .returned (.bool (p.isPrefixOf l)) ∧ w' = w :=
  Any.strings_HasPrefix Tryz.laysHasPrefix ⟨l.toArray⟩ ⟨p.toArray⟩ w
set_option maxHeartbeats 1000000 in
theorem nName (l : List UInt8) (hl : l.length ≤ 140737488355328) (w : World) : Calls Tryz.prog 118 #[str l] w fun e w' => e = .returned (cutV (cName l)) ∧ Below w.heap.size w w' := by
  have c1 := fun w => nSpan _ inW eWord nWord l hl w
  have hn := sp_le inW l
  unfold cName
  generalize sp inW l = n at *
  obtain ⟨s1, hs1⟩ : ∃ s1, (⟨(l.take n).toArray⟩ : ByteArray) = s1 := ⟨_, rfl⟩
  have hx := ext_take l n
  rw [hs1] at hx
  have Hs := hide hs1
  have hsz := size_str l
  unfold str at *
  clear hs1
  generalize (⟨l.toArray⟩ : ByteArray) = s at *
  by_cases h : 32 < n
  · rw [if_pos h]
    have h' : (32 : Int) < (n : Int) := by omega
    go_enter Tryz.func118, Tryz.ntmps118
    go_wp2_with (go_at_call 115; refine (c1 _).mono ?_; rintro e w1 ⟨rfl, rfl⟩)
    refine bodyPost_ret (results_ctt rfl _ _ w.heap.size _ _ _ _ rfl (heap_alloc_new _ _) Tryz.underlying62 rfl infoTok) rfl ?_
    exact ⟨rfl, below_new _ _⟩
  · rw [if_neg h]
    have h' : ¬ (32 : Int) < (n : Int) := by omega
    go_enter Tryz.func118, Tryz.ntmps118
    go_wp2_with (go_at_call 115; refine (c1 _).mono ?_; rintro e w1 ⟨rfl, rfl⟩)
    refine bodyPost_ret (results_ctt rfl _ _ w.heap.size _ _ _ _ rfl (heap_alloc_new _ _) Tryz.underlying62 rfl infoTok) rfl ?_
    refine ⟨?_, below_new _ _⟩
    rw [cutV, tokV, Hs.out]
    rfl
set_option maxHeartbeats 1000000 in
theorem nFrac (l : List UInt8) (hl : l.length ≤ 140737488355328) (w : World) : Calls Tryz.prog 164 #[str l] w fun e w' => e = .returned (.int .i64 (frac l : Nat)) ∧ w' = w := by
  have c1 := fun w => sHasPrefix l [46] w
  by_cases hp : ([46] : List UInt8).isPrefixOf l = true
  · obtain ⟨r, rfl⟩ : ∃ r, l = 46 :: r := by
      cases l with
      | nil => simp at hp
      | cons a r => simp at hp; exact ⟨r, by rw [← hp]⟩
    have c2 := fun w => nSpan _ isD eDigit nDigit r (by simp at hl; omega) w
    have hn := sp_le isD r
    have hf : frac (46 :: r) = if sp isD r = 0 then 0 else 1 + sp isD r := by simp [frac]
    rw [hf]
    rw [hp] at c1
    have hx := ext_drop (46 :: r) 1
    rw [List.drop_succ_cons, List.drop_zero] at hx
    have hsz := size_str (46 :: r)
    have hlen : 1 ≤ (46 :: r).length := by simp
    have hrl : r.length ≤ 140737488355328 := by simp at hl; omega
    unfold str at *
    generalize (46 :: r).length = n at *
    generalize (⟨(46 :: r).toArray⟩ : ByteArray) = s at *
    generalize (⟨r.toArray⟩ : ByteArray) = s1 at *
    generalize sp isD r = m at *
    by_cases h0 : m = 0
    · rw [if_pos h0]
      subst h0
      go_enter Tryz.func164, Tryz.ntmps164
      go_wp2_with (first | (go_at_call 115; refine (c2 _).mono ?_; rintro e w1 ⟨rfl, rfl⟩) | (go_at_call 114; refine (c1 _).mono ?_; rintro e w1 ⟨rfl, rfl⟩))
      go_ret
      exact ⟨rfl, rfl⟩
    · rw [if_neg h0]
      have h0' : ((m : Int) == 0) = false := by rw [beq_eq_false_iff_ne]; omega
      go_enter Tryz.func164, Tryz.ntmps164
      go_wp2_with (first | (go_at_call 115; refine (c2 _).mono ?_; rintro e w1 ⟨rfl, rfl⟩) | (go_at_call 114; refine (c1 _).mono ?_; rintro e w1 ⟨rfl, rfl⟩))
      go_ret
      refine ⟨?_, rfl⟩
      go_num
  · have hp' : ([46] : List UInt8).isPrefixOf l = false := Bool.eq_false_iff.2 hp
    have hf : frac l = 0 := by
      cases l with
      | nil => rfl
      | cons a r =>
        have : a ≠ 46 := by intro e; subst e; simp at hp'
        simp [frac, this]
    rw [hf]
    rw [hp'] at c1
    unfold str at *
    generalize (⟨l.toArray⟩ : ByteArray) = s at *
    go_enter Tryz.func164, Tryz.ntmps164
    go_wp2_with (go_at_call 114; refine (c1 _).mono ?_; rintro e w1 ⟨rfl, rfl⟩)
    go_ret
    exact ⟨rfl, rfl⟩
end Go.Proofs.YtkbodljmkhnebaaGreatDoor.Tok
