/- How many calls. -/
import Derived.Test.YtkbodljmkhnebaaGreatDoorTx
namespace Go.Proofs.YtkbodljmkhnebaaGreatDoor.Cir
open Go.RowKit Go.Shelf Go.Proofs.YtkbodljmkhnebaaGreatDoor.Oct Go.Proofs.YtkbodljmkhnebaaGreatDoor.Tok Go.Proofs.YtkbodljmkhnebaaGreatDoor.Gt

theorem call_stops (Ba Bk n₀ c k : Nat) (ao : Option Addr) (args : List Ag) (xs : List N64) (hx : xs.map (·.1) = args.map (atP k)) (hl : args.length ≤ 4398046511105) (hfr : ∀ a ∈ args, a.fr ≤ 4398046511104) (hk : k ≤ 4398046511104) (hba : Ba < n₀) (hbk : Bk < n₀) (w : World) (hn₀ : n₀ ≤ w.heap.size)
    (hBa : w.cell? ⟨Ba, 0, none⟩ = some (.slice ao args.length c)) (hBk : w.cell? ⟨Bk, 0, none⟩ = some (.int .i64 (k : Int))) (hI : Asb n₀ w (.slice ao args.length c) args) :
    SeqStopsK Fence.wide (3 - 1) Tryz.prog 211 #[.pointer (some ⟨Ba, 0, none⟩), .pointer (some ⟨Bk, 0, none⟩)] (fun x : N64 => #[.int .i64 (x.1 : Int)]) (Below n₀) (fun ys => ys = xs) (fun pre => pre <+: xs) xs.length w := fun l J Jx W hW hJ _ hY h0 =>
  cCall1 l Ba Bk n₀ c k ao args xs hx hl hfr hk hbk J Jx W hJ (Nat.le_trans hn₀ hW.size) hY ((hW.cell (p := ⟨Ba, 0, none⟩) (by show Ba < _; omega)).trans hBa) ((hW.cell (p := ⟨Bk, 0, none⟩) (by show Bk < _; omega)).trans hBk) (hI.below hn₀ hW) h0
theorem hmP_cons (n : Nat) (a : Ag) (r : List Ag) : hmP n (a :: r) = if a.whole then (if n ≠ 0 ∧ n ≠ a.sz then none else hmP a.sz r) else hmP n r := rfl
theorem mx1 (n : Nat) : ((max n 1 : Nat) : Int) = max (n : Int) 1 := by omega
theorem infoIs : (Tryz.prog.info? 30).map (fun i => (i.zero, i.size, i.bytes)) = some (some (.slice none 0 0), 1, 24) := by kernel_rfl
def hmV (o : Option Nat) : Value := match o with
  | none => .tuple #[.int .i64 0, .bool false]
  | some n => .tuple #[.int .i64 (n : Int), .bool true]
set_option maxRecDepth 100000 in
set_option maxHeartbeats 1000000 in
theorem cHowMany (C c : Nat) (ao : Option Addr) (args : List Ag) (hl : args.length ≤ 4398046511105) (w : World) (hC : C ≤ w.heap.size) (hI : Asb C w (.slice ao args.length c) args) :
    Calls Tryz.prog 210 #[.slice ao args.length c] w fun e w' => e = .returned (hmV (hmP 0 args)) ∧ Below w.heap.size w w' := by
  obtain ⟨P, hP⟩ : ∃ P, hmP 0 args = P := ⟨_, rfl⟩
  rw [hP]
  have HP := hide hP
  obtain ⟨m, hm⟩ : ∃ m, args.length = m := ⟨_, rfl⟩
  have HM := hide hm
  rw [hm] at hl hI ⊢
  clear hP hm
  go_enter Tryz.func210, Tryz.ntmps210
  go_wp2_with fail
  go_loopw [4, 9] (fun vn vi wr => ∃ i n : Nat, vn = .int .i64 (n : Int) ∧ vi = .int .i64 (i : Int) ∧ i ≤ m ∧ Hid (hmP n (args.drop i) = P) ∧ Below w.heap.size w wr) (fun _ vi _ => m - (Go.RowKit.intOf vi).toNat)
  case atStart => exact ⟨0, 0, rfl, rfl, Nat.zero_le _, HP, Below.refl _ _⟩
  case round =>
    clear HP
    obtain ⟨i, n, rfl, rfl, hi, HP, hb⟩ := hrel
    by_cases h : i < m
    · have hdd : decide ((i : Int) < (m : Int)) = true := decide_eq_true (by omega)
      obtain ⟨a, ha⟩ : ∃ a, args[i]? = some a := ⟨_, List.getElem?_eq_getElem (by rw [HM.out]; exact h)⟩
      have hdr : args.drop i = a :: args.drop (i + 1) := by
        rw [List.drop_eq_getElem_cons (by rw [HM.out]; exact h)]
        rw [List.getElem?_eq_getElem (by rw [HM.out]; exact h)] at ha
        rw [Option.some.inj ha]
      obtain ⟨g, off, rfl, hg, k0, k1, k2⟩ := hI.cells ha
      have r0 := (hb.cell (p := ⟨g, off + i * 3, none⟩) (by show g < _; omega)).trans k0
      have r1 := (hb.cell (p := ⟨g, off + i * 3 + 1, none⟩) (by show g < _; omega)).trans k1
      have r2 := (hb.cell (p := ⟨g, off + i * 3 + 2, none⟩) (by show g < _; omega)).trans k2
      have hP := HP.out
      rw [hdr, hmP_cons] at hP
      obtain ⟨fr, sz, wh⟩ := a
      simp only at r0 r1 r2 hP
      clear k0 k1 k2 hdr ha HP
      cases wh with
      | false =>
        have HP := hide hP
        simp only [Bool.false_eq_true, if_false] at HP
        clear hP
        go_wp2_with fail
        go_roundw
        case rel => exact ⟨i + 1, n, rfl, by go_num, by omega, HP, hb.trans ((bnew _ _).mono hb.size)⟩
        case measure => simp [Go.RowKit.intOf]; omega
      | true =>
        simp only [if_true] at hP
        by_cases hn : n = 0
        · rw [if_neg (by omega)] at hP
          have HP := hide hP
          have e1 : ((n : Int) != 0) = false := by simp; omega
          have e2 : ((n : Int) == 0) = true := by simp; omega
          clear hP
          go_wp2_with fail
          go_roundw
          case rel => exact ⟨i + 1, sz, rfl, by go_num, by omega, HP, hb.trans ((bnew _ _).mono hb.size)⟩
          case measure => simp [Go.RowKit.intOf]; omega
        · have e1 : ((n : Int) != 0) = true := by simp; omega
          have e2 : ((n : Int) == 0) = false := by simp; omega
          by_cases hs : n = sz
          · rw [if_neg (by omega)] at hP
            have HP := hide hP
            have e3 : ((n : Int) != (sz : Int)) = false := by simp; omega
            have e4 : ((n : Int) == (sz : Int)) = true := by simp; omega
            clear hP
            go_wp2_with fail
            go_roundw
            case rel => exact ⟨i + 1, sz, rfl, by go_num, by omega, HP, hb.trans ((bnew _ _).mono hb.size)⟩
            case measure => simp [Go.RowKit.intOf]; omega
          · rw [if_pos ⟨hn, hs⟩] at hP
            have HP := hide hP
            have e3 : ((n : Int) != (sz : Int)) = true := by simp; omega
            have e4 : ((n : Int) == (sz : Int)) = false := by simp; omega
            clear hP
            go_wp2_with fail
            go_ret2
            exact ⟨by rw [← HP.out]; rfl, hb.trans ((bnew _ _).mono hb.size)⟩
    · obtain rfl : m = i := by omega
      have hP := HP.out
      rw [List.drop_eq_nil_of_le (by rw [HM.out]; exact Nat.le_refl _), hmP] at hP
      have HP2 := hide hP
      clear hP HP
      go_wp2_with fail
      go_ret2
      refine ⟨?_, hb⟩
      rw [← HP2.out]
      show _ = Ending.returned (.tuple #[.int .i64 ((max n 1 : Nat) : Int), .bool true])
      rw [mx1]
      rfl
theorem make_is (n : Nat) (hn : n ≤ 4096) (w : World) : (Instr.makeSlice 245 (.int .i64 (n : Int)) (.int .i64 (n : Int))).run Tryz.prog w = .ok (.slice (some ⟨w.heap.size, 0, none⟩) n n) (w.alloc (.cells (madeCells #[.slice none 0 0] n) 30)) :=
  run_make_row' 245 30 (.slice none 0 0) 24 Tryz.underlying245 infoIs rfl .i64 .i64 n (by omega) (by omega) w
theorem eCall1 : ∀ args w, (callFunc 211 args).run Tryz.prog w = .ok (.enter 211 args) w := enters_of Tryz.func211 (by kernel_rfl) rfl
/-- Rows of numbers that lie in a row. -/
def Rws (w : World) (g n : Nat) (k : Nat) (f : Nat → List Nat) : Prop := ∃ cur : Array Value, w.heap[g]? = some (.cells cur 30 (0, 0)) ∧ cur.size = n ∧ ∀ j, j < k → ∃ v, cur[j]? = some v ∧ Is w v (f j)
theorem Rws.below {w w' : World} {g n k : Nat} {f : Nat → List Nat} (h : Rws w g n k f) (hb : Below w.heap.size w w') : Rws w' g n k f := by
  obtain ⟨cur, h1, h2, h3⟩ := h
  refine ⟨cur, (hb.block g (Array.getElem?_eq_some_iff.1 h1).1).trans h1, h2, fun j hj => ?_⟩
  obtain ⟨v, e, hi⟩ := h3 j hj
  exact ⟨v, e, hi.below hb⟩
theorem Rws.set {w : World} {g n k : Nat} {f : Nat → List Nat} (h : Rws w g n k f) (hk : k < n) (v : Value) (hv : Is w v (f k)) : Rws (w.setCell ⟨g, k, none⟩ v) g n (k + 1) f := by
  obtain ⟨cur, h1, h2, h3⟩ := h
  have hno : ∀ (b : Nat) (cs : Array Value) (fr : Nat × Nat), w.heap[b]? = some (Obj.cells cs 3 fr) → (w.setCell ⟨g, k, none⟩ v).heap[b]? = w.heap[b]? := fun b cs fr hb => Below.heap_setCell _ _ _ _ (fun e => by
    have e' : b = g := e
    rw [e', h1] at hb
    simp at hb)
  refine ⟨cur.set! k v, ?_, by simp [h2], fun j hj => ?_⟩
  · rw [setCell_eq_setRow _ _ k _ _ _ _ h1, setRow_heap _ _ _ _ _ _ h1]
    simp
  · by_cases e : j = k
    · subst e
      exact ⟨v, by simp [h2, hk], hv.block hno⟩
    · obtain ⟨u, e1, hi⟩ := h3 j (by omega)
      exact ⟨u, by rw [Array.set!_eq_setIfInBounds, Array.getElem?_setIfInBounds, if_neg (by omega)]; exact e1, hi.block hno⟩
theorem Rws.cell {w : World} {g n k : Nat} {f : Nat → List Nat} (h : Rws w g n k f) (j : Nat) (hj : j < n) : (∃ u, w.cell? ⟨g, j, none⟩ = some u) ∧ w.frozen? ⟨g, j, none⟩ = false := by
  obtain ⟨cur, h1, h2, _⟩ := h
  refine ⟨⟨cur[j]'(by omega), ?_⟩, by simp [World.frozen?, h1]⟩
  rw [cell_of_row _ _ _ _ _ _ h1]
  exact Array.getElem?_eq_getElem (by omega)
end Go.Proofs.YtkbodljmkhnebaaGreatDoor.Cir
