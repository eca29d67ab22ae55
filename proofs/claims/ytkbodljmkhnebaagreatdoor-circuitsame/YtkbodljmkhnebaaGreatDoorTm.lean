/- One thing, and one more behind each comma. -/
import Derived.Test.YtkbodljmkhnebaaGreatDoorTl
namespace Go.Proofs.YtkbodljmkhnebaaGreatDoor.Cir
open Go.RowKit Go.Shelf Go.Proofs.YtkbodljmkhnebaaGreatDoor.Oct Go.Proofs.YtkbodljmkhnebaaGreatDoor.Tok Go.Proofs.YtkbodljmkhnebaaGreatDoor.Gt

/-- How many tokens a reader has left. -/
def lenAt (w : World) (R : Nat) : Nat := match w.cell? ⟨R, 7, none⟩ with
  | some (.slice _ n _) => n
  | _ => 0
theorem lenAt_eq {w : World} {R : Nat} {x : X} {o : Value} {ts : List T} (h : Rt w R x o ts) : lenAt w R = ts.length := by
  obtain ⟨⟨v, hb, off, c, cs, fr, rfl, _⟩, _⟩ := h
  unfold lenAt rbO at *
  rw [cell_of_row w R 7 _ _ _ hb]
  rfl
theorem tl_lt {ts : List T} (h : isT 5 [44] (hd ts) = true) : (tl ts).length < ts.length := by
  cases ts with
  | nil => simp [isT, hd, t0] at h
  | cons t r =>
    rw [tl_cons, if_neg]
    · simp
    · intro e
      simp [isT, hd, e] at h
/-- What row comes to. -/
def PR1 {α : Type} (J : List α → List T → World → Prop) (Jx : World → Prop) (P : Res (List α)) (e : Ending) (w' : World) : Prop := match P with
  | .ok l ts' => e = .returned .nilIface ∧ J l ts' w'
  | .no c t => e = .returned (erV c t) ∧ Jx w'
/-- What one step of a row comes to. -/
def P11 {α : Type} (J : List α → List T → World → Prop) (Jx : World → Prop) (acc : List α) (P : Res α) (e : Ending) (w' : World) : Prop := match P with
  | .ok a ts' => e = .returned .nilIface ∧ J (acc ++ [a]) ts' w'
  | .no c t => e = .returned (erV c t) ∧ Jx w'
set_option maxRecDepth 100000 in
set_option maxHeartbeats 600000 in
theorem cRow {α : Type} (R : Nat) (x : X) (o : Value) (f : Nat) (caps : Array Value) (he : ∀ args w, (callFunc f args).run Tryz.prog w = .ok (.enter f args) w) (one : List α → List T → Res α) (J : List α → List T → World → Prop) (Jx : World → Prop)
    (h1 : ∀ acc ts w, J acc ts w → Calls Tryz.prog f caps w (P11 J Jx acc (one acc ts)))
    (hJ : ∀ acc ts w, J acc ts w → Rt w R x o ts) (hJt : ∀ acc ts ts' w w', J acc ts w → ts'.length ≤ ts.length → Kb [R] w w' → Rt w' R x o ts' → J acc ts' w')
    (hl : ∀ acc ts a ts', one acc ts = .ok a ts' → ts'.length ≤ ts.length) (ts : List T) (w : World) (h0 : J [] ts w) :
    Calls Tryz.prog 199 #[.pointer (some ⟨R, 0, none⟩), .func (.func f) #[] caps] w (PR1 J Jx (pRow one (ts.length + 1) [] ts)) := by
  have HS : Hid (pRow one (ts.length + 1) [] ts = pRow one (ts.length + 1) [] ts) := hide rfl
  have eG := erG
  have eN := erN
  generalize hP : pRow one (ts.length + 1) [] ts = P
  have HP := hide hP
  clear hP
  go_enter Tryz.func199, Tryz.ntmps199
  go_wp2_with fail
  go_loopw [4] (fun _ wr => ∃ (n : Nat) (acc : List α) (ts' : List T), ts'.length < n ∧ Hid (pRow one n acc ts' = P) ∧ J acc ts' wr) (fun _ wr => lenAt wr R)
  case atStart => exact ⟨_, [], ts, by omega, HP, h0⟩
  case round =>
    clear HS HP h0
    obtain ⟨n, acc, ts', hn, HP, hj⟩ := hrel
    obtain ⟨n, rfl⟩ : ∃ n', n = n' + 1 := ⟨n - 1, by omega⟩
    have hR := hJ _ _ _ hj
    have hle := lenAt_eq hR
    have c1 := h1 acc ts' wr hj
    have hP := HP.out
    rw [pRow] at hP
    cases h2 : one acc ts' with
    | no c t =>
      rw [h2] at c1 hP
      have HP2 := hide hP
      clear hP HP
      go_wp2_with fail
      refine c1.mono ?_
      rintro e w1 ⟨rfl, hx⟩
      go_wp2_with fail
      go_ret
      rw [← HP2.out]
      exact ⟨rfl, hx⟩
    | ok a ts1 =>
      rw [h2] at c1 hP
      simp only at hP
      have hl1 := hl _ _ _ _ h2
      have c2 := fun W (h : Rt W R x o ts1) => cStands R x o ts1 [44] W h
      have c3 := fun W (h : Rt W R x o ts1) => cTake R x o ts1 W h
      cases h3 : isT 5 [44] (hd ts1) with
      | false =>
        rw [h3] at c2 hP
        simp only [Bool.false_eq_true, if_false] at hP
        have HP2 := hide hP
        clear hP HP
        go_wp2_with fail
        refine c1.mono ?_
        rintro e w1 ⟨rfl, hj1⟩
        have hr1 := hJ _ _ _ hj1
        go_wp2_with (first | (go_at_call 172; refine (c2 _ hr1).mono ?_; rintro e w2 ⟨rfl, hb2⟩))
        go_ret
        rw [← HP2.out]
        exact ⟨rfl, hJt _ _ _ _ _ hj1 (Nat.le_refl _) (Kb.of_below hb2) (hr1.below hb2)⟩
      | true =>
        rw [h3] at c2 hP
        simp only [if_true] at hP
        have HP2 := hide hP
        have hlt := tl_lt h3
        clear hP HP
        go_wp2_with fail
        refine c1.mono ?_
        rintro e w1 ⟨rfl, hj1⟩
        have hr1 := hJ _ _ _ hj1
        go_wp2_with (first
          | (go_at_call 172; refine (c2 _ hr1).mono ?_; rintro e w2 ⟨rfl, hb2⟩)
          | (go_at_call 130; refine (c3 _ (hr1.below hb2)).mono ?_; rintro e w3 ⟨rfl, hr3, hk3⟩))
        go_roundw
        case rel => exact ⟨n, acc ++ [a], tl ts1, by omega, HP2, hJt _ _ _ _ _ hj1 (tl_length _) ((Kb.of_below hb2).trans hk3) hr3⟩
        case measure => rw [lenAt_eq hr3, hle]; omega
end Go.Proofs.YtkbodljmkhnebaaGreatDoor.Cir
