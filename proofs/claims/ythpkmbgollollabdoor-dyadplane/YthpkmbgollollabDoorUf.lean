/- DyadPlane, as it is walked. -/
import Derived.Test.YthpkmbgollollabDoorVd
namespace Go.Proofs.YthpkmbgollollabDoor.Dy
open Go.RowKit Go.Lib Go.Shelf Go.Proofs.YthpkmbgollollabDoor.Sca

set_option maxRecDepth 100000 in
set_option maxHeartbeats 8000000 in
theorem vPlane_ok (a b : DD) (ha : Rt a) (hb : Rt b) (w : World) (hT : Tv w) : Calls Tryd.prog 3 #[dV a, dV b] w fun e w' => e = .returned (.bool true) ∧ Below w.heap.size w w' := by
  have cA := fun w hT => yTo a ha w hT
  have cB := fun w hT => yTo b hb w hT
  have sA := fun w => vSmall a w
  have sB := fun w => vSmall b w
  have c5 := fun w hT => vHeads w hT
  obtain ⟨p1, p2, p3, g, cAdd, hAdd⟩ := packAdd a b ha.d64 hb.d64
  obtain ⟨q1, q2, q3, k, cSub, hSub⟩ := packSub a b ha.d64 hb.d64
  obtain ⟨r1, r2, r3, l, cMul, hMul⟩ := packMul a b ha.d64 hb.d64
  generalize joinB a.re (-a.ex) = x1 at *
  generalize joinB a.im (-a.ex) = x2 at *
  generalize joinB b.re (-b.ex) = y1 at *
  generalize joinB b.im (-b.ex) = y2 at *
  clear ha hb
  have Ha := hidP hAdd
  have Hs := hidP hSub
  have Hm := hidP hMul
  clear hAdd hSub hMul
  obtain ⟨a1, a2, a3⟩ := a
  obtain ⟨b1, b2, b3⟩ := b
  unfold dV at *
  unfold AnsT Ans tri cpx at *
  dsimp only at *
  go_enter Tryd.func3, Tryd.ntmps3
  go_wp2_with fail
  obtain ⟨ha, hb, hbw⟩ := two_new w a1 a2 a3 b1 b2 b3
  generalize ((w.alloc (dO a1 a2 a3)).alloc (dO b1 b2 b3)) = W00 at *
  obtain ⟨a0, a1, a2⟩ := ha.cells
  obtain ⟨b0, b1, b2⟩ := hb.cells
  go_wp2_with fail
  clear a0 a1 a2 b0 b1 b2
  refine (cA _ (hT.below hbw).tz).mono ?_
  rintro e w1 ⟨rfl, q1⟩
  have hb1 := hbw.trans (q1.mono hbw.size)
  replace ha := ha.below q1
  replace hb := hb.below q1
  clear q1
  obtain ⟨a0, a1, a2⟩ := ha.cells
  obtain ⟨b0, b1, b2⟩ := hb.cells
  go_wp2_with fail
  clear a0 a1 a2 b0 b1 b2
  refine (cB _ (hT.below hb1).tz).mono ?_
  rintro e w2 ⟨rfl, q2⟩
  have hb2 := hb1.trans (q2.mono hb1.size)
  replace ha := ha.below q2
  replace hb := hb.below q2
  clear q2
  obtain ⟨a0, a1, a2⟩ := ha.cells
  obtain ⟨b0, b1, b2⟩ := hb.cells
  go_wp2_with fail
  clear a0 a1 a2 b0 b1 b2
  refine (cAdd _ (hT.below hb2).tz).mono ?_
  rintro e w3 ⟨rfl, q3⟩
  have hb3 := hb2.trans (q3.mono hb2.size)
  replace ha := ha.below q3
  replace hb := hb.below q3
  clear q3
  have oa_p := ha.lt
  have ob_p := hb.lt
  have hb4 := hb3.trans ((below_new w3 (dO p1 p2 p3)).mono hb3.size)
  replace ha := ha.below (below_new w3 (dO p1 p2 p3))
  replace hb := hb.below (below_new w3 (dO p1 p2 p3))
  have hp := At.new w3 p1 p2 p3
  rcases Ha.out with hm | ⟨rfl, z1, z2, r, s, cTo, cM, cE⟩
  · clear Ha
    obtain ⟨a0, a1, a2⟩ := ha.cells
    obtain ⟨b0, b1, b2⟩ := hb.cells
    go_wp2_with fail
    clear a0 a1 a2 b0 b1 b2
    generalize w3.alloc (dO p1 p2 p3) = w4 at *
    clear hp
    clear cAdd
    refine (cSub _ (hT.below hb4).tz).mono ?_
    rintro e w5 ⟨rfl, q5⟩
    have hb5 := hb4.trans (q5.mono hb4.size)
    replace ha := ha.below q5
    replace hb := hb.below q5
    clear q5
    have oa_q := ha.lt
    have ob_q := hb.lt
    have hb6 := hb5.trans ((below_new w5 (dO q1 q2 q3)).mono hb5.size)
    replace ha := ha.below (below_new w5 (dO q1 q2 q3))
    replace hb := hb.below (below_new w5 (dO q1 q2 q3))
    have hq := At.new w5 q1 q2 q3
    rcases Hs.out with hm | ⟨rfl, z1, z2, r, s, cTo, cM, cE⟩
    · clear Hs
      obtain ⟨a0, a1, a2⟩ := ha.cells
      obtain ⟨b0, b1, b2⟩ := hb.cells
      go_wp2_with fail
      clear a0 a1 a2 b0 b1 b2
      generalize w5.alloc (dO q1 q2 q3) = w6 at *
      clear hq
      refine (cMul _ (hT.below hb6).tz).mono ?_
      rintro e w7 ⟨rfl, q7⟩
      have hb7 := hb6.trans (q7.mono hb6.size)
      replace ha := ha.below q7
      replace hb := hb.below q7
      clear q7
      have oa_r := ha.lt
      have ob_r := hb.lt
      have hb8 := hb7.trans ((below_new w7 (dO r1 r2 r3)).mono hb7.size)
      replace ha := ha.below (below_new w7 (dO r1 r2 r3))
      replace hb := hb.below (below_new w7 (dO r1 r2 r3))
      have hr := At.new w7 r1 r2 r3
      rcases Hm.out with hm | ⟨rfl, hm⟩
      · clear Hm
        obtain ⟨a0, a1, a2⟩ := ha.cells
        obtain ⟨b0, b1, b2⟩ := hb.cells
        go_wp2_with fail
        clear a0 a1 a2 b0 b1 b2
        generalize w7.alloc (dO r1 r2 r3) = w8 at *
        refine (c5 _ (hT.below hb8)).mono ?_
        rintro e w9 ⟨rfl, q9⟩
        have hb9 := hb8.trans (q9.mono hb8.size)
        replace ha := ha.below q9
        replace hb := hb.below q9
        replace hr := hr.below q9
        clear q9
        go_wp2_with fail
        go_ret
        exact ⟨rfl, hb9⟩
      · clear Hm
        have Hm := hidP hm
        clear hm
        obtain ⟨a0, a1, a2⟩ := ha.cells
        obtain ⟨b0, b1, b2⟩ := hb.cells
        obtain ⟨r0, r1, r2⟩ := hr.cells
        go_wp2_with fail
        clear a0 a1 a2 b0 b1 b2 r0 r1 r2
        generalize w7.alloc (dO r1 r2 r3) = w8 at *
        refine (sA _).mono ?_
        rintro e w9 ⟨⟨qa, rfl, hqa⟩, q9⟩
        have hb9 := hb8.trans (q9.mono hb8.size)
        replace ha := ha.below q9
        replace hb := hb.below q9
        replace hr := hr.below q9
        clear q9 sA
        have Hqa := hidP hqa
        clear hqa
        cases qa
        · clear Hqa
          obtain ⟨a0, a1, a2⟩ := ha.cells
          obtain ⟨b0, b1, b2⟩ := hb.cells
          go_wp2_with fail
          clear a0 a1 a2 b0 b1 b2
          refine (c5 _ (hT.below hb9)).mono ?_
          rintro e w10 ⟨rfl, q10⟩
          have hb10 := hb9.trans (q10.mono hb9.size)
          replace ha := ha.below q10
          replace hb := hb.below q10
          replace hr := hr.below q10
          clear q10
          go_wp2_with fail
          go_ret
          exact ⟨rfl, hb10⟩
        · obtain ⟨a0, a1, a2⟩ := ha.cells
          obtain ⟨b0, b1, b2⟩ := hb.cells
          go_wp2_with fail
          clear a0 a1 a2 b0 b1 b2
          refine (sB _).mono ?_
          rintro e w10 ⟨⟨qb, rfl, hqb⟩, q10⟩
          have hb10 := hb9.trans (q10.mono hb9.size)
          replace ha := ha.below q10
          replace hb := hb.below q10
          replace hr := hr.below q10
          clear q10 sB
          have Hqb := hidP hqb
          clear hqb
          cases qb
          · clear Hqa Hqb
            go_wp2_with fail
            refine (c5 _ (hT.below hb10)).mono ?_
            rintro e w11 ⟨rfl, q11⟩
            have hb11 := hb10.trans (q11.mono hb10.size)
            replace ha := ha.below q11
            replace hb := hb.below q11
            replace hr := hr.below q11
            clear q11
            go_wp2_with fail
            go_ret
            exact ⟨rfl, hb11⟩
          · rcases Hm.out with hm | ⟨z1, z2, r, s, cTo, cM, cZ1, cZ2, cE⟩
            · exact absurd ⟨Hqa.out (by simp), Hqb.out (by simp)⟩ hm
            clear Hm Hqa Hqb
            obtain ⟨r0, r1, r2⟩ := hr.cells
            go_wp2_with fail
            clear r0 r1 r2
            refine (cTo _ (hT.below hb10).tz).mono ?_
            rintro e w11 ⟨rfl, q11⟩
            have hb11 := hb10.trans (q11.mono hb10.size)
            replace ha := ha.below q11
            replace hb := hb.below q11
            replace hr := hr.below q11
            clear q11
            go_wp2_with fail
            refine (cZ1 _).mono ?_
            rintro e w12 ⟨rfl, q12⟩
            have hb12 := hb11.trans (q12.mono hb11.size)
            replace ha := ha.below q12
            replace hb := hb.below q12
            replace hr := hr.below q12
            clear q12
            go_wp2_with fail
            refine (cM _).mono ?_
            rintro e w13 ⟨rfl, q13⟩
            have hb13 := hb12.trans (q13.mono hb12.size)
            replace ha := ha.below q13
            replace hb := hb.below q13
            replace hr := hr.below q13
            clear q13
            go_wp2_with fail
            refine (cZ2 _).mono ?_
            rintro e w14 ⟨rfl, q14⟩
            have hb14 := hb13.trans (q14.mono hb13.size)
            replace ha := ha.below q14
            replace hb := hb.below q14
            replace hr := hr.below q14
            clear q14
            go_wp2_with fail
            refine (cE _).mono ?_
            rintro e w15 ⟨rfl, q15⟩
            have hb15 := hb14.trans (q15.mono hb14.size)
            replace ha := ha.below q15
            replace hb := hb.below q15
            replace hr := hr.below q15
            clear q15
            go_wp2_with fail
            refine (c5 _ (hT.below hb15)).mono ?_
            rintro e w16 ⟨rfl, q16⟩
            have hb16 := hb15.trans (q16.mono hb15.size)
            replace ha := ha.below q16
            replace hb := hb.below q16
            replace hr := hr.below q16
            clear q16
            go_wp2_with fail
            go_ret
            exact ⟨rfl, hb16⟩
    · clear Hs
      obtain ⟨q0, q1, q2⟩ := hq.cells
      go_wp2_with fail
      clear q0 q1 q2
      generalize w5.alloc (dO q1 q2 q3) = w6 at *
      refine (cTo _ (hT.below hb6).tz).mono ?_
      rintro e w7 ⟨rfl, q7⟩
      have hb7 := hb6.trans (q7.mono hb6.size)
      replace ha := ha.below q7
      replace hb := hb.below q7
      replace hq := hq.below q7
      clear q7
      go_wp2_with fail
      refine (cM _).mono ?_
      rintro e w8 ⟨rfl, q8⟩
      have hb8 := hb7.trans (q8.mono hb7.size)
      replace ha := ha.below q8
      replace hb := hb.below q8
      replace hq := hq.below q8
      clear q8
      go_wp2_with fail
      refine (cE _).mono ?_
      rintro e w9 ⟨rfl, q9⟩
      have hb9 := hb8.trans (q9.mono hb8.size)
      replace ha := ha.below q9
      replace hb := hb.below q9
      replace hq := hq.below q9
      clear q9
      obtain ⟨a0, a1, a2⟩ := ha.cells
      obtain ⟨b0, b1, b2⟩ := hb.cells
      go_wp2_with fail
      clear a0 a1 a2 b0 b1 b2
      clear cTo cM cE
      clear hq
      refine (cMul _ (hT.below hb9).tz).mono ?_
      rintro e w10 ⟨rfl, q10⟩
      have hb10 := hb9.trans (q10.mono hb9.size)
      replace ha := ha.below q10
      replace hb := hb.below q10
      clear q10
      have oa_r := ha.lt
      have ob_r := hb.lt
      have hb11 := hb10.trans ((below_new w10 (dO r1 r2 r3)).mono hb10.size)
      replace ha := ha.below (below_new w10 (dO r1 r2 r3))
      replace hb := hb.below (below_new w10 (dO r1 r2 r3))
      have hr := At.new w10 r1 r2 r3
      rcases Hm.out with hm | ⟨rfl, hm⟩
      · clear Hm
        obtain ⟨a0, a1, a2⟩ := ha.cells
        obtain ⟨b0, b1, b2⟩ := hb.cells
        go_wp2_with fail
        clear a0 a1 a2 b0 b1 b2
        generalize w10.alloc (dO r1 r2 r3) = w11 at *
        refine (c5 _ (hT.below hb11)).mono ?_
        rintro e w12 ⟨rfl, q12⟩
        have hb12 := hb11.trans (q12.mono hb11.size)
        replace ha := ha.below q12
        replace hb := hb.below q12
        replace hr := hr.below q12
        clear q12
        go_wp2_with fail
        go_ret
        exact ⟨rfl, hb12⟩
      · clear Hm
        have Hm := hidP hm
        clear hm
        obtain ⟨a0, a1, a2⟩ := ha.cells
        obtain ⟨b0, b1, b2⟩ := hb.cells
        obtain ⟨r0, r1, r2⟩ := hr.cells
        go_wp2_with fail
        clear a0 a1 a2 b0 b1 b2 r0 r1 r2
        generalize w10.alloc (dO r1 r2 r3) = w11 at *
        refine (sA _).mono ?_
        rintro e w12 ⟨⟨qa, rfl, hqa⟩, q12⟩
        have hb12 := hb11.trans (q12.mono hb11.size)
        replace ha := ha.below q12
        replace hb := hb.below q12
        replace hr := hr.below q12
        clear q12 sA
        have Hqa := hidP hqa
        clear hqa
        cases qa
        · clear Hqa
          obtain ⟨a0, a1, a2⟩ := ha.cells
          obtain ⟨b0, b1, b2⟩ := hb.cells
          go_wp2_with fail
          clear a0 a1 a2 b0 b1 b2
          refine (c5 _ (hT.below hb12)).mono ?_
          rintro e w13 ⟨rfl, q13⟩
          have hb13 := hb12.trans (q13.mono hb12.size)
          replace ha := ha.below q13
          replace hb := hb.below q13
          replace hr := hr.below q13
          clear q13
          go_wp2_with fail
          go_ret
          exact ⟨rfl, hb13⟩
        · obtain ⟨a0, a1, a2⟩ := ha.cells
          obtain ⟨b0, b1, b2⟩ := hb.cells
          go_wp2_with fail
          clear a0 a1 a2 b0 b1 b2
          refine (sB _).mono ?_
          rintro e w13 ⟨⟨qb, rfl, hqb⟩, q13⟩
          have hb13 := hb12.trans (q13.mono hb12.size)
          replace ha := ha.below q13
          replace hb := hb.below q13
          replace hr := hr.below q13
          clear q13 sB
          have Hqb := hidP hqb
          clear hqb
          cases qb
          · clear Hqa Hqb
            go_wp2_with fail
            refine (c5 _ (hT.below hb13)).mono ?_
            rintro e w14 ⟨rfl, q14⟩
            have hb14 := hb13.trans (q14.mono hb13.size)
            replace ha := ha.below q14
            replace hb := hb.below q14
            replace hr := hr.below q14
            clear q14
            go_wp2_with fail
            go_ret
            exact ⟨rfl, hb14⟩
          · rcases Hm.out with hm | ⟨z1, z2, r, s, cTo, cM, cZ1, cZ2, cE⟩
            · exact absurd ⟨Hqa.out (by simp), Hqb.out (by simp)⟩ hm
            clear Hm Hqa Hqb
            obtain ⟨r0, r1, r2⟩ := hr.cells
            go_wp2_with fail
            clear r0 r1 r2
            refine (cTo _ (hT.below hb13).tz).mono ?_
            rintro e w14 ⟨rfl, q14⟩
            have hb14 := hb13.trans (q14.mono hb13.size)
            replace ha := ha.below q14
            replace hb := hb.below q14
            replace hr := hr.below q14
            clear q14
            go_wp2_with fail
            refine (cZ1 _).mono ?_
            rintro e w15 ⟨rfl, q15⟩
            have hb15 := hb14.trans (q15.mono hb14.size)
            replace ha := ha.below q15
            replace hb := hb.below q15
            replace hr := hr.below q15
            clear q15
            go_wp2_with fail
            refine (cM _).mono ?_
            rintro e w16 ⟨rfl, q16⟩
            have hb16 := hb15.trans (q16.mono hb15.size)
            replace ha := ha.below q16
            replace hb := hb.below q16
            replace hr := hr.below q16
            clear q16
            go_wp2_with fail
            refine (cZ2 _).mono ?_
            rintro e w17 ⟨rfl, q17⟩
            have hb17 := hb16.trans (q17.mono hb16.size)
            replace ha := ha.below q17
            replace hb := hb.below q17
            replace hr := hr.below q17
            clear q17
            go_wp2_with fail
            refine (cE _).mono ?_
            rintro e w18 ⟨rfl, q18⟩
            have hb18 := hb17.trans (q18.mono hb17.size)
            replace ha := ha.below q18
            replace hb := hb.below q18
            replace hr := hr.below q18
            clear q18
            go_wp2_with fail
            refine (c5 _ (hT.below hb18)).mono ?_
            rintro e w19 ⟨rfl, q19⟩
            have hb19 := hb18.trans (q19.mono hb18.size)
            replace ha := ha.below q19
            replace hb := hb.below q19
            replace hr := hr.below q19
            clear q19
            go_wp2_with fail
            go_ret
            exact ⟨rfl, hb19⟩
  · clear Ha
    obtain ⟨p0, p1, p2⟩ := hp.cells
    go_wp2_with fail
    clear p0 p1 p2
    generalize w3.alloc (dO p1 p2 p3) = w4 at *
    refine (cTo _ (hT.below hb4).tz).mono ?_
    rintro e w5 ⟨rfl, q5⟩
    have hb5 := hb4.trans (q5.mono hb4.size)
    replace ha := ha.below q5
    replace hb := hb.below q5
    replace hp := hp.below q5
    clear q5
    go_wp2_with fail
    refine (cM _).mono ?_
    rintro e w6 ⟨rfl, q6⟩
    have hb6 := hb5.trans (q6.mono hb5.size)
    replace ha := ha.below q6
    replace hb := hb.below q6
    replace hp := hp.below q6
    clear q6
    go_wp2_with fail
    refine (cE _).mono ?_
    rintro e w7 ⟨rfl, q7⟩
    have hb7 := hb6.trans (q7.mono hb6.size)
    replace ha := ha.below q7
    replace hb := hb.below q7
    replace hp := hp.below q7
    clear q7
    obtain ⟨a0, a1, a2⟩ := ha.cells
    obtain ⟨b0, b1, b2⟩ := hb.cells
    go_wp2_with fail
    clear a0 a1 a2 b0 b1 b2
    clear cTo cM cE
    clear hp
    clear cAdd
    refine (cSub _ (hT.below hb7).tz).mono ?_
    rintro e w8 ⟨rfl, q8⟩
    have hb8 := hb7.trans (q8.mono hb7.size)
    replace ha := ha.below q8
    replace hb := hb.below q8
    clear q8
    have oa_q := ha.lt
    have ob_q := hb.lt
    have hb9 := hb8.trans ((below_new w8 (dO q1 q2 q3)).mono hb8.size)
    replace ha := ha.below (below_new w8 (dO q1 q2 q3))
    replace hb := hb.below (below_new w8 (dO q1 q2 q3))
    have hq := At.new w8 q1 q2 q3
    rcases Hs.out with hm | ⟨rfl, z1, z2, r, s, cTo, cM, cE⟩
    · clear Hs
      obtain ⟨a0, a1, a2⟩ := ha.cells
      obtain ⟨b0, b1, b2⟩ := hb.cells
      go_wp2_with fail
      clear a0 a1 a2 b0 b1 b2
      generalize w8.alloc (dO q1 q2 q3) = w9 at *
      clear hq
      refine (cMul _ (hT.below hb9).tz).mono ?_
      rintro e w10 ⟨rfl, q10⟩
      have hb10 := hb9.trans (q10.mono hb9.size)
      replace ha := ha.below q10
      replace hb := hb.below q10
      clear q10
      have oa_r := ha.lt
      have ob_r := hb.lt
      have hb11 := hb10.trans ((below_new w10 (dO r1 r2 r3)).mono hb10.size)
      replace ha := ha.below (below_new w10 (dO r1 r2 r3))
      replace hb := hb.below (below_new w10 (dO r1 r2 r3))
      have hr := At.new w10 r1 r2 r3
      rcases Hm.out with hm | ⟨rfl, hm⟩
      · clear Hm
        obtain ⟨a0, a1, a2⟩ := ha.cells
        obtain ⟨b0, b1, b2⟩ := hb.cells
        go_wp2_with fail
        clear a0 a1 a2 b0 b1 b2
        generalize w10.alloc (dO r1 r2 r3) = w11 at *
        refine (c5 _ (hT.below hb11)).mono ?_
        rintro e w12 ⟨rfl, q12⟩
        have hb12 := hb11.trans (q12.mono hb11.size)
        replace ha := ha.below q12
        replace hb := hb.below q12
        replace hr := hr.below q12
        clear q12
        go_wp2_with fail
        go_ret
        exact ⟨rfl, hb12⟩
      · clear Hm
        have Hm := hidP hm
        clear hm
        obtain ⟨a0, a1, a2⟩ := ha.cells
        obtain ⟨b0, b1, b2⟩ := hb.cells
        obtain ⟨r0, r1, r2⟩ := hr.cells
        go_wp2_with fail
        clear a0 a1 a2 b0 b1 b2 r0 r1 r2
        generalize w10.alloc (dO r1 r2 r3) = w11 at *
        refine (sA _).mono ?_
        rintro e w12 ⟨⟨qa, rfl, hqa⟩, q12⟩
        have hb12 := hb11.trans (q12.mono hb11.size)
        replace ha := ha.below q12
        replace hb := hb.below q12
        replace hr := hr.below q12
        clear q12 sA
        have Hqa := hidP hqa
        clear hqa
        cases qa
        · clear Hqa
          obtain ⟨a0, a1, a2⟩ := ha.cells
          obtain ⟨b0, b1, b2⟩ := hb.cells
          go_wp2_with fail
          clear a0 a1 a2 b0 b1 b2
          refine (c5 _ (hT.below hb12)).mono ?_
          rintro e w13 ⟨rfl, q13⟩
          have hb13 := hb12.trans (q13.mono hb12.size)
          replace ha := ha.below q13
          replace hb := hb.below q13
          replace hr := hr.below q13
          clear q13
          go_wp2_with fail
          go_ret
          exact ⟨rfl, hb13⟩
        · obtain ⟨a0, a1, a2⟩ := ha.cells
          obtain ⟨b0, b1, b2⟩ := hb.cells
          go_wp2_with fail
          clear a0 a1 a2 b0 b1 b2
          refine (sB _).mono ?_
          rintro e w13 ⟨⟨qb, rfl, hqb⟩, q13⟩
          have hb13 := hb12.trans (q13.mono hb12.size)
          replace ha := ha.below q13
          replace hb := hb.below q13
          replace hr := hr.below q13
          clear q13 sB
          have Hqb := hidP hqb
          clear hqb
          cases qb
          · clear Hqa Hqb
            go_wp2_with fail
            refine (c5 _ (hT.below hb13)).mono ?_
            rintro e w14 ⟨rfl, q14⟩
            have hb14 := hb13.trans (q14.mono hb13.size)
            replace ha := ha.below q14
            replace hb := hb.below q14
            replace hr := hr.below q14
            clear q14
            go_wp2_with fail
            go_ret
            exact ⟨rfl, hb14⟩
          · rcases Hm.out with hm | ⟨z1, z2, r, s, cTo, cM, cZ1, cZ2, cE⟩
            · exact absurd ⟨Hqa.out (by simp), Hqb.out (by simp)⟩ hm
            clear Hm Hqa Hqb
            obtain ⟨r0, r1, r2⟩ := hr.cells
            go_wp2_with fail
            clear r0 r1 r2
            refine (cTo _ (hT.below hb13).tz).mono ?_
            rintro e w14 ⟨rfl, q14⟩
            have hb14 := hb13.trans (q14.mono hb13.size)
            replace ha := ha.below q14
            replace hb := hb.below q14
            replace hr := hr.below q14
            clear q14
            go_wp2_with fail
            refine (cZ1 _).mono ?_
            rintro e w15 ⟨rfl, q15⟩
            have hb15 := hb14.trans (q15.mono hb14.size)
            replace ha := ha.below q15
            replace hb := hb.below q15
            replace hr := hr.below q15
            clear q15
            go_wp2_with fail
            refine (cM _).mono ?_
            rintro e w16 ⟨rfl, q16⟩
            have hb16 := hb15.trans (q16.mono hb15.size)
            replace ha := ha.below q16
            replace hb := hb.below q16
            replace hr := hr.below q16
            clear q16
            go_wp2_with fail
            refine (cZ2 _).mono ?_
            rintro e w17 ⟨rfl, q17⟩
            have hb17 := hb16.trans (q17.mono hb16.size)
            replace ha := ha.below q17
            replace hb := hb.below q17
            replace hr := hr.below q17
            clear q17
            go_wp2_with fail
            refine (cE _).mono ?_
            rintro e w18 ⟨rfl, q18⟩
            have hb18 := hb17.trans (q18.mono hb17.size)
            replace ha := ha.below q18
            replace hb := hb.below q18
            replace hr := hr.below q18
            clear q18
            go_wp2_with fail
            refine (c5 _ (hT.below hb18)).mono ?_
            rintro e w19 ⟨rfl, q19⟩
            have hb19 := hb18.trans (q19.mono hb18.size)
            replace ha := ha.below q19
            replace hb := hb.below q19
            replace hr := hr.below q19
            clear q19
            go_wp2_with fail
            go_ret
            exact ⟨rfl, hb19⟩
    · clear Hs
      obtain ⟨q0, q1, q2⟩ := hq.cells
      go_wp2_with fail
      clear q0 q1 q2
      generalize w8.alloc (dO q1 q2 q3) = w9 at *
      refine (cTo _ (hT.below hb9).tz).mono ?_
      rintro e w10 ⟨rfl, q10⟩
      have hb10 := hb9.trans (q10.mono hb9.size)
      replace ha := ha.below q10
      replace hb := hb.below q10
      replace hq := hq.below q10
      clear q10
      go_wp2_with fail
      refine (cM _).mono ?_
      rintro e w11 ⟨rfl, q11⟩
      have hb11 := hb10.trans (q11.mono hb10.size)
      replace ha := ha.below q11
      replace hb := hb.below q11
      replace hq := hq.below q11
      clear q11
      go_wp2_with fail
      refine (cE _).mono ?_
      rintro e w12 ⟨rfl, q12⟩
      have hb12 := hb11.trans (q12.mono hb11.size)
      replace ha := ha.below q12
      replace hb := hb.below q12
      replace hq := hq.below q12
      clear q12
      obtain ⟨a0, a1, a2⟩ := ha.cells
      obtain ⟨b0, b1, b2⟩ := hb.cells
      go_wp2_with fail
      clear a0 a1 a2 b0 b1 b2
      clear cTo cM cE
      clear hq
      refine (cMul _ (hT.below hb12).tz).mono ?_
      rintro e w13 ⟨rfl, q13⟩
      have hb13 := hb12.trans (q13.mono hb12.size)
      replace ha := ha.below q13
      replace hb := hb.below q13
      clear q13
      have oa_r := ha.lt
      have ob_r := hb.lt
      have hb14 := hb13.trans ((below_new w13 (dO r1 r2 r3)).mono hb13.size)
      replace ha := ha.below (below_new w13 (dO r1 r2 r3))
      replace hb := hb.below (below_new w13 (dO r1 r2 r3))
      have hr := At.new w13 r1 r2 r3
      rcases Hm.out with hm | ⟨rfl, hm⟩
      · clear Hm
        obtain ⟨a0, a1, a2⟩ := ha.cells
        obtain ⟨b0, b1, b2⟩ := hb.cells
        go_wp2_with fail
        clear a0 a1 a2 b0 b1 b2
        generalize w13.alloc (dO r1 r2 r3) = w14 at *
        refine (c5 _ (hT.below hb14)).mono ?_
        rintro e w15 ⟨rfl, q15⟩
        have hb15 := hb14.trans (q15.mono hb14.size)
        replace ha := ha.below q15
        replace hb := hb.below q15
        replace hr := hr.below q15
        clear q15
        go_wp2_with fail
        go_ret
        exact ⟨rfl, hb15⟩
      · clear Hm
        have Hm := hidP hm
        clear hm
        obtain ⟨a0, a1, a2⟩ := ha.cells
        obtain ⟨b0, b1, b2⟩ := hb.cells
        obtain ⟨r0, r1, r2⟩ := hr.cells
        go_wp2_with fail
        clear a0 a1 a2 b0 b1 b2 r0 r1 r2
        generalize w13.alloc (dO r1 r2 r3) = w14 at *
        refine (sA _).mono ?_
        rintro e w15 ⟨⟨qa, rfl, hqa⟩, q15⟩
        have hb15 := hb14.trans (q15.mono hb14.size)
        replace ha := ha.below q15
        replace hb := hb.below q15
        replace hr := hr.below q15
        clear q15 sA
        have Hqa := hidP hqa
        clear hqa
        cases qa
        · clear Hqa
          obtain ⟨a0, a1, a2⟩ := ha.cells
          obtain ⟨b0, b1, b2⟩ := hb.cells
          go_wp2_with fail
          clear a0 a1 a2 b0 b1 b2
          refine (c5 _ (hT.below hb15)).mono ?_
          rintro e w16 ⟨rfl, q16⟩
          have hb16 := hb15.trans (q16.mono hb15.size)
          replace ha := ha.below q16
          replace hb := hb.below q16
          replace hr := hr.below q16
          clear q16
          go_wp2_with fail
          go_ret
          exact ⟨rfl, hb16⟩
        · obtain ⟨a0, a1, a2⟩ := ha.cells
          obtain ⟨b0, b1, b2⟩ := hb.cells
          go_wp2_with fail
          clear a0 a1 a2 b0 b1 b2
          refine (sB _).mono ?_
          rintro e w16 ⟨⟨qb, rfl, hqb⟩, q16⟩
          have hb16 := hb15.trans (q16.mono hb15.size)
          replace ha := ha.below q16
          replace hb := hb.below q16
          replace hr := hr.below q16
          clear q16 sB
          have Hqb := hidP hqb
          clear hqb
          cases qb
          · clear Hqa Hqb
            go_wp2_with fail
            refine (c5 _ (hT.below hb16)).mono ?_
            rintro e w17 ⟨rfl, q17⟩
            have hb17 := hb16.trans (q17.mono hb16.size)
            replace ha := ha.below q17
            replace hb := hb.below q17
            replace hr := hr.below q17
            clear q17
            go_wp2_with fail
            go_ret
            exact ⟨rfl, hb17⟩
          · rcases Hm.out with hm | ⟨z1, z2, r, s, cTo, cM, cZ1, cZ2, cE⟩
            · exact absurd ⟨Hqa.out (by simp), Hqb.out (by simp)⟩ hm
            clear Hm Hqa Hqb
            obtain ⟨r0, r1, r2⟩ := hr.cells
            go_wp2_with fail
            clear r0 r1 r2
            refine (cTo _ (hT.below hb16).tz).mono ?_
            rintro e w17 ⟨rfl, q17⟩
            have hb17 := hb16.trans (q17.mono hb16.size)
            replace ha := ha.below q17
            replace hb := hb.below q17
            replace hr := hr.below q17
            clear q17
            go_wp2_with fail
            refine (cZ1 _).mono ?_
            rintro e w18 ⟨rfl, q18⟩
            have hb18 := hb17.trans (q18.mono hb17.size)
            replace ha := ha.below q18
            replace hb := hb.below q18
            replace hr := hr.below q18
            clear q18
            go_wp2_with fail
            refine (cM _).mono ?_
            rintro e w19 ⟨rfl, q19⟩
            have hb19 := hb18.trans (q19.mono hb18.size)
            replace ha := ha.below q19
            replace hb := hb.below q19
            replace hr := hr.below q19
            clear q19
            go_wp2_with fail
            refine (cZ2 _).mono ?_
            rintro e w20 ⟨rfl, q20⟩
            have hb20 := hb19.trans (q20.mono hb19.size)
            replace ha := ha.below q20
            replace hb := hb.below q20
            replace hr := hr.below q20
            clear q20
            go_wp2_with fail
            refine (cE _).mono ?_
            rintro e w21 ⟨rfl, q21⟩
            have hb21 := hb20.trans (q21.mono hb20.size)
            replace ha := ha.below q21
            replace hb := hb.below q21
            replace hr := hr.below q21
            clear q21
            go_wp2_with fail
            refine (c5 _ (hT.below hb21)).mono ?_
            rintro e w22 ⟨rfl, q22⟩
            have hb22 := hb21.trans (q22.mono hb21.size)
            replace ha := ha.below q22
            replace hb := hb.below q22
            replace hr := hr.below q22
            clear q22
            go_wp2_with fail
            go_ret
            exact ⟨rfl, hb22⟩
end Go.Proofs.YthpkmbgollollabDoor.Dy
