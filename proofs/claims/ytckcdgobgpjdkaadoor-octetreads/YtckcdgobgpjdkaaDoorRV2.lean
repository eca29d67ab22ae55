/- The document's Valid, as it is walked. -/
import Derived.Test.YtckcdgobgpjdkaaDoorRV1
namespace Go.Proofs.YtckcdgobgpjdkaaDoor.Oct
open Go.RowKit
open Go.Lib (validD firstT accLo accHi)

theorem contB_lt {l : List UInt8} {i lo hi : Nat} (h : contB l i lo hi = true) : i < l.length := (of_decide_eq_true h).1

set_option maxHeartbeats 4000000 in
set_option maxRecDepth 100000 in
theorem refValid_any (s : ByteArray) (w : World) (hs : s.size ≤ 9223372036854775800) :
    Calls Tryd.prog 44 #[.string s] w fun e w' => e = .returned (.bool (validD s.data.toList)) ∧ w' = w := by
  have hsl : s.data.toList.length = s.size := by rw [Array.length_toList]; rfl
  obtain ⟨ANS, hANS⟩ : ∃ a, validD s.data.toList = a := ⟨_, rfl⟩
  rw [hANS]
  have HA := hide hANS
  clear hANS
  go_enter Tryd.func44, Tryd.ntmps44
  go_wp2
  go_loopw [3, 4, 5, 6, 7, 8] (fun i _ _ _ _ _ wr => wr = w ∧ ∃ q : Nat, q ≤ s.size ∧ i = .int .i64 q ∧ validD (s.data.toList.drop q) = ANS) (fun i _ _ _ _ _ _ => s.size - (intOf i).toNat)
  case atStart => exact ⟨rfl, 0, Nat.zero_le _, rfl, HA.out⟩
  case round =>
    obtain ⟨rfl, q, hq, rfl, hv⟩ := hrel
    clear HA
    by_cases hlt : q < s.size
    · have hlt' : (q : Int) < s.size := by omega
      have hql : q < s.data.toList.length := by rw [hsl]; exact hlt
      have hg : s.data.toList.getD q 0 = s[q] := by
        rw [List.getD_eq_getElem?_getD, List.getElem?_eq_getElem hql]
        rfl
      obtain ⟨c, hcd⟩ : ∃ c, (s.data.toList.getD q 0).toNat = c := ⟨_, rfl⟩
      have hcz : ((s[q].toNat : Nat) : Int) = (c : Int) := by rw [← hcd, hg]
      have hc256 : c < 256 := by rw [← hcd]; exact UInt8.toNat_lt _
      have ck : ∀ (k lo hi : Nat) (W : World), Calls Tryd.prog 65 #[.string s, .int .i64 ((q : Int) + k), .int .u8 (lo : Int), .int .u8 (hi : Int)] W fun e w' => e = .returned (.bool (contB s.data.toList (q + k) lo hi)) ∧ w' = W := fun k lo hi W => by
        have := cont_any s (q + k) lo hi W
        rw [show (((q + k : Nat) : Int)) = (q : Int) + k by omega] at this
        exact this
      clear hg
      by_cases a0 : c < 128
      · have hv2 := v_ascii s.data.toList q hql (by rw [hcd]; exact a0)
        rw [hv] at hv2
        have HV := hide hv2.symm
        clear hv hv2 ck hcd
        go_wp2
        refine wp_loop_rounds 1 ?_
        rw [rounds_succ]
        go_wp2
        exact ⟨⟨trivial, q + 1, by omega, by go_num, HV.out⟩, by simp [intOf]; omega⟩
      by_cases a1 : c < 194
      · have hv2 := v_bad s.data.toList q c hql hcd (.inl ⟨by omega, a1⟩)
        rw [hv] at hv2
        have HV := hide hv2
        clear hv hv2 ck hcd
        go_wp2
        go_ret
        exact ⟨by rw [HV.out]; rfl, rfl⟩
      by_cases a2 : c ≤ 223
      · skip
        have hv2 := v_two s.data.toList q c 128 191 hql hcd (by omega) (by rw [t_C2 ⟨by omega, by assumption⟩]) (by rw [t_C2 ⟨by omega, by assumption⟩]; rfl) (by rw [t_C2 ⟨by omega, by assumption⟩]; rfl)
        rw [hv] at hv2
        clear hv
        cases hb1 : contB s.data.toList (q + 1) 128 191
        · have k1 := ck 1 128 191
          rw [hb1] at k1
          rw [hb1] at hv2
          have HV := hide hv2
          clear hv2 hb1 ck
          go_wp2
          refine wp_loop_rounds 2 ?_
          rw [rounds_succ]
          go_wp2_with (go_at_call 65; refine (k1 _).mono ?_; rintro e w1 ⟨rfl, rfl⟩)
          go_ret
          exact ⟨by rw [HV.out]; rfl, rfl⟩
        · have k1 := ck 1 128 191
          rw [hb1] at k1
          rw [hb1] at hv2
          have hle : q + 2 ≤ s.size := by have := contB_lt hb1; rw [hsl] at this; omega
          clear hb1
          rw [if_pos rfl] at hv2
          have HV := hide hv2.symm
          clear hv2 ck
          go_wp2
          refine wp_loop_rounds 2 ?_
          rw [rounds_succ]
          go_wp2_with (go_at_call 65; refine (k1 _).mono ?_; rintro e w1 ⟨rfl, rfl⟩)
          rw [rounds_succ]
          go_wp2
          exact ⟨⟨trivial, q + 2, hle, by go_num, HV.out⟩, by simp [intOf]; omega⟩
      by_cases a3 : c = 224
      · subst a3
        skip
        have hv2 := v_three s.data.toList q 224 160 191 hql hcd (by omega) (by decide) (by decide) (by decide)
        rw [hv] at hv2
        clear hv
        cases hb1 : contB s.data.toList (q + 1) 160 191
        · have k1 := ck 1 160 191
          rw [hb1] at k1
          rw [hb1] at hv2
          have HV := hide hv2
          clear hv2 hb1 ck
          go_wp2
          refine wp_loop_rounds 3 ?_
          rw [rounds_succ]
          go_wp2_with (go_at_call 65; refine (k1 _).mono ?_; rintro e w1 ⟨rfl, rfl⟩)
          go_ret
          exact ⟨by rw [HV.out]; rfl, rfl⟩
        · have k1 := ck 1 160 191
          rw [hb1] at k1
          rw [hb1] at hv2
          clear hb1
          rw [if_pos rfl] at hv2
          cases hb2 : contB s.data.toList (q + 2) 128 191
          · have k2 := ck 2 128 191
            rw [hb2] at k2
            rw [hb2] at hv2
            have HV := hide hv2
            clear hv2 hb2 ck
            go_wp2
            refine wp_loop_rounds 3 ?_
            rw [rounds_succ]
            go_wp2_with (go_at_call 65; refine (k1 _).mono ?_; rintro e w1 ⟨rfl, rfl⟩)
            rw [rounds_succ]
            go_wp2_with (go_at_call 65; refine (k2 _).mono ?_; rintro e w1 ⟨rfl, rfl⟩)
            go_ret
            exact ⟨by rw [HV.out]; rfl, rfl⟩
          · have k2 := ck 2 128 191
            rw [hb2] at k2
            rw [hb2] at hv2
            have hle : q + 3 ≤ s.size := by have := contB_lt hb2; rw [hsl] at this; omega
            clear hb2
            rw [if_pos rfl] at hv2
            have HV := hide hv2.symm
            clear hv2 ck
            go_wp2
            refine wp_loop_rounds 3 ?_
            rw [rounds_succ]
            go_wp2_with (go_at_call 65; refine (k1 _).mono ?_; rintro e w1 ⟨rfl, rfl⟩)
            rw [rounds_succ]
            go_wp2_with (go_at_call 65; refine (k2 _).mono ?_; rintro e w1 ⟨rfl, rfl⟩)
            rw [rounds_succ]
            go_wp2
            exact ⟨⟨trivial, q + 3, hle, by go_num, HV.out⟩, by simp [intOf]; omega⟩
      by_cases a4 : c = 237
      · subst a4
        skip
        have hv2 := v_three s.data.toList q 237 128 159 hql hcd (by omega) (by decide) (by decide) (by decide)
        rw [hv] at hv2
        clear hv
        cases hb1 : contB s.data.toList (q + 1) 128 159
        · have k1 := ck 1 128 159
          rw [hb1] at k1
          rw [hb1] at hv2
          have HV := hide hv2
          clear hv2 hb1 ck
          go_wp2
          refine wp_loop_rounds 3 ?_
          rw [rounds_succ]
          go_wp2_with (go_at_call 65; refine (k1 _).mono ?_; rintro e w1 ⟨rfl, rfl⟩)
          go_ret
          exact ⟨by rw [HV.out]; rfl, rfl⟩
        · have k1 := ck 1 128 159
          rw [hb1] at k1
          rw [hb1] at hv2
          clear hb1
          rw [if_pos rfl] at hv2
          cases hb2 : contB s.data.toList (q + 2) 128 191
          · have k2 := ck 2 128 191
            rw [hb2] at k2
            rw [hb2] at hv2
            have HV := hide hv2
            clear hv2 hb2 ck
            go_wp2
            refine wp_loop_rounds 3 ?_
            rw [rounds_succ]
            go_wp2_with (go_at_call 65; refine (k1 _).mono ?_; rintro e w1 ⟨rfl, rfl⟩)
            rw [rounds_succ]
            go_wp2_with (go_at_call 65; refine (k2 _).mono ?_; rintro e w1 ⟨rfl, rfl⟩)
            go_ret
            exact ⟨by rw [HV.out]; rfl, rfl⟩
          · have k2 := ck 2 128 191
            rw [hb2] at k2
            rw [hb2] at hv2
            have hle : q + 3 ≤ s.size := by have := contB_lt hb2; rw [hsl] at this; omega
            clear hb2
            rw [if_pos rfl] at hv2
            have HV := hide hv2.symm
            clear hv2 ck
            go_wp2
            refine wp_loop_rounds 3 ?_
            rw [rounds_succ]
            go_wp2_with (go_at_call 65; refine (k1 _).mono ?_; rintro e w1 ⟨rfl, rfl⟩)
            rw [rounds_succ]
            go_wp2_with (go_at_call 65; refine (k2 _).mono ?_; rintro e w1 ⟨rfl, rfl⟩)
            rw [rounds_succ]
            go_wp2
            exact ⟨⟨trivial, q + 3, hle, by go_num, HV.out⟩, by simp [intOf]; omega⟩
      by_cases a5 : c ≤ 239
      · skip
        have hv2 := v_three s.data.toList q c 128 191 hql hcd (by omega) (by rw [t_E1 ⟨by omega, by omega, by omega⟩]) (by rw [t_E1 ⟨by omega, by omega, by omega⟩]; rfl) (by rw [t_E1 ⟨by omega, by omega, by omega⟩]; rfl)
        rw [hv] at hv2
        clear hv
        cases hb1 : contB s.data.toList (q + 1) 128 191
        · have k1 := ck 1 128 191
          rw [hb1] at k1
          rw [hb1] at hv2
          have HV := hide hv2
          clear hv2 hb1 ck
          go_wp2
          refine wp_loop_rounds 3 ?_
          rw [rounds_succ]
          go_wp2_with (go_at_call 65; refine (k1 _).mono ?_; rintro e w1 ⟨rfl, rfl⟩)
          go_ret
          exact ⟨by rw [HV.out]; rfl, rfl⟩
        · have k1 := ck 1 128 191
          rw [hb1] at k1
          rw [hb1] at hv2
          clear hb1
          rw [if_pos rfl] at hv2
          cases hb2 : contB s.data.toList (q + 2) 128 191
          · have k2 := ck 2 128 191
            rw [hb2] at k2
            rw [hb2] at hv2
            have HV := hide hv2
            clear hv2 hb2 ck
            go_wp2
            refine wp_loop_rounds 3 ?_
            rw [rounds_succ]
            go_wp2_with (go_at_call 65; refine (k1 _).mono ?_; rintro e w1 ⟨rfl, rfl⟩)
            rw [rounds_succ]
            go_wp2_with (go_at_call 65; refine (k2 _).mono ?_; rintro e w1 ⟨rfl, rfl⟩)
            go_ret
            exact ⟨by rw [HV.out]; rfl, rfl⟩
          · have k2 := ck 2 128 191
            rw [hb2] at k2
            rw [hb2] at hv2
            have hle : q + 3 ≤ s.size := by have := contB_lt hb2; rw [hsl] at this; omega
            clear hb2
            rw [if_pos rfl] at hv2
            have HV := hide hv2.symm
            clear hv2 ck
            go_wp2
            refine wp_loop_rounds 3 ?_
            rw [rounds_succ]
            go_wp2_with (go_at_call 65; refine (k1 _).mono ?_; rintro e w1 ⟨rfl, rfl⟩)
            rw [rounds_succ]
            go_wp2_with (go_at_call 65; refine (k2 _).mono ?_; rintro e w1 ⟨rfl, rfl⟩)
            rw [rounds_succ]
            go_wp2
            exact ⟨⟨trivial, q + 3, hle, by go_num, HV.out⟩, by simp [intOf]; omega⟩
      by_cases a6 : c = 240
      · subst a6
        skip
        have hv2 := v_four s.data.toList q 240 144 191 hql hcd (by omega) (by decide) (by decide) (by decide)
        rw [hv] at hv2
        clear hv
        cases hb1 : contB s.data.toList (q + 1) 144 191
        · have k1 := ck 1 144 191
          rw [hb1] at k1
          rw [hb1] at hv2
          have HV := hide hv2
          clear hv2 hb1 ck
          go_wp2
          refine wp_loop_rounds 4 ?_
          rw [rounds_succ]
          go_wp2_with (go_at_call 65; refine (k1 _).mono ?_; rintro e w1 ⟨rfl, rfl⟩)
          go_ret
          exact ⟨by rw [HV.out]; rfl, rfl⟩
        · have k1 := ck 1 144 191
          rw [hb1] at k1
          rw [hb1] at hv2
          clear hb1
          rw [if_pos rfl] at hv2
          cases hb2 : contB s.data.toList (q + 2) 128 191
          · have k2 := ck 2 128 191
            rw [hb2] at k2
            rw [hb2] at hv2
            have HV := hide hv2
            clear hv2 hb2 ck
            go_wp2
            refine wp_loop_rounds 4 ?_
            rw [rounds_succ]
            go_wp2_with (go_at_call 65; refine (k1 _).mono ?_; rintro e w1 ⟨rfl, rfl⟩)
            rw [rounds_succ]
            go_wp2_with (go_at_call 65; refine (k2 _).mono ?_; rintro e w1 ⟨rfl, rfl⟩)
            go_ret
            exact ⟨by rw [HV.out]; rfl, rfl⟩
          · have k2 := ck 2 128 191
            rw [hb2] at k2
            rw [hb2] at hv2
            clear hb2
            rw [if_pos rfl] at hv2
            cases hb3 : contB s.data.toList (q + 3) 128 191
            · have k3 := ck 3 128 191
              rw [hb3] at k3
              rw [hb3] at hv2
              have HV := hide hv2
              clear hv2 hb3 ck
              go_wp2
              refine wp_loop_rounds 4 ?_
              rw [rounds_succ]
              go_wp2_with (go_at_call 65; refine (k1 _).mono ?_; rintro e w1 ⟨rfl, rfl⟩)
              rw [rounds_succ]
              go_wp2_with (go_at_call 65; refine (k2 _).mono ?_; rintro e w1 ⟨rfl, rfl⟩)
              rw [rounds_succ]
              go_wp2_with (go_at_call 65; refine (k3 _).mono ?_; rintro e w1 ⟨rfl, rfl⟩)
              go_ret
              exact ⟨by rw [HV.out]; rfl, rfl⟩
            · have k3 := ck 3 128 191
              rw [hb3] at k3
              rw [hb3] at hv2
              have hle : q + 4 ≤ s.size := by have := contB_lt hb3; rw [hsl] at this; omega
              clear hb3
              rw [if_pos rfl] at hv2
              have HV := hide hv2.symm
              clear hv2 ck
              go_wp2
              refine wp_loop_rounds 4 ?_
              rw [rounds_succ]
              go_wp2_with (go_at_call 65; refine (k1 _).mono ?_; rintro e w1 ⟨rfl, rfl⟩)
              rw [rounds_succ]
              go_wp2_with (go_at_call 65; refine (k2 _).mono ?_; rintro e w1 ⟨rfl, rfl⟩)
              rw [rounds_succ]
              go_wp2_with (go_at_call 65; refine (k3 _).mono ?_; rintro e w1 ⟨rfl, rfl⟩)
              rw [rounds_succ]
              go_wp2
              exact ⟨⟨trivial, q + 4, hle, by go_num, HV.out⟩, by simp [intOf]; omega⟩
      by_cases a7 : c ≤ 243
      · skip
        have hv2 := v_four s.data.toList q c 128 191 hql hcd (by omega) (by rw [t_F1 ⟨by omega, by omega⟩]) (by rw [t_F1 ⟨by omega, by omega⟩]; rfl) (by rw [t_F1 ⟨by omega, by omega⟩]; rfl)
        rw [hv] at hv2
        clear hv
        cases hb1 : contB s.data.toList (q + 1) 128 191
        · have k1 := ck 1 128 191
          rw [hb1] at k1
          rw [hb1] at hv2
          have HV := hide hv2
          clear hv2 hb1 ck
          go_wp2
          refine wp_loop_rounds 4 ?_
          rw [rounds_succ]
          go_wp2_with (go_at_call 65; refine (k1 _).mono ?_; rintro e w1 ⟨rfl, rfl⟩)
          go_ret
          exact ⟨by rw [HV.out]; rfl, rfl⟩
        · have k1 := ck 1 128 191
          rw [hb1] at k1
          rw [hb1] at hv2
          clear hb1
          rw [if_pos rfl] at hv2
          cases hb2 : contB s.data.toList (q + 2) 128 191
          · have k2 := ck 2 128 191
            rw [hb2] at k2
            rw [hb2] at hv2
            have HV := hide hv2
            clear hv2 hb2 ck
            go_wp2
            refine wp_loop_rounds 4 ?_
            rw [rounds_succ]
            go_wp2_with (go_at_call 65; refine (k1 _).mono ?_; rintro e w1 ⟨rfl, rfl⟩)
            rw [rounds_succ]
            go_wp2_with (go_at_call 65; refine (k2 _).mono ?_; rintro e w1 ⟨rfl, rfl⟩)
            go_ret
            exact ⟨by rw [HV.out]; rfl, rfl⟩
          · have k2 := ck 2 128 191
            rw [hb2] at k2
            rw [hb2] at hv2
            clear hb2
            rw [if_pos rfl] at hv2
            cases hb3 : contB s.data.toList (q + 3) 128 191
            · have k3 := ck 3 128 191
              rw [hb3] at k3
              rw [hb3] at hv2
              have HV := hide hv2
              clear hv2 hb3 ck
              go_wp2
              refine wp_loop_rounds 4 ?_
              rw [rounds_succ]
              go_wp2_with (go_at_call 65; refine (k1 _).mono ?_; rintro e w1 ⟨rfl, rfl⟩)
              rw [rounds_succ]
              go_wp2_with (go_at_call 65; refine (k2 _).mono ?_; rintro e w1 ⟨rfl, rfl⟩)
              rw [rounds_succ]
              go_wp2_with (go_at_call 65; refine (k3 _).mono ?_; rintro e w1 ⟨rfl, rfl⟩)
              go_ret
              exact ⟨by rw [HV.out]; rfl, rfl⟩
            · have k3 := ck 3 128 191
              rw [hb3] at k3
              rw [hb3] at hv2
              have hle : q + 4 ≤ s.size := by have := contB_lt hb3; rw [hsl] at this; omega
              clear hb3
              rw [if_pos rfl] at hv2
              have HV := hide hv2.symm
              clear hv2 ck
              go_wp2
              refine wp_loop_rounds 4 ?_
              rw [rounds_succ]
              go_wp2_with (go_at_call 65; refine (k1 _).mono ?_; rintro e w1 ⟨rfl, rfl⟩)
              rw [rounds_succ]
              go_wp2_with (go_at_call 65; refine (k2 _).mono ?_; rintro e w1 ⟨rfl, rfl⟩)
              rw [rounds_succ]
              go_wp2_with (go_at_call 65; refine (k3 _).mono ?_; rintro e w1 ⟨rfl, rfl⟩)
              rw [rounds_succ]
              go_wp2
              exact ⟨⟨trivial, q + 4, hle, by go_num, HV.out⟩, by simp [intOf]; omega⟩
      by_cases a8 : c = 244
      · subst a8
        skip
        have hv2 := v_four s.data.toList q 244 128 143 hql hcd (by omega) (by decide) (by decide) (by decide)
        rw [hv] at hv2
        clear hv
        cases hb1 : contB s.data.toList (q + 1) 128 143
        · have k1 := ck 1 128 143
          rw [hb1] at k1
          rw [hb1] at hv2
          have HV := hide hv2
          clear hv2 hb1 ck
          go_wp2
          refine wp_loop_rounds 4 ?_
          rw [rounds_succ]
          go_wp2_with (go_at_call 65; refine (k1 _).mono ?_; rintro e w1 ⟨rfl, rfl⟩)
          go_ret
          exact ⟨by rw [HV.out]; rfl, rfl⟩
        · have k1 := ck 1 128 143
          rw [hb1] at k1
          rw [hb1] at hv2
          clear hb1
          rw [if_pos rfl] at hv2
          cases hb2 : contB s.data.toList (q + 2) 128 191
          · have k2 := ck 2 128 191
            rw [hb2] at k2
            rw [hb2] at hv2
            have HV := hide hv2
            clear hv2 hb2 ck
            go_wp2
            refine wp_loop_rounds 4 ?_
            rw [rounds_succ]
            go_wp2_with (go_at_call 65; refine (k1 _).mono ?_; rintro e w1 ⟨rfl, rfl⟩)
            rw [rounds_succ]
            go_wp2_with (go_at_call 65; refine (k2 _).mono ?_; rintro e w1 ⟨rfl, rfl⟩)
            go_ret
            exact ⟨by rw [HV.out]; rfl, rfl⟩
          · have k2 := ck 2 128 191
            rw [hb2] at k2
            rw [hb2] at hv2
            clear hb2
            rw [if_pos rfl] at hv2
            cases hb3 : contB s.data.toList (q + 3) 128 191
            · have k3 := ck 3 128 191
              rw [hb3] at k3
              rw [hb3] at hv2
              have HV := hide hv2
              clear hv2 hb3 ck
              go_wp2
              refine wp_loop_rounds 4 ?_
              rw [rounds_succ]
              go_wp2_with (go_at_call 65; refine (k1 _).mono ?_; rintro e w1 ⟨rfl, rfl⟩)
              rw [rounds_succ]
              go_wp2_with (go_at_call 65; refine (k2 _).mono ?_; rintro e w1 ⟨rfl, rfl⟩)
              rw [rounds_succ]
              go_wp2_with (go_at_call 65; refine (k3 _).mono ?_; rintro e w1 ⟨rfl, rfl⟩)
              go_ret
              exact ⟨by rw [HV.out]; rfl, rfl⟩
            · have k3 := ck 3 128 191
              rw [hb3] at k3
              rw [hb3] at hv2
              have hle : q + 4 ≤ s.size := by have := contB_lt hb3; rw [hsl] at this; omega
              clear hb3
              rw [if_pos rfl] at hv2
              have HV := hide hv2.symm
              clear hv2 ck
              go_wp2
              refine wp_loop_rounds 4 ?_
              rw [rounds_succ]
              go_wp2_with (go_at_call 65; refine (k1 _).mono ?_; rintro e w1 ⟨rfl, rfl⟩)
              rw [rounds_succ]
              go_wp2_with (go_at_call 65; refine (k2 _).mono ?_; rintro e w1 ⟨rfl, rfl⟩)
              rw [rounds_succ]
              go_wp2_with (go_at_call 65; refine (k3 _).mono ?_; rintro e w1 ⟨rfl, rfl⟩)
              rw [rounds_succ]
              go_wp2
              exact ⟨⟨trivial, q + 4, hle, by go_num, HV.out⟩, by simp [intOf]; omega⟩
      · have hv2 := v_bad s.data.toList q c hql hcd (.inr (by omega))
        rw [hv] at hv2
        have HV := hide hv2
        clear hv hv2 ck hcd
        go_wp2
        go_ret
        exact ⟨by rw [HV.out]; rfl, rfl⟩
    · have hlt' : ¬ (q : Int) < s.size := by omega
      have hv2 : ANS = true := by
        rw [← hv, List.drop_of_length_le (by rw [hsl]; omega)]
        rfl
      subst hv2
      clear hv
      go_wp2
      go_ret
      exact ⟨rfl, rfl⟩
end Go.Proofs.YtckcdgobgpjdkaaDoor.Oct
