/- The document's number, as it is walked: the ways O. -/
import Derived.Test.YtinbbcojilogeaaDoorMf
namespace Go.Proofs.YtinbbcojilogeaaDoor.Tok
open Go.RowKit Go.Shelf Go.Proofs.YtinbbcojilogeaaDoor.Oct

set_option maxRecDepth 100000 in
set_option maxHeartbeats 4000000 in
theorem num_O_N1 (s sw : ByteArray) (wl : List UInt8) (L i K : Nat) (b : UInt8) (lt : Bool) (w : World) (hL : L ≤ 140737488355328) (hsz : s.size = L) (hiK : i < K) (hKL : K ≤ L) (hb : By s i b) (Hdig : Hid (Digs s i K)) (Hend : Hid (Stop s L K isD)) (hxw : s.extract i K = sw) (hsw : sw.size = wl.length) (hwl : wl.length ≤ 140737488355328) (Hsw : Hid (∀ j c, wl[j]? = some c → By sw j c)) (Hwd : Hid (∀ c ∈ wl, isD c = true)) (hb48 : ((b.toNat : Int) == 48) = true) (hgt : ¬ i + 1 < K) (hK1 : ¬ K + 1 < L) (Hlet : Hid (Let s L K lt)) (D : Nat) (HD : Hid (dv 0 wl = D)) (bd : Bool) (Hbd : Hid ((1000000000 < D → bd = true) ∧ (¬ 1000000000 < D → bd = lt))) :
    Calls Tryd.prog 46 #[.string s, .int .i64 (i : Int)] w fun e w' => (∃ x, e = .returned (numV bd (tokV 2 [] D 0 0 0) K x)) ∧ Below w.heap.size w w' := by
  have hu : i < K := hiK
  clear hu
  have hb0 := hb (by omega)
  have hiL : (i : Int) < (L : Int) := by omega
  have hgt' : ¬ (i : Int) + 1 < (K : Int) := by omega
  have hK1' : ¬ (K : Int) + 1 < (L : Int) := by omega
  clear hb
  go_enter Tryd.func46, Tryd.ntmps46
  go_wp2_with fail
  go_loopw [7] (fun x wz => wz = w.alloc (.cells #[.int .i64 0, .string ⟨#[]⟩, .int .i64 0, .int .i64 0, .int .i64 0, .int .i64 0] 37) ∧ ∃ j : Nat, i ≤ j ∧ j ≤ K ∧ x = .int .i64 (j : Int)) (fun x _ => K - (RowKit.intOf x).toNat)
  case atStart => exact ⟨rfl, i, Nat.le_refl _, by omega, rfl⟩
  case round =>
    rcases hrel with ⟨rfl, j, h1j, h2j, rfl⟩
    by_cases hjk : j < K
    · obtain ⟨c, hc1, hc2⟩ := Hdig.out j h1j hjk
      have hcj := hc1 (by omega)
      have hjL : (j : Int) < (L : Int) := by omega
      have cd := fun w => dDigit c w
      rw [hc2] at cd
      clear hc1 hc2
      go_wp2_with (go_at_call 27; refine (cd _).mono ?_; rintro e w1 ⟨rfl, hw⟩; obtain rfl := hw.symm)
      exact ⟨⟨trivial, j + 1, by omega, by omega, by go_num⟩, by simp [RowKit.intOf]; omega⟩
    · obtain rfl : K = j := by omega
      clear hjk h1j h2j
      rcases Hend.out with hE | ⟨hE, cE, hcE, hdE⟩
      · subst hE
        go_wp2_with fail
        go_loopw [11, 12] (fun xn xj wz => wz = (w.alloc (.cells #[.int .i64 0, .string ⟨#[]⟩, .int .i64 0, .int .i64 0, .int .i64 0, .int .i64 0] 37)).alloc (.cells #[.int .i64 2, .string ⟨#[]⟩, .int .i64 0, .int .i64 0, .int .i64 0, .int .i64 0] 37) ∧ ∃ n j : Nat, j ≤ wl.length ∧ n ≤ 10000000009 ∧ xn = .int .i64 (n : Int) ∧ xj = .int .i64 (j : Int) ∧ Hid (D = dv n (wl.drop j))) (fun _ xj _ => wl.length - (RowKit.intOf xj).toNat)
        case atStart => exact ⟨rfl, 0, 0, Nat.zero_le _, by omega, rfl, rfl, hide HD.out.symm⟩
        case round =>
          rcases hrel with ⟨rfl, n, j, hjl, hn9, rfl, rfl, Hdv⟩
          by_cases hjk : j < wl.length
          · have hjk' : (j : Int) < (wl.length : Int) := by omega
            by_cases hn : n ≤ 1000000000
            · have hn' : (n : Int) ≤ 1000000000 := by omega
              obtain ⟨c, hc0⟩ : ∃ c, wl[j]? = some c := ⟨_, List.getElem?_eq_getElem hjk⟩
              have hc := Hsw.out j c hc0 (by omega)
              obtain ⟨hc48, hc57⟩ := sub48 c (Hwd.out c (List.mem_of_getElem? hc0))
              have Hstep : Hid (D = dv (n * 10 + (c.toNat - 48)) (wl.drop (j + 1))) := hide (by
                rw [Hdv.out, List.drop_eq_getElem_cons hjk]
                rw [List.getElem?_eq_getElem hjk] at hc0
                rw [Option.some.inj hc0]
                rfl)
              have hcc : ((c.toNat : Int) - 48) % 256 = (c.toNat : Int) - 48 := by omega
              have hcc2 : (c.toNat : Int) - 48 = ((c.toNat - 48 : Nat) : Int) := by omega
              clear hc0 Hdv
              go_wp2_with fail
              exact ⟨⟨trivial, n * 10 + (c.toNat - 48), j + 1, by omega, by omega, by first | (congr 1; omega) | go_num, by go_num, Hstep⟩, by simp [RowKit.intOf]; omega⟩
            · have hq1 : decide ((n : Int) ≤ 1000000000) = false := decide_eq_false (by omega)
              have hq2 : decide ((1000000000 : Int) < (n : Int)) = true := decide_eq_true (by omega)
              have hq3 : decide (n ≤ 1000000000) = false := decide_eq_false hn
              have hq4 : decide (1000000000 < n) = true := decide_eq_true (by omega)
              have hgtD : 1000000000 < D := by
                have h5 := dv_le (wl.drop j) n
                rw [← Hdv.out] at h5
                omega
              have Hbl : Hid (bd = true) := hide (Hbd.out.1 hgtD)
              clear Hbd hgtD Hdv hn hn9
              go_wp2_with fail
              refine bodyPost_ret (results_ctt rfl _ _ w.heap.size _ _ _ _ rfl (heap_first _ _ _) Tryd.underlying37 rfl infoTok) rfl ?_
              rw [Hbl.out]
              exact ⟨⟨_, rfl⟩, below_two _ _ _⟩
          · have hjk' : ¬ (j : Int) < (wl.length : Int) := by omega
            have hdn : D = n := by rw [Hdv.out, List.drop_of_length_le (by omega)]; rfl
            clear Hdv
            subst hdn
            by_cases hn : D ≤ 1000000000
            · have hq2 : decide ((1000000000 : Int) < (D : Int)) = false := decide_eq_false (by omega)
              have hq4 : decide (1000000000 < D) = false := decide_eq_false (by omega)
              have Hbl : Hid (bd = lt) := hide (Hbd.out.2 (by omega))
              clear Hbd hn hn9
              rcases Hlet.out with ⟨_, hlt0⟩ | ⟨hk0, _⟩
              · subst hlt0
                go_wp2_with fail
                refine bodyPost_ret (results_ctt rfl _ _ w.heap.size _ _ _ _ rfl (heap_first _ _ _) Tryd.underlying37 rfl infoTok) rfl ?_
                rw [Hbl.out]
                exact ⟨⟨0, rfl⟩, below_two _ _ _⟩
              · exact absurd hk0 (by omega)
            · have hq2 : decide ((1000000000 : Int) < (D : Int)) = true := decide_eq_true (by omega)
              have hq4 : decide (1000000000 < D) = true := decide_eq_true (by omega)
              have Hbl : Hid (bd = true) := hide (Hbd.out.1 (by omega))
              clear Hbd hn hn9
              go_wp2_with fail
              refine bodyPost_ret (results_ctt rfl _ _ w.heap.size _ _ _ _ rfl (heap_first _ _ _) Tryd.underlying37 rfl infoTok) rfl ?_
              rw [Hbl.out]
              exact ⟨⟨_, rfl⟩, below_two _ _ _⟩
      · have hE' : (K : Int) < (L : Int) := by omega
        have hcE' := hcE (by omega)
        have cz := fun w => dDigit cE w
        rw [hdE] at cz
        clear hcE hdE
        go_wp2_with (first | (go_at_call 27; (with_reducible refine (cz _).mono ?_); rintro e w1 ⟨rfl, hw⟩; obtain rfl := hw.symm))
        go_loopw [11, 12] (fun xn xj wz => wz = (w.alloc (.cells #[.int .i64 0, .string ⟨#[]⟩, .int .i64 0, .int .i64 0, .int .i64 0, .int .i64 0] 37)).alloc (.cells #[.int .i64 2, .string ⟨#[]⟩, .int .i64 0, .int .i64 0, .int .i64 0, .int .i64 0] 37) ∧ ∃ n j : Nat, j ≤ wl.length ∧ n ≤ 10000000009 ∧ xn = .int .i64 (n : Int) ∧ xj = .int .i64 (j : Int) ∧ Hid (D = dv n (wl.drop j))) (fun _ xj _ => wl.length - (RowKit.intOf xj).toNat)
        case atStart => exact ⟨rfl, 0, 0, Nat.zero_le _, by omega, rfl, rfl, hide HD.out.symm⟩
        case round =>
          rcases hrel with ⟨rfl, n, j, hjl, hn9, rfl, rfl, Hdv⟩
          by_cases hjk : j < wl.length
          · have hjk' : (j : Int) < (wl.length : Int) := by omega
            by_cases hn : n ≤ 1000000000
            · have hn' : (n : Int) ≤ 1000000000 := by omega
              obtain ⟨c, hc0⟩ : ∃ c, wl[j]? = some c := ⟨_, List.getElem?_eq_getElem hjk⟩
              have hc := Hsw.out j c hc0 (by omega)
              obtain ⟨hc48, hc57⟩ := sub48 c (Hwd.out c (List.mem_of_getElem? hc0))
              have Hstep : Hid (D = dv (n * 10 + (c.toNat - 48)) (wl.drop (j + 1))) := hide (by
                rw [Hdv.out, List.drop_eq_getElem_cons hjk]
                rw [List.getElem?_eq_getElem hjk] at hc0
                rw [Option.some.inj hc0]
                rfl)
              have hcc : ((c.toNat : Int) - 48) % 256 = (c.toNat : Int) - 48 := by omega
              have hcc2 : (c.toNat : Int) - 48 = ((c.toNat - 48 : Nat) : Int) := by omega
              clear hc0 Hdv
              go_wp2_with fail
              exact ⟨⟨trivial, n * 10 + (c.toNat - 48), j + 1, by omega, by omega, by first | (congr 1; omega) | go_num, by go_num, Hstep⟩, by simp [RowKit.intOf]; omega⟩
            · have hq1 : decide ((n : Int) ≤ 1000000000) = false := decide_eq_false (by omega)
              have hq2 : decide ((1000000000 : Int) < (n : Int)) = true := decide_eq_true (by omega)
              have hq3 : decide (n ≤ 1000000000) = false := decide_eq_false hn
              have hq4 : decide (1000000000 < n) = true := decide_eq_true (by omega)
              have hgtD : 1000000000 < D := by
                have h5 := dv_le (wl.drop j) n
                rw [← Hdv.out] at h5
                omega
              have Hbl : Hid (bd = true) := hide (Hbd.out.1 hgtD)
              clear Hbd hgtD Hdv hn hn9
              go_wp2_with fail
              refine bodyPost_ret (results_ctt rfl _ _ w.heap.size _ _ _ _ rfl (heap_first _ _ _) Tryd.underlying37 rfl infoTok) rfl ?_
              rw [Hbl.out]
              exact ⟨⟨_, rfl⟩, below_two _ _ _⟩
          · have hjk' : ¬ (j : Int) < (wl.length : Int) := by omega
            have hdn : D = n := by rw [Hdv.out, List.drop_of_length_le (by omega)]; rfl
            clear Hdv
            subst hdn
            by_cases hn : D ≤ 1000000000
            · have hq2 : decide ((1000000000 : Int) < (D : Int)) = false := decide_eq_false (by omega)
              have hq4 : decide (1000000000 < D) = false := decide_eq_false (by omega)
              have Hbl : Hid (bd = lt) := hide (Hbd.out.2 (by omega))
              clear Hbd hn hn9
              rcases Hlet.out with ⟨hk0, _⟩ | ⟨hk0, c2, hc2, hlt0⟩
              · omega
              · have hc2' := hc2 (by omega)
                have hkk : (K : Int) < (L : Int) := by omega
                have hcc2 : c2 = cE := hc2'.symm.trans hcE'
                subst hcc2
                have cl := fun w => dLetter c2 w
                rw [hlt0] at cl
                clear hc2 hlt0 hc2'
                cases lt
                · go_wp2_with (go_at_call 26; refine (cl _).mono ?_; rintro e w1 ⟨rfl, hw⟩; obtain rfl := hw.symm)
                  refine bodyPost_ret (results_ctt rfl _ _ w.heap.size _ _ _ _ rfl (heap_first _ _ _) Tryd.underlying37 rfl infoTok) rfl ?_
                  rw [Hbl.out]
                  exact ⟨⟨0, rfl⟩, below_two _ _ _⟩
                · go_wp2_with (go_at_call 26; refine (cl _).mono ?_; rintro e w1 ⟨rfl, hw⟩; obtain rfl := hw.symm)
                  refine bodyPost_ret (results_ctt rfl _ _ w.heap.size _ _ _ _ rfl (heap_first _ _ _) Tryd.underlying37 rfl infoTok) rfl ?_
                  rw [Hbl.out]
                  exact ⟨⟨_, rfl⟩, below_two _ _ _⟩
            · have hq2 : decide ((1000000000 : Int) < (D : Int)) = true := decide_eq_true (by omega)
              have hq4 : decide (1000000000 < D) = true := decide_eq_true (by omega)
              have Hbl : Hid (bd = true) := hide (Hbd.out.1 (by omega))
              clear Hbd hn hn9
              go_wp2_with fail
              refine bodyPost_ret (results_ctt rfl _ _ w.heap.size _ _ _ _ rfl (heap_first _ _ _) Tryd.underlying37 rfl infoTok) rfl ?_
              rw [Hbl.out]
              exact ⟨⟨_, rfl⟩, below_two _ _ _⟩
set_option maxRecDepth 100000 in
set_option maxHeartbeats 4000000 in
theorem num_O_N2 (s sw : ByteArray) (wl : List UInt8) (L i K : Nat) (b : UInt8) (lt : Bool) (w : World) (hL : L ≤ 140737488355328) (hsz : s.size = L) (hiK : i < K) (hKL : K ≤ L) (hb : By s i b) (Hdig : Hid (Digs s i K)) (Hend : Hid (Stop s L K isD)) (hxw : s.extract i K = sw) (hsw : sw.size = wl.length) (hwl : wl.length ≤ 140737488355328) (Hsw : Hid (∀ j c, wl[j]? = some c → By sw j c)) (Hwd : Hid (∀ c ∈ wl, isD c = true)) (hb48 : ((b.toNat : Int) == 48) = true) (hgt : ¬ i + 1 < K) (hK1 : K + 1 < L) (cK : UInt8) (hcK : By s K cK) (hcK46 : ((cK.toNat : Int) == 46) = false) (Hlet : Hid (Let s L K lt)) (D : Nat) (HD : Hid (dv 0 wl = D)) (bd : Bool) (Hbd : Hid ((1000000000 < D → bd = true) ∧ (¬ 1000000000 < D → bd = lt))) :
    Calls Tryd.prog 46 #[.string s, .int .i64 (i : Int)] w fun e w' => (∃ x, e = .returned (numV bd (tokV 2 [] D 0 0 0) K x)) ∧ Below w.heap.size w w' := by
  have hu : i < K := hiK
  clear hu
  have hb0 := hb (by omega)
  have hiL : (i : Int) < (L : Int) := by omega
  have hgt' : ¬ (i : Int) + 1 < (K : Int) := by omega
  have hK1' : (K : Int) + 1 < (L : Int) := by omega
  have hcK' := hcK (by omega)
  clear hb hcK
  go_enter Tryd.func46, Tryd.ntmps46
  go_wp2_with fail
  go_loopw [7] (fun x wz => wz = w.alloc (.cells #[.int .i64 0, .string ⟨#[]⟩, .int .i64 0, .int .i64 0, .int .i64 0, .int .i64 0] 37) ∧ ∃ j : Nat, i ≤ j ∧ j ≤ K ∧ x = .int .i64 (j : Int)) (fun x _ => K - (RowKit.intOf x).toNat)
  case atStart => exact ⟨rfl, i, Nat.le_refl _, by omega, rfl⟩
  case round =>
    rcases hrel with ⟨rfl, j, h1j, h2j, rfl⟩
    by_cases hjk : j < K
    · obtain ⟨c, hc1, hc2⟩ := Hdig.out j h1j hjk
      have hcj := hc1 (by omega)
      have hjL : (j : Int) < (L : Int) := by omega
      have cd := fun w => dDigit c w
      rw [hc2] at cd
      clear hc1 hc2
      go_wp2_with (go_at_call 27; refine (cd _).mono ?_; rintro e w1 ⟨rfl, hw⟩; obtain rfl := hw.symm)
      exact ⟨⟨trivial, j + 1, by omega, by omega, by go_num⟩, by simp [RowKit.intOf]; omega⟩
    · obtain rfl : K = j := by omega
      clear hjk h1j h2j
      rcases Hend.out with hE | ⟨hE, cE, hcE, hdE⟩
      · omega
      · have hE' : (K : Int) < (L : Int) := by omega
        have hcE' := hcE (by omega)
        have cz := fun w => dDigit cE w
        rw [hdE] at cz
        have hcc : cE = cK := hcE'.symm.trans hcK'
        subst hcc
        clear hcK' hcE hdE
        go_wp2_with (first | (go_at_call 27; (with_reducible refine (cz _).mono ?_); rintro e w1 ⟨rfl, hw⟩; obtain rfl := hw.symm))
        go_loopw [11, 12] (fun xn xj wz => wz = (w.alloc (.cells #[.int .i64 0, .string ⟨#[]⟩, .int .i64 0, .int .i64 0, .int .i64 0, .int .i64 0] 37)).alloc (.cells #[.int .i64 2, .string ⟨#[]⟩, .int .i64 0, .int .i64 0, .int .i64 0, .int .i64 0] 37) ∧ ∃ n j : Nat, j ≤ wl.length ∧ n ≤ 10000000009 ∧ xn = .int .i64 (n : Int) ∧ xj = .int .i64 (j : Int) ∧ Hid (D = dv n (wl.drop j))) (fun _ xj _ => wl.length - (RowKit.intOf xj).toNat)
        case atStart => exact ⟨rfl, 0, 0, Nat.zero_le _, by omega, rfl, rfl, hide HD.out.symm⟩
        case round =>
          rcases hrel with ⟨rfl, n, j, hjl, hn9, rfl, rfl, Hdv⟩
          by_cases hjk : j < wl.length
          · have hjk' : (j : Int) < (wl.length : Int) := by omega
            by_cases hn : n ≤ 1000000000
            · have hn' : (n : Int) ≤ 1000000000 := by omega
              obtain ⟨c, hc0⟩ : ∃ c, wl[j]? = some c := ⟨_, List.getElem?_eq_getElem hjk⟩
              have hc := Hsw.out j c hc0 (by omega)
              obtain ⟨hc48, hc57⟩ := sub48 c (Hwd.out c (List.mem_of_getElem? hc0))
              have Hstep : Hid (D = dv (n * 10 + (c.toNat - 48)) (wl.drop (j + 1))) := hide (by
                rw [Hdv.out, List.drop_eq_getElem_cons hjk]
                rw [List.getElem?_eq_getElem hjk] at hc0
                rw [Option.some.inj hc0]
                rfl)
              have hcc : ((c.toNat : Int) - 48) % 256 = (c.toNat : Int) - 48 := by omega
              have hcc2 : (c.toNat : Int) - 48 = ((c.toNat - 48 : Nat) : Int) := by omega
              clear hc0 Hdv
              go_wp2_with fail
              exact ⟨⟨trivial, n * 10 + (c.toNat - 48), j + 1, by omega, by omega, by first | (congr 1; omega) | go_num, by go_num, Hstep⟩, by simp [RowKit.intOf]; omega⟩
            · have hq1 : decide ((n : Int) ≤ 1000000000) = false := decide_eq_false (by omega)
              have hq2 : decide ((1000000000 : Int) < (n : Int)) = true := decide_eq_true (by omega)
              have hq3 : decide (n ≤ 1000000000) = false := decide_eq_false hn
              have hq4 : decide (1000000000 < n) = true := decide_eq_true (by omega)
              have hgtD : 1000000000 < D := by
                have h5 := dv_le (wl.drop j) n
                rw [← Hdv.out] at h5
                omega
              have Hbl : Hid (bd = true) := hide (Hbd.out.1 hgtD)
              clear Hbd hgtD Hdv hn hn9
              go_wp2_with fail
              refine bodyPost_ret (results_ctt rfl _ _ w.heap.size _ _ _ _ rfl (heap_first _ _ _) Tryd.underlying37 rfl infoTok) rfl ?_
              rw [Hbl.out]
              exact ⟨⟨_, rfl⟩, below_two _ _ _⟩
          · have hjk' : ¬ (j : Int) < (wl.length : Int) := by omega
            have hdn : D = n := by rw [Hdv.out, List.drop_of_length_le (by omega)]; rfl
            clear Hdv
            subst hdn
            by_cases hn : D ≤ 1000000000
            · have hq2 : decide ((1000000000 : Int) < (D : Int)) = false := decide_eq_false (by omega)
              have hq4 : decide (1000000000 < D) = false := decide_eq_false (by omega)
              have Hbl : Hid (bd = lt) := hide (Hbd.out.2 (by omega))
              clear Hbd hn hn9
              rcases Hlet.out with ⟨hk0, _⟩ | ⟨hk0, c2, hc2, hlt0⟩
              · omega
              · have hc2' := hc2 (by omega)
                have hkk : (K : Int) < (L : Int) := by omega
                have hcc2 : c2 = cE := hc2'.symm.trans hcE'
                subst hcc2
                have cl := fun w => dLetter c2 w
                rw [hlt0] at cl
                clear hc2 hlt0 hc2'
                cases lt
                · go_wp2_with (go_at_call 26; refine (cl _).mono ?_; rintro e w1 ⟨rfl, hw⟩; obtain rfl := hw.symm)
                  refine bodyPost_ret (results_ctt rfl _ _ w.heap.size _ _ _ _ rfl (heap_first _ _ _) Tryd.underlying37 rfl infoTok) rfl ?_
                  rw [Hbl.out]
                  exact ⟨⟨0, rfl⟩, below_two _ _ _⟩
                · go_wp2_with (go_at_call 26; refine (cl _).mono ?_; rintro e w1 ⟨rfl, hw⟩; obtain rfl := hw.symm)
                  refine bodyPost_ret (results_ctt rfl _ _ w.heap.size _ _ _ _ rfl (heap_first _ _ _) Tryd.underlying37 rfl infoTok) rfl ?_
                  rw [Hbl.out]
                  exact ⟨⟨_, rfl⟩, below_two _ _ _⟩
            · have hq2 : decide ((1000000000 : Int) < (D : Int)) = true := decide_eq_true (by omega)
              have hq4 : decide (1000000000 < D) = true := decide_eq_true (by omega)
              have Hbl : Hid (bd = true) := hide (Hbd.out.1 (by omega))
              clear Hbd hn hn9
              go_wp2_with fail
              refine bodyPost_ret (results_ctt rfl _ _ w.heap.size _ _ _ _ rfl (heap_first _ _ _) Tryd.underlying37 rfl infoTok) rfl ?_
              rw [Hbl.out]
              exact ⟨⟨_, rfl⟩, below_two _ _ _⟩
set_option maxRecDepth 100000 in
set_option maxHeartbeats 4000000 in
theorem num_O_N3 (s sw : ByteArray) (wl : List UInt8) (L i K : Nat) (b : UInt8) (lt : Bool) (w : World) (hL : L ≤ 140737488355328) (hsz : s.size = L) (hiK : i < K) (hKL : K ≤ L) (hb : By s i b) (Hdig : Hid (Digs s i K)) (Hend : Hid (Stop s L K isD)) (hxw : s.extract i K = sw) (hsw : sw.size = wl.length) (hwl : wl.length ≤ 140737488355328) (Hsw : Hid (∀ j c, wl[j]? = some c → By sw j c)) (Hwd : Hid (∀ c ∈ wl, isD c = true)) (hb48 : ((b.toNat : Int) == 48) = true) (hgt : ¬ i + 1 < K) (hK1 : K + 1 < L) (cK : UInt8) (hcK : By s K cK) (hcK46 : ((cK.toNat : Int) == 46) = true) (c1 : UInt8) (hc1 : By s (K + 1) c1) (hd1 : isD c1 = false) (Hlet : Hid (Let s L K lt)) (D : Nat) (HD : Hid (dv 0 wl = D)) (bd : Bool) (Hbd : Hid ((1000000000 < D → bd = true) ∧ (¬ 1000000000 < D → bd = lt))) :
    Calls Tryd.prog 46 #[.string s, .int .i64 (i : Int)] w fun e w' => (∃ x, e = .returned (numV bd (tokV 2 [] D 0 0 0) K x)) ∧ Below w.heap.size w w' := by
  have hu : i < K := hiK
  clear hu
  have hb0 := hb (by omega)
  have hiL : (i : Int) < (L : Int) := by omega
  have hgt' : ¬ (i : Int) + 1 < (K : Int) := by omega
  have hK1' : (K : Int) + 1 < (L : Int) := by omega
  have hcK' := hcK (by omega)
  have hc1' := hc1 (by omega)
  have cd1 := fun w => dDigit c1 w
  rw [hd1] at cd1
  clear hb hcK hc1 hd1
  go_enter Tryd.func46, Tryd.ntmps46
  go_wp2_with fail
  go_loopw [7] (fun x wz => wz = w.alloc (.cells #[.int .i64 0, .string ⟨#[]⟩, .int .i64 0, .int .i64 0, .int .i64 0, .int .i64 0] 37) ∧ ∃ j : Nat, i ≤ j ∧ j ≤ K ∧ x = .int .i64 (j : Int)) (fun x _ => K - (RowKit.intOf x).toNat)
  case atStart => exact ⟨rfl, i, Nat.le_refl _, by omega, rfl⟩
  case round =>
    rcases hrel with ⟨rfl, j, h1j, h2j, rfl⟩
    by_cases hjk : j < K
    · obtain ⟨c, hc1, hc2⟩ := Hdig.out j h1j hjk
      have hcj := hc1 (by omega)
      have hjL : (j : Int) < (L : Int) := by omega
      have cd := fun w => dDigit c w
      rw [hc2] at cd
      clear hc1 hc2
      go_wp2_with (go_at_call 27; refine (cd _).mono ?_; rintro e w1 ⟨rfl, hw⟩; obtain rfl := hw.symm)
      exact ⟨⟨trivial, j + 1, by omega, by omega, by go_num⟩, by simp [RowKit.intOf]; omega⟩
    · obtain rfl : K = j := by omega
      clear hjk h1j h2j
      rcases Hend.out with hE | ⟨hE, cE, hcE, hdE⟩
      · omega
      · have hE' : (K : Int) < (L : Int) := by omega
        have hcE' := hcE (by omega)
        have cz := fun w => dDigit cE w
        rw [hdE] at cz
        have hcc : cE = cK := hcE'.symm.trans hcK'
        subst hcc
        clear hcK' hcE hdE
        go_wp2_with (first | (go_at_call 27; (with_reducible refine (cz _).mono ?_); rintro e w1 ⟨rfl, hw⟩; obtain rfl := hw.symm) | (go_at_call 27; (with_reducible refine (cd1 _).mono ?_); rintro e w1 ⟨rfl, hw⟩; obtain rfl := hw.symm))
        go_loopw [11, 12] (fun xn xj wz => wz = (w.alloc (.cells #[.int .i64 0, .string ⟨#[]⟩, .int .i64 0, .int .i64 0, .int .i64 0, .int .i64 0] 37)).alloc (.cells #[.int .i64 2, .string ⟨#[]⟩, .int .i64 0, .int .i64 0, .int .i64 0, .int .i64 0] 37) ∧ ∃ n j : Nat, j ≤ wl.length ∧ n ≤ 10000000009 ∧ xn = .int .i64 (n : Int) ∧ xj = .int .i64 (j : Int) ∧ Hid (D = dv n (wl.drop j))) (fun _ xj _ => wl.length - (RowKit.intOf xj).toNat)
        case atStart => exact ⟨rfl, 0, 0, Nat.zero_le _, by omega, rfl, rfl, hide HD.out.symm⟩
        case round =>
          rcases hrel with ⟨rfl, n, j, hjl, hn9, rfl, rfl, Hdv⟩
          by_cases hjk : j < wl.length
          · have hjk' : (j : Int) < (wl.length : Int) := by omega
            by_cases hn : n ≤ 1000000000
            · have hn' : (n : Int) ≤ 1000000000 := by omega
              obtain ⟨c, hc0⟩ : ∃ c, wl[j]? = some c := ⟨_, List.getElem?_eq_getElem hjk⟩
              have hc := Hsw.out j c hc0 (by omega)
              obtain ⟨hc48, hc57⟩ := sub48 c (Hwd.out c (List.mem_of_getElem? hc0))
              have Hstep : Hid (D = dv (n * 10 + (c.toNat - 48)) (wl.drop (j + 1))) := hide (by
                rw [Hdv.out, List.drop_eq_getElem_cons hjk]
                rw [List.getElem?_eq_getElem hjk] at hc0
                rw [Option.some.inj hc0]
                rfl)
              have hcc : ((c.toNat : Int) - 48) % 256 = (c.toNat : Int) - 48 := by omega
              have hcc2 : (c.toNat : Int) - 48 = ((c.toNat - 48 : Nat) : Int) := by omega
              clear hc0 Hdv
              go_wp2_with fail
              exact ⟨⟨trivial, n * 10 + (c.toNat - 48), j + 1, by omega, by omega, by first | (congr 1; omega) | go_num, by go_num, Hstep⟩, by simp [RowKit.intOf]; omega⟩
            · have hq1 : decide ((n : Int) ≤ 1000000000) = false := decide_eq_false (by omega)
              have hq2 : decide ((1000000000 : Int) < (n : Int)) = true := decide_eq_true (by omega)
              have hq3 : decide (n ≤ 1000000000) = false := decide_eq_false hn
              have hq4 : decide (1000000000 < n) = true := decide_eq_true (by omega)
              have hgtD : 1000000000 < D := by
                have h5 := dv_le (wl.drop j) n
                rw [← Hdv.out] at h5
                omega
              have Hbl : Hid (bd = true) := hide (Hbd.out.1 hgtD)
              clear Hbd hgtD Hdv hn hn9
              go_wp2_with fail
              refine bodyPost_ret (results_ctt rfl _ _ w.heap.size _ _ _ _ rfl (heap_first _ _ _) Tryd.underlying37 rfl infoTok) rfl ?_
              rw [Hbl.out]
              exact ⟨⟨_, rfl⟩, below_two _ _ _⟩
          · have hjk' : ¬ (j : Int) < (wl.length : Int) := by omega
            have hdn : D = n := by rw [Hdv.out, List.drop_of_length_le (by omega)]; rfl
            clear Hdv
            subst hdn
            by_cases hn : D ≤ 1000000000
            · have hq2 : decide ((1000000000 : Int) < (D : Int)) = false := decide_eq_false (by omega)
              have hq4 : decide (1000000000 < D) = false := decide_eq_false (by omega)
              have Hbl : Hid (bd = lt) := hide (Hbd.out.2 (by omega))
              clear Hbd hn hn9
              rcases Hlet.out with ⟨hk0, _⟩ | ⟨hk0, c2, hc2, hlt0⟩
              · omega
              · have hc2' := hc2 (by omega)
                have hkk : (K : Int) < (L : Int) := by omega
                have hcc2 : c2 = cE := hc2'.symm.trans hcE'
                subst hcc2
                have cl := fun w => dLetter c2 w
                rw [hlt0] at cl
                clear hc2 hlt0 hc2'
                cases lt
                · go_wp2_with (go_at_call 26; refine (cl _).mono ?_; rintro e w1 ⟨rfl, hw⟩; obtain rfl := hw.symm)
                  refine bodyPost_ret (results_ctt rfl _ _ w.heap.size _ _ _ _ rfl (heap_first _ _ _) Tryd.underlying37 rfl infoTok) rfl ?_
                  rw [Hbl.out]
                  exact ⟨⟨0, rfl⟩, below_two _ _ _⟩
                · go_wp2_with (go_at_call 26; refine (cl _).mono ?_; rintro e w1 ⟨rfl, hw⟩; obtain rfl := hw.symm)
                  refine bodyPost_ret (results_ctt rfl _ _ w.heap.size _ _ _ _ rfl (heap_first _ _ _) Tryd.underlying37 rfl infoTok) rfl ?_
                  rw [Hbl.out]
                  exact ⟨⟨_, rfl⟩, below_two _ _ _⟩
            · have hq2 : decide ((1000000000 : Int) < (D : Int)) = true := decide_eq_true (by omega)
              have hq4 : decide (1000000000 < D) = true := decide_eq_true (by omega)
              have Hbl : Hid (bd = true) := hide (Hbd.out.1 (by omega))
              clear Hbd hn hn9
              go_wp2_with fail
              refine bodyPost_ret (results_ctt rfl _ _ w.heap.size _ _ _ _ rfl (heap_first _ _ _) Tryd.underlying37 rfl infoTok) rfl ?_
              rw [Hbl.out]
              exact ⟨⟨_, rfl⟩, below_two _ _ _⟩
set_option maxRecDepth 100000 in
set_option maxHeartbeats 4000000 in
theorem num_O_Y (s sw st : ByteArray) (L i K K2 : Nat) (b : UInt8) (lt : Bool) (w : World) (hL : L ≤ 140737488355328) (hsz : s.size = L) (hiK : i < K) (hKL : K ≤ L) (hb : By s i b) (Hdig : Hid (Digs s i K)) (Hend : Hid (Stop s L K isD)) (hxw : s.extract i K = sw) (hb48 : ((b.toNat : Int) == 48) = true) (hgt : ¬ i + 1 < K) (hK1 : K + 1 < L) (cK : UInt8) (hcK : By s K cK) (hcK46 : ((cK.toNat : Int) == 46) = true) (c1 : UInt8) (hc1 : By s (K + 1) c1) (hd1 : isD c1 = true) (hK2 : K + 1 < K2) (hK2L : K2 ≤ L) (Hdig2 : Hid (Digs s (K + 1) K2)) (Hend2 : Hid (Stop s L K2 isD)) (hxt : s.extract i K2 = st) (Hlet : Hid (Let s L K2 lt)) (tl : List UInt8) (htl : (⟨tl.toArray⟩ : ByteArray) = st) :
    Calls Tryd.prog 46 #[.string s, .int .i64 (i : Int)] w fun e w' => (∃ x, e = .returned (numV lt (tokV 3 tl 0 0 0 0) K2 x)) ∧ Below w.heap.size w w' := by
  have hu : i < K := hiK
  clear hu
  have hb0 := hb (by omega)
  have hiL : (i : Int) < (L : Int) := by omega
  have hgt' : ¬ (i : Int) + 1 < (K : Int) := by omega
  have hK1' : (K : Int) + 1 < (L : Int) := by omega
  have hcK' := hcK (by omega)
  have hc1' := hc1 (by omega)
  have cd1 := fun w => dDigit c1 w
  rw [hd1] at cd1
  have Htl := hide htl
  clear hb hcK hc1 hd1 htl
  go_enter Tryd.func46, Tryd.ntmps46
  go_wp2_with fail
  go_loopw [7] (fun x wz => wz = w.alloc (.cells #[.int .i64 0, .string ⟨#[]⟩, .int .i64 0, .int .i64 0, .int .i64 0, .int .i64 0] 37) ∧ ∃ j : Nat, i ≤ j ∧ j ≤ K ∧ x = .int .i64 (j : Int)) (fun x _ => K - (RowKit.intOf x).toNat)
  case atStart => exact ⟨rfl, i, Nat.le_refl _, by omega, rfl⟩
  case round =>
    rcases hrel with ⟨rfl, j, h1j, h2j, rfl⟩
    by_cases hjk : j < K
    · obtain ⟨c, hc1, hc2⟩ := Hdig.out j h1j hjk
      have hcj := hc1 (by omega)
      have hjL : (j : Int) < (L : Int) := by omega
      have cd := fun w => dDigit c w
      rw [hc2] at cd
      clear hc1 hc2
      go_wp2_with (go_at_call 27; refine (cd _).mono ?_; rintro e w1 ⟨rfl, hw⟩; obtain rfl := hw.symm)
      exact ⟨⟨trivial, j + 1, by omega, by omega, by go_num⟩, by simp [RowKit.intOf]; omega⟩
    · obtain rfl : K = j := by omega
      clear hjk h1j h2j
      rcases Hend.out with hE | ⟨hE, cE, hcE, hdE⟩
      · omega
      · have hE' : (K : Int) < (L : Int) := by omega
        have hcE' := hcE (by omega)
        have cz := fun w => dDigit cE w
        rw [hdE] at cz
        have hcc : cE = cK := hcE'.symm.trans hcK'
        subst hcc
        clear hcK' hcE hdE
        go_wp2_with (first | (go_at_call 27; (with_reducible refine (cz _).mono ?_); rintro e w1 ⟨rfl, hw⟩; obtain rfl := hw.symm) | (go_at_call 27; (with_reducible refine (cd1 _).mono ?_); rintro e w1 ⟨rfl, hw⟩; obtain rfl := hw.symm))
        go_loopw [7] (fun x wz => wz = (w.alloc (.cells #[.int .i64 0, .string ⟨#[]⟩, .int .i64 0, .int .i64 0, .int .i64 0, .int .i64 0] 37)).alloc (.cells #[.int .i64 3, .string ⟨#[]⟩, .int .i64 0, .int .i64 0, .int .i64 0, .int .i64 0] 37) ∧ ∃ j : Nat, K + 1 ≤ j ∧ j ≤ K2 ∧ x = .int .i64 (j : Int)) (fun x _ => K2 - (RowKit.intOf x).toNat)
        case atStart => exact ⟨rfl, K + 1, Nat.le_refl _, by omega, by go_num⟩
        case round =>
          rcases hrel with ⟨rfl, j, h1j, h2j, rfl⟩
          by_cases hjk : j < K2
          · obtain ⟨c, hc1, hc2⟩ := Hdig2.out j h1j hjk
            have hcj := hc1 (by omega)
            have hjL : (j : Int) < (L : Int) := by omega
            have cd := fun w => dDigit c w
            rw [hc2] at cd
            clear hc1 hc2
            go_wp2_with (go_at_call 27; refine (cd _).mono ?_; rintro e w1 ⟨rfl, hw⟩; obtain rfl := hw.symm)
            exact ⟨⟨trivial, j + 1, by omega, by omega, by go_num⟩, by simp [RowKit.intOf]; omega⟩
          · obtain rfl : K2 = j := by omega
            clear hjk h1j h2j
            rcases Hend2.out with hE2 | ⟨hE2, c3, hc3, hd3⟩
            · have hE2' : ¬ (K2 : Int) < (L : Int) := by omega
              rcases Hlet.out with ⟨-, hlt0⟩ | ⟨hk0, _⟩
              · subst hlt0
                clear hE2
                go_wp2_with fail
                refine bodyPost_ret (results_ctt rfl _ _ w.heap.size _ _ _ _ rfl (heap_first _ _ _) Tryd.underlying37 rfl infoTok) rfl ?_
                refine ⟨⟨0, ?_⟩, below_two _ _ _⟩
                rw [numV, if_neg (by simp), tokV, Htl.out]
                rfl
              · omega
            · have hE2' : (K2 : Int) < (L : Int) := by omega
              have hc3' := hc3 (by omega)
              have cz3 := fun w => dDigit c3 w
              rw [hd3] at cz3
              clear hc3 hd3
              rcases Hlet.out with ⟨hk0, _⟩ | ⟨hk0, c2, hc2, hlt0⟩
              · omega
              · have hc2' := hc2 (by omega)
                have hcc : c2 = c3 := hc2'.symm.trans hc3'
                subst hcc
                have cl := fun w => dLetter c2 w
                rw [hlt0] at cl
                clear hc2 hlt0 hc2'
                cases lt
                · go_wp2_with (first | (go_at_call 27; refine (cz3 _).mono ?_; rintro e w1 ⟨rfl, hw⟩; obtain rfl := hw.symm) | (go_at_call 26; refine (cl _).mono ?_; rintro e w1 ⟨rfl, hw⟩; obtain rfl := hw.symm))
                  refine bodyPost_ret (results_ctt rfl _ _ w.heap.size _ _ _ _ rfl (heap_first _ _ _) Tryd.underlying37 rfl infoTok) rfl ?_
                  refine ⟨⟨0, ?_⟩, below_two _ _ _⟩
                  rw [numV, if_neg (by simp), tokV, Htl.out]
                  rfl
                · go_wp2_with (first | (go_at_call 27; refine (cz3 _).mono ?_; rintro e w1 ⟨rfl, hw⟩; obtain rfl := hw.symm) | (go_at_call 26; refine (cl _).mono ?_; rintro e w1 ⟨rfl, hw⟩; obtain rfl := hw.symm))
                  refine bodyPost_ret (results_ctt rfl _ _ w.heap.size _ _ _ _ rfl (heap_first _ _ _) Tryd.underlying37 rfl infoTok) rfl ?_
                  exact ⟨⟨_, rfl⟩, below_two _ _ _⟩
end Go.Proofs.YtinbbcojilogeaaDoor.Tok
