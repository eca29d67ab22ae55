import Derived.Test.YtnghfdnlcnocjaaGreatDoorEc7f0558e
import Derived.Lib.AppendIntMem
import Derived.Lib.ItoaLen
import Derived.Shelf.Strings.OnBuilder
set_option maxRecDepth 100000
set_option maxHeartbeats 2000000
namespace Go.Proofs.YtnghfdnlcnocjaaGreatDoor.Tok
open Go.RowKit Go.Shelf Go.Proofs.YtnghfdnlcnocjaaGreatDoor.Oct
def wholeB (l : List UInt8) (kd : Int) (tx : List UInt8) (nm : Int) : Bool := match cut l with
  | .tok k t v n => n == l.length && ((k : Int) == kd && t == tx && (v : Int) == nm)
  | .bad _ => false
def T10 (w : World) : Prop := Lib.TabIs Tryz.prog w "internal/strconv.uint64pow10" .u64 Lib.pow10Tab
theorem T10.below {w w' : World} (h : T10 w) (hb : Below w.heap.size w w') : T10 w' := Lib.tabBelow_of_tabIs h w' hb
structure Tx (w : World) : Prop where
  tw : Tw w
  ten : T10 w
theorem Tx.below {w w' : World} (h : Tx w) (hb : Below w.heap.size w w') : Tx w' := ⟨h.tw.below hb, h.ten.below hb⟩
theorem below_grow (w : World) (k : Nat) (os : Array Obj) : Below w.heap.size w (Go.Sort.grow (w.drewN k) os) := by
  refine ⟨rfl, rfl, rfl, ?_, ?_⟩
  . show w.heap.size <= (w.heap ++ os).size
    rw [Array.size_append]
    omega
  . intro i hi
    show (w.heap ++ os)[i]? = w.heap[i]?
    rw [Array.getElem?_append_left hi]
theorem nItoa (n : Int) (h0 : -9223372036854775808 <= n) (h1 : n <= 9223372036854775807) (w : World) (h : T10 w) :
    Calls Tryz.prog 65 #[.int .i64 n] w fun e w' => e = .returned (.string ⟨(Lib.itoa n).toArray⟩) /\ Below w.heap.size w w' :=
  (Any.strconv_Itoa Tryz.laysItoa n h0 h1 w h).mono fun _ _ ⟨he, k, os, hw⟩ => ⟨he, hw ▸ below_grow w k os⟩
def draftL (kd : Int) (tx : List UInt8) (nm : Int) : List UInt8 := if kd = 2 then Lib.itoa nm else if kd = 4 then 34 :: (tx ++ [34]) else tx
theorem cat_str (a b : List UInt8) : (⟨a.toArray⟩ : ByteArray) ++ ⟨b.toArray⟩ = ⟨(a ++ b).toArray⟩ := by
  apply ByteArray.ext
  simp
theorem draftL_len (kd nm : Int) (tx : List UInt8) (h0 : -9223372036854775808 <= nm) (h1 : nm <= 9223372036854775807) : (draftL kd tx nm).length <= tx.length + 21 := by
  have := Lib.itoa_length_le nm h0 h1
  unfold draftL
  split
  . omega
  . split
    . simp
    . omega
def writeR (kd : Int) (tx : List UInt8) (nm : Int) : Option (List UInt8) := if wholeB (draftL kd tx nm) kd tx nm then some (draftL kd tx nm) else none
end Go.Proofs.YtnghfdnlcnocjaaGreatDoor.Tok
namespace Go.Proofs
open Go.Shelf
def Tryz.laysJoin_ren : Go.Shelf.Ren := ⟨fun | 156 => 36 | 165 => 67 | 166 => 68 | 169 => 69 | 240 => 98 | 241 => 99 | 276 => 124 | 277 => 125 | n => n, fun | 31 => 82 | 9 => 9 | 3 => 3 | 4 => 4 | 0 => 0 | 20 => 20 | 72 => 125 | 76 => 126 | 70 => 122 | 37 => 123 | 75 => 73 | 127 => 162 | 164 => 103 | 5 => 5 | 80 => 128 | n => n, fun | n => n⟩
theorem Tryz.laysJoin : Go.Proofs.Lays.n156 Tryz.prog Tryz.laysJoin_ren := {
  mixed := by kernel_rfl
  f156 := Tryz.func36.trans (congrArg some (by kernel_rfl))
  f165 := Tryz.func67.trans (congrArg some (by kernel_rfl))
  f166 := Tryz.func68.trans (congrArg some (by kernel_rfl))
  f169 := Tryz.func69.trans (congrArg some (by kernel_rfl))
  f240 := Tryz.func98.trans (congrArg some (by kernel_rfl))
  f241 := Tryz.func99.trans (congrArg some (by kernel_rfl))
  f276 := Tryz.func124.trans (congrArg some (by kernel_rfl))
  f277 := Tryz.func125.trans (congrArg some (by kernel_rfl))
  t0 := Tryz.underlying0
  a0 := Tryz.isAgg0
  z0 := Tryz.sizeOf0
  v0 := Tryz.zeroValue0
  t3 := Tryz.underlying3
  a3 := Tryz.isAgg3
  z3 := Tryz.sizeOf3
  v3 := Tryz.zeroValue3
  t4 := Tryz.underlying4
  a4 := Tryz.isAgg4
  z4 := Tryz.sizeOf4
  v4 := Tryz.zeroValue4
  t9 := Tryz.underlying9
  a9 := Tryz.isAgg9
  z9 := Tryz.sizeOf9
  v9 := Tryz.zeroValue9
  t20 := Tryz.underlying20
  a20 := Tryz.isAgg20
  z20 := Tryz.sizeOf20
  v20 := Tryz.zeroValue20
  t31 := Tryz.underlying82
  a31 := Tryz.isAgg82
  z31 := Tryz.sizeOf82
  v31 := Tryz.zeroValue82
  t37 := Tryz.underlying123
  a37 := Tryz.isAgg123
  z37 := Tryz.sizeOf123
  v37 := Tryz.zeroValue123
  t70 := Tryz.underlying122
  a70 := Tryz.isAgg122
  z70 := Tryz.sizeOf122
  v70 := Tryz.zeroValue122
  t72 := Tryz.underlying125
  a72 := Tryz.isAgg125
  z72 := Tryz.sizeOf125
  v72 := Tryz.zeroValue125
  t75 := Tryz.underlying73
  a75 := Tryz.isAgg73
  z75 := Tryz.sizeOf73
  v75 := Tryz.zeroValue73
  t76 := Tryz.underlying126
  a76 := Tryz.isAgg126
  z76 := Tryz.sizeOf126
  v76 := Tryz.zeroValue126
  t127 := Tryz.underlying162
  a127 := Tryz.isAgg162
  z127 := Tryz.sizeOf162
  v127 := Tryz.zeroValue162
  t164 := Tryz.underlying103
  a164 := Tryz.isAgg103
  z164 := Tryz.sizeOf103
  v164 := Tryz.zeroValue103 }
end Go.Proofs
namespace Go.Proofs.YtnghfdnlcnocjaaGreatDoor.Tok
open Go.RowKit Go.Shelf Go.Proofs.YtnghfdnlcnocjaaGreatDoor.Oct
theorem Tryd_extra : Builder.Extra Tryz.prog Tryz.laysJoin_ren where
  sizeBuilder := by kernel_rfl
  liesBuilder := by kernel_rfl
  t5 := Tryz.underlying5
  a5 := Tryz.isAgg5
  z5 := Tryz.sizeOf5
  v5 := Tryz.zeroValue5
  infoByte := by kernel_rfl
  cellsByte := by kernel_rfl
  sizeByte := by kernel_rfl
  neB5 := by decide
structure TA where
  kd : Int
  tx : List UInt8
  nm : Int
  o1 : Int
  o2 : Int
  o3 : Int
def TA.val (t : TA) : Value := .agg #[.int .i64 t.kd, .string ⟨t.tx.toArray⟩, .int .i64 t.nm, .int .i64 t.o1, .int .i64 t.o2, .int .i64 t.o3]
def TA.cells (t : TA) : List Value := [.int .i64 t.kd, .string ⟨t.tx.toArray⟩, .int .i64 t.nm, .int .i64 t.o1, .int .i64 t.o2, .int .i64 t.o3]
def Ta (w : World) (ao : Option Addr) (ts : List TA) : Prop := ∀ j t, ts[j]? = some t -> ∃ g off, ao = some ⟨g, off, none⟩ /\ ∀ i v, t.cells[i]? = some v -> w.cell? ⟨g, off + j * 6 + i, none⟩ = some v
theorem Ta.below {w w' : World} {ao : Option Addr} {ts : List TA} (h : Ta w ao ts) (hb : Below w.heap.size w w') : Ta w' ao ts := by
  intro j t hj
  obtain ⟨g, off, e, hc⟩ := h j t hj
  exact ⟨g, off, e, fun i v hv => cell_below (hc i v hv) hb⟩
def in64 (z : Int) : Prop := -9223372036854775808 <= z /\ z <= 9223372036854775807
def TA.wr (t : TA) : Option (List UInt8) := writeR t.kd t.tx t.nm
theorem wr_len (t : TA) (h : in64 t.nm) (s : List UInt8) (hs : t.wr = some s) : s.length <= t.tx.length + 21 := by
  unfold TA.wr writeR at hs
  split at hs
  . cases hs; exact draftL_len _ _ _ h.1 h.2
  . cases hs
end Go.Proofs.YtnghfdnlcnocjaaGreatDoor.Tok
namespace Go.Proofs.YtnghfdnlcnocjaaGreatDoor.Cir
open Go.RowKit Go.Shelf Go.Proofs.YtnghfdnlcnocjaaGreatDoor.Oct Go.Proofs.YtnghfdnlcnocjaaGreatDoor.Tok Go.Proofs.YtnghfdnlcnocjaaGreatDoor.Gt
theorem sJoinS (sep : List UInt8) (bk c : Nat) (xs : List (List UInt8)) (w : World) (hcells : ∀ (j : Nat) x, xs[j]? = some x -> w.cell? ⟨bk, j, none⟩ = some (.string ⟨x.toArray⟩)) (hbk : bk < w.heap.size) (hN : xs.length <= 140737488355328) (hcap : xs.length <= c)
    (hlen : (Lib.join xs sep).length <= 140737488355328) :
    Calls Tryz.prog 36 #[.slice (some ⟨bk, 0, none⟩) xs.length c, .string ⟨sep.toArray⟩] w fun e w' => e = .returned (.string ⟨(Lib.join xs sep).toArray⟩) /\ Below w.heap.size w w' := by
  have e : (xs.map fun x => (⟨x.toArray⟩ : ByteArray)).map (·.data.toList) = xs := by rw [List.map_map]; exact (List.map_congr_left (fun a _ => rfl)).trans (List.map_id _)
  have h := Any.strings_Join Tryz.laysJoin Tryd_extra bk 0 c (xs.map fun x => ⟨x.toArray⟩) ⟨sep.toArray⟩ w (by
    intro j x hx
    rw [List.getElem?_map] at hx
    obtain ⟨y, hy, rfl⟩ := Option.map_eq_some_iff.1 hx
    rw [Nat.zero_add]
    exact hcells j y hy) hbk (by rw [List.length_map]; exact hN) (by rw [List.length_map]; exact hcap) (by rw [e]; exact hlen)
  rw [e, List.length_map] at h
  exact h
def elP (r : UInt8) (i : Int) : List UInt8 := [r] ++ [91] ++ Lib.itoa i ++ [93]
theorem cElement (r : UInt8) (i : Int) (h0 : -9223372036854775808 <= i) (h1 : i <= 9223372036854775807) (w : World) (hT : T10 w) : Calls Tryz.prog 34 #[.string ⟨#[r]⟩, .int .i64 i] w fun e w' => e = .returned (.string ⟨(elP r i).toArray⟩) /\ Below w.heap.size w w' := by
  have c1 := fun V (h : Below w.heap.size w V) => nItoa i h0 h1 V (hT.below h)
  have hil : (Lib.itoa i).length <= 21 := Lib.itoa_length_le i h0 h1
  have e1 : (⟨#[r]⟩ : ByteArray) ++ ⟨#[91]⟩ = ⟨[r, 91].toArray⟩ := cat_str [r] [91]
  have e2 := cat_str [r, 91] (Lib.itoa i)
  have e3 : (⟨([r, 91] ++ Lib.itoa i).toArray⟩ : ByteArray) ++ ⟨#[93]⟩ = ⟨(elP r i).toArray⟩ := cat_str ([r, 91] ++ Lib.itoa i) [93]
  have z0 : (⟨#[r]⟩ : ByteArray).size = 1 := rfl
  have z1 := ba_size [r, 91]
  have z2 := ba_size (Lib.itoa i)
  have z3 := ba_size ([r, 91] ++ Lib.itoa i)
  rw [List.length_append] at z3
  simp only [List.length_cons, List.length_nil] at z1 z3
  generalize (⟨#[r]⟩ : ByteArray) = sr at *
  generalize (⟨[r, 91].toArray⟩ : ByteArray) = s1 at *
  generalize (⟨([r, 91] ++ Lib.itoa i).toArray⟩ : ByteArray) = s2 at *
  generalize (⟨(Lib.itoa i).toArray⟩ : ByteArray) = ib at *
  generalize (⟨(elP r i).toArray⟩ : ByteArray) = eb at *
  generalize (Lib.itoa i).length = il at *
  go_enter Tryz.func34, Tryz.ntmps34
  go_wp2_with (first | (go_at_call 65; refine (c1 _ (Below.refl _ _)).mono ?_; rintro e w1 ⟨rfl, hb1⟩))
  go_ret
  exact ⟨rfl, hb1⟩
theorem infoStr8 : (Tryz.prog.info? 9).map (fun i => (i.zero, i.size, i.bytes)) = some (some (.string ⟨#[]⟩), 1, 16) := by kernel_rfl
theorem make_st (n : Nat) (hn : n <= 1000000) (w : World) : (Instr.makeSlice 82 (.int .i64 (n : Int)) (.int .i64 (n : Int))).run Tryz.prog w = .ok (.slice (some ⟨w.heap.size, 0, none⟩) n n) (w.alloc (.cells (madeCells #[.string ⟨#[]⟩] n) 9)) :=
  run_make_row' 82 9 (.string ⟨#[]⟩) 16 Tryz.underlying82 infoStr8 rfl .i64 .i64 n (by omega) (by omega) w
def agP (qs : List Int) : List UInt8 := Lib.join (qs.map (elP 113)) [44, 32]
def wrP (o : COp) : List UInt8 :=
  if o.kind = 2 then [109, 101, 97, 115, 117, 114, 101, 32] ++ agP o.qs ++ [32, 45, 62, 32] ++ elP 99 o.bit
  else if o.kind = 3 then [114, 101, 115, 101, 116, 32] ++ agP o.qs
  else if o.kind = 4 then [98, 97, 114, 114, 105, 101, 114, 32] ++ agP o.qs
  else if o.cond = -1 then (rw' o.gate).nm ++ [32] ++ agP o.qs
  else [105, 102, 32, 40] ++ elP 99 o.cond ++ [32, 61, 61, 32] ++ Lib.itoa o.whn ++ [41, 32] ++ ((rw' o.gate).nm ++ [32] ++ agP o.qs)
theorem join_le (sep : List UInt8) (k : Nat) : ∀ xs : List (List UInt8), (∀ x ∈ xs, x.length <= k) -> (Lib.join xs sep).length <= xs.length * (k + sep.length)
  | [], _ => Nat.zero_le _
  | [x], h => by
    have := h x (by simp)
    simp [Lib.join, List.intercalate]
    omega
  | x :: y :: r, h => by
    have h1 := h x (by simp)
    have h2 := join_le sep k (y :: r) (fun z hz => h z (by simp [hz]))
    have e : Lib.join (x :: y :: r) sep = x ++ sep ++ Lib.join (y :: r) sep := by simp [Lib.join, List.intercalate]
    rw [e, List.length_append, List.length_append]
    have e2 : (x :: y :: r).length * (k + sep.length) = (y :: r).length * (k + sep.length) + (k + sep.length) := by rw [List.length_cons, Nat.succ_mul]
    omega
theorem elP_len (r : UInt8) (i : Int) (h0 : -9223372036854775808 <= i) (h1 : i <= 9223372036854775807) : (elP r i).length <= 24 := by
  have := Lib.itoa_length_le i h0 h1
  unfold elP
  simp
  omega
def elF (qs : List Int) (i j : Nat) : Value := if j < i then .string ⟨(elP 113 (qs.getD j 0)).toArray⟩ else .string ⟨#[]⟩
theorem elF_succ (qs : List Int) (i : Nat) (z : Int) (h : qs[i]? = some z) : (fun j => if j = i then Value.string ⟨(elP 113 z).toArray⟩ else elF qs i j) = elF qs (i + 1) := by
  funext j
  unfold elF
  by_cases e : j = i
  . subst e
    rw [if_pos rfl, if_pos (by omega)]
    simp [List.getD, h]
  . rw [if_neg e]
    by_cases h2 : j < i
    . rw [if_pos h2, if_pos (by omega)]
    . rw [if_neg h2, if_neg (by omega)]
theorem nm_len (g : Int) : (rw' g).nm.length <= 20 := by
  unfold rw'
  split
  . rename_i h
    have key : ∀ j : Fin 21, (tab.getD j.1 r0).nm.length <= 20 := by decide +kernel
    have := key ⟨g.toNat, by omega⟩
    simpa using this
  . decide
def In64 (z : Int) : Prop := -9223372036854775808 <= z /\ z <= 9223372036854775807
theorem cWritten (o : COp) (aq : Option Addr) (cq : Nat) (hl : o.qs.length <= 1000000) (hq : ∀ z ∈ o.qs, In64 z) (hb : In64 o.bit) (hc : In64 o.cond) (hw : In64 o.whn) (hk : o.kind = 2 ∨ o.kind = 3 ∨ o.kind = 4 ∨ o.cond = -1) (w : World) (hT : Tb w) (h10 : T10 w) (hN : Ns w aq o.qs) :
    Calls Tryz.prog 35 #[opV o aq cq] w fun e w' => e = .returned (.string ⟨(wrP o).toArray⟩) /\ Below w.heap.size w w' := by
  have hmk := fun W => make_st o.qs.length hl W
  have HQ := hide hq
  have HN := hide hN
  have H10 := hide h10
  have hal : (agP o.qs).length <= 26000000 := by
    have := join_le [44, 32] 24 (o.qs.map (elP 113)) (fun x hx => by
      obtain ⟨z, hz, rfl⟩ := List.mem_map.1 hx
      exact elP_len 113 z (hq z hz).1 (hq z hz).2)
    unfold agP
    rw [List.length_map] at this
    simp only [List.length_cons, List.length_nil] at this
    omega
  have cB := fun V (h : Below w.heap.size w V) => cElement 99 o.bit hb.1 hb.2 V (h10.below h)
  have cN := fun V (h : Below w.heap.size w V) => gName o.gate V (hT.below h)
  obtain ⟨R, hR⟩ : ∃ R, wrP o = R := ⟨_, rfl⟩
  rw [hR]
  unfold wrP at hR
  have HR := hide hR
  have hnl := nm_len o.gate
  have hbl := elP_len 99 o.bit hb.1 hb.2
  obtain ⟨kind, gate, qs, bit, cond, whn⟩ := o
  unfold opV
  simp only at *
  obtain ⟨n, hn⟩ : ∃ n, qs.length = n := ⟨_, rfl⟩
  have HL := hide hn
  rw [hn] at hmk hl ⊢
  clear hR hq hb hc hw hn hN h10
  go_enter Tryz.func35, Tryz.ntmps35
  go_wp2_with fail
  have hR0 := (rk_mk (w.alloc (.cells #[.int .i64 kind, .int .i64 gate, .slice aq n cq, .int .i64 bit, .int .i64 cond, .int .i64 whn] 34)) n 9 (.string ⟨#[]⟩)).congr (f' := elF qs 0) (fun j _ => by unfold elF; simp)
  rw [World.size_alloc] at hR0
  have hop : ((w.alloc (.cells #[.int .i64 kind, .int .i64 gate, .slice aq n cq, .int .i64 bit, .int .i64 cond, .int .i64 whn] 34)).alloc (.cells (madeCells #[.string ⟨#[]⟩] n) 9)).heap[w.heap.size]? = some (.cells #[.int .i64 kind, .int .i64 gate, .slice aq n cq, .int .i64 bit, .int .i64 cond, .int .i64 whn] 34 (0, 0)) := (Below.heap_alloc _ _ _ (by simp)).trans (heap_alloc_new _ _)
  have HR0 := hide hR0
  have HOP := hide hop
  clear hR0 hop
  go_loopw [4, 5, 15] (fun _ _ vi wr => ∃ i : Nat, vi = .int .i64 (i : Int) /\ i <= n /\ Rk wr (w.heap.size + 1) 9 n (elF qs i) /\ wr.heap[w.heap.size]? = some (.cells #[.int .i64 kind, .int .i64 gate, .slice aq n cq, .int .i64 bit, .int .i64 cond, .int .i64 whn] 34 (0, 0)) /\ Below w.heap.size w wr) (fun _ _ vi _ => n - (Go.RowKit.intOf vi).toNat)
  case atStart => exact ⟨0, rfl, Nat.zero_le _, HR0.out, HOP.out, (bnew _ _).trans ((bnew _ _).mono (by simp))⟩
  case round =>
    clear HR0 HOP
    obtain ⟨i, rfl, hi, hRk, hop, hbe⟩ := hrel
    have hlr := hRk.lt
    by_cases h : i < n
    . have hd : decide ((i : Int) < (n : Int)) = true := decide_eq_true (by omega)
      obtain ⟨z, hz⟩ : ∃ z, qs[i]? = some z := ⟨_, List.getElem?_eq_getElem (by rw [HL.out]; exact h)⟩
      obtain ⟨g, off, rfl, hcs⟩ := (HN.out.below hbe).resolve_left (fun e => by rw [e] at hz; simp at hz)
      have hcell := hcs i z hz
      have hin := HQ.out z (List.mem_of_getElem? hz)
      have c1 := cElement 113 z hin.1 hin.2 wr (H10.out.below hbe)
      have HSt : Hid (∀ V, Below wr.heap.size wr V -> V.cell? ⟨w.heap.size + 1, i, none⟩ = some (.string ⟨#[]⟩) /\ V.frozen? ⟨w.heap.size + 1, i, none⟩ = false /\ Rk (V.setCell ⟨w.heap.size + 1, i, none⟩ (.string ⟨(elP 113 z).toArray⟩)) (w.heap.size + 1) 9 n (elF qs (i + 1)) /\ (V.setCell ⟨w.heap.size + 1, i, none⟩ (.string ⟨(elP 113 z).toArray⟩)).heap[w.heap.size]? = some (.cells #[.int .i64 kind, .int .i64 gate, .slice (some ⟨g, off, none⟩) n cq, .int .i64 bit, .int .i64 cond, .int .i64 whn] 34 (0, 0)) /\ Below w.heap.size w (V.setCell ⟨w.heap.size + 1, i, none⟩ (.string ⟨(elP 113 z).toArray⟩))) := hide (fun V hV => by
        have hr := hRk.below hV
        refine ⟨(hr.cell i h).trans (by unfold elF; rw [if_neg (by omega)]), hr.frozen i, ?_, ?_, (hbe.trans (hV.mono hbe.size)).setCell (p := ⟨w.heap.size + 1, i, none⟩) (by simp) _⟩
        . rw [← elF_succ qs i z hz]
          exact hr.set i _
        . exact (Below.heap_setCell _ _ _ _ (by simp)).trans ((hV.block _ (by omega)).trans hop))
      have hkk : (i : Int) < (n : Int) := by omega
      clear hcs hz hRk hop
      generalize (⟨(elP 113 z).toArray⟩ : ByteArray) = eb at *
      go_wp2_with (first | (go_at_call 34; refine c1.mono ?_; rintro e w2 ⟨rfl, hb2⟩; obtain ⟨v1, v2, v3, v4, v5⟩ := HSt.out w2 hb2; have hz2 := hb2.size))
      go_roundw
      case rel => exact ⟨i + 1, by go_num, by omega, v3, v4, v5⟩
      case measure => simp [Go.RowKit.intOf]; omega
    . obtain rfl : n = i := by omega
      have cJ := sJoinS [44, 32] (w.heap.size + 1) n (qs.map (elP 113)) wr (fun j x hx => by
        rw [List.getElem?_map] at hx
        obtain ⟨z, hz, rfl⟩ := Option.map_eq_some_iff.1 hx
        have hj : j < n := by rw [← HL.out]; exact (List.getElem?_eq_some_iff.1 hz).1
        refine (hRk.cell j hj).trans ?_
        unfold elF
        rw [if_pos hj]
        simp [List.getD, hz]) hlr (by rw [List.length_map, HL.out]; omega) (by rw [List.length_map, HL.out]; exact Nat.le_refl _) (show (agP qs).length <= _ by omega)
      rw [List.length_map, HL.out] at cJ
      have cJ' : Calls Tryz.prog 36 #[.slice (some ⟨w.heap.size + 1, 0, none⟩) n n, .string ⟨#[44, 32]⟩] wr fun e w' => e = .returned (.string ⟨(agP qs).toArray⟩) /\ Below wr.heap.size wr w' := cJ
      clear cJ hRk
      have hza := ba_size (agP qs)
      have hzn := ba_size (rw' gate).nm
      have hzb := ba_size (elP 99 bit)
      by_cases k2 : kind = 2
      . subst k2
        have e1 : (⟨#[109, 101, 97, 115, 117, 114, 101, 32]⟩ : ByteArray) ++ ⟨(agP qs).toArray⟩ = ⟨([109, 101, 97, 115, 117, 114, 101, 32] ++ agP qs).toArray⟩ := cat_str [109, 101, 97, 115, 117, 114, 101, 32] (agP qs)
        have e2 : (⟨([109, 101, 97, 115, 117, 114, 101, 32] ++ agP qs).toArray⟩ : ByteArray) ++ ⟨#[32, 45, 62, 32]⟩ = ⟨([109, 101, 97, 115, 117, 114, 101, 32] ++ agP qs ++ [32, 45, 62, 32]).toArray⟩ := cat_str ([109, 101, 97, 115, 117, 114, 101, 32] ++ agP qs) [32, 45, 62, 32]
        have e3 : (⟨([109, 101, 97, 115, 117, 114, 101, 32] ++ agP qs ++ [32, 45, 62, 32]).toArray⟩ : ByteArray) ++ ⟨(elP 99 bit).toArray⟩ = ⟨R.toArray⟩ := (cat_str _ _).trans (by rw [← HR.out]; rfl)
        have s1 := ba_size ([109, 101, 97, 115, 117, 114, 101, 32] ++ agP qs)
        have s2 := ba_size ([109, 101, 97, 115, 117, 114, 101, 32] ++ agP qs ++ [32, 45, 62, 32])
        simp only [List.length_append, List.length_cons, List.length_nil] at s1 s2
        generalize (⟨([109, 101, 97, 115, 117, 114, 101, 32] ++ agP qs ++ [32, 45, 62, 32]).toArray⟩ : ByteArray) = b2 at *
        generalize (⟨([109, 101, 97, 115, 117, 114, 101, 32] ++ agP qs).toArray⟩ : ByteArray) = b1 at *
        generalize (⟨(agP qs).toArray⟩ : ByteArray) = ab at *
        generalize (⟨(elP 99 bit).toArray⟩ : ByteArray) = bb at *
        generalize hrb : (⟨R.toArray⟩ : ByteArray) = rb at e3
        have HRB := hide hrb
        clear hrb
        go_wp2_with (first
          | (go_at_call 36; refine cJ'.mono ?_; rintro e w2 ⟨rfl, hb2⟩; have hop2 := (hb2.block w.heap.size (by omega)).trans hop; obtain ⟨y0, y1, y2, y3, y4, y5, y6⟩ := op6_cells hop2; have hw2 := Below.trans hbe (hb2.mono hbe.size))
          | (go_at_call 34; refine (cB _ hw2).mono ?_; rintro e w3 ⟨rfl, hb3⟩))
        go_ret
        exact ⟨by rw [HRB.out]; rfl, hw2.trans (hb3.mono hw2.size)⟩
      have n2 : (kind == 2) = false := by simpa using k2
      by_cases k3 : kind = 3
      . subst k3
        have e1 : (⟨#[114, 101, 115, 101, 116, 32]⟩ : ByteArray) ++ ⟨(agP qs).toArray⟩ = ⟨R.toArray⟩ := (cat_str [114, 101, 115, 101, 116, 32] (agP qs)).trans (by rw [← HR.out]; rfl)
        generalize (⟨(agP qs).toArray⟩ : ByteArray) = ab at *
        generalize hrb : (⟨R.toArray⟩ : ByteArray) = rb at e1
        have HRB := hide hrb
        clear hrb
        go_wp2_with (first
          | (go_at_call 36; refine cJ'.mono ?_; rintro e w2 ⟨rfl, hb2⟩; have hop2 := (hb2.block w.heap.size (by omega)).trans hop; obtain ⟨y0, y1, y2, y3, y4, y5, y6⟩ := op6_cells hop2; have hw2 := Below.trans hbe (hb2.mono hbe.size)))
        go_ret
        exact ⟨by rw [HRB.out]; rfl, hw2⟩
      have n3 : (kind == 3) = false := by simpa using k3
      by_cases k4 : kind = 4
      . subst k4
        have e1 : (⟨#[98, 97, 114, 114, 105, 101, 114, 32]⟩ : ByteArray) ++ ⟨(agP qs).toArray⟩ = ⟨R.toArray⟩ := (cat_str [98, 97, 114, 114, 105, 101, 114, 32] (agP qs)).trans (by rw [← HR.out]; rfl)
        generalize (⟨(agP qs).toArray⟩ : ByteArray) = ab at *
        generalize hrb : (⟨R.toArray⟩ : ByteArray) = rb at e1
        have HRB := hide hrb
        clear hrb
        go_wp2_with (first
          | (go_at_call 36; refine cJ'.mono ?_; rintro e w2 ⟨rfl, hb2⟩; have hop2 := (hb2.block w.heap.size (by omega)).trans hop; obtain ⟨y0, y1, y2, y3, y4, y5, y6⟩ := op6_cells hop2; have hw2 := Below.trans hbe (hb2.mono hbe.size)))
        go_ret
        exact ⟨by rw [HRB.out]; rfl, hw2⟩
      have n4 : (kind == 4) = false := by simpa using k4
      have hcd : cond = -1 := by
        rcases hk with h | h | h | h
        . exact absurd h k2
        . exact absurd h k3
        . exact absurd h k4
        . exact h
      subst hcd
      have e1 : (⟨(rw' gate).nm.toArray⟩ : ByteArray) ++ ⟨#[32]⟩ = ⟨((rw' gate).nm ++ [32]).toArray⟩ := cat_str (rw' gate).nm [32]
      have e2 : (⟨((rw' gate).nm ++ [32]).toArray⟩ : ByteArray) ++ ⟨(agP qs).toArray⟩ = ⟨R.toArray⟩ := (cat_str _ _).trans (by rw [← HR.out, if_neg k2, if_neg k3, if_neg k4, if_pos rfl])
      have s1 := ba_size ((rw' gate).nm ++ [32])
      simp only [List.length_append, List.length_cons, List.length_nil] at s1
      generalize (⟨((rw' gate).nm ++ [32]).toArray⟩ : ByteArray) = b1 at *
      generalize (⟨(rw' gate).nm.toArray⟩ : ByteArray) = nb at *
      generalize (⟨(agP qs).toArray⟩ : ByteArray) = ab at *
      generalize hrb : (⟨R.toArray⟩ : ByteArray) = rb at e2
      have HRB := hide hrb
      clear hrb
      go_wp2_with (first
        | (go_at_call 36; refine cJ'.mono ?_; rintro e w2 ⟨rfl, hb2⟩; have hop2 := (hb2.block w.heap.size (by omega)).trans hop; obtain ⟨y0, y1, y2, y3, y4, y5, y6⟩ := op6_cells hop2; have hw2 := Below.trans hbe (hb2.mono hbe.size))
        | (go_at_call 66; refine (cN _ hw2).mono ?_; rintro e w3 ⟨rfl, hb3⟩; have hop3 := (hb3.block w.heap.size (by have := hb2.size; omega)).trans hop2; obtain ⟨u0, u1, u2, u3, u4, u5, u6⟩ := op6_cells hop3))
      go_ret
      exact ⟨by rw [HRB.out]; rfl, hw2.trans (hb3.mono hw2.size)⟩
end Go.Proofs.YtnghfdnlcnocjaaGreatDoor.Cir
