/- 'valueOf', 'toldValues' and the function that it hands back: what fields tell of names, one by one, as long as who asks wants more: contracts over the translation. -/
import Derived.RangeFuncNested
import Derived.RangeFuncBound
import Derived.RangeFuncCalls
import Derived.RangeFuncLeaves
import Derived.RangeFuncBox
import Derived.Shelf.Abstract
import Derived.Shelf.RegionOpen
import Derived.WalkKit
import Derived.OwnWalkIn
import Derived.TacticsInMore
import Derived.LoopNIn
import Derived.LoopIn
import Derived.Test.YtfgapdididdcaaaVarySpec
import Derived.Test.YtfgapdididdcaaaFieldImpl
namespace Go.Proofs.Ytfgapdididdcaaa
open Go.RowKit
open Go.Lib hiding intOf

attribute [local go_sem] Oper.semAt_some

set_option maxHeartbeats 1000000 in
theorem valueOf_any (x : ByteArray) (v : Value) (n base : Nat) (fs : List (ByteArray × ByteArray)) (w : World) (hv : FieldsV w base v n fs) (hn : n ≤ 1073741824) (hcp : CopyF fs) :
    Calls Try.prog 53 #[.string x, v] w fun e w' => e = .returned (.string (valOf fs x)) ∧ Below w.heap.size w w' := by
  obtain ⟨y, hy⟩ : ∃ y, y = valOf fs x := ⟨_, rfl⟩
  rw [← hy]
  go_enter Try.func53, Try.ntmps53
  go_wp2_with fail
  refine (implGet_any v n base fs x _ hv hn hcp).mono ?_
  rintro e w2 ⟨rfl, b2⟩
  obtain ⟨s, hs⟩ : ∃ s, s = getV fs x := ⟨_, rfl⟩
  obtain ⟨th, hth⟩ : ∃ b, b = getB fs x := ⟨_, rfl⟩
  rw [← hs, ← hth]
  have HY : Hid (y = if th = true then s else dashT) := by show _ = _; rw [hy, hs, hth]; rfl
  clear hs hth hy hv
  cases th with
  | true =>
    have HY2 : Hid (s = y) := by show _ = _; rw [HY.out]; rfl
    rw [HY2.out]
    clear HY HY2
    go_wp2_with fail
    go_ret
    exact ⟨rfl, b2⟩
  | false =>
    have HY2 : Hid (y = ⟨#[45]⟩) := by show _ = _; rw [HY.out]; rfl
    clear HY
    go_wp2_with fail
    go_ret
    exact ⟨by rw [HY2.out]; rfl, b2⟩

set_option maxHeartbeats 1000000 in
theorem toldValues_any (oa : Option Addr) (m cm : Nat) (oc : Option Addr) (n cn : Nat) (w : World) :
    Calls Try.prog 33 #[.slice oa m cm, .slice oc n cn] w fun e w' =>
      e = .returned (.func (.func 52) #[] #[.pointer (some ⟨w.heap.size, 0, none⟩), .pointer (some ⟨w.heap.size + 1, 0, none⟩)]) ∧
      w' = (w.alloc (.cells #[.slice oa m cm] 24)).alloc (.cells #[.slice oc n cn] 25) := by
  go_enter Try.func33, Try.ntmps33
  go_wp2_with fail
  go_ret
  exact ⟨rfl, rfl⟩

/-- What a round is handed: the place and the value. -/
def toldV (xs : List ByteArray) (fs : List (ByteArray × ByteArray)) (m : Nat) (j : Fin m) : Array Value := #[.int .i64 ((j.1 : Nat) : Int), .string (valOf fs (textAt xs j.1))]
theorem toldV_size (xs : List ByteArray) (fs : List (ByteArray × ByteArray)) (m : Nat) (j : Fin m) : (toldV xs fs m j).size = 2 := rfl
theorem fin_take (m k : Nat) (h : k < m) : (List.finRange m).take (k + 1) = (List.finRange m).take k ++ [⟨k, h⟩] := by
  rw [List.take_add_one, List.getElem?_eq_getElem (by simpa using h), List.getElem_finRange]
  rfl
theorem fin_take_len (m k : Nat) (h : k ≤ m) : ((List.finRange m).take k).length = k := by simp [h]

/-- What a round keeps: all below a block, and the one block that holds the fields. -/
def KeepL (n₀ b : Nat) (W W' : World) : Prop := Below n₀ W W' ∧ W'.heap[b]? = W.heap[b]?
theorem KeepL.trans {n₀ b : Nat} {A B C : World} (h : KeepL n₀ b A B) (k : KeepL n₀ b B C) : KeepL n₀ b A C := ⟨h.1.trans k.1, k.2.trans h.2⟩
theorem keepL_b {n₀ b : Nat} {w : World} (hn : n₀ ≤ w.heap.size) (hb : b < w.heap.size) (W : World) (l : Nat) (o o' : Obj) (hl : w.heap.size ≤ l) (h : W.heap[l]? = some o) (h1 : o.isCells = false) (h2 : o.isWalk = false) : KeepL n₀ b W (W.putObj l o') :=
  ⟨belowK_b hn W l o o' hl h h1 h2, World.putObj_heap_other (by omega)⟩

set_option maxRecDepth 100000 in
set_option maxHeartbeats 2000000 in
theorem told1_in (nn : Nat) (hnn : 1 ≤ nn) (l Bs Bf n₀ : Nat) (oa : Option Addr) (m cm : Nat) (xs : List ByteArray) (v : Value) (n base : Nat) (fs : List (ByteArray × ByteArray)) (w0 W : World)
    (hm : m ≤ 1048577) (hn : n ≤ 1073741824) (hcp : CopyF fs) (hn₀ : n₀ ≤ W.heap.size)
    (hX : ∀ W', Below n₀ w0 W' → TextsA W' oa m xs) (hV : ∀ W', Below n₀ w0 W' → FieldsV W' base v n fs)
    (hW : Below n₀ w0 W) (hBs : W.cell? ⟨Bs, 0, none⟩ = some (.slice oa m cm)) (hBf : Boxed W Bf 25 v)
    (J Jx : List (Fin m) → World → Prop) (hJ : AbidesFrom W.heap.size J)
    (hY : ∀ pre x W1, J pre W1 → pre.length < m → YieldAt Fence.wide (nn - 1) Try.prog l (toldV xs fs m x) W1 fun e W' =>
      (e = .returned (.bool true) ∧ J (pre ++ [x]) W' ∧ KeepL n₀ Bf W1 W') ∨ (e = .returned (.bool false) ∧ Jx (pre ++ [x]) W'))
    (h0 : J [] W) :
    CallsIn Fence.wide nn Try.prog 52 #[.func (.yield l) #[] #[], .pointer (some ⟨Bs, 0, none⟩), .pointer (some ⟨Bf, 0, none⟩)] W fun e W' => (∃ u, e = .returned u) ∧
      ((∃ ys, ys = List.finRange m ∧ J ys W') ∨ (∃ pre, pre <+: List.finRange m ∧ Jx pre W')) := by
  have HX : Hid (∀ W', Below n₀ w0 W' → TextsA W' oa m xs) := hX
  have HV : Hid (∀ W', Below n₀ w0 W' → FieldsV W' base v n fs) := hV
  have HLEN : Hid (xs.length = m) := (hX W hW).1
  obtain ⟨oc, cn, hvs, _⟩ := (hV W hW).slice
  subst hvs
  have HW : Hid (Below n₀ w0 W) := hW
  have HN : Hid (n₀ ≤ W.heap.size) := hn₀
  have HBF : Hid (Boxed W Bf 25 (.slice oc n cn)) := hBf
  have HY : Hid (∀ pre x W1, J pre W1 → pre.length < m → YieldAt Fence.wide (nn - 1) Try.prog l (toldV xs fs m x) W1 fun e W' =>
      (e = .returned (.bool true) ∧ J (pre ++ [x]) W' ∧ KeepL n₀ Bf W1 W') ∨ (e = .returned (.bool false) ∧ Jx (pre ++ [x]) W')) := hY
  have HJ : Hid (AbidesFrom W.heap.size J) := hJ
  clear hX hV hW hBf hY hJ hn₀
  refine callsIn_of_wp Try.func52 rfl trivial ?_ rfl
  simp only [Try.ntmps52, List.size_toArray, List.length_cons, List.length_nil, Nat.reduceAdd, Nat.reduceSub, Array.replicate_succ, Array.replicate_zero, List.push_toArray, List.append_toArray, List.nil_append, List.cons_append]
  gi_wp2
  gi_loopw [8] (fun i wr => ∃ k : Nat, k ≤ m ∧ i = .int .i64 (k : Int) ∧ Hid (J ((List.finRange m).take k) wr) ∧ Hid (KeepL n₀ Bf W wr) ∧ W.heap.size ≤ wr.heap.size) (fun i _ => m - (intOf i).toNat)
  case atStart => exact ⟨0, Nat.zero_le _, rfl, h0, ⟨Below.refl _ _, rfl⟩, Nat.le_refl _⟩
  case round =>
    obtain ⟨k, hk, rfl, HJs, HK, hsz⟩ := hrel
    by_cases hlt : (k : Int) < (m : Int)
    · have hkm : k < m := by omega
      have hB : Below n₀ w0 wr := HW.out.trans HK.out.1
      obtain ⟨g, rfl, hg, hc⟩ := (HX.out wr hB).2 k hkm
      have hbf : wr.cell? ⟨Bf, 0, none⟩ = some (.slice oc n cn) := (show Boxed wr Bf 25 (.slice oc n cn) from HK.out.2.trans HBF.out).cell
      have HBl : Hid (Bf < wr.heap.size) := (show Boxed wr Bf 25 (.slice oc n cn) from HK.out.2.trans HBF.out).lt
      have hval := valueOf_any (textAt xs k) (.slice oc n cn) n base fs wr (HV.out wr hB) hn hcp
      obtain ⟨x, hx⟩ : ∃ x, x = textAt xs k := ⟨_, rfl⟩
      rw [← hx] at hc hval
      obtain ⟨y, hy⟩ : ∃ y, y = valOf fs x := ⟨_, rfl⟩
      rw [← hy] at hval
      have HTV : Hid (toldV xs fs m ⟨k, hkm⟩ = #[.int .i64 (k : Int), .string y]) := by show _ = _; rw [hy, hx]; rfl
      clear hx hy hB
      gi_wp2_with fail
      refine ⟨trivial, (callsIn_wide.2 hval).mono ?_⟩
      rintro e w2 ⟨rfl, b2⟩
      have HJ2 : Hid (J ((List.finRange m).take k) w2) := HJ.out _ wr w2 none HJs.out ⟨b2.os, b2.tape, b2.output, b2.size, fun q hq _ => b2.block q hq⟩ (fun r e => by cases e)
      have HK2 : Hid (KeepL n₀ Bf W w2) := by
        refine ⟨HK.out.1.trans (b2.mono ?_), (b2.block Bf HBl.out).trans HK.out.2⟩
        exact Nat.le_trans HN.out hsz
      have hsz2 : W.heap.size ≤ w2.heap.size := Nat.le_trans hsz b2.size
      obtain ⟨fn, tmps, assign, body, hy, hR⟩ := HY.out _ ⟨k, hkm⟩ w2 HJ2.out (by rw [fin_take_len m k hk]; exact hkm)
      rw [HTV.out] at hy
      clear hval HJs HK hsz hc hbf hg b2 HBl
      gi_wp2
      refine hR.mono ?_
      rintro e W3 (⟨rfl, hJ3, hk3⟩ | ⟨rfl, hJx3⟩)
      · have HJ3 : Hid (J ((List.finRange m).take (k + 1)) W3) := by show J _ _; rw [fin_take m k hkm]; exact hJ3
        have HK3 : Hid (KeepL n₀ Bf W W3) := HK2.out.trans hk3
        have hsz3 : W.heap.size ≤ W3.heap.size := Nat.le_trans hsz2 hk3.1.size
        clear hJ3 hk3 hsz2 HK2 HJ2 hR
        gi_wp2
        go_roundw
        case rel => exact ⟨k + 1, by omega, by go_num, HJ3, HK3, hsz3⟩
        case measure => simp [intOf]; omega
      · have HJx : Hid (Jx ((List.finRange m).take (k + 1)) W3) := by show Jx _ _; rw [fin_take m k hkm]; exact hJx3
        clear hJx3 HK2 HJ2 hsz2 hR
        gi_wp2
        refine bodyPost_ret (results_none rfl _ _ _) rfl ?_
        exact ⟨⟨_, rfl⟩, .inr ⟨_, List.take_prefix _ _, HJx.out⟩⟩
    · obtain rfl : k = m := by omega
      gi_wp2
      go_end0
      have hj := HJs.out
      rw [List.take_of_length_le (by simp)] at hj
      exact ⟨⟨_, rfl⟩, .inl hj⟩

/-- What 'toldValues' hands back tells them all, in their order, or the first of them. -/
theorem told_stops (nn : Nat) (hnn : 1 ≤ nn) (Bs Bf n₀ : Nat) (oa : Option Addr) (m cm : Nat) (xs : List ByteArray) (v : Value) (n base : Nat) (fs : List (ByteArray × ByteArray)) (w0 w : World)
    (hm : m ≤ 1048577) (hn : n ≤ 1073741824) (hcp : CopyF fs) (hn₀ : n₀ ≤ w.heap.size)
    (hX : ∀ W', Below n₀ w0 W' → TextsA W' oa m xs) (hV : ∀ W', Below n₀ w0 W' → FieldsV W' base v n fs)
    (hW : Below n₀ w0 w) (hBs : Boxed w Bs 24 (.slice oa m cm)) (hBf : Boxed w Bf 25 v) :
    SeqStopsK Fence.wide nn Try.prog 52 #[.pointer (some ⟨Bs, 0, none⟩), .pointer (some ⟨Bf, 0, none⟩)] (toldV xs fs m) (KeepL n₀ Bf) (fun ys => ys = List.finRange m) (fun pre => pre <+: List.finRange m) m w := fun l J Jx W hw hJ _ hY h0 => by
  have hbs : Boxed W Bs 24 (.slice oa m cm) := (hw.block Bs hBs.lt).trans hBs
  have hbf : Boxed W Bf 25 v := (hw.block Bf hBf.lt).trans hBf
  exact told1_in nn hnn l Bs Bf n₀ oa m cm xs v n base fs w0 W hm hn hcp (Nat.le_trans hn₀ hw.size) hX hV (hW.trans (hw.mono hn₀)) hbs.cell hbf J Jx hJ hY h0

end Go.Proofs.Ytfgapdididdcaaa
