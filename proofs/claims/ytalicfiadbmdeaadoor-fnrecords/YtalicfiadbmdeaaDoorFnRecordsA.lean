/- What the proof of FnRecords leans on: contracts of the program's and the specification's functions, and plain facts (part 1 of 2). -/
import Derived.Test.YtalicfiadbmdeaaDoorCards
import Derived.Test.YtalicfiadbmdeaaDoorProg
import Derived.Test.YtalicfiadbmdeaaDoorRows
import Derived.Test.YtalicfiadbmdeaaDoorTie
import Derived.Below
import Derived.BigQuiet
import Derived.ChangeOld
import Derived.Deep.AppendLies
import Derived.Deep.CutRange
import Derived.Deep.DeepCutAuto
import Derived.Deep.DeepHandedRow
import Derived.Deep.DrawnRows
import Derived.Deep.QuietTactic
import Derived.Deep.RegionHeld3
import Derived.Deep.RegionLaw
import Derived.Deep.RegionWith
import Derived.Deep.SlicePairs
import Derived.LaidEql
import Derived.LaidHandle
import Derived.Laws.AppendOwnNone
import Derived.Laws.BitsAllLaws
import Derived.Laws.BytesArg
import Derived.Laws.EntriesVeiled
import Derived.Laws.MakeOwn
import Derived.Laws.RangeAny
import Derived.Lib.AppendIntMem
import Derived.Lib.BufferOwn
import Derived.Lib.ConvBytes
import Derived.Lib.CutLaws
import Derived.Lib.ItoaNum
import Derived.Lib.LaidTab
import Derived.Lib.Strings
import Derived.Lib.Walk
import Derived.OpenShut
import Derived.ProofKit
import Derived.RowKitTokens
import Derived.Shelf.LaysM
import Derived.Shelf.Strconv.Clone
import Derived.Shelf.Strconv.Itoa0
import Derived.Shelf.Strconv.Itoa1
import Derived.Shelf.Strconv.Itoa2
import Derived.Shelf.Strconv.Itoa3
import Derived.Shelf.Strings.Cut
import Derived.Shelf.Strings.Search1
import Derived.Shelf.Strings.Search2
import Derived.Shelf.Strings.Shaped
import Derived.ShutString
import Derived.SliceStrings
import Derived.Stop.Asserts
import Derived.WalkKit
import Derived.WalkLawsBesides
import Derived.WalkSpells
namespace Go.Proofs.YtalicfiadbmdeaaDoor
open Go.RowKit

/-- The kind of a rune, in the order of the tests. -/
def cls (r : Int) : Int :=
  if 65 ≤ r ∧ r ≤ 90 then 0 else if 97 ≤ r ∧ r ≤ 122 then 1 else if 48 ≤ r ∧ r ≤ 57 then 2 else if r = 45 then 3 else if r = 32 then 4 else if r = 44 then 5 else if 32 ≤ r ∧ r ≤ 126 then 6 else 7

def testsV : Value := .agg #[.func (.func 61) #[] #[], .func (.func 62) #[] #[], .func (.func 63) #[] #[], .func (.func 64) #[] #[], .func (.func 65) #[] #[], .func (.func 66) #[] #[], .func (.func 67) #[] #[]]

theorem cls_spec (r : Int) : (cls r = 0 ∧ 65 ≤ r ∧ r ≤ 90) ∨ (cls r = 1 ∧ 97 ≤ r ∧ r ≤ 122) ∨ (cls r = 2 ∧ 48 ≤ r ∧ r ≤ 57) ∨ (cls r = 3 ∧ r = 45) ∨ (cls r = 4 ∧ r = 32) ∨ (cls r = 5 ∧ r = 44) ∨ (cls r = 6 ∧ 32 ≤ r ∧ r ≤ 126 ∧ (r < 65 ∨ 90 < r) ∧ (r < 97 ∨ 122 < r) ∧ (r < 48 ∨ 57 < r) ∧ r ≠ 45 ∧ r ≠ 32 ∧ r ≠ 44) ∨ (cls r = 7 ∧ (r < 32 ∨ 126 < r)) := by
  unfold cls
  repeat' split
  all_goals omega

theorem ret_int {k : IntKind} {a b : Int} (h : a = b) : Ending.returned (.int k a) = .returned (.int k b) := by rw [h]

set_option maxHeartbeats 400000 in
theorem byteTests_any (w : World) :
    Calls Tryd.prog 55 #[] w fun e w' => e = .returned testsV ∧ Below w.heap.size w w' := by
  go_enter Tryd.func55, Tryd.ntmps55
  go_wp2
  exact bodyPost_ret (v := testsV) (by simp [results, Tryd.results55, go_sem, testsV]) rfl ⟨rfl, (Below.refl _ _).alloc (Nat.le_refl _) _⟩

set_option maxHeartbeats 1000000 in
theorem classOf_any (r : Int) (w : World) :
    Calls Tryd.prog 48 #[.int .i32 r] w fun e w' => e = .returned (.int .i64 (cls r)) ∧ Below w.heap.size w w' := by
  have i0 : ∀ w : World, (Instr.index 106 testsV (.int .i64 0)).run Tryd.prog w = .ok (.func (.func 61) #[] #[]) w := fun _ => by kernel_rfl
  have i1 : ∀ w : World, (Instr.index 106 testsV (.int .i64 1)).run Tryd.prog w = .ok (.func (.func 62) #[] #[]) w := fun _ => by kernel_rfl
  have i2 : ∀ w : World, (Instr.index 106 testsV (.int .i64 2)).run Tryd.prog w = .ok (.func (.func 63) #[] #[]) w := fun _ => by kernel_rfl
  have i3 : ∀ w : World, (Instr.index 106 testsV (.int .i64 3)).run Tryd.prog w = .ok (.func (.func 64) #[] #[]) w := fun _ => by kernel_rfl
  have i4 : ∀ w : World, (Instr.index 106 testsV (.int .i64 4)).run Tryd.prog w = .ok (.func (.func 65) #[] #[]) w := fun _ => by kernel_rfl
  have i5 : ∀ w : World, (Instr.index 106 testsV (.int .i64 5)).run Tryd.prog w = .ok (.func (.func 66) #[] #[]) w := fun _ => by kernel_rfl
  have i6 : ∀ w : World, (Instr.index 106 testsV (.int .i64 6)).run Tryd.prog w = .ok (.func (.func 67) #[] #[]) w := fun _ => by kernel_rfl
  go_enter Tryd.func48, Tryd.ntmps48
  go_wp2_with (go_at_call 55; refine (byteTests_any _).mono ?_; rintro e w1 ⟨rfl, hb⟩)
  go_loop [6] (fun i => ∃ k : Nat, k ≤ 7 ∧ (k : Int) ≤ cls r ∧ i = .int .i64 k) (fun i => 7 - (intOf i).toNat)
  case atStart => exact ⟨0, by omega, by have := cls_spec r; omega, rfl⟩
  case round =>
    obtain ⟨k, hk, hc, rfl⟩ := hrel
    have hk5 : k = 0 ∨ k = 1 ∨ k = 2 ∨ k = 3 ∨ k = 4 ∨ k = 5 ∨ k = 6 ∨ k = 7 := by omega
    rcases hk5 with rfl | rfl | rfl | rfl | rfl | rfl | rfl | rfl
    all_goals have HS : Hid _ := cls_spec r
    · go_wp2
      · go_ret
        exact ⟨ret_int (by have := HS.out; omega), hb⟩
      · go_round
        case rel => exact ⟨1, by omega, by have := HS.out; omega, rfl⟩
        case measure => simp [intOf]
      · go_round
        case rel => exact ⟨1, by omega, by have := HS.out; omega, rfl⟩
        case measure => simp [intOf]
    · go_wp2
      · go_ret
        exact ⟨ret_int (by have := HS.out; omega), hb⟩
      · go_round
        case rel => exact ⟨2, by omega, by have := HS.out; omega, rfl⟩
        case measure => simp [intOf]
      · go_round
        case rel => exact ⟨2, by omega, by have := HS.out; omega, rfl⟩
        case measure => simp [intOf]
    · go_wp2
      · go_ret
        exact ⟨ret_int (by have := HS.out; omega), hb⟩
      · go_round
        case rel => exact ⟨3, by omega, by have := HS.out; omega, rfl⟩
        case measure => simp [intOf]
      · go_round
        case rel => exact ⟨3, by omega, by have := HS.out; omega, rfl⟩
        case measure => simp [intOf]
    · by_cases hv : r = 45
      · have ht : (r == 45) = true := beq_iff_eq.2 hv
        have HV : Hid (r = 45) := hv
        clear hv
        go_wp2
        go_ret
        exact ⟨ret_int (by have := HS.out; have := HV.out; omega), hb⟩
      · have ht : (r == 45) = false := beq_eq_false_iff_ne.2 hv
        go_wp2
        go_round
        case rel => exact ⟨4, by omega, by have := HS.out; omega, rfl⟩
        case measure => simp [intOf]
    · by_cases hv : r = 32
      · have ht : (r == 32) = true := beq_iff_eq.2 hv
        have HV : Hid (r = 32) := hv
        clear hv
        go_wp2
        go_ret
        exact ⟨ret_int (by have := HS.out; have := HV.out; omega), hb⟩
      · have ht : (r == 32) = false := beq_eq_false_iff_ne.2 hv
        go_wp2
        go_round
        case rel => exact ⟨5, by omega, by have := HS.out; omega, rfl⟩
        case measure => simp [intOf]
    · by_cases hv : r = 44
      · have ht : (r == 44) = true := beq_iff_eq.2 hv
        have HV : Hid (r = 44) := hv
        clear hv
        go_wp2
        go_ret
        exact ⟨ret_int (by have := HS.out; have := HV.out; omega), hb⟩
      · have ht : (r == 44) = false := beq_eq_false_iff_ne.2 hv
        go_wp2
        go_round
        case rel => exact ⟨6, by omega, by have := HS.out; omega, rfl⟩
        case measure => simp [intOf]
    · go_wp2
      · go_ret
        exact ⟨ret_int (by have := HS.out; omega), hb⟩
      · go_round
        case rel => exact ⟨7, by omega, by have := HS.out; omega, rfl⟩
        case measure => simp [intOf]
      · go_round
        case rel => exact ⟨7, by omega, by have := HS.out; omega, rfl⟩
        case measure => simp [intOf]
    · go_wp2
      go_ret
      exact ⟨ret_int (by have := HS.out; omega), hb⟩
end Go.Proofs.YtalicfiadbmdeaaDoor

namespace Go.Proofs.YtalicfiadbmdeaaDoor
open Go.RowKit
open Go.Lib hiding intOf

/-- Behind a call that only makes memory the iterator stands where it was set. -/
theorem iter_step {w wr w1 : World} {s : ByteArray} {pos p1 : Nat} (hh : wr.heap[w.heap.size]? = some (.stringIter s pos)) (hbw : Below w.heap.size w wr)
    (hb1 : Below (wr.iterAt w.heap.size s p1).heap.size (wr.iterAt w.heap.size s p1) w1) : w1.heap[w.heap.size]? = some (.stringIter s p1) ∧ Below w.heap.size w w1 := by
  have hlt : w.heap.size < wr.heap.size := (Array.getElem?_eq_some_iff.1 hh).1
  refine ⟨?_, ?_⟩
  · rw [hb1.block _ (by rw [iterAt_size]; exact hlt)]
    exact iterAt_heap _ _ _ _ _ hh
  · exact (below_iterAt hbw (Nat.le_refl _) s p1).trans (hb1.mono (by rw [iterAt_size]; omega))

end Go.Proofs.YtalicfiadbmdeaaDoor

namespace Go.Proofs
open Go.Shelf
def Tryd.laysM171_ren : Go.Shelf.Ren := ⟨fun | 171 => 36 | 243 => 46 | 246 => 53 | 283 => 56 | 284 => 57 | 285 => 58 | 286 => 59 | 129 => 69 | 317 => 68 | 318 => 70 | 319 => 71 | 320 => 72 | 337 => 77 | 338 => 78 | n => n, fun | 3 => 3 | 9 => 9 | 2 => 2 | 4 => 4 | 171 => 108 | 0 => 0 | 53 => 109 | 37 => 22 | 5 => 5 | 173 => 112 | 212 => 116 | 51 => 117 | 20 => 20 | 213 => 118 | 46 => 82 | 232 => 125 | 233 => 126 | n => n, fun | 17 => 1 | 18 => 3 | 19 => 4 | n => n⟩
theorem Tryd.laysM171 : Go.Proofs.LaysM.n171 Tryd.prog Tryd.laysM171_ren := {
  mixed := by kernel_rfl
  f129 := Tryd.func69.trans (congrArg some (by kernel_rfl))
  f171 := Tryd.func36.trans (congrArg some (by kernel_rfl))
  f243 := Tryd.func46.trans (congrArg some (by kernel_rfl))
  f246 := Tryd.func53.trans (congrArg some (by kernel_rfl))
  f283 := Tryd.func56.trans (congrArg some (by kernel_rfl))
  f284 := Tryd.func57.trans (congrArg some (by kernel_rfl))
  f285 := Tryd.func58.trans (congrArg some (by kernel_rfl))
  f286 := Tryd.func59.trans (congrArg some (by kernel_rfl))
  f317 := Tryd.func68.trans (congrArg some (by kernel_rfl))
  f318 := Tryd.func70.trans (congrArg some (by kernel_rfl))
  f319 := Tryd.func71.trans (congrArg some (by kernel_rfl))
  f320 := Tryd.func72.trans (congrArg some (by kernel_rfl))
  f337 := Tryd.func77.trans (congrArg some (by kernel_rfl))
  f338 := Tryd.func78.trans (congrArg some (by kernel_rfl))
  t0 := Tryd.underlying0
  a0 := Tryd.isAgg0
  z0 := Tryd.sizeOf0
  v0 := Tryd.zeroValue0
  t2 := Tryd.underlying2
  a2 := Tryd.isAgg2
  z2 := Tryd.sizeOf2
  v2 := Tryd.zeroValue2
  t3 := Tryd.underlying3
  a3 := Tryd.isAgg3
  z3 := Tryd.sizeOf3
  v3 := Tryd.zeroValue3
  t4 := Tryd.underlying4
  a4 := Tryd.isAgg4
  z4 := Tryd.sizeOf4
  v4 := Tryd.zeroValue4
  t5 := Tryd.underlying5
  a5 := Tryd.isAgg5
  z5 := Tryd.sizeOf5
  v5 := Tryd.zeroValue5
  t9 := Tryd.underlying9
  a9 := Tryd.isAgg9
  z9 := Tryd.sizeOf9
  v9 := Tryd.zeroValue9
  t20 := Tryd.underlying20
  a20 := Tryd.isAgg20
  z20 := Tryd.sizeOf20
  v20 := Tryd.zeroValue20
  t37 := Tryd.underlying22
  a37 := Tryd.isAgg22
  z37 := Tryd.sizeOf22
  v37 := Tryd.zeroValue22
  t46 := Tryd.underlying82
  a46 := Tryd.isAgg82
  z46 := Tryd.sizeOf82
  v46 := Tryd.zeroValue82
  t51 := Tryd.underlying117
  a51 := Tryd.isAgg117
  z51 := Tryd.sizeOf117
  v51 := Tryd.zeroValue117
  t53 := Tryd.underlying109
  a53 := Tryd.isAgg109
  z53 := Tryd.sizeOf109
  v53 := Tryd.zeroValue109
  t171 := Tryd.underlying108
  a171 := Tryd.isAgg108
  z171 := Tryd.sizeOf108
  v171 := Tryd.zeroValue108
  t173 := Tryd.underlying112
  a173 := Tryd.isAgg112
  z173 := Tryd.sizeOf112
  v173 := Tryd.zeroValue112
  t212 := Tryd.underlying116
  a212 := Tryd.isAgg116
  z212 := Tryd.sizeOf116
  v212 := Tryd.zeroValue116
  t213 := Tryd.underlying118
  a213 := Tryd.isAgg118
  z213 := Tryd.sizeOf118
  t232 := Tryd.underlying125
  a232 := Tryd.isAgg125
  z232 := Tryd.sizeOf125
  v232 := Tryd.zeroValue125
  t233 := Tryd.underlying126
  a233 := Tryd.isAgg126
  z233 := Tryd.sizeOf126
  v233 := Tryd.zeroValue126
  g17 := by kernel_rfl
  g18 := by kernel_rfl
  g19 := by kernel_rfl
  i0 := by kernel_rfl
  i2 := by kernel_rfl
  i3 := by kernel_rfl
  i4 := by kernel_rfl
  i5 := by kernel_rfl
  i9 := by kernel_rfl
  i20 := by kernel_rfl
  i37 := by kernel_rfl
  i46 := by kernel_rfl
  i51 := by kernel_rfl
  i53 := by kernel_rfl
  i171 := by kernel_rfl
  i173 := by kernel_rfl
  i212 := by kernel_rfl
  i232 := by kernel_rfl
  i233 := by kernel_rfl
  m17 := by kernel_rfl
  m18 := by kernel_rfl
  m19 := by kernel_rfl }
open Go.RowKit Go.Sort Go.Lib in
theorem Tryd.strconv_Itoa (n : Int) (h0 : -9223372036854775808 ≤ n) (h1 : n ≤ 9223372036854775807) (w : World) (htab : Lib.TabIs Tryd.prog w "internal/strconv.uint64pow10" .u64 Lib.pow10Tab) :
    Calls Tryd.prog 36 #[.int .i64 n] w fun e w' => e = .returned (.string ⟨(Lib.itoa n).toArray⟩) ∧ ∃ k os, w' = grow (w.drewN k) os := Any.strconv_Itoa Tryd.laysM171 n h0 h1 w htab
def Tryd.laysM316_ren : Go.Shelf.Ren := ⟨fun | 316 => 44 | n => n, fun | 9 => 9 | 3 => 3 | 4 => 4 | 37 => 22 | 0 => 0 | 127 => 102 | 5 => 5 | n => n, fun | n => n⟩
theorem Tryd.laysM316 : Go.Proofs.LaysM.n316 Tryd.prog Tryd.laysM316_ren := {
  mixed := by kernel_rfl
  f316 := Tryd.func44.trans (congrArg some (by kernel_rfl))
  t0 := Tryd.underlying0
  a0 := Tryd.isAgg0
  z0 := Tryd.sizeOf0
  v0 := Tryd.zeroValue0
  t3 := Tryd.underlying3
  a3 := Tryd.isAgg3
  z3 := Tryd.sizeOf3
  v3 := Tryd.zeroValue3
  t4 := Tryd.underlying4
  a4 := Tryd.isAgg4
  z4 := Tryd.sizeOf4
  v4 := Tryd.zeroValue4
  t9 := Tryd.underlying9
  a9 := Tryd.isAgg9
  z9 := Tryd.sizeOf9
  v9 := Tryd.zeroValue9
  t37 := Tryd.underlying22
  a37 := Tryd.isAgg22
  z37 := Tryd.sizeOf22
  v37 := Tryd.zeroValue22
  t127 := Tryd.underlying102
  a127 := Tryd.isAgg102
  z127 := Tryd.sizeOf102
  v127 := Tryd.zeroValue102
  t5 := Tryd.underlying5
  a5 := Tryd.isAgg5
  z5 := Tryd.sizeOf5
  v5 := Tryd.zeroValue5
  i0 := by kernel_rfl
  i3 := by kernel_rfl
  i4 := by kernel_rfl
  i5 := by kernel_rfl
  i9 := by kernel_rfl
  i37 := by kernel_rfl
  i127 := by kernel_rfl }
open Go.RowKit in
theorem Tryd.stringslite_Clone (s : ByteArray) (w : World) (hlim : s.size ≤ 281474976710656) :
    Calls Tryd.prog 44 #[.string s] w fun e w' => e = .returned (.string s) ∧ Below w.heap.size w w' := Any.stringslite_Clone Tryd.laysM316 s w hlim
def Tryd.lays145_ren : Go.Shelf.Ren := ⟨fun | 145 => 47 | 220 => 54 | 219 => 60 | 217 => 73 | 225 => 74 | 224 => 75 | 267 => 76 | 266 => 79 | 314 => 80 | n => n, fun | 9 => 9 | 4 => 4 | 59 => 84 | 3 => 3 | 5 => 5 | 46 => 82 | 146 => 123 | 51 => 117 | n => n, fun | 1 => 2 | n => n⟩
theorem Tryd.lays145 : Go.Proofs.Lays.n145 Tryd.prog Tryd.lays145_ren := {
  mixed := by kernel_rfl
  f145 := Tryd.func47.trans (congrArg some (by kernel_rfl))
  f217 := Tryd.func73.trans (congrArg some (by kernel_rfl))
  f219 := Tryd.func60.trans (congrArg some (by kernel_rfl))
  f220 := Tryd.func54.trans (congrArg some (by kernel_rfl))
  f224 := Tryd.func75.trans (congrArg some (by kernel_rfl))
  f225 := Tryd.func74.trans (congrArg some (by kernel_rfl))
  f266 := Tryd.func79.trans (congrArg some (by kernel_rfl))
  f267 := Tryd.func76.trans (congrArg some (by kernel_rfl))
  f314 := Tryd.func80.trans (congrArg some (by kernel_rfl))
  t3 := Tryd.underlying3
  a3 := Tryd.isAgg3
  z3 := Tryd.sizeOf3
  v3 := Tryd.zeroValue3
  t4 := Tryd.underlying4
  a4 := Tryd.isAgg4
  z4 := Tryd.sizeOf4
  v4 := Tryd.zeroValue4
  t5 := Tryd.underlying5
  a5 := Tryd.isAgg5
  z5 := Tryd.sizeOf5
  v5 := Tryd.zeroValue5
  t9 := Tryd.underlying9
  a9 := Tryd.isAgg9
  z9 := Tryd.sizeOf9
  v9 := Tryd.zeroValue9
  t46 := Tryd.underlying82
  a46 := Tryd.isAgg82
  z46 := Tryd.sizeOf82
  v46 := Tryd.zeroValue82
  t51 := Tryd.underlying117
  a51 := Tryd.isAgg117
  z51 := Tryd.sizeOf117
  v51 := Tryd.zeroValue117
  t59 := Tryd.underlying84
  a59 := Tryd.isAgg84
  z59 := Tryd.sizeOf84
  v59 := Tryd.zeroValue84
  t146 := Tryd.underlying123
  a146 := Tryd.isAgg123
  z146 := Tryd.sizeOf123
  v146 := Tryd.zeroValue123
  g1 := by kernel_rfl }
open Go.RowKit Go.Lib in
theorem Tryd.strings_Cut (s sep : ByteArray) (m : Int) (w : World) (hs : s.size < 4294967281) (hm : w.cell? ⟨2, 0, none⟩ = some (.int .i64 m)) :
    Calls Tryd.prog 47 #[.string s, .string sep] w fun e w' => e = .returned (.tuple #[.string ⟨(Lib.cut s.data.toList sep.data.toList).1.toArray⟩, .string ⟨(Lib.cut s.data.toList sep.data.toList).2.1.toArray⟩, .bool (Lib.cut s.data.toList sep.data.toList).2.2]) ∧ ∃ n, w' = w.drewN n := Any.strings_Cut Tryd.lays145 s sep m w hs hm
def Tryd.laysM145_ren : Go.Shelf.Ren := ⟨fun | 145 => 47 | 220 => 54 | 219 => 60 | 217 => 73 | 225 => 74 | 224 => 75 | 267 => 76 | 266 => 79 | 314 => 80 | n => n, fun | 9 => 9 | 4 => 4 | 59 => 84 | 3 => 3 | 5 => 5 | 46 => 82 | 146 => 123 | 51 => 117 | n => n, fun | 1 => 2 | n => n⟩
theorem Tryd.laysM145 : Go.Proofs.LaysM.n145 Tryd.prog Tryd.laysM145_ren := {
  mixed := by kernel_rfl
  f145 := Tryd.func47.trans (congrArg some (by kernel_rfl))
  f217 := Tryd.func73.trans (congrArg some (by kernel_rfl))
  f219 := Tryd.func60.trans (congrArg some (by kernel_rfl))
  f220 := Tryd.func54.trans (congrArg some (by kernel_rfl))
  f224 := Tryd.func75.trans (congrArg some (by kernel_rfl))
  f225 := Tryd.func74.trans (congrArg some (by kernel_rfl))
  f266 := Tryd.func79.trans (congrArg some (by kernel_rfl))
  f267 := Tryd.func76.trans (congrArg some (by kernel_rfl))
  f314 := Tryd.func80.trans (congrArg some (by kernel_rfl))
  t3 := Tryd.underlying3
  a3 := Tryd.isAgg3
  z3 := Tryd.sizeOf3
  v3 := Tryd.zeroValue3
  t4 := Tryd.underlying4
  a4 := Tryd.isAgg4
  z4 := Tryd.sizeOf4
  v4 := Tryd.zeroValue4
  t5 := Tryd.underlying5
  a5 := Tryd.isAgg5
  z5 := Tryd.sizeOf5
  v5 := Tryd.zeroValue5
  t9 := Tryd.underlying9
  a9 := Tryd.isAgg9
  z9 := Tryd.sizeOf9
  v9 := Tryd.zeroValue9
  t46 := Tryd.underlying82
  a46 := Tryd.isAgg82
  z46 := Tryd.sizeOf82
  v46 := Tryd.zeroValue82
  t51 := Tryd.underlying117
  a51 := Tryd.isAgg117
  z51 := Tryd.sizeOf117
  v51 := Tryd.zeroValue117
  t59 := Tryd.underlying84
  a59 := Tryd.isAgg84
  z59 := Tryd.sizeOf84
  v59 := Tryd.zeroValue84
  t146 := Tryd.underlying123
  a146 := Tryd.isAgg123
  z146 := Tryd.sizeOf123
  v146 := Tryd.zeroValue123
  g1 := by kernel_rfl
  i3 := by kernel_rfl
  i4 := by kernel_rfl
  i5 := by kernel_rfl
  i9 := by kernel_rfl
  i46 := by kernel_rfl
  i51 := by kernel_rfl
  i59 := by kernel_rfl
  i146 := by kernel_rfl
  m1 := by kernel_rfl
  s1_3 := fun w h => Go.Proofs.cell_of_shapedOpen_int (zero := #[.int .i64 0]) (t := 3) h (of_decide_eq_true (by kernel_rfl)) (by kernel_rfl) rfl (by kernel_rfl) (by kernel_rfl) Tryd.underlying3 }
end Go.Proofs

namespace Go.Proofs.YtalicfiadbmdeaaDoor
open Go.RowKit

theorem info5 : (Tryd.prog.info? 5).map (fun i => (i.zero, i.size, i.bytes)) = some (some (.int .u8 0), 1, 1) := by kernel_rfl

set_option maxHeartbeats 400000 in
theorem clone_any (s : ByteArray) (w : World) (hlim : s.size ≤ 281474976710656) :
    Calls Tryd.prog 27 #[.string s] w fun e w' => e = .returned (.string s) ∧ Below w.heap.size w w' := by
  go_enter Tryd.func27, Tryd.ntmps27
  go_wp2_with (go_at_call 44; refine (Tryd.stringslite_Clone _ _ hlim).mono ?_; rintro e w1 ⟨rfl, hb1⟩)
  go_ret
  exact ⟨rfl, hb1⟩

end Go.Proofs.YtalicfiadbmdeaaDoor

namespace Go.Proofs.YtalicfiadbmdeaaDoor

theorem byte_get (s : ByteArray) (j : Nat) (h : j < s.size) : s.data.toList[j]? = some (s[j]'h) := by
  rw [List.getElem?_eq_getElem (by simpa using h)]
  rfl

end Go.Proofs.YtalicfiadbmdeaaDoor

namespace Go.Proofs.YtalicfiadbmdeaaDoor
open Go.RowKit
open Go.Lib hiding intOf

/-- A call answers this text, and turns nothing that was there. -/
def TextIs (t : ByteArray) (w : World) (e : Ending) (w' : World) : Prop := e = .returned (.string t) ∧ Below w.heap.size w w'
theorem TextIs.of {t u : ByteArray} {w w' : World} (h : u = t) (hb : Below w.heap.size w w') : TextIs t w (.returned (.string u)) w' := ⟨by rw [h], hb⟩

end Go.Proofs.YtalicfiadbmdeaaDoor

namespace Go.Proofs.YtalicfiadbmdeaaDoor
open Go.RowKit
open Go.Lib hiding intOf

theorem text_beq (a b : ByteArray) : (a.toList == b.toList) = true ↔ a = b := by
  rw [beq_iff_eq, ByteArray.toList_eq, ByteArray.toList_eq]
  exact ⟨fun h => ByteArray.ext (Array.toList_inj.1 h), fun h => by rw [h]⟩

end Go.Proofs.YtalicfiadbmdeaaDoor

namespace Go.Proofs.YtalicfiadbmdeaaDoor

def DigB (b : UInt8) : Prop := 48 ≤ b.toNat ∧ b.toNat ≤ 57
/-- The number that a row of digits is. -/
def valL (l : List UInt8) : Nat := l.foldl (fun v b => 10 * v + (b.toNat - 48)) 0
theorem valL_snoc (l : List UInt8) (b : UInt8) : valL (l ++ [b]) = 10 * valL l + (b.toNat - 48) := by simp [valL]
/-- The digits of a number that is not 0; none of 0. -/
def dgF : Nat → Nat → List UInt8
  | 0, _ => []
  | f + 1, n => if n = 0 then [] else dgF f (n / 10) ++ [UInt8.ofNat (48 + n % 10)]
theorem dgF_zero (f : Nat) : dgF f 0 = [] := by cases f <;> simp [dgF]
theorem dgF_pos (f n : Nat) (h : n ≠ 0) : dgF (f + 1) n = dgF f (n / 10) ++ [UInt8.ofNat (48 + n % 10)] := by simp [dgF, h]

theorem ofNat_digit (n : Nat) : (UInt8.ofNat (48 + n % 10)).toNat = 48 + n % 10 := by
  simp; omega

theorem list_snoc : ∀ l : List UInt8, l = [] ∨ ∃ r b, l = r ++ [b]
  | [] => .inl rfl
  | a :: t => by
    rcases list_snoc t with rfl | ⟨r, b, rfl⟩
    · exact .inr ⟨[], a, rfl⟩
    · exact .inr ⟨a :: r, b, rfl⟩

theorem head_snoc (r : List UInt8) (b c : UInt8) (hr : r ≠ []) : (r ++ [b]).head? = some c ↔ r.head? = some c := by
  cases r with
  | nil => exact absurd rfl hr
  | cons a t => simp

/-- A row of digits with no nought ahead is greater than any power of ten below its length. -/
theorem val_ge (l : List UInt8) : (∀ b ∈ l, DigB b) → (∀ b, l.head? = some b → b.toNat ≠ 48) → l ≠ [] → 10 ^ (l.length - 1) ≤ valL l := by
  suffices H : ∀ n (l : List UInt8), l.length = n → (∀ b ∈ l, DigB b) → (∀ b, l.head? = some b → b.toNat ≠ 48) → l ≠ [] → 10 ^ (l.length - 1) ≤ valL l from H _ l rfl
  intro n
  induction n with
  | zero => intro l hl _ _ hne; exact absurd (List.length_eq_zero_iff.1 hl) hne
  | succ n ih =>
    intro l hl hd hh hne
    rcases list_snoc l with rfl | ⟨r, b, rfl⟩
    · exact absurd rfl hne
    · rw [valL_snoc]
      by_cases hr : r = []
      · subst hr
        have h1 := hd b (by simp)
        have h2 := hh b rfl
        simp [valL]; unfold DigB at h1; omega
      · have hlen : r.length = n := by simpa using hl
        have h3 := ih r hlen (fun c hc => hd c (by simp [hc])) (fun c hc => hh c ((head_snoc r b c hr).2 hc)) hr
        have hpos : 1 ≤ r.length := by cases r with | nil => exact absurd rfl hr | cons _ _ => simp
        have e : (r ++ [b]).length - 1 = (r.length - 1) + 1 := by simp; omega
        rw [e, Nat.pow_succ]
        omega

/-- The digits of the number that a row of digits is, with no nought ahead, are that row. -/
theorem dg_val : ∀ (f : Nat) (l : List UInt8), (∀ b ∈ l, DigB b) → (∀ b, l.head? = some b → b.toNat ≠ 48) → l.length ≤ f → dgF f (valL l) = l := by
  intro f
  induction f with
  | zero => intro l _ _ hl; rw [List.length_eq_zero_iff.1 (by omega : l.length = 0)]; rfl
  | succ f ih =>
    intro l hd hh hl
    rcases list_snoc l with rfl | ⟨r, b, rfl⟩
    · exact dgF_zero _
    · have hb := hd b (by simp)
      unfold DigB at hb
      have hpos : valL (r ++ [b]) ≠ 0 := by
        have := val_ge (r ++ [b]) hd hh (by simp)
        have : 0 < 10 ^ ((r ++ [b]).length - 1) := Nat.pow_pos (by omega)
        omega
      rw [dgF_pos f _ hpos, valL_snoc]
      have e1 : (10 * valL r + (b.toNat - 48)) / 10 = valL r := by omega
      have e2 : (10 * valL r + (b.toNat - 48)) % 10 = b.toNat - 48 := by omega
      rw [e1, e2]
      have e3 : UInt8.ofNat (48 + (b.toNat - 48)) = b := by
        rw [show 48 + (b.toNat - 48) = b.toNat by omega]; simp
      rw [e3]
      by_cases hr : r = []
      · subst hr; simp [valL, dgF_zero]
      · rw [ih r (fun c hc => hd c (by simp [hc])) (fun c hc => hh c ((head_snoc r b c hr).2 hc)) (by simp at hl; omega)]

/-- The digits of a number begin with no nought, and are that number. -/
theorem dg_facts : ∀ (f n : Nat), n < 10 ^ f → (∀ b, (dgF f n).head? = some b → b.toNat ≠ 48) ∧ valL (dgF f n) = n ∧ (∀ b ∈ dgF f n, DigB b) := by
  intro f
  induction f with
  | zero => intro n h; simp at h; subst h; simp [dgF, valL]
  | succ f ih =>
    intro n h
    by_cases h0 : n = 0
    · subst h0; rw [dgF_zero]; simp [valL]
    · rw [dgF_pos f n h0]
      rw [Nat.pow_succ] at h
      obtain ⟨i1, i2, i3⟩ := ih (n / 10) (by omega)
      refine ⟨?_, ?_, ?_⟩
      · intro b hb
        by_cases hr : dgF f (n / 10) = []
        · rw [hr] at hb
          simp only [List.nil_append, List.head?_cons, Option.some.injEq] at hb
          rw [← hb, ofNat_digit]
          have : n / 10 = 0 := by rw [hr] at i2; simpa [valL] using i2.symm
          omega
        · exact i1 b ((head_snoc _ _ b hr).1 hb)
      · rw [valL_snoc, i2, ofNat_digit]; omega
      · intro b hb
        rcases List.mem_append.1 hb with h | h
        · exact i3 b h
        · simp only [List.mem_singleton] at h
          unfold DigB
          rw [h, ofNat_digit]; omega

/-- The text of a number from 0 to 1000000; the empty text of others. -/
def numL (n : Nat) : List UInt8 := if 1000000 < n then [] else if n = 0 then [48] else dgF 8 n
def numText (n : Nat) : ByteArray := ⟨(numL n).toArray⟩

/-- A text that is a number from 0 to 1000000 in digits without needless noughts. -/
def NumOk (s : ByteArray) : Prop := 1 ≤ s.size ∧ (∀ b ∈ s.data.toList, DigB b) ∧ (1 < s.size → ∀ h : 0 < s.size, (s[0]'h).toNat ≠ 48) ∧ valL s.data.toList ≤ 1000000

theorem head_byte (s : ByteArray) (h : 0 < s.size) : s.data.toList.head? = some (s[0]'h) := by
  rw [List.head?_eq_getElem?, byte_get s 0 h]

theorem num_iff (s : ByteArray) (h1 : 1 ≤ s.size) (h7 : s.size ≤ 7) (hd : ∀ b ∈ s.data.toList, DigB b) : numText (valL s.data.toList) = s ↔ NumOk s := by
  have hlen : s.data.toList.length = s.size := by simp
  have hto : numText (valL s.data.toList) = s ↔ numL (valL s.data.toList) = s.data.toList := by
    constructor
    · intro h
      have := congrArg (fun x : ByteArray => x.data.toList) h
      simpa [numText] using this
    · intro h
      apply ByteArray.ext
      show (numL _).toArray = _
      rw [h]
  rw [hto]
  have hne : s.data.toList ≠ [] := by
    intro e; rw [e] at hlen; simp at hlen; omega
  constructor
  · intro h
    unfold numL at h
    split at h
    · exact absurd h.symm hne
    · rename_i hle
      refine ⟨h1, hd, ?_, by omega⟩
      intro hs hp
      split at h
      · rw [← h] at hlen; simp at hlen; omega
      · rename_i h0
        have hf := (dg_facts 8 (valL s.data.toList) (by omega)).1
        apply hf
        rw [h, head_byte s hp]
  · rintro ⟨_, _, hz, hv⟩
    unfold numL
    rw [if_neg (by omega)]
    by_cases hh : ∀ b, s.data.toList.head? = some b → b.toNat ≠ 48
    · have hg := val_ge s.data.toList hd hh hne
      have hpos : 0 < 10 ^ (s.data.toList.length - 1) := Nat.pow_pos (by omega)
      rw [if_neg (by omega)]
      exact dg_val 8 _ hd hh (by omega)
    · have hp : 0 < s.size := by omega
      have h48 : (s[0]'hp).toNat = 48 := by
        rcases Decidable.em ((s[0]'hp).toNat = 48) with h | h
        · exact h
        · exfalso; apply hh
          intro b hb
          rw [head_byte s hp] at hb
          cases hb; exact h
      have hsz : s.size = 1 := by
        rcases Nat.lt_or_ge 1 s.size with h | h
        · exact absurd h48 (hz h hp)
        · omega
      have hl : s.data.toList = [s[0]'hp] := by
        cases hc : s.data.toList with
        | nil => exact absurd hc hne
        | cons a t =>
          have ht : t = [] := by
            rw [hc] at hlen; simp at hlen; exact List.length_eq_zero_iff.1 (by omega)
          have ha : some a = some (s[0]'hp) := by rw [← head_byte s hp, hc]; rfl
          rw [ht, Option.some.inj ha]
      have he : s[0]'hp = 48 := by
        apply UInt8.toNat_inj.1; rw [h48]; rfl
      rw [hl, he]; rfl

/-- The value of the first k bytes. -/
def valTo (s : ByteArray) (k : Nat) : Nat := valL (s.data.toList.take k)
theorem valTo_succ (s : ByteArray) (k : Nat) (h : k < s.size) : valTo s (k + 1) = 10 * valTo s k + ((s[k]'h).toNat - 48) := by
  unfold valTo
  have : s.data.toList.take (k + 1) = s.data.toList.take k ++ [s[k]'h] := by
    rw [List.take_succ_eq_append_getElem (by simpa using h)]; rfl
  rw [this, valL_snoc]
theorem valTo_end (s : ByteArray) (k : Nat) (h : ¬ k < s.size) : valTo s k = valL s.data.toList := by
  unfold valTo; rw [List.take_of_length_le (by simp; omega)]
theorem valTo_lt (s : ByteArray) : ∀ k, k ≤ s.size → (∀ j (h : j < s.size), j < k → DigB (s[j]'h)) → valTo s k < 10 ^ k := by
  intro k
  induction k with
  | zero => intro _ _; simp [valTo, valL]
  | succ k ih =>
    intro hk hd
    rw [valTo_succ s k (by omega), Nat.pow_succ]
    have h1 := ih (by omega) (fun j h hj => hd j h (by omega))
    have h2 := hd k (by omega) (by omega)
    unfold DigB at h2
    omega
/-- The value of a longer beginning is no less. -/
theorem valTo_mono (s : ByteArray) (k : Nat) : ∀ d, k + d ≤ s.size → valTo s k ≤ valTo s (k + d) := by
  intro d
  induction d with
  | zero => intro _; exact Nat.le_refl _
  | succ d ih =>
    intro h
    rw [show k + (d + 1) = (k + d) + 1 by omega, valTo_succ s (k + d) (by omega)]
    have := ih (by omega)
    omega
theorem val_ge_to (s : ByteArray) (k : Nat) (h : k ≤ s.size) : valTo s k ≤ valL s.data.toList := by
  rw [← valTo_end s s.size (by omega)]
  have := valTo_mono s k (s.size - k) (by omega)
  rw [show k + (s.size - k) = s.size by omega] at this
  exact this
theorem mem_byte {s : ByteArray} {p : UInt8 → Prop} (h : ∀ j (hj : j < s.size), p (s[j]'hj)) : ∀ b ∈ s.data.toList, p b := by
  intro b hb
  obtain ⟨j, hj, rfl⟩ := List.getElem_of_mem hb
  exact h j (by simpa using hj)
theorem byte_mem (s : ByteArray) (j : Nat) (h : j < s.size) : s[j]'h ∈ s.data.toList := List.mem_of_getElem? (byte_get s j h)
/-- A number that is no longer than 1000000 has at most seven digits. -/
theorem num_seven {s : ByteArray} (h : NumOk s) : s.size ≤ 7 := by
  obtain ⟨h1, hd, hz, hv⟩ := h
  rcases Nat.lt_or_ge 7 s.size with h7 | h7
  · exfalso
    have hp : 0 < s.size := by omega
    have hlen : s.data.toList.length = s.size := by simp
    have hg := val_ge s.data.toList hd (fun b hb => by rw [head_byte s hp] at hb; cases hb; exact hz (by omega) hp) (by intro e; rw [e] at hlen; simp at hlen; omega)
    have : 10 ^ 7 ≤ 10 ^ (s.data.toList.length - 1) := Nat.pow_le_pow_right (by omega) (by omega)
    omega
  · exact h7

end Go.Proofs.YtalicfiadbmdeaaDoor

namespace Go.Proofs.YtalicfiadbmdeaaDoor
open Go.RowKit
open Go.Lib hiding intOf

theorem conv_one (W : World) (d : Int) : (convert 22 9 (.slice (some ⟨W.heap.size, 0, none⟩) 1 1)).run Tryd.prog (W.alloc (.cells #[.int .u8 d] 5)) = .ok (.string (strOfNums [d])) (W.alloc (.cells #[.int .u8 d] 5)) :=
  run_convert_bytes_arg (P := Tryd.prog) (W.alloc (.cells #[.int .u8 d] 5)) 22 5 Tryd.underlying22 Tryd.underlying5 W.heap.size 0 1 1 [d] rfl (fun i hi => by
    have : i = 0 := by omega
    subst this
    simp) 9 Tryd.underlying9

set_option maxHeartbeats 1000000 in
theorem specNumText_any (n : Nat) (w : World) (hn : n ≤ 9999999) :
    Calls Tryd.prog 45 #[.int .i64 (n : Int)] w fun e w' => TextIs (numText n) w e w' := by
  by_cases h1 : (n : Int) ≤ 1000000
  · by_cases h0 : n = 0
    · subst h0
      go_enter Tryd.func45, Tryd.ntmps45
      go_wp2
      go_ret
      exact TextIs.of rfl (Below.refl _ _)
    · have hne : ((n : Int) == 0) = false := by rw [beq_eq_false_iff_ne]; omega
      have hcv := conv_one
      go_enter Tryd.func45, Tryd.ntmps45
      go_wp2
      go_loopw [0, 3] (fun a b wr => ∃ (f m : Nat) (out : ByteArray), a = .int .i64 (m : Int) ∧ b = .string out ∧ m ≤ 1000000 ∧ f ≤ 8 ∧ out.size ≤ 8 - f ∧ Below w.heap.size w wr ∧ Hid (m < 10 ^ f ∧ dgF f m ++ out.data.toList = dgF 8 n)) (fun a _ _ => (intOf a).toNat)
      case atStart => exact ⟨8, n, _, rfl, rfl, by omega, Nat.le_refl _, Nat.le_refl _, Below.refl _ _, ⟨by omega, by simp⟩⟩
      case round =>
        obtain ⟨f, m, out, rfl, rfl, hm, hf8, hsz, hbw, hd⟩ := hrel
        by_cases hp : (0 : Int) < (m : Int)
        · have hone : ∀ d : Int, (strOfNums [d]).size = 1 := fun d => strOfNums_size [d]
          go_wp2
          go_roundw
          case rel =>
            obtain ⟨hf, hdg⟩ := hd.out
            cases f with
            | zero => simp at hf; omega
            | succ f =>
              rw [Nat.pow_succ] at hf
              refine ⟨f, m / 10, strOfNums [48 + (m : Int) % 10] ++ out, by simp, rfl, by omega, by omega, ?_, hbw.alloc hbw.size _, by omega, ?_⟩
              · rw [ByteArray.size_append, hone]; omega
              · have e : (strOfNums [48 + (m : Int) % 10]).data.toList = [UInt8.ofNat (48 + m % 10)] := by
                  rw [strOfNums_data]
                  have : (48 + (m : Int) % 10).toNat = 48 + m % 10 := by omega
                  simp only [List.map_cons, List.map_nil, this]
                rw [dgF_pos f m (by omega), List.append_assoc] at hdg
                rw [← hdg, ByteArray.data_append, Array.toList_append, e]
          case measure => simp [intOf]; omega
        · have hT : Hid (out = numText n) := by
            obtain ⟨_, h⟩ := hd.out
            have e : m = 0 := by omega
            rw [e, dgF_zero, List.nil_append] at h
            show out = numText n
            apply ByteArray.ext
            apply Array.toList_inj.1
            rw [h]
            unfold numText numL
            rw [if_neg (by omega), if_neg h0]
          go_wp2
          go_ret
          exact TextIs.of hT.out hbw
  · go_enter Tryd.func45, Tryd.ntmps45
    go_wp2
    go_ret
    exact TextIs.of (by unfold numText numL; rw [if_pos (by omega)]) (Below.refl _ _)

/-- A call answers the number that a text is, and true; or 0 and false; it turns nothing that was there. -/
def NumIs (s : ByteArray) (w : World) (e : Ending) (w' : World) : Prop :=
  ∃ (b : Bool) (n : Int), e = .returned (.tuple #[.int .i64 n, .bool b]) ∧ (b = true ↔ NumOk s) ∧ (b = true → n = valL s.data.toList) ∧ (b = false → n = 0) ∧ Below w.heap.size w w'
theorem NumIs.no {s : ByteArray} {w w' : World} (h : ¬ NumOk s) (hb : Below w.heap.size w w') : NumIs s w (.returned (.tuple #[.int .i64 0, .bool false])) w' :=
  ⟨false, 0, rfl, by simpa using h, by simp, fun _ => rfl, hb⟩
theorem NumIs.yes {s : ByteArray} {w w' : World} {n : Int} (h : NumOk s) (hn : n = valL s.data.toList) (hb : Below w.heap.size w w') : NumIs s w (.returned (.tuple #[.int .i64 n, .bool true])) w' :=
  ⟨true, n, rfl, by simpa using h, fun _ => hn, by simp, hb⟩

/-- Every byte ahead of k is a digit. -/
def DigTo (s : ByteArray) (k : Nat) : Prop := ∀ j (h : j < s.size), j < k → DigB (s[j]'h)
theorem digTo_succ {s : ByteArray} {k : Nat} (h : DigTo s k) (hk : k < s.size) (hd : DigB (s[k]'hk)) : DigTo s (k + 1) := by
  intro j hj hlt
  by_cases e : j = k
  · subst e; exact hd
  · exact h j hj (by omega)

theorem isEmpty_no {s : ByteArray} (h : 1 ≤ s.size) : s.toList.isEmpty = false := by
  have : s.toList.length = s.size := by rw [ByteArray.toList_eq]; simp
  cases hc : s.toList with
  | nil => rw [hc] at this; simp at this; omega
  | cons _ _ => rfl
theorem isEmpty_yes {s : ByteArray} (h : s.size = 0) : s.toList.isEmpty = true := by
  have : s.toList.length = s.size := by rw [ByteArray.toList_eq]; simp
  rw [h] at this
  rw [List.length_eq_zero_iff.1 this]; rfl

set_option maxHeartbeats 1000000 in
theorem specNumRead_any (s : ByteArray) (w : World) (hs : s.size ≤ maxLen) :
    Calls Tryd.prog 31 #[.string s] w fun e w' => NumIs s w e w' := by
  unfold maxLen at hs
  by_cases h1 : s.size = 0
  · have he := isEmpty_yes h1
    go_enter Tryd.func31, Tryd.ntmps31
    go_wp2_with fail
    go_ret2
    exact NumIs.no (fun h => by have := h.1; omega) (Below.refl _ _)
  · have he := isEmpty_no (s := s) (by omega)
    by_cases h7 : (7 : Int) < (s.size : Int)
    · go_enter Tryd.func31, Tryd.ntmps31
      go_wp2_with fail
      go_ret2
      exact NumIs.no (fun h => by have := num_seven h; omega) (Below.refl _ _)
    · go_enter Tryd.func31, Tryd.ntmps31
      go_wp2_with fail
      go_loop [4, 5] (fun a i => ∃ x k : Nat, k ≤ s.size ∧ i = .int .i64 k ∧ a = .int .i64 (x : Int) ∧ x ≤ 9999999 ∧ Hid (DigTo s k) ∧ Hid (x = valTo s k)) (fun _ i => s.size - (intOf i).toNat)
      case atStart => exact ⟨0, 0, Nat.zero_le _, rfl, rfl, by omega, fun _ _ h => absurd h (by omega), by show 0 = valTo s 0; simp [valTo, valL]⟩
      case round =>
        obtain ⟨x, k, hk, rfl, rfl, hx, hdig, hval⟩ := hrel
        by_cases hlt : k < s.size
        · have hb := (s[k]'hlt).toNat_lt
          by_cases hd1 : ((s[k]'hlt).toNat : Int) < 48
          · go_wp2_with fail
            go_ret2
            exact NumIs.no (fun h => by have := h.2.1 _ (byte_mem s k hlt); unfold DigB at this; omega) (Below.refl _ _)
          · by_cases hd2 : (57 : Int) < ((s[k]'hlt).toNat : Int)
            · go_wp2_with fail
              go_ret2
              exact NumIs.no (fun h => by have := h.2.1 _ (byte_mem s k hlt); unfold DigB at this; omega) (Below.refl _ _)
            · go_wp2_with fail
              have hdb : DigB (s[k]'hlt) := by unfold DigB; omega
              have hs1 := valTo_succ s k hlt
              have hv := hval.out
              have hd' := digTo_succ hdig.out hlt hdb
              have hlt7 := valTo_lt s (k + 1) (by omega) (fun j h hj => hd' j h hj)
              have hp7 : 10 ^ (k + 1) ≤ 10 ^ 7 := Nat.pow_le_pow_right (by omega) (by omega)
              go_round
              case rel =>
                refine ⟨valTo s (k + 1), k + 1, by omega, by go_num, ?_, by omega, hd', rfl⟩
                congr 1
                omega
              case measure => simp [intOf]; omega
        · have hall : ∀ b ∈ s.data.toList, DigB b := mem_byte (fun j h => hdig.out j h (by omega))
          have hx2 : x = valL s.data.toList := by have := hval.out; rw [valTo_end s k hlt] at this; exact this
          have hni := num_iff s (by omega) (by omega) hall
          rw [← hx2] at hni
          by_cases hok : NumOk s
          · have ht : ((numText x).toList == s.toList) = true := (text_beq _ _).2 (hni.2 hok)
            have HX : Hid (x = valL s.data.toList) := hx2
            have HO : Hid (NumOk s) := hok
            clear hx2 hni hok hall
            go_wp2_with (go_at_call 45; refine (specNumText_any x _ hx).mono ?_; rintro e w1 ⟨rfl, hb1⟩)
            go_ret2
            exact NumIs.yes HO.out (by rw [HX.out]) hb1
          · have ht : ((numText x).toList == s.toList) = false := by
              rcases Bool.eq_false_or_eq_true ((numText x).toList == s.toList) with h | h
              · exact absurd (hni.1 ((text_beq _ _).1 h)) hok
              · exact h
            have HO : Hid (¬ NumOk s) := hok
            clear hx2 hni hok hall
            go_wp2_with (go_at_call 45; refine (specNumText_any x _ hx).mono ?_; rintro e w1 ⟨rfl, hb1⟩)
            go_ret2
            exact NumIs.no HO.out hb1

set_option maxHeartbeats 1000000 in
theorem implNumRead_any (s : ByteArray) (w : World) (hs : s.size ≤ maxLen) :
    Calls Tryd.prog 38 #[.string s] w fun e w' => NumIs s w e w' := by
  unfold maxLen at hs
  by_cases h1 : s.size = 0
  · have he := isEmpty_yes h1
    go_enter Tryd.func38, Tryd.ntmps38
    go_wp2_with fail
    go_ret2
    exact NumIs.no (fun h => by have := h.1; omega) (Below.refl _ _)
  · have he := isEmpty_no (s := s) (by omega)
    have hp0 : 0 < s.size := by omega
    by_cases hz : (1 : Int) < (s.size : Int) ∧ (s[0]'hp0).toNat = 48
    · obtain ⟨hz1, hz2⟩ := hz
      have ht : (((s[0]'hp0).toNat : Int) == 48) = true := by simp [hz2]
      have HZ : Hid ((s[0]'hp0).toNat = 48) := hz2
      clear hz2
      go_enter Tryd.func38, Tryd.ntmps38
      go_wp2_with fail
      go_ret2
      exact NumIs.no (fun h => h.2.2.1 (by omega) hp0 HZ.out) (Below.refl _ _)
    · have HZ : Hid (1 < s.size → ∀ h : 0 < s.size, (s[0]'h).toNat ≠ 48) := fun hl h hc => hz ⟨by omega, hc⟩
      have hgo : Calls Tryd.prog 38 #[.string s] w fun e w' => NumIs s w e w' := by
        by_cases hl : (1 : Int) < (s.size : Int)
        all_goals
          have ht : (1 : Int) < (s.size : Int) → (((s[0]'hp0).toNat : Int) == 48) = false := fun hl => by
            rw [beq_eq_false_iff_ne]; intro hc; exact hz ⟨hl, by omega⟩
          clear hz
          try have ht2 := ht hl
          try clear ht
          go_enter Tryd.func38, Tryd.ntmps38
          go_wp2_with fail
          go_loopw [4] (fun a wr => ∃ x pos : Nat, pos ≤ s.size ∧ a = .int .i64 (x : Int) ∧ x ≤ 1000000 ∧ wr.heap[w.heap.size]? = some (.stringIter s pos) ∧ Below w.heap.size w wr ∧ Hid (DigTo s pos) ∧ Hid (x = valTo s pos)) (fun _ wr => s.size - wr.iterPos w.heap.size)
          case atStart => exact ⟨0, 0, Nat.zero_le _, rfl, by omega, World.iter_heap _ _ _, (Below.refl _ _).alloc (Nat.le_refl _) _, fun _ _ h => absurd h (by omega), by show 0 = valTo s 0; simp [valTo, valL]⟩
          case round =>
            obtain ⟨x, k, hk, rfl, hx, hh, hbw, hdig, hval⟩ := hrel
            by_cases hlt : k < s.size
            · have hb := (s[k]'hlt).toNat_lt
              by_cases hd : DigB (s[k]'hlt)
              · have hnx := fun ty => run_next_ascii_at (P := Tryd.prog) wr w.heap.size s k ty hh hlt (by unfold DigB at hd; omega)
                have hcl : (cls ((s[k]'hlt).toNat : Int) != 2) = false := by
                  have := cls_spec ((s[k]'hlt).toNat : Int)
                  unfold DigB at hd
                  rw [bne_eq_false_iff_eq]; omega
                have hd1 : (48 : Int) ≤ ((s[k]'hlt).toNat : Int) := by unfold DigB at hd; omega
                have hd2 : ((s[k]'hlt).toNat : Int) ≤ 57 := by unfold DigB at hd; omega
                have HD : Hid (DigB (s[k]'hlt)) := hd
                clear hd
                go_wp2_with (go_at_call 48; refine (classOf_any _ _).mono ?_; rintro e w1 ⟨rfl, hb1⟩)
                · have hgt : 1000000 < valTo s (k + 1) := by
                    have := valTo_succ s k hlt
                    have := hval.out
                    omega
                  go_ret2
                  exact NumIs.no (fun h => by have := h.2.2.2; have := val_ge_to s (k + 1) (by omega); omega) (iter_step hh hbw hb1).2
                · have hle : (x : Int) * 10 + (((s[k]'hlt).toNat : Int) - 48) = (valTo s (k + 1) : Nat) ∧ valTo s (k + 1) ≤ 1000000 := by
                    have := valTo_succ s k hlt
                    have := hval.out
                    omega
                  obtain ⟨p1, p2⟩ := iter_step hh hbw hb1
                  refine ⟨⟨valTo s (k + 1), k + 1, by omega, by rw [hle.1], hle.2, p1, p2, digTo_succ hdig.out hlt HD.out, rfl⟩, by rw [iterPos_of p1, iterPos_of hh]; omega⟩
              · have hnx := fun ty => run_next_any_at (P := Tryd.prog) wr w.heap.size s k ty hh hlt
                have hcl : (cls ((Utf8.decode s k).1 : Int) != 2) = true := by
                  have := cls_spec ((Utf8.decode s k).1 : Int)
                  unfold DigB at hd
                  rw [bne_iff_ne]
                  by_cases ha : (s[k]'hlt).toNat < 128
                  · rw [decode_ascii s k hlt ha] at this ⊢
                    dsimp only at this ⊢
                    omega
                  · have := (decode_high s k hlt (by omega)).1
                    omega
                have HD : Hid (¬ DigB (s[k]'hlt)) := hd
                clear hd
                go_wp2_with (go_at_call 48; refine (classOf_any _ _).mono ?_; rintro e w1 ⟨rfl, hb1⟩)
                go_ret2
                exact NumIs.no (fun h => HD.out (h.2.1 _ (byte_mem s k hlt))) (iter_step hh hbw hb1).2
            · have hnx := fun ty => run_next_end_at (P := Tryd.prog) wr w.heap.size s k ty hh hlt
              have HY : Hid (NumOk s ∧ (x : Int) = (valL s.data.toList : Nat)) := by
                have hv := hval.out
                rw [valTo_end s k hlt] at hv
                exact ⟨⟨by omega, mem_byte (fun j h => hdig.out j h (by omega)), HZ.out, by omega⟩, by omega⟩
              go_wp2_with fail
              go_ret2
              exact NumIs.yes HY.out.1 HY.out.2 hbw
      exact hgo

end Go.Proofs.YtalicfiadbmdeaaDoor

namespace Go.Proofs.YtalicfiadbmdeaaDoor
open Go.RowKit
open Go.Lib hiding intOf

/-- What is owned lies from the base on. -/
theorem owns_ge {w : World} {base : Nat} {e : TypeId} {size : Nat} {v : Value} {n g : Nat} {xs : List Value} (h : w.ownsRow base e size v n xs) (hg : v.ownBlock = some g) : base ≤ g := by
  rcases h.2 with ⟨rfl, _⟩ | ⟨g', cap, cur, rfl, hb, _⟩
  · simp [Value.ownBlock] at hg
  · simp [Value.ownBlock] at hg; omega
theorem one_byte (V : Int) : ∀ u ∈ [Value.int .u8 V], u.oneCell' = true := by intro u hu; simp at hu; subst hu; rfl
/-- An owned row of bytes, turned into a text. -/
theorem conv_owned {w : World} {base n : Nat} {v : Value} {xs : List Int} (h : w.ownsRow base 5 1 v n (xs.map (Value.int .u8))) : (convert 22 9 v).run Tryd.prog w = .ok (.string (strOfNums xs)) w := by
  obtain ⟨hl, hv⟩ := h
  simp at hl
  rcases hv with ⟨rfl, h0⟩ | ⟨g, cap, cur, rfl, _, hg, hn, _, hcs, htk⟩
  · have : xs = [] := List.length_eq_zero_iff.1 (by omega)
    subst this
    exact run_convert_bytes_nil (P := Tryd.prog) w 22 5 Tryd.underlying22 Tryd.underlying5 0 0 9 Tryd.underlying9
  · refine run_convert_bytes_arg (P := Tryd.prog) w 22 5 Tryd.underlying22 Tryd.underlying5 g 0 n cap xs hl (fun i hi => ?_) 9 Tryd.underlying9
    have h1 : (cur.toList.take (n * 1))[i]? = some (.int .u8 (xs.getD i 0)) := by
      rw [htk, List.getElem?_map, List.getD_eq_getElem?_getD, List.getElem?_eq_getElem (by omega)]
      simp
    rw [List.getElem?_take, if_pos (by omega)] at h1
    simp only [World.cell?, hg, Nat.zero_add]
    simpa using h1

end Go.Proofs.YtalicfiadbmdeaaDoor

namespace Go.Proofs.YtalicfiadbmdeaaDoor
open Go.RowKit
open Go.Lib hiding intOf

theorem one_text (t : ByteArray) : ∀ u ∈ [Value.string t], u.oneCell' = true := by intro u hu; simp at hu; subst hu; rfl
theorem info9 : (Tryd.prog.info? 9).map (fun i => (i.zero, i.size, i.bytes)) = some (some (.string ⟨#[]⟩), 1, 16) := by kernel_rfl

end Go.Proofs.YtalicfiadbmdeaaDoor

namespace Go.Proofs.YtalicfiadbmdeaaDoor
open Go.RowKit
open Go.Lib hiding intOf

/-- The text i of a list. -/
def textAt (xs : List ByteArray) (i : Nat) : ByteArray := xs.getD i ⟨#[]⟩

/-- What an owned list of texts is, cell by cell. -/
structure TextRow (base : Nat) (w : World) (g n cap : Nat) (xs : List ByteArray) : Prop where
  len : xs.length = n
  base : base ≤ g
  lt : g < w.heap.size
  le : n ≤ cap
  mx : cap ≤ maxLen
  heap : ∃ cur, w.heap[g]? = some (.cells cur 9 (0, 0)) ∧ cur.size = cap ∧ ∀ i, i < n → cur[i]? = some (.string (textAt xs i))
theorem TextRow.cell {base : Nat} {w : World} {g n cap : Nat} {xs : List ByteArray} (h : TextRow base w g n cap xs) (i : Nat) (hi : i < n) : w.cell? ⟨g, i, none⟩ = some (.string (textAt xs i)) := by
  obtain ⟨cur, hg, _, hc⟩ := h.heap
  simp only [World.cell?, hg]
  simpa using hc i hi
theorem textAt_map (xs : List ByteArray) (i : Nat) (h : i < xs.length) : (xs.map Value.string)[i]? = some (.string (textAt xs i)) := by
  simp [textAt, List.getD_eq_getElem?_getD, h]
/-- An owned list is empty, or such a row. -/
theorem row_form {w : World} {base n : Nat} {v : Value} {xs : List ByteArray} (h : w.ownsRow base 9 1 v n (xs.map Value.string)) :
    (∃ oa cap, v = .slice oa 0 cap ∧ n = 0 ∧ xs = []) ∨ ∃ g cap, v = .slice (some ⟨g, 0, none⟩) n cap ∧ 0 < n ∧ TextRow base w g n cap xs := by
  obtain ⟨hl, hv⟩ := h
  simp at hl
  rcases hv with ⟨rfl, h0⟩ | ⟨g, cap, cur, rfl, hb, hg, hn, hm, hcs, htk⟩
  · exact .inl ⟨none, 0, rfl, h0, List.length_eq_zero_iff.1 (by omega)⟩
  · by_cases h0 : n = 0
    · subst h0
      exact .inl ⟨_, _, rfl, rfl, List.length_eq_zero_iff.1 (by omega)⟩
    · refine .inr ⟨g, cap, rfl, by omega, hl, hb, (Array.getElem?_eq_some_iff.1 hg).1, hn, hm, cur, hg, by simpa using hcs, ?_⟩
      intro i hi
      have h1 : (cur.toList.take (n * 1))[i]? = some (.string (textAt xs i)) := by rw [htk]; exact textAt_map xs i (by omega)
      rw [List.getElem?_take, if_pos (by omega)] at h1
      simpa using h1
end Go.Proofs.YtalicfiadbmdeaaDoor

namespace Go.Proofs.YtalicfiadbmdeaaDoor
open Go.RowKit
open Go.Lib hiding intOf

theorem text_beq_no {a b : ByteArray} (h : a ≠ b) : (a.toList == b.toList) = false := by
  rcases Bool.eq_false_or_eq_true (a.toList == b.toList) with h1 | h1
  · exact absurd ((text_beq _ _).1 h1) h
  · exact h1

end Go.Proofs.YtalicfiadbmdeaaDoor

namespace Go.Proofs.YtalicfiadbmdeaaDoor
open Go.RowKit

def bs (s : ByteArray) : List UInt8 := s.data.toList
theorem bs_append (a b : ByteArray) : bs (a ++ b) = bs a ++ bs b := by simp [bs]
theorem bs_inj {a b : ByteArray} (h : bs a = bs b) : a = b := by
  apply ByteArray.ext
  exact Array.toList_inj.1 h
theorem bs_len (a : ByteArray) : (bs a).length = a.size := by simp [bs]
/-- What stands between blanks. -/
def wordsL (out : List (List UInt8)) (cur : List UInt8) : List UInt8 → List (List UInt8)
  | [] => out ++ [cur]
  | c :: r => if c = 32 then wordsL (out ++ [cur]) [] r else wordsL out (cur ++ [c]) r
theorem words_word (word rest : List UInt8) (h : ∀ b ∈ word, b ≠ 32) : ∀ out cur, wordsL out cur (word ++ 32 :: rest) = wordsL (out ++ [cur ++ word]) [] rest := by
  induction word with
  | nil => intro out cur; simp [wordsL]
  | cons c r ih =>
    intro out cur
    rw [List.cons_append, wordsL, if_neg (h c (by simp)), ih (fun b hb => h b (by simp [hb]))]
    simp
theorem words_last (word : List UInt8) (h : ∀ b ∈ word, b ≠ 32) : ∀ out cur, wordsL out cur word = out ++ [cur ++ word] := by
  induction word with
  | nil => intro out cur; simp [wordsL]
  | cons c r ih =>
    intro out cur
    rw [wordsL, if_neg (h c (by simp)), ih (fun b hb => h b (by simp [hb]))]
    simp
theorem numL_dig (n : Nat) (h : n ≤ 1000000) : numL n ≠ [] ∧ ∀ b ∈ numL n, DigB b := by
  unfold numL
  rw [if_neg (by omega)]
  by_cases h0 : n = 0
  · rw [if_pos h0]
    refine ⟨by simp, ?_⟩
    intro b hb
    simp at hb
    subst hb
    unfold DigB; decide
  · rw [if_neg h0]
    have hf := dg_facts 8 n (by omega)
    refine ⟨fun e => ?_, hf.2.2⟩
    have h2 := hf.2.1
    rw [e] at h2
    exact h0 h2.symm
theorem numL_val (n : Nat) (h : n ≤ 1000000) : valL (numL n) = n := by
  unfold numL
  rw [if_neg (by omega)]
  by_cases h0 : n = 0
  · rw [if_pos h0, h0]; rfl
  · rw [if_neg h0]
    exact (dg_facts 8 n (by omega)).2.1
end Go.Proofs.YtalicfiadbmdeaaDoor

namespace Go.Proofs.YtalicfiadbmdeaaDoor
open Go.RowKit
open Go.Lib hiding intOf

/-- A number in decimal digits. -/
def decT (n : Nat) : ByteArray := ⟨(Lib.decDigits n).toArray⟩
theorem bs_decT (n : Nat) : bs (decT n) = Lib.decDigits n := by simp [bs, decT]
/-- The two sums behind a text. -/
def sumL (p : Nat × Nat) : List UInt8 → Nat × Nat
  | [] => p
  | x :: r => sumL ((p.1 + x.toNat) % 65521, (p.2 + (p.1 + x.toNat) % 65521) % 65521) r
def sumP (s : ByteArray) : Nat := 65521 * (sumL (1, 0) (bs s)).2 + (sumL (1, 0) (bs s)).1
theorem sumL_snoc (x : UInt8) : ∀ (l : List UInt8) (p : Nat × Nat), sumL p (l ++ [x]) = (((sumL p l).1 + x.toNat) % 65521, ((sumL p l).2 + ((sumL p l).1 + x.toNat) % 65521) % 65521)
  | [], _ => rfl
  | y :: l, p => by
    rw [List.cons_append, sumL, sumL_snoc x l, sumL]
theorem sumL_lt : ∀ (l : List UInt8) (p : Nat × Nat), p.1 < 65521 → p.2 < 65521 → (sumL p l).1 < 65521 ∧ (sumL p l).2 < 65521
  | [], _, h1, h2 => ⟨h1, h2⟩
  | y :: l, p, _, _ => by
    rw [sumL]
    exact sumL_lt l _ (Nat.mod_lt _ (by decide)) (Nat.mod_lt _ (by decide))
def sumN (l : List UInt8) : Nat := (l.map (·.toNat)).sum
theorem sumL_fst : ∀ (l : List UInt8) (p : Nat × Nat), p.1 < 65521 → (sumL p l).1 = (p.1 + sumN l) % 65521
  | [], p, h => by
    show p.1 = (p.1 + 0) % 65521
    rw [Nat.add_zero, Nat.mod_eq_of_lt h]
  | y :: l, p, _ => by
    rw [sumL, sumL_fst l _ (Nat.mod_lt _ (by decide))]
    show ((p.1 + y.toNat) % 65521 + sumN l) % 65521 = (p.1 + (y.toNat + sumN l)) % 65521
    omega
theorem sumP_mod (s : ByteArray) : sumP s % 65521 = (1 + sumN (bs s)) % 65521 := by
  have h := sumL_fst (bs s) (1, 0) (by decide)
  unfold sumP
  omega
theorem sumP_le (s : ByteArray) : sumP s ≤ 4293001440 := by
  have h := sumL_lt (bs s) (1, 0) (by decide) (by decide)
  unfold sumP
  omega
theorem sumN_set (l : List UInt8) (k : Nat) (x : UInt8) (h : k < l.length) : sumN (l.set k x) + (l[k]'h).toNat = sumN l + x.toNat := by
  induction l generalizing k with
  | nil => simp at h
  | cons y l ih =>
    cases k with
    | zero =>
      show x.toNat + sumN l + y.toNat = y.toNat + sumN l + x.toNat
      omega
    | succ k =>
      have := ih k (by simpa using h)
      show y.toNat + sumN (l.set k x) + (l[k]'(by simpa using h)).toNat = y.toNat + sumN l + x.toNat
      omega

theorem dec_dig (n : Nat) : ∀ x ∈ Lib.decDigits n, DigB x := by
  induction n using Nat.strongRecOn with
  | ind n ih =>
    intro x hx
    rw [Lib.decDigits] at hx
    split at hx
    · rename_i h
      rw [List.mem_singleton.1 hx]
      have e := ofNat_digit n
      rw [Nat.mod_eq_of_lt h] at e
      unfold DigB
      rw [e]
      omega
    · rename_i h
      rcases List.mem_append.1 hx with hx | hx
      · exact ih (n / 10) (by omega) x hx
      · rw [List.mem_singleton.1 hx]
        have e := ofNat_digit n
        unfold DigB
        rw [e]
        omega
theorem dec_val (n : Nat) : valL (Lib.decDigits n) = n := by
  induction n using Nat.strongRecOn with
  | ind n ih =>
    rw [Lib.decDigits]
    split
    · rename_i h
      have e := ofNat_digit n
      rw [Nat.mod_eq_of_lt h] at e
      show 10 * 0 + ((UInt8.ofNat (48 + n)).toNat - 48) = n
      rw [e]
      omega
    · rename_i h
      rw [valL_snoc, ih (n / 10) (by omega), ofNat_digit]
      omega
theorem dec_inj {m n : Nat} (h : Lib.decDigits m = Lib.decDigits n) : m = n := by rw [← dec_val m, h, dec_val]
theorem dec_no (n : Nat) : ∀ x ∈ Lib.decDigits n, x ≠ 32 ∧ x ≠ 10 := fun x hx => by
  have h := dec_dig n x hx
  unfold DigB at h
  exact ⟨fun e => by rw [e] at h; exact absurd h.1 (by decide), fun e => by rw [e] at h; exact absurd h.1 (by decide)⟩
/-- Cut at the first such byte. -/
theorem first_cut (c : UInt8) : ∀ (a a' r r' : List UInt8), (∀ x ∈ a, x ≠ c) → (∀ x ∈ a', x ≠ c) → a ++ c :: r = a' ++ c :: r' → a = a' ∧ r = r'
  | [], [], r, r', _, _, h => ⟨rfl, (List.cons.inj h).2⟩
  | [], y :: a', r, r', _, h2, h => absurd (List.cons.inj h).1.symm (h2 y (by simp))
  | x :: a, [], r, r', h1, _, h => absurd (List.cons.inj h).1 (h1 x (by simp))
  | x :: a, y :: a', r, r', h1, h2, h => by
    obtain ⟨e1, e2⟩ := List.cons.inj h
    obtain ⟨e3, e4⟩ := first_cut c a a' r r' (fun z hz => h1 z (by simp [hz])) (fun z hz => h2 z (by simp [hz])) e2
    exact ⟨by rw [e1, e3], e4⟩

/-- What a record's sum is of. -/
def recR (seq : Nat) (b : ByteArray) : ByteArray := decT seq ++ ⟨#[32]⟩ ++ decT b.size ++ ⟨#[10]⟩ ++ b
def recT (seq : Nat) (b : ByteArray) : ByteArray := decT (sumP (recR seq b)) ++ ⟨#[32]⟩ ++ recR seq b
def RecP (seq : Int) (b : ByteArray) : Prop := 1 ≤ seq ∧ seq ≤ 100000 ∧ b.size ≤ 2000
/-- A record's text, or nothing. -/
def recI (seq : Int) (b : ByteArray) : ByteArray := if 1 ≤ seq ∧ seq ≤ 100000 ∧ b.size ≤ 2000 then recT seq.toNat b else ⟨#[]⟩
/-- The text is that of this record. -/
def IsRec (s : ByteArray) (seq : Int) (b : ByteArray) : Prop := RecP seq b ∧ recT seq.toNat b = s
theorem recI_yes {seq : Int} {b : ByteArray} (h : RecP seq b) : recI seq b = recT seq.toNat b := if_pos h
theorem recI_no {seq : Int} {b : ByteArray} (h : ¬ RecP seq b) : recI seq b = ⟨#[]⟩ := if_neg h
theorem bs_recR (seq : Nat) (b : ByteArray) : bs (recR seq b) = Lib.decDigits seq ++ 32 :: (Lib.decDigits b.size ++ 10 :: bs b) := by
  unfold recR
  rw [bs_append, bs_append, bs_append, bs_append, bs_decT, bs_decT]
  show ((Lib.decDigits seq ++ [32]) ++ Lib.decDigits b.size ++ [10]) ++ bs b = _
  simp
theorem bs_recT (seq : Nat) (b : ByteArray) : bs (recT seq b) = Lib.decDigits (sumP (recR seq b)) ++ 32 :: bs (recR seq b) := by
  unfold recT
  rw [bs_append, bs_append, bs_decT]
  show (Lib.decDigits (sumP (recR seq b)) ++ [32]) ++ bs (recR seq b) = _
  simp
theorem recT_ne (seq : Nat) (b : ByteArray) : recT seq b ≠ ⟨#[]⟩ := fun e => by
  have h := bs_recT seq b
  rw [e] at h
  have h2 : (bs (⟨#[]⟩ : ByteArray)).length = 0 := rfl
  rw [h] at h2
  simp at h2
theorem IsRec.uniq {s : ByteArray} {q q' : Int} {b b' : ByteArray} (h : IsRec s q b) (h' : IsRec s q' b') : q = q' ∧ b = b' := by
  obtain ⟨⟨h1, h2, h3⟩, h4⟩ := h
  obtain ⟨⟨g1, g2, g3⟩, g4⟩ := h'
  have e : bs (recT q.toNat b) = bs (recT q'.toNat b') := by rw [h4, g4]
  rw [bs_recT, bs_recT] at e
  obtain ⟨_, e1⟩ := first_cut 32 _ _ _ _ (fun x hx => (dec_no _ x hx).1) (fun x hx => (dec_no _ x hx).1) e
  rw [bs_recR, bs_recR] at e1
  obtain ⟨e2, e3⟩ := first_cut 32 _ _ _ _ (fun x hx => (dec_no _ x hx).1) (fun x hx => (dec_no _ x hx).1) e1
  obtain ⟨_, e4⟩ := first_cut 10 _ _ _ _ (fun x hx => (dec_no _ x hx).2) (fun x hx => (dec_no _ x hx).2) e3
  have e5 := dec_inj e2
  exact ⟨by omega, bs_inj e4⟩

/-- A byte with its last bit turned. -/
def turnB (x : UInt8) : UInt8 := x ^^^ 1
set_option maxRecDepth 100000 in
theorem turn_all : ∀ n, n < 256 → ((turnB (UInt8.ofNat n)).toNat = n + 1 ∨ (turnB (UInt8.ofNat n)).toNat + 1 = n) ∧ ((48 ≤ n ∧ n ≤ 57) → 48 ≤ (turnB (UInt8.ofNat n)).toNat ∧ (turnB (UInt8.ofNat n)).toNat ≤ 57) := by decide
theorem turn_facts (x : UInt8) : ((turnB x).toNat = x.toNat + 1 ∨ (turnB x).toNat + 1 = x.toNat) ∧ (DigB x → DigB (turnB x)) := by
  have h := turn_all x.toNat x.toNat_lt
  rw [UInt8.ofNat_toNat] at h
  exact h
theorem rec_turn {s t : ByteArray} {q : Int} {b : ByteArray} (h : IsRec s q b) (i : Nat) (hi : i < (bs s).length) (ht : bs t = (bs s).set i (turnB ((bs s)[i]'hi))) : ¬ ∃ q' b', IsRec t q' b' := by
  rintro ⟨q', b', hp', e'⟩
  have hs : bs s = Lib.decDigits (sumP (recR q.toNat b)) ++ 32 :: bs (recR q.toNat b) := by rw [← h.2, bs_recT]
  have hT : bs t = Lib.decDigits (sumP (recR q'.toNat b')) ++ 32 :: bs (recR q'.toNat b') := by rw [← e', bs_recT]
  generalize hD : Lib.decDigits (sumP (recR q.toNat b)) = D at hs
  generalize hR : bs (recR q.toNat b) = R at hs
  have hdig : ∀ x ∈ D, DigB x := by rw [← hD]; exact dec_dig _
  have hno : ∀ x ∈ D, x ≠ 32 := by rw [← hD]; exact fun x hx => (dec_no _ x hx).1
  have hno' : ∀ x ∈ Lib.decDigits (sumP (recR q'.toNat b')), x ≠ 32 := fun x hx => (dec_no _ x hx).1
  have hg : (bs s)[i]? = some ((bs s)[i]'hi) := List.getElem?_eq_getElem hi
  generalize hx : (bs s)[i]'hi = x at ht hg
  have htf := turn_facts x
  rw [hs] at ht hg hi
  rcases Nat.lt_trichotomy i D.length with hl | hl | hl
  · -- a digit of the sum
    rw [List.set_append_left _ _ hl] at ht
    rw [List.getElem?_append_left hl] at hg
    have hxD : x ∈ D := List.mem_of_getElem? hg
    have hd := htf.2 (hdig x hxD)
    rw [hT] at ht
    obtain ⟨e1, e2⟩ := first_cut 32 _ _ _ _ hno' (fun z hz => by
      rcases List.mem_or_eq_of_mem_set hz with hz | hz
      · exact hno z hz
      · rw [hz]
        unfold DigB at hd
        exact fun e => by rw [e] at hd; exact absurd hd.1 (by decide)) ht
    have e3 : recR q'.toNat b' = recR q.toNat b := bs_inj (by rw [e2, hR])
    rw [e3, hD] at e1
    have e4 : D[i]? = some (turnB x) := by
      rw [e1]
      exact List.getElem?_set_self hl
    rw [hg] at e4
    have e5 := Option.some.inj e4
    have h6 := htf.1
    rw [← e5] at h6
    omega
  · -- the blank behind it
    have hxb : x = 32 := by
      rw [List.getElem?_append_right (by omega), hl, Nat.sub_self] at hg
      exact (Option.some.inj hg).symm
    have e33 : turnB x = 33 := by rw [hxb]; decide
    rw [e33, List.set_append_right _ _ (by omega), hl, Nat.sub_self] at ht
    have ht2 : bs t = D ++ 33 :: R := ht
    rw [hT] at ht2
    have h33 : (33 : UInt8) ∈ Lib.decDigits (sumP (recR q'.toNat b')) ∨ (Lib.decDigits (sumP (recR q'.toNat b'))).length ≤ D.length := by
      by_cases hc : (Lib.decDigits (sumP (recR q'.toNat b'))).length ≤ D.length
      · exact .inr hc
      · refine .inl (List.mem_of_getElem? (i := D.length) ?_)
        have e := congrArg (fun l : List UInt8 => l[D.length]?) ht2
        rw [List.getElem?_append_left (by omega), List.getElem?_append_right (Nat.le_refl _), Nat.sub_self] at e
        exact e
    rcases h33 with h33 | h33
    · have := dec_dig _ _ h33
      unfold DigB at this
      exact absurd this.1 (by decide)
    · have e := congrArg (fun l : List UInt8 => l[(Lib.decDigits (sumP (recR q'.toNat b'))).length]?) ht2
      rw [List.getElem?_append_right (Nat.le_refl _), Nat.sub_self] at e
      rcases Nat.lt_or_ge (Lib.decDigits (sumP (recR q'.toNat b'))).length D.length with hc | hc
      · rw [List.getElem?_append_left hc] at e
        exact hno 32 (List.mem_of_getElem? e.symm) rfl
      · have hc2 : (Lib.decDigits (sumP (recR q'.toNat b'))).length = D.length := by omega
        rw [hc2, List.getElem?_append_right (Nat.le_refl _), Nat.sub_self] at e
        have e9 : (32 : UInt8) = 33 := Option.some.inj e
        exact absurd e9 (by decide)
  · -- behind the blank
    obtain ⟨k, rfl⟩ : ∃ k, i = D.length + (k + 1) := ⟨i - D.length - 1, by omega⟩
    rw [List.set_append_right _ _ (by omega), Nat.add_sub_cancel_left, List.set_cons_succ] at ht
    rw [List.getElem?_append_right (by omega), Nat.add_sub_cancel_left, List.getElem?_cons_succ] at hg
    have hk : k < R.length := (List.getElem?_eq_some_iff.1 hg).1
    have hgx : R[k]'hk = x := (List.getElem?_eq_some_iff.1 hg).2
    rw [hT] at ht
    obtain ⟨e1, e2⟩ := first_cut 32 _ _ _ _ hno' hno ht
    rw [← hD] at e1
    have e3 := dec_inj e1
    have m1 := sumP_mod (recR q'.toNat b')
    have m2 := sumP_mod (recR q.toNat b)
    rw [e3] at m1
    rw [e2] at m1
    rw [hR] at m2
    have h7 := sumN_set R k (turnB x) hk
    rw [hgx] at h7
    have h8 := htf.1
    omega

end Go.Proofs.YtalicfiadbmdeaaDoor

namespace Go.Proofs.YtalicfiadbmdeaaDoor
open Go.RowKit
open Go.Lib hiding intOf

attribute [local go_sem ↓] Go.wp_at_zero Go.wp_at_succ

theorem heap_set (w : World) (c o : Nat) (cs : Array Value) (t : TypeId) (fz : Nat × Nat) (v : Value) (h : w.heap[c]? = some (.cells cs t fz)) : (w.setCell ⟨c, o, none⟩ v).heap[c]? = some (.cells (cs.setIfInBounds o v) t fz) := by
  simp [World.setCell, Array.getElem?_modify, h]
end Go.Proofs.YtalicfiadbmdeaaDoor

namespace Go.Proofs.YtalicfiadbmdeaaDoor
open Go.RowKit
open Go.Lib hiding intOf

set_option maxHeartbeats 400000 in
theorem l1In_any (x lo hi : Int) (w : World) :
    Calls Tryd.prog 23 #[.int .i64 x, .int .i64 lo, .int .i64 hi] w fun e w' => e = .returned (.bool (decide (lo ≤ x ∧ x ≤ hi))) ∧ w' = w := by
  by_cases h1 : lo ≤ x
  · by_cases h2 : x ≤ hi
    · go_enter Tryd.func23, Tryd.ntmps23
      go_wp2
      go_ret
      exact ⟨by simp [h1, h2], rfl⟩
    · go_enter Tryd.func23, Tryd.ntmps23
      go_wp2
      go_ret
      exact ⟨by simp [h2], rfl⟩
  · go_enter Tryd.func23, Tryd.ntmps23
    go_wp2
    go_ret
    exact ⟨by simp; omega, rfl⟩

end Go.Proofs.YtalicfiadbmdeaaDoor

namespace Go.Proofs.YtalicfiadbmdeaaDoor
open Go.RowKit
open Go.Lib hiding intOf

/-- A call answers a number and turns nothing. -/
def NatIs (n : Nat) (w : World) (e : Ending) (w' : World) : Prop := e = .returned (.int .i64 (n : Int)) ∧ w' = w
theorem bsAt {s : ByteArray} {j : Nat} (h : j < s.size) : (bs s)[j]? = some (s[j]'h) := by
  unfold bs
  exact byte_get s j h
set_option maxHeartbeats 2000000 in
theorem specSum_any (s : ByteArray) (w : World) (hs : s.size ≤ maxLen) :
    Calls Tryd.prog 16 #[.string s] w fun e w' => NatIs (sumP s) w e w' := by
  unfold maxLen at hs
  go_enter Tryd.func16, Tryd.ntmps16
  go_wp2
  go_loopw [3, 4, 5] (fun a b i wr => ∃ (k A B : Nat), k ≤ s.size ∧ i = .int .i64 (k : Int) ∧ a = .int .i64 (A : Int) ∧ b = .int .i64 (B : Int) ∧ A < 65521 ∧ B < 65521 ∧ wr = w ∧ Hid ((A, B) = sumL (1, 0) ((bs s).take k))) (fun _ _ i _ => s.size - (intOf i).toNat)
  case atStart => exact ⟨0, 1, 0, Nat.zero_le _, rfl, rfl, rfl, by omega, by omega, rfl, rfl⟩
  case round =>
    obtain ⟨k, A, B, hk, rfl, rfl, rfl, hA, hB, rfl, HS⟩ := hrel
    by_cases hlt : (k : Int) < (s.size : Int)
    · have hk2 : k < s.size := by omega
      have hx : (s[k]'hk2).toNat < 256 := (s[k]'hk2).toNat_lt
      have HSX : Hid ((bs s).take (k + 1) = (bs s).take k ++ [s[k]'hk2]) := by
        rw [Hid, List.take_add_one, bsAt hk2]
        rfl
      go_wp2
      go_roundw
      case rel =>
        refine ⟨k + 1, (A + (s[k]'hk2).toNat) % 65521, (B + (A + (s[k]'hk2).toNat) % 65521) % 65521, by omega, by simp, ?_, ?_, Nat.mod_lt _ (by decide), Nat.mod_lt _ (by decide), trivial, ?_⟩
        · congr 1
        · congr 1
        · rw [Hid, HSX.out, sumL_snoc, ← HS.out]
      case measure => simp [intOf]; omega
    · have HE : Hid ((A, B) = sumL (1, 0) (bs s)) := by
        have h := HS.out
        rw [List.take_of_length_le (by rw [bs_len]; omega)] at h
        exact h
      go_wp2
      go_ret
      refine ⟨?_, rfl⟩
      have h := HE.out
      unfold sumP
      rw [← h]
      simp

/-- The digits of a number, none of nothing. -/
def dgZ (m : Nat) : List UInt8 := if m = 0 then [] else Lib.decDigits m
theorem dgZ_pos (m : Nat) (h : m ≠ 0) : dgZ m = dgZ (m / 10) ++ [UInt8.ofNat (48 + m % 10)] := by
  unfold dgZ
  rw [if_neg h, Lib.decDigits]
  split
  · rename_i h2
    rw [if_pos (show m / 10 = 0 by omega), Nat.mod_eq_of_lt h2]
    rfl
  · rename_i h2
    rw [if_neg (show ¬ m / 10 = 0 by omega)]
set_option maxHeartbeats 2000000 in
theorem l13Digits_any (n : Nat) (w : World) (hn : n ≤ 4293001440) :
    Calls Tryd.prog 24 #[.int .i64 (n : Int)] w fun e w' => TextIs (decT n) w e w' := by
  by_cases h0 : n = 0
  · subst h0
    have HD : Hid (decT 0 = ⟨#[48]⟩) := by unfold decT; rw [Lib.decDigits_one (by decide)]; rfl
    go_enter Tryd.func24, Tryd.ntmps24
    go_wp2
    go_ret
    exact TextIs.of HD.out.symm (Below.refl _ _)
  · have hne : ((n : Int) == 0) = false := by rw [beq_eq_false_iff_ne]; omega
    have hcv := conv_one
    go_enter Tryd.func24, Tryd.ntmps24
    go_wp2
    go_loopw [0, 3] (fun a b wr => ∃ (f m : Nat) (out : ByteArray), a = .int .i64 (m : Int) ∧ b = .string out ∧ m ≤ 4293001440 ∧ f ≤ 10 ∧ out.size ≤ 10 - f ∧ Below w.heap.size w wr ∧ Hid (m < 10 ^ f ∧ dgZ m ++ out.data.toList = Lib.decDigits n)) (fun a _ _ => (intOf a).toNat)
    case atStart => exact ⟨10, n, _, rfl, rfl, hn, Nat.le_refl _, Nat.le_refl _, Below.refl _ _, ⟨by omega, by simp [dgZ, h0]⟩⟩
    case round =>
      obtain ⟨f, m, out, rfl, rfl, hm, hf8, hsz, hbw, hd⟩ := hrel
      by_cases hp : (0 : Int) < (m : Int)
      · have hone : ∀ d : Int, (strOfNums [d]).size = 1 := fun d => strOfNums_size [d]
        go_wp2
        go_roundw
        case rel =>
          obtain ⟨hf, hdg⟩ := hd.out
          cases f with
          | zero => simp at hf; omega
          | succ f =>
            rw [Nat.pow_succ] at hf
            refine ⟨f, m / 10, strOfNums [48 + (m : Int) % 10] ++ out, by simp, rfl, by omega, by omega, ?_, hbw.alloc hbw.size _, by omega, ?_⟩
            · rw [ByteArray.size_append, hone]; omega
            · have e : (strOfNums [48 + (m : Int) % 10]).data.toList = [UInt8.ofNat (48 + m % 10)] := by
                rw [strOfNums_data]
                have : (48 + (m : Int) % 10).toNat = 48 + m % 10 := by omega
                simp only [List.map_cons, List.map_nil, this]
              rw [dgZ_pos m (by omega), List.append_assoc] at hdg
              rw [← hdg, ByteArray.data_append, Array.toList_append, e]
        case measure => simp [intOf]; omega
      · have hT : Hid (out = decT n) := by
          obtain ⟨_, h⟩ := hd.out
          have e : m = 0 := by omega
          rw [e] at h
          exact bs_inj (by rw [bs_decT]; exact h)
        go_wp2
        go_ret
        exact TextIs.of hT.out hbw

theorem dec_len (n : Nat) (h : n ≤ 4293001440) : (decT n).size ≤ 10 := by
  have e : (decT n).size = (Lib.decDigits n).length := by rw [← bs_len, bs_decT]
  rw [e]
  have key : ∀ (f m : Nat), m < 10 ^ (f + 1) → (Lib.decDigits m).length ≤ f + 1 := by
    intro f
    induction f with
    | zero => intro m hm; rw [Lib.decDigits_one (by simpa using hm)]; exact Nat.le_refl _
    | succ f ih =>
      intro m hm
      rw [Lib.decDigits]
      split
      · simp
      · rw [List.length_append]
        have := ih (m / 10) (by rw [Nat.pow_succ] at hm; omega)
        simp only [List.length_cons, List.length_nil]
        omega
  exact key 9 n (by omega)
theorem recR_size (seq : Nat) (b : ByteArray) (h1 : seq ≤ 100000) (h2 : b.size ≤ 2000) : (recR seq b).size ≤ 3000 := by
  unfold recR
  rw [ByteArray.size_append, ByteArray.size_append, ByteArray.size_append, ByteArray.size_append]
  have e1 := dec_len seq (by omega)
  have e2 := dec_len b.size (by omega)
  have e3 : (⟨#[32]⟩ : ByteArray).size = 1 := rfl
  have e4 : (⟨#[10]⟩ : ByteArray).size = 1 := rfl
  omega
set_option maxHeartbeats 4000000 in
theorem specRecText_any (seq : Int) (b : ByteArray) (w : World) (hb : b.size ≤ 4000000) :
    Calls Tryd.prog 9 #[.int .i64 seq, .string b] w fun e w' => TextIs (recI seq b) w e w' := by
  by_cases h1 : 1 ≤ seq ∧ seq ≤ 100000
  · by_cases h2 : b.size ≤ 2000
    · obtain ⟨q, rfl⟩ : ∃ q : Nat, seq = (q : Int) := ⟨seq.toNat, by omega⟩
      have hq : q ≤ 100000 := by omega
      have h3 : ¬ (2000 : Int) < (b.size : Int) := by omega
      have hin : decide ((1 : Int) ≤ (q : Int) ∧ (q : Int) ≤ 100000) = true := decide_eq_true h1
      have HR : Hid (recI (q : Int) b = recT q b) := recI_yes ⟨h1.1, h1.2, h2⟩
      have HRS : Hid ((recR q b).size ≤ 3000) := recR_size q b hq h2
      clear h1
      go_enter Tryd.func9, Tryd.ntmps9
      go_wp2_with fail
      refine (l1In_any _ _ _ _).mono ?_
      rintro e w1 ⟨rfl, rfl⟩
      rw [hin]
      clear hin
      go_wp2_with fail
      refine (l13Digits_any q _ (by omega)).mono ?_
      rintro e w2 ⟨rfl, b2⟩
      have HB2 : Hid (Below w1.heap.size w1 w2) := b2
      have hz1 := dec_len q (by omega)
      have hz2 := dec_len b.size (by omega)
      clear b2
      go_wp2_with fail
      refine (l13Digits_any b.size _ (by omega)).mono ?_
      rintro e w3 ⟨rfl, b3⟩
      have HB3 : Hid (Below w1.heap.size w1 w3) := HB2.out.trans (b3.mono HB2.out.size)
      clear b3 HB2
      go_wp2_with fail
      obtain ⟨R, hR⟩ : ∃ R, R = decT q ++ ⟨#[32]⟩ ++ decT b.size ++ ⟨#[10]⟩ ++ b := ⟨_, rfl⟩
      rw [← hR]
      have HRE : Hid (R = recR q b) := hR
      have hRz : R.size ≤ 3000 := by rw [HRE.out]; exact HRS.out
      clear hR
      refine (specSum_any R _ (by unfold maxLen; omega)).mono ?_
      rintro e w4 ⟨rfl, hw4⟩
      rw [hw4]
      clear hw4 w4
      have hz3 := dec_len (sumP R) (sumP_le R)
      go_wp2_with fail
      refine (l13Digits_any (sumP R) _ (sumP_le R)).mono ?_
      rintro e w4 ⟨rfl, b4⟩
      have HB4 : Hid (Below w1.heap.size w1 w4) := HB3.out.trans (b4.mono HB3.out.size)
      clear b4 HB3
      go_wp2_with fail
      go_ret
      exact TextIs.of (by rw [HR.out, recT, ← HRE.out]) HB4.out
    · have h3 : (2000 : Int) < (b.size : Int) := by omega
      have hin : decide ((1 : Int) ≤ seq ∧ seq ≤ 100000) = true := decide_eq_true h1
      have HR : Hid (recI seq b = ⟨#[]⟩) := recI_no (fun h => h2 h.2.2)
      clear h1
      go_enter Tryd.func9, Tryd.ntmps9
      go_wp2_with fail
      refine (l1In_any _ _ _ _).mono ?_
      rintro e w1 ⟨rfl, rfl⟩
      rw [hin]
      clear hin
      go_wp2_with fail
      go_ret
      exact TextIs.of HR.out.symm (Below.refl _ _)
  · have hin : decide ((1 : Int) ≤ seq ∧ seq ≤ 100000) = false := decide_eq_false h1
    have HR : Hid (recI seq b = ⟨#[]⟩) := recI_no (fun h => h1 ⟨h.1, h.2.1⟩)
    clear h1
    go_enter Tryd.func9, Tryd.ntmps9
    go_wp2_with fail
    refine (l1In_any _ _ _ _).mono ?_
    rintro e w1 ⟨rfl, rfl⟩
    rw [hin]
    clear hin
    go_wp2_with fail
    go_ret
    exact TextIs.of HR.out.symm (Below.refl _ _)

/-- A call answers the record that a text is, and true; or nothing and false. -/
def RecIs (s : ByteArray) (w : World) (e : Ending) (w' : World) : Prop :=
  Below w.heap.size w w' ∧ ((∃ q b, IsRec s q b ∧ e = .returned (.tuple #[.int .i64 q, .string b, .bool true])) ∨ ((∀ q b, ¬ IsRec s q b) ∧ e = .returned (.tuple #[.int .i64 0, .string ⟨#[]⟩, .bool false])))
/-- Tried by its number and what is behind its line. -/
theorem rec_iff {s : ByteArray} {q : Int} {b : ByteArray} : (¬ s = ⟨#[]⟩ ∧ recI q b = s) ↔ IsRec s q b := by
  constructor
  · rintro ⟨h1, h2⟩
    by_cases h : RecP q b
    · exact ⟨h, by rw [← recI_yes h]; exact h2⟩
    · rw [recI_no h] at h2
      exact absurd h2.symm h1
  · rintro ⟨h1, h2⟩
    exact ⟨fun e => recT_ne q.toNat b (h2.trans e), by rw [recI_yes h1]; exact h2⟩

end Go.Proofs.YtalicfiadbmdeaaDoor

namespace Go.Proofs.YtalicfiadbmdeaaDoor
open Go.RowKit
open Go.Lib hiding intOf

/-- A call answers a number, and what was there stays. -/
def NatB (n : Nat) (w : World) (e : Ending) (w' : World) : Prop := e = .returned (.int .i64 (n : Int)) ∧ Below w.heap.size w w'
set_option maxHeartbeats 2000000 in
theorem implSum_any (s : ByteArray) (w : World) (hs : s.size ≤ maxLen) :
    Calls Tryd.prog 15 #[.string s] w fun e w' => NatB (sumP s) w e w' := by
  unfold maxLen at hs
  go_enter Tryd.func15, Tryd.ntmps15
  go_wp2
  go_loopw [3, 4, 8] (fun a b i wr => ∃ (k A B : Nat), k ≤ s.size ∧ i = .int .i64 (k : Int) ∧ a = .int .i64 (A : Int) ∧ b = .int .i64 (B : Int) ∧ A < 65521 ∧ B < 65521 ∧ wr = w ∧ Hid ((A, B) = sumL (1, 0) ((bs s).take k))) (fun _ _ i _ => s.size - (intOf i).toNat)
  case atStart => exact ⟨0, 1, 0, Nat.zero_le _, rfl, rfl, rfl, by omega, by omega, rfl, rfl⟩
  case round =>
    obtain ⟨k, A, B, hk, rfl, rfl, rfl, hA, hB, rfl, HS⟩ := hrel
    by_cases hlt : (k : Int) < (s.size : Int)
    · have hk2 : k < s.size := by omega
      have hx : (s[k]'hk2).toNat < 256 := (s[k]'hk2).toNat_lt
      have HSX : Hid ((bs s).take (k + 1) = (bs s).take k ++ [s[k]'hk2]) := by
        rw [Hid, List.take_add_one, bsAt hk2]
        rfl
      go_wp2
      go_roundw
      case rel =>
        refine ⟨k + 1, (A + (s[k]'hk2).toNat) % 65521, (B + (A + (s[k]'hk2).toNat) % 65521) % 65521, by omega, by simp, ?_, ?_, Nat.mod_lt _ (by decide), Nat.mod_lt _ (by decide), trivial, ?_⟩
        · congr 1
        · congr 1
        · rw [Hid, HSX.out, sumL_snoc, ← HS.out]
      case measure => simp [intOf]; omega
    · have HE : Hid ((A, B) = sumL (1, 0) (bs s)) := by
        have h := HS.out
        rw [List.take_of_length_le (by rw [bs_len]; omega)] at h
        exact h
      go_wp2
      go_ret
      refine ⟨?_, Below.refl _ _⟩
      have h := HE.out
      unfold sumP
      rw [← h]
      simp

end Go.Proofs.YtalicfiadbmdeaaDoor

namespace Go.Proofs.YtalicfiadbmdeaaDoor
open Go.RowKit
open Go.Lib hiding intOf

theorem and255 (x : Int) : 0 ≤ bits BinOp.and IntKind.i64 x 255 ∧ bits BinOp.and IntKind.i64 x 255 < 256 := by
  have h : (BitVec.ofInt 64 x &&& BitVec.ofInt 64 255).toNat ≤ 255 := by
    rw [BitVec.toNat_and]
    exact Nat.and_le_right
  unfold bits
  simp only
  rw [IntKind.wrap_i64]
  show 0 ≤ (((BitVec.ofInt 64 x &&& BitVec.ofInt 64 255).toNat : Int) + 9223372036854775808) % 18446744073709551616 - 9223372036854775808 ∧ (((BitVec.ofInt 64 x &&& BitVec.ofInt 64 255).toNat : Int) + 9223372036854775808) % 18446744073709551616 - 9223372036854775808 < 256
  omega

/-- The bytes that a draw reads: a slice that came in, in blocks below B. -/
structure CodeAt (w : World) (B : Nat) (a : Option Addr) (len : Nat) (zs : List Int) : Prop where
  le : len ≤ 1048576
  get : ∀ j, j < len → ∃ b off, a = some ⟨b, off, none⟩ ∧ b < B ∧ w.cell? ⟨b, off + j, none⟩ = some (.int .u8 (zs.getD j 0)) ∧ 0 ≤ zs.getD j 0 ∧ zs.getD j 0 ≤ 255
theorem CodeAt.below {w w' : World} {B : Nat} {a : Option Addr} {len : Nat} {zs : List Int} (h : CodeAt w B a len zs) (hb : Below B w w') : CodeAt w' B a len zs :=
  ⟨h.le, fun j hj => by
    obtain ⟨b, off, h1, h2, h3, h4⟩ := h.get j hj
    exact ⟨b, off, h1, h2, by rw [hb.cell (p := ⟨b, off + j, none⟩) h2]; exact h3, h4⟩⟩
theorem CodeAt.upTo {w : World} {B C : Nat} {a : Option Addr} {len : Nat} {zs : List Int} (h : CodeAt w B a len zs) (hC : B ≤ C) : CodeAt w C a len zs :=
  ⟨h.le, fun j hj => by
    obtain ⟨b, off, h1, h2, h3⟩ := h.get j hj
    exact ⟨b, off, h1, by omega, h3⟩⟩
/-- The cursor lies in block c. -/
def CurAt (w : World) (c : Nat) (a : Option Addr) (len cap : Nat) : Prop :=
  ∃ (i : Nat) (h : Int), i ≤ len ∧ w.heap[c]? = some (.cells #[.slice a len cap, .int .i64 (i : Int), .int .i64 h] 63 (0, 0))
theorem CurAt.lt {w : World} {c : Nat} {a : Option Addr} {len cap : Nat} (h : CurAt w c a len cap) : c < w.heap.size := by
  obtain ⟨i, h, _, hh⟩ := h
  exact (Array.getElem?_eq_some_iff.1 hh).1
theorem CurAt.below {w w' : World} {B c : Nat} {a : Option Addr} {len cap : Nat} (h : CurAt w c a len cap) (hb : Below B w w') (hc : c < B) : CurAt w' c a len cap := by
  obtain ⟨i, h, hi, hh⟩ := h
  exact ⟨i, h, hi, by rw [hb.block c hc]; exact hh⟩

theorem heap_setCell_self (w : World) (c o : Nat) (cs : Array Value) (t : TypeId) (fz : Nat × Nat) (v : Value) (h : w.heap[c]? = some (.cells cs t fz)) : (w.setCell ⟨c, o, none⟩ v).heap[c]? = some (.cells (cs.setIfInBounds o v) t fz) := by
  simp [World.setCell, Array.getElem?_modify, h]

theorem grownBy_drewN {a w : World} {row : Option Nat} (h : a.grownBy w row) (n : Nat) : a.grownBy (w.drewN n) row := ⟨h.os, h.tape, h.output, h.size, h.block⟩

/-- A call on the cursor answers a number from 0 to below m, and turns the cursor alone of what was there. -/
def DrawIs (m : Int) (w : World) (c : Nat) (a : Option Addr) (len cap : Nat) (e : Ending) (w' : World) : Prop :=
  ∃ x : Int, e = .returned (.int .i64 x) ∧ 0 ≤ x ∧ x < m ∧ CurAt w' c a len cap ∧ w.grownBy w' (some c)

set_option maxHeartbeats 1000000 in
theorem l1Byte_any (c B : Nat) (a : Option Addr) (len cap : Nat) (zs : List Int) (w : World) (hcur : CurAt w c a len cap) (hcode : CodeAt w B a len zs) (hB : B ≤ c) :
    Calls Tryd.prog 33 #[.pointer (some ⟨c, 0, none⟩)] w fun e w' => DrawIs 256 w c a len cap e w' := by
  obtain ⟨i, h, hi1, hh⟩ := hcur
  have hc0 : w.cell? ⟨c, 0, none⟩ = some (.slice a len cap) := by simp [World.cell?, hh]
  have hc1 : w.cell? ⟨c, 1, none⟩ = some (.int .i64 (i : Int)) := by simp [World.cell?, hh]
  have hc2 : w.cell? ⟨c, 2, none⟩ = some (.int .i64 h) := by simp [World.cell?, hh]
  have hf1 : w.frozen? ⟨c, 1, none⟩ = false := by simp [World.frozen?, hh]
  have hf2 : w.frozen? ⟨c, 2, none⟩ = false := by simp [World.frozen?, hh]
  have HH : Hid _ := hh
  clear hh
  have hlen := hcode.le
  by_cases hlt : (i : Int) < (len : Int)
  · obtain ⟨b, off, rfl, hbB, hcell, hz0, hz1⟩ := hcode.get i (by omega)
    have hcell2 : ∀ o v, (w.setCell ⟨c, o, none⟩ v).cell? ⟨b, off + i, none⟩ = some (.int .u8 (zs.getD i 0)) := fun o v => by
      rw [World.cell?_setCell_other (h := fun e => by cases e; omega)]; exact hcell
    obtain ⟨z, hz⟩ : ∃ z, z = zs.getD i 0 := ⟨_, rfl⟩
    rw [← hz] at hcell2 hz0 hz1
    clear hz hcell hcode
    go_enter Tryd.func33, Tryd.ntmps33
    go_wp2
    go_quiet (fail)
    go_wp2
    go_quiet (fail)
    go_wp2
    go_quiet (fail)
    go_wp2
    go_ret
    exact ⟨_, rfl, (and255 _).1, (and255 _).2, ⟨i + 1, _, by omega, heap_setCell_self _ c 1 _ _ _ _ (heap_setCell_self w c 2 _ _ _ _ HH.out)⟩, grownBy_setB (grownBy_drewN (grownBy_setCell w c 2 _) _) 1 _⟩
  · go_enter Tryd.func33, Tryd.ntmps33
    go_wp2
    go_quiet (fail)
    go_wp2
    go_quiet (fail)
    go_wp2
    go_ret
    exact ⟨_, rfl, (and255 _).1, (and255 _).2, ⟨i, _, hi1, heap_setCell_self w c 2 _ _ _ _ HH.out⟩, grownBy_drewN (grownBy_drewN (grownBy_setCell w c 2 _) _) _⟩

set_option maxHeartbeats 1000000 in
theorem l1Below_any (c B : Nat) (m : Int) (a : Option Addr) (len cap : Nat) (zs : List Int) (w : World) (hcur : CurAt w c a len cap) (hcode : CodeAt w B a len zs) (hB : B ≤ c) (hm : 1 ≤ m) (hm2 : m ≤ 256) :
    Calls Tryd.prog 20 #[.pointer (some ⟨c, 0, none⟩), .int .i64 m] w fun e w' => DrawIs m w c a len cap e w' := by
  have hm0 : ¬ m ≤ 0 := by omega
  go_enter Tryd.func20, Tryd.ntmps20
  go_wp2_with fail
  refine (l1Byte_any c B a len cap zs _ hcur hcode hB).mono ?_
  rintro e w1 ⟨x, rfl, hx0, hx1, hcur1, hg1⟩
  go_wp2_with fail
  go_ret
  exact ⟨x % m, rfl, Int.emod_nonneg _ (by omega), Int.emod_lt_of_pos _ (by omega), hcur1, hg1⟩

/-- A list of n texts that the caller has laid, text j by 'f j'. -/
def ListAt (w : World) (g n : Nat) (f : Nat → ByteArray) : Prop := ∀ j, j < n → w.cell? ⟨g, j, none⟩ = some (.string (f j))

theorem grown_cell {w w' : World} {c : Nat} (hg : w.grownBy w' (some c)) {g j : Nat} {v : Value} (h : w.cell? ⟨g, j, none⟩ = some v) (hne : g ≠ c) : w'.cell? ⟨g, j, none⟩ = some v :=
  hg.cell h (fun e => hne (Option.some.inj e))

set_option maxHeartbeats 1000000 in
theorem l1Pick_any (c B g n : Nat) (f : Nat → ByteArray) (a : Option Addr) (len cap : Nat) (zs : List Int) (w : World) (hcur : CurAt w c a len cap) (hcode : CodeAt w B a len zs) (hB : B ≤ c) (hn : 1 ≤ n) (hn2 : n ≤ 256) (hl : ListAt w g n f) (hgc : g ≠ c) :
    Calls Tryd.prog 32 #[.pointer (some ⟨c, 0, none⟩), .slice (some ⟨g, 0, none⟩) n n] w fun e w' => ∃ j, j < n ∧ e = .returned (.string (f j)) ∧ CurAt w' c a len cap ∧ w.grownBy w' (some c) := by
  go_enter Tryd.func32, Tryd.ntmps32
  go_wp2_with fail
  refine (l1Below_any c B n a len cap zs _ hcur hcode hB (by omega) (by omega)).mono ?_
  rintro e w1 ⟨x, rfl, hx0, hx1, hcur1, hg1⟩
  obtain ⟨j, rfl⟩ := Int.eq_ofNat_of_zero_le hx0
  have hj : j < n := by omega
  have hcell : w1.cell? ⟨g, j, none⟩ = some (.string (f j)) := grown_cell hg1 (hl j hj) hgc
  go_wp2
  go_ret
  exact ⟨j, hj, rfl, hcur1, hg1⟩

set_option maxHeartbeats 1000000 in
theorem l1New_any (B : Nat) (a : Option Addr) (len cap : Nat) (zs : List Int) (w : World) (hcode : CodeAt w B a len zs) :
    Calls Tryd.prog 17 #[.slice a len cap] w fun e w' => e = .returned (.pointer (some ⟨w.heap.size, 0, none⟩)) ∧ CurAt w' w.heap.size a len cap ∧ Below w.heap.size w w' := by
  have hlen := hcode.le
  go_enter Tryd.func17, Tryd.ntmps17
  go_wp2
  go_loop [3, 4] (fun h i => ∃ (k : Nat) (x : Int), k ≤ len ∧ i = .int .i64 (k : Int) ∧ h = .int .i64 x) (fun _ i => len - (intOf i).toNat)
  case atStart => exact ⟨0, _, Nat.zero_le _, rfl, rfl⟩
  case round =>
    obtain ⟨k, x, hk, rfl, rfl⟩ := hrel
    by_cases hlt : (k : Int) < (len : Int)
    · by_cases h4 : (k : Int) < 4000
      · obtain ⟨b, off, rfl, hbB, hcell, hz0, hz1⟩ := hcode.get k (by omega)
        clear hcode
        go_wp2
        go_round
        case rel => exact ⟨k + 1, _, by omega, by go_num, rfl⟩
        case measure => simp [intOf]; omega
      · go_wp2
        go_ret
        exact ⟨rfl, ⟨0, x, Nat.zero_le _, heap_alloc_new w _⟩, (Below.refl _ _).alloc (Nat.le_refl _) _⟩
    · go_wp2
      go_ret
      exact ⟨rfl, ⟨0, x, Nat.zero_le _, heap_alloc_new w _⟩, (Below.refl _ _).alloc (Nat.le_refl _) _⟩

end Go.Proofs.YtalicfiadbmdeaaDoor

namespace Go.Proofs.YtalicfiadbmdeaaDoor
open Go.RowKit
open Go.Lib hiding intOf

theorem CodeAt.grown {w w' : World} {B c : Nat} {a : Option Addr} {len : Nat} {zs : List Int} (h : CodeAt w B a len zs) (hg : w.grownBy w' (some c)) (hB : B ≤ c) : CodeAt w' B a len zs :=
  ⟨h.le, fun j hj => by
    obtain ⟨b, off, h1, h2, h3, h4⟩ := h.get j hj
    exact ⟨b, off, h1, h2, grown_cell hg h3 (by omega), h4⟩⟩
theorem CurAt.grown {w w' : World} {c : Nat} {row : Option Nat} {a : Option Addr} {len cap : Nat} (h : CurAt w c a len cap) (hg : w.grownBy w' row) (hne : row ≠ some c) : CurAt w' c a len cap := by
  have hlt := h.lt
  obtain ⟨i, h, hi, hh⟩ := h
  exact ⟨i, h, hi, by rw [hg.block c hlt (fun e => hne e.symm)]; exact hh⟩
theorem owns_grown {w w' : World} {base c : Nat} {e : TypeId} {size : Nat} {v : Value} {n : Nat} {xs : List Value} (h : w.ownsRow base e size v n xs) (hg : w.grownBy w' (some c)) (hc : c < base) : w'.ownsRow base e size v n xs := by
  refine ⟨h.1, ?_⟩
  rcases h.2 with h2 | ⟨g, cap, cur, rfl, h3, h4, h5⟩
  · exact .inl h2
  · exact .inr ⟨g, cap, cur, rfl, h3, by rw [hg.block g (Array.getElem?_eq_some_iff.1 h4).1 (fun e => by cases e; omega)]; exact h4, h5⟩
/-- A step that turns only a block which came later. -/
theorem grown_later {a w w' : World} {row r : Option Nat} (h : a.grownBy w row) (k : w.grownBy w' r) (hr : ∀ g, r = some g → a.heap.size ≤ g) : a.grownBy w' row :=
  ⟨k.os.trans h.os, k.tape.trans h.tape, k.output.trans h.output, Nat.le_trans h.size k.size, fun i hi hne => (k.block i (Nat.lt_of_lt_of_le hi h.size) (fun e => by have := hr i e.symm; omega)).trans (h.block i hi hne)⟩

theorem listAt_alloc (w : World) (xs : List ByteArray) : ListAt (w.alloc (.cells (xs.map Value.string).toArray 9)) w.heap.size xs.length (textAt xs) := by
  intro j hj
  rw [World.cell?_alloc_new]
  simp [textAt, List.getD_eq_getElem?_getD, hj]

/-- A call on the cursor answers a text of at most m bytes, and turns the cursor alone of what was there. -/
def TextDrawn (m : Nat) (w : World) (c : Nat) (a : Option Addr) (len cap : Nat) (e : Ending) (w' : World) : Prop :=
  ∃ t : ByteArray, e = .returned (.string t) ∧ t.size ≤ m ∧ CurAt w' c a len cap ∧ w.grownBy w' (some c)

def pickL : List ByteArray := [⟨#[32]⟩, ⟨#[44]⟩, ⟨#[97]⟩, ⟨#[90]⟩, ⟨#[55]⟩, ⟨#[45]⟩, ⟨#[61]⟩, ⟨#[120]⟩, ⟨#[58]⟩, ⟨#[1]⟩, ⟨#[64]⟩, ⟨#[91]⟩]
theorem pickL_one : ∀ j, j < 12 → (textAt pickL j).size = 1 := by decide

set_option maxHeartbeats 2000000 in
set_option maxRecDepth 100000 in
theorem l1DrawText_any (c B : Nat) (a : Option Addr) (len cap : Nat) (zs : List Int) (w : World) (hcur : CurAt w c a len cap) (hcode : CodeAt w B a len zs) (hB : B ≤ c) :
    Calls Tryd.prog 18 #[.pointer (some ⟨c, 0, none⟩)] w fun e w' => TextDrawn 14 w c a len cap e w' := by
  obtain ⟨i0, hi, hz0, hz1, hz2⟩ := info_parts info5
  have hcw := hcur.lt
  go_enter Tryd.func18, Tryd.ntmps18
  go_wp2
  go_loopw [3, 4] (fun v i wr => ∃ (k : Nat) (xs : List Int), k ≤ 14 ∧ i = .int .i64 (k : Int) ∧ wr.ownsRow w.heap.size 5 1 v k (xs.map (Value.int .u8)) ∧ CurAt wr c a len cap ∧ w.grownBy wr (some c)) (fun _ i _ => 14 - (intOf i).toNat)
  case atStart => exact ⟨0, [], Nat.zero_le _, rfl, ⟨rfl, .inr ⟨w.heap.size, 0, #[], rfl, Nat.le_refl _, heap_alloc_new w _, Nat.le_refl _, Nat.zero_le _, rfl, rfl⟩⟩, hcur.below ((Below.refl _ _).alloc (Nat.le_refl _) _) hcw, World.grownBy_alloc w _ _⟩
  case round =>
    obtain ⟨k, xs, hk, rfl, hown, hcu, hgw⟩ := hrel
    have hxl : xs.length = k := by have := hown.1; simpa using this
    have HXL : Hid (xs.length = k) := hxl
    clear hxl
    go_wp2_with fail
    refine (l1Below_any c B 14 a len cap zs _ hcu (hcode.grown hgw hB) hB (by omega) (by omega)).mono ?_
    rintro e w1 ⟨x, rfl, hx0, hx1, hcu1, hg1⟩
    have hown1 := owns_grown hown hg1 hcw
    have hgw1 := grownBy_trans hgw hg1
    clear hcu hown hg1 hgw
    by_cases hkx : (k : Int) < x
    · have hcl := hcu1.lt
      have hsw1 := hgw1.size
      have hla := listAt_alloc w1 pickL
      go_wp2_with fail
      refine (l1Pick_any c B w1.heap.size 12 (textAt pickL) a len cap zs _ (hcu1.below ((Below.refl _ _).alloc (Nat.le_refl _) _) hcl) (hcode.grown (grownBy_allocR hgw1 _) hB) hB (by omega) (by omega) (by exact hla) (by omega)).mono ?_
      rintro e w3 ⟨j, hj, rfl, hcu3, hg3⟩
      have ht1 := pickL_one j hj
      obtain ⟨t, ht⟩ : ∃ t, t = textAt pickL j := ⟨_, rfl⟩
      rw [← ht] at ht1 ⊢
      have hown3 := owns_grown (hown1.alloc (.cells (pickL.map Value.string).toArray 9)) hg3 hcw
      have hgw3 := grownBy_trans (grownBy_allocR hgw1 (.cells (pickL.map Value.string).toArray 9)) hg3
      have hcl3 := hcu3.lt
      have hsw3 := hgw3.size
      clear ht hla hg3 hown1 hgw1 hcu1
      have hp0 : 0 < t.size := by omega
      have h63 : k + 1 ≤ maxLen := by unfold maxLen; omega
      have h47 : (k + 1) * 1 ≤ 140737488355328 := by omega
      have HBS : ∀ o, w.heap.size ≤ (w3.alloc o).heap.size := fun o => by simp; omega
      go_wp2_with (at_builtin; refine wpList_append_own _ rfl _ _ 22 rfl w.heap.size 5 i0 (.int .u8 0) 1 1 Tryd.underlying22 hi hz0 hz1 hz2 rfl (by decide) _ _ _ rfl (hown3.alloc _) ⟨w3.heap.size, 0, none⟩ 1 1 [.int .u8 ((t[0]'hp0).toNat : Int)] rfl rfl (cell_one_new _ _ _) (one_byte _) h63 h47 (HBS _) ?_)
      intro v1 w5 hown5 hgrow _
      have hgw5 : w.grownBy w5 (some c) := grown_later (grownBy_allocR hgw3 _) hgrow (fun g hg => owns_ge hown3 hg)
      have hcu5 : CurAt w5 c a len cap := (hcu3.below ((Below.refl _ _).alloc (Nat.le_refl _) _) hcl3).grown hgrow (fun e => by have := owns_ge hown3 e; omega)
      clear hgrow hown3 hcu3 hgw3 HBS
      go_wp2
      go_roundw
      case rel => exact ⟨k + 1, xs ++ [((t[0]'hp0).toNat : Int)], by omega, by go_num, by simpa using hown5, hcu5, hgw5⟩
      case measure => simp [intOf]; omega
    · have hcv := conv_owned hown1
      go_wp2
      go_ret
      exact ⟨strOfNums xs, rfl, by rw [strOfNums_size, HXL.out]; omega, hcu1, hgw1⟩

set_option maxHeartbeats 1000000 in
theorem l1Once_any (c B : Nat) (m : Int) (a : Option Addr) (len cap : Nat) (zs : List Int) (w : World) (hcur : CurAt w c a len cap) (hcode : CodeAt w B a len zs) (hB : B ≤ c) (hm : 1 ≤ m) (hm2 : m ≤ 256) :
    Calls Tryd.prog 19 #[.pointer (some ⟨c, 0, none⟩), .int .i64 m] w fun e w' => Hid (∃ b : Bool, e = .returned (.bool b)) ∧ CurAt w' c a len cap ∧ w.grownBy w' (some c) := by
  go_enter Tryd.func19, Tryd.ntmps19
  go_wp2_with fail
  refine (l1Below_any c B m a len cap zs _ hcur hcode hB hm hm2).mono ?_
  rintro e w1 ⟨x, rfl, hx0, hx1, hcur1, hg1⟩
  go_wp2
  go_ret
  exact ⟨⟨_, rfl⟩, hcur1, hg1⟩

end Go.Proofs.YtalicfiadbmdeaaDoor

namespace Go.Proofs.YtalicfiadbmdeaaDoor
open Go.RowKit
open Go.Lib hiding intOf

/-- The text of whatever int: that of a number from 0 to 1000000, else the empty one. -/
def numTextI (n : Int) : ByteArray := if n < 0 then ⟨#[]⟩ else numText n.toNat

theorem decDigits_zero : Lib.decDigits 0 = [48] := by rw [Lib.decDigits, dif_pos (by omega)]; rfl
theorem dg_dec : ∀ (f n : Nat), n < 10 ^ f → n ≠ 0 → dgF f n = Lib.decDigits n := by
  intro f
  induction f with
  | zero => intro n h h0; simp at h; omega
  | succ f ih =>
    intro n h h0
    rw [dgF_pos f n h0]
    rw [Nat.pow_succ] at h
    by_cases hs : n < 10
    · rw [Lib.decDigits, dif_pos hs]
      have e1 : n / 10 = 0 := by omega
      have e2 : n % 10 = n := by omega
      rw [e1, dgF_zero, e2]; rfl
    · rw [Lib.decDigits, dif_neg hs, ih (n / 10) (by omega) (by omega)]
theorem itoa_num (n : Int) (h0 : 0 ≤ n) (h1 : n ≤ 1000000) : (⟨(Lib.itoa n).toArray⟩ : ByteArray) = numTextI n := by
  unfold numTextI
  rw [if_neg (by omega)]
  unfold numText numL Lib.itoa
  rw [if_neg (by omega), if_neg (by omega)]
  by_cases h : n.toNat = 0
  · rw [if_pos h, h, decDigits_zero]
  · rw [if_neg h, dg_dec 8 n.toNat (by omega) h]

/-- The table that strconv.Itoa reads holds what the program's text lays. -/
def TabOk (w : World) : Prop := Lib.TabIs Tryd.prog w "internal/strconv.uint64pow10" .u64 Lib.pow10Tab
theorem gTab : Tryd.prog.globalNamed "internal/strconv.uint64pow10" = some 1 := by kernel_rfl
theorem TabOk.lt {w : World} (h : TabOk w) : 1 < w.heap.size := by
  unfold TabOk Lib.TabIs World.var? at h
  rw [gTab] at h
  rcases Nat.lt_or_ge 1 w.heap.size with hl | hl
  · exact hl
  · simp [Array.getElem?_eq_none hl] at h
theorem TabOk.below {w w' : World} (h : TabOk w) (hb : Below w.heap.size w w') : TabOk w' := var?_below hb gTab h.lt h

set_option maxHeartbeats 1000000 in
theorem implNumText_any (n : Int) (w : World) (h0 : -9223372036854775808 ≤ n) (h1 : n ≤ 9223372036854775807) (htab : TabOk w) :
    Calls Tryd.prog 35 #[.int .i64 n] w fun e w' => TextIs (numTextI n) w e w' := by
  by_cases hn : n < 0
  · have hT : Hid (⟨#[]⟩ = numTextI n) := by show _ = _; unfold numTextI; rw [if_pos hn]
    go_enter Tryd.func35, Tryd.ntmps35
    go_wp2_with fail
    go_ret
    exact TextIs.of hT.out (Below.refl _ _)
  · by_cases hb : 1000000 < n
    · have hT : Hid (⟨#[]⟩ = numTextI n) := by
        show _ = _
        unfold numTextI numText numL; rw [if_neg hn, if_pos (by omega)]
      go_enter Tryd.func35, Tryd.ntmps35
      go_wp2_with fail
      go_ret
      exact TextIs.of hT.out (Below.refl _ _)
    · have hT : Hid _ := itoa_num n (by omega) (by omega)
      have HT : Hid (TabOk w) := htab
      clear htab
      go_enter Tryd.func35, Tryd.ntmps35
      go_wp2_with fail
      refine (Tryd.strconv_Itoa n h0 h1 w HT.out).mono ?_
      rintro e w1 ⟨rfl, k, os, rfl⟩
      rw [hT.out]
      have hb1 := Lib.below_grow w.heap.size w (Nat.le_refl _) k os
      obtain ⟨w1, hw1⟩ : ∃ w1, w1 = Sort.grow (w.drewN k) os := ⟨_, rfl⟩
      rw [← hw1] at hb1 ⊢
      clear hw1
      go_wp2_with fail
      go_ret
      exact TextIs.of rfl hb1

end Go.Proofs.YtalicfiadbmdeaaDoor

namespace Go.Proofs.YtalicfiadbmdeaaDoor
open Go.RowKit

theorem bs_extract (s : ByteArray) (f j : Nat) : bs (s.extract f j) = ((bs s).take j).drop f := by
  simp [bs, List.drop_take]
theorem bs_at (s : ByteArray) (j : Nat) (h : j < s.size) : (bs s)[j]'(by rw [bs_len]; exact h) = s[j]'h := rfl
theorem bs_drop (s : ByteArray) (j : Nat) (h : j < s.size) : (bs s).drop j = s[j]'h :: (bs s).drop (j + 1) := by
  rw [List.drop_eq_getElem_cons (by rw [bs_len]; exact h), bs_at s j h]
theorem take_snoc (s : ByteArray) (f j : Nat) (hf : f ≤ j) (h : j < s.size) : ((bs s).take (j + 1)).drop f = ((bs s).take j).drop f ++ [s[j]'h] := by
  have hl : j < (bs s).length := by rw [bs_len]; exact h
  rw [List.take_succ_eq_append_getElem hl, List.drop_append_of_le_length (by rw [List.length_take]; omega), bs_at s j h]
theorem take_none (s : ByteArray) (k : Nat) : ((bs s).take k).drop k = [] := by
  apply List.drop_eq_nil_of_le
  rw [List.length_take]; omega
theorem u8_eq (b : UInt8) (n : Nat) (hn : n < 256) : b = UInt8.ofNat n ↔ b.toNat = n := by
  constructor
  · intro h; rw [h, UInt8.toNat_ofNat']; omega
  · intro h; rw [← h]; simp

def WdInv (s : ByteArray) (l : List ByteArray) (f k : Nat) : Prop :=
  if k ≤ s.size then wordsL [] [] (bs s) = wordsL (l.map bs) (((bs s).take k).drop f) ((bs s).drop k) else wordsL [] [] (bs s) = l.map bs
theorem wd_start (s : ByteArray) : WdInv s [] 0 0 := by simp [WdInv]
theorem wd_blank {s : ByteArray} {l : List ByteArray} {f k : Nat} (hk : k < s.size) (hc : (s[k]'hk).toNat = 32) (h : WdInv s l f k) : WdInv s (l ++ [s.extract f k]) (k + 1) (k + 1) := by
  unfold WdInv at *
  rw [if_pos (by omega), bs_drop s k hk, wordsL, if_pos (show s[k]'hk = 32 from (u8_eq _ 32 (by omega)).2 hc)] at h
  rw [if_pos (by omega), h, take_none, List.map_append, List.map_cons, List.map_nil, bs_extract]
theorem wd_last {s : ByteArray} {l : List ByteArray} {f k : Nat} (hk : k = s.size) (h : WdInv s l f k) : WdInv s (l ++ [s.extract f k]) (k + 1) (k + 1) := by
  unfold WdInv at *
  rw [if_pos (by omega), (show (bs s).drop k = [] from List.drop_eq_nil_of_le (by rw [bs_len]; omega)), wordsL] at h
  rw [if_neg (by omega), h, List.map_append, List.map_cons, List.map_nil, bs_extract]
theorem wd_other {s : ByteArray} {l : List ByteArray} {f k : Nat} (hf : f ≤ k) (hk : k < s.size) (hc : (s[k]'hk).toNat ≠ 32) (h : WdInv s l f k) : WdInv s l f (k + 1) := by
  unfold WdInv at *
  rw [if_pos (by omega), bs_drop s k hk, wordsL, if_neg (show ¬ s[k]'hk = 32 from fun e => hc ((u8_eq _ 32 (by omega)).1 e))] at h
  rw [if_pos (by omega), h, take_snoc s f k hf hk]
theorem wd_end {s : ByteArray} {l : List ByteArray} {f k : Nat} (hk : ¬ k ≤ s.size) (h : WdInv s l f k) : wordsL [] [] (bs s) = l.map bs := by
  unfold WdInv at h
  rwa [if_neg hk] at h

end Go.Proofs.YtalicfiadbmdeaaDoor

namespace Go.Proofs.YtalicfiadbmdeaaDoor
open Go.RowKit
open Go.Lib hiding intOf

/-- A list of texts that is read. -/
def TextsA (w : World) (oa : Option Addr) (n : Nat) (xs : List ByteArray) : Prop :=
  xs.length = n ∧ ∀ i, i < n → ∃ g, oa = some ⟨g, 0, none⟩ ∧ g < w.heap.size ∧ w.cell? ⟨g, i, none⟩ = some (.string (textAt xs i))
theorem texts_own {w : World} {base n : Nat} {v : Value} {xs : List ByteArray} (h : w.ownsRow base 9 1 v n (xs.map Value.string)) : ∃ oa cap, v = .slice oa n cap ∧ TextsA w oa n xs := by
  have hl : xs.length = n := by have := h.1; simpa using this
  rcases row_form h with ⟨oa, ca, rfl, rfl, rfl⟩ | ⟨g, cap, rfl, hp, r⟩
  · exact ⟨oa, ca, rfl, rfl, fun i hi => absurd hi (by omega)⟩
  · exact ⟨_, _, rfl, hl, fun i hi => ⟨g, rfl, r.lt, r.cell i hi⟩⟩

end Go.Proofs.YtalicfiadbmdeaaDoor

namespace Go.Proofs.YtalicfiadbmdeaaDoor
open Go.RowKit
open Go.Lib hiding intOf

theorem empty_text {b : ByteArray} (h : b.size = 0) : b = ⟨#[]⟩ := by
  apply ByteArray.ext
  exact Array.eq_empty_of_size_eq_zero h

end Go.Proofs.YtalicfiadbmdeaaDoor

namespace Go.Proofs.YtalicfiadbmdeaaDoor
open Go.RowKit
open Go.Lib hiding intOf

/-- What stands between blanks, in a list of the call's own. -/
def WordsIs (s : ByteArray) (w : World) (e : Ending) (w' : World) : Prop :=
  ∃ (v : Value) (xs : List ByteArray), e = .returned v ∧ w'.ownsRow w.heap.size 9 1 v xs.length (xs.map Value.string) ∧ xs.length ≤ s.size + 1 ∧ Below w.heap.size w w' ∧ wordsL [] [] (bs s) = xs.map bs

set_option maxHeartbeats 4000000 in
set_option maxRecDepth 100000 in
theorem l3Words_any (s : ByteArray) (w : World) (hs : s.size ≤ 4000000) :
    Calls Tryd.prog 30 #[.string s] w fun e w' => WordsIs s w e w' := by
  obtain ⟨i0, hi, hz0, hz1, hz2⟩ := info_parts info9
  go_enter Tryd.func30, Tryd.ntmps30
  go_wp2
  go_loopw [3, 4, 5] (fun v a i wr => ∃ (k f : Nat) (l : List ByteArray), k ≤ s.size + 1 ∧ f ≤ k ∧ l.length ≤ k ∧ i = .int .i64 (k : Int) ∧ a = .int .i64 (f : Int) ∧ Below w.heap.size w wr ∧
      Hid (WdInv s l f k) ∧ wr.ownsRow w.heap.size 9 1 v l.length (l.map Value.string)) (fun _ _ i _ => s.size + 1 - (intOf i).toNat)
  case atStart =>
    exact ⟨0, 0, [], Nat.zero_le _, Nat.le_refl _, Nat.le_refl _, rfl, rfl, (Below.refl _ _).alloc (Nat.le_refl _) _, wd_start s, ⟨rfl, .inr ⟨w.heap.size, 0, #[], rfl, Nat.le_refl _, heap_alloc_new w _, Nat.le_refl _, Nat.zero_le _, rfl, rfl⟩⟩⟩
  case round =>
    obtain ⟨k, f, l, hk, hfk, hlk, rfl, rfl, hbw, hinv, hown⟩ := hrel
    have h63 : l.length + 1 ≤ maxLen := by unfold maxLen; omega
    have h47 : (l.length + 1) * 16 ≤ 140737488355328 := by omega
    by_cases hks : k ≤ s.size
    · have hks2 : (k : Int) ≤ (s.size : Int) := by omega
      by_cases hlt : k < s.size
      · have hlt2 : (k : Int) < (s.size : Int) := by omega
        have hne : ((k : Int) == (s.size : Int)) = false := by rw [beq_eq_false_iff_ne]; omega
        by_cases hc : (s[k]'hlt).toNat = 32
        · have t1 : (((s[k]'hlt).toNat : Int) == 32) = true := by rw [beq_iff_eq]; omega
          have HI : Hid _ := wd_blank hlt hc hinv.out
          have HBS : ∀ o, w.heap.size ≤ (wr.alloc o).heap.size := fun o => by have := hbw.size; simp; omega
          clear hc hk
          go_wp2_with (at_builtin; refine wpList_append_own _ rfl _ _ 56 rfl w.heap.size 9 i0 (.string ⟨#[]⟩) 1 16 Tryd.underlying56 hi hz0 hz1 hz2 rfl (by decide) _ _ _ rfl (hown.alloc _) ⟨wr.heap.size, 0, none⟩ 1 1 [.string (s.extract f k)] rfl rfl (cell_one_new _ _ _) (one_text _) h63 h47 (HBS _) ?_)
          intro v1 w2 hown2 hgrow _
          have hb2 : Below w.heap.size w w2 := (hbw.alloc hbw.size _).grown hgrow (HBS _) (fun g hg => owns_ge hown hg)
          have hown3 : w2.ownsRow w.heap.size 9 1 v1 (l ++ [s.extract f k]).length ((l ++ [s.extract f k]).map Value.string) := by simpa using hown2
          clear hown HBS hgrow hown2 hbw
          go_wp2
          go_roundw
          case rel => exact ⟨k + 1, k + 1, _, by omega, by omega, by simp; omega, by go_num, by go_num, hb2, HI, hown3⟩
          case measure => simp [intOf]; omega
        · have t1 : (((s[k]'hlt).toNat : Int) == 32) = false := by rw [beq_eq_false_iff_ne]; omega
          have HI : Hid _ := wd_other hfk hlt hc hinv.out
          clear hc hk
          go_wp2
          go_roundw
          case rel => exact ⟨k + 1, f, l, by omega, by omega, by omega, by go_num, rfl, hbw, HI, hown⟩
          case measure => simp [intOf]; omega
      · obtain rfl : k = s.size := by omega
        have HI : Hid _ := wd_last rfl hinv.out
        have HBS : ∀ o, w.heap.size ≤ (wr.alloc o).heap.size := fun o => by have := hbw.size; simp; omega
        clear hk
        go_wp2_with (at_builtin; refine wpList_append_own _ rfl _ _ 56 rfl w.heap.size 9 i0 (.string ⟨#[]⟩) 1 16 Tryd.underlying56 hi hz0 hz1 hz2 rfl (by decide) _ _ _ rfl (hown.alloc _) ⟨wr.heap.size, 0, none⟩ 1 1 [.string (s.extract f s.size)] rfl rfl (cell_one_new _ _ _) (one_text _) h63 h47 (HBS _) ?_)
        intro v1 w2 hown2 hgrow _
        have hb2 : Below w.heap.size w w2 := (hbw.alloc hbw.size _).grown hgrow (HBS _) (fun g hg => owns_ge hown hg)
        have hown3 : w2.ownsRow w.heap.size 9 1 v1 (l ++ [s.extract f s.size]).length ((l ++ [s.extract f s.size]).map Value.string) := by simpa using hown2
        clear hown HBS hgrow hown2 hbw
        go_wp2
        go_roundw
        case rel => exact ⟨s.size + 1, s.size + 1, _, by omega, by omega, by simp; omega, by go_num, by go_num, hb2, HI, hown3⟩
        case measure => simp [intOf]
    · have HE : Hid _ := wd_end hks hinv.out
      have hks2 : ¬ (k : Int) ≤ (s.size : Int) := by omega
      go_wp2
      go_ret
      exact ⟨_, l, rfl, hown, by omega, hbw, HE.out⟩

end Go.Proofs.YtalicfiadbmdeaaDoor

namespace Go.Proofs.YtalicfiadbmdeaaDoor
open Go.RowKit
open Go.Lib hiding intOf

theorem wordsL_len : ∀ (r : List UInt8) (out : List (List UInt8)) (cur : List UInt8), ∀ x ∈ wordsL out cur r, x ∈ out ∨ x.length ≤ cur.length + r.length := by
  intro r
  induction r with
  | nil =>
    intro out cur x hx
    rw [wordsL] at hx
    rcases List.mem_append.1 hx with h | h
    · exact .inl h
    · simp at h; subst h; exact .inr (by simp)
  | cons c t ih =>
    intro out cur x hx
    rw [wordsL] at hx
    split at hx
    · rcases ih (out ++ [cur]) [] x hx with h1 | h1
      · rcases List.mem_append.1 h1 with h2 | h2
        · exact .inl h2
        · simp at h2; subst h2; exact .inr (by omega)
      · exact .inr (by simp at h1 ⊢; omega)
    · rcases ih out (cur ++ [c]) x hx with h1 | h1
      · exact .inl h1
      · exact .inr (by simp at h1 ⊢; omega)
theorem slice_of_owns {w : World} {base : Nat} {t : TypeId} {size : Nat} {v : Value} {n : Nat} {xs : List Value} (h : w.ownsRow base t size v n xs) : ∃ oa cp, v = .slice oa n cp := by
  rcases h.2 with ⟨rfl, rfl⟩ | ⟨g, cap, cur, rfl, _⟩
  · exact ⟨none, 0, rfl⟩
  · exact ⟨_, cap, rfl⟩
theorem grown_below {w w' : World} (hb : Below w.heap.size w w') (row : Option Nat) : w.grownBy w' row := ⟨hb.os, hb.tape, hb.output, hb.size, fun k hk _ => hb.block k hk⟩
theorem grown_then {a w w' : World} {row : Option Nat} (h : a.grownBy w row) (k : w.grownBy w' row) : a.grownBy w' row :=
  ⟨k.os.trans h.os, k.tape.trans h.tape, k.output.trans h.output, Nat.le_trans h.size k.size, fun i hi hne => (k.block i (Nat.lt_of_lt_of_le hi h.size) hne).trans (h.block i hi hne)⟩
theorem grown_set (w : World) (r o : Nat) (v : Value) : w.grownBy (w.setCell ⟨r, o, none⟩ v) (some r) :=
  ⟨rfl, rfl, rfl, by simp, fun k _ hk => heap_setCell_other _ _ k _ (fun e => hk (by rw [e]))⟩
theorem below_grown {B r : Nat} {a b : World} (h : a.grownBy b (some r)) (hB : B ≤ a.heap.size) (hr : B ≤ r) : Below B a b :=
  ⟨h.os, h.tape, h.output, h.size, fun k hk => h.block k (by omega) (fun e => by have := Option.some.inj e; omega)⟩
end Go.Proofs.YtalicfiadbmdeaaDoor

namespace Go.Proofs.YtalicfiadbmdeaaDoor
open Go.RowKit

def cutA (s sep : ByteArray) : ByteArray := ⟨(Lib.cut s.data.toList sep.data.toList).1.toArray⟩
def cutB (s sep : ByteArray) : ByteArray := ⟨(Lib.cut s.data.toList sep.data.toList).2.1.toArray⟩
theorem bs_cutA (s sep : ByteArray) : bs (cutA s sep) = (Lib.cut (bs s) (bs sep)).1 := by simp [bs, cutA]
theorem bs_cutB (s sep : ByteArray) : bs (cutB s sep) = (Lib.cut (bs s) (bs sep)).2.1 := by simp [bs, cutB]
theorem cutA_size (s sep : ByteArray) : (cutA s sep).size ≤ s.size := by
  rw [← bs_len, ← bs_len, bs_cutA]
  unfold Lib.cut
  split
  · simp; omega
  · exact Nat.le_refl _
theorem cutB_size (s sep : ByteArray) : (cutB s sep).size ≤ s.size := by
  rw [← bs_len, ← bs_len, bs_cutB]
  unfold Lib.cut
  split
  · simp
  · simp
theorem index_at (c : UInt8) (t rest : List UInt8) : ∀ (pre : List UInt8), (∀ b ∈ pre, b ≠ c) → Lib.index (pre ++ ((c :: t) ++ rest)) (c :: t) = (pre.length : Int) := by
  intro pre
  induction pre with
  | nil => intro _; simp [Lib.index]
  | cons b r ih =>
    intro h
    have hb : b ≠ c := h b (by simp)
    have ih := ih (fun x hx => h x (by simp [hx]))
    rw [List.cons_append, Lib.index, if_neg (by simp [List.isPrefixOf]; intro e; exact absurd e.symm hb), ih]
    rw [if_neg (by rw [beq_iff_eq]; omega)]
    simp
theorem cut_of {s sep : ByteArray} {c : UInt8} {t rest pre : List UInt8} (hs : bs s = pre ++ ((c :: t) ++ rest)) (hp : bs sep = c :: t) (h : ∀ b ∈ pre, b ≠ c) : bs (cutA s sep) = pre ∧ bs (cutB s sep) = rest := by
  rw [bs_cutA, bs_cutB, hs, hp]
  unfold Lib.cut
  rw [index_at c t rest pre h, if_pos (by omega)]
  constructor
  · simp
  · simp
end Go.Proofs.YtalicfiadbmdeaaDoor

namespace Go.Proofs.YtalicfiadbmdeaaDoor
open Go.RowKit
open Go.Lib hiding intOf

/-- A line that ends in a byte 10, found from a place on. -/
def LineAt (s : ByteArray) (f i : Nat) : Prop := ∃ h : i < s.size, f ≤ i ∧ (s[i]'h).toNat = 10 ∧ ∀ j (hj : j < i), f ≤ j → (s[j]'(by omega)).toNat ≠ 10
theorem bs_get {s : ByteArray} {j : Nat} (h : j < s.size) : (bs s)[j]? = some (s[j]'h) := by
  rw [List.getElem?_eq_getElem (by rw [bs_len]; exact h), bs_at s j h]
theorem line_of {s : ByteArray} {pre l rest : List UInt8} {f i : Nat} (hs : bs s = pre ++ (l ++ 10 :: rest)) (hf : pre.length = f) (hl : ∀ b ∈ l, b ≠ 10) (h : LineAt s f i) : i = f + l.length ∧ bs (s.extract f i) = l := by
  obtain ⟨hi, h1, h2, h3⟩ := h
  have key : i = f + l.length := by
    rcases Nat.lt_trichotomy i (f + l.length) with hlt | he | hgt
    · exfalso
      have e := bs_get hi
      rw [hs, List.getElem?_append_right (by omega), List.getElem?_append_left (by omega)] at e
      have hm := List.mem_of_getElem? e
      apply hl _ hm
      exact UInt8.toNat_inj.1 h2
    · exact he
    · exfalso
      have hj : f + l.length < s.size := by omega
      have e := bs_get hj
      rw [hs, List.getElem?_append_right (by omega), List.getElem?_append_right (by omega), show f + l.length - pre.length - l.length = 0 by omega] at e
      simp only [List.getElem?_cons_zero, Option.some.injEq] at e
      exact h3 (f + l.length) hgt (by omega) (by rw [← e]; rfl)
  refine ⟨key, ?_⟩
  subst hf
  rw [bs_extract, hs, key, List.take_length_add_append, List.drop_left, List.take_left]
theorem line_some {s : ByteArray} {pre l rest : List UInt8} {f : Nat} (hs : bs s = pre ++ (l ++ 10 :: rest)) (hf : pre.length = f) (h : ∀ j (hj : j < s.size), f ≤ j → (s[j]'hj).toNat ≠ 10) : False := by
  have hz := congrArg List.length hs
  rw [bs_len] at hz
  simp at hz
  have hj : f + l.length < s.size := by omega
  have e := bs_get hj
  rw [hs, List.getElem?_append_right (by omega), List.getElem?_append_right (by omega), show f + l.length - pre.length - l.length = 0 by omega] at e
  simp only [List.getElem?_cons_zero, Option.some.injEq] at e
  exact h (f + l.length) hj (by omega) (by rw [← e]; rfl)
end Go.Proofs.YtalicfiadbmdeaaDoor

namespace Go.Proofs.YtalicfiadbmdeaaDoor
open Go.RowKit
open Go.Lib hiding intOf

theorem num_ok (n : Nat) (h : n ≤ 1000000) : NumOk (numText n) := by
  have hd := numL_dig n h
  have hv := numL_val n h
  have hl : (numL n).length ≤ 7 := by
    unfold numL at *
    rw [if_neg (by omega)] at *
    by_cases h0 : n = 0
    · rw [if_pos h0]; simp
    · rw [if_neg h0] at *
      have hh := (dg_facts 8 n (by omega)).1
      have h3 := val_ge (dgF 8 n) hd.2 hh hd.1
      rw [hv] at h3
      rcases Nat.lt_or_ge 7 (dgF 8 n).length with h4 | h4
      · have := Nat.pow_le_pow_right (show 0 < 10 by omega) (show 7 ≤ (dgF 8 n).length - 1 by omega)
        omega
      · exact h4
  have hs : (numText n).size = (numL n).length := by simp [numText, ByteArray.size]
  have h1 : 1 ≤ (numText n).size := by
    rw [hs]
    exact List.length_pos_iff.2 hd.1
  refine (num_iff (numText n) h1 (by omega) hd.2).1 ?_
  show numText (valL (numL n)) = numText n
  rw [hv]
end Go.Proofs.YtalicfiadbmdeaaDoor

namespace Go.Proofs.YtalicfiadbmdeaaDoor
open Go.RowKit
open Go.Lib hiding intOf

/-- A line that is told, and the place behind it; or none. -/
def LineOut (s : ByteArray) (f : Nat) (w : World) (e : Ending) (w' : World) : Prop :=
  w' = w ∧ ((∃ i, LineAt s f i ∧ e = .returned (.tuple #[.string (s.extract f i), .int .i64 ((i + 1 : Nat) : Int)])) ∨ ((∀ j (h : j < s.size), f ≤ j → (s[j]'h).toNat ≠ 10) ∧ e = .returned (.tuple #[.string ⟨#[]⟩, .int .i64 (-1)])))

set_option maxHeartbeats 1000000 in
theorem l10Line_any (s : ByteArray) (f : Nat) (w : World) (hs : s.size ≤ 4000000) (hf : f ≤ s.size) :
    Calls Tryd.prog 29 #[.string s, .int .i64 (f : Int)] w fun e w' => LineOut s f w e w' := by
  go_enter Tryd.func29, Tryd.ntmps29
  go_wp2
  go_loopw [6] (fun i wr => ∃ j : Nat, j ≤ s.size ∧ f ≤ j ∧ i = .int .i64 (j : Int) ∧ wr = w ∧ Hid (∀ q (h : q < s.size), q < j → f ≤ q → (s[q]'h).toNat ≠ 10)) (fun i _ => s.size - (intOf i).toNat)
  case atStart => exact ⟨f, hf, Nat.le_refl _, rfl, rfl, fun q _ h1 h2 => absurd h1 (by omega)⟩
  case round =>
    obtain ⟨j, hj, hfj, rfl, rfl, HN⟩ := hrel
    by_cases hlt : j < s.size
    · have hlt2 : (j : Int) < (s.size : Int) := by omega
      by_cases hc : (s[j]'hlt).toNat = 10
      · have t1 : (((s[j]'hlt).toNat : Int) == 10) = true := by rw [beq_iff_eq]; omega
        have HL : Hid (LineAt s f j) := ⟨hlt, hfj, hc, fun q hq h => HN.out q (by omega) hq h⟩
        have hfj2 : (f : Int) ≤ (j : Int) := by omega
        clear hc HN
        go_wp2
        exact bodyPost_ret (v := .tuple #[.string (s.extract f j), .int .i64 ((j + 1 : Nat) : Int)]) (by simp [results, Tryd.results29, go_sem]) rfl ⟨rfl, .inl ⟨j, HL.out, rfl⟩⟩
      · have t1 : (((s[j]'hlt).toNat : Int) == 10) = false := by rw [beq_eq_false_iff_ne]; omega
        have HN2 : Hid (∀ q (h : q < s.size), q < j + 1 → f ≤ q → (s[q]'h).toNat ≠ 10) := fun q h h1 h2 => by
          by_cases e : q = j
          · subst e; exact hc
          · exact HN.out q h (by omega) h2
        clear hc HN
        go_wp2
        go_roundw
        case rel => exact ⟨j + 1, by omega, by omega, by go_num, trivial, HN2⟩
        case measure => simp [intOf]; omega
    · have hlt2 : ¬ (j : Int) < (s.size : Int) := by omega
      have HF : Hid (∀ q (h : q < s.size), f ≤ q → (s[q]'h).toNat ≠ 10) := fun q h h2 => HN.out q h (by omega) h2
      clear HN
      go_wp2
      exact bodyPost_ret (v := .tuple #[.string ⟨#[]⟩, .int .i64 (-1)]) (by simp [results, Tryd.results29, go_sem]) rfl ⟨rfl, .inr ⟨HF.out, rfl⟩⟩
theorem num_of_text {n : Int} {m : Nat} {x : ByteArray} (hm : m ≤ 1000000) (hx : x = numText m) (h : NumOk x → n = valL x.data.toList) : n = (m : Int) := by
  have h1 := h (by rw [hx]; exact num_ok _ hm)
  rw [hx, show (numText m).data.toList = numL m from rfl, numL_val _ hm] at h1
  exact h1

end Go.Proofs.YtalicfiadbmdeaaDoor

namespace Go.Proofs.YtalicfiadbmdeaaDoor
open Go.RowKit
open Go.Lib hiding intOf

theorem dec_num (n : Nat) (h : n ≤ 1000000) : decT n = numText n := by
  apply bs_inj
  rw [bs_decT]
  show Lib.decDigits n = numL n
  unfold numL
  rw [if_neg (by omega)]
  by_cases h0 : n = 0
  · rw [if_pos h0, h0]; exact decDigits_zero
  · rw [if_neg h0, dg_dec 8 n (by omega) h0]
/-- A record's first line. -/
def recLine (q : Nat) (b : ByteArray) : List UInt8 := Lib.decDigits (sumP (recR q b)) ++ 32 :: (Lib.decDigits q ++ 32 :: Lib.decDigits b.size)
theorem bs_rec {s : ByteArray} {q : Int} {b : ByteArray} (h : IsRec s q b) : bs s = [] ++ (recLine q.toNat b ++ 10 :: bs b) := by
  rw [← h.2, bs_recT, bs_recR]
  unfold recLine
  simp
theorem recLine_no (q : Nat) (b : ByteArray) : ∀ x ∈ recLine q b, x ≠ 10 := fun x hx => by
  unfold recLine at hx
  rcases List.mem_append.1 hx with h | h
  · exact (dec_no _ x h).2
  · rcases List.mem_cons.1 h with h | h
    · rw [h]; decide
    · rcases List.mem_append.1 h with h | h
      · exact (dec_no _ x h).2
      · rcases List.mem_cons.1 h with h | h
        · rw [h]; decide
        · exact (dec_no _ x h).2
theorem recLine_words (q : Nat) (b : ByteArray) : wordsL [] [] (recLine q b) = [Lib.decDigits (sumP (recR q b)), Lib.decDigits q, Lib.decDigits b.size] := by
  unfold recLine
  rw [words_word _ _ (fun x hx => (dec_no _ x hx).1), words_word _ _ (fun x hx => (dec_no _ x hx).1), words_last _ (fun x hx => (dec_no _ x hx).1)]
  rfl

set_option maxHeartbeats 4000000 in
theorem specRecRead_any (s : ByteArray) (w : World) (hs : s.size ≤ 3000000) :
    Calls Tryd.prog 13 #[.string s] w fun e w' => RecIs s w e w' := by
  go_enter Tryd.func13, Tryd.ntmps13
  go_wp2_with fail
  refine (l10Line_any s 0 _ (by omega) (Nat.zero_le _)).mono ?_
  rintro e w1 ⟨hw1, hl⟩
  rw [hw1]
  clear hw1 w1
  rcases hl with ⟨i, hl, rfl⟩ | ⟨hno, rfl⟩
  · have hi : i < s.size := hl.1
    have HL : Hid (LineAt s 0 i) := hl
    have HLN : Hid (∀ q b, IsRec s q b → i = (recLine q.toNat b).length ∧ bs (s.extract 0 i) = recLine q.toNat b) := fun q b h => by
      have h1 := line_of (bs_rec h) rfl (recLine_no _ _) HL.out
      exact ⟨by simpa using h1.1, h1.2⟩
    obtain ⟨ln, hln⟩ : ∃ l, l = s.extract 0 i := ⟨_, rfl⟩
    have HLE : Hid (s.extract 0 i = ln) := hln.symm
    have hlz : ln.size ≤ 3000000 := by rw [hln, ByteArray.size_extract]; omega
    rw [← hln]
    clear hl hln HL
    go_wp2_with fail
    refine (l3Words_any ln _ (by omega)).mono ?_
    rintro e w2 ⟨vW, xs, rfl, ownW, hxl, bw, hwd⟩
    obtain ⟨oW, cW, rfl⟩ := slice_of_owns ownW
    have HB2 : Hid (Below w.heap.size w w2) := bw
    have HWD : Hid (wordsL [] [] (bs ln) = xs.map bs) := hwd
    clear bw hwd
    by_cases h3 : xs.length = 3
    · obtain ⟨x0, x1, x2, rfl⟩ : ∃ x0 x1 x2, xs = [x0, x1, x2] := by
        match xs, h3 with
        | [a, b, c], _ => exact ⟨a, b, c, rfl⟩
      obtain ⟨oT, pT, eT, hT1, hT2⟩ := texts_own ownW
      cases eT
      obtain ⟨g, rfl, hg, r1⟩ := hT2 1 (by simp)
      have r1' : w2.cell? ⟨g, 1, none⟩ = some (.string x1) := r1
      have HX1 : Hid (∀ q b, IsRec s q b → x1 = decT q.toNat) := fun q b h => by
        have e := HWD.out
        rw [← HLE.out, (HLN.out q b h).2, recLine_words] at e
        have e2 : Lib.decDigits q.toNat = bs x1 := (List.cons.inj (List.cons.inj e).2).1
        exact bs_inj (by rw [← e2, bs_decT])
      have hx1z : x1.size ≤ 4000000 := by
        have hm : bs x1 ∈ wordsL [] [] (bs ln) := by rw [HWD.out]; simp
        rcases wordsL_len _ _ _ _ hm with h | h
        · simp at h
        · rw [bs_len, bs_len] at h
          simp at h
          omega
      obtain ⟨z, hz⟩ : ∃ z, z = s.extract (i + 1) s.size := ⟨_, rfl⟩
      have HZE : Hid (s.extract (i + 1) s.size = z) := hz.symm
      have hzz : z.size ≤ 3000000 := by rw [hz, ByteArray.size_extract]; omega
      have HZB : Hid (∀ q b, IsRec s q b → z = b) := fun q b h => by
        have h1 := HLN.out q b h
        apply bs_inj
        rw [hz]
        have e := bs_rec h
        rw [List.nil_append] at e
        rw [bs_extract, ← bs_len s, List.take_length, e, h1.1]
        simp
      clear r1 hT1 hT2 ownW hz
      go_wp2_with fail
      refine (specNumRead_any x1 _ (by unfold maxLen; omega)).mono ?_
      rintro e w3 ⟨bn, n, rfl, hb1, hb2, hb3, bw⟩
      have HN : Hid (NumOk x1 → n = valL x1.data.toList) := fun h => hb2 (hb1.2 h)
      have HB3 : Hid (Below w.heap.size w w3) := HB2.out.trans (bw.mono HB2.out.size)
      have hse := isEmpty_no (s := s) (by omega)
      have HSE : Hid (¬ s = ⟨#[]⟩) := fun e => by rw [e] at hi; exact Nat.not_lt_zero i hi
      clear hb1 hb2 hb3 bw r1'
      go_wp2_with fail
      rw [HZE.out]
      refine (specRecText_any n z _ (by omega)).mono ?_
      rintro e w4 ⟨rfl, bw⟩
      have HB4 : Hid (Below w.heap.size w w4) := HB3.out.trans (bw.mono HB3.out.size)
      clear bw
      obtain ⟨t, ht⟩ : ∃ t, t = recI n z := ⟨_, rfl⟩
      have HT : Hid (t = recI n z) := ht
      rw [← ht]
      clear ht
      by_cases hts : t = s
      · subst hts
        have HIS : Hid (IsRec t n z) := rec_iff.1 ⟨HSE.out, HT.out.symm⟩
        go_upto_region 8 with fail
        have hi2 : (0 : Int) ≤ (i : Int) + 1 := by omega
        have hi3 : (i : Int) + 1 ≤ (t.size : Int) := by omega
        have hi4 : ((i : Int) + 1).toNat = i + 1 := by omega
        go_region_held3 (fun _ => True) (trivial) (fail)
        rw [HZE.out]
        clear hi2 hi3 hi4
        go_wp2_with fail
        exact bodyPost_ret (v := .tuple #[.int .i64 n, .string z, .bool true]) (by simp [results, Tryd.results13, go_sem]) rfl ⟨HB4.out.drew, .inl ⟨n, z, HIS.out, rfl⟩⟩
      · have hq2 : (t.toList == s.toList) = false := text_beq_no hts
        have hq1 : (t == s) = false := by rw [beq_toListBytes]; exact hq2
        have HNO : Hid (∀ q b, ¬ IsRec s q b) := fun q b h => by
          have e1 := HX1.out q b h
          have e2 := HZB.out q b h
          have h3 := h.1
          rw [dec_num _ (by have := h3.2.1; omega)] at e1
          have e4 := num_of_text (by have := h3.2.1; omega) e1 HN.out
          have e5 : n = q := by have := h3.1; omega
          exact hts (by rw [HT.out, e5, e2]; exact (rec_iff.2 h).2)
        clear hts
        go_wp2_with fail
        exact bodyPost_ret (v := .tuple #[.int .i64 0, .string ⟨#[]⟩, .bool false]) (by simp [results, Tryd.results13, go_sem]) rfl ⟨HB4.out, .inr ⟨HNO.out, rfl⟩⟩
    · have hne : ((xs.length : Int) != 3) = true := by rw [bne_iff_ne]; omega
      have HNO : Hid (∀ q b, ¬ IsRec s q b) := fun q b h => by
        have e := HWD.out
        rw [← HLE.out, (HLN.out q b h).2, recLine_words] at e
        have e2 := congrArg List.length e
        simp at e2
        omega
      clear ownW
      go_wp2_with fail
      exact bodyPost_ret (v := .tuple #[.int .i64 0, .string ⟨#[]⟩, .bool false]) (by simp [results, Tryd.results13, go_sem]) rfl ⟨HB2.out, .inr ⟨HNO.out, rfl⟩⟩
  · have HNO : Hid (∀ q b, ¬ IsRec s q b) := fun q b h => line_some (bs_rec h) rfl hno
    clear hno
    go_wp2_with fail
    refine (l3Words_any _ _ (by decide)).mono ?_
    rintro e w2 ⟨vW, xs, rfl, ownW, hxl, bw, hwd⟩
    obtain ⟨oW, cW, rfl⟩ := slice_of_owns ownW
    have HB2 : Hid (Below w.heap.size w w2) := bw
    clear bw hwd ownW
    go_wp2_with fail
    exact bodyPost_ret (v := .tuple #[.int .i64 0, .string ⟨#[]⟩, .bool false]) (by simp [results, Tryd.results13, go_sem]) rfl ⟨HB2.out, .inr ⟨HNO.out, rfl⟩⟩

end Go.Proofs.YtalicfiadbmdeaaDoor

namespace Go.Proofs.YtalicfiadbmdeaaDoor
open Go.RowKit
open Go.Lib hiding intOf

/-- A block's content behind a call. -/
theorem blk_below {W W' : World} {r : Nat} {o : Obj} (h : W.heap[r]? = some o) (b : Below W.heap.size W W') : W'.heap[r]? = some o := by
  rw [b.block r (Array.getElem?_eq_some_iff.1 h).1]; exact h
theorem blk_alloc {W : World} {r : Nat} {o : Obj} (h : W.heap[r]? = some o) (x : Obj) : (W.alloc x).heap[r]? = some o := by
  rw [Below.heap_alloc _ _ _ (Array.getElem?_eq_some_iff.1 h).1]; exact h
end Go.Proofs.YtalicfiadbmdeaaDoor

namespace Go.Proofs.YtalicfiadbmdeaaDoor
open Go.RowKit
open Go.Lib hiding intOf

theorem cell_of {W : World} {R : Nat} {cs : Array Value} {t : TypeId} (h : W.heap[R]? = some (.cells cs t)) (i : Nat) : W.cell? ⟨R, i, none⟩ = cs[i]? := by simp [World.cell?, h]
theorem frozen_of {W : World} {R : Nat} {cs : Array Value} {t : TypeId} (h : W.heap[R]? = some (.cells cs t)) (i : Nat) : W.frozen? ⟨R, i, none⟩ = false := by simp [World.frozen?, h]
end Go.Proofs.YtalicfiadbmdeaaDoor

namespace Go.Proofs.YtalicfiadbmdeaaDoor
open Go.RowKit
open Go.Lib hiding intOf

set_option maxHeartbeats 1000000 in
theorem ccPickInt_any (c B g n : Nat) (f : Nat → Int) (a : Option Addr) (len cap : Nat) (zs : List Int) (w : World) (hcur : CurAt w c a len cap) (hcode : CodeAt w B a len zs) (hB : B ≤ c) (hn : 1 ≤ n) (hn2 : n ≤ 256) (hl : ∀ j, j < n → w.cell? ⟨g, j, none⟩ = some (.int .i64 (f j))) (hgc : g ≠ c) :
    Calls Tryd.prog 21 #[.pointer (some ⟨c, 0, none⟩), .slice (some ⟨g, 0, none⟩) n n] w fun e w' => ∃ j, j < n ∧ e = .returned (.int .i64 (f j)) ∧ CurAt w' c a len cap ∧ w.grownBy w' (some c) := by
  go_enter Tryd.func21, Tryd.ntmps21
  go_wp2_with fail
  refine (l1Below_any c B n a len cap zs _ hcur hcode hB (by omega) (by omega)).mono ?_
  rintro e w1 ⟨x, rfl, hx0, hx1, hcur1, hg1⟩
  obtain ⟨j, rfl⟩ := Int.eq_ofNat_of_zero_le hx0
  have hj : j < n := by omega
  have hcell : w1.cell? ⟨g, j, none⟩ = some (.int .i64 (f j)) := grown_cell hg1 (hl j hj) hgc
  go_wp2
  go_ret
  exact ⟨j, hj, rfl, hcur1, hg1⟩

end Go.Proofs.YtalicfiadbmdeaaDoor

namespace Go.Proofs.YtalicfiadbmdeaaDoor
open Go.RowKit
open Go.Lib hiding intOf

/-- 'wpAnyH_take', its place named. -/
theorem wpAnyH_takeD {P : Program} {ops : Array Oper} {Q : Exit → Act → World → Prop} {md : Region.Mode} {S : World → Prop} {i : Nat} {oi : Oper} {v : Value} {fuel : Nat} {listed : Array Bool} {a : Act} {w : World} (d : Option Tmp) (hi : ops[i]? = some oi) (hd : oi.dst = d)
    (hs : Region.noSelect ops = true) (hf : Region.free md ops listed i = true) (hr : (Region.ready md ops listed).contains i = true)
    (hQ : ∀ c a w, Q (.panic c) (a.put oi.dst v) w → Q (.panic c) a w) (hy : YieldsIf P ops S oi v a) (hS : S w)
    (h : wpAnyH P md ops Q S fuel (listed.setIfInBounds i true) (a.put d v) w) : wpAnyH P md ops Q S (fuel + 1) listed a w :=
  wpAnyH_take hi hs hf hr hQ hy hS (hd ▸ h)
end Go.Proofs.YtalicfiadbmdeaaDoor

namespace Go.Proofs.YtalicfiadbmdeaaDoor
open Go.RowKit
open Go.Lib hiding intOf

set_option maxHeartbeats 1000000 in
theorem itoaDec_any (n : Nat) (w : World) (h : n ≤ 4293001440) (hT : TabOk w) :
    Calls Tryd.prog 36 #[.int .i64 (n : Int)] w fun e w' => TextIs (decT n) w e w' := by
  refine (Tryd.strconv_Itoa (n : Int) (by omega) (by omega) w hT).mono ?_
  rintro e w1 ⟨rfl, k, os, rfl⟩
  refine ⟨?_, Lib.below_grow w.heap.size w (Nat.le_refl _) k os⟩
  have e : Lib.itoa (n : Int) = Lib.decDigits n := by unfold Lib.itoa; rw [if_neg (by omega)]; simp
  rw [e]
  rfl
theorem numDec_any (n : Nat) (w : World) (h : n ≤ 1000000) (hT : TabOk w) :
    Calls Tryd.prog 35 #[.int .i64 (n : Int)] w fun e w' => TextIs (decT n) w e w' := by
  have e : numTextI (n : Int) = decT n := by unfold numTextI; rw [if_neg (by omega), dec_num n h]; simp
  rw [← e]
  exact implNumText_any (n : Int) w (by omega) (by omega) hT
set_option maxHeartbeats 1000000 in
theorem okRec_yes (q : Int) (b : ByteArray) (w : World) (h : RecP q b) :
    Calls Tryd.prog 34 #[.agg #[.int .i64 q, .string b]] w fun e w' => e = .returned (.bool true) ∧ Below w.heap.size w w' := by
  obtain ⟨h1, h2, h3⟩ := h
  have h4 : (b.size : Int) ≤ 2000 := by omega
  go_enter Tryd.func34, Tryd.ntmps34
  go_wp2
  go_ret
  exact ⟨rfl, (Below.refl _ _).alloc (Nat.le_refl _) _⟩
set_option maxHeartbeats 1000000 in
theorem okRec_no (q : Int) (b : ByteArray) (w : World) (h : ¬ RecP q b) :
    Calls Tryd.prog 34 #[.agg #[.int .i64 q, .string b]] w fun e w' => e = .returned (.bool false) ∧ Below w.heap.size w w' := by
  by_cases h1 : 1 ≤ q
  · by_cases h2 : q ≤ 100000
    · have h4 : ¬ (b.size : Int) ≤ 2000 := fun h3 => h ⟨h1, h2, by omega⟩
      clear h
      go_enter Tryd.func34, Tryd.ntmps34
      go_wp2
      go_ret
      exact ⟨rfl, (Below.refl _ _).alloc (Nat.le_refl _) _⟩
    · clear h
      go_enter Tryd.func34, Tryd.ntmps34
      go_wp2
      go_ret
      exact ⟨rfl, (Below.refl _ _).alloc (Nat.le_refl _) _⟩
  · clear h
    go_enter Tryd.func34, Tryd.ntmps34
    go_wp2
    go_ret
    exact ⟨rfl, (Below.refl _ _).alloc (Nat.le_refl _) _⟩

set_option maxHeartbeats 8000000 in
set_option maxRecDepth 100000 in
theorem textRec_no (q : Int) (b : ByteArray) (w : World) (h : ¬ RecP q b) :
    Calls Tryd.prog 22 #[.agg #[.int .i64 q, .string b]] w fun e w' => TextIs (recI q b) w e w' := by
  have HP : Hid (¬ RecP q b) := h
  clear h
  have hb0 : Below w.heap.size w w := Below.refl _ _
  go_enter Tryd.func22, Tryd.ntmps22
  go_upto_region 1 with fail
  obtain ⟨qv1, hqv1⟩ : ∃ q, q = (w).heap.size := ⟨_, rfl⟩
  obtain ⟨w1, hW1⟩ : ∃ W, W = (w).alloc (.cells #[.int .i64 q, .string b] 42) := ⟨_, rfl⟩
  have hz1 : (w).heap.size = qv1 := hqv1.symm
  first | rw [← hW1, ← hqv1] | rw [← hW1]
  have hs1 : w1.heap.size = qv1 + 1 := by rw [hW1, ← hz1]; simp
  have bw : Below (w).heap.size (w) w1 := by rw [hW1]; exact (Below.refl _ _).alloc (Nat.le_refl _) _
  have hb1 : Below w.heap.size w (w1) := hb0.trans (bw.mono hb0.size)
  have HBv1_1 : Hid ((w1).heap[qv1]? = some (.cells #[.int .i64 q, .string b] 42)) := by show _ = _; rw [hW1, ← hz1]; exact heap_alloc_new _ _
  clear hb0 bw hW1 hz1
  clear hs1 hqv1
  have cv1_0 : (w1).cell? ⟨qv1, 0, none⟩ = some (.int .i64 q) := (cell_of HBv1_1.out 0).trans rfl
  have cv1_1 : (w1).cell? ⟨qv1, 1, none⟩ = some (.string b) := (cell_of HBv1_1.out 1).trans rfl
  go_wp2_with fail
  refine (okRec_no q b _ HP.out).mono ?_
  rintro e w2 ⟨rfl, bw⟩
  have hb2 : Below w.heap.size w (w2) := hb1.trans (bw.mono hb1.size)
  have HBv1_2 : Hid ((w2).heap[qv1]? = some (.cells #[.int .i64 q, .string b] 42)) := blk_below HBv1_1.out bw
  clear hb1 HBv1_1 bw
  clear cv1_0 cv1_1
  go_wp2_with fail
  go_ret
  exact TextIs.of (recI_no HP.out).symm hb2

set_option maxHeartbeats 8000000 in
set_option maxRecDepth 100000 in
theorem textRec_yes (q : Nat) (b : ByteArray) (w : World) (h : RecP (q : Int) b) (hT : TabOk w) :
    Calls Tryd.prog 22 #[.agg #[.int .i64 (q : Int), .string b]] w fun e w' => TextIs (recI (q : Int) b) w e w' := by
  have HP : Hid (RecP (q : Int) b) := h
  have hq : q ≤ 100000 := by have := h.2.1; omega
  have hbz : b.size ≤ 2000 := h.2.2
  have HTB : Hid (∀ W, Below w.heap.size w W → TabOk W) := fun W h => hT.below h
  obtain ⟨d1, hd1⟩ : ∃ x, x = decT q := ⟨_, rfl⟩
  have HD1 : Hid (decT q = d1) := hd1.symm
  have z1 : d1.size ≤ 10 := by rw [hd1]; exact dec_len _ (by omega)
  obtain ⟨d2, hd2⟩ : ∃ x, x = decT b.size := ⟨_, rfl⟩
  have HD2 : Hid (decT b.size = d2) := hd2.symm
  have z2 : d2.size ≤ 10 := by rw [hd2]; exact dec_len _ (by omega)
  clear h hT hd1 hd2
  have hb0 : Below w.heap.size w w := Below.refl _ _
  go_enter Tryd.func22, Tryd.ntmps22
  go_upto_region 1 with fail
  obtain ⟨qv1, hqv1⟩ : ∃ q, q = (w).heap.size := ⟨_, rfl⟩
  obtain ⟨w1, hW1⟩ : ∃ W, W = (w).alloc (.cells #[.int .i64 (q : Int), .string b] 42) := ⟨_, rfl⟩
  have hz1 : (w).heap.size = qv1 := hqv1.symm
  first | rw [← hW1, ← hqv1] | rw [← hW1]
  have hs1 : w1.heap.size = qv1 + 1 := by rw [hW1, ← hz1]; simp
  have bw : Below (w).heap.size (w) w1 := by rw [hW1]; exact (Below.refl _ _).alloc (Nat.le_refl _) _
  have hb1 : Below w.heap.size w (w1) := hb0.trans (bw.mono hb0.size)
  have HBv1_1 : Hid ((w1).heap[qv1]? = some (.cells #[.int .i64 (q : Int), .string b] 42)) := by show _ = _; rw [hW1, ← hz1]; exact heap_alloc_new _ _
  clear hb0 bw hW1 hz1
  clear hs1 hqv1
  have cv1_0 : (w1).cell? ⟨qv1, 0, none⟩ = some (.int .i64 (q : Int)) := (cell_of HBv1_1.out 0).trans rfl
  have cv1_1 : (w1).cell? ⟨qv1, 1, none⟩ = some (.string b) := (cell_of HBv1_1.out 1).trans rfl
  go_wp2_with fail
  refine (okRec_yes (q : Int) b _ HP.out).mono ?_
  rintro e w2 ⟨rfl, bw⟩
  have hb2 : Below w.heap.size w (w2) := hb1.trans (bw.mono hb1.size)
  have HBv1_2 : Hid ((w2).heap[qv1]? = some (.cells #[.int .i64 (q : Int), .string b] 42)) := blk_below HBv1_1.out bw
  clear hb1 HBv1_1 bw
  clear cv1_0 cv1_1
  go_upto_region 3 with fail
  refine wp_region_held_drew (S := fun W => W.heap[qv1]? = some (.cells #[.int .i64 (q : Int), .string b] 42)) (by kernel_rfl) HBv1_2.out (fun _ => ?_)
  obtain ⟨w3, hX⟩ : ∃ X, X = w2.drew := ⟨_, rfl⟩
  have bw : Below w2.heap.size w2 w3 := by rw [hX]; exact (Below.refl _ _).drew
  rw [← hX]
  have hb3 : Below w.heap.size w (w3) := hb2.trans (bw.mono hb2.size)
  have HBv1_3 : Hid ((w3).heap[qv1]? = some (.cells #[.int .i64 (q : Int), .string b] 42)) := blk_below HBv1_2.out bw
  have hS3 : w3.heap[qv1]? = some (.cells #[.int .i64 (q : Int), .string b] 42) := HBv1_3.out
  clear hb2 HBv1_2 bw hX
  refine wpAnyH_takeD (i := 0) (v := .pointer (some ⟨qv1, 0, none⟩)) (some 7) rfl rfl (by kernel_rfl) (by kernel_rfl) (by kernel_rfl) (fun _ _ _ h => h) (Or.inl ⟨by rfl, by intro W _; go_simp⟩) hS3 ?_
  simp only [Act.put, List.setIfInBounds_toArray, List.set_cons_zero, List.set_cons_succ]
  refine wpAnyH_takeD (i := 1) (v := .int .i64 (q : Int)) (some 8) rfl rfl (by kernel_rfl) (by kernel_rfl) (by kernel_rfl) (fun _ _ _ h => h) (Or.inl ⟨by rfl, by intro W hW; have hhv1 := hW; have y0 := (cell_of hhv1 0).trans rfl; go_simp⟩) hS3 ?_
  simp only [Act.put, List.setIfInBounds_toArray, List.set_cons_zero, List.set_cons_succ]
  refine wpAnyH_takeD (i := 4) (v := .pointer (some ⟨qv1, 1, none⟩)) (some 11) rfl rfl (by kernel_rfl) (by kernel_rfl) (by kernel_rfl) (fun _ _ _ h => h) (Or.inl ⟨by rfl, by intro W _; go_simp⟩) hS3 ?_
  simp only [Act.put, List.setIfInBounds_toArray, List.set_cons_zero, List.set_cons_succ]
  refine wpAnyH_takeD (i := 5) (v := .string b) (some 12) rfl rfl (by kernel_rfl) (by kernel_rfl) (by kernel_rfl) (fun _ _ _ h => h) (Or.inl ⟨by rfl, by intro W hW; have hhv1 := hW; have y1 := (cell_of hhv1 1).trans rfl; go_simp⟩) hS3 ?_
  simp only [Act.put, List.setIfInBounds_toArray, List.set_cons_zero, List.set_cons_succ]
  refine wpAnyH_takeD (i := 6) (v := .int .i64 (b.size : Int)) (some 13) rfl rfl (by kernel_rfl) (by kernel_rfl) (by kernel_rfl) (fun _ _ _ h => h) (Or.inl ⟨by rfl, by intro W _; go_simp⟩) hS3 ?_
  simp only [Act.put, List.setIfInBounds_toArray, List.set_cons_zero, List.set_cons_succ]
  refine wpAnyH_takeD (i := 10) (v := .pointer (some ⟨qv1, 1, none⟩)) (some 17) rfl rfl (by kernel_rfl) (by kernel_rfl) (by kernel_rfl) (fun _ _ _ h => h) (Or.inl ⟨by rfl, by intro W _; go_simp⟩) hS3 ?_
  simp only [Act.put, List.setIfInBounds_toArray, List.set_cons_zero, List.set_cons_succ]
  refine wpAnyH_takeD (i := 11) (v := .string b) (some 18) rfl rfl (by kernel_rfl) (by kernel_rfl) (by kernel_rfl) (fun _ _ _ h => h) (Or.inl ⟨by rfl, by intro W hW; have hhv1 := hW; have y1 := (cell_of hhv1 1).trans rfl; go_simp⟩) hS3 ?_
  simp only [Act.put, List.setIfInBounds_toArray, List.set_cons_zero, List.set_cons_succ]
  refine wpAnyH_ready (rs := [2]) (by kernel_rfl) (by simp) ?_
  refine AllReadyH.cons rfl (fun K hK => ?_) AllReadyH.nil
  go_simp
  refine (numDec_any q _ (by omega) (HTB.out _ hb3)).mono ?_
  rintro e w4 ⟨rfl, bw⟩
  rw [HD1.out]
  have hb4 : Below w.heap.size w (w4) := hb3.trans (bw.mono hb3.size)
  have HBv1_4 : Hid ((w4).heap[qv1]? = some (.cells #[.int .i64 (q : Int), .string b] 42)) := blk_below HBv1_3.out bw
  clear hb3 HBv1_3 bw
  have hS4 : w4.heap[qv1]? = some (.cells #[.int .i64 (q : Int), .string b] 42) := HBv1_4.out
  refine hK.out _ _ hS4 (fun _ => ?_)
  clear hK K hS3
  refine wpAnyH_takeD (i := 3) (v := .string (d1 ++ ⟨#[32]⟩)) (some 10) rfl rfl (by kernel_rfl) (by kernel_rfl) (by kernel_rfl) (fun _ _ _ h => h) (Or.inl ⟨by rfl, by intro W _; go_simp <;> omega⟩) hS4 ?_
  simp only [Act.put, List.setIfInBounds_toArray, List.set_cons_zero, List.set_cons_succ]
  refine wpAnyH_ready (rs := [7]) (by kernel_rfl) (by simp) ?_
  refine AllReadyH.cons rfl (fun K hK => ?_) AllReadyH.nil
  go_simp
  refine (numDec_any b.size _ (by omega) (HTB.out _ hb4)).mono ?_
  rintro e w5 ⟨rfl, bw⟩
  rw [HD2.out]
  have hb5 : Below w.heap.size w (w5) := hb4.trans (bw.mono hb4.size)
  have HBv1_5 : Hid ((w5).heap[qv1]? = some (.cells #[.int .i64 (q : Int), .string b] 42)) := blk_below HBv1_4.out bw
  clear hb4 HBv1_4 bw
  have hS5 : w5.heap[qv1]? = some (.cells #[.int .i64 (q : Int), .string b] 42) := HBv1_5.out
  refine hK.out _ _ hS5 (fun _ => ?_)
  clear hK K hS4
  refine wpAnyH_takeD (i := 8) (v := .string ((d1 ++ ⟨#[32]⟩) ++ d2)) (some 15) rfl rfl (by kernel_rfl) (by kernel_rfl) (by kernel_rfl) (fun _ _ _ h => h) (Or.inl ⟨by rfl, by intro W _; go_simp <;> omega⟩) hS5 ?_
  simp only [Act.put, List.setIfInBounds_toArray, List.set_cons_zero, List.set_cons_succ]
  refine wpAnyH_takeD (i := 9) (v := .string (((d1 ++ ⟨#[32]⟩) ++ d2) ++ ⟨#[10]⟩)) (some 16) rfl rfl (by kernel_rfl) (by kernel_rfl) (by kernel_rfl) (fun _ _ _ h => h) (Or.inl ⟨by rfl, by intro W _; go_simp <;> omega⟩) hS5 ?_
  simp only [Act.put, List.setIfInBounds_toArray, List.set_cons_zero, List.set_cons_succ]
  refine wpAnyH_takeD (i := 12) (v := .string ((((d1 ++ ⟨#[32]⟩) ++ d2) ++ ⟨#[10]⟩) ++ b)) (some 19) rfl rfl (by kernel_rfl) (by kernel_rfl) (by kernel_rfl) (fun _ _ _ h => h) (Or.inl ⟨by rfl, by intro W _; go_simp <;> omega⟩) hS5 ?_
  simp only [Act.put, List.setIfInBounds_toArray, List.set_cons_zero, List.set_cons_succ]
  refine wpAnyH_takeD (i := 13) (v := .string ((((d1 ++ ⟨#[32]⟩) ++ d2) ++ ⟨#[10]⟩) ++ b)) (some 3) rfl rfl (by kernel_rfl) (by kernel_rfl) (by kernel_rfl) (fun _ _ _ h => h) (Or.inl ⟨by rfl, by intro W _; go_simp⟩) hS5 ?_
  simp only [Act.put, List.setIfInBounds_toArray, List.set_cons_zero, List.set_cons_succ]
  clear hS5
  refine wpAnyH_done (by kernel_rfl) ?_ _
  go_wp2_with fail
  obtain ⟨R, hR⟩ : ∃ R, R = ((((d1 ++ ⟨#[32]⟩) ++ d2) ++ ⟨#[10]⟩) ++ b) := ⟨_, rfl⟩
  rw [← hR]
  have HR : Hid (R = recR q b) := by show _ = _; rw [hR]; unfold recR; rw [HD1.out, HD2.out]
  have hRz : R.size ≤ 3000 := by rw [HR.out]; exact recR_size q b hq hbz
  clear hR
  obtain ⟨sm, hsm⟩ : ∃ n, n = sumP R := ⟨_, rfl⟩
  have HSM : Hid (sumP R = sm) := hsm.symm
  have hzsm : sm ≤ 4293001440 := by rw [hsm]; exact sumP_le _
  clear hsm
  obtain ⟨d3, hd3⟩ : ∃ x, x = decT sm := ⟨_, rfl⟩
  have HD3 : Hid (decT sm = d3) := hd3.symm
  have z3 : d3.size ≤ 10 := by rw [hd3]; exact dec_len _ hzsm
  clear hd3
  refine (implSum_any R _ (by unfold maxLen; omega)).mono ?_
  rintro e w6 ⟨rfl, bw⟩
  rw [HSM.out]
  have hb6 : Below w.heap.size w (w6) := hb5.trans (bw.mono hb5.size)
  have HBv1_6 : Hid ((w6).heap[qv1]? = some (.cells #[.int .i64 (q : Int), .string b] 42)) := blk_below HBv1_5.out bw
  clear hb5 HBv1_5 bw
  go_wp2_with fail
  refine (itoaDec_any sm _ hzsm (HTB.out _ hb6)).mono ?_
  rintro e w7 ⟨rfl, bw⟩
  rw [HD3.out]
  have hb7 : Below w.heap.size w (w7) := hb6.trans (bw.mono hb6.size)
  have HBv1_7 : Hid ((w7).heap[qv1]? = some (.cells #[.int .i64 (q : Int), .string b] 42)) := blk_below HBv1_6.out bw
  clear hb6 HBv1_6 bw
  go_wp2_with fail
  go_ret
  refine TextIs.of ?_ hb7
  rw [recI_yes HP.out]
  unfold recT
  rw [Int.toNat_natCast, ← HR.out, HSM.out, HD3.out]

theorem textRec_any (q : Int) (b : ByteArray) (w : World) (hT : TabOk w) :
    Calls Tryd.prog 22 #[.agg #[.int .i64 q, .string b]] w fun e w' => TextIs (recI q b) w e w' := by
  by_cases h : RecP q b
  · obtain ⟨n, rfl⟩ : ∃ n : Nat, q = (n : Int) := ⟨q.toNat, by have := h.1; omega⟩
    exact textRec_yes n b w h hT
  · exact textRec_no q b w h
set_option maxHeartbeats 1000000 in
theorem implRecText_any (seq : Int) (b : ByteArray) (w : World) (_hb : b.size ≤ 4000000) (hT : TabOk w) :
    Calls Tryd.prog 8 #[.int .i64 seq, .string b] w fun e w' => TextIs (recI seq b) w e w' := by
  have HT : Hid (TabOk w) := hT
  clear hT
  go_enter Tryd.func8, Tryd.ntmps8
  go_wp2_with fail
  refine (textRec_any seq b _ HT.out).mono ?_
  rintro e w1 ⟨rfl, bw⟩
  have HB : Hid (Below w.heap.size w w1) := bw
  clear bw
  go_wp2_with fail
  go_ret
  exact TextIs.of rfl HB.out
/-- A call answers a number. -/
def SomeNat (w : World) (e : Ending) (w' : World) : Prop := ∃ n : Nat, e = .returned (.int .i64 (n : Int)) ∧ Below w.heap.size w w'
set_option maxHeartbeats 2000000 in
theorem parting_any (a b : ByteArray) (w : World) (ha : a.size ≤ 4000000) (_hb : b.size ≤ 4000000) :
    Calls Tryd.prog 49 #[.string a, .string b] w fun e w' => SomeNat w e w' := by
  obtain ⟨m, hm⟩ : ∃ m : Nat, m = min a.size b.size := ⟨_, rfl⟩
  have hmi : min (a.size : Int) (b.size : Int) = (m : Int) := by omega
  have hma : m ≤ a.size := by omega
  have hmb : m ≤ b.size := by omega
  clear hm
  go_enter Tryd.func49, Tryd.ntmps49
  go_wp2
  go_loopw [13] (fun i wr => ∃ k : Nat, k ≤ m ∧ i = .int .i64 (k : Int) ∧ Below w.heap.size w wr) (fun i _ => m - (intOf i).toNat)
  case atStart => exact ⟨0, Nat.zero_le _, rfl, Below.refl _ _⟩
  case round =>
    obtain ⟨k, hk, rfl, HW⟩ := hrel
    by_cases hlt : (k : Int) < (m : Int)
    · have hk1 : k < a.size := by omega
      have hk2 : k < b.size := by omega
      have hk3 : (k : Int) < (a.size : Int) := by omega
      have hk4 : (k : Int) < (b.size : Int) := by omega
      obtain ⟨x, hx⟩ : ∃ x, x = a[k]'hk1 := ⟨_, rfl⟩
      obtain ⟨y, hy⟩ : ∃ y, y = b[k]'hk2 := ⟨_, rfl⟩
      have hx2 : a[k] = x := hx.symm
      have hy2 : b[k] = y := hy.symm
      clear hx hy
      by_cases hxy : x = y
      · have hne : (((x.toNat : Nat) : Int) != ((y.toNat : Nat) : Int)) = false := by rw [hxy]; simp
        clear hxy
        go_upto_region 5 with fail
        go_region_held3 (fun _ => True) (trivial) (fail)
        all_goals
          go_wp2
          go_roundw
          · exact ⟨k + 1, by omega, by simp, HW.drew⟩
          · simp [intOf]; omega
      · have hne : (((x.toNat : Nat) : Int) != ((y.toNat : Nat) : Int)) = true := by
          rw [bne_iff_ne]
          exact fun e => hxy (UInt8.toNat_inj.1 (by omega))
        clear hxy
        go_upto_region 5 with fail
        go_region_held3 (fun _ => True) (trivial) (fail)
        all_goals
          go_wp2
          go_ret
          exact ⟨k, rfl, HW.drew⟩
    · have hkm : k = m := by omega
      go_wp2
      go_ret
      exact ⟨m, rfl, HW⟩

end Go.Proofs.YtalicfiadbmdeaaDoor

namespace Go.Proofs.YtalicfiadbmdeaaDoor
open Go.ChangeShapes Go.WideShapes Go.ChangeAt Go.RowKit

theorem gTabType : (Tryd.prog.globals[1]?).map (·.type) = some 116 := by kernel_rfl
theorem cells62 : Tryd.prog.cellsOf 116 = 20 := by kernel_rfl
theorem cells55 : Tryd.prog.cellsOf 109 = 1 := by kernel_rfl
theorem table {W : World} (h : laidMetH Tryd.prog Rows.fnExactRecTextRow.laid W) : TabOk W := by
  have h1 : laidMet Tryd.prog Rows.fnExactRecTextRow.laid W := h
  obtain ⟨ps, hl, _⟩ := h1
  obtain ⟨g1, t1, cs1, f1, p1, q1, _, _, _, _, hr1, _⟩ := hl
  obtain ⟨g2, t2, cs2, f2, p2, q2, _, _, _, _, hr2, _⟩ := hr1
  obtain ⟨g3, t3, cs3, f3, p3, q3, hg, ht, hvar, hd, _, _⟩ := hr2
  obtain rfl := Option.some.inj (gTab.symm.trans hg)
  obtain rfl := Option.some.inj (gTabType.symm.trans ht)
  unfold TabOk Lib.TabIs
  rw [hvar, ← Lib.cells_of_tab (zs := Lib.pow10Tab) Tryd.underlying116 Tryd.underlying109 cells55 cells62 hd]

/-- A world with the three tables as their initialisers lay them. -/
def withTables (w : World) : World :=
  { w with heap := ((w.heap.modify 1 fun
      | .cells _ t frozen => .cells #[.int .u64 1, .int .u64 10, .int .u64 100, .int .u64 1000, .int .u64 10000, .int .u64 100000, .int .u64 1000000, .int .u64 10000000, .int .u64 100000000, .int .u64 1000000000, .int .u64 10000000000, .int .u64 100000000000, .int .u64 1000000000000, .int .u64 10000000000000, .int .u64 100000000000000, .int .u64 1000000000000000, .int .u64 10000000000000000, .int .u64 100000000000000000, .int .u64 1000000000000000000, .int .u64 10000000000000000000] t frozen
      | o => o).modify 3 fun
      | .cells _ t frozen => .cells #[.int .u8 0, .int .u8 1, .int .u8 28, .int .u8 2, .int .u8 29, .int .u8 14, .int .u8 24, .int .u8 3, .int .u8 30, .int .u8 22, .int .u8 20, .int .u8 15, .int .u8 25, .int .u8 17, .int .u8 4, .int .u8 8, .int .u8 31, .int .u8 27, .int .u8 13, .int .u8 23, .int .u8 21, .int .u8 19, .int .u8 16, .int .u8 7, .int .u8 26, .int .u8 12, .int .u8 18, .int .u8 6, .int .u8 11, .int .u8 5, .int .u8 10, .int .u8 9] t frozen
      | o => o).modify 4 fun
      | .cells _ t frozen => .cells #[.int .u8 0, .int .u8 1, .int .u8 56, .int .u8 2, .int .u8 57, .int .u8 49, .int .u8 28, .int .u8 3, .int .u8 61, .int .u8 58, .int .u8 42, .int .u8 50, .int .u8 38, .int .u8 29, .int .u8 17, .int .u8 4, .int .u8 62, .int .u8 47, .int .u8 59, .int .u8 36, .int .u8 45, .int .u8 43, .int .u8 51, .int .u8 22, .int .u8 53, .int .u8 39, .int .u8 33, .int .u8 30, .int .u8 24, .int .u8 18, .int .u8 12, .int .u8 5, .int .u8 63, .int .u8 55, .int .u8 48, .int .u8 27, .int .u8 60, .int .u8 41, .int .u8 37, .int .u8 16, .int .u8 46, .int .u8 35, .int .u8 44, .int .u8 21, .int .u8 52, .int .u8 32, .int .u8 23, .int .u8 11, .int .u8 54, .int .u8 26, .int .u8 40, .int .u8 15, .int .u8 34, .int .u8 20, .int .u8 31, .int .u8 10, .int .u8 25, .int .u8 14, .int .u8 19, .int .u8 9, .int .u8 13, .int .u8 8, .int .u8 7, .int .u8 6] t frozen
      | o => o }
end Go.Proofs.YtalicfiadbmdeaaDoor

namespace Go.Proofs.YtalicfiadbmdeaaDoor
open Go.ChangeShapes Go.WideShapes Go.ChangeAt Go.RowKit

/-- The variable holds the handle of the type of errors. -/
def HandOk (W : World) : Prop := W.cell? ⟨0, 0, none⟩ = some (.iface 89 (.agg #[.pointer (some ⟨5, 47, none⟩)]))
theorem HandOk.lt {W : World} (h : HandOk W) : 0 < W.heap.size := by
  rcases Nat.lt_or_ge 0 W.heap.size with h1 | h1
  · exact h1
  · unfold HandOk at h
    simp [World.cell?, Array.getElem?_eq_none h1] at h
theorem HandOk.below {W W' : World} (h : HandOk W) (hb : Below W.heap.size W W') : HandOk W' := (hb.cell (p := ⟨0, 0, none⟩) h.lt).trans h
theorem errVar : Tryd.prog.globalNamed "errors.errorType" = some 0 := by kernel_rfl
theorem errRow : ((Tryd.prog.cutTypes.find? (·.1 == "internal/reflectlite.rtype")).map (·.2)) = some 89 := by kernel_rfl
theorem errOnly : ((List.range 154).filter fun t => Tryd.prog.rowNamed t [101, 114, 114, 111, 114]) = [47] := by kernel_rfl
theorem errMany : Tryd.prog.types.size = 154 := by kernel_rfl
theorem errHand : typeHandle Tryd.prog 47 = .pointer (some ⟨5, 47, none⟩) := by kernel_rfl
theorem parts_of {W : World} (h : laidMetH Tryd.prog Rows.fnExactRecReadRow.laid W) : TabOk W ∧ HandOk W := by
  have h2 : laidMet Tryd.prog Rows.fnExactRecTextRow.laid W ∧ handlesMet Tryd.prog [("errors.errorType", Rows.laid_errors_errorType)] W := h
  refine ⟨table h2.1, ?_⟩
  obtain ⟨nm, u, t, e1, e2, e3, e4, e5⟩ := h2.2 _ (List.mem_singleton.2 rfl)
  obtain rfl : [101, 114, 114, 111, 114] = nm := Option.some.inj e1
  obtain rfl := Option.some.inj (errRow.symm.trans e2)
  have hm : t ∈ (List.range 154).filter fun t => Tryd.prog.rowNamed t [101, 114, 114, 111, 114] := List.mem_filter.2 ⟨List.mem_range.2 (by rw [← errMany]; exact e3), e4⟩
  rw [errOnly] at hm
  obtain rfl := List.mem_singleton.1 hm
  rw [errHand] at e5
  unfold HandOk
  simpa using World.var?_cell errVar e5 0
/-- A world with the tables and the handle laid. -/
def withHand (w : World) : World :=
  { withTables w with heap := (withTables w).heap.modify 0 fun
      | .cells _ t frozen => .cells #[.iface 89 (.agg #[.pointer (some ⟨5, 47, none⟩)])] t frozen
      | o => o }
end Go.Proofs.YtalicfiadbmdeaaDoor

namespace Go.Proofs.YtalicfiadbmdeaaDoor
open Go.RowKit Go.Extern.Stop Go.Stop Go.Extern

theorem as_nil (t : Value) (w : World) :
    Calls Tryd.prog 26 #[.nilIface, t] w fun e w' => e = .returned (.bool false) ∧ w' = w := by
  go_enter Tryd.func26, Tryd.ntmps26
  go_wp2
  go_ret
  exact ⟨rfl, rfl⟩

theorem Tryd.valueOf53 (t : Addr) (w : World) : (ReflectliteValue.unpack (.iface 53 (.pointer (some t)))).run Tryd.prog w
    = .ok (.agg #[.pointer (some ⟨5, 53, none⟩), .pointer (some ⟨w.heap.size, 0, none⟩), .int .u64 150]) (w.alloc (.cells #[.pointer (some t)] 53)) := by kernel_rfl
theorem Tryd.type53 (a : Addr) (w : World) : (ReflectliteValue.methodAny (ReflectliteValue.valueError "reflectlite.Value.Type" 0) (fun t _ _ _ => ReflectliteType.toType t) #[.agg #[.pointer (some ⟨5, 53, none⟩), .pointer (some a), .int .u64 150]]).run Tryd.prog w
    = .ok (.iface 89 (.agg #[.pointer (some ⟨5, 53, none⟩)])) w := by kernel_rfl
theorem Tryd.methodKind (h : Value) (w : World) : (Go.method 254 89 (.agg #[h]) "Kind").run Tryd.prog w = .ok (95, h) w := by kernel_rfl
theorem Tryd.kind53 (w : World) : ((ReflectliteType.abiMethod fun t => (fun a : Nat => Value.int IntKind.u8 (a : Int)) <$> Rtype.kind t) #[.pointer (some ⟨5, 53, none⟩)]).run Tryd.prog w = .ok (.int .u8 22) w := by kernel_rfl
theorem Tryd.kind51 (w : World) : ((ReflectliteType.abiMethod fun t => (fun a : Nat => Value.int IntKind.u8 (a : Int)) <$> Rtype.kind t) #[.pointer (some ⟨5, 51, none⟩)]).run Tryd.prog w = .ok (.int .u8 25) w := by kernel_rfl

theorem rlm (z : Sem Value) (f : TypeId → Addr → Nat → Nat → Sem Value) (v : Value) :
    ReflectliteValue.method z f #[v] = (do match ← ReflectliteValue.parts v with | none => z | some (t, a, fl) => f t a fl (fl % 32)) := rfl
theorem Tryd.parts53 (a : Addr) (w : World) : (ReflectliteValue.parts (.agg #[.pointer (some ⟨5, 53, none⟩), .pointer (some a), .int .u64 150])).run Tryd.prog w = .ok (some (53, a, 150)) w := by kernel_rfl
theorem Tryd.isNil53 (a p : Addr) (W : World) (ha : W.cell? a = some (.pointer (some p))) :
    (ReflectliteValue.method (ReflectliteValue.valueError "reflectlite.Value.IsNil" 0) ReflectliteValue.isNil #[.agg #[.pointer (some ⟨5, 53, none⟩), .pointer (some a), .int .u64 150]]).run Tryd.prog W = .ok (.bool false) W := by
  rw [rlm]
  simp only [Sem.run_bind, Tryd.parts53, Result.andThen]
  simp [ReflectliteValue.isNil, loadVar, isAgg, underlying, Tryd.underlying53, ha, Result.andThen]

theorem Tryd.methodElem (h : Value) (w : World) : (Go.method 254 89 (.agg #[h]) "Elem").run Tryd.prog w = .ok (106, .agg #[h]) w := by kernel_rfl
theorem Tryd.methodImplements (h : Value) (w : World) : (Go.method 254 89 (.agg #[h]) "Implements").run Tryd.prog w = .ok (107, .agg #[h]) w := by kernel_rfl
theorem Tryd.methodAssignableTo (h : Value) (w : World) : (Go.method 254 89 (.agg #[h]) "AssignableTo").run Tryd.prog w = .ok (104, .agg #[h]) w := by kernel_rfl
theorem Tryd.elem53 (w : World) : (ReflectliteType.method ReflectliteType.elem #[.agg #[.pointer (some ⟨5, 53, none⟩)]]).run Tryd.prog w = .ok (.iface 89 (.agg #[.pointer (some ⟨5, 51, none⟩)])) w := by kernel_rfl
theorem Tryd.implements51 (w : World) : (ReflectliteType.relation "Implements" ReflectliteType.implements_ #[.agg #[.pointer (some ⟨5, 51, none⟩)], .iface 89 (.agg #[.pointer (some ⟨5, 47, none⟩)])]).run Tryd.prog w = .ok (.bool true) w := by kernel_rfl
theorem Tryd.typeOf51 (v : Value) (w : World) : (ReflectliteType.typeOf #[.iface 51 v]).run Tryd.prog w = .ok (.iface 89 (.agg #[.pointer (some ⟨5, 51, none⟩)])) w := by kernel_rfl
theorem Tryd.assignable51 (w : World) : (ReflectliteType.relation "AssignableTo" ReflectliteType.assignableTo #[.agg #[.pointer (some ⟨5, 51, none⟩)], .iface 89 (.agg #[.pointer (some ⟨5, 51, none⟩)])]).run Tryd.prog w = .ok (.bool true) w := by kernel_rfl
theorem Tryd.valueOf51 (e : Int) (w : World) : (ReflectliteValue.unpack (.iface 51 (.agg #[.int .i64 e]))).run Tryd.prog w
    = .ok (.agg #[.pointer (some ⟨5, 51, none⟩), .pointer (some ⟨w.heap.size, 0, none⟩), .int .u64 153]) (w.alloc (.cells #[.int .i64 e] 51)) := by kernel_rfl

theorem Tryd.elemOf53 (w : World) : (Rtype.elem? 53).run Tryd.prog w = .ok (some 51) w := by kernel_rfl
theorem Tryd.mk51 (p : Addr) (w : World) : (ReflectliteValue.mk 51 p ReflectliteValue.flagAddr).run Tryd.prog w = .ok (.agg #[.pointer (some ⟨5, 51, none⟩), .pointer (some p), .int .u64 409]) w := by kernel_rfl
theorem Tryd.elemV53 (a p : Addr) (W : World) (ha : W.cell? a = some (.pointer (some p))) :
    (ReflectliteValue.method (ReflectliteValue.valueError "reflectlite.Value.Elem" 0) ReflectliteValue.elem #[.agg #[.pointer (some ⟨5, 53, none⟩), .pointer (some a), .int .u64 150]]).run Tryd.prog W
      = .ok (.agg #[.pointer (some ⟨5, 51, none⟩), .pointer (some p), .int .u64 409]) W := by
  rw [rlm]
  simp only [Sem.run_bind, Tryd.parts53, Result.andThen]
  simp [ReflectliteValue.elem, loadVar, isAgg, underlying, Tryd.underlying53, ha, Result.andThen, Tryd.elemOf53, Tryd.mk51]
theorem rls (v x : Value) : ReflectliteValue.set #[v, x] = (do
    let (some (dst, a, fl), some (src, b, _)) := (← ReflectliteValue.parts v, ← ReflectliteValue.parts x)
      | unsupported (.noEntry "extern/(internal/reflectlite.Value).Set.zeroValue")
    if fl / ReflectliteValue.flagAddr % 2 == 0 then unsupported (.noEntry "extern/(internal/reflectlite.Value).Set.unaddressable")
    let val ← loadVar src b
    if ← Rtype.directlyAssignable dst src then storeVar dst a val
    else if ← Rtype.implements dst src then
      if (← Rtype.kind src) == 20 then
        match val with
        | .nilIface => unsupported (.noEntry "extern/reflectlite: a nil value of one interface type handed on as a value of another")
        | _ => storeVar dst a val
      else storeVar dst a (.iface src val)
    else panicString ("reflectlite.Set: value of type " ++ (← Rtype.spelt src) ++ " is not assignable to type " ++ (← Rtype.spelt dst))
    pure (.tuple #[])) := rfl
theorem Tryd.parts51a (a : Addr) (w : World) : (ReflectliteValue.parts (.agg #[.pointer (some ⟨5, 51, none⟩), .pointer (some a), .int .u64 409])).run Tryd.prog w = .ok (some (51, a, 409)) w := by kernel_rfl
theorem Tryd.parts51 (a : Addr) (w : World) : (ReflectliteValue.parts (.agg #[.pointer (some ⟨5, 51, none⟩), .pointer (some a), .int .u64 153])).run Tryd.prog w = .ok (some (51, a, 153)) w := by kernel_rfl
theorem Tryd.direct51 (w : World) : (Rtype.directlyAssignable 51 51).run Tryd.prog w = .ok true w := by kernel_rfl
theorem Tryd.set51 (ta b : Addr) (e : Int) (old : Value) (W : World) (hb : W.cell? b = some (.int .i64 e)) (ht : W.cell? ta = some old) (hf : W.frozen? ta = false) :
    (ReflectliteValue.set #[.agg #[.pointer (some ⟨5, 51, none⟩), .pointer (some ta), .int .u64 409], .agg #[.pointer (some ⟨5, 51, none⟩), .pointer (some b), .int .u64 153]]).run Tryd.prog W
      = .ok (.tuple #[]) (W.setCell ta (.int .i64 e)) := by
  rw [rls]
  simp only [Sem.run_bind, Tryd.parts51a, Tryd.parts51, Result.andThen]
  simp [ReflectliteValue.flagAddr, loadVar, isAgg, underlying, Tryd.underlying51, hb, Result.andThen, Tryd.direct51, storeVar, Value.cells, storeCells, Addr.add, loadCells, loadCellsFrom]
  rw [run_store Tryd.prog W ta _ _ (by rfl)]
  simp [ht, hf]

set_option maxHeartbeats 4000000 in
set_option maxRecDepth 100000 in
theorem as_hit (e : Int) (t : Addr) (old : Value) (w : World) (hg : w.cell? ⟨0, 0, none⟩ = some (.iface 89 (.agg #[.pointer (some ⟨5, 47, none⟩)]))) (ht0 : w.cell? t = some old) (hf0 : w.frozen? t = false) :
    Calls Tryd.prog 26 #[.iface 51 (.agg #[.int .i64 e]), .iface 53 (.pointer (some t))] w fun ev w' => ev = .returned (.bool true) ∧ w' = ((((w.alloc (.cells #[.pointer (some t)] 53)).alloc (.cells #[.pointer (some ⟨5, 53, none⟩), .pointer (some ⟨w.heap.size, 0, none⟩), .int .u64 150] 73)).alloc (.cells #[.pointer (some ⟨5, 53, none⟩), .pointer (some ⟨w.heap.size, 0, none⟩), .int .u64 150] 73)).alloc (.cells #[.int .i64 e] 51)).setCell t (.int .i64 e) := by
  have hx6n := @run_callFunc_extern Tryd.prog 40 _ (fun args => ReflectliteValue.unpack (args.getD 0 (.tuple #[]))) Tryd.func40 (by kernel_rfl) (by kernel_rfl) (by kernel_rfl) (by kernel_rfl)
  have hx7n := @run_callFunc_extern Tryd.prog 41 _ (ReflectliteValue.methodAny (ReflectliteValue.valueError "reflectlite.Value.Type" 0) (fun t _ _ _ => ReflectliteType.toType t)) Tryd.func41 (by kernel_rfl) (by kernel_rfl) (by kernel_rfl) (by kernel_rfl)
  have hx8n := @run_callFunc_extern Tryd.prog 42 _ (ReflectliteValue.method (ReflectliteValue.valueError "reflectlite.Value.IsNil" 0) ReflectliteValue.isNil) Tryd.func42 (by kernel_rfl) (by kernel_rfl) (by kernel_rfl) (by kernel_rfl)
  have hx27n := @run_callFunc_extern Tryd.prog 95 _ (ReflectliteType.abiMethod fun t => do pure (.int .u8 (← Rtype.kind t))) Tryd.func95 (by kernel_rfl) (by kernel_rfl) (by kernel_rfl) (by kernel_rfl)
  have hx37n := @run_callFunc_extern Tryd.prog 106 _ (ReflectliteType.method ReflectliteType.elem) Tryd.func106 (by kernel_rfl) (by kernel_rfl) (by kernel_rfl) (by kernel_rfl)
  have hx38n := @run_callFunc_extern Tryd.prog 107 _ (ReflectliteType.relation "Implements" ReflectliteType.implements_) Tryd.func107 (by kernel_rfl) (by kernel_rfl) (by kernel_rfl) (by kernel_rfl)
  have hx10n := @run_callFunc_extern Tryd.prog 50 _ ReflectliteType.typeOf Tryd.func50 (by kernel_rfl) (by kernel_rfl) (by kernel_rfl) (by kernel_rfl)
  have hx35n := @run_callFunc_extern Tryd.prog 104 _ (ReflectliteType.relation "AssignableTo" ReflectliteType.assignableTo) Tryd.func104 (by kernel_rfl) (by kernel_rfl) (by kernel_rfl) (by kernel_rfl)
  have hx11n := @run_callFunc_extern Tryd.prog 51 _ (ReflectliteValue.method (ReflectliteValue.valueError "reflectlite.Value.Elem" 0) ReflectliteValue.elem) Tryd.func51 (by kernel_rfl) (by kernel_rfl) (by kernel_rfl) (by kernel_rfl)
  have hx12n := @run_callFunc_extern Tryd.prog 52 _ ReflectliteValue.set Tryd.func52 (by kernel_rfl) (by kernel_rfl) (by kernel_rfl) (by kernel_rfl)
  have tO := Tryd.typeOf51
  have mA := Tryd.methodAssignableTo
  have a25 := Tryd.assignable51
  have v25 := Tryd.valueOf51
  have f6 := Tryd.valueOf53
  have f7 := Tryd.type53
  have mK := Tryd.methodKind
  have mE := Tryd.methodElem
  have mI := Tryd.methodImplements
  have k27 := Tryd.kind53
  have k25 := Tryd.kind51
  have e27 := Tryd.elem53
  have i25 := Tryd.implements51
  have n8 := Tryd.isNil53 ⟨w.heap.size, 0, none⟩ t ((w.alloc (.cells #[.pointer (some t)] 53)).alloc (.cells #[.pointer (some ⟨5, 53, none⟩), .pointer (some ⟨w.heap.size, 0, none⟩), .int .u64 150] 73)) (by simp)
  have hlt : 0 < w.heap.size := by
    rcases Nat.lt_or_ge 0 w.heap.size with h | h
    · exact h
    · simp [World.cell?, Array.getElem?_eq_none h] at hg
  have hg2 : ((w.alloc (.cells #[.pointer (some t)] 53)).alloc (.cells #[.pointer (some ⟨5, 53, none⟩), .pointer (some ⟨w.heap.size, 0, none⟩), .int .u64 150] 73)).cell? ⟨0, 0, none⟩ = some (.iface 89 (.agg #[.pointer (some ⟨5, 47, none⟩)])) := by
    rw [World.cell?_alloc_lt _ _ ⟨0, 0, none⟩ (by first | (simp; done) | (simp; omega)), World.cell?_alloc_lt _ _ ⟨0, 0, none⟩ hlt]; exact hg
  have htl : t.block < w.heap.size := by
    rcases Nat.lt_or_ge t.block w.heap.size with h | h
    · exact h
    · simp [World.cell?, Array.getElem?_eq_none h] at ht0
  have el := Tryd.elemV53 ⟨w.heap.size, 0, none⟩ t (((w.alloc (.cells #[.pointer (some t)] 53)).alloc (.cells #[.pointer (some ⟨5, 53, none⟩), .pointer (some ⟨w.heap.size, 0, none⟩), .int .u64 150] 73)).alloc (.cells #[.pointer (some ⟨5, 53, none⟩), .pointer (some ⟨w.heap.size, 0, none⟩), .int .u64 150] 73)) (by rw [World.cell?_alloc_lt _ _ ⟨w.heap.size, 0, none⟩ (by simp; omega)]; simp)
  have st := Tryd.set51 t ⟨w.heap.size + 1 + 1 + 1, 0, none⟩ e old ((((w.alloc (.cells #[.pointer (some t)] 53)).alloc (.cells #[.pointer (some ⟨5, 53, none⟩), .pointer (some ⟨w.heap.size, 0, none⟩), .int .u64 150] 73)).alloc (.cells #[.pointer (some ⟨5, 53, none⟩), .pointer (some ⟨w.heap.size, 0, none⟩), .int .u64 150] 73)).alloc (.cells #[.int .i64 e] 51))
    (by rw [World.cell?_alloc_at _ _ _ _ (by simp)]; rfl)
    (by rw [World.cell?_alloc_lt _ _ t (by simp; omega), World.cell?_alloc_lt _ _ t (by simp; omega), World.cell?_alloc_lt _ _ t (by simp; omega), World.cell?_alloc_lt _ _ t htl]; exact ht0)
    (by rw [World.frozen?_alloc_old _ _ t (by simp; omega), World.frozen?_alloc_old _ _ t (by simp; omega), World.frozen?_alloc_old _ _ t (by simp; omega), World.frozen?_alloc_old _ _ t (Nat.ne_of_lt htl)]; exact hf0)
  go_enter Tryd.func26, Tryd.ntmps26
  go_wp2
  refine wp_loop_rounds 1 ?_
  rw [rounds_succ]
  go_wp2
  go_ret
  exact ⟨rfl, rfl⟩
end Go.Proofs.YtalicfiadbmdeaaDoor

namespace Go.Proofs.YtalicfiadbmdeaaDoor
open Go.RowKit
open Go.Lib hiding intOf

/-- The word that strings.Index reads holds some int. -/
def LenOk (w : World) : Prop := ∃ m : Int, w.cell? ⟨2, 0, none⟩ = some (.int .i64 m)
theorem LenOk.lt {w : World} (h : LenOk w) : 2 < w.heap.size := by
  obtain ⟨m, hm⟩ := h
  exact World.block_lt_of_cell? w _ hm
theorem LenOk.below {B : Nat} {w w' : World} (h : LenOk w) (hb : Below B w w') (hB : 2 < B) : LenOk w' := by
  obtain ⟨m, hm⟩ := h
  exact ⟨m, by rw [hb.cell (p := ⟨2, 0, none⟩) hB]; exact hm⟩

/-- A reader: what is left to be read. -/
def Reader (w : World) (b : Nat) (left : ByteArray) : Prop := w.heap[b]? = some (.cells #[.string left] 68)
theorem Reader.cell {w : World} {b : Nat} {left : ByteArray} (h : Reader w b left) : w.cell? ⟨b, 0, none⟩ = some (.string left) := by
  unfold Reader at h
  simp [World.cell?, h]
theorem Reader.frozen {w : World} {b : Nat} {left : ByteArray} (h : Reader w b left) : w.frozen? ⟨b, 0, none⟩ = false := by
  unfold Reader at h
  simp [World.frozen?, h]
theorem Reader.put {w : World} {b : Nat} {left : ByteArray} (h : Reader w b left) (x : ByteArray) : Reader (w.setCell ⟨b, 0, none⟩ (.string x)) b x := by
  unfold Reader at h ⊢
  rw [heap_set _ _ _ _ _ _ _ h]
  rfl
/-- What a reader took: what is left, and nothing else has turned. -/
def Took (b : Nat) (left : ByteArray) (w w' : World) : Prop := Reader w' b left ∧ w.grownBy w' (some b)

set_option maxHeartbeats 400000 in
theorem upTo_any (b : Nat) (left sep : ByteArray) (w : World) (h : Reader w b left) (hl : left.size ≤ 4000000) (hm : LenOk w) :
    Calls Tryd.prog 37 #[.pointer (some ⟨b, 0, none⟩), .string sep] w fun e w' => e = .returned (.string (cutA left sep)) ∧ Took b (cutB left sep) w w' := by
  obtain ⟨m, hm⟩ := hm
  have hc := h.cell
  obtain ⟨x, hx⟩ : ∃ x, x = cutA left sep := ⟨_, rfl⟩
  obtain ⟨y, hy⟩ : ∃ y, y = cutB left sep := ⟨_, rfl⟩
  have HX : Hid ((⟨(Lib.cut left.data.toList sep.data.toList).1.toArray⟩ : ByteArray) = x) := hx.symm
  have HY : Hid ((⟨(Lib.cut left.data.toList sep.data.toList).2.1.toArray⟩ : ByteArray) = y) := hy.symm
  rw [← hx, ← hy]
  clear hx hy
  go_enter Tryd.func37, Tryd.ntmps37
  go_wp2_with fail
  refine (Tryd.strings_Cut left sep m _ (by omega) hm).mono ?_
  rintro e w1 ⟨rfl, k, rfl⟩
  rw [HX.out, HY.out]
  generalize (Lib.cut left.data.toList sep.data.toList).2.2 = t
  have h1 : Reader (w.drewN k) b left := h
  have hg : w.grownBy (w.drewN k) (some b) := ⟨rfl, rfl, rfl, Nat.le_refl _, fun _ _ _ => rfl⟩
  have hc1 := h1.cell
  have hf1 := h1.frozen
  have HT : Hid (Took b y w ((w.drewN k).setCell ⟨b, 0, none⟩ (.string y))) := ⟨h1.put y, grown_then hg (grown_set _ _ _ _)⟩
  clear hc h hm h1 hg
  go_wp2_with fail
  go_ret
  exact ⟨rfl, HT.out⟩

end Go.Proofs.YtalicfiadbmdeaaDoor

namespace Go.Proofs.YtalicfiadbmdeaaDoor
open Go.RowKit
open Go.Lib hiding intOf

set_option maxHeartbeats 1000000 in
theorem l1Below_all (c B : Nat) (m : Int) (a : Option Addr) (len cap : Nat) (zs : List Int) (w : World) (hcur : CurAt w c a len cap) (hcode : CodeAt w B a len zs) (hB : B ≤ c) (hm : 1 ≤ m) (hm2 : m ≤ 65536) :
    Calls Tryd.prog 20 #[.pointer (some ⟨c, 0, none⟩), .int .i64 m] w fun e w' => DrawIs m w c a len cap e w' := by
  by_cases h256 : m ≤ 256
  · exact l1Below_any c B m a len cap zs w hcur hcode hB hm h256
  · have hm0 : ¬ m ≤ 0 := by omega
    go_enter Tryd.func20, Tryd.ntmps20
    go_wp2_with fail
    refine (l1Byte_any c B a len cap zs _ hcur hcode hB).mono ?_
    rintro e w1 ⟨x, rfl, hx0, hx1, hcur1, hg1⟩
    have hco1 := hcode.grown hg1 hB
    go_wp2_with fail
    refine (l1Byte_any c B a len cap zs _ hcur1 hco1 hB).mono ?_
    rintro e w2 ⟨y, rfl, hy0, hy1, hcur2, hg2⟩
    have hg3 := grownBy_trans hg1 hg2
    have hco2 := hcode.grown hg3 hB
    go_wp2_with fail
    refine (l1Byte_any c B a len cap zs _ hcur2 hco2 hB).mono ?_
    rintro e w3 ⟨z, rfl, hz0, hz1, hcur3, hg4⟩
    have hg5 := grownBy_trans hg3 hg4
    have hco3 := hcode.grown hg5 hB
    go_wp2_with fail
    refine (l1Byte_any c B a len cap zs _ hcur3 hco3 hB).mono ?_
    rintro e w4 ⟨u, rfl, hu0, hu1, hcur4, hg6⟩
    have hg7 := grownBy_trans hg5 hg6
    clear hcur hcode hcur1 hco1 hg1 hg2 hg3 hco2 hcur2 hcur3 hg4 hg5 hco3 hg6
    go_wp2_with fail
    go_ret
    exact ⟨_, rfl, Int.emod_nonneg _ (by omega), Int.emod_lt_of_pos _ (by omega), hcur4, hg7⟩

end Go.Proofs.YtalicfiadbmdeaaDoor

namespace Go.Proofs.YtalicfiadbmdeaaDoor
open Go.RowKit
open Go.Lib hiding intOf

set_option maxHeartbeats 1000000 in
set_option maxRecDepth 100000 in
theorem l3Dent_any (c B : Nat) (s : ByteArray) (f : Nat → ByteArray) (g n : Nat) (hxs : ∀ j, j < n → (f j).size ≤ 64) (hn1 : 1 ≤ n) (hn2 : n ≤ 256) (a : Option Addr) (len cap : Nat) (zs : List Int) (w : World) (hcur : CurAt w c a len cap) (hcode : CodeAt w B a len zs) (hB : B ≤ c) (hs : s.size ≤ 20000) (hgc : g ≠ c) (hl : ListAt w g n f) :
    Calls Tryd.prog 28 #[.pointer (some ⟨c, 0, none⟩), .string s, .slice (some ⟨g, 0, none⟩) n n] w fun e w' => TextDrawn 20064 w c a len cap e w' := by
  have HX : Hid (∀ j, j < n → (f j).size ≤ 64) := hxs
  have HL : Hid (∀ W, w.grownBy W (some c) → ListAt W g n f) := fun W h j hj => grown_cell h (hl j hj) hgc
  have HCO : Hid (∀ W, w.grownBy W (some c) → CodeAt W B a len zs) := fun W h => hcode.grown h hB
  clear hxs hl
  go_enter Tryd.func28, Tryd.ntmps28
  go_wp2_with fail
  refine (l1Below_all c B ((s.size : Int) + 1) a len cap zs _ hcur hcode hB (by omega) (by omega)).mono ?_
  rintro e w1 ⟨x, rfl, hx0, hx1, hcu1, hg1⟩
  obtain ⟨k, rfl⟩ := Int.eq_ofNat_of_zero_le hx0
  have hks : k ≤ s.size := by omega
  have hki : (k : Int) ≤ (s.size : Int) := by omega
  clear hcur hcode
  go_wp2_with fail
  refine (l1Below_any c B 5 a len cap zs _ hcu1 (HCO.out _ hg1) hB (by omega) (by omega)).mono ?_
  rintro e w2 ⟨y, rfl, hy0, hy1, hcu2, hg2⟩
  have hg3 := grownBy_trans hg1 hg2
  clear hcu1 hg1 hg2
  by_cases y0 : y = 0
  · subst y0
    go_wp2_with fail
    go_ret
    exact ⟨_, rfl, by simp; omega, hcu2, hg3⟩
  · have e0 : (y == 0) = false := by rw [beq_eq_false_iff_ne]; exact y0
    by_cases y1 : y = 1
    · subst y1
      have HG : Hid (w.grownBy w2.drew (some c)) := grownBy_trans hg3 (grown_below ((Below.refl _ w2).drew) _)
      have HP : Hid (∀ W, w2.drew.grownBy W (some c) → w.grownBy W (some c)) := fun W h => grownBy_trans HG.out h
      have HCD : Hid (CurAt w2.drew c a len cap) := hcu2.below ((Below.refl _ w2).drew) hcu2.lt
      have hk0 : (0 : Int) ≤ (k : Int) := by omega
      have ZZ : Hid (∀ t : ByteArray, t.size ≤ 64 → ¬ 9223372036854775807 < k + t.size ∧ ¬ 9223372036854775807 < k + t.size + (s.size - k)) := fun t h => ⟨by omega, by omega⟩
      clear hy0 hy1 e0 hx0 hx1 y0
      clear hcu2 hg3
      go_wp2_with fail
      go_region_law (first | (go_simp; go_at_call 32; refine (l1Pick_any c B g n f a len cap zs _ HCD.out (HCO.out _ HG.out) hB hn1 hn2 (HL.out _ HG.out) hgc).mono ?_; rintro e w3 ⟨j, hj, rfl, hcu3, hg4⟩; have hg5 := HP.out w3 hg4; have hts := HX.out j hj; obtain ⟨r1, r2⟩ := ZZ.out _ hts; clear hg4))
      go_wp2_with fail
      go_ret
      exact ⟨_, rfl, by simp only [ByteArray.size_append, ByteArray.size_extract]; omega, hcu3, hg5⟩
    · have e1 : (y == 1) = false := by rw [beq_eq_false_iff_ne]; exact y1
      go_wp2_with fail
      go_ret
      exact ⟨_, rfl, by omega, hcu2, hg3⟩

end Go.Proofs.YtalicfiadbmdeaaDoor

namespace Go.Proofs.YtalicfiadbmdeaaDoor
open Go.RowKit
open Go.Lib hiding intOf

/-- What is known while a code is drawn from. -/
structure CuSt (w : World) (c : Nat) (a : Option Addr) (len cap : Nat) (zs : List Int) (W : World) : Prop where
  b : Below w.heap.size w W
  cu : CurAt W c a len cap
  code : CodeAt W w.heap.size a len zs
theorem CuSt.drawn {w W W' : World} {c : Nat} {a : Option Addr} {len cap : Nat} {zs : List Int} (h : CuSt w c a len cap zs W) (hc : w.heap.size ≤ c) (hg : W.grownBy W' (some c)) (hcu : CurAt W' c a len cap) : CuSt w c a len cap zs W' :=
  ⟨h.b.trans (below_grown hg h.b.size hc), hcu, h.code.grown hg hc⟩
theorem CuSt.below {w W W' : World} {c : Nat} {a : Option Addr} {len cap : Nat} {zs : List Int} (h : CuSt w c a len cap zs W) (b : Below W.heap.size W W') : CuSt w c a len cap zs W' :=
  ⟨h.b.trans (b.mono h.b.size), h.cu.below b h.cu.lt, h.code.below (b.mono h.b.size)⟩
set_option maxHeartbeats 2000000 in
theorem l1Below_big (c B : Nat) (m : Int) (a : Option Addr) (len cap : Nat) (zs : List Int) (w : World) (hcur : CurAt w c a len cap) (hcode : CodeAt w B a len zs) (hB : B ≤ c) (hm : 256 < m) (hm2 : m ≤ 1000000) :
    Calls Tryd.prog 20 #[.pointer (some ⟨c, 0, none⟩), .int .i64 m] w fun e w' => DrawIs m w c a len cap e w' := by
  have hm0 : ¬ m ≤ 0 := by omega
  have hm1 : ¬ m ≤ 256 := by omega
  go_enter Tryd.func20, Tryd.ntmps20
  go_wp2_with fail
  refine (l1Byte_any c B a len cap zs _ hcur hcode hB).mono ?_
  rintro e w1 ⟨x, rfl, hx0, hx1, hcur1, hg1⟩
  have hcode1 := hcode.grown hg1 hB
  go_wp2_with fail
  refine (l1Byte_any c B a len cap zs _ hcur1 hcode1 hB).mono ?_
  rintro e w2 ⟨y, rfl, hy0, hy1, hcur2, hg2⟩
  have hcode2 := hcode1.grown hg2 hB
  go_wp2_with fail
  refine (l1Byte_any c B a len cap zs _ hcur2 hcode2 hB).mono ?_
  rintro e w3 ⟨z, rfl, hz0, hz1, hcur3, hg3⟩
  have hcode3 := hcode2.grown hg3 hB
  go_wp2_with fail
  refine (l1Byte_any c B a len cap zs _ hcur3 hcode3 hB).mono ?_
  rintro e w4 ⟨v, rfl, hv0, hv1, hcur4, hg4⟩
  go_wp2_with fail
  go_ret
  exact ⟨(x * 16777216 + y * 65536 + z * 256 + v) % m, rfl, Int.emod_nonneg _ (by omega), Int.emod_lt_of_pos _ (by omega), hcur4, grown_then (grown_then (grown_then hg1 hg2) hg3) hg4⟩
/-- A text is drawn over a code. -/
def TextL (m : Nat) (w : World) (e : Ending) (w' : World) : Prop := ∃ t : ByteArray, e = .returned (.string t) ∧ t.size ≤ m ∧ Below w.heap.size w w'
/-- A number and a text are drawn over a code. -/
def NumTextL (m : Nat) (w : World) (e : Ending) (w' : World) : Prop := ∃ (x : Int) (t : ByteArray), e = .returned (.tuple #[.int .i64 x, .string t]) ∧ (-1 ≤ x ∧ x ≤ 100001) ∧ t.size ≤ m ∧ Below w.heap.size w w'

set_option maxHeartbeats 2000000 in
theorem drawSum_any (a : Option Addr) (len cap : Nat) (zs : List Int) (w : World) (hcode : CodeAt w w.heap.size a len zs) :
    Calls Tryd.prog 14 #[.slice a len cap] w fun e w' => TextL 1000 w e w' := by
  go_enter Tryd.func14, Tryd.ntmps14
  go_wp2_with fail
  refine (l1New_any w.heap.size a len cap zs _ hcode).mono ?_
  rintro e w1 ⟨rfl, hcu, bw⟩
  obtain ⟨c, hc⟩ : ∃ c, c = w.heap.size := ⟨_, rfl⟩
  have HC : Hid (w.heap.size ≤ c) := Nat.le_of_eq hc.symm
  rw [← hc] at hcu
  rw [← hc]
  have ST : Hid (CuSt w c a len cap zs w1) := ⟨bw, hcu, hcode.below bw⟩
  clear hcu bw hcode hc
  go_wp2_with fail
  refine (l1DrawText_any c w.heap.size a len cap zs _ ST.out.cu ST.out.code HC.out).mono ?_
  rintro e w2 ⟨t, rfl, ht, hcu, hg⟩
  have ST2 : Hid (CuSt w c a len cap zs w2) := ST.out.drawn HC.out hg hcu
  clear hcu hg ST
  go_wp2_with fail
  go_loopw [4, 5] (fun v i wr => ∃ (k : Nat) (s : ByteArray), k ≤ 6 ∧ i = .int .i64 (k : Int) ∧ v = .string s ∧ s.size + 1 ≤ 15 * 2 ^ k ∧ Hid (CuSt w c a len cap zs wr)) (fun _ i _ => 6 - (intOf i).toNat)
  case atStart => exact ⟨0, t, by omega, rfl, rfl, by simp; omega, ST2⟩
  case round =>
    obtain ⟨k, s, hk, rfl, rfl, hz, SW⟩ := hrel
    clear ST2
    have h64 : 2 ^ k ≤ 2 ^ 6 := Nat.pow_le_pow_right (by decide) hk
    have hz2 : s.size ≤ 1000 := by omega
    have HZ : Hid (s.size + 1 ≤ 15 * 2 ^ k) := hz
    clear hz h64
    go_wp2_with fail
    refine (l1Below_any c w.heap.size 6 a len cap zs _ SW.out.cu SW.out.code HC.out (by decide) (by decide)).mono ?_
    rintro e w3 ⟨n, rfl, hn0, hn1, hcu, hg⟩
    have SW3 : Hid (CuSt w c a len cap zs w3) := SW.out.drawn HC.out hg hcu
    clear hcu hg SW
    by_cases hlt : (k : Int) < n
    · go_wp2_with fail
      go_roundw
      case rel => exact ⟨k + 1, _, by omega, by go_num, rfl, by have := HZ.out; rw [ByteArray.size_append, ByteArray.size_append, Nat.pow_succ]; have e : (⟨#[255]⟩ : ByteArray).size = 1 := rfl; omega, SW3⟩
      case measure => simp [intOf]; omega
    · go_wp2_with fail
      go_ret
      exact ⟨s, rfl, hz2, SW3.out.b⟩

def strLen : Value → Nat
  | .string s => s.size
  | _ => 0
set_option maxHeartbeats 2000000 in
theorem drawRecText_any (a : Option Addr) (len cap : Nat) (zs : List Int) (w : World) (hcode : CodeAt w w.heap.size a len zs) :
    Calls Tryd.prog 7 #[.slice a len cap] w fun e w' => NumTextL 3000 w e w' := by
  go_enter Tryd.func7, Tryd.ntmps7
  go_wp2_with fail
  refine (l1New_any w.heap.size a len cap zs _ hcode).mono ?_
  rintro e w1 ⟨rfl, hcu, bw⟩
  obtain ⟨c, hc⟩ : ∃ c, c = w.heap.size := ⟨_, rfl⟩
  have HC : Hid (w.heap.size ≤ c) := Nat.le_of_eq hc.symm
  rw [← hc] at hcu
  rw [← hc]
  have ST : Hid (CuSt w c a len cap zs w1) := ⟨bw, hcu, hcode.below bw⟩
  clear hcu bw hcode hc
  go_wp2_with fail
  refine (l1DrawText_any c w.heap.size a len cap zs _ ST.out.cu ST.out.code HC.out).mono ?_
  rintro e w2 ⟨t, rfl, ht, hcu, hg⟩
  have ST2 : Hid (CuSt w c a len cap zs w2) := ST.out.drawn HC.out hg hcu
  clear hcu hg ST
  go_wp2_with fail
  refine (l1Once_any c w.heap.size 20 a len cap zs _ ST2.out.cu ST2.out.code HC.out (by decide) (by decide)).mono ?_
  rintro e w3 ⟨hb, hcu, hg⟩
  obtain ⟨b, rfl⟩ := hb.out
  have ST3 : Hid (CuSt w c a len cap zs w3) := ST2.out.drawn HC.out hg hcu
  clear hcu hg ST2 hb
  cases b with
  | false =>
    have hb6 : Below w3.heap.size w3 (w3.alloc (.cells #[.int .i64 1, .int .i64 2, .int .i64 77, .int .i64 100000, .int .i64 100001, .int .i64 0, .int .i64 (-1)] 3)) := (Below.refl _ _).alloc (Nat.le_refl _) _
    have ST6 : Hid (CuSt w c a len cap zs (w3.alloc (.cells #[.int .i64 1, .int .i64 2, .int .i64 77, .int .i64 100000, .int .i64 100001, .int .i64 0, .int .i64 (-1)] 3))) := ST3.out.below hb6
    have HN6 : Hid (w3.heap.size ≠ c) := by have := ST3.out.cu.lt; rw [Hid]; omega
    clear hb6
    go_wp2_with fail
    refine (ccPickInt_any c w.heap.size w3.heap.size 7 (fun j => ([1, 2, 77, 100000, 100001, 0, -1] : List Int).getD j 0) a len cap zs _ ST6.out.cu ST6.out.code HC.out (by decide) (by decide) (fun j hj => (cell_of (heap_alloc_new w3 _) j).trans (by match j, hj with | 0, _ => rfl | 1, _ => rfl | 2, _ => rfl | 3, _ => rfl | 4, _ => rfl | 5, _ => rfl | 6, _ => rfl)) HN6.out).mono ?_
    rintro e w9 ⟨jx, hjx, rfl, hcu, hg⟩
    obtain ⟨x, hx⟩ : ∃ x, x = ([1, 2, 77, 100000, 100001, 0, -1] : List Int).getD jx 0 := ⟨_, rfl⟩
    have HX : Hid (-1 ≤ x ∧ x ≤ 100001) := (by rw [Hid, hx]; match jx, hjx with | 0, _ => decide | 1, _ => decide | 2, _ => decide | 3, _ => decide | 4, _ => decide | 5, _ => decide | 6, _ => decide)
    rw [← hx]
    have HB9 : Hid (Below w.heap.size w w9) := (ST6.out.drawn HC.out hg hcu).b
    clear hx hcu hg hjx
    go_wp2_with fail
    exact bodyPost_ret (v := .tuple #[.int .i64 x, .string t]) (by simp [results, Tryd.results7, go_sem]) rfl ⟨x, t, rfl, HX.out, (by omega), HB9.out⟩
  | true =>
    go_wp2_with fail
    go_loopw [5] (fun v wr => ∃ s : ByteArray, v = .string s ∧ s.size ≤ 2010 ∧ Hid (CuSt w c a len cap zs wr)) (fun v _ => 3000 - strLen v)
    case atStart => exact ⟨t, rfl, by omega, ST3⟩
    case round =>
      obtain ⟨s, rfl, hz, SW⟩ := hrel
      clear ST3
      go_wp2_with fail
      refine (l1Below_any c w.heap.size 2 a len cap zs _ SW.out.cu SW.out.code HC.out (by decide) (by decide)).mono ?_
      rintro e w4 ⟨n, rfl, hn0, hn1, hcu, hg⟩
      have SW4 : Hid (CuSt w c a len cap zs w4) := SW.out.drawn HC.out hg hcu
      clear hcu hg SW
      have e10 : (⟨#[48, 49, 50, 51, 52, 53, 54, 55, 56, 57]⟩ : ByteArray).size = 10 := rfl
      by_cases hlt : (s.size : Int) < 2000 + n
      · go_wp2_with fail
        go_roundw
        case rel => exact ⟨_, rfl, by rw [ByteArray.size_append, e10]; omega, SW4⟩
        case measure => simp [strLen]; omega
      · go_upto_region 6 with fail
        have hb6 : Below w4.heap.size w4 (w4.alloc (.cells #[.int .i64 1, .int .i64 2, .int .i64 77, .int .i64 100000, .int .i64 100001, .int .i64 0, .int .i64 (-1)] 3)) := (Below.refl _ _).alloc (Nat.le_refl _) _
        have ST6 : Hid (CuSt w c a len cap zs (w4.alloc (.cells #[.int .i64 1, .int .i64 2, .int .i64 77, .int .i64 100000, .int .i64 100001, .int .i64 0, .int .i64 (-1)] 3))) := SW4.out.below hb6
        have HN6 : Hid (w4.heap.size ≠ c) := by have := SW4.out.cu.lt; rw [Hid]; omega
        clear hb6
        go_wp2_with fail
        refine (ccPickInt_any c w.heap.size w4.heap.size 7 (fun j => ([1, 2, 77, 100000, 100001, 0, -1] : List Int).getD j 0) a len cap zs _ ST6.out.cu ST6.out.code HC.out (by decide) (by decide) (fun j hj => (cell_of (heap_alloc_new w4 _) j).trans (by match j, hj with | 0, _ => rfl | 1, _ => rfl | 2, _ => rfl | 3, _ => rfl | 4, _ => rfl | 5, _ => rfl | 6, _ => rfl)) HN6.out).mono ?_
        rintro e w9 ⟨jx, hjx, rfl, hcu, hg⟩
        obtain ⟨x, hx⟩ : ∃ x, x = ([1, 2, 77, 100000, 100001, 0, -1] : List Int).getD jx 0 := ⟨_, rfl⟩
        have HX : Hid (-1 ≤ x ∧ x ≤ 100001) := (by rw [Hid, hx]; match jx, hjx with | 0, _ => decide | 1, _ => decide | 2, _ => decide | 3, _ => decide | 4, _ => decide | 5, _ => decide | 6, _ => decide)
        rw [← hx]
        have HB9 : Hid (Below w.heap.size w w9) := (ST6.out.drawn HC.out hg hcu).b
        clear hx hcu hg hjx
        go_wp2_with fail
        exact bodyPost_ret (v := .tuple #[.int .i64 x, .string s]) (by simp [results, Tryd.results7, go_sem]) rfl ⟨x, s, rfl, HX.out, (by omega), HB9.out⟩

theorem recI_size (q : Int) (b : ByteArray) : (recI q b).size ≤ 3100 := by
  by_cases h : RecP q b
  · rw [recI_yes h]
    unfold recT
    rw [ByteArray.size_append, ByteArray.size_append]
    have e1 := dec_len _ (sumP_le (recR q.toNat b))
    have e2 := recR_size q.toNat b (by have := h.2.1; omega) h.2.2
    have e3 : (⟨#[32]⟩ : ByteArray).size = 1 := rfl
    omega
  · rw [recI_no h]
    exact Nat.zero_le _
set_option maxHeartbeats 2000000 in
theorem drawRecRead_any (a : Option Addr) (len cap : Nat) (zs : List Int) (w : World) (hcode : CodeAt w w.heap.size a len zs) :
    Calls Tryd.prog 12 #[.slice a len cap] w fun e w' => TextL 20064 w e w' := by
  go_enter Tryd.func12, Tryd.ntmps12
  go_wp2_with fail
  refine (l1New_any w.heap.size a len cap zs _ hcode).mono ?_
  rintro e w1 ⟨rfl, hcu, bw⟩
  obtain ⟨c, hc⟩ : ∃ c, c = w.heap.size := ⟨_, rfl⟩
  have HC : Hid (w.heap.size ≤ c) := Nat.le_of_eq hc.symm
  rw [← hc] at hcu
  rw [← hc]
  have ST : Hid (CuSt w c a len cap zs w1) := ⟨bw, hcu, hcode.below bw⟩
  clear hcu bw hcode hc
  go_wp2_with fail
  refine (l1Below_big c w.heap.size 300 a len cap zs _ ST.out.cu ST.out.code HC.out (by decide) (by decide)).mono ?_
  rintro e w2 ⟨n, rfl, hn0, hn1, hcu, hg⟩
  have ST2 : Hid (CuSt w c a len cap zs w2) := ST.out.drawn HC.out hg hcu
  clear hcu hg ST
  go_wp2_with fail
  refine (l1DrawText_any c w.heap.size a len cap zs _ ST2.out.cu ST2.out.code HC.out).mono ?_
  rintro e w3 ⟨t, rfl, ht, hcu, hg⟩
  have ST3 : Hid (CuSt w c a len cap zs w3) := ST2.out.drawn HC.out hg hcu
  clear hcu hg ST2
  go_wp2_with fail
  refine (specRecText_any _ t _ (by omega)).mono ?_
  rintro e w4 ⟨rfl, bw⟩
  have ST4 : Hid (CuSt w c a len cap zs w4) := ST3.out.below bw
  obtain ⟨r, hr⟩ : ∃ r, r = recI (1 + n) t := ⟨_, rfl⟩
  have hrz : r.size ≤ 3100 := by rw [hr]; exact recI_size _ _
  rw [← hr]
  clear bw ST3 hr
  have hb5 : Below w4.heap.size w4 (w4.alloc (.cells #[.string ⟨#[48]⟩, .string ⟨#[32]⟩, .string ⟨#[10]⟩, .string ⟨#[120]⟩, .string ⟨#[49]⟩] 9)) := (Below.refl _ _).alloc (Nat.le_refl _) _
  have ST5 : Hid (CuSt w c a len cap zs (w4.alloc (.cells #[.string ⟨#[48]⟩, .string ⟨#[32]⟩, .string ⟨#[10]⟩, .string ⟨#[120]⟩, .string ⟨#[49]⟩] 9))) := ST4.out.below hb5
  have HN5 : Hid (w4.heap.size ≠ c) := by have := ST4.out.cu.lt; rw [Hid]; omega
  clear hb5
  go_wp2_with fail
  refine (l3Dent_any c w.heap.size r (textAt ([⟨#[48]⟩, ⟨#[32]⟩, ⟨#[10]⟩, ⟨#[120]⟩, ⟨#[49]⟩] : List ByteArray)) w4.heap.size 5 (by decide) (by decide) (by decide) a len cap zs _ ST5.out.cu ST5.out.code HC.out (by omega) HN5.out (fun j hj => (cell_of (heap_alloc_new w4 _) j).trans (by match j, hj with | 0, _ => rfl | 1, _ => rfl | 2, _ => rfl | 3, _ => rfl | 4, _ => rfl))).mono ?_
  rintro e w6 ⟨u, rfl, hu, hcu, hg⟩
  have HB6 : Hid (Below w.heap.size w w6) := (ST5.out.drawn HC.out hg hcu).b
  clear hcu hg
  go_wp2_with fail
  go_ret
  exact ⟨u, rfl, hu, HB6.out⟩

end Go.Proofs.YtalicfiadbmdeaaDoor
