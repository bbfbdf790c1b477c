/- What the proof of FnExactAnswer leans on: contracts of the program's and the specification's functions, and plain facts (part 1 of 3). -/
import Derived.Test.YtmcmeeibogkpaaaGreatDoorRCards
import Derived.Test.YtmcmeeibogkpaaaGreatDoorRProg
import Derived.Test.YtmcmeeibogkpaaaGreatDoorRRows
import Derived.Test.YtmcmeeibogkpaaaGreatDoorRTie
import Derived.Below
import Derived.BigQuiet
import Derived.ChangeOld
import Derived.Deep.AppendLies
import Derived.Deep.CutRange
import Derived.Deep.DeepCutAuto
import Derived.Deep.DeepHandedRow
import Derived.Deep.DrawnRows
import Derived.Deep.QuietTactic
import Derived.Deep.RegionHeld3
import Derived.Deep.RegionLaw
import Derived.Deep.RegionWith
import Derived.Deep.SlicePairs
import Derived.Laws.AppendOwnNone
import Derived.Laws.BytesArg
import Derived.Laws.EntriesVeiled
import Derived.Laws.MakeOwn
import Derived.Laws.RangeAny
import Derived.Lib.AppendIntMem
import Derived.Lib.BufferOwn
import Derived.Lib.ConvBytes
import Derived.Lib.LaidTab
import Derived.Lib.SliceRun
import Derived.Lib.Strings
import Derived.Lib.Walk
import Derived.LoopIn
import Derived.LoopNIn
import Derived.OpenShut
import Derived.OwnWalkIn
import Derived.ProofKit
import Derived.RangeFuncBound
import Derived.RangeFuncBox
import Derived.RangeFuncCalls
import Derived.RangeFuncLeaves
import Derived.RangeFuncNested
import Derived.Shelf.Abstract
import Derived.Shelf.LaysM
import Derived.Shelf.RegionOpen
import Derived.Shelf.Slices.Turned
import Derived.Shelf.Small.Wraps
import Derived.Shelf.Strconv.Clone
import Derived.Shelf.Strconv.Itoa0
import Derived.Shelf.Strconv.Itoa1
import Derived.Shelf.Strconv.Itoa2
import Derived.Shelf.Strconv.Itoa3
import Derived.Shelf.Strings.Builder1
import Derived.Shelf.Strings.BuilderF
import Derived.Shelf.Strings.BuilderK
import Derived.Shelf.Strings.Prefix
import Derived.ShutString
import Derived.SliceStrings
import Derived.TacticsInMore
import Derived.WalkKit
import Derived.WalkLawsBesides
import Derived.WalkSpells
namespace Go.Proofs.YtmcmeeibogkpaaaGreatDoorR
open Go.RowKit

/-- The kind of a rune, in the order of the tests. -/
def cls (r : Int) : Int :=
  if 65 ≤ r ∧ r ≤ 90 then 0 else if 97 ≤ r ∧ r ≤ 122 then 1 else if 48 ≤ r ∧ r ≤ 57 then 2 else if r = 45 then 3 else if r = 32 then 4 else if r = 44 then 5 else if 32 ≤ r ∧ r ≤ 126 then 6 else 7

def testsV : Value := .agg #[.func (.func 137) #[] #[], .func (.func 138) #[] #[], .func (.func 139) #[] #[], .func (.func 140) #[] #[], .func (.func 141) #[] #[], .func (.func 142) #[] #[], .func (.func 143) #[] #[]]

theorem cls_spec (r : Int) : (cls r = 0 ∧ 65 ≤ r ∧ r ≤ 90) ∨ (cls r = 1 ∧ 97 ≤ r ∧ r ≤ 122) ∨ (cls r = 2 ∧ 48 ≤ r ∧ r ≤ 57) ∨ (cls r = 3 ∧ r = 45) ∨ (cls r = 4 ∧ r = 32) ∨ (cls r = 5 ∧ r = 44) ∨ (cls r = 6 ∧ 32 ≤ r ∧ r ≤ 126 ∧ (r < 65 ∨ 90 < r) ∧ (r < 97 ∨ 122 < r) ∧ (r < 48 ∨ 57 < r) ∧ r ≠ 45 ∧ r ≠ 32 ∧ r ≠ 44) ∨ (cls r = 7 ∧ (r < 32 ∨ 126 < r)) := by
  unfold cls
  repeat' split
  all_goals omega

theorem ret_int {k : IntKind} {a b : Int} (h : a = b) : Ending.returned (.int k a) = .returned (.int k b) := by rw [h]

set_option maxHeartbeats 400000 in
theorem byteTests_any (w : World) :
    Calls Tryz.prog 111 #[] w fun e w' => e = .returned testsV ∧ Below w.heap.size w w' := by
  go_enter Tryz.func111, Tryz.ntmps111
  go_wp2
  exact bodyPost_ret (v := testsV) (by simp [results, Tryz.results111, go_sem, testsV]) rfl ⟨rfl, (Below.refl _ _).alloc (Nat.le_refl _) _⟩

set_option maxHeartbeats 1000000 in
theorem classOf_any (r : Int) (w : World) :
    Calls Tryz.prog 67 #[.int .i32 r] w fun e w' => e = .returned (.int .i64 (cls r)) ∧ Below w.heap.size w w' := by
  have i0 : ∀ w : World, (Instr.index 135 testsV (.int .i64 0)).run Tryz.prog w = .ok (.func (.func 137) #[] #[]) w := fun _ => by kernel_rfl
  have i1 : ∀ w : World, (Instr.index 135 testsV (.int .i64 1)).run Tryz.prog w = .ok (.func (.func 138) #[] #[]) w := fun _ => by kernel_rfl
  have i2 : ∀ w : World, (Instr.index 135 testsV (.int .i64 2)).run Tryz.prog w = .ok (.func (.func 139) #[] #[]) w := fun _ => by kernel_rfl
  have i3 : ∀ w : World, (Instr.index 135 testsV (.int .i64 3)).run Tryz.prog w = .ok (.func (.func 140) #[] #[]) w := fun _ => by kernel_rfl
  have i4 : ∀ w : World, (Instr.index 135 testsV (.int .i64 4)).run Tryz.prog w = .ok (.func (.func 141) #[] #[]) w := fun _ => by kernel_rfl
  have i5 : ∀ w : World, (Instr.index 135 testsV (.int .i64 5)).run Tryz.prog w = .ok (.func (.func 142) #[] #[]) w := fun _ => by kernel_rfl
  have i6 : ∀ w : World, (Instr.index 135 testsV (.int .i64 6)).run Tryz.prog w = .ok (.func (.func 143) #[] #[]) w := fun _ => by kernel_rfl
  go_enter Tryz.func67, Tryz.ntmps67
  go_wp2_with (go_at_call 111; refine (byteTests_any _).mono ?_; rintro e w1 ⟨rfl, hb⟩)
  go_loop [6] (fun i => ∃ k : Nat, k ≤ 7 ∧ (k : Int) ≤ cls r ∧ i = .int .i64 k) (fun i => 7 - (intOf i).toNat)
  case atStart => exact ⟨0, by omega, by have := cls_spec r; omega, rfl⟩
  case round =>
    obtain ⟨k, hk, hc, rfl⟩ := hrel
    have hk5 : k = 0 ∨ k = 1 ∨ k = 2 ∨ k = 3 ∨ k = 4 ∨ k = 5 ∨ k = 6 ∨ k = 7 := by omega
    rcases hk5 with rfl | rfl | rfl | rfl | rfl | rfl | rfl | rfl
    all_goals have HS : Hid _ := cls_spec r
    · go_wp2
      · go_ret
        exact ⟨ret_int (by have := HS.out; omega), hb⟩
      · go_round
        case rel => exact ⟨1, by omega, by have := HS.out; omega, rfl⟩
        case measure => simp [intOf]
      · go_round
        case rel => exact ⟨1, by omega, by have := HS.out; omega, rfl⟩
        case measure => simp [intOf]
    · go_wp2
      · go_ret
        exact ⟨ret_int (by have := HS.out; omega), hb⟩
      · go_round
        case rel => exact ⟨2, by omega, by have := HS.out; omega, rfl⟩
        case measure => simp [intOf]
      · go_round
        case rel => exact ⟨2, by omega, by have := HS.out; omega, rfl⟩
        case measure => simp [intOf]
    · go_wp2
      · go_ret
        exact ⟨ret_int (by have := HS.out; omega), hb⟩
      · go_round
        case rel => exact ⟨3, by omega, by have := HS.out; omega, rfl⟩
        case measure => simp [intOf]
      · go_round
        case rel => exact ⟨3, by omega, by have := HS.out; omega, rfl⟩
        case measure => simp [intOf]
    · by_cases hv : r = 45
      · have ht : (r == 45) = true := beq_iff_eq.2 hv
        have HV : Hid (r = 45) := hv
        clear hv
        go_wp2
        go_ret
        exact ⟨ret_int (by have := HS.out; have := HV.out; omega), hb⟩
      · have ht : (r == 45) = false := beq_eq_false_iff_ne.2 hv
        go_wp2
        go_round
        case rel => exact ⟨4, by omega, by have := HS.out; omega, rfl⟩
        case measure => simp [intOf]
    · by_cases hv : r = 32
      · have ht : (r == 32) = true := beq_iff_eq.2 hv
        have HV : Hid (r = 32) := hv
        clear hv
        go_wp2
        go_ret
        exact ⟨ret_int (by have := HS.out; have := HV.out; omega), hb⟩
      · have ht : (r == 32) = false := beq_eq_false_iff_ne.2 hv
        go_wp2
        go_round
        case rel => exact ⟨5, by omega, by have := HS.out; omega, rfl⟩
        case measure => simp [intOf]
    · by_cases hv : r = 44
      · have ht : (r == 44) = true := beq_iff_eq.2 hv
        have HV : Hid (r = 44) := hv
        clear hv
        go_wp2
        go_ret
        exact ⟨ret_int (by have := HS.out; have := HV.out; omega), hb⟩
      · have ht : (r == 44) = false := beq_eq_false_iff_ne.2 hv
        go_wp2
        go_round
        case rel => exact ⟨6, by omega, by have := HS.out; omega, rfl⟩
        case measure => simp [intOf]
    · go_wp2
      · go_ret
        exact ⟨ret_int (by have := HS.out; omega), hb⟩
      · go_round
        case rel => exact ⟨7, by omega, by have := HS.out; omega, rfl⟩
        case measure => simp [intOf]
      · go_round
        case rel => exact ⟨7, by omega, by have := HS.out; omega, rfl⟩
        case measure => simp [intOf]
    · go_wp2
      go_ret
      exact ⟨ret_int (by have := HS.out; omega), hb⟩
end Go.Proofs.YtmcmeeibogkpaaaGreatDoorR

namespace Go.Proofs.YtmcmeeibogkpaaaGreatDoorR
open Go.RowKit
open Go.Lib hiding intOf

/-- The bytes of a token. -/
def TokB (n : Int) : Prop := (97 ≤ n ∧ n ≤ 122) ∨ (48 ≤ n ∧ n ≤ 57) ∨ n = 45
def ValB (n : Int) : Prop := 32 ≤ n ∧ n ≤ 126
theorem tok_cls (n : Int) : TokB n ↔ cls n = 1 ∨ cls n = 2 ∨ cls n = 3 := by
  have := cls_spec n; unfold TokB; omega
theorem val_cls (n : Int) : ValB n ↔ cls n ≠ 7 := by
  have := cls_spec n; unfold ValB; omega
theorem tok_small {n : Int} (h : TokB n) : n < 128 := by unfold TokB at h; omega
theorem val_small {n : Int} (h : ValB n) : n < 128 := by unfold ValB at h; omega

/-- A call answers a bool that says whether p, and turns nothing that was there. -/
def BoolIs (p : Prop) (w : World) (e : Ending) (w' : World) : Prop := ∃ b : Bool, e = .returned (.bool b) ∧ (b = true ↔ p) ∧ Below w.heap.size w w'
theorem BoolIs.yes {p : Prop} {w w' : World} (hp : p) (hb : Below w.heap.size w w') : BoolIs p w (.returned (.bool true)) w' := ⟨true, rfl, by simpa using hp, hb⟩
theorem BoolIs.no {p : Prop} {w w' : World} (hp : ¬ p) (hb : Below w.heap.size w w') : BoolIs p w (.returned (.bool false)) w' := ⟨false, rfl, by simpa using hp, hb⟩

/-- Every byte of the text is such a one. -/
def AllB (p : Int → Prop) (s : ByteArray) : Prop := ∀ j (h : j < s.size), p ((s[j]'h).toNat : Int)
/-- Every byte ahead of 'pos' is such a one. -/
def AllTo (p : Int → Prop) (s : ByteArray) (pos : Nat) : Prop := ∀ j (h : j < s.size), j < pos → p ((s[j]'h).toNat : Int)
theorem allTo_zero (p : Int → Prop) (s : ByteArray) : AllTo p s 0 := fun _ _ h => absurd h (by omega)
theorem allTo_end {p : Int → Prop} {s : ByteArray} {pos : Nat} (h : AllTo p s pos) (hp : ¬ pos < s.size) : AllB p s := fun j hj => h j hj (by omega)
theorem allTo_succ {p : Int → Prop} {s : ByteArray} {pos : Nat} (h : AllTo p s pos) (hp : pos < s.size) (hv : p ((s[pos]'hp).toNat : Int)) : AllTo p s (pos + 1) := by
  intro j hj hlt
  by_cases e : j = pos
  · subst e; exact hv
  · exact h j hj (by omega)
/-- A rune that is such a one is a byte of its own. -/
theorem rune_ok {p : Int → Prop} (hs : ∀ n, p n → n < 128) (s : ByteArray) (pos : Nat) (hp : pos < s.size) (h : p ((Utf8.decode s pos).1 : Int)) :
    p ((s[pos]'hp).toNat : Int) ∧ (Utf8.decode s pos).2 = 1 := by
  by_cases ha : (s[pos]'hp).toNat < 128
  · rw [decode_ascii s pos hp ha] at h ⊢
    exact ⟨h, rfl⟩
  · have := (decode_high s pos hp (by omega)).1
    have := hs _ h
    omega
theorem rune_no {p : Int → Prop} (hs : ∀ n, p n → n < 128) (s : ByteArray) (pos : Nat) (hp : pos < s.size) (h : ¬ p ((Utf8.decode s pos).1 : Int)) : ¬ AllB p s := by
  intro ha
  have h1 := ha pos hp
  have h2 := hs _ h1
  rw [decode_ascii s pos hp (by omega)] at h
  exact h h1

/-- Behind a call that only makes memory the iterator stands where it was set. -/
theorem iter_step {w wr w1 : World} {s : ByteArray} {pos p1 : Nat} (hh : wr.heap[w.heap.size]? = some (.stringIter s pos)) (hbw : Below w.heap.size w wr)
    (hb1 : Below (wr.iterAt w.heap.size s p1).heap.size (wr.iterAt w.heap.size s p1) w1) : w1.heap[w.heap.size]? = some (.stringIter s p1) ∧ Below w.heap.size w w1 := by
  have hlt : w.heap.size < wr.heap.size := (Array.getElem?_eq_some_iff.1 hh).1
  refine ⟨?_, ?_⟩
  · rw [hb1.block _ (by rw [iterAt_size]; exact hlt)]
    exact iterAt_heap _ _ _ _ _ hh
  · exact (below_iterAt hbw (Nat.le_refl _) s p1).trans (hb1.mono (by rw [iterAt_size]; omega))

set_option maxHeartbeats 400000 in
theorem isTokenRune_any (r : Int) (w : World) :
    Calls Tryz.prog 177 #[.int .i32 r] w fun e w' => BoolIs (TokB r) w e w' := by
  rw [tok_cls]
  go_enter Tryz.func177, Tryz.ntmps177
  go_wp2_with (go_at_call 67; refine (classOf_any _ _).mono ?_; rintro e w1 ⟨rfl, hb⟩)
  all_goals
    go_ret
    exact ⟨_, rfl, by simp_all, hb⟩

set_option maxHeartbeats 400000 in
theorem isValueRune_any (r : Int) (w : World) :
    Calls Tryz.prog 178 #[.int .i32 r] w fun e w' => BoolIs (ValB r) w e w' := by
  rw [val_cls]
  go_enter Tryz.func178, Tryz.ntmps178
  go_wp2_with (go_at_call 67; refine (classOf_any _ _).mono ?_; rintro e w1 ⟨rfl, hb⟩)
  go_ret
  exact ⟨_, rfl, by simp, hb⟩

set_option maxHeartbeats 1000000 in
theorem allRunes_tok (s : ByteArray) (w : World) :
    Calls Tryz.prog 155 #[.string s, .func (.func 177) #[] #[]] w fun e w' => BoolIs (AllB TokB s) w e w' := by
  go_enter Tryz.func155, Tryz.ntmps155
  go_wp2
  go_loopw [6] (fun _ wr => ∃ pos : Nat, wr.heap[w.heap.size]? = some (.stringIter s pos) ∧ Below w.heap.size w wr ∧ Hid (AllTo TokB s pos)) (fun _ wr => s.size - wr.iterPos w.heap.size)
  case atStart => exact ⟨0, World.iter_heap _ _ _, (Below.refl _ _).alloc (Nat.le_refl _) _, allTo_zero _ _⟩
  case round =>
    obtain ⟨pos, hh, hbw, hall⟩ := hrel
    by_cases hp : pos < s.size
    · have hnx := fun ty => run_next_any_at (P := Tryz.prog) wr w.heap.size s pos ty hh hp
      go_wp2_with (go_at_call 177; refine (isTokenRune_any _ _).mono ?_; rintro e w1 ⟨b, rfl, hbt, hb1⟩)
      · have hbf : b = false := by simpa using ‹(!b) = true›
        have hno : ¬ TokB ((Utf8.decode s pos).1 : Int) := fun h => by rw [hbt.2 h] at hbf; cases hbf
        go_ret
        exact BoolIs.no (rune_no (fun _ => tok_small) s pos hp hno) (iter_step hh hbw hb1).2
      · have hbf : b = true := by simpa using ‹(!b) = false›
        obtain ⟨hv, hone⟩ := rune_ok (fun _ => tok_small) s pos hp (hbt.1 hbf)
        rw [hone] at hb1
        obtain ⟨h1, h2⟩ := iter_step hh hbw hb1
        exact ⟨⟨pos + 1, h1, h2, allTo_succ hall.out hp hv⟩, by rw [iterPos_of h1, iterPos_of hh]; omega⟩
    · have hnx := fun ty => run_next_end_at (P := Tryz.prog) wr w.heap.size s pos ty hh hp
      go_wp2
      go_ret
      exact BoolIs.yes (allTo_end hall.out hp) hbw

set_option maxHeartbeats 1000000 in
theorem allRunes_val (s : ByteArray) (w : World) :
    Calls Tryz.prog 155 #[.string s, .func (.func 178) #[] #[]] w fun e w' => BoolIs (AllB ValB s) w e w' := by
  go_enter Tryz.func155, Tryz.ntmps155
  go_wp2
  go_loopw [6] (fun _ wr => ∃ pos : Nat, wr.heap[w.heap.size]? = some (.stringIter s pos) ∧ Below w.heap.size w wr ∧ Hid (AllTo ValB s pos)) (fun _ wr => s.size - wr.iterPos w.heap.size)
  case atStart => exact ⟨0, World.iter_heap _ _ _, (Below.refl _ _).alloc (Nat.le_refl _) _, allTo_zero _ _⟩
  case round =>
    obtain ⟨pos, hh, hbw, hall⟩ := hrel
    by_cases hp : pos < s.size
    · have hnx := fun ty => run_next_any_at (P := Tryz.prog) wr w.heap.size s pos ty hh hp
      go_wp2_with (go_at_call 178; refine (isValueRune_any _ _).mono ?_; rintro e w1 ⟨b, rfl, hbt, hb1⟩)
      · have hbf : b = false := by simpa using ‹(!b) = true›
        have hno : ¬ ValB ((Utf8.decode s pos).1 : Int) := fun h => by rw [hbt.2 h] at hbf; cases hbf
        go_ret
        exact BoolIs.no (rune_no (fun _ => val_small) s pos hp hno) (iter_step hh hbw hb1).2
      · have hbf : b = true := by simpa using ‹(!b) = false›
        obtain ⟨hv, hone⟩ := rune_ok (fun _ => val_small) s pos hp (hbt.1 hbf)
        rw [hone] at hb1
        obtain ⟨h1, h2⟩ := iter_step hh hbw hb1
        exact ⟨⟨pos + 1, h1, h2, allTo_succ hall.out hp hv⟩, by rw [iterPos_of h1, iterPos_of hh]; omega⟩
    · have hnx := fun ty => run_next_end_at (P := Tryz.prog) wr w.heap.size s pos ty hh hp
      go_wp2
      go_ret
      exact BoolIs.yes (allTo_end hall.out hp) hbw

/-- What the chapter asks of a token. -/
def TokOk (s : ByteArray) : Prop := 1 ≤ s.size ∧ s.size ≤ 20 ∧ AllB TokB s

set_option maxHeartbeats 400000 in
theorem implTokenOk_any (s : ByteArray) (w : World) (hs : s.size ≤ maxLen) :
    Calls Tryz.prog 167 #[.string s] w fun e w' => BoolIs (TokOk s) w e w' := by
  unfold maxLen at hs
  by_cases h1 : (1 : Int) ≤ (s.size : Int)
  · by_cases h2 : (s.size : Int) ≤ 20
    · go_enter Tryz.func167, Tryz.ntmps167
      go_wp2_with (go_at_call 155; refine (allRunes_tok _ _).mono ?_; rintro e w1 ⟨b, rfl, hbt, hb1⟩)
      go_ret
      exact ⟨b, rfl, by unfold TokOk; rw [hbt]; exact ⟨fun h => ⟨by omega, by omega, h⟩, fun h => h.2.2⟩, hb1⟩
    · go_enter Tryz.func167, Tryz.ntmps167
      go_wp2_with fail
      go_ret
      exact BoolIs.no (by unfold TokOk; omega) (Below.refl _ _)
  · go_enter Tryz.func167, Tryz.ntmps167
    go_wp2_with fail
    go_ret
    exact BoolIs.no (by unfold TokOk; omega) (Below.refl _ _)

set_option maxHeartbeats 1000000 in
theorem specTokenOk_any (s : ByteArray) (w : World) (hs : s.size ≤ maxLen) :
    Calls Tryz.prog 106 #[.string s] w fun e w' => BoolIs (TokOk s) w e w' := by
  unfold maxLen at hs
  go_enter Tryz.func106, Tryz.ntmps106
  go_wp2
  go_loop [3] (fun i => ∃ k : Nat, k ≤ s.size ∧ i = .int .i64 k ∧ Hid (AllTo TokB s k)) (fun i => s.size - (intOf i).toNat)
  case atStart => exact ⟨0, Nat.zero_le _, rfl, allTo_zero _ _⟩
  case round =>
    obtain ⟨k, hk, rfl, hall⟩ := hrel
    by_cases hlt : k < s.size
    · go_wp2
      all_goals first
        | (go_ret
           have hno : ¬ TokB ((s[k]'hlt).toNat : Int) := by
             unfold TokB
             try simp only [bne_iff_ne, ne_eq] at *
             omega
           exact BoolIs.no (fun h => hno (h.2.2 k hlt)) (Below.refl _ _))
        | (go_round
           case rel =>
             have hy : TokB ((s[k]'hlt).toNat : Int) := by
               unfold TokB
               try simp only [bne_eq_false_iff_eq] at *
               omega
             exact ⟨k + 1, by omega, by go_num, allTo_succ hall.out hlt hy⟩
           case measure => simp [intOf]; omega)
    · have hend : Hid (AllB TokB s) := allTo_end hall.out hlt
      by_cases h1 : (1 : Int) ≤ (s.size : Int)
      · by_cases h2 : (s.size : Int) ≤ 20
        · go_wp2
          go_ret
          exact BoolIs.yes ⟨by omega, by omega, hend.out⟩ (Below.refl _ _)
        · go_wp2
          go_ret
          exact BoolIs.no (by unfold TokOk; omega) (Below.refl _ _)
      · go_wp2
        go_ret
        exact BoolIs.no (by unfold TokOk; omega) (Below.refl _ _)

end Go.Proofs.YtmcmeeibogkpaaaGreatDoorR

namespace Go.Proofs
open Go.Shelf
def Tryz.laysM171_ren : Go.Shelf.Ren := ⟨fun | 171 => 90 | 243 => 127 | 246 => 148 | 283 => 158 | 284 => 159 | 285 => 160 | 286 => 161 | 129 => 170 | 317 => 169 | 318 => 171 | 319 => 172 | 320 => 173 | 337 => 179 | 338 => 180 | n => n, fun | 3 => 3 | 9 => 9 | 2 => 2 | 4 => 4 | 171 => 164 | 0 => 0 | 53 => 165 | 37 => 22 | 5 => 5 | 173 => 168 | 212 => 174 | 51 => 175 | 20 => 20 | 213 => 176 | 46 => 137 | 232 => 182 | 233 => 183 | n => n, fun | 17 => 0 | 18 => 1 | 19 => 2 | n => n⟩
theorem Tryz.laysM171 : Go.Proofs.LaysM.n171 Tryz.prog Tryz.laysM171_ren := {
  mixed := by kernel_rfl
  f129 := Tryz.func170.trans (congrArg some (by kernel_rfl))
  f171 := Tryz.func90.trans (congrArg some (by kernel_rfl))
  f243 := Tryz.func127.trans (congrArg some (by kernel_rfl))
  f246 := Tryz.func148.trans (congrArg some (by kernel_rfl))
  f283 := Tryz.func158.trans (congrArg some (by kernel_rfl))
  f284 := Tryz.func159.trans (congrArg some (by kernel_rfl))
  f285 := Tryz.func160.trans (congrArg some (by kernel_rfl))
  f286 := Tryz.func161.trans (congrArg some (by kernel_rfl))
  f317 := Tryz.func169.trans (congrArg some (by kernel_rfl))
  f318 := Tryz.func171.trans (congrArg some (by kernel_rfl))
  f319 := Tryz.func172.trans (congrArg some (by kernel_rfl))
  f320 := Tryz.func173.trans (congrArg some (by kernel_rfl))
  f337 := Tryz.func179.trans (congrArg some (by kernel_rfl))
  f338 := Tryz.func180.trans (congrArg some (by kernel_rfl))
  t0 := Tryz.underlying0
  a0 := Tryz.isAgg0
  z0 := Tryz.sizeOf0
  v0 := Tryz.zeroValue0
  t2 := Tryz.underlying2
  a2 := Tryz.isAgg2
  z2 := Tryz.sizeOf2
  v2 := Tryz.zeroValue2
  t3 := Tryz.underlying3
  a3 := Tryz.isAgg3
  z3 := Tryz.sizeOf3
  v3 := Tryz.zeroValue3
  t4 := Tryz.underlying4
  a4 := Tryz.isAgg4
  z4 := Tryz.sizeOf4
  v4 := Tryz.zeroValue4
  t5 := Tryz.underlying5
  a5 := Tryz.isAgg5
  z5 := Tryz.sizeOf5
  v5 := Tryz.zeroValue5
  t9 := Tryz.underlying9
  a9 := Tryz.isAgg9
  z9 := Tryz.sizeOf9
  v9 := Tryz.zeroValue9
  t20 := Tryz.underlying20
  a20 := Tryz.isAgg20
  z20 := Tryz.sizeOf20
  v20 := Tryz.zeroValue20
  t37 := Tryz.underlying22
  a37 := Tryz.isAgg22
  z37 := Tryz.sizeOf22
  v37 := Tryz.zeroValue22
  t46 := Tryz.underlying137
  a46 := Tryz.isAgg137
  z46 := Tryz.sizeOf137
  v46 := Tryz.zeroValue137
  t51 := Tryz.underlying175
  a51 := Tryz.isAgg175
  z51 := Tryz.sizeOf175
  v51 := Tryz.zeroValue175
  t53 := Tryz.underlying165
  a53 := Tryz.isAgg165
  z53 := Tryz.sizeOf165
  v53 := Tryz.zeroValue165
  t171 := Tryz.underlying164
  a171 := Tryz.isAgg164
  z171 := Tryz.sizeOf164
  v171 := Tryz.zeroValue164
  t173 := Tryz.underlying168
  a173 := Tryz.isAgg168
  z173 := Tryz.sizeOf168
  v173 := Tryz.zeroValue168
  t212 := Tryz.underlying174
  a212 := Tryz.isAgg174
  z212 := Tryz.sizeOf174
  v212 := Tryz.zeroValue174
  t213 := Tryz.underlying176
  a213 := Tryz.isAgg176
  z213 := Tryz.sizeOf176
  t232 := Tryz.underlying182
  a232 := Tryz.isAgg182
  z232 := Tryz.sizeOf182
  v232 := Tryz.zeroValue182
  t233 := Tryz.underlying183
  a233 := Tryz.isAgg183
  z233 := Tryz.sizeOf183
  v233 := Tryz.zeroValue183
  g17 := by kernel_rfl
  g18 := by kernel_rfl
  g19 := by kernel_rfl
  i0 := by kernel_rfl
  i2 := by kernel_rfl
  i3 := by kernel_rfl
  i4 := by kernel_rfl
  i5 := by kernel_rfl
  i9 := by kernel_rfl
  i20 := by kernel_rfl
  i37 := by kernel_rfl
  i46 := by kernel_rfl
  i51 := by kernel_rfl
  i53 := by kernel_rfl
  i171 := by kernel_rfl
  i173 := by kernel_rfl
  i212 := by kernel_rfl
  i232 := by kernel_rfl
  i233 := by kernel_rfl
  m17 := by kernel_rfl
  m18 := by kernel_rfl
  m19 := by kernel_rfl }
open Go.RowKit Go.Sort Go.Lib in
theorem Tryz.strconv_Itoa (n : Int) (h0 : -9223372036854775808 ≤ n) (h1 : n ≤ 9223372036854775807) (w : World) (htab : Lib.TabIs Tryz.prog w "internal/strconv.uint64pow10" .u64 Lib.pow10Tab) :
    Calls Tryz.prog 90 #[.int .i64 n] w fun e w' => e = .returned (.string ⟨(Lib.itoa n).toArray⟩) ∧ ∃ k os, w' = grow (w.drewN k) os := Any.strconv_Itoa Tryz.laysM171 n h0 h1 w htab
def Tryz.laysM316_ren : Go.Shelf.Ren := ⟨fun | 316 => 110 | n => n, fun | 9 => 9 | 3 => 3 | 4 => 4 | 37 => 22 | 0 => 0 | 127 => 149 | 5 => 5 | n => n, fun | n => n⟩
theorem Tryz.laysM316 : Go.Proofs.LaysM.n316 Tryz.prog Tryz.laysM316_ren := {
  mixed := by kernel_rfl
  f316 := Tryz.func110.trans (congrArg some (by kernel_rfl))
  t0 := Tryz.underlying0
  a0 := Tryz.isAgg0
  z0 := Tryz.sizeOf0
  v0 := Tryz.zeroValue0
  t3 := Tryz.underlying3
  a3 := Tryz.isAgg3
  z3 := Tryz.sizeOf3
  v3 := Tryz.zeroValue3
  t4 := Tryz.underlying4
  a4 := Tryz.isAgg4
  z4 := Tryz.sizeOf4
  v4 := Tryz.zeroValue4
  t9 := Tryz.underlying9
  a9 := Tryz.isAgg9
  z9 := Tryz.sizeOf9
  v9 := Tryz.zeroValue9
  t37 := Tryz.underlying22
  a37 := Tryz.isAgg22
  z37 := Tryz.sizeOf22
  v37 := Tryz.zeroValue22
  t127 := Tryz.underlying149
  a127 := Tryz.isAgg149
  z127 := Tryz.sizeOf149
  v127 := Tryz.zeroValue149
  t5 := Tryz.underlying5
  a5 := Tryz.isAgg5
  z5 := Tryz.sizeOf5
  v5 := Tryz.zeroValue5
  i0 := by kernel_rfl
  i3 := by kernel_rfl
  i4 := by kernel_rfl
  i5 := by kernel_rfl
  i9 := by kernel_rfl
  i37 := by kernel_rfl
  i127 := by kernel_rfl }
open Go.RowKit in
theorem Tryz.stringslite_Clone (s : ByteArray) (w : World) (hlim : s.size ≤ 281474976710656) :
    Calls Tryz.prog 110 #[.string s] w fun e w' => e = .returned (.string s) ∧ Below w.heap.size w w' := Any.stringslite_Clone Tryz.laysM316 s w hlim
def Tryz.lays110_ren : Go.Shelf.Ren := ⟨fun | 110 => 125 | 109 => 147 | n => n, fun | 31 => 27 | 9 => 9 | 4 => 4 | 3 => 3 | 0 => 0 | n => n, fun | n => n⟩
theorem Tryz.lays110 : Go.Proofs.Lays.n110 Tryz.prog Tryz.lays110_ren := {
  mixed := by kernel_rfl
  f109 := Tryz.func147.trans (congrArg some (by kernel_rfl))
  f110 := Tryz.func125.trans (congrArg some (by kernel_rfl))
  t0 := Tryz.underlying0
  a0 := Tryz.isAgg0
  z0 := Tryz.sizeOf0
  v0 := Tryz.zeroValue0
  t3 := Tryz.underlying3
  a3 := Tryz.isAgg3
  z3 := Tryz.sizeOf3
  v3 := Tryz.zeroValue3
  t4 := Tryz.underlying4
  a4 := Tryz.isAgg4
  z4 := Tryz.sizeOf4
  v4 := Tryz.zeroValue4
  t9 := Tryz.underlying9
  a9 := Tryz.isAgg9
  z9 := Tryz.sizeOf9
  v9 := Tryz.zeroValue9
  t31 := Tryz.underlying27
  a31 := Tryz.isAgg27
  z31 := Tryz.sizeOf27
  v31 := Tryz.zeroValue27 }
open Go.Lib in
theorem Tryz.slices_Contains_string (b off n c : Nat) (zs : List ByteArray) (x : ByteArray) (w : World) (hz : n ≤ zs.length) (hbig : n ≤ 9223372036854775807) (hc : ∀ j, j < zs.length → w.cell? ⟨b, off + j, none⟩ = some (.string (zs.getD j ByteArray.empty))) :
    Calls Tryz.prog 125 #[.slice (some ⟨b, off, none⟩) n c, .string x] w fun e w' => e = .returned (.bool (Lib.containsS (zs.take n) x)) ∧ w' = w := Any.slices_Contains_string Tryz.lays110 b off n c zs x w hz hbig hc
open Go.Lib in
theorem Tryz.slices_Contains_string_empty (a : Option Addr) (c : Nat) (x : ByteArray) (w : World) :
    Calls Tryz.prog 125 #[.slice a 0 c, .string x] w fun e w' => e = .returned (.bool false) ∧ w' = w := Any.slices_Contains_string_empty Tryz.lays110 a c x w
end Go.Proofs

namespace Go.Proofs.YtmcmeeibogkpaaaGreatDoorR
open Go.RowKit

set_option maxHeartbeats 400000 in
theorem clone_any (s : ByteArray) (w : World) (hlim : s.size ≤ 281474976710656) :
    Calls Tryz.prog 66 #[.string s] w fun e w' => e = .returned (.string s) ∧ Below w.heap.size w w' := by
  go_enter Tryz.func66, Tryz.ntmps66
  go_wp2_with (go_at_call 110; refine (Tryz.stringslite_Clone _ _ hlim).mono ?_; rintro e w1 ⟨rfl, hb1⟩)
  go_ret
  exact ⟨rfl, hb1⟩

end Go.Proofs.YtmcmeeibogkpaaaGreatDoorR

namespace Go.Proofs.YtmcmeeibogkpaaaGreatDoorR

/-- The list without the blanks that it begins with. -/
def dropB : List UInt8 → List UInt8
  | [] => []
  | b :: r => if b.toNat = 32 then dropB r else b :: r
/-- .. and without those that it ends with. -/
def trimL (l : List UInt8) : List UInt8 := (dropB (dropB l).reverse).reverse
def trimOf (s : ByteArray) : ByteArray := ⟨(trimL s.data.toList).toArray⟩

theorem dropB_blanks : ∀ (x y : List UInt8), (∀ b ∈ x, b.toNat = 32) → dropB (x ++ y) = dropB y
  | [], _, _ => rfl
  | b :: r, y, h => by
    rw [List.cons_append, dropB, if_pos (h b (by simp))]
    exact dropB_blanks r y (fun c hc => h c (by simp [hc]))
theorem dropB_first (b : UInt8) (r : List UInt8) (h : b.toNat ≠ 32) : dropB (b :: r) = b :: r := by rw [dropB, if_neg h]

/-- From a on, up to b: what is left of s without its outer blanks. -/
structure IsTrim (s : ByteArray) (a b : Nat) : Prop where
  le : a ≤ b
  size : b ≤ s.size
  lead : ∀ j (h : j < s.size), j < a → (s[j]'h).toNat = 32
  tail : ∀ j (h : j < s.size), b ≤ j → (s[j]'h).toNat = 32
  first : ∀ h : a < s.size, a < b → (s[a]'h).toNat ≠ 32
  last : ∀ h : b - 1 < s.size, a < b → (s[b - 1]'h).toNat ≠ 32

theorem list_cut (l : List UInt8) (a b : Nat) (h : a ≤ b) : l = l.take a ++ ((l.take b).drop a ++ l.drop b) := by
  have h1 : (l.take b).take a = l.take a := by rw [List.take_take, Nat.min_eq_left h]
  have h2 : l.take b = l.take a ++ (l.take b).drop a := by
    have := (List.take_append_drop a (l.take b)).symm
    rw [h1] at this
    exact this
  have h3 := (List.take_append_drop b l).symm
  rw [h2, List.append_assoc] at h3
  exact h3

theorem trimL_mid (x y z : List UInt8) (hx : ∀ b ∈ x, b.toNat = 32) (hz : ∀ b ∈ z, b.toNat = 32) (h0 : ∀ b, y.head? = some b → b.toNat ≠ 32) (h1 : ∀ b, y.getLast? = some b → b.toNat ≠ 32) : trimL (x ++ (y ++ z)) = y := by
  unfold trimL
  rw [dropB_blanks x _ hx]
  cases y with
  | nil =>
    have : dropB ([] ++ z) = [] := by
      have := dropB_blanks z [] hz
      simpa [dropB] using this
    rw [this]; rfl
  | cons b r =>
    rw [List.cons_append, dropB_first b _ (h0 b rfl), ← List.cons_append, List.reverse_append, dropB_blanks _ _ (fun c hc => hz c (by simpa using hc))]
    cases hl : (b :: r).reverse with
    | nil => simp at hl
    | cons c q =>
      have hc : (b :: r).getLast? = some c := by rw [List.getLast?_eq_head?_reverse, hl]; rfl
      rw [dropB_first c q (h1 c hc), ← hl, List.reverse_reverse]

theorem byte_get (s : ByteArray) (j : Nat) (h : j < s.size) : s.data.toList[j]? = some (s[j]'h) := by
  rw [List.getElem?_eq_getElem (by simpa using h)]
  rfl

theorem trim_eq {s : ByteArray} {a b : Nat} (h : IsTrim s a b) : s.extract a b = trimOf s := by
  have hlen : s.data.toList.length = s.size := by simp
  have hext : (s.extract a b).data.toList = (s.data.toList.take b).drop a := by
    rw [ByteArray.data_extract, Array.toList_extract]
    simp [List.extract, List.drop_take]
  have hcut := list_cut s.data.toList a b h.le
  have hm := trimL_mid (s.data.toList.take a) ((s.data.toList.take b).drop a) (s.data.toList.drop b)
    (fun x hx => by
      obtain ⟨j, hj, rfl⟩ := List.getElem_of_mem hx
      have hj' : j < a ∧ j < s.size := by rw [List.length_take, hlen] at hj; omega
      have := h.lead j hj'.2 hj'.1
      rw [List.getElem_take]; exact this)
    (fun x hx => by
      obtain ⟨j, hj, rfl⟩ := List.getElem_of_mem hx
      have hj' : b + j < s.size := by rw [List.length_drop, hlen] at hj; omega
      have := h.tail (b + j) hj' (by omega)
      rw [List.getElem_drop]; exact this)
    (fun x hx => by
      rw [List.head?_eq_getElem?, List.getElem?_drop, List.getElem?_take] at hx
      split at hx
      · rename_i hlt
        have ha : a < s.size := by have := h.size; omega
        rw [Nat.add_zero, byte_get s a ha] at hx
        cases hx
        exact h.first ha (by omega)
      · cases hx)
    (fun x hx => by
      rw [List.getLast?_eq_getElem?, List.getElem?_drop, List.getElem?_take, List.length_drop, List.length_take, hlen] at hx
      have hsz := h.size; have hle := h.le
      rw [Nat.min_eq_left hsz] at hx
      split at hx
      · rename_i hlt
        have e : a + (b - a - 1) = b - 1 := by omega
        have hb : b - 1 < s.size := by omega
        rw [e, byte_get s (b - 1) hb] at hx
        cases hx
        exact h.last hb (by omega)
      · cases hx)
  rw [← hcut] at hm
  apply ByteArray.ext
  unfold trimOf
  rw [hm, ← hext]

/-- A text that begins and ends with no blank is trimmed already. -/
theorem trimOf_self {s : ByteArray} (h0 : ∀ h : 0 < s.size, (s[0]'h).toNat ≠ 32) (h1 : ∀ h : s.size - 1 < s.size, (s[s.size - 1]'h).toNat ≠ 32) : trimOf s = s := by
  rw [← trim_eq (s := s) (a := 0) (b := s.size) ⟨Nat.zero_le _, Nat.le_refl _, fun _ _ h => absurd h (by omega), fun _ h h' => absurd h (by omega), fun h _ => h0 h, fun h _ => h1 h⟩]
  apply ByteArray.ext
  simp

end Go.Proofs.YtmcmeeibogkpaaaGreatDoorR

namespace Go.Proofs.YtmcmeeibogkpaaaGreatDoorR
open Go.RowKit
open Go.Lib hiding intOf

/-- A call answers this text, and turns nothing that was there. -/
def TextIs (t : ByteArray) (w : World) (e : Ending) (w' : World) : Prop := e = .returned (.string t) ∧ Below w.heap.size w w'
theorem TextIs.of {t u : ByteArray} {w w' : World} (h : u = t) (hb : Below w.heap.size w w') : TextIs t w (.returned (.string u)) w' := ⟨by rw [h], hb⟩

set_option maxHeartbeats 1000000 in
theorem specTrim_any (s : ByteArray) (w : World) (hs : s.size ≤ maxLen) :
    Calls Tryz.prog 109 #[.string s] w fun e w' => TextIs (trimOf s) w e w' := by
  unfold maxLen at hs
  go_enter Tryz.func109, Tryz.ntmps109
  go_wp2
  go_loop [3] (fun i => ∃ k : Nat, k ≤ s.size ∧ i = .int .i64 k ∧ Hid (∀ j (h : j < s.size), j < k → (s[j]'h).toNat = 32)) (fun i => s.size - (intOf i).toNat)
  case atStart => exact ⟨0, Nat.zero_le _, rfl, fun _ _ h => absurd h (by omega)⟩
  case round =>
    obtain ⟨k, hk, rfl, hlead⟩ := hrel
    by_cases hlt : k < s.size
    · by_cases hb : (s[k]'hlt).toNat = 32
      · have ht2 : (((s[k]'hlt).toNat : Int) == 32) = true := by simp [hb]
        have HB : Hid ((s[k]'hlt).toNat = 32) := hb
        clear hb
        go_wp2
        go_round
        case rel =>
          refine ⟨k + 1, by omega, by go_num, ?_⟩
          intro j h hj
          by_cases e : j = k
          · subst e; exact HB.out
          · exact hlead.out j h (by omega)
        case measure => simp [intOf]; omega
      · have ht2 : (((s[k]'hlt).toNat : Int) == 32) = false := by
          rw [beq_eq_false_iff_ne]; omega
        have hfst : Hid ((s[k]'hlt).toNat ≠ 32) := hb
        clear hb
        go_wp2
        go_loop [4] (fun t => ∃ m : Nat, k ≤ m ∧ m < s.size ∧ t = .int .i64 ((m : Int) + 1) ∧ Hid (∀ j (h : j < s.size), m + 1 ≤ j → (s[j]'h).toNat = 32)) (fun t => (intOf t).toNat)
        case atStart => exact ⟨s.size - 1, by omega, by omega, by go_num, fun j h hj => absurd h (by omega)⟩
        case round =>
          obtain ⟨m, hkm, hms, rfl, htl⟩ := hrel
          have hc1 : (k : Int) < (m : Int) + 1 := by omega
          by_cases hb : (s[m]'hms).toNat = 32
          · have ht2 : (((s[m]'hms).toNat : Int) == 32) = true := by simp [hb]
            have hkm2 : k < m := by
              rcases Nat.lt_or_ge k m with h | h
              · exact h
              · exfalso
                have e : m = k := by omega
                subst e
                exact hfst.out hb
            have HB : Hid ((s[m]'hms).toNat = 32) := hb
            clear hb
            go_wp2
            go_round
            case rel =>
              refine ⟨m - 1, by omega, by omega, by go_num, ?_⟩
              intro j h hj
              by_cases e : j = m
              · subst e; exact HB.out
              · exact htl.out j h (by omega)
            case measure => simp [intOf]
          · have ht2 : (((s[m]'hms).toNat : Int) == 32) = false := by
              rw [beq_eq_false_iff_ne]; omega
            have hT : Hid (s.extract k (m + 1) = trimOf s) := trim_eq ⟨by omega, by omega, fun j h hj => hlead.out j h hj, fun j h hj => htl.out j h (by omega), fun _ _ => hfst.out, fun _ _ => hb⟩
            clear hb
            go_wp2
            go_ret
            exact TextIs.of hT.out (Below.refl _ _)
    · have hT : Hid (ByteArray.empty = trimOf s) := (show ByteArray.empty = s.extract s.size s.size by simp).trans (trim_eq ⟨Nat.le_refl _, Nat.le_refl _, fun j h _ => hlead.out j h (by omega), fun j h hj => absurd h (by omega), fun h => absurd h (by omega), fun _ h => absurd h (by omega)⟩)
      obtain rfl : k = s.size := by omega
      go_wp2
      go_loop [4] (fun t => t = .int .i64 (s.size : Int)) (fun t => (intOf t).toNat)
      case atStart => exact rfl
      case round =>
        subst hrel
        go_wp2
        go_ret
        exact TextIs.of hT.out (Below.refl _ _)

end Go.Proofs.YtmcmeeibogkpaaaGreatDoorR

namespace Go.Proofs.YtmcmeeibogkpaaaGreatDoorR
open Go.RowKit
open Go.Lib hiding intOf

/-- What the chapter asks of a value. -/
def ValOk (s : ByteArray) : Prop := 1 ≤ s.size ∧ s.size ≤ 60 ∧ AllB ValB s ∧ trimOf s = s
/-- A text of at least one byte is trimmed already just where its first and its last byte are no blanks. -/
theorem trim_self_iff (s : ByteArray) (h1 : 1 ≤ s.size) : trimOf s = s ↔ ((s[0]'(by omega)).toNat ≠ 32 ∧ (s[s.size - 1]'(by omega)).toNat ≠ 32) := by
  constructor
  · intro h
    have hl : trimL s.data.toList = s.data.toList := by
      have := congrArg (fun x : ByteArray => x.data.toList) h
      simpa [trimOf] using this
    have hlen : s.data.toList.length = s.size := by simp
    have key : ∀ l : List UInt8, (dropB l).length ≤ l.length ∧ ((dropB l).length = l.length → ∀ b, l.head? = some b → b.toNat ≠ 32) := by
      intro l
      induction l with
      | nil => simp [dropB]
      | cons b r ih =>
        rw [dropB]
        split
        · refine ⟨by simp; omega, fun h => ?_⟩
          simp at h; omega
        · rename_i hb
          refine ⟨by simp, fun _ c hc => ?_⟩
          simp at hc; subst hc; exact hb
    have k1 := key s.data.toList
    have k2 := key (dropB s.data.toList).reverse
    have hL : (dropB (dropB s.data.toList).reverse).length = s.data.toList.length := by
      have := congrArg List.length hl
      simpa [trimL] using this
    rw [List.length_reverse] at k2
    have e1 : (dropB s.data.toList).length = s.data.toList.length := by omega
    have e2 : (dropB (dropB s.data.toList).reverse).length = (dropB s.data.toList).length := by omega
    have hd : dropB s.data.toList = s.data.toList := by
      cases hc : s.data.toList with
      | nil => rfl
      | cons b r =>
        have := k1.2 e1 b (by rw [hc]; rfl)
        exact dropB_first b r this
    refine ⟨?_, ?_⟩
    · apply k1.2 e1
      rw [List.head?_eq_getElem?, byte_get s 0 (by omega)]
    · apply k2.2 e2
      rw [hd, ← List.getLast?_eq_head?_reverse, List.getLast?_eq_getElem?, hlen, byte_get s (s.size - 1) (by omega)]
  · rintro ⟨h0, h2⟩
    exact trimOf_self (fun _ => h0) (fun _ => h2)

theorem text_beq (a b : ByteArray) : (a.toList == b.toList) = true ↔ a = b := by
  rw [beq_iff_eq, ByteArray.toList_eq, ByteArray.toList_eq]
  exact ⟨fun h => ByteArray.ext (Array.toList_inj.1 h), fun h => by rw [h]⟩

set_option maxHeartbeats 1000000 in
theorem implValueOk_any (s : ByteArray) (w : World) (hs : s.size ≤ maxLen) :
    Calls Tryz.prog 168 #[.string s] w fun e w' => BoolIs (ValOk s) w e w' := by
  unfold maxLen at hs
  by_cases h1 : (s.size : Int) < 1
  · go_enter Tryz.func168, Tryz.ntmps168
    go_wp2_with fail
    go_ret
    exact BoolIs.no (by unfold ValOk; omega) (Below.refl _ _)
  · by_cases h2 : (60 : Int) < (s.size : Int)
    · go_enter Tryz.func168, Tryz.ntmps168
      go_wp2_with fail
      go_ret
      exact BoolIs.no (by unfold ValOk; omega) (Below.refl _ _)
    · have hti : Hid _ := trim_self_iff s (by omega)
      have hp0 : 0 < s.size := by omega
      by_cases hb : (s[0]'hp0).toNat = 32
      · have ht : (((s[0]'hp0).toNat : Int) == 32) = true := by simp [hb]
        have HB : Hid ((s[0]'hp0).toNat = 32) := hb
        clear hb
        go_enter Tryz.func168, Tryz.ntmps168
        go_wp2_with fail
        go_ret
        exact BoolIs.no (fun h => (hti.out.1 h.2.2.2).1 HB.out) (Below.refl _ _)
      · have ht : (((s[0]'hp0).toNat : Int) == 32) = false := by
          rw [beq_eq_false_iff_ne]; omega
        obtain ⟨m, hm⟩ : ∃ m, s.size = m + 1 := ⟨s.size - 1, by omega⟩
        have hms : m < s.size := by omega
        have hme : Hid (s.size - 1 = m) := by show s.size - 1 = m; omega
        have hH0 : Hid (¬ (s[0]'hp0).toNat = 32) := hb
        clear hb
        have hm2 : (s.size : Int) - 1 = (m : Int) := by omega
        by_cases hl : (s[m]'hms).toNat = 32
        · have hN : Hid (¬ ValOk s) := by
            intro h
            have h3 := (hti.out.1 h.2.2.2).2
            simp only [hme.out] at h3
            exact h3 hl
          have ht2 : (((s[m]'hms).toNat : Int) == 32) = true := by simp [hl]
          clear hl hm
          go_enter Tryz.func168, Tryz.ntmps168
          go_wp2_with fail
          go_ret
          exact BoolIs.no hN.out (Below.refl _ _)
        · have hY : Hid (AllB ValB s → ValOk s) := by
            intro h
            refine ⟨by omega, by omega, h, hti.out.2 ⟨hH0.out, ?_⟩⟩
            simp only [hme.out]
            exact hl
          have ht2 : (((s[m]'hms).toNat : Int) == 32) = false := by
            rw [beq_eq_false_iff_ne]; omega
          clear hl hm
          go_enter Tryz.func168, Tryz.ntmps168
          go_wp2_with (go_at_call 155; refine (allRunes_val _ _).mono ?_; rintro e w1 ⟨b, rfl, hbt, hb1⟩)
          go_ret
          exact ⟨b, rfl, hbt.trans ⟨hY.out, fun h => h.2.2.1⟩, hb1⟩

set_option maxHeartbeats 1000000 in
theorem specValueOk_any (s : ByteArray) (w : World) (hs : s.size ≤ maxLen) :
    Calls Tryz.prog 64 #[.string s] w fun e w' => BoolIs (ValOk s) w e w' := by
  have hs0 := hs
  unfold maxLen at hs
  go_enter Tryz.func64, Tryz.ntmps64
  go_wp2
  go_loop [3] (fun i => ∃ k : Nat, k ≤ s.size ∧ i = .int .i64 k ∧ Hid (AllTo ValB s k)) (fun i => s.size - (intOf i).toNat)
  case atStart => exact ⟨0, Nat.zero_le _, rfl, allTo_zero _ _⟩
  case round =>
    obtain ⟨k, hk, rfl, hall⟩ := hrel
    by_cases hlt : k < s.size
    · go_wp2
      all_goals first
        | (go_ret
           have hno : ¬ ValB ((s[k]'hlt).toNat : Int) := by
             unfold ValB
             omega
           exact BoolIs.no (fun h => hno (h.2.2.1 k hlt)) (Below.refl _ _))
        | (go_round
           case rel =>
             have hy : ValB ((s[k]'hlt).toNat : Int) := by
               unfold ValB
               omega
             exact ⟨k + 1, by omega, by go_num, allTo_succ hall.out hlt hy⟩
           case measure => simp [intOf]; omega)
    · have hend : Hid (AllB ValB s) := allTo_end hall.out hlt
      by_cases h1 : (1 : Int) ≤ (s.size : Int)
      · by_cases h2 : (s.size : Int) ≤ 60
        · go_wp2_with (first | (go_at_call 109; refine (specTrim_any _ _ hs0).mono ?_; rintro e w2 ⟨rfl, hb2⟩) | go_in)
          go_ret
          refine ⟨_, rfl, ?_, hb2⟩
          rw [text_beq]
          exact ⟨fun h => ⟨by omega, by omega, hend.out, h⟩, fun h => h.2.2.2⟩
        · go_wp2_with go_in
          go_ret
          exact BoolIs.no (by unfold ValOk; omega) (Below.refl _ _)
      · go_wp2_with go_in
        go_ret
        exact BoolIs.no (by unfold ValOk; omega) (Below.refl _ _)

end Go.Proofs.YtmcmeeibogkpaaaGreatDoorR

namespace Go.Proofs.YtmcmeeibogkpaaaGreatDoorR

def DigB (b : UInt8) : Prop := 48 ≤ b.toNat ∧ b.toNat ≤ 57
/-- The number that a row of digits is. -/
def valL (l : List UInt8) : Nat := l.foldl (fun v b => 10 * v + (b.toNat - 48)) 0
theorem valL_snoc (l : List UInt8) (b : UInt8) : valL (l ++ [b]) = 10 * valL l + (b.toNat - 48) := by simp [valL]
/-- The digits of a number that is not 0; none of 0. -/
def dgF : Nat → Nat → List UInt8
  | 0, _ => []
  | f + 1, n => if n = 0 then [] else dgF f (n / 10) ++ [UInt8.ofNat (48 + n % 10)]
theorem dgF_zero (f : Nat) : dgF f 0 = [] := by cases f <;> simp [dgF]
theorem dgF_pos (f n : Nat) (h : n ≠ 0) : dgF (f + 1) n = dgF f (n / 10) ++ [UInt8.ofNat (48 + n % 10)] := by simp [dgF, h]

theorem ofNat_digit (n : Nat) : (UInt8.ofNat (48 + n % 10)).toNat = 48 + n % 10 := by
  simp; omega

theorem list_snoc : ∀ l : List UInt8, l = [] ∨ ∃ r b, l = r ++ [b]
  | [] => .inl rfl
  | a :: t => by
    rcases list_snoc t with rfl | ⟨r, b, rfl⟩
    · exact .inr ⟨[], a, rfl⟩
    · exact .inr ⟨a :: r, b, rfl⟩

theorem head_snoc (r : List UInt8) (b c : UInt8) (hr : r ≠ []) : (r ++ [b]).head? = some c ↔ r.head? = some c := by
  cases r with
  | nil => exact absurd rfl hr
  | cons a t => simp

/-- A row of digits with no nought ahead is greater than any power of ten below its length. -/
theorem val_ge (l : List UInt8) : (∀ b ∈ l, DigB b) → (∀ b, l.head? = some b → b.toNat ≠ 48) → l ≠ [] → 10 ^ (l.length - 1) ≤ valL l := by
  suffices H : ∀ n (l : List UInt8), l.length = n → (∀ b ∈ l, DigB b) → (∀ b, l.head? = some b → b.toNat ≠ 48) → l ≠ [] → 10 ^ (l.length - 1) ≤ valL l from H _ l rfl
  intro n
  induction n with
  | zero => intro l hl _ _ hne; exact absurd (List.length_eq_zero_iff.1 hl) hne
  | succ n ih =>
    intro l hl hd hh hne
    rcases list_snoc l with rfl | ⟨r, b, rfl⟩
    · exact absurd rfl hne
    · rw [valL_snoc]
      by_cases hr : r = []
      · subst hr
        have h1 := hd b (by simp)
        have h2 := hh b rfl
        simp [valL]; unfold DigB at h1; omega
      · have hlen : r.length = n := by simpa using hl
        have h3 := ih r hlen (fun c hc => hd c (by simp [hc])) (fun c hc => hh c ((head_snoc r b c hr).2 hc)) hr
        have hpos : 1 ≤ r.length := by cases r with | nil => exact absurd rfl hr | cons _ _ => simp
        have e : (r ++ [b]).length - 1 = (r.length - 1) + 1 := by simp; omega
        rw [e, Nat.pow_succ]
        omega

/-- The digits of the number that a row of digits is, with no nought ahead, are that row. -/
theorem dg_val : ∀ (f : Nat) (l : List UInt8), (∀ b ∈ l, DigB b) → (∀ b, l.head? = some b → b.toNat ≠ 48) → l.length ≤ f → dgF f (valL l) = l := by
  intro f
  induction f with
  | zero => intro l _ _ hl; rw [List.length_eq_zero_iff.1 (by omega : l.length = 0)]; rfl
  | succ f ih =>
    intro l hd hh hl
    rcases list_snoc l with rfl | ⟨r, b, rfl⟩
    · exact dgF_zero _
    · have hb := hd b (by simp)
      unfold DigB at hb
      have hpos : valL (r ++ [b]) ≠ 0 := by
        have := val_ge (r ++ [b]) hd hh (by simp)
        have : 0 < 10 ^ ((r ++ [b]).length - 1) := Nat.pow_pos (by omega)
        omega
      rw [dgF_pos f _ hpos, valL_snoc]
      have e1 : (10 * valL r + (b.toNat - 48)) / 10 = valL r := by omega
      have e2 : (10 * valL r + (b.toNat - 48)) % 10 = b.toNat - 48 := by omega
      rw [e1, e2]
      have e3 : UInt8.ofNat (48 + (b.toNat - 48)) = b := by
        rw [show 48 + (b.toNat - 48) = b.toNat by omega]; simp
      rw [e3]
      by_cases hr : r = []
      · subst hr; simp [valL, dgF_zero]
      · rw [ih r (fun c hc => hd c (by simp [hc])) (fun c hc => hh c ((head_snoc r b c hr).2 hc)) (by simp at hl; omega)]

/-- The digits of a number begin with no nought, and are that number. -/
theorem dg_facts : ∀ (f n : Nat), n < 10 ^ f → (∀ b, (dgF f n).head? = some b → b.toNat ≠ 48) ∧ valL (dgF f n) = n ∧ (∀ b ∈ dgF f n, DigB b) := by
  intro f
  induction f with
  | zero => intro n h; simp at h; subst h; simp [dgF, valL]
  | succ f ih =>
    intro n h
    by_cases h0 : n = 0
    · subst h0; rw [dgF_zero]; simp [valL]
    · rw [dgF_pos f n h0]
      rw [Nat.pow_succ] at h
      obtain ⟨i1, i2, i3⟩ := ih (n / 10) (by omega)
      refine ⟨?_, ?_, ?_⟩
      · intro b hb
        by_cases hr : dgF f (n / 10) = []
        · rw [hr] at hb
          simp only [List.nil_append, List.head?_cons, Option.some.injEq] at hb
          rw [← hb, ofNat_digit]
          have : n / 10 = 0 := by rw [hr] at i2; simpa [valL] using i2.symm
          omega
        · exact i1 b ((head_snoc _ _ b hr).1 hb)
      · rw [valL_snoc, i2, ofNat_digit]; omega
      · intro b hb
        rcases List.mem_append.1 hb with h | h
        · exact i3 b h
        · simp only [List.mem_singleton] at h
          unfold DigB
          rw [h, ofNat_digit]; omega

/-- The text of a number from 0 to 1000000; the empty text of others. -/
def numL (n : Nat) : List UInt8 := if 1000000 < n then [] else if n = 0 then [48] else dgF 8 n
def numText (n : Nat) : ByteArray := ⟨(numL n).toArray⟩

/-- A text that is a number from 0 to 1000000 in digits without needless noughts. -/
def NumOk (s : ByteArray) : Prop := 1 ≤ s.size ∧ (∀ b ∈ s.data.toList, DigB b) ∧ (1 < s.size → ∀ h : 0 < s.size, (s[0]'h).toNat ≠ 48) ∧ valL s.data.toList ≤ 1000000

theorem head_byte (s : ByteArray) (h : 0 < s.size) : s.data.toList.head? = some (s[0]'h) := by
  rw [List.head?_eq_getElem?, byte_get s 0 h]

theorem num_iff (s : ByteArray) (h1 : 1 ≤ s.size) (h7 : s.size ≤ 7) (hd : ∀ b ∈ s.data.toList, DigB b) : numText (valL s.data.toList) = s ↔ NumOk s := by
  have hlen : s.data.toList.length = s.size := by simp
  have hto : numText (valL s.data.toList) = s ↔ numL (valL s.data.toList) = s.data.toList := by
    constructor
    · intro h
      have := congrArg (fun x : ByteArray => x.data.toList) h
      simpa [numText] using this
    · intro h
      apply ByteArray.ext
      show (numL _).toArray = _
      rw [h]
  rw [hto]
  have hne : s.data.toList ≠ [] := by
    intro e; rw [e] at hlen; simp at hlen; omega
  constructor
  · intro h
    unfold numL at h
    split at h
    · exact absurd h.symm hne
    · rename_i hle
      refine ⟨h1, hd, ?_, by omega⟩
      intro hs hp
      split at h
      · rw [← h] at hlen; simp at hlen; omega
      · rename_i h0
        have hf := (dg_facts 8 (valL s.data.toList) (by omega)).1
        apply hf
        rw [h, head_byte s hp]
  · rintro ⟨_, _, hz, hv⟩
    unfold numL
    rw [if_neg (by omega)]
    by_cases hh : ∀ b, s.data.toList.head? = some b → b.toNat ≠ 48
    · have hg := val_ge s.data.toList hd hh hne
      have hpos : 0 < 10 ^ (s.data.toList.length - 1) := Nat.pow_pos (by omega)
      rw [if_neg (by omega)]
      exact dg_val 8 _ hd hh (by omega)
    · have hp : 0 < s.size := by omega
      have h48 : (s[0]'hp).toNat = 48 := by
        rcases Decidable.em ((s[0]'hp).toNat = 48) with h | h
        · exact h
        · exfalso; apply hh
          intro b hb
          rw [head_byte s hp] at hb
          cases hb; exact h
      have hsz : s.size = 1 := by
        rcases Nat.lt_or_ge 1 s.size with h | h
        · exact absurd h48 (hz h hp)
        · omega
      have hl : s.data.toList = [s[0]'hp] := by
        cases hc : s.data.toList with
        | nil => exact absurd hc hne
        | cons a t =>
          have ht : t = [] := by
            rw [hc] at hlen; simp at hlen; exact List.length_eq_zero_iff.1 (by omega)
          have ha : some a = some (s[0]'hp) := by rw [← head_byte s hp, hc]; rfl
          rw [ht, Option.some.inj ha]
      have he : s[0]'hp = 48 := by
        apply UInt8.toNat_inj.1; rw [h48]; rfl
      rw [hl, he]; rfl

/-- The value of the first k bytes. -/
def valTo (s : ByteArray) (k : Nat) : Nat := valL (s.data.toList.take k)
theorem valTo_succ (s : ByteArray) (k : Nat) (h : k < s.size) : valTo s (k + 1) = 10 * valTo s k + ((s[k]'h).toNat - 48) := by
  unfold valTo
  have : s.data.toList.take (k + 1) = s.data.toList.take k ++ [s[k]'h] := by
    rw [List.take_succ_eq_append_getElem (by simpa using h)]; rfl
  rw [this, valL_snoc]
theorem valTo_end (s : ByteArray) (k : Nat) (h : ¬ k < s.size) : valTo s k = valL s.data.toList := by
  unfold valTo; rw [List.take_of_length_le (by simp; omega)]
theorem valTo_lt (s : ByteArray) : ∀ k, k ≤ s.size → (∀ j (h : j < s.size), j < k → DigB (s[j]'h)) → valTo s k < 10 ^ k := by
  intro k
  induction k with
  | zero => intro _ _; simp [valTo, valL]
  | succ k ih =>
    intro hk hd
    rw [valTo_succ s k (by omega), Nat.pow_succ]
    have h1 := ih (by omega) (fun j h hj => hd j h (by omega))
    have h2 := hd k (by omega) (by omega)
    unfold DigB at h2
    omega
/-- The value of a longer beginning is no less. -/
theorem valTo_mono (s : ByteArray) (k : Nat) : ∀ d, k + d ≤ s.size → valTo s k ≤ valTo s (k + d) := by
  intro d
  induction d with
  | zero => intro _; exact Nat.le_refl _
  | succ d ih =>
    intro h
    rw [show k + (d + 1) = (k + d) + 1 by omega, valTo_succ s (k + d) (by omega)]
    have := ih (by omega)
    omega
theorem val_ge_to (s : ByteArray) (k : Nat) (h : k ≤ s.size) : valTo s k ≤ valL s.data.toList := by
  rw [← valTo_end s s.size (by omega)]
  have := valTo_mono s k (s.size - k) (by omega)
  rw [show k + (s.size - k) = s.size by omega] at this
  exact this
theorem mem_byte {s : ByteArray} {p : UInt8 → Prop} (h : ∀ j (hj : j < s.size), p (s[j]'hj)) : ∀ b ∈ s.data.toList, p b := by
  intro b hb
  obtain ⟨j, hj, rfl⟩ := List.getElem_of_mem hb
  exact h j (by simpa using hj)
theorem byte_mem (s : ByteArray) (j : Nat) (h : j < s.size) : s[j]'h ∈ s.data.toList := List.mem_of_getElem? (byte_get s j h)
/-- A number that is no longer than 1000000 has at most seven digits. -/
theorem num_seven {s : ByteArray} (h : NumOk s) : s.size ≤ 7 := by
  obtain ⟨h1, hd, hz, hv⟩ := h
  rcases Nat.lt_or_ge 7 s.size with h7 | h7
  · exfalso
    have hp : 0 < s.size := by omega
    have hlen : s.data.toList.length = s.size := by simp
    have hg := val_ge s.data.toList hd (fun b hb => by rw [head_byte s hp] at hb; cases hb; exact hz (by omega) hp) (by intro e; rw [e] at hlen; simp at hlen; omega)
    have : 10 ^ 7 ≤ 10 ^ (s.data.toList.length - 1) := Nat.pow_le_pow_right (by omega) (by omega)
    omega
  · exact h7

end Go.Proofs.YtmcmeeibogkpaaaGreatDoorR

namespace Go.Proofs.YtmcmeeibogkpaaaGreatDoorR
open Go.RowKit
open Go.Lib hiding intOf

theorem conv_one (W : World) (d : Int) : (convert 22 9 (.slice (some ⟨W.heap.size, 0, none⟩) 1 1)).run Tryz.prog (W.alloc (.cells #[.int .u8 d] 5)) = .ok (.string (strOfNums [d])) (W.alloc (.cells #[.int .u8 d] 5)) :=
  run_convert_bytes_arg (P := Tryz.prog) (W.alloc (.cells #[.int .u8 d] 5)) 22 5 Tryz.underlying22 Tryz.underlying5 W.heap.size 0 1 1 [d] rfl (fun i hi => by
    have : i = 0 := by omega
    subst this
    simp) 9 Tryz.underlying9

set_option maxHeartbeats 1000000 in
theorem specNumText_any (n : Nat) (w : World) (hn : n ≤ 9999999) :
    Calls Tryz.prog 42 #[.int .i64 (n : Int)] w fun e w' => TextIs (numText n) w e w' := by
  by_cases h1 : (n : Int) ≤ 1000000
  · by_cases h0 : n = 0
    · subst h0
      go_enter Tryz.func42, Tryz.ntmps42
      go_wp2
      go_ret
      exact TextIs.of rfl (Below.refl _ _)
    · have hne : ((n : Int) == 0) = false := by rw [beq_eq_false_iff_ne]; omega
      have hcv := conv_one
      go_enter Tryz.func42, Tryz.ntmps42
      go_wp2
      go_loopw [0, 3] (fun a b wr => ∃ (f m : Nat) (out : ByteArray), a = .int .i64 (m : Int) ∧ b = .string out ∧ m ≤ 1000000 ∧ f ≤ 8 ∧ out.size ≤ 8 - f ∧ Below w.heap.size w wr ∧ Hid (m < 10 ^ f ∧ dgF f m ++ out.data.toList = dgF 8 n)) (fun a _ _ => (intOf a).toNat)
      case atStart => exact ⟨8, n, _, rfl, rfl, by omega, Nat.le_refl _, Nat.le_refl _, Below.refl _ _, ⟨by omega, by simp⟩⟩
      case round =>
        obtain ⟨f, m, out, rfl, rfl, hm, hf8, hsz, hbw, hd⟩ := hrel
        by_cases hp : (0 : Int) < (m : Int)
        · have hone : ∀ d : Int, (strOfNums [d]).size = 1 := fun d => strOfNums_size [d]
          go_wp2
          go_roundw
          case rel =>
            obtain ⟨hf, hdg⟩ := hd.out
            cases f with
            | zero => simp at hf; omega
            | succ f =>
              rw [Nat.pow_succ] at hf
              refine ⟨f, m / 10, strOfNums [48 + (m : Int) % 10] ++ out, by simp, rfl, by omega, by omega, ?_, hbw.alloc hbw.size _, by omega, ?_⟩
              · rw [ByteArray.size_append, hone]; omega
              · have e : (strOfNums [48 + (m : Int) % 10]).data.toList = [UInt8.ofNat (48 + m % 10)] := by
                  rw [strOfNums_data]
                  have : (48 + (m : Int) % 10).toNat = 48 + m % 10 := by omega
                  simp only [List.map_cons, List.map_nil, this]
                rw [dgF_pos f m (by omega), List.append_assoc] at hdg
                rw [← hdg, ByteArray.data_append, Array.toList_append, e]
          case measure => simp [intOf]; omega
        · have hT : Hid (out = numText n) := by
            obtain ⟨_, h⟩ := hd.out
            have e : m = 0 := by omega
            rw [e, dgF_zero, List.nil_append] at h
            show out = numText n
            apply ByteArray.ext
            apply Array.toList_inj.1
            rw [h]
            unfold numText numL
            rw [if_neg (by omega), if_neg h0]
          go_wp2
          go_ret
          exact TextIs.of hT.out hbw
  · go_enter Tryz.func42, Tryz.ntmps42
    go_wp2
    go_ret
    exact TextIs.of (by unfold numText numL; rw [if_pos (by omega)]) (Below.refl _ _)

/-- A call answers the number that a text is, and true; or 0 and false; it turns nothing that was there. -/
def NumIs (s : ByteArray) (w : World) (e : Ending) (w' : World) : Prop :=
  ∃ (b : Bool) (n : Int), e = .returned (.tuple #[.int .i64 n, .bool b]) ∧ (b = true ↔ NumOk s) ∧ (b = true → n = valL s.data.toList) ∧ (b = false → n = 0) ∧ Below w.heap.size w w'
theorem NumIs.no {s : ByteArray} {w w' : World} (h : ¬ NumOk s) (hb : Below w.heap.size w w') : NumIs s w (.returned (.tuple #[.int .i64 0, .bool false])) w' :=
  ⟨false, 0, rfl, by simpa using h, by simp, fun _ => rfl, hb⟩
theorem NumIs.yes {s : ByteArray} {w w' : World} {n : Int} (h : NumOk s) (hn : n = valL s.data.toList) (hb : Below w.heap.size w w') : NumIs s w (.returned (.tuple #[.int .i64 n, .bool true])) w' :=
  ⟨true, n, rfl, by simpa using h, fun _ => hn, by simp, hb⟩

/-- Every byte ahead of k is a digit. -/
def DigTo (s : ByteArray) (k : Nat) : Prop := ∀ j (h : j < s.size), j < k → DigB (s[j]'h)
theorem digTo_succ {s : ByteArray} {k : Nat} (h : DigTo s k) (hk : k < s.size) (hd : DigB (s[k]'hk)) : DigTo s (k + 1) := by
  intro j hj hlt
  by_cases e : j = k
  · subst e; exact hd
  · exact h j hj (by omega)

theorem isEmpty_no {s : ByteArray} (h : 1 ≤ s.size) : s.toList.isEmpty = false := by
  have : s.toList.length = s.size := by rw [ByteArray.toList_eq]; simp
  cases hc : s.toList with
  | nil => rw [hc] at this; simp at this; omega
  | cons _ _ => rfl
theorem isEmpty_yes {s : ByteArray} (h : s.size = 0) : s.toList.isEmpty = true := by
  have : s.toList.length = s.size := by rw [ByteArray.toList_eq]; simp
  rw [h] at this
  rw [List.length_eq_zero_iff.1 this]; rfl

set_option maxHeartbeats 1000000 in
theorem specNumRead_any (s : ByteArray) (w : World) (hs : s.size ≤ maxLen) :
    Calls Tryz.prog 97 #[.string s] w fun e w' => NumIs s w e w' := by
  unfold maxLen at hs
  by_cases h1 : s.size = 0
  · have he := isEmpty_yes h1
    go_enter Tryz.func97, Tryz.ntmps97
    go_wp2_with fail
    go_ret2
    exact NumIs.no (fun h => by have := h.1; omega) (Below.refl _ _)
  · have he := isEmpty_no (s := s) (by omega)
    by_cases h7 : (7 : Int) < (s.size : Int)
    · go_enter Tryz.func97, Tryz.ntmps97
      go_wp2_with fail
      go_ret2
      exact NumIs.no (fun h => by have := num_seven h; omega) (Below.refl _ _)
    · go_enter Tryz.func97, Tryz.ntmps97
      go_wp2_with fail
      go_loop [4, 5] (fun a i => ∃ x k : Nat, k ≤ s.size ∧ i = .int .i64 k ∧ a = .int .i64 (x : Int) ∧ x ≤ 9999999 ∧ Hid (DigTo s k) ∧ Hid (x = valTo s k)) (fun _ i => s.size - (intOf i).toNat)
      case atStart => exact ⟨0, 0, Nat.zero_le _, rfl, rfl, by omega, fun _ _ h => absurd h (by omega), by show 0 = valTo s 0; simp [valTo, valL]⟩
      case round =>
        obtain ⟨x, k, hk, rfl, rfl, hx, hdig, hval⟩ := hrel
        by_cases hlt : k < s.size
        · have hb := (s[k]'hlt).toNat_lt
          by_cases hd1 : ((s[k]'hlt).toNat : Int) < 48
          · go_wp2_with fail
            go_ret2
            exact NumIs.no (fun h => by have := h.2.1 _ (byte_mem s k hlt); unfold DigB at this; omega) (Below.refl _ _)
          · by_cases hd2 : (57 : Int) < ((s[k]'hlt).toNat : Int)
            · go_wp2_with fail
              go_ret2
              exact NumIs.no (fun h => by have := h.2.1 _ (byte_mem s k hlt); unfold DigB at this; omega) (Below.refl _ _)
            · go_wp2_with fail
              have hdb : DigB (s[k]'hlt) := by unfold DigB; omega
              have hs1 := valTo_succ s k hlt
              have hv := hval.out
              have hd' := digTo_succ hdig.out hlt hdb
              have hlt7 := valTo_lt s (k + 1) (by omega) (fun j h hj => hd' j h hj)
              have hp7 : 10 ^ (k + 1) ≤ 10 ^ 7 := Nat.pow_le_pow_right (by omega) (by omega)
              go_round
              case rel =>
                refine ⟨valTo s (k + 1), k + 1, by omega, by go_num, ?_, by omega, hd', rfl⟩
                congr 1
                omega
              case measure => simp [intOf]; omega
        · have hall : ∀ b ∈ s.data.toList, DigB b := mem_byte (fun j h => hdig.out j h (by omega))
          have hx2 : x = valL s.data.toList := by have := hval.out; rw [valTo_end s k hlt] at this; exact this
          have hni := num_iff s (by omega) (by omega) hall
          rw [← hx2] at hni
          by_cases hok : NumOk s
          · have ht : ((numText x).toList == s.toList) = true := (text_beq _ _).2 (hni.2 hok)
            have HX : Hid (x = valL s.data.toList) := hx2
            have HO : Hid (NumOk s) := hok
            clear hx2 hni hok hall
            go_wp2_with (go_at_call 42; refine (specNumText_any x _ hx).mono ?_; rintro e w1 ⟨rfl, hb1⟩)
            go_ret2
            exact NumIs.yes HO.out (by rw [HX.out]) hb1
          · have ht : ((numText x).toList == s.toList) = false := by
              rcases Bool.eq_false_or_eq_true ((numText x).toList == s.toList) with h | h
              · exact absurd (hni.1 ((text_beq _ _).1 h)) hok
              · exact h
            have HO : Hid (¬ NumOk s) := hok
            clear hx2 hni hok hall
            go_wp2_with (go_at_call 42; refine (specNumText_any x _ hx).mono ?_; rintro e w1 ⟨rfl, hb1⟩)
            go_ret2
            exact NumIs.no HO.out hb1

set_option maxHeartbeats 1000000 in
theorem implNumRead_any (s : ByteArray) (w : World) (hs : s.size ≤ maxLen) :
    Calls Tryz.prog 17 #[.string s] w fun e w' => NumIs s w e w' := by
  unfold maxLen at hs
  by_cases h1 : s.size = 0
  · have he := isEmpty_yes h1
    go_enter Tryz.func17, Tryz.ntmps17
    go_wp2_with fail
    go_ret2
    exact NumIs.no (fun h => by have := h.1; omega) (Below.refl _ _)
  · have he := isEmpty_no (s := s) (by omega)
    have hp0 : 0 < s.size := by omega
    by_cases hz : (1 : Int) < (s.size : Int) ∧ (s[0]'hp0).toNat = 48
    · obtain ⟨hz1, hz2⟩ := hz
      have ht : (((s[0]'hp0).toNat : Int) == 48) = true := by simp [hz2]
      have HZ : Hid ((s[0]'hp0).toNat = 48) := hz2
      clear hz2
      go_enter Tryz.func17, Tryz.ntmps17
      go_wp2_with fail
      go_ret2
      exact NumIs.no (fun h => h.2.2.1 (by omega) hp0 HZ.out) (Below.refl _ _)
    · have HZ : Hid (1 < s.size → ∀ h : 0 < s.size, (s[0]'h).toNat ≠ 48) := fun hl h hc => hz ⟨by omega, hc⟩
      have hgo : Calls Tryz.prog 17 #[.string s] w fun e w' => NumIs s w e w' := by
        by_cases hl : (1 : Int) < (s.size : Int)
        all_goals
          have ht : (1 : Int) < (s.size : Int) → (((s[0]'hp0).toNat : Int) == 48) = false := fun hl => by
            rw [beq_eq_false_iff_ne]; intro hc; exact hz ⟨hl, by omega⟩
          clear hz
          try have ht2 := ht hl
          try clear ht
          go_enter Tryz.func17, Tryz.ntmps17
          go_wp2_with fail
          go_loopw [4] (fun a wr => ∃ x pos : Nat, pos ≤ s.size ∧ a = .int .i64 (x : Int) ∧ x ≤ 1000000 ∧ wr.heap[w.heap.size]? = some (.stringIter s pos) ∧ Below w.heap.size w wr ∧ Hid (DigTo s pos) ∧ Hid (x = valTo s pos)) (fun _ wr => s.size - wr.iterPos w.heap.size)
          case atStart => exact ⟨0, 0, Nat.zero_le _, rfl, by omega, World.iter_heap _ _ _, (Below.refl _ _).alloc (Nat.le_refl _) _, fun _ _ h => absurd h (by omega), by show 0 = valTo s 0; simp [valTo, valL]⟩
          case round =>
            obtain ⟨x, k, hk, rfl, hx, hh, hbw, hdig, hval⟩ := hrel
            by_cases hlt : k < s.size
            · have hb := (s[k]'hlt).toNat_lt
              by_cases hd : DigB (s[k]'hlt)
              · have hnx := fun ty => run_next_ascii_at (P := Tryz.prog) wr w.heap.size s k ty hh hlt (by unfold DigB at hd; omega)
                have hcl : (cls ((s[k]'hlt).toNat : Int) != 2) = false := by
                  have := cls_spec ((s[k]'hlt).toNat : Int)
                  unfold DigB at hd
                  rw [bne_eq_false_iff_eq]; omega
                have hd1 : (48 : Int) ≤ ((s[k]'hlt).toNat : Int) := by unfold DigB at hd; omega
                have hd2 : ((s[k]'hlt).toNat : Int) ≤ 57 := by unfold DigB at hd; omega
                have HD : Hid (DigB (s[k]'hlt)) := hd
                clear hd
                go_wp2_with (go_at_call 67; refine (classOf_any _ _).mono ?_; rintro e w1 ⟨rfl, hb1⟩)
                · have hgt : 1000000 < valTo s (k + 1) := by
                    have := valTo_succ s k hlt
                    have := hval.out
                    omega
                  go_ret2
                  exact NumIs.no (fun h => by have := h.2.2.2; have := val_ge_to s (k + 1) (by omega); omega) (iter_step hh hbw hb1).2
                · have hle : (x : Int) * 10 + (((s[k]'hlt).toNat : Int) - 48) = (valTo s (k + 1) : Nat) ∧ valTo s (k + 1) ≤ 1000000 := by
                    have := valTo_succ s k hlt
                    have := hval.out
                    omega
                  obtain ⟨p1, p2⟩ := iter_step hh hbw hb1
                  refine ⟨⟨valTo s (k + 1), k + 1, by omega, by rw [hle.1], hle.2, p1, p2, digTo_succ hdig.out hlt HD.out, rfl⟩, by rw [iterPos_of p1, iterPos_of hh]; omega⟩
              · have hnx := fun ty => run_next_any_at (P := Tryz.prog) wr w.heap.size s k ty hh hlt
                have hcl : (cls ((Utf8.decode s k).1 : Int) != 2) = true := by
                  have := cls_spec ((Utf8.decode s k).1 : Int)
                  unfold DigB at hd
                  rw [bne_iff_ne]
                  by_cases ha : (s[k]'hlt).toNat < 128
                  · rw [decode_ascii s k hlt ha] at this ⊢
                    dsimp only at this ⊢
                    omega
                  · have := (decode_high s k hlt (by omega)).1
                    omega
                have HD : Hid (¬ DigB (s[k]'hlt)) := hd
                clear hd
                go_wp2_with (go_at_call 67; refine (classOf_any _ _).mono ?_; rintro e w1 ⟨rfl, hb1⟩)
                go_ret2
                exact NumIs.no (fun h => HD.out (h.2.1 _ (byte_mem s k hlt))) (iter_step hh hbw hb1).2
            · have hnx := fun ty => run_next_end_at (P := Tryz.prog) wr w.heap.size s k ty hh hlt
              have HY : Hid (NumOk s ∧ (x : Int) = (valL s.data.toList : Nat)) := by
                have hv := hval.out
                rw [valTo_end s k hlt] at hv
                exact ⟨⟨by omega, mem_byte (fun j h => hdig.out j h (by omega)), HZ.out, by omega⟩, by omega⟩
              go_wp2_with fail
              go_ret2
              exact NumIs.yes HY.out.1 HY.out.2 hbw
      exact hgo

end Go.Proofs.YtmcmeeibogkpaaaGreatDoorR

namespace Go.Proofs.YtmcmeeibogkpaaaGreatDoorR
open Go.RowKit
open Go.Lib hiding intOf

/-- What is owned lies from the base on. -/
theorem owns_ge {w : World} {base : Nat} {e : TypeId} {size : Nat} {v : Value} {n g : Nat} {xs : List Value} (h : w.ownsRow base e size v n xs) (hg : v.ownBlock = some g) : base ≤ g := by
  rcases h.2 with ⟨rfl, _⟩ | ⟨g', cap, cur, rfl, hb, _⟩
  · simp [Value.ownBlock] at hg
  · simp [Value.ownBlock] at hg; omega
end Go.Proofs.YtmcmeeibogkpaaaGreatDoorR

namespace Go.Proofs.YtmcmeeibogkpaaaGreatDoorR
open Go.RowKit
open Go.Lib hiding intOf

/-- What is owned stays so in every later world that keeps what was there. -/
theorem owns_below {w w' : World} {base B : Nat} {e : TypeId} {size : Nat} {v : Value} {n : Nat} {xs : List Value} (h : w.ownsRow base e size v n xs) (hb : Below B w w') (hB : ∀ g, v.ownBlock = some g → g < B) : w'.ownsRow base e size v n xs := by
  refine ⟨h.1, ?_⟩
  rcases h.2 with h2 | ⟨g, cap, cur, rfl, h3, h4, h5⟩
  · exact .inl h2
  · exact .inr ⟨g, cap, cur, rfl, h3, by rw [hb.block g (hB g rfl)]; exact h4, h5⟩
theorem owns_lt {w : World} {base : Nat} {e : TypeId} {size : Nat} {v : Value} {n g : Nat} {xs : List Value} (h : w.ownsRow base e size v n xs) (hg : v.ownBlock = some g) : g < w.heap.size := by
  rcases h.2 with ⟨rfl, _⟩ | ⟨g', cap, cur, rfl, hb, hh, _⟩
  · simp [Value.ownBlock] at hg
  · simp [Value.ownBlock] at hg
    subst hg
    exact (Array.getElem?_eq_some_iff.1 hh).1
theorem info9 : (Tryz.prog.info? 9).map (fun i => (i.zero, i.size, i.bytes)) = some (some (.string ⟨#[]⟩), 1, 16) := by kernel_rfl

end Go.Proofs.YtmcmeeibogkpaaaGreatDoorR

namespace Go.Proofs.YtmcmeeibogkpaaaGreatDoorR
open Go.RowKit
open Go.Lib hiding intOf

/-- The mark of a number. -/
def markOf (k : Nat) : ByteArray := ⟨(109 :: dgF 8 k).toArray⟩
/-- The text i of a list. -/
def textAt (xs : List ByteArray) (i : Nat) : ByteArray := xs.getD i ⟨#[]⟩

/-- What an owned list of texts is, cell by cell. -/
structure TextRow (base : Nat) (w : World) (g n cap : Nat) (xs : List ByteArray) : Prop where
  len : xs.length = n
  base : base ≤ g
  lt : g < w.heap.size
  le : n ≤ cap
  mx : cap ≤ maxLen
  heap : ∃ cur, w.heap[g]? = some (.cells cur 9 (0, 0)) ∧ cur.size = cap ∧ ∀ i, i < n → cur[i]? = some (.string (textAt xs i))
theorem TextRow.cell {base : Nat} {w : World} {g n cap : Nat} {xs : List ByteArray} (h : TextRow base w g n cap xs) (i : Nat) (hi : i < n) : w.cell? ⟨g, i, none⟩ = some (.string (textAt xs i)) := by
  obtain ⟨cur, hg, _, hc⟩ := h.heap
  simp only [World.cell?, hg]
  simpa using hc i hi
theorem TextRow.frozen {base : Nat} {w : World} {g n cap : Nat} {xs : List ByteArray} (h : TextRow base w g n cap xs) (i : Nat) : w.frozen? ⟨g, i, none⟩ = false := by
  obtain ⟨cur, hg, _⟩ := h.heap
  simp [World.frozen?, hg]
theorem TextRow.below {base B : Nat} {w w' : World} {g n cap : Nat} {xs : List ByteArray} (h : TextRow base w g n cap xs) (hb : Below B w w') (hB : g < B) : TextRow base w' g n cap xs := by
  obtain ⟨cur, hg, hc⟩ := h.heap
  have := hb.size; have := h.lt
  exact ⟨h.len, h.base, by omega, h.le, h.mx, cur, by rw [hb.block g hB]; exact hg, hc⟩
/-- One text of it stored anew. -/
theorem TextRow.set {base : Nat} {w : World} {g n cap : Nat} {xs : List ByteArray} (h : TextRow base w g n cap xs) (i : Nat) (hi : i < n) (t : ByteArray) : TextRow base (w.setCell ⟨g, i, none⟩ (.string t)) g n cap (xs.set i t) := by
  obtain ⟨cur, hg, hs, hc⟩ := h.heap
  refine ⟨by simp [h.len], h.base, by simpa using h.lt, h.le, h.mx, cur.setIfInBounds i (.string t), ?_, by simpa using hs, ?_⟩
  · simp [World.setCell, Array.getElem?_modify, hg]
  · intro j hj
    have hl := h.len
    have hle := h.le
    by_cases e : i = j
    · subst e
      have h1 : i < cur.size := by omega
      have h2 : i < xs.length := by omega
      simp [textAt, List.getD_eq_getElem?_getD, h1, h2]
    · rw [Array.getElem?_setIfInBounds_ne (by exact e), hc j hj]
      simp [textAt, List.getD_eq_getElem?_getD, e]
theorem textAt_map (xs : List ByteArray) (i : Nat) (h : i < xs.length) : (xs.map Value.string)[i]? = some (.string (textAt xs i)) := by
  simp [textAt, List.getD_eq_getElem?_getD, h]
/-- An owned list is empty, or such a row. -/
theorem row_form {w : World} {base n : Nat} {v : Value} {xs : List ByteArray} (h : w.ownsRow base 9 1 v n (xs.map Value.string)) :
    (∃ oa cap, v = .slice oa 0 cap ∧ n = 0 ∧ xs = []) ∨ ∃ g cap, v = .slice (some ⟨g, 0, none⟩) n cap ∧ 0 < n ∧ TextRow base w g n cap xs := by
  obtain ⟨hl, hv⟩ := h
  simp at hl
  rcases hv with ⟨rfl, h0⟩ | ⟨g, cap, cur, rfl, hb, hg, hn, hm, hcs, htk⟩
  · exact .inl ⟨none, 0, rfl, h0, List.length_eq_zero_iff.1 (by omega)⟩
  · by_cases h0 : n = 0
    · subst h0
      exact .inl ⟨_, _, rfl, rfl, List.length_eq_zero_iff.1 (by omega)⟩
    · refine .inr ⟨g, cap, rfl, by omega, hl, hb, (Array.getElem?_eq_some_iff.1 hg).1, hn, hm, cur, hg, by simpa using hcs, ?_⟩
      intro i hi
      have h1 : (cur.toList.take (n * 1))[i]? = some (.string (textAt xs i)) := by rw [htk]; exact textAt_map xs i (by omega)
      rw [List.getElem?_take, if_pos (by omega)] at h1
      simpa using h1
theorem TextRow.owns {base : Nat} {w : World} {g n cap : Nat} {xs : List ByteArray} (h : TextRow base w g n cap xs) : w.ownsRow base 9 1 (.slice (some ⟨g, 0, none⟩) n cap) n (xs.map Value.string) := by
  obtain ⟨cur, hg, hs, hc⟩ := h.heap
  refine ⟨by simp [h.len], .inr ⟨g, cap, cur, rfl, h.base, hg, h.le, h.mx, by simpa using hs, ?_⟩⟩
  apply List.ext_getElem?
  intro i
  have hl := h.len; have hle := h.le
  rw [List.getElem?_take, Nat.mul_one]
  by_cases hi : i < n
  · rw [if_pos hi, textAt_map xs i (by omega)]
    simpa using hc i hi
  · rw [if_neg hi, List.getElem?_eq_none (by simp; omega)]

set_option maxHeartbeats 1000000 in
theorem eqS_any (v1 v2 : Value) (n b1 b2 : Nat) (xs : List ByteArray) (w : World) (h1 : w.ownsRow b1 9 1 v1 n (xs.map Value.string)) (h2 : w.ownsRow b2 9 1 v2 n (xs.map Value.string)) (hn : n ≤ 2000000) :
    Calls Tryz.prog 79 #[v1, v2] w fun e w' => e = .returned (.bool true) ∧ Below w.heap.size w w' := by
  rcases row_form h1 with ⟨oa, ca, rfl, rfl, rfl⟩ | ⟨g1, c1, rfl, hp, r1⟩
  · rcases row_form h2 with ⟨ob, cb, rfl, _, _⟩ | ⟨g2, c2, rfl, hp2, _⟩
    · clear h1 h2
      go_enter Tryz.func79, Tryz.ntmps79
      go_wp2
      refine wp_loop_rounds 1 ?_
      rw [rounds_succ]
      go_wp2
      go_ret
      exact ⟨rfl, Below.refl _ _⟩
    · omega
  · rcases row_form h2 with ⟨ob, cb, rfl, h0, _⟩ | ⟨g2, c2, rfl, hp2, r2⟩
    · omega
    · clear h1 h2
      go_enter Tryz.func79, Tryz.ntmps79
      go_wp2
      go_loopw [5] (fun i wr => ∃ k : Nat, k ≤ n ∧ i = .int .i64 (k : Int) ∧ Below w.heap.size w wr) (fun i _ => n - (intOf i).toNat)
      case atStart => exact ⟨0, Nat.zero_le _, rfl, Below.refl _ _⟩
      case round =>
        obtain ⟨k, hk, rfl, hbw⟩ := hrel
        by_cases hlt : k < n
        · have hlt2 : (k : Int) < (n : Int) := by omega
          have hc1 := (r1.below hbw r1.lt).cell k hlt
          have hc2 := (r2.below hbw r2.lt).cell k hlt
          go_wp2
          go_quiet (fail)
          go_wp2
          go_roundw
          case rel => exact ⟨k + 1, by omega, by go_num, below_drewN hbw _⟩
          case measure => simp [intOf]; omega
        · go_wp2
          go_ret
          exact ⟨rfl, hbw⟩

set_option maxHeartbeats 1000000 in
theorem markText_any (n : Nat) (w : World) (h0 : 1 ≤ n) (hn : n ≤ 9999999) :
    Calls Tryz.prog 118 #[.int .i64 (n : Int)] w fun e w' => TextIs (markOf n) w e w' := by
  have hp0 : ¬ (n : Int) ≤ 0 := by omega
  have hcv := conv_one
  go_enter Tryz.func118, Tryz.ntmps118
  go_wp2
  go_loopw [0, 3] (fun a b wr => ∃ (f m : Nat) (out : ByteArray), a = .int .i64 (m : Int) ∧ b = .string out ∧ m ≤ 9999999 ∧ f ≤ 8 ∧ out.size ≤ 8 - f ∧ Below w.heap.size w wr ∧ Hid (m < 10 ^ f ∧ dgF f m ++ out.data.toList = dgF 8 n)) (fun a _ _ => (intOf a).toNat)
  case atStart => exact ⟨8, n, _, rfl, rfl, by omega, Nat.le_refl _, Nat.le_refl _, Below.refl _ _, ⟨by omega, by simp⟩⟩
  case round =>
    obtain ⟨f, m, out, rfl, rfl, hm, hf8, hsz, hbw, hd⟩ := hrel
    by_cases hp : (0 : Int) < (m : Int)
    · have hone : ∀ d : Int, (strOfNums [d]).size = 1 := fun d => strOfNums_size [d]
      go_wp2
      go_roundw
      case rel =>
        obtain ⟨hf, hdg⟩ := hd.out
        cases f with
        | zero => simp at hf; omega
        | succ f =>
          rw [Nat.pow_succ] at hf
          refine ⟨f, m / 10, strOfNums [48 + (m : Int) % 10] ++ out, by simp, rfl, by omega, by omega, ?_, hbw.alloc hbw.size _, by omega, ?_⟩
          · rw [ByteArray.size_append, hone]; omega
          · have e : (strOfNums [48 + (m : Int) % 10]).data.toList = [UInt8.ofNat (48 + m % 10)] := by
              rw [strOfNums_data]
              have : (48 + (m : Int) % 10).toNat = 48 + m % 10 := by omega
              simp only [List.map_cons, List.map_nil, this]
            rw [dgF_pos f m (by omega), List.append_assoc] at hdg
            rw [← hdg, ByteArray.data_append, Array.toList_append, e]
      case measure => simp [intOf]; omega
    · have hT : Hid (⟨#[109]⟩ ++ out = markOf n) := by
        obtain ⟨_, h⟩ := hd.out
        have e : m = 0 := by omega
        rw [e, dgF_zero, List.nil_append] at h
        show _ = _
        apply ByteArray.ext
        apply Array.toList_inj.1
        rw [ByteArray.data_append, Array.toList_append, h]
        rfl
      have hs2 : ¬ 9223372036854775807 < (⟨#[109]⟩ : ByteArray).size + out.size := by
        have : (⟨#[109]⟩ : ByteArray).size = 1 := rfl
        omega
      go_wp2
      go_ret
      exact TextIs.of hT.out hbw
theorem markText_int (x : Int) (n : Nat) (w : World) (hx : x = (n : Int)) (h0 : 1 ≤ n) (hn : n ≤ 9999999) :
    Calls Tryz.prog 118 #[.int .i64 x] w fun e w' => TextIs (markOf n) w e w' := by
  subst hx; exact markText_any n w h0 hn

end Go.Proofs.YtmcmeeibogkpaaaGreatDoorR

namespace Go.Proofs.YtmcmeeibogkpaaaGreatDoorR
open Go.RowKit
open Go.Lib hiding intOf

/-- The text of whatever int: that of a number from 0 to 1000000, else the empty one. -/
def numTextI (n : Int) : ByteArray := if n < 0 then ⟨#[]⟩ else numText n.toNat

theorem decDigits_zero : Lib.decDigits 0 = [48] := by rw [Lib.decDigits, dif_pos (by omega)]; rfl
theorem dg_dec : ∀ (f n : Nat), n < 10 ^ f → n ≠ 0 → dgF f n = Lib.decDigits n := by
  intro f
  induction f with
  | zero => intro n h h0; simp at h; omega
  | succ f ih =>
    intro n h h0
    rw [dgF_pos f n h0]
    rw [Nat.pow_succ] at h
    by_cases hs : n < 10
    · rw [Lib.decDigits, dif_pos hs]
      have e1 : n / 10 = 0 := by omega
      have e2 : n % 10 = n := by omega
      rw [e1, dgF_zero, e2]; rfl
    · rw [Lib.decDigits, dif_neg hs, ih (n / 10) (by omega) (by omega)]
theorem itoa_num (n : Int) (h0 : 0 ≤ n) (h1 : n ≤ 1000000) : (⟨(Lib.itoa n).toArray⟩ : ByteArray) = numTextI n := by
  unfold numTextI
  rw [if_neg (by omega)]
  unfold numText numL Lib.itoa
  rw [if_neg (by omega), if_neg (by omega)]
  by_cases h : n.toNat = 0
  · rw [if_pos h, h, decDigits_zero]
  · rw [if_neg h, dg_dec 8 n.toNat (by omega) h]

/-- The table that strconv.Itoa reads holds what the program's text lays. -/
def TabOk (w : World) : Prop := Lib.TabIs Tryz.prog w "internal/strconv.uint64pow10" .u64 Lib.pow10Tab
theorem gTab : Tryz.prog.globalNamed "internal/strconv.uint64pow10" = some 0 := by kernel_rfl
theorem TabOk.lt {w : World} (h : TabOk w) : 0 < w.heap.size := by
  unfold TabOk Lib.TabIs World.var? at h
  rw [gTab] at h
  rcases Nat.lt_or_ge 0 w.heap.size with hl | hl
  · exact hl
  · simp [Array.getElem?_eq_none hl] at h
theorem TabOk.below {w w' : World} (h : TabOk w) (hb : Below w.heap.size w w') : TabOk w' := var?_below hb gTab h.lt h

set_option maxHeartbeats 1000000 in
theorem implNumText_any (n : Int) (w : World) (h0 : -9223372036854775808 ≤ n) (h1 : n ≤ 9223372036854775807) (htab : TabOk w) :
    Calls Tryz.prog 37 #[.int .i64 n] w fun e w' => TextIs (numTextI n) w e w' := by
  by_cases hn : n < 0
  · have hT : Hid (⟨#[]⟩ = numTextI n) := by show _ = _; unfold numTextI; rw [if_pos hn]
    go_enter Tryz.func37, Tryz.ntmps37
    go_wp2_with fail
    go_ret
    exact TextIs.of hT.out (Below.refl _ _)
  · by_cases hb : 1000000 < n
    · have hT : Hid (⟨#[]⟩ = numTextI n) := by
        show _ = _
        unfold numTextI numText numL; rw [if_neg hn, if_pos (by omega)]
      go_enter Tryz.func37, Tryz.ntmps37
      go_wp2_with fail
      go_ret
      exact TextIs.of hT.out (Below.refl _ _)
    · have hT : Hid _ := itoa_num n (by omega) (by omega)
      have HT : Hid (TabOk w) := htab
      clear htab
      go_enter Tryz.func37, Tryz.ntmps37
      go_wp2_with fail
      refine (Tryz.strconv_Itoa n h0 h1 w HT.out).mono ?_
      rintro e w1 ⟨rfl, k, os, rfl⟩
      rw [hT.out]
      have hb1 := Lib.below_grow w.heap.size w (Nat.le_refl _) k os
      obtain ⟨w1, hw1⟩ : ∃ w1, w1 = Sort.grow (w.drewN k) os := ⟨_, rfl⟩
      rw [← hw1] at hb1 ⊢
      clear hw1
      go_wp2_with fail
      go_ret
      exact TextIs.of rfl hb1

set_option maxHeartbeats 1000000 in
theorem specNumText_int (n : Int) (w : World) (h0 : -9223372036854775808 ≤ n) (h1 : n ≤ 9223372036854775807) :
    Calls Tryz.prog 42 #[.int .i64 n] w fun e w' => TextIs (numTextI n) w e w' := by
  by_cases hn : n < 0
  · have hT : Hid (⟨#[]⟩ = numTextI n) := by show _ = _; unfold numTextI; rw [if_pos hn]
    have hn2 : ¬ 0 ≤ n := by omega
    go_enter Tryz.func42, Tryz.ntmps42
    go_wp2
    go_ret
    exact TextIs.of hT.out (Below.refl _ _)
  · by_cases hb : 1000000 < n
    · have hT : Hid (⟨#[]⟩ = numTextI n) := by
        show _ = _
        unfold numTextI numText numL; rw [if_neg hn, if_pos (by omega)]
      have hp : 0 ≤ n := by omega
      have hb2 : ¬ n ≤ 1000000 := by omega
      have hd : decide (n ≤ 1000000) = false := by simp; omega
      go_enter Tryz.func42, Tryz.ntmps42
      go_wp2
      go_ret
      exact TextIs.of hT.out (Below.refl _ _)
    · obtain ⟨m, rfl⟩ := Int.eq_ofNat_of_zero_le (Int.not_lt.1 hn)
      have hT : numTextI (m : Int) = numText m := by unfold numTextI; rw [if_neg hn]; simp
      rw [hT]
      exact specNumText_any m w (by omega)

end Go.Proofs.YtmcmeeibogkpaaaGreatDoorR

namespace Go.Proofs.YtmcmeeibogkpaaaGreatDoorR
open Go.RowKit
open Go.Lib hiding intOf

def nameAt (fs : List (ByteArray × ByteArray)) (i : Nat) : ByteArray := (fs.getD i (⟨#[]⟩, ⟨#[]⟩)).1
def valAt (fs : List (ByteArray × ByteArray)) (i : Nat) : ByteArray := (fs.getD i (⟨#[]⟩, ⟨#[]⟩)).2
/-- A list of fields as a row of cells: two a field. -/
def flatF (fs : List (ByteArray × ByteArray)) : List Value := fs.flatMap (fun f => [Value.string f.1, Value.string f.2])
theorem flatF_len (fs : List (ByteArray × ByteArray)) : (flatF fs).length = fs.length * 2 := by
  induction fs with
  | nil => rfl
  | cons f r ih => simp only [flatF, List.flatMap_cons, List.length_append, List.length_cons, List.length_nil] at ih ⊢; omega
theorem flatF_get : ∀ (fs : List (ByteArray × ByteArray)) (i : Nat), i < fs.length → (flatF fs)[i * 2]? = some (.string (nameAt fs i)) ∧ (flatF fs)[i * 2 + 1]? = some (.string (valAt fs i))
  | [], i, h => by simp at h
  | f :: r, 0, _ => by simp [flatF, nameAt, valAt]
  | f :: r, i + 1, h => by
    have ih := flatF_get r i (by simpa using h)
    have e : flatF (f :: r) = Value.string f.1 :: Value.string f.2 :: flatF r := rfl
    rw [e, show (i + 1) * 2 = i * 2 + 2 by omega, show i * 2 + 2 + 1 = (i * 2 + 1) + 2 by omega]
    simp only [List.getElem?_cons_succ]
    exact ih

/-- What an owned list of fields is, cell by cell. -/
structure FieldRow (base : Nat) (w : World) (g n cap : Nat) (fs : List (ByteArray × ByteArray)) : Prop where
  len : fs.length = n
  base : base ≤ g
  lt : g < w.heap.size
  le : n ≤ cap
  mx : cap ≤ maxLen
  heap : ∃ cur, w.heap[g]? = some (.cells cur 74 (0, 0)) ∧ cur.size = cap * 2 ∧ ∀ i, i < n → cur[i * 2]? = some (.string (nameAt fs i)) ∧ cur[i * 2 + 1]? = some (.string (valAt fs i))
theorem FieldRow.name {base : Nat} {w : World} {g n cap : Nat} {fs : List (ByteArray × ByteArray)} (h : FieldRow base w g n cap fs) (i : Nat) (hi : i < n) : w.cell? ⟨g, i * 2, none⟩ = some (.string (nameAt fs i)) := by
  obtain ⟨cur, hg, _, hc⟩ := h.heap
  simp only [World.cell?, hg]
  simpa using (hc i hi).1
theorem FieldRow.val {base : Nat} {w : World} {g n cap : Nat} {fs : List (ByteArray × ByteArray)} (h : FieldRow base w g n cap fs) (i : Nat) (hi : i < n) : w.cell? ⟨g, i * 2 + 1, none⟩ = some (.string (valAt fs i)) := by
  obtain ⟨cur, hg, _, hc⟩ := h.heap
  simp only [World.cell?, hg]
  simpa using (hc i hi).2
theorem FieldRow.frozen {base : Nat} {w : World} {g n cap : Nat} {fs : List (ByteArray × ByteArray)} (h : FieldRow base w g n cap fs) (i : Nat) : w.frozen? ⟨g, i, none⟩ = false := by
  obtain ⟨cur, hg, _⟩ := h.heap
  simp [World.frozen?, hg]
theorem FieldRow.below {base B : Nat} {w w' : World} {g n cap : Nat} {fs : List (ByteArray × ByteArray)} (h : FieldRow base w g n cap fs) (hb : Below B w w') (hB : g < B) : FieldRow base w' g n cap fs := by
  obtain ⟨cur, hg, hc⟩ := h.heap
  have := hb.size; have := h.lt
  exact ⟨h.len, h.base, by omega, h.le, h.mx, cur, by rw [hb.block g hB]; exact hg, hc⟩
/-- An owned list of fields is empty, or such a row. -/
theorem frow_form {w : World} {base n : Nat} {v : Value} {fs : List (ByteArray × ByteArray)} (h : w.ownsRow base 74 2 v n (flatF fs)) :
    (∃ oa cap, v = .slice oa 0 cap ∧ (oa = none → cap = 0) ∧ n = 0 ∧ fs = []) ∨ ∃ g cap, v = .slice (some ⟨g, 0, none⟩) n cap ∧ 0 < n ∧ FieldRow base w g n cap fs := by
  obtain ⟨hl, hv⟩ := h
  rw [flatF_len] at hl
  rcases hv with ⟨rfl, h0⟩ | ⟨g, cap, cur, rfl, hb, hg, hn, hm, hcs, htk⟩
  · exact .inl ⟨none, 0, rfl, fun _ => rfl, h0, List.length_eq_zero_iff.1 (by omega)⟩
  · by_cases h0 : n = 0
    · subst h0
      exact .inl ⟨_, _, rfl, (fun h => by cases h), rfl, List.length_eq_zero_iff.1 (by omega)⟩
    · refine .inr ⟨g, cap, rfl, by omega, by omega, hb, (Array.getElem?_eq_some_iff.1 hg).1, hn, hm, cur, hg, hcs, ?_⟩
      intro i hi
      have hf := flatF_get fs i (by omega)
      rw [← htk, List.getElem?_take, List.getElem?_take, if_pos (by omega), if_pos (by omega)] at hf
      simpa using hf
theorem FieldRow.owns {base : Nat} {w : World} {g n cap : Nat} {fs : List (ByteArray × ByteArray)} (h : FieldRow base w g n cap fs) : w.ownsRow base 74 2 (.slice (some ⟨g, 0, none⟩) n cap) n (flatF fs) := by
  obtain ⟨cur, hg, hs, hc⟩ := h.heap
  have hl := h.len; have hle := h.le
  refine ⟨by rw [flatF_len, hl], .inr ⟨g, cap, cur, rfl, h.base, hg, h.le, h.mx, hs, ?_⟩⟩
  apply List.ext_getElem?
  intro j
  rw [List.getElem?_take]
  by_cases hj : j < n * 2
  · rw [if_pos hj]
    have hf := flatF_get fs (j / 2) (by omega)
    have hcc := hc (j / 2) (by omega)
    rcases Nat.mod_two_eq_zero_or_one j with e | e
    · have e2 : j / 2 * 2 = j := by omega
      rw [e2] at hf hcc
      rw [hf.1]; simpa using hcc.1
    · have e2 : j / 2 * 2 + 1 = j := by omega
      rw [e2] at hf hcc
      rw [hf.2]; simpa using hcc.2
  · rw [if_neg hj, List.getElem?_eq_none (by rw [flatF_len]; omega)]

/-- A list of fields that a function reads: empty, or a row. -/
def FieldsV (w : World) (base : Nat) (v : Value) (n : Nat) (fs : List (ByteArray × ByteArray)) : Prop :=
  (∃ oa cap, v = .slice oa 0 cap ∧ (oa = none → cap = 0) ∧ n = 0 ∧ fs = []) ∨ ∃ g cap, v = .slice (some ⟨g, 0, none⟩) n cap ∧ 0 < n ∧ FieldRow base w g n cap fs

/-- Where the first field of that name stands; the length where there is none. -/
def atF : List (ByteArray × ByteArray) → ByteArray → Nat
  | [], _ => 0
  | f :: r, name => if f.1 = name then 0 else atF r name + 1
theorem atF_le : ∀ (fs : List (ByteArray × ByteArray)) (name : ByteArray), atF fs name ≤ fs.length
  | [], _ => Nat.le_refl _
  | f :: r, name => by
    rw [atF]
    split
    · exact Nat.zero_le _
    · have := atF_le r name; simp; omega
theorem atF_before : ∀ (fs : List (ByteArray × ByteArray)) (name : ByteArray) (j : Nat), j < atF fs name → nameAt fs j ≠ name
  | [], _, j, h => by simp [atF] at h
  | f :: r, name, j, h => by
    rw [atF] at h
    split at h
    · omega
    · rename_i hne
      cases j with
      | zero => simpa [nameAt] using hne
      | succ j => have := atF_before r name j (by omega); simpa [nameAt] using this
theorem atF_here : ∀ (fs : List (ByteArray × ByteArray)) (name : ByteArray), atF fs name < fs.length → nameAt fs (atF fs name) = name
  | [], _, h => by simp [atF] at h
  | f :: r, name, h => by
    rw [atF] at h ⊢
    split
    · rename_i he; simpa [nameAt] using he
    · rename_i hne
      rw [if_neg hne] at h
      have := atF_here r name (by simpa using h)
      simpa [nameAt] using this
theorem atF_uniq {fs : List (ByteArray × ByteArray)} {name : ByteArray} {k : Nat} (hk : k < fs.length) (hb : ∀ j, j < k → nameAt fs j ≠ name) (he : nameAt fs k = name) : atF fs name = k := by
  rcases Nat.lt_trichotomy (atF fs name) k with h | h | h
  · exact absurd (atF_here fs name (by omega)) (hb _ h)
  · exact h
  · exact absurd he (atF_before fs name k h)
theorem atF_none {fs : List (ByteArray × ByteArray)} {name : ByteArray} (hb : ∀ j, j < fs.length → nameAt fs j ≠ name) : atF fs name = fs.length := by
  rcases Nat.lt_or_ge (atF fs name) fs.length with h | h
  · exact absurd (atF_here fs name h) (hb _ h)
  · have := atF_le fs name; omega
/-- The place as an int: -1 where there is none. -/
def atI (fs : List (ByteArray × ByteArray)) (name : ByteArray) : Int := if atF fs name < fs.length then (atF fs name : Int) else -1

set_option maxHeartbeats 1000000 in
theorem l2At_any (v : Value) (n base : Nat) (fs : List (ByteArray × ByteArray)) (name : ByteArray) (w : World) (hv : FieldsV w base v n fs) (hn : n ≤ 1073741824) :
    Calls Tryz.prog 96 #[v, .string name] w fun e w' => e = .returned (.int .i64 (atI fs name)) ∧ w' = w := by
  rcases hv with ⟨oa, ca, rfl, _, rfl, rfl⟩ | ⟨g, cap, rfl, hp, row⟩
  · have hT : Hid (atI [] name = -1) := rfl
    go_enter Tryz.func96, Tryz.ntmps96
    go_wp2
    refine wp_loop_rounds 1 ?_
    rw [rounds_succ]
    go_wp2
    go_ret
    exact ⟨by rw [hT.out]; rfl, rfl⟩
  · have hl := row.len
    go_enter Tryz.func96, Tryz.ntmps96
    go_wp2
    go_loop [5] (fun i => ∃ k : Nat, k ≤ n ∧ i = .int .i64 (k : Int) ∧ Hid (∀ j, j < k → nameAt fs j ≠ name)) (fun i => n - (intOf i).toNat)
    case atStart => exact ⟨0, Nat.zero_le _, rfl, fun j h => absurd h (by omega)⟩
    case round =>
      obtain ⟨k, hk, rfl, hb⟩ := hrel
      by_cases hlt : k < n
      · have hc := row.name k hlt
        have hlt2 : (k : Int) < (n : Int) := by omega
        by_cases he : nameAt fs k = name
        · have hT : Hid (atI fs name = (k : Int)) := by
            have := atF_uniq (by omega) hb.out he
            show _ = _
            unfold atI; rw [this, if_pos (by omega)]
          have ht : ((nameAt fs k).toList == name.toList) = true := (text_beq _ _).2 he
          clear he
          go_wp2
          go_ret
          exact ⟨by rw [hT.out]; rfl, rfl⟩
        · have ht : ((nameAt fs k).toList == name.toList) = false := by
            rcases Bool.eq_false_or_eq_true ((nameAt fs k).toList == name.toList) with h | h
            · exact absurd ((text_beq _ _).1 h) he
            · exact h
          have HE : Hid (nameAt fs k ≠ name) := he
          clear he
          go_wp2
          go_round
          case rel =>
            refine ⟨k + 1, by omega, by go_num, ?_⟩
            intro j hj
            by_cases e : j = k
            · subst e; exact HE.out
            · exact hb.out j (by omega)
          case measure => simp [intOf]; omega
      · have hT : Hid (atI fs name = -1) := by
          have := atF_none (fs := fs) (name := name) (fun j hj => hb.out j (by omega))
          show _ = _
          unfold atI; rw [this, if_neg (by omega)]
        go_wp2
        go_ret
        exact ⟨by rw [hT.out]; rfl, rfl⟩

theorem FieldsV.of_owns {w : World} {base n : Nat} {v : Value} {fs : List (ByteArray × ByteArray)} (h : w.ownsRow base 74 2 v n (flatF fs)) : FieldsV w base v n fs := frow_form h
theorem FieldsV.below {w w' : World} {base n : Nat} {v : Value} {fs : List (ByteArray × ByteArray)} (h : FieldsV w base v n fs) (hb : Below w.heap.size w w') : FieldsV w' base v n fs := by
  rcases h with h | ⟨g, cap, h1, h2, h3⟩
  · exact .inl h
  · exact .inr ⟨g, cap, h1, h2, h3.below hb h3.lt⟩
theorem FieldsV.len {w : World} {base n : Nat} {v : Value} {fs : List (ByteArray × ByteArray)} (h : FieldsV w base v n fs) : fs.length = n := by
  rcases h with ⟨_, _, _, _, rfl, rfl⟩ | ⟨_, _, _, _, h⟩
  · rfl
  · exact h.len

/-- A list of fields is a slice; where there is a field it is a row's. -/
theorem FieldsV.slice {w : World} {base n : Nat} {v : Value} {fs : List (ByteArray × ByteArray)} (h : FieldsV w base v n fs) :
    ∃ oa cap, v = .slice oa n cap ∧ ∀ k, k < n → ∃ g, oa = some ⟨g, 0, none⟩ ∧ FieldRow base w g n cap fs := by
  rcases h with ⟨oa, ca, rfl, _, rfl, rfl⟩ | ⟨g, cap, rfl, hp, row⟩
  · exact ⟨oa, ca, rfl, fun k hk => absurd hk (by omega)⟩
  · exact ⟨_, cap, rfl, fun k _ => ⟨g, rfl, row⟩⟩

/-- What Get answers. -/
def getV (fs : List (ByteArray × ByteArray)) (name : ByteArray) : ByteArray := if atF fs name < fs.length then valAt fs (atF fs name) else ⟨#[]⟩
def getB (fs : List (ByteArray × ByteArray)) (name : ByteArray) : Bool := decide (atF fs name < fs.length)

set_option maxHeartbeats 1000000 in
theorem specGet_any (v : Value) (n base : Nat) (fs : List (ByteArray × ByteArray)) (name : ByteArray) (w : World) (hv : FieldsV w base v n fs) (hn : n ≤ 1073741824) :
    Calls Tryz.prog 95 #[v, .string name] w fun e w' => e = .returned (.tuple #[.string (getV fs name), .bool (getB fs name)]) ∧ w' = w := by
  have hl := hv.len
  by_cases hin : atF fs name < fs.length
  · have hI : Hid (atI fs name = (atF fs name : Int)) := by show _ = _; unfold atI; rw [if_pos hin]
    have hV : Hid (getV fs name = valAt fs (atF fs name)) := by show _ = _; unfold getV; rw [if_pos hin]
    have hB : Hid (getB fs name = true) := by show _ = _; unfold getB; simpa using hin
    have hv0 := hv
    rcases hv0 with ⟨oa, ca, rfl, _, rfl, rfl⟩ | ⟨g, cap, rfl, hp, row⟩
    · simp at hin
    · obtain ⟨k, hk⟩ : ∃ k, k = atF fs name := ⟨_, rfl⟩
      rw [← hk] at hI hV hin
      have hc := row.val k (by omega)
      have hlt : (k : Int) < (n : Int) := by omega
      clear hk
      go_enter Tryz.func95, Tryz.ntmps95
      go_wp2_with fail
      refine (l2At_any _ n base fs name _ hv hn).mono ?_
      rintro e w1 ⟨rfl, rfl⟩
      rw [hI.out]
      clear hv
      go_wp2
      go_ret2
      exact ⟨by rw [hV.out, hB.out]; rfl, rfl⟩
  · have hI : Hid (atI fs name = -1) := by show _ = _; unfold atI; rw [if_neg hin]
    have hV : Hid (getV fs name = ⟨#[]⟩) := by show _ = _; unfold getV; rw [if_neg hin]
    have hB : Hid (getB fs name = false) := by show _ = _; unfold getB; simpa using hin
    go_enter Tryz.func95, Tryz.ntmps95
    go_wp2_with fail
    refine (l2At_any v n base fs name _ hv hn).mono ?_
    rintro e w1 ⟨rfl, rfl⟩
    rw [hI.out]
    clear hv
    go_wp2
    go_ret2
    exact ⟨by rw [hV.out, hB.out]; rfl, rfl⟩

/-- What the chapter asks of fields. -/
def FldsOk (fs : List (ByteArray × ByteArray)) : Prop :=
  fs.length ≤ 8 ∧ ∀ i, i < fs.length → TokOk (nameAt fs i) ∧ ValOk (valAt fs i) ∧ atF fs (nameAt fs i) = i ∧ nameAt fs i ≠ ⟨#[99, 111, 110, 116, 101, 110, 116, 45, 108, 101, 110, 103, 116, 104]⟩
def clen : ByteArray := ⟨#[99, 111, 110, 116, 101, 110, 116, 45, 108, 101, 110, 103, 116, 104]⟩
def FldOk (fs : List (ByteArray × ByteArray)) (i : Nat) : Prop := TokOk (nameAt fs i) ∧ ValOk (valAt fs i) ∧ atF fs (nameAt fs i) = i ∧ nameAt fs i ≠ clen
theorem clen_list : clen.toList = [99, 111, 110, 116, 101, 110, 116, 45, 108, 101, 110, 103, 116, 104] := by rw [ByteArray.toList_eq]; rfl
theorem text_beq_no {a b : ByteArray} (h : a ≠ b) : (a.toList == b.toList) = false := by
  rcases Bool.eq_false_or_eq_true (a.toList == b.toList) with h1 | h1
  · exact absurd ((text_beq _ _).1 h1) h
  · exact h1

set_option maxHeartbeats 2000000 in
theorem specFieldsOk_any (v : Value) (n base : Nat) (fs : List (ByteArray × ByteArray)) (w : World) (hv : FieldsV w base v n fs) (hn : n ≤ 1073741824) (hsz : ∀ i, i < n → (nameAt fs i).size ≤ maxLen ∧ (valAt fs i).size ≤ maxLen) :
    Calls Tryz.prog 93 #[v] w fun e w' => BoolIs (FldsOk fs) w e w' := by
  have hl := hv.len
  have HV : Hid (FieldsV w base v n fs) := hv
  have HS : Hid (∀ i, i < n → (nameAt fs i).size ≤ maxLen ∧ (valAt fs i).size ≤ maxLen) := hsz
  clear hsz
  rcases hv with ⟨oa, ca, rfl, _, rfl, rfl⟩ | ⟨g, cap, rfl, hp, row⟩
  · have hT : Hid (FldsOk []) := ⟨by simp, fun i hi => absurd hi (by simp)⟩
    clear HV HS
    go_enter Tryz.func93, Tryz.ntmps93
    go_wp2
    refine wp_loop_rounds 1 ?_
    rw [rounds_succ]
    go_wp2
    go_ret
    exact BoolIs.yes hT.out (Below.refl _ _)
  · go_enter Tryz.func93, Tryz.ntmps93
    go_wp2
    go_loopw [3] (fun i wr => ∃ k : Nat, k ≤ n ∧ i = .int .i64 (k : Int) ∧ Hid (∀ j, j < k → FldOk fs j) ∧ Below w.heap.size w wr) (fun i _ => n - (intOf i).toNat)
    case atStart => exact ⟨0, Nat.zero_le _, rfl, fun j h => absurd h (by omega), Below.refl _ _⟩
    case round =>
      obtain ⟨k, hk, rfl, hall, hbw⟩ := hrel
      by_cases hlt : k < n
      · have hlt2 : (k : Int) < (n : Int) := by omega
        obtain ⟨hs1, hs2⟩ := HS.out k hlt
        obtain ⟨nm, hnm⟩ : ∃ x, x = nameAt fs k := ⟨_, rfl⟩
        obtain ⟨vl, hvl⟩ : ∃ x, x = valAt fs k := ⟨_, rfl⟩
        have HR : Hid (∀ W, Below w.heap.size w W → W.cell? ⟨g, k * 2, none⟩ = some (.string nm) ∧ W.cell? ⟨g, k * 2 + 1, none⟩ = some (.string vl)) := fun W h => by
          rw [hnm, hvl]; exact ⟨(row.below h row.lt).name k hlt, (row.below h row.lt).val k hlt⟩
        have HO : Hid (FldOk fs k ↔ TokOk nm ∧ ValOk vl ∧ atF fs nm = k ∧ nm ≠ clen) := by rw [hnm, hvl]; exact Iff.rfl
        have HNO : Hid (¬ (TokOk nm ∧ ValOk vl ∧ atF fs nm = k ∧ nm ≠ clen) → ¬ FldsOk fs) := fun h hf => h (HO.out.1 (hf.2 k (by omega)))
        have hatle : atF fs nm ≤ k := by
          rcases Nat.lt_or_ge k (atF fs nm) with h | h
          · exact absurd hnm.symm (atF_before fs nm k h)
          · exact h
        have hI : Hid (atI fs nm = (atF fs nm : Int)) := by show _ = _; unfold atI; rw [if_pos (by omega)]
        rw [← hnm] at hs1
        rw [← hvl] at hs2
        obtain ⟨c1, c2⟩ := HR.out wr hbw
        clear hnm hvl
        go_wp2_with fail
        refine (specTokenOk_any nm _ hs1).mono ?_
        rintro e w1 ⟨b1, rfl, kb1, bb1⟩
        have hb1 : Below w.heap.size w w1 := hbw.trans (bb1.mono hbw.size)
        obtain ⟨c1a, c2a⟩ := HR.out w1 hb1
        cases b1
        · have HF : Hid (¬ FldsOk fs) := HNO.out (fun h => by have := kb1.2 h.1; cases this)
          clear kb1 c1 c2 bb1
          go_wp2_with fail
          go_ret
          exact BoolIs.no HF.out hb1
        · have HT : Hid (TokOk nm) := kb1.1 rfl
          clear kb1 c1 c2 bb1
          go_wp2_with fail
          refine (specValueOk_any vl _ hs2).mono ?_
          rintro e w2 ⟨b2, rfl, kb2, bb2⟩
          have hb2 : Below w.heap.size w w2 := hb1.trans (bb2.mono hb1.size)
          obtain ⟨c1b, c2b⟩ := HR.out w2 hb2
          cases b2
          · have HF : Hid (¬ FldsOk fs) := HNO.out (fun h => by have := kb2.2 h.2.1; cases this)
            clear kb2 c1a c2a bb2
            go_wp2_with fail
            go_ret
            exact BoolIs.no HF.out hb2
          · have HT2 : Hid (ValOk vl) := kb2.1 rfl
            clear kb2 c1a c2a bb2
            go_wp2_with fail
            refine (l2At_any _ n base fs nm _ (HV.out.below hb2) hn).mono ?_
            rintro e w3 ⟨rfl, rfl⟩
            rw [hI.out]
            by_cases hat : atF fs nm = k
            · have hne : ((atF fs nm : Int) != (k : Int)) = false := by rw [bne_eq_false_iff_eq]; omega
              have HAT : Hid (atF fs nm = k) := hat
              clear hat
              by_cases hcl : nm = clen
              · have ht := (text_beq _ _).2 hcl
                rw [clen_list] at ht
                have HF : Hid (¬ FldsOk fs) := HNO.out (fun h => h.2.2.2 hcl)
                clear hcl
                go_wp2
                go_ret
                exact BoolIs.no HF.out hb2
              · have ht := text_beq_no hcl
                rw [clen_list] at ht
                have HY : Hid (FldOk fs k) := HO.out.2 ⟨HT.out, HT2.out, HAT.out, hcl⟩
                clear hcl
                go_wp2
                go_roundw
                case rel =>
                  refine ⟨k + 1, by omega, by go_num, ?_, hb2⟩
                  intro j hj
                  by_cases e : j = k
                  · subst e; exact HY.out
                  · exact hall.out j (by omega)
                case measure => simp [intOf]; omega
            · have hne : ((atF fs nm : Int) != (k : Int)) = true := by rw [bne_iff_ne]; omega
              have HF : Hid (¬ FldsOk fs) := HNO.out (fun h => hat h.2.2.1)
              clear hat
              go_wp2
              go_ret
              exact BoolIs.no HF.out hb2
      · by_cases h8 : (n : Int) ≤ 8
        · have HF : Hid (FldsOk fs) := ⟨by omega, fun i hi => hall.out i (by omega)⟩
          go_wp2
          go_ret
          exact BoolIs.yes HF.out hbw
        · have HF : Hid (¬ FldsOk fs) := fun h => by have := h.1; omega
          go_wp2
          go_ret
          exact BoolIs.no HF.out hbw

end Go.Proofs.YtmcmeeibogkpaaaGreatDoorR

namespace Go.Proofs.YtmcmeeibogkpaaaGreatDoorR
open Go.RowKit

def RespP (st : Int) (fs : List (ByteArray × ByteArray)) (body : ByteArray) : Prop := (100 ≤ st ∧ st ≤ 599) ∧ FldsOk fs ∧ body.size ≤ 120

end Go.Proofs.YtmcmeeibogkpaaaGreatDoorR

namespace Go.Proofs.YtmcmeeibogkpaaaGreatDoorR
open Go.RowKit

open Classical in
/-- The number that a text is; 0: it is none. -/
noncomputable def numV (s : ByteArray) : Int := if NumOk s then (valL s.data.toList : Int) else 0
end Go.Proofs.YtmcmeeibogkpaaaGreatDoorR

namespace Go.Proofs.YtmcmeeibogkpaaaGreatDoorR
open Go.RowKit
open Go.Lib hiding intOf

def varyName : ByteArray := ⟨#[118, 97, 114, 121]⟩
/-- A list of texts that is read. -/
def TextsA (w : World) (oa : Option Addr) (n : Nat) (xs : List ByteArray) : Prop :=
  xs.length = n ∧ ∀ i, i < n → ∃ g, oa = some ⟨g, 0, none⟩ ∧ g < w.heap.size ∧ w.cell? ⟨g, i, none⟩ = some (.string (textAt xs i))
theorem TextsA.below {w w' : World} {oa : Option Addr} {n : Nat} {xs : List ByteArray} (h : TextsA w oa n xs) (hb : Below w.heap.size w w') : TextsA w' oa n xs :=
  ⟨h.1, fun i hi => by
    obtain ⟨g, h1, h2, h3⟩ := h.2 i hi
    exact ⟨g, h1, Nat.lt_of_lt_of_le h2 hb.size, by rw [hb.cell (p := ⟨g, i, none⟩) h2]; exact h3⟩⟩
end Go.Proofs.YtmcmeeibogkpaaaGreatDoorR

namespace Go.Proofs.YtmcmeeibogkpaaaGreatDoorR
open Go.RowKit
open Go.Lib hiding intOf

attribute [local go_sem ↓] Go.wp_at_zero Go.wp_at_succ

/-- A list of fields that came in, in blocks below B. -/
structure ArgF (w : World) (B : Nat) (a : Option Addr) (n : Nat) (fs : List (ByteArray × ByteArray)) : Prop where
  len : fs.length = n
  get : ∀ i, i < n → ∃ b off, a = some ⟨b, off, none⟩ ∧ b < B ∧ w.cell? ⟨b, off + i * 2, none⟩ = some (.string (nameAt fs i)) ∧ w.cell? ⟨b, off + i * 2 + 1, none⟩ = some (.string (valAt fs i))
theorem ArgF.below {w w' : World} {B : Nat} {a : Option Addr} {n : Nat} {fs : List (ByteArray × ByteArray)} (h : ArgF w B a n fs) (hb : Below B w w') : ArgF w' B a n fs :=
  ⟨h.len, fun i hi => by
    obtain ⟨b, off, h1, h2, h3, h4⟩ := h.get i hi
    exact ⟨b, off, h1, h2, by rw [hb.cell (p := ⟨b, off + i * 2, none⟩) h2]; exact h3, by rw [hb.cell (p := ⟨b, off + i * 2 + 1, none⟩) h2]; exact h4⟩⟩

/-- How many letters the first k fields hold. -/
def szTo (fs : List (ByteArray × ByteArray)) : Nat → Nat
  | 0 => 0
  | k + 1 => szTo fs k + (nameAt fs k).size + (valAt fs k).size

set_option maxHeartbeats 1000000 in
theorem szField_any (nm vl : ByteArray) (left : Int) (w : World) (h0 : 0 ≤ left) (h1 : left ≤ 1073741824) (hn : nm.size ≤ maxLen) (hv : vl.size ≤ maxLen) :
    Calls Tryz.prog 115 #[.agg #[.string nm, .string vl], .int .i64 left] w fun e w' => e = .returned (.int .i64 (if left - nm.size < 0 then -1 else if left - nm.size - vl.size < 0 then -1 else left - nm.size - vl.size)) ∧ Below w.heap.size w w' := by
  unfold maxLen at hn hv
  by_cases c1 : left - (nm.size : Int) < 0
  · rw [if_pos c1]
    go_enter Tryz.func115, Tryz.ntmps115
    go_wp2
    go_ret
    exact ⟨rfl, (Below.refl _ _).alloc (Nat.le_refl _) _⟩
  · rw [if_neg c1]
    by_cases c2 : left - (nm.size : Int) - (vl.size : Int) < 0
    · rw [if_pos c2]
      go_enter Tryz.func115, Tryz.ntmps115
      go_wp2
      go_ret
      exact ⟨rfl, (Below.refl _ _).alloc (Nat.le_refl _) _⟩
    · rw [if_neg c2]
      go_enter Tryz.func115, Tryz.ntmps115
      go_wp2
      go_ret
      exact ⟨rfl, (Below.refl _ _).alloc (Nat.le_refl _) _⟩

set_option maxHeartbeats 1000000 in
theorem toField_any (nm vl : ByteArray) (w : World) :
    Calls Tryz.prog 116 #[.agg #[.string nm, .string vl]] w fun e w' => e = .returned (.agg #[.string nm, .string vl]) ∧ Below w.heap.size w w' := by
  go_enter Tryz.func116, Tryz.ntmps116
  go_wp2
  exact bodyPost_ret (v := .agg #[.string nm, .string vl]) (by simp [results, Tryz.results116, go_sem]) rfl ⟨rfl, (((Below.refl _ _).alloc (Nat.le_refl _) _).alloc (by simp) _).alloc (by simp; omega) _⟩

theorem info33 : (Tryz.prog.info? 74).map (fun i => (i.zero, i.size, i.bytes)) = some (some (.agg #[.string ⟨#[]⟩, .string ⟨#[]⟩]), 2, 32) := by kernel_rfl

theorem heap_set (w : World) (c o : Nat) (cs : Array Value) (t : TypeId) (fz : Nat × Nat) (v : Value) (h : w.heap[c]? = some (.cells cs t fz)) : (w.setCell ⟨c, o, none⟩ v).heap[c]? = some (.cells (cs.setIfInBounds o v) t fz) := by
  simp [World.setCell, Array.getElem?_modify, h]
/-- The first k fields of a row of 2 n cells are told. -/
def PartRow (w : World) (g n k : Nat) (fs : List (ByteArray × ByteArray)) : Prop :=
  ∃ cur, w.heap[g]? = some (.cells cur 74 (0, 0)) ∧ cur.size = n * 2 ∧ ∀ i, i < k → cur[i * 2]? = some (.string (nameAt fs i)) ∧ cur[i * 2 + 1]? = some (.string (valAt fs i))
theorem PartRow.below {w w' : World} {g n k B : Nat} {fs : List (ByteArray × ByteArray)} (h : PartRow w g n k fs) (hb : Below B w w') (hB : g < B) : PartRow w' g n k fs := by
  obtain ⟨cur, h1, h2⟩ := h
  exact ⟨cur, by rw [hb.block g hB]; exact h1, h2⟩
theorem PartRow.lt {w : World} {g n k : Nat} {fs : List (ByteArray × ByteArray)} (h : PartRow w g n k fs) : g < w.heap.size := by
  obtain ⟨cur, h1, _⟩ := h
  exact (Array.getElem?_eq_some_iff.1 h1).1
theorem PartRow.cell {w : World} {g n k : Nat} {fs : List (ByteArray × ByteArray)} (h : PartRow w g n k fs) (j : Nat) (hj : j < n * 2) : ∃ u, w.cell? ⟨g, j, none⟩ = some u := by
  obtain ⟨cur, h1, h2, _⟩ := h
  refine ⟨cur[j]'(by omega), ?_⟩
  simp only [World.cell?, h1]
  simp [show j < cur.size by omega]
theorem PartRow.frozen {w : World} {g n k : Nat} {fs : List (ByteArray × ByteArray)} (h : PartRow w g n k fs) (j : Nat) : w.frozen? ⟨g, j, none⟩ = false := by
  obtain ⟨cur, h1, _⟩ := h
  simp [World.frozen?, h1]
theorem PartRow.put {w : World} {g n k : Nat} {fs : List (ByteArray × ByteArray)} (h : PartRow w g n k fs) (hk : k < n) : PartRow ((w.setCell ⟨g, k * 2, none⟩ (.string (nameAt fs k))).setCell ⟨g, k * 2 + 1, none⟩ (.string (valAt fs k))) g n (k + 1) fs := by
  obtain ⟨cur, h1, h2, h3⟩ := h
  refine ⟨_, heap_set _ g (k * 2 + 1) _ _ _ _ (heap_set w g (k * 2) _ _ _ _ h1), by simpa using h2, ?_⟩
  intro i hi
  by_cases e : i = k
  · subst e
    refine ⟨?_, ?_⟩
    · rw [Array.getElem?_setIfInBounds_ne (by omega), Array.getElem?_setIfInBounds_self_of_lt (by omega)]
    · rw [Array.getElem?_setIfInBounds_self_of_lt (by simp; omega)]
  · have := h3 i (by omega)
    refine ⟨?_, ?_⟩
    · rw [Array.getElem?_setIfInBounds_ne (by omega), Array.getElem?_setIfInBounds_ne (by omega)]; exact this.1
    · rw [Array.getElem?_setIfInBounds_ne (by omega), Array.getElem?_setIfInBounds_ne (by omega)]; exact this.2
theorem PartRow.owns {w : World} {g n : Nat} {fs : List (ByteArray × ByteArray)} (h : PartRow w g n n fs) (hl : fs.length = n) (hm : n ≤ maxLen) {base : Nat} (hb : base ≤ g) : w.ownsRow base 74 2 (.slice (some ⟨g, 0, none⟩) n n) n (flatF fs) :=
  FieldRow.owns ⟨hl, hb, h.lt, Nat.le_refl _, hm, h⟩

set_option maxHeartbeats 1000000 in
theorem toFieldS_any (B : Nat) (a : Option Addr) (n cap : Nat) (fs : List (ByteArray × ByteArray)) (w : World) (harg : ArgF w B a n fs) (hB : B ≤ w.heap.size) (hn : n ≤ 1048576) :
    Calls Tryz.prog 75 #[.slice a n cap] w fun e w' => ∃ v, e = .returned v ∧ w'.ownsRow w.heap.size 74 2 v n (flatF fs) ∧ Below w.heap.size w w' := by
  obtain ⟨i0, hi, hz0, hz1, hz2⟩ := info_parts info33
  obtain ⟨M, hM⟩ : ∃ M, M = madeCells (Value.agg #[.string ⟨#[]⟩, .string ⟨#[]⟩]).cells (((n : Nat) : Int).toNat * i0.size) := ⟨_, rfl⟩
  have hmk : ∀ W : World, (Instr.makeSlice 24 (.int .i64 (n : Int)) (.int .i64 (n : Int))).run Tryz.prog W = .ok (.slice (some ⟨W.heap.size, 0, none⟩) n n) (W.alloc (.cells M 74)) := fun W => by
    have h := run_make (P := Tryz.prog) W 24 74 i0 (.agg #[.string ⟨#[]⟩, .string ⟨#[]⟩]) Tryz.underlying24 hi hz0 .i64 .i64 (n : Int) (n : Int) (by omega) (by omega) (by rw [hz2]; omega) (by omega)
    rw [← hM] at h
    simpa using h
  have hMs : M.size = n * 2 := by rw [hM, size_madeCells, hz1]; simp
  have hlen := harg.len
  clear hM
  have HP : Hid (PartRow (w.alloc (.cells M 74)) w.heap.size n 0 fs) := ⟨M, heap_alloc_new w _, hMs, fun i h => absurd h (by omega)⟩
  go_enter Tryz.func75, Tryz.ntmps75
  go_wp2
  go_loopw [4] (fun i wr => ∃ k : Nat, k ≤ n ∧ i = .int .i64 (k : Int) ∧ Hid (PartRow wr w.heap.size n k fs) ∧ Below w.heap.size w wr) (fun i _ => n - (intOf i).toNat)
  case atStart => exact ⟨0, Nat.zero_le _, rfl, HP, (Below.refl _ _).alloc (Nat.le_refl _) _⟩
  case round =>
    obtain ⟨k, hk, rfl, hpr, hbw⟩ := hrel
    by_cases hlt : k < n
    · have hlt2 : (k : Int) < (n : Int) := by omega
      obtain ⟨b, off, rfl, hbB, hc1, hc2⟩ := (harg.below (hbw.mono hB)).get k hlt
      obtain ⟨nm, hnm⟩ : ∃ y, y = nameAt fs k := ⟨_, rfl⟩
      obtain ⟨vl, hvl⟩ : ∃ y, y = valAt fs k := ⟨_, rfl⟩
      rw [← hnm] at hc1
      rw [← hvl] at hc2
      have HNM : Hid (nm = nameAt fs k) := hnm
      have HVL : Hid (vl = valAt fs k) := hvl
      clear hnm hvl
      go_wp2_with fail
      refine (toField_any nm vl _).mono ?_
      rintro e w1 ⟨rfl, hb1⟩
      have hpr1 := hpr.out.below hb1 hpr.out.lt
      have hb2 : Below w.heap.size w w1 := hbw.trans (hb1.mono hbw.size)
      obtain ⟨u0, hu0⟩ := hpr1.cell (k * 2) (by omega)
      obtain ⟨u1, hu1⟩ := hpr1.cell (k * 2 + 1) (by omega)
      have f0 := hpr1.frozen (k * 2)
      have f1 := hpr1.frozen (k * 2 + 1)
      have hput := hpr1.put hlt
      rw [← HNM.out, ← HVL.out] at hput
      have HPUT : Hid _ := hput
      clear hput hc1 hc2 hb1
      go_wp2
      go_roundw
      case rel => exact ⟨k + 1, by omega, by go_num, HPUT, (hb2.setCell (Nat.le_refl _) _).setCell (Nat.le_refl _) _⟩
      case measure => simp [intOf]; omega
    · obtain rfl : k = n := by omega
      go_wp2
      go_ret
      exact ⟨_, rfl, hpr.out.owns hlen (by unfold maxLen; omega) (Nat.le_refl _), hbw⟩

set_option maxHeartbeats 1000000 in
theorem eqField_any (nm vl : ByteArray) (w : World) :
    Calls Tryz.prog 117 #[.agg #[.string nm, .string vl], .agg #[.string nm, .string vl]] w fun e w' => e = .returned (.bool true) ∧ Below w.heap.size w w' := by
  go_enter Tryz.func117, Tryz.ntmps117
  go_wp2
  go_ret
  exact ⟨rfl, ((Below.refl _ _).alloc (Nat.le_refl _) _).alloc (by simp) _⟩

set_option maxHeartbeats 2000000 in
theorem eqFieldS_any (v1 v2 : Value) (n b1 b2 : Nat) (fs : List (ByteArray × ByteArray)) (w : World) (h1 : FieldsV w b1 v1 n fs) (h2 : FieldsV w b2 v2 n fs) (hn : n ≤ 2000000) :
    Calls Tryz.prog 78 #[v1, v2] w fun e w' => e = .returned (.bool true) ∧ Below w.heap.size w w' := by
  rcases h1 with ⟨oa, ca, rfl, _, rfl, rfl⟩ | ⟨g1, c1, rfl, hp, r1⟩
  · rcases h2 with ⟨ob, cb, rfl, _, _, _⟩ | ⟨g2, c2, rfl, hp2, _⟩
    · go_enter Tryz.func78, Tryz.ntmps78
      go_wp2
      refine wp_loop_rounds 1 ?_
      rw [rounds_succ]
      go_wp2
      go_ret
      exact ⟨rfl, Below.refl _ _⟩
    · omega
  · rcases h2 with ⟨ob, cb, rfl, _, h0, _⟩ | ⟨g2, c2, rfl, hp2, r2⟩
    · omega
    · go_enter Tryz.func78, Tryz.ntmps78
      go_wp2
      go_loopw [5] (fun i wr => ∃ k : Nat, k ≤ n ∧ i = .int .i64 (k : Int) ∧ Below w.heap.size w wr) (fun i _ => n - (intOf i).toNat)
      case atStart => exact ⟨0, Nat.zero_le _, rfl, Below.refl _ _⟩
      case round =>
        obtain ⟨k, hk, rfl, hbw⟩ := hrel
        by_cases hlt : k < n
        · have hlt2 : (k : Int) < (n : Int) := by omega
          obtain ⟨nm, hnm⟩ : ∃ y, y = nameAt fs k := ⟨_, rfl⟩
          obtain ⟨vl, hvl⟩ : ∃ y, y = valAt fs k := ⟨_, rfl⟩
          have ha := (r1.below hbw r1.lt).name k hlt
          have hb := (r1.below hbw r1.lt).val k hlt
          have hc := (r2.below hbw r2.lt).name k hlt
          have hd := (r2.below hbw r2.lt).val k hlt
          rw [← hnm] at ha hc
          rw [← hvl] at hb hd
          have HA : Hid (∀ w0 w1, Below wr.heap.size wr w0 → Below w0.heap.size w0 w1 → (w1.cell? ⟨g1, k * 2, none⟩ = some (.string nm) ∧ w1.cell? ⟨g1, k * 2 + 1, none⟩ = some (.string vl) ∧ w1.cell? ⟨g2, k * 2, none⟩ = some (.string nm) ∧ w1.cell? ⟨g2, k * 2 + 1, none⟩ = some (.string vl)) ∧ Below wr.heap.size wr w1) := fun w0 w1 h h' => by
            have hx := h.trans (h'.mono h.size)
            have hy := hbw.trans (hx.mono hbw.size)
            have a1 := (r1.below hy r1.lt).name k hlt
            have a2 := (r1.below hy r1.lt).val k hlt
            have a3 := (r2.below hy r2.lt).name k hlt
            have a4 := (r2.below hy r2.lt).val k hlt
            rw [← hnm] at a1 a3
            rw [← hvl] at a2 a4
            exact ⟨⟨a1, a2, a3, a4⟩, hx⟩
          clear hnm hvl
          go_wp2
          go_region_held3 (fun w' => w'.cell? ⟨g1, k * 2, none⟩ = some (.string nm) ∧ w'.cell? ⟨g1, k * 2 + 1, none⟩ = some (.string vl) ∧ w'.cell? ⟨g2, k * 2, none⟩ = some (.string nm) ∧ w'.cell? ⟨g2, k * 2 + 1, none⟩ = some (.string vl)) (first | assumption | go_keep) (first | (go_at_call 117; refine (eqField_any _ _ _).mono ?_; rintro e w1 ⟨rfl, hb1⟩; obtain ⟨hcc, hbx⟩ := HA.out _ w1 ((Below.refl _ wr).drew) hb1))
          go_wp2
          go_roundw
          case rel => exact ⟨k + 1, by omega, by go_num, hbw.trans (hbx.mono hbw.size)⟩
          case measure => simp [intOf]; omega
        · go_wp2
          go_ret
          exact ⟨rfl, hbw⟩

theorem nameAt_set (fs : List (ByteArray × ByteArray)) (k j : Nat) (p : ByteArray × ByteArray) (hk : k < fs.length) : nameAt (fs.set k p) j = (if j = k then p.1 else nameAt fs j) ∧ valAt (fs.set k p) j = (if j = k then p.2 else valAt fs j) := by
  unfold nameAt valAt
  rw [List.getD_eq_getElem?_getD, List.getD_eq_getElem?_getD]
  by_cases e : j = k
  · subst e
    rw [if_pos rfl, if_pos rfl, List.getElem?_set_self (by omega)]
    exact ⟨rfl, rfl⟩
  · rw [if_neg e, if_neg e, List.getElem?_set_ne (by omega)]
    exact ⟨rfl, rfl⟩
theorem heap_setCell_congr {w w' : World} {g : Nat} (h : w'.heap[g]? = w.heap[g]?) (o : Nat) (v : Value) : (w'.setCell ⟨g, o, none⟩ v).heap[g]? = (w.setCell ⟨g, o, none⟩ v).heap[g]? := by
  simp [World.setCell, Array.getElem?_modify, h]
/-- One field of a row stored anew. -/
theorem FieldRow.set {base : Nat} {w : World} {g n cap : Nat} {fs : List (ByteArray × ByteArray)} (h : FieldRow base w g n cap fs) (k : Nat) (hk : k < n) (a b : ByteArray) (W : World) (hW : W.heap[g]? = ((w.setCell ⟨g, k * 2, none⟩ (.string a)).setCell ⟨g, k * 2 + 1, none⟩ (.string b)).heap[g]?) (hsz : w.heap.size ≤ W.heap.size) : FieldRow base W g n cap (fs.set k (a, b)) := by
  have hl := h.len; have hle := h.le
  obtain ⟨cur, h1, h2, h3⟩ := h.heap
  have hlt := h.lt
  refine ⟨by simp [hl], h.base, by omega, h.le, h.mx, (cur.setIfInBounds (k * 2) (.string a)).setIfInBounds (k * 2 + 1) (.string b), ?_, by simpa using h2, ?_⟩
  · rw [hW]; exact heap_set _ g (k * 2 + 1) _ _ _ _ (heap_set w g (k * 2) _ _ _ _ h1)
  · intro i hi
    have hs := nameAt_set fs k i (a, b) (by omega)
    rw [hs.1, hs.2]
    by_cases e : i = k
    · subst e
      rw [if_pos rfl, if_pos rfl]
      refine ⟨?_, ?_⟩
      · rw [Array.getElem?_setIfInBounds_ne (by omega), Array.getElem?_setIfInBounds_self_of_lt (by omega)]
      · rw [Array.getElem?_setIfInBounds_self_of_lt (by simp; omega)]
    · rw [if_neg e, if_neg e]
      have := h3 i hi
      refine ⟨?_, ?_⟩
      · rw [Array.getElem?_setIfInBounds_ne (by omega), Array.getElem?_setIfInBounds_ne (by omega)]; exact this.1
      · rw [Array.getElem?_setIfInBounds_ne (by omega), Array.getElem?_setIfInBounds_ne (by omega)]; exact this.2

end Go.Proofs.YtmcmeeibogkpaaaGreatDoorR

namespace Go.Proofs.YtmcmeeibogkpaaaGreatDoorR
open Go.RowKit
open Go.Lib hiding intOf

/-- Texts short enough for any walk. -/
def WalkF (n : Nat) (fs : List (ByteArray × ByteArray)) : Prop := ∀ i, i < n → (nameAt fs i).size ≤ maxLen ∧ (valAt fs i).size ≤ maxLen

/-- A block that was laid last stands behind every call that keeps what was there. -/
theorem kept_new {w W : World} {o : Obj} (h : Below (w.alloc o).heap.size (w.alloc o) W) : W.heap[w.heap.size]? = some o := by
  rw [h.block _ (by simp)]; exact heap_alloc_new w _
theorem below_new {w W : World} {o : Obj} (h : Below (w.alloc o).heap.size (w.alloc o) W) : Below w.heap.size w W :=
  ((Below.refl _ w).alloc (Nat.le_refl _) o).trans (h.mono (by simp))
set_option maxHeartbeats 400000 in
theorem l1In_any (x lo hi : Int) (w : World) :
    Calls Tryz.prog 60 #[.int .i64 x, .int .i64 lo, .int .i64 hi] w fun e w' => e = .returned (.bool (decide (lo ≤ x ∧ x ≤ hi))) ∧ w' = w := by
  by_cases h1 : lo ≤ x
  · by_cases h2 : x ≤ hi
    · go_enter Tryz.func60, Tryz.ntmps60
      go_wp2
      go_ret
      exact ⟨by simp [h1, h2], rfl⟩
    · go_enter Tryz.func60, Tryz.ntmps60
      go_wp2
      go_ret
      exact ⟨by simp [h2], rfl⟩
  · go_enter Tryz.func60, Tryz.ntmps60
    go_wp2
    go_ret
    exact ⟨by simp; omega, rfl⟩

set_option maxHeartbeats 1000000 in
theorem specRespOk_any (st : Int) (v : Value) (b : ByteArray) (n base : Nat) (fs : List (ByteArray × ByteArray)) (w : World) (hv : FieldsV w base v n fs) (hn : n ≤ 1073741824) (hsz : WalkF n fs) (hb : b.size ≤ maxLen) :
    Calls Tryz.prog 41 #[.agg #[.int .i64 st, v, .string b]] w fun e w' => BoolIs (RespP st fs b) w e w' := by
  obtain ⟨oa, cap, rfl, _⟩ := hv.slice
  obtain ⟨r, hr⟩ : ∃ r, r = w.heap.size := ⟨_, rfl⟩
  have HR : Hid (∀ W, Below (w.alloc (.cells #[.int .i64 st, .slice oa n cap, .string b] 29)).heap.size (w.alloc (.cells #[.int .i64 st, .slice oa n cap, .string b] 29)) W → (W.cell? ⟨r, 1, none⟩ = some (.slice oa n cap) ∧ W.cell? ⟨r, 2, none⟩ = some (.string b)) ∧ FieldsV W base (.slice oa n cap) n fs ∧ Below w.heap.size w W) := fun W h => by
    have hh := kept_new h
    rw [← hr] at hh
    exact ⟨⟨by simp [World.cell?, hh], by simp [World.cell?, hh]⟩, hv.below (below_new h), below_new h⟩
  have HSZ : Hid (WalkF n fs) := hsz
  unfold maxLen at hb
  clear hv hsz
  go_enter Tryz.func41, Tryz.ntmps41
  go_wp2_with fail
  refine (l1In_any st 100 599 _).mono ?_
  rintro e w1 ⟨rfl, hw1⟩
  have hb1 : Below (w.alloc (.cells #[.int .i64 st, .slice oa n cap, .string b] 29)).heap.size (w.alloc (.cells #[.int .i64 st, .slice oa n cap, .string b] 29)) w1 := by rw [hw1]; exact Below.refl _ _
  clear hw1
  rw [← hr]
  obtain ⟨⟨c2, c3⟩, hv1, hbw1⟩ := HR.out w1 hb1
  have HV1 : Hid (FieldsV w1 base (.slice oa n cap) n fs) := hv1
  clear hv1
  by_cases hm : 100 ≤ st ∧ st ≤ 599
  · have e1 : decide (100 ≤ st ∧ st ≤ 599) = true := by simpa using hm
    have HM : Hid (100 ≤ st ∧ st ≤ 599) := hm
    rw [e1]
    clear hr hm e1
    go_wp2_with fail
    refine (specFieldsOk_any _ n base fs _ HV1.out hn HSZ.out).mono ?_
    rintro e w3 ⟨b2, rfl, kb2, bb3⟩
    have hb3 := hb1.trans (bb3.mono hb1.size)
    clear c2 c3 bb3 hb1 hbw1
    obtain ⟨⟨c2, c3⟩, _, hbw3⟩ := HR.out w3 hb3
    cases b2
    · have HF : Hid (¬ RespP st fs b) := fun h => by have := kb2.2 h.2.1; cases this
      clear kb2
      go_wp2_with fail
      go_ret
      exact BoolIs.no HF.out hbw3
    · have HT2 : Hid (FldsOk fs) := kb2.1 rfl
      clear kb2
      by_cases h120 : (b.size : Int) ≤ 120
      · have HY : Hid (RespP st fs b) := ⟨HM.out, HT2.out, by omega⟩
        go_wp2_with fail
        go_ret
        exact BoolIs.yes HY.out hbw3
      · have HF : Hid (¬ RespP st fs b) := fun h => by have := h.2.2; omega
        have hd : decide ((b.size : Int) ≤ 120) = false := by simpa using h120
        go_wp2_with fail
        go_ret
        exact BoolIs.no HF.out hbw3
  · have e1 : decide (100 ≤ st ∧ st ≤ 599) = false := by simpa using hm
    have HF : Hid (¬ RespP st fs b) := fun h => hm h.1
    rw [e1]
    clear hr hm e1
    go_wp2_with fail
    go_ret
    exact BoolIs.no HF.out hbw1

end Go.Proofs.YtmcmeeibogkpaaaGreatDoorR

namespace Go.Proofs.YtmcmeeibogkpaaaGreatDoorR
open Go.RowKit
open Go.Lib hiding intOf

set_option maxHeartbeats 400000 in
theorem l1Min_any (a b : Int) (w : World) :
    Calls Tryz.prog 130 #[.int .i64 a, .int .i64 b] w fun e w' => e = .returned (.int .i64 (min a b)) ∧ w' = w := by
  by_cases h : a < b
  · have HE : Hid (min a b = a) := by show _ = _; omega
    go_enter Tryz.func130, Tryz.ntmps130
    go_wp2
    go_ret
    exact ⟨by rw [HE.out]; rfl, rfl⟩
  · have HE : Hid (min a b = b) := by show _ = _; omega
    go_enter Tryz.func130, Tryz.ntmps130
    go_wp2
    go_ret
    exact ⟨by rw [HE.out]; rfl, rfl⟩
set_option maxHeartbeats 400000 in
theorem l1Max_any (a b : Int) (w : World) :
    Calls Tryz.prog 131 #[.int .i64 a, .int .i64 b] w fun e w' => e = .returned (.int .i64 (max a b)) ∧ w' = w := by
  by_cases h : b < a
  · have HE : Hid (max a b = a) := by show _ = _; omega
    go_enter Tryz.func131, Tryz.ntmps131
    go_wp2
    go_ret
    exact ⟨by rw [HE.out]; rfl, rfl⟩
  · have HE : Hid (max a b = b) := by show _ = _; omega
    go_enter Tryz.func131, Tryz.ntmps131
    go_wp2
    go_ret
    exact ⟨by rw [HE.out]; rfl, rfl⟩

end Go.Proofs.YtmcmeeibogkpaaaGreatDoorR

namespace Go.Proofs.YtmcmeeibogkpaaaGreatDoorR
open Go.RowKit
open Go.Lib hiding intOf

theorem dgF_len : ∀ (f n : Nat), (dgF f n).length ≤ f
  | 0, n => by simp [dgF]
  | f + 1, n => by
    by_cases h : n = 0
    · rw [h, dgF_zero]; simp
    · rw [dgF_pos f n h]
      have := dgF_len f (n / 10)
      simp; omega
theorem numText_size (n : Nat) : (numText n).size ≤ 8 := by
  have : (numText n).size = (numL n).length := by simp [numText, ByteArray.size]
  rw [this]
  unfold numL
  split
  · simp
  · split
    · simp
    · exact dgF_len 8 n
end Go.Proofs.YtmcmeeibogkpaaaGreatDoorR

namespace Go.Proofs.YtmcmeeibogkpaaaGreatDoorR
open Go.RowKit
open Go.Lib hiding intOf

theorem flatF_append (a b : List (ByteArray × ByteArray)) : flatF (a ++ b) = flatF a ++ flatF b := by simp [flatF]
theorem flatF_one (nm vl : ByteArray) : flatF [(nm, vl)] = [.string nm, .string vl] := rfl
theorem two_text (a b : ByteArray) : ∀ u ∈ [Value.string a, Value.string b], u.oneCell' = true := by
  intro u hu
  simp at hu
  rcases hu with rfl | rfl <;> rfl

/-- A call answers a list of these fields in memory of its own, and turns nothing that was there. -/
def RowF (fs : List (ByteArray × ByteArray)) (w : World) (e : Ending) (w' : World) : Prop :=
  ∃ v, e = .returned v ∧ w'.ownsRow w.heap.size 74 2 v fs.length (flatF fs) ∧ Below w.heap.size w w'

def putF (fs : List (ByteArray × ByteArray)) (name value : ByteArray) : List (ByteArray × ByteArray) :=
  if atF fs name < fs.length then fs.set (atF fs name) (nameAt fs (atF fs name), value) else fs ++ [(name, value)]
/-- One value of a row stored anew. -/
theorem FieldRow.setVal {base : Nat} {w : World} {g n cap : Nat} {fs : List (ByteArray × ByteArray)} (h : FieldRow base w g n cap fs) (k : Nat) (hk : k < n) (b : ByteArray) : FieldRow base (w.setCell ⟨g, k * 2 + 1, none⟩ (.string b)) g n cap (fs.set k (nameAt fs k, b)) := by
  have hl := h.len; have hle := h.le
  obtain ⟨cur, h1, h2, h3⟩ := h.heap
  refine ⟨by simp [hl], h.base, by simpa using h.lt, h.le, h.mx, cur.setIfInBounds (k * 2 + 1) (.string b), heap_set w g (k * 2 + 1) _ _ _ _ h1, by simpa using h2, ?_⟩
  intro i hi
  have hs := nameAt_set fs k i (nameAt fs k, b) (by omega)
  rw [hs.1, hs.2]
  have h4 := h3 i hi
  by_cases e : i = k
  · subst e
    rw [if_pos rfl, if_pos rfl]
    refine ⟨?_, ?_⟩
    · rw [Array.getElem?_setIfInBounds_ne (by omega)]; exact h4.1
    · rw [Array.getElem?_setIfInBounds_self_of_lt (by omega)]
  · rw [if_neg e, if_neg e]
    refine ⟨?_, ?_⟩
    · rw [Array.getElem?_setIfInBounds_ne (by omega)]; exact h4.1
    · rw [Array.getElem?_setIfInBounds_ne (by omega)]; exact h4.2
/-- The cells of a row, one behind the other. -/
theorem FieldRow.cells {base : Nat} {w : World} {g n cap : Nat} {fs : List (ByteArray × ByteArray)} (h : FieldRow base w g n cap fs) : ∀ j u, (flatF fs)[j]? = some u → w.cell? ((⟨g, 0, none⟩ : Addr).add j) = some u := by
  intro j u hj
  have hl := h.len
  have hjl : j < fs.length * 2 := by
    rw [← flatF_len]
    exact (List.getElem?_eq_some_iff.1 hj).1
  have e0 : (⟨g, 0, none⟩ : Addr).add j = ⟨g, j, none⟩ := by
    unfold Addr.add; split <;> simp_all
  rw [e0]
  have hf := flatF_get fs (j / 2) (by omega)
  rcases Nat.mod_two_eq_zero_or_one j with e | e
  · have e2 : j / 2 * 2 = j := by omega
    have hc := h.name (j / 2) (by omega)
    rw [e2] at hf hc
    rw [hf.1] at hj
    cases hj
    exact hc
  · have e2 : j / 2 * 2 + 1 = j := by omega
    have hc := h.val (j / 2) (by omega)
    rw [e2] at hf hc
    rw [hf.2] at hj
    cases hj
    exact hc
theorem flat_one (fs : List (ByteArray × ByteArray)) : ∀ u ∈ flatF fs, u.oneCell' = true := by
  intro u hu
  simp only [flatF, List.mem_flatMap] at hu
  obtain ⟨f, _, hf⟩ := hu
  exact two_text f.1 f.2 u hf

/-- What 'append' reads of a list: nil, or cells behind an address. -/
theorem FieldsV.src {w : World} {base n : Nat} {v : Value} {fs : List (ByteArray × ByteArray)} (h : FieldsV w base v n fs) :
    (v = .slice none 0 0 ∧ n = 0 ∧ fs = []) ∨ ∃ ad cap, v = .slice (some ad) n cap ∧ ∀ j u, (flatF fs)[j]? = some u → w.cell? (ad.add j) = some u := by
  rcases h with ⟨oa, cap, rfl, h0, rfl, rfl⟩ | ⟨g, cap, rfl, _, row⟩
  · cases oa with
    | none => exact .inl ⟨by rw [h0 rfl], rfl, rfl⟩
    | some ad => exact .inr ⟨ad, cap, rfl, fun j u hj => by simp [flatF] at hj⟩
  · exact .inr ⟨_, cap, rfl, row.cells⟩

set_option maxHeartbeats 2000000 in
set_option maxRecDepth 100000 in
theorem specPut_any (v : Value) (n base : Nat) (fs : List (ByteArray × ByteArray)) (name value : ByteArray) (w : World) (hv : FieldsV w base v n fs) (hn : n ≤ 2000000) :
    Calls Tryz.prog 47 #[v, .string name, .string value] w fun e w' => RowF (putF fs name value) w e w' := by
  obtain ⟨i0, hi, hz0, hz1, hz2⟩ := info_parts info33
  have hl := hv.len
  have h63a : 0 + n ≤ maxLen := by unfold maxLen; omega
  have h47a : (0 + n) * 32 ≤ 140737488355328 := by omega
  have hown0 : (w.alloc (.cells #[] 74)).ownsRow w.heap.size 74 2 (.slice (some ⟨w.heap.size, 0, none⟩) 0 0) 0 [] := ⟨rfl, .inr ⟨w.heap.size, 0, #[], rfl, Nat.le_refl _, heap_alloc_new w _, Nat.le_refl _, Nat.zero_le _, rfl, rfl⟩⟩
  have hbs0 : w.heap.size ≤ (w.alloc (.cells #[] 74)).heap.size := by simp
  have hv1 := hv.below ((Below.refl _ w).alloc (Nat.le_refl _) (.cells #[] 74))
  rcases hv1.src with ⟨rfl, rfl, rfl⟩ | ⟨ad, cap, rfl, hcs⟩
  · have hP : Hid (putF [] name value = [(name, value)]) := rfl
    have hI : Hid (atI [] name = -1) := rfl
    have hb2 : Below w.heap.size w (w.alloc (.cells #[] 74)) := (Below.refl _ w).alloc (Nat.le_refl _) _
    have HBS : ∀ o, w.heap.size ≤ ((w.alloc (.cells #[] 74)).alloc o).heap.size := fun o => by simp; omega
    clear hv
    go_enter Tryz.func47, Tryz.ntmps47
    go_wp2_with (at_builtin; refine wpList_append_own_none rfl _ _ 24 rfl w.heap.size 74 i0 2 Tryz.underlying24 hi _ _ _ rfl hown0 rfl ?_)
    go_wp2_with fail
    refine (l2At_any _ 0 base [] name _ hv1 (by omega)).mono ?_
    rintro e w3 ⟨rfl, hw3⟩
    rw [← hw3] at hown0 hb2 HBS
    clear hv1 hbs0 hw3
    rw [hI.out]
    have h63 : 0 + 1 ≤ maxLen := by unfold maxLen; omega
    have h47 : (0 + 1) * 32 ≤ 140737488355328 := by omega
    go_wp2_with (at_builtin; refine wpList_append_own _ rfl _ _ 24 rfl w.heap.size 74 i0 (.agg #[.string ⟨#[]⟩, .string ⟨#[]⟩]) 2 32 Tryz.underlying24 hi hz0 hz1 hz2 rfl (by decide) _ _ _ rfl (hown0.alloc _) ⟨w3.heap.size, 0, none⟩ 1 1 [.string name, .string value] rfl rfl (cell_two_new _ _ _ _) (two_text _ _) h63 h47 (HBS _) ?_)
    intro v4 w4 hown4 hgrow4 _
    have hb4 : Below w.heap.size w w4 := (hb2.alloc hb2.size _).grown hgrow4 (HBS _) (fun g hg => owns_ge hown0 hg)
    clear hgrow4 HBS
    go_wp2
    go_ret
    exact ⟨_, rfl, by rw [hP.out, flatF_one]; simpa using hown4, hb4⟩
  · have hnl : (flatF fs).length = n * 2 := by rw [flatF_len, hl]
    go_enter Tryz.func47, Tryz.ntmps47
    go_wp2_with (at_builtin; refine wpList_append_own _ rfl _ _ 24 rfl w.heap.size 74 i0 (.agg #[.string ⟨#[]⟩, .string ⟨#[]⟩]) 2 32 Tryz.underlying24 hi hz0 hz1 hz2 rfl (by decide) _ _ _ rfl hown0 ad n cap (flatF fs) rfl hnl hcs (flat_one _) h63a h47a hbs0 ?_)
    intro v1 w2 hown1 hgrow _
    have hb2 : Below w.heap.size w w2 := ((Below.refl _ w).alloc (Nat.le_refl _) _).grown hgrow hbs0 (fun g hg => owns_ge hown0 hg)
    have hv2 := hv.below hb2
    have hown2 : w2.ownsRow w.heap.size 74 2 v1 n (flatF fs) := by simpa using hown1
    clear hgrow hown1 hown0 hbs0 hv1 hcs hv
    by_cases hin : atF fs name < fs.length
    · have hI : Hid (atI fs name = (atF fs name : Int)) := by show _ = _; unfold atI; rw [if_pos hin]
      have hP : Hid (putF fs name value = fs.set (atF fs name) (nameAt fs (atF fs name), value)) := by show _ = _; unfold putF; rw [if_pos hin]
      obtain ⟨k, hk⟩ : ∃ k, k = atF fs name := ⟨_, rfl⟩
      rw [← hk] at hI hP hin
      clear hk
      go_wp2_with fail
      refine (l2At_any _ n base fs name _ hv2 (by omega)).mono ?_
      rintro e w3 ⟨rfl, rfl⟩
      rw [hI.out]
      rcases frow_form hown2 with ⟨_, _, _, _, h0, _⟩ | ⟨g1, c1, rfl, _, row1⟩
      · omega
      have hset := row1.setVal k (by omega) value
      have hc := row1.val k (by omega)
      have hf := row1.frozen (k * 2 + 1)
      have hlt : (k : Int) < (n : Int) := by omega
      have hb3 := hb2.setCell (p := ⟨g1, k * 2 + 1, none⟩) row1.base (.string value)
      clear hv2 hown2
      go_wp2
      go_ret
      exact ⟨_, rfl, by rw [hP.out]; simpa [hl] using hset.owns, hb3⟩
    · have hI : Hid (atI fs name = -1) := by show _ = _; unfold atI; rw [if_neg hin]
      have hP : Hid (putF fs name value = fs ++ [(name, value)]) := by show _ = _; unfold putF; rw [if_neg hin]
      clear hin
      go_wp2_with fail
      refine (l2At_any _ n base fs name _ hv2 (by omega)).mono ?_
      rintro e w3 ⟨rfl, rfl⟩
      rw [hI.out]
      have h63 : n + 1 ≤ maxLen := by unfold maxLen; omega
      have h47 : (n + 1) * 32 ≤ 140737488355328 := by omega
      have HBS : ∀ o, w.heap.size ≤ (w3.alloc o).heap.size := fun o => by have := hb2.size; simp; omega
      go_wp2_with (at_builtin; refine wpList_append_own _ rfl _ _ 24 rfl w.heap.size 74 i0 (.agg #[.string ⟨#[]⟩, .string ⟨#[]⟩]) 2 32 Tryz.underlying24 hi hz0 hz1 hz2 rfl (by decide) _ _ _ rfl (hown2.alloc _) ⟨w3.heap.size, 0, none⟩ 1 1 [.string name, .string value] rfl rfl (cell_two_new _ _ _ _) (two_text _ _) h63 h47 (HBS _) ?_)
      intro v4 w4 hown4 hgrow4 _
      have hb4 : Below w.heap.size w w4 := (hb2.alloc hb2.size _).grown hgrow4 (HBS _) (fun g hg => owns_ge hown2 hg)
      clear hgrow4 HBS
      go_wp2
      go_ret
      exact ⟨_, rfl, by rw [hP.out, flatF_append, flatF_one]; simpa [hl] using hown4, hb4⟩

end Go.Proofs.YtmcmeeibogkpaaaGreatDoorR

namespace Go.Proofs.YtmcmeeibogkpaaaGreatDoorR
open Go.RowKit
open Go.Lib hiding intOf

theorem slice_of_owns {w : World} {base : Nat} {t : TypeId} {size : Nat} {v : Value} {n : Nat} {xs : List Value} (h : w.ownsRow base t size v n xs) : ∃ oa cp, v = .slice oa n cp := by
  rcases h.2 with ⟨rfl, rfl⟩ | ⟨g, cap, cur, rfl, _⟩
  · exact ⟨none, 0, rfl⟩
  · exact ⟨_, cap, rfl⟩
/-- The four cells of a request's memory, written. -/
def fourSet (w : World) (r : Nat) (a b c d : Value) : World := (((w.setCell ⟨r, 0, none⟩ a).setCell ⟨r, 1, none⟩ b).setCell ⟨r, 2, none⟩ c).setCell ⟨r, 3, none⟩ d
theorem four_facts {W : World} {R : Nat} {a b c d : Value} {t : TypeId} (h : W.heap[R]? = some (.cells #[a, b, c, d] t)) :
    (W.cell? ⟨R, 0, none⟩ = some a ∧ W.cell? ⟨R, 1, none⟩ = some b ∧ W.cell? ⟨R, 2, none⟩ = some c ∧ W.cell? ⟨R, 3, none⟩ = some d) ∧ W.frozen? ⟨R, 0, none⟩ = false ∧ W.frozen? ⟨R, 1, none⟩ = false ∧ W.frozen? ⟨R, 2, none⟩ = false ∧ W.frozen? ⟨R, 3, none⟩ = false := by
  refine ⟨⟨?_, ?_, ?_, ?_⟩, ?_, ?_, ?_, ?_⟩ <;> simp [World.cell?, World.frozen?, h]
theorem four_set {W : World} {R : Nat} {a b c d : Value} {t : TypeId} (h : W.heap[R]? = some (.cells #[a, b, c, d] t)) (a' b' c' d' : Value) : (fourSet W R a' b' c' d').heap[R]? = some (.cells #[a', b', c', d'] t) := by
  have := heap_set _ R 3 _ _ _ d' (heap_set _ R 2 _ _ _ c' (heap_set _ R 1 _ _ _ b' (heap_set W R 0 _ _ _ a' h)))
  simpa [fourSet] using this
theorem below_four {w W : World} {B R : Nat} {a b c d : Value} (h : Below B w W) (hR : B ≤ R) : Below B w (fourSet W R a b c d) :=
  (((h.setCell (p := ⟨R, 0, none⟩) hR _).setCell (p := ⟨R, 1, none⟩) hR _).setCell (p := ⟨R, 2, none⟩) hR _).setCell (p := ⟨R, 3, none⟩) hR _

end Go.Proofs.YtmcmeeibogkpaaaGreatDoorR

namespace Go.Proofs.YtmcmeeibogkpaaaGreatDoorR
open Go.RowKit
open Go.Lib hiding intOf

theorem owns_wide {w : World} {B base : Nat} {e : TypeId} {size : Nat} {v : Value} {n : Nat} {xs : List Value} (h : w.ownsRow base e size v n xs) (hB : B ≤ base) : w.ownsRow B e size v n xs := by
  obtain ⟨hl, hv⟩ := h
  refine ⟨hl, ?_⟩
  rcases hv with h0 | ⟨g, cap, cur, h1, h2, h3⟩
  · exact .inl h0
  · exact .inr ⟨g, cap, cur, h1, Nat.le_trans hB h2, h3⟩
theorem owns_same {w w' : World} {base : Nat} {e : TypeId} {size : Nat} {v : Value} {n : Nat} {xs : List Value} (h : w.ownsRow base e size v n xs) (hs : ∀ j, v.ownBlock = some j → w'.heap[j]? = w.heap[j]?) : w'.ownsRow base e size v n xs := by
  obtain ⟨hl, hv⟩ := h
  refine ⟨hl, ?_⟩
  rcases hv with h0 | ⟨g, cap, cur, rfl, h2, h3, h4⟩
  · exact .inl h0
  · exact .inr ⟨g, cap, cur, rfl, h2, by rw [hs g rfl]; exact h3, h4⟩

theorem szTo_mono (fs : List (ByteArray × ByteArray)) (k : Nat) : ∀ d, szTo fs k ≤ szTo fs (k + d) := by
  intro d
  induction d with
  | zero => exact Nat.le_refl _
  | succ d ih => rw [show k + (d + 1) = (k + d) + 1 by omega, szTo]; omega
theorem szTo_get (fs : List (ByteArray × ByteArray)) (n i : Nat) (hi : i < n) : (nameAt fs i).size ≤ szTo fs n ∧ (valAt fs i).size ≤ szTo fs n := by
  have h := szTo_mono fs (i + 1) (n - (i + 1))
  rw [show i + 1 + (n - (i + 1)) = n by omega, szTo] at h
  omega
theorem addr_add (b off y : Nat) : (⟨b, off, none⟩ : Addr).add y = ⟨b, off + y, none⟩ := by
  unfold Addr.add; split <;> simp_all
def txt : Value → ByteArray
  | .string s => s
  | _ => ⟨#[]⟩
theorem nameAt_range (f g : Nat → ByteArray) (n i : Nat) (hi : i < n) : nameAt ((List.range n).map fun j => (f j, g j)) i = f i ∧ valAt ((List.range n).map fun j => (f j, g j)) i = g i := by
  unfold nameAt valAt
  rw [List.getD_eq_getElem?_getD, List.getElem?_map, List.getElem?_range hi]
  exact ⟨rfl, rfl⟩
/-- A list of fields among the arguments: what it holds. -/
theorem openFields {H : Type} {enc : TypeId × Value → H} {W : World} {fuel : Nat} {a : Option Addr} {n cap : Nat} {x : DataW H × List MemPlace} (h : DataW.trod enc Tryz.prog W 0 (fun _ => true) true fuel 48 [.slice a n cap] = some x) :
    ∃ fs, ArgF W W.heap.size a n fs ∧ n ≤ maxLen ∧ ∀ i, i < n → (nameAt fs i).size ≤ maxLen ∧ (valAt fs i).size ≤ maxLen := by
  rcases Go.Deep.open_slice_pairs Tryz.underlying48 Tryz.underlying139 (by kernel_rfl) rfl rfl (by kernel_rfl) (by kernel_rfl) h with ⟨hcs, _⟩ | ⟨ad, len, c, m, q, V0, V1, D0, D1, P0, P1, hcs, _, hl, hm, hmm, _, hx⟩
  · simp at hcs
    obtain ⟨rfl, rfl, rfl⟩ := hcs
    exact ⟨[], ⟨rfl, fun i hi => absurd hi (by omega)⟩, Nat.zero_le _, fun i hi => absurd hi (by omega)⟩
  · simp at hcs
    obtain ⟨rfl, rfl, rfl⟩ := hcs
    have hm2 : m = cap := by simpa using hmm
    have each : ∀ i, i < n → V0 i = .string (txt (V0 i)) ∧ V1 i = .string (txt (V1 i)) ∧ (txt (V0 i)).size ≤ maxLen ∧ (txt (V1 i)).size ≤ maxLen := fun i hi => by
      obtain ⟨_, _, h3, h4⟩ := hx i (by omega)
      obtain ⟨s, e1, _, e3⟩ := DataW.trod_string Tryz.underlying9 h3
      obtain ⟨t, f1, _, f3⟩ := DataW.trod_string Tryz.underlying9 h4
      have e1' : V0 i = .string s := by simpa using e1
      have f1' : V1 i = .string t := by simpa using f1
      rw [e1', f1']
      exact ⟨rfl, rfl, e3, f3⟩
    refine ⟨(List.range n).map fun j => (txt (V0 j), txt (V1 j)), ⟨by simp, fun i hi => ?_⟩, by omega, fun i hi => ?_⟩
    · obtain ⟨c1, c2, _, _⟩ := hx i (by omega)
      obtain ⟨c3, _, _, _⟩ := hx 0 (by omega)
      have hsp : ad.spot = none := by
        have := World.cell?_spot c3
        simpa [Addr.add] using this
      obtain ⟨b, off, sp⟩ := ad
      simp only at hsp
      subst hsp
      rw [addr_add] at c1 c2
      obtain ⟨v0, v1, _, _⟩ := each i hi
      obtain ⟨r0, r1⟩ := nameAt_range (fun j => txt (V0 j)) (fun j => txt (V1 j)) n i hi
      rw [r0, r1]
      have hlt := World.block_lt_of_cell? W _ c1
      rw [v0] at c1
      rw [v1] at c2
      exact ⟨b, off, rfl, hlt, c1, c2⟩
    · obtain ⟨r0, r1⟩ := nameAt_range (fun j => txt (V0 j)) (fun j => txt (V1 j)) n i hi
      rw [r0, r1]
      exact (each i hi).2.2

end Go.Proofs.YtmcmeeibogkpaaaGreatDoorR

namespace Go.Proofs.YtmcmeeibogkpaaaGreatDoorR
open Go.RowKit
open Go.Lib hiding intOf

/-- The name of the field that says it. -/
def ccName : ByteArray := ⟨#[99, 97, 99, 104, 101, 45, 99, 111, 110, 116, 114, 111, 108]⟩

end Go.Proofs.YtmcmeeibogkpaaaGreatDoorR

namespace Go.Proofs.YtmcmeeibogkpaaaGreatDoorR
open Go.RowKit
open Go.Lib hiding intOf

def tagName : ByteArray := ⟨#[101, 116, 97, 103]⟩
def inmName : ByteArray := ⟨#[105, 102, 45, 110, 111, 110, 101, 45, 109, 97, 116, 99, 104]⟩
/-- Each field put. -/
def putAll (fs gs : List (ByteArray × ByteArray)) : List (ByteArray × ByteArray) := gs.foldl (fun l f => putF l f.1 f.2) fs
open Classical in
noncomputable def mergeF (st : Int) (fs : List (ByteArray × ByteArray)) (b : ByteArray) (gs : List (ByteArray × ByteArray)) : List (ByteArray × ByteArray) :=
  if RespP st (putAll fs gs) b then putAll fs gs else fs
def SameP (fs gs : List (ByteArray × ByteArray)) : Prop := getB fs inmName = true ∧ getB gs tagName = true ∧ getV fs inmName = getV gs tagName
open Classical in
noncomputable def shortF (gs : List (ByteArray × ByteArray)) : List (ByteArray × ByteArray) := gs.filter fun f => decide (f.1 = tagName ∨ f.1 = varyName ∨ f.1 = ccName)

theorem putF_le (fs : List (ByteArray × ByteArray)) (name value : ByteArray) : (putF fs name value).length ≤ fs.length + 1 := by
  unfold putF
  split
  · rw [List.length_set]; omega
  · rw [List.length_append]; simp
theorem putAll_le (fs gs : List (ByteArray × ByteArray)) : (putAll fs gs).length ≤ fs.length + gs.length := by
  unfold putAll
  induction gs generalizing fs with
  | nil => simp
  | cons f r ih =>
    rw [List.foldl_cons, List.length_cons]
    have h1 := ih (putF fs f.1 f.2)
    have h2 := putF_le fs f.1 f.2
    omega
theorem putAll_snoc (fs gs : List (ByteArray × ByteArray)) (f : ByteArray × ByteArray) : putAll fs (gs ++ [f]) = putF (putAll fs gs) f.1 f.2 := by simp [putAll]
theorem take_field (gs : List (ByteArray × ByteArray)) (k : Nat) (h : k < gs.length) : gs.take (k + 1) = gs.take k ++ [(nameAt gs k, valAt gs k)] := by
  rw [List.take_add_one, List.getElem?_eq_getElem h]
  unfold nameAt valAt
  rw [List.getD_eq_getElem?_getD, List.getElem?_eq_getElem h]
  rfl
open Classical in
theorem shortF_snoc (gs : List (ByteArray × ByteArray)) (f : ByteArray × ByteArray) : shortF (gs ++ [f]) = if f.1 = tagName ∨ f.1 = varyName ∨ f.1 = ccName then shortF gs ++ [f] else shortF gs := by
  unfold shortF
  rw [List.filter_append]
  by_cases h : f.1 = tagName ∨ f.1 = varyName ∨ f.1 = ccName
  · rw [if_pos h]; simp [h]
  · rw [if_neg h]; simp [h]
theorem shortF_le (gs : List (ByteArray × ByteArray)) : (shortF gs).length ≤ gs.length := List.length_filter_le _ _

theorem put_at (fs : List (ByteArray × ByteArray)) (name value : ByteArray) (i : Nat) (M : Nat) (h : ∀ i, i < fs.length → (nameAt fs i).size ≤ M ∧ (valAt fs i).size ≤ M) (h1 : name.size ≤ M) (h2 : value.size ≤ M) (hi : i < (putF fs name value).length) : (nameAt (putF fs name value) i).size ≤ M ∧ (valAt (putF fs name value) i).size ≤ M := by
  have hm : ∀ f ∈ fs, f.1.size ≤ M ∧ f.2.size ≤ M := fun f hf => by
    obtain ⟨j, hj, e⟩ := List.getElem_of_mem hf
    have := h j hj
    unfold nameAt valAt at this
    rw [List.getD_eq_getElem?_getD, List.getElem?_eq_getElem hj] at this
    rw [← e]
    exact this
  have hp : ∀ f ∈ putF fs name value, f.1.size ≤ M ∧ f.2.size ≤ M := fun f hf => by
    unfold putF at hf
    split at hf
    · rename_i hin
      rcases List.mem_or_eq_of_mem_set hf with hf | hf
      · exact hm f hf
      · subst hf
        refine ⟨?_, h2⟩
        first
          | exact h1
          | exact (h _ hin).1
    · rcases List.mem_append.1 hf with hf | hf
      · exact hm f hf
      · rw [List.mem_singleton.1 hf]; exact ⟨h1, h2⟩
  unfold nameAt valAt
  rw [List.getD_eq_getElem?_getD, List.getElem?_eq_getElem hi]
  exact hp _ (List.getElem_mem hi)
theorem put_walk (fs : List (ByteArray × ByteArray)) (name value : ByteArray) (h : WalkF fs.length fs) (h1 : name.size ≤ maxLen) (h2 : value.size ≤ maxLen) : WalkF (putF fs name value).length (putF fs name value) :=
  fun i hi => put_at fs name value i maxLen h h1 h2 hi

end Go.Proofs.YtmcmeeibogkpaaaGreatDoorR

namespace Go.Proofs.YtmcmeeibogkpaaaGreatDoorR
open Go.RowKit
open Go.Lib hiding intOf

def plusI (a b : Int) : Int := min (min (max a 0) 1000000 + min (max b 0) 1000000) 1000000
def sinceI (t now : Int) : Int := if now ≤ t then 0 else min (now - t) 1000000
def ageName : ByteArray := ⟨#[97, 103, 101]⟩
open Classical in
/-- The age that fields tell. -/
noncomputable def ageN (fs : List (ByteArray × ByteArray)) : Int := if getB fs ageName = true ∧ ¬ NumOk (getV fs ageName) then 1000000 else numV (getV fs ageName)
noncomputable def ageAt (fs : List (ByteArray × ByteArray)) (t now : Int) : Int := plusI (ageN fs) (sinceI t now)
theorem plusI_in (a b : Int) : 0 ≤ plusI a b ∧ plusI a b ≤ 1000000 := by unfold plusI; omega
theorem ageAt_in (fs : List (ByteArray × ByteArray)) (t now : Int) : 0 ≤ ageAt fs t now ∧ ageAt fs t now ≤ 1000000 := plusI_in _ _
set_option maxHeartbeats 1000000 in
theorem specPlus_any (a b : Int) (w : World) :
    Calls Tryz.prog 98 #[.int .i64 a, .int .i64 b] w fun e w' => e = .returned (.int .i64 (plusI a b)) ∧ w' = w := by
  have u1 : 0 ≤ min (max a 0) 1000000 ∧ min (max a 0) 1000000 ≤ 1000000 := by omega
  have u2 : 0 ≤ min (max b 0) 1000000 ∧ min (max b 0) 1000000 ≤ 1000000 := by omega
  have HP : Hid (plusI a b = min (min (max a 0) 1000000 + min (max b 0) 1000000) 1000000) := rfl
  obtain ⟨x, hx⟩ : ∃ x, x = min (max a 0) 1000000 := ⟨_, rfl⟩
  obtain ⟨y, hy⟩ : ∃ y, y = min (max b 0) 1000000 := ⟨_, rfl⟩
  rw [← hx, ← hy] at HP
  rw [← hx] at u1
  rw [← hy] at u2
  have HX : Hid (min (max a 0) 1000000 = x) := hx.symm
  have HY : Hid (min (max b 0) 1000000 = y) := hy.symm
  clear hx hy
  go_enter Tryz.func98, Tryz.ntmps98
  go_wp2_with fail
  refine (l1Max_any _ _ _).mono ?_
  rintro e w1 ⟨rfl, rfl⟩
  go_wp2_with fail
  refine (l1Min_any _ _ _).mono ?_
  rintro e w2 ⟨rfl, rfl⟩
  rw [HX.out]
  go_wp2_with fail
  refine (l1Max_any _ _ _).mono ?_
  rintro e w3 ⟨rfl, rfl⟩
  go_wp2_with fail
  refine (l1Min_any _ _ _).mono ?_
  rintro e w4 ⟨rfl, rfl⟩
  rw [HY.out]
  go_wp2_with fail
  refine (l1Min_any _ _ _).mono ?_
  rintro e w5 ⟨rfl, rfl⟩
  go_wp2_with fail
  go_ret
  exact ⟨by rw [HP.out]; rfl, rfl⟩

set_option maxHeartbeats 1000000 in
theorem l7Since_any (t now : Int) (w : World) (h0 : -9223372036854775808 ≤ t) (h1 : now ≤ 9223372036854775807) :
    Calls Tryz.prog 99 #[.int .i64 t, .int .i64 now] w fun e w' => e = .returned (.int .i64 (sinceI t now)) ∧ w' = w := by
  by_cases hle : now ≤ t
  · have HE : Hid (sinceI t now = 0) := by show _ = _; unfold sinceI; rw [if_pos hle]
    go_enter Tryz.func99, Tryz.ntmps99
    go_wp2_with fail
    go_ret
    exact ⟨by rw [HE.out]; rfl, rfl⟩
  · by_cases ht : t < 0
    · have u1 : -9223372036854775808 ≤ t + 1000000 ∧ t + 1000000 ≤ 9223372036854775807 := by omega
      by_cases hn : t + 1000000 < now
      · have HE : Hid (sinceI t now = 1000000) := by show _ = _; unfold sinceI; rw [if_neg hle]; omega
        go_enter Tryz.func99, Tryz.ntmps99
        go_wp2_with fail
        go_ret
        exact ⟨by rw [HE.out]; rfl, rfl⟩
      · have u2 : -9223372036854775808 ≤ now - t ∧ now - t ≤ 9223372036854775807 := by omega
        have HE : Hid (sinceI t now = min (now - t) 1000000) := by show _ = _; unfold sinceI; rw [if_neg hle]
        go_enter Tryz.func99, Tryz.ntmps99
        go_wp2_with fail
        refine (l1Min_any _ _ _).mono ?_
        rintro e w1 ⟨rfl, rfl⟩
        go_wp2_with fail
        go_ret
        exact ⟨by rw [HE.out]; rfl, rfl⟩
    · have u2 : -9223372036854775808 ≤ now - t ∧ now - t ≤ 9223372036854775807 := by omega
      have HE : Hid (sinceI t now = min (now - t) 1000000) := by show _ = _; unfold sinceI; rw [if_neg hle]
      go_enter Tryz.func99, Tryz.ntmps99
      go_wp2_with fail
      refine (l1Min_any _ _ _).mono ?_
      rintro e w1 ⟨rfl, rfl⟩
      go_wp2_with fail
      go_ret
      exact ⟨by rw [HE.out]; rfl, rfl⟩

set_option maxHeartbeats 1000000 in
theorem specAgeAt_any (v : Value) (n base : Nat) (fs : List (ByteArray × ByteArray)) (t now : Int) (w : World) (hv : FieldsV w base v n fs) (hn : n ≤ 1073741824) (hsz : (getV fs ageName).size ≤ maxLen) (h0 : -9223372036854775808 ≤ t) (h1 : now ≤ 9223372036854775807) :
    Calls Tryz.prog 48 #[v, .int .i64 t, .int .i64 now] w fun e w' => e = .returned (.int .i64 (ageAt fs t now)) ∧ Below w.heap.size w w' := by
  obtain ⟨s, hs⟩ : ∃ s, s = getV fs ageName := ⟨_, rfl⟩
  obtain ⟨th, hth⟩ : ∃ b, b = getB fs ageName := ⟨_, rfl⟩
  have HS : Hid (getV fs ageName = s) := hs.symm
  have HT : Hid (getB fs ageName = th) := hth.symm
  rw [← hs] at hsz
  clear hs hth
  go_enter Tryz.func48, Tryz.ntmps48
  go_wp2_with fail
  refine (specGet_any v n base fs ageName _ hv hn).mono ?_
  rintro e w1 ⟨rfl, rfl⟩
  rw [HS.out, HT.out]
  clear hv
  go_wp2_with fail
  refine (specNumRead_any s _ hsz).mono ?_
  rintro e w2 ⟨b, x, rfl, hb1, hb2, hb3, b2⟩
  have HB : Hid (Below w1.heap.size w1 w2) := b2
  have HX : Hid (numV s = x) := by
    show _ = _
    unfold numV
    cases b with
    | true => rw [if_pos (hb1.1 rfl), hb2 rfl]
    | false => rw [if_neg (fun h => nomatch hb1.2 h), hb3 rfl]
  have HA : Hid (ageN fs = if th = true ∧ b = false then 1000000 else x) := by
    show _ = _
    unfold ageN
    rw [HS.out, HT.out, HX.out]
    cases b with
    | true => rw [if_neg (fun h => h.2 (hb1.1 rfl)), if_neg (fun h => nomatch h.2)]
    | false =>
      by_cases hth : th = true
      · rw [if_pos ⟨hth, fun h => nomatch hb1.2 h⟩, if_pos ⟨hth, rfl⟩]
      · rw [if_neg (fun h => hth h.1), if_neg (fun h => hth h.1)]
  clear hb1 hb2 hb3 b2
  cases th with
  | true =>
    cases b with
    | true =>
      have HE : Hid (ageAt fs t now = plusI x (sinceI t now)) := by show _ = _; unfold ageAt; rw [HA.out, if_neg (fun h => nomatch h.2)]
      go_wp2_with fail
      refine (l7Since_any t now _ h0 h1).mono ?_
      rintro e w3 ⟨rfl, rfl⟩
      go_wp2_with fail
      refine (specPlus_any _ _ _).mono ?_
      rintro e w4 ⟨rfl, rfl⟩
      go_wp2_with fail
      go_ret
      exact ⟨by rw [HE.out]; rfl, HB.out⟩
    | false =>
      have HE : Hid (ageAt fs t now = plusI 1000000 (sinceI t now)) := by show _ = _; unfold ageAt; rw [HA.out, if_pos ⟨rfl, rfl⟩]
      go_wp2_with fail
      refine (l7Since_any t now _ h0 h1).mono ?_
      rintro e w3 ⟨rfl, rfl⟩
      go_wp2_with fail
      refine (specPlus_any _ _ _).mono ?_
      rintro e w4 ⟨rfl, rfl⟩
      go_wp2_with fail
      go_ret
      exact ⟨by rw [HE.out]; rfl, HB.out⟩
  | false =>
    have HE : Hid (ageAt fs t now = plusI x (sinceI t now)) := by show _ = _; unfold ageAt; rw [HA.out, if_neg (fun h => nomatch h.1)]
    go_wp2_with fail
    refine (l7Since_any t now _ h0 h1).mono ?_
    rintro e w3 ⟨rfl, rfl⟩
    go_wp2_with fail
    refine (specPlus_any _ _ _).mono ?_
    rintro e w4 ⟨rfl, rfl⟩
    go_wp2_with fail
    go_ret
    exact ⟨by rw [HE.out]; rfl, HB.out⟩

end Go.Proofs.YtmcmeeibogkpaaaGreatDoorR

namespace Go.Proofs.YtmcmeeibogkpaaaGreatDoorR
open Go.RowKit
open Go.Lib hiding intOf

/-- The two cells of a field's memory, written. -/
def twoSet (w : World) (r : Nat) (nm vl : ByteArray) : World := (w.setCell ⟨r, 0, none⟩ (.string nm)).setCell ⟨r, 1, none⟩ (.string vl)
theorem twoSet_heap {w : World} {r : Nat} (nm vl : ByteArray) (h : w.heap[r]? = some (.cells #[.string ⟨#[]⟩, .string ⟨#[]⟩] 74)) : (twoSet w r nm vl).heap[r]? = some (.cells #[.string nm, .string vl] 74) := by
  have := heap_set _ r 1 _ _ _ (.string vl) (heap_set w r 0 _ _ _ (.string nm) h)
  simpa [twoSet] using this
end Go.Proofs.YtmcmeeibogkpaaaGreatDoorR

namespace Go.Proofs.YtmcmeeibogkpaaaGreatDoorR
open Go.RowKit
open Go.Lib hiding intOf

set_option maxHeartbeats 1000000 in
theorem place_any (v : Value) (n base : Nat) (fs : List (ByteArray × ByteArray)) (name : ByteArray) (w : World) (hv : FieldsV w base v n fs) (hn : n ≤ 1073741824) :
    Calls Tryz.prog 65 #[v, .string name] w fun e w' => e = .returned (.int .i64 (atF fs name : Int)) ∧ w' = w := by
  have hl := hv.len
  obtain ⟨oa, cap, rfl, hrow⟩ := hv.slice
  clear hv
  go_enter Tryz.func65, Tryz.ntmps65
  go_wp2
  go_loop [8] (fun i => ∃ k : Nat, k ≤ n ∧ i = .int .i64 (k : Int) ∧ Hid (∀ j, j < k → nameAt fs j ≠ name)) (fun i => n - (intOf i).toNat)
  case atStart => exact ⟨0, Nat.zero_le _, rfl, fun j h => absurd h (by omega)⟩
  case round =>
    obtain ⟨k, hk, rfl, hb⟩ := hrel
    by_cases hlt : k < n
    · obtain ⟨g, rfl, row⟩ := hrow k hlt
      have hc := row.name k hlt
      have hlt2 : (k : Int) < (n : Int) := by omega
      clear hrow row
      by_cases he : nameAt fs k = name
      · have hT : Hid (atF fs name = k) := atF_uniq (by omega) hb.out he
        have ht : ((nameAt fs k).toList == name.toList) = true := (text_beq _ _).2 he
        clear he
        go_wp2
        go_ret
        exact ⟨by rw [hT.out]; rfl, rfl⟩
      · have ht := text_beq_no he
        have HE : Hid (nameAt fs k ≠ name) := he
        clear he
        go_wp2
        go_round
        case rel =>
          refine ⟨k + 1, by omega, by go_num, ?_⟩
          intro j hj
          by_cases e : j = k
          · subst e; exact HE.out
          · exact hb.out j (by omega)
        case measure => simp [intOf]; omega
    · have hT : Hid (atF fs name = n) := by
        have := atF_none (fs := fs) (name := name) (fun j hj => hb.out j (by omega))
        show _ = _
        omega
      clear hrow
      go_wp2
      go_ret
      exact ⟨by rw [hT.out]; rfl, rfl⟩

set_option maxHeartbeats 1000000 in
theorem newField_any (nm vl : ByteArray) (w : World) (h1 : nm.size ≤ 281474976710656) (h2 : vl.size ≤ 281474976710656) :
    Calls Tryz.prog 126 #[.string nm, .string vl] w fun e w' => e = .returned (.agg #[.string nm, .string vl]) ∧ Below w.heap.size w w' := by
  go_enter Tryz.func126, Tryz.ntmps126
  go_wp2_with fail
  refine (clone_any nm _ h1).mono ?_
  rintro e w1 ⟨rfl, hb1⟩
  go_wp2_with fail
  refine (clone_any vl _ h2).mono ?_
  rintro e w2 ⟨rfl, hb2⟩
  obtain ⟨r, hr⟩ : ∃ r, r = w.heap.size := ⟨_, rfl⟩
  have h0 : (w.alloc (.cells #[.string ⟨#[]⟩, .string ⟨#[]⟩] 74)).heap.size = w.heap.size + 1 := by simp
  have hb : Below w.heap.size w w2 := ((Below.refl _ w).alloc (Nat.le_refl _) _).trans ((hb1.trans (hb2.mono hb1.size)).mono (by omega))
  have hre2 : w2.heap[r]? = some (.cells #[.string ⟨#[]⟩, .string ⟨#[]⟩] 74) := by
    rw [hr, (hb1.trans (hb2.mono hb1.size)).block _ (by omega)]; exact heap_alloc_new w _
  have hc0 : w2.cell? ⟨r, 0, none⟩ = some (.string ⟨#[]⟩) := by simp [World.cell?, hre2]
  have hc1 : w2.cell? ⟨r, 1, none⟩ = some (.string ⟨#[]⟩) := by simp [World.cell?, hre2]
  have hf0 : w2.frozen? ⟨r, 0, none⟩ = false := by simp [World.frozen?, hre2]
  have hf1 : w2.frozen? ⟨r, 1, none⟩ = false := by simp [World.frozen?, hre2]
  have hre3 := twoSet_heap nm vl hre2
  have k0 : (twoSet w2 r nm vl).cell? ⟨r, 0, none⟩ = some (.string nm) := by simp [World.cell?, hre3]
  have k1 : (twoSet w2 r nm vl).cell? ⟨r, 1, none⟩ = some (.string vl) := by simp [World.cell?, hre3]
  have hb3 : Below w.heap.size w (twoSet w2 r nm vl) := (hb.setCell (p := ⟨r, 0, none⟩) (by simp [hr]) _).setCell (p := ⟨r, 1, none⟩) (by simp [hr]) _
  have HB3 : Hid (Below w.heap.size w (twoSet w2 r nm vl)) := hb3
  rw [← hr]
  unfold twoSet at k0 k1
  clear hre3 hre2 hb hb3 hb1 hb2 hr h0
  go_wp2
  exact bodyPost_ret (v := .agg #[.string nm, .string vl]) (by simp [results, Tryz.results126, go_sem, k0, k1]) rfl ⟨rfl, HB3.out⟩

theorem cell_set_other (w : World) (r o g p : Nat) (v : Value) (h : g ≠ r) : (w.setCell ⟨r, o, none⟩ v).cell? ⟨g, p, none⟩ = w.cell? ⟨g, p, none⟩ := by
  unfold World.cell?
  rw [heap_setCell_other _ _ g _ (fun e => h e)]
/-- Every text of the fields is short enough to be copied. -/
def CopyF (fs : List (ByteArray × ByteArray)) : Prop := ∀ i, i < fs.length → (nameAt fs i).size ≤ 281474976710656 ∧ (valAt fs i).size ≤ 281474976710656

set_option maxHeartbeats 1000000 in
theorem copied_any (v : Value) (n base : Nat) (fs : List (ByteArray × ByteArray)) (w : World) (hv : FieldsV w base v n fs) (hn : n ≤ 2000000) (hsz : CopyF fs) :
    Calls Tryz.prog 128 #[v] w fun e w' => RowF fs w e w' := by
  obtain ⟨i0, hi, hz0, hz1, hz2⟩ := info_parts info33
  obtain ⟨M, hM⟩ : ∃ M, M = madeCells (Value.agg #[.string ⟨#[]⟩, .string ⟨#[]⟩]).cells (((n : Nat) : Int).toNat * i0.size) := ⟨_, rfl⟩
  have hmk : ∀ W : World, (Instr.makeSlice 75 (.int .i64 (n : Int)) (.int .i64 (n : Int))).run Tryz.prog W = .ok (.slice (some ⟨W.heap.size, 0, none⟩) n n) (W.alloc (.cells M 74)) := fun W => by
    have h := run_make (P := Tryz.prog) W 75 74 i0 (.agg #[.string ⟨#[]⟩, .string ⟨#[]⟩]) Tryz.underlying75 hi hz0 .i64 .i64 (n : Int) (n : Int) (by omega) (by omega) (by rw [hz2]; omega) (by omega)
    rw [← hM] at h
    simpa using h
  have hMs : M.size = n * 2 := by rw [hM, size_madeCells, hz1]; simp
  have hlen := hv.len
  obtain ⟨oa, cap, rfl, hrow⟩ := hv.slice
  have HROW : Hid (∀ k, k < n → ∃ g, oa = some ⟨g, 0, none⟩ ∧ FieldRow base w g n cap fs) := hrow
  have HSZ : Hid (CopyF fs) := hsz
  clear hM hv hrow hsz
  have HP : Hid (PartRow (w.alloc (.cells M 74)) w.heap.size n 0 fs) := ⟨M, heap_alloc_new w _, hMs, fun i h => absurd h (by omega)⟩
  go_enter Tryz.func128, Tryz.ntmps128
  go_wp2
  go_loopw [10] (fun i wr => ∃ k : Nat, k ≤ n ∧ i = .int .i64 (k : Int) ∧ Hid (PartRow wr w.heap.size n k fs) ∧ Below w.heap.size w wr) (fun i _ => n - (intOf i).toNat)
  case atStart => exact ⟨0, Nat.zero_le _, rfl, HP, (Below.refl _ _).alloc (Nat.le_refl _) _⟩
  case round =>
    obtain ⟨k, hk, rfl, hpr, hbw⟩ := hrel
    by_cases hlt : k < n
    · have hlt2 : (k : Int) < (n : Int) := by omega
      obtain ⟨g, rfl, row⟩ := HROW.out k hlt
      have hrowlt := row.lt
      have HRW : Hid (FieldRow base w g n cap fs) := row
      have row1 := row.below hbw row.lt
      have hc1 := row1.name k hlt
      have hc2 := row1.val k hlt
      obtain ⟨z1, z2⟩ := HSZ.out k (by omega)
      obtain ⟨nm, hnm⟩ : ∃ y, y = nameAt fs k := ⟨_, rfl⟩
      obtain ⟨vl, hvl⟩ : ∃ y, y = valAt fs k := ⟨_, rfl⟩
      rw [← hnm] at hc1 z1
      rw [← hvl] at hc2 z2
      have HNM : Hid (nm = nameAt fs k) := hnm
      have HVL : Hid (vl = valAt fs k) := hvl
      clear hnm hvl row row1
      have hgr : g < w.heap.size := hrowlt
      have HA : Hid (∀ w0 w1, Below wr.heap.size wr w0 → Below w0.heap.size w0 w1 → (w1.cell? ⟨g, k * 2, none⟩ = some (.string nm) ∧ w1.cell? ⟨g, k * 2 + 1, none⟩ = some (.string vl)) ∧ (∃ u, w1.cell? ⟨w.heap.size, k * 2, none⟩ = some u) ∧ (∃ u, w1.cell? ⟨w.heap.size, k * 2 + 1, none⟩ = some u) ∧ w1.frozen? ⟨w.heap.size, k * 2, none⟩ = false ∧ w1.frozen? ⟨w.heap.size, k * 2 + 1, none⟩ = false ∧ Hid (PartRow ((w1.setCell ⟨w.heap.size, k * 2, none⟩ (.string nm)).setCell ⟨w.heap.size, k * 2 + 1, none⟩ (.string vl)) w.heap.size n (k + 1) fs) ∧ Below w.heap.size w w1 ∧ (((w1.setCell ⟨w.heap.size, k * 2, none⟩ (.string nm)).setCell ⟨w.heap.size, k * 2 + 1, none⟩ (.string vl)).cell? ⟨g, k * 2, none⟩ = some (.string nm) ∧ ((w1.setCell ⟨w.heap.size, k * 2, none⟩ (.string nm)).setCell ⟨w.heap.size, k * 2 + 1, none⟩ (.string vl)).cell? ⟨g, k * 2 + 1, none⟩ = some (.string vl))) := fun w0 w1 h h' => by
        have hx := h.trans (h'.mono h.size)
        have hy := hbw.trans (hx.mono hbw.size)
        have row1 := HRW.out.below hy hgr
        have a1 := row1.name k hlt
        have a2 := row1.val k hlt
        rw [← HNM.out] at a1
        rw [← HVL.out] at a2
        have hpr1 := hpr.out.below hx hpr.out.lt
        have hput := hpr1.put hlt
        rw [← HNM.out, ← HVL.out] at hput
        exact ⟨⟨a1, a2⟩, hpr1.cell (k * 2) (by omega), hpr1.cell (k * 2 + 1) (by omega), hpr1.frozen _, hpr1.frozen _, hput, hy, by rw [cell_set_other _ _ _ _ _ _ (by omega), cell_set_other _ _ _ _ _ _ (by omega)]; exact a1, by rw [cell_set_other _ _ _ _ _ _ (by omega), cell_set_other _ _ _ _ _ _ (by omega)]; exact a2⟩
      go_wp2
      go_region_held3 (fun w' => w'.cell? ⟨g, k * 2, none⟩ = some (.string nm) ∧ w'.cell? ⟨g, k * 2 + 1, none⟩ = some (.string vl)) (first | assumption | go_keep) (first | (go_at_call 126; refine (newField_any nm vl _ z1 z2).mono ?_; rintro e w1 ⟨rfl, hb1⟩; obtain ⟨hcc, ⟨u0, hu0⟩, ⟨u1, hu1⟩, f0, f1, HPUT, hb2, hs1, hs2⟩ := HA.out _ w1 ((Below.refl _ wr).drew) hb1))
      go_wp2
      go_roundw
      case rel => exact ⟨k + 1, by omega, by go_num, HPUT, (hb2.setCell (Nat.le_refl _) _).setCell (Nat.le_refl _) _⟩
      case measure => simp [intOf]; omega
    · obtain rfl : k = n := by omega
      go_wp2
      go_ret
      exact ⟨_, rfl, by rw [hlen]; exact hpr.out.owns hlen (by unfold maxLen; omega) (Nat.le_refl _), hbw⟩

set_option maxHeartbeats 1000000 in
theorem implGet_any (v : Value) (n base : Nat) (fs : List (ByteArray × ByteArray)) (name : ByteArray) (w : World) (hv : FieldsV w base v n fs) (hn : n ≤ 1073741824) (hsz : CopyF fs) :
    Calls Tryz.prog 16 #[v, .string name] w fun e w' => e = .returned (.tuple #[.string (getV fs name), .bool (getB fs name)]) ∧ Below w.heap.size w w' := by
  have hl := hv.len
  have hv0 := hv
  obtain ⟨oa, cap, rfl, hrow⟩ := hv0.slice
  clear hv0
  obtain ⟨k, hk⟩ : ∃ k, k = atF fs name := ⟨_, rfl⟩
  have hle := atF_le fs name
  by_cases hin : atF fs name < fs.length
  · have hV : Hid (getV fs name = valAt fs k) := by show _ = _; unfold getV; rw [if_pos hin, hk]
    have hB : Hid (getB fs name = true) := by show _ = _; unfold getB; simpa using hin
    obtain ⟨g, rfl, row⟩ := hrow k (by omega)
    have hc := row.val k (by omega)
    have hlt : (k : Int) < (n : Int) := by omega
    have hne : ((k : Int) == (n : Int)) = false := by rw [beq_eq_false_iff_ne]; omega
    obtain ⟨_, hz⟩ := hsz k (by omega)
    obtain ⟨vl, hvl⟩ : ∃ y, y = valAt fs k := ⟨_, rfl⟩
    rw [← hvl] at hV hc hz
    go_enter Tryz.func16, Tryz.ntmps16
    go_wp2_with fail
    refine (place_any _ n base fs name _ hv hn).mono ?_
    rintro e w1 ⟨rfl, rfl⟩
    rw [← hk]
    clear hv hrow row hk hvl hle hin hsz
    go_wp2_with fail
    refine (clone_any vl _ hz).mono ?_
    rintro e w2 ⟨rfl, hb2⟩
    go_wp2
    go_ret2
    exact ⟨by rw [hV.out, hB.out]; rfl, hb2⟩
  · have hV : Hid (getV fs name = ⟨#[]⟩) := by show _ = _; unfold getV; rw [if_neg hin]
    have hB : Hid (getB fs name = false) := by show _ = _; unfold getB; simpa using hin
    have hkn : k = n := by omega
    go_enter Tryz.func16, Tryz.ntmps16
    go_wp2_with fail
    refine (place_any _ n base fs name _ hv hn).mono ?_
    rintro e w1 ⟨rfl, rfl⟩
    rw [← hk, hkn]
    clear hv hrow hk hle hin hsz hkn
    go_wp2
    go_ret2
    exact ⟨by rw [hV.out, hB.out]; rfl, Below.refl _ _⟩

end Go.Proofs.YtmcmeeibogkpaaaGreatDoorR

namespace Go.Proofs.YtmcmeeibogkpaaaGreatDoorR
open Go.RowKit
open Go.Lib hiding intOf

open Classical in
noncomputable def ansS (fs gs : List (ByteArray × ByteArray)) (st : Int) : Int := if SameP fs gs then 304 else st
open Classical in
noncomputable def ansG (fs gs : List (ByteArray × ByteArray)) : List (ByteArray × ByteArray) := if SameP fs gs then shortF gs else gs
open Classical in
noncomputable def ansB (fs gs : List (ByteArray × ByteArray)) (d : ByteArray) : ByteArray := if SameP fs gs then ⟨#[]⟩ else d
/-- The age that is put, as a text. -/
noncomputable def ageT (gs : List (ByteArray × ByteArray)) (t now : Int) : ByteArray := numTextI (ageAt gs t now)
/-- The fields of what is answered with an object. -/
noncomputable def ansF (fs gs : List (ByteArray × ByteArray)) (st : Int) (d : ByteArray) (t now : Int) : List (ByteArray × ByteArray) := mergeF (ansS fs gs st) (ansG fs gs) (ansB fs gs d) [(ageName, ageT gs t now)]
theorem ansS_yes {fs gs : List (ByteArray × ByteArray)} (h : SameP fs gs) (st : Int) : ansS fs gs st = 304 := if_pos h
theorem ansS_no {fs gs : List (ByteArray × ByteArray)} (h : ¬ SameP fs gs) (st : Int) : ansS fs gs st = st := if_neg h
theorem ansG_yes {fs gs : List (ByteArray × ByteArray)} (h : SameP fs gs) : ansG fs gs = shortF gs := if_pos h
theorem ansG_no {fs gs : List (ByteArray × ByteArray)} (h : ¬ SameP fs gs) : ansG fs gs = gs := if_neg h
theorem ansB_yes {fs gs : List (ByteArray × ByteArray)} (h : SameP fs gs) (d : ByteArray) : ansB fs gs d = ⟨#[]⟩ := if_pos h
theorem ansB_no {fs gs : List (ByteArray × ByteArray)} (h : ¬ SameP fs gs) (d : ByteArray) : ansB fs gs d = d := if_neg h
theorem merge_put {st : Int} {fs : List (ByteArray × ByteArray)} {b a v : ByteArray} (h : RespP st (putF fs a v) b) : mergeF st fs b [(a, v)] = putF fs a v := if_pos h
theorem merge_not {st : Int} {fs : List (ByteArray × ByteArray)} {b a v : ByteArray} (h : ¬ RespP st (putF fs a v) b) : mergeF st fs b [(a, v)] = fs := if_neg h
theorem ageT_size (gs : List (ByteArray × ByteArray)) (t now : Int) : (ageT gs t now).size ≤ 8 := by
  unfold ageT numTextI
  split
  · decide
  · exact numText_size _
theorem mergeL_le (st : Int) (fs : List (ByteArray × ByteArray)) (b a v : ByteArray) : (mergeF st fs b [(a, v)]).length ≤ fs.length + 1 := by
  unfold mergeF
  split
  · exact putAll_le fs [(a, v)]
  · omega
theorem ansG_le (fs gs : List (ByteArray × ByteArray)) : (ansG fs gs).length ≤ gs.length := by
  unfold ansG
  split
  · exact shortF_le gs
  · exact Nat.le_refl _
theorem ansF_le (fs gs : List (ByteArray × ByteArray)) (st : Int) (d : ByteArray) (t now : Int) : (ansF fs gs st d t now).length ≤ gs.length + 1 := by
  have h1 := mergeL_le (ansS fs gs st) (ansG fs gs) (ansB fs gs d) ageName (ageT gs t now)
  have h2 := ansG_le fs gs
  unfold ansF
  omega
/-- What a list's texts are bounded by. -/
theorem walk_of {n : Nat} {fs : List (ByteArray × ByteArray)} (hl : fs.length = n) (h : ∀ f ∈ fs, f.1.size ≤ maxLen ∧ f.2.size ≤ maxLen) : WalkF n fs := fun i hi => by
  have hj : i < fs.length := by omega
  have := h _ (List.getElem_mem hj)
  unfold nameAt valAt
  rw [List.getD_eq_getElem?_getD, List.getElem?_eq_getElem hj]
  exact this
theorem walk_mem {n : Nat} {fs : List (ByteArray × ByteArray)} (hl : fs.length = n) (h : WalkF n fs) : ∀ f ∈ fs, f.1.size ≤ maxLen ∧ f.2.size ≤ maxLen := fun f hf => by
  obtain ⟨j, hj, e⟩ := List.getElem_of_mem hf
  have := h j (by omega)
  unfold nameAt valAt at this
  rw [List.getD_eq_getElem?_getD, List.getElem?_eq_getElem hj] at this
  rw [← e]
  exact this
theorem walk_short {n : Nat} {gs : List (ByteArray × ByteArray)} (hl : gs.length = n) (h : WalkF n gs) : WalkF (shortF gs).length (shortF gs) := walk_of rfl fun f hf => by
  unfold shortF at hf
  exact walk_mem hl h f (List.mem_filter.1 hf).1
theorem walk_put {n : Nat} {fs : List (ByteArray × ByteArray)} {a v : ByteArray} (hl : fs.length = n) (h : WalkF n fs) (ha : a.size ≤ maxLen) (hv : v.size ≤ maxLen) : WalkF (putF fs a v).length (putF fs a v) := fun i hi => put_at fs a v i maxLen (fun j hj => h j (by omega)) ha hv hi
theorem copy_short {gs : List (ByteArray × ByteArray)} (h : CopyF gs) : CopyF (shortF gs) := fun i hi => by
  have hm : ∀ f ∈ gs, f.1.size ≤ 281474976710656 ∧ f.2.size ≤ 281474976710656 := fun f hf => by
    obtain ⟨j, hj, e⟩ := List.getElem_of_mem hf
    have := h j hj
    unfold nameAt valAt at this
    rw [List.getD_eq_getElem?_getD, List.getElem?_eq_getElem hj] at this
    rw [← e]
    exact this
  have h2 := hm _ (List.mem_filter.1 (List.getElem_mem hi)).1
  unfold nameAt valAt
  rw [List.getD_eq_getElem?_getD, List.getElem?_eq_getElem hi]
  exact h2
end Go.Proofs.YtmcmeeibogkpaaaGreatDoorR

namespace Go.Proofs.YtmcmeeibogkpaaaGreatDoorR
open Go.RowKit
open Go.Lib hiding intOf

set_option maxHeartbeats 1000000 in
set_option maxRecDepth 100000 in
theorem l9Copy_any (v : Value) (n base : Nat) (fs : List (ByteArray × ByteArray)) (w : World) (hv : FieldsV w base v n fs) (hn : n ≤ 2000000) :
    Calls Tryz.prog 94 #[v] w fun e w' => RowF fs w e w' := by
  obtain ⟨i0, hi, hz0, hz1, hz2⟩ := info_parts info33
  have hl := hv.len
  have h63a : 0 + n ≤ maxLen := by unfold maxLen; omega
  have h47a : (0 + n) * 32 ≤ 140737488355328 := by omega
  have hown0 : (w.alloc (.cells #[] 74)).ownsRow w.heap.size 74 2 (.slice (some ⟨w.heap.size, 0, none⟩) 0 0) 0 [] := ⟨rfl, .inr ⟨w.heap.size, 0, #[], rfl, Nat.le_refl _, heap_alloc_new w _, Nat.le_refl _, Nat.zero_le _, rfl, rfl⟩⟩
  have hbs0 : w.heap.size ≤ (w.alloc (.cells #[] 74)).heap.size := by simp
  have hv1 := hv.below ((Below.refl _ w).alloc (Nat.le_refl _) (.cells #[] 74))
  rcases hv1.src with ⟨rfl, rfl, rfl⟩ | ⟨ad, cap, rfl, hcs⟩
  · have hb2 : Below w.heap.size w (w.alloc (.cells #[] 74)) := (Below.refl _ w).alloc (Nat.le_refl _) _
    clear hv
    go_enter Tryz.func94, Tryz.ntmps94
    go_wp2_with (at_builtin; refine wpList_append_own_none rfl _ _ 24 rfl w.heap.size 74 i0 2 Tryz.underlying24 hi _ _ _ rfl hown0 rfl ?_)
    go_wp2
    go_ret
    exact ⟨_, rfl, hown0, hb2⟩
  · have hnl : (flatF fs).length = n * 2 := by rw [flatF_len, hl]
    go_enter Tryz.func94, Tryz.ntmps94
    go_wp2_with (at_builtin; refine wpList_append_own _ rfl _ _ 24 rfl w.heap.size 74 i0 (.agg #[.string ⟨#[]⟩, .string ⟨#[]⟩]) 2 32 Tryz.underlying24 hi hz0 hz1 hz2 rfl (by decide) _ _ _ rfl hown0 ad n cap (flatF fs) rfl hnl hcs (flat_one _) h63a h47a hbs0 ?_)
    intro v1 w2 hown1 hgrow _
    have hb2 : Below w.heap.size w w2 := ((Below.refl _ w).alloc (Nat.le_refl _) _).grown hgrow hbs0 (fun g hg => owns_ge hown0 hg)
    have hown2 : w2.ownsRow w.heap.size 74 2 v1 fs.length (flatF fs) := by rw [hl]; simpa using hown1
    clear hgrow hown1 hown0 hbs0 hv1 hcs hv
    go_wp2
    go_ret
    exact ⟨_, rfl, hown2, hb2⟩

set_option maxHeartbeats 1000000 in
theorem specSame_any (m : Int) (p : ByteArray) (v : Value) (b : ByteArray) (n base : Nat) (fs : List (ByteArray × ByteArray)) (u : Value) (k base2 : Nat) (gs : List (ByteArray × ByteArray)) (w : World) (hv : FieldsV w base v n fs) (hn : n ≤ 1073741824) (hu : FieldsV w base2 u k gs) (hk : k ≤ 1073741824) :
    Calls Tryz.prog 45 #[.agg #[.int .i64 m, .string p, v, .string b], u] w fun e w' => BoolIs (SameP fs gs) w e w' := by
  obtain ⟨oa, cap, rfl, _⟩ := hv.slice
  obtain ⟨W0, hW0⟩ : ∃ W, W = w.alloc (.cells #[.int .i64 m, .string p, .slice oa n cap, .string b] 26) := ⟨_, rfl⟩
  have HW0 : Hid (w.alloc (.cells #[.int .i64 m, .string p, .slice oa n cap, .string b] 26) = W0) := hW0.symm
  have b0 : Below w.heap.size w W0 := by rw [hW0]; exact (Below.refl _ w).alloc (Nat.le_refl _) _
  have hv0 := hv.below b0
  have HU : Hid (FieldsV W0 base2 u k gs) := hu.below b0
  obtain ⟨⟨_, _, c2, _⟩, _⟩ := four_facts (show W0.heap[w.heap.size]? = some (.cells #[.int .i64 m, .string p, .slice oa n cap, .string b] 26) by rw [hW0]; exact heap_alloc_new w _)
  have HB : Hid (Below w.heap.size w W0) := b0
  obtain ⟨s, hs⟩ : ∃ s, s = getV fs inmName := ⟨_, rfl⟩
  obtain ⟨t, ht⟩ : ∃ s, s = getV gs tagName := ⟨_, rfl⟩
  obtain ⟨f1, hf1⟩ : ∃ s, s = getB fs inmName := ⟨_, rfl⟩
  obtain ⟨f2, hf2⟩ : ∃ s, s = getB gs tagName := ⟨_, rfl⟩
  have HQ : Hid (SameP fs gs ↔ f1 = true ∧ f2 = true ∧ s = t) := by show _ ↔ _; rw [hs, ht, hf1, hf2]; rfl
  have HE1 : Hid (getV fs inmName = s) := hs.symm
  have HE2 : Hid (getV gs tagName = t) := ht.symm
  have HE3 : Hid (getB fs inmName = f1) := hf1.symm
  have HE4 : Hid (getB gs tagName = f2) := hf2.symm
  obtain ⟨r, hr⟩ : ∃ r, r = w.heap.size := ⟨_, rfl⟩
  have HR : Hid (w.heap.size = r) := hr.symm
  rw [← hr] at c2
  clear hW0 b0 hv hu hs ht hf1 hf2
  go_enter Tryz.func45, Tryz.ntmps45
  go_upto_region 1 with fail
  rw [HW0.out, ← hr]
  clear hr HW0
  go_wp2_with fail
  refine (specGet_any _ n base fs inmName _ hv0 hn).mono ?_
  rintro e w1 ⟨rfl, rfl⟩
  rw [HE1.out, HE3.out]
  clear hv0 c2
  go_wp2_with fail
  refine (specGet_any u k base2 gs tagName _ HU.out hk).mono ?_
  rintro e w2 ⟨rfl, rfl⟩
  rw [HE2.out, HE4.out]
  cases f1 with
  | false =>
    have HF : Hid (¬ SameP fs gs) := fun h => nomatch (HQ.out.1 h).1
    go_wp2_with fail
    go_ret
    exact BoolIs.no HF.out HB.out
  | true =>
    cases f2 with
    | false =>
      have HF : Hid (¬ SameP fs gs) := fun h => nomatch (HQ.out.1 h).2.1
      go_wp2_with fail
      go_ret
      exact BoolIs.no HF.out HB.out
    | true =>
      have HT : Hid ((s.toList == t.toList) = true ↔ SameP fs gs) := by show _ ↔ _; rw [HQ.out, text_beq]; simp
      go_wp2_with fail
      go_ret
      exact ⟨_, rfl, HT.out, HB.out⟩

end Go.Proofs.YtmcmeeibogkpaaaGreatDoorR

namespace Go.Proofs.YtmcmeeibogkpaaaGreatDoorR
open Go.RowKit
open Go.Lib hiding intOf

set_option maxHeartbeats 2000000 in
set_option maxRecDepth 100000 in
theorem toReq_any (m : Int) (p : ByteArray) (a : Option Addr) (n cap : Nat) (b : ByteArray) (fs : List (ByteArray × ByteArray)) (B : Nat) (w : World) (harg : ArgF w B a n fs) (hB : B ≤ w.heap.size) (hn : n ≤ 1048576) :
    Calls Tryz.prog 23 #[.agg #[.int .i64 m, .string p, .slice a n cap, .string b]] w fun e w' => ∃ v, e = .returned (.agg #[.int .i64 m, .string p, v, .string b]) ∧ w'.ownsRow w.heap.size 74 2 v n (flatF fs) ∧ Below w.heap.size w w' := by
  obtain ⟨w0, hw0⟩ : ∃ W, W = (((w.alloc (.cells #[.int .i64 m, .string p, .slice a n cap, .string b] 50)).alloc (.cells #[.int .i64 0, .string ⟨#[]⟩, .slice none 0 0, .string ⟨#[]⟩] 26)).alloc (.cells #[.int .i64 m, .string p, .slice none 0 0, .string ⟨#[]⟩] 26)) := ⟨_, rfl⟩
  have hs0 : w0.heap.size = w.heap.size + 1 + 1 + 1 := by rw [hw0]; simp
  have hb0 : Below w.heap.size w w0 := by rw [hw0]; exact (((Below.refl _ w).alloc (Nat.le_refl _) _).alloc (by simp) _).alloc (by simp; omega) _
  have x1 : w0.heap[w.heap.size]? = some (.cells #[.int .i64 m, .string p, .slice a n cap, .string b] 50) := by
    rw [hw0, heap_alloc_old _ _ (by simp; omega), heap_alloc_old _ _ (by simp)]; exact heap_alloc_new w _
  have x2 : w0.heap[w.heap.size + 1]? = some (.cells #[.int .i64 0, .string ⟨#[]⟩, .slice none 0 0, .string ⟨#[]⟩] 26) := by
    rw [hw0, heap_alloc_old _ _ (by simp)]
    have := heap_alloc_new (w.alloc (.cells #[.int .i64 m, .string p, .slice a n cap, .string b] 50)) (.cells #[.int .i64 0, .string ⟨#[]⟩, .slice none 0 0, .string ⟨#[]⟩] 26)
    simpa using this
  have x3 : w0.heap[w.heap.size + 1 + 1]? = some (.cells #[.int .i64 m, .string p, .slice none 0 0, .string ⟨#[]⟩] 26) := by
    rw [hw0]
    have := heap_alloc_new ((w.alloc (.cells #[.int .i64 m, .string p, .slice a n cap, .string b] 50)).alloc (.cells #[.int .i64 0, .string ⟨#[]⟩, .slice none 0 0, .string ⟨#[]⟩] 26)) (.cells #[.int .i64 m, .string p, .slice none 0 0, .string ⟨#[]⟩] 26)
    simpa using this
  go_enter Tryz.func23, Tryz.ntmps23
  go_wp2_with fail
  rw [← hw0]
  refine (toFieldS_any B a n cap fs _ (harg.below (hb0.mono hB)) (by omega) hn).mono ?_
  rintro e w1 ⟨v, rfl, hown, bb1⟩
  obtain ⟨fo, fc, rfl⟩ := slice_of_owns hown
  rw [← bb1.block _ (by omega)] at x1 x2 x3
  obtain ⟨o, ho⟩ : ∃ o, o = w.heap.size + 1 + 1 := ⟨_, rfl⟩
  obtain ⟨q, hq⟩ : ∃ q, q = w.heap.size + 1 := ⟨_, rfl⟩
  obtain ⟨c, hc⟩ : ∃ c, c = w.heap.size := ⟨_, rfl⟩
  rw [← ho] at x3
  rw [← hq] at x2
  rw [← hc] at x1
  have hqo : q ≠ o := by omega
  have hco : c ≠ o := by omega
  have hoq : o ≠ q := by omega
  have hoc : o ≠ c := by omega
  have hqw : w.heap.size ≤ q := by omega
  have how : w.heap.size ≤ o := by omega
  obtain ⟨⟨a0, a1, a2, a3⟩, _⟩ := four_facts x1
  obtain ⟨⟨b0, b1, b2, b3⟩, e0, e1, e2, e3⟩ := four_facts x2
  obtain ⟨⟨d0, d1, d2, d3⟩, f0, f1, f2, f3⟩ := four_facts x3
  have hbw1 : Below w.heap.size w w1 := hb0.trans (bb1.mono hb0.size)
  have HFIN : Hid (∀ W : World, W = (w1.setCell ⟨o, 2, none⟩ (.slice fo n fc)).setCell ⟨o, 3, none⟩ (.string b) → ((fourSet W q (.int .i64 m) (.string p) (.slice fo n fc) (.string b)).heap[q]? = some (.cells #[.int .i64 m, .string p, .slice fo n fc, .string b] 26)) ∧ (fourSet W q (.int .i64 m) (.string p) (.slice fo n fc) (.string b)).ownsRow w.heap.size 74 2 (.slice fo n fc) n (flatF fs) ∧ Below w.heap.size w (fourSet W q (.int .i64 m) (.string p) (.slice fo n fc) (.string b))) := fun W hW => by
    have hx2 : W.heap[q]? = some (.cells #[.int .i64 0, .string ⟨#[]⟩, .slice none 0 0, .string ⟨#[]⟩] 26) := by rw [hW, heap_setCell_other _ _ q _ (fun e => hqo e), heap_setCell_other _ _ q _ (fun e => hqo e)]; exact x2
    have hbW : Below w.heap.size w W := by rw [hW]; exact (hbw1.setCell (p := ⟨o, 2, none⟩) how _).setCell (p := ⟨o, 3, none⟩) how _
    refine ⟨four_set hx2 _ _ _ _, ?_, below_four hbW hqw⟩
    have hown1 : w1.ownsRow w.heap.size 74 2 (.slice fo n fc) n (flatF fs) := by
      refine ⟨hown.1, ?_⟩
      rcases hown.2 with h6 | ⟨g6, cap6, cur6, h7, h8, h9⟩
      · exact .inl h6
      · exact .inr ⟨g6, cap6, cur6, h7, by omega, h9⟩
    refine ⟨hown1.1, ?_⟩
    rcases hown.2 with h6 | ⟨g6, cap6, cur6, h7, h8, h9, h10⟩
    · exact .inl h6
    · refine .inr ⟨g6, cap6, cur6, h7, by omega, ?_, h10⟩
      have n1 : g6 ≠ q := by omega
      have n2 : g6 ≠ o := by omega
      unfold fourSet
      rw [heap_setCell_other _ _ g6 _ (fun e => n1 e), heap_setCell_other _ _ g6 _ (fun e => n1 e), heap_setCell_other _ _ g6 _ (fun e => n1 e), heap_setCell_other _ _ g6 _ (fun e => n1 e), hW, heap_setCell_other _ _ g6 _ (fun e => n2 e), heap_setCell_other _ _ g6 _ (fun e => n2 e)]
      exact h9
  obtain ⟨hh, hof, hbf⟩ := HFIN.out _ rfl
  obtain ⟨⟨k0, k1, k2, k3⟩, _⟩ := four_facts hh
  have HOF : Hid _ := hof
  have HBF : Hid _ := hbf
  unfold fourSet at k0 k1 k2 k3
  rw [← ho, ← hq, ← hc]
  clear x1 x2 x3 ho hq hc hw0 hs0 hb0 bb1 hown hbw1 hh hof hbf harg hB HFIN a0 a1 a2
  go_wp2_with fail
  exact bodyPost_ret (v := .agg #[.int .i64 m, .string p, .slice fo n fc, .string b]) (by simp [results, Tryz.results23, go_sem, k0, k1, k2, k3]) rfl ⟨_, rfl, HOF.out, HBF.out⟩

theorem three_facts {W : World} {R : Nat} {a b c : Value} {t : TypeId} (h : W.heap[R]? = some (.cells #[a, b, c] t)) :
    (W.cell? ⟨R, 0, none⟩ = some a ∧ W.cell? ⟨R, 1, none⟩ = some b ∧ W.cell? ⟨R, 2, none⟩ = some c) ∧ W.frozen? ⟨R, 0, none⟩ = false ∧ W.frozen? ⟨R, 1, none⟩ = false ∧ W.frozen? ⟨R, 2, none⟩ = false := by
  refine ⟨⟨?_, ?_, ?_⟩, ?_, ?_, ?_⟩ <;> simp [World.cell?, World.frozen?, h]
/-- The three cells of an answer's memory, written. -/
def threeSet (w : World) (r : Nat) (a b c : Value) : World := ((w.setCell ⟨r, 0, none⟩ a).setCell ⟨r, 1, none⟩ b).setCell ⟨r, 2, none⟩ c
theorem three_set {W : World} {R : Nat} {a b c : Value} {t : TypeId} (h : W.heap[R]? = some (.cells #[a, b, c] t)) (a' b' c' : Value) : (threeSet W R a' b' c').heap[R]? = some (.cells #[a', b', c'] t) := by
  have := heap_set _ R 2 _ _ _ c' (heap_set _ R 1 _ _ _ b' (heap_set W R 0 _ _ _ a' h))
  simpa [threeSet] using this
theorem below_three {w W : World} {B R : Nat} {a b c : Value} (h : Below B w W) (hR : B ≤ R) : Below B w (threeSet W R a b c) :=
  ((h.setCell (p := ⟨R, 0, none⟩) hR _).setCell (p := ⟨R, 1, none⟩) hR _).setCell (p := ⟨R, 2, none⟩) hR _

set_option maxHeartbeats 2000000 in
set_option maxRecDepth 100000 in
theorem toResp_any (m : Int) (a : Option Addr) (n cap : Nat) (b : ByteArray) (fs : List (ByteArray × ByteArray)) (B : Nat) (w : World) (harg : ArgF w B a n fs) (hB : B ≤ w.heap.size) (hn : n ≤ 1048576) :
    Calls Tryz.prog 77 #[.agg #[.int .i64 m, .slice a n cap, .string b]] w fun e w' => ∃ v, e = .returned (.agg #[.int .i64 m, v, .string b]) ∧ w'.ownsRow w.heap.size 74 2 v n (flatF fs) ∧ Below w.heap.size w w' := by
  obtain ⟨w0, hw0⟩ : ∃ W, W = (((w.alloc (.cells #[.int .i64 m, .slice a n cap, .string b] 52)).alloc (.cells #[.int .i64 0, .slice none 0 0, .string ⟨#[]⟩] 29)).alloc (.cells #[.int .i64 m, .slice none 0 0, .string ⟨#[]⟩] 29)) := ⟨_, rfl⟩
  have hs0 : w0.heap.size = w.heap.size + 1 + 1 + 1 := by rw [hw0]; simp
  have hb0 : Below w.heap.size w w0 := by rw [hw0]; exact (((Below.refl _ w).alloc (Nat.le_refl _) _).alloc (by simp) _).alloc (by simp; omega) _
  have x1 : w0.heap[w.heap.size]? = some (.cells #[.int .i64 m, .slice a n cap, .string b] 52) := by
    rw [hw0, heap_alloc_old _ _ (by simp; omega), heap_alloc_old _ _ (by simp)]; exact heap_alloc_new w _
  have x2 : w0.heap[w.heap.size + 1]? = some (.cells #[.int .i64 0, .slice none 0 0, .string ⟨#[]⟩] 29) := by
    rw [hw0, heap_alloc_old _ _ (by simp)]
    have := heap_alloc_new (w.alloc (.cells #[.int .i64 m, .slice a n cap, .string b] 52)) (.cells #[.int .i64 0, .slice none 0 0, .string ⟨#[]⟩] 29)
    simpa using this
  have x3 : w0.heap[w.heap.size + 1 + 1]? = some (.cells #[.int .i64 m, .slice none 0 0, .string ⟨#[]⟩] 29) := by
    rw [hw0]
    have := heap_alloc_new ((w.alloc (.cells #[.int .i64 m, .slice a n cap, .string b] 52)).alloc (.cells #[.int .i64 0, .slice none 0 0, .string ⟨#[]⟩] 29)) (.cells #[.int .i64 m, .slice none 0 0, .string ⟨#[]⟩] 29)
    simpa using this
  go_enter Tryz.func77, Tryz.ntmps77
  go_wp2_with fail
  rw [← hw0]
  refine (toFieldS_any B a n cap fs _ (harg.below (hb0.mono hB)) (by omega) hn).mono ?_
  rintro e w1 ⟨v, rfl, hown, bb1⟩
  obtain ⟨fo, fc, rfl⟩ := slice_of_owns hown
  rw [← bb1.block _ (by omega)] at x1 x2 x3
  obtain ⟨o, ho⟩ : ∃ o, o = w.heap.size + 1 + 1 := ⟨_, rfl⟩
  obtain ⟨q, hq⟩ : ∃ q, q = w.heap.size + 1 := ⟨_, rfl⟩
  obtain ⟨c, hc⟩ : ∃ c, c = w.heap.size := ⟨_, rfl⟩
  rw [← ho] at x3
  rw [← hq] at x2
  rw [← hc] at x1
  have hqo : q ≠ o := by omega
  have hco : c ≠ o := by omega
  have hoq : o ≠ q := by omega
  have hoc : o ≠ c := by omega
  have hqw : w.heap.size ≤ q := by omega
  have how : w.heap.size ≤ o := by omega
  obtain ⟨⟨a0, a1, a2⟩, _⟩ := three_facts x1
  obtain ⟨⟨b0, b1, b2⟩, e0, e1, e2⟩ := three_facts x2
  obtain ⟨⟨d0, d1, d2⟩, f0, f1, f2⟩ := three_facts x3
  have hbw1 : Below w.heap.size w w1 := hb0.trans (bb1.mono hb0.size)
  have HFIN : Hid (∀ W : World, W = (w1.setCell ⟨o, 1, none⟩ (.slice fo n fc)).setCell ⟨o, 2, none⟩ (.string b) → ((threeSet W q (.int .i64 m) (.slice fo n fc) (.string b)).heap[q]? = some (.cells #[.int .i64 m, .slice fo n fc, .string b] 29)) ∧ (threeSet W q (.int .i64 m) (.slice fo n fc) (.string b)).ownsRow w.heap.size 74 2 (.slice fo n fc) n (flatF fs) ∧ Below w.heap.size w (threeSet W q (.int .i64 m) (.slice fo n fc) (.string b))) := fun W hW => by
    have hx2 : W.heap[q]? = some (.cells #[.int .i64 0, .slice none 0 0, .string ⟨#[]⟩] 29) := by rw [hW, heap_setCell_other _ _ q _ (fun e => hqo e), heap_setCell_other _ _ q _ (fun e => hqo e)]; exact x2
    have hbW : Below w.heap.size w W := by rw [hW]; exact (hbw1.setCell (p := ⟨o, 1, none⟩) how _).setCell (p := ⟨o, 2, none⟩) how _
    refine ⟨three_set hx2 _ _ _, ?_, below_three hbW hqw⟩
    have hown1 : w1.ownsRow w.heap.size 74 2 (.slice fo n fc) n (flatF fs) := by
      refine ⟨hown.1, ?_⟩
      rcases hown.2 with h6 | ⟨g6, cap6, cur6, h7, h8, h9⟩
      · exact .inl h6
      · exact .inr ⟨g6, cap6, cur6, h7, by omega, h9⟩
    refine ⟨hown1.1, ?_⟩
    rcases hown.2 with h6 | ⟨g6, cap6, cur6, h7, h8, h9, h10⟩
    · exact .inl h6
    · refine .inr ⟨g6, cap6, cur6, h7, by omega, ?_, h10⟩
      have n1 : g6 ≠ q := by omega
      have n2 : g6 ≠ o := by omega
      unfold threeSet
      rw [heap_setCell_other _ _ g6 _ (fun e => n1 e), heap_setCell_other _ _ g6 _ (fun e => n1 e), heap_setCell_other _ _ g6 _ (fun e => n1 e), hW, heap_setCell_other _ _ g6 _ (fun e => n2 e), heap_setCell_other _ _ g6 _ (fun e => n2 e)]
      exact h9
  obtain ⟨hh, hof, hbf⟩ := HFIN.out _ rfl
  obtain ⟨⟨k0, k1, k2⟩, _⟩ := three_facts hh
  have HOF : Hid _ := hof
  have HBF : Hid _ := hbf
  unfold threeSet at k0 k1 k2
  rw [← ho, ← hq, ← hc]
  clear x1 x2 x3 ho hq hc hw0 hs0 hb0 bb1 hown hbw1 hh hof hbf harg hB HFIN a0 a1
  go_wp2_with fail
  exact bodyPost_ret (v := .agg #[.int .i64 m, .slice fo n fc, .string b]) (by simp [results, Tryz.results77, go_sem, k0, k1, k2]) rfl ⟨_, rfl, HOF.out, HBF.out⟩

set_option maxHeartbeats 2000000 in
set_option maxRecDepth 100000 in
theorem eqReq_any (m : Int) (p : ByteArray) (v1 v2 : Value) (b : ByteArray) (n b1 b2 : Nat) (fs : List (ByteArray × ByteArray)) (w : World) (h1 : FieldsV w b1 v1 n fs) (h2 : FieldsV w b2 v2 n fs) (hn : n ≤ 2000000) :
    Calls Tryz.prog 26 #[.agg #[.int .i64 m, .string p, v1, .string b], .agg #[.int .i64 m, .string p, v2, .string b]] w fun e w' => e = .returned (.bool true) ∧ Below w.heap.size w w' := by
  obtain ⟨oa, ca, rfl, _⟩ := h1.slice
  obtain ⟨ob, cb, rfl, _⟩ := h2.slice
  have tp : (p.toList == p.toList) = true := by simp
  have tb : (b.toList == b.toList) = true := by simp
  have tm : (m != m) = false := by simp
  obtain ⟨w0, hw0⟩ : ∃ W, W = ((w.alloc (.cells #[.int .i64 m, .string p, .slice oa n ca, .string b] 26)).alloc (.cells #[.int .i64 m, .string p, .slice ob n cb, .string b] 26)) := ⟨_, rfl⟩
  have hs0 : w0.heap.size = w.heap.size + 1 + 1 := by rw [hw0]; simp
  have hb0 : Below w.heap.size w w0 := by rw [hw0]; exact ((Below.refl _ w).alloc (Nat.le_refl _) _).alloc (by simp) _
  have x1 : w0.heap[w.heap.size]? = some (.cells #[.int .i64 m, .string p, .slice oa n ca, .string b] 26) := by
    rw [hw0, heap_alloc_old _ _ (by simp)]; exact heap_alloc_new w _
  have x2 : w0.heap[w.heap.size + 1]? = some (.cells #[.int .i64 m, .string p, .slice ob n cb, .string b] 26) := by
    rw [hw0]
    have := heap_alloc_new (w.alloc (.cells #[.int .i64 m, .string p, .slice oa n ca, .string b] 26)) (.cells #[.int .i64 m, .string p, .slice ob n cb, .string b] 26)
    simpa using this
  go_enter Tryz.func26, Tryz.ntmps26
  go_wp2_with fail
  rw [← hw0]
  refine (eqFieldS_any _ _ n b1 b2 fs _ (h1.below hb0) (h2.below hb0) hn).mono ?_
  rintro e w1 ⟨rfl, bb1⟩
  rw [← bb1.block _ (by omega)] at x1 x2
  obtain ⟨q, hq⟩ : ∃ q, q = w.heap.size + 1 := ⟨_, rfl⟩
  obtain ⟨c, hc⟩ : ∃ c, c = w.heap.size := ⟨_, rfl⟩
  rw [← hq] at x2
  rw [← hc] at x1
  have y1 : w1.cell? ⟨c, 3, none⟩ = some (.string b) := by simp [World.cell?, x1]
  have y2 : w1.cell? ⟨q, 3, none⟩ = some (.string b) := by simp [World.cell?, x2]
  have hbw1 : Below w.heap.size w w1 := hb0.trans (bb1.mono hb0.size)
  rw [← hq, ← hc]
  clear x1 x2 hq hc hw0 hs0 hb0 bb1 h1 h2
  go_wp2
  go_ret
  exact ⟨rfl, hbw1⟩

set_option maxHeartbeats 2000000 in
set_option maxRecDepth 100000 in
theorem eqResp_any (m : Int) (v1 v2 : Value) (b : ByteArray) (n b1 b2 : Nat) (fs : List (ByteArray × ByteArray)) (w : World) (h1 : FieldsV w b1 v1 n fs) (h2 : FieldsV w b2 v2 n fs) (hn : n ≤ 2000000) :
    Calls Tryz.prog 25 #[.agg #[.int .i64 m, v1, .string b], .agg #[.int .i64 m, v2, .string b]] w fun e w' => e = .returned (.bool true) ∧ Below w.heap.size w w' := by
  obtain ⟨oa, ca, rfl, _⟩ := h1.slice
  obtain ⟨ob, cb, rfl, _⟩ := h2.slice
  have tb : (b.toList == b.toList) = true := by simp
  have tm : (m != m) = false := by simp
  obtain ⟨w0, hw0⟩ : ∃ W, W = ((w.alloc (.cells #[.int .i64 m, .slice oa n ca, .string b] 29)).alloc (.cells #[.int .i64 m, .slice ob n cb, .string b] 29)) := ⟨_, rfl⟩
  have hs0 : w0.heap.size = w.heap.size + 1 + 1 := by rw [hw0]; simp
  have hb0 : Below w.heap.size w w0 := by rw [hw0]; exact ((Below.refl _ w).alloc (Nat.le_refl _) _).alloc (by simp) _
  have x1 : w0.heap[w.heap.size]? = some (.cells #[.int .i64 m, .slice oa n ca, .string b] 29) := by
    rw [hw0, heap_alloc_old _ _ (by simp)]; exact heap_alloc_new w _
  have x2 : w0.heap[w.heap.size + 1]? = some (.cells #[.int .i64 m, .slice ob n cb, .string b] 29) := by
    rw [hw0]
    have := heap_alloc_new (w.alloc (.cells #[.int .i64 m, .slice oa n ca, .string b] 29)) (.cells #[.int .i64 m, .slice ob n cb, .string b] 29)
    simpa using this
  go_enter Tryz.func25, Tryz.ntmps25
  go_wp2_with fail
  rw [← hw0]
  refine (eqFieldS_any _ _ n b1 b2 fs _ (h1.below hb0) (h2.below hb0) hn).mono ?_
  rintro e w1 ⟨rfl, bb1⟩
  rw [← bb1.block _ (by omega)] at x1 x2
  obtain ⟨q, hq⟩ : ∃ q, q = w.heap.size + 1 := ⟨_, rfl⟩
  obtain ⟨c, hc⟩ : ∃ c, c = w.heap.size := ⟨_, rfl⟩
  rw [← hq] at x2
  rw [← hc] at x1
  have y1 : w1.cell? ⟨c, 2, none⟩ = some (.string b) := by simp [World.cell?, x1]
  have y2 : w1.cell? ⟨q, 2, none⟩ = some (.string b) := by simp [World.cell?, x2]
  have hbw1 : Below w.heap.size w w1 := hb0.trans (bb1.mono hb0.size)
  rw [← hq, ← hc]
  clear x1 x2 hq hc hw0 hs0 hb0 bb1 h1 h2
  go_wp2
  go_ret
  exact ⟨rfl, hbw1⟩

end Go.Proofs.YtmcmeeibogkpaaaGreatDoorR

namespace Go.Proofs.YtmcmeeibogkpaaaGreatDoorR
open Go.RowKit
open Go.Lib hiding intOf

/-- 'wpAnyH_take', its place named. -/
theorem wpAnyH_takeD {P : Program} {ops : Array Oper} {Q : Exit → Act → World → Prop} {md : Region.Mode} {S : World → Prop} {i : Nat} {oi : Oper} {v : Value} {fuel : Nat} {listed : Array Bool} {a : Act} {w : World} (d : Option Tmp) (hi : ops[i]? = some oi) (hd : oi.dst = d)
    (hs : Region.noSelect ops = true) (hf : Region.free md ops listed i = true) (hr : (Region.ready md ops listed).contains i = true)
    (hQ : ∀ c a w, Q (.panic c) (a.put oi.dst v) w → Q (.panic c) a w) (hy : YieldsIf P ops S oi v a) (hS : S w)
    (h : wpAnyH P md ops Q S fuel (listed.setIfInBounds i true) (a.put d v) w) : wpAnyH P md ops Q S (fuel + 1) listed a w :=
  wpAnyH_take hi hs hf hr hQ hy hS (hd ▸ h)
end Go.Proofs.YtmcmeeibogkpaaaGreatDoorR

namespace Go.Proofs.YtmcmeeibogkpaaaGreatDoorR
open Go.RowKit
open Go.Lib hiding intOf

/-- A call answers an answer with these fields, in memory of its own. -/
def RespRow (st : Int) (fs : List (ByteArray × ByteArray)) (b : ByteArray) (w : World) (e : Ending) (w' : World) : Prop :=
  ∃ v, e = .returned (.agg #[.int .i64 st, v, .string b]) ∧ w'.ownsRow w.heap.size 74 2 v fs.length (flatF fs) ∧ Below w.heap.size w w'
theorem three_other (W : World) (r j : Nat) (a b c : Value) (h : j ≠ r) : (threeSet W r a b c).heap[j]? = W.heap[j]? := by
  unfold threeSet
  rw [heap_setCell_other _ _ j _ h, heap_setCell_other _ _ j _ h, heap_setCell_other _ _ j _ h]

set_option maxHeartbeats 1000000 in
set_option maxRecDepth 100000 in
theorem l9Resp_any (st : Int) (v : Value) (b : ByteArray) (n base : Nat) (fs : List (ByteArray × ByteArray)) (w : World) (hv : FieldsV w base v n fs) (hn : n ≤ 2000000) :
    Calls Tryz.prog 44 #[.agg #[.int .i64 st, v, .string b]] w fun e w' => RespRow st fs b w e w' := by
  obtain ⟨oa, cap, rfl, _⟩ := hv.slice
  obtain ⟨r, hr⟩ : ∃ r, r = w.heap.size := ⟨_, rfl⟩
  have HR : Hid (w.heap.size = r) := hr.symm
  obtain ⟨W1, hW1⟩ : ∃ W, W = (w.alloc (.cells #[.int .i64 st, .slice oa n cap, .string b] 29)).alloc (.cells #[.int .i64 0, .slice none 0 0, .string ⟨#[]⟩] 29) := ⟨_, rfl⟩
  have HW1 : Hid ((w.alloc (.cells #[.int .i64 st, .slice oa n cap, .string b] 29)).alloc (.cells #[.int .i64 0, .slice none 0 0, .string ⟨#[]⟩] 29) = W1) := hW1.symm
  have b1 : Below r w W1 := by rw [hW1, hr]; exact ((Below.refl _ w).alloc (Nat.le_refl _) _).alloc (by simp) _
  have hv1 := hv.below (by rw [hr] at b1; exact b1)
  have s1 : (w.alloc (.cells #[.int .i64 st, .slice oa n cap, .string b] 29)).heap.size = r + 1 := by rw [hr]; simp
  have s2 : W1.heap.size = r + 1 + 1 := by rw [hW1, hr]; simp
  have H0 : Hid (W1.heap[r]? = some (.cells #[.int .i64 st, .slice oa n cap, .string b] 29) ∧ W1.heap[r + 1]? = some (.cells #[.int .i64 0, .slice none 0 0, .string ⟨#[]⟩] 29) ∧ Below r w W1) := by
    have e0 := heap_alloc_new w (.cells #[.int .i64 st, .slice oa n cap, .string b] 29)
    have e1 := heap_alloc_new (w.alloc (.cells #[.int .i64 st, .slice oa n cap, .string b] 29)) (.cells #[.int .i64 0, .slice none 0 0, .string ⟨#[]⟩] 29)
    rw [← hr] at e0
    rw [s1, ← hW1] at e1
    have c1 : Below (r + 1) (w.alloc (.cells #[.int .i64 st, .slice oa n cap, .string b] 29)) W1 := by rw [hW1, ← s1]; exact (Below.refl _ _).alloc (Nat.le_refl _) _
    exact ⟨by rw [c1.block r (by omega)]; exact e0, e1, b1⟩
  obtain ⟨⟨_, c1, _⟩, _⟩ := three_facts H0.out.1
  have HS2 : Hid (W1.heap.size = r + 1 + 1) := s2
  have HL : Hid (fs.length = n) := hv.len
  clear hW1 hv b1 s1 s2
  go_enter Tryz.func44, Tryz.ntmps44
  go_upto_region 1 with fail
  rw [HW1.out, ← hr]
  clear hr HW1
  go_wp2_with fail
  refine (l9Copy_any _ n base fs _ hv1 hn).mono ?_
  rintro e w2 ⟨z, rfl, own, b2⟩
  obtain ⟨oz, cz, rfl⟩ := slice_of_owns own
  rw [HL.out] at own ⊢
  have hs2 := HS2.out
  rw [hs2] at own b2
  have H2 : Hid (w2.heap[r]? = some (.cells #[.int .i64 st, .slice oa n cap, .string b] 29) ∧ w2.heap[r + 1]? = some (.cells #[.int .i64 0, .slice none 0 0, .string ⟨#[]⟩] 29) ∧ Below r w w2) :=
    ⟨by rw [b2.block r (by omega)]; exact H0.out.1, by rw [b2.block (r + 1) (by omega)]; exact H0.out.2.1, H0.out.2.2.trans (b2.mono (by omega))⟩
  have HO2 : Hid (w2.ownsRow (r + 1 + 1) 74 2 (.slice oz n cz) n (flatF fs)) := own
  obtain ⟨⟨_, d1, _⟩, _, y1, _⟩ := three_facts H2.out.1
  clear own b2 hs2 c1 hv1 H0 HS2
  have H3 : Hid ((w2.setCell ⟨r, 1, none⟩ (.slice oz n cz)).heap[r]? = some (.cells #[.int .i64 st, .slice oz n cz, .string b] 29) ∧ (w2.setCell ⟨r, 1, none⟩ (.slice oz n cz)).heap[r + 1]? = some (.cells #[.int .i64 0, .slice none 0 0, .string ⟨#[]⟩] 29)) := by
    refine ⟨?_, by rw [heap_setCell_other _ _ (r + 1) _ (by show r + 1 ≠ r; omega)]; exact H2.out.2.1⟩
    have := heap_set w2 r 1 _ _ _ (.slice oz n cz) H2.out.1
    simpa using this
  obtain ⟨⟨f0, f1, f2⟩, _⟩ := three_facts H3.out.1
  obtain ⟨⟨g0, g1, g2⟩, x0, x1, x2⟩ := three_facts H3.out.2
  have hset := three_set H3.out.2 (.int .i64 st) (.slice oz n cz) (.string b)
  obtain ⟨⟨k0, k1, k2⟩, _⟩ := three_facts hset
  have HFB : Hid (Below r w (threeSet (w2.setCell ⟨r, 1, none⟩ (.slice oz n cz)) (r + 1) (.int .i64 st) (.slice oz n cz) (.string b))) := below_three (H2.out.2.2.setCell (Nat.le_refl _) _) (by omega)
  have HFO : Hid ((threeSet (w2.setCell ⟨r, 1, none⟩ (.slice oz n cz)) (r + 1) (.int .i64 st) (.slice oz n cz) (.string b)).ownsRow r 74 2 (.slice oz n cz) fs.length (flatF fs)) := by
    show World.ownsRow _ _ _ _ _ _ _
    rw [HL.out]
    refine owns_same (owns_wide HO2.out (by omega)) (fun j hj => ?_)
    have hj2 := owns_ge HO2.out hj
    rw [three_other _ _ j _ _ _ (by omega), heap_setCell_other _ _ j _ (by show j ≠ r; omega)]
  unfold threeSet at k0 k1 k2 HFB HFO
  clear hset H2 H3 HO2
  go_wp2_with fail
  refine bodyPost_ret (v := .agg #[.int .i64 st, .slice oz n cz, .string b]) (by simp [results, Tryz.results44, go_sem, k0, k1, k2]) rfl ?_
  exact ⟨_, rfl, by rw [HR.out]; exact HFO.out, by rw [HR.out]; exact HFB.out⟩

/-- While answers are merged: both arguments, the answer's memory, the answer that is made and its fields. -/
structure MgSt (w : World) (r o : Nat) (st : Int) (va : Value) (b : ByteArray) (st2 : Int) (vb : Value) (c : ByteArray) (z : Value) (P : List (ByteArray × ByteArray)) (W : World) : Prop where
  q0 : W.heap[r]? = some (.cells #[.int .i64 st, va, .string b] 29)
  q1 : W.heap[r + 1]? = some (.cells #[.int .i64 st2, vb, .string c] 29)
  q2 : W.heap[r + 1 + 1]? = some (.cells #[.int .i64 0, .slice none 0 0, .string ⟨#[]⟩] 29)
  q3 : W.heap[o]? = some (.cells #[.int .i64 st, z, .string b] 29)
  own : W.ownsRow (r + 1 + 1 + 1) 74 2 z P.length (flatF P)
  ne : ∀ j, z.ownBlock = some j → j ≠ o
  ge : r + 1 + 1 + 1 ≤ o
  low : Below r w W
theorem MgSt.lt {w : World} {r o : Nat} {st : Int} {va : Value} {b : ByteArray} {st2 : Int} {vb : Value} {c : ByteArray} {z : Value} {P : List (ByteArray × ByteArray)} {W : World} (h : MgSt w r o st va b st2 vb c z P W) : o < W.heap.size := (Array.getElem?_eq_some_iff.1 h.q3).1
theorem MgSt.below {w : World} {r o : Nat} {st : Int} {va : Value} {b : ByteArray} {st2 : Int} {vb : Value} {c : ByteArray} {z : Value} {P : List (ByteArray × ByteArray)} {W : World} {W' : World} (h : MgSt w r o st va b st2 vb c z P W) (hb : Below W.heap.size W W') : MgSt w r o st va b st2 vb c z P W' := by
  have hs := h.lt
  have hg := h.ge
  exact ⟨by rw [hb.block _ (by omega)]; exact h.q0, by rw [hb.block _ (by omega)]; exact h.q1, by rw [hb.block _ (by omega)]; exact h.q2, by rw [hb.block _ hs]; exact h.q3, owns_same h.own (fun j hj => hb.block j (owns_lt h.own hj)), h.ne, hg, h.low.trans (hb.mono (by omega))⟩
theorem MgSt.set {w : World} {r o : Nat} {st : Int} {va : Value} {b : ByteArray} {st2 : Int} {vb : Value} {c : ByteArray} {z : Value} {P : List (ByteArray × ByteArray)} {W : World} {W' : World} (h : MgSt w r o st va b st2 vb c z P W) (hb : Below W.heap.size W W') {y : Value} {Q : List (ByteArray × ByteArray)} (hy : W'.ownsRow W.heap.size 74 2 y Q.length (flatF Q)) : MgSt w r o st va b st2 vb c y Q (W'.setCell ⟨o, 1, none⟩ y) := by
  have h' := h.below hb
  have hs := h.lt
  have hg := h.ge
  have hne : ∀ j, y.ownBlock = some j → j ≠ o := fun j hj => by have := owns_ge hy hj; omega
  refine ⟨by rw [heap_setCell_other _ _ r _ (by show r ≠ o; omega)]; exact h'.q0, by rw [heap_setCell_other _ _ (r + 1) _ (by show r + 1 ≠ o; omega)]; exact h'.q1, by rw [heap_setCell_other _ _ (r + 1 + 1) _ (by show r + 1 + 1 ≠ o; omega)]; exact h'.q2, ?_, owns_same (owns_wide hy (by omega)) (fun j hj => heap_setCell_other _ _ j _ (hne j hj)), hne, hg, h'.low.setCell (by show r ≤ o; omega) _⟩
  have := heap_set W' o 1 _ _ _ y h'.q3
  simpa using this

end Go.Proofs.YtmcmeeibogkpaaaGreatDoorR
