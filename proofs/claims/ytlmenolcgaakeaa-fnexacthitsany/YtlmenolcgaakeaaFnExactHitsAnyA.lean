/- What the proof of FnExactHitsAny leans on: contracts of the program's and the specification's functions, and plain facts (part 1 of 5). -/
import Derived.Test.YtlmenolcgaakeaaProg
import Derived.Test.YtlmenolcgaakeaaRows
import Derived.Below
import Derived.BigQuiet
import Derived.ChangeOld
import Derived.Deep.CutRange
import Derived.Deep.DeepCutAuto
import Derived.Deep.DrawnRows
import Derived.Deep.QuietTactic
import Derived.Deep.RegionHeld3
import Derived.Deep.RegionLaw
import Derived.Deep.RegionWith
import Derived.Deep.SlicePairs
import Derived.Deep.Slices
import Derived.Laws.AppendOwnNone
import Derived.Laws.BytesArg
import Derived.Laws.EntriesVeiled
import Derived.Laws.MakeOwn
import Derived.Laws.RangeAny
import Derived.Laws.StructEq
import Derived.Lib.AppendIntMem
import Derived.Lib.BufferOwn
import Derived.Lib.ConvBytes
import Derived.Lib.CutLaws
import Derived.Lib.LaidTab
import Derived.Lib.SliceRun
import Derived.Lib.Strings
import Derived.Lib.Walk
import Derived.LoopIn
import Derived.LoopNIn
import Derived.OpenShut
import Derived.OwnWalkIn
import Derived.ProofKit
import Derived.RangeFuncBound
import Derived.RangeFuncBox
import Derived.RangeFuncCalls
import Derived.RangeFuncLeaves
import Derived.RangeFuncNested
import Derived.Shelf.Abstract
import Derived.Shelf.LaysM
import Derived.Shelf.RegionOpen
import Derived.Shelf.Slices.Empties2
import Derived.Shelf.Slices.Equal
import Derived.Shelf.Strconv.Clone
import Derived.Shelf.Strings.Prefix
import Derived.ShutString
import Derived.SliceStrings
import Derived.TacticsInMore
import Derived.WalkKit
import Derived.WalkLawsBesides
import Derived.WalkSpells
namespace Go.Proofs.Ytlmenolcgaakeaa
open Go.RowKit

/-- The kind of a rune, in the order of the tests. -/
def cls (r : Int) : Int :=
  if 65 ≤ r ∧ r ≤ 90 then 0 else if 97 ≤ r ∧ r ≤ 122 then 1 else if 48 ≤ r ∧ r ≤ 57 then 2 else if r = 45 then 3 else if r = 32 then 4 else if r = 44 then 5 else if 32 ≤ r ∧ r ≤ 126 then 6 else 7

def testsV : Value := .agg #[.func (.func 79) #[] #[], .func (.func 80) #[] #[], .func (.func 81) #[] #[], .func (.func 82) #[] #[], .func (.func 83) #[] #[], .func (.func 84) #[] #[], .func (.func 85) #[] #[]]

theorem cls_spec (r : Int) : (cls r = 0 ∧ 65 ≤ r ∧ r ≤ 90) ∨ (cls r = 1 ∧ 97 ≤ r ∧ r ≤ 122) ∨ (cls r = 2 ∧ 48 ≤ r ∧ r ≤ 57) ∨ (cls r = 3 ∧ r = 45) ∨ (cls r = 4 ∧ r = 32) ∨ (cls r = 5 ∧ r = 44) ∨ (cls r = 6 ∧ 32 ≤ r ∧ r ≤ 126 ∧ (r < 65 ∨ 90 < r) ∧ (r < 97 ∨ 122 < r) ∧ (r < 48 ∨ 57 < r) ∧ r ≠ 45 ∧ r ≠ 32 ∧ r ≠ 44) ∨ (cls r = 7 ∧ (r < 32 ∨ 126 < r)) := by
  unfold cls
  repeat' split
  all_goals omega

theorem ret_int {k : IntKind} {a b : Int} (h : a = b) : Ending.returned (.int k a) = .returned (.int k b) := by rw [h]

set_option maxHeartbeats 400000 in
theorem byteTests_any (w : World) :
    Calls Try.prog 75 #[] w fun e w' => e = .returned testsV ∧ Below w.heap.size w w' := by
  go_enter Try.func75, Try.ntmps75
  go_wp2
  exact bodyPost_ret (v := testsV) (by simp [results, Try.results75, go_sem, testsV]) rfl ⟨rfl, (Below.refl _ _).alloc (Nat.le_refl _) _⟩

set_option maxHeartbeats 1000000 in
theorem classOf_any (r : Int) (w : World) :
    Calls Try.prog 68 #[.int .i32 r] w fun e w' => e = .returned (.int .i64 (cls r)) ∧ Below w.heap.size w w' := by
  have i0 : ∀ w : World, (Instr.index 105 testsV (.int .i64 0)).run Try.prog w = .ok (.func (.func 79) #[] #[]) w := fun _ => by kernel_rfl
  have i1 : ∀ w : World, (Instr.index 105 testsV (.int .i64 1)).run Try.prog w = .ok (.func (.func 80) #[] #[]) w := fun _ => by kernel_rfl
  have i2 : ∀ w : World, (Instr.index 105 testsV (.int .i64 2)).run Try.prog w = .ok (.func (.func 81) #[] #[]) w := fun _ => by kernel_rfl
  have i3 : ∀ w : World, (Instr.index 105 testsV (.int .i64 3)).run Try.prog w = .ok (.func (.func 82) #[] #[]) w := fun _ => by kernel_rfl
  have i4 : ∀ w : World, (Instr.index 105 testsV (.int .i64 4)).run Try.prog w = .ok (.func (.func 83) #[] #[]) w := fun _ => by kernel_rfl
  have i5 : ∀ w : World, (Instr.index 105 testsV (.int .i64 5)).run Try.prog w = .ok (.func (.func 84) #[] #[]) w := fun _ => by kernel_rfl
  have i6 : ∀ w : World, (Instr.index 105 testsV (.int .i64 6)).run Try.prog w = .ok (.func (.func 85) #[] #[]) w := fun _ => by kernel_rfl
  go_enter Try.func68, Try.ntmps68
  go_wp2_with (go_at_call 75; refine (byteTests_any _).mono ?_; rintro e w1 ⟨rfl, hb⟩)
  go_loop [6] (fun i => ∃ k : Nat, k ≤ 7 ∧ (k : Int) ≤ cls r ∧ i = .int .i64 k) (fun i => 7 - (intOf i).toNat)
  case atStart => exact ⟨0, by omega, by have := cls_spec r; omega, rfl⟩
  case round =>
    obtain ⟨k, hk, hc, rfl⟩ := hrel
    have hk5 : k = 0 ∨ k = 1 ∨ k = 2 ∨ k = 3 ∨ k = 4 ∨ k = 5 ∨ k = 6 ∨ k = 7 := by omega
    rcases hk5 with rfl | rfl | rfl | rfl | rfl | rfl | rfl | rfl
    all_goals have HS : Hid _ := cls_spec r
    · go_wp2
      · go_ret
        exact ⟨ret_int (by have := HS.out; omega), hb⟩
      · go_round
        case rel => exact ⟨1, by omega, by have := HS.out; omega, rfl⟩
        case measure => simp [intOf]
      · go_round
        case rel => exact ⟨1, by omega, by have := HS.out; omega, rfl⟩
        case measure => simp [intOf]
    · go_wp2
      · go_ret
        exact ⟨ret_int (by have := HS.out; omega), hb⟩
      · go_round
        case rel => exact ⟨2, by omega, by have := HS.out; omega, rfl⟩
        case measure => simp [intOf]
      · go_round
        case rel => exact ⟨2, by omega, by have := HS.out; omega, rfl⟩
        case measure => simp [intOf]
    · go_wp2
      · go_ret
        exact ⟨ret_int (by have := HS.out; omega), hb⟩
      · go_round
        case rel => exact ⟨3, by omega, by have := HS.out; omega, rfl⟩
        case measure => simp [intOf]
      · go_round
        case rel => exact ⟨3, by omega, by have := HS.out; omega, rfl⟩
        case measure => simp [intOf]
    · by_cases hv : r = 45
      · have ht : (r == 45) = true := beq_iff_eq.2 hv
        have HV : Hid (r = 45) := hv
        clear hv
        go_wp2
        go_ret
        exact ⟨ret_int (by have := HS.out; have := HV.out; omega), hb⟩
      · have ht : (r == 45) = false := beq_eq_false_iff_ne.2 hv
        go_wp2
        go_round
        case rel => exact ⟨4, by omega, by have := HS.out; omega, rfl⟩
        case measure => simp [intOf]
    · by_cases hv : r = 32
      · have ht : (r == 32) = true := beq_iff_eq.2 hv
        have HV : Hid (r = 32) := hv
        clear hv
        go_wp2
        go_ret
        exact ⟨ret_int (by have := HS.out; have := HV.out; omega), hb⟩
      · have ht : (r == 32) = false := beq_eq_false_iff_ne.2 hv
        go_wp2
        go_round
        case rel => exact ⟨5, by omega, by have := HS.out; omega, rfl⟩
        case measure => simp [intOf]
    · by_cases hv : r = 44
      · have ht : (r == 44) = true := beq_iff_eq.2 hv
        have HV : Hid (r = 44) := hv
        clear hv
        go_wp2
        go_ret
        exact ⟨ret_int (by have := HS.out; have := HV.out; omega), hb⟩
      · have ht : (r == 44) = false := beq_eq_false_iff_ne.2 hv
        go_wp2
        go_round
        case rel => exact ⟨6, by omega, by have := HS.out; omega, rfl⟩
        case measure => simp [intOf]
    · go_wp2
      · go_ret
        exact ⟨ret_int (by have := HS.out; omega), hb⟩
      · go_round
        case rel => exact ⟨7, by omega, by have := HS.out; omega, rfl⟩
        case measure => simp [intOf]
      · go_round
        case rel => exact ⟨7, by omega, by have := HS.out; omega, rfl⟩
        case measure => simp [intOf]
    · go_wp2
      go_ret
      exact ⟨ret_int (by have := HS.out; omega), hb⟩
end Go.Proofs.Ytlmenolcgaakeaa

namespace Go.Proofs.Ytlmenolcgaakeaa
open Go.RowKit
open Go.Lib hiding intOf

/-- The bytes of a token. -/
def TokB (n : Int) : Prop := (97 ≤ n ∧ n ≤ 122) ∨ (48 ≤ n ∧ n ≤ 57) ∨ n = 45
def ValB (n : Int) : Prop := 32 ≤ n ∧ n ≤ 126
theorem tok_cls (n : Int) : TokB n ↔ cls n = 1 ∨ cls n = 2 ∨ cls n = 3 := by
  have := cls_spec n; unfold TokB; omega
theorem val_cls (n : Int) : ValB n ↔ cls n ≠ 7 := by
  have := cls_spec n; unfold ValB; omega
theorem tok_small {n : Int} (h : TokB n) : n < 128 := by unfold TokB at h; omega
theorem val_small {n : Int} (h : ValB n) : n < 128 := by unfold ValB at h; omega

/-- A call answers a bool that says whether p, and turns nothing that was there. -/
def BoolIs (p : Prop) (w : World) (e : Ending) (w' : World) : Prop := ∃ b : Bool, e = .returned (.bool b) ∧ (b = true ↔ p) ∧ Below w.heap.size w w'
theorem BoolIs.yes {p : Prop} {w w' : World} (hp : p) (hb : Below w.heap.size w w') : BoolIs p w (.returned (.bool true)) w' := ⟨true, rfl, by simpa using hp, hb⟩
theorem BoolIs.no {p : Prop} {w w' : World} (hp : ¬ p) (hb : Below w.heap.size w w') : BoolIs p w (.returned (.bool false)) w' := ⟨false, rfl, by simpa using hp, hb⟩

/-- Every byte of the text is such a one. -/
def AllB (p : Int → Prop) (s : ByteArray) : Prop := ∀ j (h : j < s.size), p ((s[j]'h).toNat : Int)
/-- Every byte ahead of 'pos' is such a one. -/
def AllTo (p : Int → Prop) (s : ByteArray) (pos : Nat) : Prop := ∀ j (h : j < s.size), j < pos → p ((s[j]'h).toNat : Int)
theorem allTo_zero (p : Int → Prop) (s : ByteArray) : AllTo p s 0 := fun _ _ h => absurd h (by omega)
theorem allTo_end {p : Int → Prop} {s : ByteArray} {pos : Nat} (h : AllTo p s pos) (hp : ¬ pos < s.size) : AllB p s := fun j hj => h j hj (by omega)
theorem allTo_succ {p : Int → Prop} {s : ByteArray} {pos : Nat} (h : AllTo p s pos) (hp : pos < s.size) (hv : p ((s[pos]'hp).toNat : Int)) : AllTo p s (pos + 1) := by
  intro j hj hlt
  by_cases e : j = pos
  · subst e; exact hv
  · exact h j hj (by omega)
/-- A rune that is such a one is a byte of its own. -/
theorem rune_ok {p : Int → Prop} (hs : ∀ n, p n → n < 128) (s : ByteArray) (pos : Nat) (hp : pos < s.size) (h : p ((Utf8.decode s pos).1 : Int)) :
    p ((s[pos]'hp).toNat : Int) ∧ (Utf8.decode s pos).2 = 1 := by
  by_cases ha : (s[pos]'hp).toNat < 128
  · rw [decode_ascii s pos hp ha] at h ⊢
    exact ⟨h, rfl⟩
  · have := (decode_high s pos hp (by omega)).1
    have := hs _ h
    omega
theorem rune_no {p : Int → Prop} (hs : ∀ n, p n → n < 128) (s : ByteArray) (pos : Nat) (hp : pos < s.size) (h : ¬ p ((Utf8.decode s pos).1 : Int)) : ¬ AllB p s := by
  intro ha
  have h1 := ha pos hp
  have h2 := hs _ h1
  rw [decode_ascii s pos hp (by omega)] at h
  exact h h1

/-- Behind a call that only makes memory the iterator stands where it was set. -/
theorem iter_step {w wr w1 : World} {s : ByteArray} {pos p1 : Nat} (hh : wr.heap[w.heap.size]? = some (.stringIter s pos)) (hbw : Below w.heap.size w wr)
    (hb1 : Below (wr.iterAt w.heap.size s p1).heap.size (wr.iterAt w.heap.size s p1) w1) : w1.heap[w.heap.size]? = some (.stringIter s p1) ∧ Below w.heap.size w w1 := by
  have hlt : w.heap.size < wr.heap.size := (Array.getElem?_eq_some_iff.1 hh).1
  refine ⟨?_, ?_⟩
  · rw [hb1.block _ (by rw [iterAt_size]; exact hlt)]
    exact iterAt_heap _ _ _ _ _ hh
  · exact (below_iterAt hbw (Nat.le_refl _) s p1).trans (hb1.mono (by rw [iterAt_size]; omega))

set_option maxHeartbeats 400000 in
theorem isTokenRune_any (r : Int) (w : World) :
    Calls Try.prog 72 #[.int .i32 r] w fun e w' => BoolIs (TokB r) w e w' := by
  rw [tok_cls]
  go_enter Try.func72, Try.ntmps72
  go_wp2_with (go_at_call 68; refine (classOf_any _ _).mono ?_; rintro e w1 ⟨rfl, hb⟩)
  all_goals
    go_ret
    exact ⟨_, rfl, by simp_all, hb⟩

set_option maxHeartbeats 400000 in
theorem isValueRune_any (r : Int) (w : World) :
    Calls Try.prog 73 #[.int .i32 r] w fun e w' => BoolIs (ValB r) w e w' := by
  rw [val_cls]
  go_enter Try.func73, Try.ntmps73
  go_wp2_with (go_at_call 68; refine (classOf_any _ _).mono ?_; rintro e w1 ⟨rfl, hb⟩)
  go_ret
  exact ⟨_, rfl, by simp, hb⟩

set_option maxHeartbeats 1000000 in
theorem allRunes_tok (s : ByteArray) (w : World) :
    Calls Try.prog 59 #[.string s, .func (.func 72) #[] #[]] w fun e w' => BoolIs (AllB TokB s) w e w' := by
  go_enter Try.func59, Try.ntmps59
  go_wp2
  go_loopw [6] (fun _ wr => ∃ pos : Nat, wr.heap[w.heap.size]? = some (.stringIter s pos) ∧ Below w.heap.size w wr ∧ Hid (AllTo TokB s pos)) (fun _ wr => s.size - wr.iterPos w.heap.size)
  case atStart => exact ⟨0, World.iter_heap _ _ _, (Below.refl _ _).alloc (Nat.le_refl _) _, allTo_zero _ _⟩
  case round =>
    obtain ⟨pos, hh, hbw, hall⟩ := hrel
    by_cases hp : pos < s.size
    · have hnx := fun ty => run_next_any_at (P := Try.prog) wr w.heap.size s pos ty hh hp
      go_wp2_with (go_at_call 72; refine (isTokenRune_any _ _).mono ?_; rintro e w1 ⟨b, rfl, hbt, hb1⟩)
      · have hbf : b = false := by simpa using ‹(!b) = true›
        have hno : ¬ TokB ((Utf8.decode s pos).1 : Int) := fun h => by rw [hbt.2 h] at hbf; cases hbf
        go_ret
        exact BoolIs.no (rune_no (fun _ => tok_small) s pos hp hno) (iter_step hh hbw hb1).2
      · have hbf : b = true := by simpa using ‹(!b) = false›
        obtain ⟨hv, hone⟩ := rune_ok (fun _ => tok_small) s pos hp (hbt.1 hbf)
        rw [hone] at hb1
        obtain ⟨h1, h2⟩ := iter_step hh hbw hb1
        exact ⟨⟨pos + 1, h1, h2, allTo_succ hall.out hp hv⟩, by rw [iterPos_of h1, iterPos_of hh]; omega⟩
    · have hnx := fun ty => run_next_end_at (P := Try.prog) wr w.heap.size s pos ty hh hp
      go_wp2
      go_ret
      exact BoolIs.yes (allTo_end hall.out hp) hbw

set_option maxHeartbeats 1000000 in
theorem allRunes_val (s : ByteArray) (w : World) :
    Calls Try.prog 59 #[.string s, .func (.func 73) #[] #[]] w fun e w' => BoolIs (AllB ValB s) w e w' := by
  go_enter Try.func59, Try.ntmps59
  go_wp2
  go_loopw [6] (fun _ wr => ∃ pos : Nat, wr.heap[w.heap.size]? = some (.stringIter s pos) ∧ Below w.heap.size w wr ∧ Hid (AllTo ValB s pos)) (fun _ wr => s.size - wr.iterPos w.heap.size)
  case atStart => exact ⟨0, World.iter_heap _ _ _, (Below.refl _ _).alloc (Nat.le_refl _) _, allTo_zero _ _⟩
  case round =>
    obtain ⟨pos, hh, hbw, hall⟩ := hrel
    by_cases hp : pos < s.size
    · have hnx := fun ty => run_next_any_at (P := Try.prog) wr w.heap.size s pos ty hh hp
      go_wp2_with (go_at_call 73; refine (isValueRune_any _ _).mono ?_; rintro e w1 ⟨b, rfl, hbt, hb1⟩)
      · have hbf : b = false := by simpa using ‹(!b) = true›
        have hno : ¬ ValB ((Utf8.decode s pos).1 : Int) := fun h => by rw [hbt.2 h] at hbf; cases hbf
        go_ret
        exact BoolIs.no (rune_no (fun _ => val_small) s pos hp hno) (iter_step hh hbw hb1).2
      · have hbf : b = true := by simpa using ‹(!b) = false›
        obtain ⟨hv, hone⟩ := rune_ok (fun _ => val_small) s pos hp (hbt.1 hbf)
        rw [hone] at hb1
        obtain ⟨h1, h2⟩ := iter_step hh hbw hb1
        exact ⟨⟨pos + 1, h1, h2, allTo_succ hall.out hp hv⟩, by rw [iterPos_of h1, iterPos_of hh]; omega⟩
    · have hnx := fun ty => run_next_end_at (P := Try.prog) wr w.heap.size s pos ty hh hp
      go_wp2
      go_ret
      exact BoolIs.yes (allTo_end hall.out hp) hbw

/-- What the chapter asks of a token. -/
def TokOk (s : ByteArray) : Prop := 1 ≤ s.size ∧ s.size ≤ 20 ∧ AllB TokB s

set_option maxHeartbeats 400000 in
theorem implTokenOk_any (s : ByteArray) (w : World) (hs : s.size ≤ maxLen) :
    Calls Try.prog 64 #[.string s] w fun e w' => BoolIs (TokOk s) w e w' := by
  unfold maxLen at hs
  by_cases h1 : (1 : Int) ≤ (s.size : Int)
  · by_cases h2 : (s.size : Int) ≤ 20
    · go_enter Try.func64, Try.ntmps64
      go_wp2_with (go_at_call 59; refine (allRunes_tok _ _).mono ?_; rintro e w1 ⟨b, rfl, hbt, hb1⟩)
      go_ret
      exact ⟨b, rfl, by unfold TokOk; rw [hbt]; exact ⟨fun h => ⟨by omega, by omega, h⟩, fun h => h.2.2⟩, hb1⟩
    · go_enter Try.func64, Try.ntmps64
      go_wp2_with fail
      go_ret
      exact BoolIs.no (by unfold TokOk; omega) (Below.refl _ _)
  · go_enter Try.func64, Try.ntmps64
    go_wp2_with fail
    go_ret
    exact BoolIs.no (by unfold TokOk; omega) (Below.refl _ _)

set_option maxHeartbeats 1000000 in
theorem specTokenOk_any (s : ByteArray) (w : World) (hs : s.size ≤ maxLen) :
    Calls Try.prog 22 #[.string s] w fun e w' => BoolIs (TokOk s) w e w' := by
  unfold maxLen at hs
  go_enter Try.func22, Try.ntmps22
  go_wp2
  go_loop [3] (fun i => ∃ k : Nat, k ≤ s.size ∧ i = .int .i64 k ∧ Hid (AllTo TokB s k)) (fun i => s.size - (intOf i).toNat)
  case atStart => exact ⟨0, Nat.zero_le _, rfl, allTo_zero _ _⟩
  case round =>
    obtain ⟨k, hk, rfl, hall⟩ := hrel
    by_cases hlt : k < s.size
    · go_wp2
      all_goals first
        | (go_ret
           have hno : ¬ TokB ((s[k]'hlt).toNat : Int) := by
             unfold TokB
             try simp only [bne_iff_ne, ne_eq] at *
             omega
           exact BoolIs.no (fun h => hno (h.2.2 k hlt)) (Below.refl _ _))
        | (go_round
           case rel =>
             have hy : TokB ((s[k]'hlt).toNat : Int) := by
               unfold TokB
               try simp only [bne_eq_false_iff_eq] at *
               omega
             exact ⟨k + 1, by omega, by go_num, allTo_succ hall.out hlt hy⟩
           case measure => simp [intOf]; omega)
    · have hend : Hid (AllB TokB s) := allTo_end hall.out hlt
      by_cases h1 : (1 : Int) ≤ (s.size : Int)
      · by_cases h2 : (s.size : Int) ≤ 20
        · go_wp2
          go_ret
          exact BoolIs.yes ⟨by omega, by omega, hend.out⟩ (Below.refl _ _)
        · go_wp2
          go_ret
          exact BoolIs.no (by unfold TokOk; omega) (Below.refl _ _)
      · go_wp2
        go_ret
        exact BoolIs.no (by unfold TokOk; omega) (Below.refl _ _)

end Go.Proofs.Ytlmenolcgaakeaa

namespace Go.Proofs
open Go.Shelf
def Try.laysM316_ren : Go.Shelf.Ren := ⟨fun | 316 => 76 | n => n, fun | 9 => 9 | 3 => 3 | 4 => 4 | 37 => 100 | 0 => 0 | 127 => 107 | 5 => 5 | n => n, fun | n => n⟩
theorem Try.laysM316 : Go.Proofs.LaysM.n316 Try.prog Try.laysM316_ren := {
  mixed := by kernel_rfl
  f316 := Try.func76.trans (congrArg some (by kernel_rfl))
  t0 := Try.underlying0
  a0 := Try.isAgg0
  z0 := Try.sizeOf0
  v0 := Try.zeroValue0
  t3 := Try.underlying3
  a3 := Try.isAgg3
  z3 := Try.sizeOf3
  v3 := Try.zeroValue3
  t4 := Try.underlying4
  a4 := Try.isAgg4
  z4 := Try.sizeOf4
  v4 := Try.zeroValue4
  t9 := Try.underlying9
  a9 := Try.isAgg9
  z9 := Try.sizeOf9
  v9 := Try.zeroValue9
  t37 := Try.underlying100
  a37 := Try.isAgg100
  z37 := Try.sizeOf100
  v37 := Try.zeroValue100
  t127 := Try.underlying107
  a127 := Try.isAgg107
  z127 := Try.sizeOf107
  v127 := Try.zeroValue107
  t5 := Try.underlying5
  a5 := Try.isAgg5
  z5 := Try.sizeOf5
  v5 := Try.zeroValue5
  i0 := by kernel_rfl
  i3 := by kernel_rfl
  i4 := by kernel_rfl
  i5 := by kernel_rfl
  i9 := by kernel_rfl
  i37 := by kernel_rfl
  i127 := by kernel_rfl }
open Go.RowKit in
theorem Try.stringslite_Clone (s : ByteArray) (w : World) (hlim : s.size ≤ 281474976710656) :
    Calls Try.prog 76 #[.string s] w fun e w' => e = .returned (.string s) ∧ Below w.heap.size w w' := Any.stringslite_Clone Try.laysM316 s w hlim
def Try.lays99_ren : Go.Shelf.Ren := ⟨fun | 99 => 105 | 206 => 106 | n => n, fun | 9 => 9 | 4 => 4 | 3 => 3 | n => n, fun | n => n⟩
theorem Try.lays99 : Go.Proofs.Lays.n99 Try.prog Try.lays99_ren := {
  mixed := by kernel_rfl
  f99 := Try.func105.trans (congrArg some (by kernel_rfl))
  f206 := Try.func106.trans (congrArg some (by kernel_rfl))
  t3 := Try.underlying3
  a3 := Try.isAgg3
  z3 := Try.sizeOf3
  v3 := Try.zeroValue3
  t4 := Try.underlying4
  a4 := Try.isAgg4
  z4 := Try.sizeOf4
  v4 := Try.zeroValue4
  t9 := Try.underlying9
  a9 := Try.isAgg9
  z9 := Try.sizeOf9
  v9 := Try.zeroValue9 }
open Go.RowKit Go.Lib in
theorem Try.strings_HasPrefix (s p : ByteArray) (w : World) :
    Calls Try.prog 105 #[.string s, .string p] w fun e w' => e = .returned (.bool (Lib.hasPrefix s.data.toList p.data.toList)) ∧ w' = w := Any.strings_HasPrefix Try.lays99 s p w
def Try.lays193_ren : Go.Shelf.Ren := ⟨fun | 193 => 47 | n => n, fun | 31 => 29 | 9 => 9 | 4 => 4 | 3 => 3 | 0 => 0 | n => n, fun | n => n⟩
theorem Try.lays193 : Go.Proofs.Lays.n193 Try.prog Try.lays193_ren := {
  mixed := by kernel_rfl
  f193 := Try.func47.trans (congrArg some (by kernel_rfl))
  t0 := Try.underlying0
  a0 := Try.isAgg0
  z0 := Try.sizeOf0
  v0 := Try.zeroValue0
  t3 := Try.underlying3
  a3 := Try.isAgg3
  z3 := Try.sizeOf3
  v3 := Try.zeroValue3
  t4 := Try.underlying4
  a4 := Try.isAgg4
  z4 := Try.sizeOf4
  v4 := Try.zeroValue4
  t9 := Try.underlying9
  a9 := Try.isAgg9
  z9 := Try.sizeOf9
  v9 := Try.zeroValue9
  t31 := Try.underlying29
  a31 := Try.isAgg29
  z31 := Try.sizeOf29
  v31 := Try.zeroValue29 }
open Go.RowKit Go.Lib in
theorem Try.slices_Equal_string (b1 o1 n c b2 o2 m d : Nat) (xs ys : List ByteArray) (w : World) (hx : n ≤ xs.length) (hy : m ≤ ys.length) (hbig : n ≤ 9223372036854775807) (hbig2 : m ≤ 9223372036854775807) (hc1 : ∀ j, j < xs.length → w.cell? ⟨b1, o1 + j, none⟩ = some (.string (xs.getD j ByteArray.empty))) (hc2 : ∀ j, j < ys.length → w.cell? ⟨b2, o2 + j, none⟩ = some (.string (ys.getD j ByteArray.empty))) :
    Calls Try.prog 47 #[.slice (some ⟨b1, o1, none⟩) n c, .slice (some ⟨b2, o2, none⟩) m d] w fun e w' => e = .returned (.bool (decide (xs.take n = ys.take m))) ∧ ∃ q, w' = w.drewN q := Any.slices_Equal_string Try.lays193 b1 o1 n c b2 o2 m d xs ys w hx hy hbig hbig2 hc1 hc2
open Go.RowKit Go.Lib in
theorem Try.slices_Equal_string_empty (a1 a2 : Option Addr) (c m d : Nat) (w : World) (hbig2 : m ≤ 9223372036854775807) :
    Calls Try.prog 47 #[.slice a1 0 c, .slice a2 m d] w fun e w' => e = .returned (.bool (decide (m = 0))) ∧ w' = w := Any.slices_Equal_string_empty Try.lays193 a1 a2 c m d w hbig2
open Go.RowKit Go.Lib in
theorem Try.slices_Equal_string_lens (a1 a2 : Option Addr) (n c m d : Nat) (w : World) (hnm : n ≠ m) :
    Calls Try.prog 47 #[.slice a1 n c, .slice a2 m d] w fun e w' => e = .returned (.bool false) ∧ w' = w := Any.slices_Equal_string_lens Try.lays193 a1 a2 n c m d w hnm
end Go.Proofs

namespace Go.Proofs.Ytlmenolcgaakeaa
open Go.RowKit

theorem info5 : (Try.prog.info? 5).map (fun i => (i.zero, i.size, i.bytes)) = some (some (.int .u8 0), 1, 1) := by kernel_rfl

set_option maxHeartbeats 400000 in
theorem clone_any (s : ByteArray) (w : World) (hlim : s.size ≤ 281474976710656) :
    Calls Try.prog 70 #[.string s] w fun e w' => e = .returned (.string s) ∧ Below w.heap.size w w' := by
  go_enter Try.func70, Try.ntmps70
  go_wp2_with (go_at_call 76; refine (Try.stringslite_Clone _ _ hlim).mono ?_; rintro e w1 ⟨rfl, hb1⟩)
  go_ret
  exact ⟨rfl, hb1⟩

end Go.Proofs.Ytlmenolcgaakeaa

namespace Go.Proofs.Ytlmenolcgaakeaa

/-- The list without the blanks that it begins with. -/
def dropB : List UInt8 → List UInt8
  | [] => []
  | b :: r => if b.toNat = 32 then dropB r else b :: r
/-- .. and without those that it ends with. -/
def trimL (l : List UInt8) : List UInt8 := (dropB (dropB l).reverse).reverse
def trimOf (s : ByteArray) : ByteArray := ⟨(trimL s.data.toList).toArray⟩

theorem dropB_blanks : ∀ (x y : List UInt8), (∀ b ∈ x, b.toNat = 32) → dropB (x ++ y) = dropB y
  | [], _, _ => rfl
  | b :: r, y, h => by
    rw [List.cons_append, dropB, if_pos (h b (by simp))]
    exact dropB_blanks r y (fun c hc => h c (by simp [hc]))
theorem dropB_first (b : UInt8) (r : List UInt8) (h : b.toNat ≠ 32) : dropB (b :: r) = b :: r := by rw [dropB, if_neg h]

/-- From a on, up to b: what is left of s without its outer blanks. -/
structure IsTrim (s : ByteArray) (a b : Nat) : Prop where
  le : a ≤ b
  size : b ≤ s.size
  lead : ∀ j (h : j < s.size), j < a → (s[j]'h).toNat = 32
  tail : ∀ j (h : j < s.size), b ≤ j → (s[j]'h).toNat = 32
  first : ∀ h : a < s.size, a < b → (s[a]'h).toNat ≠ 32
  last : ∀ h : b - 1 < s.size, a < b → (s[b - 1]'h).toNat ≠ 32

theorem list_cut (l : List UInt8) (a b : Nat) (h : a ≤ b) : l = l.take a ++ ((l.take b).drop a ++ l.drop b) := by
  have h1 : (l.take b).take a = l.take a := by rw [List.take_take, Nat.min_eq_left h]
  have h2 : l.take b = l.take a ++ (l.take b).drop a := by
    have := (List.take_append_drop a (l.take b)).symm
    rw [h1] at this
    exact this
  have h3 := (List.take_append_drop b l).symm
  rw [h2, List.append_assoc] at h3
  exact h3

theorem trimL_mid (x y z : List UInt8) (hx : ∀ b ∈ x, b.toNat = 32) (hz : ∀ b ∈ z, b.toNat = 32) (h0 : ∀ b, y.head? = some b → b.toNat ≠ 32) (h1 : ∀ b, y.getLast? = some b → b.toNat ≠ 32) : trimL (x ++ (y ++ z)) = y := by
  unfold trimL
  rw [dropB_blanks x _ hx]
  cases y with
  | nil =>
    have : dropB ([] ++ z) = [] := by
      have := dropB_blanks z [] hz
      simpa [dropB] using this
    rw [this]; rfl
  | cons b r =>
    rw [List.cons_append, dropB_first b _ (h0 b rfl), ← List.cons_append, List.reverse_append, dropB_blanks _ _ (fun c hc => hz c (by simpa using hc))]
    cases hl : (b :: r).reverse with
    | nil => simp at hl
    | cons c q =>
      have hc : (b :: r).getLast? = some c := by rw [List.getLast?_eq_head?_reverse, hl]; rfl
      rw [dropB_first c q (h1 c hc), ← hl, List.reverse_reverse]

theorem byte_get (s : ByteArray) (j : Nat) (h : j < s.size) : s.data.toList[j]? = some (s[j]'h) := by
  rw [List.getElem?_eq_getElem (by simpa using h)]
  rfl

theorem trim_eq {s : ByteArray} {a b : Nat} (h : IsTrim s a b) : s.extract a b = trimOf s := by
  have hlen : s.data.toList.length = s.size := by simp
  have hext : (s.extract a b).data.toList = (s.data.toList.take b).drop a := by
    rw [ByteArray.data_extract, Array.toList_extract]
    simp [List.extract, List.drop_take]
  have hcut := list_cut s.data.toList a b h.le
  have hm := trimL_mid (s.data.toList.take a) ((s.data.toList.take b).drop a) (s.data.toList.drop b)
    (fun x hx => by
      obtain ⟨j, hj, rfl⟩ := List.getElem_of_mem hx
      have hj' : j < a ∧ j < s.size := by rw [List.length_take, hlen] at hj; omega
      have := h.lead j hj'.2 hj'.1
      rw [List.getElem_take]; exact this)
    (fun x hx => by
      obtain ⟨j, hj, rfl⟩ := List.getElem_of_mem hx
      have hj' : b + j < s.size := by rw [List.length_drop, hlen] at hj; omega
      have := h.tail (b + j) hj' (by omega)
      rw [List.getElem_drop]; exact this)
    (fun x hx => by
      rw [List.head?_eq_getElem?, List.getElem?_drop, List.getElem?_take] at hx
      split at hx
      · rename_i hlt
        have ha : a < s.size := by have := h.size; omega
        rw [Nat.add_zero, byte_get s a ha] at hx
        cases hx
        exact h.first ha (by omega)
      · cases hx)
    (fun x hx => by
      rw [List.getLast?_eq_getElem?, List.getElem?_drop, List.getElem?_take, List.length_drop, List.length_take, hlen] at hx
      have hsz := h.size; have hle := h.le
      rw [Nat.min_eq_left hsz] at hx
      split at hx
      · rename_i hlt
        have e : a + (b - a - 1) = b - 1 := by omega
        have hb : b - 1 < s.size := by omega
        rw [e, byte_get s (b - 1) hb] at hx
        cases hx
        exact h.last hb (by omega)
      · cases hx)
  rw [← hcut] at hm
  apply ByteArray.ext
  unfold trimOf
  rw [hm, ← hext]

/-- A text that begins and ends with no blank is trimmed already. -/
theorem trimOf_self {s : ByteArray} (h0 : ∀ h : 0 < s.size, (s[0]'h).toNat ≠ 32) (h1 : ∀ h : s.size - 1 < s.size, (s[s.size - 1]'h).toNat ≠ 32) : trimOf s = s := by
  rw [← trim_eq (s := s) (a := 0) (b := s.size) ⟨Nat.zero_le _, Nat.le_refl _, fun _ _ h => absurd h (by omega), fun _ h h' => absurd h (by omega), fun h _ => h0 h, fun h _ => h1 h⟩]
  apply ByteArray.ext
  simp

end Go.Proofs.Ytlmenolcgaakeaa

namespace Go.Proofs.Ytlmenolcgaakeaa
open Go.RowKit
open Go.Lib hiding intOf

/-- A call answers this text, and turns nothing that was there. -/
def TextIs (t : ByteArray) (w : World) (e : Ending) (w' : World) : Prop := e = .returned (.string t) ∧ Below w.heap.size w w'
theorem TextIs.of {t u : ByteArray} {w w' : World} (h : u = t) (hb : Below w.heap.size w w') : TextIs t w (.returned (.string u)) w' := ⟨by rw [h], hb⟩

set_option maxHeartbeats 1000000 in
theorem specTrim_any (s : ByteArray) (w : World) (hs : s.size ≤ maxLen) :
    Calls Try.prog 37 #[.string s] w fun e w' => TextIs (trimOf s) w e w' := by
  unfold maxLen at hs
  go_enter Try.func37, Try.ntmps37
  go_wp2
  go_loop [3] (fun i => ∃ k : Nat, k ≤ s.size ∧ i = .int .i64 k ∧ Hid (∀ j (h : j < s.size), j < k → (s[j]'h).toNat = 32)) (fun i => s.size - (intOf i).toNat)
  case atStart => exact ⟨0, Nat.zero_le _, rfl, fun _ _ h => absurd h (by omega)⟩
  case round =>
    obtain ⟨k, hk, rfl, hlead⟩ := hrel
    by_cases hlt : k < s.size
    · by_cases hb : (s[k]'hlt).toNat = 32
      · have ht2 : (((s[k]'hlt).toNat : Int) == 32) = true := by simp [hb]
        have HB : Hid ((s[k]'hlt).toNat = 32) := hb
        clear hb
        go_wp2
        go_round
        case rel =>
          refine ⟨k + 1, by omega, by go_num, ?_⟩
          intro j h hj
          by_cases e : j = k
          · subst e; exact HB.out
          · exact hlead.out j h (by omega)
        case measure => simp [intOf]; omega
      · have ht2 : (((s[k]'hlt).toNat : Int) == 32) = false := by
          rw [beq_eq_false_iff_ne]; omega
        have hfst : Hid ((s[k]'hlt).toNat ≠ 32) := hb
        clear hb
        go_wp2
        go_loop [4] (fun t => ∃ m : Nat, k ≤ m ∧ m < s.size ∧ t = .int .i64 ((m : Int) + 1) ∧ Hid (∀ j (h : j < s.size), m + 1 ≤ j → (s[j]'h).toNat = 32)) (fun t => (intOf t).toNat)
        case atStart => exact ⟨s.size - 1, by omega, by omega, by go_num, fun j h hj => absurd h (by omega)⟩
        case round =>
          obtain ⟨m, hkm, hms, rfl, htl⟩ := hrel
          have hc1 : (k : Int) < (m : Int) + 1 := by omega
          by_cases hb : (s[m]'hms).toNat = 32
          · have ht2 : (((s[m]'hms).toNat : Int) == 32) = true := by simp [hb]
            have hkm2 : k < m := by
              rcases Nat.lt_or_ge k m with h | h
              · exact h
              · exfalso
                have e : m = k := by omega
                subst e
                exact hfst.out hb
            have HB : Hid ((s[m]'hms).toNat = 32) := hb
            clear hb
            go_wp2
            go_round
            case rel =>
              refine ⟨m - 1, by omega, by omega, by go_num, ?_⟩
              intro j h hj
              by_cases e : j = m
              · subst e; exact HB.out
              · exact htl.out j h (by omega)
            case measure => simp [intOf]
          · have ht2 : (((s[m]'hms).toNat : Int) == 32) = false := by
              rw [beq_eq_false_iff_ne]; omega
            have hT : Hid (s.extract k (m + 1) = trimOf s) := trim_eq ⟨by omega, by omega, fun j h hj => hlead.out j h hj, fun j h hj => htl.out j h (by omega), fun _ _ => hfst.out, fun _ _ => hb⟩
            clear hb
            go_wp2
            go_ret
            exact TextIs.of hT.out (Below.refl _ _)
    · have hT : Hid (ByteArray.empty = trimOf s) := (show ByteArray.empty = s.extract s.size s.size by simp).trans (trim_eq ⟨Nat.le_refl _, Nat.le_refl _, fun j h _ => hlead.out j h (by omega), fun j h hj => absurd h (by omega), fun h => absurd h (by omega), fun _ h => absurd h (by omega)⟩)
      obtain rfl : k = s.size := by omega
      go_wp2
      go_loop [4] (fun t => t = .int .i64 (s.size : Int)) (fun t => (intOf t).toNat)
      case atStart => exact rfl
      case round =>
        subst hrel
        go_wp2
        go_ret
        exact TextIs.of hT.out (Below.refl _ _)

set_option maxHeartbeats 2000000 in
theorem implTrim_any (s : ByteArray) (w : World) (hs : s.size ≤ 281474976710656) :
    Calls Try.prog 77 #[.string s] w fun e w' => TextIs (trimOf s) w e w' := by
  go_enter Try.func77, Try.ntmps77
  go_wp2
  go_loopw [3] (fun t wr => ∃ pos : Nat, pos ≤ s.size ∧ t = .int .i64 (s.size : Int) ∧ wr.heap[w.heap.size]? = some (.stringIter s pos) ∧ Below w.heap.size w wr ∧ Hid (∀ j (h : j < s.size), j < pos → (s[j]'h).toNat = 32)) (fun _ wr => s.size - wr.iterPos w.heap.size)
  case atStart => exact ⟨0, Nat.zero_le _, rfl, World.iter_heap _ _ _, (Below.refl _ _).alloc (Nat.le_refl _) _, fun _ _ h => absurd h (by omega)⟩
  case round =>
    obtain ⟨k, hk, rfl, hh, hbw, hlead⟩ := hrel
    by_cases hlt : k < s.size
    · by_cases hb : (s[k]'hlt).toNat = 32
      · have hcl : (cls ((s[k]'hlt).toNat : Int) != 4) = false := by rw [hb]; rfl
        have hnx := fun ty => run_next_ascii_at (P := Try.prog) wr w.heap.size s k ty hh hlt (by omega)
        have HB : Hid ((s[k]'hlt).toNat = 32) := hb
        clear hb
        go_wp2_with (go_at_call 68; refine (classOf_any _ _).mono ?_; rintro e w1 ⟨rfl, hb1⟩)
        obtain ⟨h1, h2⟩ := iter_step hh hbw hb1
        refine ⟨⟨k + 1, by omega, rfl, h1, h2, ?_⟩, by rw [iterPos_of h1, iterPos_of hh]; omega⟩
        intro j h hj
        by_cases e : j = k
        · subst e; exact HB.out
        · exact hlead.out j h (by omega)
      · have hfst : Hid ((s[k]'hlt).toNat ≠ 32) := hb
        have hr32 : ((Utf8.decode s k).1 : Int) ≠ 32 := by
          by_cases ha : (s[k]'hlt).toNat < 128
          · rw [decode_ascii s k hlt ha]; show ((s[k]'hlt).toNat : Int) ≠ 32; omega
          · have := (decode_high s k hlt (by omega)).1; omega
        have hcl : (cls ((Utf8.decode s k).1 : Int) != 4) = true := by
          have := cls_spec ((Utf8.decode s k).1 : Int)
          rw [bne_iff_ne]; omega
        have hnx := fun ty => run_next_any_at (P := Try.prog) wr w.heap.size s k ty hh hlt
        clear hb hr32
        go_wp2_with (go_at_call 68; refine (classOf_any _ _).mono ?_; rintro e w1 ⟨rfl, hb1⟩)
        obtain ⟨_, h2⟩ := iter_step hh hbw hb1
        clear hnx hcl hb1 hh hbw
        go_loop [4] (fun t => ∃ m : Nat, k ≤ m ∧ m < s.size ∧ t = .int .i64 ((m : Int) + 1) ∧ Hid (∀ j (h : j < s.size), m + 1 ≤ j → (s[j]'h).toNat = 32)) (fun t => (intOf t).toNat)
        case atStart => exact ⟨s.size - 1, by omega, by omega, by go_num, fun j h hj => absurd h (by omega)⟩
        case round =>
          obtain ⟨m, hkm, hms, rfl, htl⟩ := hrel
          have hc1 : (k : Int) < (m : Int) + 1 := by omega
          by_cases hb : (s[m]'hms).toNat = 32
          · have ht2 : (((s[m]'hms).toNat : Int) == 32) = true := by simp [hb]
            have hkm2 : k < m := by
              rcases Nat.lt_or_ge k m with h | h
              · exact h
              · exfalso
                have e : m = k := by omega
                subst e
                exact hfst.out hb
            have HB : Hid ((s[m]'hms).toNat = 32) := hb
            clear hb
            go_wp2
            go_round
            case rel =>
              refine ⟨m - 1, by omega, by omega, by go_num, ?_⟩
              intro j h hj
              by_cases e : j = m
              · subst e; exact HB.out
              · exact htl.out j h (by omega)
            case measure => simp [intOf]
          · have ht2 : (((s[m]'hms).toNat : Int) == 32) = false := by
              rw [beq_eq_false_iff_ne]; omega
            have hT : Hid (s.extract k (m + 1) = trimOf s) := trim_eq ⟨by omega, by omega, fun j h hj => hlead.out j h hj, fun j h hj => htl.out j h (by omega), fun _ _ => hfst.out, fun _ _ => hb⟩
            clear hb
            have hz : (s.extract k (m + 1)).size ≤ 281474976710656 := by simp; omega
            go_wp2_with (go_at_call 70; refine (clone_any _ _ hz).mono ?_; rintro e w2 ⟨rfl, hb2⟩)
            go_ret
            exact TextIs.of hT.out (h2.trans (hb2.mono h2.size))

    · have hT : Hid (ByteArray.empty = trimOf s) := (show ByteArray.empty = s.extract s.size s.size by simp).trans (trim_eq ⟨Nat.le_refl _, Nat.le_refl _, fun j h _ => hlead.out j h (by omega), fun j h hj => absurd h (by omega), fun h => absurd h (by omega), fun _ h => absurd h (by omega)⟩)
      have hnx := fun ty => run_next_end_at (P := Try.prog) wr w.heap.size s k ty hh hlt
      go_wp2
      clear hnx hh
      go_loop [4] (fun t => t = .int .i64 (s.size : Int)) (fun t => (intOf t).toNat)
      case atStart => exact rfl
      case round =>
        subst hrel
        go_wp2_with (go_at_call 70; refine (clone_any _ _ (by simp)).mono ?_; rintro e w2 ⟨rfl, hb2⟩)
        go_ret
        exact TextIs.of hT.out (hbw.trans (hb2.mono hbw.size))

end Go.Proofs.Ytlmenolcgaakeaa

namespace Go.Proofs.Ytlmenolcgaakeaa
open Go.RowKit
open Go.Lib hiding intOf

/-- What the chapter asks of a value. -/
def ValOk (s : ByteArray) : Prop := 1 ≤ s.size ∧ s.size ≤ 60 ∧ AllB ValB s ∧ trimOf s = s
/-- A text of at least one byte is trimmed already just where its first and its last byte are no blanks. -/
theorem trim_self_iff (s : ByteArray) (h1 : 1 ≤ s.size) : trimOf s = s ↔ ((s[0]'(by omega)).toNat ≠ 32 ∧ (s[s.size - 1]'(by omega)).toNat ≠ 32) := by
  constructor
  · intro h
    have hl : trimL s.data.toList = s.data.toList := by
      have := congrArg (fun x : ByteArray => x.data.toList) h
      simpa [trimOf] using this
    have hlen : s.data.toList.length = s.size := by simp
    have key : ∀ l : List UInt8, (dropB l).length ≤ l.length ∧ ((dropB l).length = l.length → ∀ b, l.head? = some b → b.toNat ≠ 32) := by
      intro l
      induction l with
      | nil => simp [dropB]
      | cons b r ih =>
        rw [dropB]
        split
        · refine ⟨by simp; omega, fun h => ?_⟩
          simp at h; omega
        · rename_i hb
          refine ⟨by simp, fun _ c hc => ?_⟩
          simp at hc; subst hc; exact hb
    have k1 := key s.data.toList
    have k2 := key (dropB s.data.toList).reverse
    have hL : (dropB (dropB s.data.toList).reverse).length = s.data.toList.length := by
      have := congrArg List.length hl
      simpa [trimL] using this
    rw [List.length_reverse] at k2
    have e1 : (dropB s.data.toList).length = s.data.toList.length := by omega
    have e2 : (dropB (dropB s.data.toList).reverse).length = (dropB s.data.toList).length := by omega
    have hd : dropB s.data.toList = s.data.toList := by
      cases hc : s.data.toList with
      | nil => rfl
      | cons b r =>
        have := k1.2 e1 b (by rw [hc]; rfl)
        exact dropB_first b r this
    refine ⟨?_, ?_⟩
    · apply k1.2 e1
      rw [List.head?_eq_getElem?, byte_get s 0 (by omega)]
    · apply k2.2 e2
      rw [hd, ← List.getLast?_eq_head?_reverse, List.getLast?_eq_getElem?, hlen, byte_get s (s.size - 1) (by omega)]
  · rintro ⟨h0, h2⟩
    exact trimOf_self (fun _ => h0) (fun _ => h2)

theorem text_beq (a b : ByteArray) : (a.toList == b.toList) = true ↔ a = b := by
  rw [beq_iff_eq, ByteArray.toList_eq, ByteArray.toList_eq]
  exact ⟨fun h => ByteArray.ext (Array.toList_inj.1 h), fun h => by rw [h]⟩

set_option maxHeartbeats 1000000 in
theorem implValueOk_any (s : ByteArray) (w : World) (hs : s.size ≤ maxLen) :
    Calls Try.prog 65 #[.string s] w fun e w' => BoolIs (ValOk s) w e w' := by
  unfold maxLen at hs
  by_cases h1 : (s.size : Int) < 1
  · go_enter Try.func65, Try.ntmps65
    go_wp2_with fail
    go_ret
    exact BoolIs.no (by unfold ValOk; omega) (Below.refl _ _)
  · by_cases h2 : (60 : Int) < (s.size : Int)
    · go_enter Try.func65, Try.ntmps65
      go_wp2_with fail
      go_ret
      exact BoolIs.no (by unfold ValOk; omega) (Below.refl _ _)
    · have hti : Hid _ := trim_self_iff s (by omega)
      have hp0 : 0 < s.size := by omega
      by_cases hb : (s[0]'hp0).toNat = 32
      · have ht : (((s[0]'hp0).toNat : Int) == 32) = true := by simp [hb]
        have HB : Hid ((s[0]'hp0).toNat = 32) := hb
        clear hb
        go_enter Try.func65, Try.ntmps65
        go_wp2_with fail
        go_ret
        exact BoolIs.no (fun h => (hti.out.1 h.2.2.2).1 HB.out) (Below.refl _ _)
      · have ht : (((s[0]'hp0).toNat : Int) == 32) = false := by
          rw [beq_eq_false_iff_ne]; omega
        obtain ⟨m, hm⟩ : ∃ m, s.size = m + 1 := ⟨s.size - 1, by omega⟩
        have hms : m < s.size := by omega
        have hme : Hid (s.size - 1 = m) := by show s.size - 1 = m; omega
        have hH0 : Hid (¬ (s[0]'hp0).toNat = 32) := hb
        clear hb
        have hm2 : (s.size : Int) - 1 = (m : Int) := by omega
        by_cases hl : (s[m]'hms).toNat = 32
        · have hN : Hid (¬ ValOk s) := by
            intro h
            have h3 := (hti.out.1 h.2.2.2).2
            simp only [hme.out] at h3
            exact h3 hl
          have ht2 : (((s[m]'hms).toNat : Int) == 32) = true := by simp [hl]
          clear hl hm
          go_enter Try.func65, Try.ntmps65
          go_wp2_with fail
          go_ret
          exact BoolIs.no hN.out (Below.refl _ _)
        · have hY : Hid (AllB ValB s → ValOk s) := by
            intro h
            refine ⟨by omega, by omega, h, hti.out.2 ⟨hH0.out, ?_⟩⟩
            simp only [hme.out]
            exact hl
          have ht2 : (((s[m]'hms).toNat : Int) == 32) = false := by
            rw [beq_eq_false_iff_ne]; omega
          clear hl hm
          go_enter Try.func65, Try.ntmps65
          go_wp2_with (go_at_call 59; refine (allRunes_val _ _).mono ?_; rintro e w1 ⟨b, rfl, hbt, hb1⟩)
          go_ret
          exact ⟨b, rfl, hbt.trans ⟨hY.out, fun h => h.2.2.1⟩, hb1⟩

set_option maxHeartbeats 1000000 in
theorem specValueOk_any (s : ByteArray) (w : World) (hs : s.size ≤ maxLen) :
    Calls Try.prog 23 #[.string s] w fun e w' => BoolIs (ValOk s) w e w' := by
  have hs0 := hs
  unfold maxLen at hs
  go_enter Try.func23, Try.ntmps23
  go_wp2
  go_loop [3] (fun i => ∃ k : Nat, k ≤ s.size ∧ i = .int .i64 k ∧ Hid (AllTo ValB s k)) (fun i => s.size - (intOf i).toNat)
  case atStart => exact ⟨0, Nat.zero_le _, rfl, allTo_zero _ _⟩
  case round =>
    obtain ⟨k, hk, rfl, hall⟩ := hrel
    by_cases hlt : k < s.size
    · go_wp2
      all_goals first
        | (go_ret
           have hno : ¬ ValB ((s[k]'hlt).toNat : Int) := by
             unfold ValB
             omega
           exact BoolIs.no (fun h => hno (h.2.2.1 k hlt)) (Below.refl _ _))
        | (go_round
           case rel =>
             have hy : ValB ((s[k]'hlt).toNat : Int) := by
               unfold ValB
               omega
             exact ⟨k + 1, by omega, by go_num, allTo_succ hall.out hlt hy⟩
           case measure => simp [intOf]; omega)
    · have hend : Hid (AllB ValB s) := allTo_end hall.out hlt
      by_cases h1 : (1 : Int) ≤ (s.size : Int)
      · by_cases h2 : (s.size : Int) ≤ 60
        · go_wp2_with (first | (go_at_call 37; refine (specTrim_any _ _ hs0).mono ?_; rintro e w2 ⟨rfl, hb2⟩) | go_in)
          go_ret
          refine ⟨_, rfl, ?_, hb2⟩
          rw [text_beq]
          exact ⟨fun h => ⟨by omega, by omega, hend.out, h⟩, fun h => h.2.2.2⟩
        · go_wp2_with go_in
          go_ret
          exact BoolIs.no (by unfold ValOk; omega) (Below.refl _ _)
      · go_wp2_with go_in
        go_ret
        exact BoolIs.no (by unfold ValOk; omega) (Below.refl _ _)

end Go.Proofs.Ytlmenolcgaakeaa

namespace Go.Proofs.Ytlmenolcgaakeaa

def DigB (b : UInt8) : Prop := 48 ≤ b.toNat ∧ b.toNat ≤ 57
/-- The number that a row of digits is. -/
def valL (l : List UInt8) : Nat := l.foldl (fun v b => 10 * v + (b.toNat - 48)) 0
theorem valL_snoc (l : List UInt8) (b : UInt8) : valL (l ++ [b]) = 10 * valL l + (b.toNat - 48) := by simp [valL]
/-- The digits of a number that is not 0; none of 0. -/
def dgF : Nat → Nat → List UInt8
  | 0, _ => []
  | f + 1, n => if n = 0 then [] else dgF f (n / 10) ++ [UInt8.ofNat (48 + n % 10)]
theorem dgF_zero (f : Nat) : dgF f 0 = [] := by cases f <;> simp [dgF]
theorem dgF_pos (f n : Nat) (h : n ≠ 0) : dgF (f + 1) n = dgF f (n / 10) ++ [UInt8.ofNat (48 + n % 10)] := by simp [dgF, h]

theorem ofNat_digit (n : Nat) : (UInt8.ofNat (48 + n % 10)).toNat = 48 + n % 10 := by
  simp; omega

theorem head_snoc (r : List UInt8) (b c : UInt8) (hr : r ≠ []) : (r ++ [b]).head? = some c ↔ r.head? = some c := by
  cases r with
  | nil => exact absurd rfl hr
  | cons a t => simp

/-- The digits of a number begin with no nought, and are that number. -/
theorem dg_facts : ∀ (f n : Nat), n < 10 ^ f → (∀ b, (dgF f n).head? = some b → b.toNat ≠ 48) ∧ valL (dgF f n) = n ∧ (∀ b ∈ dgF f n, DigB b) := by
  intro f
  induction f with
  | zero => intro n h; simp at h; subst h; simp [dgF, valL]
  | succ f ih =>
    intro n h
    by_cases h0 : n = 0
    · subst h0; rw [dgF_zero]; simp [valL]
    · rw [dgF_pos f n h0]
      rw [Nat.pow_succ] at h
      obtain ⟨i1, i2, i3⟩ := ih (n / 10) (by omega)
      refine ⟨?_, ?_, ?_⟩
      · intro b hb
        by_cases hr : dgF f (n / 10) = []
        · rw [hr] at hb
          simp only [List.nil_append, List.head?_cons, Option.some.injEq] at hb
          rw [← hb, ofNat_digit]
          have : n / 10 = 0 := by rw [hr] at i2; simpa [valL] using i2.symm
          omega
        · exact i1 b ((head_snoc _ _ b hr).1 hb)
      · rw [valL_snoc, i2, ofNat_digit]; omega
      · intro b hb
        rcases List.mem_append.1 hb with h | h
        · exact i3 b h
        · simp only [List.mem_singleton] at h
          unfold DigB
          rw [h, ofNat_digit]; omega

/-- The text of a number from 0 to 1000000; the empty text of others. -/
def numL (n : Nat) : List UInt8 := if 1000000 < n then [] else if n = 0 then [48] else dgF 8 n
def numText (n : Nat) : ByteArray := ⟨(numL n).toArray⟩

/-- A text that is a number from 0 to 1000000 in digits without needless noughts. -/
def NumOk (s : ByteArray) : Prop := 1 ≤ s.size ∧ (∀ b ∈ s.data.toList, DigB b) ∧ (1 < s.size → ∀ h : 0 < s.size, (s[0]'h).toNat ≠ 48) ∧ valL s.data.toList ≤ 1000000

theorem mem_byte {s : ByteArray} {p : UInt8 → Prop} (h : ∀ j (hj : j < s.size), p (s[j]'hj)) : ∀ b ∈ s.data.toList, p b := by
  intro b hb
  obtain ⟨j, hj, rfl⟩ := List.getElem_of_mem hb
  exact h j (by simpa using hj)
end Go.Proofs.Ytlmenolcgaakeaa

namespace Go.Proofs.Ytlmenolcgaakeaa
open Go.RowKit
open Go.Lib hiding intOf

/-- A call answers the number that a text is, and true; or 0 and false; it turns nothing that was there. -/
def NumIs (s : ByteArray) (w : World) (e : Ending) (w' : World) : Prop :=
  ∃ (b : Bool) (n : Int), e = .returned (.tuple #[.int .i64 n, .bool b]) ∧ (b = true ↔ NumOk s) ∧ (b = true → n = valL s.data.toList) ∧ (b = false → n = 0) ∧ Below w.heap.size w w'
theorem NumIs.no {s : ByteArray} {w w' : World} (h : ¬ NumOk s) (hb : Below w.heap.size w w') : NumIs s w (.returned (.tuple #[.int .i64 0, .bool false])) w' :=
  ⟨false, 0, rfl, by simpa using h, by simp, fun _ => rfl, hb⟩
theorem NumIs.yes {s : ByteArray} {w w' : World} {n : Int} (h : NumOk s) (hn : n = valL s.data.toList) (hb : Below w.heap.size w w') : NumIs s w (.returned (.tuple #[.int .i64 n, .bool true])) w' :=
  ⟨true, n, rfl, by simpa using h, fun _ => hn, by simp, hb⟩

theorem isEmpty_no {s : ByteArray} (h : 1 ≤ s.size) : s.toList.isEmpty = false := by
  have : s.toList.length = s.size := by rw [ByteArray.toList_eq]; simp
  cases hc : s.toList with
  | nil => rw [hc] at this; simp at this; omega
  | cons _ _ => rfl
theorem isEmpty_yes {s : ByteArray} (h : s.size = 0) : s.toList.isEmpty = true := by
  have : s.toList.length = s.size := by rw [ByteArray.toList_eq]; simp
  rw [h] at this
  rw [List.length_eq_zero_iff.1 this]; rfl

end Go.Proofs.Ytlmenolcgaakeaa

namespace Go.Proofs.Ytlmenolcgaakeaa
open Go.RowKit
open Go.Lib hiding intOf

def lowB (n : Int) : Int := if 65 ≤ n ∧ n ≤ 90 then n + 32 else n
/-- The bytes made small, as numbers. -/
def lowXs (s : ByteArray) : List Int := s.data.toList.map (fun b => lowB (b.toNat : Int))
def lowerOf (s : ByteArray) : ByteArray := strOfNums (lowXs s)
theorem lowXs_len (s : ByteArray) : (lowXs s).length = s.size := by simp [lowXs]
theorem lowXs_get (s : ByteArray) (j : Nat) (h : j < s.size) : (lowXs s).getD j 0 = lowB ((s[j]'h).toNat : Int) := by
  unfold lowXs
  rw [List.getD_eq_getElem?_getD, List.getElem?_map, byte_get s j h]
  rfl

/-- Within a rune of more than one byte every byte is at least 128, and it ends within the text. -/
theorem decode_skip (s : ByteArray) (pos : Nat) (hp : pos < s.size) : pos + (Utf8.decode s pos).2 ≤ s.size ∧ 1 ≤ (Utf8.decode s pos).2 ∧
    ∀ j (h : j < s.size), pos < j → j < pos + (Utf8.decode s pos).2 → 128 ≤ (s[j]'h).toNat := by
  have hg : ∀ k (h : pos + k < s.size), (s.get! (pos + k)).toNat = (s[pos + k]'h).toNat := by
    intro k h
    have : s.get! (pos + k) = s[pos + k]'h := get_at s (pos + k) h
    rw [this]
  have key : ∀ n : Nat, (∀ k, 1 ≤ k → k < n → pos + k < s.size ∧ (s.get! (pos + k)).toNat / 64 = 2) → ∀ j (h : j < s.size), pos < j → j < pos + n → 128 ≤ (s[j]'h).toNat := by
    intro n hn j h h1 h2
    obtain ⟨k, rfl⟩ : ∃ k, j = pos + k := ⟨j - pos, by omega⟩
    have := (hn k (by omega) (by omega)).2
    rw [hg k h] at this
    omega
  have one : ∀ j (h : j < s.size), pos < j → j < pos + 1 → 128 ≤ (s[j]'h).toNat := fun j _ h1 h2 => absurd h1 (by omega)
  simp only [Utf8.decode]
  split
  · exact ⟨by omega, by omega, one⟩
  · split
    · rename_i h2
      simp only [Bool.and_eq_true, beq_iff_eq, decide_eq_true_eq] at h2
      split
      · exact ⟨by dsimp only; omega, by dsimp only; omega, key 2 (fun k a b => by
          obtain rfl : k = 1 := by omega
          exact h2.2)⟩
      · exact ⟨by dsimp only; omega, by dsimp only; omega, one⟩
    · split
      · rename_i h3
        simp only [Bool.and_eq_true, beq_iff_eq, decide_eq_true_eq] at h3
        split
        · exact ⟨by dsimp only; omega, by dsimp only; omega, key 3 (fun k a b => by
            rcases (by omega : k = 1 ∨ k = 2) with rfl | rfl
            · exact h3.1.2
            · exact h3.2)⟩
        · exact ⟨by dsimp only; omega, by dsimp only; omega, one⟩
      · split
        · rename_i h4
          simp only [Bool.and_eq_true, beq_iff_eq, decide_eq_true_eq] at h4
          split
          · exact ⟨by dsimp only; omega, by dsimp only; omega, key 4 (fun k a b => by
              rcases (by omega : k = 1 ∨ k = 2 ∨ k = 3) with rfl | rfl | rfl
              · exact h4.1.1.2
              · exact h4.1.2
              · exact h4.2)⟩
          · exact ⟨by dsimp only; omega, by dsimp only; omega, one⟩
        · exact ⟨by dsimp only; omega, by dsimp only; omega, one⟩

/-- What stands in cell j when all ahead of 'pos' is made small. -/
def lowAt (s : ByteArray) (pos j : Nat) : Int := if j < pos then (lowXs s).getD j 0 else ((s.data.toList.getD j 0).toNat : Int)

theorem lowAt_zero (s : ByteArray) (j : Nat) : lowAt s 0 j = ((s.data.toList.getD j 0).toNat : Int) := by simp [lowAt]
theorem getD_byte (s : ByteArray) (j : Nat) (h : j < s.size) : s.data.toList.getD j 0 = s[j]'h := by
  rw [List.getD_eq_getElem?_getD, byte_get s j h]; rfl
theorem lowAt_end (s : ByteArray) (pos j : Nat) (hp : ¬ pos < s.size) (hj : j < s.size) : lowAt s pos j = (lowXs s).getD j 0 := by
  unfold lowAt; rw [if_pos (by omega)]
theorem lowAt_here (s : ByteArray) (pos : Nat) (h : pos < s.size) : lowAt s pos pos = ((s[pos]'h).toNat : Int) := by
  unfold lowAt; rw [if_neg (by omega), getD_byte s pos h]
/-- Where no byte from pos to q is a great letter, nothing is to be turned there. -/
theorem lowAt_skip (s : ByteArray) (pos q : Nat) (hpq : pos ≤ q) (hn : ∀ j (h : j < s.size), pos ≤ j → j < q → ¬ (65 ≤ (s[j]'h).toNat ∧ (s[j]'h).toNat ≤ 90)) (j : Nat) (hj : j < s.size) : lowAt s q j = lowAt s pos j := by
  unfold lowAt
  by_cases h1 : j < pos
  · rw [if_pos h1, if_pos (by omega)]
  · rw [if_neg h1]
    by_cases h2 : j < q
    · rw [if_pos h2, lowXs_get s j hj, getD_byte s j hj]
      have := hn j hj (by omega) h2
      unfold lowB
      rw [if_neg (by omega)]
    · rw [if_neg h2]
theorem lowAt_hit (s : ByteArray) (pos : Nat) (h : pos < s.size) (hu : 65 ≤ (s[pos]'h).toNat ∧ (s[pos]'h).toNat ≤ 90) : lowAt s (pos + 1) pos = ((s[pos]'h).toNat : Int) + 32 := by
  unfold lowAt
  rw [if_pos (by omega), lowXs_get s pos h]
  unfold lowB
  rw [if_pos (by omega)]
theorem lowAt_other (s : ByteArray) (pos j : Nat) (h : j ≠ pos) : lowAt s (pos + 1) j = lowAt s pos j := by
  unfold lowAt
  by_cases h1 : j < pos
  · rw [if_pos h1, if_pos (by omega)]
  · rw [if_neg h1, if_neg (by omega)]

/-- Behind a call that only makes memory the iterator stands where it was set, and every other block as it was. -/
theorem iter_step_at {w wr w1 : World} {B k : Nat} {s : ByteArray} {pos p1 : Nat} (hB : B ≤ k) (hh : wr.heap[k]? = some (.stringIter s pos)) (hbw : Below B w wr)
    (hb1 : Below (wr.iterAt k s p1).heap.size (wr.iterAt k s p1) w1) : w1.heap[k]? = some (.stringIter s p1) ∧ Below B w w1 ∧ ∀ j, j ≠ k → j < wr.heap.size → w1.heap[j]? = wr.heap[j]? := by
  have hlt : k < wr.heap.size := (Array.getElem?_eq_some_iff.1 hh).1
  refine ⟨?_, ?_, ?_⟩
  · rw [hb1.block _ (by rw [iterAt_size]; exact hlt)]
    exact iterAt_heap _ _ _ _ _ hh
  · exact (below_iterAt hbw hB s p1).trans (hb1.mono (by rw [iterAt_size]; omega))
  · intro j hj hjl
    rw [hb1.block _ (by rw [iterAt_size]; exact hjl)]
    exact iterAt_other _ _ _ _ _ hj

set_option maxHeartbeats 1000000 in
theorem implLower_any (s : ByteArray) (w : World) :
    Calls Try.prog 63 #[.string s] w fun e w' => TextIs (lowerOf s) w e w' := by
  obtain ⟨W0, cap, hcv, hsz, hcells, hfz, hbel⟩ : ∃ (W0 : World) (cap : Nat), (convert 9 100 (.string s)).run Try.prog w = .ok (.slice (some ⟨w.heap.size, 0, none⟩) s.size cap) W0 ∧ W0.heap.size = w.heap.size + 1 ∧
      Hid (∀ j, j < s.size → W0.cell? ⟨w.heap.size, j, none⟩ = some (.int .u8 (lowAt s 0 j))) ∧ Hid (∀ j, j < s.size → W0.frozen? ⟨w.heap.size, j, none⟩ = false) ∧ Below w.heap.size w W0 := by
    refine ⟨_, _, Lib.run_convert_string_bytes (P := Try.prog) w 9 100 5 s Try.underlying9 Try.underlying100 Try.underlying5, bytesWorld_size _ _ _, ?_, ?_, ?_⟩
    · intro j hj; rw [lowAt_zero]; exact bytesWorld_cell w 5 s j hj
    · intro j hj
      have hle : s.size ≤ (bytesCells w 5 s).size := by simp [bytesCells]
      simp [World.frozen?, bytesWorld_at_new]
      omega
    · exact ⟨rfl, rfl, rfl, by rw [bytesWorld_size]; omega, fun k hk => bytesWorld_at_old w 5 s k hk⟩
  go_enter Try.func63, Try.ntmps63
  go_wp2
  go_loopw [4] (fun _ wr => ∃ pos : Nat, pos ≤ s.size ∧ wr.heap[w.heap.size + 1]? = some (.stringIter s pos) ∧ Below w.heap.size w wr ∧ Hid (∀ j, j < s.size → wr.cell? ⟨w.heap.size, j, none⟩ = some (.int .u8 (lowAt s pos j))) ∧ Hid (∀ j, j < s.size → wr.frozen? ⟨w.heap.size, j, none⟩ = false)) (fun _ wr => s.size - wr.iterPos (w.heap.size + 1))
  case atStart =>
    refine ⟨0, Nat.zero_le _, ?_, ?_, ?_, ?_⟩
    · rw [← hsz]; exact World.iter_heap _ _ _
    · exact hbel.alloc (by omega) _
    · intro j hj; rw [← hcells.out j hj]; exact World.cell?_alloc_lt _ _ _ (by simp; omega)
    · intro j hj; rw [← hfz.out j hj]; exact World.frozen?_alloc_old _ _ _ (by simp; omega)
  case round =>
    clear hcells hfz
    obtain ⟨pos, hpos, hh, hbw, hcells, hfz⟩ := hrel
    by_cases hp : pos < s.size
    · by_cases hu : 65 ≤ (s[pos]'hp).toNat ∧ (s[pos]'hp).toNat ≤ 90
      · have hnx := fun ty => run_next_ascii_at (P := Try.prog) wr (w.heap.size + 1) s pos ty hh hp (by omega)
        have hcl : (cls ((s[pos]'hp).toNat : Int) == 0) = true := by
          have := cls_spec ((s[pos]'hp).toNat : Int)
          rw [beq_iff_eq]; omega
        have hu1 : (65 : Int) ≤ ((s[pos]'hp).toNat : Int) := by omega
        have hu2 : ((s[pos]'hp).toNat : Int) ≤ 90 := by omega
        have HU : Hid (65 ≤ (s[pos]'hp).toNat ∧ (s[pos]'hp).toNat ≤ 90) := hu
        clear hu
        have hNw : w.heap.size < wr.heap.size := by
          have := (Array.getElem?_eq_some_iff.1 hh).1
          omega
        go_wp2_with fail
        refine (classOf_any _ _).mono ?_
        rintro e w1 ⟨rfl, hb1⟩
        obtain ⟨p1, p2, p3⟩ := iter_step_at (by omega) hh hbw hb1
        have hblk : w1.heap[w.heap.size]? = wr.heap[w.heap.size]? := p3 _ (by omega) hNw
        have hc1 : w1.cell? ⟨w.heap.size, pos, none⟩ = some (.int .u8 ((s[pos]'hp).toNat : Int)) := by
          rw [World.cell?_of_block (w := wr) hblk, hcells.out pos hp, lowAt_here s pos hp]
        have hf1 : w1.frozen? ⟨w.heap.size, pos, none⟩ = false := by
          rw [World.frozen?_of_block (w := wr) hblk]; exact hfz.out pos hp
        have HB : Hid (w1.heap[w.heap.size]? = wr.heap[w.heap.size]?) := hblk
        have H1 : Hid (w1.heap[w.heap.size + 1]? = some (.stringIter s (pos + 1))) := p1
        have HH : Hid (wr.heap[w.heap.size + 1]? = some (.stringIter s pos)) := hh
        clear hblk p3 hb1 hnx hh p1
        go_wp2
        have hit2 : (w1.setCell ⟨w.heap.size, pos, none⟩ (.int .u8 (((s[pos]'hp).toNat : Int) + 32))).heap[w.heap.size + 1]? = some (.stringIter s (pos + 1)) := by
          rw [Below.heap_setCell _ _ _ _ (by simp)]; exact H1.out
        refine ⟨⟨pos + 1, by omega, hit2, p2.setCell (Nat.le_refl _) _, ?_, ?_⟩, by rw [iterPos_of hit2, iterPos_of HH.out]; omega⟩
        · intro j hj
          by_cases e : j = pos
          · subst e
            rw [World.cell?_setCell_same _ _ _ hc1, lowAt_hit s j hp HU.out]
          · rw [World.cell?_setCell_other (h := fun h => e (by cases h; rfl)), World.cell?_of_block (w := wr) HB.out, lowAt_other s pos j e]
            exact hcells.out j hj
        · intro j hj
          rw [World.frozen?_setCell, World.frozen?_of_block (w := wr) HB.out]; exact hfz.out j hj
      · have hnx := fun ty => run_next_any_at (P := Try.prog) wr (w.heap.size + 1) s pos ty hh hp
        obtain ⟨d1, d2, d3⟩ := decode_skip s pos hp
        have hcl : (cls ((Utf8.decode s pos).1 : Int) == 0) = false := by
          have := cls_spec ((Utf8.decode s pos).1 : Int)
          rw [beq_eq_false_iff_ne]
          by_cases ha : (s[pos]'hp).toNat < 128
          · rw [decode_ascii s pos hp ha] at this ⊢
            dsimp only at this ⊢
            omega
          · have := (decode_high s pos hp (by omega)).1
            omega
        have hsk : ∀ j, j < s.size → lowAt s (pos + (Utf8.decode s pos).2) j = lowAt s pos j := fun j hj => lowAt_skip s pos _ (by omega) (fun i hi h1 h2 => by
          by_cases e : i = pos
          · subst e; exact hu
          · have := d3 i hi (by omega) h2; omega) j hj
        have HS : Hid (∀ j, j < s.size → lowAt s (pos + (Utf8.decode s pos).2) j = lowAt s pos j) := hsk
        have hNw : w.heap.size < wr.heap.size := by
          have := (Array.getElem?_eq_some_iff.1 hh).1
          omega
        clear hu d3 hsk
        go_wp2_with (go_at_call 68; refine (classOf_any _ _).mono ?_; rintro e w1 ⟨rfl, hb1⟩)
        obtain ⟨p1, p2, p3⟩ := iter_step_at (by omega) hh hbw hb1
        have hblk : w1.heap[w.heap.size]? = wr.heap[w.heap.size]? := p3 _ (by omega) hNw
        refine ⟨⟨_, d1, p1, p2, ?_, ?_⟩, by rw [iterPos_of p1, iterPos_of hh]; omega⟩
        · intro j hj
          rw [World.cell?_of_block (w := wr) hblk, HS.out j hj]; exact hcells.out j hj
        · intro j hj
          rw [World.frozen?_of_block (w := wr) hblk]; exact hfz.out j hj
    · have hnx := fun ty => run_next_end_at (P := Try.prog) wr (w.heap.size + 1) s pos ty hh hp
      have hback := run_convert_bytes_arg (P := Try.prog) wr 100 5 Try.underlying100 Try.underlying5 w.heap.size 0 s.size cap (lowXs s) (lowXs_len s) (fun i hi => by
        rw [Nat.zero_add, hcells.out i hi, lowAt_end s pos i hp hi]) 9 Try.underlying9
      go_wp2
      go_ret
      exact TextIs.of rfl hbw

/-- The first k bytes made small, as values. -/
def lowVs (s : ByteArray) (k : Nat) : List Value := ((lowXs s).take k).map (Value.int .u8)
theorem lowVs_succ (s : ByteArray) (k : Nat) (h : k < s.size) : lowVs s (k + 1) = lowVs s k ++ [Value.int .u8 (lowB ((s[k]'h).toNat : Int))] := by
  have hl : k < (lowXs s).length := by rw [lowXs_len]; exact h
  unfold lowVs
  rw [List.take_succ_eq_append_getElem hl, List.map_append]
  have := lowXs_get s k h
  rw [List.getD_eq_getElem?_getD, List.getElem?_eq_getElem hl] at this
  simp at this
  simp [this]
theorem lowVs_end (s : ByteArray) (k : Nat) (h : ¬ k < s.size) : lowVs s k = (lowXs s).map (Value.int .u8) := by
  unfold lowVs; rw [List.take_of_length_le (by rw [lowXs_len]; omega)]
/-- What is owned lies from the base on. -/
theorem owns_ge {w : World} {base : Nat} {e : TypeId} {size : Nat} {v : Value} {n g : Nat} {xs : List Value} (h : w.ownsRow base e size v n xs) (hg : v.ownBlock = some g) : base ≤ g := by
  rcases h.2 with ⟨rfl, _⟩ | ⟨g', cap, cur, rfl, hb, _⟩
  · simp [Value.ownBlock] at hg
  · simp [Value.ownBlock] at hg; omega
theorem one_byte (V : Int) : ∀ u ∈ [Value.int .u8 V], u.oneCell' = true := by intro u hu; simp at hu; subst hu; rfl
/-- An owned row of bytes, turned into a text. -/
theorem conv_owned {w : World} {base n : Nat} {v : Value} {xs : List Int} (h : w.ownsRow base 5 1 v n (xs.map (Value.int .u8))) : (convert 100 9 v).run Try.prog w = .ok (.string (strOfNums xs)) w := by
  obtain ⟨hl, hv⟩ := h
  simp at hl
  rcases hv with ⟨rfl, h0⟩ | ⟨g, cap, cur, rfl, _, hg, hn, _, hcs, htk⟩
  · have : xs = [] := List.length_eq_zero_iff.1 (by omega)
    subst this
    exact run_convert_bytes_nil (P := Try.prog) w 100 5 Try.underlying100 Try.underlying5 0 0 9 Try.underlying9
  · refine run_convert_bytes_arg (P := Try.prog) w 100 5 Try.underlying100 Try.underlying5 g 0 n cap xs hl (fun i hi => ?_) 9 Try.underlying9
    have h1 : (cur.toList.take (n * 1))[i]? = some (.int .u8 (xs.getD i 0)) := by
      rw [htk, List.getElem?_map, List.getD_eq_getElem?_getD, List.getElem?_eq_getElem (by omega)]
      simp
    rw [List.getElem?_take, if_pos (by omega)] at h1
    simp only [World.cell?, hg, Nat.zero_add]
    simpa using h1

set_option maxHeartbeats 1000000 in
set_option maxRecDepth 100000 in
theorem specLower_any (s : ByteArray) (w : World) (hs : s.size ≤ 1048576) :
    Calls Try.prog 55 #[.string s] w fun e w' => TextIs (lowerOf s) w e w' := by
  obtain ⟨i0, hi, hz0, hz1, hz2⟩ := info_parts info5
  go_enter Try.func55, Try.ntmps55
  go_wp2
  go_loopw [3, 4] (fun v i wr => ∃ k : Nat, k ≤ s.size ∧ i = .int .i64 k ∧ wr.ownsRow w.heap.size 5 1 v k (lowVs s k) ∧ Below w.heap.size w wr) (fun _ i _ => s.size - (intOf i).toNat)
  case atStart => exact ⟨0, Nat.zero_le _, rfl, ⟨by simp [lowVs], .inr ⟨w.heap.size, 0, #[], rfl, Nat.le_refl _, heap_alloc_new w _, Nat.le_refl _, Nat.zero_le _, rfl, rfl⟩⟩, (Below.refl _ _).alloc (Nat.le_refl _) _⟩
  case round =>
    obtain ⟨k, hk, rfl, hown, hbw⟩ := hrel
    by_cases hlt : k < s.size
    · have hb := (s[k]'hlt).toNat_lt
      have HST : Hid _ := lowVs_succ s k hlt
      have h63 : k + 1 ≤ maxLen := by unfold maxLen; omega
      have h47 : (k + 1) * 1 ≤ 140737488355328 := by omega
      have HBS : ∀ o, w.heap.size ≤ (wr.alloc o).heap.size := fun o => by have := hbw.size; simp; omega
      by_cases hu : (65 : Int) ≤ ((s[k]'hlt).toNat : Int) ∧ ((s[k]'hlt).toNat : Int) ≤ 90
      · have hV : Hid (((s[k]'hlt).toNat : Int) + 32 = lowB ((s[k]'hlt).toNat : Int)) := by show _ = _; unfold lowB; rw [if_pos hu]
        obtain ⟨hu1, hu2⟩ := hu
        go_wp2_with (at_builtin; refine wpList_append_own _ rfl _ _ 100 rfl w.heap.size 5 i0 (.int .u8 0) 1 1 Try.underlying100 hi hz0 hz1 hz2 rfl (by decide) _ _ _ rfl (hown.alloc _) ⟨wr.heap.size, 0, none⟩ 1 1 [.int .u8 (((s[k]'hlt).toNat : Int) + 32)] rfl rfl (cell_one_new _ _ _) (one_byte _) h63 h47 (HBS _) ?_)
        intro v1 w1 hown1 hgrow _
        have hb2 : Below w.heap.size w w1 := (hbw.alloc hbw.size _).grown hgrow (by have := hbw.size; simp; omega) (fun g hg => owns_ge hown hg)
        rw [hV.out, ← HST.out] at hown1
        clear hgrow hown hbw
        go_wp2
        go_roundw
        case rel => exact ⟨k + 1, by omega, by go_num, hown1, hb2⟩
        case measure => simp [intOf]; omega
      · have hV : Hid (((s[k]'hlt).toNat : Int) = lowB ((s[k]'hlt).toNat : Int)) := by show _ = _; unfold lowB; rw [if_neg hu]
        have hcase : ((s[k]'hlt).toNat : Int) < 65 ∨ (65 : Int) ≤ ((s[k]'hlt).toNat : Int) ∧ (90 : Int) < ((s[k]'hlt).toNat : Int) := by omega
        clear hu
        rcases hcase with hc | ⟨hc, hc2⟩
        · go_wp2_with (at_builtin; refine wpList_append_own _ rfl _ _ 100 rfl w.heap.size 5 i0 (.int .u8 0) 1 1 Try.underlying100 hi hz0 hz1 hz2 rfl (by decide) _ _ _ rfl (hown.alloc _) ⟨wr.heap.size, 0, none⟩ 1 1 [.int .u8 ((s[k]'hlt).toNat : Int)] rfl rfl (cell_one_new _ _ _) (one_byte _) h63 h47 (HBS _) ?_)
          intro v1 w1 hown1 hgrow _
          have hb2 : Below w.heap.size w w1 := (hbw.alloc hbw.size _).grown hgrow (by have := hbw.size; simp; omega) (fun g hg => owns_ge hown hg)
          have hown2 : w1.ownsRow w.heap.size 5 1 v1 (k + 1) (lowVs s (k + 1)) := by rw [HST.out, ← hV.out]; exact hown1
          clear hown1
          clear hgrow hown hbw
          go_wp2
          go_roundw
          case rel => exact ⟨k + 1, by omega, by go_num, hown2, hb2⟩
          case measure => simp [intOf]; omega
        · go_wp2_with (at_builtin; refine wpList_append_own _ rfl _ _ 100 rfl w.heap.size 5 i0 (.int .u8 0) 1 1 Try.underlying100 hi hz0 hz1 hz2 rfl (by decide) _ _ _ rfl (hown.alloc _) ⟨wr.heap.size, 0, none⟩ 1 1 [.int .u8 ((s[k]'hlt).toNat : Int)] rfl rfl (cell_one_new _ _ _) (one_byte _) h63 h47 (HBS _) ?_)
          intro v1 w1 hown1 hgrow _
          have hb2 : Below w.heap.size w w1 := (hbw.alloc hbw.size _).grown hgrow (by have := hbw.size; simp; omega) (fun g hg => owns_ge hown hg)
          have hown2 : w1.ownsRow w.heap.size 5 1 v1 (k + 1) (lowVs s (k + 1)) := by rw [HST.out, ← hV.out]; exact hown1
          clear hown1
          clear hgrow hown hbw
          go_wp2
          go_roundw
          case rel => exact ⟨k + 1, by omega, by go_num, hown2, hb2⟩
          case measure => simp [intOf]; omega
    · have hcv := conv_owned (by rw [lowVs_end s k hlt] at hown; exact hown)
      go_wp2
      go_ret
      exact TextIs.of rfl hbw

end Go.Proofs.Ytlmenolcgaakeaa

namespace Go.Proofs.Ytlmenolcgaakeaa
open Go.RowKit
open Go.Lib hiding intOf

/-- A part is taken where it is not empty. -/
def addPart (l : List ByteArray) (t : ByteArray) : List ByteArray := if t.size = 0 then l else l ++ [t]
/-- What is gathered ahead of byte k, and where the part that is begun begins. -/
def splitTo (s : ByteArray) : Nat → List ByteArray × Nat
  | 0 => ([], 0)
  | k + 1 => if (s.data.toList.getD k 0).toNat = 44 then (addPart (splitTo s k).1 (trimOf (s.extract (splitTo s k).2 k)), k + 1) else splitTo s k
def splitL (s : ByteArray) : List ByteArray := addPart (splitTo s s.size).1 (trimOf (s.extract (splitTo s s.size).2 s.size))

theorem addPart_len (l : List ByteArray) (t : ByteArray) : (addPart l t).length ≤ l.length + 1 := by
  unfold addPart; split <;> simp
theorem splitTo_le (s : ByteArray) : ∀ k, (splitTo s k).2 ≤ k ∧ (splitTo s k).1.length ≤ k := by
  intro k
  induction k with
  | zero => simp [splitTo]
  | succ k ih =>
    rw [splitTo]
    split
    · have := addPart_len (splitTo s k).1 (trimOf (s.extract (splitTo s k).2 k))
      dsimp only; omega
    · omega
theorem splitTo_comma (s : ByteArray) (k : Nat) (h : k < s.size) (hc : (s[k]'h).toNat = 44) : splitTo s (k + 1) = (addPart (splitTo s k).1 (trimOf (s.extract (splitTo s k).2 k)), k + 1) := by
  rw [splitTo, getD_byte s k h, if_pos hc]
theorem splitTo_other (s : ByteArray) (k : Nat) (h : k < s.size) (hc : (s[k]'h).toNat ≠ 44) : splitTo s (k + 1) = splitTo s k := by
  rw [splitTo, getD_byte s k h, if_neg hc]
theorem splitTo_skip (s : ByteArray) (k : Nat) : ∀ d, k + d ≤ s.size → (∀ j (h : j < s.size), k ≤ j → j < k + d → (s[j]'h).toNat ≠ 44) → splitTo s (k + d) = splitTo s k := by
  intro d
  induction d with
  | zero => intro _ _; rfl
  | succ d ih =>
    intro hd hn
    rw [show k + (d + 1) = (k + d) + 1 by omega, splitTo_other s (k + d) (by omega) (hn _ _ (by omega) (by omega))]
    exact ih (by omega) (fun j h h1 h2 => hn j h h1 (by omega))

/-- A call answers a list of these texts in memory of its own, from block 'base' on, and turns nothing below it. -/
def RowIs (base : Nat) (xs : List ByteArray) (w : World) (e : Ending) (w' : World) : Prop :=
  ∃ v, e = .returned v ∧ w'.ownsRow base 9 1 v xs.length (xs.map Value.string) ∧ Below base w w'
theorem RowIs.of {base : Nat} {xs ys : List ByteArray} {w w' : World} {v : Value} {n : Nat} (h : ys = xs) (hn : n = ys.length) (hown : w'.ownsRow base 9 1 v n (ys.map Value.string)) (hb : Below base w w') : RowIs base xs w (.returned v) w' := by
  subst h; subst hn; exact ⟨v, rfl, hown, hb⟩
/-- What is owned stays so in every later world that keeps what was there. -/
theorem owns_below {w w' : World} {base B : Nat} {e : TypeId} {size : Nat} {v : Value} {n : Nat} {xs : List Value} (h : w.ownsRow base e size v n xs) (hb : Below B w w') (hB : ∀ g, v.ownBlock = some g → g < B) : w'.ownsRow base e size v n xs := by
  refine ⟨h.1, ?_⟩
  rcases h.2 with h2 | ⟨g, cap, cur, rfl, h3, h4, h5⟩
  · exact .inl h2
  · exact .inr ⟨g, cap, cur, rfl, h3, by rw [hb.block g (hB g rfl)]; exact h4, h5⟩
theorem owns_lt {w : World} {base : Nat} {e : TypeId} {size : Nat} {v : Value} {n g : Nat} {xs : List Value} (h : w.ownsRow base e size v n xs) (hg : v.ownBlock = some g) : g < w.heap.size := by
  rcases h.2 with ⟨rfl, _⟩ | ⟨g', cap, cur, rfl, hb, hh, _⟩
  · simp [Value.ownBlock] at hg
  · simp [Value.ownBlock] at hg
    subst hg
    exact (Array.getElem?_eq_some_iff.1 hh).1
theorem owns_base {w : World} {base b : Nat} {e : TypeId} {size : Nat} {v : Value} {n : Nat} {xs : List Value} (h : w.ownsRow base e size v n xs) (hb : b ≤ base) : w.ownsRow b e size v n xs := by
  refine ⟨h.1, ?_⟩
  rcases h.2 with h2 | ⟨g, cap, cur, h3, h4, h5⟩
  · exact .inl h2
  · exact .inr ⟨g, cap, cur, h3, by omega, h5⟩
theorem one_text (t : ByteArray) : ∀ u ∈ [Value.string t], u.oneCell' = true := by intro u hu; simp at hu; subst hu; rfl
theorem info9 : (Try.prog.info? 9).map (fun i => (i.zero, i.size, i.bytes)) = some (some (.string ⟨#[]⟩), 1, 16) := by kernel_rfl

theorem addPart_no {l : List ByteArray} {t : ByteArray} (h : t.toList.isEmpty = true) : addPart l t = l := by
  unfold addPart
  have : t.size = 0 := by
    rw [ByteArray.toList_eq] at h
    have := List.isEmpty_iff.1 h
    have h2 : t.data.toList.length = t.size := by simp
    rw [this] at h2; simpa using h2.symm
  rw [if_pos this]
theorem addPart_yes {l : List ByteArray} {t : ByteArray} (h : t.toList.isEmpty = false) : addPart l t = l ++ [t] := by
  unfold addPart
  have : t.size ≠ 0 := by
    intro hc
    rw [isEmpty_yes hc] at h; cases h
  rw [if_neg this]

set_option maxHeartbeats 1000000 in
set_option maxRecDepth 100000 in
theorem appendPart_any (base : Nat) (v : Value) (n : Nat) (xs : List ByteArray) (raw : ByteArray) (w : World) (hx : n = xs.length) (hown : w.ownsRow base 9 1 v n (xs.map Value.string)) (hbase : base ≤ w.heap.size) (hn : n ≤ 1048577) (hraw : raw.size ≤ 281474976710656) :
    Calls Try.prog 71 #[v, .string raw] w fun e w' => RowIs base (addPart xs (trimOf raw)) w e w' := by
  obtain ⟨i0, hi, hz0, hz1, hz2⟩ := info_parts info9
  have h63 : n + 1 ≤ maxLen := by unfold maxLen; omega
  have h47 : (n + 1) * 16 ≤ 140737488355328 := by omega
  have HX : Hid (n = xs.length) := hx
  clear hx
  cases he : (trimOf raw).toList.isEmpty
  · have HE : Hid _ := addPart_yes (l := xs) he
    go_enter Try.func71, Try.ntmps71
    go_wp2_with fail
    refine (implTrim_any _ _ hraw).mono ?_
    rintro e w1 ⟨rfl, hb1⟩
    have hown1 := owns_below hown hb1 (fun g hg => owns_lt hown hg)
    have HBS : ∀ o, base ≤ (w1.alloc o).heap.size := fun o => by have := hb1.size; simp; omega
    go_wp2_with (at_builtin; refine wpList_append_own _ rfl _ _ 29 rfl base 9 i0 (.string ⟨#[]⟩) 1 16 Try.underlying29 hi hz0 hz1 hz2 rfl (by decide) _ _ _ rfl (hown1.alloc _) ⟨w1.heap.size, 0, none⟩ 1 1 [.string (trimOf raw)] rfl rfl (cell_one_new _ _ _) (one_text _) h63 h47 (HBS _) ?_)
    intro v1 w2 hown2 hgrow _
    have hb2 : Below base w w2 := (((hb1.mono hbase).alloc (Nat.le_trans hbase hb1.size) _).grown hgrow (HBS _) (fun g hg => owns_ge hown hg))
    clear hown hown1 HBS hgrow
    go_wp2
    go_ret
    refine RowIs.of (n := n + 1) (ys := xs ++ [trimOf raw]) HE.out.symm (by rw [HX.out]; simp) (by simpa using hown2) hb2
  · have HE : Hid _ := addPart_no (l := xs) he
    go_enter Try.func71, Try.ntmps71
    go_wp2_with (go_at_call 77; refine (implTrim_any _ _ hraw).mono ?_; rintro e w1 ⟨rfl, hb1⟩)
    go_ret
    exact RowIs.of (ys := xs) HE.out.symm HX.out (owns_below hown hb1 (fun g hg => owns_lt hown hg)) (hb1.mono hbase)

set_option maxHeartbeats 1000000 in
theorem implSplit_any (s : ByteArray) (w : World) (hs : s.size ≤ 1048576) :
    Calls Try.prog 62 #[.string s] w fun e w' => RowIs w.heap.size (splitL s) w e w' := by
  go_enter Try.func62, Try.ntmps62
  go_wp2
  go_loopw [3, 4] (fun v i wr => ∃ pos f : Nat, pos ≤ s.size ∧ f ≤ pos ∧ i = .int .i64 (f : Int) ∧ wr.heap[w.heap.size]? = some (.stringIter s pos) ∧ Below w.heap.size w wr ∧
      Hid (f = (splitTo s pos).2) ∧ wr.ownsRow (w.heap.size + 1) 9 1 v (splitTo s pos).1.length ((splitTo s pos).1.map Value.string)) (fun _ _ wr => s.size - wr.iterPos w.heap.size)
  case atStart => exact ⟨0, 0, Nat.zero_le _, Nat.le_refl _, rfl, World.iter_heap _ _ _, (Below.refl _ _).alloc (Nat.le_refl _) _, rfl, World.ownsRow_nil _ _ _ _⟩
  case round =>
    obtain ⟨pos, f, hpos, hfp, rfl, hh, hbw, hf, hown⟩ := hrel
    have hlp := splitTo_le s pos
    have hNw : w.heap.size < wr.heap.size := (Array.getElem?_eq_some_iff.1 hh).1
    by_cases hp : pos < s.size
    · by_cases hc : (s[pos]'hp).toNat = 44
      · have hnx := fun ty => run_next_ascii_at (P := Try.prog) wr w.heap.size s pos ty hh hp (by omega)
        have hcl : (cls ((s[pos]'hp).toNat : Int) == 5) = true := by
          have := cls_spec ((s[pos]'hp).toNat : Int)
          rw [beq_iff_eq]; omega
        have HC : Hid _ := splitTo_comma s pos hp hc
        clear hc
        go_wp2_with fail
        refine (classOf_any _ _).mono ?_
        rintro e w1 ⟨rfl, hb1⟩
        obtain ⟨p1, p2⟩ := iter_step hh hbw hb1
        have hs1 : wr.heap.size ≤ w1.heap.size := by have := hb1.size; rw [iterAt_size] at this; exact this
        have hown1 : w1.ownsRow (w.heap.size + 1) 9 1 u3 (splitTo s pos).1.length ((splitTo s pos).1.map Value.string) :=
          owns_below (ownsRow_iterAt hown (Nat.lt_succ_self _) s (pos + 1)) hb1 (fun g hg => by rw [iterAt_size]; exact owns_lt hown hg)
        have HH : Hid (wr.heap[w.heap.size]? = some (.stringIter s pos)) := hh
        clear hown hb1 hnx hh
        go_wp2_with fail
        refine (appendPart_any (w.heap.size + 1) _ _ _ _ _ rfl hown1 (by omega) (by omega) (by simp; omega)).mono ?_
        rintro e w2 ⟨v2, rfl, hown2, hb2⟩
        have hit2 : w2.heap[w.heap.size]? = some (.stringIter s (pos + 1)) := by rw [hb2.block _ (Nat.lt_succ_self _)]; exact p1
        have hown3 : w2.ownsRow (w.heap.size + 1) 9 1 v2 (splitTo s (pos + 1)).1.length ((splitTo s (pos + 1)).1.map Value.string) := by
          rw [HC.out, ← hf.out]; exact hown2
        have H2 : Hid (pos + 1 = (splitTo s (pos + 1)).2) := by show _ = _; rw [HC.out]
        have hb3 : Below w.heap.size w w2 := p2.trans (hb2.mono (by omega))
        clear hown1 hown2 hb2 p1 p2 hlp
        go_wp2
        go_roundw
        case rel => exact ⟨pos + 1, pos + 1, by omega, by omega, by go_num, hit2, hb3, H2, hown3⟩
        case measure => rw [iterPos_of hit2, iterPos_of HH.out]; omega
      · have hnx := fun ty => run_next_any_at (P := Try.prog) wr w.heap.size s pos ty hh hp
        obtain ⟨d1, d2, d3⟩ := decode_skip s pos hp
        have hcl : (cls ((Utf8.decode s pos).1 : Int) == 5) = false := by
          have := cls_spec ((Utf8.decode s pos).1 : Int)
          rw [beq_eq_false_iff_ne]
          by_cases ha : (s[pos]'hp).toNat < 128
          · rw [decode_ascii s pos hp ha] at this ⊢
            dsimp only at this ⊢
            omega
          · have := (decode_high s pos hp (by omega)).1
            omega
        have HS : Hid _ := splitTo_skip s pos (Utf8.decode s pos).2 d1 (fun j h h1 h2 => by
          by_cases e : j = pos
          · subst e; exact hc
          · have := d3 j h (by omega) h2; omega)
        clear hc d3
        go_wp2_with (go_at_call 68; refine (classOf_any _ _).mono ?_; rintro e w1 ⟨rfl, hb1⟩)
        obtain ⟨p1, p2⟩ := iter_step hh hbw hb1
        have hown1 : w1.ownsRow (w.heap.size + 1) 9 1 u3 (splitTo s pos).1.length ((splitTo s pos).1.map Value.string) :=
          owns_below (ownsRow_iterAt hown (Nat.lt_succ_self _) s _) hb1 (fun g hg => by rw [iterAt_size]; exact owns_lt hown hg)
        refine ⟨⟨_, f, d1, by omega, rfl, p1, p2, by rw [HS.out]; exact hf, by rw [HS.out]; exact hown1⟩, by rw [iterPos_of p1, iterPos_of hh]; omega⟩
    · have hnx := fun ty => run_next_end_at (P := Try.prog) wr w.heap.size s pos ty hh hp
      have hsp : pos = s.size := by omega
      have HL : Hid (addPart (splitTo s pos).1 (trimOf (s.extract f s.size)) = splitL s) := by
        show _ = _
        unfold splitL; rw [hf.out, hsp]
      clear hsp
      go_wp2_with fail
      refine (appendPart_any (w.heap.size + 1) _ _ _ _ _ rfl hown (by omega) (by omega) (by simp; omega)).mono ?_
      rintro e w2 ⟨v2, rfl, hown2, hb2⟩
      have hb3 : Below w.heap.size w w2 := hbw.trans (hb2.mono (by omega))
      clear hown hb2 hnx hh
      go_wp2
      go_ret
      exact RowIs.of HL.out rfl (owns_base hown2 (by omega)) hb3

/-- The same, and behind the last byte the whole. -/
def stTo (s : ByteArray) (k : Nat) : List ByteArray × Nat := if k ≤ s.size then splitTo s k else (splitL s, k)
theorem stTo_part (s : ByteArray) (k : Nat) (h : (∃ h : k < s.size, (s[k]'h).toNat = 44) ∨ k = s.size) : stTo s (k + 1) = (addPart (stTo s k).1 (trimOf (s.extract (stTo s k).2 k)), k + 1) := by
  rcases h with ⟨h, hc⟩ | rfl
  · unfold stTo
    rw [if_pos (by omega), if_pos (by omega), splitTo_comma s k h hc]
  · unfold stTo
    rw [if_neg (by omega), if_pos (by omega)]; rfl
theorem stTo_other (s : ByteArray) (k : Nat) (h : k < s.size) (hc : (s[k]'h).toNat ≠ 44) : stTo s (k + 1) = stTo s k := by
  unfold stTo
  rw [if_pos (by omega), if_pos (by omega), splitTo_other s k h hc]
theorem stTo_end (s : ByteArray) (k : Nat) (h : ¬ k ≤ s.size) : (stTo s k).1 = splitL s := by
  unfold stTo; rw [if_neg h]
theorem stTo_le (s : ByteArray) (k : Nat) (h : k ≤ s.size) : (stTo s k).2 ≤ k ∧ (stTo s k).1.length ≤ k := by
  unfold stTo; rw [if_pos h]; exact splitTo_le s k

set_option maxHeartbeats 2000000 in
set_option maxRecDepth 100000 in
theorem specSplit_any (s : ByteArray) (w : World) (hs : s.size ≤ 1048576) :
    Calls Try.prog 54 #[.string s] w fun e w' => RowIs w.heap.size (splitL s) w e w' := by
  obtain ⟨i0, hi, hz0, hz1, hz2⟩ := info_parts info9
  go_enter Try.func54, Try.ntmps54
  go_wp2
  go_loopw [3, 4, 5] (fun v a i wr => ∃ (k f : Nat) (l : List ByteArray), k ≤ s.size + 1 ∧ f ≤ k ∧ i = .int .i64 (k : Int) ∧ a = .int .i64 (f : Int) ∧ Below w.heap.size w wr ∧
      Hid (f = (stTo s k).2) ∧ Hid (l = (stTo s k).1) ∧ wr.ownsRow w.heap.size 9 1 v l.length (l.map Value.string)) (fun _ _ i _ => s.size + 1 - (intOf i).toNat)
  case atStart =>
    refine ⟨0, 0, [], Nat.zero_le _, Nat.le_refl _, rfl, rfl, (Below.refl _ _).alloc (Nat.le_refl _) _, ?_, ?_, ⟨rfl, .inr ⟨w.heap.size, 0, #[], rfl, Nat.le_refl _, heap_alloc_new w _, Nat.le_refl _, Nat.zero_le _, rfl, rfl⟩⟩⟩
    · show _ = _; simp [stTo, splitTo]
    · show _ = _; simp [stTo, splitTo]
  case round =>
    obtain ⟨k, f, l, hk, hfk, rfl, rfl, hbw, hf, hl, hown⟩ := hrel
    by_cases hks : k ≤ s.size
    · have hlk : l.length ≤ 1048577 := by have := (stTo_le s k hks).2; rw [← hl.out] at this; omega
      have h63 : l.length + 1 ≤ maxLen := by unfold maxLen; omega
      have h47 : (l.length + 1) * 16 ≤ 140737488355328 := by omega
      by_cases hlt : k < s.size
      · by_cases hc : (s[k]'hlt).toNat = 44
        · have ht : (((s[k]'hlt).toNat : Int) != 44) = false := by rw [bne_eq_false_iff_eq]; omega
          have HC0 := stTo_part s k (.inl ⟨hlt, hc⟩)
          rw [← hl.out, ← hf.out] at HC0
          have HC : Hid _ := HC0
          have H2 : Hid (k + 1 = (stTo s (k + 1)).2) := by show _ = _; rw [HC0]
          clear hc HC0
          have hz : (s.extract f k).size ≤ maxLen := by unfold maxLen; simp; omega
          cases he : (trimOf (s.extract f k)).toList.isEmpty
          · have HE : Hid _ := addPart_yes (l := l) he
            go_wp2_with fail
            refine (specTrim_any _ _ hz).mono ?_
            rintro e w1 ⟨rfl, hb1⟩
            have hown1 := owns_below hown hb1 (fun g hg => owns_lt hown hg)
            have HBS : ∀ o, w.heap.size ≤ (w1.alloc o).heap.size := fun o => by have := hb1.size; have := hbw.size; simp; omega
            go_wp2_with (at_builtin; refine wpList_append_own _ rfl _ _ 29 rfl w.heap.size 9 i0 (.string ⟨#[]⟩) 1 16 Try.underlying29 hi hz0 hz1 hz2 rfl (by decide) _ _ _ rfl (hown1.alloc _) ⟨w1.heap.size, 0, none⟩ 1 1 [.string (trimOf (s.extract f k))] rfl rfl (cell_one_new _ _ _) (one_text _) h63 h47 (HBS _) ?_)
            intro v1 w2 hown2 hgrow _
            have hb2 : Below w.heap.size w w2 := (((hbw.trans (hb1.mono hbw.size)).alloc (Nat.le_trans hbw.size hb1.size) _).grown hgrow (HBS _) (fun g hg => owns_ge hown hg))
            have hown3 : w2.ownsRow w.heap.size 9 1 v1 (stTo s (k + 1)).1.length ((stTo s (k + 1)).1.map Value.string) := by
              rw [HC.out, HE.out]; simpa using hown2
            clear hown hown1 HBS hgrow hown2
            go_wp2
            go_roundw
            case rel => exact ⟨k + 1, k + 1, _, by omega, by omega, by go_num, by go_num, hb2, H2, rfl, hown3⟩
            case measure => simp [intOf]; omega
          · have HE : Hid _ := addPart_no (l := l) he
            go_wp2_with (go_at_call 37; refine (specTrim_any _ _ hz).mono ?_; rintro e w1 ⟨rfl, hb1⟩)
            have hown3 : w1.ownsRow w.heap.size 9 1 u3 (stTo s (k + 1)).1.length ((stTo s (k + 1)).1.map Value.string) := by
              rw [HC.out, HE.out]; exact owns_below hown hb1 (fun g hg => owns_lt hown hg)
            have hb2 : Below w.heap.size w w1 := hbw.trans (hb1.mono hbw.size)
            go_roundw
            case rel => exact ⟨k + 1, k + 1, _, by omega, by omega, by go_num, by go_num, hb2, H2, rfl, hown3⟩
            case measure => simp [intOf]; omega
        · have ht : (((s[k]'hlt).toNat : Int) != 44) = true := by rw [bne_iff_ne]; omega
          have HO : Hid _ := stTo_other s k hlt hc
          clear hc
          go_wp2_with fail
          go_roundw
          case rel => exact ⟨k + 1, f, l, by omega, by omega, by go_num, rfl, hbw, by rw [HO.out]; exact hf, by rw [HO.out]; exact hl, hown⟩
          case measure => simp [intOf]; omega
      · have HC0 := stTo_part s k (.inr (by omega))
        rw [← hl.out, ← hf.out] at HC0
        have HC : Hid _ := HC0
        have H2 : Hid (k + 1 = (stTo s (k + 1)).2) := by show _ = _; rw [HC0]
        clear HC0
        have hz : (s.extract f k).size ≤ maxLen := by unfold maxLen; simp; omega
        cases he : (trimOf (s.extract f k)).toList.isEmpty
        · have HE : Hid _ := addPart_yes (l := l) he
          go_wp2_with fail
          refine (specTrim_any _ _ hz).mono ?_
          rintro e w1 ⟨rfl, hb1⟩
          have hown1 := owns_below hown hb1 (fun g hg => owns_lt hown hg)
          have HBS : ∀ o, w.heap.size ≤ (w1.alloc o).heap.size := fun o => by have := hb1.size; have := hbw.size; simp; omega
          go_wp2_with (at_builtin; refine wpList_append_own _ rfl _ _ 29 rfl w.heap.size 9 i0 (.string ⟨#[]⟩) 1 16 Try.underlying29 hi hz0 hz1 hz2 rfl (by decide) _ _ _ rfl (hown1.alloc _) ⟨w1.heap.size, 0, none⟩ 1 1 [.string (trimOf (s.extract f k))] rfl rfl (cell_one_new _ _ _) (one_text _) h63 h47 (HBS _) ?_)
          intro v1 w2 hown2 hgrow _
          have hb2 : Below w.heap.size w w2 := (((hbw.trans (hb1.mono hbw.size)).alloc (Nat.le_trans hbw.size hb1.size) _).grown hgrow (HBS _) (fun g hg => owns_ge hown hg))
          have hown3 : w2.ownsRow w.heap.size 9 1 v1 (stTo s (k + 1)).1.length ((stTo s (k + 1)).1.map Value.string) := by
            rw [HC.out, HE.out]; simpa using hown2
          clear hown hown1 HBS hgrow hown2
          go_wp2
          go_roundw
          case rel => exact ⟨k + 1, k + 1, _, by omega, by omega, by go_num, by go_num, hb2, H2, rfl, hown3⟩
          case measure => simp [intOf]; omega
        · have HE : Hid _ := addPart_no (l := l) he
          go_wp2_with (go_at_call 37; refine (specTrim_any _ _ hz).mono ?_; rintro e w1 ⟨rfl, hb1⟩)
          have hown3 : w1.ownsRow w.heap.size 9 1 u3 (stTo s (k + 1)).1.length ((stTo s (k + 1)).1.map Value.string) := by
            rw [HC.out, HE.out]; exact owns_below hown hb1 (fun g hg => owns_lt hown hg)
          have hb2 : Below w.heap.size w w1 := hbw.trans (hb1.mono hbw.size)
          go_roundw
          case rel => exact ⟨k + 1, k + 1, _, by omega, by omega, by go_num, by go_num, hb2, H2, rfl, hown3⟩
          case measure => simp [intOf]; omega
    · have HE : Hid (l = splitL s) := by show _ = _; rw [hl.out, stTo_end s k hks]
      go_wp2_with fail
      go_ret
      exact RowIs.of HE.out rfl hown hbw

end Go.Proofs.Ytlmenolcgaakeaa

namespace Go.Proofs.Ytlmenolcgaakeaa
open Go.RowKit
open Go.Lib hiding intOf

/-- The text i of a list. -/
def textAt (xs : List ByteArray) (i : Nat) : ByteArray := xs.getD i ⟨#[]⟩

/-- What an owned list of texts is, cell by cell. -/
structure TextRow (base : Nat) (w : World) (g n cap : Nat) (xs : List ByteArray) : Prop where
  len : xs.length = n
  base : base ≤ g
  lt : g < w.heap.size
  le : n ≤ cap
  mx : cap ≤ maxLen
  heap : ∃ cur, w.heap[g]? = some (.cells cur 9 (0, 0)) ∧ cur.size = cap ∧ ∀ i, i < n → cur[i]? = some (.string (textAt xs i))
theorem TextRow.cell {base : Nat} {w : World} {g n cap : Nat} {xs : List ByteArray} (h : TextRow base w g n cap xs) (i : Nat) (hi : i < n) : w.cell? ⟨g, i, none⟩ = some (.string (textAt xs i)) := by
  obtain ⟨cur, hg, _, hc⟩ := h.heap
  simp only [World.cell?, hg]
  simpa using hc i hi
theorem TextRow.frozen {base : Nat} {w : World} {g n cap : Nat} {xs : List ByteArray} (h : TextRow base w g n cap xs) (i : Nat) : w.frozen? ⟨g, i, none⟩ = false := by
  obtain ⟨cur, hg, _⟩ := h.heap
  simp [World.frozen?, hg]
theorem TextRow.below {base B : Nat} {w w' : World} {g n cap : Nat} {xs : List ByteArray} (h : TextRow base w g n cap xs) (hb : Below B w w') (hB : g < B) : TextRow base w' g n cap xs := by
  obtain ⟨cur, hg, hc⟩ := h.heap
  have := hb.size; have := h.lt
  exact ⟨h.len, h.base, by omega, h.le, h.mx, cur, by rw [hb.block g hB]; exact hg, hc⟩
/-- One text of it stored anew. -/
theorem TextRow.set {base : Nat} {w : World} {g n cap : Nat} {xs : List ByteArray} (h : TextRow base w g n cap xs) (i : Nat) (hi : i < n) (t : ByteArray) : TextRow base (w.setCell ⟨g, i, none⟩ (.string t)) g n cap (xs.set i t) := by
  obtain ⟨cur, hg, hs, hc⟩ := h.heap
  refine ⟨by simp [h.len], h.base, by simpa using h.lt, h.le, h.mx, cur.setIfInBounds i (.string t), ?_, by simpa using hs, ?_⟩
  · simp [World.setCell, Array.getElem?_modify, hg]
  · intro j hj
    have hl := h.len
    have hle := h.le
    by_cases e : i = j
    · subst e
      have h1 : i < cur.size := by omega
      have h2 : i < xs.length := by omega
      simp [textAt, List.getD_eq_getElem?_getD, h1, h2]
    · rw [Array.getElem?_setIfInBounds_ne (by exact e), hc j hj]
      simp [textAt, List.getD_eq_getElem?_getD, e]
theorem textAt_map (xs : List ByteArray) (i : Nat) (h : i < xs.length) : (xs.map Value.string)[i]? = some (.string (textAt xs i)) := by
  simp [textAt, List.getD_eq_getElem?_getD, h]
/-- An owned list is empty, or such a row. -/
theorem row_form {w : World} {base n : Nat} {v : Value} {xs : List ByteArray} (h : w.ownsRow base 9 1 v n (xs.map Value.string)) :
    (∃ oa cap, v = .slice oa 0 cap ∧ n = 0 ∧ xs = []) ∨ ∃ g cap, v = .slice (some ⟨g, 0, none⟩) n cap ∧ 0 < n ∧ TextRow base w g n cap xs := by
  obtain ⟨hl, hv⟩ := h
  simp at hl
  rcases hv with ⟨rfl, h0⟩ | ⟨g, cap, cur, rfl, hb, hg, hn, hm, hcs, htk⟩
  · exact .inl ⟨none, 0, rfl, h0, List.length_eq_zero_iff.1 (by omega)⟩
  · by_cases h0 : n = 0
    · subst h0
      exact .inl ⟨_, _, rfl, rfl, List.length_eq_zero_iff.1 (by omega)⟩
    · refine .inr ⟨g, cap, rfl, by omega, hl, hb, (Array.getElem?_eq_some_iff.1 hg).1, hn, hm, cur, hg, by simpa using hcs, ?_⟩
      intro i hi
      have h1 : (cur.toList.take (n * 1))[i]? = some (.string (textAt xs i)) := by rw [htk]; exact textAt_map xs i (by omega)
      rw [List.getElem?_take, if_pos (by omega)] at h1
      simpa using h1
theorem TextRow.owns {base : Nat} {w : World} {g n cap : Nat} {xs : List ByteArray} (h : TextRow base w g n cap xs) : w.ownsRow base 9 1 (.slice (some ⟨g, 0, none⟩) n cap) n (xs.map Value.string) := by
  obtain ⟨cur, hg, hs, hc⟩ := h.heap
  refine ⟨by simp [h.len], .inr ⟨g, cap, cur, rfl, h.base, hg, h.le, h.mx, by simpa using hs, ?_⟩⟩
  apply List.ext_getElem?
  intro i
  have hl := h.len; have hle := h.le
  rw [List.getElem?_take, Nat.mul_one]
  by_cases hi : i < n
  · rw [if_pos hi, textAt_map xs i (by omega)]
    simpa using hc i hi
  · rw [if_neg hi, List.getElem?_eq_none (by simp; omega)]

set_option maxHeartbeats 1000000 in
theorem eqS_any (v1 v2 : Value) (n b1 b2 : Nat) (xs : List ByteArray) (w : World) (h1 : w.ownsRow b1 9 1 v1 n (xs.map Value.string)) (h2 : w.ownsRow b2 9 1 v2 n (xs.map Value.string)) (hn : n ≤ 2000000) :
    Calls Try.prog 34 #[v1, v2] w fun e w' => e = .returned (.bool true) ∧ Below w.heap.size w w' := by
  rcases row_form h1 with ⟨oa, ca, rfl, rfl, rfl⟩ | ⟨g1, c1, rfl, hp, r1⟩
  · rcases row_form h2 with ⟨ob, cb, rfl, _, _⟩ | ⟨g2, c2, rfl, hp2, _⟩
    · clear h1 h2
      go_enter Try.func34, Try.ntmps34
      go_wp2
      refine wp_loop_rounds 1 ?_
      rw [rounds_succ]
      go_wp2
      go_ret
      exact ⟨rfl, Below.refl _ _⟩
    · omega
  · rcases row_form h2 with ⟨ob, cb, rfl, h0, _⟩ | ⟨g2, c2, rfl, hp2, r2⟩
    · omega
    · clear h1 h2
      go_enter Try.func34, Try.ntmps34
      go_wp2
      go_loopw [5] (fun i wr => ∃ k : Nat, k ≤ n ∧ i = .int .i64 (k : Int) ∧ Below w.heap.size w wr) (fun i _ => n - (intOf i).toNat)
      case atStart => exact ⟨0, Nat.zero_le _, rfl, Below.refl _ _⟩
      case round =>
        obtain ⟨k, hk, rfl, hbw⟩ := hrel
        by_cases hlt : k < n
        · have hlt2 : (k : Int) < (n : Int) := by omega
          have hc1 := (r1.below hbw r1.lt).cell k hlt
          have hc2 := (r2.below hbw r2.lt).cell k hlt
          go_wp2
          go_quiet (fail)
          go_wp2
          go_roundw
          case rel => exact ⟨k + 1, by omega, by go_num, below_drewN hbw _⟩
          case measure => simp [intOf]; omega
        · go_wp2
          go_ret
          exact ⟨rfl, hbw⟩

end Go.Proofs.Ytlmenolcgaakeaa

namespace Go.Proofs.Ytlmenolcgaakeaa
open Go.RowKit
open Go.Lib hiding intOf

/-- The bytes that a draw reads: a slice that came in, in blocks below B. -/
structure CodeAt (w : World) (B : Nat) (a : Option Addr) (len : Nat) (zs : List Int) : Prop where
  le : len ≤ 1048576
  get : ∀ j, j < len → ∃ b off, a = some ⟨b, off, none⟩ ∧ b < B ∧ w.cell? ⟨b, off + j, none⟩ = some (.int .u8 (zs.getD j 0)) ∧ 0 ≤ zs.getD j 0 ∧ zs.getD j 0 ≤ 255
theorem CodeAt.below {w w' : World} {B : Nat} {a : Option Addr} {len : Nat} {zs : List Int} (h : CodeAt w B a len zs) (hb : Below B w w') : CodeAt w' B a len zs :=
  ⟨h.le, fun j hj => by
    obtain ⟨b, off, h1, h2, h3, h4⟩ := h.get j hj
    exact ⟨b, off, h1, h2, by rw [hb.cell (p := ⟨b, off + j, none⟩) h2]; exact h3, h4⟩⟩
theorem grown_cell {w w' : World} {c : Nat} (hg : w.grownBy w' (some c)) {g j : Nat} {v : Value} (h : w.cell? ⟨g, j, none⟩ = some v) (hne : g ≠ c) : w'.cell? ⟨g, j, none⟩ = some v :=
  hg.cell h (fun e => hne (Option.some.inj e))

end Go.Proofs.Ytlmenolcgaakeaa

namespace Go.Proofs.Ytlmenolcgaakeaa
open Go.RowKit
open Go.Lib hiding intOf

theorem CodeAt.grown {w w' : World} {B c : Nat} {a : Option Addr} {len : Nat} {zs : List Int} (h : CodeAt w B a len zs) (hg : w.grownBy w' (some c)) (hB : B ≤ c) : CodeAt w' B a len zs :=
  ⟨h.le, fun j hj => by
    obtain ⟨b, off, h1, h2, h3, h4⟩ := h.get j hj
    exact ⟨b, off, h1, h2, grown_cell hg h3 (by omega), h4⟩⟩
end Go.Proofs.Ytlmenolcgaakeaa

namespace Go.Proofs.Ytlmenolcgaakeaa
open Go.RowKit
open Go.Lib hiding intOf

def nameAt (fs : List (ByteArray × ByteArray)) (i : Nat) : ByteArray := (fs.getD i (⟨#[]⟩, ⟨#[]⟩)).1
def valAt (fs : List (ByteArray × ByteArray)) (i : Nat) : ByteArray := (fs.getD i (⟨#[]⟩, ⟨#[]⟩)).2
/-- A list of fields as a row of cells: two a field. -/
def flatF (fs : List (ByteArray × ByteArray)) : List Value := fs.flatMap (fun f => [Value.string f.1, Value.string f.2])
theorem flatF_len (fs : List (ByteArray × ByteArray)) : (flatF fs).length = fs.length * 2 := by
  induction fs with
  | nil => rfl
  | cons f r ih => simp only [flatF, List.flatMap_cons, List.length_append, List.length_cons, List.length_nil] at ih ⊢; omega
theorem flatF_get : ∀ (fs : List (ByteArray × ByteArray)) (i : Nat), i < fs.length → (flatF fs)[i * 2]? = some (.string (nameAt fs i)) ∧ (flatF fs)[i * 2 + 1]? = some (.string (valAt fs i))
  | [], i, h => by simp at h
  | f :: r, 0, _ => by simp [flatF, nameAt, valAt]
  | f :: r, i + 1, h => by
    have ih := flatF_get r i (by simpa using h)
    have e : flatF (f :: r) = Value.string f.1 :: Value.string f.2 :: flatF r := rfl
    rw [e, show (i + 1) * 2 = i * 2 + 2 by omega, show i * 2 + 2 + 1 = (i * 2 + 1) + 2 by omega]
    simp only [List.getElem?_cons_succ]
    exact ih

/-- What an owned list of fields is, cell by cell. -/
structure FieldRow (base : Nat) (w : World) (g n cap : Nat) (fs : List (ByteArray × ByteArray)) : Prop where
  len : fs.length = n
  base : base ≤ g
  lt : g < w.heap.size
  le : n ≤ cap
  mx : cap ≤ maxLen
  heap : ∃ cur, w.heap[g]? = some (.cells cur 83 (0, 0)) ∧ cur.size = cap * 2 ∧ ∀ i, i < n → cur[i * 2]? = some (.string (nameAt fs i)) ∧ cur[i * 2 + 1]? = some (.string (valAt fs i))
theorem FieldRow.name {base : Nat} {w : World} {g n cap : Nat} {fs : List (ByteArray × ByteArray)} (h : FieldRow base w g n cap fs) (i : Nat) (hi : i < n) : w.cell? ⟨g, i * 2, none⟩ = some (.string (nameAt fs i)) := by
  obtain ⟨cur, hg, _, hc⟩ := h.heap
  simp only [World.cell?, hg]
  simpa using (hc i hi).1
theorem FieldRow.val {base : Nat} {w : World} {g n cap : Nat} {fs : List (ByteArray × ByteArray)} (h : FieldRow base w g n cap fs) (i : Nat) (hi : i < n) : w.cell? ⟨g, i * 2 + 1, none⟩ = some (.string (valAt fs i)) := by
  obtain ⟨cur, hg, _, hc⟩ := h.heap
  simp only [World.cell?, hg]
  simpa using (hc i hi).2
theorem FieldRow.frozen {base : Nat} {w : World} {g n cap : Nat} {fs : List (ByteArray × ByteArray)} (h : FieldRow base w g n cap fs) (i : Nat) : w.frozen? ⟨g, i, none⟩ = false := by
  obtain ⟨cur, hg, _⟩ := h.heap
  simp [World.frozen?, hg]
theorem FieldRow.below {base B : Nat} {w w' : World} {g n cap : Nat} {fs : List (ByteArray × ByteArray)} (h : FieldRow base w g n cap fs) (hb : Below B w w') (hB : g < B) : FieldRow base w' g n cap fs := by
  obtain ⟨cur, hg, hc⟩ := h.heap
  have := hb.size; have := h.lt
  exact ⟨h.len, h.base, by omega, h.le, h.mx, cur, by rw [hb.block g hB]; exact hg, hc⟩
/-- An owned list of fields is empty, or such a row. -/
theorem frow_form {w : World} {base n : Nat} {v : Value} {fs : List (ByteArray × ByteArray)} (h : w.ownsRow base 83 2 v n (flatF fs)) :
    (∃ oa cap, v = .slice oa 0 cap ∧ (oa = none → cap = 0) ∧ n = 0 ∧ fs = []) ∨ ∃ g cap, v = .slice (some ⟨g, 0, none⟩) n cap ∧ 0 < n ∧ FieldRow base w g n cap fs := by
  obtain ⟨hl, hv⟩ := h
  rw [flatF_len] at hl
  rcases hv with ⟨rfl, h0⟩ | ⟨g, cap, cur, rfl, hb, hg, hn, hm, hcs, htk⟩
  · exact .inl ⟨none, 0, rfl, fun _ => rfl, h0, List.length_eq_zero_iff.1 (by omega)⟩
  · by_cases h0 : n = 0
    · subst h0
      exact .inl ⟨_, _, rfl, (fun h => by cases h), rfl, List.length_eq_zero_iff.1 (by omega)⟩
    · refine .inr ⟨g, cap, rfl, by omega, by omega, hb, (Array.getElem?_eq_some_iff.1 hg).1, hn, hm, cur, hg, hcs, ?_⟩
      intro i hi
      have hf := flatF_get fs i (by omega)
      rw [← htk, List.getElem?_take, List.getElem?_take, if_pos (by omega), if_pos (by omega)] at hf
      simpa using hf
theorem FieldRow.owns {base : Nat} {w : World} {g n cap : Nat} {fs : List (ByteArray × ByteArray)} (h : FieldRow base w g n cap fs) : w.ownsRow base 83 2 (.slice (some ⟨g, 0, none⟩) n cap) n (flatF fs) := by
  obtain ⟨cur, hg, hs, hc⟩ := h.heap
  have hl := h.len; have hle := h.le
  refine ⟨by rw [flatF_len, hl], .inr ⟨g, cap, cur, rfl, h.base, hg, h.le, h.mx, hs, ?_⟩⟩
  apply List.ext_getElem?
  intro j
  rw [List.getElem?_take]
  by_cases hj : j < n * 2
  · rw [if_pos hj]
    have hf := flatF_get fs (j / 2) (by omega)
    have hcc := hc (j / 2) (by omega)
    rcases Nat.mod_two_eq_zero_or_one j with e | e
    · have e2 : j / 2 * 2 = j := by omega
      rw [e2] at hf hcc
      rw [hf.1]; simpa using hcc.1
    · have e2 : j / 2 * 2 + 1 = j := by omega
      rw [e2] at hf hcc
      rw [hf.2]; simpa using hcc.2
  · rw [if_neg hj, List.getElem?_eq_none (by rw [flatF_len]; omega)]

/-- A list of fields that a function reads: empty, or a row. -/
def FieldsV (w : World) (base : Nat) (v : Value) (n : Nat) (fs : List (ByteArray × ByteArray)) : Prop :=
  (∃ oa cap, v = .slice oa 0 cap ∧ (oa = none → cap = 0) ∧ n = 0 ∧ fs = []) ∨ ∃ g cap, v = .slice (some ⟨g, 0, none⟩) n cap ∧ 0 < n ∧ FieldRow base w g n cap fs

/-- Where the first field of that name stands; the length where there is none. -/
def atF : List (ByteArray × ByteArray) → ByteArray → Nat
  | [], _ => 0
  | f :: r, name => if f.1 = name then 0 else atF r name + 1
theorem atF_le : ∀ (fs : List (ByteArray × ByteArray)) (name : ByteArray), atF fs name ≤ fs.length
  | [], _ => Nat.le_refl _
  | f :: r, name => by
    rw [atF]
    split
    · exact Nat.zero_le _
    · have := atF_le r name; simp; omega
theorem atF_before : ∀ (fs : List (ByteArray × ByteArray)) (name : ByteArray) (j : Nat), j < atF fs name → nameAt fs j ≠ name
  | [], _, j, h => by simp [atF] at h
  | f :: r, name, j, h => by
    rw [atF] at h
    split at h
    · omega
    · rename_i hne
      cases j with
      | zero => simpa [nameAt] using hne
      | succ j => have := atF_before r name j (by omega); simpa [nameAt] using this
theorem atF_here : ∀ (fs : List (ByteArray × ByteArray)) (name : ByteArray), atF fs name < fs.length → nameAt fs (atF fs name) = name
  | [], _, h => by simp [atF] at h
  | f :: r, name, h => by
    rw [atF] at h ⊢
    split
    · rename_i he; simpa [nameAt] using he
    · rename_i hne
      rw [if_neg hne] at h
      have := atF_here r name (by simpa using h)
      simpa [nameAt] using this
theorem atF_uniq {fs : List (ByteArray × ByteArray)} {name : ByteArray} {k : Nat} (hk : k < fs.length) (hb : ∀ j, j < k → nameAt fs j ≠ name) (he : nameAt fs k = name) : atF fs name = k := by
  rcases Nat.lt_trichotomy (atF fs name) k with h | h | h
  · exact absurd (atF_here fs name (by omega)) (hb _ h)
  · exact h
  · exact absurd he (atF_before fs name k h)
theorem atF_none {fs : List (ByteArray × ByteArray)} {name : ByteArray} (hb : ∀ j, j < fs.length → nameAt fs j ≠ name) : atF fs name = fs.length := by
  rcases Nat.lt_or_ge (atF fs name) fs.length with h | h
  · exact absurd (atF_here fs name h) (hb _ h)
  · have := atF_le fs name; omega
/-- The place as an int: -1 where there is none. -/
def atI (fs : List (ByteArray × ByteArray)) (name : ByteArray) : Int := if atF fs name < fs.length then (atF fs name : Int) else -1

set_option maxHeartbeats 1000000 in
theorem l2At_any (v : Value) (n base : Nat) (fs : List (ByteArray × ByteArray)) (name : ByteArray) (w : World) (hv : FieldsV w base v n fs) (hn : n ≤ 1073741824) :
    Calls Try.prog 43 #[v, .string name] w fun e w' => e = .returned (.int .i64 (atI fs name)) ∧ w' = w := by
  rcases hv with ⟨oa, ca, rfl, _, rfl, rfl⟩ | ⟨g, cap, rfl, hp, row⟩
  · have hT : Hid (atI [] name = -1) := rfl
    go_enter Try.func43, Try.ntmps43
    go_wp2
    refine wp_loop_rounds 1 ?_
    rw [rounds_succ]
    go_wp2
    go_ret
    exact ⟨by rw [hT.out]; rfl, rfl⟩
  · have hl := row.len
    go_enter Try.func43, Try.ntmps43
    go_wp2
    go_loop [5] (fun i => ∃ k : Nat, k ≤ n ∧ i = .int .i64 (k : Int) ∧ Hid (∀ j, j < k → nameAt fs j ≠ name)) (fun i => n - (intOf i).toNat)
    case atStart => exact ⟨0, Nat.zero_le _, rfl, fun j h => absurd h (by omega)⟩
    case round =>
      obtain ⟨k, hk, rfl, hb⟩ := hrel
      by_cases hlt : k < n
      · have hc := row.name k hlt
        have hlt2 : (k : Int) < (n : Int) := by omega
        by_cases he : nameAt fs k = name
        · have hT : Hid (atI fs name = (k : Int)) := by
            have := atF_uniq (by omega) hb.out he
            show _ = _
            unfold atI; rw [this, if_pos (by omega)]
          have ht : ((nameAt fs k).toList == name.toList) = true := (text_beq _ _).2 he
          clear he
          go_wp2
          go_ret
          exact ⟨by rw [hT.out]; rfl, rfl⟩
        · have ht : ((nameAt fs k).toList == name.toList) = false := by
            rcases Bool.eq_false_or_eq_true ((nameAt fs k).toList == name.toList) with h | h
            · exact absurd ((text_beq _ _).1 h) he
            · exact h
          have HE : Hid (nameAt fs k ≠ name) := he
          clear he
          go_wp2
          go_round
          case rel =>
            refine ⟨k + 1, by omega, by go_num, ?_⟩
            intro j hj
            by_cases e : j = k
            · subst e; exact HE.out
            · exact hb.out j (by omega)
          case measure => simp [intOf]; omega
      · have hT : Hid (atI fs name = -1) := by
          have := atF_none (fs := fs) (name := name) (fun j hj => hb.out j (by omega))
          show _ = _
          unfold atI; rw [this, if_neg (by omega)]
        go_wp2
        go_ret
        exact ⟨by rw [hT.out]; rfl, rfl⟩

theorem FieldsV.of_owns {w : World} {base n : Nat} {v : Value} {fs : List (ByteArray × ByteArray)} (h : w.ownsRow base 83 2 v n (flatF fs)) : FieldsV w base v n fs := frow_form h
theorem FieldsV.below {w w' : World} {base n : Nat} {v : Value} {fs : List (ByteArray × ByteArray)} (h : FieldsV w base v n fs) (hb : Below w.heap.size w w') : FieldsV w' base v n fs := by
  rcases h with h | ⟨g, cap, h1, h2, h3⟩
  · exact .inl h
  · exact .inr ⟨g, cap, h1, h2, h3.below hb h3.lt⟩
theorem FieldsV.len {w : World} {base n : Nat} {v : Value} {fs : List (ByteArray × ByteArray)} (h : FieldsV w base v n fs) : fs.length = n := by
  rcases h with ⟨_, _, _, _, rfl, rfl⟩ | ⟨_, _, _, _, h⟩
  · rfl
  · exact h.len

/-- A list of fields is a slice; where there is a field it is a row's. -/
theorem FieldsV.slice {w : World} {base n : Nat} {v : Value} {fs : List (ByteArray × ByteArray)} (h : FieldsV w base v n fs) :
    ∃ oa cap, v = .slice oa n cap ∧ ∀ k, k < n → ∃ g, oa = some ⟨g, 0, none⟩ ∧ FieldRow base w g n cap fs := by
  rcases h with ⟨oa, ca, rfl, _, rfl, rfl⟩ | ⟨g, cap, rfl, hp, row⟩
  · exact ⟨oa, ca, rfl, fun k hk => absurd hk (by omega)⟩
  · exact ⟨_, cap, rfl, fun k _ => ⟨g, rfl, row⟩⟩

/-- What Get answers. -/
def getV (fs : List (ByteArray × ByteArray)) (name : ByteArray) : ByteArray := if atF fs name < fs.length then valAt fs (atF fs name) else ⟨#[]⟩
def getB (fs : List (ByteArray × ByteArray)) (name : ByteArray) : Bool := decide (atF fs name < fs.length)

set_option maxHeartbeats 1000000 in
theorem specGet_any (v : Value) (n base : Nat) (fs : List (ByteArray × ByteArray)) (name : ByteArray) (w : World) (hv : FieldsV w base v n fs) (hn : n ≤ 1073741824) :
    Calls Try.prog 30 #[v, .string name] w fun e w' => e = .returned (.tuple #[.string (getV fs name), .bool (getB fs name)]) ∧ w' = w := by
  have hl := hv.len
  by_cases hin : atF fs name < fs.length
  · have hI : Hid (atI fs name = (atF fs name : Int)) := by show _ = _; unfold atI; rw [if_pos hin]
    have hV : Hid (getV fs name = valAt fs (atF fs name)) := by show _ = _; unfold getV; rw [if_pos hin]
    have hB : Hid (getB fs name = true) := by show _ = _; unfold getB; simpa using hin
    have hv0 := hv
    rcases hv0 with ⟨oa, ca, rfl, _, rfl, rfl⟩ | ⟨g, cap, rfl, hp, row⟩
    · simp at hin
    · obtain ⟨k, hk⟩ : ∃ k, k = atF fs name := ⟨_, rfl⟩
      rw [← hk] at hI hV hin
      have hc := row.val k (by omega)
      have hlt : (k : Int) < (n : Int) := by omega
      clear hk
      go_enter Try.func30, Try.ntmps30
      go_wp2_with fail
      refine (l2At_any _ n base fs name _ hv hn).mono ?_
      rintro e w1 ⟨rfl, rfl⟩
      rw [hI.out]
      clear hv
      go_wp2
      go_ret2
      exact ⟨by rw [hV.out, hB.out]; rfl, rfl⟩
  · have hI : Hid (atI fs name = -1) := by show _ = _; unfold atI; rw [if_neg hin]
    have hV : Hid (getV fs name = ⟨#[]⟩) := by show _ = _; unfold getV; rw [if_neg hin]
    have hB : Hid (getB fs name = false) := by show _ = _; unfold getB; simpa using hin
    go_enter Try.func30, Try.ntmps30
    go_wp2_with fail
    refine (l2At_any v n base fs name _ hv hn).mono ?_
    rintro e w1 ⟨rfl, rfl⟩
    rw [hI.out]
    clear hv
    go_wp2
    go_ret2
    exact ⟨by rw [hV.out, hB.out]; rfl, rfl⟩

/-- The text of the first k fields. -/
def ftTo (fs : List (ByteArray × ByteArray)) : Nat → ByteArray
  | 0 => ⟨#[]⟩
  | k + 1 => ftTo fs k ++ nameAt fs k ++ ⟨#[58, 32]⟩ ++ valAt fs k ++ ⟨#[13, 10]⟩
def fieldsText (fs : List (ByteArray × ByteArray)) : ByteArray := ftTo fs fs.length
/-- What the chapter asks of fields. -/
def FldsOk (fs : List (ByteArray × ByteArray)) : Prop :=
  fs.length ≤ 8 ∧ ∀ i, i < fs.length → TokOk (nameAt fs i) ∧ ValOk (valAt fs i) ∧ atF fs (nameAt fs i) = i ∧ nameAt fs i ≠ ⟨#[99, 111, 110, 116, 101, 110, 116, 45, 108, 101, 110, 103, 116, 104]⟩
def clen : ByteArray := ⟨#[99, 111, 110, 116, 101, 110, 116, 45, 108, 101, 110, 103, 116, 104]⟩
def FldOk (fs : List (ByteArray × ByteArray)) (i : Nat) : Prop := TokOk (nameAt fs i) ∧ ValOk (valAt fs i) ∧ atF fs (nameAt fs i) = i ∧ nameAt fs i ≠ clen
theorem clen_list : clen.toList = [99, 111, 110, 116, 101, 110, 116, 45, 108, 101, 110, 103, 116, 104] := by rw [ByteArray.toList_eq]; rfl
theorem text_beq_no {a b : ByteArray} (h : a ≠ b) : (a.toList == b.toList) = false := by
  rcases Bool.eq_false_or_eq_true (a.toList == b.toList) with h1 | h1
  · exact absurd ((text_beq _ _).1 h1) h
  · exact h1

set_option maxHeartbeats 2000000 in
theorem specFieldsOk_any (v : Value) (n base : Nat) (fs : List (ByteArray × ByteArray)) (w : World) (hv : FieldsV w base v n fs) (hn : n ≤ 1073741824) (hsz : ∀ i, i < n → (nameAt fs i).size ≤ maxLen ∧ (valAt fs i).size ≤ maxLen) :
    Calls Try.prog 53 #[v] w fun e w' => BoolIs (FldsOk fs) w e w' := by
  have hl := hv.len
  have HV : Hid (FieldsV w base v n fs) := hv
  have HS : Hid (∀ i, i < n → (nameAt fs i).size ≤ maxLen ∧ (valAt fs i).size ≤ maxLen) := hsz
  clear hsz
  rcases hv with ⟨oa, ca, rfl, _, rfl, rfl⟩ | ⟨g, cap, rfl, hp, row⟩
  · have hT : Hid (FldsOk []) := ⟨by simp, fun i hi => absurd hi (by simp)⟩
    clear HV HS
    go_enter Try.func53, Try.ntmps53
    go_wp2
    refine wp_loop_rounds 1 ?_
    rw [rounds_succ]
    go_wp2
    go_ret
    exact BoolIs.yes hT.out (Below.refl _ _)
  · go_enter Try.func53, Try.ntmps53
    go_wp2
    go_loopw [3] (fun i wr => ∃ k : Nat, k ≤ n ∧ i = .int .i64 (k : Int) ∧ Hid (∀ j, j < k → FldOk fs j) ∧ Below w.heap.size w wr) (fun i _ => n - (intOf i).toNat)
    case atStart => exact ⟨0, Nat.zero_le _, rfl, fun j h => absurd h (by omega), Below.refl _ _⟩
    case round =>
      obtain ⟨k, hk, rfl, hall, hbw⟩ := hrel
      by_cases hlt : k < n
      · have hlt2 : (k : Int) < (n : Int) := by omega
        obtain ⟨hs1, hs2⟩ := HS.out k hlt
        obtain ⟨nm, hnm⟩ : ∃ x, x = nameAt fs k := ⟨_, rfl⟩
        obtain ⟨vl, hvl⟩ : ∃ x, x = valAt fs k := ⟨_, rfl⟩
        have HR : Hid (∀ W, Below w.heap.size w W → W.cell? ⟨g, k * 2, none⟩ = some (.string nm) ∧ W.cell? ⟨g, k * 2 + 1, none⟩ = some (.string vl)) := fun W h => by
          rw [hnm, hvl]; exact ⟨(row.below h row.lt).name k hlt, (row.below h row.lt).val k hlt⟩
        have HO : Hid (FldOk fs k ↔ TokOk nm ∧ ValOk vl ∧ atF fs nm = k ∧ nm ≠ clen) := by rw [hnm, hvl]; exact Iff.rfl
        have HNO : Hid (¬ (TokOk nm ∧ ValOk vl ∧ atF fs nm = k ∧ nm ≠ clen) → ¬ FldsOk fs) := fun h hf => h (HO.out.1 (hf.2 k (by omega)))
        have hatle : atF fs nm ≤ k := by
          rcases Nat.lt_or_ge k (atF fs nm) with h | h
          · exact absurd hnm.symm (atF_before fs nm k h)
          · exact h
        have hI : Hid (atI fs nm = (atF fs nm : Int)) := by show _ = _; unfold atI; rw [if_pos (by omega)]
        rw [← hnm] at hs1
        rw [← hvl] at hs2
        obtain ⟨c1, c2⟩ := HR.out wr hbw
        clear hnm hvl
        go_wp2_with fail
        refine (specTokenOk_any nm _ hs1).mono ?_
        rintro e w1 ⟨b1, rfl, kb1, bb1⟩
        have hb1 : Below w.heap.size w w1 := hbw.trans (bb1.mono hbw.size)
        obtain ⟨c1a, c2a⟩ := HR.out w1 hb1
        cases b1
        · have HF : Hid (¬ FldsOk fs) := HNO.out (fun h => by have := kb1.2 h.1; cases this)
          clear kb1 c1 c2 bb1
          go_wp2_with fail
          go_ret
          exact BoolIs.no HF.out hb1
        · have HT : Hid (TokOk nm) := kb1.1 rfl
          clear kb1 c1 c2 bb1
          go_wp2_with fail
          refine (specValueOk_any vl _ hs2).mono ?_
          rintro e w2 ⟨b2, rfl, kb2, bb2⟩
          have hb2 : Below w.heap.size w w2 := hb1.trans (bb2.mono hb1.size)
          obtain ⟨c1b, c2b⟩ := HR.out w2 hb2
          cases b2
          · have HF : Hid (¬ FldsOk fs) := HNO.out (fun h => by have := kb2.2 h.2.1; cases this)
            clear kb2 c1a c2a bb2
            go_wp2_with fail
            go_ret
            exact BoolIs.no HF.out hb2
          · have HT2 : Hid (ValOk vl) := kb2.1 rfl
            clear kb2 c1a c2a bb2
            go_wp2_with fail
            refine (l2At_any _ n base fs nm _ (HV.out.below hb2) hn).mono ?_
            rintro e w3 ⟨rfl, rfl⟩
            rw [hI.out]
            by_cases hat : atF fs nm = k
            · have hne : ((atF fs nm : Int) != (k : Int)) = false := by rw [bne_eq_false_iff_eq]; omega
              have HAT : Hid (atF fs nm = k) := hat
              clear hat
              by_cases hcl : nm = clen
              · have ht := (text_beq _ _).2 hcl
                rw [clen_list] at ht
                have HF : Hid (¬ FldsOk fs) := HNO.out (fun h => h.2.2.2 hcl)
                clear hcl
                go_wp2
                go_ret
                exact BoolIs.no HF.out hb2
              · have ht := text_beq_no hcl
                rw [clen_list] at ht
                have HY : Hid (FldOk fs k) := HO.out.2 ⟨HT.out, HT2.out, HAT.out, hcl⟩
                clear hcl
                go_wp2
                go_roundw
                case rel =>
                  refine ⟨k + 1, by omega, by go_num, ?_, hb2⟩
                  intro j hj
                  by_cases e : j = k
                  · subst e; exact HY.out
                  · exact hall.out j (by omega)
                case measure => simp [intOf]; omega
            · have hne : ((atF fs nm : Int) != (k : Int)) = true := by rw [bne_iff_ne]; omega
              have HF : Hid (¬ FldsOk fs) := HNO.out (fun h => hat h.2.2.1)
              clear hat
              go_wp2
              go_ret
              exact BoolIs.no HF.out hb2
      · by_cases h8 : (n : Int) ≤ 8
        · have HF : Hid (FldsOk fs) := ⟨by omega, fun i hi => hall.out i (by omega)⟩
          go_wp2
          go_ret
          exact BoolIs.yes HF.out hbw
        · have HF : Hid (¬ FldsOk fs) := fun h => by have := h.1; omega
          go_wp2
          go_ret
          exact BoolIs.no HF.out hbw

end Go.Proofs.Ytlmenolcgaakeaa

namespace Go.Proofs.Ytlmenolcgaakeaa
open Go.RowKit

def PathB (n : Int) : Prop := 33 ≤ n ∧ n ≤ 126
def PathOk (s : ByteArray) : Prop := AllB PathB s ∧ 1 ≤ s.size ∧ s.size ≤ 60 ∧ ∃ h : 0 < s.size, (s[0]'h).toNat = 47
def ReqP (m : Int) (path : ByteArray) (fs : List (ByteArray × ByteArray)) (body : ByteArray) : Prop := (1 ≤ m ∧ m ≤ 4) ∧ PathOk path ∧ FldsOk fs ∧ body.size ≤ 120
def RespP (st : Int) (fs : List (ByteArray × ByteArray)) (body : ByteArray) : Prop := (100 ≤ st ∧ st ≤ 599) ∧ FldsOk fs ∧ body.size ≤ 120

def methB (m : Int) : ByteArray := if m = 1 then ⟨#[71, 69, 84]⟩ else if m = 2 then ⟨#[72, 69, 65, 68]⟩ else if m = 3 then ⟨#[80, 79, 83, 84]⟩ else if m = 4 then ⟨#[80, 85, 82, 71, 69]⟩ else ⟨#[]⟩
def httpEnd : ByteArray := ⟨#[32, 72, 84, 84, 80, 47, 49, 46, 49, 13, 10]⟩
def httpAhead : ByteArray := ⟨#[72, 84, 84, 80, 47, 49, 46, 49, 32]⟩
def dotEnd : ByteArray := ⟨#[32, 46, 13, 10]⟩
def clenK : ByteArray := ⟨#[99, 111, 110, 116, 101, 110, 116, 45, 108, 101, 110, 103, 116, 104, 58, 32]⟩
def lnE : ByteArray := ⟨#[13, 10]⟩
def lnE2 : ByteArray := ⟨#[13, 10, 13, 10]⟩
/-- What a request's text is, right or not. -/
def reqHead (m : Int) (path : ByteArray) (fs : List (ByteArray × ByteArray)) : ByteArray := methB m ++ ⟨#[32]⟩ ++ path ++ httpEnd ++ fieldsText fs
def reqT (m : Int) (path : ByteArray) (fs : List (ByteArray × ByteArray)) (body : ByteArray) : ByteArray :=
  (if body.size = 0 then reqHead m path fs else reqHead m path fs ++ clenK ++ numText body.size ++ lnE) ++ lnE ++ body
def respT (st : Int) (fs : List (ByteArray × ByteArray)) (body : ByteArray) : ByteArray :=
  httpAhead ++ numText st.toNat ++ dotEnd ++ fieldsText fs ++ clenK ++ numText body.size ++ lnE2 ++ body
/-- The text is that of this right request. -/
def IsReq (s : ByteArray) (m : Int) (path : ByteArray) (fs : List (ByteArray × ByteArray)) (body : ByteArray) : Prop := ReqP m path fs body ∧ reqT m path fs body = s
def IsResp (s : ByteArray) (st : Int) (fs : List (ByteArray × ByteArray)) (body : ByteArray) : Prop := RespP st fs body ∧ respT st fs body = s

def bs (s : ByteArray) : List UInt8 := s.data.toList
theorem bs_append (a b : ByteArray) : bs (a ++ b) = bs a ++ bs b := by simp [bs]
theorem bs_inj {a b : ByteArray} (h : bs a = bs b) : a = b := by
  apply ByteArray.ext
  exact Array.toList_inj.1 h
theorem bs_len (a : ByteArray) : (bs a).length = a.size := by simp [bs]
theorem bs_all {p : Int → Prop} {s : ByteArray} (h : AllB p s) : ∀ b ∈ bs s, p (b.toNat : Int) := mem_byte (p := fun b => p (b.toNat : Int)) h

/-- The lines of a head and what is behind it. -/
def headL (out : List (List UInt8)) (cur : List UInt8) : List UInt8 → List (List UInt8) × Option (List UInt8)
  | [] => (out, none)
  | [_] => (out, none)
  | c :: d :: r => if c = 13 ∧ d = 10 then (if cur = [] then (out, some r) else headL (out ++ [cur]) [] r) else headL out (cur ++ [c]) (d :: r)
/-- What stands between blanks. -/
def wordsL (out : List (List UInt8)) (cur : List UInt8) : List UInt8 → List (List UInt8)
  | [] => out ++ [cur]
  | c :: r => if c = 32 then wordsL (out ++ [cur]) [] r else wordsL out (cur ++ [c]) r
/-- A line cut at its first colon with a blank behind it. -/
def fieldL (cur : List UInt8) : List UInt8 → Option (List UInt8 × List UInt8)
  | [] => none
  | [_] => none
  | c :: d :: r => if c = 58 ∧ d = 32 then some (cur, r) else fieldL (cur ++ [c]) (d :: r)
def clenL : List UInt8 := [99, 111, 110, 116, 101, 110, 116, 45, 108, 101, 110, 103, 116, 104]
def fieldsL : List (List UInt8) → List (List UInt8 × List UInt8)
  | [] => []
  | l :: r => match fieldL [] l with
    | some f => if f.1 = clenL then fieldsL r else f :: fieldsL r
    | none => fieldsL r

theorem head_line (out : List (List UInt8)) (line rest : List UInt8) (h13 : ∀ b ∈ line, b ≠ 13) : ∀ cur, cur ++ line ≠ [] → headL out cur (line ++ 13 :: 10 :: rest) = headL (out ++ [cur ++ line]) [] rest := by
  induction line with
  | nil =>
    intro cur hne
    simp only [List.append_nil] at hne
    simp [headL, hne]
  | cons c r ih =>
    intro cur _
    have hc : c ≠ 13 := h13 c (by simp)
    have ih := ih (fun b hb => h13 b (by simp [hb])) (cur ++ [c]) (by simp)
    rw [List.append_assoc] at ih
    cases r with
    | nil =>
      simp only [List.cons_append, List.nil_append] at ih ⊢
      rw [headL, if_neg (fun h => hc h.1), ih]
    | cons d r =>
      simp only [List.cons_append, List.nil_append] at ih ⊢
      rw [headL, if_neg (fun h => hc h.1), ih]
theorem head_lines (body : List UInt8) (lines : List (List UInt8)) (h : ∀ l ∈ lines, l ≠ [] ∧ ∀ b ∈ l, b ≠ 13) : ∀ out, headL out [] (lines.flatMap (fun l => l ++ [13, 10]) ++ 13 :: 10 :: body) = (out ++ lines, some body) := by
  induction lines with
  | nil => intro out; simp [headL]
  | cons l r ih =>
    intro out
    have hl := h l (by simp)
    have e : (l :: r).flatMap (fun l => l ++ [13, 10]) ++ 13 :: 10 :: body = l ++ 13 :: 10 :: (r.flatMap (fun l => l ++ [13, 10]) ++ 13 :: 10 :: body) := by simp
    rw [e, head_line out l _ hl.2 [] (by simpa using hl.1), ih (fun x hx => h x (by simp [hx]))]
    simp
theorem words_word (word rest : List UInt8) (h : ∀ b ∈ word, b ≠ 32) : ∀ out cur, wordsL out cur (word ++ 32 :: rest) = wordsL (out ++ [cur ++ word]) [] rest := by
  induction word with
  | nil => intro out cur; simp [wordsL]
  | cons c r ih =>
    intro out cur
    rw [List.cons_append, wordsL, if_neg (h c (by simp)), ih (fun b hb => h b (by simp [hb]))]
    simp
theorem words_last (word : List UInt8) (h : ∀ b ∈ word, b ≠ 32) : ∀ out cur, wordsL out cur word = out ++ [cur ++ word] := by
  induction word with
  | nil => intro out cur; simp [wordsL]
  | cons c r ih =>
    intro out cur
    rw [wordsL, if_neg (h c (by simp)), ih (fun b hb => h b (by simp [hb]))]
    simp
theorem field_cut (nm vl : List UInt8) (h : ∀ b ∈ nm, b ≠ 58) : ∀ cur, fieldL cur (nm ++ 58 :: 32 :: vl) = some (cur ++ nm, vl) := by
  induction nm with
  | nil => intro cur; simp [fieldL]
  | cons c r ih =>
    intro cur
    have ih := ih (fun b hb => h b (by simp [hb])) (cur ++ [c])
    cases r with
    | nil =>
      simp only [List.cons_append, List.nil_append] at ih ⊢
      rw [fieldL, if_neg (fun e => h c (by simp) e.1), ih]
      simp
    | cons d r =>
      simp only [List.cons_append] at ih ⊢
      rw [fieldL, if_neg (fun e => h c (by simp) e.1), ih]
      simp

def fieldLine (f : ByteArray × ByteArray) : List UInt8 := bs f.1 ++ 58 :: 32 :: bs f.2
def clenLine (n : Nat) : List UInt8 := clenL ++ 58 :: 32 :: numL n
theorem flds_mem {fs : List (ByteArray × ByteArray)} (h : FldsOk fs) : ∀ f ∈ fs, TokOk f.1 ∧ ValOk f.2 ∧ f.1 ≠ clen := by
  intro f hf
  obtain ⟨i, hi, rfl⟩ := List.getElem_of_mem hf
  have := h.2 i hi
  have e : (nameAt fs i, valAt fs i) = fs[i] := by
    unfold nameAt valAt
    rw [List.getD_eq_getElem?_getD, List.getElem?_eq_getElem hi]
    rfl
  rw [← e]
  exact ⟨this.1, this.2.1, this.2.2.2⟩
theorem fieldsL_of {fs : List (ByteArray × ByteArray)} (tail : List (List UInt8)) (h : ∀ f ∈ fs, TokOk f.1 ∧ ValOk f.2 ∧ f.1 ≠ clen) : fieldsL (fs.map fieldLine ++ tail) = fs.map (fun f => (bs f.1, bs f.2)) ++ fieldsL tail := by
  induction fs with
  | nil => rfl
  | cons f r ih =>
    have hf := h f (by simp)
    have h58 : ∀ b ∈ bs f.1, b ≠ 58 := fun b hb e => by
      have := bs_all hf.1.2.2 b hb
      subst e
      unfold TokB at this
      simp at this
    simp only [List.map_cons, List.cons_append, fieldsL]
    rw [show fieldL [] (fieldLine f) = some (bs f.1, bs f.2) from by have := field_cut (bs f.1) (bs f.2) h58 []; simpa [fieldLine] using this]
    simp only
    rw [if_neg (fun e => hf.2.2 (bs_inj (by rw [e]; rfl))), ih (fun x hx => h x (by simp [hx]))]
theorem fieldsL_clen (n : Nat) : fieldsL [clenLine n] = [] := by
  have h58 : ∀ b ∈ clenL, b ≠ 58 := by decide
  simp only [fieldsL]
  rw [show fieldL [] (clenLine n) = some (clenL, numL n) from by have := field_cut clenL (numL n) h58 []; simpa [clenLine] using this]
  simp
theorem bs_ft (fs : List (ByteArray × ByteArray)) : ∀ k, k ≤ fs.length → bs (ftTo fs k) = ((fs.take k).map fieldLine).flatMap (fun l => l ++ [13, 10]) := by
  intro k
  induction k with
  | zero => intro _; rfl
  | succ k ih =>
    intro hk
    have e : (nameAt fs k, valAt fs k) = fs[k]'(by omega) := by
      unfold nameAt valAt
      rw [List.getD_eq_getElem?_getD, List.getElem?_eq_getElem (by omega)]
      rfl
    have ht : fs.take (k + 1) = fs.take k ++ [fs[k]'(by omega)] := (List.take_append_getElem (by omega)).symm
    rw [ftTo, ht, ← e]
    simp only [bs_append, ih (by omega), List.map_append, List.flatMap_append, List.map_cons, List.map_nil, List.flatMap_cons, List.flatMap_nil, fieldLine]
    simp [bs]
theorem bs_fields (fs : List (ByteArray × ByteArray)) : bs (fieldsText fs) = (fs.map fieldLine).flatMap (fun l => l ++ [13, 10]) := by
  have := bs_ft fs fs.length (Nat.le_refl _)
  rw [List.take_length] at this
  exact this

def httpL : List UInt8 := [72, 84, 84, 80, 47, 49, 46, 49]
def reqLine (m : Int) (path : ByteArray) : List UInt8 := bs (methB m) ++ 32 :: (bs path ++ 32 :: httpL)
def respLine (st : Int) : List UInt8 := httpL ++ 32 :: (numL st.toNat ++ 32 :: [46])
theorem bs_num (n : Nat) : bs (numText n) = numL n := rfl
theorem bs_reqT (m : Int) (path : ByteArray) (fs : List (ByteArray × ByteArray)) (body : ByteArray) : bs (reqT m path fs body) = (reqLine m path :: (fs.map fieldLine ++ (if body.size = 0 then [] else [clenLine body.size]))).flatMap (fun l => l ++ [13, 10]) ++ 13 :: 10 :: bs body := by
  unfold reqT reqHead
  by_cases h : body.size = 0
  · rw [if_pos h, if_pos h]
    simp only [bs_append, bs_fields, List.flatMap_cons, List.append_nil, reqLine]
    simp [bs, httpEnd, lnE, httpL]
  · rw [if_neg h, if_neg h]
    simp only [bs_append, bs_fields, bs_num, List.flatMap_cons, List.flatMap_append, List.flatMap_nil, reqLine, clenLine]
    simp [bs, httpEnd, lnE, httpL, clenK, clenL]
theorem bs_respT (st : Int) (fs : List (ByteArray × ByteArray)) (body : ByteArray) : bs (respT st fs body) = (respLine st :: (fs.map fieldLine ++ [clenLine body.size])).flatMap (fun l => l ++ [13, 10]) ++ 13 :: 10 :: bs body := by
  unfold respT
  simp only [bs_append, bs_fields, bs_num, List.flatMap_cons, List.flatMap_append, List.flatMap_nil, respLine, clenLine]
  simp [bs, httpAhead, dotEnd, lnE2, httpL, clenK, clenL]

theorem numL_dig (n : Nat) (h : n ≤ 1000000) : numL n ≠ [] ∧ ∀ b ∈ numL n, DigB b := by
  unfold numL
  rw [if_neg (by omega)]
  by_cases h0 : n = 0
  · rw [if_pos h0]
    refine ⟨by simp, ?_⟩
    intro b hb
    simp at hb
    subst hb
    unfold DigB; decide
  · rw [if_neg h0]
    have hf := dg_facts 8 n (by omega)
    refine ⟨fun e => ?_, hf.2.2⟩
    have h2 := hf.2.1
    rw [e] at h2
    exact h0 h2.symm
theorem line_field {f : ByteArray × ByteArray} (h : TokOk f.1 ∧ ValOk f.2 ∧ f.1 ≠ clen) : fieldLine f ≠ [] ∧ ∀ b ∈ fieldLine f, b ≠ 13 := by
  refine ⟨by simp [fieldLine], ?_⟩
  intro b hb e
  subst e
  simp only [fieldLine, List.mem_append, List.mem_cons] at hb
  rcases hb with hb | hb | hb | hb
  · have := bs_all h.1.2.2 _ hb
    unfold TokB at this
    simp at this
  · exact absurd hb (by decide)
  · exact absurd hb (by decide)
  · have := bs_all h.2.1.2.2.1 _ hb
    unfold ValB at this
    simp at this
theorem line_clen (n : Nat) (h : n ≤ 1000000) : clenLine n ≠ [] ∧ ∀ b ∈ clenLine n, b ≠ 13 := by
  refine ⟨by simp [clenLine], ?_⟩
  intro b hb e
  subst e
  simp only [clenLine, List.mem_append, List.mem_cons] at hb
  rcases hb with hb | hb | hb | hb
  · exact absurd hb (by decide)
  · exact absurd hb (by decide)
  · exact absurd hb (by decide)
  · have := (numL_dig n h).2 _ hb
    unfold DigB at this
    simp at this
theorem meth_cases {m : Int} (h : 1 ≤ m ∧ m ≤ 4) : m = 1 ∨ m = 2 ∨ m = 3 ∨ m = 4 := by omega
theorem meth_bytes {m : Int} (h : 1 ≤ m ∧ m ≤ 4) : bs (methB m) ≠ [] ∧ ∀ b ∈ bs (methB m), b ≠ 13 ∧ b ≠ 32 := by
  rcases meth_cases h with rfl | rfl | rfl | rfl
  all_goals (constructor <;> decide)
theorem line_req {m : Int} {path : ByteArray} (h : 1 ≤ m ∧ m ≤ 4) (hp : PathOk path) : reqLine m path ≠ [] ∧ ∀ b ∈ reqLine m path, b ≠ 13 := by
  refine ⟨by simp [reqLine], ?_⟩
  intro b hb e
  subst e
  simp only [reqLine, List.mem_append, List.mem_cons] at hb
  rcases hb with hb | hb | hb | hb | hb
  · exact ((meth_bytes h).2 _ hb).1 rfl
  · exact absurd hb (by decide)
  · have := bs_all hp.1 _ hb
    unfold PathB at this
    simp at this
  · exact absurd hb (by decide)
  · exact absurd hb (by decide)
theorem line_resp {st : Int} (h : 100 ≤ st ∧ st ≤ 599) : respLine st ≠ [] ∧ ∀ b ∈ respLine st, b ≠ 13 := by
  refine ⟨by simp [respLine], ?_⟩
  intro b hb e
  subst e
  simp only [respLine, List.mem_append, List.mem_cons] at hb
  rcases hb with hb | hb | hb | hb | hb
  · exact absurd hb (by decide)
  · exact absurd hb (by decide)
  · have := (numL_dig st.toNat (by omega)).2 _ hb
    unfold DigB at this
    simp at this
  · exact absurd hb (by decide)
  · exact absurd hb (by decide)

/-- What is read of a right request's text: its lines, what is behind them. -/
theorem req_head {s : ByteArray} {m : Int} {path : ByteArray} {fs : List (ByteArray × ByteArray)} {body : ByteArray} (h : IsReq s m path fs body) :
    headL [] [] (bs s) = (reqLine m path :: (fs.map fieldLine ++ (if body.size = 0 then [] else [clenLine body.size])), some (bs body)) := by
  obtain ⟨⟨hm, hp, hf, hb⟩, rfl⟩ := h
  rw [bs_reqT, head_lines]
  · rfl
  · intro l hl
    simp only [List.mem_cons, List.mem_append, List.mem_map] at hl
    rcases hl with rfl | ⟨f, hf1, rfl⟩ | hl
    · exact line_req hm hp
    · exact line_field (flds_mem hf f hf1)
    · by_cases h0 : body.size = 0
      · rw [if_pos h0] at hl; simp at hl
      · rw [if_neg h0] at hl
        simp at hl
        subst hl
        exact line_clen _ (by omega)
theorem resp_head {s : ByteArray} {st : Int} {fs : List (ByteArray × ByteArray)} {body : ByteArray} (h : IsResp s st fs body) :
    headL [] [] (bs s) = (respLine st :: (fs.map fieldLine ++ [clenLine body.size]), some (bs body)) := by
  obtain ⟨⟨hm, hf, hb⟩, rfl⟩ := h
  rw [bs_respT, head_lines]
  · rfl
  · intro l hl
    simp only [List.mem_cons, List.mem_append, List.mem_map] at hl
    rcases hl with rfl | ⟨f, hf1, rfl⟩ | hl
    · exact line_resp hm
    · exact line_field (flds_mem hf f hf1)
    · simp at hl
      subst hl
      exact line_clen _ (by omega)
theorem req_words {m : Int} {path : ByteArray} (h : 1 ≤ m ∧ m ≤ 4) (hp : PathOk path) : wordsL [] [] (reqLine m path) = [bs (methB m), bs path, httpL] := by
  unfold reqLine
  rw [words_word _ _ (fun b hb => ((meth_bytes h).2 b hb).2), words_word _ _ (fun b hb e => by
    have := bs_all hp.1 b hb
    subst e
    unfold PathB at this
    simp at this), words_last _ (by decide)]
  rfl
theorem resp_words {st : Int} (h : 100 ≤ st ∧ st ≤ 599) : wordsL [] [] (respLine st) = [httpL, numL st.toNat, [46]] := by
  unfold respLine
  rw [words_word _ _ (by decide), words_word _ _ (fun b hb e => by
    have := (numL_dig st.toNat (by omega)).2 b hb
    subst e
    unfold DigB at this
    simp at this), words_last _ (by decide)]
  rfl
theorem req_fields {fs : List (ByteArray × ByteArray)} (h : FldsOk fs) (n : Nat) : fieldsL (fs.map fieldLine ++ (if n = 0 then [] else [clenLine n])) = fs.map (fun f => (bs f.1, bs f.2)) := by
  rw [fieldsL_of _ (flds_mem h)]
  by_cases h0 : n = 0
  · rw [if_pos h0]; simp [fieldsL]
  · rw [if_neg h0, fieldsL_clen]; simp
theorem resp_fields {fs : List (ByteArray × ByteArray)} (h : FldsOk fs) (n : Nat) : fieldsL (fs.map fieldLine ++ [clenLine n]) = fs.map (fun f => (bs f.1, bs f.2)) := by
  rw [fieldsL_of _ (flds_mem h), fieldsL_clen]; simp
theorem pairs_inj : ∀ {a b : List (ByteArray × ByteArray)}, a.map (fun f => (bs f.1, bs f.2)) = b.map (fun f => (bs f.1, bs f.2)) → a = b
  | [], [], _ => rfl
  | [], _ :: _, h => by simp at h
  | _ :: _, [], h => by simp at h
  | f :: r, g :: t, h => by
    simp only [List.map_cons, List.cons.injEq, Prod.mk.injEq] at h
    rw [pairs_inj h.2]
    congr 1
    exact Prod.ext (bs_inj h.1.1) (bs_inj h.1.2)
end Go.Proofs.Ytlmenolcgaakeaa

namespace Go.Proofs.Ytlmenolcgaakeaa
open Go.RowKit

theorem bs_extract (s : ByteArray) (f j : Nat) : bs (s.extract f j) = ((bs s).take j).drop f := by
  simp [bs, List.drop_take]
def bsP (f : ByteArray × ByteArray) : List UInt8 × List UInt8 := (bs f.1, bs f.2)
end Go.Proofs.Ytlmenolcgaakeaa

namespace Go.Proofs.Ytlmenolcgaakeaa
open Go.RowKit

/-- A part of a split text. -/
def partL (cur : List UInt8) : List ByteArray := if trimL cur = [] then [] else [⟨(trimL cur).toArray⟩]
/-- Split, byte by byte: 'cur': what stands of this part. -/
def spA (cur : List UInt8) : List UInt8 → List ByteArray
  | [] => partL cur
  | c :: r => if c = 44 then partL cur ++ spA [] r else spA (cur ++ [c]) r
theorem add_part (l : List ByteArray) (s : ByteArray) : addPart l (trimOf s) = l ++ partL (bs s) := by
  have hs : (trimOf s).size = (trimL (bs s)).length := by
    show (trimL s.data.toList).toArray.size = _
    simp [bs]
  unfold addPart partL
  rw [hs]
  by_cases h : trimL (bs s) = []
  · rw [if_pos h, if_pos (by rw [h]; rfl), List.append_nil]
  · rw [if_neg h, if_neg (fun e => h (List.length_eq_zero_iff.1 e))]
    rfl
theorem ext_part (s : ByteArray) (a k : Nat) : bs (s.extract a k) = ((bs s).take k).drop a := by rw [bs_extract]
theorem split_from (s : ByteArray) : ∀ k, k ≤ s.size → (splitTo s k).1 ++ spA (((bs s).take k).drop (splitTo s k).2) ((bs s).drop k) = spA [] (bs s) := by
  intro k
  induction k with
  | zero => intro _; simp [splitTo]
  | succ k ih =>
    intro hk
    have hlt : k < s.size := by omega
    have h := ih (by omega)
    have hle := (splitTo_le s k).1
    have hd : (bs s).drop k = s[k]'hlt :: (bs s).drop (k + 1) := by
      have hl : k < (bs s).length := by rw [bs_len]; exact hlt
      rw [List.drop_eq_getElem_cons hl]
      congr 1
    have ht : (bs s).take (k + 1) = (bs s).take k ++ [s[k]'hlt] := by
      have hl : k < (bs s).length := by rw [bs_len]; exact hlt
      rw [List.take_succ_eq_append_getElem hl]
      congr 1
    rw [hd] at h
    by_cases hc : (s[k]'hlt).toNat = 44
    · have hc8 : s[k]'hlt = 44 := UInt8.toNat_inj.1 hc
      rw [splitTo_comma s k hlt hc]
      dsimp only
      rw [add_part, ext_part]
      rw [spA, if_pos hc8] at h
      have hn : ((bs s).take (k + 1)).drop (k + 1) = [] := List.drop_of_length_le (by rw [List.length_take]; omega)
      rw [hn, List.append_assoc]
      exact h
    · have hc8 : s[k]'hlt ≠ 44 := fun e => hc (by rw [e]; rfl)
      rw [splitTo_other s k hlt hc]
      rw [spA, if_neg hc8] at h
      have hn : ((bs s).take (k + 1)).drop (splitTo s k).2 = ((bs s).take k).drop (splitTo s k).2 ++ [s[k]'hlt] := by
        rw [ht, List.drop_append_of_le_length (by rw [List.length_take, bs_len]; omega)]
      rw [hn]
      exact h
theorem splitL_sp (s : ByteArray) : splitL s = spA [] (bs s) := by
  have h := split_from s s.size (Nat.le_refl _)
  have hd : (bs s).drop s.size = [] := List.drop_of_length_le (by rw [bs_len]; exact Nat.le_refl _)
  rw [hd] at h
  unfold splitL
  rw [add_part, ext_part]
  exact h

theorem dropB_len : ∀ l : List UInt8, (dropB l).length ≤ l.length := by
  intro l
  induction l with
  | nil => simp [dropB]
  | cons c l ih =>
    unfold dropB
    split
    · simp; omega
    · exact Nat.le_refl _
theorem trimL_len (l : List UInt8) : (trimL l).length ≤ l.length := by
  have h1 := dropB_len l
  have h2 := dropB_len (dropB l).reverse
  unfold trimL
  rw [List.length_reverse]
  rw [List.length_reverse] at h2
  omega
theorem partL_le (cur : List UInt8) : (partL cur).length ≤ 1 ∧ ∀ x ∈ partL cur, x.size ≤ cur.length := by
  unfold partL
  split
  · exact ⟨by simp, fun x hx => nomatch hx⟩
  · refine ⟨by simp, fun x hx => ?_⟩
    obtain rfl := List.mem_singleton.1 hx
    exact trimL_len cur
theorem spA_le : ∀ (l cur : List UInt8), (spA cur l).length ≤ l.length + 1 ∧ ∀ x ∈ spA cur l, x.size ≤ cur.length + l.length := by
  intro l
  induction l with
  | nil => intro cur; exact ⟨(partL_le cur).1, fun x hx => (partL_le cur).2 x hx⟩
  | cons c l ih =>
    intro cur
    unfold spA
    split
    · have h1 := partL_le cur
      have h2 := ih []
      refine ⟨by rw [List.length_append, List.length_cons]; omega, fun x hx => ?_⟩
      rw [List.mem_append] at hx
      rw [List.length_cons]
      rcases hx with hx | hx
      · have := h1.2 x hx; omega
      · have := h2.2 x hx; rw [List.length_nil] at this; omega
    · have h2 := ih (cur ++ [c])
      refine ⟨by rw [List.length_cons]; omega, fun x hx => ?_⟩
      have := h2.2 x hx
      rw [List.length_append, List.length_singleton] at this
      rw [List.length_cons]
      omega
theorem splitL_le (s : ByteArray) : (splitL s).length ≤ s.size + 1 ∧ ∀ x ∈ splitL s, x.size ≤ s.size := by
  have h := spA_le (bs s) []
  rw [← splitL_sp, bs_len, List.length_nil, Nat.zero_add] at h
  exact h

/-- What is said of keeping. -/
structure CcD where
  ns : Bool
  nc : Bool
  pr : Bool
  mu : Bool
  ha : Bool
  age : Int
def CcD.v (c : CcD) : Value := .agg #[.bool c.ns, .bool c.nc, .bool c.pr, .bool c.mu, .bool c.ha, .int .i64 c.age]
/-- Ages are in their bounds, and 0 where none is told. -/
def CcD.fit (c : CcD) : Prop := 0 ≤ c.age ∧ c.age ≤ 1000000 ∧ (c.ha = false → c.age = 0)
end Go.Proofs.Ytlmenolcgaakeaa

namespace Go.Proofs.Ytlmenolcgaakeaa
open Go.RowKit
open Go.Lib hiding intOf

def varyName : ByteArray := ⟨#[118, 97, 114, 121]⟩
/-- The names that an answer hangs on. -/
def varyP (fs : List (ByteArray × ByteArray)) : List ByteArray := (splitL (getV fs varyName)).map lowerOf
/-- A list of texts that is read. -/
def TextsA (w : World) (oa : Option Addr) (n : Nat) (xs : List ByteArray) : Prop :=
  xs.length = n ∧ ∀ i, i < n → ∃ g, oa = some ⟨g, 0, none⟩ ∧ g < w.heap.size ∧ w.cell? ⟨g, i, none⟩ = some (.string (textAt xs i))
theorem TextsA.below {w w' : World} {oa : Option Addr} {n : Nat} {xs : List ByteArray} (h : TextsA w oa n xs) (hb : Below w.heap.size w w') : TextsA w' oa n xs :=
  ⟨h.1, fun i hi => by
    obtain ⟨g, h1, h2, h3⟩ := h.2 i hi
    exact ⟨g, h1, Nat.lt_of_lt_of_le h2 hb.size, by rw [hb.cell (p := ⟨g, i, none⟩) h2]; exact h3⟩⟩
theorem texts_own {w : World} {base n : Nat} {v : Value} {xs : List ByteArray} (h : w.ownsRow base 9 1 v n (xs.map Value.string)) : ∃ oa cap, v = .slice oa n cap ∧ TextsA w oa n xs := by
  have hl : xs.length = n := by have := h.1; simpa using this
  rcases row_form h with ⟨oa, ca, rfl, rfl, rfl⟩ | ⟨g, cap, rfl, hp, r⟩
  · exact ⟨oa, ca, rfl, rfl, fun i hi => absurd hi (by omega)⟩
  · exact ⟨_, _, rfl, hl, fun i hi => ⟨g, rfl, r.lt, r.cell i hi⟩⟩

/-- The first j texts in small letters. -/
def loTo (xs : List ByteArray) (j : Nat) : List ByteArray := (xs.take j).map lowerOf ++ xs.drop j
theorem loTo_zero (xs : List ByteArray) : loTo xs 0 = xs := by simp [loTo]
theorem loTo_all (xs : List ByteArray) (j : Nat) (h : xs.length ≤ j) : loTo xs j = xs.map lowerOf := by
  simp [loTo, List.take_of_length_le h, List.drop_of_length_le h]
theorem loTo_at (xs : List ByteArray) (j : Nat) : textAt (loTo xs j) j = textAt xs j := by
  unfold textAt loTo
  rw [List.getD_eq_getElem?_getD, List.getD_eq_getElem?_getD]
  by_cases h : j < xs.length
  · rw [List.getElem?_append_right (by simp; omega), List.length_map, List.length_take, Nat.min_eq_left (by omega), Nat.sub_self, List.getElem?_drop, Nat.add_zero]
  · rw [List.getElem?_eq_none (by simp; omega), List.getElem?_eq_none (by omega)]
theorem loTo_step (xs : List ByteArray) (j : Nat) (h : j < xs.length) : (loTo xs j).set j (lowerOf (textAt xs j)) = loTo xs (j + 1) := by
  have e : xs.drop j = textAt xs j :: xs.drop (j + 1) := by
    rw [List.drop_eq_getElem_cons h]
    congr 1
    unfold textAt
    rw [List.getD_eq_getElem?_getD, List.getElem?_eq_getElem h]
    rfl
  have e2 : xs.take (j + 1) = xs.take j ++ [textAt xs j] := by
    rw [List.take_add_one, List.getElem?_eq_getElem h]
    unfold textAt
    rw [List.getD_eq_getElem?_getD, List.getElem?_eq_getElem h]
    rfl
  unfold loTo
  rw [List.set_append_right _ _ (by simp; omega), List.length_map, List.length_take, Nat.min_eq_left (by omega), Nat.sub_self, e, List.set_cons_zero, e2, List.map_append]
  simp
set_option maxHeartbeats 1000000 in
set_option maxRecDepth 100000 in
theorem specVaryOf_any (v : Value) (n base : Nat) (fs : List (ByteArray × ByteArray)) (w : World) (hv : FieldsV w base v n fs) (hn : n ≤ 1073741824) (hsz : (getV fs varyName).size ≤ 1048576) :
    Calls Try.prog 42 #[v] w fun e w' => RowIs w.heap.size (varyP fs) w e w' := by
  obtain ⟨s, hs⟩ : ∃ s, s = getV fs varyName := ⟨_, rfl⟩
  have HS : Hid (getV fs varyName = s) := hs.symm
  have HE : Hid (varyP fs = (splitL s).map lowerOf) := by show _ = _; unfold varyP; rw [HS.out]
  rw [← hs] at hsz
  obtain ⟨hl1, hl2⟩ := splitL_le s
  clear hs
  go_enter Try.func42, Try.ntmps42
  go_wp2_with fail
  refine (specGet_any v n base fs varyName _ hv hn).mono ?_
  rintro e w1 ⟨rfl, rfl⟩
  rw [HS.out]
  clear hv
  go_wp2_with fail
  refine (specSplit_any s _ hsz).mono ?_
  rintro e w2 ⟨V, rfl, O, b2⟩
  obtain ⟨xs, hxs⟩ : ∃ xs, xs = splitL s := ⟨_, rfl⟩
  rw [← hxs] at hl1 hl2 O HE
  obtain ⟨m, hm⟩ : ∃ m, m = xs.length := ⟨_, rfl⟩
  rw [← hm] at hl1 O
  have HM : Hid (xs.length = m) := hm.symm
  have H2 : Hid (∀ x ∈ xs, x.size ≤ s.size) := hl2
  clear hxs hm hl2
  rcases row_form O with ⟨oa, ca, rfl, h0, h1⟩ | ⟨g, cap, rfl, hp, r1⟩
  · subst h0 h1
    go_wp2_with fail
    refine wp_loop_rounds 1 ?_
    rw [rounds_succ]
    go_wp2_with fail
    go_ret
    exact RowIs.of (by rw [HE.out]; rfl) rfl O b2
  · clear O
    have HB2 : Hid (Below w1.heap.size w1 w2) := b2
    have HR1 : Hid (TextRow w1.heap.size w2 g m cap (loTo xs 0)) := by show TextRow _ _ _ _ _ _; rw [loTo_zero]; exact r1
    clear b2 r1
    go_wp2_with fail
    go_loopw [6] (fun i wr => ∃ j : Nat, j ≤ m ∧ i = .int .i64 (j : Int) ∧ Hid (Below w1.heap.size w1 wr) ∧ Hid (TextRow w1.heap.size wr g m cap (loTo xs j))) (fun i _ => m - (intOf i).toNat)
    case atStart => exact ⟨0, Nat.zero_le _, rfl, HB2, HR1⟩
    case round =>
      obtain ⟨j, hj, rfl, HB, HR⟩ := hrel
      by_cases hlt : j < m
      · have hlt2 : (j : Int) < (m : Int) := by omega
        obtain ⟨x, hx⟩ : ∃ x, x = textAt xs j := ⟨_, rfl⟩
        have hc := HR.out.cell j hlt
        rw [loTo_at, ← hx] at hc
        have HST : Hid ((loTo xs j).set j (lowerOf x) = loTo xs (j + 1)) := by show _ = _; rw [hx]; exact loTo_step xs j (by rw [HM.out]; exact hlt)
        have hxz : x.size ≤ 1048576 := by
          refine Nat.le_trans (H2.out x ?_) hsz
          rw [hx]
          unfold textAt
          rw [List.getD_eq_getElem?_getD, List.getElem?_eq_getElem (by rw [HM.out]; exact hlt)]
          exact List.getElem_mem _
        clear hx
        go_wp2_with fail
        refine (specLower_any x _ hxz).mono ?_
        rintro e w3 ⟨rfl, hb3⟩
        have hrow := HR.out.below hb3 HR.out.lt
        have hc3 := hrow.cell j hlt
        have hf3 := hrow.frozen j
        have HB3 : Hid (Below w1.heap.size w1 (w3.setCell ⟨g, j, none⟩ (.string (lowerOf x)))) := (HB.out.trans (hb3.mono HB.out.size)).setCell HR.out.base _
        have HR3 : Hid (TextRow w1.heap.size (w3.setCell ⟨g, j, none⟩ (.string (lowerOf x))) g m cap (loTo xs (j + 1))) := by
          show TextRow _ _ _ _ _ _
          rw [← HST.out]
          exact hrow.set j hlt _
        clear hb3 hrow HB HR HST hc
        go_wp2_with fail
        go_roundw
        case rel => exact ⟨j + 1, by omega, by go_num, HB3, HR3⟩
        case measure => simp [intOf]; omega
      · obtain rfl : j = m := by omega
        go_wp2_with fail
        go_ret
        exact RowIs.of (by rw [HE.out, loTo_all xs j (by rw [HM.out]; exact Nat.le_refl _)]) (by rw [loTo_all xs j (by rw [HM.out]; exact Nat.le_refl _), List.length_map, HM.out]) HR.out.owns HB.out

end Go.Proofs.Ytlmenolcgaakeaa

namespace Go.Proofs.Ytlmenolcgaakeaa
open Go.RowKit

def hxB (d : Nat) : UInt8 := UInt8.ofNat (if d < 10 then 48 + d else 87 + d)
def hxF : Nat → Nat → List UInt8
  | 0, _ => []
  | f + 1, n => if n = 0 then [] else hxF f (n / 16) ++ [hxB (n % 16)]
theorem hxF_zero (f : Nat) : hxF f 0 = [] := by cases f <;> simp [hxF]
theorem hxF_pos (f n : Nat) (h : n ≠ 0) : hxF (f + 1) n = hxF f (n / 16) ++ [hxB (n % 16)] := by simp [hxF, h]
def hexL (n : Nat) : List UInt8 := if 1000000 < n then [] else if n = 0 then [48] else hxF 5 n
abbrev HexB (b : UInt8) : Prop := (48 ≤ b.toNat ∧ b.toNat ≤ 57) ∨ (97 ≤ b.toNat ∧ b.toNat ≤ 102)
def hexV (b : UInt8) : Nat := if b.toNat ≤ 57 then b.toNat - 48 else b.toNat - 87
theorem hxB_facts (d : Nat) (h : d < 16) : HexB (hxB d) ∧ hexV (hxB d) = d ∧ (d ≠ 0 → hxB d ≠ 48) := by
  have : ∀ d : Fin 16, HexB (hxB d.1) ∧ hexV (hxB d.1) = d.1 ∧ (d.1 ≠ 0 → hxB d.1 ≠ 48) := by decide
  exact this ⟨d, h⟩
def hexVal (l : List UInt8) : Nat := l.foldl (fun v b => 16 * v + hexV b) 0
theorem hexVal_snoc (l : List UInt8) (b : UInt8) : hexVal (l ++ [b]) = 16 * hexVal l + hexV b := by simp [hexVal]
theorem hx_facts : ∀ (f n : Nat), n < 16 ^ f → (∀ b ∈ hxF f n, HexB b) ∧ hexVal (hxF f n) = n ∧ (∀ b, (hxF f n).head? = some b → b ≠ 48) ∧ (n ≠ 0 → hxF f n ≠ []) := by
  intro f
  induction f with
  | zero => intro n h; simp at h; subst h; simp [hxF, hexVal]
  | succ f ih =>
    intro n h
    by_cases h0 : n = 0
    · subst h0; rw [hxF_zero]; simp [hexVal]
    · rw [Nat.pow_succ] at h
      obtain ⟨h1, h2, h3, h4⟩ := ih (n / 16) (by omega)
      have hd := hxB_facts (n % 16) (by omega)
      rw [hxF_pos f n h0]
      refine ⟨fun b hb => ?_, ?_, fun b hb => ?_, fun _ => by simp⟩
      · simp only [List.mem_append, List.mem_singleton] at hb
        rcases hb with hb | rfl
        · exact h1 b hb
        · exact hd.1
      · rw [hexVal_snoc, h2, hd.2.1]; omega
      · by_cases hz : n / 16 = 0
        · rw [hz, hxF_zero] at hb
          simp at hb
          subst hb
          exact hd.2.2 (by omega)
        · have hne := h4 hz
          obtain ⟨c, r, hc⟩ : ∃ c r, hxF f (n / 16) = c :: r := by
            cases hx : hxF f (n / 16) with
            | nil => exact absurd hx hne
            | cons c r => exact ⟨c, r, rfl⟩
          rw [hc] at hb h3
          simp at hb h3
          rw [← hb]; exact h3
theorem hx_len : ∀ (f n k : Nat), n < 16 ^ k → (hxF f n).length ≤ k := by
  intro f
  induction f with
  | zero => intro n k _; simp [hxF]
  | succ f ih =>
    intro n k h
    by_cases h0 : n = 0
    · subst h0; rw [hxF_zero]; simp
    · cases k with
      | zero => simp at h; omega
      | succ k =>
        rw [Nat.pow_succ] at h
        have := ih (n / 16) k (by omega)
        rw [hxF_pos f n h0]
        simp; omega
/-- A length that may begin a part: one to four digits, no needless nought. -/
theorem hex_head (n : Nat) (h : n < 65536) : 1 ≤ (hexL n).length ∧ (hexL n).length ≤ 4 ∧ (∀ b ∈ hexL n, HexB b) ∧ hexVal (hexL n) = n ∧ (1 < (hexL n).length → ∀ b, (hexL n).head? = some b → b ≠ 48) := by
  unfold hexL
  rw [if_neg (by omega)]
  by_cases h0 : n = 0
  · rw [if_pos h0, h0]
    refine ⟨by simp, by simp, ?_, rfl, by simp⟩
    intro b hb
    simp at hb
    subst hb
    decide
  · rw [if_neg h0]
    obtain ⟨h1, h2, h3, h4⟩ := hx_facts 5 n (by omega)
    have hl := hx_len 5 n 4 (by omega)
    refine ⟨?_, hl, h1, h2, fun _ => h3⟩
    cases hx : hxF 5 n with
    | nil => exact absurd hx (h4 h0)
    | cons c r => simp

/-- A line's end held against what stands there: 0 it is one, 1 it may become one, 2 it is none. -/
def lineC : List UInt8 → Int
  | [] => 1
  | [c] => if c = 13 then 1 else 2
  | c :: d :: _ => if c = 13 ∧ d = 10 then 0 else 2
def digN : Nat → List UInt8 → Nat
  | 0, _ => 0
  | _ + 1, [] => 0
  | f + 1, c :: r => if HexB c then digN f r + 1 else 0
theorem digN_le : ∀ (f : Nat) (r : List UInt8), digN f r ≤ f ∧ digN f r ≤ r.length
  | 0, _ => by simp [digN]
  | _ + 1, [] => by simp [digN]
  | f + 1, c :: r => by
    have := digN_le f r
    unfold digN
    split
    · simp; omega
    · simp
theorem digN_hex : ∀ (f : Nat) (r : List UInt8), ∀ b ∈ r.take (digN f r), HexB b
  | 0, _ => by simp [digN]
  | _ + 1, [] => by simp [digN]
  | f + 1, c :: r => by
    have := digN_hex f r
    unfold digN
    split
    · rename_i h
      intro b hb
      simp only [List.take_succ_cons, List.mem_cons] at hb
      rcases hb with rfl | hb
      · exact h
      · exact this b hb
    · simp
theorem digN_pre : ∀ (l rest : List UInt8) (f : Nat), l.length ≤ f → (∀ b ∈ l, HexB b) → (l.length = f ∨ ∀ c r, rest = c :: r → ¬ HexB c) → digN f (l ++ rest) = l.length
  | [], rest, f, _, _, h => by
    rcases h with h | h
    · simp at h; subst h; simp [digN]
    · cases f with
      | zero => simp [digN]
      | succ f =>
        cases rest with
        | nil => simp [digN]
        | cons c r => simp [digN, h c r rfl]
  | b :: l, rest, f, hf, hh, h => by
    cases f with
    | zero => simp at hf
    | succ f =>
      have ih := digN_pre l rest f (by simpa using hf) (fun x hx => hh x (by simp [hx])) (by
        rcases h with h | h
        · left; simpa using h
        · right; exact h)
      simp [digN, hh b (by simp), ih]
def lenK (r : List UInt8) : Nat := digN 5 r
abbrev lenBad (r : List UInt8) : Prop := 4 < lenK r ∨ (1 < lenK r ∧ r.head? = some 48) ∨ (lenK r = 0 ∧ r ≠ [])
/-- What is told of a length and its line's end. -/
def lenC (r : List UInt8) : Int := if lenBad r then 2 else if lenK r = 0 then 1 else lineC (r.drop (lenK r))
def lenN (r : List UInt8) : Nat := hexVal (r.take (lenK r))
theorem lineC_zero {r : List UInt8} (h : lineC r = 0) : ∃ t, r = 13 :: 10 :: t := by
  match r with
  | [] => simp [lineC] at h
  | [c] => simp only [lineC] at h; split at h <;> simp at h
  | c :: d :: t =>
    simp only [lineC] at h
    split at h
    · rename_i e; exact ⟨t, by rw [e.1, e.2]⟩
    · simp at h
theorem lineC_vals (r : List UInt8) : lineC r = 0 ∨ lineC r = 1 ∨ lineC r = 2 := by
  match r with
  | [] => simp [lineC]
  | [c] => simp only [lineC]; split <;> simp
  | c :: d :: t => simp only [lineC]; split <;> simp
theorem lineC_mono {r t : List UInt8} (h : lineC r ≠ 1) : lineC (r ++ t) = lineC r := by
  match r with
  | [] => simp [lineC] at h
  | [c] =>
    by_cases e : c = 13
    · simp [lineC, e] at h
    · cases t with
      | nil => simp
      | cons d t => simp [lineC, e]
  | c :: d :: u => simp [lineC]
theorem lenC_zero {r : List UInt8} (h : lenC r = 0) : 1 ≤ lenK r ∧ lenK r ≤ 4 ∧ ¬ lenBad r ∧ ∃ t, r.drop (lenK r) = 13 :: 10 :: t := by
  unfold lenC at h
  by_cases hb : lenBad r
  · rw [if_pos hb] at h; simp at h
  · rw [if_neg hb] at h
    by_cases h0 : lenK r = 0
    · rw [if_pos h0] at h; simp at h
    · rw [if_neg h0] at h
      refine ⟨by omega, ?_, hb, lineC_zero h⟩
      unfold lenBad at hb
      omega
theorem lenC_vals (r : List UInt8) : lenC r = 0 ∨ lenC r = 1 ∨ lenC r = 2 := by
  unfold lenC
  split
  · simp
  · split
    · simp
    · exact lineC_vals _
/-- A length, and a line's end behind it. -/
theorem len_head (n : Nat) (h : n < 65536) (rest : List UInt8) (hr : ∀ c r, rest = c :: r → c = 13) : lenK (hexL n ++ rest) = (hexL n).length ∧ lenN (hexL n ++ rest) = n ∧ lenC (hexL n ++ rest) = lineC rest := by
  obtain ⟨h1, h2, h3, h4, h5⟩ := hex_head n h
  have hk : lenK (hexL n ++ rest) = (hexL n).length := digN_pre _ _ 5 (by omega) h3 (.inr (fun c r e => by rw [hr c r e]; decide))
  refine ⟨hk, ?_, ?_⟩
  · unfold lenN; rw [hk, List.take_left]; exact h4
  · unfold lenC
    rw [if_neg, hk, if_neg (by omega), List.drop_left]
    unfold lenBad
    rw [hk]
    rintro (h | ⟨h, e⟩ | ⟨h, _⟩)
    · omega
    · cases hx : hexL n with
      | nil => rw [hx] at h1; simp at h1
      | cons c r =>
        rw [hx] at e h5 h
        simp at e
        exact h5 (by simpa using h) c (by simp) e
    · omega
theorem lenK_mono {r : List UInt8} (t : List UInt8) (h : lenC r = 0) : lenK (r ++ t) = lenK r ∧ lenN (r ++ t) = lenN r ∧ lenC (r ++ t) = 0 := by
  obtain ⟨h1, h2, hb, u, hu⟩ := lenC_zero h
  have hl := digN_le 5 r
  have e : r = r.take (lenK r) ++ 13 :: 10 :: u := by rw [← hu, List.take_append_drop]
  have hlen : (r.take (lenK r)).length = lenK r := by rw [List.length_take]; unfold lenK; omega
  have hk : lenK (r ++ t) = lenK r := by
    have : r ++ t = r.take (lenK r) ++ (13 :: 10 :: u ++ t) := by rw [← List.append_assoc, ← e]
    rw [this]
    have := digN_pre (r.take (lenK r)) (13 :: 10 :: u ++ t) 5 (by omega) (digN_hex 5 r) (.inr (fun c q e => by simp at e; rw [← e.1]; decide))
    show digN 5 _ = _
    rw [this, hlen]
  refine ⟨hk, ?_, ?_⟩
  · unfold lenN; rw [hk, List.take_append_of_le_length (by unfold lenK; omega)]
  · unfold lenC
    rw [if_neg, hk, if_neg (by omega), List.drop_append_of_le_length (by unfold lenK; omega), hu]
    · simp [lineC]
    · unfold lenBad at hb ⊢
      rw [hk]
      rintro (h | ⟨h, e⟩ | ⟨h, _⟩)
      · omega
      · refine hb (.inr (.inl ⟨h, ?_⟩))
        cases r with
        | nil => simp at hl; unfold lenK at h; omega
        | cons c q => simpa using e
      · omega
theorem lenC_mono {r : List UInt8} (t : List UInt8) (h : lenC r ≠ 1) : lenC (r ++ t) = lenC r := by
  rcases lenC_vals r with h0 | h1 | h2
  · rw [(lenK_mono t h0).2.2, h0]
  · exact absurd h1 h
  · have hl := digN_le 5 r
    have hl2 := digN_le 5 (r ++ t)
    have hh := digN_hex 5 r
    have hlen : (r.take (lenK r)).length = lenK r := by rw [List.length_take]; unfold lenK; omega
    rw [h2]
    by_cases hb : lenBad r
    · have hb2 : lenBad (r ++ t) := by
        have hge : lenK r ≤ lenK (r ++ t) := by
          have : ∀ (f : Nat) (a b : List UInt8), digN f a ≤ digN f (a ++ b) := by
            intro f
            induction f with
            | zero => intro a b; simp [digN]
            | succ f ih =>
              intro a b
              cases a with
              | nil => simp [digN]
              | cons c a =>
                simp only [List.cons_append, digN]
                split
                · have := ih a b; omega
                · simp
          exact this 5 r t
        rcases hb with h | ⟨h, e⟩ | ⟨h, e⟩
        · exact .inl (by omega)
        · refine .inr (.inl ⟨by omega, ?_⟩)
          cases r with
          | nil => simp at e
          | cons c q => simpa using e
        · cases r with
          | nil => exact absurd rfl e
          | cons c q =>
            have hc : ¬ HexB c := by
              intro hc
              unfold lenK at h
              simp [digN, hc] at h
            refine .inr (.inr ⟨?_, by simp⟩)
            simp [lenK, digN, hc]
      unfold lenC; rw [if_pos hb2]
    · unfold lenC at h2
      rw [if_neg hb] at h2
      by_cases h0 : lenK r = 0
      · rw [if_pos h0] at h2; simp at h2
      · rw [if_neg h0] at h2
        have hne : lineC (r.drop (lenK r)) ≠ 1 := by rw [h2]; simp
        have hk4 : lenK r ≤ 4 := by unfold lenBad at hb; omega
        -- a byte behind the digits that is no digit
        obtain ⟨c, q, hc, hnc⟩ : ∃ c q, r.drop (lenK r) = c :: q ∧ ¬ HexB c := by
          cases hd : r.drop (lenK r) with
          | nil => rw [hd] at h2; simp [lineC] at h2
          | cons c q =>
            refine ⟨c, q, rfl, fun hx => ?_⟩
            have e : r = (r.take (lenK r) ++ [c]) ++ q := by rw [List.append_assoc]; simp [← hd]
            have : ∀ (f : Nat) (l m : List UInt8), (∀ b ∈ l, HexB b) → l.length ≤ f → l.length ≤ digN f (l ++ m) := by
              intro f
              induction f with
              | zero => intro l m _ hl; simp at hl; simp [hl]
              | succ f ih =>
                intro l m hl hlf
                cases l with
                | nil => simp
                | cons x l =>
                  simp only [List.cons_append, digN, hl x (by simp), if_true, List.length_cons]
                  have := ih l m (fun b hb => hl b (by simp [hb])) (by simpa using hlf)
                  omega
            have h9 := this 5 (r.take (lenK r) ++ [c]) q (fun b hb => by
              simp only [List.mem_append, List.mem_singleton] at hb
              rcases hb with hb | rfl
              · exact hh b hb
              · exact hx) (by simp; omega)
            rw [← e] at h9
            simp [hlen] at h9
            unfold lenK at h9
            omega
        have hk : lenK (r ++ t) = lenK r := by
          have e : r ++ t = r.take (lenK r) ++ (c :: q ++ t) := by rw [← hc, ← List.append_assoc, List.take_append_drop]
          have h9 := digN_pre (r.take (lenK r)) (c :: q ++ t) 5 (by omega) hh (.inr (fun c' q' e' => by simp at e'; rw [← e'.1]; exact hnc))
          rw [← e, hlen] at h9
          exact h9
        unfold lenC
        rw [if_neg, hk, if_neg h0, List.drop_append_of_le_length (by unfold lenK; omega), lineC_mono hne, h2]
        unfold lenBad at hb ⊢
        rw [hk]
        rintro (h | ⟨h, e⟩ | ⟨h, _⟩)
        · omega
        · refine hb (.inr (.inl ⟨h, ?_⟩))
          cases r with
          | nil => simp at hc
          | cons x q => simpa using e
        · omega

end Go.Proofs.Ytlmenolcgaakeaa

namespace Go.Proofs.Ytlmenolcgaakeaa
open Go.RowKit

/-- What stands behind a length and its line's end; what stands behind the part's bytes. -/
def rdA (r : List UInt8) : List UInt8 := r.drop (lenK r + 2)
def rdB (r : List UInt8) : List UInt8 := (rdA r).drop (lenN r)
/-- What is told of a text from a place on; none: not told within so many parts. -/
def rdF : Nat → List UInt8 → List UInt8 → Nat → Option (List UInt8 × Nat × Int)
  | 0, _, _, _ => none
  | f + 1, r, body, pos =>
    if lenC r ≠ 0 then some ([], 0, lenC r)
    else if 120 < body.length + lenN r then some ([], 0, 3)
    else if (rdA r).length < lenN r then some ([], 0, 1)
    else if lineC (rdB r) ≠ 0 then some ([], 0, lineC (rdB r))
    else if lenN r = 0 then some (body, pos + lenK r + 4, 0)
    else rdF f ((rdB r).drop 2) (body ++ (rdA r).take (lenN r)) (pos + lenK r + lenN r + 4)
def Rd (r body : List UInt8) (pos : Nat) (x : List UInt8 × Nat × Int) : Prop := ∃ f, rdF f r body pos = some x
theorem Rd.len {r body : List UInt8} {pos : Nat} (h : lenC r ≠ 0) : Rd r body pos ([], 0, lenC r) := ⟨1, by unfold rdF; rw [if_pos h]⟩
theorem Rd.long {r body : List UInt8} {pos : Nat} (h1 : lenC r = 0) (h2 : 120 < body.length + lenN r) : Rd r body pos ([], 0, 3) := ⟨1, by unfold rdF; rw [if_neg (by simp [h1]), if_pos h2]⟩
theorem Rd.short {r body : List UInt8} {pos : Nat} (h1 : lenC r = 0) (h2 : ¬ 120 < body.length + lenN r) (h3 : (rdA r).length < lenN r) : Rd r body pos ([], 0, 1) := ⟨1, by unfold rdF; rw [if_neg (by simp [h1]), if_neg h2, if_pos h3]⟩
theorem Rd.line {r body : List UInt8} {pos : Nat} (h1 : lenC r = 0) (h2 : ¬ 120 < body.length + lenN r) (h3 : ¬ (rdA r).length < lenN r) (h4 : lineC (rdB r) ≠ 0) : Rd r body pos ([], 0, lineC (rdB r)) := ⟨1, by unfold rdF; rw [if_neg (by simp [h1]), if_neg h2, if_neg h3, if_pos h4]⟩
theorem Rd.part {r body : List UInt8} {pos : Nat} {x : List UInt8 × Nat × Int} (h1 : lenC r = 0) (h2 : ¬ 120 < body.length + lenN r) (h3 : ¬ (rdA r).length < lenN r) (h4 : lineC (rdB r) = 0) (h5 : lenN r ≠ 0) (h : Rd ((rdB r).drop 2) (body ++ (rdA r).take (lenN r)) (pos + lenK r + lenN r + 4) x) : Rd r body pos x := by
  obtain ⟨f, hf⟩ := h
  exact ⟨f + 1, by unfold rdF; rw [if_neg (by simp [h1]), if_neg h2, if_neg h3, if_neg (by simp [h4]), if_neg h5]; exact hf⟩

theorem rdA_len {r : List UInt8} (h : lenC r = 0) : lenK r + 2 ≤ r.length := by
  obtain ⟨_, _, _, t, ht⟩ := lenC_zero h
  have := congrArg List.length ht
  simp at this
  omega
/-- What is told of a text, but that there must be more, is told of it with whatever behind it. -/
theorem rdF_behind (t : List UInt8) : ∀ (f : Nat) (r body : List UInt8) (pos : Nat) (x : List UInt8 × Nat × Int), rdF f r body pos = some x → x.2.2 ≠ 1 → rdF f (r ++ t) body pos = some x := by
  intro f
  induction f with
  | zero => intro r body pos x h; simp [rdF] at h
  | succ f ih =>
    intro r body pos x h hx
    unfold rdF at h ⊢
    by_cases h1 : lenC r ≠ 0
    · rw [if_pos h1] at h
      have e := Option.some.inj h
      subst e
      have hx : lenC r ≠ 1 := hx
      rw [lenC_mono t hx, if_pos h1]
    · have h0 : lenC r = 0 := by simpa using h1
      obtain ⟨k1, k2, k3⟩ := lenK_mono t h0
      have hl := rdA_len h0
      have eA : rdA (r ++ t) = rdA r ++ t := by unfold rdA; rw [k1, List.drop_append_of_le_length hl]
      rw [if_neg h1] at h
      rw [if_neg (by simp [k3]), k1, k2, eA]
      by_cases h2 : 120 < body.length + lenN r
      · rw [if_pos h2] at h ⊢; exact h
      · rw [if_neg h2] at h ⊢
        by_cases h3 : (rdA r).length < lenN r
        · rw [if_pos h3] at h
          have e := Option.some.inj h
          subst e
          exact absurd rfl hx
        · rw [if_neg h3] at h
          have eB : rdB (r ++ t) = rdB r ++ t := by unfold rdB; rw [eA, k2, List.drop_append_of_le_length (by omega)]
          rw [if_neg (by simp; omega), eB]
          by_cases h4 : lineC (rdB r) ≠ 0
          · rw [if_pos h4] at h
            have e := Option.some.inj h
            subst e
            have hx : lineC (rdB r) ≠ 1 := hx
            rw [lineC_mono hx, if_pos h4]
          · have h40 : lineC (rdB r) = 0 := by simpa using h4
            have hne : lineC (rdB r) ≠ 1 := by rw [h40]; simp
            obtain ⟨u, hu⟩ := lineC_zero h40
            rw [if_neg h4] at h
            rw [lineC_mono hne, if_neg h4]
            by_cases h5 : lenN r = 0
            · rw [if_pos h5] at h ⊢; exact h
            · rw [if_neg h5] at h ⊢
              rw [List.drop_append_of_le_length (by rw [hu]; simp), List.take_append_of_le_length (by omega)]
              exact ih _ _ _ _ h hx
theorem Rd.behind {r body : List UInt8} {pos : Nat} {x : List UInt8 × Nat × Int} (h : Rd r body pos x) (hx : x.2.2 ≠ 1) (t : List UInt8) : Rd (r ++ t) body pos x := by
  obtain ⟨f, hf⟩ := h
  exact ⟨f, rdF_behind t f r body pos x hf hx⟩
/-- Of what is not read nothing is told but the code; what is read is not too long, and lies in the text. -/
theorem rdF_bounds : ∀ (f : Nat) (r body : List UInt8) (pos : Nat) (x : List UInt8 × Nat × Int), rdF f r body pos = some x → body.length ≤ 120 →
    (x.2.2 = 0 ∧ x.1.length ≤ 120 ∧ x.2.1 ≤ pos + r.length) ∨ ((x.2.2 = 1 ∨ x.2.2 = 2 ∨ x.2.2 = 3) ∧ x.1 = [] ∧ x.2.1 = 0) := by
  intro f
  induction f with
  | zero => intro r body pos x h; simp [rdF] at h
  | succ f ih =>
    intro r body pos x h hb
    unfold rdF at h
    by_cases h1 : lenC r ≠ 0
    · rw [if_pos h1] at h
      have e := Option.some.inj h
      subst e
      rcases lenC_vals r with h0 | h0 | h0
      · exact absurd h0 h1
      · exact .inr ⟨.inl h0, rfl, rfl⟩
      · exact .inr ⟨.inr (.inl h0), rfl, rfl⟩
    · have h0 : lenC r = 0 := by simpa using h1
      have hl := rdA_len h0
      rw [if_neg h1] at h
      by_cases h2 : 120 < body.length + lenN r
      · rw [if_pos h2] at h
        have e := Option.some.inj h
        subst e
        exact .inr ⟨.inr (.inr rfl), rfl, rfl⟩
      · rw [if_neg h2] at h
        by_cases h3 : (rdA r).length < lenN r
        · rw [if_pos h3] at h
          have e := Option.some.inj h
          subst e
          exact .inr ⟨.inl rfl, rfl, rfl⟩
        · rw [if_neg h3] at h
          have hAl : (rdA r).length + (lenK r + 2) = r.length := by unfold rdA; rw [List.length_drop]; omega
          have hBl : (rdB r).length + lenN r = (rdA r).length := by unfold rdB; rw [List.length_drop]; omega
          by_cases h4 : lineC (rdB r) ≠ 0
          · rw [if_pos h4] at h
            have e := Option.some.inj h
            subst e
            rcases lineC_vals (rdB r) with h0 | h0 | h0
            · exact absurd h0 h4
            · exact .inr ⟨.inl h0, rfl, rfl⟩
            · exact .inr ⟨.inr (.inl h0), rfl, rfl⟩
          · have h40 : lineC (rdB r) = 0 := by simpa using h4
            obtain ⟨u, hu⟩ := lineC_zero h40
            have hul := congrArg List.length hu
            simp at hul
            rw [if_neg h4] at h
            by_cases h5 : lenN r = 0
            · rw [if_pos h5] at h
              have e := Option.some.inj h
              subst e
              exact .inl ⟨rfl, hb, show pos + lenK r + 4 ≤ pos + r.length by omega⟩
            · rw [if_neg h5] at h
              rcases ih _ _ _ _ h (by simp; omega) with ⟨k1, k2, k3⟩ | k
              · refine .inl ⟨k1, k2, ?_⟩
                rw [List.length_drop] at k3
                omega
              · exact .inr k
theorem Rd.bounds {r body : List UInt8} {pos : Nat} {x : List UInt8 × Nat × Int} (h : Rd r body pos x) (hb : body.length ≤ 120) : (x.2.2 = 0 ∧ x.1.length ≤ 120 ∧ x.2.1 ≤ pos + r.length) ∨ ((x.2.2 = 1 ∨ x.2.2 = 2 ∨ x.2.2 = 3) ∧ x.1 = [] ∧ x.2.1 = 0) := by
  obtain ⟨f, hf⟩ := h
  exact rdF_bounds f r body pos x hf hb

/-- A body in parts. -/
def chunkL : List (List UInt8) → List UInt8
  | [] => [48, 13, 10, 13, 10]
  | p :: ps => hexL p.length ++ (13 :: 10 :: (p ++ (13 :: 10 :: chunkL ps)))
theorem part_head (p rest : List UInt8) (h : p.length < 65536) : lenC (hexL p.length ++ (13 :: 10 :: (p ++ rest))) = 0 ∧ lenK (hexL p.length ++ (13 :: 10 :: (p ++ rest))) = (hexL p.length).length ∧ lenN (hexL p.length ++ (13 :: 10 :: (p ++ rest))) = p.length ∧ rdA (hexL p.length ++ (13 :: 10 :: (p ++ rest))) = p ++ rest ∧ rdB (hexL p.length ++ (13 :: 10 :: (p ++ rest))) = rest := by
  obtain ⟨h1, h2, h3⟩ := len_head p.length h (13 :: 10 :: (p ++ rest)) (fun c r e => by simp at e; exact e.1.symm)
  have hA : rdA (hexL p.length ++ (13 :: 10 :: (p ++ rest))) = p ++ rest := by
    unfold rdA
    rw [h1, List.drop_append]
    simp
  refine ⟨by rw [h3]; simp [lineC], h1, h2, hA, ?_⟩
  unfold rdB
  rw [hA, h2, List.drop_left]
theorem end_head (rest : List UInt8) : lenC (48 :: 13 :: 10 :: rest) = 0 ∧ lenK (48 :: 13 :: 10 :: rest) = 1 ∧ lenN (48 :: 13 :: 10 :: rest) = 0 ∧ rdA (48 :: 13 :: 10 :: rest) = rest ∧ rdB (48 :: 13 :: 10 :: rest) = rest := by
  have := part_head [] rest (by simp)
  simpa [hexL] using this
/-- Cut short, a text of parts is not whole. -/
theorem Rd.cut : ∀ (ps : List (List UInt8)) (body : List UInt8) (pos k : Nat), (∀ p ∈ ps, p ≠ []) → body.length + ps.flatten.length ≤ 120 → k < (chunkL ps).length → Rd ((chunkL ps).take k) body pos ([], 0, 1) := by
  intro ps
  induction ps with
  | nil =>
    intro body pos k _ hb hk
    have hk5 : k < 5 := by simpa [chunkL] using hk
    have hb : body.length ≤ 120 := by simpa using hb
    rcases (show k = 0 ∨ k = 1 ∨ k = 2 ∨ k = 3 ∨ k = 4 by omega) with rfl | rfl | rfl | rfl | rfl
    · exact Rd.len (r := []) (by decide)
    · exact Rd.len (r := [48]) (by decide)
    · exact Rd.len (r := [48, 13]) (by decide)
    · obtain ⟨h1, h2, h3, h4, h5⟩ := end_head []
      have := Rd.line (body := body) (pos := pos) h1 (by rw [h3]; simpa using hb) (by rw [h3]; simp) (by rw [h5]; simp [lineC])
      rw [h5] at this
      exact this
    · obtain ⟨h1, h2, h3, h4, h5⟩ := end_head [13]
      have := Rd.line (body := body) (pos := pos) h1 (by rw [h3]; simpa using hb) (by rw [h3]; simp) (by rw [h5]; simp [lineC])
      rw [h5] at this
      exact this
  | cons p ps ih =>
    intro body pos k hp hb hk
    have hpl : 1 ≤ p.length := by
      have := hp p (by simp)
      cases p with
      | nil => exact absurd rfl this
      | cons c r => simp
    simp only [List.flatten_cons, List.length_append] at hb
    obtain ⟨g1, g2, g3, g4, g5⟩ := hex_head p.length (by omega)
    have hlen : (chunkL (p :: ps)).length = (hexL p.length).length + (p.length + (chunkL ps).length + 4) := by simp [chunkL]; omega
    by_cases c1 : k ≤ (hexL p.length).length
    · -- within the length, or at its end
      have e : (chunkL (p :: ps)).take k = (hexL p.length).take k := by
        simp only [chunkL]
        rw [List.take_append_of_le_length c1]
      rw [e]
      have hl : ((hexL p.length).take k).length = k := by rw [List.length_take]; omega
      have hK : lenK ((hexL p.length).take k) = k := by
        have := digN_pre ((hexL p.length).take k) [] 5 (by omega) (fun b hb => g3 b (List.mem_of_mem_take hb)) (.inr (fun c r e => by simp at e))
        rw [List.append_nil, hl] at this
        exact this
      have hC : lenC ((hexL p.length).take k) = 1 := by
        unfold lenC
        rw [if_neg]
        · by_cases k0 : k = 0
          · rw [if_pos (by rw [hK]; exact k0)]
          · rw [if_neg (by rw [hK]; exact k0), hK, List.drop_of_length_le (by omega)]; rfl
        · rintro (h | ⟨h, e⟩ | ⟨h, e⟩)
          · rw [hK] at h; omega
          · rw [hK] at h
            rw [List.head?_take, if_neg (by omega)] at e
            exact g5 (by omega) 48 e rfl
          · rw [hK] at h
            subst h
            simp at e
      have := Rd.len (r := (hexL p.length).take k) (body := body) (pos := pos) (by rw [hC]; simp)
      rw [hC] at this
      exact this
    · obtain ⟨j, rfl⟩ : ∃ j, k = (hexL p.length).length + 1 + j := ⟨k - (hexL p.length).length - 1, by omega⟩
      have e : (chunkL (p :: ps)).take ((hexL p.length).length + 1 + j) = hexL p.length ++ (13 :: (10 :: (p ++ (13 :: 10 :: chunkL ps))).take j) := by
        simp only [chunkL]
        rw [show (hexL p.length).length + 1 + j = (hexL p.length).length + (1 + j) by omega, List.take_length_add_append, Nat.add_comm 1 j, List.take_succ_cons]
      rw [e]
      cases j with
      | zero =>
        obtain ⟨h1, h2, h3⟩ := len_head p.length (by omega) [13] (fun c r e => by simp at e; exact e.1.symm)
        have := Rd.len (r := hexL p.length ++ [13]) (body := body) (pos := pos) (by rw [h3]; simp [lineC])
        rw [h3] at this
        simpa [lineC] using this
      | succ j =>
        rw [List.take_succ_cons]
        by_cases c2 : j < p.length
        · have e2 : (p ++ (13 :: 10 :: chunkL ps)).take j = p.take j := List.take_append_of_le_length (by omega)
          rw [e2]
          obtain ⟨h1, h2, h3⟩ := len_head p.length (by omega) (13 :: 10 :: p.take j) (fun c r e => by simp at e; exact e.1.symm)
          have hC : lenC (hexL p.length ++ (13 :: 10 :: p.take j)) = 0 := by rw [h3]; simp [lineC]
          refine Rd.short hC (by rw [h2]; omega) ?_
          unfold rdA
          rw [h1, h2, List.drop_append]
          simp
          omega
        · obtain ⟨i, rfl⟩ : ∃ i, j = p.length + i := ⟨j - p.length, by omega⟩
          have e2 : (p ++ (13 :: 10 :: chunkL ps)).take (p.length + i) = p ++ (13 :: 10 :: chunkL ps).take i := List.take_length_add_append _
          rw [e2]
          obtain ⟨h1, h2, h3, h4, h5⟩ := part_head p ((13 :: 10 :: chunkL ps).take i) (by omega)
          match i with
          | 0 =>
            have := Rd.line (body := body) (pos := pos) h1 (by rw [h3]; omega) (by rw [h3, h4]; simp) (by rw [h5]; simp [lineC])
            rw [h5] at this
            exact this
          | 1 =>
            have := Rd.line (body := body) (pos := pos) h1 (by rw [h3]; omega) (by rw [h3, h4]; simp) (by rw [h5]; simp [lineC])
            rw [h5] at this
            exact this
          | i + 2 =>
            refine Rd.part h1 (by rw [h3]; omega) (by rw [h3, h4]; simp) (by rw [h5]; simp [lineC]) (by rw [h3]; omega) ?_
            rw [h2, h3, h4, h5, List.take_left]
            have k := ih (body ++ p) (pos + (hexL p.length).length + p.length + 4) i (fun x hx => hp x (by simp [hx])) (by rw [List.length_append]; omega) (by omega)
            simpa using k

end Go.Proofs.Ytlmenolcgaakeaa

namespace Go.Proofs.Ytlmenolcgaakeaa
open Go.RowKit
open Go.Lib hiding intOf

attribute [local go_sem ↓] Go.wp_at_zero Go.wp_at_succ

/-- A list of fields that came in, in blocks below B. -/
structure ArgF (w : World) (B : Nat) (a : Option Addr) (n : Nat) (fs : List (ByteArray × ByteArray)) : Prop where
  len : fs.length = n
  get : ∀ i, i < n → ∃ b off, a = some ⟨b, off, none⟩ ∧ b < B ∧ w.cell? ⟨b, off + i * 2, none⟩ = some (.string (nameAt fs i)) ∧ w.cell? ⟨b, off + i * 2 + 1, none⟩ = some (.string (valAt fs i))
theorem ArgF.below {w w' : World} {B : Nat} {a : Option Addr} {n : Nat} {fs : List (ByteArray × ByteArray)} (h : ArgF w B a n fs) (hb : Below B w w') : ArgF w' B a n fs :=
  ⟨h.len, fun i hi => by
    obtain ⟨b, off, h1, h2, h3, h4⟩ := h.get i hi
    exact ⟨b, off, h1, h2, by rw [hb.cell (p := ⟨b, off + i * 2, none⟩) h2]; exact h3, by rw [hb.cell (p := ⟨b, off + i * 2 + 1, none⟩) h2]; exact h4⟩⟩

/-- How many letters the first k fields hold. -/
def szTo (fs : List (ByteArray × ByteArray)) : Nat → Nat
  | 0 => 0
  | k + 1 => szTo fs k + (nameAt fs k).size + (valAt fs k).size

set_option maxHeartbeats 1000000 in
theorem szField_any (nm vl : ByteArray) (left : Int) (w : World) (h0 : 0 ≤ left) (h1 : left ≤ 1073741824) (hn : nm.size ≤ maxLen) (hv : vl.size ≤ maxLen) :
    Calls Try.prog 52 #[.agg #[.string nm, .string vl], .int .i64 left] w fun e w' => e = .returned (.int .i64 (if left - nm.size < 0 then -1 else if left - nm.size - vl.size < 0 then -1 else left - nm.size - vl.size)) ∧ Below w.heap.size w w' := by
  unfold maxLen at hn hv
  by_cases c1 : left - (nm.size : Int) < 0
  · rw [if_pos c1]
    go_enter Try.func52, Try.ntmps52
    go_wp2
    go_ret
    exact ⟨rfl, (Below.refl _ _).alloc (Nat.le_refl _) _⟩
  · rw [if_neg c1]
    by_cases c2 : left - (nm.size : Int) - (vl.size : Int) < 0
    · rw [if_pos c2]
      go_enter Try.func52, Try.ntmps52
      go_wp2
      go_ret
      exact ⟨rfl, (Below.refl _ _).alloc (Nat.le_refl _) _⟩
    · rw [if_neg c2]
      go_enter Try.func52, Try.ntmps52
      go_wp2
      go_ret
      exact ⟨rfl, (Below.refl _ _).alloc (Nat.le_refl _) _⟩

set_option maxHeartbeats 1000000 in
theorem toField_any (nm vl : ByteArray) (w : World) :
    Calls Try.prog 56 #[.agg #[.string nm, .string vl]] w fun e w' => e = .returned (.agg #[.string nm, .string vl]) ∧ Below w.heap.size w w' := by
  go_enter Try.func56, Try.ntmps56
  go_wp2
  exact bodyPost_ret (v := .agg #[.string nm, .string vl]) (by simp [results, Try.results56, go_sem]) rfl ⟨rfl, (((Below.refl _ _).alloc (Nat.le_refl _) _).alloc (by simp) _).alloc (by simp; omega) _⟩

theorem info33 : (Try.prog.info? 83).map (fun i => (i.zero, i.size, i.bytes)) = some (some (.agg #[.string ⟨#[]⟩, .string ⟨#[]⟩]), 2, 32) := by kernel_rfl

theorem heap_set (w : World) (c o : Nat) (cs : Array Value) (t : TypeId) (fz : Nat × Nat) (v : Value) (h : w.heap[c]? = some (.cells cs t fz)) : (w.setCell ⟨c, o, none⟩ v).heap[c]? = some (.cells (cs.setIfInBounds o v) t fz) := by
  simp [World.setCell, Array.getElem?_modify, h]
/-- The first k fields of a row of 2 n cells are told. -/
def PartRow (w : World) (g n k : Nat) (fs : List (ByteArray × ByteArray)) : Prop :=
  ∃ cur, w.heap[g]? = some (.cells cur 83 (0, 0)) ∧ cur.size = n * 2 ∧ ∀ i, i < k → cur[i * 2]? = some (.string (nameAt fs i)) ∧ cur[i * 2 + 1]? = some (.string (valAt fs i))
theorem PartRow.below {w w' : World} {g n k B : Nat} {fs : List (ByteArray × ByteArray)} (h : PartRow w g n k fs) (hb : Below B w w') (hB : g < B) : PartRow w' g n k fs := by
  obtain ⟨cur, h1, h2⟩ := h
  exact ⟨cur, by rw [hb.block g hB]; exact h1, h2⟩
theorem PartRow.lt {w : World} {g n k : Nat} {fs : List (ByteArray × ByteArray)} (h : PartRow w g n k fs) : g < w.heap.size := by
  obtain ⟨cur, h1, _⟩ := h
  exact (Array.getElem?_eq_some_iff.1 h1).1
theorem PartRow.cell {w : World} {g n k : Nat} {fs : List (ByteArray × ByteArray)} (h : PartRow w g n k fs) (j : Nat) (hj : j < n * 2) : ∃ u, w.cell? ⟨g, j, none⟩ = some u := by
  obtain ⟨cur, h1, h2, _⟩ := h
  refine ⟨cur[j]'(by omega), ?_⟩
  simp only [World.cell?, h1]
  simp [show j < cur.size by omega]
theorem PartRow.frozen {w : World} {g n k : Nat} {fs : List (ByteArray × ByteArray)} (h : PartRow w g n k fs) (j : Nat) : w.frozen? ⟨g, j, none⟩ = false := by
  obtain ⟨cur, h1, _⟩ := h
  simp [World.frozen?, h1]
theorem PartRow.put {w : World} {g n k : Nat} {fs : List (ByteArray × ByteArray)} (h : PartRow w g n k fs) (hk : k < n) : PartRow ((w.setCell ⟨g, k * 2, none⟩ (.string (nameAt fs k))).setCell ⟨g, k * 2 + 1, none⟩ (.string (valAt fs k))) g n (k + 1) fs := by
  obtain ⟨cur, h1, h2, h3⟩ := h
  refine ⟨_, heap_set _ g (k * 2 + 1) _ _ _ _ (heap_set w g (k * 2) _ _ _ _ h1), by simpa using h2, ?_⟩
  intro i hi
  by_cases e : i = k
  · subst e
    refine ⟨?_, ?_⟩
    · rw [Array.getElem?_setIfInBounds_ne (by omega), Array.getElem?_setIfInBounds_self_of_lt (by omega)]
    · rw [Array.getElem?_setIfInBounds_self_of_lt (by simp; omega)]
  · have := h3 i (by omega)
    refine ⟨?_, ?_⟩
    · rw [Array.getElem?_setIfInBounds_ne (by omega), Array.getElem?_setIfInBounds_ne (by omega)]; exact this.1
    · rw [Array.getElem?_setIfInBounds_ne (by omega), Array.getElem?_setIfInBounds_ne (by omega)]; exact this.2
theorem PartRow.owns {w : World} {g n : Nat} {fs : List (ByteArray × ByteArray)} (h : PartRow w g n n fs) (hl : fs.length = n) (hm : n ≤ maxLen) {base : Nat} (hb : base ≤ g) : w.ownsRow base 83 2 (.slice (some ⟨g, 0, none⟩) n n) n (flatF fs) :=
  FieldRow.owns ⟨hl, hb, h.lt, Nat.le_refl _, hm, h⟩

set_option maxHeartbeats 1000000 in
theorem toFieldS_any (B : Nat) (a : Option Addr) (n cap : Nat) (fs : List (ByteArray × ByteArray)) (w : World) (harg : ArgF w B a n fs) (hB : B ≤ w.heap.size) (hn : n ≤ 1048576) :
    Calls Try.prog 44 #[.slice a n cap] w fun e w' => ∃ v, e = .returned v ∧ w'.ownsRow w.heap.size 83 2 v n (flatF fs) ∧ Below w.heap.size w w' := by
  obtain ⟨i0, hi, hz0, hz1, hz2⟩ := info_parts info33
  obtain ⟨M, hM⟩ : ∃ M, M = madeCells (Value.agg #[.string ⟨#[]⟩, .string ⟨#[]⟩]).cells (((n : Nat) : Int).toNat * i0.size) := ⟨_, rfl⟩
  have hmk : ∀ W : World, (Instr.makeSlice 37 (.int .i64 (n : Int)) (.int .i64 (n : Int))).run Try.prog W = .ok (.slice (some ⟨W.heap.size, 0, none⟩) n n) (W.alloc (.cells M 83)) := fun W => by
    have h := run_make (P := Try.prog) W 37 83 i0 (.agg #[.string ⟨#[]⟩, .string ⟨#[]⟩]) Try.underlying37 hi hz0 .i64 .i64 (n : Int) (n : Int) (by omega) (by omega) (by rw [hz2]; omega) (by omega)
    rw [← hM] at h
    simpa using h
  have hMs : M.size = n * 2 := by rw [hM, size_madeCells, hz1]; simp
  have hlen := harg.len
  clear hM
  have HP : Hid (PartRow (w.alloc (.cells M 83)) w.heap.size n 0 fs) := ⟨M, heap_alloc_new w _, hMs, fun i h => absurd h (by omega)⟩
  go_enter Try.func44, Try.ntmps44
  go_wp2
  go_loopw [4] (fun i wr => ∃ k : Nat, k ≤ n ∧ i = .int .i64 (k : Int) ∧ Hid (PartRow wr w.heap.size n k fs) ∧ Below w.heap.size w wr) (fun i _ => n - (intOf i).toNat)
  case atStart => exact ⟨0, Nat.zero_le _, rfl, HP, (Below.refl _ _).alloc (Nat.le_refl _) _⟩
  case round =>
    obtain ⟨k, hk, rfl, hpr, hbw⟩ := hrel
    by_cases hlt : k < n
    · have hlt2 : (k : Int) < (n : Int) := by omega
      obtain ⟨b, off, rfl, hbB, hc1, hc2⟩ := (harg.below (hbw.mono hB)).get k hlt
      obtain ⟨nm, hnm⟩ : ∃ y, y = nameAt fs k := ⟨_, rfl⟩
      obtain ⟨vl, hvl⟩ : ∃ y, y = valAt fs k := ⟨_, rfl⟩
      rw [← hnm] at hc1
      rw [← hvl] at hc2
      have HNM : Hid (nm = nameAt fs k) := hnm
      have HVL : Hid (vl = valAt fs k) := hvl
      clear hnm hvl
      go_wp2_with fail
      refine (toField_any nm vl _).mono ?_
      rintro e w1 ⟨rfl, hb1⟩
      have hpr1 := hpr.out.below hb1 hpr.out.lt
      have hb2 : Below w.heap.size w w1 := hbw.trans (hb1.mono hbw.size)
      obtain ⟨u0, hu0⟩ := hpr1.cell (k * 2) (by omega)
      obtain ⟨u1, hu1⟩ := hpr1.cell (k * 2 + 1) (by omega)
      have f0 := hpr1.frozen (k * 2)
      have f1 := hpr1.frozen (k * 2 + 1)
      have hput := hpr1.put hlt
      rw [← HNM.out, ← HVL.out] at hput
      have HPUT : Hid _ := hput
      clear hput hc1 hc2 hb1
      go_wp2
      go_roundw
      case rel => exact ⟨k + 1, by omega, by go_num, HPUT, (hb2.setCell (Nat.le_refl _) _).setCell (Nat.le_refl _) _⟩
      case measure => simp [intOf]; omega
    · obtain rfl : k = n := by omega
      go_wp2
      go_ret
      exact ⟨_, rfl, hpr.out.owns hlen (by unfold maxLen; omega) (Nat.le_refl _), hbw⟩

set_option maxHeartbeats 1000000 in
theorem eqField_any (nm vl : ByteArray) (w : World) :
    Calls Try.prog 66 #[.agg #[.string nm, .string vl], .agg #[.string nm, .string vl]] w fun e w' => e = .returned (.bool true) ∧ Below w.heap.size w w' := by
  go_enter Try.func66, Try.ntmps66
  go_wp2
  go_ret
  exact ⟨rfl, ((Below.refl _ _).alloc (Nat.le_refl _) _).alloc (by simp) _⟩

set_option maxHeartbeats 2000000 in
theorem eqFieldS_any (v1 v2 : Value) (n b1 b2 : Nat) (fs : List (ByteArray × ByteArray)) (w : World) (h1 : FieldsV w b1 v1 n fs) (h2 : FieldsV w b2 v2 n fs) (hn : n ≤ 2000000) :
    Calls Try.prog 51 #[v1, v2] w fun e w' => e = .returned (.bool true) ∧ Below w.heap.size w w' := by
  rcases h1 with ⟨oa, ca, rfl, _, rfl, rfl⟩ | ⟨g1, c1, rfl, hp, r1⟩
  · rcases h2 with ⟨ob, cb, rfl, _, _, _⟩ | ⟨g2, c2, rfl, hp2, _⟩
    · go_enter Try.func51, Try.ntmps51
      go_wp2
      refine wp_loop_rounds 1 ?_
      rw [rounds_succ]
      go_wp2
      go_ret
      exact ⟨rfl, Below.refl _ _⟩
    · omega
  · rcases h2 with ⟨ob, cb, rfl, _, h0, _⟩ | ⟨g2, c2, rfl, hp2, r2⟩
    · omega
    · go_enter Try.func51, Try.ntmps51
      go_wp2
      go_loopw [5] (fun i wr => ∃ k : Nat, k ≤ n ∧ i = .int .i64 (k : Int) ∧ Below w.heap.size w wr) (fun i _ => n - (intOf i).toNat)
      case atStart => exact ⟨0, Nat.zero_le _, rfl, Below.refl _ _⟩
      case round =>
        obtain ⟨k, hk, rfl, hbw⟩ := hrel
        by_cases hlt : k < n
        · have hlt2 : (k : Int) < (n : Int) := by omega
          obtain ⟨nm, hnm⟩ : ∃ y, y = nameAt fs k := ⟨_, rfl⟩
          obtain ⟨vl, hvl⟩ : ∃ y, y = valAt fs k := ⟨_, rfl⟩
          have ha := (r1.below hbw r1.lt).name k hlt
          have hb := (r1.below hbw r1.lt).val k hlt
          have hc := (r2.below hbw r2.lt).name k hlt
          have hd := (r2.below hbw r2.lt).val k hlt
          rw [← hnm] at ha hc
          rw [← hvl] at hb hd
          have HA : Hid (∀ w0 w1, Below wr.heap.size wr w0 → Below w0.heap.size w0 w1 → (w1.cell? ⟨g1, k * 2, none⟩ = some (.string nm) ∧ w1.cell? ⟨g1, k * 2 + 1, none⟩ = some (.string vl) ∧ w1.cell? ⟨g2, k * 2, none⟩ = some (.string nm) ∧ w1.cell? ⟨g2, k * 2 + 1, none⟩ = some (.string vl)) ∧ Below wr.heap.size wr w1) := fun w0 w1 h h' => by
            have hx := h.trans (h'.mono h.size)
            have hy := hbw.trans (hx.mono hbw.size)
            have a1 := (r1.below hy r1.lt).name k hlt
            have a2 := (r1.below hy r1.lt).val k hlt
            have a3 := (r2.below hy r2.lt).name k hlt
            have a4 := (r2.below hy r2.lt).val k hlt
            rw [← hnm] at a1 a3
            rw [← hvl] at a2 a4
            exact ⟨⟨a1, a2, a3, a4⟩, hx⟩
          clear hnm hvl
          go_wp2
          go_region_held3 (fun w' => w'.cell? ⟨g1, k * 2, none⟩ = some (.string nm) ∧ w'.cell? ⟨g1, k * 2 + 1, none⟩ = some (.string vl) ∧ w'.cell? ⟨g2, k * 2, none⟩ = some (.string nm) ∧ w'.cell? ⟨g2, k * 2 + 1, none⟩ = some (.string vl)) (first | assumption | go_keep) (first | (go_at_call 66; refine (eqField_any _ _ _).mono ?_; rintro e w1 ⟨rfl, hb1⟩; obtain ⟨hcc, hbx⟩ := HA.out _ w1 ((Below.refl _ wr).drew) hb1))
          go_wp2
          go_roundw
          case rel => exact ⟨k + 1, by omega, by go_num, hbw.trans (hbx.mono hbw.size)⟩
          case measure => simp [intOf]; omega
        · go_wp2
          go_ret
          exact ⟨rfl, hbw⟩

theorem nameAt_set (fs : List (ByteArray × ByteArray)) (k j : Nat) (p : ByteArray × ByteArray) (hk : k < fs.length) : nameAt (fs.set k p) j = (if j = k then p.1 else nameAt fs j) ∧ valAt (fs.set k p) j = (if j = k then p.2 else valAt fs j) := by
  unfold nameAt valAt
  rw [List.getD_eq_getElem?_getD, List.getD_eq_getElem?_getD]
  by_cases e : j = k
  · subst e
    rw [if_pos rfl, if_pos rfl, List.getElem?_set_self (by omega)]
    exact ⟨rfl, rfl⟩
  · rw [if_neg e, if_neg e, List.getElem?_set_ne (by omega)]
    exact ⟨rfl, rfl⟩
/-- One field of a row stored anew. -/
theorem FieldRow.set {base : Nat} {w : World} {g n cap : Nat} {fs : List (ByteArray × ByteArray)} (h : FieldRow base w g n cap fs) (k : Nat) (hk : k < n) (a b : ByteArray) (W : World) (hW : W.heap[g]? = ((w.setCell ⟨g, k * 2, none⟩ (.string a)).setCell ⟨g, k * 2 + 1, none⟩ (.string b)).heap[g]?) (hsz : w.heap.size ≤ W.heap.size) : FieldRow base W g n cap (fs.set k (a, b)) := by
  have hl := h.len; have hle := h.le
  obtain ⟨cur, h1, h2, h3⟩ := h.heap
  have hlt := h.lt
  refine ⟨by simp [hl], h.base, by omega, h.le, h.mx, (cur.setIfInBounds (k * 2) (.string a)).setIfInBounds (k * 2 + 1) (.string b), ?_, by simpa using h2, ?_⟩
  · rw [hW]; exact heap_set _ g (k * 2 + 1) _ _ _ _ (heap_set w g (k * 2) _ _ _ _ h1)
  · intro i hi
    have hs := nameAt_set fs k i (a, b) (by omega)
    rw [hs.1, hs.2]
    by_cases e : i = k
    · subst e
      rw [if_pos rfl, if_pos rfl]
      refine ⟨?_, ?_⟩
      · rw [Array.getElem?_setIfInBounds_ne (by omega), Array.getElem?_setIfInBounds_self_of_lt (by omega)]
      · rw [Array.getElem?_setIfInBounds_self_of_lt (by simp; omega)]
    · rw [if_neg e, if_neg e]
      have := h3 i hi
      refine ⟨?_, ?_⟩
      · rw [Array.getElem?_setIfInBounds_ne (by omega), Array.getElem?_setIfInBounds_ne (by omega)]; exact this.1
      · rw [Array.getElem?_setIfInBounds_ne (by omega), Array.getElem?_setIfInBounds_ne (by omega)]; exact this.2

end Go.Proofs.Ytlmenolcgaakeaa

namespace Go.Proofs.Ytlmenolcgaakeaa
open Go.RowKit
open Go.Lib hiding intOf

set_option maxHeartbeats 1000000 in
theorem l3Path_any (s : ByteArray) (w : World) (hs : s.size ≤ maxLen) :
    Calls Try.prog 21 #[.string s] w fun e w' => BoolIs (PathOk s) w e w' := by
  unfold maxLen at hs
  go_enter Try.func21, Try.ntmps21
  go_wp2
  go_loop [3] (fun i => ∃ k : Nat, k ≤ s.size ∧ i = .int .i64 k ∧ Hid (AllTo PathB s k)) (fun i => s.size - (intOf i).toNat)
  case atStart => exact ⟨0, Nat.zero_le _, rfl, allTo_zero _ _⟩
  case round =>
    obtain ⟨k, hk, rfl, hall⟩ := hrel
    by_cases hlt : k < s.size
    · go_wp2
      all_goals first
        | (go_ret
           have hno : ¬ PathB ((s[k]'hlt).toNat : Int) := by
             unfold PathB
             omega
           exact BoolIs.no (fun h => hno (h.1 k hlt)) (Below.refl _ _))
        | (go_round
           case rel =>
             have hy : PathB ((s[k]'hlt).toNat : Int) := by
               unfold PathB
               omega
             exact ⟨k + 1, by omega, by go_num, allTo_succ hall.out hlt hy⟩
           case measure => simp [intOf]; omega)
    · have hend : Hid (AllB PathB s) := allTo_end hall.out hlt
      by_cases h1 : (1 : Int) ≤ (s.size : Int)
      · have h0 : 0 < s.size := by omega
        by_cases h2 : (s.size : Int) ≤ 60
        · by_cases h3 : ((s[0]'h0).toNat : Int) = 47
          · go_wp2
            go_ret
            exact BoolIs.yes ⟨hend.out, by omega, by omega, h0, by omega⟩ (Below.refl _ _)
          · have h4 : (((s[0]'h0).toNat : Int) == 47) = false := by rw [beq_eq_false_iff_ne]; exact h3
            go_wp2
            go_ret
            exact BoolIs.no (fun h => by obtain ⟨_, _, _, _, h5⟩ := h; omega) (Below.refl _ _)
        · go_wp2
          go_ret
          exact BoolIs.no (fun h => by obtain ⟨_, _, h5, _⟩ := h; omega) (Below.refl _ _)
      · go_wp2
        go_ret
        exact BoolIs.no (fun h => by obtain ⟨_, h5, _⟩ := h; omega) (Below.refl _ _)

/-- Texts short enough for any walk. -/
def WalkF (n : Nat) (fs : List (ByteArray × ByteArray)) : Prop := ∀ i, i < n → (nameAt fs i).size ≤ maxLen ∧ (valAt fs i).size ≤ maxLen

/-- A block that was laid last stands behind every call that keeps what was there. -/
theorem kept_new {w W : World} {o : Obj} (h : Below (w.alloc o).heap.size (w.alloc o) W) : W.heap[w.heap.size]? = some o := by
  rw [h.block _ (by simp)]; exact heap_alloc_new w _
theorem below_new {w W : World} {o : Obj} (h : Below (w.alloc o).heap.size (w.alloc o) W) : Below w.heap.size w W :=
  ((Below.refl _ w).alloc (Nat.le_refl _) o).trans (h.mono (by simp))
set_option maxHeartbeats 400000 in
theorem l1In_any (x lo hi : Int) (w : World) :
    Calls Try.prog 20 #[.int .i64 x, .int .i64 lo, .int .i64 hi] w fun e w' => e = .returned (.bool (decide (lo ≤ x ∧ x ≤ hi))) ∧ w' = w := by
  by_cases h1 : lo ≤ x
  · by_cases h2 : x ≤ hi
    · go_enter Try.func20, Try.ntmps20
      go_wp2
      go_ret
      exact ⟨by simp [h1, h2], rfl⟩
    · go_enter Try.func20, Try.ntmps20
      go_wp2
      go_ret
      exact ⟨by simp [h2], rfl⟩
  · go_enter Try.func20, Try.ntmps20
    go_wp2
    go_ret
    exact ⟨by simp; omega, rfl⟩

set_option maxHeartbeats 1000000 in
theorem specRespOk_any (st : Int) (v : Value) (b : ByteArray) (n base : Nat) (fs : List (ByteArray × ByteArray)) (w : World) (hv : FieldsV w base v n fs) (hn : n ≤ 1073741824) (hsz : WalkF n fs) (hb : b.size ≤ maxLen) :
    Calls Try.prog 39 #[.agg #[.int .i64 st, v, .string b]] w fun e w' => BoolIs (RespP st fs b) w e w' := by
  obtain ⟨oa, cap, rfl, _⟩ := hv.slice
  obtain ⟨r, hr⟩ : ∃ r, r = w.heap.size := ⟨_, rfl⟩
  have HR : Hid (∀ W, Below (w.alloc (.cells #[.int .i64 st, .slice oa n cap, .string b] 39)).heap.size (w.alloc (.cells #[.int .i64 st, .slice oa n cap, .string b] 39)) W → (W.cell? ⟨r, 1, none⟩ = some (.slice oa n cap) ∧ W.cell? ⟨r, 2, none⟩ = some (.string b)) ∧ FieldsV W base (.slice oa n cap) n fs ∧ Below w.heap.size w W) := fun W h => by
    have hh := kept_new h
    rw [← hr] at hh
    exact ⟨⟨by simp [World.cell?, hh], by simp [World.cell?, hh]⟩, hv.below (below_new h), below_new h⟩
  have HSZ : Hid (WalkF n fs) := hsz
  unfold maxLen at hb
  clear hv hsz
  go_enter Try.func39, Try.ntmps39
  go_wp2_with fail
  refine (l1In_any st 100 599 _).mono ?_
  rintro e w1 ⟨rfl, hw1⟩
  have hb1 : Below (w.alloc (.cells #[.int .i64 st, .slice oa n cap, .string b] 39)).heap.size (w.alloc (.cells #[.int .i64 st, .slice oa n cap, .string b] 39)) w1 := by rw [hw1]; exact Below.refl _ _
  clear hw1
  rw [← hr]
  obtain ⟨⟨c2, c3⟩, hv1, hbw1⟩ := HR.out w1 hb1
  have HV1 : Hid (FieldsV w1 base (.slice oa n cap) n fs) := hv1
  clear hv1
  by_cases hm : 100 ≤ st ∧ st ≤ 599
  · have e1 : decide (100 ≤ st ∧ st ≤ 599) = true := by simpa using hm
    have HM : Hid (100 ≤ st ∧ st ≤ 599) := hm
    rw [e1]
    clear hr hm e1
    go_wp2_with fail
    refine (specFieldsOk_any _ n base fs _ HV1.out hn HSZ.out).mono ?_
    rintro e w3 ⟨b2, rfl, kb2, bb3⟩
    have hb3 := hb1.trans (bb3.mono hb1.size)
    clear c2 c3 bb3 hb1 hbw1
    obtain ⟨⟨c2, c3⟩, _, hbw3⟩ := HR.out w3 hb3
    cases b2
    · have HF : Hid (¬ RespP st fs b) := fun h => by have := kb2.2 h.2.1; cases this
      clear kb2
      go_wp2_with fail
      go_ret
      exact BoolIs.no HF.out hbw3
    · have HT2 : Hid (FldsOk fs) := kb2.1 rfl
      clear kb2
      by_cases h120 : (b.size : Int) ≤ 120
      · have HY : Hid (RespP st fs b) := ⟨HM.out, HT2.out, by omega⟩
        go_wp2_with fail
        go_ret
        exact BoolIs.yes HY.out hbw3
      · have HF : Hid (¬ RespP st fs b) := fun h => by have := h.2.2; omega
        have hd : decide ((b.size : Int) ≤ 120) = false := by simpa using h120
        go_wp2_with fail
        go_ret
        exact BoolIs.no HF.out hbw3
  · have e1 : decide (100 ≤ st ∧ st ≤ 599) = false := by simpa using hm
    have HF : Hid (¬ RespP st fs b) := fun h => hm h.1
    rw [e1]
    clear hr hm e1
    go_wp2_with fail
    go_ret
    exact BoolIs.no HF.out hbw1

end Go.Proofs.Ytlmenolcgaakeaa

namespace Go.Proofs.Ytlmenolcgaakeaa
open Go.RowKit
open Go.Lib hiding intOf

/-- A list of ints that a function reads. -/
def IntsV (w : World) (oa : Option Addr) (n : Nat) (zs : List Int) : Prop := zs.length = n ∧ ∀ i, i < n → ∃ g, oa = some ⟨g, 0, none⟩ ∧ g < w.heap.size ∧ w.cell? ⟨g, i, none⟩ = some (.int .i64 (zs.getD i 0))
theorem IntsV.below {w w' : World} {oa : Option Addr} {n : Nat} {zs : List Int} (h : IntsV w oa n zs) (hb : Below w.heap.size w w') : IntsV w' oa n zs :=
  ⟨h.1, fun i hi => by
    obtain ⟨g, e, hg, hc⟩ := h.2 i hi
    exact ⟨g, e, Nat.lt_of_lt_of_le hg hb.size, by rw [hb.cell (p := ⟨g, i, none⟩) hg]; exact hc⟩⟩

end Go.Proofs.Ytlmenolcgaakeaa
