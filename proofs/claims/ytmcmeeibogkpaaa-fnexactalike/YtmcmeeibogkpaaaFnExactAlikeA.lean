/- What the proof of FnExactAlike leans on: contracts of the program's and the specification's functions, and plain facts (part 1 of 2). -/
import Derived.Test.YtmcmeeibogkpaaaProg
import Derived.Test.YtmcmeeibogkpaaaRows
import Derived.Below
import Derived.BigQuiet
import Derived.ChangeOld
import Derived.Deep.CutRange
import Derived.Deep.DeepCutAuto
import Derived.Deep.DrawnRows
import Derived.Deep.QuietTactic
import Derived.Deep.RegionHeld3
import Derived.Deep.RegionLaw
import Derived.Deep.RegionWith
import Derived.Deep.SlicePairs
import Derived.Laws.AppendOwnNone
import Derived.Laws.BytesArg
import Derived.Laws.EntriesVeiled
import Derived.Laws.MakeOwn
import Derived.Laws.RangeAny
import Derived.Lib.AppendIntMem
import Derived.Lib.BufferOwn
import Derived.Lib.ConvBytes
import Derived.Lib.LaidTab
import Derived.Lib.SliceRun
import Derived.Lib.Strings
import Derived.Lib.Walk
import Derived.LoopIn
import Derived.LoopNIn
import Derived.OpenShut
import Derived.OwnWalkIn
import Derived.ProofKit
import Derived.RangeFuncBound
import Derived.RangeFuncBox
import Derived.RangeFuncCalls
import Derived.RangeFuncLeaves
import Derived.RangeFuncNested
import Derived.Shelf.Abstract
import Derived.Shelf.LaysM
import Derived.Shelf.RegionOpen
import Derived.Shelf.Small.Wraps
import Derived.Shelf.Strconv.Clone
import Derived.Shelf.Strings.Prefix
import Derived.ShutString
import Derived.SliceStrings
import Derived.TacticsInMore
import Derived.WalkKit
import Derived.WalkLawsBesides
import Derived.WalkSpells
namespace Go.Proofs.Ytmcmeeibogkpaaa
open Go.RowKit

/-- The kind of a rune, in the order of the tests. -/
def cls (r : Int) : Int :=
  if 65 ≤ r ∧ r ≤ 90 then 0 else if 97 ≤ r ∧ r ≤ 122 then 1 else if 48 ≤ r ∧ r ≤ 57 then 2 else if r = 45 then 3 else if r = 32 then 4 else if r = 44 then 5 else if 32 ≤ r ∧ r ≤ 126 then 6 else 7

def testsV : Value := .agg #[.func (.func 65) #[] #[], .func (.func 66) #[] #[], .func (.func 67) #[] #[], .func (.func 68) #[] #[], .func (.func 69) #[] #[], .func (.func 70) #[] #[], .func (.func 71) #[] #[]]

theorem cls_spec (r : Int) : (cls r = 0 ∧ 65 ≤ r ∧ r ≤ 90) ∨ (cls r = 1 ∧ 97 ≤ r ∧ r ≤ 122) ∨ (cls r = 2 ∧ 48 ≤ r ∧ r ≤ 57) ∨ (cls r = 3 ∧ r = 45) ∨ (cls r = 4 ∧ r = 32) ∨ (cls r = 5 ∧ r = 44) ∨ (cls r = 6 ∧ 32 ≤ r ∧ r ≤ 126 ∧ (r < 65 ∨ 90 < r) ∧ (r < 97 ∨ 122 < r) ∧ (r < 48 ∨ 57 < r) ∧ r ≠ 45 ∧ r ≠ 32 ∧ r ≠ 44) ∨ (cls r = 7 ∧ (r < 32 ∨ 126 < r)) := by
  unfold cls
  repeat' split
  all_goals omega

theorem ret_int {k : IntKind} {a b : Int} (h : a = b) : Ending.returned (.int k a) = .returned (.int k b) := by rw [h]

set_option maxHeartbeats 400000 in
theorem byteTests_any (w : World) :
    Calls Try.prog 61 #[] w fun e w' => e = .returned testsV ∧ Below w.heap.size w w' := by
  go_enter Try.func61, Try.ntmps61
  go_wp2
  exact bodyPost_ret (v := testsV) (by simp [results, Try.results61, go_sem, testsV]) rfl ⟨rfl, (Below.refl _ _).alloc (Nat.le_refl _) _⟩

set_option maxHeartbeats 1000000 in
theorem classOf_any (r : Int) (w : World) :
    Calls Try.prog 52 #[.int .i32 r] w fun e w' => e = .returned (.int .i64 (cls r)) ∧ Below w.heap.size w w' := by
  have i0 : ∀ w : World, (Instr.index 77 testsV (.int .i64 0)).run Try.prog w = .ok (.func (.func 65) #[] #[]) w := fun _ => by kernel_rfl
  have i1 : ∀ w : World, (Instr.index 77 testsV (.int .i64 1)).run Try.prog w = .ok (.func (.func 66) #[] #[]) w := fun _ => by kernel_rfl
  have i2 : ∀ w : World, (Instr.index 77 testsV (.int .i64 2)).run Try.prog w = .ok (.func (.func 67) #[] #[]) w := fun _ => by kernel_rfl
  have i3 : ∀ w : World, (Instr.index 77 testsV (.int .i64 3)).run Try.prog w = .ok (.func (.func 68) #[] #[]) w := fun _ => by kernel_rfl
  have i4 : ∀ w : World, (Instr.index 77 testsV (.int .i64 4)).run Try.prog w = .ok (.func (.func 69) #[] #[]) w := fun _ => by kernel_rfl
  have i5 : ∀ w : World, (Instr.index 77 testsV (.int .i64 5)).run Try.prog w = .ok (.func (.func 70) #[] #[]) w := fun _ => by kernel_rfl
  have i6 : ∀ w : World, (Instr.index 77 testsV (.int .i64 6)).run Try.prog w = .ok (.func (.func 71) #[] #[]) w := fun _ => by kernel_rfl
  go_enter Try.func52, Try.ntmps52
  go_wp2_with (go_at_call 61; refine (byteTests_any _).mono ?_; rintro e w1 ⟨rfl, hb⟩)
  go_loop [6] (fun i => ∃ k : Nat, k ≤ 7 ∧ (k : Int) ≤ cls r ∧ i = .int .i64 k) (fun i => 7 - (intOf i).toNat)
  case atStart => exact ⟨0, by omega, by have := cls_spec r; omega, rfl⟩
  case round =>
    obtain ⟨k, hk, hc, rfl⟩ := hrel
    have hk5 : k = 0 ∨ k = 1 ∨ k = 2 ∨ k = 3 ∨ k = 4 ∨ k = 5 ∨ k = 6 ∨ k = 7 := by omega
    rcases hk5 with rfl | rfl | rfl | rfl | rfl | rfl | rfl | rfl
    all_goals have HS : Hid _ := cls_spec r
    · go_wp2
      · go_ret
        exact ⟨ret_int (by have := HS.out; omega), hb⟩
      · go_round
        case rel => exact ⟨1, by omega, by have := HS.out; omega, rfl⟩
        case measure => simp [intOf]
      · go_round
        case rel => exact ⟨1, by omega, by have := HS.out; omega, rfl⟩
        case measure => simp [intOf]
    · go_wp2
      · go_ret
        exact ⟨ret_int (by have := HS.out; omega), hb⟩
      · go_round
        case rel => exact ⟨2, by omega, by have := HS.out; omega, rfl⟩
        case measure => simp [intOf]
      · go_round
        case rel => exact ⟨2, by omega, by have := HS.out; omega, rfl⟩
        case measure => simp [intOf]
    · go_wp2
      · go_ret
        exact ⟨ret_int (by have := HS.out; omega), hb⟩
      · go_round
        case rel => exact ⟨3, by omega, by have := HS.out; omega, rfl⟩
        case measure => simp [intOf]
      · go_round
        case rel => exact ⟨3, by omega, by have := HS.out; omega, rfl⟩
        case measure => simp [intOf]
    · by_cases hv : r = 45
      · have ht : (r == 45) = true := beq_iff_eq.2 hv
        have HV : Hid (r = 45) := hv
        clear hv
        go_wp2
        go_ret
        exact ⟨ret_int (by have := HS.out; have := HV.out; omega), hb⟩
      · have ht : (r == 45) = false := beq_eq_false_iff_ne.2 hv
        go_wp2
        go_round
        case rel => exact ⟨4, by omega, by have := HS.out; omega, rfl⟩
        case measure => simp [intOf]
    · by_cases hv : r = 32
      · have ht : (r == 32) = true := beq_iff_eq.2 hv
        have HV : Hid (r = 32) := hv
        clear hv
        go_wp2
        go_ret
        exact ⟨ret_int (by have := HS.out; have := HV.out; omega), hb⟩
      · have ht : (r == 32) = false := beq_eq_false_iff_ne.2 hv
        go_wp2
        go_round
        case rel => exact ⟨5, by omega, by have := HS.out; omega, rfl⟩
        case measure => simp [intOf]
    · by_cases hv : r = 44
      · have ht : (r == 44) = true := beq_iff_eq.2 hv
        have HV : Hid (r = 44) := hv
        clear hv
        go_wp2
        go_ret
        exact ⟨ret_int (by have := HS.out; have := HV.out; omega), hb⟩
      · have ht : (r == 44) = false := beq_eq_false_iff_ne.2 hv
        go_wp2
        go_round
        case rel => exact ⟨6, by omega, by have := HS.out; omega, rfl⟩
        case measure => simp [intOf]
    · go_wp2
      · go_ret
        exact ⟨ret_int (by have := HS.out; omega), hb⟩
      · go_round
        case rel => exact ⟨7, by omega, by have := HS.out; omega, rfl⟩
        case measure => simp [intOf]
      · go_round
        case rel => exact ⟨7, by omega, by have := HS.out; omega, rfl⟩
        case measure => simp [intOf]
    · go_wp2
      go_ret
      exact ⟨ret_int (by have := HS.out; omega), hb⟩
end Go.Proofs.Ytmcmeeibogkpaaa

namespace Go.Proofs.Ytmcmeeibogkpaaa
open Go.RowKit
open Go.Lib hiding intOf

/-- The bytes of a token. -/
def TokB (n : Int) : Prop := (97 ≤ n ∧ n ≤ 122) ∨ (48 ≤ n ∧ n ≤ 57) ∨ n = 45
def ValB (n : Int) : Prop := 32 ≤ n ∧ n ≤ 126
theorem tok_cls (n : Int) : TokB n ↔ cls n = 1 ∨ cls n = 2 ∨ cls n = 3 := by
  have := cls_spec n; unfold TokB; omega
theorem val_cls (n : Int) : ValB n ↔ cls n ≠ 7 := by
  have := cls_spec n; unfold ValB; omega
theorem tok_small {n : Int} (h : TokB n) : n < 128 := by unfold TokB at h; omega
theorem val_small {n : Int} (h : ValB n) : n < 128 := by unfold ValB at h; omega

/-- A call answers a bool that says whether p, and turns nothing that was there. -/
def BoolIs (p : Prop) (w : World) (e : Ending) (w' : World) : Prop := ∃ b : Bool, e = .returned (.bool b) ∧ (b = true ↔ p) ∧ Below w.heap.size w w'
theorem BoolIs.yes {p : Prop} {w w' : World} (hp : p) (hb : Below w.heap.size w w') : BoolIs p w (.returned (.bool true)) w' := ⟨true, rfl, by simpa using hp, hb⟩
theorem BoolIs.no {p : Prop} {w w' : World} (hp : ¬ p) (hb : Below w.heap.size w w') : BoolIs p w (.returned (.bool false)) w' := ⟨false, rfl, by simpa using hp, hb⟩

/-- Every byte of the text is such a one. -/
def AllB (p : Int → Prop) (s : ByteArray) : Prop := ∀ j (h : j < s.size), p ((s[j]'h).toNat : Int)
/-- Every byte ahead of 'pos' is such a one. -/
def AllTo (p : Int → Prop) (s : ByteArray) (pos : Nat) : Prop := ∀ j (h : j < s.size), j < pos → p ((s[j]'h).toNat : Int)
theorem allTo_zero (p : Int → Prop) (s : ByteArray) : AllTo p s 0 := fun _ _ h => absurd h (by omega)
theorem allTo_end {p : Int → Prop} {s : ByteArray} {pos : Nat} (h : AllTo p s pos) (hp : ¬ pos < s.size) : AllB p s := fun j hj => h j hj (by omega)
theorem allTo_succ {p : Int → Prop} {s : ByteArray} {pos : Nat} (h : AllTo p s pos) (hp : pos < s.size) (hv : p ((s[pos]'hp).toNat : Int)) : AllTo p s (pos + 1) := by
  intro j hj hlt
  by_cases e : j = pos
  · subst e; exact hv
  · exact h j hj (by omega)
/-- A rune that is such a one is a byte of its own. -/
theorem rune_ok {p : Int → Prop} (hs : ∀ n, p n → n < 128) (s : ByteArray) (pos : Nat) (hp : pos < s.size) (h : p ((Utf8.decode s pos).1 : Int)) :
    p ((s[pos]'hp).toNat : Int) ∧ (Utf8.decode s pos).2 = 1 := by
  by_cases ha : (s[pos]'hp).toNat < 128
  · rw [decode_ascii s pos hp ha] at h ⊢
    exact ⟨h, rfl⟩
  · have := (decode_high s pos hp (by omega)).1
    have := hs _ h
    omega
theorem rune_no {p : Int → Prop} (hs : ∀ n, p n → n < 128) (s : ByteArray) (pos : Nat) (hp : pos < s.size) (h : ¬ p ((Utf8.decode s pos).1 : Int)) : ¬ AllB p s := by
  intro ha
  have h1 := ha pos hp
  have h2 := hs _ h1
  rw [decode_ascii s pos hp (by omega)] at h
  exact h h1

/-- Behind a call that only makes memory the iterator stands where it was set. -/
theorem iter_step {w wr w1 : World} {s : ByteArray} {pos p1 : Nat} (hh : wr.heap[w.heap.size]? = some (.stringIter s pos)) (hbw : Below w.heap.size w wr)
    (hb1 : Below (wr.iterAt w.heap.size s p1).heap.size (wr.iterAt w.heap.size s p1) w1) : w1.heap[w.heap.size]? = some (.stringIter s p1) ∧ Below w.heap.size w w1 := by
  have hlt : w.heap.size < wr.heap.size := (Array.getElem?_eq_some_iff.1 hh).1
  refine ⟨?_, ?_⟩
  · rw [hb1.block _ (by rw [iterAt_size]; exact hlt)]
    exact iterAt_heap _ _ _ _ _ hh
  · exact (below_iterAt hbw (Nat.le_refl _) s p1).trans (hb1.mono (by rw [iterAt_size]; omega))

set_option maxHeartbeats 400000 in
theorem isTokenRune_any (r : Int) (w : World) :
    Calls Try.prog 75 #[.int .i32 r] w fun e w' => BoolIs (TokB r) w e w' := by
  rw [tok_cls]
  go_enter Try.func75, Try.ntmps75
  go_wp2_with (go_at_call 52; refine (classOf_any _ _).mono ?_; rintro e w1 ⟨rfl, hb⟩)
  all_goals
    go_ret
    exact ⟨_, rfl, by simp_all, hb⟩

set_option maxHeartbeats 400000 in
theorem isValueRune_any (r : Int) (w : World) :
    Calls Try.prog 76 #[.int .i32 r] w fun e w' => BoolIs (ValB r) w e w' := by
  rw [val_cls]
  go_enter Try.func76, Try.ntmps76
  go_wp2_with (go_at_call 52; refine (classOf_any _ _).mono ?_; rintro e w1 ⟨rfl, hb⟩)
  go_ret
  exact ⟨_, rfl, by simp, hb⟩

set_option maxHeartbeats 1000000 in
theorem allRunes_tok (s : ByteArray) (w : World) :
    Calls Try.prog 58 #[.string s, .func (.func 75) #[] #[]] w fun e w' => BoolIs (AllB TokB s) w e w' := by
  go_enter Try.func58, Try.ntmps58
  go_wp2
  go_loopw [6] (fun _ wr => ∃ pos : Nat, wr.heap[w.heap.size]? = some (.stringIter s pos) ∧ Below w.heap.size w wr ∧ Hid (AllTo TokB s pos)) (fun _ wr => s.size - wr.iterPos w.heap.size)
  case atStart => exact ⟨0, World.iter_heap _ _ _, (Below.refl _ _).alloc (Nat.le_refl _) _, allTo_zero _ _⟩
  case round =>
    obtain ⟨pos, hh, hbw, hall⟩ := hrel
    by_cases hp : pos < s.size
    · have hnx := fun ty => run_next_any_at (P := Try.prog) wr w.heap.size s pos ty hh hp
      go_wp2_with (go_at_call 75; refine (isTokenRune_any _ _).mono ?_; rintro e w1 ⟨b, rfl, hbt, hb1⟩)
      · have hbf : b = false := by simpa using ‹(!b) = true›
        have hno : ¬ TokB ((Utf8.decode s pos).1 : Int) := fun h => by rw [hbt.2 h] at hbf; cases hbf
        go_ret
        exact BoolIs.no (rune_no (fun _ => tok_small) s pos hp hno) (iter_step hh hbw hb1).2
      · have hbf : b = true := by simpa using ‹(!b) = false›
        obtain ⟨hv, hone⟩ := rune_ok (fun _ => tok_small) s pos hp (hbt.1 hbf)
        rw [hone] at hb1
        obtain ⟨h1, h2⟩ := iter_step hh hbw hb1
        exact ⟨⟨pos + 1, h1, h2, allTo_succ hall.out hp hv⟩, by rw [iterPos_of h1, iterPos_of hh]; omega⟩
    · have hnx := fun ty => run_next_end_at (P := Try.prog) wr w.heap.size s pos ty hh hp
      go_wp2
      go_ret
      exact BoolIs.yes (allTo_end hall.out hp) hbw

set_option maxHeartbeats 1000000 in
theorem allRunes_val (s : ByteArray) (w : World) :
    Calls Try.prog 58 #[.string s, .func (.func 76) #[] #[]] w fun e w' => BoolIs (AllB ValB s) w e w' := by
  go_enter Try.func58, Try.ntmps58
  go_wp2
  go_loopw [6] (fun _ wr => ∃ pos : Nat, wr.heap[w.heap.size]? = some (.stringIter s pos) ∧ Below w.heap.size w wr ∧ Hid (AllTo ValB s pos)) (fun _ wr => s.size - wr.iterPos w.heap.size)
  case atStart => exact ⟨0, World.iter_heap _ _ _, (Below.refl _ _).alloc (Nat.le_refl _) _, allTo_zero _ _⟩
  case round =>
    obtain ⟨pos, hh, hbw, hall⟩ := hrel
    by_cases hp : pos < s.size
    · have hnx := fun ty => run_next_any_at (P := Try.prog) wr w.heap.size s pos ty hh hp
      go_wp2_with (go_at_call 76; refine (isValueRune_any _ _).mono ?_; rintro e w1 ⟨b, rfl, hbt, hb1⟩)
      · have hbf : b = false := by simpa using ‹(!b) = true›
        have hno : ¬ ValB ((Utf8.decode s pos).1 : Int) := fun h => by rw [hbt.2 h] at hbf; cases hbf
        go_ret
        exact BoolIs.no (rune_no (fun _ => val_small) s pos hp hno) (iter_step hh hbw hb1).2
      · have hbf : b = true := by simpa using ‹(!b) = false›
        obtain ⟨hv, hone⟩ := rune_ok (fun _ => val_small) s pos hp (hbt.1 hbf)
        rw [hone] at hb1
        obtain ⟨h1, h2⟩ := iter_step hh hbw hb1
        exact ⟨⟨pos + 1, h1, h2, allTo_succ hall.out hp hv⟩, by rw [iterPos_of h1, iterPos_of hh]; omega⟩
    · have hnx := fun ty => run_next_end_at (P := Try.prog) wr w.heap.size s pos ty hh hp
      go_wp2
      go_ret
      exact BoolIs.yes (allTo_end hall.out hp) hbw

/-- What the chapter asks of a token. -/
def TokOk (s : ByteArray) : Prop := 1 ≤ s.size ∧ s.size ≤ 20 ∧ AllB TokB s

set_option maxHeartbeats 400000 in
theorem implTokenOk_any (s : ByteArray) (w : World) (hs : s.size ≤ maxLen) :
    Calls Try.prog 73 #[.string s] w fun e w' => BoolIs (TokOk s) w e w' := by
  unfold maxLen at hs
  by_cases h1 : (1 : Int) ≤ (s.size : Int)
  · by_cases h2 : (s.size : Int) ≤ 20
    · go_enter Try.func73, Try.ntmps73
      go_wp2_with (go_at_call 58; refine (allRunes_tok _ _).mono ?_; rintro e w1 ⟨b, rfl, hbt, hb1⟩)
      go_ret
      exact ⟨b, rfl, by unfold TokOk; rw [hbt]; exact ⟨fun h => ⟨by omega, by omega, h⟩, fun h => h.2.2⟩, hb1⟩
    · go_enter Try.func73, Try.ntmps73
      go_wp2_with fail
      go_ret
      exact BoolIs.no (by unfold TokOk; omega) (Below.refl _ _)
  · go_enter Try.func73, Try.ntmps73
    go_wp2_with fail
    go_ret
    exact BoolIs.no (by unfold TokOk; omega) (Below.refl _ _)

set_option maxHeartbeats 1000000 in
theorem specTokenOk_any (s : ByteArray) (w : World) (hs : s.size ≤ maxLen) :
    Calls Try.prog 27 #[.string s] w fun e w' => BoolIs (TokOk s) w e w' := by
  unfold maxLen at hs
  go_enter Try.func27, Try.ntmps27
  go_wp2
  go_loop [3] (fun i => ∃ k : Nat, k ≤ s.size ∧ i = .int .i64 k ∧ Hid (AllTo TokB s k)) (fun i => s.size - (intOf i).toNat)
  case atStart => exact ⟨0, Nat.zero_le _, rfl, allTo_zero _ _⟩
  case round =>
    obtain ⟨k, hk, rfl, hall⟩ := hrel
    by_cases hlt : k < s.size
    · go_wp2
      all_goals first
        | (go_ret
           have hno : ¬ TokB ((s[k]'hlt).toNat : Int) := by
             unfold TokB
             try simp only [bne_iff_ne, ne_eq] at *
             omega
           exact BoolIs.no (fun h => hno (h.2.2 k hlt)) (Below.refl _ _))
        | (go_round
           case rel =>
             have hy : TokB ((s[k]'hlt).toNat : Int) := by
               unfold TokB
               try simp only [bne_eq_false_iff_eq] at *
               omega
             exact ⟨k + 1, by omega, by go_num, allTo_succ hall.out hlt hy⟩
           case measure => simp [intOf]; omega)
    · have hend : Hid (AllB TokB s) := allTo_end hall.out hlt
      by_cases h1 : (1 : Int) ≤ (s.size : Int)
      · by_cases h2 : (s.size : Int) ≤ 20
        · go_wp2
          go_ret
          exact BoolIs.yes ⟨by omega, by omega, hend.out⟩ (Below.refl _ _)
        · go_wp2
          go_ret
          exact BoolIs.no (by unfold TokOk; omega) (Below.refl _ _)
      · go_wp2
        go_ret
        exact BoolIs.no (by unfold TokOk; omega) (Below.refl _ _)

end Go.Proofs.Ytmcmeeibogkpaaa

namespace Go.Proofs
open Go.Shelf
def Try.lays103_ren : Go.Shelf.Ren := ⟨fun | 103 => 55 | 210 => 63 | 206 => 72 | n => n, fun | 9 => 9 | 4 => 4 | 24 => 46 | 3 => 3 | n => n, fun | n => n⟩
theorem Try.lays103 : Go.Proofs.Lays.n103 Try.prog Try.lays103_ren := {
  mixed := by kernel_rfl
  f103 := Try.func55.trans (congrArg some (by kernel_rfl))
  f206 := Try.func72.trans (congrArg some (by kernel_rfl))
  f210 := Try.func63.trans (congrArg some (by kernel_rfl))
  t3 := Try.underlying3
  a3 := Try.isAgg3
  z3 := Try.sizeOf3
  v3 := Try.zeroValue3
  t4 := Try.underlying4
  a4 := Try.isAgg4
  z4 := Try.sizeOf4
  v4 := Try.zeroValue4
  t9 := Try.underlying9
  a9 := Try.isAgg9
  z9 := Try.sizeOf9
  v9 := Try.zeroValue9
  t24 := Try.underlying46
  a24 := Try.isAgg46
  z24 := Try.sizeOf46
  v24 := Try.zeroValue46 }
open Go.RowKit in
theorem Try.strings_CutPrefix (s p : ByteArray) (w : World) :
    Calls Try.prog 55 #[.string s, .string p] w fun e w' => e = .returned (.tuple #[.string ⟨(Lib.trimPrefix s.data.toList p.data.toList).toArray⟩, .bool (Lib.hasPrefix s.data.toList p.data.toList)]) ∧ w' = w := Any.strings_CutPrefix Try.lays103 s p w
def Try.laysM316_ren : Go.Shelf.Ren := ⟨fun | 316 => 51 | n => n, fun | 9 => 9 | 3 => 3 | 4 => 4 | 37 => 58 | 0 => 0 | 127 => 75 | 5 => 5 | n => n, fun | n => n⟩
theorem Try.laysM316 : Go.Proofs.LaysM.n316 Try.prog Try.laysM316_ren := {
  mixed := by kernel_rfl
  f316 := Try.func51.trans (congrArg some (by kernel_rfl))
  t0 := Try.underlying0
  a0 := Try.isAgg0
  z0 := Try.sizeOf0
  v0 := Try.zeroValue0
  t3 := Try.underlying3
  a3 := Try.isAgg3
  z3 := Try.sizeOf3
  v3 := Try.zeroValue3
  t4 := Try.underlying4
  a4 := Try.isAgg4
  z4 := Try.sizeOf4
  v4 := Try.zeroValue4
  t9 := Try.underlying9
  a9 := Try.isAgg9
  z9 := Try.sizeOf9
  v9 := Try.zeroValue9
  t37 := Try.underlying58
  a37 := Try.isAgg58
  z37 := Try.sizeOf58
  v37 := Try.zeroValue58
  t127 := Try.underlying75
  a127 := Try.isAgg75
  z127 := Try.sizeOf75
  v127 := Try.zeroValue75
  t5 := Try.underlying5
  a5 := Try.isAgg5
  z5 := Try.sizeOf5
  v5 := Try.zeroValue5
  i0 := by kernel_rfl
  i3 := by kernel_rfl
  i4 := by kernel_rfl
  i5 := by kernel_rfl
  i9 := by kernel_rfl
  i37 := by kernel_rfl
  i127 := by kernel_rfl }
open Go.RowKit in
theorem Try.stringslite_Clone (s : ByteArray) (w : World) (hlim : s.size ≤ 281474976710656) :
    Calls Try.prog 51 #[.string s] w fun e w' => e = .returned (.string s) ∧ Below w.heap.size w w' := Any.stringslite_Clone Try.laysM316 s w hlim
end Go.Proofs

namespace Go.Proofs.Ytmcmeeibogkpaaa
open Go.RowKit

theorem info5 : (Try.prog.info? 5).map (fun i => (i.zero, i.size, i.bytes)) = some (some (.int .u8 0), 1, 1) := by kernel_rfl

set_option maxHeartbeats 400000 in
theorem clone_any (s : ByteArray) (w : World) (hlim : s.size ≤ 281474976710656) :
    Calls Try.prog 42 #[.string s] w fun e w' => e = .returned (.string s) ∧ Below w.heap.size w w' := by
  go_enter Try.func42, Try.ntmps42
  go_wp2_with (go_at_call 51; refine (Try.stringslite_Clone _ _ hlim).mono ?_; rintro e w1 ⟨rfl, hb1⟩)
  go_ret
  exact ⟨rfl, hb1⟩

end Go.Proofs.Ytmcmeeibogkpaaa

namespace Go.Proofs.Ytmcmeeibogkpaaa

/-- The list without the blanks that it begins with. -/
def dropB : List UInt8 → List UInt8
  | [] => []
  | b :: r => if b.toNat = 32 then dropB r else b :: r
/-- .. and without those that it ends with. -/
def trimL (l : List UInt8) : List UInt8 := (dropB (dropB l).reverse).reverse
def trimOf (s : ByteArray) : ByteArray := ⟨(trimL s.data.toList).toArray⟩

theorem dropB_blanks : ∀ (x y : List UInt8), (∀ b ∈ x, b.toNat = 32) → dropB (x ++ y) = dropB y
  | [], _, _ => rfl
  | b :: r, y, h => by
    rw [List.cons_append, dropB, if_pos (h b (by simp))]
    exact dropB_blanks r y (fun c hc => h c (by simp [hc]))
theorem dropB_first (b : UInt8) (r : List UInt8) (h : b.toNat ≠ 32) : dropB (b :: r) = b :: r := by rw [dropB, if_neg h]

/-- From a on, up to b: what is left of s without its outer blanks. -/
structure IsTrim (s : ByteArray) (a b : Nat) : Prop where
  le : a ≤ b
  size : b ≤ s.size
  lead : ∀ j (h : j < s.size), j < a → (s[j]'h).toNat = 32
  tail : ∀ j (h : j < s.size), b ≤ j → (s[j]'h).toNat = 32
  first : ∀ h : a < s.size, a < b → (s[a]'h).toNat ≠ 32
  last : ∀ h : b - 1 < s.size, a < b → (s[b - 1]'h).toNat ≠ 32

theorem list_cut (l : List UInt8) (a b : Nat) (h : a ≤ b) : l = l.take a ++ ((l.take b).drop a ++ l.drop b) := by
  have h1 : (l.take b).take a = l.take a := by rw [List.take_take, Nat.min_eq_left h]
  have h2 : l.take b = l.take a ++ (l.take b).drop a := by
    have := (List.take_append_drop a (l.take b)).symm
    rw [h1] at this
    exact this
  have h3 := (List.take_append_drop b l).symm
  rw [h2, List.append_assoc] at h3
  exact h3

theorem trimL_mid (x y z : List UInt8) (hx : ∀ b ∈ x, b.toNat = 32) (hz : ∀ b ∈ z, b.toNat = 32) (h0 : ∀ b, y.head? = some b → b.toNat ≠ 32) (h1 : ∀ b, y.getLast? = some b → b.toNat ≠ 32) : trimL (x ++ (y ++ z)) = y := by
  unfold trimL
  rw [dropB_blanks x _ hx]
  cases y with
  | nil =>
    have : dropB ([] ++ z) = [] := by
      have := dropB_blanks z [] hz
      simpa [dropB] using this
    rw [this]; rfl
  | cons b r =>
    rw [List.cons_append, dropB_first b _ (h0 b rfl), ← List.cons_append, List.reverse_append, dropB_blanks _ _ (fun c hc => hz c (by simpa using hc))]
    cases hl : (b :: r).reverse with
    | nil => simp at hl
    | cons c q =>
      have hc : (b :: r).getLast? = some c := by rw [List.getLast?_eq_head?_reverse, hl]; rfl
      rw [dropB_first c q (h1 c hc), ← hl, List.reverse_reverse]

theorem byte_get (s : ByteArray) (j : Nat) (h : j < s.size) : s.data.toList[j]? = some (s[j]'h) := by
  rw [List.getElem?_eq_getElem (by simpa using h)]
  rfl

theorem trim_eq {s : ByteArray} {a b : Nat} (h : IsTrim s a b) : s.extract a b = trimOf s := by
  have hlen : s.data.toList.length = s.size := by simp
  have hext : (s.extract a b).data.toList = (s.data.toList.take b).drop a := by
    rw [ByteArray.data_extract, Array.toList_extract]
    simp [List.extract, List.drop_take]
  have hcut := list_cut s.data.toList a b h.le
  have hm := trimL_mid (s.data.toList.take a) ((s.data.toList.take b).drop a) (s.data.toList.drop b)
    (fun x hx => by
      obtain ⟨j, hj, rfl⟩ := List.getElem_of_mem hx
      have hj' : j < a ∧ j < s.size := by rw [List.length_take, hlen] at hj; omega
      have := h.lead j hj'.2 hj'.1
      rw [List.getElem_take]; exact this)
    (fun x hx => by
      obtain ⟨j, hj, rfl⟩ := List.getElem_of_mem hx
      have hj' : b + j < s.size := by rw [List.length_drop, hlen] at hj; omega
      have := h.tail (b + j) hj' (by omega)
      rw [List.getElem_drop]; exact this)
    (fun x hx => by
      rw [List.head?_eq_getElem?, List.getElem?_drop, List.getElem?_take] at hx
      split at hx
      · rename_i hlt
        have ha : a < s.size := by have := h.size; omega
        rw [Nat.add_zero, byte_get s a ha] at hx
        cases hx
        exact h.first ha (by omega)
      · cases hx)
    (fun x hx => by
      rw [List.getLast?_eq_getElem?, List.getElem?_drop, List.getElem?_take, List.length_drop, List.length_take, hlen] at hx
      have hsz := h.size; have hle := h.le
      rw [Nat.min_eq_left hsz] at hx
      split at hx
      · rename_i hlt
        have e : a + (b - a - 1) = b - 1 := by omega
        have hb : b - 1 < s.size := by omega
        rw [e, byte_get s (b - 1) hb] at hx
        cases hx
        exact h.last hb (by omega)
      · cases hx)
  rw [← hcut] at hm
  apply ByteArray.ext
  unfold trimOf
  rw [hm, ← hext]

/-- A text that begins and ends with no blank is trimmed already. -/
theorem trimOf_self {s : ByteArray} (h0 : ∀ h : 0 < s.size, (s[0]'h).toNat ≠ 32) (h1 : ∀ h : s.size - 1 < s.size, (s[s.size - 1]'h).toNat ≠ 32) : trimOf s = s := by
  rw [← trim_eq (s := s) (a := 0) (b := s.size) ⟨Nat.zero_le _, Nat.le_refl _, fun _ _ h => absurd h (by omega), fun _ h h' => absurd h (by omega), fun h _ => h0 h, fun h _ => h1 h⟩]
  apply ByteArray.ext
  simp

end Go.Proofs.Ytmcmeeibogkpaaa

namespace Go.Proofs.Ytmcmeeibogkpaaa
open Go.RowKit
open Go.Lib hiding intOf

/-- A call answers this text, and turns nothing that was there. -/
def TextIs (t : ByteArray) (w : World) (e : Ending) (w' : World) : Prop := e = .returned (.string t) ∧ Below w.heap.size w w'
theorem TextIs.of {t u : ByteArray} {w w' : World} (h : u = t) (hb : Below w.heap.size w w') : TextIs t w (.returned (.string u)) w' := ⟨by rw [h], hb⟩

set_option maxHeartbeats 1000000 in
theorem specTrim_any (s : ByteArray) (w : World) (hs : s.size ≤ maxLen) :
    Calls Try.prog 37 #[.string s] w fun e w' => TextIs (trimOf s) w e w' := by
  unfold maxLen at hs
  go_enter Try.func37, Try.ntmps37
  go_wp2
  go_loop [3] (fun i => ∃ k : Nat, k ≤ s.size ∧ i = .int .i64 k ∧ Hid (∀ j (h : j < s.size), j < k → (s[j]'h).toNat = 32)) (fun i => s.size - (intOf i).toNat)
  case atStart => exact ⟨0, Nat.zero_le _, rfl, fun _ _ h => absurd h (by omega)⟩
  case round =>
    obtain ⟨k, hk, rfl, hlead⟩ := hrel
    by_cases hlt : k < s.size
    · by_cases hb : (s[k]'hlt).toNat = 32
      · have ht2 : (((s[k]'hlt).toNat : Int) == 32) = true := by simp [hb]
        have HB : Hid ((s[k]'hlt).toNat = 32) := hb
        clear hb
        go_wp2
        go_round
        case rel =>
          refine ⟨k + 1, by omega, by go_num, ?_⟩
          intro j h hj
          by_cases e : j = k
          · subst e; exact HB.out
          · exact hlead.out j h (by omega)
        case measure => simp [intOf]; omega
      · have ht2 : (((s[k]'hlt).toNat : Int) == 32) = false := by
          rw [beq_eq_false_iff_ne]; omega
        have hfst : Hid ((s[k]'hlt).toNat ≠ 32) := hb
        clear hb
        go_wp2
        go_loop [4] (fun t => ∃ m : Nat, k ≤ m ∧ m < s.size ∧ t = .int .i64 ((m : Int) + 1) ∧ Hid (∀ j (h : j < s.size), m + 1 ≤ j → (s[j]'h).toNat = 32)) (fun t => (intOf t).toNat)
        case atStart => exact ⟨s.size - 1, by omega, by omega, by go_num, fun j h hj => absurd h (by omega)⟩
        case round =>
          obtain ⟨m, hkm, hms, rfl, htl⟩ := hrel
          have hc1 : (k : Int) < (m : Int) + 1 := by omega
          by_cases hb : (s[m]'hms).toNat = 32
          · have ht2 : (((s[m]'hms).toNat : Int) == 32) = true := by simp [hb]
            have hkm2 : k < m := by
              rcases Nat.lt_or_ge k m with h | h
              · exact h
              · exfalso
                have e : m = k := by omega
                subst e
                exact hfst.out hb
            have HB : Hid ((s[m]'hms).toNat = 32) := hb
            clear hb
            go_wp2
            go_round
            case rel =>
              refine ⟨m - 1, by omega, by omega, by go_num, ?_⟩
              intro j h hj
              by_cases e : j = m
              · subst e; exact HB.out
              · exact htl.out j h (by omega)
            case measure => simp [intOf]
          · have ht2 : (((s[m]'hms).toNat : Int) == 32) = false := by
              rw [beq_eq_false_iff_ne]; omega
            have hT : Hid (s.extract k (m + 1) = trimOf s) := trim_eq ⟨by omega, by omega, fun j h hj => hlead.out j h hj, fun j h hj => htl.out j h (by omega), fun _ _ => hfst.out, fun _ _ => hb⟩
            clear hb
            go_wp2
            go_ret
            exact TextIs.of hT.out (Below.refl _ _)
    · have hT : Hid (ByteArray.empty = trimOf s) := (show ByteArray.empty = s.extract s.size s.size by simp).trans (trim_eq ⟨Nat.le_refl _, Nat.le_refl _, fun j h _ => hlead.out j h (by omega), fun j h hj => absurd h (by omega), fun h => absurd h (by omega), fun _ h => absurd h (by omega)⟩)
      obtain rfl : k = s.size := by omega
      go_wp2
      go_loop [4] (fun t => t = .int .i64 (s.size : Int)) (fun t => (intOf t).toNat)
      case atStart => exact rfl
      case round =>
        subst hrel
        go_wp2
        go_ret
        exact TextIs.of hT.out (Below.refl _ _)

set_option maxHeartbeats 2000000 in
theorem implTrim_any (s : ByteArray) (w : World) (hs : s.size ≤ 281474976710656) :
    Calls Try.prog 62 #[.string s] w fun e w' => TextIs (trimOf s) w e w' := by
  go_enter Try.func62, Try.ntmps62
  go_wp2
  go_loopw [3] (fun t wr => ∃ pos : Nat, pos ≤ s.size ∧ t = .int .i64 (s.size : Int) ∧ wr.heap[w.heap.size]? = some (.stringIter s pos) ∧ Below w.heap.size w wr ∧ Hid (∀ j (h : j < s.size), j < pos → (s[j]'h).toNat = 32)) (fun _ wr => s.size - wr.iterPos w.heap.size)
  case atStart => exact ⟨0, Nat.zero_le _, rfl, World.iter_heap _ _ _, (Below.refl _ _).alloc (Nat.le_refl _) _, fun _ _ h => absurd h (by omega)⟩
  case round =>
    obtain ⟨k, hk, rfl, hh, hbw, hlead⟩ := hrel
    by_cases hlt : k < s.size
    · by_cases hb : (s[k]'hlt).toNat = 32
      · have hcl : (cls ((s[k]'hlt).toNat : Int) != 4) = false := by rw [hb]; rfl
        have hnx := fun ty => run_next_ascii_at (P := Try.prog) wr w.heap.size s k ty hh hlt (by omega)
        have HB : Hid ((s[k]'hlt).toNat = 32) := hb
        clear hb
        go_wp2_with (go_at_call 52; refine (classOf_any _ _).mono ?_; rintro e w1 ⟨rfl, hb1⟩)
        obtain ⟨h1, h2⟩ := iter_step hh hbw hb1
        refine ⟨⟨k + 1, by omega, rfl, h1, h2, ?_⟩, by rw [iterPos_of h1, iterPos_of hh]; omega⟩
        intro j h hj
        by_cases e : j = k
        · subst e; exact HB.out
        · exact hlead.out j h (by omega)
      · have hfst : Hid ((s[k]'hlt).toNat ≠ 32) := hb
        have hr32 : ((Utf8.decode s k).1 : Int) ≠ 32 := by
          by_cases ha : (s[k]'hlt).toNat < 128
          · rw [decode_ascii s k hlt ha]; show ((s[k]'hlt).toNat : Int) ≠ 32; omega
          · have := (decode_high s k hlt (by omega)).1; omega
        have hcl : (cls ((Utf8.decode s k).1 : Int) != 4) = true := by
          have := cls_spec ((Utf8.decode s k).1 : Int)
          rw [bne_iff_ne]; omega
        have hnx := fun ty => run_next_any_at (P := Try.prog) wr w.heap.size s k ty hh hlt
        clear hb hr32
        go_wp2_with (go_at_call 52; refine (classOf_any _ _).mono ?_; rintro e w1 ⟨rfl, hb1⟩)
        obtain ⟨_, h2⟩ := iter_step hh hbw hb1
        clear hnx hcl hb1 hh hbw
        go_loop [4] (fun t => ∃ m : Nat, k ≤ m ∧ m < s.size ∧ t = .int .i64 ((m : Int) + 1) ∧ Hid (∀ j (h : j < s.size), m + 1 ≤ j → (s[j]'h).toNat = 32)) (fun t => (intOf t).toNat)
        case atStart => exact ⟨s.size - 1, by omega, by omega, by go_num, fun j h hj => absurd h (by omega)⟩
        case round =>
          obtain ⟨m, hkm, hms, rfl, htl⟩ := hrel
          have hc1 : (k : Int) < (m : Int) + 1 := by omega
          by_cases hb : (s[m]'hms).toNat = 32
          · have ht2 : (((s[m]'hms).toNat : Int) == 32) = true := by simp [hb]
            have hkm2 : k < m := by
              rcases Nat.lt_or_ge k m with h | h
              · exact h
              · exfalso
                have e : m = k := by omega
                subst e
                exact hfst.out hb
            have HB : Hid ((s[m]'hms).toNat = 32) := hb
            clear hb
            go_wp2
            go_round
            case rel =>
              refine ⟨m - 1, by omega, by omega, by go_num, ?_⟩
              intro j h hj
              by_cases e : j = m
              · subst e; exact HB.out
              · exact htl.out j h (by omega)
            case measure => simp [intOf]
          · have ht2 : (((s[m]'hms).toNat : Int) == 32) = false := by
              rw [beq_eq_false_iff_ne]; omega
            have hT : Hid (s.extract k (m + 1) = trimOf s) := trim_eq ⟨by omega, by omega, fun j h hj => hlead.out j h hj, fun j h hj => htl.out j h (by omega), fun _ _ => hfst.out, fun _ _ => hb⟩
            clear hb
            have hz : (s.extract k (m + 1)).size ≤ 281474976710656 := by simp; omega
            go_wp2_with (go_at_call 42; refine (clone_any _ _ hz).mono ?_; rintro e w2 ⟨rfl, hb2⟩)
            go_ret
            exact TextIs.of hT.out (h2.trans (hb2.mono h2.size))

    · have hT : Hid (ByteArray.empty = trimOf s) := (show ByteArray.empty = s.extract s.size s.size by simp).trans (trim_eq ⟨Nat.le_refl _, Nat.le_refl _, fun j h _ => hlead.out j h (by omega), fun j h hj => absurd h (by omega), fun h => absurd h (by omega), fun _ h => absurd h (by omega)⟩)
      have hnx := fun ty => run_next_end_at (P := Try.prog) wr w.heap.size s k ty hh hlt
      go_wp2
      clear hnx hh
      go_loop [4] (fun t => t = .int .i64 (s.size : Int)) (fun t => (intOf t).toNat)
      case atStart => exact rfl
      case round =>
        subst hrel
        go_wp2_with (go_at_call 42; refine (clone_any _ _ (by simp)).mono ?_; rintro e w2 ⟨rfl, hb2⟩)
        go_ret
        exact TextIs.of hT.out (hbw.trans (hb2.mono hbw.size))

end Go.Proofs.Ytmcmeeibogkpaaa

namespace Go.Proofs.Ytmcmeeibogkpaaa
open Go.RowKit
open Go.Lib hiding intOf

/-- What the chapter asks of a value. -/
def ValOk (s : ByteArray) : Prop := 1 ≤ s.size ∧ s.size ≤ 60 ∧ AllB ValB s ∧ trimOf s = s
/-- A text of at least one byte is trimmed already just where its first and its last byte are no blanks. -/
theorem trim_self_iff (s : ByteArray) (h1 : 1 ≤ s.size) : trimOf s = s ↔ ((s[0]'(by omega)).toNat ≠ 32 ∧ (s[s.size - 1]'(by omega)).toNat ≠ 32) := by
  constructor
  · intro h
    have hl : trimL s.data.toList = s.data.toList := by
      have := congrArg (fun x : ByteArray => x.data.toList) h
      simpa [trimOf] using this
    have hlen : s.data.toList.length = s.size := by simp
    have key : ∀ l : List UInt8, (dropB l).length ≤ l.length ∧ ((dropB l).length = l.length → ∀ b, l.head? = some b → b.toNat ≠ 32) := by
      intro l
      induction l with
      | nil => simp [dropB]
      | cons b r ih =>
        rw [dropB]
        split
        · refine ⟨by simp; omega, fun h => ?_⟩
          simp at h; omega
        · rename_i hb
          refine ⟨by simp, fun _ c hc => ?_⟩
          simp at hc; subst hc; exact hb
    have k1 := key s.data.toList
    have k2 := key (dropB s.data.toList).reverse
    have hL : (dropB (dropB s.data.toList).reverse).length = s.data.toList.length := by
      have := congrArg List.length hl
      simpa [trimL] using this
    rw [List.length_reverse] at k2
    have e1 : (dropB s.data.toList).length = s.data.toList.length := by omega
    have e2 : (dropB (dropB s.data.toList).reverse).length = (dropB s.data.toList).length := by omega
    have hd : dropB s.data.toList = s.data.toList := by
      cases hc : s.data.toList with
      | nil => rfl
      | cons b r =>
        have := k1.2 e1 b (by rw [hc]; rfl)
        exact dropB_first b r this
    refine ⟨?_, ?_⟩
    · apply k1.2 e1
      rw [List.head?_eq_getElem?, byte_get s 0 (by omega)]
    · apply k2.2 e2
      rw [hd, ← List.getLast?_eq_head?_reverse, List.getLast?_eq_getElem?, hlen, byte_get s (s.size - 1) (by omega)]
  · rintro ⟨h0, h2⟩
    exact trimOf_self (fun _ => h0) (fun _ => h2)

theorem text_beq (a b : ByteArray) : (a.toList == b.toList) = true ↔ a = b := by
  rw [beq_iff_eq, ByteArray.toList_eq, ByteArray.toList_eq]
  exact ⟨fun h => ByteArray.ext (Array.toList_inj.1 h), fun h => by rw [h]⟩

set_option maxHeartbeats 1000000 in
theorem implValueOk_any (s : ByteArray) (w : World) (hs : s.size ≤ maxLen) :
    Calls Try.prog 74 #[.string s] w fun e w' => BoolIs (ValOk s) w e w' := by
  unfold maxLen at hs
  by_cases h1 : (s.size : Int) < 1
  · go_enter Try.func74, Try.ntmps74
    go_wp2_with fail
    go_ret
    exact BoolIs.no (by unfold ValOk; omega) (Below.refl _ _)
  · by_cases h2 : (60 : Int) < (s.size : Int)
    · go_enter Try.func74, Try.ntmps74
      go_wp2_with fail
      go_ret
      exact BoolIs.no (by unfold ValOk; omega) (Below.refl _ _)
    · have hti : Hid _ := trim_self_iff s (by omega)
      have hp0 : 0 < s.size := by omega
      by_cases hb : (s[0]'hp0).toNat = 32
      · have ht : (((s[0]'hp0).toNat : Int) == 32) = true := by simp [hb]
        have HB : Hid ((s[0]'hp0).toNat = 32) := hb
        clear hb
        go_enter Try.func74, Try.ntmps74
        go_wp2_with fail
        go_ret
        exact BoolIs.no (fun h => (hti.out.1 h.2.2.2).1 HB.out) (Below.refl _ _)
      · have ht : (((s[0]'hp0).toNat : Int) == 32) = false := by
          rw [beq_eq_false_iff_ne]; omega
        obtain ⟨m, hm⟩ : ∃ m, s.size = m + 1 := ⟨s.size - 1, by omega⟩
        have hms : m < s.size := by omega
        have hme : Hid (s.size - 1 = m) := by show s.size - 1 = m; omega
        have hH0 : Hid (¬ (s[0]'hp0).toNat = 32) := hb
        clear hb
        have hm2 : (s.size : Int) - 1 = (m : Int) := by omega
        by_cases hl : (s[m]'hms).toNat = 32
        · have hN : Hid (¬ ValOk s) := by
            intro h
            have h3 := (hti.out.1 h.2.2.2).2
            simp only [hme.out] at h3
            exact h3 hl
          have ht2 : (((s[m]'hms).toNat : Int) == 32) = true := by simp [hl]
          clear hl hm
          go_enter Try.func74, Try.ntmps74
          go_wp2_with fail
          go_ret
          exact BoolIs.no hN.out (Below.refl _ _)
        · have hY : Hid (AllB ValB s → ValOk s) := by
            intro h
            refine ⟨by omega, by omega, h, hti.out.2 ⟨hH0.out, ?_⟩⟩
            simp only [hme.out]
            exact hl
          have ht2 : (((s[m]'hms).toNat : Int) == 32) = false := by
            rw [beq_eq_false_iff_ne]; omega
          clear hl hm
          go_enter Try.func74, Try.ntmps74
          go_wp2_with (go_at_call 58; refine (allRunes_val _ _).mono ?_; rintro e w1 ⟨b, rfl, hbt, hb1⟩)
          go_ret
          exact ⟨b, rfl, hbt.trans ⟨hY.out, fun h => h.2.2.1⟩, hb1⟩

set_option maxHeartbeats 1000000 in
theorem specValueOk_any (s : ByteArray) (w : World) (hs : s.size ≤ maxLen) :
    Calls Try.prog 28 #[.string s] w fun e w' => BoolIs (ValOk s) w e w' := by
  have hs0 := hs
  unfold maxLen at hs
  go_enter Try.func28, Try.ntmps28
  go_wp2
  go_loop [3] (fun i => ∃ k : Nat, k ≤ s.size ∧ i = .int .i64 k ∧ Hid (AllTo ValB s k)) (fun i => s.size - (intOf i).toNat)
  case atStart => exact ⟨0, Nat.zero_le _, rfl, allTo_zero _ _⟩
  case round =>
    obtain ⟨k, hk, rfl, hall⟩ := hrel
    by_cases hlt : k < s.size
    · go_wp2
      all_goals first
        | (go_ret
           have hno : ¬ ValB ((s[k]'hlt).toNat : Int) := by
             unfold ValB
             omega
           exact BoolIs.no (fun h => hno (h.2.2.1 k hlt)) (Below.refl _ _))
        | (go_round
           case rel =>
             have hy : ValB ((s[k]'hlt).toNat : Int) := by
               unfold ValB
               omega
             exact ⟨k + 1, by omega, by go_num, allTo_succ hall.out hlt hy⟩
           case measure => simp [intOf]; omega)
    · have hend : Hid (AllB ValB s) := allTo_end hall.out hlt
      by_cases h1 : (1 : Int) ≤ (s.size : Int)
      · by_cases h2 : (s.size : Int) ≤ 60
        · go_wp2_with (first | (go_at_call 37; refine (specTrim_any _ _ hs0).mono ?_; rintro e w2 ⟨rfl, hb2⟩) | go_in)
          go_ret
          refine ⟨_, rfl, ?_, hb2⟩
          rw [text_beq]
          exact ⟨fun h => ⟨by omega, by omega, hend.out, h⟩, fun h => h.2.2.2⟩
        · go_wp2_with go_in
          go_ret
          exact BoolIs.no (by unfold ValOk; omega) (Below.refl _ _)
      · go_wp2_with go_in
        go_ret
        exact BoolIs.no (by unfold ValOk; omega) (Below.refl _ _)

end Go.Proofs.Ytmcmeeibogkpaaa

namespace Go.Proofs.Ytmcmeeibogkpaaa

def DigB (b : UInt8) : Prop := 48 ≤ b.toNat ∧ b.toNat ≤ 57
/-- The number that a row of digits is. -/
def valL (l : List UInt8) : Nat := l.foldl (fun v b => 10 * v + (b.toNat - 48)) 0
theorem valL_snoc (l : List UInt8) (b : UInt8) : valL (l ++ [b]) = 10 * valL l + (b.toNat - 48) := by simp [valL]
/-- The digits of a number that is not 0; none of 0. -/
def dgF : Nat → Nat → List UInt8
  | 0, _ => []
  | f + 1, n => if n = 0 then [] else dgF f (n / 10) ++ [UInt8.ofNat (48 + n % 10)]
theorem dgF_zero (f : Nat) : dgF f 0 = [] := by cases f <;> simp [dgF]
theorem dgF_pos (f n : Nat) (h : n ≠ 0) : dgF (f + 1) n = dgF f (n / 10) ++ [UInt8.ofNat (48 + n % 10)] := by simp [dgF, h]

theorem ofNat_digit (n : Nat) : (UInt8.ofNat (48 + n % 10)).toNat = 48 + n % 10 := by
  simp; omega

theorem list_snoc : ∀ l : List UInt8, l = [] ∨ ∃ r b, l = r ++ [b]
  | [] => .inl rfl
  | a :: t => by
    rcases list_snoc t with rfl | ⟨r, b, rfl⟩
    · exact .inr ⟨[], a, rfl⟩
    · exact .inr ⟨a :: r, b, rfl⟩

theorem head_snoc (r : List UInt8) (b c : UInt8) (hr : r ≠ []) : (r ++ [b]).head? = some c ↔ r.head? = some c := by
  cases r with
  | nil => exact absurd rfl hr
  | cons a t => simp

/-- A row of digits with no nought ahead is greater than any power of ten below its length. -/
theorem val_ge (l : List UInt8) : (∀ b ∈ l, DigB b) → (∀ b, l.head? = some b → b.toNat ≠ 48) → l ≠ [] → 10 ^ (l.length - 1) ≤ valL l := by
  suffices H : ∀ n (l : List UInt8), l.length = n → (∀ b ∈ l, DigB b) → (∀ b, l.head? = some b → b.toNat ≠ 48) → l ≠ [] → 10 ^ (l.length - 1) ≤ valL l from H _ l rfl
  intro n
  induction n with
  | zero => intro l hl _ _ hne; exact absurd (List.length_eq_zero_iff.1 hl) hne
  | succ n ih =>
    intro l hl hd hh hne
    rcases list_snoc l with rfl | ⟨r, b, rfl⟩
    · exact absurd rfl hne
    · rw [valL_snoc]
      by_cases hr : r = []
      · subst hr
        have h1 := hd b (by simp)
        have h2 := hh b rfl
        simp [valL]; unfold DigB at h1; omega
      · have hlen : r.length = n := by simpa using hl
        have h3 := ih r hlen (fun c hc => hd c (by simp [hc])) (fun c hc => hh c ((head_snoc r b c hr).2 hc)) hr
        have hpos : 1 ≤ r.length := by cases r with | nil => exact absurd rfl hr | cons _ _ => simp
        have e : (r ++ [b]).length - 1 = (r.length - 1) + 1 := by simp; omega
        rw [e, Nat.pow_succ]
        omega

/-- The digits of the number that a row of digits is, with no nought ahead, are that row. -/
theorem dg_val : ∀ (f : Nat) (l : List UInt8), (∀ b ∈ l, DigB b) → (∀ b, l.head? = some b → b.toNat ≠ 48) → l.length ≤ f → dgF f (valL l) = l := by
  intro f
  induction f with
  | zero => intro l _ _ hl; rw [List.length_eq_zero_iff.1 (by omega : l.length = 0)]; rfl
  | succ f ih =>
    intro l hd hh hl
    rcases list_snoc l with rfl | ⟨r, b, rfl⟩
    · exact dgF_zero _
    · have hb := hd b (by simp)
      unfold DigB at hb
      have hpos : valL (r ++ [b]) ≠ 0 := by
        have := val_ge (r ++ [b]) hd hh (by simp)
        have : 0 < 10 ^ ((r ++ [b]).length - 1) := Nat.pow_pos (by omega)
        omega
      rw [dgF_pos f _ hpos, valL_snoc]
      have e1 : (10 * valL r + (b.toNat - 48)) / 10 = valL r := by omega
      have e2 : (10 * valL r + (b.toNat - 48)) % 10 = b.toNat - 48 := by omega
      rw [e1, e2]
      have e3 : UInt8.ofNat (48 + (b.toNat - 48)) = b := by
        rw [show 48 + (b.toNat - 48) = b.toNat by omega]; simp
      rw [e3]
      by_cases hr : r = []
      · subst hr; simp [valL, dgF_zero]
      · rw [ih r (fun c hc => hd c (by simp [hc])) (fun c hc => hh c ((head_snoc r b c hr).2 hc)) (by simp at hl; omega)]

/-- The digits of a number begin with no nought, and are that number. -/
theorem dg_facts : ∀ (f n : Nat), n < 10 ^ f → (∀ b, (dgF f n).head? = some b → b.toNat ≠ 48) ∧ valL (dgF f n) = n ∧ (∀ b ∈ dgF f n, DigB b) := by
  intro f
  induction f with
  | zero => intro n h; simp at h; subst h; simp [dgF, valL]
  | succ f ih =>
    intro n h
    by_cases h0 : n = 0
    · subst h0; rw [dgF_zero]; simp [valL]
    · rw [dgF_pos f n h0]
      rw [Nat.pow_succ] at h
      obtain ⟨i1, i2, i3⟩ := ih (n / 10) (by omega)
      refine ⟨?_, ?_, ?_⟩
      · intro b hb
        by_cases hr : dgF f (n / 10) = []
        · rw [hr] at hb
          simp only [List.nil_append, List.head?_cons, Option.some.injEq] at hb
          rw [← hb, ofNat_digit]
          have : n / 10 = 0 := by rw [hr] at i2; simpa [valL] using i2.symm
          omega
        · exact i1 b ((head_snoc _ _ b hr).1 hb)
      · rw [valL_snoc, i2, ofNat_digit]; omega
      · intro b hb
        rcases List.mem_append.1 hb with h | h
        · exact i3 b h
        · simp only [List.mem_singleton] at h
          unfold DigB
          rw [h, ofNat_digit]; omega

/-- The text of a number from 0 to 1000000; the empty text of others. -/
def numL (n : Nat) : List UInt8 := if 1000000 < n then [] else if n = 0 then [48] else dgF 8 n
def numText (n : Nat) : ByteArray := ⟨(numL n).toArray⟩

/-- A text that is a number from 0 to 1000000 in digits without needless noughts. -/
def NumOk (s : ByteArray) : Prop := 1 ≤ s.size ∧ (∀ b ∈ s.data.toList, DigB b) ∧ (1 < s.size → ∀ h : 0 < s.size, (s[0]'h).toNat ≠ 48) ∧ valL s.data.toList ≤ 1000000

theorem head_byte (s : ByteArray) (h : 0 < s.size) : s.data.toList.head? = some (s[0]'h) := by
  rw [List.head?_eq_getElem?, byte_get s 0 h]

theorem num_iff (s : ByteArray) (h1 : 1 ≤ s.size) (h7 : s.size ≤ 7) (hd : ∀ b ∈ s.data.toList, DigB b) : numText (valL s.data.toList) = s ↔ NumOk s := by
  have hlen : s.data.toList.length = s.size := by simp
  have hto : numText (valL s.data.toList) = s ↔ numL (valL s.data.toList) = s.data.toList := by
    constructor
    · intro h
      have := congrArg (fun x : ByteArray => x.data.toList) h
      simpa [numText] using this
    · intro h
      apply ByteArray.ext
      show (numL _).toArray = _
      rw [h]
  rw [hto]
  have hne : s.data.toList ≠ [] := by
    intro e; rw [e] at hlen; simp at hlen; omega
  constructor
  · intro h
    unfold numL at h
    split at h
    · exact absurd h.symm hne
    · rename_i hle
      refine ⟨h1, hd, ?_, by omega⟩
      intro hs hp
      split at h
      · rw [← h] at hlen; simp at hlen; omega
      · rename_i h0
        have hf := (dg_facts 8 (valL s.data.toList) (by omega)).1
        apply hf
        rw [h, head_byte s hp]
  · rintro ⟨_, _, hz, hv⟩
    unfold numL
    rw [if_neg (by omega)]
    by_cases hh : ∀ b, s.data.toList.head? = some b → b.toNat ≠ 48
    · have hg := val_ge s.data.toList hd hh hne
      have hpos : 0 < 10 ^ (s.data.toList.length - 1) := Nat.pow_pos (by omega)
      rw [if_neg (by omega)]
      exact dg_val 8 _ hd hh (by omega)
    · have hp : 0 < s.size := by omega
      have h48 : (s[0]'hp).toNat = 48 := by
        rcases Decidable.em ((s[0]'hp).toNat = 48) with h | h
        · exact h
        · exfalso; apply hh
          intro b hb
          rw [head_byte s hp] at hb
          cases hb; exact h
      have hsz : s.size = 1 := by
        rcases Nat.lt_or_ge 1 s.size with h | h
        · exact absurd h48 (hz h hp)
        · omega
      have hl : s.data.toList = [s[0]'hp] := by
        cases hc : s.data.toList with
        | nil => exact absurd hc hne
        | cons a t =>
          have ht : t = [] := by
            rw [hc] at hlen; simp at hlen; exact List.length_eq_zero_iff.1 (by omega)
          have ha : some a = some (s[0]'hp) := by rw [← head_byte s hp, hc]; rfl
          rw [ht, Option.some.inj ha]
      have he : s[0]'hp = 48 := by
        apply UInt8.toNat_inj.1; rw [h48]; rfl
      rw [hl, he]; rfl

/-- The value of the first k bytes. -/
def valTo (s : ByteArray) (k : Nat) : Nat := valL (s.data.toList.take k)
theorem valTo_succ (s : ByteArray) (k : Nat) (h : k < s.size) : valTo s (k + 1) = 10 * valTo s k + ((s[k]'h).toNat - 48) := by
  unfold valTo
  have : s.data.toList.take (k + 1) = s.data.toList.take k ++ [s[k]'h] := by
    rw [List.take_succ_eq_append_getElem (by simpa using h)]; rfl
  rw [this, valL_snoc]
theorem valTo_end (s : ByteArray) (k : Nat) (h : ¬ k < s.size) : valTo s k = valL s.data.toList := by
  unfold valTo; rw [List.take_of_length_le (by simp; omega)]
theorem valTo_lt (s : ByteArray) : ∀ k, k ≤ s.size → (∀ j (h : j < s.size), j < k → DigB (s[j]'h)) → valTo s k < 10 ^ k := by
  intro k
  induction k with
  | zero => intro _ _; simp [valTo, valL]
  | succ k ih =>
    intro hk hd
    rw [valTo_succ s k (by omega), Nat.pow_succ]
    have h1 := ih (by omega) (fun j h hj => hd j h (by omega))
    have h2 := hd k (by omega) (by omega)
    unfold DigB at h2
    omega
/-- The value of a longer beginning is no less. -/
theorem valTo_mono (s : ByteArray) (k : Nat) : ∀ d, k + d ≤ s.size → valTo s k ≤ valTo s (k + d) := by
  intro d
  induction d with
  | zero => intro _; exact Nat.le_refl _
  | succ d ih =>
    intro h
    rw [show k + (d + 1) = (k + d) + 1 by omega, valTo_succ s (k + d) (by omega)]
    have := ih (by omega)
    omega
theorem val_ge_to (s : ByteArray) (k : Nat) (h : k ≤ s.size) : valTo s k ≤ valL s.data.toList := by
  rw [← valTo_end s s.size (by omega)]
  have := valTo_mono s k (s.size - k) (by omega)
  rw [show k + (s.size - k) = s.size by omega] at this
  exact this
theorem mem_byte {s : ByteArray} {p : UInt8 → Prop} (h : ∀ j (hj : j < s.size), p (s[j]'hj)) : ∀ b ∈ s.data.toList, p b := by
  intro b hb
  obtain ⟨j, hj, rfl⟩ := List.getElem_of_mem hb
  exact h j (by simpa using hj)
theorem byte_mem (s : ByteArray) (j : Nat) (h : j < s.size) : s[j]'h ∈ s.data.toList := List.mem_of_getElem? (byte_get s j h)
/-- A number that is no longer than 1000000 has at most seven digits. -/
theorem num_seven {s : ByteArray} (h : NumOk s) : s.size ≤ 7 := by
  obtain ⟨h1, hd, hz, hv⟩ := h
  rcases Nat.lt_or_ge 7 s.size with h7 | h7
  · exfalso
    have hp : 0 < s.size := by omega
    have hlen : s.data.toList.length = s.size := by simp
    have hg := val_ge s.data.toList hd (fun b hb => by rw [head_byte s hp] at hb; cases hb; exact hz (by omega) hp) (by intro e; rw [e] at hlen; simp at hlen; omega)
    have : 10 ^ 7 ≤ 10 ^ (s.data.toList.length - 1) := Nat.pow_le_pow_right (by omega) (by omega)
    omega
  · exact h7

end Go.Proofs.Ytmcmeeibogkpaaa

namespace Go.Proofs.Ytmcmeeibogkpaaa
open Go.RowKit
open Go.Lib hiding intOf

theorem conv_one (W : World) (d : Int) : (convert 58 9 (.slice (some ⟨W.heap.size, 0, none⟩) 1 1)).run Try.prog (W.alloc (.cells #[.int .u8 d] 5)) = .ok (.string (strOfNums [d])) (W.alloc (.cells #[.int .u8 d] 5)) :=
  run_convert_bytes_arg (P := Try.prog) (W.alloc (.cells #[.int .u8 d] 5)) 58 5 Try.underlying58 Try.underlying5 W.heap.size 0 1 1 [d] rfl (fun i hi => by
    have : i = 0 := by omega
    subst this
    simp) 9 Try.underlying9

set_option maxHeartbeats 1000000 in
theorem specNumText_any (n : Nat) (w : World) (hn : n ≤ 9999999) :
    Calls Try.prog 47 #[.int .i64 (n : Int)] w fun e w' => TextIs (numText n) w e w' := by
  by_cases h1 : (n : Int) ≤ 1000000
  · by_cases h0 : n = 0
    · subst h0
      go_enter Try.func47, Try.ntmps47
      go_wp2
      go_ret
      exact TextIs.of rfl (Below.refl _ _)
    · have hne : ((n : Int) == 0) = false := by rw [beq_eq_false_iff_ne]; omega
      have hcv := conv_one
      go_enter Try.func47, Try.ntmps47
      go_wp2
      go_loopw [0, 3] (fun a b wr => ∃ (f m : Nat) (out : ByteArray), a = .int .i64 (m : Int) ∧ b = .string out ∧ m ≤ 1000000 ∧ f ≤ 8 ∧ out.size ≤ 8 - f ∧ Below w.heap.size w wr ∧ Hid (m < 10 ^ f ∧ dgF f m ++ out.data.toList = dgF 8 n)) (fun a _ _ => (intOf a).toNat)
      case atStart => exact ⟨8, n, _, rfl, rfl, by omega, Nat.le_refl _, Nat.le_refl _, Below.refl _ _, ⟨by omega, by simp⟩⟩
      case round =>
        obtain ⟨f, m, out, rfl, rfl, hm, hf8, hsz, hbw, hd⟩ := hrel
        by_cases hp : (0 : Int) < (m : Int)
        · have hone : ∀ d : Int, (strOfNums [d]).size = 1 := fun d => strOfNums_size [d]
          go_wp2
          go_roundw
          case rel =>
            obtain ⟨hf, hdg⟩ := hd.out
            cases f with
            | zero => simp at hf; omega
            | succ f =>
              rw [Nat.pow_succ] at hf
              refine ⟨f, m / 10, strOfNums [48 + (m : Int) % 10] ++ out, by simp, rfl, by omega, by omega, ?_, hbw.alloc hbw.size _, by omega, ?_⟩
              · rw [ByteArray.size_append, hone]; omega
              · have e : (strOfNums [48 + (m : Int) % 10]).data.toList = [UInt8.ofNat (48 + m % 10)] := by
                  rw [strOfNums_data]
                  have : (48 + (m : Int) % 10).toNat = 48 + m % 10 := by omega
                  simp only [List.map_cons, List.map_nil, this]
                rw [dgF_pos f m (by omega), List.append_assoc] at hdg
                rw [← hdg, ByteArray.data_append, Array.toList_append, e]
          case measure => simp [intOf]; omega
        · have hT : Hid (out = numText n) := by
            obtain ⟨_, h⟩ := hd.out
            have e : m = 0 := by omega
            rw [e, dgF_zero, List.nil_append] at h
            show out = numText n
            apply ByteArray.ext
            apply Array.toList_inj.1
            rw [h]
            unfold numText numL
            rw [if_neg (by omega), if_neg h0]
          go_wp2
          go_ret
          exact TextIs.of hT.out hbw
  · go_enter Try.func47, Try.ntmps47
    go_wp2
    go_ret
    exact TextIs.of (by unfold numText numL; rw [if_pos (by omega)]) (Below.refl _ _)

/-- A call answers the number that a text is, and true; or 0 and false; it turns nothing that was there. -/
def NumIs (s : ByteArray) (w : World) (e : Ending) (w' : World) : Prop :=
  ∃ (b : Bool) (n : Int), e = .returned (.tuple #[.int .i64 n, .bool b]) ∧ (b = true ↔ NumOk s) ∧ (b = true → n = valL s.data.toList) ∧ (b = false → n = 0) ∧ Below w.heap.size w w'
theorem NumIs.no {s : ByteArray} {w w' : World} (h : ¬ NumOk s) (hb : Below w.heap.size w w') : NumIs s w (.returned (.tuple #[.int .i64 0, .bool false])) w' :=
  ⟨false, 0, rfl, by simpa using h, by simp, fun _ => rfl, hb⟩
theorem NumIs.yes {s : ByteArray} {w w' : World} {n : Int} (h : NumOk s) (hn : n = valL s.data.toList) (hb : Below w.heap.size w w') : NumIs s w (.returned (.tuple #[.int .i64 n, .bool true])) w' :=
  ⟨true, n, rfl, by simpa using h, fun _ => hn, by simp, hb⟩

/-- Every byte ahead of k is a digit. -/
def DigTo (s : ByteArray) (k : Nat) : Prop := ∀ j (h : j < s.size), j < k → DigB (s[j]'h)
theorem digTo_succ {s : ByteArray} {k : Nat} (h : DigTo s k) (hk : k < s.size) (hd : DigB (s[k]'hk)) : DigTo s (k + 1) := by
  intro j hj hlt
  by_cases e : j = k
  · subst e; exact hd
  · exact h j hj (by omega)

theorem isEmpty_no {s : ByteArray} (h : 1 ≤ s.size) : s.toList.isEmpty = false := by
  have : s.toList.length = s.size := by rw [ByteArray.toList_eq]; simp
  cases hc : s.toList with
  | nil => rw [hc] at this; simp at this; omega
  | cons _ _ => rfl
theorem isEmpty_yes {s : ByteArray} (h : s.size = 0) : s.toList.isEmpty = true := by
  have : s.toList.length = s.size := by rw [ByteArray.toList_eq]; simp
  rw [h] at this
  rw [List.length_eq_zero_iff.1 this]; rfl

set_option maxHeartbeats 1000000 in
theorem specNumRead_any (s : ByteArray) (w : World) (hs : s.size ≤ maxLen) :
    Calls Try.prog 38 #[.string s] w fun e w' => NumIs s w e w' := by
  unfold maxLen at hs
  by_cases h1 : s.size = 0
  · have he := isEmpty_yes h1
    go_enter Try.func38, Try.ntmps38
    go_wp2_with fail
    go_ret2
    exact NumIs.no (fun h => by have := h.1; omega) (Below.refl _ _)
  · have he := isEmpty_no (s := s) (by omega)
    by_cases h7 : (7 : Int) < (s.size : Int)
    · go_enter Try.func38, Try.ntmps38
      go_wp2_with fail
      go_ret2
      exact NumIs.no (fun h => by have := num_seven h; omega) (Below.refl _ _)
    · go_enter Try.func38, Try.ntmps38
      go_wp2_with fail
      go_loop [4, 5] (fun a i => ∃ x k : Nat, k ≤ s.size ∧ i = .int .i64 k ∧ a = .int .i64 (x : Int) ∧ x ≤ 9999999 ∧ Hid (DigTo s k) ∧ Hid (x = valTo s k)) (fun _ i => s.size - (intOf i).toNat)
      case atStart => exact ⟨0, 0, Nat.zero_le _, rfl, rfl, by omega, fun _ _ h => absurd h (by omega), by show 0 = valTo s 0; simp [valTo, valL]⟩
      case round =>
        obtain ⟨x, k, hk, rfl, rfl, hx, hdig, hval⟩ := hrel
        by_cases hlt : k < s.size
        · have hb := (s[k]'hlt).toNat_lt
          by_cases hd1 : ((s[k]'hlt).toNat : Int) < 48
          · go_wp2_with fail
            go_ret2
            exact NumIs.no (fun h => by have := h.2.1 _ (byte_mem s k hlt); unfold DigB at this; omega) (Below.refl _ _)
          · by_cases hd2 : (57 : Int) < ((s[k]'hlt).toNat : Int)
            · go_wp2_with fail
              go_ret2
              exact NumIs.no (fun h => by have := h.2.1 _ (byte_mem s k hlt); unfold DigB at this; omega) (Below.refl _ _)
            · go_wp2_with fail
              have hdb : DigB (s[k]'hlt) := by unfold DigB; omega
              have hs1 := valTo_succ s k hlt
              have hv := hval.out
              have hd' := digTo_succ hdig.out hlt hdb
              have hlt7 := valTo_lt s (k + 1) (by omega) (fun j h hj => hd' j h hj)
              have hp7 : 10 ^ (k + 1) ≤ 10 ^ 7 := Nat.pow_le_pow_right (by omega) (by omega)
              go_round
              case rel =>
                refine ⟨valTo s (k + 1), k + 1, by omega, by go_num, ?_, by omega, hd', rfl⟩
                congr 1
                omega
              case measure => simp [intOf]; omega
        · have hall : ∀ b ∈ s.data.toList, DigB b := mem_byte (fun j h => hdig.out j h (by omega))
          have hx2 : x = valL s.data.toList := by have := hval.out; rw [valTo_end s k hlt] at this; exact this
          have hni := num_iff s (by omega) (by omega) hall
          rw [← hx2] at hni
          by_cases hok : NumOk s
          · have ht : ((numText x).toList == s.toList) = true := (text_beq _ _).2 (hni.2 hok)
            have HX : Hid (x = valL s.data.toList) := hx2
            have HO : Hid (NumOk s) := hok
            clear hx2 hni hok hall
            go_wp2_with (go_at_call 47; refine (specNumText_any x _ hx).mono ?_; rintro e w1 ⟨rfl, hb1⟩)
            go_ret2
            exact NumIs.yes HO.out (by rw [HX.out]) hb1
          · have ht : ((numText x).toList == s.toList) = false := by
              rcases Bool.eq_false_or_eq_true ((numText x).toList == s.toList) with h | h
              · exact absurd (hni.1 ((text_beq _ _).1 h)) hok
              · exact h
            have HO : Hid (¬ NumOk s) := hok
            clear hx2 hni hok hall
            go_wp2_with (go_at_call 47; refine (specNumText_any x _ hx).mono ?_; rintro e w1 ⟨rfl, hb1⟩)
            go_ret2
            exact NumIs.no HO.out hb1

set_option maxHeartbeats 1000000 in
theorem implNumRead_any (s : ByteArray) (w : World) (hs : s.size ≤ maxLen) :
    Calls Try.prog 57 #[.string s] w fun e w' => NumIs s w e w' := by
  unfold maxLen at hs
  by_cases h1 : s.size = 0
  · have he := isEmpty_yes h1
    go_enter Try.func57, Try.ntmps57
    go_wp2_with fail
    go_ret2
    exact NumIs.no (fun h => by have := h.1; omega) (Below.refl _ _)
  · have he := isEmpty_no (s := s) (by omega)
    have hp0 : 0 < s.size := by omega
    by_cases hz : (1 : Int) < (s.size : Int) ∧ (s[0]'hp0).toNat = 48
    · obtain ⟨hz1, hz2⟩ := hz
      have ht : (((s[0]'hp0).toNat : Int) == 48) = true := by simp [hz2]
      have HZ : Hid ((s[0]'hp0).toNat = 48) := hz2
      clear hz2
      go_enter Try.func57, Try.ntmps57
      go_wp2_with fail
      go_ret2
      exact NumIs.no (fun h => h.2.2.1 (by omega) hp0 HZ.out) (Below.refl _ _)
    · have HZ : Hid (1 < s.size → ∀ h : 0 < s.size, (s[0]'h).toNat ≠ 48) := fun hl h hc => hz ⟨by omega, hc⟩
      have hgo : Calls Try.prog 57 #[.string s] w fun e w' => NumIs s w e w' := by
        by_cases hl : (1 : Int) < (s.size : Int)
        all_goals
          have ht : (1 : Int) < (s.size : Int) → (((s[0]'hp0).toNat : Int) == 48) = false := fun hl => by
            rw [beq_eq_false_iff_ne]; intro hc; exact hz ⟨hl, by omega⟩
          clear hz
          try have ht2 := ht hl
          try clear ht
          go_enter Try.func57, Try.ntmps57
          go_wp2_with fail
          go_loopw [4] (fun a wr => ∃ x pos : Nat, pos ≤ s.size ∧ a = .int .i64 (x : Int) ∧ x ≤ 1000000 ∧ wr.heap[w.heap.size]? = some (.stringIter s pos) ∧ Below w.heap.size w wr ∧ Hid (DigTo s pos) ∧ Hid (x = valTo s pos)) (fun _ wr => s.size - wr.iterPos w.heap.size)
          case atStart => exact ⟨0, 0, Nat.zero_le _, rfl, by omega, World.iter_heap _ _ _, (Below.refl _ _).alloc (Nat.le_refl _) _, fun _ _ h => absurd h (by omega), by show 0 = valTo s 0; simp [valTo, valL]⟩
          case round =>
            obtain ⟨x, k, hk, rfl, hx, hh, hbw, hdig, hval⟩ := hrel
            by_cases hlt : k < s.size
            · have hb := (s[k]'hlt).toNat_lt
              by_cases hd : DigB (s[k]'hlt)
              · have hnx := fun ty => run_next_ascii_at (P := Try.prog) wr w.heap.size s k ty hh hlt (by unfold DigB at hd; omega)
                have hcl : (cls ((s[k]'hlt).toNat : Int) != 2) = false := by
                  have := cls_spec ((s[k]'hlt).toNat : Int)
                  unfold DigB at hd
                  rw [bne_eq_false_iff_eq]; omega
                have hd1 : (48 : Int) ≤ ((s[k]'hlt).toNat : Int) := by unfold DigB at hd; omega
                have hd2 : ((s[k]'hlt).toNat : Int) ≤ 57 := by unfold DigB at hd; omega
                have HD : Hid (DigB (s[k]'hlt)) := hd
                clear hd
                go_wp2_with (go_at_call 52; refine (classOf_any _ _).mono ?_; rintro e w1 ⟨rfl, hb1⟩)
                · have hgt : 1000000 < valTo s (k + 1) := by
                    have := valTo_succ s k hlt
                    have := hval.out
                    omega
                  go_ret2
                  exact NumIs.no (fun h => by have := h.2.2.2; have := val_ge_to s (k + 1) (by omega); omega) (iter_step hh hbw hb1).2
                · have hle : (x : Int) * 10 + (((s[k]'hlt).toNat : Int) - 48) = (valTo s (k + 1) : Nat) ∧ valTo s (k + 1) ≤ 1000000 := by
                    have := valTo_succ s k hlt
                    have := hval.out
                    omega
                  obtain ⟨p1, p2⟩ := iter_step hh hbw hb1
                  refine ⟨⟨valTo s (k + 1), k + 1, by omega, by rw [hle.1], hle.2, p1, p2, digTo_succ hdig.out hlt HD.out, rfl⟩, by rw [iterPos_of p1, iterPos_of hh]; omega⟩
              · have hnx := fun ty => run_next_any_at (P := Try.prog) wr w.heap.size s k ty hh hlt
                have hcl : (cls ((Utf8.decode s k).1 : Int) != 2) = true := by
                  have := cls_spec ((Utf8.decode s k).1 : Int)
                  unfold DigB at hd
                  rw [bne_iff_ne]
                  by_cases ha : (s[k]'hlt).toNat < 128
                  · rw [decode_ascii s k hlt ha] at this ⊢
                    dsimp only at this ⊢
                    omega
                  · have := (decode_high s k hlt (by omega)).1
                    omega
                have HD : Hid (¬ DigB (s[k]'hlt)) := hd
                clear hd
                go_wp2_with (go_at_call 52; refine (classOf_any _ _).mono ?_; rintro e w1 ⟨rfl, hb1⟩)
                go_ret2
                exact NumIs.no (fun h => HD.out (h.2.1 _ (byte_mem s k hlt))) (iter_step hh hbw hb1).2
            · have hnx := fun ty => run_next_end_at (P := Try.prog) wr w.heap.size s k ty hh hlt
              have HY : Hid (NumOk s ∧ (x : Int) = (valL s.data.toList : Nat)) := by
                have hv := hval.out
                rw [valTo_end s k hlt] at hv
                exact ⟨⟨by omega, mem_byte (fun j h => hdig.out j h (by omega)), HZ.out, by omega⟩, by omega⟩
              go_wp2_with fail
              go_ret2
              exact NumIs.yes HY.out.1 HY.out.2 hbw
      exact hgo

end Go.Proofs.Ytmcmeeibogkpaaa

namespace Go.Proofs.Ytmcmeeibogkpaaa
open Go.RowKit
open Go.Lib hiding intOf

def lowB (n : Int) : Int := if 65 ≤ n ∧ n ≤ 90 then n + 32 else n
/-- The bytes made small, as numbers. -/
def lowXs (s : ByteArray) : List Int := s.data.toList.map (fun b => lowB (b.toNat : Int))
def lowerOf (s : ByteArray) : ByteArray := strOfNums (lowXs s)
theorem lowXs_len (s : ByteArray) : (lowXs s).length = s.size := by simp [lowXs]
theorem lowXs_get (s : ByteArray) (j : Nat) (h : j < s.size) : (lowXs s).getD j 0 = lowB ((s[j]'h).toNat : Int) := by
  unfold lowXs
  rw [List.getD_eq_getElem?_getD, List.getElem?_map, byte_get s j h]
  rfl

/-- Within a rune of more than one byte every byte is at least 128, and it ends within the text. -/
theorem decode_skip (s : ByteArray) (pos : Nat) (hp : pos < s.size) : pos + (Utf8.decode s pos).2 ≤ s.size ∧ 1 ≤ (Utf8.decode s pos).2 ∧
    ∀ j (h : j < s.size), pos < j → j < pos + (Utf8.decode s pos).2 → 128 ≤ (s[j]'h).toNat := by
  have hg : ∀ k (h : pos + k < s.size), (s.get! (pos + k)).toNat = (s[pos + k]'h).toNat := by
    intro k h
    have : s.get! (pos + k) = s[pos + k]'h := get_at s (pos + k) h
    rw [this]
  have key : ∀ n : Nat, (∀ k, 1 ≤ k → k < n → pos + k < s.size ∧ (s.get! (pos + k)).toNat / 64 = 2) → ∀ j (h : j < s.size), pos < j → j < pos + n → 128 ≤ (s[j]'h).toNat := by
    intro n hn j h h1 h2
    obtain ⟨k, rfl⟩ : ∃ k, j = pos + k := ⟨j - pos, by omega⟩
    have := (hn k (by omega) (by omega)).2
    rw [hg k h] at this
    omega
  have one : ∀ j (h : j < s.size), pos < j → j < pos + 1 → 128 ≤ (s[j]'h).toNat := fun j _ h1 h2 => absurd h1 (by omega)
  simp only [Utf8.decode]
  split
  · exact ⟨by omega, by omega, one⟩
  · split
    · rename_i h2
      simp only [Bool.and_eq_true, beq_iff_eq, decide_eq_true_eq] at h2
      split
      · exact ⟨by dsimp only; omega, by dsimp only; omega, key 2 (fun k a b => by
          obtain rfl : k = 1 := by omega
          exact h2.2)⟩
      · exact ⟨by dsimp only; omega, by dsimp only; omega, one⟩
    · split
      · rename_i h3
        simp only [Bool.and_eq_true, beq_iff_eq, decide_eq_true_eq] at h3
        split
        · exact ⟨by dsimp only; omega, by dsimp only; omega, key 3 (fun k a b => by
            rcases (by omega : k = 1 ∨ k = 2) with rfl | rfl
            · exact h3.1.2
            · exact h3.2)⟩
        · exact ⟨by dsimp only; omega, by dsimp only; omega, one⟩
      · split
        · rename_i h4
          simp only [Bool.and_eq_true, beq_iff_eq, decide_eq_true_eq] at h4
          split
          · exact ⟨by dsimp only; omega, by dsimp only; omega, key 4 (fun k a b => by
              rcases (by omega : k = 1 ∨ k = 2 ∨ k = 3) with rfl | rfl | rfl
              · exact h4.1.1.2
              · exact h4.1.2
              · exact h4.2)⟩
          · exact ⟨by dsimp only; omega, by dsimp only; omega, one⟩
        · exact ⟨by dsimp only; omega, by dsimp only; omega, one⟩

/-- What stands in cell j when all ahead of 'pos' is made small. -/
def lowAt (s : ByteArray) (pos j : Nat) : Int := if j < pos then (lowXs s).getD j 0 else ((s.data.toList.getD j 0).toNat : Int)

theorem lowAt_zero (s : ByteArray) (j : Nat) : lowAt s 0 j = ((s.data.toList.getD j 0).toNat : Int) := by simp [lowAt]
theorem getD_byte (s : ByteArray) (j : Nat) (h : j < s.size) : s.data.toList.getD j 0 = s[j]'h := by
  rw [List.getD_eq_getElem?_getD, byte_get s j h]; rfl
theorem lowAt_end (s : ByteArray) (pos j : Nat) (hp : ¬ pos < s.size) (hj : j < s.size) : lowAt s pos j = (lowXs s).getD j 0 := by
  unfold lowAt; rw [if_pos (by omega)]
theorem lowAt_here (s : ByteArray) (pos : Nat) (h : pos < s.size) : lowAt s pos pos = ((s[pos]'h).toNat : Int) := by
  unfold lowAt; rw [if_neg (by omega), getD_byte s pos h]
/-- Where no byte from pos to q is a great letter, nothing is to be turned there. -/
theorem lowAt_skip (s : ByteArray) (pos q : Nat) (hpq : pos ≤ q) (hn : ∀ j (h : j < s.size), pos ≤ j → j < q → ¬ (65 ≤ (s[j]'h).toNat ∧ (s[j]'h).toNat ≤ 90)) (j : Nat) (hj : j < s.size) : lowAt s q j = lowAt s pos j := by
  unfold lowAt
  by_cases h1 : j < pos
  · rw [if_pos h1, if_pos (by omega)]
  · rw [if_neg h1]
    by_cases h2 : j < q
    · rw [if_pos h2, lowXs_get s j hj, getD_byte s j hj]
      have := hn j hj (by omega) h2
      unfold lowB
      rw [if_neg (by omega)]
    · rw [if_neg h2]
theorem lowAt_hit (s : ByteArray) (pos : Nat) (h : pos < s.size) (hu : 65 ≤ (s[pos]'h).toNat ∧ (s[pos]'h).toNat ≤ 90) : lowAt s (pos + 1) pos = ((s[pos]'h).toNat : Int) + 32 := by
  unfold lowAt
  rw [if_pos (by omega), lowXs_get s pos h]
  unfold lowB
  rw [if_pos (by omega)]
theorem lowAt_other (s : ByteArray) (pos j : Nat) (h : j ≠ pos) : lowAt s (pos + 1) j = lowAt s pos j := by
  unfold lowAt
  by_cases h1 : j < pos
  · rw [if_pos h1, if_pos (by omega)]
  · rw [if_neg h1, if_neg (by omega)]

/-- Behind a call that only makes memory the iterator stands where it was set, and every other block as it was. -/
theorem iter_step_at {w wr w1 : World} {B k : Nat} {s : ByteArray} {pos p1 : Nat} (hB : B ≤ k) (hh : wr.heap[k]? = some (.stringIter s pos)) (hbw : Below B w wr)
    (hb1 : Below (wr.iterAt k s p1).heap.size (wr.iterAt k s p1) w1) : w1.heap[k]? = some (.stringIter s p1) ∧ Below B w w1 ∧ ∀ j, j ≠ k → j < wr.heap.size → w1.heap[j]? = wr.heap[j]? := by
  have hlt : k < wr.heap.size := (Array.getElem?_eq_some_iff.1 hh).1
  refine ⟨?_, ?_, ?_⟩
  · rw [hb1.block _ (by rw [iterAt_size]; exact hlt)]
    exact iterAt_heap _ _ _ _ _ hh
  · exact (below_iterAt hbw hB s p1).trans (hb1.mono (by rw [iterAt_size]; omega))
  · intro j hj hjl
    rw [hb1.block _ (by rw [iterAt_size]; exact hjl)]
    exact iterAt_other _ _ _ _ _ hj

set_option maxHeartbeats 1000000 in
theorem implLower_any (s : ByteArray) (w : World) :
    Calls Try.prog 46 #[.string s] w fun e w' => TextIs (lowerOf s) w e w' := by
  obtain ⟨W0, cap, hcv, hsz, hcells, hfz, hbel⟩ : ∃ (W0 : World) (cap : Nat), (convert 9 58 (.string s)).run Try.prog w = .ok (.slice (some ⟨w.heap.size, 0, none⟩) s.size cap) W0 ∧ W0.heap.size = w.heap.size + 1 ∧
      Hid (∀ j, j < s.size → W0.cell? ⟨w.heap.size, j, none⟩ = some (.int .u8 (lowAt s 0 j))) ∧ Hid (∀ j, j < s.size → W0.frozen? ⟨w.heap.size, j, none⟩ = false) ∧ Below w.heap.size w W0 := by
    refine ⟨_, _, Lib.run_convert_string_bytes (P := Try.prog) w 9 58 5 s Try.underlying9 Try.underlying58 Try.underlying5, bytesWorld_size _ _ _, ?_, ?_, ?_⟩
    · intro j hj; rw [lowAt_zero]; exact bytesWorld_cell w 5 s j hj
    · intro j hj
      have hle : s.size ≤ (bytesCells w 5 s).size := by simp [bytesCells]
      simp [World.frozen?, bytesWorld_at_new]
      omega
    · exact ⟨rfl, rfl, rfl, by rw [bytesWorld_size]; omega, fun k hk => bytesWorld_at_old w 5 s k hk⟩
  go_enter Try.func46, Try.ntmps46
  go_wp2
  go_loopw [4] (fun _ wr => ∃ pos : Nat, pos ≤ s.size ∧ wr.heap[w.heap.size + 1]? = some (.stringIter s pos) ∧ Below w.heap.size w wr ∧ Hid (∀ j, j < s.size → wr.cell? ⟨w.heap.size, j, none⟩ = some (.int .u8 (lowAt s pos j))) ∧ Hid (∀ j, j < s.size → wr.frozen? ⟨w.heap.size, j, none⟩ = false)) (fun _ wr => s.size - wr.iterPos (w.heap.size + 1))
  case atStart =>
    refine ⟨0, Nat.zero_le _, ?_, ?_, ?_, ?_⟩
    · rw [← hsz]; exact World.iter_heap _ _ _
    · exact hbel.alloc (by omega) _
    · intro j hj; rw [← hcells.out j hj]; exact World.cell?_alloc_lt _ _ _ (by simp; omega)
    · intro j hj; rw [← hfz.out j hj]; exact World.frozen?_alloc_old _ _ _ (by simp; omega)
  case round =>
    clear hcells hfz
    obtain ⟨pos, hpos, hh, hbw, hcells, hfz⟩ := hrel
    by_cases hp : pos < s.size
    · by_cases hu : 65 ≤ (s[pos]'hp).toNat ∧ (s[pos]'hp).toNat ≤ 90
      · have hnx := fun ty => run_next_ascii_at (P := Try.prog) wr (w.heap.size + 1) s pos ty hh hp (by omega)
        have hcl : (cls ((s[pos]'hp).toNat : Int) == 0) = true := by
          have := cls_spec ((s[pos]'hp).toNat : Int)
          rw [beq_iff_eq]; omega
        have hu1 : (65 : Int) ≤ ((s[pos]'hp).toNat : Int) := by omega
        have hu2 : ((s[pos]'hp).toNat : Int) ≤ 90 := by omega
        have HU : Hid (65 ≤ (s[pos]'hp).toNat ∧ (s[pos]'hp).toNat ≤ 90) := hu
        clear hu
        have hNw : w.heap.size < wr.heap.size := by
          have := (Array.getElem?_eq_some_iff.1 hh).1
          omega
        go_wp2_with fail
        refine (classOf_any _ _).mono ?_
        rintro e w1 ⟨rfl, hb1⟩
        obtain ⟨p1, p2, p3⟩ := iter_step_at (by omega) hh hbw hb1
        have hblk : w1.heap[w.heap.size]? = wr.heap[w.heap.size]? := p3 _ (by omega) hNw
        have hc1 : w1.cell? ⟨w.heap.size, pos, none⟩ = some (.int .u8 ((s[pos]'hp).toNat : Int)) := by
          rw [World.cell?_of_block (w := wr) hblk, hcells.out pos hp, lowAt_here s pos hp]
        have hf1 : w1.frozen? ⟨w.heap.size, pos, none⟩ = false := by
          rw [World.frozen?_of_block (w := wr) hblk]; exact hfz.out pos hp
        have HB : Hid (w1.heap[w.heap.size]? = wr.heap[w.heap.size]?) := hblk
        have H1 : Hid (w1.heap[w.heap.size + 1]? = some (.stringIter s (pos + 1))) := p1
        have HH : Hid (wr.heap[w.heap.size + 1]? = some (.stringIter s pos)) := hh
        clear hblk p3 hb1 hnx hh p1
        go_wp2
        have hit2 : (w1.setCell ⟨w.heap.size, pos, none⟩ (.int .u8 (((s[pos]'hp).toNat : Int) + 32))).heap[w.heap.size + 1]? = some (.stringIter s (pos + 1)) := by
          rw [Below.heap_setCell _ _ _ _ (by simp)]; exact H1.out
        refine ⟨⟨pos + 1, by omega, hit2, p2.setCell (Nat.le_refl _) _, ?_, ?_⟩, by rw [iterPos_of hit2, iterPos_of HH.out]; omega⟩
        · intro j hj
          by_cases e : j = pos
          · subst e
            rw [World.cell?_setCell_same _ _ _ hc1, lowAt_hit s j hp HU.out]
          · rw [World.cell?_setCell_other (h := fun h => e (by cases h; rfl)), World.cell?_of_block (w := wr) HB.out, lowAt_other s pos j e]
            exact hcells.out j hj
        · intro j hj
          rw [World.frozen?_setCell, World.frozen?_of_block (w := wr) HB.out]; exact hfz.out j hj
      · have hnx := fun ty => run_next_any_at (P := Try.prog) wr (w.heap.size + 1) s pos ty hh hp
        obtain ⟨d1, d2, d3⟩ := decode_skip s pos hp
        have hcl : (cls ((Utf8.decode s pos).1 : Int) == 0) = false := by
          have := cls_spec ((Utf8.decode s pos).1 : Int)
          rw [beq_eq_false_iff_ne]
          by_cases ha : (s[pos]'hp).toNat < 128
          · rw [decode_ascii s pos hp ha] at this ⊢
            dsimp only at this ⊢
            omega
          · have := (decode_high s pos hp (by omega)).1
            omega
        have hsk : ∀ j, j < s.size → lowAt s (pos + (Utf8.decode s pos).2) j = lowAt s pos j := fun j hj => lowAt_skip s pos _ (by omega) (fun i hi h1 h2 => by
          by_cases e : i = pos
          · subst e; exact hu
          · have := d3 i hi (by omega) h2; omega) j hj
        have HS : Hid (∀ j, j < s.size → lowAt s (pos + (Utf8.decode s pos).2) j = lowAt s pos j) := hsk
        have hNw : w.heap.size < wr.heap.size := by
          have := (Array.getElem?_eq_some_iff.1 hh).1
          omega
        clear hu d3 hsk
        go_wp2_with (go_at_call 52; refine (classOf_any _ _).mono ?_; rintro e w1 ⟨rfl, hb1⟩)
        obtain ⟨p1, p2, p3⟩ := iter_step_at (by omega) hh hbw hb1
        have hblk : w1.heap[w.heap.size]? = wr.heap[w.heap.size]? := p3 _ (by omega) hNw
        refine ⟨⟨_, d1, p1, p2, ?_, ?_⟩, by rw [iterPos_of p1, iterPos_of hh]; omega⟩
        · intro j hj
          rw [World.cell?_of_block (w := wr) hblk, HS.out j hj]; exact hcells.out j hj
        · intro j hj
          rw [World.frozen?_of_block (w := wr) hblk]; exact hfz.out j hj
    · have hnx := fun ty => run_next_end_at (P := Try.prog) wr (w.heap.size + 1) s pos ty hh hp
      have hback := run_convert_bytes_arg (P := Try.prog) wr 58 5 Try.underlying58 Try.underlying5 w.heap.size 0 s.size cap (lowXs s) (lowXs_len s) (fun i hi => by
        rw [Nat.zero_add, hcells.out i hi, lowAt_end s pos i hp hi]) 9 Try.underlying9
      go_wp2
      go_ret
      exact TextIs.of rfl hbw

/-- The first k bytes made small, as values. -/
def lowVs (s : ByteArray) (k : Nat) : List Value := ((lowXs s).take k).map (Value.int .u8)
theorem lowVs_succ (s : ByteArray) (k : Nat) (h : k < s.size) : lowVs s (k + 1) = lowVs s k ++ [Value.int .u8 (lowB ((s[k]'h).toNat : Int))] := by
  have hl : k < (lowXs s).length := by rw [lowXs_len]; exact h
  unfold lowVs
  rw [List.take_succ_eq_append_getElem hl, List.map_append]
  have := lowXs_get s k h
  rw [List.getD_eq_getElem?_getD, List.getElem?_eq_getElem hl] at this
  simp at this
  simp [this]
theorem lowVs_end (s : ByteArray) (k : Nat) (h : ¬ k < s.size) : lowVs s k = (lowXs s).map (Value.int .u8) := by
  unfold lowVs; rw [List.take_of_length_le (by rw [lowXs_len]; omega)]
/-- What is owned lies from the base on. -/
theorem owns_ge {w : World} {base : Nat} {e : TypeId} {size : Nat} {v : Value} {n g : Nat} {xs : List Value} (h : w.ownsRow base e size v n xs) (hg : v.ownBlock = some g) : base ≤ g := by
  rcases h.2 with ⟨rfl, _⟩ | ⟨g', cap, cur, rfl, hb, _⟩
  · simp [Value.ownBlock] at hg
  · simp [Value.ownBlock] at hg; omega
theorem one_byte (V : Int) : ∀ u ∈ [Value.int .u8 V], u.oneCell' = true := by intro u hu; simp at hu; subst hu; rfl
/-- An owned row of bytes, turned into a text. -/
theorem conv_owned {w : World} {base n : Nat} {v : Value} {xs : List Int} (h : w.ownsRow base 5 1 v n (xs.map (Value.int .u8))) : (convert 58 9 v).run Try.prog w = .ok (.string (strOfNums xs)) w := by
  obtain ⟨hl, hv⟩ := h
  simp at hl
  rcases hv with ⟨rfl, h0⟩ | ⟨g, cap, cur, rfl, _, hg, hn, _, hcs, htk⟩
  · have : xs = [] := List.length_eq_zero_iff.1 (by omega)
    subst this
    exact run_convert_bytes_nil (P := Try.prog) w 58 5 Try.underlying58 Try.underlying5 0 0 9 Try.underlying9
  · refine run_convert_bytes_arg (P := Try.prog) w 58 5 Try.underlying58 Try.underlying5 g 0 n cap xs hl (fun i hi => ?_) 9 Try.underlying9
    have h1 : (cur.toList.take (n * 1))[i]? = some (.int .u8 (xs.getD i 0)) := by
      rw [htk, List.getElem?_map, List.getD_eq_getElem?_getD, List.getElem?_eq_getElem (by omega)]
      simp
    rw [List.getElem?_take, if_pos (by omega)] at h1
    simp only [World.cell?, hg, Nat.zero_add]
    simpa using h1

set_option maxHeartbeats 1000000 in
set_option maxRecDepth 100000 in
theorem specLower_any (s : ByteArray) (w : World) (hs : s.size ≤ 1048576) :
    Calls Try.prog 31 #[.string s] w fun e w' => TextIs (lowerOf s) w e w' := by
  obtain ⟨i0, hi, hz0, hz1, hz2⟩ := info_parts info5
  go_enter Try.func31, Try.ntmps31
  go_wp2
  go_loopw [3, 4] (fun v i wr => ∃ k : Nat, k ≤ s.size ∧ i = .int .i64 k ∧ wr.ownsRow w.heap.size 5 1 v k (lowVs s k) ∧ Below w.heap.size w wr) (fun _ i _ => s.size - (intOf i).toNat)
  case atStart => exact ⟨0, Nat.zero_le _, rfl, ⟨by simp [lowVs], .inr ⟨w.heap.size, 0, #[], rfl, Nat.le_refl _, heap_alloc_new w _, Nat.le_refl _, Nat.zero_le _, rfl, rfl⟩⟩, (Below.refl _ _).alloc (Nat.le_refl _) _⟩
  case round =>
    obtain ⟨k, hk, rfl, hown, hbw⟩ := hrel
    by_cases hlt : k < s.size
    · have hb := (s[k]'hlt).toNat_lt
      have HST : Hid _ := lowVs_succ s k hlt
      have h63 : k + 1 ≤ maxLen := by unfold maxLen; omega
      have h47 : (k + 1) * 1 ≤ 140737488355328 := by omega
      have HBS : ∀ o, w.heap.size ≤ (wr.alloc o).heap.size := fun o => by have := hbw.size; simp; omega
      by_cases hu : (65 : Int) ≤ ((s[k]'hlt).toNat : Int) ∧ ((s[k]'hlt).toNat : Int) ≤ 90
      · have hV : Hid (((s[k]'hlt).toNat : Int) + 32 = lowB ((s[k]'hlt).toNat : Int)) := by show _ = _; unfold lowB; rw [if_pos hu]
        obtain ⟨hu1, hu2⟩ := hu
        go_wp2_with (at_builtin; refine wpList_append_own _ rfl _ _ 58 rfl w.heap.size 5 i0 (.int .u8 0) 1 1 Try.underlying58 hi hz0 hz1 hz2 rfl (by decide) _ _ _ rfl (hown.alloc _) ⟨wr.heap.size, 0, none⟩ 1 1 [.int .u8 (((s[k]'hlt).toNat : Int) + 32)] rfl rfl (cell_one_new _ _ _) (one_byte _) h63 h47 (HBS _) ?_)
        intro v1 w1 hown1 hgrow _
        have hb2 : Below w.heap.size w w1 := (hbw.alloc hbw.size _).grown hgrow (by have := hbw.size; simp; omega) (fun g hg => owns_ge hown hg)
        rw [hV.out, ← HST.out] at hown1
        clear hgrow hown hbw
        go_wp2
        go_roundw
        case rel => exact ⟨k + 1, by omega, by go_num, hown1, hb2⟩
        case measure => simp [intOf]; omega
      · have hV : Hid (((s[k]'hlt).toNat : Int) = lowB ((s[k]'hlt).toNat : Int)) := by show _ = _; unfold lowB; rw [if_neg hu]
        have hcase : ((s[k]'hlt).toNat : Int) < 65 ∨ (65 : Int) ≤ ((s[k]'hlt).toNat : Int) ∧ (90 : Int) < ((s[k]'hlt).toNat : Int) := by omega
        clear hu
        rcases hcase with hc | ⟨hc, hc2⟩
        · go_wp2_with (at_builtin; refine wpList_append_own _ rfl _ _ 58 rfl w.heap.size 5 i0 (.int .u8 0) 1 1 Try.underlying58 hi hz0 hz1 hz2 rfl (by decide) _ _ _ rfl (hown.alloc _) ⟨wr.heap.size, 0, none⟩ 1 1 [.int .u8 ((s[k]'hlt).toNat : Int)] rfl rfl (cell_one_new _ _ _) (one_byte _) h63 h47 (HBS _) ?_)
          intro v1 w1 hown1 hgrow _
          have hb2 : Below w.heap.size w w1 := (hbw.alloc hbw.size _).grown hgrow (by have := hbw.size; simp; omega) (fun g hg => owns_ge hown hg)
          have hown2 : w1.ownsRow w.heap.size 5 1 v1 (k + 1) (lowVs s (k + 1)) := by rw [HST.out, ← hV.out]; exact hown1
          clear hown1
          clear hgrow hown hbw
          go_wp2
          go_roundw
          case rel => exact ⟨k + 1, by omega, by go_num, hown2, hb2⟩
          case measure => simp [intOf]; omega
        · go_wp2_with (at_builtin; refine wpList_append_own _ rfl _ _ 58 rfl w.heap.size 5 i0 (.int .u8 0) 1 1 Try.underlying58 hi hz0 hz1 hz2 rfl (by decide) _ _ _ rfl (hown.alloc _) ⟨wr.heap.size, 0, none⟩ 1 1 [.int .u8 ((s[k]'hlt).toNat : Int)] rfl rfl (cell_one_new _ _ _) (one_byte _) h63 h47 (HBS _) ?_)
          intro v1 w1 hown1 hgrow _
          have hb2 : Below w.heap.size w w1 := (hbw.alloc hbw.size _).grown hgrow (by have := hbw.size; simp; omega) (fun g hg => owns_ge hown hg)
          have hown2 : w1.ownsRow w.heap.size 5 1 v1 (k + 1) (lowVs s (k + 1)) := by rw [HST.out, ← hV.out]; exact hown1
          clear hown1
          clear hgrow hown hbw
          go_wp2
          go_roundw
          case rel => exact ⟨k + 1, by omega, by go_num, hown2, hb2⟩
          case measure => simp [intOf]; omega
    · have hcv := conv_owned (by rw [lowVs_end s k hlt] at hown; exact hown)
      go_wp2
      go_ret
      exact TextIs.of rfl hbw

end Go.Proofs.Ytmcmeeibogkpaaa

namespace Go.Proofs.Ytmcmeeibogkpaaa
open Go.RowKit
open Go.Lib hiding intOf

/-- A part is taken where it is not empty. -/
def addPart (l : List ByteArray) (t : ByteArray) : List ByteArray := if t.size = 0 then l else l ++ [t]
/-- What is gathered ahead of byte k, and where the part that is begun begins. -/
def splitTo (s : ByteArray) : Nat → List ByteArray × Nat
  | 0 => ([], 0)
  | k + 1 => if (s.data.toList.getD k 0).toNat = 44 then (addPart (splitTo s k).1 (trimOf (s.extract (splitTo s k).2 k)), k + 1) else splitTo s k
def splitL (s : ByteArray) : List ByteArray := addPart (splitTo s s.size).1 (trimOf (s.extract (splitTo s s.size).2 s.size))

theorem addPart_len (l : List ByteArray) (t : ByteArray) : (addPart l t).length ≤ l.length + 1 := by
  unfold addPart; split <;> simp
theorem splitTo_le (s : ByteArray) : ∀ k, (splitTo s k).2 ≤ k ∧ (splitTo s k).1.length ≤ k := by
  intro k
  induction k with
  | zero => simp [splitTo]
  | succ k ih =>
    rw [splitTo]
    split
    · have := addPart_len (splitTo s k).1 (trimOf (s.extract (splitTo s k).2 k))
      dsimp only; omega
    · omega
theorem splitTo_comma (s : ByteArray) (k : Nat) (h : k < s.size) (hc : (s[k]'h).toNat = 44) : splitTo s (k + 1) = (addPart (splitTo s k).1 (trimOf (s.extract (splitTo s k).2 k)), k + 1) := by
  rw [splitTo, getD_byte s k h, if_pos hc]
theorem splitTo_other (s : ByteArray) (k : Nat) (h : k < s.size) (hc : (s[k]'h).toNat ≠ 44) : splitTo s (k + 1) = splitTo s k := by
  rw [splitTo, getD_byte s k h, if_neg hc]
theorem splitTo_skip (s : ByteArray) (k : Nat) : ∀ d, k + d ≤ s.size → (∀ j (h : j < s.size), k ≤ j → j < k + d → (s[j]'h).toNat ≠ 44) → splitTo s (k + d) = splitTo s k := by
  intro d
  induction d with
  | zero => intro _ _; rfl
  | succ d ih =>
    intro hd hn
    rw [show k + (d + 1) = (k + d) + 1 by omega, splitTo_other s (k + d) (by omega) (hn _ _ (by omega) (by omega))]
    exact ih (by omega) (fun j h h1 h2 => hn j h h1 (by omega))

/-- A call answers a list of these texts in memory of its own, from block 'base' on, and turns nothing below it. -/
def RowIs (base : Nat) (xs : List ByteArray) (w : World) (e : Ending) (w' : World) : Prop :=
  ∃ v, e = .returned v ∧ w'.ownsRow base 9 1 v xs.length (xs.map Value.string) ∧ Below base w w'
theorem RowIs.of {base : Nat} {xs ys : List ByteArray} {w w' : World} {v : Value} {n : Nat} (h : ys = xs) (hn : n = ys.length) (hown : w'.ownsRow base 9 1 v n (ys.map Value.string)) (hb : Below base w w') : RowIs base xs w (.returned v) w' := by
  subst h; subst hn; exact ⟨v, rfl, hown, hb⟩
/-- What is owned stays so in every later world that keeps what was there. -/
theorem owns_below {w w' : World} {base B : Nat} {e : TypeId} {size : Nat} {v : Value} {n : Nat} {xs : List Value} (h : w.ownsRow base e size v n xs) (hb : Below B w w') (hB : ∀ g, v.ownBlock = some g → g < B) : w'.ownsRow base e size v n xs := by
  refine ⟨h.1, ?_⟩
  rcases h.2 with h2 | ⟨g, cap, cur, rfl, h3, h4, h5⟩
  · exact .inl h2
  · exact .inr ⟨g, cap, cur, rfl, h3, by rw [hb.block g (hB g rfl)]; exact h4, h5⟩
theorem owns_lt {w : World} {base : Nat} {e : TypeId} {size : Nat} {v : Value} {n g : Nat} {xs : List Value} (h : w.ownsRow base e size v n xs) (hg : v.ownBlock = some g) : g < w.heap.size := by
  rcases h.2 with ⟨rfl, _⟩ | ⟨g', cap, cur, rfl, hb, hh, _⟩
  · simp [Value.ownBlock] at hg
  · simp [Value.ownBlock] at hg
    subst hg
    exact (Array.getElem?_eq_some_iff.1 hh).1
theorem owns_base {w : World} {base b : Nat} {e : TypeId} {size : Nat} {v : Value} {n : Nat} {xs : List Value} (h : w.ownsRow base e size v n xs) (hb : b ≤ base) : w.ownsRow b e size v n xs := by
  refine ⟨h.1, ?_⟩
  rcases h.2 with h2 | ⟨g, cap, cur, h3, h4, h5⟩
  · exact .inl h2
  · exact .inr ⟨g, cap, cur, h3, by omega, h5⟩
theorem one_text (t : ByteArray) : ∀ u ∈ [Value.string t], u.oneCell' = true := by intro u hu; simp at hu; subst hu; rfl
theorem info9 : (Try.prog.info? 9).map (fun i => (i.zero, i.size, i.bytes)) = some (some (.string ⟨#[]⟩), 1, 16) := by kernel_rfl

theorem addPart_no {l : List ByteArray} {t : ByteArray} (h : t.toList.isEmpty = true) : addPart l t = l := by
  unfold addPart
  have : t.size = 0 := by
    rw [ByteArray.toList_eq] at h
    have := List.isEmpty_iff.1 h
    have h2 : t.data.toList.length = t.size := by simp
    rw [this] at h2; simpa using h2.symm
  rw [if_pos this]
theorem addPart_yes {l : List ByteArray} {t : ByteArray} (h : t.toList.isEmpty = false) : addPart l t = l ++ [t] := by
  unfold addPart
  have : t.size ≠ 0 := by
    intro hc
    rw [isEmpty_yes hc] at h; cases h
  rw [if_neg this]

set_option maxHeartbeats 1000000 in
set_option maxRecDepth 100000 in
theorem appendPart_any (base : Nat) (v : Value) (n : Nat) (xs : List ByteArray) (raw : ByteArray) (w : World) (hx : n = xs.length) (hown : w.ownsRow base 9 1 v n (xs.map Value.string)) (hbase : base ≤ w.heap.size) (hn : n ≤ 1048577) (hraw : raw.size ≤ 281474976710656) :
    Calls Try.prog 53 #[v, .string raw] w fun e w' => RowIs base (addPart xs (trimOf raw)) w e w' := by
  obtain ⟨i0, hi, hz0, hz1, hz2⟩ := info_parts info9
  have h63 : n + 1 ≤ maxLen := by unfold maxLen; omega
  have h47 : (n + 1) * 16 ≤ 140737488355328 := by omega
  have HX : Hid (n = xs.length) := hx
  clear hx
  cases he : (trimOf raw).toList.isEmpty
  · have HE : Hid _ := addPart_yes (l := xs) he
    go_enter Try.func53, Try.ntmps53
    go_wp2_with fail
    refine (implTrim_any _ _ hraw).mono ?_
    rintro e w1 ⟨rfl, hb1⟩
    have hown1 := owns_below hown hb1 (fun g hg => owns_lt hown hg)
    have HBS : ∀ o, base ≤ (w1.alloc o).heap.size := fun o => by have := hb1.size; simp; omega
    go_wp2_with (at_builtin; refine wpList_append_own _ rfl _ _ 52 rfl base 9 i0 (.string ⟨#[]⟩) 1 16 Try.underlying52 hi hz0 hz1 hz2 rfl (by decide) _ _ _ rfl (hown1.alloc _) ⟨w1.heap.size, 0, none⟩ 1 1 [.string (trimOf raw)] rfl rfl (cell_one_new _ _ _) (one_text _) h63 h47 (HBS _) ?_)
    intro v1 w2 hown2 hgrow _
    have hb2 : Below base w w2 := (((hb1.mono hbase).alloc (Nat.le_trans hbase hb1.size) _).grown hgrow (HBS _) (fun g hg => owns_ge hown hg))
    clear hown hown1 HBS hgrow
    go_wp2
    go_ret
    refine RowIs.of (n := n + 1) (ys := xs ++ [trimOf raw]) HE.out.symm (by rw [HX.out]; simp) (by simpa using hown2) hb2
  · have HE : Hid _ := addPart_no (l := xs) he
    go_enter Try.func53, Try.ntmps53
    go_wp2_with (go_at_call 62; refine (implTrim_any _ _ hraw).mono ?_; rintro e w1 ⟨rfl, hb1⟩)
    go_ret
    exact RowIs.of (ys := xs) HE.out.symm HX.out (owns_below hown hb1 (fun g hg => owns_lt hown hg)) (hb1.mono hbase)

set_option maxHeartbeats 1000000 in
theorem implSplit_any (s : ByteArray) (w : World) (hs : s.size ≤ 1048576) :
    Calls Try.prog 43 #[.string s] w fun e w' => RowIs w.heap.size (splitL s) w e w' := by
  go_enter Try.func43, Try.ntmps43
  go_wp2
  go_loopw [3, 4] (fun v i wr => ∃ pos f : Nat, pos ≤ s.size ∧ f ≤ pos ∧ i = .int .i64 (f : Int) ∧ wr.heap[w.heap.size]? = some (.stringIter s pos) ∧ Below w.heap.size w wr ∧
      Hid (f = (splitTo s pos).2) ∧ wr.ownsRow (w.heap.size + 1) 9 1 v (splitTo s pos).1.length ((splitTo s pos).1.map Value.string)) (fun _ _ wr => s.size - wr.iterPos w.heap.size)
  case atStart => exact ⟨0, 0, Nat.zero_le _, Nat.le_refl _, rfl, World.iter_heap _ _ _, (Below.refl _ _).alloc (Nat.le_refl _) _, rfl, World.ownsRow_nil _ _ _ _⟩
  case round =>
    obtain ⟨pos, f, hpos, hfp, rfl, hh, hbw, hf, hown⟩ := hrel
    have hlp := splitTo_le s pos
    have hNw : w.heap.size < wr.heap.size := (Array.getElem?_eq_some_iff.1 hh).1
    by_cases hp : pos < s.size
    · by_cases hc : (s[pos]'hp).toNat = 44
      · have hnx := fun ty => run_next_ascii_at (P := Try.prog) wr w.heap.size s pos ty hh hp (by omega)
        have hcl : (cls ((s[pos]'hp).toNat : Int) == 5) = true := by
          have := cls_spec ((s[pos]'hp).toNat : Int)
          rw [beq_iff_eq]; omega
        have HC : Hid _ := splitTo_comma s pos hp hc
        clear hc
        go_wp2_with fail
        refine (classOf_any _ _).mono ?_
        rintro e w1 ⟨rfl, hb1⟩
        obtain ⟨p1, p2⟩ := iter_step hh hbw hb1
        have hs1 : wr.heap.size ≤ w1.heap.size := by have := hb1.size; rw [iterAt_size] at this; exact this
        have hown1 : w1.ownsRow (w.heap.size + 1) 9 1 u3 (splitTo s pos).1.length ((splitTo s pos).1.map Value.string) :=
          owns_below (ownsRow_iterAt hown (Nat.lt_succ_self _) s (pos + 1)) hb1 (fun g hg => by rw [iterAt_size]; exact owns_lt hown hg)
        have HH : Hid (wr.heap[w.heap.size]? = some (.stringIter s pos)) := hh
        clear hown hb1 hnx hh
        go_wp2_with fail
        refine (appendPart_any (w.heap.size + 1) _ _ _ _ _ rfl hown1 (by omega) (by omega) (by simp; omega)).mono ?_
        rintro e w2 ⟨v2, rfl, hown2, hb2⟩
        have hit2 : w2.heap[w.heap.size]? = some (.stringIter s (pos + 1)) := by rw [hb2.block _ (Nat.lt_succ_self _)]; exact p1
        have hown3 : w2.ownsRow (w.heap.size + 1) 9 1 v2 (splitTo s (pos + 1)).1.length ((splitTo s (pos + 1)).1.map Value.string) := by
          rw [HC.out, ← hf.out]; exact hown2
        have H2 : Hid (pos + 1 = (splitTo s (pos + 1)).2) := by show _ = _; rw [HC.out]
        have hb3 : Below w.heap.size w w2 := p2.trans (hb2.mono (by omega))
        clear hown1 hown2 hb2 p1 p2 hlp
        go_wp2
        go_roundw
        case rel => exact ⟨pos + 1, pos + 1, by omega, by omega, by go_num, hit2, hb3, H2, hown3⟩
        case measure => rw [iterPos_of hit2, iterPos_of HH.out]; omega
      · have hnx := fun ty => run_next_any_at (P := Try.prog) wr w.heap.size s pos ty hh hp
        obtain ⟨d1, d2, d3⟩ := decode_skip s pos hp
        have hcl : (cls ((Utf8.decode s pos).1 : Int) == 5) = false := by
          have := cls_spec ((Utf8.decode s pos).1 : Int)
          rw [beq_eq_false_iff_ne]
          by_cases ha : (s[pos]'hp).toNat < 128
          · rw [decode_ascii s pos hp ha] at this ⊢
            dsimp only at this ⊢
            omega
          · have := (decode_high s pos hp (by omega)).1
            omega
        have HS : Hid _ := splitTo_skip s pos (Utf8.decode s pos).2 d1 (fun j h h1 h2 => by
          by_cases e : j = pos
          · subst e; exact hc
          · have := d3 j h (by omega) h2; omega)
        clear hc d3
        go_wp2_with (go_at_call 52; refine (classOf_any _ _).mono ?_; rintro e w1 ⟨rfl, hb1⟩)
        obtain ⟨p1, p2⟩ := iter_step hh hbw hb1
        have hown1 : w1.ownsRow (w.heap.size + 1) 9 1 u3 (splitTo s pos).1.length ((splitTo s pos).1.map Value.string) :=
          owns_below (ownsRow_iterAt hown (Nat.lt_succ_self _) s _) hb1 (fun g hg => by rw [iterAt_size]; exact owns_lt hown hg)
        refine ⟨⟨_, f, d1, by omega, rfl, p1, p2, by rw [HS.out]; exact hf, by rw [HS.out]; exact hown1⟩, by rw [iterPos_of p1, iterPos_of hh]; omega⟩
    · have hnx := fun ty => run_next_end_at (P := Try.prog) wr w.heap.size s pos ty hh hp
      have hsp : pos = s.size := by omega
      have HL : Hid (addPart (splitTo s pos).1 (trimOf (s.extract f s.size)) = splitL s) := by
        show _ = _
        unfold splitL; rw [hf.out, hsp]
      clear hsp
      go_wp2_with fail
      refine (appendPart_any (w.heap.size + 1) _ _ _ _ _ rfl hown (by omega) (by omega) (by simp; omega)).mono ?_
      rintro e w2 ⟨v2, rfl, hown2, hb2⟩
      have hb3 : Below w.heap.size w w2 := hbw.trans (hb2.mono (by omega))
      clear hown hb2 hnx hh
      go_wp2
      go_ret
      exact RowIs.of HL.out rfl (owns_base hown2 (by omega)) hb3

/-- The same, and behind the last byte the whole. -/
def stTo (s : ByteArray) (k : Nat) : List ByteArray × Nat := if k ≤ s.size then splitTo s k else (splitL s, k)
theorem stTo_part (s : ByteArray) (k : Nat) (h : (∃ h : k < s.size, (s[k]'h).toNat = 44) ∨ k = s.size) : stTo s (k + 1) = (addPart (stTo s k).1 (trimOf (s.extract (stTo s k).2 k)), k + 1) := by
  rcases h with ⟨h, hc⟩ | rfl
  · unfold stTo
    rw [if_pos (by omega), if_pos (by omega), splitTo_comma s k h hc]
  · unfold stTo
    rw [if_neg (by omega), if_pos (by omega)]; rfl
theorem stTo_other (s : ByteArray) (k : Nat) (h : k < s.size) (hc : (s[k]'h).toNat ≠ 44) : stTo s (k + 1) = stTo s k := by
  unfold stTo
  rw [if_pos (by omega), if_pos (by omega), splitTo_other s k h hc]
theorem stTo_end (s : ByteArray) (k : Nat) (h : ¬ k ≤ s.size) : (stTo s k).1 = splitL s := by
  unfold stTo; rw [if_neg h]
theorem stTo_le (s : ByteArray) (k : Nat) (h : k ≤ s.size) : (stTo s k).2 ≤ k ∧ (stTo s k).1.length ≤ k := by
  unfold stTo; rw [if_pos h]; exact splitTo_le s k

set_option maxHeartbeats 2000000 in
set_option maxRecDepth 100000 in
theorem specSplit_any (s : ByteArray) (w : World) (hs : s.size ≤ 1048576) :
    Calls Try.prog 30 #[.string s] w fun e w' => RowIs w.heap.size (splitL s) w e w' := by
  obtain ⟨i0, hi, hz0, hz1, hz2⟩ := info_parts info9
  go_enter Try.func30, Try.ntmps30
  go_wp2
  go_loopw [3, 4, 5] (fun v a i wr => ∃ (k f : Nat) (l : List ByteArray), k ≤ s.size + 1 ∧ f ≤ k ∧ i = .int .i64 (k : Int) ∧ a = .int .i64 (f : Int) ∧ Below w.heap.size w wr ∧
      Hid (f = (stTo s k).2) ∧ Hid (l = (stTo s k).1) ∧ wr.ownsRow w.heap.size 9 1 v l.length (l.map Value.string)) (fun _ _ i _ => s.size + 1 - (intOf i).toNat)
  case atStart =>
    refine ⟨0, 0, [], Nat.zero_le _, Nat.le_refl _, rfl, rfl, (Below.refl _ _).alloc (Nat.le_refl _) _, ?_, ?_, ⟨rfl, .inr ⟨w.heap.size, 0, #[], rfl, Nat.le_refl _, heap_alloc_new w _, Nat.le_refl _, Nat.zero_le _, rfl, rfl⟩⟩⟩
    · show _ = _; simp [stTo, splitTo]
    · show _ = _; simp [stTo, splitTo]
  case round =>
    obtain ⟨k, f, l, hk, hfk, rfl, rfl, hbw, hf, hl, hown⟩ := hrel
    by_cases hks : k ≤ s.size
    · have hlk : l.length ≤ 1048577 := by have := (stTo_le s k hks).2; rw [← hl.out] at this; omega
      have h63 : l.length + 1 ≤ maxLen := by unfold maxLen; omega
      have h47 : (l.length + 1) * 16 ≤ 140737488355328 := by omega
      by_cases hlt : k < s.size
      · by_cases hc : (s[k]'hlt).toNat = 44
        · have ht : (((s[k]'hlt).toNat : Int) != 44) = false := by rw [bne_eq_false_iff_eq]; omega
          have HC0 := stTo_part s k (.inl ⟨hlt, hc⟩)
          rw [← hl.out, ← hf.out] at HC0
          have HC : Hid _ := HC0
          have H2 : Hid (k + 1 = (stTo s (k + 1)).2) := by show _ = _; rw [HC0]
          clear hc HC0
          have hz : (s.extract f k).size ≤ maxLen := by unfold maxLen; simp; omega
          cases he : (trimOf (s.extract f k)).toList.isEmpty
          · have HE : Hid _ := addPart_yes (l := l) he
            go_wp2_with fail
            refine (specTrim_any _ _ hz).mono ?_
            rintro e w1 ⟨rfl, hb1⟩
            have hown1 := owns_below hown hb1 (fun g hg => owns_lt hown hg)
            have HBS : ∀ o, w.heap.size ≤ (w1.alloc o).heap.size := fun o => by have := hb1.size; have := hbw.size; simp; omega
            go_wp2_with (at_builtin; refine wpList_append_own _ rfl _ _ 52 rfl w.heap.size 9 i0 (.string ⟨#[]⟩) 1 16 Try.underlying52 hi hz0 hz1 hz2 rfl (by decide) _ _ _ rfl (hown1.alloc _) ⟨w1.heap.size, 0, none⟩ 1 1 [.string (trimOf (s.extract f k))] rfl rfl (cell_one_new _ _ _) (one_text _) h63 h47 (HBS _) ?_)
            intro v1 w2 hown2 hgrow _
            have hb2 : Below w.heap.size w w2 := (((hbw.trans (hb1.mono hbw.size)).alloc (Nat.le_trans hbw.size hb1.size) _).grown hgrow (HBS _) (fun g hg => owns_ge hown hg))
            have hown3 : w2.ownsRow w.heap.size 9 1 v1 (stTo s (k + 1)).1.length ((stTo s (k + 1)).1.map Value.string) := by
              rw [HC.out, HE.out]; simpa using hown2
            clear hown hown1 HBS hgrow hown2
            go_wp2
            go_roundw
            case rel => exact ⟨k + 1, k + 1, _, by omega, by omega, by go_num, by go_num, hb2, H2, rfl, hown3⟩
            case measure => simp [intOf]; omega
          · have HE : Hid _ := addPart_no (l := l) he
            go_wp2_with (go_at_call 37; refine (specTrim_any _ _ hz).mono ?_; rintro e w1 ⟨rfl, hb1⟩)
            have hown3 : w1.ownsRow w.heap.size 9 1 u3 (stTo s (k + 1)).1.length ((stTo s (k + 1)).1.map Value.string) := by
              rw [HC.out, HE.out]; exact owns_below hown hb1 (fun g hg => owns_lt hown hg)
            have hb2 : Below w.heap.size w w1 := hbw.trans (hb1.mono hbw.size)
            go_roundw
            case rel => exact ⟨k + 1, k + 1, _, by omega, by omega, by go_num, by go_num, hb2, H2, rfl, hown3⟩
            case measure => simp [intOf]; omega
        · have ht : (((s[k]'hlt).toNat : Int) != 44) = true := by rw [bne_iff_ne]; omega
          have HO : Hid _ := stTo_other s k hlt hc
          clear hc
          go_wp2_with fail
          go_roundw
          case rel => exact ⟨k + 1, f, l, by omega, by omega, by go_num, rfl, hbw, by rw [HO.out]; exact hf, by rw [HO.out]; exact hl, hown⟩
          case measure => simp [intOf]; omega
      · have HC0 := stTo_part s k (.inr (by omega))
        rw [← hl.out, ← hf.out] at HC0
        have HC : Hid _ := HC0
        have H2 : Hid (k + 1 = (stTo s (k + 1)).2) := by show _ = _; rw [HC0]
        clear HC0
        have hz : (s.extract f k).size ≤ maxLen := by unfold maxLen; simp; omega
        cases he : (trimOf (s.extract f k)).toList.isEmpty
        · have HE : Hid _ := addPart_yes (l := l) he
          go_wp2_with fail
          refine (specTrim_any _ _ hz).mono ?_
          rintro e w1 ⟨rfl, hb1⟩
          have hown1 := owns_below hown hb1 (fun g hg => owns_lt hown hg)
          have HBS : ∀ o, w.heap.size ≤ (w1.alloc o).heap.size := fun o => by have := hb1.size; have := hbw.size; simp; omega
          go_wp2_with (at_builtin; refine wpList_append_own _ rfl _ _ 52 rfl w.heap.size 9 i0 (.string ⟨#[]⟩) 1 16 Try.underlying52 hi hz0 hz1 hz2 rfl (by decide) _ _ _ rfl (hown1.alloc _) ⟨w1.heap.size, 0, none⟩ 1 1 [.string (trimOf (s.extract f k))] rfl rfl (cell_one_new _ _ _) (one_text _) h63 h47 (HBS _) ?_)
          intro v1 w2 hown2 hgrow _
          have hb2 : Below w.heap.size w w2 := (((hbw.trans (hb1.mono hbw.size)).alloc (Nat.le_trans hbw.size hb1.size) _).grown hgrow (HBS _) (fun g hg => owns_ge hown hg))
          have hown3 : w2.ownsRow w.heap.size 9 1 v1 (stTo s (k + 1)).1.length ((stTo s (k + 1)).1.map Value.string) := by
            rw [HC.out, HE.out]; simpa using hown2
          clear hown hown1 HBS hgrow hown2
          go_wp2
          go_roundw
          case rel => exact ⟨k + 1, k + 1, _, by omega, by omega, by go_num, by go_num, hb2, H2, rfl, hown3⟩
          case measure => simp [intOf]; omega
        · have HE : Hid _ := addPart_no (l := l) he
          go_wp2_with (go_at_call 37; refine (specTrim_any _ _ hz).mono ?_; rintro e w1 ⟨rfl, hb1⟩)
          have hown3 : w1.ownsRow w.heap.size 9 1 u3 (stTo s (k + 1)).1.length ((stTo s (k + 1)).1.map Value.string) := by
            rw [HC.out, HE.out]; exact owns_below hown hb1 (fun g hg => owns_lt hown hg)
          have hb2 : Below w.heap.size w w1 := hbw.trans (hb1.mono hbw.size)
          go_roundw
          case rel => exact ⟨k + 1, k + 1, _, by omega, by omega, by go_num, by go_num, hb2, H2, rfl, hown3⟩
          case measure => simp [intOf]; omega
    · have HE : Hid (l = splitL s) := by show _ = _; rw [hl.out, stTo_end s k hks]
      go_wp2_with fail
      go_ret
      exact RowIs.of HE.out rfl hown hbw

end Go.Proofs.Ytmcmeeibogkpaaa

namespace Go.Proofs.Ytmcmeeibogkpaaa
open Go.RowKit
open Go.Lib hiding intOf

def nameAt (fs : List (ByteArray × ByteArray)) (i : Nat) : ByteArray := (fs.getD i (⟨#[]⟩, ⟨#[]⟩)).1
def valAt (fs : List (ByteArray × ByteArray)) (i : Nat) : ByteArray := (fs.getD i (⟨#[]⟩, ⟨#[]⟩)).2
/-- A list of fields as a row of cells: two a field. -/
def flatF (fs : List (ByteArray × ByteArray)) : List Value := fs.flatMap (fun f => [Value.string f.1, Value.string f.2])
theorem flatF_len (fs : List (ByteArray × ByteArray)) : (flatF fs).length = fs.length * 2 := by
  induction fs with
  | nil => rfl
  | cons f r ih => simp only [flatF, List.flatMap_cons, List.length_append, List.length_cons, List.length_nil] at ih ⊢; omega
theorem flatF_get : ∀ (fs : List (ByteArray × ByteArray)) (i : Nat), i < fs.length → (flatF fs)[i * 2]? = some (.string (nameAt fs i)) ∧ (flatF fs)[i * 2 + 1]? = some (.string (valAt fs i))
  | [], i, h => by simp at h
  | f :: r, 0, _ => by simp [flatF, nameAt, valAt]
  | f :: r, i + 1, h => by
    have ih := flatF_get r i (by simpa using h)
    have e : flatF (f :: r) = Value.string f.1 :: Value.string f.2 :: flatF r := rfl
    rw [e, show (i + 1) * 2 = i * 2 + 2 by omega, show i * 2 + 2 + 1 = (i * 2 + 1) + 2 by omega]
    simp only [List.getElem?_cons_succ]
    exact ih

/-- What an owned list of fields is, cell by cell. -/
structure FieldRow (base : Nat) (w : World) (g n cap : Nat) (fs : List (ByteArray × ByteArray)) : Prop where
  len : fs.length = n
  base : base ≤ g
  lt : g < w.heap.size
  le : n ≤ cap
  mx : cap ≤ maxLen
  heap : ∃ cur, w.heap[g]? = some (.cells cur 40 (0, 0)) ∧ cur.size = cap * 2 ∧ ∀ i, i < n → cur[i * 2]? = some (.string (nameAt fs i)) ∧ cur[i * 2 + 1]? = some (.string (valAt fs i))
theorem FieldRow.name {base : Nat} {w : World} {g n cap : Nat} {fs : List (ByteArray × ByteArray)} (h : FieldRow base w g n cap fs) (i : Nat) (hi : i < n) : w.cell? ⟨g, i * 2, none⟩ = some (.string (nameAt fs i)) := by
  obtain ⟨cur, hg, _, hc⟩ := h.heap
  simp only [World.cell?, hg]
  simpa using (hc i hi).1
theorem FieldRow.val {base : Nat} {w : World} {g n cap : Nat} {fs : List (ByteArray × ByteArray)} (h : FieldRow base w g n cap fs) (i : Nat) (hi : i < n) : w.cell? ⟨g, i * 2 + 1, none⟩ = some (.string (valAt fs i)) := by
  obtain ⟨cur, hg, _, hc⟩ := h.heap
  simp only [World.cell?, hg]
  simpa using (hc i hi).2
theorem FieldRow.below {base B : Nat} {w w' : World} {g n cap : Nat} {fs : List (ByteArray × ByteArray)} (h : FieldRow base w g n cap fs) (hb : Below B w w') (hB : g < B) : FieldRow base w' g n cap fs := by
  obtain ⟨cur, hg, hc⟩ := h.heap
  have := hb.size; have := h.lt
  exact ⟨h.len, h.base, by omega, h.le, h.mx, cur, by rw [hb.block g hB]; exact hg, hc⟩
/-- An owned list of fields is empty, or such a row. -/
theorem frow_form {w : World} {base n : Nat} {v : Value} {fs : List (ByteArray × ByteArray)} (h : w.ownsRow base 40 2 v n (flatF fs)) :
    (∃ oa cap, v = .slice oa 0 cap ∧ (oa = none → cap = 0) ∧ n = 0 ∧ fs = []) ∨ ∃ g cap, v = .slice (some ⟨g, 0, none⟩) n cap ∧ 0 < n ∧ FieldRow base w g n cap fs := by
  obtain ⟨hl, hv⟩ := h
  rw [flatF_len] at hl
  rcases hv with ⟨rfl, h0⟩ | ⟨g, cap, cur, rfl, hb, hg, hn, hm, hcs, htk⟩
  · exact .inl ⟨none, 0, rfl, fun _ => rfl, h0, List.length_eq_zero_iff.1 (by omega)⟩
  · by_cases h0 : n = 0
    · subst h0
      exact .inl ⟨_, _, rfl, (fun h => by cases h), rfl, List.length_eq_zero_iff.1 (by omega)⟩
    · refine .inr ⟨g, cap, rfl, by omega, by omega, hb, (Array.getElem?_eq_some_iff.1 hg).1, hn, hm, cur, hg, hcs, ?_⟩
      intro i hi
      have hf := flatF_get fs i (by omega)
      rw [← htk, List.getElem?_take, List.getElem?_take, if_pos (by omega), if_pos (by omega)] at hf
      simpa using hf
theorem FieldRow.owns {base : Nat} {w : World} {g n cap : Nat} {fs : List (ByteArray × ByteArray)} (h : FieldRow base w g n cap fs) : w.ownsRow base 40 2 (.slice (some ⟨g, 0, none⟩) n cap) n (flatF fs) := by
  obtain ⟨cur, hg, hs, hc⟩ := h.heap
  have hl := h.len; have hle := h.le
  refine ⟨by rw [flatF_len, hl], .inr ⟨g, cap, cur, rfl, h.base, hg, h.le, h.mx, hs, ?_⟩⟩
  apply List.ext_getElem?
  intro j
  rw [List.getElem?_take]
  by_cases hj : j < n * 2
  · rw [if_pos hj]
    have hf := flatF_get fs (j / 2) (by omega)
    have hcc := hc (j / 2) (by omega)
    rcases Nat.mod_two_eq_zero_or_one j with e | e
    · have e2 : j / 2 * 2 = j := by omega
      rw [e2] at hf hcc
      rw [hf.1]; simpa using hcc.1
    · have e2 : j / 2 * 2 + 1 = j := by omega
      rw [e2] at hf hcc
      rw [hf.2]; simpa using hcc.2
  · rw [if_neg hj, List.getElem?_eq_none (by rw [flatF_len]; omega)]

/-- A list of fields that a function reads: empty, or a row. -/
def FieldsV (w : World) (base : Nat) (v : Value) (n : Nat) (fs : List (ByteArray × ByteArray)) : Prop :=
  (∃ oa cap, v = .slice oa 0 cap ∧ (oa = none → cap = 0) ∧ n = 0 ∧ fs = []) ∨ ∃ g cap, v = .slice (some ⟨g, 0, none⟩) n cap ∧ 0 < n ∧ FieldRow base w g n cap fs

/-- Where the first field of that name stands; the length where there is none. -/
def atF : List (ByteArray × ByteArray) → ByteArray → Nat
  | [], _ => 0
  | f :: r, name => if f.1 = name then 0 else atF r name + 1
theorem atF_le : ∀ (fs : List (ByteArray × ByteArray)) (name : ByteArray), atF fs name ≤ fs.length
  | [], _ => Nat.le_refl _
  | f :: r, name => by
    rw [atF]
    split
    · exact Nat.zero_le _
    · have := atF_le r name; simp; omega
theorem atF_before : ∀ (fs : List (ByteArray × ByteArray)) (name : ByteArray) (j : Nat), j < atF fs name → nameAt fs j ≠ name
  | [], _, j, h => by simp [atF] at h
  | f :: r, name, j, h => by
    rw [atF] at h
    split at h
    · omega
    · rename_i hne
      cases j with
      | zero => simpa [nameAt] using hne
      | succ j => have := atF_before r name j (by omega); simpa [nameAt] using this
theorem atF_here : ∀ (fs : List (ByteArray × ByteArray)) (name : ByteArray), atF fs name < fs.length → nameAt fs (atF fs name) = name
  | [], _, h => by simp [atF] at h
  | f :: r, name, h => by
    rw [atF] at h ⊢
    split
    · rename_i he; simpa [nameAt] using he
    · rename_i hne
      rw [if_neg hne] at h
      have := atF_here r name (by simpa using h)
      simpa [nameAt] using this
theorem atF_uniq {fs : List (ByteArray × ByteArray)} {name : ByteArray} {k : Nat} (hk : k < fs.length) (hb : ∀ j, j < k → nameAt fs j ≠ name) (he : nameAt fs k = name) : atF fs name = k := by
  rcases Nat.lt_trichotomy (atF fs name) k with h | h | h
  · exact absurd (atF_here fs name (by omega)) (hb _ h)
  · exact h
  · exact absurd he (atF_before fs name k h)
theorem atF_none {fs : List (ByteArray × ByteArray)} {name : ByteArray} (hb : ∀ j, j < fs.length → nameAt fs j ≠ name) : atF fs name = fs.length := by
  rcases Nat.lt_or_ge (atF fs name) fs.length with h | h
  · exact absurd (atF_here fs name h) (hb _ h)
  · have := atF_le fs name; omega
/-- The place as an int: -1 where there is none. -/
def atI (fs : List (ByteArray × ByteArray)) (name : ByteArray) : Int := if atF fs name < fs.length then (atF fs name : Int) else -1

set_option maxHeartbeats 1000000 in
theorem l2At_any (v : Value) (n base : Nat) (fs : List (ByteArray × ByteArray)) (name : ByteArray) (w : World) (hv : FieldsV w base v n fs) (hn : n ≤ 1073741824) :
    Calls Try.prog 29 #[v, .string name] w fun e w' => e = .returned (.int .i64 (atI fs name)) ∧ w' = w := by
  rcases hv with ⟨oa, ca, rfl, _, rfl, rfl⟩ | ⟨g, cap, rfl, hp, row⟩
  · have hT : Hid (atI [] name = -1) := rfl
    go_enter Try.func29, Try.ntmps29
    go_wp2
    refine wp_loop_rounds 1 ?_
    rw [rounds_succ]
    go_wp2
    go_ret
    exact ⟨by rw [hT.out]; rfl, rfl⟩
  · have hl := row.len
    go_enter Try.func29, Try.ntmps29
    go_wp2
    go_loop [5] (fun i => ∃ k : Nat, k ≤ n ∧ i = .int .i64 (k : Int) ∧ Hid (∀ j, j < k → nameAt fs j ≠ name)) (fun i => n - (intOf i).toNat)
    case atStart => exact ⟨0, Nat.zero_le _, rfl, fun j h => absurd h (by omega)⟩
    case round =>
      obtain ⟨k, hk, rfl, hb⟩ := hrel
      by_cases hlt : k < n
      · have hc := row.name k hlt
        have hlt2 : (k : Int) < (n : Int) := by omega
        by_cases he : nameAt fs k = name
        · have hT : Hid (atI fs name = (k : Int)) := by
            have := atF_uniq (by omega) hb.out he
            show _ = _
            unfold atI; rw [this, if_pos (by omega)]
          have ht : ((nameAt fs k).toList == name.toList) = true := (text_beq _ _).2 he
          clear he
          go_wp2
          go_ret
          exact ⟨by rw [hT.out]; rfl, rfl⟩
        · have ht : ((nameAt fs k).toList == name.toList) = false := by
            rcases Bool.eq_false_or_eq_true ((nameAt fs k).toList == name.toList) with h | h
            · exact absurd ((text_beq _ _).1 h) he
            · exact h
          have HE : Hid (nameAt fs k ≠ name) := he
          clear he
          go_wp2
          go_round
          case rel =>
            refine ⟨k + 1, by omega, by go_num, ?_⟩
            intro j hj
            by_cases e : j = k
            · subst e; exact HE.out
            · exact hb.out j (by omega)
          case measure => simp [intOf]; omega
      · have hT : Hid (atI fs name = -1) := by
          have := atF_none (fs := fs) (name := name) (fun j hj => hb.out j (by omega))
          show _ = _
          unfold atI; rw [this, if_neg (by omega)]
        go_wp2
        go_ret
        exact ⟨by rw [hT.out]; rfl, rfl⟩

theorem FieldsV.of_owns {w : World} {base n : Nat} {v : Value} {fs : List (ByteArray × ByteArray)} (h : w.ownsRow base 40 2 v n (flatF fs)) : FieldsV w base v n fs := frow_form h
theorem FieldsV.below {w w' : World} {base n : Nat} {v : Value} {fs : List (ByteArray × ByteArray)} (h : FieldsV w base v n fs) (hb : Below w.heap.size w w') : FieldsV w' base v n fs := by
  rcases h with h | ⟨g, cap, h1, h2, h3⟩
  · exact .inl h
  · exact .inr ⟨g, cap, h1, h2, h3.below hb h3.lt⟩
theorem FieldsV.len {w : World} {base n : Nat} {v : Value} {fs : List (ByteArray × ByteArray)} (h : FieldsV w base v n fs) : fs.length = n := by
  rcases h with ⟨_, _, _, _, rfl, rfl⟩ | ⟨_, _, _, _, h⟩
  · rfl
  · exact h.len

/-- A list of fields is a slice; where there is a field it is a row's. -/
theorem FieldsV.slice {w : World} {base n : Nat} {v : Value} {fs : List (ByteArray × ByteArray)} (h : FieldsV w base v n fs) :
    ∃ oa cap, v = .slice oa n cap ∧ ∀ k, k < n → ∃ g, oa = some ⟨g, 0, none⟩ ∧ FieldRow base w g n cap fs := by
  rcases h with ⟨oa, ca, rfl, _, rfl, rfl⟩ | ⟨g, cap, rfl, hp, row⟩
  · exact ⟨oa, ca, rfl, fun k hk => absurd hk (by omega)⟩
  · exact ⟨_, cap, rfl, fun k _ => ⟨g, rfl, row⟩⟩

/-- What Get answers. -/
def getV (fs : List (ByteArray × ByteArray)) (name : ByteArray) : ByteArray := if atF fs name < fs.length then valAt fs (atF fs name) else ⟨#[]⟩
def getB (fs : List (ByteArray × ByteArray)) (name : ByteArray) : Bool := decide (atF fs name < fs.length)

set_option maxHeartbeats 1000000 in
theorem specGet_any (v : Value) (n base : Nat) (fs : List (ByteArray × ByteArray)) (name : ByteArray) (w : World) (hv : FieldsV w base v n fs) (hn : n ≤ 1073741824) :
    Calls Try.prog 21 #[v, .string name] w fun e w' => e = .returned (.tuple #[.string (getV fs name), .bool (getB fs name)]) ∧ w' = w := by
  have hl := hv.len
  by_cases hin : atF fs name < fs.length
  · have hI : Hid (atI fs name = (atF fs name : Int)) := by show _ = _; unfold atI; rw [if_pos hin]
    have hV : Hid (getV fs name = valAt fs (atF fs name)) := by show _ = _; unfold getV; rw [if_pos hin]
    have hB : Hid (getB fs name = true) := by show _ = _; unfold getB; simpa using hin
    have hv0 := hv
    rcases hv0 with ⟨oa, ca, rfl, _, rfl, rfl⟩ | ⟨g, cap, rfl, hp, row⟩
    · simp at hin
    · obtain ⟨k, hk⟩ : ∃ k, k = atF fs name := ⟨_, rfl⟩
      rw [← hk] at hI hV hin
      have hc := row.val k (by omega)
      have hlt : (k : Int) < (n : Int) := by omega
      clear hk
      go_enter Try.func21, Try.ntmps21
      go_wp2_with fail
      refine (l2At_any _ n base fs name _ hv hn).mono ?_
      rintro e w1 ⟨rfl, rfl⟩
      rw [hI.out]
      clear hv
      go_wp2
      go_ret2
      exact ⟨by rw [hV.out, hB.out]; rfl, rfl⟩
  · have hI : Hid (atI fs name = -1) := by show _ = _; unfold atI; rw [if_neg hin]
    have hV : Hid (getV fs name = ⟨#[]⟩) := by show _ = _; unfold getV; rw [if_neg hin]
    have hB : Hid (getB fs name = false) := by show _ = _; unfold getB; simpa using hin
    go_enter Try.func21, Try.ntmps21
    go_wp2_with fail
    refine (l2At_any v n base fs name _ hv hn).mono ?_
    rintro e w1 ⟨rfl, rfl⟩
    rw [hI.out]
    clear hv
    go_wp2
    go_ret2
    exact ⟨by rw [hV.out, hB.out]; rfl, rfl⟩

/-- What the chapter asks of fields. -/
def FldsOk (fs : List (ByteArray × ByteArray)) : Prop :=
  fs.length ≤ 8 ∧ ∀ i, i < fs.length → TokOk (nameAt fs i) ∧ ValOk (valAt fs i) ∧ atF fs (nameAt fs i) = i ∧ nameAt fs i ≠ ⟨#[99, 111, 110, 116, 101, 110, 116, 45, 108, 101, 110, 103, 116, 104]⟩
def clen : ByteArray := ⟨#[99, 111, 110, 116, 101, 110, 116, 45, 108, 101, 110, 103, 116, 104]⟩
def FldOk (fs : List (ByteArray × ByteArray)) (i : Nat) : Prop := TokOk (nameAt fs i) ∧ ValOk (valAt fs i) ∧ atF fs (nameAt fs i) = i ∧ nameAt fs i ≠ clen
theorem clen_list : clen.toList = [99, 111, 110, 116, 101, 110, 116, 45, 108, 101, 110, 103, 116, 104] := by rw [ByteArray.toList_eq]; rfl
theorem text_beq_no {a b : ByteArray} (h : a ≠ b) : (a.toList == b.toList) = false := by
  rcases Bool.eq_false_or_eq_true (a.toList == b.toList) with h1 | h1
  · exact absurd ((text_beq _ _).1 h1) h
  · exact h1

set_option maxHeartbeats 2000000 in
theorem specFieldsOk_any (v : Value) (n base : Nat) (fs : List (ByteArray × ByteArray)) (w : World) (hv : FieldsV w base v n fs) (hn : n ≤ 1073741824) (hsz : ∀ i, i < n → (nameAt fs i).size ≤ maxLen ∧ (valAt fs i).size ≤ maxLen) :
    Calls Try.prog 20 #[v] w fun e w' => BoolIs (FldsOk fs) w e w' := by
  have hl := hv.len
  have HV : Hid (FieldsV w base v n fs) := hv
  have HS : Hid (∀ i, i < n → (nameAt fs i).size ≤ maxLen ∧ (valAt fs i).size ≤ maxLen) := hsz
  clear hsz
  rcases hv with ⟨oa, ca, rfl, _, rfl, rfl⟩ | ⟨g, cap, rfl, hp, row⟩
  · have hT : Hid (FldsOk []) := ⟨by simp, fun i hi => absurd hi (by simp)⟩
    clear HV HS
    go_enter Try.func20, Try.ntmps20
    go_wp2
    refine wp_loop_rounds 1 ?_
    rw [rounds_succ]
    go_wp2
    go_ret
    exact BoolIs.yes hT.out (Below.refl _ _)
  · go_enter Try.func20, Try.ntmps20
    go_wp2
    go_loopw [3] (fun i wr => ∃ k : Nat, k ≤ n ∧ i = .int .i64 (k : Int) ∧ Hid (∀ j, j < k → FldOk fs j) ∧ Below w.heap.size w wr) (fun i _ => n - (intOf i).toNat)
    case atStart => exact ⟨0, Nat.zero_le _, rfl, fun j h => absurd h (by omega), Below.refl _ _⟩
    case round =>
      obtain ⟨k, hk, rfl, hall, hbw⟩ := hrel
      by_cases hlt : k < n
      · have hlt2 : (k : Int) < (n : Int) := by omega
        obtain ⟨hs1, hs2⟩ := HS.out k hlt
        obtain ⟨nm, hnm⟩ : ∃ x, x = nameAt fs k := ⟨_, rfl⟩
        obtain ⟨vl, hvl⟩ : ∃ x, x = valAt fs k := ⟨_, rfl⟩
        have HR : Hid (∀ W, Below w.heap.size w W → W.cell? ⟨g, k * 2, none⟩ = some (.string nm) ∧ W.cell? ⟨g, k * 2 + 1, none⟩ = some (.string vl)) := fun W h => by
          rw [hnm, hvl]; exact ⟨(row.below h row.lt).name k hlt, (row.below h row.lt).val k hlt⟩
        have HO : Hid (FldOk fs k ↔ TokOk nm ∧ ValOk vl ∧ atF fs nm = k ∧ nm ≠ clen) := by rw [hnm, hvl]; exact Iff.rfl
        have HNO : Hid (¬ (TokOk nm ∧ ValOk vl ∧ atF fs nm = k ∧ nm ≠ clen) → ¬ FldsOk fs) := fun h hf => h (HO.out.1 (hf.2 k (by omega)))
        have hatle : atF fs nm ≤ k := by
          rcases Nat.lt_or_ge k (atF fs nm) with h | h
          · exact absurd hnm.symm (atF_before fs nm k h)
          · exact h
        have hI : Hid (atI fs nm = (atF fs nm : Int)) := by show _ = _; unfold atI; rw [if_pos (by omega)]
        rw [← hnm] at hs1
        rw [← hvl] at hs2
        obtain ⟨c1, c2⟩ := HR.out wr hbw
        clear hnm hvl
        go_wp2_with fail
        refine (specTokenOk_any nm _ hs1).mono ?_
        rintro e w1 ⟨b1, rfl, kb1, bb1⟩
        have hb1 : Below w.heap.size w w1 := hbw.trans (bb1.mono hbw.size)
        obtain ⟨c1a, c2a⟩ := HR.out w1 hb1
        cases b1
        · have HF : Hid (¬ FldsOk fs) := HNO.out (fun h => by have := kb1.2 h.1; cases this)
          clear kb1 c1 c2 bb1
          go_wp2_with fail
          go_ret
          exact BoolIs.no HF.out hb1
        · have HT : Hid (TokOk nm) := kb1.1 rfl
          clear kb1 c1 c2 bb1
          go_wp2_with fail
          refine (specValueOk_any vl _ hs2).mono ?_
          rintro e w2 ⟨b2, rfl, kb2, bb2⟩
          have hb2 : Below w.heap.size w w2 := hb1.trans (bb2.mono hb1.size)
          obtain ⟨c1b, c2b⟩ := HR.out w2 hb2
          cases b2
          · have HF : Hid (¬ FldsOk fs) := HNO.out (fun h => by have := kb2.2 h.2.1; cases this)
            clear kb2 c1a c2a bb2
            go_wp2_with fail
            go_ret
            exact BoolIs.no HF.out hb2
          · have HT2 : Hid (ValOk vl) := kb2.1 rfl
            clear kb2 c1a c2a bb2
            go_wp2_with fail
            refine (l2At_any _ n base fs nm _ (HV.out.below hb2) hn).mono ?_
            rintro e w3 ⟨rfl, rfl⟩
            rw [hI.out]
            by_cases hat : atF fs nm = k
            · have hne : ((atF fs nm : Int) != (k : Int)) = false := by rw [bne_eq_false_iff_eq]; omega
              have HAT : Hid (atF fs nm = k) := hat
              clear hat
              by_cases hcl : nm = clen
              · have ht := (text_beq _ _).2 hcl
                rw [clen_list] at ht
                have HF : Hid (¬ FldsOk fs) := HNO.out (fun h => h.2.2.2 hcl)
                clear hcl
                go_wp2
                go_ret
                exact BoolIs.no HF.out hb2
              · have ht := text_beq_no hcl
                rw [clen_list] at ht
                have HY : Hid (FldOk fs k) := HO.out.2 ⟨HT.out, HT2.out, HAT.out, hcl⟩
                clear hcl
                go_wp2
                go_roundw
                case rel =>
                  refine ⟨k + 1, by omega, by go_num, ?_, hb2⟩
                  intro j hj
                  by_cases e : j = k
                  · subst e; exact HY.out
                  · exact hall.out j (by omega)
                case measure => simp [intOf]; omega
            · have hne : ((atF fs nm : Int) != (k : Int)) = true := by rw [bne_iff_ne]; omega
              have HF : Hid (¬ FldsOk fs) := HNO.out (fun h => hat h.2.2.1)
              clear hat
              go_wp2
              go_ret
              exact BoolIs.no HF.out hb2
      · by_cases h8 : (n : Int) ≤ 8
        · have HF : Hid (FldsOk fs) := ⟨by omega, fun i hi => hall.out i (by omega)⟩
          go_wp2
          go_ret
          exact BoolIs.yes HF.out hbw
        · have HF : Hid (¬ FldsOk fs) := fun h => by have := h.1; omega
          go_wp2
          go_ret
          exact BoolIs.no HF.out hbw

end Go.Proofs.Ytmcmeeibogkpaaa

namespace Go.Proofs.Ytmcmeeibogkpaaa
open Go.RowKit

def PathB (n : Int) : Prop := 33 ≤ n ∧ n ≤ 126
def PathOk (s : ByteArray) : Prop := AllB PathB s ∧ 1 ≤ s.size ∧ s.size ≤ 60 ∧ ∃ h : 0 < s.size, (s[0]'h).toNat = 47
def ReqP (m : Int) (path : ByteArray) (fs : List (ByteArray × ByteArray)) (body : ByteArray) : Prop := (1 ≤ m ∧ m ≤ 4) ∧ PathOk path ∧ FldsOk fs ∧ body.size ≤ 120
def methB (m : Int) : ByteArray := if m = 1 then ⟨#[71, 69, 84]⟩ else if m = 2 then ⟨#[72, 69, 65, 68]⟩ else if m = 3 then ⟨#[80, 79, 83, 84]⟩ else if m = 4 then ⟨#[80, 85, 82, 71, 69]⟩ else ⟨#[]⟩
def bs (s : ByteArray) : List UInt8 := s.data.toList
theorem bs_len (a : ByteArray) : (bs a).length = a.size := by simp [bs]
theorem meth_cases {m : Int} (h : 1 ≤ m ∧ m ≤ 4) : m = 1 ∨ m = 2 ∨ m = 3 ∨ m = 4 := by omega
end Go.Proofs.Ytmcmeeibogkpaaa

namespace Go.Proofs.Ytmcmeeibogkpaaa
open Go.RowKit

theorem bs_extract (s : ByteArray) (f j : Nat) : bs (s.extract f j) = ((bs s).take j).drop f := by
  simp [bs, List.drop_take]
end Go.Proofs.Ytmcmeeibogkpaaa

namespace Go.Proofs.Ytmcmeeibogkpaaa
open Go.RowKit

/-- A part of a split text. -/
def partL (cur : List UInt8) : List ByteArray := if trimL cur = [] then [] else [⟨(trimL cur).toArray⟩]
/-- Split, byte by byte: 'cur': what stands of this part. -/
def spA (cur : List UInt8) : List UInt8 → List ByteArray
  | [] => partL cur
  | c :: r => if c = 44 then partL cur ++ spA [] r else spA (cur ++ [c]) r
theorem add_part (l : List ByteArray) (s : ByteArray) : addPart l (trimOf s) = l ++ partL (bs s) := by
  have hs : (trimOf s).size = (trimL (bs s)).length := by
    show (trimL s.data.toList).toArray.size = _
    simp [bs]
  unfold addPart partL
  rw [hs]
  by_cases h : trimL (bs s) = []
  · rw [if_pos h, if_pos (by rw [h]; rfl), List.append_nil]
  · rw [if_neg h, if_neg (fun e => h (List.length_eq_zero_iff.1 e))]
    rfl
theorem ext_part (s : ByteArray) (a k : Nat) : bs (s.extract a k) = ((bs s).take k).drop a := by rw [bs_extract]
theorem split_from (s : ByteArray) : ∀ k, k ≤ s.size → (splitTo s k).1 ++ spA (((bs s).take k).drop (splitTo s k).2) ((bs s).drop k) = spA [] (bs s) := by
  intro k
  induction k with
  | zero => intro _; simp [splitTo]
  | succ k ih =>
    intro hk
    have hlt : k < s.size := by omega
    have h := ih (by omega)
    have hle := (splitTo_le s k).1
    have hd : (bs s).drop k = s[k]'hlt :: (bs s).drop (k + 1) := by
      have hl : k < (bs s).length := by rw [bs_len]; exact hlt
      rw [List.drop_eq_getElem_cons hl]
      congr 1
    have ht : (bs s).take (k + 1) = (bs s).take k ++ [s[k]'hlt] := by
      have hl : k < (bs s).length := by rw [bs_len]; exact hlt
      rw [List.take_succ_eq_append_getElem hl]
      congr 1
    rw [hd] at h
    by_cases hc : (s[k]'hlt).toNat = 44
    · have hc8 : s[k]'hlt = 44 := UInt8.toNat_inj.1 hc
      rw [splitTo_comma s k hlt hc]
      dsimp only
      rw [add_part, ext_part]
      rw [spA, if_pos hc8] at h
      have hn : ((bs s).take (k + 1)).drop (k + 1) = [] := List.drop_of_length_le (by rw [List.length_take]; omega)
      rw [hn, List.append_assoc]
      exact h
    · have hc8 : s[k]'hlt ≠ 44 := fun e => hc (by rw [e]; rfl)
      rw [splitTo_other s k hlt hc]
      rw [spA, if_neg hc8] at h
      have hn : ((bs s).take (k + 1)).drop (splitTo s k).2 = ((bs s).take k).drop (splitTo s k).2 ++ [s[k]'hlt] := by
        rw [ht, List.drop_append_of_le_length (by rw [List.length_take, bs_len]; omega)]
      rw [hn]
      exact h
theorem splitL_sp (s : ByteArray) : splitL s = spA [] (bs s) := by
  have h := split_from s s.size (Nat.le_refl _)
  have hd : (bs s).drop s.size = [] := List.drop_of_length_le (by rw [bs_len]; exact Nat.le_refl _)
  rw [hd] at h
  unfold splitL
  rw [add_part, ext_part]
  exact h

theorem dropB_len : ∀ l : List UInt8, (dropB l).length ≤ l.length := by
  intro l
  induction l with
  | nil => simp [dropB]
  | cons c l ih =>
    unfold dropB
    split
    · simp; omega
    · exact Nat.le_refl _
theorem trimL_len (l : List UInt8) : (trimL l).length ≤ l.length := by
  have h1 := dropB_len l
  have h2 := dropB_len (dropB l).reverse
  unfold trimL
  rw [List.length_reverse]
  rw [List.length_reverse] at h2
  omega
theorem partL_le (cur : List UInt8) : (partL cur).length ≤ 1 ∧ ∀ x ∈ partL cur, x.size ≤ cur.length := by
  unfold partL
  split
  · exact ⟨by simp, fun x hx => nomatch hx⟩
  · refine ⟨by simp, fun x hx => ?_⟩
    obtain rfl := List.mem_singleton.1 hx
    exact trimL_len cur
theorem spA_le : ∀ (l cur : List UInt8), (spA cur l).length ≤ l.length + 1 ∧ ∀ x ∈ spA cur l, x.size ≤ cur.length + l.length := by
  intro l
  induction l with
  | nil => intro cur; exact ⟨(partL_le cur).1, fun x hx => (partL_le cur).2 x hx⟩
  | cons c l ih =>
    intro cur
    unfold spA
    split
    · have h1 := partL_le cur
      have h2 := ih []
      refine ⟨by rw [List.length_append, List.length_cons]; omega, fun x hx => ?_⟩
      rw [List.mem_append] at hx
      rw [List.length_cons]
      rcases hx with hx | hx
      · have := h1.2 x hx; omega
      · have := h2.2 x hx; rw [List.length_nil] at this; omega
    · have h2 := ih (cur ++ [c])
      refine ⟨by rw [List.length_cons]; omega, fun x hx => ?_⟩
      have := h2.2 x hx
      rw [List.length_append, List.length_singleton] at this
      rw [List.length_cons]
      omega
theorem splitL_le (s : ByteArray) : (splitL s).length ≤ s.size + 1 ∧ ∀ x ∈ splitL s, x.size ≤ s.size := by
  have h := spA_le (bs s) []
  rw [← splitL_sp, bs_len, List.length_nil, Nat.zero_add] at h
  exact h

/-- What is said of keeping. -/
structure CcD where
  ns : Bool
  nc : Bool
  pr : Bool
  mu : Bool
  ha : Bool
  age : Int
def cc0 : CcD := ⟨false, false, false, false, false, 0⟩
def CcD.v (c : CcD) : Value := .agg #[.bool c.ns, .bool c.nc, .bool c.pr, .bool c.mu, .bool c.ha, .int .i64 c.age]
def nsW : ByteArray := ⟨#[110, 111, 45, 115, 116, 111, 114, 101]⟩
def ncW : ByteArray := ⟨#[110, 111, 45, 99, 97, 99, 104, 101]⟩
def prW : ByteArray := ⟨#[112, 114, 105, 118, 97, 116, 101]⟩
def muW : ByteArray := ⟨#[109, 117, 115, 116, 45, 114, 101, 118, 97, 108, 105, 100, 97, 116, 101]⟩
def maW : ByteArray := ⟨#[109, 97, 120, 45, 97, 103, 101, 61]⟩
open Classical in
/-- The number that a text is; 0: it is none. -/
noncomputable def numV (s : ByteArray) : Int := if NumOk s then (valL s.data.toList : Int) else 0
open Classical in
/-- What stands behind the word of ages; none: it is another word. -/
noncomputable def ageOf (w : ByteArray) : Option Int := if (bs w).take 8 = bs maW then some (numV ⟨((bs w).drop 8).toArray⟩) else none
/-- One word more. -/
noncomputable def ccStep (c : CcD) (w : ByteArray) : CcD :=
  if w = nsW then { c with ns := true } else if w = ncW then { c with nc := true } else if w = prW then { c with pr := true } else if w = muW then { c with mu := true }
  else match ageOf w with
    | none => c
    | some n => if c.ha = true then { c with age := min c.age n } else { c with ha := true, age := n }
/-- So many of the words. -/
noncomputable def ccTo (l : List ByteArray) : CcD := l.foldl (fun c x => ccStep c (lowerOf x)) cc0
noncomputable def ccR (s : ByteArray) : CcD := ccTo (splitL s)
theorem ccTo_snoc (l : List ByteArray) (x : ByteArray) : ccTo (l ++ [x]) = ccStep (ccTo l) (lowerOf x) := by simp [ccTo]

theorem numV_in (s : ByteArray) : 0 ≤ numV s ∧ numV s ≤ 1000000 := by
  unfold numV
  split
  · rename_i h
    have := h.2.2.2
    omega
  · omega
theorem ageOf_in {w : ByteArray} {n : Int} (h : ageOf w = some n) : 0 ≤ n ∧ n ≤ 1000000 := by
  unfold ageOf at h
  split at h
  · obtain rfl := Option.some.inj h
    exact numV_in _
  · cases h
/-- Ages are in their bounds, and 0 where none is told. -/
def CcD.fit (c : CcD) : Prop := 0 ≤ c.age ∧ c.age ≤ 1000000 ∧ (c.ha = false → c.age = 0)
theorem ccStep_fit {c : CcD} (h : c.fit) (w : ByteArray) : (ccStep c w).fit := by
  obtain ⟨h1, h2, h3⟩ := h
  unfold ccStep
  split
  · exact ⟨h1, h2, h3⟩
  split
  · exact ⟨h1, h2, h3⟩
  split
  · exact ⟨h1, h2, h3⟩
  split
  · exact ⟨h1, h2, h3⟩
  cases hn : ageOf w with
  | none => exact ⟨h1, h2, h3⟩
  | some n =>
    have := ageOf_in hn
    dsimp only
    split
    · rename_i ha
      exact ⟨by dsimp only; omega, by dsimp only; omega, fun e => by dsimp only at e; rw [ha] at e; cases e⟩
    · exact ⟨by dsimp only; omega, by dsimp only; omega, fun e => by cases e⟩
theorem ccTo_fit (l : List ByteArray) : (ccTo l).fit := by
  unfold ccTo
  have : ∀ (l : List ByteArray) (c : CcD), c.fit → (l.foldl (fun c x => ccStep c (lowerOf x)) c).fit := by
    intro l
    induction l with
    | nil => intro c h; exact h
    | cons x l ih => intro c h; exact ih _ (ccStep_fit h _)
  exact this l cc0 ⟨by decide, by decide, fun _ => rfl⟩
theorem text_bs (x : ByteArray) : (⟨(bs x).toArray⟩ : ByteArray) = x := by
  apply ByteArray.ext
  simp [bs]
end Go.Proofs.Ytmcmeeibogkpaaa

namespace Go.Proofs.Ytmcmeeibogkpaaa
open Go.RowKit
open Go.Lib hiding intOf

attribute [local go_sem ↓] Go.wp_at_zero Go.wp_at_succ

/-- A list of fields that came in, in blocks below B. -/
structure ArgF (w : World) (B : Nat) (a : Option Addr) (n : Nat) (fs : List (ByteArray × ByteArray)) : Prop where
  len : fs.length = n
  get : ∀ i, i < n → ∃ b off, a = some ⟨b, off, none⟩ ∧ b < B ∧ w.cell? ⟨b, off + i * 2, none⟩ = some (.string (nameAt fs i)) ∧ w.cell? ⟨b, off + i * 2 + 1, none⟩ = some (.string (valAt fs i))
theorem ArgF.below {w w' : World} {B : Nat} {a : Option Addr} {n : Nat} {fs : List (ByteArray × ByteArray)} (h : ArgF w B a n fs) (hb : Below B w w') : ArgF w' B a n fs :=
  ⟨h.len, fun i hi => by
    obtain ⟨b, off, h1, h2, h3, h4⟩ := h.get i hi
    exact ⟨b, off, h1, h2, by rw [hb.cell (p := ⟨b, off + i * 2, none⟩) h2]; exact h3, by rw [hb.cell (p := ⟨b, off + i * 2 + 1, none⟩) h2]; exact h4⟩⟩

/-- How many letters the first k fields hold. -/
def szTo (fs : List (ByteArray × ByteArray)) : Nat → Nat
  | 0 => 0
  | k + 1 => szTo fs k + (nameAt fs k).size + (valAt fs k).size

set_option maxHeartbeats 1000000 in
theorem szField_any (nm vl : ByteArray) (left : Int) (w : World) (h0 : 0 ≤ left) (h1 : left ≤ 1073741824) (hn : nm.size ≤ maxLen) (hv : vl.size ≤ maxLen) :
    Calls Try.prog 17 #[.agg #[.string nm, .string vl], .int .i64 left] w fun e w' => e = .returned (.int .i64 (if left - nm.size < 0 then -1 else if left - nm.size - vl.size < 0 then -1 else left - nm.size - vl.size)) ∧ Below w.heap.size w w' := by
  unfold maxLen at hn hv
  by_cases c1 : left - (nm.size : Int) < 0
  · rw [if_pos c1]
    go_enter Try.func17, Try.ntmps17
    go_wp2
    go_ret
    exact ⟨rfl, (Below.refl _ _).alloc (Nat.le_refl _) _⟩
  · rw [if_neg c1]
    by_cases c2 : left - (nm.size : Int) - (vl.size : Int) < 0
    · rw [if_pos c2]
      go_enter Try.func17, Try.ntmps17
      go_wp2
      go_ret
      exact ⟨rfl, (Below.refl _ _).alloc (Nat.le_refl _) _⟩
    · rw [if_neg c2]
      go_enter Try.func17, Try.ntmps17
      go_wp2
      go_ret
      exact ⟨rfl, (Below.refl _ _).alloc (Nat.le_refl _) _⟩

set_option maxHeartbeats 1000000 in
theorem toField_any (nm vl : ByteArray) (w : World) :
    Calls Try.prog 23 #[.agg #[.string nm, .string vl]] w fun e w' => e = .returned (.agg #[.string nm, .string vl]) ∧ Below w.heap.size w w' := by
  go_enter Try.func23, Try.ntmps23
  go_wp2
  exact bodyPost_ret (v := .agg #[.string nm, .string vl]) (by simp [results, Try.results23, go_sem]) rfl ⟨rfl, (((Below.refl _ _).alloc (Nat.le_refl _) _).alloc (by simp) _).alloc (by simp; omega) _⟩

theorem info33 : (Try.prog.info? 40).map (fun i => (i.zero, i.size, i.bytes)) = some (some (.agg #[.string ⟨#[]⟩, .string ⟨#[]⟩]), 2, 32) := by kernel_rfl

theorem heap_set (w : World) (c o : Nat) (cs : Array Value) (t : TypeId) (fz : Nat × Nat) (v : Value) (h : w.heap[c]? = some (.cells cs t fz)) : (w.setCell ⟨c, o, none⟩ v).heap[c]? = some (.cells (cs.setIfInBounds o v) t fz) := by
  simp [World.setCell, Array.getElem?_modify, h]
/-- The first k fields of a row of 2 n cells are told. -/
def PartRow (w : World) (g n k : Nat) (fs : List (ByteArray × ByteArray)) : Prop :=
  ∃ cur, w.heap[g]? = some (.cells cur 40 (0, 0)) ∧ cur.size = n * 2 ∧ ∀ i, i < k → cur[i * 2]? = some (.string (nameAt fs i)) ∧ cur[i * 2 + 1]? = some (.string (valAt fs i))
theorem PartRow.below {w w' : World} {g n k B : Nat} {fs : List (ByteArray × ByteArray)} (h : PartRow w g n k fs) (hb : Below B w w') (hB : g < B) : PartRow w' g n k fs := by
  obtain ⟨cur, h1, h2⟩ := h
  exact ⟨cur, by rw [hb.block g hB]; exact h1, h2⟩
theorem PartRow.lt {w : World} {g n k : Nat} {fs : List (ByteArray × ByteArray)} (h : PartRow w g n k fs) : g < w.heap.size := by
  obtain ⟨cur, h1, _⟩ := h
  exact (Array.getElem?_eq_some_iff.1 h1).1
theorem PartRow.cell {w : World} {g n k : Nat} {fs : List (ByteArray × ByteArray)} (h : PartRow w g n k fs) (j : Nat) (hj : j < n * 2) : ∃ u, w.cell? ⟨g, j, none⟩ = some u := by
  obtain ⟨cur, h1, h2, _⟩ := h
  refine ⟨cur[j]'(by omega), ?_⟩
  simp only [World.cell?, h1]
  simp [show j < cur.size by omega]
theorem PartRow.frozen {w : World} {g n k : Nat} {fs : List (ByteArray × ByteArray)} (h : PartRow w g n k fs) (j : Nat) : w.frozen? ⟨g, j, none⟩ = false := by
  obtain ⟨cur, h1, _⟩ := h
  simp [World.frozen?, h1]
theorem PartRow.put {w : World} {g n k : Nat} {fs : List (ByteArray × ByteArray)} (h : PartRow w g n k fs) (hk : k < n) : PartRow ((w.setCell ⟨g, k * 2, none⟩ (.string (nameAt fs k))).setCell ⟨g, k * 2 + 1, none⟩ (.string (valAt fs k))) g n (k + 1) fs := by
  obtain ⟨cur, h1, h2, h3⟩ := h
  refine ⟨_, heap_set _ g (k * 2 + 1) _ _ _ _ (heap_set w g (k * 2) _ _ _ _ h1), by simpa using h2, ?_⟩
  intro i hi
  by_cases e : i = k
  · subst e
    refine ⟨?_, ?_⟩
    · rw [Array.getElem?_setIfInBounds_ne (by omega), Array.getElem?_setIfInBounds_self_of_lt (by omega)]
    · rw [Array.getElem?_setIfInBounds_self_of_lt (by simp; omega)]
  · have := h3 i (by omega)
    refine ⟨?_, ?_⟩
    · rw [Array.getElem?_setIfInBounds_ne (by omega), Array.getElem?_setIfInBounds_ne (by omega)]; exact this.1
    · rw [Array.getElem?_setIfInBounds_ne (by omega), Array.getElem?_setIfInBounds_ne (by omega)]; exact this.2
theorem PartRow.owns {w : World} {g n : Nat} {fs : List (ByteArray × ByteArray)} (h : PartRow w g n n fs) (hl : fs.length = n) (hm : n ≤ maxLen) {base : Nat} (hb : base ≤ g) : w.ownsRow base 40 2 (.slice (some ⟨g, 0, none⟩) n n) n (flatF fs) :=
  FieldRow.owns ⟨hl, hb, h.lt, Nat.le_refl _, hm, h⟩

set_option maxHeartbeats 1000000 in
theorem toFieldS_any (B : Nat) (a : Option Addr) (n cap : Nat) (fs : List (ByteArray × ByteArray)) (w : World) (harg : ArgF w B a n fs) (hB : B ≤ w.heap.size) (hn : n ≤ 1048576) :
    Calls Try.prog 13 #[.slice a n cap] w fun e w' => ∃ v, e = .returned v ∧ w'.ownsRow w.heap.size 40 2 v n (flatF fs) ∧ Below w.heap.size w w' := by
  obtain ⟨i0, hi, hz0, hz1, hz2⟩ := info_parts info33
  obtain ⟨M, hM⟩ : ∃ M, M = madeCells (Value.agg #[.string ⟨#[]⟩, .string ⟨#[]⟩]).cells (((n : Nat) : Int).toNat * i0.size) := ⟨_, rfl⟩
  have hmk : ∀ W : World, (Instr.makeSlice 27 (.int .i64 (n : Int)) (.int .i64 (n : Int))).run Try.prog W = .ok (.slice (some ⟨W.heap.size, 0, none⟩) n n) (W.alloc (.cells M 40)) := fun W => by
    have h := run_make (P := Try.prog) W 27 40 i0 (.agg #[.string ⟨#[]⟩, .string ⟨#[]⟩]) Try.underlying27 hi hz0 .i64 .i64 (n : Int) (n : Int) (by omega) (by omega) (by rw [hz2]; omega) (by omega)
    rw [← hM] at h
    simpa using h
  have hMs : M.size = n * 2 := by rw [hM, size_madeCells, hz1]; simp
  have hlen := harg.len
  clear hM
  have HP : Hid (PartRow (w.alloc (.cells M 40)) w.heap.size n 0 fs) := ⟨M, heap_alloc_new w _, hMs, fun i h => absurd h (by omega)⟩
  go_enter Try.func13, Try.ntmps13
  go_wp2
  go_loopw [4] (fun i wr => ∃ k : Nat, k ≤ n ∧ i = .int .i64 (k : Int) ∧ Hid (PartRow wr w.heap.size n k fs) ∧ Below w.heap.size w wr) (fun i _ => n - (intOf i).toNat)
  case atStart => exact ⟨0, Nat.zero_le _, rfl, HP, (Below.refl _ _).alloc (Nat.le_refl _) _⟩
  case round =>
    obtain ⟨k, hk, rfl, hpr, hbw⟩ := hrel
    by_cases hlt : k < n
    · have hlt2 : (k : Int) < (n : Int) := by omega
      obtain ⟨b, off, rfl, hbB, hc1, hc2⟩ := (harg.below (hbw.mono hB)).get k hlt
      obtain ⟨nm, hnm⟩ : ∃ y, y = nameAt fs k := ⟨_, rfl⟩
      obtain ⟨vl, hvl⟩ : ∃ y, y = valAt fs k := ⟨_, rfl⟩
      rw [← hnm] at hc1
      rw [← hvl] at hc2
      have HNM : Hid (nm = nameAt fs k) := hnm
      have HVL : Hid (vl = valAt fs k) := hvl
      clear hnm hvl
      go_wp2_with fail
      refine (toField_any nm vl _).mono ?_
      rintro e w1 ⟨rfl, hb1⟩
      have hpr1 := hpr.out.below hb1 hpr.out.lt
      have hb2 : Below w.heap.size w w1 := hbw.trans (hb1.mono hbw.size)
      obtain ⟨u0, hu0⟩ := hpr1.cell (k * 2) (by omega)
      obtain ⟨u1, hu1⟩ := hpr1.cell (k * 2 + 1) (by omega)
      have f0 := hpr1.frozen (k * 2)
      have f1 := hpr1.frozen (k * 2 + 1)
      have hput := hpr1.put hlt
      rw [← HNM.out, ← HVL.out] at hput
      have HPUT : Hid _ := hput
      clear hput hc1 hc2 hb1
      go_wp2
      go_roundw
      case rel => exact ⟨k + 1, by omega, by go_num, HPUT, (hb2.setCell (Nat.le_refl _) _).setCell (Nat.le_refl _) _⟩
      case measure => simp [intOf]; omega
    · obtain rfl : k = n := by omega
      go_wp2
      go_ret
      exact ⟨_, rfl, hpr.out.owns hlen (by unfold maxLen; omega) (Nat.le_refl _), hbw⟩

set_option maxHeartbeats 1000000 in
theorem eqField_any (nm vl : ByteArray) (w : World) :
    Calls Try.prog 26 #[.agg #[.string nm, .string vl], .agg #[.string nm, .string vl]] w fun e w' => e = .returned (.bool true) ∧ Below w.heap.size w w' := by
  go_enter Try.func26, Try.ntmps26
  go_wp2
  go_ret
  exact ⟨rfl, ((Below.refl _ _).alloc (Nat.le_refl _) _).alloc (by simp) _⟩

set_option maxHeartbeats 2000000 in
theorem eqFieldS_any (v1 v2 : Value) (n b1 b2 : Nat) (fs : List (ByteArray × ByteArray)) (w : World) (h1 : FieldsV w b1 v1 n fs) (h2 : FieldsV w b2 v2 n fs) (hn : n ≤ 2000000) :
    Calls Try.prog 16 #[v1, v2] w fun e w' => e = .returned (.bool true) ∧ Below w.heap.size w w' := by
  rcases h1 with ⟨oa, ca, rfl, _, rfl, rfl⟩ | ⟨g1, c1, rfl, hp, r1⟩
  · rcases h2 with ⟨ob, cb, rfl, _, _, _⟩ | ⟨g2, c2, rfl, hp2, _⟩
    · go_enter Try.func16, Try.ntmps16
      go_wp2
      refine wp_loop_rounds 1 ?_
      rw [rounds_succ]
      go_wp2
      go_ret
      exact ⟨rfl, Below.refl _ _⟩
    · omega
  · rcases h2 with ⟨ob, cb, rfl, _, h0, _⟩ | ⟨g2, c2, rfl, hp2, r2⟩
    · omega
    · go_enter Try.func16, Try.ntmps16
      go_wp2
      go_loopw [5] (fun i wr => ∃ k : Nat, k ≤ n ∧ i = .int .i64 (k : Int) ∧ Below w.heap.size w wr) (fun i _ => n - (intOf i).toNat)
      case atStart => exact ⟨0, Nat.zero_le _, rfl, Below.refl _ _⟩
      case round =>
        obtain ⟨k, hk, rfl, hbw⟩ := hrel
        by_cases hlt : k < n
        · have hlt2 : (k : Int) < (n : Int) := by omega
          obtain ⟨nm, hnm⟩ : ∃ y, y = nameAt fs k := ⟨_, rfl⟩
          obtain ⟨vl, hvl⟩ : ∃ y, y = valAt fs k := ⟨_, rfl⟩
          have ha := (r1.below hbw r1.lt).name k hlt
          have hb := (r1.below hbw r1.lt).val k hlt
          have hc := (r2.below hbw r2.lt).name k hlt
          have hd := (r2.below hbw r2.lt).val k hlt
          rw [← hnm] at ha hc
          rw [← hvl] at hb hd
          have HA : Hid (∀ w0 w1, Below wr.heap.size wr w0 → Below w0.heap.size w0 w1 → (w1.cell? ⟨g1, k * 2, none⟩ = some (.string nm) ∧ w1.cell? ⟨g1, k * 2 + 1, none⟩ = some (.string vl) ∧ w1.cell? ⟨g2, k * 2, none⟩ = some (.string nm) ∧ w1.cell? ⟨g2, k * 2 + 1, none⟩ = some (.string vl)) ∧ Below wr.heap.size wr w1) := fun w0 w1 h h' => by
            have hx := h.trans (h'.mono h.size)
            have hy := hbw.trans (hx.mono hbw.size)
            have a1 := (r1.below hy r1.lt).name k hlt
            have a2 := (r1.below hy r1.lt).val k hlt
            have a3 := (r2.below hy r2.lt).name k hlt
            have a4 := (r2.below hy r2.lt).val k hlt
            rw [← hnm] at a1 a3
            rw [← hvl] at a2 a4
            exact ⟨⟨a1, a2, a3, a4⟩, hx⟩
          clear hnm hvl
          go_wp2
          go_region_held3 (fun w' => w'.cell? ⟨g1, k * 2, none⟩ = some (.string nm) ∧ w'.cell? ⟨g1, k * 2 + 1, none⟩ = some (.string vl) ∧ w'.cell? ⟨g2, k * 2, none⟩ = some (.string nm) ∧ w'.cell? ⟨g2, k * 2 + 1, none⟩ = some (.string vl)) (first | assumption | go_keep) (first | (go_at_call 26; refine (eqField_any _ _ _).mono ?_; rintro e w1 ⟨rfl, hb1⟩; obtain ⟨hcc, hbx⟩ := HA.out _ w1 ((Below.refl _ wr).drew) hb1))
          go_wp2
          go_roundw
          case rel => exact ⟨k + 1, by omega, by go_num, hbw.trans (hbx.mono hbw.size)⟩
          case measure => simp [intOf]; omega
        · go_wp2
          go_ret
          exact ⟨rfl, hbw⟩

end Go.Proofs.Ytmcmeeibogkpaaa

namespace Go.Proofs.Ytmcmeeibogkpaaa
open Go.RowKit
open Go.Lib hiding intOf

set_option maxHeartbeats 1000000 in
theorem l3Path_any (s : ByteArray) (w : World) (hs : s.size ≤ maxLen) :
    Calls Try.prog 19 #[.string s] w fun e w' => BoolIs (PathOk s) w e w' := by
  unfold maxLen at hs
  go_enter Try.func19, Try.ntmps19
  go_wp2
  go_loop [3] (fun i => ∃ k : Nat, k ≤ s.size ∧ i = .int .i64 k ∧ Hid (AllTo PathB s k)) (fun i => s.size - (intOf i).toNat)
  case atStart => exact ⟨0, Nat.zero_le _, rfl, allTo_zero _ _⟩
  case round =>
    obtain ⟨k, hk, rfl, hall⟩ := hrel
    by_cases hlt : k < s.size
    · go_wp2
      all_goals first
        | (go_ret
           have hno : ¬ PathB ((s[k]'hlt).toNat : Int) := by
             unfold PathB
             omega
           exact BoolIs.no (fun h => hno (h.1 k hlt)) (Below.refl _ _))
        | (go_round
           case rel =>
             have hy : PathB ((s[k]'hlt).toNat : Int) := by
               unfold PathB
               omega
             exact ⟨k + 1, by omega, by go_num, allTo_succ hall.out hlt hy⟩
           case measure => simp [intOf]; omega)
    · have hend : Hid (AllB PathB s) := allTo_end hall.out hlt
      by_cases h1 : (1 : Int) ≤ (s.size : Int)
      · have h0 : 0 < s.size := by omega
        by_cases h2 : (s.size : Int) ≤ 60
        · by_cases h3 : ((s[0]'h0).toNat : Int) = 47
          · go_wp2
            go_ret
            exact BoolIs.yes ⟨hend.out, by omega, by omega, h0, by omega⟩ (Below.refl _ _)
          · have h4 : (((s[0]'h0).toNat : Int) == 47) = false := by rw [beq_eq_false_iff_ne]; exact h3
            go_wp2
            go_ret
            exact BoolIs.no (fun h => by obtain ⟨_, _, _, _, h5⟩ := h; omega) (Below.refl _ _)
        · go_wp2
          go_ret
          exact BoolIs.no (fun h => by obtain ⟨_, _, h5, _⟩ := h; omega) (Below.refl _ _)
      · go_wp2
        go_ret
        exact BoolIs.no (fun h => by obtain ⟨_, h5, _⟩ := h; omega) (Below.refl _ _)

/-- Texts short enough for any walk. -/
def WalkF (n : Nat) (fs : List (ByteArray × ByteArray)) : Prop := ∀ i, i < n → (nameAt fs i).size ≤ maxLen ∧ (valAt fs i).size ≤ maxLen

/-- A block that was laid last stands behind every call that keeps what was there. -/
theorem kept_new {w W : World} {o : Obj} (h : Below (w.alloc o).heap.size (w.alloc o) W) : W.heap[w.heap.size]? = some o := by
  rw [h.block _ (by simp)]; exact heap_alloc_new w _
theorem below_new {w W : World} {o : Obj} (h : Below (w.alloc o).heap.size (w.alloc o) W) : Below w.heap.size w W :=
  ((Below.refl _ w).alloc (Nat.le_refl _) o).trans (h.mono (by simp))
set_option maxHeartbeats 400000 in
theorem l1In_any (x lo hi : Int) (w : World) :
    Calls Try.prog 18 #[.int .i64 x, .int .i64 lo, .int .i64 hi] w fun e w' => e = .returned (.bool (decide (lo ≤ x ∧ x ≤ hi))) ∧ w' = w := by
  by_cases h1 : lo ≤ x
  · by_cases h2 : x ≤ hi
    · go_enter Try.func18, Try.ntmps18
      go_wp2
      go_ret
      exact ⟨by simp [h1, h2], rfl⟩
    · go_enter Try.func18, Try.ntmps18
      go_wp2
      go_ret
      exact ⟨by simp [h2], rfl⟩
  · go_enter Try.func18, Try.ntmps18
    go_wp2
    go_ret
    exact ⟨by simp; omega, rfl⟩

set_option maxHeartbeats 1000000 in
theorem specReqOk_any (m : Int) (p : ByteArray) (v : Value) (b : ByteArray) (n base : Nat) (fs : List (ByteArray × ByteArray)) (w : World) (hv : FieldsV w base v n fs) (hn : n ≤ 1073741824) (hsz : WalkF n fs) (hp : p.size ≤ maxLen) (hb : b.size ≤ maxLen) :
    Calls Try.prog 10 #[.agg #[.int .i64 m, .string p, v, .string b]] w fun e w' => BoolIs (ReqP m p fs b) w e w' := by
  obtain ⟨oa, cap, rfl, _⟩ := hv.slice
  obtain ⟨r, hr⟩ : ∃ r, r = w.heap.size := ⟨_, rfl⟩
  have HR : Hid (∀ W, Below (w.alloc (.cells #[.int .i64 m, .string p, .slice oa n cap, .string b] 29)).heap.size (w.alloc (.cells #[.int .i64 m, .string p, .slice oa n cap, .string b] 29)) W → (W.cell? ⟨r, 1, none⟩ = some (.string p) ∧ W.cell? ⟨r, 2, none⟩ = some (.slice oa n cap) ∧ W.cell? ⟨r, 3, none⟩ = some (.string b)) ∧ FieldsV W base (.slice oa n cap) n fs ∧ Below w.heap.size w W) := fun W h => by
    have hh := kept_new h
    rw [← hr] at hh
    exact ⟨⟨by simp [World.cell?, hh], by simp [World.cell?, hh], by simp [World.cell?, hh]⟩, hv.below (below_new h), below_new h⟩
  have HSZ : Hid (WalkF n fs) := hsz
  have HP : Hid (p.size ≤ maxLen) := hp
  unfold maxLen at hb
  clear hv hsz hp
  go_enter Try.func10, Try.ntmps10
  go_wp2_with fail
  refine (l1In_any m 1 4 _).mono ?_
  rintro e w1 ⟨rfl, hw1⟩
  have hb1 : Below (w.alloc (.cells #[.int .i64 m, .string p, .slice oa n cap, .string b] 29)).heap.size (w.alloc (.cells #[.int .i64 m, .string p, .slice oa n cap, .string b] 29)) w1 := by rw [hw1]; exact Below.refl _ _
  clear hw1
  rw [← hr]
  obtain ⟨⟨c1, c2, c3⟩, _, hbw1⟩ := HR.out w1 hb1
  by_cases hm : 1 ≤ m ∧ m ≤ 4
  · have e1 : decide (1 ≤ m ∧ m ≤ 4) = true := by simpa using hm
    have HM : Hid (1 ≤ m ∧ m ≤ 4) := hm
    rw [e1]
    clear hr hm e1
    go_wp2_with fail
    refine (l3Path_any p _ HP.out).mono ?_
    rintro e w2 ⟨b1, rfl, kb1, bb2⟩
    have hb2 := hb1.trans (bb2.mono hb1.size)
    clear c1 c2 c3 bb2 hb1 hbw1
    obtain ⟨⟨c1, c2, c3⟩, hv2, hbw2⟩ := HR.out w2 hb2
    have HV2 : Hid (FieldsV w2 base (.slice oa n cap) n fs) := hv2
    clear hv2
    cases b1
    · have HF : Hid (¬ ReqP m p fs b) := fun h => by have := kb1.2 h.2.1; cases this
      clear kb1
      go_wp2_with fail
      go_ret
      exact BoolIs.no HF.out hbw2
    · have HT : Hid (PathOk p) := kb1.1 rfl
      clear kb1
      go_wp2_with fail
      refine (specFieldsOk_any _ n base fs _ HV2.out hn HSZ.out).mono ?_
      rintro e w3 ⟨b2, rfl, kb2, bb3⟩
      have hb3 := hb2.trans (bb3.mono hb2.size)
      clear c1 c2 c3 bb3 hb2 hbw2
      obtain ⟨⟨c1, c2, c3⟩, _, hbw3⟩ := HR.out w3 hb3
      cases b2
      · have HF : Hid (¬ ReqP m p fs b) := fun h => by have := kb2.2 h.2.2.1; cases this
        clear kb2
        go_wp2_with fail
        go_ret
        exact BoolIs.no HF.out hbw3
      · have HT2 : Hid (FldsOk fs) := kb2.1 rfl
        clear kb2
        by_cases h120 : (b.size : Int) ≤ 120
        · have HY : Hid (ReqP m p fs b) := ⟨HM.out, HT.out, HT2.out, by omega⟩
          go_wp2_with fail
          go_ret
          exact BoolIs.yes HY.out hbw3
        · have HF : Hid (¬ ReqP m p fs b) := fun h => by have := h.2.2.2; omega
          have hd : decide ((b.size : Int) ≤ 120) = false := by simpa using h120
          go_wp2_with fail
          go_ret
          exact BoolIs.no HF.out hbw3
  · have e1 : decide (1 ≤ m ∧ m ≤ 4) = false := by simpa using hm
    have HF : Hid (¬ ReqP m p fs b) := fun h => hm h.1
    rw [e1]
    clear hr hm e1
    go_wp2_with fail
    go_ret
    exact BoolIs.no HF.out hbw1

end Go.Proofs.Ytmcmeeibogkpaaa

namespace Go.Proofs.Ytmcmeeibogkpaaa
open Go.RowKit
open Go.Lib hiding intOf

set_option maxHeartbeats 400000 in
theorem l1Min_any (a b : Int) (w : World) :
    Calls Try.prog 33 #[.int .i64 a, .int .i64 b] w fun e w' => e = .returned (.int .i64 (min a b)) ∧ w' = w := by
  by_cases h : a < b
  · have HE : Hid (min a b = a) := by show _ = _; omega
    go_enter Try.func33, Try.ntmps33
    go_wp2
    go_ret
    exact ⟨by rw [HE.out]; rfl, rfl⟩
  · have HE : Hid (min a b = b) := by show _ = _; omega
    go_enter Try.func33, Try.ntmps33
    go_wp2
    go_ret
    exact ⟨by rw [HE.out]; rfl, rfl⟩
end Go.Proofs.Ytmcmeeibogkpaaa

namespace Go.Proofs.Ytmcmeeibogkpaaa
open Go.RowKit
open Go.Lib hiding intOf

theorem slice_of_owns {w : World} {base : Nat} {t : TypeId} {size : Nat} {v : Value} {n : Nat} {xs : List Value} (h : w.ownsRow base t size v n xs) : ∃ oa cp, v = .slice oa n cp := by
  rcases h.2 with ⟨rfl, rfl⟩ | ⟨g, cap, cur, rfl, _⟩
  · exact ⟨none, 0, rfl⟩
  · exact ⟨_, cap, rfl⟩
/-- The four cells of a request's memory, written. -/
def fourSet (w : World) (r : Nat) (a b c d : Value) : World := (((w.setCell ⟨r, 0, none⟩ a).setCell ⟨r, 1, none⟩ b).setCell ⟨r, 2, none⟩ c).setCell ⟨r, 3, none⟩ d
theorem four_facts {W : World} {R : Nat} {a b c d : Value} {t : TypeId} (h : W.heap[R]? = some (.cells #[a, b, c, d] t)) :
    (W.cell? ⟨R, 0, none⟩ = some a ∧ W.cell? ⟨R, 1, none⟩ = some b ∧ W.cell? ⟨R, 2, none⟩ = some c ∧ W.cell? ⟨R, 3, none⟩ = some d) ∧ W.frozen? ⟨R, 0, none⟩ = false ∧ W.frozen? ⟨R, 1, none⟩ = false ∧ W.frozen? ⟨R, 2, none⟩ = false ∧ W.frozen? ⟨R, 3, none⟩ = false := by
  refine ⟨⟨?_, ?_, ?_, ?_⟩, ?_, ?_, ?_, ?_⟩ <;> simp [World.cell?, World.frozen?, h]
theorem four_set {W : World} {R : Nat} {a b c d : Value} {t : TypeId} (h : W.heap[R]? = some (.cells #[a, b, c, d] t)) (a' b' c' d' : Value) : (fourSet W R a' b' c' d').heap[R]? = some (.cells #[a', b', c', d'] t) := by
  have := heap_set _ R 3 _ _ _ d' (heap_set _ R 2 _ _ _ c' (heap_set _ R 1 _ _ _ b' (heap_set W R 0 _ _ _ a' h)))
  simpa [fourSet] using this
theorem below_four {w W : World} {B R : Nat} {a b c d : Value} (h : Below B w W) (hR : B ≤ R) : Below B w (fourSet W R a b c d) :=
  (((h.setCell (p := ⟨R, 0, none⟩) hR _).setCell (p := ⟨R, 1, none⟩) hR _).setCell (p := ⟨R, 2, none⟩) hR _).setCell (p := ⟨R, 3, none⟩) hR _

end Go.Proofs.Ytmcmeeibogkpaaa

namespace Go.Proofs.Ytmcmeeibogkpaaa
open Go.RowKit
open Go.Lib hiding intOf

theorem owns_wide {w : World} {B base : Nat} {e : TypeId} {size : Nat} {v : Value} {n : Nat} {xs : List Value} (h : w.ownsRow base e size v n xs) (hB : B ≤ base) : w.ownsRow B e size v n xs := by
  obtain ⟨hl, hv⟩ := h
  refine ⟨hl, ?_⟩
  rcases hv with h0 | ⟨g, cap, cur, h1, h2, h3⟩
  · exact .inl h0
  · exact .inr ⟨g, cap, cur, h1, Nat.le_trans hB h2, h3⟩
theorem owns_same {w w' : World} {base : Nat} {e : TypeId} {size : Nat} {v : Value} {n : Nat} {xs : List Value} (h : w.ownsRow base e size v n xs) (hs : ∀ j, v.ownBlock = some j → w'.heap[j]? = w.heap[j]?) : w'.ownsRow base e size v n xs := by
  obtain ⟨hl, hv⟩ := h
  refine ⟨hl, ?_⟩
  rcases hv with h0 | ⟨g, cap, cur, rfl, h2, h3, h4⟩
  · exact .inl h0
  · exact .inr ⟨g, cap, cur, rfl, h2, by rw [hs g rfl]; exact h3, h4⟩

theorem szTo_mono (fs : List (ByteArray × ByteArray)) (k : Nat) : ∀ d, szTo fs k ≤ szTo fs (k + d) := by
  intro d
  induction d with
  | zero => exact Nat.le_refl _
  | succ d ih => rw [show k + (d + 1) = (k + d) + 1 by omega, szTo]; omega
theorem szTo_get (fs : List (ByteArray × ByteArray)) (n i : Nat) (hi : i < n) : (nameAt fs i).size ≤ szTo fs n ∧ (valAt fs i).size ≤ szTo fs n := by
  have h := szTo_mono fs (i + 1) (n - (i + 1))
  rw [show i + 1 + (n - (i + 1)) = n by omega, szTo] at h
  omega
theorem addr_add (b off y : Nat) : (⟨b, off, none⟩ : Addr).add y = ⟨b, off + y, none⟩ := by
  unfold Addr.add; split <;> simp_all
def txt : Value → ByteArray
  | .string s => s
  | _ => ⟨#[]⟩
theorem nameAt_range (f g : Nat → ByteArray) (n i : Nat) (hi : i < n) : nameAt ((List.range n).map fun j => (f j, g j)) i = f i ∧ valAt ((List.range n).map fun j => (f j, g j)) i = g i := by
  unfold nameAt valAt
  rw [List.getD_eq_getElem?_getD, List.getElem?_map, List.getElem?_range hi]
  exact ⟨rfl, rfl⟩
/-- A list of fields among the arguments: what it holds. -/
theorem openFields {H : Type} {enc : TypeId × Value → H} {W : World} {fuel : Nat} {a : Option Addr} {n cap : Nat} {x : DataW H × List MemPlace} (h : DataW.trod enc Try.prog W 0 (fun _ => true) true fuel 22 [.slice a n cap] = some x) :
    ∃ fs, ArgF W W.heap.size a n fs ∧ n ≤ maxLen ∧ ∀ i, i < n → (nameAt fs i).size ≤ maxLen ∧ (valAt fs i).size ≤ maxLen := by
  rcases Go.Deep.open_slice_pairs Try.underlying22 Try.underlying42 (by kernel_rfl) rfl rfl (by kernel_rfl) (by kernel_rfl) h with ⟨hcs, _⟩ | ⟨ad, len, c, m, q, V0, V1, D0, D1, P0, P1, hcs, _, hl, hm, hmm, _, hx⟩
  · simp at hcs
    obtain ⟨rfl, rfl, rfl⟩ := hcs
    exact ⟨[], ⟨rfl, fun i hi => absurd hi (by omega)⟩, Nat.zero_le _, fun i hi => absurd hi (by omega)⟩
  · simp at hcs
    obtain ⟨rfl, rfl, rfl⟩ := hcs
    have hm2 : m = cap := by simpa using hmm
    have each : ∀ i, i < n → V0 i = .string (txt (V0 i)) ∧ V1 i = .string (txt (V1 i)) ∧ (txt (V0 i)).size ≤ maxLen ∧ (txt (V1 i)).size ≤ maxLen := fun i hi => by
      obtain ⟨_, _, h3, h4⟩ := hx i (by omega)
      obtain ⟨s, e1, _, e3⟩ := DataW.trod_string Try.underlying9 h3
      obtain ⟨t, f1, _, f3⟩ := DataW.trod_string Try.underlying9 h4
      have e1' : V0 i = .string s := by simpa using e1
      have f1' : V1 i = .string t := by simpa using f1
      rw [e1', f1']
      exact ⟨rfl, rfl, e3, f3⟩
    refine ⟨(List.range n).map fun j => (txt (V0 j), txt (V1 j)), ⟨by simp, fun i hi => ?_⟩, by omega, fun i hi => ?_⟩
    · obtain ⟨c1, c2, _, _⟩ := hx i (by omega)
      obtain ⟨c3, _, _, _⟩ := hx 0 (by omega)
      have hsp : ad.spot = none := by
        have := World.cell?_spot c3
        simpa [Addr.add] using this
      obtain ⟨b, off, sp⟩ := ad
      simp only at hsp
      subst hsp
      rw [addr_add] at c1 c2
      obtain ⟨v0, v1, _, _⟩ := each i hi
      obtain ⟨r0, r1⟩ := nameAt_range (fun j => txt (V0 j)) (fun j => txt (V1 j)) n i hi
      rw [r0, r1]
      have hlt := World.block_lt_of_cell? W _ c1
      rw [v0] at c1
      rw [v1] at c2
      exact ⟨b, off, rfl, hlt, c1, c2⟩
    · obtain ⟨r0, r1⟩ := nameAt_range (fun j => txt (V0 j)) (fun j => txt (V1 j)) n i hi
      rw [r0, r1]
      exact (each i hi).2.2

end Go.Proofs.Ytmcmeeibogkpaaa

namespace Go.Proofs.Ytmcmeeibogkpaaa
open Go.RowKit
open Go.Lib hiding intOf

theorem owns_cellC {w : World} {base : Nat} {t : TypeId} {size g n cap : Nat} {xs : List Value} (h : w.ownsRow base t size (.slice (some ⟨g, 0, none⟩) n cap) n xs) (o : Nat) (u : Value) (ho : xs[o]? = some u) : w.cell? ⟨g, o, none⟩ = some u ∧ w.frozen? ⟨g, o, none⟩ = false := by
  obtain ⟨hl, hv⟩ := h
  rcases hv with ⟨e, _⟩ | ⟨g', cap', cur, e, h1, h2, h3, h4, h5, h6⟩
  · cases e
  · cases e
    refine ⟨?_, by simp [World.frozen?, h2]⟩
    rw [← h6, List.getElem?_take] at ho
    split at ho
    · simpa [World.cell?, h2] using ho
    · cases ho
theorem own_ltR {w : World} {base : Nat} {t : TypeId} {size : Nat} {v : Value} {n : Nat} {xs : List Value} {j : Nat} (h : w.ownsRow base t size v n xs) (hj : v.ownBlock = some j) : base ≤ j ∧ j < w.heap.size := by
  rcases h.2 with ⟨rfl, _⟩ | ⟨g, cap, cur, rfl, h0, h1, _⟩
  · cases hj
  · cases hj
    exact ⟨h0, (Array.getElem?_eq_some_iff.1 h1).1⟩
end Go.Proofs.Ytmcmeeibogkpaaa

namespace Go.Proofs.Ytmcmeeibogkpaaa
open Go.RowKit
open Go.Lib hiding intOf

theorem maW_list : maW.toList = [109, 97, 120, 45, 97, 103, 101, 61] := by rw [ByteArray.toList_eq]; rfl
theorem nsW_list : nsW.toList = [110, 111, 45, 115, 116, 111, 114, 101] := by rw [ByteArray.toList_eq]; rfl
theorem ncW_list : ncW.toList = [110, 111, 45, 99, 97, 99, 104, 101] := by rw [ByteArray.toList_eq]; rfl
theorem prW_list : prW.toList = [112, 114, 105, 118, 97, 116, 101] := by rw [ByteArray.toList_eq]; rfl
theorem muW_list : muW.toList = [109, 117, 115, 116, 45, 114, 101, 118, 97, 108, 105, 100, 97, 116, 101] := by rw [ByteArray.toList_eq]; rfl
theorem ageOf_short {s : ByteArray} (h : s.size < 8) : ageOf s = none := by
  unfold ageOf
  rw [if_neg]
  intro e
  have := congrArg List.length e
  rw [List.length_take, bs_len] at this
  have h8 : (bs maW).length = 8 := rfl
  omega
theorem ageOf_yes {s : ByteArray} (h : s.extract 0 8 = maW) : ageOf s = some (numV (s.extract 8 s.size)) := by
  have e : (bs s).take 8 = bs maW := by rw [← h, bs_extract, List.drop_zero]
  have d : (⟨((bs s).drop 8).toArray⟩ : ByteArray) = s.extract 8 s.size := by
    rw [← text_bs (s.extract 8 s.size), bs_extract, List.take_of_length_le (by rw [bs_len]; exact Nat.le_refl _)]
  unfold ageOf
  rw [if_pos e, d]
theorem ageOf_no {s : ByteArray} (h : s.extract 0 8 ≠ maW) : ageOf s = none := by
  unfold ageOf
  rw [if_neg]
  intro e
  apply h
  rw [← text_bs (s.extract 0 8), bs_extract, List.drop_zero, e, text_bs]

/-- What l6Age answers. -/
def AgeIs (s : ByteArray) (w : World) (e : Ending) (w' : World) : Prop :=
  ∃ (n : Int) (b : Bool), e = .returned (.tuple #[.int .i64 n, .bool b]) ∧ (b = true → ageOf s = some n) ∧ (b = false → ageOf s = none) ∧ Below w.heap.size w w'
set_option maxHeartbeats 1000000 in
theorem l6Age_any (s : ByteArray) (w : World) (hs : s.size ≤ 4000000) :
    Calls Try.prog 32 #[.string s] w fun e w' => AgeIs s w e w' := by
  by_cases h8 : s.size < 8
  · have HN : Hid (ageOf s = none) := ageOf_short h8
    have h8' : (s.size : Int) < 8 := by omega
    clear h8
    go_enter Try.func32, Try.ntmps32
    go_wp2_with fail
    refine bodyPost_ret (v := .tuple #[.int .i64 0, .bool false]) (by simp [results, Try.results32, go_sem]) rfl ?_
    exact ⟨0, false, rfl, nofun, fun _ => HN.out, Below.refl _ _⟩
  · have h8' : ¬ (s.size : Int) < 8 := by omega
    have h8'' : (8 : Int) ≤ (s.size : Int) := by omega
    by_cases hp : s.extract 0 8 = maW
    · have ht : ((s.extract 0 8).toList == maW.toList) = true := (text_beq _ _).2 hp
      rw [maW_list] at ht
      have HY : Hid (ageOf s = some (numV (s.extract 8 s.size))) := ageOf_yes hp
      have hes : (s.extract 8 s.size).size ≤ maxLen := by rw [ByteArray.size_extract]; unfold maxLen; omega
      clear hp h8
      go_enter Try.func32, Try.ntmps32
      go_wp2_with fail
      refine (specNumRead_any (s.extract 8 s.size) _ hes).mono ?_
      rintro e w1 ⟨b, n, rfl, hb1, hb2, hb3, b1⟩
      have HV : Hid (numV (s.extract 8 s.size) = n) := by
        show _ = _
        unfold numV
        cases b with
        | true => rw [if_pos (hb1.1 rfl), hb2 rfl]
        | false => rw [if_neg (fun h => nomatch hb1.2 h), hb3 rfl]
      clear hb1 hb2 hb3
      go_wp2_with fail
      refine bodyPost_ret (v := .tuple #[.int .i64 n, .bool true]) (by simp [results, Try.results32, go_sem]) rfl ?_
      exact ⟨n, true, rfl, fun _ => by rw [HY.out, HV.out], nofun, b1⟩
    · have ht : ((s.extract 0 8).toList == maW.toList) = false := text_beq_no hp
      rw [maW_list] at ht
      have HN : Hid (ageOf s = none) := ageOf_no hp
      clear hp h8
      go_enter Try.func32, Try.ntmps32
      go_wp2_with fail
      refine bodyPost_ret (v := .tuple #[.int .i64 0, .bool false]) (by simp [results, Try.results32, go_sem]) rfl ?_
      exact ⟨0, false, rfl, nofun, fun _ => HN.out, Below.refl _ _⟩

theorem ccLow_size (s : ByteArray) : (lowerOf s).size = s.size := by unfold lowerOf; rw [strOfNums_size, lowXs_len]
/-- The cells of it. -/
def CcD.cs (c : CcD) : Array Value := #[.bool c.ns, .bool c.nc, .bool c.pr, .bool c.mu, .bool c.ha, .int .i64 c.age]
/-- A block that holds it. -/
def CcAt (w : World) (g : Nat) (c : CcD) : Prop := w.heap[g]? = some (.cells c.cs 36)
theorem CcAt.cells {w : World} {g : Nat} {c : CcD} (h : CcAt w g c) : w.cell? ⟨g, 0, none⟩ = some (.bool c.ns) ∧ w.cell? ⟨g, 1, none⟩ = some (.bool c.nc) ∧ w.cell? ⟨g, 2, none⟩ = some (.bool c.pr) ∧ w.cell? ⟨g, 3, none⟩ = some (.bool c.mu) ∧ w.cell? ⟨g, 4, none⟩ = some (.bool c.ha) ∧ w.cell? ⟨g, 5, none⟩ = some (.int .i64 c.age) := by
  unfold CcAt CcD.cs at h
  refine ⟨?_, ?_, ?_, ?_, ?_, ?_⟩ <;> simp [World.cell?, h]
theorem CcAt.frozen {w : World} {g : Nat} {c : CcD} (h : CcAt w g c) (o : Nat) : w.frozen? ⟨g, o, none⟩ = false := by
  unfold CcAt at h
  simp [World.frozen?, h]
theorem CcAt.lt {w : World} {g : Nat} {c : CcD} (h : CcAt w g c) : g < w.heap.size := (Array.getElem?_eq_some_iff.1 h).1
theorem CcAt.same {w w' : World} {g : Nat} {c : CcD} (h : CcAt w g c) (hs : w'.heap[g]? = w.heap[g]?) : CcAt w' g c := by unfold CcAt; rw [hs]; exact h
theorem CcAt.put0 {w : World} {g : Nat} {c : CcD} (h : CcAt w g c) (x : Bool) : CcAt (w.setCell ⟨g, 0, none⟩ (.bool x)) g { c with ns := x } := by unfold CcAt at *; rw [heap_set _ _ _ _ _ _ _ h]; rfl
theorem CcAt.put1 {w : World} {g : Nat} {c : CcD} (h : CcAt w g c) (x : Bool) : CcAt (w.setCell ⟨g, 1, none⟩ (.bool x)) g { c with nc := x } := by unfold CcAt at *; rw [heap_set _ _ _ _ _ _ _ h]; rfl
theorem CcAt.put2 {w : World} {g : Nat} {c : CcD} (h : CcAt w g c) (x : Bool) : CcAt (w.setCell ⟨g, 2, none⟩ (.bool x)) g { c with pr := x } := by unfold CcAt at *; rw [heap_set _ _ _ _ _ _ _ h]; rfl
theorem CcAt.put3 {w : World} {g : Nat} {c : CcD} (h : CcAt w g c) (x : Bool) : CcAt (w.setCell ⟨g, 3, none⟩ (.bool x)) g { c with mu := x } := by unfold CcAt at *; rw [heap_set _ _ _ _ _ _ _ h]; rfl
theorem CcAt.put4 {w : World} {g : Nat} {c : CcD} (h : CcAt w g c) (x : Bool) : CcAt (w.setCell ⟨g, 4, none⟩ (.bool x)) g { c with ha := x } := by unfold CcAt at *; rw [heap_set _ _ _ _ _ _ _ h]; rfl
theorem CcAt.put5 {w : World} {g : Nat} {c : CcD} (h : CcAt w g c) (x : Int) : CcAt (w.setCell ⟨g, 5, none⟩ (.int .i64 x)) g { c with age := x } := by unfold CcAt at *; rw [heap_set _ _ _ _ _ _ _ h]; rfl
/-- All six cells of a block are stored. -/
def putCc (w : World) (g : Nat) (d : CcD) : World := (((((w.setCell ⟨g, 0, none⟩ (.bool d.ns)).setCell ⟨g, 1, none⟩ (.bool d.nc)).setCell ⟨g, 2, none⟩ (.bool d.pr)).setCell ⟨g, 3, none⟩ (.bool d.mu)).setCell ⟨g, 4, none⟩ (.bool d.ha)).setCell ⟨g, 5, none⟩ (.int .i64 d.age)
theorem CcAt.putAll {w : World} {g : Nat} {c : CcD} (h : CcAt w g c) (d : CcD) : CcAt (putCc w g d) g d :=
  (((((h.put0 d.ns).put1 d.nc).put2 d.pr).put3 d.mu).put4 d.ha).put5 d.age
theorem below_putCc {B : Nat} {a w : World} (h : Below B a w) {g : Nat} (hg : B ≤ g) (d : CcD) : Below B a (putCc w g d) :=
  (((((h.setCell hg _).setCell hg _).setCell hg _).setCell hg _).setCell hg _).setCell hg _

/-- The name of the field that says it. -/
def ccName : ByteArray := ⟨#[99, 97, 99, 104, 101, 45, 99, 111, 110, 116, 114, 111, 108]⟩

/-- While words are read. -/
structure CcSt (w : World) (H : Nat) (c : CcD) (v : Value) (l : List ByteArray) (wr : World) : Prop where
  res : CcAt wr H cc0
  cur : CcAt wr (H + 1) c
  row : wr.ownsRow (H + 1 + 1) 9 1 v l.length (l.map Value.string)
  low : Below H w wr
theorem CcSt.later {w : World} {H : Nat} {c : CcD} {v : Value} {l : List ByteArray} {wr w' : World} (h : CcSt w H c v l wr) (hb : Below wr.heap.size wr w') : CcSt w H c v l w' :=
  ⟨h.res.same (hb.block _ h.res.lt), h.cur.same (hb.block _ h.cur.lt), owns_below h.row hb (fun _ hg => owns_lt h.row hg), h.low.trans (hb.mono (Nat.le_of_lt h.res.lt))⟩
theorem CcSt.put {w : World} {H : Nat} {c d : CcD} {v : Value} {l : List ByteArray} {wr : World} (h : CcSt w H c v l wr) {o : Nat} {x : Value} (hd : CcAt (wr.setCell ⟨H + 1, o, none⟩ x) (H + 1) d) : CcSt w H d v l (wr.setCell ⟨H + 1, o, none⟩ x) :=
  ⟨h.res.same (heap_setCell_other _ _ H _ (by show H ≠ H + 1; omega)), hd, owns_same h.row (fun j hj => heap_setCell_other _ _ j _ (by show j ≠ H + 1; have := (own_ltR h.row hj).1; omega)), h.low.setCell (by show H ≤ H + 1; omega) _⟩

set_option maxHeartbeats 4000000 in
set_option maxRecDepth 100000 in
theorem specCcRead_any (s : ByteArray) (w : World) (hs : s.size ≤ 1048576) :
    Calls Try.prog 22 #[.string s] w fun e w' => e = .returned (ccR s).v ∧ Below w.heap.size w w' := by
  obtain ⟨H, hH⟩ : ∃ H, H = w.heap.size := ⟨_, rfl⟩
  have HW : Hid (w.heap.size = H) := hH.symm
  obtain ⟨W0, hW0⟩ : ∃ W, W = (w.alloc (.cells cc0.cs 36)).alloc (.cells cc0.cs 36) := ⟨_, rfl⟩
  have HA : Hid (CcAt W0 H cc0 ∧ CcAt W0 (H + 1) cc0 ∧ Below H w W0 ∧ W0.heap.size = H + 1 + 1) := by
    have e1 := heap_alloc_new w (.cells cc0.cs 36)
    have e2 := heap_alloc_new (w.alloc (.cells cc0.cs 36)) (.cells cc0.cs 36)
    rw [World.size_alloc] at e2
    refine ⟨?_, ?_, ?_, ?_⟩
    · unfold CcAt; rw [hW0, hH, heap_alloc_old _ _ (by simp)]; exact e1
    · unfold CcAt; rw [hW0, hH]; exact e2
    · rw [hW0, hH]; exact ((Below.refl _ w).alloc (Nat.le_refl _) _).alloc (by simp) _
    · rw [hW0, hH]; simp
  have HW0 : Hid ((w.alloc (.cells #[.bool false, .bool false, .bool false, .bool false, .bool false, .int .i64 0] 36)).alloc (.cells #[.bool false, .bool false, .bool false, .bool false, .bool false, .int .i64 0] 36) = W0) := hW0.symm
  clear hW0
  go_enter Try.func22, Try.ntmps22
  go_wp2_with fail
  rw [HW0.out, ← hH]
  clear hH
  refine (specSplit_any s _ hs).mono ?_
  rintro e w1 ⟨v, rfl, hown, b1⟩
  rw [HA.out.2.2.2] at hown b1
  obtain ⟨l, hl⟩ : ∃ l, l = splitL s := ⟨_, rfl⟩
  rw [← hl] at hown
  have HLS : Hid (splitL s = l) := hl.symm
  have HLB : Hid (∀ x ∈ l, x.size ≤ 1048576) := fun x hx => by rw [hl] at hx; have := (splitL_le s).2 x hx; omega
  have hll : l.length ≤ 1048577 := by rw [hl]; have := (splitL_le s).1; omega
  have HS1 : Hid (CcSt w H (ccTo (l.take 0)) v l w1) := ⟨HA.out.1.same (b1.block _ (by omega)), HA.out.2.1.same (b1.block _ (by omega)), hown, HA.out.2.2.1.trans (b1.mono (by omega))⟩
  obtain ⟨oa, cp, rfl⟩ := slice_of_owns hown
  obtain ⟨n, hn⟩ : ∃ n, n = l.length := ⟨_, rfl⟩
  have HN : Hid (l.length = n) := hn.symm
  rw [← hn] at hll HS1
  rw [← hn]
  clear hown b1 hl hn
  go_wp2_with fail
  go_loopw [5] (fun i wr => ∃ k : Nat, k ≤ n ∧ i = .int .i64 (k : Int) ∧ Hid (CcSt w H (ccTo (l.take k)) (.slice oa n cp) l wr)) (fun i _ => n - (intOf i).toNat)
  case atStart => exact ⟨0, Nat.zero_le _, rfl, HS1⟩
  case round =>
    obtain ⟨k, hk, rfl, HS⟩ := hrel
    by_cases hlt : (k : Int) < (n : Int)
    · have hkl : k < l.length := by have := HN.out; omega
      obtain ⟨g, rfl⟩ : ∃ g, oa = some ⟨g, 0, none⟩ := by
        rcases HS.out.row.2 with ⟨e, _⟩ | ⟨g, _, _, e, _⟩
        · injection e with _ e2 _; omega
        · injection e with e1 _ _; exact ⟨g, e1⟩
      obtain ⟨x, hx⟩ : ∃ x, x = l[k]'hkl := ⟨_, rfl⟩
      have hc0 : wr.cell? ⟨g, k, none⟩ = some (.string x) := by
        have hr := HS.out.row
        rw [HN.out] at hr
        exact (owns_cellC hr k (.string x) (by rw [List.getElem?_map, List.getElem?_eq_getElem hkl, hx]; rfl)).1
      have hxs : x.size ≤ 1048576 := by rw [hx]; exact HLB.out _ (List.getElem_mem hkl)
      obtain ⟨y, hy⟩ : ∃ y, y = lowerOf x := ⟨_, rfl⟩
      have hys : y.size ≤ 4000000 := by rw [hy, ccLow_size]; omega
      have HY : Hid (lowerOf x = y) := hy.symm
      have HST : Hid (ccTo (l.take (k + 1)) = ccStep (ccTo (l.take k)) y) := by
        show _ = _
        rw [List.take_succ_eq_append_getElem hkl, ccTo_snoc, ← hx, hy]
      clear hx hy hkl
      obtain ⟨c, hc⟩ : ∃ c, c = ccTo (l.take k) := ⟨_, rfl⟩
      rw [← hc] at HS HST
      obtain ⟨d, hd⟩ : ∃ d, d = ccTo (l.take (k + 1)) := ⟨_, rfl⟩
      rw [← hd] at HST
      have HD : Hid (ccTo (l.take (k + 1)) = d) := hd.symm
      clear hc hd
      go_wp2_with fail
      refine (specLower_any x _ hxs).mono ?_
      rintro e w2 ⟨rfl, b2⟩
      rw [HY.out]
      have HS2 : Hid (CcSt w H c (.slice (some ⟨g, 0, none⟩) n cp) l w2) := HS.out.later b2
      clear b2 hc0
      go_wp2_with fail
      refine (l6Age_any y _ hys).mono ?_
      rintro e w3 ⟨na, ba, rfl, hb1, hb2, b3⟩
      have HS3 : Hid (CcSt w H c (.slice (some ⟨g, 0, none⟩) n cp) l w3) := HS2.out.later b3
      obtain ⟨q0, q1, q2, q3, q4, q5⟩ := HS3.out.cur.cells
      have f0 := HS3.out.cur.frozen 0
      have f1 := HS3.out.cur.frozen 1
      have f2 := HS3.out.cur.frozen 2
      have f3 := HS3.out.cur.frozen 3
      have f4 := HS3.out.cur.frozen 4
      have f5 := HS3.out.cur.frozen 5
      clear b3 HS HS2
      by_cases h0 : y = nsW
      · have t0 : (y.toList == nsW.toList) = true := (text_beq _ _).2 h0
        rw [nsW_list] at t0
        have HS4 : Hid (CcSt w H d (.slice (some ⟨g, 0, none⟩) n cp) l (w3.setCell ⟨H + 1, 0, none⟩ (.bool true))) := by
          show CcSt _ _ _ _ _ _
          have e : d = { c with ns := true } := by rw [HST.out]; unfold ccStep; rw [if_pos h0]
          rw [e]
          exact HS3.out.put (HS3.out.cur.put0 true)
        clear h0 hb1 hb2
        go_wp2_with fail
        go_roundw
        case rel => exact ⟨k + 1, by omega, by go_num, by rw [HD.out]; exact HS4⟩
        case measure => simp [intOf]; omega
      have t0 : (y.toList == nsW.toList) = false := text_beq_no h0
      rw [nsW_list] at t0
      by_cases h1 : y = ncW
      · have t1 : (y.toList == ncW.toList) = true := (text_beq _ _).2 h1
        rw [ncW_list] at t1
        have HS4 : Hid (CcSt w H d (.slice (some ⟨g, 0, none⟩) n cp) l (w3.setCell ⟨H + 1, 1, none⟩ (.bool true))) := by
          show CcSt _ _ _ _ _ _
          have e : d = { c with nc := true } := by rw [HST.out]; unfold ccStep; rw [if_neg h0, if_pos h1]
          rw [e]
          exact HS3.out.put (HS3.out.cur.put1 true)
        clear h0 h1 hb1 hb2
        go_wp2_with fail
        go_roundw
        case rel => exact ⟨k + 1, by omega, by go_num, by rw [HD.out]; exact HS4⟩
        case measure => simp [intOf]; omega
      have t1 : (y.toList == ncW.toList) = false := text_beq_no h1
      rw [ncW_list] at t1
      by_cases h2 : y = prW
      · have t2 : (y.toList == prW.toList) = true := (text_beq _ _).2 h2
        rw [prW_list] at t2
        have HS4 : Hid (CcSt w H d (.slice (some ⟨g, 0, none⟩) n cp) l (w3.setCell ⟨H + 1, 2, none⟩ (.bool true))) := by
          show CcSt _ _ _ _ _ _
          have e : d = { c with pr := true } := by rw [HST.out]; unfold ccStep; rw [if_neg h0, if_neg h1, if_pos h2]
          rw [e]
          exact HS3.out.put (HS3.out.cur.put2 true)
        clear h0 h1 h2 hb1 hb2
        go_wp2_with fail
        go_roundw
        case rel => exact ⟨k + 1, by omega, by go_num, by rw [HD.out]; exact HS4⟩
        case measure => simp [intOf]; omega
      have t2 : (y.toList == prW.toList) = false := text_beq_no h2
      rw [prW_list] at t2
      by_cases h3 : y = muW
      · have t3 : (y.toList == muW.toList) = true := (text_beq _ _).2 h3
        rw [muW_list] at t3
        have HS4 : Hid (CcSt w H d (.slice (some ⟨g, 0, none⟩) n cp) l (w3.setCell ⟨H + 1, 3, none⟩ (.bool true))) := by
          show CcSt _ _ _ _ _ _
          have e : d = { c with mu := true } := by rw [HST.out]; unfold ccStep; rw [if_neg h0, if_neg h1, if_neg h2, if_pos h3]
          rw [e]
          exact HS3.out.put (HS3.out.cur.put3 true)
        clear h0 h1 h2 h3 hb1 hb2
        go_wp2_with fail
        go_roundw
        case rel => exact ⟨k + 1, by omega, by go_num, by rw [HD.out]; exact HS4⟩
        case measure => simp [intOf]; omega
      have t3 : (y.toList == muW.toList) = false := text_beq_no h3
      rw [muW_list] at t3
      have HRE : Hid (ccStep c y = match ageOf y with | none => c | some n => if c.ha = true then { c with age := min c.age n } else { c with ha := true, age := n }) := by
        show _ = _
        unfold ccStep
        rw [if_neg h0, if_neg h1, if_neg h2, if_neg h3] <;> rfl
      clear h0 h1 h2 h3
      cases ba with
      | false =>
        have HS4 : Hid (CcSt w H d (.slice (some ⟨g, 0, none⟩) n cp) l w3) := by
          show CcSt _ _ _ _ _ _
          have e : d = c := by rw [HST.out, HRE.out, hb2 rfl]
          rw [e]
          exact HS3.out
        clear hb1 hb2
        go_wp2_with fail
        go_roundw
        case rel => exact ⟨k + 1, by omega, by go_num, by rw [HD.out]; exact HS4⟩
        case measure => simp [intOf]; omega
      | true =>
        cases hha : c.ha with
        | true =>
          have HS4 : Hid (CcSt w H d (.slice (some ⟨g, 0, none⟩) n cp) l (w3.setCell ⟨H + 1, 5, none⟩ (.int .i64 (min c.age na)))) := by
            show CcSt _ _ _ _ _ _
            have e : d = { c with age := min c.age na } := by rw [HST.out, HRE.out, hb1 rfl]; dsimp only; rw [if_pos hha]
            rw [e]
            exact HS3.out.put (HS3.out.cur.put5 _)
          rw [hha] at q4
          clear hb1 hb2 hha
          go_wp2_with fail
          refine (l1Min_any _ _ _).mono ?_
          rintro e w4 ⟨rfl, rfl⟩
          go_wp2_with fail
          go_roundw
          case rel => exact ⟨k + 1, by omega, by go_num, by rw [HD.out]; exact HS4⟩
          case measure => simp [intOf]; omega
        | false =>
          have HS4a : CcSt w H { c with ha := true } (.slice (some ⟨g, 0, none⟩) n cp) l (w3.setCell ⟨H + 1, 4, none⟩ (.bool true)) := HS3.out.put (HS3.out.cur.put4 true)
          have HS4 : Hid (CcSt w H d (.slice (some ⟨g, 0, none⟩) n cp) l ((w3.setCell ⟨H + 1, 4, none⟩ (.bool true)).setCell ⟨H + 1, 5, none⟩ (.int .i64 na))) := by
            show CcSt _ _ _ _ _ _
            have e : d = { c with ha := true, age := na } := by rw [HST.out, HRE.out, hb1 rfl]; dsimp only; rw [if_neg (by rw [hha]; decide)]
            rw [e]
            exact HS4a.put (HS4a.cur.put5 _)
          have q5a := HS4a.cur.cells.2.2.2.2.2
          have f5a := HS4a.cur.frozen 5
          rw [hha] at q4
          clear hb1 hb2 hha HS4a
          go_wp2_with fail
          go_roundw
          case rel => exact ⟨k + 1, by omega, by go_num, by rw [HD.out]; exact HS4⟩
          case measure => simp [intOf]; omega
    · obtain rfl : k = n := by omega
      have HE : Hid (ccTo (l.take k) = ccR s) := by
        show _ = _
        rw [List.take_of_length_le (by rw [HN.out]; exact Nat.le_refl _)]
        unfold ccR
        rw [HLS.out]
      rw [HE.out] at HS
      obtain ⟨c, hc⟩ : ∃ c, c = ccR s := ⟨_, rfl⟩
      rw [← hc] at HS
      have HC : Hid (c = ccR s) := hc
      obtain ⟨q0, q1, q2, q3, q4, q5⟩ := HS.out.cur.cells
      obtain ⟨r0, r1, r2, r3, r4, r5⟩ := HS.out.res.cells
      have f0 := HS.out.res.frozen 0
      have f1 := HS.out.res.frozen 1
      have f2 := HS.out.res.frozen 2
      have f3 := HS.out.res.frozen 3
      have f4 := HS.out.res.frozen 4
      have f5 := HS.out.res.frozen 5
      obtain ⟨m0, m1, m2, m3, m4, m5⟩ := (HS.out.res.putAll c).cells
      have HB : Hid (Below H w (putCc wr H c)) := below_putCc HS.out.low (Nat.le_refl _) c
      clear hc HE
      unfold putCc at m0 m1 m2 m3 m4 m5 HB
      go_wp2_with fail
      refine bodyPost_ret (v := c.v) (by simp [results, Try.results22, go_sem, m0, m1, m2, m3, m4, m5, CcD.v]) rfl ?_
      exact ⟨by rw [HC.out], by rw [HW.out]; exact HB.out⟩

set_option maxHeartbeats 1000000 in
theorem specCcOf_any (v : Value) (n base : Nat) (fs : List (ByteArray × ByteArray)) (w : World) (hv : FieldsV w base v n fs) (hn : n ≤ 1073741824) (hsz : (getV fs ccName).size ≤ 1048576) :
    Calls Try.prog 12 #[v] w fun e w' => e = .returned (ccR (getV fs ccName)).v ∧ Below w.heap.size w w' := by
  have hv1 : FieldsV (w.alloc (.cells cc0.cs 36)) base v n fs := hv.below ((Below.refl _ _).alloc (Nat.le_refl _) _)
  have HR0 : Hid (CcAt (w.alloc (.cells cc0.cs 36)) w.heap.size cc0) := heap_alloc_new w _
  obtain ⟨t, ht⟩ : ∃ t, t = getV fs ccName := ⟨_, rfl⟩
  have HT : Hid (getV fs ccName = t) := ht.symm
  rw [← ht] at hsz
  obtain ⟨c, hc⟩ : ∃ c, c = ccR t := ⟨_, rfl⟩
  have HC : Hid (ccR t = c) := hc.symm
  rw [← ht, ← hc]
  clear ht hc hv
  go_enter Try.func12, Try.ntmps12
  go_wp2_with fail
  refine (specGet_any v n base fs ccName _ hv1 hn).mono ?_
  rintro e w1 ⟨rfl, rfl⟩
  rw [HT.out]
  clear hv1
  go_wp2_with fail
  refine (specCcRead_any t _ hsz).mono ?_
  rintro e w2 ⟨rfl, b2⟩
  rw [HC.out]
  have hR := HR0.out.same (b2.block _ HR0.out.lt)
  obtain ⟨r0, r1, r2, r3, r4, r5⟩ := hR.cells
  have f0 := hR.frozen 0
  have f1 := hR.frozen 1
  have f2 := hR.frozen 2
  have f3 := hR.frozen 3
  have f4 := hR.frozen 4
  have f5 := hR.frozen 5
  obtain ⟨m0, m1, m2, m3, m4, m5⟩ := (hR.putAll c).cells
  have HB : Hid (Below w.heap.size w (putCc w2 w.heap.size c)) := below_putCc (((Below.refl _ w).alloc (Nat.le_refl _) _).trans (b2.mono (by simp))) (Nat.le_refl _) c
  unfold putCc at m0 m1 m2 m3 m4 m5 HB
  clear hR b2 HR0
  unfold CcD.v
  go_wp2_with fail
  refine bodyPost_ret (v := c.v) (by simp [results, Try.results12, go_sem, m0, m1, m2, m3, m4, m5, CcD.v]) rfl ?_
  exact ⟨rfl, HB.out⟩

end Go.Proofs.Ytmcmeeibogkpaaa

namespace Go.Proofs.Ytmcmeeibogkpaaa
open Go.RowKit
open Go.Lib hiding intOf

theorem cc_nc (c0 c1 c2 c3 c4 : Bool) (c5 : Int) (W : World) : (Instr.field 36 (.agg #[.bool c0, .bool c1, .bool c2, .bool c3, .bool c4, .int .i64 c5]) 1).run Try.prog W = .ok (.bool c1) W := by
  first | rfl | kernel_rfl | simp [Instr.field, go_sem]

end Go.Proofs.Ytmcmeeibogkpaaa

namespace Go.Proofs.Ytmcmeeibogkpaaa
open Go.RowKit
open Go.Lib hiding intOf

/-- Who may be answered from here. -/
def HereP (m : Int) (p : ByteArray) (fs : List (ByteArray × ByteArray)) (b : ByteArray) : Prop := (ReqP m p fs b ∧ m = 1) ∧ (ccR (getV fs ccName)).ns = false
/-- Both ask for the same. -/
def AlikeP (m : Int) (p : ByteArray) (fs : List (ByteArray × ByteArray)) (b : ByteArray) (m2 : Int) (p2 : ByteArray) (gs : List (ByteArray × ByteArray)) (c : ByteArray) : Prop := (HereP m p fs b ∧ HereP m2 p2 gs c) ∧ p = p2 ∧ fs = gs
/-- The first fields of both are the same. -/
def SameTo (fs gs : List (ByteArray × ByteArray)) (k : Nat) : Prop := ∀ j, j < k → nameAt fs j = nameAt gs j ∧ valAt fs j = valAt gs j
theorem SameTo.zero (fs gs : List (ByteArray × ByteArray)) : SameTo fs gs 0 := fun j h => absurd h (Nat.not_lt_zero j)
theorem SameTo.step {fs gs : List (ByteArray × ByteArray)} {k : Nat} (h : SameTo fs gs k) (h1 : nameAt fs k = nameAt gs k) (h2 : valAt fs k = valAt gs k) : SameTo fs gs (k + 1) := fun j hj => by
  by_cases e : j = k
  · subst e; exact ⟨h1, h2⟩
  · exact h j (by omega)
theorem SameTo.all {fs gs : List (ByteArray × ByteArray)} {n : Nat} (h : SameTo fs gs n) (h1 : fs.length = n) (h2 : gs.length = n) : fs = gs := by
  apply List.ext_getElem (by omega)
  intro i hi hj
  have := h i (by omega)
  unfold nameAt valAt at this
  rw [List.getD_eq_getElem?_getD, List.getElem?_eq_getElem hi, List.getD_eq_getElem?_getD, List.getElem?_eq_getElem hj] at this
  exact Prod.ext this.1 this.2

end Go.Proofs.Ytmcmeeibogkpaaa

namespace Go.Proofs.Ytmcmeeibogkpaaa
open Go.RowKit
open Go.Lib hiding intOf

theorem cc_ns (c0 c1 c2 c3 c4 : Bool) (c5 : Int) (W : World) : (Instr.field 36 (.agg #[.bool c0, .bool c1, .bool c2, .bool c3, .bool c4, .int .i64 c5]) 0).run Try.prog W = .ok (.bool c0) W := by
  first | rfl | kernel_rfl | simp [Instr.field, go_sem]
theorem guardFld : Try.prog.eqGuardType Try.prog.depth 40 = false := by kernel_rfl
open Classical in
theorem eqFldIn (a a' b b' : ByteArray) (w : World) : (Op.equalIn 10000 40 (.agg #[.string a, .string b]) (.agg #[.string a', .string b'])).run Try.prog w = .ok (decide (a = a' ∧ b = b')) w := by
  have u9 := Try.underlying9
  have a9 := Try.isAgg9
  have z9 := Try.sizeOf9
  have hS : Try.prog.underlying 40 = some (.struct (Try.prog.fieldsOf 40)) := by kernel_rfl
  have hp : Try.prog.stoodInHeld 40 = false := by kernel_rfl
  rw [show (10000 : Nat) = 9999 + 1 from rfl, run_equalIn_agg w 9999 40 _ _ hS hp]
  simp only [Program.fieldsOf, Try.underlying40]
  have ea : ∀ x y : ByteArray, (x.toList == y.toList) = decide (x = y) := fun x y => by
    by_cases h : x = y
    · rw [decide_eq_true h]; exact (text_beq _ _).2 h
    · rw [decide_eq_false h]; exact text_beq_no h
  go_simp
  by_cases h1 : a = a'
  · by_cases h2 : b = b'
    · simp [h1, h2]
    · simp [h1, h2]
  · simp [h1]
open Classical in
theorem neqFld (a a' b b' : ByteArray) (w : World) : (binOp .neq 40 (.agg #[.string a, .string b]) (.agg #[.string a', .string b'])).run Try.prog w = .ok (.bool (!(decide (a = a' ∧ b = b')))) w := by
  rw [run_neq_struct, eqFldIn]
  rfl

end Go.Proofs.Ytmcmeeibogkpaaa

namespace Go.Proofs.Ytmcmeeibogkpaaa
open Go.RowKit
open Go.Lib hiding intOf

set_option maxHeartbeats 1000000 in
theorem place_any (v : Value) (n base : Nat) (fs : List (ByteArray × ByteArray)) (name : ByteArray) (w : World) (hv : FieldsV w base v n fs) (hn : n ≤ 1073741824) :
    Calls Try.prog 41 #[v, .string name] w fun e w' => e = .returned (.int .i64 (atF fs name : Int)) ∧ w' = w := by
  have hl := hv.len
  obtain ⟨oa, cap, rfl, hrow⟩ := hv.slice
  clear hv
  go_enter Try.func41, Try.ntmps41
  go_wp2
  go_loop [8] (fun i => ∃ k : Nat, k ≤ n ∧ i = .int .i64 (k : Int) ∧ Hid (∀ j, j < k → nameAt fs j ≠ name)) (fun i => n - (intOf i).toNat)
  case atStart => exact ⟨0, Nat.zero_le _, rfl, fun j h => absurd h (by omega)⟩
  case round =>
    obtain ⟨k, hk, rfl, hb⟩ := hrel
    by_cases hlt : k < n
    · obtain ⟨g, rfl, row⟩ := hrow k hlt
      have hc := row.name k hlt
      have hlt2 : (k : Int) < (n : Int) := by omega
      clear hrow row
      by_cases he : nameAt fs k = name
      · have hT : Hid (atF fs name = k) := atF_uniq (by omega) hb.out he
        have ht : ((nameAt fs k).toList == name.toList) = true := (text_beq _ _).2 he
        clear he
        go_wp2
        go_ret
        exact ⟨by rw [hT.out]; rfl, rfl⟩
      · have ht := text_beq_no he
        have HE : Hid (nameAt fs k ≠ name) := he
        clear he
        go_wp2
        go_round
        case rel =>
          refine ⟨k + 1, by omega, by go_num, ?_⟩
          intro j hj
          by_cases e : j = k
          · subst e; exact HE.out
          · exact hb.out j (by omega)
        case measure => simp [intOf]; omega
    · have hT : Hid (atF fs name = n) := by
        have := atF_none (fs := fs) (name := name) (fun j hj => hb.out j (by omega))
        show _ = _
        omega
      clear hrow
      go_wp2
      go_ret
      exact ⟨by rw [hT.out]; rfl, rfl⟩

/-- Every text of the fields is short enough to be copied. -/
def CopyF (fs : List (ByteArray × ByteArray)) : Prop := ∀ i, i < fs.length → (nameAt fs i).size ≤ 281474976710656 ∧ (valAt fs i).size ≤ 281474976710656

set_option maxHeartbeats 1000000 in
theorem implGet_any (v : Value) (n base : Nat) (fs : List (ByteArray × ByteArray)) (name : ByteArray) (w : World) (hv : FieldsV w base v n fs) (hn : n ≤ 1073741824) (hsz : CopyF fs) :
    Calls Try.prog 35 #[v, .string name] w fun e w' => e = .returned (.tuple #[.string (getV fs name), .bool (getB fs name)]) ∧ Below w.heap.size w w' := by
  have hl := hv.len
  have hv0 := hv
  obtain ⟨oa, cap, rfl, hrow⟩ := hv0.slice
  clear hv0
  obtain ⟨k, hk⟩ : ∃ k, k = atF fs name := ⟨_, rfl⟩
  have hle := atF_le fs name
  by_cases hin : atF fs name < fs.length
  · have hV : Hid (getV fs name = valAt fs k) := by show _ = _; unfold getV; rw [if_pos hin, hk]
    have hB : Hid (getB fs name = true) := by show _ = _; unfold getB; simpa using hin
    obtain ⟨g, rfl, row⟩ := hrow k (by omega)
    have hc := row.val k (by omega)
    have hlt : (k : Int) < (n : Int) := by omega
    have hne : ((k : Int) == (n : Int)) = false := by rw [beq_eq_false_iff_ne]; omega
    obtain ⟨_, hz⟩ := hsz k (by omega)
    obtain ⟨vl, hvl⟩ : ∃ y, y = valAt fs k := ⟨_, rfl⟩
    rw [← hvl] at hV hc hz
    go_enter Try.func35, Try.ntmps35
    go_wp2_with fail
    refine (place_any _ n base fs name _ hv hn).mono ?_
    rintro e w1 ⟨rfl, rfl⟩
    rw [← hk]
    clear hv hrow row hk hvl hle hin hsz
    go_wp2_with fail
    refine (clone_any vl _ hz).mono ?_
    rintro e w2 ⟨rfl, hb2⟩
    go_wp2
    go_ret2
    exact ⟨by rw [hV.out, hB.out]; rfl, hb2⟩
  · have hV : Hid (getV fs name = ⟨#[]⟩) := by show _ = _; unfold getV; rw [if_neg hin]
    have hB : Hid (getB fs name = false) := by show _ = _; unfold getB; simpa using hin
    have hkn : k = n := by omega
    go_enter Try.func35, Try.ntmps35
    go_wp2_with fail
    refine (place_any _ n base fs name _ hv hn).mono ?_
    rintro e w1 ⟨rfl, rfl⟩
    rw [← hk, hkn]
    clear hv hrow hk hle hin hsz hkn
    go_wp2
    go_ret2
    exact ⟨by rw [hV.out, hB.out]; rfl, Below.refl _ _⟩

end Go.Proofs.Ytmcmeeibogkpaaa

namespace Go.Proofs.Ytmcmeeibogkpaaa
open Go.RowKit
open Go.Lib hiding intOf

set_option maxHeartbeats 1000000 in
theorem fieldOk_any (v : Value) (n base : Nat) (fs : List (ByteArray × ByteArray)) (k : Nat) (w : World) (hv : FieldsV w base v n fs) (hn : n ≤ 1073741824) (hk : k < n) (hs1 : (nameAt fs k).size ≤ maxLen) (hs2 : (valAt fs k).size ≤ maxLen) :
    Calls Try.prog 64 #[v, .int .i64 (k : Int)] w fun e w' => BoolIs (FldOk fs k) w e w' := by
  have HV : Hid (∀ W, Below w.heap.size w W → FieldsV W base v n fs) := fun W h => hv.below h
  obtain ⟨oa, cap, rfl, hrow⟩ := hv.slice
  obtain ⟨g, rfl, row⟩ := hrow k hk
  have hlt2 : (k : Int) < (n : Int) := by omega
  have hc1 := row.name k hk
  have hc2 := row.val k hk
  obtain ⟨nm, hnm⟩ : ∃ x, x = nameAt fs k := ⟨_, rfl⟩
  obtain ⟨vl, hvl⟩ : ∃ x, x = valAt fs k := ⟨_, rfl⟩
  have HO : Hid (FldOk fs k ↔ TokOk nm ∧ ValOk vl ∧ atF fs nm = k ∧ nm ≠ clen) := by rw [hnm, hvl]; exact Iff.rfl
  rw [← hnm] at hc1 hs1
  rw [← hvl] at hc2 hs2
  clear hv hrow row hnm hvl
  obtain ⟨r, hr⟩ : ∃ r, r = w.heap.size := ⟨_, rfl⟩
  have h0 : (w.alloc (.cells #[.string nm, .string vl] 40)).heap.size = w.heap.size + 1 := by simp
  have HB0 : Hid (Below w.heap.size w (w.alloc (.cells #[.string nm, .string vl] 40)) ∧ w.heap.size ≤ (w.alloc (.cells #[.string nm, .string vl] 40)).heap.size) := ⟨(Below.refl _ w).alloc (Nat.le_refl _) _, by omega⟩
  have HR : Hid (∀ W, Below (w.alloc (.cells #[.string nm, .string vl] 40)).heap.size (w.alloc (.cells #[.string nm, .string vl] 40)) W → W.cell? ⟨r, 0, none⟩ = some (.string nm) ∧ W.cell? ⟨r, 1, none⟩ = some (.string vl)) := fun W h => by
    have hh : W.heap[r]? = some (.cells #[.string nm, .string vl] 40) := by rw [hr, h.block _ (by omega)]; exact heap_alloc_new w _
    exact ⟨by simp [World.cell?, hh], by simp [World.cell?, hh]⟩
  go_enter Try.func64, Try.ntmps64
  go_wp2_with fail
  refine (implTokenOk_any nm _ hs1).mono ?_
  rintro e w1 ⟨b1, rfl, kb1, bb1⟩
  rw [← hr]
  have hb1 : Below w.heap.size w w1 := HB0.out.1.trans (bb1.mono HB0.out.2)
  obtain ⟨d1, d2⟩ := HR.out w1 bb1
  clear h0
  cases b1
  · have HF : Hid (¬ FldOk fs k) := fun h => by have := kb1.2 (HO.out.1 h).1; cases this
    clear kb1 hc1 hc2 bb1 hr
    go_wp2_with fail
    go_ret
    exact BoolIs.no HF.out hb1
  · have HT : Hid (TokOk nm) := kb1.1 rfl
    clear kb1 hc1 hc2 hr
    go_wp2_with fail
    refine (implValueOk_any vl _ hs2).mono ?_
    rintro e w2 ⟨b2, rfl, kb2, bb2⟩
    have bb2' := bb1.trans (bb2.mono bb1.size)
    have hb2 : Below w.heap.size w w2 := HB0.out.1.trans (bb2'.mono HB0.out.2)
    obtain ⟨d3, d4⟩ := HR.out w2 bb2'
    cases b2
    · have HF : Hid (¬ FldOk fs k) := fun h => by have := kb2.2 (HO.out.1 h).2.1; cases this
      clear kb2 bb1 bb2 bb2' hb1 d1 d2
      go_wp2_with fail
      go_ret
      exact BoolIs.no HF.out hb2
    · have HT2 : Hid (ValOk vl) := kb2.1 rfl
      clear kb2 bb1 bb2 bb2' hb1 d1 d2
      by_cases hcl : nm = clen
      · have ht := (text_beq _ _).2 hcl
        rw [clen_list] at ht
        have HF : Hid (¬ FldOk fs k) := fun h => (HO.out.1 h).2.2.2 hcl
        clear hcl
        go_wp2_with fail
        go_ret
        exact BoolIs.no HF.out hb2
      · have ht := text_beq_no hcl
        rw [clen_list] at ht
        have HC : Hid (nm ≠ clen) := hcl
        clear hcl
        go_wp2_with fail
        refine (place_any _ n base fs nm _ (HV.out w2 hb2) hn).mono ?_
        rintro e w3 ⟨rfl, rfl⟩
        by_cases hat : atF fs nm = k
        · have HY : Hid (FldOk fs k) := HO.out.2 ⟨HT.out, HT2.out, hat, HC.out⟩
          rw [hat]
          clear hat
          go_wp2
          go_ret
          exact BoolIs.yes HY.out hb2
        · have HF : Hid (¬ FldOk fs k) := fun h => hat (HO.out.1 h).2.2.1
          have hne : ((atF fs nm : Int) == (k : Int)) = false := by rw [beq_eq_false_iff_ne]; omega
          clear hat
          go_wp2
          go_ret
          exact BoolIs.no HF.out hb2

set_option maxHeartbeats 1000000 in
theorem ok_any (v : Value) (n base : Nat) (fs : List (ByteArray × ByteArray)) (w : World) (hv : FieldsV w base v n fs) (hn : n ≤ 1073741824) (hsz : ∀ i, i < n → (nameAt fs i).size ≤ maxLen ∧ (valAt fs i).size ≤ maxLen) :
    Calls Try.prog 60 #[v] w fun e w' => BoolIs (FldsOk fs) w e w' := by
  have hl := hv.len
  have HV : Hid (∀ W, Below w.heap.size w W → FieldsV W base v n fs) := fun W h => hv.below h
  have HS : Hid (∀ i, i < n → (nameAt fs i).size ≤ maxLen ∧ (valAt fs i).size ≤ maxLen) := hsz
  obtain ⟨oa, cap, rfl, hrow⟩ := hv.slice
  clear hv hrow hsz
  by_cases h8 : (8 : Int) < (n : Int)
  · have HF : Hid (¬ FldsOk fs) := fun h => by have := h.1; omega
    go_enter Try.func60, Try.ntmps60
    go_wp2
    go_ret
    exact BoolIs.no HF.out (Below.refl _ _)
  · go_enter Try.func60, Try.ntmps60
    go_wp2
    go_loopw [9] (fun i wr => ∃ k : Nat, k ≤ n ∧ i = .int .i64 (k : Int) ∧ Hid (∀ j, j < k → FldOk fs j) ∧ Below w.heap.size w wr) (fun i _ => n - (intOf i).toNat)
    case atStart => exact ⟨0, Nat.zero_le _, rfl, fun j h => absurd h (by omega), Below.refl _ _⟩
    case round =>
      obtain ⟨k, hk, rfl, hall, hbw⟩ := hrel
      by_cases hlt : k < n
      · have hlt2 : (k : Int) < (n : Int) := by omega
        obtain ⟨hs1, hs2⟩ := HS.out k hlt
        go_wp2_with fail
        refine (fieldOk_any _ n base fs k _ (HV.out wr hbw) hn hlt hs1 hs2).mono ?_
        rintro e w1 ⟨b1, rfl, kb1, bb1⟩
        have hb1 : Below w.heap.size w w1 := hbw.trans (bb1.mono hbw.size)
        cases b1
        · have HF : Hid (¬ FldsOk fs) := fun h => by have := kb1.2 (h.2 k (by omega)); cases this
          clear kb1 bb1
          go_wp2
          go_ret
          exact BoolIs.no HF.out hb1
        · have HY : Hid (FldOk fs k) := kb1.1 rfl
          clear kb1 bb1
          go_wp2
          go_roundw
          case rel =>
            refine ⟨k + 1, by omega, by go_num, ?_, hb1⟩
            intro j hj
            by_cases e : j = k
            · subst e; exact HY.out
            · exact hall.out j (by omega)
          case measure => simp [intOf]; omega
      · have HF : Hid (FldsOk fs) := ⟨by omega, fun i hi => hall.out i (by omega)⟩
        go_wp2
        go_ret
        exact BoolIs.yes HF.out hbw

end Go.Proofs.Ytmcmeeibogkpaaa

namespace Go.Proofs.Ytmcmeeibogkpaaa
open Go.RowKit
open Go.Lib hiding intOf

set_option maxHeartbeats 8000000 in
set_option maxRecDepth 100000 in
theorem l15Fields_any (v1 v2 : Value) (n m b1 b2 : Nat) (fs gs : List (ByteArray × ByteArray)) (w : World) (h1 : FieldsV w b1 v1 n fs) (h2 : FieldsV w b2 v2 m gs) (hn : n ≤ 1073741824) (hm : m ≤ 1073741824) :
    Calls Try.prog 11 #[v1, v2] w fun e w' => BoolIs (fs = gs) w e w' := by
  classical
  have HL1 : Hid (fs.length = n) := h1.len
  have HL2 : Hid (gs.length = m) := h2.len
  obtain ⟨oa, ca, rfl, ra⟩ := h1.slice
  obtain ⟨ob, cb, rfl, rb⟩ := h2.slice
  have HRA : Hid (∀ k, k < n → ∃ g, oa = some ⟨g, 0, none⟩ ∧ FieldRow b1 w g n ca fs) := ra
  have HRB : Hid (∀ k, k < m → ∃ g, ob = some ⟨g, 0, none⟩ ∧ FieldRow b2 w g m cb gs) := rb
  clear ra rb h1 h2
  have hgd := guardFld
  go_enter Try.func11, Try.ntmps11
  go_wp2
  go_loopw [5] (fun i wr => ∃ k : Nat, k ≤ n ∧ k ≤ m ∧ i = .int .i64 (k : Int) ∧ Below w.heap.size w wr ∧ Hid (SameTo fs gs k)) (fun i _ => n - (intOf i).toNat)
  case atStart => exact ⟨0, Nat.zero_le _, Nat.zero_le _, rfl, Below.refl _ _, SameTo.zero _ _⟩
  case round =>
    obtain ⟨k, hk, hkm, rfl, hbw, HST⟩ := hrel
    by_cases hlt : k < n
    · by_cases hltm : k < m
      · have hlt2 : (k : Int) < (n : Int) := by omega
        have hlt3 : (k : Int) < (m : Int) := by omega
        obtain ⟨g1, hoa, r1⟩ := HRA.out k hlt
        obtain ⟨g2, hob, r2⟩ := HRB.out k hltm
        subst hoa hob
        obtain ⟨na, hna⟩ : ∃ y, y = nameAt fs k := ⟨_, rfl⟩
        obtain ⟨va, hva⟩ : ∃ y, y = valAt fs k := ⟨_, rfl⟩
        obtain ⟨nb, hnb⟩ : ∃ y, y = nameAt gs k := ⟨_, rfl⟩
        obtain ⟨vb, hvb⟩ : ∃ y, y = valAt gs k := ⟨_, rfl⟩
        have ha := (r1.below hbw r1.lt).name k hlt
        have hb := (r1.below hbw r1.lt).val k hlt
        have hc := (r2.below hbw r2.lt).name k hltm
        have hd := (r2.below hbw r2.lt).val k hltm
        rw [← hna] at ha
        rw [← hva] at hb
        rw [← hnb] at hc
        rw [← hvb] at hd
        by_cases he : na = nb ∧ va = vb
        · have HS2 : Hid (SameTo fs gs (k + 1)) := HST.out.step (by rw [← hna, ← hnb]; exact he.1) (by rw [← hva, ← hvb]; exact he.2)
          obtain ⟨e1, e2⟩ := he
          subst e1 e2
          have hq : ∀ W : World, (binOp .neq 40 (.agg #[.string na, .string va]) (.agg #[.string na, .string va])).run Try.prog W = .ok (.bool false) W := fun W => by rw [neqFld]; simp
          clear hna hva hnb hvb r1 r2 HST
          go_wp2
          go_region
          go_wp2
          go_roundw
          case rel => exact ⟨k + 1, by omega, by omega, by go_num, hbw.drew, HS2⟩
          case measure => simp [intOf]; omega
        · have HNE : Hid (¬ fs = gs) := fun e => he ⟨by rw [hna, hnb, e], by rw [hva, hvb, e]⟩
          have hq : ∀ W : World, (binOp .neq 40 (.agg #[.string na, .string va]) (.agg #[.string nb, .string vb])).run Try.prog W = .ok (.bool true) W := fun W => by rw [neqFld, decide_eq_false he]; rfl
          clear hna hva hnb hvb r1 r2 HST he
          go_wp2
          go_region
          go_wp2
          go_ret
          exact BoolIs.no HNE.out hbw.drew
      · have HNE : Hid (¬ fs = gs) := fun e => by
          have h1 := HL1.out
          have h2 := HL2.out
          rw [e] at h1
          omega
        have hnm : ((n : Int) == (m : Int)) = false := by simpa using (show ¬ (n : Int) = (m : Int) by omega)
        go_wp2
        go_ret
        exact BoolIs.no HNE.out hbw
    · by_cases hnm : n = m
      · subst hnm
        have HEQ : Hid (fs = gs) := by
          have h := HST.out
          rw [show k = n by omega] at h
          exact h.all HL1.out HL2.out
        have hnn : ((n : Int) == (n : Int)) = true := by simp
        go_wp2
        go_ret
        exact BoolIs.yes HEQ.out hbw
      · have HNE : Hid (¬ fs = gs) := fun e => by
          have h1 := HL1.out
          have h2 := HL2.out
          rw [e] at h1
          omega
        have hnmb : ((n : Int) == (m : Int)) = false := by simpa using (show ¬ (n : Int) = (m : Int) by omega)
        go_wp2
        go_ret
        exact BoolIs.no HNE.out hbw

end Go.Proofs.Ytmcmeeibogkpaaa
