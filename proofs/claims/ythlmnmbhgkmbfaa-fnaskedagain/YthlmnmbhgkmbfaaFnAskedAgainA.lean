/- What the proof of FnAskedAgain leans on: contracts of the program's and the specification's functions, and plain facts (part 1 of 3). -/
import Derived.Test.YthlmnmbhgkmbfaaProg
import Derived.Test.YthlmnmbhgkmbfaaRows
import Derived.Below
import Derived.BigQuiet
import Derived.ChangeOld
import Derived.Deep.AppendLies
import Derived.Deep.CutRange
import Derived.Deep.DeepCutAuto
import Derived.Deep.DrawnRows
import Derived.Deep.QuietTactic
import Derived.Deep.RegionHeld3
import Derived.Deep.RegionLaw
import Derived.Deep.RegionWith
import Derived.Deep.SlicePairs
import Derived.Laws.AppendOwnNone
import Derived.Laws.BytesArg
import Derived.Laws.EntriesVeiled
import Derived.Laws.MakeOwn
import Derived.Laws.RangeAny
import Derived.Lib.AppendIntMem
import Derived.Lib.BufferOwn
import Derived.Lib.ConvBytes
import Derived.Lib.LaidTab
import Derived.Lib.SliceRun
import Derived.Lib.Strings
import Derived.Lib.Walk
import Derived.LoopIn
import Derived.LoopNIn
import Derived.OpenShut
import Derived.OwnWalkIn
import Derived.ProofKit
import Derived.RangeFuncBound
import Derived.RangeFuncBox
import Derived.RangeFuncCalls
import Derived.RangeFuncLeaves
import Derived.RangeFuncNested
import Derived.Shelf.Abstract
import Derived.Shelf.LaysM
import Derived.Shelf.RegionOpen
import Derived.Shelf.Slices.Turned
import Derived.Shelf.Small.Wraps
import Derived.Shelf.Strconv.Clone
import Derived.Shelf.Strings.Prefix
import Derived.ShutString
import Derived.TacticsInMore
import Derived.WalkKit
import Derived.WalkLawsBesides
import Derived.WalkSpells
namespace Go.Proofs.Ythlmnmbhgkmbfaa
open Go.RowKit

/-- The kind of a rune, in the order of the tests. -/
def cls (r : Int) : Int :=
  if 65 ≤ r ∧ r ≤ 90 then 0 else if 97 ≤ r ∧ r ≤ 122 then 1 else if 48 ≤ r ∧ r ≤ 57 then 2 else if r = 45 then 3 else if r = 32 then 4 else if r = 44 then 5 else if 32 ≤ r ∧ r ≤ 126 then 6 else 7

def testsV : Value := .agg #[.func (.func 131) #[] #[], .func (.func 132) #[] #[], .func (.func 133) #[] #[], .func (.func 134) #[] #[], .func (.func 135) #[] #[], .func (.func 136) #[] #[], .func (.func 137) #[] #[]]

theorem cls_spec (r : Int) : (cls r = 0 ∧ 65 ≤ r ∧ r ≤ 90) ∨ (cls r = 1 ∧ 97 ≤ r ∧ r ≤ 122) ∨ (cls r = 2 ∧ 48 ≤ r ∧ r ≤ 57) ∨ (cls r = 3 ∧ r = 45) ∨ (cls r = 4 ∧ r = 32) ∨ (cls r = 5 ∧ r = 44) ∨ (cls r = 6 ∧ 32 ≤ r ∧ r ≤ 126 ∧ (r < 65 ∨ 90 < r) ∧ (r < 97 ∨ 122 < r) ∧ (r < 48 ∨ 57 < r) ∧ r ≠ 45 ∧ r ≠ 32 ∧ r ≠ 44) ∨ (cls r = 7 ∧ (r < 32 ∨ 126 < r)) := by
  unfold cls
  repeat' split
  all_goals omega

theorem ret_int {k : IntKind} {a b : Int} (h : a = b) : Ending.returned (.int k a) = .returned (.int k b) := by rw [h]

set_option maxHeartbeats 400000 in
theorem byteTests_any (w : World) :
    Calls Try.prog 127 #[] w fun e w' => e = .returned testsV ∧ Below w.heap.size w w' := by
  go_enter Try.func127, Try.ntmps127
  go_wp2
  exact bodyPost_ret (v := testsV) (by simp [results, Try.results127, go_sem, testsV]) rfl ⟨rfl, (Below.refl _ _).alloc (Nat.le_refl _) _⟩

set_option maxHeartbeats 1000000 in
theorem classOf_any (r : Int) (w : World) :
    Calls Try.prog 118 #[.int .i32 r] w fun e w' => e = .returned (.int .i64 (cls r)) ∧ Below w.heap.size w w' := by
  have i0 : ∀ w : World, (Instr.index 135 testsV (.int .i64 0)).run Try.prog w = .ok (.func (.func 131) #[] #[]) w := fun _ => by kernel_rfl
  have i1 : ∀ w : World, (Instr.index 135 testsV (.int .i64 1)).run Try.prog w = .ok (.func (.func 132) #[] #[]) w := fun _ => by kernel_rfl
  have i2 : ∀ w : World, (Instr.index 135 testsV (.int .i64 2)).run Try.prog w = .ok (.func (.func 133) #[] #[]) w := fun _ => by kernel_rfl
  have i3 : ∀ w : World, (Instr.index 135 testsV (.int .i64 3)).run Try.prog w = .ok (.func (.func 134) #[] #[]) w := fun _ => by kernel_rfl
  have i4 : ∀ w : World, (Instr.index 135 testsV (.int .i64 4)).run Try.prog w = .ok (.func (.func 135) #[] #[]) w := fun _ => by kernel_rfl
  have i5 : ∀ w : World, (Instr.index 135 testsV (.int .i64 5)).run Try.prog w = .ok (.func (.func 136) #[] #[]) w := fun _ => by kernel_rfl
  have i6 : ∀ w : World, (Instr.index 135 testsV (.int .i64 6)).run Try.prog w = .ok (.func (.func 137) #[] #[]) w := fun _ => by kernel_rfl
  go_enter Try.func118, Try.ntmps118
  go_wp2_with (go_at_call 127; refine (byteTests_any _).mono ?_; rintro e w1 ⟨rfl, hb⟩)
  go_loop [6] (fun i => ∃ k : Nat, k ≤ 7 ∧ (k : Int) ≤ cls r ∧ i = .int .i64 k) (fun i => 7 - (intOf i).toNat)
  case atStart => exact ⟨0, by omega, by have := cls_spec r; omega, rfl⟩
  case round =>
    obtain ⟨k, hk, hc, rfl⟩ := hrel
    have hk5 : k = 0 ∨ k = 1 ∨ k = 2 ∨ k = 3 ∨ k = 4 ∨ k = 5 ∨ k = 6 ∨ k = 7 := by omega
    rcases hk5 with rfl | rfl | rfl | rfl | rfl | rfl | rfl | rfl
    all_goals have HS : Hid _ := cls_spec r
    · go_wp2
      · go_ret
        exact ⟨ret_int (by have := HS.out; omega), hb⟩
      · go_round
        case rel => exact ⟨1, by omega, by have := HS.out; omega, rfl⟩
        case measure => simp [intOf]
      · go_round
        case rel => exact ⟨1, by omega, by have := HS.out; omega, rfl⟩
        case measure => simp [intOf]
    · go_wp2
      · go_ret
        exact ⟨ret_int (by have := HS.out; omega), hb⟩
      · go_round
        case rel => exact ⟨2, by omega, by have := HS.out; omega, rfl⟩
        case measure => simp [intOf]
      · go_round
        case rel => exact ⟨2, by omega, by have := HS.out; omega, rfl⟩
        case measure => simp [intOf]
    · go_wp2
      · go_ret
        exact ⟨ret_int (by have := HS.out; omega), hb⟩
      · go_round
        case rel => exact ⟨3, by omega, by have := HS.out; omega, rfl⟩
        case measure => simp [intOf]
      · go_round
        case rel => exact ⟨3, by omega, by have := HS.out; omega, rfl⟩
        case measure => simp [intOf]
    · by_cases hv : r = 45
      · have ht : (r == 45) = true := beq_iff_eq.2 hv
        have HV : Hid (r = 45) := hv
        clear hv
        go_wp2
        go_ret
        exact ⟨ret_int (by have := HS.out; have := HV.out; omega), hb⟩
      · have ht : (r == 45) = false := beq_eq_false_iff_ne.2 hv
        go_wp2
        go_round
        case rel => exact ⟨4, by omega, by have := HS.out; omega, rfl⟩
        case measure => simp [intOf]
    · by_cases hv : r = 32
      · have ht : (r == 32) = true := beq_iff_eq.2 hv
        have HV : Hid (r = 32) := hv
        clear hv
        go_wp2
        go_ret
        exact ⟨ret_int (by have := HS.out; have := HV.out; omega), hb⟩
      · have ht : (r == 32) = false := beq_eq_false_iff_ne.2 hv
        go_wp2
        go_round
        case rel => exact ⟨5, by omega, by have := HS.out; omega, rfl⟩
        case measure => simp [intOf]
    · by_cases hv : r = 44
      · have ht : (r == 44) = true := beq_iff_eq.2 hv
        have HV : Hid (r = 44) := hv
        clear hv
        go_wp2
        go_ret
        exact ⟨ret_int (by have := HS.out; have := HV.out; omega), hb⟩
      · have ht : (r == 44) = false := beq_eq_false_iff_ne.2 hv
        go_wp2
        go_round
        case rel => exact ⟨6, by omega, by have := HS.out; omega, rfl⟩
        case measure => simp [intOf]
    · go_wp2
      · go_ret
        exact ⟨ret_int (by have := HS.out; omega), hb⟩
      · go_round
        case rel => exact ⟨7, by omega, by have := HS.out; omega, rfl⟩
        case measure => simp [intOf]
      · go_round
        case rel => exact ⟨7, by omega, by have := HS.out; omega, rfl⟩
        case measure => simp [intOf]
    · go_wp2
      go_ret
      exact ⟨ret_int (by have := HS.out; omega), hb⟩
end Go.Proofs.Ythlmnmbhgkmbfaa

namespace Go.Proofs.Ythlmnmbhgkmbfaa
open Go.RowKit
open Go.Lib hiding intOf

/-- The bytes of a token. -/
def TokB (n : Int) : Prop := (97 ≤ n ∧ n ≤ 122) ∨ (48 ≤ n ∧ n ≤ 57) ∨ n = 45
def ValB (n : Int) : Prop := 32 ≤ n ∧ n ≤ 126
theorem tok_cls (n : Int) : TokB n ↔ cls n = 1 ∨ cls n = 2 ∨ cls n = 3 := by
  have := cls_spec n; unfold TokB; omega
theorem val_cls (n : Int) : ValB n ↔ cls n ≠ 7 := by
  have := cls_spec n; unfold ValB; omega
theorem tok_small {n : Int} (h : TokB n) : n < 128 := by unfold TokB at h; omega
theorem val_small {n : Int} (h : ValB n) : n < 128 := by unfold ValB at h; omega

/-- A call answers a bool that says whether p, and turns nothing that was there. -/
def BoolIs (p : Prop) (w : World) (e : Ending) (w' : World) : Prop := ∃ b : Bool, e = .returned (.bool b) ∧ (b = true ↔ p) ∧ Below w.heap.size w w'
theorem BoolIs.yes {p : Prop} {w w' : World} (hp : p) (hb : Below w.heap.size w w') : BoolIs p w (.returned (.bool true)) w' := ⟨true, rfl, by simpa using hp, hb⟩
theorem BoolIs.no {p : Prop} {w w' : World} (hp : ¬ p) (hb : Below w.heap.size w w') : BoolIs p w (.returned (.bool false)) w' := ⟨false, rfl, by simpa using hp, hb⟩

/-- Every byte of the text is such a one. -/
def AllB (p : Int → Prop) (s : ByteArray) : Prop := ∀ j (h : j < s.size), p ((s[j]'h).toNat : Int)
/-- Every byte ahead of 'pos' is such a one. -/
def AllTo (p : Int → Prop) (s : ByteArray) (pos : Nat) : Prop := ∀ j (h : j < s.size), j < pos → p ((s[j]'h).toNat : Int)
theorem allTo_zero (p : Int → Prop) (s : ByteArray) : AllTo p s 0 := fun _ _ h => absurd h (by omega)
theorem allTo_end {p : Int → Prop} {s : ByteArray} {pos : Nat} (h : AllTo p s pos) (hp : ¬ pos < s.size) : AllB p s := fun j hj => h j hj (by omega)
theorem allTo_succ {p : Int → Prop} {s : ByteArray} {pos : Nat} (h : AllTo p s pos) (hp : pos < s.size) (hv : p ((s[pos]'hp).toNat : Int)) : AllTo p s (pos + 1) := by
  intro j hj hlt
  by_cases e : j = pos
  · subst e; exact hv
  · exact h j hj (by omega)
/-- A rune that is such a one is a byte of its own. -/
theorem rune_ok {p : Int → Prop} (hs : ∀ n, p n → n < 128) (s : ByteArray) (pos : Nat) (hp : pos < s.size) (h : p ((Utf8.decode s pos).1 : Int)) :
    p ((s[pos]'hp).toNat : Int) ∧ (Utf8.decode s pos).2 = 1 := by
  by_cases ha : (s[pos]'hp).toNat < 128
  · rw [decode_ascii s pos hp ha] at h ⊢
    exact ⟨h, rfl⟩
  · have := (decode_high s pos hp (by omega)).1
    have := hs _ h
    omega
theorem rune_no {p : Int → Prop} (hs : ∀ n, p n → n < 128) (s : ByteArray) (pos : Nat) (hp : pos < s.size) (h : ¬ p ((Utf8.decode s pos).1 : Int)) : ¬ AllB p s := by
  intro ha
  have h1 := ha pos hp
  have h2 := hs _ h1
  rw [decode_ascii s pos hp (by omega)] at h
  exact h h1

/-- Behind a call that only makes memory the iterator stands where it was set. -/
theorem iter_step {w wr w1 : World} {s : ByteArray} {pos p1 : Nat} (hh : wr.heap[w.heap.size]? = some (.stringIter s pos)) (hbw : Below w.heap.size w wr)
    (hb1 : Below (wr.iterAt w.heap.size s p1).heap.size (wr.iterAt w.heap.size s p1) w1) : w1.heap[w.heap.size]? = some (.stringIter s p1) ∧ Below w.heap.size w w1 := by
  have hlt : w.heap.size < wr.heap.size := (Array.getElem?_eq_some_iff.1 hh).1
  refine ⟨?_, ?_⟩
  · rw [hb1.block _ (by rw [iterAt_size]; exact hlt)]
    exact iterAt_heap _ _ _ _ _ hh
  · exact (below_iterAt hbw (Nat.le_refl _) s p1).trans (hb1.mono (by rw [iterAt_size]; omega))

set_option maxHeartbeats 400000 in
theorem isTokenRune_any (r : Int) (w : World) :
    Calls Try.prog 117 #[.int .i32 r] w fun e w' => BoolIs (TokB r) w e w' := by
  rw [tok_cls]
  go_enter Try.func117, Try.ntmps117
  go_wp2_with (go_at_call 118; refine (classOf_any _ _).mono ?_; rintro e w1 ⟨rfl, hb⟩)
  all_goals
    go_ret
    exact ⟨_, rfl, by simp_all, hb⟩

set_option maxHeartbeats 400000 in
theorem isValueRune_any (r : Int) (w : World) :
    Calls Try.prog 138 #[.int .i32 r] w fun e w' => BoolIs (ValB r) w e w' := by
  rw [val_cls]
  go_enter Try.func138, Try.ntmps138
  go_wp2_with (go_at_call 118; refine (classOf_any _ _).mono ?_; rintro e w1 ⟨rfl, hb⟩)
  go_ret
  exact ⟨_, rfl, by simp, hb⟩

set_option maxHeartbeats 1000000 in
theorem allRunes_tok (s : ByteArray) (w : World) :
    Calls Try.prog 109 #[.string s, .func (.func 117) #[] #[]] w fun e w' => BoolIs (AllB TokB s) w e w' := by
  go_enter Try.func109, Try.ntmps109
  go_wp2
  go_loopw [6] (fun _ wr => ∃ pos : Nat, wr.heap[w.heap.size]? = some (.stringIter s pos) ∧ Below w.heap.size w wr ∧ Hid (AllTo TokB s pos)) (fun _ wr => s.size - wr.iterPos w.heap.size)
  case atStart => exact ⟨0, World.iter_heap _ _ _, (Below.refl _ _).alloc (Nat.le_refl _) _, allTo_zero _ _⟩
  case round =>
    obtain ⟨pos, hh, hbw, hall⟩ := hrel
    by_cases hp : pos < s.size
    · have hnx := fun ty => run_next_any_at (P := Try.prog) wr w.heap.size s pos ty hh hp
      go_wp2_with (go_at_call 117; refine (isTokenRune_any _ _).mono ?_; rintro e w1 ⟨b, rfl, hbt, hb1⟩)
      · have hbf : b = false := by simpa using ‹(!b) = true›
        have hno : ¬ TokB ((Utf8.decode s pos).1 : Int) := fun h => by rw [hbt.2 h] at hbf; cases hbf
        go_ret
        exact BoolIs.no (rune_no (fun _ => tok_small) s pos hp hno) (iter_step hh hbw hb1).2
      · have hbf : b = true := by simpa using ‹(!b) = false›
        obtain ⟨hv, hone⟩ := rune_ok (fun _ => tok_small) s pos hp (hbt.1 hbf)
        rw [hone] at hb1
        obtain ⟨h1, h2⟩ := iter_step hh hbw hb1
        exact ⟨⟨pos + 1, h1, h2, allTo_succ hall.out hp hv⟩, by rw [iterPos_of h1, iterPos_of hh]; omega⟩
    · have hnx := fun ty => run_next_end_at (P := Try.prog) wr w.heap.size s pos ty hh hp
      go_wp2
      go_ret
      exact BoolIs.yes (allTo_end hall.out hp) hbw

set_option maxHeartbeats 1000000 in
theorem allRunes_val (s : ByteArray) (w : World) :
    Calls Try.prog 109 #[.string s, .func (.func 138) #[] #[]] w fun e w' => BoolIs (AllB ValB s) w e w' := by
  go_enter Try.func109, Try.ntmps109
  go_wp2
  go_loopw [6] (fun _ wr => ∃ pos : Nat, wr.heap[w.heap.size]? = some (.stringIter s pos) ∧ Below w.heap.size w wr ∧ Hid (AllTo ValB s pos)) (fun _ wr => s.size - wr.iterPos w.heap.size)
  case atStart => exact ⟨0, World.iter_heap _ _ _, (Below.refl _ _).alloc (Nat.le_refl _) _, allTo_zero _ _⟩
  case round =>
    obtain ⟨pos, hh, hbw, hall⟩ := hrel
    by_cases hp : pos < s.size
    · have hnx := fun ty => run_next_any_at (P := Try.prog) wr w.heap.size s pos ty hh hp
      go_wp2_with (go_at_call 138; refine (isValueRune_any _ _).mono ?_; rintro e w1 ⟨b, rfl, hbt, hb1⟩)
      · have hbf : b = false := by simpa using ‹(!b) = true›
        have hno : ¬ ValB ((Utf8.decode s pos).1 : Int) := fun h => by rw [hbt.2 h] at hbf; cases hbf
        go_ret
        exact BoolIs.no (rune_no (fun _ => val_small) s pos hp hno) (iter_step hh hbw hb1).2
      · have hbf : b = true := by simpa using ‹(!b) = false›
        obtain ⟨hv, hone⟩ := rune_ok (fun _ => val_small) s pos hp (hbt.1 hbf)
        rw [hone] at hb1
        obtain ⟨h1, h2⟩ := iter_step hh hbw hb1
        exact ⟨⟨pos + 1, h1, h2, allTo_succ hall.out hp hv⟩, by rw [iterPos_of h1, iterPos_of hh]; omega⟩
    · have hnx := fun ty => run_next_end_at (P := Try.prog) wr w.heap.size s pos ty hh hp
      go_wp2
      go_ret
      exact BoolIs.yes (allTo_end hall.out hp) hbw

/-- What the chapter asks of a token. -/
def TokOk (s : ByteArray) : Prop := 1 ≤ s.size ∧ s.size ≤ 20 ∧ AllB TokB s

set_option maxHeartbeats 400000 in
theorem implTokenOk_any (s : ByteArray) (w : World) (hs : s.size ≤ maxLen) :
    Calls Try.prog 95 #[.string s] w fun e w' => BoolIs (TokOk s) w e w' := by
  unfold maxLen at hs
  by_cases h1 : (1 : Int) ≤ (s.size : Int)
  · by_cases h2 : (s.size : Int) ≤ 20
    · go_enter Try.func95, Try.ntmps95
      go_wp2_with (go_at_call 109; refine (allRunes_tok _ _).mono ?_; rintro e w1 ⟨b, rfl, hbt, hb1⟩)
      go_ret
      exact ⟨b, rfl, by unfold TokOk; rw [hbt]; exact ⟨fun h => ⟨by omega, by omega, h⟩, fun h => h.2.2⟩, hb1⟩
    · go_enter Try.func95, Try.ntmps95
      go_wp2_with fail
      go_ret
      exact BoolIs.no (by unfold TokOk; omega) (Below.refl _ _)
  · go_enter Try.func95, Try.ntmps95
    go_wp2_with fail
    go_ret
    exact BoolIs.no (by unfold TokOk; omega) (Below.refl _ _)

set_option maxHeartbeats 1000000 in
theorem specTokenOk_any (s : ByteArray) (w : World) (hs : s.size ≤ maxLen) :
    Calls Try.prog 91 #[.string s] w fun e w' => BoolIs (TokOk s) w e w' := by
  unfold maxLen at hs
  go_enter Try.func91, Try.ntmps91
  go_wp2
  go_loop [3] (fun i => ∃ k : Nat, k ≤ s.size ∧ i = .int .i64 k ∧ Hid (AllTo TokB s k)) (fun i => s.size - (intOf i).toNat)
  case atStart => exact ⟨0, Nat.zero_le _, rfl, allTo_zero _ _⟩
  case round =>
    obtain ⟨k, hk, rfl, hall⟩ := hrel
    by_cases hlt : k < s.size
    · go_wp2
      all_goals first
        | (go_ret
           have hno : ¬ TokB ((s[k]'hlt).toNat : Int) := by
             unfold TokB
             try simp only [bne_iff_ne, ne_eq] at *
             omega
           exact BoolIs.no (fun h => hno (h.2.2 k hlt)) (Below.refl _ _))
        | (go_round
           case rel =>
             have hy : TokB ((s[k]'hlt).toNat : Int) := by
               unfold TokB
               try simp only [bne_eq_false_iff_eq] at *
               omega
             exact ⟨k + 1, by omega, by go_num, allTo_succ hall.out hlt hy⟩
           case measure => simp [intOf]; omega)
    · have hend : Hid (AllB TokB s) := allTo_end hall.out hlt
      by_cases h1 : (1 : Int) ≤ (s.size : Int)
      · by_cases h2 : (s.size : Int) ≤ 20
        · go_wp2
          go_ret
          exact BoolIs.yes ⟨by omega, by omega, hend.out⟩ (Below.refl _ _)
        · go_wp2
          go_ret
          exact BoolIs.no (by unfold TokOk; omega) (Below.refl _ _)
      · go_wp2
        go_ret
        exact BoolIs.no (by unfold TokOk; omega) (Below.refl _ _)

end Go.Proofs.Ythlmnmbhgkmbfaa

namespace Go.Proofs
open Go.Shelf
def Try.laysM316_ren : Go.Shelf.Ren := ⟨fun | 316 => 77 | n => n, fun | 9 => 9 | 3 => 3 | 4 => 4 | 37 => 22 | 0 => 0 | 127 => 118 | 5 => 5 | n => n, fun | n => n⟩
theorem Try.laysM316 : Go.Proofs.LaysM.n316 Try.prog Try.laysM316_ren := {
  mixed := by kernel_rfl
  f316 := Try.func77.trans (congrArg some (by kernel_rfl))
  t0 := Try.underlying0
  a0 := Try.isAgg0
  z0 := Try.sizeOf0
  v0 := Try.zeroValue0
  t3 := Try.underlying3
  a3 := Try.isAgg3
  z3 := Try.sizeOf3
  v3 := Try.zeroValue3
  t4 := Try.underlying4
  a4 := Try.isAgg4
  z4 := Try.sizeOf4
  v4 := Try.zeroValue4
  t9 := Try.underlying9
  a9 := Try.isAgg9
  z9 := Try.sizeOf9
  v9 := Try.zeroValue9
  t37 := Try.underlying22
  a37 := Try.isAgg22
  z37 := Try.sizeOf22
  v37 := Try.zeroValue22
  t127 := Try.underlying118
  a127 := Try.isAgg118
  z127 := Try.sizeOf118
  v127 := Try.zeroValue118
  t5 := Try.underlying5
  a5 := Try.isAgg5
  z5 := Try.sizeOf5
  v5 := Try.zeroValue5
  i0 := by kernel_rfl
  i3 := by kernel_rfl
  i4 := by kernel_rfl
  i5 := by kernel_rfl
  i9 := by kernel_rfl
  i37 := by kernel_rfl
  i127 := by kernel_rfl }
open Go.RowKit in
theorem Try.stringslite_Clone (s : ByteArray) (w : World) (hlim : s.size ≤ 281474976710656) :
    Calls Try.prog 77 #[.string s] w fun e w' => e = .returned (.string s) ∧ Below w.heap.size w w' := Any.stringslite_Clone Try.laysM316 s w hlim
def Try.lays110_ren : Go.Shelf.Ren := ⟨fun | 110 => 86 | 109 => 108 | n => n, fun | 31 => 88 | 9 => 9 | 4 => 4 | 3 => 3 | 0 => 0 | n => n, fun | n => n⟩
theorem Try.lays110 : Go.Proofs.Lays.n110 Try.prog Try.lays110_ren := {
  mixed := by kernel_rfl
  f109 := Try.func108.trans (congrArg some (by kernel_rfl))
  f110 := Try.func86.trans (congrArg some (by kernel_rfl))
  t0 := Try.underlying0
  a0 := Try.isAgg0
  z0 := Try.sizeOf0
  v0 := Try.zeroValue0
  t3 := Try.underlying3
  a3 := Try.isAgg3
  z3 := Try.sizeOf3
  v3 := Try.zeroValue3
  t4 := Try.underlying4
  a4 := Try.isAgg4
  z4 := Try.sizeOf4
  v4 := Try.zeroValue4
  t9 := Try.underlying9
  a9 := Try.isAgg9
  z9 := Try.sizeOf9
  v9 := Try.zeroValue9
  t31 := Try.underlying88
  a31 := Try.isAgg88
  z31 := Try.sizeOf88
  v31 := Try.zeroValue88 }
open Go.Lib in
theorem Try.slices_Contains_string (b off n c : Nat) (zs : List ByteArray) (x : ByteArray) (w : World) (hz : n ≤ zs.length) (hbig : n ≤ 9223372036854775807) (hc : ∀ j, j < zs.length → w.cell? ⟨b, off + j, none⟩ = some (.string (zs.getD j ByteArray.empty))) :
    Calls Try.prog 86 #[.slice (some ⟨b, off, none⟩) n c, .string x] w fun e w' => e = .returned (.bool (Lib.containsS (zs.take n) x)) ∧ w' = w := Any.slices_Contains_string Try.lays110 b off n c zs x w hz hbig hc
open Go.Lib in
theorem Try.slices_Contains_string_empty (a : Option Addr) (c : Nat) (x : ByteArray) (w : World) :
    Calls Try.prog 86 #[.slice a 0 c, .string x] w fun e w' => e = .returned (.bool false) ∧ w' = w := Any.slices_Contains_string_empty Try.lays110 a c x w
end Go.Proofs

namespace Go.Proofs.Ythlmnmbhgkmbfaa
open Go.RowKit

theorem info5 : (Try.prog.info? 5).map (fun i => (i.zero, i.size, i.bytes)) = some (some (.int .u8 0), 1, 1) := by kernel_rfl

set_option maxHeartbeats 400000 in
theorem clone_any (s : ByteArray) (w : World) (hlim : s.size ≤ 281474976710656) :
    Calls Try.prog 45 #[.string s] w fun e w' => e = .returned (.string s) ∧ Below w.heap.size w w' := by
  go_enter Try.func45, Try.ntmps45
  go_wp2_with (go_at_call 77; refine (Try.stringslite_Clone _ _ hlim).mono ?_; rintro e w1 ⟨rfl, hb1⟩)
  go_ret
  exact ⟨rfl, hb1⟩

end Go.Proofs.Ythlmnmbhgkmbfaa

namespace Go.Proofs.Ythlmnmbhgkmbfaa

/-- The list without the blanks that it begins with. -/
def dropB : List UInt8 → List UInt8
  | [] => []
  | b :: r => if b.toNat = 32 then dropB r else b :: r
/-- .. and without those that it ends with. -/
def trimL (l : List UInt8) : List UInt8 := (dropB (dropB l).reverse).reverse
def trimOf (s : ByteArray) : ByteArray := ⟨(trimL s.data.toList).toArray⟩

theorem dropB_blanks : ∀ (x y : List UInt8), (∀ b ∈ x, b.toNat = 32) → dropB (x ++ y) = dropB y
  | [], _, _ => rfl
  | b :: r, y, h => by
    rw [List.cons_append, dropB, if_pos (h b (by simp))]
    exact dropB_blanks r y (fun c hc => h c (by simp [hc]))
theorem dropB_first (b : UInt8) (r : List UInt8) (h : b.toNat ≠ 32) : dropB (b :: r) = b :: r := by rw [dropB, if_neg h]

/-- From a on, up to b: what is left of s without its outer blanks. -/
structure IsTrim (s : ByteArray) (a b : Nat) : Prop where
  le : a ≤ b
  size : b ≤ s.size
  lead : ∀ j (h : j < s.size), j < a → (s[j]'h).toNat = 32
  tail : ∀ j (h : j < s.size), b ≤ j → (s[j]'h).toNat = 32
  first : ∀ h : a < s.size, a < b → (s[a]'h).toNat ≠ 32
  last : ∀ h : b - 1 < s.size, a < b → (s[b - 1]'h).toNat ≠ 32

theorem list_cut (l : List UInt8) (a b : Nat) (h : a ≤ b) : l = l.take a ++ ((l.take b).drop a ++ l.drop b) := by
  have h1 : (l.take b).take a = l.take a := by rw [List.take_take, Nat.min_eq_left h]
  have h2 : l.take b = l.take a ++ (l.take b).drop a := by
    have := (List.take_append_drop a (l.take b)).symm
    rw [h1] at this
    exact this
  have h3 := (List.take_append_drop b l).symm
  rw [h2, List.append_assoc] at h3
  exact h3

theorem trimL_mid (x y z : List UInt8) (hx : ∀ b ∈ x, b.toNat = 32) (hz : ∀ b ∈ z, b.toNat = 32) (h0 : ∀ b, y.head? = some b → b.toNat ≠ 32) (h1 : ∀ b, y.getLast? = some b → b.toNat ≠ 32) : trimL (x ++ (y ++ z)) = y := by
  unfold trimL
  rw [dropB_blanks x _ hx]
  cases y with
  | nil =>
    have : dropB ([] ++ z) = [] := by
      have := dropB_blanks z [] hz
      simpa [dropB] using this
    rw [this]; rfl
  | cons b r =>
    rw [List.cons_append, dropB_first b _ (h0 b rfl), ← List.cons_append, List.reverse_append, dropB_blanks _ _ (fun c hc => hz c (by simpa using hc))]
    cases hl : (b :: r).reverse with
    | nil => simp at hl
    | cons c q =>
      have hc : (b :: r).getLast? = some c := by rw [List.getLast?_eq_head?_reverse, hl]; rfl
      rw [dropB_first c q (h1 c hc), ← hl, List.reverse_reverse]

theorem byte_get (s : ByteArray) (j : Nat) (h : j < s.size) : s.data.toList[j]? = some (s[j]'h) := by
  rw [List.getElem?_eq_getElem (by simpa using h)]
  rfl

theorem trim_eq {s : ByteArray} {a b : Nat} (h : IsTrim s a b) : s.extract a b = trimOf s := by
  have hlen : s.data.toList.length = s.size := by simp
  have hext : (s.extract a b).data.toList = (s.data.toList.take b).drop a := by
    rw [ByteArray.data_extract, Array.toList_extract]
    simp [List.extract, List.drop_take]
  have hcut := list_cut s.data.toList a b h.le
  have hm := trimL_mid (s.data.toList.take a) ((s.data.toList.take b).drop a) (s.data.toList.drop b)
    (fun x hx => by
      obtain ⟨j, hj, rfl⟩ := List.getElem_of_mem hx
      have hj' : j < a ∧ j < s.size := by rw [List.length_take, hlen] at hj; omega
      have := h.lead j hj'.2 hj'.1
      rw [List.getElem_take]; exact this)
    (fun x hx => by
      obtain ⟨j, hj, rfl⟩ := List.getElem_of_mem hx
      have hj' : b + j < s.size := by rw [List.length_drop, hlen] at hj; omega
      have := h.tail (b + j) hj' (by omega)
      rw [List.getElem_drop]; exact this)
    (fun x hx => by
      rw [List.head?_eq_getElem?, List.getElem?_drop, List.getElem?_take] at hx
      split at hx
      · rename_i hlt
        have ha : a < s.size := by have := h.size; omega
        rw [Nat.add_zero, byte_get s a ha] at hx
        cases hx
        exact h.first ha (by omega)
      · cases hx)
    (fun x hx => by
      rw [List.getLast?_eq_getElem?, List.getElem?_drop, List.getElem?_take, List.length_drop, List.length_take, hlen] at hx
      have hsz := h.size; have hle := h.le
      rw [Nat.min_eq_left hsz] at hx
      split at hx
      · rename_i hlt
        have e : a + (b - a - 1) = b - 1 := by omega
        have hb : b - 1 < s.size := by omega
        rw [e, byte_get s (b - 1) hb] at hx
        cases hx
        exact h.last hb (by omega)
      · cases hx)
  rw [← hcut] at hm
  apply ByteArray.ext
  unfold trimOf
  rw [hm, ← hext]

/-- A text that begins and ends with no blank is trimmed already. -/
theorem trimOf_self {s : ByteArray} (h0 : ∀ h : 0 < s.size, (s[0]'h).toNat ≠ 32) (h1 : ∀ h : s.size - 1 < s.size, (s[s.size - 1]'h).toNat ≠ 32) : trimOf s = s := by
  rw [← trim_eq (s := s) (a := 0) (b := s.size) ⟨Nat.zero_le _, Nat.le_refl _, fun _ _ h => absurd h (by omega), fun _ h h' => absurd h (by omega), fun h _ => h0 h, fun h _ => h1 h⟩]
  apply ByteArray.ext
  simp

end Go.Proofs.Ythlmnmbhgkmbfaa

namespace Go.Proofs.Ythlmnmbhgkmbfaa
open Go.RowKit
open Go.Lib hiding intOf

/-- A call answers this text, and turns nothing that was there. -/
def TextIs (t : ByteArray) (w : World) (e : Ending) (w' : World) : Prop := e = .returned (.string t) ∧ Below w.heap.size w w'
theorem TextIs.of {t u : ByteArray} {w w' : World} (h : u = t) (hb : Below w.heap.size w w') : TextIs t w (.returned (.string u)) w' := ⟨by rw [h], hb⟩

set_option maxHeartbeats 1000000 in
theorem specTrim_any (s : ByteArray) (w : World) (hs : s.size ≤ maxLen) :
    Calls Try.prog 114 #[.string s] w fun e w' => TextIs (trimOf s) w e w' := by
  unfold maxLen at hs
  go_enter Try.func114, Try.ntmps114
  go_wp2
  go_loop [3] (fun i => ∃ k : Nat, k ≤ s.size ∧ i = .int .i64 k ∧ Hid (∀ j (h : j < s.size), j < k → (s[j]'h).toNat = 32)) (fun i => s.size - (intOf i).toNat)
  case atStart => exact ⟨0, Nat.zero_le _, rfl, fun _ _ h => absurd h (by omega)⟩
  case round =>
    obtain ⟨k, hk, rfl, hlead⟩ := hrel
    by_cases hlt : k < s.size
    · by_cases hb : (s[k]'hlt).toNat = 32
      · have ht2 : (((s[k]'hlt).toNat : Int) == 32) = true := by simp [hb]
        have HB : Hid ((s[k]'hlt).toNat = 32) := hb
        clear hb
        go_wp2
        go_round
        case rel =>
          refine ⟨k + 1, by omega, by go_num, ?_⟩
          intro j h hj
          by_cases e : j = k
          · subst e; exact HB.out
          · exact hlead.out j h (by omega)
        case measure => simp [intOf]; omega
      · have ht2 : (((s[k]'hlt).toNat : Int) == 32) = false := by
          rw [beq_eq_false_iff_ne]; omega
        have hfst : Hid ((s[k]'hlt).toNat ≠ 32) := hb
        clear hb
        go_wp2
        go_loop [4] (fun t => ∃ m : Nat, k ≤ m ∧ m < s.size ∧ t = .int .i64 ((m : Int) + 1) ∧ Hid (∀ j (h : j < s.size), m + 1 ≤ j → (s[j]'h).toNat = 32)) (fun t => (intOf t).toNat)
        case atStart => exact ⟨s.size - 1, by omega, by omega, by go_num, fun j h hj => absurd h (by omega)⟩
        case round =>
          obtain ⟨m, hkm, hms, rfl, htl⟩ := hrel
          have hc1 : (k : Int) < (m : Int) + 1 := by omega
          by_cases hb : (s[m]'hms).toNat = 32
          · have ht2 : (((s[m]'hms).toNat : Int) == 32) = true := by simp [hb]
            have hkm2 : k < m := by
              rcases Nat.lt_or_ge k m with h | h
              · exact h
              · exfalso
                have e : m = k := by omega
                subst e
                exact hfst.out hb
            have HB : Hid ((s[m]'hms).toNat = 32) := hb
            clear hb
            go_wp2
            go_round
            case rel =>
              refine ⟨m - 1, by omega, by omega, by go_num, ?_⟩
              intro j h hj
              by_cases e : j = m
              · subst e; exact HB.out
              · exact htl.out j h (by omega)
            case measure => simp [intOf]
          · have ht2 : (((s[m]'hms).toNat : Int) == 32) = false := by
              rw [beq_eq_false_iff_ne]; omega
            have hT : Hid (s.extract k (m + 1) = trimOf s) := trim_eq ⟨by omega, by omega, fun j h hj => hlead.out j h hj, fun j h hj => htl.out j h (by omega), fun _ _ => hfst.out, fun _ _ => hb⟩
            clear hb
            go_wp2
            go_ret
            exact TextIs.of hT.out (Below.refl _ _)
    · have hT : Hid (ByteArray.empty = trimOf s) := (show ByteArray.empty = s.extract s.size s.size by simp).trans (trim_eq ⟨Nat.le_refl _, Nat.le_refl _, fun j h _ => hlead.out j h (by omega), fun j h hj => absurd h (by omega), fun h => absurd h (by omega), fun _ h => absurd h (by omega)⟩)
      obtain rfl : k = s.size := by omega
      go_wp2
      go_loop [4] (fun t => t = .int .i64 (s.size : Int)) (fun t => (intOf t).toNat)
      case atStart => exact rfl
      case round =>
        subst hrel
        go_wp2
        go_ret
        exact TextIs.of hT.out (Below.refl _ _)

end Go.Proofs.Ythlmnmbhgkmbfaa

namespace Go.Proofs.Ythlmnmbhgkmbfaa
open Go.RowKit
open Go.Lib hiding intOf

/-- What the chapter asks of a value. -/
def ValOk (s : ByteArray) : Prop := 1 ≤ s.size ∧ s.size ≤ 60 ∧ AllB ValB s ∧ trimOf s = s
/-- A text of at least one byte is trimmed already just where its first and its last byte are no blanks. -/
theorem trim_self_iff (s : ByteArray) (h1 : 1 ≤ s.size) : trimOf s = s ↔ ((s[0]'(by omega)).toNat ≠ 32 ∧ (s[s.size - 1]'(by omega)).toNat ≠ 32) := by
  constructor
  · intro h
    have hl : trimL s.data.toList = s.data.toList := by
      have := congrArg (fun x : ByteArray => x.data.toList) h
      simpa [trimOf] using this
    have hlen : s.data.toList.length = s.size := by simp
    have key : ∀ l : List UInt8, (dropB l).length ≤ l.length ∧ ((dropB l).length = l.length → ∀ b, l.head? = some b → b.toNat ≠ 32) := by
      intro l
      induction l with
      | nil => simp [dropB]
      | cons b r ih =>
        rw [dropB]
        split
        · refine ⟨by simp; omega, fun h => ?_⟩
          simp at h; omega
        · rename_i hb
          refine ⟨by simp, fun _ c hc => ?_⟩
          simp at hc; subst hc; exact hb
    have k1 := key s.data.toList
    have k2 := key (dropB s.data.toList).reverse
    have hL : (dropB (dropB s.data.toList).reverse).length = s.data.toList.length := by
      have := congrArg List.length hl
      simpa [trimL] using this
    rw [List.length_reverse] at k2
    have e1 : (dropB s.data.toList).length = s.data.toList.length := by omega
    have e2 : (dropB (dropB s.data.toList).reverse).length = (dropB s.data.toList).length := by omega
    have hd : dropB s.data.toList = s.data.toList := by
      cases hc : s.data.toList with
      | nil => rfl
      | cons b r =>
        have := k1.2 e1 b (by rw [hc]; rfl)
        exact dropB_first b r this
    refine ⟨?_, ?_⟩
    · apply k1.2 e1
      rw [List.head?_eq_getElem?, byte_get s 0 (by omega)]
    · apply k2.2 e2
      rw [hd, ← List.getLast?_eq_head?_reverse, List.getLast?_eq_getElem?, hlen, byte_get s (s.size - 1) (by omega)]
  · rintro ⟨h0, h2⟩
    exact trimOf_self (fun _ => h0) (fun _ => h2)

theorem text_beq (a b : ByteArray) : (a.toList == b.toList) = true ↔ a = b := by
  rw [beq_iff_eq, ByteArray.toList_eq, ByteArray.toList_eq]
  exact ⟨fun h => ByteArray.ext (Array.toList_inj.1 h), fun h => by rw [h]⟩

set_option maxHeartbeats 1000000 in
theorem implValueOk_any (s : ByteArray) (w : World) (hs : s.size ≤ maxLen) :
    Calls Try.prog 129 #[.string s] w fun e w' => BoolIs (ValOk s) w e w' := by
  unfold maxLen at hs
  by_cases h1 : (s.size : Int) < 1
  · go_enter Try.func129, Try.ntmps129
    go_wp2_with fail
    go_ret
    exact BoolIs.no (by unfold ValOk; omega) (Below.refl _ _)
  · by_cases h2 : (60 : Int) < (s.size : Int)
    · go_enter Try.func129, Try.ntmps129
      go_wp2_with fail
      go_ret
      exact BoolIs.no (by unfold ValOk; omega) (Below.refl _ _)
    · have hti : Hid _ := trim_self_iff s (by omega)
      have hp0 : 0 < s.size := by omega
      by_cases hb : (s[0]'hp0).toNat = 32
      · have ht : (((s[0]'hp0).toNat : Int) == 32) = true := by simp [hb]
        have HB : Hid ((s[0]'hp0).toNat = 32) := hb
        clear hb
        go_enter Try.func129, Try.ntmps129
        go_wp2_with fail
        go_ret
        exact BoolIs.no (fun h => (hti.out.1 h.2.2.2).1 HB.out) (Below.refl _ _)
      · have ht : (((s[0]'hp0).toNat : Int) == 32) = false := by
          rw [beq_eq_false_iff_ne]; omega
        obtain ⟨m, hm⟩ : ∃ m, s.size = m + 1 := ⟨s.size - 1, by omega⟩
        have hms : m < s.size := by omega
        have hme : Hid (s.size - 1 = m) := by show s.size - 1 = m; omega
        have hH0 : Hid (¬ (s[0]'hp0).toNat = 32) := hb
        clear hb
        have hm2 : (s.size : Int) - 1 = (m : Int) := by omega
        by_cases hl : (s[m]'hms).toNat = 32
        · have hN : Hid (¬ ValOk s) := by
            intro h
            have h3 := (hti.out.1 h.2.2.2).2
            simp only [hme.out] at h3
            exact h3 hl
          have ht2 : (((s[m]'hms).toNat : Int) == 32) = true := by simp [hl]
          clear hl hm
          go_enter Try.func129, Try.ntmps129
          go_wp2_with fail
          go_ret
          exact BoolIs.no hN.out (Below.refl _ _)
        · have hY : Hid (AllB ValB s → ValOk s) := by
            intro h
            refine ⟨by omega, by omega, h, hti.out.2 ⟨hH0.out, ?_⟩⟩
            simp only [hme.out]
            exact hl
          have ht2 : (((s[m]'hms).toNat : Int) == 32) = false := by
            rw [beq_eq_false_iff_ne]; omega
          clear hl hm
          go_enter Try.func129, Try.ntmps129
          go_wp2_with (go_at_call 109; refine (allRunes_val _ _).mono ?_; rintro e w1 ⟨b, rfl, hbt, hb1⟩)
          go_ret
          exact ⟨b, rfl, hbt.trans ⟨hY.out, fun h => h.2.2.1⟩, hb1⟩

set_option maxHeartbeats 1000000 in
theorem specValueOk_any (s : ByteArray) (w : World) (hs : s.size ≤ maxLen) :
    Calls Try.prog 104 #[.string s] w fun e w' => BoolIs (ValOk s) w e w' := by
  have hs0 := hs
  unfold maxLen at hs
  go_enter Try.func104, Try.ntmps104
  go_wp2
  go_loop [3] (fun i => ∃ k : Nat, k ≤ s.size ∧ i = .int .i64 k ∧ Hid (AllTo ValB s k)) (fun i => s.size - (intOf i).toNat)
  case atStart => exact ⟨0, Nat.zero_le _, rfl, allTo_zero _ _⟩
  case round =>
    obtain ⟨k, hk, rfl, hall⟩ := hrel
    by_cases hlt : k < s.size
    · go_wp2
      all_goals first
        | (go_ret
           have hno : ¬ ValB ((s[k]'hlt).toNat : Int) := by
             unfold ValB
             omega
           exact BoolIs.no (fun h => hno (h.2.2.1 k hlt)) (Below.refl _ _))
        | (go_round
           case rel =>
             have hy : ValB ((s[k]'hlt).toNat : Int) := by
               unfold ValB
               omega
             exact ⟨k + 1, by omega, by go_num, allTo_succ hall.out hlt hy⟩
           case measure => simp [intOf]; omega)
    · have hend : Hid (AllB ValB s) := allTo_end hall.out hlt
      by_cases h1 : (1 : Int) ≤ (s.size : Int)
      · by_cases h2 : (s.size : Int) ≤ 60
        · go_wp2_with (first | (go_at_call 114; refine (specTrim_any _ _ hs0).mono ?_; rintro e w2 ⟨rfl, hb2⟩) | go_in)
          go_ret
          refine ⟨_, rfl, ?_, hb2⟩
          rw [text_beq]
          exact ⟨fun h => ⟨by omega, by omega, hend.out, h⟩, fun h => h.2.2.2⟩
        · go_wp2_with go_in
          go_ret
          exact BoolIs.no (by unfold ValOk; omega) (Below.refl _ _)
      · go_wp2_with go_in
        go_ret
        exact BoolIs.no (by unfold ValOk; omega) (Below.refl _ _)

end Go.Proofs.Ythlmnmbhgkmbfaa

namespace Go.Proofs.Ythlmnmbhgkmbfaa

def DigB (b : UInt8) : Prop := 48 ≤ b.toNat ∧ b.toNat ≤ 57
/-- The number that a row of digits is. -/
def valL (l : List UInt8) : Nat := l.foldl (fun v b => 10 * v + (b.toNat - 48)) 0
theorem valL_snoc (l : List UInt8) (b : UInt8) : valL (l ++ [b]) = 10 * valL l + (b.toNat - 48) := by simp [valL]
/-- The digits of a number that is not 0; none of 0. -/
def dgF : Nat → Nat → List UInt8
  | 0, _ => []
  | f + 1, n => if n = 0 then [] else dgF f (n / 10) ++ [UInt8.ofNat (48 + n % 10)]
theorem dgF_zero (f : Nat) : dgF f 0 = [] := by cases f <;> simp [dgF]
theorem dgF_pos (f n : Nat) (h : n ≠ 0) : dgF (f + 1) n = dgF f (n / 10) ++ [UInt8.ofNat (48 + n % 10)] := by simp [dgF, h]

theorem ofNat_digit (n : Nat) : (UInt8.ofNat (48 + n % 10)).toNat = 48 + n % 10 := by
  simp; omega

theorem head_snoc (r : List UInt8) (b c : UInt8) (hr : r ≠ []) : (r ++ [b]).head? = some c ↔ r.head? = some c := by
  cases r with
  | nil => exact absurd rfl hr
  | cons a t => simp

/-- The digits of a number begin with no nought, and are that number. -/
theorem dg_facts : ∀ (f n : Nat), n < 10 ^ f → (∀ b, (dgF f n).head? = some b → b.toNat ≠ 48) ∧ valL (dgF f n) = n ∧ (∀ b ∈ dgF f n, DigB b) := by
  intro f
  induction f with
  | zero => intro n h; simp at h; subst h; simp [dgF, valL]
  | succ f ih =>
    intro n h
    by_cases h0 : n = 0
    · subst h0; rw [dgF_zero]; simp [valL]
    · rw [dgF_pos f n h0]
      rw [Nat.pow_succ] at h
      obtain ⟨i1, i2, i3⟩ := ih (n / 10) (by omega)
      refine ⟨?_, ?_, ?_⟩
      · intro b hb
        by_cases hr : dgF f (n / 10) = []
        · rw [hr] at hb
          simp only [List.nil_append, List.head?_cons, Option.some.injEq] at hb
          rw [← hb, ofNat_digit]
          have : n / 10 = 0 := by rw [hr] at i2; simpa [valL] using i2.symm
          omega
        · exact i1 b ((head_snoc _ _ b hr).1 hb)
      · rw [valL_snoc, i2, ofNat_digit]; omega
      · intro b hb
        rcases List.mem_append.1 hb with h | h
        · exact i3 b h
        · simp only [List.mem_singleton] at h
          unfold DigB
          rw [h, ofNat_digit]; omega

/-- The text of a number from 0 to 1000000; the empty text of others. -/
def numL (n : Nat) : List UInt8 := if 1000000 < n then [] else if n = 0 then [48] else dgF 8 n
def numText (n : Nat) : ByteArray := ⟨(numL n).toArray⟩

/-- A text that is a number from 0 to 1000000 in digits without needless noughts. -/
def NumOk (s : ByteArray) : Prop := 1 ≤ s.size ∧ (∀ b ∈ s.data.toList, DigB b) ∧ (1 < s.size → ∀ h : 0 < s.size, (s[0]'h).toNat ≠ 48) ∧ valL s.data.toList ≤ 1000000

theorem mem_byte {s : ByteArray} {p : UInt8 → Prop} (h : ∀ j (hj : j < s.size), p (s[j]'hj)) : ∀ b ∈ s.data.toList, p b := by
  intro b hb
  obtain ⟨j, hj, rfl⟩ := List.getElem_of_mem hb
  exact h j (by simpa using hj)
end Go.Proofs.Ythlmnmbhgkmbfaa

namespace Go.Proofs.Ythlmnmbhgkmbfaa
open Go.RowKit
open Go.Lib hiding intOf

theorem conv_one (W : World) (d : Int) : (convert 22 9 (.slice (some ⟨W.heap.size, 0, none⟩) 1 1)).run Try.prog (W.alloc (.cells #[.int .u8 d] 5)) = .ok (.string (strOfNums [d])) (W.alloc (.cells #[.int .u8 d] 5)) :=
  run_convert_bytes_arg (P := Try.prog) (W.alloc (.cells #[.int .u8 d] 5)) 22 5 Try.underlying22 Try.underlying5 W.heap.size 0 1 1 [d] rfl (fun i hi => by
    have : i = 0 := by omega
    subst this
    simp) 9 Try.underlying9

set_option maxHeartbeats 1000000 in
theorem specNumText_any (n : Nat) (w : World) (hn : n ≤ 9999999) :
    Calls Try.prog 43 #[.int .i64 (n : Int)] w fun e w' => TextIs (numText n) w e w' := by
  by_cases h1 : (n : Int) ≤ 1000000
  · by_cases h0 : n = 0
    · subst h0
      go_enter Try.func43, Try.ntmps43
      go_wp2
      go_ret
      exact TextIs.of rfl (Below.refl _ _)
    · have hne : ((n : Int) == 0) = false := by rw [beq_eq_false_iff_ne]; omega
      have hcv := conv_one
      go_enter Try.func43, Try.ntmps43
      go_wp2
      go_loopw [0, 3] (fun a b wr => ∃ (f m : Nat) (out : ByteArray), a = .int .i64 (m : Int) ∧ b = .string out ∧ m ≤ 1000000 ∧ f ≤ 8 ∧ out.size ≤ 8 - f ∧ Below w.heap.size w wr ∧ Hid (m < 10 ^ f ∧ dgF f m ++ out.data.toList = dgF 8 n)) (fun a _ _ => (intOf a).toNat)
      case atStart => exact ⟨8, n, _, rfl, rfl, by omega, Nat.le_refl _, Nat.le_refl _, Below.refl _ _, ⟨by omega, by simp⟩⟩
      case round =>
        obtain ⟨f, m, out, rfl, rfl, hm, hf8, hsz, hbw, hd⟩ := hrel
        by_cases hp : (0 : Int) < (m : Int)
        · have hone : ∀ d : Int, (strOfNums [d]).size = 1 := fun d => strOfNums_size [d]
          go_wp2
          go_roundw
          case rel =>
            obtain ⟨hf, hdg⟩ := hd.out
            cases f with
            | zero => simp at hf; omega
            | succ f =>
              rw [Nat.pow_succ] at hf
              refine ⟨f, m / 10, strOfNums [48 + (m : Int) % 10] ++ out, by simp, rfl, by omega, by omega, ?_, hbw.alloc hbw.size _, by omega, ?_⟩
              · rw [ByteArray.size_append, hone]; omega
              · have e : (strOfNums [48 + (m : Int) % 10]).data.toList = [UInt8.ofNat (48 + m % 10)] := by
                  rw [strOfNums_data]
                  have : (48 + (m : Int) % 10).toNat = 48 + m % 10 := by omega
                  simp only [List.map_cons, List.map_nil, this]
                rw [dgF_pos f m (by omega), List.append_assoc] at hdg
                rw [← hdg, ByteArray.data_append, Array.toList_append, e]
          case measure => simp [intOf]; omega
        · have hT : Hid (out = numText n) := by
            obtain ⟨_, h⟩ := hd.out
            have e : m = 0 := by omega
            rw [e, dgF_zero, List.nil_append] at h
            show out = numText n
            apply ByteArray.ext
            apply Array.toList_inj.1
            rw [h]
            unfold numText numL
            rw [if_neg (by omega), if_neg h0]
          go_wp2
          go_ret
          exact TextIs.of hT.out hbw
  · go_enter Try.func43, Try.ntmps43
    go_wp2
    go_ret
    exact TextIs.of (by unfold numText numL; rw [if_pos (by omega)]) (Below.refl _ _)

/-- A call answers the number that a text is, and true; or 0 and false; it turns nothing that was there. -/
def NumIs (s : ByteArray) (w : World) (e : Ending) (w' : World) : Prop :=
  ∃ (b : Bool) (n : Int), e = .returned (.tuple #[.int .i64 n, .bool b]) ∧ (b = true ↔ NumOk s) ∧ (b = true → n = valL s.data.toList) ∧ (b = false → n = 0) ∧ Below w.heap.size w w'
theorem NumIs.no {s : ByteArray} {w w' : World} (h : ¬ NumOk s) (hb : Below w.heap.size w w') : NumIs s w (.returned (.tuple #[.int .i64 0, .bool false])) w' :=
  ⟨false, 0, rfl, by simpa using h, by simp, fun _ => rfl, hb⟩
theorem NumIs.yes {s : ByteArray} {w w' : World} {n : Int} (h : NumOk s) (hn : n = valL s.data.toList) (hb : Below w.heap.size w w') : NumIs s w (.returned (.tuple #[.int .i64 n, .bool true])) w' :=
  ⟨true, n, rfl, by simpa using h, fun _ => hn, by simp, hb⟩

theorem isEmpty_no {s : ByteArray} (h : 1 ≤ s.size) : s.toList.isEmpty = false := by
  have : s.toList.length = s.size := by rw [ByteArray.toList_eq]; simp
  cases hc : s.toList with
  | nil => rw [hc] at this; simp at this; omega
  | cons _ _ => rfl
end Go.Proofs.Ythlmnmbhgkmbfaa

namespace Go.Proofs.Ythlmnmbhgkmbfaa
open Go.RowKit
open Go.Lib hiding intOf

/-- What is owned lies from the base on. -/
theorem owns_ge {w : World} {base : Nat} {e : TypeId} {size : Nat} {v : Value} {n g : Nat} {xs : List Value} (h : w.ownsRow base e size v n xs) (hg : v.ownBlock = some g) : base ≤ g := by
  rcases h.2 with ⟨rfl, _⟩ | ⟨g', cap, cur, rfl, hb, _⟩
  · simp [Value.ownBlock] at hg
  · simp [Value.ownBlock] at hg; omega
theorem one_byte (V : Int) : ∀ u ∈ [Value.int .u8 V], u.oneCell' = true := by intro u hu; simp at hu; subst hu; rfl
/-- An owned row of bytes, turned into a text. -/
theorem conv_owned {w : World} {base n : Nat} {v : Value} {xs : List Int} (h : w.ownsRow base 5 1 v n (xs.map (Value.int .u8))) : (convert 22 9 v).run Try.prog w = .ok (.string (strOfNums xs)) w := by
  obtain ⟨hl, hv⟩ := h
  simp at hl
  rcases hv with ⟨rfl, h0⟩ | ⟨g, cap, cur, rfl, _, hg, hn, _, hcs, htk⟩
  · have : xs = [] := List.length_eq_zero_iff.1 (by omega)
    subst this
    exact run_convert_bytes_nil (P := Try.prog) w 22 5 Try.underlying22 Try.underlying5 0 0 9 Try.underlying9
  · refine run_convert_bytes_arg (P := Try.prog) w 22 5 Try.underlying22 Try.underlying5 g 0 n cap xs hl (fun i hi => ?_) 9 Try.underlying9
    have h1 : (cur.toList.take (n * 1))[i]? = some (.int .u8 (xs.getD i 0)) := by
      rw [htk, List.getElem?_map, List.getD_eq_getElem?_getD, List.getElem?_eq_getElem (by omega)]
      simp
    rw [List.getElem?_take, if_pos (by omega)] at h1
    simp only [World.cell?, hg, Nat.zero_add]
    simpa using h1

end Go.Proofs.Ythlmnmbhgkmbfaa

namespace Go.Proofs.Ythlmnmbhgkmbfaa
open Go.RowKit
open Go.Lib hiding intOf

/-- A call answers a list of these texts in memory of its own, from block 'base' on, and turns nothing below it. -/
def RowIs (base : Nat) (xs : List ByteArray) (w : World) (e : Ending) (w' : World) : Prop :=
  ∃ v, e = .returned v ∧ w'.ownsRow base 9 1 v xs.length (xs.map Value.string) ∧ Below base w w'
theorem RowIs.of {base : Nat} {xs ys : List ByteArray} {w w' : World} {v : Value} {n : Nat} (h : ys = xs) (hn : n = ys.length) (hown : w'.ownsRow base 9 1 v n (ys.map Value.string)) (hb : Below base w w') : RowIs base xs w (.returned v) w' := by
  subst h; subst hn; exact ⟨v, rfl, hown, hb⟩
/-- What is owned stays so in every later world that keeps what was there. -/
theorem owns_below {w w' : World} {base B : Nat} {e : TypeId} {size : Nat} {v : Value} {n : Nat} {xs : List Value} (h : w.ownsRow base e size v n xs) (hb : Below B w w') (hB : ∀ g, v.ownBlock = some g → g < B) : w'.ownsRow base e size v n xs := by
  refine ⟨h.1, ?_⟩
  rcases h.2 with h2 | ⟨g, cap, cur, rfl, h3, h4, h5⟩
  · exact .inl h2
  · exact .inr ⟨g, cap, cur, rfl, h3, by rw [hb.block g (hB g rfl)]; exact h4, h5⟩
theorem owns_lt {w : World} {base : Nat} {e : TypeId} {size : Nat} {v : Value} {n g : Nat} {xs : List Value} (h : w.ownsRow base e size v n xs) (hg : v.ownBlock = some g) : g < w.heap.size := by
  rcases h.2 with ⟨rfl, _⟩ | ⟨g', cap, cur, rfl, hb, hh, _⟩
  · simp [Value.ownBlock] at hg
  · simp [Value.ownBlock] at hg
    subst hg
    exact (Array.getElem?_eq_some_iff.1 hh).1
end Go.Proofs.Ythlmnmbhgkmbfaa

namespace Go.Proofs.Ythlmnmbhgkmbfaa
open Go.RowKit
open Go.Lib hiding intOf

/-- The text i of a list. -/
def textAt (xs : List ByteArray) (i : Nat) : ByteArray := xs.getD i ⟨#[]⟩

/-- What an owned list of texts is, cell by cell. -/
structure TextRow (base : Nat) (w : World) (g n cap : Nat) (xs : List ByteArray) : Prop where
  len : xs.length = n
  base : base ≤ g
  lt : g < w.heap.size
  le : n ≤ cap
  mx : cap ≤ maxLen
  heap : ∃ cur, w.heap[g]? = some (.cells cur 9 (0, 0)) ∧ cur.size = cap ∧ ∀ i, i < n → cur[i]? = some (.string (textAt xs i))
theorem TextRow.cell {base : Nat} {w : World} {g n cap : Nat} {xs : List ByteArray} (h : TextRow base w g n cap xs) (i : Nat) (hi : i < n) : w.cell? ⟨g, i, none⟩ = some (.string (textAt xs i)) := by
  obtain ⟨cur, hg, _, hc⟩ := h.heap
  simp only [World.cell?, hg]
  simpa using hc i hi
theorem TextRow.frozen {base : Nat} {w : World} {g n cap : Nat} {xs : List ByteArray} (h : TextRow base w g n cap xs) (i : Nat) : w.frozen? ⟨g, i, none⟩ = false := by
  obtain ⟨cur, hg, _⟩ := h.heap
  simp [World.frozen?, hg]
theorem TextRow.below {base B : Nat} {w w' : World} {g n cap : Nat} {xs : List ByteArray} (h : TextRow base w g n cap xs) (hb : Below B w w') (hB : g < B) : TextRow base w' g n cap xs := by
  obtain ⟨cur, hg, hc⟩ := h.heap
  have := hb.size; have := h.lt
  exact ⟨h.len, h.base, by omega, h.le, h.mx, cur, by rw [hb.block g hB]; exact hg, hc⟩
/-- One text of it stored anew. -/
theorem TextRow.set {base : Nat} {w : World} {g n cap : Nat} {xs : List ByteArray} (h : TextRow base w g n cap xs) (i : Nat) (hi : i < n) (t : ByteArray) : TextRow base (w.setCell ⟨g, i, none⟩ (.string t)) g n cap (xs.set i t) := by
  obtain ⟨cur, hg, hs, hc⟩ := h.heap
  refine ⟨by simp [h.len], h.base, by simpa using h.lt, h.le, h.mx, cur.setIfInBounds i (.string t), ?_, by simpa using hs, ?_⟩
  · simp [World.setCell, Array.getElem?_modify, hg]
  · intro j hj
    have hl := h.len
    have hle := h.le
    by_cases e : i = j
    · subst e
      have h1 : i < cur.size := by omega
      have h2 : i < xs.length := by omega
      simp [textAt, List.getD_eq_getElem?_getD, h1, h2]
    · rw [Array.getElem?_setIfInBounds_ne (by exact e), hc j hj]
      simp [textAt, List.getD_eq_getElem?_getD, e]
theorem textAt_map (xs : List ByteArray) (i : Nat) (h : i < xs.length) : (xs.map Value.string)[i]? = some (.string (textAt xs i)) := by
  simp [textAt, List.getD_eq_getElem?_getD, h]
theorem TextRow.owns {base : Nat} {w : World} {g n cap : Nat} {xs : List ByteArray} (h : TextRow base w g n cap xs) : w.ownsRow base 9 1 (.slice (some ⟨g, 0, none⟩) n cap) n (xs.map Value.string) := by
  obtain ⟨cur, hg, hs, hc⟩ := h.heap
  refine ⟨by simp [h.len], .inr ⟨g, cap, cur, rfl, h.base, hg, h.le, h.mx, by simpa using hs, ?_⟩⟩
  apply List.ext_getElem?
  intro i
  have hl := h.len; have hle := h.le
  rw [List.getElem?_take, Nat.mul_one]
  by_cases hi : i < n
  · rw [if_pos hi, textAt_map xs i (by omega)]
    simpa using hc i hi
  · rw [if_neg hi, List.getElem?_eq_none (by simp; omega)]

end Go.Proofs.Ythlmnmbhgkmbfaa

namespace Go.Proofs.Ythlmnmbhgkmbfaa
open Go.RowKit
open Go.Lib hiding intOf

theorem and255 (x : Int) : 0 ≤ bits BinOp.and IntKind.i64 x 255 ∧ bits BinOp.and IntKind.i64 x 255 < 256 := by
  have h : (BitVec.ofInt 64 x &&& BitVec.ofInt 64 255).toNat ≤ 255 := by
    rw [BitVec.toNat_and]
    exact Nat.and_le_right
  unfold bits
  simp only
  rw [IntKind.wrap_i64]
  show 0 ≤ (((BitVec.ofInt 64 x &&& BitVec.ofInt 64 255).toNat : Int) + 9223372036854775808) % 18446744073709551616 - 9223372036854775808 ∧ (((BitVec.ofInt 64 x &&& BitVec.ofInt 64 255).toNat : Int) + 9223372036854775808) % 18446744073709551616 - 9223372036854775808 < 256
  omega

/-- The bytes that a draw reads: a slice that came in, in blocks below B. -/
structure CodeAt (w : World) (B : Nat) (a : Option Addr) (len : Nat) (zs : List Int) : Prop where
  le : len ≤ 1048576
  get : ∀ j, j < len → ∃ b off, a = some ⟨b, off, none⟩ ∧ b < B ∧ w.cell? ⟨b, off + j, none⟩ = some (.int .u8 (zs.getD j 0)) ∧ 0 ≤ zs.getD j 0 ∧ zs.getD j 0 ≤ 255
theorem CodeAt.below {w w' : World} {B : Nat} {a : Option Addr} {len : Nat} {zs : List Int} (h : CodeAt w B a len zs) (hb : Below B w w') : CodeAt w' B a len zs :=
  ⟨h.le, fun j hj => by
    obtain ⟨b, off, h1, h2, h3, h4⟩ := h.get j hj
    exact ⟨b, off, h1, h2, by rw [hb.cell (p := ⟨b, off + j, none⟩) h2]; exact h3, h4⟩⟩
theorem CodeAt.upTo {w : World} {B C : Nat} {a : Option Addr} {len : Nat} {zs : List Int} (h : CodeAt w B a len zs) (hC : B ≤ C) : CodeAt w C a len zs :=
  ⟨h.le, fun j hj => by
    obtain ⟨b, off, h1, h2, h3⟩ := h.get j hj
    exact ⟨b, off, h1, by omega, h3⟩⟩
/-- The cursor lies in block c. -/
def CurAt (w : World) (c : Nat) (a : Option Addr) (len cap : Nat) : Prop :=
  ∃ (i : Nat) (h : Int), i ≤ len ∧ w.heap[c]? = some (.cells #[.slice a len cap, .int .i64 (i : Int), .int .i64 h] 97 (0, 0))
theorem CurAt.lt {w : World} {c : Nat} {a : Option Addr} {len cap : Nat} (h : CurAt w c a len cap) : c < w.heap.size := by
  obtain ⟨i, h, _, hh⟩ := h
  exact (Array.getElem?_eq_some_iff.1 hh).1
theorem CurAt.below {w w' : World} {B c : Nat} {a : Option Addr} {len cap : Nat} (h : CurAt w c a len cap) (hb : Below B w w') (hc : c < B) : CurAt w' c a len cap := by
  obtain ⟨i, h, hi, hh⟩ := h
  exact ⟨i, h, hi, by rw [hb.block c hc]; exact hh⟩

theorem heap_setCell_self (w : World) (c o : Nat) (cs : Array Value) (t : TypeId) (fz : Nat × Nat) (v : Value) (h : w.heap[c]? = some (.cells cs t fz)) : (w.setCell ⟨c, o, none⟩ v).heap[c]? = some (.cells (cs.setIfInBounds o v) t fz) := by
  simp [World.setCell, Array.getElem?_modify, h]

theorem grownBy_drewN {a w : World} {row : Option Nat} (h : a.grownBy w row) (n : Nat) : a.grownBy (w.drewN n) row := ⟨h.os, h.tape, h.output, h.size, h.block⟩

/-- A call on the cursor answers a number from 0 to below m, and turns the cursor alone of what was there. -/
def DrawIs (m : Int) (w : World) (c : Nat) (a : Option Addr) (len cap : Nat) (e : Ending) (w' : World) : Prop :=
  ∃ x : Int, e = .returned (.int .i64 x) ∧ 0 ≤ x ∧ x < m ∧ CurAt w' c a len cap ∧ w.grownBy w' (some c)

set_option maxHeartbeats 1000000 in
theorem l1Byte_any (c B : Nat) (a : Option Addr) (len cap : Nat) (zs : List Int) (w : World) (hcur : CurAt w c a len cap) (hcode : CodeAt w B a len zs) (hB : B ≤ c) :
    Calls Try.prog 103 #[.pointer (some ⟨c, 0, none⟩)] w fun e w' => DrawIs 256 w c a len cap e w' := by
  obtain ⟨i, h, hi1, hh⟩ := hcur
  have hc0 : w.cell? ⟨c, 0, none⟩ = some (.slice a len cap) := by simp [World.cell?, hh]
  have hc1 : w.cell? ⟨c, 1, none⟩ = some (.int .i64 (i : Int)) := by simp [World.cell?, hh]
  have hc2 : w.cell? ⟨c, 2, none⟩ = some (.int .i64 h) := by simp [World.cell?, hh]
  have hf1 : w.frozen? ⟨c, 1, none⟩ = false := by simp [World.frozen?, hh]
  have hf2 : w.frozen? ⟨c, 2, none⟩ = false := by simp [World.frozen?, hh]
  have HH : Hid _ := hh
  clear hh
  have hlen := hcode.le
  by_cases hlt : (i : Int) < (len : Int)
  · obtain ⟨b, off, rfl, hbB, hcell, hz0, hz1⟩ := hcode.get i (by omega)
    have hcell2 : ∀ o v, (w.setCell ⟨c, o, none⟩ v).cell? ⟨b, off + i, none⟩ = some (.int .u8 (zs.getD i 0)) := fun o v => by
      rw [World.cell?_setCell_other (h := fun e => by cases e; omega)]; exact hcell
    obtain ⟨z, hz⟩ : ∃ z, z = zs.getD i 0 := ⟨_, rfl⟩
    rw [← hz] at hcell2 hz0 hz1
    clear hz hcell hcode
    go_enter Try.func103, Try.ntmps103
    go_wp2
    go_quiet (fail)
    go_wp2
    go_quiet (fail)
    go_wp2
    go_quiet (fail)
    go_wp2
    go_ret
    exact ⟨_, rfl, (and255 _).1, (and255 _).2, ⟨i + 1, _, by omega, heap_setCell_self _ c 1 _ _ _ _ (heap_setCell_self w c 2 _ _ _ _ HH.out)⟩, grownBy_setB (grownBy_drewN (grownBy_setCell w c 2 _) _) 1 _⟩
  · go_enter Try.func103, Try.ntmps103
    go_wp2
    go_quiet (fail)
    go_wp2
    go_quiet (fail)
    go_wp2
    go_ret
    exact ⟨_, rfl, (and255 _).1, (and255 _).2, ⟨i, _, hi1, heap_setCell_self w c 2 _ _ _ _ HH.out⟩, grownBy_drewN (grownBy_drewN (grownBy_setCell w c 2 _) _) _⟩

set_option maxHeartbeats 1000000 in
theorem l1Below_any (c B : Nat) (m : Int) (a : Option Addr) (len cap : Nat) (zs : List Int) (w : World) (hcur : CurAt w c a len cap) (hcode : CodeAt w B a len zs) (hB : B ≤ c) (hm : 1 ≤ m) (hm2 : m ≤ 256) :
    Calls Try.prog 74 #[.pointer (some ⟨c, 0, none⟩), .int .i64 m] w fun e w' => DrawIs m w c a len cap e w' := by
  have hm0 : ¬ m ≤ 0 := by omega
  go_enter Try.func74, Try.ntmps74
  go_wp2_with fail
  refine (l1Byte_any c B a len cap zs _ hcur hcode hB).mono ?_
  rintro e w1 ⟨x, rfl, hx0, hx1, hcur1, hg1⟩
  go_wp2_with fail
  go_ret
  exact ⟨x % m, rfl, Int.emod_nonneg _ (by omega), Int.emod_lt_of_pos _ (by omega), hcur1, hg1⟩

/-- A list of n texts that the caller has laid, text j by 'f j'. -/
def ListAt (w : World) (g n : Nat) (f : Nat → ByteArray) : Prop := ∀ j, j < n → w.cell? ⟨g, j, none⟩ = some (.string (f j))

theorem grown_cell {w w' : World} {c : Nat} (hg : w.grownBy w' (some c)) {g j : Nat} {v : Value} (h : w.cell? ⟨g, j, none⟩ = some v) (hne : g ≠ c) : w'.cell? ⟨g, j, none⟩ = some v :=
  hg.cell h (fun e => hne (Option.some.inj e))

set_option maxHeartbeats 1000000 in
theorem l1Pick_any (c B g n : Nat) (f : Nat → ByteArray) (a : Option Addr) (len cap : Nat) (zs : List Int) (w : World) (hcur : CurAt w c a len cap) (hcode : CodeAt w B a len zs) (hB : B ≤ c) (hn : 1 ≤ n) (hn2 : n ≤ 256) (hl : ListAt w g n f) (hgc : g ≠ c) :
    Calls Try.prog 102 #[.pointer (some ⟨c, 0, none⟩), .slice (some ⟨g, 0, none⟩) n n] w fun e w' => ∃ j, j < n ∧ e = .returned (.string (f j)) ∧ CurAt w' c a len cap ∧ w.grownBy w' (some c) := by
  go_enter Try.func102, Try.ntmps102
  go_wp2_with fail
  refine (l1Below_any c B n a len cap zs _ hcur hcode hB (by omega) (by omega)).mono ?_
  rintro e w1 ⟨x, rfl, hx0, hx1, hcur1, hg1⟩
  obtain ⟨j, rfl⟩ := Int.eq_ofNat_of_zero_le hx0
  have hj : j < n := by omega
  have hcell : w1.cell? ⟨g, j, none⟩ = some (.string (f j)) := grown_cell hg1 (hl j hj) hgc
  go_wp2
  go_ret
  exact ⟨j, hj, rfl, hcur1, hg1⟩

set_option maxHeartbeats 1000000 in
theorem l1New_any (B : Nat) (a : Option Addr) (len cap : Nat) (zs : List Int) (w : World) (hcode : CodeAt w B a len zs) :
    Calls Try.prog 41 #[.slice a len cap] w fun e w' => e = .returned (.pointer (some ⟨w.heap.size, 0, none⟩)) ∧ CurAt w' w.heap.size a len cap ∧ Below w.heap.size w w' := by
  have hlen := hcode.le
  go_enter Try.func41, Try.ntmps41
  go_wp2
  go_loop [3, 4] (fun h i => ∃ (k : Nat) (x : Int), k ≤ len ∧ i = .int .i64 (k : Int) ∧ h = .int .i64 x) (fun _ i => len - (intOf i).toNat)
  case atStart => exact ⟨0, _, Nat.zero_le _, rfl, rfl⟩
  case round =>
    obtain ⟨k, x, hk, rfl, rfl⟩ := hrel
    by_cases hlt : (k : Int) < (len : Int)
    · by_cases h4 : (k : Int) < 4000
      · obtain ⟨b, off, rfl, hbB, hcell, hz0, hz1⟩ := hcode.get k (by omega)
        clear hcode
        go_wp2
        go_round
        case rel => exact ⟨k + 1, _, by omega, by go_num, rfl⟩
        case measure => simp [intOf]; omega
      · go_wp2
        go_ret
        exact ⟨rfl, ⟨0, x, Nat.zero_le _, heap_alloc_new w _⟩, (Below.refl _ _).alloc (Nat.le_refl _) _⟩
    · go_wp2
      go_ret
      exact ⟨rfl, ⟨0, x, Nat.zero_le _, heap_alloc_new w _⟩, (Below.refl _ _).alloc (Nat.le_refl _) _⟩

end Go.Proofs.Ythlmnmbhgkmbfaa

namespace Go.Proofs.Ythlmnmbhgkmbfaa
open Go.RowKit
open Go.Lib hiding intOf

theorem CodeAt.grown {w w' : World} {B c : Nat} {a : Option Addr} {len : Nat} {zs : List Int} (h : CodeAt w B a len zs) (hg : w.grownBy w' (some c)) (hB : B ≤ c) : CodeAt w' B a len zs :=
  ⟨h.le, fun j hj => by
    obtain ⟨b, off, h1, h2, h3, h4⟩ := h.get j hj
    exact ⟨b, off, h1, h2, grown_cell hg h3 (by omega), h4⟩⟩
theorem CurAt.grown {w w' : World} {c : Nat} {row : Option Nat} {a : Option Addr} {len cap : Nat} (h : CurAt w c a len cap) (hg : w.grownBy w' row) (hne : row ≠ some c) : CurAt w' c a len cap := by
  have hlt := h.lt
  obtain ⟨i, h, hi, hh⟩ := h
  exact ⟨i, h, hi, by rw [hg.block c hlt (fun e => hne e.symm)]; exact hh⟩
theorem owns_grown {w w' : World} {base c : Nat} {e : TypeId} {size : Nat} {v : Value} {n : Nat} {xs : List Value} (h : w.ownsRow base e size v n xs) (hg : w.grownBy w' (some c)) (hc : c < base) : w'.ownsRow base e size v n xs := by
  refine ⟨h.1, ?_⟩
  rcases h.2 with h2 | ⟨g, cap, cur, rfl, h3, h4, h5⟩
  · exact .inl h2
  · exact .inr ⟨g, cap, cur, rfl, h3, by rw [hg.block g (Array.getElem?_eq_some_iff.1 h4).1 (fun e => by cases e; omega)]; exact h4, h5⟩
/-- A step that turns only a block which came later. -/
theorem grown_later {a w w' : World} {row r : Option Nat} (h : a.grownBy w row) (k : w.grownBy w' r) (hr : ∀ g, r = some g → a.heap.size ≤ g) : a.grownBy w' row :=
  ⟨k.os.trans h.os, k.tape.trans h.tape, k.output.trans h.output, Nat.le_trans h.size k.size, fun i hi hne => (k.block i (Nat.lt_of_lt_of_le hi h.size) (fun e => by have := hr i e.symm; omega)).trans (h.block i hi hne)⟩

theorem listAt_alloc (w : World) (xs : List ByteArray) : ListAt (w.alloc (.cells (xs.map Value.string).toArray 9)) w.heap.size xs.length (textAt xs) := by
  intro j hj
  rw [World.cell?_alloc_new]
  simp [textAt, List.getD_eq_getElem?_getD, hj]

/-- A call on the cursor answers a text of at most m bytes, and turns the cursor alone of what was there. -/
def TextDrawn (m : Nat) (w : World) (c : Nat) (a : Option Addr) (len cap : Nat) (e : Ending) (w' : World) : Prop :=
  ∃ t : ByteArray, e = .returned (.string t) ∧ t.size ≤ m ∧ CurAt w' c a len cap ∧ w.grownBy w' (some c)

def pickL : List ByteArray := [⟨#[32]⟩, ⟨#[44]⟩, ⟨#[97]⟩, ⟨#[90]⟩, ⟨#[55]⟩, ⟨#[45]⟩, ⟨#[61]⟩, ⟨#[120]⟩, ⟨#[58]⟩, ⟨#[1]⟩, ⟨#[64]⟩, ⟨#[91]⟩]
theorem pickL_one : ∀ j, j < 12 → (textAt pickL j).size = 1 := by decide

set_option maxHeartbeats 2000000 in
set_option maxRecDepth 100000 in
theorem l1DrawText_any (c B : Nat) (a : Option Addr) (len cap : Nat) (zs : List Int) (w : World) (hcur : CurAt w c a len cap) (hcode : CodeAt w B a len zs) (hB : B ≤ c) :
    Calls Try.prog 120 #[.pointer (some ⟨c, 0, none⟩)] w fun e w' => TextDrawn 14 w c a len cap e w' := by
  obtain ⟨i0, hi, hz0, hz1, hz2⟩ := info_parts info5
  have hcw := hcur.lt
  go_enter Try.func120, Try.ntmps120
  go_wp2
  go_loopw [3, 4] (fun v i wr => ∃ (k : Nat) (xs : List Int), k ≤ 14 ∧ i = .int .i64 (k : Int) ∧ wr.ownsRow w.heap.size 5 1 v k (xs.map (Value.int .u8)) ∧ CurAt wr c a len cap ∧ w.grownBy wr (some c)) (fun _ i _ => 14 - (intOf i).toNat)
  case atStart => exact ⟨0, [], Nat.zero_le _, rfl, ⟨rfl, .inr ⟨w.heap.size, 0, #[], rfl, Nat.le_refl _, heap_alloc_new w _, Nat.le_refl _, Nat.zero_le _, rfl, rfl⟩⟩, hcur.below ((Below.refl _ _).alloc (Nat.le_refl _) _) hcw, World.grownBy_alloc w _ _⟩
  case round =>
    obtain ⟨k, xs, hk, rfl, hown, hcu, hgw⟩ := hrel
    have hxl : xs.length = k := by have := hown.1; simpa using this
    have HXL : Hid (xs.length = k) := hxl
    clear hxl
    go_wp2_with fail
    refine (l1Below_any c B 14 a len cap zs _ hcu (hcode.grown hgw hB) hB (by omega) (by omega)).mono ?_
    rintro e w1 ⟨x, rfl, hx0, hx1, hcu1, hg1⟩
    have hown1 := owns_grown hown hg1 hcw
    have hgw1 := grownBy_trans hgw hg1
    clear hcu hown hg1 hgw
    by_cases hkx : (k : Int) < x
    · have hcl := hcu1.lt
      have hsw1 := hgw1.size
      have hla := listAt_alloc w1 pickL
      go_wp2_with fail
      refine (l1Pick_any c B w1.heap.size 12 (textAt pickL) a len cap zs _ (hcu1.below ((Below.refl _ _).alloc (Nat.le_refl _) _) hcl) (hcode.grown (grownBy_allocR hgw1 _) hB) hB (by omega) (by omega) (by exact hla) (by omega)).mono ?_
      rintro e w3 ⟨j, hj, rfl, hcu3, hg3⟩
      have ht1 := pickL_one j hj
      obtain ⟨t, ht⟩ : ∃ t, t = textAt pickL j := ⟨_, rfl⟩
      rw [← ht] at ht1 ⊢
      have hown3 := owns_grown (hown1.alloc (.cells (pickL.map Value.string).toArray 9)) hg3 hcw
      have hgw3 := grownBy_trans (grownBy_allocR hgw1 (.cells (pickL.map Value.string).toArray 9)) hg3
      have hcl3 := hcu3.lt
      have hsw3 := hgw3.size
      clear ht hla hg3 hown1 hgw1 hcu1
      have hp0 : 0 < t.size := by omega
      have h63 : k + 1 ≤ maxLen := by unfold maxLen; omega
      have h47 : (k + 1) * 1 ≤ 140737488355328 := by omega
      have HBS : ∀ o, w.heap.size ≤ (w3.alloc o).heap.size := fun o => by simp; omega
      go_wp2_with (at_builtin; refine wpList_append_own _ rfl _ _ 22 rfl w.heap.size 5 i0 (.int .u8 0) 1 1 Try.underlying22 hi hz0 hz1 hz2 rfl (by decide) _ _ _ rfl (hown3.alloc _) ⟨w3.heap.size, 0, none⟩ 1 1 [.int .u8 ((t[0]'hp0).toNat : Int)] rfl rfl (cell_one_new _ _ _) (one_byte _) h63 h47 (HBS _) ?_)
      intro v1 w5 hown5 hgrow _
      have hgw5 : w.grownBy w5 (some c) := grown_later (grownBy_allocR hgw3 _) hgrow (fun g hg => owns_ge hown3 hg)
      have hcu5 : CurAt w5 c a len cap := (hcu3.below ((Below.refl _ _).alloc (Nat.le_refl _) _) hcl3).grown hgrow (fun e => by have := owns_ge hown3 e; omega)
      clear hgrow hown3 hcu3 hgw3 HBS
      go_wp2
      go_roundw
      case rel => exact ⟨k + 1, xs ++ [((t[0]'hp0).toNat : Int)], by omega, by go_num, by simpa using hown5, hcu5, hgw5⟩
      case measure => simp [intOf]; omega
    · have hcv := conv_owned hown1
      go_wp2
      go_ret
      exact ⟨strOfNums xs, rfl, by rw [strOfNums_size, HXL.out]; omega, hcu1, hgw1⟩

set_option maxHeartbeats 1000000 in
theorem l1Once_any (c B : Nat) (m : Int) (a : Option Addr) (len cap : Nat) (zs : List Int) (w : World) (hcur : CurAt w c a len cap) (hcode : CodeAt w B a len zs) (hB : B ≤ c) (hm : 1 ≤ m) (hm2 : m ≤ 256) :
    Calls Try.prog 42 #[.pointer (some ⟨c, 0, none⟩), .int .i64 m] w fun e w' => Hid (∃ b : Bool, e = .returned (.bool b)) ∧ CurAt w' c a len cap ∧ w.grownBy w' (some c) := by
  go_enter Try.func42, Try.ntmps42
  go_wp2_with fail
  refine (l1Below_any c B m a len cap zs _ hcur hcode hB hm hm2).mono ?_
  rintro e w1 ⟨x, rfl, hx0, hx1, hcur1, hg1⟩
  go_wp2
  go_ret
  exact ⟨⟨_, rfl⟩, hcur1, hg1⟩

end Go.Proofs.Ythlmnmbhgkmbfaa

namespace Go.Proofs.Ythlmnmbhgkmbfaa
open Go.RowKit
open Go.Lib hiding intOf

def nameAt (fs : List (ByteArray × ByteArray)) (i : Nat) : ByteArray := (fs.getD i (⟨#[]⟩, ⟨#[]⟩)).1
def valAt (fs : List (ByteArray × ByteArray)) (i : Nat) : ByteArray := (fs.getD i (⟨#[]⟩, ⟨#[]⟩)).2
/-- A list of fields as a row of cells: two a field. -/
def flatF (fs : List (ByteArray × ByteArray)) : List Value := fs.flatMap (fun f => [Value.string f.1, Value.string f.2])
theorem flatF_len (fs : List (ByteArray × ByteArray)) : (flatF fs).length = fs.length * 2 := by
  induction fs with
  | nil => rfl
  | cons f r ih => simp only [flatF, List.flatMap_cons, List.length_append, List.length_cons, List.length_nil] at ih ⊢; omega
theorem flatF_get : ∀ (fs : List (ByteArray × ByteArray)) (i : Nat), i < fs.length → (flatF fs)[i * 2]? = some (.string (nameAt fs i)) ∧ (flatF fs)[i * 2 + 1]? = some (.string (valAt fs i))
  | [], i, h => by simp at h
  | f :: r, 0, _ => by simp [flatF, nameAt, valAt]
  | f :: r, i + 1, h => by
    have ih := flatF_get r i (by simpa using h)
    have e : flatF (f :: r) = Value.string f.1 :: Value.string f.2 :: flatF r := rfl
    rw [e, show (i + 1) * 2 = i * 2 + 2 by omega, show i * 2 + 2 + 1 = (i * 2 + 1) + 2 by omega]
    simp only [List.getElem?_cons_succ]
    exact ih

/-- What an owned list of fields is, cell by cell. -/
structure FieldRow (base : Nat) (w : World) (g n cap : Nat) (fs : List (ByteArray × ByteArray)) : Prop where
  len : fs.length = n
  base : base ≤ g
  lt : g < w.heap.size
  le : n ≤ cap
  mx : cap ≤ maxLen
  heap : ∃ cur, w.heap[g]? = some (.cells cur 68 (0, 0)) ∧ cur.size = cap * 2 ∧ ∀ i, i < n → cur[i * 2]? = some (.string (nameAt fs i)) ∧ cur[i * 2 + 1]? = some (.string (valAt fs i))
theorem FieldRow.name {base : Nat} {w : World} {g n cap : Nat} {fs : List (ByteArray × ByteArray)} (h : FieldRow base w g n cap fs) (i : Nat) (hi : i < n) : w.cell? ⟨g, i * 2, none⟩ = some (.string (nameAt fs i)) := by
  obtain ⟨cur, hg, _, hc⟩ := h.heap
  simp only [World.cell?, hg]
  simpa using (hc i hi).1
theorem FieldRow.val {base : Nat} {w : World} {g n cap : Nat} {fs : List (ByteArray × ByteArray)} (h : FieldRow base w g n cap fs) (i : Nat) (hi : i < n) : w.cell? ⟨g, i * 2 + 1, none⟩ = some (.string (valAt fs i)) := by
  obtain ⟨cur, hg, _, hc⟩ := h.heap
  simp only [World.cell?, hg]
  simpa using (hc i hi).2
theorem FieldRow.frozen {base : Nat} {w : World} {g n cap : Nat} {fs : List (ByteArray × ByteArray)} (h : FieldRow base w g n cap fs) (i : Nat) : w.frozen? ⟨g, i, none⟩ = false := by
  obtain ⟨cur, hg, _⟩ := h.heap
  simp [World.frozen?, hg]
theorem FieldRow.below {base B : Nat} {w w' : World} {g n cap : Nat} {fs : List (ByteArray × ByteArray)} (h : FieldRow base w g n cap fs) (hb : Below B w w') (hB : g < B) : FieldRow base w' g n cap fs := by
  obtain ⟨cur, hg, hc⟩ := h.heap
  have := hb.size; have := h.lt
  exact ⟨h.len, h.base, by omega, h.le, h.mx, cur, by rw [hb.block g hB]; exact hg, hc⟩
/-- An owned list of fields is empty, or such a row. -/
theorem frow_form {w : World} {base n : Nat} {v : Value} {fs : List (ByteArray × ByteArray)} (h : w.ownsRow base 68 2 v n (flatF fs)) :
    (∃ oa cap, v = .slice oa 0 cap ∧ (oa = none → cap = 0) ∧ n = 0 ∧ fs = []) ∨ ∃ g cap, v = .slice (some ⟨g, 0, none⟩) n cap ∧ 0 < n ∧ FieldRow base w g n cap fs := by
  obtain ⟨hl, hv⟩ := h
  rw [flatF_len] at hl
  rcases hv with ⟨rfl, h0⟩ | ⟨g, cap, cur, rfl, hb, hg, hn, hm, hcs, htk⟩
  · exact .inl ⟨none, 0, rfl, fun _ => rfl, h0, List.length_eq_zero_iff.1 (by omega)⟩
  · by_cases h0 : n = 0
    · subst h0
      exact .inl ⟨_, _, rfl, (fun h => by cases h), rfl, List.length_eq_zero_iff.1 (by omega)⟩
    · refine .inr ⟨g, cap, rfl, by omega, by omega, hb, (Array.getElem?_eq_some_iff.1 hg).1, hn, hm, cur, hg, hcs, ?_⟩
      intro i hi
      have hf := flatF_get fs i (by omega)
      rw [← htk, List.getElem?_take, List.getElem?_take, if_pos (by omega), if_pos (by omega)] at hf
      simpa using hf
theorem FieldRow.owns {base : Nat} {w : World} {g n cap : Nat} {fs : List (ByteArray × ByteArray)} (h : FieldRow base w g n cap fs) : w.ownsRow base 68 2 (.slice (some ⟨g, 0, none⟩) n cap) n (flatF fs) := by
  obtain ⟨cur, hg, hs, hc⟩ := h.heap
  have hl := h.len; have hle := h.le
  refine ⟨by rw [flatF_len, hl], .inr ⟨g, cap, cur, rfl, h.base, hg, h.le, h.mx, hs, ?_⟩⟩
  apply List.ext_getElem?
  intro j
  rw [List.getElem?_take]
  by_cases hj : j < n * 2
  · rw [if_pos hj]
    have hf := flatF_get fs (j / 2) (by omega)
    have hcc := hc (j / 2) (by omega)
    rcases Nat.mod_two_eq_zero_or_one j with e | e
    · have e2 : j / 2 * 2 = j := by omega
      rw [e2] at hf hcc
      rw [hf.1]; simpa using hcc.1
    · have e2 : j / 2 * 2 + 1 = j := by omega
      rw [e2] at hf hcc
      rw [hf.2]; simpa using hcc.2
  · rw [if_neg hj, List.getElem?_eq_none (by rw [flatF_len]; omega)]

/-- A list of fields that a function reads: empty, or a row. -/
def FieldsV (w : World) (base : Nat) (v : Value) (n : Nat) (fs : List (ByteArray × ByteArray)) : Prop :=
  (∃ oa cap, v = .slice oa 0 cap ∧ (oa = none → cap = 0) ∧ n = 0 ∧ fs = []) ∨ ∃ g cap, v = .slice (some ⟨g, 0, none⟩) n cap ∧ 0 < n ∧ FieldRow base w g n cap fs

/-- Where the first field of that name stands; the length where there is none. -/
def atF : List (ByteArray × ByteArray) → ByteArray → Nat
  | [], _ => 0
  | f :: r, name => if f.1 = name then 0 else atF r name + 1
theorem atF_le : ∀ (fs : List (ByteArray × ByteArray)) (name : ByteArray), atF fs name ≤ fs.length
  | [], _ => Nat.le_refl _
  | f :: r, name => by
    rw [atF]
    split
    · exact Nat.zero_le _
    · have := atF_le r name; simp; omega
theorem atF_before : ∀ (fs : List (ByteArray × ByteArray)) (name : ByteArray) (j : Nat), j < atF fs name → nameAt fs j ≠ name
  | [], _, j, h => by simp [atF] at h
  | f :: r, name, j, h => by
    rw [atF] at h
    split at h
    · omega
    · rename_i hne
      cases j with
      | zero => simpa [nameAt] using hne
      | succ j => have := atF_before r name j (by omega); simpa [nameAt] using this
theorem atF_here : ∀ (fs : List (ByteArray × ByteArray)) (name : ByteArray), atF fs name < fs.length → nameAt fs (atF fs name) = name
  | [], _, h => by simp [atF] at h
  | f :: r, name, h => by
    rw [atF] at h ⊢
    split
    · rename_i he; simpa [nameAt] using he
    · rename_i hne
      rw [if_neg hne] at h
      have := atF_here r name (by simpa using h)
      simpa [nameAt] using this
theorem atF_uniq {fs : List (ByteArray × ByteArray)} {name : ByteArray} {k : Nat} (hk : k < fs.length) (hb : ∀ j, j < k → nameAt fs j ≠ name) (he : nameAt fs k = name) : atF fs name = k := by
  rcases Nat.lt_trichotomy (atF fs name) k with h | h | h
  · exact absurd (atF_here fs name (by omega)) (hb _ h)
  · exact h
  · exact absurd he (atF_before fs name k h)
theorem atF_none {fs : List (ByteArray × ByteArray)} {name : ByteArray} (hb : ∀ j, j < fs.length → nameAt fs j ≠ name) : atF fs name = fs.length := by
  rcases Nat.lt_or_ge (atF fs name) fs.length with h | h
  · exact absurd (atF_here fs name h) (hb _ h)
  · have := atF_le fs name; omega
/-- The place as an int: -1 where there is none. -/
def atI (fs : List (ByteArray × ByteArray)) (name : ByteArray) : Int := if atF fs name < fs.length then (atF fs name : Int) else -1

set_option maxHeartbeats 1000000 in
theorem l2At_any (v : Value) (n base : Nat) (fs : List (ByteArray × ByteArray)) (name : ByteArray) (w : World) (hv : FieldsV w base v n fs) (hn : n ≤ 1073741824) :
    Calls Try.prog 76 #[v, .string name] w fun e w' => e = .returned (.int .i64 (atI fs name)) ∧ w' = w := by
  rcases hv with ⟨oa, ca, rfl, _, rfl, rfl⟩ | ⟨g, cap, rfl, hp, row⟩
  · have hT : Hid (atI [] name = -1) := rfl
    go_enter Try.func76, Try.ntmps76
    go_wp2
    refine wp_loop_rounds 1 ?_
    rw [rounds_succ]
    go_wp2
    go_ret
    exact ⟨by rw [hT.out]; rfl, rfl⟩
  · have hl := row.len
    go_enter Try.func76, Try.ntmps76
    go_wp2
    go_loop [5] (fun i => ∃ k : Nat, k ≤ n ∧ i = .int .i64 (k : Int) ∧ Hid (∀ j, j < k → nameAt fs j ≠ name)) (fun i => n - (intOf i).toNat)
    case atStart => exact ⟨0, Nat.zero_le _, rfl, fun j h => absurd h (by omega)⟩
    case round =>
      obtain ⟨k, hk, rfl, hb⟩ := hrel
      by_cases hlt : k < n
      · have hc := row.name k hlt
        have hlt2 : (k : Int) < (n : Int) := by omega
        by_cases he : nameAt fs k = name
        · have hT : Hid (atI fs name = (k : Int)) := by
            have := atF_uniq (by omega) hb.out he
            show _ = _
            unfold atI; rw [this, if_pos (by omega)]
          have ht : ((nameAt fs k).toList == name.toList) = true := (text_beq _ _).2 he
          clear he
          go_wp2
          go_ret
          exact ⟨by rw [hT.out]; rfl, rfl⟩
        · have ht : ((nameAt fs k).toList == name.toList) = false := by
            rcases Bool.eq_false_or_eq_true ((nameAt fs k).toList == name.toList) with h | h
            · exact absurd ((text_beq _ _).1 h) he
            · exact h
          have HE : Hid (nameAt fs k ≠ name) := he
          clear he
          go_wp2
          go_round
          case rel =>
            refine ⟨k + 1, by omega, by go_num, ?_⟩
            intro j hj
            by_cases e : j = k
            · subst e; exact HE.out
            · exact hb.out j (by omega)
          case measure => simp [intOf]; omega
      · have hT : Hid (atI fs name = -1) := by
          have := atF_none (fs := fs) (name := name) (fun j hj => hb.out j (by omega))
          show _ = _
          unfold atI; rw [this, if_neg (by omega)]
        go_wp2
        go_ret
        exact ⟨by rw [hT.out]; rfl, rfl⟩

theorem FieldsV.of_owns {w : World} {base n : Nat} {v : Value} {fs : List (ByteArray × ByteArray)} (h : w.ownsRow base 68 2 v n (flatF fs)) : FieldsV w base v n fs := frow_form h
theorem FieldsV.below {w w' : World} {base n : Nat} {v : Value} {fs : List (ByteArray × ByteArray)} (h : FieldsV w base v n fs) (hb : Below w.heap.size w w') : FieldsV w' base v n fs := by
  rcases h with h | ⟨g, cap, h1, h2, h3⟩
  · exact .inl h
  · exact .inr ⟨g, cap, h1, h2, h3.below hb h3.lt⟩
theorem FieldsV.len {w : World} {base n : Nat} {v : Value} {fs : List (ByteArray × ByteArray)} (h : FieldsV w base v n fs) : fs.length = n := by
  rcases h with ⟨_, _, _, _, rfl, rfl⟩ | ⟨_, _, _, _, h⟩
  · rfl
  · exact h.len

/-- A list of fields is a slice; where there is a field it is a row's. -/
theorem FieldsV.slice {w : World} {base n : Nat} {v : Value} {fs : List (ByteArray × ByteArray)} (h : FieldsV w base v n fs) :
    ∃ oa cap, v = .slice oa n cap ∧ ∀ k, k < n → ∃ g, oa = some ⟨g, 0, none⟩ ∧ FieldRow base w g n cap fs := by
  rcases h with ⟨oa, ca, rfl, _, rfl, rfl⟩ | ⟨g, cap, rfl, hp, row⟩
  · exact ⟨oa, ca, rfl, fun k hk => absurd hk (by omega)⟩
  · exact ⟨_, cap, rfl, fun k _ => ⟨g, rfl, row⟩⟩

/-- What Get answers. -/
def getV (fs : List (ByteArray × ByteArray)) (name : ByteArray) : ByteArray := if atF fs name < fs.length then valAt fs (atF fs name) else ⟨#[]⟩
def getB (fs : List (ByteArray × ByteArray)) (name : ByteArray) : Bool := decide (atF fs name < fs.length)

set_option maxHeartbeats 1000000 in
theorem specGet_any (v : Value) (n base : Nat) (fs : List (ByteArray × ByteArray)) (name : ByteArray) (w : World) (hv : FieldsV w base v n fs) (hn : n ≤ 1073741824) :
    Calls Try.prog 48 #[v, .string name] w fun e w' => e = .returned (.tuple #[.string (getV fs name), .bool (getB fs name)]) ∧ w' = w := by
  have hl := hv.len
  by_cases hin : atF fs name < fs.length
  · have hI : Hid (atI fs name = (atF fs name : Int)) := by show _ = _; unfold atI; rw [if_pos hin]
    have hV : Hid (getV fs name = valAt fs (atF fs name)) := by show _ = _; unfold getV; rw [if_pos hin]
    have hB : Hid (getB fs name = true) := by show _ = _; unfold getB; simpa using hin
    have hv0 := hv
    rcases hv0 with ⟨oa, ca, rfl, _, rfl, rfl⟩ | ⟨g, cap, rfl, hp, row⟩
    · simp at hin
    · obtain ⟨k, hk⟩ : ∃ k, k = atF fs name := ⟨_, rfl⟩
      rw [← hk] at hI hV hin
      have hc := row.val k (by omega)
      have hlt : (k : Int) < (n : Int) := by omega
      clear hk
      go_enter Try.func48, Try.ntmps48
      go_wp2_with fail
      refine (l2At_any _ n base fs name _ hv hn).mono ?_
      rintro e w1 ⟨rfl, rfl⟩
      rw [hI.out]
      clear hv
      go_wp2
      go_ret2
      exact ⟨by rw [hV.out, hB.out]; rfl, rfl⟩
  · have hI : Hid (atI fs name = -1) := by show _ = _; unfold atI; rw [if_neg hin]
    have hV : Hid (getV fs name = ⟨#[]⟩) := by show _ = _; unfold getV; rw [if_neg hin]
    have hB : Hid (getB fs name = false) := by show _ = _; unfold getB; simpa using hin
    go_enter Try.func48, Try.ntmps48
    go_wp2_with fail
    refine (l2At_any v n base fs name _ hv hn).mono ?_
    rintro e w1 ⟨rfl, rfl⟩
    rw [hI.out]
    clear hv
    go_wp2
    go_ret2
    exact ⟨by rw [hV.out, hB.out]; rfl, rfl⟩

/-- The text of the first k fields. -/
def ftTo (fs : List (ByteArray × ByteArray)) : Nat → ByteArray
  | 0 => ⟨#[]⟩
  | k + 1 => ftTo fs k ++ nameAt fs k ++ ⟨#[58, 32]⟩ ++ valAt fs k ++ ⟨#[13, 10]⟩
def fieldsText (fs : List (ByteArray × ByteArray)) : ByteArray := ftTo fs fs.length
/-- What the chapter asks of fields. -/
def FldsOk (fs : List (ByteArray × ByteArray)) : Prop :=
  fs.length ≤ 8 ∧ ∀ i, i < fs.length → TokOk (nameAt fs i) ∧ ValOk (valAt fs i) ∧ atF fs (nameAt fs i) = i ∧ nameAt fs i ≠ ⟨#[99, 111, 110, 116, 101, 110, 116, 45, 108, 101, 110, 103, 116, 104]⟩
def clen : ByteArray := ⟨#[99, 111, 110, 116, 101, 110, 116, 45, 108, 101, 110, 103, 116, 104]⟩
def FldOk (fs : List (ByteArray × ByteArray)) (i : Nat) : Prop := TokOk (nameAt fs i) ∧ ValOk (valAt fs i) ∧ atF fs (nameAt fs i) = i ∧ nameAt fs i ≠ clen
theorem clen_list : clen.toList = [99, 111, 110, 116, 101, 110, 116, 45, 108, 101, 110, 103, 116, 104] := by rw [ByteArray.toList_eq]; rfl
theorem text_beq_no {a b : ByteArray} (h : a ≠ b) : (a.toList == b.toList) = false := by
  rcases Bool.eq_false_or_eq_true (a.toList == b.toList) with h1 | h1
  · exact absurd ((text_beq _ _).1 h1) h
  · exact h1

set_option maxHeartbeats 2000000 in
theorem specFieldsOk_any (v : Value) (n base : Nat) (fs : List (ByteArray × ByteArray)) (w : World) (hv : FieldsV w base v n fs) (hn : n ≤ 1073741824) (hsz : ∀ i, i < n → (nameAt fs i).size ≤ maxLen ∧ (valAt fs i).size ≤ maxLen) :
    Calls Try.prog 82 #[v] w fun e w' => BoolIs (FldsOk fs) w e w' := by
  have hl := hv.len
  have HV : Hid (FieldsV w base v n fs) := hv
  have HS : Hid (∀ i, i < n → (nameAt fs i).size ≤ maxLen ∧ (valAt fs i).size ≤ maxLen) := hsz
  clear hsz
  rcases hv with ⟨oa, ca, rfl, _, rfl, rfl⟩ | ⟨g, cap, rfl, hp, row⟩
  · have hT : Hid (FldsOk []) := ⟨by simp, fun i hi => absurd hi (by simp)⟩
    clear HV HS
    go_enter Try.func82, Try.ntmps82
    go_wp2
    refine wp_loop_rounds 1 ?_
    rw [rounds_succ]
    go_wp2
    go_ret
    exact BoolIs.yes hT.out (Below.refl _ _)
  · go_enter Try.func82, Try.ntmps82
    go_wp2
    go_loopw [3] (fun i wr => ∃ k : Nat, k ≤ n ∧ i = .int .i64 (k : Int) ∧ Hid (∀ j, j < k → FldOk fs j) ∧ Below w.heap.size w wr) (fun i _ => n - (intOf i).toNat)
    case atStart => exact ⟨0, Nat.zero_le _, rfl, fun j h => absurd h (by omega), Below.refl _ _⟩
    case round =>
      obtain ⟨k, hk, rfl, hall, hbw⟩ := hrel
      by_cases hlt : k < n
      · have hlt2 : (k : Int) < (n : Int) := by omega
        obtain ⟨hs1, hs2⟩ := HS.out k hlt
        obtain ⟨nm, hnm⟩ : ∃ x, x = nameAt fs k := ⟨_, rfl⟩
        obtain ⟨vl, hvl⟩ : ∃ x, x = valAt fs k := ⟨_, rfl⟩
        have HR : Hid (∀ W, Below w.heap.size w W → W.cell? ⟨g, k * 2, none⟩ = some (.string nm) ∧ W.cell? ⟨g, k * 2 + 1, none⟩ = some (.string vl)) := fun W h => by
          rw [hnm, hvl]; exact ⟨(row.below h row.lt).name k hlt, (row.below h row.lt).val k hlt⟩
        have HO : Hid (FldOk fs k ↔ TokOk nm ∧ ValOk vl ∧ atF fs nm = k ∧ nm ≠ clen) := by rw [hnm, hvl]; exact Iff.rfl
        have HNO : Hid (¬ (TokOk nm ∧ ValOk vl ∧ atF fs nm = k ∧ nm ≠ clen) → ¬ FldsOk fs) := fun h hf => h (HO.out.1 (hf.2 k (by omega)))
        have hatle : atF fs nm ≤ k := by
          rcases Nat.lt_or_ge k (atF fs nm) with h | h
          · exact absurd hnm.symm (atF_before fs nm k h)
          · exact h
        have hI : Hid (atI fs nm = (atF fs nm : Int)) := by show _ = _; unfold atI; rw [if_pos (by omega)]
        rw [← hnm] at hs1
        rw [← hvl] at hs2
        obtain ⟨c1, c2⟩ := HR.out wr hbw
        clear hnm hvl
        go_wp2_with fail
        refine (specTokenOk_any nm _ hs1).mono ?_
        rintro e w1 ⟨b1, rfl, kb1, bb1⟩
        have hb1 : Below w.heap.size w w1 := hbw.trans (bb1.mono hbw.size)
        obtain ⟨c1a, c2a⟩ := HR.out w1 hb1
        cases b1
        · have HF : Hid (¬ FldsOk fs) := HNO.out (fun h => by have := kb1.2 h.1; cases this)
          clear kb1 c1 c2 bb1
          go_wp2_with fail
          go_ret
          exact BoolIs.no HF.out hb1
        · have HT : Hid (TokOk nm) := kb1.1 rfl
          clear kb1 c1 c2 bb1
          go_wp2_with fail
          refine (specValueOk_any vl _ hs2).mono ?_
          rintro e w2 ⟨b2, rfl, kb2, bb2⟩
          have hb2 : Below w.heap.size w w2 := hb1.trans (bb2.mono hb1.size)
          obtain ⟨c1b, c2b⟩ := HR.out w2 hb2
          cases b2
          · have HF : Hid (¬ FldsOk fs) := HNO.out (fun h => by have := kb2.2 h.2.1; cases this)
            clear kb2 c1a c2a bb2
            go_wp2_with fail
            go_ret
            exact BoolIs.no HF.out hb2
          · have HT2 : Hid (ValOk vl) := kb2.1 rfl
            clear kb2 c1a c2a bb2
            go_wp2_with fail
            refine (l2At_any _ n base fs nm _ (HV.out.below hb2) hn).mono ?_
            rintro e w3 ⟨rfl, rfl⟩
            rw [hI.out]
            by_cases hat : atF fs nm = k
            · have hne : ((atF fs nm : Int) != (k : Int)) = false := by rw [bne_eq_false_iff_eq]; omega
              have HAT : Hid (atF fs nm = k) := hat
              clear hat
              by_cases hcl : nm = clen
              · have ht := (text_beq _ _).2 hcl
                rw [clen_list] at ht
                have HF : Hid (¬ FldsOk fs) := HNO.out (fun h => h.2.2.2 hcl)
                clear hcl
                go_wp2
                go_ret
                exact BoolIs.no HF.out hb2
              · have ht := text_beq_no hcl
                rw [clen_list] at ht
                have HY : Hid (FldOk fs k) := HO.out.2 ⟨HT.out, HT2.out, HAT.out, hcl⟩
                clear hcl
                go_wp2
                go_roundw
                case rel =>
                  refine ⟨k + 1, by omega, by go_num, ?_, hb2⟩
                  intro j hj
                  by_cases e : j = k
                  · subst e; exact HY.out
                  · exact hall.out j (by omega)
                case measure => simp [intOf]; omega
            · have hne : ((atF fs nm : Int) != (k : Int)) = true := by rw [bne_iff_ne]; omega
              have HF : Hid (¬ FldsOk fs) := HNO.out (fun h => hat h.2.2.1)
              clear hat
              go_wp2
              go_ret
              exact BoolIs.no HF.out hb2
      · by_cases h8 : (n : Int) ≤ 8
        · have HF : Hid (FldsOk fs) := ⟨by omega, fun i hi => hall.out i (by omega)⟩
          go_wp2
          go_ret
          exact BoolIs.yes HF.out hbw
        · have HF : Hid (¬ FldsOk fs) := fun h => by have := h.1; omega
          go_wp2
          go_ret
          exact BoolIs.no HF.out hbw

end Go.Proofs.Ythlmnmbhgkmbfaa

namespace Go.Proofs.Ythlmnmbhgkmbfaa
open Go.RowKit

def PathB (n : Int) : Prop := 33 ≤ n ∧ n ≤ 126
def PathOk (s : ByteArray) : Prop := AllB PathB s ∧ 1 ≤ s.size ∧ s.size ≤ 60 ∧ ∃ h : 0 < s.size, (s[0]'h).toNat = 47
def ReqP (m : Int) (path : ByteArray) (fs : List (ByteArray × ByteArray)) (body : ByteArray) : Prop := (1 ≤ m ∧ m ≤ 4) ∧ PathOk path ∧ FldsOk fs ∧ body.size ≤ 120
def RespP (st : Int) (fs : List (ByteArray × ByteArray)) (body : ByteArray) : Prop := (100 ≤ st ∧ st ≤ 599) ∧ FldsOk fs ∧ body.size ≤ 120

def methB (m : Int) : ByteArray := if m = 1 then ⟨#[71, 69, 84]⟩ else if m = 2 then ⟨#[72, 69, 65, 68]⟩ else if m = 3 then ⟨#[80, 79, 83, 84]⟩ else if m = 4 then ⟨#[80, 85, 82, 71, 69]⟩ else ⟨#[]⟩
def httpEnd : ByteArray := ⟨#[32, 72, 84, 84, 80, 47, 49, 46, 49, 13, 10]⟩
def clenK : ByteArray := ⟨#[99, 111, 110, 116, 101, 110, 116, 45, 108, 101, 110, 103, 116, 104, 58, 32]⟩
def lnE : ByteArray := ⟨#[13, 10]⟩
/-- What a request's text is, right or not. -/
def reqHead (m : Int) (path : ByteArray) (fs : List (ByteArray × ByteArray)) : ByteArray := methB m ++ ⟨#[32]⟩ ++ path ++ httpEnd ++ fieldsText fs
def reqT (m : Int) (path : ByteArray) (fs : List (ByteArray × ByteArray)) (body : ByteArray) : ByteArray :=
  (if body.size = 0 then reqHead m path fs else reqHead m path fs ++ clenK ++ numText body.size ++ lnE) ++ lnE ++ body
/-- The text is that of this right request. -/
def IsReq (s : ByteArray) (m : Int) (path : ByteArray) (fs : List (ByteArray × ByteArray)) (body : ByteArray) : Prop := ReqP m path fs body ∧ reqT m path fs body = s
def bs (s : ByteArray) : List UInt8 := s.data.toList
theorem bs_append (a b : ByteArray) : bs (a ++ b) = bs a ++ bs b := by simp [bs]
theorem bs_inj {a b : ByteArray} (h : bs a = bs b) : a = b := by
  apply ByteArray.ext
  exact Array.toList_inj.1 h
theorem bs_len (a : ByteArray) : (bs a).length = a.size := by simp [bs]
theorem bs_all {p : Int → Prop} {s : ByteArray} (h : AllB p s) : ∀ b ∈ bs s, p (b.toNat : Int) := mem_byte (p := fun b => p (b.toNat : Int)) h

/-- The lines of a head and what is behind it. -/
def headL (out : List (List UInt8)) (cur : List UInt8) : List UInt8 → List (List UInt8) × Option (List UInt8)
  | [] => (out, none)
  | [_] => (out, none)
  | c :: d :: r => if c = 13 ∧ d = 10 then (if cur = [] then (out, some r) else headL (out ++ [cur]) [] r) else headL out (cur ++ [c]) (d :: r)
/-- What stands between blanks. -/
def wordsL (out : List (List UInt8)) (cur : List UInt8) : List UInt8 → List (List UInt8)
  | [] => out ++ [cur]
  | c :: r => if c = 32 then wordsL (out ++ [cur]) [] r else wordsL out (cur ++ [c]) r
/-- A line cut at its first colon with a blank behind it. -/
def fieldL (cur : List UInt8) : List UInt8 → Option (List UInt8 × List UInt8)
  | [] => none
  | [_] => none
  | c :: d :: r => if c = 58 ∧ d = 32 then some (cur, r) else fieldL (cur ++ [c]) (d :: r)
def clenL : List UInt8 := [99, 111, 110, 116, 101, 110, 116, 45, 108, 101, 110, 103, 116, 104]
def fieldsL : List (List UInt8) → List (List UInt8 × List UInt8)
  | [] => []
  | l :: r => match fieldL [] l with
    | some f => if f.1 = clenL then fieldsL r else f :: fieldsL r
    | none => fieldsL r

theorem head_line (out : List (List UInt8)) (line rest : List UInt8) (h13 : ∀ b ∈ line, b ≠ 13) : ∀ cur, cur ++ line ≠ [] → headL out cur (line ++ 13 :: 10 :: rest) = headL (out ++ [cur ++ line]) [] rest := by
  induction line with
  | nil =>
    intro cur hne
    simp only [List.append_nil] at hne
    simp [headL, hne]
  | cons c r ih =>
    intro cur _
    have hc : c ≠ 13 := h13 c (by simp)
    have ih := ih (fun b hb => h13 b (by simp [hb])) (cur ++ [c]) (by simp)
    rw [List.append_assoc] at ih
    cases r with
    | nil =>
      simp only [List.cons_append, List.nil_append] at ih ⊢
      rw [headL, if_neg (fun h => hc h.1), ih]
    | cons d r =>
      simp only [List.cons_append, List.nil_append] at ih ⊢
      rw [headL, if_neg (fun h => hc h.1), ih]
theorem head_lines (body : List UInt8) (lines : List (List UInt8)) (h : ∀ l ∈ lines, l ≠ [] ∧ ∀ b ∈ l, b ≠ 13) : ∀ out, headL out [] (lines.flatMap (fun l => l ++ [13, 10]) ++ 13 :: 10 :: body) = (out ++ lines, some body) := by
  induction lines with
  | nil => intro out; simp [headL]
  | cons l r ih =>
    intro out
    have hl := h l (by simp)
    have e : (l :: r).flatMap (fun l => l ++ [13, 10]) ++ 13 :: 10 :: body = l ++ 13 :: 10 :: (r.flatMap (fun l => l ++ [13, 10]) ++ 13 :: 10 :: body) := by simp
    rw [e, head_line out l _ hl.2 [] (by simpa using hl.1), ih (fun x hx => h x (by simp [hx]))]
    simp
theorem words_word (word rest : List UInt8) (h : ∀ b ∈ word, b ≠ 32) : ∀ out cur, wordsL out cur (word ++ 32 :: rest) = wordsL (out ++ [cur ++ word]) [] rest := by
  induction word with
  | nil => intro out cur; simp [wordsL]
  | cons c r ih =>
    intro out cur
    rw [List.cons_append, wordsL, if_neg (h c (by simp)), ih (fun b hb => h b (by simp [hb]))]
    simp
theorem words_last (word : List UInt8) (h : ∀ b ∈ word, b ≠ 32) : ∀ out cur, wordsL out cur word = out ++ [cur ++ word] := by
  induction word with
  | nil => intro out cur; simp [wordsL]
  | cons c r ih =>
    intro out cur
    rw [wordsL, if_neg (h c (by simp)), ih (fun b hb => h b (by simp [hb]))]
    simp
theorem field_cut (nm vl : List UInt8) (h : ∀ b ∈ nm, b ≠ 58) : ∀ cur, fieldL cur (nm ++ 58 :: 32 :: vl) = some (cur ++ nm, vl) := by
  induction nm with
  | nil => intro cur; simp [fieldL]
  | cons c r ih =>
    intro cur
    have ih := ih (fun b hb => h b (by simp [hb])) (cur ++ [c])
    cases r with
    | nil =>
      simp only [List.cons_append, List.nil_append] at ih ⊢
      rw [fieldL, if_neg (fun e => h c (by simp) e.1), ih]
      simp
    | cons d r =>
      simp only [List.cons_append] at ih ⊢
      rw [fieldL, if_neg (fun e => h c (by simp) e.1), ih]
      simp

def fieldLine (f : ByteArray × ByteArray) : List UInt8 := bs f.1 ++ 58 :: 32 :: bs f.2
def clenLine (n : Nat) : List UInt8 := clenL ++ 58 :: 32 :: numL n
theorem flds_mem {fs : List (ByteArray × ByteArray)} (h : FldsOk fs) : ∀ f ∈ fs, TokOk f.1 ∧ ValOk f.2 ∧ f.1 ≠ clen := by
  intro f hf
  obtain ⟨i, hi, rfl⟩ := List.getElem_of_mem hf
  have := h.2 i hi
  have e : (nameAt fs i, valAt fs i) = fs[i] := by
    unfold nameAt valAt
    rw [List.getD_eq_getElem?_getD, List.getElem?_eq_getElem hi]
    rfl
  rw [← e]
  exact ⟨this.1, this.2.1, this.2.2.2⟩
theorem fieldsL_of {fs : List (ByteArray × ByteArray)} (tail : List (List UInt8)) (h : ∀ f ∈ fs, TokOk f.1 ∧ ValOk f.2 ∧ f.1 ≠ clen) : fieldsL (fs.map fieldLine ++ tail) = fs.map (fun f => (bs f.1, bs f.2)) ++ fieldsL tail := by
  induction fs with
  | nil => rfl
  | cons f r ih =>
    have hf := h f (by simp)
    have h58 : ∀ b ∈ bs f.1, b ≠ 58 := fun b hb e => by
      have := bs_all hf.1.2.2 b hb
      subst e
      unfold TokB at this
      simp at this
    simp only [List.map_cons, List.cons_append, fieldsL]
    rw [show fieldL [] (fieldLine f) = some (bs f.1, bs f.2) from by have := field_cut (bs f.1) (bs f.2) h58 []; simpa [fieldLine] using this]
    simp only
    rw [if_neg (fun e => hf.2.2 (bs_inj (by rw [e]; rfl))), ih (fun x hx => h x (by simp [hx]))]
theorem fieldsL_clen (n : Nat) : fieldsL [clenLine n] = [] := by
  have h58 : ∀ b ∈ clenL, b ≠ 58 := by decide
  simp only [fieldsL]
  rw [show fieldL [] (clenLine n) = some (clenL, numL n) from by have := field_cut clenL (numL n) h58 []; simpa [clenLine] using this]
  simp
theorem bs_ft (fs : List (ByteArray × ByteArray)) : ∀ k, k ≤ fs.length → bs (ftTo fs k) = ((fs.take k).map fieldLine).flatMap (fun l => l ++ [13, 10]) := by
  intro k
  induction k with
  | zero => intro _; rfl
  | succ k ih =>
    intro hk
    have e : (nameAt fs k, valAt fs k) = fs[k]'(by omega) := by
      unfold nameAt valAt
      rw [List.getD_eq_getElem?_getD, List.getElem?_eq_getElem (by omega)]
      rfl
    have ht : fs.take (k + 1) = fs.take k ++ [fs[k]'(by omega)] := (List.take_append_getElem (by omega)).symm
    rw [ftTo, ht, ← e]
    simp only [bs_append, ih (by omega), List.map_append, List.flatMap_append, List.map_cons, List.map_nil, List.flatMap_cons, List.flatMap_nil, fieldLine]
    simp [bs]
theorem bs_fields (fs : List (ByteArray × ByteArray)) : bs (fieldsText fs) = (fs.map fieldLine).flatMap (fun l => l ++ [13, 10]) := by
  have := bs_ft fs fs.length (Nat.le_refl _)
  rw [List.take_length] at this
  exact this

def httpL : List UInt8 := [72, 84, 84, 80, 47, 49, 46, 49]
def reqLine (m : Int) (path : ByteArray) : List UInt8 := bs (methB m) ++ 32 :: (bs path ++ 32 :: httpL)
theorem bs_num (n : Nat) : bs (numText n) = numL n := rfl
theorem bs_reqT (m : Int) (path : ByteArray) (fs : List (ByteArray × ByteArray)) (body : ByteArray) : bs (reqT m path fs body) = (reqLine m path :: (fs.map fieldLine ++ (if body.size = 0 then [] else [clenLine body.size]))).flatMap (fun l => l ++ [13, 10]) ++ 13 :: 10 :: bs body := by
  unfold reqT reqHead
  by_cases h : body.size = 0
  · rw [if_pos h, if_pos h]
    simp only [bs_append, bs_fields, List.flatMap_cons, List.append_nil, reqLine]
    simp [bs, httpEnd, lnE, httpL]
  · rw [if_neg h, if_neg h]
    simp only [bs_append, bs_fields, bs_num, List.flatMap_cons, List.flatMap_append, List.flatMap_nil, reqLine, clenLine]
    simp [bs, httpEnd, lnE, httpL, clenK, clenL]
theorem numL_dig (n : Nat) (h : n ≤ 1000000) : numL n ≠ [] ∧ ∀ b ∈ numL n, DigB b := by
  unfold numL
  rw [if_neg (by omega)]
  by_cases h0 : n = 0
  · rw [if_pos h0]
    refine ⟨by simp, ?_⟩
    intro b hb
    simp at hb
    subst hb
    unfold DigB; decide
  · rw [if_neg h0]
    have hf := dg_facts 8 n (by omega)
    refine ⟨fun e => ?_, hf.2.2⟩
    have h2 := hf.2.1
    rw [e] at h2
    exact h0 h2.symm
theorem line_field {f : ByteArray × ByteArray} (h : TokOk f.1 ∧ ValOk f.2 ∧ f.1 ≠ clen) : fieldLine f ≠ [] ∧ ∀ b ∈ fieldLine f, b ≠ 13 := by
  refine ⟨by simp [fieldLine], ?_⟩
  intro b hb e
  subst e
  simp only [fieldLine, List.mem_append, List.mem_cons] at hb
  rcases hb with hb | hb | hb | hb
  · have := bs_all h.1.2.2 _ hb
    unfold TokB at this
    simp at this
  · exact absurd hb (by decide)
  · exact absurd hb (by decide)
  · have := bs_all h.2.1.2.2.1 _ hb
    unfold ValB at this
    simp at this
theorem line_clen (n : Nat) (h : n ≤ 1000000) : clenLine n ≠ [] ∧ ∀ b ∈ clenLine n, b ≠ 13 := by
  refine ⟨by simp [clenLine], ?_⟩
  intro b hb e
  subst e
  simp only [clenLine, List.mem_append, List.mem_cons] at hb
  rcases hb with hb | hb | hb | hb
  · exact absurd hb (by decide)
  · exact absurd hb (by decide)
  · exact absurd hb (by decide)
  · have := (numL_dig n h).2 _ hb
    unfold DigB at this
    simp at this
theorem meth_cases {m : Int} (h : 1 ≤ m ∧ m ≤ 4) : m = 1 ∨ m = 2 ∨ m = 3 ∨ m = 4 := by omega
theorem meth_bytes {m : Int} (h : 1 ≤ m ∧ m ≤ 4) : bs (methB m) ≠ [] ∧ ∀ b ∈ bs (methB m), b ≠ 13 ∧ b ≠ 32 := by
  rcases meth_cases h with rfl | rfl | rfl | rfl
  all_goals (constructor <;> decide)
theorem line_req {m : Int} {path : ByteArray} (h : 1 ≤ m ∧ m ≤ 4) (hp : PathOk path) : reqLine m path ≠ [] ∧ ∀ b ∈ reqLine m path, b ≠ 13 := by
  refine ⟨by simp [reqLine], ?_⟩
  intro b hb e
  subst e
  simp only [reqLine, List.mem_append, List.mem_cons] at hb
  rcases hb with hb | hb | hb | hb | hb
  · exact ((meth_bytes h).2 _ hb).1 rfl
  · exact absurd hb (by decide)
  · have := bs_all hp.1 _ hb
    unfold PathB at this
    simp at this
  · exact absurd hb (by decide)
  · exact absurd hb (by decide)
/-- What is read of a right request's text: its lines, what is behind them. -/
theorem req_head {s : ByteArray} {m : Int} {path : ByteArray} {fs : List (ByteArray × ByteArray)} {body : ByteArray} (h : IsReq s m path fs body) :
    headL [] [] (bs s) = (reqLine m path :: (fs.map fieldLine ++ (if body.size = 0 then [] else [clenLine body.size])), some (bs body)) := by
  obtain ⟨⟨hm, hp, hf, hb⟩, rfl⟩ := h
  rw [bs_reqT, head_lines]
  · rfl
  · intro l hl
    simp only [List.mem_cons, List.mem_append, List.mem_map] at hl
    rcases hl with rfl | ⟨f, hf1, rfl⟩ | hl
    · exact line_req hm hp
    · exact line_field (flds_mem hf f hf1)
    · by_cases h0 : body.size = 0
      · rw [if_pos h0] at hl; simp at hl
      · rw [if_neg h0] at hl
        simp at hl
        subst hl
        exact line_clen _ (by omega)
theorem req_words {m : Int} {path : ByteArray} (h : 1 ≤ m ∧ m ≤ 4) (hp : PathOk path) : wordsL [] [] (reqLine m path) = [bs (methB m), bs path, httpL] := by
  unfold reqLine
  rw [words_word _ _ (fun b hb => ((meth_bytes h).2 b hb).2), words_word _ _ (fun b hb e => by
    have := bs_all hp.1 b hb
    subst e
    unfold PathB at this
    simp at this), words_last _ (by decide)]
  rfl
theorem req_fields {fs : List (ByteArray × ByteArray)} (h : FldsOk fs) (n : Nat) : fieldsL (fs.map fieldLine ++ (if n = 0 then [] else [clenLine n])) = fs.map (fun f => (bs f.1, bs f.2)) := by
  rw [fieldsL_of _ (flds_mem h)]
  by_cases h0 : n = 0
  · rw [if_pos h0]; simp [fieldsL]
  · rw [if_neg h0, fieldsL_clen]; simp
theorem pairs_inj : ∀ {a b : List (ByteArray × ByteArray)}, a.map (fun f => (bs f.1, bs f.2)) = b.map (fun f => (bs f.1, bs f.2)) → a = b
  | [], [], _ => rfl
  | [], _ :: _, h => by simp at h
  | _ :: _, [], h => by simp at h
  | f :: r, g :: t, h => by
    simp only [List.map_cons, List.cons.injEq, Prod.mk.injEq] at h
    rw [pairs_inj h.2]
    congr 1
    exact Prod.ext (bs_inj h.1.1) (bs_inj h.1.2)
end Go.Proofs.Ythlmnmbhgkmbfaa

namespace Go.Proofs.Ythlmnmbhgkmbfaa
open Go.RowKit

theorem bs_extract (s : ByteArray) (f j : Nat) : bs (s.extract f j) = ((bs s).take j).drop f := by
  simp [bs, List.drop_take]
def bsP (f : ByteArray × ByteArray) : List UInt8 × List UInt8 := (bs f.1, bs f.2)
end Go.Proofs.Ythlmnmbhgkmbfaa

namespace Go.Proofs.Ythlmnmbhgkmbfaa
open Go.RowKit

/-- What is said of keeping. -/
structure CcD where
  ns : Bool
  nc : Bool
  pr : Bool
  mu : Bool
  ha : Bool
  age : Int
def cc0 : CcD := ⟨false, false, false, false, false, 0⟩
def CcD.v (c : CcD) : Value := .agg #[.bool c.ns, .bool c.nc, .bool c.pr, .bool c.mu, .bool c.ha, .int .i64 c.age]
end Go.Proofs.Ythlmnmbhgkmbfaa

namespace Go.Proofs.Ythlmnmbhgkmbfaa
open Go.RowKit
open Go.Lib hiding intOf

def varyName : ByteArray := ⟨#[118, 97, 114, 121]⟩
/-- A list of texts that is read. -/
def TextsA (w : World) (oa : Option Addr) (n : Nat) (xs : List ByteArray) : Prop :=
  xs.length = n ∧ ∀ i, i < n → ∃ g, oa = some ⟨g, 0, none⟩ ∧ g < w.heap.size ∧ w.cell? ⟨g, i, none⟩ = some (.string (textAt xs i))
theorem TextsA.below {w w' : World} {oa : Option Addr} {n : Nat} {xs : List ByteArray} (h : TextsA w oa n xs) (hb : Below w.heap.size w w') : TextsA w' oa n xs :=
  ⟨h.1, fun i hi => by
    obtain ⟨g, h1, h2, h3⟩ := h.2 i hi
    exact ⟨g, h1, Nat.lt_of_lt_of_le h2 hb.size, by rw [hb.cell (p := ⟨g, i, none⟩) h2]; exact h3⟩⟩
end Go.Proofs.Ythlmnmbhgkmbfaa

namespace Go.Proofs.Ythlmnmbhgkmbfaa
open Go.RowKit

def hxB (d : Nat) : UInt8 := UInt8.ofNat (if d < 10 then 48 + d else 87 + d)
def hxF : Nat → Nat → List UInt8
  | 0, _ => []
  | f + 1, n => if n = 0 then [] else hxF f (n / 16) ++ [hxB (n % 16)]
theorem hxF_zero (f : Nat) : hxF f 0 = [] := by cases f <;> simp [hxF]
theorem hxF_pos (f n : Nat) (h : n ≠ 0) : hxF (f + 1) n = hxF f (n / 16) ++ [hxB (n % 16)] := by simp [hxF, h]
def hexL (n : Nat) : List UInt8 := if 1000000 < n then [] else if n = 0 then [48] else hxF 5 n
abbrev HexB (b : UInt8) : Prop := (48 ≤ b.toNat ∧ b.toNat ≤ 57) ∨ (97 ≤ b.toNat ∧ b.toNat ≤ 102)
def hexV (b : UInt8) : Nat := if b.toNat ≤ 57 then b.toNat - 48 else b.toNat - 87
theorem hxB_facts (d : Nat) (h : d < 16) : HexB (hxB d) ∧ hexV (hxB d) = d ∧ (d ≠ 0 → hxB d ≠ 48) := by
  have : ∀ d : Fin 16, HexB (hxB d.1) ∧ hexV (hxB d.1) = d.1 ∧ (d.1 ≠ 0 → hxB d.1 ≠ 48) := by decide
  exact this ⟨d, h⟩
def hexVal (l : List UInt8) : Nat := l.foldl (fun v b => 16 * v + hexV b) 0
theorem hexVal_snoc (l : List UInt8) (b : UInt8) : hexVal (l ++ [b]) = 16 * hexVal l + hexV b := by simp [hexVal]
theorem hx_facts : ∀ (f n : Nat), n < 16 ^ f → (∀ b ∈ hxF f n, HexB b) ∧ hexVal (hxF f n) = n ∧ (∀ b, (hxF f n).head? = some b → b ≠ 48) ∧ (n ≠ 0 → hxF f n ≠ []) := by
  intro f
  induction f with
  | zero => intro n h; simp at h; subst h; simp [hxF, hexVal]
  | succ f ih =>
    intro n h
    by_cases h0 : n = 0
    · subst h0; rw [hxF_zero]; simp [hexVal]
    · rw [Nat.pow_succ] at h
      obtain ⟨h1, h2, h3, h4⟩ := ih (n / 16) (by omega)
      have hd := hxB_facts (n % 16) (by omega)
      rw [hxF_pos f n h0]
      refine ⟨fun b hb => ?_, ?_, fun b hb => ?_, fun _ => by simp⟩
      · simp only [List.mem_append, List.mem_singleton] at hb
        rcases hb with hb | rfl
        · exact h1 b hb
        · exact hd.1
      · rw [hexVal_snoc, h2, hd.2.1]; omega
      · by_cases hz : n / 16 = 0
        · rw [hz, hxF_zero] at hb
          simp at hb
          subst hb
          exact hd.2.2 (by omega)
        · have hne := h4 hz
          obtain ⟨c, r, hc⟩ : ∃ c r, hxF f (n / 16) = c :: r := by
            cases hx : hxF f (n / 16) with
            | nil => exact absurd hx hne
            | cons c r => exact ⟨c, r, rfl⟩
          rw [hc] at hb h3
          simp at hb h3
          rw [← hb]; exact h3
theorem hx_len : ∀ (f n k : Nat), n < 16 ^ k → (hxF f n).length ≤ k := by
  intro f
  induction f with
  | zero => intro n k _; simp [hxF]
  | succ f ih =>
    intro n k h
    by_cases h0 : n = 0
    · subst h0; rw [hxF_zero]; simp
    · cases k with
      | zero => simp at h; omega
      | succ k =>
        rw [Nat.pow_succ] at h
        have := ih (n / 16) k (by omega)
        rw [hxF_pos f n h0]
        simp; omega
/-- A length that may begin a part: one to four digits, no needless nought. -/
theorem hex_head (n : Nat) (h : n < 65536) : 1 ≤ (hexL n).length ∧ (hexL n).length ≤ 4 ∧ (∀ b ∈ hexL n, HexB b) ∧ hexVal (hexL n) = n ∧ (1 < (hexL n).length → ∀ b, (hexL n).head? = some b → b ≠ 48) := by
  unfold hexL
  rw [if_neg (by omega)]
  by_cases h0 : n = 0
  · rw [if_pos h0, h0]
    refine ⟨by simp, by simp, ?_, rfl, by simp⟩
    intro b hb
    simp at hb
    subst hb
    decide
  · rw [if_neg h0]
    obtain ⟨h1, h2, h3, h4⟩ := hx_facts 5 n (by omega)
    have hl := hx_len 5 n 4 (by omega)
    refine ⟨?_, hl, h1, h2, fun _ => h3⟩
    cases hx : hxF 5 n with
    | nil => exact absurd hx (h4 h0)
    | cons c r => simp

/-- A line's end held against what stands there: 0 it is one, 1 it may become one, 2 it is none. -/
def lineC : List UInt8 → Int
  | [] => 1
  | [c] => if c = 13 then 1 else 2
  | c :: d :: _ => if c = 13 ∧ d = 10 then 0 else 2
def digN : Nat → List UInt8 → Nat
  | 0, _ => 0
  | _ + 1, [] => 0
  | f + 1, c :: r => if HexB c then digN f r + 1 else 0
theorem digN_le : ∀ (f : Nat) (r : List UInt8), digN f r ≤ f ∧ digN f r ≤ r.length
  | 0, _ => by simp [digN]
  | _ + 1, [] => by simp [digN]
  | f + 1, c :: r => by
    have := digN_le f r
    unfold digN
    split
    · simp; omega
    · simp
theorem digN_hex : ∀ (f : Nat) (r : List UInt8), ∀ b ∈ r.take (digN f r), HexB b
  | 0, _ => by simp [digN]
  | _ + 1, [] => by simp [digN]
  | f + 1, c :: r => by
    have := digN_hex f r
    unfold digN
    split
    · rename_i h
      intro b hb
      simp only [List.take_succ_cons, List.mem_cons] at hb
      rcases hb with rfl | hb
      · exact h
      · exact this b hb
    · simp
theorem digN_pre : ∀ (l rest : List UInt8) (f : Nat), l.length ≤ f → (∀ b ∈ l, HexB b) → (l.length = f ∨ ∀ c r, rest = c :: r → ¬ HexB c) → digN f (l ++ rest) = l.length
  | [], rest, f, _, _, h => by
    rcases h with h | h
    · simp at h; subst h; simp [digN]
    · cases f with
      | zero => simp [digN]
      | succ f =>
        cases rest with
        | nil => simp [digN]
        | cons c r => simp [digN, h c r rfl]
  | b :: l, rest, f, hf, hh, h => by
    cases f with
    | zero => simp at hf
    | succ f =>
      have ih := digN_pre l rest f (by simpa using hf) (fun x hx => hh x (by simp [hx])) (by
        rcases h with h | h
        · left; simpa using h
        · right; exact h)
      simp [digN, hh b (by simp), ih]
def lenK (r : List UInt8) : Nat := digN 5 r
abbrev lenBad (r : List UInt8) : Prop := 4 < lenK r ∨ (1 < lenK r ∧ r.head? = some 48) ∨ (lenK r = 0 ∧ r ≠ [])
/-- What is told of a length and its line's end. -/
def lenC (r : List UInt8) : Int := if lenBad r then 2 else if lenK r = 0 then 1 else lineC (r.drop (lenK r))
def lenN (r : List UInt8) : Nat := hexVal (r.take (lenK r))
theorem lineC_zero {r : List UInt8} (h : lineC r = 0) : ∃ t, r = 13 :: 10 :: t := by
  match r with
  | [] => simp [lineC] at h
  | [c] => simp only [lineC] at h; split at h <;> simp at h
  | c :: d :: t =>
    simp only [lineC] at h
    split at h
    · rename_i e; exact ⟨t, by rw [e.1, e.2]⟩
    · simp at h
theorem lineC_vals (r : List UInt8) : lineC r = 0 ∨ lineC r = 1 ∨ lineC r = 2 := by
  match r with
  | [] => simp [lineC]
  | [c] => simp only [lineC]; split <;> simp
  | c :: d :: t => simp only [lineC]; split <;> simp
theorem lineC_mono {r t : List UInt8} (h : lineC r ≠ 1) : lineC (r ++ t) = lineC r := by
  match r with
  | [] => simp [lineC] at h
  | [c] =>
    by_cases e : c = 13
    · simp [lineC, e] at h
    · cases t with
      | nil => simp
      | cons d t => simp [lineC, e]
  | c :: d :: u => simp [lineC]
theorem lenC_zero {r : List UInt8} (h : lenC r = 0) : 1 ≤ lenK r ∧ lenK r ≤ 4 ∧ ¬ lenBad r ∧ ∃ t, r.drop (lenK r) = 13 :: 10 :: t := by
  unfold lenC at h
  by_cases hb : lenBad r
  · rw [if_pos hb] at h; simp at h
  · rw [if_neg hb] at h
    by_cases h0 : lenK r = 0
    · rw [if_pos h0] at h; simp at h
    · rw [if_neg h0] at h
      refine ⟨by omega, ?_, hb, lineC_zero h⟩
      unfold lenBad at hb
      omega
theorem lenC_vals (r : List UInt8) : lenC r = 0 ∨ lenC r = 1 ∨ lenC r = 2 := by
  unfold lenC
  split
  · simp
  · split
    · simp
    · exact lineC_vals _
/-- A length, and a line's end behind it. -/
theorem len_head (n : Nat) (h : n < 65536) (rest : List UInt8) (hr : ∀ c r, rest = c :: r → c = 13) : lenK (hexL n ++ rest) = (hexL n).length ∧ lenN (hexL n ++ rest) = n ∧ lenC (hexL n ++ rest) = lineC rest := by
  obtain ⟨h1, h2, h3, h4, h5⟩ := hex_head n h
  have hk : lenK (hexL n ++ rest) = (hexL n).length := digN_pre _ _ 5 (by omega) h3 (.inr (fun c r e => by rw [hr c r e]; decide))
  refine ⟨hk, ?_, ?_⟩
  · unfold lenN; rw [hk, List.take_left]; exact h4
  · unfold lenC
    rw [if_neg, hk, if_neg (by omega), List.drop_left]
    unfold lenBad
    rw [hk]
    rintro (h | ⟨h, e⟩ | ⟨h, _⟩)
    · omega
    · cases hx : hexL n with
      | nil => rw [hx] at h1; simp at h1
      | cons c r =>
        rw [hx] at e h5 h
        simp at e
        exact h5 (by simpa using h) c (by simp) e
    · omega
theorem lenK_mono {r : List UInt8} (t : List UInt8) (h : lenC r = 0) : lenK (r ++ t) = lenK r ∧ lenN (r ++ t) = lenN r ∧ lenC (r ++ t) = 0 := by
  obtain ⟨h1, h2, hb, u, hu⟩ := lenC_zero h
  have hl := digN_le 5 r
  have e : r = r.take (lenK r) ++ 13 :: 10 :: u := by rw [← hu, List.take_append_drop]
  have hlen : (r.take (lenK r)).length = lenK r := by rw [List.length_take]; unfold lenK; omega
  have hk : lenK (r ++ t) = lenK r := by
    have : r ++ t = r.take (lenK r) ++ (13 :: 10 :: u ++ t) := by rw [← List.append_assoc, ← e]
    rw [this]
    have := digN_pre (r.take (lenK r)) (13 :: 10 :: u ++ t) 5 (by omega) (digN_hex 5 r) (.inr (fun c q e => by simp at e; rw [← e.1]; decide))
    show digN 5 _ = _
    rw [this, hlen]
  refine ⟨hk, ?_, ?_⟩
  · unfold lenN; rw [hk, List.take_append_of_le_length (by unfold lenK; omega)]
  · unfold lenC
    rw [if_neg, hk, if_neg (by omega), List.drop_append_of_le_length (by unfold lenK; omega), hu]
    · simp [lineC]
    · unfold lenBad at hb ⊢
      rw [hk]
      rintro (h | ⟨h, e⟩ | ⟨h, _⟩)
      · omega
      · refine hb (.inr (.inl ⟨h, ?_⟩))
        cases r with
        | nil => simp at hl; unfold lenK at h; omega
        | cons c q => simpa using e
      · omega
theorem lenC_mono {r : List UInt8} (t : List UInt8) (h : lenC r ≠ 1) : lenC (r ++ t) = lenC r := by
  rcases lenC_vals r with h0 | h1 | h2
  · rw [(lenK_mono t h0).2.2, h0]
  · exact absurd h1 h
  · have hl := digN_le 5 r
    have hl2 := digN_le 5 (r ++ t)
    have hh := digN_hex 5 r
    have hlen : (r.take (lenK r)).length = lenK r := by rw [List.length_take]; unfold lenK; omega
    rw [h2]
    by_cases hb : lenBad r
    · have hb2 : lenBad (r ++ t) := by
        have hge : lenK r ≤ lenK (r ++ t) := by
          have : ∀ (f : Nat) (a b : List UInt8), digN f a ≤ digN f (a ++ b) := by
            intro f
            induction f with
            | zero => intro a b; simp [digN]
            | succ f ih =>
              intro a b
              cases a with
              | nil => simp [digN]
              | cons c a =>
                simp only [List.cons_append, digN]
                split
                · have := ih a b; omega
                · simp
          exact this 5 r t
        rcases hb with h | ⟨h, e⟩ | ⟨h, e⟩
        · exact .inl (by omega)
        · refine .inr (.inl ⟨by omega, ?_⟩)
          cases r with
          | nil => simp at e
          | cons c q => simpa using e
        · cases r with
          | nil => exact absurd rfl e
          | cons c q =>
            have hc : ¬ HexB c := by
              intro hc
              unfold lenK at h
              simp [digN, hc] at h
            refine .inr (.inr ⟨?_, by simp⟩)
            simp [lenK, digN, hc]
      unfold lenC; rw [if_pos hb2]
    · unfold lenC at h2
      rw [if_neg hb] at h2
      by_cases h0 : lenK r = 0
      · rw [if_pos h0] at h2; simp at h2
      · rw [if_neg h0] at h2
        have hne : lineC (r.drop (lenK r)) ≠ 1 := by rw [h2]; simp
        have hk4 : lenK r ≤ 4 := by unfold lenBad at hb; omega
        -- a byte behind the digits that is no digit
        obtain ⟨c, q, hc, hnc⟩ : ∃ c q, r.drop (lenK r) = c :: q ∧ ¬ HexB c := by
          cases hd : r.drop (lenK r) with
          | nil => rw [hd] at h2; simp [lineC] at h2
          | cons c q =>
            refine ⟨c, q, rfl, fun hx => ?_⟩
            have e : r = (r.take (lenK r) ++ [c]) ++ q := by rw [List.append_assoc]; simp [← hd]
            have : ∀ (f : Nat) (l m : List UInt8), (∀ b ∈ l, HexB b) → l.length ≤ f → l.length ≤ digN f (l ++ m) := by
              intro f
              induction f with
              | zero => intro l m _ hl; simp at hl; simp [hl]
              | succ f ih =>
                intro l m hl hlf
                cases l with
                | nil => simp
                | cons x l =>
                  simp only [List.cons_append, digN, hl x (by simp), if_true, List.length_cons]
                  have := ih l m (fun b hb => hl b (by simp [hb])) (by simpa using hlf)
                  omega
            have h9 := this 5 (r.take (lenK r) ++ [c]) q (fun b hb => by
              simp only [List.mem_append, List.mem_singleton] at hb
              rcases hb with hb | rfl
              · exact hh b hb
              · exact hx) (by simp; omega)
            rw [← e] at h9
            simp [hlen] at h9
            unfold lenK at h9
            omega
        have hk : lenK (r ++ t) = lenK r := by
          have e : r ++ t = r.take (lenK r) ++ (c :: q ++ t) := by rw [← hc, ← List.append_assoc, List.take_append_drop]
          have h9 := digN_pre (r.take (lenK r)) (c :: q ++ t) 5 (by omega) hh (.inr (fun c' q' e' => by simp at e'; rw [← e'.1]; exact hnc))
          rw [← e, hlen] at h9
          exact h9
        unfold lenC
        rw [if_neg, hk, if_neg h0, List.drop_append_of_le_length (by unfold lenK; omega), lineC_mono hne, h2]
        unfold lenBad at hb ⊢
        rw [hk]
        rintro (h | ⟨h, e⟩ | ⟨h, _⟩)
        · omega
        · refine hb (.inr (.inl ⟨h, ?_⟩))
          cases r with
          | nil => simp at hc
          | cons x q => simpa using e
        · omega

end Go.Proofs.Ythlmnmbhgkmbfaa

namespace Go.Proofs.Ythlmnmbhgkmbfaa
open Go.RowKit

/-- What stands behind a length and its line's end; what stands behind the part's bytes. -/
def rdA (r : List UInt8) : List UInt8 := r.drop (lenK r + 2)
def rdB (r : List UInt8) : List UInt8 := (rdA r).drop (lenN r)
/-- What is told of a text from a place on; none: not told within so many parts. -/
def rdF : Nat → List UInt8 → List UInt8 → Nat → Option (List UInt8 × Nat × Int)
  | 0, _, _, _ => none
  | f + 1, r, body, pos =>
    if lenC r ≠ 0 then some ([], 0, lenC r)
    else if 120 < body.length + lenN r then some ([], 0, 3)
    else if (rdA r).length < lenN r then some ([], 0, 1)
    else if lineC (rdB r) ≠ 0 then some ([], 0, lineC (rdB r))
    else if lenN r = 0 then some (body, pos + lenK r + 4, 0)
    else rdF f ((rdB r).drop 2) (body ++ (rdA r).take (lenN r)) (pos + lenK r + lenN r + 4)
def Rd (r body : List UInt8) (pos : Nat) (x : List UInt8 × Nat × Int) : Prop := ∃ f, rdF f r body pos = some x
theorem Rd.len {r body : List UInt8} {pos : Nat} (h : lenC r ≠ 0) : Rd r body pos ([], 0, lenC r) := ⟨1, by unfold rdF; rw [if_pos h]⟩
theorem Rd.long {r body : List UInt8} {pos : Nat} (h1 : lenC r = 0) (h2 : 120 < body.length + lenN r) : Rd r body pos ([], 0, 3) := ⟨1, by unfold rdF; rw [if_neg (by simp [h1]), if_pos h2]⟩
theorem Rd.short {r body : List UInt8} {pos : Nat} (h1 : lenC r = 0) (h2 : ¬ 120 < body.length + lenN r) (h3 : (rdA r).length < lenN r) : Rd r body pos ([], 0, 1) := ⟨1, by unfold rdF; rw [if_neg (by simp [h1]), if_neg h2, if_pos h3]⟩
theorem Rd.line {r body : List UInt8} {pos : Nat} (h1 : lenC r = 0) (h2 : ¬ 120 < body.length + lenN r) (h3 : ¬ (rdA r).length < lenN r) (h4 : lineC (rdB r) ≠ 0) : Rd r body pos ([], 0, lineC (rdB r)) := ⟨1, by unfold rdF; rw [if_neg (by simp [h1]), if_neg h2, if_neg h3, if_pos h4]⟩
theorem Rd.fin {r body : List UInt8} {pos : Nat} (h1 : lenC r = 0) (h2 : ¬ 120 < body.length + lenN r) (h3 : ¬ (rdA r).length < lenN r) (h4 : lineC (rdB r) = 0) (h5 : lenN r = 0) : Rd r body pos (body, pos + lenK r + 4, 0) := ⟨1, by unfold rdF; rw [if_neg (by simp [h1]), if_neg h2, if_neg h3, if_neg (by simp [h4]), if_pos h5]⟩
theorem Rd.part {r body : List UInt8} {pos : Nat} {x : List UInt8 × Nat × Int} (h1 : lenC r = 0) (h2 : ¬ 120 < body.length + lenN r) (h3 : ¬ (rdA r).length < lenN r) (h4 : lineC (rdB r) = 0) (h5 : lenN r ≠ 0) (h : Rd ((rdB r).drop 2) (body ++ (rdA r).take (lenN r)) (pos + lenK r + lenN r + 4) x) : Rd r body pos x := by
  obtain ⟨f, hf⟩ := h
  exact ⟨f + 1, by unfold rdF; rw [if_neg (by simp [h1]), if_neg h2, if_neg h3, if_neg (by simp [h4]), if_neg h5]; exact hf⟩

theorem rdA_len {r : List UInt8} (h : lenC r = 0) : lenK r + 2 ≤ r.length := by
  obtain ⟨_, _, _, t, ht⟩ := lenC_zero h
  have := congrArg List.length ht
  simp at this
  omega
/-- What is told of a text, but that there must be more, is told of it with whatever behind it. -/
theorem rdF_behind (t : List UInt8) : ∀ (f : Nat) (r body : List UInt8) (pos : Nat) (x : List UInt8 × Nat × Int), rdF f r body pos = some x → x.2.2 ≠ 1 → rdF f (r ++ t) body pos = some x := by
  intro f
  induction f with
  | zero => intro r body pos x h; simp [rdF] at h
  | succ f ih =>
    intro r body pos x h hx
    unfold rdF at h ⊢
    by_cases h1 : lenC r ≠ 0
    · rw [if_pos h1] at h
      have e := Option.some.inj h
      subst e
      have hx : lenC r ≠ 1 := hx
      rw [lenC_mono t hx, if_pos h1]
    · have h0 : lenC r = 0 := by simpa using h1
      obtain ⟨k1, k2, k3⟩ := lenK_mono t h0
      have hl := rdA_len h0
      have eA : rdA (r ++ t) = rdA r ++ t := by unfold rdA; rw [k1, List.drop_append_of_le_length hl]
      rw [if_neg h1] at h
      rw [if_neg (by simp [k3]), k1, k2, eA]
      by_cases h2 : 120 < body.length + lenN r
      · rw [if_pos h2] at h ⊢; exact h
      · rw [if_neg h2] at h ⊢
        by_cases h3 : (rdA r).length < lenN r
        · rw [if_pos h3] at h
          have e := Option.some.inj h
          subst e
          exact absurd rfl hx
        · rw [if_neg h3] at h
          have eB : rdB (r ++ t) = rdB r ++ t := by unfold rdB; rw [eA, k2, List.drop_append_of_le_length (by omega)]
          rw [if_neg (by simp; omega), eB]
          by_cases h4 : lineC (rdB r) ≠ 0
          · rw [if_pos h4] at h
            have e := Option.some.inj h
            subst e
            have hx : lineC (rdB r) ≠ 1 := hx
            rw [lineC_mono hx, if_pos h4]
          · have h40 : lineC (rdB r) = 0 := by simpa using h4
            have hne : lineC (rdB r) ≠ 1 := by rw [h40]; simp
            obtain ⟨u, hu⟩ := lineC_zero h40
            rw [if_neg h4] at h
            rw [lineC_mono hne, if_neg h4]
            by_cases h5 : lenN r = 0
            · rw [if_pos h5] at h ⊢; exact h
            · rw [if_neg h5] at h ⊢
              rw [List.drop_append_of_le_length (by rw [hu]; simp), List.take_append_of_le_length (by omega)]
              exact ih _ _ _ _ h hx
theorem Rd.behind {r body : List UInt8} {pos : Nat} {x : List UInt8 × Nat × Int} (h : Rd r body pos x) (hx : x.2.2 ≠ 1) (t : List UInt8) : Rd (r ++ t) body pos x := by
  obtain ⟨f, hf⟩ := h
  exact ⟨f, rdF_behind t f r body pos x hf hx⟩
/-- A body in parts. -/
def chunkL : List (List UInt8) → List UInt8
  | [] => [48, 13, 10, 13, 10]
  | p :: ps => hexL p.length ++ (13 :: 10 :: (p ++ (13 :: 10 :: chunkL ps)))
theorem part_head (p rest : List UInt8) (h : p.length < 65536) : lenC (hexL p.length ++ (13 :: 10 :: (p ++ rest))) = 0 ∧ lenK (hexL p.length ++ (13 :: 10 :: (p ++ rest))) = (hexL p.length).length ∧ lenN (hexL p.length ++ (13 :: 10 :: (p ++ rest))) = p.length ∧ rdA (hexL p.length ++ (13 :: 10 :: (p ++ rest))) = p ++ rest ∧ rdB (hexL p.length ++ (13 :: 10 :: (p ++ rest))) = rest := by
  obtain ⟨h1, h2, h3⟩ := len_head p.length h (13 :: 10 :: (p ++ rest)) (fun c r e => by simp at e; exact e.1.symm)
  have hA : rdA (hexL p.length ++ (13 :: 10 :: (p ++ rest))) = p ++ rest := by
    unfold rdA
    rw [h1, List.drop_append]
    simp
  refine ⟨by rw [h3]; simp [lineC], h1, h2, hA, ?_⟩
  unfold rdB
  rw [hA, h2, List.drop_left]
theorem end_head (rest : List UInt8) : lenC (48 :: 13 :: 10 :: rest) = 0 ∧ lenK (48 :: 13 :: 10 :: rest) = 1 ∧ lenN (48 :: 13 :: 10 :: rest) = 0 ∧ rdA (48 :: 13 :: 10 :: rest) = rest ∧ rdB (48 :: 13 :: 10 :: rest) = rest := by
  have := part_head [] rest (by simp)
  simpa [hexL] using this
/-- Cut short, a text of parts is not whole. -/
theorem Rd.cut : ∀ (ps : List (List UInt8)) (body : List UInt8) (pos k : Nat), (∀ p ∈ ps, p ≠ []) → body.length + ps.flatten.length ≤ 120 → k < (chunkL ps).length → Rd ((chunkL ps).take k) body pos ([], 0, 1) := by
  intro ps
  induction ps with
  | nil =>
    intro body pos k _ hb hk
    have hk5 : k < 5 := by simpa [chunkL] using hk
    have hb : body.length ≤ 120 := by simpa using hb
    rcases (show k = 0 ∨ k = 1 ∨ k = 2 ∨ k = 3 ∨ k = 4 by omega) with rfl | rfl | rfl | rfl | rfl
    · exact Rd.len (r := []) (by decide)
    · exact Rd.len (r := [48]) (by decide)
    · exact Rd.len (r := [48, 13]) (by decide)
    · obtain ⟨h1, h2, h3, h4, h5⟩ := end_head []
      have := Rd.line (body := body) (pos := pos) h1 (by rw [h3]; simpa using hb) (by rw [h3]; simp) (by rw [h5]; simp [lineC])
      rw [h5] at this
      exact this
    · obtain ⟨h1, h2, h3, h4, h5⟩ := end_head [13]
      have := Rd.line (body := body) (pos := pos) h1 (by rw [h3]; simpa using hb) (by rw [h3]; simp) (by rw [h5]; simp [lineC])
      rw [h5] at this
      exact this
  | cons p ps ih =>
    intro body pos k hp hb hk
    have hpl : 1 ≤ p.length := by
      have := hp p (by simp)
      cases p with
      | nil => exact absurd rfl this
      | cons c r => simp
    simp only [List.flatten_cons, List.length_append] at hb
    obtain ⟨g1, g2, g3, g4, g5⟩ := hex_head p.length (by omega)
    have hlen : (chunkL (p :: ps)).length = (hexL p.length).length + (p.length + (chunkL ps).length + 4) := by simp [chunkL]; omega
    by_cases c1 : k ≤ (hexL p.length).length
    · -- within the length, or at its end
      have e : (chunkL (p :: ps)).take k = (hexL p.length).take k := by
        simp only [chunkL]
        rw [List.take_append_of_le_length c1]
      rw [e]
      have hl : ((hexL p.length).take k).length = k := by rw [List.length_take]; omega
      have hK : lenK ((hexL p.length).take k) = k := by
        have := digN_pre ((hexL p.length).take k) [] 5 (by omega) (fun b hb => g3 b (List.mem_of_mem_take hb)) (.inr (fun c r e => by simp at e))
        rw [List.append_nil, hl] at this
        exact this
      have hC : lenC ((hexL p.length).take k) = 1 := by
        unfold lenC
        rw [if_neg]
        · by_cases k0 : k = 0
          · rw [if_pos (by rw [hK]; exact k0)]
          · rw [if_neg (by rw [hK]; exact k0), hK, List.drop_of_length_le (by omega)]; rfl
        · rintro (h | ⟨h, e⟩ | ⟨h, e⟩)
          · rw [hK] at h; omega
          · rw [hK] at h
            rw [List.head?_take, if_neg (by omega)] at e
            exact g5 (by omega) 48 e rfl
          · rw [hK] at h
            subst h
            simp at e
      have := Rd.len (r := (hexL p.length).take k) (body := body) (pos := pos) (by rw [hC]; simp)
      rw [hC] at this
      exact this
    · obtain ⟨j, rfl⟩ : ∃ j, k = (hexL p.length).length + 1 + j := ⟨k - (hexL p.length).length - 1, by omega⟩
      have e : (chunkL (p :: ps)).take ((hexL p.length).length + 1 + j) = hexL p.length ++ (13 :: (10 :: (p ++ (13 :: 10 :: chunkL ps))).take j) := by
        simp only [chunkL]
        rw [show (hexL p.length).length + 1 + j = (hexL p.length).length + (1 + j) by omega, List.take_length_add_append, Nat.add_comm 1 j, List.take_succ_cons]
      rw [e]
      cases j with
      | zero =>
        obtain ⟨h1, h2, h3⟩ := len_head p.length (by omega) [13] (fun c r e => by simp at e; exact e.1.symm)
        have := Rd.len (r := hexL p.length ++ [13]) (body := body) (pos := pos) (by rw [h3]; simp [lineC])
        rw [h3] at this
        simpa [lineC] using this
      | succ j =>
        rw [List.take_succ_cons]
        by_cases c2 : j < p.length
        · have e2 : (p ++ (13 :: 10 :: chunkL ps)).take j = p.take j := List.take_append_of_le_length (by omega)
          rw [e2]
          obtain ⟨h1, h2, h3⟩ := len_head p.length (by omega) (13 :: 10 :: p.take j) (fun c r e => by simp at e; exact e.1.symm)
          have hC : lenC (hexL p.length ++ (13 :: 10 :: p.take j)) = 0 := by rw [h3]; simp [lineC]
          refine Rd.short hC (by rw [h2]; omega) ?_
          unfold rdA
          rw [h1, h2, List.drop_append]
          simp
          omega
        · obtain ⟨i, rfl⟩ : ∃ i, j = p.length + i := ⟨j - p.length, by omega⟩
          have e2 : (p ++ (13 :: 10 :: chunkL ps)).take (p.length + i) = p ++ (13 :: 10 :: chunkL ps).take i := List.take_length_add_append _
          rw [e2]
          obtain ⟨h1, h2, h3, h4, h5⟩ := part_head p ((13 :: 10 :: chunkL ps).take i) (by omega)
          match i with
          | 0 =>
            have := Rd.line (body := body) (pos := pos) h1 (by rw [h3]; omega) (by rw [h3, h4]; simp) (by rw [h5]; simp [lineC])
            rw [h5] at this
            exact this
          | 1 =>
            have := Rd.line (body := body) (pos := pos) h1 (by rw [h3]; omega) (by rw [h3, h4]; simp) (by rw [h5]; simp [lineC])
            rw [h5] at this
            exact this
          | i + 2 =>
            refine Rd.part h1 (by rw [h3]; omega) (by rw [h3, h4]; simp) (by rw [h5]; simp [lineC]) (by rw [h3]; omega) ?_
            rw [h2, h3, h4, h5, List.take_left]
            have k := ih (body ++ p) (pos + (hexL p.length).length + p.length + 4) i (fun x hx => hp x (by simp [hx])) (by rw [List.length_append]; omega) (by omega)
            simpa using k

end Go.Proofs.Ythlmnmbhgkmbfaa

namespace Go.Proofs.Ythlmnmbhgkmbfaa
open Go.RowKit
open Go.Lib hiding intOf

attribute [local go_sem ↓] Go.wp_at_zero Go.wp_at_succ

/-- A list of fields that came in, in blocks below B. -/
structure ArgF (w : World) (B : Nat) (a : Option Addr) (n : Nat) (fs : List (ByteArray × ByteArray)) : Prop where
  len : fs.length = n
  get : ∀ i, i < n → ∃ b off, a = some ⟨b, off, none⟩ ∧ b < B ∧ w.cell? ⟨b, off + i * 2, none⟩ = some (.string (nameAt fs i)) ∧ w.cell? ⟨b, off + i * 2 + 1, none⟩ = some (.string (valAt fs i))
theorem ArgF.below {w w' : World} {B : Nat} {a : Option Addr} {n : Nat} {fs : List (ByteArray × ByteArray)} (h : ArgF w B a n fs) (hb : Below B w w') : ArgF w' B a n fs :=
  ⟨h.len, fun i hi => by
    obtain ⟨b, off, h1, h2, h3, h4⟩ := h.get i hi
    exact ⟨b, off, h1, h2, by rw [hb.cell (p := ⟨b, off + i * 2, none⟩) h2]; exact h3, by rw [hb.cell (p := ⟨b, off + i * 2 + 1, none⟩) h2]; exact h4⟩⟩

theorem info33 : (Try.prog.info? 68).map (fun i => (i.zero, i.size, i.bytes)) = some (some (.agg #[.string ⟨#[]⟩, .string ⟨#[]⟩]), 2, 32) := by kernel_rfl

theorem heap_set (w : World) (c o : Nat) (cs : Array Value) (t : TypeId) (fz : Nat × Nat) (v : Value) (h : w.heap[c]? = some (.cells cs t fz)) : (w.setCell ⟨c, o, none⟩ v).heap[c]? = some (.cells (cs.setIfInBounds o v) t fz) := by
  simp [World.setCell, Array.getElem?_modify, h]
/-- The first k fields of a row of 2 n cells are told. -/
def PartRow (w : World) (g n k : Nat) (fs : List (ByteArray × ByteArray)) : Prop :=
  ∃ cur, w.heap[g]? = some (.cells cur 68 (0, 0)) ∧ cur.size = n * 2 ∧ ∀ i, i < k → cur[i * 2]? = some (.string (nameAt fs i)) ∧ cur[i * 2 + 1]? = some (.string (valAt fs i))
theorem PartRow.below {w w' : World} {g n k B : Nat} {fs : List (ByteArray × ByteArray)} (h : PartRow w g n k fs) (hb : Below B w w') (hB : g < B) : PartRow w' g n k fs := by
  obtain ⟨cur, h1, h2⟩ := h
  exact ⟨cur, by rw [hb.block g hB]; exact h1, h2⟩
theorem PartRow.lt {w : World} {g n k : Nat} {fs : List (ByteArray × ByteArray)} (h : PartRow w g n k fs) : g < w.heap.size := by
  obtain ⟨cur, h1, _⟩ := h
  exact (Array.getElem?_eq_some_iff.1 h1).1
theorem PartRow.cell {w : World} {g n k : Nat} {fs : List (ByteArray × ByteArray)} (h : PartRow w g n k fs) (j : Nat) (hj : j < n * 2) : ∃ u, w.cell? ⟨g, j, none⟩ = some u := by
  obtain ⟨cur, h1, h2, _⟩ := h
  refine ⟨cur[j]'(by omega), ?_⟩
  simp only [World.cell?, h1]
  simp [show j < cur.size by omega]
theorem PartRow.frozen {w : World} {g n k : Nat} {fs : List (ByteArray × ByteArray)} (h : PartRow w g n k fs) (j : Nat) : w.frozen? ⟨g, j, none⟩ = false := by
  obtain ⟨cur, h1, _⟩ := h
  simp [World.frozen?, h1]
theorem PartRow.put {w : World} {g n k : Nat} {fs : List (ByteArray × ByteArray)} (h : PartRow w g n k fs) (hk : k < n) : PartRow ((w.setCell ⟨g, k * 2, none⟩ (.string (nameAt fs k))).setCell ⟨g, k * 2 + 1, none⟩ (.string (valAt fs k))) g n (k + 1) fs := by
  obtain ⟨cur, h1, h2, h3⟩ := h
  refine ⟨_, heap_set _ g (k * 2 + 1) _ _ _ _ (heap_set w g (k * 2) _ _ _ _ h1), by simpa using h2, ?_⟩
  intro i hi
  by_cases e : i = k
  · subst e
    refine ⟨?_, ?_⟩
    · rw [Array.getElem?_setIfInBounds_ne (by omega), Array.getElem?_setIfInBounds_self_of_lt (by omega)]
    · rw [Array.getElem?_setIfInBounds_self_of_lt (by simp; omega)]
  · have := h3 i (by omega)
    refine ⟨?_, ?_⟩
    · rw [Array.getElem?_setIfInBounds_ne (by omega), Array.getElem?_setIfInBounds_ne (by omega)]; exact this.1
    · rw [Array.getElem?_setIfInBounds_ne (by omega), Array.getElem?_setIfInBounds_ne (by omega)]; exact this.2
theorem PartRow.owns {w : World} {g n : Nat} {fs : List (ByteArray × ByteArray)} (h : PartRow w g n n fs) (hl : fs.length = n) (hm : n ≤ maxLen) {base : Nat} (hb : base ≤ g) : w.ownsRow base 68 2 (.slice (some ⟨g, 0, none⟩) n n) n (flatF fs) :=
  FieldRow.owns ⟨hl, hb, h.lt, Nat.le_refl _, hm, h⟩

theorem nameAt_set (fs : List (ByteArray × ByteArray)) (k j : Nat) (p : ByteArray × ByteArray) (hk : k < fs.length) : nameAt (fs.set k p) j = (if j = k then p.1 else nameAt fs j) ∧ valAt (fs.set k p) j = (if j = k then p.2 else valAt fs j) := by
  unfold nameAt valAt
  rw [List.getD_eq_getElem?_getD, List.getD_eq_getElem?_getD]
  by_cases e : j = k
  · subst e
    rw [if_pos rfl, if_pos rfl, List.getElem?_set_self (by omega)]
    exact ⟨rfl, rfl⟩
  · rw [if_neg e, if_neg e, List.getElem?_set_ne (by omega)]
    exact ⟨rfl, rfl⟩
/-- One field of a row stored anew. -/
theorem FieldRow.set {base : Nat} {w : World} {g n cap : Nat} {fs : List (ByteArray × ByteArray)} (h : FieldRow base w g n cap fs) (k : Nat) (hk : k < n) (a b : ByteArray) (W : World) (hW : W.heap[g]? = ((w.setCell ⟨g, k * 2, none⟩ (.string a)).setCell ⟨g, k * 2 + 1, none⟩ (.string b)).heap[g]?) (hsz : w.heap.size ≤ W.heap.size) : FieldRow base W g n cap (fs.set k (a, b)) := by
  have hl := h.len; have hle := h.le
  obtain ⟨cur, h1, h2, h3⟩ := h.heap
  have hlt := h.lt
  refine ⟨by simp [hl], h.base, by omega, h.le, h.mx, (cur.setIfInBounds (k * 2) (.string a)).setIfInBounds (k * 2 + 1) (.string b), ?_, by simpa using h2, ?_⟩
  · rw [hW]; exact heap_set _ g (k * 2 + 1) _ _ _ _ (heap_set w g (k * 2) _ _ _ _ h1)
  · intro i hi
    have hs := nameAt_set fs k i (a, b) (by omega)
    rw [hs.1, hs.2]
    by_cases e : i = k
    · subst e
      rw [if_pos rfl, if_pos rfl]
      refine ⟨?_, ?_⟩
      · rw [Array.getElem?_setIfInBounds_ne (by omega), Array.getElem?_setIfInBounds_self_of_lt (by omega)]
      · rw [Array.getElem?_setIfInBounds_self_of_lt (by simp; omega)]
    · rw [if_neg e, if_neg e]
      have := h3 i hi
      refine ⟨?_, ?_⟩
      · rw [Array.getElem?_setIfInBounds_ne (by omega), Array.getElem?_setIfInBounds_ne (by omega)]; exact this.1
      · rw [Array.getElem?_setIfInBounds_ne (by omega), Array.getElem?_setIfInBounds_ne (by omega)]; exact this.2

end Go.Proofs.Ythlmnmbhgkmbfaa

namespace Go.Proofs.Ythlmnmbhgkmbfaa
open Go.RowKit
open Go.Lib hiding intOf

set_option maxHeartbeats 1000000 in
theorem l3Path_any (s : ByteArray) (w : World) (hs : s.size ≤ maxLen) :
    Calls Try.prog 81 #[.string s] w fun e w' => BoolIs (PathOk s) w e w' := by
  unfold maxLen at hs
  go_enter Try.func81, Try.ntmps81
  go_wp2
  go_loop [3] (fun i => ∃ k : Nat, k ≤ s.size ∧ i = .int .i64 k ∧ Hid (AllTo PathB s k)) (fun i => s.size - (intOf i).toNat)
  case atStart => exact ⟨0, Nat.zero_le _, rfl, allTo_zero _ _⟩
  case round =>
    obtain ⟨k, hk, rfl, hall⟩ := hrel
    by_cases hlt : k < s.size
    · go_wp2
      all_goals first
        | (go_ret
           have hno : ¬ PathB ((s[k]'hlt).toNat : Int) := by
             unfold PathB
             omega
           exact BoolIs.no (fun h => hno (h.1 k hlt)) (Below.refl _ _))
        | (go_round
           case rel =>
             have hy : PathB ((s[k]'hlt).toNat : Int) := by
               unfold PathB
               omega
             exact ⟨k + 1, by omega, by go_num, allTo_succ hall.out hlt hy⟩
           case measure => simp [intOf]; omega)
    · have hend : Hid (AllB PathB s) := allTo_end hall.out hlt
      by_cases h1 : (1 : Int) ≤ (s.size : Int)
      · have h0 : 0 < s.size := by omega
        by_cases h2 : (s.size : Int) ≤ 60
        · by_cases h3 : ((s[0]'h0).toNat : Int) = 47
          · go_wp2
            go_ret
            exact BoolIs.yes ⟨hend.out, by omega, by omega, h0, by omega⟩ (Below.refl _ _)
          · have h4 : (((s[0]'h0).toNat : Int) == 47) = false := by rw [beq_eq_false_iff_ne]; exact h3
            go_wp2
            go_ret
            exact BoolIs.no (fun h => by obtain ⟨_, _, _, _, h5⟩ := h; omega) (Below.refl _ _)
        · go_wp2
          go_ret
          exact BoolIs.no (fun h => by obtain ⟨_, _, h5, _⟩ := h; omega) (Below.refl _ _)
      · go_wp2
        go_ret
        exact BoolIs.no (fun h => by obtain ⟨_, h5, _⟩ := h; omega) (Below.refl _ _)

/-- Texts short enough for any walk. -/
def WalkF (n : Nat) (fs : List (ByteArray × ByteArray)) : Prop := ∀ i, i < n → (nameAt fs i).size ≤ maxLen ∧ (valAt fs i).size ≤ maxLen

/-- A block that was laid last stands behind every call that keeps what was there. -/
theorem kept_new {w W : World} {o : Obj} (h : Below (w.alloc o).heap.size (w.alloc o) W) : W.heap[w.heap.size]? = some o := by
  rw [h.block _ (by simp)]; exact heap_alloc_new w _
theorem below_new {w W : World} {o : Obj} (h : Below (w.alloc o).heap.size (w.alloc o) W) : Below w.heap.size w W :=
  ((Below.refl _ w).alloc (Nat.le_refl _) o).trans (h.mono (by simp))
set_option maxHeartbeats 400000 in
theorem l1In_any (x lo hi : Int) (w : World) :
    Calls Try.prog 75 #[.int .i64 x, .int .i64 lo, .int .i64 hi] w fun e w' => e = .returned (.bool (decide (lo ≤ x ∧ x ≤ hi))) ∧ w' = w := by
  by_cases h1 : lo ≤ x
  · by_cases h2 : x ≤ hi
    · go_enter Try.func75, Try.ntmps75
      go_wp2
      go_ret
      exact ⟨by simp [h1, h2], rfl⟩
    · go_enter Try.func75, Try.ntmps75
      go_wp2
      go_ret
      exact ⟨by simp [h2], rfl⟩
  · go_enter Try.func75, Try.ntmps75
    go_wp2
    go_ret
    exact ⟨by simp; omega, rfl⟩

set_option maxHeartbeats 1000000 in
theorem specReqOk_any (m : Int) (p : ByteArray) (v : Value) (b : ByteArray) (n base : Nat) (fs : List (ByteArray × ByteArray)) (w : World) (hv : FieldsV w base v n fs) (hn : n ≤ 1073741824) (hsz : WalkF n fs) (hp : p.size ≤ maxLen) (hb : b.size ≤ maxLen) :
    Calls Try.prog 50 #[.agg #[.int .i64 m, .string p, v, .string b]] w fun e w' => BoolIs (ReqP m p fs b) w e w' := by
  obtain ⟨oa, cap, rfl, _⟩ := hv.slice
  obtain ⟨r, hr⟩ : ∃ r, r = w.heap.size := ⟨_, rfl⟩
  have HR : Hid (∀ W, Below (w.alloc (.cells #[.int .i64 m, .string p, .slice oa n cap, .string b] 26)).heap.size (w.alloc (.cells #[.int .i64 m, .string p, .slice oa n cap, .string b] 26)) W → (W.cell? ⟨r, 1, none⟩ = some (.string p) ∧ W.cell? ⟨r, 2, none⟩ = some (.slice oa n cap) ∧ W.cell? ⟨r, 3, none⟩ = some (.string b)) ∧ FieldsV W base (.slice oa n cap) n fs ∧ Below w.heap.size w W) := fun W h => by
    have hh := kept_new h
    rw [← hr] at hh
    exact ⟨⟨by simp [World.cell?, hh], by simp [World.cell?, hh], by simp [World.cell?, hh]⟩, hv.below (below_new h), below_new h⟩
  have HSZ : Hid (WalkF n fs) := hsz
  have HP : Hid (p.size ≤ maxLen) := hp
  unfold maxLen at hb
  clear hv hsz hp
  go_enter Try.func50, Try.ntmps50
  go_wp2_with fail
  refine (l1In_any m 1 4 _).mono ?_
  rintro e w1 ⟨rfl, hw1⟩
  have hb1 : Below (w.alloc (.cells #[.int .i64 m, .string p, .slice oa n cap, .string b] 26)).heap.size (w.alloc (.cells #[.int .i64 m, .string p, .slice oa n cap, .string b] 26)) w1 := by rw [hw1]; exact Below.refl _ _
  clear hw1
  rw [← hr]
  obtain ⟨⟨c1, c2, c3⟩, _, hbw1⟩ := HR.out w1 hb1
  by_cases hm : 1 ≤ m ∧ m ≤ 4
  · have e1 : decide (1 ≤ m ∧ m ≤ 4) = true := by simpa using hm
    have HM : Hid (1 ≤ m ∧ m ≤ 4) := hm
    rw [e1]
    clear hr hm e1
    go_wp2_with fail
    refine (l3Path_any p _ HP.out).mono ?_
    rintro e w2 ⟨b1, rfl, kb1, bb2⟩
    have hb2 := hb1.trans (bb2.mono hb1.size)
    clear c1 c2 c3 bb2 hb1 hbw1
    obtain ⟨⟨c1, c2, c3⟩, hv2, hbw2⟩ := HR.out w2 hb2
    have HV2 : Hid (FieldsV w2 base (.slice oa n cap) n fs) := hv2
    clear hv2
    cases b1
    · have HF : Hid (¬ ReqP m p fs b) := fun h => by have := kb1.2 h.2.1; cases this
      clear kb1
      go_wp2_with fail
      go_ret
      exact BoolIs.no HF.out hbw2
    · have HT : Hid (PathOk p) := kb1.1 rfl
      clear kb1
      go_wp2_with fail
      refine (specFieldsOk_any _ n base fs _ HV2.out hn HSZ.out).mono ?_
      rintro e w3 ⟨b2, rfl, kb2, bb3⟩
      have hb3 := hb2.trans (bb3.mono hb2.size)
      clear c1 c2 c3 bb3 hb2 hbw2
      obtain ⟨⟨c1, c2, c3⟩, _, hbw3⟩ := HR.out w3 hb3
      cases b2
      · have HF : Hid (¬ ReqP m p fs b) := fun h => by have := kb2.2 h.2.2.1; cases this
        clear kb2
        go_wp2_with fail
        go_ret
        exact BoolIs.no HF.out hbw3
      · have HT2 : Hid (FldsOk fs) := kb2.1 rfl
        clear kb2
        by_cases h120 : (b.size : Int) ≤ 120
        · have HY : Hid (ReqP m p fs b) := ⟨HM.out, HT.out, HT2.out, by omega⟩
          go_wp2_with fail
          go_ret
          exact BoolIs.yes HY.out hbw3
        · have HF : Hid (¬ ReqP m p fs b) := fun h => by have := h.2.2.2; omega
          have hd : decide ((b.size : Int) ≤ 120) = false := by simpa using h120
          go_wp2_with fail
          go_ret
          exact BoolIs.no HF.out hbw3
  · have e1 : decide (1 ≤ m ∧ m ≤ 4) = false := by simpa using hm
    have HF : Hid (¬ ReqP m p fs b) := fun h => hm h.1
    rw [e1]
    clear hr hm e1
    go_wp2_with fail
    go_ret
    exact BoolIs.no HF.out hbw1

end Go.Proofs.Ythlmnmbhgkmbfaa

namespace Go.Proofs.Ythlmnmbhgkmbfaa
open Go.RowKit
open Go.Lib hiding intOf

/-- A list of ints that a function reads. -/
def IntsV (w : World) (oa : Option Addr) (n : Nat) (zs : List Int) : Prop := zs.length = n ∧ ∀ i, i < n → ∃ g, oa = some ⟨g, 0, none⟩ ∧ g < w.heap.size ∧ w.cell? ⟨g, i, none⟩ = some (.int .i64 (zs.getD i 0))
theorem IntsV.below {w w' : World} {oa : Option Addr} {n : Nat} {zs : List Int} (h : IntsV w oa n zs) (hb : Below w.heap.size w w') : IntsV w' oa n zs :=
  ⟨h.1, fun i hi => by
    obtain ⟨g, e, hg, hc⟩ := h.2 i hi
    exact ⟨g, e, Nat.lt_of_lt_of_le hg hb.size, by rw [hb.cell (p := ⟨g, i, none⟩) hg]; exact hc⟩⟩

end Go.Proofs.Ythlmnmbhgkmbfaa

namespace Go.Proofs.Ythlmnmbhgkmbfaa
open Go.RowKit

/-- How many bytes a head has; none: it is not whole. -/
def headN : List UInt8 → Option Nat
  | [] => none
  | c :: t => if (c :: t).take 4 = [13, 10, 13, 10] then some 4 else (headN t).map (· + 1)

theorem headN_len : ∀ {w : List UInt8} {n : Nat}, headN w = some n → 4 ≤ n ∧ n ≤ w.length := by
  intro w
  induction w with
  | nil => intro n h; simp [headN] at h
  | cons c t ih =>
    intro n h
    unfold headN at h
    by_cases h4 : (c :: t).take 4 = [13, 10, 13, 10]
    · rw [if_pos h4] at h
      obtain rfl := Option.some.inj h
      have := congrArg List.length h4
      simp [List.length_take] at this
      refine ⟨Nat.le_refl _, ?_⟩
      simp
      omega
    · rw [if_neg h4] at h
      obtain ⟨m, hm, rfl⟩ := Option.map_eq_some_iff.1 h
      have := ih hm
      simp
      omega

/-- A whole head stays the head, whatever is behind it. -/
theorem headN_app (x : List UInt8) : ∀ {w : List UInt8} {n : Nat}, headN w = some n → headN (w ++ x) = some n := by
  intro w
  induction w with
  | nil => intro n h; simp [headN] at h
  | cons c t ih =>
    intro n h
    have hl := headN_len h
    have ht : ((c :: t) ++ x).take 4 = (c :: t).take 4 := List.take_append_of_le_length (by omega)
    unfold headN at h
    show headN (c :: (t ++ x)) = some n
    unfold headN
    have ht' : (c :: (t ++ x)).take 4 = (c :: t).take 4 := ht
    rw [ht']
    by_cases h4 : (c :: t).take 4 = [13, 10, 13, 10]
    · rw [if_pos h4] at h ⊢; exact h
    · rw [if_neg h4] at h ⊢
      obtain ⟨m, hm, rfl⟩ := Option.map_eq_some_iff.1 h
      rw [ih hm]; rfl

/-- What waits behind it, whether it is bad, and what was told; none: not told within so many requests. -/
def fdF (ok : List UInt8 → Bool) (len : List UInt8 → Nat) : Nat → List UInt8 → Option (List UInt8 × Bool × List (List UInt8))
  | 0, _ => none
  | f + 1, w =>
    match headN w with
    | none => some (w, false, [])
    | some n =>
      if 120 < len (w.take n) then some ([], true, [])
      else if w.length < n + len (w.take n) then some (w, false, [])
      else if ok (w.take (n + len (w.take n))) = true then (fdF ok len f (w.drop (n + len (w.take n)))).map (fun x => (x.1, x.2.1, w.take (n + len (w.take n)) :: x.2.2))
      else some ([], true, [])

variable {ok : List UInt8 → Bool} {len : List UInt8 → Nat}

theorem fdF_more : ∀ (f : Nat) (w : List UInt8) (x : List UInt8 × Bool × List (List UInt8)), fdF ok len f w = some x → ∀ d, fdF ok len (f + d) w = some x := by
  intro f
  induction f with
  | zero => intro w x h; simp [fdF] at h
  | succ f ih =>
    intro w x h d
    rw [show f + 1 + d = (f + d) + 1 by omega]
    unfold fdF at h ⊢
    cases hn : headN w with
    | none => rw [hn] at h; exact h
    | some n =>
      rw [hn] at h
      simp only at h ⊢
      by_cases h1 : 120 < len (w.take n)
      · rw [if_pos h1] at h ⊢; exact h
      · rw [if_neg h1] at h ⊢
        by_cases h2 : w.length < n + len (w.take n)
        · rw [if_pos h2] at h ⊢; exact h
        · rw [if_neg h2] at h ⊢
          by_cases h3 : ok (w.take (n + len (w.take n))) = true
          · rw [if_pos h3] at h ⊢
            obtain ⟨y, hy, rfl⟩ := Option.map_eq_some_iff.1 h
            rw [ih _ _ hy d]; rfl
          · rw [if_neg h3] at h ⊢; exact h

/-- Bad stays bad, and what was told ahead of it stays told, whatever comes behind it. -/
theorem fdF_bad (x : List UInt8) : ∀ (f : Nat) (w u : List UInt8) (t : List (List UInt8)), fdF ok len f w = some (u, true, t) → u = [] ∧ fdF ok len f (w ++ x) = some ([], true, t) := by
  intro f
  induction f with
  | zero => intro w u t h; simp [fdF] at h
  | succ f ih =>
    intro w u t h
    unfold fdF at h ⊢
    cases hn : headN w with
    | none => rw [hn] at h; simp at h
    | some n =>
      have hl := headN_len hn
      rw [hn] at h
      rw [headN_app x hn]
      simp only at h ⊢
      rw [List.take_append_of_le_length hl.2]
      by_cases h1 : 120 < len (w.take n)
      · rw [if_pos h1] at h ⊢
        simp at h
        obtain ⟨rfl, rfl⟩ := h
        exact ⟨rfl, rfl⟩
      · rw [if_neg h1] at h ⊢
        by_cases h2 : w.length < n + len (w.take n)
        · rw [if_pos h2] at h; simp at h
        · rw [if_neg h2] at h
          rw [if_neg (by rw [List.length_append]; omega), List.take_append_of_le_length (by omega), List.drop_append_of_le_length (by omega)]
          by_cases h3 : ok (w.take (n + len (w.take n))) = true
          · rw [if_pos h3] at h ⊢
            obtain ⟨⟨y1, y2, y3⟩, hy, he⟩ := Option.map_eq_some_iff.1 h
            simp at he
            obtain ⟨rfl, rfl, rfl⟩ := he
            obtain ⟨e1, e2⟩ := ih _ _ _ hy
            rw [e2]
            exact ⟨e1, rfl⟩
          · rw [if_neg h3] at h ⊢
            simp at h
            obtain ⟨rfl, rfl⟩ := h
            exact ⟨rfl, rfl⟩

/-- What waits, with more behind it, goes on as the whole would have. -/
theorem fdF_on (x : List UInt8) (g : Nat) (u2 : List UInt8) (b2 : Bool) (t2 : List (List UInt8)) : ∀ (f : Nat) (w u : List UInt8) (t : List (List UInt8)), fdF ok len f w = some (u, false, t) → fdF ok len g (u ++ x) = some (u2, b2, t2) → fdF ok len (f + g) (w ++ x) = some (u2, b2, t ++ t2) := by
  intro f
  induction f with
  | zero => intro w u t h; simp [fdF] at h
  | succ f ih =>
    intro w u t h k
    have hstay : u = w → t = [] → fdF ok len (f + 1 + g) (w ++ x) = some (u2, b2, t ++ t2) := by
      rintro rfl rfl
      rw [Nat.add_comm]
      exact fdF_more _ _ _ k _
    unfold fdF at h
    cases hn : headN w with
    | none =>
      rw [hn] at h
      simp at h
      exact hstay h.1.symm h.2
    | some n =>
      have hl := headN_len hn
      rw [hn] at h
      simp only at h
      by_cases h1 : 120 < len (w.take n)
      · rw [if_pos h1] at h; simp at h
      · rw [if_neg h1] at h
        by_cases h2 : w.length < n + len (w.take n)
        · rw [if_pos h2] at h
          simp at h
          exact hstay h.1.symm h.2
        · rw [if_neg h2] at h
          by_cases h3 : ok (w.take (n + len (w.take n))) = true
          · rw [if_pos h3] at h
            obtain ⟨⟨y1, y2, y3⟩, hy, he⟩ := Option.map_eq_some_iff.1 h
            simp at he
            obtain ⟨rfl, rfl, rfl⟩ := he
            rw [show f + 1 + g = (f + g) + 1 by omega]
            unfold fdF
            rw [headN_app x hn]
            simp only
            rw [List.take_append_of_le_length hl.2, if_neg h1, if_neg (by rw [List.length_append]; omega), List.take_append_of_le_length (by omega), List.drop_append_of_le_length (by omega), if_pos h3, ih _ _ _ hy k]
            rfl
          · rw [if_neg h3] at h; simp at h

/-- What waits is no longer than the text; what was told is right, and no longer together. -/
theorem fdF_bound : ∀ (f : Nat) (w u : List UInt8) (b : Bool) (t : List (List UInt8)), fdF ok len f w = some (u, b, t) → u.length + t.flatten.length ≤ w.length ∧ (∀ y ∈ t, ok y = true) ∧ 4 * t.length ≤ w.length := by
  intro f
  induction f with
  | zero => intro w u b t h; simp [fdF] at h
  | succ f ih =>
    intro w u b t h
    unfold fdF at h
    cases hn : headN w with
    | none =>
      rw [hn] at h
      simp at h
      obtain ⟨rfl, rfl, rfl⟩ := h
      simp
    | some n =>
      have hl := headN_len hn
      rw [hn] at h
      simp only at h
      by_cases h1 : 120 < len (w.take n)
      · rw [if_pos h1] at h
        simp at h
        obtain ⟨rfl, rfl, rfl⟩ := h
        simp
      · rw [if_neg h1] at h
        by_cases h2 : w.length < n + len (w.take n)
        · rw [if_pos h2] at h
          simp at h
          obtain ⟨rfl, rfl, rfl⟩ := h
          simp
        · rw [if_neg h2] at h
          by_cases h3 : ok (w.take (n + len (w.take n))) = true
          · rw [if_pos h3] at h
            obtain ⟨⟨y1, y2, y3⟩, hy, he⟩ := Option.map_eq_some_iff.1 h
            simp at he
            obtain ⟨rfl, rfl, rfl⟩ := he
            obtain ⟨e1, e2, e3⟩ := ih _ _ _ _ hy
            rw [List.length_drop] at e1 e3
            refine ⟨?_, ?_, ?_⟩
            · rw [List.flatten_cons, List.length_append, List.length_take]
              omega
            · intro y hy'
              rcases List.mem_cons.1 hy' with rfl | hy'
              · exact h3
              · exact e2 y hy'
            · rw [List.length_cons]; omega
          · rw [if_neg h3] at h
            simp at h
            obtain ⟨rfl, rfl, rfl⟩ := h
            simp

/-- What is told of a text: one thing. -/
def Fd (ok : List UInt8 → Bool) (len : List UInt8 → Nat) (w : List UInt8) (x : List UInt8 × Bool × List (List UInt8)) : Prop := ∃ f, fdF ok len f w = some x
theorem Fd.none {w : List UInt8} (h : headN w = .none) : Fd ok len w (w, false, []) := ⟨1, by unfold fdF; rw [h]⟩
theorem Fd.long {w : List UInt8} {n : Nat} (h : headN w = some n) (h1 : 120 < len (w.take n)) : Fd ok len w ([], true, []) := ⟨1, by unfold fdF; rw [h]; simp only; rw [if_pos h1]⟩
theorem Fd.short {w : List UInt8} {n : Nat} (h : headN w = some n) (h1 : ¬ 120 < len (w.take n)) (h2 : w.length < n + len (w.take n)) : Fd ok len w (w, false, []) := ⟨1, by unfold fdF; rw [h]; simp only; rw [if_neg h1, if_pos h2]⟩
/-- Feed: what waits and whether it is bad, ahead and behind, and what was told. -/
def FeedP (ok : List UInt8 → Bool) (len : List UInt8 → Nat) (w : List UInt8) (b : Bool) (p : List UInt8) (w' : List UInt8) (b' : Bool) (t : List (List UInt8)) : Prop :=
  (b = true ∧ w' = [] ∧ b' = true ∧ t = []) ∨
  (b = false ∧ ∃ u c, Fd ok len (w ++ p) (u, c, t) ∧ (((c = true ∨ 1200 < u.length) ∧ w' = [] ∧ b' = true) ∨ (c = false ∧ ¬ 1200 < u.length ∧ w' = u ∧ b' = false)))
/-- Feed of each piece, one behind the other, and all that was told. -/
def FeedAllP (ok : List UInt8 → Bool) (len : List UInt8 → Nat) : List (List UInt8) → List UInt8 → Bool → List UInt8 → Bool → List (List UInt8) → Prop
  | [], w, b, w', b', t => w' = w ∧ b' = b ∧ t = []
  | p :: ps, w, b, w', b', t => ∃ w1 b1 t1 t2, FeedP ok len w b p w1 b1 t1 ∧ FeedAllP ok len ps w1 b1 w' b' t2 ∧ t = t1 ++ t2

/-- Promise 5 in plain words: in whatever pieces it comes, the same is told, and the same waits. -/
theorem FeedAllP.pieces : ∀ (ps : List (List UInt8)) (w : List UInt8) (b : Bool) (w' : List UInt8) (b' : Bool) (t : List (List UInt8)), ps ≠ [] → w.length + ps.flatten.length ≤ 1200 → FeedAllP ok len ps w b w' b' t → FeedP ok len w b ps.flatten w' b' t := by
  intro ps
  induction ps with
  | nil => intro w b w' b' t h; exact absurd rfl h
  | cons p ps ih =>
    intro w b w' b' t _ hl h
    obtain ⟨w1, b1, t1, t2, hf, ha, rfl⟩ := h
    rw [List.flatten_cons, List.length_append] at hl
    rw [List.flatten_cons]
    cases ps with
    | nil =>
      obtain ⟨rfl, rfl, rfl⟩ := ha
      simpa using hf
    | cons q qs =>
      rcases hf with ⟨hb, rfl, rfl, rfl⟩ | ⟨hb, u, c, hfd, hh⟩
      · rcases ih _ _ _ _ _ (by simp) (by simp only [List.length_nil]; omega) ha with ⟨_, rfl, rfl, rfl⟩ | ⟨kb, _⟩
        · exact .inl ⟨hb, rfl, rfl, rfl⟩
        · cases kb
      · obtain ⟨f, hfd⟩ := hfd
        have hbd := (fdF_bound f _ _ _ _ hfd).1
        rw [List.length_append] at hbd
        cases c with
        | true =>
          rcases hh with ⟨_, rfl, rfl⟩ | ⟨hc, _⟩
          · rcases ih _ _ _ _ _ (by simp) (by simp only [List.length_nil]; omega) ha with ⟨_, rfl, rfl, rfl⟩ | ⟨kb, _⟩
            · refine .inr ⟨hb, [], true, ⟨f, ?_⟩, .inl ⟨.inl rfl, rfl, rfl⟩⟩
              rw [← List.append_assoc, List.append_nil]
              exact (fdF_bad _ f _ _ _ hfd).2
            · cases kb
          · cases hc
        | false =>
          rcases hh with ⟨ho, _, _⟩ | ⟨_, _, rfl, rfl⟩
          · rcases ho with ho | ho
            · cases ho
            · exfalso; omega
          · rcases ih _ _ _ _ _ (by simp) (by omega) ha with ⟨kb, _⟩ | ⟨_, u2, c2, ⟨g, hg⟩, kk⟩
            · cases kb
            · refine .inr ⟨hb, u2, c2, ⟨f + g, ?_⟩, kk⟩
              rw [← List.append_assoc]
              exact fdF_on _ g _ _ _ f _ _ _ hfd hg

/-- A text cut into pieces of these sizes, and the rest as the last one, if it is not empty. -/
def pcs : List Int → List UInt8 → List (List UInt8)
  | [], s => if s = [] then [] else [s]
  | z :: zs, s => s.take z.toNat :: pcs zs (s.drop z.toNat)
theorem pcs_flat : ∀ (zs : List Int) (s : List UInt8), (pcs zs s).flatten = s := by
  intro zs
  induction zs with
  | nil =>
    intro s
    unfold pcs
    by_cases h : s = []
    · rw [if_pos h, h]; rfl
    · rw [if_neg h]; simp
  | cons z zs ih =>
    intro s
    unfold pcs
    rw [List.flatten_cons, ih, List.take_append_drop]
/-- The law's last piece is empty, so that there is one: the same is told of the pieces and of the whole. -/
theorem FeedAllP.cut {zs : List Int} {s w w' : List UInt8} {b b' : Bool} {t : List (List UInt8)} (hl : w.length + s.length ≤ 1200) (h : FeedAllP ok len (pcs zs s ++ [[]]) w b w' b' t) : FeedP ok len w b s w' b' t := by
  have hf : (pcs zs s ++ [[]]).flatten = s := by rw [List.flatten_append, pcs_flat]; simp
  have := FeedAllP.pieces (pcs zs s ++ [[]]) w b w' b' t (by simp) (by rw [hf]; exact hl) h
  rw [hf] at this
  exact this
end Go.Proofs.Ythlmnmbhgkmbfaa

namespace Go.Proofs.Ythlmnmbhgkmbfaa
open Go.RowKit
open Go.Lib hiding intOf

theorem flatF_append (a b : List (ByteArray × ByteArray)) : flatF (a ++ b) = flatF a ++ flatF b := by simp [flatF]
theorem flatF_one (nm vl : ByteArray) : flatF [(nm, vl)] = [.string nm, .string vl] := rfl
theorem two_text (a b : ByteArray) : ∀ u ∈ [Value.string a, Value.string b], u.oneCell' = true := by
  intro u hu
  simp at hu
  rcases hu with rfl | rfl <;> rfl

/-- The first k fields without the one at that place. -/
def dropTo (fs : List (ByteArray × ByteArray)) (p : Int) : Nat → List (ByteArray × ByteArray)
  | 0 => []
  | k + 1 => if (k : Int) = p then dropTo fs p k else dropTo fs p k ++ [(nameAt fs k, valAt fs k)]
def dropF (fs : List (ByteArray × ByteArray)) (name : ByteArray) : List (ByteArray × ByteArray) := dropTo fs (atI fs name) fs.length
theorem dropTo_len (fs : List (ByteArray × ByteArray)) (p : Int) : ∀ k, (dropTo fs p k).length ≤ k := by
  intro k
  induction k with
  | zero => simp [dropTo]
  | succ k ih =>
    rw [dropTo]
    split
    · omega
    · simp; omega

/-- A call answers a list of these fields in memory of its own, and turns nothing that was there. -/
def RowF (fs : List (ByteArray × ByteArray)) (w : World) (e : Ending) (w' : World) : Prop :=
  ∃ v, e = .returned v ∧ w'.ownsRow w.heap.size 68 2 v fs.length (flatF fs) ∧ Below w.heap.size w w'

set_option maxHeartbeats 2000000 in
set_option maxRecDepth 100000 in
theorem specDrop_any (v : Value) (n base : Nat) (fs : List (ByteArray × ByteArray)) (name : ByteArray) (w : World) (hv : FieldsV w base v n fs) (hn : n ≤ 2000000) :
    Calls Try.prog 44 #[v, .string name] w fun e w' => RowF (dropF fs name) w e w' := by
  obtain ⟨i0, hi, hz0, hz1, hz2⟩ := info_parts info33
  have hl := hv.len
  obtain ⟨p, hp⟩ : ∃ p, p = atI fs name := ⟨_, rfl⟩
  have hDF : Hid (dropF fs name = dropTo fs p n) := by show _ = _; unfold dropF; rw [← hp, hl]
  go_enter Try.func44, Try.ntmps44
  go_wp2_with fail
  refine (l2At_any v n base fs name _ hv (by omega)).mono ?_
  rintro e w1 ⟨rfl, rfl⟩
  rw [← hp]
  clear hp
  have hv0 := hv
  rcases hv0 with ⟨oa, ca, rfl, _, rfl, rfl⟩ | ⟨g, cap, rfl, hp0, row⟩
  · have hT : Hid (dropTo [] p 0 = []) := rfl
    clear hv
    go_wp2
    refine wp_loop_rounds 1 ?_
    rw [rounds_succ]
    go_wp2
    go_ret
    refine ⟨_, rfl, ?_, (Below.refl _ _).alloc (Nat.le_refl _) _⟩
    rw [hDF.out, hT.out]
    exact ⟨rfl, .inr ⟨w1.heap.size, 0, #[], rfl, Nat.le_refl _, heap_alloc_new w1 _, Nat.le_refl _, Nat.zero_le _, rfl, rfl⟩⟩
  · clear hv
    go_wp2
    go_loopw [6, 7] (fun o i wr => ∃ k m : Nat, k ≤ n ∧ m ≤ k ∧ i = .int .i64 (k : Int) ∧ Hid (m = (dropTo fs p k).length) ∧ wr.ownsRow w1.heap.size 68 2 o m (flatF (dropTo fs p k)) ∧ Below w1.heap.size w1 wr) (fun _ i _ => n - (intOf i).toNat)
    case atStart => exact ⟨0, 0, Nat.zero_le _, Nat.le_refl _, rfl, rfl, ⟨rfl, .inr ⟨w1.heap.size, 0, #[], rfl, Nat.le_refl _, heap_alloc_new w1 _, Nat.le_refl _, Nat.zero_le _, rfl, rfl⟩⟩, (Below.refl _ _).alloc (Nat.le_refl _) _⟩
    case round =>
      obtain ⟨k, m, hk, hmk, rfl, hm, hown, hbw⟩ := hrel
      by_cases hlt : k < n
      · have hlt2 : (k : Int) < (n : Int) := by omega
        by_cases hkp : (k : Int) = p
        · have hne : ((k : Int) != p) = false := by rw [bne_eq_false_iff_eq]; exact hkp
          have HD : Hid (dropTo fs p (k + 1) = dropTo fs p k) := by show _ = _; rw [dropTo, if_pos hkp]
          clear hkp
          go_wp2
          go_roundw
          case rel => exact ⟨k + 1, m, by omega, by omega, by go_num, by rw [HD.out]; exact hm, by rw [HD.out]; exact hown, hbw⟩
          case measure => simp [intOf]; omega
        · have hne : ((k : Int) != p) = true := by rw [bne_iff_ne]; exact hkp
          obtain ⟨nm, hnm⟩ : ∃ y, y = nameAt fs k := ⟨_, rfl⟩
          obtain ⟨vl, hvl⟩ : ∃ y, y = valAt fs k := ⟨_, rfl⟩
          have HD : Hid (dropTo fs p (k + 1) = dropTo fs p k ++ [(nm, vl)]) := by show _ = _; rw [dropTo, if_neg hkp, hnm, hvl]
          have hc1 := (row.below hbw row.lt).name k hlt
          have hc2 := (row.below hbw row.lt).val k hlt
          rw [← hnm] at hc1
          rw [← hvl] at hc2
          have h63 : m + 1 ≤ maxLen := by unfold maxLen; omega
          have h47 : (m + 1) * 32 ≤ 140737488355328 := by omega
          have HBS : ∀ o, w1.heap.size ≤ (wr.alloc o).heap.size := fun o => by have := hbw.size; simp; omega
          clear hkp hnm hvl
          go_wp2_with (at_builtin; refine wpList_append_own _ rfl _ _ 24 rfl w1.heap.size 68 i0 (.agg #[.string ⟨#[]⟩, .string ⟨#[]⟩]) 2 32 Try.underlying24 hi hz0 hz1 hz2 rfl (by decide) _ _ _ rfl (hown.alloc _) ⟨wr.heap.size, 0, none⟩ 1 1 [.string nm, .string vl] rfl rfl (cell_two_new _ _ _ _) (two_text _ _) h63 h47 (HBS _) ?_)
          intro v1 w2 hown1 hgrow _
          have hb2 : Below w1.heap.size w1 w2 := (hbw.alloc hbw.size _).grown hgrow (HBS _) (fun g hg => owns_ge hown hg)
          have hown2 : w2.ownsRow w1.heap.size 68 2 v1 (m + 1) (flatF (dropTo fs p (k + 1))) := by rw [HD.out, flatF_append, flatF_one]; exact hown1
          have hm2 : Hid (m + 1 = (dropTo fs p (k + 1)).length) := by show _ = _; rw [HD.out, hm.out]; simp
          clear hgrow hown1 hown hbw HBS hc1 hc2
          go_wp2
          go_roundw
          case rel => exact ⟨k + 1, m + 1, by omega, by omega, by go_num, hm2, hown2, hb2⟩
          case measure => simp [intOf]; omega
      · obtain rfl : k = n := by omega
        go_wp2
        go_ret
        exact ⟨_, rfl, by rw [hDF.out, ← hm.out]; exact hown, hbw⟩

def putF (fs : List (ByteArray × ByteArray)) (name value : ByteArray) : List (ByteArray × ByteArray) :=
  if atF fs name < fs.length then fs.set (atF fs name) (nameAt fs (atF fs name), value) else fs ++ [(name, value)]
/-- One value of a row stored anew. -/
theorem FieldRow.setVal {base : Nat} {w : World} {g n cap : Nat} {fs : List (ByteArray × ByteArray)} (h : FieldRow base w g n cap fs) (k : Nat) (hk : k < n) (b : ByteArray) : FieldRow base (w.setCell ⟨g, k * 2 + 1, none⟩ (.string b)) g n cap (fs.set k (nameAt fs k, b)) := by
  have hl := h.len; have hle := h.le
  obtain ⟨cur, h1, h2, h3⟩ := h.heap
  refine ⟨by simp [hl], h.base, by simpa using h.lt, h.le, h.mx, cur.setIfInBounds (k * 2 + 1) (.string b), heap_set w g (k * 2 + 1) _ _ _ _ h1, by simpa using h2, ?_⟩
  intro i hi
  have hs := nameAt_set fs k i (nameAt fs k, b) (by omega)
  rw [hs.1, hs.2]
  have h4 := h3 i hi
  by_cases e : i = k
  · subst e
    rw [if_pos rfl, if_pos rfl]
    refine ⟨?_, ?_⟩
    · rw [Array.getElem?_setIfInBounds_ne (by omega)]; exact h4.1
    · rw [Array.getElem?_setIfInBounds_self_of_lt (by omega)]
  · rw [if_neg e, if_neg e]
    refine ⟨?_, ?_⟩
    · rw [Array.getElem?_setIfInBounds_ne (by omega)]; exact h4.1
    · rw [Array.getElem?_setIfInBounds_ne (by omega)]; exact h4.2
/-- The cells of a row, one behind the other. -/
theorem FieldRow.cells {base : Nat} {w : World} {g n cap : Nat} {fs : List (ByteArray × ByteArray)} (h : FieldRow base w g n cap fs) : ∀ j u, (flatF fs)[j]? = some u → w.cell? ((⟨g, 0, none⟩ : Addr).add j) = some u := by
  intro j u hj
  have hl := h.len
  have hjl : j < fs.length * 2 := by
    rw [← flatF_len]
    exact (List.getElem?_eq_some_iff.1 hj).1
  have e0 : (⟨g, 0, none⟩ : Addr).add j = ⟨g, j, none⟩ := by
    unfold Addr.add; split <;> simp_all
  rw [e0]
  have hf := flatF_get fs (j / 2) (by omega)
  rcases Nat.mod_two_eq_zero_or_one j with e | e
  · have e2 : j / 2 * 2 = j := by omega
    have hc := h.name (j / 2) (by omega)
    rw [e2] at hf hc
    rw [hf.1] at hj
    cases hj
    exact hc
  · have e2 : j / 2 * 2 + 1 = j := by omega
    have hc := h.val (j / 2) (by omega)
    rw [e2] at hf hc
    rw [hf.2] at hj
    cases hj
    exact hc
theorem flat_one (fs : List (ByteArray × ByteArray)) : ∀ u ∈ flatF fs, u.oneCell' = true := by
  intro u hu
  simp only [flatF, List.mem_flatMap] at hu
  obtain ⟨f, _, hf⟩ := hu
  exact two_text f.1 f.2 u hf

/-- What 'append' reads of a list: nil, or cells behind an address. -/
theorem FieldsV.src {w : World} {base n : Nat} {v : Value} {fs : List (ByteArray × ByteArray)} (h : FieldsV w base v n fs) :
    (v = .slice none 0 0 ∧ n = 0 ∧ fs = []) ∨ ∃ ad cap, v = .slice (some ad) n cap ∧ ∀ j u, (flatF fs)[j]? = some u → w.cell? (ad.add j) = some u := by
  rcases h with ⟨oa, cap, rfl, h0, rfl, rfl⟩ | ⟨g, cap, rfl, _, row⟩
  · cases oa with
    | none => exact .inl ⟨by rw [h0 rfl], rfl, rfl⟩
    | some ad => exact .inr ⟨ad, cap, rfl, fun j u hj => by simp [flatF] at hj⟩
  · exact .inr ⟨_, cap, rfl, row.cells⟩

set_option maxHeartbeats 2000000 in
set_option maxRecDepth 100000 in
theorem specPut_any (v : Value) (n base : Nat) (fs : List (ByteArray × ByteArray)) (name value : ByteArray) (w : World) (hv : FieldsV w base v n fs) (hn : n ≤ 2000000) :
    Calls Try.prog 49 #[v, .string name, .string value] w fun e w' => RowF (putF fs name value) w e w' := by
  obtain ⟨i0, hi, hz0, hz1, hz2⟩ := info_parts info33
  have hl := hv.len
  have h63a : 0 + n ≤ maxLen := by unfold maxLen; omega
  have h47a : (0 + n) * 32 ≤ 140737488355328 := by omega
  have hown0 : (w.alloc (.cells #[] 68)).ownsRow w.heap.size 68 2 (.slice (some ⟨w.heap.size, 0, none⟩) 0 0) 0 [] := ⟨rfl, .inr ⟨w.heap.size, 0, #[], rfl, Nat.le_refl _, heap_alloc_new w _, Nat.le_refl _, Nat.zero_le _, rfl, rfl⟩⟩
  have hbs0 : w.heap.size ≤ (w.alloc (.cells #[] 68)).heap.size := by simp
  have hv1 := hv.below ((Below.refl _ w).alloc (Nat.le_refl _) (.cells #[] 68))
  rcases hv1.src with ⟨rfl, rfl, rfl⟩ | ⟨ad, cap, rfl, hcs⟩
  · have hP : Hid (putF [] name value = [(name, value)]) := rfl
    have hI : Hid (atI [] name = -1) := rfl
    have hb2 : Below w.heap.size w (w.alloc (.cells #[] 68)) := (Below.refl _ w).alloc (Nat.le_refl _) _
    have HBS : ∀ o, w.heap.size ≤ ((w.alloc (.cells #[] 68)).alloc o).heap.size := fun o => by simp; omega
    clear hv
    go_enter Try.func49, Try.ntmps49
    go_wp2_with (at_builtin; refine wpList_append_own_none rfl _ _ 24 rfl w.heap.size 68 i0 2 Try.underlying24 hi _ _ _ rfl hown0 rfl ?_)
    go_wp2_with fail
    refine (l2At_any _ 0 base [] name _ hv1 (by omega)).mono ?_
    rintro e w3 ⟨rfl, hw3⟩
    rw [← hw3] at hown0 hb2 HBS
    clear hv1 hbs0 hw3
    rw [hI.out]
    have h63 : 0 + 1 ≤ maxLen := by unfold maxLen; omega
    have h47 : (0 + 1) * 32 ≤ 140737488355328 := by omega
    go_wp2_with (at_builtin; refine wpList_append_own _ rfl _ _ 24 rfl w.heap.size 68 i0 (.agg #[.string ⟨#[]⟩, .string ⟨#[]⟩]) 2 32 Try.underlying24 hi hz0 hz1 hz2 rfl (by decide) _ _ _ rfl (hown0.alloc _) ⟨w3.heap.size, 0, none⟩ 1 1 [.string name, .string value] rfl rfl (cell_two_new _ _ _ _) (two_text _ _) h63 h47 (HBS _) ?_)
    intro v4 w4 hown4 hgrow4 _
    have hb4 : Below w.heap.size w w4 := (hb2.alloc hb2.size _).grown hgrow4 (HBS _) (fun g hg => owns_ge hown0 hg)
    clear hgrow4 HBS
    go_wp2
    go_ret
    exact ⟨_, rfl, by rw [hP.out, flatF_one]; simpa using hown4, hb4⟩
  · have hnl : (flatF fs).length = n * 2 := by rw [flatF_len, hl]
    go_enter Try.func49, Try.ntmps49
    go_wp2_with (at_builtin; refine wpList_append_own _ rfl _ _ 24 rfl w.heap.size 68 i0 (.agg #[.string ⟨#[]⟩, .string ⟨#[]⟩]) 2 32 Try.underlying24 hi hz0 hz1 hz2 rfl (by decide) _ _ _ rfl hown0 ad n cap (flatF fs) rfl hnl hcs (flat_one _) h63a h47a hbs0 ?_)
    intro v1 w2 hown1 hgrow _
    have hb2 : Below w.heap.size w w2 := ((Below.refl _ w).alloc (Nat.le_refl _) _).grown hgrow hbs0 (fun g hg => owns_ge hown0 hg)
    have hv2 := hv.below hb2
    have hown2 : w2.ownsRow w.heap.size 68 2 v1 n (flatF fs) := by simpa using hown1
    clear hgrow hown1 hown0 hbs0 hv1 hcs hv
    by_cases hin : atF fs name < fs.length
    · have hI : Hid (atI fs name = (atF fs name : Int)) := by show _ = _; unfold atI; rw [if_pos hin]
      have hP : Hid (putF fs name value = fs.set (atF fs name) (nameAt fs (atF fs name), value)) := by show _ = _; unfold putF; rw [if_pos hin]
      obtain ⟨k, hk⟩ : ∃ k, k = atF fs name := ⟨_, rfl⟩
      rw [← hk] at hI hP hin
      clear hk
      go_wp2_with fail
      refine (l2At_any _ n base fs name _ hv2 (by omega)).mono ?_
      rintro e w3 ⟨rfl, rfl⟩
      rw [hI.out]
      rcases frow_form hown2 with ⟨_, _, _, _, h0, _⟩ | ⟨g1, c1, rfl, _, row1⟩
      · omega
      have hset := row1.setVal k (by omega) value
      have hc := row1.val k (by omega)
      have hf := row1.frozen (k * 2 + 1)
      have hlt : (k : Int) < (n : Int) := by omega
      have hb3 := hb2.setCell (p := ⟨g1, k * 2 + 1, none⟩) row1.base (.string value)
      clear hv2 hown2
      go_wp2
      go_ret
      exact ⟨_, rfl, by rw [hP.out]; simpa [hl] using hset.owns, hb3⟩
    · have hI : Hid (atI fs name = -1) := by show _ = _; unfold atI; rw [if_neg hin]
      have hP : Hid (putF fs name value = fs ++ [(name, value)]) := by show _ = _; unfold putF; rw [if_neg hin]
      clear hin
      go_wp2_with fail
      refine (l2At_any _ n base fs name _ hv2 (by omega)).mono ?_
      rintro e w3 ⟨rfl, rfl⟩
      rw [hI.out]
      have h63 : n + 1 ≤ maxLen := by unfold maxLen; omega
      have h47 : (n + 1) * 32 ≤ 140737488355328 := by omega
      have HBS : ∀ o, w.heap.size ≤ (w3.alloc o).heap.size := fun o => by have := hb2.size; simp; omega
      go_wp2_with (at_builtin; refine wpList_append_own _ rfl _ _ 24 rfl w.heap.size 68 i0 (.agg #[.string ⟨#[]⟩, .string ⟨#[]⟩]) 2 32 Try.underlying24 hi hz0 hz1 hz2 rfl (by decide) _ _ _ rfl (hown2.alloc _) ⟨w3.heap.size, 0, none⟩ 1 1 [.string name, .string value] rfl rfl (cell_two_new _ _ _ _) (two_text _ _) h63 h47 (HBS _) ?_)
      intro v4 w4 hown4 hgrow4 _
      have hb4 : Below w.heap.size w w4 := (hb2.alloc hb2.size _).grown hgrow4 (HBS _) (fun g hg => owns_ge hown2 hg)
      clear hgrow4 HBS
      go_wp2
      go_ret
      exact ⟨_, rfl, by rw [hP.out, flatF_append, flatF_one]; simpa [hl] using hown4, hb4⟩

end Go.Proofs.Ythlmnmbhgkmbfaa

namespace Go.Proofs.Ythlmnmbhgkmbfaa
open Go.RowKit
open Go.Lib hiding intOf

/-- A list of texts that a function reads, in blocks below B. -/
def TextsV (w : World) (B : Nat) (a : Option Addr) (n : Nat) (xs : List ByteArray) : Prop :=
  xs.length = n ∧ ∀ i (h : i < xs.length), ∃ g off, a = some ⟨g, off, none⟩ ∧ g < B ∧ w.cell? ⟨g, off + i, none⟩ = some (.string (xs[i]'h))
theorem TextsV.below {w w' : World} {B : Nat} {a : Option Addr} {n : Nat} {xs : List ByteArray} (h : TextsV w B a n xs) (hb : Below B w w') : TextsV w' B a n xs :=
  ⟨h.1, fun i hi => by
    obtain ⟨g, off, h1, h2, h3⟩ := h.2 i hi
    exact ⟨g, off, h1, h2, by rw [hb.cell (p := ⟨g, off + i, none⟩) h2]; exact h3⟩⟩

end Go.Proofs.Ythlmnmbhgkmbfaa

namespace Go.Proofs.Ythlmnmbhgkmbfaa
open Go.RowKit
open Go.Lib hiding intOf

theorem map_bs_inj : ∀ {a b : List ByteArray}, a.map bs = b.map bs → a = b
  | [], [], _ => rfl
  | [], _ :: _, h => by simp at h
  | _ :: _, [], h => by simp at h
  | x :: r, y :: t, h => by
    simp only [List.map_cons, List.cons.injEq] at h
    rw [map_bs_inj h.2, bs_inj h.1]

/-- What is read of a text, ahead of the last look: the words of its first line, the fields of the others, what is behind. -/
structure Parts (s : ByteArray) (xs : List ByteArray) (k : Nat) (ws : List ByteArray) (l : List (ByteArray × ByteArray)) : Prop where
  head : headL [] [] (bs s) = (xs.map bs, some ((bs s).drop k))
  ne : xs ≠ []
  words : wordsL [] [] (bs (xs.headD ⟨#[]⟩)) = ws.map bs
  fields : fieldsL (xs.tail.map bs) = l.map bsP
/-- A request's text is read as the request. -/
theorem IsReq.parts {s : ByteArray} {m : Int} {p : ByteArray} {fs : List (ByteArray × ByteArray)} {b : ByteArray} (h : IsReq s m p fs b) {xs : List ByteArray} {k : Nat} {ws : List ByteArray} {l : List (ByteArray × ByteArray)} (hp : Parts s xs k ws l) :
    ∃ x, ws = [methB m, p, x] ∧ l = fs ∧ s.extract k s.size = b := by
  have e := hp.head.symm.trans (req_head h)
  simp only [Prod.mk.injEq, Option.some.injEq] at e
  obtain ⟨e1, e2⟩ := e
  obtain ⟨x0, xr, rfl⟩ : ∃ x0 xr, xs = x0 :: xr := by
    cases xs with
    | nil => exact absurd rfl hp.ne
    | cons a r => exact ⟨a, r, rfl⟩
  simp only [List.map_cons, List.cons.injEq] at e1
  have hw := hp.words
  simp only [List.headD_cons] at hw
  rw [e1.1, req_words h.1.1 h.1.2.1] at hw
  have hf := hp.fields
  simp only [List.tail_cons] at hf
  rw [e1.2, req_fields h.1.2.2.1] at hf
  refine ⟨⟨httpL.toArray⟩, map_bs_inj (by rw [← hw]; rfl), (pairs_inj hf).symm, bs_inj ?_⟩
  rw [bs_extract, List.take_of_length_le (i := s.size) (l := bs s) (by rw [bs_len]; omega)]
  exact e2

theorem slice_of_owns {w : World} {base : Nat} {t : TypeId} {size : Nat} {v : Value} {n : Nat} {xs : List Value} (h : w.ownsRow base t size v n xs) : ∃ oa cp, v = .slice oa n cp := by
  rcases h.2 with ⟨rfl, rfl⟩ | ⟨g, cap, cur, rfl, _⟩
  · exact ⟨none, 0, rfl⟩
  · exact ⟨_, cap, rfl⟩
theorem grown_below {w w' : World} (hb : Below w.heap.size w w') (row : Option Nat) : w.grownBy w' row := ⟨hb.os, hb.tape, hb.output, hb.size, fun k hk _ => hb.block k hk⟩
theorem grown_then {a w w' : World} {row : Option Nat} (h : a.grownBy w row) (k : w.grownBy w' row) : a.grownBy w' row :=
  ⟨k.os.trans h.os, k.tape.trans h.tape, k.output.trans h.output, Nat.le_trans h.size k.size, fun i hi hne => (k.block i (Nat.lt_of_lt_of_le hi h.size) hne).trans (h.block i hi hne)⟩
theorem grown_set (w : World) (r o : Nat) (v : Value) : w.grownBy (w.setCell ⟨r, o, none⟩ v) (some r) :=
  ⟨rfl, rfl, rfl, by simp, fun k _ hk => heap_setCell_other _ _ k _ (fun e => hk (by rw [e]))⟩
/-- The four cells of a request's memory, written. -/
def fourSet (w : World) (r : Nat) (a b c d : Value) : World := (((w.setCell ⟨r, 0, none⟩ a).setCell ⟨r, 1, none⟩ b).setCell ⟨r, 2, none⟩ c).setCell ⟨r, 3, none⟩ d
theorem four_facts {W : World} {R : Nat} {a b c d : Value} {t : TypeId} (h : W.heap[R]? = some (.cells #[a, b, c, d] t)) :
    (W.cell? ⟨R, 0, none⟩ = some a ∧ W.cell? ⟨R, 1, none⟩ = some b ∧ W.cell? ⟨R, 2, none⟩ = some c ∧ W.cell? ⟨R, 3, none⟩ = some d) ∧ W.frozen? ⟨R, 0, none⟩ = false ∧ W.frozen? ⟨R, 1, none⟩ = false ∧ W.frozen? ⟨R, 2, none⟩ = false ∧ W.frozen? ⟨R, 3, none⟩ = false := by
  refine ⟨⟨?_, ?_, ?_, ?_⟩, ?_, ?_, ?_, ?_⟩ <;> simp [World.cell?, World.frozen?, h]
theorem four_set {W : World} {R : Nat} {a b c d : Value} {t : TypeId} (h : W.heap[R]? = some (.cells #[a, b, c, d] t)) (a' b' c' d' : Value) : (fourSet W R a' b' c' d').heap[R]? = some (.cells #[a', b', c', d'] t) := by
  have := heap_set _ R 3 _ _ _ d' (heap_set _ R 2 _ _ _ c' (heap_set _ R 1 _ _ _ b' (heap_set W R 0 _ _ _ a' h)))
  simpa [fourSet] using this
theorem below_four {w W : World} {B R : Nat} {a b c d : Value} (h : Below B w W) (hR : B ≤ R) : Below B w (fourSet W R a b c d) :=
  (((h.setCell (p := ⟨R, 0, none⟩) hR _).setCell (p := ⟨R, 1, none⟩) hR _).setCell (p := ⟨R, 2, none⟩) hR _).setCell (p := ⟨R, 3, none⟩) hR _

end Go.Proofs.Ythlmnmbhgkmbfaa

namespace Go.Proofs.Ythlmnmbhgkmbfaa
open Go.RowKit
open Go.Lib hiding intOf

theorem owns_wide {w : World} {B base : Nat} {e : TypeId} {size : Nat} {v : Value} {n : Nat} {xs : List Value} (h : w.ownsRow base e size v n xs) (hB : B ≤ base) : w.ownsRow B e size v n xs := by
  obtain ⟨hl, hv⟩ := h
  refine ⟨hl, ?_⟩
  rcases hv with h0 | ⟨g, cap, cur, h1, h2, h3⟩
  · exact .inl h0
  · exact .inr ⟨g, cap, cur, h1, Nat.le_trans hB h2, h3⟩
theorem owns_same {w w' : World} {base : Nat} {e : TypeId} {size : Nat} {v : Value} {n : Nat} {xs : List Value} (h : w.ownsRow base e size v n xs) (hs : ∀ j, v.ownBlock = some j → w'.heap[j]? = w.heap[j]?) : w'.ownsRow base e size v n xs := by
  obtain ⟨hl, hv⟩ := h
  refine ⟨hl, ?_⟩
  rcases hv with h0 | ⟨g, cap, cur, rfl, h2, h3, h4⟩
  · exact .inl h0
  · exact .inr ⟨g, cap, cur, rfl, h2, by rw [hs g rfl]; exact h3, h4⟩

end Go.Proofs.Ythlmnmbhgkmbfaa

namespace Go.Proofs.Ythlmnmbhgkmbfaa
open Go.RowKit
open Go.Lib hiding intOf

/-- A request, as it is told. -/
structure RqD where
  m : Int
  p : ByteArray
  fs : List (ByteArray × ByteArray)
  b : ByteArray
/-- Its text. -/
def RqD.text (r : RqD) : List UInt8 := bs (reqT r.m r.p r.fs r.b)
def RqD.ok (r : RqD) : Prop := ReqP r.m r.p r.fs r.b
/-- The four cells of a request whose fields lie there. -/
def rqC (x : RqD × Value) : List Value := [.int .i64 x.1.m, .string x.1.p, x.2, .string x.1.b]
def flatR : List (RqD × Value) → List Value
  | [] => []
  | x :: t => rqC x ++ flatR t
theorem flatR_snoc (x : RqD × Value) : ∀ rv : List (RqD × Value), flatR (rv ++ [x]) = flatR rv ++ rqC x
  | [] => by simp [flatR]
  | y :: t => by rw [List.cons_append, flatR, flatR_snoc x t, flatR, List.append_assoc]
theorem own_noR {w : World} {base : Nat} {t : TypeId} {size : Nat} {v : Value} {n : Nat} {xs : List Value} {j : Nat} {cs : Array Value} {T : TypeId} {fr : Nat × Nat} (h : w.ownsRow base t size v n xs) (hT : T ≠ t) (hj : w.heap[j]? = some (.cells cs T fr)) : v.ownBlock ≠ some j := by
  intro e
  rcases h.2 with ⟨rfl, _⟩ | ⟨g, cap, cur, rfl, _, h1, _⟩
  · cases e
  · cases e
    rw [h1] at hj
    cases hj
    exact hT rfl
theorem own_ltR {w : World} {base : Nat} {t : TypeId} {size : Nat} {v : Value} {n : Nat} {xs : List Value} {j : Nat} (h : w.ownsRow base t size v n xs) (hj : v.ownBlock = some j) : base ≤ j ∧ j < w.heap.size := by
  rcases h.2 with ⟨rfl, _⟩ | ⟨g, cap, cur, rfl, h0, h1, _⟩
  · cases hj
  · cases hj
    exact ⟨h0, (Array.getElem?_eq_some_iff.1 h1).1⟩
theorem own_blockR {w : World} {base : Nat} {t : TypeId} {size : Nat} {v : Value} {n : Nat} {xs : List Value} {j : Nat} (h : w.ownsRow base t size v n xs) (hj : v.ownBlock = some j) : ∃ cur, w.heap[j]? = some (.cells cur t (0, 0)) := by
  rcases h.2 with ⟨rfl, _⟩ | ⟨g, cap, cur, rfl, h0, h1, _⟩
  · cases hj
  · cases hj
    exact ⟨cur, h1⟩
theorem own_two {w : World} {b1 b2 : Nat} {t1 t2 : TypeId} {s1 s2 : Nat} {v1 v2 : Value} {n1 n2 : Nat} {x1 x2 : List Value} {j : Nat} (h1 : w.ownsRow b1 t1 s1 v1 n1 x1) (h2 : w.ownsRow b2 t2 s2 v2 n2 x2) (hT : t1 ≠ t2) (hj : v1.ownBlock = some j) : v2.ownBlock ≠ some j := by
  obtain ⟨cur, hc⟩ := own_blockR h1 hj
  exact own_noR h2 hT hc

/-- A list of requests of one's own: the row, each one's fields, no two lists of fields in one block. -/
structure ReqsO (w : World) (base : Nat) (V : Value) (rv : List (RqD × Value)) : Prop where
  row : w.ownsRow base 26 4 V rv.length (flatR rv)
  own : ∀ x ∈ rv, w.ownsRow base 68 2 x.2 x.1.fs.length (flatF x.1.fs)
  apart : rv.Pairwise (fun a b => ∀ g, a.2.ownBlock = some g → b.2.ownBlock ≠ some g)
theorem ReqsO.nil (w : World) (base : Nat) : ReqsO w base (.slice none 0 0) [] := ⟨⟨rfl, .inl ⟨rfl, rfl⟩⟩, by simp, List.Pairwise.nil⟩
/-- All that stands in the blocks of the list stands: so does the list. -/
theorem ReqsO.same {w w' : World} {base : Nat} {V : Value} {rv : List (RqD × Value)} (h : ReqsO w base V rv) (hs : ∀ j, base ≤ j → j < w.heap.size → w'.heap[j]? = w.heap[j]?) : ReqsO w' base V rv :=
  ⟨owns_same h.row (fun j hj => hs j (own_ltR h.row hj).1 (own_ltR h.row hj).2), fun x hx => owns_same (h.own x hx) (fun j hj => hs j (own_ltR (h.own x hx) hj).1 (own_ltR (h.own x hx) hj).2), h.apart⟩
theorem ReqsO.later {w w' : World} {base : Nat} {V : Value} {rv : List (RqD × Value)} (h : ReqsO w base V rv) (hb : Below w.heap.size w w') : ReqsO w' base V rv := h.same (fun j _ hj => hb.block j hj)
/-- What lies wholly below a number outlives what is done above it. -/
theorem ReqsO.below {w w' : World} {base B : Nat} {V : Value} {rv : List (RqD × Value)} (h : ReqsO w base V rv) (hB : ∀ j, V.ownBlock = some j ∨ (∃ x ∈ rv, x.2.ownBlock = some j) → j < B) (hb : Below B w w') : ReqsO w' base V rv :=
  ⟨owns_same h.row (fun j hj => hb.block j (hB j (.inl hj))), fun x hx => owns_same (h.own x hx) (fun j hj => hb.block j (hB j (.inr ⟨x, hx, hj⟩))), h.apart⟩
theorem ReqsO.lt {w : World} {base : Nat} {V : Value} {rv : List (RqD × Value)} (h : ReqsO w base V rv) (j : Nat) (hj : V.ownBlock = some j ∨ (∃ x ∈ rv, x.2.ownBlock = some j)) : base ≤ j ∧ j < w.heap.size := by
  rcases hj with hj | ⟨x, hx, hj⟩
  · exact own_ltR h.row hj
  · exact own_ltR (h.own x hx) hj
/-- A request more, whose fields were made since. -/
theorem ReqsO.more {w W : World} {base base' : Nat} {V V' : Value} {rv : List (RqD × Value)} {r : RqD} {v : Value} (h : ReqsO w base V rv) (hb' : base ≤ base') (hv : w.ownsRow base' 68 2 v r.fs.length (flatF r.fs)) (hold : ∀ j, (∃ x ∈ rv, x.2.ownBlock = some j) → j < base')
    (hg : w.grownBy W V.ownBlock) (hrow : W.ownsRow base 26 4 V' (rv.length + 1) (flatR rv ++ rqC (r, v))) : ReqsO W base V' (rv ++ [(r, v)]) := by
  have hkeep : ∀ x ∈ rv, W.ownsRow base 68 2 x.2 x.1.fs.length (flatF x.1.fs) := fun x hx =>
    owns_same (h.own x hx) (fun j hj => hg.block j (own_ltR (h.own x hx) hj).2 (fun e => own_two (h.own x hx) h.row (by decide) hj e.symm))
  have hnew : W.ownsRow base 68 2 v r.fs.length (flatF r.fs) := by
    refine owns_wide ?_ hb'
    exact owns_same hv (fun j hj => hg.block j (own_ltR hv hj).2 (fun e => own_two hv h.row (by decide) hj e.symm))
  refine ⟨by rw [flatR_snoc, List.length_append]; exact hrow, fun x hx => ?_, ?_⟩
  · simp only [List.mem_append, List.mem_singleton] at hx
    rcases hx with hx | rfl
    · exact hkeep x hx
    · exact hnew
  · rw [List.pairwise_append]
    refine ⟨h.apart, List.pairwise_singleton _ _, fun a ha b hb g hg1 hg2 => ?_⟩
    simp only [List.mem_singleton] at hb
    subst hb
    have h1 := hold g ⟨a, ha, hg1⟩
    have h2 := (own_ltR hv hg2).1
    omega

end Go.Proofs.Ythlmnmbhgkmbfaa

namespace Go.Proofs.Ythlmnmbhgkmbfaa
open Go.RowKit
open Go.Lib hiding intOf

/-- The cells of it. -/
def CcD.cs (c : CcD) : Array Value := #[.bool c.ns, .bool c.nc, .bool c.pr, .bool c.mu, .bool c.ha, .int .i64 c.age]
/-- A block that holds it. -/
def CcAt (w : World) (g : Nat) (c : CcD) : Prop := w.heap[g]? = some (.cells c.cs 85)
theorem CcAt.cells {w : World} {g : Nat} {c : CcD} (h : CcAt w g c) : w.cell? ⟨g, 0, none⟩ = some (.bool c.ns) ∧ w.cell? ⟨g, 1, none⟩ = some (.bool c.nc) ∧ w.cell? ⟨g, 2, none⟩ = some (.bool c.pr) ∧ w.cell? ⟨g, 3, none⟩ = some (.bool c.mu) ∧ w.cell? ⟨g, 4, none⟩ = some (.bool c.ha) ∧ w.cell? ⟨g, 5, none⟩ = some (.int .i64 c.age) := by
  unfold CcAt CcD.cs at h
  refine ⟨?_, ?_, ?_, ?_, ?_, ?_⟩ <;> simp [World.cell?, h]
theorem CcAt.frozen {w : World} {g : Nat} {c : CcD} (h : CcAt w g c) (o : Nat) : w.frozen? ⟨g, o, none⟩ = false := by
  unfold CcAt at h
  simp [World.frozen?, h]
theorem CcAt.lt {w : World} {g : Nat} {c : CcD} (h : CcAt w g c) : g < w.heap.size := (Array.getElem?_eq_some_iff.1 h).1
theorem CcAt.same {w w' : World} {g : Nat} {c : CcD} (h : CcAt w g c) (hs : w'.heap[g]? = w.heap[g]?) : CcAt w' g c := by unfold CcAt; rw [hs]; exact h
theorem CcAt.put0 {w : World} {g : Nat} {c : CcD} (h : CcAt w g c) (x : Bool) : CcAt (w.setCell ⟨g, 0, none⟩ (.bool x)) g { c with ns := x } := by unfold CcAt at *; rw [heap_set _ _ _ _ _ _ _ h]; rfl
theorem CcAt.put1 {w : World} {g : Nat} {c : CcD} (h : CcAt w g c) (x : Bool) : CcAt (w.setCell ⟨g, 1, none⟩ (.bool x)) g { c with nc := x } := by unfold CcAt at *; rw [heap_set _ _ _ _ _ _ _ h]; rfl
theorem CcAt.put2 {w : World} {g : Nat} {c : CcD} (h : CcAt w g c) (x : Bool) : CcAt (w.setCell ⟨g, 2, none⟩ (.bool x)) g { c with pr := x } := by unfold CcAt at *; rw [heap_set _ _ _ _ _ _ _ h]; rfl
theorem CcAt.put3 {w : World} {g : Nat} {c : CcD} (h : CcAt w g c) (x : Bool) : CcAt (w.setCell ⟨g, 3, none⟩ (.bool x)) g { c with mu := x } := by unfold CcAt at *; rw [heap_set _ _ _ _ _ _ _ h]; rfl
theorem CcAt.put4 {w : World} {g : Nat} {c : CcD} (h : CcAt w g c) (x : Bool) : CcAt (w.setCell ⟨g, 4, none⟩ (.bool x)) g { c with ha := x } := by unfold CcAt at *; rw [heap_set _ _ _ _ _ _ _ h]; rfl
theorem CcAt.put5 {w : World} {g : Nat} {c : CcD} (h : CcAt w g c) (x : Int) : CcAt (w.setCell ⟨g, 5, none⟩ (.int .i64 x)) g { c with age := x } := by unfold CcAt at *; rw [heap_set _ _ _ _ _ _ _ h]; rfl
/-- All six cells of a block are stored. -/
def putCc (w : World) (g : Nat) (d : CcD) : World := (((((w.setCell ⟨g, 0, none⟩ (.bool d.ns)).setCell ⟨g, 1, none⟩ (.bool d.nc)).setCell ⟨g, 2, none⟩ (.bool d.pr)).setCell ⟨g, 3, none⟩ (.bool d.mu)).setCell ⟨g, 4, none⟩ (.bool d.ha)).setCell ⟨g, 5, none⟩ (.int .i64 d.age)
theorem CcAt.putAll {w : World} {g : Nat} {c : CcD} (h : CcAt w g c) (d : CcD) : CcAt (putCc w g d) g d :=
  (((((h.put0 d.ns).put1 d.nc).put2 d.pr).put3 d.mu).put4 d.ha).put5 d.age
/-- The name of the field that says it. -/
def ccName : ByteArray := ⟨#[99, 97, 99, 104, 101, 45, 99, 111, 110, 116, 114, 111, 108]⟩

/-- While words are read. -/
structure CcSt (w : World) (H : Nat) (c : CcD) (v : Value) (l : List ByteArray) (wr : World) : Prop where
  res : CcAt wr H cc0
  cur : CcAt wr (H + 1) c
  row : wr.ownsRow (H + 1 + 1) 9 1 v l.length (l.map Value.string)
  low : Below H w wr
theorem CcSt.later {w : World} {H : Nat} {c : CcD} {v : Value} {l : List ByteArray} {wr w' : World} (h : CcSt w H c v l wr) (hb : Below wr.heap.size wr w') : CcSt w H c v l w' :=
  ⟨h.res.same (hb.block _ h.res.lt), h.cur.same (hb.block _ h.cur.lt), owns_below h.row hb (fun _ hg => owns_lt h.row hg), h.low.trans (hb.mono (Nat.le_of_lt h.res.lt))⟩
theorem CcSt.put {w : World} {H : Nat} {c d : CcD} {v : Value} {l : List ByteArray} {wr : World} (h : CcSt w H c v l wr) {o : Nat} {x : Value} (hd : CcAt (wr.setCell ⟨H + 1, o, none⟩ x) (H + 1) d) : CcSt w H d v l (wr.setCell ⟨H + 1, o, none⟩ x) :=
  ⟨h.res.same (heap_setCell_other _ _ H _ (by show H ≠ H + 1; omega)), hd, owns_same h.row (fun j hj => heap_setCell_other _ _ j _ (by show j ≠ H + 1; have := (own_ltR h.row hj).1; omega)), h.low.setCell (by show H ≤ H + 1; omega) _⟩

end Go.Proofs.Ythlmnmbhgkmbfaa

namespace Go.Proofs.Ythlmnmbhgkmbfaa
open Go.RowKit
open Go.Lib hiding intOf

def tagName : ByteArray := ⟨#[101, 116, 97, 103]⟩
def inmName : ByteArray := ⟨#[105, 102, 45, 110, 111, 110, 101, 45, 109, 97, 116, 99, 104]⟩
open Classical in
/-- The fields of who is asked again. -/
noncomputable def askF (m : Int) (p : ByteArray) (fs : List (ByteArray × ByteArray)) (b : ByteArray) (gs : List (ByteArray × ByteArray)) : List (ByteArray × ByteArray) :=
  if getB gs tagName = true ∧ ReqP m p (putF fs inmName (getV gs tagName)) b then putF fs inmName (getV gs tagName) else dropF fs inmName
/-- Each field put. -/
def putAll (fs gs : List (ByteArray × ByteArray)) : List (ByteArray × ByteArray) := gs.foldl (fun l f => putF l f.1 f.2) fs
open Classical in
noncomputable def mergeF (st : Int) (fs : List (ByteArray × ByteArray)) (b : ByteArray) (gs : List (ByteArray × ByteArray)) : List (ByteArray × ByteArray) :=
  if RespP st (putAll fs gs) b then putAll fs gs else fs
def SameP (fs gs : List (ByteArray × ByteArray)) : Prop := getB fs inmName = true ∧ getB gs tagName = true ∧ getV fs inmName = getV gs tagName
open Classical in
noncomputable def shortF (gs : List (ByteArray × ByteArray)) : List (ByteArray × ByteArray) := gs.filter fun f => decide (f.1 = tagName ∨ f.1 = varyName ∨ f.1 = ccName)

theorem putF_le (fs : List (ByteArray × ByteArray)) (name value : ByteArray) : (putF fs name value).length ≤ fs.length + 1 := by
  unfold putF
  split
  · rw [List.length_set]; omega
  · rw [List.length_append]; simp
theorem putAll_le (fs gs : List (ByteArray × ByteArray)) : (putAll fs gs).length ≤ fs.length + gs.length := by
  unfold putAll
  induction gs generalizing fs with
  | nil => simp
  | cons f r ih =>
    rw [List.foldl_cons, List.length_cons]
    have h1 := ih (putF fs f.1 f.2)
    have h2 := putF_le fs f.1 f.2
    omega
theorem putAll_snoc (fs gs : List (ByteArray × ByteArray)) (f : ByteArray × ByteArray) : putAll fs (gs ++ [f]) = putF (putAll fs gs) f.1 f.2 := by simp [putAll]
theorem take_field (gs : List (ByteArray × ByteArray)) (k : Nat) (h : k < gs.length) : gs.take (k + 1) = gs.take k ++ [(nameAt gs k, valAt gs k)] := by
  rw [List.take_add_one, List.getElem?_eq_getElem h]
  unfold nameAt valAt
  rw [List.getD_eq_getElem?_getD, List.getElem?_eq_getElem h]
  rfl
open Classical in
theorem shortF_snoc (gs : List (ByteArray × ByteArray)) (f : ByteArray × ByteArray) : shortF (gs ++ [f]) = if f.1 = tagName ∨ f.1 = varyName ∨ f.1 = ccName then shortF gs ++ [f] else shortF gs := by
  unfold shortF
  rw [List.filter_append]
  by_cases h : f.1 = tagName ∨ f.1 = varyName ∨ f.1 = ccName
  · rw [if_pos h]; simp [h]
  · rw [if_neg h]; simp [h]
theorem shortF_le (gs : List (ByteArray × ByteArray)) : (shortF gs).length ≤ gs.length := List.length_filter_le _ _

theorem put_at (fs : List (ByteArray × ByteArray)) (name value : ByteArray) (i : Nat) (M : Nat) (h : ∀ i, i < fs.length → (nameAt fs i).size ≤ M ∧ (valAt fs i).size ≤ M) (h1 : name.size ≤ M) (h2 : value.size ≤ M) (hi : i < (putF fs name value).length) : (nameAt (putF fs name value) i).size ≤ M ∧ (valAt (putF fs name value) i).size ≤ M := by
  have hm : ∀ f ∈ fs, f.1.size ≤ M ∧ f.2.size ≤ M := fun f hf => by
    obtain ⟨j, hj, e⟩ := List.getElem_of_mem hf
    have := h j hj
    unfold nameAt valAt at this
    rw [List.getD_eq_getElem?_getD, List.getElem?_eq_getElem hj] at this
    rw [← e]
    exact this
  have hp : ∀ f ∈ putF fs name value, f.1.size ≤ M ∧ f.2.size ≤ M := fun f hf => by
    unfold putF at hf
    split at hf
    · rename_i hin
      rcases List.mem_or_eq_of_mem_set hf with hf | hf
      · exact hm f hf
      · subst hf
        refine ⟨?_, h2⟩
        first
          | exact h1
          | exact (h _ hin).1
    · rcases List.mem_append.1 hf with hf | hf
      · exact hm f hf
      · rw [List.mem_singleton.1 hf]; exact ⟨h1, h2⟩
  unfold nameAt valAt
  rw [List.getD_eq_getElem?_getD, List.getElem?_eq_getElem hi]
  exact hp _ (List.getElem_mem hi)
theorem put_walk (fs : List (ByteArray × ByteArray)) (name value : ByteArray) (h : WalkF fs.length fs) (h1 : name.size ≤ maxLen) (h2 : value.size ≤ maxLen) : WalkF (putF fs name value).length (putF fs name value) :=
  fun i hi => put_at fs name value i maxLen h h1 h2 hi

end Go.Proofs.Ythlmnmbhgkmbfaa

namespace Go.Proofs.Ythlmnmbhgkmbfaa
open Go.RowKit
open Go.Lib hiding intOf

set_option maxHeartbeats 1000000 in
theorem specSame_any (m : Int) (p : ByteArray) (v : Value) (b : ByteArray) (n base : Nat) (fs : List (ByteArray × ByteArray)) (u : Value) (k base2 : Nat) (gs : List (ByteArray × ByteArray)) (w : World) (hv : FieldsV w base v n fs) (hn : n ≤ 1073741824) (hu : FieldsV w base2 u k gs) (hk : k ≤ 1073741824) :
    Calls Try.prog 18 #[.agg #[.int .i64 m, .string p, v, .string b], u] w fun e w' => BoolIs (SameP fs gs) w e w' := by
  obtain ⟨oa, cap, rfl, _⟩ := hv.slice
  obtain ⟨W0, hW0⟩ : ∃ W, W = w.alloc (.cells #[.int .i64 m, .string p, .slice oa n cap, .string b] 26) := ⟨_, rfl⟩
  have HW0 : Hid (w.alloc (.cells #[.int .i64 m, .string p, .slice oa n cap, .string b] 26) = W0) := hW0.symm
  have b0 : Below w.heap.size w W0 := by rw [hW0]; exact (Below.refl _ w).alloc (Nat.le_refl _) _
  have hv0 := hv.below b0
  have HU : Hid (FieldsV W0 base2 u k gs) := hu.below b0
  obtain ⟨⟨_, _, c2, _⟩, _⟩ := four_facts (show W0.heap[w.heap.size]? = some (.cells #[.int .i64 m, .string p, .slice oa n cap, .string b] 26) by rw [hW0]; exact heap_alloc_new w _)
  have HB : Hid (Below w.heap.size w W0) := b0
  obtain ⟨s, hs⟩ : ∃ s, s = getV fs inmName := ⟨_, rfl⟩
  obtain ⟨t, ht⟩ : ∃ s, s = getV gs tagName := ⟨_, rfl⟩
  obtain ⟨f1, hf1⟩ : ∃ s, s = getB fs inmName := ⟨_, rfl⟩
  obtain ⟨f2, hf2⟩ : ∃ s, s = getB gs tagName := ⟨_, rfl⟩
  have HQ : Hid (SameP fs gs ↔ f1 = true ∧ f2 = true ∧ s = t) := by show _ ↔ _; rw [hs, ht, hf1, hf2]; rfl
  have HE1 : Hid (getV fs inmName = s) := hs.symm
  have HE2 : Hid (getV gs tagName = t) := ht.symm
  have HE3 : Hid (getB fs inmName = f1) := hf1.symm
  have HE4 : Hid (getB gs tagName = f2) := hf2.symm
  obtain ⟨r, hr⟩ : ∃ r, r = w.heap.size := ⟨_, rfl⟩
  have HR : Hid (w.heap.size = r) := hr.symm
  rw [← hr] at c2
  clear hW0 b0 hv hu hs ht hf1 hf2
  go_enter Try.func18, Try.ntmps18
  go_upto_region 1 with fail
  rw [HW0.out, ← hr]
  clear hr HW0
  go_wp2_with fail
  refine (specGet_any _ n base fs inmName _ hv0 hn).mono ?_
  rintro e w1 ⟨rfl, rfl⟩
  rw [HE1.out, HE3.out]
  clear hv0 c2
  go_wp2_with fail
  refine (specGet_any u k base2 gs tagName _ HU.out hk).mono ?_
  rintro e w2 ⟨rfl, rfl⟩
  rw [HE2.out, HE4.out]
  cases f1 with
  | false =>
    have HF : Hid (¬ SameP fs gs) := fun h => nomatch (HQ.out.1 h).1
    go_wp2_with fail
    go_ret
    exact BoolIs.no HF.out HB.out
  | true =>
    cases f2 with
    | false =>
      have HF : Hid (¬ SameP fs gs) := fun h => nomatch (HQ.out.1 h).2.1
      go_wp2_with fail
      go_ret
      exact BoolIs.no HF.out HB.out
    | true =>
      have HT : Hid ((s.toList == t.toList) = true ↔ SameP fs gs) := by show _ ↔ _; rw [HQ.out, text_beq]; simp
      go_wp2_with fail
      go_ret
      exact ⟨_, rfl, HT.out, HB.out⟩

end Go.Proofs.Ythlmnmbhgkmbfaa
