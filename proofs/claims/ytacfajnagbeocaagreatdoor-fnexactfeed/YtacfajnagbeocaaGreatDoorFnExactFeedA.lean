/- What the proof of FnExactFeed leans on: contracts of the program's and the specification's functions, and plain facts (part 1 of 3). -/
import Derived.Test.YtacfajnagbeocaaGreatDoorCards
import Derived.Test.YtacfajnagbeocaaGreatDoorProg
import Derived.Test.YtacfajnagbeocaaGreatDoorRows
import Derived.Test.YtacfajnagbeocaaGreatDoorTie
import Derived.Below
import Derived.BigQuiet
import Derived.ChangeOld
import Derived.Deep.AppendLies
import Derived.Deep.DeepHandedRow
import Derived.Deep.DrawnRows
import Derived.Deep.QuietTactic
import Derived.Deep.RegionHeld3
import Derived.Deep.RegionLaw
import Derived.Deep.RegionWith
import Derived.Deep.SlicePairs
import Derived.Laws.AppendOwnNone
import Derived.Laws.BytesArg
import Derived.Laws.EntriesVeiled
import Derived.Laws.MakeOwn
import Derived.Laws.RangeAny
import Derived.Lib.AppendIntMem
import Derived.Lib.BufferOwn
import Derived.Lib.ConvBytes
import Derived.Lib.CutLaws
import Derived.Lib.LaidTab
import Derived.Lib.SliceRun
import Derived.Lib.Strings
import Derived.Lib.Walk
import Derived.OpenShut
import Derived.ProofKit
import Derived.Shelf.LaysM
import Derived.Shelf.Small.Wraps
import Derived.Shelf.Strconv.Clone
import Derived.Shelf.Strconv.Itoa0
import Derived.Shelf.Strconv.Itoa1
import Derived.Shelf.Strconv.Itoa2
import Derived.Shelf.Strconv.Itoa3
import Derived.Shelf.Strings.Builder1
import Derived.Shelf.Strings.BuilderF
import Derived.Shelf.Strings.BuilderK
import Derived.Shelf.Strings.Cut
import Derived.Shelf.Strings.Prefix
import Derived.Shelf.Strings.Search1
import Derived.Shelf.Strings.Search2
import Derived.Shelf.Strings.Search3
import Derived.Shelf.Strings.Shaped
import Derived.ShutString
import Derived.WalkKit
import Derived.WalkLawsBesides
import Derived.WalkSpells
namespace Go.Proofs.YtacfajnagbeocaaGreatDoor
open Go.RowKit

/-- The kind of a rune, in the order of the tests. -/
def cls (r : Int) : Int :=
  if 65 ≤ r ∧ r ≤ 90 then 0 else if 97 ≤ r ∧ r ≤ 122 then 1 else if 48 ≤ r ∧ r ≤ 57 then 2 else if r = 45 then 3 else if r = 32 then 4 else if r = 44 then 5 else if 32 ≤ r ∧ r ≤ 126 then 6 else 7

def testsV : Value := .agg #[.func (.func 72) #[] #[], .func (.func 73) #[] #[], .func (.func 74) #[] #[], .func (.func 75) #[] #[], .func (.func 76) #[] #[], .func (.func 77) #[] #[], .func (.func 78) #[] #[]]

theorem cls_spec (r : Int) : (cls r = 0 ∧ 65 ≤ r ∧ r ≤ 90) ∨ (cls r = 1 ∧ 97 ≤ r ∧ r ≤ 122) ∨ (cls r = 2 ∧ 48 ≤ r ∧ r ≤ 57) ∨ (cls r = 3 ∧ r = 45) ∨ (cls r = 4 ∧ r = 32) ∨ (cls r = 5 ∧ r = 44) ∨ (cls r = 6 ∧ 32 ≤ r ∧ r ≤ 126 ∧ (r < 65 ∨ 90 < r) ∧ (r < 97 ∨ 122 < r) ∧ (r < 48 ∨ 57 < r) ∧ r ≠ 45 ∧ r ≠ 32 ∧ r ≠ 44) ∨ (cls r = 7 ∧ (r < 32 ∨ 126 < r)) := by
  unfold cls
  repeat' split
  all_goals omega

theorem ret_int {k : IntKind} {a b : Int} (h : a = b) : Ending.returned (.int k a) = .returned (.int k b) := by rw [h]

set_option maxHeartbeats 400000 in
theorem byteTests_any (w : World) :
    Calls Tryz.prog 63 #[] w fun e w' => e = .returned testsV ∧ Below w.heap.size w w' := by
  go_enter Tryz.func63, Tryz.ntmps63
  go_wp2
  exact bodyPost_ret (v := testsV) (by simp [results, Tryz.results63, go_sem, testsV]) rfl ⟨rfl, (Below.refl _ _).alloc (Nat.le_refl _) _⟩

set_option maxHeartbeats 1000000 in
theorem classOf_any (r : Int) (w : World) :
    Calls Tryz.prog 51 #[.int .i32 r] w fun e w' => e = .returned (.int .i64 (cls r)) ∧ Below w.heap.size w w' := by
  have i0 : ∀ w : World, (Instr.index 97 testsV (.int .i64 0)).run Tryz.prog w = .ok (.func (.func 72) #[] #[]) w := fun _ => by kernel_rfl
  have i1 : ∀ w : World, (Instr.index 97 testsV (.int .i64 1)).run Tryz.prog w = .ok (.func (.func 73) #[] #[]) w := fun _ => by kernel_rfl
  have i2 : ∀ w : World, (Instr.index 97 testsV (.int .i64 2)).run Tryz.prog w = .ok (.func (.func 74) #[] #[]) w := fun _ => by kernel_rfl
  have i3 : ∀ w : World, (Instr.index 97 testsV (.int .i64 3)).run Tryz.prog w = .ok (.func (.func 75) #[] #[]) w := fun _ => by kernel_rfl
  have i4 : ∀ w : World, (Instr.index 97 testsV (.int .i64 4)).run Tryz.prog w = .ok (.func (.func 76) #[] #[]) w := fun _ => by kernel_rfl
  have i5 : ∀ w : World, (Instr.index 97 testsV (.int .i64 5)).run Tryz.prog w = .ok (.func (.func 77) #[] #[]) w := fun _ => by kernel_rfl
  have i6 : ∀ w : World, (Instr.index 97 testsV (.int .i64 6)).run Tryz.prog w = .ok (.func (.func 78) #[] #[]) w := fun _ => by kernel_rfl
  go_enter Tryz.func51, Tryz.ntmps51
  go_wp2_with (go_at_call 63; refine (byteTests_any _).mono ?_; rintro e w1 ⟨rfl, hb⟩)
  go_loop [6] (fun i => ∃ k : Nat, k ≤ 7 ∧ (k : Int) ≤ cls r ∧ i = .int .i64 k) (fun i => 7 - (intOf i).toNat)
  case atStart => exact ⟨0, by omega, by have := cls_spec r; omega, rfl⟩
  case round =>
    obtain ⟨k, hk, hc, rfl⟩ := hrel
    have hk5 : k = 0 ∨ k = 1 ∨ k = 2 ∨ k = 3 ∨ k = 4 ∨ k = 5 ∨ k = 6 ∨ k = 7 := by omega
    rcases hk5 with rfl | rfl | rfl | rfl | rfl | rfl | rfl | rfl
    all_goals have HS : Hid _ := cls_spec r
    · go_wp2
      · go_ret
        exact ⟨ret_int (by have := HS.out; omega), hb⟩
      · go_round
        case rel => exact ⟨1, by omega, by have := HS.out; omega, rfl⟩
        case measure => simp [intOf]
      · go_round
        case rel => exact ⟨1, by omega, by have := HS.out; omega, rfl⟩
        case measure => simp [intOf]
    · go_wp2
      · go_ret
        exact ⟨ret_int (by have := HS.out; omega), hb⟩
      · go_round
        case rel => exact ⟨2, by omega, by have := HS.out; omega, rfl⟩
        case measure => simp [intOf]
      · go_round
        case rel => exact ⟨2, by omega, by have := HS.out; omega, rfl⟩
        case measure => simp [intOf]
    · go_wp2
      · go_ret
        exact ⟨ret_int (by have := HS.out; omega), hb⟩
      · go_round
        case rel => exact ⟨3, by omega, by have := HS.out; omega, rfl⟩
        case measure => simp [intOf]
      · go_round
        case rel => exact ⟨3, by omega, by have := HS.out; omega, rfl⟩
        case measure => simp [intOf]
    · by_cases hv : r = 45
      · have ht : (r == 45) = true := beq_iff_eq.2 hv
        have HV : Hid (r = 45) := hv
        clear hv
        go_wp2
        go_ret
        exact ⟨ret_int (by have := HS.out; have := HV.out; omega), hb⟩
      · have ht : (r == 45) = false := beq_eq_false_iff_ne.2 hv
        go_wp2
        go_round
        case rel => exact ⟨4, by omega, by have := HS.out; omega, rfl⟩
        case measure => simp [intOf]
    · by_cases hv : r = 32
      · have ht : (r == 32) = true := beq_iff_eq.2 hv
        have HV : Hid (r = 32) := hv
        clear hv
        go_wp2
        go_ret
        exact ⟨ret_int (by have := HS.out; have := HV.out; omega), hb⟩
      · have ht : (r == 32) = false := beq_eq_false_iff_ne.2 hv
        go_wp2
        go_round
        case rel => exact ⟨5, by omega, by have := HS.out; omega, rfl⟩
        case measure => simp [intOf]
    · by_cases hv : r = 44
      · have ht : (r == 44) = true := beq_iff_eq.2 hv
        have HV : Hid (r = 44) := hv
        clear hv
        go_wp2
        go_ret
        exact ⟨ret_int (by have := HS.out; have := HV.out; omega), hb⟩
      · have ht : (r == 44) = false := beq_eq_false_iff_ne.2 hv
        go_wp2
        go_round
        case rel => exact ⟨6, by omega, by have := HS.out; omega, rfl⟩
        case measure => simp [intOf]
    · go_wp2
      · go_ret
        exact ⟨ret_int (by have := HS.out; omega), hb⟩
      · go_round
        case rel => exact ⟨7, by omega, by have := HS.out; omega, rfl⟩
        case measure => simp [intOf]
      · go_round
        case rel => exact ⟨7, by omega, by have := HS.out; omega, rfl⟩
        case measure => simp [intOf]
    · go_wp2
      go_ret
      exact ⟨ret_int (by have := HS.out; omega), hb⟩
end Go.Proofs.YtacfajnagbeocaaGreatDoor

namespace Go.Proofs.YtacfajnagbeocaaGreatDoor
open Go.RowKit
open Go.Lib hiding intOf

/-- The bytes of a token. -/
def TokB (n : Int) : Prop := (97 ≤ n ∧ n ≤ 122) ∨ (48 ≤ n ∧ n ≤ 57) ∨ n = 45
def ValB (n : Int) : Prop := 32 ≤ n ∧ n ≤ 126
theorem tok_cls (n : Int) : TokB n ↔ cls n = 1 ∨ cls n = 2 ∨ cls n = 3 := by
  have := cls_spec n; unfold TokB; omega
theorem val_cls (n : Int) : ValB n ↔ cls n ≠ 7 := by
  have := cls_spec n; unfold ValB; omega
theorem tok_small {n : Int} (h : TokB n) : n < 128 := by unfold TokB at h; omega
theorem val_small {n : Int} (h : ValB n) : n < 128 := by unfold ValB at h; omega

/-- A call answers a bool that says whether p, and turns nothing that was there. -/
def BoolIs (p : Prop) (w : World) (e : Ending) (w' : World) : Prop := ∃ b : Bool, e = .returned (.bool b) ∧ (b = true ↔ p) ∧ Below w.heap.size w w'
theorem BoolIs.yes {p : Prop} {w w' : World} (hp : p) (hb : Below w.heap.size w w') : BoolIs p w (.returned (.bool true)) w' := ⟨true, rfl, by simpa using hp, hb⟩
theorem BoolIs.no {p : Prop} {w w' : World} (hp : ¬ p) (hb : Below w.heap.size w w') : BoolIs p w (.returned (.bool false)) w' := ⟨false, rfl, by simpa using hp, hb⟩

/-- Every byte of the text is such a one. -/
def AllB (p : Int → Prop) (s : ByteArray) : Prop := ∀ j (h : j < s.size), p ((s[j]'h).toNat : Int)
/-- Every byte ahead of 'pos' is such a one. -/
def AllTo (p : Int → Prop) (s : ByteArray) (pos : Nat) : Prop := ∀ j (h : j < s.size), j < pos → p ((s[j]'h).toNat : Int)
theorem allTo_zero (p : Int → Prop) (s : ByteArray) : AllTo p s 0 := fun _ _ h => absurd h (by omega)
theorem allTo_end {p : Int → Prop} {s : ByteArray} {pos : Nat} (h : AllTo p s pos) (hp : ¬ pos < s.size) : AllB p s := fun j hj => h j hj (by omega)
theorem allTo_succ {p : Int → Prop} {s : ByteArray} {pos : Nat} (h : AllTo p s pos) (hp : pos < s.size) (hv : p ((s[pos]'hp).toNat : Int)) : AllTo p s (pos + 1) := by
  intro j hj hlt
  by_cases e : j = pos
  · subst e; exact hv
  · exact h j hj (by omega)
/-- A rune that is such a one is a byte of its own. -/
theorem rune_ok {p : Int → Prop} (hs : ∀ n, p n → n < 128) (s : ByteArray) (pos : Nat) (hp : pos < s.size) (h : p ((Utf8.decode s pos).1 : Int)) :
    p ((s[pos]'hp).toNat : Int) ∧ (Utf8.decode s pos).2 = 1 := by
  by_cases ha : (s[pos]'hp).toNat < 128
  · rw [decode_ascii s pos hp ha] at h ⊢
    exact ⟨h, rfl⟩
  · have := (decode_high s pos hp (by omega)).1
    have := hs _ h
    omega
theorem rune_no {p : Int → Prop} (hs : ∀ n, p n → n < 128) (s : ByteArray) (pos : Nat) (hp : pos < s.size) (h : ¬ p ((Utf8.decode s pos).1 : Int)) : ¬ AllB p s := by
  intro ha
  have h1 := ha pos hp
  have h2 := hs _ h1
  rw [decode_ascii s pos hp (by omega)] at h
  exact h h1

/-- Behind a call that only makes memory the iterator stands where it was set. -/
theorem iter_step {w wr w1 : World} {s : ByteArray} {pos p1 : Nat} (hh : wr.heap[w.heap.size]? = some (.stringIter s pos)) (hbw : Below w.heap.size w wr)
    (hb1 : Below (wr.iterAt w.heap.size s p1).heap.size (wr.iterAt w.heap.size s p1) w1) : w1.heap[w.heap.size]? = some (.stringIter s p1) ∧ Below w.heap.size w w1 := by
  have hlt : w.heap.size < wr.heap.size := (Array.getElem?_eq_some_iff.1 hh).1
  refine ⟨?_, ?_⟩
  · rw [hb1.block _ (by rw [iterAt_size]; exact hlt)]
    exact iterAt_heap _ _ _ _ _ hh
  · exact (below_iterAt hbw (Nat.le_refl _) s p1).trans (hb1.mono (by rw [iterAt_size]; omega))

set_option maxHeartbeats 400000 in
theorem isTokenRune_any (r : Int) (w : World) :
    Calls Tryz.prog 99 #[.int .i32 r] w fun e w' => BoolIs (TokB r) w e w' := by
  rw [tok_cls]
  go_enter Tryz.func99, Tryz.ntmps99
  go_wp2_with (go_at_call 51; refine (classOf_any _ _).mono ?_; rintro e w1 ⟨rfl, hb⟩)
  all_goals
    go_ret
    exact ⟨_, rfl, by simp_all, hb⟩

set_option maxHeartbeats 400000 in
theorem isValueRune_any (r : Int) (w : World) :
    Calls Tryz.prog 100 #[.int .i32 r] w fun e w' => BoolIs (ValB r) w e w' := by
  rw [val_cls]
  go_enter Tryz.func100, Tryz.ntmps100
  go_wp2_with (go_at_call 51; refine (classOf_any _ _).mono ?_; rintro e w1 ⟨rfl, hb⟩)
  go_ret
  exact ⟨_, rfl, by simp, hb⟩

set_option maxHeartbeats 1000000 in
theorem allRunes_tok (s : ByteArray) (w : World) :
    Calls Tryz.prog 82 #[.string s, .func (.func 99) #[] #[]] w fun e w' => BoolIs (AllB TokB s) w e w' := by
  go_enter Tryz.func82, Tryz.ntmps82
  go_wp2
  go_loopw [6] (fun _ wr => ∃ pos : Nat, wr.heap[w.heap.size]? = some (.stringIter s pos) ∧ Below w.heap.size w wr ∧ Hid (AllTo TokB s pos)) (fun _ wr => s.size - wr.iterPos w.heap.size)
  case atStart => exact ⟨0, World.iter_heap _ _ _, (Below.refl _ _).alloc (Nat.le_refl _) _, allTo_zero _ _⟩
  case round =>
    obtain ⟨pos, hh, hbw, hall⟩ := hrel
    by_cases hp : pos < s.size
    · have hnx := fun ty => run_next_any_at (P := Tryz.prog) wr w.heap.size s pos ty hh hp
      go_wp2_with (go_at_call 99; refine (isTokenRune_any _ _).mono ?_; rintro e w1 ⟨b, rfl, hbt, hb1⟩)
      · have hbf : b = false := by simpa using ‹(!b) = true›
        have hno : ¬ TokB ((Utf8.decode s pos).1 : Int) := fun h => by rw [hbt.2 h] at hbf; cases hbf
        go_ret
        exact BoolIs.no (rune_no (fun _ => tok_small) s pos hp hno) (iter_step hh hbw hb1).2
      · have hbf : b = true := by simpa using ‹(!b) = false›
        obtain ⟨hv, hone⟩ := rune_ok (fun _ => tok_small) s pos hp (hbt.1 hbf)
        rw [hone] at hb1
        obtain ⟨h1, h2⟩ := iter_step hh hbw hb1
        exact ⟨⟨pos + 1, h1, h2, allTo_succ hall.out hp hv⟩, by rw [iterPos_of h1, iterPos_of hh]; omega⟩
    · have hnx := fun ty => run_next_end_at (P := Tryz.prog) wr w.heap.size s pos ty hh hp
      go_wp2
      go_ret
      exact BoolIs.yes (allTo_end hall.out hp) hbw

set_option maxHeartbeats 1000000 in
theorem allRunes_val (s : ByteArray) (w : World) :
    Calls Tryz.prog 82 #[.string s, .func (.func 100) #[] #[]] w fun e w' => BoolIs (AllB ValB s) w e w' := by
  go_enter Tryz.func82, Tryz.ntmps82
  go_wp2
  go_loopw [6] (fun _ wr => ∃ pos : Nat, wr.heap[w.heap.size]? = some (.stringIter s pos) ∧ Below w.heap.size w wr ∧ Hid (AllTo ValB s pos)) (fun _ wr => s.size - wr.iterPos w.heap.size)
  case atStart => exact ⟨0, World.iter_heap _ _ _, (Below.refl _ _).alloc (Nat.le_refl _) _, allTo_zero _ _⟩
  case round =>
    obtain ⟨pos, hh, hbw, hall⟩ := hrel
    by_cases hp : pos < s.size
    · have hnx := fun ty => run_next_any_at (P := Tryz.prog) wr w.heap.size s pos ty hh hp
      go_wp2_with (go_at_call 100; refine (isValueRune_any _ _).mono ?_; rintro e w1 ⟨b, rfl, hbt, hb1⟩)
      · have hbf : b = false := by simpa using ‹(!b) = true›
        have hno : ¬ ValB ((Utf8.decode s pos).1 : Int) := fun h => by rw [hbt.2 h] at hbf; cases hbf
        go_ret
        exact BoolIs.no (rune_no (fun _ => val_small) s pos hp hno) (iter_step hh hbw hb1).2
      · have hbf : b = true := by simpa using ‹(!b) = false›
        obtain ⟨hv, hone⟩ := rune_ok (fun _ => val_small) s pos hp (hbt.1 hbf)
        rw [hone] at hb1
        obtain ⟨h1, h2⟩ := iter_step hh hbw hb1
        exact ⟨⟨pos + 1, h1, h2, allTo_succ hall.out hp hv⟩, by rw [iterPos_of h1, iterPos_of hh]; omega⟩
    · have hnx := fun ty => run_next_end_at (P := Tryz.prog) wr w.heap.size s pos ty hh hp
      go_wp2
      go_ret
      exact BoolIs.yes (allTo_end hall.out hp) hbw

/-- What the chapter asks of a token. -/
def TokOk (s : ByteArray) : Prop := 1 ≤ s.size ∧ s.size ≤ 20 ∧ AllB TokB s

set_option maxHeartbeats 400000 in
theorem implTokenOk_any (s : ByteArray) (w : World) (hs : s.size ≤ maxLen) :
    Calls Tryz.prog 94 #[.string s] w fun e w' => BoolIs (TokOk s) w e w' := by
  unfold maxLen at hs
  by_cases h1 : (1 : Int) ≤ (s.size : Int)
  · by_cases h2 : (s.size : Int) ≤ 20
    · go_enter Tryz.func94, Tryz.ntmps94
      go_wp2_with (go_at_call 82; refine (allRunes_tok _ _).mono ?_; rintro e w1 ⟨b, rfl, hbt, hb1⟩)
      go_ret
      exact ⟨b, rfl, by unfold TokOk; rw [hbt]; exact ⟨fun h => ⟨by omega, by omega, h⟩, fun h => h.2.2⟩, hb1⟩
    · go_enter Tryz.func94, Tryz.ntmps94
      go_wp2_with fail
      go_ret
      exact BoolIs.no (by unfold TokOk; omega) (Below.refl _ _)
  · go_enter Tryz.func94, Tryz.ntmps94
    go_wp2_with fail
    go_ret
    exact BoolIs.no (by unfold TokOk; omega) (Below.refl _ _)

set_option maxHeartbeats 1000000 in
theorem specTokenOk_any (s : ByteArray) (w : World) (hs : s.size ≤ maxLen) :
    Calls Tryz.prog 56 #[.string s] w fun e w' => BoolIs (TokOk s) w e w' := by
  unfold maxLen at hs
  go_enter Tryz.func56, Tryz.ntmps56
  go_wp2
  go_loop [3] (fun i => ∃ k : Nat, k ≤ s.size ∧ i = .int .i64 k ∧ Hid (AllTo TokB s k)) (fun i => s.size - (intOf i).toNat)
  case atStart => exact ⟨0, Nat.zero_le _, rfl, allTo_zero _ _⟩
  case round =>
    obtain ⟨k, hk, rfl, hall⟩ := hrel
    by_cases hlt : k < s.size
    · go_wp2
      all_goals first
        | (go_ret
           have hno : ¬ TokB ((s[k]'hlt).toNat : Int) := by
             unfold TokB
             try simp only [bne_iff_ne, ne_eq] at *
             omega
           exact BoolIs.no (fun h => hno (h.2.2 k hlt)) (Below.refl _ _))
        | (go_round
           case rel =>
             have hy : TokB ((s[k]'hlt).toNat : Int) := by
               unfold TokB
               try simp only [bne_eq_false_iff_eq] at *
               omega
             exact ⟨k + 1, by omega, by go_num, allTo_succ hall.out hlt hy⟩
           case measure => simp [intOf]; omega)
    · have hend : Hid (AllB TokB s) := allTo_end hall.out hlt
      by_cases h1 : (1 : Int) ≤ (s.size : Int)
      · by_cases h2 : (s.size : Int) ≤ 20
        · go_wp2
          go_ret
          exact BoolIs.yes ⟨by omega, by omega, hend.out⟩ (Below.refl _ _)
        · go_wp2
          go_ret
          exact BoolIs.no (by unfold TokOk; omega) (Below.refl _ _)
      · go_wp2
        go_ret
        exact BoolIs.no (by unfold TokOk; omega) (Below.refl _ _)

end Go.Proofs.YtacfajnagbeocaaGreatDoor

namespace Go.Proofs
open Go.Shelf
def Tryz.lays169_ren : Go.Shelf.Ren := ⟨fun | 169 => 92 | n => n, fun | 70 => 106 | 9 => 9 | 0 => 0 | 72 => 108 | 37 => 61 | 127 => 89 | 3 => 3 | 5 => 5 | n => n, fun | n => n⟩
theorem Tryz.lays169 : Go.Proofs.Lays.n169 Tryz.prog Tryz.lays169_ren := {
  mixed := by kernel_rfl
  f169 := Tryz.func92.trans (congrArg some (by kernel_rfl))
  t0 := Tryz.underlying0
  a0 := Tryz.isAgg0
  z0 := Tryz.sizeOf0
  v0 := Tryz.zeroValue0
  t3 := Tryz.underlying3
  a3 := Tryz.isAgg3
  z3 := Tryz.sizeOf3
  v3 := Tryz.zeroValue3
  t9 := Tryz.underlying9
  a9 := Tryz.isAgg9
  z9 := Tryz.sizeOf9
  v9 := Tryz.zeroValue9
  t37 := Tryz.underlying61
  a37 := Tryz.isAgg61
  z37 := Tryz.sizeOf61
  v37 := Tryz.zeroValue61
  t70 := Tryz.underlying106
  a70 := Tryz.isAgg106
  z70 := Tryz.sizeOf106
  v70 := Tryz.zeroValue106
  t72 := Tryz.underlying108
  a72 := Tryz.isAgg108
  z72 := Tryz.sizeOf108
  v72 := Tryz.zeroValue108
  t127 := Tryz.underlying89
  a127 := Tryz.isAgg89
  z127 := Tryz.sizeOf89
  v127 := Tryz.zeroValue89 }
theorem Tryz.Builder_Extra_169 : Builder.Extra Tryz.prog Tryz.lays169_ren := {
  sizeBuilder := by kernel_rfl
  liesBuilder := by kernel_rfl
  t5 := Tryz.underlying5
  a5 := Tryz.isAgg5
  z5 := Tryz.sizeOf5
  v5 := Tryz.zeroValue5
  infoByte := by kernel_rfl
  cellsByte := by kernel_rfl
  sizeByte := by kernel_rfl
  neB5 := by decide }
open Go.RowKit in
theorem Tryz.Builder_String_any (B b : Nat) (l : List UInt8) (w : World) (h : Lib.IsBuilder 108 5 B b (Lib.byteCells l) w) (hBw : B ≤ w.heap.size) :
    Calls Tryz.prog 92 #[.pointer (some ⟨b, 0, none⟩)] w fun e w' => e = .returned (.string ⟨l.toArray⟩) ∧ Below B w w' := Any.Builder_String_any Tryz.lays169 Tryz.Builder_Extra_169 B b l w h hBw
def Tryz.lays103_ren : Go.Shelf.Ren := ⟨fun | 103 => 37 | 210 => 50 | 206 => 62 | n => n, fun | 9 => 9 | 4 => 4 | 24 => 68 | 3 => 3 | n => n, fun | n => n⟩
theorem Tryz.lays103 : Go.Proofs.Lays.n103 Tryz.prog Tryz.lays103_ren := {
  mixed := by kernel_rfl
  f103 := Tryz.func37.trans (congrArg some (by kernel_rfl))
  f206 := Tryz.func62.trans (congrArg some (by kernel_rfl))
  f210 := Tryz.func50.trans (congrArg some (by kernel_rfl))
  t3 := Tryz.underlying3
  a3 := Tryz.isAgg3
  z3 := Tryz.sizeOf3
  v3 := Tryz.zeroValue3
  t4 := Tryz.underlying4
  a4 := Tryz.isAgg4
  z4 := Tryz.sizeOf4
  v4 := Tryz.zeroValue4
  t9 := Tryz.underlying9
  a9 := Tryz.isAgg9
  z9 := Tryz.sizeOf9
  v9 := Tryz.zeroValue9
  t24 := Tryz.underlying68
  a24 := Tryz.isAgg68
  z24 := Tryz.sizeOf68
  v24 := Tryz.zeroValue68 }
open Go.RowKit in
theorem Tryz.strings_CutPrefix (s p : ByteArray) (w : World) :
    Calls Tryz.prog 37 #[.string s, .string p] w fun e w' => e = .returned (.tuple #[.string ⟨(Lib.trimPrefix s.data.toList p.data.toList).toArray⟩, .bool (Lib.hasPrefix s.data.toList p.data.toList)]) ∧ w' = w := Any.strings_CutPrefix Tryz.lays103 s p w
def Tryz.laysM171_ren : Go.Shelf.Ren := ⟨fun | 171 => 93 | 243 => 98 | 246 => 102 | 283 => 103 | 284 => 104 | 285 => 105 | 286 => 106 | 129 => 108 | 317 => 107 | 318 => 109 | 319 => 110 | 320 => 111 | 337 => 112 | 338 => 113 | n => n, fun | 3 => 3 | 9 => 9 | 2 => 2 | 4 => 4 | 171 => 116 | 0 => 0 | 53 => 117 | 37 => 61 | 5 => 5 | 173 => 120 | 212 => 123 | 51 => 91 | 20 => 20 | 213 => 124 | 46 => 76 | 232 => 127 | 233 => 128 | n => n, fun | 17 => 1 | 18 => 2 | 19 => 3 | n => n⟩
theorem Tryz.laysM171 : Go.Proofs.LaysM.n171 Tryz.prog Tryz.laysM171_ren := {
  mixed := by kernel_rfl
  f129 := Tryz.func108.trans (congrArg some (by kernel_rfl))
  f171 := Tryz.func93.trans (congrArg some (by kernel_rfl))
  f243 := Tryz.func98.trans (congrArg some (by kernel_rfl))
  f246 := Tryz.func102.trans (congrArg some (by kernel_rfl))
  f283 := Tryz.func103.trans (congrArg some (by kernel_rfl))
  f284 := Tryz.func104.trans (congrArg some (by kernel_rfl))
  f285 := Tryz.func105.trans (congrArg some (by kernel_rfl))
  f286 := Tryz.func106.trans (congrArg some (by kernel_rfl))
  f317 := Tryz.func107.trans (congrArg some (by kernel_rfl))
  f318 := Tryz.func109.trans (congrArg some (by kernel_rfl))
  f319 := Tryz.func110.trans (congrArg some (by kernel_rfl))
  f320 := Tryz.func111.trans (congrArg some (by kernel_rfl))
  f337 := Tryz.func112.trans (congrArg some (by kernel_rfl))
  f338 := Tryz.func113.trans (congrArg some (by kernel_rfl))
  t0 := Tryz.underlying0
  a0 := Tryz.isAgg0
  z0 := Tryz.sizeOf0
  v0 := Tryz.zeroValue0
  t2 := Tryz.underlying2
  a2 := Tryz.isAgg2
  z2 := Tryz.sizeOf2
  v2 := Tryz.zeroValue2
  t3 := Tryz.underlying3
  a3 := Tryz.isAgg3
  z3 := Tryz.sizeOf3
  v3 := Tryz.zeroValue3
  t4 := Tryz.underlying4
  a4 := Tryz.isAgg4
  z4 := Tryz.sizeOf4
  v4 := Tryz.zeroValue4
  t5 := Tryz.underlying5
  a5 := Tryz.isAgg5
  z5 := Tryz.sizeOf5
  v5 := Tryz.zeroValue5
  t9 := Tryz.underlying9
  a9 := Tryz.isAgg9
  z9 := Tryz.sizeOf9
  v9 := Tryz.zeroValue9
  t20 := Tryz.underlying20
  a20 := Tryz.isAgg20
  z20 := Tryz.sizeOf20
  v20 := Tryz.zeroValue20
  t37 := Tryz.underlying61
  a37 := Tryz.isAgg61
  z37 := Tryz.sizeOf61
  v37 := Tryz.zeroValue61
  t46 := Tryz.underlying76
  a46 := Tryz.isAgg76
  z46 := Tryz.sizeOf76
  v46 := Tryz.zeroValue76
  t51 := Tryz.underlying91
  a51 := Tryz.isAgg91
  z51 := Tryz.sizeOf91
  v51 := Tryz.zeroValue91
  t53 := Tryz.underlying117
  a53 := Tryz.isAgg117
  z53 := Tryz.sizeOf117
  v53 := Tryz.zeroValue117
  t171 := Tryz.underlying116
  a171 := Tryz.isAgg116
  z171 := Tryz.sizeOf116
  v171 := Tryz.zeroValue116
  t173 := Tryz.underlying120
  a173 := Tryz.isAgg120
  z173 := Tryz.sizeOf120
  v173 := Tryz.zeroValue120
  t212 := Tryz.underlying123
  a212 := Tryz.isAgg123
  z212 := Tryz.sizeOf123
  v212 := Tryz.zeroValue123
  t213 := Tryz.underlying124
  a213 := Tryz.isAgg124
  z213 := Tryz.sizeOf124
  t232 := Tryz.underlying127
  a232 := Tryz.isAgg127
  z232 := Tryz.sizeOf127
  v232 := Tryz.zeroValue127
  t233 := Tryz.underlying128
  a233 := Tryz.isAgg128
  z233 := Tryz.sizeOf128
  v233 := Tryz.zeroValue128
  g17 := by kernel_rfl
  g18 := by kernel_rfl
  g19 := by kernel_rfl
  i0 := by kernel_rfl
  i2 := by kernel_rfl
  i3 := by kernel_rfl
  i4 := by kernel_rfl
  i5 := by kernel_rfl
  i9 := by kernel_rfl
  i20 := by kernel_rfl
  i37 := by kernel_rfl
  i46 := by kernel_rfl
  i51 := by kernel_rfl
  i53 := by kernel_rfl
  i171 := by kernel_rfl
  i173 := by kernel_rfl
  i212 := by kernel_rfl
  i232 := by kernel_rfl
  i233 := by kernel_rfl
  m17 := by kernel_rfl
  m18 := by kernel_rfl
  m19 := by kernel_rfl }
open Go.RowKit Go.Sort Go.Lib in
theorem Tryz.strconv_Itoa (n : Int) (h0 : -9223372036854775808 ≤ n) (h1 : n ≤ 9223372036854775807) (w : World) (htab : Lib.TabIs Tryz.prog w "internal/strconv.uint64pow10" .u64 Lib.pow10Tab) :
    Calls Tryz.prog 93 #[.int .i64 n] w fun e w' => e = .returned (.string ⟨(Lib.itoa n).toArray⟩) ∧ ∃ k os, w' = grow (w.drewN k) os := Any.strconv_Itoa Tryz.laysM171 n h0 h1 w htab
def Tryz.laysM316_ren : Go.Shelf.Ren := ⟨fun | 316 => 40 | n => n, fun | 9 => 9 | 3 => 3 | 4 => 4 | 37 => 61 | 0 => 0 | 127 => 89 | 5 => 5 | n => n, fun | n => n⟩
theorem Tryz.laysM316 : Go.Proofs.LaysM.n316 Tryz.prog Tryz.laysM316_ren := {
  mixed := by kernel_rfl
  f316 := Tryz.func40.trans (congrArg some (by kernel_rfl))
  t0 := Tryz.underlying0
  a0 := Tryz.isAgg0
  z0 := Tryz.sizeOf0
  v0 := Tryz.zeroValue0
  t3 := Tryz.underlying3
  a3 := Tryz.isAgg3
  z3 := Tryz.sizeOf3
  v3 := Tryz.zeroValue3
  t4 := Tryz.underlying4
  a4 := Tryz.isAgg4
  z4 := Tryz.sizeOf4
  v4 := Tryz.zeroValue4
  t9 := Tryz.underlying9
  a9 := Tryz.isAgg9
  z9 := Tryz.sizeOf9
  v9 := Tryz.zeroValue9
  t37 := Tryz.underlying61
  a37 := Tryz.isAgg61
  z37 := Tryz.sizeOf61
  v37 := Tryz.zeroValue61
  t127 := Tryz.underlying89
  a127 := Tryz.isAgg89
  z127 := Tryz.sizeOf89
  v127 := Tryz.zeroValue89
  t5 := Tryz.underlying5
  a5 := Tryz.isAgg5
  z5 := Tryz.sizeOf5
  v5 := Tryz.zeroValue5
  i0 := by kernel_rfl
  i3 := by kernel_rfl
  i4 := by kernel_rfl
  i5 := by kernel_rfl
  i9 := by kernel_rfl
  i37 := by kernel_rfl
  i127 := by kernel_rfl }
open Go.RowKit in
theorem Tryz.stringslite_Clone (s : ByteArray) (w : World) (hlim : s.size ≤ 281474976710656) :
    Calls Tryz.prog 40 #[.string s] w fun e w' => e = .returned (.string s) ∧ Below w.heap.size w w' := Any.stringslite_Clone Tryz.laysM316 s w hlim
def Tryz.lays143_ren : Go.Shelf.Ren := ⟨fun | 143 => 27 | 219 => 35 | 217 => 45 | 225 => 46 | 224 => 47 | 267 => 48 | 266 => 59 | 314 => 60 | n => n, fun | 9 => 9 | 3 => 3 | 4 => 4 | 5 => 5 | 46 => 76 | 146 => 92 | 51 => 91 | n => n, fun | 1 => 0 | n => n⟩
theorem Tryz.lays143 : Go.Proofs.Lays.n143 Tryz.prog Tryz.lays143_ren := {
  mixed := by kernel_rfl
  f143 := Tryz.func27.trans (congrArg some (by kernel_rfl))
  f217 := Tryz.func45.trans (congrArg some (by kernel_rfl))
  f219 := Tryz.func35.trans (congrArg some (by kernel_rfl))
  f224 := Tryz.func47.trans (congrArg some (by kernel_rfl))
  f225 := Tryz.func46.trans (congrArg some (by kernel_rfl))
  f266 := Tryz.func59.trans (congrArg some (by kernel_rfl))
  f267 := Tryz.func48.trans (congrArg some (by kernel_rfl))
  f314 := Tryz.func60.trans (congrArg some (by kernel_rfl))
  t3 := Tryz.underlying3
  a3 := Tryz.isAgg3
  z3 := Tryz.sizeOf3
  v3 := Tryz.zeroValue3
  t4 := Tryz.underlying4
  a4 := Tryz.isAgg4
  z4 := Tryz.sizeOf4
  v4 := Tryz.zeroValue4
  t5 := Tryz.underlying5
  a5 := Tryz.isAgg5
  z5 := Tryz.sizeOf5
  v5 := Tryz.zeroValue5
  t9 := Tryz.underlying9
  a9 := Tryz.isAgg9
  z9 := Tryz.sizeOf9
  v9 := Tryz.zeroValue9
  t46 := Tryz.underlying76
  a46 := Tryz.isAgg76
  z46 := Tryz.sizeOf76
  v46 := Tryz.zeroValue76
  t51 := Tryz.underlying91
  a51 := Tryz.isAgg91
  z51 := Tryz.sizeOf91
  v51 := Tryz.zeroValue91
  t146 := Tryz.underlying92
  a146 := Tryz.isAgg92
  z146 := Tryz.sizeOf92
  v146 := Tryz.zeroValue92
  g1 := by kernel_rfl }
open Go.RowKit Go.Lib in
theorem Tryz.strings_Index (s sub : ByteArray) (m : Int) (w : World) (hs : s.size < 4294967281) (hm : w.cell? ⟨0, 0, none⟩ = some (.int .i64 m)) :
    Calls Tryz.prog 27 #[.string s, .string sub] w fun e w' => e = .returned (.int .i64 (Lib.index s.data.toList sub.data.toList)) ∧ w' = w := Any.strings_Index Tryz.lays143 s sub m w hs hm
def Tryz.lays145_ren : Go.Shelf.Ren := ⟨fun | 145 => 49 | 220 => 61 | 219 => 35 | 217 => 45 | 225 => 46 | 224 => 47 | 267 => 48 | 266 => 59 | 314 => 60 | n => n, fun | 9 => 9 | 4 => 4 | 59 => 78 | 3 => 3 | 5 => 5 | 46 => 76 | 146 => 92 | 51 => 91 | n => n, fun | 1 => 0 | n => n⟩
theorem Tryz.lays145 : Go.Proofs.Lays.n145 Tryz.prog Tryz.lays145_ren := {
  mixed := by kernel_rfl
  f145 := Tryz.func49.trans (congrArg some (by kernel_rfl))
  f217 := Tryz.func45.trans (congrArg some (by kernel_rfl))
  f219 := Tryz.func35.trans (congrArg some (by kernel_rfl))
  f220 := Tryz.func61.trans (congrArg some (by kernel_rfl))
  f224 := Tryz.func47.trans (congrArg some (by kernel_rfl))
  f225 := Tryz.func46.trans (congrArg some (by kernel_rfl))
  f266 := Tryz.func59.trans (congrArg some (by kernel_rfl))
  f267 := Tryz.func48.trans (congrArg some (by kernel_rfl))
  f314 := Tryz.func60.trans (congrArg some (by kernel_rfl))
  t3 := Tryz.underlying3
  a3 := Tryz.isAgg3
  z3 := Tryz.sizeOf3
  v3 := Tryz.zeroValue3
  t4 := Tryz.underlying4
  a4 := Tryz.isAgg4
  z4 := Tryz.sizeOf4
  v4 := Tryz.zeroValue4
  t5 := Tryz.underlying5
  a5 := Tryz.isAgg5
  z5 := Tryz.sizeOf5
  v5 := Tryz.zeroValue5
  t9 := Tryz.underlying9
  a9 := Tryz.isAgg9
  z9 := Tryz.sizeOf9
  v9 := Tryz.zeroValue9
  t46 := Tryz.underlying76
  a46 := Tryz.isAgg76
  z46 := Tryz.sizeOf76
  v46 := Tryz.zeroValue76
  t51 := Tryz.underlying91
  a51 := Tryz.isAgg91
  z51 := Tryz.sizeOf91
  v51 := Tryz.zeroValue91
  t59 := Tryz.underlying78
  a59 := Tryz.isAgg78
  z59 := Tryz.sizeOf78
  v59 := Tryz.zeroValue78
  t146 := Tryz.underlying92
  a146 := Tryz.isAgg92
  z146 := Tryz.sizeOf92
  v146 := Tryz.zeroValue92
  g1 := by kernel_rfl }
open Go.RowKit Go.Lib in
theorem Tryz.strings_Cut (s sep : ByteArray) (m : Int) (w : World) (hs : s.size < 4294967281) (hm : w.cell? ⟨0, 0, none⟩ = some (.int .i64 m)) :
    Calls Tryz.prog 49 #[.string s, .string sep] w fun e w' => e = .returned (.tuple #[.string ⟨(Lib.cut s.data.toList sep.data.toList).1.toArray⟩, .string ⟨(Lib.cut s.data.toList sep.data.toList).2.1.toArray⟩, .bool (Lib.cut s.data.toList sep.data.toList).2.2]) ∧ ∃ n, w' = w.drewN n := Any.strings_Cut Tryz.lays145 s sep m w hs hm
def Tryz.laysM145_ren : Go.Shelf.Ren := ⟨fun | 145 => 49 | 220 => 61 | 219 => 35 | 217 => 45 | 225 => 46 | 224 => 47 | 267 => 48 | 266 => 59 | 314 => 60 | n => n, fun | 9 => 9 | 4 => 4 | 59 => 78 | 3 => 3 | 5 => 5 | 46 => 76 | 146 => 92 | 51 => 91 | n => n, fun | 1 => 0 | n => n⟩
theorem Tryz.laysM145 : Go.Proofs.LaysM.n145 Tryz.prog Tryz.laysM145_ren := {
  mixed := by kernel_rfl
  f145 := Tryz.func49.trans (congrArg some (by kernel_rfl))
  f217 := Tryz.func45.trans (congrArg some (by kernel_rfl))
  f219 := Tryz.func35.trans (congrArg some (by kernel_rfl))
  f220 := Tryz.func61.trans (congrArg some (by kernel_rfl))
  f224 := Tryz.func47.trans (congrArg some (by kernel_rfl))
  f225 := Tryz.func46.trans (congrArg some (by kernel_rfl))
  f266 := Tryz.func59.trans (congrArg some (by kernel_rfl))
  f267 := Tryz.func48.trans (congrArg some (by kernel_rfl))
  f314 := Tryz.func60.trans (congrArg some (by kernel_rfl))
  t3 := Tryz.underlying3
  a3 := Tryz.isAgg3
  z3 := Tryz.sizeOf3
  v3 := Tryz.zeroValue3
  t4 := Tryz.underlying4
  a4 := Tryz.isAgg4
  z4 := Tryz.sizeOf4
  v4 := Tryz.zeroValue4
  t5 := Tryz.underlying5
  a5 := Tryz.isAgg5
  z5 := Tryz.sizeOf5
  v5 := Tryz.zeroValue5
  t9 := Tryz.underlying9
  a9 := Tryz.isAgg9
  z9 := Tryz.sizeOf9
  v9 := Tryz.zeroValue9
  t46 := Tryz.underlying76
  a46 := Tryz.isAgg76
  z46 := Tryz.sizeOf76
  v46 := Tryz.zeroValue76
  t51 := Tryz.underlying91
  a51 := Tryz.isAgg91
  z51 := Tryz.sizeOf91
  v51 := Tryz.zeroValue91
  t59 := Tryz.underlying78
  a59 := Tryz.isAgg78
  z59 := Tryz.sizeOf78
  v59 := Tryz.zeroValue78
  t146 := Tryz.underlying92
  a146 := Tryz.isAgg92
  z146 := Tryz.sizeOf92
  v146 := Tryz.zeroValue92
  g1 := by kernel_rfl
  i3 := by kernel_rfl
  i4 := by kernel_rfl
  i5 := by kernel_rfl
  i9 := by kernel_rfl
  i46 := by kernel_rfl
  i51 := by kernel_rfl
  i59 := by kernel_rfl
  i146 := by kernel_rfl
  m1 := by kernel_rfl
  s1_3 := fun w h => Go.Proofs.cell_of_shapedOpen_int (zero := #[.int .i64 0]) (t := 3) h (of_decide_eq_true (by kernel_rfl)) (by kernel_rfl) rfl (by kernel_rfl) (by kernel_rfl) Tryz.underlying3 }
def Tryz.lays99_ren : Go.Shelf.Ren := ⟨fun | 99 => 88 | 206 => 62 | n => n, fun | 9 => 9 | 4 => 4 | 3 => 3 | n => n, fun | n => n⟩
theorem Tryz.lays99 : Go.Proofs.Lays.n99 Tryz.prog Tryz.lays99_ren := {
  mixed := by kernel_rfl
  f99 := Tryz.func88.trans (congrArg some (by kernel_rfl))
  f206 := Tryz.func62.trans (congrArg some (by kernel_rfl))
  t3 := Tryz.underlying3
  a3 := Tryz.isAgg3
  z3 := Tryz.sizeOf3
  v3 := Tryz.zeroValue3
  t4 := Tryz.underlying4
  a4 := Tryz.isAgg4
  z4 := Tryz.sizeOf4
  v4 := Tryz.zeroValue4
  t9 := Tryz.underlying9
  a9 := Tryz.isAgg9
  z9 := Tryz.sizeOf9
  v9 := Tryz.zeroValue9 }
open Go.RowKit Go.Lib in
theorem Tryz.strings_HasPrefix (s p : ByteArray) (w : World) :
    Calls Tryz.prog 88 #[.string s, .string p] w fun e w' => e = .returned (.bool (Lib.hasPrefix s.data.toList p.data.toList)) ∧ w' = w := Any.strings_HasPrefix Tryz.lays99 s p w
def Tryz.lays101_ren : Go.Shelf.Ren := ⟨fun | 101 => 79 | 208 => 87 | 206 => 62 | n => n, fun | 9 => 9 | 4 => 4 | 3 => 3 | n => n, fun | n => n⟩
theorem Tryz.lays101 : Go.Proofs.Lays.n101 Tryz.prog Tryz.lays101_ren := {
  mixed := by kernel_rfl
  f101 := Tryz.func79.trans (congrArg some (by kernel_rfl))
  f206 := Tryz.func62.trans (congrArg some (by kernel_rfl))
  f208 := Tryz.func87.trans (congrArg some (by kernel_rfl))
  t3 := Tryz.underlying3
  a3 := Tryz.isAgg3
  z3 := Tryz.sizeOf3
  v3 := Tryz.zeroValue3
  t4 := Tryz.underlying4
  a4 := Tryz.isAgg4
  z4 := Tryz.sizeOf4
  v4 := Tryz.zeroValue4
  t9 := Tryz.underlying9
  a9 := Tryz.isAgg9
  z9 := Tryz.sizeOf9
  v9 := Tryz.zeroValue9 }
open Go.RowKit Go.Lib in
theorem Tryz.strings_TrimPrefix (s p : ByteArray) (w : World) :
    Calls Tryz.prog 79 #[.string s, .string p] w fun e w' => e = .returned (.string ⟨(Lib.trimPrefix s.data.toList p.data.toList).toArray⟩) ∧ w' = w := Any.strings_TrimPrefix Tryz.lays101 s p w
end Go.Proofs

namespace Go.Proofs.YtacfajnagbeocaaGreatDoor
open Go.RowKit

set_option maxHeartbeats 400000 in
theorem clone_any (s : ByteArray) (w : World) (hlim : s.size ≤ 281474976710656) :
    Calls Tryz.prog 30 #[.string s] w fun e w' => e = .returned (.string s) ∧ Below w.heap.size w w' := by
  go_enter Tryz.func30, Tryz.ntmps30
  go_wp2_with (go_at_call 40; refine (Tryz.stringslite_Clone _ _ hlim).mono ?_; rintro e w1 ⟨rfl, hb1⟩)
  go_ret
  exact ⟨rfl, hb1⟩

end Go.Proofs.YtacfajnagbeocaaGreatDoor

namespace Go.Proofs.YtacfajnagbeocaaGreatDoor

/-- The list without the blanks that it begins with. -/
def dropB : List UInt8 → List UInt8
  | [] => []
  | b :: r => if b.toNat = 32 then dropB r else b :: r
/-- .. and without those that it ends with. -/
def trimL (l : List UInt8) : List UInt8 := (dropB (dropB l).reverse).reverse
def trimOf (s : ByteArray) : ByteArray := ⟨(trimL s.data.toList).toArray⟩

theorem dropB_blanks : ∀ (x y : List UInt8), (∀ b ∈ x, b.toNat = 32) → dropB (x ++ y) = dropB y
  | [], _, _ => rfl
  | b :: r, y, h => by
    rw [List.cons_append, dropB, if_pos (h b (by simp))]
    exact dropB_blanks r y (fun c hc => h c (by simp [hc]))
theorem dropB_first (b : UInt8) (r : List UInt8) (h : b.toNat ≠ 32) : dropB (b :: r) = b :: r := by rw [dropB, if_neg h]

/-- From a on, up to b: what is left of s without its outer blanks. -/
structure IsTrim (s : ByteArray) (a b : Nat) : Prop where
  le : a ≤ b
  size : b ≤ s.size
  lead : ∀ j (h : j < s.size), j < a → (s[j]'h).toNat = 32
  tail : ∀ j (h : j < s.size), b ≤ j → (s[j]'h).toNat = 32
  first : ∀ h : a < s.size, a < b → (s[a]'h).toNat ≠ 32
  last : ∀ h : b - 1 < s.size, a < b → (s[b - 1]'h).toNat ≠ 32

theorem list_cut (l : List UInt8) (a b : Nat) (h : a ≤ b) : l = l.take a ++ ((l.take b).drop a ++ l.drop b) := by
  have h1 : (l.take b).take a = l.take a := by rw [List.take_take, Nat.min_eq_left h]
  have h2 : l.take b = l.take a ++ (l.take b).drop a := by
    have := (List.take_append_drop a (l.take b)).symm
    rw [h1] at this
    exact this
  have h3 := (List.take_append_drop b l).symm
  rw [h2, List.append_assoc] at h3
  exact h3

theorem trimL_mid (x y z : List UInt8) (hx : ∀ b ∈ x, b.toNat = 32) (hz : ∀ b ∈ z, b.toNat = 32) (h0 : ∀ b, y.head? = some b → b.toNat ≠ 32) (h1 : ∀ b, y.getLast? = some b → b.toNat ≠ 32) : trimL (x ++ (y ++ z)) = y := by
  unfold trimL
  rw [dropB_blanks x _ hx]
  cases y with
  | nil =>
    have : dropB ([] ++ z) = [] := by
      have := dropB_blanks z [] hz
      simpa [dropB] using this
    rw [this]; rfl
  | cons b r =>
    rw [List.cons_append, dropB_first b _ (h0 b rfl), ← List.cons_append, List.reverse_append, dropB_blanks _ _ (fun c hc => hz c (by simpa using hc))]
    cases hl : (b :: r).reverse with
    | nil => simp at hl
    | cons c q =>
      have hc : (b :: r).getLast? = some c := by rw [List.getLast?_eq_head?_reverse, hl]; rfl
      rw [dropB_first c q (h1 c hc), ← hl, List.reverse_reverse]

theorem byte_get (s : ByteArray) (j : Nat) (h : j < s.size) : s.data.toList[j]? = some (s[j]'h) := by
  rw [List.getElem?_eq_getElem (by simpa using h)]
  rfl

theorem trim_eq {s : ByteArray} {a b : Nat} (h : IsTrim s a b) : s.extract a b = trimOf s := by
  have hlen : s.data.toList.length = s.size := by simp
  have hext : (s.extract a b).data.toList = (s.data.toList.take b).drop a := by
    rw [ByteArray.data_extract, Array.toList_extract]
    simp [List.extract, List.drop_take]
  have hcut := list_cut s.data.toList a b h.le
  have hm := trimL_mid (s.data.toList.take a) ((s.data.toList.take b).drop a) (s.data.toList.drop b)
    (fun x hx => by
      obtain ⟨j, hj, rfl⟩ := List.getElem_of_mem hx
      have hj' : j < a ∧ j < s.size := by rw [List.length_take, hlen] at hj; omega
      have := h.lead j hj'.2 hj'.1
      rw [List.getElem_take]; exact this)
    (fun x hx => by
      obtain ⟨j, hj, rfl⟩ := List.getElem_of_mem hx
      have hj' : b + j < s.size := by rw [List.length_drop, hlen] at hj; omega
      have := h.tail (b + j) hj' (by omega)
      rw [List.getElem_drop]; exact this)
    (fun x hx => by
      rw [List.head?_eq_getElem?, List.getElem?_drop, List.getElem?_take] at hx
      split at hx
      · rename_i hlt
        have ha : a < s.size := by have := h.size; omega
        rw [Nat.add_zero, byte_get s a ha] at hx
        cases hx
        exact h.first ha (by omega)
      · cases hx)
    (fun x hx => by
      rw [List.getLast?_eq_getElem?, List.getElem?_drop, List.getElem?_take, List.length_drop, List.length_take, hlen] at hx
      have hsz := h.size; have hle := h.le
      rw [Nat.min_eq_left hsz] at hx
      split at hx
      · rename_i hlt
        have e : a + (b - a - 1) = b - 1 := by omega
        have hb : b - 1 < s.size := by omega
        rw [e, byte_get s (b - 1) hb] at hx
        cases hx
        exact h.last hb (by omega)
      · cases hx)
  rw [← hcut] at hm
  apply ByteArray.ext
  unfold trimOf
  rw [hm, ← hext]

/-- A text that begins and ends with no blank is trimmed already. -/
theorem trimOf_self {s : ByteArray} (h0 : ∀ h : 0 < s.size, (s[0]'h).toNat ≠ 32) (h1 : ∀ h : s.size - 1 < s.size, (s[s.size - 1]'h).toNat ≠ 32) : trimOf s = s := by
  rw [← trim_eq (s := s) (a := 0) (b := s.size) ⟨Nat.zero_le _, Nat.le_refl _, fun _ _ h => absurd h (by omega), fun _ h h' => absurd h (by omega), fun h _ => h0 h, fun h _ => h1 h⟩]
  apply ByteArray.ext
  simp

end Go.Proofs.YtacfajnagbeocaaGreatDoor

namespace Go.Proofs.YtacfajnagbeocaaGreatDoor
open Go.RowKit
open Go.Lib hiding intOf

/-- A call answers this text, and turns nothing that was there. -/
def TextIs (t : ByteArray) (w : World) (e : Ending) (w' : World) : Prop := e = .returned (.string t) ∧ Below w.heap.size w w'
theorem TextIs.of {t u : ByteArray} {w w' : World} (h : u = t) (hb : Below w.heap.size w w') : TextIs t w (.returned (.string u)) w' := ⟨by rw [h], hb⟩

set_option maxHeartbeats 1000000 in
theorem specTrim_any (s : ByteArray) (w : World) (hs : s.size ≤ maxLen) :
    Calls Tryz.prog 71 #[.string s] w fun e w' => TextIs (trimOf s) w e w' := by
  unfold maxLen at hs
  go_enter Tryz.func71, Tryz.ntmps71
  go_wp2
  go_loop [3] (fun i => ∃ k : Nat, k ≤ s.size ∧ i = .int .i64 k ∧ Hid (∀ j (h : j < s.size), j < k → (s[j]'h).toNat = 32)) (fun i => s.size - (intOf i).toNat)
  case atStart => exact ⟨0, Nat.zero_le _, rfl, fun _ _ h => absurd h (by omega)⟩
  case round =>
    obtain ⟨k, hk, rfl, hlead⟩ := hrel
    by_cases hlt : k < s.size
    · by_cases hb : (s[k]'hlt).toNat = 32
      · have ht2 : (((s[k]'hlt).toNat : Int) == 32) = true := by simp [hb]
        have HB : Hid ((s[k]'hlt).toNat = 32) := hb
        clear hb
        go_wp2
        go_round
        case rel =>
          refine ⟨k + 1, by omega, by go_num, ?_⟩
          intro j h hj
          by_cases e : j = k
          · subst e; exact HB.out
          · exact hlead.out j h (by omega)
        case measure => simp [intOf]; omega
      · have ht2 : (((s[k]'hlt).toNat : Int) == 32) = false := by
          rw [beq_eq_false_iff_ne]; omega
        have hfst : Hid ((s[k]'hlt).toNat ≠ 32) := hb
        clear hb
        go_wp2
        go_loop [4] (fun t => ∃ m : Nat, k ≤ m ∧ m < s.size ∧ t = .int .i64 ((m : Int) + 1) ∧ Hid (∀ j (h : j < s.size), m + 1 ≤ j → (s[j]'h).toNat = 32)) (fun t => (intOf t).toNat)
        case atStart => exact ⟨s.size - 1, by omega, by omega, by go_num, fun j h hj => absurd h (by omega)⟩
        case round =>
          obtain ⟨m, hkm, hms, rfl, htl⟩ := hrel
          have hc1 : (k : Int) < (m : Int) + 1 := by omega
          by_cases hb : (s[m]'hms).toNat = 32
          · have ht2 : (((s[m]'hms).toNat : Int) == 32) = true := by simp [hb]
            have hkm2 : k < m := by
              rcases Nat.lt_or_ge k m with h | h
              · exact h
              · exfalso
                have e : m = k := by omega
                subst e
                exact hfst.out hb
            have HB : Hid ((s[m]'hms).toNat = 32) := hb
            clear hb
            go_wp2
            go_round
            case rel =>
              refine ⟨m - 1, by omega, by omega, by go_num, ?_⟩
              intro j h hj
              by_cases e : j = m
              · subst e; exact HB.out
              · exact htl.out j h (by omega)
            case measure => simp [intOf]
          · have ht2 : (((s[m]'hms).toNat : Int) == 32) = false := by
              rw [beq_eq_false_iff_ne]; omega
            have hT : Hid (s.extract k (m + 1) = trimOf s) := trim_eq ⟨by omega, by omega, fun j h hj => hlead.out j h hj, fun j h hj => htl.out j h (by omega), fun _ _ => hfst.out, fun _ _ => hb⟩
            clear hb
            go_wp2
            go_ret
            exact TextIs.of hT.out (Below.refl _ _)
    · have hT : Hid (ByteArray.empty = trimOf s) := (show ByteArray.empty = s.extract s.size s.size by simp).trans (trim_eq ⟨Nat.le_refl _, Nat.le_refl _, fun j h _ => hlead.out j h (by omega), fun j h hj => absurd h (by omega), fun h => absurd h (by omega), fun _ h => absurd h (by omega)⟩)
      obtain rfl : k = s.size := by omega
      go_wp2
      go_loop [4] (fun t => t = .int .i64 (s.size : Int)) (fun t => (intOf t).toNat)
      case atStart => exact rfl
      case round =>
        subst hrel
        go_wp2
        go_ret
        exact TextIs.of hT.out (Below.refl _ _)

end Go.Proofs.YtacfajnagbeocaaGreatDoor

namespace Go.Proofs.YtacfajnagbeocaaGreatDoor
open Go.RowKit
open Go.Lib hiding intOf

/-- What the chapter asks of a value. -/
def ValOk (s : ByteArray) : Prop := 1 ≤ s.size ∧ s.size ≤ 60 ∧ AllB ValB s ∧ trimOf s = s
/-- A text of at least one byte is trimmed already just where its first and its last byte are no blanks. -/
theorem trim_self_iff (s : ByteArray) (h1 : 1 ≤ s.size) : trimOf s = s ↔ ((s[0]'(by omega)).toNat ≠ 32 ∧ (s[s.size - 1]'(by omega)).toNat ≠ 32) := by
  constructor
  · intro h
    have hl : trimL s.data.toList = s.data.toList := by
      have := congrArg (fun x : ByteArray => x.data.toList) h
      simpa [trimOf] using this
    have hlen : s.data.toList.length = s.size := by simp
    have key : ∀ l : List UInt8, (dropB l).length ≤ l.length ∧ ((dropB l).length = l.length → ∀ b, l.head? = some b → b.toNat ≠ 32) := by
      intro l
      induction l with
      | nil => simp [dropB]
      | cons b r ih =>
        rw [dropB]
        split
        · refine ⟨by simp; omega, fun h => ?_⟩
          simp at h; omega
        · rename_i hb
          refine ⟨by simp, fun _ c hc => ?_⟩
          simp at hc; subst hc; exact hb
    have k1 := key s.data.toList
    have k2 := key (dropB s.data.toList).reverse
    have hL : (dropB (dropB s.data.toList).reverse).length = s.data.toList.length := by
      have := congrArg List.length hl
      simpa [trimL] using this
    rw [List.length_reverse] at k2
    have e1 : (dropB s.data.toList).length = s.data.toList.length := by omega
    have e2 : (dropB (dropB s.data.toList).reverse).length = (dropB s.data.toList).length := by omega
    have hd : dropB s.data.toList = s.data.toList := by
      cases hc : s.data.toList with
      | nil => rfl
      | cons b r =>
        have := k1.2 e1 b (by rw [hc]; rfl)
        exact dropB_first b r this
    refine ⟨?_, ?_⟩
    · apply k1.2 e1
      rw [List.head?_eq_getElem?, byte_get s 0 (by omega)]
    · apply k2.2 e2
      rw [hd, ← List.getLast?_eq_head?_reverse, List.getLast?_eq_getElem?, hlen, byte_get s (s.size - 1) (by omega)]
  · rintro ⟨h0, h2⟩
    exact trimOf_self (fun _ => h0) (fun _ => h2)

theorem text_beq (a b : ByteArray) : (a.toList == b.toList) = true ↔ a = b := by
  rw [beq_iff_eq, ByteArray.toList_eq, ByteArray.toList_eq]
  exact ⟨fun h => ByteArray.ext (Array.toList_inj.1 h), fun h => by rw [h]⟩

set_option maxHeartbeats 1000000 in
theorem implValueOk_any (s : ByteArray) (w : World) (hs : s.size ≤ maxLen) :
    Calls Tryz.prog 95 #[.string s] w fun e w' => BoolIs (ValOk s) w e w' := by
  unfold maxLen at hs
  by_cases h1 : (s.size : Int) < 1
  · go_enter Tryz.func95, Tryz.ntmps95
    go_wp2_with fail
    go_ret
    exact BoolIs.no (by unfold ValOk; omega) (Below.refl _ _)
  · by_cases h2 : (60 : Int) < (s.size : Int)
    · go_enter Tryz.func95, Tryz.ntmps95
      go_wp2_with fail
      go_ret
      exact BoolIs.no (by unfold ValOk; omega) (Below.refl _ _)
    · have hti : Hid _ := trim_self_iff s (by omega)
      have hp0 : 0 < s.size := by omega
      by_cases hb : (s[0]'hp0).toNat = 32
      · have ht : (((s[0]'hp0).toNat : Int) == 32) = true := by simp [hb]
        have HB : Hid ((s[0]'hp0).toNat = 32) := hb
        clear hb
        go_enter Tryz.func95, Tryz.ntmps95
        go_wp2_with fail
        go_ret
        exact BoolIs.no (fun h => (hti.out.1 h.2.2.2).1 HB.out) (Below.refl _ _)
      · have ht : (((s[0]'hp0).toNat : Int) == 32) = false := by
          rw [beq_eq_false_iff_ne]; omega
        obtain ⟨m, hm⟩ : ∃ m, s.size = m + 1 := ⟨s.size - 1, by omega⟩
        have hms : m < s.size := by omega
        have hme : Hid (s.size - 1 = m) := by show s.size - 1 = m; omega
        have hH0 : Hid (¬ (s[0]'hp0).toNat = 32) := hb
        clear hb
        have hm2 : (s.size : Int) - 1 = (m : Int) := by omega
        by_cases hl : (s[m]'hms).toNat = 32
        · have hN : Hid (¬ ValOk s) := by
            intro h
            have h3 := (hti.out.1 h.2.2.2).2
            simp only [hme.out] at h3
            exact h3 hl
          have ht2 : (((s[m]'hms).toNat : Int) == 32) = true := by simp [hl]
          clear hl hm
          go_enter Tryz.func95, Tryz.ntmps95
          go_wp2_with fail
          go_ret
          exact BoolIs.no hN.out (Below.refl _ _)
        · have hY : Hid (AllB ValB s → ValOk s) := by
            intro h
            refine ⟨by omega, by omega, h, hti.out.2 ⟨hH0.out, ?_⟩⟩
            simp only [hme.out]
            exact hl
          have ht2 : (((s[m]'hms).toNat : Int) == 32) = false := by
            rw [beq_eq_false_iff_ne]; omega
          clear hl hm
          go_enter Tryz.func95, Tryz.ntmps95
          go_wp2_with (go_at_call 82; refine (allRunes_val _ _).mono ?_; rintro e w1 ⟨b, rfl, hbt, hb1⟩)
          go_ret
          exact ⟨b, rfl, hbt.trans ⟨hY.out, fun h => h.2.2.1⟩, hb1⟩

set_option maxHeartbeats 1000000 in
theorem specValueOk_any (s : ByteArray) (w : World) (hs : s.size ≤ maxLen) :
    Calls Tryz.prog 57 #[.string s] w fun e w' => BoolIs (ValOk s) w e w' := by
  have hs0 := hs
  unfold maxLen at hs
  go_enter Tryz.func57, Tryz.ntmps57
  go_wp2
  go_loop [3] (fun i => ∃ k : Nat, k ≤ s.size ∧ i = .int .i64 k ∧ Hid (AllTo ValB s k)) (fun i => s.size - (intOf i).toNat)
  case atStart => exact ⟨0, Nat.zero_le _, rfl, allTo_zero _ _⟩
  case round =>
    obtain ⟨k, hk, rfl, hall⟩ := hrel
    by_cases hlt : k < s.size
    · go_wp2
      all_goals first
        | (go_ret
           have hno : ¬ ValB ((s[k]'hlt).toNat : Int) := by
             unfold ValB
             omega
           exact BoolIs.no (fun h => hno (h.2.2.1 k hlt)) (Below.refl _ _))
        | (go_round
           case rel =>
             have hy : ValB ((s[k]'hlt).toNat : Int) := by
               unfold ValB
               omega
             exact ⟨k + 1, by omega, by go_num, allTo_succ hall.out hlt hy⟩
           case measure => simp [intOf]; omega)
    · have hend : Hid (AllB ValB s) := allTo_end hall.out hlt
      by_cases h1 : (1 : Int) ≤ (s.size : Int)
      · by_cases h2 : (s.size : Int) ≤ 60
        · go_wp2_with (first | (go_at_call 71; refine (specTrim_any _ _ hs0).mono ?_; rintro e w2 ⟨rfl, hb2⟩) | go_in)
          go_ret
          refine ⟨_, rfl, ?_, hb2⟩
          rw [text_beq]
          exact ⟨fun h => ⟨by omega, by omega, hend.out, h⟩, fun h => h.2.2.2⟩
        · go_wp2_with go_in
          go_ret
          exact BoolIs.no (by unfold ValOk; omega) (Below.refl _ _)
      · go_wp2_with go_in
        go_ret
        exact BoolIs.no (by unfold ValOk; omega) (Below.refl _ _)

end Go.Proofs.YtacfajnagbeocaaGreatDoor

namespace Go.Proofs.YtacfajnagbeocaaGreatDoor

def DigB (b : UInt8) : Prop := 48 ≤ b.toNat ∧ b.toNat ≤ 57
/-- The number that a row of digits is. -/
def valL (l : List UInt8) : Nat := l.foldl (fun v b => 10 * v + (b.toNat - 48)) 0
theorem valL_snoc (l : List UInt8) (b : UInt8) : valL (l ++ [b]) = 10 * valL l + (b.toNat - 48) := by simp [valL]
/-- The digits of a number that is not 0; none of 0. -/
def dgF : Nat → Nat → List UInt8
  | 0, _ => []
  | f + 1, n => if n = 0 then [] else dgF f (n / 10) ++ [UInt8.ofNat (48 + n % 10)]
theorem dgF_zero (f : Nat) : dgF f 0 = [] := by cases f <;> simp [dgF]
theorem dgF_pos (f n : Nat) (h : n ≠ 0) : dgF (f + 1) n = dgF f (n / 10) ++ [UInt8.ofNat (48 + n % 10)] := by simp [dgF, h]

theorem ofNat_digit (n : Nat) : (UInt8.ofNat (48 + n % 10)).toNat = 48 + n % 10 := by
  simp; omega

theorem list_snoc : ∀ l : List UInt8, l = [] ∨ ∃ r b, l = r ++ [b]
  | [] => .inl rfl
  | a :: t => by
    rcases list_snoc t with rfl | ⟨r, b, rfl⟩
    · exact .inr ⟨[], a, rfl⟩
    · exact .inr ⟨a :: r, b, rfl⟩

theorem head_snoc (r : List UInt8) (b c : UInt8) (hr : r ≠ []) : (r ++ [b]).head? = some c ↔ r.head? = some c := by
  cases r with
  | nil => exact absurd rfl hr
  | cons a t => simp

/-- A row of digits with no nought ahead is greater than any power of ten below its length. -/
theorem val_ge (l : List UInt8) : (∀ b ∈ l, DigB b) → (∀ b, l.head? = some b → b.toNat ≠ 48) → l ≠ [] → 10 ^ (l.length - 1) ≤ valL l := by
  suffices H : ∀ n (l : List UInt8), l.length = n → (∀ b ∈ l, DigB b) → (∀ b, l.head? = some b → b.toNat ≠ 48) → l ≠ [] → 10 ^ (l.length - 1) ≤ valL l from H _ l rfl
  intro n
  induction n with
  | zero => intro l hl _ _ hne; exact absurd (List.length_eq_zero_iff.1 hl) hne
  | succ n ih =>
    intro l hl hd hh hne
    rcases list_snoc l with rfl | ⟨r, b, rfl⟩
    · exact absurd rfl hne
    · rw [valL_snoc]
      by_cases hr : r = []
      · subst hr
        have h1 := hd b (by simp)
        have h2 := hh b rfl
        simp [valL]; unfold DigB at h1; omega
      · have hlen : r.length = n := by simpa using hl
        have h3 := ih r hlen (fun c hc => hd c (by simp [hc])) (fun c hc => hh c ((head_snoc r b c hr).2 hc)) hr
        have hpos : 1 ≤ r.length := by cases r with | nil => exact absurd rfl hr | cons _ _ => simp
        have e : (r ++ [b]).length - 1 = (r.length - 1) + 1 := by simp; omega
        rw [e, Nat.pow_succ]
        omega

/-- The digits of the number that a row of digits is, with no nought ahead, are that row. -/
theorem dg_val : ∀ (f : Nat) (l : List UInt8), (∀ b ∈ l, DigB b) → (∀ b, l.head? = some b → b.toNat ≠ 48) → l.length ≤ f → dgF f (valL l) = l := by
  intro f
  induction f with
  | zero => intro l _ _ hl; rw [List.length_eq_zero_iff.1 (by omega : l.length = 0)]; rfl
  | succ f ih =>
    intro l hd hh hl
    rcases list_snoc l with rfl | ⟨r, b, rfl⟩
    · exact dgF_zero _
    · have hb := hd b (by simp)
      unfold DigB at hb
      have hpos : valL (r ++ [b]) ≠ 0 := by
        have := val_ge (r ++ [b]) hd hh (by simp)
        have : 0 < 10 ^ ((r ++ [b]).length - 1) := Nat.pow_pos (by omega)
        omega
      rw [dgF_pos f _ hpos, valL_snoc]
      have e1 : (10 * valL r + (b.toNat - 48)) / 10 = valL r := by omega
      have e2 : (10 * valL r + (b.toNat - 48)) % 10 = b.toNat - 48 := by omega
      rw [e1, e2]
      have e3 : UInt8.ofNat (48 + (b.toNat - 48)) = b := by
        rw [show 48 + (b.toNat - 48) = b.toNat by omega]; simp
      rw [e3]
      by_cases hr : r = []
      · subst hr; simp [valL, dgF_zero]
      · rw [ih r (fun c hc => hd c (by simp [hc])) (fun c hc => hh c ((head_snoc r b c hr).2 hc)) (by simp at hl; omega)]

/-- The digits of a number begin with no nought, and are that number. -/
theorem dg_facts : ∀ (f n : Nat), n < 10 ^ f → (∀ b, (dgF f n).head? = some b → b.toNat ≠ 48) ∧ valL (dgF f n) = n ∧ (∀ b ∈ dgF f n, DigB b) := by
  intro f
  induction f with
  | zero => intro n h; simp at h; subst h; simp [dgF, valL]
  | succ f ih =>
    intro n h
    by_cases h0 : n = 0
    · subst h0; rw [dgF_zero]; simp [valL]
    · rw [dgF_pos f n h0]
      rw [Nat.pow_succ] at h
      obtain ⟨i1, i2, i3⟩ := ih (n / 10) (by omega)
      refine ⟨?_, ?_, ?_⟩
      · intro b hb
        by_cases hr : dgF f (n / 10) = []
        · rw [hr] at hb
          simp only [List.nil_append, List.head?_cons, Option.some.injEq] at hb
          rw [← hb, ofNat_digit]
          have : n / 10 = 0 := by rw [hr] at i2; simpa [valL] using i2.symm
          omega
        · exact i1 b ((head_snoc _ _ b hr).1 hb)
      · rw [valL_snoc, i2, ofNat_digit]; omega
      · intro b hb
        rcases List.mem_append.1 hb with h | h
        · exact i3 b h
        · simp only [List.mem_singleton] at h
          unfold DigB
          rw [h, ofNat_digit]; omega

/-- The text of a number from 0 to 1000000; the empty text of others. -/
def numL (n : Nat) : List UInt8 := if 1000000 < n then [] else if n = 0 then [48] else dgF 8 n
def numText (n : Nat) : ByteArray := ⟨(numL n).toArray⟩

/-- A text that is a number from 0 to 1000000 in digits without needless noughts. -/
def NumOk (s : ByteArray) : Prop := 1 ≤ s.size ∧ (∀ b ∈ s.data.toList, DigB b) ∧ (1 < s.size → ∀ h : 0 < s.size, (s[0]'h).toNat ≠ 48) ∧ valL s.data.toList ≤ 1000000

theorem head_byte (s : ByteArray) (h : 0 < s.size) : s.data.toList.head? = some (s[0]'h) := by
  rw [List.head?_eq_getElem?, byte_get s 0 h]

theorem num_iff (s : ByteArray) (h1 : 1 ≤ s.size) (h7 : s.size ≤ 7) (hd : ∀ b ∈ s.data.toList, DigB b) : numText (valL s.data.toList) = s ↔ NumOk s := by
  have hlen : s.data.toList.length = s.size := by simp
  have hto : numText (valL s.data.toList) = s ↔ numL (valL s.data.toList) = s.data.toList := by
    constructor
    · intro h
      have := congrArg (fun x : ByteArray => x.data.toList) h
      simpa [numText] using this
    · intro h
      apply ByteArray.ext
      show (numL _).toArray = _
      rw [h]
  rw [hto]
  have hne : s.data.toList ≠ [] := by
    intro e; rw [e] at hlen; simp at hlen; omega
  constructor
  · intro h
    unfold numL at h
    split at h
    · exact absurd h.symm hne
    · rename_i hle
      refine ⟨h1, hd, ?_, by omega⟩
      intro hs hp
      split at h
      · rw [← h] at hlen; simp at hlen; omega
      · rename_i h0
        have hf := (dg_facts 8 (valL s.data.toList) (by omega)).1
        apply hf
        rw [h, head_byte s hp]
  · rintro ⟨_, _, hz, hv⟩
    unfold numL
    rw [if_neg (by omega)]
    by_cases hh : ∀ b, s.data.toList.head? = some b → b.toNat ≠ 48
    · have hg := val_ge s.data.toList hd hh hne
      have hpos : 0 < 10 ^ (s.data.toList.length - 1) := Nat.pow_pos (by omega)
      rw [if_neg (by omega)]
      exact dg_val 8 _ hd hh (by omega)
    · have hp : 0 < s.size := by omega
      have h48 : (s[0]'hp).toNat = 48 := by
        rcases Decidable.em ((s[0]'hp).toNat = 48) with h | h
        · exact h
        · exfalso; apply hh
          intro b hb
          rw [head_byte s hp] at hb
          cases hb; exact h
      have hsz : s.size = 1 := by
        rcases Nat.lt_or_ge 1 s.size with h | h
        · exact absurd h48 (hz h hp)
        · omega
      have hl : s.data.toList = [s[0]'hp] := by
        cases hc : s.data.toList with
        | nil => exact absurd hc hne
        | cons a t =>
          have ht : t = [] := by
            rw [hc] at hlen; simp at hlen; exact List.length_eq_zero_iff.1 (by omega)
          have ha : some a = some (s[0]'hp) := by rw [← head_byte s hp, hc]; rfl
          rw [ht, Option.some.inj ha]
      have he : s[0]'hp = 48 := by
        apply UInt8.toNat_inj.1; rw [h48]; rfl
      rw [hl, he]; rfl

/-- The value of the first k bytes. -/
def valTo (s : ByteArray) (k : Nat) : Nat := valL (s.data.toList.take k)
theorem valTo_succ (s : ByteArray) (k : Nat) (h : k < s.size) : valTo s (k + 1) = 10 * valTo s k + ((s[k]'h).toNat - 48) := by
  unfold valTo
  have : s.data.toList.take (k + 1) = s.data.toList.take k ++ [s[k]'h] := by
    rw [List.take_succ_eq_append_getElem (by simpa using h)]; rfl
  rw [this, valL_snoc]
theorem valTo_end (s : ByteArray) (k : Nat) (h : ¬ k < s.size) : valTo s k = valL s.data.toList := by
  unfold valTo; rw [List.take_of_length_le (by simp; omega)]
theorem valTo_lt (s : ByteArray) : ∀ k, k ≤ s.size → (∀ j (h : j < s.size), j < k → DigB (s[j]'h)) → valTo s k < 10 ^ k := by
  intro k
  induction k with
  | zero => intro _ _; simp [valTo, valL]
  | succ k ih =>
    intro hk hd
    rw [valTo_succ s k (by omega), Nat.pow_succ]
    have h1 := ih (by omega) (fun j h hj => hd j h (by omega))
    have h2 := hd k (by omega) (by omega)
    unfold DigB at h2
    omega
/-- The value of a longer beginning is no less. -/
theorem valTo_mono (s : ByteArray) (k : Nat) : ∀ d, k + d ≤ s.size → valTo s k ≤ valTo s (k + d) := by
  intro d
  induction d with
  | zero => intro _; exact Nat.le_refl _
  | succ d ih =>
    intro h
    rw [show k + (d + 1) = (k + d) + 1 by omega, valTo_succ s (k + d) (by omega)]
    have := ih (by omega)
    omega
theorem val_ge_to (s : ByteArray) (k : Nat) (h : k ≤ s.size) : valTo s k ≤ valL s.data.toList := by
  rw [← valTo_end s s.size (by omega)]
  have := valTo_mono s k (s.size - k) (by omega)
  rw [show k + (s.size - k) = s.size by omega] at this
  exact this
theorem mem_byte {s : ByteArray} {p : UInt8 → Prop} (h : ∀ j (hj : j < s.size), p (s[j]'hj)) : ∀ b ∈ s.data.toList, p b := by
  intro b hb
  obtain ⟨j, hj, rfl⟩ := List.getElem_of_mem hb
  exact h j (by simpa using hj)
theorem byte_mem (s : ByteArray) (j : Nat) (h : j < s.size) : s[j]'h ∈ s.data.toList := List.mem_of_getElem? (byte_get s j h)
/-- A number that is no longer than 1000000 has at most seven digits. -/
theorem num_seven {s : ByteArray} (h : NumOk s) : s.size ≤ 7 := by
  obtain ⟨h1, hd, hz, hv⟩ := h
  rcases Nat.lt_or_ge 7 s.size with h7 | h7
  · exfalso
    have hp : 0 < s.size := by omega
    have hlen : s.data.toList.length = s.size := by simp
    have hg := val_ge s.data.toList hd (fun b hb => by rw [head_byte s hp] at hb; cases hb; exact hz (by omega) hp) (by intro e; rw [e] at hlen; simp at hlen; omega)
    have : 10 ^ 7 ≤ 10 ^ (s.data.toList.length - 1) := Nat.pow_le_pow_right (by omega) (by omega)
    omega
  · exact h7

end Go.Proofs.YtacfajnagbeocaaGreatDoor

namespace Go.Proofs.YtacfajnagbeocaaGreatDoor
open Go.RowKit
open Go.Lib hiding intOf

theorem conv_one (W : World) (d : Int) : (convert 61 9 (.slice (some ⟨W.heap.size, 0, none⟩) 1 1)).run Tryz.prog (W.alloc (.cells #[.int .u8 d] 5)) = .ok (.string (strOfNums [d])) (W.alloc (.cells #[.int .u8 d] 5)) :=
  run_convert_bytes_arg (P := Tryz.prog) (W.alloc (.cells #[.int .u8 d] 5)) 61 5 Tryz.underlying61 Tryz.underlying5 W.heap.size 0 1 1 [d] rfl (fun i hi => by
    have : i = 0 := by omega
    subst this
    simp) 9 Tryz.underlying9

set_option maxHeartbeats 1000000 in
theorem specNumText_any (n : Nat) (w : World) (hn : n ≤ 9999999) :
    Calls Tryz.prog 32 #[.int .i64 (n : Int)] w fun e w' => TextIs (numText n) w e w' := by
  by_cases h1 : (n : Int) ≤ 1000000
  · by_cases h0 : n = 0
    · subst h0
      go_enter Tryz.func32, Tryz.ntmps32
      go_wp2
      go_ret
      exact TextIs.of rfl (Below.refl _ _)
    · have hne : ((n : Int) == 0) = false := by rw [beq_eq_false_iff_ne]; omega
      have hcv := conv_one
      go_enter Tryz.func32, Tryz.ntmps32
      go_wp2
      go_loopw [0, 3] (fun a b wr => ∃ (f m : Nat) (out : ByteArray), a = .int .i64 (m : Int) ∧ b = .string out ∧ m ≤ 1000000 ∧ f ≤ 8 ∧ out.size ≤ 8 - f ∧ Below w.heap.size w wr ∧ Hid (m < 10 ^ f ∧ dgF f m ++ out.data.toList = dgF 8 n)) (fun a _ _ => (intOf a).toNat)
      case atStart => exact ⟨8, n, _, rfl, rfl, by omega, Nat.le_refl _, Nat.le_refl _, Below.refl _ _, ⟨by omega, by simp⟩⟩
      case round =>
        obtain ⟨f, m, out, rfl, rfl, hm, hf8, hsz, hbw, hd⟩ := hrel
        by_cases hp : (0 : Int) < (m : Int)
        · have hone : ∀ d : Int, (strOfNums [d]).size = 1 := fun d => strOfNums_size [d]
          go_wp2
          go_roundw
          case rel =>
            obtain ⟨hf, hdg⟩ := hd.out
            cases f with
            | zero => simp at hf; omega
            | succ f =>
              rw [Nat.pow_succ] at hf
              refine ⟨f, m / 10, strOfNums [48 + (m : Int) % 10] ++ out, by simp, rfl, by omega, by omega, ?_, hbw.alloc hbw.size _, by omega, ?_⟩
              · rw [ByteArray.size_append, hone]; omega
              · have e : (strOfNums [48 + (m : Int) % 10]).data.toList = [UInt8.ofNat (48 + m % 10)] := by
                  rw [strOfNums_data]
                  have : (48 + (m : Int) % 10).toNat = 48 + m % 10 := by omega
                  simp only [List.map_cons, List.map_nil, this]
                rw [dgF_pos f m (by omega), List.append_assoc] at hdg
                rw [← hdg, ByteArray.data_append, Array.toList_append, e]
          case measure => simp [intOf]; omega
        · have hT : Hid (out = numText n) := by
            obtain ⟨_, h⟩ := hd.out
            have e : m = 0 := by omega
            rw [e, dgF_zero, List.nil_append] at h
            show out = numText n
            apply ByteArray.ext
            apply Array.toList_inj.1
            rw [h]
            unfold numText numL
            rw [if_neg (by omega), if_neg h0]
          go_wp2
          go_ret
          exact TextIs.of hT.out hbw
  · go_enter Tryz.func32, Tryz.ntmps32
    go_wp2
    go_ret
    exact TextIs.of (by unfold numText numL; rw [if_pos (by omega)]) (Below.refl _ _)

/-- A call answers the number that a text is, and true; or 0 and false; it turns nothing that was there. -/
def NumIs (s : ByteArray) (w : World) (e : Ending) (w' : World) : Prop :=
  ∃ (b : Bool) (n : Int), e = .returned (.tuple #[.int .i64 n, .bool b]) ∧ (b = true ↔ NumOk s) ∧ (b = true → n = valL s.data.toList) ∧ (b = false → n = 0) ∧ Below w.heap.size w w'
theorem NumIs.no {s : ByteArray} {w w' : World} (h : ¬ NumOk s) (hb : Below w.heap.size w w') : NumIs s w (.returned (.tuple #[.int .i64 0, .bool false])) w' :=
  ⟨false, 0, rfl, by simpa using h, by simp, fun _ => rfl, hb⟩
theorem NumIs.yes {s : ByteArray} {w w' : World} {n : Int} (h : NumOk s) (hn : n = valL s.data.toList) (hb : Below w.heap.size w w') : NumIs s w (.returned (.tuple #[.int .i64 n, .bool true])) w' :=
  ⟨true, n, rfl, by simpa using h, fun _ => hn, by simp, hb⟩

/-- Every byte ahead of k is a digit. -/
def DigTo (s : ByteArray) (k : Nat) : Prop := ∀ j (h : j < s.size), j < k → DigB (s[j]'h)
theorem digTo_succ {s : ByteArray} {k : Nat} (h : DigTo s k) (hk : k < s.size) (hd : DigB (s[k]'hk)) : DigTo s (k + 1) := by
  intro j hj hlt
  by_cases e : j = k
  · subst e; exact hd
  · exact h j hj (by omega)

theorem isEmpty_no {s : ByteArray} (h : 1 ≤ s.size) : s.toList.isEmpty = false := by
  have : s.toList.length = s.size := by rw [ByteArray.toList_eq]; simp
  cases hc : s.toList with
  | nil => rw [hc] at this; simp at this; omega
  | cons _ _ => rfl
theorem isEmpty_yes {s : ByteArray} (h : s.size = 0) : s.toList.isEmpty = true := by
  have : s.toList.length = s.size := by rw [ByteArray.toList_eq]; simp
  rw [h] at this
  rw [List.length_eq_zero_iff.1 this]; rfl

set_option maxHeartbeats 1000000 in
theorem specNumRead_any (s : ByteArray) (w : World) (hs : s.size ≤ maxLen) :
    Calls Tryz.prog 21 #[.string s] w fun e w' => NumIs s w e w' := by
  unfold maxLen at hs
  by_cases h1 : s.size = 0
  · have he := isEmpty_yes h1
    go_enter Tryz.func21, Tryz.ntmps21
    go_wp2_with fail
    go_ret2
    exact NumIs.no (fun h => by have := h.1; omega) (Below.refl _ _)
  · have he := isEmpty_no (s := s) (by omega)
    by_cases h7 : (7 : Int) < (s.size : Int)
    · go_enter Tryz.func21, Tryz.ntmps21
      go_wp2_with fail
      go_ret2
      exact NumIs.no (fun h => by have := num_seven h; omega) (Below.refl _ _)
    · go_enter Tryz.func21, Tryz.ntmps21
      go_wp2_with fail
      go_loop [4, 5] (fun a i => ∃ x k : Nat, k ≤ s.size ∧ i = .int .i64 k ∧ a = .int .i64 (x : Int) ∧ x ≤ 9999999 ∧ Hid (DigTo s k) ∧ Hid (x = valTo s k)) (fun _ i => s.size - (intOf i).toNat)
      case atStart => exact ⟨0, 0, Nat.zero_le _, rfl, rfl, by omega, fun _ _ h => absurd h (by omega), by show 0 = valTo s 0; simp [valTo, valL]⟩
      case round =>
        obtain ⟨x, k, hk, rfl, rfl, hx, hdig, hval⟩ := hrel
        by_cases hlt : k < s.size
        · have hb := (s[k]'hlt).toNat_lt
          by_cases hd1 : ((s[k]'hlt).toNat : Int) < 48
          · go_wp2_with fail
            go_ret2
            exact NumIs.no (fun h => by have := h.2.1 _ (byte_mem s k hlt); unfold DigB at this; omega) (Below.refl _ _)
          · by_cases hd2 : (57 : Int) < ((s[k]'hlt).toNat : Int)
            · go_wp2_with fail
              go_ret2
              exact NumIs.no (fun h => by have := h.2.1 _ (byte_mem s k hlt); unfold DigB at this; omega) (Below.refl _ _)
            · go_wp2_with fail
              have hdb : DigB (s[k]'hlt) := by unfold DigB; omega
              have hs1 := valTo_succ s k hlt
              have hv := hval.out
              have hd' := digTo_succ hdig.out hlt hdb
              have hlt7 := valTo_lt s (k + 1) (by omega) (fun j h hj => hd' j h hj)
              have hp7 : 10 ^ (k + 1) ≤ 10 ^ 7 := Nat.pow_le_pow_right (by omega) (by omega)
              go_round
              case rel =>
                refine ⟨valTo s (k + 1), k + 1, by omega, by go_num, ?_, by omega, hd', rfl⟩
                congr 1
                omega
              case measure => simp [intOf]; omega
        · have hall : ∀ b ∈ s.data.toList, DigB b := mem_byte (fun j h => hdig.out j h (by omega))
          have hx2 : x = valL s.data.toList := by have := hval.out; rw [valTo_end s k hlt] at this; exact this
          have hni := num_iff s (by omega) (by omega) hall
          rw [← hx2] at hni
          by_cases hok : NumOk s
          · have ht : ((numText x).toList == s.toList) = true := (text_beq _ _).2 (hni.2 hok)
            have HX : Hid (x = valL s.data.toList) := hx2
            have HO : Hid (NumOk s) := hok
            clear hx2 hni hok hall
            go_wp2_with (go_at_call 32; refine (specNumText_any x _ hx).mono ?_; rintro e w1 ⟨rfl, hb1⟩)
            go_ret2
            exact NumIs.yes HO.out (by rw [HX.out]) hb1
          · have ht : ((numText x).toList == s.toList) = false := by
              rcases Bool.eq_false_or_eq_true ((numText x).toList == s.toList) with h | h
              · exact absurd (hni.1 ((text_beq _ _).1 h)) hok
              · exact h
            have HO : Hid (¬ NumOk s) := hok
            clear hx2 hni hok hall
            go_wp2_with (go_at_call 32; refine (specNumText_any x _ hx).mono ?_; rintro e w1 ⟨rfl, hb1⟩)
            go_ret2
            exact NumIs.no HO.out hb1

set_option maxHeartbeats 1000000 in
theorem implNumRead_any (s : ByteArray) (w : World) (hs : s.size ≤ maxLen) :
    Calls Tryz.prog 38 #[.string s] w fun e w' => NumIs s w e w' := by
  unfold maxLen at hs
  by_cases h1 : s.size = 0
  · have he := isEmpty_yes h1
    go_enter Tryz.func38, Tryz.ntmps38
    go_wp2_with fail
    go_ret2
    exact NumIs.no (fun h => by have := h.1; omega) (Below.refl _ _)
  · have he := isEmpty_no (s := s) (by omega)
    have hp0 : 0 < s.size := by omega
    by_cases hz : (1 : Int) < (s.size : Int) ∧ (s[0]'hp0).toNat = 48
    · obtain ⟨hz1, hz2⟩ := hz
      have ht : (((s[0]'hp0).toNat : Int) == 48) = true := by simp [hz2]
      have HZ : Hid ((s[0]'hp0).toNat = 48) := hz2
      clear hz2
      go_enter Tryz.func38, Tryz.ntmps38
      go_wp2_with fail
      go_ret2
      exact NumIs.no (fun h => h.2.2.1 (by omega) hp0 HZ.out) (Below.refl _ _)
    · have HZ : Hid (1 < s.size → ∀ h : 0 < s.size, (s[0]'h).toNat ≠ 48) := fun hl h hc => hz ⟨by omega, hc⟩
      have hgo : Calls Tryz.prog 38 #[.string s] w fun e w' => NumIs s w e w' := by
        by_cases hl : (1 : Int) < (s.size : Int)
        all_goals
          have ht : (1 : Int) < (s.size : Int) → (((s[0]'hp0).toNat : Int) == 48) = false := fun hl => by
            rw [beq_eq_false_iff_ne]; intro hc; exact hz ⟨hl, by omega⟩
          clear hz
          try have ht2 := ht hl
          try clear ht
          go_enter Tryz.func38, Tryz.ntmps38
          go_wp2_with fail
          go_loopw [4] (fun a wr => ∃ x pos : Nat, pos ≤ s.size ∧ a = .int .i64 (x : Int) ∧ x ≤ 1000000 ∧ wr.heap[w.heap.size]? = some (.stringIter s pos) ∧ Below w.heap.size w wr ∧ Hid (DigTo s pos) ∧ Hid (x = valTo s pos)) (fun _ wr => s.size - wr.iterPos w.heap.size)
          case atStart => exact ⟨0, 0, Nat.zero_le _, rfl, by omega, World.iter_heap _ _ _, (Below.refl _ _).alloc (Nat.le_refl _) _, fun _ _ h => absurd h (by omega), by show 0 = valTo s 0; simp [valTo, valL]⟩
          case round =>
            obtain ⟨x, k, hk, rfl, hx, hh, hbw, hdig, hval⟩ := hrel
            by_cases hlt : k < s.size
            · have hb := (s[k]'hlt).toNat_lt
              by_cases hd : DigB (s[k]'hlt)
              · have hnx := fun ty => run_next_ascii_at (P := Tryz.prog) wr w.heap.size s k ty hh hlt (by unfold DigB at hd; omega)
                have hcl : (cls ((s[k]'hlt).toNat : Int) != 2) = false := by
                  have := cls_spec ((s[k]'hlt).toNat : Int)
                  unfold DigB at hd
                  rw [bne_eq_false_iff_eq]; omega
                have hd1 : (48 : Int) ≤ ((s[k]'hlt).toNat : Int) := by unfold DigB at hd; omega
                have hd2 : ((s[k]'hlt).toNat : Int) ≤ 57 := by unfold DigB at hd; omega
                have HD : Hid (DigB (s[k]'hlt)) := hd
                clear hd
                go_wp2_with (go_at_call 51; refine (classOf_any _ _).mono ?_; rintro e w1 ⟨rfl, hb1⟩)
                · have hgt : 1000000 < valTo s (k + 1) := by
                    have := valTo_succ s k hlt
                    have := hval.out
                    omega
                  go_ret2
                  exact NumIs.no (fun h => by have := h.2.2.2; have := val_ge_to s (k + 1) (by omega); omega) (iter_step hh hbw hb1).2
                · have hle : (x : Int) * 10 + (((s[k]'hlt).toNat : Int) - 48) = (valTo s (k + 1) : Nat) ∧ valTo s (k + 1) ≤ 1000000 := by
                    have := valTo_succ s k hlt
                    have := hval.out
                    omega
                  obtain ⟨p1, p2⟩ := iter_step hh hbw hb1
                  refine ⟨⟨valTo s (k + 1), k + 1, by omega, by rw [hle.1], hle.2, p1, p2, digTo_succ hdig.out hlt HD.out, rfl⟩, by rw [iterPos_of p1, iterPos_of hh]; omega⟩
              · have hnx := fun ty => run_next_any_at (P := Tryz.prog) wr w.heap.size s k ty hh hlt
                have hcl : (cls ((Utf8.decode s k).1 : Int) != 2) = true := by
                  have := cls_spec ((Utf8.decode s k).1 : Int)
                  unfold DigB at hd
                  rw [bne_iff_ne]
                  by_cases ha : (s[k]'hlt).toNat < 128
                  · rw [decode_ascii s k hlt ha] at this ⊢
                    dsimp only at this ⊢
                    omega
                  · have := (decode_high s k hlt (by omega)).1
                    omega
                have HD : Hid (¬ DigB (s[k]'hlt)) := hd
                clear hd
                go_wp2_with (go_at_call 51; refine (classOf_any _ _).mono ?_; rintro e w1 ⟨rfl, hb1⟩)
                go_ret2
                exact NumIs.no (fun h => HD.out (h.2.1 _ (byte_mem s k hlt))) (iter_step hh hbw hb1).2
            · have hnx := fun ty => run_next_end_at (P := Tryz.prog) wr w.heap.size s k ty hh hlt
              have HY : Hid (NumOk s ∧ (x : Int) = (valL s.data.toList : Nat)) := by
                have hv := hval.out
                rw [valTo_end s k hlt] at hv
                exact ⟨⟨by omega, mem_byte (fun j h => hdig.out j h (by omega)), HZ.out, by omega⟩, by omega⟩
              go_wp2_with fail
              go_ret2
              exact NumIs.yes HY.out.1 HY.out.2 hbw
      exact hgo

end Go.Proofs.YtacfajnagbeocaaGreatDoor

namespace Go.Proofs.YtacfajnagbeocaaGreatDoor
open Go.RowKit
open Go.Lib hiding intOf

/-- What is owned lies from the base on. -/
theorem owns_ge {w : World} {base : Nat} {e : TypeId} {size : Nat} {v : Value} {n g : Nat} {xs : List Value} (h : w.ownsRow base e size v n xs) (hg : v.ownBlock = some g) : base ≤ g := by
  rcases h.2 with ⟨rfl, _⟩ | ⟨g', cap, cur, rfl, hb, _⟩
  · simp [Value.ownBlock] at hg
  · simp [Value.ownBlock] at hg; omega
end Go.Proofs.YtacfajnagbeocaaGreatDoor

namespace Go.Proofs.YtacfajnagbeocaaGreatDoor
open Go.RowKit
open Go.Lib hiding intOf

/-- A call answers a list of these texts in memory of its own, from block 'base' on, and turns nothing below it. -/
def RowIs (base : Nat) (xs : List ByteArray) (w : World) (e : Ending) (w' : World) : Prop :=
  ∃ v, e = .returned v ∧ w'.ownsRow base 9 1 v xs.length (xs.map Value.string) ∧ Below base w w'
theorem RowIs.of {base : Nat} {xs ys : List ByteArray} {w w' : World} {v : Value} {n : Nat} (h : ys = xs) (hn : n = ys.length) (hown : w'.ownsRow base 9 1 v n (ys.map Value.string)) (hb : Below base w w') : RowIs base xs w (.returned v) w' := by
  subst h; subst hn; exact ⟨v, rfl, hown, hb⟩
/-- What is owned stays so in every later world that keeps what was there. -/
theorem owns_below {w w' : World} {base B : Nat} {e : TypeId} {size : Nat} {v : Value} {n : Nat} {xs : List Value} (h : w.ownsRow base e size v n xs) (hb : Below B w w') (hB : ∀ g, v.ownBlock = some g → g < B) : w'.ownsRow base e size v n xs := by
  refine ⟨h.1, ?_⟩
  rcases h.2 with h2 | ⟨g, cap, cur, rfl, h3, h4, h5⟩
  · exact .inl h2
  · exact .inr ⟨g, cap, cur, rfl, h3, by rw [hb.block g (hB g rfl)]; exact h4, h5⟩
theorem owns_lt {w : World} {base : Nat} {e : TypeId} {size : Nat} {v : Value} {n g : Nat} {xs : List Value} (h : w.ownsRow base e size v n xs) (hg : v.ownBlock = some g) : g < w.heap.size := by
  rcases h.2 with ⟨rfl, _⟩ | ⟨g', cap, cur, rfl, hb, hh, _⟩
  · simp [Value.ownBlock] at hg
  · simp [Value.ownBlock] at hg
    subst hg
    exact (Array.getElem?_eq_some_iff.1 hh).1
theorem owns_base {w : World} {base b : Nat} {e : TypeId} {size : Nat} {v : Value} {n : Nat} {xs : List Value} (h : w.ownsRow base e size v n xs) (hb : b ≤ base) : w.ownsRow b e size v n xs := by
  refine ⟨h.1, ?_⟩
  rcases h.2 with h2 | ⟨g, cap, cur, h3, h4, h5⟩
  · exact .inl h2
  · exact .inr ⟨g, cap, cur, h3, by omega, h5⟩
theorem one_text (t : ByteArray) : ∀ u ∈ [Value.string t], u.oneCell' = true := by intro u hu; simp at hu; subst hu; rfl
theorem info9 : (Tryz.prog.info? 9).map (fun i => (i.zero, i.size, i.bytes)) = some (some (.string ⟨#[]⟩), 1, 16) := by kernel_rfl

end Go.Proofs.YtacfajnagbeocaaGreatDoor

namespace Go.Proofs.YtacfajnagbeocaaGreatDoor
open Go.RowKit
open Go.Lib hiding intOf

/-- The mark of a number. -/
def markOf (k : Nat) : ByteArray := ⟨(109 :: dgF 8 k).toArray⟩
/-- The text i of a list. -/
def textAt (xs : List ByteArray) (i : Nat) : ByteArray := xs.getD i ⟨#[]⟩

/-- What an owned list of texts is, cell by cell. -/
structure TextRow (base : Nat) (w : World) (g n cap : Nat) (xs : List ByteArray) : Prop where
  len : xs.length = n
  base : base ≤ g
  lt : g < w.heap.size
  le : n ≤ cap
  mx : cap ≤ maxLen
  heap : ∃ cur, w.heap[g]? = some (.cells cur 9 (0, 0)) ∧ cur.size = cap ∧ ∀ i, i < n → cur[i]? = some (.string (textAt xs i))
theorem TextRow.cell {base : Nat} {w : World} {g n cap : Nat} {xs : List ByteArray} (h : TextRow base w g n cap xs) (i : Nat) (hi : i < n) : w.cell? ⟨g, i, none⟩ = some (.string (textAt xs i)) := by
  obtain ⟨cur, hg, _, hc⟩ := h.heap
  simp only [World.cell?, hg]
  simpa using hc i hi
theorem TextRow.frozen {base : Nat} {w : World} {g n cap : Nat} {xs : List ByteArray} (h : TextRow base w g n cap xs) (i : Nat) : w.frozen? ⟨g, i, none⟩ = false := by
  obtain ⟨cur, hg, _⟩ := h.heap
  simp [World.frozen?, hg]
theorem TextRow.below {base B : Nat} {w w' : World} {g n cap : Nat} {xs : List ByteArray} (h : TextRow base w g n cap xs) (hb : Below B w w') (hB : g < B) : TextRow base w' g n cap xs := by
  obtain ⟨cur, hg, hc⟩ := h.heap
  have := hb.size; have := h.lt
  exact ⟨h.len, h.base, by omega, h.le, h.mx, cur, by rw [hb.block g hB]; exact hg, hc⟩
/-- One text of it stored anew. -/
theorem TextRow.set {base : Nat} {w : World} {g n cap : Nat} {xs : List ByteArray} (h : TextRow base w g n cap xs) (i : Nat) (hi : i < n) (t : ByteArray) : TextRow base (w.setCell ⟨g, i, none⟩ (.string t)) g n cap (xs.set i t) := by
  obtain ⟨cur, hg, hs, hc⟩ := h.heap
  refine ⟨by simp [h.len], h.base, by simpa using h.lt, h.le, h.mx, cur.setIfInBounds i (.string t), ?_, by simpa using hs, ?_⟩
  · simp [World.setCell, Array.getElem?_modify, hg]
  · intro j hj
    have hl := h.len
    have hle := h.le
    by_cases e : i = j
    · subst e
      have h1 : i < cur.size := by omega
      have h2 : i < xs.length := by omega
      simp [textAt, List.getD_eq_getElem?_getD, h1, h2]
    · rw [Array.getElem?_setIfInBounds_ne (by exact e), hc j hj]
      simp [textAt, List.getD_eq_getElem?_getD, e]
theorem textAt_map (xs : List ByteArray) (i : Nat) (h : i < xs.length) : (xs.map Value.string)[i]? = some (.string (textAt xs i)) := by
  simp [textAt, List.getD_eq_getElem?_getD, h]
/-- An owned list is empty, or such a row. -/
theorem row_form {w : World} {base n : Nat} {v : Value} {xs : List ByteArray} (h : w.ownsRow base 9 1 v n (xs.map Value.string)) :
    (∃ oa cap, v = .slice oa 0 cap ∧ n = 0 ∧ xs = []) ∨ ∃ g cap, v = .slice (some ⟨g, 0, none⟩) n cap ∧ 0 < n ∧ TextRow base w g n cap xs := by
  obtain ⟨hl, hv⟩ := h
  simp at hl
  rcases hv with ⟨rfl, h0⟩ | ⟨g, cap, cur, rfl, hb, hg, hn, hm, hcs, htk⟩
  · exact .inl ⟨none, 0, rfl, h0, List.length_eq_zero_iff.1 (by omega)⟩
  · by_cases h0 : n = 0
    · subst h0
      exact .inl ⟨_, _, rfl, rfl, List.length_eq_zero_iff.1 (by omega)⟩
    · refine .inr ⟨g, cap, rfl, by omega, hl, hb, (Array.getElem?_eq_some_iff.1 hg).1, hn, hm, cur, hg, by simpa using hcs, ?_⟩
      intro i hi
      have h1 : (cur.toList.take (n * 1))[i]? = some (.string (textAt xs i)) := by rw [htk]; exact textAt_map xs i (by omega)
      rw [List.getElem?_take, if_pos (by omega)] at h1
      simpa using h1
theorem TextRow.owns {base : Nat} {w : World} {g n cap : Nat} {xs : List ByteArray} (h : TextRow base w g n cap xs) : w.ownsRow base 9 1 (.slice (some ⟨g, 0, none⟩) n cap) n (xs.map Value.string) := by
  obtain ⟨cur, hg, hs, hc⟩ := h.heap
  refine ⟨by simp [h.len], .inr ⟨g, cap, cur, rfl, h.base, hg, h.le, h.mx, by simpa using hs, ?_⟩⟩
  apply List.ext_getElem?
  intro i
  have hl := h.len; have hle := h.le
  rw [List.getElem?_take, Nat.mul_one]
  by_cases hi : i < n
  · rw [if_pos hi, textAt_map xs i (by omega)]
    simpa using hc i hi
  · rw [if_neg hi, List.getElem?_eq_none (by simp; omega)]

set_option maxHeartbeats 1000000 in
theorem markText_any (n : Nat) (w : World) (h0 : 1 ≤ n) (hn : n ≤ 9999999) :
    Calls Tryz.prog 18 #[.int .i64 (n : Int)] w fun e w' => TextIs (markOf n) w e w' := by
  have hp0 : ¬ (n : Int) ≤ 0 := by omega
  have hcv := conv_one
  go_enter Tryz.func18, Tryz.ntmps18
  go_wp2
  go_loopw [0, 3] (fun a b wr => ∃ (f m : Nat) (out : ByteArray), a = .int .i64 (m : Int) ∧ b = .string out ∧ m ≤ 9999999 ∧ f ≤ 8 ∧ out.size ≤ 8 - f ∧ Below w.heap.size w wr ∧ Hid (m < 10 ^ f ∧ dgF f m ++ out.data.toList = dgF 8 n)) (fun a _ _ => (intOf a).toNat)
  case atStart => exact ⟨8, n, _, rfl, rfl, by omega, Nat.le_refl _, Nat.le_refl _, Below.refl _ _, ⟨by omega, by simp⟩⟩
  case round =>
    obtain ⟨f, m, out, rfl, rfl, hm, hf8, hsz, hbw, hd⟩ := hrel
    by_cases hp : (0 : Int) < (m : Int)
    · have hone : ∀ d : Int, (strOfNums [d]).size = 1 := fun d => strOfNums_size [d]
      go_wp2
      go_roundw
      case rel =>
        obtain ⟨hf, hdg⟩ := hd.out
        cases f with
        | zero => simp at hf; omega
        | succ f =>
          rw [Nat.pow_succ] at hf
          refine ⟨f, m / 10, strOfNums [48 + (m : Int) % 10] ++ out, by simp, rfl, by omega, by omega, ?_, hbw.alloc hbw.size _, by omega, ?_⟩
          · rw [ByteArray.size_append, hone]; omega
          · have e : (strOfNums [48 + (m : Int) % 10]).data.toList = [UInt8.ofNat (48 + m % 10)] := by
              rw [strOfNums_data]
              have : (48 + (m : Int) % 10).toNat = 48 + m % 10 := by omega
              simp only [List.map_cons, List.map_nil, this]
            rw [dgF_pos f m (by omega), List.append_assoc] at hdg
            rw [← hdg, ByteArray.data_append, Array.toList_append, e]
      case measure => simp [intOf]; omega
    · have hT : Hid (⟨#[109]⟩ ++ out = markOf n) := by
        obtain ⟨_, h⟩ := hd.out
        have e : m = 0 := by omega
        rw [e, dgF_zero, List.nil_append] at h
        show _ = _
        apply ByteArray.ext
        apply Array.toList_inj.1
        rw [ByteArray.data_append, Array.toList_append, h]
        rfl
      have hs2 : ¬ 9223372036854775807 < (⟨#[109]⟩ : ByteArray).size + out.size := by
        have : (⟨#[109]⟩ : ByteArray).size = 1 := rfl
        omega
      go_wp2
      go_ret
      exact TextIs.of hT.out hbw
theorem markText_int (x : Int) (n : Nat) (w : World) (hx : x = (n : Int)) (h0 : 1 ≤ n) (hn : n ≤ 9999999) :
    Calls Tryz.prog 18 #[.int .i64 x] w fun e w' => TextIs (markOf n) w e w' := by
  subst hx; exact markText_any n w h0 hn

end Go.Proofs.YtacfajnagbeocaaGreatDoor

namespace Go.Proofs.YtacfajnagbeocaaGreatDoor
open Go.RowKit
open Go.Lib hiding intOf

/-- The bytes that a draw reads: a slice that came in, in blocks below B. -/
structure CodeAt (w : World) (B : Nat) (a : Option Addr) (len : Nat) (zs : List Int) : Prop where
  le : len ≤ 1048576
  get : ∀ j, j < len → ∃ b off, a = some ⟨b, off, none⟩ ∧ b < B ∧ w.cell? ⟨b, off + j, none⟩ = some (.int .u8 (zs.getD j 0)) ∧ 0 ≤ zs.getD j 0 ∧ zs.getD j 0 ≤ 255
theorem CodeAt.below {w w' : World} {B : Nat} {a : Option Addr} {len : Nat} {zs : List Int} (h : CodeAt w B a len zs) (hb : Below B w w') : CodeAt w' B a len zs :=
  ⟨h.le, fun j hj => by
    obtain ⟨b, off, h1, h2, h3, h4⟩ := h.get j hj
    exact ⟨b, off, h1, h2, by rw [hb.cell (p := ⟨b, off + j, none⟩) h2]; exact h3, h4⟩⟩
theorem grown_cell {w w' : World} {c : Nat} (hg : w.grownBy w' (some c)) {g j : Nat} {v : Value} (h : w.cell? ⟨g, j, none⟩ = some v) (hne : g ≠ c) : w'.cell? ⟨g, j, none⟩ = some v :=
  hg.cell h (fun e => hne (Option.some.inj e))

end Go.Proofs.YtacfajnagbeocaaGreatDoor

namespace Go.Proofs.YtacfajnagbeocaaGreatDoor
open Go.RowKit
open Go.Lib hiding intOf

theorem CodeAt.grown {w w' : World} {B c : Nat} {a : Option Addr} {len : Nat} {zs : List Int} (h : CodeAt w B a len zs) (hg : w.grownBy w' (some c)) (hB : B ≤ c) : CodeAt w' B a len zs :=
  ⟨h.le, fun j hj => by
    obtain ⟨b, off, h1, h2, h3, h4⟩ := h.get j hj
    exact ⟨b, off, h1, h2, grown_cell hg h3 (by omega), h4⟩⟩
end Go.Proofs.YtacfajnagbeocaaGreatDoor

namespace Go.Proofs.YtacfajnagbeocaaGreatDoor
open Go.RowKit
open Go.Lib hiding intOf

/-- The text of whatever int: that of a number from 0 to 1000000, else the empty one. -/
def numTextI (n : Int) : ByteArray := if n < 0 then ⟨#[]⟩ else numText n.toNat

theorem decDigits_zero : Lib.decDigits 0 = [48] := by rw [Lib.decDigits, dif_pos (by omega)]; rfl
theorem dg_dec : ∀ (f n : Nat), n < 10 ^ f → n ≠ 0 → dgF f n = Lib.decDigits n := by
  intro f
  induction f with
  | zero => intro n h h0; simp at h; omega
  | succ f ih =>
    intro n h h0
    rw [dgF_pos f n h0]
    rw [Nat.pow_succ] at h
    by_cases hs : n < 10
    · rw [Lib.decDigits, dif_pos hs]
      have e1 : n / 10 = 0 := by omega
      have e2 : n % 10 = n := by omega
      rw [e1, dgF_zero, e2]; rfl
    · rw [Lib.decDigits, dif_neg hs, ih (n / 10) (by omega) (by omega)]
theorem itoa_num (n : Int) (h0 : 0 ≤ n) (h1 : n ≤ 1000000) : (⟨(Lib.itoa n).toArray⟩ : ByteArray) = numTextI n := by
  unfold numTextI
  rw [if_neg (by omega)]
  unfold numText numL Lib.itoa
  rw [if_neg (by omega), if_neg (by omega)]
  by_cases h : n.toNat = 0
  · rw [if_pos h, h, decDigits_zero]
  · rw [if_neg h, dg_dec 8 n.toNat (by omega) h]

/-- The table that strconv.Itoa reads holds what the program's text lays. -/
def TabOk (w : World) : Prop := Lib.TabIs Tryz.prog w "internal/strconv.uint64pow10" .u64 Lib.pow10Tab
theorem gTab : Tryz.prog.globalNamed "internal/strconv.uint64pow10" = some 1 := by kernel_rfl
theorem TabOk.lt {w : World} (h : TabOk w) : 1 < w.heap.size := by
  unfold TabOk Lib.TabIs World.var? at h
  rw [gTab] at h
  rcases Nat.lt_or_ge 1 w.heap.size with hl | hl
  · exact hl
  · simp [Array.getElem?_eq_none hl] at h
theorem TabOk.below {w w' : World} (h : TabOk w) (hb : Below w.heap.size w w') : TabOk w' := var?_below hb gTab h.lt h

set_option maxHeartbeats 1000000 in
theorem implNumText_any (n : Int) (w : World) (h0 : -9223372036854775808 ≤ n) (h1 : n ≤ 9223372036854775807) (htab : TabOk w) :
    Calls Tryz.prog 86 #[.int .i64 n] w fun e w' => TextIs (numTextI n) w e w' := by
  by_cases hn : n < 0
  · have hT : Hid (⟨#[]⟩ = numTextI n) := by show _ = _; unfold numTextI; rw [if_pos hn]
    go_enter Tryz.func86, Tryz.ntmps86
    go_wp2_with fail
    go_ret
    exact TextIs.of hT.out (Below.refl _ _)
  · by_cases hb : 1000000 < n
    · have hT : Hid (⟨#[]⟩ = numTextI n) := by
        show _ = _
        unfold numTextI numText numL; rw [if_neg hn, if_pos (by omega)]
      go_enter Tryz.func86, Tryz.ntmps86
      go_wp2_with fail
      go_ret
      exact TextIs.of hT.out (Below.refl _ _)
    · have hT : Hid _ := itoa_num n (by omega) (by omega)
      have HT : Hid (TabOk w) := htab
      clear htab
      go_enter Tryz.func86, Tryz.ntmps86
      go_wp2_with fail
      refine (Tryz.strconv_Itoa n h0 h1 w HT.out).mono ?_
      rintro e w1 ⟨rfl, k, os, rfl⟩
      rw [hT.out]
      have hb1 := Lib.below_grow w.heap.size w (Nat.le_refl _) k os
      obtain ⟨w1, hw1⟩ : ∃ w1, w1 = Sort.grow (w.drewN k) os := ⟨_, rfl⟩
      rw [← hw1] at hb1 ⊢
      clear hw1
      go_wp2_with fail
      go_ret
      exact TextIs.of rfl hb1

end Go.Proofs.YtacfajnagbeocaaGreatDoor

namespace Go.Proofs.YtacfajnagbeocaaGreatDoor
open Go.ChangeShapes Go.WideShapes Go.ChangeAt Go.RowKit

theorem gTabType : (Tryz.prog.globals[1]?).map (·.type) = some 123 := by kernel_rfl
theorem cells62 : Tryz.prog.cellsOf 123 = 20 := by kernel_rfl
theorem cells55 : Tryz.prog.cellsOf 117 = 1 := by kernel_rfl
theorem table {W : World} (h : laidMetH Tryz.prog Rows.fnExactFeedRow.laid W) : TabOk W := by
  have h1 : laidMet Tryz.prog Rows.fnExactFeedRow.laid W := h
  obtain ⟨ps, hl, _⟩ := h1
  obtain ⟨g1, t1, cs1, f1, p1, q1, _, _, _, _, hr1, _⟩ := hl
  obtain ⟨g2, t2, cs2, f2, p2, q2, _, _, _, _, hr2, _⟩ := hr1
  obtain ⟨g3, t3, cs3, f3, p3, q3, hg, ht, hvar, hd, _, _⟩ := hr2
  obtain rfl := Option.some.inj (gTab.symm.trans hg)
  obtain rfl := Option.some.inj (gTabType.symm.trans ht)
  unfold TabOk Lib.TabIs
  rw [hvar, ← Lib.cells_of_tab (zs := Lib.pow10Tab) Tryz.underlying123 Tryz.underlying117 cells55 cells62 hd]

/-- A world with the three tables as their initialisers lay them. -/
def withTables (w : World) : World :=
  { w with heap := ((w.heap.modify 1 fun
      | .cells _ t frozen => .cells #[.int .u64 1, .int .u64 10, .int .u64 100, .int .u64 1000, .int .u64 10000, .int .u64 100000, .int .u64 1000000, .int .u64 10000000, .int .u64 100000000, .int .u64 1000000000, .int .u64 10000000000, .int .u64 100000000000, .int .u64 1000000000000, .int .u64 10000000000000, .int .u64 100000000000000, .int .u64 1000000000000000, .int .u64 10000000000000000, .int .u64 100000000000000000, .int .u64 1000000000000000000, .int .u64 10000000000000000000] t frozen
      | o => o).modify 2 fun
      | .cells _ t frozen => .cells #[.int .u8 0, .int .u8 1, .int .u8 28, .int .u8 2, .int .u8 29, .int .u8 14, .int .u8 24, .int .u8 3, .int .u8 30, .int .u8 22, .int .u8 20, .int .u8 15, .int .u8 25, .int .u8 17, .int .u8 4, .int .u8 8, .int .u8 31, .int .u8 27, .int .u8 13, .int .u8 23, .int .u8 21, .int .u8 19, .int .u8 16, .int .u8 7, .int .u8 26, .int .u8 12, .int .u8 18, .int .u8 6, .int .u8 11, .int .u8 5, .int .u8 10, .int .u8 9] t frozen
      | o => o).modify 3 fun
      | .cells _ t frozen => .cells #[.int .u8 0, .int .u8 1, .int .u8 56, .int .u8 2, .int .u8 57, .int .u8 49, .int .u8 28, .int .u8 3, .int .u8 61, .int .u8 58, .int .u8 42, .int .u8 50, .int .u8 38, .int .u8 29, .int .u8 17, .int .u8 4, .int .u8 62, .int .u8 47, .int .u8 59, .int .u8 36, .int .u8 45, .int .u8 43, .int .u8 51, .int .u8 22, .int .u8 53, .int .u8 39, .int .u8 33, .int .u8 30, .int .u8 24, .int .u8 18, .int .u8 12, .int .u8 5, .int .u8 63, .int .u8 55, .int .u8 48, .int .u8 27, .int .u8 60, .int .u8 41, .int .u8 37, .int .u8 16, .int .u8 46, .int .u8 35, .int .u8 44, .int .u8 21, .int .u8 52, .int .u8 32, .int .u8 23, .int .u8 11, .int .u8 54, .int .u8 26, .int .u8 40, .int .u8 15, .int .u8 34, .int .u8 20, .int .u8 31, .int .u8 10, .int .u8 25, .int .u8 14, .int .u8 19, .int .u8 9, .int .u8 13, .int .u8 8, .int .u8 7, .int .u8 6] t frozen
      | o => o }
end Go.Proofs.YtacfajnagbeocaaGreatDoor

namespace Go.Proofs.YtacfajnagbeocaaGreatDoor
open Go.RowKit
open Go.Lib hiding intOf

def nameAt (fs : List (ByteArray × ByteArray)) (i : Nat) : ByteArray := (fs.getD i (⟨#[]⟩, ⟨#[]⟩)).1
def valAt (fs : List (ByteArray × ByteArray)) (i : Nat) : ByteArray := (fs.getD i (⟨#[]⟩, ⟨#[]⟩)).2
/-- A list of fields as a row of cells: two a field. -/
def flatF (fs : List (ByteArray × ByteArray)) : List Value := fs.flatMap (fun f => [Value.string f.1, Value.string f.2])
theorem flatF_len (fs : List (ByteArray × ByteArray)) : (flatF fs).length = fs.length * 2 := by
  induction fs with
  | nil => rfl
  | cons f r ih => simp only [flatF, List.flatMap_cons, List.length_append, List.length_cons, List.length_nil] at ih ⊢; omega
theorem flatF_get : ∀ (fs : List (ByteArray × ByteArray)) (i : Nat), i < fs.length → (flatF fs)[i * 2]? = some (.string (nameAt fs i)) ∧ (flatF fs)[i * 2 + 1]? = some (.string (valAt fs i))
  | [], i, h => by simp at h
  | f :: r, 0, _ => by simp [flatF, nameAt, valAt]
  | f :: r, i + 1, h => by
    have ih := flatF_get r i (by simpa using h)
    have e : flatF (f :: r) = Value.string f.1 :: Value.string f.2 :: flatF r := rfl
    rw [e, show (i + 1) * 2 = i * 2 + 2 by omega, show i * 2 + 2 + 1 = (i * 2 + 1) + 2 by omega]
    simp only [List.getElem?_cons_succ]
    exact ih

/-- What an owned list of fields is, cell by cell. -/
structure FieldRow (base : Nat) (w : World) (g n cap : Nat) (fs : List (ByteArray × ByteArray)) : Prop where
  len : fs.length = n
  base : base ≤ g
  lt : g < w.heap.size
  le : n ≤ cap
  mx : cap ≤ maxLen
  heap : ∃ cur, w.heap[g]? = some (.cells cur 63 (0, 0)) ∧ cur.size = cap * 2 ∧ ∀ i, i < n → cur[i * 2]? = some (.string (nameAt fs i)) ∧ cur[i * 2 + 1]? = some (.string (valAt fs i))
theorem FieldRow.name {base : Nat} {w : World} {g n cap : Nat} {fs : List (ByteArray × ByteArray)} (h : FieldRow base w g n cap fs) (i : Nat) (hi : i < n) : w.cell? ⟨g, i * 2, none⟩ = some (.string (nameAt fs i)) := by
  obtain ⟨cur, hg, _, hc⟩ := h.heap
  simp only [World.cell?, hg]
  simpa using (hc i hi).1
theorem FieldRow.val {base : Nat} {w : World} {g n cap : Nat} {fs : List (ByteArray × ByteArray)} (h : FieldRow base w g n cap fs) (i : Nat) (hi : i < n) : w.cell? ⟨g, i * 2 + 1, none⟩ = some (.string (valAt fs i)) := by
  obtain ⟨cur, hg, _, hc⟩ := h.heap
  simp only [World.cell?, hg]
  simpa using (hc i hi).2
theorem FieldRow.frozen {base : Nat} {w : World} {g n cap : Nat} {fs : List (ByteArray × ByteArray)} (h : FieldRow base w g n cap fs) (i : Nat) : w.frozen? ⟨g, i, none⟩ = false := by
  obtain ⟨cur, hg, _⟩ := h.heap
  simp [World.frozen?, hg]
theorem FieldRow.below {base B : Nat} {w w' : World} {g n cap : Nat} {fs : List (ByteArray × ByteArray)} (h : FieldRow base w g n cap fs) (hb : Below B w w') (hB : g < B) : FieldRow base w' g n cap fs := by
  obtain ⟨cur, hg, hc⟩ := h.heap
  have := hb.size; have := h.lt
  exact ⟨h.len, h.base, by omega, h.le, h.mx, cur, by rw [hb.block g hB]; exact hg, hc⟩
/-- An owned list of fields is empty, or such a row. -/
theorem frow_form {w : World} {base n : Nat} {v : Value} {fs : List (ByteArray × ByteArray)} (h : w.ownsRow base 63 2 v n (flatF fs)) :
    (∃ oa cap, v = .slice oa 0 cap ∧ (oa = none → cap = 0) ∧ n = 0 ∧ fs = []) ∨ ∃ g cap, v = .slice (some ⟨g, 0, none⟩) n cap ∧ 0 < n ∧ FieldRow base w g n cap fs := by
  obtain ⟨hl, hv⟩ := h
  rw [flatF_len] at hl
  rcases hv with ⟨rfl, h0⟩ | ⟨g, cap, cur, rfl, hb, hg, hn, hm, hcs, htk⟩
  · exact .inl ⟨none, 0, rfl, fun _ => rfl, h0, List.length_eq_zero_iff.1 (by omega)⟩
  · by_cases h0 : n = 0
    · subst h0
      exact .inl ⟨_, _, rfl, (fun h => by cases h), rfl, List.length_eq_zero_iff.1 (by omega)⟩
    · refine .inr ⟨g, cap, rfl, by omega, by omega, hb, (Array.getElem?_eq_some_iff.1 hg).1, hn, hm, cur, hg, hcs, ?_⟩
      intro i hi
      have hf := flatF_get fs i (by omega)
      rw [← htk, List.getElem?_take, List.getElem?_take, if_pos (by omega), if_pos (by omega)] at hf
      simpa using hf
theorem FieldRow.owns {base : Nat} {w : World} {g n cap : Nat} {fs : List (ByteArray × ByteArray)} (h : FieldRow base w g n cap fs) : w.ownsRow base 63 2 (.slice (some ⟨g, 0, none⟩) n cap) n (flatF fs) := by
  obtain ⟨cur, hg, hs, hc⟩ := h.heap
  have hl := h.len; have hle := h.le
  refine ⟨by rw [flatF_len, hl], .inr ⟨g, cap, cur, rfl, h.base, hg, h.le, h.mx, hs, ?_⟩⟩
  apply List.ext_getElem?
  intro j
  rw [List.getElem?_take]
  by_cases hj : j < n * 2
  · rw [if_pos hj]
    have hf := flatF_get fs (j / 2) (by omega)
    have hcc := hc (j / 2) (by omega)
    rcases Nat.mod_two_eq_zero_or_one j with e | e
    · have e2 : j / 2 * 2 = j := by omega
      rw [e2] at hf hcc
      rw [hf.1]; simpa using hcc.1
    · have e2 : j / 2 * 2 + 1 = j := by omega
      rw [e2] at hf hcc
      rw [hf.2]; simpa using hcc.2
  · rw [if_neg hj, List.getElem?_eq_none (by rw [flatF_len]; omega)]

/-- A list of fields that a function reads: empty, or a row. -/
def FieldsV (w : World) (base : Nat) (v : Value) (n : Nat) (fs : List (ByteArray × ByteArray)) : Prop :=
  (∃ oa cap, v = .slice oa 0 cap ∧ (oa = none → cap = 0) ∧ n = 0 ∧ fs = []) ∨ ∃ g cap, v = .slice (some ⟨g, 0, none⟩) n cap ∧ 0 < n ∧ FieldRow base w g n cap fs

/-- Where the first field of that name stands; the length where there is none. -/
def atF : List (ByteArray × ByteArray) → ByteArray → Nat
  | [], _ => 0
  | f :: r, name => if f.1 = name then 0 else atF r name + 1
theorem atF_le : ∀ (fs : List (ByteArray × ByteArray)) (name : ByteArray), atF fs name ≤ fs.length
  | [], _ => Nat.le_refl _
  | f :: r, name => by
    rw [atF]
    split
    · exact Nat.zero_le _
    · have := atF_le r name; simp; omega
theorem atF_before : ∀ (fs : List (ByteArray × ByteArray)) (name : ByteArray) (j : Nat), j < atF fs name → nameAt fs j ≠ name
  | [], _, j, h => by simp [atF] at h
  | f :: r, name, j, h => by
    rw [atF] at h
    split at h
    · omega
    · rename_i hne
      cases j with
      | zero => simpa [nameAt] using hne
      | succ j => have := atF_before r name j (by omega); simpa [nameAt] using this
theorem atF_here : ∀ (fs : List (ByteArray × ByteArray)) (name : ByteArray), atF fs name < fs.length → nameAt fs (atF fs name) = name
  | [], _, h => by simp [atF] at h
  | f :: r, name, h => by
    rw [atF] at h ⊢
    split
    · rename_i he; simpa [nameAt] using he
    · rename_i hne
      rw [if_neg hne] at h
      have := atF_here r name (by simpa using h)
      simpa [nameAt] using this
theorem atF_uniq {fs : List (ByteArray × ByteArray)} {name : ByteArray} {k : Nat} (hk : k < fs.length) (hb : ∀ j, j < k → nameAt fs j ≠ name) (he : nameAt fs k = name) : atF fs name = k := by
  rcases Nat.lt_trichotomy (atF fs name) k with h | h | h
  · exact absurd (atF_here fs name (by omega)) (hb _ h)
  · exact h
  · exact absurd he (atF_before fs name k h)
theorem atF_none {fs : List (ByteArray × ByteArray)} {name : ByteArray} (hb : ∀ j, j < fs.length → nameAt fs j ≠ name) : atF fs name = fs.length := by
  rcases Nat.lt_or_ge (atF fs name) fs.length with h | h
  · exact absurd (atF_here fs name h) (hb _ h)
  · have := atF_le fs name; omega
/-- The place as an int: -1 where there is none. -/
def atI (fs : List (ByteArray × ByteArray)) (name : ByteArray) : Int := if atF fs name < fs.length then (atF fs name : Int) else -1

set_option maxHeartbeats 1000000 in
theorem l2At_any (v : Value) (n base : Nat) (fs : List (ByteArray × ByteArray)) (name : ByteArray) (w : World) (hv : FieldsV w base v n fs) (hn : n ≤ 1073741824) :
    Calls Tryz.prog 58 #[v, .string name] w fun e w' => e = .returned (.int .i64 (atI fs name)) ∧ w' = w := by
  rcases hv with ⟨oa, ca, rfl, _, rfl, rfl⟩ | ⟨g, cap, rfl, hp, row⟩
  · have hT : Hid (atI [] name = -1) := rfl
    go_enter Tryz.func58, Tryz.ntmps58
    go_wp2
    refine wp_loop_rounds 1 ?_
    rw [rounds_succ]
    go_wp2
    go_ret
    exact ⟨by rw [hT.out]; rfl, rfl⟩
  · have hl := row.len
    go_enter Tryz.func58, Tryz.ntmps58
    go_wp2
    go_loop [5] (fun i => ∃ k : Nat, k ≤ n ∧ i = .int .i64 (k : Int) ∧ Hid (∀ j, j < k → nameAt fs j ≠ name)) (fun i => n - (intOf i).toNat)
    case atStart => exact ⟨0, Nat.zero_le _, rfl, fun j h => absurd h (by omega)⟩
    case round =>
      obtain ⟨k, hk, rfl, hb⟩ := hrel
      by_cases hlt : k < n
      · have hc := row.name k hlt
        have hlt2 : (k : Int) < (n : Int) := by omega
        by_cases he : nameAt fs k = name
        · have hT : Hid (atI fs name = (k : Int)) := by
            have := atF_uniq (by omega) hb.out he
            show _ = _
            unfold atI; rw [this, if_pos (by omega)]
          have ht : ((nameAt fs k).toList == name.toList) = true := (text_beq _ _).2 he
          clear he
          go_wp2
          go_ret
          exact ⟨by rw [hT.out]; rfl, rfl⟩
        · have ht : ((nameAt fs k).toList == name.toList) = false := by
            rcases Bool.eq_false_or_eq_true ((nameAt fs k).toList == name.toList) with h | h
            · exact absurd ((text_beq _ _).1 h) he
            · exact h
          have HE : Hid (nameAt fs k ≠ name) := he
          clear he
          go_wp2
          go_round
          case rel =>
            refine ⟨k + 1, by omega, by go_num, ?_⟩
            intro j hj
            by_cases e : j = k
            · subst e; exact HE.out
            · exact hb.out j (by omega)
          case measure => simp [intOf]; omega
      · have hT : Hid (atI fs name = -1) := by
          have := atF_none (fs := fs) (name := name) (fun j hj => hb.out j (by omega))
          show _ = _
          unfold atI; rw [this, if_neg (by omega)]
        go_wp2
        go_ret
        exact ⟨by rw [hT.out]; rfl, rfl⟩

theorem FieldsV.of_owns {w : World} {base n : Nat} {v : Value} {fs : List (ByteArray × ByteArray)} (h : w.ownsRow base 63 2 v n (flatF fs)) : FieldsV w base v n fs := frow_form h
theorem FieldsV.below {w w' : World} {base n : Nat} {v : Value} {fs : List (ByteArray × ByteArray)} (h : FieldsV w base v n fs) (hb : Below w.heap.size w w') : FieldsV w' base v n fs := by
  rcases h with h | ⟨g, cap, h1, h2, h3⟩
  · exact .inl h
  · exact .inr ⟨g, cap, h1, h2, h3.below hb h3.lt⟩
theorem FieldsV.len {w : World} {base n : Nat} {v : Value} {fs : List (ByteArray × ByteArray)} (h : FieldsV w base v n fs) : fs.length = n := by
  rcases h with ⟨_, _, _, _, rfl, rfl⟩ | ⟨_, _, _, _, h⟩
  · rfl
  · exact h.len

/-- A list of fields is a slice; where there is a field it is a row's. -/
theorem FieldsV.slice {w : World} {base n : Nat} {v : Value} {fs : List (ByteArray × ByteArray)} (h : FieldsV w base v n fs) :
    ∃ oa cap, v = .slice oa n cap ∧ ∀ k, k < n → ∃ g, oa = some ⟨g, 0, none⟩ ∧ FieldRow base w g n cap fs := by
  rcases h with ⟨oa, ca, rfl, _, rfl, rfl⟩ | ⟨g, cap, rfl, hp, row⟩
  · exact ⟨oa, ca, rfl, fun k hk => absurd hk (by omega)⟩
  · exact ⟨_, cap, rfl, fun k _ => ⟨g, rfl, row⟩⟩

/-- The text of the first k fields. -/
def ftTo (fs : List (ByteArray × ByteArray)) : Nat → ByteArray
  | 0 => ⟨#[]⟩
  | k + 1 => ftTo fs k ++ nameAt fs k ++ ⟨#[58, 32]⟩ ++ valAt fs k ++ ⟨#[13, 10]⟩
def fieldsText (fs : List (ByteArray × ByteArray)) : ByteArray := ftTo fs fs.length
theorem ftTo_size (fs : List (ByteArray × ByteArray)) (k : Nat) : (ftTo fs (k + 1)).size = (ftTo fs k).size + (nameAt fs k).size + (valAt fs k).size + 4 := by
  rw [ftTo, ByteArray.size_append, ByteArray.size_append, ByteArray.size_append, ByteArray.size_append]
  have h1 : (⟨#[58, 32]⟩ : ByteArray).size = 2 := rfl
  have h2 : (⟨#[13, 10]⟩ : ByteArray).size = 2 := rfl
  omega
theorem ftTo_mono (fs : List (ByteArray × ByteArray)) (k : Nat) : ∀ d, (ftTo fs k).size ≤ (ftTo fs (k + d)).size := by
  intro d
  induction d with
  | zero => exact Nat.le_refl _
  | succ d ih => have := ftTo_size fs (k + d); rw [show k + (d + 1) = (k + d) + 1 by omega]; omega

set_option maxHeartbeats 1000000 in
theorem specFieldsText_any (v : Value) (n base : Nat) (fs : List (ByteArray × ByteArray)) (w : World) (hv : FieldsV w base v n fs) (hn : n ≤ 1073741824) (hsz : (fieldsText fs).size ≤ 1099511627776) :
    Calls Tryz.prog 34 #[v] w fun e w' => TextIs (fieldsText fs) w e w' := by
  have hl := hv.len
  rcases hv with ⟨oa, ca, rfl, _, rfl, rfl⟩ | ⟨g, cap, rfl, hp, row⟩
  · have hT : Hid (fieldsText [] = ⟨#[]⟩) := rfl
    clear hsz
    go_enter Tryz.func34, Tryz.ntmps34
    go_wp2
    refine wp_loop_rounds 1 ?_
    rw [rounds_succ]
    go_wp2
    go_ret
    exact TextIs.of hT.out.symm (Below.refl _ _)
  · have HZ : Hid (∀ k, k < n → (ftTo fs (k + 1)).size ≤ 1099511627776) := fun k hk => by
      have := ftTo_mono fs (k + 1) (fs.length - (k + 1))
      rw [show k + 1 + (fs.length - (k + 1)) = fs.length by omega] at this
      exact Nat.le_trans this hsz
    have HF : Hid (fieldsText fs = ftTo fs n) := by show _ = _; unfold fieldsText; rw [hl]
    clear hsz
    go_enter Tryz.func34, Tryz.ntmps34
    go_wp2
    go_loopw [3, 4] (fun o i wr => ∃ (k : Nat) (out : ByteArray), k ≤ n ∧ i = .int .i64 (k : Int) ∧ o = .string out ∧ Hid (out = ftTo fs k) ∧ Below w.heap.size w wr) (fun _ i _ => n - (intOf i).toNat)
    case atStart => exact ⟨0, _, Nat.zero_le _, rfl, rfl, rfl, Below.refl _ _⟩
    case round =>
      obtain ⟨k, out, hk, rfl, rfl, hout, hbw⟩ := hrel
      by_cases hlt : k < n
      · have hr1 := row.below hbw row.lt
        obtain ⟨nm, hnm⟩ : ∃ x, x = nameAt fs k := ⟨_, rfl⟩
        obtain ⟨vl, hvl⟩ : ∃ x, x = valAt fs k := ⟨_, rfl⟩
        have hc1 := hr1.name k hlt
        have hc2 := hr1.val k hlt
        have hz := HZ.out k hlt
        rw [ftTo_size] at hz
        have HN : Hid (out ++ nm ++ ⟨#[58, 32]⟩ ++ vl ++ ⟨#[13, 10]⟩ = ftTo fs (k + 1)) := by
          show _ = _
          rw [ftTo, ← hout.out, hnm, hvl]
        rw [← hout.out, ← hnm, ← hvl] at hz
        rw [← hnm] at hc1
        rw [← hvl] at hc2
        have hlt2 : (k : Int) < (n : Int) := by omega
        have e1 : (⟨#[58, 32]⟩ : ByteArray).size = 2 := rfl
        have e2 : (⟨#[13, 10]⟩ : ByteArray).size = 2 := rfl
        have q1 : ¬ 9223372036854775807 < out.size + nm.size := by omega
        have q2 : ¬ 9223372036854775807 < (out ++ nm).size + 2 := by rw [ByteArray.size_append]; omega
        have q3 : ¬ 9223372036854775807 < (out ++ nm ++ ⟨#[58, 32]⟩).size + vl.size := by rw [ByteArray.size_append, ByteArray.size_append]; omega
        have q4 : ¬ 9223372036854775807 < (out ++ nm ++ ⟨#[58, 32]⟩ ++ vl).size + 2 := by rw [ByteArray.size_append, ByteArray.size_append, ByteArray.size_append]; omega
        clear hnm hvl hz hr1
        go_wp2
        go_quiet (fail)
        go_wp2
        go_roundw
        case rel => exact ⟨k + 1, _, by omega, by go_num, rfl, HN, below_drewN hbw _⟩
        case measure => simp [intOf]; omega
      · have hT : Hid (out = fieldsText fs) := by
          obtain rfl : k = n := by omega
          show _ = _; rw [hout.out, HF.out]
        go_wp2
        go_ret
        exact TextIs.of hT.out hbw

/-- What the chapter asks of fields. -/
def FldsOk (fs : List (ByteArray × ByteArray)) : Prop :=
  fs.length ≤ 8 ∧ ∀ i, i < fs.length → TokOk (nameAt fs i) ∧ ValOk (valAt fs i) ∧ atF fs (nameAt fs i) = i ∧ nameAt fs i ≠ ⟨#[99, 111, 110, 116, 101, 110, 116, 45, 108, 101, 110, 103, 116, 104]⟩
def clen : ByteArray := ⟨#[99, 111, 110, 116, 101, 110, 116, 45, 108, 101, 110, 103, 116, 104]⟩
def FldOk (fs : List (ByteArray × ByteArray)) (i : Nat) : Prop := TokOk (nameAt fs i) ∧ ValOk (valAt fs i) ∧ atF fs (nameAt fs i) = i ∧ nameAt fs i ≠ clen
theorem clen_list : clen.toList = [99, 111, 110, 116, 101, 110, 116, 45, 108, 101, 110, 103, 116, 104] := by rw [ByteArray.toList_eq]; rfl
theorem text_beq_no {a b : ByteArray} (h : a ≠ b) : (a.toList == b.toList) = false := by
  rcases Bool.eq_false_or_eq_true (a.toList == b.toList) with h1 | h1
  · exact absurd ((text_beq _ _).1 h1) h
  · exact h1

set_option maxHeartbeats 2000000 in
theorem specFieldsOk_any (v : Value) (n base : Nat) (fs : List (ByteArray × ByteArray)) (w : World) (hv : FieldsV w base v n fs) (hn : n ≤ 1073741824) (hsz : ∀ i, i < n → (nameAt fs i).size ≤ maxLen ∧ (valAt fs i).size ≤ maxLen) :
    Calls Tryz.prog 44 #[v] w fun e w' => BoolIs (FldsOk fs) w e w' := by
  have hl := hv.len
  have HV : Hid (FieldsV w base v n fs) := hv
  have HS : Hid (∀ i, i < n → (nameAt fs i).size ≤ maxLen ∧ (valAt fs i).size ≤ maxLen) := hsz
  clear hsz
  rcases hv with ⟨oa, ca, rfl, _, rfl, rfl⟩ | ⟨g, cap, rfl, hp, row⟩
  · have hT : Hid (FldsOk []) := ⟨by simp, fun i hi => absurd hi (by simp)⟩
    clear HV HS
    go_enter Tryz.func44, Tryz.ntmps44
    go_wp2
    refine wp_loop_rounds 1 ?_
    rw [rounds_succ]
    go_wp2
    go_ret
    exact BoolIs.yes hT.out (Below.refl _ _)
  · go_enter Tryz.func44, Tryz.ntmps44
    go_wp2
    go_loopw [3] (fun i wr => ∃ k : Nat, k ≤ n ∧ i = .int .i64 (k : Int) ∧ Hid (∀ j, j < k → FldOk fs j) ∧ Below w.heap.size w wr) (fun i _ => n - (intOf i).toNat)
    case atStart => exact ⟨0, Nat.zero_le _, rfl, fun j h => absurd h (by omega), Below.refl _ _⟩
    case round =>
      obtain ⟨k, hk, rfl, hall, hbw⟩ := hrel
      by_cases hlt : k < n
      · have hlt2 : (k : Int) < (n : Int) := by omega
        obtain ⟨hs1, hs2⟩ := HS.out k hlt
        obtain ⟨nm, hnm⟩ : ∃ x, x = nameAt fs k := ⟨_, rfl⟩
        obtain ⟨vl, hvl⟩ : ∃ x, x = valAt fs k := ⟨_, rfl⟩
        have HR : Hid (∀ W, Below w.heap.size w W → W.cell? ⟨g, k * 2, none⟩ = some (.string nm) ∧ W.cell? ⟨g, k * 2 + 1, none⟩ = some (.string vl)) := fun W h => by
          rw [hnm, hvl]; exact ⟨(row.below h row.lt).name k hlt, (row.below h row.lt).val k hlt⟩
        have HO : Hid (FldOk fs k ↔ TokOk nm ∧ ValOk vl ∧ atF fs nm = k ∧ nm ≠ clen) := by rw [hnm, hvl]; exact Iff.rfl
        have HNO : Hid (¬ (TokOk nm ∧ ValOk vl ∧ atF fs nm = k ∧ nm ≠ clen) → ¬ FldsOk fs) := fun h hf => h (HO.out.1 (hf.2 k (by omega)))
        have hatle : atF fs nm ≤ k := by
          rcases Nat.lt_or_ge k (atF fs nm) with h | h
          · exact absurd hnm.symm (atF_before fs nm k h)
          · exact h
        have hI : Hid (atI fs nm = (atF fs nm : Int)) := by show _ = _; unfold atI; rw [if_pos (by omega)]
        rw [← hnm] at hs1
        rw [← hvl] at hs2
        obtain ⟨c1, c2⟩ := HR.out wr hbw
        clear hnm hvl
        go_wp2_with fail
        refine (specTokenOk_any nm _ hs1).mono ?_
        rintro e w1 ⟨b1, rfl, kb1, bb1⟩
        have hb1 : Below w.heap.size w w1 := hbw.trans (bb1.mono hbw.size)
        obtain ⟨c1a, c2a⟩ := HR.out w1 hb1
        cases b1
        · have HF : Hid (¬ FldsOk fs) := HNO.out (fun h => by have := kb1.2 h.1; cases this)
          clear kb1 c1 c2 bb1
          go_wp2_with fail
          go_ret
          exact BoolIs.no HF.out hb1
        · have HT : Hid (TokOk nm) := kb1.1 rfl
          clear kb1 c1 c2 bb1
          go_wp2_with fail
          refine (specValueOk_any vl _ hs2).mono ?_
          rintro e w2 ⟨b2, rfl, kb2, bb2⟩
          have hb2 : Below w.heap.size w w2 := hb1.trans (bb2.mono hb1.size)
          obtain ⟨c1b, c2b⟩ := HR.out w2 hb2
          cases b2
          · have HF : Hid (¬ FldsOk fs) := HNO.out (fun h => by have := kb2.2 h.2.1; cases this)
            clear kb2 c1a c2a bb2
            go_wp2_with fail
            go_ret
            exact BoolIs.no HF.out hb2
          · have HT2 : Hid (ValOk vl) := kb2.1 rfl
            clear kb2 c1a c2a bb2
            go_wp2_with fail
            refine (l2At_any _ n base fs nm _ (HV.out.below hb2) hn).mono ?_
            rintro e w3 ⟨rfl, rfl⟩
            rw [hI.out]
            by_cases hat : atF fs nm = k
            · have hne : ((atF fs nm : Int) != (k : Int)) = false := by rw [bne_eq_false_iff_eq]; omega
              have HAT : Hid (atF fs nm = k) := hat
              clear hat
              by_cases hcl : nm = clen
              · have ht := (text_beq _ _).2 hcl
                rw [clen_list] at ht
                have HF : Hid (¬ FldsOk fs) := HNO.out (fun h => h.2.2.2 hcl)
                clear hcl
                go_wp2
                go_ret
                exact BoolIs.no HF.out hb2
              · have ht := text_beq_no hcl
                rw [clen_list] at ht
                have HY : Hid (FldOk fs k) := HO.out.2 ⟨HT.out, HT2.out, HAT.out, hcl⟩
                clear hcl
                go_wp2
                go_roundw
                case rel =>
                  refine ⟨k + 1, by omega, by go_num, ?_, hb2⟩
                  intro j hj
                  by_cases e : j = k
                  · subst e; exact HY.out
                  · exact hall.out j (by omega)
                case measure => simp [intOf]; omega
            · have hne : ((atF fs nm : Int) != (k : Int)) = true := by rw [bne_iff_ne]; omega
              have HF : Hid (¬ FldsOk fs) := HNO.out (fun h => hat h.2.2.1)
              clear hat
              go_wp2
              go_ret
              exact BoolIs.no HF.out hb2
      · by_cases h8 : (n : Int) ≤ 8
        · have HF : Hid (FldsOk fs) := ⟨by omega, fun i hi => hall.out i (by omega)⟩
          go_wp2
          go_ret
          exact BoolIs.yes HF.out hbw
        · have HF : Hid (¬ FldsOk fs) := fun h => by have := h.1; omega
          go_wp2
          go_ret
          exact BoolIs.no HF.out hbw

end Go.Proofs.YtacfajnagbeocaaGreatDoor

namespace Go.Proofs.YtacfajnagbeocaaGreatDoor
open Go.RowKit

def PathB (n : Int) : Prop := 33 ≤ n ∧ n ≤ 126
def PathOk (s : ByteArray) : Prop := AllB PathB s ∧ 1 ≤ s.size ∧ s.size ≤ 60 ∧ ∃ h : 0 < s.size, (s[0]'h).toNat = 47
def ReqP (m : Int) (path : ByteArray) (fs : List (ByteArray × ByteArray)) (body : ByteArray) : Prop := (1 ≤ m ∧ m ≤ 4) ∧ PathOk path ∧ FldsOk fs ∧ body.size ≤ 120
def RespP (st : Int) (fs : List (ByteArray × ByteArray)) (body : ByteArray) : Prop := (100 ≤ st ∧ st ≤ 599) ∧ FldsOk fs ∧ body.size ≤ 120

def methB (m : Int) : ByteArray := if m = 1 then ⟨#[71, 69, 84]⟩ else if m = 2 then ⟨#[72, 69, 65, 68]⟩ else if m = 3 then ⟨#[80, 79, 83, 84]⟩ else if m = 4 then ⟨#[80, 85, 82, 71, 69]⟩ else ⟨#[]⟩
def httpEnd : ByteArray := ⟨#[32, 72, 84, 84, 80, 47, 49, 46, 49, 13, 10]⟩
def httpAhead : ByteArray := ⟨#[72, 84, 84, 80, 47, 49, 46, 49, 32]⟩
def dotEnd : ByteArray := ⟨#[32, 46, 13, 10]⟩
def clenK : ByteArray := ⟨#[99, 111, 110, 116, 101, 110, 116, 45, 108, 101, 110, 103, 116, 104, 58, 32]⟩
def lnE : ByteArray := ⟨#[13, 10]⟩
def lnE2 : ByteArray := ⟨#[13, 10, 13, 10]⟩
/-- What a request's text is, right or not. -/
def reqHead (m : Int) (path : ByteArray) (fs : List (ByteArray × ByteArray)) : ByteArray := methB m ++ ⟨#[32]⟩ ++ path ++ httpEnd ++ fieldsText fs
def reqT (m : Int) (path : ByteArray) (fs : List (ByteArray × ByteArray)) (body : ByteArray) : ByteArray :=
  (if body.size = 0 then reqHead m path fs else reqHead m path fs ++ clenK ++ numText body.size ++ lnE) ++ lnE ++ body
def respT (st : Int) (fs : List (ByteArray × ByteArray)) (body : ByteArray) : ByteArray :=
  httpAhead ++ numText st.toNat ++ dotEnd ++ fieldsText fs ++ clenK ++ numText body.size ++ lnE2 ++ body
/-- The text is that of this right request. -/
def IsReq (s : ByteArray) (m : Int) (path : ByteArray) (fs : List (ByteArray × ByteArray)) (body : ByteArray) : Prop := ReqP m path fs body ∧ reqT m path fs body = s
def IsResp (s : ByteArray) (st : Int) (fs : List (ByteArray × ByteArray)) (body : ByteArray) : Prop := RespP st fs body ∧ respT st fs body = s

def bs (s : ByteArray) : List UInt8 := s.data.toList
theorem bs_append (a b : ByteArray) : bs (a ++ b) = bs a ++ bs b := by simp [bs]
theorem bs_inj {a b : ByteArray} (h : bs a = bs b) : a = b := by
  apply ByteArray.ext
  exact Array.toList_inj.1 h
theorem bs_len (a : ByteArray) : (bs a).length = a.size := by simp [bs]
theorem bs_all {p : Int → Prop} {s : ByteArray} (h : AllB p s) : ∀ b ∈ bs s, p (b.toNat : Int) := mem_byte (p := fun b => p (b.toNat : Int)) h

/-- The lines of a head and what is behind it. -/
def headL (out : List (List UInt8)) (cur : List UInt8) : List UInt8 → List (List UInt8) × Option (List UInt8)
  | [] => (out, none)
  | [_] => (out, none)
  | c :: d :: r => if c = 13 ∧ d = 10 then (if cur = [] then (out, some r) else headL (out ++ [cur]) [] r) else headL out (cur ++ [c]) (d :: r)
/-- What stands between blanks. -/
def wordsL (out : List (List UInt8)) (cur : List UInt8) : List UInt8 → List (List UInt8)
  | [] => out ++ [cur]
  | c :: r => if c = 32 then wordsL (out ++ [cur]) [] r else wordsL out (cur ++ [c]) r
/-- A line cut at its first colon with a blank behind it. -/
def fieldL (cur : List UInt8) : List UInt8 → Option (List UInt8 × List UInt8)
  | [] => none
  | [_] => none
  | c :: d :: r => if c = 58 ∧ d = 32 then some (cur, r) else fieldL (cur ++ [c]) (d :: r)
def clenL : List UInt8 := [99, 111, 110, 116, 101, 110, 116, 45, 108, 101, 110, 103, 116, 104]
def fieldsL : List (List UInt8) → List (List UInt8 × List UInt8)
  | [] => []
  | l :: r => match fieldL [] l with
    | some f => if f.1 = clenL then fieldsL r else f :: fieldsL r
    | none => fieldsL r

theorem head_line (out : List (List UInt8)) (line rest : List UInt8) (h13 : ∀ b ∈ line, b ≠ 13) : ∀ cur, cur ++ line ≠ [] → headL out cur (line ++ 13 :: 10 :: rest) = headL (out ++ [cur ++ line]) [] rest := by
  induction line with
  | nil =>
    intro cur hne
    simp only [List.append_nil] at hne
    simp [headL, hne]
  | cons c r ih =>
    intro cur _
    have hc : c ≠ 13 := h13 c (by simp)
    have ih := ih (fun b hb => h13 b (by simp [hb])) (cur ++ [c]) (by simp)
    rw [List.append_assoc] at ih
    cases r with
    | nil =>
      simp only [List.cons_append, List.nil_append] at ih ⊢
      rw [headL, if_neg (fun h => hc h.1), ih]
    | cons d r =>
      simp only [List.cons_append, List.nil_append] at ih ⊢
      rw [headL, if_neg (fun h => hc h.1), ih]
theorem head_lines (body : List UInt8) (lines : List (List UInt8)) (h : ∀ l ∈ lines, l ≠ [] ∧ ∀ b ∈ l, b ≠ 13) : ∀ out, headL out [] (lines.flatMap (fun l => l ++ [13, 10]) ++ 13 :: 10 :: body) = (out ++ lines, some body) := by
  induction lines with
  | nil => intro out; simp [headL]
  | cons l r ih =>
    intro out
    have hl := h l (by simp)
    have e : (l :: r).flatMap (fun l => l ++ [13, 10]) ++ 13 :: 10 :: body = l ++ 13 :: 10 :: (r.flatMap (fun l => l ++ [13, 10]) ++ 13 :: 10 :: body) := by simp
    rw [e, head_line out l _ hl.2 [] (by simpa using hl.1), ih (fun x hx => h x (by simp [hx]))]
    simp
theorem words_word (word rest : List UInt8) (h : ∀ b ∈ word, b ≠ 32) : ∀ out cur, wordsL out cur (word ++ 32 :: rest) = wordsL (out ++ [cur ++ word]) [] rest := by
  induction word with
  | nil => intro out cur; simp [wordsL]
  | cons c r ih =>
    intro out cur
    rw [List.cons_append, wordsL, if_neg (h c (by simp)), ih (fun b hb => h b (by simp [hb]))]
    simp
theorem words_last (word : List UInt8) (h : ∀ b ∈ word, b ≠ 32) : ∀ out cur, wordsL out cur word = out ++ [cur ++ word] := by
  induction word with
  | nil => intro out cur; simp [wordsL]
  | cons c r ih =>
    intro out cur
    rw [wordsL, if_neg (h c (by simp)), ih (fun b hb => h b (by simp [hb]))]
    simp
theorem field_cut (nm vl : List UInt8) (h : ∀ b ∈ nm, b ≠ 58) : ∀ cur, fieldL cur (nm ++ 58 :: 32 :: vl) = some (cur ++ nm, vl) := by
  induction nm with
  | nil => intro cur; simp [fieldL]
  | cons c r ih =>
    intro cur
    have ih := ih (fun b hb => h b (by simp [hb])) (cur ++ [c])
    cases r with
    | nil =>
      simp only [List.cons_append, List.nil_append] at ih ⊢
      rw [fieldL, if_neg (fun e => h c (by simp) e.1), ih]
      simp
    | cons d r =>
      simp only [List.cons_append] at ih ⊢
      rw [fieldL, if_neg (fun e => h c (by simp) e.1), ih]
      simp

def fieldLine (f : ByteArray × ByteArray) : List UInt8 := bs f.1 ++ 58 :: 32 :: bs f.2
def clenLine (n : Nat) : List UInt8 := clenL ++ 58 :: 32 :: numL n
theorem flds_mem {fs : List (ByteArray × ByteArray)} (h : FldsOk fs) : ∀ f ∈ fs, TokOk f.1 ∧ ValOk f.2 ∧ f.1 ≠ clen := by
  intro f hf
  obtain ⟨i, hi, rfl⟩ := List.getElem_of_mem hf
  have := h.2 i hi
  have e : (nameAt fs i, valAt fs i) = fs[i] := by
    unfold nameAt valAt
    rw [List.getD_eq_getElem?_getD, List.getElem?_eq_getElem hi]
    rfl
  rw [← e]
  exact ⟨this.1, this.2.1, this.2.2.2⟩
theorem fieldsL_of {fs : List (ByteArray × ByteArray)} (tail : List (List UInt8)) (h : ∀ f ∈ fs, TokOk f.1 ∧ ValOk f.2 ∧ f.1 ≠ clen) : fieldsL (fs.map fieldLine ++ tail) = fs.map (fun f => (bs f.1, bs f.2)) ++ fieldsL tail := by
  induction fs with
  | nil => rfl
  | cons f r ih =>
    have hf := h f (by simp)
    have h58 : ∀ b ∈ bs f.1, b ≠ 58 := fun b hb e => by
      have := bs_all hf.1.2.2 b hb
      subst e
      unfold TokB at this
      simp at this
    simp only [List.map_cons, List.cons_append, fieldsL]
    rw [show fieldL [] (fieldLine f) = some (bs f.1, bs f.2) from by have := field_cut (bs f.1) (bs f.2) h58 []; simpa [fieldLine] using this]
    simp only
    rw [if_neg (fun e => hf.2.2 (bs_inj (by rw [e]; rfl))), ih (fun x hx => h x (by simp [hx]))]
theorem fieldsL_clen (n : Nat) : fieldsL [clenLine n] = [] := by
  have h58 : ∀ b ∈ clenL, b ≠ 58 := by decide
  simp only [fieldsL]
  rw [show fieldL [] (clenLine n) = some (clenL, numL n) from by have := field_cut clenL (numL n) h58 []; simpa [clenLine] using this]
  simp
theorem bs_ft (fs : List (ByteArray × ByteArray)) : ∀ k, k ≤ fs.length → bs (ftTo fs k) = ((fs.take k).map fieldLine).flatMap (fun l => l ++ [13, 10]) := by
  intro k
  induction k with
  | zero => intro _; rfl
  | succ k ih =>
    intro hk
    have e : (nameAt fs k, valAt fs k) = fs[k]'(by omega) := by
      unfold nameAt valAt
      rw [List.getD_eq_getElem?_getD, List.getElem?_eq_getElem (by omega)]
      rfl
    have ht : fs.take (k + 1) = fs.take k ++ [fs[k]'(by omega)] := (List.take_append_getElem (by omega)).symm
    rw [ftTo, ht, ← e]
    simp only [bs_append, ih (by omega), List.map_append, List.flatMap_append, List.map_cons, List.map_nil, List.flatMap_cons, List.flatMap_nil, fieldLine]
    simp [bs]
theorem bs_fields (fs : List (ByteArray × ByteArray)) : bs (fieldsText fs) = (fs.map fieldLine).flatMap (fun l => l ++ [13, 10]) := by
  have := bs_ft fs fs.length (Nat.le_refl _)
  rw [List.take_length] at this
  exact this

def httpL : List UInt8 := [72, 84, 84, 80, 47, 49, 46, 49]
def reqLine (m : Int) (path : ByteArray) : List UInt8 := bs (methB m) ++ 32 :: (bs path ++ 32 :: httpL)
def respLine (st : Int) : List UInt8 := httpL ++ 32 :: (numL st.toNat ++ 32 :: [46])
theorem bs_num (n : Nat) : bs (numText n) = numL n := rfl
theorem bs_reqT (m : Int) (path : ByteArray) (fs : List (ByteArray × ByteArray)) (body : ByteArray) : bs (reqT m path fs body) = (reqLine m path :: (fs.map fieldLine ++ (if body.size = 0 then [] else [clenLine body.size]))).flatMap (fun l => l ++ [13, 10]) ++ 13 :: 10 :: bs body := by
  unfold reqT reqHead
  by_cases h : body.size = 0
  · rw [if_pos h, if_pos h]
    simp only [bs_append, bs_fields, List.flatMap_cons, List.append_nil, reqLine]
    simp [bs, httpEnd, lnE, httpL]
  · rw [if_neg h, if_neg h]
    simp only [bs_append, bs_fields, bs_num, List.flatMap_cons, List.flatMap_append, List.flatMap_nil, reqLine, clenLine]
    simp [bs, httpEnd, lnE, httpL, clenK, clenL]
theorem bs_respT (st : Int) (fs : List (ByteArray × ByteArray)) (body : ByteArray) : bs (respT st fs body) = (respLine st :: (fs.map fieldLine ++ [clenLine body.size])).flatMap (fun l => l ++ [13, 10]) ++ 13 :: 10 :: bs body := by
  unfold respT
  simp only [bs_append, bs_fields, bs_num, List.flatMap_cons, List.flatMap_append, List.flatMap_nil, respLine, clenLine]
  simp [bs, httpAhead, dotEnd, lnE2, httpL, clenK, clenL]

theorem numL_dig (n : Nat) (h : n ≤ 1000000) : numL n ≠ [] ∧ ∀ b ∈ numL n, DigB b := by
  unfold numL
  rw [if_neg (by omega)]
  by_cases h0 : n = 0
  · rw [if_pos h0]
    refine ⟨by simp, ?_⟩
    intro b hb
    simp at hb
    subst hb
    unfold DigB; decide
  · rw [if_neg h0]
    have hf := dg_facts 8 n (by omega)
    refine ⟨fun e => ?_, hf.2.2⟩
    have h2 := hf.2.1
    rw [e] at h2
    exact h0 h2.symm
theorem numL_val (n : Nat) (h : n ≤ 1000000) : valL (numL n) = n := by
  unfold numL
  rw [if_neg (by omega)]
  by_cases h0 : n = 0
  · rw [if_pos h0, h0]; rfl
  · rw [if_neg h0]
    exact (dg_facts 8 n (by omega)).2.1
theorem line_field {f : ByteArray × ByteArray} (h : TokOk f.1 ∧ ValOk f.2 ∧ f.1 ≠ clen) : fieldLine f ≠ [] ∧ ∀ b ∈ fieldLine f, b ≠ 13 := by
  refine ⟨by simp [fieldLine], ?_⟩
  intro b hb e
  subst e
  simp only [fieldLine, List.mem_append, List.mem_cons] at hb
  rcases hb with hb | hb | hb | hb
  · have := bs_all h.1.2.2 _ hb
    unfold TokB at this
    simp at this
  · exact absurd hb (by decide)
  · exact absurd hb (by decide)
  · have := bs_all h.2.1.2.2.1 _ hb
    unfold ValB at this
    simp at this
theorem line_clen (n : Nat) (h : n ≤ 1000000) : clenLine n ≠ [] ∧ ∀ b ∈ clenLine n, b ≠ 13 := by
  refine ⟨by simp [clenLine], ?_⟩
  intro b hb e
  subst e
  simp only [clenLine, List.mem_append, List.mem_cons] at hb
  rcases hb with hb | hb | hb | hb
  · exact absurd hb (by decide)
  · exact absurd hb (by decide)
  · exact absurd hb (by decide)
  · have := (numL_dig n h).2 _ hb
    unfold DigB at this
    simp at this
theorem meth_cases {m : Int} (h : 1 ≤ m ∧ m ≤ 4) : m = 1 ∨ m = 2 ∨ m = 3 ∨ m = 4 := by omega
theorem meth_bytes {m : Int} (h : 1 ≤ m ∧ m ≤ 4) : bs (methB m) ≠ [] ∧ ∀ b ∈ bs (methB m), b ≠ 13 ∧ b ≠ 32 := by
  rcases meth_cases h with rfl | rfl | rfl | rfl
  all_goals (constructor <;> decide)
theorem line_req {m : Int} {path : ByteArray} (h : 1 ≤ m ∧ m ≤ 4) (hp : PathOk path) : reqLine m path ≠ [] ∧ ∀ b ∈ reqLine m path, b ≠ 13 := by
  refine ⟨by simp [reqLine], ?_⟩
  intro b hb e
  subst e
  simp only [reqLine, List.mem_append, List.mem_cons] at hb
  rcases hb with hb | hb | hb | hb | hb
  · exact ((meth_bytes h).2 _ hb).1 rfl
  · exact absurd hb (by decide)
  · have := bs_all hp.1 _ hb
    unfold PathB at this
    simp at this
  · exact absurd hb (by decide)
  · exact absurd hb (by decide)
theorem line_resp {st : Int} (h : 100 ≤ st ∧ st ≤ 599) : respLine st ≠ [] ∧ ∀ b ∈ respLine st, b ≠ 13 := by
  refine ⟨by simp [respLine], ?_⟩
  intro b hb e
  subst e
  simp only [respLine, List.mem_append, List.mem_cons] at hb
  rcases hb with hb | hb | hb | hb | hb
  · exact absurd hb (by decide)
  · exact absurd hb (by decide)
  · have := (numL_dig st.toNat (by omega)).2 _ hb
    unfold DigB at this
    simp at this
  · exact absurd hb (by decide)
  · exact absurd hb (by decide)

/-- What is read of a right request's text: its lines, what is behind them. -/
theorem req_head {s : ByteArray} {m : Int} {path : ByteArray} {fs : List (ByteArray × ByteArray)} {body : ByteArray} (h : IsReq s m path fs body) :
    headL [] [] (bs s) = (reqLine m path :: (fs.map fieldLine ++ (if body.size = 0 then [] else [clenLine body.size])), some (bs body)) := by
  obtain ⟨⟨hm, hp, hf, hb⟩, rfl⟩ := h
  rw [bs_reqT, head_lines]
  · rfl
  · intro l hl
    simp only [List.mem_cons, List.mem_append, List.mem_map] at hl
    rcases hl with rfl | ⟨f, hf1, rfl⟩ | hl
    · exact line_req hm hp
    · exact line_field (flds_mem hf f hf1)
    · by_cases h0 : body.size = 0
      · rw [if_pos h0] at hl; simp at hl
      · rw [if_neg h0] at hl
        simp at hl
        subst hl
        exact line_clen _ (by omega)
theorem resp_head {s : ByteArray} {st : Int} {fs : List (ByteArray × ByteArray)} {body : ByteArray} (h : IsResp s st fs body) :
    headL [] [] (bs s) = (respLine st :: (fs.map fieldLine ++ [clenLine body.size]), some (bs body)) := by
  obtain ⟨⟨hm, hf, hb⟩, rfl⟩ := h
  rw [bs_respT, head_lines]
  · rfl
  · intro l hl
    simp only [List.mem_cons, List.mem_append, List.mem_map] at hl
    rcases hl with rfl | ⟨f, hf1, rfl⟩ | hl
    · exact line_resp hm
    · exact line_field (flds_mem hf f hf1)
    · simp at hl
      subst hl
      exact line_clen _ (by omega)
theorem req_words {m : Int} {path : ByteArray} (h : 1 ≤ m ∧ m ≤ 4) (hp : PathOk path) : wordsL [] [] (reqLine m path) = [bs (methB m), bs path, httpL] := by
  unfold reqLine
  rw [words_word _ _ (fun b hb => ((meth_bytes h).2 b hb).2), words_word _ _ (fun b hb e => by
    have := bs_all hp.1 b hb
    subst e
    unfold PathB at this
    simp at this), words_last _ (by decide)]
  rfl
theorem resp_words {st : Int} (h : 100 ≤ st ∧ st ≤ 599) : wordsL [] [] (respLine st) = [httpL, numL st.toNat, [46]] := by
  unfold respLine
  rw [words_word _ _ (by decide), words_word _ _ (fun b hb e => by
    have := (numL_dig st.toNat (by omega)).2 b hb
    subst e
    unfold DigB at this
    simp at this), words_last _ (by decide)]
  rfl
theorem req_fields {fs : List (ByteArray × ByteArray)} (h : FldsOk fs) (n : Nat) : fieldsL (fs.map fieldLine ++ (if n = 0 then [] else [clenLine n])) = fs.map (fun f => (bs f.1, bs f.2)) := by
  rw [fieldsL_of _ (flds_mem h)]
  by_cases h0 : n = 0
  · rw [if_pos h0]; simp [fieldsL]
  · rw [if_neg h0, fieldsL_clen]; simp
theorem resp_fields {fs : List (ByteArray × ByteArray)} (h : FldsOk fs) (n : Nat) : fieldsL (fs.map fieldLine ++ [clenLine n]) = fs.map (fun f => (bs f.1, bs f.2)) := by
  rw [fieldsL_of _ (flds_mem h), fieldsL_clen]; simp
theorem pairs_inj : ∀ {a b : List (ByteArray × ByteArray)}, a.map (fun f => (bs f.1, bs f.2)) = b.map (fun f => (bs f.1, bs f.2)) → a = b
  | [], [], _ => rfl
  | [], _ :: _, h => by simp at h
  | _ :: _, [], h => by simp at h
  | f :: r, g :: t, h => by
    simp only [List.map_cons, List.cons.injEq, Prod.mk.injEq] at h
    rw [pairs_inj h.2]
    congr 1
    exact Prod.ext (bs_inj h.1.1) (bs_inj h.1.2)
theorem meth_inj {a b : Int} (ha : 1 ≤ a ∧ a ≤ 4) (hb : 1 ≤ b ∧ b ≤ 4) (h : bs (methB a) = bs (methB b)) : a = b := by
  rcases meth_cases ha with rfl | rfl | rfl | rfl <;> rcases meth_cases hb with rfl | rfl | rfl | rfl <;> first | rfl | exact absurd h (by decide)
/-- A text is the text of one request at most. -/
theorem IsReq.uniq {s : ByteArray} {m m' : Int} {path path' : ByteArray} {fs fs' : List (ByteArray × ByteArray)} {body body' : ByteArray} (h : IsReq s m path fs body) (h' : IsReq s m' path' fs' body') : m = m' ∧ path = path' ∧ fs = fs' ∧ body = body' := by
  have e := (req_head h).symm.trans (req_head h')
  simp only [Prod.mk.injEq, List.cons.injEq, Option.some.injEq] at e
  obtain ⟨⟨e1, e2⟩, e3⟩ := e
  have e4 := congrArg (wordsL [] []) e1
  rw [req_words h.1.1 h.1.2.1, req_words h'.1.1 h'.1.2.1] at e4
  simp only [List.cons.injEq] at e4
  have e5 := congrArg fieldsL e2
  rw [req_fields h.1.2.2.1, req_fields h'.1.2.2.1] at e5
  exact ⟨meth_inj h.1.1 h'.1.1 e4.1, bs_inj e4.2.1, pairs_inj e5, bs_inj e3⟩
theorem IsResp.uniq {s : ByteArray} {m m' : Int} {fs fs' : List (ByteArray × ByteArray)} {body body' : ByteArray} (h : IsResp s m fs body) (h' : IsResp s m' fs' body') : m = m' ∧ fs = fs' ∧ body = body' := by
  have e := (resp_head h).symm.trans (resp_head h')
  simp only [Prod.mk.injEq, List.cons.injEq, Option.some.injEq] at e
  obtain ⟨⟨e1, e2⟩, e3⟩ := e
  have e4 := congrArg (wordsL [] []) e1
  rw [resp_words h.1.1, resp_words h'.1.1] at e4
  simp only [List.cons.injEq] at e4
  have e5 := congrArg fieldsL e2
  rw [resp_fields h.1.2.1, resp_fields h'.1.2.1] at e5
  have e6 := congrArg valL e4.2.1
  have h1 := h.1.1
  have h2 := h'.1.1
  rw [numL_val _ (by omega), numL_val _ (by omega)] at e6
  exact ⟨by omega, pairs_inj e5, bs_inj e3⟩

end Go.Proofs.YtacfajnagbeocaaGreatDoor

namespace Go.Proofs.YtacfajnagbeocaaGreatDoor
open Go.RowKit

/-- How many bytes a head has; none: it is not whole. -/
def headN : List UInt8 → Option Nat
  | [] => none
  | c :: t => if (c :: t).take 4 = [13, 10, 13, 10] then some 4 else (headN t).map (· + 1)

theorem headN_len : ∀ {w : List UInt8} {n : Nat}, headN w = some n → 4 ≤ n ∧ n ≤ w.length := by
  intro w
  induction w with
  | nil => intro n h; simp [headN] at h
  | cons c t ih =>
    intro n h
    unfold headN at h
    by_cases h4 : (c :: t).take 4 = [13, 10, 13, 10]
    · rw [if_pos h4] at h
      obtain rfl := Option.some.inj h
      have := congrArg List.length h4
      simp [List.length_take] at this
      refine ⟨Nat.le_refl _, ?_⟩
      simp
      omega
    · rw [if_neg h4] at h
      obtain ⟨m, hm, rfl⟩ := Option.map_eq_some_iff.1 h
      have := ih hm
      simp
      omega

/-- A whole head stays the head, whatever is behind it. -/
theorem headN_app (x : List UInt8) : ∀ {w : List UInt8} {n : Nat}, headN w = some n → headN (w ++ x) = some n := by
  intro w
  induction w with
  | nil => intro n h; simp [headN] at h
  | cons c t ih =>
    intro n h
    have hl := headN_len h
    have ht : ((c :: t) ++ x).take 4 = (c :: t).take 4 := List.take_append_of_le_length (by omega)
    unfold headN at h
    show headN (c :: (t ++ x)) = some n
    unfold headN
    have ht' : (c :: (t ++ x)).take 4 = (c :: t).take 4 := ht
    rw [ht']
    by_cases h4 : (c :: t).take 4 = [13, 10, 13, 10]
    · rw [if_pos h4] at h ⊢; exact h
    · rw [if_neg h4] at h ⊢
      obtain ⟨m, hm, rfl⟩ := Option.map_eq_some_iff.1 h
      rw [ih hm]; rfl

/-- What waits behind it, whether it is bad, and what was told; none: not told within so many requests. -/
def fdF (ok : List UInt8 → Bool) (len : List UInt8 → Nat) : Nat → List UInt8 → Option (List UInt8 × Bool × List (List UInt8))
  | 0, _ => none
  | f + 1, w =>
    match headN w with
    | none => some (w, false, [])
    | some n =>
      if 120 < len (w.take n) then some ([], true, [])
      else if w.length < n + len (w.take n) then some (w, false, [])
      else if ok (w.take (n + len (w.take n))) = true then (fdF ok len f (w.drop (n + len (w.take n)))).map (fun x => (x.1, x.2.1, w.take (n + len (w.take n)) :: x.2.2))
      else some ([], true, [])

variable {ok : List UInt8 → Bool} {len : List UInt8 → Nat}

theorem fdF_more : ∀ (f : Nat) (w : List UInt8) (x : List UInt8 × Bool × List (List UInt8)), fdF ok len f w = some x → ∀ d, fdF ok len (f + d) w = some x := by
  intro f
  induction f with
  | zero => intro w x h; simp [fdF] at h
  | succ f ih =>
    intro w x h d
    rw [show f + 1 + d = (f + d) + 1 by omega]
    unfold fdF at h ⊢
    cases hn : headN w with
    | none => rw [hn] at h; exact h
    | some n =>
      rw [hn] at h
      simp only at h ⊢
      by_cases h1 : 120 < len (w.take n)
      · rw [if_pos h1] at h ⊢; exact h
      · rw [if_neg h1] at h ⊢
        by_cases h2 : w.length < n + len (w.take n)
        · rw [if_pos h2] at h ⊢; exact h
        · rw [if_neg h2] at h ⊢
          by_cases h3 : ok (w.take (n + len (w.take n))) = true
          · rw [if_pos h3] at h ⊢
            obtain ⟨y, hy, rfl⟩ := Option.map_eq_some_iff.1 h
            rw [ih _ _ hy d]; rfl
          · rw [if_neg h3] at h ⊢; exact h

/-- Bad stays bad, and what was told ahead of it stays told, whatever comes behind it. -/
theorem fdF_bad (x : List UInt8) : ∀ (f : Nat) (w u : List UInt8) (t : List (List UInt8)), fdF ok len f w = some (u, true, t) → u = [] ∧ fdF ok len f (w ++ x) = some ([], true, t) := by
  intro f
  induction f with
  | zero => intro w u t h; simp [fdF] at h
  | succ f ih =>
    intro w u t h
    unfold fdF at h ⊢
    cases hn : headN w with
    | none => rw [hn] at h; simp at h
    | some n =>
      have hl := headN_len hn
      rw [hn] at h
      rw [headN_app x hn]
      simp only at h ⊢
      rw [List.take_append_of_le_length hl.2]
      by_cases h1 : 120 < len (w.take n)
      · rw [if_pos h1] at h ⊢
        simp at h
        obtain ⟨rfl, rfl⟩ := h
        exact ⟨rfl, rfl⟩
      · rw [if_neg h1] at h ⊢
        by_cases h2 : w.length < n + len (w.take n)
        · rw [if_pos h2] at h; simp at h
        · rw [if_neg h2] at h
          rw [if_neg (by rw [List.length_append]; omega), List.take_append_of_le_length (by omega), List.drop_append_of_le_length (by omega)]
          by_cases h3 : ok (w.take (n + len (w.take n))) = true
          · rw [if_pos h3] at h ⊢
            obtain ⟨⟨y1, y2, y3⟩, hy, he⟩ := Option.map_eq_some_iff.1 h
            simp at he
            obtain ⟨rfl, rfl, rfl⟩ := he
            obtain ⟨e1, e2⟩ := ih _ _ _ hy
            rw [e2]
            exact ⟨e1, rfl⟩
          · rw [if_neg h3] at h ⊢
            simp at h
            obtain ⟨rfl, rfl⟩ := h
            exact ⟨rfl, rfl⟩

/-- What waits, with more behind it, goes on as the whole would have. -/
theorem fdF_on (x : List UInt8) (g : Nat) (u2 : List UInt8) (b2 : Bool) (t2 : List (List UInt8)) : ∀ (f : Nat) (w u : List UInt8) (t : List (List UInt8)), fdF ok len f w = some (u, false, t) → fdF ok len g (u ++ x) = some (u2, b2, t2) → fdF ok len (f + g) (w ++ x) = some (u2, b2, t ++ t2) := by
  intro f
  induction f with
  | zero => intro w u t h; simp [fdF] at h
  | succ f ih =>
    intro w u t h k
    have hstay : u = w → t = [] → fdF ok len (f + 1 + g) (w ++ x) = some (u2, b2, t ++ t2) := by
      rintro rfl rfl
      rw [Nat.add_comm]
      exact fdF_more _ _ _ k _
    unfold fdF at h
    cases hn : headN w with
    | none =>
      rw [hn] at h
      simp at h
      exact hstay h.1.symm h.2
    | some n =>
      have hl := headN_len hn
      rw [hn] at h
      simp only at h
      by_cases h1 : 120 < len (w.take n)
      · rw [if_pos h1] at h; simp at h
      · rw [if_neg h1] at h
        by_cases h2 : w.length < n + len (w.take n)
        · rw [if_pos h2] at h
          simp at h
          exact hstay h.1.symm h.2
        · rw [if_neg h2] at h
          by_cases h3 : ok (w.take (n + len (w.take n))) = true
          · rw [if_pos h3] at h
            obtain ⟨⟨y1, y2, y3⟩, hy, he⟩ := Option.map_eq_some_iff.1 h
            simp at he
            obtain ⟨rfl, rfl, rfl⟩ := he
            rw [show f + 1 + g = (f + g) + 1 by omega]
            unfold fdF
            rw [headN_app x hn]
            simp only
            rw [List.take_append_of_le_length hl.2, if_neg h1, if_neg (by rw [List.length_append]; omega), List.take_append_of_le_length (by omega), List.drop_append_of_le_length (by omega), if_pos h3, ih _ _ _ hy k]
            rfl
          · rw [if_neg h3] at h; simp at h

/-- What waits is no longer than the text; what was told is right, and no longer together. -/
theorem fdF_bound : ∀ (f : Nat) (w u : List UInt8) (b : Bool) (t : List (List UInt8)), fdF ok len f w = some (u, b, t) → u.length + t.flatten.length ≤ w.length ∧ (∀ y ∈ t, ok y = true) ∧ 4 * t.length ≤ w.length := by
  intro f
  induction f with
  | zero => intro w u b t h; simp [fdF] at h
  | succ f ih =>
    intro w u b t h
    unfold fdF at h
    cases hn : headN w with
    | none =>
      rw [hn] at h
      simp at h
      obtain ⟨rfl, rfl, rfl⟩ := h
      simp
    | some n =>
      have hl := headN_len hn
      rw [hn] at h
      simp only at h
      by_cases h1 : 120 < len (w.take n)
      · rw [if_pos h1] at h
        simp at h
        obtain ⟨rfl, rfl, rfl⟩ := h
        simp
      · rw [if_neg h1] at h
        by_cases h2 : w.length < n + len (w.take n)
        · rw [if_pos h2] at h
          simp at h
          obtain ⟨rfl, rfl, rfl⟩ := h
          simp
        · rw [if_neg h2] at h
          by_cases h3 : ok (w.take (n + len (w.take n))) = true
          · rw [if_pos h3] at h
            obtain ⟨⟨y1, y2, y3⟩, hy, he⟩ := Option.map_eq_some_iff.1 h
            simp at he
            obtain ⟨rfl, rfl, rfl⟩ := he
            obtain ⟨e1, e2, e3⟩ := ih _ _ _ _ hy
            rw [List.length_drop] at e1 e3
            refine ⟨?_, ?_, ?_⟩
            · rw [List.flatten_cons, List.length_append, List.length_take]
              omega
            · intro y hy'
              rcases List.mem_cons.1 hy' with rfl | hy'
              · exact h3
              · exact e2 y hy'
            · rw [List.length_cons]; omega
          · rw [if_neg h3] at h
            simp at h
            obtain ⟨rfl, rfl, rfl⟩ := h
            simp

/-- What is told of a text: one thing. -/
def Fd (ok : List UInt8 → Bool) (len : List UInt8 → Nat) (w : List UInt8) (x : List UInt8 × Bool × List (List UInt8)) : Prop := ∃ f, fdF ok len f w = some x
theorem Fd.uniq {w : List UInt8} {x y : List UInt8 × Bool × List (List UInt8)} (h : Fd ok len w x) (k : Fd ok len w y) : x = y := by
  obtain ⟨f, hf⟩ := h
  obtain ⟨g, hg⟩ := k
  have h1 := fdF_more f w x hf g
  have h2 := fdF_more g w y hg f
  rw [Nat.add_comm] at h2
  rw [h1] at h2
  exact Option.some.inj h2
theorem Fd.none {w : List UInt8} (h : headN w = .none) : Fd ok len w (w, false, []) := ⟨1, by unfold fdF; rw [h]⟩
theorem Fd.long {w : List UInt8} {n : Nat} (h : headN w = some n) (h1 : 120 < len (w.take n)) : Fd ok len w ([], true, []) := ⟨1, by unfold fdF; rw [h]; simp only; rw [if_pos h1]⟩
theorem Fd.short {w : List UInt8} {n : Nat} (h : headN w = some n) (h1 : ¬ 120 < len (w.take n)) (h2 : w.length < n + len (w.take n)) : Fd ok len w (w, false, []) := ⟨1, by unfold fdF; rw [h]; simp only; rw [if_neg h1, if_pos h2]⟩
theorem Fd.wrong {w : List UInt8} {n : Nat} (h : headN w = some n) (h1 : ¬ 120 < len (w.take n)) (h2 : ¬ w.length < n + len (w.take n)) (h3 : ¬ ok (w.take (n + len (w.take n))) = true) : Fd ok len w ([], true, []) := ⟨1, by unfold fdF; rw [h]; simp only; rw [if_neg h1, if_neg h2, if_neg h3]⟩
theorem Fd.next {w u : List UInt8} {b : Bool} {t : List (List UInt8)} {n : Nat} (h : headN w = some n) (h1 : ¬ 120 < len (w.take n)) (h2 : ¬ w.length < n + len (w.take n)) (h3 : ok (w.take (n + len (w.take n))) = true) (k : Fd ok len (w.drop (n + len (w.take n))) (u, b, t)) : Fd ok len w (u, b, w.take (n + len (w.take n)) :: t) := by
  obtain ⟨f, hf⟩ := k
  exact ⟨f + 1, by unfold fdF; rw [h]; simp only; rw [if_neg h1, if_neg h2, if_pos h3, hf]; rfl⟩

/-- Feed: what waits and whether it is bad, ahead and behind, and what was told. -/
def FeedP (ok : List UInt8 → Bool) (len : List UInt8 → Nat) (w : List UInt8) (b : Bool) (p : List UInt8) (w' : List UInt8) (b' : Bool) (t : List (List UInt8)) : Prop :=
  (b = true ∧ w' = [] ∧ b' = true ∧ t = []) ∨
  (b = false ∧ ∃ u c, Fd ok len (w ++ p) (u, c, t) ∧ (((c = true ∨ 1200 < u.length) ∧ w' = [] ∧ b' = true) ∨ (c = false ∧ ¬ 1200 < u.length ∧ w' = u ∧ b' = false)))
theorem FeedP.uniq {w p w1 w2 : List UInt8} {b b1 b2 : Bool} {t1 t2 : List (List UInt8)} (h : FeedP ok len w b p w1 b1 t1) (k : FeedP ok len w b p w2 b2 t2) : w1 = w2 ∧ b1 = b2 ∧ t1 = t2 := by
  rcases h with ⟨hb, rfl, rfl, rfl⟩ | ⟨hb, u, c, hf, hh⟩
  · rcases k with ⟨_, rfl, rfl, rfl⟩ | ⟨kb, _⟩
    · exact ⟨rfl, rfl, rfl⟩
    · rw [hb] at kb; cases kb
  · rcases k with ⟨kb, _⟩ | ⟨_, u2, c2, kf, kk⟩
    · rw [hb] at kb; cases kb
    · have e := hf.uniq kf
      simp at e
      obtain ⟨rfl, rfl, rfl⟩ := e
      rcases hh with ⟨ho, rfl, rfl⟩ | ⟨hc, hl, rfl, rfl⟩
      · rcases kk with ⟨_, rfl, rfl⟩ | ⟨kc, kl, _, _⟩
        · exact ⟨rfl, rfl, rfl⟩
        · rcases ho with ho | ho
          · rw [kc] at ho; cases ho
          · exact absurd ho kl
      · rcases kk with ⟨ko, _, _⟩ | ⟨_, _, rfl, rfl⟩
        · rcases ko with ko | ko
          · rw [hc] at ko; cases ko
          · exact absurd ko hl
        · exact ⟨rfl, rfl, rfl⟩
/-- Feed of each piece, one behind the other, and all that was told. -/
def FeedAllP (ok : List UInt8 → Bool) (len : List UInt8 → Nat) : List (List UInt8) → List UInt8 → Bool → List UInt8 → Bool → List (List UInt8) → Prop
  | [], w, b, w', b', t => w' = w ∧ b' = b ∧ t = []
  | p :: ps, w, b, w', b', t => ∃ w1 b1 t1 t2, FeedP ok len w b p w1 b1 t1 ∧ FeedAllP ok len ps w1 b1 w' b' t2 ∧ t = t1 ++ t2

/-- Promise 5 in plain words: in whatever pieces it comes, the same is told, and the same waits. -/
theorem FeedAllP.pieces : ∀ (ps : List (List UInt8)) (w : List UInt8) (b : Bool) (w' : List UInt8) (b' : Bool) (t : List (List UInt8)), ps ≠ [] → w.length + ps.flatten.length ≤ 1200 → FeedAllP ok len ps w b w' b' t → FeedP ok len w b ps.flatten w' b' t := by
  intro ps
  induction ps with
  | nil => intro w b w' b' t h; exact absurd rfl h
  | cons p ps ih =>
    intro w b w' b' t _ hl h
    obtain ⟨w1, b1, t1, t2, hf, ha, rfl⟩ := h
    rw [List.flatten_cons, List.length_append] at hl
    rw [List.flatten_cons]
    cases ps with
    | nil =>
      obtain ⟨rfl, rfl, rfl⟩ := ha
      simpa using hf
    | cons q qs =>
      rcases hf with ⟨hb, rfl, rfl, rfl⟩ | ⟨hb, u, c, hfd, hh⟩
      · rcases ih _ _ _ _ _ (by simp) (by simp only [List.length_nil]; omega) ha with ⟨_, rfl, rfl, rfl⟩ | ⟨kb, _⟩
        · exact .inl ⟨hb, rfl, rfl, rfl⟩
        · cases kb
      · obtain ⟨f, hfd⟩ := hfd
        have hbd := (fdF_bound f _ _ _ _ hfd).1
        rw [List.length_append] at hbd
        cases c with
        | true =>
          rcases hh with ⟨_, rfl, rfl⟩ | ⟨hc, _⟩
          · rcases ih _ _ _ _ _ (by simp) (by simp only [List.length_nil]; omega) ha with ⟨_, rfl, rfl, rfl⟩ | ⟨kb, _⟩
            · refine .inr ⟨hb, [], true, ⟨f, ?_⟩, .inl ⟨.inl rfl, rfl, rfl⟩⟩
              rw [← List.append_assoc, List.append_nil]
              exact (fdF_bad _ f _ _ _ hfd).2
            · cases kb
          · cases hc
        | false =>
          rcases hh with ⟨ho, _, _⟩ | ⟨_, _, rfl, rfl⟩
          · rcases ho with ho | ho
            · cases ho
            · exfalso; omega
          · rcases ih _ _ _ _ _ (by simp) (by omega) ha with ⟨kb, _⟩ | ⟨_, u2, c2, ⟨g, hg⟩, kk⟩
            · cases kb
            · refine .inr ⟨hb, u2, c2, ⟨f + g, ?_⟩, kk⟩
              rw [← List.append_assoc]
              exact fdF_on _ g _ _ _ f _ _ _ hfd hg

/-- A text cut into pieces of these sizes, and the rest as the last one, if it is not empty. -/
def pcs : List Int → List UInt8 → List (List UInt8)
  | [], s => if s = [] then [] else [s]
  | z :: zs, s => s.take z.toNat :: pcs zs (s.drop z.toNat)
theorem pcs_flat : ∀ (zs : List Int) (s : List UInt8), (pcs zs s).flatten = s := by
  intro zs
  induction zs with
  | nil =>
    intro s
    unfold pcs
    by_cases h : s = []
    · rw [if_pos h, h]; rfl
    · rw [if_neg h]; simp
  | cons z zs ih =>
    intro s
    unfold pcs
    rw [List.flatten_cons, ih, List.take_append_drop]
/-- The law's last piece is empty, so that there is one: the same is told of the pieces and of the whole. -/
theorem FeedAllP.cut {zs : List Int} {s w w' : List UInt8} {b b' : Bool} {t : List (List UInt8)} (hl : w.length + s.length ≤ 1200) (h : FeedAllP ok len (pcs zs s ++ [[]]) w b w' b' t) : FeedP ok len w b s w' b' t := by
  have hf : (pcs zs s ++ [[]]).flatten = s := by rw [List.flatten_append, pcs_flat]; simp
  have := FeedAllP.pieces (pcs zs s ++ [[]]) w b w' b' t (by simp) (by rw [hf]; exact hl) h
  rw [hf] at this
  exact this
end Go.Proofs.YtacfajnagbeocaaGreatDoor

namespace Go.Proofs.YtacfajnagbeocaaGreatDoor
open Go.RowKit

/-- The bytes of 'content-length: '. -/
def clenM : List UInt8 := [99, 111, 110, 116, 101, 110, 116, 45, 108, 101, 110, 103, 116, 104, 58, 32]
open Classical in
/-- The number that a line tells. -/
noncomputable def clenOf (line : List UInt8) : Option Nat := if line.take 16 = clenM ∧ NumOk ⟨(line.drop 16).toArray⟩ then some (valL (line.drop 16)) else none
/-- What a head tells, byte by byte: 'first': the first line is not over; 'cur': what stands of this line. -/
noncomputable def lenS (first : Bool) (cur : List UInt8) : List UInt8 → Nat
  | [] => 0
  | c :: r =>
    if c = 10 ∧ cur.getLast? = some 13 then
      (if first = true then lenS false [] r else match clenOf cur.dropLast with | some n => n | none => lenS false [] r)
    else lenS first (cur ++ [c]) r
noncomputable def lenL (head : List UInt8) : Nat := lenS true [] head
theorem lenS_end {first : Bool} {cur r : List UInt8} (h : cur.getLast? = some 13) : lenS first cur (10 :: r) = (if first = true then lenS false [] r else match clenOf cur.dropLast with | some n => n | none => lenS false [] r) := by
  rw [lenS, if_pos ⟨rfl, h⟩]
theorem lenS_on {first : Bool} {cur r : List UInt8} {c : UInt8} (h : ¬ (c = 10 ∧ cur.getLast? = some 13)) : lenS first cur (c :: r) = lenS first (cur ++ [c]) r := by
  rw [lenS, if_neg h]
theorem clenOf_some {line : List UInt8} {n : Nat} (h : clenOf line = some n) : line.take 16 = clenM ∧ NumOk ⟨(line.drop 16).toArray⟩ ∧ n = valL (line.drop 16) ∧ n ≤ 1000000 := by
  unfold clenOf at h
  split at h
  · rename_i hc
    obtain rfl := Option.some.inj h
    exact ⟨hc.1, hc.2, rfl, hc.2.2.2.2⟩
  · cases h
theorem clenOf_yes {line : List UInt8} (h1 : line.take 16 = clenM) (h2 : NumOk ⟨(line.drop 16).toArray⟩) : clenOf line = some (valL (line.drop 16)) := by
  unfold clenOf
  rw [if_pos ⟨h1, h2⟩]
theorem clenOf_no {line : List UInt8} (h : ¬ (line.take 16 = clenM ∧ NumOk ⟨(line.drop 16).toArray⟩)) : clenOf line = none := by
  unfold clenOf
  rw [if_neg h]
theorem lenS_le : ∀ (r : List UInt8) (first : Bool) (cur : List UInt8), lenS first cur r ≤ 1000000 := by
  intro r
  induction r with
  | nil => intro first cur; simp [lenS]
  | cons c r ih =>
    intro first cur
    unfold lenS
    split
    · split
      · exact ih _ _
      · cases h : clenOf cur.dropLast with
        | some n => exact (clenOf_some h).2.2.2
        | none => exact ih _ _
    · exact ih _ _
theorem lenL_le (h : List UInt8) : lenL h ≤ 1000000 := lenS_le _ _ _

/-- Whether a text is a request's. -/
noncomputable def okL (l : List UInt8) : Bool := @decide (∃ m p fs b, IsReq ⟨l.toArray⟩ m p fs b) (Classical.propDecidable _)
theorem okL_yes {s : ByteArray} {m : Int} {p : ByteArray} {fs : List (ByteArray × ByteArray)} {b : ByteArray} (h : IsReq s m p fs b) : okL (bs s) = true :=
  (@decide_eq_true_iff _ (Classical.propDecidable _)).2 ⟨m, p, fs, b, h⟩
theorem okL_no {s : ByteArray} (h : ∀ m p fs b, ¬ IsReq s m p fs b) : ¬ okL (bs s) = true := by
  intro e
  obtain ⟨m, p, fs, b, hr⟩ := (@decide_eq_true_iff _ (Classical.propDecidable _)).1 e
  exact h m p fs b hr

end Go.Proofs.YtacfajnagbeocaaGreatDoor

namespace Go.Proofs.YtacfajnagbeocaaGreatDoor
open Go.RowKit
open Go.Lib hiding intOf

attribute [local go_sem ↓] Go.wp_at_zero Go.wp_at_succ

/-- A list of fields that came in, in blocks below B. -/
structure ArgF (w : World) (B : Nat) (a : Option Addr) (n : Nat) (fs : List (ByteArray × ByteArray)) : Prop where
  len : fs.length = n
  get : ∀ i, i < n → ∃ b off, a = some ⟨b, off, none⟩ ∧ b < B ∧ w.cell? ⟨b, off + i * 2, none⟩ = some (.string (nameAt fs i)) ∧ w.cell? ⟨b, off + i * 2 + 1, none⟩ = some (.string (valAt fs i))
theorem ArgF.below {w w' : World} {B : Nat} {a : Option Addr} {n : Nat} {fs : List (ByteArray × ByteArray)} (h : ArgF w B a n fs) (hb : Below B w w') : ArgF w' B a n fs :=
  ⟨h.len, fun i hi => by
    obtain ⟨b, off, h1, h2, h3, h4⟩ := h.get i hi
    exact ⟨b, off, h1, h2, by rw [hb.cell (p := ⟨b, off + i * 2, none⟩) h2]; exact h3, by rw [hb.cell (p := ⟨b, off + i * 2 + 1, none⟩) h2]; exact h4⟩⟩

theorem info33 : (Tryz.prog.info? 63).map (fun i => (i.zero, i.size, i.bytes)) = some (some (.agg #[.string ⟨#[]⟩, .string ⟨#[]⟩]), 2, 32) := by kernel_rfl

theorem heap_set (w : World) (c o : Nat) (cs : Array Value) (t : TypeId) (fz : Nat × Nat) (v : Value) (h : w.heap[c]? = some (.cells cs t fz)) : (w.setCell ⟨c, o, none⟩ v).heap[c]? = some (.cells (cs.setIfInBounds o v) t fz) := by
  simp [World.setCell, Array.getElem?_modify, h]
/-- The first k fields of a row of 2 n cells are told. -/
def PartRow (w : World) (g n k : Nat) (fs : List (ByteArray × ByteArray)) : Prop :=
  ∃ cur, w.heap[g]? = some (.cells cur 63 (0, 0)) ∧ cur.size = n * 2 ∧ ∀ i, i < k → cur[i * 2]? = some (.string (nameAt fs i)) ∧ cur[i * 2 + 1]? = some (.string (valAt fs i))
theorem PartRow.below {w w' : World} {g n k B : Nat} {fs : List (ByteArray × ByteArray)} (h : PartRow w g n k fs) (hb : Below B w w') (hB : g < B) : PartRow w' g n k fs := by
  obtain ⟨cur, h1, h2⟩ := h
  exact ⟨cur, by rw [hb.block g hB]; exact h1, h2⟩
theorem PartRow.lt {w : World} {g n k : Nat} {fs : List (ByteArray × ByteArray)} (h : PartRow w g n k fs) : g < w.heap.size := by
  obtain ⟨cur, h1, _⟩ := h
  exact (Array.getElem?_eq_some_iff.1 h1).1
theorem PartRow.cell {w : World} {g n k : Nat} {fs : List (ByteArray × ByteArray)} (h : PartRow w g n k fs) (j : Nat) (hj : j < n * 2) : ∃ u, w.cell? ⟨g, j, none⟩ = some u := by
  obtain ⟨cur, h1, h2, _⟩ := h
  refine ⟨cur[j]'(by omega), ?_⟩
  simp only [World.cell?, h1]
  simp [show j < cur.size by omega]
theorem PartRow.frozen {w : World} {g n k : Nat} {fs : List (ByteArray × ByteArray)} (h : PartRow w g n k fs) (j : Nat) : w.frozen? ⟨g, j, none⟩ = false := by
  obtain ⟨cur, h1, _⟩ := h
  simp [World.frozen?, h1]
theorem PartRow.put {w : World} {g n k : Nat} {fs : List (ByteArray × ByteArray)} (h : PartRow w g n k fs) (hk : k < n) : PartRow ((w.setCell ⟨g, k * 2, none⟩ (.string (nameAt fs k))).setCell ⟨g, k * 2 + 1, none⟩ (.string (valAt fs k))) g n (k + 1) fs := by
  obtain ⟨cur, h1, h2, h3⟩ := h
  refine ⟨_, heap_set _ g (k * 2 + 1) _ _ _ _ (heap_set w g (k * 2) _ _ _ _ h1), by simpa using h2, ?_⟩
  intro i hi
  by_cases e : i = k
  · subst e
    refine ⟨?_, ?_⟩
    · rw [Array.getElem?_setIfInBounds_ne (by omega), Array.getElem?_setIfInBounds_self_of_lt (by omega)]
    · rw [Array.getElem?_setIfInBounds_self_of_lt (by simp; omega)]
  · have := h3 i (by omega)
    refine ⟨?_, ?_⟩
    · rw [Array.getElem?_setIfInBounds_ne (by omega), Array.getElem?_setIfInBounds_ne (by omega)]; exact this.1
    · rw [Array.getElem?_setIfInBounds_ne (by omega), Array.getElem?_setIfInBounds_ne (by omega)]; exact this.2
theorem PartRow.owns {w : World} {g n : Nat} {fs : List (ByteArray × ByteArray)} (h : PartRow w g n n fs) (hl : fs.length = n) (hm : n ≤ maxLen) {base : Nat} (hb : base ≤ g) : w.ownsRow base 63 2 (.slice (some ⟨g, 0, none⟩) n n) n (flatF fs) :=
  FieldRow.owns ⟨hl, hb, h.lt, Nat.le_refl _, hm, h⟩

set_option maxHeartbeats 1000000 in
theorem eqField_any (nm vl : ByteArray) (w : World) :
    Calls Tryz.prog 41 #[.agg #[.string nm, .string vl], .agg #[.string nm, .string vl]] w fun e w' => e = .returned (.bool true) ∧ Below w.heap.size w w' := by
  go_enter Tryz.func41, Tryz.ntmps41
  go_wp2
  go_ret
  exact ⟨rfl, ((Below.refl _ _).alloc (Nat.le_refl _) _).alloc (by simp) _⟩

set_option maxHeartbeats 2000000 in
theorem eqFieldS_any (v1 v2 : Value) (n b1 b2 : Nat) (fs : List (ByteArray × ByteArray)) (w : World) (h1 : FieldsV w b1 v1 n fs) (h2 : FieldsV w b2 v2 n fs) (hn : n ≤ 2000000) :
    Calls Tryz.prog 31 #[v1, v2] w fun e w' => e = .returned (.bool true) ∧ Below w.heap.size w w' := by
  rcases h1 with ⟨oa, ca, rfl, _, rfl, rfl⟩ | ⟨g1, c1, rfl, hp, r1⟩
  · rcases h2 with ⟨ob, cb, rfl, _, _, _⟩ | ⟨g2, c2, rfl, hp2, _⟩
    · go_enter Tryz.func31, Tryz.ntmps31
      go_wp2
      refine wp_loop_rounds 1 ?_
      rw [rounds_succ]
      go_wp2
      go_ret
      exact ⟨rfl, Below.refl _ _⟩
    · omega
  · rcases h2 with ⟨ob, cb, rfl, _, h0, _⟩ | ⟨g2, c2, rfl, hp2, r2⟩
    · omega
    · go_enter Tryz.func31, Tryz.ntmps31
      go_wp2
      go_loopw [5] (fun i wr => ∃ k : Nat, k ≤ n ∧ i = .int .i64 (k : Int) ∧ Below w.heap.size w wr) (fun i _ => n - (intOf i).toNat)
      case atStart => exact ⟨0, Nat.zero_le _, rfl, Below.refl _ _⟩
      case round =>
        obtain ⟨k, hk, rfl, hbw⟩ := hrel
        by_cases hlt : k < n
        · have hlt2 : (k : Int) < (n : Int) := by omega
          obtain ⟨nm, hnm⟩ : ∃ y, y = nameAt fs k := ⟨_, rfl⟩
          obtain ⟨vl, hvl⟩ : ∃ y, y = valAt fs k := ⟨_, rfl⟩
          have ha := (r1.below hbw r1.lt).name k hlt
          have hb := (r1.below hbw r1.lt).val k hlt
          have hc := (r2.below hbw r2.lt).name k hlt
          have hd := (r2.below hbw r2.lt).val k hlt
          rw [← hnm] at ha hc
          rw [← hvl] at hb hd
          have HA : Hid (∀ w0 w1, Below wr.heap.size wr w0 → Below w0.heap.size w0 w1 → (w1.cell? ⟨g1, k * 2, none⟩ = some (.string nm) ∧ w1.cell? ⟨g1, k * 2 + 1, none⟩ = some (.string vl) ∧ w1.cell? ⟨g2, k * 2, none⟩ = some (.string nm) ∧ w1.cell? ⟨g2, k * 2 + 1, none⟩ = some (.string vl)) ∧ Below wr.heap.size wr w1) := fun w0 w1 h h' => by
            have hx := h.trans (h'.mono h.size)
            have hy := hbw.trans (hx.mono hbw.size)
            have a1 := (r1.below hy r1.lt).name k hlt
            have a2 := (r1.below hy r1.lt).val k hlt
            have a3 := (r2.below hy r2.lt).name k hlt
            have a4 := (r2.below hy r2.lt).val k hlt
            rw [← hnm] at a1 a3
            rw [← hvl] at a2 a4
            exact ⟨⟨a1, a2, a3, a4⟩, hx⟩
          clear hnm hvl
          go_wp2
          go_region_held3 (fun w' => w'.cell? ⟨g1, k * 2, none⟩ = some (.string nm) ∧ w'.cell? ⟨g1, k * 2 + 1, none⟩ = some (.string vl) ∧ w'.cell? ⟨g2, k * 2, none⟩ = some (.string nm) ∧ w'.cell? ⟨g2, k * 2 + 1, none⟩ = some (.string vl)) (first | assumption | go_keep) (first | (go_at_call 41; refine (eqField_any _ _ _).mono ?_; rintro e w1 ⟨rfl, hb1⟩; obtain ⟨hcc, hbx⟩ := HA.out _ w1 ((Below.refl _ wr).drew) hb1))
          go_wp2
          go_roundw
          case rel => exact ⟨k + 1, by omega, by go_num, hbw.trans (hbx.mono hbw.size)⟩
          case measure => simp [intOf]; omega
        · go_wp2
          go_ret
          exact ⟨rfl, hbw⟩

theorem nameAt_set (fs : List (ByteArray × ByteArray)) (k j : Nat) (p : ByteArray × ByteArray) (hk : k < fs.length) : nameAt (fs.set k p) j = (if j = k then p.1 else nameAt fs j) ∧ valAt (fs.set k p) j = (if j = k then p.2 else valAt fs j) := by
  unfold nameAt valAt
  rw [List.getD_eq_getElem?_getD, List.getD_eq_getElem?_getD]
  by_cases e : j = k
  · subst e
    rw [if_pos rfl, if_pos rfl, List.getElem?_set_self (by omega)]
    exact ⟨rfl, rfl⟩
  · rw [if_neg e, if_neg e, List.getElem?_set_ne (by omega)]
    exact ⟨rfl, rfl⟩
theorem heap_setCell_congr {w w' : World} {g : Nat} (h : w'.heap[g]? = w.heap[g]?) (o : Nat) (v : Value) : (w'.setCell ⟨g, o, none⟩ v).heap[g]? = (w.setCell ⟨g, o, none⟩ v).heap[g]? := by
  simp [World.setCell, Array.getElem?_modify, h]
/-- One field of a row stored anew. -/
theorem FieldRow.set {base : Nat} {w : World} {g n cap : Nat} {fs : List (ByteArray × ByteArray)} (h : FieldRow base w g n cap fs) (k : Nat) (hk : k < n) (a b : ByteArray) (W : World) (hW : W.heap[g]? = ((w.setCell ⟨g, k * 2, none⟩ (.string a)).setCell ⟨g, k * 2 + 1, none⟩ (.string b)).heap[g]?) (hsz : w.heap.size ≤ W.heap.size) : FieldRow base W g n cap (fs.set k (a, b)) := by
  have hl := h.len; have hle := h.le
  obtain ⟨cur, h1, h2, h3⟩ := h.heap
  have hlt := h.lt
  refine ⟨by simp [hl], h.base, by omega, h.le, h.mx, (cur.setIfInBounds (k * 2) (.string a)).setIfInBounds (k * 2 + 1) (.string b), ?_, by simpa using h2, ?_⟩
  · rw [hW]; exact heap_set _ g (k * 2 + 1) _ _ _ _ (heap_set w g (k * 2) _ _ _ _ h1)
  · intro i hi
    have hs := nameAt_set fs k i (a, b) (by omega)
    rw [hs.1, hs.2]
    by_cases e : i = k
    · subst e
      rw [if_pos rfl, if_pos rfl]
      refine ⟨?_, ?_⟩
      · rw [Array.getElem?_setIfInBounds_ne (by omega), Array.getElem?_setIfInBounds_self_of_lt (by omega)]
      · rw [Array.getElem?_setIfInBounds_self_of_lt (by simp; omega)]
    · rw [if_neg e, if_neg e]
      have := h3 i hi
      refine ⟨?_, ?_⟩
      · rw [Array.getElem?_setIfInBounds_ne (by omega), Array.getElem?_setIfInBounds_ne (by omega)]; exact this.1
      · rw [Array.getElem?_setIfInBounds_ne (by omega), Array.getElem?_setIfInBounds_ne (by omega)]; exact this.2

end Go.Proofs.YtacfajnagbeocaaGreatDoor

namespace Go.Proofs.YtacfajnagbeocaaGreatDoor
open Go.RowKit
open Go.Lib hiding intOf

set_option maxHeartbeats 1000000 in
theorem l3Path_any (s : ByteArray) (w : World) (hs : s.size ≤ maxLen) :
    Calls Tryz.prog 43 #[.string s] w fun e w' => BoolIs (PathOk s) w e w' := by
  unfold maxLen at hs
  go_enter Tryz.func43, Tryz.ntmps43
  go_wp2
  go_loop [3] (fun i => ∃ k : Nat, k ≤ s.size ∧ i = .int .i64 k ∧ Hid (AllTo PathB s k)) (fun i => s.size - (intOf i).toNat)
  case atStart => exact ⟨0, Nat.zero_le _, rfl, allTo_zero _ _⟩
  case round =>
    obtain ⟨k, hk, rfl, hall⟩ := hrel
    by_cases hlt : k < s.size
    · go_wp2
      all_goals first
        | (go_ret
           have hno : ¬ PathB ((s[k]'hlt).toNat : Int) := by
             unfold PathB
             omega
           exact BoolIs.no (fun h => hno (h.1 k hlt)) (Below.refl _ _))
        | (go_round
           case rel =>
             have hy : PathB ((s[k]'hlt).toNat : Int) := by
               unfold PathB
               omega
             exact ⟨k + 1, by omega, by go_num, allTo_succ hall.out hlt hy⟩
           case measure => simp [intOf]; omega)
    · have hend : Hid (AllB PathB s) := allTo_end hall.out hlt
      by_cases h1 : (1 : Int) ≤ (s.size : Int)
      · have h0 : 0 < s.size := by omega
        by_cases h2 : (s.size : Int) ≤ 60
        · by_cases h3 : ((s[0]'h0).toNat : Int) = 47
          · go_wp2
            go_ret
            exact BoolIs.yes ⟨hend.out, by omega, by omega, h0, by omega⟩ (Below.refl _ _)
          · have h4 : (((s[0]'h0).toNat : Int) == 47) = false := by rw [beq_eq_false_iff_ne]; exact h3
            go_wp2
            go_ret
            exact BoolIs.no (fun h => by obtain ⟨_, _, _, _, h5⟩ := h; omega) (Below.refl _ _)
        · go_wp2
          go_ret
          exact BoolIs.no (fun h => by obtain ⟨_, _, h5, _⟩ := h; omega) (Below.refl _ _)
      · go_wp2
        go_ret
        exact BoolIs.no (fun h => by obtain ⟨_, h5, _⟩ := h; omega) (Below.refl _ _)

/-- Texts short enough for any walk. -/
def WalkF (n : Nat) (fs : List (ByteArray × ByteArray)) : Prop := ∀ i, i < n → (nameAt fs i).size ≤ maxLen ∧ (valAt fs i).size ≤ maxLen

/-- A block that was laid last stands behind every call that keeps what was there. -/
theorem kept_new {w W : World} {o : Obj} (h : Below (w.alloc o).heap.size (w.alloc o) W) : W.heap[w.heap.size]? = some o := by
  rw [h.block _ (by simp)]; exact heap_alloc_new w _
theorem below_new {w W : World} {o : Obj} (h : Below (w.alloc o).heap.size (w.alloc o) W) : Below w.heap.size w W :=
  ((Below.refl _ w).alloc (Nat.le_refl _) o).trans (h.mono (by simp))
set_option maxHeartbeats 400000 in
theorem l1In_any (x lo hi : Int) (w : World) :
    Calls Tryz.prog 42 #[.int .i64 x, .int .i64 lo, .int .i64 hi] w fun e w' => e = .returned (.bool (decide (lo ≤ x ∧ x ≤ hi))) ∧ w' = w := by
  by_cases h1 : lo ≤ x
  · by_cases h2 : x ≤ hi
    · go_enter Tryz.func42, Tryz.ntmps42
      go_wp2
      go_ret
      exact ⟨by simp [h1, h2], rfl⟩
    · go_enter Tryz.func42, Tryz.ntmps42
      go_wp2
      go_ret
      exact ⟨by simp [h2], rfl⟩
  · go_enter Tryz.func42, Tryz.ntmps42
    go_wp2
    go_ret
    exact ⟨by simp; omega, rfl⟩

set_option maxHeartbeats 1000000 in
theorem specReqOk_any (m : Int) (p : ByteArray) (v : Value) (b : ByteArray) (n base : Nat) (fs : List (ByteArray × ByteArray)) (w : World) (hv : FieldsV w base v n fs) (hn : n ≤ 1073741824) (hsz : WalkF n fs) (hp : p.size ≤ maxLen) (hb : b.size ≤ maxLen) :
    Calls Tryz.prog 33 #[.agg #[.int .i64 m, .string p, v, .string b]] w fun e w' => BoolIs (ReqP m p fs b) w e w' := by
  obtain ⟨oa, cap, rfl, _⟩ := hv.slice
  obtain ⟨r, hr⟩ : ∃ r, r = w.heap.size := ⟨_, rfl⟩
  have HR : Hid (∀ W, Below (w.alloc (.cells #[.int .i64 m, .string p, .slice oa n cap, .string b] 37)).heap.size (w.alloc (.cells #[.int .i64 m, .string p, .slice oa n cap, .string b] 37)) W → (W.cell? ⟨r, 1, none⟩ = some (.string p) ∧ W.cell? ⟨r, 2, none⟩ = some (.slice oa n cap) ∧ W.cell? ⟨r, 3, none⟩ = some (.string b)) ∧ FieldsV W base (.slice oa n cap) n fs ∧ Below w.heap.size w W) := fun W h => by
    have hh := kept_new h
    rw [← hr] at hh
    exact ⟨⟨by simp [World.cell?, hh], by simp [World.cell?, hh], by simp [World.cell?, hh]⟩, hv.below (below_new h), below_new h⟩
  have HSZ : Hid (WalkF n fs) := hsz
  have HP : Hid (p.size ≤ maxLen) := hp
  unfold maxLen at hb
  clear hv hsz hp
  go_enter Tryz.func33, Tryz.ntmps33
  go_wp2_with fail
  refine (l1In_any m 1 4 _).mono ?_
  rintro e w1 ⟨rfl, hw1⟩
  have hb1 : Below (w.alloc (.cells #[.int .i64 m, .string p, .slice oa n cap, .string b] 37)).heap.size (w.alloc (.cells #[.int .i64 m, .string p, .slice oa n cap, .string b] 37)) w1 := by rw [hw1]; exact Below.refl _ _
  clear hw1
  rw [← hr]
  obtain ⟨⟨c1, c2, c3⟩, _, hbw1⟩ := HR.out w1 hb1
  by_cases hm : 1 ≤ m ∧ m ≤ 4
  · have e1 : decide (1 ≤ m ∧ m ≤ 4) = true := by simpa using hm
    have HM : Hid (1 ≤ m ∧ m ≤ 4) := hm
    rw [e1]
    clear hr hm e1
    go_wp2_with fail
    refine (l3Path_any p _ HP.out).mono ?_
    rintro e w2 ⟨b1, rfl, kb1, bb2⟩
    have hb2 := hb1.trans (bb2.mono hb1.size)
    clear c1 c2 c3 bb2 hb1 hbw1
    obtain ⟨⟨c1, c2, c3⟩, hv2, hbw2⟩ := HR.out w2 hb2
    have HV2 : Hid (FieldsV w2 base (.slice oa n cap) n fs) := hv2
    clear hv2
    cases b1
    · have HF : Hid (¬ ReqP m p fs b) := fun h => by have := kb1.2 h.2.1; cases this
      clear kb1
      go_wp2_with fail
      go_ret
      exact BoolIs.no HF.out hbw2
    · have HT : Hid (PathOk p) := kb1.1 rfl
      clear kb1
      go_wp2_with fail
      refine (specFieldsOk_any _ n base fs _ HV2.out hn HSZ.out).mono ?_
      rintro e w3 ⟨b2, rfl, kb2, bb3⟩
      have hb3 := hb2.trans (bb3.mono hb2.size)
      clear c1 c2 c3 bb3 hb2 hbw2
      obtain ⟨⟨c1, c2, c3⟩, _, hbw3⟩ := HR.out w3 hb3
      cases b2
      · have HF : Hid (¬ ReqP m p fs b) := fun h => by have := kb2.2 h.2.2.1; cases this
        clear kb2
        go_wp2_with fail
        go_ret
        exact BoolIs.no HF.out hbw3
      · have HT2 : Hid (FldsOk fs) := kb2.1 rfl
        clear kb2
        by_cases h120 : (b.size : Int) ≤ 120
        · have HY : Hid (ReqP m p fs b) := ⟨HM.out, HT.out, HT2.out, by omega⟩
          go_wp2_with fail
          go_ret
          exact BoolIs.yes HY.out hbw3
        · have HF : Hid (¬ ReqP m p fs b) := fun h => by have := h.2.2.2; omega
          have hd : decide ((b.size : Int) ≤ 120) = false := by simpa using h120
          go_wp2_with fail
          go_ret
          exact BoolIs.no HF.out hbw3
  · have e1 : decide (1 ≤ m ∧ m ≤ 4) = false := by simpa using hm
    have HF : Hid (¬ ReqP m p fs b) := fun h => hm h.1
    rw [e1]
    clear hr hm e1
    go_wp2_with fail
    go_ret
    exact BoolIs.no HF.out hbw1

end Go.Proofs.YtacfajnagbeocaaGreatDoor

namespace Go.Proofs.YtacfajnagbeocaaGreatDoor
open Go.RowKit
open Go.Lib hiding intOf

/-- The names of the methods, in a new list. -/
def MethsAt (w : World) (g : Nat) : Prop := ∀ j, j < 5 → w.cell? ⟨g, j, none⟩ = some (.string (methB (j : Int)))
set_option maxHeartbeats 400000 in
theorem l3Methods_any (w : World) :
    Calls Tryz.prog 25 #[] w fun e w' => ∃ g, e = .returned (.slice (some ⟨g, 0, none⟩) 5 5) ∧ MethsAt w' g ∧ w.heap.size ≤ g ∧ g < w'.heap.size ∧ Below w.heap.size w w' := by
  go_enter Tryz.func25, Tryz.ntmps25
  go_wp2
  go_ret
  refine ⟨_, rfl, ?_, Nat.le_refl _, by simp, (Below.refl _ _).alloc (Nat.le_refl _) _⟩
  intro j hj
  have hh := heap_alloc_new w (.cells #[.string ⟨#[]⟩, .string ⟨#[71, 69, 84]⟩, .string ⟨#[72, 69, 65, 68]⟩, .string ⟨#[80, 79, 83, 84]⟩, .string ⟨#[80, 85, 82, 71, 69]⟩] 9)
  simp only [World.cell?, hh]
  match j, hj with
  | 0, _ => rfl
  | 1, _ => rfl
  | 2, _ => rfl
  | 3, _ => rfl
  | 4, _ => rfl
theorem methB_size (m : Int) : (methB m).size ≤ 5 := by
  unfold methB
  split
  · decide
  · split
    · decide
    · split
      · decide
      · split <;> decide
theorem ft_small {fs : List (ByteArray × ByteArray)} (h : FldsOk fs) : (fieldsText fs).size ≤ 672 := by
  have h1 : ∀ k, k ≤ fs.length → (ftTo fs k).size ≤ 84 * k := by
    intro k
    induction k with
    | zero => intro _; exact Nat.le_refl _
    | succ k ih =>
      intro hk
      have h2 := h.2 k (by omega)
      have h3 := h2.1.2.1
      have h4 := h2.2.1.2.1
      have := ih (by omega)
      rw [ftTo_size]; omega
  have := h1 fs.length (Nat.le_refl _)
  have := h.1
  unfold fieldsText; omega
theorem dgF_len : ∀ (f n : Nat), (dgF f n).length ≤ f
  | 0, n => by simp [dgF]
  | f + 1, n => by
    by_cases h : n = 0
    · rw [h, dgF_zero]; simp
    · rw [dgF_pos f n h]
      have := dgF_len f (n / 10)
      simp; omega
theorem numText_size (n : Nat) : (numText n).size ≤ 8 := by
  have : (numText n).size = (numL n).length := by simp [numText, ByteArray.size]
  rw [this]
  unfold numL
  split
  · simp
  · split
    · simp
    · exact dgF_len 8 n
theorem empty_text {b : ByteArray} (h : b.size = 0) : b = ⟨#[]⟩ := by
  apply ByteArray.ext
  exact Array.eq_empty_of_size_eq_zero h

/-- A call answers the text of what is right, nothing else of what is not. -/
def TextOf (p : Prop) (t : ByteArray) (w : World) (e : Ending) (w' : World) : Prop := ∃ u : ByteArray, e = .returned (.string u) ∧ (p → u = t) ∧ (¬ p → u = ⟨#[]⟩) ∧ Below w.heap.size w w'

set_option maxHeartbeats 2000000 in
theorem specReqText_any (m : Int) (p : ByteArray) (v : Value) (b : ByteArray) (n base : Nat) (fs : List (ByteArray × ByteArray)) (w : World) (hv : FieldsV w base v n fs) (hn : n ≤ 1073741824) (hsz : WalkF n fs) (hp : p.size ≤ maxLen) (hb : b.size ≤ maxLen) :
    Calls Tryz.prog 26 #[.agg #[.int .i64 m, .string p, v, .string b]] w fun e w' => TextOf (ReqP m p fs b) (reqT m p fs b) w e w' := by
  obtain ⟨oa, cap, rfl, _⟩ := hv.slice
  obtain ⟨r, hr⟩ : ∃ r, r = w.heap.size := ⟨_, rfl⟩
  have HR : Hid (∀ W, Below (w.alloc (.cells #[.int .i64 m, .string p, .slice oa n cap, .string b] 37)).heap.size (w.alloc (.cells #[.int .i64 m, .string p, .slice oa n cap, .string b] 37)) W → (W.cell? ⟨r, 0, none⟩ = some (.int .i64 m) ∧ W.cell? ⟨r, 1, none⟩ = some (.string p) ∧ W.cell? ⟨r, 2, none⟩ = some (.slice oa n cap) ∧ W.cell? ⟨r, 3, none⟩ = some (.string b)) ∧ FieldsV W base (.slice oa n cap) n fs ∧ Below w.heap.size w W) := fun W h => by
    have hh := kept_new h
    rw [← hr] at hh
    exact ⟨⟨by simp [World.cell?, hh], by simp [World.cell?, hh], by simp [World.cell?, hh], by simp [World.cell?, hh]⟩, hv.below (below_new h), below_new h⟩
  obtain ⟨_, hv0, _⟩ := HR.out _ (Below.refl _ _)
  have HSZ : Hid (WalkF n fs) := hsz
  go_enter Tryz.func26, Tryz.ntmps26
  go_wp2_with fail
  refine (specReqOk_any m p _ b n base fs _ hv0 hn hsz hp hb).mono ?_
  rintro e w1 ⟨b1, rfl, kb1, bb1⟩
  rw [← hr]
  obtain ⟨⟨c0, c1, c2, c3⟩, hv1, hbw1⟩ := HR.out w1 bb1
  clear hv hv0 hsz hp hb
  cases b1
  · have HF : Hid (¬ ReqP m p fs b) := fun h => by have := kb1.2 h; cases this
    clear kb1 hv1 bb1 hr
    go_wp2_with fail
    go_ret
    exact ⟨_, rfl, fun h => absurd h HF.out, fun _ => rfl, hbw1⟩
  · have HY : Hid (ReqP m p fs b) := kb1.1 rfl
    have HV1 : Hid (FieldsV w1 base (.slice oa n cap) n fs) := hv1
    obtain ⟨k, rfl⟩ : ∃ k : Nat, m = (k : Int) := ⟨m.toNat, by have := HY.out.1; omega⟩
    have hk5 : (k : Int) < 5 := by have := HY.out.1; omega
    have hkn : k < 5 := by omega
    have hps : p.size ≤ 60 := HY.out.2.1.2.2.1
    have hbs : b.size ≤ 120 := HY.out.2.2.2
    obtain ⟨mt, hmt⟩ : ∃ x, x = methB (k : Int) := ⟨_, rfl⟩
    have hms := methB_size (k : Int)
    rw [← hmt] at hms
    obtain ⟨ft, hft⟩ : ∃ x, x = fieldsText fs := ⟨_, rfl⟩
    have hfs := ft_small HY.out.2.2.1
    rw [← hft] at hfs
    have HT : Hid ((fieldsText fs).size ≤ 1099511627776) := by show _ ≤ _; rw [← hft]; omega
    have HFT : Hid (fieldsText fs = ft) := hft.symm
    have HMT : Hid (methB (k : Int) = mt) := hmt.symm
    clear kb1 hr hv1 hmt hft c3
    have q1 : ¬ 9223372036854775807 < mt.size + 1 := by omega
    have q2 : ¬ 9223372036854775807 < (mt ++ ⟨#[32]⟩).size + p.size := by rw [ByteArray.size_append]; have : (⟨#[32]⟩ : ByteArray).size = 1 := rfl; omega
    have q3 : ¬ 9223372036854775807 < (mt ++ ⟨#[32]⟩ ++ p).size + 11 := by rw [ByteArray.size_append, ByteArray.size_append]; have : (⟨#[32]⟩ : ByteArray).size = 1 := rfl; omega
    have q4 : ¬ 9223372036854775807 < (mt ++ ⟨#[32]⟩ ++ p ++ ⟨#[32, 72, 84, 84, 80, 47, 49, 46, 49, 13, 10]⟩).size + ft.size := by
      rw [ByteArray.size_append, ByteArray.size_append, ByteArray.size_append]
      have e1 : (⟨#[32]⟩ : ByteArray).size = 1 := rfl
      have e2 : (⟨#[32, 72, 84, 84, 80, 47, 49, 46, 49, 13, 10]⟩ : ByteArray).size = 11 := rfl
      omega
    have q2' : ¬ 9223372036854775807 < mt.size + 1 + p.size := by omega
    have q3' : ¬ 9223372036854775807 < mt.size + 1 + p.size + 11 := by omega
    have q4' : ¬ 9223372036854775807 < mt.size + 1 + p.size + 11 + ft.size := by omega
    have H1 : Hid (∀ w2, Below w1.drew.heap.size w1.drew w2 → (w2.cell? ⟨r, 0, none⟩ = some (.int .i64 (k : Int)) ∧ w2.cell? ⟨r, 1, none⟩ = some (.string p) ∧ w2.cell? ⟨r, 2, none⟩ = some (.slice oa n cap)) ∧ FieldsV w2 base (.slice oa n cap) n fs ∧ Hid (Below (w.alloc (.cells #[.int .i64 (k : Int), .string p, .slice oa n cap, .string b] 37)).heap.size (w.alloc (.cells #[.int .i64 (k : Int), .string p, .slice oa n cap, .string b] 37)) w2)) := fun w2 h => by
      have hb2 := bb1.drew.trans (h.mono bb1.size)
      obtain ⟨⟨d0, d1, d2, _⟩, hv2, _⟩ := HR.out w2 hb2
      exact ⟨⟨d0, d1, d2⟩, hv2, hb2⟩
    have H2 : Hid (∀ g w2 w3, Hid (Below (w.alloc (.cells #[.int .i64 (k : Int), .string p, .slice oa n cap, .string b] 37)).heap.size (w.alloc (.cells #[.int .i64 (k : Int), .string p, .slice oa n cap, .string b] 37)) w2) → MethsAt w2 g → g < w2.heap.size → Below w2.heap.size w2 w3 → (w3.cell? ⟨r, 0, none⟩ = some (.int .i64 (k : Int)) ∧ w3.cell? ⟨r, 1, none⟩ = some (.string p) ∧ w3.cell? ⟨r, 2, none⟩ = some (.slice oa n cap)) ∧ w3.cell? ⟨g, k, none⟩ = some (.string mt) ∧ Hid (Below (w.alloc (.cells #[.int .i64 (k : Int), .string p, .slice oa n cap, .string b] 37)).heap.size (w.alloc (.cells #[.int .i64 (k : Int), .string p, .slice oa n cap, .string b] 37)) w3)) := fun g w2 w3 hb2 hm hg h => by
      have hb3 := hb2.out.trans (h.mono hb2.out.size)
      obtain ⟨⟨d0, d1, d2, _⟩, _, _⟩ := HR.out w3 hb3
      have hc := hm k hkn
      rw [HMT.out] at hc
      exact ⟨⟨d0, d1, d2⟩, by rw [h.cell (p := ⟨g, k, none⟩) hg]; exact hc, hb3⟩
    have HMK : Hid (∀ (W : World) g, MethsAt W g → W.cell? ⟨g, k, none⟩ = some (.string mt)) := fun W g h => by
      have hc := h k hkn
      rw [HMT.out] at hc
      exact hc
    clear bb1
    go_wp2_with fail
    refine wp_region_held_drew (S := fun W => W.cell? ⟨r, 0, none⟩ = some (.int .i64 (k : Int)) ∧ W.cell? ⟨r, 1, none⟩ = some (.string p) ∧ W.cell? ⟨r, 2, none⟩ = some (.slice oa n cap)) (by kernel_rfl) ⟨c0, c1, c2⟩ (fun hHeld => ?_)
    refine wpAnyH_take (i := 1) (v := .pointer (some ⟨r, 0, none⟩)) rfl (by kernel_rfl) (by kernel_rfl) (by kernel_rfl) (fun _ _ _ h => h) (Or.inl ⟨by rfl, by intro W hSW; (try dsimp only at hSW); go_simp⟩) (by assumption) ?_
    refine wpAnyH_take (i := 2) (v := .int .i64 (k : Int)) rfl (by kernel_rfl) (by kernel_rfl) (by kernel_rfl) (fun _ _ _ h => h) (Or.inl ⟨by rfl, by intro W hSW; (try dsimp only at hSW); go_simp⟩) (by assumption) ?_
    refine wpAnyH_take (i := 6) (v := .pointer (some ⟨r, 1, none⟩)) rfl (by kernel_rfl) (by kernel_rfl) (by kernel_rfl) (fun _ _ _ h => h) (Or.inl ⟨by rfl, by intro W hSW; (try dsimp only at hSW); go_simp⟩) (by assumption) ?_
    refine wpAnyH_take (i := 7) (v := .string p) rfl (by kernel_rfl) (by kernel_rfl) (by kernel_rfl) (fun _ _ _ h => h) (Or.inl ⟨by rfl, by intro W hSW; (try dsimp only at hSW); go_simp⟩) (by assumption) ?_
    refine wpAnyH_take (i := 10) (v := .pointer (some ⟨r, 2, none⟩)) rfl (by kernel_rfl) (by kernel_rfl) (by kernel_rfl) (fun _ _ _ h => h) (Or.inl ⟨by rfl, by intro W hSW; (try dsimp only at hSW); go_simp⟩) (by assumption) ?_
    refine wpAnyH_take (i := 11) (v := .slice oa n cap) rfl (by kernel_rfl) (by kernel_rfl) (by kernel_rfl) (fun _ _ _ h => h) (Or.inl ⟨by rfl, by intro W hSW; (try dsimp only at hSW); go_simp⟩) (by assumption) ?_
    refine wpAnyH_ready (rs := [0]) (by kernel_rfl) (by simp) ?_
    refine AllReadyH.cons rfl (fun K hK => ?_) AllReadyH.nil
    go_simp
    refine (l3Methods_any _).mono ?_
    rintro e w2 ⟨g, rfl, hme, _, hg2, bb2⟩
    obtain ⟨hS2, hv2, hB2⟩ := H1.out w2 bb2
    have HV2 : Hid (FieldsV w2 base (.slice oa n cap) n fs) := hv2
    have hmc2 := HMK.out w2 g hme
    clear hv2 c0 c1 c2 hHeld
    refine hK.out _ _ hS2 (fun hHeld => ?_)
    clear hK K
    refine wpAnyH_take (i := 3) (v := .pointer (some ⟨g, k, none⟩)) rfl (by kernel_rfl) (by kernel_rfl) (by kernel_rfl) (fun _ _ _ h => h) (Or.inl ⟨by rfl, by intro W hSW; (try dsimp only at hSW); go_simp⟩) (by assumption) ?_
    refine wpAnyH_ready (rs := [4, 12]) (by kernel_rfl) (by simp) ?_
    refine AllReadyH.cons rfl (fun K hK => ?_) (AllReadyH.cons rfl (fun K hK => ?_) AllReadyH.nil)
    · go_simp
      refine hK.out _ _ hS2 (fun hHeldA => ?_)
      clear hK K hHeld
      refine wpAnyH_take (i := 5) (v := .string (mt ++ ⟨#[32]⟩)) rfl (by kernel_rfl) (by kernel_rfl) (by kernel_rfl) (fun _ _ _ h => h) (Or.inl ⟨by rfl, by intro W hSW; (try dsimp only at hSW); go_simp⟩) (by assumption) ?_
      refine wpAnyH_take (i := 8) (v := .string (mt ++ ⟨#[32]⟩ ++ p)) rfl (by kernel_rfl) (by kernel_rfl) (by kernel_rfl) (fun _ _ _ h => h) (Or.inl ⟨by rfl, by intro W hSW; (try dsimp only at hSW); go_simp⟩) (by assumption) ?_
      refine wpAnyH_take (i := 9) (v := .string (mt ++ ⟨#[32]⟩ ++ p ++ ⟨#[32, 72, 84, 84, 80, 47, 49, 46, 49, 13, 10]⟩)) rfl (by kernel_rfl) (by kernel_rfl) (by kernel_rfl) (fun _ _ _ h => h) (Or.inl ⟨by rfl, by intro W hSW; (try dsimp only at hSW); go_simp⟩) (by assumption) ?_
      refine wpAnyH_ready (rs := [12]) (by kernel_rfl) (by simp) ?_
      refine AllReadyH.cons rfl (fun K hK => ?_) AllReadyH.nil
      go_simp
      refine (specFieldsText_any _ n base fs _ HV2.out hn HT.out).mono ?_
      rintro e w3 ⟨rfl, bb3⟩
      rw [HFT.out]
      obtain ⟨hS3, hmc3, hB3⟩ := H2.out g w2 w3 hB2 hme hg2 bb3
      refine hK.out _ _ hS3 (fun hHeldZ => ?_)
      clear hK K hHeldA hmc2
      refine wpAnyH_take (i := 13) (v := .string (mt ++ ⟨#[32]⟩ ++ p ++ ⟨#[32, 72, 84, 84, 80, 47, 49, 46, 49, 13, 10]⟩ ++ ft)) rfl (by kernel_rfl) (by kernel_rfl) (by kernel_rfl) (fun _ _ _ h => h) (Or.inl ⟨by rfl, by intro W hSW; (try dsimp only at hSW); go_simp⟩) (by assumption) ?_
      refine wpAnyH_take (i := 14) (v := .string (mt ++ ⟨#[32]⟩ ++ p ++ ⟨#[32, 72, 84, 84, 80, 47, 49, 46, 49, 13, 10]⟩ ++ ft)) rfl (by kernel_rfl) (by kernel_rfl) (by kernel_rfl) (fun _ _ _ h => h) (Or.inl ⟨by rfl, by intro W hSW; (try dsimp only at hSW); go_simp⟩) (by assumption) ?_
      refine wpAnyH_done (by kernel_rfl) ?_ _
      obtain ⟨⟨_, _, _, c3⟩, _, hbw3⟩ := HR.out w3 hB3.out
      have HB3 := hB3
      clear hHeldZ hS3 hmc3 hB3 hme hg2 bb3 HV2 hB2 hbw1
      by_cases hb0 : b.size = 0
      · obtain rfl := empty_text hb0
        have HE : Hid (mt ++ ⟨#[32]⟩ ++ p ++ ⟨#[32, 72, 84, 84, 80, 47, 49, 46, 49, 13, 10]⟩ ++ ft ++ ⟨#[13, 10]⟩ ++ ⟨#[]⟩ = reqT (k : Int) p fs ⟨#[]⟩) := by
          show _ = _
          unfold reqT reqHead
          rw [if_pos (show (⟨#[]⟩ : ByteArray).size = 0 from rfl), HMT.out, HFT.out]; rfl
        go_wp2_with fail
        go_ret
        exact ⟨_, rfl, fun _ => HE.out, fun h => absurd HY.out h, hbw3⟩
      · have ht : b.toList.isEmpty = false := by
          rw [ByteArray.toList_eq, List.isEmpty_eq_false_iff]
          intro e
          exact hb0 (by have := congrArg List.length e; simpa using this)
        obtain ⟨nt, hnt⟩ : ∃ x, x = numText b.size := ⟨_, rfl⟩
        have hns := numText_size b.size
        rw [← hnt] at hns
        have HNT : Hid (numText b.size = nt) := hnt.symm
        have HE : Hid (mt ++ ⟨#[32]⟩ ++ p ++ ⟨#[32, 72, 84, 84, 80, 47, 49, 46, 49, 13, 10]⟩ ++ ft ++ ⟨#[99, 111, 110, 116, 101, 110, 116, 45, 108, 101, 110, 103, 116, 104, 58, 32]⟩ ++ nt ++ ⟨#[13, 10]⟩ ++ ⟨#[13, 10]⟩ ++ b = reqT (k : Int) p fs b) := by
          show _ = _
          unfold reqT reqHead
          rw [if_neg hb0, HMT.out, HFT.out, HNT.out]; rfl
        have e1 : (⟨#[32]⟩ : ByteArray).size = 1 := rfl
        have e2 : (⟨#[32, 72, 84, 84, 80, 47, 49, 46, 49, 13, 10]⟩ : ByteArray).size = 11 := rfl
        have e3 : (⟨#[99, 111, 110, 116, 101, 110, 116, 45, 108, 101, 110, 103, 116, 104, 58, 32]⟩ : ByteArray).size = 16 := rfl
        have e4 : (⟨#[13, 10]⟩ : ByteArray).size = 2 := rfl
        have r1 : ¬ 9223372036854775807 < (mt ++ ⟨#[32]⟩ ++ p ++ ⟨#[32, 72, 84, 84, 80, 47, 49, 46, 49, 13, 10]⟩ ++ ft).size + 16 := by simp only [ByteArray.size_append]; omega
        have r2 : ¬ 9223372036854775807 < (mt ++ ⟨#[32]⟩ ++ p ++ ⟨#[32, 72, 84, 84, 80, 47, 49, 46, 49, 13, 10]⟩ ++ ft ++ ⟨#[99, 111, 110, 116, 101, 110, 116, 45, 108, 101, 110, 103, 116, 104, 58, 32]⟩).size + nt.size := by simp only [ByteArray.size_append]; omega
        have r3 : ¬ 9223372036854775807 < (mt ++ ⟨#[32]⟩ ++ p ++ ⟨#[32, 72, 84, 84, 80, 47, 49, 46, 49, 13, 10]⟩ ++ ft ++ ⟨#[99, 111, 110, 116, 101, 110, 116, 45, 108, 101, 110, 103, 116, 104, 58, 32]⟩ ++ nt).size + 2 := by simp only [ByteArray.size_append]; omega
        have r4 : ¬ 9223372036854775807 < (mt ++ ⟨#[32]⟩ ++ p ++ ⟨#[32, 72, 84, 84, 80, 47, 49, 46, 49, 13, 10]⟩ ++ ft ++ ⟨#[99, 111, 110, 116, 101, 110, 116, 45, 108, 101, 110, 103, 116, 104, 58, 32]⟩ ++ nt ++ ⟨#[13, 10]⟩).size + 2 := by simp only [ByteArray.size_append]; omega
        have r5 : ¬ 9223372036854775807 < (mt ++ ⟨#[32]⟩ ++ p ++ ⟨#[32, 72, 84, 84, 80, 47, 49, 46, 49, 13, 10]⟩ ++ ft ++ ⟨#[99, 111, 110, 116, 101, 110, 116, 45, 108, 101, 110, 103, 116, 104, 58, 32]⟩ ++ nt ++ ⟨#[13, 10]⟩ ++ ⟨#[13, 10]⟩).size + b.size := by simp only [ByteArray.size_append]; omega
        clear hnt e1 e2 e3 e4
        go_wp2_with fail
        refine (specNumText_any b.size _ (by omega)).mono ?_
        rintro e w4 ⟨rfl, bb4⟩
        rw [HNT.out]
        obtain ⟨⟨_, _, _, d3⟩, _, hbw4⟩ := HR.out w4 (HB3.out.trans (bb4.mono HB3.out.size))
        clear bb4 c3 hbw3
        go_wp2_with fail
        go_ret
        exact ⟨_, rfl, fun _ => HE.out, fun h => absurd HY.out h, hbw4⟩
    · go_simp
      refine (specFieldsText_any _ n base fs _ HV2.out hn HT.out).mono ?_
      rintro e w3 ⟨rfl, bb3⟩
      rw [HFT.out]
      obtain ⟨hS3, hmc3, hB3⟩ := H2.out g w2 w3 hB2 hme hg2 bb3
      refine hK.out _ _ hS3 (fun hHeld3 => ?_)
      clear hK K hHeld hmc2
      refine wpAnyH_ready (rs := [4]) (by kernel_rfl) (by simp) ?_
      refine AllReadyH.cons rfl (fun K hK => ?_) AllReadyH.nil
      go_simp
      refine hK.out _ _ hS3 (fun hHeldZ => ?_)
      clear hK K hHeld3
      refine wpAnyH_take (i := 5) (v := .string (mt ++ ⟨#[32]⟩)) rfl (by kernel_rfl) (by kernel_rfl) (by kernel_rfl) (fun _ _ _ h => h) (Or.inl ⟨by rfl, by intro W hSW; (try dsimp only at hSW); go_simp⟩) (by assumption) ?_
      refine wpAnyH_take (i := 8) (v := .string (mt ++ ⟨#[32]⟩ ++ p)) rfl (by kernel_rfl) (by kernel_rfl) (by kernel_rfl) (fun _ _ _ h => h) (Or.inl ⟨by rfl, by intro W hSW; (try dsimp only at hSW); go_simp⟩) (by assumption) ?_
      refine wpAnyH_take (i := 9) (v := .string (mt ++ ⟨#[32]⟩ ++ p ++ ⟨#[32, 72, 84, 84, 80, 47, 49, 46, 49, 13, 10]⟩)) rfl (by kernel_rfl) (by kernel_rfl) (by kernel_rfl) (fun _ _ _ h => h) (Or.inl ⟨by rfl, by intro W hSW; (try dsimp only at hSW); go_simp⟩) (by assumption) ?_
      refine wpAnyH_take (i := 13) (v := .string (mt ++ ⟨#[32]⟩ ++ p ++ ⟨#[32, 72, 84, 84, 80, 47, 49, 46, 49, 13, 10]⟩ ++ ft)) rfl (by kernel_rfl) (by kernel_rfl) (by kernel_rfl) (fun _ _ _ h => h) (Or.inl ⟨by rfl, by intro W hSW; (try dsimp only at hSW); go_simp⟩) (by assumption) ?_
      refine wpAnyH_take (i := 14) (v := .string (mt ++ ⟨#[32]⟩ ++ p ++ ⟨#[32, 72, 84, 84, 80, 47, 49, 46, 49, 13, 10]⟩ ++ ft)) rfl (by kernel_rfl) (by kernel_rfl) (by kernel_rfl) (fun _ _ _ h => h) (Or.inl ⟨by rfl, by intro W hSW; (try dsimp only at hSW); go_simp⟩) (by assumption) ?_
      refine wpAnyH_done (by kernel_rfl) ?_ _
      obtain ⟨⟨_, _, _, c3⟩, _, hbw3⟩ := HR.out w3 hB3.out
      have HB3 := hB3
      clear hHeldZ hS3 hmc3 hB3 hme hg2 bb3 HV2 hB2 hbw1
      by_cases hb0 : b.size = 0
      · obtain rfl := empty_text hb0
        have HE : Hid (mt ++ ⟨#[32]⟩ ++ p ++ ⟨#[32, 72, 84, 84, 80, 47, 49, 46, 49, 13, 10]⟩ ++ ft ++ ⟨#[13, 10]⟩ ++ ⟨#[]⟩ = reqT (k : Int) p fs ⟨#[]⟩) := by
          show _ = _
          unfold reqT reqHead
          rw [if_pos (show (⟨#[]⟩ : ByteArray).size = 0 from rfl), HMT.out, HFT.out]; rfl
        go_wp2_with fail
        go_ret
        exact ⟨_, rfl, fun _ => HE.out, fun h => absurd HY.out h, hbw3⟩
      · have ht : b.toList.isEmpty = false := by
          rw [ByteArray.toList_eq, List.isEmpty_eq_false_iff]
          intro e
          exact hb0 (by have := congrArg List.length e; simpa using this)
        obtain ⟨nt, hnt⟩ : ∃ x, x = numText b.size := ⟨_, rfl⟩
        have hns := numText_size b.size
        rw [← hnt] at hns
        have HNT : Hid (numText b.size = nt) := hnt.symm
        have HE : Hid (mt ++ ⟨#[32]⟩ ++ p ++ ⟨#[32, 72, 84, 84, 80, 47, 49, 46, 49, 13, 10]⟩ ++ ft ++ ⟨#[99, 111, 110, 116, 101, 110, 116, 45, 108, 101, 110, 103, 116, 104, 58, 32]⟩ ++ nt ++ ⟨#[13, 10]⟩ ++ ⟨#[13, 10]⟩ ++ b = reqT (k : Int) p fs b) := by
          show _ = _
          unfold reqT reqHead
          rw [if_neg hb0, HMT.out, HFT.out, HNT.out]; rfl
        have e1 : (⟨#[32]⟩ : ByteArray).size = 1 := rfl
        have e2 : (⟨#[32, 72, 84, 84, 80, 47, 49, 46, 49, 13, 10]⟩ : ByteArray).size = 11 := rfl
        have e3 : (⟨#[99, 111, 110, 116, 101, 110, 116, 45, 108, 101, 110, 103, 116, 104, 58, 32]⟩ : ByteArray).size = 16 := rfl
        have e4 : (⟨#[13, 10]⟩ : ByteArray).size = 2 := rfl
        have r1 : ¬ 9223372036854775807 < (mt ++ ⟨#[32]⟩ ++ p ++ ⟨#[32, 72, 84, 84, 80, 47, 49, 46, 49, 13, 10]⟩ ++ ft).size + 16 := by simp only [ByteArray.size_append]; omega
        have r2 : ¬ 9223372036854775807 < (mt ++ ⟨#[32]⟩ ++ p ++ ⟨#[32, 72, 84, 84, 80, 47, 49, 46, 49, 13, 10]⟩ ++ ft ++ ⟨#[99, 111, 110, 116, 101, 110, 116, 45, 108, 101, 110, 103, 116, 104, 58, 32]⟩).size + nt.size := by simp only [ByteArray.size_append]; omega
        have r3 : ¬ 9223372036854775807 < (mt ++ ⟨#[32]⟩ ++ p ++ ⟨#[32, 72, 84, 84, 80, 47, 49, 46, 49, 13, 10]⟩ ++ ft ++ ⟨#[99, 111, 110, 116, 101, 110, 116, 45, 108, 101, 110, 103, 116, 104, 58, 32]⟩ ++ nt).size + 2 := by simp only [ByteArray.size_append]; omega
        have r4 : ¬ 9223372036854775807 < (mt ++ ⟨#[32]⟩ ++ p ++ ⟨#[32, 72, 84, 84, 80, 47, 49, 46, 49, 13, 10]⟩ ++ ft ++ ⟨#[99, 111, 110, 116, 101, 110, 116, 45, 108, 101, 110, 103, 116, 104, 58, 32]⟩ ++ nt ++ ⟨#[13, 10]⟩).size + 2 := by simp only [ByteArray.size_append]; omega
        have r5 : ¬ 9223372036854775807 < (mt ++ ⟨#[32]⟩ ++ p ++ ⟨#[32, 72, 84, 84, 80, 47, 49, 46, 49, 13, 10]⟩ ++ ft ++ ⟨#[99, 111, 110, 116, 101, 110, 116, 45, 108, 101, 110, 103, 116, 104, 58, 32]⟩ ++ nt ++ ⟨#[13, 10]⟩ ++ ⟨#[13, 10]⟩).size + b.size := by simp only [ByteArray.size_append]; omega
        clear hnt e1 e2 e3 e4
        go_wp2_with fail
        refine (specNumText_any b.size _ (by omega)).mono ?_
        rintro e w4 ⟨rfl, bb4⟩
        rw [HNT.out]
        obtain ⟨⟨_, _, _, d3⟩, _, hbw4⟩ := HR.out w4 (HB3.out.trans (bb4.mono HB3.out.size))
        clear bb4 c3 hbw3
        go_wp2_with fail
        go_ret
        exact ⟨_, rfl, fun _ => HE.out, fun h => absurd HY.out h, hbw4⟩

end Go.Proofs.YtacfajnagbeocaaGreatDoor

namespace Go.Proofs.YtacfajnagbeocaaGreatDoor
open Go.RowKit

theorem bs_extract (s : ByteArray) (f j : Nat) : bs (s.extract f j) = ((bs s).take j).drop f := by
  simp [bs, List.drop_take]
theorem bs_at (s : ByteArray) (j : Nat) (h : j < s.size) : (bs s)[j]'(by rw [bs_len]; exact h) = s[j]'h := rfl
theorem bs_drop (s : ByteArray) (j : Nat) (h : j < s.size) : (bs s).drop j = s[j]'h :: (bs s).drop (j + 1) := by
  rw [List.drop_eq_getElem_cons (by rw [bs_len]; exact h), bs_at s j h]
theorem take_snoc (s : ByteArray) (f j : Nat) (hf : f ≤ j) (h : j < s.size) : ((bs s).take (j + 1)).drop f = ((bs s).take j).drop f ++ [s[j]'h] := by
  have hl : j < (bs s).length := by rw [bs_len]; exact h
  rw [List.take_succ_eq_append_getElem hl, List.drop_append_of_le_length (by rw [List.length_take]; omega), bs_at s j h]
theorem take_none (s : ByteArray) (k : Nat) : ((bs s).take k).drop k = [] := by
  apply List.drop_eq_nil_of_le
  rw [List.length_take]; omega
theorem u8_eq (b : UInt8) (n : Nat) (hn : n < 256) : b = UInt8.ofNat n ↔ b.toNat = n := by
  constructor
  · intro h; rw [h, UInt8.toNat_ofNat']; omega
  · intro h; rw [← h]; simp

def HdInv (s : ByteArray) (l : List ByteArray) (f j : Nat) : Prop :=
  headL [] [] (bs s) = headL (l.map bs) (((bs s).take (max j f)).drop f) ((bs s).drop (max j f))
theorem hd_start (s : ByteArray) : HdInv s [] 0 0 := by simp [HdInv]
theorem hd_skip {s : ByteArray} {l : List ByteArray} {f j : Nat} (hf : f = j + 1) (h : HdInv s l f j) : HdInv s l f (j + 1) := by
  unfold HdInv at *
  rw [show max (j + 1) f = max j f by omega]; exact h
theorem hd_other {s : ByteArray} {l : List ByteArray} {f j : Nat} (hf : f ≤ j) (hj : j + 1 < s.size) (hn : ¬ ((s[j]'(by omega)).toNat = 13 ∧ (s[j + 1]'hj).toNat = 10)) (h : HdInv s l f j) : HdInv s l f (j + 1) := by
  unfold HdInv at *
  rw [show max j f = j by omega, bs_drop s j (by omega), bs_drop s (j + 1) hj, headL, if_neg (fun e => hn ⟨(u8_eq _ 13 (by omega)).1 e.1, (u8_eq _ 10 (by omega)).1 e.2⟩)] at h
  rw [h, show max (j + 1) f = j + 1 by omega, take_snoc s f j hf (by omega), bs_drop s (j + 1) hj]
theorem hd_line {s : ByteArray} {l : List ByteArray} {f j : Nat} (hf : f < j) (hj : j + 1 < s.size) (h1 : (s[j]'(by omega)).toNat = 13) (h2 : (s[j + 1]'hj).toNat = 10) (h : HdInv s l f j) : HdInv s (l ++ [s.extract f j]) (j + 2) (j + 1) := by
  unfold HdInv at *
  have hne : ((bs s).take j).drop f ≠ [] := fun e => by
    have := congrArg List.length e
    rw [List.length_drop, List.length_take, bs_len] at this
    simp at this; omega
  rw [show max j f = j by omega, bs_drop s j (by omega), bs_drop s (j + 1) hj, headL, if_pos ⟨(u8_eq _ 13 (by omega)).2 h1, (u8_eq _ 10 (by omega)).2 h2⟩, if_neg hne] at h
  rw [h, show max (j + 1) (j + 2) = j + 2 by omega, take_none, List.map_append, List.map_cons, List.map_nil, bs_extract]
theorem hd_fin {s : ByteArray} {l : List ByteArray} {f j : Nat} (hf : f = j) (hj : j + 1 < s.size) (h1 : (s[j]'(by omega)).toNat = 13) (h2 : (s[j + 1]'hj).toNat = 10) (h : HdInv s l f j) : headL [] [] (bs s) = (l.map bs, some ((bs s).drop (j + 2))) := by
  unfold HdInv at h
  subst hf
  rw [show max f f = f by omega, take_none, bs_drop s f (by omega), bs_drop s (f + 1) hj, headL, if_pos ⟨(u8_eq _ 13 (by omega)).2 h1, (u8_eq _ 10 (by omega)).2 h2⟩, if_pos rfl] at h
  exact h
theorem headL_short (out : List (List UInt8)) (cur r : List UInt8) (h : r.length ≤ 1) : headL out cur r = (out, none) := by
  match r, h with
  | [], _ => rfl
  | [_], _ => rfl
  | _ :: _ :: _, h => simp at h
theorem hd_end {s : ByteArray} {l : List ByteArray} {f j : Nat} (hj : ¬ j + 1 < s.size) (h : HdInv s l f j) : headL [] [] (bs s) = (l.map bs, none) := by
  unfold HdInv at h
  rw [h, headL_short]
  rw [List.length_drop, bs_len]; omega

def WdInv (s : ByteArray) (l : List ByteArray) (f k : Nat) : Prop :=
  if k ≤ s.size then wordsL [] [] (bs s) = wordsL (l.map bs) (((bs s).take k).drop f) ((bs s).drop k) else wordsL [] [] (bs s) = l.map bs
theorem wd_start (s : ByteArray) : WdInv s [] 0 0 := by simp [WdInv]
theorem wd_blank {s : ByteArray} {l : List ByteArray} {f k : Nat} (hk : k < s.size) (hc : (s[k]'hk).toNat = 32) (h : WdInv s l f k) : WdInv s (l ++ [s.extract f k]) (k + 1) (k + 1) := by
  unfold WdInv at *
  rw [if_pos (by omega), bs_drop s k hk, wordsL, if_pos (show s[k]'hk = 32 from (u8_eq _ 32 (by omega)).2 hc)] at h
  rw [if_pos (by omega), h, take_none, List.map_append, List.map_cons, List.map_nil, bs_extract]
theorem wd_last {s : ByteArray} {l : List ByteArray} {f k : Nat} (hk : k = s.size) (h : WdInv s l f k) : WdInv s (l ++ [s.extract f k]) (k + 1) (k + 1) := by
  unfold WdInv at *
  rw [if_pos (by omega), (show (bs s).drop k = [] from List.drop_eq_nil_of_le (by rw [bs_len]; omega)), wordsL] at h
  rw [if_neg (by omega), h, List.map_append, List.map_cons, List.map_nil, bs_extract]
theorem wd_other {s : ByteArray} {l : List ByteArray} {f k : Nat} (hf : f ≤ k) (hk : k < s.size) (hc : (s[k]'hk).toNat ≠ 32) (h : WdInv s l f k) : WdInv s l f (k + 1) := by
  unfold WdInv at *
  rw [if_pos (by omega), bs_drop s k hk, wordsL, if_neg (show ¬ s[k]'hk = 32 from fun e => hc ((u8_eq _ 32 (by omega)).1 e))] at h
  rw [if_pos (by omega), h, take_snoc s f k hf hk]
theorem wd_end {s : ByteArray} {l : List ByteArray} {f k : Nat} (hk : ¬ k ≤ s.size) (h : WdInv s l f k) : wordsL [] [] (bs s) = l.map bs := by
  unfold WdInv at h
  rwa [if_neg hk] at h

def FdInv (s : ByteArray) (k : Nat) : Prop := fieldL [] (bs s) = fieldL ((bs s).take k) ((bs s).drop k)
theorem fd_start (s : ByteArray) : FdInv s 0 := by simp [FdInv]
theorem fd_other {s : ByteArray} {k : Nat} (hk : k + 1 < s.size) (hn : ¬ ((s[k]'(by omega)).toNat = 58 ∧ (s[k + 1]'hk).toNat = 32)) (h : FdInv s k) : FdInv s (k + 1) := by
  unfold FdInv at *
  rw [bs_drop s k (by omega), bs_drop s (k + 1) hk, fieldL, if_neg (fun e => hn ⟨(u8_eq _ 58 (by omega)).1 e.1, (u8_eq _ 32 (by omega)).1 e.2⟩)] at h
  have := take_snoc s 0 k (Nat.zero_le _) (by omega)
  simp only [List.drop_zero] at this
  rw [h, this, bs_drop s (k + 1) hk]
theorem fd_cut {s : ByteArray} {k : Nat} (hk : k + 1 < s.size) (h1 : (s[k]'(by omega)).toNat = 58) (h2 : (s[k + 1]'hk).toNat = 32) (h : FdInv s k) : fieldL [] (bs s) = some (bs (s.extract 0 k), bs (s.extract (k + 2) s.size)) := by
  unfold FdInv at h
  rw [bs_drop s k (by omega), bs_drop s (k + 1) hk, fieldL, if_pos ⟨(u8_eq _ 58 (by omega)).2 h1, (u8_eq _ 32 (by omega)).2 h2⟩] at h
  rw [h, bs_extract, bs_extract, List.drop_zero, List.take_of_length_le (i := s.size) (l := bs s) (by rw [bs_len]; omega)]
theorem fieldL_short (cur r : List UInt8) (h : r.length ≤ 1) : fieldL cur r = none := by
  match r, h with
  | [], _ => rfl
  | [_], _ => rfl
  | _ :: _ :: _, h => simp at h
theorem fd_end {s : ByteArray} {k : Nat} (hk : ¬ k + 1 < s.size) (h : FdInv s k) : fieldL [] (bs s) = none := by
  unfold FdInv at h
  rw [h, fieldL_short]
  rw [List.length_drop, bs_len]; omega

def bsP (f : ByteArray × ByteArray) : List UInt8 × List UInt8 := (bs f.1, bs f.2)
/-- The first i lines have been looked at. -/
def GdInv (lines : List ByteArray) (l : List (ByteArray × ByteArray)) (i : Nat) : Prop := fieldsL (lines.map bs) = l.map bsP ++ fieldsL ((lines.drop i).map bs)
theorem gd_start (lines : List ByteArray) : GdInv lines [] 0 := by simp [GdInv]
theorem gd_none {lines : List ByteArray} {l : List (ByteArray × ByteArray)} {i : Nat} (hi : i < lines.length) (hf : fieldL [] (bs (lines[i]'hi)) = none) (h : GdInv lines l i) : GdInv lines l (i + 1) := by
  unfold GdInv at *
  rw [h, List.drop_eq_getElem_cons hi, List.map_cons, fieldsL, hf]
theorem gd_clen {lines : List ByteArray} {l : List (ByteArray × ByteArray)} {i : Nat} {nm vl : ByteArray} (hi : i < lines.length) (hf : fieldL [] (bs (lines[i]'hi)) = some (bs nm, bs vl)) (hn : nm = clen) (h : GdInv lines l i) : GdInv lines l (i + 1) := by
  unfold GdInv at *
  rw [h, List.drop_eq_getElem_cons hi, List.map_cons, fieldsL, hf]
  simp only
  rw [if_pos (by rw [hn]; rfl)]
theorem gd_some {lines : List ByteArray} {l : List (ByteArray × ByteArray)} {i : Nat} {nm vl : ByteArray} (hi : i < lines.length) (hf : fieldL [] (bs (lines[i]'hi)) = some (bs nm, bs vl)) (hn : nm ≠ clen) (h : GdInv lines l i) : GdInv lines (l ++ [(nm, vl)]) (i + 1) := by
  unfold GdInv at *
  rw [h, List.drop_eq_getElem_cons hi, List.map_cons, fieldsL, hf]
  simp only
  rw [if_neg (fun e => hn (bs_inj (by rw [e]; rfl)))]
  simp [bsP]
theorem gd_end {lines : List ByteArray} {l : List (ByteArray × ByteArray)} {i : Nat} (hi : lines.length ≤ i) (h : GdInv lines l i) : fieldsL (lines.map bs) = l.map bsP := by
  unfold GdInv at h
  rw [h, List.drop_eq_nil_of_le hi]
  simp [fieldsL]

end Go.Proofs.YtacfajnagbeocaaGreatDoor
