/- What the proof of FnBans leans on: contracts of the program's and the specification's functions, and plain facts (part 1 of 4). -/
import Derived.Test.YtlmenolcgaakeaaDoorCards
import Derived.Test.YtlmenolcgaakeaaDoorProg
import Derived.Test.YtlmenolcgaakeaaDoorRows
import Derived.Test.YtlmenolcgaakeaaDoorTie
import Derived.Below
import Derived.BigQuiet
import Derived.ChangeOld
import Derived.Deep.AppendLies
import Derived.Deep.CutRange
import Derived.Deep.DeepCutAuto
import Derived.Deep.DeepHandedRow
import Derived.Deep.DrawnRows
import Derived.Deep.QuietTactic
import Derived.Deep.RegionHeld3
import Derived.Deep.RegionLaw
import Derived.Deep.RegionWith
import Derived.Deep.SlicePairs
import Derived.Laws.AppendOwnNone
import Derived.Laws.BytesArg
import Derived.Laws.EntriesVeiled
import Derived.Laws.MakeOwn
import Derived.Laws.RangeAny
import Derived.Laws.StructEq
import Derived.Lib.AppendIntMem
import Derived.Lib.BufferOwn
import Derived.Lib.ConvBytes
import Derived.Lib.CutLaws
import Derived.Lib.LaidTab
import Derived.Lib.Strings
import Derived.Lib.Walk
import Derived.OpenShut
import Derived.ProofKit
import Derived.Shelf.LaysM
import Derived.Shelf.Strconv.Clone
import Derived.Shelf.Strconv.Itoa0
import Derived.Shelf.Strconv.Itoa1
import Derived.Shelf.Strconv.Itoa2
import Derived.Shelf.Strconv.Itoa3
import Derived.Shelf.Strings.Cut
import Derived.Shelf.Strings.Prefix
import Derived.Shelf.Strings.Search1
import Derived.Shelf.Strings.Search2
import Derived.Shelf.Strings.Shaped
import Derived.ShutString
import Derived.SliceStrings
import Derived.WalkKit
import Derived.WalkLawsBesides
import Derived.WalkSpells
namespace Go.Proofs.YtlmenolcgaakeaaDoor
open Go.RowKit

/-- The kind of a rune, in the order of the tests. -/
def cls (r : Int) : Int :=
  if 65 ≤ r ∧ r ≤ 90 then 0 else if 97 ≤ r ∧ r ≤ 122 then 1 else if 48 ≤ r ∧ r ≤ 57 then 2 else if r = 45 then 3 else if r = 32 then 4 else if r = 44 then 5 else if 32 ≤ r ∧ r ≤ 126 then 6 else 7

def testsV : Value := .agg #[.func (.func 64) #[] #[], .func (.func 65) #[] #[], .func (.func 66) #[] #[], .func (.func 67) #[] #[], .func (.func 68) #[] #[], .func (.func 69) #[] #[], .func (.func 70) #[] #[]]

theorem cls_spec (r : Int) : (cls r = 0 ∧ 65 ≤ r ∧ r ≤ 90) ∨ (cls r = 1 ∧ 97 ≤ r ∧ r ≤ 122) ∨ (cls r = 2 ∧ 48 ≤ r ∧ r ≤ 57) ∨ (cls r = 3 ∧ r = 45) ∨ (cls r = 4 ∧ r = 32) ∨ (cls r = 5 ∧ r = 44) ∨ (cls r = 6 ∧ 32 ≤ r ∧ r ≤ 126 ∧ (r < 65 ∨ 90 < r) ∧ (r < 97 ∨ 122 < r) ∧ (r < 48 ∨ 57 < r) ∧ r ≠ 45 ∧ r ≠ 32 ∧ r ≠ 44) ∨ (cls r = 7 ∧ (r < 32 ∨ 126 < r)) := by
  unfold cls
  repeat' split
  all_goals omega

theorem ret_int {k : IntKind} {a b : Int} (h : a = b) : Ending.returned (.int k a) = .returned (.int k b) := by rw [h]

set_option maxHeartbeats 400000 in
theorem byteTests_any (w : World) :
    Calls Tryd.prog 57 #[] w fun e w' => e = .returned testsV ∧ Below w.heap.size w w' := by
  go_enter Tryd.func57, Tryd.ntmps57
  go_wp2
  exact bodyPost_ret (v := testsV) (by simp [results, Tryd.results57, go_sem, testsV]) rfl ⟨rfl, (Below.refl _ _).alloc (Nat.le_refl _) _⟩

set_option maxHeartbeats 1000000 in
theorem classOf_any (r : Int) (w : World) :
    Calls Tryd.prog 52 #[.int .i32 r] w fun e w' => e = .returned (.int .i64 (cls r)) ∧ Below w.heap.size w w' := by
  have i0 : ∀ w : World, (Instr.index 86 testsV (.int .i64 0)).run Tryd.prog w = .ok (.func (.func 64) #[] #[]) w := fun _ => by kernel_rfl
  have i1 : ∀ w : World, (Instr.index 86 testsV (.int .i64 1)).run Tryd.prog w = .ok (.func (.func 65) #[] #[]) w := fun _ => by kernel_rfl
  have i2 : ∀ w : World, (Instr.index 86 testsV (.int .i64 2)).run Tryd.prog w = .ok (.func (.func 66) #[] #[]) w := fun _ => by kernel_rfl
  have i3 : ∀ w : World, (Instr.index 86 testsV (.int .i64 3)).run Tryd.prog w = .ok (.func (.func 67) #[] #[]) w := fun _ => by kernel_rfl
  have i4 : ∀ w : World, (Instr.index 86 testsV (.int .i64 4)).run Tryd.prog w = .ok (.func (.func 68) #[] #[]) w := fun _ => by kernel_rfl
  have i5 : ∀ w : World, (Instr.index 86 testsV (.int .i64 5)).run Tryd.prog w = .ok (.func (.func 69) #[] #[]) w := fun _ => by kernel_rfl
  have i6 : ∀ w : World, (Instr.index 86 testsV (.int .i64 6)).run Tryd.prog w = .ok (.func (.func 70) #[] #[]) w := fun _ => by kernel_rfl
  go_enter Tryd.func52, Tryd.ntmps52
  go_wp2_with (go_at_call 57; refine (byteTests_any _).mono ?_; rintro e w1 ⟨rfl, hb⟩)
  go_loop [6] (fun i => ∃ k : Nat, k ≤ 7 ∧ (k : Int) ≤ cls r ∧ i = .int .i64 k) (fun i => 7 - (intOf i).toNat)
  case atStart => exact ⟨0, by omega, by have := cls_spec r; omega, rfl⟩
  case round =>
    obtain ⟨k, hk, hc, rfl⟩ := hrel
    have hk5 : k = 0 ∨ k = 1 ∨ k = 2 ∨ k = 3 ∨ k = 4 ∨ k = 5 ∨ k = 6 ∨ k = 7 := by omega
    rcases hk5 with rfl | rfl | rfl | rfl | rfl | rfl | rfl | rfl
    all_goals have HS : Hid _ := cls_spec r
    · go_wp2
      · go_ret
        exact ⟨ret_int (by have := HS.out; omega), hb⟩
      · go_round
        case rel => exact ⟨1, by omega, by have := HS.out; omega, rfl⟩
        case measure => simp [intOf]
      · go_round
        case rel => exact ⟨1, by omega, by have := HS.out; omega, rfl⟩
        case measure => simp [intOf]
    · go_wp2
      · go_ret
        exact ⟨ret_int (by have := HS.out; omega), hb⟩
      · go_round
        case rel => exact ⟨2, by omega, by have := HS.out; omega, rfl⟩
        case measure => simp [intOf]
      · go_round
        case rel => exact ⟨2, by omega, by have := HS.out; omega, rfl⟩
        case measure => simp [intOf]
    · go_wp2
      · go_ret
        exact ⟨ret_int (by have := HS.out; omega), hb⟩
      · go_round
        case rel => exact ⟨3, by omega, by have := HS.out; omega, rfl⟩
        case measure => simp [intOf]
      · go_round
        case rel => exact ⟨3, by omega, by have := HS.out; omega, rfl⟩
        case measure => simp [intOf]
    · by_cases hv : r = 45
      · have ht : (r == 45) = true := beq_iff_eq.2 hv
        have HV : Hid (r = 45) := hv
        clear hv
        go_wp2
        go_ret
        exact ⟨ret_int (by have := HS.out; have := HV.out; omega), hb⟩
      · have ht : (r == 45) = false := beq_eq_false_iff_ne.2 hv
        go_wp2
        go_round
        case rel => exact ⟨4, by omega, by have := HS.out; omega, rfl⟩
        case measure => simp [intOf]
    · by_cases hv : r = 32
      · have ht : (r == 32) = true := beq_iff_eq.2 hv
        have HV : Hid (r = 32) := hv
        clear hv
        go_wp2
        go_ret
        exact ⟨ret_int (by have := HS.out; have := HV.out; omega), hb⟩
      · have ht : (r == 32) = false := beq_eq_false_iff_ne.2 hv
        go_wp2
        go_round
        case rel => exact ⟨5, by omega, by have := HS.out; omega, rfl⟩
        case measure => simp [intOf]
    · by_cases hv : r = 44
      · have ht : (r == 44) = true := beq_iff_eq.2 hv
        have HV : Hid (r = 44) := hv
        clear hv
        go_wp2
        go_ret
        exact ⟨ret_int (by have := HS.out; have := HV.out; omega), hb⟩
      · have ht : (r == 44) = false := beq_eq_false_iff_ne.2 hv
        go_wp2
        go_round
        case rel => exact ⟨6, by omega, by have := HS.out; omega, rfl⟩
        case measure => simp [intOf]
    · go_wp2
      · go_ret
        exact ⟨ret_int (by have := HS.out; omega), hb⟩
      · go_round
        case rel => exact ⟨7, by omega, by have := HS.out; omega, rfl⟩
        case measure => simp [intOf]
      · go_round
        case rel => exact ⟨7, by omega, by have := HS.out; omega, rfl⟩
        case measure => simp [intOf]
    · go_wp2
      go_ret
      exact ⟨ret_int (by have := HS.out; omega), hb⟩
end Go.Proofs.YtlmenolcgaakeaaDoor

namespace Go.Proofs.YtlmenolcgaakeaaDoor
open Go.RowKit
open Go.Lib hiding intOf

/-- The bytes of a token. -/
def TokB (n : Int) : Prop := (97 ≤ n ∧ n ≤ 122) ∨ (48 ≤ n ∧ n ≤ 57) ∨ n = 45
def ValB (n : Int) : Prop := 32 ≤ n ∧ n ≤ 126
theorem tok_cls (n : Int) : TokB n ↔ cls n = 1 ∨ cls n = 2 ∨ cls n = 3 := by
  have := cls_spec n; unfold TokB; omega
theorem val_cls (n : Int) : ValB n ↔ cls n ≠ 7 := by
  have := cls_spec n; unfold ValB; omega
theorem tok_small {n : Int} (h : TokB n) : n < 128 := by unfold TokB at h; omega
theorem val_small {n : Int} (h : ValB n) : n < 128 := by unfold ValB at h; omega

/-- A call answers a bool that says whether p, and turns nothing that was there. -/
def BoolIs (p : Prop) (w : World) (e : Ending) (w' : World) : Prop := ∃ b : Bool, e = .returned (.bool b) ∧ (b = true ↔ p) ∧ Below w.heap.size w w'
theorem BoolIs.yes {p : Prop} {w w' : World} (hp : p) (hb : Below w.heap.size w w') : BoolIs p w (.returned (.bool true)) w' := ⟨true, rfl, by simpa using hp, hb⟩
theorem BoolIs.no {p : Prop} {w w' : World} (hp : ¬ p) (hb : Below w.heap.size w w') : BoolIs p w (.returned (.bool false)) w' := ⟨false, rfl, by simpa using hp, hb⟩

/-- Every byte of the text is such a one. -/
def AllB (p : Int → Prop) (s : ByteArray) : Prop := ∀ j (h : j < s.size), p ((s[j]'h).toNat : Int)
/-- Every byte ahead of 'pos' is such a one. -/
def AllTo (p : Int → Prop) (s : ByteArray) (pos : Nat) : Prop := ∀ j (h : j < s.size), j < pos → p ((s[j]'h).toNat : Int)
theorem allTo_zero (p : Int → Prop) (s : ByteArray) : AllTo p s 0 := fun _ _ h => absurd h (by omega)
theorem allTo_end {p : Int → Prop} {s : ByteArray} {pos : Nat} (h : AllTo p s pos) (hp : ¬ pos < s.size) : AllB p s := fun j hj => h j hj (by omega)
theorem allTo_succ {p : Int → Prop} {s : ByteArray} {pos : Nat} (h : AllTo p s pos) (hp : pos < s.size) (hv : p ((s[pos]'hp).toNat : Int)) : AllTo p s (pos + 1) := by
  intro j hj hlt
  by_cases e : j = pos
  · subst e; exact hv
  · exact h j hj (by omega)
/-- A rune that is such a one is a byte of its own. -/
theorem rune_ok {p : Int → Prop} (hs : ∀ n, p n → n < 128) (s : ByteArray) (pos : Nat) (hp : pos < s.size) (h : p ((Utf8.decode s pos).1 : Int)) :
    p ((s[pos]'hp).toNat : Int) ∧ (Utf8.decode s pos).2 = 1 := by
  by_cases ha : (s[pos]'hp).toNat < 128
  · rw [decode_ascii s pos hp ha] at h ⊢
    exact ⟨h, rfl⟩
  · have := (decode_high s pos hp (by omega)).1
    have := hs _ h
    omega
theorem rune_no {p : Int → Prop} (hs : ∀ n, p n → n < 128) (s : ByteArray) (pos : Nat) (hp : pos < s.size) (h : ¬ p ((Utf8.decode s pos).1 : Int)) : ¬ AllB p s := by
  intro ha
  have h1 := ha pos hp
  have h2 := hs _ h1
  rw [decode_ascii s pos hp (by omega)] at h
  exact h h1

/-- Behind a call that only makes memory the iterator stands where it was set. -/
theorem iter_step {w wr w1 : World} {s : ByteArray} {pos p1 : Nat} (hh : wr.heap[w.heap.size]? = some (.stringIter s pos)) (hbw : Below w.heap.size w wr)
    (hb1 : Below (wr.iterAt w.heap.size s p1).heap.size (wr.iterAt w.heap.size s p1) w1) : w1.heap[w.heap.size]? = some (.stringIter s p1) ∧ Below w.heap.size w w1 := by
  have hlt : w.heap.size < wr.heap.size := (Array.getElem?_eq_some_iff.1 hh).1
  refine ⟨?_, ?_⟩
  · rw [hb1.block _ (by rw [iterAt_size]; exact hlt)]
    exact iterAt_heap _ _ _ _ _ hh
  · exact (below_iterAt hbw (Nat.le_refl _) s p1).trans (hb1.mono (by rw [iterAt_size]; omega))

set_option maxHeartbeats 400000 in
theorem isTokenRune_any (r : Int) (w : World) :
    Calls Tryd.prog 111 #[.int .i32 r] w fun e w' => BoolIs (TokB r) w e w' := by
  rw [tok_cls]
  go_enter Tryd.func111, Tryd.ntmps111
  go_wp2_with (go_at_call 52; refine (classOf_any _ _).mono ?_; rintro e w1 ⟨rfl, hb⟩)
  all_goals
    go_ret
    exact ⟨_, rfl, by simp_all, hb⟩

set_option maxHeartbeats 400000 in
theorem isValueRune_any (r : Int) (w : World) :
    Calls Tryd.prog 112 #[.int .i32 r] w fun e w' => BoolIs (ValB r) w e w' := by
  rw [val_cls]
  go_enter Tryd.func112, Tryd.ntmps112
  go_wp2_with (go_at_call 52; refine (classOf_any _ _).mono ?_; rintro e w1 ⟨rfl, hb⟩)
  go_ret
  exact ⟨_, rfl, by simp, hb⟩

set_option maxHeartbeats 1000000 in
theorem allRunes_tok (s : ByteArray) (w : World) :
    Calls Tryd.prog 103 #[.string s, .func (.func 111) #[] #[]] w fun e w' => BoolIs (AllB TokB s) w e w' := by
  go_enter Tryd.func103, Tryd.ntmps103
  go_wp2
  go_loopw [6] (fun _ wr => ∃ pos : Nat, wr.heap[w.heap.size]? = some (.stringIter s pos) ∧ Below w.heap.size w wr ∧ Hid (AllTo TokB s pos)) (fun _ wr => s.size - wr.iterPos w.heap.size)
  case atStart => exact ⟨0, World.iter_heap _ _ _, (Below.refl _ _).alloc (Nat.le_refl _) _, allTo_zero _ _⟩
  case round =>
    obtain ⟨pos, hh, hbw, hall⟩ := hrel
    by_cases hp : pos < s.size
    · have hnx := fun ty => run_next_any_at (P := Tryd.prog) wr w.heap.size s pos ty hh hp
      go_wp2_with (go_at_call 111; refine (isTokenRune_any _ _).mono ?_; rintro e w1 ⟨b, rfl, hbt, hb1⟩)
      · have hbf : b = false := by simpa using ‹(!b) = true›
        have hno : ¬ TokB ((Utf8.decode s pos).1 : Int) := fun h => by rw [hbt.2 h] at hbf; cases hbf
        go_ret
        exact BoolIs.no (rune_no (fun _ => tok_small) s pos hp hno) (iter_step hh hbw hb1).2
      · have hbf : b = true := by simpa using ‹(!b) = false›
        obtain ⟨hv, hone⟩ := rune_ok (fun _ => tok_small) s pos hp (hbt.1 hbf)
        rw [hone] at hb1
        obtain ⟨h1, h2⟩ := iter_step hh hbw hb1
        exact ⟨⟨pos + 1, h1, h2, allTo_succ hall.out hp hv⟩, by rw [iterPos_of h1, iterPos_of hh]; omega⟩
    · have hnx := fun ty => run_next_end_at (P := Tryd.prog) wr w.heap.size s pos ty hh hp
      go_wp2
      go_ret
      exact BoolIs.yes (allTo_end hall.out hp) hbw

set_option maxHeartbeats 1000000 in
theorem allRunes_val (s : ByteArray) (w : World) :
    Calls Tryd.prog 103 #[.string s, .func (.func 112) #[] #[]] w fun e w' => BoolIs (AllB ValB s) w e w' := by
  go_enter Tryd.func103, Tryd.ntmps103
  go_wp2
  go_loopw [6] (fun _ wr => ∃ pos : Nat, wr.heap[w.heap.size]? = some (.stringIter s pos) ∧ Below w.heap.size w wr ∧ Hid (AllTo ValB s pos)) (fun _ wr => s.size - wr.iterPos w.heap.size)
  case atStart => exact ⟨0, World.iter_heap _ _ _, (Below.refl _ _).alloc (Nat.le_refl _) _, allTo_zero _ _⟩
  case round =>
    obtain ⟨pos, hh, hbw, hall⟩ := hrel
    by_cases hp : pos < s.size
    · have hnx := fun ty => run_next_any_at (P := Tryd.prog) wr w.heap.size s pos ty hh hp
      go_wp2_with (go_at_call 112; refine (isValueRune_any _ _).mono ?_; rintro e w1 ⟨b, rfl, hbt, hb1⟩)
      · have hbf : b = false := by simpa using ‹(!b) = true›
        have hno : ¬ ValB ((Utf8.decode s pos).1 : Int) := fun h => by rw [hbt.2 h] at hbf; cases hbf
        go_ret
        exact BoolIs.no (rune_no (fun _ => val_small) s pos hp hno) (iter_step hh hbw hb1).2
      · have hbf : b = true := by simpa using ‹(!b) = false›
        obtain ⟨hv, hone⟩ := rune_ok (fun _ => val_small) s pos hp (hbt.1 hbf)
        rw [hone] at hb1
        obtain ⟨h1, h2⟩ := iter_step hh hbw hb1
        exact ⟨⟨pos + 1, h1, h2, allTo_succ hall.out hp hv⟩, by rw [iterPos_of h1, iterPos_of hh]; omega⟩
    · have hnx := fun ty => run_next_end_at (P := Tryd.prog) wr w.heap.size s pos ty hh hp
      go_wp2
      go_ret
      exact BoolIs.yes (allTo_end hall.out hp) hbw

/-- What the chapter asks of a token. -/
def TokOk (s : ByteArray) : Prop := 1 ≤ s.size ∧ s.size ≤ 20 ∧ AllB TokB s

set_option maxHeartbeats 400000 in
theorem implTokenOk_any (s : ByteArray) (w : World) (hs : s.size ≤ maxLen) :
    Calls Tryd.prog 109 #[.string s] w fun e w' => BoolIs (TokOk s) w e w' := by
  unfold maxLen at hs
  by_cases h1 : (1 : Int) ≤ (s.size : Int)
  · by_cases h2 : (s.size : Int) ≤ 20
    · go_enter Tryd.func109, Tryd.ntmps109
      go_wp2_with (go_at_call 103; refine (allRunes_tok _ _).mono ?_; rintro e w1 ⟨b, rfl, hbt, hb1⟩)
      go_ret
      exact ⟨b, rfl, by unfold TokOk; rw [hbt]; exact ⟨fun h => ⟨by omega, by omega, h⟩, fun h => h.2.2⟩, hb1⟩
    · go_enter Tryd.func109, Tryd.ntmps109
      go_wp2_with fail
      go_ret
      exact BoolIs.no (by unfold TokOk; omega) (Below.refl _ _)
  · go_enter Tryd.func109, Tryd.ntmps109
    go_wp2_with fail
    go_ret
    exact BoolIs.no (by unfold TokOk; omega) (Below.refl _ _)

set_option maxHeartbeats 1000000 in
theorem specTokenOk_any (s : ByteArray) (w : World) (hs : s.size ≤ maxLen) :
    Calls Tryd.prog 38 #[.string s] w fun e w' => BoolIs (TokOk s) w e w' := by
  unfold maxLen at hs
  go_enter Tryd.func38, Tryd.ntmps38
  go_wp2
  go_loop [3] (fun i => ∃ k : Nat, k ≤ s.size ∧ i = .int .i64 k ∧ Hid (AllTo TokB s k)) (fun i => s.size - (intOf i).toNat)
  case atStart => exact ⟨0, Nat.zero_le _, rfl, allTo_zero _ _⟩
  case round =>
    obtain ⟨k, hk, rfl, hall⟩ := hrel
    by_cases hlt : k < s.size
    · go_wp2
      all_goals first
        | (go_ret
           have hno : ¬ TokB ((s[k]'hlt).toNat : Int) := by
             unfold TokB
             try simp only [bne_iff_ne, ne_eq] at *
             omega
           exact BoolIs.no (fun h => hno (h.2.2 k hlt)) (Below.refl _ _))
        | (go_round
           case rel =>
             have hy : TokB ((s[k]'hlt).toNat : Int) := by
               unfold TokB
               try simp only [bne_eq_false_iff_eq] at *
               omega
             exact ⟨k + 1, by omega, by go_num, allTo_succ hall.out hlt hy⟩
           case measure => simp [intOf]; omega)
    · have hend : Hid (AllB TokB s) := allTo_end hall.out hlt
      by_cases h1 : (1 : Int) ≤ (s.size : Int)
      · by_cases h2 : (s.size : Int) ≤ 20
        · go_wp2
          go_ret
          exact BoolIs.yes ⟨by omega, by omega, hend.out⟩ (Below.refl _ _)
        · go_wp2
          go_ret
          exact BoolIs.no (by unfold TokOk; omega) (Below.refl _ _)
      · go_wp2
        go_ret
        exact BoolIs.no (by unfold TokOk; omega) (Below.refl _ _)

end Go.Proofs.YtlmenolcgaakeaaDoor

namespace Go.Proofs
open Go.Shelf
def Tryd.laysM171_ren : Go.Shelf.Ren := ⟨fun | 171 => 35 | 243 => 48 | 246 => 54 | 283 => 58 | 284 => 59 | 285 => 60 | 286 => 61 | 129 => 72 | 317 => 71 | 318 => 73 | 319 => 74 | 320 => 75 | 337 => 80 | 338 => 81 | n => n, fun | 3 => 3 | 9 => 9 | 2 => 2 | 4 => 4 | 171 => 89 | 0 => 0 | 53 => 90 | 37 => 22 | 5 => 5 | 173 => 93 | 212 => 99 | 51 => 100 | 20 => 20 | 213 => 101 | 46 => 82 | 232 => 107 | 233 => 108 | n => n, fun | 17 => 0 | 18 => 2 | 19 => 3 | n => n⟩
theorem Tryd.laysM171 : Go.Proofs.LaysM.n171 Tryd.prog Tryd.laysM171_ren := {
  mixed := by kernel_rfl
  f129 := Tryd.func72.trans (congrArg some (by kernel_rfl))
  f171 := Tryd.func35.trans (congrArg some (by kernel_rfl))
  f243 := Tryd.func48.trans (congrArg some (by kernel_rfl))
  f246 := Tryd.func54.trans (congrArg some (by kernel_rfl))
  f283 := Tryd.func58.trans (congrArg some (by kernel_rfl))
  f284 := Tryd.func59.trans (congrArg some (by kernel_rfl))
  f285 := Tryd.func60.trans (congrArg some (by kernel_rfl))
  f286 := Tryd.func61.trans (congrArg some (by kernel_rfl))
  f317 := Tryd.func71.trans (congrArg some (by kernel_rfl))
  f318 := Tryd.func73.trans (congrArg some (by kernel_rfl))
  f319 := Tryd.func74.trans (congrArg some (by kernel_rfl))
  f320 := Tryd.func75.trans (congrArg some (by kernel_rfl))
  f337 := Tryd.func80.trans (congrArg some (by kernel_rfl))
  f338 := Tryd.func81.trans (congrArg some (by kernel_rfl))
  t0 := Tryd.underlying0
  a0 := Tryd.isAgg0
  z0 := Tryd.sizeOf0
  v0 := Tryd.zeroValue0
  t2 := Tryd.underlying2
  a2 := Tryd.isAgg2
  z2 := Tryd.sizeOf2
  v2 := Tryd.zeroValue2
  t3 := Tryd.underlying3
  a3 := Tryd.isAgg3
  z3 := Tryd.sizeOf3
  v3 := Tryd.zeroValue3
  t4 := Tryd.underlying4
  a4 := Tryd.isAgg4
  z4 := Tryd.sizeOf4
  v4 := Tryd.zeroValue4
  t5 := Tryd.underlying5
  a5 := Tryd.isAgg5
  z5 := Tryd.sizeOf5
  v5 := Tryd.zeroValue5
  t9 := Tryd.underlying9
  a9 := Tryd.isAgg9
  z9 := Tryd.sizeOf9
  v9 := Tryd.zeroValue9
  t20 := Tryd.underlying20
  a20 := Tryd.isAgg20
  z20 := Tryd.sizeOf20
  v20 := Tryd.zeroValue20
  t37 := Tryd.underlying22
  a37 := Tryd.isAgg22
  z37 := Tryd.sizeOf22
  v37 := Tryd.zeroValue22
  t46 := Tryd.underlying82
  a46 := Tryd.isAgg82
  z46 := Tryd.sizeOf82
  v46 := Tryd.zeroValue82
  t51 := Tryd.underlying100
  a51 := Tryd.isAgg100
  z51 := Tryd.sizeOf100
  v51 := Tryd.zeroValue100
  t53 := Tryd.underlying90
  a53 := Tryd.isAgg90
  z53 := Tryd.sizeOf90
  v53 := Tryd.zeroValue90
  t171 := Tryd.underlying89
  a171 := Tryd.isAgg89
  z171 := Tryd.sizeOf89
  v171 := Tryd.zeroValue89
  t173 := Tryd.underlying93
  a173 := Tryd.isAgg93
  z173 := Tryd.sizeOf93
  v173 := Tryd.zeroValue93
  t212 := Tryd.underlying99
  a212 := Tryd.isAgg99
  z212 := Tryd.sizeOf99
  v212 := Tryd.zeroValue99
  t213 := Tryd.underlying101
  a213 := Tryd.isAgg101
  z213 := Tryd.sizeOf101
  t232 := Tryd.underlying107
  a232 := Tryd.isAgg107
  z232 := Tryd.sizeOf107
  v232 := Tryd.zeroValue107
  t233 := Tryd.underlying108
  a233 := Tryd.isAgg108
  z233 := Tryd.sizeOf108
  v233 := Tryd.zeroValue108
  g17 := by kernel_rfl
  g18 := by kernel_rfl
  g19 := by kernel_rfl
  i0 := by kernel_rfl
  i2 := by kernel_rfl
  i3 := by kernel_rfl
  i4 := by kernel_rfl
  i5 := by kernel_rfl
  i9 := by kernel_rfl
  i20 := by kernel_rfl
  i37 := by kernel_rfl
  i46 := by kernel_rfl
  i51 := by kernel_rfl
  i53 := by kernel_rfl
  i171 := by kernel_rfl
  i173 := by kernel_rfl
  i212 := by kernel_rfl
  i232 := by kernel_rfl
  i233 := by kernel_rfl
  m17 := by kernel_rfl
  m18 := by kernel_rfl
  m19 := by kernel_rfl }
open Go.RowKit Go.Sort Go.Lib in
theorem Tryd.strconv_Itoa (n : Int) (h0 : -9223372036854775808 ≤ n) (h1 : n ≤ 9223372036854775807) (w : World) (htab : Lib.TabIs Tryd.prog w "internal/strconv.uint64pow10" .u64 Lib.pow10Tab) :
    Calls Tryd.prog 35 #[.int .i64 n] w fun e w' => e = .returned (.string ⟨(Lib.itoa n).toArray⟩) ∧ ∃ k os, w' = grow (w.drewN k) os := Any.strconv_Itoa Tryd.laysM171 n h0 h1 w htab
def Tryd.laysM316_ren : Go.Shelf.Ren := ⟨fun | 316 => 53 | n => n, fun | 9 => 9 | 3 => 3 | 4 => 4 | 37 => 22 | 0 => 0 | 127 => 88 | 5 => 5 | n => n, fun | n => n⟩
theorem Tryd.laysM316 : Go.Proofs.LaysM.n316 Tryd.prog Tryd.laysM316_ren := {
  mixed := by kernel_rfl
  f316 := Tryd.func53.trans (congrArg some (by kernel_rfl))
  t0 := Tryd.underlying0
  a0 := Tryd.isAgg0
  z0 := Tryd.sizeOf0
  v0 := Tryd.zeroValue0
  t3 := Tryd.underlying3
  a3 := Tryd.isAgg3
  z3 := Tryd.sizeOf3
  v3 := Tryd.zeroValue3
  t4 := Tryd.underlying4
  a4 := Tryd.isAgg4
  z4 := Tryd.sizeOf4
  v4 := Tryd.zeroValue4
  t9 := Tryd.underlying9
  a9 := Tryd.isAgg9
  z9 := Tryd.sizeOf9
  v9 := Tryd.zeroValue9
  t37 := Tryd.underlying22
  a37 := Tryd.isAgg22
  z37 := Tryd.sizeOf22
  v37 := Tryd.zeroValue22
  t127 := Tryd.underlying88
  a127 := Tryd.isAgg88
  z127 := Tryd.sizeOf88
  v127 := Tryd.zeroValue88
  t5 := Tryd.underlying5
  a5 := Tryd.isAgg5
  z5 := Tryd.sizeOf5
  v5 := Tryd.zeroValue5
  i0 := by kernel_rfl
  i3 := by kernel_rfl
  i4 := by kernel_rfl
  i5 := by kernel_rfl
  i9 := by kernel_rfl
  i37 := by kernel_rfl
  i127 := by kernel_rfl }
open Go.RowKit in
theorem Tryd.stringslite_Clone (s : ByteArray) (w : World) (hlim : s.size ≤ 281474976710656) :
    Calls Tryd.prog 53 #[.string s] w fun e w' => e = .returned (.string s) ∧ Below w.heap.size w w' := Any.stringslite_Clone Tryd.laysM316 s w hlim
def Tryd.lays145_ren : Go.Shelf.Ren := ⟨fun | 145 => 51 | 220 => 56 | 219 => 63 | 217 => 76 | 225 => 77 | 224 => 78 | 267 => 79 | 266 => 82 | 314 => 83 | n => n, fun | 9 => 9 | 4 => 4 | 59 => 79 | 3 => 3 | 5 => 5 | 46 => 82 | 146 => 105 | 51 => 100 | n => n, fun | 1 => 1 | n => n⟩
theorem Tryd.lays145 : Go.Proofs.Lays.n145 Tryd.prog Tryd.lays145_ren := {
  mixed := by kernel_rfl
  f145 := Tryd.func51.trans (congrArg some (by kernel_rfl))
  f217 := Tryd.func76.trans (congrArg some (by kernel_rfl))
  f219 := Tryd.func63.trans (congrArg some (by kernel_rfl))
  f220 := Tryd.func56.trans (congrArg some (by kernel_rfl))
  f224 := Tryd.func78.trans (congrArg some (by kernel_rfl))
  f225 := Tryd.func77.trans (congrArg some (by kernel_rfl))
  f266 := Tryd.func82.trans (congrArg some (by kernel_rfl))
  f267 := Tryd.func79.trans (congrArg some (by kernel_rfl))
  f314 := Tryd.func83.trans (congrArg some (by kernel_rfl))
  t3 := Tryd.underlying3
  a3 := Tryd.isAgg3
  z3 := Tryd.sizeOf3
  v3 := Tryd.zeroValue3
  t4 := Tryd.underlying4
  a4 := Tryd.isAgg4
  z4 := Tryd.sizeOf4
  v4 := Tryd.zeroValue4
  t5 := Tryd.underlying5
  a5 := Tryd.isAgg5
  z5 := Tryd.sizeOf5
  v5 := Tryd.zeroValue5
  t9 := Tryd.underlying9
  a9 := Tryd.isAgg9
  z9 := Tryd.sizeOf9
  v9 := Tryd.zeroValue9
  t46 := Tryd.underlying82
  a46 := Tryd.isAgg82
  z46 := Tryd.sizeOf82
  v46 := Tryd.zeroValue82
  t51 := Tryd.underlying100
  a51 := Tryd.isAgg100
  z51 := Tryd.sizeOf100
  v51 := Tryd.zeroValue100
  t59 := Tryd.underlying79
  a59 := Tryd.isAgg79
  z59 := Tryd.sizeOf79
  v59 := Tryd.zeroValue79
  t146 := Tryd.underlying105
  a146 := Tryd.isAgg105
  z146 := Tryd.sizeOf105
  v146 := Tryd.zeroValue105
  g1 := by kernel_rfl }
open Go.RowKit Go.Lib in
theorem Tryd.strings_Cut (s sep : ByteArray) (m : Int) (w : World) (hs : s.size < 4294967281) (hm : w.cell? ⟨1, 0, none⟩ = some (.int .i64 m)) :
    Calls Tryd.prog 51 #[.string s, .string sep] w fun e w' => e = .returned (.tuple #[.string ⟨(Lib.cut s.data.toList sep.data.toList).1.toArray⟩, .string ⟨(Lib.cut s.data.toList sep.data.toList).2.1.toArray⟩, .bool (Lib.cut s.data.toList sep.data.toList).2.2]) ∧ ∃ n, w' = w.drewN n := Any.strings_Cut Tryd.lays145 s sep m w hs hm
def Tryd.laysM145_ren : Go.Shelf.Ren := ⟨fun | 145 => 51 | 220 => 56 | 219 => 63 | 217 => 76 | 225 => 77 | 224 => 78 | 267 => 79 | 266 => 82 | 314 => 83 | n => n, fun | 9 => 9 | 4 => 4 | 59 => 79 | 3 => 3 | 5 => 5 | 46 => 82 | 146 => 105 | 51 => 100 | n => n, fun | 1 => 1 | n => n⟩
theorem Tryd.laysM145 : Go.Proofs.LaysM.n145 Tryd.prog Tryd.laysM145_ren := {
  mixed := by kernel_rfl
  f145 := Tryd.func51.trans (congrArg some (by kernel_rfl))
  f217 := Tryd.func76.trans (congrArg some (by kernel_rfl))
  f219 := Tryd.func63.trans (congrArg some (by kernel_rfl))
  f220 := Tryd.func56.trans (congrArg some (by kernel_rfl))
  f224 := Tryd.func78.trans (congrArg some (by kernel_rfl))
  f225 := Tryd.func77.trans (congrArg some (by kernel_rfl))
  f266 := Tryd.func82.trans (congrArg some (by kernel_rfl))
  f267 := Tryd.func79.trans (congrArg some (by kernel_rfl))
  f314 := Tryd.func83.trans (congrArg some (by kernel_rfl))
  t3 := Tryd.underlying3
  a3 := Tryd.isAgg3
  z3 := Tryd.sizeOf3
  v3 := Tryd.zeroValue3
  t4 := Tryd.underlying4
  a4 := Tryd.isAgg4
  z4 := Tryd.sizeOf4
  v4 := Tryd.zeroValue4
  t5 := Tryd.underlying5
  a5 := Tryd.isAgg5
  z5 := Tryd.sizeOf5
  v5 := Tryd.zeroValue5
  t9 := Tryd.underlying9
  a9 := Tryd.isAgg9
  z9 := Tryd.sizeOf9
  v9 := Tryd.zeroValue9
  t46 := Tryd.underlying82
  a46 := Tryd.isAgg82
  z46 := Tryd.sizeOf82
  v46 := Tryd.zeroValue82
  t51 := Tryd.underlying100
  a51 := Tryd.isAgg100
  z51 := Tryd.sizeOf100
  v51 := Tryd.zeroValue100
  t59 := Tryd.underlying79
  a59 := Tryd.isAgg79
  z59 := Tryd.sizeOf79
  v59 := Tryd.zeroValue79
  t146 := Tryd.underlying105
  a146 := Tryd.isAgg105
  z146 := Tryd.sizeOf105
  v146 := Tryd.zeroValue105
  g1 := by kernel_rfl
  i3 := by kernel_rfl
  i4 := by kernel_rfl
  i5 := by kernel_rfl
  i9 := by kernel_rfl
  i46 := by kernel_rfl
  i51 := by kernel_rfl
  i59 := by kernel_rfl
  i146 := by kernel_rfl
  m1 := by kernel_rfl
  s1_3 := fun w h => Go.Proofs.cell_of_shapedOpen_int (zero := #[.int .i64 0]) (t := 3) h (of_decide_eq_true (by kernel_rfl)) (by kernel_rfl) rfl (by kernel_rfl) (by kernel_rfl) Tryd.underlying3 }
def Tryd.lays101_ren : Go.Shelf.Ren := ⟨fun | 101 => 50 | 208 => 55 | 206 => 62 | n => n, fun | 9 => 9 | 4 => 4 | 3 => 3 | n => n, fun | n => n⟩
theorem Tryd.lays101 : Go.Proofs.Lays.n101 Tryd.prog Tryd.lays101_ren := {
  mixed := by kernel_rfl
  f101 := Tryd.func50.trans (congrArg some (by kernel_rfl))
  f206 := Tryd.func62.trans (congrArg some (by kernel_rfl))
  f208 := Tryd.func55.trans (congrArg some (by kernel_rfl))
  t3 := Tryd.underlying3
  a3 := Tryd.isAgg3
  z3 := Tryd.sizeOf3
  v3 := Tryd.zeroValue3
  t4 := Tryd.underlying4
  a4 := Tryd.isAgg4
  z4 := Tryd.sizeOf4
  v4 := Tryd.zeroValue4
  t9 := Tryd.underlying9
  a9 := Tryd.isAgg9
  z9 := Tryd.sizeOf9
  v9 := Tryd.zeroValue9 }
open Go.RowKit Go.Lib in
theorem Tryd.strings_TrimPrefix (s p : ByteArray) (w : World) :
    Calls Tryd.prog 50 #[.string s, .string p] w fun e w' => e = .returned (.string ⟨(Lib.trimPrefix s.data.toList p.data.toList).toArray⟩) ∧ w' = w := Any.strings_TrimPrefix Tryd.lays101 s p w
end Go.Proofs

namespace Go.Proofs.YtlmenolcgaakeaaDoor
open Go.RowKit

set_option maxHeartbeats 400000 in
theorem clone_any (s : ByteArray) (w : World) (hlim : s.size ≤ 281474976710656) :
    Calls Tryd.prog 44 #[.string s] w fun e w' => e = .returned (.string s) ∧ Below w.heap.size w w' := by
  go_enter Tryd.func44, Tryd.ntmps44
  go_wp2_with (go_at_call 53; refine (Tryd.stringslite_Clone _ _ hlim).mono ?_; rintro e w1 ⟨rfl, hb1⟩)
  go_ret
  exact ⟨rfl, hb1⟩

end Go.Proofs.YtlmenolcgaakeaaDoor

namespace Go.Proofs.YtlmenolcgaakeaaDoor

/-- The list without the blanks that it begins with. -/
def dropB : List UInt8 → List UInt8
  | [] => []
  | b :: r => if b.toNat = 32 then dropB r else b :: r
/-- .. and without those that it ends with. -/
def trimL (l : List UInt8) : List UInt8 := (dropB (dropB l).reverse).reverse
def trimOf (s : ByteArray) : ByteArray := ⟨(trimL s.data.toList).toArray⟩

theorem dropB_blanks : ∀ (x y : List UInt8), (∀ b ∈ x, b.toNat = 32) → dropB (x ++ y) = dropB y
  | [], _, _ => rfl
  | b :: r, y, h => by
    rw [List.cons_append, dropB, if_pos (h b (by simp))]
    exact dropB_blanks r y (fun c hc => h c (by simp [hc]))
theorem dropB_first (b : UInt8) (r : List UInt8) (h : b.toNat ≠ 32) : dropB (b :: r) = b :: r := by rw [dropB, if_neg h]

/-- From a on, up to b: what is left of s without its outer blanks. -/
structure IsTrim (s : ByteArray) (a b : Nat) : Prop where
  le : a ≤ b
  size : b ≤ s.size
  lead : ∀ j (h : j < s.size), j < a → (s[j]'h).toNat = 32
  tail : ∀ j (h : j < s.size), b ≤ j → (s[j]'h).toNat = 32
  first : ∀ h : a < s.size, a < b → (s[a]'h).toNat ≠ 32
  last : ∀ h : b - 1 < s.size, a < b → (s[b - 1]'h).toNat ≠ 32

theorem list_cut (l : List UInt8) (a b : Nat) (h : a ≤ b) : l = l.take a ++ ((l.take b).drop a ++ l.drop b) := by
  have h1 : (l.take b).take a = l.take a := by rw [List.take_take, Nat.min_eq_left h]
  have h2 : l.take b = l.take a ++ (l.take b).drop a := by
    have := (List.take_append_drop a (l.take b)).symm
    rw [h1] at this
    exact this
  have h3 := (List.take_append_drop b l).symm
  rw [h2, List.append_assoc] at h3
  exact h3

theorem trimL_mid (x y z : List UInt8) (hx : ∀ b ∈ x, b.toNat = 32) (hz : ∀ b ∈ z, b.toNat = 32) (h0 : ∀ b, y.head? = some b → b.toNat ≠ 32) (h1 : ∀ b, y.getLast? = some b → b.toNat ≠ 32) : trimL (x ++ (y ++ z)) = y := by
  unfold trimL
  rw [dropB_blanks x _ hx]
  cases y with
  | nil =>
    have : dropB ([] ++ z) = [] := by
      have := dropB_blanks z [] hz
      simpa [dropB] using this
    rw [this]; rfl
  | cons b r =>
    rw [List.cons_append, dropB_first b _ (h0 b rfl), ← List.cons_append, List.reverse_append, dropB_blanks _ _ (fun c hc => hz c (by simpa using hc))]
    cases hl : (b :: r).reverse with
    | nil => simp at hl
    | cons c q =>
      have hc : (b :: r).getLast? = some c := by rw [List.getLast?_eq_head?_reverse, hl]; rfl
      rw [dropB_first c q (h1 c hc), ← hl, List.reverse_reverse]

theorem byte_get (s : ByteArray) (j : Nat) (h : j < s.size) : s.data.toList[j]? = some (s[j]'h) := by
  rw [List.getElem?_eq_getElem (by simpa using h)]
  rfl

theorem trim_eq {s : ByteArray} {a b : Nat} (h : IsTrim s a b) : s.extract a b = trimOf s := by
  have hlen : s.data.toList.length = s.size := by simp
  have hext : (s.extract a b).data.toList = (s.data.toList.take b).drop a := by
    rw [ByteArray.data_extract, Array.toList_extract]
    simp [List.extract, List.drop_take]
  have hcut := list_cut s.data.toList a b h.le
  have hm := trimL_mid (s.data.toList.take a) ((s.data.toList.take b).drop a) (s.data.toList.drop b)
    (fun x hx => by
      obtain ⟨j, hj, rfl⟩ := List.getElem_of_mem hx
      have hj' : j < a ∧ j < s.size := by rw [List.length_take, hlen] at hj; omega
      have := h.lead j hj'.2 hj'.1
      rw [List.getElem_take]; exact this)
    (fun x hx => by
      obtain ⟨j, hj, rfl⟩ := List.getElem_of_mem hx
      have hj' : b + j < s.size := by rw [List.length_drop, hlen] at hj; omega
      have := h.tail (b + j) hj' (by omega)
      rw [List.getElem_drop]; exact this)
    (fun x hx => by
      rw [List.head?_eq_getElem?, List.getElem?_drop, List.getElem?_take] at hx
      split at hx
      · rename_i hlt
        have ha : a < s.size := by have := h.size; omega
        rw [Nat.add_zero, byte_get s a ha] at hx
        cases hx
        exact h.first ha (by omega)
      · cases hx)
    (fun x hx => by
      rw [List.getLast?_eq_getElem?, List.getElem?_drop, List.getElem?_take, List.length_drop, List.length_take, hlen] at hx
      have hsz := h.size; have hle := h.le
      rw [Nat.min_eq_left hsz] at hx
      split at hx
      · rename_i hlt
        have e : a + (b - a - 1) = b - 1 := by omega
        have hb : b - 1 < s.size := by omega
        rw [e, byte_get s (b - 1) hb] at hx
        cases hx
        exact h.last hb (by omega)
      · cases hx)
  rw [← hcut] at hm
  apply ByteArray.ext
  unfold trimOf
  rw [hm, ← hext]

/-- A text that begins and ends with no blank is trimmed already. -/
theorem trimOf_self {s : ByteArray} (h0 : ∀ h : 0 < s.size, (s[0]'h).toNat ≠ 32) (h1 : ∀ h : s.size - 1 < s.size, (s[s.size - 1]'h).toNat ≠ 32) : trimOf s = s := by
  rw [← trim_eq (s := s) (a := 0) (b := s.size) ⟨Nat.zero_le _, Nat.le_refl _, fun _ _ h => absurd h (by omega), fun _ h h' => absurd h (by omega), fun h _ => h0 h, fun h _ => h1 h⟩]
  apply ByteArray.ext
  simp

end Go.Proofs.YtlmenolcgaakeaaDoor

namespace Go.Proofs.YtlmenolcgaakeaaDoor
open Go.RowKit
open Go.Lib hiding intOf

/-- A call answers this text, and turns nothing that was there. -/
def TextIs (t : ByteArray) (w : World) (e : Ending) (w' : World) : Prop := e = .returned (.string t) ∧ Below w.heap.size w w'
theorem TextIs.of {t u : ByteArray} {w w' : World} (h : u = t) (hb : Below w.heap.size w w') : TextIs t w (.returned (.string u)) w' := ⟨by rw [h], hb⟩

set_option maxHeartbeats 1000000 in
theorem specTrim_any (s : ByteArray) (w : World) (hs : s.size ≤ maxLen) :
    Calls Tryd.prog 49 #[.string s] w fun e w' => TextIs (trimOf s) w e w' := by
  unfold maxLen at hs
  go_enter Tryd.func49, Tryd.ntmps49
  go_wp2
  go_loop [3] (fun i => ∃ k : Nat, k ≤ s.size ∧ i = .int .i64 k ∧ Hid (∀ j (h : j < s.size), j < k → (s[j]'h).toNat = 32)) (fun i => s.size - (intOf i).toNat)
  case atStart => exact ⟨0, Nat.zero_le _, rfl, fun _ _ h => absurd h (by omega)⟩
  case round =>
    obtain ⟨k, hk, rfl, hlead⟩ := hrel
    by_cases hlt : k < s.size
    · by_cases hb : (s[k]'hlt).toNat = 32
      · have ht2 : (((s[k]'hlt).toNat : Int) == 32) = true := by simp [hb]
        have HB : Hid ((s[k]'hlt).toNat = 32) := hb
        clear hb
        go_wp2
        go_round
        case rel =>
          refine ⟨k + 1, by omega, by go_num, ?_⟩
          intro j h hj
          by_cases e : j = k
          · subst e; exact HB.out
          · exact hlead.out j h (by omega)
        case measure => simp [intOf]; omega
      · have ht2 : (((s[k]'hlt).toNat : Int) == 32) = false := by
          rw [beq_eq_false_iff_ne]; omega
        have hfst : Hid ((s[k]'hlt).toNat ≠ 32) := hb
        clear hb
        go_wp2
        go_loop [4] (fun t => ∃ m : Nat, k ≤ m ∧ m < s.size ∧ t = .int .i64 ((m : Int) + 1) ∧ Hid (∀ j (h : j < s.size), m + 1 ≤ j → (s[j]'h).toNat = 32)) (fun t => (intOf t).toNat)
        case atStart => exact ⟨s.size - 1, by omega, by omega, by go_num, fun j h hj => absurd h (by omega)⟩
        case round =>
          obtain ⟨m, hkm, hms, rfl, htl⟩ := hrel
          have hc1 : (k : Int) < (m : Int) + 1 := by omega
          by_cases hb : (s[m]'hms).toNat = 32
          · have ht2 : (((s[m]'hms).toNat : Int) == 32) = true := by simp [hb]
            have hkm2 : k < m := by
              rcases Nat.lt_or_ge k m with h | h
              · exact h
              · exfalso
                have e : m = k := by omega
                subst e
                exact hfst.out hb
            have HB : Hid ((s[m]'hms).toNat = 32) := hb
            clear hb
            go_wp2
            go_round
            case rel =>
              refine ⟨m - 1, by omega, by omega, by go_num, ?_⟩
              intro j h hj
              by_cases e : j = m
              · subst e; exact HB.out
              · exact htl.out j h (by omega)
            case measure => simp [intOf]
          · have ht2 : (((s[m]'hms).toNat : Int) == 32) = false := by
              rw [beq_eq_false_iff_ne]; omega
            have hT : Hid (s.extract k (m + 1) = trimOf s) := trim_eq ⟨by omega, by omega, fun j h hj => hlead.out j h hj, fun j h hj => htl.out j h (by omega), fun _ _ => hfst.out, fun _ _ => hb⟩
            clear hb
            go_wp2
            go_ret
            exact TextIs.of hT.out (Below.refl _ _)
    · have hT : Hid (ByteArray.empty = trimOf s) := (show ByteArray.empty = s.extract s.size s.size by simp).trans (trim_eq ⟨Nat.le_refl _, Nat.le_refl _, fun j h _ => hlead.out j h (by omega), fun j h hj => absurd h (by omega), fun h => absurd h (by omega), fun _ h => absurd h (by omega)⟩)
      obtain rfl : k = s.size := by omega
      go_wp2
      go_loop [4] (fun t => t = .int .i64 (s.size : Int)) (fun t => (intOf t).toNat)
      case atStart => exact rfl
      case round =>
        subst hrel
        go_wp2
        go_ret
        exact TextIs.of hT.out (Below.refl _ _)

end Go.Proofs.YtlmenolcgaakeaaDoor

namespace Go.Proofs.YtlmenolcgaakeaaDoor
open Go.RowKit
open Go.Lib hiding intOf

/-- What the chapter asks of a value. -/
def ValOk (s : ByteArray) : Prop := 1 ≤ s.size ∧ s.size ≤ 60 ∧ AllB ValB s ∧ trimOf s = s
/-- A text of at least one byte is trimmed already just where its first and its last byte are no blanks. -/
theorem trim_self_iff (s : ByteArray) (h1 : 1 ≤ s.size) : trimOf s = s ↔ ((s[0]'(by omega)).toNat ≠ 32 ∧ (s[s.size - 1]'(by omega)).toNat ≠ 32) := by
  constructor
  · intro h
    have hl : trimL s.data.toList = s.data.toList := by
      have := congrArg (fun x : ByteArray => x.data.toList) h
      simpa [trimOf] using this
    have hlen : s.data.toList.length = s.size := by simp
    have key : ∀ l : List UInt8, (dropB l).length ≤ l.length ∧ ((dropB l).length = l.length → ∀ b, l.head? = some b → b.toNat ≠ 32) := by
      intro l
      induction l with
      | nil => simp [dropB]
      | cons b r ih =>
        rw [dropB]
        split
        · refine ⟨by simp; omega, fun h => ?_⟩
          simp at h; omega
        · rename_i hb
          refine ⟨by simp, fun _ c hc => ?_⟩
          simp at hc; subst hc; exact hb
    have k1 := key s.data.toList
    have k2 := key (dropB s.data.toList).reverse
    have hL : (dropB (dropB s.data.toList).reverse).length = s.data.toList.length := by
      have := congrArg List.length hl
      simpa [trimL] using this
    rw [List.length_reverse] at k2
    have e1 : (dropB s.data.toList).length = s.data.toList.length := by omega
    have e2 : (dropB (dropB s.data.toList).reverse).length = (dropB s.data.toList).length := by omega
    have hd : dropB s.data.toList = s.data.toList := by
      cases hc : s.data.toList with
      | nil => rfl
      | cons b r =>
        have := k1.2 e1 b (by rw [hc]; rfl)
        exact dropB_first b r this
    refine ⟨?_, ?_⟩
    · apply k1.2 e1
      rw [List.head?_eq_getElem?, byte_get s 0 (by omega)]
    · apply k2.2 e2
      rw [hd, ← List.getLast?_eq_head?_reverse, List.getLast?_eq_getElem?, hlen, byte_get s (s.size - 1) (by omega)]
  · rintro ⟨h0, h2⟩
    exact trimOf_self (fun _ => h0) (fun _ => h2)

theorem text_beq (a b : ByteArray) : (a.toList == b.toList) = true ↔ a = b := by
  rw [beq_iff_eq, ByteArray.toList_eq, ByteArray.toList_eq]
  exact ⟨fun h => ByteArray.ext (Array.toList_inj.1 h), fun h => by rw [h]⟩

set_option maxHeartbeats 1000000 in
theorem implValueOk_any (s : ByteArray) (w : World) (hs : s.size ≤ maxLen) :
    Calls Tryd.prog 110 #[.string s] w fun e w' => BoolIs (ValOk s) w e w' := by
  unfold maxLen at hs
  by_cases h1 : (s.size : Int) < 1
  · go_enter Tryd.func110, Tryd.ntmps110
    go_wp2_with fail
    go_ret
    exact BoolIs.no (by unfold ValOk; omega) (Below.refl _ _)
  · by_cases h2 : (60 : Int) < (s.size : Int)
    · go_enter Tryd.func110, Tryd.ntmps110
      go_wp2_with fail
      go_ret
      exact BoolIs.no (by unfold ValOk; omega) (Below.refl _ _)
    · have hti : Hid _ := trim_self_iff s (by omega)
      have hp0 : 0 < s.size := by omega
      by_cases hb : (s[0]'hp0).toNat = 32
      · have ht : (((s[0]'hp0).toNat : Int) == 32) = true := by simp [hb]
        have HB : Hid ((s[0]'hp0).toNat = 32) := hb
        clear hb
        go_enter Tryd.func110, Tryd.ntmps110
        go_wp2_with fail
        go_ret
        exact BoolIs.no (fun h => (hti.out.1 h.2.2.2).1 HB.out) (Below.refl _ _)
      · have ht : (((s[0]'hp0).toNat : Int) == 32) = false := by
          rw [beq_eq_false_iff_ne]; omega
        obtain ⟨m, hm⟩ : ∃ m, s.size = m + 1 := ⟨s.size - 1, by omega⟩
        have hms : m < s.size := by omega
        have hme : Hid (s.size - 1 = m) := by show s.size - 1 = m; omega
        have hH0 : Hid (¬ (s[0]'hp0).toNat = 32) := hb
        clear hb
        have hm2 : (s.size : Int) - 1 = (m : Int) := by omega
        by_cases hl : (s[m]'hms).toNat = 32
        · have hN : Hid (¬ ValOk s) := by
            intro h
            have h3 := (hti.out.1 h.2.2.2).2
            simp only [hme.out] at h3
            exact h3 hl
          have ht2 : (((s[m]'hms).toNat : Int) == 32) = true := by simp [hl]
          clear hl hm
          go_enter Tryd.func110, Tryd.ntmps110
          go_wp2_with fail
          go_ret
          exact BoolIs.no hN.out (Below.refl _ _)
        · have hY : Hid (AllB ValB s → ValOk s) := by
            intro h
            refine ⟨by omega, by omega, h, hti.out.2 ⟨hH0.out, ?_⟩⟩
            simp only [hme.out]
            exact hl
          have ht2 : (((s[m]'hms).toNat : Int) == 32) = false := by
            rw [beq_eq_false_iff_ne]; omega
          clear hl hm
          go_enter Tryd.func110, Tryd.ntmps110
          go_wp2_with (go_at_call 103; refine (allRunes_val _ _).mono ?_; rintro e w1 ⟨b, rfl, hbt, hb1⟩)
          go_ret
          exact ⟨b, rfl, hbt.trans ⟨hY.out, fun h => h.2.2.1⟩, hb1⟩

set_option maxHeartbeats 1000000 in
theorem specValueOk_any (s : ByteArray) (w : World) (hs : s.size ≤ maxLen) :
    Calls Tryd.prog 39 #[.string s] w fun e w' => BoolIs (ValOk s) w e w' := by
  have hs0 := hs
  unfold maxLen at hs
  go_enter Tryd.func39, Tryd.ntmps39
  go_wp2
  go_loop [3] (fun i => ∃ k : Nat, k ≤ s.size ∧ i = .int .i64 k ∧ Hid (AllTo ValB s k)) (fun i => s.size - (intOf i).toNat)
  case atStart => exact ⟨0, Nat.zero_le _, rfl, allTo_zero _ _⟩
  case round =>
    obtain ⟨k, hk, rfl, hall⟩ := hrel
    by_cases hlt : k < s.size
    · go_wp2
      all_goals first
        | (go_ret
           have hno : ¬ ValB ((s[k]'hlt).toNat : Int) := by
             unfold ValB
             omega
           exact BoolIs.no (fun h => hno (h.2.2.1 k hlt)) (Below.refl _ _))
        | (go_round
           case rel =>
             have hy : ValB ((s[k]'hlt).toNat : Int) := by
               unfold ValB
               omega
             exact ⟨k + 1, by omega, by go_num, allTo_succ hall.out hlt hy⟩
           case measure => simp [intOf]; omega)
    · have hend : Hid (AllB ValB s) := allTo_end hall.out hlt
      by_cases h1 : (1 : Int) ≤ (s.size : Int)
      · by_cases h2 : (s.size : Int) ≤ 60
        · go_wp2_with (first | (go_at_call 49; refine (specTrim_any _ _ hs0).mono ?_; rintro e w2 ⟨rfl, hb2⟩) | go_in)
          go_ret
          refine ⟨_, rfl, ?_, hb2⟩
          rw [text_beq]
          exact ⟨fun h => ⟨by omega, by omega, hend.out, h⟩, fun h => h.2.2.2⟩
        · go_wp2_with go_in
          go_ret
          exact BoolIs.no (by unfold ValOk; omega) (Below.refl _ _)
      · go_wp2_with go_in
        go_ret
        exact BoolIs.no (by unfold ValOk; omega) (Below.refl _ _)

end Go.Proofs.YtlmenolcgaakeaaDoor

namespace Go.Proofs.YtlmenolcgaakeaaDoor

def DigB (b : UInt8) : Prop := 48 ≤ b.toNat ∧ b.toNat ≤ 57
/-- The number that a row of digits is. -/
def valL (l : List UInt8) : Nat := l.foldl (fun v b => 10 * v + (b.toNat - 48)) 0
theorem valL_snoc (l : List UInt8) (b : UInt8) : valL (l ++ [b]) = 10 * valL l + (b.toNat - 48) := by simp [valL]
/-- The digits of a number that is not 0; none of 0. -/
def dgF : Nat → Nat → List UInt8
  | 0, _ => []
  | f + 1, n => if n = 0 then [] else dgF f (n / 10) ++ [UInt8.ofNat (48 + n % 10)]
theorem dgF_zero (f : Nat) : dgF f 0 = [] := by cases f <;> simp [dgF]
theorem dgF_pos (f n : Nat) (h : n ≠ 0) : dgF (f + 1) n = dgF f (n / 10) ++ [UInt8.ofNat (48 + n % 10)] := by simp [dgF, h]

theorem ofNat_digit (n : Nat) : (UInt8.ofNat (48 + n % 10)).toNat = 48 + n % 10 := by
  simp; omega

theorem list_snoc : ∀ l : List UInt8, l = [] ∨ ∃ r b, l = r ++ [b]
  | [] => .inl rfl
  | a :: t => by
    rcases list_snoc t with rfl | ⟨r, b, rfl⟩
    · exact .inr ⟨[], a, rfl⟩
    · exact .inr ⟨a :: r, b, rfl⟩

theorem head_snoc (r : List UInt8) (b c : UInt8) (hr : r ≠ []) : (r ++ [b]).head? = some c ↔ r.head? = some c := by
  cases r with
  | nil => exact absurd rfl hr
  | cons a t => simp

/-- A row of digits with no nought ahead is greater than any power of ten below its length. -/
theorem val_ge (l : List UInt8) : (∀ b ∈ l, DigB b) → (∀ b, l.head? = some b → b.toNat ≠ 48) → l ≠ [] → 10 ^ (l.length - 1) ≤ valL l := by
  suffices H : ∀ n (l : List UInt8), l.length = n → (∀ b ∈ l, DigB b) → (∀ b, l.head? = some b → b.toNat ≠ 48) → l ≠ [] → 10 ^ (l.length - 1) ≤ valL l from H _ l rfl
  intro n
  induction n with
  | zero => intro l hl _ _ hne; exact absurd (List.length_eq_zero_iff.1 hl) hne
  | succ n ih =>
    intro l hl hd hh hne
    rcases list_snoc l with rfl | ⟨r, b, rfl⟩
    · exact absurd rfl hne
    · rw [valL_snoc]
      by_cases hr : r = []
      · subst hr
        have h1 := hd b (by simp)
        have h2 := hh b rfl
        simp [valL]; unfold DigB at h1; omega
      · have hlen : r.length = n := by simpa using hl
        have h3 := ih r hlen (fun c hc => hd c (by simp [hc])) (fun c hc => hh c ((head_snoc r b c hr).2 hc)) hr
        have hpos : 1 ≤ r.length := by cases r with | nil => exact absurd rfl hr | cons _ _ => simp
        have e : (r ++ [b]).length - 1 = (r.length - 1) + 1 := by simp; omega
        rw [e, Nat.pow_succ]
        omega

/-- The digits of the number that a row of digits is, with no nought ahead, are that row. -/
theorem dg_val : ∀ (f : Nat) (l : List UInt8), (∀ b ∈ l, DigB b) → (∀ b, l.head? = some b → b.toNat ≠ 48) → l.length ≤ f → dgF f (valL l) = l := by
  intro f
  induction f with
  | zero => intro l _ _ hl; rw [List.length_eq_zero_iff.1 (by omega : l.length = 0)]; rfl
  | succ f ih =>
    intro l hd hh hl
    rcases list_snoc l with rfl | ⟨r, b, rfl⟩
    · exact dgF_zero _
    · have hb := hd b (by simp)
      unfold DigB at hb
      have hpos : valL (r ++ [b]) ≠ 0 := by
        have := val_ge (r ++ [b]) hd hh (by simp)
        have : 0 < 10 ^ ((r ++ [b]).length - 1) := Nat.pow_pos (by omega)
        omega
      rw [dgF_pos f _ hpos, valL_snoc]
      have e1 : (10 * valL r + (b.toNat - 48)) / 10 = valL r := by omega
      have e2 : (10 * valL r + (b.toNat - 48)) % 10 = b.toNat - 48 := by omega
      rw [e1, e2]
      have e3 : UInt8.ofNat (48 + (b.toNat - 48)) = b := by
        rw [show 48 + (b.toNat - 48) = b.toNat by omega]; simp
      rw [e3]
      by_cases hr : r = []
      · subst hr; simp [valL, dgF_zero]
      · rw [ih r (fun c hc => hd c (by simp [hc])) (fun c hc => hh c ((head_snoc r b c hr).2 hc)) (by simp at hl; omega)]

/-- The digits of a number begin with no nought, and are that number. -/
theorem dg_facts : ∀ (f n : Nat), n < 10 ^ f → (∀ b, (dgF f n).head? = some b → b.toNat ≠ 48) ∧ valL (dgF f n) = n ∧ (∀ b ∈ dgF f n, DigB b) := by
  intro f
  induction f with
  | zero => intro n h; simp at h; subst h; simp [dgF, valL]
  | succ f ih =>
    intro n h
    by_cases h0 : n = 0
    · subst h0; rw [dgF_zero]; simp [valL]
    · rw [dgF_pos f n h0]
      rw [Nat.pow_succ] at h
      obtain ⟨i1, i2, i3⟩ := ih (n / 10) (by omega)
      refine ⟨?_, ?_, ?_⟩
      · intro b hb
        by_cases hr : dgF f (n / 10) = []
        · rw [hr] at hb
          simp only [List.nil_append, List.head?_cons, Option.some.injEq] at hb
          rw [← hb, ofNat_digit]
          have : n / 10 = 0 := by rw [hr] at i2; simpa [valL] using i2.symm
          omega
        · exact i1 b ((head_snoc _ _ b hr).1 hb)
      · rw [valL_snoc, i2, ofNat_digit]; omega
      · intro b hb
        rcases List.mem_append.1 hb with h | h
        · exact i3 b h
        · simp only [List.mem_singleton] at h
          unfold DigB
          rw [h, ofNat_digit]; omega

/-- The text of a number from 0 to 1000000; the empty text of others. -/
def numL (n : Nat) : List UInt8 := if 1000000 < n then [] else if n = 0 then [48] else dgF 8 n
def numText (n : Nat) : ByteArray := ⟨(numL n).toArray⟩

/-- A text that is a number from 0 to 1000000 in digits without needless noughts. -/
def NumOk (s : ByteArray) : Prop := 1 ≤ s.size ∧ (∀ b ∈ s.data.toList, DigB b) ∧ (1 < s.size → ∀ h : 0 < s.size, (s[0]'h).toNat ≠ 48) ∧ valL s.data.toList ≤ 1000000

theorem head_byte (s : ByteArray) (h : 0 < s.size) : s.data.toList.head? = some (s[0]'h) := by
  rw [List.head?_eq_getElem?, byte_get s 0 h]

theorem num_iff (s : ByteArray) (h1 : 1 ≤ s.size) (h7 : s.size ≤ 7) (hd : ∀ b ∈ s.data.toList, DigB b) : numText (valL s.data.toList) = s ↔ NumOk s := by
  have hlen : s.data.toList.length = s.size := by simp
  have hto : numText (valL s.data.toList) = s ↔ numL (valL s.data.toList) = s.data.toList := by
    constructor
    · intro h
      have := congrArg (fun x : ByteArray => x.data.toList) h
      simpa [numText] using this
    · intro h
      apply ByteArray.ext
      show (numL _).toArray = _
      rw [h]
  rw [hto]
  have hne : s.data.toList ≠ [] := by
    intro e; rw [e] at hlen; simp at hlen; omega
  constructor
  · intro h
    unfold numL at h
    split at h
    · exact absurd h.symm hne
    · rename_i hle
      refine ⟨h1, hd, ?_, by omega⟩
      intro hs hp
      split at h
      · rw [← h] at hlen; simp at hlen; omega
      · rename_i h0
        have hf := (dg_facts 8 (valL s.data.toList) (by omega)).1
        apply hf
        rw [h, head_byte s hp]
  · rintro ⟨_, _, hz, hv⟩
    unfold numL
    rw [if_neg (by omega)]
    by_cases hh : ∀ b, s.data.toList.head? = some b → b.toNat ≠ 48
    · have hg := val_ge s.data.toList hd hh hne
      have hpos : 0 < 10 ^ (s.data.toList.length - 1) := Nat.pow_pos (by omega)
      rw [if_neg (by omega)]
      exact dg_val 8 _ hd hh (by omega)
    · have hp : 0 < s.size := by omega
      have h48 : (s[0]'hp).toNat = 48 := by
        rcases Decidable.em ((s[0]'hp).toNat = 48) with h | h
        · exact h
        · exfalso; apply hh
          intro b hb
          rw [head_byte s hp] at hb
          cases hb; exact h
      have hsz : s.size = 1 := by
        rcases Nat.lt_or_ge 1 s.size with h | h
        · exact absurd h48 (hz h hp)
        · omega
      have hl : s.data.toList = [s[0]'hp] := by
        cases hc : s.data.toList with
        | nil => exact absurd hc hne
        | cons a t =>
          have ht : t = [] := by
            rw [hc] at hlen; simp at hlen; exact List.length_eq_zero_iff.1 (by omega)
          have ha : some a = some (s[0]'hp) := by rw [← head_byte s hp, hc]; rfl
          rw [ht, Option.some.inj ha]
      have he : s[0]'hp = 48 := by
        apply UInt8.toNat_inj.1; rw [h48]; rfl
      rw [hl, he]; rfl

/-- The value of the first k bytes. -/
def valTo (s : ByteArray) (k : Nat) : Nat := valL (s.data.toList.take k)
theorem valTo_succ (s : ByteArray) (k : Nat) (h : k < s.size) : valTo s (k + 1) = 10 * valTo s k + ((s[k]'h).toNat - 48) := by
  unfold valTo
  have : s.data.toList.take (k + 1) = s.data.toList.take k ++ [s[k]'h] := by
    rw [List.take_succ_eq_append_getElem (by simpa using h)]; rfl
  rw [this, valL_snoc]
theorem valTo_end (s : ByteArray) (k : Nat) (h : ¬ k < s.size) : valTo s k = valL s.data.toList := by
  unfold valTo; rw [List.take_of_length_le (by simp; omega)]
theorem valTo_lt (s : ByteArray) : ∀ k, k ≤ s.size → (∀ j (h : j < s.size), j < k → DigB (s[j]'h)) → valTo s k < 10 ^ k := by
  intro k
  induction k with
  | zero => intro _ _; simp [valTo, valL]
  | succ k ih =>
    intro hk hd
    rw [valTo_succ s k (by omega), Nat.pow_succ]
    have h1 := ih (by omega) (fun j h hj => hd j h (by omega))
    have h2 := hd k (by omega) (by omega)
    unfold DigB at h2
    omega
/-- The value of a longer beginning is no less. -/
theorem valTo_mono (s : ByteArray) (k : Nat) : ∀ d, k + d ≤ s.size → valTo s k ≤ valTo s (k + d) := by
  intro d
  induction d with
  | zero => intro _; exact Nat.le_refl _
  | succ d ih =>
    intro h
    rw [show k + (d + 1) = (k + d) + 1 by omega, valTo_succ s (k + d) (by omega)]
    have := ih (by omega)
    omega
theorem val_ge_to (s : ByteArray) (k : Nat) (h : k ≤ s.size) : valTo s k ≤ valL s.data.toList := by
  rw [← valTo_end s s.size (by omega)]
  have := valTo_mono s k (s.size - k) (by omega)
  rw [show k + (s.size - k) = s.size by omega] at this
  exact this
theorem mem_byte {s : ByteArray} {p : UInt8 → Prop} (h : ∀ j (hj : j < s.size), p (s[j]'hj)) : ∀ b ∈ s.data.toList, p b := by
  intro b hb
  obtain ⟨j, hj, rfl⟩ := List.getElem_of_mem hb
  exact h j (by simpa using hj)
theorem byte_mem (s : ByteArray) (j : Nat) (h : j < s.size) : s[j]'h ∈ s.data.toList := List.mem_of_getElem? (byte_get s j h)
/-- A number that is no longer than 1000000 has at most seven digits. -/
theorem num_seven {s : ByteArray} (h : NumOk s) : s.size ≤ 7 := by
  obtain ⟨h1, hd, hz, hv⟩ := h
  rcases Nat.lt_or_ge 7 s.size with h7 | h7
  · exfalso
    have hp : 0 < s.size := by omega
    have hlen : s.data.toList.length = s.size := by simp
    have hg := val_ge s.data.toList hd (fun b hb => by rw [head_byte s hp] at hb; cases hb; exact hz (by omega) hp) (by intro e; rw [e] at hlen; simp at hlen; omega)
    have : 10 ^ 7 ≤ 10 ^ (s.data.toList.length - 1) := Nat.pow_le_pow_right (by omega) (by omega)
    omega
  · exact h7

end Go.Proofs.YtlmenolcgaakeaaDoor

namespace Go.Proofs.YtlmenolcgaakeaaDoor
open Go.RowKit
open Go.Lib hiding intOf

theorem conv_one (W : World) (d : Int) : (convert 22 9 (.slice (some ⟨W.heap.size, 0, none⟩) 1 1)).run Tryd.prog (W.alloc (.cells #[.int .u8 d] 5)) = .ok (.string (strOfNums [d])) (W.alloc (.cells #[.int .u8 d] 5)) :=
  run_convert_bytes_arg (P := Tryd.prog) (W.alloc (.cells #[.int .u8 d] 5)) 22 5 Tryd.underlying22 Tryd.underlying5 W.heap.size 0 1 1 [d] rfl (fun i hi => by
    have : i = 0 := by omega
    subst this
    simp) 9 Tryd.underlying9

set_option maxHeartbeats 1000000 in
theorem specNumText_any (n : Nat) (w : World) (hn : n ≤ 9999999) :
    Calls Tryd.prog 22 #[.int .i64 (n : Int)] w fun e w' => TextIs (numText n) w e w' := by
  by_cases h1 : (n : Int) ≤ 1000000
  · by_cases h0 : n = 0
    · subst h0
      go_enter Tryd.func22, Tryd.ntmps22
      go_wp2
      go_ret
      exact TextIs.of rfl (Below.refl _ _)
    · have hne : ((n : Int) == 0) = false := by rw [beq_eq_false_iff_ne]; omega
      have hcv := conv_one
      go_enter Tryd.func22, Tryd.ntmps22
      go_wp2
      go_loopw [0, 3] (fun a b wr => ∃ (f m : Nat) (out : ByteArray), a = .int .i64 (m : Int) ∧ b = .string out ∧ m ≤ 1000000 ∧ f ≤ 8 ∧ out.size ≤ 8 - f ∧ Below w.heap.size w wr ∧ Hid (m < 10 ^ f ∧ dgF f m ++ out.data.toList = dgF 8 n)) (fun a _ _ => (intOf a).toNat)
      case atStart => exact ⟨8, n, _, rfl, rfl, by omega, Nat.le_refl _, Nat.le_refl _, Below.refl _ _, ⟨by omega, by simp⟩⟩
      case round =>
        obtain ⟨f, m, out, rfl, rfl, hm, hf8, hsz, hbw, hd⟩ := hrel
        by_cases hp : (0 : Int) < (m : Int)
        · have hone : ∀ d : Int, (strOfNums [d]).size = 1 := fun d => strOfNums_size [d]
          go_wp2
          go_roundw
          case rel =>
            obtain ⟨hf, hdg⟩ := hd.out
            cases f with
            | zero => simp at hf; omega
            | succ f =>
              rw [Nat.pow_succ] at hf
              refine ⟨f, m / 10, strOfNums [48 + (m : Int) % 10] ++ out, by simp, rfl, by omega, by omega, ?_, hbw.alloc hbw.size _, by omega, ?_⟩
              · rw [ByteArray.size_append, hone]; omega
              · have e : (strOfNums [48 + (m : Int) % 10]).data.toList = [UInt8.ofNat (48 + m % 10)] := by
                  rw [strOfNums_data]
                  have : (48 + (m : Int) % 10).toNat = 48 + m % 10 := by omega
                  simp only [List.map_cons, List.map_nil, this]
                rw [dgF_pos f m (by omega), List.append_assoc] at hdg
                rw [← hdg, ByteArray.data_append, Array.toList_append, e]
          case measure => simp [intOf]; omega
        · have hT : Hid (out = numText n) := by
            obtain ⟨_, h⟩ := hd.out
            have e : m = 0 := by omega
            rw [e, dgF_zero, List.nil_append] at h
            show out = numText n
            apply ByteArray.ext
            apply Array.toList_inj.1
            rw [h]
            unfold numText numL
            rw [if_neg (by omega), if_neg h0]
          go_wp2
          go_ret
          exact TextIs.of hT.out hbw
  · go_enter Tryd.func22, Tryd.ntmps22
    go_wp2
    go_ret
    exact TextIs.of (by unfold numText numL; rw [if_pos (by omega)]) (Below.refl _ _)

/-- A call answers the number that a text is, and true; or 0 and false; it turns nothing that was there. -/
def NumIs (s : ByteArray) (w : World) (e : Ending) (w' : World) : Prop :=
  ∃ (b : Bool) (n : Int), e = .returned (.tuple #[.int .i64 n, .bool b]) ∧ (b = true ↔ NumOk s) ∧ (b = true → n = valL s.data.toList) ∧ (b = false → n = 0) ∧ Below w.heap.size w w'
theorem NumIs.no {s : ByteArray} {w w' : World} (h : ¬ NumOk s) (hb : Below w.heap.size w w') : NumIs s w (.returned (.tuple #[.int .i64 0, .bool false])) w' :=
  ⟨false, 0, rfl, by simpa using h, by simp, fun _ => rfl, hb⟩
theorem NumIs.yes {s : ByteArray} {w w' : World} {n : Int} (h : NumOk s) (hn : n = valL s.data.toList) (hb : Below w.heap.size w w') : NumIs s w (.returned (.tuple #[.int .i64 n, .bool true])) w' :=
  ⟨true, n, rfl, by simpa using h, fun _ => hn, by simp, hb⟩

/-- Every byte ahead of k is a digit. -/
def DigTo (s : ByteArray) (k : Nat) : Prop := ∀ j (h : j < s.size), j < k → DigB (s[j]'h)
theorem digTo_succ {s : ByteArray} {k : Nat} (h : DigTo s k) (hk : k < s.size) (hd : DigB (s[k]'hk)) : DigTo s (k + 1) := by
  intro j hj hlt
  by_cases e : j = k
  · subst e; exact hd
  · exact h j hj (by omega)

theorem isEmpty_no {s : ByteArray} (h : 1 ≤ s.size) : s.toList.isEmpty = false := by
  have : s.toList.length = s.size := by rw [ByteArray.toList_eq]; simp
  cases hc : s.toList with
  | nil => rw [hc] at this; simp at this; omega
  | cons _ _ => rfl
theorem isEmpty_yes {s : ByteArray} (h : s.size = 0) : s.toList.isEmpty = true := by
  have : s.toList.length = s.size := by rw [ByteArray.toList_eq]; simp
  rw [h] at this
  rw [List.length_eq_zero_iff.1 this]; rfl

set_option maxHeartbeats 1000000 in
theorem specNumRead_any (s : ByteArray) (w : World) (hs : s.size ≤ maxLen) :
    Calls Tryd.prog 32 #[.string s] w fun e w' => NumIs s w e w' := by
  unfold maxLen at hs
  by_cases h1 : s.size = 0
  · have he := isEmpty_yes h1
    go_enter Tryd.func32, Tryd.ntmps32
    go_wp2_with fail
    go_ret2
    exact NumIs.no (fun h => by have := h.1; omega) (Below.refl _ _)
  · have he := isEmpty_no (s := s) (by omega)
    by_cases h7 : (7 : Int) < (s.size : Int)
    · go_enter Tryd.func32, Tryd.ntmps32
      go_wp2_with fail
      go_ret2
      exact NumIs.no (fun h => by have := num_seven h; omega) (Below.refl _ _)
    · go_enter Tryd.func32, Tryd.ntmps32
      go_wp2_with fail
      go_loop [4, 5] (fun a i => ∃ x k : Nat, k ≤ s.size ∧ i = .int .i64 k ∧ a = .int .i64 (x : Int) ∧ x ≤ 9999999 ∧ Hid (DigTo s k) ∧ Hid (x = valTo s k)) (fun _ i => s.size - (intOf i).toNat)
      case atStart => exact ⟨0, 0, Nat.zero_le _, rfl, rfl, by omega, fun _ _ h => absurd h (by omega), by show 0 = valTo s 0; simp [valTo, valL]⟩
      case round =>
        obtain ⟨x, k, hk, rfl, rfl, hx, hdig, hval⟩ := hrel
        by_cases hlt : k < s.size
        · have hb := (s[k]'hlt).toNat_lt
          by_cases hd1 : ((s[k]'hlt).toNat : Int) < 48
          · go_wp2_with fail
            go_ret2
            exact NumIs.no (fun h => by have := h.2.1 _ (byte_mem s k hlt); unfold DigB at this; omega) (Below.refl _ _)
          · by_cases hd2 : (57 : Int) < ((s[k]'hlt).toNat : Int)
            · go_wp2_with fail
              go_ret2
              exact NumIs.no (fun h => by have := h.2.1 _ (byte_mem s k hlt); unfold DigB at this; omega) (Below.refl _ _)
            · go_wp2_with fail
              have hdb : DigB (s[k]'hlt) := by unfold DigB; omega
              have hs1 := valTo_succ s k hlt
              have hv := hval.out
              have hd' := digTo_succ hdig.out hlt hdb
              have hlt7 := valTo_lt s (k + 1) (by omega) (fun j h hj => hd' j h hj)
              have hp7 : 10 ^ (k + 1) ≤ 10 ^ 7 := Nat.pow_le_pow_right (by omega) (by omega)
              go_round
              case rel =>
                refine ⟨valTo s (k + 1), k + 1, by omega, by go_num, ?_, by omega, hd', rfl⟩
                congr 1
                omega
              case measure => simp [intOf]; omega
        · have hall : ∀ b ∈ s.data.toList, DigB b := mem_byte (fun j h => hdig.out j h (by omega))
          have hx2 : x = valL s.data.toList := by have := hval.out; rw [valTo_end s k hlt] at this; exact this
          have hni := num_iff s (by omega) (by omega) hall
          rw [← hx2] at hni
          by_cases hok : NumOk s
          · have ht : ((numText x).toList == s.toList) = true := (text_beq _ _).2 (hni.2 hok)
            have HX : Hid (x = valL s.data.toList) := hx2
            have HO : Hid (NumOk s) := hok
            clear hx2 hni hok hall
            go_wp2_with (go_at_call 22; refine (specNumText_any x _ hx).mono ?_; rintro e w1 ⟨rfl, hb1⟩)
            go_ret2
            exact NumIs.yes HO.out (by rw [HX.out]) hb1
          · have ht : ((numText x).toList == s.toList) = false := by
              rcases Bool.eq_false_or_eq_true ((numText x).toList == s.toList) with h | h
              · exact absurd (hni.1 ((text_beq _ _).1 h)) hok
              · exact h
            have HO : Hid (¬ NumOk s) := hok
            clear hx2 hni hok hall
            go_wp2_with (go_at_call 22; refine (specNumText_any x _ hx).mono ?_; rintro e w1 ⟨rfl, hb1⟩)
            go_ret2
            exact NumIs.no HO.out hb1

set_option maxHeartbeats 1000000 in
theorem implNumRead_any (s : ByteArray) (w : World) (hs : s.size ≤ maxLen) :
    Calls Tryd.prog 43 #[.string s] w fun e w' => NumIs s w e w' := by
  unfold maxLen at hs
  by_cases h1 : s.size = 0
  · have he := isEmpty_yes h1
    go_enter Tryd.func43, Tryd.ntmps43
    go_wp2_with fail
    go_ret2
    exact NumIs.no (fun h => by have := h.1; omega) (Below.refl _ _)
  · have he := isEmpty_no (s := s) (by omega)
    have hp0 : 0 < s.size := by omega
    by_cases hz : (1 : Int) < (s.size : Int) ∧ (s[0]'hp0).toNat = 48
    · obtain ⟨hz1, hz2⟩ := hz
      have ht : (((s[0]'hp0).toNat : Int) == 48) = true := by simp [hz2]
      have HZ : Hid ((s[0]'hp0).toNat = 48) := hz2
      clear hz2
      go_enter Tryd.func43, Tryd.ntmps43
      go_wp2_with fail
      go_ret2
      exact NumIs.no (fun h => h.2.2.1 (by omega) hp0 HZ.out) (Below.refl _ _)
    · have HZ : Hid (1 < s.size → ∀ h : 0 < s.size, (s[0]'h).toNat ≠ 48) := fun hl h hc => hz ⟨by omega, hc⟩
      have hgo : Calls Tryd.prog 43 #[.string s] w fun e w' => NumIs s w e w' := by
        by_cases hl : (1 : Int) < (s.size : Int)
        all_goals
          have ht : (1 : Int) < (s.size : Int) → (((s[0]'hp0).toNat : Int) == 48) = false := fun hl => by
            rw [beq_eq_false_iff_ne]; intro hc; exact hz ⟨hl, by omega⟩
          clear hz
          try have ht2 := ht hl
          try clear ht
          go_enter Tryd.func43, Tryd.ntmps43
          go_wp2_with fail
          go_loopw [4] (fun a wr => ∃ x pos : Nat, pos ≤ s.size ∧ a = .int .i64 (x : Int) ∧ x ≤ 1000000 ∧ wr.heap[w.heap.size]? = some (.stringIter s pos) ∧ Below w.heap.size w wr ∧ Hid (DigTo s pos) ∧ Hid (x = valTo s pos)) (fun _ wr => s.size - wr.iterPos w.heap.size)
          case atStart => exact ⟨0, 0, Nat.zero_le _, rfl, by omega, World.iter_heap _ _ _, (Below.refl _ _).alloc (Nat.le_refl _) _, fun _ _ h => absurd h (by omega), by show 0 = valTo s 0; simp [valTo, valL]⟩
          case round =>
            obtain ⟨x, k, hk, rfl, hx, hh, hbw, hdig, hval⟩ := hrel
            by_cases hlt : k < s.size
            · have hb := (s[k]'hlt).toNat_lt
              by_cases hd : DigB (s[k]'hlt)
              · have hnx := fun ty => run_next_ascii_at (P := Tryd.prog) wr w.heap.size s k ty hh hlt (by unfold DigB at hd; omega)
                have hcl : (cls ((s[k]'hlt).toNat : Int) != 2) = false := by
                  have := cls_spec ((s[k]'hlt).toNat : Int)
                  unfold DigB at hd
                  rw [bne_eq_false_iff_eq]; omega
                have hd1 : (48 : Int) ≤ ((s[k]'hlt).toNat : Int) := by unfold DigB at hd; omega
                have hd2 : ((s[k]'hlt).toNat : Int) ≤ 57 := by unfold DigB at hd; omega
                have HD : Hid (DigB (s[k]'hlt)) := hd
                clear hd
                go_wp2_with (go_at_call 52; refine (classOf_any _ _).mono ?_; rintro e w1 ⟨rfl, hb1⟩)
                · have hgt : 1000000 < valTo s (k + 1) := by
                    have := valTo_succ s k hlt
                    have := hval.out
                    omega
                  go_ret2
                  exact NumIs.no (fun h => by have := h.2.2.2; have := val_ge_to s (k + 1) (by omega); omega) (iter_step hh hbw hb1).2
                · have hle : (x : Int) * 10 + (((s[k]'hlt).toNat : Int) - 48) = (valTo s (k + 1) : Nat) ∧ valTo s (k + 1) ≤ 1000000 := by
                    have := valTo_succ s k hlt
                    have := hval.out
                    omega
                  obtain ⟨p1, p2⟩ := iter_step hh hbw hb1
                  refine ⟨⟨valTo s (k + 1), k + 1, by omega, by rw [hle.1], hle.2, p1, p2, digTo_succ hdig.out hlt HD.out, rfl⟩, by rw [iterPos_of p1, iterPos_of hh]; omega⟩
              · have hnx := fun ty => run_next_any_at (P := Tryd.prog) wr w.heap.size s k ty hh hlt
                have hcl : (cls ((Utf8.decode s k).1 : Int) != 2) = true := by
                  have := cls_spec ((Utf8.decode s k).1 : Int)
                  unfold DigB at hd
                  rw [bne_iff_ne]
                  by_cases ha : (s[k]'hlt).toNat < 128
                  · rw [decode_ascii s k hlt ha] at this ⊢
                    dsimp only at this ⊢
                    omega
                  · have := (decode_high s k hlt (by omega)).1
                    omega
                have HD : Hid (¬ DigB (s[k]'hlt)) := hd
                clear hd
                go_wp2_with (go_at_call 52; refine (classOf_any _ _).mono ?_; rintro e w1 ⟨rfl, hb1⟩)
                go_ret2
                exact NumIs.no (fun h => HD.out (h.2.1 _ (byte_mem s k hlt))) (iter_step hh hbw hb1).2
            · have hnx := fun ty => run_next_end_at (P := Tryd.prog) wr w.heap.size s k ty hh hlt
              have HY : Hid (NumOk s ∧ (x : Int) = (valL s.data.toList : Nat)) := by
                have hv := hval.out
                rw [valTo_end s k hlt] at hv
                exact ⟨⟨by omega, mem_byte (fun j h => hdig.out j h (by omega)), HZ.out, by omega⟩, by omega⟩
              go_wp2_with fail
              go_ret2
              exact NumIs.yes HY.out.1 HY.out.2 hbw
      exact hgo

end Go.Proofs.YtlmenolcgaakeaaDoor

namespace Go.Proofs.YtlmenolcgaakeaaDoor
open Go.RowKit
open Go.Lib hiding intOf

def lowB (n : Int) : Int := if 65 ≤ n ∧ n ≤ 90 then n + 32 else n
/-- The bytes made small, as numbers. -/
def lowXs (s : ByteArray) : List Int := s.data.toList.map (fun b => lowB (b.toNat : Int))
def lowerOf (s : ByteArray) : ByteArray := strOfNums (lowXs s)
/-- What is owned lies from the base on. -/
theorem owns_ge {w : World} {base : Nat} {e : TypeId} {size : Nat} {v : Value} {n g : Nat} {xs : List Value} (h : w.ownsRow base e size v n xs) (hg : v.ownBlock = some g) : base ≤ g := by
  rcases h.2 with ⟨rfl, _⟩ | ⟨g', cap, cur, rfl, hb, _⟩
  · simp [Value.ownBlock] at hg
  · simp [Value.ownBlock] at hg; omega
end Go.Proofs.YtlmenolcgaakeaaDoor

namespace Go.Proofs.YtlmenolcgaakeaaDoor
open Go.RowKit
open Go.Lib hiding intOf

/-- A part is taken where it is not empty. -/
def addPart (l : List ByteArray) (t : ByteArray) : List ByteArray := if t.size = 0 then l else l ++ [t]
/-- What is gathered ahead of byte k, and where the part that is begun begins. -/
def splitTo (s : ByteArray) : Nat → List ByteArray × Nat
  | 0 => ([], 0)
  | k + 1 => if (s.data.toList.getD k 0).toNat = 44 then (addPart (splitTo s k).1 (trimOf (s.extract (splitTo s k).2 k)), k + 1) else splitTo s k
def splitL (s : ByteArray) : List ByteArray := addPart (splitTo s s.size).1 (trimOf (s.extract (splitTo s s.size).2 s.size))

/-- A call answers a list of these texts in memory of its own, from block 'base' on, and turns nothing below it. -/
def RowIs (base : Nat) (xs : List ByteArray) (w : World) (e : Ending) (w' : World) : Prop :=
  ∃ v, e = .returned v ∧ w'.ownsRow base 9 1 v xs.length (xs.map Value.string) ∧ Below base w w'
theorem RowIs.of {base : Nat} {xs ys : List ByteArray} {w w' : World} {v : Value} {n : Nat} (h : ys = xs) (hn : n = ys.length) (hown : w'.ownsRow base 9 1 v n (ys.map Value.string)) (hb : Below base w w') : RowIs base xs w (.returned v) w' := by
  subst h; subst hn; exact ⟨v, rfl, hown, hb⟩
theorem one_text (t : ByteArray) : ∀ u ∈ [Value.string t], u.oneCell' = true := by intro u hu; simp at hu; subst hu; rfl
theorem info9 : (Tryd.prog.info? 9).map (fun i => (i.zero, i.size, i.bytes)) = some (some (.string ⟨#[]⟩), 1, 16) := by kernel_rfl

end Go.Proofs.YtlmenolcgaakeaaDoor

namespace Go.Proofs.YtlmenolcgaakeaaDoor
open Go.RowKit
open Go.Lib hiding intOf

/-- The text i of a list. -/
def textAt (xs : List ByteArray) (i : Nat) : ByteArray := xs.getD i ⟨#[]⟩

/-- What an owned list of texts is, cell by cell. -/
structure TextRow (base : Nat) (w : World) (g n cap : Nat) (xs : List ByteArray) : Prop where
  len : xs.length = n
  base : base ≤ g
  lt : g < w.heap.size
  le : n ≤ cap
  mx : cap ≤ maxLen
  heap : ∃ cur, w.heap[g]? = some (.cells cur 9 (0, 0)) ∧ cur.size = cap ∧ ∀ i, i < n → cur[i]? = some (.string (textAt xs i))
theorem TextRow.cell {base : Nat} {w : World} {g n cap : Nat} {xs : List ByteArray} (h : TextRow base w g n cap xs) (i : Nat) (hi : i < n) : w.cell? ⟨g, i, none⟩ = some (.string (textAt xs i)) := by
  obtain ⟨cur, hg, _, hc⟩ := h.heap
  simp only [World.cell?, hg]
  simpa using hc i hi
theorem TextRow.frozen {base : Nat} {w : World} {g n cap : Nat} {xs : List ByteArray} (h : TextRow base w g n cap xs) (i : Nat) : w.frozen? ⟨g, i, none⟩ = false := by
  obtain ⟨cur, hg, _⟩ := h.heap
  simp [World.frozen?, hg]
theorem TextRow.below {base B : Nat} {w w' : World} {g n cap : Nat} {xs : List ByteArray} (h : TextRow base w g n cap xs) (hb : Below B w w') (hB : g < B) : TextRow base w' g n cap xs := by
  obtain ⟨cur, hg, hc⟩ := h.heap
  have := hb.size; have := h.lt
  exact ⟨h.len, h.base, by omega, h.le, h.mx, cur, by rw [hb.block g hB]; exact hg, hc⟩
/-- One text of it stored anew. -/
theorem TextRow.set {base : Nat} {w : World} {g n cap : Nat} {xs : List ByteArray} (h : TextRow base w g n cap xs) (i : Nat) (hi : i < n) (t : ByteArray) : TextRow base (w.setCell ⟨g, i, none⟩ (.string t)) g n cap (xs.set i t) := by
  obtain ⟨cur, hg, hs, hc⟩ := h.heap
  refine ⟨by simp [h.len], h.base, by simpa using h.lt, h.le, h.mx, cur.setIfInBounds i (.string t), ?_, by simpa using hs, ?_⟩
  · simp [World.setCell, Array.getElem?_modify, hg]
  · intro j hj
    have hl := h.len
    have hle := h.le
    by_cases e : i = j
    · subst e
      have h1 : i < cur.size := by omega
      have h2 : i < xs.length := by omega
      simp [textAt, List.getD_eq_getElem?_getD, h1, h2]
    · rw [Array.getElem?_setIfInBounds_ne (by exact e), hc j hj]
      simp [textAt, List.getD_eq_getElem?_getD, e]
theorem textAt_map (xs : List ByteArray) (i : Nat) (h : i < xs.length) : (xs.map Value.string)[i]? = some (.string (textAt xs i)) := by
  simp [textAt, List.getD_eq_getElem?_getD, h]
/-- An owned list is empty, or such a row. -/
theorem row_form {w : World} {base n : Nat} {v : Value} {xs : List ByteArray} (h : w.ownsRow base 9 1 v n (xs.map Value.string)) :
    (∃ oa cap, v = .slice oa 0 cap ∧ n = 0 ∧ xs = []) ∨ ∃ g cap, v = .slice (some ⟨g, 0, none⟩) n cap ∧ 0 < n ∧ TextRow base w g n cap xs := by
  obtain ⟨hl, hv⟩ := h
  simp at hl
  rcases hv with ⟨rfl, h0⟩ | ⟨g, cap, cur, rfl, hb, hg, hn, hm, hcs, htk⟩
  · exact .inl ⟨none, 0, rfl, h0, List.length_eq_zero_iff.1 (by omega)⟩
  · by_cases h0 : n = 0
    · subst h0
      exact .inl ⟨_, _, rfl, rfl, List.length_eq_zero_iff.1 (by omega)⟩
    · refine .inr ⟨g, cap, rfl, by omega, hl, hb, (Array.getElem?_eq_some_iff.1 hg).1, hn, hm, cur, hg, by simpa using hcs, ?_⟩
      intro i hi
      have h1 : (cur.toList.take (n * 1))[i]? = some (.string (textAt xs i)) := by rw [htk]; exact textAt_map xs i (by omega)
      rw [List.getElem?_take, if_pos (by omega)] at h1
      simpa using h1
end Go.Proofs.YtlmenolcgaakeaaDoor

namespace Go.Proofs.YtlmenolcgaakeaaDoor
open Go.RowKit
open Go.Lib hiding intOf

def nameAt (fs : List (ByteArray × ByteArray)) (i : Nat) : ByteArray := (fs.getD i (⟨#[]⟩, ⟨#[]⟩)).1
def valAt (fs : List (ByteArray × ByteArray)) (i : Nat) : ByteArray := (fs.getD i (⟨#[]⟩, ⟨#[]⟩)).2
/-- A list of fields as a row of cells: two a field. -/
def flatF (fs : List (ByteArray × ByteArray)) : List Value := fs.flatMap (fun f => [Value.string f.1, Value.string f.2])
theorem flatF_len (fs : List (ByteArray × ByteArray)) : (flatF fs).length = fs.length * 2 := by
  induction fs with
  | nil => rfl
  | cons f r ih => simp only [flatF, List.flatMap_cons, List.length_append, List.length_cons, List.length_nil] at ih ⊢; omega
theorem flatF_get : ∀ (fs : List (ByteArray × ByteArray)) (i : Nat), i < fs.length → (flatF fs)[i * 2]? = some (.string (nameAt fs i)) ∧ (flatF fs)[i * 2 + 1]? = some (.string (valAt fs i))
  | [], i, h => by simp at h
  | f :: r, 0, _ => by simp [flatF, nameAt, valAt]
  | f :: r, i + 1, h => by
    have ih := flatF_get r i (by simpa using h)
    have e : flatF (f :: r) = Value.string f.1 :: Value.string f.2 :: flatF r := rfl
    rw [e, show (i + 1) * 2 = i * 2 + 2 by omega, show i * 2 + 2 + 1 = (i * 2 + 1) + 2 by omega]
    simp only [List.getElem?_cons_succ]
    exact ih

/-- What an owned list of fields is, cell by cell. -/
structure FieldRow (base : Nat) (w : World) (g n cap : Nat) (fs : List (ByteArray × ByteArray)) : Prop where
  len : fs.length = n
  base : base ≤ g
  lt : g < w.heap.size
  le : n ≤ cap
  mx : cap ≤ maxLen
  heap : ∃ cur, w.heap[g]? = some (.cells cur 132 (0, 0)) ∧ cur.size = cap * 2 ∧ ∀ i, i < n → cur[i * 2]? = some (.string (nameAt fs i)) ∧ cur[i * 2 + 1]? = some (.string (valAt fs i))
theorem FieldRow.name {base : Nat} {w : World} {g n cap : Nat} {fs : List (ByteArray × ByteArray)} (h : FieldRow base w g n cap fs) (i : Nat) (hi : i < n) : w.cell? ⟨g, i * 2, none⟩ = some (.string (nameAt fs i)) := by
  obtain ⟨cur, hg, _, hc⟩ := h.heap
  simp only [World.cell?, hg]
  simpa using (hc i hi).1
theorem FieldRow.val {base : Nat} {w : World} {g n cap : Nat} {fs : List (ByteArray × ByteArray)} (h : FieldRow base w g n cap fs) (i : Nat) (hi : i < n) : w.cell? ⟨g, i * 2 + 1, none⟩ = some (.string (valAt fs i)) := by
  obtain ⟨cur, hg, _, hc⟩ := h.heap
  simp only [World.cell?, hg]
  simpa using (hc i hi).2
theorem FieldRow.frozen {base : Nat} {w : World} {g n cap : Nat} {fs : List (ByteArray × ByteArray)} (h : FieldRow base w g n cap fs) (i : Nat) : w.frozen? ⟨g, i, none⟩ = false := by
  obtain ⟨cur, hg, _⟩ := h.heap
  simp [World.frozen?, hg]
theorem FieldRow.below {base B : Nat} {w w' : World} {g n cap : Nat} {fs : List (ByteArray × ByteArray)} (h : FieldRow base w g n cap fs) (hb : Below B w w') (hB : g < B) : FieldRow base w' g n cap fs := by
  obtain ⟨cur, hg, hc⟩ := h.heap
  have := hb.size; have := h.lt
  exact ⟨h.len, h.base, by omega, h.le, h.mx, cur, by rw [hb.block g hB]; exact hg, hc⟩
/-- A list of fields that a function reads: empty, or a row. -/
def FieldsV (w : World) (base : Nat) (v : Value) (n : Nat) (fs : List (ByteArray × ByteArray)) : Prop :=
  (∃ oa cap, v = .slice oa 0 cap ∧ (oa = none → cap = 0) ∧ n = 0 ∧ fs = []) ∨ ∃ g cap, v = .slice (some ⟨g, 0, none⟩) n cap ∧ 0 < n ∧ FieldRow base w g n cap fs

/-- Where the first field of that name stands; the length where there is none. -/
def atF : List (ByteArray × ByteArray) → ByteArray → Nat
  | [], _ => 0
  | f :: r, name => if f.1 = name then 0 else atF r name + 1
theorem FieldsV.below {w w' : World} {base n : Nat} {v : Value} {fs : List (ByteArray × ByteArray)} (h : FieldsV w base v n fs) (hb : Below w.heap.size w w') : FieldsV w' base v n fs := by
  rcases h with h | ⟨g, cap, h1, h2, h3⟩
  · exact .inl h
  · exact .inr ⟨g, cap, h1, h2, h3.below hb h3.lt⟩
theorem FieldsV.len {w : World} {base n : Nat} {v : Value} {fs : List (ByteArray × ByteArray)} (h : FieldsV w base v n fs) : fs.length = n := by
  rcases h with ⟨_, _, _, _, rfl, rfl⟩ | ⟨_, _, _, _, h⟩
  · rfl
  · exact h.len

/-- A list of fields is a slice; where there is a field it is a row's. -/
theorem FieldsV.slice {w : World} {base n : Nat} {v : Value} {fs : List (ByteArray × ByteArray)} (h : FieldsV w base v n fs) :
    ∃ oa cap, v = .slice oa n cap ∧ ∀ k, k < n → ∃ g, oa = some ⟨g, 0, none⟩ ∧ FieldRow base w g n cap fs := by
  rcases h with ⟨oa, ca, rfl, _, rfl, rfl⟩ | ⟨g, cap, rfl, hp, row⟩
  · exact ⟨oa, ca, rfl, fun k hk => absurd hk (by omega)⟩
  · exact ⟨_, cap, rfl, fun k _ => ⟨g, rfl, row⟩⟩

/-- What Get answers. -/
def getV (fs : List (ByteArray × ByteArray)) (name : ByteArray) : ByteArray := if atF fs name < fs.length then valAt fs (atF fs name) else ⟨#[]⟩
/-- The text of the first k fields. -/
def ftTo (fs : List (ByteArray × ByteArray)) : Nat → ByteArray
  | 0 => ⟨#[]⟩
  | k + 1 => ftTo fs k ++ nameAt fs k ++ ⟨#[58, 32]⟩ ++ valAt fs k ++ ⟨#[13, 10]⟩
def fieldsText (fs : List (ByteArray × ByteArray)) : ByteArray := ftTo fs fs.length
/-- What the chapter asks of fields. -/
def FldsOk (fs : List (ByteArray × ByteArray)) : Prop :=
  fs.length ≤ 8 ∧ ∀ i, i < fs.length → TokOk (nameAt fs i) ∧ ValOk (valAt fs i) ∧ atF fs (nameAt fs i) = i ∧ nameAt fs i ≠ ⟨#[99, 111, 110, 116, 101, 110, 116, 45, 108, 101, 110, 103, 116, 104]⟩
def clen : ByteArray := ⟨#[99, 111, 110, 116, 101, 110, 116, 45, 108, 101, 110, 103, 116, 104]⟩
theorem text_beq_no {a b : ByteArray} (h : a ≠ b) : (a.toList == b.toList) = false := by
  rcases Bool.eq_false_or_eq_true (a.toList == b.toList) with h1 | h1
  · exact absurd ((text_beq _ _).1 h1) h
  · exact h1

end Go.Proofs.YtlmenolcgaakeaaDoor

namespace Go.Proofs.YtlmenolcgaakeaaDoor
open Go.RowKit

def PathB (n : Int) : Prop := 33 ≤ n ∧ n ≤ 126
def PathOk (s : ByteArray) : Prop := AllB PathB s ∧ 1 ≤ s.size ∧ s.size ≤ 60 ∧ ∃ h : 0 < s.size, (s[0]'h).toNat = 47
def ReqP (m : Int) (path : ByteArray) (fs : List (ByteArray × ByteArray)) (body : ByteArray) : Prop := (1 ≤ m ∧ m ≤ 4) ∧ PathOk path ∧ FldsOk fs ∧ body.size ≤ 120
def RespP (st : Int) (fs : List (ByteArray × ByteArray)) (body : ByteArray) : Prop := (100 ≤ st ∧ st ≤ 599) ∧ FldsOk fs ∧ body.size ≤ 120

def methB (m : Int) : ByteArray := if m = 1 then ⟨#[71, 69, 84]⟩ else if m = 2 then ⟨#[72, 69, 65, 68]⟩ else if m = 3 then ⟨#[80, 79, 83, 84]⟩ else if m = 4 then ⟨#[80, 85, 82, 71, 69]⟩ else ⟨#[]⟩
def httpEnd : ByteArray := ⟨#[32, 72, 84, 84, 80, 47, 49, 46, 49, 13, 10]⟩
def httpAhead : ByteArray := ⟨#[72, 84, 84, 80, 47, 49, 46, 49, 32]⟩
def dotEnd : ByteArray := ⟨#[32, 46, 13, 10]⟩
def clenK : ByteArray := ⟨#[99, 111, 110, 116, 101, 110, 116, 45, 108, 101, 110, 103, 116, 104, 58, 32]⟩
def lnE : ByteArray := ⟨#[13, 10]⟩
def lnE2 : ByteArray := ⟨#[13, 10, 13, 10]⟩
/-- What a request's text is, right or not. -/
def reqHead (m : Int) (path : ByteArray) (fs : List (ByteArray × ByteArray)) : ByteArray := methB m ++ ⟨#[32]⟩ ++ path ++ httpEnd ++ fieldsText fs
def reqT (m : Int) (path : ByteArray) (fs : List (ByteArray × ByteArray)) (body : ByteArray) : ByteArray :=
  (if body.size = 0 then reqHead m path fs else reqHead m path fs ++ clenK ++ numText body.size ++ lnE) ++ lnE ++ body
def respT (st : Int) (fs : List (ByteArray × ByteArray)) (body : ByteArray) : ByteArray :=
  httpAhead ++ numText st.toNat ++ dotEnd ++ fieldsText fs ++ clenK ++ numText body.size ++ lnE2 ++ body
/-- The text is that of this right request. -/
def IsReq (s : ByteArray) (m : Int) (path : ByteArray) (fs : List (ByteArray × ByteArray)) (body : ByteArray) : Prop := ReqP m path fs body ∧ reqT m path fs body = s
def IsResp (s : ByteArray) (st : Int) (fs : List (ByteArray × ByteArray)) (body : ByteArray) : Prop := RespP st fs body ∧ respT st fs body = s

def bs (s : ByteArray) : List UInt8 := s.data.toList
theorem bs_append (a b : ByteArray) : bs (a ++ b) = bs a ++ bs b := by simp [bs]
theorem bs_inj {a b : ByteArray} (h : bs a = bs b) : a = b := by
  apply ByteArray.ext
  exact Array.toList_inj.1 h
theorem bs_len (a : ByteArray) : (bs a).length = a.size := by simp [bs]
theorem bs_all {p : Int → Prop} {s : ByteArray} (h : AllB p s) : ∀ b ∈ bs s, p (b.toNat : Int) := mem_byte (p := fun b => p (b.toNat : Int)) h

/-- The lines of a head and what is behind it. -/
def headL (out : List (List UInt8)) (cur : List UInt8) : List UInt8 → List (List UInt8) × Option (List UInt8)
  | [] => (out, none)
  | [_] => (out, none)
  | c :: d :: r => if c = 13 ∧ d = 10 then (if cur = [] then (out, some r) else headL (out ++ [cur]) [] r) else headL out (cur ++ [c]) (d :: r)
/-- What stands between blanks. -/
def wordsL (out : List (List UInt8)) (cur : List UInt8) : List UInt8 → List (List UInt8)
  | [] => out ++ [cur]
  | c :: r => if c = 32 then wordsL (out ++ [cur]) [] r else wordsL out (cur ++ [c]) r
/-- A line cut at its first colon with a blank behind it. -/
def fieldL (cur : List UInt8) : List UInt8 → Option (List UInt8 × List UInt8)
  | [] => none
  | [_] => none
  | c :: d :: r => if c = 58 ∧ d = 32 then some (cur, r) else fieldL (cur ++ [c]) (d :: r)
def clenL : List UInt8 := [99, 111, 110, 116, 101, 110, 116, 45, 108, 101, 110, 103, 116, 104]
def fieldsL : List (List UInt8) → List (List UInt8 × List UInt8)
  | [] => []
  | l :: r => match fieldL [] l with
    | some f => if f.1 = clenL then fieldsL r else f :: fieldsL r
    | none => fieldsL r

theorem head_line (out : List (List UInt8)) (line rest : List UInt8) (h13 : ∀ b ∈ line, b ≠ 13) : ∀ cur, cur ++ line ≠ [] → headL out cur (line ++ 13 :: 10 :: rest) = headL (out ++ [cur ++ line]) [] rest := by
  induction line with
  | nil =>
    intro cur hne
    simp only [List.append_nil] at hne
    simp [headL, hne]
  | cons c r ih =>
    intro cur _
    have hc : c ≠ 13 := h13 c (by simp)
    have ih := ih (fun b hb => h13 b (by simp [hb])) (cur ++ [c]) (by simp)
    rw [List.append_assoc] at ih
    cases r with
    | nil =>
      simp only [List.cons_append, List.nil_append] at ih ⊢
      rw [headL, if_neg (fun h => hc h.1), ih]
    | cons d r =>
      simp only [List.cons_append, List.nil_append] at ih ⊢
      rw [headL, if_neg (fun h => hc h.1), ih]
theorem head_lines (body : List UInt8) (lines : List (List UInt8)) (h : ∀ l ∈ lines, l ≠ [] ∧ ∀ b ∈ l, b ≠ 13) : ∀ out, headL out [] (lines.flatMap (fun l => l ++ [13, 10]) ++ 13 :: 10 :: body) = (out ++ lines, some body) := by
  induction lines with
  | nil => intro out; simp [headL]
  | cons l r ih =>
    intro out
    have hl := h l (by simp)
    have e : (l :: r).flatMap (fun l => l ++ [13, 10]) ++ 13 :: 10 :: body = l ++ 13 :: 10 :: (r.flatMap (fun l => l ++ [13, 10]) ++ 13 :: 10 :: body) := by simp
    rw [e, head_line out l _ hl.2 [] (by simpa using hl.1), ih (fun x hx => h x (by simp [hx]))]
    simp
theorem words_word (word rest : List UInt8) (h : ∀ b ∈ word, b ≠ 32) : ∀ out cur, wordsL out cur (word ++ 32 :: rest) = wordsL (out ++ [cur ++ word]) [] rest := by
  induction word with
  | nil => intro out cur; simp [wordsL]
  | cons c r ih =>
    intro out cur
    rw [List.cons_append, wordsL, if_neg (h c (by simp)), ih (fun b hb => h b (by simp [hb]))]
    simp
theorem words_last (word : List UInt8) (h : ∀ b ∈ word, b ≠ 32) : ∀ out cur, wordsL out cur word = out ++ [cur ++ word] := by
  induction word with
  | nil => intro out cur; simp [wordsL]
  | cons c r ih =>
    intro out cur
    rw [wordsL, if_neg (h c (by simp)), ih (fun b hb => h b (by simp [hb]))]
    simp
theorem field_cut (nm vl : List UInt8) (h : ∀ b ∈ nm, b ≠ 58) : ∀ cur, fieldL cur (nm ++ 58 :: 32 :: vl) = some (cur ++ nm, vl) := by
  induction nm with
  | nil => intro cur; simp [fieldL]
  | cons c r ih =>
    intro cur
    have ih := ih (fun b hb => h b (by simp [hb])) (cur ++ [c])
    cases r with
    | nil =>
      simp only [List.cons_append, List.nil_append] at ih ⊢
      rw [fieldL, if_neg (fun e => h c (by simp) e.1), ih]
      simp
    | cons d r =>
      simp only [List.cons_append] at ih ⊢
      rw [fieldL, if_neg (fun e => h c (by simp) e.1), ih]
      simp

def fieldLine (f : ByteArray × ByteArray) : List UInt8 := bs f.1 ++ 58 :: 32 :: bs f.2
def clenLine (n : Nat) : List UInt8 := clenL ++ 58 :: 32 :: numL n
theorem flds_mem {fs : List (ByteArray × ByteArray)} (h : FldsOk fs) : ∀ f ∈ fs, TokOk f.1 ∧ ValOk f.2 ∧ f.1 ≠ clen := by
  intro f hf
  obtain ⟨i, hi, rfl⟩ := List.getElem_of_mem hf
  have := h.2 i hi
  have e : (nameAt fs i, valAt fs i) = fs[i] := by
    unfold nameAt valAt
    rw [List.getD_eq_getElem?_getD, List.getElem?_eq_getElem hi]
    rfl
  rw [← e]
  exact ⟨this.1, this.2.1, this.2.2.2⟩
theorem fieldsL_of {fs : List (ByteArray × ByteArray)} (tail : List (List UInt8)) (h : ∀ f ∈ fs, TokOk f.1 ∧ ValOk f.2 ∧ f.1 ≠ clen) : fieldsL (fs.map fieldLine ++ tail) = fs.map (fun f => (bs f.1, bs f.2)) ++ fieldsL tail := by
  induction fs with
  | nil => rfl
  | cons f r ih =>
    have hf := h f (by simp)
    have h58 : ∀ b ∈ bs f.1, b ≠ 58 := fun b hb e => by
      have := bs_all hf.1.2.2 b hb
      subst e
      unfold TokB at this
      simp at this
    simp only [List.map_cons, List.cons_append, fieldsL]
    rw [show fieldL [] (fieldLine f) = some (bs f.1, bs f.2) from by have := field_cut (bs f.1) (bs f.2) h58 []; simpa [fieldLine] using this]
    simp only
    rw [if_neg (fun e => hf.2.2 (bs_inj (by rw [e]; rfl))), ih (fun x hx => h x (by simp [hx]))]
theorem fieldsL_clen (n : Nat) : fieldsL [clenLine n] = [] := by
  have h58 : ∀ b ∈ clenL, b ≠ 58 := by decide
  simp only [fieldsL]
  rw [show fieldL [] (clenLine n) = some (clenL, numL n) from by have := field_cut clenL (numL n) h58 []; simpa [clenLine] using this]
  simp
theorem bs_ft (fs : List (ByteArray × ByteArray)) : ∀ k, k ≤ fs.length → bs (ftTo fs k) = ((fs.take k).map fieldLine).flatMap (fun l => l ++ [13, 10]) := by
  intro k
  induction k with
  | zero => intro _; rfl
  | succ k ih =>
    intro hk
    have e : (nameAt fs k, valAt fs k) = fs[k]'(by omega) := by
      unfold nameAt valAt
      rw [List.getD_eq_getElem?_getD, List.getElem?_eq_getElem (by omega)]
      rfl
    have ht : fs.take (k + 1) = fs.take k ++ [fs[k]'(by omega)] := (List.take_append_getElem (by omega)).symm
    rw [ftTo, ht, ← e]
    simp only [bs_append, ih (by omega), List.map_append, List.flatMap_append, List.map_cons, List.map_nil, List.flatMap_cons, List.flatMap_nil, fieldLine]
    simp [bs]
theorem bs_fields (fs : List (ByteArray × ByteArray)) : bs (fieldsText fs) = (fs.map fieldLine).flatMap (fun l => l ++ [13, 10]) := by
  have := bs_ft fs fs.length (Nat.le_refl _)
  rw [List.take_length] at this
  exact this

def httpL : List UInt8 := [72, 84, 84, 80, 47, 49, 46, 49]
def reqLine (m : Int) (path : ByteArray) : List UInt8 := bs (methB m) ++ 32 :: (bs path ++ 32 :: httpL)
def respLine (st : Int) : List UInt8 := httpL ++ 32 :: (numL st.toNat ++ 32 :: [46])
theorem bs_num (n : Nat) : bs (numText n) = numL n := rfl
theorem bs_reqT (m : Int) (path : ByteArray) (fs : List (ByteArray × ByteArray)) (body : ByteArray) : bs (reqT m path fs body) = (reqLine m path :: (fs.map fieldLine ++ (if body.size = 0 then [] else [clenLine body.size]))).flatMap (fun l => l ++ [13, 10]) ++ 13 :: 10 :: bs body := by
  unfold reqT reqHead
  by_cases h : body.size = 0
  · rw [if_pos h, if_pos h]
    simp only [bs_append, bs_fields, List.flatMap_cons, List.append_nil, reqLine]
    simp [bs, httpEnd, lnE, httpL]
  · rw [if_neg h, if_neg h]
    simp only [bs_append, bs_fields, bs_num, List.flatMap_cons, List.flatMap_append, List.flatMap_nil, reqLine, clenLine]
    simp [bs, httpEnd, lnE, httpL, clenK, clenL]
theorem bs_respT (st : Int) (fs : List (ByteArray × ByteArray)) (body : ByteArray) : bs (respT st fs body) = (respLine st :: (fs.map fieldLine ++ [clenLine body.size])).flatMap (fun l => l ++ [13, 10]) ++ 13 :: 10 :: bs body := by
  unfold respT
  simp only [bs_append, bs_fields, bs_num, List.flatMap_cons, List.flatMap_append, List.flatMap_nil, respLine, clenLine]
  simp [bs, httpAhead, dotEnd, lnE2, httpL, clenK, clenL]

theorem numL_dig (n : Nat) (h : n ≤ 1000000) : numL n ≠ [] ∧ ∀ b ∈ numL n, DigB b := by
  unfold numL
  rw [if_neg (by omega)]
  by_cases h0 : n = 0
  · rw [if_pos h0]
    refine ⟨by simp, ?_⟩
    intro b hb
    simp at hb
    subst hb
    unfold DigB; decide
  · rw [if_neg h0]
    have hf := dg_facts 8 n (by omega)
    refine ⟨fun e => ?_, hf.2.2⟩
    have h2 := hf.2.1
    rw [e] at h2
    exact h0 h2.symm
theorem numL_val (n : Nat) (h : n ≤ 1000000) : valL (numL n) = n := by
  unfold numL
  rw [if_neg (by omega)]
  by_cases h0 : n = 0
  · rw [if_pos h0, h0]; rfl
  · rw [if_neg h0]
    exact (dg_facts 8 n (by omega)).2.1
theorem line_field {f : ByteArray × ByteArray} (h : TokOk f.1 ∧ ValOk f.2 ∧ f.1 ≠ clen) : fieldLine f ≠ [] ∧ ∀ b ∈ fieldLine f, b ≠ 13 := by
  refine ⟨by simp [fieldLine], ?_⟩
  intro b hb e
  subst e
  simp only [fieldLine, List.mem_append, List.mem_cons] at hb
  rcases hb with hb | hb | hb | hb
  · have := bs_all h.1.2.2 _ hb
    unfold TokB at this
    simp at this
  · exact absurd hb (by decide)
  · exact absurd hb (by decide)
  · have := bs_all h.2.1.2.2.1 _ hb
    unfold ValB at this
    simp at this
theorem line_clen (n : Nat) (h : n ≤ 1000000) : clenLine n ≠ [] ∧ ∀ b ∈ clenLine n, b ≠ 13 := by
  refine ⟨by simp [clenLine], ?_⟩
  intro b hb e
  subst e
  simp only [clenLine, List.mem_append, List.mem_cons] at hb
  rcases hb with hb | hb | hb | hb
  · exact absurd hb (by decide)
  · exact absurd hb (by decide)
  · exact absurd hb (by decide)
  · have := (numL_dig n h).2 _ hb
    unfold DigB at this
    simp at this
theorem meth_cases {m : Int} (h : 1 ≤ m ∧ m ≤ 4) : m = 1 ∨ m = 2 ∨ m = 3 ∨ m = 4 := by omega
theorem meth_bytes {m : Int} (h : 1 ≤ m ∧ m ≤ 4) : bs (methB m) ≠ [] ∧ ∀ b ∈ bs (methB m), b ≠ 13 ∧ b ≠ 32 := by
  rcases meth_cases h with rfl | rfl | rfl | rfl
  all_goals (constructor <;> decide)
theorem line_req {m : Int} {path : ByteArray} (h : 1 ≤ m ∧ m ≤ 4) (hp : PathOk path) : reqLine m path ≠ [] ∧ ∀ b ∈ reqLine m path, b ≠ 13 := by
  refine ⟨by simp [reqLine], ?_⟩
  intro b hb e
  subst e
  simp only [reqLine, List.mem_append, List.mem_cons] at hb
  rcases hb with hb | hb | hb | hb | hb
  · exact ((meth_bytes h).2 _ hb).1 rfl
  · exact absurd hb (by decide)
  · have := bs_all hp.1 _ hb
    unfold PathB at this
    simp at this
  · exact absurd hb (by decide)
  · exact absurd hb (by decide)
theorem line_resp {st : Int} (h : 100 ≤ st ∧ st ≤ 599) : respLine st ≠ [] ∧ ∀ b ∈ respLine st, b ≠ 13 := by
  refine ⟨by simp [respLine], ?_⟩
  intro b hb e
  subst e
  simp only [respLine, List.mem_append, List.mem_cons] at hb
  rcases hb with hb | hb | hb | hb | hb
  · exact absurd hb (by decide)
  · exact absurd hb (by decide)
  · have := (numL_dig st.toNat (by omega)).2 _ hb
    unfold DigB at this
    simp at this
  · exact absurd hb (by decide)
  · exact absurd hb (by decide)

/-- What is read of a right request's text: its lines, what is behind them. -/
theorem req_head {s : ByteArray} {m : Int} {path : ByteArray} {fs : List (ByteArray × ByteArray)} {body : ByteArray} (h : IsReq s m path fs body) :
    headL [] [] (bs s) = (reqLine m path :: (fs.map fieldLine ++ (if body.size = 0 then [] else [clenLine body.size])), some (bs body)) := by
  obtain ⟨⟨hm, hp, hf, hb⟩, rfl⟩ := h
  rw [bs_reqT, head_lines]
  · rfl
  · intro l hl
    simp only [List.mem_cons, List.mem_append, List.mem_map] at hl
    rcases hl with rfl | ⟨f, hf1, rfl⟩ | hl
    · exact line_req hm hp
    · exact line_field (flds_mem hf f hf1)
    · by_cases h0 : body.size = 0
      · rw [if_pos h0] at hl; simp at hl
      · rw [if_neg h0] at hl
        simp at hl
        subst hl
        exact line_clen _ (by omega)
theorem resp_head {s : ByteArray} {st : Int} {fs : List (ByteArray × ByteArray)} {body : ByteArray} (h : IsResp s st fs body) :
    headL [] [] (bs s) = (respLine st :: (fs.map fieldLine ++ [clenLine body.size]), some (bs body)) := by
  obtain ⟨⟨hm, hf, hb⟩, rfl⟩ := h
  rw [bs_respT, head_lines]
  · rfl
  · intro l hl
    simp only [List.mem_cons, List.mem_append, List.mem_map] at hl
    rcases hl with rfl | ⟨f, hf1, rfl⟩ | hl
    · exact line_resp hm
    · exact line_field (flds_mem hf f hf1)
    · simp at hl
      subst hl
      exact line_clen _ (by omega)
theorem req_words {m : Int} {path : ByteArray} (h : 1 ≤ m ∧ m ≤ 4) (hp : PathOk path) : wordsL [] [] (reqLine m path) = [bs (methB m), bs path, httpL] := by
  unfold reqLine
  rw [words_word _ _ (fun b hb => ((meth_bytes h).2 b hb).2), words_word _ _ (fun b hb e => by
    have := bs_all hp.1 b hb
    subst e
    unfold PathB at this
    simp at this), words_last _ (by decide)]
  rfl
theorem resp_words {st : Int} (h : 100 ≤ st ∧ st ≤ 599) : wordsL [] [] (respLine st) = [httpL, numL st.toNat, [46]] := by
  unfold respLine
  rw [words_word _ _ (by decide), words_word _ _ (fun b hb e => by
    have := (numL_dig st.toNat (by omega)).2 b hb
    subst e
    unfold DigB at this
    simp at this), words_last _ (by decide)]
  rfl
theorem req_fields {fs : List (ByteArray × ByteArray)} (h : FldsOk fs) (n : Nat) : fieldsL (fs.map fieldLine ++ (if n = 0 then [] else [clenLine n])) = fs.map (fun f => (bs f.1, bs f.2)) := by
  rw [fieldsL_of _ (flds_mem h)]
  by_cases h0 : n = 0
  · rw [if_pos h0]; simp [fieldsL]
  · rw [if_neg h0, fieldsL_clen]; simp
theorem resp_fields {fs : List (ByteArray × ByteArray)} (h : FldsOk fs) (n : Nat) : fieldsL (fs.map fieldLine ++ [clenLine n]) = fs.map (fun f => (bs f.1, bs f.2)) := by
  rw [fieldsL_of _ (flds_mem h), fieldsL_clen]; simp
theorem pairs_inj : ∀ {a b : List (ByteArray × ByteArray)}, a.map (fun f => (bs f.1, bs f.2)) = b.map (fun f => (bs f.1, bs f.2)) → a = b
  | [], [], _ => rfl
  | [], _ :: _, h => by simp at h
  | _ :: _, [], h => by simp at h
  | f :: r, g :: t, h => by
    simp only [List.map_cons, List.cons.injEq, Prod.mk.injEq] at h
    rw [pairs_inj h.2]
    congr 1
    exact Prod.ext (bs_inj h.1.1) (bs_inj h.1.2)
theorem meth_inj {a b : Int} (ha : 1 ≤ a ∧ a ≤ 4) (hb : 1 ≤ b ∧ b ≤ 4) (h : bs (methB a) = bs (methB b)) : a = b := by
  rcases meth_cases ha with rfl | rfl | rfl | rfl <;> rcases meth_cases hb with rfl | rfl | rfl | rfl <;> first | rfl | exact absurd h (by decide)
/-- A text is the text of one request at most. -/
theorem IsReq.uniq {s : ByteArray} {m m' : Int} {path path' : ByteArray} {fs fs' : List (ByteArray × ByteArray)} {body body' : ByteArray} (h : IsReq s m path fs body) (h' : IsReq s m' path' fs' body') : m = m' ∧ path = path' ∧ fs = fs' ∧ body = body' := by
  have e := (req_head h).symm.trans (req_head h')
  simp only [Prod.mk.injEq, List.cons.injEq, Option.some.injEq] at e
  obtain ⟨⟨e1, e2⟩, e3⟩ := e
  have e4 := congrArg (wordsL [] []) e1
  rw [req_words h.1.1 h.1.2.1, req_words h'.1.1 h'.1.2.1] at e4
  simp only [List.cons.injEq] at e4
  have e5 := congrArg fieldsL e2
  rw [req_fields h.1.2.2.1, req_fields h'.1.2.2.1] at e5
  exact ⟨meth_inj h.1.1 h'.1.1 e4.1, bs_inj e4.2.1, pairs_inj e5, bs_inj e3⟩
theorem IsResp.uniq {s : ByteArray} {m m' : Int} {fs fs' : List (ByteArray × ByteArray)} {body body' : ByteArray} (h : IsResp s m fs body) (h' : IsResp s m' fs' body') : m = m' ∧ fs = fs' ∧ body = body' := by
  have e := (resp_head h).symm.trans (resp_head h')
  simp only [Prod.mk.injEq, List.cons.injEq, Option.some.injEq] at e
  obtain ⟨⟨e1, e2⟩, e3⟩ := e
  have e4 := congrArg (wordsL [] []) e1
  rw [resp_words h.1.1, resp_words h'.1.1] at e4
  simp only [List.cons.injEq] at e4
  have e5 := congrArg fieldsL e2
  rw [resp_fields h.1.2.1, resp_fields h'.1.2.1] at e5
  have e6 := congrArg valL e4.2.1
  have h1 := h.1.1
  have h2 := h'.1.1
  rw [numL_val _ (by omega), numL_val _ (by omega)] at e6
  exact ⟨by omega, pairs_inj e5, bs_inj e3⟩

end Go.Proofs.YtlmenolcgaakeaaDoor

namespace Go.Proofs.YtlmenolcgaakeaaDoor
open Go.RowKit
open Go.Lib hiding intOf

attribute [local go_sem ↓] Go.wp_at_zero Go.wp_at_succ

/-- A list of fields that came in, in blocks below B. -/
structure ArgF (w : World) (B : Nat) (a : Option Addr) (n : Nat) (fs : List (ByteArray × ByteArray)) : Prop where
  len : fs.length = n
  get : ∀ i, i < n → ∃ b off, a = some ⟨b, off, none⟩ ∧ b < B ∧ w.cell? ⟨b, off + i * 2, none⟩ = some (.string (nameAt fs i)) ∧ w.cell? ⟨b, off + i * 2 + 1, none⟩ = some (.string (valAt fs i))
theorem ArgF.below {w w' : World} {B : Nat} {a : Option Addr} {n : Nat} {fs : List (ByteArray × ByteArray)} (h : ArgF w B a n fs) (hb : Below B w w') : ArgF w' B a n fs :=
  ⟨h.len, fun i hi => by
    obtain ⟨b, off, h1, h2, h3, h4⟩ := h.get i hi
    exact ⟨b, off, h1, h2, by rw [hb.cell (p := ⟨b, off + i * 2, none⟩) h2]; exact h3, by rw [hb.cell (p := ⟨b, off + i * 2 + 1, none⟩) h2]; exact h4⟩⟩

theorem heap_set (w : World) (c o : Nat) (cs : Array Value) (t : TypeId) (fz : Nat × Nat) (v : Value) (h : w.heap[c]? = some (.cells cs t fz)) : (w.setCell ⟨c, o, none⟩ v).heap[c]? = some (.cells (cs.setIfInBounds o v) t fz) := by
  simp [World.setCell, Array.getElem?_modify, h]
/-- The first k fields of a row of 2 n cells are told. -/
def PartRow (w : World) (g n k : Nat) (fs : List (ByteArray × ByteArray)) : Prop :=
  ∃ cur, w.heap[g]? = some (.cells cur 132 (0, 0)) ∧ cur.size = n * 2 ∧ ∀ i, i < k → cur[i * 2]? = some (.string (nameAt fs i)) ∧ cur[i * 2 + 1]? = some (.string (valAt fs i))
theorem PartRow.below {w w' : World} {g n k B : Nat} {fs : List (ByteArray × ByteArray)} (h : PartRow w g n k fs) (hb : Below B w w') (hB : g < B) : PartRow w' g n k fs := by
  obtain ⟨cur, h1, h2⟩ := h
  exact ⟨cur, by rw [hb.block g hB]; exact h1, h2⟩
theorem PartRow.lt {w : World} {g n k : Nat} {fs : List (ByteArray × ByteArray)} (h : PartRow w g n k fs) : g < w.heap.size := by
  obtain ⟨cur, h1, _⟩ := h
  exact (Array.getElem?_eq_some_iff.1 h1).1
theorem PartRow.cell {w : World} {g n k : Nat} {fs : List (ByteArray × ByteArray)} (h : PartRow w g n k fs) (j : Nat) (hj : j < n * 2) : ∃ u, w.cell? ⟨g, j, none⟩ = some u := by
  obtain ⟨cur, h1, h2, _⟩ := h
  refine ⟨cur[j]'(by omega), ?_⟩
  simp only [World.cell?, h1]
  simp [show j < cur.size by omega]
theorem PartRow.frozen {w : World} {g n k : Nat} {fs : List (ByteArray × ByteArray)} (h : PartRow w g n k fs) (j : Nat) : w.frozen? ⟨g, j, none⟩ = false := by
  obtain ⟨cur, h1, _⟩ := h
  simp [World.frozen?, h1]
theorem PartRow.put {w : World} {g n k : Nat} {fs : List (ByteArray × ByteArray)} (h : PartRow w g n k fs) (hk : k < n) : PartRow ((w.setCell ⟨g, k * 2, none⟩ (.string (nameAt fs k))).setCell ⟨g, k * 2 + 1, none⟩ (.string (valAt fs k))) g n (k + 1) fs := by
  obtain ⟨cur, h1, h2, h3⟩ := h
  refine ⟨_, heap_set _ g (k * 2 + 1) _ _ _ _ (heap_set w g (k * 2) _ _ _ _ h1), by simpa using h2, ?_⟩
  intro i hi
  by_cases e : i = k
  · subst e
    refine ⟨?_, ?_⟩
    · rw [Array.getElem?_setIfInBounds_ne (by omega), Array.getElem?_setIfInBounds_self_of_lt (by omega)]
    · rw [Array.getElem?_setIfInBounds_self_of_lt (by simp; omega)]
  · have := h3 i (by omega)
    refine ⟨?_, ?_⟩
    · rw [Array.getElem?_setIfInBounds_ne (by omega), Array.getElem?_setIfInBounds_ne (by omega)]; exact this.1
    · rw [Array.getElem?_setIfInBounds_ne (by omega), Array.getElem?_setIfInBounds_ne (by omega)]; exact this.2
theorem nameAt_set (fs : List (ByteArray × ByteArray)) (k j : Nat) (p : ByteArray × ByteArray) (hk : k < fs.length) : nameAt (fs.set k p) j = (if j = k then p.1 else nameAt fs j) ∧ valAt (fs.set k p) j = (if j = k then p.2 else valAt fs j) := by
  unfold nameAt valAt
  rw [List.getD_eq_getElem?_getD, List.getD_eq_getElem?_getD]
  by_cases e : j = k
  · subst e
    rw [if_pos rfl, if_pos rfl, List.getElem?_set_self (by omega)]
    exact ⟨rfl, rfl⟩
  · rw [if_neg e, if_neg e, List.getElem?_set_ne (by omega)]
    exact ⟨rfl, rfl⟩
/-- One field of a row stored anew. -/
theorem FieldRow.set {base : Nat} {w : World} {g n cap : Nat} {fs : List (ByteArray × ByteArray)} (h : FieldRow base w g n cap fs) (k : Nat) (hk : k < n) (a b : ByteArray) (W : World) (hW : W.heap[g]? = ((w.setCell ⟨g, k * 2, none⟩ (.string a)).setCell ⟨g, k * 2 + 1, none⟩ (.string b)).heap[g]?) (hsz : w.heap.size ≤ W.heap.size) : FieldRow base W g n cap (fs.set k (a, b)) := by
  have hl := h.len; have hle := h.le
  obtain ⟨cur, h1, h2, h3⟩ := h.heap
  have hlt := h.lt
  refine ⟨by simp [hl], h.base, by omega, h.le, h.mx, (cur.setIfInBounds (k * 2) (.string a)).setIfInBounds (k * 2 + 1) (.string b), ?_, by simpa using h2, ?_⟩
  · rw [hW]; exact heap_set _ g (k * 2 + 1) _ _ _ _ (heap_set w g (k * 2) _ _ _ _ h1)
  · intro i hi
    have hs := nameAt_set fs k i (a, b) (by omega)
    rw [hs.1, hs.2]
    by_cases e : i = k
    · subst e
      rw [if_pos rfl, if_pos rfl]
      refine ⟨?_, ?_⟩
      · rw [Array.getElem?_setIfInBounds_ne (by omega), Array.getElem?_setIfInBounds_self_of_lt (by omega)]
      · rw [Array.getElem?_setIfInBounds_self_of_lt (by simp; omega)]
    · rw [if_neg e, if_neg e]
      have := h3 i hi
      refine ⟨?_, ?_⟩
      · rw [Array.getElem?_setIfInBounds_ne (by omega), Array.getElem?_setIfInBounds_ne (by omega)]; exact this.1
      · rw [Array.getElem?_setIfInBounds_ne (by omega), Array.getElem?_setIfInBounds_ne (by omega)]; exact this.2

end Go.Proofs.YtlmenolcgaakeaaDoor

namespace Go.Proofs.YtlmenolcgaakeaaDoor
open Go.RowKit
open Go.Lib hiding intOf

set_option maxHeartbeats 1000000 in
theorem l3Path_any (s : ByteArray) (w : World) (hs : s.size ≤ maxLen) :
    Calls Tryd.prog 37 #[.string s] w fun e w' => BoolIs (PathOk s) w e w' := by
  unfold maxLen at hs
  go_enter Tryd.func37, Tryd.ntmps37
  go_wp2
  go_loop [3] (fun i => ∃ k : Nat, k ≤ s.size ∧ i = .int .i64 k ∧ Hid (AllTo PathB s k)) (fun i => s.size - (intOf i).toNat)
  case atStart => exact ⟨0, Nat.zero_le _, rfl, allTo_zero _ _⟩
  case round =>
    obtain ⟨k, hk, rfl, hall⟩ := hrel
    by_cases hlt : k < s.size
    · go_wp2
      all_goals first
        | (go_ret
           have hno : ¬ PathB ((s[k]'hlt).toNat : Int) := by
             unfold PathB
             omega
           exact BoolIs.no (fun h => hno (h.1 k hlt)) (Below.refl _ _))
        | (go_round
           case rel =>
             have hy : PathB ((s[k]'hlt).toNat : Int) := by
               unfold PathB
               omega
             exact ⟨k + 1, by omega, by go_num, allTo_succ hall.out hlt hy⟩
           case measure => simp [intOf]; omega)
    · have hend : Hid (AllB PathB s) := allTo_end hall.out hlt
      by_cases h1 : (1 : Int) ≤ (s.size : Int)
      · have h0 : 0 < s.size := by omega
        by_cases h2 : (s.size : Int) ≤ 60
        · by_cases h3 : ((s[0]'h0).toNat : Int) = 47
          · go_wp2
            go_ret
            exact BoolIs.yes ⟨hend.out, by omega, by omega, h0, by omega⟩ (Below.refl _ _)
          · have h4 : (((s[0]'h0).toNat : Int) == 47) = false := by rw [beq_eq_false_iff_ne]; exact h3
            go_wp2
            go_ret
            exact BoolIs.no (fun h => by obtain ⟨_, _, _, _, h5⟩ := h; omega) (Below.refl _ _)
        · go_wp2
          go_ret
          exact BoolIs.no (fun h => by obtain ⟨_, _, h5, _⟩ := h; omega) (Below.refl _ _)
      · go_wp2
        go_ret
        exact BoolIs.no (fun h => by obtain ⟨_, h5, _⟩ := h; omega) (Below.refl _ _)

set_option maxHeartbeats 400000 in
theorem l1In_any (x lo hi : Int) (w : World) :
    Calls Tryd.prog 36 #[.int .i64 x, .int .i64 lo, .int .i64 hi] w fun e w' => e = .returned (.bool (decide (lo ≤ x ∧ x ≤ hi))) ∧ w' = w := by
  by_cases h1 : lo ≤ x
  · by_cases h2 : x ≤ hi
    · go_enter Tryd.func36, Tryd.ntmps36
      go_wp2
      go_ret
      exact ⟨by simp [h1, h2], rfl⟩
    · go_enter Tryd.func36, Tryd.ntmps36
      go_wp2
      go_ret
      exact ⟨by simp [h2], rfl⟩
  · go_enter Tryd.func36, Tryd.ntmps36
    go_wp2
    go_ret
    exact ⟨by simp; omega, rfl⟩

end Go.Proofs.YtlmenolcgaakeaaDoor

namespace Go.Proofs.YtlmenolcgaakeaaDoor
open Go.RowKit
open Go.Lib hiding intOf

theorem dgF_len : ∀ (f n : Nat), (dgF f n).length ≤ f
  | 0, n => by simp [dgF]
  | f + 1, n => by
    by_cases h : n = 0
    · rw [h, dgF_zero]; simp
    · rw [dgF_pos f n h]
      have := dgF_len f (n / 10)
      simp; omega
theorem numText_size (n : Nat) : (numText n).size ≤ 8 := by
  have : (numText n).size = (numL n).length := by simp [numText, ByteArray.size]
  rw [this]
  unfold numL
  split
  · simp
  · split
    · simp
    · exact dgF_len 8 n
theorem empty_text {b : ByteArray} (h : b.size = 0) : b = ⟨#[]⟩ := by
  apply ByteArray.ext
  exact Array.eq_empty_of_size_eq_zero h

/-- A call answers the text of what is right, nothing else of what is not. -/
def TextOf (p : Prop) (t : ByteArray) (w : World) (e : Ending) (w' : World) : Prop := ∃ u : ByteArray, e = .returned (.string u) ∧ (p → u = t) ∧ (¬ p → u = ⟨#[]⟩) ∧ Below w.heap.size w w'

end Go.Proofs.YtlmenolcgaakeaaDoor

namespace Go.Proofs.YtlmenolcgaakeaaDoor
open Go.RowKit

theorem bs_extract (s : ByteArray) (f j : Nat) : bs (s.extract f j) = ((bs s).take j).drop f := by
  simp [bs, List.drop_take]
theorem bs_at (s : ByteArray) (j : Nat) (h : j < s.size) : (bs s)[j]'(by rw [bs_len]; exact h) = s[j]'h := rfl
theorem bs_drop (s : ByteArray) (j : Nat) (h : j < s.size) : (bs s).drop j = s[j]'h :: (bs s).drop (j + 1) := by
  rw [List.drop_eq_getElem_cons (by rw [bs_len]; exact h), bs_at s j h]
theorem take_snoc (s : ByteArray) (f j : Nat) (hf : f ≤ j) (h : j < s.size) : ((bs s).take (j + 1)).drop f = ((bs s).take j).drop f ++ [s[j]'h] := by
  have hl : j < (bs s).length := by rw [bs_len]; exact h
  rw [List.take_succ_eq_append_getElem hl, List.drop_append_of_le_length (by rw [List.length_take]; omega), bs_at s j h]
theorem take_none (s : ByteArray) (k : Nat) : ((bs s).take k).drop k = [] := by
  apply List.drop_eq_nil_of_le
  rw [List.length_take]; omega
theorem u8_eq (b : UInt8) (n : Nat) (hn : n < 256) : b = UInt8.ofNat n ↔ b.toNat = n := by
  constructor
  · intro h; rw [h, UInt8.toNat_ofNat']; omega
  · intro h; rw [← h]; simp

def WdInv (s : ByteArray) (l : List ByteArray) (f k : Nat) : Prop :=
  if k ≤ s.size then wordsL [] [] (bs s) = wordsL (l.map bs) (((bs s).take k).drop f) ((bs s).drop k) else wordsL [] [] (bs s) = l.map bs
theorem wd_start (s : ByteArray) : WdInv s [] 0 0 := by simp [WdInv]
theorem wd_blank {s : ByteArray} {l : List ByteArray} {f k : Nat} (hk : k < s.size) (hc : (s[k]'hk).toNat = 32) (h : WdInv s l f k) : WdInv s (l ++ [s.extract f k]) (k + 1) (k + 1) := by
  unfold WdInv at *
  rw [if_pos (by omega), bs_drop s k hk, wordsL, if_pos (show s[k]'hk = 32 from (u8_eq _ 32 (by omega)).2 hc)] at h
  rw [if_pos (by omega), h, take_none, List.map_append, List.map_cons, List.map_nil, bs_extract]
theorem wd_last {s : ByteArray} {l : List ByteArray} {f k : Nat} (hk : k = s.size) (h : WdInv s l f k) : WdInv s (l ++ [s.extract f k]) (k + 1) (k + 1) := by
  unfold WdInv at *
  rw [if_pos (by omega), (show (bs s).drop k = [] from List.drop_eq_nil_of_le (by rw [bs_len]; omega)), wordsL] at h
  rw [if_neg (by omega), h, List.map_append, List.map_cons, List.map_nil, bs_extract]
theorem wd_other {s : ByteArray} {l : List ByteArray} {f k : Nat} (hf : f ≤ k) (hk : k < s.size) (hc : (s[k]'hk).toNat ≠ 32) (h : WdInv s l f k) : WdInv s l f (k + 1) := by
  unfold WdInv at *
  rw [if_pos (by omega), bs_drop s k hk, wordsL, if_neg (show ¬ s[k]'hk = 32 from fun e => hc ((u8_eq _ 32 (by omega)).1 e))] at h
  rw [if_pos (by omega), h, take_snoc s f k hf hk]
theorem wd_end {s : ByteArray} {l : List ByteArray} {f k : Nat} (hk : ¬ k ≤ s.size) (h : WdInv s l f k) : wordsL [] [] (bs s) = l.map bs := by
  unfold WdInv at h
  rwa [if_neg hk] at h

def bsP (f : ByteArray × ByteArray) : List UInt8 × List UInt8 := (bs f.1, bs f.2)
end Go.Proofs.YtlmenolcgaakeaaDoor

namespace Go.Proofs.YtlmenolcgaakeaaDoor
open Go.RowKit
open Go.Lib hiding intOf

/-- What stands between blanks, in a list of the call's own. -/
def WordsIs (s : ByteArray) (w : World) (e : Ending) (w' : World) : Prop :=
  ∃ (v : Value) (xs : List ByteArray), e = .returned v ∧ w'.ownsRow w.heap.size 9 1 v xs.length (xs.map Value.string) ∧ xs.length ≤ s.size + 1 ∧ Below w.heap.size w w' ∧ wordsL [] [] (bs s) = xs.map bs

set_option maxHeartbeats 4000000 in
set_option maxRecDepth 100000 in
theorem l3Words_any (s : ByteArray) (w : World) (hs : s.size ≤ 4000000) :
    Calls Tryd.prog 31 #[.string s] w fun e w' => WordsIs s w e w' := by
  obtain ⟨i0, hi, hz0, hz1, hz2⟩ := info_parts info9
  go_enter Tryd.func31, Tryd.ntmps31
  go_wp2
  go_loopw [3, 4, 5] (fun v a i wr => ∃ (k f : Nat) (l : List ByteArray), k ≤ s.size + 1 ∧ f ≤ k ∧ l.length ≤ k ∧ i = .int .i64 (k : Int) ∧ a = .int .i64 (f : Int) ∧ Below w.heap.size w wr ∧
      Hid (WdInv s l f k) ∧ wr.ownsRow w.heap.size 9 1 v l.length (l.map Value.string)) (fun _ _ i _ => s.size + 1 - (intOf i).toNat)
  case atStart =>
    exact ⟨0, 0, [], Nat.zero_le _, Nat.le_refl _, Nat.le_refl _, rfl, rfl, (Below.refl _ _).alloc (Nat.le_refl _) _, wd_start s, ⟨rfl, .inr ⟨w.heap.size, 0, #[], rfl, Nat.le_refl _, heap_alloc_new w _, Nat.le_refl _, Nat.zero_le _, rfl, rfl⟩⟩⟩
  case round =>
    obtain ⟨k, f, l, hk, hfk, hlk, rfl, rfl, hbw, hinv, hown⟩ := hrel
    have h63 : l.length + 1 ≤ maxLen := by unfold maxLen; omega
    have h47 : (l.length + 1) * 16 ≤ 140737488355328 := by omega
    by_cases hks : k ≤ s.size
    · have hks2 : (k : Int) ≤ (s.size : Int) := by omega
      by_cases hlt : k < s.size
      · have hlt2 : (k : Int) < (s.size : Int) := by omega
        have hne : ((k : Int) == (s.size : Int)) = false := by rw [beq_eq_false_iff_ne]; omega
        by_cases hc : (s[k]'hlt).toNat = 32
        · have t1 : (((s[k]'hlt).toNat : Int) == 32) = true := by rw [beq_iff_eq]; omega
          have HI : Hid _ := wd_blank hlt hc hinv.out
          have HBS : ∀ o, w.heap.size ≤ (wr.alloc o).heap.size := fun o => by have := hbw.size; simp; omega
          clear hc hk
          go_wp2_with (at_builtin; refine wpList_append_own _ rfl _ _ 42 rfl w.heap.size 9 i0 (.string ⟨#[]⟩) 1 16 Tryd.underlying42 hi hz0 hz1 hz2 rfl (by decide) _ _ _ rfl (hown.alloc _) ⟨wr.heap.size, 0, none⟩ 1 1 [.string (s.extract f k)] rfl rfl (cell_one_new _ _ _) (one_text _) h63 h47 (HBS _) ?_)
          intro v1 w2 hown2 hgrow _
          have hb2 : Below w.heap.size w w2 := (hbw.alloc hbw.size _).grown hgrow (HBS _) (fun g hg => owns_ge hown hg)
          have hown3 : w2.ownsRow w.heap.size 9 1 v1 (l ++ [s.extract f k]).length ((l ++ [s.extract f k]).map Value.string) := by simpa using hown2
          clear hown HBS hgrow hown2 hbw
          go_wp2
          go_roundw
          case rel => exact ⟨k + 1, k + 1, _, by omega, by omega, by simp; omega, by go_num, by go_num, hb2, HI, hown3⟩
          case measure => simp [intOf]; omega
        · have t1 : (((s[k]'hlt).toNat : Int) == 32) = false := by rw [beq_eq_false_iff_ne]; omega
          have HI : Hid _ := wd_other hfk hlt hc hinv.out
          clear hc hk
          go_wp2
          go_roundw
          case rel => exact ⟨k + 1, f, l, by omega, by omega, by omega, by go_num, rfl, hbw, HI, hown⟩
          case measure => simp [intOf]; omega
      · obtain rfl : k = s.size := by omega
        have HI : Hid _ := wd_last rfl hinv.out
        have HBS : ∀ o, w.heap.size ≤ (wr.alloc o).heap.size := fun o => by have := hbw.size; simp; omega
        clear hk
        go_wp2_with (at_builtin; refine wpList_append_own _ rfl _ _ 42 rfl w.heap.size 9 i0 (.string ⟨#[]⟩) 1 16 Tryd.underlying42 hi hz0 hz1 hz2 rfl (by decide) _ _ _ rfl (hown.alloc _) ⟨wr.heap.size, 0, none⟩ 1 1 [.string (s.extract f s.size)] rfl rfl (cell_one_new _ _ _) (one_text _) h63 h47 (HBS _) ?_)
        intro v1 w2 hown2 hgrow _
        have hb2 : Below w.heap.size w w2 := (hbw.alloc hbw.size _).grown hgrow (HBS _) (fun g hg => owns_ge hown hg)
        have hown3 : w2.ownsRow w.heap.size 9 1 v1 (l ++ [s.extract f s.size]).length ((l ++ [s.extract f s.size]).map Value.string) := by simpa using hown2
        clear hown HBS hgrow hown2 hbw
        go_wp2
        go_roundw
        case rel => exact ⟨s.size + 1, s.size + 1, _, by omega, by omega, by simp; omega, by go_num, by go_num, hb2, HI, hown3⟩
        case measure => simp [intOf]
    · have HE : Hid _ := wd_end hks hinv.out
      have hks2 : ¬ (k : Int) ≤ (s.size : Int) := by omega
      go_wp2
      go_ret
      exact ⟨_, l, rfl, hown, by omega, hbw, HE.out⟩

end Go.Proofs.YtlmenolcgaakeaaDoor

namespace Go.Proofs.YtlmenolcgaakeaaDoor
open Go.RowKit
open Go.Lib hiding intOf

theorem flatF_append (a b : List (ByteArray × ByteArray)) : flatF (a ++ b) = flatF a ++ flatF b := by simp [flatF]
theorem flatF_one (nm vl : ByteArray) : flatF [(nm, vl)] = [.string nm, .string vl] := rfl
/-- The cells of a row, one behind the other. -/
theorem FieldRow.cells {base : Nat} {w : World} {g n cap : Nat} {fs : List (ByteArray × ByteArray)} (h : FieldRow base w g n cap fs) : ∀ j u, (flatF fs)[j]? = some u → w.cell? ((⟨g, 0, none⟩ : Addr).add j) = some u := by
  intro j u hj
  have hl := h.len
  have hjl : j < fs.length * 2 := by
    rw [← flatF_len]
    exact (List.getElem?_eq_some_iff.1 hj).1
  have e0 : (⟨g, 0, none⟩ : Addr).add j = ⟨g, j, none⟩ := by
    unfold Addr.add; split <;> simp_all
  rw [e0]
  have hf := flatF_get fs (j / 2) (by omega)
  rcases Nat.mod_two_eq_zero_or_one j with e | e
  · have e2 : j / 2 * 2 = j := by omega
    have hc := h.name (j / 2) (by omega)
    rw [e2] at hf hc
    rw [hf.1] at hj
    cases hj
    exact hc
  · have e2 : j / 2 * 2 + 1 = j := by omega
    have hc := h.val (j / 2) (by omega)
    rw [e2] at hf hc
    rw [hf.2] at hj
    cases hj
    exact hc
end Go.Proofs.YtlmenolcgaakeaaDoor

namespace Go.Proofs.YtlmenolcgaakeaaDoor
open Go.RowKit
open Go.Lib hiding intOf

/-- A list of texts that a function reads, in blocks below B. -/
def TextsV (w : World) (B : Nat) (a : Option Addr) (n : Nat) (xs : List ByteArray) : Prop :=
  xs.length = n ∧ ∀ i (h : i < xs.length), ∃ g off, a = some ⟨g, off, none⟩ ∧ g < B ∧ w.cell? ⟨g, off + i, none⟩ = some (.string (xs[i]'h))
theorem TextsV.below {w w' : World} {B : Nat} {a : Option Addr} {n : Nat} {xs : List ByteArray} (h : TextsV w B a n xs) (hb : Below B w w') : TextsV w' B a n xs :=
  ⟨h.1, fun i hi => by
    obtain ⟨g, off, h1, h2, h3⟩ := h.2 i hi
    exact ⟨g, off, h1, h2, by rw [hb.cell (p := ⟨g, off + i, none⟩) h2]; exact h3⟩⟩

end Go.Proofs.YtlmenolcgaakeaaDoor

namespace Go.Proofs.YtlmenolcgaakeaaDoor
open Go.RowKit
open Go.Lib hiding intOf

theorem wordsL_len : ∀ (r : List UInt8) (out : List (List UInt8)) (cur : List UInt8), ∀ x ∈ wordsL out cur r, x ∈ out ∨ x.length ≤ cur.length + r.length := by
  intro r
  induction r with
  | nil =>
    intro out cur x hx
    rw [wordsL] at hx
    rcases List.mem_append.1 hx with h | h
    · exact .inl h
    · simp at h; subst h; exact .inr (by simp)
  | cons c t ih =>
    intro out cur x hx
    rw [wordsL] at hx
    split at hx
    · rcases ih (out ++ [cur]) [] x hx with h1 | h1
      · rcases List.mem_append.1 h1 with h2 | h2
        · exact .inl h2
        · simp at h2; subst h2; exact .inr (by omega)
      · exact .inr (by simp at h1 ⊢; omega)
    · rcases ih out (cur ++ [c]) x hx with h1 | h1
      · exact .inl h1
      · exact .inr (by simp at h1 ⊢; omega)
theorem map_bs_inj : ∀ {a b : List ByteArray}, a.map bs = b.map bs → a = b
  | [], [], _ => rfl
  | [], _ :: _, h => by simp at h
  | _ :: _, [], h => by simp at h
  | x :: r, y :: t, h => by
    simp only [List.map_cons, List.cons.injEq] at h
    rw [map_bs_inj h.2, bs_inj h.1]

/-- What is read of a text, ahead of the last look: the words of its first line, the fields of the others, what is behind. -/
structure Parts (s : ByteArray) (xs : List ByteArray) (k : Nat) (ws : List ByteArray) (l : List (ByteArray × ByteArray)) : Prop where
  head : headL [] [] (bs s) = (xs.map bs, some ((bs s).drop k))
  ne : xs ≠ []
  words : wordsL [] [] (bs (xs.headD ⟨#[]⟩)) = ws.map bs
  fields : fieldsL (xs.tail.map bs) = l.map bsP
/-- A request's text is read as the request. -/
theorem IsReq.parts {s : ByteArray} {m : Int} {p : ByteArray} {fs : List (ByteArray × ByteArray)} {b : ByteArray} (h : IsReq s m p fs b) {xs : List ByteArray} {k : Nat} {ws : List ByteArray} {l : List (ByteArray × ByteArray)} (hp : Parts s xs k ws l) :
    ∃ x, ws = [methB m, p, x] ∧ l = fs ∧ s.extract k s.size = b := by
  have e := hp.head.symm.trans (req_head h)
  simp only [Prod.mk.injEq, Option.some.injEq] at e
  obtain ⟨e1, e2⟩ := e
  obtain ⟨x0, xr, rfl⟩ : ∃ x0 xr, xs = x0 :: xr := by
    cases xs with
    | nil => exact absurd rfl hp.ne
    | cons a r => exact ⟨a, r, rfl⟩
  simp only [List.map_cons, List.cons.injEq] at e1
  have hw := hp.words
  simp only [List.headD_cons] at hw
  rw [e1.1, req_words h.1.1 h.1.2.1] at hw
  have hf := hp.fields
  simp only [List.tail_cons] at hf
  rw [e1.2, req_fields h.1.2.2.1] at hf
  refine ⟨⟨httpL.toArray⟩, map_bs_inj (by rw [← hw]; rfl), (pairs_inj hf).symm, bs_inj ?_⟩
  rw [bs_extract, List.take_of_length_le (i := s.size) (l := bs s) (by rw [bs_len]; omega)]
  exact e2

theorem slice_of_owns {w : World} {base : Nat} {t : TypeId} {size : Nat} {v : Value} {n : Nat} {xs : List Value} (h : w.ownsRow base t size v n xs) : ∃ oa cp, v = .slice oa n cp := by
  rcases h.2 with ⟨rfl, rfl⟩ | ⟨g, cap, cur, rfl, _⟩
  · exact ⟨none, 0, rfl⟩
  · exact ⟨_, cap, rfl⟩
theorem grown_below {w w' : World} (hb : Below w.heap.size w w') (row : Option Nat) : w.grownBy w' row := ⟨hb.os, hb.tape, hb.output, hb.size, fun k hk _ => hb.block k hk⟩
theorem grown_then {a w w' : World} {row : Option Nat} (h : a.grownBy w row) (k : w.grownBy w' row) : a.grownBy w' row :=
  ⟨k.os.trans h.os, k.tape.trans h.tape, k.output.trans h.output, Nat.le_trans h.size k.size, fun i hi hne => (k.block i (Nat.lt_of_lt_of_le hi h.size) hne).trans (h.block i hi hne)⟩
theorem grown_set (w : World) (r o : Nat) (v : Value) : w.grownBy (w.setCell ⟨r, o, none⟩ v) (some r) :=
  ⟨rfl, rfl, rfl, by simp, fun k _ hk => heap_setCell_other _ _ k _ (fun e => hk (by rw [e]))⟩
theorem below_grown {B r : Nat} {a b : World} (h : a.grownBy b (some r)) (hB : B ≤ a.heap.size) (hr : B ≤ r) : Below B a b :=
  ⟨h.os, h.tape, h.output, h.size, fun k hk => h.block k (by omega) (fun e => by have := Option.some.inj e; omega)⟩
end Go.Proofs.YtlmenolcgaakeaaDoor

namespace Go.Proofs.YtlmenolcgaakeaaDoor
open Go.RowKit
open Go.Lib hiding intOf

theorem and255 (x : Int) : 0 ≤ bits BinOp.and IntKind.i64 x 255 ∧ bits BinOp.and IntKind.i64 x 255 < 256 := by
  have h : (BitVec.ofInt 64 x &&& BitVec.ofInt 64 255).toNat ≤ 255 := by
    rw [BitVec.toNat_and]
    exact Nat.and_le_right
  unfold bits
  simp only
  rw [IntKind.wrap_i64]
  show 0 ≤ (((BitVec.ofInt 64 x &&& BitVec.ofInt 64 255).toNat : Int) + 9223372036854775808) % 18446744073709551616 - 9223372036854775808 ∧ (((BitVec.ofInt 64 x &&& BitVec.ofInt 64 255).toNat : Int) + 9223372036854775808) % 18446744073709551616 - 9223372036854775808 < 256
  omega

/-- The bytes that a draw reads: a slice that came in, in blocks below B. -/
structure CodeAt (w : World) (B : Nat) (a : Option Addr) (len : Nat) (zs : List Int) : Prop where
  le : len ≤ 1048576
  get : ∀ j, j < len → ∃ b off, a = some ⟨b, off, none⟩ ∧ b < B ∧ w.cell? ⟨b, off + j, none⟩ = some (.int .u8 (zs.getD j 0)) ∧ 0 ≤ zs.getD j 0 ∧ zs.getD j 0 ≤ 255
theorem CodeAt.below {w w' : World} {B : Nat} {a : Option Addr} {len : Nat} {zs : List Int} (h : CodeAt w B a len zs) (hb : Below B w w') : CodeAt w' B a len zs :=
  ⟨h.le, fun j hj => by
    obtain ⟨b, off, h1, h2, h3, h4⟩ := h.get j hj
    exact ⟨b, off, h1, h2, by rw [hb.cell (p := ⟨b, off + j, none⟩) h2]; exact h3, h4⟩⟩
theorem CodeAt.upTo {w : World} {B C : Nat} {a : Option Addr} {len : Nat} {zs : List Int} (h : CodeAt w B a len zs) (hC : B ≤ C) : CodeAt w C a len zs :=
  ⟨h.le, fun j hj => by
    obtain ⟨b, off, h1, h2, h3⟩ := h.get j hj
    exact ⟨b, off, h1, by omega, h3⟩⟩
/-- The cursor lies in block c. -/
def CurAt (w : World) (c : Nat) (a : Option Addr) (len cap : Nat) : Prop :=
  ∃ (i : Nat) (h : Int), i ≤ len ∧ w.heap[c]? = some (.cells #[.slice a len cap, .int .i64 (i : Int), .int .i64 h] 64 (0, 0))
theorem CurAt.lt {w : World} {c : Nat} {a : Option Addr} {len cap : Nat} (h : CurAt w c a len cap) : c < w.heap.size := by
  obtain ⟨i, h, _, hh⟩ := h
  exact (Array.getElem?_eq_some_iff.1 hh).1
theorem CurAt.below {w w' : World} {B c : Nat} {a : Option Addr} {len cap : Nat} (h : CurAt w c a len cap) (hb : Below B w w') (hc : c < B) : CurAt w' c a len cap := by
  obtain ⟨i, h, hi, hh⟩ := h
  exact ⟨i, h, hi, by rw [hb.block c hc]; exact hh⟩

theorem heap_setCell_self (w : World) (c o : Nat) (cs : Array Value) (t : TypeId) (fz : Nat × Nat) (v : Value) (h : w.heap[c]? = some (.cells cs t fz)) : (w.setCell ⟨c, o, none⟩ v).heap[c]? = some (.cells (cs.setIfInBounds o v) t fz) := by
  simp [World.setCell, Array.getElem?_modify, h]

theorem grownBy_drewN {a w : World} {row : Option Nat} (h : a.grownBy w row) (n : Nat) : a.grownBy (w.drewN n) row := ⟨h.os, h.tape, h.output, h.size, h.block⟩

/-- A call on the cursor answers a number from 0 to below m, and turns the cursor alone of what was there. -/
def DrawIs (m : Int) (w : World) (c : Nat) (a : Option Addr) (len cap : Nat) (e : Ending) (w' : World) : Prop :=
  ∃ x : Int, e = .returned (.int .i64 x) ∧ 0 ≤ x ∧ x < m ∧ CurAt w' c a len cap ∧ w.grownBy w' (some c)

set_option maxHeartbeats 1000000 in
theorem l1Byte_any (c B : Nat) (a : Option Addr) (len cap : Nat) (zs : List Int) (w : World) (hcur : CurAt w c a len cap) (hcode : CodeAt w B a len zs) (hB : B ≤ c) :
    Calls Tryd.prog 45 #[.pointer (some ⟨c, 0, none⟩)] w fun e w' => DrawIs 256 w c a len cap e w' := by
  obtain ⟨i, h, hi1, hh⟩ := hcur
  have hc0 : w.cell? ⟨c, 0, none⟩ = some (.slice a len cap) := by simp [World.cell?, hh]
  have hc1 : w.cell? ⟨c, 1, none⟩ = some (.int .i64 (i : Int)) := by simp [World.cell?, hh]
  have hc2 : w.cell? ⟨c, 2, none⟩ = some (.int .i64 h) := by simp [World.cell?, hh]
  have hf1 : w.frozen? ⟨c, 1, none⟩ = false := by simp [World.frozen?, hh]
  have hf2 : w.frozen? ⟨c, 2, none⟩ = false := by simp [World.frozen?, hh]
  have HH : Hid _ := hh
  clear hh
  have hlen := hcode.le
  by_cases hlt : (i : Int) < (len : Int)
  · obtain ⟨b, off, rfl, hbB, hcell, hz0, hz1⟩ := hcode.get i (by omega)
    have hcell2 : ∀ o v, (w.setCell ⟨c, o, none⟩ v).cell? ⟨b, off + i, none⟩ = some (.int .u8 (zs.getD i 0)) := fun o v => by
      rw [World.cell?_setCell_other (h := fun e => by cases e; omega)]; exact hcell
    obtain ⟨z, hz⟩ : ∃ z, z = zs.getD i 0 := ⟨_, rfl⟩
    rw [← hz] at hcell2 hz0 hz1
    clear hz hcell hcode
    go_enter Tryd.func45, Tryd.ntmps45
    go_wp2
    go_quiet (fail)
    go_wp2
    go_quiet (fail)
    go_wp2
    go_quiet (fail)
    go_wp2
    go_ret
    exact ⟨_, rfl, (and255 _).1, (and255 _).2, ⟨i + 1, _, by omega, heap_setCell_self _ c 1 _ _ _ _ (heap_setCell_self w c 2 _ _ _ _ HH.out)⟩, grownBy_setB (grownBy_drewN (grownBy_setCell w c 2 _) _) 1 _⟩
  · go_enter Tryd.func45, Tryd.ntmps45
    go_wp2
    go_quiet (fail)
    go_wp2
    go_quiet (fail)
    go_wp2
    go_ret
    exact ⟨_, rfl, (and255 _).1, (and255 _).2, ⟨i, _, hi1, heap_setCell_self w c 2 _ _ _ _ HH.out⟩, grownBy_drewN (grownBy_drewN (grownBy_setCell w c 2 _) _) _⟩

set_option maxHeartbeats 1000000 in
theorem l1Below_any (c B : Nat) (m : Int) (a : Option Addr) (len cap : Nat) (zs : List Int) (w : World) (hcur : CurAt w c a len cap) (hcode : CodeAt w B a len zs) (hB : B ≤ c) (hm : 1 ≤ m) (hm2 : m ≤ 256) :
    Calls Tryd.prog 29 #[.pointer (some ⟨c, 0, none⟩), .int .i64 m] w fun e w' => DrawIs m w c a len cap e w' := by
  have hm0 : ¬ m ≤ 0 := by omega
  go_enter Tryd.func29, Tryd.ntmps29
  go_wp2_with fail
  refine (l1Byte_any c B a len cap zs _ hcur hcode hB).mono ?_
  rintro e w1 ⟨x, rfl, hx0, hx1, hcur1, hg1⟩
  go_wp2_with fail
  go_ret
  exact ⟨x % m, rfl, Int.emod_nonneg _ (by omega), Int.emod_lt_of_pos _ (by omega), hcur1, hg1⟩

/-- A list of n texts that the caller has laid, text j by 'f j'. -/
def ListAt (w : World) (g n : Nat) (f : Nat → ByteArray) : Prop := ∀ j, j < n → w.cell? ⟨g, j, none⟩ = some (.string (f j))

theorem grown_cell {w w' : World} {c : Nat} (hg : w.grownBy w' (some c)) {g j : Nat} {v : Value} (h : w.cell? ⟨g, j, none⟩ = some v) (hne : g ≠ c) : w'.cell? ⟨g, j, none⟩ = some v :=
  hg.cell h (fun e => hne (Option.some.inj e))

set_option maxHeartbeats 1000000 in
theorem l1Pick_any (c B g n : Nat) (f : Nat → ByteArray) (a : Option Addr) (len cap : Nat) (zs : List Int) (w : World) (hcur : CurAt w c a len cap) (hcode : CodeAt w B a len zs) (hB : B ≤ c) (hn : 1 ≤ n) (hn2 : n ≤ 256) (hl : ListAt w g n f) (hgc : g ≠ c) :
    Calls Tryd.prog 34 #[.pointer (some ⟨c, 0, none⟩), .slice (some ⟨g, 0, none⟩) n n] w fun e w' => ∃ j, j < n ∧ e = .returned (.string (f j)) ∧ CurAt w' c a len cap ∧ w.grownBy w' (some c) := by
  go_enter Tryd.func34, Tryd.ntmps34
  go_wp2_with fail
  refine (l1Below_any c B n a len cap zs _ hcur hcode hB (by omega) (by omega)).mono ?_
  rintro e w1 ⟨x, rfl, hx0, hx1, hcur1, hg1⟩
  obtain ⟨j, rfl⟩ := Int.eq_ofNat_of_zero_le hx0
  have hj : j < n := by omega
  have hcell : w1.cell? ⟨g, j, none⟩ = some (.string (f j)) := grown_cell hg1 (hl j hj) hgc
  go_wp2
  go_ret
  exact ⟨j, hj, rfl, hcur1, hg1⟩

set_option maxHeartbeats 1000000 in
theorem l1New_any (B : Nat) (a : Option Addr) (len cap : Nat) (zs : List Int) (w : World) (hcode : CodeAt w B a len zs) :
    Calls Tryd.prog 18 #[.slice a len cap] w fun e w' => e = .returned (.pointer (some ⟨w.heap.size, 0, none⟩)) ∧ CurAt w' w.heap.size a len cap ∧ Below w.heap.size w w' := by
  have hlen := hcode.le
  go_enter Tryd.func18, Tryd.ntmps18
  go_wp2
  go_loop [3, 4] (fun h i => ∃ (k : Nat) (x : Int), k ≤ len ∧ i = .int .i64 (k : Int) ∧ h = .int .i64 x) (fun _ i => len - (intOf i).toNat)
  case atStart => exact ⟨0, _, Nat.zero_le _, rfl, rfl⟩
  case round =>
    obtain ⟨k, x, hk, rfl, rfl⟩ := hrel
    by_cases hlt : (k : Int) < (len : Int)
    · by_cases h4 : (k : Int) < 4000
      · obtain ⟨b, off, rfl, hbB, hcell, hz0, hz1⟩ := hcode.get k (by omega)
        clear hcode
        go_wp2
        go_round
        case rel => exact ⟨k + 1, _, by omega, by go_num, rfl⟩
        case measure => simp [intOf]; omega
      · go_wp2
        go_ret
        exact ⟨rfl, ⟨0, x, Nat.zero_le _, heap_alloc_new w _⟩, (Below.refl _ _).alloc (Nat.le_refl _) _⟩
    · go_wp2
      go_ret
      exact ⟨rfl, ⟨0, x, Nat.zero_le _, heap_alloc_new w _⟩, (Below.refl _ _).alloc (Nat.le_refl _) _⟩

end Go.Proofs.YtlmenolcgaakeaaDoor

namespace Go.Proofs.YtlmenolcgaakeaaDoor
open Go.RowKit
open Go.Lib hiding intOf

theorem CodeAt.grown {w w' : World} {B c : Nat} {a : Option Addr} {len : Nat} {zs : List Int} (h : CodeAt w B a len zs) (hg : w.grownBy w' (some c)) (hB : B ≤ c) : CodeAt w' B a len zs :=
  ⟨h.le, fun j hj => by
    obtain ⟨b, off, h1, h2, h3, h4⟩ := h.get j hj
    exact ⟨b, off, h1, h2, grown_cell hg h3 (by omega), h4⟩⟩
theorem CurAt.grown {w w' : World} {c : Nat} {row : Option Nat} {a : Option Addr} {len cap : Nat} (h : CurAt w c a len cap) (hg : w.grownBy w' row) (hne : row ≠ some c) : CurAt w' c a len cap := by
  have hlt := h.lt
  obtain ⟨i, h, hi, hh⟩ := h
  exact ⟨i, h, hi, by rw [hg.block c hlt (fun e => hne e.symm)]; exact hh⟩
/-- A step that turns only a block which came later. -/
theorem grown_later {a w w' : World} {row r : Option Nat} (h : a.grownBy w row) (k : w.grownBy w' r) (hr : ∀ g, r = some g → a.heap.size ≤ g) : a.grownBy w' row :=
  ⟨k.os.trans h.os, k.tape.trans h.tape, k.output.trans h.output, Nat.le_trans h.size k.size, fun i hi hne => (k.block i (Nat.lt_of_lt_of_le hi h.size) (fun e => by have := hr i e.symm; omega)).trans (h.block i hi hne)⟩

/-- A call on the cursor answers a text of at most m bytes, and turns the cursor alone of what was there. -/
def TextDrawn (m : Nat) (w : World) (c : Nat) (a : Option Addr) (len cap : Nat) (e : Ending) (w' : World) : Prop :=
  ∃ t : ByteArray, e = .returned (.string t) ∧ t.size ≤ m ∧ CurAt w' c a len cap ∧ w.grownBy w' (some c)

set_option maxHeartbeats 1000000 in
theorem l1Once_any (c B : Nat) (m : Int) (a : Option Addr) (len cap : Nat) (zs : List Int) (w : World) (hcur : CurAt w c a len cap) (hcode : CodeAt w B a len zs) (hB : B ≤ c) (hm : 1 ≤ m) (hm2 : m ≤ 256) :
    Calls Tryd.prog 46 #[.pointer (some ⟨c, 0, none⟩), .int .i64 m] w fun e w' => Hid (∃ b : Bool, e = .returned (.bool b)) ∧ CurAt w' c a len cap ∧ w.grownBy w' (some c) := by
  go_enter Tryd.func46, Tryd.ntmps46
  go_wp2_with fail
  refine (l1Below_any c B m a len cap zs _ hcur hcode hB hm hm2).mono ?_
  rintro e w1 ⟨x, rfl, hx0, hx1, hcur1, hg1⟩
  go_wp2
  go_ret
  exact ⟨⟨_, rfl⟩, hcur1, hg1⟩

end Go.Proofs.YtlmenolcgaakeaaDoor

namespace Go.Proofs.YtlmenolcgaakeaaDoor
open Go.RowKit
open Go.Lib hiding intOf

/-- A call on the cursor answers a field of short texts, and turns the cursor alone of what was there. -/
def FieldDrawn (w : World) (c : Nat) (a : Option Addr) (len cap : Nat) (e : Ending) (w' : World) : Prop :=
  ∃ nm vl : ByteArray, e = .returned (.agg #[.string nm, .string vl]) ∧ nm.size ≤ 64 ∧ vl.size ≤ 64 ∧ CurAt w' c a len cap ∧ w.grownBy w' (some c)

/-- The two cells of a field's memory, written. -/
def twoSet (w : World) (r : Nat) (nm vl : ByteArray) : World := (w.setCell ⟨r, 0, none⟩ (.string nm)).setCell ⟨r, 1, none⟩ (.string vl)
theorem twoSet_grown (w : World) (r : Nat) (nm vl : ByteArray) : w.grownBy (twoSet w r nm vl) (some r) :=
  ⟨rfl, rfl, rfl, by simp [twoSet], fun k _ hk => by
    have hne : k ≠ r := fun e => hk (by rw [e])
    unfold twoSet
    rw [heap_setCell_other _ _ k _ (fun e => hne e), heap_setCell_other _ _ k _ (fun e => hne e)]⟩
theorem FieldDrawn.of {w w2 : World} {c r : Nat} {a : Option Addr} {len cap : Nat} {nm vl : ByteArray} (h1 : nm.size ≤ 64) (h2 : vl.size ≤ 64) (hcu : CurAt w2 c a len cap) (hg : w.grownBy w2 (some c)) (hrc : r ≠ c) (hrw : w.heap.size ≤ r) : FieldDrawn w c a len cap (.returned (.agg #[.string nm, .string vl])) (twoSet w2 r nm vl) :=
  ⟨nm, vl, rfl, h1, h2, hcu.grown (twoSet_grown w2 r nm vl) (fun e => hrc (Option.some.inj e)), grown_later hg (twoSet_grown w2 r nm vl) (fun g e => by cases e; exact hrw)⟩

end Go.Proofs.YtlmenolcgaakeaaDoor

namespace Go.Proofs.YtlmenolcgaakeaaDoor
open Go.RowKit
open Go.Lib hiding intOf

/-- Fields of short texts. -/
def ShortF (fs : List (ByteArray × ByteArray)) : Prop := ∀ f ∈ fs, f.1.size ≤ 64 ∧ f.2.size ≤ 64
end Go.Proofs.YtlmenolcgaakeaaDoor

namespace Go.Proofs.YtlmenolcgaakeaaDoor
open Go.RowKit
open Go.Lib hiding intOf

/-- The text of whatever int: that of a number from 0 to 1000000, else the empty one. -/
def numTextI (n : Int) : ByteArray := if n < 0 then ⟨#[]⟩ else numText n.toNat

theorem decDigits_zero : Lib.decDigits 0 = [48] := by rw [Lib.decDigits, dif_pos (by omega)]; rfl
theorem dg_dec : ∀ (f n : Nat), n < 10 ^ f → n ≠ 0 → dgF f n = Lib.decDigits n := by
  intro f
  induction f with
  | zero => intro n h h0; simp at h; omega
  | succ f ih =>
    intro n h h0
    rw [dgF_pos f n h0]
    rw [Nat.pow_succ] at h
    by_cases hs : n < 10
    · rw [Lib.decDigits, dif_pos hs]
      have e1 : n / 10 = 0 := by omega
      have e2 : n % 10 = n := by omega
      rw [e1, dgF_zero, e2]; rfl
    · rw [Lib.decDigits, dif_neg hs, ih (n / 10) (by omega) (by omega)]
theorem itoa_num (n : Int) (h0 : 0 ≤ n) (h1 : n ≤ 1000000) : (⟨(Lib.itoa n).toArray⟩ : ByteArray) = numTextI n := by
  unfold numTextI
  rw [if_neg (by omega)]
  unfold numText numL Lib.itoa
  rw [if_neg (by omega), if_neg (by omega)]
  by_cases h : n.toNat = 0
  · rw [if_pos h, h, decDigits_zero]
  · rw [if_neg h, dg_dec 8 n.toNat (by omega) h]

/-- The table that strconv.Itoa reads holds what the program's text lays. -/
def TabOk (w : World) : Prop := Lib.TabIs Tryd.prog w "internal/strconv.uint64pow10" .u64 Lib.pow10Tab
theorem gTab : Tryd.prog.globalNamed "internal/strconv.uint64pow10" = some 0 := by kernel_rfl
theorem TabOk.lt {w : World} (h : TabOk w) : 0 < w.heap.size := by
  unfold TabOk Lib.TabIs World.var? at h
  rw [gTab] at h
  rcases Nat.lt_or_ge 0 w.heap.size with hl | hl
  · exact hl
  · simp [Array.getElem?_eq_none hl] at h
theorem TabOk.below {w w' : World} (h : TabOk w) (hb : Below w.heap.size w w') : TabOk w' := var?_below hb gTab h.lt h

set_option maxHeartbeats 1000000 in
theorem implNumText_any (n : Int) (w : World) (h0 : -9223372036854775808 ≤ n) (h1 : n ≤ 9223372036854775807) (htab : TabOk w) :
    Calls Tryd.prog 20 #[.int .i64 n] w fun e w' => TextIs (numTextI n) w e w' := by
  by_cases hn : n < 0
  · have hT : Hid (⟨#[]⟩ = numTextI n) := by show _ = _; unfold numTextI; rw [if_pos hn]
    go_enter Tryd.func20, Tryd.ntmps20
    go_wp2_with fail
    go_ret
    exact TextIs.of hT.out (Below.refl _ _)
  · by_cases hb : 1000000 < n
    · have hT : Hid (⟨#[]⟩ = numTextI n) := by
        show _ = _
        unfold numTextI numText numL; rw [if_neg hn, if_pos (by omega)]
      go_enter Tryd.func20, Tryd.ntmps20
      go_wp2_with fail
      go_ret
      exact TextIs.of hT.out (Below.refl _ _)
    · have hT : Hid _ := itoa_num n (by omega) (by omega)
      have HT : Hid (TabOk w) := htab
      clear htab
      go_enter Tryd.func20, Tryd.ntmps20
      go_wp2_with fail
      refine (Tryd.strconv_Itoa n h0 h1 w HT.out).mono ?_
      rintro e w1 ⟨rfl, k, os, rfl⟩
      rw [hT.out]
      have hb1 := Lib.below_grow w.heap.size w (Nat.le_refl _) k os
      obtain ⟨w1, hw1⟩ : ∃ w1, w1 = Sort.grow (w.drewN k) os := ⟨_, rfl⟩
      rw [← hw1] at hb1 ⊢
      clear hw1
      go_wp2_with fail
      go_ret
      exact TextIs.of rfl hb1

set_option maxHeartbeats 1000000 in
theorem specNumText_int (n : Int) (w : World) (h0 : -9223372036854775808 ≤ n) (h1 : n ≤ 9223372036854775807) :
    Calls Tryd.prog 22 #[.int .i64 n] w fun e w' => TextIs (numTextI n) w e w' := by
  by_cases hn : n < 0
  · have hT : Hid (⟨#[]⟩ = numTextI n) := by show _ = _; unfold numTextI; rw [if_pos hn]
    have hn2 : ¬ 0 ≤ n := by omega
    go_enter Tryd.func22, Tryd.ntmps22
    go_wp2
    go_ret
    exact TextIs.of hT.out (Below.refl _ _)
  · by_cases hb : 1000000 < n
    · have hT : Hid (⟨#[]⟩ = numTextI n) := by
        show _ = _
        unfold numTextI numText numL; rw [if_neg hn, if_pos (by omega)]
      have hp : 0 ≤ n := by omega
      have hb2 : ¬ n ≤ 1000000 := by omega
      have hd : decide (n ≤ 1000000) = false := by simp; omega
      go_enter Tryd.func22, Tryd.ntmps22
      go_wp2
      go_ret
      exact TextIs.of hT.out (Below.refl _ _)
    · obtain ⟨m, rfl⟩ := Int.eq_ofNat_of_zero_le (Int.not_lt.1 hn)
      have hT : numTextI (m : Int) = numText m := by unfold numTextI; rw [if_neg hn]; simp
      rw [hT]
      exact specNumText_any m w (by omega)

end Go.Proofs.YtlmenolcgaakeaaDoor

namespace Go.Proofs.YtlmenolcgaakeaaDoor
open Go.RowKit

/-- What is said of keeping. -/
structure CcD where
  ns : Bool
  nc : Bool
  pr : Bool
  mu : Bool
  ha : Bool
  age : Int
def CcD.v (c : CcD) : Value := .agg #[.bool c.ns, .bool c.nc, .bool c.pr, .bool c.mu, .bool c.ha, .int .i64 c.age]
end Go.Proofs.YtlmenolcgaakeaaDoor

namespace Go.Proofs.YtlmenolcgaakeaaDoor
open Go.RowKit

def hxB (d : Nat) : UInt8 := UInt8.ofNat (if d < 10 then 48 + d else 87 + d)
def hxF : Nat → Nat → List UInt8
  | 0, _ => []
  | f + 1, n => if n = 0 then [] else hxF f (n / 16) ++ [hxB (n % 16)]
theorem hxF_zero (f : Nat) : hxF f 0 = [] := by cases f <;> simp [hxF]
theorem hxF_pos (f n : Nat) (h : n ≠ 0) : hxF (f + 1) n = hxF f (n / 16) ++ [hxB (n % 16)] := by simp [hxF, h]
def hexL (n : Nat) : List UInt8 := if 1000000 < n then [] else if n = 0 then [48] else hxF 5 n
abbrev HexB (b : UInt8) : Prop := (48 ≤ b.toNat ∧ b.toNat ≤ 57) ∨ (97 ≤ b.toNat ∧ b.toNat ≤ 102)
def hexV (b : UInt8) : Nat := if b.toNat ≤ 57 then b.toNat - 48 else b.toNat - 87
theorem hxB_facts (d : Nat) (h : d < 16) : HexB (hxB d) ∧ hexV (hxB d) = d ∧ (d ≠ 0 → hxB d ≠ 48) := by
  have : ∀ d : Fin 16, HexB (hxB d.1) ∧ hexV (hxB d.1) = d.1 ∧ (d.1 ≠ 0 → hxB d.1 ≠ 48) := by decide
  exact this ⟨d, h⟩
def hexVal (l : List UInt8) : Nat := l.foldl (fun v b => 16 * v + hexV b) 0
theorem hexVal_snoc (l : List UInt8) (b : UInt8) : hexVal (l ++ [b]) = 16 * hexVal l + hexV b := by simp [hexVal]
theorem hx_facts : ∀ (f n : Nat), n < 16 ^ f → (∀ b ∈ hxF f n, HexB b) ∧ hexVal (hxF f n) = n ∧ (∀ b, (hxF f n).head? = some b → b ≠ 48) ∧ (n ≠ 0 → hxF f n ≠ []) := by
  intro f
  induction f with
  | zero => intro n h; simp at h; subst h; simp [hxF, hexVal]
  | succ f ih =>
    intro n h
    by_cases h0 : n = 0
    · subst h0; rw [hxF_zero]; simp [hexVal]
    · rw [Nat.pow_succ] at h
      obtain ⟨h1, h2, h3, h4⟩ := ih (n / 16) (by omega)
      have hd := hxB_facts (n % 16) (by omega)
      rw [hxF_pos f n h0]
      refine ⟨fun b hb => ?_, ?_, fun b hb => ?_, fun _ => by simp⟩
      · simp only [List.mem_append, List.mem_singleton] at hb
        rcases hb with hb | rfl
        · exact h1 b hb
        · exact hd.1
      · rw [hexVal_snoc, h2, hd.2.1]; omega
      · by_cases hz : n / 16 = 0
        · rw [hz, hxF_zero] at hb
          simp at hb
          subst hb
          exact hd.2.2 (by omega)
        · have hne := h4 hz
          obtain ⟨c, r, hc⟩ : ∃ c r, hxF f (n / 16) = c :: r := by
            cases hx : hxF f (n / 16) with
            | nil => exact absurd hx hne
            | cons c r => exact ⟨c, r, rfl⟩
          rw [hc] at hb h3
          simp at hb h3
          rw [← hb]; exact h3
theorem hx_len : ∀ (f n k : Nat), n < 16 ^ k → (hxF f n).length ≤ k := by
  intro f
  induction f with
  | zero => intro n k _; simp [hxF]
  | succ f ih =>
    intro n k h
    by_cases h0 : n = 0
    · subst h0; rw [hxF_zero]; simp
    · cases k with
      | zero => simp at h; omega
      | succ k =>
        rw [Nat.pow_succ] at h
        have := ih (n / 16) k (by omega)
        rw [hxF_pos f n h0]
        simp; omega
/-- A length that may begin a part: one to four digits, no needless nought. -/
theorem hex_head (n : Nat) (h : n < 65536) : 1 ≤ (hexL n).length ∧ (hexL n).length ≤ 4 ∧ (∀ b ∈ hexL n, HexB b) ∧ hexVal (hexL n) = n ∧ (1 < (hexL n).length → ∀ b, (hexL n).head? = some b → b ≠ 48) := by
  unfold hexL
  rw [if_neg (by omega)]
  by_cases h0 : n = 0
  · rw [if_pos h0, h0]
    refine ⟨by simp, by simp, ?_, rfl, by simp⟩
    intro b hb
    simp at hb
    subst hb
    decide
  · rw [if_neg h0]
    obtain ⟨h1, h2, h3, h4⟩ := hx_facts 5 n (by omega)
    have hl := hx_len 5 n 4 (by omega)
    refine ⟨?_, hl, h1, h2, fun _ => h3⟩
    cases hx : hxF 5 n with
    | nil => exact absurd hx (h4 h0)
    | cons c r => simp

/-- A line's end held against what stands there: 0 it is one, 1 it may become one, 2 it is none. -/
def lineC : List UInt8 → Int
  | [] => 1
  | [c] => if c = 13 then 1 else 2
  | c :: d :: _ => if c = 13 ∧ d = 10 then 0 else 2
def digN : Nat → List UInt8 → Nat
  | 0, _ => 0
  | _ + 1, [] => 0
  | f + 1, c :: r => if HexB c then digN f r + 1 else 0
theorem digN_le : ∀ (f : Nat) (r : List UInt8), digN f r ≤ f ∧ digN f r ≤ r.length
  | 0, _ => by simp [digN]
  | _ + 1, [] => by simp [digN]
  | f + 1, c :: r => by
    have := digN_le f r
    unfold digN
    split
    · simp; omega
    · simp
theorem digN_hex : ∀ (f : Nat) (r : List UInt8), ∀ b ∈ r.take (digN f r), HexB b
  | 0, _ => by simp [digN]
  | _ + 1, [] => by simp [digN]
  | f + 1, c :: r => by
    have := digN_hex f r
    unfold digN
    split
    · rename_i h
      intro b hb
      simp only [List.take_succ_cons, List.mem_cons] at hb
      rcases hb with rfl | hb
      · exact h
      · exact this b hb
    · simp
theorem digN_pre : ∀ (l rest : List UInt8) (f : Nat), l.length ≤ f → (∀ b ∈ l, HexB b) → (l.length = f ∨ ∀ c r, rest = c :: r → ¬ HexB c) → digN f (l ++ rest) = l.length
  | [], rest, f, _, _, h => by
    rcases h with h | h
    · simp at h; subst h; simp [digN]
    · cases f with
      | zero => simp [digN]
      | succ f =>
        cases rest with
        | nil => simp [digN]
        | cons c r => simp [digN, h c r rfl]
  | b :: l, rest, f, hf, hh, h => by
    cases f with
    | zero => simp at hf
    | succ f =>
      have ih := digN_pre l rest f (by simpa using hf) (fun x hx => hh x (by simp [hx])) (by
        rcases h with h | h
        · left; simpa using h
        · right; exact h)
      simp [digN, hh b (by simp), ih]
def lenK (r : List UInt8) : Nat := digN 5 r
abbrev lenBad (r : List UInt8) : Prop := 4 < lenK r ∨ (1 < lenK r ∧ r.head? = some 48) ∨ (lenK r = 0 ∧ r ≠ [])
/-- What is told of a length and its line's end. -/
def lenC (r : List UInt8) : Int := if lenBad r then 2 else if lenK r = 0 then 1 else lineC (r.drop (lenK r))
def lenN (r : List UInt8) : Nat := hexVal (r.take (lenK r))
theorem lineC_zero {r : List UInt8} (h : lineC r = 0) : ∃ t, r = 13 :: 10 :: t := by
  match r with
  | [] => simp [lineC] at h
  | [c] => simp only [lineC] at h; split at h <;> simp at h
  | c :: d :: t =>
    simp only [lineC] at h
    split at h
    · rename_i e; exact ⟨t, by rw [e.1, e.2]⟩
    · simp at h
theorem lineC_vals (r : List UInt8) : lineC r = 0 ∨ lineC r = 1 ∨ lineC r = 2 := by
  match r with
  | [] => simp [lineC]
  | [c] => simp only [lineC]; split <;> simp
  | c :: d :: t => simp only [lineC]; split <;> simp
theorem lineC_mono {r t : List UInt8} (h : lineC r ≠ 1) : lineC (r ++ t) = lineC r := by
  match r with
  | [] => simp [lineC] at h
  | [c] =>
    by_cases e : c = 13
    · simp [lineC, e] at h
    · cases t with
      | nil => simp
      | cons d t => simp [lineC, e]
  | c :: d :: u => simp [lineC]
theorem lenC_zero {r : List UInt8} (h : lenC r = 0) : 1 ≤ lenK r ∧ lenK r ≤ 4 ∧ ¬ lenBad r ∧ ∃ t, r.drop (lenK r) = 13 :: 10 :: t := by
  unfold lenC at h
  by_cases hb : lenBad r
  · rw [if_pos hb] at h; simp at h
  · rw [if_neg hb] at h
    by_cases h0 : lenK r = 0
    · rw [if_pos h0] at h; simp at h
    · rw [if_neg h0] at h
      refine ⟨by omega, ?_, hb, lineC_zero h⟩
      unfold lenBad at hb
      omega
theorem lenC_vals (r : List UInt8) : lenC r = 0 ∨ lenC r = 1 ∨ lenC r = 2 := by
  unfold lenC
  split
  · simp
  · split
    · simp
    · exact lineC_vals _
/-- A length, and a line's end behind it. -/
theorem len_head (n : Nat) (h : n < 65536) (rest : List UInt8) (hr : ∀ c r, rest = c :: r → c = 13) : lenK (hexL n ++ rest) = (hexL n).length ∧ lenN (hexL n ++ rest) = n ∧ lenC (hexL n ++ rest) = lineC rest := by
  obtain ⟨h1, h2, h3, h4, h5⟩ := hex_head n h
  have hk : lenK (hexL n ++ rest) = (hexL n).length := digN_pre _ _ 5 (by omega) h3 (.inr (fun c r e => by rw [hr c r e]; decide))
  refine ⟨hk, ?_, ?_⟩
  · unfold lenN; rw [hk, List.take_left]; exact h4
  · unfold lenC
    rw [if_neg, hk, if_neg (by omega), List.drop_left]
    unfold lenBad
    rw [hk]
    rintro (h | ⟨h, e⟩ | ⟨h, _⟩)
    · omega
    · cases hx : hexL n with
      | nil => rw [hx] at h1; simp at h1
      | cons c r =>
        rw [hx] at e h5 h
        simp at e
        exact h5 (by simpa using h) c (by simp) e
    · omega
theorem lenK_mono {r : List UInt8} (t : List UInt8) (h : lenC r = 0) : lenK (r ++ t) = lenK r ∧ lenN (r ++ t) = lenN r ∧ lenC (r ++ t) = 0 := by
  obtain ⟨h1, h2, hb, u, hu⟩ := lenC_zero h
  have hl := digN_le 5 r
  have e : r = r.take (lenK r) ++ 13 :: 10 :: u := by rw [← hu, List.take_append_drop]
  have hlen : (r.take (lenK r)).length = lenK r := by rw [List.length_take]; unfold lenK; omega
  have hk : lenK (r ++ t) = lenK r := by
    have : r ++ t = r.take (lenK r) ++ (13 :: 10 :: u ++ t) := by rw [← List.append_assoc, ← e]
    rw [this]
    have := digN_pre (r.take (lenK r)) (13 :: 10 :: u ++ t) 5 (by omega) (digN_hex 5 r) (.inr (fun c q e => by simp at e; rw [← e.1]; decide))
    show digN 5 _ = _
    rw [this, hlen]
  refine ⟨hk, ?_, ?_⟩
  · unfold lenN; rw [hk, List.take_append_of_le_length (by unfold lenK; omega)]
  · unfold lenC
    rw [if_neg, hk, if_neg (by omega), List.drop_append_of_le_length (by unfold lenK; omega), hu]
    · simp [lineC]
    · unfold lenBad at hb ⊢
      rw [hk]
      rintro (h | ⟨h, e⟩ | ⟨h, _⟩)
      · omega
      · refine hb (.inr (.inl ⟨h, ?_⟩))
        cases r with
        | nil => simp at hl; unfold lenK at h; omega
        | cons c q => simpa using e
      · omega
theorem lenC_mono {r : List UInt8} (t : List UInt8) (h : lenC r ≠ 1) : lenC (r ++ t) = lenC r := by
  rcases lenC_vals r with h0 | h1 | h2
  · rw [(lenK_mono t h0).2.2, h0]
  · exact absurd h1 h
  · have hl := digN_le 5 r
    have hl2 := digN_le 5 (r ++ t)
    have hh := digN_hex 5 r
    have hlen : (r.take (lenK r)).length = lenK r := by rw [List.length_take]; unfold lenK; omega
    rw [h2]
    by_cases hb : lenBad r
    · have hb2 : lenBad (r ++ t) := by
        have hge : lenK r ≤ lenK (r ++ t) := by
          have : ∀ (f : Nat) (a b : List UInt8), digN f a ≤ digN f (a ++ b) := by
            intro f
            induction f with
            | zero => intro a b; simp [digN]
            | succ f ih =>
              intro a b
              cases a with
              | nil => simp [digN]
              | cons c a =>
                simp only [List.cons_append, digN]
                split
                · have := ih a b; omega
                · simp
          exact this 5 r t
        rcases hb with h | ⟨h, e⟩ | ⟨h, e⟩
        · exact .inl (by omega)
        · refine .inr (.inl ⟨by omega, ?_⟩)
          cases r with
          | nil => simp at e
          | cons c q => simpa using e
        · cases r with
          | nil => exact absurd rfl e
          | cons c q =>
            have hc : ¬ HexB c := by
              intro hc
              unfold lenK at h
              simp [digN, hc] at h
            refine .inr (.inr ⟨?_, by simp⟩)
            simp [lenK, digN, hc]
      unfold lenC; rw [if_pos hb2]
    · unfold lenC at h2
      rw [if_neg hb] at h2
      by_cases h0 : lenK r = 0
      · rw [if_pos h0] at h2; simp at h2
      · rw [if_neg h0] at h2
        have hne : lineC (r.drop (lenK r)) ≠ 1 := by rw [h2]; simp
        have hk4 : lenK r ≤ 4 := by unfold lenBad at hb; omega
        -- a byte behind the digits that is no digit
        obtain ⟨c, q, hc, hnc⟩ : ∃ c q, r.drop (lenK r) = c :: q ∧ ¬ HexB c := by
          cases hd : r.drop (lenK r) with
          | nil => rw [hd] at h2; simp [lineC] at h2
          | cons c q =>
            refine ⟨c, q, rfl, fun hx => ?_⟩
            have e : r = (r.take (lenK r) ++ [c]) ++ q := by rw [List.append_assoc]; simp [← hd]
            have : ∀ (f : Nat) (l m : List UInt8), (∀ b ∈ l, HexB b) → l.length ≤ f → l.length ≤ digN f (l ++ m) := by
              intro f
              induction f with
              | zero => intro l m _ hl; simp at hl; simp [hl]
              | succ f ih =>
                intro l m hl hlf
                cases l with
                | nil => simp
                | cons x l =>
                  simp only [List.cons_append, digN, hl x (by simp), if_true, List.length_cons]
                  have := ih l m (fun b hb => hl b (by simp [hb])) (by simpa using hlf)
                  omega
            have h9 := this 5 (r.take (lenK r) ++ [c]) q (fun b hb => by
              simp only [List.mem_append, List.mem_singleton] at hb
              rcases hb with hb | rfl
              · exact hh b hb
              · exact hx) (by simp; omega)
            rw [← e] at h9
            simp [hlen] at h9
            unfold lenK at h9
            omega
        have hk : lenK (r ++ t) = lenK r := by
          have e : r ++ t = r.take (lenK r) ++ (c :: q ++ t) := by rw [← hc, ← List.append_assoc, List.take_append_drop]
          have h9 := digN_pre (r.take (lenK r)) (c :: q ++ t) 5 (by omega) hh (.inr (fun c' q' e' => by simp at e'; rw [← e'.1]; exact hnc))
          rw [← e, hlen] at h9
          exact h9
        unfold lenC
        rw [if_neg, hk, if_neg h0, List.drop_append_of_le_length (by unfold lenK; omega), lineC_mono hne, h2]
        unfold lenBad at hb ⊢
        rw [hk]
        rintro (h | ⟨h, e⟩ | ⟨h, _⟩)
        · omega
        · refine hb (.inr (.inl ⟨h, ?_⟩))
          cases r with
          | nil => simp at hc
          | cons x q => simpa using e
        · omega

end Go.Proofs.YtlmenolcgaakeaaDoor

namespace Go.Proofs.YtlmenolcgaakeaaDoor
open Go.RowKit

/-- What stands behind a length and its line's end; what stands behind the part's bytes. -/
def rdA (r : List UInt8) : List UInt8 := r.drop (lenK r + 2)
def rdB (r : List UInt8) : List UInt8 := (rdA r).drop (lenN r)
/-- What is told of a text from a place on; none: not told within so many parts. -/
def rdF : Nat → List UInt8 → List UInt8 → Nat → Option (List UInt8 × Nat × Int)
  | 0, _, _, _ => none
  | f + 1, r, body, pos =>
    if lenC r ≠ 0 then some ([], 0, lenC r)
    else if 120 < body.length + lenN r then some ([], 0, 3)
    else if (rdA r).length < lenN r then some ([], 0, 1)
    else if lineC (rdB r) ≠ 0 then some ([], 0, lineC (rdB r))
    else if lenN r = 0 then some (body, pos + lenK r + 4, 0)
    else rdF f ((rdB r).drop 2) (body ++ (rdA r).take (lenN r)) (pos + lenK r + lenN r + 4)
def Rd (r body : List UInt8) (pos : Nat) (x : List UInt8 × Nat × Int) : Prop := ∃ f, rdF f r body pos = some x
theorem rdF_more : ∀ (f : Nat) (r body : List UInt8) (pos : Nat) (x : List UInt8 × Nat × Int), rdF f r body pos = some x → ∀ d, rdF (f + d) r body pos = some x := by
  intro f
  induction f with
  | zero => intro r body pos x h; simp [rdF] at h
  | succ f ih =>
    intro r body pos x h d
    rw [show f + 1 + d = (f + d) + 1 by omega]
    unfold rdF at h ⊢
    by_cases h1 : lenC r ≠ 0
    · rw [if_pos h1] at h ⊢; exact h
    · rw [if_neg h1] at h ⊢
      by_cases h2 : 120 < body.length + lenN r
      · rw [if_pos h2] at h ⊢; exact h
      · rw [if_neg h2] at h ⊢
        by_cases h3 : (rdA r).length < lenN r
        · rw [if_pos h3] at h ⊢; exact h
        · rw [if_neg h3] at h ⊢
          by_cases h4 : lineC (rdB r) ≠ 0
          · rw [if_pos h4] at h ⊢; exact h
          · rw [if_neg h4] at h ⊢
            by_cases h5 : lenN r = 0
            · rw [if_pos h5] at h ⊢; exact h
            · rw [if_neg h5] at h ⊢
              exact ih _ _ _ _ h d
/-- One thing is told of a text. -/
theorem Rd.uniq {r body : List UInt8} {pos : Nat} {x y : List UInt8 × Nat × Int} (h : Rd r body pos x) (k : Rd r body pos y) : x = y := by
  obtain ⟨f, hf⟩ := h
  obtain ⟨g, hg⟩ := k
  have h1 := rdF_more f r body pos x hf g
  have h2 := rdF_more g r body pos y hg f
  rw [Nat.add_comm] at h2
  rw [h1] at h2
  exact Option.some.inj h2
theorem Rd.len {r body : List UInt8} {pos : Nat} (h : lenC r ≠ 0) : Rd r body pos ([], 0, lenC r) := ⟨1, by unfold rdF; rw [if_pos h]⟩
theorem Rd.short {r body : List UInt8} {pos : Nat} (h1 : lenC r = 0) (h2 : ¬ 120 < body.length + lenN r) (h3 : (rdA r).length < lenN r) : Rd r body pos ([], 0, 1) := ⟨1, by unfold rdF; rw [if_neg (by simp [h1]), if_neg h2, if_pos h3]⟩
theorem Rd.line {r body : List UInt8} {pos : Nat} (h1 : lenC r = 0) (h2 : ¬ 120 < body.length + lenN r) (h3 : ¬ (rdA r).length < lenN r) (h4 : lineC (rdB r) ≠ 0) : Rd r body pos ([], 0, lineC (rdB r)) := ⟨1, by unfold rdF; rw [if_neg (by simp [h1]), if_neg h2, if_neg h3, if_pos h4]⟩
theorem Rd.part {r body : List UInt8} {pos : Nat} {x : List UInt8 × Nat × Int} (h1 : lenC r = 0) (h2 : ¬ 120 < body.length + lenN r) (h3 : ¬ (rdA r).length < lenN r) (h4 : lineC (rdB r) = 0) (h5 : lenN r ≠ 0) (h : Rd ((rdB r).drop 2) (body ++ (rdA r).take (lenN r)) (pos + lenK r + lenN r + 4) x) : Rd r body pos x := by
  obtain ⟨f, hf⟩ := h
  exact ⟨f + 1, by unfold rdF; rw [if_neg (by simp [h1]), if_neg h2, if_neg h3, if_neg (by simp [h4]), if_neg h5]; exact hf⟩

theorem rdA_len {r : List UInt8} (h : lenC r = 0) : lenK r + 2 ≤ r.length := by
  obtain ⟨_, _, _, t, ht⟩ := lenC_zero h
  have := congrArg List.length ht
  simp at this
  omega
/-- What is told of a text, but that there must be more, is told of it with whatever behind it. -/
theorem rdF_behind (t : List UInt8) : ∀ (f : Nat) (r body : List UInt8) (pos : Nat) (x : List UInt8 × Nat × Int), rdF f r body pos = some x → x.2.2 ≠ 1 → rdF f (r ++ t) body pos = some x := by
  intro f
  induction f with
  | zero => intro r body pos x h; simp [rdF] at h
  | succ f ih =>
    intro r body pos x h hx
    unfold rdF at h ⊢
    by_cases h1 : lenC r ≠ 0
    · rw [if_pos h1] at h
      have e := Option.some.inj h
      subst e
      have hx : lenC r ≠ 1 := hx
      rw [lenC_mono t hx, if_pos h1]
    · have h0 : lenC r = 0 := by simpa using h1
      obtain ⟨k1, k2, k3⟩ := lenK_mono t h0
      have hl := rdA_len h0
      have eA : rdA (r ++ t) = rdA r ++ t := by unfold rdA; rw [k1, List.drop_append_of_le_length hl]
      rw [if_neg h1] at h
      rw [if_neg (by simp [k3]), k1, k2, eA]
      by_cases h2 : 120 < body.length + lenN r
      · rw [if_pos h2] at h ⊢; exact h
      · rw [if_neg h2] at h ⊢
        by_cases h3 : (rdA r).length < lenN r
        · rw [if_pos h3] at h
          have e := Option.some.inj h
          subst e
          exact absurd rfl hx
        · rw [if_neg h3] at h
          have eB : rdB (r ++ t) = rdB r ++ t := by unfold rdB; rw [eA, k2, List.drop_append_of_le_length (by omega)]
          rw [if_neg (by simp; omega), eB]
          by_cases h4 : lineC (rdB r) ≠ 0
          · rw [if_pos h4] at h
            have e := Option.some.inj h
            subst e
            have hx : lineC (rdB r) ≠ 1 := hx
            rw [lineC_mono hx, if_pos h4]
          · have h40 : lineC (rdB r) = 0 := by simpa using h4
            have hne : lineC (rdB r) ≠ 1 := by rw [h40]; simp
            obtain ⟨u, hu⟩ := lineC_zero h40
            rw [if_neg h4] at h
            rw [lineC_mono hne, if_neg h4]
            by_cases h5 : lenN r = 0
            · rw [if_pos h5] at h ⊢; exact h
            · rw [if_neg h5] at h ⊢
              rw [List.drop_append_of_le_length (by rw [hu]; simp), List.take_append_of_le_length (by omega)]
              exact ih _ _ _ _ h hx
theorem Rd.behind {r body : List UInt8} {pos : Nat} {x : List UInt8 × Nat × Int} (h : Rd r body pos x) (hx : x.2.2 ≠ 1) (t : List UInt8) : Rd (r ++ t) body pos x := by
  obtain ⟨f, hf⟩ := h
  exact ⟨f, rdF_behind t f r body pos x hf hx⟩
/-- A body in parts. -/
def chunkL : List (List UInt8) → List UInt8
  | [] => [48, 13, 10, 13, 10]
  | p :: ps => hexL p.length ++ (13 :: 10 :: (p ++ (13 :: 10 :: chunkL ps)))
theorem part_head (p rest : List UInt8) (h : p.length < 65536) : lenC (hexL p.length ++ (13 :: 10 :: (p ++ rest))) = 0 ∧ lenK (hexL p.length ++ (13 :: 10 :: (p ++ rest))) = (hexL p.length).length ∧ lenN (hexL p.length ++ (13 :: 10 :: (p ++ rest))) = p.length ∧ rdA (hexL p.length ++ (13 :: 10 :: (p ++ rest))) = p ++ rest ∧ rdB (hexL p.length ++ (13 :: 10 :: (p ++ rest))) = rest := by
  obtain ⟨h1, h2, h3⟩ := len_head p.length h (13 :: 10 :: (p ++ rest)) (fun c r e => by simp at e; exact e.1.symm)
  have hA : rdA (hexL p.length ++ (13 :: 10 :: (p ++ rest))) = p ++ rest := by
    unfold rdA
    rw [h1, List.drop_append]
    simp
  refine ⟨by rw [h3]; simp [lineC], h1, h2, hA, ?_⟩
  unfold rdB
  rw [hA, h2, List.drop_left]
theorem end_head (rest : List UInt8) : lenC (48 :: 13 :: 10 :: rest) = 0 ∧ lenK (48 :: 13 :: 10 :: rest) = 1 ∧ lenN (48 :: 13 :: 10 :: rest) = 0 ∧ rdA (48 :: 13 :: 10 :: rest) = rest ∧ rdB (48 :: 13 :: 10 :: rest) = rest := by
  have := part_head [] rest (by simp)
  simpa [hexL] using this
/-- Cut short, a text of parts is not whole. -/
theorem Rd.cut : ∀ (ps : List (List UInt8)) (body : List UInt8) (pos k : Nat), (∀ p ∈ ps, p ≠ []) → body.length + ps.flatten.length ≤ 120 → k < (chunkL ps).length → Rd ((chunkL ps).take k) body pos ([], 0, 1) := by
  intro ps
  induction ps with
  | nil =>
    intro body pos k _ hb hk
    have hk5 : k < 5 := by simpa [chunkL] using hk
    have hb : body.length ≤ 120 := by simpa using hb
    rcases (show k = 0 ∨ k = 1 ∨ k = 2 ∨ k = 3 ∨ k = 4 by omega) with rfl | rfl | rfl | rfl | rfl
    · exact Rd.len (r := []) (by decide)
    · exact Rd.len (r := [48]) (by decide)
    · exact Rd.len (r := [48, 13]) (by decide)
    · obtain ⟨h1, h2, h3, h4, h5⟩ := end_head []
      have := Rd.line (body := body) (pos := pos) h1 (by rw [h3]; simpa using hb) (by rw [h3]; simp) (by rw [h5]; simp [lineC])
      rw [h5] at this
      exact this
    · obtain ⟨h1, h2, h3, h4, h5⟩ := end_head [13]
      have := Rd.line (body := body) (pos := pos) h1 (by rw [h3]; simpa using hb) (by rw [h3]; simp) (by rw [h5]; simp [lineC])
      rw [h5] at this
      exact this
  | cons p ps ih =>
    intro body pos k hp hb hk
    have hpl : 1 ≤ p.length := by
      have := hp p (by simp)
      cases p with
      | nil => exact absurd rfl this
      | cons c r => simp
    simp only [List.flatten_cons, List.length_append] at hb
    obtain ⟨g1, g2, g3, g4, g5⟩ := hex_head p.length (by omega)
    have hlen : (chunkL (p :: ps)).length = (hexL p.length).length + (p.length + (chunkL ps).length + 4) := by simp [chunkL]; omega
    by_cases c1 : k ≤ (hexL p.length).length
    · -- within the length, or at its end
      have e : (chunkL (p :: ps)).take k = (hexL p.length).take k := by
        simp only [chunkL]
        rw [List.take_append_of_le_length c1]
      rw [e]
      have hl : ((hexL p.length).take k).length = k := by rw [List.length_take]; omega
      have hK : lenK ((hexL p.length).take k) = k := by
        have := digN_pre ((hexL p.length).take k) [] 5 (by omega) (fun b hb => g3 b (List.mem_of_mem_take hb)) (.inr (fun c r e => by simp at e))
        rw [List.append_nil, hl] at this
        exact this
      have hC : lenC ((hexL p.length).take k) = 1 := by
        unfold lenC
        rw [if_neg]
        · by_cases k0 : k = 0
          · rw [if_pos (by rw [hK]; exact k0)]
          · rw [if_neg (by rw [hK]; exact k0), hK, List.drop_of_length_le (by omega)]; rfl
        · rintro (h | ⟨h, e⟩ | ⟨h, e⟩)
          · rw [hK] at h; omega
          · rw [hK] at h
            rw [List.head?_take, if_neg (by omega)] at e
            exact g5 (by omega) 48 e rfl
          · rw [hK] at h
            subst h
            simp at e
      have := Rd.len (r := (hexL p.length).take k) (body := body) (pos := pos) (by rw [hC]; simp)
      rw [hC] at this
      exact this
    · obtain ⟨j, rfl⟩ : ∃ j, k = (hexL p.length).length + 1 + j := ⟨k - (hexL p.length).length - 1, by omega⟩
      have e : (chunkL (p :: ps)).take ((hexL p.length).length + 1 + j) = hexL p.length ++ (13 :: (10 :: (p ++ (13 :: 10 :: chunkL ps))).take j) := by
        simp only [chunkL]
        rw [show (hexL p.length).length + 1 + j = (hexL p.length).length + (1 + j) by omega, List.take_length_add_append, Nat.add_comm 1 j, List.take_succ_cons]
      rw [e]
      cases j with
      | zero =>
        obtain ⟨h1, h2, h3⟩ := len_head p.length (by omega) [13] (fun c r e => by simp at e; exact e.1.symm)
        have := Rd.len (r := hexL p.length ++ [13]) (body := body) (pos := pos) (by rw [h3]; simp [lineC])
        rw [h3] at this
        simpa [lineC] using this
      | succ j =>
        rw [List.take_succ_cons]
        by_cases c2 : j < p.length
        · have e2 : (p ++ (13 :: 10 :: chunkL ps)).take j = p.take j := List.take_append_of_le_length (by omega)
          rw [e2]
          obtain ⟨h1, h2, h3⟩ := len_head p.length (by omega) (13 :: 10 :: p.take j) (fun c r e => by simp at e; exact e.1.symm)
          have hC : lenC (hexL p.length ++ (13 :: 10 :: p.take j)) = 0 := by rw [h3]; simp [lineC]
          refine Rd.short hC (by rw [h2]; omega) ?_
          unfold rdA
          rw [h1, h2, List.drop_append]
          simp
          omega
        · obtain ⟨i, rfl⟩ : ∃ i, j = p.length + i := ⟨j - p.length, by omega⟩
          have e2 : (p ++ (13 :: 10 :: chunkL ps)).take (p.length + i) = p ++ (13 :: 10 :: chunkL ps).take i := List.take_length_add_append _
          rw [e2]
          obtain ⟨h1, h2, h3, h4, h5⟩ := part_head p ((13 :: 10 :: chunkL ps).take i) (by omega)
          match i with
          | 0 =>
            have := Rd.line (body := body) (pos := pos) h1 (by rw [h3]; omega) (by rw [h3, h4]; simp) (by rw [h5]; simp [lineC])
            rw [h5] at this
            exact this
          | 1 =>
            have := Rd.line (body := body) (pos := pos) h1 (by rw [h3]; omega) (by rw [h3, h4]; simp) (by rw [h5]; simp [lineC])
            rw [h5] at this
            exact this
          | i + 2 =>
            refine Rd.part h1 (by rw [h3]; omega) (by rw [h3, h4]; simp) (by rw [h5]; simp [lineC]) (by rw [h3]; omega) ?_
            rw [h2, h3, h4, h5, List.take_left]
            have k := ih (body ++ p) (pos + (hexL p.length).length + p.length + 4) i (fun x hx => hp x (by simp [hx])) (by rw [List.length_append]; omega) (by omega)
            simpa using k

end Go.Proofs.YtlmenolcgaakeaaDoor

namespace Go.Proofs.YtlmenolcgaakeaaDoor
open Go.RowKit
open Go.Lib hiding intOf

/-- A list of ints that a function reads. -/
def IntsV (w : World) (oa : Option Addr) (n : Nat) (zs : List Int) : Prop := zs.length = n ∧ ∀ i, i < n → ∃ g, oa = some ⟨g, 0, none⟩ ∧ g < w.heap.size ∧ w.cell? ⟨g, i, none⟩ = some (.int .i64 (zs.getD i 0))
theorem IntsV.below {w w' : World} {oa : Option Addr} {n : Nat} {zs : List Int} (h : IntsV w oa n zs) (hb : Below w.heap.size w w') : IntsV w' oa n zs :=
  ⟨h.1, fun i hi => by
    obtain ⟨g, e, hg, hc⟩ := h.2 i hi
    exact ⟨g, e, Nat.lt_of_lt_of_le hg hb.size, by rw [hb.cell (p := ⟨g, i, none⟩) hg]; exact hc⟩⟩

end Go.Proofs.YtlmenolcgaakeaaDoor

namespace Go.Proofs.YtlmenolcgaakeaaDoor
open Go.RowKit

/-- How many bytes a head has; none: it is not whole. -/
def headN : List UInt8 → Option Nat
  | [] => none
  | c :: t => if (c :: t).take 4 = [13, 10, 13, 10] then some 4 else (headN t).map (· + 1)

theorem headN_len : ∀ {w : List UInt8} {n : Nat}, headN w = some n → 4 ≤ n ∧ n ≤ w.length := by
  intro w
  induction w with
  | nil => intro n h; simp [headN] at h
  | cons c t ih =>
    intro n h
    unfold headN at h
    by_cases h4 : (c :: t).take 4 = [13, 10, 13, 10]
    · rw [if_pos h4] at h
      obtain rfl := Option.some.inj h
      have := congrArg List.length h4
      simp [List.length_take] at this
      refine ⟨Nat.le_refl _, ?_⟩
      simp
      omega
    · rw [if_neg h4] at h
      obtain ⟨m, hm, rfl⟩ := Option.map_eq_some_iff.1 h
      have := ih hm
      simp
      omega

/-- A whole head stays the head, whatever is behind it. -/
theorem headN_app (x : List UInt8) : ∀ {w : List UInt8} {n : Nat}, headN w = some n → headN (w ++ x) = some n := by
  intro w
  induction w with
  | nil => intro n h; simp [headN] at h
  | cons c t ih =>
    intro n h
    have hl := headN_len h
    have ht : ((c :: t) ++ x).take 4 = (c :: t).take 4 := List.take_append_of_le_length (by omega)
    unfold headN at h
    show headN (c :: (t ++ x)) = some n
    unfold headN
    have ht' : (c :: (t ++ x)).take 4 = (c :: t).take 4 := ht
    rw [ht']
    by_cases h4 : (c :: t).take 4 = [13, 10, 13, 10]
    · rw [if_pos h4] at h ⊢; exact h
    · rw [if_neg h4] at h ⊢
      obtain ⟨m, hm, rfl⟩ := Option.map_eq_some_iff.1 h
      rw [ih hm]; rfl

/-- What waits behind it, whether it is bad, and what was told; none: not told within so many requests. -/
def fdF (ok : List UInt8 → Bool) (len : List UInt8 → Nat) : Nat → List UInt8 → Option (List UInt8 × Bool × List (List UInt8))
  | 0, _ => none
  | f + 1, w =>
    match headN w with
    | none => some (w, false, [])
    | some n =>
      if 120 < len (w.take n) then some ([], true, [])
      else if w.length < n + len (w.take n) then some (w, false, [])
      else if ok (w.take (n + len (w.take n))) = true then (fdF ok len f (w.drop (n + len (w.take n)))).map (fun x => (x.1, x.2.1, w.take (n + len (w.take n)) :: x.2.2))
      else some ([], true, [])

variable {ok : List UInt8 → Bool} {len : List UInt8 → Nat}

theorem fdF_more : ∀ (f : Nat) (w : List UInt8) (x : List UInt8 × Bool × List (List UInt8)), fdF ok len f w = some x → ∀ d, fdF ok len (f + d) w = some x := by
  intro f
  induction f with
  | zero => intro w x h; simp [fdF] at h
  | succ f ih =>
    intro w x h d
    rw [show f + 1 + d = (f + d) + 1 by omega]
    unfold fdF at h ⊢
    cases hn : headN w with
    | none => rw [hn] at h; exact h
    | some n =>
      rw [hn] at h
      simp only at h ⊢
      by_cases h1 : 120 < len (w.take n)
      · rw [if_pos h1] at h ⊢; exact h
      · rw [if_neg h1] at h ⊢
        by_cases h2 : w.length < n + len (w.take n)
        · rw [if_pos h2] at h ⊢; exact h
        · rw [if_neg h2] at h ⊢
          by_cases h3 : ok (w.take (n + len (w.take n))) = true
          · rw [if_pos h3] at h ⊢
            obtain ⟨y, hy, rfl⟩ := Option.map_eq_some_iff.1 h
            rw [ih _ _ hy d]; rfl
          · rw [if_neg h3] at h ⊢; exact h

/-- Bad stays bad, and what was told ahead of it stays told, whatever comes behind it. -/
theorem fdF_bad (x : List UInt8) : ∀ (f : Nat) (w u : List UInt8) (t : List (List UInt8)), fdF ok len f w = some (u, true, t) → u = [] ∧ fdF ok len f (w ++ x) = some ([], true, t) := by
  intro f
  induction f with
  | zero => intro w u t h; simp [fdF] at h
  | succ f ih =>
    intro w u t h
    unfold fdF at h ⊢
    cases hn : headN w with
    | none => rw [hn] at h; simp at h
    | some n =>
      have hl := headN_len hn
      rw [hn] at h
      rw [headN_app x hn]
      simp only at h ⊢
      rw [List.take_append_of_le_length hl.2]
      by_cases h1 : 120 < len (w.take n)
      · rw [if_pos h1] at h ⊢
        simp at h
        obtain ⟨rfl, rfl⟩ := h
        exact ⟨rfl, rfl⟩
      · rw [if_neg h1] at h ⊢
        by_cases h2 : w.length < n + len (w.take n)
        · rw [if_pos h2] at h; simp at h
        · rw [if_neg h2] at h
          rw [if_neg (by rw [List.length_append]; omega), List.take_append_of_le_length (by omega), List.drop_append_of_le_length (by omega)]
          by_cases h3 : ok (w.take (n + len (w.take n))) = true
          · rw [if_pos h3] at h ⊢
            obtain ⟨⟨y1, y2, y3⟩, hy, he⟩ := Option.map_eq_some_iff.1 h
            simp at he
            obtain ⟨rfl, rfl, rfl⟩ := he
            obtain ⟨e1, e2⟩ := ih _ _ _ hy
            rw [e2]
            exact ⟨e1, rfl⟩
          · rw [if_neg h3] at h ⊢
            simp at h
            obtain ⟨rfl, rfl⟩ := h
            exact ⟨rfl, rfl⟩

/-- What waits, with more behind it, goes on as the whole would have. -/
theorem fdF_on (x : List UInt8) (g : Nat) (u2 : List UInt8) (b2 : Bool) (t2 : List (List UInt8)) : ∀ (f : Nat) (w u : List UInt8) (t : List (List UInt8)), fdF ok len f w = some (u, false, t) → fdF ok len g (u ++ x) = some (u2, b2, t2) → fdF ok len (f + g) (w ++ x) = some (u2, b2, t ++ t2) := by
  intro f
  induction f with
  | zero => intro w u t h; simp [fdF] at h
  | succ f ih =>
    intro w u t h k
    have hstay : u = w → t = [] → fdF ok len (f + 1 + g) (w ++ x) = some (u2, b2, t ++ t2) := by
      rintro rfl rfl
      rw [Nat.add_comm]
      exact fdF_more _ _ _ k _
    unfold fdF at h
    cases hn : headN w with
    | none =>
      rw [hn] at h
      simp at h
      exact hstay h.1.symm h.2
    | some n =>
      have hl := headN_len hn
      rw [hn] at h
      simp only at h
      by_cases h1 : 120 < len (w.take n)
      · rw [if_pos h1] at h; simp at h
      · rw [if_neg h1] at h
        by_cases h2 : w.length < n + len (w.take n)
        · rw [if_pos h2] at h
          simp at h
          exact hstay h.1.symm h.2
        · rw [if_neg h2] at h
          by_cases h3 : ok (w.take (n + len (w.take n))) = true
          · rw [if_pos h3] at h
            obtain ⟨⟨y1, y2, y3⟩, hy, he⟩ := Option.map_eq_some_iff.1 h
            simp at he
            obtain ⟨rfl, rfl, rfl⟩ := he
            rw [show f + 1 + g = (f + g) + 1 by omega]
            unfold fdF
            rw [headN_app x hn]
            simp only
            rw [List.take_append_of_le_length hl.2, if_neg h1, if_neg (by rw [List.length_append]; omega), List.take_append_of_le_length (by omega), List.drop_append_of_le_length (by omega), if_pos h3, ih _ _ _ hy k]
            rfl
          · rw [if_neg h3] at h; simp at h

/-- What waits is no longer than the text; what was told is right, and no longer together. -/
theorem fdF_bound : ∀ (f : Nat) (w u : List UInt8) (b : Bool) (t : List (List UInt8)), fdF ok len f w = some (u, b, t) → u.length + t.flatten.length ≤ w.length ∧ (∀ y ∈ t, ok y = true) ∧ 4 * t.length ≤ w.length := by
  intro f
  induction f with
  | zero => intro w u b t h; simp [fdF] at h
  | succ f ih =>
    intro w u b t h
    unfold fdF at h
    cases hn : headN w with
    | none =>
      rw [hn] at h
      simp at h
      obtain ⟨rfl, rfl, rfl⟩ := h
      simp
    | some n =>
      have hl := headN_len hn
      rw [hn] at h
      simp only at h
      by_cases h1 : 120 < len (w.take n)
      · rw [if_pos h1] at h
        simp at h
        obtain ⟨rfl, rfl, rfl⟩ := h
        simp
      · rw [if_neg h1] at h
        by_cases h2 : w.length < n + len (w.take n)
        · rw [if_pos h2] at h
          simp at h
          obtain ⟨rfl, rfl, rfl⟩ := h
          simp
        · rw [if_neg h2] at h
          by_cases h3 : ok (w.take (n + len (w.take n))) = true
          · rw [if_pos h3] at h
            obtain ⟨⟨y1, y2, y3⟩, hy, he⟩ := Option.map_eq_some_iff.1 h
            simp at he
            obtain ⟨rfl, rfl, rfl⟩ := he
            obtain ⟨e1, e2, e3⟩ := ih _ _ _ _ hy
            rw [List.length_drop] at e1 e3
            refine ⟨?_, ?_, ?_⟩
            · rw [List.flatten_cons, List.length_append, List.length_take]
              omega
            · intro y hy'
              rcases List.mem_cons.1 hy' with rfl | hy'
              · exact h3
              · exact e2 y hy'
            · rw [List.length_cons]; omega
          · rw [if_neg h3] at h
            simp at h
            obtain ⟨rfl, rfl, rfl⟩ := h
            simp

/-- What is told of a text: one thing. -/
def Fd (ok : List UInt8 → Bool) (len : List UInt8 → Nat) (w : List UInt8) (x : List UInt8 × Bool × List (List UInt8)) : Prop := ∃ f, fdF ok len f w = some x
theorem Fd.uniq {w : List UInt8} {x y : List UInt8 × Bool × List (List UInt8)} (h : Fd ok len w x) (k : Fd ok len w y) : x = y := by
  obtain ⟨f, hf⟩ := h
  obtain ⟨g, hg⟩ := k
  have h1 := fdF_more f w x hf g
  have h2 := fdF_more g w y hg f
  rw [Nat.add_comm] at h2
  rw [h1] at h2
  exact Option.some.inj h2
theorem Fd.none {w : List UInt8} (h : headN w = .none) : Fd ok len w (w, false, []) := ⟨1, by unfold fdF; rw [h]⟩
theorem Fd.short {w : List UInt8} {n : Nat} (h : headN w = some n) (h1 : ¬ 120 < len (w.take n)) (h2 : w.length < n + len (w.take n)) : Fd ok len w (w, false, []) := ⟨1, by unfold fdF; rw [h]; simp only; rw [if_neg h1, if_pos h2]⟩
/-- Feed: what waits and whether it is bad, ahead and behind, and what was told. -/
def FeedP (ok : List UInt8 → Bool) (len : List UInt8 → Nat) (w : List UInt8) (b : Bool) (p : List UInt8) (w' : List UInt8) (b' : Bool) (t : List (List UInt8)) : Prop :=
  (b = true ∧ w' = [] ∧ b' = true ∧ t = []) ∨
  (b = false ∧ ∃ u c, Fd ok len (w ++ p) (u, c, t) ∧ (((c = true ∨ 1200 < u.length) ∧ w' = [] ∧ b' = true) ∨ (c = false ∧ ¬ 1200 < u.length ∧ w' = u ∧ b' = false)))
theorem FeedP.uniq {w p w1 w2 : List UInt8} {b b1 b2 : Bool} {t1 t2 : List (List UInt8)} (h : FeedP ok len w b p w1 b1 t1) (k : FeedP ok len w b p w2 b2 t2) : w1 = w2 ∧ b1 = b2 ∧ t1 = t2 := by
  rcases h with ⟨hb, rfl, rfl, rfl⟩ | ⟨hb, u, c, hf, hh⟩
  · rcases k with ⟨_, rfl, rfl, rfl⟩ | ⟨kb, _⟩
    · exact ⟨rfl, rfl, rfl⟩
    · rw [hb] at kb; cases kb
  · rcases k with ⟨kb, _⟩ | ⟨_, u2, c2, kf, kk⟩
    · rw [hb] at kb; cases kb
    · have e := hf.uniq kf
      simp at e
      obtain ⟨rfl, rfl, rfl⟩ := e
      rcases hh with ⟨ho, rfl, rfl⟩ | ⟨hc, hl, rfl, rfl⟩
      · rcases kk with ⟨_, rfl, rfl⟩ | ⟨kc, kl, _, _⟩
        · exact ⟨rfl, rfl, rfl⟩
        · rcases ho with ho | ho
          · rw [kc] at ho; cases ho
          · exact absurd ho kl
      · rcases kk with ⟨ko, _, _⟩ | ⟨_, _, rfl, rfl⟩
        · rcases ko with ko | ko
          · rw [hc] at ko; cases ko
          · exact absurd ko hl
        · exact ⟨rfl, rfl, rfl⟩
/-- Feed of each piece, one behind the other, and all that was told. -/
def FeedAllP (ok : List UInt8 → Bool) (len : List UInt8 → Nat) : List (List UInt8) → List UInt8 → Bool → List UInt8 → Bool → List (List UInt8) → Prop
  | [], w, b, w', b', t => w' = w ∧ b' = b ∧ t = []
  | p :: ps, w, b, w', b', t => ∃ w1 b1 t1 t2, FeedP ok len w b p w1 b1 t1 ∧ FeedAllP ok len ps w1 b1 w' b' t2 ∧ t = t1 ++ t2

/-- Promise 5 in plain words: in whatever pieces it comes, the same is told, and the same waits. -/
theorem FeedAllP.pieces : ∀ (ps : List (List UInt8)) (w : List UInt8) (b : Bool) (w' : List UInt8) (b' : Bool) (t : List (List UInt8)), ps ≠ [] → w.length + ps.flatten.length ≤ 1200 → FeedAllP ok len ps w b w' b' t → FeedP ok len w b ps.flatten w' b' t := by
  intro ps
  induction ps with
  | nil => intro w b w' b' t h; exact absurd rfl h
  | cons p ps ih =>
    intro w b w' b' t _ hl h
    obtain ⟨w1, b1, t1, t2, hf, ha, rfl⟩ := h
    rw [List.flatten_cons, List.length_append] at hl
    rw [List.flatten_cons]
    cases ps with
    | nil =>
      obtain ⟨rfl, rfl, rfl⟩ := ha
      simpa using hf
    | cons q qs =>
      rcases hf with ⟨hb, rfl, rfl, rfl⟩ | ⟨hb, u, c, hfd, hh⟩
      · rcases ih _ _ _ _ _ (by simp) (by simp only [List.length_nil]; omega) ha with ⟨_, rfl, rfl, rfl⟩ | ⟨kb, _⟩
        · exact .inl ⟨hb, rfl, rfl, rfl⟩
        · cases kb
      · obtain ⟨f, hfd⟩ := hfd
        have hbd := (fdF_bound f _ _ _ _ hfd).1
        rw [List.length_append] at hbd
        cases c with
        | true =>
          rcases hh with ⟨_, rfl, rfl⟩ | ⟨hc, _⟩
          · rcases ih _ _ _ _ _ (by simp) (by simp only [List.length_nil]; omega) ha with ⟨_, rfl, rfl, rfl⟩ | ⟨kb, _⟩
            · refine .inr ⟨hb, [], true, ⟨f, ?_⟩, .inl ⟨.inl rfl, rfl, rfl⟩⟩
              rw [← List.append_assoc, List.append_nil]
              exact (fdF_bad _ f _ _ _ hfd).2
            · cases kb
          · cases hc
        | false =>
          rcases hh with ⟨ho, _, _⟩ | ⟨_, _, rfl, rfl⟩
          · rcases ho with ho | ho
            · cases ho
            · exfalso; omega
          · rcases ih _ _ _ _ _ (by simp) (by omega) ha with ⟨kb, _⟩ | ⟨_, u2, c2, ⟨g, hg⟩, kk⟩
            · cases kb
            · refine .inr ⟨hb, u2, c2, ⟨f + g, ?_⟩, kk⟩
              rw [← List.append_assoc]
              exact fdF_on _ g _ _ _ f _ _ _ hfd hg

/-- A text cut into pieces of these sizes, and the rest as the last one, if it is not empty. -/
def pcs : List Int → List UInt8 → List (List UInt8)
  | [], s => if s = [] then [] else [s]
  | z :: zs, s => s.take z.toNat :: pcs zs (s.drop z.toNat)
theorem pcs_flat : ∀ (zs : List Int) (s : List UInt8), (pcs zs s).flatten = s := by
  intro zs
  induction zs with
  | nil =>
    intro s
    unfold pcs
    by_cases h : s = []
    · rw [if_pos h, h]; rfl
    · rw [if_neg h]; simp
  | cons z zs ih =>
    intro s
    unfold pcs
    rw [List.flatten_cons, ih, List.take_append_drop]
/-- The law's last piece is empty, so that there is one: the same is told of the pieces and of the whole. -/
theorem FeedAllP.cut {zs : List Int} {s w w' : List UInt8} {b b' : Bool} {t : List (List UInt8)} (hl : w.length + s.length ≤ 1200) (h : FeedAllP ok len (pcs zs s ++ [[]]) w b w' b' t) : FeedP ok len w b s w' b' t := by
  have hf : (pcs zs s ++ [[]]).flatten = s := by rw [List.flatten_append, pcs_flat]; simp
  have := FeedAllP.pieces (pcs zs s ++ [[]]) w b w' b' t (by simp) (by rw [hf]; exact hl) h
  rw [hf] at this
  exact this
end Go.Proofs.YtlmenolcgaakeaaDoor

namespace Go.Proofs.YtlmenolcgaakeaaDoor
open Go.RowKit
open Go.Lib hiding intOf

theorem owns_same {w w' : World} {base : Nat} {e : TypeId} {size : Nat} {v : Value} {n : Nat} {xs : List Value} (h : w.ownsRow base e size v n xs) (hs : ∀ j, v.ownBlock = some j → w'.heap[j]? = w.heap[j]?) : w'.ownsRow base e size v n xs := by
  obtain ⟨hl, hv⟩ := h
  refine ⟨hl, ?_⟩
  rcases hv with h0 | ⟨g, cap, cur, rfl, h2, h3, h4⟩
  · exact .inl h0
  · exact .inr ⟨g, cap, cur, rfl, h2, by rw [hs g rfl]; exact h3, h4⟩

end Go.Proofs.YtlmenolcgaakeaaDoor

namespace Go.Proofs.YtlmenolcgaakeaaDoor
open Go.RowKit
open Go.Lib hiding intOf

/-- A request, as it is told. -/
structure RqD where
  m : Int
  p : ByteArray
  fs : List (ByteArray × ByteArray)
  b : ByteArray
/-- Its text. -/
def RqD.text (r : RqD) : List UInt8 := bs (reqT r.m r.p r.fs r.b)
def RqD.ok (r : RqD) : Prop := ReqP r.m r.p r.fs r.b
theorem own_ltR {w : World} {base : Nat} {t : TypeId} {size : Nat} {v : Value} {n : Nat} {xs : List Value} {j : Nat} (h : w.ownsRow base t size v n xs) (hj : v.ownBlock = some j) : base ≤ j ∧ j < w.heap.size := by
  rcases h.2 with ⟨rfl, _⟩ | ⟨g, cap, cur, rfl, h0, h1, _⟩
  · cases hj
  · cases hj
    exact ⟨h0, (Array.getElem?_eq_some_iff.1 h1).1⟩
end Go.Proofs.YtlmenolcgaakeaaDoor

namespace Go.Proofs.YtlmenolcgaakeaaDoor
open Go.RowKit
open Go.Lib hiding intOf

/-- The cells of it. -/
def CcD.cs (c : CcD) : Array Value := #[.bool c.ns, .bool c.nc, .bool c.pr, .bool c.mu, .bool c.ha, .int .i64 c.age]
end Go.Proofs.YtlmenolcgaakeaaDoor

namespace Go.Proofs.YtlmenolcgaakeaaDoor
open Go.RowKit
open Go.Lib hiding intOf

set_option maxHeartbeats 1000000 in
theorem ccPickInt_any (c B g n : Nat) (f : Nat → Int) (a : Option Addr) (len cap : Nat) (zs : List Int) (w : World) (hcur : CurAt w c a len cap) (hcode : CodeAt w B a len zs) (hB : B ≤ c) (hn : 1 ≤ n) (hn2 : n ≤ 256) (hl : ∀ j, j < n → w.cell? ⟨g, j, none⟩ = some (.int .i64 (f j))) (hgc : g ≠ c) :
    Calls Tryd.prog 47 #[.pointer (some ⟨c, 0, none⟩), .slice (some ⟨g, 0, none⟩) n n] w fun e w' => ∃ j, j < n ∧ e = .returned (.int .i64 (f j)) ∧ CurAt w' c a len cap ∧ w.grownBy w' (some c) := by
  go_enter Tryd.func47, Tryd.ntmps47
  go_wp2_with fail
  refine (l1Below_any c B n a len cap zs _ hcur hcode hB (by omega) (by omega)).mono ?_
  rintro e w1 ⟨x, rfl, hx0, hx1, hcur1, hg1⟩
  obtain ⟨j, rfl⟩ := Int.eq_ofNat_of_zero_le hx0
  have hj : j < n := by omega
  have hcell : w1.cell? ⟨g, j, none⟩ = some (.int .i64 (f j)) := grown_cell hg1 (hl j hj) hgc
  go_wp2
  go_ret
  exact ⟨j, hj, rfl, hcur1, hg1⟩

end Go.Proofs.YtlmenolcgaakeaaDoor

namespace Go.Proofs.YtlmenolcgaakeaaDoor
open Go.RowKit
open Go.Lib hiding intOf

/-- A call on the cursor answers a number. -/
def TimeDrawn (w : World) (c : Nat) (a : Option Addr) (len cap : Nat) (e : Ending) (w' : World) : Prop :=
  ∃ n : Int, e = .returned (.int .i64 n) ∧ -9223372036854775808 ≤ n ∧ n ≤ 9223372036854775807 ∧ CurAt w' c a len cap ∧ w.grownBy w' (some c)
def tmL : List Int := [-1, 1000000, 1000001, 9223372036854775807, -9223372036854775808]
theorem tmL_in : ∀ j, j < 5 → -9223372036854775808 ≤ tmL.getD j 0 ∧ tmL.getD j 0 ≤ 9223372036854775807 := by decide
set_option maxHeartbeats 1000000 in
set_option maxRecDepth 100000 in
theorem l7DrawTime_any (c B : Nat) (a : Option Addr) (len cap : Nat) (zs : List Int) (w : World) (hcur : CurAt w c a len cap) (hcode : CodeAt w B a len zs) (hB : B ≤ c) :
    Calls Tryd.prog 33 #[.pointer (some ⟨c, 0, none⟩)] w fun e w' => TimeDrawn w c a len cap e w' := by
  have HCO : Hid (∀ W, w.grownBy W (some c) → CodeAt W B a len zs) := fun W h => hcode.grown h hB
  go_enter Tryd.func33, Tryd.ntmps33
  go_wp2_with fail
  refine (l1Once_any c B 15 a len cap zs _ hcur hcode hB (by omega) (by omega)).mono ?_
  rintro e w1 ⟨hb, hcu1, hg1⟩
  obtain ⟨b, rfl⟩ := hb.out
  have HG1 : Hid (w.grownBy w1 (some c)) := hg1
  have hcl1 := hcu1.lt
  clear hb hcur hcode hg1
  cases b with
  | true =>
    have hla : ∀ j, j < 5 → (w1.alloc (.cells #[.int .i64 (-1), .int .i64 1000000, .int .i64 1000001, .int .i64 9223372036854775807, .int .i64 (-9223372036854775808)] 3)).cell? ⟨w1.heap.size, j, none⟩ = some (.int .i64 (tmL.getD j 0)) := by
      intro j hj
      rw [World.cell?_alloc_new]
      match j, hj with
      | 0, _ => rfl
      | 1, _ => rfl
      | 2, _ => rfl
      | 3, _ => rfl
      | 4, _ => rfl
    have HGA : Hid (∀ o, w.grownBy (w1.alloc o) (some c)) := fun o => grownBy_trans HG1.out (World.grownBy_alloc w1 o _)
    go_wp2_with fail
    refine (ccPickInt_any c B w1.heap.size 5 (fun j => tmL.getD j 0) a len cap zs _ (hcu1.below ((Below.refl _ _).alloc (Nat.le_refl _) _) hcl1) (HCO.out _ (HGA.out _)) hB (by omega) (by omega) (by exact hla) (by omega)).mono ?_
    rintro e w2 ⟨j, hj, rfl, hcu2, hg2⟩
    have hz := tmL_in j hj
    obtain ⟨z, hzz⟩ : ∃ z, z = tmL.getD j 0 := ⟨_, rfl⟩
    rw [← hzz] at hz ⊢
    have HG2 : Hid (w.grownBy w2 (some c)) := grownBy_trans (HGA.out _) hg2
    clear hzz hla hg2 hcu1
    go_wp2_with fail
    go_ret
    exact ⟨z, rfl, hz.1, hz.2, hcu2, HG2.out⟩
  | false =>
    go_wp2_with fail
    refine (l1Below_any c B 40 a len cap zs _ hcu1 (HCO.out _ HG1.out) hB (by omega) (by omega)).mono ?_
    rintro e w2 ⟨x, rfl, hx0, hx1, hcu2, hg2⟩
    have HG2 : Hid (w.grownBy w2 (some c)) := grownBy_trans HG1.out hg2
    clear hcu1 hg2
    go_wp2_with fail
    go_ret
    exact ⟨x, rfl, by omega, by omega, hcu2, HG2.out⟩

/-- While they are drawn. -/
structure FtSt (w : World) (c : Nat) (a : Option Addr) (len cap : Nat) (v : Value) (fs : List (ByteArray × ByteArray)) (wr : World) : Prop where
  own : wr.ownsRow (c + 1) 132 2 v fs.length (flatF fs)
  le : fs.length ≤ 41
  short : ShortF fs
  cur : CurAt wr c a len cap
  low : Below c w wr
theorem FtSt.grown {w : World} {c : Nat} {a : Option Addr} {len cap : Nat} {v : Value} {fs : List (ByteArray × ByteArray)} {wr W : World} (h : FtSt w c a len cap v fs wr) (hg : wr.grownBy W (some c)) (hcu : CurAt W c a len cap) : FtSt w c a len cap v fs W :=
  ⟨owns_same h.own (fun j hj => hg.block j (own_ltR h.own hj).2 (fun e => by cases e; have := (own_ltR h.own hj).1; omega)), h.le, h.short, hcu, h.low.grown hg (by have := h.cur.lt; omega) (by intro k hk; cases hk; exact Nat.le_refl _)⟩
end Go.Proofs.YtlmenolcgaakeaaDoor

namespace Go.Proofs.YtlmenolcgaakeaaDoor
open Go.RowKit
open Go.Lib hiding intOf

/-- 'wpAnyH_take', its place named. -/
theorem wpAnyH_takeD {P : Program} {ops : Array Oper} {Q : Exit → Act → World → Prop} {md : Region.Mode} {S : World → Prop} {i : Nat} {oi : Oper} {v : Value} {fuel : Nat} {listed : Array Bool} {a : Act} {w : World} (d : Option Tmp) (hi : ops[i]? = some oi) (hd : oi.dst = d)
    (hs : Region.noSelect ops = true) (hf : Region.free md ops listed i = true) (hr : (Region.ready md ops listed).contains i = true)
    (hQ : ∀ c a w, Q (.panic c) (a.put oi.dst v) w → Q (.panic c) a w) (hy : YieldsIf P ops S oi v a) (hS : S w)
    (h : wpAnyH P md ops Q S fuel (listed.setIfInBounds i true) (a.put d v) w) : wpAnyH P md ops Q S (fuel + 1) listed a w :=
  wpAnyH_take hi hs hf hr hQ hy hS (hd ▸ h)
end Go.Proofs.YtlmenolcgaakeaaDoor

namespace Go.Proofs.YtlmenolcgaakeaaDoor
open Go.RowKit
open Go.Lib hiding intOf

/-- While it is drawn: the answer's memory R, the variable r. -/
structure DResp (w : World) (c R r : Nat) (m : Int) (fv : Value) (fs : List (ByteArray × ByteArray)) (b : ByteArray) (a : Option Addr) (len cap : Nat) (W : World) : Prop where
  hR : W.heap[R]? = some (.cells #[.int .i64 0, .slice none 0 0, .string ⟨#[]⟩] 128)
  hr : W.heap[r]? = some (.cells #[.int .i64 m, fv, .string b] 128)
  own : W.ownsRow w.heap.size 132 2 fv fs.length (flatF fs)
  cur : CurAt W c a len cap
  grow : w.grownBy W (some c)
  apart : ∀ j, fv.ownBlock = some j → j ≠ R ∧ j ≠ r
theorem DResp.later {w : World} {c R r : Nat} {m : Int} {fv : Value} {fs : List (ByteArray × ByteArray)} {b : ByteArray} {a : Option Addr} {len cap : Nat} {W : World} {W' : World} (h : DResp w c R r m fv fs b a len cap W) (hcw : c < w.heap.size) (hRw : w.heap.size ≤ R) (hrw : w.heap.size ≤ r) (hcu : CurAt W' c a len cap) (hg : W.grownBy W' (some c)) : DResp w c R r m fv fs b a len cap W' := by
  refine ⟨?_, ?_, ?_, hcu, grownBy_trans h.grow hg, h.apart⟩
  · rw [hg.block R ((Array.getElem?_eq_some_iff.1 h.hR).1) (fun e => by have := Option.some.inj e; omega)]; exact h.hR
  · rw [hg.block r ((Array.getElem?_eq_some_iff.1 h.hr).1) (fun e => by have := Option.some.inj e; omega)]; exact h.hr
  · exact h.own.kept hg (by cases h2 : fv.ownBlock <;> simp; exact fun e => by have h7 := owns_ge h.own h2; omega)
end Go.Proofs.YtlmenolcgaakeaaDoor

namespace Go.Proofs.YtlmenolcgaakeaaDoor
open Go.RowKit
open Go.Lib hiding intOf

/-- A block's content behind a call. -/
theorem blk_below {W W' : World} {r : Nat} {o : Obj} (h : W.heap[r]? = some o) (b : Below W.heap.size W W') : W'.heap[r]? = some o := by
  rw [b.block r (Array.getElem?_eq_some_iff.1 h).1]; exact h
theorem own_ne {W : World} {r : Nat} {cs : Array Value} {T t : TypeId} {base size n : Nat} {v : Value} {xs : List Value} (ho : W.ownsRow base t size v n xs) (h : W.heap[r]? = some (.cells cs T)) (hT : T ≠ t) (j : Nat) (hj : v.ownBlock = some j) : j ≠ r := fun e => by
  subst e
  rcases ho.2 with ⟨rfl, _⟩ | ⟨g, cap, cur, rfl, _, h1, _⟩
  · cases hj
  · cases hj
    rw [h] at h1
    cases h1
    exact hT rfl
end Go.Proofs.YtlmenolcgaakeaaDoor

namespace Go.Proofs.YtlmenolcgaakeaaDoor
open Go.RowKit
open Go.Lib hiding intOf

def varyName : ByteArray := ⟨#[118, 97, 114, 121]⟩
/-- The names that an answer hangs on. -/
def varyP (fs : List (ByteArray × ByteArray)) : List ByteArray := (splitL (getV fs varyName)).map lowerOf
/-- A list of texts that is read. -/
def TextsA (w : World) (oa : Option Addr) (n : Nat) (xs : List ByteArray) : Prop :=
  xs.length = n ∧ ∀ i, i < n → ∃ g, oa = some ⟨g, 0, none⟩ ∧ g < w.heap.size ∧ w.cell? ⟨g, i, none⟩ = some (.string (textAt xs i))
theorem TextsA.below {w w' : World} {oa : Option Addr} {n : Nat} {xs : List ByteArray} (h : TextsA w oa n xs) (hb : Below w.heap.size w w') : TextsA w' oa n xs :=
  ⟨h.1, fun i hi => by
    obtain ⟨g, h1, h2, h3⟩ := h.2 i hi
    exact ⟨g, h1, Nat.lt_of_lt_of_le h2 hb.size, by rw [hb.cell (p := ⟨g, i, none⟩) h2]; exact h3⟩⟩
theorem texts_own {w : World} {base n : Nat} {v : Value} {xs : List ByteArray} (h : w.ownsRow base 9 1 v n (xs.map Value.string)) : ∃ oa cap, v = .slice oa n cap ∧ TextsA w oa n xs := by
  have hl : xs.length = n := by have := h.1; simpa using this
  rcases row_form h with ⟨oa, ca, rfl, rfl, rfl⟩ | ⟨g, cap, rfl, hp, r⟩
  · exact ⟨oa, ca, rfl, rfl, fun i hi => absurd hi (by omega)⟩
  · exact ⟨_, _, rfl, hl, fun i hi => ⟨g, rfl, r.lt, r.cell i hi⟩⟩

end Go.Proofs.YtlmenolcgaakeaaDoor

namespace Go.Proofs.YtlmenolcgaakeaaDoor
open Go.RowKit
open Go.Lib hiding intOf

/-- A list of texts among the arguments. -/
structure ArgT (w : World) (B : Nat) (a : Option Addr) (n : Nat) (xs : List ByteArray) : Prop where
  len : xs.length = n
  get : ∀ i, i < n → ∃ b off, a = some ⟨b, off, none⟩ ∧ b < B ∧ w.cell? ⟨b, off + i, none⟩ = some (.string (textAt xs i))
theorem ArgT.below {w w' : World} {B : Nat} {a : Option Addr} {n : Nat} {xs : List ByteArray} (h : ArgT w B a n xs) (hb : Below B w w') : ArgT w' B a n xs :=
  ⟨h.len, fun i hi => by
    obtain ⟨b, off, h1, h2, h3⟩ := h.get i hi
    exact ⟨b, off, h1, h2, by rw [hb.cell (p := ⟨b, off + i, none⟩) h2]; exact h3⟩⟩

/-- The first k texts of a row of n cells are told. -/
def PartT (w : World) (g n k : Nat) (xs : List ByteArray) : Prop :=
  ∃ cur, w.heap[g]? = some (.cells cur 9 (0, 0)) ∧ cur.size = n ∧ ∀ i, i < k → cur[i]? = some (.string (textAt xs i))
theorem PartT.put {w : World} {g n k : Nat} {xs : List ByteArray} (h : PartT w g n k xs) (hk : k < n) : PartT (w.setCell ⟨g, k, none⟩ (.string (textAt xs k))) g n (k + 1) xs := by
  obtain ⟨cur, h1, h2, h3⟩ := h
  refine ⟨_, heap_set w g k _ _ _ _ h1, by simpa using h2, fun i hi => ?_⟩
  by_cases e : i = k
  · subst e
    exact Array.getElem?_setIfInBounds_self_of_lt (by omega)
  · rw [Array.getElem?_setIfInBounds_ne (fun x => e x.symm)]
    exact h3 i (by omega)
theorem PartT.row {w : World} {g n base : Nat} {xs : List ByteArray} (h : PartT w g n n xs) (hl : xs.length = n) (hb : base ≤ g) (hn : n ≤ maxLen) : TextRow base w g n n xs := by
  obtain ⟨cur, h1, h2, h3⟩ := h
  exact ⟨hl, hb, (Array.getElem?_eq_some_iff.1 h1).1, Nat.le_refl _, hn, cur, h1, h2, h3⟩

end Go.Proofs.YtlmenolcgaakeaaDoor

namespace Go.Proofs.YtlmenolcgaakeaaDoor
open Go.RowKit
open Go.Lib hiding intOf

theorem cell_of {W : World} {R : Nat} {cs : Array Value} {t : TypeId} (h : W.heap[R]? = some (.cells cs t)) (i : Nat) : W.cell? ⟨R, i, none⟩ = cs[i]? := by simp [World.cell?, h]
theorem frozen_of {W : World} {R : Nat} {cs : Array Value} {t : TypeId} (h : W.heap[R]? = some (.cells cs t)) (i : Nat) : W.frozen? ⟨R, i, none⟩ = false := by simp [World.frozen?, h]
end Go.Proofs.YtlmenolcgaakeaaDoor

namespace Go.Proofs.YtlmenolcgaakeaaDoor
open Go.RowKit
open Go.Lib hiding intOf

theorem cur_set {W : World} {c q : Nat} {a : Option Addr} {len cap : Nat} (h : CurAt W c a len cap) (hne : q ≠ c) (o : Nat) (v : Value) : CurAt (W.setCell ⟨q, o, none⟩ v) c a len cap := by
  obtain ⟨i, x, hi, hh⟩ := h
  exact ⟨i, x, hi, by rw [heap_setCell_other _ _ c _ (fun e => hne e.symm)]; exact hh⟩
theorem grown_own {w W : World} {q : Nat} {row : Option Nat} (h : w.grownBy W row) (hq : w.heap.size ≤ q) (o : Nat) (v : Value) : w.grownBy (W.setCell ⟨q, o, none⟩ v) row :=
  ⟨h.os, h.tape, h.output, by rw [World.size_setCell]; exact h.size, fun i hi hne => by rw [heap_setCell_other _ _ i _ (fun e => by have e2 : i = q := e; omega)]; exact h.block i hi hne⟩
end Go.Proofs.YtlmenolcgaakeaaDoor

namespace Go.Proofs.YtlmenolcgaakeaaDoor
open Go.RowKit
open Go.Lib hiding intOf

set_option maxHeartbeats 1000000 in
theorem l1Below_all (c B : Nat) (m : Int) (a : Option Addr) (len cap : Nat) (zs : List Int) (w : World) (hcur : CurAt w c a len cap) (hcode : CodeAt w B a len zs) (hB : B ≤ c) (hm : 1 ≤ m) (hm2 : m ≤ 65536) :
    Calls Tryd.prog 29 #[.pointer (some ⟨c, 0, none⟩), .int .i64 m] w fun e w' => DrawIs m w c a len cap e w' := by
  by_cases h256 : m ≤ 256
  · exact l1Below_any c B m a len cap zs w hcur hcode hB hm h256
  · have hm0 : ¬ m ≤ 0 := by omega
    go_enter Tryd.func29, Tryd.ntmps29
    go_wp2_with fail
    refine (l1Byte_any c B a len cap zs _ hcur hcode hB).mono ?_
    rintro e w1 ⟨x, rfl, hx0, hx1, hcur1, hg1⟩
    have hco1 := hcode.grown hg1 hB
    go_wp2_with fail
    refine (l1Byte_any c B a len cap zs _ hcur1 hco1 hB).mono ?_
    rintro e w2 ⟨y, rfl, hy0, hy1, hcur2, hg2⟩
    have hg3 := grownBy_trans hg1 hg2
    have hco2 := hcode.grown hg3 hB
    go_wp2_with fail
    refine (l1Byte_any c B a len cap zs _ hcur2 hco2 hB).mono ?_
    rintro e w3 ⟨z, rfl, hz0, hz1, hcur3, hg4⟩
    have hg5 := grownBy_trans hg3 hg4
    have hco3 := hcode.grown hg5 hB
    go_wp2_with fail
    refine (l1Byte_any c B a len cap zs _ hcur3 hco3 hB).mono ?_
    rintro e w4 ⟨u, rfl, hu0, hu1, hcur4, hg6⟩
    have hg7 := grownBy_trans hg5 hg6
    clear hcur hcode hcur1 hco1 hg1 hg2 hg3 hco2 hcur2 hcur3 hg4 hg5 hco3 hg6
    go_wp2_with fail
    go_ret
    exact ⟨_, rfl, Int.emod_nonneg _ (by omega), Int.emod_lt_of_pos _ (by omega), hcur4, hg7⟩

end Go.Proofs.YtlmenolcgaakeaaDoor

namespace Go.Proofs.YtlmenolcgaakeaaDoor
open Go.RowKit
open Go.Lib hiding intOf

set_option maxHeartbeats 1000000 in
set_option maxRecDepth 100000 in
theorem l3Dent_any (c B : Nat) (s : ByteArray) (f : Nat → ByteArray) (g n : Nat) (hxs : ∀ j, j < n → (f j).size ≤ 64) (hn1 : 1 ≤ n) (hn2 : n ≤ 256) (a : Option Addr) (len cap : Nat) (zs : List Int) (w : World) (hcur : CurAt w c a len cap) (hcode : CodeAt w B a len zs) (hB : B ≤ c) (hs : s.size ≤ 20000) (hgc : g ≠ c) (hl : ListAt w g n f) :
    Calls Tryd.prog 27 #[.pointer (some ⟨c, 0, none⟩), .string s, .slice (some ⟨g, 0, none⟩) n n] w fun e w' => TextDrawn 20064 w c a len cap e w' := by
  have HX : Hid (∀ j, j < n → (f j).size ≤ 64) := hxs
  have HL : Hid (∀ W, w.grownBy W (some c) → ListAt W g n f) := fun W h j hj => grown_cell h (hl j hj) hgc
  have HCO : Hid (∀ W, w.grownBy W (some c) → CodeAt W B a len zs) := fun W h => hcode.grown h hB
  clear hxs hl
  go_enter Tryd.func27, Tryd.ntmps27
  go_wp2_with fail
  refine (l1Below_all c B ((s.size : Int) + 1) a len cap zs _ hcur hcode hB (by omega) (by omega)).mono ?_
  rintro e w1 ⟨x, rfl, hx0, hx1, hcu1, hg1⟩
  obtain ⟨k, rfl⟩ := Int.eq_ofNat_of_zero_le hx0
  have hks : k ≤ s.size := by omega
  have hki : (k : Int) ≤ (s.size : Int) := by omega
  clear hcur hcode
  go_wp2_with fail
  refine (l1Below_any c B 5 a len cap zs _ hcu1 (HCO.out _ hg1) hB (by omega) (by omega)).mono ?_
  rintro e w2 ⟨y, rfl, hy0, hy1, hcu2, hg2⟩
  have hg3 := grownBy_trans hg1 hg2
  clear hcu1 hg1 hg2
  by_cases y0 : y = 0
  · subst y0
    go_wp2_with fail
    go_ret
    exact ⟨_, rfl, by simp; omega, hcu2, hg3⟩
  · have e0 : (y == 0) = false := by rw [beq_eq_false_iff_ne]; exact y0
    by_cases y1 : y = 1
    · subst y1
      have HG : Hid (w.grownBy w2.drew (some c)) := grownBy_trans hg3 (grown_below ((Below.refl _ w2).drew) _)
      have HP : Hid (∀ W, w2.drew.grownBy W (some c) → w.grownBy W (some c)) := fun W h => grownBy_trans HG.out h
      have HCD : Hid (CurAt w2.drew c a len cap) := hcu2.below ((Below.refl _ w2).drew) hcu2.lt
      have hk0 : (0 : Int) ≤ (k : Int) := by omega
      have ZZ : Hid (∀ t : ByteArray, t.size ≤ 64 → ¬ 9223372036854775807 < k + t.size ∧ ¬ 9223372036854775807 < k + t.size + (s.size - k)) := fun t h => ⟨by omega, by omega⟩
      clear hy0 hy1 e0 hx0 hx1 y0
      clear hcu2 hg3
      go_wp2_with fail
      go_region_law (first | (go_simp; go_at_call 34; refine (l1Pick_any c B g n f a len cap zs _ HCD.out (HCO.out _ HG.out) hB hn1 hn2 (HL.out _ HG.out) hgc).mono ?_; rintro e w3 ⟨j, hj, rfl, hcu3, hg4⟩; have hg5 := HP.out w3 hg4; have hts := HX.out j hj; obtain ⟨r1, r2⟩ := ZZ.out _ hts; clear hg4))
      go_wp2_with fail
      go_ret
      exact ⟨_, rfl, by simp only [ByteArray.size_append, ByteArray.size_extract]; omega, hcu3, hg5⟩
    · have e1 : (y == 1) = false := by rw [beq_eq_false_iff_ne]; exact y1
      go_wp2_with fail
      go_ret
      exact ⟨_, rfl, by omega, hcu2, hg3⟩

end Go.Proofs.YtlmenolcgaakeaaDoor

namespace Go.Proofs.YtlmenolcgaakeaaDoor
open Go.RowKit
open Go.Lib hiding intOf

/-- Names are right: at most four words. -/
def NamesP (xs : List ByteArray) : Prop := (∀ x ∈ xs, TokOk x) ∧ xs.length ≤ 4
end Go.Proofs.YtlmenolcgaakeaaDoor

namespace Go.Proofs.YtlmenolcgaakeaaDoor
open Go.RowKit
open Go.Lib hiding intOf

theorem textAt_mem (xs : List ByteArray) (j : Nat) (h : j < xs.length) : textAt xs j ∈ xs := by
  unfold textAt
  rw [List.getD_eq_getElem?_getD, List.getElem?_eq_getElem h]
  exact List.getElem_mem _
theorem take_textAt (xs : List ByteArray) (j : Nat) (h : j < xs.length) : xs.take (j + 1) = xs.take j ++ [textAt xs j] := by
  rw [List.take_add_one, List.getElem?_eq_getElem h]
  unfold textAt
  rw [List.getD_eq_getElem?_getD, List.getElem?_eq_getElem h]
  rfl

end Go.Proofs.YtlmenolcgaakeaaDoor

namespace Go.Proofs.YtlmenolcgaakeaaDoor
open Go.RowKit
open Go.Lib hiding intOf

/-- An object is right. -/
def ObjP (p : ByteArray) (xs ys : List ByteArray) (st : Int) (fs : List (ByteArray × ByteArray)) (b : ByteArray) (t : Int) : Prop :=
  RespP st fs b ∧ PathOk p ∧ (0 ≤ t ∧ t ≤ 1000000) ∧ NamesP xs ∧ xs = varyP fs ∧ ys.length = xs.length ∧ ∀ y ∈ ys, ValOk y
theorem texts_view {w : World} {base n p : Nat} {o : Option Addr} {xs : List ByteArray} (h : w.ownsRow base 9 1 (.slice o n p) n (xs.map Value.string)) : TextsA w o n xs := by
  obtain ⟨oa, ca, he, hx⟩ := texts_own h
  cases he
  exact hx

end Go.Proofs.YtlmenolcgaakeaaDoor
