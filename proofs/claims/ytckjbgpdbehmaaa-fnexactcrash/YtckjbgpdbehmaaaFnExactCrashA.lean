/- What the proof of FnExactCrash leans on: contracts of the program's and the specification's functions, and plain facts (part 1 of 2). -/
import Derived.Test.YtckjbgpdbehmaaaProg
import Derived.Test.YtckjbgpdbehmaaaRows
import Derived.ArgAppend
import Derived.Below
import Derived.BigQuiet
import Derived.ChangeKeysEq
import Derived.ChangeOld
import Derived.Deep.AppendLies
import Derived.Deep.CutRange
import Derived.Deep.DeepCutAuto
import Derived.Deep.DrawnRows
import Derived.Deep.MidRow
import Derived.Deep.QuietTactic
import Derived.Deep.RegionHeld3
import Derived.Deep.RegionLaw
import Derived.Deep.RegionWith
import Derived.Deep.SlicePairs
import Derived.Deep.Slices
import Derived.Laws.AppendOwnNone
import Derived.Laws.BytesArg
import Derived.Laws.EntriesVeiled
import Derived.Laws.MakeOwn
import Derived.Laws.RangeAny
import Derived.Laws.Rows
import Derived.Laws.StructEq
import Derived.Laws.Tables
import Derived.Lib.AppendIntMem
import Derived.Lib.BufferOwn
import Derived.Lib.ConvBytes
import Derived.Lib.LaidTab
import Derived.Lib.Strings
import Derived.Lib.Walk
import Derived.OpenShut
import Derived.ProofKit
import Derived.Shelf.LaysM
import Derived.Shelf.Strconv.Clone
import Derived.ShutString
import Derived.SliceStrings
import Derived.WalkKit
import Derived.WalkLawsBesides
import Derived.WalkSpells
namespace Go.Proofs.Ytckjbgpdbehmaaa
open Go.RowKit
open Go.Lib hiding intOf

/-- The bytes of a token. -/
def TokB (n : Int) : Prop := (97 ≤ n ∧ n ≤ 122) ∨ (48 ≤ n ∧ n ≤ 57) ∨ n = 45
def ValB (n : Int) : Prop := 32 ≤ n ∧ n ≤ 126
/-- A call answers a bool that says whether p, and turns nothing that was there. -/
def BoolIs (p : Prop) (w : World) (e : Ending) (w' : World) : Prop := ∃ b : Bool, e = .returned (.bool b) ∧ (b = true ↔ p) ∧ Below w.heap.size w w'
theorem BoolIs.no {p : Prop} {w w' : World} (hp : ¬ p) (hb : Below w.heap.size w w') : BoolIs p w (.returned (.bool false)) w' := ⟨false, rfl, by simpa using hp, hb⟩

/-- Every byte of the text is such a one. -/
def AllB (p : Int → Prop) (s : ByteArray) : Prop := ∀ j (h : j < s.size), p ((s[j]'h).toNat : Int)
/-- What the chapter asks of a token. -/
def TokOk (s : ByteArray) : Prop := 1 ≤ s.size ∧ s.size ≤ 20 ∧ AllB TokB s

end Go.Proofs.Ytckjbgpdbehmaaa

namespace Go.Proofs
open Go.Shelf
def Try.laysM316_ren : Go.Shelf.Ren := ⟨fun | 316 => 67 | n => n, fun | 9 => 9 | 3 => 3 | 4 => 4 | 37 => 22 | 0 => 0 | 127 => 96 | 5 => 5 | n => n, fun | n => n⟩
theorem Try.laysM316 : Go.Proofs.LaysM.n316 Try.prog Try.laysM316_ren := {
  mixed := by kernel_rfl
  f316 := Try.func67.trans (congrArg some (by kernel_rfl))
  t0 := Try.underlying0
  a0 := Try.isAgg0
  z0 := Try.sizeOf0
  v0 := Try.zeroValue0
  t3 := Try.underlying3
  a3 := Try.isAgg3
  z3 := Try.sizeOf3
  v3 := Try.zeroValue3
  t4 := Try.underlying4
  a4 := Try.isAgg4
  z4 := Try.sizeOf4
  v4 := Try.zeroValue4
  t9 := Try.underlying9
  a9 := Try.isAgg9
  z9 := Try.sizeOf9
  v9 := Try.zeroValue9
  t37 := Try.underlying22
  a37 := Try.isAgg22
  z37 := Try.sizeOf22
  v37 := Try.zeroValue22
  t127 := Try.underlying96
  a127 := Try.isAgg96
  z127 := Try.sizeOf96
  v127 := Try.zeroValue96
  t5 := Try.underlying5
  a5 := Try.isAgg5
  z5 := Try.sizeOf5
  v5 := Try.zeroValue5
  i0 := by kernel_rfl
  i3 := by kernel_rfl
  i4 := by kernel_rfl
  i5 := by kernel_rfl
  i9 := by kernel_rfl
  i37 := by kernel_rfl
  i127 := by kernel_rfl }
open Go.RowKit in
theorem Try.stringslite_Clone (s : ByteArray) (w : World) (hlim : s.size ≤ 281474976710656) :
    Calls Try.prog 67 #[.string s] w fun e w' => e = .returned (.string s) ∧ Below w.heap.size w w' := Any.stringslite_Clone Try.laysM316 s w hlim
end Go.Proofs

namespace Go.Proofs.Ytckjbgpdbehmaaa
open Go.RowKit

set_option maxHeartbeats 400000 in
theorem clone_any (s : ByteArray) (w : World) (hlim : s.size ≤ 281474976710656) :
    Calls Try.prog 48 #[.string s] w fun e w' => e = .returned (.string s) ∧ Below w.heap.size w w' := by
  go_enter Try.func48, Try.ntmps48
  go_wp2_with (go_at_call 67; refine (Try.stringslite_Clone _ _ hlim).mono ?_; rintro e w1 ⟨rfl, hb1⟩)
  go_ret
  exact ⟨rfl, hb1⟩

end Go.Proofs.Ytckjbgpdbehmaaa

namespace Go.Proofs.Ytckjbgpdbehmaaa

/-- The list without the blanks that it begins with. -/
def dropB : List UInt8 → List UInt8
  | [] => []
  | b :: r => if b.toNat = 32 then dropB r else b :: r
/-- .. and without those that it ends with. -/
def trimL (l : List UInt8) : List UInt8 := (dropB (dropB l).reverse).reverse
def trimOf (s : ByteArray) : ByteArray := ⟨(trimL s.data.toList).toArray⟩

end Go.Proofs.Ytckjbgpdbehmaaa

namespace Go.Proofs.Ytckjbgpdbehmaaa
open Go.RowKit
open Go.Lib hiding intOf

/-- A call answers this text, and turns nothing that was there. -/
def TextIs (t : ByteArray) (w : World) (e : Ending) (w' : World) : Prop := e = .returned (.string t) ∧ Below w.heap.size w w'
theorem TextIs.of {t u : ByteArray} {w w' : World} (h : u = t) (hb : Below w.heap.size w w') : TextIs t w (.returned (.string u)) w' := ⟨by rw [h], hb⟩

end Go.Proofs.Ytckjbgpdbehmaaa

namespace Go.Proofs.Ytckjbgpdbehmaaa
open Go.RowKit
open Go.Lib hiding intOf

/-- What the chapter asks of a value. -/
def ValOk (s : ByteArray) : Prop := 1 ≤ s.size ∧ s.size ≤ 60 ∧ AllB ValB s ∧ trimOf s = s
end Go.Proofs.Ytckjbgpdbehmaaa

namespace Go.Proofs.Ytckjbgpdbehmaaa

def DigB (b : UInt8) : Prop := 48 ≤ b.toNat ∧ b.toNat ≤ 57
/-- The number that a row of digits is. -/
def valL (l : List UInt8) : Nat := l.foldl (fun v b => 10 * v + (b.toNat - 48)) 0
theorem valL_snoc (l : List UInt8) (b : UInt8) : valL (l ++ [b]) = 10 * valL l + (b.toNat - 48) := by simp [valL]
/-- The digits of a number that is not 0; none of 0. -/
def dgF : Nat → Nat → List UInt8
  | 0, _ => []
  | f + 1, n => if n = 0 then [] else dgF f (n / 10) ++ [UInt8.ofNat (48 + n % 10)]
theorem dgF_zero (f : Nat) : dgF f 0 = [] := by cases f <;> simp [dgF]
theorem dgF_pos (f n : Nat) (h : n ≠ 0) : dgF (f + 1) n = dgF f (n / 10) ++ [UInt8.ofNat (48 + n % 10)] := by simp [dgF, h]

theorem ofNat_digit (n : Nat) : (UInt8.ofNat (48 + n % 10)).toNat = 48 + n % 10 := by
  simp; omega

theorem head_snoc (r : List UInt8) (b c : UInt8) (hr : r ≠ []) : (r ++ [b]).head? = some c ↔ r.head? = some c := by
  cases r with
  | nil => exact absurd rfl hr
  | cons a t => simp

/-- The digits of a number begin with no nought, and are that number. -/
theorem dg_facts : ∀ (f n : Nat), n < 10 ^ f → (∀ b, (dgF f n).head? = some b → b.toNat ≠ 48) ∧ valL (dgF f n) = n ∧ (∀ b ∈ dgF f n, DigB b) := by
  intro f
  induction f with
  | zero => intro n h; simp at h; subst h; simp [dgF, valL]
  | succ f ih =>
    intro n h
    by_cases h0 : n = 0
    · subst h0; rw [dgF_zero]; simp [valL]
    · rw [dgF_pos f n h0]
      rw [Nat.pow_succ] at h
      obtain ⟨i1, i2, i3⟩ := ih (n / 10) (by omega)
      refine ⟨?_, ?_, ?_⟩
      · intro b hb
        by_cases hr : dgF f (n / 10) = []
        · rw [hr] at hb
          simp only [List.nil_append, List.head?_cons, Option.some.injEq] at hb
          rw [← hb, ofNat_digit]
          have : n / 10 = 0 := by rw [hr] at i2; simpa [valL] using i2.symm
          omega
        · exact i1 b ((head_snoc _ _ b hr).1 hb)
      · rw [valL_snoc, i2, ofNat_digit]; omega
      · intro b hb
        rcases List.mem_append.1 hb with h | h
        · exact i3 b h
        · simp only [List.mem_singleton] at h
          unfold DigB
          rw [h, ofNat_digit]; omega

/-- The text of a number from 0 to 1000000; the empty text of others. -/
def numL (n : Nat) : List UInt8 := if 1000000 < n then [] else if n = 0 then [48] else dgF 8 n
def numText (n : Nat) : ByteArray := ⟨(numL n).toArray⟩

/-- A text that is a number from 0 to 1000000 in digits without needless noughts. -/
def NumOk (s : ByteArray) : Prop := 1 ≤ s.size ∧ (∀ b ∈ s.data.toList, DigB b) ∧ (1 < s.size → ∀ h : 0 < s.size, (s[0]'h).toNat ≠ 48) ∧ valL s.data.toList ≤ 1000000

theorem mem_byte {s : ByteArray} {p : UInt8 → Prop} (h : ∀ j (hj : j < s.size), p (s[j]'hj)) : ∀ b ∈ s.data.toList, p b := by
  intro b hb
  obtain ⟨j, hj, rfl⟩ := List.getElem_of_mem hb
  exact h j (by simpa using hj)
end Go.Proofs.Ytckjbgpdbehmaaa

namespace Go.Proofs.Ytckjbgpdbehmaaa
open Go.RowKit
open Go.Lib hiding intOf

theorem conv_one (W : World) (d : Int) : (convert 22 9 (.slice (some ⟨W.heap.size, 0, none⟩) 1 1)).run Try.prog (W.alloc (.cells #[.int .u8 d] 5)) = .ok (.string (strOfNums [d])) (W.alloc (.cells #[.int .u8 d] 5)) :=
  run_convert_bytes_arg (P := Try.prog) (W.alloc (.cells #[.int .u8 d] 5)) 22 5 Try.underlying22 Try.underlying5 W.heap.size 0 1 1 [d] rfl (fun i hi => by
    have : i = 0 := by omega
    subst this
    simp) 9 Try.underlying9

/-- A call answers the number that a text is, and true; or 0 and false; it turns nothing that was there. -/
def NumIs (s : ByteArray) (w : World) (e : Ending) (w' : World) : Prop :=
  ∃ (b : Bool) (n : Int), e = .returned (.tuple #[.int .i64 n, .bool b]) ∧ (b = true ↔ NumOk s) ∧ (b = true → n = valL s.data.toList) ∧ (b = false → n = 0) ∧ Below w.heap.size w w'
theorem NumIs.no {s : ByteArray} {w w' : World} (h : ¬ NumOk s) (hb : Below w.heap.size w w') : NumIs s w (.returned (.tuple #[.int .i64 0, .bool false])) w' :=
  ⟨false, 0, rfl, by simpa using h, by simp, fun _ => rfl, hb⟩
end Go.Proofs.Ytckjbgpdbehmaaa

namespace Go.Proofs.Ytckjbgpdbehmaaa
open Go.RowKit
open Go.Lib hiding intOf

/-- What is owned lies from the base on. -/
theorem owns_ge {w : World} {base : Nat} {e : TypeId} {size : Nat} {v : Value} {n g : Nat} {xs : List Value} (h : w.ownsRow base e size v n xs) (hg : v.ownBlock = some g) : base ≤ g := by
  rcases h.2 with ⟨rfl, _⟩ | ⟨g', cap, cur, rfl, hb, _⟩
  · simp [Value.ownBlock] at hg
  · simp [Value.ownBlock] at hg; omega
end Go.Proofs.Ytckjbgpdbehmaaa

namespace Go.Proofs.Ytckjbgpdbehmaaa
open Go.RowKit
open Go.Lib hiding intOf

/-- A call answers a list of these texts in memory of its own, from block 'base' on, and turns nothing below it. -/
def RowIs (base : Nat) (xs : List ByteArray) (w : World) (e : Ending) (w' : World) : Prop :=
  ∃ v, e = .returned v ∧ w'.ownsRow base 9 1 v xs.length (xs.map Value.string) ∧ Below base w w'
theorem RowIs.of {base : Nat} {xs ys : List ByteArray} {w w' : World} {v : Value} {n : Nat} (h : ys = xs) (hn : n = ys.length) (hown : w'.ownsRow base 9 1 v n (ys.map Value.string)) (hb : Below base w w') : RowIs base xs w (.returned v) w' := by
  subst h; subst hn; exact ⟨v, rfl, hown, hb⟩
/-- What is owned stays so in every later world that keeps what was there. -/
theorem owns_below {w w' : World} {base B : Nat} {e : TypeId} {size : Nat} {v : Value} {n : Nat} {xs : List Value} (h : w.ownsRow base e size v n xs) (hb : Below B w w') (hB : ∀ g, v.ownBlock = some g → g < B) : w'.ownsRow base e size v n xs := by
  refine ⟨h.1, ?_⟩
  rcases h.2 with h2 | ⟨g, cap, cur, rfl, h3, h4, h5⟩
  · exact .inl h2
  · exact .inr ⟨g, cap, cur, rfl, h3, by rw [hb.block g (hB g rfl)]; exact h4, h5⟩
theorem owns_lt {w : World} {base : Nat} {e : TypeId} {size : Nat} {v : Value} {n g : Nat} {xs : List Value} (h : w.ownsRow base e size v n xs) (hg : v.ownBlock = some g) : g < w.heap.size := by
  rcases h.2 with ⟨rfl, _⟩ | ⟨g', cap, cur, rfl, hb, hh, _⟩
  · simp [Value.ownBlock] at hg
  · simp [Value.ownBlock] at hg
    subst hg
    exact (Array.getElem?_eq_some_iff.1 hh).1
theorem info9 : (Try.prog.info? 9).map (fun i => (i.zero, i.size, i.bytes)) = some (some (.string ⟨#[]⟩), 1, 16) := by kernel_rfl

end Go.Proofs.Ytckjbgpdbehmaaa

namespace Go.Proofs.Ytckjbgpdbehmaaa
open Go.RowKit
open Go.Lib hiding intOf

/-- The mark of a number. -/
def markOf (k : Nat) : ByteArray := ⟨(109 :: dgF 8 k).toArray⟩
/-- The text i of a list. -/
def textAt (xs : List ByteArray) (i : Nat) : ByteArray := xs.getD i ⟨#[]⟩

/-- What an owned list of texts is, cell by cell. -/
structure TextRow (base : Nat) (w : World) (g n cap : Nat) (xs : List ByteArray) : Prop where
  len : xs.length = n
  base : base ≤ g
  lt : g < w.heap.size
  le : n ≤ cap
  mx : cap ≤ maxLen
  heap : ∃ cur, w.heap[g]? = some (.cells cur 9 (0, 0)) ∧ cur.size = cap ∧ ∀ i, i < n → cur[i]? = some (.string (textAt xs i))
theorem TextRow.cell {base : Nat} {w : World} {g n cap : Nat} {xs : List ByteArray} (h : TextRow base w g n cap xs) (i : Nat) (hi : i < n) : w.cell? ⟨g, i, none⟩ = some (.string (textAt xs i)) := by
  obtain ⟨cur, hg, _, hc⟩ := h.heap
  simp only [World.cell?, hg]
  simpa using hc i hi
theorem TextRow.frozen {base : Nat} {w : World} {g n cap : Nat} {xs : List ByteArray} (h : TextRow base w g n cap xs) (i : Nat) : w.frozen? ⟨g, i, none⟩ = false := by
  obtain ⟨cur, hg, _⟩ := h.heap
  simp [World.frozen?, hg]
theorem TextRow.below {base B : Nat} {w w' : World} {g n cap : Nat} {xs : List ByteArray} (h : TextRow base w g n cap xs) (hb : Below B w w') (hB : g < B) : TextRow base w' g n cap xs := by
  obtain ⟨cur, hg, hc⟩ := h.heap
  have := hb.size; have := h.lt
  exact ⟨h.len, h.base, by omega, h.le, h.mx, cur, by rw [hb.block g hB]; exact hg, hc⟩
/-- One text of it stored anew. -/
theorem TextRow.set {base : Nat} {w : World} {g n cap : Nat} {xs : List ByteArray} (h : TextRow base w g n cap xs) (i : Nat) (hi : i < n) (t : ByteArray) : TextRow base (w.setCell ⟨g, i, none⟩ (.string t)) g n cap (xs.set i t) := by
  obtain ⟨cur, hg, hs, hc⟩ := h.heap
  refine ⟨by simp [h.len], h.base, by simpa using h.lt, h.le, h.mx, cur.setIfInBounds i (.string t), ?_, by simpa using hs, ?_⟩
  · simp [World.setCell, Array.getElem?_modify, hg]
  · intro j hj
    have hl := h.len
    have hle := h.le
    by_cases e : i = j
    · subst e
      have h1 : i < cur.size := by omega
      have h2 : i < xs.length := by omega
      simp [textAt, List.getD_eq_getElem?_getD, h1, h2]
    · rw [Array.getElem?_setIfInBounds_ne (by exact e), hc j hj]
      simp [textAt, List.getD_eq_getElem?_getD, e]
theorem textAt_map (xs : List ByteArray) (i : Nat) (h : i < xs.length) : (xs.map Value.string)[i]? = some (.string (textAt xs i)) := by
  simp [textAt, List.getD_eq_getElem?_getD, h]
/-- An owned list is empty, or such a row. -/
theorem row_form {w : World} {base n : Nat} {v : Value} {xs : List ByteArray} (h : w.ownsRow base 9 1 v n (xs.map Value.string)) :
    (∃ oa cap, v = .slice oa 0 cap ∧ n = 0 ∧ xs = []) ∨ ∃ g cap, v = .slice (some ⟨g, 0, none⟩) n cap ∧ 0 < n ∧ TextRow base w g n cap xs := by
  obtain ⟨hl, hv⟩ := h
  simp at hl
  rcases hv with ⟨rfl, h0⟩ | ⟨g, cap, cur, rfl, hb, hg, hn, hm, hcs, htk⟩
  · exact .inl ⟨none, 0, rfl, h0, List.length_eq_zero_iff.1 (by omega)⟩
  · by_cases h0 : n = 0
    · subst h0
      exact .inl ⟨_, _, rfl, rfl, List.length_eq_zero_iff.1 (by omega)⟩
    · refine .inr ⟨g, cap, rfl, by omega, hl, hb, (Array.getElem?_eq_some_iff.1 hg).1, hn, hm, cur, hg, by simpa using hcs, ?_⟩
      intro i hi
      have h1 : (cur.toList.take (n * 1))[i]? = some (.string (textAt xs i)) := by rw [htk]; exact textAt_map xs i (by omega)
      rw [List.getElem?_take, if_pos (by omega)] at h1
      simpa using h1
theorem TextRow.owns {base : Nat} {w : World} {g n cap : Nat} {xs : List ByteArray} (h : TextRow base w g n cap xs) : w.ownsRow base 9 1 (.slice (some ⟨g, 0, none⟩) n cap) n (xs.map Value.string) := by
  obtain ⟨cur, hg, hs, hc⟩ := h.heap
  refine ⟨by simp [h.len], .inr ⟨g, cap, cur, rfl, h.base, hg, h.le, h.mx, by simpa using hs, ?_⟩⟩
  apply List.ext_getElem?
  intro i
  have hl := h.len; have hle := h.le
  rw [List.getElem?_take, Nat.mul_one]
  by_cases hi : i < n
  · rw [if_pos hi, textAt_map xs i (by omega)]
    simpa using hc i hi
  · rw [if_neg hi, List.getElem?_eq_none (by simp; omega)]

set_option maxHeartbeats 1000000 in
theorem eqS_any (v1 v2 : Value) (n b1 b2 : Nat) (xs : List ByteArray) (w : World) (h1 : w.ownsRow b1 9 1 v1 n (xs.map Value.string)) (h2 : w.ownsRow b2 9 1 v2 n (xs.map Value.string)) (hn : n ≤ 2000000) :
    Calls Try.prog 59 #[v1, v2] w fun e w' => e = .returned (.bool true) ∧ Below w.heap.size w w' := by
  rcases row_form h1 with ⟨oa, ca, rfl, rfl, rfl⟩ | ⟨g1, c1, rfl, hp, r1⟩
  · rcases row_form h2 with ⟨ob, cb, rfl, _, _⟩ | ⟨g2, c2, rfl, hp2, _⟩
    · clear h1 h2
      go_enter Try.func59, Try.ntmps59
      go_wp2
      refine wp_loop_rounds 1 ?_
      rw [rounds_succ]
      go_wp2
      go_ret
      exact ⟨rfl, Below.refl _ _⟩
    · omega
  · rcases row_form h2 with ⟨ob, cb, rfl, h0, _⟩ | ⟨g2, c2, rfl, hp2, r2⟩
    · omega
    · clear h1 h2
      go_enter Try.func59, Try.ntmps59
      go_wp2
      go_loopw [5] (fun i wr => ∃ k : Nat, k ≤ n ∧ i = .int .i64 (k : Int) ∧ Below w.heap.size w wr) (fun i _ => n - (intOf i).toNat)
      case atStart => exact ⟨0, Nat.zero_le _, rfl, Below.refl _ _⟩
      case round =>
        obtain ⟨k, hk, rfl, hbw⟩ := hrel
        by_cases hlt : k < n
        · have hlt2 : (k : Int) < (n : Int) := by omega
          have hc1 := (r1.below hbw r1.lt).cell k hlt
          have hc2 := (r2.below hbw r2.lt).cell k hlt
          go_wp2
          go_quiet (fail)
          go_wp2
          go_roundw
          case rel => exact ⟨k + 1, by omega, by go_num, below_drewN hbw _⟩
          case measure => simp [intOf]; omega
        · go_wp2
          go_ret
          exact ⟨rfl, hbw⟩

set_option maxHeartbeats 1000000 in
theorem markText_any (n : Nat) (w : World) (h0 : 1 ≤ n) (hn : n ≤ 9999999) :
    Calls Try.prog 73 #[.int .i64 (n : Int)] w fun e w' => TextIs (markOf n) w e w' := by
  have hp0 : ¬ (n : Int) ≤ 0 := by omega
  have hcv := conv_one
  go_enter Try.func73, Try.ntmps73
  go_wp2
  go_loopw [0, 3] (fun a b wr => ∃ (f m : Nat) (out : ByteArray), a = .int .i64 (m : Int) ∧ b = .string out ∧ m ≤ 9999999 ∧ f ≤ 8 ∧ out.size ≤ 8 - f ∧ Below w.heap.size w wr ∧ Hid (m < 10 ^ f ∧ dgF f m ++ out.data.toList = dgF 8 n)) (fun a _ _ => (intOf a).toNat)
  case atStart => exact ⟨8, n, _, rfl, rfl, by omega, Nat.le_refl _, Nat.le_refl _, Below.refl _ _, ⟨by omega, by simp⟩⟩
  case round =>
    obtain ⟨f, m, out, rfl, rfl, hm, hf8, hsz, hbw, hd⟩ := hrel
    by_cases hp : (0 : Int) < (m : Int)
    · have hone : ∀ d : Int, (strOfNums [d]).size = 1 := fun d => strOfNums_size [d]
      go_wp2
      go_roundw
      case rel =>
        obtain ⟨hf, hdg⟩ := hd.out
        cases f with
        | zero => simp at hf; omega
        | succ f =>
          rw [Nat.pow_succ] at hf
          refine ⟨f, m / 10, strOfNums [48 + (m : Int) % 10] ++ out, by simp, rfl, by omega, by omega, ?_, hbw.alloc hbw.size _, by omega, ?_⟩
          · rw [ByteArray.size_append, hone]; omega
          · have e : (strOfNums [48 + (m : Int) % 10]).data.toList = [UInt8.ofNat (48 + m % 10)] := by
              rw [strOfNums_data]
              have : (48 + (m : Int) % 10).toNat = 48 + m % 10 := by omega
              simp only [List.map_cons, List.map_nil, this]
            rw [dgF_pos f m (by omega), List.append_assoc] at hdg
            rw [← hdg, ByteArray.data_append, Array.toList_append, e]
      case measure => simp [intOf]; omega
    · have hT : Hid (⟨#[109]⟩ ++ out = markOf n) := by
        obtain ⟨_, h⟩ := hd.out
        have e : m = 0 := by omega
        rw [e, dgF_zero, List.nil_append] at h
        show _ = _
        apply ByteArray.ext
        apply Array.toList_inj.1
        rw [ByteArray.data_append, Array.toList_append, h]
        rfl
      have hs2 : ¬ 9223372036854775807 < (⟨#[109]⟩ : ByteArray).size + out.size := by
        have : (⟨#[109]⟩ : ByteArray).size = 1 := rfl
        omega
      go_wp2
      go_ret
      exact TextIs.of hT.out hbw
theorem markText_int (x : Int) (n : Nat) (w : World) (hx : x = (n : Int)) (h0 : 1 ≤ n) (hn : n ≤ 9999999) :
    Calls Try.prog 73 #[.int .i64 x] w fun e w' => TextIs (markOf n) w e w' := by
  subst hx; exact markText_any n w h0 hn

end Go.Proofs.Ytckjbgpdbehmaaa

namespace Go.Proofs.Ytckjbgpdbehmaaa
open Go.RowKit
open Go.Lib hiding intOf

/-- The bytes that a draw reads: a slice that came in, in blocks below B. -/
structure CodeAt (w : World) (B : Nat) (a : Option Addr) (len : Nat) (zs : List Int) : Prop where
  le : len ≤ 1048576
  get : ∀ j, j < len → ∃ b off, a = some ⟨b, off, none⟩ ∧ b < B ∧ w.cell? ⟨b, off + j, none⟩ = some (.int .u8 (zs.getD j 0)) ∧ 0 ≤ zs.getD j 0 ∧ zs.getD j 0 ≤ 255
theorem CodeAt.below {w w' : World} {B : Nat} {a : Option Addr} {len : Nat} {zs : List Int} (h : CodeAt w B a len zs) (hb : Below B w w') : CodeAt w' B a len zs :=
  ⟨h.le, fun j hj => by
    obtain ⟨b, off, h1, h2, h3, h4⟩ := h.get j hj
    exact ⟨b, off, h1, h2, by rw [hb.cell (p := ⟨b, off + j, none⟩) h2]; exact h3, h4⟩⟩
/-- The cursor lies in block c. -/
def CurAt (w : World) (c : Nat) (a : Option Addr) (len cap : Nat) : Prop :=
  ∃ (i : Nat) (h : Int), i ≤ len ∧ w.heap[c]? = some (.cells #[.slice a len cap, .int .i64 (i : Int), .int .i64 h] 87 (0, 0))
theorem CurAt.lt {w : World} {c : Nat} {a : Option Addr} {len cap : Nat} (h : CurAt w c a len cap) : c < w.heap.size := by
  obtain ⟨i, h, _, hh⟩ := h
  exact (Array.getElem?_eq_some_iff.1 hh).1
theorem CurAt.below {w w' : World} {B c : Nat} {a : Option Addr} {len cap : Nat} (h : CurAt w c a len cap) (hb : Below B w w') (hc : c < B) : CurAt w' c a len cap := by
  obtain ⟨i, h, hi, hh⟩ := h
  exact ⟨i, h, hi, by rw [hb.block c hc]; exact hh⟩

theorem grown_cell {w w' : World} {c : Nat} (hg : w.grownBy w' (some c)) {g j : Nat} {v : Value} (h : w.cell? ⟨g, j, none⟩ = some v) (hne : g ≠ c) : w'.cell? ⟨g, j, none⟩ = some v :=
  hg.cell h (fun e => hne (Option.some.inj e))

end Go.Proofs.Ytckjbgpdbehmaaa

namespace Go.Proofs.Ytckjbgpdbehmaaa
open Go.RowKit
open Go.Lib hiding intOf

theorem CodeAt.grown {w w' : World} {B c : Nat} {a : Option Addr} {len : Nat} {zs : List Int} (h : CodeAt w B a len zs) (hg : w.grownBy w' (some c)) (hB : B ≤ c) : CodeAt w' B a len zs :=
  ⟨h.le, fun j hj => by
    obtain ⟨b, off, h1, h2, h3, h4⟩ := h.get j hj
    exact ⟨b, off, h1, h2, grown_cell hg h3 (by omega), h4⟩⟩
theorem CurAt.grown {w w' : World} {c : Nat} {row : Option Nat} {a : Option Addr} {len cap : Nat} (h : CurAt w c a len cap) (hg : w.grownBy w' row) (hne : row ≠ some c) : CurAt w' c a len cap := by
  have hlt := h.lt
  obtain ⟨i, h, hi, hh⟩ := h
  exact ⟨i, h, hi, by rw [hg.block c hlt (fun e => hne e.symm)]; exact hh⟩
/-- A step that turns only a block which came later. -/
theorem grown_later {a w w' : World} {row r : Option Nat} (h : a.grownBy w row) (k : w.grownBy w' r) (hr : ∀ g, r = some g → a.heap.size ≤ g) : a.grownBy w' row :=
  ⟨k.os.trans h.os, k.tape.trans h.tape, k.output.trans h.output, Nat.le_trans h.size k.size, fun i hi hne => (k.block i (Nat.lt_of_lt_of_le hi h.size) (fun e => by have := hr i e.symm; omega)).trans (h.block i hi hne)⟩

end Go.Proofs.Ytckjbgpdbehmaaa

namespace Go.Proofs.Ytckjbgpdbehmaaa
open Go.RowKit
open Go.Lib hiding intOf

def nameAt (fs : List (ByteArray × ByteArray)) (i : Nat) : ByteArray := (fs.getD i (⟨#[]⟩, ⟨#[]⟩)).1
def valAt (fs : List (ByteArray × ByteArray)) (i : Nat) : ByteArray := (fs.getD i (⟨#[]⟩, ⟨#[]⟩)).2
/-- Where the first field of that name stands; the length where there is none. -/
def atF : List (ByteArray × ByteArray) → ByteArray → Nat
  | [], _ => 0
  | f :: r, name => if f.1 = name then 0 else atF r name + 1
/-- The text of the first k fields. -/
def ftTo (fs : List (ByteArray × ByteArray)) : Nat → ByteArray
  | 0 => ⟨#[]⟩
  | k + 1 => ftTo fs k ++ nameAt fs k ++ ⟨#[58, 32]⟩ ++ valAt fs k ++ ⟨#[13, 10]⟩
def fieldsText (fs : List (ByteArray × ByteArray)) : ByteArray := ftTo fs fs.length
/-- What the chapter asks of fields. -/
def FldsOk (fs : List (ByteArray × ByteArray)) : Prop :=
  fs.length ≤ 8 ∧ ∀ i, i < fs.length → TokOk (nameAt fs i) ∧ ValOk (valAt fs i) ∧ atF fs (nameAt fs i) = i ∧ nameAt fs i ≠ ⟨#[99, 111, 110, 116, 101, 110, 116, 45, 108, 101, 110, 103, 116, 104]⟩
def clen : ByteArray := ⟨#[99, 111, 110, 116, 101, 110, 116, 45, 108, 101, 110, 103, 116, 104]⟩
end Go.Proofs.Ytckjbgpdbehmaaa

namespace Go.Proofs.Ytckjbgpdbehmaaa
open Go.RowKit

def PathB (n : Int) : Prop := 33 ≤ n ∧ n ≤ 126
def PathOk (s : ByteArray) : Prop := AllB PathB s ∧ 1 ≤ s.size ∧ s.size ≤ 60 ∧ ∃ h : 0 < s.size, (s[0]'h).toNat = 47
def ReqP (m : Int) (path : ByteArray) (fs : List (ByteArray × ByteArray)) (body : ByteArray) : Prop := (1 ≤ m ∧ m ≤ 4) ∧ PathOk path ∧ FldsOk fs ∧ body.size ≤ 120
def methB (m : Int) : ByteArray := if m = 1 then ⟨#[71, 69, 84]⟩ else if m = 2 then ⟨#[72, 69, 65, 68]⟩ else if m = 3 then ⟨#[80, 79, 83, 84]⟩ else if m = 4 then ⟨#[80, 85, 82, 71, 69]⟩ else ⟨#[]⟩
def httpEnd : ByteArray := ⟨#[32, 72, 84, 84, 80, 47, 49, 46, 49, 13, 10]⟩
def clenK : ByteArray := ⟨#[99, 111, 110, 116, 101, 110, 116, 45, 108, 101, 110, 103, 116, 104, 58, 32]⟩
def lnE : ByteArray := ⟨#[13, 10]⟩
/-- What a request's text is, right or not. -/
def reqHead (m : Int) (path : ByteArray) (fs : List (ByteArray × ByteArray)) : ByteArray := methB m ++ ⟨#[32]⟩ ++ path ++ httpEnd ++ fieldsText fs
def reqT (m : Int) (path : ByteArray) (fs : List (ByteArray × ByteArray)) (body : ByteArray) : ByteArray :=
  (if body.size = 0 then reqHead m path fs else reqHead m path fs ++ clenK ++ numText body.size ++ lnE) ++ lnE ++ body
/-- The text is that of this right request. -/
def IsReq (s : ByteArray) (m : Int) (path : ByteArray) (fs : List (ByteArray × ByteArray)) (body : ByteArray) : Prop := ReqP m path fs body ∧ reqT m path fs body = s
def bs (s : ByteArray) : List UInt8 := s.data.toList
theorem bs_append (a b : ByteArray) : bs (a ++ b) = bs a ++ bs b := by simp [bs]
theorem bs_inj {a b : ByteArray} (h : bs a = bs b) : a = b := by
  apply ByteArray.ext
  exact Array.toList_inj.1 h
theorem bs_len (a : ByteArray) : (bs a).length = a.size := by simp [bs]
theorem bs_all {p : Int → Prop} {s : ByteArray} (h : AllB p s) : ∀ b ∈ bs s, p (b.toNat : Int) := mem_byte (p := fun b => p (b.toNat : Int)) h

/-- The lines of a head and what is behind it. -/
def headL (out : List (List UInt8)) (cur : List UInt8) : List UInt8 → List (List UInt8) × Option (List UInt8)
  | [] => (out, none)
  | [_] => (out, none)
  | c :: d :: r => if c = 13 ∧ d = 10 then (if cur = [] then (out, some r) else headL (out ++ [cur]) [] r) else headL out (cur ++ [c]) (d :: r)
/-- What stands between blanks. -/
def wordsL (out : List (List UInt8)) (cur : List UInt8) : List UInt8 → List (List UInt8)
  | [] => out ++ [cur]
  | c :: r => if c = 32 then wordsL (out ++ [cur]) [] r else wordsL out (cur ++ [c]) r
/-- A line cut at its first colon with a blank behind it. -/
def fieldL (cur : List UInt8) : List UInt8 → Option (List UInt8 × List UInt8)
  | [] => none
  | [_] => none
  | c :: d :: r => if c = 58 ∧ d = 32 then some (cur, r) else fieldL (cur ++ [c]) (d :: r)
def clenL : List UInt8 := [99, 111, 110, 116, 101, 110, 116, 45, 108, 101, 110, 103, 116, 104]
def fieldsL : List (List UInt8) → List (List UInt8 × List UInt8)
  | [] => []
  | l :: r => match fieldL [] l with
    | some f => if f.1 = clenL then fieldsL r else f :: fieldsL r
    | none => fieldsL r

theorem head_line (out : List (List UInt8)) (line rest : List UInt8) (h13 : ∀ b ∈ line, b ≠ 13) : ∀ cur, cur ++ line ≠ [] → headL out cur (line ++ 13 :: 10 :: rest) = headL (out ++ [cur ++ line]) [] rest := by
  induction line with
  | nil =>
    intro cur hne
    simp only [List.append_nil] at hne
    simp [headL, hne]
  | cons c r ih =>
    intro cur _
    have hc : c ≠ 13 := h13 c (by simp)
    have ih := ih (fun b hb => h13 b (by simp [hb])) (cur ++ [c]) (by simp)
    rw [List.append_assoc] at ih
    cases r with
    | nil =>
      simp only [List.cons_append, List.nil_append] at ih ⊢
      rw [headL, if_neg (fun h => hc h.1), ih]
    | cons d r =>
      simp only [List.cons_append, List.nil_append] at ih ⊢
      rw [headL, if_neg (fun h => hc h.1), ih]
theorem head_lines (body : List UInt8) (lines : List (List UInt8)) (h : ∀ l ∈ lines, l ≠ [] ∧ ∀ b ∈ l, b ≠ 13) : ∀ out, headL out [] (lines.flatMap (fun l => l ++ [13, 10]) ++ 13 :: 10 :: body) = (out ++ lines, some body) := by
  induction lines with
  | nil => intro out; simp [headL]
  | cons l r ih =>
    intro out
    have hl := h l (by simp)
    have e : (l :: r).flatMap (fun l => l ++ [13, 10]) ++ 13 :: 10 :: body = l ++ 13 :: 10 :: (r.flatMap (fun l => l ++ [13, 10]) ++ 13 :: 10 :: body) := by simp
    rw [e, head_line out l _ hl.2 [] (by simpa using hl.1), ih (fun x hx => h x (by simp [hx]))]
    simp
theorem words_word (word rest : List UInt8) (h : ∀ b ∈ word, b ≠ 32) : ∀ out cur, wordsL out cur (word ++ 32 :: rest) = wordsL (out ++ [cur ++ word]) [] rest := by
  induction word with
  | nil => intro out cur; simp [wordsL]
  | cons c r ih =>
    intro out cur
    rw [List.cons_append, wordsL, if_neg (h c (by simp)), ih (fun b hb => h b (by simp [hb]))]
    simp
theorem words_last (word : List UInt8) (h : ∀ b ∈ word, b ≠ 32) : ∀ out cur, wordsL out cur word = out ++ [cur ++ word] := by
  induction word with
  | nil => intro out cur; simp [wordsL]
  | cons c r ih =>
    intro out cur
    rw [wordsL, if_neg (h c (by simp)), ih (fun b hb => h b (by simp [hb]))]
    simp
theorem field_cut (nm vl : List UInt8) (h : ∀ b ∈ nm, b ≠ 58) : ∀ cur, fieldL cur (nm ++ 58 :: 32 :: vl) = some (cur ++ nm, vl) := by
  induction nm with
  | nil => intro cur; simp [fieldL]
  | cons c r ih =>
    intro cur
    have ih := ih (fun b hb => h b (by simp [hb])) (cur ++ [c])
    cases r with
    | nil =>
      simp only [List.cons_append, List.nil_append] at ih ⊢
      rw [fieldL, if_neg (fun e => h c (by simp) e.1), ih]
      simp
    | cons d r =>
      simp only [List.cons_append] at ih ⊢
      rw [fieldL, if_neg (fun e => h c (by simp) e.1), ih]
      simp

def fieldLine (f : ByteArray × ByteArray) : List UInt8 := bs f.1 ++ 58 :: 32 :: bs f.2
def clenLine (n : Nat) : List UInt8 := clenL ++ 58 :: 32 :: numL n
theorem flds_mem {fs : List (ByteArray × ByteArray)} (h : FldsOk fs) : ∀ f ∈ fs, TokOk f.1 ∧ ValOk f.2 ∧ f.1 ≠ clen := by
  intro f hf
  obtain ⟨i, hi, rfl⟩ := List.getElem_of_mem hf
  have := h.2 i hi
  have e : (nameAt fs i, valAt fs i) = fs[i] := by
    unfold nameAt valAt
    rw [List.getD_eq_getElem?_getD, List.getElem?_eq_getElem hi]
    rfl
  rw [← e]
  exact ⟨this.1, this.2.1, this.2.2.2⟩
theorem fieldsL_of {fs : List (ByteArray × ByteArray)} (tail : List (List UInt8)) (h : ∀ f ∈ fs, TokOk f.1 ∧ ValOk f.2 ∧ f.1 ≠ clen) : fieldsL (fs.map fieldLine ++ tail) = fs.map (fun f => (bs f.1, bs f.2)) ++ fieldsL tail := by
  induction fs with
  | nil => rfl
  | cons f r ih =>
    have hf := h f (by simp)
    have h58 : ∀ b ∈ bs f.1, b ≠ 58 := fun b hb e => by
      have := bs_all hf.1.2.2 b hb
      subst e
      unfold TokB at this
      simp at this
    simp only [List.map_cons, List.cons_append, fieldsL]
    rw [show fieldL [] (fieldLine f) = some (bs f.1, bs f.2) from by have := field_cut (bs f.1) (bs f.2) h58 []; simpa [fieldLine] using this]
    simp only
    rw [if_neg (fun e => hf.2.2 (bs_inj (by rw [e]; rfl))), ih (fun x hx => h x (by simp [hx]))]
theorem fieldsL_clen (n : Nat) : fieldsL [clenLine n] = [] := by
  have h58 : ∀ b ∈ clenL, b ≠ 58 := by decide
  simp only [fieldsL]
  rw [show fieldL [] (clenLine n) = some (clenL, numL n) from by have := field_cut clenL (numL n) h58 []; simpa [clenLine] using this]
  simp
theorem bs_ft (fs : List (ByteArray × ByteArray)) : ∀ k, k ≤ fs.length → bs (ftTo fs k) = ((fs.take k).map fieldLine).flatMap (fun l => l ++ [13, 10]) := by
  intro k
  induction k with
  | zero => intro _; rfl
  | succ k ih =>
    intro hk
    have e : (nameAt fs k, valAt fs k) = fs[k]'(by omega) := by
      unfold nameAt valAt
      rw [List.getD_eq_getElem?_getD, List.getElem?_eq_getElem (by omega)]
      rfl
    have ht : fs.take (k + 1) = fs.take k ++ [fs[k]'(by omega)] := (List.take_append_getElem (by omega)).symm
    rw [ftTo, ht, ← e]
    simp only [bs_append, ih (by omega), List.map_append, List.flatMap_append, List.map_cons, List.map_nil, List.flatMap_cons, List.flatMap_nil, fieldLine]
    simp [bs]
theorem bs_fields (fs : List (ByteArray × ByteArray)) : bs (fieldsText fs) = (fs.map fieldLine).flatMap (fun l => l ++ [13, 10]) := by
  have := bs_ft fs fs.length (Nat.le_refl _)
  rw [List.take_length] at this
  exact this

def httpL : List UInt8 := [72, 84, 84, 80, 47, 49, 46, 49]
def reqLine (m : Int) (path : ByteArray) : List UInt8 := bs (methB m) ++ 32 :: (bs path ++ 32 :: httpL)
theorem bs_num (n : Nat) : bs (numText n) = numL n := rfl
theorem bs_reqT (m : Int) (path : ByteArray) (fs : List (ByteArray × ByteArray)) (body : ByteArray) : bs (reqT m path fs body) = (reqLine m path :: (fs.map fieldLine ++ (if body.size = 0 then [] else [clenLine body.size]))).flatMap (fun l => l ++ [13, 10]) ++ 13 :: 10 :: bs body := by
  unfold reqT reqHead
  by_cases h : body.size = 0
  · rw [if_pos h, if_pos h]
    simp only [bs_append, bs_fields, List.flatMap_cons, List.append_nil, reqLine]
    simp [bs, httpEnd, lnE, httpL]
  · rw [if_neg h, if_neg h]
    simp only [bs_append, bs_fields, bs_num, List.flatMap_cons, List.flatMap_append, List.flatMap_nil, reqLine, clenLine]
    simp [bs, httpEnd, lnE, httpL, clenK, clenL]
theorem numL_dig (n : Nat) (h : n ≤ 1000000) : numL n ≠ [] ∧ ∀ b ∈ numL n, DigB b := by
  unfold numL
  rw [if_neg (by omega)]
  by_cases h0 : n = 0
  · rw [if_pos h0]
    refine ⟨by simp, ?_⟩
    intro b hb
    simp at hb
    subst hb
    unfold DigB; decide
  · rw [if_neg h0]
    have hf := dg_facts 8 n (by omega)
    refine ⟨fun e => ?_, hf.2.2⟩
    have h2 := hf.2.1
    rw [e] at h2
    exact h0 h2.symm
theorem line_field {f : ByteArray × ByteArray} (h : TokOk f.1 ∧ ValOk f.2 ∧ f.1 ≠ clen) : fieldLine f ≠ [] ∧ ∀ b ∈ fieldLine f, b ≠ 13 := by
  refine ⟨by simp [fieldLine], ?_⟩
  intro b hb e
  subst e
  simp only [fieldLine, List.mem_append, List.mem_cons] at hb
  rcases hb with hb | hb | hb | hb
  · have := bs_all h.1.2.2 _ hb
    unfold TokB at this
    simp at this
  · exact absurd hb (by decide)
  · exact absurd hb (by decide)
  · have := bs_all h.2.1.2.2.1 _ hb
    unfold ValB at this
    simp at this
theorem line_clen (n : Nat) (h : n ≤ 1000000) : clenLine n ≠ [] ∧ ∀ b ∈ clenLine n, b ≠ 13 := by
  refine ⟨by simp [clenLine], ?_⟩
  intro b hb e
  subst e
  simp only [clenLine, List.mem_append, List.mem_cons] at hb
  rcases hb with hb | hb | hb | hb
  · exact absurd hb (by decide)
  · exact absurd hb (by decide)
  · exact absurd hb (by decide)
  · have := (numL_dig n h).2 _ hb
    unfold DigB at this
    simp at this
theorem meth_cases {m : Int} (h : 1 ≤ m ∧ m ≤ 4) : m = 1 ∨ m = 2 ∨ m = 3 ∨ m = 4 := by omega
theorem meth_bytes {m : Int} (h : 1 ≤ m ∧ m ≤ 4) : bs (methB m) ≠ [] ∧ ∀ b ∈ bs (methB m), b ≠ 13 ∧ b ≠ 32 := by
  rcases meth_cases h with rfl | rfl | rfl | rfl
  all_goals (constructor <;> decide)
theorem line_req {m : Int} {path : ByteArray} (h : 1 ≤ m ∧ m ≤ 4) (hp : PathOk path) : reqLine m path ≠ [] ∧ ∀ b ∈ reqLine m path, b ≠ 13 := by
  refine ⟨by simp [reqLine], ?_⟩
  intro b hb e
  subst e
  simp only [reqLine, List.mem_append, List.mem_cons] at hb
  rcases hb with hb | hb | hb | hb | hb
  · exact ((meth_bytes h).2 _ hb).1 rfl
  · exact absurd hb (by decide)
  · have := bs_all hp.1 _ hb
    unfold PathB at this
    simp at this
  · exact absurd hb (by decide)
  · exact absurd hb (by decide)
/-- What is read of a right request's text: its lines, what is behind them. -/
theorem req_head {s : ByteArray} {m : Int} {path : ByteArray} {fs : List (ByteArray × ByteArray)} {body : ByteArray} (h : IsReq s m path fs body) :
    headL [] [] (bs s) = (reqLine m path :: (fs.map fieldLine ++ (if body.size = 0 then [] else [clenLine body.size])), some (bs body)) := by
  obtain ⟨⟨hm, hp, hf, hb⟩, rfl⟩ := h
  rw [bs_reqT, head_lines]
  · rfl
  · intro l hl
    simp only [List.mem_cons, List.mem_append, List.mem_map] at hl
    rcases hl with rfl | ⟨f, hf1, rfl⟩ | hl
    · exact line_req hm hp
    · exact line_field (flds_mem hf f hf1)
    · by_cases h0 : body.size = 0
      · rw [if_pos h0] at hl; simp at hl
      · rw [if_neg h0] at hl
        simp at hl
        subst hl
        exact line_clen _ (by omega)
theorem req_words {m : Int} {path : ByteArray} (h : 1 ≤ m ∧ m ≤ 4) (hp : PathOk path) : wordsL [] [] (reqLine m path) = [bs (methB m), bs path, httpL] := by
  unfold reqLine
  rw [words_word _ _ (fun b hb => ((meth_bytes h).2 b hb).2), words_word _ _ (fun b hb e => by
    have := bs_all hp.1 b hb
    subst e
    unfold PathB at this
    simp at this), words_last _ (by decide)]
  rfl
theorem req_fields {fs : List (ByteArray × ByteArray)} (h : FldsOk fs) (n : Nat) : fieldsL (fs.map fieldLine ++ (if n = 0 then [] else [clenLine n])) = fs.map (fun f => (bs f.1, bs f.2)) := by
  rw [fieldsL_of _ (flds_mem h)]
  by_cases h0 : n = 0
  · rw [if_pos h0]; simp [fieldsL]
  · rw [if_neg h0, fieldsL_clen]; simp
theorem pairs_inj : ∀ {a b : List (ByteArray × ByteArray)}, a.map (fun f => (bs f.1, bs f.2)) = b.map (fun f => (bs f.1, bs f.2)) → a = b
  | [], [], _ => rfl
  | [], _ :: _, h => by simp at h
  | _ :: _, [], h => by simp at h
  | f :: r, g :: t, h => by
    simp only [List.map_cons, List.cons.injEq, Prod.mk.injEq] at h
    rw [pairs_inj h.2]
    congr 1
    exact Prod.ext (bs_inj h.1.1) (bs_inj h.1.2)
end Go.Proofs.Ytckjbgpdbehmaaa

namespace Go.Proofs.Ytckjbgpdbehmaaa
open Go.RowKit

theorem bs_extract (s : ByteArray) (f j : Nat) : bs (s.extract f j) = ((bs s).take j).drop f := by
  simp [bs, List.drop_take]
def bsP (f : ByteArray × ByteArray) : List UInt8 × List UInt8 := (bs f.1, bs f.2)
end Go.Proofs.Ytckjbgpdbehmaaa

namespace Go.Proofs.Ytckjbgpdbehmaaa
open Go.RowKit

/-- What is said of keeping. -/
structure CcD where
  ns : Bool
  nc : Bool
  pr : Bool
  mu : Bool
  ha : Bool
  age : Int
def CcD.v (c : CcD) : Value := .agg #[.bool c.ns, .bool c.nc, .bool c.pr, .bool c.mu, .bool c.ha, .int .i64 c.age]
/-- Ages are in their bounds, and 0 where none is told. -/
def CcD.fit (c : CcD) : Prop := 0 ≤ c.age ∧ c.age ≤ 1000000 ∧ (c.ha = false → c.age = 0)
end Go.Proofs.Ytckjbgpdbehmaaa

namespace Go.Proofs.Ytckjbgpdbehmaaa
open Go.RowKit
open Go.Lib hiding intOf

/-- A list of texts that is read. -/
def TextsA (w : World) (oa : Option Addr) (n : Nat) (xs : List ByteArray) : Prop :=
  xs.length = n ∧ ∀ i, i < n → ∃ g, oa = some ⟨g, 0, none⟩ ∧ g < w.heap.size ∧ w.cell? ⟨g, i, none⟩ = some (.string (textAt xs i))
theorem TextsA.below {w w' : World} {oa : Option Addr} {n : Nat} {xs : List ByteArray} (h : TextsA w oa n xs) (hb : Below w.heap.size w w') : TextsA w' oa n xs :=
  ⟨h.1, fun i hi => by
    obtain ⟨g, h1, h2, h3⟩ := h.2 i hi
    exact ⟨g, h1, Nat.lt_of_lt_of_le h2 hb.size, by rw [hb.cell (p := ⟨g, i, none⟩) h2]; exact h3⟩⟩
theorem texts_own {w : World} {base n : Nat} {v : Value} {xs : List ByteArray} (h : w.ownsRow base 9 1 v n (xs.map Value.string)) : ∃ oa cap, v = .slice oa n cap ∧ TextsA w oa n xs := by
  have hl : xs.length = n := by have := h.1; simpa using this
  rcases row_form h with ⟨oa, ca, rfl, rfl, rfl⟩ | ⟨g, cap, rfl, hp, r⟩
  · exact ⟨oa, ca, rfl, rfl, fun i hi => absurd hi (by omega)⟩
  · exact ⟨_, _, rfl, hl, fun i hi => ⟨g, rfl, r.lt, r.cell i hi⟩⟩

end Go.Proofs.Ytckjbgpdbehmaaa

namespace Go.Proofs.Ytckjbgpdbehmaaa
open Go.RowKit
open Go.Lib hiding intOf

attribute [local go_sem ↓] Go.wp_at_zero Go.wp_at_succ

/-- A list of fields that came in, in blocks below B. -/
structure ArgF (w : World) (B : Nat) (a : Option Addr) (n : Nat) (fs : List (ByteArray × ByteArray)) : Prop where
  len : fs.length = n
  get : ∀ i, i < n → ∃ b off, a = some ⟨b, off, none⟩ ∧ b < B ∧ w.cell? ⟨b, off + i * 2, none⟩ = some (.string (nameAt fs i)) ∧ w.cell? ⟨b, off + i * 2 + 1, none⟩ = some (.string (valAt fs i))
theorem ArgF.below {w w' : World} {B : Nat} {a : Option Addr} {n : Nat} {fs : List (ByteArray × ByteArray)} (h : ArgF w B a n fs) (hb : Below B w w') : ArgF w' B a n fs :=
  ⟨h.len, fun i hi => by
    obtain ⟨b, off, h1, h2, h3, h4⟩ := h.get i hi
    exact ⟨b, off, h1, h2, by rw [hb.cell (p := ⟨b, off + i * 2, none⟩) h2]; exact h3, by rw [hb.cell (p := ⟨b, off + i * 2 + 1, none⟩) h2]; exact h4⟩⟩

theorem heap_set (w : World) (c o : Nat) (cs : Array Value) (t : TypeId) (fz : Nat × Nat) (v : Value) (h : w.heap[c]? = some (.cells cs t fz)) : (w.setCell ⟨c, o, none⟩ v).heap[c]? = some (.cells (cs.setIfInBounds o v) t fz) := by
  simp [World.setCell, Array.getElem?_modify, h]
end Go.Proofs.Ytckjbgpdbehmaaa

namespace Go.Proofs.Ytckjbgpdbehmaaa
open Go.RowKit
open Go.Lib hiding intOf

theorem owns_wide {w : World} {B base : Nat} {e : TypeId} {size : Nat} {v : Value} {n : Nat} {xs : List Value} (h : w.ownsRow base e size v n xs) (hB : B ≤ base) : w.ownsRow B e size v n xs := by
  obtain ⟨hl, hv⟩ := h
  refine ⟨hl, ?_⟩
  rcases hv with h0 | ⟨g, cap, cur, h1, h2, h3⟩
  · exact .inl h0
  · exact .inr ⟨g, cap, cur, h1, Nat.le_trans hB h2, h3⟩
theorem owns_same {w w' : World} {base : Nat} {e : TypeId} {size : Nat} {v : Value} {n : Nat} {xs : List Value} (h : w.ownsRow base e size v n xs) (hs : ∀ j, v.ownBlock = some j → w'.heap[j]? = w.heap[j]?) : w'.ownsRow base e size v n xs := by
  obtain ⟨hl, hv⟩ := h
  refine ⟨hl, ?_⟩
  rcases hv with h0 | ⟨g, cap, cur, rfl, h2, h3, h4⟩
  · exact .inl h0
  · exact .inr ⟨g, cap, cur, rfl, h2, by rw [hs g rfl]; exact h3, h4⟩

theorem addr_add (b off y : Nat) : (⟨b, off, none⟩ : Addr).add y = ⟨b, off + y, none⟩ := by
  unfold Addr.add; split <;> simp_all
end Go.Proofs.Ytckjbgpdbehmaaa

namespace Go.Proofs.Ytckjbgpdbehmaaa
open Go.RowKit
open Go.Lib hiding intOf

/-- All blocks that were there but the list's own are as they were. -/
def Far (v : Value) (w w' : World) : Prop := ∀ j, j < w.heap.size → v.ownBlock ≠ some j → w'.heap[j]? = w.heap[j]?

end Go.Proofs.Ytckjbgpdbehmaaa

namespace Go.Proofs.Ytckjbgpdbehmaaa
open Go.RowKit
open Go.Lib hiding intOf

/-- A list of texts among the arguments. -/
structure ArgT (w : World) (B : Nat) (a : Option Addr) (n : Nat) (xs : List ByteArray) : Prop where
  len : xs.length = n
  get : ∀ i, i < n → ∃ b off, a = some ⟨b, off, none⟩ ∧ b < B ∧ w.cell? ⟨b, off + i, none⟩ = some (.string (textAt xs i))
theorem ArgT.below {w w' : World} {B : Nat} {a : Option Addr} {n : Nat} {xs : List ByteArray} (h : ArgT w B a n xs) (hb : Below B w w') : ArgT w' B a n xs :=
  ⟨h.len, fun i hi => by
    obtain ⟨b, off, h1, h2, h3⟩ := h.get i hi
    exact ⟨b, off, h1, h2, by rw [hb.cell (p := ⟨b, off + i, none⟩) h2]; exact h3⟩⟩

theorem openTexts {H : Type} {enc : TypeId × Value → H} {W : World} {fuel : Nat} {a : Option Addr} {n cap : Nat} {x : DataW H × List MemPlace} (h : DataW.trod enc Try.prog W 0 (fun _ => true) true fuel 24 [.slice a n cap] = some x) :
    ∃ xs, ArgT W W.heap.size a n xs ∧ n ≤ maxLen ∧ ∀ i, i < n → (textAt xs i).size ≤ maxLen := by
  rcases Go.ChangeShapes.open_strings Try.underlying24 Try.underlying9 (by kernel_rfl) h with ⟨hcs, _⟩ | ⟨ad, len, c, ss, hcs, _, hl, hm, hlen, _, hcell, hsz⟩
  · simp at hcs
    obtain ⟨rfl, rfl, rfl⟩ := hcs
    exact ⟨[], ⟨rfl, fun i hi => absurd hi (by omega)⟩, Nat.zero_le _, fun i hi => absurd hi (by omega)⟩
  · simp at hcs
    obtain ⟨rfl, rfl, rfl⟩ := hcs
    have hlen2 : ss.length = cap := by simpa using hlen
    have htk : ∀ i, i < n → textAt (ss.take n) i = ss.getD i ByteArray.empty := fun i hi => by
      unfold textAt
      rw [List.getD_eq_getElem?_getD, List.getD_eq_getElem?_getD, List.getElem?_take_of_lt hi]
      rfl
    refine ⟨ss.take n, ⟨by rw [List.length_take]; omega, fun i hi => ?_⟩, by omega, fun i hi => ?_⟩
    · obtain ⟨b, off, spot⟩ := ad
      have hspot : spot = none := by
        have := World.cell?_spot (hcell 0 (by omega))
        simpa [Addr.add] using this
      subst hspot
      have hc := hcell i (by omega)
      rw [addr_add] at hc
      exact ⟨b, off, rfl, World.block_lt_of_cell? _ _ hc, by rw [htk i hi]; exact hc⟩
    · rw [htk i hi]
      refine hsz _ ?_
      rw [List.getD_eq_getElem?_getD, List.getElem?_eq_getElem (by omega)]
      exact List.getElem_mem _

/-- The first k texts of a row of n cells are told. -/
def PartT (w : World) (g n k : Nat) (xs : List ByteArray) : Prop :=
  ∃ cur, w.heap[g]? = some (.cells cur 9 (0, 0)) ∧ cur.size = n ∧ ∀ i, i < k → cur[i]? = some (.string (textAt xs i))
theorem PartT.put {w : World} {g n k : Nat} {xs : List ByteArray} (h : PartT w g n k xs) (hk : k < n) : PartT (w.setCell ⟨g, k, none⟩ (.string (textAt xs k))) g n (k + 1) xs := by
  obtain ⟨cur, h1, h2, h3⟩ := h
  refine ⟨_, heap_set w g k _ _ _ _ h1, by simpa using h2, fun i hi => ?_⟩
  by_cases e : i = k
  · subst e
    exact Array.getElem?_setIfInBounds_self_of_lt (by omega)
  · rw [Array.getElem?_setIfInBounds_ne (fun x => e x.symm)]
    exact h3 i (by omega)
theorem PartT.row {w : World} {g n base : Nat} {xs : List ByteArray} (h : PartT w g n n xs) (hl : xs.length = n) (hb : base ≤ g) (hn : n ≤ maxLen) : TextRow base w g n n xs := by
  obtain ⟨cur, h1, h2, h3⟩ := h
  exact ⟨hl, hb, (Array.getElem?_eq_some_iff.1 h1).1, Nat.le_refl _, hn, cur, h1, h2, h3⟩

set_option maxHeartbeats 1000000 in
theorem toStringS_any (B : Nat) (a : Option Addr) (n cap : Nat) (xs : List ByteArray) (w : World) (harg : ArgT w B a n xs) (hB : B ≤ w.heap.size) (hn : n ≤ 1048576) :
    Calls Try.prog 57 #[.slice a n cap] w fun e w' => ∃ v, e = .returned v ∧ w'.ownsRow w.heap.size 9 1 v n (xs.map Value.string) ∧ Below w.heap.size w w' := by
  obtain ⟨i0, hi, hz0, hz1, hz2⟩ := info_parts info9
  obtain ⟨M, hM⟩ : ∃ M, M = madeCells (Value.string ⟨#[]⟩).cells (((n : Nat) : Int).toNat * i0.size) := ⟨_, rfl⟩
  have hmk : ∀ W : World, (Instr.makeSlice 24 (.int .i64 (n : Int)) (.int .i64 (n : Int))).run Try.prog W = .ok (.slice (some ⟨W.heap.size, 0, none⟩) n n) (W.alloc (.cells M 9)) := fun W => by
    have h := run_make (P := Try.prog) W 24 9 i0 (.string ⟨#[]⟩) Try.underlying24 hi hz0 .i64 .i64 (n : Int) (n : Int) (by omega) (by omega) (by rw [hz2]; omega) (by omega)
    rw [← hM] at h
    simpa using h
  have hMs : M.size = n := by rw [hM, size_madeCells, hz1]; simp
  have HARG : Hid (∀ W, Below B w W → ArgT W B a n xs) := fun W h => harg.below h
  have HLEN : Hid (xs.length = n) := harg.len
  clear hM harg
  have HP : Hid (PartT (w.alloc (.cells M 9)) w.heap.size n 0 xs) := ⟨M, heap_alloc_new w _, hMs, fun i h => absurd h (by omega)⟩
  go_enter Try.func57, Try.ntmps57
  go_wp2
  go_loopw [4] (fun i wr => ∃ k : Nat, k ≤ n ∧ i = .int .i64 (k : Int) ∧ Hid (PartT wr w.heap.size n k xs) ∧ Below w.heap.size w wr) (fun i _ => n - (intOf i).toNat)
  case atStart => exact ⟨0, Nat.zero_le _, rfl, HP, (Below.refl _ _).alloc (Nat.le_refl _) _⟩
  case round =>
    obtain ⟨k, hk, rfl, hpr, hbw⟩ := hrel
    by_cases hlt : k < n
    · have hlt2 : (k : Int) < (n : Int) := by omega
      obtain ⟨b, off, rfl, hbB, hc1⟩ := (HARG.out wr (hbw.mono hB)).get k hlt
      have HPUT : Hid (PartT (wr.setCell ⟨w.heap.size, k, none⟩ (.string (textAt xs k))) w.heap.size n (k + 1) xs) := hpr.out.put hlt
      obtain ⟨u0, hu0, f0⟩ : ∃ u, wr.cell? ⟨w.heap.size, k, none⟩ = some u ∧ wr.frozen? ⟨w.heap.size, k, none⟩ = false := by
        obtain ⟨cur, h1, h2, _⟩ := hpr.out
        refine ⟨cur[k]'(by omega), ?_, by simp [World.frozen?, h1]⟩
        simp only [World.cell?, h1]
        simp [show k < cur.size by omega]
      generalize textAt xs k = z at hc1 HPUT
      go_wp2
      go_roundw
      case rel => exact ⟨k + 1, by omega, by go_num, HPUT, hbw.setCell (Nat.le_refl _) _⟩
      case measure => simp [intOf]; omega
    · obtain rfl : k = n := by omega
      go_wp2
      go_ret
      exact ⟨_, rfl, (hpr.out.row HLEN.out (Nat.le_refl _) (by unfold maxLen; omega)).owns, hbw⟩

end Go.Proofs.Ytckjbgpdbehmaaa

namespace Go.Proofs.Ytckjbgpdbehmaaa
open Go.RowKit
open Go.Lib hiding intOf

set_option maxHeartbeats 400000 in
theorem l1In_any (x lo hi : Int) (w : World) :
    Calls Try.prog 45 #[.int .i64 x, .int .i64 lo, .int .i64 hi] w fun e w' => e = .returned (.bool (decide (lo ≤ x ∧ x ≤ hi))) ∧ w' = w := by
  by_cases h1 : lo ≤ x
  · by_cases h2 : x ≤ hi
    · go_enter Try.func45, Try.ntmps45
      go_wp2
      go_ret
      exact ⟨by simp [h1, h2], rfl⟩
    · go_enter Try.func45, Try.ntmps45
      go_wp2
      go_ret
      exact ⟨by simp [h2], rfl⟩
  · go_enter Try.func45, Try.ntmps45
    go_wp2
    go_ret
    exact ⟨by simp; omega, rfl⟩

end Go.Proofs.Ytckjbgpdbehmaaa

namespace Go.Proofs.Ytckjbgpdbehmaaa
open Go.RowKit
open Go.Lib hiding intOf

/-- A list of texts that a function reads, in blocks below B. -/
def TextsV (w : World) (B : Nat) (a : Option Addr) (n : Nat) (xs : List ByteArray) : Prop :=
  xs.length = n ∧ ∀ i (h : i < xs.length), ∃ g off, a = some ⟨g, off, none⟩ ∧ g < B ∧ w.cell? ⟨g, off + i, none⟩ = some (.string (xs[i]'h))
theorem TextsV.below {w w' : World} {B : Nat} {a : Option Addr} {n : Nat} {xs : List ByteArray} (h : TextsV w B a n xs) (hb : Below B w w') : TextsV w' B a n xs :=
  ⟨h.1, fun i hi => by
    obtain ⟨g, off, h1, h2, h3⟩ := h.2 i hi
    exact ⟨g, off, h1, h2, by rw [hb.cell (p := ⟨g, off + i, none⟩) h2]; exact h3⟩⟩

end Go.Proofs.Ytckjbgpdbehmaaa

namespace Go.Proofs.Ytckjbgpdbehmaaa
open Go.RowKit
open Go.Lib hiding intOf

theorem map_bs_inj : ∀ {a b : List ByteArray}, a.map bs = b.map bs → a = b
  | [], [], _ => rfl
  | [], _ :: _, h => by simp at h
  | _ :: _, [], h => by simp at h
  | x :: r, y :: t, h => by
    simp only [List.map_cons, List.cons.injEq] at h
    rw [map_bs_inj h.2, bs_inj h.1]

/-- What is read of a text, ahead of the last look: the words of its first line, the fields of the others, what is behind. -/
structure Parts (s : ByteArray) (xs : List ByteArray) (k : Nat) (ws : List ByteArray) (l : List (ByteArray × ByteArray)) : Prop where
  head : headL [] [] (bs s) = (xs.map bs, some ((bs s).drop k))
  ne : xs ≠ []
  words : wordsL [] [] (bs (xs.headD ⟨#[]⟩)) = ws.map bs
  fields : fieldsL (xs.tail.map bs) = l.map bsP
/-- A request's text is read as the request. -/
theorem IsReq.parts {s : ByteArray} {m : Int} {p : ByteArray} {fs : List (ByteArray × ByteArray)} {b : ByteArray} (h : IsReq s m p fs b) {xs : List ByteArray} {k : Nat} {ws : List ByteArray} {l : List (ByteArray × ByteArray)} (hp : Parts s xs k ws l) :
    ∃ x, ws = [methB m, p, x] ∧ l = fs ∧ s.extract k s.size = b := by
  have e := hp.head.symm.trans (req_head h)
  simp only [Prod.mk.injEq, Option.some.injEq] at e
  obtain ⟨e1, e2⟩ := e
  obtain ⟨x0, xr, rfl⟩ : ∃ x0 xr, xs = x0 :: xr := by
    cases xs with
    | nil => exact absurd rfl hp.ne
    | cons a r => exact ⟨a, r, rfl⟩
  simp only [List.map_cons, List.cons.injEq] at e1
  have hw := hp.words
  simp only [List.headD_cons] at hw
  rw [e1.1, req_words h.1.1 h.1.2.1] at hw
  have hf := hp.fields
  simp only [List.tail_cons] at hf
  rw [e1.2, req_fields h.1.2.2.1] at hf
  refine ⟨⟨httpL.toArray⟩, map_bs_inj (by rw [← hw]; rfl), (pairs_inj hf).symm, bs_inj ?_⟩
  rw [bs_extract, List.take_of_length_le (i := s.size) (l := bs s) (by rw [bs_len]; omega)]
  exact e2

theorem slice_of_owns {w : World} {base : Nat} {t : TypeId} {size : Nat} {v : Value} {n : Nat} {xs : List Value} (h : w.ownsRow base t size v n xs) : ∃ oa cp, v = .slice oa n cp := by
  rcases h.2 with ⟨rfl, rfl⟩ | ⟨g, cap, cur, rfl, _⟩
  · exact ⟨none, 0, rfl⟩
  · exact ⟨_, cap, rfl⟩
end Go.Proofs.Ytckjbgpdbehmaaa

namespace Go.Proofs.Ytckjbgpdbehmaaa
open Go.RowKit
open Go.Lib hiding intOf

/-- A block's content behind a call. -/
theorem blk_below {W W' : World} {r : Nat} {o : Obj} (h : W.heap[r]? = some o) (b : Below W.heap.size W W') : W'.heap[r]? = some o := by
  rw [b.block r (Array.getElem?_eq_some_iff.1 h).1]; exact h
theorem blk_alloc {W : World} {r : Nat} {o : Obj} (h : W.heap[r]? = some o) (x : Obj) : (W.alloc x).heap[r]? = some o := by
  rw [Below.heap_alloc _ _ _ (Array.getElem?_eq_some_iff.1 h).1]; exact h
theorem own_ne {W : World} {r : Nat} {cs : Array Value} {T t : TypeId} {base size n : Nat} {v : Value} {xs : List Value} (ho : W.ownsRow base t size v n xs) (h : W.heap[r]? = some (.cells cs T)) (hT : T ≠ t) (j : Nat) (hj : v.ownBlock = some j) : j ≠ r := fun e => by
  subst e
  rcases ho.2 with ⟨rfl, _⟩ | ⟨g, cap, cur, rfl, _, h1, _⟩
  · cases hj
  · cases hj
    rw [h] at h1
    cases h1
    exact hT rfl
/-- A block of another type is no row of this one. -/
theorem blk_far {W W' : World} {r : Nat} {cs : Array Value} {T t : TypeId} {base size n : Nat} {v : Value} {xs : List Value} (h : W.heap[r]? = some (.cells cs T)) (far : Far v W W') (ho : W.ownsRow base t size v n xs) (hT : T ≠ t) : W'.heap[r]? = some (.cells cs T) := by
  rw [far r (Array.getElem?_eq_some_iff.1 h).1 (fun e => ?_)]
  · exact h
  · rcases ho.2 with ⟨rfl, _⟩ | ⟨g, cap, cur, rfl, _, h1, _⟩
    · cases e
    · cases e
      rw [h] at h1
      cases h1
      exact hT rfl

end Go.Proofs.Ytckjbgpdbehmaaa

namespace Go.Proofs.Ytckjbgpdbehmaaa
open Go.RowKit
open Go.Lib hiding intOf

theorem cell_of {W : World} {R : Nat} {cs : Array Value} {t : TypeId} (h : W.heap[R]? = some (.cells cs t)) (i : Nat) : W.cell? ⟨R, i, none⟩ = cs[i]? := by simp [World.cell?, h]
theorem frozen_of {W : World} {R : Nat} {cs : Array Value} {t : TypeId} (h : W.heap[R]? = some (.cells cs t)) (i : Nat) : W.frozen? ⟨R, i, none⟩ = false := by simp [World.frozen?, h]
/-- Rows of two types lie apart. -/
theorem own_type_ne {W : World} {b1 b2 z1 z2 n1 n2 : Nat} {t1 t2 : TypeId} {v1 v2 : Value} {xs ys : List Value} (h1 : W.ownsRow b1 t1 z1 v1 n1 xs) (h2 : W.ownsRow b2 t2 z2 v2 n2 ys) (ht : t1 ≠ t2) (j : Nat) (hj : v1.ownBlock = some j) : v2.ownBlock ≠ some j := fun e => by
  rcases h1.2 with ⟨rfl, _⟩ | ⟨g, cap, cur, rfl, _, k1, _⟩
  · cases hj
  · cases hj
    rcases h2.2 with ⟨rfl, _⟩ | ⟨g2, cap2, cur2, rfl, _, k2, _⟩
    · cases e
    · cases e
      rw [k1] at k2
      cases k2
      exact ht rfl
/-- The measure is negative, or it says that the list and what is left fit into L. -/
def SzTx (L : Int) (n : Nat) (xs : List ByteArray) (w : World) (e : Ending) (w' : World) : Prop :=
  ∃ r : Int, e = .returned (.int .i64 r) ∧ r ≤ L ∧ (0 ≤ r → r + (n : Int) ≤ L ∧ n ≤ 1048576 ∧ ∀ i, i < n → (textAt xs i).size ≤ 1048576) ∧ Below w.heap.size w w'

set_option maxHeartbeats 1000000 in
theorem szStringS_exact (L : Int) (hL0 : 0 ≤ L) (hL1 : L ≤ 1048576) (B : Nat) (a : Option Addr) (n cap : Nat) (xs : List ByteArray) (w : World) (harg : ArgT w B a n xs) (hB : B ≤ w.heap.size) (hn : n ≤ maxLen) (hsz : ∀ i, i < n → (textAt xs i).size ≤ maxLen) :
    Calls Try.prog 55 #[.slice a n cap, .int .i64 L] w fun e w' => SzTx L n xs w e w' := by
  unfold maxLen at hn
  have HS : Hid (∀ i, i < n → (textAt xs i).size ≤ maxLen) := hsz
  have HA : Hid (∀ W, Below w.heap.size w W → ArgT W B a n xs) := fun W h => harg.below (h.mono hB)
  clear hsz harg
  by_cases c1 : L - (n : Int) < 0
  · go_enter Try.func55, Try.ntmps55
    go_wp2
    go_ret
    exact ⟨-1, rfl, by omega, fun h => absurd h (by omega), Below.refl _ _⟩
  · go_enter Try.func55, Try.ntmps55
    go_wp2
    go_loopw [1, 5] (fun l i wr => ∃ (k : Nat) (x : Int), k ≤ n ∧ i = .int .i64 (k : Int) ∧ l = .int .i64 x ∧ 0 ≤ x ∧ x + (n : Int) ≤ L ∧ Hid (∀ j, j < k → (textAt xs j).size ≤ 1048576) ∧ Below w.heap.size w wr) (fun _ i _ => n - (intOf i).toNat)
    case atStart => exact ⟨0, _, Nat.zero_le _, rfl, rfl, by omega, by omega, fun j hj => absurd hj (by omega), Below.refl _ _⟩
    case round =>
      obtain ⟨k, x, hk, rfl, rfl, hx0, hx1, HX, hbw⟩ := hrel
      by_cases hlt : k < n
      · have hlt2 : (k : Int) < (n : Int) := by omega
        obtain ⟨b, off, rfl, hbB, hc1⟩ := (HA.out wr hbw).get k hlt
        have s1 := HS.out k hlt
        obtain ⟨t, ht⟩ : ∃ y, y = textAt xs k := ⟨_, rfl⟩
        rw [← ht] at hc1 s1
        unfold maxLen at s1
        by_cases d1 : x - (t.size : Int) < 0
        · clear ht
          go_wp2
          go_ret
          exact ⟨-1, rfl, by omega, fun h => absurd h (by omega), hbw⟩
        · have HX2 : Hid (∀ j, j < k + 1 → (textAt xs j).size ≤ 1048576) := by
            intro j hj
            by_cases e : j = k
            · rw [e, ← ht]; omega
            · exact HX.out j (by omega)
          clear ht
          go_wp2
          go_roundw
          case rel => exact ⟨k + 1, x - (t.size : Int), by omega, by go_num, by go_num, by omega, by omega, HX2, hbw⟩
          case measure => simp [intOf]; omega
      · have hF : Hid (n ≤ 1048576 ∧ ∀ i, i < n → (textAt xs i).size ≤ 1048576) := ⟨by omega, fun i hi => HX.out i (by omega)⟩
        go_wp2
        go_ret
        exact ⟨x, rfl, by omega, fun _ => ⟨hx1, hF.out⟩, hbw⟩


def mkT (k0 : Nat) (xs : List ByteArray) : Nat → List ByteArray
  | 0 => xs
  | i + 1 => (mkT k0 xs i).set i (markOf (k0 + i))
theorem mkT_len (k0 : Nat) (xs : List ByteArray) : ∀ i, (mkT k0 xs i).length = xs.length
  | 0 => rfl
  | i + 1 => by rw [mkT, List.length_set, mkT_len k0 xs i]
theorem mkT_at (k0 : Nat) (xs : List ByteArray) (j : Nat) (hj : j < xs.length) : ∀ i, j < i → textAt (mkT k0 xs i) j = markOf (k0 + j) := by
  intro i
  induction i with
  | zero => intro h; omega
  | succ i ih =>
    intro h
    unfold textAt
    rw [mkT]
    by_cases e : i = j
    · subst e
      rw [List.getD_eq_getElem?_getD, List.getElem?_set_self (by rw [mkT_len]; exact hj)]
      rfl
    · rw [List.getD_eq_getElem?_getD, List.getElem?_set_ne (by exact e), ← List.getD_eq_getElem?_getD]
      exact ih (by omega)

set_option maxHeartbeats 1000000 in
theorem markTFrom_any (v : Value) (n base : Nat) (xs : List ByteArray) (w : World) (h1 : w.ownsRow base 9 1 v n (xs.map Value.string)) (hb : base ≤ w.heap.size) (k0 : Nat) (hk0 : 1 ≤ k0) (hn : k0 + n ≤ 9999998) :
    Calls Try.prog 61 #[v, .int .i64 (k0 : Int)] w fun e w' => e = .returned (.int .i64 ((k0 : Int) + (n : Int))) ∧ w'.ownsRow base 9 1 v n ((mkT k0 xs n).map Value.string) ∧ Below base w w' ∧ Far v w w' := by
  rcases row_form h1 with ⟨oa, ca, rfl, rfl, rfl⟩ | ⟨g, cap, rfl, hp, r1⟩
  · go_enter Try.func61, Try.ntmps61
    go_wp2
    refine wp_loop_rounds 1 ?_
    rw [rounds_succ]
    go_wp2
    go_ret
    exact ⟨by simp, h1, Below.refl _ _, fun _ _ _ => rfl⟩
  · clear h1
    have HR1 : Hid (TextRow base w g n cap xs) := r1
    clear r1
    go_enter Try.func61, Try.ntmps61
    go_wp2
    go_loopw [1, 5] (fun k i wr => ∃ j : Nat, j ≤ n ∧ i = .int .i64 (j : Int) ∧ k = .int .i64 ((k0 : Int) + (j : Int)) ∧ Hid (w.grownBy wr (some g)) ∧ Hid (TextRow base wr g n cap (mkT k0 xs j))) (fun _ i _ => n - (intOf i).toNat)
    case atStart => exact ⟨0, Nat.zero_le _, rfl, by simp, World.grownBy.refl _ _, HR1⟩
    case round =>
      obtain ⟨j, hj, rfl, rfl, HG, HR⟩ := hrel
      by_cases hlt : j < n
      · have hlt2 : (j : Int) < (n : Int) := by omega
        go_wp2_with fail
        refine (markText_int _ (k0 + j) _ (by omega) (by omega) (by omega)).mono ?_
        rintro e w1 ⟨rfl, hb1⟩
        have hrow1 := HR.out.below hb1 HR.out.lt
        have hc := hrow1.cell j hlt
        have hf := hrow1.frozen j
        have HG2 : Hid (w.grownBy (w1.setCell ⟨g, j, none⟩ (.string (markOf (k0 + j)))) (some g)) := by
          have h0 := HG.out
          refine ⟨hb1.os.trans h0.os, hb1.tape.trans h0.tape, hb1.output.trans h0.output, by rw [World.size_setCell]; exact Nat.le_trans h0.size hb1.size, fun i hi hne => ?_⟩
          rw [heap_setCell_other _ _ i _ (fun e => hne (by rw [e]))]
          exact (hb1.block i (Nat.lt_of_lt_of_le hi h0.size)).trans (h0.block i hi hne)
        have HR2 : Hid (TextRow base (w1.setCell ⟨g, j, none⟩ (.string (markOf (k0 + j)))) g n cap (mkT k0 xs (j + 1))) := hrow1.set j hlt _
        clear hb1 HG HR hrow1
        go_wp2
        go_roundw
        case rel => exact ⟨j + 1, by omega, by go_num, by go_num, HG2, HR2⟩
        case measure => simp [intOf]; omega
      · obtain rfl : j = n := by omega
        go_wp2
        go_ret
        have hg := HG.out
        exact ⟨rfl, HR.out.owns, ⟨hg.os, hg.tape, hg.output, hg.size, fun i hi => hg.block i (Nat.lt_of_lt_of_le hi hb) (fun e => by have := HR.out.base; cases e; omega)⟩, fun i hi hne => hg.block i hi (fun e => hne e.symm)⟩

set_option maxHeartbeats 1000000 in
theorem heldTFrom_any (v : Value) (n base : Nat) (xs : List ByteArray) (w : World) (h1 : w.ownsRow base 9 1 v n (xs.map Value.string)) (k0 : Nat) (hk0 : 1 ≤ k0) (hn : k0 + n ≤ 9999998) (hm : ∀ j, j < n → textAt xs j = markOf (k0 + j)) :
    Calls Try.prog 63 #[v, .int .i64 (k0 : Int)] w fun e w' => e = .returned (.int .i64 ((k0 : Int) + (n : Int))) ∧ Below w.heap.size w w' := by
  rcases row_form h1 with ⟨oa, ca, rfl, rfl, rfl⟩ | ⟨g, cap, rfl, hp, r1⟩
  · clear hm
    go_enter Try.func63, Try.ntmps63
    go_wp2
    refine wp_loop_rounds 1 ?_
    rw [rounds_succ]
    go_wp2
    go_ret
    exact ⟨by simp, Below.refl _ _⟩
  · clear h1
    have HM : Hid (∀ j, j < n → textAt xs j = markOf (k0 + j)) := hm
    clear hm
    go_enter Try.func63, Try.ntmps63
    go_wp2
    go_loopw [1, 5] (fun k i wr => ∃ j : Nat, j ≤ n ∧ i = .int .i64 (j : Int) ∧ k = .int .i64 ((k0 : Int) + (j : Int)) ∧ Below w.heap.size w wr) (fun _ i _ => n - (intOf i).toNat)
    case atStart => exact ⟨0, Nat.zero_le _, rfl, by simp, Below.refl _ _⟩
    case round =>
      obtain ⟨j, hj, rfl, rfl, hbw⟩ := hrel
      by_cases hlt : j < n
      · have hlt2 : (j : Int) < (n : Int) := by omega
        have hc : wr.cell? ⟨g, j, none⟩ = some (.string (markOf (k0 + j))) := by
          rw [← HM.out j hlt]; exact (r1.below hbw r1.lt).cell j hlt
        have hall : ∀ w1, Below wr.heap.size wr w1 → w1.cell? ⟨g, j, none⟩ = some (.string (markOf (k0 + j))) := fun w1 h => by
          rw [h.cell (p := ⟨g, j, none⟩) (by have := hbw.size; have := r1.lt; show g < _; omega)]; exact hc
        have HA : Hid _ := hall
        clear hall
        go_wp2
        go_region_with (go_at_call 73; refine (markText_int _ (k0 + j) _ (by omega) (by omega) (by omega)).mono ?_; rintro e w1 ⟨rfl, hb1⟩; have hc1 := HA.out w1 (((Below.refl _ wr).drew).trans hb1))
        all_goals
          go_wp2
          go_roundw
          case rel => exact ⟨j + 1, by omega, by go_num, by go_num, (hbw.drew).trans (hb1.mono hbw.size)⟩
          case measure => simp [intOf]; omega
      · obtain rfl : j = n := by omega
        go_wp2
        go_ret
        exact ⟨rfl, hbw⟩

end Go.Proofs.Ytckjbgpdbehmaaa

namespace Go.Proofs.Ytckjbgpdbehmaaa
open Go.RowKit
open Go.Lib hiding intOf

set_option maxHeartbeats 8000000 in
set_option maxRecDepth 100000 in
theorem toWrite_any (y0 : Int) (y1 : ByteArray) (w : World) :
    Calls Try.prog 71 #[.agg #[.int .i64 y0, .string y1]] w fun e w' => e = .returned (.agg #[.int .i64 y0, .string y1]) ∧ Below w.heap.size w w' := by
  have hb0 : Below w.heap.size w w := Below.refl _ _
  go_enter Try.func71, Try.ntmps71
  go_upto_region 1 with fail
  obtain ⟨qv1, hqv1⟩ : ∃ q, q = (w).heap.size := ⟨_, rfl⟩
  obtain ⟨w1, hW1⟩ : ∃ W, W = (w).alloc (.cells #[.int .i64 y0, .string y1] 92) := ⟨_, rfl⟩
  have hz1 : (w).heap.size = qv1 := hqv1.symm
  first | rw [← hW1, ← hqv1] | rw [← hW1]
  have hs1 : w1.heap.size = qv1 + 1 := by rw [hW1, ← hz1]; simp
  have bw : Below (w).heap.size (w) w1 := by rw [hW1]; exact (Below.refl _ _).alloc (Nat.le_refl _) _
  have hb1 : Below w.heap.size w (w1) := hb0.trans (bw.mono hb0.size)
  have HM1 : Hid ((w).heap.size ≤ (w1).heap.size) := bw.size
  have HBv1_1 : Hid ((w1).heap[qv1]? = some (.cells #[.int .i64 y0, .string y1] 92)) := by show _ = _; rw [hW1, ← hz1]; exact heap_alloc_new _ _
  have HGv1 : Hid (w.heap.size ≤ qv1) := by show _ ≤ _; rw [← hz1]; exact hb0.size
  clear hb0 bw hW1 hz1
  obtain ⟨qv2, hqv2⟩ : ∃ q, q = qv1 + 1 := ⟨_, rfl⟩
  obtain ⟨w2, hW2⟩ : ∃ W, W = (w1).alloc (.cells #[.int .i64 0, .string ⟨#[]⟩] 67) := ⟨_, rfl⟩
  have hz2 : (w1).heap.size = qv2 := by rw [hqv2]; exact hs1
  first | rw [← hW2, ← hqv2] | rw [← hW2]
  have hs2 : w2.heap.size = qv2 + 1 := by rw [hW2, ← hz2]; simp
  have bw : Below (w1).heap.size (w1) w2 := by rw [hW2]; exact (Below.refl _ _).alloc (Nat.le_refl _) _
  have hb2 : Below w.heap.size w (w2) := hb1.trans (bw.mono hb1.size)
  have HM2 : Hid ((w1).heap.size ≤ (w2).heap.size) := bw.size
  have HBv1_2 : Hid ((w2).heap[qv1]? = some (.cells #[.int .i64 y0, .string y1] 92)) := blk_below HBv1_1.out bw
  have HNv1v2 : Hid (qv1 ≠ qv2) := fun e => by have h1 := (Array.getElem?_eq_some_iff.1 HBv1_1.out).1; omega
  have HBv2_2 : Hid ((w2).heap[qv2]? = some (.cells #[.int .i64 0, .string ⟨#[]⟩] 67)) := by show _ = _; rw [hW2, ← hz2]; exact heap_alloc_new _ _
  have HGv2 : Hid (w.heap.size ≤ qv2) := by show _ ≤ _; rw [← hz2]; exact hb1.size
  clear hb1 HBv1_1 bw hW2 hz2
  clear hs2 hqv2 hs1 hqv1
  go_upto_region 2 with fail
  obtain ⟨qv3, hqv3⟩ : ∃ q, q = (w2).heap.size := ⟨_, rfl⟩
  obtain ⟨w3, hW3⟩ : ∃ W, W = (w2).alloc (.cells #[.int .i64 0, .string ⟨#[]⟩] 67) := ⟨_, rfl⟩
  have hz3 : (w2).heap.size = qv3 := hqv3.symm
  first | rw [← hW3, ← hqv3] | rw [← hW3]
  have hs3 : w3.heap.size = qv3 + 1 := by rw [hW3, ← hz3]; simp
  have bw : Below (w2).heap.size (w2) w3 := by rw [hW3]; exact (Below.refl _ _).alloc (Nat.le_refl _) _
  have hb3 : Below w.heap.size w (w3) := hb2.trans (bw.mono hb2.size)
  have HM3 : Hid ((w2).heap.size ≤ (w3).heap.size) := bw.size
  have HBv1_3 : Hid ((w3).heap[qv1]? = some (.cells #[.int .i64 y0, .string y1] 92)) := blk_below HBv1_2.out bw
  have HBv2_3 : Hid ((w3).heap[qv2]? = some (.cells #[.int .i64 0, .string ⟨#[]⟩] 67)) := blk_below HBv2_2.out bw
  have HNv1v3 : Hid (qv1 ≠ qv3) := fun e => by have h1 := (Array.getElem?_eq_some_iff.1 HBv1_2.out).1; omega
  have HNv2v3 : Hid (qv2 ≠ qv3) := fun e => by have h1 := (Array.getElem?_eq_some_iff.1 HBv2_2.out).1; omega
  have HBv3_3 : Hid ((w3).heap[qv3]? = some (.cells #[.int .i64 0, .string ⟨#[]⟩] 67)) := by show _ = _; rw [hW3, ← hz3]; exact heap_alloc_new _ _
  have HGv3 : Hid (w.heap.size ≤ qv3) := by show _ ≤ _; rw [← hz3]; exact hb2.size
  clear hb2 HBv1_2 HBv2_2 bw hW3 hz3
  clear hs3 hqv3
  have cv1_0 : (w3).cell? ⟨qv1, 0, none⟩ = some (.int .i64 y0) := (cell_of HBv1_3.out 0).trans rfl
  have cv3_0 : (w3).cell? ⟨qv3, 0, none⟩ = some (.int .i64 0) := (cell_of HBv3_3.out 0).trans rfl
  have fcv3_0 : (w3).frozen? ⟨qv3, 0, none⟩ = false := frozen_of HBv3_3.out 0
  go_upto_region 3 with fail
  obtain ⟨w4, hW4⟩ : ∃ W, W = (w3).setCell ⟨qv3, 0, none⟩ (.int .i64 y0) := ⟨_, rfl⟩
  rw [← hW4]
  have hb4 : Below w.heap.size w (w4) := by rw [hW4]; exact (hb3.setCell (p := ⟨qv3, 0, none⟩) HGv3.out _)
  have HM4 : Hid ((w3).heap.size ≤ w4.heap.size) := by show _ ≤ _; rw [hW4]; simp
  have HBv1_4 : Hid ((w4).heap[qv1]? = some (.cells #[.int .i64 y0, .string y1] 92)) := by show _ = _; rw [hW4, heap_setCell_other _ _ _ _ HNv1v3.out]; exact HBv1_3.out
  have HBv2_4 : Hid ((w4).heap[qv2]? = some (.cells #[.int .i64 0, .string ⟨#[]⟩] 67)) := by show _ = _; rw [hW4, heap_setCell_other _ _ _ _ HNv2v3.out]; exact HBv2_3.out
  have HBv3_4 : Hid ((w4).heap[qv3]? = some (.cells #[.int .i64 y0, .string ⟨#[]⟩] 67)) := by show _ = _; rw [hW4]; have h := heap_set _ _ 0 _ _ _ (.int .i64 y0) HBv3_3.out; simpa using h
  clear hb3 HBv1_3 HBv2_3 HBv3_3 hW4
  clear cv1_0 cv3_0 fcv3_0
  have cv1_1 : (w4).cell? ⟨qv1, 1, none⟩ = some (.string y1) := (cell_of HBv1_4.out 1).trans rfl
  have cv3_1 : (w4).cell? ⟨qv3, 1, none⟩ = some (.string ⟨#[]⟩) := (cell_of HBv3_4.out 1).trans rfl
  have fcv3_1 : (w4).frozen? ⟨qv3, 1, none⟩ = false := frozen_of HBv3_4.out 1
  go_upto_region 4 with fail
  obtain ⟨w5, hW5⟩ : ∃ W, W = (w4).setCell ⟨qv3, 1, none⟩ (.string y1) := ⟨_, rfl⟩
  rw [← hW5]
  have hb5 : Below w.heap.size w (w5) := by rw [hW5]; exact (hb4.setCell (p := ⟨qv3, 1, none⟩) HGv3.out _)
  have HM5 : Hid ((w4).heap.size ≤ w5.heap.size) := by show _ ≤ _; rw [hW5]; simp
  have HBv1_5 : Hid ((w5).heap[qv1]? = some (.cells #[.int .i64 y0, .string y1] 92)) := by show _ = _; rw [hW5, heap_setCell_other _ _ _ _ HNv1v3.out]; exact HBv1_4.out
  have HBv2_5 : Hid ((w5).heap[qv2]? = some (.cells #[.int .i64 0, .string ⟨#[]⟩] 67)) := by show _ = _; rw [hW5, heap_setCell_other _ _ _ _ HNv2v3.out]; exact HBv2_4.out
  have HBv3_5 : Hid ((w5).heap[qv3]? = some (.cells #[.int .i64 y0, .string y1] 67)) := by show _ = _; rw [hW5]; have h := heap_set _ _ 1 _ _ _ (.string y1) HBv3_4.out; simpa using h
  clear hb4 HBv1_4 HBv2_4 HBv3_4 hW5
  clear cv1_1 cv3_1 fcv3_1
  have cv2_0 : (w5).cell? ⟨qv2, 0, none⟩ = some (.int .i64 0) := (cell_of HBv2_5.out 0).trans rfl
  have fcv2_0 : (w5).frozen? ⟨qv2, 0, none⟩ = false := frozen_of HBv2_5.out 0
  have cv2_1 : (w5).cell? ⟨qv2, 1, none⟩ = some (.string ⟨#[]⟩) := (cell_of HBv2_5.out 1).trans rfl
  have fcv2_1 : (w5).frozen? ⟨qv2, 1, none⟩ = false := frozen_of HBv2_5.out 1
  have cv3_0 : (w5).cell? ⟨qv3, 0, none⟩ = some (.int .i64 y0) := (cell_of HBv3_5.out 0).trans rfl
  have cv3_1 : (w5).cell? ⟨qv3, 1, none⟩ = some (.string y1) := (cell_of HBv3_5.out 1).trans rfl
  go_wp2_with fail
  obtain ⟨w6, hW6⟩ : ∃ W, W = (w5).setCell ⟨qv2, 0, none⟩ (.int .i64 y0) := ⟨_, rfl⟩
  rw [← hW6]
  have hb6 : Below w.heap.size w (w6) := by rw [hW6]; exact (hb5.setCell (p := ⟨qv2, 0, none⟩) HGv2.out _)
  have HM6 : Hid ((w5).heap.size ≤ w6.heap.size) := by show _ ≤ _; rw [hW6]; simp
  have HBv1_6 : Hid ((w6).heap[qv1]? = some (.cells #[.int .i64 y0, .string y1] 92)) := by show _ = _; rw [hW6, heap_setCell_other _ _ _ _ HNv1v2.out]; exact HBv1_5.out
  have HBv3_6 : Hid ((w6).heap[qv3]? = some (.cells #[.int .i64 y0, .string y1] 67)) := by show _ = _; rw [hW6, heap_setCell_other _ _ _ _ HNv2v3.out.symm]; exact HBv3_5.out
  have HBv2_6 : Hid ((w6).heap[qv2]? = some (.cells #[.int .i64 y0, .string ⟨#[]⟩] 67)) := by show _ = _; rw [hW6]; have h := heap_set _ _ 0 _ _ _ (.int .i64 y0) HBv2_5.out; simpa using h
  clear hb5 HBv1_5 HBv2_5 HBv3_5 hW6
  obtain ⟨w7, hW7⟩ : ∃ W, W = (w6).setCell ⟨qv2, 1, none⟩ (.string y1) := ⟨_, rfl⟩
  rw [← hW7]
  have hb7 : Below w.heap.size w (w7) := by rw [hW7]; exact (hb6.setCell (p := ⟨qv2, 1, none⟩) HGv2.out _)
  have HM7 : Hid ((w6).heap.size ≤ w7.heap.size) := by show _ ≤ _; rw [hW7]; simp
  have HBv1_7 : Hid ((w7).heap[qv1]? = some (.cells #[.int .i64 y0, .string y1] 92)) := by show _ = _; rw [hW7, heap_setCell_other _ _ _ _ HNv1v2.out]; exact HBv1_6.out
  have HBv3_7 : Hid ((w7).heap[qv3]? = some (.cells #[.int .i64 y0, .string y1] 67)) := by show _ = _; rw [hW7, heap_setCell_other _ _ _ _ HNv2v3.out.symm]; exact HBv3_6.out
  have HBv2_7 : Hid ((w7).heap[qv2]? = some (.cells #[.int .i64 y0, .string y1] 67)) := by show _ = _; rw [hW7]; have h := heap_set _ _ 1 _ _ _ (.string y1) HBv2_6.out; simpa using h
  clear hb6 HBv1_6 HBv2_6 HBv3_6 hW7
  have kv2_0 : (w7).cell? ⟨qv2, 0, none⟩ = some (.int .i64 y0) := (cell_of HBv2_7.out 0).trans rfl
  have kv2_1 : (w7).cell? ⟨qv2, 1, none⟩ = some (.string y1) := (cell_of HBv2_7.out 1).trans rfl
  refine bodyPost_ret (v := .agg #[.int .i64 y0, .string y1]) (by simp [results, Try.results71, go_sem, kv2_0, kv2_1]) rfl ?_
  exact ⟨rfl, hb7⟩

/-- The measure: negative, or the room that is left of L. -/
def SzWrite (L : Int) (y1 : ByteArray) (w : World) (e : Ending) (w' : World) : Prop := ∃ r : Int, e = .returned (.int .i64 r) ∧ r ≤ L ∧ (0 ≤ r → y1.size ≤ 1048576) ∧ Below w.heap.size w w'
set_option maxHeartbeats 8000000 in
set_option maxRecDepth 100000 in
theorem szWrite_any (L : Int) (hL0 : 0 ≤ L) (hL1 : L ≤ 1048576) (y0 : Int) (y1 : ByteArray) (w : World) (hy1 : y1.size ≤ maxLen) :
    Calls Try.prog 70 #[.agg #[.int .i64 y0, .string y1], .int .i64 L] w fun e w' => SzWrite L y1 w e w' := by
  unfold maxLen at hy1
  have hb0 : Below w.heap.size w w := Below.refl _ _
  go_enter Try.func70, Try.ntmps70
  go_upto_region 1 with fail
  obtain ⟨qv1, hqv1⟩ : ∃ q, q = (w).heap.size := ⟨_, rfl⟩
  obtain ⟨w1, hW1⟩ : ∃ W, W = (w).alloc (.cells #[.int .i64 y0, .string y1] 92) := ⟨_, rfl⟩
  have hz1 : (w).heap.size = qv1 := hqv1.symm
  first | rw [← hW1, ← hqv1] | rw [← hW1]
  have hs1 : w1.heap.size = qv1 + 1 := by rw [hW1, ← hz1]; simp
  have bw : Below (w).heap.size (w) w1 := by rw [hW1]; exact (Below.refl _ _).alloc (Nat.le_refl _) _
  have hb1 : Below w.heap.size w (w1) := hb0.trans (bw.mono hb0.size)
  have HM1 : Hid ((w).heap.size ≤ (w1).heap.size) := bw.size
  have HBv1_1 : Hid ((w1).heap[qv1]? = some (.cells #[.int .i64 y0, .string y1] 92)) := by show _ = _; rw [hW1, ← hz1]; exact heap_alloc_new _ _
  have HGv1 : Hid (w.heap.size ≤ qv1) := by show _ ≤ _; rw [← hz1]; exact hb0.size
  clear hb0 bw hW1 hz1
  clear hs1 hqv1
  have cv1_1 : (w1).cell? ⟨qv1, 1, none⟩ = some (.string y1) := (cell_of HBv1_1.out 1).trans rfl
  by_cases hc1 : (L - (y1.size : Int)) < 0
  · go_wp2_with fail
    go_ret
    exact ⟨-1, rfl, by omega, fun h => absurd h (by omega), hb1⟩
  · go_wp2_with fail
    go_ret
    exact ⟨_, rfl, by omega, fun _ => (by omega), hb1⟩

set_option maxHeartbeats 8000000 in
set_option maxRecDepth 100000 in
theorem eqWrite_any (y0 : Int) (y1 : ByteArray) (w : World) :
    Calls Try.prog 72 #[.agg #[.int .i64 y0, .string y1], .agg #[.int .i64 y0, .string y1]] w fun e w' => e = .returned (.bool true) ∧ Below w.heap.size w w' := by
  have hhy0 : (y0 != y0) = false := by simp
  have hhy1 : (y1.toList != y1.toList) = false := by simp
  have hb0 : Below w.heap.size w w := Below.refl _ _
  go_enter Try.func72, Try.ntmps72
  go_upto_region 1 with fail
  obtain ⟨qv1, hqv1⟩ : ∃ q, q = (w).heap.size := ⟨_, rfl⟩
  obtain ⟨w1, hW1⟩ : ∃ W, W = (w).alloc (.cells #[.int .i64 y0, .string y1] 67) := ⟨_, rfl⟩
  have hz1 : (w).heap.size = qv1 := hqv1.symm
  first | rw [← hW1, ← hqv1] | rw [← hW1]
  have hs1 : w1.heap.size = qv1 + 1 := by rw [hW1, ← hz1]; simp
  have bw : Below (w).heap.size (w) w1 := by rw [hW1]; exact (Below.refl _ _).alloc (Nat.le_refl _) _
  have hb1 : Below w.heap.size w (w1) := hb0.trans (bw.mono hb0.size)
  have HM1 : Hid ((w).heap.size ≤ (w1).heap.size) := bw.size
  have HBv1_1 : Hid ((w1).heap[qv1]? = some (.cells #[.int .i64 y0, .string y1] 67)) := by show _ = _; rw [hW1, ← hz1]; exact heap_alloc_new _ _
  have HGv1 : Hid (w.heap.size ≤ qv1) := by show _ ≤ _; rw [← hz1]; exact hb0.size
  clear hb0 bw hW1 hz1
  obtain ⟨qv2, hqv2⟩ : ∃ q, q = qv1 + 1 := ⟨_, rfl⟩
  obtain ⟨w2, hW2⟩ : ∃ W, W = (w1).alloc (.cells #[.int .i64 y0, .string y1] 67) := ⟨_, rfl⟩
  have hz2 : (w1).heap.size = qv2 := by rw [hqv2]; exact hs1
  first | rw [← hW2, ← hqv2] | rw [← hW2]
  have hs2 : w2.heap.size = qv2 + 1 := by rw [hW2, ← hz2]; simp
  have bw : Below (w1).heap.size (w1) w2 := by rw [hW2]; exact (Below.refl _ _).alloc (Nat.le_refl _) _
  have hb2 : Below w.heap.size w (w2) := hb1.trans (bw.mono hb1.size)
  have HM2 : Hid ((w1).heap.size ≤ (w2).heap.size) := bw.size
  have HBv1_2 : Hid ((w2).heap[qv1]? = some (.cells #[.int .i64 y0, .string y1] 67)) := blk_below HBv1_1.out bw
  have HNv1v2 : Hid (qv1 ≠ qv2) := fun e => by have h1 := (Array.getElem?_eq_some_iff.1 HBv1_1.out).1; omega
  have HBv2_2 : Hid ((w2).heap[qv2]? = some (.cells #[.int .i64 y0, .string y1] 67)) := by show _ = _; rw [hW2, ← hz2]; exact heap_alloc_new _ _
  have HGv2 : Hid (w.heap.size ≤ qv2) := by show _ ≤ _; rw [← hz2]; exact hb1.size
  clear hb1 HBv1_1 bw hW2 hz2
  clear hs2 hqv2 hs1 hqv1
  have cv1_0 : (w2).cell? ⟨qv1, 0, none⟩ = some (.int .i64 y0) := (cell_of HBv1_2.out 0).trans rfl
  have cv2_0 : (w2).cell? ⟨qv2, 0, none⟩ = some (.int .i64 y0) := (cell_of HBv2_2.out 0).trans rfl
  have cv1_1 : (w2).cell? ⟨qv1, 1, none⟩ = some (.string y1) := (cell_of HBv1_2.out 1).trans rfl
  have cv2_1 : (w2).cell? ⟨qv2, 1, none⟩ = some (.string y1) := (cell_of HBv2_2.out 1).trans rfl
  go_wp2_with fail
  go_ret
  exact ⟨rfl, hb2⟩

end Go.Proofs.Ytckjbgpdbehmaaa

namespace Go.Proofs.Ytckjbgpdbehmaaa
open Go.RowKit
open Go.Lib hiding intOf

theorem owns_put {w : World} {base : Nat} {t : TypeId} {size g n cap : Nat} {xs : List Value} (h : w.ownsRow base t size (.slice (some ⟨g, 0, none⟩) n cap) n xs) (o : Nat) (u : Value) : (w.setCell ⟨g, o, none⟩ u).ownsRow base t size (.slice (some ⟨g, 0, none⟩) n cap) n (xs.set o u) := by
  obtain ⟨hl, hv⟩ := h
  refine ⟨by simpa using hl, ?_⟩
  rcases hv with ⟨e, _⟩ | ⟨g', cap', cur, e, h1, h2, h3, h4, h5, h6⟩
  · cases e
  · cases e
    refine .inr ⟨g, cap, _, rfl, h1, heap_set w g o cur t (0, 0) u h2, h3, h4, by simpa using h5, ?_⟩
    rw [Array.toList_setIfInBounds, List.take_set, h6]
theorem owns_at {w : World} {base : Nat} {t : TypeId} {size g n cap : Nat} {xs : List Value} (h : w.ownsRow base t size (.slice (some ⟨g, 0, none⟩) n cap) n xs) (o : Nat) (u : Value) (ho : xs[o]? = some u) : w.cell? ⟨g, o, none⟩ = some u ∧ w.frozen? ⟨g, o, none⟩ = false := by
  obtain ⟨hl, hv⟩ := h
  rcases hv with ⟨e, _⟩ | ⟨g', cap', cur, e, h1, h2, h3, h4, h5, h6⟩
  · cases e
  · cases e
    refine ⟨?_, by simp [World.frozen?, h2]⟩
    rw [← h6, List.getElem?_take] at ho
    split at ho
    · simpa [World.cell?, h2] using ho
    · cases ho
theorem owns_some {w : World} {base : Nat} {t : TypeId} {size n cap : Nat} {oa : Option Addr} {xs : List Value} (h : w.ownsRow base t size (.slice oa n cap) n xs) (hn : 0 < n) : ∃ g, oa = some ⟨g, 0, none⟩ := by
  rcases h.2 with ⟨e, h0⟩ | ⟨g, cap', cur, e, _⟩
  · omega
  · cases e; exact ⟨g, rfl⟩

end Go.Proofs.Ytckjbgpdbehmaaa

namespace Go.Proofs.Ytckjbgpdbehmaaa
open Go.RowKit
open Go.Lib hiding intOf

/-- The i-th of a list. -/
def writeAt (l : List (Int × ByteArray)) (i : Nat) : (Int × ByteArray) := l.getD i (0, ⟨#[]⟩)
/-- Its cells. -/
def writeEnc (x : (Int × ByteArray)) : List Value := [.int .i64 x.1, .string x.2]
def flatWrite (l : List (Int × ByteArray)) : List Value := l.flatMap writeEnc
theorem flatWrite_len (l : List (Int × ByteArray)) : (flatWrite l).length = l.length * 2 := by
  induction l with
  | nil => rfl
  | cons f r ih => simp only [flatWrite, writeEnc, List.flatMap_cons, List.length_append, List.length_cons, List.length_nil] at ih ⊢; omega
theorem flatWrite_get : ∀ (l : List (Int × ByteArray)) (i : Nat), i < l.length → (flatWrite l)[i * 2]? = some (.int .i64 ((writeAt l i).1)) ∧ (flatWrite l)[i * 2 + 1]? = some (.string ((writeAt l i).2))
  | [], i, h => by simp at h
  | f :: r, 0, _ => by simp [flatWrite, writeEnc, writeAt]
  | f :: r, i + 1, h => by
    have ih := flatWrite_get r i (by simpa using h)
    have e : flatWrite (f :: r) = writeEnc f ++ flatWrite r := rfl
    have hl : (writeEnc f).length = 2 := rfl
    have h2 : writeAt (f :: r) (i + 1) = writeAt r i := by simp [writeAt]
    have key : ∀ j, (flatWrite (f :: r))[i * 2 + 2 + j]? = (flatWrite r)[i * 2 + j]? := fun j => by
      rw [e, List.getElem?_append_right (by rw [hl]; omega), hl]; congr 1; omega
    rw [h2]
    refine ⟨(by rw [show (i + 1) * 2 = i * 2 + 2 + 0 by omega, key]; exact ih.1), (by rw [show (i + 1) * 2 + 1 = i * 2 + 2 + 1 by omega, key]; exact ih.2)⟩
theorem writeAt_mem (l : List (Int × ByteArray)) (i : Nat) (h : i < l.length) : writeAt l i ∈ l := by
  unfold writeAt
  rw [List.getD_eq_getElem?_getD, List.getElem?_eq_getElem h]
  exact List.getElem_mem h
theorem take_writeAt (l : List (Int × ByteArray)) (i : Nat) (h : i < l.length) : l.take (i + 1) = l.take i ++ [writeAt l i] := by
  unfold writeAt
  rw [List.getD_eq_getElem?_getD, List.getElem?_eq_getElem h, List.take_succ_eq_append_getElem h]
  rfl
/-- A list that is read: its cells in a block that is there. -/
def WriteA (w : World) (oa : Option Addr) (n : Nat) (l : List (Int × ByteArray)) : Prop :=
  l.length = n ∧ ∀ i, i < n → ∃ g, oa = some ⟨g, 0, none⟩ ∧ g < w.heap.size ∧ w.cell? ⟨g, i * 2, none⟩ = some (.int .i64 ((writeAt l i).1)) ∧ w.cell? ⟨g, i * 2 + 1, none⟩ = some (.string ((writeAt l i).2))
theorem WriteA.below {w W : World} {oa : Option Addr} {n : Nat} {l : List (Int × ByteArray)} (h : WriteA w oa n l) (hb : Below w.heap.size w W) : WriteA W oa n l :=
  ⟨h.1, fun i hi => by
    obtain ⟨g, h1, h2, r0, r1⟩ := h.2 i hi
    exact ⟨g, h1, Nat.lt_of_lt_of_le h2 hb.size, by rw [hb.cell (p := ⟨g, i * 2, none⟩) h2]; exact r0, by rw [hb.cell (p := ⟨g, i * 2 + 1, none⟩) h2]; exact r1⟩⟩
/-- A list that came in, in blocks below B. -/
def ArgWrite (w : World) (B : Nat) (a : Option Addr) (n : Nat) (l : List (Int × ByteArray)) : Prop :=
  l.length = n ∧ ∀ i, i < n → ∃ b off, a = some ⟨b, off, none⟩ ∧ b < B ∧ w.cell? ⟨b, off + i * 2, none⟩ = some (.int .i64 ((writeAt l i).1)) ∧ w.cell? ⟨b, off + i * 2 + 1, none⟩ = some (.string ((writeAt l i).2))
theorem ArgWrite.below {w w' : World} {B : Nat} {a : Option Addr} {n : Nat} {l : List (Int × ByteArray)} (h : ArgWrite w B a n l) (hb : Below B w w') : ArgWrite w' B a n l :=
  ⟨h.1, fun i hi => by
    obtain ⟨b, off, h1, h2, r0, r1⟩ := h.2 i hi
    exact ⟨b, off, h1, h2, by rw [hb.cell (p := ⟨b, off + i * 2, none⟩) h2]; exact r0, by rw [hb.cell (p := ⟨b, off + i * 2 + 1, none⟩) h2]; exact r1⟩⟩
/-- The first k of a row of 2 n cells are told. -/
def PartWrite (w : World) (g n k : Nat) (l : List (Int × ByteArray)) : Prop :=
  ∃ cur, w.heap[g]? = some (.cells cur 67 (0, 0)) ∧ cur.size = n * 2 ∧ ∀ i, i < k → cur[i * 2]? = some (.int .i64 ((writeAt l i).1)) ∧ cur[i * 2 + 1]? = some (.string ((writeAt l i).2))
theorem PartWrite.below {w w' : World} {g n k B : Nat} {l : List (Int × ByteArray)} (h : PartWrite w g n k l) (hb : Below B w w') (hB : g < B) : PartWrite w' g n k l := by
  obtain ⟨cur, h1, h2⟩ := h
  exact ⟨cur, by rw [hb.block g hB]; exact h1, h2⟩
theorem PartWrite.lt {w : World} {g n k : Nat} {l : List (Int × ByteArray)} (h : PartWrite w g n k l) : g < w.heap.size := by
  obtain ⟨cur, h1, _⟩ := h
  exact (Array.getElem?_eq_some_iff.1 h1).1
theorem PartWrite.cell {w : World} {g n k : Nat} {l : List (Int × ByteArray)} (h : PartWrite w g n k l) (j : Nat) (hj : j < n * 2) : ∃ u, w.cell? ⟨g, j, none⟩ = some u := by
  obtain ⟨cur, h1, h2, _⟩ := h
  refine ⟨cur[j]'(by omega), ?_⟩
  simp only [World.cell?, h1]
  simp [show j < cur.size by omega]
theorem PartWrite.frozen {w : World} {g n k : Nat} {l : List (Int × ByteArray)} (h : PartWrite w g n k l) (j : Nat) : w.frozen? ⟨g, j, none⟩ = false := by
  obtain ⟨cur, h1, _⟩ := h
  simp [World.frozen?, h1]

theorem PartWrite.put {w : World} {g n k : Nat} {l : List (Int × ByteArray)} (h : PartWrite w g n k l) (hk : k < n) : PartWrite ((w.setCell ⟨g, k * 2, none⟩ (.int .i64 (writeAt l k).1)).setCell ⟨g, k * 2 + 1, none⟩ (.string (writeAt l k).2)) g n (k + 1) l := by
  obtain ⟨cur, h1, h2, h3⟩ := h
  refine ⟨_, heap_set _ g (k * 2 + 1) _ _ _ _ (heap_set _ g (k * 2) _ _ _ _ h1), by simpa using h2, ?_⟩
  intro i hi
  by_cases e : i = k
  · subst e
    exact ⟨by rw [Array.getElem?_setIfInBounds_ne (by omega), Array.getElem?_setIfInBounds_self_of_lt (by first | omega | (simp; omega))], by rw [Array.getElem?_setIfInBounds_self_of_lt (by first | omega | (simp; omega))]⟩
  · have := h3 i (by omega)
    exact ⟨by rw [Array.getElem?_setIfInBounds_ne (by omega), Array.getElem?_setIfInBounds_ne (by omega)]; exact this.1, by rw [Array.getElem?_setIfInBounds_ne (by omega), Array.getElem?_setIfInBounds_ne (by omega)]; exact this.2⟩
theorem PartWrite.owns {w : World} {g n : Nat} {l : List (Int × ByteArray)} (h : PartWrite w g n n l) (hl : l.length = n) (hm : n ≤ maxLen) {base : Nat} (hb : base ≤ g) : w.ownsRow base 67 2 (.slice (some ⟨g, 0, none⟩) n n) n (flatWrite l) := by
  obtain ⟨cur, hg, hs, hc⟩ := h
  refine ⟨by rw [flatWrite_len, hl], .inr ⟨g, n, cur, rfl, hb, hg, Nat.le_refl _, hm, hs, ?_⟩⟩
  apply List.ext_getElem?
  intro j
  rw [List.getElem?_take]
  by_cases hj : j < n * 2
  · rw [if_pos hj]
    have hf := flatWrite_get l (j / 2) (by omega)
    have hcc := hc (j / 2) (by omega)
    have hr : j = (j / 2) * 2 ∨ j = (j / 2) * 2 + 1 := by omega
    rcases hr with e | e
    · have e2 := hf.1
      have e3 := hcc.1
      rw [← e] at e2 e3
      rw [e2]; simpa using e3
    · have e2 := hf.2
      have e3 := hcc.2
      rw [← e] at e2 e3
      rw [e2]; simpa using e3
  · rw [if_neg hj, List.getElem?_eq_none (by rw [flatWrite_len]; omega)]
/-- An owned list can be read. -/
theorem write_view {w : World} {base n cap : Nat} {oa : Option Addr} {l : List (Int × ByteArray)} (h : w.ownsRow base 67 2 (.slice oa n cap) n (flatWrite l)) : WriteA w oa n l := by
  obtain ⟨hl, hv⟩ := h
  rw [flatWrite_len] at hl
  refine ⟨by omega, fun i hi => ?_⟩
  rcases hv with ⟨e, h0⟩ | ⟨g, cap, cur, e, hb, hg, hn, hm, hcs, htk⟩
  · omega
  · cases e
    have hf := flatWrite_get l i (by omega)
    rw [← htk] at hf
    simp only [List.getElem?_take] at hf
    rw [if_pos (by omega), if_pos (by omega)] at hf
    refine ⟨g, rfl, (Array.getElem?_eq_some_iff.1 hg).1, by simp only [World.cell?, hg]; simpa using hf.1, by simp only [World.cell?, hg]; simpa using hf.2⟩
theorem write_len {w : World} {base n : Nat} {v : Value} {l : List (Int × ByteArray)} (h : w.ownsRow base 67 2 v n (flatWrite l)) : l.length = n := by
  have := h.1
  rw [flatWrite_len] at this
  omega
theorem infoWrite : (Try.prog.info? 67).map (fun i => (i.zero, i.size, i.bytes)) = some (some (.agg #[.int .i64 0, .string ⟨#[]⟩]), 2, 24) := by kernel_rfl

/-- The measure is negative, or what is left of L. -/
def SzWriteS (L : Int) (n : Nat) (l : List (Int × ByteArray)) (w : World) (e : Ending) (w' : World) : Prop :=
  ∃ r : Int, e = .returned (.int .i64 r) ∧ r ≤ L ∧ (0 ≤ r → n ≤ 1048576 ∧ ∀ x ∈ l, (x.2).size ≤ 1048576) ∧ Below w.heap.size w w'
set_option maxHeartbeats 4000000 in
set_option maxRecDepth 100000 in
theorem szWriteS_any (L : Int) (hL0 : 0 ≤ L) (hL1 : L ≤ 1048576) (B : Nat) (a : Option Addr) (n cap : Nat) (l : List (Int × ByteArray)) (w : World) (harg : ArgWrite w B a n l) (hB : B ≤ w.heap.size) (hn : n ≤ maxLen) (hsz : ∀ x ∈ l, (x.2).size ≤ maxLen) :
    Calls Try.prog 56 #[.slice a n cap, .int .i64 L] w fun e w' => SzWriteS L n l w e w' := by
  unfold maxLen at hn
  have HS : Hid (∀ x ∈ l, (x.2).size ≤ maxLen) := hsz
  have HLN : Hid (l.length = n) := harg.1
  have HA : Hid (∀ W, Below w.heap.size w W → ArgWrite W B a n l) := fun W h => harg.below (h.mono hB)
  clear hsz harg
  by_cases c1 : L - (n : Int) < 0
  · go_enter Try.func56, Try.ntmps56
    go_wp2
    go_ret
    exact ⟨-1, rfl, by omega, fun h => absurd h (by omega), Below.refl _ _⟩
  · go_enter Try.func56, Try.ntmps56
    go_wp2
    go_loopw [1, 5] (fun lf i wr => ∃ (k : Nat) (x : Int), k ≤ n ∧ i = .int .i64 (k : Int) ∧ lf = .int .i64 x ∧ 0 ≤ x ∧ x ≤ L ∧ Hid (∀ x ∈ l.take k, (x.2).size ≤ 1048576) ∧ Hid (Below w.heap.size w wr)) (fun _ i _ => n - (intOf i).toNat)
    case atStart => exact ⟨0, _, Nat.zero_le _, rfl, rfl, by omega, by omega, fun x hx => by simp at hx, Below.refl _ _⟩
    case round =>
      obtain ⟨k, x, hk, rfl, rfl, hx0, hx1, HX, HBW⟩ := hrel
      by_cases hlt : k < n
      · have hlt2 : (k : Int) < (n : Int) := by omega
        obtain ⟨b, off, rfl, hbB, r0, r1⟩ := (HA.out wr HBW.out).2 k hlt
        obtain ⟨y, hy⟩ : ∃ y, y = writeAt l k := ⟨_, rfl⟩
        have HM : Hid (y ∈ l) := by show _ ∈ _; rw [hy]; exact writeAt_mem l k (by rw [HLN.out]; exact hlt)
        have HTK : Hid (l.take (k + 1) = l.take k ++ [y]) := by show _ = _; rw [hy]; exact take_writeAt l k (by rw [HLN.out]; exact hlt)
        have s1 := HS.out y HM.out
        rw [← hy] at r0 r1
        clear hy
        obtain ⟨y0, y1⟩ := y
        go_wp2_with fail
        refine (szWrite_any x hx0 (by omega) y0 y1 _ s1).mono ?_
        rintro e w1 ⟨r, rfl, hr1, hr2, bw⟩
        have HB2 : Hid (Below w.heap.size w w1) := HBW.out.trans (bw.mono HBW.out.size)
        clear r0 r1 bw
        by_cases d1 : r < 0
        · clear hr2
          go_wp2
          go_ret
          exact ⟨-1, rfl, by omega, fun h => absurd h (by omega), HB2.out⟩
        · have HX2 : Hid (∀ x ∈ l.take (k + 1), (x.2).size ≤ 1048576) := fun x hx => by
            rw [HTK.out] at hx
            rcases List.mem_append.1 hx with hx | hx
            · exact HX.out x hx
            · rw [List.mem_singleton.1 hx]; exact hr2 (by omega)
          clear hr2
          go_wp2
          go_roundw
          case rel => exact ⟨k + 1, r, by omega, by go_num, rfl, by omega, by omega, HX2, HB2⟩
          case measure => simp [intOf]; omega
      · have HF : Hid (n ≤ 1048576 ∧ ∀ x ∈ l, (x.2).size ≤ 1048576) := ⟨by omega, fun x hx => HX.out x (by rw [List.take_of_length_le (by rw [HLN.out]; omega)]; exact hx)⟩
        go_wp2
        go_ret
        exact ⟨x, rfl, by omega, fun _ => HF.out, HBW.out⟩

set_option maxHeartbeats 4000000 in
set_option maxRecDepth 100000 in
theorem toWriteS_any (B : Nat) (a : Option Addr) (n cap : Nat) (l : List (Int × ByteArray)) (w : World) (harg : ArgWrite w B a n l) (hB : B ≤ w.heap.size) (hn : n ≤ 1048576) :
    Calls Try.prog 58 #[.slice a n cap] w fun e w' => ∃ v, e = .returned v ∧ w'.ownsRow w.heap.size 67 2 v n (flatWrite l) ∧ Below w.heap.size w w' := by
  obtain ⟨i0, hi, hz0, hz1, hz2⟩ := info_parts infoWrite
  obtain ⟨M, hM⟩ : ∃ M, M = madeCells (Value.agg #[.int .i64 0, .string ⟨#[]⟩]).cells (((n : Nat) : Int).toNat * i0.size) := ⟨_, rfl⟩
  have hmk : ∀ W : World, (Instr.makeSlice 25 (.int .i64 (n : Int)) (.int .i64 (n : Int))).run Try.prog W = .ok (.slice (some ⟨W.heap.size, 0, none⟩) n n) (W.alloc (.cells M 67)) := fun W => by
    have h := run_make (P := Try.prog) W 25 67 i0 (.agg #[.int .i64 0, .string ⟨#[]⟩]) Try.underlying25 hi hz0 .i64 .i64 (n : Int) (n : Int) (by omega) (by omega) (by rw [hz2]; omega) (by omega)
    rw [← hM] at h
    simpa using h
  have hMs : M.size = n * 2 := by rw [hM, size_madeCells, hz1]; simp
  have HLN : Hid (l.length = n) := harg.1
  have HA : Hid (∀ W, Below w.heap.size w W → ArgWrite W B a n l) := fun W h => harg.below (h.mono hB)
  clear hM harg
  have HP : Hid (PartWrite (w.alloc (.cells M 67)) w.heap.size n 0 l) := ⟨M, heap_alloc_new w _, hMs, fun i h => absurd h (by omega)⟩
  go_enter Try.func58, Try.ntmps58
  go_wp2
  go_loopw [4] (fun i wr => ∃ k : Nat, k ≤ n ∧ i = .int .i64 (k : Int) ∧ Hid (PartWrite wr w.heap.size n k l) ∧ Hid (Below w.heap.size w wr)) (fun i _ => n - (intOf i).toNat)
  case atStart => exact ⟨0, Nat.zero_le _, rfl, HP, (Below.refl _ _).alloc (Nat.le_refl _) _⟩
  case round =>
    obtain ⟨k, hk, rfl, hpr, HBW⟩ := hrel
    by_cases hlt : k < n
    · have hlt2 : (k : Int) < (n : Int) := by omega
      obtain ⟨b, off, rfl, hbB, r0, r1⟩ := (HA.out wr HBW.out).2 k hlt
      obtain ⟨y, hy⟩ : ∃ y, y = writeAt l k := ⟨_, rfl⟩
      rw [← hy] at r0 r1
      have HY : Hid (writeAt l k = y) := hy.symm
      clear hy
      obtain ⟨y0, y1⟩ := y
      go_wp2_with fail
      refine (toWrite_any y0 y1 _).mono ?_
      rintro e w1 ⟨rfl, bw⟩
      have hpr1 := hpr.out.below bw hpr.out.lt
      have HB2 : Hid (Below w.heap.size w w1) := HBW.out.trans (bw.mono HBW.out.size)
      obtain ⟨u0, hu0⟩ := hpr1.cell (k * 2) (by omega)
      have f0 := hpr1.frozen (k * 2)
      obtain ⟨u1, hu1⟩ := hpr1.cell (k * 2 + 1) (by omega)
      have f1 := hpr1.frozen (k * 2 + 1)
      have hput := hpr1.put hlt
      rw [HY.out] at hput
      have HPUT : Hid _ := hput
      clear hput r0 r1 bw
      go_wp2
      go_roundw
      case rel => exact ⟨k + 1, by omega, by go_num, HPUT, (HB2.out.setCell (Nat.le_refl _) _).setCell (Nat.le_refl _) _⟩
      case measure => simp [intOf]; omega
    · obtain rfl : k = n := by omega
      go_wp2
      go_ret
      exact ⟨_, rfl, hpr.out.owns HLN.out (by unfold maxLen; omega) (Nat.le_refl _), HBW.out⟩

set_option maxHeartbeats 4000000 in
set_option maxRecDepth 100000 in
theorem eqWriteS_any (o1 o2 : Option Addr) (n c1 c2 : Nat) (l : List (Int × ByteArray)) (w : World) (h1 : WriteA w o1 n l) (h2 : WriteA w o2 n l) (hn : n ≤ 2000000) :
    Calls Try.prog 60 #[.slice o1 n c1, .slice o2 n c2] w fun e w' => e = .returned (.bool true) ∧ Below w.heap.size w w' := by
  have H1 : Hid (∀ W, Below w.heap.size w W → WriteA W o1 n l) := fun W h => h1.below h
  have H2 : Hid (∀ W, Below w.heap.size w W → WriteA W o2 n l) := fun W h => h2.below h
  clear h1 h2
  go_enter Try.func60, Try.ntmps60
  go_wp2
  go_loopw [5] (fun i wr => ∃ k : Nat, k ≤ n ∧ i = .int .i64 (k : Int) ∧ Hid (Below w.heap.size w wr)) (fun i _ => n - (intOf i).toNat)
  case atStart => exact ⟨0, Nat.zero_le _, rfl, Below.refl _ _⟩
  case round =>
    obtain ⟨k, hk, rfl, HBW⟩ := hrel
    by_cases hlt : k < n
    · have hlt2 : (k : Int) < (n : Int) := by omega
      obtain ⟨y, hy⟩ : ∃ y, y = writeAt l k := ⟨_, rfl⟩
      obtain ⟨g1, rfl, hg1, a0, a1⟩ := (H1.out wr HBW.out).2 k hlt
      obtain ⟨g2, rfl, hg2, b0, b1⟩ := (H2.out wr HBW.out).2 k hlt
      rw [← hy] at a0 b0 a1 b1
      clear hy
      obtain ⟨y0, y1⟩ := y
      have HA : Hid (∀ w0 w1, Below wr.heap.size wr w0 → Below w0.heap.size w0 w1 → (w1.cell? ⟨g1, k * 2, none⟩ = some (.int .i64 y0) ∧ w1.cell? ⟨g1, k * 2 + 1, none⟩ = some (.string y1) ∧ w1.cell? ⟨g2, k * 2, none⟩ = some (.int .i64 y0) ∧ w1.cell? ⟨g2, k * 2 + 1, none⟩ = some (.string y1)) ∧ Below wr.heap.size wr w1) := fun w0 w1 h h' => by
        have hx := h.trans (h'.mono h.size)
        exact ⟨⟨by rw [hx.cell (p := ⟨g1, k * 2, none⟩) hg1]; exact a0, by rw [hx.cell (p := ⟨g1, k * 2 + 1, none⟩) hg1]; exact a1, by rw [hx.cell (p := ⟨g2, k * 2, none⟩) hg2]; exact b0, by rw [hx.cell (p := ⟨g2, k * 2 + 1, none⟩) hg2]; exact b1⟩, hx⟩
      go_wp2
      go_region_held3 (fun w' => w'.cell? ⟨g1, k * 2, none⟩ = some (.int .i64 y0) ∧ w'.cell? ⟨g1, k * 2 + 1, none⟩ = some (.string y1) ∧ w'.cell? ⟨g2, k * 2, none⟩ = some (.int .i64 y0) ∧ w'.cell? ⟨g2, k * 2 + 1, none⟩ = some (.string y1)) (first | assumption | go_keep) (first | (go_at_call 72; refine (eqWrite_any _ _ _).mono ?_; rintro e w1 ⟨rfl, hb1⟩; obtain ⟨hcc, hbx⟩ := HA.out _ w1 ((Below.refl _ wr).drew) hb1))
      go_wp2
      go_roundw
      case rel => exact ⟨k + 1, by omega, by go_num, HBW.out.trans (hbx.mono HBW.out.size)⟩
      case measure => simp [intOf]; omega
    · go_wp2
      go_ret
      exact ⟨rfl, HBW.out⟩

theorem flatWrite_set : ∀ (l : List (Int × ByteArray)) (i : Nat) (x : (Int × ByteArray)), i < l.length → flatWrite (l.set i x) = ((flatWrite l).set (i * 2) (.int .i64 x.1)).set (i * 2 + 1) (.string x.2)
  | [], i, x, h => by simp at h
  | f :: r, 0, x, _ => rfl
  | f :: r, i + 1, x, h => by
    have ih := flatWrite_set r i x (by simpa using h)
    have e : ∀ (m : List Value) (o : Nat) (u : Value), (writeEnc f ++ m).set (2 + o) u = writeEnc f ++ m.set o u := fun m o u => by rw [Nat.add_comm]; rfl
    have e0 : flatWrite (f :: r) = writeEnc f ++ flatWrite r := rfl
    have e1 : flatWrite ((f :: r).set (i + 1) x) = writeEnc f ++ flatWrite (r.set i x) := rfl
    rw [e1, ih, e0, show (i + 1) * 2 = 2 + i * 2 by omega, show 2 + i * 2 + 1 = 2 + (i * 2 + 1) by omega, e, e]
theorem writeAt_set (l : List (Int × ByteArray)) (k j : Nat) (x : (Int × ByteArray)) (hk : k < l.length) : writeAt (l.set k x) j = if j = k then x else writeAt l j := by
  unfold writeAt
  rw [List.getD_eq_getElem?_getD, List.getElem?_set, List.getD_eq_getElem?_getD]
  by_cases h : j = k
  · subst h; simp [hk]
  · rw [if_neg h, if_neg (fun e => h e.symm)]
/-- The list with its first k marked, from k0 on. -/
def mkWrite (k0 : Nat) (l : List (Int × ByteArray)) : Nat → List (Int × ByteArray)
  | 0 => l
  | k + 1 => (mkWrite k0 l k).set k (((k0 + 2 * k + 0 : Nat) : Int), (markOf (k0 + 2 * k + 1)))
theorem mkWrite_len (k0 : Nat) (l : List (Int × ByteArray)) : ∀ k, (mkWrite k0 l k).length = l.length
  | 0 => rfl
  | k + 1 => by rw [mkWrite, List.length_set, mkWrite_len k0 l k]
theorem mkWrite_at (k0 : Nat) (l : List (Int × ByteArray)) (j : Nat) : ∀ k, k ≤ l.length → j < k → writeAt (mkWrite k0 l k) j = (((k0 + 2 * j + 0 : Nat) : Int), (markOf (k0 + 2 * j + 1))) := by
  intro k
  induction k with
  | zero => intro _ h; omega
  | succ k ih =>
    intro hk h
    rw [mkWrite, writeAt_set _ _ _ _ (by rw [mkWrite_len]; omega)]
    by_cases e : j = k
    · subst e; rw [if_pos rfl]
    · rw [if_neg e]; exact ih (by omega) (by omega)

set_option maxHeartbeats 4000000 in
set_option maxRecDepth 100000 in
theorem markWriteS_any (oa : Option Addr) (n cap base : Nat) (l : List (Int × ByteArray)) (w : World) (h1 : w.ownsRow base 67 2 (.slice oa n cap) n (flatWrite l)) (hb : base ≤ w.heap.size) (k0 : Nat) (hk0 : 1 ≤ k0) (hn : k0 + 2 * n ≤ 9999999) :
    Calls Try.prog 62 #[.slice oa n cap, .int .i64 (k0 : Int)] w fun e w' => e = .returned (.int .i64 ((k0 : Int) + 2 * (n : Int))) ∧ w'.ownsRow base 67 2 (.slice oa n cap) n (flatWrite (mkWrite k0 l n)) ∧ Below base w w' ∧ Far (.slice oa n cap) w w' := by
  have HLN : Hid (l.length = n) := write_len h1
  have H1 : Hid (w.ownsRow base 67 2 (.slice oa n cap) n (flatWrite l)) := h1
  clear h1
  go_enter Try.func62, Try.ntmps62
  go_wp2
  go_loopw [1, 5] (fun q i wr => ∃ k : Nat, k ≤ n ∧ i = .int .i64 (k : Int) ∧ q = .int .i64 ((k0 : Int) + 2 * (k : Int)) ∧ Hid (Below base w wr) ∧ Hid (wr.ownsRow base 67 2 (.slice oa n cap) n (flatWrite (mkWrite k0 l k))) ∧ Hid (∀ j, j < w.heap.size → (Value.slice oa n cap).ownBlock ≠ some j → wr.heap[j]? = w.heap[j]?)) (fun _ i _ => n - (intOf i).toNat)
  case atStart => exact ⟨0, Nat.zero_le _, rfl, by simp, Below.refl _ _, H1, fun j _ _ => rfl⟩
  case round =>
    obtain ⟨k, hk, rfl, rfl, HB, HO, HF⟩ := hrel
    by_cases hlt : k < n
    · have hlt2 : (k : Int) < (n : Int) := by omega
      obtain ⟨g, rfl⟩ := owns_some H1.out (by omega)
      have HG : Hid (base ≤ g) := owns_ge H1.out rfl
      have q0 := (flatWrite_get (mkWrite k0 l k) k (by rw [mkWrite_len, HLN.out]; exact hlt)).1
      have HQ0 : Hid _ := q0
      clear q0
      have q1 := (flatWrite_get (mkWrite k0 l k) k (by rw [mkWrite_len, HLN.out]; exact hlt)).2
      have HQ1 : Hid _ := q1
      clear q1
      obtain ⟨c0, f0⟩ := owns_at HO.out (k * 2) _ (by exact HQ0.out)
      have hk_0 : (k0 : Int) + 2 * (k : Int) = ((k0 + 2 * k + 0 : Nat) : Int) := by omega
      rw [hk_0]
      clear hk_0
      have HO0 : Hid ((((wr).setCell ⟨g, k * 2, none⟩ (.int .i64 ((k0 + 2 * k + 0 : Nat) : Int)))).ownsRow base 67 2 (.slice (some ⟨g, 0, none⟩) n cap) n ((flatWrite (mkWrite k0 l k)).set (k * 2) (.int .i64 ((k0 + 2 * k + 0 : Nat) : Int)))) := owns_put HO.out _ _
      have HB0 : Hid (Below base w ((wr).setCell ⟨g, k * 2, none⟩ (.int .i64 ((k0 + 2 * k + 0 : Nat) : Int)))) := HB.out.setCell (p := ⟨g, k * 2, none⟩) HG.out _
      have HF0 : Hid (∀ j, j < w.heap.size → (Value.slice (some ⟨g, 0, none⟩) n cap).ownBlock ≠ some j → (((wr).setCell ⟨g, k * 2, none⟩ (.int .i64 ((k0 + 2 * k + 0 : Nat) : Int)))).heap[j]? = w.heap[j]?) := fun j hj hne => (heap_setCell_other _ _ j _ (fun e => hne (by rw [e]; rfl))).trans (HF.out j hj hne)
      go_wp2_with fail
      refine (markText_int _ (k0 + 2 * k + 1) _ (by omega) (by omega) (by omega)).mono ?_
      rintro e u1 ⟨rfl, bw1⟩
      have HO1b : Hid ((u1).ownsRow base 67 2 (.slice (some ⟨g, 0, none⟩) n cap) n ((flatWrite (mkWrite k0 l k)).set (k * 2) (.int .i64 ((k0 + 2 * k + 0 : Nat) : Int)))) := owns_below HO0.out bw1 (fun g hg => owns_lt HO0.out hg)
      have HB1b : Hid (Below base w u1) := HB0.out.trans (bw1.mono (Nat.le_trans hb HB0.out.size))
      have HF1b : Hid (∀ j, j < w.heap.size → (Value.slice (some ⟨g, 0, none⟩) n cap).ownBlock ≠ some j → (u1).heap[j]? = w.heap[j]?) := fun j hj hne => (bw1.block j (Nat.lt_of_lt_of_le hj HB0.out.size)).trans (HF0.out j hj hne)
      clear bw1 c0 f0
      obtain ⟨c1, f1⟩ := owns_at HO1b.out (k * 2 + 1) _ (by rw [List.getElem?_set_ne (by omega)]; exact HQ1.out)
      have HO1 : Hid ((((u1).setCell ⟨g, k * 2 + 1, none⟩ (.string (markOf (k0 + 2 * k + 1))))).ownsRow base 67 2 (.slice (some ⟨g, 0, none⟩) n cap) n (((flatWrite (mkWrite k0 l k)).set (k * 2) (.int .i64 ((k0 + 2 * k + 0 : Nat) : Int))).set (k * 2 + 1) (.string (markOf (k0 + 2 * k + 1))))) := owns_put HO1b.out _ _
      have HB1 : Hid (Below base w ((u1).setCell ⟨g, k * 2 + 1, none⟩ (.string (markOf (k0 + 2 * k + 1))))) := HB1b.out.setCell (p := ⟨g, k * 2 + 1, none⟩) HG.out _
      have HF1 : Hid (∀ j, j < w.heap.size → (Value.slice (some ⟨g, 0, none⟩) n cap).ownBlock ≠ some j → (((u1).setCell ⟨g, k * 2 + 1, none⟩ (.string (markOf (k0 + 2 * k + 1))))).heap[j]? = w.heap[j]?) := fun j hj hne => (heap_setCell_other _ _ j _ (fun e => hne (by rw [e]; rfl))).trans (HF1b.out j hj hne)
      have HFIN : Hid (flatWrite (mkWrite k0 l (k + 1)) = ((flatWrite (mkWrite k0 l k)).set (k * 2) (.int .i64 ((k0 + 2 * k + 0 : Nat) : Int))).set (k * 2 + 1) (.string (markOf (k0 + 2 * k + 1)))) := by
        show _ = _
        rw [mkWrite, flatWrite_set _ _ _ (by rw [mkWrite_len, HLN.out]; exact hlt)]
      go_wp2
      go_roundw
      case rel => exact ⟨k + 1, by omega, by go_num, by first | go_num | (congr 1; omega), HB1.out, by show World.ownsRow _ _ _ _ _ _ _; rw [HFIN.out]; exact HO1.out, HF1.out⟩
      case measure => simp [intOf]; omega
    · obtain rfl : k = n := by omega
      go_wp2
      go_ret
      exact ⟨rfl, HO.out, HB.out, HF.out⟩

set_option maxHeartbeats 4000000 in
set_option maxRecDepth 100000 in
theorem heldWriteS_any (oa : Option Addr) (n cap base : Nat) (l : List (Int × ByteArray)) (w : World) (h1 : w.ownsRow base 67 2 (.slice oa n cap) n (flatWrite l)) (k0 : Nat) (hk0 : 1 ≤ k0) (hn : k0 + 2 * n ≤ 9999999) (hm : ∀ j, j < n → (writeAt l j).1 = ((k0 + 2 * j + 0 : Nat) : Int) ∧ (writeAt l j).2 = (markOf (k0 + 2 * j + 1))) :
    Calls Try.prog 64 #[.slice oa n cap, .int .i64 (k0 : Int)] w fun e w' => e = .returned (.int .i64 ((k0 : Int) + 2 * (n : Int))) ∧ Below w.heap.size w w' := by
  have H1 : Hid (∀ W, Below w.heap.size w W → W.ownsRow base 67 2 (.slice oa n cap) n (flatWrite l)) := fun W h => owns_below h1 h (fun g hg => owns_lt h1 hg)
  have HM : Hid (∀ j, j < n → (writeAt l j).1 = ((k0 + 2 * j + 0 : Nat) : Int) ∧ (writeAt l j).2 = (markOf (k0 + 2 * j + 1))) := hm
  clear h1 hm
  go_enter Try.func64, Try.ntmps64
  go_wp2
  go_loopw [1, 5] (fun q i wr => ∃ k : Nat, k ≤ n ∧ i = .int .i64 (k : Int) ∧ q = .int .i64 ((k0 : Int) + 2 * (k : Int)) ∧ Hid (Below w.heap.size w wr)) (fun _ i _ => n - (intOf i).toNat)
  case atStart => exact ⟨0, Nat.zero_le _, rfl, by simp, Below.refl _ _⟩
  case round =>
    obtain ⟨k, hk, rfl, rfl, HB⟩ := hrel
    by_cases hlt : k < n
    · have hlt2 : (k : Int) < (n : Int) := by omega
      obtain ⟨g, rfl⟩ := owns_some (H1.out w (Below.refl _ _)) (by omega)
      have HA : Hid (∀ w0 w1, Below w.heap.size w w0 → Below w0.heap.size w0 w1 → (w1.cell? ⟨g, k * 2, none⟩ = some (.int .i64 ((k0 + 2 * k + 0 : Nat) : Int)) ∧ w1.cell? ⟨g, k * 2 + 1, none⟩ = some (.string (markOf (k0 + 2 * k + 1)))) ∧ Below w.heap.size w w1) := fun w0 w1 h h' => by
        have hx := h.trans (h'.mono h.size)
        obtain ⟨g', e, _, a0, a1⟩ := (write_view (H1.out w1 hx)).2 k hlt
        cases e
        obtain ⟨m0, m1⟩ := HM.out k hlt
        rw [m0] at a0
        rw [m1] at a1
        exact ⟨⟨a0, a1⟩, hx⟩
      obtain ⟨⟨e0, e1⟩, _⟩ := HA.out wr wr HB.out (Below.refl _ _)
      have hk_0 : ((((k0 + 2 * k + 0 : Nat) : Int)) != ((k0 : Int) + 2 * (k : Int))) = false := by first | (simp; done) | (simp; omega)
      go_wp2
      go_region_held3 (fun w' => w'.cell? ⟨g, k * 2 + 1, none⟩ = some (.string (markOf (k0 + 2 * k + 1)))) (first | assumption | go_keep) (first | (go_at_call 73; refine (markText_int _ (k0 + 2 * k + 1) _ (by omega) (by omega) (by omega)).mono ?_; rintro e u1 ⟨rfl, hb1⟩; obtain ⟨⟨e0, e1⟩, hbx1⟩ := HA.out _ u1 (HB.out).drew hb1))
      have HB1c : Hid (Below w.heap.size w u1) := hbx1
      clear hbx1
      go_wp2
      go_roundw
      case rel => exact ⟨k + 1, by omega, by go_num, by first | go_num | (congr 1; omega), HB1c⟩
      case measure => simp [intOf]; omega
    · obtain rfl : k = n := by omega
      go_wp2
      go_ret
      exact ⟨rfl, HB.out⟩

set_option maxRecDepth 100000 in
/-- A list among the arguments: what it holds. -/
theorem openWriteS {H : Type} {enc : TypeId × Value → H} {W : World} {fuel : Nat} {a : Option Addr} {n cap : Nat} {x : DataW H × List MemPlace} (h : DataW.trod enc Try.prog W 0 (fun _ => true) true fuel 44 [.slice a n cap] = some x) :
    ∃ l, ArgWrite W W.heap.size a n l ∧ n ≤ maxLen ∧ ∀ x ∈ l, (x.2).size ≤ maxLen := by
  rcases Go.Deep.open_slice Try.underlying44 h with ⟨hcs, _⟩ | ⟨ad, len, c, m, q, Dd, Pl, hcs, _, hl, hm, hmm, _, hx⟩
  · simp at hcs
    obtain ⟨rfl, rfl, rfl⟩ := hcs
    exact ⟨[], ⟨rfl, fun i hi => absurd hi (by omega)⟩, Nat.zero_le _, fun x hx => by simp at hx⟩
  · simp at hcs
    obtain ⟨rfl, rfl, rfl⟩ := hcs
    have hm2 : m = cap := by simpa using hmm
    have ce : Try.prog.cellsOf 92 = 2 := by kernel_rfl
    have ci : Try.prog.cellsOf 3 = 1 := by kernel_rfl
    have cs : Try.prog.cellsOf 9 = 1 := by kernel_rfl
    have each : ∀ i, i < n → ∃ y : (Int × ByteArray), (W.cell? (ad.add (i * 2 + 0)) = some (.int .i64 (y.1)) ∧ W.cell? (ad.add (i * 2 + 1)) = some (.string (y.2))) ∧ (y.2).size ≤ maxLen := by
      intro i hi
      obtain ⟨cs', h1, h2⟩ := hx i (by omega)
      rw [ce] at h1
      obtain ⟨_, hlen, hcell⟩ := World.cells?_some h1
      obtain ⟨xs, k, hk, hxy, _, hxl, hf⟩ := DataW.trod_struct Try.underlying92 h2
      match xs, hxl, cs', hlen with
      | [x0, x1], _, [v0, v1], _ =>
        have g0 := hf 0 _ rfl
        have g1 := hf 1 _ rfl
        simp [ci, cs] at g0 g1
        obtain ⟨s0, e0, _, _⟩ := DataW.trod_int Try.underlying3 g0
        obtain ⟨s1, e1, _, z1⟩ := DataW.trod_string Try.underlying9 g1
        simp only [List.cons.injEq, and_true] at e0 e1
        subst e0 e1
        have c0 := hcell 0 (by omega)
        have c1 := hcell 1 (by omega)
        rw [Go.Deep.add_add] at c0 c1
        exact ⟨(s0, s1), ⟨by simpa using c0, by simpa using c1⟩, z1⟩
    obtain ⟨q, hq⟩ := Go.Deep.choose_lt each
    have hat : ∀ i, i < n → writeAt ((List.range n).map q) i = q i := fun i hi => by
      unfold writeAt
      rw [List.getD_eq_getElem?_getD, List.getElem?_map, List.getElem?_range hi]
      rfl
    refine ⟨(List.range n).map q, ⟨by simp, fun i hi => ?_⟩, by omega, fun x hx => ?_⟩
    · obtain ⟨c0, _⟩ := hq i hi
      obtain ⟨c3, _⟩ := hq 0 (by omega)
      have hsp : ad.spot = none := by
        have := World.cell?_spot c3.1
        simpa [Addr.add] using this
      clear c3
      obtain ⟨b, off, sp⟩ := ad
      simp only at hsp
      subst hsp
      simp only [addr_add] at c0
      rw [hat i hi]
      have hlt := World.block_lt_of_cell? W _ c0.1
      exact ⟨b, off, rfl, hlt, by simpa [Nat.add_assoc] using c0.1, by simpa [Nat.add_assoc] using c0.2⟩
    · obtain ⟨i, hi, rfl⟩ := List.mem_map.1 hx
      exact (hq i (List.mem_range.1 hi)).2

end Go.Proofs.Ytckjbgpdbehmaaa

namespace Go.Proofs.Ytckjbgpdbehmaaa
open Go.RowKit
open Go.Lib hiding intOf

/-- A disk's two lists, in memory of one's own. -/
structure DiskO (W : World) (base : Nat) (v1 : Value) (n1 : Nat) (cs : List ByteArray) (v2 : Value) (n2 : Nat) (ws : List (Int × ByteArray)) : Prop where
  cells : W.ownsRow base 9 1 v1 n1 (cs.map Value.string)
  pend : W.ownsRow base 67 2 v2 n2 (flatWrite ws)

set_option maxHeartbeats 8000000 in
set_option maxRecDepth 100000 in
theorem toDisk_any (a1 : Option Addr) (n1 c1 : Nat) (cs : List ByteArray) (a2 : Option Addr) (n2 c2 : Nat) (ws : List (Int × ByteArray)) (B : Nat) (w : World) (h1 : ArgT w B a1 n1 cs) (h2 : ArgWrite w B a2 n2 ws) (hB : B ≤ w.heap.size) (hn1 : n1 ≤ 1048576) (hn2 : n2 ≤ 1048576) :
    Calls Try.prog 29 #[.agg #[.slice a1 n1 c1, .slice a2 n2 c2]] w fun e w' => ∃ v1 v2, e = .returned (.agg #[v1, v2]) ∧ DiskO w' w.heap.size v1 n1 cs v2 n2 ws ∧ Below w.heap.size w w' := by
  have HA1 : Hid (∀ W, Below w.heap.size w W → ArgT W B a1 n1 cs) := fun W h => h1.below (h.mono hB)
  have HA2 : Hid (∀ W, Below w.heap.size w W → ArgWrite W B a2 n2 ws) := fun W h => h2.below (h.mono hB)
  have HBB : Hid (∀ W, Below w.heap.size w W → B ≤ W.heap.size) := fun W h => Nat.le_trans hB h.size
  clear h1 h2 hB
  have hb0 : Below w.heap.size w w := Below.refl _ _
  go_enter Try.func29, Try.ntmps29
  go_upto_region 1 with fail
  obtain ⟨qv1, hqv1⟩ : ∃ q, q = (w).heap.size := ⟨_, rfl⟩
  obtain ⟨w1, hW1⟩ : ∃ W, W = (w).alloc (.cells #[.slice a1 n1 c1, .slice a2 n2 c2] 46) := ⟨_, rfl⟩
  have hz1 : (w).heap.size = qv1 := hqv1.symm
  first | rw [← hW1, ← hqv1] | rw [← hW1]
  have hs1 : w1.heap.size = qv1 + 1 := by rw [hW1, ← hz1]; simp
  have bw : Below (w).heap.size (w) w1 := by rw [hW1]; exact (Below.refl _ _).alloc (Nat.le_refl _) _
  have hb1 : Below w.heap.size w (w1) := hb0.trans (bw.mono hb0.size)
  have HM1 : Hid ((w).heap.size ≤ (w1).heap.size) := bw.size
  have HBv1_1 : Hid ((w1).heap[qv1]? = some (.cells #[.slice a1 n1 c1, .slice a2 n2 c2] 46)) := by show _ = _; rw [hW1, ← hz1]; exact heap_alloc_new _ _
  have HGv1 : Hid (w.heap.size ≤ qv1) := by show _ ≤ _; rw [← hz1]; exact hb0.size
  clear hb0 bw hW1 hz1
  obtain ⟨qv2, hqv2⟩ : ∃ q, q = qv1 + 1 := ⟨_, rfl⟩
  obtain ⟨w2, hW2⟩ : ∃ W, W = (w1).alloc (.cells #[.slice none 0 0, .slice none 0 0] 27) := ⟨_, rfl⟩
  have hz2 : (w1).heap.size = qv2 := by rw [hqv2]; exact hs1
  first | rw [← hW2, ← hqv2] | rw [← hW2]
  have hs2 : w2.heap.size = qv2 + 1 := by rw [hW2, ← hz2]; simp
  have bw : Below (w1).heap.size (w1) w2 := by rw [hW2]; exact (Below.refl _ _).alloc (Nat.le_refl _) _
  have hb2 : Below w.heap.size w (w2) := hb1.trans (bw.mono hb1.size)
  have HM2 : Hid ((w1).heap.size ≤ (w2).heap.size) := bw.size
  have HBv1_2 : Hid ((w2).heap[qv1]? = some (.cells #[.slice a1 n1 c1, .slice a2 n2 c2] 46)) := blk_below HBv1_1.out bw
  have HNv1v2 : Hid (qv1 ≠ qv2) := fun e => by have h1 := (Array.getElem?_eq_some_iff.1 HBv1_1.out).1; omega
  have HBv2_2 : Hid ((w2).heap[qv2]? = some (.cells #[.slice none 0 0, .slice none 0 0] 27)) := by show _ = _; rw [hW2, ← hz2]; exact heap_alloc_new _ _
  have HGv2 : Hid (w.heap.size ≤ qv2) := by show _ ≤ _; rw [← hz2]; exact hb1.size
  clear hb1 HBv1_1 bw hW2 hz2
  clear hs2 hqv2 hs1 hqv1
  go_upto_region 2 with fail
  obtain ⟨qv3, hqv3⟩ : ∃ q, q = (w2).heap.size := ⟨_, rfl⟩
  obtain ⟨w3, hW3⟩ : ∃ W, W = (w2).alloc (.cells #[.slice none 0 0, .slice none 0 0] 27) := ⟨_, rfl⟩
  have hz3 : (w2).heap.size = qv3 := hqv3.symm
  first | rw [← hW3, ← hqv3] | rw [← hW3]
  have hs3 : w3.heap.size = qv3 + 1 := by rw [hW3, ← hz3]; simp
  have bw : Below (w2).heap.size (w2) w3 := by rw [hW3]; exact (Below.refl _ _).alloc (Nat.le_refl _) _
  have hb3 : Below w.heap.size w (w3) := hb2.trans (bw.mono hb2.size)
  have HM3 : Hid ((w2).heap.size ≤ (w3).heap.size) := bw.size
  have HBv1_3 : Hid ((w3).heap[qv1]? = some (.cells #[.slice a1 n1 c1, .slice a2 n2 c2] 46)) := blk_below HBv1_2.out bw
  have HBv2_3 : Hid ((w3).heap[qv2]? = some (.cells #[.slice none 0 0, .slice none 0 0] 27)) := blk_below HBv2_2.out bw
  have HNv1v3 : Hid (qv1 ≠ qv3) := fun e => by have h1 := (Array.getElem?_eq_some_iff.1 HBv1_2.out).1; omega
  have HNv2v3 : Hid (qv2 ≠ qv3) := fun e => by have h1 := (Array.getElem?_eq_some_iff.1 HBv2_2.out).1; omega
  have HBv3_3 : Hid ((w3).heap[qv3]? = some (.cells #[.slice none 0 0, .slice none 0 0] 27)) := by show _ = _; rw [hW3, ← hz3]; exact heap_alloc_new _ _
  have HGv3 : Hid (w.heap.size ≤ qv3) := by show _ ≤ _; rw [← hz3]; exact hb2.size
  clear hb2 HBv1_2 HBv2_2 bw hW3 hz3
  clear hs3 hqv3
  have cv1_0 : (w3).cell? ⟨qv1, 0, none⟩ = some (.slice a1 n1 c1) := (cell_of HBv1_3.out 0).trans rfl
  go_wp2_with fail
  refine (toStringS_any B a1 n1 c1 cs _ (HA1.out _ hb3) (HBB.out _ hb3) hn1).mono ?_
  rintro e w4 ⟨vv, rfl, ownC, bw⟩
  obtain ⟨oC, pC, rfl⟩ := slice_of_owns ownC
  have hb4 : Below w.heap.size w (w4) := hb3.trans (bw.mono hb3.size)
  have HM4 : Hid ((w3).heap.size ≤ (w4).heap.size) := bw.size
  have HBv1_4 : Hid ((w4).heap[qv1]? = some (.cells #[.slice a1 n1 c1, .slice a2 n2 c2] 46)) := blk_below HBv1_3.out bw
  have HBv2_4 : Hid ((w4).heap[qv2]? = some (.cells #[.slice none 0 0, .slice none 0 0] 27)) := blk_below HBv2_3.out bw
  have HBv3_4 : Hid ((w4).heap[qv3]? = some (.cells #[.slice none 0 0, .slice none 0 0] 27)) := blk_below HBv3_3.out bw
  have HOC_4 : Hid ((w4).ownsRow w.heap.size 9 1 (.slice oC n1 pC) n1 (cs.map Value.string)) := owns_wide ownC hb3.size
  have LOC : Hid (∀ g, (Value.ownBlock (.slice oC n1 pC)) = some g → (w3).heap.size ≤ g) := fun g hg => owns_ge ownC hg
  have HIC : Hid (∀ g, (Value.ownBlock (.slice oC n1 pC)) = some g → g < (w4).heap.size) := fun g hg => owns_lt ownC hg
  clear ownC
  clear hb3 HBv1_3 HBv2_3 HBv3_3 bw
  clear cv1_0
  have cv3_0 : (w4).cell? ⟨qv3, 0, none⟩ = some (.slice none 0 0) := (cell_of HBv3_4.out 0).trans rfl
  have fcv3_0 : (w4).frozen? ⟨qv3, 0, none⟩ = false := frozen_of HBv3_4.out 0
  go_upto_region 3 with fail
  obtain ⟨w5, hW5⟩ : ∃ W, W = (w4).setCell ⟨qv3, 0, none⟩ (.slice oC n1 pC) := ⟨_, rfl⟩
  rw [← hW5]
  have hb5 : Below w.heap.size w (w5) := by rw [hW5]; exact (hb4.setCell (p := ⟨qv3, 0, none⟩) HGv3.out _)
  have HM5 : Hid ((w4).heap.size ≤ w5.heap.size) := by show _ ≤ _; rw [hW5]; simp
  have HOC_5 : Hid ((w5).ownsRow w.heap.size 9 1 (.slice oC n1 pC) n1 (cs.map Value.string)) := by show World.ownsRow _ _ _ _ _ _ _; rw [hW5]; exact owns_same HOC_4.out (fun g hg => heap_setCell_other _ _ g _ (own_ne HOC_4.out HBv3_4.out (by decide) g hg))
  have HBv1_5 : Hid ((w5).heap[qv1]? = some (.cells #[.slice a1 n1 c1, .slice a2 n2 c2] 46)) := by show _ = _; rw [hW5, heap_setCell_other _ _ _ _ HNv1v3.out]; exact HBv1_4.out
  have HBv2_5 : Hid ((w5).heap[qv2]? = some (.cells #[.slice none 0 0, .slice none 0 0] 27)) := by show _ = _; rw [hW5, heap_setCell_other _ _ _ _ HNv2v3.out]; exact HBv2_4.out
  have HBv3_5 : Hid ((w5).heap[qv3]? = some (.cells #[.slice oC n1 pC, .slice none 0 0] 27)) := by show _ = _; rw [hW5]; have h := heap_set _ _ 0 _ _ _ (.slice oC n1 pC) HBv3_4.out; simpa using h
  clear hb4 HOC_4 HBv1_4 HBv2_4 HBv3_4 hW5
  clear cv3_0 fcv3_0
  have cv1_1 : (w5).cell? ⟨qv1, 1, none⟩ = some (.slice a2 n2 c2) := (cell_of HBv1_5.out 1).trans rfl
  go_wp2_with fail
  refine (toWriteS_any B a2 n2 c2 ws _ (HA2.out _ hb5) (HBB.out _ hb5) hn2).mono ?_
  rintro e w6 ⟨vv, rfl, ownP, bw⟩
  obtain ⟨oP, pP, rfl⟩ := slice_of_owns ownP
  have hb6 : Below w.heap.size w (w6) := hb5.trans (bw.mono hb5.size)
  have HM6 : Hid ((w5).heap.size ≤ (w6).heap.size) := bw.size
  have HOC_6 : Hid ((w6).ownsRow w.heap.size 9 1 (.slice oC n1 pC) n1 (cs.map Value.string)) := owns_below HOC_5.out bw (fun g hg => owns_lt HOC_5.out hg)
  have HBv1_6 : Hid ((w6).heap[qv1]? = some (.cells #[.slice a1 n1 c1, .slice a2 n2 c2] 46)) := blk_below HBv1_5.out bw
  have HBv2_6 : Hid ((w6).heap[qv2]? = some (.cells #[.slice none 0 0, .slice none 0 0] 27)) := blk_below HBv2_5.out bw
  have HBv3_6 : Hid ((w6).heap[qv3]? = some (.cells #[.slice oC n1 pC, .slice none 0 0] 27)) := blk_below HBv3_5.out bw
  have HOP_6 : Hid ((w6).ownsRow w.heap.size 67 2 (.slice oP n2 pP) n2 (flatWrite ws)) := owns_wide ownP hb5.size
  have LOP : Hid (∀ g, (Value.ownBlock (.slice oP n2 pP)) = some g → (w5).heap.size ≤ g) := fun g hg => owns_ge ownP hg
  have HIP : Hid (∀ g, (Value.ownBlock (.slice oP n2 pP)) = some g → g < (w6).heap.size) := fun g hg => owns_lt ownP hg
  clear ownP
  clear hb5 HOC_5 HBv1_5 HBv2_5 HBv3_5 bw
  clear cv1_1
  have cv3_1 : (w6).cell? ⟨qv3, 1, none⟩ = some (.slice none 0 0) := (cell_of HBv3_6.out 1).trans rfl
  have fcv3_1 : (w6).frozen? ⟨qv3, 1, none⟩ = false := frozen_of HBv3_6.out 1
  go_upto_region 4 with fail
  obtain ⟨w7, hW7⟩ : ∃ W, W = (w6).setCell ⟨qv3, 1, none⟩ (.slice oP n2 pP) := ⟨_, rfl⟩
  rw [← hW7]
  have hb7 : Below w.heap.size w (w7) := by rw [hW7]; exact (hb6.setCell (p := ⟨qv3, 1, none⟩) HGv3.out _)
  have HM7 : Hid ((w6).heap.size ≤ w7.heap.size) := by show _ ≤ _; rw [hW7]; simp
  have HOC_7 : Hid ((w7).ownsRow w.heap.size 9 1 (.slice oC n1 pC) n1 (cs.map Value.string)) := by show World.ownsRow _ _ _ _ _ _ _; rw [hW7]; exact owns_same HOC_6.out (fun g hg => heap_setCell_other _ _ g _ (own_ne HOC_6.out HBv3_6.out (by decide) g hg))
  have HOP_7 : Hid ((w7).ownsRow w.heap.size 67 2 (.slice oP n2 pP) n2 (flatWrite ws)) := by show World.ownsRow _ _ _ _ _ _ _; rw [hW7]; exact owns_same HOP_6.out (fun g hg => heap_setCell_other _ _ g _ (own_ne HOP_6.out HBv3_6.out (by decide) g hg))
  have HBv1_7 : Hid ((w7).heap[qv1]? = some (.cells #[.slice a1 n1 c1, .slice a2 n2 c2] 46)) := by show _ = _; rw [hW7, heap_setCell_other _ _ _ _ HNv1v3.out]; exact HBv1_6.out
  have HBv2_7 : Hid ((w7).heap[qv2]? = some (.cells #[.slice none 0 0, .slice none 0 0] 27)) := by show _ = _; rw [hW7, heap_setCell_other _ _ _ _ HNv2v3.out]; exact HBv2_6.out
  have HBv3_7 : Hid ((w7).heap[qv3]? = some (.cells #[.slice oC n1 pC, .slice oP n2 pP] 27)) := by show _ = _; rw [hW7]; have h := heap_set _ _ 1 _ _ _ (.slice oP n2 pP) HBv3_6.out; simpa using h
  clear hb6 HOC_6 HOP_6 HBv1_6 HBv2_6 HBv3_6 hW7
  clear cv3_1 fcv3_1
  have cv2_0 : (w7).cell? ⟨qv2, 0, none⟩ = some (.slice none 0 0) := (cell_of HBv2_7.out 0).trans rfl
  have fcv2_0 : (w7).frozen? ⟨qv2, 0, none⟩ = false := frozen_of HBv2_7.out 0
  have cv2_1 : (w7).cell? ⟨qv2, 1, none⟩ = some (.slice none 0 0) := (cell_of HBv2_7.out 1).trans rfl
  have fcv2_1 : (w7).frozen? ⟨qv2, 1, none⟩ = false := frozen_of HBv2_7.out 1
  have cv3_0 : (w7).cell? ⟨qv3, 0, none⟩ = some (.slice oC n1 pC) := (cell_of HBv3_7.out 0).trans rfl
  have cv3_1 : (w7).cell? ⟨qv3, 1, none⟩ = some (.slice oP n2 pP) := (cell_of HBv3_7.out 1).trans rfl
  go_wp2_with fail
  obtain ⟨w8, hW8⟩ : ∃ W, W = (w7).setCell ⟨qv2, 0, none⟩ (.slice oC n1 pC) := ⟨_, rfl⟩
  rw [← hW8]
  have hb8 : Below w.heap.size w (w8) := by rw [hW8]; exact (hb7.setCell (p := ⟨qv2, 0, none⟩) HGv2.out _)
  have HM8 : Hid ((w7).heap.size ≤ w8.heap.size) := by show _ ≤ _; rw [hW8]; simp
  have HOC_8 : Hid ((w8).ownsRow w.heap.size 9 1 (.slice oC n1 pC) n1 (cs.map Value.string)) := by show World.ownsRow _ _ _ _ _ _ _; rw [hW8]; exact owns_same HOC_7.out (fun g hg => heap_setCell_other _ _ g _ (own_ne HOC_7.out HBv2_7.out (by decide) g hg))
  have HOP_8 : Hid ((w8).ownsRow w.heap.size 67 2 (.slice oP n2 pP) n2 (flatWrite ws)) := by show World.ownsRow _ _ _ _ _ _ _; rw [hW8]; exact owns_same HOP_7.out (fun g hg => heap_setCell_other _ _ g _ (own_ne HOP_7.out HBv2_7.out (by decide) g hg))
  have HBv1_8 : Hid ((w8).heap[qv1]? = some (.cells #[.slice a1 n1 c1, .slice a2 n2 c2] 46)) := by show _ = _; rw [hW8, heap_setCell_other _ _ _ _ HNv1v2.out]; exact HBv1_7.out
  have HBv3_8 : Hid ((w8).heap[qv3]? = some (.cells #[.slice oC n1 pC, .slice oP n2 pP] 27)) := by show _ = _; rw [hW8, heap_setCell_other _ _ _ _ HNv2v3.out.symm]; exact HBv3_7.out
  have HBv2_8 : Hid ((w8).heap[qv2]? = some (.cells #[.slice oC n1 pC, .slice none 0 0] 27)) := by show _ = _; rw [hW8]; have h := heap_set _ _ 0 _ _ _ (.slice oC n1 pC) HBv2_7.out; simpa using h
  clear hb7 HOC_7 HOP_7 HBv1_7 HBv2_7 HBv3_7 hW8
  obtain ⟨w9, hW9⟩ : ∃ W, W = (w8).setCell ⟨qv2, 1, none⟩ (.slice oP n2 pP) := ⟨_, rfl⟩
  rw [← hW9]
  have hb9 : Below w.heap.size w (w9) := by rw [hW9]; exact (hb8.setCell (p := ⟨qv2, 1, none⟩) HGv2.out _)
  have HM9 : Hid ((w8).heap.size ≤ w9.heap.size) := by show _ ≤ _; rw [hW9]; simp
  have HOC_9 : Hid ((w9).ownsRow w.heap.size 9 1 (.slice oC n1 pC) n1 (cs.map Value.string)) := by show World.ownsRow _ _ _ _ _ _ _; rw [hW9]; exact owns_same HOC_8.out (fun g hg => heap_setCell_other _ _ g _ (own_ne HOC_8.out HBv2_8.out (by decide) g hg))
  have HOP_9 : Hid ((w9).ownsRow w.heap.size 67 2 (.slice oP n2 pP) n2 (flatWrite ws)) := by show World.ownsRow _ _ _ _ _ _ _; rw [hW9]; exact owns_same HOP_8.out (fun g hg => heap_setCell_other _ _ g _ (own_ne HOP_8.out HBv2_8.out (by decide) g hg))
  have HBv1_9 : Hid ((w9).heap[qv1]? = some (.cells #[.slice a1 n1 c1, .slice a2 n2 c2] 46)) := by show _ = _; rw [hW9, heap_setCell_other _ _ _ _ HNv1v2.out]; exact HBv1_8.out
  have HBv3_9 : Hid ((w9).heap[qv3]? = some (.cells #[.slice oC n1 pC, .slice oP n2 pP] 27)) := by show _ = _; rw [hW9, heap_setCell_other _ _ _ _ HNv2v3.out.symm]; exact HBv3_8.out
  have HBv2_9 : Hid ((w9).heap[qv2]? = some (.cells #[.slice oC n1 pC, .slice oP n2 pP] 27)) := by show _ = _; rw [hW9]; have h := heap_set _ _ 1 _ _ _ (.slice oP n2 pP) HBv2_8.out; simpa using h
  clear hb8 HOC_8 HOP_8 HBv1_8 HBv2_8 HBv3_8 hW9
  have kv2_0 : (w9).cell? ⟨qv2, 0, none⟩ = some (.slice oC n1 pC) := (cell_of HBv2_9.out 0).trans rfl
  have kv2_1 : (w9).cell? ⟨qv2, 1, none⟩ = some (.slice oP n2 pP) := (cell_of HBv2_9.out 1).trans rfl
  refine bodyPost_ret (v := .agg #[.slice oC n1 pC, .slice oP n2 pP]) (by simp [results, Try.results29, go_sem, kv2_0, kv2_1]) rfl ?_
  exact ⟨_, _, rfl, ⟨HOC_9.out, HOP_9.out⟩, hb9⟩

/-- A disk's measure: negative, or what is left of L. -/
def SzDisk (L : Int) (n1 : Nat) (cs : List ByteArray) (n2 : Nat) (ws : List (Int × ByteArray)) (w : World) (e : Ending) (w' : World) : Prop :=
  ∃ r : Int, e = .returned (.int .i64 r) ∧ r ≤ L ∧ (0 ≤ r → (n1 ≤ 1048576 ∧ ∀ i, i < n1 → (textAt cs i).size ≤ 1048576) ∧ n2 ≤ 1048576 ∧ ∀ x ∈ ws, (x.2).size ≤ 1048576) ∧ Below w.heap.size w w'
set_option maxHeartbeats 8000000 in
set_option maxRecDepth 100000 in
theorem szDisk_any (L : Int) (hL0 : 0 ≤ L) (hL1 : L ≤ 1048576) (a1 : Option Addr) (n1 c1 : Nat) (cs : List ByteArray) (a2 : Option Addr) (n2 c2 : Nat) (ws : List (Int × ByteArray)) (B : Nat) (w : World) (h1 : ArgT w B a1 n1 cs) (h2 : ArgWrite w B a2 n2 ws) (hB : B ≤ w.heap.size) (hn1 : n1 ≤ maxLen) (hn2 : n2 ≤ maxLen) (hs1 : ∀ i, i < n1 → (textAt cs i).size ≤ maxLen) (hs2 : ∀ x ∈ ws, (x.2).size ≤ maxLen) :
    Calls Try.prog 28 #[.agg #[.slice a1 n1 c1, .slice a2 n2 c2], .int .i64 L] w fun e w' => SzDisk L n1 cs n2 ws w e w' := by
  have HA1 : Hid (∀ W, Below w.heap.size w W → ArgT W B a1 n1 cs) := fun W h => h1.below (h.mono hB)
  have HA2 : Hid (∀ W, Below w.heap.size w W → ArgWrite W B a2 n2 ws) := fun W h => h2.below (h.mono hB)
  have HBB : Hid (∀ W, Below w.heap.size w W → B ≤ W.heap.size) := fun W h => Nat.le_trans hB h.size
  clear h1 h2 hB
  have HN1 : Hid (n1 ≤ maxLen) := hn1
  have HN2 : Hid (n2 ≤ maxLen) := hn2
  have HS1 : Hid (∀ i, i < n1 → (textAt cs i).size ≤ maxLen) := hs1
  have HS2 : Hid (∀ x ∈ ws, (x.2).size ≤ maxLen) := hs2
  clear hs1 hs2 hn1 hn2
  have hb0 : Below w.heap.size w w := Below.refl _ _
  go_enter Try.func28, Try.ntmps28
  go_upto_region 1 with fail
  obtain ⟨qv1, hqv1⟩ : ∃ q, q = (w).heap.size := ⟨_, rfl⟩
  obtain ⟨w1, hW1⟩ : ∃ W, W = (w).alloc (.cells #[.slice a1 n1 c1, .slice a2 n2 c2] 46) := ⟨_, rfl⟩
  have hz1 : (w).heap.size = qv1 := hqv1.symm
  first | rw [← hW1, ← hqv1] | rw [← hW1]
  have hs1 : w1.heap.size = qv1 + 1 := by rw [hW1, ← hz1]; simp
  have bw : Below (w).heap.size (w) w1 := by rw [hW1]; exact (Below.refl _ _).alloc (Nat.le_refl _) _
  have hb1 : Below w.heap.size w (w1) := hb0.trans (bw.mono hb0.size)
  have HM1 : Hid ((w).heap.size ≤ (w1).heap.size) := bw.size
  have HBv1_1 : Hid ((w1).heap[qv1]? = some (.cells #[.slice a1 n1 c1, .slice a2 n2 c2] 46)) := by show _ = _; rw [hW1, ← hz1]; exact heap_alloc_new _ _
  have HGv1 : Hid (w.heap.size ≤ qv1) := by show _ ≤ _; rw [← hz1]; exact hb0.size
  clear hb0 bw hW1 hz1
  clear hs1 hqv1
  have cv1_0 : (w1).cell? ⟨qv1, 0, none⟩ = some (.slice a1 n1 c1) := (cell_of HBv1_1.out 0).trans rfl
  go_wp2_with fail
  refine (szStringS_exact L (by omega) (by omega) B a1 n1 c1 cs _ (HA1.out _ hb1) (HBB.out _ hb1) HN1.out HS1.out).mono ?_
  rintro e w2 ⟨r1, rfl, hl1, hr1, bw⟩
  have hb2 : Below w.heap.size w (w2) := hb1.trans (bw.mono hb1.size)
  have HM2 : Hid ((w1).heap.size ≤ (w2).heap.size) := bw.size
  have HBv1_2 : Hid ((w2).heap[qv1]? = some (.cells #[.slice a1 n1 c1, .slice a2 n2 c2] 46)) := blk_below HBv1_1.out bw
  clear hb1 HBv1_1 bw
  clear cv1_0
  by_cases hc1 : r1 < 0
  · clear hr1
    go_wp2_with fail
    go_ret
    exact ⟨-1, rfl, by omega, fun h => absurd h (by omega), hb2⟩
  · obtain ⟨he1, hm1, hz1⟩ := hr1 (by omega)
    have HZ1 : Hid _ := hz1
    clear hr1 hz1
    have cv1_1 : (w2).cell? ⟨qv1, 1, none⟩ = some (.slice a2 n2 c2) := (cell_of HBv1_2.out 1).trans rfl
    go_wp2_with fail
    refine (szWriteS_any r1 (by omega) (by omega) B a2 n2 c2 ws _ (HA2.out _ hb2) (HBB.out _ hb2) HN2.out HS2.out).mono ?_
    rintro e w3 ⟨r2, rfl, hl2, hr2, bw⟩
    have hb3 : Below w.heap.size w (w3) := hb2.trans (bw.mono hb2.size)
    have HM3 : Hid ((w2).heap.size ≤ (w3).heap.size) := bw.size
    have HBv1_3 : Hid ((w3).heap[qv1]? = some (.cells #[.slice a1 n1 c1, .slice a2 n2 c2] 46)) := blk_below HBv1_2.out bw
    clear hb2 HBv1_2 bw
    clear cv1_1
    by_cases hc2 : r2 < 0
    · clear hr2
      go_wp2_with fail
      go_ret
      exact ⟨-1, rfl, by omega, fun h => absurd h (by omega), hb3⟩
    · have HZ2 : Hid _ := hr2 (by omega)
      clear hr2
      go_wp2_with fail
      go_ret
      exact ⟨_, rfl, by omega, fun _ => ⟨⟨by omega, HZ1.out⟩, HZ2.out⟩, hb3⟩

set_option maxHeartbeats 8000000 in
set_option maxRecDepth 100000 in
theorem eqDisk_any (n1 : Nat) (cs : List ByteArray) (n2 : Nat) (ws : List (Int × ByteArray)) (v1 v2 u1 u2 : Value) (B1 B2 : Nat) (w : World) (hx : DiskO w B1 v1 n1 cs v2 n2 ws) (hy : DiskO w B2 u1 n1 cs u2 n2 ws) (hn1 : n1 ≤ 2000000) (hn2 : n2 ≤ 2000000) :
    Calls Try.prog 30 #[.agg #[v1, v2], .agg #[u1, u2]] w fun e w' => e = .returned (.bool true) ∧ Below w.heap.size w w' := by
  obtain ⟨oCx, pCx, rfl⟩ := slice_of_owns hx.cells
  have HOCx_0 : Hid ((w).ownsRow B1 9 1 (.slice oCx n1 pCx) n1 (cs.map Value.string)) := hx.cells
  obtain ⟨oPx, pPx, rfl⟩ := slice_of_owns hx.pend
  have HOPx_0 : Hid ((w).ownsRow B1 67 2 (.slice oPx n2 pPx) n2 (flatWrite ws)) := hx.pend
  clear hx
  obtain ⟨oCy, pCy, rfl⟩ := slice_of_owns hy.cells
  have HOCy_0 : Hid ((w).ownsRow B2 9 1 (.slice oCy n1 pCy) n1 (cs.map Value.string)) := hy.cells
  obtain ⟨oPy, pPy, rfl⟩ := slice_of_owns hy.pend
  have HOPy_0 : Hid ((w).ownsRow B2 67 2 (.slice oPy n2 pPy) n2 (flatWrite ws)) := hy.pend
  clear hy
  have hb0 : Below w.heap.size w w := Below.refl _ _
  go_enter Try.func30, Try.ntmps30
  go_upto_region 1 with fail
  obtain ⟨qv1, hqv1⟩ : ∃ q, q = (w).heap.size := ⟨_, rfl⟩
  obtain ⟨w1, hW1⟩ : ∃ W, W = (w).alloc (.cells #[.slice oCx n1 pCx, .slice oPx n2 pPx] 27) := ⟨_, rfl⟩
  have hz1 : (w).heap.size = qv1 := hqv1.symm
  first | rw [← hW1, ← hqv1] | rw [← hW1]
  have hs1 : w1.heap.size = qv1 + 1 := by rw [hW1, ← hz1]; simp
  have bw : Below (w).heap.size (w) w1 := by rw [hW1]; exact (Below.refl _ _).alloc (Nat.le_refl _) _
  have hb1 : Below w.heap.size w (w1) := hb0.trans (bw.mono hb0.size)
  have HM1 : Hid ((w).heap.size ≤ (w1).heap.size) := bw.size
  have HOCx_1 : Hid ((w1).ownsRow B1 9 1 (.slice oCx n1 pCx) n1 (cs.map Value.string)) := owns_below HOCx_0.out bw (fun g hg => owns_lt HOCx_0.out hg)
  have HOPx_1 : Hid ((w1).ownsRow B1 67 2 (.slice oPx n2 pPx) n2 (flatWrite ws)) := owns_below HOPx_0.out bw (fun g hg => owns_lt HOPx_0.out hg)
  have HOCy_1 : Hid ((w1).ownsRow B2 9 1 (.slice oCy n1 pCy) n1 (cs.map Value.string)) := owns_below HOCy_0.out bw (fun g hg => owns_lt HOCy_0.out hg)
  have HOPy_1 : Hid ((w1).ownsRow B2 67 2 (.slice oPy n2 pPy) n2 (flatWrite ws)) := owns_below HOPy_0.out bw (fun g hg => owns_lt HOPy_0.out hg)
  have HBv1_1 : Hid ((w1).heap[qv1]? = some (.cells #[.slice oCx n1 pCx, .slice oPx n2 pPx] 27)) := by show _ = _; rw [hW1, ← hz1]; exact heap_alloc_new _ _
  have HGv1 : Hid (w.heap.size ≤ qv1) := by show _ ≤ _; rw [← hz1]; exact hb0.size
  clear hb0 HOCx_0 HOPx_0 HOCy_0 HOPy_0 bw hW1 hz1
  obtain ⟨qv2, hqv2⟩ : ∃ q, q = qv1 + 1 := ⟨_, rfl⟩
  obtain ⟨w2, hW2⟩ : ∃ W, W = (w1).alloc (.cells #[.slice oCy n1 pCy, .slice oPy n2 pPy] 27) := ⟨_, rfl⟩
  have hz2 : (w1).heap.size = qv2 := by rw [hqv2]; exact hs1
  first | rw [← hW2, ← hqv2] | rw [← hW2]
  have hs2 : w2.heap.size = qv2 + 1 := by rw [hW2, ← hz2]; simp
  have bw : Below (w1).heap.size (w1) w2 := by rw [hW2]; exact (Below.refl _ _).alloc (Nat.le_refl _) _
  have hb2 : Below w.heap.size w (w2) := hb1.trans (bw.mono hb1.size)
  have HM2 : Hid ((w1).heap.size ≤ (w2).heap.size) := bw.size
  have HOCx_2 : Hid ((w2).ownsRow B1 9 1 (.slice oCx n1 pCx) n1 (cs.map Value.string)) := owns_below HOCx_1.out bw (fun g hg => owns_lt HOCx_1.out hg)
  have HOPx_2 : Hid ((w2).ownsRow B1 67 2 (.slice oPx n2 pPx) n2 (flatWrite ws)) := owns_below HOPx_1.out bw (fun g hg => owns_lt HOPx_1.out hg)
  have HOCy_2 : Hid ((w2).ownsRow B2 9 1 (.slice oCy n1 pCy) n1 (cs.map Value.string)) := owns_below HOCy_1.out bw (fun g hg => owns_lt HOCy_1.out hg)
  have HOPy_2 : Hid ((w2).ownsRow B2 67 2 (.slice oPy n2 pPy) n2 (flatWrite ws)) := owns_below HOPy_1.out bw (fun g hg => owns_lt HOPy_1.out hg)
  have HBv1_2 : Hid ((w2).heap[qv1]? = some (.cells #[.slice oCx n1 pCx, .slice oPx n2 pPx] 27)) := blk_below HBv1_1.out bw
  have HNv1v2 : Hid (qv1 ≠ qv2) := fun e => by have h1 := (Array.getElem?_eq_some_iff.1 HBv1_1.out).1; omega
  have HBv2_2 : Hid ((w2).heap[qv2]? = some (.cells #[.slice oCy n1 pCy, .slice oPy n2 pPy] 27)) := by show _ = _; rw [hW2, ← hz2]; exact heap_alloc_new _ _
  have HGv2 : Hid (w.heap.size ≤ qv2) := by show _ ≤ _; rw [← hz2]; exact hb1.size
  clear hb1 HOCx_1 HOPx_1 HOCy_1 HOPy_1 HBv1_1 bw hW2 hz2
  clear hs2 hqv2 hs1 hqv1
  have cv1_0 : (w2).cell? ⟨qv1, 0, none⟩ = some (.slice oCx n1 pCx) := (cell_of HBv1_2.out 0).trans rfl
  have cv2_0 : (w2).cell? ⟨qv2, 0, none⟩ = some (.slice oCy n1 pCy) := (cell_of HBv2_2.out 0).trans rfl
  go_wp2_with fail
  refine (eqS_any _ _ n1 _ _ cs _ HOCx_2.out HOCy_2.out (by omega)).mono ?_
  rintro e w3 ⟨rfl, bw⟩
  have hb3 : Below w.heap.size w (w3) := hb2.trans (bw.mono hb2.size)
  have HM3 : Hid ((w2).heap.size ≤ (w3).heap.size) := bw.size
  have HOCx_3 : Hid ((w3).ownsRow B1 9 1 (.slice oCx n1 pCx) n1 (cs.map Value.string)) := owns_below HOCx_2.out bw (fun g hg => owns_lt HOCx_2.out hg)
  have HOPx_3 : Hid ((w3).ownsRow B1 67 2 (.slice oPx n2 pPx) n2 (flatWrite ws)) := owns_below HOPx_2.out bw (fun g hg => owns_lt HOPx_2.out hg)
  have HOCy_3 : Hid ((w3).ownsRow B2 9 1 (.slice oCy n1 pCy) n1 (cs.map Value.string)) := owns_below HOCy_2.out bw (fun g hg => owns_lt HOCy_2.out hg)
  have HOPy_3 : Hid ((w3).ownsRow B2 67 2 (.slice oPy n2 pPy) n2 (flatWrite ws)) := owns_below HOPy_2.out bw (fun g hg => owns_lt HOPy_2.out hg)
  have HBv1_3 : Hid ((w3).heap[qv1]? = some (.cells #[.slice oCx n1 pCx, .slice oPx n2 pPx] 27)) := blk_below HBv1_2.out bw
  have HBv2_3 : Hid ((w3).heap[qv2]? = some (.cells #[.slice oCy n1 pCy, .slice oPy n2 pPy] 27)) := blk_below HBv2_2.out bw
  clear hb2 HOCx_2 HOPx_2 HOCy_2 HOPy_2 HBv1_2 HBv2_2 bw
  clear cv1_0 cv2_0
  have cv1_1 : (w3).cell? ⟨qv1, 1, none⟩ = some (.slice oPx n2 pPx) := (cell_of HBv1_3.out 1).trans rfl
  have cv2_1 : (w3).cell? ⟨qv2, 1, none⟩ = some (.slice oPy n2 pPy) := (cell_of HBv2_3.out 1).trans rfl
  go_wp2_with fail
  refine (eqWriteS_any _ _ n2 _ _ ws _ (write_view HOPx_3.out) (write_view HOPy_3.out) (by omega)).mono ?_
  rintro e w4 ⟨rfl, bw⟩
  have hb4 : Below w.heap.size w (w4) := hb3.trans (bw.mono hb3.size)
  have HM4 : Hid ((w3).heap.size ≤ (w4).heap.size) := bw.size
  have HOCx_4 : Hid ((w4).ownsRow B1 9 1 (.slice oCx n1 pCx) n1 (cs.map Value.string)) := owns_below HOCx_3.out bw (fun g hg => owns_lt HOCx_3.out hg)
  have HOPx_4 : Hid ((w4).ownsRow B1 67 2 (.slice oPx n2 pPx) n2 (flatWrite ws)) := owns_below HOPx_3.out bw (fun g hg => owns_lt HOPx_3.out hg)
  have HOCy_4 : Hid ((w4).ownsRow B2 9 1 (.slice oCy n1 pCy) n1 (cs.map Value.string)) := owns_below HOCy_3.out bw (fun g hg => owns_lt HOCy_3.out hg)
  have HOPy_4 : Hid ((w4).ownsRow B2 67 2 (.slice oPy n2 pPy) n2 (flatWrite ws)) := owns_below HOPy_3.out bw (fun g hg => owns_lt HOPy_3.out hg)
  have HBv1_4 : Hid ((w4).heap[qv1]? = some (.cells #[.slice oCx n1 pCx, .slice oPx n2 pPx] 27)) := blk_below HBv1_3.out bw
  have HBv2_4 : Hid ((w4).heap[qv2]? = some (.cells #[.slice oCy n1 pCy, .slice oPy n2 pPy] 27)) := blk_below HBv2_3.out bw
  clear hb3 HOCx_3 HOPx_3 HOCy_3 HOPy_3 HBv1_3 HBv2_3 bw
  clear cv1_1 cv2_1
  go_wp2_with fail
  go_ret
  exact ⟨rfl, hb4⟩

set_option maxHeartbeats 8000000 in
set_option maxRecDepth 100000 in
theorem markDisk_any (n1 : Nat) (cs : List ByteArray) (n2 : Nat) (ws : List (Int × ByteArray)) (v1 v2 : Value) (B : Nat) (w : World) (hx : DiskO w B v1 n1 cs v2 n2 ws) (hB : B ≤ w.heap.size) (k0 : Nat) (hk0 : 1 ≤ k0) (hk : k0 + n1 + 2 * n2 ≤ 9999998) :
    Calls Try.prog 32 #[.agg #[v1, v2], .int .i64 (k0 : Int)] w fun e w' => e = .returned (.int .i64 (((k0 + n1 + 2 * n2) : Nat) : Int)) ∧ DiskO w' B v1 n1 (mkT k0 cs n1) v2 n2 (mkWrite (k0 + n1) ws n2) ∧ Below B w w' ∧ (∀ g, g < w.heap.size → v1.ownBlock ≠ some g → v2.ownBlock ≠ some g → w'.heap[g]? = w.heap[g]?) := by
  obtain ⟨oCx, pCx, rfl⟩ := slice_of_owns hx.cells
  have HOCx_0 : Hid ((w).ownsRow B 9 1 (.slice oCx n1 pCx) n1 (cs.map Value.string)) := hx.cells
  obtain ⟨oPx, pPx, rfl⟩ := slice_of_owns hx.pend
  have HOPx_0 : Hid ((w).ownsRow B 67 2 (.slice oPx n2 pPx) n2 (flatWrite ws)) := hx.pend
  clear hx
  have hb0 : Below B w w := Below.refl _ _
  have HFAR_0 : Hid (∀ g, g < w.heap.size → (Value.ownBlock (.slice oCx n1 pCx)) ≠ some g → (Value.ownBlock (.slice oPx n2 pPx)) ≠ some g → (w).heap[g]? = w.heap[g]?) := fun _ _ _ _ => rfl
  go_enter Try.func32, Try.ntmps32
  go_upto_region 1 with fail
  obtain ⟨qv1, hqv1⟩ : ∃ q, q = (w).heap.size := ⟨_, rfl⟩
  obtain ⟨w1, hW1⟩ : ∃ W, W = (w).alloc (.cells #[.slice oCx n1 pCx, .slice oPx n2 pPx] 27) := ⟨_, rfl⟩
  have hz1 : (w).heap.size = qv1 := hqv1.symm
  first | rw [← hW1, ← hqv1] | rw [← hW1]
  have hs1 : w1.heap.size = qv1 + 1 := by rw [hW1, ← hz1]; simp
  have bw : Below (w).heap.size (w) w1 := by rw [hW1]; exact (Below.refl _ _).alloc (Nat.le_refl _) _
  have hb1 : Below B w (w1) := hb0.trans (bw.mono (Nat.le_trans hB hb0.size))
  have HM1 : Hid ((w).heap.size ≤ (w1).heap.size) := bw.size
  have HOCx_1 : Hid ((w1).ownsRow B 9 1 (.slice oCx n1 pCx) n1 (cs.map Value.string)) := owns_below HOCx_0.out bw (fun g hg => owns_lt HOCx_0.out hg)
  have HOPx_1 : Hid ((w1).ownsRow B 67 2 (.slice oPx n2 pPx) n2 (flatWrite ws)) := owns_below HOPx_0.out bw (fun g hg => owns_lt HOPx_0.out hg)
  have HFAR_1 : Hid (∀ g, g < w.heap.size → (Value.ownBlock (.slice oCx n1 pCx)) ≠ some g → (Value.ownBlock (.slice oPx n2 pPx)) ≠ some g → (w1).heap[g]? = w.heap[g]?) := fun g hg aCx aPx => (bw.block g (Nat.lt_of_lt_of_le hg hb0.size)).trans (HFAR_0.out g hg aCx aPx)
  have HBv1_1 : Hid ((w1).heap[qv1]? = some (.cells #[.slice oCx n1 pCx, .slice oPx n2 pPx] 27)) := by show _ = _; rw [hW1, ← hz1]; exact heap_alloc_new _ _
  have HGv1 : Hid (w.heap.size ≤ qv1) := by show _ ≤ _; rw [← hz1]; exact hb0.size
  clear hb0 HFAR_0 HOCx_0 HOPx_0 bw hW1 hz1
  clear hs1 hqv1
  have cv1_0 : (w1).cell? ⟨qv1, 0, none⟩ = some (.slice oCx n1 pCx) := (cell_of HBv1_1.out 0).trans rfl
  go_wp2_with fail
  refine (markTFrom_any _ n1 B cs _ HOCx_1.out (Nat.le_trans hB hb1.size) k0 (by omega) (by omega)).mono ?_
  rintro e w2 ⟨rfl, mk, bm, far⟩
  have hb2 : Below B w w2 := hb1.trans bm
  have HM2 : Hid ((w1).heap.size ≤ w2.heap.size) := bm.size
  have HOPx_2 : Hid ((w2).ownsRow B 67 2 (.slice oPx n2 pPx) n2 (flatWrite ws)) := owns_same HOPx_1.out (fun g hg => far g (owns_lt HOPx_1.out hg) (own_type_ne HOPx_1.out HOCx_1.out (by decide) g hg))
  have HBv1_2 : Hid ((w2).heap[qv1]? = some (.cells #[.slice oCx n1 pCx, .slice oPx n2 pPx] 27)) := blk_far HBv1_1.out far HOCx_1.out (by decide)
  have HFAR_2 : Hid (∀ g, g < w.heap.size → (Value.ownBlock (.slice oCx n1 pCx)) ≠ some g → (Value.ownBlock (.slice oPx n2 pPx)) ≠ some g → (w2).heap[g]? = w.heap[g]?) := fun g hg aCx aPx => (far g (Nat.lt_of_lt_of_le hg hb1.size) aCx).trans (HFAR_1.out g hg aCx aPx)
  have HOCx_2 : Hid ((w2).ownsRow B 9 1 (.slice oCx n1 pCx) n1 ((mkT k0 cs n1).map Value.string)) := mk
  clear hb1 HFAR_1 HOCx_1 HOPx_1 HBv1_1 mk bm far
  clear cv1_0
  have cv1_1 : (w2).cell? ⟨qv1, 1, none⟩ = some (.slice oPx n2 pPx) := (cell_of HBv1_2.out 1).trans rfl
  rw [show ((k0 : Int) + (n1 : Int)) = ((k0 + n1 : Nat) : Int) by omega]
  go_wp2_with fail
  refine (markWriteS_any _ n2 _ B ws _ HOPx_2.out (Nat.le_trans hB hb2.size) (k0 + n1) (by omega) (by omega)).mono ?_
  rintro e w3 ⟨rfl, mk, bm, far⟩
  have hb3 : Below B w w3 := hb2.trans bm
  have HM3 : Hid ((w2).heap.size ≤ w3.heap.size) := bm.size
  have HOCx_3 : Hid ((w3).ownsRow B 9 1 (.slice oCx n1 pCx) n1 ((mkT k0 cs n1).map Value.string)) := owns_same HOCx_2.out (fun g hg => far g (owns_lt HOCx_2.out hg) (own_type_ne HOCx_2.out HOPx_2.out (by decide) g hg))
  have HBv1_3 : Hid ((w3).heap[qv1]? = some (.cells #[.slice oCx n1 pCx, .slice oPx n2 pPx] 27)) := blk_far HBv1_2.out far HOPx_2.out (by decide)
  have HFAR_3 : Hid (∀ g, g < w.heap.size → (Value.ownBlock (.slice oCx n1 pCx)) ≠ some g → (Value.ownBlock (.slice oPx n2 pPx)) ≠ some g → (w3).heap[g]? = w.heap[g]?) := fun g hg aCx aPx => (far g (Nat.lt_of_lt_of_le hg hb2.size) aPx).trans (HFAR_2.out g hg aCx aPx)
  have HOPx_3 : Hid ((w3).ownsRow B 67 2 (.slice oPx n2 pPx) n2 (flatWrite (mkWrite (k0 + n1) ws n2))) := mk
  clear hb2 HFAR_2 HOCx_2 HOPx_2 HBv1_2 mk bm far
  clear cv1_1
  go_wp2_with fail
  go_ret
  exact ⟨congrArg (fun x : Int => Ending.returned (.int .i64 x)) (show (((k0 + n1 : Nat) : Int) + 2 * (n2 : Int)) = (((k0 + n1 + 2 * n2) : Nat) : Int) by omega), ⟨HOCx_3.out, HOPx_3.out⟩, hb3, HFAR_3.out⟩

set_option maxHeartbeats 8000000 in
set_option maxRecDepth 100000 in
theorem heldDisk_any (n1 : Nat) (cs : List ByteArray) (n2 : Nat) (ws : List (Int × ByteArray)) (v1 v2 : Value) (B : Nat) (w : World) (hx : DiskO w B v1 n1 cs v2 n2 ws) (k0 : Nat) (hk0 : 1 ≤ k0) (hk : k0 + n1 + 2 * n2 ≤ 9999998) (m1 : ∀ j, j < n1 → textAt cs j = markOf (k0 + j)) (m2 : ∀ j, j < n2 → (writeAt ws j).1 = ((k0 + n1 + 2 * j + 0 : Nat) : Int) ∧ (writeAt ws j).2 = markOf (k0 + n1 + 2 * j + 1)) :
    Calls Try.prog 33 #[.agg #[v1, v2], .int .i64 (k0 : Int)] w fun e w' => e = .returned (.int .i64 (((k0 + n1 + 2 * n2) : Nat) : Int)) ∧ Below w.heap.size w w' := by
  obtain ⟨oCx, pCx, rfl⟩ := slice_of_owns hx.cells
  have HOCx_0 : Hid ((w).ownsRow B 9 1 (.slice oCx n1 pCx) n1 (cs.map Value.string)) := hx.cells
  obtain ⟨oPx, pPx, rfl⟩ := slice_of_owns hx.pend
  have HOPx_0 : Hid ((w).ownsRow B 67 2 (.slice oPx n2 pPx) n2 (flatWrite ws)) := hx.pend
  clear hx
  have HK1 : Hid (∀ j, j < n1 → textAt cs j = markOf (k0 + j)) := m1
  have HK2 : Hid (∀ j, j < n2 → (writeAt ws j).1 = ((k0 + n1 + 2 * j + 0 : Nat) : Int) ∧ (writeAt ws j).2 = markOf (k0 + n1 + 2 * j + 1)) := m2
  clear m1 m2
  have hb0 : Below w.heap.size w w := Below.refl _ _
  go_enter Try.func33, Try.ntmps33
  go_upto_region 1 with fail
  obtain ⟨qv1, hqv1⟩ : ∃ q, q = (w).heap.size := ⟨_, rfl⟩
  obtain ⟨w1, hW1⟩ : ∃ W, W = (w).alloc (.cells #[.slice oCx n1 pCx, .slice oPx n2 pPx] 27) := ⟨_, rfl⟩
  have hz1 : (w).heap.size = qv1 := hqv1.symm
  first | rw [← hW1, ← hqv1] | rw [← hW1]
  have hs1 : w1.heap.size = qv1 + 1 := by rw [hW1, ← hz1]; simp
  have bw : Below (w).heap.size (w) w1 := by rw [hW1]; exact (Below.refl _ _).alloc (Nat.le_refl _) _
  have hb1 : Below w.heap.size w (w1) := hb0.trans (bw.mono hb0.size)
  have HM1 : Hid ((w).heap.size ≤ (w1).heap.size) := bw.size
  have HOCx_1 : Hid ((w1).ownsRow B 9 1 (.slice oCx n1 pCx) n1 (cs.map Value.string)) := owns_below HOCx_0.out bw (fun g hg => owns_lt HOCx_0.out hg)
  have HOPx_1 : Hid ((w1).ownsRow B 67 2 (.slice oPx n2 pPx) n2 (flatWrite ws)) := owns_below HOPx_0.out bw (fun g hg => owns_lt HOPx_0.out hg)
  have HBv1_1 : Hid ((w1).heap[qv1]? = some (.cells #[.slice oCx n1 pCx, .slice oPx n2 pPx] 27)) := by show _ = _; rw [hW1, ← hz1]; exact heap_alloc_new _ _
  have HGv1 : Hid (w.heap.size ≤ qv1) := by show _ ≤ _; rw [← hz1]; exact hb0.size
  clear hb0 HOCx_0 HOPx_0 bw hW1 hz1
  clear hs1 hqv1
  have cv1_0 : (w1).cell? ⟨qv1, 0, none⟩ = some (.slice oCx n1 pCx) := (cell_of HBv1_1.out 0).trans rfl
  go_wp2_with fail
  refine (heldTFrom_any _ n1 _ cs _ HOCx_1.out k0 (by omega) (by omega) HK1.out).mono ?_
  rintro e w2 ⟨rfl, bw⟩
  have hb2 : Below w.heap.size w (w2) := hb1.trans (bw.mono hb1.size)
  have HM2 : Hid ((w1).heap.size ≤ (w2).heap.size) := bw.size
  have HOCx_2 : Hid ((w2).ownsRow B 9 1 (.slice oCx n1 pCx) n1 (cs.map Value.string)) := owns_below HOCx_1.out bw (fun g hg => owns_lt HOCx_1.out hg)
  have HOPx_2 : Hid ((w2).ownsRow B 67 2 (.slice oPx n2 pPx) n2 (flatWrite ws)) := owns_below HOPx_1.out bw (fun g hg => owns_lt HOPx_1.out hg)
  have HBv1_2 : Hid ((w2).heap[qv1]? = some (.cells #[.slice oCx n1 pCx, .slice oPx n2 pPx] 27)) := blk_below HBv1_1.out bw
  clear hb1 HOCx_1 HOPx_1 HBv1_1 bw
  have hkC : ¬ (((k0 : Int) + (n1 : Int)) < 0) := by omega
  clear cv1_0
  have cv1_1 : (w2).cell? ⟨qv1, 1, none⟩ = some (.slice oPx n2 pPx) := (cell_of HBv1_2.out 1).trans rfl
  rw [show ((k0 : Int) + (n1 : Int)) = ((k0 + n1 : Nat) : Int) by omega]
  go_wp2_with fail
  refine (heldWriteS_any _ n2 _ _ ws _ HOPx_2.out (k0 + n1) (by omega) (by omega) HK2.out).mono ?_
  rintro e w3 ⟨rfl, bw⟩
  have hb3 : Below w.heap.size w (w3) := hb2.trans (bw.mono hb2.size)
  have HM3 : Hid ((w2).heap.size ≤ (w3).heap.size) := bw.size
  have HOCx_3 : Hid ((w3).ownsRow B 9 1 (.slice oCx n1 pCx) n1 (cs.map Value.string)) := owns_below HOCx_2.out bw (fun g hg => owns_lt HOCx_2.out hg)
  have HOPx_3 : Hid ((w3).ownsRow B 67 2 (.slice oPx n2 pPx) n2 (flatWrite ws)) := owns_below HOPx_2.out bw (fun g hg => owns_lt HOPx_2.out hg)
  have HBv1_3 : Hid ((w3).heap[qv1]? = some (.cells #[.slice oCx n1 pCx, .slice oPx n2 pPx] 27)) := blk_below HBv1_2.out bw
  clear hb2 HOCx_2 HOPx_2 HBv1_2 bw
  have hkP : ¬ ((((k0 + n1 : Nat) : Int) + 2 * (n2 : Int)) < 0) := by omega
  clear cv1_1
  go_wp2_with fail
  go_ret
  exact ⟨congrArg (fun x : Int => Ending.returned (.int .i64 x)) (show (((k0 + n1 : Nat) : Int) + 2 * (n2 : Int)) = (((k0 + n1 + 2 * n2) : Nat) : Int) by omega), hb3⟩

end Go.Proofs.Ytckjbgpdbehmaaa

namespace Go.Proofs.Ytckjbgpdbehmaaa
open Go.RowKit
open Go.Lib hiding intOf

/-- The i-th of a list; false beyond it. -/
def keptB (ks : List Bool) (i : Nat) : Bool := ks.getD i false
theorem getElem_kept (l : List Bool) (i : Nat) (h : i < l.length) : l[i]? = some (keptB l i) := by
  unfold keptB
  rw [List.getD_eq_getElem?_getD, List.getElem?_eq_getElem h]
  rfl
theorem keptB_no (ks : List Bool) (i : Nat) (h : ks.length ≤ i) : keptB ks i = false := by
  unfold keptB
  rw [List.getD_eq_getElem?_getD, List.getElem?_eq_none h]
  rfl
/-- A list of truths that is read. -/
def BoolA (w : World) (oa : Option Addr) (n : Nat) (ks : List Bool) : Prop :=
  ks.length = n ∧ ∀ i, i < n → ∃ g, oa = some ⟨g, 0, none⟩ ∧ g < w.heap.size ∧ w.cell? ⟨g, i, none⟩ = some (.bool (keptB ks i))
theorem BoolA.below {w W : World} {oa : Option Addr} {n : Nat} {ks : List Bool} (h : BoolA w oa n ks) (hb : Below w.heap.size w W) : BoolA W oa n ks :=
  ⟨h.1, fun i hi => by
    obtain ⟨g, h1, h2, h3⟩ := h.2 i hi
    exact ⟨g, h1, Nat.lt_of_lt_of_le h2 hb.size, by rw [hb.cell (p := ⟨g, i, none⟩) h2]; exact h3⟩⟩
theorem bool_len {w : World} {base n : Nat} {v : Value} {ks : List Bool} (h : w.ownsRow base 4 1 v n (ks.map Value.bool)) : ks.length = n := by
  have := h.1
  rw [List.length_map] at this
  omega
theorem bool_view {w : World} {base n cap : Nat} {oa : Option Addr} {ks : List Bool} (h : w.ownsRow base 4 1 (.slice oa n cap) n (ks.map Value.bool)) : BoolA w oa n ks := by
  have hl := bool_len h
  refine ⟨hl, fun i hi => ?_⟩
  obtain ⟨g, rfl⟩ := owns_some h (by omega)
  exact ⟨g, rfl, owns_lt h rfl, (owns_at h i _ (by rw [List.getElem?_map, getElem_kept ks i (by omega)]; rfl)).1⟩
/-- A list of truths that came in, in blocks below B. -/
def ArgBool (w : World) (B : Nat) (a : Option Addr) (n : Nat) (ks : List Bool) : Prop :=
  ks.length = n ∧ ∀ i, i < n → ∃ b off, a = some ⟨b, off, none⟩ ∧ b < B ∧ w.cell? ⟨b, off + i, none⟩ = some (.bool (keptB ks i))
theorem ArgBool.below {w w' : World} {B : Nat} {a : Option Addr} {n : Nat} {ks : List Bool} (h : ArgBool w B a n ks) (hb : Below B w w') : ArgBool w' B a n ks :=
  ⟨h.1, fun i hi => by
    obtain ⟨b, off, h1, h2, h3⟩ := h.2 i hi
    exact ⟨b, off, h1, h2, by rw [hb.cell (p := ⟨b, off + i, none⟩) h2]; exact h3⟩⟩
set_option maxRecDepth 100000 in
/-- A list of truths among the arguments: what it holds. -/
theorem openBoolS {H : Type} {enc : TypeId × Value → H} {W : World} {fuel : Nat} {a : Option Addr} {n cap : Nat} {x : DataW H × List MemPlace} (h : DataW.trod enc Try.prog W 0 (fun _ => true) true fuel 28 [.slice a n cap] = some x) :
    ∃ ks, ArgBool W W.heap.size a n ks ∧ n ≤ maxLen := by
  rcases Go.Deep.open_slice Try.underlying28 h with ⟨hcs, _⟩ | ⟨ad, len, c, m, q, Dd, Pl, hcs, _, hl, hm, hmm, _, hx⟩
  · simp at hcs
    obtain ⟨rfl, rfl, rfl⟩ := hcs
    exact ⟨[], ⟨rfl, fun i hi => absurd hi (by omega)⟩, Nat.zero_le _⟩
  · simp at hcs
    obtain ⟨rfl, rfl, rfl⟩ := hcs
    have hm2 : m = cap := by simpa using hmm
    have ce : Try.prog.cellsOf 4 = 1 := by kernel_rfl
    have each : ∀ i, i < n → ∃ y : Bool, W.cell? (ad.add i) = some (.bool y) := by
      intro i hi
      obtain ⟨cs', h1, h2⟩ := hx i (by omega)
      rw [ce] at h1
      obtain ⟨_, hlen, hcell⟩ := World.cells?_some h1
      match cs', hlen with
      | [v0], _ =>
        obtain ⟨s0, e0, _⟩ := DataW.trod_bool Try.underlying4 h2
        simp only [List.cons.injEq, and_true] at e0
        subst e0
        have c0 := hcell 0 (by omega)
        rw [Go.Deep.add_add] at c0
        exact ⟨s0, by simpa using c0⟩
    obtain ⟨q, hq⟩ := Go.Deep.choose_lt each
    have hat : ∀ i, i < n → keptB ((List.range n).map q) i = q i := fun i hi => by
      unfold keptB
      rw [List.getD_eq_getElem?_getD, List.getElem?_map, List.getElem?_range hi]
      rfl
    refine ⟨(List.range n).map q, ⟨by simp, fun i hi => ?_⟩, by omega⟩
    have c0 := hq i hi
    have c3 := hq 0 (by omega)
    have hsp : ad.spot = none := by
      have := World.cell?_spot c3
      simpa [Addr.add] using this
    clear c3
    obtain ⟨b, off, sp⟩ := ad
    simp only at hsp
    subst hsp
    simp only [addr_add] at c0
    rw [hat i hi]
    exact ⟨b, off, rfl, World.block_lt_of_cell? W _ c0, c0⟩
theorem infoBool : (Try.prog.info? 4).map (fun i => (i.zero, i.size, i.bytes)) = some (some (.bool false), 1, 1) := by kernel_rfl

/-- The first k of a row of n truths are told. -/
def PartBool (w : World) (g n k : Nat) (ks : List Bool) : Prop :=
  ∃ cur, w.heap[g]? = some (.cells cur 4 (0, 0)) ∧ cur.size = n ∧ ∀ i, i < k → cur[i]? = some (.bool (keptB ks i))
set_option maxHeartbeats 4000000 in
set_option maxRecDepth 100000 in
theorem toBoolS_any (B : Nat) (a : Option Addr) (n cap : Nat) (ks : List Bool) (w : World) (harg : ArgBool w B a n ks) (hB : B ≤ w.heap.size) (hn : n ≤ 1048576) :
    Calls Try.prog 34 #[.slice a n cap] w fun e w' => ∃ v, e = .returned v ∧ w'.ownsRow w.heap.size 4 1 v n (ks.map Value.bool) ∧ Below w.heap.size w w' := by
  obtain ⟨i0, hi, hz0, hz1, hz2⟩ := info_parts infoBool
  obtain ⟨M, hM⟩ : ∃ M, M = madeCells (Value.bool false).cells (((n : Nat) : Int).toNat * i0.size) := ⟨_, rfl⟩
  have hmk : ∀ W : World, (Instr.makeSlice 28 (.int .i64 (n : Int)) (.int .i64 (n : Int))).run Try.prog W = .ok (.slice (some ⟨W.heap.size, 0, none⟩) n n) (W.alloc (.cells M 4)) := fun W => by
    have h := run_make (P := Try.prog) W 28 4 i0 (.bool false) Try.underlying28 hi hz0 .i64 .i64 (n : Int) (n : Int) (by omega) (by omega) (by rw [hz2]; omega) (by omega)
    rw [← hM] at h
    simpa using h
  have hMs : M.size = n := by rw [hM, size_madeCells, hz1]; simp
  have HA : Hid (∀ W, Below w.heap.size w W → ArgBool W B a n ks) := fun W h => harg.below (h.mono hB)
  have HLN : Hid (ks.length = n) := harg.1
  clear hM harg
  have HP : Hid (PartBool (w.alloc (.cells M 4)) w.heap.size n 0 ks) := ⟨M, heap_alloc_new w _, hMs, fun i h => absurd h (by omega)⟩
  go_enter Try.func34, Try.ntmps34
  go_wp2
  go_loopw [4] (fun i wr => ∃ k : Nat, k ≤ n ∧ i = .int .i64 (k : Int) ∧ Hid (PartBool wr w.heap.size n k ks) ∧ Hid (Below w.heap.size w wr)) (fun i _ => n - (intOf i).toNat)
  case atStart => exact ⟨0, Nat.zero_le _, rfl, HP, (Below.refl _ _).alloc (Nat.le_refl _) _⟩
  case round =>
    obtain ⟨k, hk, rfl, hpr, HBW⟩ := hrel
    by_cases hlt : k < n
    · have hlt2 : (k : Int) < (n : Int) := by omega
      obtain ⟨b, off, rfl, hbB, hc1⟩ := (HA.out wr HBW.out).2 k hlt
      have HPUT : Hid (PartBool (wr.setCell ⟨w.heap.size, k, none⟩ (.bool (keptB ks k))) w.heap.size n (k + 1) ks) := by
        obtain ⟨cur, h1, h2, h3⟩ := hpr.out
        refine ⟨_, heap_set _ w.heap.size k _ _ _ _ h1, by simpa using h2, fun i hi => ?_⟩
        by_cases e : i = k
        · subst e; rw [Array.getElem?_setIfInBounds_self_of_lt (by omega)]
        · rw [Array.getElem?_setIfInBounds_ne (by omega)]; exact h3 i (by omega)
      obtain ⟨u0, hu0, f0⟩ : ∃ u, wr.cell? ⟨w.heap.size, k, none⟩ = some u ∧ wr.frozen? ⟨w.heap.size, k, none⟩ = false := by
        obtain ⟨cur, h1, h2, _⟩ := hpr.out
        refine ⟨cur[k]'(by omega), ?_, by simp [World.frozen?, h1]⟩
        simp only [World.cell?, h1]
        simp [show k < cur.size by omega]
      generalize keptB ks k = z at hc1 HPUT
      go_wp2
      go_roundw
      case rel => exact ⟨k + 1, by omega, by go_num, HPUT, HBW.out.setCell (Nat.le_refl _) _⟩
      case measure => simp [intOf]; omega
    · obtain rfl : k = n := by omega
      have HF : Hid (wr.ownsRow w.heap.size 4 1 (.slice (some ⟨w.heap.size, 0, none⟩) k k) k (ks.map Value.bool)) := by
        obtain ⟨cur, h1, h2, h3⟩ := hpr.out
        refine ⟨by rw [List.length_map, HLN.out]; omega, .inr ⟨_, k, cur, rfl, Nat.le_refl _, h1, Nat.le_refl _, by unfold maxLen; omega, by omega, ?_⟩⟩
        apply List.ext_getElem?
        intro j
        rw [List.getElem?_take]
        by_cases hj : j < k
        · rw [if_pos (by omega), List.getElem?_map, getElem_kept ks j (by rw [HLN.out]; exact hj)]
          simpa using h3 j hj
        · rw [if_neg (by omega), List.getElem?_eq_none (by rw [List.length_map, HLN.out]; omega)]
      go_wp2
      go_ret
      exact ⟨_, rfl, HF.out, HBW.out⟩

set_option maxHeartbeats 4000000 in
set_option maxRecDepth 100000 in
theorem eqBoolS_any (o1 o2 : Option Addr) (n c1 c2 : Nat) (ks : List Bool) (w : World) (h1 : BoolA w o1 n ks) (h2 : BoolA w o2 n ks) (hn : n ≤ 2000000) :
    Calls Try.prog 35 #[.slice o1 n c1, .slice o2 n c2] w fun e w' => e = .returned (.bool true) ∧ Below w.heap.size w w' := by
  have H1 : Hid (∀ W, Below w.heap.size w W → BoolA W o1 n ks) := fun W h => h1.below h
  have H2 : Hid (∀ W, Below w.heap.size w W → BoolA W o2 n ks) := fun W h => h2.below h
  clear h1 h2
  go_enter Try.func35, Try.ntmps35
  go_wp2
  go_loopw [5] (fun i wr => ∃ k : Nat, k ≤ n ∧ i = .int .i64 (k : Int) ∧ Hid (Below w.heap.size w wr)) (fun i _ => n - (intOf i).toNat)
  case atStart => exact ⟨0, Nat.zero_le _, rfl, Below.refl _ _⟩
  case round =>
    obtain ⟨k, hk, rfl, HBW⟩ := hrel
    by_cases hlt : k < n
    · have hlt2 : (k : Int) < (n : Int) := by omega
      obtain ⟨y, hy⟩ : ∃ y, y = keptB ks k := ⟨_, rfl⟩
      obtain ⟨g1, rfl, hg1, a0⟩ := (H1.out wr HBW.out).2 k hlt
      obtain ⟨g2, rfl, hg2, b0⟩ := (H2.out wr HBW.out).2 k hlt
      rw [← hy] at a0 b0
      clear hy
      have hyy : (y != y) = false := by simp
      go_wp2
      go_region
      go_wp2
      go_roundw
      case rel => exact ⟨k + 1, by omega, by go_num, HBW.out.drew⟩
      case measure => simp [intOf]; omega
    · go_wp2
      go_ret
      exact ⟨rfl, HBW.out⟩

set_option maxHeartbeats 4000000 in
set_option maxRecDepth 100000 in
theorem markBoolS_any (oa : Option Addr) (n cap base : Nat) (ks : List Bool) (w : World) (h1 : w.ownsRow base 4 1 (.slice oa n cap) n (ks.map Value.bool)) (k0 : Nat) (hn : k0 + n ≤ 9999999) :
    Calls Try.prog 36 #[.slice oa n cap, .int .i64 (k0 : Int)] w fun e w' => e = .returned (.int .i64 ((k0 : Int) + (n : Int))) ∧ (∃ ms : List Bool, w'.ownsRow base 4 1 (.slice oa n cap) n (ms.map Value.bool)) ∧ Below base w w' ∧ Far (.slice oa n cap) w w' := by
  have H1 : Hid (w.ownsRow base 4 1 (.slice oa n cap) n (ks.map Value.bool)) := h1
  clear h1
  go_enter Try.func36, Try.ntmps36
  go_wp2
  go_loopw [1, 5] (fun q i wr => ∃ k : Nat, k ≤ n ∧ i = .int .i64 (k : Int) ∧ q = .int .i64 ((k0 : Int) + (k : Int)) ∧ Hid (Below base w wr) ∧ Hid (∃ ms : List Bool, wr.ownsRow base 4 1 (.slice oa n cap) n (ms.map Value.bool)) ∧ Hid (∀ j, j < w.heap.size → (Value.slice oa n cap).ownBlock ≠ some j → wr.heap[j]? = w.heap[j]?)) (fun _ i _ => n - (intOf i).toNat)
  case atStart => exact ⟨0, Nat.zero_le _, rfl, by simp, Below.refl _ _, ⟨ks, H1.out⟩, fun j _ _ => rfl⟩
  case round =>
    obtain ⟨k, hk, rfl, rfl, HB, HO, HF⟩ := hrel
    by_cases hlt : k < n
    · have hlt2 : (k : Int) < (n : Int) := by omega
      obtain ⟨g, rfl⟩ := owns_some H1.out (by omega)
      have HG : Hid (base ≤ g) := owns_ge H1.out rfl
      obtain ⟨ms, hms⟩ := HO.out
      have hl := bool_len hms
      obtain ⟨c0, f0⟩ := owns_at hms k _ (by rw [List.getElem?_map, getElem_kept ms k (by omega)]; rfl)
      have HN : Hid (∀ b : Bool, (wr.setCell ⟨g, k, none⟩ (.bool b)).ownsRow base 4 1 (.slice (some ⟨g, 0, none⟩) n cap) n ((ms.set k b).map Value.bool)) := fun b => by rw [List.map_set]; exact owns_put hms _ _
      have HB2 : Hid (∀ b : Bool, Below base w (wr.setCell ⟨g, k, none⟩ (.bool b))) := fun b => HB.out.setCell (p := ⟨g, k, none⟩) HG.out _
      have HF2 : Hid (∀ (b : Bool) (j : Nat), j < w.heap.size → (Value.slice (some ⟨g, 0, none⟩) n cap).ownBlock ≠ some j → (wr.setCell ⟨g, k, none⟩ (.bool b)).heap[j]? = w.heap[j]?) := fun b j hj hne => (heap_setCell_other _ _ j _ (fun e => hne (by rw [e]; rfl))).trans (HF.out j hj hne)
      generalize keptB ms k = z at c0
      clear hms hl
      go_wp2
      go_roundw
      case rel => exact ⟨k + 1, by omega, by go_num, by first | go_num | (congr 1; omega), HB2.out _, ⟨_, HN.out _⟩, HF2.out _⟩
      case measure => simp [intOf]; omega
    · obtain rfl : k = n := by omega
      go_wp2
      go_ret
      exact ⟨rfl, HO.out, HB.out, HF.out⟩

end Go.Proofs.Ytckjbgpdbehmaaa

namespace Go.Proofs.Ytckjbgpdbehmaaa
open Go.RowKit
open Go.Lib hiding intOf

/-- A disk of so many cells is right. -/
def DiskN (n : Nat) (ws : List (Int × ByteArray)) : Prop := n = 20 ∧ ws.length ≤ 16 ∧ ∀ x ∈ ws, 0 ≤ x.1 ∧ x.1 ≤ 19
/-- A disk is right. -/
def DiskP (cs : List ByteArray) (ws : List (Int × ByteArray)) : Prop := cs.length = 20 ∧ ws.length ≤ 16 ∧ ∀ x ∈ ws, 0 ≤ x.1 ∧ x.1 ≤ 19
/-- The cells behind the first k writes, those landing of which f tells. -/
def landTo (cs : List ByteArray) (ws : List (Int × ByteArray)) (f : Nat → Bool) : Nat → List ByteArray
  | 0 => cs
  | k + 1 => if f k = true then (landTo cs ws f k).set (writeAt ws k).1.toNat (writeAt ws k).2 else landTo cs ws f k
theorem landTo_len (cs : List ByteArray) (ws : List (Int × ByteArray)) (f : Nat → Bool) : ∀ k, (landTo cs ws f k).length = cs.length
  | 0 => rfl
  | k + 1 => by
    rw [landTo]
    split
    · rw [List.length_set, landTo_len cs ws f k]
    · exact landTo_len cs ws f k
theorem getElem_textAt (l : List ByteArray) (i : Nat) (h : i < l.length) : l[i]? = some (textAt l i) := by
  unfold textAt
  rw [List.getD_eq_getElem?_getD, List.getElem?_eq_getElem h]
  rfl
theorem textAt_set (l : List ByteArray) (k j : Nat) (x : ByteArray) : textAt (l.set k x) j = if j = k ∧ k < l.length then x else textAt l j := by
  unfold textAt
  rw [List.getD_eq_getElem?_getD, List.getElem?_set, List.getD_eq_getElem?_getD]
  by_cases h : j = k
  · subst h
    by_cases h2 : j < l.length
    · simp [h2]
    · rw [if_pos rfl, if_neg h2, if_neg (fun e => h2 e.2), List.getElem?_eq_none (by omega)]
  · rw [if_neg (fun e => h e.symm), if_neg (fun e => h e.1)]
def diskB (cs : List ByteArray) (ws : List (Int × ByteArray)) : Bool := decide (cs.length = 20) && (decide (ws.length ≤ 16) && ws.all (fun x => decide (0 ≤ x.1) && decide (x.1 ≤ 19)))
theorem diskB_iff (cs : List ByteArray) (ws : List (Int × ByteArray)) : diskB cs ws = true ↔ DiskP cs ws := by
  unfold diskB DiskP
  simp only [Bool.and_eq_true, decide_eq_true_iff, List.all_eq_true]
theorem diskB_no {cs : List ByteArray} {ws : List (Int × ByteArray)} (h : ¬ DiskP cs ws) : diskB cs ws = false := by
  cases e : diskB cs ws with
  | false => rfl
  | true => exact absurd ((diskB_iff cs ws).1 e) h
/-- What Flush and Crash answer: the cells. -/
def landC (cs : List ByteArray) (ws : List (Int × ByteArray)) (f : Nat → Bool) : List ByteArray := if diskB cs ws = true then landTo cs ws f ws.length else []
theorem landC_no {cs : List ByteArray} {ws : List (Int × ByteArray)} (h : ¬ DiskP cs ws) (f : Nat → Bool) : landC cs ws f = [] := by unfold landC; rw [diskB_no h]; rfl
theorem landC_yes {cs : List ByteArray} {ws : List (Int × ByteArray)} (h : DiskP cs ws) (f : Nat → Bool) : landC cs ws f = landTo cs ws f ws.length := by unfold landC; rw [if_pos ((diskB_iff cs ws).2 h)]
theorem landC_len (cs : List ByteArray) (ws : List (Int × ByteArray)) (f : Nat → Bool) : (landC cs ws f).length ≤ cs.length := by
  unfold landC
  split
  · rw [landTo_len]; exact Nat.le_refl _
  · exact Nat.zero_le _
/-- A call answers a disk of its own. -/
def DiskIs (cs : List ByteArray) (ws : List (Int × ByteArray)) (w : World) (e : Ending) (w' : World) : Prop :=
  ∃ v1 v2, e = .returned (.agg #[v1, v2]) ∧ DiskO w' w.heap.size v1 cs.length cs v2 ws.length ws ∧ Below w.heap.size w w'
theorem diskO_nil (W : World) (B : Nat) : DiskO W B (.slice none 0 0) 0 [] (.slice none 0 0) 0 [] := ⟨World.ownsRow_nil _ _ _ _, World.ownsRow_nil _ _ _ _⟩
end Go.Proofs.Ytckjbgpdbehmaaa

namespace Go.Proofs.Ytckjbgpdbehmaaa
open Go.RowKit
open Go.Lib hiding intOf

/-- A list whose cells can be read, nil or not. -/
def Src (w : World) (size : Nat) (v : Value) (m : Nat) (news : List Value) : Prop :=
  news.length = m * size ∧ (∀ u ∈ news, u.oneCell' = true) ∧ ((v = .slice none 0 0 ∧ m = 0) ∨ ∃ ad c, v = .slice (some ad) m c ∧ ∀ j u, news[j]? = some u → w.cell? (ad.add j) = some u)
theorem Src.of_owns {w : World} {base : Nat} {t : TypeId} {size n : Nat} {v : Value} {xs : List Value} (h : w.ownsRow base t size v n xs) (h1 : ∀ u ∈ xs, u.oneCell' = true) : Src w size v n xs := by
  obtain ⟨hl, hv⟩ := h
  refine ⟨hl, h1, ?_⟩
  rcases hv with ⟨rfl, h0⟩ | ⟨g, cap, cur, rfl, hb, hg, hn, hm, hcs, htk⟩
  · exact .inl ⟨rfl, h0⟩
  · refine .inr ⟨⟨g, 0, none⟩, cap, rfl, fun j u hj => ?_⟩
    have e : (⟨g, 0, none⟩ : Addr).add j = ⟨g, j, none⟩ := by unfold Addr.add; split <;> simp_all
    rw [e, ← htk, List.getElem?_take] at *
    split at hj
    · simpa [World.cell?, hg] using hj
    · cases hj
theorem Src.texts {w : World} {base : Nat} {t : TypeId} {n : Nat} {v : Value} {xs : List ByteArray} (h : w.ownsRow base t 1 v n (xs.map Value.string)) : Src w 1 v n (xs.map Value.string) :=
  Src.of_owns h (fun u hu => by obtain ⟨x, _, rfl⟩ := List.mem_map.1 hu; rfl)

section
variable {P : Program} {w : World}
theorem run_append_src (t ty : TypeId) (base : Nat) (e : TypeId) (i : TypeInfo) (z : Value) (size bytes : Nat) (ht : P.underlying t = some (.slice e)) (hi : P.info? e = some i) (hz : i.zero = some z)
    (hsize : i.size = size) (hby : i.bytes = bytes) (hzs : z.cells.size = size) (hsz : 0 < size)
    (v : Value) (n : Nat) (xs : List Value) (hown : w.ownsRow base e size v n xs) (x : Value) (m : Nat) (news : List Value) (hsrc : Src w size x m news)
    (h63 : n + m ≤ maxLen) (hbytes : (n + m) * bytes ≤ 140737488355328) (hbase : base ≤ w.heap.size) :
    ∃ v' w', (Builtin.append_ #[t, t] ty #[v, x]).run P w = .ok v' w' ∧ w'.ownsRow base e size v' (n + m) (xs ++ news) ∧ w.grownBy w' v.ownBlock := by
  obtain ⟨hl, h1, ⟨rfl, rfl⟩ | ⟨ad, c, rfl, hnews⟩⟩ := hsrc
  · have hn : news = [] := List.length_eq_zero_iff.1 (by omega)
    subst hn
    exact ⟨v, w, run_append_owned_none (P := P) (w := w) base t ty e i size ht hi v n xs hown, by simpa using hown, World.grownBy.refl _ _⟩
  · obtain ⟨v', w', hr, h2, h3, _, _⟩ := run_append_own_at (P := P) w base t ty e i z size bytes ht hi hz hsize hby hzs hsz v n xs hown ad m c news hl hnews h1 h63 hbytes hbase
    exact ⟨v', w', hr, h2, h3⟩
theorem wp_append_src {o : Oper} {a : Act} {K : Act → World → Prop} {Q : Exit → Act → World → Prop} (s x : Operand) (t : TypeId)
    (ho : o.op = .call { callee := .builtin .append, args := #[s, x], argTypes := #[t, t] })
    (base : Nat) (e : TypeId) (i : TypeInfo) (z : Value) (size bytes : Nat) (ht : P.underlying t = some (.slice e)) (hi : P.info? e = some i) (hz : i.zero = some z)
    (hsize : i.size = size) (hby : i.bytes = bytes) (hzs : z.cells.size = size) (hsz : 0 < size)
    (v : Value) (n : Nat) (xs : List Value) (hs : a.eval s = v) (hown : w.ownsRow base e size v n xs) (y : Value) (m : Nat) (news : List Value) (hx : a.eval x = y) (hsrc : Src w size y m news)
    (h63 : n + m ≤ maxLen) (hbytes : (n + m) * bytes ≤ 140737488355328) (hbase : base ≤ w.heap.size)
    (h : ∀ v' w', w'.ownsRow base e size v' (n + m) (xs ++ news) → w.grownBy w' v.ownBlock → K (a.put o.dst v') w') : Oper.wp P o a w K Q := by
  obtain ⟨v', w', hr, h2, h3⟩ := run_append_src (P := P) (w := w) t o.type base e i z size bytes ht hi hz hsize hby hzs hsz v n xs hown y m news hsrc h63 hbytes hbase
  unfold Oper.wp execOp
  simp only [ho, resolve, invoke, builtin, Sem.run_bind, Sem.run_pure, Result.andThen_ok, List.map_toArray, List.map_cons, List.map_nil, hs, hx, hr]
  exact h v' w' h2 h3
theorem wpList_append_src {ops : Array Oper} {rest : List Oper} {o : Oper} {a : Act} {Q : Exit → Act → World → Prop} (hgd : o.guard = none) (s x : Operand) (t : TypeId)
    (ho : o.op = .call { callee := .builtin .append, args := #[s, x], argTypes := #[t, t] })
    (base : Nat) (e : TypeId) (i : TypeInfo) (z : Value) (size bytes : Nat) (ht : P.underlying t = some (.slice e)) (hi : P.info? e = some i) (hz : i.zero = some z)
    (hsize : i.size = size) (hby : i.bytes = bytes) (hzs : z.cells.size = size) (hsz : 0 < size)
    (v : Value) (n : Nat) (xs : List Value) (hs : a.eval s = v) (hown : w.ownsRow base e size v n xs) (y : Value) (m : Nat) (news : List Value) (hx : a.eval x = y) (hsrc : Src w size y m news)
    (h63 : n + m ≤ maxLen) (hbytes : (n + m) * bytes ≤ 140737488355328) (hbase : base ≤ w.heap.size)
    (h : ∀ v' w', w'.ownsRow base e size v' (n + m) (xs ++ news) → w.grownBy w' v.ownBlock → wpList P ops Q rest (a.put o.dst v') w') : wpList P ops Q (o :: rest) a w :=
  wpList_plain hgd fun _ hK => wp_append_src s x t ho base e i z size bytes ht hi hz hsize hby hzs hsz v n xs hs hown y m news hx hsrc h63 hbytes hbase fun v' w' h2 h3 => hK _ _ (h v' w' h2 h3)
end
end Go.Proofs.Ytckjbgpdbehmaaa

namespace Go.Proofs.Ytckjbgpdbehmaaa
open Go.RowKit

def hxB (d : Nat) : UInt8 := UInt8.ofNat (if d < 10 then 48 + d else 87 + d)
def hxF : Nat → Nat → List UInt8
  | 0, _ => []
  | f + 1, n => if n = 0 then [] else hxF f (n / 16) ++ [hxB (n % 16)]
theorem hxF_zero (f : Nat) : hxF f 0 = [] := by cases f <;> simp [hxF]
theorem hxF_pos (f n : Nat) (h : n ≠ 0) : hxF (f + 1) n = hxF f (n / 16) ++ [hxB (n % 16)] := by simp [hxF, h]
def hexL (n : Nat) : List UInt8 := if 1000000 < n then [] else if n = 0 then [48] else hxF 5 n
abbrev HexB (b : UInt8) : Prop := (48 ≤ b.toNat ∧ b.toNat ≤ 57) ∨ (97 ≤ b.toNat ∧ b.toNat ≤ 102)
def hexV (b : UInt8) : Nat := if b.toNat ≤ 57 then b.toNat - 48 else b.toNat - 87
theorem hxB_facts (d : Nat) (h : d < 16) : HexB (hxB d) ∧ hexV (hxB d) = d ∧ (d ≠ 0 → hxB d ≠ 48) := by
  have : ∀ d : Fin 16, HexB (hxB d.1) ∧ hexV (hxB d.1) = d.1 ∧ (d.1 ≠ 0 → hxB d.1 ≠ 48) := by decide
  exact this ⟨d, h⟩
def hexVal (l : List UInt8) : Nat := l.foldl (fun v b => 16 * v + hexV b) 0
theorem hexVal_snoc (l : List UInt8) (b : UInt8) : hexVal (l ++ [b]) = 16 * hexVal l + hexV b := by simp [hexVal]
theorem hx_facts : ∀ (f n : Nat), n < 16 ^ f → (∀ b ∈ hxF f n, HexB b) ∧ hexVal (hxF f n) = n ∧ (∀ b, (hxF f n).head? = some b → b ≠ 48) ∧ (n ≠ 0 → hxF f n ≠ []) := by
  intro f
  induction f with
  | zero => intro n h; simp at h; subst h; simp [hxF, hexVal]
  | succ f ih =>
    intro n h
    by_cases h0 : n = 0
    · subst h0; rw [hxF_zero]; simp [hexVal]
    · rw [Nat.pow_succ] at h
      obtain ⟨h1, h2, h3, h4⟩ := ih (n / 16) (by omega)
      have hd := hxB_facts (n % 16) (by omega)
      rw [hxF_pos f n h0]
      refine ⟨fun b hb => ?_, ?_, fun b hb => ?_, fun _ => by simp⟩
      · simp only [List.mem_append, List.mem_singleton] at hb
        rcases hb with hb | rfl
        · exact h1 b hb
        · exact hd.1
      · rw [hexVal_snoc, h2, hd.2.1]; omega
      · by_cases hz : n / 16 = 0
        · rw [hz, hxF_zero] at hb
          simp at hb
          subst hb
          exact hd.2.2 (by omega)
        · have hne := h4 hz
          obtain ⟨c, r, hc⟩ : ∃ c r, hxF f (n / 16) = c :: r := by
            cases hx : hxF f (n / 16) with
            | nil => exact absurd hx hne
            | cons c r => exact ⟨c, r, rfl⟩
          rw [hc] at hb h3
          simp at hb h3
          rw [← hb]; exact h3
theorem hx_len : ∀ (f n k : Nat), n < 16 ^ k → (hxF f n).length ≤ k := by
  intro f
  induction f with
  | zero => intro n k _; simp [hxF]
  | succ f ih =>
    intro n k h
    by_cases h0 : n = 0
    · subst h0; rw [hxF_zero]; simp
    · cases k with
      | zero => simp at h; omega
      | succ k =>
        rw [Nat.pow_succ] at h
        have := ih (n / 16) k (by omega)
        rw [hxF_pos f n h0]
        simp; omega
/-- A length that may begin a part: one to four digits, no needless nought. -/
theorem hex_head (n : Nat) (h : n < 65536) : 1 ≤ (hexL n).length ∧ (hexL n).length ≤ 4 ∧ (∀ b ∈ hexL n, HexB b) ∧ hexVal (hexL n) = n ∧ (1 < (hexL n).length → ∀ b, (hexL n).head? = some b → b ≠ 48) := by
  unfold hexL
  rw [if_neg (by omega)]
  by_cases h0 : n = 0
  · rw [if_pos h0, h0]
    refine ⟨by simp, by simp, ?_, rfl, by simp⟩
    intro b hb
    simp at hb
    subst hb
    decide
  · rw [if_neg h0]
    obtain ⟨h1, h2, h3, h4⟩ := hx_facts 5 n (by omega)
    have hl := hx_len 5 n 4 (by omega)
    refine ⟨?_, hl, h1, h2, fun _ => h3⟩
    cases hx : hxF 5 n with
    | nil => exact absurd hx (h4 h0)
    | cons c r => simp

/-- A line's end held against what stands there: 0 it is one, 1 it may become one, 2 it is none. -/
def lineC : List UInt8 → Int
  | [] => 1
  | [c] => if c = 13 then 1 else 2
  | c :: d :: _ => if c = 13 ∧ d = 10 then 0 else 2
def digN : Nat → List UInt8 → Nat
  | 0, _ => 0
  | _ + 1, [] => 0
  | f + 1, c :: r => if HexB c then digN f r + 1 else 0
theorem digN_le : ∀ (f : Nat) (r : List UInt8), digN f r ≤ f ∧ digN f r ≤ r.length
  | 0, _ => by simp [digN]
  | _ + 1, [] => by simp [digN]
  | f + 1, c :: r => by
    have := digN_le f r
    unfold digN
    split
    · simp; omega
    · simp
theorem digN_hex : ∀ (f : Nat) (r : List UInt8), ∀ b ∈ r.take (digN f r), HexB b
  | 0, _ => by simp [digN]
  | _ + 1, [] => by simp [digN]
  | f + 1, c :: r => by
    have := digN_hex f r
    unfold digN
    split
    · rename_i h
      intro b hb
      simp only [List.take_succ_cons, List.mem_cons] at hb
      rcases hb with rfl | hb
      · exact h
      · exact this b hb
    · simp
theorem digN_pre : ∀ (l rest : List UInt8) (f : Nat), l.length ≤ f → (∀ b ∈ l, HexB b) → (l.length = f ∨ ∀ c r, rest = c :: r → ¬ HexB c) → digN f (l ++ rest) = l.length
  | [], rest, f, _, _, h => by
    rcases h with h | h
    · simp at h; subst h; simp [digN]
    · cases f with
      | zero => simp [digN]
      | succ f =>
        cases rest with
        | nil => simp [digN]
        | cons c r => simp [digN, h c r rfl]
  | b :: l, rest, f, hf, hh, h => by
    cases f with
    | zero => simp at hf
    | succ f =>
      have ih := digN_pre l rest f (by simpa using hf) (fun x hx => hh x (by simp [hx])) (by
        rcases h with h | h
        · left; simpa using h
        · right; exact h)
      simp [digN, hh b (by simp), ih]
def lenK (r : List UInt8) : Nat := digN 5 r
abbrev lenBad (r : List UInt8) : Prop := 4 < lenK r ∨ (1 < lenK r ∧ r.head? = some 48) ∨ (lenK r = 0 ∧ r ≠ [])
/-- What is told of a length and its line's end. -/
def lenC (r : List UInt8) : Int := if lenBad r then 2 else if lenK r = 0 then 1 else lineC (r.drop (lenK r))
def lenN (r : List UInt8) : Nat := hexVal (r.take (lenK r))
theorem lineC_zero {r : List UInt8} (h : lineC r = 0) : ∃ t, r = 13 :: 10 :: t := by
  match r with
  | [] => simp [lineC] at h
  | [c] => simp only [lineC] at h; split at h <;> simp at h
  | c :: d :: t =>
    simp only [lineC] at h
    split at h
    · rename_i e; exact ⟨t, by rw [e.1, e.2]⟩
    · simp at h
theorem lineC_vals (r : List UInt8) : lineC r = 0 ∨ lineC r = 1 ∨ lineC r = 2 := by
  match r with
  | [] => simp [lineC]
  | [c] => simp only [lineC]; split <;> simp
  | c :: d :: t => simp only [lineC]; split <;> simp
theorem lineC_mono {r t : List UInt8} (h : lineC r ≠ 1) : lineC (r ++ t) = lineC r := by
  match r with
  | [] => simp [lineC] at h
  | [c] =>
    by_cases e : c = 13
    · simp [lineC, e] at h
    · cases t with
      | nil => simp
      | cons d t => simp [lineC, e]
  | c :: d :: u => simp [lineC]
theorem lenC_zero {r : List UInt8} (h : lenC r = 0) : 1 ≤ lenK r ∧ lenK r ≤ 4 ∧ ¬ lenBad r ∧ ∃ t, r.drop (lenK r) = 13 :: 10 :: t := by
  unfold lenC at h
  by_cases hb : lenBad r
  · rw [if_pos hb] at h; simp at h
  · rw [if_neg hb] at h
    by_cases h0 : lenK r = 0
    · rw [if_pos h0] at h; simp at h
    · rw [if_neg h0] at h
      refine ⟨by omega, ?_, hb, lineC_zero h⟩
      unfold lenBad at hb
      omega
theorem lenC_vals (r : List UInt8) : lenC r = 0 ∨ lenC r = 1 ∨ lenC r = 2 := by
  unfold lenC
  split
  · simp
  · split
    · simp
    · exact lineC_vals _
/-- A length, and a line's end behind it. -/
theorem len_head (n : Nat) (h : n < 65536) (rest : List UInt8) (hr : ∀ c r, rest = c :: r → c = 13) : lenK (hexL n ++ rest) = (hexL n).length ∧ lenN (hexL n ++ rest) = n ∧ lenC (hexL n ++ rest) = lineC rest := by
  obtain ⟨h1, h2, h3, h4, h5⟩ := hex_head n h
  have hk : lenK (hexL n ++ rest) = (hexL n).length := digN_pre _ _ 5 (by omega) h3 (.inr (fun c r e => by rw [hr c r e]; decide))
  refine ⟨hk, ?_, ?_⟩
  · unfold lenN; rw [hk, List.take_left]; exact h4
  · unfold lenC
    rw [if_neg, hk, if_neg (by omega), List.drop_left]
    unfold lenBad
    rw [hk]
    rintro (h | ⟨h, e⟩ | ⟨h, _⟩)
    · omega
    · cases hx : hexL n with
      | nil => rw [hx] at h1; simp at h1
      | cons c r =>
        rw [hx] at e h5 h
        simp at e
        exact h5 (by simpa using h) c (by simp) e
    · omega
theorem lenK_mono {r : List UInt8} (t : List UInt8) (h : lenC r = 0) : lenK (r ++ t) = lenK r ∧ lenN (r ++ t) = lenN r ∧ lenC (r ++ t) = 0 := by
  obtain ⟨h1, h2, hb, u, hu⟩ := lenC_zero h
  have hl := digN_le 5 r
  have e : r = r.take (lenK r) ++ 13 :: 10 :: u := by rw [← hu, List.take_append_drop]
  have hlen : (r.take (lenK r)).length = lenK r := by rw [List.length_take]; unfold lenK; omega
  have hk : lenK (r ++ t) = lenK r := by
    have : r ++ t = r.take (lenK r) ++ (13 :: 10 :: u ++ t) := by rw [← List.append_assoc, ← e]
    rw [this]
    have := digN_pre (r.take (lenK r)) (13 :: 10 :: u ++ t) 5 (by omega) (digN_hex 5 r) (.inr (fun c q e => by simp at e; rw [← e.1]; decide))
    show digN 5 _ = _
    rw [this, hlen]
  refine ⟨hk, ?_, ?_⟩
  · unfold lenN; rw [hk, List.take_append_of_le_length (by unfold lenK; omega)]
  · unfold lenC
    rw [if_neg, hk, if_neg (by omega), List.drop_append_of_le_length (by unfold lenK; omega), hu]
    · simp [lineC]
    · unfold lenBad at hb ⊢
      rw [hk]
      rintro (h | ⟨h, e⟩ | ⟨h, _⟩)
      · omega
      · refine hb (.inr (.inl ⟨h, ?_⟩))
        cases r with
        | nil => simp at hl; unfold lenK at h; omega
        | cons c q => simpa using e
      · omega
theorem lenC_mono {r : List UInt8} (t : List UInt8) (h : lenC r ≠ 1) : lenC (r ++ t) = lenC r := by
  rcases lenC_vals r with h0 | h1 | h2
  · rw [(lenK_mono t h0).2.2, h0]
  · exact absurd h1 h
  · have hl := digN_le 5 r
    have hl2 := digN_le 5 (r ++ t)
    have hh := digN_hex 5 r
    have hlen : (r.take (lenK r)).length = lenK r := by rw [List.length_take]; unfold lenK; omega
    rw [h2]
    by_cases hb : lenBad r
    · have hb2 : lenBad (r ++ t) := by
        have hge : lenK r ≤ lenK (r ++ t) := by
          have : ∀ (f : Nat) (a b : List UInt8), digN f a ≤ digN f (a ++ b) := by
            intro f
            induction f with
            | zero => intro a b; simp [digN]
            | succ f ih =>
              intro a b
              cases a with
              | nil => simp [digN]
              | cons c a =>
                simp only [List.cons_append, digN]
                split
                · have := ih a b; omega
                · simp
          exact this 5 r t
        rcases hb with h | ⟨h, e⟩ | ⟨h, e⟩
        · exact .inl (by omega)
        · refine .inr (.inl ⟨by omega, ?_⟩)
          cases r with
          | nil => simp at e
          | cons c q => simpa using e
        · cases r with
          | nil => exact absurd rfl e
          | cons c q =>
            have hc : ¬ HexB c := by
              intro hc
              unfold lenK at h
              simp [digN, hc] at h
            refine .inr (.inr ⟨?_, by simp⟩)
            simp [lenK, digN, hc]
      unfold lenC; rw [if_pos hb2]
    · unfold lenC at h2
      rw [if_neg hb] at h2
      by_cases h0 : lenK r = 0
      · rw [if_pos h0] at h2; simp at h2
      · rw [if_neg h0] at h2
        have hne : lineC (r.drop (lenK r)) ≠ 1 := by rw [h2]; simp
        have hk4 : lenK r ≤ 4 := by unfold lenBad at hb; omega
        -- a byte behind the digits that is no digit
        obtain ⟨c, q, hc, hnc⟩ : ∃ c q, r.drop (lenK r) = c :: q ∧ ¬ HexB c := by
          cases hd : r.drop (lenK r) with
          | nil => rw [hd] at h2; simp [lineC] at h2
          | cons c q =>
            refine ⟨c, q, rfl, fun hx => ?_⟩
            have e : r = (r.take (lenK r) ++ [c]) ++ q := by rw [List.append_assoc]; simp [← hd]
            have : ∀ (f : Nat) (l m : List UInt8), (∀ b ∈ l, HexB b) → l.length ≤ f → l.length ≤ digN f (l ++ m) := by
              intro f
              induction f with
              | zero => intro l m _ hl; simp at hl; simp [hl]
              | succ f ih =>
                intro l m hl hlf
                cases l with
                | nil => simp
                | cons x l =>
                  simp only [List.cons_append, digN, hl x (by simp), if_true, List.length_cons]
                  have := ih l m (fun b hb => hl b (by simp [hb])) (by simpa using hlf)
                  omega
            have h9 := this 5 (r.take (lenK r) ++ [c]) q (fun b hb => by
              simp only [List.mem_append, List.mem_singleton] at hb
              rcases hb with hb | rfl
              · exact hh b hb
              · exact hx) (by simp; omega)
            rw [← e] at h9
            simp [hlen] at h9
            unfold lenK at h9
            omega
        have hk : lenK (r ++ t) = lenK r := by
          have e : r ++ t = r.take (lenK r) ++ (c :: q ++ t) := by rw [← hc, ← List.append_assoc, List.take_append_drop]
          have h9 := digN_pre (r.take (lenK r)) (c :: q ++ t) 5 (by omega) hh (.inr (fun c' q' e' => by simp at e'; rw [← e'.1]; exact hnc))
          rw [← e, hlen] at h9
          exact h9
        unfold lenC
        rw [if_neg, hk, if_neg h0, List.drop_append_of_le_length (by unfold lenK; omega), lineC_mono hne, h2]
        unfold lenBad at hb ⊢
        rw [hk]
        rintro (h | ⟨h, e⟩ | ⟨h, _⟩)
        · omega
        · refine hb (.inr (.inl ⟨h, ?_⟩))
          cases r with
          | nil => simp at hc
          | cons x q => simpa using e
        · omega

end Go.Proofs.Ytckjbgpdbehmaaa

namespace Go.Proofs.Ytckjbgpdbehmaaa
open Go.RowKit

/-- What stands behind a length and its line's end; what stands behind the part's bytes. -/
def rdA (r : List UInt8) : List UInt8 := r.drop (lenK r + 2)
def rdB (r : List UInt8) : List UInt8 := (rdA r).drop (lenN r)
/-- What is told of a text from a place on; none: not told within so many parts. -/
def rdF : Nat → List UInt8 → List UInt8 → Nat → Option (List UInt8 × Nat × Int)
  | 0, _, _, _ => none
  | f + 1, r, body, pos =>
    if lenC r ≠ 0 then some ([], 0, lenC r)
    else if 120 < body.length + lenN r then some ([], 0, 3)
    else if (rdA r).length < lenN r then some ([], 0, 1)
    else if lineC (rdB r) ≠ 0 then some ([], 0, lineC (rdB r))
    else if lenN r = 0 then some (body, pos + lenK r + 4, 0)
    else rdF f ((rdB r).drop 2) (body ++ (rdA r).take (lenN r)) (pos + lenK r + lenN r + 4)
def Rd (r body : List UInt8) (pos : Nat) (x : List UInt8 × Nat × Int) : Prop := ∃ f, rdF f r body pos = some x
theorem Rd.len {r body : List UInt8} {pos : Nat} (h : lenC r ≠ 0) : Rd r body pos ([], 0, lenC r) := ⟨1, by unfold rdF; rw [if_pos h]⟩
theorem Rd.long {r body : List UInt8} {pos : Nat} (h1 : lenC r = 0) (h2 : 120 < body.length + lenN r) : Rd r body pos ([], 0, 3) := ⟨1, by unfold rdF; rw [if_neg (by simp [h1]), if_pos h2]⟩
theorem Rd.short {r body : List UInt8} {pos : Nat} (h1 : lenC r = 0) (h2 : ¬ 120 < body.length + lenN r) (h3 : (rdA r).length < lenN r) : Rd r body pos ([], 0, 1) := ⟨1, by unfold rdF; rw [if_neg (by simp [h1]), if_neg h2, if_pos h3]⟩
theorem Rd.line {r body : List UInt8} {pos : Nat} (h1 : lenC r = 0) (h2 : ¬ 120 < body.length + lenN r) (h3 : ¬ (rdA r).length < lenN r) (h4 : lineC (rdB r) ≠ 0) : Rd r body pos ([], 0, lineC (rdB r)) := ⟨1, by unfold rdF; rw [if_neg (by simp [h1]), if_neg h2, if_neg h3, if_pos h4]⟩
theorem Rd.part {r body : List UInt8} {pos : Nat} {x : List UInt8 × Nat × Int} (h1 : lenC r = 0) (h2 : ¬ 120 < body.length + lenN r) (h3 : ¬ (rdA r).length < lenN r) (h4 : lineC (rdB r) = 0) (h5 : lenN r ≠ 0) (h : Rd ((rdB r).drop 2) (body ++ (rdA r).take (lenN r)) (pos + lenK r + lenN r + 4) x) : Rd r body pos x := by
  obtain ⟨f, hf⟩ := h
  exact ⟨f + 1, by unfold rdF; rw [if_neg (by simp [h1]), if_neg h2, if_neg h3, if_neg (by simp [h4]), if_neg h5]; exact hf⟩

theorem rdA_len {r : List UInt8} (h : lenC r = 0) : lenK r + 2 ≤ r.length := by
  obtain ⟨_, _, _, t, ht⟩ := lenC_zero h
  have := congrArg List.length ht
  simp at this
  omega
/-- What is told of a text, but that there must be more, is told of it with whatever behind it. -/
theorem rdF_behind (t : List UInt8) : ∀ (f : Nat) (r body : List UInt8) (pos : Nat) (x : List UInt8 × Nat × Int), rdF f r body pos = some x → x.2.2 ≠ 1 → rdF f (r ++ t) body pos = some x := by
  intro f
  induction f with
  | zero => intro r body pos x h; simp [rdF] at h
  | succ f ih =>
    intro r body pos x h hx
    unfold rdF at h ⊢
    by_cases h1 : lenC r ≠ 0
    · rw [if_pos h1] at h
      have e := Option.some.inj h
      subst e
      have hx : lenC r ≠ 1 := hx
      rw [lenC_mono t hx, if_pos h1]
    · have h0 : lenC r = 0 := by simpa using h1
      obtain ⟨k1, k2, k3⟩ := lenK_mono t h0
      have hl := rdA_len h0
      have eA : rdA (r ++ t) = rdA r ++ t := by unfold rdA; rw [k1, List.drop_append_of_le_length hl]
      rw [if_neg h1] at h
      rw [if_neg (by simp [k3]), k1, k2, eA]
      by_cases h2 : 120 < body.length + lenN r
      · rw [if_pos h2] at h ⊢; exact h
      · rw [if_neg h2] at h ⊢
        by_cases h3 : (rdA r).length < lenN r
        · rw [if_pos h3] at h
          have e := Option.some.inj h
          subst e
          exact absurd rfl hx
        · rw [if_neg h3] at h
          have eB : rdB (r ++ t) = rdB r ++ t := by unfold rdB; rw [eA, k2, List.drop_append_of_le_length (by omega)]
          rw [if_neg (by simp; omega), eB]
          by_cases h4 : lineC (rdB r) ≠ 0
          · rw [if_pos h4] at h
            have e := Option.some.inj h
            subst e
            have hx : lineC (rdB r) ≠ 1 := hx
            rw [lineC_mono hx, if_pos h4]
          · have h40 : lineC (rdB r) = 0 := by simpa using h4
            have hne : lineC (rdB r) ≠ 1 := by rw [h40]; simp
            obtain ⟨u, hu⟩ := lineC_zero h40
            rw [if_neg h4] at h
            rw [lineC_mono hne, if_neg h4]
            by_cases h5 : lenN r = 0
            · rw [if_pos h5] at h ⊢; exact h
            · rw [if_neg h5] at h ⊢
              rw [List.drop_append_of_le_length (by rw [hu]; simp), List.take_append_of_le_length (by omega)]
              exact ih _ _ _ _ h hx
theorem Rd.behind {r body : List UInt8} {pos : Nat} {x : List UInt8 × Nat × Int} (h : Rd r body pos x) (hx : x.2.2 ≠ 1) (t : List UInt8) : Rd (r ++ t) body pos x := by
  obtain ⟨f, hf⟩ := h
  exact ⟨f, rdF_behind t f r body pos x hf hx⟩
/-- Of what is not read nothing is told but the code; what is read is not too long, and lies in the text. -/
theorem rdF_bounds : ∀ (f : Nat) (r body : List UInt8) (pos : Nat) (x : List UInt8 × Nat × Int), rdF f r body pos = some x → body.length ≤ 120 →
    (x.2.2 = 0 ∧ x.1.length ≤ 120 ∧ x.2.1 ≤ pos + r.length) ∨ ((x.2.2 = 1 ∨ x.2.2 = 2 ∨ x.2.2 = 3) ∧ x.1 = [] ∧ x.2.1 = 0) := by
  intro f
  induction f with
  | zero => intro r body pos x h; simp [rdF] at h
  | succ f ih =>
    intro r body pos x h hb
    unfold rdF at h
    by_cases h1 : lenC r ≠ 0
    · rw [if_pos h1] at h
      have e := Option.some.inj h
      subst e
      rcases lenC_vals r with h0 | h0 | h0
      · exact absurd h0 h1
      · exact .inr ⟨.inl h0, rfl, rfl⟩
      · exact .inr ⟨.inr (.inl h0), rfl, rfl⟩
    · have h0 : lenC r = 0 := by simpa using h1
      have hl := rdA_len h0
      rw [if_neg h1] at h
      by_cases h2 : 120 < body.length + lenN r
      · rw [if_pos h2] at h
        have e := Option.some.inj h
        subst e
        exact .inr ⟨.inr (.inr rfl), rfl, rfl⟩
      · rw [if_neg h2] at h
        by_cases h3 : (rdA r).length < lenN r
        · rw [if_pos h3] at h
          have e := Option.some.inj h
          subst e
          exact .inr ⟨.inl rfl, rfl, rfl⟩
        · rw [if_neg h3] at h
          have hAl : (rdA r).length + (lenK r + 2) = r.length := by unfold rdA; rw [List.length_drop]; omega
          have hBl : (rdB r).length + lenN r = (rdA r).length := by unfold rdB; rw [List.length_drop]; omega
          by_cases h4 : lineC (rdB r) ≠ 0
          · rw [if_pos h4] at h
            have e := Option.some.inj h
            subst e
            rcases lineC_vals (rdB r) with h0 | h0 | h0
            · exact absurd h0 h4
            · exact .inr ⟨.inl h0, rfl, rfl⟩
            · exact .inr ⟨.inr (.inl h0), rfl, rfl⟩
          · have h40 : lineC (rdB r) = 0 := by simpa using h4
            obtain ⟨u, hu⟩ := lineC_zero h40
            have hul := congrArg List.length hu
            simp at hul
            rw [if_neg h4] at h
            by_cases h5 : lenN r = 0
            · rw [if_pos h5] at h
              have e := Option.some.inj h
              subst e
              exact .inl ⟨rfl, hb, show pos + lenK r + 4 ≤ pos + r.length by omega⟩
            · rw [if_neg h5] at h
              rcases ih _ _ _ _ h (by simp; omega) with ⟨k1, k2, k3⟩ | k
              · refine .inl ⟨k1, k2, ?_⟩
                rw [List.length_drop] at k3
                omega
              · exact .inr k
theorem Rd.bounds {r body : List UInt8} {pos : Nat} {x : List UInt8 × Nat × Int} (h : Rd r body pos x) (hb : body.length ≤ 120) : (x.2.2 = 0 ∧ x.1.length ≤ 120 ∧ x.2.1 ≤ pos + r.length) ∨ ((x.2.2 = 1 ∨ x.2.2 = 2 ∨ x.2.2 = 3) ∧ x.1 = [] ∧ x.2.1 = 0) := by
  obtain ⟨f, hf⟩ := h
  exact rdF_bounds f r body pos x hf hb

/-- A body in parts. -/
def chunkL : List (List UInt8) → List UInt8
  | [] => [48, 13, 10, 13, 10]
  | p :: ps => hexL p.length ++ (13 :: 10 :: (p ++ (13 :: 10 :: chunkL ps)))
theorem part_head (p rest : List UInt8) (h : p.length < 65536) : lenC (hexL p.length ++ (13 :: 10 :: (p ++ rest))) = 0 ∧ lenK (hexL p.length ++ (13 :: 10 :: (p ++ rest))) = (hexL p.length).length ∧ lenN (hexL p.length ++ (13 :: 10 :: (p ++ rest))) = p.length ∧ rdA (hexL p.length ++ (13 :: 10 :: (p ++ rest))) = p ++ rest ∧ rdB (hexL p.length ++ (13 :: 10 :: (p ++ rest))) = rest := by
  obtain ⟨h1, h2, h3⟩ := len_head p.length h (13 :: 10 :: (p ++ rest)) (fun c r e => by simp at e; exact e.1.symm)
  have hA : rdA (hexL p.length ++ (13 :: 10 :: (p ++ rest))) = p ++ rest := by
    unfold rdA
    rw [h1, List.drop_append]
    simp
  refine ⟨by rw [h3]; simp [lineC], h1, h2, hA, ?_⟩
  unfold rdB
  rw [hA, h2, List.drop_left]
theorem end_head (rest : List UInt8) : lenC (48 :: 13 :: 10 :: rest) = 0 ∧ lenK (48 :: 13 :: 10 :: rest) = 1 ∧ lenN (48 :: 13 :: 10 :: rest) = 0 ∧ rdA (48 :: 13 :: 10 :: rest) = rest ∧ rdB (48 :: 13 :: 10 :: rest) = rest := by
  have := part_head [] rest (by simp)
  simpa [hexL] using this
/-- Cut short, a text of parts is not whole. -/
theorem Rd.cut : ∀ (ps : List (List UInt8)) (body : List UInt8) (pos k : Nat), (∀ p ∈ ps, p ≠ []) → body.length + ps.flatten.length ≤ 120 → k < (chunkL ps).length → Rd ((chunkL ps).take k) body pos ([], 0, 1) := by
  intro ps
  induction ps with
  | nil =>
    intro body pos k _ hb hk
    have hk5 : k < 5 := by simpa [chunkL] using hk
    have hb : body.length ≤ 120 := by simpa using hb
    rcases (show k = 0 ∨ k = 1 ∨ k = 2 ∨ k = 3 ∨ k = 4 by omega) with rfl | rfl | rfl | rfl | rfl
    · exact Rd.len (r := []) (by decide)
    · exact Rd.len (r := [48]) (by decide)
    · exact Rd.len (r := [48, 13]) (by decide)
    · obtain ⟨h1, h2, h3, h4, h5⟩ := end_head []
      have := Rd.line (body := body) (pos := pos) h1 (by rw [h3]; simpa using hb) (by rw [h3]; simp) (by rw [h5]; simp [lineC])
      rw [h5] at this
      exact this
    · obtain ⟨h1, h2, h3, h4, h5⟩ := end_head [13]
      have := Rd.line (body := body) (pos := pos) h1 (by rw [h3]; simpa using hb) (by rw [h3]; simp) (by rw [h5]; simp [lineC])
      rw [h5] at this
      exact this
  | cons p ps ih =>
    intro body pos k hp hb hk
    have hpl : 1 ≤ p.length := by
      have := hp p (by simp)
      cases p with
      | nil => exact absurd rfl this
      | cons c r => simp
    simp only [List.flatten_cons, List.length_append] at hb
    obtain ⟨g1, g2, g3, g4, g5⟩ := hex_head p.length (by omega)
    have hlen : (chunkL (p :: ps)).length = (hexL p.length).length + (p.length + (chunkL ps).length + 4) := by simp [chunkL]; omega
    by_cases c1 : k ≤ (hexL p.length).length
    · -- within the length, or at its end
      have e : (chunkL (p :: ps)).take k = (hexL p.length).take k := by
        simp only [chunkL]
        rw [List.take_append_of_le_length c1]
      rw [e]
      have hl : ((hexL p.length).take k).length = k := by rw [List.length_take]; omega
      have hK : lenK ((hexL p.length).take k) = k := by
        have := digN_pre ((hexL p.length).take k) [] 5 (by omega) (fun b hb => g3 b (List.mem_of_mem_take hb)) (.inr (fun c r e => by simp at e))
        rw [List.append_nil, hl] at this
        exact this
      have hC : lenC ((hexL p.length).take k) = 1 := by
        unfold lenC
        rw [if_neg]
        · by_cases k0 : k = 0
          · rw [if_pos (by rw [hK]; exact k0)]
          · rw [if_neg (by rw [hK]; exact k0), hK, List.drop_of_length_le (by omega)]; rfl
        · rintro (h | ⟨h, e⟩ | ⟨h, e⟩)
          · rw [hK] at h; omega
          · rw [hK] at h
            rw [List.head?_take, if_neg (by omega)] at e
            exact g5 (by omega) 48 e rfl
          · rw [hK] at h
            subst h
            simp at e
      have := Rd.len (r := (hexL p.length).take k) (body := body) (pos := pos) (by rw [hC]; simp)
      rw [hC] at this
      exact this
    · obtain ⟨j, rfl⟩ : ∃ j, k = (hexL p.length).length + 1 + j := ⟨k - (hexL p.length).length - 1, by omega⟩
      have e : (chunkL (p :: ps)).take ((hexL p.length).length + 1 + j) = hexL p.length ++ (13 :: (10 :: (p ++ (13 :: 10 :: chunkL ps))).take j) := by
        simp only [chunkL]
        rw [show (hexL p.length).length + 1 + j = (hexL p.length).length + (1 + j) by omega, List.take_length_add_append, Nat.add_comm 1 j, List.take_succ_cons]
      rw [e]
      cases j with
      | zero =>
        obtain ⟨h1, h2, h3⟩ := len_head p.length (by omega) [13] (fun c r e => by simp at e; exact e.1.symm)
        have := Rd.len (r := hexL p.length ++ [13]) (body := body) (pos := pos) (by rw [h3]; simp [lineC])
        rw [h3] at this
        simpa [lineC] using this
      | succ j =>
        rw [List.take_succ_cons]
        by_cases c2 : j < p.length
        · have e2 : (p ++ (13 :: 10 :: chunkL ps)).take j = p.take j := List.take_append_of_le_length (by omega)
          rw [e2]
          obtain ⟨h1, h2, h3⟩ := len_head p.length (by omega) (13 :: 10 :: p.take j) (fun c r e => by simp at e; exact e.1.symm)
          have hC : lenC (hexL p.length ++ (13 :: 10 :: p.take j)) = 0 := by rw [h3]; simp [lineC]
          refine Rd.short hC (by rw [h2]; omega) ?_
          unfold rdA
          rw [h1, h2, List.drop_append]
          simp
          omega
        · obtain ⟨i, rfl⟩ : ∃ i, j = p.length + i := ⟨j - p.length, by omega⟩
          have e2 : (p ++ (13 :: 10 :: chunkL ps)).take (p.length + i) = p ++ (13 :: 10 :: chunkL ps).take i := List.take_length_add_append _
          rw [e2]
          obtain ⟨h1, h2, h3, h4, h5⟩ := part_head p ((13 :: 10 :: chunkL ps).take i) (by omega)
          match i with
          | 0 =>
            have := Rd.line (body := body) (pos := pos) h1 (by rw [h3]; omega) (by rw [h3, h4]; simp) (by rw [h5]; simp [lineC])
            rw [h5] at this
            exact this
          | 1 =>
            have := Rd.line (body := body) (pos := pos) h1 (by rw [h3]; omega) (by rw [h3, h4]; simp) (by rw [h5]; simp [lineC])
            rw [h5] at this
            exact this
          | i + 2 =>
            refine Rd.part h1 (by rw [h3]; omega) (by rw [h3, h4]; simp) (by rw [h5]; simp [lineC]) (by rw [h3]; omega) ?_
            rw [h2, h3, h4, h5, List.take_left]
            have k := ih (body ++ p) (pos + (hexL p.length).length + p.length + 4) i (fun x hx => hp x (by simp [hx])) (by rw [List.length_append]; omega) (by omega)
            simpa using k

end Go.Proofs.Ytckjbgpdbehmaaa

namespace Go.Proofs.Ytckjbgpdbehmaaa
open Go.RowKit
open Go.Lib hiding intOf

/-- A list of ints that a function reads. -/
def IntsV (w : World) (oa : Option Addr) (n : Nat) (zs : List Int) : Prop := zs.length = n ∧ ∀ i, i < n → ∃ g, oa = some ⟨g, 0, none⟩ ∧ g < w.heap.size ∧ w.cell? ⟨g, i, none⟩ = some (.int .i64 (zs.getD i 0))
theorem IntsV.below {w w' : World} {oa : Option Addr} {n : Nat} {zs : List Int} (h : IntsV w oa n zs) (hb : Below w.heap.size w w') : IntsV w' oa n zs :=
  ⟨h.1, fun i hi => by
    obtain ⟨g, e, hg, hc⟩ := h.2 i hi
    exact ⟨g, e, Nat.lt_of_lt_of_le hg hb.size, by rw [hb.cell (p := ⟨g, i, none⟩) hg]; exact hc⟩⟩

end Go.Proofs.Ytckjbgpdbehmaaa
