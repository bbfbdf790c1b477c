/- What the proof of FnDiskPut leans on: contracts of the program's and the specification's functions, and plain facts (part 1 of 5). -/
import Derived.Test.YtckjbgpdbehmaaaProg
import Derived.Test.YtckjbgpdbehmaaaRows
import Derived.ArgAppend
import Derived.Below
import Derived.BigQuiet
import Derived.ChangeKeysEq
import Derived.ChangeOld
import Derived.Deep.AppendLies
import Derived.Deep.CutRange
import Derived.Deep.DeepCutAuto
import Derived.Deep.DrawnRows
import Derived.Deep.MidRow
import Derived.Deep.QuietTactic
import Derived.Deep.RegionHeld3
import Derived.Deep.RegionLaw
import Derived.Deep.RegionWith
import Derived.Deep.SlicePairs
import Derived.Deep.Slices
import Derived.Laws.AppendOwnNone
import Derived.Laws.BytesArg
import Derived.Laws.EntriesVeiled
import Derived.Laws.MakeOwn
import Derived.Laws.RangeAny
import Derived.Laws.Rows
import Derived.Laws.StructEq
import Derived.Laws.Tables
import Derived.Lib.AppendIntMem
import Derived.Lib.BufferOwn
import Derived.Lib.ConvBytes
import Derived.Lib.LaidTab
import Derived.Lib.Strings
import Derived.Lib.Walk
import Derived.OpenShut
import Derived.ProofKit
import Derived.Shelf.LaysM
import Derived.Shelf.Strconv.Clone
import Derived.ShutString
import Derived.SliceStrings
import Derived.WalkKit
import Derived.WalkLawsBesides
import Derived.WalkSpells
namespace Go.Proofs.Ytckjbgpdbehmaaa
open Go.RowKit
open Go.Lib hiding intOf

/-- The bytes of a token. -/
def TokB (n : Int) : Prop := (97 ≤ n ∧ n ≤ 122) ∨ (48 ≤ n ∧ n ≤ 57) ∨ n = 45
def ValB (n : Int) : Prop := 32 ≤ n ∧ n ≤ 126
/-- A call answers a bool that says whether p, and turns nothing that was there. -/
def BoolIs (p : Prop) (w : World) (e : Ending) (w' : World) : Prop := ∃ b : Bool, e = .returned (.bool b) ∧ (b = true ↔ p) ∧ Below w.heap.size w w'
theorem BoolIs.no {p : Prop} {w w' : World} (hp : ¬ p) (hb : Below w.heap.size w w') : BoolIs p w (.returned (.bool false)) w' := ⟨false, rfl, by simpa using hp, hb⟩

/-- Every byte of the text is such a one. -/
def AllB (p : Int → Prop) (s : ByteArray) : Prop := ∀ j (h : j < s.size), p ((s[j]'h).toNat : Int)
/-- What the chapter asks of a token. -/
def TokOk (s : ByteArray) : Prop := 1 ≤ s.size ∧ s.size ≤ 20 ∧ AllB TokB s

end Go.Proofs.Ytckjbgpdbehmaaa

namespace Go.Proofs
open Go.Shelf
def Try.laysM316_ren : Go.Shelf.Ren := ⟨fun | 316 => 67 | n => n, fun | 9 => 9 | 3 => 3 | 4 => 4 | 37 => 22 | 0 => 0 | 127 => 96 | 5 => 5 | n => n, fun | n => n⟩
theorem Try.laysM316 : Go.Proofs.LaysM.n316 Try.prog Try.laysM316_ren := {
  mixed := by kernel_rfl
  f316 := Try.func67.trans (congrArg some (by kernel_rfl))
  t0 := Try.underlying0
  a0 := Try.isAgg0
  z0 := Try.sizeOf0
  v0 := Try.zeroValue0
  t3 := Try.underlying3
  a3 := Try.isAgg3
  z3 := Try.sizeOf3
  v3 := Try.zeroValue3
  t4 := Try.underlying4
  a4 := Try.isAgg4
  z4 := Try.sizeOf4
  v4 := Try.zeroValue4
  t9 := Try.underlying9
  a9 := Try.isAgg9
  z9 := Try.sizeOf9
  v9 := Try.zeroValue9
  t37 := Try.underlying22
  a37 := Try.isAgg22
  z37 := Try.sizeOf22
  v37 := Try.zeroValue22
  t127 := Try.underlying96
  a127 := Try.isAgg96
  z127 := Try.sizeOf96
  v127 := Try.zeroValue96
  t5 := Try.underlying5
  a5 := Try.isAgg5
  z5 := Try.sizeOf5
  v5 := Try.zeroValue5
  i0 := by kernel_rfl
  i3 := by kernel_rfl
  i4 := by kernel_rfl
  i5 := by kernel_rfl
  i9 := by kernel_rfl
  i37 := by kernel_rfl
  i127 := by kernel_rfl }
open Go.RowKit in
theorem Try.stringslite_Clone (s : ByteArray) (w : World) (hlim : s.size ≤ 281474976710656) :
    Calls Try.prog 67 #[.string s] w fun e w' => e = .returned (.string s) ∧ Below w.heap.size w w' := Any.stringslite_Clone Try.laysM316 s w hlim
end Go.Proofs

namespace Go.Proofs.Ytckjbgpdbehmaaa
open Go.RowKit

theorem info5 : (Try.prog.info? 5).map (fun i => (i.zero, i.size, i.bytes)) = some (some (.int .u8 0), 1, 1) := by kernel_rfl

set_option maxHeartbeats 400000 in
theorem clone_any (s : ByteArray) (w : World) (hlim : s.size ≤ 281474976710656) :
    Calls Try.prog 48 #[.string s] w fun e w' => e = .returned (.string s) ∧ Below w.heap.size w w' := by
  go_enter Try.func48, Try.ntmps48
  go_wp2_with (go_at_call 67; refine (Try.stringslite_Clone _ _ hlim).mono ?_; rintro e w1 ⟨rfl, hb1⟩)
  go_ret
  exact ⟨rfl, hb1⟩

end Go.Proofs.Ytckjbgpdbehmaaa

namespace Go.Proofs.Ytckjbgpdbehmaaa

/-- The list without the blanks that it begins with. -/
def dropB : List UInt8 → List UInt8
  | [] => []
  | b :: r => if b.toNat = 32 then dropB r else b :: r
/-- .. and without those that it ends with. -/
def trimL (l : List UInt8) : List UInt8 := (dropB (dropB l).reverse).reverse
def trimOf (s : ByteArray) : ByteArray := ⟨(trimL s.data.toList).toArray⟩

end Go.Proofs.Ytckjbgpdbehmaaa

namespace Go.Proofs.Ytckjbgpdbehmaaa
open Go.RowKit
open Go.Lib hiding intOf

/-- A call answers this text, and turns nothing that was there. -/
def TextIs (t : ByteArray) (w : World) (e : Ending) (w' : World) : Prop := e = .returned (.string t) ∧ Below w.heap.size w w'
theorem TextIs.of {t u : ByteArray} {w w' : World} (h : u = t) (hb : Below w.heap.size w w') : TextIs t w (.returned (.string u)) w' := ⟨by rw [h], hb⟩

end Go.Proofs.Ytckjbgpdbehmaaa

namespace Go.Proofs.Ytckjbgpdbehmaaa
open Go.RowKit
open Go.Lib hiding intOf

/-- What the chapter asks of a value. -/
def ValOk (s : ByteArray) : Prop := 1 ≤ s.size ∧ s.size ≤ 60 ∧ AllB ValB s ∧ trimOf s = s
end Go.Proofs.Ytckjbgpdbehmaaa

namespace Go.Proofs.Ytckjbgpdbehmaaa

def DigB (b : UInt8) : Prop := 48 ≤ b.toNat ∧ b.toNat ≤ 57
/-- The number that a row of digits is. -/
def valL (l : List UInt8) : Nat := l.foldl (fun v b => 10 * v + (b.toNat - 48)) 0
theorem valL_snoc (l : List UInt8) (b : UInt8) : valL (l ++ [b]) = 10 * valL l + (b.toNat - 48) := by simp [valL]
/-- The digits of a number that is not 0; none of 0. -/
def dgF : Nat → Nat → List UInt8
  | 0, _ => []
  | f + 1, n => if n = 0 then [] else dgF f (n / 10) ++ [UInt8.ofNat (48 + n % 10)]
theorem dgF_zero (f : Nat) : dgF f 0 = [] := by cases f <;> simp [dgF]
theorem dgF_pos (f n : Nat) (h : n ≠ 0) : dgF (f + 1) n = dgF f (n / 10) ++ [UInt8.ofNat (48 + n % 10)] := by simp [dgF, h]

theorem ofNat_digit (n : Nat) : (UInt8.ofNat (48 + n % 10)).toNat = 48 + n % 10 := by
  simp; omega

theorem head_snoc (r : List UInt8) (b c : UInt8) (hr : r ≠ []) : (r ++ [b]).head? = some c ↔ r.head? = some c := by
  cases r with
  | nil => exact absurd rfl hr
  | cons a t => simp

/-- The digits of a number begin with no nought, and are that number. -/
theorem dg_facts : ∀ (f n : Nat), n < 10 ^ f → (∀ b, (dgF f n).head? = some b → b.toNat ≠ 48) ∧ valL (dgF f n) = n ∧ (∀ b ∈ dgF f n, DigB b) := by
  intro f
  induction f with
  | zero => intro n h; simp at h; subst h; simp [dgF, valL]
  | succ f ih =>
    intro n h
    by_cases h0 : n = 0
    · subst h0; rw [dgF_zero]; simp [valL]
    · rw [dgF_pos f n h0]
      rw [Nat.pow_succ] at h
      obtain ⟨i1, i2, i3⟩ := ih (n / 10) (by omega)
      refine ⟨?_, ?_, ?_⟩
      · intro b hb
        by_cases hr : dgF f (n / 10) = []
        · rw [hr] at hb
          simp only [List.nil_append, List.head?_cons, Option.some.injEq] at hb
          rw [← hb, ofNat_digit]
          have : n / 10 = 0 := by rw [hr] at i2; simpa [valL] using i2.symm
          omega
        · exact i1 b ((head_snoc _ _ b hr).1 hb)
      · rw [valL_snoc, i2, ofNat_digit]; omega
      · intro b hb
        rcases List.mem_append.1 hb with h | h
        · exact i3 b h
        · simp only [List.mem_singleton] at h
          unfold DigB
          rw [h, ofNat_digit]; omega

/-- The text of a number from 0 to 1000000; the empty text of others. -/
def numL (n : Nat) : List UInt8 := if 1000000 < n then [] else if n = 0 then [48] else dgF 8 n
def numText (n : Nat) : ByteArray := ⟨(numL n).toArray⟩

/-- A text that is a number from 0 to 1000000 in digits without needless noughts. -/
def NumOk (s : ByteArray) : Prop := 1 ≤ s.size ∧ (∀ b ∈ s.data.toList, DigB b) ∧ (1 < s.size → ∀ h : 0 < s.size, (s[0]'h).toNat ≠ 48) ∧ valL s.data.toList ≤ 1000000

theorem mem_byte {s : ByteArray} {p : UInt8 → Prop} (h : ∀ j (hj : j < s.size), p (s[j]'hj)) : ∀ b ∈ s.data.toList, p b := by
  intro b hb
  obtain ⟨j, hj, rfl⟩ := List.getElem_of_mem hb
  exact h j (by simpa using hj)
end Go.Proofs.Ytckjbgpdbehmaaa

namespace Go.Proofs.Ytckjbgpdbehmaaa
open Go.RowKit
open Go.Lib hiding intOf

/-- A call answers the number that a text is, and true; or 0 and false; it turns nothing that was there. -/
def NumIs (s : ByteArray) (w : World) (e : Ending) (w' : World) : Prop :=
  ∃ (b : Bool) (n : Int), e = .returned (.tuple #[.int .i64 n, .bool b]) ∧ (b = true ↔ NumOk s) ∧ (b = true → n = valL s.data.toList) ∧ (b = false → n = 0) ∧ Below w.heap.size w w'
theorem NumIs.no {s : ByteArray} {w w' : World} (h : ¬ NumOk s) (hb : Below w.heap.size w w') : NumIs s w (.returned (.tuple #[.int .i64 0, .bool false])) w' :=
  ⟨false, 0, rfl, by simpa using h, by simp, fun _ => rfl, hb⟩
end Go.Proofs.Ytckjbgpdbehmaaa

namespace Go.Proofs.Ytckjbgpdbehmaaa
open Go.RowKit
open Go.Lib hiding intOf

/-- What is owned lies from the base on. -/
theorem owns_ge {w : World} {base : Nat} {e : TypeId} {size : Nat} {v : Value} {n g : Nat} {xs : List Value} (h : w.ownsRow base e size v n xs) (hg : v.ownBlock = some g) : base ≤ g := by
  rcases h.2 with ⟨rfl, _⟩ | ⟨g', cap, cur, rfl, hb, _⟩
  · simp [Value.ownBlock] at hg
  · simp [Value.ownBlock] at hg; omega
theorem one_byte (V : Int) : ∀ u ∈ [Value.int .u8 V], u.oneCell' = true := by intro u hu; simp at hu; subst hu; rfl
/-- An owned row of bytes, turned into a text. -/
theorem conv_owned {w : World} {base n : Nat} {v : Value} {xs : List Int} (h : w.ownsRow base 5 1 v n (xs.map (Value.int .u8))) : (convert 22 9 v).run Try.prog w = .ok (.string (strOfNums xs)) w := by
  obtain ⟨hl, hv⟩ := h
  simp at hl
  rcases hv with ⟨rfl, h0⟩ | ⟨g, cap, cur, rfl, _, hg, hn, _, hcs, htk⟩
  · have : xs = [] := List.length_eq_zero_iff.1 (by omega)
    subst this
    exact run_convert_bytes_nil (P := Try.prog) w 22 5 Try.underlying22 Try.underlying5 0 0 9 Try.underlying9
  · refine run_convert_bytes_arg (P := Try.prog) w 22 5 Try.underlying22 Try.underlying5 g 0 n cap xs hl (fun i hi => ?_) 9 Try.underlying9
    have h1 : (cur.toList.take (n * 1))[i]? = some (.int .u8 (xs.getD i 0)) := by
      rw [htk, List.getElem?_map, List.getD_eq_getElem?_getD, List.getElem?_eq_getElem (by omega)]
      simp
    rw [List.getElem?_take, if_pos (by omega)] at h1
    simp only [World.cell?, hg, Nat.zero_add]
    simpa using h1

end Go.Proofs.Ytckjbgpdbehmaaa

namespace Go.Proofs.Ytckjbgpdbehmaaa
open Go.RowKit
open Go.Lib hiding intOf

/-- A call answers a list of these texts in memory of its own, from block 'base' on, and turns nothing below it. -/
def RowIs (base : Nat) (xs : List ByteArray) (w : World) (e : Ending) (w' : World) : Prop :=
  ∃ v, e = .returned v ∧ w'.ownsRow base 9 1 v xs.length (xs.map Value.string) ∧ Below base w w'
theorem RowIs.of {base : Nat} {xs ys : List ByteArray} {w w' : World} {v : Value} {n : Nat} (h : ys = xs) (hn : n = ys.length) (hown : w'.ownsRow base 9 1 v n (ys.map Value.string)) (hb : Below base w w') : RowIs base xs w (.returned v) w' := by
  subst h; subst hn; exact ⟨v, rfl, hown, hb⟩
/-- What is owned stays so in every later world that keeps what was there. -/
theorem owns_below {w w' : World} {base B : Nat} {e : TypeId} {size : Nat} {v : Value} {n : Nat} {xs : List Value} (h : w.ownsRow base e size v n xs) (hb : Below B w w') (hB : ∀ g, v.ownBlock = some g → g < B) : w'.ownsRow base e size v n xs := by
  refine ⟨h.1, ?_⟩
  rcases h.2 with h2 | ⟨g, cap, cur, rfl, h3, h4, h5⟩
  · exact .inl h2
  · exact .inr ⟨g, cap, cur, rfl, h3, by rw [hb.block g (hB g rfl)]; exact h4, h5⟩
theorem owns_lt {w : World} {base : Nat} {e : TypeId} {size : Nat} {v : Value} {n g : Nat} {xs : List Value} (h : w.ownsRow base e size v n xs) (hg : v.ownBlock = some g) : g < w.heap.size := by
  rcases h.2 with ⟨rfl, _⟩ | ⟨g', cap, cur, rfl, hb, hh, _⟩
  · simp [Value.ownBlock] at hg
  · simp [Value.ownBlock] at hg
    subst hg
    exact (Array.getElem?_eq_some_iff.1 hh).1
theorem info9 : (Try.prog.info? 9).map (fun i => (i.zero, i.size, i.bytes)) = some (some (.string ⟨#[]⟩), 1, 16) := by kernel_rfl

end Go.Proofs.Ytckjbgpdbehmaaa

namespace Go.Proofs.Ytckjbgpdbehmaaa
open Go.RowKit
open Go.Lib hiding intOf

/-- The text i of a list. -/
def textAt (xs : List ByteArray) (i : Nat) : ByteArray := xs.getD i ⟨#[]⟩

/-- What an owned list of texts is, cell by cell. -/
structure TextRow (base : Nat) (w : World) (g n cap : Nat) (xs : List ByteArray) : Prop where
  len : xs.length = n
  base : base ≤ g
  lt : g < w.heap.size
  le : n ≤ cap
  mx : cap ≤ maxLen
  heap : ∃ cur, w.heap[g]? = some (.cells cur 9 (0, 0)) ∧ cur.size = cap ∧ ∀ i, i < n → cur[i]? = some (.string (textAt xs i))
theorem TextRow.cell {base : Nat} {w : World} {g n cap : Nat} {xs : List ByteArray} (h : TextRow base w g n cap xs) (i : Nat) (hi : i < n) : w.cell? ⟨g, i, none⟩ = some (.string (textAt xs i)) := by
  obtain ⟨cur, hg, _, hc⟩ := h.heap
  simp only [World.cell?, hg]
  simpa using hc i hi
theorem TextRow.frozen {base : Nat} {w : World} {g n cap : Nat} {xs : List ByteArray} (h : TextRow base w g n cap xs) (i : Nat) : w.frozen? ⟨g, i, none⟩ = false := by
  obtain ⟨cur, hg, _⟩ := h.heap
  simp [World.frozen?, hg]
theorem TextRow.below {base B : Nat} {w w' : World} {g n cap : Nat} {xs : List ByteArray} (h : TextRow base w g n cap xs) (hb : Below B w w') (hB : g < B) : TextRow base w' g n cap xs := by
  obtain ⟨cur, hg, hc⟩ := h.heap
  have := hb.size; have := h.lt
  exact ⟨h.len, h.base, by omega, h.le, h.mx, cur, by rw [hb.block g hB]; exact hg, hc⟩
/-- One text of it stored anew. -/
theorem TextRow.set {base : Nat} {w : World} {g n cap : Nat} {xs : List ByteArray} (h : TextRow base w g n cap xs) (i : Nat) (hi : i < n) (t : ByteArray) : TextRow base (w.setCell ⟨g, i, none⟩ (.string t)) g n cap (xs.set i t) := by
  obtain ⟨cur, hg, hs, hc⟩ := h.heap
  refine ⟨by simp [h.len], h.base, by simpa using h.lt, h.le, h.mx, cur.setIfInBounds i (.string t), ?_, by simpa using hs, ?_⟩
  · simp [World.setCell, Array.getElem?_modify, hg]
  · intro j hj
    have hl := h.len
    have hle := h.le
    by_cases e : i = j
    · subst e
      have h1 : i < cur.size := by omega
      have h2 : i < xs.length := by omega
      simp [textAt, List.getD_eq_getElem?_getD, h1, h2]
    · rw [Array.getElem?_setIfInBounds_ne (by exact e), hc j hj]
      simp [textAt, List.getD_eq_getElem?_getD, e]
theorem textAt_map (xs : List ByteArray) (i : Nat) (h : i < xs.length) : (xs.map Value.string)[i]? = some (.string (textAt xs i)) := by
  simp [textAt, List.getD_eq_getElem?_getD, h]
/-- An owned list is empty, or such a row. -/
theorem row_form {w : World} {base n : Nat} {v : Value} {xs : List ByteArray} (h : w.ownsRow base 9 1 v n (xs.map Value.string)) :
    (∃ oa cap, v = .slice oa 0 cap ∧ n = 0 ∧ xs = []) ∨ ∃ g cap, v = .slice (some ⟨g, 0, none⟩) n cap ∧ 0 < n ∧ TextRow base w g n cap xs := by
  obtain ⟨hl, hv⟩ := h
  simp at hl
  rcases hv with ⟨rfl, h0⟩ | ⟨g, cap, cur, rfl, hb, hg, hn, hm, hcs, htk⟩
  · exact .inl ⟨none, 0, rfl, h0, List.length_eq_zero_iff.1 (by omega)⟩
  · by_cases h0 : n = 0
    · subst h0
      exact .inl ⟨_, _, rfl, rfl, List.length_eq_zero_iff.1 (by omega)⟩
    · refine .inr ⟨g, cap, rfl, by omega, hl, hb, (Array.getElem?_eq_some_iff.1 hg).1, hn, hm, cur, hg, by simpa using hcs, ?_⟩
      intro i hi
      have h1 : (cur.toList.take (n * 1))[i]? = some (.string (textAt xs i)) := by rw [htk]; exact textAt_map xs i (by omega)
      rw [List.getElem?_take, if_pos (by omega)] at h1
      simpa using h1
theorem TextRow.owns {base : Nat} {w : World} {g n cap : Nat} {xs : List ByteArray} (h : TextRow base w g n cap xs) : w.ownsRow base 9 1 (.slice (some ⟨g, 0, none⟩) n cap) n (xs.map Value.string) := by
  obtain ⟨cur, hg, hs, hc⟩ := h.heap
  refine ⟨by simp [h.len], .inr ⟨g, cap, cur, rfl, h.base, hg, h.le, h.mx, by simpa using hs, ?_⟩⟩
  apply List.ext_getElem?
  intro i
  have hl := h.len; have hle := h.le
  rw [List.getElem?_take, Nat.mul_one]
  by_cases hi : i < n
  · rw [if_pos hi, textAt_map xs i (by omega)]
    simpa using hc i hi
  · rw [if_neg hi, List.getElem?_eq_none (by simp; omega)]

end Go.Proofs.Ytckjbgpdbehmaaa

namespace Go.Proofs.Ytckjbgpdbehmaaa
open Go.RowKit
open Go.Lib hiding intOf

theorem and255 (x : Int) : 0 ≤ bits BinOp.and IntKind.i64 x 255 ∧ bits BinOp.and IntKind.i64 x 255 < 256 := by
  have h : (BitVec.ofInt 64 x &&& BitVec.ofInt 64 255).toNat ≤ 255 := by
    rw [BitVec.toNat_and]
    exact Nat.and_le_right
  unfold bits
  simp only
  rw [IntKind.wrap_i64]
  show 0 ≤ (((BitVec.ofInt 64 x &&& BitVec.ofInt 64 255).toNat : Int) + 9223372036854775808) % 18446744073709551616 - 9223372036854775808 ∧ (((BitVec.ofInt 64 x &&& BitVec.ofInt 64 255).toNat : Int) + 9223372036854775808) % 18446744073709551616 - 9223372036854775808 < 256
  omega

/-- The bytes that a draw reads: a slice that came in, in blocks below B. -/
structure CodeAt (w : World) (B : Nat) (a : Option Addr) (len : Nat) (zs : List Int) : Prop where
  le : len ≤ 1048576
  get : ∀ j, j < len → ∃ b off, a = some ⟨b, off, none⟩ ∧ b < B ∧ w.cell? ⟨b, off + j, none⟩ = some (.int .u8 (zs.getD j 0)) ∧ 0 ≤ zs.getD j 0 ∧ zs.getD j 0 ≤ 255
theorem CodeAt.below {w w' : World} {B : Nat} {a : Option Addr} {len : Nat} {zs : List Int} (h : CodeAt w B a len zs) (hb : Below B w w') : CodeAt w' B a len zs :=
  ⟨h.le, fun j hj => by
    obtain ⟨b, off, h1, h2, h3, h4⟩ := h.get j hj
    exact ⟨b, off, h1, h2, by rw [hb.cell (p := ⟨b, off + j, none⟩) h2]; exact h3, h4⟩⟩
theorem CodeAt.upTo {w : World} {B C : Nat} {a : Option Addr} {len : Nat} {zs : List Int} (h : CodeAt w B a len zs) (hC : B ≤ C) : CodeAt w C a len zs :=
  ⟨h.le, fun j hj => by
    obtain ⟨b, off, h1, h2, h3⟩ := h.get j hj
    exact ⟨b, off, h1, by omega, h3⟩⟩
/-- The cursor lies in block c. -/
def CurAt (w : World) (c : Nat) (a : Option Addr) (len cap : Nat) : Prop :=
  ∃ (i : Nat) (h : Int), i ≤ len ∧ w.heap[c]? = some (.cells #[.slice a len cap, .int .i64 (i : Int), .int .i64 h] 87 (0, 0))
theorem CurAt.lt {w : World} {c : Nat} {a : Option Addr} {len cap : Nat} (h : CurAt w c a len cap) : c < w.heap.size := by
  obtain ⟨i, h, _, hh⟩ := h
  exact (Array.getElem?_eq_some_iff.1 hh).1
theorem CurAt.below {w w' : World} {B c : Nat} {a : Option Addr} {len cap : Nat} (h : CurAt w c a len cap) (hb : Below B w w') (hc : c < B) : CurAt w' c a len cap := by
  obtain ⟨i, h, hi, hh⟩ := h
  exact ⟨i, h, hi, by rw [hb.block c hc]; exact hh⟩

theorem heap_setCell_self (w : World) (c o : Nat) (cs : Array Value) (t : TypeId) (fz : Nat × Nat) (v : Value) (h : w.heap[c]? = some (.cells cs t fz)) : (w.setCell ⟨c, o, none⟩ v).heap[c]? = some (.cells (cs.setIfInBounds o v) t fz) := by
  simp [World.setCell, Array.getElem?_modify, h]

theorem grownBy_drewN {a w : World} {row : Option Nat} (h : a.grownBy w row) (n : Nat) : a.grownBy (w.drewN n) row := ⟨h.os, h.tape, h.output, h.size, h.block⟩

/-- A call on the cursor answers a number from 0 to below m, and turns the cursor alone of what was there. -/
def DrawIs (m : Int) (w : World) (c : Nat) (a : Option Addr) (len cap : Nat) (e : Ending) (w' : World) : Prop :=
  ∃ x : Int, e = .returned (.int .i64 x) ∧ 0 ≤ x ∧ x < m ∧ CurAt w' c a len cap ∧ w.grownBy w' (some c)

set_option maxHeartbeats 1000000 in
theorem l1Byte_any (c B : Nat) (a : Option Addr) (len cap : Nat) (zs : List Int) (w : World) (hcur : CurAt w c a len cap) (hcode : CodeAt w B a len zs) (hB : B ≤ c) :
    Calls Try.prog 69 #[.pointer (some ⟨c, 0, none⟩)] w fun e w' => DrawIs 256 w c a len cap e w' := by
  obtain ⟨i, h, hi1, hh⟩ := hcur
  have hc0 : w.cell? ⟨c, 0, none⟩ = some (.slice a len cap) := by simp [World.cell?, hh]
  have hc1 : w.cell? ⟨c, 1, none⟩ = some (.int .i64 (i : Int)) := by simp [World.cell?, hh]
  have hc2 : w.cell? ⟨c, 2, none⟩ = some (.int .i64 h) := by simp [World.cell?, hh]
  have hf1 : w.frozen? ⟨c, 1, none⟩ = false := by simp [World.frozen?, hh]
  have hf2 : w.frozen? ⟨c, 2, none⟩ = false := by simp [World.frozen?, hh]
  have HH : Hid _ := hh
  clear hh
  have hlen := hcode.le
  by_cases hlt : (i : Int) < (len : Int)
  · obtain ⟨b, off, rfl, hbB, hcell, hz0, hz1⟩ := hcode.get i (by omega)
    have hcell2 : ∀ o v, (w.setCell ⟨c, o, none⟩ v).cell? ⟨b, off + i, none⟩ = some (.int .u8 (zs.getD i 0)) := fun o v => by
      rw [World.cell?_setCell_other (h := fun e => by cases e; omega)]; exact hcell
    obtain ⟨z, hz⟩ : ∃ z, z = zs.getD i 0 := ⟨_, rfl⟩
    rw [← hz] at hcell2 hz0 hz1
    clear hz hcell hcode
    go_enter Try.func69, Try.ntmps69
    go_wp2
    go_quiet (fail)
    go_wp2
    go_quiet (fail)
    go_wp2
    go_quiet (fail)
    go_wp2
    go_ret
    exact ⟨_, rfl, (and255 _).1, (and255 _).2, ⟨i + 1, _, by omega, heap_setCell_self _ c 1 _ _ _ _ (heap_setCell_self w c 2 _ _ _ _ HH.out)⟩, grownBy_setB (grownBy_drewN (grownBy_setCell w c 2 _) _) 1 _⟩
  · go_enter Try.func69, Try.ntmps69
    go_wp2
    go_quiet (fail)
    go_wp2
    go_quiet (fail)
    go_wp2
    go_ret
    exact ⟨_, rfl, (and255 _).1, (and255 _).2, ⟨i, _, hi1, heap_setCell_self w c 2 _ _ _ _ HH.out⟩, grownBy_drewN (grownBy_drewN (grownBy_setCell w c 2 _) _) _⟩

set_option maxHeartbeats 1000000 in
theorem l1Below_any (c B : Nat) (m : Int) (a : Option Addr) (len cap : Nat) (zs : List Int) (w : World) (hcur : CurAt w c a len cap) (hcode : CodeAt w B a len zs) (hB : B ≤ c) (hm : 1 ≤ m) (hm2 : m ≤ 256) :
    Calls Try.prog 54 #[.pointer (some ⟨c, 0, none⟩), .int .i64 m] w fun e w' => DrawIs m w c a len cap e w' := by
  have hm0 : ¬ m ≤ 0 := by omega
  go_enter Try.func54, Try.ntmps54
  go_wp2_with fail
  refine (l1Byte_any c B a len cap zs _ hcur hcode hB).mono ?_
  rintro e w1 ⟨x, rfl, hx0, hx1, hcur1, hg1⟩
  go_wp2_with fail
  go_ret
  exact ⟨x % m, rfl, Int.emod_nonneg _ (by omega), Int.emod_lt_of_pos _ (by omega), hcur1, hg1⟩

/-- A list of n texts that the caller has laid, text j by 'f j'. -/
def ListAt (w : World) (g n : Nat) (f : Nat → ByteArray) : Prop := ∀ j, j < n → w.cell? ⟨g, j, none⟩ = some (.string (f j))

theorem grown_cell {w w' : World} {c : Nat} (hg : w.grownBy w' (some c)) {g j : Nat} {v : Value} (h : w.cell? ⟨g, j, none⟩ = some v) (hne : g ≠ c) : w'.cell? ⟨g, j, none⟩ = some v :=
  hg.cell h (fun e => hne (Option.some.inj e))

set_option maxHeartbeats 1000000 in
theorem l1Pick_any (c B g n : Nat) (f : Nat → ByteArray) (a : Option Addr) (len cap : Nat) (zs : List Int) (w : World) (hcur : CurAt w c a len cap) (hcode : CodeAt w B a len zs) (hB : B ≤ c) (hn : 1 ≤ n) (hn2 : n ≤ 256) (hl : ListAt w g n f) (hgc : g ≠ c) :
    Calls Try.prog 68 #[.pointer (some ⟨c, 0, none⟩), .slice (some ⟨g, 0, none⟩) n n] w fun e w' => ∃ j, j < n ∧ e = .returned (.string (f j)) ∧ CurAt w' c a len cap ∧ w.grownBy w' (some c) := by
  go_enter Try.func68, Try.ntmps68
  go_wp2_with fail
  refine (l1Below_any c B n a len cap zs _ hcur hcode hB (by omega) (by omega)).mono ?_
  rintro e w1 ⟨x, rfl, hx0, hx1, hcur1, hg1⟩
  obtain ⟨j, rfl⟩ := Int.eq_ofNat_of_zero_le hx0
  have hj : j < n := by omega
  have hcell : w1.cell? ⟨g, j, none⟩ = some (.string (f j)) := grown_cell hg1 (hl j hj) hgc
  go_wp2
  go_ret
  exact ⟨j, hj, rfl, hcur1, hg1⟩

set_option maxHeartbeats 1000000 in
theorem l1New_any (B : Nat) (a : Option Addr) (len cap : Nat) (zs : List Int) (w : World) (hcode : CodeAt w B a len zs) :
    Calls Try.prog 37 #[.slice a len cap] w fun e w' => e = .returned (.pointer (some ⟨w.heap.size, 0, none⟩)) ∧ CurAt w' w.heap.size a len cap ∧ Below w.heap.size w w' := by
  have hlen := hcode.le
  go_enter Try.func37, Try.ntmps37
  go_wp2
  go_loop [3, 4] (fun h i => ∃ (k : Nat) (x : Int), k ≤ len ∧ i = .int .i64 (k : Int) ∧ h = .int .i64 x) (fun _ i => len - (intOf i).toNat)
  case atStart => exact ⟨0, _, Nat.zero_le _, rfl, rfl⟩
  case round =>
    obtain ⟨k, x, hk, rfl, rfl⟩ := hrel
    by_cases hlt : (k : Int) < (len : Int)
    · by_cases h4 : (k : Int) < 4000
      · obtain ⟨b, off, rfl, hbB, hcell, hz0, hz1⟩ := hcode.get k (by omega)
        clear hcode
        go_wp2
        go_round
        case rel => exact ⟨k + 1, _, by omega, by go_num, rfl⟩
        case measure => simp [intOf]; omega
      · go_wp2
        go_ret
        exact ⟨rfl, ⟨0, x, Nat.zero_le _, heap_alloc_new w _⟩, (Below.refl _ _).alloc (Nat.le_refl _) _⟩
    · go_wp2
      go_ret
      exact ⟨rfl, ⟨0, x, Nat.zero_le _, heap_alloc_new w _⟩, (Below.refl _ _).alloc (Nat.le_refl _) _⟩

end Go.Proofs.Ytckjbgpdbehmaaa

namespace Go.Proofs.Ytckjbgpdbehmaaa
open Go.RowKit
open Go.Lib hiding intOf

theorem CodeAt.grown {w w' : World} {B c : Nat} {a : Option Addr} {len : Nat} {zs : List Int} (h : CodeAt w B a len zs) (hg : w.grownBy w' (some c)) (hB : B ≤ c) : CodeAt w' B a len zs :=
  ⟨h.le, fun j hj => by
    obtain ⟨b, off, h1, h2, h3, h4⟩ := h.get j hj
    exact ⟨b, off, h1, h2, grown_cell hg h3 (by omega), h4⟩⟩
theorem CurAt.grown {w w' : World} {c : Nat} {row : Option Nat} {a : Option Addr} {len cap : Nat} (h : CurAt w c a len cap) (hg : w.grownBy w' row) (hne : row ≠ some c) : CurAt w' c a len cap := by
  have hlt := h.lt
  obtain ⟨i, h, hi, hh⟩ := h
  exact ⟨i, h, hi, by rw [hg.block c hlt (fun e => hne e.symm)]; exact hh⟩
theorem owns_grown {w w' : World} {base c : Nat} {e : TypeId} {size : Nat} {v : Value} {n : Nat} {xs : List Value} (h : w.ownsRow base e size v n xs) (hg : w.grownBy w' (some c)) (hc : c < base) : w'.ownsRow base e size v n xs := by
  refine ⟨h.1, ?_⟩
  rcases h.2 with h2 | ⟨g, cap, cur, rfl, h3, h4, h5⟩
  · exact .inl h2
  · exact .inr ⟨g, cap, cur, rfl, h3, by rw [hg.block g (Array.getElem?_eq_some_iff.1 h4).1 (fun e => by cases e; omega)]; exact h4, h5⟩
/-- A step that turns only a block which came later. -/
theorem grown_later {a w w' : World} {row r : Option Nat} (h : a.grownBy w row) (k : w.grownBy w' r) (hr : ∀ g, r = some g → a.heap.size ≤ g) : a.grownBy w' row :=
  ⟨k.os.trans h.os, k.tape.trans h.tape, k.output.trans h.output, Nat.le_trans h.size k.size, fun i hi hne => (k.block i (Nat.lt_of_lt_of_le hi h.size) (fun e => by have := hr i e.symm; omega)).trans (h.block i hi hne)⟩

theorem listAt_alloc (w : World) (xs : List ByteArray) : ListAt (w.alloc (.cells (xs.map Value.string).toArray 9)) w.heap.size xs.length (textAt xs) := by
  intro j hj
  rw [World.cell?_alloc_new]
  simp [textAt, List.getD_eq_getElem?_getD, hj]

/-- A call on the cursor answers a text of at most m bytes, and turns the cursor alone of what was there. -/
def TextDrawn (m : Nat) (w : World) (c : Nat) (a : Option Addr) (len cap : Nat) (e : Ending) (w' : World) : Prop :=
  ∃ t : ByteArray, e = .returned (.string t) ∧ t.size ≤ m ∧ CurAt w' c a len cap ∧ w.grownBy w' (some c)

def pickL : List ByteArray := [⟨#[32]⟩, ⟨#[44]⟩, ⟨#[97]⟩, ⟨#[90]⟩, ⟨#[55]⟩, ⟨#[45]⟩, ⟨#[61]⟩, ⟨#[120]⟩, ⟨#[58]⟩, ⟨#[1]⟩, ⟨#[64]⟩, ⟨#[91]⟩]
theorem pickL_one : ∀ j, j < 12 → (textAt pickL j).size = 1 := by decide

set_option maxHeartbeats 2000000 in
set_option maxRecDepth 100000 in
theorem l1DrawText_any (c B : Nat) (a : Option Addr) (len cap : Nat) (zs : List Int) (w : World) (hcur : CurAt w c a len cap) (hcode : CodeAt w B a len zs) (hB : B ≤ c) :
    Calls Try.prog 50 #[.pointer (some ⟨c, 0, none⟩)] w fun e w' => TextDrawn 14 w c a len cap e w' := by
  obtain ⟨i0, hi, hz0, hz1, hz2⟩ := info_parts info5
  have hcw := hcur.lt
  go_enter Try.func50, Try.ntmps50
  go_wp2
  go_loopw [3, 4] (fun v i wr => ∃ (k : Nat) (xs : List Int), k ≤ 14 ∧ i = .int .i64 (k : Int) ∧ wr.ownsRow w.heap.size 5 1 v k (xs.map (Value.int .u8)) ∧ CurAt wr c a len cap ∧ w.grownBy wr (some c)) (fun _ i _ => 14 - (intOf i).toNat)
  case atStart => exact ⟨0, [], Nat.zero_le _, rfl, ⟨rfl, .inr ⟨w.heap.size, 0, #[], rfl, Nat.le_refl _, heap_alloc_new w _, Nat.le_refl _, Nat.zero_le _, rfl, rfl⟩⟩, hcur.below ((Below.refl _ _).alloc (Nat.le_refl _) _) hcw, World.grownBy_alloc w _ _⟩
  case round =>
    obtain ⟨k, xs, hk, rfl, hown, hcu, hgw⟩ := hrel
    have hxl : xs.length = k := by have := hown.1; simpa using this
    have HXL : Hid (xs.length = k) := hxl
    clear hxl
    go_wp2_with fail
    refine (l1Below_any c B 14 a len cap zs _ hcu (hcode.grown hgw hB) hB (by omega) (by omega)).mono ?_
    rintro e w1 ⟨x, rfl, hx0, hx1, hcu1, hg1⟩
    have hown1 := owns_grown hown hg1 hcw
    have hgw1 := grownBy_trans hgw hg1
    clear hcu hown hg1 hgw
    by_cases hkx : (k : Int) < x
    · have hcl := hcu1.lt
      have hsw1 := hgw1.size
      have hla := listAt_alloc w1 pickL
      go_wp2_with fail
      refine (l1Pick_any c B w1.heap.size 12 (textAt pickL) a len cap zs _ (hcu1.below ((Below.refl _ _).alloc (Nat.le_refl _) _) hcl) (hcode.grown (grownBy_allocR hgw1 _) hB) hB (by omega) (by omega) (by exact hla) (by omega)).mono ?_
      rintro e w3 ⟨j, hj, rfl, hcu3, hg3⟩
      have ht1 := pickL_one j hj
      obtain ⟨t, ht⟩ : ∃ t, t = textAt pickL j := ⟨_, rfl⟩
      rw [← ht] at ht1 ⊢
      have hown3 := owns_grown (hown1.alloc (.cells (pickL.map Value.string).toArray 9)) hg3 hcw
      have hgw3 := grownBy_trans (grownBy_allocR hgw1 (.cells (pickL.map Value.string).toArray 9)) hg3
      have hcl3 := hcu3.lt
      have hsw3 := hgw3.size
      clear ht hla hg3 hown1 hgw1 hcu1
      have hp0 : 0 < t.size := by omega
      have h63 : k + 1 ≤ maxLen := by unfold maxLen; omega
      have h47 : (k + 1) * 1 ≤ 140737488355328 := by omega
      have HBS : ∀ o, w.heap.size ≤ (w3.alloc o).heap.size := fun o => by simp; omega
      go_wp2_with (at_builtin; refine wpList_append_own _ rfl _ _ 22 rfl w.heap.size 5 i0 (.int .u8 0) 1 1 Try.underlying22 hi hz0 hz1 hz2 rfl (by decide) _ _ _ rfl (hown3.alloc _) ⟨w3.heap.size, 0, none⟩ 1 1 [.int .u8 ((t[0]'hp0).toNat : Int)] rfl rfl (cell_one_new _ _ _) (one_byte _) h63 h47 (HBS _) ?_)
      intro v1 w5 hown5 hgrow _
      have hgw5 : w.grownBy w5 (some c) := grown_later (grownBy_allocR hgw3 _) hgrow (fun g hg => owns_ge hown3 hg)
      have hcu5 : CurAt w5 c a len cap := (hcu3.below ((Below.refl _ _).alloc (Nat.le_refl _) _) hcl3).grown hgrow (fun e => by have := owns_ge hown3 e; omega)
      clear hgrow hown3 hcu3 hgw3 HBS
      go_wp2
      go_roundw
      case rel => exact ⟨k + 1, xs ++ [((t[0]'hp0).toNat : Int)], by omega, by go_num, by simpa using hown5, hcu5, hgw5⟩
      case measure => simp [intOf]; omega
    · have hcv := conv_owned hown1
      go_wp2
      go_ret
      exact ⟨strOfNums xs, rfl, by rw [strOfNums_size, HXL.out]; omega, hcu1, hgw1⟩

set_option maxHeartbeats 1000000 in
theorem l1Once_any (c B : Nat) (m : Int) (a : Option Addr) (len cap : Nat) (zs : List Int) (w : World) (hcur : CurAt w c a len cap) (hcode : CodeAt w B a len zs) (hB : B ≤ c) (hm : 1 ≤ m) (hm2 : m ≤ 256) :
    Calls Try.prog 66 #[.pointer (some ⟨c, 0, none⟩), .int .i64 m] w fun e w' => Hid (∃ b : Bool, e = .returned (.bool b)) ∧ CurAt w' c a len cap ∧ w.grownBy w' (some c) := by
  go_enter Try.func66, Try.ntmps66
  go_wp2_with fail
  refine (l1Below_any c B m a len cap zs _ hcur hcode hB hm hm2).mono ?_
  rintro e w1 ⟨x, rfl, hx0, hx1, hcur1, hg1⟩
  go_wp2
  go_ret
  exact ⟨⟨_, rfl⟩, hcur1, hg1⟩

end Go.Proofs.Ytckjbgpdbehmaaa

namespace Go.Proofs.Ytckjbgpdbehmaaa
open Go.RowKit
open Go.Lib hiding intOf

def nameAt (fs : List (ByteArray × ByteArray)) (i : Nat) : ByteArray := (fs.getD i (⟨#[]⟩, ⟨#[]⟩)).1
def valAt (fs : List (ByteArray × ByteArray)) (i : Nat) : ByteArray := (fs.getD i (⟨#[]⟩, ⟨#[]⟩)).2
/-- Where the first field of that name stands; the length where there is none. -/
def atF : List (ByteArray × ByteArray) → ByteArray → Nat
  | [], _ => 0
  | f :: r, name => if f.1 = name then 0 else atF r name + 1
/-- The text of the first k fields. -/
def ftTo (fs : List (ByteArray × ByteArray)) : Nat → ByteArray
  | 0 => ⟨#[]⟩
  | k + 1 => ftTo fs k ++ nameAt fs k ++ ⟨#[58, 32]⟩ ++ valAt fs k ++ ⟨#[13, 10]⟩
def fieldsText (fs : List (ByteArray × ByteArray)) : ByteArray := ftTo fs fs.length
/-- What the chapter asks of fields. -/
def FldsOk (fs : List (ByteArray × ByteArray)) : Prop :=
  fs.length ≤ 8 ∧ ∀ i, i < fs.length → TokOk (nameAt fs i) ∧ ValOk (valAt fs i) ∧ atF fs (nameAt fs i) = i ∧ nameAt fs i ≠ ⟨#[99, 111, 110, 116, 101, 110, 116, 45, 108, 101, 110, 103, 116, 104]⟩
def clen : ByteArray := ⟨#[99, 111, 110, 116, 101, 110, 116, 45, 108, 101, 110, 103, 116, 104]⟩
end Go.Proofs.Ytckjbgpdbehmaaa

namespace Go.Proofs.Ytckjbgpdbehmaaa
open Go.RowKit

def PathB (n : Int) : Prop := 33 ≤ n ∧ n ≤ 126
def PathOk (s : ByteArray) : Prop := AllB PathB s ∧ 1 ≤ s.size ∧ s.size ≤ 60 ∧ ∃ h : 0 < s.size, (s[0]'h).toNat = 47
def ReqP (m : Int) (path : ByteArray) (fs : List (ByteArray × ByteArray)) (body : ByteArray) : Prop := (1 ≤ m ∧ m ≤ 4) ∧ PathOk path ∧ FldsOk fs ∧ body.size ≤ 120
def methB (m : Int) : ByteArray := if m = 1 then ⟨#[71, 69, 84]⟩ else if m = 2 then ⟨#[72, 69, 65, 68]⟩ else if m = 3 then ⟨#[80, 79, 83, 84]⟩ else if m = 4 then ⟨#[80, 85, 82, 71, 69]⟩ else ⟨#[]⟩
def httpEnd : ByteArray := ⟨#[32, 72, 84, 84, 80, 47, 49, 46, 49, 13, 10]⟩
def clenK : ByteArray := ⟨#[99, 111, 110, 116, 101, 110, 116, 45, 108, 101, 110, 103, 116, 104, 58, 32]⟩
def lnE : ByteArray := ⟨#[13, 10]⟩
/-- What a request's text is, right or not. -/
def reqHead (m : Int) (path : ByteArray) (fs : List (ByteArray × ByteArray)) : ByteArray := methB m ++ ⟨#[32]⟩ ++ path ++ httpEnd ++ fieldsText fs
def reqT (m : Int) (path : ByteArray) (fs : List (ByteArray × ByteArray)) (body : ByteArray) : ByteArray :=
  (if body.size = 0 then reqHead m path fs else reqHead m path fs ++ clenK ++ numText body.size ++ lnE) ++ lnE ++ body
/-- The text is that of this right request. -/
def IsReq (s : ByteArray) (m : Int) (path : ByteArray) (fs : List (ByteArray × ByteArray)) (body : ByteArray) : Prop := ReqP m path fs body ∧ reqT m path fs body = s
def bs (s : ByteArray) : List UInt8 := s.data.toList
theorem bs_append (a b : ByteArray) : bs (a ++ b) = bs a ++ bs b := by simp [bs]
theorem bs_inj {a b : ByteArray} (h : bs a = bs b) : a = b := by
  apply ByteArray.ext
  exact Array.toList_inj.1 h
theorem bs_len (a : ByteArray) : (bs a).length = a.size := by simp [bs]
theorem bs_all {p : Int → Prop} {s : ByteArray} (h : AllB p s) : ∀ b ∈ bs s, p (b.toNat : Int) := mem_byte (p := fun b => p (b.toNat : Int)) h

/-- The lines of a head and what is behind it. -/
def headL (out : List (List UInt8)) (cur : List UInt8) : List UInt8 → List (List UInt8) × Option (List UInt8)
  | [] => (out, none)
  | [_] => (out, none)
  | c :: d :: r => if c = 13 ∧ d = 10 then (if cur = [] then (out, some r) else headL (out ++ [cur]) [] r) else headL out (cur ++ [c]) (d :: r)
/-- What stands between blanks. -/
def wordsL (out : List (List UInt8)) (cur : List UInt8) : List UInt8 → List (List UInt8)
  | [] => out ++ [cur]
  | c :: r => if c = 32 then wordsL (out ++ [cur]) [] r else wordsL out (cur ++ [c]) r
/-- A line cut at its first colon with a blank behind it. -/
def fieldL (cur : List UInt8) : List UInt8 → Option (List UInt8 × List UInt8)
  | [] => none
  | [_] => none
  | c :: d :: r => if c = 58 ∧ d = 32 then some (cur, r) else fieldL (cur ++ [c]) (d :: r)
def clenL : List UInt8 := [99, 111, 110, 116, 101, 110, 116, 45, 108, 101, 110, 103, 116, 104]
def fieldsL : List (List UInt8) → List (List UInt8 × List UInt8)
  | [] => []
  | l :: r => match fieldL [] l with
    | some f => if f.1 = clenL then fieldsL r else f :: fieldsL r
    | none => fieldsL r

theorem head_line (out : List (List UInt8)) (line rest : List UInt8) (h13 : ∀ b ∈ line, b ≠ 13) : ∀ cur, cur ++ line ≠ [] → headL out cur (line ++ 13 :: 10 :: rest) = headL (out ++ [cur ++ line]) [] rest := by
  induction line with
  | nil =>
    intro cur hne
    simp only [List.append_nil] at hne
    simp [headL, hne]
  | cons c r ih =>
    intro cur _
    have hc : c ≠ 13 := h13 c (by simp)
    have ih := ih (fun b hb => h13 b (by simp [hb])) (cur ++ [c]) (by simp)
    rw [List.append_assoc] at ih
    cases r with
    | nil =>
      simp only [List.cons_append, List.nil_append] at ih ⊢
      rw [headL, if_neg (fun h => hc h.1), ih]
    | cons d r =>
      simp only [List.cons_append, List.nil_append] at ih ⊢
      rw [headL, if_neg (fun h => hc h.1), ih]
theorem head_lines (body : List UInt8) (lines : List (List UInt8)) (h : ∀ l ∈ lines, l ≠ [] ∧ ∀ b ∈ l, b ≠ 13) : ∀ out, headL out [] (lines.flatMap (fun l => l ++ [13, 10]) ++ 13 :: 10 :: body) = (out ++ lines, some body) := by
  induction lines with
  | nil => intro out; simp [headL]
  | cons l r ih =>
    intro out
    have hl := h l (by simp)
    have e : (l :: r).flatMap (fun l => l ++ [13, 10]) ++ 13 :: 10 :: body = l ++ 13 :: 10 :: (r.flatMap (fun l => l ++ [13, 10]) ++ 13 :: 10 :: body) := by simp
    rw [e, head_line out l _ hl.2 [] (by simpa using hl.1), ih (fun x hx => h x (by simp [hx]))]
    simp
theorem words_word (word rest : List UInt8) (h : ∀ b ∈ word, b ≠ 32) : ∀ out cur, wordsL out cur (word ++ 32 :: rest) = wordsL (out ++ [cur ++ word]) [] rest := by
  induction word with
  | nil => intro out cur; simp [wordsL]
  | cons c r ih =>
    intro out cur
    rw [List.cons_append, wordsL, if_neg (h c (by simp)), ih (fun b hb => h b (by simp [hb]))]
    simp
theorem words_last (word : List UInt8) (h : ∀ b ∈ word, b ≠ 32) : ∀ out cur, wordsL out cur word = out ++ [cur ++ word] := by
  induction word with
  | nil => intro out cur; simp [wordsL]
  | cons c r ih =>
    intro out cur
    rw [wordsL, if_neg (h c (by simp)), ih (fun b hb => h b (by simp [hb]))]
    simp
theorem field_cut (nm vl : List UInt8) (h : ∀ b ∈ nm, b ≠ 58) : ∀ cur, fieldL cur (nm ++ 58 :: 32 :: vl) = some (cur ++ nm, vl) := by
  induction nm with
  | nil => intro cur; simp [fieldL]
  | cons c r ih =>
    intro cur
    have ih := ih (fun b hb => h b (by simp [hb])) (cur ++ [c])
    cases r with
    | nil =>
      simp only [List.cons_append, List.nil_append] at ih ⊢
      rw [fieldL, if_neg (fun e => h c (by simp) e.1), ih]
      simp
    | cons d r =>
      simp only [List.cons_append] at ih ⊢
      rw [fieldL, if_neg (fun e => h c (by simp) e.1), ih]
      simp

def fieldLine (f : ByteArray × ByteArray) : List UInt8 := bs f.1 ++ 58 :: 32 :: bs f.2
def clenLine (n : Nat) : List UInt8 := clenL ++ 58 :: 32 :: numL n
theorem flds_mem {fs : List (ByteArray × ByteArray)} (h : FldsOk fs) : ∀ f ∈ fs, TokOk f.1 ∧ ValOk f.2 ∧ f.1 ≠ clen := by
  intro f hf
  obtain ⟨i, hi, rfl⟩ := List.getElem_of_mem hf
  have := h.2 i hi
  have e : (nameAt fs i, valAt fs i) = fs[i] := by
    unfold nameAt valAt
    rw [List.getD_eq_getElem?_getD, List.getElem?_eq_getElem hi]
    rfl
  rw [← e]
  exact ⟨this.1, this.2.1, this.2.2.2⟩
theorem fieldsL_of {fs : List (ByteArray × ByteArray)} (tail : List (List UInt8)) (h : ∀ f ∈ fs, TokOk f.1 ∧ ValOk f.2 ∧ f.1 ≠ clen) : fieldsL (fs.map fieldLine ++ tail) = fs.map (fun f => (bs f.1, bs f.2)) ++ fieldsL tail := by
  induction fs with
  | nil => rfl
  | cons f r ih =>
    have hf := h f (by simp)
    have h58 : ∀ b ∈ bs f.1, b ≠ 58 := fun b hb e => by
      have := bs_all hf.1.2.2 b hb
      subst e
      unfold TokB at this
      simp at this
    simp only [List.map_cons, List.cons_append, fieldsL]
    rw [show fieldL [] (fieldLine f) = some (bs f.1, bs f.2) from by have := field_cut (bs f.1) (bs f.2) h58 []; simpa [fieldLine] using this]
    simp only
    rw [if_neg (fun e => hf.2.2 (bs_inj (by rw [e]; rfl))), ih (fun x hx => h x (by simp [hx]))]
theorem fieldsL_clen (n : Nat) : fieldsL [clenLine n] = [] := by
  have h58 : ∀ b ∈ clenL, b ≠ 58 := by decide
  simp only [fieldsL]
  rw [show fieldL [] (clenLine n) = some (clenL, numL n) from by have := field_cut clenL (numL n) h58 []; simpa [clenLine] using this]
  simp
theorem bs_ft (fs : List (ByteArray × ByteArray)) : ∀ k, k ≤ fs.length → bs (ftTo fs k) = ((fs.take k).map fieldLine).flatMap (fun l => l ++ [13, 10]) := by
  intro k
  induction k with
  | zero => intro _; rfl
  | succ k ih =>
    intro hk
    have e : (nameAt fs k, valAt fs k) = fs[k]'(by omega) := by
      unfold nameAt valAt
      rw [List.getD_eq_getElem?_getD, List.getElem?_eq_getElem (by omega)]
      rfl
    have ht : fs.take (k + 1) = fs.take k ++ [fs[k]'(by omega)] := (List.take_append_getElem (by omega)).symm
    rw [ftTo, ht, ← e]
    simp only [bs_append, ih (by omega), List.map_append, List.flatMap_append, List.map_cons, List.map_nil, List.flatMap_cons, List.flatMap_nil, fieldLine]
    simp [bs]
theorem bs_fields (fs : List (ByteArray × ByteArray)) : bs (fieldsText fs) = (fs.map fieldLine).flatMap (fun l => l ++ [13, 10]) := by
  have := bs_ft fs fs.length (Nat.le_refl _)
  rw [List.take_length] at this
  exact this

def httpL : List UInt8 := [72, 84, 84, 80, 47, 49, 46, 49]
def reqLine (m : Int) (path : ByteArray) : List UInt8 := bs (methB m) ++ 32 :: (bs path ++ 32 :: httpL)
theorem bs_num (n : Nat) : bs (numText n) = numL n := rfl
theorem bs_reqT (m : Int) (path : ByteArray) (fs : List (ByteArray × ByteArray)) (body : ByteArray) : bs (reqT m path fs body) = (reqLine m path :: (fs.map fieldLine ++ (if body.size = 0 then [] else [clenLine body.size]))).flatMap (fun l => l ++ [13, 10]) ++ 13 :: 10 :: bs body := by
  unfold reqT reqHead
  by_cases h : body.size = 0
  · rw [if_pos h, if_pos h]
    simp only [bs_append, bs_fields, List.flatMap_cons, List.append_nil, reqLine]
    simp [bs, httpEnd, lnE, httpL]
  · rw [if_neg h, if_neg h]
    simp only [bs_append, bs_fields, bs_num, List.flatMap_cons, List.flatMap_append, List.flatMap_nil, reqLine, clenLine]
    simp [bs, httpEnd, lnE, httpL, clenK, clenL]
theorem numL_dig (n : Nat) (h : n ≤ 1000000) : numL n ≠ [] ∧ ∀ b ∈ numL n, DigB b := by
  unfold numL
  rw [if_neg (by omega)]
  by_cases h0 : n = 0
  · rw [if_pos h0]
    refine ⟨by simp, ?_⟩
    intro b hb
    simp at hb
    subst hb
    unfold DigB; decide
  · rw [if_neg h0]
    have hf := dg_facts 8 n (by omega)
    refine ⟨fun e => ?_, hf.2.2⟩
    have h2 := hf.2.1
    rw [e] at h2
    exact h0 h2.symm
theorem line_field {f : ByteArray × ByteArray} (h : TokOk f.1 ∧ ValOk f.2 ∧ f.1 ≠ clen) : fieldLine f ≠ [] ∧ ∀ b ∈ fieldLine f, b ≠ 13 := by
  refine ⟨by simp [fieldLine], ?_⟩
  intro b hb e
  subst e
  simp only [fieldLine, List.mem_append, List.mem_cons] at hb
  rcases hb with hb | hb | hb | hb
  · have := bs_all h.1.2.2 _ hb
    unfold TokB at this
    simp at this
  · exact absurd hb (by decide)
  · exact absurd hb (by decide)
  · have := bs_all h.2.1.2.2.1 _ hb
    unfold ValB at this
    simp at this
theorem line_clen (n : Nat) (h : n ≤ 1000000) : clenLine n ≠ [] ∧ ∀ b ∈ clenLine n, b ≠ 13 := by
  refine ⟨by simp [clenLine], ?_⟩
  intro b hb e
  subst e
  simp only [clenLine, List.mem_append, List.mem_cons] at hb
  rcases hb with hb | hb | hb | hb
  · exact absurd hb (by decide)
  · exact absurd hb (by decide)
  · exact absurd hb (by decide)
  · have := (numL_dig n h).2 _ hb
    unfold DigB at this
    simp at this
theorem meth_cases {m : Int} (h : 1 ≤ m ∧ m ≤ 4) : m = 1 ∨ m = 2 ∨ m = 3 ∨ m = 4 := by omega
theorem meth_bytes {m : Int} (h : 1 ≤ m ∧ m ≤ 4) : bs (methB m) ≠ [] ∧ ∀ b ∈ bs (methB m), b ≠ 13 ∧ b ≠ 32 := by
  rcases meth_cases h with rfl | rfl | rfl | rfl
  all_goals (constructor <;> decide)
theorem line_req {m : Int} {path : ByteArray} (h : 1 ≤ m ∧ m ≤ 4) (hp : PathOk path) : reqLine m path ≠ [] ∧ ∀ b ∈ reqLine m path, b ≠ 13 := by
  refine ⟨by simp [reqLine], ?_⟩
  intro b hb e
  subst e
  simp only [reqLine, List.mem_append, List.mem_cons] at hb
  rcases hb with hb | hb | hb | hb | hb
  · exact ((meth_bytes h).2 _ hb).1 rfl
  · exact absurd hb (by decide)
  · have := bs_all hp.1 _ hb
    unfold PathB at this
    simp at this
  · exact absurd hb (by decide)
  · exact absurd hb (by decide)
/-- What is read of a right request's text: its lines, what is behind them. -/
theorem req_head {s : ByteArray} {m : Int} {path : ByteArray} {fs : List (ByteArray × ByteArray)} {body : ByteArray} (h : IsReq s m path fs body) :
    headL [] [] (bs s) = (reqLine m path :: (fs.map fieldLine ++ (if body.size = 0 then [] else [clenLine body.size])), some (bs body)) := by
  obtain ⟨⟨hm, hp, hf, hb⟩, rfl⟩ := h
  rw [bs_reqT, head_lines]
  · rfl
  · intro l hl
    simp only [List.mem_cons, List.mem_append, List.mem_map] at hl
    rcases hl with rfl | ⟨f, hf1, rfl⟩ | hl
    · exact line_req hm hp
    · exact line_field (flds_mem hf f hf1)
    · by_cases h0 : body.size = 0
      · rw [if_pos h0] at hl; simp at hl
      · rw [if_neg h0] at hl
        simp at hl
        subst hl
        exact line_clen _ (by omega)
theorem req_words {m : Int} {path : ByteArray} (h : 1 ≤ m ∧ m ≤ 4) (hp : PathOk path) : wordsL [] [] (reqLine m path) = [bs (methB m), bs path, httpL] := by
  unfold reqLine
  rw [words_word _ _ (fun b hb => ((meth_bytes h).2 b hb).2), words_word _ _ (fun b hb e => by
    have := bs_all hp.1 b hb
    subst e
    unfold PathB at this
    simp at this), words_last _ (by decide)]
  rfl
theorem req_fields {fs : List (ByteArray × ByteArray)} (h : FldsOk fs) (n : Nat) : fieldsL (fs.map fieldLine ++ (if n = 0 then [] else [clenLine n])) = fs.map (fun f => (bs f.1, bs f.2)) := by
  rw [fieldsL_of _ (flds_mem h)]
  by_cases h0 : n = 0
  · rw [if_pos h0]; simp [fieldsL]
  · rw [if_neg h0, fieldsL_clen]; simp
theorem pairs_inj : ∀ {a b : List (ByteArray × ByteArray)}, a.map (fun f => (bs f.1, bs f.2)) = b.map (fun f => (bs f.1, bs f.2)) → a = b
  | [], [], _ => rfl
  | [], _ :: _, h => by simp at h
  | _ :: _, [], h => by simp at h
  | f :: r, g :: t, h => by
    simp only [List.map_cons, List.cons.injEq, Prod.mk.injEq] at h
    rw [pairs_inj h.2]
    congr 1
    exact Prod.ext (bs_inj h.1.1) (bs_inj h.1.2)
end Go.Proofs.Ytckjbgpdbehmaaa

namespace Go.Proofs.Ytckjbgpdbehmaaa
open Go.RowKit

theorem bs_extract (s : ByteArray) (f j : Nat) : bs (s.extract f j) = ((bs s).take j).drop f := by
  simp [bs, List.drop_take]
def bsP (f : ByteArray × ByteArray) : List UInt8 × List UInt8 := (bs f.1, bs f.2)
end Go.Proofs.Ytckjbgpdbehmaaa

namespace Go.Proofs.Ytckjbgpdbehmaaa
open Go.RowKit

/-- What is said of keeping. -/
structure CcD where
  ns : Bool
  nc : Bool
  pr : Bool
  mu : Bool
  ha : Bool
  age : Int
def CcD.v (c : CcD) : Value := .agg #[.bool c.ns, .bool c.nc, .bool c.pr, .bool c.mu, .bool c.ha, .int .i64 c.age]
end Go.Proofs.Ytckjbgpdbehmaaa

namespace Go.Proofs.Ytckjbgpdbehmaaa
open Go.RowKit
open Go.Lib hiding intOf

/-- A list of texts that is read. -/
def TextsA (w : World) (oa : Option Addr) (n : Nat) (xs : List ByteArray) : Prop :=
  xs.length = n ∧ ∀ i, i < n → ∃ g, oa = some ⟨g, 0, none⟩ ∧ g < w.heap.size ∧ w.cell? ⟨g, i, none⟩ = some (.string (textAt xs i))
theorem TextsA.below {w w' : World} {oa : Option Addr} {n : Nat} {xs : List ByteArray} (h : TextsA w oa n xs) (hb : Below w.heap.size w w') : TextsA w' oa n xs :=
  ⟨h.1, fun i hi => by
    obtain ⟨g, h1, h2, h3⟩ := h.2 i hi
    exact ⟨g, h1, Nat.lt_of_lt_of_le h2 hb.size, by rw [hb.cell (p := ⟨g, i, none⟩) h2]; exact h3⟩⟩
theorem texts_own {w : World} {base n : Nat} {v : Value} {xs : List ByteArray} (h : w.ownsRow base 9 1 v n (xs.map Value.string)) : ∃ oa cap, v = .slice oa n cap ∧ TextsA w oa n xs := by
  have hl : xs.length = n := by have := h.1; simpa using this
  rcases row_form h with ⟨oa, ca, rfl, rfl, rfl⟩ | ⟨g, cap, rfl, hp, r⟩
  · exact ⟨oa, ca, rfl, rfl, fun i hi => absurd hi (by omega)⟩
  · exact ⟨_, _, rfl, hl, fun i hi => ⟨g, rfl, r.lt, r.cell i hi⟩⟩

end Go.Proofs.Ytckjbgpdbehmaaa

namespace Go.Proofs.Ytckjbgpdbehmaaa
open Go.RowKit
open Go.Lib hiding intOf

attribute [local go_sem ↓] Go.wp_at_zero Go.wp_at_succ

/-- A list of fields that came in, in blocks below B. -/
structure ArgF (w : World) (B : Nat) (a : Option Addr) (n : Nat) (fs : List (ByteArray × ByteArray)) : Prop where
  len : fs.length = n
  get : ∀ i, i < n → ∃ b off, a = some ⟨b, off, none⟩ ∧ b < B ∧ w.cell? ⟨b, off + i * 2, none⟩ = some (.string (nameAt fs i)) ∧ w.cell? ⟨b, off + i * 2 + 1, none⟩ = some (.string (valAt fs i))
theorem ArgF.below {w w' : World} {B : Nat} {a : Option Addr} {n : Nat} {fs : List (ByteArray × ByteArray)} (h : ArgF w B a n fs) (hb : Below B w w') : ArgF w' B a n fs :=
  ⟨h.len, fun i hi => by
    obtain ⟨b, off, h1, h2, h3, h4⟩ := h.get i hi
    exact ⟨b, off, h1, h2, by rw [hb.cell (p := ⟨b, off + i * 2, none⟩) h2]; exact h3, by rw [hb.cell (p := ⟨b, off + i * 2 + 1, none⟩) h2]; exact h4⟩⟩

theorem heap_set (w : World) (c o : Nat) (cs : Array Value) (t : TypeId) (fz : Nat × Nat) (v : Value) (h : w.heap[c]? = some (.cells cs t fz)) : (w.setCell ⟨c, o, none⟩ v).heap[c]? = some (.cells (cs.setIfInBounds o v) t fz) := by
  simp [World.setCell, Array.getElem?_modify, h]
end Go.Proofs.Ytckjbgpdbehmaaa

namespace Go.Proofs.Ytckjbgpdbehmaaa
open Go.RowKit
open Go.Lib hiding intOf

theorem owns_wide {w : World} {B base : Nat} {e : TypeId} {size : Nat} {v : Value} {n : Nat} {xs : List Value} (h : w.ownsRow base e size v n xs) (hB : B ≤ base) : w.ownsRow B e size v n xs := by
  obtain ⟨hl, hv⟩ := h
  refine ⟨hl, ?_⟩
  rcases hv with h0 | ⟨g, cap, cur, h1, h2, h3⟩
  · exact .inl h0
  · exact .inr ⟨g, cap, cur, h1, Nat.le_trans hB h2, h3⟩
theorem owns_same {w w' : World} {base : Nat} {e : TypeId} {size : Nat} {v : Value} {n : Nat} {xs : List Value} (h : w.ownsRow base e size v n xs) (hs : ∀ j, v.ownBlock = some j → w'.heap[j]? = w.heap[j]?) : w'.ownsRow base e size v n xs := by
  obtain ⟨hl, hv⟩ := h
  refine ⟨hl, ?_⟩
  rcases hv with h0 | ⟨g, cap, cur, rfl, h2, h3, h4⟩
  · exact .inl h0
  · exact .inr ⟨g, cap, cur, rfl, h2, by rw [hs g rfl]; exact h3, h4⟩

end Go.Proofs.Ytckjbgpdbehmaaa

namespace Go.Proofs.Ytckjbgpdbehmaaa
open Go.RowKit
open Go.Lib hiding intOf

/-- A list of texts among the arguments. -/
structure ArgT (w : World) (B : Nat) (a : Option Addr) (n : Nat) (xs : List ByteArray) : Prop where
  len : xs.length = n
  get : ∀ i, i < n → ∃ b off, a = some ⟨b, off, none⟩ ∧ b < B ∧ w.cell? ⟨b, off + i, none⟩ = some (.string (textAt xs i))
theorem ArgT.below {w w' : World} {B : Nat} {a : Option Addr} {n : Nat} {xs : List ByteArray} (h : ArgT w B a n xs) (hb : Below B w w') : ArgT w' B a n xs :=
  ⟨h.len, fun i hi => by
    obtain ⟨b, off, h1, h2, h3⟩ := h.get i hi
    exact ⟨b, off, h1, h2, by rw [hb.cell (p := ⟨b, off + i, none⟩) h2]; exact h3⟩⟩

/-- The first k texts of a row of n cells are told. -/
def PartT (w : World) (g n k : Nat) (xs : List ByteArray) : Prop :=
  ∃ cur, w.heap[g]? = some (.cells cur 9 (0, 0)) ∧ cur.size = n ∧ ∀ i, i < k → cur[i]? = some (.string (textAt xs i))
theorem PartT.put {w : World} {g n k : Nat} {xs : List ByteArray} (h : PartT w g n k xs) (hk : k < n) : PartT (w.setCell ⟨g, k, none⟩ (.string (textAt xs k))) g n (k + 1) xs := by
  obtain ⟨cur, h1, h2, h3⟩ := h
  refine ⟨_, heap_set w g k _ _ _ _ h1, by simpa using h2, fun i hi => ?_⟩
  by_cases e : i = k
  · subst e
    exact Array.getElem?_setIfInBounds_self_of_lt (by omega)
  · rw [Array.getElem?_setIfInBounds_ne (fun x => e x.symm)]
    exact h3 i (by omega)
theorem PartT.row {w : World} {g n base : Nat} {xs : List ByteArray} (h : PartT w g n n xs) (hl : xs.length = n) (hb : base ≤ g) (hn : n ≤ maxLen) : TextRow base w g n n xs := by
  obtain ⟨cur, h1, h2, h3⟩ := h
  exact ⟨hl, hb, (Array.getElem?_eq_some_iff.1 h1).1, Nat.le_refl _, hn, cur, h1, h2, h3⟩

set_option maxHeartbeats 1000000 in
theorem sameT_any (v1 v2 : Value) (n b1 b2 : Nat) (xs : List ByteArray) (w : World) (h1 : w.ownsRow b1 9 1 v1 n (xs.map Value.string)) (h2 : w.ownsRow b2 9 1 v2 n (xs.map Value.string)) (hn : n ≤ 2000000) :
    Calls Try.prog 15 #[v1, v2] w fun e w' => e = .returned (.bool true) ∧ Below w.heap.size w w' := by
  rcases row_form h1 with ⟨oa, ca, rfl, rfl, rfl⟩ | ⟨g1, c1, rfl, hp, r1⟩
  · rcases row_form h2 with ⟨ob, cb, rfl, _, _⟩ | ⟨g2, c2, rfl, hp2, _⟩
    · clear h1 h2
      go_enter Try.func15, Try.ntmps15
      go_wp2
      refine wp_loop_rounds 1 ?_
      rw [rounds_succ]
      go_wp2
      go_ret
      exact ⟨rfl, Below.refl _ _⟩
    · omega
  · rcases row_form h2 with ⟨ob, cb, rfl, h0, _⟩ | ⟨g2, c2, rfl, hp2, r2⟩
    · omega
    · clear h1 h2
      go_enter Try.func15, Try.ntmps15
      go_wp2
      go_loopw [5] (fun i wr => ∃ k : Nat, k ≤ n ∧ i = .int .i64 (k : Int) ∧ Below w.heap.size w wr) (fun i _ => n - (intOf i).toNat)
      case atStart => exact ⟨0, Nat.zero_le _, rfl, Below.refl _ _⟩
      case round =>
        obtain ⟨k, hk, rfl, hbw⟩ := hrel
        by_cases hlt : k < n
        · have hlt2 : (k : Int) < (n : Int) := by omega
          have hc1 := (r1.below hbw r1.lt).cell k hlt
          have hc2 := (r2.below hbw r2.lt).cell k hlt
          go_wp2
          go_quiet (fail)
          go_wp2
          go_roundw
          case rel => exact ⟨k + 1, by omega, by go_num, below_drewN hbw _⟩
          case measure => simp [intOf]; omega
        · go_wp2
          go_ret
          exact ⟨rfl, hbw⟩

end Go.Proofs.Ytckjbgpdbehmaaa

namespace Go.Proofs.Ytckjbgpdbehmaaa
open Go.RowKit
open Go.Lib hiding intOf

set_option maxHeartbeats 400000 in
theorem l1In_any (x lo hi : Int) (w : World) :
    Calls Try.prog 45 #[.int .i64 x, .int .i64 lo, .int .i64 hi] w fun e w' => e = .returned (.bool (decide (lo ≤ x ∧ x ≤ hi))) ∧ w' = w := by
  by_cases h1 : lo ≤ x
  · by_cases h2 : x ≤ hi
    · go_enter Try.func45, Try.ntmps45
      go_wp2
      go_ret
      exact ⟨by simp [h1, h2], rfl⟩
    · go_enter Try.func45, Try.ntmps45
      go_wp2
      go_ret
      exact ⟨by simp [h2], rfl⟩
  · go_enter Try.func45, Try.ntmps45
    go_wp2
    go_ret
    exact ⟨by simp; omega, rfl⟩

end Go.Proofs.Ytckjbgpdbehmaaa

namespace Go.Proofs.Ytckjbgpdbehmaaa
open Go.RowKit
open Go.Lib hiding intOf

/-- A list of texts that a function reads, in blocks below B. -/
def TextsV (w : World) (B : Nat) (a : Option Addr) (n : Nat) (xs : List ByteArray) : Prop :=
  xs.length = n ∧ ∀ i (h : i < xs.length), ∃ g off, a = some ⟨g, off, none⟩ ∧ g < B ∧ w.cell? ⟨g, off + i, none⟩ = some (.string (xs[i]'h))
theorem TextsV.below {w w' : World} {B : Nat} {a : Option Addr} {n : Nat} {xs : List ByteArray} (h : TextsV w B a n xs) (hb : Below B w w') : TextsV w' B a n xs :=
  ⟨h.1, fun i hi => by
    obtain ⟨g, off, h1, h2, h3⟩ := h.2 i hi
    exact ⟨g, off, h1, h2, by rw [hb.cell (p := ⟨g, off + i, none⟩) h2]; exact h3⟩⟩

end Go.Proofs.Ytckjbgpdbehmaaa

namespace Go.Proofs.Ytckjbgpdbehmaaa
open Go.RowKit
open Go.Lib hiding intOf

theorem map_bs_inj : ∀ {a b : List ByteArray}, a.map bs = b.map bs → a = b
  | [], [], _ => rfl
  | [], _ :: _, h => by simp at h
  | _ :: _, [], h => by simp at h
  | x :: r, y :: t, h => by
    simp only [List.map_cons, List.cons.injEq] at h
    rw [map_bs_inj h.2, bs_inj h.1]

/-- What is read of a text, ahead of the last look: the words of its first line, the fields of the others, what is behind. -/
structure Parts (s : ByteArray) (xs : List ByteArray) (k : Nat) (ws : List ByteArray) (l : List (ByteArray × ByteArray)) : Prop where
  head : headL [] [] (bs s) = (xs.map bs, some ((bs s).drop k))
  ne : xs ≠ []
  words : wordsL [] [] (bs (xs.headD ⟨#[]⟩)) = ws.map bs
  fields : fieldsL (xs.tail.map bs) = l.map bsP
/-- A request's text is read as the request. -/
theorem IsReq.parts {s : ByteArray} {m : Int} {p : ByteArray} {fs : List (ByteArray × ByteArray)} {b : ByteArray} (h : IsReq s m p fs b) {xs : List ByteArray} {k : Nat} {ws : List ByteArray} {l : List (ByteArray × ByteArray)} (hp : Parts s xs k ws l) :
    ∃ x, ws = [methB m, p, x] ∧ l = fs ∧ s.extract k s.size = b := by
  have e := hp.head.symm.trans (req_head h)
  simp only [Prod.mk.injEq, Option.some.injEq] at e
  obtain ⟨e1, e2⟩ := e
  obtain ⟨x0, xr, rfl⟩ : ∃ x0 xr, xs = x0 :: xr := by
    cases xs with
    | nil => exact absurd rfl hp.ne
    | cons a r => exact ⟨a, r, rfl⟩
  simp only [List.map_cons, List.cons.injEq] at e1
  have hw := hp.words
  simp only [List.headD_cons] at hw
  rw [e1.1, req_words h.1.1 h.1.2.1] at hw
  have hf := hp.fields
  simp only [List.tail_cons] at hf
  rw [e1.2, req_fields h.1.2.2.1] at hf
  refine ⟨⟨httpL.toArray⟩, map_bs_inj (by rw [← hw]; rfl), (pairs_inj hf).symm, bs_inj ?_⟩
  rw [bs_extract, List.take_of_length_le (i := s.size) (l := bs s) (by rw [bs_len]; omega)]
  exact e2

theorem slice_of_owns {w : World} {base : Nat} {t : TypeId} {size : Nat} {v : Value} {n : Nat} {xs : List Value} (h : w.ownsRow base t size v n xs) : ∃ oa cp, v = .slice oa n cp := by
  rcases h.2 with ⟨rfl, rfl⟩ | ⟨g, cap, cur, rfl, _⟩
  · exact ⟨none, 0, rfl⟩
  · exact ⟨_, cap, rfl⟩
theorem grown_below {w w' : World} (hb : Below w.heap.size w w') (row : Option Nat) : w.grownBy w' row := ⟨hb.os, hb.tape, hb.output, hb.size, fun k hk _ => hb.block k hk⟩
theorem grown_then {a w w' : World} {row : Option Nat} (h : a.grownBy w row) (k : w.grownBy w' row) : a.grownBy w' row :=
  ⟨k.os.trans h.os, k.tape.trans h.tape, k.output.trans h.output, Nat.le_trans h.size k.size, fun i hi hne => (k.block i (Nat.lt_of_lt_of_le hi h.size) hne).trans (h.block i hi hne)⟩
theorem below_grown {B r : Nat} {a b : World} (h : a.grownBy b (some r)) (hB : B ≤ a.heap.size) (hr : B ≤ r) : Below B a b :=
  ⟨h.os, h.tape, h.output, h.size, fun k hk => h.block k (by omega) (fun e => by have := Option.some.inj e; omega)⟩
end Go.Proofs.Ytckjbgpdbehmaaa

namespace Go.Proofs.Ytckjbgpdbehmaaa
open Go.RowKit
open Go.Lib hiding intOf

/-- A block's content behind a call. -/
theorem blk_below {W W' : World} {r : Nat} {o : Obj} (h : W.heap[r]? = some o) (b : Below W.heap.size W W') : W'.heap[r]? = some o := by
  rw [b.block r (Array.getElem?_eq_some_iff.1 h).1]; exact h
theorem blk_alloc {W : World} {r : Nat} {o : Obj} (h : W.heap[r]? = some o) (x : Obj) : (W.alloc x).heap[r]? = some o := by
  rw [Below.heap_alloc _ _ _ (Array.getElem?_eq_some_iff.1 h).1]; exact h
theorem own_ne {W : World} {r : Nat} {cs : Array Value} {T t : TypeId} {base size n : Nat} {v : Value} {xs : List Value} (ho : W.ownsRow base t size v n xs) (h : W.heap[r]? = some (.cells cs T)) (hT : T ≠ t) (j : Nat) (hj : v.ownBlock = some j) : j ≠ r := fun e => by
  subst e
  rcases ho.2 with ⟨rfl, _⟩ | ⟨g, cap, cur, rfl, _, h1, _⟩
  · cases hj
  · cases hj
    rw [h] at h1
    cases h1
    exact hT rfl
end Go.Proofs.Ytckjbgpdbehmaaa

namespace Go.Proofs.Ytckjbgpdbehmaaa
open Go.RowKit
open Go.Lib hiding intOf

theorem cell_of {W : World} {R : Nat} {cs : Array Value} {t : TypeId} (h : W.heap[R]? = some (.cells cs t)) (i : Nat) : W.cell? ⟨R, i, none⟩ = cs[i]? := by simp [World.cell?, h]
theorem frozen_of {W : World} {R : Nat} {cs : Array Value} {t : TypeId} (h : W.heap[R]? = some (.cells cs t)) (i : Nat) : W.frozen? ⟨R, i, none⟩ = false := by simp [World.frozen?, h]
/-- Rows of two types lie apart. -/
theorem own_type_ne {W : World} {b1 b2 z1 z2 n1 n2 : Nat} {t1 t2 : TypeId} {v1 v2 : Value} {xs ys : List Value} (h1 : W.ownsRow b1 t1 z1 v1 n1 xs) (h2 : W.ownsRow b2 t2 z2 v2 n2 ys) (ht : t1 ≠ t2) (j : Nat) (hj : v1.ownBlock = some j) : v2.ownBlock ≠ some j := fun e => by
  rcases h1.2 with ⟨rfl, _⟩ | ⟨g, cap, cur, rfl, _, k1, _⟩
  · cases hj
  · cases hj
    rcases h2.2 with ⟨rfl, _⟩ | ⟨g2, cap2, cur2, rfl, _, k2, _⟩
    · cases e
    · cases e
      rw [k1] at k2
      cases k2
      exact ht rfl
end Go.Proofs.Ytckjbgpdbehmaaa

namespace Go.Proofs.Ytckjbgpdbehmaaa
open Go.RowKit
open Go.Lib hiding intOf

theorem owns_put {w : World} {base : Nat} {t : TypeId} {size g n cap : Nat} {xs : List Value} (h : w.ownsRow base t size (.slice (some ⟨g, 0, none⟩) n cap) n xs) (o : Nat) (u : Value) : (w.setCell ⟨g, o, none⟩ u).ownsRow base t size (.slice (some ⟨g, 0, none⟩) n cap) n (xs.set o u) := by
  obtain ⟨hl, hv⟩ := h
  refine ⟨by simpa using hl, ?_⟩
  rcases hv with ⟨e, _⟩ | ⟨g', cap', cur, e, h1, h2, h3, h4, h5, h6⟩
  · cases e
  · cases e
    refine .inr ⟨g, cap, _, rfl, h1, heap_set w g o cur t (0, 0) u h2, h3, h4, by simpa using h5, ?_⟩
    rw [Array.toList_setIfInBounds, List.take_set, h6]
theorem owns_at {w : World} {base : Nat} {t : TypeId} {size g n cap : Nat} {xs : List Value} (h : w.ownsRow base t size (.slice (some ⟨g, 0, none⟩) n cap) n xs) (o : Nat) (u : Value) (ho : xs[o]? = some u) : w.cell? ⟨g, o, none⟩ = some u ∧ w.frozen? ⟨g, o, none⟩ = false := by
  obtain ⟨hl, hv⟩ := h
  rcases hv with ⟨e, _⟩ | ⟨g', cap', cur, e, h1, h2, h3, h4, h5, h6⟩
  · cases e
  · cases e
    refine ⟨?_, by simp [World.frozen?, h2]⟩
    rw [← h6, List.getElem?_take] at ho
    split at ho
    · simpa [World.cell?, h2] using ho
    · cases ho
theorem owns_some {w : World} {base : Nat} {t : TypeId} {size n cap : Nat} {oa : Option Addr} {xs : List Value} (h : w.ownsRow base t size (.slice oa n cap) n xs) (hn : 0 < n) : ∃ g, oa = some ⟨g, 0, none⟩ := by
  rcases h.2 with ⟨e, h0⟩ | ⟨g, cap', cur, e, _⟩
  · omega
  · cases e; exact ⟨g, rfl⟩

end Go.Proofs.Ytckjbgpdbehmaaa

namespace Go.Proofs.Ytckjbgpdbehmaaa
open Go.RowKit
open Go.Lib hiding intOf

/-- The i-th of a list. -/
def writeAt (l : List (Int × ByteArray)) (i : Nat) : (Int × ByteArray) := l.getD i (0, ⟨#[]⟩)
/-- Its cells. -/
def writeEnc (x : (Int × ByteArray)) : List Value := [.int .i64 x.1, .string x.2]
def flatWrite (l : List (Int × ByteArray)) : List Value := l.flatMap writeEnc
theorem flatWrite_len (l : List (Int × ByteArray)) : (flatWrite l).length = l.length * 2 := by
  induction l with
  | nil => rfl
  | cons f r ih => simp only [flatWrite, writeEnc, List.flatMap_cons, List.length_append, List.length_cons, List.length_nil] at ih ⊢; omega
theorem flatWrite_get : ∀ (l : List (Int × ByteArray)) (i : Nat), i < l.length → (flatWrite l)[i * 2]? = some (.int .i64 ((writeAt l i).1)) ∧ (flatWrite l)[i * 2 + 1]? = some (.string ((writeAt l i).2))
  | [], i, h => by simp at h
  | f :: r, 0, _ => by simp [flatWrite, writeEnc, writeAt]
  | f :: r, i + 1, h => by
    have ih := flatWrite_get r i (by simpa using h)
    have e : flatWrite (f :: r) = writeEnc f ++ flatWrite r := rfl
    have hl : (writeEnc f).length = 2 := rfl
    have h2 : writeAt (f :: r) (i + 1) = writeAt r i := by simp [writeAt]
    have key : ∀ j, (flatWrite (f :: r))[i * 2 + 2 + j]? = (flatWrite r)[i * 2 + j]? := fun j => by
      rw [e, List.getElem?_append_right (by rw [hl]; omega), hl]; congr 1; omega
    rw [h2]
    refine ⟨(by rw [show (i + 1) * 2 = i * 2 + 2 + 0 by omega, key]; exact ih.1), (by rw [show (i + 1) * 2 + 1 = i * 2 + 2 + 1 by omega, key]; exact ih.2)⟩
theorem writeAt_mem (l : List (Int × ByteArray)) (i : Nat) (h : i < l.length) : writeAt l i ∈ l := by
  unfold writeAt
  rw [List.getD_eq_getElem?_getD, List.getElem?_eq_getElem h]
  exact List.getElem_mem h
theorem take_writeAt (l : List (Int × ByteArray)) (i : Nat) (h : i < l.length) : l.take (i + 1) = l.take i ++ [writeAt l i] := by
  unfold writeAt
  rw [List.getD_eq_getElem?_getD, List.getElem?_eq_getElem h, List.take_succ_eq_append_getElem h]
  rfl
theorem flatWrite_append (a b : List (Int × ByteArray)) : flatWrite (a ++ b) = flatWrite a ++ flatWrite b := by simp [flatWrite]
theorem flatWrite_ones (l : List (Int × ByteArray)) : ∀ u ∈ flatWrite l, u.oneCell' = true := by
  intro u hu
  obtain ⟨x, _, hx⟩ := List.mem_flatMap.1 hu
  simp only [writeEnc, List.mem_cons, List.not_mem_nil, or_false] at hx
  rcases hx with rfl | rfl <;> rfl
theorem flatWrite_one (x : (Int × ByteArray)) : flatWrite [x] = writeEnc x := by simp [flatWrite]
/-- A list that is read: its cells in a block that is there. -/
def WriteA (w : World) (oa : Option Addr) (n : Nat) (l : List (Int × ByteArray)) : Prop :=
  l.length = n ∧ ∀ i, i < n → ∃ g, oa = some ⟨g, 0, none⟩ ∧ g < w.heap.size ∧ w.cell? ⟨g, i * 2, none⟩ = some (.int .i64 ((writeAt l i).1)) ∧ w.cell? ⟨g, i * 2 + 1, none⟩ = some (.string ((writeAt l i).2))
theorem WriteA.below {w W : World} {oa : Option Addr} {n : Nat} {l : List (Int × ByteArray)} (h : WriteA w oa n l) (hb : Below w.heap.size w W) : WriteA W oa n l :=
  ⟨h.1, fun i hi => by
    obtain ⟨g, h1, h2, r0, r1⟩ := h.2 i hi
    exact ⟨g, h1, Nat.lt_of_lt_of_le h2 hb.size, by rw [hb.cell (p := ⟨g, i * 2, none⟩) h2]; exact r0, by rw [hb.cell (p := ⟨g, i * 2 + 1, none⟩) h2]; exact r1⟩⟩
/-- A list that came in, in blocks below B. -/
def ArgWrite (w : World) (B : Nat) (a : Option Addr) (n : Nat) (l : List (Int × ByteArray)) : Prop :=
  l.length = n ∧ ∀ i, i < n → ∃ b off, a = some ⟨b, off, none⟩ ∧ b < B ∧ w.cell? ⟨b, off + i * 2, none⟩ = some (.int .i64 ((writeAt l i).1)) ∧ w.cell? ⟨b, off + i * 2 + 1, none⟩ = some (.string ((writeAt l i).2))
theorem ArgWrite.below {w w' : World} {B : Nat} {a : Option Addr} {n : Nat} {l : List (Int × ByteArray)} (h : ArgWrite w B a n l) (hb : Below B w w') : ArgWrite w' B a n l :=
  ⟨h.1, fun i hi => by
    obtain ⟨b, off, h1, h2, r0, r1⟩ := h.2 i hi
    exact ⟨b, off, h1, h2, by rw [hb.cell (p := ⟨b, off + i * 2, none⟩) h2]; exact r0, by rw [hb.cell (p := ⟨b, off + i * 2 + 1, none⟩) h2]; exact r1⟩⟩
/-- The first k of a row of 2 n cells are told. -/
def PartWrite (w : World) (g n k : Nat) (l : List (Int × ByteArray)) : Prop :=
  ∃ cur, w.heap[g]? = some (.cells cur 67 (0, 0)) ∧ cur.size = n * 2 ∧ ∀ i, i < k → cur[i * 2]? = some (.int .i64 ((writeAt l i).1)) ∧ cur[i * 2 + 1]? = some (.string ((writeAt l i).2))
theorem PartWrite.below {w w' : World} {g n k B : Nat} {l : List (Int × ByteArray)} (h : PartWrite w g n k l) (hb : Below B w w') (hB : g < B) : PartWrite w' g n k l := by
  obtain ⟨cur, h1, h2⟩ := h
  exact ⟨cur, by rw [hb.block g hB]; exact h1, h2⟩
theorem PartWrite.lt {w : World} {g n k : Nat} {l : List (Int × ByteArray)} (h : PartWrite w g n k l) : g < w.heap.size := by
  obtain ⟨cur, h1, _⟩ := h
  exact (Array.getElem?_eq_some_iff.1 h1).1
theorem PartWrite.cell {w : World} {g n k : Nat} {l : List (Int × ByteArray)} (h : PartWrite w g n k l) (j : Nat) (hj : j < n * 2) : ∃ u, w.cell? ⟨g, j, none⟩ = some u := by
  obtain ⟨cur, h1, h2, _⟩ := h
  refine ⟨cur[j]'(by omega), ?_⟩
  simp only [World.cell?, h1]
  simp [show j < cur.size by omega]
theorem PartWrite.frozen {w : World} {g n k : Nat} {l : List (Int × ByteArray)} (h : PartWrite w g n k l) (j : Nat) : w.frozen? ⟨g, j, none⟩ = false := by
  obtain ⟨cur, h1, _⟩ := h
  simp [World.frozen?, h1]

theorem PartWrite.put {w : World} {g n k : Nat} {l : List (Int × ByteArray)} (h : PartWrite w g n k l) (hk : k < n) : PartWrite ((w.setCell ⟨g, k * 2, none⟩ (.int .i64 (writeAt l k).1)).setCell ⟨g, k * 2 + 1, none⟩ (.string (writeAt l k).2)) g n (k + 1) l := by
  obtain ⟨cur, h1, h2, h3⟩ := h
  refine ⟨_, heap_set _ g (k * 2 + 1) _ _ _ _ (heap_set _ g (k * 2) _ _ _ _ h1), by simpa using h2, ?_⟩
  intro i hi
  by_cases e : i = k
  · subst e
    exact ⟨by rw [Array.getElem?_setIfInBounds_ne (by omega), Array.getElem?_setIfInBounds_self_of_lt (by first | omega | (simp; omega))], by rw [Array.getElem?_setIfInBounds_self_of_lt (by first | omega | (simp; omega))]⟩
  · have := h3 i (by omega)
    exact ⟨by rw [Array.getElem?_setIfInBounds_ne (by omega), Array.getElem?_setIfInBounds_ne (by omega)]; exact this.1, by rw [Array.getElem?_setIfInBounds_ne (by omega), Array.getElem?_setIfInBounds_ne (by omega)]; exact this.2⟩
theorem PartWrite.owns {w : World} {g n : Nat} {l : List (Int × ByteArray)} (h : PartWrite w g n n l) (hl : l.length = n) (hm : n ≤ maxLen) {base : Nat} (hb : base ≤ g) : w.ownsRow base 67 2 (.slice (some ⟨g, 0, none⟩) n n) n (flatWrite l) := by
  obtain ⟨cur, hg, hs, hc⟩ := h
  refine ⟨by rw [flatWrite_len, hl], .inr ⟨g, n, cur, rfl, hb, hg, Nat.le_refl _, hm, hs, ?_⟩⟩
  apply List.ext_getElem?
  intro j
  rw [List.getElem?_take]
  by_cases hj : j < n * 2
  · rw [if_pos hj]
    have hf := flatWrite_get l (j / 2) (by omega)
    have hcc := hc (j / 2) (by omega)
    have hr : j = (j / 2) * 2 ∨ j = (j / 2) * 2 + 1 := by omega
    rcases hr with e | e
    · have e2 := hf.1
      have e3 := hcc.1
      rw [← e] at e2 e3
      rw [e2]; simpa using e3
    · have e2 := hf.2
      have e3 := hcc.2
      rw [← e] at e2 e3
      rw [e2]; simpa using e3
  · rw [if_neg hj, List.getElem?_eq_none (by rw [flatWrite_len]; omega)]
/-- An owned list can be read. -/
theorem write_view {w : World} {base n cap : Nat} {oa : Option Addr} {l : List (Int × ByteArray)} (h : w.ownsRow base 67 2 (.slice oa n cap) n (flatWrite l)) : WriteA w oa n l := by
  obtain ⟨hl, hv⟩ := h
  rw [flatWrite_len] at hl
  refine ⟨by omega, fun i hi => ?_⟩
  rcases hv with ⟨e, h0⟩ | ⟨g, cap, cur, e, hb, hg, hn, hm, hcs, htk⟩
  · omega
  · cases e
    have hf := flatWrite_get l i (by omega)
    rw [← htk] at hf
    simp only [List.getElem?_take] at hf
    rw [if_pos (by omega), if_pos (by omega)] at hf
    refine ⟨g, rfl, (Array.getElem?_eq_some_iff.1 hg).1, by simp only [World.cell?, hg]; simpa using hf.1, by simp only [World.cell?, hg]; simpa using hf.2⟩
theorem write_len {w : World} {base n : Nat} {v : Value} {l : List (Int × ByteArray)} (h : w.ownsRow base 67 2 v n (flatWrite l)) : l.length = n := by
  have := h.1
  rw [flatWrite_len] at this
  omega
theorem infoWrite : (Try.prog.info? 67).map (fun i => (i.zero, i.size, i.bytes)) = some (some (.agg #[.int .i64 0, .string ⟨#[]⟩]), 2, 24) := by kernel_rfl

end Go.Proofs.Ytckjbgpdbehmaaa

namespace Go.Proofs.Ytckjbgpdbehmaaa
open Go.RowKit
open Go.Lib hiding intOf

/-- A disk's two lists, in memory of one's own. -/
structure DiskO (W : World) (base : Nat) (v1 : Value) (n1 : Nat) (cs : List ByteArray) (v2 : Value) (n2 : Nat) (ws : List (Int × ByteArray)) : Prop where
  cells : W.ownsRow base 9 1 v1 n1 (cs.map Value.string)
  pend : W.ownsRow base 67 2 v2 n2 (flatWrite ws)

end Go.Proofs.Ytckjbgpdbehmaaa

namespace Go.Proofs.Ytckjbgpdbehmaaa
open Go.RowKit
open Go.Lib hiding intOf

/-- The i-th of a list; false beyond it. -/
def keptB (ks : List Bool) (i : Nat) : Bool := ks.getD i false
/-- A list of truths that is read. -/
def BoolA (w : World) (oa : Option Addr) (n : Nat) (ks : List Bool) : Prop :=
  ks.length = n ∧ ∀ i, i < n → ∃ g, oa = some ⟨g, 0, none⟩ ∧ g < w.heap.size ∧ w.cell? ⟨g, i, none⟩ = some (.bool (keptB ks i))
theorem BoolA.below {w W : World} {oa : Option Addr} {n : Nat} {ks : List Bool} (h : BoolA w oa n ks) (hb : Below w.heap.size w W) : BoolA W oa n ks :=
  ⟨h.1, fun i hi => by
    obtain ⟨g, h1, h2, h3⟩ := h.2 i hi
    exact ⟨g, h1, Nat.lt_of_lt_of_le h2 hb.size, by rw [hb.cell (p := ⟨g, i, none⟩) h2]; exact h3⟩⟩
/-- A list of truths that came in, in blocks below B. -/
def ArgBool (w : World) (B : Nat) (a : Option Addr) (n : Nat) (ks : List Bool) : Prop :=
  ks.length = n ∧ ∀ i, i < n → ∃ b off, a = some ⟨b, off, none⟩ ∧ b < B ∧ w.cell? ⟨b, off + i, none⟩ = some (.bool (keptB ks i))
theorem ArgBool.below {w w' : World} {B : Nat} {a : Option Addr} {n : Nat} {ks : List Bool} (h : ArgBool w B a n ks) (hb : Below B w w') : ArgBool w' B a n ks :=
  ⟨h.1, fun i hi => by
    obtain ⟨b, off, h1, h2, h3⟩ := h.2 i hi
    exact ⟨b, off, h1, h2, by rw [hb.cell (p := ⟨b, off + i, none⟩) h2]; exact h3⟩⟩
end Go.Proofs.Ytckjbgpdbehmaaa

namespace Go.Proofs.Ytckjbgpdbehmaaa
open Go.RowKit
open Go.Lib hiding intOf

/-- A disk of so many cells is right. -/
def DiskN (n : Nat) (ws : List (Int × ByteArray)) : Prop := n = 20 ∧ ws.length ≤ 16 ∧ ∀ x ∈ ws, 0 ≤ x.1 ∧ x.1 ≤ 19
/-- A disk is right. -/
def DiskP (cs : List ByteArray) (ws : List (Int × ByteArray)) : Prop := cs.length = 20 ∧ ws.length ≤ 16 ∧ ∀ x ∈ ws, 0 ≤ x.1 ∧ x.1 ≤ 19
/-- What was written there last, of the first k writes; or lies there. -/
def getTo (cs : List ByteArray) (ws : List (Int × ByteArray)) (at' : Nat) : Nat → ByteArray
  | 0 => textAt cs at'
  | k + 1 => if (writeAt ws k).1 = (at' : Int) then (writeAt ws k).2 else getTo cs ws at' k
/-- The cells behind the first k writes, those landing of which f tells. -/
def landTo (cs : List ByteArray) (ws : List (Int × ByteArray)) (f : Nat → Bool) : Nat → List ByteArray
  | 0 => cs
  | k + 1 => if f k = true then (landTo cs ws f k).set (writeAt ws k).1.toNat (writeAt ws k).2 else landTo cs ws f k
theorem landTo_len (cs : List ByteArray) (ws : List (Int × ByteArray)) (f : Nat → Bool) : ∀ k, (landTo cs ws f k).length = cs.length
  | 0 => rfl
  | k + 1 => by
    rw [landTo]
    split
    · rw [List.length_set, landTo_len cs ws f k]
    · exact landTo_len cs ws f k
theorem getElem_textAt (l : List ByteArray) (i : Nat) (h : i < l.length) : l[i]? = some (textAt l i) := by
  unfold textAt
  rw [List.getD_eq_getElem?_getD, List.getElem?_eq_getElem h]
  rfl
theorem textAt_set (l : List ByteArray) (k j : Nat) (x : ByteArray) : textAt (l.set k x) j = if j = k ∧ k < l.length then x else textAt l j := by
  unfold textAt
  rw [List.getD_eq_getElem?_getD, List.getElem?_set, List.getD_eq_getElem?_getD]
  by_cases h : j = k
  · subst h
    by_cases h2 : j < l.length
    · simp [h2]
    · rw [if_pos rfl, if_neg h2, if_neg (fun e => h2 e.2), List.getElem?_eq_none (by omega)]
  · rw [if_neg (fun e => h e.symm), if_neg (fun e => h e.1)]
theorem land_get {cs : List ByteArray} {ws : List (Int × ByteArray)} (h : DiskP cs ws) (i : Nat) (hi : i < 20) : ∀ k, k ≤ ws.length → textAt (landTo cs ws (fun _ => true) k) i = getTo cs ws i k := by
  intro k
  induction k with
  | zero => intro _; rfl
  | succ k ih =>
    intro hk
    have hm := h.2.2 _ (writeAt_mem ws k (by omega))
    rw [landTo, if_pos rfl, textAt_set, getTo, landTo_len, h.1, ih (by omega)]
    by_cases e : (writeAt ws k).1 = (i : Int)
    · rw [if_pos e, if_pos ⟨by omega, by omega⟩]
    · rw [if_neg e, if_neg (fun e2 => e (by omega))]
theorem writeAt_left (ws vs : List (Int × ByteArray)) (j : Nat) (h : j < ws.length) : writeAt (ws ++ vs) j = writeAt ws j := by
  unfold writeAt
  rw [List.getD_eq_getElem?_getD, List.getElem?_append_left h, List.getD_eq_getElem?_getD]
theorem writeAt_last (ws : List (Int × ByteArray)) (x : Int × ByteArray) : writeAt (ws ++ [x]) ws.length = x := by
  unfold writeAt
  rw [List.getD_eq_getElem?_getD, List.getElem?_append_right (Nat.le_refl _)]
  simp
theorem getTo_left (cs : List ByteArray) (ws vs : List (Int × ByteArray)) (i : Nat) : ∀ k, k ≤ ws.length → getTo cs (ws ++ vs) i k = getTo cs ws i k
  | 0, _ => rfl
  | k + 1, h => by
    rw [getTo, getTo, writeAt_left _ _ _ (by omega), getTo_left cs ws vs i k (by omega)]
theorem put_get (cs : List ByteArray) (ws : List (Int × ByteArray)) (x : Int × ByteArray) (i : Nat) : getTo cs (ws ++ [x]) i (ws.length + 1) = if x.1 = (i : Int) then x.2 else getTo cs ws i ws.length := by
  rw [getTo, writeAt_last, getTo_left _ _ _ _ _ (Nat.le_refl _)]
theorem put_right {cs : List ByteArray} {ws : List (Int × ByteArray)} (h : DiskP cs ws) (hn : ws.length < 16) (x : Int × ByteArray) (h0 : 0 ≤ x.1) (h1 : x.1 ≤ 19) : DiskP cs (ws ++ [x]) :=
  ⟨h.1, by rw [List.length_append]; exact hn, fun y hy => by
    rcases List.mem_append.1 hy with hy | hy
    · exact h.2.2 y hy
    · rw [List.mem_singleton.1 hy]; exact ⟨h0, h1⟩⟩
theorem landed_right {cs : List ByteArray} {ws : List (Int × ByteArray)} (h : DiskP cs ws) (f : Nat → Bool) (k : Nat) : DiskP (landTo cs ws f k) [] :=
  ⟨by rw [landTo_len]; exact h.1, by decide, fun x hx => by simp at hx⟩

def diskB (cs : List ByteArray) (ws : List (Int × ByteArray)) : Bool := decide (cs.length = 20) && (decide (ws.length ≤ 16) && ws.all (fun x => decide (0 ≤ x.1) && decide (x.1 ≤ 19)))
theorem diskB_iff (cs : List ByteArray) (ws : List (Int × ByteArray)) : diskB cs ws = true ↔ DiskP cs ws := by
  unfold diskB DiskP
  simp only [Bool.and_eq_true, decide_eq_true_iff, List.all_eq_true]
theorem diskB_no {cs : List ByteArray} {ws : List (Int × ByteArray)} (h : ¬ DiskP cs ws) : diskB cs ws = false := by
  cases e : diskB cs ws with
  | false => rfl
  | true => exact absurd ((diskB_iff cs ws).1 e) h
def cellB (x : Int) : Bool := decide (0 ≤ x) && decide (x ≤ 19)
theorem cellB_iff (x : Int) : cellB x = true ↔ 0 ≤ x ∧ x ≤ 19 := by unfold cellB; simp
/-- Whether a write is taken. -/
def putB (cs : List ByteArray) (ws : List (Int × ByteArray)) (x : Int) : Bool := diskB cs ws && (decide (ws.length < 16) && cellB x)
/-- What DiskPut answers: cells and writes. -/
def putC (cs : List ByteArray) (ws : List (Int × ByteArray)) : List ByteArray := if diskB cs ws = true then cs else []
def putW (cs : List ByteArray) (ws : List (Int × ByteArray)) (x : Int) (t : ByteArray) : List (Int × ByteArray) := if putB cs ws x = true then ws ++ [(x, t)] else if diskB cs ws = true then ws else []
/-- What DiskGet answers. -/
def getD' (cs : List ByteArray) (ws : List (Int × ByteArray)) (x : Int) : ByteArray := if (diskB cs ws && cellB x) = true then getTo cs ws x.toNat ws.length else ⟨#[]⟩
/-- What Flush and Crash answer: the cells. -/
def landC (cs : List ByteArray) (ws : List (Int × ByteArray)) (f : Nat → Bool) : List ByteArray := if diskB cs ws = true then landTo cs ws f ws.length else []
theorem put_no {cs : List ByteArray} {ws : List (Int × ByteArray)} (h : ¬ DiskP cs ws) (x : Int) (t : ByteArray) : putC cs ws = [] ∧ putW cs ws x t = [] ∧ putB cs ws x = false := by
  have e := diskB_no h
  refine ⟨by unfold putC; rw [e]; rfl, by unfold putW putB; rw [e]; rfl, by unfold putB; rw [e]; rfl⟩
theorem put_full {cs : List ByteArray} {ws : List (Int × ByteArray)} (h : DiskP cs ws) {x : Int} (h2 : ¬ (ws.length < 16 ∧ (0 ≤ x ∧ x ≤ 19))) (t : ByteArray) : putC cs ws = cs ∧ putW cs ws x t = ws ∧ putB cs ws x = false := by
  have e := (diskB_iff cs ws).2 h
  have e2 : putB cs ws x = false := by
    cases q : putB cs ws x with
    | false => rfl
    | true =>
      unfold putB at q
      rw [Bool.and_eq_true, Bool.and_eq_true, decide_eq_true_iff, cellB_iff] at q
      exact absurd q.2 h2
  exact ⟨by unfold putC; rw [if_pos e], by unfold putW; rw [if_neg (by rw [e2]; decide), if_pos e], e2⟩
theorem put_yes {cs : List ByteArray} {ws : List (Int × ByteArray)} (h : DiskP cs ws) {x : Int} (h2 : ws.length < 16) (h3 : 0 ≤ x ∧ x ≤ 19) (t : ByteArray) : putC cs ws = cs ∧ putW cs ws x t = ws ++ [(x, t)] ∧ putB cs ws x = true := by
  have e := (diskB_iff cs ws).2 h
  have e2 : putB cs ws x = true := by unfold putB; rw [e, (cellB_iff x).2 h3, decide_eq_true h2]; rfl
  exact ⟨by unfold putC; rw [if_pos e], by unfold putW; rw [if_pos e2], e2⟩
theorem get_no {cs : List ByteArray} {ws : List (Int × ByteArray)} {x : Int} (h : ¬ (DiskP cs ws ∧ (0 ≤ x ∧ x ≤ 19))) : getD' cs ws x = ⟨#[]⟩ := by
  unfold getD'
  rw [if_neg]
  rw [Bool.and_eq_true, diskB_iff, cellB_iff]
  exact h
theorem get_yes {cs : List ByteArray} {ws : List (Int × ByteArray)} (h : DiskP cs ws) (m : Nat) (h2 : m ≤ 19) : getD' cs ws (m : Int) = getTo cs ws m ws.length := by
  unfold getD'
  rw [if_pos]
  · simp
  · rw [Bool.and_eq_true, diskB_iff, cellB_iff]
    exact ⟨h, by omega, by omega⟩
theorem landC_no {cs : List ByteArray} {ws : List (Int × ByteArray)} (h : ¬ DiskP cs ws) (f : Nat → Bool) : landC cs ws f = [] := by unfold landC; rw [diskB_no h]; rfl
theorem landC_yes {cs : List ByteArray} {ws : List (Int × ByteArray)} (h : DiskP cs ws) (f : Nat → Bool) : landC cs ws f = landTo cs ws f ws.length := by unfold landC; rw [if_pos ((diskB_iff cs ws).2 h)]
/-- A call answers a disk of its own. -/
def DiskIs (cs : List ByteArray) (ws : List (Int × ByteArray)) (w : World) (e : Ending) (w' : World) : Prop :=
  ∃ v1 v2, e = .returned (.agg #[v1, v2]) ∧ DiskO w' w.heap.size v1 cs.length cs v2 ws.length ws ∧ Below w.heap.size w w'
/-- A call answers a disk of its own, and a truth. -/
def DiskIsB (cs : List ByteArray) (ws : List (Int × ByteArray)) (b : Bool) (w : World) (e : Ending) (w' : World) : Prop :=
  ∃ v1 v2, e = .returned (.tuple #[.agg #[v1, v2], .bool b]) ∧ DiskO w' w.heap.size v1 cs.length cs v2 ws.length ws ∧ Below w.heap.size w w'
theorem diskO_nil (W : World) (B : Nat) : DiskO W B (.slice none 0 0) 0 [] (.slice none 0 0) 0 [] := ⟨World.ownsRow_nil _ _ _ _, World.ownsRow_nil _ _ _ _⟩
def newC : List ByteArray := List.replicate 20 ⟨#[]⟩

end Go.Proofs.Ytckjbgpdbehmaaa

namespace Go.Proofs.Ytckjbgpdbehmaaa
open Go.RowKit
open Go.Lib hiding intOf

/-- Texts as an array's cells. -/
def cellsA (l : List ByteArray) : Array Value := (l.map Value.string).toArray
/-- Twenty empty texts. -/
def noneA : List ByteArray := List.replicate 20 ⟨#[]⟩
/-- The cells with one written. -/
def withP (l : List ByteArray) (x : Int) (t : ByteArray) : List ByteArray := if 0 ≤ x ∧ x < 20 then l.set x.toNat t else l
/-- A call answers an array of texts. -/
def ArrIs (l : List ByteArray) (w : World) (e : Ending) (w' : World) : Prop := e = .returned (.agg (cellsA l)) ∧ Below w.heap.size w w'
theorem cellsA_size (l : List ByteArray) : (cellsA l).size = l.length := by simp [cellsA]
theorem cellsA_at (l : List ByteArray) (i : Nat) (h : i < l.length) : (cellsA l)[i]? = some (.string (textAt l i)) := by
  unfold cellsA
  rw [List.getElem?_toArray, List.getElem?_map, getElem_textAt l i h]
  rfl
theorem cellsA_set (l : List ByteArray) (i : Nat) (t : ByteArray) : (cellsA l).setIfInBounds i (.string t) = cellsA (l.set i t) := by
  unfold cellsA
  rw [List.setIfInBounds_toArray, List.map_set]
theorem noneA_len : noneA.length = 20 := rfl
theorem noneA_cells : cellsA noneA = #[.string ⟨#[]⟩, .string ⟨#[]⟩, .string ⟨#[]⟩, .string ⟨#[]⟩, .string ⟨#[]⟩, .string ⟨#[]⟩, .string ⟨#[]⟩, .string ⟨#[]⟩, .string ⟨#[]⟩, .string ⟨#[]⟩, .string ⟨#[]⟩, .string ⟨#[]⟩, .string ⟨#[]⟩, .string ⟨#[]⟩, .string ⟨#[]⟩, .string ⟨#[]⟩, .string ⟨#[]⟩, .string ⟨#[]⟩, .string ⟨#[]⟩, .string ⟨#[]⟩] := rfl
theorem withP_len (l : List ByteArray) (x : Int) (t : ByteArray) : (withP l x t).length = l.length := by
  unfold withP
  split
  · exact List.length_set
  · rfl
theorem infoA {l : List ByteArray} (h : l.length = 20) : (Try.prog.info? 64).map (·.size) = some (cellsA l).size := by
  rw [cellsA_size, h]
  kernel_rfl
theorem cellsA_one (l : List ByteArray) : (cellsA l).all (·.oneCell') = true := by
  unfold cellsA
  rw [List.all_toArray, List.all_eq_true]
  intro v hv
  obtain ⟨a, _, rfl⟩ := List.mem_map.1 hv
  rfl
theorem below_setRow {B : Nat} {a w : World} (h : Below B a w) (g : Nat) (cs : Array Value) (hg : B ≤ g) : Below B a (w.setRow g cs) :=
  h.trans ⟨rfl, rfl, rfl, by simp, fun k hk => setRow_other w g k cs (by omega)⟩
theorem new1 {w : World} {A B C : Obj} : (((w.alloc A).alloc B).alloc C).heap[w.heap.size]? = some A := blk_alloc (blk_alloc (heap_alloc_new w A) B) C
theorem new2 {w : World} {A B C : Obj} : (((w.alloc A).alloc B).alloc C).heap[w.heap.size + 1]? = some B := blk_alloc (heap_alloc2_new w A B) C
theorem new3 {w : World} {A B C : Obj} : (((w.alloc A).alloc B).alloc C).heap[w.heap.size + 1 + 1]? = some C := by
  have h := heap_alloc_new ((w.alloc A).alloc B) C
  have e : ((w.alloc A).alloc B).heap.size = w.heap.size + 1 + 1 := by simp
  rwa [e] at h
theorem new_below {w : World} {A B C : Obj} : Below w.heap.size w (((w.alloc A).alloc B).alloc C) :=
  (((Below.refl _ _).alloc (Nat.le_refl _) _).alloc (by simp) _).alloc (by simp; omega) _

set_option maxHeartbeats 4000000 in
theorem with_any (l : List ByteArray) (hl : l.length = 20) (x : Int) (t : ByteArray) (w : World) :
    Calls Try.prog 41 #[.agg (cellsA l), .agg #[.int .i64 x, .string t]] w fun e w' => ArrIs (withP l x t) w e w' := by
  have HL : Hid (l.length = 20) := hl
  have HLW : Hid ((withP l x t).length = 20) := (withP_len l x t).trans hl
  clear hl
  go_enter Try.func41, Try.ntmps41
  go_upto_region 1 with fail
  obtain ⟨w3, hw3⟩ : ∃ W, W = ((w.alloc (.cells (cellsA l) 64)).alloc (.cells #[.int .i64 x, .string t] 67)).alloc (.cells #[.string ⟨#[]⟩, .string ⟨#[]⟩, .string ⟨#[]⟩, .string ⟨#[]⟩, .string ⟨#[]⟩, .string ⟨#[]⟩, .string ⟨#[]⟩, .string ⟨#[]⟩, .string ⟨#[]⟩, .string ⟨#[]⟩, .string ⟨#[]⟩, .string ⟨#[]⟩, .string ⟨#[]⟩, .string ⟨#[]⟩, .string ⟨#[]⟩, .string ⟨#[]⟩, .string ⟨#[]⟩, .string ⟨#[]⟩, .string ⟨#[]⟩, .string ⟨#[]⟩] 64) := ⟨_, rfl⟩
  rw [← hw3]
  have HBW : Hid (Below w.heap.size w w3) := by rw [hw3]; exact new_below
  have hA : w3.heap[w.heap.size]? = some (.cells (cellsA l) 64) := by rw [hw3]; exact new1
  have hB : w3.heap[w.heap.size + 1]? = some (.cells #[.int .i64 x, .string t] 67) := by rw [hw3]; exact new2
  have hC : w3.heap[w.heap.size + 1 + 1]? = some (.cells (cellsA noneA) 64) := by rw [hw3]; exact new3
  obtain ⟨q, hq⟩ : ∃ q, q = w.heap.size := ⟨_, rfl⟩
  have HQ : Hid (w.heap.size ≤ q) := by rw [hq]; exact Nat.le_refl _
  rw [← hq] at hA hB hC
  rw [← hq]
  have HA : Hid (w3.heap[q]? = some (.cells (cellsA l) 64)) := hA
  have HC : Hid (w3.heap[q + 1 + 1]? = some (.cells (cellsA noneA) 64)) := hC
  have c0 := (cell_of hB 0)
  have c1 := (cell_of hB 1)
  simp only [List.getElem?_toArray, List.getElem?_cons_zero, List.getElem?_cons_succ] at c0 c1
  clear hw3 hA hB hC hq
  by_cases h0 : 0 ≤ x
  · by_cases h1 : x < 20
    · have HE : Hid (withP l x t = l.set x.toNat t) := by unfold withP; rw [Hid, if_pos ⟨h0, h1⟩]
      have c2 : w3.cell? ⟨q, x.toNat, none⟩ = some (.string (textAt l x.toNat)) := (cell_of HA.out _).trans (cellsA_at l _ (by rw [HL.out]; omega))
      have c3 := frozen_of HA.out x.toNat
      go_upto_region 3 with fail
      obtain ⟨w4, hw4⟩ : ∃ W, W = w3.setCell ⟨q, x.toNat, none⟩ (.string t) := ⟨_, rfl⟩
      rw [← hw4]
      have HA4 : Hid (w4.heap[q]? = some (.cells (cellsA (withP l x t)) 64)) := by
        rw [Hid, hw4, HE.out, ← cellsA_set]
        exact heap_setCell_same w3 q _ _ 64 _ HA.out
      have HC4 : Hid (w4.heap[q + 1 + 1]? = some (.cells (cellsA noneA) 64)) := by
        rw [Hid, hw4, heap_setCell_other w3 _ _ _ (by simp; omega)]
        exact HC.out
      have HB4 : Hid (Below w.heap.size w w4) := by rw [hw4]; exact HBW.out.setCell HQ.out _
      clear hw4 HA HC HBW c0 c1 c2 c3 h0 h1
      go_wp2_with (first | refine wpList_load_row rfl 64 _ rfl q rfl 64 _ (0, 0) _ HA4.out Try.underlying64 rfl (infoA HLW.out) ?_ | refine wpList_store_row rfl 64 _ _ rfl (q + 1 + 1) _ rfl rfl 64 _ HC4.out (infoA HLW.out) (by rw [cellsA_size, cellsA_size, HLW.out, noneA_len]) (cellsA_one _) ?_)
      exact bodyPost_ret (v := .agg (cellsA (withP l x t))) (results_cell_row Try.results41 _ _ (q + 1 + 1) 64 _ (0, 0) _ rfl (setRow_heap _ _ _ _ _ _ HC4.out) Try.underlying64 rfl (infoA HLW.out)) rfl ⟨rfl, below_setRow HB4.out _ _ (Nat.le_trans HQ.out (by omega))⟩
    · have HE : Hid (withP l x t = l) := by unfold withP; rw [Hid, if_neg (fun h => h1 h.2)]
      go_upto_region 3 with fail
      clear c0 c1 h0 h1
      rw [← HE.out] at HA
      go_wp2_with (first | refine wpList_load_row rfl 64 _ rfl q rfl 64 _ (0, 0) _ HA.out Try.underlying64 rfl (infoA HLW.out) ?_ | refine wpList_store_row rfl 64 _ _ rfl (q + 1 + 1) _ rfl rfl 64 _ HC.out (infoA HLW.out) (by rw [cellsA_size, cellsA_size, HLW.out, noneA_len]) (cellsA_one _) ?_)
      exact bodyPost_ret (v := .agg (cellsA (withP l x t))) (results_cell_row Try.results41 _ _ (q + 1 + 1) 64 _ (0, 0) _ rfl (setRow_heap _ _ _ _ _ _ HC.out) Try.underlying64 rfl (infoA HLW.out)) rfl ⟨rfl, below_setRow HBW.out _ _ (Nat.le_trans HQ.out (by omega))⟩
  · have HE : Hid (withP l x t = l) := by unfold withP; rw [Hid, if_neg (fun h => h0 h.1)]
    go_upto_region 3 with fail
    clear c0 c1 h0
    rw [← HE.out] at HA
    go_wp2_with (first | refine wpList_load_row rfl 64 _ rfl q rfl 64 _ (0, 0) _ HA.out Try.underlying64 rfl (infoA HLW.out) ?_ | refine wpList_store_row rfl 64 _ _ rfl (q + 1 + 1) _ rfl rfl 64 _ HC.out (infoA HLW.out) (by rw [cellsA_size, cellsA_size, HLW.out, noneA_len]) (cellsA_one _) ?_)
    exact bodyPost_ret (v := .agg (cellsA (withP l x t))) (results_cell_row Try.results41 _ _ (q + 1 + 1) 64 _ (0, 0) _ rfl (setRow_heap _ _ _ _ _ _ HC.out) Try.underlying64 rfl (infoA HLW.out)) rfl ⟨rfl, below_setRow HBW.out _ _ (Nat.le_trans HQ.out (by omega))⟩

set_option maxHeartbeats 8000000 in
theorem withAll_any (l : List ByteArray) (hl : l.length = 20) (o : Option Addr) (n c : Nat) (ws : List (Int × ByteArray)) (w : World) (h : WriteA w o n ws) (hn : n ≤ 2000000) (hok : ∀ x ∈ ws, 0 ≤ x.1 ∧ x.1 ≤ 19) :
    Calls Try.prog 46 #[.agg (cellsA l), .slice o n c] w fun e w' => ArrIs (landTo l ws (fun _ => true) ws.length) w e w' := by
  have HL : Hid (l.length = 20) := hl
  have HW : Hid (WriteA w o n ws) := h
  have HOK : Hid (∀ x ∈ ws, 0 ≤ x.1 ∧ x.1 ≤ 19) := hok
  have HLT : Hid (∀ k, (landTo l ws (fun _ => true) k).length = 20) := fun k => (landTo_len l ws _ k).trans hl
  clear hl h hok
  go_enter Try.func46, Try.ntmps46
  go_upto_region 1 with fail
  obtain ⟨w2, hw2⟩ : ∃ W, W = (w.alloc (.cells (cellsA l) 64)).alloc (.cells #[.string ⟨#[]⟩, .string ⟨#[]⟩, .string ⟨#[]⟩, .string ⟨#[]⟩, .string ⟨#[]⟩, .string ⟨#[]⟩, .string ⟨#[]⟩, .string ⟨#[]⟩, .string ⟨#[]⟩, .string ⟨#[]⟩, .string ⟨#[]⟩, .string ⟨#[]⟩, .string ⟨#[]⟩, .string ⟨#[]⟩, .string ⟨#[]⟩, .string ⟨#[]⟩, .string ⟨#[]⟩, .string ⟨#[]⟩, .string ⟨#[]⟩, .string ⟨#[]⟩] 64) := ⟨_, rfl⟩
  rw [← hw2]
  have hBW : Below w.heap.size w w2 := by rw [hw2]; exact ((Below.refl _ _).alloc (Nat.le_refl _) _).alloc (by simp) _
  have hA : w2.heap[w.heap.size]? = some (.cells (cellsA l) 64) := by rw [hw2]; exact blk_alloc (heap_alloc_new _ _) _
  have hC : w2.heap[w.heap.size + 1]? = some (.cells (cellsA noneA) 64) := by rw [hw2]; exact heap_alloc2_new _ _ _
  obtain ⟨q, hq⟩ : ∃ q, q = w.heap.size := ⟨_, rfl⟩
  have HQ : Hid (w.heap.size = q) := hq.symm
  rw [← hq] at hA hC
  rw [← hq]
  have H0 : Hid (Below w.heap.size w w2 ∧ w2.heap[q]? = some (.cells (cellsA l) 64) ∧ w2.heap[q + 1]? = some (.cells (cellsA noneA) 64)) := ⟨hBW, hA, hC⟩
  clear hw2 hBW hA hC hq
  go_wp2_with fail
  go_loopw [9] (fun i wr => ∃ j : Nat, j ≤ n ∧ i = .int .i64 (j : Int) ∧ Hid (Below w.heap.size w wr ∧ wr.heap[q]? = some (.cells (cellsA (landTo l ws (fun _ => true) j)) 64) ∧ wr.heap[q + 1]? = some (.cells (cellsA noneA) 64))) (fun i _ => n - (intOf i).toNat)
  case atStart => exact ⟨0, Nat.zero_le _, rfl, H0⟩
  case round =>
    obtain ⟨j, hj, rfl, H1⟩ := hrel
    clear H0
    by_cases hlt : (j : Int) < (n : Int)
    · have hjx : j < ws.length := by rw [HW.out.1]; omega
      obtain ⟨g, rfl, hg, r0, r1⟩ := (HW.out.below (H1.out.1)).2 j (by omega)
      obtain ⟨y, hy⟩ : ∃ y, y = writeAt ws j := ⟨_, rfl⟩
      have HLE : Hid (landTo l ws (fun _ => true) (j + 1) = withP (landTo l ws (fun _ => true) j) y.1 y.2) := by
        have hm := HOK.out _ (writeAt_mem ws j hjx)
        rw [Hid, hy, withP, if_pos ⟨hm.1, by omega⟩, landTo, if_pos rfl]
      rw [← hy] at r0 r1
      obtain ⟨y0, y1⟩ := y
      simp only at r0 r1
      clear hy hjx
      go_upto_region 4 with fail
      go_wp2_with (first | refine wpList_load_row rfl 64 _ rfl q rfl 64 _ (0, 0) _ (blk_alloc H1.out.2.1 _) Try.underlying64 rfl (infoA (HLT.out j)) ?_)
      refine (with_any (landTo l ws (fun _ => true) j) (HLT.out j) y0 y1 _).mono ?_
      rintro e w4 ⟨rfl, bw⟩
      have hA4 := blk_below (blk_alloc H1.out.2.1 _) bw
      have HBW : Hid (Below w.heap.size w w4) := (H1.out.1.alloc H1.out.1.size _).trans (bw.mono (Nat.le_trans H1.out.1.size (by simp)))
      have HC4 : Hid (w4.heap[q + 1]? = some (.cells (cellsA noneA) 64)) := blk_below (blk_alloc H1.out.2.2 _) bw
      have HA4 : Hid (w4.heap[q]? = some (.cells (cellsA (landTo l ws (fun _ => true) j)) 64)) := hA4
      have HLS : Hid ((withP (landTo l ws (fun _ => true) j) y0 y1).length = 20) := (withP_len _ _ _).trans (HLT.out j)
      clear bw hA4 H1 r0 r1
      go_wp2_with (first | refine wpList_store_row rfl 64 _ _ rfl q _ rfl rfl 64 _ HA4.out (infoA HLS.out) (by rw [cellsA_size, cellsA_size, HLS.out, (HLT.out j)]) (cellsA_one _) ?_)
      have HE : Hid (Below w.heap.size w (w4.setRow q (cellsA (withP (landTo l ws (fun _ => true) j) y0 y1))) ∧ (w4.setRow q (cellsA (withP (landTo l ws (fun _ => true) j) y0 y1))).heap[q]? = some (.cells (cellsA (landTo l ws (fun _ => true) (j + 1))) 64) ∧ (w4.setRow q (cellsA (withP (landTo l ws (fun _ => true) j) y0 y1))).heap[q + 1]? = some (.cells (cellsA noneA) 64)) := by
        refine ⟨below_setRow HBW.out _ _ (Nat.le_of_eq HQ.out), ?_, ?_⟩
        · rw [HLE.out]; exact setRow_heap _ _ _ _ _ _ HA4.out
        · rw [setRow_other _ _ _ _ (by omega)]; exact HC4.out
      go_roundw
      case rel => exact ⟨j + 1, by omega, by go_num, HE⟩
      case measure => simp [intOf]; omega
    · obtain rfl : j = n := by omega
      have HLE : Hid (ws.length = j) := HW.out.1
      go_upto_region 6 with fail
      go_wp2_with (first | refine wpList_load_row rfl 64 _ rfl q rfl 64 _ (0, 0) _ H1.out.2.1 Try.underlying64 rfl (infoA (HLT.out j)) ?_ | refine wpList_store_row rfl 64 _ _ rfl (q + 1) _ rfl rfl 64 _ H1.out.2.2 (infoA (HLT.out j)) (by rw [cellsA_size, cellsA_size, (HLT.out j), noneA_len]) (cellsA_one _) ?_)
      rw [HLE.out]
      exact bodyPost_ret (v := .agg (cellsA (landTo l ws (fun _ => true) j))) (results_cell_row Try.results46 _ _ (q + 1) 64 _ (0, 0) _ rfl (setRow_heap _ _ _ _ _ _ H1.out.2.2) Try.underlying64 rfl (infoA (HLT.out j))) rfl ⟨rfl, below_setRow H1.out.1 _ _ (Nat.le_trans (Nat.le_of_eq HQ.out) (by omega))⟩

end Go.Proofs.Ytckjbgpdbehmaaa

namespace Go.Proofs.Ytckjbgpdbehmaaa
open Go.RowKit
open Go.Lib hiding intOf

/-- Every write is to a cell. -/
def AllIn (ws : List (Int × ByteArray)) : Prop := ∀ x ∈ ws, 0 ≤ x.1 ∧ x.1 ≤ 19
theorem guardA : Try.prog.eqGuardType Try.prog.depth 64 = false := by kernel_rfl
theorem equalA (xs ys : List ByteArray) (hx : xs.length = 20) (hy : ys.length = 20) (w : World) :
    (Op.equalIn 10000 64 (.agg (cellsA xs)) (.agg (cellsA ys))).run Try.prog w = .ok ((List.range' 0 20 1).all (fun i => (textAt xs i).toList == (textAt ys i).toList)) w := by
  rw [show (10000 : Nat) = 9999 + 1 from rfl, Op.equalIn]
  simp only [Sem.run_bind, run_underlying Try.underlying64, Result.andThen_ok, Try.sizeOf9, Std.Legacy.Range.forIn_eq_forIn_range', Std.Legacy.Range.size, Nat.sub_zero, Nat.add_sub_cancel, Nat.div_one]
  have hl : ∀ i ∈ List.range' 0 20 1, i < 20 := fun i hi => by simpa using (List.mem_range'_1.1 hi).2
  generalize List.range' 0 20 1 = l at hl ⊢
  induction l with
  | nil => simp
  | cons i l ih =>
    have hi : i < 20 := hl i (by simp)
    have px : ∀ zs : List ByteArray, zs.length = 20 → (part 9 (cellsA zs) (i * 1)).run Try.prog w = .ok (.string (textAt zs i)) w := fun zs hz => by
      simp [part, Try.isAgg9, cellsA_at zs i (by omega)]
    have pe : (Op.equalIn 9999 9 (.string (textAt xs i)) (.string (textAt ys i))).run Try.prog w = .ok ((textAt xs i).toList == (textAt ys i).toList) w := run_equalIn_string w 9998 9 _ _ Try.underlying9
    simp only [List.forIn_cons, Sem.run_bind, px xs hx, px ys hy, pe, Result.andThen_ok, List.all_cons]
    cases hb : ((textAt xs i).toList == (textAt ys i).toList)
    · simp
    · simp only [Bool.not_true, Bool.false_eq_true, if_false, Sem.run_pure, Result.andThen_ok, Bool.true_and]
      exact ih fun j hj => hl j (by simp [hj])
theorem neqA (xs ys : List ByteArray) (hx : xs.length = 20) (hy : ys.length = 20) (w : World) :
    (binOp .neq 64 (.agg (cellsA xs)) (.agg (cellsA ys))).run Try.prog w = .ok (.bool (!((List.range' 0 20 1).all (fun i => (textAt xs i).toList == (textAt ys i).toList)))) w := by
  rw [run_neq_struct, equalA xs ys hx hy]
  rfl
theorem neq_in (x : Int) (h : 0 ≤ x ∧ x ≤ 19) (w : World) : (binOp .neq 64 (.agg (cellsA (withP noneA x ⟨#[120]⟩))) (.agg #[.string ⟨#[]⟩, .string ⟨#[]⟩, .string ⟨#[]⟩, .string ⟨#[]⟩, .string ⟨#[]⟩, .string ⟨#[]⟩, .string ⟨#[]⟩, .string ⟨#[]⟩, .string ⟨#[]⟩, .string ⟨#[]⟩, .string ⟨#[]⟩, .string ⟨#[]⟩, .string ⟨#[]⟩, .string ⟨#[]⟩, .string ⟨#[]⟩, .string ⟨#[]⟩, .string ⟨#[]⟩, .string ⟨#[]⟩, .string ⟨#[]⟩, .string ⟨#[]⟩])).run Try.prog w = .ok (.bool true) w := by
  have h1 := neqA (withP noneA x ⟨#[120]⟩) noneA (withP_len _ _ _) rfl w
  rw [noneA_cells] at h1
  rw [h1]
  have h2 : textAt (withP noneA x ⟨#[120]⟩) x.toNat = ⟨#[120]⟩ := by
    unfold withP
    rw [if_pos ⟨h.1, by omega⟩, textAt_set, if_pos ⟨rfl, by rw [noneA_len]; omega⟩]
  have h3 : textAt noneA x.toNat = ⟨#[]⟩ := by
    unfold textAt noneA
    rw [List.getD_eq_getElem?_getD, List.getElem?_replicate, if_pos (by omega)]
    rfl
  have h4 : ((List.range' 0 20 1).all (fun i => (textAt (withP noneA x ⟨#[120]⟩) i).toList == (textAt noneA i).toList)) = false := by
    rw [List.all_eq_false]
    refine ⟨x.toNat, List.mem_range'_1.2 ⟨by omega, by omega⟩, ?_⟩
    rw [h2, h3, ← beq_toListBytes]
    decide
  rw [h4]
  rfl
theorem neq_out (x : Int) (h : ¬ (0 ≤ x ∧ x ≤ 19)) (w : World) : (binOp .neq 64 (.agg (cellsA (withP noneA x ⟨#[120]⟩))) (.agg #[.string ⟨#[]⟩, .string ⟨#[]⟩, .string ⟨#[]⟩, .string ⟨#[]⟩, .string ⟨#[]⟩, .string ⟨#[]⟩, .string ⟨#[]⟩, .string ⟨#[]⟩, .string ⟨#[]⟩, .string ⟨#[]⟩, .string ⟨#[]⟩, .string ⟨#[]⟩, .string ⟨#[]⟩, .string ⟨#[]⟩, .string ⟨#[]⟩, .string ⟨#[]⟩, .string ⟨#[]⟩, .string ⟨#[]⟩, .string ⟨#[]⟩, .string ⟨#[]⟩])).run Try.prog w = .ok (.bool false) w := by
  have e : withP noneA x ⟨#[120]⟩ = noneA := by unfold withP; rw [if_neg (fun h2 => h ⟨h2.1, by omega⟩)]
  have h1 := neqA noneA noneA rfl rfl w
  rw [e]
  rw [noneA_cells] at h1 ⊢
  rw [h1]
  have h4 : ((List.range' 0 20 1).all (fun i => (textAt noneA i).toList == (textAt noneA i).toList)) = true := by
    rw [List.all_eq_true]
    exact fun i _ => by simp
  rw [h4]
  rfl

set_option maxHeartbeats 4000000 in
theorem isCell_any (x : Int) (w : World) :
    Calls Try.prog 47 #[.int .i64 x] w fun e w' => BoolIs (0 ≤ x ∧ x ≤ 19) w e w' := by
  have hgb := guardA
  by_cases h : 0 ≤ x ∧ x ≤ 19
  · have hqe := neq_in x h
    have HH : Hid (0 ≤ x ∧ x ≤ 19) := h
    clear h
    go_enter Try.func47, Try.ntmps47
    go_wp2_with fail
    refine (with_any noneA rfl x ⟨#[120]⟩ _).mono ?_
    rintro e w1 ⟨rfl, bw⟩
    have HBW : Hid (Below w.heap.size w w1) := bw
    clear bw
    go_wp2_with fail
    go_ret
    exact ⟨true, rfl, ⟨fun _ => HH.out, fun _ => rfl⟩, HBW.out⟩
  · have hqe := neq_out x h
    have HH : Hid (¬ (0 ≤ x ∧ x ≤ 19)) := h
    clear h
    go_enter Try.func47, Try.ntmps47
    go_wp2_with fail
    refine (with_any noneA rfl x ⟨#[120]⟩ _).mono ?_
    rintro e w1 ⟨rfl, bw⟩
    have HBW : Hid (Below w.heap.size w w1) := bw
    clear bw
    go_wp2_with fail
    go_ret
    exact BoolIs.no HH.out HBW.out

set_option maxHeartbeats 4000000 in
theorem allToCells_any (o : Option Addr) (n c : Nat) (ws : List (Int × ByteArray)) (w : World) (h : WriteA w o n ws) (hn : n ≤ 2000000) :
    Calls Try.prog 44 #[.slice o n c] w fun e w' => BoolIs (AllIn ws) w e w' := by
  have HW : Hid (WriteA w o n ws) := h
  clear h
  go_enter Try.func44, Try.ntmps44
  go_wp2_with fail
  go_loopw [7] (fun i wr => ∃ j : Nat, j ≤ n ∧ i = .int .i64 (j : Int) ∧ Hid (Below w.heap.size w wr) ∧ Hid (∀ x ∈ ws.take j, 0 ≤ x.1 ∧ x.1 ≤ 19)) (fun i _ => n - (intOf i).toNat)
  case atStart => exact ⟨0, Nat.zero_le _, rfl, Below.refl _ _, fun x hx => by simp at hx⟩
  case round =>
    obtain ⟨j, hj, rfl, HB, HN⟩ := hrel
    by_cases hlt : (j : Int) < (n : Int)
    · have hjx : j < ws.length := by rw [HW.out.1]; omega
      obtain ⟨g, rfl, hg, r0, r1⟩ := (HW.out.below HB.out).2 j (by omega)
      obtain ⟨y, hy⟩ : ∃ y, y = writeAt ws j := ⟨_, rfl⟩
      have HM : Hid (y ∈ ws) := by show _ ∈ _; rw [hy]; exact writeAt_mem ws j hjx
      have HTK : Hid (ws.take (j + 1) = ws.take j ++ [y]) := by show _ = _; rw [hy]; exact take_writeAt ws j hjx
      rw [← hy] at r0 r1
      obtain ⟨y0, y1⟩ := y
      simp only at r0 r1
      clear hy hjx
      go_wp2_with fail
      refine (isCell_any y0 _).mono ?_
      rintro e w4 ⟨b, rfl, hb, bw⟩
      have HBW : Hid (Below w.heap.size w w4) := (HB.out.alloc HB.out.size _).trans (bw.mono (Nat.le_trans HB.out.size (by simp)))
      clear bw r0 r1
      cases b with
      | true =>
        have HY : Hid (0 ≤ y0 ∧ y0 ≤ 19) := hb.1 rfl
        clear hb
        go_wp2_with fail
        go_roundw
        case rel =>
          refine ⟨j + 1, by omega, by go_num, HBW, fun x hx => ?_⟩
          rw [HTK.out] at hx
          rcases List.mem_append.1 hx with hx | hx
          · exact HN.out x hx
          · rw [List.mem_singleton.1 hx]; exact HY.out
        case measure => simp [intOf]; omega
      | false =>
        have HY : Hid (¬ (0 ≤ y0 ∧ y0 ≤ 19)) := fun h => nomatch hb.2 h
        clear hb
        go_wp2_with fail
        go_ret
        exact BoolIs.no (fun h => HY.out (h _ HM.out)) HBW.out
    · have HAL : Hid (AllIn ws) := fun x hx => HN.out x (by rw [List.take_of_length_le (by rw [HW.out.1]; omega)]; exact hx)
      clear HN
      go_wp2_with fail
      go_ret
      exact ⟨true, rfl, ⟨fun _ => HAL.out, fun _ => rfl⟩, HB.out⟩

set_option maxHeartbeats 4000000 in
theorem copiedTexts_any (o : Option Addr) (n c : Nat) (xs : List ByteArray) (w : World) (h : TextsA w o n xs) (hn : n ≤ 2000000) (hz : ∀ i, i < n → (textAt xs i).size ≤ 1048576) :
    Calls Try.prog 51 #[.slice o n c] w fun e w' => ∃ v, e = .returned v ∧ w'.ownsRow w.heap.size 9 1 v n (xs.map Value.string) ∧ Below w.heap.size w w' := by
  obtain ⟨i0, hi, hz0, hz1, hz2⟩ := info_parts info9
  obtain ⟨M, hM⟩ : ∃ M, M = madeCells (Value.string ⟨#[]⟩).cells (((n : Nat) : Int).toNat * i0.size) := ⟨_, rfl⟩
  have hmk : ∀ W : World, (Instr.makeSlice 24 (.int .i64 (n : Int)) (.int .i64 (n : Int))).run Try.prog W = .ok (.slice (some ⟨W.heap.size, 0, none⟩) n n) (W.alloc (.cells M 9)) := fun W => by
    have h := run_make (P := Try.prog) W 24 9 i0 (Value.string ⟨#[]⟩) Try.underlying24 hi hz0 .i64 .i64 (n : Int) (n : Int) (by omega) (by omega) (by rw [hz2]; omega) (by omega)
    rw [← hM] at h
    simpa using h
  have hMs : M.size = n := by rw [hM, size_madeCells, hz1]; simp
  have HA : Hid (TextsA w o n xs) := h
  have HZ : Hid (∀ i, i < n → (textAt xs i).size ≤ 1048576) := hz
  have HLEN : Hid (xs.length = n) := h.1
  clear hM h hz
  have HP : Hid (PartT (w.alloc (.cells M 9)) w.heap.size n 0 xs) := ⟨M, heap_alloc_new w _, hMs, fun i h => absurd h (by omega)⟩
  go_enter Try.func51, Try.ntmps51
  go_wp2_with fail
  go_loopw [11] (fun i wr => ∃ k : Nat, k ≤ n ∧ i = .int .i64 (k : Int) ∧ Hid (PartT wr w.heap.size n k xs) ∧ Hid (Below w.heap.size w wr)) (fun i _ => n - (intOf i).toNat)
  case atStart => exact ⟨0, Nat.zero_le _, rfl, HP, (Below.refl _ _).alloc (Nat.le_refl _) _⟩
  case round =>
    obtain ⟨k, hk, rfl, hpr, hbw⟩ := hrel
    by_cases hlt : k < n
    · have hlt2 : (k : Int) < (n : Int) := by omega
      obtain ⟨g, rfl, hg, r0⟩ := (HA.out.below hbw.out).2 k hlt
      obtain ⟨z, hzz⟩ : ∃ z, z = textAt xs k := ⟨_, rfl⟩
      have HZ1 : Hid (z.size ≤ 281474976710656) := by rw [Hid, hzz]; have := HZ.out k hlt; omega
      have HZE : Hid (textAt xs k = z) := hzz.symm
      rw [← hzz] at r0
      clear hzz
      go_wp2_with fail
      refine (clone_any z _ HZ1.out).mono ?_
      rintro e w1 ⟨rfl, bw⟩
      have hp1 : PartT w1 w.heap.size n k xs := by
        obtain ⟨cur, h1, h2, h3⟩ := hpr.out
        exact ⟨cur, blk_below h1 bw, h2, h3⟩
      have HB2 : Hid (Below w.heap.size w w1) := hbw.out.trans (bw.mono hbw.out.size)
      have hput := hp1.put hlt
      rw [HZE.out] at hput
      have HPUT : Hid (PartT (w1.setCell ⟨w.heap.size, k, none⟩ (.string z)) w.heap.size n (k + 1) xs) := hput
      obtain ⟨u0, hu0, f0⟩ : ∃ u, w1.cell? ⟨w.heap.size, k, none⟩ = some u ∧ w1.frozen? ⟨w.heap.size, k, none⟩ = false := by
        obtain ⟨cur, h1, h2, _⟩ := hp1
        refine ⟨cur[k]'(by omega), ?_, by simp [World.frozen?, h1]⟩
        simp only [World.cell?, h1]
        simp [show k < cur.size by omega]
      clear bw hp1 hput r0
      go_wp2_with fail
      go_roundw
      case rel => exact ⟨k + 1, by omega, by go_num, HPUT, HB2.out.setCell (Nat.le_refl _) _⟩
      case measure => simp [intOf]; omega
    · obtain rfl : k = n := by omega
      go_wp2_with fail
      go_ret
      exact ⟨_, rfl, (hpr.out.row HLEN.out (Nat.le_refl _) (by unfold maxLen; omega)).owns, hbw.out⟩

set_option maxHeartbeats 8000000 in
set_option maxRecDepth 100000 in
theorem copiedWrites_any (o : Option Addr) (n c : Nat) (ws : List (Int × ByteArray)) (w : World) (h : WriteA w o n ws) (hn : n ≤ 2000000) (hz : ∀ x ∈ ws, (x.2).size ≤ 1048576) :
    Calls Try.prog 52 #[.slice o n c] w fun e w' => ∃ v, e = .returned v ∧ w'.ownsRow w.heap.size 67 2 v n (flatWrite ws) ∧ Below w.heap.size w w' := by
  obtain ⟨i0, hi, hz0, hz1, hz2⟩ := info_parts infoWrite
  obtain ⟨M, hM⟩ : ∃ M, M = madeCells (Value.agg #[.int .i64 0, .string ⟨#[]⟩]).cells (((n : Nat) : Int).toNat * i0.size) := ⟨_, rfl⟩
  have hmk : ∀ W : World, (Instr.makeSlice 25 (.int .i64 (n : Int)) (.int .i64 (n : Int))).run Try.prog W = .ok (.slice (some ⟨W.heap.size, 0, none⟩) n n) (W.alloc (.cells M 67)) := fun W => by
    have h := run_make (P := Try.prog) W 25 67 i0 (Value.agg #[.int .i64 0, .string ⟨#[]⟩]) Try.underlying25 hi hz0 .i64 .i64 (n : Int) (n : Int) (by omega) (by omega) (by rw [hz2]; omega) (by omega)
    rw [← hM] at h
    simpa using h
  have hMs : M.size = n * 2 := by rw [hM, size_madeCells, hz1]; simp
  have HA : Hid (WriteA w o n ws) := h
  have HZ : Hid (∀ x ∈ ws, (x.2).size ≤ 1048576) := hz
  have HLEN : Hid (ws.length = n) := h.1
  clear hM h hz
  have HP : Hid (PartWrite (w.alloc (.cells M 67)) w.heap.size n 0 ws) := ⟨M, heap_alloc_new w _, hMs, fun i h => absurd h (by omega)⟩
  go_enter Try.func52, Try.ntmps52
  go_wp2_with fail
  go_loopw [11] (fun i wr => ∃ k : Nat, k ≤ n ∧ i = .int .i64 (k : Int) ∧ Hid (PartWrite wr w.heap.size n k ws) ∧ Hid (Below w.heap.size w wr)) (fun i _ => n - (intOf i).toNat)
  case atStart => exact ⟨0, Nat.zero_le _, rfl, HP, (Below.refl _ _).alloc (Nat.le_refl _) _⟩
  case round =>
    obtain ⟨k, hk, rfl, hpr, hbw⟩ := hrel
    by_cases hlt : k < n
    · have hlt2 : (k : Int) < (n : Int) := by omega
      have hjx : k < ws.length := by rw [HLEN.out]; omega
      obtain ⟨g, rfl, hg, r0, r1⟩ := (HA.out.below hbw.out).2 k hlt
      obtain ⟨y, hy⟩ : ∃ y, y = writeAt ws k := ⟨_, rfl⟩
      have HZ1 : Hid (y.2.size ≤ 281474976710656) := by rw [Hid, hy]; have := HZ.out _ (writeAt_mem ws k hjx); omega
      have HY : Hid (writeAt ws k = y) := hy.symm
      rw [← hy] at r0 r1
      obtain ⟨y0, y1⟩ := y
      simp only at r0 r1
      clear hy hjx
      go_upto_region 5 with fail
      clear r0 r1
      obtain ⟨q, hq⟩ : ∃ q, q = wr.heap.size := ⟨_, rfl⟩
      obtain ⟨w1, hw1⟩ : ∃ W, W = wr.alloc (.cells #[.int .i64 y0, .string y1] 67) := ⟨_, rfl⟩
      rw [← hw1, ← hq]
      have hB1 : Below w.heap.size w w1 := by rw [hw1]; exact hbw.out.alloc hbw.out.size _
      have hS : w1.heap[q]? = some (.cells #[.int .i64 y0, .string y1] 67) := by rw [hw1, hq]; exact heap_alloc_new _ _
      have hp1 : PartWrite w1 w.heap.size n k ws := by rw [hw1]; exact hpr.out.below ((Below.refl _ _).alloc (Nat.le_refl _) _) hpr.out.lt
      have HS : Hid (w1.heap[q]? = some (.cells #[.int .i64 y0, .string y1] 67)) := hS
      have HK : Hid (∀ W, Below w1.heap.size w1 W → (W.cell? ⟨q, 0, none⟩ = some (.int .i64 y0) ∧ W.cell? ⟨q, 1, none⟩ = some (.string y1)) ∧ PartWrite W w.heap.size n k ws ∧ Below w.heap.size w W) := fun W hW =>
        ⟨⟨(cell_of (blk_below hS hW) 0).trans rfl, (cell_of (blk_below hS hW) 1).trans rfl⟩, hp1.below hW hp1.lt, hB1.trans (hW.mono hB1.size)⟩
      have HSET : Hid (∀ (W : World) (a b : Value), (W.cell? ⟨q, 0, none⟩ = some (.int .i64 y0) ∧ W.cell? ⟨q, 1, none⟩ = some (.string y1)) → (((W.setCell ⟨w.heap.size, k * 2, none⟩ a).setCell ⟨w.heap.size, k * 2 + 1, none⟩ b).cell? ⟨q, 0, none⟩ = some (.int .i64 y0) ∧ ((W.setCell ⟨w.heap.size, k * 2, none⟩ a).setCell ⟨w.heap.size, k * 2 + 1, none⟩ b).cell? ⟨q, 1, none⟩ = some (.string y1))) := fun W a b h => by
        have hne : q ≠ w.heap.size := by rw [hq]; exact Nat.ne_of_gt hpr.out.lt
        have hh : ((W.setCell ⟨w.heap.size, k * 2, none⟩ a).setCell ⟨w.heap.size, k * 2 + 1, none⟩ b).heap[q]? = W.heap[q]? := (heap_setCell_other _ _ q _ hne).trans (heap_setCell_other _ _ q _ hne)
        exact ⟨(World.cell?_of_block hh).trans h.1, (World.cell?_of_block hh).trans h.2⟩
      clear hq hw1 hB1 hS hp1 HS hpr hbw
      obtain ⟨c0, c1⟩ := (HK.out _ (Below.refl _ _)).1
      go_region_held3 (fun W => W.cell? ⟨q, 0, none⟩ = some (.int .i64 y0) ∧ W.cell? ⟨q, 1, none⟩ = some (.string y1)) (first | assumption | exact HSET.out _ _ _ ⟨e0, e1⟩ | go_keep) (first | (go_at_call 48; refine (clone_any y1 _ HZ1.out).mono ?_; rintro e u1 ⟨rfl, hb1⟩; obtain ⟨⟨e0, e1⟩, hp2, hb2⟩ := HK.out u1 ((Below.refl _ _).drew.trans hb1); obtain ⟨u2, hu2⟩ := hp2.cell (k * 2) (by omega); have f2 := hp2.frozen (k * 2); obtain ⟨u3, hu3⟩ := hp2.cell (k * 2 + 1) (by omega); have f3 := hp2.frozen (k * 2 + 1)))
      have hput := hp2.put hlt
      rw [HY.out] at hput
      have HPUT : Hid _ := hput
      have HB2 : Hid (Below w.heap.size w u1) := hb2
      clear hput hb2 hp2 hb1 e0 e1 c0 c1 hu2 hu3 f2 f3
      go_wp2_with fail
      go_roundw
      case rel => exact ⟨k + 1, by omega, by go_num, HPUT, (HB2.out.setCell (Nat.le_refl _) _).setCell (Nat.le_refl _) _⟩
      case measure => simp [intOf]; omega
    · obtain rfl : k = n := by omega
      go_wp2_with fail
      go_ret
      exact ⟨_, rfl, hpr.out.owns HLEN.out (by unfold maxLen; omega) (Nat.le_refl _), hbw.out⟩

theorem own_form {w : World} {base n cap : Nat} {t : TypeId} {z : Nat} {oa : Option Addr} {l : List Value} (h : w.ownsRow base t z (.slice oa n cap) n l) : (oa = none ∧ cap = 0) ∨ ∃ g, oa = some ⟨g, 0, none⟩ := by
  rcases h.2 with ⟨e, _⟩ | ⟨g, cap', cur, e, _⟩
  · cases e; exact .inl ⟨rfl, rfl⟩
  · cases e; exact .inr ⟨g, rfl⟩
theorem own_cap {w : World} {base n cap : Nat} {t : TypeId} {z : Nat} {oa : Option Addr} {l : List Value} (h : w.ownsRow base t z (.slice oa n cap) n l) : n ≤ cap := by
  rcases h.2 with ⟨e, h0⟩ | ⟨g, cap', cur, e, _, _, h3, _⟩
  · cases e; exact Nat.le_refl _
  · cases e; exact h3
theorem own_cells {w : World} {base n cap : Nat} {t : TypeId} {z : Nat} {b : Addr} {l : List Value} (h : w.ownsRow base t z (.slice (some b) n cap) n l) (j : Nat) (u : Value) (hj : l[j]? = some u) : w.cell? (b.add j) = some u := by
  rcases h.2 with ⟨e, _⟩ | ⟨g, cap', cur, e, _, hg, _, _, _, ht⟩
  · cases e
  · cases e
    rw [Addr.add_lit, Nat.zero_add, cell_of_row w g j cur t (0, 0) hg]
    rw [← ht, List.getElem?_take] at hj
    split at hj
    · simpa using hj
    · cases hj
theorem text_view {w : World} {base n cap : Nat} {oa : Option Addr} {l : List ByteArray} (h : w.ownsRow base 9 1 (.slice oa n cap) n (l.map Value.string)) : TextsA w oa n l := by
  obtain ⟨oa', cap', e, h'⟩ := texts_own h
  cases e
  exact h'
set_option maxHeartbeats 4000000 in
theorem firstWrites_any (o : Option Addr) (n c m : Nat) (w : World) (ho : (o = none ∧ c = 0) ∨ ∃ g, o = some ⟨g, 0, none⟩) (hm : m ≤ c) :
    Calls Try.prog 40 #[.slice o n c, .int .i64 (m : Int)] w fun e w' => e = .returned (.slice o m m) ∧ w' = w := by
  rcases ho with ⟨rfl, _⟩ | ⟨g, rfl⟩
  · go_enter Try.func40, Try.ntmps40
    go_wp2_with fail
    go_ret
    exact ⟨rfl, rfl⟩
  · go_enter Try.func40, Try.ntmps40
    go_wp2_with fail
    go_ret
    exact ⟨rfl, rfl⟩

set_option maxHeartbeats 4000000 in
theorem asDisk_any (l : List ByteArray) (hl : l.length = 20) (hz : ∀ i, i < 20 → (textAt l i).size ≤ 1048576) (w : World) :
    Calls Try.prog 42 #[.agg (cellsA l)] w fun e w' => DiskIs l [] w e w' := by
  have HL : Hid (l.length = 20) := hl
  have HZ : Hid (∀ i, i < 20 → (textAt l i).size ≤ 1048576) := hz
  clear hl hz
  go_enter Try.func42, Try.ntmps42
  go_upto_region 1 with fail
  obtain ⟨w2, hw2⟩ : ∃ W, W = (w.alloc (.cells (cellsA l) 64)).alloc (.cells #[.slice none 0 0, .slice none 0 0] 27) := ⟨_, rfl⟩
  rw [← hw2]
  have hBW : Below w.heap.size w w2 := by rw [hw2]; exact ((Below.refl _ _).alloc (Nat.le_refl _) _).alloc (by simp) _
  have hA : w2.heap[w.heap.size]? = some (.cells (cellsA l) 64) := by rw [hw2]; exact blk_alloc (heap_alloc_new _ _) _
  have hC : w2.heap[w.heap.size + 1]? = some (.cells #[.slice none 0 0, .slice none 0 0] 27) := by rw [hw2]; exact heap_alloc2_new _ _ _
  obtain ⟨q, hq⟩ : ∃ q, q = w.heap.size := ⟨_, rfl⟩
  have HQ : Hid (w.heap.size = q) := hq.symm
  rw [← hq] at hA hC
  rw [← hq]
  have HA : Hid (w2.heap[q]? = some (.cells (cellsA l) 64)) := hA
  have HC : Hid (w2.heap[q + 1]? = some (.cells #[.slice none 0 0, .slice none 0 0] 27)) := hC
  have HBW : Hid (Below w.heap.size w w2) := hBW
  clear hw2 hBW hA hC hq
  go_wp2_with fail
  refine (copiedTexts_any (some ⟨q, 0, none⟩) 20 20 l _ ⟨HL.out, fun i hi => ⟨q, rfl, (Array.getElem?_eq_some_iff.1 HA.out).1, (cell_of HA.out i).trans (cellsA_at l i (by rw [HL.out]; exact hi))⟩⟩ (by omega) HZ.out).mono ?_
  rintro e w3 ⟨v, rfl, ho, bw⟩
  have hC3 := blk_below HC.out bw
  have HC3 : Hid (w3.heap[q + 1]? = some (.cells #[.slice none 0 0, .slice none 0 0] 27)) := hC3
  have c0 := (cell_of hC3 0).trans rfl
  have c1 := (cell_of hC3 1).trans rfl
  have f0 := frozen_of hC3 0
  have f1 := frozen_of hC3 1
  obtain ⟨o, p, rfl⟩ := slice_of_owns ho
  have HO : Hid (w3.ownsRow w2.heap.size 9 1 (.slice o 20 p) 20 (l.map Value.string)) := ho
  have HB3 : Hid (Below w.heap.size w w3) := HBW.out.trans (bw.mono HBW.out.size)
  have HS2 : Hid (w.heap.size ≤ w2.heap.size) := HBW.out.size
  clear hC3 bw ho
  go_wp2_with fail
  obtain ⟨w5, hw5⟩ : ∃ W, W = (w3.setCell ⟨q + 1, 0, none⟩ (.slice o 20 p)).setCell ⟨q + 1, 1, none⟩ (.slice none 0 0) := ⟨_, rfl⟩
  rw [← hw5]
  have h5 : w5.heap[q + 1]? = some (.cells #[.slice o 20 p, .slice none 0 0] 27) := by
    rw [hw5]
    exact heap_setCell_same _ _ _ _ _ _ (heap_setCell_same _ _ _ _ _ _ HC3.out)
  refine bodyPost_ret (v := .agg #[.slice o 20 p, .slice none 0 0]) (results_cell_row Try.results42 _ _ (q + 1) 27 _ (0, 0) _ rfl h5 Try.underlying27 rfl (by kernel_rfl)) rfl ⟨_, _, rfl, ⟨?_, World.ownsRow_nil _ _ _ _⟩, ?_⟩
  · rw [HL.out, hw5]
    exact owns_same (owns_wide HO.out HS2.out) (fun g hg => by
      have hne : g ≠ q + 1 := own_ne HO.out HC3.out (by decide) g hg
      rw [heap_setCell_other _ _ g _ hne, heap_setCell_other _ _ g _ hne])
  · rw [hw5]
    exact (HB3.out.setCell (by rw [HQ.out]; exact Nat.le_succ _) _).setCell (by rw [HQ.out]; exact Nat.le_succ _) _

end Go.Proofs.Ytckjbgpdbehmaaa

namespace Go.Proofs.Ytckjbgpdbehmaaa
open Go.RowKit
open Go.Lib hiding intOf

/-- A list whose cells can be read, nil or not. -/
def Src (w : World) (size : Nat) (v : Value) (m : Nat) (news : List Value) : Prop :=
  news.length = m * size ∧ (∀ u ∈ news, u.oneCell' = true) ∧ ((v = .slice none 0 0 ∧ m = 0) ∨ ∃ ad c, v = .slice (some ad) m c ∧ ∀ j u, news[j]? = some u → w.cell? (ad.add j) = some u)
theorem Src.of_owns {w : World} {base : Nat} {t : TypeId} {size n : Nat} {v : Value} {xs : List Value} (h : w.ownsRow base t size v n xs) (h1 : ∀ u ∈ xs, u.oneCell' = true) : Src w size v n xs := by
  obtain ⟨hl, hv⟩ := h
  refine ⟨hl, h1, ?_⟩
  rcases hv with ⟨rfl, h0⟩ | ⟨g, cap, cur, rfl, hb, hg, hn, hm, hcs, htk⟩
  · exact .inl ⟨rfl, h0⟩
  · refine .inr ⟨⟨g, 0, none⟩, cap, rfl, fun j u hj => ?_⟩
    have e : (⟨g, 0, none⟩ : Addr).add j = ⟨g, j, none⟩ := by unfold Addr.add; split <;> simp_all
    rw [e, ← htk, List.getElem?_take] at *
    split at hj
    · simpa [World.cell?, hg] using hj
    · cases hj
theorem Src.texts {w : World} {base : Nat} {t : TypeId} {n : Nat} {v : Value} {xs : List ByteArray} (h : w.ownsRow base t 1 v n (xs.map Value.string)) : Src w 1 v n (xs.map Value.string) :=
  Src.of_owns h (fun u hu => by obtain ⟨x, _, rfl⟩ := List.mem_map.1 hu; rfl)

section
variable {P : Program} {w : World}
theorem run_append_src (t ty : TypeId) (base : Nat) (e : TypeId) (i : TypeInfo) (z : Value) (size bytes : Nat) (ht : P.underlying t = some (.slice e)) (hi : P.info? e = some i) (hz : i.zero = some z)
    (hsize : i.size = size) (hby : i.bytes = bytes) (hzs : z.cells.size = size) (hsz : 0 < size)
    (v : Value) (n : Nat) (xs : List Value) (hown : w.ownsRow base e size v n xs) (x : Value) (m : Nat) (news : List Value) (hsrc : Src w size x m news)
    (h63 : n + m ≤ maxLen) (hbytes : (n + m) * bytes ≤ 140737488355328) (hbase : base ≤ w.heap.size) :
    ∃ v' w', (Builtin.append_ #[t, t] ty #[v, x]).run P w = .ok v' w' ∧ w'.ownsRow base e size v' (n + m) (xs ++ news) ∧ w.grownBy w' v.ownBlock := by
  obtain ⟨hl, h1, ⟨rfl, rfl⟩ | ⟨ad, c, rfl, hnews⟩⟩ := hsrc
  · have hn : news = [] := List.length_eq_zero_iff.1 (by omega)
    subst hn
    exact ⟨v, w, run_append_owned_none (P := P) (w := w) base t ty e i size ht hi v n xs hown, by simpa using hown, World.grownBy.refl _ _⟩
  · obtain ⟨v', w', hr, h2, h3, _, _⟩ := run_append_own_at (P := P) w base t ty e i z size bytes ht hi hz hsize hby hzs hsz v n xs hown ad m c news hl hnews h1 h63 hbytes hbase
    exact ⟨v', w', hr, h2, h3⟩
theorem wp_append_src {o : Oper} {a : Act} {K : Act → World → Prop} {Q : Exit → Act → World → Prop} (s x : Operand) (t : TypeId)
    (ho : o.op = .call { callee := .builtin .append, args := #[s, x], argTypes := #[t, t] })
    (base : Nat) (e : TypeId) (i : TypeInfo) (z : Value) (size bytes : Nat) (ht : P.underlying t = some (.slice e)) (hi : P.info? e = some i) (hz : i.zero = some z)
    (hsize : i.size = size) (hby : i.bytes = bytes) (hzs : z.cells.size = size) (hsz : 0 < size)
    (v : Value) (n : Nat) (xs : List Value) (hs : a.eval s = v) (hown : w.ownsRow base e size v n xs) (y : Value) (m : Nat) (news : List Value) (hx : a.eval x = y) (hsrc : Src w size y m news)
    (h63 : n + m ≤ maxLen) (hbytes : (n + m) * bytes ≤ 140737488355328) (hbase : base ≤ w.heap.size)
    (h : ∀ v' w', w'.ownsRow base e size v' (n + m) (xs ++ news) → w.grownBy w' v.ownBlock → K (a.put o.dst v') w') : Oper.wp P o a w K Q := by
  obtain ⟨v', w', hr, h2, h3⟩ := run_append_src (P := P) (w := w) t o.type base e i z size bytes ht hi hz hsize hby hzs hsz v n xs hown y m news hsrc h63 hbytes hbase
  unfold Oper.wp execOp
  simp only [ho, resolve, invoke, builtin, Sem.run_bind, Sem.run_pure, Result.andThen_ok, List.map_toArray, List.map_cons, List.map_nil, hs, hx, hr]
  exact h v' w' h2 h3
theorem wpList_append_src {ops : Array Oper} {rest : List Oper} {o : Oper} {a : Act} {Q : Exit → Act → World → Prop} (hgd : o.guard = none) (s x : Operand) (t : TypeId)
    (ho : o.op = .call { callee := .builtin .append, args := #[s, x], argTypes := #[t, t] })
    (base : Nat) (e : TypeId) (i : TypeInfo) (z : Value) (size bytes : Nat) (ht : P.underlying t = some (.slice e)) (hi : P.info? e = some i) (hz : i.zero = some z)
    (hsize : i.size = size) (hby : i.bytes = bytes) (hzs : z.cells.size = size) (hsz : 0 < size)
    (v : Value) (n : Nat) (xs : List Value) (hs : a.eval s = v) (hown : w.ownsRow base e size v n xs) (y : Value) (m : Nat) (news : List Value) (hx : a.eval x = y) (hsrc : Src w size y m news)
    (h63 : n + m ≤ maxLen) (hbytes : (n + m) * bytes ≤ 140737488355328) (hbase : base ≤ w.heap.size)
    (h : ∀ v' w', w'.ownsRow base e size v' (n + m) (xs ++ news) → w.grownBy w' v.ownBlock → wpList P ops Q rest (a.put o.dst v') w') : wpList P ops Q (o :: rest) a w :=
  wpList_plain hgd fun _ hK => wp_append_src s x t ho base e i z size bytes ht hi hz hsize hby hzs hsz v n xs hs hown y m news hx hsrc h63 hbytes hbase fun v' w' h2 h3 => hK _ _ (h v' w' h2 h3)
theorem step_append_src {ops : Array Oper} {o : Oper} {a : Act} {K : Act → World → Prop} {Q : Exit → Act → World → Prop} {E : Prop} (hgd : o.guard = none) (s x : Operand) (t : TypeId)
    (ho : o.op = .call { callee := .builtin .append, args := #[s, x], argTypes := #[t, t] })
    (base : Nat) (e : TypeId) (i : TypeInfo) (z : Value) (size bytes : Nat) (ht : P.underlying t = some (.slice e)) (hi : P.info? e = some i) (hz : i.zero = some z)
    (hsize : i.size = size) (hby : i.bytes = bytes) (hzs : z.cells.size = size) (hsz : 0 < size)
    (v : Value) (n : Nat) (xs : List Value) (hs : a.eval s = v) (hown : w.ownsRow base e size v n xs) (y : Value) (m : Nat) (news : List Value) (hx : a.eval x = y) (hsrc : Src w size y m news)
    (h63 : n + m ≤ maxLen) (hbytes : (n + m) * bytes ≤ 140737488355328) (hbase : base ≤ w.heap.size)
    (h : ∀ v' w', w'.ownsRow base e size v' (n + m) (xs ++ news) → w.grownBy w' v.ownBlock → K (a.put o.dst v') w') :
    if Region.wanted o (yielded ops a.tmps) = true then Oper.wp P o a w K Q else E := by
  have hw : Region.wanted o (yielded ops a.tmps) = true := by simp [Region.wanted, hgd]
  rw [if_pos hw]
  exact wp_append_src s x t ho base e i z size bytes ht hi hz hsize hby hzs hsz v n xs hs hown y m news hx hsrc h63 hbytes hbase h
end

end Go.Proofs.Ytckjbgpdbehmaaa

namespace Go.Proofs.Ytckjbgpdbehmaaa
open Go.RowKit
open Go.Lib hiding intOf

/-- A disk is stored into the result's block. -/
theorem stored {w w0 w1 : World} {q : Nat} {x0 x1 v1 v2 : Value} {n1 n2 : Nat} {cs : List ByteArray} {ws : List (Int × ByteArray)} (hC : w1.heap[q]? = some (.cells #[x0, x1] 27)) (hD : DiskO w1 w0.heap.size v1 n1 cs v2 n2 ws) (hs : w.heap.size ≤ w0.heap.size) (hb : Below w.heap.size w w1) (hq : w.heap.size ≤ q) :
    ((w1.setCell ⟨q, 0, none⟩ v1).setCell ⟨q, 1, none⟩ v2).heap[q]? = some (.cells #[v1, v2] 27) ∧ DiskO ((w1.setCell ⟨q, 0, none⟩ v1).setCell ⟨q, 1, none⟩ v2) w.heap.size v1 n1 cs v2 n2 ws ∧ Below w.heap.size w ((w1.setCell ⟨q, 0, none⟩ v1).setCell ⟨q, 1, none⟩ v2) := by
  refine ⟨heap_setCell_same _ _ _ _ _ _ (heap_setCell_same _ _ _ _ _ _ hC), ⟨?_, ?_⟩, (hb.setCell hq _).setCell hq _⟩
  · exact owns_same (owns_wide hD.cells hs) (fun g hg => by
      have hne : g ≠ q := own_ne hD.cells hC (by decide) g hg
      rw [heap_setCell_other _ _ g _ hne, heap_setCell_other _ _ g _ hne])
  · exact owns_same (owns_wide hD.pend hs) (fun g hg => by
      have hne : g ≠ q := own_ne hD.pend hC (by decide) g hg
      rw [heap_setCell_other _ _ g _ hne, heap_setCell_other _ _ g _ hne])
theorem shutDisk {fn : Func} {w w0 w1 : World} {q : Nat} {a : Act} {p : Tmp} {x0 x1 v1 v2 : Value} {n1 n2 : Nat} {cs : List ByteArray} {ws : List (Int × ByteArray)} (hr : fn.results = #[.cell p 27]) (hp : a.tmps.getD p undef = .pointer (some ⟨q, 0, none⟩)) (hd : a.defers = []) (hC : w1.heap[q]? = some (.cells #[x0, x1] 27)) (hD : DiskO w1 w0.heap.size v1 n1 cs v2 n2 ws) (hn1 : n1 = cs.length) (hn2 : n2 = ws.length) (hs : w.heap.size ≤ w0.heap.size) (hb : Below w.heap.size w w1) (hq : w.heap.size ≤ q) :
    bodyPost Try.prog fn (fun e w' => DiskIs cs ws w e w') .ret a ((w1.setCell ⟨q, 0, none⟩ v1).setCell ⟨q, 1, none⟩ v2) := by
  obtain ⟨h1, h2, h3⟩ := stored hC hD hs hb hq
  subst hn1 hn2
  exact bodyPost_ret (v := .agg #[v1, v2]) (results_cell_row hr _ _ q 27 _ (0, 0) _ hp h1 Try.underlying27 rfl (by kernel_rfl)) hd ⟨_, _, rfl, h2, h3⟩
theorem shutDiskB {fn : Func} {w w0 w1 : World} {q : Nat} {a : Act} {p p2 : Tmp} {x0 x1 v1 v2 : Value} {b : Bool} {n1 n2 : Nat} {cs : List ByteArray} {ws : List (Int × ByteArray)} (hr : fn.results = #[.cell p 27, .tmp p2]) (hp : a.tmps.getD p undef = .pointer (some ⟨q, 0, none⟩)) (hp2 : a.tmps.getD p2 undef = .bool b) (hd : a.defers = []) (hC : w1.heap[q]? = some (.cells #[x0, x1] 27)) (hD : DiskO w1 w0.heap.size v1 n1 cs v2 n2 ws) (hn1 : n1 = cs.length) (hn2 : n2 = ws.length) (hs : w.heap.size ≤ w0.heap.size) (hb : Below w.heap.size w w1) (hq : w.heap.size ≤ q) :
    bodyPost Try.prog fn (fun e w' => DiskIsB cs ws b w e w') .ret a ((w1.setCell ⟨q, 0, none⟩ v1).setCell ⟨q, 1, none⟩ v2) := by
  obtain ⟨h1, h2, h3⟩ := stored hC hD hs hb hq
  subst hn1 hn2
  have h4 := run_loadVar_row (P := Try.prog) _ q 27 27 _ (0, 0) _ h1 Try.underlying27 rfl (by kernel_rfl)
  have hp' : a.tmps[p]?.getD undef = .pointer (some ⟨q, 0, none⟩) := by simpa using hp
  have hp2' : a.tmps[p2]?.getD undef = .bool b := by simpa using hp2
  refine bodyPost_ret (v := .tuple #[.agg #[v1, v2], .bool b]) ?_ hd ⟨_, _, rfl, h2, h3⟩
  simp [results, hr, hp', hp2', asAddr, h4]
set_option maxHeartbeats 4000000 in
theorem implDiskOk_len (o1 : Option Addr) (n1 c1 : Nat) (v2 : Value) (n2 : Nat) (ws : List (Int × ByteArray)) (B : Nat) (w : World) (h : w.ownsRow B 67 2 v2 n2 (flatWrite ws)) (hn2 : n2 ≤ 2000000) :
    Calls Try.prog 16 #[.agg #[.slice o1 n1 c1, v2]] w fun e w' => BoolIs (DiskN n1 ws) w e w' := by
  obtain ⟨o2, c2, rfl⟩ := slice_of_owns h
  have HV : Hid (WriteA w o2 n2 ws) := write_view h
  have HLN : Hid (ws.length = n2) := write_len h
  clear h
  by_cases h1 : n1 = 20
  · subst h1
    by_cases h2 : n2 ≤ 16
    · have h3 : (n2 : Int) ≤ 16 := by omega
      go_enter Try.func16, Try.ntmps16
      go_wp2_with fail
      refine (allToCells_any o2 n2 c2 ws _ (HV.out.below ((Below.refl _ _).alloc (Nat.le_refl _) _)) hn2).mono ?_
      rintro e w1 ⟨b, rfl, hb, bw⟩
      have HB : Hid (b = true ↔ AllIn ws) := hb
      have HBW : Hid (Below w.heap.size w w1) := ((Below.refl _ _).alloc (Nat.le_refl _) _).trans (bw.mono (by simp))
      have HN : Hid (n2 ≤ 16) := h2
      clear hb bw
      go_wp2_with fail
      go_ret
      exact ⟨b, rfl, ⟨fun e => ⟨rfl, by rw [HLN.out]; exact HN.out, HB.out.1 e⟩, fun h => HB.out.2 h.2.2⟩, HBW.out⟩
    · have h3 : ¬ (n2 : Int) ≤ 16 := by omega
      have HNO : Hid (¬ ws.length ≤ 16) := by rw [HLN.out]; exact h2
      go_enter Try.func16, Try.ntmps16
      go_wp2_with fail
      go_ret
      exact BoolIs.no (fun h => HNO.out h.2.1) ((Below.refl _ _).alloc (Nat.le_refl _) _)
  · have h3 : ¬ (n1 : Int) = 20 := by omega
    have HNO : Hid (¬ n1 = 20) := h1
    go_enter Try.func16, Try.ntmps16
    go_wp2_with fail
    go_ret
    exact BoolIs.no (fun h => HNO.out h.1) ((Below.refl _ _).alloc (Nat.le_refl _) _)

theorem implDiskOk_any (v1 v2 : Value) (n1 : Nat) (cs : List ByteArray) (n2 : Nat) (ws : List (Int × ByteArray)) (B : Nat) (w : World) (h : DiskO w B v1 n1 cs v2 n2 ws) (_hn1 : n1 ≤ 2000000) (hn2 : n2 ≤ 2000000) :
    Calls Try.prog 16 #[.agg #[v1, v2]] w fun e w' => BoolIs (DiskP cs ws) w e w' := by
  obtain ⟨oCx, pCx, rfl⟩ := slice_of_owns h.cells
  have hl : cs.length = n1 := by have := h.cells.1; rw [List.length_map] at this; omega
  have h1 := implDiskOk_len oCx n1 pCx v2 n2 ws B w h.pend hn2
  rw [← hl] at h1
  rw [← hl]
  exact h1

set_option maxHeartbeats 4000000 in
theorem implDiskNew_any (w : World) :
    Calls Try.prog 27 #[] w fun e w' => DiskIs newC [] w e w' := by
  go_enter Try.func27, Try.ntmps27
  go_wp2_with fail
  refine (asDisk_any noneA rfl (fun i hi => by
    have e : textAt noneA i = ⟨#[]⟩ := by
      unfold textAt noneA
      rw [List.getD_eq_getElem?_getD, List.getElem?_replicate, if_pos hi]
      rfl
    rw [e]
    exact Nat.zero_le _) _).mono ?_
  rintro e w1 ⟨v1, v2, rfl, hd, bw⟩
  obtain ⟨oa, pa, rfl⟩ := slice_of_owns hd.cells
  obtain ⟨ob, pb, rfl⟩ := slice_of_owns hd.pend
  have hC := blk_below (heap_alloc_new w _) bw
  have c0 := (cell_of hC 0).trans rfl
  have c1 := (cell_of hC 1).trans rfl
  have f0 := frozen_of hC 0
  have f1 := frozen_of hC 1
  have HC : Hid _ := hC
  have HD : Hid _ := hd
  have HB : Hid (Below w.heap.size w w1) := ((Below.refl _ _).alloc (Nat.le_refl _) _).trans (bw.mono (by simp))
  have HS : Hid (w.heap.size ≤ (w.alloc (.cells #[.slice none 0 0, .slice none 0 0] 27)).heap.size) := by rw [Hid]; simp
  clear hC hd bw
  go_wp2_with fail
  refine shutDisk Try.results27 ?_ ?_ HC.out HD.out ?_ ?_ HS.out HB.out (Nat.le_refl _) <;> rfl

theorem lieAll {W : World} {B g n c : Nat} {cs : List ByteArray} (h : W.ownsRow B 9 1 (.slice (some ⟨g, 0, none⟩) n c) n (cs.map Value.string)) : W.rangeAt g 0 (cs.map Value.string) := fun j v hv => by
  obtain ⟨oa, cap, e, hl, hc⟩ := texts_own h
  cases e
  have hj : j < cs.length := by
    have := (List.getElem?_eq_some_iff.1 hv).1
    simpa using this
  obtain ⟨g', e, _, r⟩ := hc j (by omega)
  cases e
  rw [List.getElem?_map, getElem_textAt cs j hj] at hv
  rw [Nat.zero_add, r]
  exact hv
theorem land_size {cs : List ByteArray} {ws : List (Int × ByteArray)} {n M : Nat} (h1 : ∀ i, i < n → (textAt cs i).size ≤ M) (h2 : ∀ x ∈ ws, (x.2).size ≤ M) (f : Nat → Bool) : ∀ k, k ≤ ws.length → ∀ i, i < n → (textAt (landTo cs ws f k) i).size ≤ M
  | 0, _, i, hi => h1 i hi
  | k + 1, hk, i, hi => by
    rw [landTo]
    split
    · rw [textAt_set]
      split
      · exact h2 _ (writeAt_mem ws k (by omega))
      · exact land_size h1 h2 f k (by omega) i hi
    · exact land_size h1 h2 f k (by omega) i hi
set_option maxHeartbeats 4000000 in
theorem implFlush_false (o1 : Option Addr) (n1 c1 : Nat) (v2 : Value) (n2 : Nat) (ws : List (Int × ByteArray)) (B : Nat) (w : World) (h : w.ownsRow B 67 2 v2 n2 (flatWrite ws)) (hn2 : n2 ≤ 2000000) (hno : ¬ DiskN n1 ws) :
    Calls Try.prog 18 #[.agg #[.slice o1 n1 c1, v2]] w fun e w' => DiskIs [] [] w e w' := by
  obtain ⟨o2, c2, rfl⟩ := slice_of_owns h
  have HP : Hid (∀ W, Below w.heap.size w W → W.ownsRow B 67 2 (.slice o2 n2 c2) n2 (flatWrite ws)) := fun W hb => owns_below h hb (fun g hg => owns_lt h hg)
  have HNO : Hid (¬ DiskN n1 ws) := hno
  clear h hno
  go_enter Try.func18, Try.ntmps18
  go_wp2_with fail
  refine (implDiskOk_len o1 n1 c1 _ n2 ws B _ (HP.out _ (((Below.refl _ _).alloc (Nat.le_refl _) _).alloc (by simp) _)) hn2).mono ?_
  rintro e w3 ⟨b, rfl, hb, bw⟩
  obtain rfl : b = false := by
    cases b with
    | true => exact absurd (hb.1 rfl) HNO.out
    | false => rfl
  have hC := blk_below (heap_alloc2_new w _ _) bw
  have c0 := (cell_of hC 0).trans rfl
  have c1' := (cell_of hC 1).trans rfl
  have f0 := frozen_of hC 0
  have f1 := frozen_of hC 1
  have HC : Hid _ := hC
  have HB : Hid (Below w.heap.size w w3) := (((Below.refl _ _).alloc (Nat.le_refl _) _).alloc (by simp) _).trans (bw.mono (by simp; omega))
  clear hC bw hb
  go_wp2_with fail
  refine shutDisk (w0 := w) Try.results18 ?_ ?_ HC.out (diskO_nil _ _) ?_ ?_ (Nat.le_refl _) HB.out (Nat.le_succ _) <;> rfl
set_option maxHeartbeats 4000000 in
theorem implDiskGet_false (o1 : Option Addr) (n1 c1 : Nat) (v2 : Value) (n2 : Nat) (ws : List (Int × ByteArray)) (B : Nat) (w : World) (h : w.ownsRow B 67 2 v2 n2 (flatWrite ws)) (hn2 : n2 ≤ 2000000) (hno : ¬ DiskN n1 ws) (x : Int) :
    Calls Try.prog 19 #[.agg #[.slice o1 n1 c1, v2], .int .i64 x] w fun e w' => TextIs ⟨#[]⟩ w e w' := by
  obtain ⟨o2, c2, rfl⟩ := slice_of_owns h
  have HP : Hid (∀ W, Below w.heap.size w W → W.ownsRow B 67 2 (.slice o2 n2 c2) n2 (flatWrite ws)) := fun W hb => owns_below h hb (fun g hg => owns_lt h hg)
  have HNO : Hid (¬ DiskN n1 ws) := hno
  clear h hno
  go_enter Try.func19, Try.ntmps19
  go_wp2_with fail
  refine (implDiskOk_len o1 n1 c1 _ n2 ws B _ (HP.out _ ((Below.refl _ _).alloc (Nat.le_refl _) _)) hn2).mono ?_
  rintro e w3 ⟨b, rfl, hb, bw⟩
  obtain rfl : b = false := by
    cases b with
    | true => exact absurd (hb.1 rfl) HNO.out
    | false => rfl
  have HB : Hid (Below w.heap.size w w3) := ((Below.refl _ _).alloc (Nat.le_refl _) _).trans (bw.mono (by simp))
  clear bw hb
  go_wp2_with fail
  go_ret
  exact ⟨rfl, HB.out⟩
set_option maxHeartbeats 4000000 in
theorem implDiskPut_false (o1 : Option Addr) (n1 c1 : Nat) (v2 : Value) (n2 : Nat) (ws : List (Int × ByteArray)) (B : Nat) (w : World) (h : w.ownsRow B 67 2 v2 n2 (flatWrite ws)) (hn2 : n2 ≤ 2000000) (hno : ¬ DiskN n1 ws) (x : Int) (t : ByteArray) :
    Calls Try.prog 21 #[.agg #[.slice o1 n1 c1, v2], .int .i64 x, .string t] w fun e w' => DiskIsB [] [] false w e w' := by
  obtain ⟨o2, c2, rfl⟩ := slice_of_owns h
  have HP : Hid (∀ W, Below w.heap.size w W → W.ownsRow B 67 2 (.slice o2 n2 c2) n2 (flatWrite ws)) := fun W hb => owns_below h hb (fun g hg => owns_lt h hg)
  have HNO : Hid (¬ DiskN n1 ws) := hno
  clear h hno
  go_enter Try.func21, Try.ntmps21
  go_wp2_with fail
  refine (implDiskOk_len o1 n1 c1 _ n2 ws B _ (HP.out _ (((Below.refl _ _).alloc (Nat.le_refl _) _).alloc (by simp) _)) hn2).mono ?_
  rintro e w3 ⟨b, rfl, hb, bw⟩
  obtain rfl : b = false := by
    cases b with
    | true => exact absurd (hb.1 rfl) HNO.out
    | false => rfl
  have hC := blk_below (heap_alloc2_new w _ _) bw
  have c0 := (cell_of hC 0).trans rfl
  have c1' := (cell_of hC 1).trans rfl
  have f0 := frozen_of hC 0
  have f1 := frozen_of hC 1
  have HC : Hid _ := hC
  have HB : Hid (Below w.heap.size w w3) := (((Below.refl _ _).alloc (Nat.le_refl _) _).alloc (by simp) _).trans (bw.mono (by simp; omega))
  clear hC bw hb
  go_wp2_with fail
  refine shutDiskB (w0 := w) Try.results21 ?_ ?_ ?_ HC.out (diskO_nil _ _) ?_ ?_ (Nat.le_refl _) HB.out (Nat.le_succ _) <;> rfl
set_option maxHeartbeats 8000000 in
set_option maxRecDepth 100000 in
theorem implFlush_true (v1 v2 : Value) (cs : List ByteArray) (n2 : Nat) (ws : List (Int × ByteArray)) (B : Nat) (w : World) (h : DiskO w B v1 20 cs v2 n2 ws) (hn2 : n2 ≤ 2000000) (hok : DiskP cs ws) (hz1 : ∀ i, i < 20 → (textAt cs i).size ≤ 1048576) (hz2 : ∀ x ∈ ws, (x.2).size ≤ 1048576) :
    Calls Try.prog 18 #[.agg #[v1, v2]] w fun e w' => DiskIs (landTo cs ws (fun _ => true) ws.length) [] w e w' := by
  obtain ⟨o1, c1, rfl⟩ := slice_of_owns h.cells
  obtain ⟨o2, c2, rfl⟩ := slice_of_owns h.pend
  obtain ⟨g, rfl⟩ := owns_some h.cells (by omega)
  have HD : Hid (∀ W, Below w.heap.size w W → DiskO W B (.slice (some ⟨g, 0, none⟩) 20 c1) 20 cs (.slice o2 n2 c2) n2 ws) := fun W hb => ⟨owns_below h.cells hb (fun g hg => owns_lt h.cells hg), owns_below h.pend hb (fun g hg => owns_lt h.pend hg)⟩
  have HOK : Hid (DiskP cs ws) := hok
  have HZ1 : Hid (∀ i, i < 20 → (textAt cs i).size ≤ 1048576) := hz1
  have HZ2 : Hid (∀ x ∈ ws, (x.2).size ≤ 1048576) := hz2
  have HLN : Hid (ws.length = n2) := write_len h.pend
  have HCL : Hid (cs.length = 20) := hok.1
  have hua := Try.underlying64
  have hia : (Try.prog.info? 64).map (·.size) = some (cs.map Value.string).length := by rw [List.length_map, HCL.out]; kernel_rfl
  have HUA : Hid ((Try.prog.info? 64).map (·.size) = some (cs.map Value.string).length) := hia
  clear h hok hz1 hz2
  go_enter Try.func18, Try.ntmps18
  go_wp2_with fail
  refine (implDiskOk_any _ _ 20 _ n2 ws B _ (HD.out _ (((Below.refl _ _).alloc (Nat.le_refl _) _).alloc (by simp) _)) (by omega) hn2).mono ?_
  rintro e w3 ⟨b, rfl, hb, bw⟩
  obtain rfl : b = true := hb.2 HOK.out
  have hB3 : Below w.heap.size w w3 := (((Below.refl _ _).alloc (Nat.le_refl _) _).alloc (by simp) _).trans (bw.mono (by simp; omega))
  have hS3 := blk_below (blk_alloc (heap_alloc_new w _) _) bw
  have HS3 : Hid (w3.heap[w.heap.size]? = some (.cells #[.slice (some ⟨g, 0, none⟩) 20 c1, .slice o2 n2 c2] 27)) := hS3
  have HD3 : Hid (∀ W, Below w3.heap.size w3 W → DiskO W B (.slice (some ⟨g, 0, none⟩) 20 c1) 20 cs (.slice o2 n2 c2) n2 ws) := fun W hb => HD.out W (hB3.trans (hb.mono hB3.size))
  have HB3 : Hid (Below w.heap.size w w3) := hB3
  have HC3 : Hid (w3.heap[w.heap.size + 1]? = some (.cells #[.slice none 0 0, .slice none 0 0] 27)) := blk_below (heap_alloc2_new w _ _) bw
  obtain ⟨q, hq⟩ : ∃ q, q = w.heap.size := ⟨_, rfl⟩
  have HQ : Hid (w.heap.size = q) := hq.symm
  rw [← hq] at HS3 HC3
  rw [← hq]
  have HK : Hid (∀ W, Below w3.heap.size w3 W → W.cell? ⟨q, 0, none⟩ = some (.slice (some ⟨g, 0, none⟩) 20 c1) ∧ W.cell? ⟨q, 1, none⟩ = some (.slice o2 n2 c2) ∧ W.rangeAt g 0 (cs.map Value.string)) := fun W hW =>
    ⟨(cell_of (blk_below HS3.out hW) 0).trans rfl, (cell_of (blk_below HS3.out hW) 1).trans rfl, lieAll (HD3.out W hW).cells⟩
  clear hb hB3 hS3 bw hq HD
  have hat : ∀ W : World, (Instr.arrayAt 64 (.slice (some ⟨g, 0, none⟩) 20 c1)).run Try.prog W = .ok (.pointer (some ⟨g, 0, none⟩)) W := fun W => by simp [Instr.arrayAt]
  obtain ⟨d0, d1, d2⟩ := HK.out _ (Below.refl _ _)
  go_upto_region 3 with fail
  have HSET : Hid (∀ (W : World) (x y : Value), Below w3.heap.size w3 W → (((W.setCell ⟨q + 1, 0, none⟩ x).setCell ⟨q + 1, 1, none⟩ y).cell? ⟨q, 0, none⟩ = some (.slice (some ⟨g, 0, none⟩) 20 c1) ∧ ((W.setCell ⟨q + 1, 0, none⟩ x).setCell ⟨q + 1, 1, none⟩ y).cell? ⟨q, 1, none⟩ = some (.slice o2 n2 c2) ∧ ((W.setCell ⟨q + 1, 0, none⟩ x).setCell ⟨q + 1, 1, none⟩ y).rangeAt g 0 (cs.map Value.string))) := fun W x y h => by
    obtain ⟨k0, k1, k2⟩ := HK.out W h
    have hne : g ≠ q + 1 := own_ne (HD3.out _ h).cells (blk_below HC3.out h) (by decide) g rfl
    have hh : ∀ j, j ≠ q + 1 → ((W.setCell ⟨q + 1, 0, none⟩ x).setCell ⟨q + 1, 1, none⟩ y).heap[j]? = W.heap[j]? := fun j hj => (heap_setCell_other _ _ j _ hj).trans (heap_setCell_other _ _ j _ hj)
    exact ⟨(World.cell?_of_block (hh q (by omega))).trans k0, (World.cell?_of_block (hh q (by omega))).trans k1, fun j v hv => (World.cell?_of_block (hh g hne)).trans (k2 j v hv)⟩
  have HLZ : Hid (∀ i, i < 20 → (textAt (landTo cs ws (fun _ => true) ws.length) i).size ≤ 1048576) := land_size HZ1.out HZ2.out _ _ (Nat.le_refl _)
  have HLL : Hid ((landTo cs ws (fun _ => true) ws.length).length = 20) := (landTo_len _ _ _ _).trans HCL.out
  go_region_held3 (fun W => W.cell? ⟨q, 0, none⟩ = some (.slice (some ⟨g, 0, none⟩) 20 c1) ∧ W.cell? ⟨q, 1, none⟩ = some (.slice o2 n2 c2) ∧ W.rangeAt g 0 (cs.map Value.string)) (first | assumption | exact HSET.out _ _ _ hb4 | go_keep) (first | (go_at_call 46; refine (withAll_any cs HCL.out o2 n2 c2 ws _ (write_view (HD3.out _ (Below.refl _ _).drew).pend) hn2 HOK.out.2.2).mono ?_; rintro e u1 ⟨rfl, hb1⟩; have hb2 := (Below.refl w3.heap.size w3).drew.trans hb1; obtain ⟨a0, a1, a2⟩ := HK.out u1 hb2) | (go_at_call 42; refine (asDisk_any _ HLL.out HLZ.out _).mono ?_; rintro e u2 ⟨x1, x2, rfl, hd3, hb3⟩; have hb4 := hb2.trans (hb3.mono hb2.size); obtain ⟨b0, b1, b2⟩ := HK.out u2 hb4; obtain ⟨oa, pa, rfl⟩ := slice_of_owns hd3.cells; obtain ⟨ob, pb, rfl⟩ := slice_of_owns hd3.pend; have hC4 := blk_below HC3.out hb4; have k0 := (cell_of hC4 0).trans rfl; have k1 := (cell_of hC4 1).trans rfl; have k2 := frozen_of hC4 0; have k3 := frozen_of hC4 1))
  have HB4 : Hid (Below w.heap.size w u2) := HB3.out.trans (hb4.mono HB3.out.size)
  have HC4 : Hid (u2.heap[q + 1]? = some (.cells #[.slice none 0 0, .slice none 0 0] 27)) := hC4
  have HD4 : Hid (DiskO u2 u1.heap.size (.slice oa (landTo cs ws (fun _ => true) ws.length).length pa) (landTo cs ws (fun _ => true) ws.length).length (landTo cs ws (fun _ => true) ws.length) (.slice ob 0 pb) 0 []) := hd3
  have HS4 : Hid (w.heap.size ≤ u1.heap.size) := Nat.le_trans HB3.out.size hb2.size
  clear hC4 hd3 hb4 hb3 b0 b1 b2 k0 k1 k2 k3 hb1 hb2 a0 a1 a2 d0 d1 d2
  go_wp2_with fail
  refine shutDisk (w0 := u1) Try.results18 ?_ ?_ HC4.out HD4.out ?_ ?_ HS4.out HB4.out (by rw [HQ.out]; exact Nat.le_succ _) <;> rfl
theorem land_getTo {cs : List ByteArray} {ws : List (Int × ByteArray)} (h : DiskP cs ws) (x : Int) (hx : 0 ≤ x ∧ x ≤ 19) : textAt (landTo cs ws (fun _ => true) ws.length) x.toNat = getD' cs ws x := by
  obtain ⟨m, rfl⟩ : ∃ m : Nat, x = (m : Int) := ⟨x.toNat, by omega⟩
  rw [get_yes h m (by omega)]
  exact land_get h m (by omega) _ (Nat.le_refl _)
set_option maxHeartbeats 8000000 in
set_option maxRecDepth 100000 in
theorem implDiskGet_true (v1 v2 : Value) (cs : List ByteArray) (n2 : Nat) (ws : List (Int × ByteArray)) (B : Nat) (w : World) (h : DiskO w B v1 20 cs v2 n2 ws) (hn2 : n2 ≤ 2000000) (hok : DiskP cs ws) (hz1 : ∀ i, i < 20 → (textAt cs i).size ≤ 1048576) (hz2 : ∀ x ∈ ws, (x.2).size ≤ 1048576) (x : Int) :
    Calls Try.prog 19 #[.agg #[v1, v2], .int .i64 x] w fun e w' => TextIs (getD' cs ws x) w e w' := by
  obtain ⟨o1, c1, rfl⟩ := slice_of_owns h.cells
  obtain ⟨o2, c2, rfl⟩ := slice_of_owns h.pend
  obtain ⟨g, rfl⟩ := owns_some h.cells (by omega)
  have HD : Hid (∀ W, Below w.heap.size w W → DiskO W B (.slice (some ⟨g, 0, none⟩) 20 c1) 20 cs (.slice o2 n2 c2) n2 ws) := fun W hb => ⟨owns_below h.cells hb (fun g hg => owns_lt h.cells hg), owns_below h.pend hb (fun g hg => owns_lt h.pend hg)⟩
  have HOK : Hid (DiskP cs ws) := hok
  have HZ1 : Hid (∀ i, i < 20 → (textAt cs i).size ≤ 1048576) := hz1
  have HZ2 : Hid (∀ x ∈ ws, (x.2).size ≤ 1048576) := hz2
  have HLN : Hid (ws.length = n2) := write_len h.pend
  have HCL : Hid (cs.length = 20) := hok.1
  have hua := Try.underlying64
  have hia : (Try.prog.info? 64).map (·.size) = some (cs.map Value.string).length := by rw [List.length_map, HCL.out]; kernel_rfl
  have HUA : Hid ((Try.prog.info? 64).map (·.size) = some (cs.map Value.string).length) := hia
  clear h hok hz1 hz2
  go_enter Try.func19, Try.ntmps19
  go_wp2_with fail
  refine (implDiskOk_any _ _ 20 _ n2 ws B _ (HD.out _ ((Below.refl _ _).alloc (Nat.le_refl _) _)) (by omega) hn2).mono ?_
  rintro e w3 ⟨b, rfl, hb, bw⟩
  obtain rfl : b = true := hb.2 HOK.out
  have hB3 : Below w.heap.size w w3 := ((Below.refl _ _).alloc (Nat.le_refl _) _).trans (bw.mono (by simp))
  have hS3 := blk_below (heap_alloc_new w _) bw
  have HS3 : Hid (w3.heap[w.heap.size]? = some (.cells #[.slice (some ⟨g, 0, none⟩) 20 c1, .slice o2 n2 c2] 27)) := hS3
  have HD3 : Hid (∀ W, Below w3.heap.size w3 W → DiskO W B (.slice (some ⟨g, 0, none⟩) 20 c1) 20 cs (.slice o2 n2 c2) n2 ws) := fun W hb => HD.out W (hB3.trans (hb.mono hB3.size))
  have HB3 : Hid (Below w.heap.size w w3) := hB3

  obtain ⟨q, hq⟩ : ∃ q, q = w.heap.size := ⟨_, rfl⟩
  have HQ : Hid (w.heap.size = q) := hq.symm
  rw [← hq] at HS3
  rw [← hq]
  have HK : Hid (∀ W, Below w3.heap.size w3 W → W.cell? ⟨q, 0, none⟩ = some (.slice (some ⟨g, 0, none⟩) 20 c1) ∧ W.cell? ⟨q, 1, none⟩ = some (.slice o2 n2 c2) ∧ W.rangeAt g 0 (cs.map Value.string)) := fun W hW =>
    ⟨(cell_of (blk_below HS3.out hW) 0).trans rfl, (cell_of (blk_below HS3.out hW) 1).trans rfl, lieAll (HD3.out W hW).cells⟩
  clear hb hB3 hS3 bw hq HD
  have hat : ∀ W : World, (Instr.arrayAt 64 (.slice (some ⟨g, 0, none⟩) 20 c1)).run Try.prog W = .ok (.pointer (some ⟨g, 0, none⟩)) W := fun W => by simp [Instr.arrayAt]
  obtain ⟨d0, d1, d2⟩ := HK.out _ (Below.refl _ _)
  go_wp2_with fail
  refine (isCell_any x _).mono ?_
  rintro e w4 ⟨b, rfl, hb, bw⟩
  have HB34 : Hid (Below w3.heap.size w3 w4) := bw
  have HB4 : Hid (Below w.heap.size w w4) := HB3.out.trans (bw.mono HB3.out.size)
  cases b with
  | false =>
    have HX : Hid (¬ (0 ≤ x ∧ x ≤ 19)) := fun h => nomatch hb.2 h
    clear hb bw d0 d1 d2
    go_wp2_with fail
    go_ret
    exact ⟨by rw [get_no (fun h => HX.out h.2)]; rfl, HB4.out⟩
  | true =>
    have HX : Hid (0 ≤ x ∧ x ≤ 19) := hb.1 rfl
    clear hb bw d0 d1 d2
    obtain ⟨d0, d1, d2⟩ := HK.out _ HB34.out
    have HLZ : Hid (∀ i, i < 20 → (textAt (landTo cs ws (fun _ => true) ws.length) i).size ≤ 1048576) := land_size HZ1.out HZ2.out _ _ (Nat.le_refl _)
    have HLL : Hid ((landTo cs ws (fun _ => true) ws.length).length = 20) := (landTo_len _ _ _ _).trans HCL.out
    have HE : Hid (textAt (landTo cs ws (fun _ => true) ws.length) x.toNat = getD' cs ws x) := land_getTo HOK.out x HX.out
    have HZ : Hid ((getD' cs ws x).size ≤ 281474976710656) := by
      rw [Hid, ← HE.out]
      have h1 := HX.out
      have := HLZ.out x.toNat (by omega)
      omega
    have hix : ∀ W : World, (Instr.index 64 (.agg (cellsA (landTo cs ws (fun _ => true) ws.length))) (.int .i64 x)).run Try.prog W = .ok (.string (getD' cs ws x)) W := fun W => by
      have h1 := HX.out
      have h2 := cellsA_at (landTo cs ws (fun _ => true) ws.length) x.toNat (by rw [HLL.out]; omega)
      rw [HE.out] at h2
      simp [Instr.index, asIntOf, part, h2, h1.1, show x < 20 by omega]
    go_upto_region 3 with fail
    go_region_held3 (fun W => W.cell? ⟨q, 0, none⟩ = some (.slice (some ⟨g, 0, none⟩) 20 c1) ∧ W.cell? ⟨q, 1, none⟩ = some (.slice o2 n2 c2) ∧ W.rangeAt g 0 (cs.map Value.string)) (first | assumption | go_keep) (first | (go_at_call 46; refine (withAll_any cs HCL.out o2 n2 c2 ws _ (write_view (HD3.out _ HB34.out.drew).pend) hn2 HOK.out.2.2).mono ?_; rintro e u1 ⟨rfl, hb1⟩; have hb2 := HB34.out.drew.trans (hb1.mono HB34.out.size); obtain ⟨a0, a1, a2⟩ := HK.out u1 hb2) | (go_at_call 48; refine (clone_any (getD' cs ws x) _ HZ.out).mono ?_; rintro e u2 ⟨rfl, hb3⟩; have hb4 := hb2.trans (hb3.mono hb2.size); obtain ⟨b0, b1, b2⟩ := HK.out u2 hb4))
    have HB5 : Hid (Below w.heap.size w u2) := HB3.out.trans (hb4.mono HB3.out.size)
    clear hb4 hb3 b0 b1 b2 hb1 hb2 a0 a1 a2 d0 d1 d2
    go_wp2_with fail
    go_ret
    exact ⟨rfl, HB5.out⟩
theorem no_cap {o2 : Option Addr} {n2 c2 : Nat} (hF : (o2 = none ∧ c2 = 0) ∨ ∃ g, o2 = some ⟨g, 0, none⟩) (hc : n2 ≤ c2) (h : o2 = none) : n2 = 0 ∧ n2 = 0 := by
  rcases hF with h2 | ⟨g, h2⟩
  · have := h2.2
    omega
  · rw [h] at h2
    cases h2
theorem two_ones (x : Int) (t : ByteArray) : ∀ u ∈ [Value.int .i64 x, Value.string t], u.oneCell' = true := fun u hu => by
  simp only [List.mem_cons, List.not_mem_nil, or_false] at hu
  rcases hu with rfl | rfl <;> rfl
theorem put_c {cs : List ByteArray} {ws : List (Int × ByteArray)} (h : DiskP cs ws) : putC cs ws = cs := by unfold putC; rw [if_pos ((diskB_iff cs ws).2 h)]
theorem put_b_no {cs : List ByteArray} {ws : List (Int × ByteArray)} {x : Int} (hn : ¬ (ws.length < 16 ∧ (0 ≤ x ∧ x ≤ 19))) : putB cs ws x = false := by
  unfold putB cellB
  rw [Bool.eq_false_iff]
  intro h
  simp only [Bool.and_eq_true, decide_eq_true_eq] at h
  exact hn h.2
theorem put_b {cs : List ByteArray} {ws : List (Int × ByteArray)} {x : Int} (h : DiskP cs ws) (hl : ws.length < 16) (hx : 0 ≤ x ∧ x ≤ 19) : putB cs ws x = true := by
  unfold putB cellB
  simp only [Bool.and_eq_true, decide_eq_true_eq]
  exact ⟨(diskB_iff cs ws).2 h, hl, hx⟩
theorem put_w_no {cs : List ByteArray} {ws : List (Int × ByteArray)} {x : Int} {t : ByteArray} (h : DiskP cs ws) (hn : ¬ (ws.length < 16 ∧ (0 ≤ x ∧ x ≤ 19))) : putW cs ws x t = ws := by
  unfold putW
  rw [put_b_no hn, if_neg (by decide), if_pos ((diskB_iff cs ws).2 h)]
theorem put_w {cs : List ByteArray} {ws : List (Int × ByteArray)} {x : Int} {t : ByteArray} (h : DiskP cs ws) (hl : ws.length < 16) (hx : 0 ≤ x ∧ x ≤ 19) : putW cs ws x t = ws ++ [(x, t)] := by
  unfold putW
  rw [put_b h hl hx, if_pos rfl]
set_option maxHeartbeats 8000000 in
set_option maxRecDepth 100000 in
theorem implDiskPut_true (v1 v2 : Value) (cs : List ByteArray) (n2 : Nat) (ws : List (Int × ByteArray)) (B : Nat) (w : World) (h : DiskO w B v1 20 cs v2 n2 ws) (hn2 : n2 ≤ 2000000) (hok : DiskP cs ws) (hz1 : ∀ i, i < 20 → (textAt cs i).size ≤ 1048576) (hz2 : ∀ x ∈ ws, (x.2).size ≤ 1048576) (x : Int) (t : ByteArray) (ht : t.size ≤ 1048576) :
    Calls Try.prog 21 #[.agg #[v1, v2], .int .i64 x, .string t] w fun e w' => DiskIsB (putC cs ws) (putW cs ws x t) (putB cs ws x) w e w' := by
  obtain ⟨o1, c1, rfl⟩ := slice_of_owns h.cells
  obtain ⟨o2, c2, rfl⟩ := slice_of_owns h.pend
  obtain ⟨g, rfl⟩ := owns_some h.cells (by omega)
  have HD : Hid (∀ W, Below w.heap.size w W → DiskO W B (.slice (some ⟨g, 0, none⟩) 20 c1) 20 cs (.slice o2 n2 c2) n2 ws) := fun W hb => ⟨owns_below h.cells hb (fun g hg => owns_lt h.cells hg), owns_below h.pend hb (fun g hg => owns_lt h.pend hg)⟩
  have HOK : Hid (DiskP cs ws) := hok
  have HZ1 : Hid (∀ i, i < 20 → (textAt cs i).size ≤ 1048576) := hz1
  have HZ2 : Hid (∀ x ∈ ws, (x.2).size ≤ 1048576) := hz2
  have HLN : Hid (ws.length = n2) := write_len h.pend
  have HCL : Hid (cs.length = 20) := hok.1
  have hua := Try.underlying64
  have hia : (Try.prog.info? 64).map (·.size) = some (cs.map Value.string).length := by rw [List.length_map, HCL.out]; kernel_rfl
  have HUA : Hid ((Try.prog.info? 64).map (·.size) = some (cs.map Value.string).length) := hia
  clear h hok hz1 hz2
  go_enter Try.func21, Try.ntmps21
  go_wp2_with fail
  refine (implDiskOk_any _ _ 20 _ n2 ws B _ (HD.out _ (((Below.refl _ _).alloc (Nat.le_refl _) _).alloc (by simp) _)) (by omega) hn2).mono ?_
  rintro e w3 ⟨b, rfl, hb, bw⟩
  obtain rfl : b = true := hb.2 HOK.out
  have hB3 : Below w.heap.size w w3 := (((Below.refl _ _).alloc (Nat.le_refl _) _).alloc (by simp) _).trans (bw.mono (by simp; omega))
  have hS3 := blk_below (blk_alloc (heap_alloc_new w _) _) bw
  have HS3 : Hid (w3.heap[w.heap.size]? = some (.cells #[.slice (some ⟨g, 0, none⟩) 20 c1, .slice o2 n2 c2] 27)) := hS3
  have HD3 : Hid (∀ W, Below w3.heap.size w3 W → DiskO W B (.slice (some ⟨g, 0, none⟩) 20 c1) 20 cs (.slice o2 n2 c2) n2 ws) := fun W hb => HD.out W (hB3.trans (hb.mono hB3.size))
  have HB3 : Hid (Below w.heap.size w w3) := hB3
  have HC3 : Hid (w3.heap[w.heap.size + 1]? = some (.cells #[.slice none 0 0, .slice none 0 0] 27)) := blk_below (heap_alloc2_new w _ _) bw
  obtain ⟨q, hq⟩ : ∃ q, q = w.heap.size := ⟨_, rfl⟩
  have HQ : Hid (w.heap.size = q) := hq.symm
  rw [← hq] at HS3 HC3
  rw [← hq]
  have HK : Hid (∀ W, Below w3.heap.size w3 W → W.cell? ⟨q, 0, none⟩ = some (.slice (some ⟨g, 0, none⟩) 20 c1) ∧ W.cell? ⟨q, 1, none⟩ = some (.slice o2 n2 c2) ∧ W.rangeAt g 0 (cs.map Value.string)) := fun W hW =>
    ⟨(cell_of (blk_below HS3.out hW) 0).trans rfl, (cell_of (blk_below HS3.out hW) 1).trans rfl, lieAll (HD3.out W hW).cells⟩
  clear hb hB3 hS3 bw hq HD
  have hat : ∀ W : World, (Instr.arrayAt 64 (.slice (some ⟨g, 0, none⟩) 20 c1)).run Try.prog W = .ok (.pointer (some ⟨g, 0, none⟩)) W := fun W => by simp [Instr.arrayAt]
  obtain ⟨i0, hi, hz0, hz1, hz2⟩ := info_parts infoWrite
  have HT : Hid (t.size ≤ 1048576) := ht
  clear ht hat hua hia HUA
  obtain ⟨d0, d1, d2⟩ := HK.out _ (Below.refl _ _)
  have hF := own_form (HD3.out _ (Below.refl _ _)).pend
  have HF : Hid ((o2 = none ∧ c2 = 0) ∨ ∃ g, o2 = some ⟨g, 0, none⟩) := hF
  have HCAP : Hid (n2 ≤ c2) := own_cap (HD3.out _ (Below.refl _ _)).pend
  clear hF
  go_wp2_with fail
  refine (firstWrites_any o2 n2 c2 n2 _ HF.out HCAP.out).mono ?_
  rintro e w4 ⟨rfl, hw4⟩
  rw [hw4]
  clear hw4 w4 d2
  by_cases hlt : n2 < 16
  · have hlt2 : (n2 : Int) < 16 := by omega
    go_wp2_with fail
    refine (isCell_any x _).mono ?_
    rintro e w4 ⟨b, rfl, hb, bw⟩
    have HB34 : Hid (Below w3.heap.size w3 w4) := bw
    obtain ⟨e0, e1, _⟩ := HK.out _ bw
    cases b with
    | false =>
      have HX : Hid (¬ (ws.length < 16 ∧ (0 ≤ x ∧ x ≤ 19))) := fun h => nomatch hb.2 h.2
      clear hb bw d0 d1
      go_upto_region 7 with fail
      go_wp2_with fail
      refine (copiedTexts_any (some ⟨g, 0, none⟩) 20 c1 cs _ (text_view (HD3.out _ (HB34.out)).cells) (by omega) HZ1.out).mono ?_
      rintro e wa ⟨v1, rfl, ho1, ba⟩
      obtain ⟨oa, pa, rfl⟩ := slice_of_owns ho1
      have HBA : Hid (Below w4.heap.size w4 wa) := ba
      have HO1 : Hid (wa.ownsRow w4.heap.size 9 1 (.slice oa 20 pa) 20 (cs.map Value.string)) := ho1
      clear ba ho1
      go_wp2_with fail
      refine (copiedWrites_any o2 n2 n2 (ws) _ ((write_view (HD3.out _ HB34.out).pend).below HBA.out) (by omega) (HZ2.out)).mono ?_
      rintro e wb ⟨v2, rfl, ho2, bb⟩
      obtain ⟨ob, pb, rfl⟩ := slice_of_owns ho2
      have HBB : Hid (Below w3.heap.size w3 wb) := (HB34.out).trans ((HBA.out.mono (HB34.out).size).trans (bb.mono (Nat.le_trans (HB34.out).size HBA.out.size)))
      have hCb := blk_below HC3.out HBB.out
      have HCB : Hid (wb.heap[q + 1]? = some (.cells #[.slice none 0 0, .slice none 0 0] 27)) := hCb
      have HDB : Hid (DiskO wb w4.heap.size (.slice oa 20 pa) 20 cs (.slice ob n2 pb) n2 (ws)) := ⟨owns_below HO1.out bb (fun g hg => owns_lt HO1.out hg), owns_wide ho2 HBA.out.size⟩
      have HSB : Hid (w.heap.size ≤ w4.heap.size) := Nat.le_trans HB3.out.size (HB34.out).size
      have HBW : Hid (Below w.heap.size w wb) := HB3.out.trans (HBB.out.mono HB3.out.size)
      have k0 := (cell_of hCb 0).trans rfl
      have k1 := (cell_of hCb 1).trans rfl
      have k2 := frozen_of hCb 0
      have k3 := frozen_of hCb 1
      clear hCb bb ho2
      go_wp2_with fail
      rw [put_w_no HOK.out HX.out, put_c HOK.out, put_b_no HX.out]
      refine shutDiskB (w0 := w4) Try.results21 ?_ ?_ ?_ HCB.out HDB.out ?_ ?_ HSB.out HBW.out (by rw [HQ.out]; exact Nat.le_succ _) <;> first | rfl | exact HCL.out.symm | exact HLN.out.symm | (rw [List.length_append, HLN.out]; rfl)
    | true =>
      have HX : Hid (0 ≤ x ∧ x ≤ 19) := hb.1 rfl
      have HL16 : Hid (ws.length < 16) := by rw [HLN.out]; exact hlt
      clear hb bw d0 d1
      have HOW : Hid (∀ W, Below w3.heap.size w3 W → W.ownsRow B 67 2 (.slice o2 n2 c2) n2 (flatWrite ws)) := fun W h => (HD3.out W h).pend
      go_upto_region 7 with (refine wpList_append_grows _ rfl _ _ 25 rfl 67 i0 (.agg #[.int .i64 0, .string ⟨#[]⟩]) 2 24 Try.underlying25 hi hz0 hz1 hz2 rfl (by omega) o2 n2 n2 (flatWrite ws) rfl (no_cap HF.out HCAP.out) (by rw [flatWrite_len, HLN.out]) (fun b hb j u hj => by subst hb; exact own_cells (HOW.out _ ((HB34.out).alloc HB34.out.size _)) j u hj) ⟨w4.heap.size, 0, none⟩ 1 1 [.int .i64 x, .string t] rfl rfl (fun j u hj => by rw [Addr.add_lit, Nat.zero_add, cell_of (heap_alloc_new _ _) j]; simpa using hj) (two_ones x t) (by omega) (by unfold maxLen; omega) (by omega) ?_; intro v5 w5 ho5 hg5)
      obtain ⟨o5, c5, rfl⟩ := slice_of_owns ho5
      have HG5 : Hid (Below w3.heap.size w3 w5) := (HB34.out.alloc HB34.out.size _).grown hg5 (Nat.le_trans HB34.out.size (by simp)) (fun k h => by cases h)
      have HO5 : Hid (WriteA w5 o5 (n2 + 1) (ws ++ [(x, t)])) := write_view (base := (w4.alloc (.cells #[.int .i64 x, .string t] 67)).heap.size) (cap := c5) (by rw [flatWrite_append, flatWrite_one]; exact ho5)
      have HZ5 : Hid (∀ y ∈ ws ++ [(x, t)], (y.2).size ≤ 1048576) := fun y hy => by
        rcases List.mem_append.1 hy with h | h
        · exact HZ2.out y h
        · rw [List.mem_singleton.1 h]; exact HT.out
      clear ho5 hg5 e0 e1
      obtain ⟨e0, e1, _⟩ := HK.out _ HG5.out
      go_wp2_with fail
      refine (copiedTexts_any (some ⟨g, 0, none⟩) 20 c1 cs _ (text_view (HD3.out _ (HG5.out)).cells) (by omega) HZ1.out).mono ?_
      rintro e wa ⟨v1, rfl, ho1, ba⟩
      obtain ⟨oa, pa, rfl⟩ := slice_of_owns ho1
      have HBA : Hid (Below w5.heap.size w5 wa) := ba
      have HO1 : Hid (wa.ownsRow w5.heap.size 9 1 (.slice oa 20 pa) 20 (cs.map Value.string)) := ho1
      clear ba ho1
      go_wp2_with fail
      refine (copiedWrites_any o5 (n2 + 1) c5 (ws ++ [(x, t)]) _ ((HO5.out).below HBA.out) (by omega) (HZ5.out)).mono ?_
      rintro e wb ⟨v2, rfl, ho2, bb⟩
      obtain ⟨ob, pb, rfl⟩ := slice_of_owns ho2
      have HBB : Hid (Below w3.heap.size w3 wb) := (HG5.out).trans ((HBA.out.mono (HG5.out).size).trans (bb.mono (Nat.le_trans (HG5.out).size HBA.out.size)))
      have hCb := blk_below HC3.out HBB.out
      have HCB : Hid (wb.heap[q + 1]? = some (.cells #[.slice none 0 0, .slice none 0 0] 27)) := hCb
      have HDB : Hid (DiskO wb w5.heap.size (.slice oa 20 pa) 20 cs (.slice ob (n2 + 1) pb) (n2 + 1) (ws ++ [(x, t)])) := ⟨owns_below HO1.out bb (fun g hg => owns_lt HO1.out hg), owns_wide ho2 HBA.out.size⟩
      have HSB : Hid (w.heap.size ≤ w5.heap.size) := Nat.le_trans HB3.out.size (HG5.out).size
      have HBW : Hid (Below w.heap.size w wb) := HB3.out.trans (HBB.out.mono HB3.out.size)
      have k0 := (cell_of hCb 0).trans rfl
      have k1 := (cell_of hCb 1).trans rfl
      have k2 := frozen_of hCb 0
      have k3 := frozen_of hCb 1
      clear hCb bb ho2
      go_wp2_with fail
      rw [put_w HOK.out HL16.out HX.out, put_c HOK.out, put_b HOK.out HL16.out HX.out]
      refine shutDiskB (w0 := w5) Try.results21 ?_ ?_ ?_ HCB.out HDB.out ?_ ?_ HSB.out HBW.out (by rw [HQ.out]; exact Nat.le_succ _) <;> first | rfl | exact HCL.out.symm | exact HLN.out.symm | (rw [List.length_append, HLN.out]; rfl)
  · have hlt2 : ¬ (n2 : Int) < 16 := by omega
    have HX : Hid (¬ (ws.length < 16 ∧ (0 ≤ x ∧ x ≤ 19))) := fun h => hlt (by have := h.1; rw [HLN.out] at this; exact this)
    go_upto_region 7 with fail
    go_wp2_with fail
    refine (copiedTexts_any (some ⟨g, 0, none⟩) 20 c1 cs _ (text_view (HD3.out _ (Below.refl w3.heap.size w3)).cells) (by omega) HZ1.out).mono ?_
    rintro e wa ⟨v1, rfl, ho1, ba⟩
    obtain ⟨oa, pa, rfl⟩ := slice_of_owns ho1
    have HBA : Hid (Below w3.heap.size w3 wa) := ba
    have HO1 : Hid (wa.ownsRow w3.heap.size 9 1 (.slice oa 20 pa) 20 (cs.map Value.string)) := ho1
    clear ba ho1
    go_wp2_with fail
    refine (copiedWrites_any o2 n2 n2 (ws) _ ((write_view (HD3.out _ (Below.refl _ _)).pend).below HBA.out) (by omega) (HZ2.out)).mono ?_
    rintro e wb ⟨v2, rfl, ho2, bb⟩
    obtain ⟨ob, pb, rfl⟩ := slice_of_owns ho2
    have HBB : Hid (Below w3.heap.size w3 wb) := (Below.refl w3.heap.size w3).trans ((HBA.out.mono (Below.refl w3.heap.size w3).size).trans (bb.mono (Nat.le_trans (Below.refl w3.heap.size w3).size HBA.out.size)))
    have hCb := blk_below HC3.out HBB.out
    have HCB : Hid (wb.heap[q + 1]? = some (.cells #[.slice none 0 0, .slice none 0 0] 27)) := hCb
    have HDB : Hid (DiskO wb w3.heap.size (.slice oa 20 pa) 20 cs (.slice ob n2 pb) n2 (ws)) := ⟨owns_below HO1.out bb (fun g hg => owns_lt HO1.out hg), owns_wide ho2 HBA.out.size⟩
    have HSB : Hid (w.heap.size ≤ w3.heap.size) := Nat.le_trans HB3.out.size (Below.refl w3.heap.size w3).size
    have HBW : Hid (Below w.heap.size w wb) := HB3.out.trans (HBB.out.mono HB3.out.size)
    have k0 := (cell_of hCb 0).trans rfl
    have k1 := (cell_of hCb 1).trans rfl
    have k2 := frozen_of hCb 0
    have k3 := frozen_of hCb 1
    clear hCb bb ho2
    go_wp2_with fail
    rw [put_w_no HOK.out HX.out, put_c HOK.out, put_b_no HX.out]
    refine shutDiskB (w0 := w3) Try.results21 ?_ ?_ ?_ HCB.out HDB.out ?_ ?_ HSB.out HBW.out (by rw [HQ.out]; exact Nat.le_succ _) <;> first | rfl | exact HCL.out.symm | exact HLN.out.symm | (rw [List.length_append, HLN.out]; rfl)

end Go.Proofs.Ytckjbgpdbehmaaa

namespace Go.Proofs.Ytckjbgpdbehmaaa
open Go.RowKit
open Go.Lib hiding intOf

theorem implFlush_any (v1 v2 : Value) (n1 : Nat) (cs : List ByteArray) (n2 : Nat) (ws : List (Int × ByteArray)) (B : Nat) (w : World) (h : DiskO w B v1 n1 cs v2 n2 ws) (_hn1 : n1 ≤ 2000000) (hn2 : n2 ≤ 2000000) (hz1 : ∀ i, i < n1 → (textAt cs i).size ≤ 1048576) (hz2 : ∀ x ∈ ws, (x.2).size ≤ 1048576) :
    Calls Try.prog 18 #[.agg #[v1, v2]] w fun e w' => DiskIs (landC cs ws (fun _ => true)) [] w e w' := by
  have hl : cs.length = n1 := by have := h.cells.1; rw [List.length_map] at this; omega
  by_cases hok : DiskP cs ws
  · obtain rfl : n1 = 20 := hl.symm.trans hok.1
    rw [landC_yes hok]
    exact implFlush_true v1 v2 cs n2 ws B w h hn2 hok hz1 hz2
  · obtain ⟨o1, c1, rfl⟩ := slice_of_owns h.cells
    have hno : ¬ DiskN n1 ws := fun hd => hok ⟨hl.trans hd.1, hd.2⟩
    rw [landC_no hok]
    exact implFlush_false o1 n1 c1 v2 n2 ws B w h.pend hn2 hno
theorem implFlush_no (o1 : Option Addr) (n1 c1 : Nat) (hno : ¬ n1 = 20) (v2 : Value) (n2 : Nat) (ws : List (Int × ByteArray)) (B : Nat) (w : World) (h : w.ownsRow B 67 2 v2 n2 (flatWrite ws)) (hn2 : n2 ≤ 2000000) :
    Calls Try.prog 18 #[.agg #[.slice o1 n1 c1, v2]] w fun e w' => DiskIs [] [] w e w' :=
  implFlush_false o1 n1 c1 v2 n2 ws B w h hn2 (fun hd => hno hd.1)
theorem implDiskGet_any (v1 v2 : Value) (n1 : Nat) (cs : List ByteArray) (n2 : Nat) (ws : List (Int × ByteArray)) (B : Nat) (w : World) (h : DiskO w B v1 n1 cs v2 n2 ws) (_hn1 : n1 ≤ 2000000) (hn2 : n2 ≤ 2000000) (hz1 : ∀ i, i < n1 → (textAt cs i).size ≤ 1048576) (hz2 : ∀ x ∈ ws, (x.2).size ≤ 1048576) (x : Int) :
    Calls Try.prog 19 #[.agg #[v1, v2], .int .i64 x] w fun e w' => TextIs (getD' cs ws x) w e w' := by
  have hl : cs.length = n1 := by have := h.cells.1; rw [List.length_map] at this; omega
  by_cases hok : DiskP cs ws
  · obtain rfl : n1 = 20 := hl.symm.trans hok.1
    exact implDiskGet_true v1 v2 cs n2 ws B w h hn2 hok hz1 hz2 x
  · obtain ⟨o1, c1, rfl⟩ := slice_of_owns h.cells
    have hno : ¬ DiskN n1 ws := fun hd => hok ⟨hl.trans hd.1, hd.2⟩
    rw [get_no (fun h => hok h.1)]
    exact implDiskGet_false o1 n1 c1 v2 n2 ws B w h.pend hn2 hno x
theorem implDiskGet_no (o1 : Option Addr) (n1 c1 : Nat) (hno : ¬ n1 = 20) (v2 : Value) (n2 : Nat) (ws : List (Int × ByteArray)) (B : Nat) (w : World) (h : w.ownsRow B 67 2 v2 n2 (flatWrite ws)) (hn2 : n2 ≤ 2000000) (x : Int) :
    Calls Try.prog 19 #[.agg #[.slice o1 n1 c1, v2], .int .i64 x] w fun e w' => TextIs ⟨#[]⟩ w e w' :=
  implDiskGet_false o1 n1 c1 v2 n2 ws B w h hn2 (fun hd => hno hd.1) x
theorem put_c_no {cs : List ByteArray} {ws : List (Int × ByteArray)} (h : ¬ DiskP cs ws) : putC cs ws = [] := by unfold putC; rw [diskB_no h, if_neg (by decide)]
theorem put_b_not {cs : List ByteArray} {ws : List (Int × ByteArray)} (x : Int) (h : ¬ DiskP cs ws) : putB cs ws x = false := by unfold putB; rw [diskB_no h]; rfl
theorem put_w_not {cs : List ByteArray} {ws : List (Int × ByteArray)} (x : Int) (t : ByteArray) (h : ¬ DiskP cs ws) : putW cs ws x t = [] := by unfold putW; rw [put_b_not x h, if_neg (by decide), diskB_no h, if_neg (by decide)]
theorem implDiskPut_any (v1 v2 : Value) (n1 : Nat) (cs : List ByteArray) (n2 : Nat) (ws : List (Int × ByteArray)) (B : Nat) (w : World) (h : DiskO w B v1 n1 cs v2 n2 ws) (_hn1 : n1 ≤ 2000000) (hn2 : n2 ≤ 2000000) (hz1 : ∀ i, i < n1 → (textAt cs i).size ≤ 1048576) (hz2 : ∀ x ∈ ws, (x.2).size ≤ 1048576) (x : Int) (t : ByteArray) (ht : t.size ≤ 1048576) :
    Calls Try.prog 21 #[.agg #[v1, v2], .int .i64 x, .string t] w fun e w' => DiskIsB (putC cs ws) (putW cs ws x t) (putB cs ws x) w e w' := by
  have hl : cs.length = n1 := by have := h.cells.1; rw [List.length_map] at this; omega
  by_cases hok : DiskP cs ws
  · obtain rfl : n1 = 20 := hl.symm.trans hok.1
    exact implDiskPut_true v1 v2 cs n2 ws B w h hn2 hok hz1 hz2 x t ht
  · obtain ⟨o1, c1, rfl⟩ := slice_of_owns h.cells
    have hno : ¬ DiskN n1 ws := fun hd => hok ⟨hl.trans hd.1, hd.2⟩
    rw [put_c_no hok, put_b_not x hok, put_w_not x t hok]
    exact implDiskPut_false o1 n1 c1 v2 n2 ws B w h.pend hn2 hno x t
theorem implDiskPut_no (o1 : Option Addr) (n1 c1 : Nat) (hno : ¬ n1 = 20) (v2 : Value) (n2 : Nat) (ws : List (Int × ByteArray)) (B : Nat) (w : World) (h : w.ownsRow B 67 2 v2 n2 (flatWrite ws)) (hn2 : n2 ≤ 2000000) (x : Int) (t : ByteArray) :
    Calls Try.prog 21 #[.agg #[.slice o1 n1 c1, v2], .int .i64 x, .string t] w fun e w' => DiskIsB [] [] false w e w' :=
  implDiskPut_false o1 n1 c1 v2 n2 ws B w h hn2 (fun hd => hno hd.1) x t

end Go.Proofs.Ytckjbgpdbehmaaa

namespace Go.Proofs.Ytckjbgpdbehmaaa
open Go.RowKit

def hxB (d : Nat) : UInt8 := UInt8.ofNat (if d < 10 then 48 + d else 87 + d)
def hxF : Nat → Nat → List UInt8
  | 0, _ => []
  | f + 1, n => if n = 0 then [] else hxF f (n / 16) ++ [hxB (n % 16)]
theorem hxF_zero (f : Nat) : hxF f 0 = [] := by cases f <;> simp [hxF]
theorem hxF_pos (f n : Nat) (h : n ≠ 0) : hxF (f + 1) n = hxF f (n / 16) ++ [hxB (n % 16)] := by simp [hxF, h]
def hexL (n : Nat) : List UInt8 := if 1000000 < n then [] else if n = 0 then [48] else hxF 5 n
abbrev HexB (b : UInt8) : Prop := (48 ≤ b.toNat ∧ b.toNat ≤ 57) ∨ (97 ≤ b.toNat ∧ b.toNat ≤ 102)
def hexV (b : UInt8) : Nat := if b.toNat ≤ 57 then b.toNat - 48 else b.toNat - 87
theorem hxB_facts (d : Nat) (h : d < 16) : HexB (hxB d) ∧ hexV (hxB d) = d ∧ (d ≠ 0 → hxB d ≠ 48) := by
  have : ∀ d : Fin 16, HexB (hxB d.1) ∧ hexV (hxB d.1) = d.1 ∧ (d.1 ≠ 0 → hxB d.1 ≠ 48) := by decide
  exact this ⟨d, h⟩
def hexVal (l : List UInt8) : Nat := l.foldl (fun v b => 16 * v + hexV b) 0
theorem hexVal_snoc (l : List UInt8) (b : UInt8) : hexVal (l ++ [b]) = 16 * hexVal l + hexV b := by simp [hexVal]
theorem hx_facts : ∀ (f n : Nat), n < 16 ^ f → (∀ b ∈ hxF f n, HexB b) ∧ hexVal (hxF f n) = n ∧ (∀ b, (hxF f n).head? = some b → b ≠ 48) ∧ (n ≠ 0 → hxF f n ≠ []) := by
  intro f
  induction f with
  | zero => intro n h; simp at h; subst h; simp [hxF, hexVal]
  | succ f ih =>
    intro n h
    by_cases h0 : n = 0
    · subst h0; rw [hxF_zero]; simp [hexVal]
    · rw [Nat.pow_succ] at h
      obtain ⟨h1, h2, h3, h4⟩ := ih (n / 16) (by omega)
      have hd := hxB_facts (n % 16) (by omega)
      rw [hxF_pos f n h0]
      refine ⟨fun b hb => ?_, ?_, fun b hb => ?_, fun _ => by simp⟩
      · simp only [List.mem_append, List.mem_singleton] at hb
        rcases hb with hb | rfl
        · exact h1 b hb
        · exact hd.1
      · rw [hexVal_snoc, h2, hd.2.1]; omega
      · by_cases hz : n / 16 = 0
        · rw [hz, hxF_zero] at hb
          simp at hb
          subst hb
          exact hd.2.2 (by omega)
        · have hne := h4 hz
          obtain ⟨c, r, hc⟩ : ∃ c r, hxF f (n / 16) = c :: r := by
            cases hx : hxF f (n / 16) with
            | nil => exact absurd hx hne
            | cons c r => exact ⟨c, r, rfl⟩
          rw [hc] at hb h3
          simp at hb h3
          rw [← hb]; exact h3
theorem hx_len : ∀ (f n k : Nat), n < 16 ^ k → (hxF f n).length ≤ k := by
  intro f
  induction f with
  | zero => intro n k _; simp [hxF]
  | succ f ih =>
    intro n k h
    by_cases h0 : n = 0
    · subst h0; rw [hxF_zero]; simp
    · cases k with
      | zero => simp at h; omega
      | succ k =>
        rw [Nat.pow_succ] at h
        have := ih (n / 16) k (by omega)
        rw [hxF_pos f n h0]
        simp; omega
/-- A length that may begin a part: one to four digits, no needless nought. -/
theorem hex_head (n : Nat) (h : n < 65536) : 1 ≤ (hexL n).length ∧ (hexL n).length ≤ 4 ∧ (∀ b ∈ hexL n, HexB b) ∧ hexVal (hexL n) = n ∧ (1 < (hexL n).length → ∀ b, (hexL n).head? = some b → b ≠ 48) := by
  unfold hexL
  rw [if_neg (by omega)]
  by_cases h0 : n = 0
  · rw [if_pos h0, h0]
    refine ⟨by simp, by simp, ?_, rfl, by simp⟩
    intro b hb
    simp at hb
    subst hb
    decide
  · rw [if_neg h0]
    obtain ⟨h1, h2, h3, h4⟩ := hx_facts 5 n (by omega)
    have hl := hx_len 5 n 4 (by omega)
    refine ⟨?_, hl, h1, h2, fun _ => h3⟩
    cases hx : hxF 5 n with
    | nil => exact absurd hx (h4 h0)
    | cons c r => simp

/-- A line's end held against what stands there: 0 it is one, 1 it may become one, 2 it is none. -/
def lineC : List UInt8 → Int
  | [] => 1
  | [c] => if c = 13 then 1 else 2
  | c :: d :: _ => if c = 13 ∧ d = 10 then 0 else 2
def digN : Nat → List UInt8 → Nat
  | 0, _ => 0
  | _ + 1, [] => 0
  | f + 1, c :: r => if HexB c then digN f r + 1 else 0
theorem digN_le : ∀ (f : Nat) (r : List UInt8), digN f r ≤ f ∧ digN f r ≤ r.length
  | 0, _ => by simp [digN]
  | _ + 1, [] => by simp [digN]
  | f + 1, c :: r => by
    have := digN_le f r
    unfold digN
    split
    · simp; omega
    · simp
theorem digN_hex : ∀ (f : Nat) (r : List UInt8), ∀ b ∈ r.take (digN f r), HexB b
  | 0, _ => by simp [digN]
  | _ + 1, [] => by simp [digN]
  | f + 1, c :: r => by
    have := digN_hex f r
    unfold digN
    split
    · rename_i h
      intro b hb
      simp only [List.take_succ_cons, List.mem_cons] at hb
      rcases hb with rfl | hb
      · exact h
      · exact this b hb
    · simp
theorem digN_pre : ∀ (l rest : List UInt8) (f : Nat), l.length ≤ f → (∀ b ∈ l, HexB b) → (l.length = f ∨ ∀ c r, rest = c :: r → ¬ HexB c) → digN f (l ++ rest) = l.length
  | [], rest, f, _, _, h => by
    rcases h with h | h
    · simp at h; subst h; simp [digN]
    · cases f with
      | zero => simp [digN]
      | succ f =>
        cases rest with
        | nil => simp [digN]
        | cons c r => simp [digN, h c r rfl]
  | b :: l, rest, f, hf, hh, h => by
    cases f with
    | zero => simp at hf
    | succ f =>
      have ih := digN_pre l rest f (by simpa using hf) (fun x hx => hh x (by simp [hx])) (by
        rcases h with h | h
        · left; simpa using h
        · right; exact h)
      simp [digN, hh b (by simp), ih]
def lenK (r : List UInt8) : Nat := digN 5 r
abbrev lenBad (r : List UInt8) : Prop := 4 < lenK r ∨ (1 < lenK r ∧ r.head? = some 48) ∨ (lenK r = 0 ∧ r ≠ [])
/-- What is told of a length and its line's end. -/
def lenC (r : List UInt8) : Int := if lenBad r then 2 else if lenK r = 0 then 1 else lineC (r.drop (lenK r))
def lenN (r : List UInt8) : Nat := hexVal (r.take (lenK r))
theorem lineC_zero {r : List UInt8} (h : lineC r = 0) : ∃ t, r = 13 :: 10 :: t := by
  match r with
  | [] => simp [lineC] at h
  | [c] => simp only [lineC] at h; split at h <;> simp at h
  | c :: d :: t =>
    simp only [lineC] at h
    split at h
    · rename_i e; exact ⟨t, by rw [e.1, e.2]⟩
    · simp at h
theorem lineC_vals (r : List UInt8) : lineC r = 0 ∨ lineC r = 1 ∨ lineC r = 2 := by
  match r with
  | [] => simp [lineC]
  | [c] => simp only [lineC]; split <;> simp
  | c :: d :: t => simp only [lineC]; split <;> simp
theorem lineC_mono {r t : List UInt8} (h : lineC r ≠ 1) : lineC (r ++ t) = lineC r := by
  match r with
  | [] => simp [lineC] at h
  | [c] =>
    by_cases e : c = 13
    · simp [lineC, e] at h
    · cases t with
      | nil => simp
      | cons d t => simp [lineC, e]
  | c :: d :: u => simp [lineC]
theorem lenC_zero {r : List UInt8} (h : lenC r = 0) : 1 ≤ lenK r ∧ lenK r ≤ 4 ∧ ¬ lenBad r ∧ ∃ t, r.drop (lenK r) = 13 :: 10 :: t := by
  unfold lenC at h
  by_cases hb : lenBad r
  · rw [if_pos hb] at h; simp at h
  · rw [if_neg hb] at h
    by_cases h0 : lenK r = 0
    · rw [if_pos h0] at h; simp at h
    · rw [if_neg h0] at h
      refine ⟨by omega, ?_, hb, lineC_zero h⟩
      unfold lenBad at hb
      omega
theorem lenC_vals (r : List UInt8) : lenC r = 0 ∨ lenC r = 1 ∨ lenC r = 2 := by
  unfold lenC
  split
  · simp
  · split
    · simp
    · exact lineC_vals _
/-- A length, and a line's end behind it. -/
theorem len_head (n : Nat) (h : n < 65536) (rest : List UInt8) (hr : ∀ c r, rest = c :: r → c = 13) : lenK (hexL n ++ rest) = (hexL n).length ∧ lenN (hexL n ++ rest) = n ∧ lenC (hexL n ++ rest) = lineC rest := by
  obtain ⟨h1, h2, h3, h4, h5⟩ := hex_head n h
  have hk : lenK (hexL n ++ rest) = (hexL n).length := digN_pre _ _ 5 (by omega) h3 (.inr (fun c r e => by rw [hr c r e]; decide))
  refine ⟨hk, ?_, ?_⟩
  · unfold lenN; rw [hk, List.take_left]; exact h4
  · unfold lenC
    rw [if_neg, hk, if_neg (by omega), List.drop_left]
    unfold lenBad
    rw [hk]
    rintro (h | ⟨h, e⟩ | ⟨h, _⟩)
    · omega
    · cases hx : hexL n with
      | nil => rw [hx] at h1; simp at h1
      | cons c r =>
        rw [hx] at e h5 h
        simp at e
        exact h5 (by simpa using h) c (by simp) e
    · omega
theorem lenK_mono {r : List UInt8} (t : List UInt8) (h : lenC r = 0) : lenK (r ++ t) = lenK r ∧ lenN (r ++ t) = lenN r ∧ lenC (r ++ t) = 0 := by
  obtain ⟨h1, h2, hb, u, hu⟩ := lenC_zero h
  have hl := digN_le 5 r
  have e : r = r.take (lenK r) ++ 13 :: 10 :: u := by rw [← hu, List.take_append_drop]
  have hlen : (r.take (lenK r)).length = lenK r := by rw [List.length_take]; unfold lenK; omega
  have hk : lenK (r ++ t) = lenK r := by
    have : r ++ t = r.take (lenK r) ++ (13 :: 10 :: u ++ t) := by rw [← List.append_assoc, ← e]
    rw [this]
    have := digN_pre (r.take (lenK r)) (13 :: 10 :: u ++ t) 5 (by omega) (digN_hex 5 r) (.inr (fun c q e => by simp at e; rw [← e.1]; decide))
    show digN 5 _ = _
    rw [this, hlen]
  refine ⟨hk, ?_, ?_⟩
  · unfold lenN; rw [hk, List.take_append_of_le_length (by unfold lenK; omega)]
  · unfold lenC
    rw [if_neg, hk, if_neg (by omega), List.drop_append_of_le_length (by unfold lenK; omega), hu]
    · simp [lineC]
    · unfold lenBad at hb ⊢
      rw [hk]
      rintro (h | ⟨h, e⟩ | ⟨h, _⟩)
      · omega
      · refine hb (.inr (.inl ⟨h, ?_⟩))
        cases r with
        | nil => simp at hl; unfold lenK at h; omega
        | cons c q => simpa using e
      · omega
theorem lenC_mono {r : List UInt8} (t : List UInt8) (h : lenC r ≠ 1) : lenC (r ++ t) = lenC r := by
  rcases lenC_vals r with h0 | h1 | h2
  · rw [(lenK_mono t h0).2.2, h0]
  · exact absurd h1 h
  · have hl := digN_le 5 r
    have hl2 := digN_le 5 (r ++ t)
    have hh := digN_hex 5 r
    have hlen : (r.take (lenK r)).length = lenK r := by rw [List.length_take]; unfold lenK; omega
    rw [h2]
    by_cases hb : lenBad r
    · have hb2 : lenBad (r ++ t) := by
        have hge : lenK r ≤ lenK (r ++ t) := by
          have : ∀ (f : Nat) (a b : List UInt8), digN f a ≤ digN f (a ++ b) := by
            intro f
            induction f with
            | zero => intro a b; simp [digN]
            | succ f ih =>
              intro a b
              cases a with
              | nil => simp [digN]
              | cons c a =>
                simp only [List.cons_append, digN]
                split
                · have := ih a b; omega
                · simp
          exact this 5 r t
        rcases hb with h | ⟨h, e⟩ | ⟨h, e⟩
        · exact .inl (by omega)
        · refine .inr (.inl ⟨by omega, ?_⟩)
          cases r with
          | nil => simp at e
          | cons c q => simpa using e
        · cases r with
          | nil => exact absurd rfl e
          | cons c q =>
            have hc : ¬ HexB c := by
              intro hc
              unfold lenK at h
              simp [digN, hc] at h
            refine .inr (.inr ⟨?_, by simp⟩)
            simp [lenK, digN, hc]
      unfold lenC; rw [if_pos hb2]
    · unfold lenC at h2
      rw [if_neg hb] at h2
      by_cases h0 : lenK r = 0
      · rw [if_pos h0] at h2; simp at h2
      · rw [if_neg h0] at h2
        have hne : lineC (r.drop (lenK r)) ≠ 1 := by rw [h2]; simp
        have hk4 : lenK r ≤ 4 := by unfold lenBad at hb; omega
        -- a byte behind the digits that is no digit
        obtain ⟨c, q, hc, hnc⟩ : ∃ c q, r.drop (lenK r) = c :: q ∧ ¬ HexB c := by
          cases hd : r.drop (lenK r) with
          | nil => rw [hd] at h2; simp [lineC] at h2
          | cons c q =>
            refine ⟨c, q, rfl, fun hx => ?_⟩
            have e : r = (r.take (lenK r) ++ [c]) ++ q := by rw [List.append_assoc]; simp [← hd]
            have : ∀ (f : Nat) (l m : List UInt8), (∀ b ∈ l, HexB b) → l.length ≤ f → l.length ≤ digN f (l ++ m) := by
              intro f
              induction f with
              | zero => intro l m _ hl; simp at hl; simp [hl]
              | succ f ih =>
                intro l m hl hlf
                cases l with
                | nil => simp
                | cons x l =>
                  simp only [List.cons_append, digN, hl x (by simp), if_true, List.length_cons]
                  have := ih l m (fun b hb => hl b (by simp [hb])) (by simpa using hlf)
                  omega
            have h9 := this 5 (r.take (lenK r) ++ [c]) q (fun b hb => by
              simp only [List.mem_append, List.mem_singleton] at hb
              rcases hb with hb | rfl
              · exact hh b hb
              · exact hx) (by simp; omega)
            rw [← e] at h9
            simp [hlen] at h9
            unfold lenK at h9
            omega
        have hk : lenK (r ++ t) = lenK r := by
          have e : r ++ t = r.take (lenK r) ++ (c :: q ++ t) := by rw [← hc, ← List.append_assoc, List.take_append_drop]
          have h9 := digN_pre (r.take (lenK r)) (c :: q ++ t) 5 (by omega) hh (.inr (fun c' q' e' => by simp at e'; rw [← e'.1]; exact hnc))
          rw [← e, hlen] at h9
          exact h9
        unfold lenC
        rw [if_neg, hk, if_neg h0, List.drop_append_of_le_length (by unfold lenK; omega), lineC_mono hne, h2]
        unfold lenBad at hb ⊢
        rw [hk]
        rintro (h | ⟨h, e⟩ | ⟨h, _⟩)
        · omega
        · refine hb (.inr (.inl ⟨h, ?_⟩))
          cases r with
          | nil => simp at hc
          | cons x q => simpa using e
        · omega

end Go.Proofs.Ytckjbgpdbehmaaa

namespace Go.Proofs.Ytckjbgpdbehmaaa
open Go.RowKit

/-- What stands behind a length and its line's end; what stands behind the part's bytes. -/
def rdA (r : List UInt8) : List UInt8 := r.drop (lenK r + 2)
def rdB (r : List UInt8) : List UInt8 := (rdA r).drop (lenN r)
/-- What is told of a text from a place on; none: not told within so many parts. -/
def rdF : Nat → List UInt8 → List UInt8 → Nat → Option (List UInt8 × Nat × Int)
  | 0, _, _, _ => none
  | f + 1, r, body, pos =>
    if lenC r ≠ 0 then some ([], 0, lenC r)
    else if 120 < body.length + lenN r then some ([], 0, 3)
    else if (rdA r).length < lenN r then some ([], 0, 1)
    else if lineC (rdB r) ≠ 0 then some ([], 0, lineC (rdB r))
    else if lenN r = 0 then some (body, pos + lenK r + 4, 0)
    else rdF f ((rdB r).drop 2) (body ++ (rdA r).take (lenN r)) (pos + lenK r + lenN r + 4)
def Rd (r body : List UInt8) (pos : Nat) (x : List UInt8 × Nat × Int) : Prop := ∃ f, rdF f r body pos = some x
theorem Rd.len {r body : List UInt8} {pos : Nat} (h : lenC r ≠ 0) : Rd r body pos ([], 0, lenC r) := ⟨1, by unfold rdF; rw [if_pos h]⟩
theorem Rd.short {r body : List UInt8} {pos : Nat} (h1 : lenC r = 0) (h2 : ¬ 120 < body.length + lenN r) (h3 : (rdA r).length < lenN r) : Rd r body pos ([], 0, 1) := ⟨1, by unfold rdF; rw [if_neg (by simp [h1]), if_neg h2, if_pos h3]⟩
theorem Rd.line {r body : List UInt8} {pos : Nat} (h1 : lenC r = 0) (h2 : ¬ 120 < body.length + lenN r) (h3 : ¬ (rdA r).length < lenN r) (h4 : lineC (rdB r) ≠ 0) : Rd r body pos ([], 0, lineC (rdB r)) := ⟨1, by unfold rdF; rw [if_neg (by simp [h1]), if_neg h2, if_neg h3, if_pos h4]⟩
theorem Rd.part {r body : List UInt8} {pos : Nat} {x : List UInt8 × Nat × Int} (h1 : lenC r = 0) (h2 : ¬ 120 < body.length + lenN r) (h3 : ¬ (rdA r).length < lenN r) (h4 : lineC (rdB r) = 0) (h5 : lenN r ≠ 0) (h : Rd ((rdB r).drop 2) (body ++ (rdA r).take (lenN r)) (pos + lenK r + lenN r + 4) x) : Rd r body pos x := by
  obtain ⟨f, hf⟩ := h
  exact ⟨f + 1, by unfold rdF; rw [if_neg (by simp [h1]), if_neg h2, if_neg h3, if_neg (by simp [h4]), if_neg h5]; exact hf⟩

theorem rdA_len {r : List UInt8} (h : lenC r = 0) : lenK r + 2 ≤ r.length := by
  obtain ⟨_, _, _, t, ht⟩ := lenC_zero h
  have := congrArg List.length ht
  simp at this
  omega
/-- What is told of a text, but that there must be more, is told of it with whatever behind it. -/
theorem rdF_behind (t : List UInt8) : ∀ (f : Nat) (r body : List UInt8) (pos : Nat) (x : List UInt8 × Nat × Int), rdF f r body pos = some x → x.2.2 ≠ 1 → rdF f (r ++ t) body pos = some x := by
  intro f
  induction f with
  | zero => intro r body pos x h; simp [rdF] at h
  | succ f ih =>
    intro r body pos x h hx
    unfold rdF at h ⊢
    by_cases h1 : lenC r ≠ 0
    · rw [if_pos h1] at h
      have e := Option.some.inj h
      subst e
      have hx : lenC r ≠ 1 := hx
      rw [lenC_mono t hx, if_pos h1]
    · have h0 : lenC r = 0 := by simpa using h1
      obtain ⟨k1, k2, k3⟩ := lenK_mono t h0
      have hl := rdA_len h0
      have eA : rdA (r ++ t) = rdA r ++ t := by unfold rdA; rw [k1, List.drop_append_of_le_length hl]
      rw [if_neg h1] at h
      rw [if_neg (by simp [k3]), k1, k2, eA]
      by_cases h2 : 120 < body.length + lenN r
      · rw [if_pos h2] at h ⊢; exact h
      · rw [if_neg h2] at h ⊢
        by_cases h3 : (rdA r).length < lenN r
        · rw [if_pos h3] at h
          have e := Option.some.inj h
          subst e
          exact absurd rfl hx
        · rw [if_neg h3] at h
          have eB : rdB (r ++ t) = rdB r ++ t := by unfold rdB; rw [eA, k2, List.drop_append_of_le_length (by omega)]
          rw [if_neg (by simp; omega), eB]
          by_cases h4 : lineC (rdB r) ≠ 0
          · rw [if_pos h4] at h
            have e := Option.some.inj h
            subst e
            have hx : lineC (rdB r) ≠ 1 := hx
            rw [lineC_mono hx, if_pos h4]
          · have h40 : lineC (rdB r) = 0 := by simpa using h4
            have hne : lineC (rdB r) ≠ 1 := by rw [h40]; simp
            obtain ⟨u, hu⟩ := lineC_zero h40
            rw [if_neg h4] at h
            rw [lineC_mono hne, if_neg h4]
            by_cases h5 : lenN r = 0
            · rw [if_pos h5] at h ⊢; exact h
            · rw [if_neg h5] at h ⊢
              rw [List.drop_append_of_le_length (by rw [hu]; simp), List.take_append_of_le_length (by omega)]
              exact ih _ _ _ _ h hx
theorem Rd.behind {r body : List UInt8} {pos : Nat} {x : List UInt8 × Nat × Int} (h : Rd r body pos x) (hx : x.2.2 ≠ 1) (t : List UInt8) : Rd (r ++ t) body pos x := by
  obtain ⟨f, hf⟩ := h
  exact ⟨f, rdF_behind t f r body pos x hf hx⟩
/-- A body in parts. -/
def chunkL : List (List UInt8) → List UInt8
  | [] => [48, 13, 10, 13, 10]
  | p :: ps => hexL p.length ++ (13 :: 10 :: (p ++ (13 :: 10 :: chunkL ps)))
theorem part_head (p rest : List UInt8) (h : p.length < 65536) : lenC (hexL p.length ++ (13 :: 10 :: (p ++ rest))) = 0 ∧ lenK (hexL p.length ++ (13 :: 10 :: (p ++ rest))) = (hexL p.length).length ∧ lenN (hexL p.length ++ (13 :: 10 :: (p ++ rest))) = p.length ∧ rdA (hexL p.length ++ (13 :: 10 :: (p ++ rest))) = p ++ rest ∧ rdB (hexL p.length ++ (13 :: 10 :: (p ++ rest))) = rest := by
  obtain ⟨h1, h2, h3⟩ := len_head p.length h (13 :: 10 :: (p ++ rest)) (fun c r e => by simp at e; exact e.1.symm)
  have hA : rdA (hexL p.length ++ (13 :: 10 :: (p ++ rest))) = p ++ rest := by
    unfold rdA
    rw [h1, List.drop_append]
    simp
  refine ⟨by rw [h3]; simp [lineC], h1, h2, hA, ?_⟩
  unfold rdB
  rw [hA, h2, List.drop_left]
theorem end_head (rest : List UInt8) : lenC (48 :: 13 :: 10 :: rest) = 0 ∧ lenK (48 :: 13 :: 10 :: rest) = 1 ∧ lenN (48 :: 13 :: 10 :: rest) = 0 ∧ rdA (48 :: 13 :: 10 :: rest) = rest ∧ rdB (48 :: 13 :: 10 :: rest) = rest := by
  have := part_head [] rest (by simp)
  simpa [hexL] using this
/-- Cut short, a text of parts is not whole. -/
theorem Rd.cut : ∀ (ps : List (List UInt8)) (body : List UInt8) (pos k : Nat), (∀ p ∈ ps, p ≠ []) → body.length + ps.flatten.length ≤ 120 → k < (chunkL ps).length → Rd ((chunkL ps).take k) body pos ([], 0, 1) := by
  intro ps
  induction ps with
  | nil =>
    intro body pos k _ hb hk
    have hk5 : k < 5 := by simpa [chunkL] using hk
    have hb : body.length ≤ 120 := by simpa using hb
    rcases (show k = 0 ∨ k = 1 ∨ k = 2 ∨ k = 3 ∨ k = 4 by omega) with rfl | rfl | rfl | rfl | rfl
    · exact Rd.len (r := []) (by decide)
    · exact Rd.len (r := [48]) (by decide)
    · exact Rd.len (r := [48, 13]) (by decide)
    · obtain ⟨h1, h2, h3, h4, h5⟩ := end_head []
      have := Rd.line (body := body) (pos := pos) h1 (by rw [h3]; simpa using hb) (by rw [h3]; simp) (by rw [h5]; simp [lineC])
      rw [h5] at this
      exact this
    · obtain ⟨h1, h2, h3, h4, h5⟩ := end_head [13]
      have := Rd.line (body := body) (pos := pos) h1 (by rw [h3]; simpa using hb) (by rw [h3]; simp) (by rw [h5]; simp [lineC])
      rw [h5] at this
      exact this
  | cons p ps ih =>
    intro body pos k hp hb hk
    have hpl : 1 ≤ p.length := by
      have := hp p (by simp)
      cases p with
      | nil => exact absurd rfl this
      | cons c r => simp
    simp only [List.flatten_cons, List.length_append] at hb
    obtain ⟨g1, g2, g3, g4, g5⟩ := hex_head p.length (by omega)
    have hlen : (chunkL (p :: ps)).length = (hexL p.length).length + (p.length + (chunkL ps).length + 4) := by simp [chunkL]; omega
    by_cases c1 : k ≤ (hexL p.length).length
    · -- within the length, or at its end
      have e : (chunkL (p :: ps)).take k = (hexL p.length).take k := by
        simp only [chunkL]
        rw [List.take_append_of_le_length c1]
      rw [e]
      have hl : ((hexL p.length).take k).length = k := by rw [List.length_take]; omega
      have hK : lenK ((hexL p.length).take k) = k := by
        have := digN_pre ((hexL p.length).take k) [] 5 (by omega) (fun b hb => g3 b (List.mem_of_mem_take hb)) (.inr (fun c r e => by simp at e))
        rw [List.append_nil, hl] at this
        exact this
      have hC : lenC ((hexL p.length).take k) = 1 := by
        unfold lenC
        rw [if_neg]
        · by_cases k0 : k = 0
          · rw [if_pos (by rw [hK]; exact k0)]
          · rw [if_neg (by rw [hK]; exact k0), hK, List.drop_of_length_le (by omega)]; rfl
        · rintro (h | ⟨h, e⟩ | ⟨h, e⟩)
          · rw [hK] at h; omega
          · rw [hK] at h
            rw [List.head?_take, if_neg (by omega)] at e
            exact g5 (by omega) 48 e rfl
          · rw [hK] at h
            subst h
            simp at e
      have := Rd.len (r := (hexL p.length).take k) (body := body) (pos := pos) (by rw [hC]; simp)
      rw [hC] at this
      exact this
    · obtain ⟨j, rfl⟩ : ∃ j, k = (hexL p.length).length + 1 + j := ⟨k - (hexL p.length).length - 1, by omega⟩
      have e : (chunkL (p :: ps)).take ((hexL p.length).length + 1 + j) = hexL p.length ++ (13 :: (10 :: (p ++ (13 :: 10 :: chunkL ps))).take j) := by
        simp only [chunkL]
        rw [show (hexL p.length).length + 1 + j = (hexL p.length).length + (1 + j) by omega, List.take_length_add_append, Nat.add_comm 1 j, List.take_succ_cons]
      rw [e]
      cases j with
      | zero =>
        obtain ⟨h1, h2, h3⟩ := len_head p.length (by omega) [13] (fun c r e => by simp at e; exact e.1.symm)
        have := Rd.len (r := hexL p.length ++ [13]) (body := body) (pos := pos) (by rw [h3]; simp [lineC])
        rw [h3] at this
        simpa [lineC] using this
      | succ j =>
        rw [List.take_succ_cons]
        by_cases c2 : j < p.length
        · have e2 : (p ++ (13 :: 10 :: chunkL ps)).take j = p.take j := List.take_append_of_le_length (by omega)
          rw [e2]
          obtain ⟨h1, h2, h3⟩ := len_head p.length (by omega) (13 :: 10 :: p.take j) (fun c r e => by simp at e; exact e.1.symm)
          have hC : lenC (hexL p.length ++ (13 :: 10 :: p.take j)) = 0 := by rw [h3]; simp [lineC]
          refine Rd.short hC (by rw [h2]; omega) ?_
          unfold rdA
          rw [h1, h2, List.drop_append]
          simp
          omega
        · obtain ⟨i, rfl⟩ : ∃ i, j = p.length + i := ⟨j - p.length, by omega⟩
          have e2 : (p ++ (13 :: 10 :: chunkL ps)).take (p.length + i) = p ++ (13 :: 10 :: chunkL ps).take i := List.take_length_add_append _
          rw [e2]
          obtain ⟨h1, h2, h3, h4, h5⟩ := part_head p ((13 :: 10 :: chunkL ps).take i) (by omega)
          match i with
          | 0 =>
            have := Rd.line (body := body) (pos := pos) h1 (by rw [h3]; omega) (by rw [h3, h4]; simp) (by rw [h5]; simp [lineC])
            rw [h5] at this
            exact this
          | 1 =>
            have := Rd.line (body := body) (pos := pos) h1 (by rw [h3]; omega) (by rw [h3, h4]; simp) (by rw [h5]; simp [lineC])
            rw [h5] at this
            exact this
          | i + 2 =>
            refine Rd.part h1 (by rw [h3]; omega) (by rw [h3, h4]; simp) (by rw [h5]; simp [lineC]) (by rw [h3]; omega) ?_
            rw [h2, h3, h4, h5, List.take_left]
            have k := ih (body ++ p) (pos + (hexL p.length).length + p.length + 4) i (fun x hx => hp x (by simp [hx])) (by rw [List.length_append]; omega) (by omega)
            simpa using k

end Go.Proofs.Ytckjbgpdbehmaaa

namespace Go.Proofs.Ytckjbgpdbehmaaa
open Go.RowKit
open Go.Lib hiding intOf

/-- A list of ints that a function reads. -/
def IntsV (w : World) (oa : Option Addr) (n : Nat) (zs : List Int) : Prop := zs.length = n ∧ ∀ i, i < n → ∃ g, oa = some ⟨g, 0, none⟩ ∧ g < w.heap.size ∧ w.cell? ⟨g, i, none⟩ = some (.int .i64 (zs.getD i 0))
theorem IntsV.below {w w' : World} {oa : Option Addr} {n : Nat} {zs : List Int} (h : IntsV w oa n zs) (hb : Below w.heap.size w w') : IntsV w' oa n zs :=
  ⟨h.1, fun i hi => by
    obtain ⟨g, e, hg, hc⟩ := h.2 i hi
    exact ⟨g, e, Nat.lt_of_lt_of_le hg hb.size, by rw [hb.cell (p := ⟨g, i, none⟩) hg]; exact hc⟩⟩

end Go.Proofs.Ytckjbgpdbehmaaa
