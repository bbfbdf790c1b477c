/- What the proof of FnExactRecText leans on: contracts of the program's and the specification's functions, and plain facts (part 1 of 1). -/
import Derived.Test.YtalicfiadbmdeaaDoorCards
import Derived.Test.YtalicfiadbmdeaaDoorProg
import Derived.Test.YtalicfiadbmdeaaDoorRows
import Derived.Test.YtalicfiadbmdeaaDoorTie
import Derived.Below
import Derived.BigQuiet
import Derived.ChangeOld
import Derived.Deep.CutRange
import Derived.Deep.DeepCutAuto
import Derived.Deep.DeepHandedRow
import Derived.Deep.DrawnRows
import Derived.Deep.QuietTactic
import Derived.Deep.RegionHeld3
import Derived.Deep.RegionLaw
import Derived.Deep.RegionWith
import Derived.Deep.SlicePairs
import Derived.Laws.AppendOwnNone
import Derived.Laws.BitsAllLaws
import Derived.Laws.BytesArg
import Derived.Laws.EntriesVeiled
import Derived.Laws.MakeOwn
import Derived.Laws.RangeAny
import Derived.Lib.AppendIntMem
import Derived.Lib.BufferOwn
import Derived.Lib.ConvBytes
import Derived.Lib.CutLaws
import Derived.Lib.ItoaNum
import Derived.Lib.LaidTab
import Derived.Lib.Strings
import Derived.Lib.Walk
import Derived.OpenShut
import Derived.ProofKit
import Derived.Shelf.LaysM
import Derived.Shelf.Strconv.Clone
import Derived.Shelf.Strconv.Itoa0
import Derived.Shelf.Strconv.Itoa1
import Derived.Shelf.Strconv.Itoa2
import Derived.Shelf.Strconv.Itoa3
import Derived.Shelf.Strings.Cut
import Derived.Shelf.Strings.Search1
import Derived.Shelf.Strings.Search2
import Derived.Shelf.Strings.Shaped
import Derived.ShutString
import Derived.SliceStrings
import Derived.WalkKit
import Derived.WalkLawsBesides
import Derived.WalkSpells
namespace Go.Proofs
open Go.Shelf
def Tryd.laysM171_ren : Go.Shelf.Ren := ⟨fun | 171 => 36 | 243 => 46 | 246 => 53 | 283 => 56 | 284 => 57 | 285 => 58 | 286 => 59 | 129 => 69 | 317 => 68 | 318 => 70 | 319 => 71 | 320 => 72 | 337 => 77 | 338 => 78 | n => n, fun | 3 => 3 | 9 => 9 | 2 => 2 | 4 => 4 | 171 => 108 | 0 => 0 | 53 => 109 | 37 => 22 | 5 => 5 | 173 => 112 | 212 => 116 | 51 => 117 | 20 => 20 | 213 => 118 | 46 => 82 | 232 => 125 | 233 => 126 | n => n, fun | 17 => 1 | 18 => 3 | 19 => 4 | n => n⟩
theorem Tryd.laysM171 : Go.Proofs.LaysM.n171 Tryd.prog Tryd.laysM171_ren := {
  mixed := by kernel_rfl
  f129 := Tryd.func69.trans (congrArg some (by kernel_rfl))
  f171 := Tryd.func36.trans (congrArg some (by kernel_rfl))
  f243 := Tryd.func46.trans (congrArg some (by kernel_rfl))
  f246 := Tryd.func53.trans (congrArg some (by kernel_rfl))
  f283 := Tryd.func56.trans (congrArg some (by kernel_rfl))
  f284 := Tryd.func57.trans (congrArg some (by kernel_rfl))
  f285 := Tryd.func58.trans (congrArg some (by kernel_rfl))
  f286 := Tryd.func59.trans (congrArg some (by kernel_rfl))
  f317 := Tryd.func68.trans (congrArg some (by kernel_rfl))
  f318 := Tryd.func70.trans (congrArg some (by kernel_rfl))
  f319 := Tryd.func71.trans (congrArg some (by kernel_rfl))
  f320 := Tryd.func72.trans (congrArg some (by kernel_rfl))
  f337 := Tryd.func77.trans (congrArg some (by kernel_rfl))
  f338 := Tryd.func78.trans (congrArg some (by kernel_rfl))
  t0 := Tryd.underlying0
  a0 := Tryd.isAgg0
  z0 := Tryd.sizeOf0
  v0 := Tryd.zeroValue0
  t2 := Tryd.underlying2
  a2 := Tryd.isAgg2
  z2 := Tryd.sizeOf2
  v2 := Tryd.zeroValue2
  t3 := Tryd.underlying3
  a3 := Tryd.isAgg3
  z3 := Tryd.sizeOf3
  v3 := Tryd.zeroValue3
  t4 := Tryd.underlying4
  a4 := Tryd.isAgg4
  z4 := Tryd.sizeOf4
  v4 := Tryd.zeroValue4
  t5 := Tryd.underlying5
  a5 := Tryd.isAgg5
  z5 := Tryd.sizeOf5
  v5 := Tryd.zeroValue5
  t9 := Tryd.underlying9
  a9 := Tryd.isAgg9
  z9 := Tryd.sizeOf9
  v9 := Tryd.zeroValue9
  t20 := Tryd.underlying20
  a20 := Tryd.isAgg20
  z20 := Tryd.sizeOf20
  v20 := Tryd.zeroValue20
  t37 := Tryd.underlying22
  a37 := Tryd.isAgg22
  z37 := Tryd.sizeOf22
  v37 := Tryd.zeroValue22
  t46 := Tryd.underlying82
  a46 := Tryd.isAgg82
  z46 := Tryd.sizeOf82
  v46 := Tryd.zeroValue82
  t51 := Tryd.underlying117
  a51 := Tryd.isAgg117
  z51 := Tryd.sizeOf117
  v51 := Tryd.zeroValue117
  t53 := Tryd.underlying109
  a53 := Tryd.isAgg109
  z53 := Tryd.sizeOf109
  v53 := Tryd.zeroValue109
  t171 := Tryd.underlying108
  a171 := Tryd.isAgg108
  z171 := Tryd.sizeOf108
  v171 := Tryd.zeroValue108
  t173 := Tryd.underlying112
  a173 := Tryd.isAgg112
  z173 := Tryd.sizeOf112
  v173 := Tryd.zeroValue112
  t212 := Tryd.underlying116
  a212 := Tryd.isAgg116
  z212 := Tryd.sizeOf116
  v212 := Tryd.zeroValue116
  t213 := Tryd.underlying118
  a213 := Tryd.isAgg118
  z213 := Tryd.sizeOf118
  t232 := Tryd.underlying125
  a232 := Tryd.isAgg125
  z232 := Tryd.sizeOf125
  v232 := Tryd.zeroValue125
  t233 := Tryd.underlying126
  a233 := Tryd.isAgg126
  z233 := Tryd.sizeOf126
  v233 := Tryd.zeroValue126
  g17 := by kernel_rfl
  g18 := by kernel_rfl
  g19 := by kernel_rfl
  i0 := by kernel_rfl
  i2 := by kernel_rfl
  i3 := by kernel_rfl
  i4 := by kernel_rfl
  i5 := by kernel_rfl
  i9 := by kernel_rfl
  i20 := by kernel_rfl
  i37 := by kernel_rfl
  i46 := by kernel_rfl
  i51 := by kernel_rfl
  i53 := by kernel_rfl
  i171 := by kernel_rfl
  i173 := by kernel_rfl
  i212 := by kernel_rfl
  i232 := by kernel_rfl
  i233 := by kernel_rfl
  m17 := by kernel_rfl
  m18 := by kernel_rfl
  m19 := by kernel_rfl }
open Go.RowKit Go.Sort Go.Lib in
theorem Tryd.strconv_Itoa (n : Int) (h0 : -9223372036854775808 ≤ n) (h1 : n ≤ 9223372036854775807) (w : World) (htab : Lib.TabIs Tryd.prog w "internal/strconv.uint64pow10" .u64 Lib.pow10Tab) :
    Calls Tryd.prog 36 #[.int .i64 n] w fun e w' => e = .returned (.string ⟨(Lib.itoa n).toArray⟩) ∧ ∃ k os, w' = grow (w.drewN k) os := Any.strconv_Itoa Tryd.laysM171 n h0 h1 w htab
end Go.Proofs

namespace Go.Proofs.YtalicfiadbmdeaaDoor

theorem byte_get (s : ByteArray) (j : Nat) (h : j < s.size) : s.data.toList[j]? = some (s[j]'h) := by
  rw [List.getElem?_eq_getElem (by simpa using h)]
  rfl

end Go.Proofs.YtalicfiadbmdeaaDoor

namespace Go.Proofs.YtalicfiadbmdeaaDoor
open Go.RowKit
open Go.Lib hiding intOf

/-- A call answers this text, and turns nothing that was there. -/
def TextIs (t : ByteArray) (w : World) (e : Ending) (w' : World) : Prop := e = .returned (.string t) ∧ Below w.heap.size w w'
theorem TextIs.of {t u : ByteArray} {w w' : World} (h : u = t) (hb : Below w.heap.size w w') : TextIs t w (.returned (.string u)) w' := ⟨by rw [h], hb⟩

end Go.Proofs.YtalicfiadbmdeaaDoor

namespace Go.Proofs.YtalicfiadbmdeaaDoor

/-- The digits of a number that is not 0; none of 0. -/
def dgF : Nat → Nat → List UInt8
  | 0, _ => []
  | f + 1, n => if n = 0 then [] else dgF f (n / 10) ++ [UInt8.ofNat (48 + n % 10)]
theorem dgF_zero (f : Nat) : dgF f 0 = [] := by cases f <;> simp [dgF]
theorem dgF_pos (f n : Nat) (h : n ≠ 0) : dgF (f + 1) n = dgF f (n / 10) ++ [UInt8.ofNat (48 + n % 10)] := by simp [dgF, h]

/-- The text of a number from 0 to 1000000; the empty text of others. -/
def numL (n : Nat) : List UInt8 := if 1000000 < n then [] else if n = 0 then [48] else dgF 8 n
def numText (n : Nat) : ByteArray := ⟨(numL n).toArray⟩

end Go.Proofs.YtalicfiadbmdeaaDoor

namespace Go.Proofs.YtalicfiadbmdeaaDoor
open Go.RowKit
open Go.Lib hiding intOf

theorem conv_one (W : World) (d : Int) : (convert 22 9 (.slice (some ⟨W.heap.size, 0, none⟩) 1 1)).run Tryd.prog (W.alloc (.cells #[.int .u8 d] 5)) = .ok (.string (strOfNums [d])) (W.alloc (.cells #[.int .u8 d] 5)) :=
  run_convert_bytes_arg (P := Tryd.prog) (W.alloc (.cells #[.int .u8 d] 5)) 22 5 Tryd.underlying22 Tryd.underlying5 W.heap.size 0 1 1 [d] rfl (fun i hi => by
    have : i = 0 := by omega
    subst this
    simp) 9 Tryd.underlying9

end Go.Proofs.YtalicfiadbmdeaaDoor

namespace Go.Proofs.YtalicfiadbmdeaaDoor
open Go.RowKit

def bs (s : ByteArray) : List UInt8 := s.data.toList
theorem bs_inj {a b : ByteArray} (h : bs a = bs b) : a = b := by
  apply ByteArray.ext
  exact Array.toList_inj.1 h
theorem bs_len (a : ByteArray) : (bs a).length = a.size := by simp [bs]
end Go.Proofs.YtalicfiadbmdeaaDoor

namespace Go.Proofs.YtalicfiadbmdeaaDoor
open Go.RowKit
open Go.Lib hiding intOf

/-- A number in decimal digits. -/
def decT (n : Nat) : ByteArray := ⟨(Lib.decDigits n).toArray⟩
theorem bs_decT (n : Nat) : bs (decT n) = Lib.decDigits n := by simp [bs, decT]
/-- The two sums behind a text. -/
def sumL (p : Nat × Nat) : List UInt8 → Nat × Nat
  | [] => p
  | x :: r => sumL ((p.1 + x.toNat) % 65521, (p.2 + (p.1 + x.toNat) % 65521) % 65521) r
def sumP (s : ByteArray) : Nat := 65521 * (sumL (1, 0) (bs s)).2 + (sumL (1, 0) (bs s)).1
theorem sumL_snoc (x : UInt8) : ∀ (l : List UInt8) (p : Nat × Nat), sumL p (l ++ [x]) = (((sumL p l).1 + x.toNat) % 65521, ((sumL p l).2 + ((sumL p l).1 + x.toNat) % 65521) % 65521)
  | [], _ => rfl
  | y :: l, p => by
    rw [List.cons_append, sumL, sumL_snoc x l, sumL]
theorem sumL_lt : ∀ (l : List UInt8) (p : Nat × Nat), p.1 < 65521 → p.2 < 65521 → (sumL p l).1 < 65521 ∧ (sumL p l).2 < 65521
  | [], _, h1, h2 => ⟨h1, h2⟩
  | y :: l, p, _, _ => by
    rw [sumL]
    exact sumL_lt l _ (Nat.mod_lt _ (by decide)) (Nat.mod_lt _ (by decide))
theorem sumP_le (s : ByteArray) : sumP s ≤ 4293001440 := by
  have h := sumL_lt (bs s) (1, 0) (by decide) (by decide)
  unfold sumP
  omega
/-- What a record's sum is of. -/
def recR (seq : Nat) (b : ByteArray) : ByteArray := decT seq ++ ⟨#[32]⟩ ++ decT b.size ++ ⟨#[10]⟩ ++ b
def recT (seq : Nat) (b : ByteArray) : ByteArray := decT (sumP (recR seq b)) ++ ⟨#[32]⟩ ++ recR seq b
def RecP (seq : Int) (b : ByteArray) : Prop := 1 ≤ seq ∧ seq ≤ 100000 ∧ b.size ≤ 2000
/-- A record's text, or nothing. -/
def recI (seq : Int) (b : ByteArray) : ByteArray := if 1 ≤ seq ∧ seq ≤ 100000 ∧ b.size ≤ 2000 then recT seq.toNat b else ⟨#[]⟩
theorem recI_yes {seq : Int} {b : ByteArray} (h : RecP seq b) : recI seq b = recT seq.toNat b := if_pos h
theorem recI_no {seq : Int} {b : ByteArray} (h : ¬ RecP seq b) : recI seq b = ⟨#[]⟩ := if_neg h
end Go.Proofs.YtalicfiadbmdeaaDoor

namespace Go.Proofs.YtalicfiadbmdeaaDoor
open Go.RowKit
open Go.Lib hiding intOf

set_option maxHeartbeats 400000 in
theorem l1In_any (x lo hi : Int) (w : World) :
    Calls Tryd.prog 23 #[.int .i64 x, .int .i64 lo, .int .i64 hi] w fun e w' => e = .returned (.bool (decide (lo ≤ x ∧ x ≤ hi))) ∧ w' = w := by
  by_cases h1 : lo ≤ x
  · by_cases h2 : x ≤ hi
    · go_enter Tryd.func23, Tryd.ntmps23
      go_wp2
      go_ret
      exact ⟨by simp [h1, h2], rfl⟩
    · go_enter Tryd.func23, Tryd.ntmps23
      go_wp2
      go_ret
      exact ⟨by simp [h2], rfl⟩
  · go_enter Tryd.func23, Tryd.ntmps23
    go_wp2
    go_ret
    exact ⟨by simp; omega, rfl⟩

end Go.Proofs.YtalicfiadbmdeaaDoor

namespace Go.Proofs.YtalicfiadbmdeaaDoor
open Go.RowKit
open Go.Lib hiding intOf

/-- A call answers a number and turns nothing. -/
def NatIs (n : Nat) (w : World) (e : Ending) (w' : World) : Prop := e = .returned (.int .i64 (n : Int)) ∧ w' = w
theorem bsAt {s : ByteArray} {j : Nat} (h : j < s.size) : (bs s)[j]? = some (s[j]'h) := by
  unfold bs
  exact byte_get s j h
set_option maxHeartbeats 2000000 in
theorem specSum_any (s : ByteArray) (w : World) (hs : s.size ≤ maxLen) :
    Calls Tryd.prog 16 #[.string s] w fun e w' => NatIs (sumP s) w e w' := by
  unfold maxLen at hs
  go_enter Tryd.func16, Tryd.ntmps16
  go_wp2
  go_loopw [3, 4, 5] (fun a b i wr => ∃ (k A B : Nat), k ≤ s.size ∧ i = .int .i64 (k : Int) ∧ a = .int .i64 (A : Int) ∧ b = .int .i64 (B : Int) ∧ A < 65521 ∧ B < 65521 ∧ wr = w ∧ Hid ((A, B) = sumL (1, 0) ((bs s).take k))) (fun _ _ i _ => s.size - (intOf i).toNat)
  case atStart => exact ⟨0, 1, 0, Nat.zero_le _, rfl, rfl, rfl, by omega, by omega, rfl, rfl⟩
  case round =>
    obtain ⟨k, A, B, hk, rfl, rfl, rfl, hA, hB, rfl, HS⟩ := hrel
    by_cases hlt : (k : Int) < (s.size : Int)
    · have hk2 : k < s.size := by omega
      have hx : (s[k]'hk2).toNat < 256 := (s[k]'hk2).toNat_lt
      have HSX : Hid ((bs s).take (k + 1) = (bs s).take k ++ [s[k]'hk2]) := by
        rw [Hid, List.take_add_one, bsAt hk2]
        rfl
      go_wp2
      go_roundw
      case rel =>
        refine ⟨k + 1, (A + (s[k]'hk2).toNat) % 65521, (B + (A + (s[k]'hk2).toNat) % 65521) % 65521, by omega, by simp, ?_, ?_, Nat.mod_lt _ (by decide), Nat.mod_lt _ (by decide), trivial, ?_⟩
        · congr 1
        · congr 1
        · rw [Hid, HSX.out, sumL_snoc, ← HS.out]
      case measure => simp [intOf]; omega
    · have HE : Hid ((A, B) = sumL (1, 0) (bs s)) := by
        have h := HS.out
        rw [List.take_of_length_le (by rw [bs_len]; omega)] at h
        exact h
      go_wp2
      go_ret
      refine ⟨?_, rfl⟩
      have h := HE.out
      unfold sumP
      rw [← h]
      simp

/-- The digits of a number, none of nothing. -/
def dgZ (m : Nat) : List UInt8 := if m = 0 then [] else Lib.decDigits m
theorem dgZ_pos (m : Nat) (h : m ≠ 0) : dgZ m = dgZ (m / 10) ++ [UInt8.ofNat (48 + m % 10)] := by
  unfold dgZ
  rw [if_neg h, Lib.decDigits]
  split
  · rename_i h2
    rw [if_pos (show m / 10 = 0 by omega), Nat.mod_eq_of_lt h2]
    rfl
  · rename_i h2
    rw [if_neg (show ¬ m / 10 = 0 by omega)]
set_option maxHeartbeats 2000000 in
theorem l13Digits_any (n : Nat) (w : World) (hn : n ≤ 4293001440) :
    Calls Tryd.prog 24 #[.int .i64 (n : Int)] w fun e w' => TextIs (decT n) w e w' := by
  by_cases h0 : n = 0
  · subst h0
    have HD : Hid (decT 0 = ⟨#[48]⟩) := by unfold decT; rw [Lib.decDigits_one (by decide)]; rfl
    go_enter Tryd.func24, Tryd.ntmps24
    go_wp2
    go_ret
    exact TextIs.of HD.out.symm (Below.refl _ _)
  · have hne : ((n : Int) == 0) = false := by rw [beq_eq_false_iff_ne]; omega
    have hcv := conv_one
    go_enter Tryd.func24, Tryd.ntmps24
    go_wp2
    go_loopw [0, 3] (fun a b wr => ∃ (f m : Nat) (out : ByteArray), a = .int .i64 (m : Int) ∧ b = .string out ∧ m ≤ 4293001440 ∧ f ≤ 10 ∧ out.size ≤ 10 - f ∧ Below w.heap.size w wr ∧ Hid (m < 10 ^ f ∧ dgZ m ++ out.data.toList = Lib.decDigits n)) (fun a _ _ => (intOf a).toNat)
    case atStart => exact ⟨10, n, _, rfl, rfl, hn, Nat.le_refl _, Nat.le_refl _, Below.refl _ _, ⟨by omega, by simp [dgZ, h0]⟩⟩
    case round =>
      obtain ⟨f, m, out, rfl, rfl, hm, hf8, hsz, hbw, hd⟩ := hrel
      by_cases hp : (0 : Int) < (m : Int)
      · have hone : ∀ d : Int, (strOfNums [d]).size = 1 := fun d => strOfNums_size [d]
        go_wp2
        go_roundw
        case rel =>
          obtain ⟨hf, hdg⟩ := hd.out
          cases f with
          | zero => simp at hf; omega
          | succ f =>
            rw [Nat.pow_succ] at hf
            refine ⟨f, m / 10, strOfNums [48 + (m : Int) % 10] ++ out, by simp, rfl, by omega, by omega, ?_, hbw.alloc hbw.size _, by omega, ?_⟩
            · rw [ByteArray.size_append, hone]; omega
            · have e : (strOfNums [48 + (m : Int) % 10]).data.toList = [UInt8.ofNat (48 + m % 10)] := by
                rw [strOfNums_data]
                have : (48 + (m : Int) % 10).toNat = 48 + m % 10 := by omega
                simp only [List.map_cons, List.map_nil, this]
              rw [dgZ_pos m (by omega), List.append_assoc] at hdg
              rw [← hdg, ByteArray.data_append, Array.toList_append, e]
        case measure => simp [intOf]; omega
      · have hT : Hid (out = decT n) := by
          obtain ⟨_, h⟩ := hd.out
          have e : m = 0 := by omega
          rw [e] at h
          exact bs_inj (by rw [bs_decT]; exact h)
        go_wp2
        go_ret
        exact TextIs.of hT.out hbw

theorem dec_len (n : Nat) (h : n ≤ 4293001440) : (decT n).size ≤ 10 := by
  have e : (decT n).size = (Lib.decDigits n).length := by rw [← bs_len, bs_decT]
  rw [e]
  have key : ∀ (f m : Nat), m < 10 ^ (f + 1) → (Lib.decDigits m).length ≤ f + 1 := by
    intro f
    induction f with
    | zero => intro m hm; rw [Lib.decDigits_one (by simpa using hm)]; exact Nat.le_refl _
    | succ f ih =>
      intro m hm
      rw [Lib.decDigits]
      split
      · simp
      · rw [List.length_append]
        have := ih (m / 10) (by rw [Nat.pow_succ] at hm; omega)
        simp only [List.length_cons, List.length_nil]
        omega
  exact key 9 n (by omega)
theorem recR_size (seq : Nat) (b : ByteArray) (h1 : seq ≤ 100000) (h2 : b.size ≤ 2000) : (recR seq b).size ≤ 3000 := by
  unfold recR
  rw [ByteArray.size_append, ByteArray.size_append, ByteArray.size_append, ByteArray.size_append]
  have e1 := dec_len seq (by omega)
  have e2 := dec_len b.size (by omega)
  have e3 : (⟨#[32]⟩ : ByteArray).size = 1 := rfl
  have e4 : (⟨#[10]⟩ : ByteArray).size = 1 := rfl
  omega
set_option maxHeartbeats 4000000 in
theorem specRecText_any (seq : Int) (b : ByteArray) (w : World) (hb : b.size ≤ 4000000) :
    Calls Tryd.prog 9 #[.int .i64 seq, .string b] w fun e w' => TextIs (recI seq b) w e w' := by
  by_cases h1 : 1 ≤ seq ∧ seq ≤ 100000
  · by_cases h2 : b.size ≤ 2000
    · obtain ⟨q, rfl⟩ : ∃ q : Nat, seq = (q : Int) := ⟨seq.toNat, by omega⟩
      have hq : q ≤ 100000 := by omega
      have h3 : ¬ (2000 : Int) < (b.size : Int) := by omega
      have hin : decide ((1 : Int) ≤ (q : Int) ∧ (q : Int) ≤ 100000) = true := decide_eq_true h1
      have HR : Hid (recI (q : Int) b = recT q b) := recI_yes ⟨h1.1, h1.2, h2⟩
      have HRS : Hid ((recR q b).size ≤ 3000) := recR_size q b hq h2
      clear h1
      go_enter Tryd.func9, Tryd.ntmps9
      go_wp2_with fail
      refine (l1In_any _ _ _ _).mono ?_
      rintro e w1 ⟨rfl, rfl⟩
      rw [hin]
      clear hin
      go_wp2_with fail
      refine (l13Digits_any q _ (by omega)).mono ?_
      rintro e w2 ⟨rfl, b2⟩
      have HB2 : Hid (Below w1.heap.size w1 w2) := b2
      have hz1 := dec_len q (by omega)
      have hz2 := dec_len b.size (by omega)
      clear b2
      go_wp2_with fail
      refine (l13Digits_any b.size _ (by omega)).mono ?_
      rintro e w3 ⟨rfl, b3⟩
      have HB3 : Hid (Below w1.heap.size w1 w3) := HB2.out.trans (b3.mono HB2.out.size)
      clear b3 HB2
      go_wp2_with fail
      obtain ⟨R, hR⟩ : ∃ R, R = decT q ++ ⟨#[32]⟩ ++ decT b.size ++ ⟨#[10]⟩ ++ b := ⟨_, rfl⟩
      rw [← hR]
      have HRE : Hid (R = recR q b) := hR
      have hRz : R.size ≤ 3000 := by rw [HRE.out]; exact HRS.out
      clear hR
      refine (specSum_any R _ (by unfold maxLen; omega)).mono ?_
      rintro e w4 ⟨rfl, hw4⟩
      rw [hw4]
      clear hw4 w4
      have hz3 := dec_len (sumP R) (sumP_le R)
      go_wp2_with fail
      refine (l13Digits_any (sumP R) _ (sumP_le R)).mono ?_
      rintro e w4 ⟨rfl, b4⟩
      have HB4 : Hid (Below w1.heap.size w1 w4) := HB3.out.trans (b4.mono HB3.out.size)
      clear b4 HB3
      go_wp2_with fail
      go_ret
      exact TextIs.of (by rw [HR.out, recT, ← HRE.out]) HB4.out
    · have h3 : (2000 : Int) < (b.size : Int) := by omega
      have hin : decide ((1 : Int) ≤ seq ∧ seq ≤ 100000) = true := decide_eq_true h1
      have HR : Hid (recI seq b = ⟨#[]⟩) := recI_no (fun h => h2 h.2.2)
      clear h1
      go_enter Tryd.func9, Tryd.ntmps9
      go_wp2_with fail
      refine (l1In_any _ _ _ _).mono ?_
      rintro e w1 ⟨rfl, rfl⟩
      rw [hin]
      clear hin
      go_wp2_with fail
      go_ret
      exact TextIs.of HR.out.symm (Below.refl _ _)
  · have hin : decide ((1 : Int) ≤ seq ∧ seq ≤ 100000) = false := decide_eq_false h1
    have HR : Hid (recI seq b = ⟨#[]⟩) := recI_no (fun h => h1 ⟨h.1, h.2.1⟩)
    clear h1
    go_enter Tryd.func9, Tryd.ntmps9
    go_wp2_with fail
    refine (l1In_any _ _ _ _).mono ?_
    rintro e w1 ⟨rfl, rfl⟩
    rw [hin]
    clear hin
    go_wp2_with fail
    go_ret
    exact TextIs.of HR.out.symm (Below.refl _ _)

end Go.Proofs.YtalicfiadbmdeaaDoor

namespace Go.Proofs.YtalicfiadbmdeaaDoor
open Go.RowKit
open Go.Lib hiding intOf

/-- A call answers a number, and what was there stays. -/
def NatB (n : Nat) (w : World) (e : Ending) (w' : World) : Prop := e = .returned (.int .i64 (n : Int)) ∧ Below w.heap.size w w'
set_option maxHeartbeats 2000000 in
theorem implSum_any (s : ByteArray) (w : World) (hs : s.size ≤ maxLen) :
    Calls Tryd.prog 15 #[.string s] w fun e w' => NatB (sumP s) w e w' := by
  unfold maxLen at hs
  go_enter Tryd.func15, Tryd.ntmps15
  go_wp2
  go_loopw [3, 4, 8] (fun a b i wr => ∃ (k A B : Nat), k ≤ s.size ∧ i = .int .i64 (k : Int) ∧ a = .int .i64 (A : Int) ∧ b = .int .i64 (B : Int) ∧ A < 65521 ∧ B < 65521 ∧ wr = w ∧ Hid ((A, B) = sumL (1, 0) ((bs s).take k))) (fun _ _ i _ => s.size - (intOf i).toNat)
  case atStart => exact ⟨0, 1, 0, Nat.zero_le _, rfl, rfl, rfl, by omega, by omega, rfl, rfl⟩
  case round =>
    obtain ⟨k, A, B, hk, rfl, rfl, rfl, hA, hB, rfl, HS⟩ := hrel
    by_cases hlt : (k : Int) < (s.size : Int)
    · have hk2 : k < s.size := by omega
      have hx : (s[k]'hk2).toNat < 256 := (s[k]'hk2).toNat_lt
      have HSX : Hid ((bs s).take (k + 1) = (bs s).take k ++ [s[k]'hk2]) := by
        rw [Hid, List.take_add_one, bsAt hk2]
        rfl
      go_wp2
      go_roundw
      case rel =>
        refine ⟨k + 1, (A + (s[k]'hk2).toNat) % 65521, (B + (A + (s[k]'hk2).toNat) % 65521) % 65521, by omega, by simp, ?_, ?_, Nat.mod_lt _ (by decide), Nat.mod_lt _ (by decide), trivial, ?_⟩
        · congr 1
        · congr 1
        · rw [Hid, HSX.out, sumL_snoc, ← HS.out]
      case measure => simp [intOf]; omega
    · have HE : Hid ((A, B) = sumL (1, 0) (bs s)) := by
        have h := HS.out
        rw [List.take_of_length_le (by rw [bs_len]; omega)] at h
        exact h
      go_wp2
      go_ret
      refine ⟨?_, Below.refl _ _⟩
      have h := HE.out
      unfold sumP
      rw [← h]
      simp

end Go.Proofs.YtalicfiadbmdeaaDoor

namespace Go.Proofs.YtalicfiadbmdeaaDoor
open Go.RowKit
open Go.Lib hiding intOf

/-- The text of whatever int: that of a number from 0 to 1000000, else the empty one. -/
def numTextI (n : Int) : ByteArray := if n < 0 then ⟨#[]⟩ else numText n.toNat

theorem decDigits_zero : Lib.decDigits 0 = [48] := by rw [Lib.decDigits, dif_pos (by omega)]; rfl
theorem dg_dec : ∀ (f n : Nat), n < 10 ^ f → n ≠ 0 → dgF f n = Lib.decDigits n := by
  intro f
  induction f with
  | zero => intro n h h0; simp at h; omega
  | succ f ih =>
    intro n h h0
    rw [dgF_pos f n h0]
    rw [Nat.pow_succ] at h
    by_cases hs : n < 10
    · rw [Lib.decDigits, dif_pos hs]
      have e1 : n / 10 = 0 := by omega
      have e2 : n % 10 = n := by omega
      rw [e1, dgF_zero, e2]; rfl
    · rw [Lib.decDigits, dif_neg hs, ih (n / 10) (by omega) (by omega)]
theorem itoa_num (n : Int) (h0 : 0 ≤ n) (h1 : n ≤ 1000000) : (⟨(Lib.itoa n).toArray⟩ : ByteArray) = numTextI n := by
  unfold numTextI
  rw [if_neg (by omega)]
  unfold numText numL Lib.itoa
  rw [if_neg (by omega), if_neg (by omega)]
  by_cases h : n.toNat = 0
  · rw [if_pos h, h, decDigits_zero]
  · rw [if_neg h, dg_dec 8 n.toNat (by omega) h]

/-- The table that strconv.Itoa reads holds what the program's text lays. -/
def TabOk (w : World) : Prop := Lib.TabIs Tryd.prog w "internal/strconv.uint64pow10" .u64 Lib.pow10Tab
theorem gTab : Tryd.prog.globalNamed "internal/strconv.uint64pow10" = some 1 := by kernel_rfl
theorem TabOk.lt {w : World} (h : TabOk w) : 1 < w.heap.size := by
  unfold TabOk Lib.TabIs World.var? at h
  rw [gTab] at h
  rcases Nat.lt_or_ge 1 w.heap.size with hl | hl
  · exact hl
  · simp [Array.getElem?_eq_none hl] at h
theorem TabOk.below {w w' : World} (h : TabOk w) (hb : Below w.heap.size w w') : TabOk w' := var?_below hb gTab h.lt h

set_option maxHeartbeats 1000000 in
theorem implNumText_any (n : Int) (w : World) (h0 : -9223372036854775808 ≤ n) (h1 : n ≤ 9223372036854775807) (htab : TabOk w) :
    Calls Tryd.prog 35 #[.int .i64 n] w fun e w' => TextIs (numTextI n) w e w' := by
  by_cases hn : n < 0
  · have hT : Hid (⟨#[]⟩ = numTextI n) := by show _ = _; unfold numTextI; rw [if_pos hn]
    go_enter Tryd.func35, Tryd.ntmps35
    go_wp2_with fail
    go_ret
    exact TextIs.of hT.out (Below.refl _ _)
  · by_cases hb : 1000000 < n
    · have hT : Hid (⟨#[]⟩ = numTextI n) := by
        show _ = _
        unfold numTextI numText numL; rw [if_neg hn, if_pos (by omega)]
      go_enter Tryd.func35, Tryd.ntmps35
      go_wp2_with fail
      go_ret
      exact TextIs.of hT.out (Below.refl _ _)
    · have hT : Hid _ := itoa_num n (by omega) (by omega)
      have HT : Hid (TabOk w) := htab
      clear htab
      go_enter Tryd.func35, Tryd.ntmps35
      go_wp2_with fail
      refine (Tryd.strconv_Itoa n h0 h1 w HT.out).mono ?_
      rintro e w1 ⟨rfl, k, os, rfl⟩
      rw [hT.out]
      have hb1 := Lib.below_grow w.heap.size w (Nat.le_refl _) k os
      obtain ⟨w1, hw1⟩ : ∃ w1, w1 = Sort.grow (w.drewN k) os := ⟨_, rfl⟩
      rw [← hw1] at hb1 ⊢
      clear hw1
      go_wp2_with fail
      go_ret
      exact TextIs.of rfl hb1

end Go.Proofs.YtalicfiadbmdeaaDoor

namespace Go.Proofs.YtalicfiadbmdeaaDoor
open Go.RowKit
open Go.Lib hiding intOf

theorem dec_num (n : Nat) (h : n ≤ 1000000) : decT n = numText n := by
  apply bs_inj
  rw [bs_decT]
  show Lib.decDigits n = numL n
  unfold numL
  rw [if_neg (by omega)]
  by_cases h0 : n = 0
  · rw [if_pos h0, h0]; exact decDigits_zero
  · rw [if_neg h0, dg_dec 8 n (by omega) h0]
end Go.Proofs.YtalicfiadbmdeaaDoor

namespace Go.Proofs.YtalicfiadbmdeaaDoor
open Go.RowKit
open Go.Lib hiding intOf

/-- A block's content behind a call. -/
theorem blk_below {W W' : World} {r : Nat} {o : Obj} (h : W.heap[r]? = some o) (b : Below W.heap.size W W') : W'.heap[r]? = some o := by
  rw [b.block r (Array.getElem?_eq_some_iff.1 h).1]; exact h
end Go.Proofs.YtalicfiadbmdeaaDoor

namespace Go.Proofs.YtalicfiadbmdeaaDoor
open Go.RowKit
open Go.Lib hiding intOf

theorem cell_of {W : World} {R : Nat} {cs : Array Value} {t : TypeId} (h : W.heap[R]? = some (.cells cs t)) (i : Nat) : W.cell? ⟨R, i, none⟩ = cs[i]? := by simp [World.cell?, h]
end Go.Proofs.YtalicfiadbmdeaaDoor

namespace Go.Proofs.YtalicfiadbmdeaaDoor
open Go.RowKit
open Go.Lib hiding intOf

/-- 'wpAnyH_take', its place named. -/
theorem wpAnyH_takeD {P : Program} {ops : Array Oper} {Q : Exit → Act → World → Prop} {md : Region.Mode} {S : World → Prop} {i : Nat} {oi : Oper} {v : Value} {fuel : Nat} {listed : Array Bool} {a : Act} {w : World} (d : Option Tmp) (hi : ops[i]? = some oi) (hd : oi.dst = d)
    (hs : Region.noSelect ops = true) (hf : Region.free md ops listed i = true) (hr : (Region.ready md ops listed).contains i = true)
    (hQ : ∀ c a w, Q (.panic c) (a.put oi.dst v) w → Q (.panic c) a w) (hy : YieldsIf P ops S oi v a) (hS : S w)
    (h : wpAnyH P md ops Q S fuel (listed.setIfInBounds i true) (a.put d v) w) : wpAnyH P md ops Q S (fuel + 1) listed a w :=
  wpAnyH_take hi hs hf hr hQ hy hS (hd ▸ h)
end Go.Proofs.YtalicfiadbmdeaaDoor

namespace Go.Proofs.YtalicfiadbmdeaaDoor
open Go.RowKit
open Go.Lib hiding intOf

set_option maxHeartbeats 1000000 in
theorem itoaDec_any (n : Nat) (w : World) (h : n ≤ 4293001440) (hT : TabOk w) :
    Calls Tryd.prog 36 #[.int .i64 (n : Int)] w fun e w' => TextIs (decT n) w e w' := by
  refine (Tryd.strconv_Itoa (n : Int) (by omega) (by omega) w hT).mono ?_
  rintro e w1 ⟨rfl, k, os, rfl⟩
  refine ⟨?_, Lib.below_grow w.heap.size w (Nat.le_refl _) k os⟩
  have e : Lib.itoa (n : Int) = Lib.decDigits n := by unfold Lib.itoa; rw [if_neg (by omega)]; simp
  rw [e]
  rfl
theorem numDec_any (n : Nat) (w : World) (h : n ≤ 1000000) (hT : TabOk w) :
    Calls Tryd.prog 35 #[.int .i64 (n : Int)] w fun e w' => TextIs (decT n) w e w' := by
  have e : numTextI (n : Int) = decT n := by unfold numTextI; rw [if_neg (by omega), dec_num n h]; simp
  rw [← e]
  exact implNumText_any (n : Int) w (by omega) (by omega) hT
set_option maxHeartbeats 1000000 in
theorem okRec_yes (q : Int) (b : ByteArray) (w : World) (h : RecP q b) :
    Calls Tryd.prog 34 #[.agg #[.int .i64 q, .string b]] w fun e w' => e = .returned (.bool true) ∧ Below w.heap.size w w' := by
  obtain ⟨h1, h2, h3⟩ := h
  have h4 : (b.size : Int) ≤ 2000 := by omega
  go_enter Tryd.func34, Tryd.ntmps34
  go_wp2
  go_ret
  exact ⟨rfl, (Below.refl _ _).alloc (Nat.le_refl _) _⟩
set_option maxHeartbeats 1000000 in
theorem okRec_no (q : Int) (b : ByteArray) (w : World) (h : ¬ RecP q b) :
    Calls Tryd.prog 34 #[.agg #[.int .i64 q, .string b]] w fun e w' => e = .returned (.bool false) ∧ Below w.heap.size w w' := by
  by_cases h1 : 1 ≤ q
  · by_cases h2 : q ≤ 100000
    · have h4 : ¬ (b.size : Int) ≤ 2000 := fun h3 => h ⟨h1, h2, by omega⟩
      clear h
      go_enter Tryd.func34, Tryd.ntmps34
      go_wp2
      go_ret
      exact ⟨rfl, (Below.refl _ _).alloc (Nat.le_refl _) _⟩
    · clear h
      go_enter Tryd.func34, Tryd.ntmps34
      go_wp2
      go_ret
      exact ⟨rfl, (Below.refl _ _).alloc (Nat.le_refl _) _⟩
  · clear h
    go_enter Tryd.func34, Tryd.ntmps34
    go_wp2
    go_ret
    exact ⟨rfl, (Below.refl _ _).alloc (Nat.le_refl _) _⟩

set_option maxHeartbeats 8000000 in
set_option maxRecDepth 100000 in
theorem textRec_no (q : Int) (b : ByteArray) (w : World) (h : ¬ RecP q b) :
    Calls Tryd.prog 22 #[.agg #[.int .i64 q, .string b]] w fun e w' => TextIs (recI q b) w e w' := by
  have HP : Hid (¬ RecP q b) := h
  clear h
  have hb0 : Below w.heap.size w w := Below.refl _ _
  go_enter Tryd.func22, Tryd.ntmps22
  go_upto_region 1 with fail
  obtain ⟨qv1, hqv1⟩ : ∃ q, q = (w).heap.size := ⟨_, rfl⟩
  obtain ⟨w1, hW1⟩ : ∃ W, W = (w).alloc (.cells #[.int .i64 q, .string b] 42) := ⟨_, rfl⟩
  have hz1 : (w).heap.size = qv1 := hqv1.symm
  first | rw [← hW1, ← hqv1] | rw [← hW1]
  have hs1 : w1.heap.size = qv1 + 1 := by rw [hW1, ← hz1]; simp
  have bw : Below (w).heap.size (w) w1 := by rw [hW1]; exact (Below.refl _ _).alloc (Nat.le_refl _) _
  have hb1 : Below w.heap.size w (w1) := hb0.trans (bw.mono hb0.size)
  have HBv1_1 : Hid ((w1).heap[qv1]? = some (.cells #[.int .i64 q, .string b] 42)) := by show _ = _; rw [hW1, ← hz1]; exact heap_alloc_new _ _
  clear hb0 bw hW1 hz1
  clear hs1 hqv1
  have cv1_0 : (w1).cell? ⟨qv1, 0, none⟩ = some (.int .i64 q) := (cell_of HBv1_1.out 0).trans rfl
  have cv1_1 : (w1).cell? ⟨qv1, 1, none⟩ = some (.string b) := (cell_of HBv1_1.out 1).trans rfl
  go_wp2_with fail
  refine (okRec_no q b _ HP.out).mono ?_
  rintro e w2 ⟨rfl, bw⟩
  have hb2 : Below w.heap.size w (w2) := hb1.trans (bw.mono hb1.size)
  have HBv1_2 : Hid ((w2).heap[qv1]? = some (.cells #[.int .i64 q, .string b] 42)) := blk_below HBv1_1.out bw
  clear hb1 HBv1_1 bw
  clear cv1_0 cv1_1
  go_wp2_with fail
  go_ret
  exact TextIs.of (recI_no HP.out).symm hb2

set_option maxHeartbeats 8000000 in
set_option maxRecDepth 100000 in
theorem textRec_yes (q : Nat) (b : ByteArray) (w : World) (h : RecP (q : Int) b) (hT : TabOk w) :
    Calls Tryd.prog 22 #[.agg #[.int .i64 (q : Int), .string b]] w fun e w' => TextIs (recI (q : Int) b) w e w' := by
  have HP : Hid (RecP (q : Int) b) := h
  have hq : q ≤ 100000 := by have := h.2.1; omega
  have hbz : b.size ≤ 2000 := h.2.2
  have HTB : Hid (∀ W, Below w.heap.size w W → TabOk W) := fun W h => hT.below h
  obtain ⟨d1, hd1⟩ : ∃ x, x = decT q := ⟨_, rfl⟩
  have HD1 : Hid (decT q = d1) := hd1.symm
  have z1 : d1.size ≤ 10 := by rw [hd1]; exact dec_len _ (by omega)
  obtain ⟨d2, hd2⟩ : ∃ x, x = decT b.size := ⟨_, rfl⟩
  have HD2 : Hid (decT b.size = d2) := hd2.symm
  have z2 : d2.size ≤ 10 := by rw [hd2]; exact dec_len _ (by omega)
  clear h hT hd1 hd2
  have hb0 : Below w.heap.size w w := Below.refl _ _
  go_enter Tryd.func22, Tryd.ntmps22
  go_upto_region 1 with fail
  obtain ⟨qv1, hqv1⟩ : ∃ q, q = (w).heap.size := ⟨_, rfl⟩
  obtain ⟨w1, hW1⟩ : ∃ W, W = (w).alloc (.cells #[.int .i64 (q : Int), .string b] 42) := ⟨_, rfl⟩
  have hz1 : (w).heap.size = qv1 := hqv1.symm
  first | rw [← hW1, ← hqv1] | rw [← hW1]
  have hs1 : w1.heap.size = qv1 + 1 := by rw [hW1, ← hz1]; simp
  have bw : Below (w).heap.size (w) w1 := by rw [hW1]; exact (Below.refl _ _).alloc (Nat.le_refl _) _
  have hb1 : Below w.heap.size w (w1) := hb0.trans (bw.mono hb0.size)
  have HBv1_1 : Hid ((w1).heap[qv1]? = some (.cells #[.int .i64 (q : Int), .string b] 42)) := by show _ = _; rw [hW1, ← hz1]; exact heap_alloc_new _ _
  clear hb0 bw hW1 hz1
  clear hs1 hqv1
  have cv1_0 : (w1).cell? ⟨qv1, 0, none⟩ = some (.int .i64 (q : Int)) := (cell_of HBv1_1.out 0).trans rfl
  have cv1_1 : (w1).cell? ⟨qv1, 1, none⟩ = some (.string b) := (cell_of HBv1_1.out 1).trans rfl
  go_wp2_with fail
  refine (okRec_yes (q : Int) b _ HP.out).mono ?_
  rintro e w2 ⟨rfl, bw⟩
  have hb2 : Below w.heap.size w (w2) := hb1.trans (bw.mono hb1.size)
  have HBv1_2 : Hid ((w2).heap[qv1]? = some (.cells #[.int .i64 (q : Int), .string b] 42)) := blk_below HBv1_1.out bw
  clear hb1 HBv1_1 bw
  clear cv1_0 cv1_1
  go_upto_region 3 with fail
  refine wp_region_held_drew (S := fun W => W.heap[qv1]? = some (.cells #[.int .i64 (q : Int), .string b] 42)) (by kernel_rfl) HBv1_2.out (fun _ => ?_)
  obtain ⟨w3, hX⟩ : ∃ X, X = w2.drew := ⟨_, rfl⟩
  have bw : Below w2.heap.size w2 w3 := by rw [hX]; exact (Below.refl _ _).drew
  rw [← hX]
  have hb3 : Below w.heap.size w (w3) := hb2.trans (bw.mono hb2.size)
  have HBv1_3 : Hid ((w3).heap[qv1]? = some (.cells #[.int .i64 (q : Int), .string b] 42)) := blk_below HBv1_2.out bw
  have hS3 : w3.heap[qv1]? = some (.cells #[.int .i64 (q : Int), .string b] 42) := HBv1_3.out
  clear hb2 HBv1_2 bw hX
  refine wpAnyH_takeD (i := 0) (v := .pointer (some ⟨qv1, 0, none⟩)) (some 7) rfl rfl (by kernel_rfl) (by kernel_rfl) (by kernel_rfl) (fun _ _ _ h => h) (Or.inl ⟨by rfl, by intro W _; go_simp⟩) hS3 ?_
  simp only [Act.put, List.setIfInBounds_toArray, List.set_cons_zero, List.set_cons_succ]
  refine wpAnyH_takeD (i := 1) (v := .int .i64 (q : Int)) (some 8) rfl rfl (by kernel_rfl) (by kernel_rfl) (by kernel_rfl) (fun _ _ _ h => h) (Or.inl ⟨by rfl, by intro W hW; have hhv1 := hW; have y0 := (cell_of hhv1 0).trans rfl; go_simp⟩) hS3 ?_
  simp only [Act.put, List.setIfInBounds_toArray, List.set_cons_zero, List.set_cons_succ]
  refine wpAnyH_takeD (i := 4) (v := .pointer (some ⟨qv1, 1, none⟩)) (some 11) rfl rfl (by kernel_rfl) (by kernel_rfl) (by kernel_rfl) (fun _ _ _ h => h) (Or.inl ⟨by rfl, by intro W _; go_simp⟩) hS3 ?_
  simp only [Act.put, List.setIfInBounds_toArray, List.set_cons_zero, List.set_cons_succ]
  refine wpAnyH_takeD (i := 5) (v := .string b) (some 12) rfl rfl (by kernel_rfl) (by kernel_rfl) (by kernel_rfl) (fun _ _ _ h => h) (Or.inl ⟨by rfl, by intro W hW; have hhv1 := hW; have y1 := (cell_of hhv1 1).trans rfl; go_simp⟩) hS3 ?_
  simp only [Act.put, List.setIfInBounds_toArray, List.set_cons_zero, List.set_cons_succ]
  refine wpAnyH_takeD (i := 6) (v := .int .i64 (b.size : Int)) (some 13) rfl rfl (by kernel_rfl) (by kernel_rfl) (by kernel_rfl) (fun _ _ _ h => h) (Or.inl ⟨by rfl, by intro W _; go_simp⟩) hS3 ?_
  simp only [Act.put, List.setIfInBounds_toArray, List.set_cons_zero, List.set_cons_succ]
  refine wpAnyH_takeD (i := 10) (v := .pointer (some ⟨qv1, 1, none⟩)) (some 17) rfl rfl (by kernel_rfl) (by kernel_rfl) (by kernel_rfl) (fun _ _ _ h => h) (Or.inl ⟨by rfl, by intro W _; go_simp⟩) hS3 ?_
  simp only [Act.put, List.setIfInBounds_toArray, List.set_cons_zero, List.set_cons_succ]
  refine wpAnyH_takeD (i := 11) (v := .string b) (some 18) rfl rfl (by kernel_rfl) (by kernel_rfl) (by kernel_rfl) (fun _ _ _ h => h) (Or.inl ⟨by rfl, by intro W hW; have hhv1 := hW; have y1 := (cell_of hhv1 1).trans rfl; go_simp⟩) hS3 ?_
  simp only [Act.put, List.setIfInBounds_toArray, List.set_cons_zero, List.set_cons_succ]
  refine wpAnyH_ready (rs := [2]) (by kernel_rfl) (by simp) ?_
  refine AllReadyH.cons rfl (fun K hK => ?_) AllReadyH.nil
  go_simp
  refine (numDec_any q _ (by omega) (HTB.out _ hb3)).mono ?_
  rintro e w4 ⟨rfl, bw⟩
  rw [HD1.out]
  have hb4 : Below w.heap.size w (w4) := hb3.trans (bw.mono hb3.size)
  have HBv1_4 : Hid ((w4).heap[qv1]? = some (.cells #[.int .i64 (q : Int), .string b] 42)) := blk_below HBv1_3.out bw
  clear hb3 HBv1_3 bw
  have hS4 : w4.heap[qv1]? = some (.cells #[.int .i64 (q : Int), .string b] 42) := HBv1_4.out
  refine hK.out _ _ hS4 (fun _ => ?_)
  clear hK K hS3
  refine wpAnyH_takeD (i := 3) (v := .string (d1 ++ ⟨#[32]⟩)) (some 10) rfl rfl (by kernel_rfl) (by kernel_rfl) (by kernel_rfl) (fun _ _ _ h => h) (Or.inl ⟨by rfl, by intro W _; go_simp <;> omega⟩) hS4 ?_
  simp only [Act.put, List.setIfInBounds_toArray, List.set_cons_zero, List.set_cons_succ]
  refine wpAnyH_ready (rs := [7]) (by kernel_rfl) (by simp) ?_
  refine AllReadyH.cons rfl (fun K hK => ?_) AllReadyH.nil
  go_simp
  refine (numDec_any b.size _ (by omega) (HTB.out _ hb4)).mono ?_
  rintro e w5 ⟨rfl, bw⟩
  rw [HD2.out]
  have hb5 : Below w.heap.size w (w5) := hb4.trans (bw.mono hb4.size)
  have HBv1_5 : Hid ((w5).heap[qv1]? = some (.cells #[.int .i64 (q : Int), .string b] 42)) := blk_below HBv1_4.out bw
  clear hb4 HBv1_4 bw
  have hS5 : w5.heap[qv1]? = some (.cells #[.int .i64 (q : Int), .string b] 42) := HBv1_5.out
  refine hK.out _ _ hS5 (fun _ => ?_)
  clear hK K hS4
  refine wpAnyH_takeD (i := 8) (v := .string ((d1 ++ ⟨#[32]⟩) ++ d2)) (some 15) rfl rfl (by kernel_rfl) (by kernel_rfl) (by kernel_rfl) (fun _ _ _ h => h) (Or.inl ⟨by rfl, by intro W _; go_simp <;> omega⟩) hS5 ?_
  simp only [Act.put, List.setIfInBounds_toArray, List.set_cons_zero, List.set_cons_succ]
  refine wpAnyH_takeD (i := 9) (v := .string (((d1 ++ ⟨#[32]⟩) ++ d2) ++ ⟨#[10]⟩)) (some 16) rfl rfl (by kernel_rfl) (by kernel_rfl) (by kernel_rfl) (fun _ _ _ h => h) (Or.inl ⟨by rfl, by intro W _; go_simp <;> omega⟩) hS5 ?_
  simp only [Act.put, List.setIfInBounds_toArray, List.set_cons_zero, List.set_cons_succ]
  refine wpAnyH_takeD (i := 12) (v := .string ((((d1 ++ ⟨#[32]⟩) ++ d2) ++ ⟨#[10]⟩) ++ b)) (some 19) rfl rfl (by kernel_rfl) (by kernel_rfl) (by kernel_rfl) (fun _ _ _ h => h) (Or.inl ⟨by rfl, by intro W _; go_simp <;> omega⟩) hS5 ?_
  simp only [Act.put, List.setIfInBounds_toArray, List.set_cons_zero, List.set_cons_succ]
  refine wpAnyH_takeD (i := 13) (v := .string ((((d1 ++ ⟨#[32]⟩) ++ d2) ++ ⟨#[10]⟩) ++ b)) (some 3) rfl rfl (by kernel_rfl) (by kernel_rfl) (by kernel_rfl) (fun _ _ _ h => h) (Or.inl ⟨by rfl, by intro W _; go_simp⟩) hS5 ?_
  simp only [Act.put, List.setIfInBounds_toArray, List.set_cons_zero, List.set_cons_succ]
  clear hS5
  refine wpAnyH_done (by kernel_rfl) ?_ _
  go_wp2_with fail
  obtain ⟨R, hR⟩ : ∃ R, R = ((((d1 ++ ⟨#[32]⟩) ++ d2) ++ ⟨#[10]⟩) ++ b) := ⟨_, rfl⟩
  rw [← hR]
  have HR : Hid (R = recR q b) := by show _ = _; rw [hR]; unfold recR; rw [HD1.out, HD2.out]
  have hRz : R.size ≤ 3000 := by rw [HR.out]; exact recR_size q b hq hbz
  clear hR
  obtain ⟨sm, hsm⟩ : ∃ n, n = sumP R := ⟨_, rfl⟩
  have HSM : Hid (sumP R = sm) := hsm.symm
  have hzsm : sm ≤ 4293001440 := by rw [hsm]; exact sumP_le _
  clear hsm
  obtain ⟨d3, hd3⟩ : ∃ x, x = decT sm := ⟨_, rfl⟩
  have HD3 : Hid (decT sm = d3) := hd3.symm
  have z3 : d3.size ≤ 10 := by rw [hd3]; exact dec_len _ hzsm
  clear hd3
  refine (implSum_any R _ (by unfold maxLen; omega)).mono ?_
  rintro e w6 ⟨rfl, bw⟩
  rw [HSM.out]
  have hb6 : Below w.heap.size w (w6) := hb5.trans (bw.mono hb5.size)
  have HBv1_6 : Hid ((w6).heap[qv1]? = some (.cells #[.int .i64 (q : Int), .string b] 42)) := blk_below HBv1_5.out bw
  clear hb5 HBv1_5 bw
  go_wp2_with fail
  refine (itoaDec_any sm _ hzsm (HTB.out _ hb6)).mono ?_
  rintro e w7 ⟨rfl, bw⟩
  rw [HD3.out]
  have hb7 : Below w.heap.size w (w7) := hb6.trans (bw.mono hb6.size)
  have HBv1_7 : Hid ((w7).heap[qv1]? = some (.cells #[.int .i64 (q : Int), .string b] 42)) := blk_below HBv1_6.out bw
  clear hb6 HBv1_6 bw
  go_wp2_with fail
  go_ret
  refine TextIs.of ?_ hb7
  rw [recI_yes HP.out]
  unfold recT
  rw [Int.toNat_natCast, ← HR.out, HSM.out, HD3.out]

theorem textRec_any (q : Int) (b : ByteArray) (w : World) (hT : TabOk w) :
    Calls Tryd.prog 22 #[.agg #[.int .i64 q, .string b]] w fun e w' => TextIs (recI q b) w e w' := by
  by_cases h : RecP q b
  · obtain ⟨n, rfl⟩ : ∃ n : Nat, q = (n : Int) := ⟨q.toNat, by have := h.1; omega⟩
    exact textRec_yes n b w h hT
  · exact textRec_no q b w h
set_option maxHeartbeats 1000000 in
theorem implRecText_any (seq : Int) (b : ByteArray) (w : World) (_hb : b.size ≤ 4000000) (hT : TabOk w) :
    Calls Tryd.prog 8 #[.int .i64 seq, .string b] w fun e w' => TextIs (recI seq b) w e w' := by
  have HT : Hid (TabOk w) := hT
  clear hT
  go_enter Tryd.func8, Tryd.ntmps8
  go_wp2_with fail
  refine (textRec_any seq b _ HT.out).mono ?_
  rintro e w1 ⟨rfl, bw⟩
  have HB : Hid (Below w.heap.size w w1) := bw
  clear bw
  go_wp2_with fail
  go_ret
  exact TextIs.of rfl HB.out
end Go.Proofs.YtalicfiadbmdeaaDoor

namespace Go.Proofs.YtalicfiadbmdeaaDoor
open Go.ChangeShapes Go.WideShapes Go.ChangeAt Go.RowKit

theorem gTabType : (Tryd.prog.globals[1]?).map (·.type) = some 116 := by kernel_rfl
theorem cells62 : Tryd.prog.cellsOf 116 = 20 := by kernel_rfl
theorem cells55 : Tryd.prog.cellsOf 109 = 1 := by kernel_rfl
theorem table {W : World} (h : laidMetH Tryd.prog Rows.fnExactRecTextRow.laid W) : TabOk W := by
  have h1 : laidMet Tryd.prog Rows.fnExactRecTextRow.laid W := h
  obtain ⟨ps, hl, _⟩ := h1
  obtain ⟨g1, t1, cs1, f1, p1, q1, _, _, _, _, hr1, _⟩ := hl
  obtain ⟨g2, t2, cs2, f2, p2, q2, _, _, _, _, hr2, _⟩ := hr1
  obtain ⟨g3, t3, cs3, f3, p3, q3, hg, ht, hvar, hd, _, _⟩ := hr2
  obtain rfl := Option.some.inj (gTab.symm.trans hg)
  obtain rfl := Option.some.inj (gTabType.symm.trans ht)
  unfold TabOk Lib.TabIs
  rw [hvar, ← Lib.cells_of_tab (zs := Lib.pow10Tab) Tryd.underlying116 Tryd.underlying109 cells55 cells62 hd]

/-- A world with the three tables as their initialisers lay them. -/
def withTables (w : World) : World :=
  { w with heap := ((w.heap.modify 1 fun
      | .cells _ t frozen => .cells #[.int .u64 1, .int .u64 10, .int .u64 100, .int .u64 1000, .int .u64 10000, .int .u64 100000, .int .u64 1000000, .int .u64 10000000, .int .u64 100000000, .int .u64 1000000000, .int .u64 10000000000, .int .u64 100000000000, .int .u64 1000000000000, .int .u64 10000000000000, .int .u64 100000000000000, .int .u64 1000000000000000, .int .u64 10000000000000000, .int .u64 100000000000000000, .int .u64 1000000000000000000, .int .u64 10000000000000000000] t frozen
      | o => o).modify 3 fun
      | .cells _ t frozen => .cells #[.int .u8 0, .int .u8 1, .int .u8 28, .int .u8 2, .int .u8 29, .int .u8 14, .int .u8 24, .int .u8 3, .int .u8 30, .int .u8 22, .int .u8 20, .int .u8 15, .int .u8 25, .int .u8 17, .int .u8 4, .int .u8 8, .int .u8 31, .int .u8 27, .int .u8 13, .int .u8 23, .int .u8 21, .int .u8 19, .int .u8 16, .int .u8 7, .int .u8 26, .int .u8 12, .int .u8 18, .int .u8 6, .int .u8 11, .int .u8 5, .int .u8 10, .int .u8 9] t frozen
      | o => o).modify 4 fun
      | .cells _ t frozen => .cells #[.int .u8 0, .int .u8 1, .int .u8 56, .int .u8 2, .int .u8 57, .int .u8 49, .int .u8 28, .int .u8 3, .int .u8 61, .int .u8 58, .int .u8 42, .int .u8 50, .int .u8 38, .int .u8 29, .int .u8 17, .int .u8 4, .int .u8 62, .int .u8 47, .int .u8 59, .int .u8 36, .int .u8 45, .int .u8 43, .int .u8 51, .int .u8 22, .int .u8 53, .int .u8 39, .int .u8 33, .int .u8 30, .int .u8 24, .int .u8 18, .int .u8 12, .int .u8 5, .int .u8 63, .int .u8 55, .int .u8 48, .int .u8 27, .int .u8 60, .int .u8 41, .int .u8 37, .int .u8 16, .int .u8 46, .int .u8 35, .int .u8 44, .int .u8 21, .int .u8 52, .int .u8 32, .int .u8 23, .int .u8 11, .int .u8 54, .int .u8 26, .int .u8 40, .int .u8 15, .int .u8 34, .int .u8 20, .int .u8 31, .int .u8 10, .int .u8 25, .int .u8 14, .int .u8 19, .int .u8 9, .int .u8 13, .int .u8 8, .int .u8 7, .int .u8 6] t frozen
      | o => o }
end Go.Proofs.YtalicfiadbmdeaaDoor
