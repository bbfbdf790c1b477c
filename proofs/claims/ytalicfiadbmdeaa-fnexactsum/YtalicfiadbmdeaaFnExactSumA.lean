/- What the proof of FnExactSum leans on: contracts of the program's and the specification's functions, and plain facts (part 1 of 1). -/
import Derived.Test.YtalicfiadbmdeaaProg
import Derived.Test.YtalicfiadbmdeaaRows
import Derived.Below
import Derived.BigQuiet
import Derived.ChangeOld
import Derived.Deep.CutRange
import Derived.Deep.DeepCutAuto
import Derived.Deep.DrawnRows
import Derived.Deep.QuietTactic
import Derived.Deep.RegionHeld3
import Derived.Deep.RegionWith
import Derived.Laws.BitsAllLaws
import Derived.Laws.BytesArg
import Derived.Laws.EntriesVeiled
import Derived.Laws.MakeOwn
import Derived.Laws.RangeAny
import Derived.Lib.ConvBytes
import Derived.Lib.ItoaNum
import Derived.Lib.Strings
import Derived.Lib.Walk
import Derived.OpenShut
import Derived.ProofKit
import Derived.ShutString
import Derived.WalkKit
import Derived.WalkLawsBesides
import Derived.WalkSpells
namespace Go.Proofs.Ytalicfiadbmdeaa
open Go.RowKit
open Go.Lib hiding intOf

/-- A call answers a bool that says whether p, and turns nothing that was there. -/
def BoolIs (p : Prop) (w : World) (e : Ending) (w' : World) : Prop := ∃ b : Bool, e = .returned (.bool b) ∧ (b = true ↔ p) ∧ Below w.heap.size w w'
theorem BoolIs.no {p : Prop} {w w' : World} (hp : ¬ p) (hb : Below w.heap.size w w') : BoolIs p w (.returned (.bool false)) w' := ⟨false, rfl, by simpa using hp, hb⟩

end Go.Proofs.Ytalicfiadbmdeaa

namespace Go.Proofs.Ytalicfiadbmdeaa

theorem byte_get (s : ByteArray) (j : Nat) (h : j < s.size) : s.data.toList[j]? = some (s[j]'h) := by
  rw [List.getElem?_eq_getElem (by simpa using h)]
  rfl

end Go.Proofs.Ytalicfiadbmdeaa

namespace Go.Proofs.Ytalicfiadbmdeaa
open Go.RowKit
open Go.Lib hiding intOf

/-- A call answers this text, and turns nothing that was there. -/
def TextIs (t : ByteArray) (w : World) (e : Ending) (w' : World) : Prop := e = .returned (.string t) ∧ Below w.heap.size w w'
theorem TextIs.of {t u : ByteArray} {w w' : World} (h : u = t) (hb : Below w.heap.size w w') : TextIs t w (.returned (.string u)) w' := ⟨by rw [h], hb⟩

end Go.Proofs.Ytalicfiadbmdeaa

namespace Go.Proofs.Ytalicfiadbmdeaa

def DigB (b : UInt8) : Prop := 48 ≤ b.toNat ∧ b.toNat ≤ 57
/-- The number that a row of digits is. -/
def valL (l : List UInt8) : Nat := l.foldl (fun v b => 10 * v + (b.toNat - 48)) 0
/-- A text that is a number from 0 to 1000000 in digits without needless noughts. -/
def NumOk (s : ByteArray) : Prop := 1 ≤ s.size ∧ (∀ b ∈ s.data.toList, DigB b) ∧ (1 < s.size → ∀ h : 0 < s.size, (s[0]'h).toNat ≠ 48) ∧ valL s.data.toList ≤ 1000000

end Go.Proofs.Ytalicfiadbmdeaa

namespace Go.Proofs.Ytalicfiadbmdeaa
open Go.RowKit
open Go.Lib hiding intOf

/-- A call answers the number that a text is, and true; or 0 and false; it turns nothing that was there. -/
def NumIs (s : ByteArray) (w : World) (e : Ending) (w' : World) : Prop :=
  ∃ (b : Bool) (n : Int), e = .returned (.tuple #[.int .i64 n, .bool b]) ∧ (b = true ↔ NumOk s) ∧ (b = true → n = valL s.data.toList) ∧ (b = false → n = 0) ∧ Below w.heap.size w w'
theorem NumIs.no {s : ByteArray} {w w' : World} (h : ¬ NumOk s) (hb : Below w.heap.size w w') : NumIs s w (.returned (.tuple #[.int .i64 0, .bool false])) w' :=
  ⟨false, 0, rfl, by simpa using h, by simp, fun _ => rfl, hb⟩
end Go.Proofs.Ytalicfiadbmdeaa

namespace Go.Proofs.Ytalicfiadbmdeaa
open Go.RowKit
open Go.Lib hiding intOf

/-- A call answers a list of these texts in memory of its own, from block 'base' on, and turns nothing below it. -/
def RowIs (base : Nat) (xs : List ByteArray) (w : World) (e : Ending) (w' : World) : Prop :=
  ∃ v, e = .returned v ∧ w'.ownsRow base 9 1 v xs.length (xs.map Value.string) ∧ Below base w w'
theorem RowIs.of {base : Nat} {xs ys : List ByteArray} {w w' : World} {v : Value} {n : Nat} (h : ys = xs) (hn : n = ys.length) (hown : w'.ownsRow base 9 1 v n (ys.map Value.string)) (hb : Below base w w') : RowIs base xs w (.returned v) w' := by
  subst h; subst hn; exact ⟨v, rfl, hown, hb⟩
end Go.Proofs.Ytalicfiadbmdeaa

namespace Go.Proofs.Ytalicfiadbmdeaa
open Go.RowKit
open Go.Lib hiding intOf

/-- The text i of a list. -/
def textAt (xs : List ByteArray) (i : Nat) : ByteArray := xs.getD i ⟨#[]⟩

/-- What an owned list of texts is, cell by cell. -/
structure TextRow (base : Nat) (w : World) (g n cap : Nat) (xs : List ByteArray) : Prop where
  len : xs.length = n
  base : base ≤ g
  lt : g < w.heap.size
  le : n ≤ cap
  mx : cap ≤ maxLen
  heap : ∃ cur, w.heap[g]? = some (.cells cur 9 (0, 0)) ∧ cur.size = cap ∧ ∀ i, i < n → cur[i]? = some (.string (textAt xs i))
theorem TextRow.cell {base : Nat} {w : World} {g n cap : Nat} {xs : List ByteArray} (h : TextRow base w g n cap xs) (i : Nat) (hi : i < n) : w.cell? ⟨g, i, none⟩ = some (.string (textAt xs i)) := by
  obtain ⟨cur, hg, _, hc⟩ := h.heap
  simp only [World.cell?, hg]
  simpa using hc i hi
theorem TextRow.below {base B : Nat} {w w' : World} {g n cap : Nat} {xs : List ByteArray} (h : TextRow base w g n cap xs) (hb : Below B w w') (hB : g < B) : TextRow base w' g n cap xs := by
  obtain ⟨cur, hg, hc⟩ := h.heap
  have := hb.size; have := h.lt
  exact ⟨h.len, h.base, by omega, h.le, h.mx, cur, by rw [hb.block g hB]; exact hg, hc⟩
end Go.Proofs.Ytalicfiadbmdeaa

namespace Go.Proofs.Ytalicfiadbmdeaa
open Go.RowKit
open Go.Lib hiding intOf

def nameAt (fs : List (ByteArray × ByteArray)) (i : Nat) : ByteArray := (fs.getD i (⟨#[]⟩, ⟨#[]⟩)).1
def valAt (fs : List (ByteArray × ByteArray)) (i : Nat) : ByteArray := (fs.getD i (⟨#[]⟩, ⟨#[]⟩)).2
end Go.Proofs.Ytalicfiadbmdeaa

namespace Go.Proofs.Ytalicfiadbmdeaa
open Go.RowKit

def bs (s : ByteArray) : List UInt8 := s.data.toList
theorem bs_len (a : ByteArray) : (bs a).length = a.size := by simp [bs]
end Go.Proofs.Ytalicfiadbmdeaa

namespace Go.Proofs.Ytalicfiadbmdeaa
open Go.RowKit
open Go.Lib hiding intOf

/-- The two sums behind a text. -/
def sumL (p : Nat × Nat) : List UInt8 → Nat × Nat
  | [] => p
  | x :: r => sumL ((p.1 + x.toNat) % 65521, (p.2 + (p.1 + x.toNat) % 65521) % 65521) r
def sumP (s : ByteArray) : Nat := 65521 * (sumL (1, 0) (bs s)).2 + (sumL (1, 0) (bs s)).1
theorem sumL_snoc (x : UInt8) : ∀ (l : List UInt8) (p : Nat × Nat), sumL p (l ++ [x]) = (((sumL p l).1 + x.toNat) % 65521, ((sumL p l).2 + ((sumL p l).1 + x.toNat) % 65521) % 65521)
  | [], _ => rfl
  | y :: l, p => by
    rw [List.cons_append, sumL, sumL_snoc x l, sumL]
end Go.Proofs.Ytalicfiadbmdeaa

namespace Go.Proofs.Ytalicfiadbmdeaa
open Go.RowKit
open Go.Lib hiding intOf

attribute [local go_sem ↓] Go.wp_at_zero Go.wp_at_succ

/-- A list of fields that came in, in blocks below B. -/
structure ArgF (w : World) (B : Nat) (a : Option Addr) (n : Nat) (fs : List (ByteArray × ByteArray)) : Prop where
  len : fs.length = n
  get : ∀ i, i < n → ∃ b off, a = some ⟨b, off, none⟩ ∧ b < B ∧ w.cell? ⟨b, off + i * 2, none⟩ = some (.string (nameAt fs i)) ∧ w.cell? ⟨b, off + i * 2 + 1, none⟩ = some (.string (valAt fs i))
theorem ArgF.below {w w' : World} {B : Nat} {a : Option Addr} {n : Nat} {fs : List (ByteArray × ByteArray)} (h : ArgF w B a n fs) (hb : Below B w w') : ArgF w' B a n fs :=
  ⟨h.len, fun i hi => by
    obtain ⟨b, off, h1, h2, h3, h4⟩ := h.get i hi
    exact ⟨b, off, h1, h2, by rw [hb.cell (p := ⟨b, off + i * 2, none⟩) h2]; exact h3, by rw [hb.cell (p := ⟨b, off + i * 2 + 1, none⟩) h2]; exact h4⟩⟩

end Go.Proofs.Ytalicfiadbmdeaa

namespace Go.Proofs.Ytalicfiadbmdeaa
open Go.RowKit
open Go.Lib hiding intOf

/-- A call answers a number and turns nothing. -/
def NatIs (n : Nat) (w : World) (e : Ending) (w' : World) : Prop := e = .returned (.int .i64 (n : Int)) ∧ w' = w
theorem bs_get {s : ByteArray} {j : Nat} (h : j < s.size) : (bs s)[j]? = some (s[j]'h) := by
  unfold bs
  exact byte_get s j h
set_option maxHeartbeats 2000000 in
theorem specSum_any (s : ByteArray) (w : World) (hs : s.size ≤ maxLen) :
    Calls Try.prog 4 #[.string s] w fun e w' => NatIs (sumP s) w e w' := by
  unfold maxLen at hs
  go_enter Try.func4, Try.ntmps4
  go_wp2
  go_loopw [3, 4, 5] (fun a b i wr => ∃ (k A B : Nat), k ≤ s.size ∧ i = .int .i64 (k : Int) ∧ a = .int .i64 (A : Int) ∧ b = .int .i64 (B : Int) ∧ A < 65521 ∧ B < 65521 ∧ wr = w ∧ Hid ((A, B) = sumL (1, 0) ((bs s).take k))) (fun _ _ i _ => s.size - (intOf i).toNat)
  case atStart => exact ⟨0, 1, 0, Nat.zero_le _, rfl, rfl, rfl, by omega, by omega, rfl, rfl⟩
  case round =>
    obtain ⟨k, A, B, hk, rfl, rfl, rfl, hA, hB, rfl, HS⟩ := hrel
    by_cases hlt : (k : Int) < (s.size : Int)
    · have hk2 : k < s.size := by omega
      have hx : (s[k]'hk2).toNat < 256 := (s[k]'hk2).toNat_lt
      have HSX : Hid ((bs s).take (k + 1) = (bs s).take k ++ [s[k]'hk2]) := by
        rw [Hid, List.take_add_one, bs_get hk2]
        rfl
      go_wp2
      go_roundw
      case rel =>
        refine ⟨k + 1, (A + (s[k]'hk2).toNat) % 65521, (B + (A + (s[k]'hk2).toNat) % 65521) % 65521, by omega, by simp, ?_, ?_, Nat.mod_lt _ (by decide), Nat.mod_lt _ (by decide), trivial, ?_⟩
        · congr 1
        · congr 1
        · rw [Hid, HSX.out, sumL_snoc, ← HS.out]
      case measure => simp [intOf]; omega
    · have HE : Hid ((A, B) = sumL (1, 0) (bs s)) := by
        have h := HS.out
        rw [List.take_of_length_le (by rw [bs_len]; omega)] at h
        exact h
      go_wp2
      go_ret
      refine ⟨?_, rfl⟩
      have h := HE.out
      unfold sumP
      rw [← h]
      simp

end Go.Proofs.Ytalicfiadbmdeaa

namespace Go.Proofs.Ytalicfiadbmdeaa
open Go.RowKit
open Go.Lib hiding intOf

/-- A call answers a number, and what was there stays. -/
def NatB (n : Nat) (w : World) (e : Ending) (w' : World) : Prop := e = .returned (.int .i64 (n : Int)) ∧ Below w.heap.size w w'
set_option maxHeartbeats 2000000 in
theorem implSum_any (s : ByteArray) (w : World) (hs : s.size ≤ maxLen) :
    Calls Try.prog 5 #[.string s] w fun e w' => NatB (sumP s) w e w' := by
  unfold maxLen at hs
  go_enter Try.func5, Try.ntmps5
  go_wp2
  go_loopw [3, 4, 8] (fun a b i wr => ∃ (k A B : Nat), k ≤ s.size ∧ i = .int .i64 (k : Int) ∧ a = .int .i64 (A : Int) ∧ b = .int .i64 (B : Int) ∧ A < 65521 ∧ B < 65521 ∧ wr = w ∧ Hid ((A, B) = sumL (1, 0) ((bs s).take k))) (fun _ _ i _ => s.size - (intOf i).toNat)
  case atStart => exact ⟨0, 1, 0, Nat.zero_le _, rfl, rfl, rfl, by omega, by omega, rfl, rfl⟩
  case round =>
    obtain ⟨k, A, B, hk, rfl, rfl, rfl, hA, hB, rfl, HS⟩ := hrel
    by_cases hlt : (k : Int) < (s.size : Int)
    · have hk2 : k < s.size := by omega
      have hx : (s[k]'hk2).toNat < 256 := (s[k]'hk2).toNat_lt
      have HSX : Hid ((bs s).take (k + 1) = (bs s).take k ++ [s[k]'hk2]) := by
        rw [Hid, List.take_add_one, bs_get hk2]
        rfl
      go_wp2
      go_roundw
      case rel =>
        refine ⟨k + 1, (A + (s[k]'hk2).toNat) % 65521, (B + (A + (s[k]'hk2).toNat) % 65521) % 65521, by omega, by simp, ?_, ?_, Nat.mod_lt _ (by decide), Nat.mod_lt _ (by decide), trivial, ?_⟩
        · congr 1
        · congr 1
        · rw [Hid, HSX.out, sumL_snoc, ← HS.out]
      case measure => simp [intOf]; omega
    · have HE : Hid ((A, B) = sumL (1, 0) (bs s)) := by
        have h := HS.out
        rw [List.take_of_length_le (by rw [bs_len]; omega)] at h
        exact h
      go_wp2
      go_ret
      refine ⟨?_, Below.refl _ _⟩
      have h := HE.out
      unfold sumP
      rw [← h]
      simp

end Go.Proofs.Ytalicfiadbmdeaa
