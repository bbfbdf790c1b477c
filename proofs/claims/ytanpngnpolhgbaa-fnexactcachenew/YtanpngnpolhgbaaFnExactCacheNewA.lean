/- What the proof of FnExactCacheNew leans on: contracts of the program's and the specification's functions, and plain facts (part 1 of 2). -/
import Derived.Test.YtanpngnpolhgbaaProg
import Derived.Test.YtanpngnpolhgbaaRows
import Derived.ArgAppend
import Derived.Below
import Derived.BigQuiet
import Derived.ChangeKeysEq
import Derived.ChangeOld
import Derived.Deep.AppendLies
import Derived.Deep.CutRange
import Derived.Deep.DeepCutAuto
import Derived.Deep.DrawnRows
import Derived.Deep.MidRow
import Derived.Deep.QuietTactic
import Derived.Deep.RegionHeld3
import Derived.Deep.RegionLaw
import Derived.Deep.RegionWith
import Derived.Deep.SlicePairs
import Derived.Deep.Slices
import Derived.Laws.AppendOwnNone
import Derived.Laws.BytesArg
import Derived.Laws.EntriesVeiled
import Derived.Laws.MakeOwn
import Derived.Laws.RangeAny
import Derived.Laws.Rows
import Derived.Laws.StructEq
import Derived.Laws.Tables
import Derived.Lib.AppendIntMem
import Derived.Lib.BufferOwn
import Derived.Lib.ConvBytes
import Derived.Lib.CutLaws
import Derived.Lib.ItoaNum
import Derived.Lib.LaidTab
import Derived.Lib.Strings
import Derived.Lib.Walk
import Derived.OpenShut
import Derived.ProofKit
import Derived.Shelf.LaysM
import Derived.Shelf.Strconv.Clone
import Derived.ShutString
import Derived.SliceStrings
import Derived.WalkKit
import Derived.WalkLawsBesides
import Derived.WalkSpells
namespace Go.Proofs.Ytanpngnpolhgbaa
open Go.RowKit

theorem ret_int {k : IntKind} {a b : Int} (h : a = b) : Ending.returned (.int k a) = .returned (.int k b) := by rw [h]

end Go.Proofs.Ytanpngnpolhgbaa

namespace Go.Proofs
open Go.Shelf
def Try.laysM316_ren : Go.Shelf.Ren := ⟨fun | 316 => 60 | n => n, fun | 9 => 9 | 3 => 3 | 4 => 4 | 37 => 91 | 0 => 0 | 127 => 101 | 5 => 5 | n => n, fun | n => n⟩
theorem Try.laysM316 : Go.Proofs.LaysM.n316 Try.prog Try.laysM316_ren := {
  mixed := by kernel_rfl
  f316 := Try.func60.trans (congrArg some (by kernel_rfl))
  t0 := Try.underlying0
  a0 := Try.isAgg0
  z0 := Try.sizeOf0
  v0 := Try.zeroValue0
  t3 := Try.underlying3
  a3 := Try.isAgg3
  z3 := Try.sizeOf3
  v3 := Try.zeroValue3
  t4 := Try.underlying4
  a4 := Try.isAgg4
  z4 := Try.sizeOf4
  v4 := Try.zeroValue4
  t9 := Try.underlying9
  a9 := Try.isAgg9
  z9 := Try.sizeOf9
  v9 := Try.zeroValue9
  t37 := Try.underlying91
  a37 := Try.isAgg91
  z37 := Try.sizeOf91
  v37 := Try.zeroValue91
  t127 := Try.underlying101
  a127 := Try.isAgg101
  z127 := Try.sizeOf101
  v127 := Try.zeroValue101
  t5 := Try.underlying5
  a5 := Try.isAgg5
  z5 := Try.sizeOf5
  v5 := Try.zeroValue5
  i0 := by kernel_rfl
  i3 := by kernel_rfl
  i4 := by kernel_rfl
  i5 := by kernel_rfl
  i9 := by kernel_rfl
  i37 := by kernel_rfl
  i127 := by kernel_rfl }
open Go.RowKit in
theorem Try.stringslite_Clone (s : ByteArray) (w : World) (hlim : s.size ≤ 281474976710656) :
    Calls Try.prog 60 #[.string s] w fun e w' => e = .returned (.string s) ∧ Below w.heap.size w w' := Any.stringslite_Clone Try.laysM316 s w hlim
end Go.Proofs

namespace Go.Proofs.Ytanpngnpolhgbaa
open Go.RowKit

set_option maxHeartbeats 400000 in
theorem clone_any (s : ByteArray) (w : World) (hlim : s.size ≤ 281474976710656) :
    Calls Try.prog 58 #[.string s] w fun e w' => e = .returned (.string s) ∧ Below w.heap.size w w' := by
  go_enter Try.func58, Try.ntmps58
  go_wp2_with (go_at_call 60; refine (Try.stringslite_Clone _ _ hlim).mono ?_; rintro e w1 ⟨rfl, hb1⟩)
  go_ret
  exact ⟨rfl, hb1⟩

end Go.Proofs.Ytanpngnpolhgbaa

namespace Go.Proofs.Ytanpngnpolhgbaa
open Go.RowKit
open Go.Lib hiding intOf

/-- A call answers this text, and turns nothing that was there. -/
def TextIs (t : ByteArray) (w : World) (e : Ending) (w' : World) : Prop := e = .returned (.string t) ∧ Below w.heap.size w w'
theorem TextIs.of {t u : ByteArray} {w w' : World} (h : u = t) (hb : Below w.heap.size w w') : TextIs t w (.returned (.string u)) w' := ⟨by rw [h], hb⟩

end Go.Proofs.Ytanpngnpolhgbaa

namespace Go.Proofs.Ytanpngnpolhgbaa

/-- The digits of a number that is not 0; none of 0. -/
def dgF : Nat → Nat → List UInt8
  | 0, _ => []
  | f + 1, n => if n = 0 then [] else dgF f (n / 10) ++ [UInt8.ofNat (48 + n % 10)]
theorem dgF_zero (f : Nat) : dgF f 0 = [] := by cases f <;> simp [dgF]
theorem dgF_pos (f n : Nat) (h : n ≠ 0) : dgF (f + 1) n = dgF f (n / 10) ++ [UInt8.ofNat (48 + n % 10)] := by simp [dgF, h]

end Go.Proofs.Ytanpngnpolhgbaa

namespace Go.Proofs.Ytanpngnpolhgbaa
open Go.RowKit
open Go.Lib hiding intOf

theorem conv_one (W : World) (d : Int) : (convert 91 9 (.slice (some ⟨W.heap.size, 0, none⟩) 1 1)).run Try.prog (W.alloc (.cells #[.int .u8 d] 5)) = .ok (.string (strOfNums [d])) (W.alloc (.cells #[.int .u8 d] 5)) :=
  run_convert_bytes_arg (P := Try.prog) (W.alloc (.cells #[.int .u8 d] 5)) 91 5 Try.underlying91 Try.underlying5 W.heap.size 0 1 1 [d] rfl (fun i hi => by
    have : i = 0 := by omega
    subst this
    simp) 9 Try.underlying9

end Go.Proofs.Ytanpngnpolhgbaa

namespace Go.Proofs.Ytanpngnpolhgbaa
open Go.RowKit
open Go.Lib hiding intOf

/-- What is owned lies from the base on. -/
theorem owns_ge {w : World} {base : Nat} {e : TypeId} {size : Nat} {v : Value} {n g : Nat} {xs : List Value} (h : w.ownsRow base e size v n xs) (hg : v.ownBlock = some g) : base ≤ g := by
  rcases h.2 with ⟨rfl, _⟩ | ⟨g', cap, cur, rfl, hb, _⟩
  · simp [Value.ownBlock] at hg
  · simp [Value.ownBlock] at hg; omega
end Go.Proofs.Ytanpngnpolhgbaa

namespace Go.Proofs.Ytanpngnpolhgbaa
open Go.RowKit
open Go.Lib hiding intOf

/-- What is owned stays so in every later world that keeps what was there. -/
theorem owns_below {w w' : World} {base B : Nat} {e : TypeId} {size : Nat} {v : Value} {n : Nat} {xs : List Value} (h : w.ownsRow base e size v n xs) (hb : Below B w w') (hB : ∀ g, v.ownBlock = some g → g < B) : w'.ownsRow base e size v n xs := by
  refine ⟨h.1, ?_⟩
  rcases h.2 with h2 | ⟨g, cap, cur, rfl, h3, h4, h5⟩
  · exact .inl h2
  · exact .inr ⟨g, cap, cur, rfl, h3, by rw [hb.block g (hB g rfl)]; exact h4, h5⟩
theorem owns_lt {w : World} {base : Nat} {e : TypeId} {size : Nat} {v : Value} {n g : Nat} {xs : List Value} (h : w.ownsRow base e size v n xs) (hg : v.ownBlock = some g) : g < w.heap.size := by
  rcases h.2 with ⟨rfl, _⟩ | ⟨g', cap, cur, rfl, hb, hh, _⟩
  · simp [Value.ownBlock] at hg
  · simp [Value.ownBlock] at hg
    subst hg
    exact (Array.getElem?_eq_some_iff.1 hh).1
theorem info9 : (Try.prog.info? 9).map (fun i => (i.zero, i.size, i.bytes)) = some (some (.string ⟨#[]⟩), 1, 16) := by kernel_rfl

end Go.Proofs.Ytanpngnpolhgbaa

namespace Go.Proofs.Ytanpngnpolhgbaa
open Go.RowKit
open Go.Lib hiding intOf

/-- The mark of a number. -/
def markOf (k : Nat) : ByteArray := ⟨(109 :: dgF 8 k).toArray⟩
/-- The text i of a list. -/
def textAt (xs : List ByteArray) (i : Nat) : ByteArray := xs.getD i ⟨#[]⟩

/-- What an owned list of texts is, cell by cell. -/
structure TextRow (base : Nat) (w : World) (g n cap : Nat) (xs : List ByteArray) : Prop where
  len : xs.length = n
  base : base ≤ g
  lt : g < w.heap.size
  le : n ≤ cap
  mx : cap ≤ maxLen
  heap : ∃ cur, w.heap[g]? = some (.cells cur 9 (0, 0)) ∧ cur.size = cap ∧ ∀ i, i < n → cur[i]? = some (.string (textAt xs i))
theorem TextRow.cell {base : Nat} {w : World} {g n cap : Nat} {xs : List ByteArray} (h : TextRow base w g n cap xs) (i : Nat) (hi : i < n) : w.cell? ⟨g, i, none⟩ = some (.string (textAt xs i)) := by
  obtain ⟨cur, hg, _, hc⟩ := h.heap
  simp only [World.cell?, hg]
  simpa using hc i hi
theorem TextRow.frozen {base : Nat} {w : World} {g n cap : Nat} {xs : List ByteArray} (h : TextRow base w g n cap xs) (i : Nat) : w.frozen? ⟨g, i, none⟩ = false := by
  obtain ⟨cur, hg, _⟩ := h.heap
  simp [World.frozen?, hg]
theorem TextRow.below {base B : Nat} {w w' : World} {g n cap : Nat} {xs : List ByteArray} (h : TextRow base w g n cap xs) (hb : Below B w w') (hB : g < B) : TextRow base w' g n cap xs := by
  obtain ⟨cur, hg, hc⟩ := h.heap
  have := hb.size; have := h.lt
  exact ⟨h.len, h.base, by omega, h.le, h.mx, cur, by rw [hb.block g hB]; exact hg, hc⟩
/-- One text of it stored anew. -/
theorem TextRow.set {base : Nat} {w : World} {g n cap : Nat} {xs : List ByteArray} (h : TextRow base w g n cap xs) (i : Nat) (hi : i < n) (t : ByteArray) : TextRow base (w.setCell ⟨g, i, none⟩ (.string t)) g n cap (xs.set i t) := by
  obtain ⟨cur, hg, hs, hc⟩ := h.heap
  refine ⟨by simp [h.len], h.base, by simpa using h.lt, h.le, h.mx, cur.setIfInBounds i (.string t), ?_, by simpa using hs, ?_⟩
  · simp [World.setCell, Array.getElem?_modify, hg]
  · intro j hj
    have hl := h.len
    have hle := h.le
    by_cases e : i = j
    · subst e
      have h1 : i < cur.size := by omega
      have h2 : i < xs.length := by omega
      simp [textAt, List.getD_eq_getElem?_getD, h1, h2]
    · rw [Array.getElem?_setIfInBounds_ne (by exact e), hc j hj]
      simp [textAt, List.getD_eq_getElem?_getD, e]
theorem textAt_map (xs : List ByteArray) (i : Nat) (h : i < xs.length) : (xs.map Value.string)[i]? = some (.string (textAt xs i)) := by
  simp [textAt, List.getD_eq_getElem?_getD, h]
/-- An owned list is empty, or such a row. -/
theorem row_form {w : World} {base n : Nat} {v : Value} {xs : List ByteArray} (h : w.ownsRow base 9 1 v n (xs.map Value.string)) :
    (∃ oa cap, v = .slice oa 0 cap ∧ n = 0 ∧ xs = []) ∨ ∃ g cap, v = .slice (some ⟨g, 0, none⟩) n cap ∧ 0 < n ∧ TextRow base w g n cap xs := by
  obtain ⟨hl, hv⟩ := h
  simp at hl
  rcases hv with ⟨rfl, h0⟩ | ⟨g, cap, cur, rfl, hb, hg, hn, hm, hcs, htk⟩
  · exact .inl ⟨none, 0, rfl, h0, List.length_eq_zero_iff.1 (by omega)⟩
  · by_cases h0 : n = 0
    · subst h0
      exact .inl ⟨_, _, rfl, rfl, List.length_eq_zero_iff.1 (by omega)⟩
    · refine .inr ⟨g, cap, rfl, by omega, hl, hb, (Array.getElem?_eq_some_iff.1 hg).1, hn, hm, cur, hg, by simpa using hcs, ?_⟩
      intro i hi
      have h1 : (cur.toList.take (n * 1))[i]? = some (.string (textAt xs i)) := by rw [htk]; exact textAt_map xs i (by omega)
      rw [List.getElem?_take, if_pos (by omega)] at h1
      simpa using h1
theorem TextRow.owns {base : Nat} {w : World} {g n cap : Nat} {xs : List ByteArray} (h : TextRow base w g n cap xs) : w.ownsRow base 9 1 (.slice (some ⟨g, 0, none⟩) n cap) n (xs.map Value.string) := by
  obtain ⟨cur, hg, hs, hc⟩ := h.heap
  refine ⟨by simp [h.len], .inr ⟨g, cap, cur, rfl, h.base, hg, h.le, h.mx, by simpa using hs, ?_⟩⟩
  apply List.ext_getElem?
  intro i
  have hl := h.len; have hle := h.le
  rw [List.getElem?_take, Nat.mul_one]
  by_cases hi : i < n
  · rw [if_pos hi, textAt_map xs i (by omega)]
    simpa using hc i hi
  · rw [if_neg hi, List.getElem?_eq_none (by simp; omega)]

set_option maxHeartbeats 1000000 in
theorem eqS_any (v1 v2 : Value) (n b1 b2 : Nat) (xs : List ByteArray) (w : World) (h1 : w.ownsRow b1 9 1 v1 n (xs.map Value.string)) (h2 : w.ownsRow b2 9 1 v2 n (xs.map Value.string)) (hn : n ≤ 2000000) :
    Calls Try.prog 45 #[v1, v2] w fun e w' => e = .returned (.bool true) ∧ Below w.heap.size w w' := by
  rcases row_form h1 with ⟨oa, ca, rfl, rfl, rfl⟩ | ⟨g1, c1, rfl, hp, r1⟩
  · rcases row_form h2 with ⟨ob, cb, rfl, _, _⟩ | ⟨g2, c2, rfl, hp2, _⟩
    · clear h1 h2
      go_enter Try.func45, Try.ntmps45
      go_wp2
      refine wp_loop_rounds 1 ?_
      rw [rounds_succ]
      go_wp2
      go_ret
      exact ⟨rfl, Below.refl _ _⟩
    · omega
  · rcases row_form h2 with ⟨ob, cb, rfl, h0, _⟩ | ⟨g2, c2, rfl, hp2, r2⟩
    · omega
    · clear h1 h2
      go_enter Try.func45, Try.ntmps45
      go_wp2
      go_loopw [5] (fun i wr => ∃ k : Nat, k ≤ n ∧ i = .int .i64 (k : Int) ∧ Below w.heap.size w wr) (fun i _ => n - (intOf i).toNat)
      case atStart => exact ⟨0, Nat.zero_le _, rfl, Below.refl _ _⟩
      case round =>
        obtain ⟨k, hk, rfl, hbw⟩ := hrel
        by_cases hlt : k < n
        · have hlt2 : (k : Int) < (n : Int) := by omega
          have hc1 := (r1.below hbw r1.lt).cell k hlt
          have hc2 := (r2.below hbw r2.lt).cell k hlt
          go_wp2
          go_quiet (fail)
          go_wp2
          go_roundw
          case rel => exact ⟨k + 1, by omega, by go_num, below_drewN hbw _⟩
          case measure => simp [intOf]; omega
        · go_wp2
          go_ret
          exact ⟨rfl, hbw⟩

set_option maxHeartbeats 1000000 in
theorem markText_any (n : Nat) (w : World) (h0 : 1 ≤ n) (hn : n ≤ 9999999) :
    Calls Try.prog 34 #[.int .i64 (n : Int)] w fun e w' => TextIs (markOf n) w e w' := by
  have hp0 : ¬ (n : Int) ≤ 0 := by omega
  have hcv := conv_one
  go_enter Try.func34, Try.ntmps34
  go_wp2
  go_loopw [0, 3] (fun a b wr => ∃ (f m : Nat) (out : ByteArray), a = .int .i64 (m : Int) ∧ b = .string out ∧ m ≤ 9999999 ∧ f ≤ 8 ∧ out.size ≤ 8 - f ∧ Below w.heap.size w wr ∧ Hid (m < 10 ^ f ∧ dgF f m ++ out.data.toList = dgF 8 n)) (fun a _ _ => (intOf a).toNat)
  case atStart => exact ⟨8, n, _, rfl, rfl, by omega, Nat.le_refl _, Nat.le_refl _, Below.refl _ _, ⟨by omega, by simp⟩⟩
  case round =>
    obtain ⟨f, m, out, rfl, rfl, hm, hf8, hsz, hbw, hd⟩ := hrel
    by_cases hp : (0 : Int) < (m : Int)
    · have hone : ∀ d : Int, (strOfNums [d]).size = 1 := fun d => strOfNums_size [d]
      go_wp2
      go_roundw
      case rel =>
        obtain ⟨hf, hdg⟩ := hd.out
        cases f with
        | zero => simp at hf; omega
        | succ f =>
          rw [Nat.pow_succ] at hf
          refine ⟨f, m / 10, strOfNums [48 + (m : Int) % 10] ++ out, by simp, rfl, by omega, by omega, ?_, hbw.alloc hbw.size _, by omega, ?_⟩
          · rw [ByteArray.size_append, hone]; omega
          · have e : (strOfNums [48 + (m : Int) % 10]).data.toList = [UInt8.ofNat (48 + m % 10)] := by
              rw [strOfNums_data]
              have : (48 + (m : Int) % 10).toNat = 48 + m % 10 := by omega
              simp only [List.map_cons, List.map_nil, this]
            rw [dgF_pos f m (by omega), List.append_assoc] at hdg
            rw [← hdg, ByteArray.data_append, Array.toList_append, e]
      case measure => simp [intOf]; omega
    · have hT : Hid (⟨#[109]⟩ ++ out = markOf n) := by
        obtain ⟨_, h⟩ := hd.out
        have e : m = 0 := by omega
        rw [e, dgF_zero, List.nil_append] at h
        show _ = _
        apply ByteArray.ext
        apply Array.toList_inj.1
        rw [ByteArray.data_append, Array.toList_append, h]
        rfl
      have hs2 : ¬ 9223372036854775807 < (⟨#[109]⟩ : ByteArray).size + out.size := by
        have : (⟨#[109]⟩ : ByteArray).size = 1 := rfl
        omega
      go_wp2
      go_ret
      exact TextIs.of hT.out hbw
theorem markText_int (x : Int) (n : Nat) (w : World) (hx : x = (n : Int)) (h0 : 1 ≤ n) (hn : n ≤ 9999999) :
    Calls Try.prog 34 #[.int .i64 x] w fun e w' => TextIs (markOf n) w e w' := by
  subst hx; exact markText_any n w h0 hn

end Go.Proofs.Ytanpngnpolhgbaa

namespace Go.Proofs.Ytanpngnpolhgbaa
open Go.RowKit
open Go.Lib hiding intOf

def nameAt (fs : List (ByteArray × ByteArray)) (i : Nat) : ByteArray := (fs.getD i (⟨#[]⟩, ⟨#[]⟩)).1
def valAt (fs : List (ByteArray × ByteArray)) (i : Nat) : ByteArray := (fs.getD i (⟨#[]⟩, ⟨#[]⟩)).2
/-- A list of fields as a row of cells: two a field. -/
def flatF (fs : List (ByteArray × ByteArray)) : List Value := fs.flatMap (fun f => [Value.string f.1, Value.string f.2])
theorem flatF_len (fs : List (ByteArray × ByteArray)) : (flatF fs).length = fs.length * 2 := by
  induction fs with
  | nil => rfl
  | cons f r ih => simp only [flatF, List.flatMap_cons, List.length_append, List.length_cons, List.length_nil] at ih ⊢; omega
theorem flatF_get : ∀ (fs : List (ByteArray × ByteArray)) (i : Nat), i < fs.length → (flatF fs)[i * 2]? = some (.string (nameAt fs i)) ∧ (flatF fs)[i * 2 + 1]? = some (.string (valAt fs i))
  | [], i, h => by simp at h
  | f :: r, 0, _ => by simp [flatF, nameAt, valAt]
  | f :: r, i + 1, h => by
    have ih := flatF_get r i (by simpa using h)
    have e : flatF (f :: r) = Value.string f.1 :: Value.string f.2 :: flatF r := rfl
    rw [e, show (i + 1) * 2 = i * 2 + 2 by omega, show i * 2 + 2 + 1 = (i * 2 + 1) + 2 by omega]
    simp only [List.getElem?_cons_succ]
    exact ih

/-- What an owned list of fields is, cell by cell. -/
structure FieldRow (base : Nat) (w : World) (g n cap : Nat) (fs : List (ByteArray × ByteArray)) : Prop where
  len : fs.length = n
  base : base ≤ g
  lt : g < w.heap.size
  le : n ≤ cap
  mx : cap ≤ maxLen
  heap : ∃ cur, w.heap[g]? = some (.cells cur 93 (0, 0)) ∧ cur.size = cap * 2 ∧ ∀ i, i < n → cur[i * 2]? = some (.string (nameAt fs i)) ∧ cur[i * 2 + 1]? = some (.string (valAt fs i))
theorem FieldRow.name {base : Nat} {w : World} {g n cap : Nat} {fs : List (ByteArray × ByteArray)} (h : FieldRow base w g n cap fs) (i : Nat) (hi : i < n) : w.cell? ⟨g, i * 2, none⟩ = some (.string (nameAt fs i)) := by
  obtain ⟨cur, hg, _, hc⟩ := h.heap
  simp only [World.cell?, hg]
  simpa using (hc i hi).1
theorem FieldRow.val {base : Nat} {w : World} {g n cap : Nat} {fs : List (ByteArray × ByteArray)} (h : FieldRow base w g n cap fs) (i : Nat) (hi : i < n) : w.cell? ⟨g, i * 2 + 1, none⟩ = some (.string (valAt fs i)) := by
  obtain ⟨cur, hg, _, hc⟩ := h.heap
  simp only [World.cell?, hg]
  simpa using (hc i hi).2
theorem FieldRow.frozen {base : Nat} {w : World} {g n cap : Nat} {fs : List (ByteArray × ByteArray)} (h : FieldRow base w g n cap fs) (i : Nat) : w.frozen? ⟨g, i, none⟩ = false := by
  obtain ⟨cur, hg, _⟩ := h.heap
  simp [World.frozen?, hg]
theorem FieldRow.below {base B : Nat} {w w' : World} {g n cap : Nat} {fs : List (ByteArray × ByteArray)} (h : FieldRow base w g n cap fs) (hb : Below B w w') (hB : g < B) : FieldRow base w' g n cap fs := by
  obtain ⟨cur, hg, hc⟩ := h.heap
  have := hb.size; have := h.lt
  exact ⟨h.len, h.base, by omega, h.le, h.mx, cur, by rw [hb.block g hB]; exact hg, hc⟩
/-- An owned list of fields is empty, or such a row. -/
theorem frow_form {w : World} {base n : Nat} {v : Value} {fs : List (ByteArray × ByteArray)} (h : w.ownsRow base 93 2 v n (flatF fs)) :
    (∃ oa cap, v = .slice oa 0 cap ∧ (oa = none → cap = 0) ∧ n = 0 ∧ fs = []) ∨ ∃ g cap, v = .slice (some ⟨g, 0, none⟩) n cap ∧ 0 < n ∧ FieldRow base w g n cap fs := by
  obtain ⟨hl, hv⟩ := h
  rw [flatF_len] at hl
  rcases hv with ⟨rfl, h0⟩ | ⟨g, cap, cur, rfl, hb, hg, hn, hm, hcs, htk⟩
  · exact .inl ⟨none, 0, rfl, fun _ => rfl, h0, List.length_eq_zero_iff.1 (by omega)⟩
  · by_cases h0 : n = 0
    · subst h0
      exact .inl ⟨_, _, rfl, (fun h => by cases h), rfl, List.length_eq_zero_iff.1 (by omega)⟩
    · refine .inr ⟨g, cap, rfl, by omega, by omega, hb, (Array.getElem?_eq_some_iff.1 hg).1, hn, hm, cur, hg, hcs, ?_⟩
      intro i hi
      have hf := flatF_get fs i (by omega)
      rw [← htk, List.getElem?_take, List.getElem?_take, if_pos (by omega), if_pos (by omega)] at hf
      simpa using hf
theorem FieldRow.owns {base : Nat} {w : World} {g n cap : Nat} {fs : List (ByteArray × ByteArray)} (h : FieldRow base w g n cap fs) : w.ownsRow base 93 2 (.slice (some ⟨g, 0, none⟩) n cap) n (flatF fs) := by
  obtain ⟨cur, hg, hs, hc⟩ := h.heap
  have hl := h.len; have hle := h.le
  refine ⟨by rw [flatF_len, hl], .inr ⟨g, cap, cur, rfl, h.base, hg, h.le, h.mx, hs, ?_⟩⟩
  apply List.ext_getElem?
  intro j
  rw [List.getElem?_take]
  by_cases hj : j < n * 2
  · rw [if_pos hj]
    have hf := flatF_get fs (j / 2) (by omega)
    have hcc := hc (j / 2) (by omega)
    rcases Nat.mod_two_eq_zero_or_one j with e | e
    · have e2 : j / 2 * 2 = j := by omega
      rw [e2] at hf hcc
      rw [hf.1]; simpa using hcc.1
    · have e2 : j / 2 * 2 + 1 = j := by omega
      rw [e2] at hf hcc
      rw [hf.2]; simpa using hcc.2
  · rw [if_neg hj, List.getElem?_eq_none (by rw [flatF_len]; omega)]

/-- A list of fields that a function reads: empty, or a row. -/
def FieldsV (w : World) (base : Nat) (v : Value) (n : Nat) (fs : List (ByteArray × ByteArray)) : Prop :=
  (∃ oa cap, v = .slice oa 0 cap ∧ (oa = none → cap = 0) ∧ n = 0 ∧ fs = []) ∨ ∃ g cap, v = .slice (some ⟨g, 0, none⟩) n cap ∧ 0 < n ∧ FieldRow base w g n cap fs

theorem FieldsV.of_owns {w : World} {base n : Nat} {v : Value} {fs : List (ByteArray × ByteArray)} (h : w.ownsRow base 93 2 v n (flatF fs)) : FieldsV w base v n fs := frow_form h
theorem FieldsV.below {w w' : World} {base n : Nat} {v : Value} {fs : List (ByteArray × ByteArray)} (h : FieldsV w base v n fs) (hb : Below w.heap.size w w') : FieldsV w' base v n fs := by
  rcases h with h | ⟨g, cap, h1, h2, h3⟩
  · exact .inl h
  · exact .inr ⟨g, cap, h1, h2, h3.below hb h3.lt⟩
/-- A list of fields is a slice; where there is a field it is a row's. -/
theorem FieldsV.slice {w : World} {base n : Nat} {v : Value} {fs : List (ByteArray × ByteArray)} (h : FieldsV w base v n fs) :
    ∃ oa cap, v = .slice oa n cap ∧ ∀ k, k < n → ∃ g, oa = some ⟨g, 0, none⟩ ∧ FieldRow base w g n cap fs := by
  rcases h with ⟨oa, ca, rfl, _, rfl, rfl⟩ | ⟨g, cap, rfl, hp, row⟩
  · exact ⟨oa, ca, rfl, fun k hk => absurd hk (by omega)⟩
  · exact ⟨_, cap, rfl, fun k _ => ⟨g, rfl, row⟩⟩

end Go.Proofs.Ytanpngnpolhgbaa

namespace Go.Proofs.Ytanpngnpolhgbaa
open Go.RowKit
open Go.Lib hiding intOf

attribute [local go_sem ↓] Go.wp_at_zero Go.wp_at_succ

theorem heap_set (w : World) (c o : Nat) (cs : Array Value) (t : TypeId) (fz : Nat × Nat) (v : Value) (h : w.heap[c]? = some (.cells cs t fz)) : (w.setCell ⟨c, o, none⟩ v).heap[c]? = some (.cells (cs.setIfInBounds o v) t fz) := by
  simp [World.setCell, Array.getElem?_modify, h]
set_option maxHeartbeats 1000000 in
theorem eqField_any (nm vl : ByteArray) (w : World) :
    Calls Try.prog 59 #[.agg #[.string nm, .string vl], .agg #[.string nm, .string vl]] w fun e w' => e = .returned (.bool true) ∧ Below w.heap.size w w' := by
  go_enter Try.func59, Try.ntmps59
  go_wp2
  go_ret
  exact ⟨rfl, ((Below.refl _ _).alloc (Nat.le_refl _) _).alloc (by simp) _⟩

set_option maxHeartbeats 2000000 in
theorem eqFieldS_any (v1 v2 : Value) (n b1 b2 : Nat) (fs : List (ByteArray × ByteArray)) (w : World) (h1 : FieldsV w b1 v1 n fs) (h2 : FieldsV w b2 v2 n fs) (hn : n ≤ 2000000) :
    Calls Try.prog 57 #[v1, v2] w fun e w' => e = .returned (.bool true) ∧ Below w.heap.size w w' := by
  rcases h1 with ⟨oa, ca, rfl, _, rfl, rfl⟩ | ⟨g1, c1, rfl, hp, r1⟩
  · rcases h2 with ⟨ob, cb, rfl, _, _, _⟩ | ⟨g2, c2, rfl, hp2, _⟩
    · go_enter Try.func57, Try.ntmps57
      go_wp2
      refine wp_loop_rounds 1 ?_
      rw [rounds_succ]
      go_wp2
      go_ret
      exact ⟨rfl, Below.refl _ _⟩
    · omega
  · rcases h2 with ⟨ob, cb, rfl, _, h0, _⟩ | ⟨g2, c2, rfl, hp2, r2⟩
    · omega
    · go_enter Try.func57, Try.ntmps57
      go_wp2
      go_loopw [5] (fun i wr => ∃ k : Nat, k ≤ n ∧ i = .int .i64 (k : Int) ∧ Below w.heap.size w wr) (fun i _ => n - (intOf i).toNat)
      case atStart => exact ⟨0, Nat.zero_le _, rfl, Below.refl _ _⟩
      case round =>
        obtain ⟨k, hk, rfl, hbw⟩ := hrel
        by_cases hlt : k < n
        · have hlt2 : (k : Int) < (n : Int) := by omega
          obtain ⟨nm, hnm⟩ : ∃ y, y = nameAt fs k := ⟨_, rfl⟩
          obtain ⟨vl, hvl⟩ : ∃ y, y = valAt fs k := ⟨_, rfl⟩
          have ha := (r1.below hbw r1.lt).name k hlt
          have hb := (r1.below hbw r1.lt).val k hlt
          have hc := (r2.below hbw r2.lt).name k hlt
          have hd := (r2.below hbw r2.lt).val k hlt
          rw [← hnm] at ha hc
          rw [← hvl] at hb hd
          have HA : Hid (∀ w0 w1, Below wr.heap.size wr w0 → Below w0.heap.size w0 w1 → (w1.cell? ⟨g1, k * 2, none⟩ = some (.string nm) ∧ w1.cell? ⟨g1, k * 2 + 1, none⟩ = some (.string vl) ∧ w1.cell? ⟨g2, k * 2, none⟩ = some (.string nm) ∧ w1.cell? ⟨g2, k * 2 + 1, none⟩ = some (.string vl)) ∧ Below wr.heap.size wr w1) := fun w0 w1 h h' => by
            have hx := h.trans (h'.mono h.size)
            have hy := hbw.trans (hx.mono hbw.size)
            have a1 := (r1.below hy r1.lt).name k hlt
            have a2 := (r1.below hy r1.lt).val k hlt
            have a3 := (r2.below hy r2.lt).name k hlt
            have a4 := (r2.below hy r2.lt).val k hlt
            rw [← hnm] at a1 a3
            rw [← hvl] at a2 a4
            exact ⟨⟨a1, a2, a3, a4⟩, hx⟩
          clear hnm hvl
          go_wp2
          go_region_held3 (fun w' => w'.cell? ⟨g1, k * 2, none⟩ = some (.string nm) ∧ w'.cell? ⟨g1, k * 2 + 1, none⟩ = some (.string vl) ∧ w'.cell? ⟨g2, k * 2, none⟩ = some (.string nm) ∧ w'.cell? ⟨g2, k * 2 + 1, none⟩ = some (.string vl)) (first | assumption | go_keep) (first | (go_at_call 59; refine (eqField_any _ _ _).mono ?_; rintro e w1 ⟨rfl, hb1⟩; obtain ⟨hcc, hbx⟩ := HA.out _ w1 ((Below.refl _ wr).drew) hb1))
          go_wp2
          go_roundw
          case rel => exact ⟨k + 1, by omega, by go_num, hbw.trans (hbx.mono hbw.size)⟩
          case measure => simp [intOf]; omega
        · go_wp2
          go_ret
          exact ⟨rfl, hbw⟩

theorem nameAt_set (fs : List (ByteArray × ByteArray)) (k j : Nat) (p : ByteArray × ByteArray) (hk : k < fs.length) : nameAt (fs.set k p) j = (if j = k then p.1 else nameAt fs j) ∧ valAt (fs.set k p) j = (if j = k then p.2 else valAt fs j) := by
  unfold nameAt valAt
  rw [List.getD_eq_getElem?_getD, List.getD_eq_getElem?_getD]
  by_cases e : j = k
  · subst e
    rw [if_pos rfl, if_pos rfl, List.getElem?_set_self (by omega)]
    exact ⟨rfl, rfl⟩
  · rw [if_neg e, if_neg e, List.getElem?_set_ne (by omega)]
    exact ⟨rfl, rfl⟩
theorem heap_setCell_congr {w w' : World} {g : Nat} (h : w'.heap[g]? = w.heap[g]?) (o : Nat) (v : Value) : (w'.setCell ⟨g, o, none⟩ v).heap[g]? = (w.setCell ⟨g, o, none⟩ v).heap[g]? := by
  simp [World.setCell, Array.getElem?_modify, h]
/-- One field of a row stored anew. -/
theorem FieldRow.set {base : Nat} {w : World} {g n cap : Nat} {fs : List (ByteArray × ByteArray)} (h : FieldRow base w g n cap fs) (k : Nat) (hk : k < n) (a b : ByteArray) (W : World) (hW : W.heap[g]? = ((w.setCell ⟨g, k * 2, none⟩ (.string a)).setCell ⟨g, k * 2 + 1, none⟩ (.string b)).heap[g]?) (hsz : w.heap.size ≤ W.heap.size) : FieldRow base W g n cap (fs.set k (a, b)) := by
  have hl := h.len; have hle := h.le
  obtain ⟨cur, h1, h2, h3⟩ := h.heap
  have hlt := h.lt
  refine ⟨by simp [hl], h.base, by omega, h.le, h.mx, (cur.setIfInBounds (k * 2) (.string a)).setIfInBounds (k * 2 + 1) (.string b), ?_, by simpa using h2, ?_⟩
  · rw [hW]; exact heap_set _ g (k * 2 + 1) _ _ _ _ (heap_set w g (k * 2) _ _ _ _ h1)
  · intro i hi
    have hs := nameAt_set fs k i (a, b) (by omega)
    rw [hs.1, hs.2]
    by_cases e : i = k
    · subst e
      rw [if_pos rfl, if_pos rfl]
      refine ⟨?_, ?_⟩
      · rw [Array.getElem?_setIfInBounds_ne (by omega), Array.getElem?_setIfInBounds_self_of_lt (by omega)]
      · rw [Array.getElem?_setIfInBounds_self_of_lt (by simp; omega)]
    · rw [if_neg e, if_neg e]
      have := h3 i hi
      refine ⟨?_, ?_⟩
      · rw [Array.getElem?_setIfInBounds_ne (by omega), Array.getElem?_setIfInBounds_ne (by omega)]; exact this.1
      · rw [Array.getElem?_setIfInBounds_ne (by omega), Array.getElem?_setIfInBounds_ne (by omega)]; exact this.2

end Go.Proofs.Ytanpngnpolhgbaa

namespace Go.Proofs.Ytanpngnpolhgbaa
open Go.RowKit
open Go.Lib hiding intOf

theorem owns_wide {w : World} {B base : Nat} {e : TypeId} {size : Nat} {v : Value} {n : Nat} {xs : List Value} (h : w.ownsRow base e size v n xs) (hB : B ≤ base) : w.ownsRow B e size v n xs := by
  obtain ⟨hl, hv⟩ := h
  refine ⟨hl, ?_⟩
  rcases hv with h0 | ⟨g, cap, cur, h1, h2, h3⟩
  · exact .inl h0
  · exact .inr ⟨g, cap, cur, h1, Nat.le_trans hB h2, h3⟩
theorem owns_same {w w' : World} {base : Nat} {e : TypeId} {size : Nat} {v : Value} {n : Nat} {xs : List Value} (h : w.ownsRow base e size v n xs) (hs : ∀ j, v.ownBlock = some j → w'.heap[j]? = w.heap[j]?) : w'.ownsRow base e size v n xs := by
  obtain ⟨hl, hv⟩ := h
  refine ⟨hl, ?_⟩
  rcases hv with h0 | ⟨g, cap, cur, rfl, h2, h3, h4⟩
  · exact .inl h0
  · exact .inr ⟨g, cap, cur, rfl, h2, by rw [hs g rfl]; exact h3, h4⟩

end Go.Proofs.Ytanpngnpolhgbaa

namespace Go.Proofs.Ytanpngnpolhgbaa
open Go.RowKit
open Go.Lib hiding intOf

/-- A row in memory: its elements' type and how many cells each has, the slice, how many elements, their cells. -/
structure Rw where
  T : TypeId
  z : Nat
  v : Value
  n : Nat
  c : List Value
def Rw.own (r : Rw) (w : World) (base : Nat) : Prop := w.ownsRow base r.T r.z r.v r.n r.c
def Rw.ne (a b : Rw) : Prop := ∀ g, a.v.ownBlock = some g → b.v.ownBlock ≠ some g
theorem Rw.ne.symm {a b : Rw} (h : a.ne b) : b.ne a := fun g h1 h2 => h g h2 h1
/-- Rows of one's own, no two in one block. -/
structure RowsO (w : World) (base : Nat) (rs : List Rw) : Prop where
  own : ∀ r ∈ rs, r.own w base
  apart : rs.Pairwise Rw.ne
theorem RowsO.one {w : World} {base : Nat} {r : Rw} (h : r.own w base) : RowsO w base [r] := ⟨fun x hx => by rw [List.mem_singleton.1 hx]; exact h, List.pairwise_singleton _ _⟩
theorem RowsO.ge {w : World} {base : Nat} {rs : List Rw} (h : RowsO w base rs) {r : Rw} (hr : r ∈ rs) {g : Nat} (hg : r.v.ownBlock = some g) : base ≤ g := owns_ge (h.own r hr) hg
theorem RowsO.lt {w : World} {base : Nat} {rs : List Rw} (h : RowsO w base rs) {r : Rw} (hr : r ∈ rs) {g : Nat} (hg : r.v.ownBlock = some g) : g < w.heap.size := owns_lt (h.own r hr) hg
theorem RowsO.same {w w' : World} {base : Nat} {rs : List Rw} (h : RowsO w base rs) (hs : ∀ r ∈ rs, ∀ g, r.v.ownBlock = some g → w'.heap[g]? = w.heap[g]?) : RowsO w' base rs :=
  ⟨fun r hr => owns_same (h.own r hr) (hs r hr), h.apart⟩
theorem RowsO.below {w w' : World} {base : Nat} {rs : List Rw} (h : RowsO w base rs) (hb : Below w.heap.size w w') : RowsO w' base rs := h.same (fun _ hr g hg => hb.block g (h.lt hr hg))
theorem RowsO.wide {w : World} {B base : Nat} {rs : List Rw} (h : RowsO w base rs) (hB : B ≤ base) : RowsO w B rs := ⟨fun r hr => owns_wide (h.own r hr) hB, h.apart⟩
theorem RowsO.sub {w : World} {base : Nat} {rs rs' : List Rw} (h : RowsO w base rs) (hs : List.Sublist rs' rs) : RowsO w base rs' := ⟨fun r hr => h.own r (hs.subset hr), h.apart.sublist hs⟩
/-- One row turned where it lies: all others stay. -/
theorem RowsO.turn {w w' : World} {base : Nat} {pre post : List Rw} {r r' : Rw} (h : RowsO w base (pre ++ r :: post)) (hv : r'.v = r.v) (h' : r'.own w' base) (hs : ∀ g, g < w.heap.size → r.v.ownBlock ≠ some g → w'.heap[g]? = w.heap[g]?) : RowsO w' base (pre ++ r' :: post) := by
  have hp := h.apart
  rw [List.pairwise_append, List.pairwise_cons] at hp
  obtain ⟨p1, ⟨p2, p3⟩, p4⟩ := hp
  have keep : ∀ x, x ∈ pre ++ r :: post → x.ne r → x.own w' base := fun x hx hne => owns_same (h.own x hx) (fun g hg => hs g (h.lt hx hg) (hne g hg))
  refine ⟨fun x hx => ?_, ?_⟩
  · rcases List.mem_append.1 hx with hx | hx
    · exact keep x (List.mem_append.2 (.inl hx)) (p4 x hx r (by simp))
    · rcases List.mem_cons.1 hx with hx | hx
      · rw [hx]; exact h'
      · exact keep x (by simp [hx]) (p2 x hx).symm
  · rw [List.pairwise_append, List.pairwise_cons]
    refine ⟨p1, ⟨fun b hb => ?_, p3⟩, fun a ha b hb => ?_⟩
    · unfold Rw.ne
      rw [hv]
      exact p2 b hb
    · rcases List.mem_cons.1 hb with hb | hb
      · rw [hb]
        unfold Rw.ne
        rw [hv]
        exact p4 a ha r (by simp)
      · exact p4 a ha b (by simp [hb])
/-- The cells of a list of items, each of so many cells. -/
theorem items_len {α : Type} (enc : α → List Value) (z : Nat) (hz : ∀ x, (enc x).length = z) : ∀ l : List α, (l.flatMap enc).length = l.length * z
  | [] => by simp
  | x :: l => by rw [List.flatMap_cons, List.length_append, hz, items_len enc z hz l, List.length_cons, Nat.succ_mul]; omega
theorem items_cut {α : Type} (enc : α → List Value) (l : List α) (i : Nat) (hi : i < l.length) : l.flatMap enc = (l.take i).flatMap enc ++ (enc (l[i]'hi) ++ (l.drop (i + 1)).flatMap enc) := by
  have e : l = l.take i ++ (l[i]'hi) :: l.drop (i + 1) := by rw [List.getElem_cons_drop, List.take_append_drop]
  conv => lhs; rw [e]
  rw [List.flatMap_append, List.flatMap_cons]
theorem items_at {α : Type} (enc : α → List Value) (z : Nat) (hz : ∀ x, (enc x).length = z) (l : List α) (i j : Nat) (hi : i < l.length) (hj : j < z) : (l.flatMap enc)[i * z + j]? = (enc (l[i]'hi))[j]? := by
  rw [items_cut enc l i hi]
  have e : ((l.take i).flatMap enc).length = i * z := by rw [items_len enc z hz, List.length_take, Nat.min_eq_left (Nat.le_of_lt hi)]
  rw [List.getElem?_append_right (by omega), e, Nat.add_sub_cancel_left, List.getElem?_append_left (by rw [hz]; exact hj)]
end Go.Proofs.Ytanpngnpolhgbaa

namespace Go.Proofs.Ytanpngnpolhgbaa
open Go.RowKit
open Go.Lib hiding intOf

theorem slice_of_owns {w : World} {base : Nat} {t : TypeId} {size : Nat} {v : Value} {n : Nat} {xs : List Value} (h : w.ownsRow base t size v n xs) : ∃ oa cp, v = .slice oa n cp := by
  rcases h.2 with ⟨rfl, rfl⟩ | ⟨g, cap, cur, rfl, _⟩
  · exact ⟨none, 0, rfl⟩
  · exact ⟨_, cap, rfl⟩
end Go.Proofs.Ytanpngnpolhgbaa

namespace Go.Proofs.Ytanpngnpolhgbaa
open Go.RowKit
open Go.Lib hiding intOf

theorem owns_setC {w : World} {base : Nat} {t : TypeId} {size g n cap : Nat} {xs : List Value} (h : w.ownsRow base t size (.slice (some ⟨g, 0, none⟩) n cap) n xs) (o : Nat) (u : Value) : (w.setCell ⟨g, o, none⟩ u).ownsRow base t size (.slice (some ⟨g, 0, none⟩) n cap) n (xs.set o u) := by
  obtain ⟨hl, hv⟩ := h
  refine ⟨by simpa using hl, ?_⟩
  rcases hv with ⟨e, _⟩ | ⟨g', cap', cur, e, h1, h2, h3, h4, h5, h6⟩
  · cases e
  · cases e
    refine .inr ⟨g, cap, _, rfl, h1, heap_set w g o cur t (0, 0) u h2, h3, h4, by simpa using h5, ?_⟩
    rw [Array.toList_setIfInBounds, List.take_set, h6]
theorem owns_cellC {w : World} {base : Nat} {t : TypeId} {size g n cap : Nat} {xs : List Value} (h : w.ownsRow base t size (.slice (some ⟨g, 0, none⟩) n cap) n xs) (o : Nat) (u : Value) (ho : xs[o]? = some u) : w.cell? ⟨g, o, none⟩ = some u ∧ w.frozen? ⟨g, o, none⟩ = false := by
  obtain ⟨hl, hv⟩ := h
  rcases hv with ⟨e, _⟩ | ⟨g', cap', cur, e, h1, h2, h3, h4, h5, h6⟩
  · cases e
  · cases e
    refine ⟨?_, by simp [World.frozen?, h2]⟩
    rw [← h6, List.getElem?_take] at ho
    split at ho
    · simpa [World.cell?, h2] using ho
    · cases ho
theorem own_noR {w : World} {base : Nat} {t : TypeId} {size : Nat} {v : Value} {n : Nat} {xs : List Value} {j : Nat} {cs : Array Value} {T : TypeId} {fr : Nat × Nat} (h : w.ownsRow base t size v n xs) (hT : T ≠ t) (hj : w.heap[j]? = some (.cells cs T fr)) : v.ownBlock ≠ some j := by
  intro e
  rcases h.2 with ⟨rfl, _⟩ | ⟨g, cap, cur, rfl, _, h1, _⟩
  · cases e
  · cases e
    rw [h1] at hj
    cases hj
    exact hT rfl
theorem own_blockR {w : World} {base : Nat} {t : TypeId} {size : Nat} {v : Value} {n : Nat} {xs : List Value} {j : Nat} (h : w.ownsRow base t size v n xs) (hj : v.ownBlock = some j) : ∃ cur, w.heap[j]? = some (.cells cur t (0, 0)) := by
  rcases h.2 with ⟨rfl, _⟩ | ⟨g, cap, cur, rfl, h0, h1, _⟩
  · cases hj
  · cases hj
    exact ⟨cur, h1⟩
theorem own_two {w : World} {b1 b2 : Nat} {t1 t2 : TypeId} {s1 s2 : Nat} {v1 v2 : Value} {n1 n2 : Nat} {x1 x2 : List Value} {j : Nat} (h1 : w.ownsRow b1 t1 s1 v1 n1 x1) (h2 : w.ownsRow b2 t2 s2 v2 n2 x2) (hT : t1 ≠ t2) (hj : v1.ownBlock = some j) : v2.ownBlock ≠ some j := by
  obtain ⟨cur, hc⟩ := own_blockR h1 hj
  exact own_noR h2 hT hc

end Go.Proofs.Ytanpngnpolhgbaa

namespace Go.Proofs.Ytanpngnpolhgbaa
open Go.RowKit
open Go.Lib hiding intOf

/-- A list of texts that is read. -/
def TextsA (w : World) (oa : Option Addr) (n : Nat) (xs : List ByteArray) : Prop :=
  xs.length = n ∧ ∀ i, i < n → ∃ g, oa = some ⟨g, 0, none⟩ ∧ g < w.heap.size ∧ w.cell? ⟨g, i, none⟩ = some (.string (textAt xs i))
theorem TextsA.below {w w' : World} {oa : Option Addr} {n : Nat} {xs : List ByteArray} (h : TextsA w oa n xs) (hb : Below w.heap.size w w') : TextsA w' oa n xs :=
  ⟨h.1, fun i hi => by
    obtain ⟨g, h1, h2, h3⟩ := h.2 i hi
    exact ⟨g, h1, Nat.lt_of_lt_of_le h2 hb.size, by rw [hb.cell (p := ⟨g, i, none⟩) h2]; exact h3⟩⟩
end Go.Proofs.Ytanpngnpolhgbaa

namespace Go.Proofs.Ytanpngnpolhgbaa
open Go.RowKit
open Go.Lib hiding intOf

/-- All blocks that were there but the list's own are as they were. -/
def Far (v : Value) (w w' : World) : Prop := ∀ j, j < w.heap.size → v.ownBlock ≠ some j → w'.heap[j]? = w.heap[j]?

end Go.Proofs.Ytanpngnpolhgbaa

namespace Go.Proofs.Ytanpngnpolhgbaa
open Go.RowKit
open Go.Lib hiding intOf

/-- The first k texts of a row of n cells are told. -/
def PartT (w : World) (g n k : Nat) (xs : List ByteArray) : Prop :=
  ∃ cur, w.heap[g]? = some (.cells cur 9 (0, 0)) ∧ cur.size = n ∧ ∀ i, i < k → cur[i]? = some (.string (textAt xs i))
theorem PartT.put {w : World} {g n k : Nat} {xs : List ByteArray} (h : PartT w g n k xs) (hk : k < n) : PartT (w.setCell ⟨g, k, none⟩ (.string (textAt xs k))) g n (k + 1) xs := by
  obtain ⟨cur, h1, h2, h3⟩ := h
  refine ⟨_, heap_set w g k _ _ _ _ h1, by simpa using h2, fun i hi => ?_⟩
  by_cases e : i = k
  · subst e
    exact Array.getElem?_setIfInBounds_self_of_lt (by omega)
  · rw [Array.getElem?_setIfInBounds_ne (fun x => e x.symm)]
    exact h3 i (by omega)
theorem PartT.row {w : World} {g n base : Nat} {xs : List ByteArray} (h : PartT w g n n xs) (hl : xs.length = n) (hb : base ≤ g) (hn : n ≤ maxLen) : TextRow base w g n n xs := by
  obtain ⟨cur, h1, h2, h3⟩ := h
  exact ⟨hl, hb, (Array.getElem?_eq_some_iff.1 h1).1, Nat.le_refl _, hn, cur, h1, h2, h3⟩

end Go.Proofs.Ytanpngnpolhgbaa

namespace Go.Proofs.Ytanpngnpolhgbaa
open Go.RowKit
open Go.Lib hiding intOf

set_option maxHeartbeats 2000000 in
set_option maxRecDepth 100000 in
theorem eqResp_any (m : Int) (v1 v2 : Value) (b : ByteArray) (n b1 b2 : Nat) (fs : List (ByteArray × ByteArray)) (w : World) (h1 : FieldsV w b1 v1 n fs) (h2 : FieldsV w b2 v2 n fs) (hn : n ≤ 2000000) :
    Calls Try.prog 52 #[.agg #[.int .i64 m, v1, .string b], .agg #[.int .i64 m, v2, .string b]] w fun e w' => e = .returned (.bool true) ∧ Below w.heap.size w w' := by
  obtain ⟨oa, ca, rfl, _⟩ := h1.slice
  obtain ⟨ob, cb, rfl, _⟩ := h2.slice
  have tb : (b.toList == b.toList) = true := by simp
  have tm : (m != m) = false := by simp
  obtain ⟨w0, hw0⟩ : ∃ W, W = ((w.alloc (.cells #[.int .i64 m, .slice oa n ca, .string b] 58)).alloc (.cells #[.int .i64 m, .slice ob n cb, .string b] 58)) := ⟨_, rfl⟩
  have hs0 : w0.heap.size = w.heap.size + 1 + 1 := by rw [hw0]; simp
  have hb0 : Below w.heap.size w w0 := by rw [hw0]; exact ((Below.refl _ w).alloc (Nat.le_refl _) _).alloc (by simp) _
  have x1 : w0.heap[w.heap.size]? = some (.cells #[.int .i64 m, .slice oa n ca, .string b] 58) := by
    rw [hw0, heap_alloc_old _ _ (by simp)]; exact heap_alloc_new w _
  have x2 : w0.heap[w.heap.size + 1]? = some (.cells #[.int .i64 m, .slice ob n cb, .string b] 58) := by
    rw [hw0]
    have := heap_alloc_new (w.alloc (.cells #[.int .i64 m, .slice oa n ca, .string b] 58)) (.cells #[.int .i64 m, .slice ob n cb, .string b] 58)
    simpa using this
  go_enter Try.func52, Try.ntmps52
  go_wp2_with fail
  rw [← hw0]
  refine (eqFieldS_any _ _ n b1 b2 fs _ (h1.below hb0) (h2.below hb0) hn).mono ?_
  rintro e w1 ⟨rfl, bb1⟩
  rw [← bb1.block _ (by omega)] at x1 x2
  obtain ⟨q, hq⟩ : ∃ q, q = w.heap.size + 1 := ⟨_, rfl⟩
  obtain ⟨c, hc⟩ : ∃ c, c = w.heap.size := ⟨_, rfl⟩
  rw [← hq] at x2
  rw [← hc] at x1
  have y1 : w1.cell? ⟨c, 2, none⟩ = some (.string b) := by simp [World.cell?, x1]
  have y2 : w1.cell? ⟨q, 2, none⟩ = some (.string b) := by simp [World.cell?, x2]
  have hbw1 : Below w.heap.size w w1 := hb0.trans (bb1.mono hb0.size)
  rw [← hq, ← hc]
  clear x1 x2 hq hc hw0 hs0 hb0 bb1 h1 h2
  go_wp2
  go_ret
  exact ⟨rfl, hbw1⟩

end Go.Proofs.Ytanpngnpolhgbaa

namespace Go.Proofs.Ytanpngnpolhgbaa
open Go.RowKit
open Go.Lib hiding intOf

/-- The list with its first k fields marked, from k0 on. -/
def mkG (k0 : Nat) (fs : List (ByteArray × ByteArray)) : Nat → List (ByteArray × ByteArray)
  | 0 => fs
  | k + 1 => (mkG k0 fs k).set k (markOf (k0 + 2 * k), markOf (k0 + 2 * k + 1))
theorem mkG_len (k0 : Nat) (fs : List (ByteArray × ByteArray)) : ∀ k, (mkG k0 fs k).length = fs.length
  | 0 => rfl
  | k + 1 => by rw [mkG, List.length_set, mkG_len k0 fs k]
theorem mkG_at (k0 : Nat) (fs : List (ByteArray × ByteArray)) (j : Nat) : ∀ k, k ≤ fs.length → j < k → nameAt (mkG k0 fs k) j = markOf (k0 + 2 * j) ∧ valAt (mkG k0 fs k) j = markOf (k0 + 2 * j + 1) := by
  intro k
  induction k with
  | zero => intro _ h; omega
  | succ k ih =>
    intro hk h
    have hs := nameAt_set (mkG k0 fs k) k j (markOf (k0 + 2 * k), markOf (k0 + 2 * k + 1)) (by rw [mkG_len]; omega)
    rw [mkG, hs.1, hs.2]
    by_cases e : j = k
    · subst e; rw [if_pos rfl, if_pos rfl]; exact ⟨rfl, rfl⟩
    · rw [if_neg e, if_neg e]; exact ih (by omega) (by omega)

set_option maxHeartbeats 2000000 in
theorem markFrom_any (v : Value) (n base : Nat) (fs : List (ByteArray × ByteArray)) (w : World) (h1 : w.ownsRow base 93 2 v n (flatF fs)) (hb : base ≤ w.heap.size) (k0 : Nat) (hk0 : 1 ≤ k0) (hn : k0 + 2 * n ≤ 9999999) :
    Calls Try.prog 35 #[v, .int .i64 (k0 : Int)] w fun e w' => e = .returned (.int .i64 ((k0 : Int) + 2 * (n : Int))) ∧ w'.ownsRow base 93 2 v n (flatF (mkG k0 fs n)) ∧ Below base w w' ∧ Far v w w' := by
  rcases frow_form h1 with ⟨oa, ca, rfl, _, rfl, rfl⟩ | ⟨g, cap, rfl, hp, r1⟩
  · go_enter Try.func35, Try.ntmps35
    go_wp2
    refine wp_loop_rounds 1 ?_
    rw [rounds_succ]
    go_wp2
    go_ret
    exact ⟨ret_int (by simp), h1, Below.refl _ _, fun j _ _ => rfl⟩
  · clear h1
    go_enter Try.func35, Try.ntmps35
    go_wp2
    go_loopw [1, 5] (fun q i wr => ∃ k : Nat, k ≤ n ∧ i = .int .i64 (k : Int) ∧ q = .int .i64 ((k0 : Int) + 2 * (k : Int)) ∧ Below base w wr ∧ FieldRow base wr g n cap (mkG k0 fs k) ∧ Hid (∀ j, j < w.heap.size → j ≠ g → wr.heap[j]? = w.heap[j]?)) (fun _ i _ => n - (intOf i).toNat)
    case atStart => exact ⟨0, Nat.zero_le _, rfl, by simp, Below.refl _ _, r1, fun j _ _ => rfl⟩
    case round =>
      obtain ⟨k, hk, rfl, rfl, hbw, hrow, hfar⟩ := hrel
      by_cases hlt : k < n
      · have hlt2 : (k : Int) < (n : Int) := by omega
        have hszr := hbw.size
        go_wp2_with fail
        refine (markText_int _ (k0 + 2 * k) _ (by omega) (by omega) (by omega)).mono ?_
        rintro e w1 ⟨rfl, hb1⟩
        have hrow1 := hrow.below hb1 hrow.lt
        have hc := hrow1.name k hlt
        have hf := hrow1.frozen (k * 2)
        have hb2 : Below base w w1 := hbw.trans (hb1.mono (Nat.le_trans hb hbw.size))
        have HF1 : Hid (∀ j, j < w.heap.size → j ≠ g → w1.heap[j]? = w.heap[j]?) := fun j hj hne => by rw [hb1.block j (by omega)]; exact hfar.out j hj hne
        clear hb1 hbw
        go_wp2_with fail
        refine (markText_int _ (k0 + 2 * k + 1) _ (by omega) (by omega) (by omega)).mono ?_
        rintro e w2 ⟨rfl, hb3⟩
        have hlt3 : g < (w1.setCell ⟨g, k * 2, none⟩ (.string (markOf (k0 + 2 * k)))).heap.size := by simpa using hrow1.lt
        have hblk := hb3.block g hlt3
        have hc2 : w2.cell? ⟨g, k * 2 + 1, none⟩ = some (.string (valAt (mkG k0 fs k) k)) := by
          rw [World.cell?_of_block (w := w1.setCell ⟨g, k * 2, none⟩ (.string (markOf (k0 + 2 * k)))) hblk, World.cell?_setCell_other (h := fun e => by have := congrArg Addr.off e; simp at this)]
          exact hrow1.val k hlt
        have hf2 : w2.frozen? ⟨g, k * 2 + 1, none⟩ = false := by
          rw [World.frozen?_of_block (w := w1.setCell ⟨g, k * 2, none⟩ (.string (markOf (k0 + 2 * k)))) hblk, World.frozen?_setCell]; exact hrow1.frozen _
        have hb4 : Below base w w2 := (hb2.setCell hrow.base _).trans (hb3.mono (by have := hb2.size; simp; omega))
        have hsz2 : w1.heap.size ≤ w2.heap.size := by have := hb3.size; simpa using this
        have HF2 : Hid (∀ j, j < w.heap.size → j ≠ g → (w2.setCell ⟨g, k * 2 + 1, none⟩ (.string (markOf (k0 + 2 * k + 1)))).heap[j]? = w.heap[j]?) := fun j hj hne => by
          have hs1 : w.heap.size ≤ w1.heap.size := hb2.size
          rw [heap_setCell_other _ _ j _ (fun e => hne e), hb3.block j (by simp; omega), heap_setCell_other _ _ j _ (fun e => hne e)]
          exact HF1.out j hj hne
        clear hb3 hb2
        have HROW : Hid (FieldRow base (w2.setCell ⟨g, k * 2 + 1, none⟩ (.string (markOf (k0 + 2 * k + 1)))) g n cap (mkG k0 fs (k + 1))) := hrow1.set k hlt _ _ _ (heap_setCell_congr hblk _ _) (by simpa using hsz2)
        clear hblk hc hf
        go_wp2
        go_roundw
        case rel => exact ⟨k + 1, by omega, by go_num, by first | go_num | (congr 1; omega), hb4.setCell hrow.base _, HROW, HF2⟩
        case measure => simp [intOf]; omega
      · obtain rfl : k = n := by omega
        go_wp2
        go_ret
        exact ⟨rfl, hrow.owns, hbw, fun j hj hne => hfar.out j hj (fun e => hne (by rw [e]; rfl))⟩

set_option maxHeartbeats 2000000 in
theorem heldFrom_any (v : Value) (n base : Nat) (fs : List (ByteArray × ByteArray)) (w : World) (h1 : w.ownsRow base 93 2 v n (flatF fs)) (k0 : Nat) (hk0 : 1 ≤ k0) (hn : k0 + 2 * n ≤ 9999999) (hm : ∀ j, j < n → nameAt fs j = markOf (k0 + 2 * j) ∧ valAt fs j = markOf (k0 + 2 * j + 1)) :
    Calls Try.prog 41 #[v, .int .i64 (k0 : Int)] w fun e w' => e = .returned (.int .i64 ((k0 : Int) + 2 * (n : Int))) ∧ Below w.heap.size w w' := by
  rcases frow_form h1 with ⟨oa, ca, rfl, _, rfl, rfl⟩ | ⟨g, cap, rfl, hp, r1⟩
  · clear hm
    go_enter Try.func41, Try.ntmps41
    go_wp2
    refine wp_loop_rounds 1 ?_
    rw [rounds_succ]
    go_wp2
    go_ret
    exact ⟨ret_int (by simp), Below.refl _ _⟩
  · clear h1
    have HM : Hid (∀ j, j < n → nameAt fs j = markOf (k0 + 2 * j) ∧ valAt fs j = markOf (k0 + 2 * j + 1)) := hm
    clear hm
    go_enter Try.func41, Try.ntmps41
    go_wp2
    go_loopw [1, 5] (fun q i wr => ∃ k : Nat, k ≤ n ∧ i = .int .i64 (k : Int) ∧ q = .int .i64 ((k0 : Int) + 2 * (k : Int)) ∧ Below w.heap.size w wr) (fun _ i _ => n - (intOf i).toNat)
    case atStart => exact ⟨0, Nat.zero_le _, rfl, by simp, Below.refl _ _⟩
    case round =>
      obtain ⟨k, hk, rfl, rfl, hbw⟩ := hrel
      by_cases hlt : k < n
      · have hlt2 : (k : Int) < (n : Int) := by omega
        have HA : Hid (∀ w0 w1, Below w.heap.size w w0 → Below w0.heap.size w0 w1 → (w1.cell? ⟨g, k * 2, none⟩ = some (.string (markOf (k0 + 2 * k))) ∧ w1.cell? ⟨g, k * 2 + 1, none⟩ = some (.string (markOf (k0 + 2 * k + 1)))) ∧ Below w.heap.size w w1) := fun w0 w1 h h' => by
          have hx := h.trans (h'.mono h.size)
          have a1 := (r1.below hx r1.lt).name k hlt
          have a2 := (r1.below hx r1.lt).val k hlt
          rw [(HM.out k hlt).1] at a1
          rw [(HM.out k hlt).2] at a2
          exact ⟨⟨a1, a2⟩, hx⟩
        obtain ⟨⟨hc1, hc2⟩, _⟩ := HA.out wr wr hbw (Below.refl _ _)
        go_wp2
        go_region_held3 (fun w' => w'.cell? ⟨g, k * 2, none⟩ = some (.string (markOf (k0 + 2 * k)))) (first | assumption | go_keep) (first | (go_at_call 34; refine (markText_int _ (k0 + 2 * k) _ (by omega) (by omega) (by omega)).mono ?_; rintro e w1 ⟨rfl, hb1⟩; obtain ⟨⟨hd1, hd2⟩, hbx⟩ := HA.out _ w1 hbw.drew hb1))
        clear hc1 hc2 hd1
        go_wp2
        go_region_held3 (fun w' => w'.cell? ⟨g, k * 2 + 1, none⟩ = some (.string (markOf (k0 + 2 * k + 1)))) (first | assumption | go_keep) (first | (go_at_call 34; refine (markText_int _ (k0 + 2 * k + 1) _ (by omega) (by omega) (by omega)).mono ?_; rintro e w2 ⟨rfl, hb2⟩; obtain ⟨⟨he1, he2⟩, hby⟩ := HA.out _ w2 hbx.drew hb2))
        go_wp2
        go_roundw
        case rel => exact ⟨k + 1, by omega, by go_num, by first | go_num | (congr 1; omega), hby⟩
        case measure => simp [intOf]; omega
      · obtain rfl : k = n := by omega
        go_wp2
        go_ret
        exact ⟨rfl, hbw⟩

end Go.Proofs.Ytanpngnpolhgbaa

namespace Go.Proofs.Ytanpngnpolhgbaa
open Go.RowKit
open Go.Lib hiding intOf

/-- A block's content behind a call. -/
theorem blk_below {W W' : World} {r : Nat} {o : Obj} (h : W.heap[r]? = some o) (b : Below W.heap.size W W') : W'.heap[r]? = some o := by
  rw [b.block r (Array.getElem?_eq_some_iff.1 h).1]; exact h
theorem blk_alloc {W : World} {r : Nat} {o : Obj} (h : W.heap[r]? = some o) (x : Obj) : (W.alloc x).heap[r]? = some o := by
  rw [Below.heap_alloc _ _ _ (Array.getElem?_eq_some_iff.1 h).1]; exact h
theorem own_ne {W : World} {r : Nat} {cs : Array Value} {T t : TypeId} {base size n : Nat} {v : Value} {xs : List Value} (ho : W.ownsRow base t size v n xs) (h : W.heap[r]? = some (.cells cs T)) (hT : T ≠ t) (j : Nat) (hj : v.ownBlock = some j) : j ≠ r := fun e => by
  subst e
  rcases ho.2 with ⟨rfl, _⟩ | ⟨g, cap, cur, rfl, _, h1, _⟩
  · cases hj
  · cases hj
    rw [h] at h1
    cases h1
    exact hT rfl
/-- A block of another type is no row of this one. -/
theorem blk_far {W W' : World} {r : Nat} {cs : Array Value} {T t : TypeId} {base size n : Nat} {v : Value} {xs : List Value} (h : W.heap[r]? = some (.cells cs T)) (far : Far v W W') (ho : W.ownsRow base t size v n xs) (hT : T ≠ t) : W'.heap[r]? = some (.cells cs T) := by
  rw [far r (Array.getElem?_eq_some_iff.1 h).1 (fun e => ?_)]
  · exact h
  · rcases ho.2 with ⟨rfl, _⟩ | ⟨g, cap, cur, rfl, _, h1, _⟩
    · cases e
    · cases e
      rw [h] at h1
      cases h1
      exact hT rfl

end Go.Proofs.Ytanpngnpolhgbaa

namespace Go.Proofs.Ytanpngnpolhgbaa
open Go.RowKit
open Go.Lib hiding intOf

theorem cell_of {W : World} {R : Nat} {cs : Array Value} {t : TypeId} (h : W.heap[R]? = some (.cells cs t)) (i : Nat) : W.cell? ⟨R, i, none⟩ = cs[i]? := by simp [World.cell?, h]
theorem frozen_of {W : World} {R : Nat} {cs : Array Value} {t : TypeId} (h : W.heap[R]? = some (.cells cs t)) (i : Nat) : W.frozen? ⟨R, i, none⟩ = false := by simp [World.frozen?, h]
/-- Rows of two types lie apart. -/
theorem own_type_ne {W : World} {b1 b2 z1 z2 n1 n2 : Nat} {t1 t2 : TypeId} {v1 v2 : Value} {xs ys : List Value} (h1 : W.ownsRow b1 t1 z1 v1 n1 xs) (h2 : W.ownsRow b2 t2 z2 v2 n2 ys) (ht : t1 ≠ t2) (j : Nat) (hj : v1.ownBlock = some j) : v2.ownBlock ≠ some j := fun e => by
  rcases h1.2 with ⟨rfl, _⟩ | ⟨g, cap, cur, rfl, _, k1, _⟩
  · cases hj
  · cases hj
    rcases h2.2 with ⟨rfl, _⟩ | ⟨g2, cap2, cur2, rfl, _, k2, _⟩
    · cases e
    · cases e
      rw [k1] at k2
      cases k2
      exact ht rfl
def mkT (k0 : Nat) (xs : List ByteArray) : Nat → List ByteArray
  | 0 => xs
  | i + 1 => (mkT k0 xs i).set i (markOf (k0 + i))
theorem mkT_len (k0 : Nat) (xs : List ByteArray) : ∀ i, (mkT k0 xs i).length = xs.length
  | 0 => rfl
  | i + 1 => by rw [mkT, List.length_set, mkT_len k0 xs i]
theorem mkT_at (k0 : Nat) (xs : List ByteArray) (j : Nat) (hj : j < xs.length) : ∀ i, j < i → textAt (mkT k0 xs i) j = markOf (k0 + j) := by
  intro i
  induction i with
  | zero => intro h; omega
  | succ i ih =>
    intro h
    unfold textAt
    rw [mkT]
    by_cases e : i = j
    · subst e
      rw [List.getD_eq_getElem?_getD, List.getElem?_set_self (by rw [mkT_len]; exact hj)]
      rfl
    · rw [List.getD_eq_getElem?_getD, List.getElem?_set_ne (by exact e), ← List.getD_eq_getElem?_getD]
      exact ih (by omega)

set_option maxHeartbeats 1000000 in
theorem markTFrom_any (v : Value) (n base : Nat) (xs : List ByteArray) (w : World) (h1 : w.ownsRow base 9 1 v n (xs.map Value.string)) (hb : base ≤ w.heap.size) (k0 : Nat) (hk0 : 1 ≤ k0) (hn : k0 + n ≤ 9999998) :
    Calls Try.prog 37 #[v, .int .i64 (k0 : Int)] w fun e w' => e = .returned (.int .i64 ((k0 : Int) + (n : Int))) ∧ w'.ownsRow base 9 1 v n ((mkT k0 xs n).map Value.string) ∧ Below base w w' ∧ Far v w w' := by
  rcases row_form h1 with ⟨oa, ca, rfl, rfl, rfl⟩ | ⟨g, cap, rfl, hp, r1⟩
  · go_enter Try.func37, Try.ntmps37
    go_wp2
    refine wp_loop_rounds 1 ?_
    rw [rounds_succ]
    go_wp2
    go_ret
    exact ⟨by simp, h1, Below.refl _ _, fun _ _ _ => rfl⟩
  · clear h1
    have HR1 : Hid (TextRow base w g n cap xs) := r1
    clear r1
    go_enter Try.func37, Try.ntmps37
    go_wp2
    go_loopw [1, 5] (fun k i wr => ∃ j : Nat, j ≤ n ∧ i = .int .i64 (j : Int) ∧ k = .int .i64 ((k0 : Int) + (j : Int)) ∧ Hid (w.grownBy wr (some g)) ∧ Hid (TextRow base wr g n cap (mkT k0 xs j))) (fun _ i _ => n - (intOf i).toNat)
    case atStart => exact ⟨0, Nat.zero_le _, rfl, by simp, World.grownBy.refl _ _, HR1⟩
    case round =>
      obtain ⟨j, hj, rfl, rfl, HG, HR⟩ := hrel
      by_cases hlt : j < n
      · have hlt2 : (j : Int) < (n : Int) := by omega
        go_wp2_with fail
        refine (markText_int _ (k0 + j) _ (by omega) (by omega) (by omega)).mono ?_
        rintro e w1 ⟨rfl, hb1⟩
        have hrow1 := HR.out.below hb1 HR.out.lt
        have hc := hrow1.cell j hlt
        have hf := hrow1.frozen j
        have HG2 : Hid (w.grownBy (w1.setCell ⟨g, j, none⟩ (.string (markOf (k0 + j)))) (some g)) := by
          have h0 := HG.out
          refine ⟨hb1.os.trans h0.os, hb1.tape.trans h0.tape, hb1.output.trans h0.output, by rw [World.size_setCell]; exact Nat.le_trans h0.size hb1.size, fun i hi hne => ?_⟩
          rw [heap_setCell_other _ _ i _ (fun e => hne (by rw [e]))]
          exact (hb1.block i (Nat.lt_of_lt_of_le hi h0.size)).trans (h0.block i hi hne)
        have HR2 : Hid (TextRow base (w1.setCell ⟨g, j, none⟩ (.string (markOf (k0 + j)))) g n cap (mkT k0 xs (j + 1))) := hrow1.set j hlt _
        clear hb1 HG HR hrow1
        go_wp2
        go_roundw
        case rel => exact ⟨j + 1, by omega, by go_num, by go_num, HG2, HR2⟩
        case measure => simp [intOf]; omega
      · obtain rfl : j = n := by omega
        go_wp2
        go_ret
        have hg := HG.out
        exact ⟨rfl, HR.out.owns, ⟨hg.os, hg.tape, hg.output, hg.size, fun i hi => hg.block i (Nat.lt_of_lt_of_le hi hb) (fun e => by have := HR.out.base; cases e; omega)⟩, fun i hi hne => hg.block i hi (fun e => hne e.symm)⟩

set_option maxHeartbeats 1000000 in
theorem heldTFrom_any (v : Value) (n base : Nat) (xs : List ByteArray) (w : World) (h1 : w.ownsRow base 9 1 v n (xs.map Value.string)) (k0 : Nat) (hk0 : 1 ≤ k0) (hn : k0 + n ≤ 9999998) (hm : ∀ j, j < n → textAt xs j = markOf (k0 + j)) :
    Calls Try.prog 43 #[v, .int .i64 (k0 : Int)] w fun e w' => e = .returned (.int .i64 ((k0 : Int) + (n : Int))) ∧ Below w.heap.size w w' := by
  rcases row_form h1 with ⟨oa, ca, rfl, rfl, rfl⟩ | ⟨g, cap, rfl, hp, r1⟩
  · clear hm
    go_enter Try.func43, Try.ntmps43
    go_wp2
    refine wp_loop_rounds 1 ?_
    rw [rounds_succ]
    go_wp2
    go_ret
    exact ⟨by simp, Below.refl _ _⟩
  · clear h1
    have HM : Hid (∀ j, j < n → textAt xs j = markOf (k0 + j)) := hm
    clear hm
    go_enter Try.func43, Try.ntmps43
    go_wp2
    go_loopw [1, 5] (fun k i wr => ∃ j : Nat, j ≤ n ∧ i = .int .i64 (j : Int) ∧ k = .int .i64 ((k0 : Int) + (j : Int)) ∧ Below w.heap.size w wr) (fun _ i _ => n - (intOf i).toNat)
    case atStart => exact ⟨0, Nat.zero_le _, rfl, by simp, Below.refl _ _⟩
    case round =>
      obtain ⟨j, hj, rfl, rfl, hbw⟩ := hrel
      by_cases hlt : j < n
      · have hlt2 : (j : Int) < (n : Int) := by omega
        have hc : wr.cell? ⟨g, j, none⟩ = some (.string (markOf (k0 + j))) := by
          rw [← HM.out j hlt]; exact (r1.below hbw r1.lt).cell j hlt
        have hall : ∀ w1, Below wr.heap.size wr w1 → w1.cell? ⟨g, j, none⟩ = some (.string (markOf (k0 + j))) := fun w1 h => by
          rw [h.cell (p := ⟨g, j, none⟩) (by have := hbw.size; have := r1.lt; show g < _; omega)]; exact hc
        have HA : Hid _ := hall
        clear hall
        go_wp2
        go_region_with (go_at_call 34; refine (markText_int _ (k0 + j) _ (by omega) (by omega) (by omega)).mono ?_; rintro e w1 ⟨rfl, hb1⟩; have hc1 := HA.out w1 (((Below.refl _ wr).drew).trans hb1))
        all_goals
          go_wp2
          go_roundw
          case rel => exact ⟨j + 1, by omega, by go_num, by go_num, (hbw.drew).trans (hb1.mono hbw.size)⟩
          case measure => simp [intOf]; omega
      · obtain rfl : j = n := by omega
        go_wp2
        go_ret
        exact ⟨rfl, hbw⟩

end Go.Proofs.Ytanpngnpolhgbaa

namespace Go.Proofs.Ytanpngnpolhgbaa
open Go.RowKit
open Go.Lib hiding intOf

/-- What is kept, as it is told. -/
structure KpD where
  p : ByteArray
  xs : List ByteArray
  ys : List ByteArray
  st : Int
  fs : List (ByteArray × ByteArray)
  b : ByteArray
  t : Int
  a : Int
  q : Int
/-- Its nine cells; the three slices beside it. -/
def kpC (x : KpD × Value × Value × Value) : List Value := [.string x.1.p, x.2.1, x.2.2.1, .int .i64 x.1.st, x.2.2.2, .string x.1.b, .int .i64 x.1.t, .int .i64 x.1.a, .int .i64 x.1.q]
theorem kpC_len (x : KpD × Value × Value × Value) : (kpC x).length = 9 := rfl
def kpN (x : KpD × Value × Value × Value) : Rw := ⟨9, 1, x.2.1, x.1.xs.length, x.1.xs.map Value.string⟩
def kpV (x : KpD × Value × Value × Value) : Rw := ⟨9, 1, x.2.2.1, x.1.ys.length, x.1.ys.map Value.string⟩
def kpF (x : KpD × Value × Value × Value) : Rw := ⟨93, 2, x.2.2.2, x.1.fs.length, flatF x.1.fs⟩
def kpR (x : KpD × Value × Value × Value) : List Rw := [kpN x, kpV x, kpF x]
def kpRow (V : Value) (kv : List (KpD × Value × Value × Value)) : Rw := ⟨82, 9, V, kv.length, kv.flatMap kpC⟩
/-- A list of what is kept: its row, and all rows in it. -/
def kpAll (V : Value) (kv : List (KpD × Value × Value × Value)) : List Rw := kpRow V kv :: kv.flatMap kpR
def KeptsO (w : World) (base : Nat) (V : Value) (kv : List (KpD × Value × Value × Value)) : Prop := RowsO w base (kpAll V kv)
theorem KeptsO.row {w : World} {base : Nat} {V : Value} {kv : List (KpD × Value × Value × Value)} (h : KeptsO w base V kv) : w.ownsRow base 82 9 V kv.length (kv.flatMap kpC) := h.own (kpRow V kv) (by simp [kpAll])
theorem KeptsO.names {w : World} {base : Nat} {V : Value} {kv : List (KpD × Value × Value × Value)} (h : KeptsO w base V kv) {x : KpD × Value × Value × Value} (hx : x ∈ kv) : w.ownsRow base 9 1 x.2.1 x.1.xs.length (x.1.xs.map Value.string) := h.own (kpN x) (List.mem_cons_of_mem _ (List.mem_flatMap.2 ⟨x, hx, by simp [kpR]⟩))
theorem KeptsO.vals {w : World} {base : Nat} {V : Value} {kv : List (KpD × Value × Value × Value)} (h : KeptsO w base V kv) {x : KpD × Value × Value × Value} (hx : x ∈ kv) : w.ownsRow base 9 1 x.2.2.1 x.1.ys.length (x.1.ys.map Value.string) := h.own (kpV x) (List.mem_cons_of_mem _ (List.mem_flatMap.2 ⟨x, hx, by simp [kpR]⟩))
theorem KeptsO.flds {w : World} {base : Nat} {V : Value} {kv : List (KpD × Value × Value × Value)} (h : KeptsO w base V kv) {x : KpD × Value × Value × Value} (hx : x ∈ kv) : w.ownsRow base 93 2 x.2.2.2 x.1.fs.length (flatF x.1.fs) := h.own (kpF x) (List.mem_cons_of_mem _ (List.mem_flatMap.2 ⟨x, hx, by simp [kpR]⟩))
theorem KeptsO.below {w w' : World} {base : Nat} {V : Value} {kv : List (KpD × Value × Value × Value)} (h : KeptsO w base V kv) (hb : Below w.heap.size w w') : KeptsO w' base V kv := RowsO.below h hb
/-- One of the list, cell by cell. -/
structure KpAt (w : World) (g i : Nat) (x : KpD × Value × Value × Value) : Prop where
  c0 : w.cell? ⟨g, i * 9, none⟩ = some (.string x.1.p)
  c1 : w.cell? ⟨g, i * 9 + 1, none⟩ = some x.2.1
  c2 : w.cell? ⟨g, i * 9 + 2, none⟩ = some x.2.2.1
  c3 : w.cell? ⟨g, i * 9 + 3, none⟩ = some (.int .i64 x.1.st)
  c4 : w.cell? ⟨g, i * 9 + 4, none⟩ = some x.2.2.2
  c5 : w.cell? ⟨g, i * 9 + 5, none⟩ = some (.string x.1.b)
  c6 : w.cell? ⟨g, i * 9 + 6, none⟩ = some (.int .i64 x.1.t)
  c7 : w.cell? ⟨g, i * 9 + 7, none⟩ = some (.int .i64 x.1.a)
  c8 : w.cell? ⟨g, i * 9 + 8, none⟩ = some (.int .i64 x.1.q)
theorem KeptsO.at {w : World} {base : Nat} {V : Value} {kv : List (KpD × Value × Value × Value)} (h : KeptsO w base V kv) (i : Nat) (hi : i < kv.length) : ∃ g cap, V = .slice (some ⟨g, 0, none⟩) kv.length cap ∧ g < w.heap.size ∧ KpAt w g i (kv[i]'hi) := by
  have hr := h.row
  rcases hr.2 with ⟨_, h0⟩ | ⟨g, cap, cur, rfl, _, h1, _⟩
  · omega
  · have key : ∀ j, j < 9 → ∀ u, (kpC (kv[i]'hi))[j]? = some u → w.cell? ⟨g, i * 9 + j, none⟩ = some u := fun j hj u hu => (owns_cellC hr (i * 9 + j) u (by rw [items_at kpC 9 kpC_len kv i j hi hj]; exact hu)).1
    exact ⟨g, cap, rfl, (Array.getElem?_eq_some_iff.1 h1).1, ⟨key 0 (by decide) _ rfl, key 1 (by decide) _ rfl, key 2 (by decide) _ rfl, key 3 (by decide) _ rfl, key 4 (by decide) _ rfl, key 5 (by decide) _ rfl, key 6 (by decide) _ rfl, key 7 (by decide) _ rfl, key 8 (by decide) _ rfl⟩⟩
theorem KeptsO.len {w : World} {base : Nat} {V : Value} {kv : List (KpD × Value × Value × Value)} (h : KeptsO w base V kv) : ∃ oa cp, V = .slice oa kv.length cp := slice_of_owns h.row
end Go.Proofs.Ytanpngnpolhgbaa

namespace Go.Proofs.Ytanpngnpolhgbaa
open Go.RowKit
open Go.Lib hiding intOf

set_option maxHeartbeats 8000000 in
set_option maxRecDepth 100000 in
theorem eqWrite_any (y0 : Int) (y1 : ByteArray) (w : World) :
    Calls Try.prog 56 #[.agg #[.int .i64 y0, .string y1], .agg #[.int .i64 y0, .string y1]] w fun e w' => e = .returned (.bool true) ∧ Below w.heap.size w w' := by
  have hhy0 : (y0 != y0) = false := by simp
  have hhy1 : (y1.toList != y1.toList) = false := by simp
  have hb0 : Below w.heap.size w w := Below.refl _ _
  go_enter Try.func56, Try.ntmps56
  go_upto_region 1 with fail
  obtain ⟨qv1, hqv1⟩ : ∃ q, q = (w).heap.size := ⟨_, rfl⟩
  obtain ⟨w1, hW1⟩ : ∃ W, W = (w).alloc (.cells #[.int .i64 y0, .string y1] 97) := ⟨_, rfl⟩
  have hz1 : (w).heap.size = qv1 := hqv1.symm
  first | rw [← hW1, ← hqv1] | rw [← hW1]
  have hs1 : w1.heap.size = qv1 + 1 := by rw [hW1, ← hz1]; simp
  have bw : Below (w).heap.size (w) w1 := by rw [hW1]; exact (Below.refl _ _).alloc (Nat.le_refl _) _
  have hb1 : Below w.heap.size w (w1) := hb0.trans (bw.mono hb0.size)
  have HBv1_1 : Hid ((w1).heap[qv1]? = some (.cells #[.int .i64 y0, .string y1] 97)) := by show _ = _; rw [hW1, ← hz1]; exact heap_alloc_new _ _
  clear hb0 bw hW1 hz1
  obtain ⟨qv2, hqv2⟩ : ∃ q, q = qv1 + 1 := ⟨_, rfl⟩
  obtain ⟨w2, hW2⟩ : ∃ W, W = (w1).alloc (.cells #[.int .i64 y0, .string y1] 97) := ⟨_, rfl⟩
  have hz2 : (w1).heap.size = qv2 := by rw [hqv2]; exact hs1
  first | rw [← hW2, ← hqv2] | rw [← hW2]
  have hs2 : w2.heap.size = qv2 + 1 := by rw [hW2, ← hz2]; simp
  have bw : Below (w1).heap.size (w1) w2 := by rw [hW2]; exact (Below.refl _ _).alloc (Nat.le_refl _) _
  have hb2 : Below w.heap.size w (w2) := hb1.trans (bw.mono hb1.size)
  have HBv1_2 : Hid ((w2).heap[qv1]? = some (.cells #[.int .i64 y0, .string y1] 97)) := blk_below HBv1_1.out bw
  have HBv2_2 : Hid ((w2).heap[qv2]? = some (.cells #[.int .i64 y0, .string y1] 97)) := by show _ = _; rw [hW2, ← hz2]; exact heap_alloc_new _ _
  clear hb1 HBv1_1 bw hW2 hz2
  clear hs2 hqv2 hs1 hqv1
  have cv1_0 : (w2).cell? ⟨qv1, 0, none⟩ = some (.int .i64 y0) := (cell_of HBv1_2.out 0).trans rfl
  have cv2_0 : (w2).cell? ⟨qv2, 0, none⟩ = some (.int .i64 y0) := (cell_of HBv2_2.out 0).trans rfl
  have cv1_1 : (w2).cell? ⟨qv1, 1, none⟩ = some (.string y1) := (cell_of HBv1_2.out 1).trans rfl
  have cv2_1 : (w2).cell? ⟨qv2, 1, none⟩ = some (.string y1) := (cell_of HBv2_2.out 1).trans rfl
  go_wp2_with fail
  go_ret
  exact ⟨rfl, hb2⟩

end Go.Proofs.Ytanpngnpolhgbaa

namespace Go.Proofs.Ytanpngnpolhgbaa
open Go.RowKit
open Go.Lib hiding intOf

theorem owns_put {w : World} {base : Nat} {t : TypeId} {size g n cap : Nat} {xs : List Value} (h : w.ownsRow base t size (.slice (some ⟨g, 0, none⟩) n cap) n xs) (o : Nat) (u : Value) : (w.setCell ⟨g, o, none⟩ u).ownsRow base t size (.slice (some ⟨g, 0, none⟩) n cap) n (xs.set o u) := by
  obtain ⟨hl, hv⟩ := h
  refine ⟨by simpa using hl, ?_⟩
  rcases hv with ⟨e, _⟩ | ⟨g', cap', cur, e, h1, h2, h3, h4, h5, h6⟩
  · cases e
  · cases e
    refine .inr ⟨g, cap, _, rfl, h1, heap_set w g o cur t (0, 0) u h2, h3, h4, by simpa using h5, ?_⟩
    rw [Array.toList_setIfInBounds, List.take_set, h6]
theorem owns_at {w : World} {base : Nat} {t : TypeId} {size g n cap : Nat} {xs : List Value} (h : w.ownsRow base t size (.slice (some ⟨g, 0, none⟩) n cap) n xs) (o : Nat) (u : Value) (ho : xs[o]? = some u) : w.cell? ⟨g, o, none⟩ = some u ∧ w.frozen? ⟨g, o, none⟩ = false := by
  obtain ⟨hl, hv⟩ := h
  rcases hv with ⟨e, _⟩ | ⟨g', cap', cur, e, h1, h2, h3, h4, h5, h6⟩
  · cases e
  · cases e
    refine ⟨?_, by simp [World.frozen?, h2]⟩
    rw [← h6, List.getElem?_take] at ho
    split at ho
    · simpa [World.cell?, h2] using ho
    · cases ho
theorem owns_some {w : World} {base : Nat} {t : TypeId} {size n cap : Nat} {oa : Option Addr} {xs : List Value} (h : w.ownsRow base t size (.slice oa n cap) n xs) (hn : 0 < n) : ∃ g, oa = some ⟨g, 0, none⟩ := by
  rcases h.2 with ⟨e, h0⟩ | ⟨g, cap', cur, e, _⟩
  · omega
  · cases e; exact ⟨g, rfl⟩

end Go.Proofs.Ytanpngnpolhgbaa

namespace Go.Proofs.Ytanpngnpolhgbaa
open Go.RowKit
open Go.Lib hiding intOf

/-- The i-th of a list. -/
def writeAt (l : List (Int × ByteArray)) (i : Nat) : (Int × ByteArray) := l.getD i (0, ⟨#[]⟩)
/-- Its cells. -/
def writeEnc (x : (Int × ByteArray)) : List Value := [.int .i64 x.1, .string x.2]
def flatWrite (l : List (Int × ByteArray)) : List Value := l.flatMap writeEnc
theorem flatWrite_len (l : List (Int × ByteArray)) : (flatWrite l).length = l.length * 2 := by
  induction l with
  | nil => rfl
  | cons f r ih => simp only [flatWrite, writeEnc, List.flatMap_cons, List.length_append, List.length_cons, List.length_nil] at ih ⊢; omega
theorem flatWrite_get : ∀ (l : List (Int × ByteArray)) (i : Nat), i < l.length → (flatWrite l)[i * 2]? = some (.int .i64 ((writeAt l i).1)) ∧ (flatWrite l)[i * 2 + 1]? = some (.string ((writeAt l i).2))
  | [], i, h => by simp at h
  | f :: r, 0, _ => by simp [flatWrite, writeEnc, writeAt]
  | f :: r, i + 1, h => by
    have ih := flatWrite_get r i (by simpa using h)
    have e : flatWrite (f :: r) = writeEnc f ++ flatWrite r := rfl
    have hl : (writeEnc f).length = 2 := rfl
    have h2 : writeAt (f :: r) (i + 1) = writeAt r i := by simp [writeAt]
    have key : ∀ j, (flatWrite (f :: r))[i * 2 + 2 + j]? = (flatWrite r)[i * 2 + j]? := fun j => by
      rw [e, List.getElem?_append_right (by rw [hl]; omega), hl]; congr 1; omega
    rw [h2]
    refine ⟨(by rw [show (i + 1) * 2 = i * 2 + 2 + 0 by omega, key]; exact ih.1), (by rw [show (i + 1) * 2 + 1 = i * 2 + 2 + 1 by omega, key]; exact ih.2)⟩
/-- A list that is read: its cells in a block that is there. -/
def WriteA (w : World) (oa : Option Addr) (n : Nat) (l : List (Int × ByteArray)) : Prop :=
  l.length = n ∧ ∀ i, i < n → ∃ g, oa = some ⟨g, 0, none⟩ ∧ g < w.heap.size ∧ w.cell? ⟨g, i * 2, none⟩ = some (.int .i64 ((writeAt l i).1)) ∧ w.cell? ⟨g, i * 2 + 1, none⟩ = some (.string ((writeAt l i).2))
theorem WriteA.below {w W : World} {oa : Option Addr} {n : Nat} {l : List (Int × ByteArray)} (h : WriteA w oa n l) (hb : Below w.heap.size w W) : WriteA W oa n l :=
  ⟨h.1, fun i hi => by
    obtain ⟨g, h1, h2, r0, r1⟩ := h.2 i hi
    exact ⟨g, h1, Nat.lt_of_lt_of_le h2 hb.size, by rw [hb.cell (p := ⟨g, i * 2, none⟩) h2]; exact r0, by rw [hb.cell (p := ⟨g, i * 2 + 1, none⟩) h2]; exact r1⟩⟩
/-- An owned list can be read. -/
theorem write_view {w : World} {base n cap : Nat} {oa : Option Addr} {l : List (Int × ByteArray)} (h : w.ownsRow base 97 2 (.slice oa n cap) n (flatWrite l)) : WriteA w oa n l := by
  obtain ⟨hl, hv⟩ := h
  rw [flatWrite_len] at hl
  refine ⟨by omega, fun i hi => ?_⟩
  rcases hv with ⟨e, h0⟩ | ⟨g, cap, cur, e, hb, hg, hn, hm, hcs, htk⟩
  · omega
  · cases e
    have hf := flatWrite_get l i (by omega)
    rw [← htk] at hf
    simp only [List.getElem?_take] at hf
    rw [if_pos (by omega), if_pos (by omega)] at hf
    refine ⟨g, rfl, (Array.getElem?_eq_some_iff.1 hg).1, by simp only [World.cell?, hg]; simpa using hf.1, by simp only [World.cell?, hg]; simpa using hf.2⟩
theorem write_len {w : World} {base n : Nat} {v : Value} {l : List (Int × ByteArray)} (h : w.ownsRow base 97 2 v n (flatWrite l)) : l.length = n := by
  have := h.1
  rw [flatWrite_len] at this
  omega
set_option maxHeartbeats 4000000 in
set_option maxRecDepth 100000 in
theorem eqWriteS_any (o1 o2 : Option Addr) (n c1 c2 : Nat) (l : List (Int × ByteArray)) (w : World) (h1 : WriteA w o1 n l) (h2 : WriteA w o2 n l) (hn : n ≤ 2000000) :
    Calls Try.prog 46 #[.slice o1 n c1, .slice o2 n c2] w fun e w' => e = .returned (.bool true) ∧ Below w.heap.size w w' := by
  have H1 : Hid (∀ W, Below w.heap.size w W → WriteA W o1 n l) := fun W h => h1.below h
  have H2 : Hid (∀ W, Below w.heap.size w W → WriteA W o2 n l) := fun W h => h2.below h
  clear h1 h2
  go_enter Try.func46, Try.ntmps46
  go_wp2
  go_loopw [5] (fun i wr => ∃ k : Nat, k ≤ n ∧ i = .int .i64 (k : Int) ∧ Hid (Below w.heap.size w wr)) (fun i _ => n - (intOf i).toNat)
  case atStart => exact ⟨0, Nat.zero_le _, rfl, Below.refl _ _⟩
  case round =>
    obtain ⟨k, hk, rfl, HBW⟩ := hrel
    by_cases hlt : k < n
    · have hlt2 : (k : Int) < (n : Int) := by omega
      obtain ⟨y, hy⟩ : ∃ y, y = writeAt l k := ⟨_, rfl⟩
      obtain ⟨g1, rfl, hg1, a0, a1⟩ := (H1.out wr HBW.out).2 k hlt
      obtain ⟨g2, rfl, hg2, b0, b1⟩ := (H2.out wr HBW.out).2 k hlt
      rw [← hy] at a0 b0 a1 b1
      clear hy
      obtain ⟨y0, y1⟩ := y
      have HA : Hid (∀ w0 w1, Below wr.heap.size wr w0 → Below w0.heap.size w0 w1 → (w1.cell? ⟨g1, k * 2, none⟩ = some (.int .i64 y0) ∧ w1.cell? ⟨g1, k * 2 + 1, none⟩ = some (.string y1) ∧ w1.cell? ⟨g2, k * 2, none⟩ = some (.int .i64 y0) ∧ w1.cell? ⟨g2, k * 2 + 1, none⟩ = some (.string y1)) ∧ Below wr.heap.size wr w1) := fun w0 w1 h h' => by
        have hx := h.trans (h'.mono h.size)
        exact ⟨⟨by rw [hx.cell (p := ⟨g1, k * 2, none⟩) hg1]; exact a0, by rw [hx.cell (p := ⟨g1, k * 2 + 1, none⟩) hg1]; exact a1, by rw [hx.cell (p := ⟨g2, k * 2, none⟩) hg2]; exact b0, by rw [hx.cell (p := ⟨g2, k * 2 + 1, none⟩) hg2]; exact b1⟩, hx⟩
      go_wp2
      go_region_held3 (fun w' => w'.cell? ⟨g1, k * 2, none⟩ = some (.int .i64 y0) ∧ w'.cell? ⟨g1, k * 2 + 1, none⟩ = some (.string y1) ∧ w'.cell? ⟨g2, k * 2, none⟩ = some (.int .i64 y0) ∧ w'.cell? ⟨g2, k * 2 + 1, none⟩ = some (.string y1)) (first | assumption | go_keep) (first | (go_at_call 56; refine (eqWrite_any _ _ _).mono ?_; rintro e w1 ⟨rfl, hb1⟩; obtain ⟨hcc, hbx⟩ := HA.out _ w1 ((Below.refl _ wr).drew) hb1))
      go_wp2
      go_roundw
      case rel => exact ⟨k + 1, by omega, by go_num, HBW.out.trans (hbx.mono HBW.out.size)⟩
      case measure => simp [intOf]; omega
    · go_wp2
      go_ret
      exact ⟨rfl, HBW.out⟩

theorem flatWrite_set : ∀ (l : List (Int × ByteArray)) (i : Nat) (x : (Int × ByteArray)), i < l.length → flatWrite (l.set i x) = ((flatWrite l).set (i * 2) (.int .i64 x.1)).set (i * 2 + 1) (.string x.2)
  | [], i, x, h => by simp at h
  | f :: r, 0, x, _ => rfl
  | f :: r, i + 1, x, h => by
    have ih := flatWrite_set r i x (by simpa using h)
    have e : ∀ (m : List Value) (o : Nat) (u : Value), (writeEnc f ++ m).set (2 + o) u = writeEnc f ++ m.set o u := fun m o u => by rw [Nat.add_comm]; rfl
    have e0 : flatWrite (f :: r) = writeEnc f ++ flatWrite r := rfl
    have e1 : flatWrite ((f :: r).set (i + 1) x) = writeEnc f ++ flatWrite (r.set i x) := rfl
    rw [e1, ih, e0, show (i + 1) * 2 = 2 + i * 2 by omega, show 2 + i * 2 + 1 = 2 + (i * 2 + 1) by omega, e, e]
theorem writeAt_set (l : List (Int × ByteArray)) (k j : Nat) (x : (Int × ByteArray)) (hk : k < l.length) : writeAt (l.set k x) j = if j = k then x else writeAt l j := by
  unfold writeAt
  rw [List.getD_eq_getElem?_getD, List.getElem?_set, List.getD_eq_getElem?_getD]
  by_cases h : j = k
  · subst h; simp [hk]
  · rw [if_neg h, if_neg (fun e => h e.symm)]
/-- The list with its first k marked, from k0 on. -/
def mkWrite (k0 : Nat) (l : List (Int × ByteArray)) : Nat → List (Int × ByteArray)
  | 0 => l
  | k + 1 => (mkWrite k0 l k).set k (((k0 + 2 * k + 0 : Nat) : Int), (markOf (k0 + 2 * k + 1)))
theorem mkWrite_len (k0 : Nat) (l : List (Int × ByteArray)) : ∀ k, (mkWrite k0 l k).length = l.length
  | 0 => rfl
  | k + 1 => by rw [mkWrite, List.length_set, mkWrite_len k0 l k]
theorem mkWrite_at (k0 : Nat) (l : List (Int × ByteArray)) (j : Nat) : ∀ k, k ≤ l.length → j < k → writeAt (mkWrite k0 l k) j = (((k0 + 2 * j + 0 : Nat) : Int), (markOf (k0 + 2 * j + 1))) := by
  intro k
  induction k with
  | zero => intro _ h; omega
  | succ k ih =>
    intro hk h
    rw [mkWrite, writeAt_set _ _ _ _ (by rw [mkWrite_len]; omega)]
    by_cases e : j = k
    · subst e; rw [if_pos rfl]
    · rw [if_neg e]; exact ih (by omega) (by omega)

set_option maxHeartbeats 4000000 in
set_option maxRecDepth 100000 in
theorem markWriteS_any (oa : Option Addr) (n cap base : Nat) (l : List (Int × ByteArray)) (w : World) (h1 : w.ownsRow base 97 2 (.slice oa n cap) n (flatWrite l)) (hb : base ≤ w.heap.size) (k0 : Nat) (hk0 : 1 ≤ k0) (hn : k0 + 2 * n ≤ 9999999) :
    Calls Try.prog 53 #[.slice oa n cap, .int .i64 (k0 : Int)] w fun e w' => e = .returned (.int .i64 ((k0 : Int) + 2 * (n : Int))) ∧ w'.ownsRow base 97 2 (.slice oa n cap) n (flatWrite (mkWrite k0 l n)) ∧ Below base w w' ∧ Far (.slice oa n cap) w w' := by
  have HLN : Hid (l.length = n) := write_len h1
  have H1 : Hid (w.ownsRow base 97 2 (.slice oa n cap) n (flatWrite l)) := h1
  clear h1
  go_enter Try.func53, Try.ntmps53
  go_wp2
  go_loopw [1, 5] (fun q i wr => ∃ k : Nat, k ≤ n ∧ i = .int .i64 (k : Int) ∧ q = .int .i64 ((k0 : Int) + 2 * (k : Int)) ∧ Hid (Below base w wr) ∧ Hid (wr.ownsRow base 97 2 (.slice oa n cap) n (flatWrite (mkWrite k0 l k))) ∧ Hid (∀ j, j < w.heap.size → (Value.slice oa n cap).ownBlock ≠ some j → wr.heap[j]? = w.heap[j]?)) (fun _ i _ => n - (intOf i).toNat)
  case atStart => exact ⟨0, Nat.zero_le _, rfl, by simp, Below.refl _ _, H1, fun j _ _ => rfl⟩
  case round =>
    obtain ⟨k, hk, rfl, rfl, HB, HO, HF⟩ := hrel
    by_cases hlt : k < n
    · have hlt2 : (k : Int) < (n : Int) := by omega
      obtain ⟨g, rfl⟩ := owns_some H1.out (by omega)
      have HG : Hid (base ≤ g) := owns_ge H1.out rfl
      have q0 := (flatWrite_get (mkWrite k0 l k) k (by rw [mkWrite_len, HLN.out]; exact hlt)).1
      have HQ0 : Hid _ := q0
      clear q0
      have q1 := (flatWrite_get (mkWrite k0 l k) k (by rw [mkWrite_len, HLN.out]; exact hlt)).2
      have HQ1 : Hid _ := q1
      clear q1
      obtain ⟨c0, f0⟩ := owns_at HO.out (k * 2) _ (by exact HQ0.out)
      have hk_0 : (k0 : Int) + 2 * (k : Int) = ((k0 + 2 * k + 0 : Nat) : Int) := by omega
      rw [hk_0]
      clear hk_0
      have HO0 : Hid ((((wr).setCell ⟨g, k * 2, none⟩ (.int .i64 ((k0 + 2 * k + 0 : Nat) : Int)))).ownsRow base 97 2 (.slice (some ⟨g, 0, none⟩) n cap) n ((flatWrite (mkWrite k0 l k)).set (k * 2) (.int .i64 ((k0 + 2 * k + 0 : Nat) : Int)))) := owns_put HO.out _ _
      have HB0 : Hid (Below base w ((wr).setCell ⟨g, k * 2, none⟩ (.int .i64 ((k0 + 2 * k + 0 : Nat) : Int)))) := HB.out.setCell (p := ⟨g, k * 2, none⟩) HG.out _
      have HF0 : Hid (∀ j, j < w.heap.size → (Value.slice (some ⟨g, 0, none⟩) n cap).ownBlock ≠ some j → (((wr).setCell ⟨g, k * 2, none⟩ (.int .i64 ((k0 + 2 * k + 0 : Nat) : Int)))).heap[j]? = w.heap[j]?) := fun j hj hne => (heap_setCell_other _ _ j _ (fun e => hne (by rw [e]; rfl))).trans (HF.out j hj hne)
      go_wp2_with fail
      refine (markText_int _ (k0 + 2 * k + 1) _ (by omega) (by omega) (by omega)).mono ?_
      rintro e u1 ⟨rfl, bw1⟩
      have HO1b : Hid ((u1).ownsRow base 97 2 (.slice (some ⟨g, 0, none⟩) n cap) n ((flatWrite (mkWrite k0 l k)).set (k * 2) (.int .i64 ((k0 + 2 * k + 0 : Nat) : Int)))) := owns_below HO0.out bw1 (fun g hg => owns_lt HO0.out hg)
      have HB1b : Hid (Below base w u1) := HB0.out.trans (bw1.mono (Nat.le_trans hb HB0.out.size))
      have HF1b : Hid (∀ j, j < w.heap.size → (Value.slice (some ⟨g, 0, none⟩) n cap).ownBlock ≠ some j → (u1).heap[j]? = w.heap[j]?) := fun j hj hne => (bw1.block j (Nat.lt_of_lt_of_le hj HB0.out.size)).trans (HF0.out j hj hne)
      clear bw1 c0 f0
      obtain ⟨c1, f1⟩ := owns_at HO1b.out (k * 2 + 1) _ (by rw [List.getElem?_set_ne (by omega)]; exact HQ1.out)
      have HO1 : Hid ((((u1).setCell ⟨g, k * 2 + 1, none⟩ (.string (markOf (k0 + 2 * k + 1))))).ownsRow base 97 2 (.slice (some ⟨g, 0, none⟩) n cap) n (((flatWrite (mkWrite k0 l k)).set (k * 2) (.int .i64 ((k0 + 2 * k + 0 : Nat) : Int))).set (k * 2 + 1) (.string (markOf (k0 + 2 * k + 1))))) := owns_put HO1b.out _ _
      have HB1 : Hid (Below base w ((u1).setCell ⟨g, k * 2 + 1, none⟩ (.string (markOf (k0 + 2 * k + 1))))) := HB1b.out.setCell (p := ⟨g, k * 2 + 1, none⟩) HG.out _
      have HF1 : Hid (∀ j, j < w.heap.size → (Value.slice (some ⟨g, 0, none⟩) n cap).ownBlock ≠ some j → (((u1).setCell ⟨g, k * 2 + 1, none⟩ (.string (markOf (k0 + 2 * k + 1))))).heap[j]? = w.heap[j]?) := fun j hj hne => (heap_setCell_other _ _ j _ (fun e => hne (by rw [e]; rfl))).trans (HF1b.out j hj hne)
      have HFIN : Hid (flatWrite (mkWrite k0 l (k + 1)) = ((flatWrite (mkWrite k0 l k)).set (k * 2) (.int .i64 ((k0 + 2 * k + 0 : Nat) : Int))).set (k * 2 + 1) (.string (markOf (k0 + 2 * k + 1)))) := by
        show _ = _
        rw [mkWrite, flatWrite_set _ _ _ (by rw [mkWrite_len, HLN.out]; exact hlt)]
      go_wp2
      go_roundw
      case rel => exact ⟨k + 1, by omega, by go_num, by first | go_num | (congr 1; omega), HB1.out, by show World.ownsRow _ _ _ _ _ _ _; rw [HFIN.out]; exact HO1.out, HF1.out⟩
      case measure => simp [intOf]; omega
    · obtain rfl : k = n := by omega
      go_wp2
      go_ret
      exact ⟨rfl, HO.out, HB.out, HF.out⟩

set_option maxHeartbeats 4000000 in
set_option maxRecDepth 100000 in
theorem heldWriteS_any (oa : Option Addr) (n cap base : Nat) (l : List (Int × ByteArray)) (w : World) (h1 : w.ownsRow base 97 2 (.slice oa n cap) n (flatWrite l)) (k0 : Nat) (hk0 : 1 ≤ k0) (hn : k0 + 2 * n ≤ 9999999) (hm : ∀ j, j < n → (writeAt l j).1 = ((k0 + 2 * j + 0 : Nat) : Int) ∧ (writeAt l j).2 = (markOf (k0 + 2 * j + 1))) :
    Calls Try.prog 54 #[.slice oa n cap, .int .i64 (k0 : Int)] w fun e w' => e = .returned (.int .i64 ((k0 : Int) + 2 * (n : Int))) ∧ Below w.heap.size w w' := by
  have H1 : Hid (∀ W, Below w.heap.size w W → W.ownsRow base 97 2 (.slice oa n cap) n (flatWrite l)) := fun W h => owns_below h1 h (fun g hg => owns_lt h1 hg)
  have HM : Hid (∀ j, j < n → (writeAt l j).1 = ((k0 + 2 * j + 0 : Nat) : Int) ∧ (writeAt l j).2 = (markOf (k0 + 2 * j + 1))) := hm
  clear h1 hm
  go_enter Try.func54, Try.ntmps54
  go_wp2
  go_loopw [1, 5] (fun q i wr => ∃ k : Nat, k ≤ n ∧ i = .int .i64 (k : Int) ∧ q = .int .i64 ((k0 : Int) + 2 * (k : Int)) ∧ Hid (Below w.heap.size w wr)) (fun _ i _ => n - (intOf i).toNat)
  case atStart => exact ⟨0, Nat.zero_le _, rfl, by simp, Below.refl _ _⟩
  case round =>
    obtain ⟨k, hk, rfl, rfl, HB⟩ := hrel
    by_cases hlt : k < n
    · have hlt2 : (k : Int) < (n : Int) := by omega
      obtain ⟨g, rfl⟩ := owns_some (H1.out w (Below.refl _ _)) (by omega)
      have HA : Hid (∀ w0 w1, Below w.heap.size w w0 → Below w0.heap.size w0 w1 → (w1.cell? ⟨g, k * 2, none⟩ = some (.int .i64 ((k0 + 2 * k + 0 : Nat) : Int)) ∧ w1.cell? ⟨g, k * 2 + 1, none⟩ = some (.string (markOf (k0 + 2 * k + 1)))) ∧ Below w.heap.size w w1) := fun w0 w1 h h' => by
        have hx := h.trans (h'.mono h.size)
        obtain ⟨g', e, _, a0, a1⟩ := (write_view (H1.out w1 hx)).2 k hlt
        cases e
        obtain ⟨m0, m1⟩ := HM.out k hlt
        rw [m0] at a0
        rw [m1] at a1
        exact ⟨⟨a0, a1⟩, hx⟩
      obtain ⟨⟨e0, e1⟩, _⟩ := HA.out wr wr HB.out (Below.refl _ _)
      have hk_0 : ((((k0 + 2 * k + 0 : Nat) : Int)) != ((k0 : Int) + 2 * (k : Int))) = false := by first | (simp; done) | (simp; omega)
      go_wp2
      go_region_held3 (fun w' => w'.cell? ⟨g, k * 2 + 1, none⟩ = some (.string (markOf (k0 + 2 * k + 1)))) (first | assumption | go_keep) (first | (go_at_call 34; refine (markText_int _ (k0 + 2 * k + 1) _ (by omega) (by omega) (by omega)).mono ?_; rintro e u1 ⟨rfl, hb1⟩; obtain ⟨⟨e0, e1⟩, hbx1⟩ := HA.out _ u1 (HB.out).drew hb1))
      have HB1c : Hid (Below w.heap.size w u1) := hbx1
      clear hbx1
      go_wp2
      go_roundw
      case rel => exact ⟨k + 1, by omega, by go_num, by first | go_num | (congr 1; omega), HB1c⟩
      case measure => simp [intOf]; omega
    · obtain rfl : k = n := by omega
      go_wp2
      go_ret
      exact ⟨rfl, HB.out⟩

end Go.Proofs.Ytanpngnpolhgbaa

namespace Go.Proofs.Ytanpngnpolhgbaa
open Go.RowKit
open Go.Lib hiding intOf

/-- A disk's two lists, in memory of one's own. -/
structure DiskO (W : World) (base : Nat) (v1 : Value) (n1 : Nat) (cs : List ByteArray) (v2 : Value) (n2 : Nat) (ws : List (Int × ByteArray)) : Prop where
  cells : W.ownsRow base 9 1 v1 n1 (cs.map Value.string)
  pend : W.ownsRow base 97 2 v2 n2 (flatWrite ws)

set_option maxHeartbeats 8000000 in
set_option maxRecDepth 100000 in
theorem eqDisk_any (n1 : Nat) (cs : List ByteArray) (n2 : Nat) (ws : List (Int × ByteArray)) (v1 v2 u1 u2 : Value) (B1 B2 : Nat) (w : World) (hx : DiskO w B1 v1 n1 cs v2 n2 ws) (hy : DiskO w B2 u1 n1 cs u2 n2 ws) (hn1 : n1 ≤ 2000000) (hn2 : n2 ≤ 2000000) :
    Calls Try.prog 25 #[.agg #[v1, v2], .agg #[u1, u2]] w fun e w' => e = .returned (.bool true) ∧ Below w.heap.size w w' := by
  obtain ⟨oCx, pCx, rfl⟩ := slice_of_owns hx.cells
  have HOCx_0 : Hid ((w).ownsRow B1 9 1 (.slice oCx n1 pCx) n1 (cs.map Value.string)) := hx.cells
  obtain ⟨oPx, pPx, rfl⟩ := slice_of_owns hx.pend
  have HOPx_0 : Hid ((w).ownsRow B1 97 2 (.slice oPx n2 pPx) n2 (flatWrite ws)) := hx.pend
  clear hx
  obtain ⟨oCy, pCy, rfl⟩ := slice_of_owns hy.cells
  have HOCy_0 : Hid ((w).ownsRow B2 9 1 (.slice oCy n1 pCy) n1 (cs.map Value.string)) := hy.cells
  obtain ⟨oPy, pPy, rfl⟩ := slice_of_owns hy.pend
  have HOPy_0 : Hid ((w).ownsRow B2 97 2 (.slice oPy n2 pPy) n2 (flatWrite ws)) := hy.pend
  clear hy
  have hb0 : Below w.heap.size w w := Below.refl _ _
  go_enter Try.func25, Try.ntmps25
  go_upto_region 1 with fail
  obtain ⟨qv1, hqv1⟩ : ∃ q, q = (w).heap.size := ⟨_, rfl⟩
  obtain ⟨w1, hW1⟩ : ∃ W, W = (w).alloc (.cells #[.slice oCx n1 pCx, .slice oPx n2 pPx] 25) := ⟨_, rfl⟩
  have hz1 : (w).heap.size = qv1 := hqv1.symm
  first | rw [← hW1, ← hqv1] | rw [← hW1]
  have hs1 : w1.heap.size = qv1 + 1 := by rw [hW1, ← hz1]; simp
  have bw : Below (w).heap.size (w) w1 := by rw [hW1]; exact (Below.refl _ _).alloc (Nat.le_refl _) _
  have hb1 : Below w.heap.size w (w1) := hb0.trans (bw.mono hb0.size)
  have HOCx_1 : Hid ((w1).ownsRow B1 9 1 (.slice oCx n1 pCx) n1 (cs.map Value.string)) := owns_below HOCx_0.out bw (fun g hg => owns_lt HOCx_0.out hg)
  have HOPx_1 : Hid ((w1).ownsRow B1 97 2 (.slice oPx n2 pPx) n2 (flatWrite ws)) := owns_below HOPx_0.out bw (fun g hg => owns_lt HOPx_0.out hg)
  have HOCy_1 : Hid ((w1).ownsRow B2 9 1 (.slice oCy n1 pCy) n1 (cs.map Value.string)) := owns_below HOCy_0.out bw (fun g hg => owns_lt HOCy_0.out hg)
  have HOPy_1 : Hid ((w1).ownsRow B2 97 2 (.slice oPy n2 pPy) n2 (flatWrite ws)) := owns_below HOPy_0.out bw (fun g hg => owns_lt HOPy_0.out hg)
  have HBv1_1 : Hid ((w1).heap[qv1]? = some (.cells #[.slice oCx n1 pCx, .slice oPx n2 pPx] 25)) := by show _ = _; rw [hW1, ← hz1]; exact heap_alloc_new _ _
  clear hb0 HOCx_0 HOPx_0 HOCy_0 HOPy_0 bw hW1 hz1
  obtain ⟨qv2, hqv2⟩ : ∃ q, q = qv1 + 1 := ⟨_, rfl⟩
  obtain ⟨w2, hW2⟩ : ∃ W, W = (w1).alloc (.cells #[.slice oCy n1 pCy, .slice oPy n2 pPy] 25) := ⟨_, rfl⟩
  have hz2 : (w1).heap.size = qv2 := by rw [hqv2]; exact hs1
  first | rw [← hW2, ← hqv2] | rw [← hW2]
  have hs2 : w2.heap.size = qv2 + 1 := by rw [hW2, ← hz2]; simp
  have bw : Below (w1).heap.size (w1) w2 := by rw [hW2]; exact (Below.refl _ _).alloc (Nat.le_refl _) _
  have hb2 : Below w.heap.size w (w2) := hb1.trans (bw.mono hb1.size)
  have HOCx_2 : Hid ((w2).ownsRow B1 9 1 (.slice oCx n1 pCx) n1 (cs.map Value.string)) := owns_below HOCx_1.out bw (fun g hg => owns_lt HOCx_1.out hg)
  have HOPx_2 : Hid ((w2).ownsRow B1 97 2 (.slice oPx n2 pPx) n2 (flatWrite ws)) := owns_below HOPx_1.out bw (fun g hg => owns_lt HOPx_1.out hg)
  have HOCy_2 : Hid ((w2).ownsRow B2 9 1 (.slice oCy n1 pCy) n1 (cs.map Value.string)) := owns_below HOCy_1.out bw (fun g hg => owns_lt HOCy_1.out hg)
  have HOPy_2 : Hid ((w2).ownsRow B2 97 2 (.slice oPy n2 pPy) n2 (flatWrite ws)) := owns_below HOPy_1.out bw (fun g hg => owns_lt HOPy_1.out hg)
  have HBv1_2 : Hid ((w2).heap[qv1]? = some (.cells #[.slice oCx n1 pCx, .slice oPx n2 pPx] 25)) := blk_below HBv1_1.out bw
  have HBv2_2 : Hid ((w2).heap[qv2]? = some (.cells #[.slice oCy n1 pCy, .slice oPy n2 pPy] 25)) := by show _ = _; rw [hW2, ← hz2]; exact heap_alloc_new _ _
  clear hb1 HOCx_1 HOPx_1 HOCy_1 HOPy_1 HBv1_1 bw hW2 hz2
  clear hs2 hqv2 hs1 hqv1
  have cv1_0 : (w2).cell? ⟨qv1, 0, none⟩ = some (.slice oCx n1 pCx) := (cell_of HBv1_2.out 0).trans rfl
  have cv2_0 : (w2).cell? ⟨qv2, 0, none⟩ = some (.slice oCy n1 pCy) := (cell_of HBv2_2.out 0).trans rfl
  go_wp2_with fail
  refine (eqS_any _ _ n1 _ _ cs _ HOCx_2.out HOCy_2.out (by omega)).mono ?_
  rintro e w3 ⟨rfl, bw⟩
  have hb3 : Below w.heap.size w (w3) := hb2.trans (bw.mono hb2.size)
  have HOCx_3 : Hid ((w3).ownsRow B1 9 1 (.slice oCx n1 pCx) n1 (cs.map Value.string)) := owns_below HOCx_2.out bw (fun g hg => owns_lt HOCx_2.out hg)
  have HOPx_3 : Hid ((w3).ownsRow B1 97 2 (.slice oPx n2 pPx) n2 (flatWrite ws)) := owns_below HOPx_2.out bw (fun g hg => owns_lt HOPx_2.out hg)
  have HOCy_3 : Hid ((w3).ownsRow B2 9 1 (.slice oCy n1 pCy) n1 (cs.map Value.string)) := owns_below HOCy_2.out bw (fun g hg => owns_lt HOCy_2.out hg)
  have HOPy_3 : Hid ((w3).ownsRow B2 97 2 (.slice oPy n2 pPy) n2 (flatWrite ws)) := owns_below HOPy_2.out bw (fun g hg => owns_lt HOPy_2.out hg)
  have HBv1_3 : Hid ((w3).heap[qv1]? = some (.cells #[.slice oCx n1 pCx, .slice oPx n2 pPx] 25)) := blk_below HBv1_2.out bw
  have HBv2_3 : Hid ((w3).heap[qv2]? = some (.cells #[.slice oCy n1 pCy, .slice oPy n2 pPy] 25)) := blk_below HBv2_2.out bw
  clear hb2 HOCx_2 HOPx_2 HOCy_2 HOPy_2 HBv1_2 HBv2_2 bw
  clear cv1_0 cv2_0
  have cv1_1 : (w3).cell? ⟨qv1, 1, none⟩ = some (.slice oPx n2 pPx) := (cell_of HBv1_3.out 1).trans rfl
  have cv2_1 : (w3).cell? ⟨qv2, 1, none⟩ = some (.slice oPy n2 pPy) := (cell_of HBv2_3.out 1).trans rfl
  go_wp2_with fail
  refine (eqWriteS_any _ _ n2 _ _ ws _ (write_view HOPx_3.out) (write_view HOPy_3.out) (by omega)).mono ?_
  rintro e w4 ⟨rfl, bw⟩
  have hb4 : Below w.heap.size w (w4) := hb3.trans (bw.mono hb3.size)
  have HOCx_4 : Hid ((w4).ownsRow B1 9 1 (.slice oCx n1 pCx) n1 (cs.map Value.string)) := owns_below HOCx_3.out bw (fun g hg => owns_lt HOCx_3.out hg)
  have HOPx_4 : Hid ((w4).ownsRow B1 97 2 (.slice oPx n2 pPx) n2 (flatWrite ws)) := owns_below HOPx_3.out bw (fun g hg => owns_lt HOPx_3.out hg)
  have HOCy_4 : Hid ((w4).ownsRow B2 9 1 (.slice oCy n1 pCy) n1 (cs.map Value.string)) := owns_below HOCy_3.out bw (fun g hg => owns_lt HOCy_3.out hg)
  have HOPy_4 : Hid ((w4).ownsRow B2 97 2 (.slice oPy n2 pPy) n2 (flatWrite ws)) := owns_below HOPy_3.out bw (fun g hg => owns_lt HOPy_3.out hg)
  have HBv1_4 : Hid ((w4).heap[qv1]? = some (.cells #[.slice oCx n1 pCx, .slice oPx n2 pPx] 25)) := blk_below HBv1_3.out bw
  have HBv2_4 : Hid ((w4).heap[qv2]? = some (.cells #[.slice oCy n1 pCy, .slice oPy n2 pPy] 25)) := blk_below HBv2_3.out bw
  clear hb3 HOCx_3 HOPx_3 HOCy_3 HOPy_3 HBv1_3 HBv2_3 bw
  clear cv1_1 cv2_1
  go_wp2_with fail
  go_ret
  exact ⟨rfl, hb4⟩

set_option maxHeartbeats 8000000 in
set_option maxRecDepth 100000 in
theorem markDisk_any (n1 : Nat) (cs : List ByteArray) (n2 : Nat) (ws : List (Int × ByteArray)) (v1 v2 : Value) (B : Nat) (w : World) (hx : DiskO w B v1 n1 cs v2 n2 ws) (hB : B ≤ w.heap.size) (k0 : Nat) (hk0 : 1 ≤ k0) (hk : k0 + n1 + 2 * n2 ≤ 9999998) :
    Calls Try.prog 31 #[.agg #[v1, v2], .int .i64 (k0 : Int)] w fun e w' => e = .returned (.int .i64 (((k0 + n1 + 2 * n2) : Nat) : Int)) ∧ DiskO w' B v1 n1 (mkT k0 cs n1) v2 n2 (mkWrite (k0 + n1) ws n2) ∧ Below B w w' ∧ (∀ g, g < w.heap.size → v1.ownBlock ≠ some g → v2.ownBlock ≠ some g → w'.heap[g]? = w.heap[g]?) := by
  obtain ⟨oCx, pCx, rfl⟩ := slice_of_owns hx.cells
  have HOCx_0 : Hid ((w).ownsRow B 9 1 (.slice oCx n1 pCx) n1 (cs.map Value.string)) := hx.cells
  obtain ⟨oPx, pPx, rfl⟩ := slice_of_owns hx.pend
  have HOPx_0 : Hid ((w).ownsRow B 97 2 (.slice oPx n2 pPx) n2 (flatWrite ws)) := hx.pend
  clear hx
  have hb0 : Below B w w := Below.refl _ _
  have HFAR_0 : Hid (∀ g, g < w.heap.size → (Value.ownBlock (.slice oCx n1 pCx)) ≠ some g → (Value.ownBlock (.slice oPx n2 pPx)) ≠ some g → (w).heap[g]? = w.heap[g]?) := fun _ _ _ _ => rfl
  go_enter Try.func31, Try.ntmps31
  go_upto_region 1 with fail
  obtain ⟨qv1, hqv1⟩ : ∃ q, q = (w).heap.size := ⟨_, rfl⟩
  obtain ⟨w1, hW1⟩ : ∃ W, W = (w).alloc (.cells #[.slice oCx n1 pCx, .slice oPx n2 pPx] 25) := ⟨_, rfl⟩
  have hz1 : (w).heap.size = qv1 := hqv1.symm
  first | rw [← hW1, ← hqv1] | rw [← hW1]
  have hs1 : w1.heap.size = qv1 + 1 := by rw [hW1, ← hz1]; simp
  have bw : Below (w).heap.size (w) w1 := by rw [hW1]; exact (Below.refl _ _).alloc (Nat.le_refl _) _
  have hb1 : Below B w (w1) := hb0.trans (bw.mono (Nat.le_trans hB hb0.size))
  have HOCx_1 : Hid ((w1).ownsRow B 9 1 (.slice oCx n1 pCx) n1 (cs.map Value.string)) := owns_below HOCx_0.out bw (fun g hg => owns_lt HOCx_0.out hg)
  have HOPx_1 : Hid ((w1).ownsRow B 97 2 (.slice oPx n2 pPx) n2 (flatWrite ws)) := owns_below HOPx_0.out bw (fun g hg => owns_lt HOPx_0.out hg)
  have HFAR_1 : Hid (∀ g, g < w.heap.size → (Value.ownBlock (.slice oCx n1 pCx)) ≠ some g → (Value.ownBlock (.slice oPx n2 pPx)) ≠ some g → (w1).heap[g]? = w.heap[g]?) := fun g hg aCx aPx => (bw.block g (Nat.lt_of_lt_of_le hg hb0.size)).trans (HFAR_0.out g hg aCx aPx)
  have HBv1_1 : Hid ((w1).heap[qv1]? = some (.cells #[.slice oCx n1 pCx, .slice oPx n2 pPx] 25)) := by show _ = _; rw [hW1, ← hz1]; exact heap_alloc_new _ _
  clear hb0 HFAR_0 HOCx_0 HOPx_0 bw hW1 hz1
  clear hs1 hqv1
  have cv1_0 : (w1).cell? ⟨qv1, 0, none⟩ = some (.slice oCx n1 pCx) := (cell_of HBv1_1.out 0).trans rfl
  go_wp2_with fail
  refine (markTFrom_any _ n1 B cs _ HOCx_1.out (Nat.le_trans hB hb1.size) k0 (by omega) (by omega)).mono ?_
  rintro e w2 ⟨rfl, mk, bm, far⟩
  have hb2 : Below B w w2 := hb1.trans bm
  have HOPx_2 : Hid ((w2).ownsRow B 97 2 (.slice oPx n2 pPx) n2 (flatWrite ws)) := owns_same HOPx_1.out (fun g hg => far g (owns_lt HOPx_1.out hg) (own_type_ne HOPx_1.out HOCx_1.out (by decide) g hg))
  have HBv1_2 : Hid ((w2).heap[qv1]? = some (.cells #[.slice oCx n1 pCx, .slice oPx n2 pPx] 25)) := blk_far HBv1_1.out far HOCx_1.out (by decide)
  have HFAR_2 : Hid (∀ g, g < w.heap.size → (Value.ownBlock (.slice oCx n1 pCx)) ≠ some g → (Value.ownBlock (.slice oPx n2 pPx)) ≠ some g → (w2).heap[g]? = w.heap[g]?) := fun g hg aCx aPx => (far g (Nat.lt_of_lt_of_le hg hb1.size) aCx).trans (HFAR_1.out g hg aCx aPx)
  have HOCx_2 : Hid ((w2).ownsRow B 9 1 (.slice oCx n1 pCx) n1 ((mkT k0 cs n1).map Value.string)) := mk
  clear hb1 HFAR_1 HOCx_1 HOPx_1 HBv1_1 mk bm far
  clear cv1_0
  have cv1_1 : (w2).cell? ⟨qv1, 1, none⟩ = some (.slice oPx n2 pPx) := (cell_of HBv1_2.out 1).trans rfl
  rw [show ((k0 : Int) + (n1 : Int)) = ((k0 + n1 : Nat) : Int) by omega]
  go_wp2_with fail
  refine (markWriteS_any _ n2 _ B ws _ HOPx_2.out (Nat.le_trans hB hb2.size) (k0 + n1) (by omega) (by omega)).mono ?_
  rintro e w3 ⟨rfl, mk, bm, far⟩
  have hb3 : Below B w w3 := hb2.trans bm
  have HOCx_3 : Hid ((w3).ownsRow B 9 1 (.slice oCx n1 pCx) n1 ((mkT k0 cs n1).map Value.string)) := owns_same HOCx_2.out (fun g hg => far g (owns_lt HOCx_2.out hg) (own_type_ne HOCx_2.out HOPx_2.out (by decide) g hg))
  have HBv1_3 : Hid ((w3).heap[qv1]? = some (.cells #[.slice oCx n1 pCx, .slice oPx n2 pPx] 25)) := blk_far HBv1_2.out far HOPx_2.out (by decide)
  have HFAR_3 : Hid (∀ g, g < w.heap.size → (Value.ownBlock (.slice oCx n1 pCx)) ≠ some g → (Value.ownBlock (.slice oPx n2 pPx)) ≠ some g → (w3).heap[g]? = w.heap[g]?) := fun g hg aCx aPx => (far g (Nat.lt_of_lt_of_le hg hb2.size) aPx).trans (HFAR_2.out g hg aCx aPx)
  have HOPx_3 : Hid ((w3).ownsRow B 97 2 (.slice oPx n2 pPx) n2 (flatWrite (mkWrite (k0 + n1) ws n2))) := mk
  clear hb2 HFAR_2 HOCx_2 HOPx_2 HBv1_2 mk bm far
  clear cv1_1
  go_wp2_with fail
  go_ret
  exact ⟨congrArg (fun x : Int => Ending.returned (.int .i64 x)) (show (((k0 + n1 : Nat) : Int) + 2 * (n2 : Int)) = (((k0 + n1 + 2 * n2) : Nat) : Int) by omega), ⟨HOCx_3.out, HOPx_3.out⟩, hb3, HFAR_3.out⟩

set_option maxHeartbeats 8000000 in
set_option maxRecDepth 100000 in
theorem heldDisk_any (n1 : Nat) (cs : List ByteArray) (n2 : Nat) (ws : List (Int × ByteArray)) (v1 v2 : Value) (B : Nat) (w : World) (hx : DiskO w B v1 n1 cs v2 n2 ws) (k0 : Nat) (hk0 : 1 ≤ k0) (hk : k0 + n1 + 2 * n2 ≤ 9999998) (m1 : ∀ j, j < n1 → textAt cs j = markOf (k0 + j)) (m2 : ∀ j, j < n2 → (writeAt ws j).1 = ((k0 + n1 + 2 * j + 0 : Nat) : Int) ∧ (writeAt ws j).2 = markOf (k0 + n1 + 2 * j + 1)) :
    Calls Try.prog 38 #[.agg #[v1, v2], .int .i64 (k0 : Int)] w fun e w' => e = .returned (.int .i64 (((k0 + n1 + 2 * n2) : Nat) : Int)) ∧ Below w.heap.size w w' := by
  obtain ⟨oCx, pCx, rfl⟩ := slice_of_owns hx.cells
  have HOCx_0 : Hid ((w).ownsRow B 9 1 (.slice oCx n1 pCx) n1 (cs.map Value.string)) := hx.cells
  obtain ⟨oPx, pPx, rfl⟩ := slice_of_owns hx.pend
  have HOPx_0 : Hid ((w).ownsRow B 97 2 (.slice oPx n2 pPx) n2 (flatWrite ws)) := hx.pend
  clear hx
  have HK1 : Hid (∀ j, j < n1 → textAt cs j = markOf (k0 + j)) := m1
  have HK2 : Hid (∀ j, j < n2 → (writeAt ws j).1 = ((k0 + n1 + 2 * j + 0 : Nat) : Int) ∧ (writeAt ws j).2 = markOf (k0 + n1 + 2 * j + 1)) := m2
  clear m1 m2
  have hb0 : Below w.heap.size w w := Below.refl _ _
  go_enter Try.func38, Try.ntmps38
  go_upto_region 1 with fail
  obtain ⟨qv1, hqv1⟩ : ∃ q, q = (w).heap.size := ⟨_, rfl⟩
  obtain ⟨w1, hW1⟩ : ∃ W, W = (w).alloc (.cells #[.slice oCx n1 pCx, .slice oPx n2 pPx] 25) := ⟨_, rfl⟩
  have hz1 : (w).heap.size = qv1 := hqv1.symm
  first | rw [← hW1, ← hqv1] | rw [← hW1]
  have hs1 : w1.heap.size = qv1 + 1 := by rw [hW1, ← hz1]; simp
  have bw : Below (w).heap.size (w) w1 := by rw [hW1]; exact (Below.refl _ _).alloc (Nat.le_refl _) _
  have hb1 : Below w.heap.size w (w1) := hb0.trans (bw.mono hb0.size)
  have HOCx_1 : Hid ((w1).ownsRow B 9 1 (.slice oCx n1 pCx) n1 (cs.map Value.string)) := owns_below HOCx_0.out bw (fun g hg => owns_lt HOCx_0.out hg)
  have HOPx_1 : Hid ((w1).ownsRow B 97 2 (.slice oPx n2 pPx) n2 (flatWrite ws)) := owns_below HOPx_0.out bw (fun g hg => owns_lt HOPx_0.out hg)
  have HBv1_1 : Hid ((w1).heap[qv1]? = some (.cells #[.slice oCx n1 pCx, .slice oPx n2 pPx] 25)) := by show _ = _; rw [hW1, ← hz1]; exact heap_alloc_new _ _
  clear hb0 HOCx_0 HOPx_0 bw hW1 hz1
  clear hs1 hqv1
  have cv1_0 : (w1).cell? ⟨qv1, 0, none⟩ = some (.slice oCx n1 pCx) := (cell_of HBv1_1.out 0).trans rfl
  go_wp2_with fail
  refine (heldTFrom_any _ n1 _ cs _ HOCx_1.out k0 (by omega) (by omega) HK1.out).mono ?_
  rintro e w2 ⟨rfl, bw⟩
  have hb2 : Below w.heap.size w (w2) := hb1.trans (bw.mono hb1.size)
  have HOCx_2 : Hid ((w2).ownsRow B 9 1 (.slice oCx n1 pCx) n1 (cs.map Value.string)) := owns_below HOCx_1.out bw (fun g hg => owns_lt HOCx_1.out hg)
  have HOPx_2 : Hid ((w2).ownsRow B 97 2 (.slice oPx n2 pPx) n2 (flatWrite ws)) := owns_below HOPx_1.out bw (fun g hg => owns_lt HOPx_1.out hg)
  have HBv1_2 : Hid ((w2).heap[qv1]? = some (.cells #[.slice oCx n1 pCx, .slice oPx n2 pPx] 25)) := blk_below HBv1_1.out bw
  clear hb1 HOCx_1 HOPx_1 HBv1_1 bw
  have hkC : ¬ (((k0 : Int) + (n1 : Int)) < 0) := by omega
  clear cv1_0
  have cv1_1 : (w2).cell? ⟨qv1, 1, none⟩ = some (.slice oPx n2 pPx) := (cell_of HBv1_2.out 1).trans rfl
  rw [show ((k0 : Int) + (n1 : Int)) = ((k0 + n1 : Nat) : Int) by omega]
  go_wp2_with fail
  refine (heldWriteS_any _ n2 _ _ ws _ HOPx_2.out (k0 + n1) (by omega) (by omega) HK2.out).mono ?_
  rintro e w3 ⟨rfl, bw⟩
  have hb3 : Below w.heap.size w (w3) := hb2.trans (bw.mono hb2.size)
  have HOCx_3 : Hid ((w3).ownsRow B 9 1 (.slice oCx n1 pCx) n1 (cs.map Value.string)) := owns_below HOCx_2.out bw (fun g hg => owns_lt HOCx_2.out hg)
  have HOPx_3 : Hid ((w3).ownsRow B 97 2 (.slice oPx n2 pPx) n2 (flatWrite ws)) := owns_below HOPx_2.out bw (fun g hg => owns_lt HOPx_2.out hg)
  have HBv1_3 : Hid ((w3).heap[qv1]? = some (.cells #[.slice oCx n1 pCx, .slice oPx n2 pPx] 25)) := blk_below HBv1_2.out bw
  clear hb2 HOCx_2 HOPx_2 HBv1_2 bw
  have hkP : ¬ ((((k0 + n1 : Nat) : Int) + 2 * (n2 : Int)) < 0) := by omega
  clear cv1_1
  go_wp2_with fail
  go_ret
  exact ⟨congrArg (fun x : Int => Ending.returned (.int .i64 x)) (show (((k0 + n1 : Nat) : Int) + 2 * (n2 : Int)) = (((k0 + n1 + 2 * n2) : Nat) : Int) by omega), hb3⟩

end Go.Proofs.Ytanpngnpolhgbaa

namespace Go.Proofs.Ytanpngnpolhgbaa
open Go.RowKit
open Go.Lib hiding intOf

theorem getElem_textAt (l : List ByteArray) (i : Nat) (h : i < l.length) : l[i]? = some (textAt l i) := by
  unfold textAt
  rw [List.getD_eq_getElem?_getD, List.getElem?_eq_getElem h]
  rfl
/-- A call answers a disk of its own. -/
def DiskIs (cs : List ByteArray) (ws : List (Int × ByteArray)) (w : World) (e : Ending) (w' : World) : Prop :=
  ∃ v1 v2, e = .returned (.agg #[v1, v2]) ∧ DiskO w' w.heap.size v1 cs.length cs v2 ws.length ws ∧ Below w.heap.size w w'
def newC : List ByteArray := List.replicate 20 ⟨#[]⟩

end Go.Proofs.Ytanpngnpolhgbaa

namespace Go.Proofs.Ytanpngnpolhgbaa
open Go.RowKit
open Go.Lib hiding intOf

set_option maxHeartbeats 8000000 in
set_option maxRecDepth 100000 in
theorem eqBan_any (k : Int) (a b : ByteArray) (t : Int) (w : World) :
    Calls Try.prog 48 #[.agg #[.int .i64 k, .string a, .string b, .int .i64 t], .agg #[.int .i64 k, .string a, .string b, .int .i64 t]] w fun e w' => e = .returned (.bool true) ∧ Below w.heap.size w w' := by
  have hkk : (k != k) = false := by simp
  have haa : (a.toList != a.toList) = false := by simp
  have hbb : (b.toList != b.toList) = false := by simp
  have htt : (t != t) = false := by simp
  have hb0 : Below w.heap.size w w := Below.refl _ _
  go_enter Try.func48, Try.ntmps48
  go_upto_region 1 with fail
  obtain ⟨qv1, hqv1⟩ : ∃ q, q = (w).heap.size := ⟨_, rfl⟩
  obtain ⟨w1, hW1⟩ : ∃ W, W = (w).alloc (.cells #[.int .i64 k, .string a, .string b, .int .i64 t] 85) := ⟨_, rfl⟩
  have hz1 : (w).heap.size = qv1 := hqv1.symm
  first | rw [← hW1, ← hqv1] | rw [← hW1]
  have hs1 : w1.heap.size = qv1 + 1 := by rw [hW1, ← hz1]; simp
  have bw : Below (w).heap.size (w) w1 := by rw [hW1]; exact (Below.refl _ _).alloc (Nat.le_refl _) _
  have hb1 : Below w.heap.size w (w1) := hb0.trans (bw.mono hb0.size)
  have HBv1_1 : Hid ((w1).heap[qv1]? = some (.cells #[.int .i64 k, .string a, .string b, .int .i64 t] 85)) := by show _ = _; rw [hW1, ← hz1]; exact heap_alloc_new _ _
  clear hb0 bw hW1 hz1
  obtain ⟨qv2, hqv2⟩ : ∃ q, q = qv1 + 1 := ⟨_, rfl⟩
  obtain ⟨w2, hW2⟩ : ∃ W, W = (w1).alloc (.cells #[.int .i64 k, .string a, .string b, .int .i64 t] 85) := ⟨_, rfl⟩
  have hz2 : (w1).heap.size = qv2 := by rw [hqv2]; exact hs1
  first | rw [← hW2, ← hqv2] | rw [← hW2]
  have hs2 : w2.heap.size = qv2 + 1 := by rw [hW2, ← hz2]; simp
  have bw : Below (w1).heap.size (w1) w2 := by rw [hW2]; exact (Below.refl _ _).alloc (Nat.le_refl _) _
  have hb2 : Below w.heap.size w (w2) := hb1.trans (bw.mono hb1.size)
  have HBv1_2 : Hid ((w2).heap[qv1]? = some (.cells #[.int .i64 k, .string a, .string b, .int .i64 t] 85)) := blk_below HBv1_1.out bw
  have HBv2_2 : Hid ((w2).heap[qv2]? = some (.cells #[.int .i64 k, .string a, .string b, .int .i64 t] 85)) := by show _ = _; rw [hW2, ← hz2]; exact heap_alloc_new _ _
  clear hb1 HBv1_1 bw hW2 hz2
  clear hs2 hqv2 hs1 hqv1
  have cv1_0 : (w2).cell? ⟨qv1, 0, none⟩ = some (.int .i64 k) := (cell_of HBv1_2.out 0).trans rfl
  have cv2_0 : (w2).cell? ⟨qv2, 0, none⟩ = some (.int .i64 k) := (cell_of HBv2_2.out 0).trans rfl
  have cv1_1 : (w2).cell? ⟨qv1, 1, none⟩ = some (.string a) := (cell_of HBv1_2.out 1).trans rfl
  have cv2_1 : (w2).cell? ⟨qv2, 1, none⟩ = some (.string a) := (cell_of HBv2_2.out 1).trans rfl
  have cv1_2 : (w2).cell? ⟨qv1, 2, none⟩ = some (.string b) := (cell_of HBv1_2.out 2).trans rfl
  have cv2_2 : (w2).cell? ⟨qv2, 2, none⟩ = some (.string b) := (cell_of HBv2_2.out 2).trans rfl
  have cv1_3 : (w2).cell? ⟨qv1, 3, none⟩ = some (.int .i64 t) := (cell_of HBv1_2.out 3).trans rfl
  have cv2_3 : (w2).cell? ⟨qv2, 3, none⟩ = some (.int .i64 t) := (cell_of HBv2_2.out 3).trans rfl
  go_wp2_with fail
  go_ret
  exact ⟨rfl, hb2⟩

end Go.Proofs.Ytanpngnpolhgbaa

namespace Go.Proofs.Ytanpngnpolhgbaa
open Go.RowKit
open Go.Lib hiding intOf

/-- The i-th of a list. -/
def banAt (l : List (Int × ByteArray × ByteArray × Int)) (i : Nat) : (Int × ByteArray × ByteArray × Int) := l.getD i (0, ⟨#[]⟩, ⟨#[]⟩, 0)
/-- Its cells. -/
def banEnc (x : (Int × ByteArray × ByteArray × Int)) : List Value := [.int .i64 x.1, .string x.2.1, .string x.2.2.1, .int .i64 x.2.2.2]
def flatBan (l : List (Int × ByteArray × ByteArray × Int)) : List Value := l.flatMap banEnc
theorem flatBan_len (l : List (Int × ByteArray × ByteArray × Int)) : (flatBan l).length = l.length * 4 := by
  induction l with
  | nil => rfl
  | cons f r ih => simp only [flatBan, banEnc, List.flatMap_cons, List.length_append, List.length_cons, List.length_nil] at ih ⊢; omega
theorem flatBan_get : ∀ (l : List (Int × ByteArray × ByteArray × Int)) (i : Nat), i < l.length → (flatBan l)[i * 4]? = some (.int .i64 ((banAt l i).1)) ∧ (flatBan l)[i * 4 + 1]? = some (.string ((banAt l i).2.1)) ∧ (flatBan l)[i * 4 + 2]? = some (.string ((banAt l i).2.2.1)) ∧ (flatBan l)[i * 4 + 3]? = some (.int .i64 ((banAt l i).2.2.2))
  | [], i, h => by simp at h
  | f :: r, 0, _ => by simp [flatBan, banEnc, banAt]
  | f :: r, i + 1, h => by
    have ih := flatBan_get r i (by simpa using h)
    have e : flatBan (f :: r) = banEnc f ++ flatBan r := rfl
    have hl : (banEnc f).length = 4 := rfl
    have h2 : banAt (f :: r) (i + 1) = banAt r i := by simp [banAt]
    have key : ∀ j, (flatBan (f :: r))[i * 4 + 4 + j]? = (flatBan r)[i * 4 + j]? := fun j => by
      rw [e, List.getElem?_append_right (by rw [hl]; omega), hl]; congr 1; omega
    rw [h2]
    refine ⟨(by rw [show (i + 1) * 4 = i * 4 + 4 + 0 by omega, key]; exact ih.1), (by rw [show (i + 1) * 4 + 1 = i * 4 + 4 + 1 by omega, key]; exact ih.2.1), (by rw [show (i + 1) * 4 + 2 = i * 4 + 4 + 2 by omega, key]; exact ih.2.2.1), (by rw [show (i + 1) * 4 + 3 = i * 4 + 4 + 3 by omega, key]; exact ih.2.2.2)⟩
/-- A list that is read: its cells in a block that is there. -/
def BanA (w : World) (oa : Option Addr) (n : Nat) (l : List (Int × ByteArray × ByteArray × Int)) : Prop :=
  l.length = n ∧ ∀ i, i < n → ∃ g, oa = some ⟨g, 0, none⟩ ∧ g < w.heap.size ∧ w.cell? ⟨g, i * 4, none⟩ = some (.int .i64 ((banAt l i).1)) ∧ w.cell? ⟨g, i * 4 + 1, none⟩ = some (.string ((banAt l i).2.1)) ∧ w.cell? ⟨g, i * 4 + 2, none⟩ = some (.string ((banAt l i).2.2.1)) ∧ w.cell? ⟨g, i * 4 + 3, none⟩ = some (.int .i64 ((banAt l i).2.2.2))
theorem BanA.below {w W : World} {oa : Option Addr} {n : Nat} {l : List (Int × ByteArray × ByteArray × Int)} (h : BanA w oa n l) (hb : Below w.heap.size w W) : BanA W oa n l :=
  ⟨h.1, fun i hi => by
    obtain ⟨g, h1, h2, r0, r1, r2, r3⟩ := h.2 i hi
    exact ⟨g, h1, Nat.lt_of_lt_of_le h2 hb.size, by rw [hb.cell (p := ⟨g, i * 4, none⟩) h2]; exact r0, by rw [hb.cell (p := ⟨g, i * 4 + 1, none⟩) h2]; exact r1, by rw [hb.cell (p := ⟨g, i * 4 + 2, none⟩) h2]; exact r2, by rw [hb.cell (p := ⟨g, i * 4 + 3, none⟩) h2]; exact r3⟩⟩
/-- An owned list can be read. -/
theorem ban_view {w : World} {base n cap : Nat} {oa : Option Addr} {l : List (Int × ByteArray × ByteArray × Int)} (h : w.ownsRow base 85 4 (.slice oa n cap) n (flatBan l)) : BanA w oa n l := by
  obtain ⟨hl, hv⟩ := h
  rw [flatBan_len] at hl
  refine ⟨by omega, fun i hi => ?_⟩
  rcases hv with ⟨e, h0⟩ | ⟨g, cap, cur, e, hb, hg, hn, hm, hcs, htk⟩
  · omega
  · cases e
    have hf := flatBan_get l i (by omega)
    rw [← htk] at hf
    simp only [List.getElem?_take] at hf
    rw [if_pos (by omega), if_pos (by omega), if_pos (by omega), if_pos (by omega)] at hf
    refine ⟨g, rfl, (Array.getElem?_eq_some_iff.1 hg).1, by simp only [World.cell?, hg]; simpa using hf.1, by simp only [World.cell?, hg]; simpa using hf.2.1, by simp only [World.cell?, hg]; simpa using hf.2.2.1, by simp only [World.cell?, hg]; simpa using hf.2.2.2⟩
theorem ban_len {w : World} {base n : Nat} {v : Value} {l : List (Int × ByteArray × ByteArray × Int)} (h : w.ownsRow base 85 4 v n (flatBan l)) : l.length = n := by
  have := h.1
  rw [flatBan_len] at this
  omega
set_option maxHeartbeats 4000000 in
set_option maxRecDepth 100000 in
theorem eqBanS_any (o1 o2 : Option Addr) (n c1 c2 : Nat) (l : List (Int × ByteArray × ByteArray × Int)) (w : World) (h1 : BanA w o1 n l) (h2 : BanA w o2 n l) (hn : n ≤ 2000000) :
    Calls Try.prog 27 #[.slice o1 n c1, .slice o2 n c2] w fun e w' => e = .returned (.bool true) ∧ Below w.heap.size w w' := by
  have H1 : Hid (∀ W, Below w.heap.size w W → BanA W o1 n l) := fun W h => h1.below h
  have H2 : Hid (∀ W, Below w.heap.size w W → BanA W o2 n l) := fun W h => h2.below h
  clear h1 h2
  go_enter Try.func27, Try.ntmps27
  go_wp2
  go_loopw [5] (fun i wr => ∃ k : Nat, k ≤ n ∧ i = .int .i64 (k : Int) ∧ Hid (Below w.heap.size w wr)) (fun i _ => n - (intOf i).toNat)
  case atStart => exact ⟨0, Nat.zero_le _, rfl, Below.refl _ _⟩
  case round =>
    obtain ⟨k, hk, rfl, HBW⟩ := hrel
    by_cases hlt : k < n
    · have hlt2 : (k : Int) < (n : Int) := by omega
      obtain ⟨y, hy⟩ : ∃ y, y = banAt l k := ⟨_, rfl⟩
      obtain ⟨g1, rfl, hg1, a0, a1, a2, a3⟩ := (H1.out wr HBW.out).2 k hlt
      obtain ⟨g2, rfl, hg2, b0, b1, b2, b3⟩ := (H2.out wr HBW.out).2 k hlt
      rw [← hy] at a0 b0 a1 b1 a2 b2 a3 b3
      clear hy
      obtain ⟨y0, y1, y2, y3⟩ := y
      have HA : Hid (∀ w0 w1, Below wr.heap.size wr w0 → Below w0.heap.size w0 w1 → (w1.cell? ⟨g1, k * 4, none⟩ = some (.int .i64 y0) ∧ w1.cell? ⟨g1, k * 4 + 1, none⟩ = some (.string y1) ∧ w1.cell? ⟨g1, k * 4 + 2, none⟩ = some (.string y2) ∧ w1.cell? ⟨g1, k * 4 + 3, none⟩ = some (.int .i64 y3) ∧ w1.cell? ⟨g2, k * 4, none⟩ = some (.int .i64 y0) ∧ w1.cell? ⟨g2, k * 4 + 1, none⟩ = some (.string y1) ∧ w1.cell? ⟨g2, k * 4 + 2, none⟩ = some (.string y2) ∧ w1.cell? ⟨g2, k * 4 + 3, none⟩ = some (.int .i64 y3)) ∧ Below wr.heap.size wr w1) := fun w0 w1 h h' => by
        have hx := h.trans (h'.mono h.size)
        exact ⟨⟨by rw [hx.cell (p := ⟨g1, k * 4, none⟩) hg1]; exact a0, by rw [hx.cell (p := ⟨g1, k * 4 + 1, none⟩) hg1]; exact a1, by rw [hx.cell (p := ⟨g1, k * 4 + 2, none⟩) hg1]; exact a2, by rw [hx.cell (p := ⟨g1, k * 4 + 3, none⟩) hg1]; exact a3, by rw [hx.cell (p := ⟨g2, k * 4, none⟩) hg2]; exact b0, by rw [hx.cell (p := ⟨g2, k * 4 + 1, none⟩) hg2]; exact b1, by rw [hx.cell (p := ⟨g2, k * 4 + 2, none⟩) hg2]; exact b2, by rw [hx.cell (p := ⟨g2, k * 4 + 3, none⟩) hg2]; exact b3⟩, hx⟩
      go_wp2
      go_region_held3 (fun w' => w'.cell? ⟨g1, k * 4, none⟩ = some (.int .i64 y0) ∧ w'.cell? ⟨g1, k * 4 + 1, none⟩ = some (.string y1) ∧ w'.cell? ⟨g1, k * 4 + 2, none⟩ = some (.string y2) ∧ w'.cell? ⟨g1, k * 4 + 3, none⟩ = some (.int .i64 y3) ∧ w'.cell? ⟨g2, k * 4, none⟩ = some (.int .i64 y0) ∧ w'.cell? ⟨g2, k * 4 + 1, none⟩ = some (.string y1) ∧ w'.cell? ⟨g2, k * 4 + 2, none⟩ = some (.string y2) ∧ w'.cell? ⟨g2, k * 4 + 3, none⟩ = some (.int .i64 y3)) (first | assumption | go_keep) (first | (go_at_call 48; refine (eqBan_any _ _ _ _ _).mono ?_; rintro e w1 ⟨rfl, hb1⟩; obtain ⟨hcc, hbx⟩ := HA.out _ w1 ((Below.refl _ wr).drew) hb1))
      go_wp2
      go_roundw
      case rel => exact ⟨k + 1, by omega, by go_num, HBW.out.trans (hbx.mono HBW.out.size)⟩
      case measure => simp [intOf]; omega
    · go_wp2
      go_ret
      exact ⟨rfl, HBW.out⟩

theorem flatBan_set : ∀ (l : List (Int × ByteArray × ByteArray × Int)) (i : Nat) (x : (Int × ByteArray × ByteArray × Int)), i < l.length → flatBan (l.set i x) = ((((flatBan l).set (i * 4) (.int .i64 x.1)).set (i * 4 + 1) (.string x.2.1)).set (i * 4 + 2) (.string x.2.2.1)).set (i * 4 + 3) (.int .i64 x.2.2.2)
  | [], i, x, h => by simp at h
  | f :: r, 0, x, _ => rfl
  | f :: r, i + 1, x, h => by
    have ih := flatBan_set r i x (by simpa using h)
    have e : ∀ (m : List Value) (o : Nat) (u : Value), (banEnc f ++ m).set (4 + o) u = banEnc f ++ m.set o u := fun m o u => by rw [Nat.add_comm]; rfl
    have e0 : flatBan (f :: r) = banEnc f ++ flatBan r := rfl
    have e1 : flatBan ((f :: r).set (i + 1) x) = banEnc f ++ flatBan (r.set i x) := rfl
    rw [e1, ih, e0, show (i + 1) * 4 = 4 + i * 4 by omega, show 4 + i * 4 + 1 = 4 + (i * 4 + 1) by omega, show 4 + i * 4 + 2 = 4 + (i * 4 + 2) by omega, show 4 + i * 4 + 3 = 4 + (i * 4 + 3) by omega, e, e, e, e]
theorem banAt_set (l : List (Int × ByteArray × ByteArray × Int)) (k j : Nat) (x : (Int × ByteArray × ByteArray × Int)) (hk : k < l.length) : banAt (l.set k x) j = if j = k then x else banAt l j := by
  unfold banAt
  rw [List.getD_eq_getElem?_getD, List.getElem?_set, List.getD_eq_getElem?_getD]
  by_cases h : j = k
  · subst h; simp [hk]
  · rw [if_neg h, if_neg (fun e => h e.symm)]
/-- The list with its first k marked, from k0 on. -/
def mkBan (k0 : Nat) (l : List (Int × ByteArray × ByteArray × Int)) : Nat → List (Int × ByteArray × ByteArray × Int)
  | 0 => l
  | k + 1 => (mkBan k0 l k).set k (((k0 + 4 * k + 0 : Nat) : Int), (markOf (k0 + 4 * k + 1)), (markOf (k0 + 4 * k + 2)), ((k0 + 4 * k + 3 : Nat) : Int))
theorem mkBan_len (k0 : Nat) (l : List (Int × ByteArray × ByteArray × Int)) : ∀ k, (mkBan k0 l k).length = l.length
  | 0 => rfl
  | k + 1 => by rw [mkBan, List.length_set, mkBan_len k0 l k]
theorem mkBan_at (k0 : Nat) (l : List (Int × ByteArray × ByteArray × Int)) (j : Nat) : ∀ k, k ≤ l.length → j < k → banAt (mkBan k0 l k) j = (((k0 + 4 * j + 0 : Nat) : Int), (markOf (k0 + 4 * j + 1)), (markOf (k0 + 4 * j + 2)), ((k0 + 4 * j + 3 : Nat) : Int)) := by
  intro k
  induction k with
  | zero => intro _ h; omega
  | succ k ih =>
    intro hk h
    rw [mkBan, banAt_set _ _ _ _ (by rw [mkBan_len]; omega)]
    by_cases e : j = k
    · subst e; rw [if_pos rfl]
    · rw [if_neg e]; exact ih (by omega) (by omega)

set_option maxHeartbeats 4000000 in
set_option maxRecDepth 100000 in
theorem markBanS_any (oa : Option Addr) (n cap base : Nat) (l : List (Int × ByteArray × ByteArray × Int)) (w : World) (h1 : w.ownsRow base 85 4 (.slice oa n cap) n (flatBan l)) (hb : base ≤ w.heap.size) (k0 : Nat) (hk0 : 1 ≤ k0) (hn : k0 + 4 * n ≤ 9999999) :
    Calls Try.prog 33 #[.slice oa n cap, .int .i64 (k0 : Int)] w fun e w' => e = .returned (.int .i64 ((k0 : Int) + 4 * (n : Int))) ∧ w'.ownsRow base 85 4 (.slice oa n cap) n (flatBan (mkBan k0 l n)) ∧ Below base w w' ∧ Far (.slice oa n cap) w w' := by
  have HLN : Hid (l.length = n) := ban_len h1
  have H1 : Hid (w.ownsRow base 85 4 (.slice oa n cap) n (flatBan l)) := h1
  clear h1
  go_enter Try.func33, Try.ntmps33
  go_wp2
  go_loopw [1, 5] (fun q i wr => ∃ k : Nat, k ≤ n ∧ i = .int .i64 (k : Int) ∧ q = .int .i64 ((k0 : Int) + 4 * (k : Int)) ∧ Hid (Below base w wr) ∧ Hid (wr.ownsRow base 85 4 (.slice oa n cap) n (flatBan (mkBan k0 l k))) ∧ Hid (∀ j, j < w.heap.size → (Value.slice oa n cap).ownBlock ≠ some j → wr.heap[j]? = w.heap[j]?)) (fun _ i _ => n - (intOf i).toNat)
  case atStart => exact ⟨0, Nat.zero_le _, rfl, by simp, Below.refl _ _, H1, fun j _ _ => rfl⟩
  case round =>
    obtain ⟨k, hk, rfl, rfl, HB, HO, HF⟩ := hrel
    by_cases hlt : k < n
    · have hlt2 : (k : Int) < (n : Int) := by omega
      obtain ⟨g, rfl⟩ := owns_some H1.out (by omega)
      have HG : Hid (base ≤ g) := owns_ge H1.out rfl
      have q0 := (flatBan_get (mkBan k0 l k) k (by rw [mkBan_len, HLN.out]; exact hlt)).1
      have HQ0 : Hid _ := q0
      clear q0
      have q1 := (flatBan_get (mkBan k0 l k) k (by rw [mkBan_len, HLN.out]; exact hlt)).2.1
      have HQ1 : Hid _ := q1
      clear q1
      have q2 := (flatBan_get (mkBan k0 l k) k (by rw [mkBan_len, HLN.out]; exact hlt)).2.2.1
      have HQ2 : Hid _ := q2
      clear q2
      have q3 := (flatBan_get (mkBan k0 l k) k (by rw [mkBan_len, HLN.out]; exact hlt)).2.2.2
      have HQ3 : Hid _ := q3
      clear q3
      obtain ⟨c0, f0⟩ := owns_at HO.out (k * 4) _ (by exact HQ0.out)
      have hk_0 : (k0 : Int) + 4 * (k : Int) = ((k0 + 4 * k + 0 : Nat) : Int) := by omega
      rw [hk_0]
      clear hk_0
      have HO0 : Hid ((((wr).setCell ⟨g, k * 4, none⟩ (.int .i64 ((k0 + 4 * k + 0 : Nat) : Int)))).ownsRow base 85 4 (.slice (some ⟨g, 0, none⟩) n cap) n ((flatBan (mkBan k0 l k)).set (k * 4) (.int .i64 ((k0 + 4 * k + 0 : Nat) : Int)))) := owns_put HO.out _ _
      have HB0 : Hid (Below base w ((wr).setCell ⟨g, k * 4, none⟩ (.int .i64 ((k0 + 4 * k + 0 : Nat) : Int)))) := HB.out.setCell (p := ⟨g, k * 4, none⟩) HG.out _
      have HF0 : Hid (∀ j, j < w.heap.size → (Value.slice (some ⟨g, 0, none⟩) n cap).ownBlock ≠ some j → (((wr).setCell ⟨g, k * 4, none⟩ (.int .i64 ((k0 + 4 * k + 0 : Nat) : Int)))).heap[j]? = w.heap[j]?) := fun j hj hne => (heap_setCell_other _ _ j _ (fun e => hne (by rw [e]; rfl))).trans (HF.out j hj hne)
      go_wp2_with fail
      refine (markText_int _ (k0 + 4 * k + 1) _ (by omega) (by omega) (by omega)).mono ?_
      rintro e u1 ⟨rfl, bw1⟩
      have HO1b : Hid ((u1).ownsRow base 85 4 (.slice (some ⟨g, 0, none⟩) n cap) n ((flatBan (mkBan k0 l k)).set (k * 4) (.int .i64 ((k0 + 4 * k + 0 : Nat) : Int)))) := owns_below HO0.out bw1 (fun g hg => owns_lt HO0.out hg)
      have HB1b : Hid (Below base w u1) := HB0.out.trans (bw1.mono (Nat.le_trans hb HB0.out.size))
      have HF1b : Hid (∀ j, j < w.heap.size → (Value.slice (some ⟨g, 0, none⟩) n cap).ownBlock ≠ some j → (u1).heap[j]? = w.heap[j]?) := fun j hj hne => (bw1.block j (Nat.lt_of_lt_of_le hj HB0.out.size)).trans (HF0.out j hj hne)
      clear bw1 c0 f0
      obtain ⟨c1, f1⟩ := owns_at HO1b.out (k * 4 + 1) _ (by rw [List.getElem?_set_ne (by omega)]; exact HQ1.out)
      have HO1 : Hid ((((u1).setCell ⟨g, k * 4 + 1, none⟩ (.string (markOf (k0 + 4 * k + 1))))).ownsRow base 85 4 (.slice (some ⟨g, 0, none⟩) n cap) n (((flatBan (mkBan k0 l k)).set (k * 4) (.int .i64 ((k0 + 4 * k + 0 : Nat) : Int))).set (k * 4 + 1) (.string (markOf (k0 + 4 * k + 1))))) := owns_put HO1b.out _ _
      have HB1 : Hid (Below base w ((u1).setCell ⟨g, k * 4 + 1, none⟩ (.string (markOf (k0 + 4 * k + 1))))) := HB1b.out.setCell (p := ⟨g, k * 4 + 1, none⟩) HG.out _
      have HF1 : Hid (∀ j, j < w.heap.size → (Value.slice (some ⟨g, 0, none⟩) n cap).ownBlock ≠ some j → (((u1).setCell ⟨g, k * 4 + 1, none⟩ (.string (markOf (k0 + 4 * k + 1))))).heap[j]? = w.heap[j]?) := fun j hj hne => (heap_setCell_other _ _ j _ (fun e => hne (by rw [e]; rfl))).trans (HF1b.out j hj hne)
      go_wp2_with fail
      refine (markText_int _ (k0 + 4 * k + 2) _ (by omega) (by omega) (by omega)).mono ?_
      rintro e u2 ⟨rfl, bw2⟩
      have HO2b : Hid ((u2).ownsRow base 85 4 (.slice (some ⟨g, 0, none⟩) n cap) n (((flatBan (mkBan k0 l k)).set (k * 4) (.int .i64 ((k0 + 4 * k + 0 : Nat) : Int))).set (k * 4 + 1) (.string (markOf (k0 + 4 * k + 1))))) := owns_below HO1.out bw2 (fun g hg => owns_lt HO1.out hg)
      have HB2b : Hid (Below base w u2) := HB1.out.trans (bw2.mono (Nat.le_trans hb HB1.out.size))
      have HF2b : Hid (∀ j, j < w.heap.size → (Value.slice (some ⟨g, 0, none⟩) n cap).ownBlock ≠ some j → (u2).heap[j]? = w.heap[j]?) := fun j hj hne => (bw2.block j (Nat.lt_of_lt_of_le hj HB1.out.size)).trans (HF1.out j hj hne)
      clear bw2 c1 f1
      obtain ⟨c2, f2⟩ := owns_at HO2b.out (k * 4 + 2) _ (by rw [List.getElem?_set_ne (by omega)]; rw [List.getElem?_set_ne (by omega)]; exact HQ2.out)
      have HO2 : Hid ((((u2).setCell ⟨g, k * 4 + 2, none⟩ (.string (markOf (k0 + 4 * k + 2))))).ownsRow base 85 4 (.slice (some ⟨g, 0, none⟩) n cap) n ((((flatBan (mkBan k0 l k)).set (k * 4) (.int .i64 ((k0 + 4 * k + 0 : Nat) : Int))).set (k * 4 + 1) (.string (markOf (k0 + 4 * k + 1)))).set (k * 4 + 2) (.string (markOf (k0 + 4 * k + 2))))) := owns_put HO2b.out _ _
      have HB2 : Hid (Below base w ((u2).setCell ⟨g, k * 4 + 2, none⟩ (.string (markOf (k0 + 4 * k + 2))))) := HB2b.out.setCell (p := ⟨g, k * 4 + 2, none⟩) HG.out _
      have HF2 : Hid (∀ j, j < w.heap.size → (Value.slice (some ⟨g, 0, none⟩) n cap).ownBlock ≠ some j → (((u2).setCell ⟨g, k * 4 + 2, none⟩ (.string (markOf (k0 + 4 * k + 2))))).heap[j]? = w.heap[j]?) := fun j hj hne => (heap_setCell_other _ _ j _ (fun e => hne (by rw [e]; rfl))).trans (HF2b.out j hj hne)
      obtain ⟨c3, f3⟩ := owns_at HO2.out (k * 4 + 3) _ (by rw [List.getElem?_set_ne (by omega)]; rw [List.getElem?_set_ne (by omega)]; rw [List.getElem?_set_ne (by omega)]; exact HQ3.out)
      obtain ⟨m3, hm3⟩ : ∃ m : Nat, m = k0 + 4 * k + 3 := ⟨_, rfl⟩
      have HM3 : Hid (m3 = k0 + 4 * k + 3) := hm3
      have hk_3 : (k0 : Int) + 4 * (k : Int) + 1 + 1 + 1 = (m3 : Int) := by omega
      clear hm3
      have HO3 : Hid ((((((u2).setCell ⟨g, k * 4 + 2, none⟩ (.string (markOf (k0 + 4 * k + 2))))).setCell ⟨g, k * 4 + 3, none⟩ (.int .i64 (m3 : Int)))).ownsRow base 85 4 (.slice (some ⟨g, 0, none⟩) n cap) n (((((flatBan (mkBan k0 l k)).set (k * 4) (.int .i64 ((k0 + 4 * k + 0 : Nat) : Int))).set (k * 4 + 1) (.string (markOf (k0 + 4 * k + 1)))).set (k * 4 + 2) (.string (markOf (k0 + 4 * k + 2)))).set (k * 4 + 3) (.int .i64 (m3 : Int)))) := owns_put HO2.out _ _
      have HB3 : Hid (Below base w ((((u2).setCell ⟨g, k * 4 + 2, none⟩ (.string (markOf (k0 + 4 * k + 2))))).setCell ⟨g, k * 4 + 3, none⟩ (.int .i64 (m3 : Int)))) := HB2.out.setCell (p := ⟨g, k * 4 + 3, none⟩) HG.out _
      have HF3 : Hid (∀ j, j < w.heap.size → (Value.slice (some ⟨g, 0, none⟩) n cap).ownBlock ≠ some j → (((((u2).setCell ⟨g, k * 4 + 2, none⟩ (.string (markOf (k0 + 4 * k + 2))))).setCell ⟨g, k * 4 + 3, none⟩ (.int .i64 (m3 : Int)))).heap[j]? = w.heap[j]?) := fun j hj hne => (heap_setCell_other _ _ j _ (fun e => hne (by rw [e]; rfl))).trans (HF2.out j hj hne)
      have HFIN : Hid (flatBan (mkBan k0 l (k + 1)) = ((((flatBan (mkBan k0 l k)).set (k * 4) (.int .i64 ((k0 + 4 * k + 0 : Nat) : Int))).set (k * 4 + 1) (.string (markOf (k0 + 4 * k + 1)))).set (k * 4 + 2) (.string (markOf (k0 + 4 * k + 2)))).set (k * 4 + 3) (.int .i64 (m3 : Int))) := by
        show _ = _
        rw [HM3.out, mkBan, flatBan_set _ _ _ (by rw [mkBan_len, HLN.out]; exact hlt)]
      go_wp2
      go_roundw
      case rel => exact ⟨k + 1, by omega, by go_num, by first | go_num | (congr 1; omega), HB3.out, by show World.ownsRow _ _ _ _ _ _ _; rw [HFIN.out]; exact HO3.out, HF3.out⟩
      case measure => simp [intOf]; omega
    · obtain rfl : k = n := by omega
      go_wp2
      go_ret
      exact ⟨rfl, HO.out, HB.out, HF.out⟩

set_option maxHeartbeats 4000000 in
set_option maxRecDepth 100000 in
theorem heldBanS_any (oa : Option Addr) (n cap base : Nat) (l : List (Int × ByteArray × ByteArray × Int)) (w : World) (h1 : w.ownsRow base 85 4 (.slice oa n cap) n (flatBan l)) (k0 : Nat) (hk0 : 1 ≤ k0) (hn : k0 + 4 * n ≤ 9999999) (hm : ∀ j, j < n → (banAt l j).1 = ((k0 + 4 * j + 0 : Nat) : Int) ∧ (banAt l j).2.1 = (markOf (k0 + 4 * j + 1)) ∧ (banAt l j).2.2.1 = (markOf (k0 + 4 * j + 2)) ∧ (banAt l j).2.2.2 = ((k0 + 4 * j + 3 : Nat) : Int)) :
    Calls Try.prog 40 #[.slice oa n cap, .int .i64 (k0 : Int)] w fun e w' => e = .returned (.int .i64 ((k0 : Int) + 4 * (n : Int))) ∧ Below w.heap.size w w' := by
  have H1 : Hid (∀ W, Below w.heap.size w W → W.ownsRow base 85 4 (.slice oa n cap) n (flatBan l)) := fun W h => owns_below h1 h (fun g hg => owns_lt h1 hg)
  have HM : Hid (∀ j, j < n → (banAt l j).1 = ((k0 + 4 * j + 0 : Nat) : Int) ∧ (banAt l j).2.1 = (markOf (k0 + 4 * j + 1)) ∧ (banAt l j).2.2.1 = (markOf (k0 + 4 * j + 2)) ∧ (banAt l j).2.2.2 = ((k0 + 4 * j + 3 : Nat) : Int)) := hm
  clear h1 hm
  go_enter Try.func40, Try.ntmps40
  go_wp2
  go_loopw [1, 5] (fun q i wr => ∃ k : Nat, k ≤ n ∧ i = .int .i64 (k : Int) ∧ q = .int .i64 ((k0 : Int) + 4 * (k : Int)) ∧ Hid (Below w.heap.size w wr)) (fun _ i _ => n - (intOf i).toNat)
  case atStart => exact ⟨0, Nat.zero_le _, rfl, by simp, Below.refl _ _⟩
  case round =>
    obtain ⟨k, hk, rfl, rfl, HB⟩ := hrel
    by_cases hlt : k < n
    · have hlt2 : (k : Int) < (n : Int) := by omega
      obtain ⟨g, rfl⟩ := owns_some (H1.out w (Below.refl _ _)) (by omega)
      have HA : Hid (∀ w0 w1, Below w.heap.size w w0 → Below w0.heap.size w0 w1 → (w1.cell? ⟨g, k * 4, none⟩ = some (.int .i64 ((k0 + 4 * k + 0 : Nat) : Int)) ∧ w1.cell? ⟨g, k * 4 + 1, none⟩ = some (.string (markOf (k0 + 4 * k + 1))) ∧ w1.cell? ⟨g, k * 4 + 2, none⟩ = some (.string (markOf (k0 + 4 * k + 2))) ∧ w1.cell? ⟨g, k * 4 + 3, none⟩ = some (.int .i64 ((k0 + 4 * k + 3 : Nat) : Int))) ∧ Below w.heap.size w w1) := fun w0 w1 h h' => by
        have hx := h.trans (h'.mono h.size)
        obtain ⟨g', e, _, a0, a1, a2, a3⟩ := (ban_view (H1.out w1 hx)).2 k hlt
        cases e
        obtain ⟨m0, m1, m2, m3⟩ := HM.out k hlt
        rw [m0] at a0
        rw [m1] at a1
        rw [m2] at a2
        rw [m3] at a3
        exact ⟨⟨a0, a1, a2, a3⟩, hx⟩
      obtain ⟨⟨e0, e1, e2, e3⟩, _⟩ := HA.out wr wr HB.out (Below.refl _ _)
      have hk_0 : ((((k0 + 4 * k + 0 : Nat) : Int)) != ((k0 : Int) + 4 * (k : Int))) = false := by first | (simp; done) | (simp; omega)
      go_wp2
      go_region_held3 (fun w' => w'.cell? ⟨g, k * 4 + 1, none⟩ = some (.string (markOf (k0 + 4 * k + 1)))) (first | assumption | go_keep) (first | (go_at_call 34; refine (markText_int _ (k0 + 4 * k + 1) _ (by omega) (by omega) (by omega)).mono ?_; rintro e u1 ⟨rfl, hb1⟩; obtain ⟨⟨e0, e1, e2, e3⟩, hbx1⟩ := HA.out _ u1 (HB.out).drew hb1))
      have HB1c : Hid (Below w.heap.size w u1) := hbx1
      clear hbx1
      go_wp2
      go_region_held3 (fun w' => w'.cell? ⟨g, k * 4 + 2, none⟩ = some (.string (markOf (k0 + 4 * k + 2)))) (first | assumption | go_keep) (first | (go_at_call 34; refine (markText_int _ (k0 + 4 * k + 2) _ (by omega) (by omega) (by omega)).mono ?_; rintro e u2 ⟨rfl, hb2⟩; obtain ⟨⟨e0, e1, e2, e3⟩, hbx2⟩ := HA.out _ u2 (HB1c.out).drew hb2))
      have HB2c : Hid (Below w.heap.size w u2) := hbx2
      clear hbx2
      have hk_3 : ((((k0 + 4 * k + 3 : Nat) : Int)) != ((k0 : Int) + 4 * (k : Int) + 1 + 1 + 1)) = false := by first | (simp; done) | (simp; omega)
      go_wp2
      go_roundw
      case rel => exact ⟨k + 1, by omega, by go_num, by first | go_num | (congr 1; omega), HB2c⟩
      case measure => simp [intOf]; omega
    · obtain rfl : k = n := by omega
      go_wp2
      go_ret
      exact ⟨rfl, HB.out⟩

end Go.Proofs.Ytanpngnpolhgbaa

namespace Go.Proofs.Ytanpngnpolhgbaa
open Go.RowKit
open Go.Lib hiding intOf

/-- A store, as it is told. -/
structure ShD where
  cs : List ByteArray
  ws : List (Int × ByteArray)
  ks : List KpD
  bl : List (Int × ByteArray × ByteArray × Int)
  nx : Int
  sq : Int
def newS : ShD := ⟨newC, [], [], [], 5, 1⟩
end Go.Proofs.Ytanpngnpolhgbaa

namespace Go.Proofs.Ytanpngnpolhgbaa
open Go.RowKit
open Go.Lib hiding intOf

/-- An object's three lists, in memory of one's own, no two in one block. -/
structure ObjO (W : World) (base : Nat) (v1 : Value) (n1 : Nat) (xs : List ByteArray) (v2 : Value) (n2 : Nat) (ys : List ByteArray) (v3 : Value) (n3 : Nat) (fs : List (ByteArray × ByteArray)) : Prop where
  names : W.ownsRow base 9 1 v1 n1 (xs.map Value.string)
  vals : W.ownsRow base 9 1 v2 n2 (ys.map Value.string)
  flds : W.ownsRow base 93 2 v3 n3 (flatF fs)
  ne : ∀ j, v1.ownBlock = some j → v2.ownBlock ≠ some j


set_option maxHeartbeats 4000000 in
set_option maxRecDepth 100000 in
theorem eqObj_any (p : ByteArray) (n1 : Nat) (xs : List ByteArray) (n2 : Nat) (ys : List ByteArray) (st : Int) (n3 : Nat) (fs : List (ByteArray × ByteArray)) (b : ByteArray) (t : Int) (v1 v2 v3 u1 u2 u3 : Value) (B1 B2 : Nat) (w : World) (hx : ObjO w B1 v1 n1 xs v2 n2 ys v3 n3 fs) (hy : ObjO w B2 u1 n1 xs u2 n2 ys u3 n3 fs) (hn1 : n1 ≤ 2000000) (hn2 : n2 ≤ 2000000) (hn3 : n3 ≤ 2000000) :
    Calls Try.prog 51 #[.agg #[.string p, v1, v2, .int .i64 st, v3, .string b, .int .i64 t], .agg #[.string p, u1, u2, .int .i64 st, u3, .string b, .int .i64 t]] w fun e w' => e = .returned (.bool true) ∧ Below w.heap.size w w' := by
  obtain ⟨oNx, pNx, rfl⟩ := slice_of_owns hx.names
  obtain ⟨oVx, pVx, rfl⟩ := slice_of_owns hx.vals
  obtain ⟨oFx, pFx, rfl⟩ := slice_of_owns hx.flds
  have HONx_0 : Hid ((w).ownsRow B1 9 1 (.slice oNx n1 pNx) n1 (xs.map Value.string)) := hx.names
  have HOVx_0 : Hid ((w).ownsRow B1 9 1 (.slice oVx n2 pVx) n2 (ys.map Value.string)) := hx.vals
  have HOFx_0 : Hid ((w).ownsRow B1 93 2 (.slice oFx n3 pFx) n3 (flatF fs)) := hx.flds
  clear hx
  obtain ⟨oNy, pNy, rfl⟩ := slice_of_owns hy.names
  obtain ⟨oVy, pVy, rfl⟩ := slice_of_owns hy.vals
  obtain ⟨oFy, pFy, rfl⟩ := slice_of_owns hy.flds
  have HONy_0 : Hid ((w).ownsRow B2 9 1 (.slice oNy n1 pNy) n1 (xs.map Value.string)) := hy.names
  have HOVy_0 : Hid ((w).ownsRow B2 9 1 (.slice oVy n2 pVy) n2 (ys.map Value.string)) := hy.vals
  have HOFy_0 : Hid ((w).ownsRow B2 93 2 (.slice oFy n3 pFy) n3 (flatF fs)) := hy.flds
  clear hy
  have hpp : (p.toList != p.toList) = false := by simp
  have htt : (t != t) = false := by simp
  have hb0 : Below w.heap.size w w := Below.refl _ _
  go_enter Try.func51, Try.ntmps51
  go_upto_region 1 with fail
  obtain ⟨qv1, hqv1⟩ : ∃ q, q = (w).heap.size := ⟨_, rfl⟩
  obtain ⟨w1, hW1⟩ : ∃ W, W = (w).alloc (.cells #[.string p, .slice oNx n1 pNx, .slice oVx n2 pVx, .int .i64 st, .slice oFx n3 pFx, .string b, .int .i64 t] 60) := ⟨_, rfl⟩
  have hz1 : (w).heap.size = qv1 := hqv1.symm
  first | rw [← hW1, ← hqv1] | rw [← hW1]
  have hs1 : w1.heap.size = qv1 + 1 := by rw [hW1, ← hz1]; simp
  have bw : Below (w).heap.size (w) w1 := by rw [hW1]; exact (Below.refl _ _).alloc (Nat.le_refl _) _
  have hb1 : Below w.heap.size w (w1) := hb0.trans (bw.mono hb0.size)
  have HONx_1 : Hid ((w1).ownsRow B1 9 1 (.slice oNx n1 pNx) n1 (xs.map Value.string)) := owns_below HONx_0.out bw (fun g hg => owns_lt HONx_0.out hg)
  have HOVx_1 : Hid ((w1).ownsRow B1 9 1 (.slice oVx n2 pVx) n2 (ys.map Value.string)) := owns_below HOVx_0.out bw (fun g hg => owns_lt HOVx_0.out hg)
  have HOFx_1 : Hid ((w1).ownsRow B1 93 2 (.slice oFx n3 pFx) n3 (flatF fs)) := owns_below HOFx_0.out bw (fun g hg => owns_lt HOFx_0.out hg)
  have HONy_1 : Hid ((w1).ownsRow B2 9 1 (.slice oNy n1 pNy) n1 (xs.map Value.string)) := owns_below HONy_0.out bw (fun g hg => owns_lt HONy_0.out hg)
  have HOVy_1 : Hid ((w1).ownsRow B2 9 1 (.slice oVy n2 pVy) n2 (ys.map Value.string)) := owns_below HOVy_0.out bw (fun g hg => owns_lt HOVy_0.out hg)
  have HOFy_1 : Hid ((w1).ownsRow B2 93 2 (.slice oFy n3 pFy) n3 (flatF fs)) := owns_below HOFy_0.out bw (fun g hg => owns_lt HOFy_0.out hg)
  have HBv1_1 : Hid ((w1).heap[qv1]? = some (.cells #[.string p, .slice oNx n1 pNx, .slice oVx n2 pVx, .int .i64 st, .slice oFx n3 pFx, .string b, .int .i64 t] 60)) := by show _ = _; rw [hW1, ← hz1]; exact heap_alloc_new _ _
  clear hb0 HONx_0 HOVx_0 HOFx_0 HONy_0 HOVy_0 HOFy_0 bw hW1 hz1
  obtain ⟨qv2, hqv2⟩ : ∃ q, q = qv1 + 1 := ⟨_, rfl⟩
  obtain ⟨w2, hW2⟩ : ∃ W, W = (w1).alloc (.cells #[.string p, .slice oNy n1 pNy, .slice oVy n2 pVy, .int .i64 st, .slice oFy n3 pFy, .string b, .int .i64 t] 60) := ⟨_, rfl⟩
  have hz2 : (w1).heap.size = qv2 := by rw [hqv2]; exact hs1
  first | rw [← hW2, ← hqv2] | rw [← hW2]
  have hs2 : w2.heap.size = qv2 + 1 := by rw [hW2, ← hz2]; simp
  have bw : Below (w1).heap.size (w1) w2 := by rw [hW2]; exact (Below.refl _ _).alloc (Nat.le_refl _) _
  have hb2 : Below w.heap.size w (w2) := hb1.trans (bw.mono hb1.size)
  have HONx_2 : Hid ((w2).ownsRow B1 9 1 (.slice oNx n1 pNx) n1 (xs.map Value.string)) := owns_below HONx_1.out bw (fun g hg => owns_lt HONx_1.out hg)
  have HOVx_2 : Hid ((w2).ownsRow B1 9 1 (.slice oVx n2 pVx) n2 (ys.map Value.string)) := owns_below HOVx_1.out bw (fun g hg => owns_lt HOVx_1.out hg)
  have HOFx_2 : Hid ((w2).ownsRow B1 93 2 (.slice oFx n3 pFx) n3 (flatF fs)) := owns_below HOFx_1.out bw (fun g hg => owns_lt HOFx_1.out hg)
  have HONy_2 : Hid ((w2).ownsRow B2 9 1 (.slice oNy n1 pNy) n1 (xs.map Value.string)) := owns_below HONy_1.out bw (fun g hg => owns_lt HONy_1.out hg)
  have HOVy_2 : Hid ((w2).ownsRow B2 9 1 (.slice oVy n2 pVy) n2 (ys.map Value.string)) := owns_below HOVy_1.out bw (fun g hg => owns_lt HOVy_1.out hg)
  have HOFy_2 : Hid ((w2).ownsRow B2 93 2 (.slice oFy n3 pFy) n3 (flatF fs)) := owns_below HOFy_1.out bw (fun g hg => owns_lt HOFy_1.out hg)
  have HBv1_2 : Hid ((w2).heap[qv1]? = some (.cells #[.string p, .slice oNx n1 pNx, .slice oVx n2 pVx, .int .i64 st, .slice oFx n3 pFx, .string b, .int .i64 t] 60)) := blk_below HBv1_1.out bw
  have HBv2_2 : Hid ((w2).heap[qv2]? = some (.cells #[.string p, .slice oNy n1 pNy, .slice oVy n2 pVy, .int .i64 st, .slice oFy n3 pFy, .string b, .int .i64 t] 60)) := by show _ = _; rw [hW2, ← hz2]; exact heap_alloc_new _ _
  clear hb1 HONx_1 HOVx_1 HOFx_1 HONy_1 HOVy_1 HOFy_1 HBv1_1 bw hW2 hz2
  clear hs2 hqv2 hs1 hqv1
  have cv1_0 : (w2).cell? ⟨qv1, 0, none⟩ = some (.string p) := (cell_of HBv1_2.out 0).trans rfl
  have cv2_0 : (w2).cell? ⟨qv2, 0, none⟩ = some (.string p) := (cell_of HBv2_2.out 0).trans rfl
  have cv1_1 : (w2).cell? ⟨qv1, 1, none⟩ = some (.slice oNx n1 pNx) := (cell_of HBv1_2.out 1).trans rfl
  have cv2_1 : (w2).cell? ⟨qv2, 1, none⟩ = some (.slice oNy n1 pNy) := (cell_of HBv2_2.out 1).trans rfl
  go_wp2_with fail
  refine (eqS_any _ _ n1 _ _ xs _ HONx_2.out HONy_2.out (by omega)).mono ?_
  rintro e w3 ⟨rfl, bw⟩
  have hb3 : Below w.heap.size w (w3) := hb2.trans (bw.mono hb2.size)
  have HONx_3 : Hid ((w3).ownsRow B1 9 1 (.slice oNx n1 pNx) n1 (xs.map Value.string)) := owns_below HONx_2.out bw (fun g hg => owns_lt HONx_2.out hg)
  have HOVx_3 : Hid ((w3).ownsRow B1 9 1 (.slice oVx n2 pVx) n2 (ys.map Value.string)) := owns_below HOVx_2.out bw (fun g hg => owns_lt HOVx_2.out hg)
  have HOFx_3 : Hid ((w3).ownsRow B1 93 2 (.slice oFx n3 pFx) n3 (flatF fs)) := owns_below HOFx_2.out bw (fun g hg => owns_lt HOFx_2.out hg)
  have HONy_3 : Hid ((w3).ownsRow B2 9 1 (.slice oNy n1 pNy) n1 (xs.map Value.string)) := owns_below HONy_2.out bw (fun g hg => owns_lt HONy_2.out hg)
  have HOVy_3 : Hid ((w3).ownsRow B2 9 1 (.slice oVy n2 pVy) n2 (ys.map Value.string)) := owns_below HOVy_2.out bw (fun g hg => owns_lt HOVy_2.out hg)
  have HOFy_3 : Hid ((w3).ownsRow B2 93 2 (.slice oFy n3 pFy) n3 (flatF fs)) := owns_below HOFy_2.out bw (fun g hg => owns_lt HOFy_2.out hg)
  have HBv1_3 : Hid ((w3).heap[qv1]? = some (.cells #[.string p, .slice oNx n1 pNx, .slice oVx n2 pVx, .int .i64 st, .slice oFx n3 pFx, .string b, .int .i64 t] 60)) := blk_below HBv1_2.out bw
  have HBv2_3 : Hid ((w3).heap[qv2]? = some (.cells #[.string p, .slice oNy n1 pNy, .slice oVy n2 pVy, .int .i64 st, .slice oFy n3 pFy, .string b, .int .i64 t] 60)) := blk_below HBv2_2.out bw
  clear hb2 HONx_2 HOVx_2 HOFx_2 HONy_2 HOVy_2 HOFy_2 HBv1_2 HBv2_2 bw
  clear cv1_0 cv2_0 cv1_1 cv2_1
  have cv1_2 : (w3).cell? ⟨qv1, 2, none⟩ = some (.slice oVx n2 pVx) := (cell_of HBv1_3.out 2).trans rfl
  have cv2_2 : (w3).cell? ⟨qv2, 2, none⟩ = some (.slice oVy n2 pVy) := (cell_of HBv2_3.out 2).trans rfl
  go_wp2_with fail
  refine (eqS_any _ _ n2 _ _ ys _ HOVx_3.out HOVy_3.out (by omega)).mono ?_
  rintro e w4 ⟨rfl, bw⟩
  have hb4 : Below w.heap.size w (w4) := hb3.trans (bw.mono hb3.size)
  have HONx_4 : Hid ((w4).ownsRow B1 9 1 (.slice oNx n1 pNx) n1 (xs.map Value.string)) := owns_below HONx_3.out bw (fun g hg => owns_lt HONx_3.out hg)
  have HOVx_4 : Hid ((w4).ownsRow B1 9 1 (.slice oVx n2 pVx) n2 (ys.map Value.string)) := owns_below HOVx_3.out bw (fun g hg => owns_lt HOVx_3.out hg)
  have HOFx_4 : Hid ((w4).ownsRow B1 93 2 (.slice oFx n3 pFx) n3 (flatF fs)) := owns_below HOFx_3.out bw (fun g hg => owns_lt HOFx_3.out hg)
  have HONy_4 : Hid ((w4).ownsRow B2 9 1 (.slice oNy n1 pNy) n1 (xs.map Value.string)) := owns_below HONy_3.out bw (fun g hg => owns_lt HONy_3.out hg)
  have HOVy_4 : Hid ((w4).ownsRow B2 9 1 (.slice oVy n2 pVy) n2 (ys.map Value.string)) := owns_below HOVy_3.out bw (fun g hg => owns_lt HOVy_3.out hg)
  have HOFy_4 : Hid ((w4).ownsRow B2 93 2 (.slice oFy n3 pFy) n3 (flatF fs)) := owns_below HOFy_3.out bw (fun g hg => owns_lt HOFy_3.out hg)
  have HBv1_4 : Hid ((w4).heap[qv1]? = some (.cells #[.string p, .slice oNx n1 pNx, .slice oVx n2 pVx, .int .i64 st, .slice oFx n3 pFx, .string b, .int .i64 t] 60)) := blk_below HBv1_3.out bw
  have HBv2_4 : Hid ((w4).heap[qv2]? = some (.cells #[.string p, .slice oNy n1 pNy, .slice oVy n2 pVy, .int .i64 st, .slice oFy n3 pFy, .string b, .int .i64 t] 60)) := blk_below HBv2_3.out bw
  clear hb3 HONx_3 HOVx_3 HOFx_3 HONy_3 HOVy_3 HOFy_3 HBv1_3 HBv2_3 bw
  clear cv1_2 cv2_2
  have cv1_3 : (w4).cell? ⟨qv1, 3, none⟩ = some (.int .i64 st) := (cell_of HBv1_4.out 3).trans rfl
  have cv1_4 : (w4).cell? ⟨qv1, 4, none⟩ = some (.slice oFx n3 pFx) := (cell_of HBv1_4.out 4).trans rfl
  have cv1_5 : (w4).cell? ⟨qv1, 5, none⟩ = some (.string b) := (cell_of HBv1_4.out 5).trans rfl
  have cv2_3 : (w4).cell? ⟨qv2, 3, none⟩ = some (.int .i64 st) := (cell_of HBv2_4.out 3).trans rfl
  have cv2_4 : (w4).cell? ⟨qv2, 4, none⟩ = some (.slice oFy n3 pFy) := (cell_of HBv2_4.out 4).trans rfl
  have cv2_5 : (w4).cell? ⟨qv2, 5, none⟩ = some (.string b) := (cell_of HBv2_4.out 5).trans rfl
  go_wp2_with fail
  refine (eqResp_any st _ _ b n3 _ _ fs _ (FieldsV.of_owns HOFx_4.out) (FieldsV.of_owns HOFy_4.out) (by omega)).mono ?_
  rintro e w5 ⟨rfl, bw⟩
  have hb5 : Below w.heap.size w (w5) := hb4.trans (bw.mono hb4.size)
  have HONx_5 : Hid ((w5).ownsRow B1 9 1 (.slice oNx n1 pNx) n1 (xs.map Value.string)) := owns_below HONx_4.out bw (fun g hg => owns_lt HONx_4.out hg)
  have HOVx_5 : Hid ((w5).ownsRow B1 9 1 (.slice oVx n2 pVx) n2 (ys.map Value.string)) := owns_below HOVx_4.out bw (fun g hg => owns_lt HOVx_4.out hg)
  have HOFx_5 : Hid ((w5).ownsRow B1 93 2 (.slice oFx n3 pFx) n3 (flatF fs)) := owns_below HOFx_4.out bw (fun g hg => owns_lt HOFx_4.out hg)
  have HONy_5 : Hid ((w5).ownsRow B2 9 1 (.slice oNy n1 pNy) n1 (xs.map Value.string)) := owns_below HONy_4.out bw (fun g hg => owns_lt HONy_4.out hg)
  have HOVy_5 : Hid ((w5).ownsRow B2 9 1 (.slice oVy n2 pVy) n2 (ys.map Value.string)) := owns_below HOVy_4.out bw (fun g hg => owns_lt HOVy_4.out hg)
  have HOFy_5 : Hid ((w5).ownsRow B2 93 2 (.slice oFy n3 pFy) n3 (flatF fs)) := owns_below HOFy_4.out bw (fun g hg => owns_lt HOFy_4.out hg)
  have HBv1_5 : Hid ((w5).heap[qv1]? = some (.cells #[.string p, .slice oNx n1 pNx, .slice oVx n2 pVx, .int .i64 st, .slice oFx n3 pFx, .string b, .int .i64 t] 60)) := blk_below HBv1_4.out bw
  have HBv2_5 : Hid ((w5).heap[qv2]? = some (.cells #[.string p, .slice oNy n1 pNy, .slice oVy n2 pVy, .int .i64 st, .slice oFy n3 pFy, .string b, .int .i64 t] 60)) := blk_below HBv2_4.out bw
  clear hb4 HONx_4 HOVx_4 HOFx_4 HONy_4 HOVy_4 HOFy_4 HBv1_4 HBv2_4 bw
  clear cv1_3 cv1_4 cv1_5 cv2_3 cv2_4 cv2_5
  have cv1_6 : (w5).cell? ⟨qv1, 6, none⟩ = some (.int .i64 t) := (cell_of HBv1_5.out 6).trans rfl
  have cv2_6 : (w5).cell? ⟨qv2, 6, none⟩ = some (.int .i64 t) := (cell_of HBv2_5.out 6).trans rfl
  go_wp2_with fail
  go_ret
  exact ⟨rfl, hb5⟩

end Go.Proofs.Ytanpngnpolhgbaa

namespace Go.Proofs.Ytanpngnpolhgbaa
open Go.RowKit
open Go.Lib hiding intOf

set_option maxHeartbeats 8000000 in
set_option maxRecDepth 100000 in
theorem eqKept_any (p : ByteArray) (n1 : Nat) (xs : List ByteArray) (n2 : Nat) (ys : List ByteArray) (st : Int) (n3 : Nat) (fs : List (ByteArray × ByteArray)) (b : ByteArray) (t ka kq : Int) (v1 v2 v3 u1 u2 u3 : Value) (B1 B2 : Nat) (w : World) (hx : ObjO w B1 v1 n1 xs v2 n2 ys v3 n3 fs) (hy : ObjO w B2 u1 n1 xs u2 n2 ys u3 n3 fs) (hn1 : n1 ≤ 2000000) (hn2 : n2 ≤ 2000000) (hn3 : n3 ≤ 2000000) :
    Calls Try.prog 47 #[.agg #[.string p, v1, v2, .int .i64 st, v3, .string b, .int .i64 t, .int .i64 ka, .int .i64 kq], .agg #[.string p, u1, u2, .int .i64 st, u3, .string b, .int .i64 t, .int .i64 ka, .int .i64 kq]] w fun e w' => e = .returned (.bool true) ∧ Below w.heap.size w w' := by
  obtain ⟨oNx, pNx, rfl⟩ := slice_of_owns hx.names
  obtain ⟨oVx, pVx, rfl⟩ := slice_of_owns hx.vals
  obtain ⟨oFx, pFx, rfl⟩ := slice_of_owns hx.flds
  have HONx_0 : Hid ((w).ownsRow B1 9 1 (.slice oNx n1 pNx) n1 (xs.map Value.string)) := hx.names
  have HOVx_0 : Hid ((w).ownsRow B1 9 1 (.slice oVx n2 pVx) n2 (ys.map Value.string)) := hx.vals
  have HOFx_0 : Hid ((w).ownsRow B1 93 2 (.slice oFx n3 pFx) n3 (flatF fs)) := hx.flds
  have APx : Hid (∀ j, (Value.slice oNx n1 pNx).ownBlock = some j → (Value.slice oVx n2 pVx).ownBlock ≠ some j) := hx.ne
  clear hx
  obtain ⟨oNy, pNy, rfl⟩ := slice_of_owns hy.names
  obtain ⟨oVy, pVy, rfl⟩ := slice_of_owns hy.vals
  obtain ⟨oFy, pFy, rfl⟩ := slice_of_owns hy.flds
  have HONy_0 : Hid ((w).ownsRow B2 9 1 (.slice oNy n1 pNy) n1 (xs.map Value.string)) := hy.names
  have HOVy_0 : Hid ((w).ownsRow B2 9 1 (.slice oVy n2 pVy) n2 (ys.map Value.string)) := hy.vals
  have HOFy_0 : Hid ((w).ownsRow B2 93 2 (.slice oFy n3 pFy) n3 (flatF fs)) := hy.flds
  have APy : Hid (∀ j, (Value.slice oNy n1 pNy).ownBlock = some j → (Value.slice oVy n2 pVy).ownBlock ≠ some j) := hy.ne
  clear hy
  have hka : (ka != ka) = false := by simp
  have hkq : (kq != kq) = false := by simp
  have hb0 : Below w.heap.size w w := Below.refl _ _
  go_enter Try.func47, Try.ntmps47
  go_upto_region 1 with fail
  obtain ⟨qv1, hqv1⟩ : ∃ q, q = (w).heap.size := ⟨_, rfl⟩
  obtain ⟨w1, hW1⟩ : ∃ W, W = (w).alloc (.cells #[.string p, .slice oNx n1 pNx, .slice oVx n2 pVx, .int .i64 st, .slice oFx n3 pFx, .string b, .int .i64 t, .int .i64 ka, .int .i64 kq] 82) := ⟨_, rfl⟩
  have hz1 : (w).heap.size = qv1 := hqv1.symm
  first | rw [← hW1, ← hqv1] | rw [← hW1]
  have hs1 : w1.heap.size = qv1 + 1 := by rw [hW1, ← hz1]; simp
  have bw : Below (w).heap.size (w) w1 := by rw [hW1]; exact (Below.refl _ _).alloc (Nat.le_refl _) _
  have hb1 : Below w.heap.size w (w1) := hb0.trans (bw.mono hb0.size)
  have HONx_1 : Hid ((w1).ownsRow B1 9 1 (.slice oNx n1 pNx) n1 (xs.map Value.string)) := owns_below HONx_0.out bw (fun g hg => owns_lt HONx_0.out hg)
  have HOVx_1 : Hid ((w1).ownsRow B1 9 1 (.slice oVx n2 pVx) n2 (ys.map Value.string)) := owns_below HOVx_0.out bw (fun g hg => owns_lt HOVx_0.out hg)
  have HOFx_1 : Hid ((w1).ownsRow B1 93 2 (.slice oFx n3 pFx) n3 (flatF fs)) := owns_below HOFx_0.out bw (fun g hg => owns_lt HOFx_0.out hg)
  have HONy_1 : Hid ((w1).ownsRow B2 9 1 (.slice oNy n1 pNy) n1 (xs.map Value.string)) := owns_below HONy_0.out bw (fun g hg => owns_lt HONy_0.out hg)
  have HOVy_1 : Hid ((w1).ownsRow B2 9 1 (.slice oVy n2 pVy) n2 (ys.map Value.string)) := owns_below HOVy_0.out bw (fun g hg => owns_lt HOVy_0.out hg)
  have HOFy_1 : Hid ((w1).ownsRow B2 93 2 (.slice oFy n3 pFy) n3 (flatF fs)) := owns_below HOFy_0.out bw (fun g hg => owns_lt HOFy_0.out hg)
  have HBv1_1 : Hid ((w1).heap[qv1]? = some (.cells #[.string p, .slice oNx n1 pNx, .slice oVx n2 pVx, .int .i64 st, .slice oFx n3 pFx, .string b, .int .i64 t, .int .i64 ka, .int .i64 kq] 82)) := by show _ = _; rw [hW1, ← hz1]; exact heap_alloc_new _ _
  clear hb0 HONx_0 HOVx_0 HOFx_0 HONy_0 HOVy_0 HOFy_0 bw hW1 hz1
  obtain ⟨qv2, hqv2⟩ : ∃ q, q = qv1 + 1 := ⟨_, rfl⟩
  obtain ⟨w2, hW2⟩ : ∃ W, W = (w1).alloc (.cells #[.string p, .slice oNy n1 pNy, .slice oVy n2 pVy, .int .i64 st, .slice oFy n3 pFy, .string b, .int .i64 t, .int .i64 ka, .int .i64 kq] 82) := ⟨_, rfl⟩
  have hz2 : (w1).heap.size = qv2 := by rw [hqv2]; exact hs1
  first | rw [← hW2, ← hqv2] | rw [← hW2]
  have hs2 : w2.heap.size = qv2 + 1 := by rw [hW2, ← hz2]; simp
  have bw : Below (w1).heap.size (w1) w2 := by rw [hW2]; exact (Below.refl _ _).alloc (Nat.le_refl _) _
  have hb2 : Below w.heap.size w (w2) := hb1.trans (bw.mono hb1.size)
  have HONx_2 : Hid ((w2).ownsRow B1 9 1 (.slice oNx n1 pNx) n1 (xs.map Value.string)) := owns_below HONx_1.out bw (fun g hg => owns_lt HONx_1.out hg)
  have HOVx_2 : Hid ((w2).ownsRow B1 9 1 (.slice oVx n2 pVx) n2 (ys.map Value.string)) := owns_below HOVx_1.out bw (fun g hg => owns_lt HOVx_1.out hg)
  have HOFx_2 : Hid ((w2).ownsRow B1 93 2 (.slice oFx n3 pFx) n3 (flatF fs)) := owns_below HOFx_1.out bw (fun g hg => owns_lt HOFx_1.out hg)
  have HONy_2 : Hid ((w2).ownsRow B2 9 1 (.slice oNy n1 pNy) n1 (xs.map Value.string)) := owns_below HONy_1.out bw (fun g hg => owns_lt HONy_1.out hg)
  have HOVy_2 : Hid ((w2).ownsRow B2 9 1 (.slice oVy n2 pVy) n2 (ys.map Value.string)) := owns_below HOVy_1.out bw (fun g hg => owns_lt HOVy_1.out hg)
  have HOFy_2 : Hid ((w2).ownsRow B2 93 2 (.slice oFy n3 pFy) n3 (flatF fs)) := owns_below HOFy_1.out bw (fun g hg => owns_lt HOFy_1.out hg)
  have HBv1_2 : Hid ((w2).heap[qv1]? = some (.cells #[.string p, .slice oNx n1 pNx, .slice oVx n2 pVx, .int .i64 st, .slice oFx n3 pFx, .string b, .int .i64 t, .int .i64 ka, .int .i64 kq] 82)) := blk_below HBv1_1.out bw
  have HBv2_2 : Hid ((w2).heap[qv2]? = some (.cells #[.string p, .slice oNy n1 pNy, .slice oVy n2 pVy, .int .i64 st, .slice oFy n3 pFy, .string b, .int .i64 t, .int .i64 ka, .int .i64 kq] 82)) := by show _ = _; rw [hW2, ← hz2]; exact heap_alloc_new _ _
  clear hb1 HONx_1 HOVx_1 HOFx_1 HONy_1 HOVy_1 HOFy_1 HBv1_1 bw hW2 hz2
  clear hs2 hqv2 hs1 hqv1
  have cv1_0 : (w2).cell? ⟨qv1, 0, none⟩ = some (.string p) := (cell_of HBv1_2.out 0).trans rfl
  have cv1_1 : (w2).cell? ⟨qv1, 1, none⟩ = some (.slice oNx n1 pNx) := (cell_of HBv1_2.out 1).trans rfl
  have cv1_2 : (w2).cell? ⟨qv1, 2, none⟩ = some (.slice oVx n2 pVx) := (cell_of HBv1_2.out 2).trans rfl
  have cv1_3 : (w2).cell? ⟨qv1, 3, none⟩ = some (.int .i64 st) := (cell_of HBv1_2.out 3).trans rfl
  have cv1_4 : (w2).cell? ⟨qv1, 4, none⟩ = some (.slice oFx n3 pFx) := (cell_of HBv1_2.out 4).trans rfl
  have cv1_5 : (w2).cell? ⟨qv1, 5, none⟩ = some (.string b) := (cell_of HBv1_2.out 5).trans rfl
  have cv1_6 : (w2).cell? ⟨qv1, 6, none⟩ = some (.int .i64 t) := (cell_of HBv1_2.out 6).trans rfl
  have cv2_0 : (w2).cell? ⟨qv2, 0, none⟩ = some (.string p) := (cell_of HBv2_2.out 0).trans rfl
  have cv2_1 : (w2).cell? ⟨qv2, 1, none⟩ = some (.slice oNy n1 pNy) := (cell_of HBv2_2.out 1).trans rfl
  have cv2_2 : (w2).cell? ⟨qv2, 2, none⟩ = some (.slice oVy n2 pVy) := (cell_of HBv2_2.out 2).trans rfl
  have cv2_3 : (w2).cell? ⟨qv2, 3, none⟩ = some (.int .i64 st) := (cell_of HBv2_2.out 3).trans rfl
  have cv2_4 : (w2).cell? ⟨qv2, 4, none⟩ = some (.slice oFy n3 pFy) := (cell_of HBv2_2.out 4).trans rfl
  have cv2_5 : (w2).cell? ⟨qv2, 5, none⟩ = some (.string b) := (cell_of HBv2_2.out 5).trans rfl
  have cv2_6 : (w2).cell? ⟨qv2, 6, none⟩ = some (.int .i64 t) := (cell_of HBv2_2.out 6).trans rfl
  go_wp2_with fail
  refine (eqObj_any p n1 xs n2 ys st n3 fs b t _ _ _ _ _ _ _ _ _ ⟨HONx_2.out, HOVx_2.out, HOFx_2.out, APx.out⟩ ⟨HONy_2.out, HOVy_2.out, HOFy_2.out, APy.out⟩ hn1 hn2 hn3).mono ?_
  rintro e w3 ⟨rfl, bw⟩
  have hb3 : Below w.heap.size w (w3) := hb2.trans (bw.mono hb2.size)
  have HONx_3 : Hid ((w3).ownsRow B1 9 1 (.slice oNx n1 pNx) n1 (xs.map Value.string)) := owns_below HONx_2.out bw (fun g hg => owns_lt HONx_2.out hg)
  have HOVx_3 : Hid ((w3).ownsRow B1 9 1 (.slice oVx n2 pVx) n2 (ys.map Value.string)) := owns_below HOVx_2.out bw (fun g hg => owns_lt HOVx_2.out hg)
  have HOFx_3 : Hid ((w3).ownsRow B1 93 2 (.slice oFx n3 pFx) n3 (flatF fs)) := owns_below HOFx_2.out bw (fun g hg => owns_lt HOFx_2.out hg)
  have HONy_3 : Hid ((w3).ownsRow B2 9 1 (.slice oNy n1 pNy) n1 (xs.map Value.string)) := owns_below HONy_2.out bw (fun g hg => owns_lt HONy_2.out hg)
  have HOVy_3 : Hid ((w3).ownsRow B2 9 1 (.slice oVy n2 pVy) n2 (ys.map Value.string)) := owns_below HOVy_2.out bw (fun g hg => owns_lt HOVy_2.out hg)
  have HOFy_3 : Hid ((w3).ownsRow B2 93 2 (.slice oFy n3 pFy) n3 (flatF fs)) := owns_below HOFy_2.out bw (fun g hg => owns_lt HOFy_2.out hg)
  have HBv1_3 : Hid ((w3).heap[qv1]? = some (.cells #[.string p, .slice oNx n1 pNx, .slice oVx n2 pVx, .int .i64 st, .slice oFx n3 pFx, .string b, .int .i64 t, .int .i64 ka, .int .i64 kq] 82)) := blk_below HBv1_2.out bw
  have HBv2_3 : Hid ((w3).heap[qv2]? = some (.cells #[.string p, .slice oNy n1 pNy, .slice oVy n2 pVy, .int .i64 st, .slice oFy n3 pFy, .string b, .int .i64 t, .int .i64 ka, .int .i64 kq] 82)) := blk_below HBv2_2.out bw
  clear hb2 HONx_2 HOVx_2 HOFx_2 HONy_2 HOVy_2 HOFy_2 HBv1_2 HBv2_2 bw
  clear cv1_0 cv1_1 cv1_2 cv1_3 cv1_4 cv1_5 cv1_6 cv2_0 cv2_1 cv2_2 cv2_3 cv2_4 cv2_5 cv2_6
  have cv1_7 : (w3).cell? ⟨qv1, 7, none⟩ = some (.int .i64 ka) := (cell_of HBv1_3.out 7).trans rfl
  have cv2_7 : (w3).cell? ⟨qv2, 7, none⟩ = some (.int .i64 ka) := (cell_of HBv2_3.out 7).trans rfl
  have cv1_8 : (w3).cell? ⟨qv1, 8, none⟩ = some (.int .i64 kq) := (cell_of HBv1_3.out 8).trans rfl
  have cv2_8 : (w3).cell? ⟨qv2, 8, none⟩ = some (.int .i64 kq) := (cell_of HBv2_3.out 8).trans rfl
  go_wp2_with fail
  go_ret
  exact ⟨rfl, hb3⟩

theorem rows_objO {w : World} {B : Nat} {x : KpD × Value × Value × Value} (h : RowsO w B (kpR x)) : ObjO w B x.2.1 x.1.xs.length x.1.xs x.2.2.1 x.1.ys.length x.1.ys x.2.2.2 x.1.fs.length x.1.fs := by
  have hp := h.apart
  unfold kpR at hp
  exact ⟨h.own (kpN x) (by simp [kpR]), h.own (kpV x) (by simp [kpR]), h.own (kpF x) (by simp [kpR]), fun g hg => (List.pairwise_cons.1 hp).1 (kpV x) (by simp) g hg⟩
theorem KeptsO.obj {w : World} {base : Nat} {V : Value} {kv : List (KpD × Value × Value × Value)} (h : KeptsO w base V kv) {x : KpD × Value × Value × Value} (hx : x ∈ kv) : RowsO w base (kpR x) := by
  obtain ⟨s, t, e⟩ := List.append_of_mem hx
  refine RowsO.sub h ?_
  unfold kpAll
  rw [e, List.flatMap_append, List.flatMap_cons]
  exact ((List.sublist_append_left _ _).trans (List.sublist_append_right _ _)).trans (List.sublist_cons_self _ _)
end Go.Proofs.Ytanpngnpolhgbaa

namespace Go.Proofs.Ytanpngnpolhgbaa
open Go.RowKit
open Go.Lib hiding intOf

set_option maxHeartbeats 8000000 in
set_option maxRecDepth 100000 in
theorem eqKeptS_any (V1 V2 : Value) (kv1 kv2 : List (KpD × Value × Value × Value)) (B1 B2 : Nat) (w : World) (he : kv1.map (·.1) = kv2.map (·.1)) (h1 : KeptsO w B1 V1 kv1) (h2 : KeptsO w B2 V2 kv2) (hn : kv1.length ≤ 2000000) (hs : ∀ x ∈ kv1, x.1.xs.length ≤ 2000000 ∧ x.1.ys.length ≤ 2000000 ∧ x.1.fs.length ≤ 2000000) :
    Calls Try.prog 26 #[V1, V2] w fun e w' => e = .returned (.bool true) ∧ Below w.heap.size w w' := by
  have hlen : kv2.length = kv1.length := by have := congrArg List.length he; simpa using this.symm
  obtain ⟨n, hnn⟩ : ∃ n, n = kv1.length := ⟨_, rfl⟩
  obtain ⟨o1, c1, e1⟩ := h1.len
  obtain ⟨o2, c2, e2⟩ := h2.len
  rw [← hnn] at e1 hn
  rw [hlen, ← hnn] at e2
  subst e1 e2
  have HL1 : Hid (kv1.length = n) := hnn.symm
  have HL2 : Hid (kv2.length = n) := hlen.trans hnn.symm
  have HE : Hid (kv1.map (·.1) = kv2.map (·.1)) := he
  have HS : Hid (∀ x ∈ kv1, x.1.xs.length ≤ 2000000 ∧ x.1.ys.length ≤ 2000000 ∧ x.1.fs.length ≤ 2000000) := hs
  have H1 : Hid (∀ W, Below w.heap.size w W → KeptsO W B1 (.slice o1 n c1) kv1) := fun W h => h1.below h
  have H2 : Hid (∀ W, Below w.heap.size w W → KeptsO W B2 (.slice o2 n c2) kv2) := fun W h => h2.below h
  clear h1 h2 hlen hnn he hs
  go_enter Try.func26, Try.ntmps26
  go_wp2
  go_loopw [5] (fun i wr => ∃ k : Nat, k ≤ n ∧ i = .int .i64 (k : Int) ∧ Hid (Below w.heap.size w wr)) (fun i _ => n - (intOf i).toNat)
  case atStart => exact ⟨0, Nat.zero_le _, rfl, Below.refl _ _⟩
  case round =>
    obtain ⟨k, hk, rfl, HBW⟩ := hrel
    by_cases hlt : k < n
    · have hlt2 : (k : Int) < (n : Int) := by omega
      obtain ⟨g1, cp1, ev1, hg1, at1⟩ := (H1.out wr HBW.out).at k (by rw [HL1.out]; exact hlt)
      obtain ⟨g2, cp2, ev2, hg2, at2⟩ := (H2.out wr HBW.out).at k (by rw [HL2.out]; exact hlt)
      obtain rfl : o1 = some ⟨g1, 0, none⟩ := (Value.slice.inj ev1).1
      obtain rfl : o2 = some ⟨g2, 0, none⟩ := (Value.slice.inj ev2).1
      have exy : (kv1[k]'(by rw [HL1.out]; exact hlt)).1 = (kv2[k]'(by rw [HL2.out]; exact hlt)).1 := by
        have h := congrArg (fun l : List KpD => l[k]?) HE.out
        simpa [List.getElem?_map, List.getElem?_eq_getElem (show k < kv1.length by rw [HL1.out]; exact hlt), List.getElem?_eq_getElem (show k < kv2.length by rw [HL2.out]; exact hlt)] using h
      have m1 : kv1[k]'(by rw [HL1.out]; exact hlt) ∈ kv1 := List.getElem_mem _
      have m2 : kv2[k]'(by rw [HL2.out]; exact hlt) ∈ kv2 := List.getElem_mem _
      generalize kv1[k]'(by rw [HL1.out]; exact hlt) = x at at1 exy m1
      generalize kv2[k]'(by rw [HL2.out]; exact hlt) = y at at2 exy m2
      obtain ⟨d, v1, v2, v3⟩ := x
      obtain ⟨d', u1, u2, u3⟩ := y
      obtain rfl : d = d' := exy
      have HO1 : Hid (∀ W, Below wr.heap.size wr W → ObjO W B1 v1 d.xs.length d.xs v2 d.ys.length d.ys v3 d.fs.length d.fs) := fun W h => rows_objO (((H1.out wr HBW.out).below h).obj m1)
      have HO2 : Hid (∀ W, Below wr.heap.size wr W → ObjO W B2 u1 d.xs.length d.xs u2 d.ys.length d.ys u3 d.fs.length d.fs) := fun W h => rows_objO (((H2.out wr HBW.out).below h).obj m2)
      have HSZ : Hid (d.xs.length ≤ 2000000 ∧ d.ys.length ≤ 2000000 ∧ d.fs.length ≤ 2000000) := HS.out _ m1
      have a0 : wr.cell? ⟨g1, k * 9, none⟩ = some (.string d.p) := at1.c0
      have a1 : wr.cell? ⟨g1, k * 9 + 1, none⟩ = some (v1) := at1.c1
      have a2 : wr.cell? ⟨g1, k * 9 + 2, none⟩ = some (v2) := at1.c2
      have a3 : wr.cell? ⟨g1, k * 9 + 3, none⟩ = some (.int .i64 d.st) := at1.c3
      have a4 : wr.cell? ⟨g1, k * 9 + 4, none⟩ = some (v3) := at1.c4
      have a5 : wr.cell? ⟨g1, k * 9 + 5, none⟩ = some (.string d.b) := at1.c5
      have a6 : wr.cell? ⟨g1, k * 9 + 6, none⟩ = some (.int .i64 d.t) := at1.c6
      have a7 : wr.cell? ⟨g1, k * 9 + 7, none⟩ = some (.int .i64 d.a) := at1.c7
      have a8 : wr.cell? ⟨g1, k * 9 + 8, none⟩ = some (.int .i64 d.q) := at1.c8
      have b0 : wr.cell? ⟨g2, k * 9, none⟩ = some (.string d.p) := at2.c0
      have b1 : wr.cell? ⟨g2, k * 9 + 1, none⟩ = some (u1) := at2.c1
      have b2 : wr.cell? ⟨g2, k * 9 + 2, none⟩ = some (u2) := at2.c2
      have b3 : wr.cell? ⟨g2, k * 9 + 3, none⟩ = some (.int .i64 d.st) := at2.c3
      have b4 : wr.cell? ⟨g2, k * 9 + 4, none⟩ = some (u3) := at2.c4
      have b5 : wr.cell? ⟨g2, k * 9 + 5, none⟩ = some (.string d.b) := at2.c5
      have b6 : wr.cell? ⟨g2, k * 9 + 6, none⟩ = some (.int .i64 d.t) := at2.c6
      have b7 : wr.cell? ⟨g2, k * 9 + 7, none⟩ = some (.int .i64 d.a) := at2.c7
      have b8 : wr.cell? ⟨g2, k * 9 + 8, none⟩ = some (.int .i64 d.q) := at2.c8
      clear at1 at2 m1 m2 ev1 ev2
      have HA : Hid (∀ w0 w1, Below wr.heap.size wr w0 → Below w0.heap.size w0 w1 → (w1.cell? ⟨g1, k * 9, none⟩ = some (.string d.p) ∧ w1.cell? ⟨g1, k * 9 + 1, none⟩ = some (v1) ∧ w1.cell? ⟨g1, k * 9 + 2, none⟩ = some (v2) ∧ w1.cell? ⟨g1, k * 9 + 3, none⟩ = some (.int .i64 d.st) ∧ w1.cell? ⟨g1, k * 9 + 4, none⟩ = some (v3) ∧ w1.cell? ⟨g1, k * 9 + 5, none⟩ = some (.string d.b) ∧ w1.cell? ⟨g1, k * 9 + 6, none⟩ = some (.int .i64 d.t) ∧ w1.cell? ⟨g1, k * 9 + 7, none⟩ = some (.int .i64 d.a) ∧ w1.cell? ⟨g1, k * 9 + 8, none⟩ = some (.int .i64 d.q) ∧ w1.cell? ⟨g2, k * 9, none⟩ = some (.string d.p) ∧ w1.cell? ⟨g2, k * 9 + 1, none⟩ = some (u1) ∧ w1.cell? ⟨g2, k * 9 + 2, none⟩ = some (u2) ∧ w1.cell? ⟨g2, k * 9 + 3, none⟩ = some (.int .i64 d.st) ∧ w1.cell? ⟨g2, k * 9 + 4, none⟩ = some (u3) ∧ w1.cell? ⟨g2, k * 9 + 5, none⟩ = some (.string d.b) ∧ w1.cell? ⟨g2, k * 9 + 6, none⟩ = some (.int .i64 d.t) ∧ w1.cell? ⟨g2, k * 9 + 7, none⟩ = some (.int .i64 d.a) ∧ w1.cell? ⟨g2, k * 9 + 8, none⟩ = some (.int .i64 d.q)) ∧ Below wr.heap.size wr w1) := fun w0 w1 h h' => by
        have hx := h.trans (h'.mono h.size)
        exact ⟨⟨by rw [hx.cell (p := ⟨g1, k * 9, none⟩) hg1]; exact a0, by rw [hx.cell (p := ⟨g1, k * 9 + 1, none⟩) hg1]; exact a1, by rw [hx.cell (p := ⟨g1, k * 9 + 2, none⟩) hg1]; exact a2, by rw [hx.cell (p := ⟨g1, k * 9 + 3, none⟩) hg1]; exact a3, by rw [hx.cell (p := ⟨g1, k * 9 + 4, none⟩) hg1]; exact a4, by rw [hx.cell (p := ⟨g1, k * 9 + 5, none⟩) hg1]; exact a5, by rw [hx.cell (p := ⟨g1, k * 9 + 6, none⟩) hg1]; exact a6, by rw [hx.cell (p := ⟨g1, k * 9 + 7, none⟩) hg1]; exact a7, by rw [hx.cell (p := ⟨g1, k * 9 + 8, none⟩) hg1]; exact a8, by rw [hx.cell (p := ⟨g2, k * 9, none⟩) hg2]; exact b0, by rw [hx.cell (p := ⟨g2, k * 9 + 1, none⟩) hg2]; exact b1, by rw [hx.cell (p := ⟨g2, k * 9 + 2, none⟩) hg2]; exact b2, by rw [hx.cell (p := ⟨g2, k * 9 + 3, none⟩) hg2]; exact b3, by rw [hx.cell (p := ⟨g2, k * 9 + 4, none⟩) hg2]; exact b4, by rw [hx.cell (p := ⟨g2, k * 9 + 5, none⟩) hg2]; exact b5, by rw [hx.cell (p := ⟨g2, k * 9 + 6, none⟩) hg2]; exact b6, by rw [hx.cell (p := ⟨g2, k * 9 + 7, none⟩) hg2]; exact b7, by rw [hx.cell (p := ⟨g2, k * 9 + 8, none⟩) hg2]; exact b8⟩, hx⟩
      go_wp2
      go_region_held3 (fun w' => w'.cell? ⟨g1, k * 9, none⟩ = some (.string d.p) ∧ w'.cell? ⟨g1, k * 9 + 1, none⟩ = some (v1) ∧ w'.cell? ⟨g1, k * 9 + 2, none⟩ = some (v2) ∧ w'.cell? ⟨g1, k * 9 + 3, none⟩ = some (.int .i64 d.st) ∧ w'.cell? ⟨g1, k * 9 + 4, none⟩ = some (v3) ∧ w'.cell? ⟨g1, k * 9 + 5, none⟩ = some (.string d.b) ∧ w'.cell? ⟨g1, k * 9 + 6, none⟩ = some (.int .i64 d.t) ∧ w'.cell? ⟨g1, k * 9 + 7, none⟩ = some (.int .i64 d.a) ∧ w'.cell? ⟨g1, k * 9 + 8, none⟩ = some (.int .i64 d.q) ∧ w'.cell? ⟨g2, k * 9, none⟩ = some (.string d.p) ∧ w'.cell? ⟨g2, k * 9 + 1, none⟩ = some (u1) ∧ w'.cell? ⟨g2, k * 9 + 2, none⟩ = some (u2) ∧ w'.cell? ⟨g2, k * 9 + 3, none⟩ = some (.int .i64 d.st) ∧ w'.cell? ⟨g2, k * 9 + 4, none⟩ = some (u3) ∧ w'.cell? ⟨g2, k * 9 + 5, none⟩ = some (.string d.b) ∧ w'.cell? ⟨g2, k * 9 + 6, none⟩ = some (.int .i64 d.t) ∧ w'.cell? ⟨g2, k * 9 + 7, none⟩ = some (.int .i64 d.a) ∧ w'.cell? ⟨g2, k * 9 + 8, none⟩ = some (.int .i64 d.q)) (first | assumption | go_keep) (first | (go_at_call 47; refine (eqKept_any d.p d.xs.length d.xs d.ys.length d.ys d.st d.fs.length d.fs d.b d.t d.a d.q _ _ _ _ _ _ B1 B2 _ (HO1.out _ ((Below.refl _ wr).drew)) (HO2.out _ ((Below.refl _ wr).drew)) HSZ.out.1 HSZ.out.2.1 HSZ.out.2.2).mono ?_; rintro e w1 ⟨rfl, hb1⟩; obtain ⟨hcc, hbx⟩ := HA.out _ w1 ((Below.refl _ wr).drew) hb1))
      go_wp2
      go_roundw
      case rel => exact ⟨k + 1, by omega, by go_num, HBW.out.trans (hbx.mono HBW.out.size)⟩
      case measure => simp [intOf]; omega
    · go_wp2
      go_ret
      exact ⟨rfl, HBW.out⟩

end Go.Proofs.Ytanpngnpolhgbaa

namespace Go.Proofs.Ytanpngnpolhgbaa
open Go.RowKit
open Go.Lib hiding intOf

/-- What is no row's stays. -/
def FarR (rs : List Rw) (w W : World) : Prop := ∀ j, j < w.heap.size → (∀ r ∈ rs, r.v.ownBlock ≠ some j) → W.heap[j]? = w.heap[j]?
/-- One of a list, by what stands ahead of it and behind it: its cells can be read and written. -/
theorem kept_at {W : World} {base g n cap k : Nat} {pre post : List (KpD × Value × Value × Value)} {x : KpD × Value × Value × Value} (h : KeptsO W base (.slice (some ⟨g, 0, none⟩) n cap) (pre ++ x :: post)) (hn : (pre ++ x :: post).length = n) (hk : pre.length = k) (j : Nat) (hj : j < 9) (u : Value) (hu : (kpC x)[j]? = some u) : W.cell? ⟨g, k * 9 + j, none⟩ = some u ∧ W.frozen? ⟨g, k * 9 + j, none⟩ = false := by
  have hr := h.row
  rw [hn] at hr
  refine owns_cellC hr (k * 9 + j) u ?_
  rw [← hk, items_at kpC 9 kpC_len (pre ++ x :: post) pre.length j (by simp) hj]
  simpa using hu
theorem kept_cell {W : World} {base g n cap k : Nat} {pre post : List (KpD × Value × Value × Value)} {x x' : KpD × Value × Value × Value} (h : KeptsO W base (.slice (some ⟨g, 0, none⟩) n cap) (pre ++ x :: post)) (hn : (pre ++ x :: post).length = n) (hk : pre.length = k) (j : Nat) (hj : j < 9) (u : Value) (hc : kpC x' = (kpC x).set j u) (hr : kpR x' = kpR x) : KeptsO (W.setCell ⟨g, k * 9 + j, none⟩ u) base (.slice (some ⟨g, 0, none⟩) n cap) (pre ++ x' :: post) := by
  have hrow := h.row
  rw [hn] at hrow
  have h1 := owns_setC hrow (k * 9 + j) u
  have e1 : ((pre ++ x :: post).flatMap kpC).set (k * 9 + j) u = (pre ++ x' :: post).flatMap kpC := by
    rw [List.flatMap_append, List.flatMap_cons, List.flatMap_append, List.flatMap_cons, List.set_append_right _ _ (by rw [items_len kpC 9 kpC_len, hk]; omega), items_len kpC 9 kpC_len, hk, Nat.add_sub_cancel_left, List.set_append_left _ _ (by rw [kpC_len]; exact hj), ← hc]
  rw [e1] at h1
  have e2 : (pre ++ x' :: post).flatMap kpR = (pre ++ x :: post).flatMap kpR := by rw [List.flatMap_append, List.flatMap_cons, List.flatMap_append, List.flatMap_cons, hr]
  have hl : (pre ++ x' :: post).length = n := by rw [← hn]; simp
  have h2 : RowsO W base ([] ++ kpRow (.slice (some ⟨g, 0, none⟩) n cap) (pre ++ x :: post) :: (pre ++ x :: post).flatMap kpR) := h
  have hown : (kpRow (.slice (some ⟨g, 0, none⟩) n cap) (pre ++ x' :: post)).own (W.setCell ⟨g, k * 9 + j, none⟩ u) base := by
    unfold Rw.own kpRow
    rw [hl]
    exact h1
  have h3 := h2.turn (r' := kpRow (.slice (some ⟨g, 0, none⟩) n cap) (pre ++ x' :: post)) rfl hown (fun j' _ hne => heap_setCell_other _ _ j' _ (fun e => hne (by rw [e]; rfl)))
  unfold KeptsO kpAll
  rw [e2]
  exact h3
theorem kept_row {W W' : World} {base : Nat} {V : Value} {pre post : List (KpD × Value × Value × Value)} {x x' : KpD × Value × Value × Value} (h : KeptsO W base V (pre ++ x :: post)) {r r' : Rw} {a b : List Rw} (ha : kpR x = a ++ r :: b) (hb : kpR x' = a ++ r' :: b) (hc : kpC x' = kpC x) (hv : r'.v = r.v) (ho : r'.own W' base) (hs : ∀ j, j < W.heap.size → r.v.ownBlock ≠ some j → W'.heap[j]? = W.heap[j]?) : KeptsO W' base V (pre ++ x' :: post) := by
  have e1 : kpAll V (pre ++ x :: post) = (kpRow V (pre ++ x :: post) :: (pre.flatMap kpR ++ a)) ++ r :: (b ++ post.flatMap kpR) := by
    unfold kpAll
    rw [List.flatMap_append, List.flatMap_cons, ha]
    simp
  have e2 : kpAll V (pre ++ x' :: post) = (kpRow V (pre ++ x :: post) :: (pre.flatMap kpR ++ a)) ++ r' :: (b ++ post.flatMap kpR) := by
    have e3 : kpRow V (pre ++ x' :: post) = kpRow V (pre ++ x :: post) := by
      unfold kpRow
      rw [List.flatMap_append, List.flatMap_cons, List.flatMap_append, List.flatMap_cons, hc]
      simp
    unfold kpAll
    rw [e3, List.flatMap_append, List.flatMap_cons, hb]
    simp
  have h1 : RowsO W base ((kpRow V (pre ++ x :: post) :: (pre.flatMap kpR ++ a)) ++ r :: (b ++ post.flatMap kpR)) := by rw [← e1]; exact h
  have h2 := h1.turn hv ho hs
  unfold KeptsO
  rw [e2]
  exact h2
/-- How many numbers one takes. -/
def wm1 (d : KpD) : Nat := 6 + d.xs.length + d.ys.length + 2 * d.fs.length
def wms : List (KpD × Value × Value × Value) → Nat
  | [] => 0
  | x :: r => wm1 x.1 + wms r
theorem wms_snoc (x : KpD × Value × Value × Value) : ∀ l : List (KpD × Value × Value × Value), wms (l ++ [x]) = wms l + wm1 x.1
  | [] => by simp [wms]
  | y :: l => by rw [List.cons_append, wms, wms_snoc x l, wms]; omega
theorem wms_append : ∀ (l m : List (KpD × Value × Value × Value)), wms (l ++ m) = wms l + wms m
  | [], m => by simp [wms]
  | y :: l, m => by rw [List.cons_append, wms, wms_append l m, wms]; omega
/-- One marked from k on. -/
def mkD (k : Nat) (d : KpD) : KpD := ⟨markOf k, mkT (k + 1) d.xs d.xs.length, mkT (k + 1 + d.xs.length) d.ys d.ys.length, ((k + 1 + d.xs.length + d.ys.length : Nat) : Int), mkG (k + 2 + d.xs.length + d.ys.length) d.fs d.fs.length, markOf (k + 2 + d.xs.length + d.ys.length + 2 * d.fs.length), ((k + 3 + d.xs.length + d.ys.length + 2 * d.fs.length : Nat) : Int), ((k + 4 + d.xs.length + d.ys.length + 2 * d.fs.length : Nat) : Int), ((k + 5 + d.xs.length + d.ys.length + 2 * d.fs.length : Nat) : Int)⟩
def mkKs (k : Nat) : List (KpD × Value × Value × Value) → List (KpD × Value × Value × Value)
  | [] => []
  | x :: r => (mkD k x.1, x.2) :: mkKs (k + wm1 x.1) r
theorem mkKs_len : ∀ (k : Nat) (l : List (KpD × Value × Value × Value)), (mkKs k l).length = l.length
  | _, [] => rfl
  | k, x :: r => by rw [mkKs, List.length_cons, mkKs_len _ r, List.length_cons]
theorem mkKs_snoc (x : KpD × Value × Value × Value) : ∀ (k : Nat) (l : List (KpD × Value × Value × Value)), mkKs k (l ++ [x]) = mkKs k l ++ [(mkD (k + wms l) x.1, x.2)]
  | _, [] => by simp [mkKs, wms]
  | k, y :: l => by rw [List.cons_append, mkKs, mkKs_snoc x _ l, mkKs, wms]; simp [Nat.add_assoc]

set_option maxHeartbeats 8000000 in
set_option maxRecDepth 100000 in
theorem markKeptS_any (V : Value) (kv : List (KpD × Value × Value × Value)) (base : Nat) (w : World) (h1 : KeptsO w base V kv) (hb : base ≤ w.heap.size) (k0 : Nat) (hk0 : 1 ≤ k0) (hn : k0 + wms kv ≤ 9999998) (hm : kv.length ≤ 2000000) :
    Calls Try.prog 32 #[V, .int .i64 (k0 : Int)] w fun e w' => e = .returned (.int .i64 ((k0 + wms kv : Nat) : Int)) ∧ KeptsO w' base V (mkKs k0 kv) ∧ Below base w w' ∧ FarR (kpAll V kv) w w' := by
  obtain ⟨n, hnn⟩ : ∃ n, n = kv.length := ⟨_, rfl⟩
  obtain ⟨oa, cap, e1⟩ := h1.len
  rw [← hnn] at e1 hm
  subst e1
  have HLN : Hid (kv.length = n) := hnn.symm
  have H1 : Hid (KeptsO w base (.slice oa n cap) kv) := h1
  obtain ⟨TW, hTW⟩ : ∃ m, m = wms kv := ⟨_, rfl⟩
  have HTW : Hid (TW = wms kv) := hTW
  rw [← hTW] at hn ⊢
  clear h1 hnn hTW
  go_enter Try.func32, Try.ntmps32
  go_wp2
  go_loopw [1, 5] (fun q i wr => ∃ (k K : Nat), k ≤ n ∧ i = .int .i64 (k : Int) ∧ q = .int .i64 (K : Int) ∧ 1 ≤ K ∧ Hid (K = k0 + wms (kv.take k)) ∧ Hid (Below base w wr) ∧ Hid (KeptsO wr base (.slice oa n cap) (mkKs k0 (kv.take k) ++ kv.drop k)) ∧ Hid (FarR (kpAll (.slice oa n cap) kv) w wr)) (fun _ i _ => n - (intOf i).toNat)
  case atStart => exact ⟨0, k0, Nat.zero_le _, rfl, rfl, hk0, by simp [Hid, wms], Below.refl _ _, by simpa [Hid, mkKs] using H1.out, fun _ _ _ => rfl⟩
  case round =>
    obtain ⟨k, K, hk, rfl, rfl, hK1, HKE, HB0, HK0', HF0⟩ := hrel
    by_cases hlt : k < n
    · have hlt2 : (k : Int) < (n : Int) := by omega
      have hkl : k < kv.length := by rw [HLN.out]; exact hlt
      obtain ⟨x0, hx0⟩ : ∃ x, x = kv[k]'hkl := ⟨_, rfl⟩
      have HX : Hid (x0 ∈ kv) := by show _ ∈ _; rw [hx0]; exact List.getElem_mem hkl
      have hdrop : kv.drop k = x0 :: kv.drop (k + 1) := by rw [hx0]; exact List.drop_eq_getElem_cons hkl
      have htake : kv.take (k + 1) = kv.take k ++ [x0] := by rw [hx0]; exact List.take_succ_eq_append_getElem hkl
      have hww : wms kv = wms (kv.take k) + (wm1 x0.1 + wms (kv.drop (k + 1))) := by
        have e := wms_append (kv.take k) (kv.drop k)
        rw [List.take_append_drop, hdrop, wms] at e
        exact e
      have hbd : K + wm1 x0.1 ≤ 9999998 := by have := HKE.out; have := HTW.out; omega
      obtain ⟨pre, hpre⟩ : ∃ l, l = mkKs k0 (kv.take k) := ⟨_, rfl⟩
      obtain ⟨post, hpost⟩ : ∃ l, l = kv.drop (k + 1) := ⟨_, rfl⟩
      have HPL : Hid (pre.length = k) := by show _ = _; rw [hpre, mkKs_len, List.length_take, Nat.min_eq_left (Nat.le_of_lt hkl)]
      have HNL0 : Hid (∀ y : KpD × Value × Value × Value, (pre ++ y :: post).length = n) := fun y => by rw [List.length_append, List.length_cons, HPL.out, hpost, List.length_drop, HLN.out]; omega
      have HKE2 : Hid (k0 + wms (kv.take (k + 1)) = K + wm1 x0.1) := by show _ = _; have h := HKE.out; rw [htake, wms_snoc]; omega
      have HEND : Hid (mkKs k0 (kv.take (k + 1)) ++ kv.drop (k + 1) = pre ++ (mkD K x0.1, x0.2) :: post) := by show _ = _; rw [htake, mkKs_snoc, ← HKE.out, hpre, hpost]; simp
      have HK00 : Hid (KeptsO wr base (.slice oa n cap) (pre ++ x0 :: post)) := by
        have h := HK0'.out
        rw [hdrop, ← hpre, ← hpost] at h
        exact h
      obtain ⟨g, rfl⟩ := owns_some (by have h := HK00.out.row; rw [HNL0.out] at h; exact h) (by omega)
      have HGB : Hid (base ≤ g) := owns_ge HK00.out.row rfl
      clear hx0 hdrop htake hww hpre hpost HK0' hkl
      obtain ⟨x1, hx1⟩ : ∃ x, x = x0 := ⟨_, rfl⟩
      obtain ⟨d, v1, v2, v3⟩ := x1
      have HX0 : Hid (x0 = (d, v1, v2, v3)) := hx1.symm
      have HNL : ∀ {y : KpD × Value × Value × Value}, Hid ((pre ++ y :: post).length = n) := fun {y} => HNL0.out y
      have hbd2 : K + 6 + d.xs.length + d.ys.length + 2 * d.fs.length ≤ 9999998 := by have h : K + wm1 d ≤ 9999998 := (by have h := hbd; rw [HX0.out] at h; exact h); unfold wm1 at h; omega
      have HK0 : Hid (KeptsO wr base (.slice (some ⟨g, 0, none⟩) n cap) (pre ++ ((⟨d.p, d.xs, d.ys, d.st, d.fs, d.b, d.t, d.a, d.q⟩ : KpD), v1, v2, v3) :: post)) := by
        have h := HK00.out
        rw [HX0.out] at h
        exact h
      have HINN : Hid (kpN (d, v1, v2, v3) ∈ kpAll (.slice (some ⟨g, 0, none⟩) n cap) kv) := List.mem_cons_of_mem _ (List.mem_flatMap.2 ⟨(d, v1, v2, v3), (by have h := HX.out; rw [HX0.out] at h; exact h), by simp [kpR]⟩)
      have HINV : Hid (kpV (d, v1, v2, v3) ∈ kpAll (.slice (some ⟨g, 0, none⟩) n cap) kv) := List.mem_cons_of_mem _ (List.mem_flatMap.2 ⟨(d, v1, v2, v3), (by have h := HX.out; rw [HX0.out] at h; exact h), by simp [kpR]⟩)
      have HINF : Hid (kpF (d, v1, v2, v3) ∈ kpAll (.slice (some ⟨g, 0, none⟩) n cap) kv) := List.mem_cons_of_mem _ (List.mem_flatMap.2 ⟨(d, v1, v2, v3), (by have h := HX.out; rw [HX0.out] at h; exact h), by simp [kpR]⟩)
      clear hx1 hbd HK00 HX
      obtain ⟨K1, hK1⟩ : ∃ m : Nat, m = K + 1 := ⟨_, rfl⟩
      have HQ1 : Hid (K1 = K + 1) := hK1
      obtain ⟨K2, hK2⟩ : ∃ m : Nat, m = K + 1 + d.xs.length := ⟨_, rfl⟩
      have HQ2 : Hid (K2 = K + 1 + d.xs.length) := hK2
      obtain ⟨K3, hK3⟩ : ∃ m : Nat, m = K + 1 + d.xs.length + d.ys.length := ⟨_, rfl⟩
      have HQ3 : Hid (K3 = K + 1 + d.xs.length + d.ys.length) := hK3
      obtain ⟨K4, hK4⟩ : ∃ m : Nat, m = K + 2 + d.xs.length + d.ys.length := ⟨_, rfl⟩
      have HQ4 : Hid (K4 = K + 2 + d.xs.length + d.ys.length) := hK4
      obtain ⟨K5, hK5⟩ : ∃ m : Nat, m = K + 2 + d.xs.length + d.ys.length + 2 * d.fs.length := ⟨_, rfl⟩
      have HQ5 : Hid (K5 = K + 2 + d.xs.length + d.ys.length + 2 * d.fs.length) := hK5
      obtain ⟨K6, hK6⟩ : ∃ m : Nat, m = K + 3 + d.xs.length + d.ys.length + 2 * d.fs.length := ⟨_, rfl⟩
      have HQ6 : Hid (K6 = K + 3 + d.xs.length + d.ys.length + 2 * d.fs.length) := hK6
      obtain ⟨K7, hK7⟩ : ∃ m : Nat, m = K + 4 + d.xs.length + d.ys.length + 2 * d.fs.length := ⟨_, rfl⟩
      have HQ7 : Hid (K7 = K + 4 + d.xs.length + d.ys.length + 2 * d.fs.length) := hK7
      obtain ⟨K8, hK8⟩ : ∃ m : Nat, m = K + 5 + d.xs.length + d.ys.length + 2 * d.fs.length := ⟨_, rfl⟩
      have HQ8 : Hid (K8 = K + 5 + d.xs.length + d.ys.length + 2 * d.fs.length) := hK8
      obtain ⟨K9, hK9⟩ : ∃ m : Nat, m = K + 6 + d.xs.length + d.ys.length + 2 * d.fs.length := ⟨_, rfl⟩
      have HQ9 : Hid (K9 = K + 6 + d.xs.length + d.ys.length + 2 * d.fs.length) := hK9
      have E1 : Hid ((K : Int) + 1 = (K1 : Int)) := by show _ = _; omega
      have E2 : Hid ((K1 : Int) + (d.xs.length : Int) = (K2 : Int)) := by show _ = _; omega
      have E3 : Hid ((K2 : Int) + (d.ys.length : Int) = (K3 : Int)) := by show _ = _; omega
      have E4 : Hid ((K3 : Int) + 1 = (K4 : Int)) := by show _ = _; omega
      have E5 : Hid ((K4 : Int) + 2 * (d.fs.length : Int) = (K5 : Int)) := by show _ = _; omega
      have E6 : (K5 : Int) + 1 = (K6 : Int) := by omega
      have E7 : (K6 : Int) + 1 = (K7 : Int) := by omega
      have E8 : (K7 : Int) + 1 = (K8 : Int) := by omega
      have E9 : (K8 : Int) + 1 = (K9 : Int) := by omega
      have b1 : 1 ≤ K1 ∧ K1 + d.xs.length ≤ 9999998 := by omega
      have b2 : 1 ≤ K2 ∧ K2 + d.ys.length ≤ 9999998 := by omega
      have b4 : 1 ≤ K4 ∧ K4 + 2 * d.fs.length ≤ 9999999 := by omega
      have b5 : 1 ≤ K5 ∧ K5 ≤ 9999999 := by omega
      have b9 : 1 ≤ K9 := by omega
      have bb3 : K3 ≤ 9999999 := by omega
      have bb5 : K5 ≤ 9999999 := by omega
      have bb6 : K6 ≤ 9999999 := by omega
      have bb7 : K7 ≤ 9999999 := by omega
      have bb8 : K8 ≤ 9999999 := by omega
      clear hK1 hK2 hK3 hK4 hK5 hK6 hK7 hK8 hK9
      go_wp2_with fail
      refine (markText_any K _ (by omega) (by omega)).mono ?_
      rintro e u1 ⟨rfl, bw⟩
      have HKu1 : Hid (KeptsO u1 base (.slice (some ⟨g, 0, none⟩) n cap) (pre ++ ((⟨d.p, d.xs, d.ys, d.st, d.fs, d.b, d.t, d.a, d.q⟩ : KpD), v1, v2, v3) :: post)) := HK0.out.below bw
      have HBu1 : Hid (Below base w u1) := HB0.out.trans (bw.mono (Nat.le_trans hb HB0.out.size))
      have HFu1 : Hid (FarR (kpAll (.slice (some ⟨g, 0, none⟩) n cap) kv) w u1) := fun j hj hne => (bw.block j (Nat.lt_of_lt_of_le hj HB0.out.size)).trans (HF0.out j hj hne)
      clear bw
      obtain ⟨c0, f0⟩ := kept_at HKu1.out HNL.out HPL.out 0 (by decide) _ rfl
      rw [Nat.add_zero] at c0 f0
      have HKs0 : Hid (KeptsO ((u1).setCell ⟨g, k * 9, none⟩ (.string (markOf K))) base (.slice (some ⟨g, 0, none⟩) n cap) (pre ++ ((⟨markOf K, d.xs, d.ys, d.st, d.fs, d.b, d.t, d.a, d.q⟩ : KpD), v1, v2, v3) :: post)) := kept_cell HKu1.out HNL.out HPL.out 0 (by decide) _ rfl rfl
      have HBs0 : Hid (Below base w ((u1).setCell ⟨g, k * 9, none⟩ (.string (markOf K)))) := HBu1.out.setCell (p := ⟨g, k * 9, none⟩) HGB.out _
      have HFs0 : Hid (FarR (kpAll (.slice (some ⟨g, 0, none⟩) n cap) kv) w ((u1).setCell ⟨g, k * 9, none⟩ (.string (markOf K)))) := fun j hj hne => (heap_setCell_other _ _ j _ (fun e => hne (kpRow (.slice (some ⟨g, 0, none⟩) n cap) kv) (by simp [kpAll]) (by rw [e]; rfl))).trans (HFu1.out j hj hne)
      obtain ⟨c1, f1⟩ := kept_at HKs0.out HNL.out HPL.out 1 (by decide) _ rfl
      go_wp2_with fail
      rw [E1.out]
      refine (markTFrom_any v1 d.xs.length base d.xs _ (HKs0.out.names (x := ((⟨markOf K, d.xs, d.ys, d.st, d.fs, d.b, d.t, d.a, d.q⟩ : KpD), v1, v2, v3)) (List.mem_append_right _ List.mem_cons_self)) (Nat.le_trans hb HBs0.out.size) K1 b1.1 b1.2).mono ?_
      rintro e u2 ⟨rfl, mk, bm, far⟩
      have HKu2 : Hid (KeptsO u2 base (.slice (some ⟨g, 0, none⟩) n cap) (pre ++ ((⟨markOf K, mkT K1 d.xs d.xs.length, d.ys, d.st, d.fs, d.b, d.t, d.a, d.q⟩ : KpD), v1, v2, v3) :: post)) := kept_row (r := kpN ((⟨markOf K, d.xs, d.ys, d.st, d.fs, d.b, d.t, d.a, d.q⟩ : KpD), v1, v2, v3)) (r' := kpN ((⟨markOf K, mkT K1 d.xs d.xs.length, d.ys, d.st, d.fs, d.b, d.t, d.a, d.q⟩ : KpD), v1, v2, v3)) (a := []) (b := [kpV ((⟨markOf K, mkT K1 d.xs d.xs.length, d.ys, d.st, d.fs, d.b, d.t, d.a, d.q⟩ : KpD), v1, v2, v3), kpF ((⟨markOf K, mkT K1 d.xs d.xs.length, d.ys, d.st, d.fs, d.b, d.t, d.a, d.q⟩ : KpD), v1, v2, v3)]) HKs0.out rfl (by first | rfl | simp [kpR]) rfl rfl (by first | exact mk | (unfold Rw.own kpN; simp only [mkT_len]; exact mk)) far
      have HBu2 : Hid (Below base w u2) := HBs0.out.trans bm
      have HFu2 : Hid (FarR (kpAll (.slice (some ⟨g, 0, none⟩) n cap) kv) w u2) := fun j hj hne => (far j (Nat.lt_of_lt_of_le hj HBs0.out.size) (hne (kpN (d, v1, v2, v3)) (HINN.out))).trans (HFs0.out j hj hne)
      clear mk bm far c0 f0 c1 f1
      rw [E2.out]
      obtain ⟨c2, f2⟩ := kept_at HKu2.out HNL.out HPL.out 2 (by decide) _ rfl
      go_wp2_with fail
      refine (markTFrom_any v2 d.ys.length base d.ys _ (HKu2.out.vals (x := ((⟨markOf K, mkT K1 d.xs d.xs.length, d.ys, d.st, d.fs, d.b, d.t, d.a, d.q⟩ : KpD), v1, v2, v3)) (List.mem_append_right _ List.mem_cons_self)) (Nat.le_trans hb HBu2.out.size) K2 b2.1 b2.2).mono ?_
      rintro e u3 ⟨rfl, mk, bm, far⟩
      have HKu3 : Hid (KeptsO u3 base (.slice (some ⟨g, 0, none⟩) n cap) (pre ++ ((⟨markOf K, mkT K1 d.xs d.xs.length, mkT K2 d.ys d.ys.length, d.st, d.fs, d.b, d.t, d.a, d.q⟩ : KpD), v1, v2, v3) :: post)) := kept_row (r := kpV ((⟨markOf K, mkT K1 d.xs d.xs.length, d.ys, d.st, d.fs, d.b, d.t, d.a, d.q⟩ : KpD), v1, v2, v3)) (r' := kpV ((⟨markOf K, mkT K1 d.xs d.xs.length, mkT K2 d.ys d.ys.length, d.st, d.fs, d.b, d.t, d.a, d.q⟩ : KpD), v1, v2, v3)) (a := [kpN ((⟨markOf K, mkT K1 d.xs d.xs.length, mkT K2 d.ys d.ys.length, d.st, d.fs, d.b, d.t, d.a, d.q⟩ : KpD), v1, v2, v3)]) (b := [kpF ((⟨markOf K, mkT K1 d.xs d.xs.length, mkT K2 d.ys d.ys.length, d.st, d.fs, d.b, d.t, d.a, d.q⟩ : KpD), v1, v2, v3)]) HKu2.out rfl (by first | rfl | simp [kpR]) rfl rfl (by first | exact mk | (unfold Rw.own kpV; simp only [mkT_len]; exact mk)) far
      have HBu3 : Hid (Below base w u3) := HBu2.out.trans bm
      have HFu3 : Hid (FarR (kpAll (.slice (some ⟨g, 0, none⟩) n cap) kv) w u3) := fun j hj hne => (far j (Nat.lt_of_lt_of_le hj HBu2.out.size) (hne (kpV (d, v1, v2, v3)) (HINV.out))).trans (HFu2.out j hj hne)
      clear mk bm far c2 f2
      rw [E3.out]
      obtain ⟨c3, f3⟩ := kept_at HKu3.out HNL.out HPL.out 3 (by decide) _ rfl
      have HKs3 : Hid (KeptsO ((u3).setCell ⟨g, k * 9 + 3, none⟩ (.int .i64 (K3 : Int))) base (.slice (some ⟨g, 0, none⟩) n cap) (pre ++ ((⟨markOf K, mkT K1 d.xs d.xs.length, mkT K2 d.ys d.ys.length, (K3 : Int), d.fs, d.b, d.t, d.a, d.q⟩ : KpD), v1, v2, v3) :: post)) := kept_cell HKu3.out HNL.out HPL.out 3 (by decide) _ rfl rfl
      have HBs3 : Hid (Below base w ((u3).setCell ⟨g, k * 9 + 3, none⟩ (.int .i64 (K3 : Int)))) := HBu3.out.setCell (p := ⟨g, k * 9 + 3, none⟩) HGB.out _
      have HFs3 : Hid (FarR (kpAll (.slice (some ⟨g, 0, none⟩) n cap) kv) w ((u3).setCell ⟨g, k * 9 + 3, none⟩ (.int .i64 (K3 : Int)))) := fun j hj hne => (heap_setCell_other _ _ j _ (fun e => hne (kpRow (.slice (some ⟨g, 0, none⟩) n cap) kv) (by simp [kpAll]) (by rw [e]; rfl))).trans (HFu3.out j hj hne)
      obtain ⟨c4, f4⟩ := kept_at HKs3.out HNL.out HPL.out 4 (by decide) _ rfl
      go_wp2_with fail
      rw [E4.out]
      refine (markFrom_any v3 d.fs.length base d.fs _ (HKs3.out.flds (x := ((⟨markOf K, mkT K1 d.xs d.xs.length, mkT K2 d.ys d.ys.length, (K3 : Int), d.fs, d.b, d.t, d.a, d.q⟩ : KpD), v1, v2, v3)) (List.mem_append_right _ List.mem_cons_self)) (Nat.le_trans hb HBs3.out.size) K4 b4.1 b4.2).mono ?_
      rintro e u4 ⟨rfl, mk, bm, far⟩
      have HKu4 : Hid (KeptsO u4 base (.slice (some ⟨g, 0, none⟩) n cap) (pre ++ ((⟨markOf K, mkT K1 d.xs d.xs.length, mkT K2 d.ys d.ys.length, (K3 : Int), mkG K4 d.fs d.fs.length, d.b, d.t, d.a, d.q⟩ : KpD), v1, v2, v3) :: post)) := kept_row (r := kpF ((⟨markOf K, mkT K1 d.xs d.xs.length, mkT K2 d.ys d.ys.length, (K3 : Int), d.fs, d.b, d.t, d.a, d.q⟩ : KpD), v1, v2, v3)) (r' := kpF ((⟨markOf K, mkT K1 d.xs d.xs.length, mkT K2 d.ys d.ys.length, (K3 : Int), mkG K4 d.fs d.fs.length, d.b, d.t, d.a, d.q⟩ : KpD), v1, v2, v3)) (a := [kpN ((⟨markOf K, mkT K1 d.xs d.xs.length, mkT K2 d.ys d.ys.length, (K3 : Int), mkG K4 d.fs d.fs.length, d.b, d.t, d.a, d.q⟩ : KpD), v1, v2, v3), kpV ((⟨markOf K, mkT K1 d.xs d.xs.length, mkT K2 d.ys d.ys.length, (K3 : Int), mkG K4 d.fs d.fs.length, d.b, d.t, d.a, d.q⟩ : KpD), v1, v2, v3)]) (b := []) HKs3.out rfl (by first | rfl | simp [kpR]) rfl rfl (by first | exact mk | (unfold Rw.own kpF; simp only [mkG_len]; exact mk)) far
      have HBu4 : Hid (Below base w u4) := HBs3.out.trans bm
      have HFu4 : Hid (FarR (kpAll (.slice (some ⟨g, 0, none⟩) n cap) kv) w u4) := fun j hj hne => (far j (Nat.lt_of_lt_of_le hj HBs3.out.size) (hne (kpF (d, v1, v2, v3)) (HINF.out))).trans (HFs3.out j hj hne)
      clear mk bm far c3 f3 c4 f4
      rw [E5.out]
      go_wp2_with fail
      refine (markText_any K5 _ b5.1 b5.2).mono ?_
      rintro e u5 ⟨rfl, bw⟩
      have HKu5 : Hid (KeptsO u5 base (.slice (some ⟨g, 0, none⟩) n cap) (pre ++ ((⟨markOf K, mkT K1 d.xs d.xs.length, mkT K2 d.ys d.ys.length, (K3 : Int), mkG K4 d.fs d.fs.length, d.b, d.t, d.a, d.q⟩ : KpD), v1, v2, v3) :: post)) := HKu4.out.below bw
      have HBu5 : Hid (Below base w u5) := HBu4.out.trans (bw.mono (Nat.le_trans hb HBu4.out.size))
      have HFu5 : Hid (FarR (kpAll (.slice (some ⟨g, 0, none⟩) n cap) kv) w u5) := fun j hj hne => (bw.block j (Nat.lt_of_lt_of_le hj HBu4.out.size)).trans (HFu4.out j hj hne)
      clear bw
      obtain ⟨c5, f5⟩ := kept_at HKu5.out HNL.out HPL.out 5 (by decide) _ rfl
      have HKs5 : Hid (KeptsO ((u5).setCell ⟨g, k * 9 + 5, none⟩ (.string (markOf K5))) base (.slice (some ⟨g, 0, none⟩) n cap) (pre ++ ((⟨markOf K, mkT K1 d.xs d.xs.length, mkT K2 d.ys d.ys.length, (K3 : Int), mkG K4 d.fs d.fs.length, markOf K5, d.t, d.a, d.q⟩ : KpD), v1, v2, v3) :: post)) := kept_cell HKu5.out HNL.out HPL.out 5 (by decide) _ rfl rfl
      have HBs5 : Hid (Below base w ((u5).setCell ⟨g, k * 9 + 5, none⟩ (.string (markOf K5)))) := HBu5.out.setCell (p := ⟨g, k * 9 + 5, none⟩) HGB.out _
      have HFs5 : Hid (FarR (kpAll (.slice (some ⟨g, 0, none⟩) n cap) kv) w ((u5).setCell ⟨g, k * 9 + 5, none⟩ (.string (markOf K5)))) := fun j hj hne => (heap_setCell_other _ _ j _ (fun e => hne (kpRow (.slice (some ⟨g, 0, none⟩) n cap) kv) (by simp [kpAll]) (by rw [e]; rfl))).trans (HFu5.out j hj hne)
      obtain ⟨c6, f6⟩ := kept_at HKs5.out HNL.out HPL.out 6 (by decide) _ rfl
      have HKs6 : Hid (KeptsO ((((u5).setCell ⟨g, k * 9 + 5, none⟩ (.string (markOf K5)))).setCell ⟨g, k * 9 + 6, none⟩ (.int .i64 (K6 : Int))) base (.slice (some ⟨g, 0, none⟩) n cap) (pre ++ ((⟨markOf K, mkT K1 d.xs d.xs.length, mkT K2 d.ys d.ys.length, (K3 : Int), mkG K4 d.fs d.fs.length, markOf K5, (K6 : Int), d.a, d.q⟩ : KpD), v1, v2, v3) :: post)) := kept_cell HKs5.out HNL.out HPL.out 6 (by decide) _ rfl rfl
      have HBs6 : Hid (Below base w ((((u5).setCell ⟨g, k * 9 + 5, none⟩ (.string (markOf K5)))).setCell ⟨g, k * 9 + 6, none⟩ (.int .i64 (K6 : Int)))) := HBs5.out.setCell (p := ⟨g, k * 9 + 6, none⟩) HGB.out _
      have HFs6 : Hid (FarR (kpAll (.slice (some ⟨g, 0, none⟩) n cap) kv) w ((((u5).setCell ⟨g, k * 9 + 5, none⟩ (.string (markOf K5)))).setCell ⟨g, k * 9 + 6, none⟩ (.int .i64 (K6 : Int)))) := fun j hj hne => (heap_setCell_other _ _ j _ (fun e => hne (kpRow (.slice (some ⟨g, 0, none⟩) n cap) kv) (by simp [kpAll]) (by rw [e]; rfl))).trans (HFs5.out j hj hne)
      obtain ⟨c7, f7⟩ := kept_at HKs6.out HNL.out HPL.out 7 (by decide) _ rfl
      have HKs7 : Hid (KeptsO ((((((u5).setCell ⟨g, k * 9 + 5, none⟩ (.string (markOf K5)))).setCell ⟨g, k * 9 + 6, none⟩ (.int .i64 (K6 : Int)))).setCell ⟨g, k * 9 + 7, none⟩ (.int .i64 (K7 : Int))) base (.slice (some ⟨g, 0, none⟩) n cap) (pre ++ ((⟨markOf K, mkT K1 d.xs d.xs.length, mkT K2 d.ys d.ys.length, (K3 : Int), mkG K4 d.fs d.fs.length, markOf K5, (K6 : Int), (K7 : Int), d.q⟩ : KpD), v1, v2, v3) :: post)) := kept_cell HKs6.out HNL.out HPL.out 7 (by decide) _ rfl rfl
      have HBs7 : Hid (Below base w ((((((u5).setCell ⟨g, k * 9 + 5, none⟩ (.string (markOf K5)))).setCell ⟨g, k * 9 + 6, none⟩ (.int .i64 (K6 : Int)))).setCell ⟨g, k * 9 + 7, none⟩ (.int .i64 (K7 : Int)))) := HBs6.out.setCell (p := ⟨g, k * 9 + 7, none⟩) HGB.out _
      have HFs7 : Hid (FarR (kpAll (.slice (some ⟨g, 0, none⟩) n cap) kv) w ((((((u5).setCell ⟨g, k * 9 + 5, none⟩ (.string (markOf K5)))).setCell ⟨g, k * 9 + 6, none⟩ (.int .i64 (K6 : Int)))).setCell ⟨g, k * 9 + 7, none⟩ (.int .i64 (K7 : Int)))) := fun j hj hne => (heap_setCell_other _ _ j _ (fun e => hne (kpRow (.slice (some ⟨g, 0, none⟩) n cap) kv) (by simp [kpAll]) (by rw [e]; rfl))).trans (HFs6.out j hj hne)
      obtain ⟨c8, f8⟩ := kept_at HKs7.out HNL.out HPL.out 8 (by decide) _ rfl
      have HKs8 : Hid (KeptsO ((((((((u5).setCell ⟨g, k * 9 + 5, none⟩ (.string (markOf K5)))).setCell ⟨g, k * 9 + 6, none⟩ (.int .i64 (K6 : Int)))).setCell ⟨g, k * 9 + 7, none⟩ (.int .i64 (K7 : Int)))).setCell ⟨g, k * 9 + 8, none⟩ (.int .i64 (K8 : Int))) base (.slice (some ⟨g, 0, none⟩) n cap) (pre ++ ((⟨markOf K, mkT K1 d.xs d.xs.length, mkT K2 d.ys d.ys.length, (K3 : Int), mkG K4 d.fs d.fs.length, markOf K5, (K6 : Int), (K7 : Int), (K8 : Int)⟩ : KpD), v1, v2, v3) :: post)) := kept_cell HKs7.out HNL.out HPL.out 8 (by decide) _ rfl rfl
      have HBs8 : Hid (Below base w ((((((((u5).setCell ⟨g, k * 9 + 5, none⟩ (.string (markOf K5)))).setCell ⟨g, k * 9 + 6, none⟩ (.int .i64 (K6 : Int)))).setCell ⟨g, k * 9 + 7, none⟩ (.int .i64 (K7 : Int)))).setCell ⟨g, k * 9 + 8, none⟩ (.int .i64 (K8 : Int)))) := HBs7.out.setCell (p := ⟨g, k * 9 + 8, none⟩) HGB.out _
      have HFs8 : Hid (FarR (kpAll (.slice (some ⟨g, 0, none⟩) n cap) kv) w ((((((((u5).setCell ⟨g, k * 9 + 5, none⟩ (.string (markOf K5)))).setCell ⟨g, k * 9 + 6, none⟩ (.int .i64 (K6 : Int)))).setCell ⟨g, k * 9 + 7, none⟩ (.int .i64 (K7 : Int)))).setCell ⟨g, k * 9 + 8, none⟩ (.int .i64 (K8 : Int)))) := fun j hj hne => (heap_setCell_other _ _ j _ (fun e => hne (kpRow (.slice (some ⟨g, 0, none⟩) n cap) kv) (by simp [kpAll]) (by rw [e]; rfl))).trans (HFs7.out j hj hne)
      have HFIN : Hid ((mkD K x0.1, x0.2) = ((⟨markOf K, mkT K1 d.xs d.xs.length, mkT K2 d.ys d.ys.length, (K3 : Int), mkG K4 d.fs d.fs.length, markOf K5, (K6 : Int), (K7 : Int), (K8 : Int)⟩ : KpD), v1, v2, v3)) := by
        show _ = _
        rw [HX0.out]
        unfold mkD
        rw [HQ1.out, HQ2.out, HQ3.out, HQ4.out, HQ5.out, HQ6.out, HQ7.out, HQ8.out]
      have HKN : Hid (K9 = k0 + wms (kv.take (k + 1))) := by
        have h1 : k0 + wms (kv.take (k + 1)) = K + wm1 d := by have h := HKE2.out; rw [HX0.out] at h; exact h
        have h2 : wm1 d = 6 + d.xs.length + d.ys.length + 2 * d.fs.length := rfl
        have h3 := HQ9.out
        show _ = _
        omega
      go_wp2
      go_roundw
      case rel => exact ⟨k + 1, K9, by omega, by go_num, rfl, b9, HKN, HBs8, by show KeptsO _ _ _ _; rw [HEND.out, HFIN.out]; exact HKs8.out, HFs8⟩
      case measure => simp [intOf]; omega
    · have HE : Hid (k0 + TW = K ∧ KeptsO wr base (.slice oa n cap) (mkKs k0 kv)) := by
        have e1 := HKE.out
        have e2 := HK0'.out
        rw [List.take_of_length_le (by rw [HLN.out]; omega)] at e1 e2
        rw [List.drop_eq_nil_of_le (by rw [HLN.out]; omega), List.append_nil] at e2
        exact ⟨by rw [HTW.out, e1], e2⟩
      go_wp2
      go_ret
      exact ⟨by rw [HE.out.1]; rfl, HE.out.2, HB0.out, HF0.out⟩

end Go.Proofs.Ytanpngnpolhgbaa

namespace Go.Proofs.Ytanpngnpolhgbaa
open Go.RowKit
open Go.Lib hiding intOf

theorem mkKs_get : ∀ (l : List (KpD × Value × Value × Value)) (k0 k : Nat) (h : k < l.length), (mkKs k0 l)[k]? = some (mkD (k0 + wms (l.take k)) (l[k]'h).1, (l[k]'h).2)
  | [], _, k, h => absurd h (by simp)
  | x :: l, k0, 0, _ => by simp [mkKs, wms]
  | x :: l, k0, k + 1, h => by
    rw [mkKs, List.getElem?_cons_succ, mkKs_get l _ k (by simpa using h)]
    simp only [List.take_succ_cons, wms, List.getElem_cons_succ]
    rw [Nat.add_assoc]

set_option maxHeartbeats 8000000 in
set_option maxRecDepth 100000 in
theorem heldKeptS_any (V : Value) (kv : List (KpD × Value × Value × Value)) (base : Nat) (w : World) (k0 : Nat) (h1 : KeptsO w base V (mkKs k0 kv)) (hk0 : 1 ≤ k0) (hn : k0 + wms kv ≤ 9999998) (hm : kv.length ≤ 2000000) :
    Calls Try.prog 39 #[V, .int .i64 (k0 : Int)] w fun e w' => e = .returned (.int .i64 ((k0 + wms kv : Nat) : Int)) ∧ Below w.heap.size w w' := by
  obtain ⟨n, hnn⟩ : ∃ n, n = kv.length := ⟨_, rfl⟩
  obtain ⟨oa, cap, e1⟩ := h1.len
  rw [mkKs_len, ← hnn] at e1
  rw [← hnn] at hm
  subst e1
  have HLN : Hid (kv.length = n) := hnn.symm
  have H1 : Hid (∀ W, Below w.heap.size w W → KeptsO W base (.slice oa n cap) (mkKs k0 kv)) := fun W h => h1.below h
  obtain ⟨TW, hTW⟩ : ∃ m, m = wms kv := ⟨_, rfl⟩
  have HTW : Hid (TW = wms kv) := hTW
  rw [← hTW] at hn ⊢
  clear h1 hnn hTW
  go_enter Try.func39, Try.ntmps39
  go_wp2
  go_loopw [1, 5] (fun q i wr => ∃ (k K : Nat), k ≤ n ∧ i = .int .i64 (k : Int) ∧ q = .int .i64 (K : Int) ∧ 1 ≤ K ∧ Hid (K = k0 + wms (kv.take k)) ∧ Hid (Below w.heap.size w wr)) (fun _ i _ => n - (intOf i).toNat)
  case atStart => exact ⟨0, k0, Nat.zero_le _, rfl, rfl, hk0, by simp [Hid, wms], Below.refl _ _⟩
  case round =>
    obtain ⟨k, K, hk, rfl, rfl, hK1, HKE, HB0⟩ := hrel
    by_cases hlt : k < n
    · have hlt2 : (k : Int) < (n : Int) := by omega
      have hkl : k < kv.length := by rw [HLN.out]; exact hlt
      obtain ⟨x0, hx0⟩ : ∃ x, x = kv[k]'hkl := ⟨_, rfl⟩
      have HGET : Hid ((mkKs k0 kv)[k]? = some (mkD K x0.1, x0.2)) := by show _ = _; rw [mkKs_get kv k0 k hkl, ← HKE.out, ← hx0]
      have hdrop : kv.drop k = x0 :: kv.drop (k + 1) := by rw [hx0]; exact List.drop_eq_getElem_cons hkl
      have htake : kv.take (k + 1) = kv.take k ++ [x0] := by rw [hx0]; exact List.take_succ_eq_append_getElem hkl
      have hww : wms kv = wms (kv.take k) + (wm1 x0.1 + wms (kv.drop (k + 1))) := by
        have e := wms_append (kv.take k) (kv.drop k)
        rw [List.take_append_drop, hdrop, wms] at e
        exact e
      have hbd : K + wm1 x0.1 ≤ 9999998 := by have := HKE.out; have := HTW.out; omega
      have HKE2 : Hid (k0 + wms (kv.take (k + 1)) = K + wm1 x0.1) := by show _ = _; have h := HKE.out; rw [htake, wms_snoc]; omega
      obtain ⟨g, cp0, ev0, _, _⟩ := (H1.out wr HB0.out).at k (by rw [mkKs_len]; exact hkl)
      obtain rfl : oa = some ⟨g, 0, none⟩ := (Value.slice.inj ev0).1
      clear hx0 hdrop htake hww ev0
      obtain ⟨d, v1, v2, v3⟩ := x0
      have hbd2 : K + 6 + d.xs.length + d.ys.length + 2 * d.fs.length ≤ 9999998 := by have h : K + wm1 d ≤ 9999998 := hbd; unfold wm1 at h; omega
      clear hbd
      obtain ⟨K1, hK1⟩ : ∃ m : Nat, m = K + 1 := ⟨_, rfl⟩
      have HQ1 : Hid (K1 = K + 1) := hK1
      obtain ⟨K2, hK2⟩ : ∃ m : Nat, m = K + 1 + d.xs.length := ⟨_, rfl⟩
      have HQ2 : Hid (K2 = K + 1 + d.xs.length) := hK2
      obtain ⟨K3, hK3⟩ : ∃ m : Nat, m = K + 1 + d.xs.length + d.ys.length := ⟨_, rfl⟩
      have HQ3 : Hid (K3 = K + 1 + d.xs.length + d.ys.length) := hK3
      obtain ⟨K4, hK4⟩ : ∃ m : Nat, m = K + 2 + d.xs.length + d.ys.length := ⟨_, rfl⟩
      have HQ4 : Hid (K4 = K + 2 + d.xs.length + d.ys.length) := hK4
      obtain ⟨K5, hK5⟩ : ∃ m : Nat, m = K + 2 + d.xs.length + d.ys.length + 2 * d.fs.length := ⟨_, rfl⟩
      have HQ5 : Hid (K5 = K + 2 + d.xs.length + d.ys.length + 2 * d.fs.length) := hK5
      obtain ⟨K6, hK6⟩ : ∃ m : Nat, m = K + 3 + d.xs.length + d.ys.length + 2 * d.fs.length := ⟨_, rfl⟩
      have HQ6 : Hid (K6 = K + 3 + d.xs.length + d.ys.length + 2 * d.fs.length) := hK6
      obtain ⟨K7, hK7⟩ : ∃ m : Nat, m = K + 4 + d.xs.length + d.ys.length + 2 * d.fs.length := ⟨_, rfl⟩
      have HQ7 : Hid (K7 = K + 4 + d.xs.length + d.ys.length + 2 * d.fs.length) := hK7
      obtain ⟨K8, hK8⟩ : ∃ m : Nat, m = K + 5 + d.xs.length + d.ys.length + 2 * d.fs.length := ⟨_, rfl⟩
      have HQ8 : Hid (K8 = K + 5 + d.xs.length + d.ys.length + 2 * d.fs.length) := hK8
      obtain ⟨K9, hK9⟩ : ∃ m : Nat, m = K + 6 + d.xs.length + d.ys.length + 2 * d.fs.length := ⟨_, rfl⟩
      have HQ9 : Hid (K9 = K + 6 + d.xs.length + d.ys.length + 2 * d.fs.length) := hK9
      have E1 : Hid ((K : Int) + 1 = (K1 : Int)) := by show _ = _; omega
      have E2 : Hid ((K1 : Int) + (d.xs.length : Int) = (K2 : Int)) := by show _ = _; omega
      have E3 : Hid ((K2 : Int) + (d.ys.length : Int) = (K3 : Int)) := by show _ = _; omega
      have E4 : Hid ((K3 : Int) + 1 = (K4 : Int)) := by show _ = _; omega
      have E5 : Hid ((K4 : Int) + 2 * (d.fs.length : Int) = (K5 : Int)) := by show _ = _; omega
      have E6 : (K5 : Int) + 1 = (K6 : Int) := by omega
      have E7 : (K6 : Int) + 1 = (K7 : Int) := by omega
      have E8 : (K7 : Int) + 1 = (K8 : Int) := by omega
      have E9 : (K8 : Int) + 1 = (K9 : Int) := by omega
      have b1 : 1 ≤ K1 ∧ K1 + d.xs.length ≤ 9999998 := by omega
      have b2 : 1 ≤ K2 ∧ K2 + d.ys.length ≤ 9999998 := by omega
      have b4 : 1 ≤ K4 ∧ K4 + 2 * d.fs.length ≤ 9999999 := by omega
      have b5 : 1 ≤ K5 ∧ K5 ≤ 9999999 := by omega
      have b9 : 1 ≤ K9 := by omega
      have bb3 : K3 ≤ 9999999 := by omega
      have bb5 : K5 ≤ 9999999 := by omega
      have bb6 : K6 ≤ 9999999 := by omega
      have bb7 : K7 ≤ 9999999 := by omega
      have bb8 : K8 ≤ 9999999 := by omega
      have hp2 : ¬ ((K2 : Int) < 0) := by omega
      have hp3 : ¬ ((K3 : Int) < 0) := by omega
      have hp5 : ¬ ((K5 : Int) < 0) := by omega
      have HKN : Hid (K9 = k0 + wms (kv.take (k + 1))) := by
        have h1 : k0 + wms (kv.take (k + 1)) = K + wm1 d := HKE2.out
        have h2 : wm1 d = 6 + d.xs.length + d.ys.length + 2 * d.fs.length := rfl
        show _ = _
        omega
      clear hK1 hK2 hK3 hK4 hK5 hK6 hK7 hK8 hK9
      have hK1' : 1 ≤ K := by have h1 := HQ1.out; have h2 := b1.1; have h3 := HKE.out; omega
      have HA : Hid (∀ w0 w1, Below w.heap.size w w0 → Below w0.heap.size w0 w1 → (w1.cell? ⟨g, k * 9, none⟩ = some (.string (markOf K)) ∧ w1.cell? ⟨g, k * 9 + 1, none⟩ = some (v1) ∧ w1.cell? ⟨g, k * 9 + 2, none⟩ = some (v2) ∧ w1.cell? ⟨g, k * 9 + 3, none⟩ = some (.int .i64 (K3 : Int)) ∧ w1.cell? ⟨g, k * 9 + 4, none⟩ = some (v3) ∧ w1.cell? ⟨g, k * 9 + 5, none⟩ = some (.string (markOf K5)) ∧ w1.cell? ⟨g, k * 9 + 6, none⟩ = some (.int .i64 (K6 : Int)) ∧ w1.cell? ⟨g, k * 9 + 7, none⟩ = some (.int .i64 (K7 : Int)) ∧ w1.cell? ⟨g, k * 9 + 8, none⟩ = some (.int .i64 (K8 : Int))) ∧ (w1.ownsRow base 9 1 v1 d.xs.length ((mkT K1 d.xs d.xs.length).map Value.string) ∧ w1.ownsRow base 9 1 v2 d.ys.length ((mkT K2 d.ys d.ys.length).map Value.string) ∧ w1.ownsRow base 93 2 v3 d.fs.length (flatF (mkG K4 d.fs d.fs.length))) ∧ Below w.heap.size w w1) := fun w0 w1 h h' => by
        have hx := h.trans (h'.mono h.size)
        have hkl2 : k < (mkKs k0 kv).length := by rw [mkKs_len]; exact hkl
        obtain ⟨g', cp, ev, _, at1⟩ := (H1.out w1 hx).at k hkl2
        obtain rfl : g = g' := by have e := (Value.slice.inj ev).1; cases e; rfl
        have ex : (mkKs k0 kv)[k]'hkl2 = (mkD K d, v1, v2, v3) := Option.some.inj ((List.getElem?_eq_getElem hkl2).symm.trans HGET.out)
        have hmem : (mkD K d, v1, v2, v3) ∈ mkKs k0 kv := by rw [← ex]; exact List.getElem_mem hkl2
        have o1 := (H1.out w1 hx).names hmem
        have o2 := (H1.out w1 hx).vals hmem
        have o3 := (H1.out w1 hx).flds hmem
        rw [ex] at at1
        unfold mkD at o1 o2 o3
        simp only [mkT_len, mkG_len] at o1 o2 o3
        refine ⟨⟨at1.c0, at1.c1, at1.c2, by rw [HQ3.out]; exact at1.c3, at1.c4, by rw [HQ5.out]; exact at1.c5, by rw [HQ6.out]; exact at1.c6, by rw [HQ7.out]; exact at1.c7, by rw [HQ8.out]; exact at1.c8⟩, ⟨by rw [HQ1.out]; exact o1, by rw [HQ2.out]; exact o2, by rw [HQ4.out]; exact o3⟩, hx⟩
      obtain ⟨⟨e0, e1, e2, e3, e4, e5, e6, e7, e8⟩, _, _⟩ := HA.out wr wr HB0.out (Below.refl _ _)
      clear e0 e1 e2 e3 e4 e5 e6 e7 e8
      obtain ⟨e0, _⟩ : wr.cell? ⟨g, k * 9, none⟩ = some (.string (markOf K)) ∧ True := ⟨(HA.out _ wr HB0.out (Below.refl _ _)).1.1, trivial⟩
      go_wp2
      go_region_held3 (fun w' => w'.cell? ⟨g, k * 9, none⟩ = some (.string (markOf K))) (first | assumption | go_keep) (first | (go_at_call 34; refine (markText_any K _ (by omega) (by omega)).mono ?_; rintro e u1 ⟨rfl, hbu1⟩; obtain ⟨⟨e0, e1, e2, e3, e4, e5, e6, e7, e8⟩, ⟨own1, own2, own3⟩, hbx⟩ := HA.out _ u1 (HB0.out).drew hbu1))
      have HOu1 : Hid (u1.ownsRow base 9 1 v1 d.xs.length ((mkT K1 d.xs d.xs.length).map Value.string) ∧ u1.ownsRow base 9 1 v2 d.ys.length ((mkT K2 d.ys d.ys.length).map Value.string) ∧ u1.ownsRow base 93 2 v3 d.fs.length (flatF (mkG K4 d.fs d.fs.length))) := ⟨own1, own2, own3⟩
      have HBu1 : Hid (Below w.heap.size w u1) := hbx
      clear hbx hbu1 own1 own2 own3
      go_wp2_with fail
      rw [E1.out]
      refine (heldTFrom_any v1 d.xs.length base (mkT K1 d.xs d.xs.length) _ HOu1.out.1 K1 b1.1 b1.2 (fun j hj => mkT_at K1 d.xs j hj d.xs.length hj)).mono ?_
      rintro e u2 ⟨rfl, bw⟩
      clear e0 e1 e2 e3 e4 e5 e6 e7 e8
      obtain ⟨⟨e0, e1, e2, e3, e4, e5, e6, e7, e8⟩, ⟨own1, own2, own3⟩, hbx⟩ := HA.out _ u2 HBu1.out bw
      have HOu2 : Hid (u2.ownsRow base 9 1 v1 d.xs.length ((mkT K1 d.xs d.xs.length).map Value.string) ∧ u2.ownsRow base 9 1 v2 d.ys.length ((mkT K2 d.ys d.ys.length).map Value.string) ∧ u2.ownsRow base 93 2 v3 d.fs.length (flatF (mkG K4 d.fs d.fs.length))) := ⟨own1, own2, own3⟩
      have HBu2 : Hid (Below w.heap.size w u2) := hbx
      clear hbx bw own1 own2 own3
      rw [E2.out]
      go_wp2_with fail
      refine (heldTFrom_any v2 d.ys.length base (mkT K2 d.ys d.ys.length) _ HOu2.out.2.1 K2 b2.1 b2.2 (fun j hj => mkT_at K2 d.ys j hj d.ys.length hj)).mono ?_
      rintro e u3 ⟨rfl, bw⟩
      clear e0 e1 e2 e3 e4 e5 e6 e7 e8
      obtain ⟨⟨e0, e1, e2, e3, e4, e5, e6, e7, e8⟩, ⟨own1, own2, own3⟩, hbx⟩ := HA.out _ u3 HBu2.out bw
      have HOu3 : Hid (u3.ownsRow base 9 1 v1 d.xs.length ((mkT K1 d.xs d.xs.length).map Value.string) ∧ u3.ownsRow base 9 1 v2 d.ys.length ((mkT K2 d.ys d.ys.length).map Value.string) ∧ u3.ownsRow base 93 2 v3 d.fs.length (flatF (mkG K4 d.fs d.fs.length))) := ⟨own1, own2, own3⟩
      have HBu3 : Hid (Below w.heap.size w u3) := hbx
      clear hbx bw own1 own2 own3
      rw [E3.out]
      go_wp2_with fail
      rw [E4.out]
      refine (heldFrom_any v3 d.fs.length base (mkG K4 d.fs d.fs.length) _ HOu3.out.2.2 K4 b4.1 b4.2 (fun j hj => mkG_at K4 d.fs j d.fs.length (Nat.le_refl _) hj)).mono ?_
      rintro e u4 ⟨rfl, bw⟩
      clear e0 e1 e2 e3 e4 e5 e6 e7 e8
      obtain ⟨⟨e0, e1, e2, e3, e4, e5, e6, e7, e8⟩, ⟨own1, own2, own3⟩, hbx⟩ := HA.out _ u4 HBu3.out bw
      have HOu4 : Hid (u4.ownsRow base 9 1 v1 d.xs.length ((mkT K1 d.xs d.xs.length).map Value.string) ∧ u4.ownsRow base 9 1 v2 d.ys.length ((mkT K2 d.ys d.ys.length).map Value.string) ∧ u4.ownsRow base 93 2 v3 d.fs.length (flatF (mkG K4 d.fs d.fs.length))) := ⟨own1, own2, own3⟩
      have HBu4 : Hid (Below w.heap.size w u4) := hbx
      clear hbx bw own1 own2 own3
      rw [E5.out]
      clear e0 e1 e2 e3 e4 e5 e6 e7 e8
      obtain ⟨e5, _⟩ : u4.cell? ⟨g, k * 9 + 5, none⟩ = some (.string (markOf K5)) ∧ True := ⟨(HA.out _ u4 HBu4.out (Below.refl _ _)).1.2.2.2.2.2.1, trivial⟩
      go_wp2
      go_region_held3 (fun w' => w'.cell? ⟨g, k * 9 + 5, none⟩ = some (.string (markOf K5))) (first | assumption | go_keep) (first | (go_at_call 34; refine (markText_any K5 _ b5.1 b5.2).mono ?_; rintro e u5 ⟨rfl, hbu5⟩; obtain ⟨⟨e0, e1, e2, e3, e4, e5, e6, e7, e8⟩, ⟨own1, own2, own3⟩, hbx⟩ := HA.out _ u5 (HBu4.out).drew hbu5))
      have HOu5 : Hid (u5.ownsRow base 9 1 v1 d.xs.length ((mkT K1 d.xs d.xs.length).map Value.string) ∧ u5.ownsRow base 9 1 v2 d.ys.length ((mkT K2 d.ys d.ys.length).map Value.string) ∧ u5.ownsRow base 93 2 v3 d.fs.length (flatF (mkG K4 d.fs d.fs.length))) := ⟨own1, own2, own3⟩
      have HBu5 : Hid (Below w.heap.size w u5) := hbx
      clear hbx hbu5 own1 own2 own3
      go_wp2
      go_roundw
      case rel => exact ⟨k + 1, K9, by omega, by go_num, rfl, b9, HKN, HBu5⟩
      case measure => simp [intOf]; omega
    · have HE : Hid (k0 + TW = K) := by
        have e1 := HKE.out
        rw [List.take_of_length_le (by rw [HLN.out]; omega)] at e1
        show _ = _
        rw [HTW.out, e1]
      go_wp2
      go_ret
      exact ⟨by rw [HE.out]; rfl, HB0.out⟩

end Go.Proofs.Ytanpngnpolhgbaa
