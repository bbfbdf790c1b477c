/- What the proof of FnExactReplyText leans on: contracts of the program's and the specification's functions, and plain facts (part 1 of 2). -/
import Derived.Test.YtopeegjmpphjnaaDoorCards
import Derived.Test.YtopeegjmpphjnaaDoorProg
import Derived.Test.YtopeegjmpphjnaaDoorRows
import Derived.Test.YtopeegjmpphjnaaDoorTie
import Derived.Below
import Derived.BigQuiet
import Derived.ChangeOld
import Derived.Deep.CutRange
import Derived.Deep.DeepCutAuto
import Derived.Deep.DeepHandedRow
import Derived.Deep.DrawnRows
import Derived.Deep.MidRow
import Derived.Deep.QuietTactic
import Derived.Deep.RegionHeld3
import Derived.Deep.RegionLaw
import Derived.Deep.RegionWith
import Derived.Deep.SlicePairs
import Derived.Deep.Slices
import Derived.Laws.AppendOwnNone
import Derived.Laws.BytesArg
import Derived.Laws.EntriesVeiled
import Derived.Laws.MakeOwn
import Derived.Laws.NewBlocks
import Derived.Laws.RangeAny
import Derived.Lib.AppendIntMem
import Derived.Lib.BufferOwn
import Derived.Lib.ConvBytes
import Derived.Lib.Join
import Derived.Lib.LaidTab
import Derived.Lib.SliceRun
import Derived.Lib.Strings
import Derived.Lib.Walk
import Derived.OpenShut
import Derived.ProofKit
import Derived.Shelf.LaysM
import Derived.Shelf.Strconv.Clone
import Derived.Shelf.Strconv.Itoa0
import Derived.Shelf.Strconv.Itoa1
import Derived.Shelf.Strconv.Itoa2
import Derived.Shelf.Strconv.Itoa3
import Derived.Shelf.Strings.Builder1
import Derived.Shelf.Strings.Builder2
import Derived.Shelf.Strings.BuilderF
import Derived.Shelf.Strings.BuilderK
import Derived.Shelf.Strings.OnBuilder
import Derived.ShutString
import Derived.SliceStrings
import Derived.WalkKit
import Derived.WalkLawsBesides
import Derived.WalkSpells
namespace Go.Proofs
open Go.Shelf
def Tryd.lays156_ren : Go.Shelf.Ren := ⟨fun | 156 => 33 | 165 => 41 | 166 => 42 | 169 => 43 | 240 => 47 | 241 => 48 | 276 => 53 | 277 => 54 | n => n, fun | 31 => 27 | 9 => 9 | 3 => 3 | 4 => 4 | 0 => 0 | 20 => 20 | 72 => 82 | 76 => 86 | 70 => 80 | 37 => 65 | 75 => 85 | 127 => 90 | 164 => 97 | 5 => 5 | 80 => 58 | n => n, fun | n => n⟩
theorem Tryd.lays156 : Go.Proofs.Lays.n156 Tryd.prog Tryd.lays156_ren := {
  mixed := by kernel_rfl
  f156 := Tryd.func33.trans (congrArg some (by kernel_rfl))
  f165 := Tryd.func41.trans (congrArg some (by kernel_rfl))
  f166 := Tryd.func42.trans (congrArg some (by kernel_rfl))
  f169 := Tryd.func43.trans (congrArg some (by kernel_rfl))
  f240 := Tryd.func47.trans (congrArg some (by kernel_rfl))
  f241 := Tryd.func48.trans (congrArg some (by kernel_rfl))
  f276 := Tryd.func53.trans (congrArg some (by kernel_rfl))
  f277 := Tryd.func54.trans (congrArg some (by kernel_rfl))
  t0 := Tryd.underlying0
  a0 := Tryd.isAgg0
  z0 := Tryd.sizeOf0
  v0 := Tryd.zeroValue0
  t3 := Tryd.underlying3
  a3 := Tryd.isAgg3
  z3 := Tryd.sizeOf3
  v3 := Tryd.zeroValue3
  t4 := Tryd.underlying4
  a4 := Tryd.isAgg4
  z4 := Tryd.sizeOf4
  v4 := Tryd.zeroValue4
  t9 := Tryd.underlying9
  a9 := Tryd.isAgg9
  z9 := Tryd.sizeOf9
  v9 := Tryd.zeroValue9
  t20 := Tryd.underlying20
  a20 := Tryd.isAgg20
  z20 := Tryd.sizeOf20
  v20 := Tryd.zeroValue20
  t31 := Tryd.underlying27
  a31 := Tryd.isAgg27
  z31 := Tryd.sizeOf27
  v31 := Tryd.zeroValue27
  t37 := Tryd.underlying65
  a37 := Tryd.isAgg65
  z37 := Tryd.sizeOf65
  v37 := Tryd.zeroValue65
  t70 := Tryd.underlying80
  a70 := Tryd.isAgg80
  z70 := Tryd.sizeOf80
  v70 := Tryd.zeroValue80
  t72 := Tryd.underlying82
  a72 := Tryd.isAgg82
  z72 := Tryd.sizeOf82
  v72 := Tryd.zeroValue82
  t75 := Tryd.underlying85
  a75 := Tryd.isAgg85
  z75 := Tryd.sizeOf85
  v75 := Tryd.zeroValue85
  t76 := Tryd.underlying86
  a76 := Tryd.isAgg86
  z76 := Tryd.sizeOf86
  v76 := Tryd.zeroValue86
  t127 := Tryd.underlying90
  a127 := Tryd.isAgg90
  z127 := Tryd.sizeOf90
  v127 := Tryd.zeroValue90
  t164 := Tryd.underlying97
  a164 := Tryd.isAgg97
  z164 := Tryd.sizeOf97
  v164 := Tryd.zeroValue97 }
theorem Tryd.Builder_Extra_156 : Builder.Extra Tryd.prog Tryd.lays156_ren := {
  sizeBuilder := by kernel_rfl
  liesBuilder := by kernel_rfl
  t5 := Tryd.underlying5
  a5 := Tryd.isAgg5
  z5 := Tryd.sizeOf5
  v5 := Tryd.zeroValue5
  infoByte := by kernel_rfl
  cellsByte := by kernel_rfl
  sizeByte := by kernel_rfl
  neB5 := by decide }
open Go.RowKit in
theorem Tryd.strings_Join_none (a : Option Addr) (c : Nat) (sep : ByteArray) (w : World) :
    Calls Tryd.prog 33 #[.slice a 0 c, .string sep] w fun e w' => e = .returned (.string ⟨#[]⟩) ∧ w' = w := Any.strings_Join_none Tryd.lays156 Tryd.Builder_Extra_156 a c sep w
open Go.RowKit in
theorem Tryd.strings_Join (bk o c : Nat) (xs : List ByteArray) (sep : ByteArray) (w : World) (hcells : ∀ (j : Nat) x, xs[j]? = some x → w.cell? ⟨bk, o + j, none⟩ = some (.string x)) (hbk : bk < w.heap.size) (hN : xs.length ≤ 140737488355328) (hcap : xs.length ≤ c) (hlen : (Lib.join (xs.map (·.data.toList)) sep.data.toList).length ≤ 140737488355328) :
    Calls Tryd.prog 33 #[.slice (some ⟨bk, o, none⟩) xs.length c, .string sep] w fun e w' => e = .returned (.string ⟨(Lib.join (xs.map (·.data.toList)) sep.data.toList).toArray⟩) ∧ Below w.heap.size w w' := Any.strings_Join Tryd.lays156 Tryd.Builder_Extra_156 bk o c xs sep w hcells hbk hN hcap hlen
def Tryd.laysM171_ren : Go.Shelf.Ren := ⟨fun | 171 => 31 | 243 => 38 | 246 => 45 | 283 => 49 | 284 => 50 | 285 => 51 | 286 => 52 | 129 => 56 | 317 => 55 | 318 => 57 | 319 => 58 | 320 => 59 | 337 => 60 | 338 => 61 | n => n, fun | 3 => 3 | 9 => 9 | 2 => 2 | 4 => 4 | 171 => 91 | 0 => 0 | 53 => 92 | 37 => 65 | 5 => 5 | 173 => 95 | 212 => 102 | 51 => 103 | 20 => 20 | 213 => 104 | 46 => 106 | 232 => 109 | 233 => 110 | n => n, fun | 17 => 0 | 18 => 2 | 19 => 3 | n => n⟩
theorem Tryd.laysM171 : Go.Proofs.LaysM.n171 Tryd.prog Tryd.laysM171_ren := {
  mixed := by kernel_rfl
  f129 := Tryd.func56.trans (congrArg some (by kernel_rfl))
  f171 := Tryd.func31.trans (congrArg some (by kernel_rfl))
  f243 := Tryd.func38.trans (congrArg some (by kernel_rfl))
  f246 := Tryd.func45.trans (congrArg some (by kernel_rfl))
  f283 := Tryd.func49.trans (congrArg some (by kernel_rfl))
  f284 := Tryd.func50.trans (congrArg some (by kernel_rfl))
  f285 := Tryd.func51.trans (congrArg some (by kernel_rfl))
  f286 := Tryd.func52.trans (congrArg some (by kernel_rfl))
  f317 := Tryd.func55.trans (congrArg some (by kernel_rfl))
  f318 := Tryd.func57.trans (congrArg some (by kernel_rfl))
  f319 := Tryd.func58.trans (congrArg some (by kernel_rfl))
  f320 := Tryd.func59.trans (congrArg some (by kernel_rfl))
  f337 := Tryd.func60.trans (congrArg some (by kernel_rfl))
  f338 := Tryd.func61.trans (congrArg some (by kernel_rfl))
  t0 := Tryd.underlying0
  a0 := Tryd.isAgg0
  z0 := Tryd.sizeOf0
  v0 := Tryd.zeroValue0
  t2 := Tryd.underlying2
  a2 := Tryd.isAgg2
  z2 := Tryd.sizeOf2
  v2 := Tryd.zeroValue2
  t3 := Tryd.underlying3
  a3 := Tryd.isAgg3
  z3 := Tryd.sizeOf3
  v3 := Tryd.zeroValue3
  t4 := Tryd.underlying4
  a4 := Tryd.isAgg4
  z4 := Tryd.sizeOf4
  v4 := Tryd.zeroValue4
  t5 := Tryd.underlying5
  a5 := Tryd.isAgg5
  z5 := Tryd.sizeOf5
  v5 := Tryd.zeroValue5
  t9 := Tryd.underlying9
  a9 := Tryd.isAgg9
  z9 := Tryd.sizeOf9
  v9 := Tryd.zeroValue9
  t20 := Tryd.underlying20
  a20 := Tryd.isAgg20
  z20 := Tryd.sizeOf20
  v20 := Tryd.zeroValue20
  t37 := Tryd.underlying65
  a37 := Tryd.isAgg65
  z37 := Tryd.sizeOf65
  v37 := Tryd.zeroValue65
  t46 := Tryd.underlying106
  a46 := Tryd.isAgg106
  z46 := Tryd.sizeOf106
  v46 := Tryd.zeroValue106
  t51 := Tryd.underlying103
  a51 := Tryd.isAgg103
  z51 := Tryd.sizeOf103
  v51 := Tryd.zeroValue103
  t53 := Tryd.underlying92
  a53 := Tryd.isAgg92
  z53 := Tryd.sizeOf92
  v53 := Tryd.zeroValue92
  t171 := Tryd.underlying91
  a171 := Tryd.isAgg91
  z171 := Tryd.sizeOf91
  v171 := Tryd.zeroValue91
  t173 := Tryd.underlying95
  a173 := Tryd.isAgg95
  z173 := Tryd.sizeOf95
  v173 := Tryd.zeroValue95
  t212 := Tryd.underlying102
  a212 := Tryd.isAgg102
  z212 := Tryd.sizeOf102
  v212 := Tryd.zeroValue102
  t213 := Tryd.underlying104
  a213 := Tryd.isAgg104
  z213 := Tryd.sizeOf104
  t232 := Tryd.underlying109
  a232 := Tryd.isAgg109
  z232 := Tryd.sizeOf109
  v232 := Tryd.zeroValue109
  t233 := Tryd.underlying110
  a233 := Tryd.isAgg110
  z233 := Tryd.sizeOf110
  v233 := Tryd.zeroValue110
  g17 := by kernel_rfl
  g18 := by kernel_rfl
  g19 := by kernel_rfl
  i0 := by kernel_rfl
  i2 := by kernel_rfl
  i3 := by kernel_rfl
  i4 := by kernel_rfl
  i5 := by kernel_rfl
  i9 := by kernel_rfl
  i20 := by kernel_rfl
  i37 := by kernel_rfl
  i46 := by kernel_rfl
  i51 := by kernel_rfl
  i53 := by kernel_rfl
  i171 := by kernel_rfl
  i173 := by kernel_rfl
  i212 := by kernel_rfl
  i232 := by kernel_rfl
  i233 := by kernel_rfl
  m17 := by kernel_rfl
  m18 := by kernel_rfl
  m19 := by kernel_rfl }
open Go.RowKit Go.Sort Go.Lib in
theorem Tryd.strconv_Itoa (n : Int) (h0 : -9223372036854775808 ≤ n) (h1 : n ≤ 9223372036854775807) (w : World) (htab : Lib.TabIs Tryd.prog w "internal/strconv.uint64pow10" .u64 Lib.pow10Tab) :
    Calls Tryd.prog 31 #[.int .i64 n] w fun e w' => e = .returned (.string ⟨(Lib.itoa n).toArray⟩) ∧ ∃ k os, w' = grow (w.drewN k) os := Any.strconv_Itoa Tryd.laysM171 n h0 h1 w htab
def Tryd.laysM316_ren : Go.Shelf.Ren := ⟨fun | 316 => 46 | n => n, fun | 9 => 9 | 3 => 3 | 4 => 4 | 37 => 65 | 0 => 0 | 127 => 90 | 5 => 5 | n => n, fun | n => n⟩
theorem Tryd.laysM316 : Go.Proofs.LaysM.n316 Tryd.prog Tryd.laysM316_ren := {
  mixed := by kernel_rfl
  f316 := Tryd.func46.trans (congrArg some (by kernel_rfl))
  t0 := Tryd.underlying0
  a0 := Tryd.isAgg0
  z0 := Tryd.sizeOf0
  v0 := Tryd.zeroValue0
  t3 := Tryd.underlying3
  a3 := Tryd.isAgg3
  z3 := Tryd.sizeOf3
  v3 := Tryd.zeroValue3
  t4 := Tryd.underlying4
  a4 := Tryd.isAgg4
  z4 := Tryd.sizeOf4
  v4 := Tryd.zeroValue4
  t9 := Tryd.underlying9
  a9 := Tryd.isAgg9
  z9 := Tryd.sizeOf9
  v9 := Tryd.zeroValue9
  t37 := Tryd.underlying65
  a37 := Tryd.isAgg65
  z37 := Tryd.sizeOf65
  v37 := Tryd.zeroValue65
  t127 := Tryd.underlying90
  a127 := Tryd.isAgg90
  z127 := Tryd.sizeOf90
  v127 := Tryd.zeroValue90
  t5 := Tryd.underlying5
  a5 := Tryd.isAgg5
  z5 := Tryd.sizeOf5
  v5 := Tryd.zeroValue5
  i0 := by kernel_rfl
  i3 := by kernel_rfl
  i4 := by kernel_rfl
  i5 := by kernel_rfl
  i9 := by kernel_rfl
  i37 := by kernel_rfl
  i127 := by kernel_rfl }
open Go.RowKit in
theorem Tryd.stringslite_Clone (s : ByteArray) (w : World) (hlim : s.size ≤ 281474976710656) :
    Calls Tryd.prog 46 #[.string s] w fun e w' => e = .returned (.string s) ∧ Below w.heap.size w w' := Any.stringslite_Clone Tryd.laysM316 s w hlim
end Go.Proofs

namespace Go.Proofs.YtopeegjmpphjnaaDoor
open Go.RowKit

set_option maxHeartbeats 400000 in
theorem clone_any (s : ByteArray) (w : World) (hlim : s.size ≤ 281474976710656) :
    Calls Tryd.prog 40 #[.string s] w fun e w' => e = .returned (.string s) ∧ Below w.heap.size w w' := by
  go_enter Tryd.func40, Tryd.ntmps40
  go_wp2_with (go_at_call 46; refine (Tryd.stringslite_Clone _ _ hlim).mono ?_; rintro e w1 ⟨rfl, hb1⟩)
  go_ret
  exact ⟨rfl, hb1⟩

end Go.Proofs.YtopeegjmpphjnaaDoor

namespace Go.Proofs.YtopeegjmpphjnaaDoor
open Go.RowKit
open Go.Lib hiding intOf

/-- A call answers this text, and turns nothing that was there. -/
def TextIs (t : ByteArray) (w : World) (e : Ending) (w' : World) : Prop := e = .returned (.string t) ∧ Below w.heap.size w w'
theorem TextIs.of {t u : ByteArray} {w w' : World} (h : u = t) (hb : Below w.heap.size w w') : TextIs t w (.returned (.string u)) w' := ⟨by rw [h], hb⟩

end Go.Proofs.YtopeegjmpphjnaaDoor

namespace Go.Proofs.YtopeegjmpphjnaaDoor
open Go.RowKit
open Go.Lib hiding intOf

theorem text_beq (a b : ByteArray) : (a.toList == b.toList) = true ↔ a = b := by
  rw [beq_iff_eq, ByteArray.toList_eq, ByteArray.toList_eq]
  exact ⟨fun h => ByteArray.ext (Array.toList_inj.1 h), fun h => by rw [h]⟩

end Go.Proofs.YtopeegjmpphjnaaDoor

namespace Go.Proofs.YtopeegjmpphjnaaDoor

/-- The digits of a number that is not 0; none of 0. -/
def dgF : Nat → Nat → List UInt8
  | 0, _ => []
  | f + 1, n => if n = 0 then [] else dgF f (n / 10) ++ [UInt8.ofNat (48 + n % 10)]
theorem dgF_zero (f : Nat) : dgF f 0 = [] := by cases f <;> simp [dgF]
theorem dgF_pos (f n : Nat) (h : n ≠ 0) : dgF (f + 1) n = dgF f (n / 10) ++ [UInt8.ofNat (48 + n % 10)] := by simp [dgF, h]

/-- The text of a number from 0 to 1000000; the empty text of others. -/
def numL (n : Nat) : List UInt8 := if 1000000 < n then [] else if n = 0 then [48] else dgF 8 n
def numText (n : Nat) : ByteArray := ⟨(numL n).toArray⟩

end Go.Proofs.YtopeegjmpphjnaaDoor

namespace Go.Proofs.YtopeegjmpphjnaaDoor
open Go.RowKit
open Go.Lib hiding intOf

theorem conv_one (W : World) (d : Int) : (convert 65 9 (.slice (some ⟨W.heap.size, 0, none⟩) 1 1)).run Tryd.prog (W.alloc (.cells #[.int .u8 d] 5)) = .ok (.string (strOfNums [d])) (W.alloc (.cells #[.int .u8 d] 5)) :=
  run_convert_bytes_arg (P := Tryd.prog) (W.alloc (.cells #[.int .u8 d] 5)) 65 5 Tryd.underlying65 Tryd.underlying5 W.heap.size 0 1 1 [d] rfl (fun i hi => by
    have : i = 0 := by omega
    subst this
    simp) 9 Tryd.underlying9

set_option maxHeartbeats 1000000 in
theorem specNumText_any (n : Nat) (w : World) (hn : n ≤ 9999999) :
    Calls Tryd.prog 13 #[.int .i64 (n : Int)] w fun e w' => TextIs (numText n) w e w' := by
  by_cases h1 : (n : Int) ≤ 1000000
  · by_cases h0 : n = 0
    · subst h0
      go_enter Tryd.func13, Tryd.ntmps13
      go_wp2
      go_ret
      exact TextIs.of rfl (Below.refl _ _)
    · have hne : ((n : Int) == 0) = false := by rw [beq_eq_false_iff_ne]; omega
      have hcv := conv_one
      go_enter Tryd.func13, Tryd.ntmps13
      go_wp2
      go_loopw [0, 3] (fun a b wr => ∃ (f m : Nat) (out : ByteArray), a = .int .i64 (m : Int) ∧ b = .string out ∧ m ≤ 1000000 ∧ f ≤ 8 ∧ out.size ≤ 8 - f ∧ Below w.heap.size w wr ∧ Hid (m < 10 ^ f ∧ dgF f m ++ out.data.toList = dgF 8 n)) (fun a _ _ => (intOf a).toNat)
      case atStart => exact ⟨8, n, _, rfl, rfl, by omega, Nat.le_refl _, Nat.le_refl _, Below.refl _ _, ⟨by omega, by simp⟩⟩
      case round =>
        obtain ⟨f, m, out, rfl, rfl, hm, hf8, hsz, hbw, hd⟩ := hrel
        by_cases hp : (0 : Int) < (m : Int)
        · have hone : ∀ d : Int, (strOfNums [d]).size = 1 := fun d => strOfNums_size [d]
          go_wp2
          go_roundw
          case rel =>
            obtain ⟨hf, hdg⟩ := hd.out
            cases f with
            | zero => simp at hf; omega
            | succ f =>
              rw [Nat.pow_succ] at hf
              refine ⟨f, m / 10, strOfNums [48 + (m : Int) % 10] ++ out, by simp, rfl, by omega, by omega, ?_, hbw.alloc hbw.size _, by omega, ?_⟩
              · rw [ByteArray.size_append, hone]; omega
              · have e : (strOfNums [48 + (m : Int) % 10]).data.toList = [UInt8.ofNat (48 + m % 10)] := by
                  rw [strOfNums_data]
                  have : (48 + (m : Int) % 10).toNat = 48 + m % 10 := by omega
                  simp only [List.map_cons, List.map_nil, this]
                rw [dgF_pos f m (by omega), List.append_assoc] at hdg
                rw [← hdg, ByteArray.data_append, Array.toList_append, e]
          case measure => simp [intOf]; omega
        · have hT : Hid (out = numText n) := by
            obtain ⟨_, h⟩ := hd.out
            have e : m = 0 := by omega
            rw [e, dgF_zero, List.nil_append] at h
            show out = numText n
            apply ByteArray.ext
            apply Array.toList_inj.1
            rw [h]
            unfold numText numL
            rw [if_neg (by omega), if_neg h0]
          go_wp2
          go_ret
          exact TextIs.of hT.out hbw
  · go_enter Tryd.func13, Tryd.ntmps13
    go_wp2
    go_ret
    exact TextIs.of (by unfold numText numL; rw [if_pos (by omega)]) (Below.refl _ _)

theorem isEmpty_no {s : ByteArray} (h : 1 ≤ s.size) : s.toList.isEmpty = false := by
  have : s.toList.length = s.size := by rw [ByteArray.toList_eq]; simp
  cases hc : s.toList with
  | nil => rw [hc] at this; simp at this; omega
  | cons _ _ => rfl
theorem isEmpty_yes {s : ByteArray} (h : s.size = 0) : s.toList.isEmpty = true := by
  have : s.toList.length = s.size := by rw [ByteArray.toList_eq]; simp
  rw [h] at this
  rw [List.length_eq_zero_iff.1 this]; rfl

end Go.Proofs.YtopeegjmpphjnaaDoor

namespace Go.Proofs.YtopeegjmpphjnaaDoor
open Go.RowKit
open Go.Lib hiding intOf

/-- What is owned lies from the base on. -/
theorem owns_ge {w : World} {base : Nat} {e : TypeId} {size : Nat} {v : Value} {n g : Nat} {xs : List Value} (h : w.ownsRow base e size v n xs) (hg : v.ownBlock = some g) : base ≤ g := by
  rcases h.2 with ⟨rfl, _⟩ | ⟨g', cap, cur, rfl, hb, _⟩
  · simp [Value.ownBlock] at hg
  · simp [Value.ownBlock] at hg; omega
end Go.Proofs.YtopeegjmpphjnaaDoor

namespace Go.Proofs.YtopeegjmpphjnaaDoor
open Go.RowKit
open Go.Lib hiding intOf

/-- What is owned stays so in every later world that keeps what was there. -/
theorem owns_below {w w' : World} {base B : Nat} {e : TypeId} {size : Nat} {v : Value} {n : Nat} {xs : List Value} (h : w.ownsRow base e size v n xs) (hb : Below B w w') (hB : ∀ g, v.ownBlock = some g → g < B) : w'.ownsRow base e size v n xs := by
  refine ⟨h.1, ?_⟩
  rcases h.2 with h2 | ⟨g, cap, cur, rfl, h3, h4, h5⟩
  · exact .inl h2
  · exact .inr ⟨g, cap, cur, rfl, h3, by rw [hb.block g (hB g rfl)]; exact h4, h5⟩
theorem owns_lt {w : World} {base : Nat} {e : TypeId} {size : Nat} {v : Value} {n g : Nat} {xs : List Value} (h : w.ownsRow base e size v n xs) (hg : v.ownBlock = some g) : g < w.heap.size := by
  rcases h.2 with ⟨rfl, _⟩ | ⟨g', cap, cur, rfl, hb, hh, _⟩
  · simp [Value.ownBlock] at hg
  · simp [Value.ownBlock] at hg
    subst hg
    exact (Array.getElem?_eq_some_iff.1 hh).1
theorem one_text (t : ByteArray) : ∀ u ∈ [Value.string t], u.oneCell' = true := by intro u hu; simp at hu; subst hu; rfl
theorem info9 : (Tryd.prog.info? 9).map (fun i => (i.zero, i.size, i.bytes)) = some (some (.string ⟨#[]⟩), 1, 16) := by kernel_rfl

end Go.Proofs.YtopeegjmpphjnaaDoor

namespace Go.Proofs.YtopeegjmpphjnaaDoor
open Go.RowKit
open Go.Lib hiding intOf

/-- The text i of a list. -/
def textAt (xs : List ByteArray) (i : Nat) : ByteArray := xs.getD i ⟨#[]⟩

/-- What an owned list of texts is, cell by cell. -/
structure TextRow (base : Nat) (w : World) (g n cap : Nat) (xs : List ByteArray) : Prop where
  len : xs.length = n
  base : base ≤ g
  lt : g < w.heap.size
  le : n ≤ cap
  mx : cap ≤ maxLen
  heap : ∃ cur, w.heap[g]? = some (.cells cur 9 (0, 0)) ∧ cur.size = cap ∧ ∀ i, i < n → cur[i]? = some (.string (textAt xs i))
theorem TextRow.cell {base : Nat} {w : World} {g n cap : Nat} {xs : List ByteArray} (h : TextRow base w g n cap xs) (i : Nat) (hi : i < n) : w.cell? ⟨g, i, none⟩ = some (.string (textAt xs i)) := by
  obtain ⟨cur, hg, _, hc⟩ := h.heap
  simp only [World.cell?, hg]
  simpa using hc i hi
theorem TextRow.below {base B : Nat} {w w' : World} {g n cap : Nat} {xs : List ByteArray} (h : TextRow base w g n cap xs) (hb : Below B w w') (hB : g < B) : TextRow base w' g n cap xs := by
  obtain ⟨cur, hg, hc⟩ := h.heap
  have := hb.size; have := h.lt
  exact ⟨h.len, h.base, by omega, h.le, h.mx, cur, by rw [hb.block g hB]; exact hg, hc⟩
theorem textAt_map (xs : List ByteArray) (i : Nat) (h : i < xs.length) : (xs.map Value.string)[i]? = some (.string (textAt xs i)) := by
  simp [textAt, List.getD_eq_getElem?_getD, h]
/-- An owned list is empty, or such a row. -/
theorem row_form {w : World} {base n : Nat} {v : Value} {xs : List ByteArray} (h : w.ownsRow base 9 1 v n (xs.map Value.string)) :
    (∃ oa cap, v = .slice oa 0 cap ∧ n = 0 ∧ xs = []) ∨ ∃ g cap, v = .slice (some ⟨g, 0, none⟩) n cap ∧ 0 < n ∧ TextRow base w g n cap xs := by
  obtain ⟨hl, hv⟩ := h
  simp at hl
  rcases hv with ⟨rfl, h0⟩ | ⟨g, cap, cur, rfl, hb, hg, hn, hm, hcs, htk⟩
  · exact .inl ⟨none, 0, rfl, h0, List.length_eq_zero_iff.1 (by omega)⟩
  · by_cases h0 : n = 0
    · subst h0
      exact .inl ⟨_, _, rfl, rfl, List.length_eq_zero_iff.1 (by omega)⟩
    · refine .inr ⟨g, cap, rfl, by omega, hl, hb, (Array.getElem?_eq_some_iff.1 hg).1, hn, hm, cur, hg, by simpa using hcs, ?_⟩
      intro i hi
      have h1 : (cur.toList.take (n * 1))[i]? = some (.string (textAt xs i)) := by rw [htk]; exact textAt_map xs i (by omega)
      rw [List.getElem?_take, if_pos (by omega)] at h1
      simpa using h1
theorem TextRow.owns {base : Nat} {w : World} {g n cap : Nat} {xs : List ByteArray} (h : TextRow base w g n cap xs) : w.ownsRow base 9 1 (.slice (some ⟨g, 0, none⟩) n cap) n (xs.map Value.string) := by
  obtain ⟨cur, hg, hs, hc⟩ := h.heap
  refine ⟨by simp [h.len], .inr ⟨g, cap, cur, rfl, h.base, hg, h.le, h.mx, by simpa using hs, ?_⟩⟩
  apply List.ext_getElem?
  intro i
  have hl := h.len; have hle := h.le
  rw [List.getElem?_take, Nat.mul_one]
  by_cases hi : i < n
  · rw [if_pos hi, textAt_map xs i (by omega)]
    simpa using hc i hi
  · rw [if_neg hi, List.getElem?_eq_none (by simp; omega)]

set_option maxHeartbeats 1000000 in
theorem eqS_any (v1 v2 : Value) (n b1 b2 : Nat) (xs : List ByteArray) (w : World) (h1 : w.ownsRow b1 9 1 v1 n (xs.map Value.string)) (h2 : w.ownsRow b2 9 1 v2 n (xs.map Value.string)) (hn : n ≤ 2000000) :
    Calls Tryd.prog 35 #[v1, v2] w fun e w' => e = .returned (.bool true) ∧ Below w.heap.size w w' := by
  rcases row_form h1 with ⟨oa, ca, rfl, rfl, rfl⟩ | ⟨g1, c1, rfl, hp, r1⟩
  · rcases row_form h2 with ⟨ob, cb, rfl, _, _⟩ | ⟨g2, c2, rfl, hp2, _⟩
    · clear h1 h2
      go_enter Tryd.func35, Tryd.ntmps35
      go_wp2
      refine wp_loop_rounds 1 ?_
      rw [rounds_succ]
      go_wp2
      go_ret
      exact ⟨rfl, Below.refl _ _⟩
    · omega
  · rcases row_form h2 with ⟨ob, cb, rfl, h0, _⟩ | ⟨g2, c2, rfl, hp2, r2⟩
    · omega
    · clear h1 h2
      go_enter Tryd.func35, Tryd.ntmps35
      go_wp2
      go_loopw [5] (fun i wr => ∃ k : Nat, k ≤ n ∧ i = .int .i64 (k : Int) ∧ Below w.heap.size w wr) (fun i _ => n - (intOf i).toNat)
      case atStart => exact ⟨0, Nat.zero_le _, rfl, Below.refl _ _⟩
      case round =>
        obtain ⟨k, hk, rfl, hbw⟩ := hrel
        by_cases hlt : k < n
        · have hlt2 : (k : Int) < (n : Int) := by omega
          have hc1 := (r1.below hbw r1.lt).cell k hlt
          have hc2 := (r2.below hbw r2.lt).cell k hlt
          go_wp2
          go_quiet (fail)
          go_wp2
          go_roundw
          case rel => exact ⟨k + 1, by omega, by go_num, below_drewN hbw _⟩
          case measure => simp [intOf]; omega
        · go_wp2
          go_ret
          exact ⟨rfl, hbw⟩

end Go.Proofs.YtopeegjmpphjnaaDoor

namespace Go.Proofs.YtopeegjmpphjnaaDoor
open Go.RowKit
open Go.Lib hiding intOf

/-- The text of whatever int: that of a number from 0 to 1000000, else the empty one. -/
def numTextI (n : Int) : ByteArray := if n < 0 then ⟨#[]⟩ else numText n.toNat

theorem decDigits_zero : Lib.decDigits 0 = [48] := by rw [Lib.decDigits, dif_pos (by omega)]; rfl
theorem dg_dec : ∀ (f n : Nat), n < 10 ^ f → n ≠ 0 → dgF f n = Lib.decDigits n := by
  intro f
  induction f with
  | zero => intro n h h0; simp at h; omega
  | succ f ih =>
    intro n h h0
    rw [dgF_pos f n h0]
    rw [Nat.pow_succ] at h
    by_cases hs : n < 10
    · rw [Lib.decDigits, dif_pos hs]
      have e1 : n / 10 = 0 := by omega
      have e2 : n % 10 = n := by omega
      rw [e1, dgF_zero, e2]; rfl
    · rw [Lib.decDigits, dif_neg hs, ih (n / 10) (by omega) (by omega)]
theorem itoa_num (n : Int) (h0 : 0 ≤ n) (h1 : n ≤ 1000000) : (⟨(Lib.itoa n).toArray⟩ : ByteArray) = numTextI n := by
  unfold numTextI
  rw [if_neg (by omega)]
  unfold numText numL Lib.itoa
  rw [if_neg (by omega), if_neg (by omega)]
  by_cases h : n.toNat = 0
  · rw [if_pos h, h, decDigits_zero]
  · rw [if_neg h, dg_dec 8 n.toNat (by omega) h]

/-- The table that strconv.Itoa reads holds what the program's text lays. -/
def TabOk (w : World) : Prop := Lib.TabIs Tryd.prog w "internal/strconv.uint64pow10" .u64 Lib.pow10Tab
theorem gTab : Tryd.prog.globalNamed "internal/strconv.uint64pow10" = some 0 := by kernel_rfl
theorem TabOk.lt {w : World} (h : TabOk w) : 0 < w.heap.size := by
  unfold TabOk Lib.TabIs World.var? at h
  rw [gTab] at h
  rcases Nat.lt_or_ge 0 w.heap.size with hl | hl
  · exact hl
  · simp [Array.getElem?_eq_none hl] at h
theorem TabOk.below {w w' : World} (h : TabOk w) (hb : Below w.heap.size w w') : TabOk w' := var?_below hb gTab h.lt h

set_option maxHeartbeats 1000000 in
theorem implNumText_any (n : Int) (w : World) (h0 : -9223372036854775808 ≤ n) (h1 : n ≤ 9223372036854775807) (htab : TabOk w) :
    Calls Tryd.prog 19 #[.int .i64 n] w fun e w' => TextIs (numTextI n) w e w' := by
  by_cases hn : n < 0
  · have hT : Hid (⟨#[]⟩ = numTextI n) := by show _ = _; unfold numTextI; rw [if_pos hn]
    go_enter Tryd.func19, Tryd.ntmps19
    go_wp2_with fail
    go_ret
    exact TextIs.of hT.out (Below.refl _ _)
  · by_cases hb : 1000000 < n
    · have hT : Hid (⟨#[]⟩ = numTextI n) := by
        show _ = _
        unfold numTextI numText numL; rw [if_neg hn, if_pos (by omega)]
      go_enter Tryd.func19, Tryd.ntmps19
      go_wp2_with fail
      go_ret
      exact TextIs.of hT.out (Below.refl _ _)
    · have hT : Hid _ := itoa_num n (by omega) (by omega)
      have HT : Hid (TabOk w) := htab
      clear htab
      go_enter Tryd.func19, Tryd.ntmps19
      go_wp2_with fail
      refine (Tryd.strconv_Itoa n h0 h1 w HT.out).mono ?_
      rintro e w1 ⟨rfl, k, os, rfl⟩
      rw [hT.out]
      have hb1 := Lib.below_grow w.heap.size w (Nat.le_refl _) k os
      obtain ⟨w1, hw1⟩ : ∃ w1, w1 = Sort.grow (w.drewN k) os := ⟨_, rfl⟩
      rw [← hw1] at hb1 ⊢
      clear hw1
      go_wp2_with fail
      go_ret
      exact TextIs.of rfl hb1

set_option maxHeartbeats 1000000 in
theorem specNumText_int (n : Int) (w : World) (h0 : -9223372036854775808 ≤ n) (h1 : n ≤ 9223372036854775807) :
    Calls Tryd.prog 13 #[.int .i64 n] w fun e w' => TextIs (numTextI n) w e w' := by
  by_cases hn : n < 0
  · have hT : Hid (⟨#[]⟩ = numTextI n) := by show _ = _; unfold numTextI; rw [if_pos hn]
    have hn2 : ¬ 0 ≤ n := by omega
    go_enter Tryd.func13, Tryd.ntmps13
    go_wp2
    go_ret
    exact TextIs.of hT.out (Below.refl _ _)
  · by_cases hb : 1000000 < n
    · have hT : Hid (⟨#[]⟩ = numTextI n) := by
        show _ = _
        unfold numTextI numText numL; rw [if_neg hn, if_pos (by omega)]
      have hp : 0 ≤ n := by omega
      have hb2 : ¬ n ≤ 1000000 := by omega
      have hd : decide (n ≤ 1000000) = false := by simp; omega
      go_enter Tryd.func13, Tryd.ntmps13
      go_wp2
      go_ret
      exact TextIs.of hT.out (Below.refl _ _)
    · obtain ⟨m, rfl⟩ := Int.eq_ofNat_of_zero_le (Int.not_lt.1 hn)
      have hT : numTextI (m : Int) = numText m := by unfold numTextI; rw [if_neg hn]; simp
      rw [hT]
      exact specNumText_any m w (by omega)

end Go.Proofs.YtopeegjmpphjnaaDoor

namespace Go.Proofs.YtopeegjmpphjnaaDoor
open Go.RowKit
open Go.Lib hiding intOf

/-- A kind of answer in letters. -/
def kindT (k : Int) : ByteArray := if k = 1 then ⟨#[104, 101, 114, 101]⟩ else if k = 2 then ⟨#[116, 104, 101, 114, 101]⟩ else if k = 3 then ⟨#[115, 97, 109, 101]⟩ else if k = 4 then ⟨#[110, 111, 116]⟩ else ⟨#[]⟩
theorem kindT_size (k : Int) : (kindT k).size ≤ 5 := by
  unfold kindT
  repeat' split
  all_goals decide
theorem kindT_in {k : Int} (h : 1 ≤ k ∧ k ≤ 4) : kindT k ≠ ⟨#[]⟩ := by
  have h2 : k = 1 ∨ k = 2 ∨ k = 3 ∨ k = 4 := by omega
  rcases h2 with rfl | rfl | rfl | rfl <;> decide
theorem kindT_out {k : Int} (h : ¬ (1 ≤ k ∧ k ≤ 4)) : kindT k = ⟨#[]⟩ := by
  unfold kindT
  rw [if_neg (by omega), if_neg (by omega), if_neg (by omega), if_neg (by omega)]

end Go.Proofs.YtopeegjmpphjnaaDoor

namespace Go.Proofs.YtopeegjmpphjnaaDoor
open Go.RowKit
open Go.Lib hiding intOf

def nameAt (fs : List (ByteArray × ByteArray)) (i : Nat) : ByteArray := (fs.getD i (⟨#[]⟩, ⟨#[]⟩)).1
def valAt (fs : List (ByteArray × ByteArray)) (i : Nat) : ByteArray := (fs.getD i (⟨#[]⟩, ⟨#[]⟩)).2
/-- A list of fields as a row of cells: two a field. -/
def flatF (fs : List (ByteArray × ByteArray)) : List Value := fs.flatMap (fun f => [Value.string f.1, Value.string f.2])
theorem flatF_len (fs : List (ByteArray × ByteArray)) : (flatF fs).length = fs.length * 2 := by
  induction fs with
  | nil => rfl
  | cons f r ih => simp only [flatF, List.flatMap_cons, List.length_append, List.length_cons, List.length_nil] at ih ⊢; omega
theorem flatF_get : ∀ (fs : List (ByteArray × ByteArray)) (i : Nat), i < fs.length → (flatF fs)[i * 2]? = some (.string (nameAt fs i)) ∧ (flatF fs)[i * 2 + 1]? = some (.string (valAt fs i))
  | [], i, h => by simp at h
  | f :: r, 0, _ => by simp [flatF, nameAt, valAt]
  | f :: r, i + 1, h => by
    have ih := flatF_get r i (by simpa using h)
    have e : flatF (f :: r) = Value.string f.1 :: Value.string f.2 :: flatF r := rfl
    rw [e, show (i + 1) * 2 = i * 2 + 2 by omega, show i * 2 + 2 + 1 = (i * 2 + 1) + 2 by omega]
    simp only [List.getElem?_cons_succ]
    exact ih

/-- What an owned list of fields is, cell by cell. -/
structure FieldRow (base : Nat) (w : World) (g n cap : Nat) (fs : List (ByteArray × ByteArray)) : Prop where
  len : fs.length = n
  base : base ≤ g
  lt : g < w.heap.size
  le : n ≤ cap
  mx : cap ≤ maxLen
  heap : ∃ cur, w.heap[g]? = some (.cells cur 68 (0, 0)) ∧ cur.size = cap * 2 ∧ ∀ i, i < n → cur[i * 2]? = some (.string (nameAt fs i)) ∧ cur[i * 2 + 1]? = some (.string (valAt fs i))
theorem FieldRow.name {base : Nat} {w : World} {g n cap : Nat} {fs : List (ByteArray × ByteArray)} (h : FieldRow base w g n cap fs) (i : Nat) (hi : i < n) : w.cell? ⟨g, i * 2, none⟩ = some (.string (nameAt fs i)) := by
  obtain ⟨cur, hg, _, hc⟩ := h.heap
  simp only [World.cell?, hg]
  simpa using (hc i hi).1
theorem FieldRow.val {base : Nat} {w : World} {g n cap : Nat} {fs : List (ByteArray × ByteArray)} (h : FieldRow base w g n cap fs) (i : Nat) (hi : i < n) : w.cell? ⟨g, i * 2 + 1, none⟩ = some (.string (valAt fs i)) := by
  obtain ⟨cur, hg, _, hc⟩ := h.heap
  simp only [World.cell?, hg]
  simpa using (hc i hi).2
theorem FieldRow.below {base B : Nat} {w w' : World} {g n cap : Nat} {fs : List (ByteArray × ByteArray)} (h : FieldRow base w g n cap fs) (hb : Below B w w') (hB : g < B) : FieldRow base w' g n cap fs := by
  obtain ⟨cur, hg, hc⟩ := h.heap
  have := hb.size; have := h.lt
  exact ⟨h.len, h.base, by omega, h.le, h.mx, cur, by rw [hb.block g hB]; exact hg, hc⟩
/-- An owned list of fields is empty, or such a row. -/
theorem frow_form {w : World} {base n : Nat} {v : Value} {fs : List (ByteArray × ByteArray)} (h : w.ownsRow base 68 2 v n (flatF fs)) :
    (∃ oa cap, v = .slice oa 0 cap ∧ (oa = none → cap = 0) ∧ n = 0 ∧ fs = []) ∨ ∃ g cap, v = .slice (some ⟨g, 0, none⟩) n cap ∧ 0 < n ∧ FieldRow base w g n cap fs := by
  obtain ⟨hl, hv⟩ := h
  rw [flatF_len] at hl
  rcases hv with ⟨rfl, h0⟩ | ⟨g, cap, cur, rfl, hb, hg, hn, hm, hcs, htk⟩
  · exact .inl ⟨none, 0, rfl, fun _ => rfl, h0, List.length_eq_zero_iff.1 (by omega)⟩
  · by_cases h0 : n = 0
    · subst h0
      exact .inl ⟨_, _, rfl, (fun h => by cases h), rfl, List.length_eq_zero_iff.1 (by omega)⟩
    · refine .inr ⟨g, cap, rfl, by omega, by omega, hb, (Array.getElem?_eq_some_iff.1 hg).1, hn, hm, cur, hg, hcs, ?_⟩
      intro i hi
      have hf := flatF_get fs i (by omega)
      rw [← htk, List.getElem?_take, List.getElem?_take, if_pos (by omega), if_pos (by omega)] at hf
      simpa using hf
theorem FieldRow.owns {base : Nat} {w : World} {g n cap : Nat} {fs : List (ByteArray × ByteArray)} (h : FieldRow base w g n cap fs) : w.ownsRow base 68 2 (.slice (some ⟨g, 0, none⟩) n cap) n (flatF fs) := by
  obtain ⟨cur, hg, hs, hc⟩ := h.heap
  have hl := h.len; have hle := h.le
  refine ⟨by rw [flatF_len, hl], .inr ⟨g, cap, cur, rfl, h.base, hg, h.le, h.mx, hs, ?_⟩⟩
  apply List.ext_getElem?
  intro j
  rw [List.getElem?_take]
  by_cases hj : j < n * 2
  · rw [if_pos hj]
    have hf := flatF_get fs (j / 2) (by omega)
    have hcc := hc (j / 2) (by omega)
    rcases Nat.mod_two_eq_zero_or_one j with e | e
    · have e2 : j / 2 * 2 = j := by omega
      rw [e2] at hf hcc
      rw [hf.1]; simpa using hcc.1
    · have e2 : j / 2 * 2 + 1 = j := by omega
      rw [e2] at hf hcc
      rw [hf.2]; simpa using hcc.2
  · rw [if_neg hj, List.getElem?_eq_none (by rw [flatF_len]; omega)]

/-- A list of fields that a function reads: empty, or a row. -/
def FieldsV (w : World) (base : Nat) (v : Value) (n : Nat) (fs : List (ByteArray × ByteArray)) : Prop :=
  (∃ oa cap, v = .slice oa 0 cap ∧ (oa = none → cap = 0) ∧ n = 0 ∧ fs = []) ∨ ∃ g cap, v = .slice (some ⟨g, 0, none⟩) n cap ∧ 0 < n ∧ FieldRow base w g n cap fs

/-- Where the first field of that name stands; the length where there is none. -/
def atF : List (ByteArray × ByteArray) → ByteArray → Nat
  | [], _ => 0
  | f :: r, name => if f.1 = name then 0 else atF r name + 1
theorem atF_le : ∀ (fs : List (ByteArray × ByteArray)) (name : ByteArray), atF fs name ≤ fs.length
  | [], _ => Nat.le_refl _
  | f :: r, name => by
    rw [atF]
    split
    · exact Nat.zero_le _
    · have := atF_le r name; simp; omega
theorem atF_before : ∀ (fs : List (ByteArray × ByteArray)) (name : ByteArray) (j : Nat), j < atF fs name → nameAt fs j ≠ name
  | [], _, j, h => by simp [atF] at h
  | f :: r, name, j, h => by
    rw [atF] at h
    split at h
    · omega
    · rename_i hne
      cases j with
      | zero => simpa [nameAt] using hne
      | succ j => have := atF_before r name j (by omega); simpa [nameAt] using this
theorem atF_here : ∀ (fs : List (ByteArray × ByteArray)) (name : ByteArray), atF fs name < fs.length → nameAt fs (atF fs name) = name
  | [], _, h => by simp [atF] at h
  | f :: r, name, h => by
    rw [atF] at h ⊢
    split
    · rename_i he; simpa [nameAt] using he
    · rename_i hne
      rw [if_neg hne] at h
      have := atF_here r name (by simpa using h)
      simpa [nameAt] using this
theorem atF_uniq {fs : List (ByteArray × ByteArray)} {name : ByteArray} {k : Nat} (hk : k < fs.length) (hb : ∀ j, j < k → nameAt fs j ≠ name) (he : nameAt fs k = name) : atF fs name = k := by
  rcases Nat.lt_trichotomy (atF fs name) k with h | h | h
  · exact absurd (atF_here fs name (by omega)) (hb _ h)
  · exact h
  · exact absurd he (atF_before fs name k h)
theorem atF_none {fs : List (ByteArray × ByteArray)} {name : ByteArray} (hb : ∀ j, j < fs.length → nameAt fs j ≠ name) : atF fs name = fs.length := by
  rcases Nat.lt_or_ge (atF fs name) fs.length with h | h
  · exact absurd (atF_here fs name h) (hb _ h)
  · have := atF_le fs name; omega
/-- The place as an int: -1 where there is none. -/
def atI (fs : List (ByteArray × ByteArray)) (name : ByteArray) : Int := if atF fs name < fs.length then (atF fs name : Int) else -1

set_option maxHeartbeats 1000000 in
theorem l2At_any (v : Value) (n base : Nat) (fs : List (ByteArray × ByteArray)) (name : ByteArray) (w : World) (hv : FieldsV w base v n fs) (hn : n ≤ 1073741824) :
    Calls Tryd.prog 28 #[v, .string name] w fun e w' => e = .returned (.int .i64 (atI fs name)) ∧ w' = w := by
  rcases hv with ⟨oa, ca, rfl, _, rfl, rfl⟩ | ⟨g, cap, rfl, hp, row⟩
  · have hT : Hid (atI [] name = -1) := rfl
    go_enter Tryd.func28, Tryd.ntmps28
    go_wp2
    refine wp_loop_rounds 1 ?_
    rw [rounds_succ]
    go_wp2
    go_ret
    exact ⟨by rw [hT.out]; rfl, rfl⟩
  · have hl := row.len
    go_enter Tryd.func28, Tryd.ntmps28
    go_wp2
    go_loop [5] (fun i => ∃ k : Nat, k ≤ n ∧ i = .int .i64 (k : Int) ∧ Hid (∀ j, j < k → nameAt fs j ≠ name)) (fun i => n - (intOf i).toNat)
    case atStart => exact ⟨0, Nat.zero_le _, rfl, fun j h => absurd h (by omega)⟩
    case round =>
      obtain ⟨k, hk, rfl, hb⟩ := hrel
      by_cases hlt : k < n
      · have hc := row.name k hlt
        have hlt2 : (k : Int) < (n : Int) := by omega
        by_cases he : nameAt fs k = name
        · have hT : Hid (atI fs name = (k : Int)) := by
            have := atF_uniq (by omega) hb.out he
            show _ = _
            unfold atI; rw [this, if_pos (by omega)]
          have ht : ((nameAt fs k).toList == name.toList) = true := (text_beq _ _).2 he
          clear he
          go_wp2
          go_ret
          exact ⟨by rw [hT.out]; rfl, rfl⟩
        · have ht : ((nameAt fs k).toList == name.toList) = false := by
            rcases Bool.eq_false_or_eq_true ((nameAt fs k).toList == name.toList) with h | h
            · exact absurd ((text_beq _ _).1 h) he
            · exact h
          have HE : Hid (nameAt fs k ≠ name) := he
          clear he
          go_wp2
          go_round
          case rel =>
            refine ⟨k + 1, by omega, by go_num, ?_⟩
            intro j hj
            by_cases e : j = k
            · subst e; exact HE.out
            · exact hb.out j (by omega)
          case measure => simp [intOf]; omega
      · have hT : Hid (atI fs name = -1) := by
          have := atF_none (fs := fs) (name := name) (fun j hj => hb.out j (by omega))
          show _ = _
          unfold atI; rw [this, if_neg (by omega)]
        go_wp2
        go_ret
        exact ⟨by rw [hT.out]; rfl, rfl⟩

theorem FieldsV.of_owns {w : World} {base n : Nat} {v : Value} {fs : List (ByteArray × ByteArray)} (h : w.ownsRow base 68 2 v n (flatF fs)) : FieldsV w base v n fs := frow_form h
theorem FieldsV.below {w w' : World} {base n : Nat} {v : Value} {fs : List (ByteArray × ByteArray)} (h : FieldsV w base v n fs) (hb : Below w.heap.size w w') : FieldsV w' base v n fs := by
  rcases h with h | ⟨g, cap, h1, h2, h3⟩
  · exact .inl h
  · exact .inr ⟨g, cap, h1, h2, h3.below hb h3.lt⟩
theorem FieldsV.len {w : World} {base n : Nat} {v : Value} {fs : List (ByteArray × ByteArray)} (h : FieldsV w base v n fs) : fs.length = n := by
  rcases h with ⟨_, _, _, _, rfl, rfl⟩ | ⟨_, _, _, _, h⟩
  · rfl
  · exact h.len

/-- A list of fields is a slice; where there is a field it is a row's. -/
theorem FieldsV.slice {w : World} {base n : Nat} {v : Value} {fs : List (ByteArray × ByteArray)} (h : FieldsV w base v n fs) :
    ∃ oa cap, v = .slice oa n cap ∧ ∀ k, k < n → ∃ g, oa = some ⟨g, 0, none⟩ ∧ FieldRow base w g n cap fs := by
  rcases h with ⟨oa, ca, rfl, _, rfl, rfl⟩ | ⟨g, cap, rfl, hp, row⟩
  · exact ⟨oa, ca, rfl, fun k hk => absurd hk (by omega)⟩
  · exact ⟨_, cap, rfl, fun k _ => ⟨g, rfl, row⟩⟩

/-- What Get answers. -/
def getV (fs : List (ByteArray × ByteArray)) (name : ByteArray) : ByteArray := if atF fs name < fs.length then valAt fs (atF fs name) else ⟨#[]⟩
def getB (fs : List (ByteArray × ByteArray)) (name : ByteArray) : Bool := decide (atF fs name < fs.length)

set_option maxHeartbeats 1000000 in
theorem specGet_any (v : Value) (n base : Nat) (fs : List (ByteArray × ByteArray)) (name : ByteArray) (w : World) (hv : FieldsV w base v n fs) (hn : n ≤ 1073741824) :
    Calls Tryd.prog 14 #[v, .string name] w fun e w' => e = .returned (.tuple #[.string (getV fs name), .bool (getB fs name)]) ∧ w' = w := by
  have hl := hv.len
  by_cases hin : atF fs name < fs.length
  · have hI : Hid (atI fs name = (atF fs name : Int)) := by show _ = _; unfold atI; rw [if_pos hin]
    have hV : Hid (getV fs name = valAt fs (atF fs name)) := by show _ = _; unfold getV; rw [if_pos hin]
    have hB : Hid (getB fs name = true) := by show _ = _; unfold getB; simpa using hin
    have hv0 := hv
    rcases hv0 with ⟨oa, ca, rfl, _, rfl, rfl⟩ | ⟨g, cap, rfl, hp, row⟩
    · simp at hin
    · obtain ⟨k, hk⟩ : ∃ k, k = atF fs name := ⟨_, rfl⟩
      rw [← hk] at hI hV hin
      have hc := row.val k (by omega)
      have hlt : (k : Int) < (n : Int) := by omega
      clear hk
      go_enter Tryd.func14, Tryd.ntmps14
      go_wp2_with fail
      refine (l2At_any _ n base fs name _ hv hn).mono ?_
      rintro e w1 ⟨rfl, rfl⟩
      rw [hI.out]
      clear hv
      go_wp2
      go_ret2
      exact ⟨by rw [hV.out, hB.out]; rfl, rfl⟩
  · have hI : Hid (atI fs name = -1) := by show _ = _; unfold atI; rw [if_neg hin]
    have hV : Hid (getV fs name = ⟨#[]⟩) := by show _ = _; unfold getV; rw [if_neg hin]
    have hB : Hid (getB fs name = false) := by show _ = _; unfold getB; simpa using hin
    go_enter Tryd.func14, Tryd.ntmps14
    go_wp2_with fail
    refine (l2At_any v n base fs name _ hv hn).mono ?_
    rintro e w1 ⟨rfl, rfl⟩
    rw [hI.out]
    clear hv
    go_wp2
    go_ret2
    exact ⟨by rw [hV.out, hB.out]; rfl, rfl⟩

theorem text_beq_no {a b : ByteArray} (h : a ≠ b) : (a.toList == b.toList) = false := by
  rcases Bool.eq_false_or_eq_true (a.toList == b.toList) with h1 | h1
  · exact absurd ((text_beq _ _).1 h1) h
  · exact h1

end Go.Proofs.YtopeegjmpphjnaaDoor

namespace Go.Proofs.YtopeegjmpphjnaaDoor
open Go.RowKit
open Go.Lib hiding intOf

def blankB : ByteArray := ⟨#[32]⟩
def ageB : ByteArray := ⟨#[97, 103, 101]⟩
/-- An answer in letters. -/
def replyT (cl kd st : Int) (fs : List (ByteArray × ByteArray)) : ByteArray :=
  if 1 ≤ kd ∧ kd ≤ 4 then
    if getB fs ageB = true then numTextI cl ++ blankB ++ kindT kd ++ blankB ++ numTextI st ++ blankB ++ getV fs ageB
    else numTextI cl ++ blankB ++ kindT kd ++ blankB ++ numTextI st
  else ⟨#[]⟩
/-- Texts with blanks between. -/
def joinS (xs : List ByteArray) : ByteArray := ⟨(Lib.join (xs.map (fun x => x.data.toList)) [32]).toArray⟩
theorem joinS_one (x : ByteArray) : joinS [x] = x := by
  unfold joinS
  rw [List.map_cons, List.map_nil, Lib.join_one]
theorem join_snoc (sep : List UInt8) (a : List UInt8) (r : List (List UInt8)) (x : List UInt8) : Lib.join ((a :: r) ++ [x]) sep = Lib.join (a :: r) sep ++ sep ++ x := by
  rw [List.cons_append, Lib.join_cons, Lib.join_cons, Lib.joinTail, Lib.joinTail, List.map_append, List.flatten_append, List.map_cons, List.map_nil]
  simp
theorem joinS_snoc (xs : List ByteArray) (x : ByteArray) (h : xs ≠ []) : joinS (xs ++ [x]) = joinS xs ++ blankB ++ x := by
  cases xs with
  | nil => exact absurd rfl h
  | cons a r =>
    unfold joinS
    rw [List.map_append, List.map_cons, List.map_cons, List.map_nil, join_snoc]
    apply ByteArray.ext
    simp [blankB]
theorem joinS_three (a b c : ByteArray) : joinS [a, b, c] = a ++ blankB ++ b ++ blankB ++ c := by
  rw [show [a, b, c] = [a, b] ++ [c] from rfl, joinS_snoc _ _ (by simp), show [a, b] = [a] ++ [b] from rfl, joinS_snoc _ _ (by simp), joinS_one]
theorem joinS_four (a b c d : ByteArray) : joinS [a, b, c, d] = a ++ blankB ++ b ++ blankB ++ c ++ blankB ++ d := by
  rw [show [a, b, c, d] = [a, b, c] ++ [d] from rfl, joinS_snoc _ _ (by simp), joinS_three]
theorem lens_sz : ∀ (xs : List ByteArray) (M : Nat), (∀ x ∈ xs, x.size ≤ M) → Lib.lens (xs.map (fun x => x.data.toList)) ≤ M * xs.length
  | [], _, _ => by simp [Lib.lens]
  | x :: l, M, h => by
    have h1 := lens_sz l M (fun y hy => h y (List.mem_cons_of_mem _ hy))
    have h2 := h x (List.mem_cons_self ..)
    simp only [Lib.lens, List.map_cons, List.sum_cons, List.length_cons] at h1 ⊢
    have e : x.data.toList.length = x.size := by simp
    rw [e, Nat.mul_succ]
    omega
theorem joinS_size (xs : List ByteArray) (M : Nat) (h : ∀ x ∈ xs, x.size ≤ M) : (joinS xs).size ≤ (M + 1) * xs.length := by
  unfold joinS
  show (Lib.join _ _).toArray.size ≤ _
  rw [List.size_toArray]
  cases xs with
  | nil => simp [Lib.join_nil]
  | cons a r =>
    have h1 := lens_sz (a :: r) M h
    rw [List.map_cons] at h1 ⊢
    rw [Lib.join_length, List.length_map]
    have e1 : (M + 1) * (a :: r).length = M * (a :: r).length + (r.length + 1) := by rw [Nat.add_mul, Nat.one_mul, List.length_cons]
    have e2 : [(32 : UInt8)].length * r.length = r.length := by rw [List.length_singleton, Nat.one_mul]
    rw [e1, e2]
    omega

end Go.Proofs.YtopeegjmpphjnaaDoor

namespace Go.Proofs.YtopeegjmpphjnaaDoor
open Go.RowKit
open Go.Lib hiding intOf

attribute [local go_sem ↓] Go.wp_at_zero Go.wp_at_succ

/-- A list of fields that came in, in blocks below B. -/
structure ArgF (w : World) (B : Nat) (a : Option Addr) (n : Nat) (fs : List (ByteArray × ByteArray)) : Prop where
  len : fs.length = n
  get : ∀ i, i < n → ∃ b off, a = some ⟨b, off, none⟩ ∧ b < B ∧ w.cell? ⟨b, off + i * 2, none⟩ = some (.string (nameAt fs i)) ∧ w.cell? ⟨b, off + i * 2 + 1, none⟩ = some (.string (valAt fs i))
theorem ArgF.below {w w' : World} {B : Nat} {a : Option Addr} {n : Nat} {fs : List (ByteArray × ByteArray)} (h : ArgF w B a n fs) (hb : Below B w w') : ArgF w' B a n fs :=
  ⟨h.len, fun i hi => by
    obtain ⟨b, off, h1, h2, h3, h4⟩ := h.get i hi
    exact ⟨b, off, h1, h2, by rw [hb.cell (p := ⟨b, off + i * 2, none⟩) h2]; exact h3, by rw [hb.cell (p := ⟨b, off + i * 2 + 1, none⟩) h2]; exact h4⟩⟩

/-- How many letters the first k fields hold. -/
def szTo (fs : List (ByteArray × ByteArray)) : Nat → Nat
  | 0 => 0
  | k + 1 => szTo fs k + (nameAt fs k).size + (valAt fs k).size

set_option maxHeartbeats 1000000 in
theorem szField_any (nm vl : ByteArray) (left : Int) (w : World) (h0 : 0 ≤ left) (h1 : left ≤ 1073741824) (hn : nm.size ≤ maxLen) (hv : vl.size ≤ maxLen) :
    Calls Tryd.prog 36 #[.agg #[.string nm, .string vl], .int .i64 left] w fun e w' => e = .returned (.int .i64 (if left - nm.size < 0 then -1 else if left - nm.size - vl.size < 0 then -1 else left - nm.size - vl.size)) ∧ Below w.heap.size w w' := by
  unfold maxLen at hn hv
  by_cases c1 : left - (nm.size : Int) < 0
  · rw [if_pos c1]
    go_enter Tryd.func36, Tryd.ntmps36
    go_wp2
    go_ret
    exact ⟨rfl, (Below.refl _ _).alloc (Nat.le_refl _) _⟩
  · rw [if_neg c1]
    by_cases c2 : left - (nm.size : Int) - (vl.size : Int) < 0
    · rw [if_pos c2]
      go_enter Tryd.func36, Tryd.ntmps36
      go_wp2
      go_ret
      exact ⟨rfl, (Below.refl _ _).alloc (Nat.le_refl _) _⟩
    · rw [if_neg c2]
      go_enter Tryd.func36, Tryd.ntmps36
      go_wp2
      go_ret
      exact ⟨rfl, (Below.refl _ _).alloc (Nat.le_refl _) _⟩

set_option maxHeartbeats 1000000 in
theorem toField_any (nm vl : ByteArray) (w : World) :
    Calls Tryd.prog 37 #[.agg #[.string nm, .string vl]] w fun e w' => e = .returned (.agg #[.string nm, .string vl]) ∧ Below w.heap.size w w' := by
  go_enter Tryd.func37, Tryd.ntmps37
  go_wp2
  exact bodyPost_ret (v := .agg #[.string nm, .string vl]) (by simp [results, Tryd.results37, go_sem]) rfl ⟨rfl, (((Below.refl _ _).alloc (Nat.le_refl _) _).alloc (by simp) _).alloc (by simp; omega) _⟩

theorem info33 : (Tryd.prog.info? 68).map (fun i => (i.zero, i.size, i.bytes)) = some (some (.agg #[.string ⟨#[]⟩, .string ⟨#[]⟩]), 2, 32) := by kernel_rfl

theorem heap_set (w : World) (c o : Nat) (cs : Array Value) (t : TypeId) (fz : Nat × Nat) (v : Value) (h : w.heap[c]? = some (.cells cs t fz)) : (w.setCell ⟨c, o, none⟩ v).heap[c]? = some (.cells (cs.setIfInBounds o v) t fz) := by
  simp [World.setCell, Array.getElem?_modify, h]
/-- The first k fields of a row of 2 n cells are told. -/
def PartRow (w : World) (g n k : Nat) (fs : List (ByteArray × ByteArray)) : Prop :=
  ∃ cur, w.heap[g]? = some (.cells cur 68 (0, 0)) ∧ cur.size = n * 2 ∧ ∀ i, i < k → cur[i * 2]? = some (.string (nameAt fs i)) ∧ cur[i * 2 + 1]? = some (.string (valAt fs i))
theorem PartRow.below {w w' : World} {g n k B : Nat} {fs : List (ByteArray × ByteArray)} (h : PartRow w g n k fs) (hb : Below B w w') (hB : g < B) : PartRow w' g n k fs := by
  obtain ⟨cur, h1, h2⟩ := h
  exact ⟨cur, by rw [hb.block g hB]; exact h1, h2⟩
theorem PartRow.lt {w : World} {g n k : Nat} {fs : List (ByteArray × ByteArray)} (h : PartRow w g n k fs) : g < w.heap.size := by
  obtain ⟨cur, h1, _⟩ := h
  exact (Array.getElem?_eq_some_iff.1 h1).1
theorem PartRow.cell {w : World} {g n k : Nat} {fs : List (ByteArray × ByteArray)} (h : PartRow w g n k fs) (j : Nat) (hj : j < n * 2) : ∃ u, w.cell? ⟨g, j, none⟩ = some u := by
  obtain ⟨cur, h1, h2, _⟩ := h
  refine ⟨cur[j]'(by omega), ?_⟩
  simp only [World.cell?, h1]
  simp [show j < cur.size by omega]
theorem PartRow.frozen {w : World} {g n k : Nat} {fs : List (ByteArray × ByteArray)} (h : PartRow w g n k fs) (j : Nat) : w.frozen? ⟨g, j, none⟩ = false := by
  obtain ⟨cur, h1, _⟩ := h
  simp [World.frozen?, h1]
theorem PartRow.put {w : World} {g n k : Nat} {fs : List (ByteArray × ByteArray)} (h : PartRow w g n k fs) (hk : k < n) : PartRow ((w.setCell ⟨g, k * 2, none⟩ (.string (nameAt fs k))).setCell ⟨g, k * 2 + 1, none⟩ (.string (valAt fs k))) g n (k + 1) fs := by
  obtain ⟨cur, h1, h2, h3⟩ := h
  refine ⟨_, heap_set _ g (k * 2 + 1) _ _ _ _ (heap_set w g (k * 2) _ _ _ _ h1), by simpa using h2, ?_⟩
  intro i hi
  by_cases e : i = k
  · subst e
    refine ⟨?_, ?_⟩
    · rw [Array.getElem?_setIfInBounds_ne (by omega), Array.getElem?_setIfInBounds_self_of_lt (by omega)]
    · rw [Array.getElem?_setIfInBounds_self_of_lt (by simp; omega)]
  · have := h3 i (by omega)
    refine ⟨?_, ?_⟩
    · rw [Array.getElem?_setIfInBounds_ne (by omega), Array.getElem?_setIfInBounds_ne (by omega)]; exact this.1
    · rw [Array.getElem?_setIfInBounds_ne (by omega), Array.getElem?_setIfInBounds_ne (by omega)]; exact this.2
theorem PartRow.owns {w : World} {g n : Nat} {fs : List (ByteArray × ByteArray)} (h : PartRow w g n n fs) (hl : fs.length = n) (hm : n ≤ maxLen) {base : Nat} (hb : base ≤ g) : w.ownsRow base 68 2 (.slice (some ⟨g, 0, none⟩) n n) n (flatF fs) :=
  FieldRow.owns ⟨hl, hb, h.lt, Nat.le_refl _, hm, h⟩

set_option maxHeartbeats 1000000 in
theorem toFieldS_any (B : Nat) (a : Option Addr) (n cap : Nat) (fs : List (ByteArray × ByteArray)) (w : World) (harg : ArgF w B a n fs) (hB : B ≤ w.heap.size) (hn : n ≤ 1048576) :
    Calls Tryd.prog 29 #[.slice a n cap] w fun e w' => ∃ v, e = .returned v ∧ w'.ownsRow w.heap.size 68 2 v n (flatF fs) ∧ Below w.heap.size w w' := by
  obtain ⟨i0, hi, hz0, hz1, hz2⟩ := info_parts info33
  obtain ⟨M, hM⟩ : ∃ M, M = madeCells (Value.agg #[.string ⟨#[]⟩, .string ⟨#[]⟩]).cells (((n : Nat) : Int).toNat * i0.size) := ⟨_, rfl⟩
  have hmk : ∀ W : World, (Instr.makeSlice 34 (.int .i64 (n : Int)) (.int .i64 (n : Int))).run Tryd.prog W = .ok (.slice (some ⟨W.heap.size, 0, none⟩) n n) (W.alloc (.cells M 68)) := fun W => by
    have h := run_make (P := Tryd.prog) W 34 68 i0 (.agg #[.string ⟨#[]⟩, .string ⟨#[]⟩]) Tryd.underlying34 hi hz0 .i64 .i64 (n : Int) (n : Int) (by omega) (by omega) (by rw [hz2]; omega) (by omega)
    rw [← hM] at h
    simpa using h
  have hMs : M.size = n * 2 := by rw [hM, size_madeCells, hz1]; simp
  have hlen := harg.len
  clear hM
  have HP : Hid (PartRow (w.alloc (.cells M 68)) w.heap.size n 0 fs) := ⟨M, heap_alloc_new w _, hMs, fun i h => absurd h (by omega)⟩
  go_enter Tryd.func29, Tryd.ntmps29
  go_wp2
  go_loopw [4] (fun i wr => ∃ k : Nat, k ≤ n ∧ i = .int .i64 (k : Int) ∧ Hid (PartRow wr w.heap.size n k fs) ∧ Below w.heap.size w wr) (fun i _ => n - (intOf i).toNat)
  case atStart => exact ⟨0, Nat.zero_le _, rfl, HP, (Below.refl _ _).alloc (Nat.le_refl _) _⟩
  case round =>
    obtain ⟨k, hk, rfl, hpr, hbw⟩ := hrel
    by_cases hlt : k < n
    · have hlt2 : (k : Int) < (n : Int) := by omega
      obtain ⟨b, off, rfl, hbB, hc1, hc2⟩ := (harg.below (hbw.mono hB)).get k hlt
      obtain ⟨nm, hnm⟩ : ∃ y, y = nameAt fs k := ⟨_, rfl⟩
      obtain ⟨vl, hvl⟩ : ∃ y, y = valAt fs k := ⟨_, rfl⟩
      rw [← hnm] at hc1
      rw [← hvl] at hc2
      have HNM : Hid (nm = nameAt fs k) := hnm
      have HVL : Hid (vl = valAt fs k) := hvl
      clear hnm hvl
      go_wp2_with fail
      refine (toField_any nm vl _).mono ?_
      rintro e w1 ⟨rfl, hb1⟩
      have hpr1 := hpr.out.below hb1 hpr.out.lt
      have hb2 : Below w.heap.size w w1 := hbw.trans (hb1.mono hbw.size)
      obtain ⟨u0, hu0⟩ := hpr1.cell (k * 2) (by omega)
      obtain ⟨u1, hu1⟩ := hpr1.cell (k * 2 + 1) (by omega)
      have f0 := hpr1.frozen (k * 2)
      have f1 := hpr1.frozen (k * 2 + 1)
      have hput := hpr1.put hlt
      rw [← HNM.out, ← HVL.out] at hput
      have HPUT : Hid _ := hput
      clear hput hc1 hc2 hb1
      go_wp2
      go_roundw
      case rel => exact ⟨k + 1, by omega, by go_num, HPUT, (hb2.setCell (Nat.le_refl _) _).setCell (Nat.le_refl _) _⟩
      case measure => simp [intOf]; omega
    · obtain rfl : k = n := by omega
      go_wp2
      go_ret
      exact ⟨_, rfl, hpr.out.owns hlen (by unfold maxLen; omega) (Nat.le_refl _), hbw⟩

set_option maxHeartbeats 1000000 in
theorem eqField_any (nm vl : ByteArray) (w : World) :
    Calls Tryd.prog 44 #[.agg #[.string nm, .string vl], .agg #[.string nm, .string vl]] w fun e w' => e = .returned (.bool true) ∧ Below w.heap.size w w' := by
  go_enter Tryd.func44, Tryd.ntmps44
  go_wp2
  go_ret
  exact ⟨rfl, ((Below.refl _ _).alloc (Nat.le_refl _) _).alloc (by simp) _⟩

set_option maxHeartbeats 2000000 in
theorem eqFieldS_any (v1 v2 : Value) (n b1 b2 : Nat) (fs : List (ByteArray × ByteArray)) (w : World) (h1 : FieldsV w b1 v1 n fs) (h2 : FieldsV w b2 v2 n fs) (hn : n ≤ 2000000) :
    Calls Tryd.prog 34 #[v1, v2] w fun e w' => e = .returned (.bool true) ∧ Below w.heap.size w w' := by
  rcases h1 with ⟨oa, ca, rfl, _, rfl, rfl⟩ | ⟨g1, c1, rfl, hp, r1⟩
  · rcases h2 with ⟨ob, cb, rfl, _, _, _⟩ | ⟨g2, c2, rfl, hp2, _⟩
    · go_enter Tryd.func34, Tryd.ntmps34
      go_wp2
      refine wp_loop_rounds 1 ?_
      rw [rounds_succ]
      go_wp2
      go_ret
      exact ⟨rfl, Below.refl _ _⟩
    · omega
  · rcases h2 with ⟨ob, cb, rfl, _, h0, _⟩ | ⟨g2, c2, rfl, hp2, r2⟩
    · omega
    · go_enter Tryd.func34, Tryd.ntmps34
      go_wp2
      go_loopw [5] (fun i wr => ∃ k : Nat, k ≤ n ∧ i = .int .i64 (k : Int) ∧ Below w.heap.size w wr) (fun i _ => n - (intOf i).toNat)
      case atStart => exact ⟨0, Nat.zero_le _, rfl, Below.refl _ _⟩
      case round =>
        obtain ⟨k, hk, rfl, hbw⟩ := hrel
        by_cases hlt : k < n
        · have hlt2 : (k : Int) < (n : Int) := by omega
          obtain ⟨nm, hnm⟩ : ∃ y, y = nameAt fs k := ⟨_, rfl⟩
          obtain ⟨vl, hvl⟩ : ∃ y, y = valAt fs k := ⟨_, rfl⟩
          have ha := (r1.below hbw r1.lt).name k hlt
          have hb := (r1.below hbw r1.lt).val k hlt
          have hc := (r2.below hbw r2.lt).name k hlt
          have hd := (r2.below hbw r2.lt).val k hlt
          rw [← hnm] at ha hc
          rw [← hvl] at hb hd
          have HA : Hid (∀ w0 w1, Below wr.heap.size wr w0 → Below w0.heap.size w0 w1 → (w1.cell? ⟨g1, k * 2, none⟩ = some (.string nm) ∧ w1.cell? ⟨g1, k * 2 + 1, none⟩ = some (.string vl) ∧ w1.cell? ⟨g2, k * 2, none⟩ = some (.string nm) ∧ w1.cell? ⟨g2, k * 2 + 1, none⟩ = some (.string vl)) ∧ Below wr.heap.size wr w1) := fun w0 w1 h h' => by
            have hx := h.trans (h'.mono h.size)
            have hy := hbw.trans (hx.mono hbw.size)
            have a1 := (r1.below hy r1.lt).name k hlt
            have a2 := (r1.below hy r1.lt).val k hlt
            have a3 := (r2.below hy r2.lt).name k hlt
            have a4 := (r2.below hy r2.lt).val k hlt
            rw [← hnm] at a1 a3
            rw [← hvl] at a2 a4
            exact ⟨⟨a1, a2, a3, a4⟩, hx⟩
          clear hnm hvl
          go_wp2
          go_region_held3 (fun w' => w'.cell? ⟨g1, k * 2, none⟩ = some (.string nm) ∧ w'.cell? ⟨g1, k * 2 + 1, none⟩ = some (.string vl) ∧ w'.cell? ⟨g2, k * 2, none⟩ = some (.string nm) ∧ w'.cell? ⟨g2, k * 2 + 1, none⟩ = some (.string vl)) (first | assumption | go_keep) (first | (go_at_call 44; refine (eqField_any _ _ _).mono ?_; rintro e w1 ⟨rfl, hb1⟩; obtain ⟨hcc, hbx⟩ := HA.out _ w1 ((Below.refl _ wr).drew) hb1))
          go_wp2
          go_roundw
          case rel => exact ⟨k + 1, by omega, by go_num, hbw.trans (hbx.mono hbw.size)⟩
          case measure => simp [intOf]; omega
        · go_wp2
          go_ret
          exact ⟨rfl, hbw⟩

end Go.Proofs.YtopeegjmpphjnaaDoor

namespace Go.Proofs.YtopeegjmpphjnaaDoor
open Go.RowKit
open Go.Lib hiding intOf

set_option maxHeartbeats 1000000 in
theorem place_any (v : Value) (n base : Nat) (fs : List (ByteArray × ByteArray)) (name : ByteArray) (w : World) (hv : FieldsV w base v n fs) (hn : n ≤ 1073741824) :
    Calls Tryd.prog 39 #[v, .string name] w fun e w' => e = .returned (.int .i64 (atF fs name : Int)) ∧ w' = w := by
  have hl := hv.len
  obtain ⟨oa, cap, rfl, hrow⟩ := hv.slice
  clear hv
  go_enter Tryd.func39, Tryd.ntmps39
  go_wp2
  go_loop [8] (fun i => ∃ k : Nat, k ≤ n ∧ i = .int .i64 (k : Int) ∧ Hid (∀ j, j < k → nameAt fs j ≠ name)) (fun i => n - (intOf i).toNat)
  case atStart => exact ⟨0, Nat.zero_le _, rfl, fun j h => absurd h (by omega)⟩
  case round =>
    obtain ⟨k, hk, rfl, hb⟩ := hrel
    by_cases hlt : k < n
    · obtain ⟨g, rfl, row⟩ := hrow k hlt
      have hc := row.name k hlt
      have hlt2 : (k : Int) < (n : Int) := by omega
      clear hrow row
      by_cases he : nameAt fs k = name
      · have hT : Hid (atF fs name = k) := atF_uniq (by omega) hb.out he
        have ht : ((nameAt fs k).toList == name.toList) = true := (text_beq _ _).2 he
        clear he
        go_wp2
        go_ret
        exact ⟨by rw [hT.out]; rfl, rfl⟩
      · have ht := text_beq_no he
        have HE : Hid (nameAt fs k ≠ name) := he
        clear he
        go_wp2
        go_round
        case rel =>
          refine ⟨k + 1, by omega, by go_num, ?_⟩
          intro j hj
          by_cases e : j = k
          · subst e; exact HE.out
          · exact hb.out j (by omega)
        case measure => simp [intOf]; omega
    · have hT : Hid (atF fs name = n) := by
        have := atF_none (fs := fs) (name := name) (fun j hj => hb.out j (by omega))
        show _ = _
        omega
      clear hrow
      go_wp2
      go_ret
      exact ⟨by rw [hT.out]; rfl, rfl⟩

/-- Every text of the fields is short enough to be copied. -/
def CopyF (fs : List (ByteArray × ByteArray)) : Prop := ∀ i, i < fs.length → (nameAt fs i).size ≤ 281474976710656 ∧ (valAt fs i).size ≤ 281474976710656

set_option maxHeartbeats 1000000 in
theorem implGet_any (v : Value) (n base : Nat) (fs : List (ByteArray × ByteArray)) (name : ByteArray) (w : World) (hv : FieldsV w base v n fs) (hn : n ≤ 1073741824) (hsz : CopyF fs) :
    Calls Tryd.prog 32 #[v, .string name] w fun e w' => e = .returned (.tuple #[.string (getV fs name), .bool (getB fs name)]) ∧ Below w.heap.size w w' := by
  have hl := hv.len
  have hv0 := hv
  obtain ⟨oa, cap, rfl, hrow⟩ := hv0.slice
  clear hv0
  obtain ⟨k, hk⟩ : ∃ k, k = atF fs name := ⟨_, rfl⟩
  have hle := atF_le fs name
  by_cases hin : atF fs name < fs.length
  · have hV : Hid (getV fs name = valAt fs k) := by show _ = _; unfold getV; rw [if_pos hin, hk]
    have hB : Hid (getB fs name = true) := by show _ = _; unfold getB; simpa using hin
    obtain ⟨g, rfl, row⟩ := hrow k (by omega)
    have hc := row.val k (by omega)
    have hlt : (k : Int) < (n : Int) := by omega
    have hne : ((k : Int) == (n : Int)) = false := by rw [beq_eq_false_iff_ne]; omega
    obtain ⟨_, hz⟩ := hsz k (by omega)
    obtain ⟨vl, hvl⟩ : ∃ y, y = valAt fs k := ⟨_, rfl⟩
    rw [← hvl] at hV hc hz
    go_enter Tryd.func32, Tryd.ntmps32
    go_wp2_with fail
    refine (place_any _ n base fs name _ hv hn).mono ?_
    rintro e w1 ⟨rfl, rfl⟩
    rw [← hk]
    clear hv hrow row hk hvl hle hin hsz
    go_wp2_with fail
    refine (clone_any vl _ hz).mono ?_
    rintro e w2 ⟨rfl, hb2⟩
    go_wp2
    go_ret2
    exact ⟨by rw [hV.out, hB.out]; rfl, hb2⟩
  · have hV : Hid (getV fs name = ⟨#[]⟩) := by show _ = _; unfold getV; rw [if_neg hin]
    have hB : Hid (getB fs name = false) := by show _ = _; unfold getB; simpa using hin
    have hkn : k = n := by omega
    go_enter Tryd.func32, Tryd.ntmps32
    go_wp2_with fail
    refine (place_any _ n base fs name _ hv hn).mono ?_
    rintro e w1 ⟨rfl, rfl⟩
    rw [← hk, hkn]
    clear hv hrow hk hle hin hsz hkn
    go_wp2
    go_ret2
    exact ⟨by rw [hV.out, hB.out]; rfl, Below.refl _ _⟩

end Go.Proofs.YtopeegjmpphjnaaDoor

namespace Go.Proofs.YtopeegjmpphjnaaDoor
open Go.RowKit
open Go.Lib hiding intOf

/-- Texts short enough for any walk. -/
def WalkF (n : Nat) (fs : List (ByteArray × ByteArray)) : Prop := ∀ i, i < n → (nameAt fs i).size ≤ maxLen ∧ (valAt fs i).size ≤ maxLen

/-- A block that was laid last stands behind every call that keeps what was there. -/
theorem kept_new {w W : World} {o : Obj} (h : Below (w.alloc o).heap.size (w.alloc o) W) : W.heap[w.heap.size]? = some o := by
  rw [h.block _ (by simp)]; exact heap_alloc_new w _
theorem below_new {w W : World} {o : Obj} (h : Below (w.alloc o).heap.size (w.alloc o) W) : Below w.heap.size w W :=
  ((Below.refl _ w).alloc (Nat.le_refl _) o).trans (h.mono (by simp))
end Go.Proofs.YtopeegjmpphjnaaDoor

namespace Go.Proofs.YtopeegjmpphjnaaDoor
open Go.RowKit
open Go.Lib hiding intOf

theorem dgF_len : ∀ (f n : Nat), (dgF f n).length ≤ f
  | 0, n => by simp [dgF]
  | f + 1, n => by
    by_cases h : n = 0
    · rw [h, dgF_zero]; simp
    · rw [dgF_pos f n h]
      have := dgF_len f (n / 10)
      simp; omega
theorem numText_size (n : Nat) : (numText n).size ≤ 8 := by
  have : (numText n).size = (numL n).length := by simp [numText, ByteArray.size]
  rw [this]
  unfold numL
  split
  · simp
  · split
    · simp
    · exact dgF_len 8 n
theorem empty_text {b : ByteArray} (h : b.size = 0) : b = ⟨#[]⟩ := by
  apply ByteArray.ext
  exact Array.eq_empty_of_size_eq_zero h

end Go.Proofs.YtopeegjmpphjnaaDoor

namespace Go.Proofs.YtopeegjmpphjnaaDoor
open Go.RowKit
open Go.Lib hiding intOf

theorem slice_of_owns {w : World} {base : Nat} {t : TypeId} {size : Nat} {v : Value} {n : Nat} {xs : List Value} (h : w.ownsRow base t size v n xs) : ∃ oa cp, v = .slice oa n cp := by
  rcases h.2 with ⟨rfl, rfl⟩ | ⟨g, cap, cur, rfl, _⟩
  · exact ⟨none, 0, rfl⟩
  · exact ⟨_, cap, rfl⟩
/-- The four cells of a request's memory, written. -/
def fourSet (w : World) (r : Nat) (a b c d : Value) : World := (((w.setCell ⟨r, 0, none⟩ a).setCell ⟨r, 1, none⟩ b).setCell ⟨r, 2, none⟩ c).setCell ⟨r, 3, none⟩ d
theorem four_facts {W : World} {R : Nat} {a b c d : Value} {t : TypeId} (h : W.heap[R]? = some (.cells #[a, b, c, d] t)) :
    (W.cell? ⟨R, 0, none⟩ = some a ∧ W.cell? ⟨R, 1, none⟩ = some b ∧ W.cell? ⟨R, 2, none⟩ = some c ∧ W.cell? ⟨R, 3, none⟩ = some d) ∧ W.frozen? ⟨R, 0, none⟩ = false ∧ W.frozen? ⟨R, 1, none⟩ = false ∧ W.frozen? ⟨R, 2, none⟩ = false ∧ W.frozen? ⟨R, 3, none⟩ = false := by
  refine ⟨⟨?_, ?_, ?_, ?_⟩, ?_, ?_, ?_, ?_⟩ <;> simp [World.cell?, World.frozen?, h]
theorem four_set {W : World} {R : Nat} {a b c d : Value} {t : TypeId} (h : W.heap[R]? = some (.cells #[a, b, c, d] t)) (a' b' c' d' : Value) : (fourSet W R a' b' c' d').heap[R]? = some (.cells #[a', b', c', d'] t) := by
  have := heap_set _ R 3 _ _ _ d' (heap_set _ R 2 _ _ _ c' (heap_set _ R 1 _ _ _ b' (heap_set W R 0 _ _ _ a' h)))
  simpa [fourSet] using this
theorem below_four {w W : World} {B R : Nat} {a b c d : Value} (h : Below B w W) (hR : B ≤ R) : Below B w (fourSet W R a b c d) :=
  (((h.setCell (p := ⟨R, 0, none⟩) hR _).setCell (p := ⟨R, 1, none⟩) hR _).setCell (p := ⟨R, 2, none⟩) hR _).setCell (p := ⟨R, 3, none⟩) hR _

end Go.Proofs.YtopeegjmpphjnaaDoor

namespace Go.Proofs.YtopeegjmpphjnaaDoor
open Go.RowKit
open Go.Lib hiding intOf

theorem owns_wide {w : World} {B base : Nat} {e : TypeId} {size : Nat} {v : Value} {n : Nat} {xs : List Value} (h : w.ownsRow base e size v n xs) (hB : B ≤ base) : w.ownsRow B e size v n xs := by
  obtain ⟨hl, hv⟩ := h
  refine ⟨hl, ?_⟩
  rcases hv with h0 | ⟨g, cap, cur, h1, h2, h3⟩
  · exact .inl h0
  · exact .inr ⟨g, cap, cur, h1, Nat.le_trans hB h2, h3⟩
theorem owns_same {w w' : World} {base : Nat} {e : TypeId} {size : Nat} {v : Value} {n : Nat} {xs : List Value} (h : w.ownsRow base e size v n xs) (hs : ∀ j, v.ownBlock = some j → w'.heap[j]? = w.heap[j]?) : w'.ownsRow base e size v n xs := by
  obtain ⟨hl, hv⟩ := h
  refine ⟨hl, ?_⟩
  rcases hv with h0 | ⟨g, cap, cur, rfl, h2, h3, h4⟩
  · exact .inl h0
  · exact .inr ⟨g, cap, cur, rfl, h2, by rw [hs g rfl]; exact h3, h4⟩

theorem szTo_mono (fs : List (ByteArray × ByteArray)) (k : Nat) : ∀ d, szTo fs k ≤ szTo fs (k + d) := by
  intro d
  induction d with
  | zero => exact Nat.le_refl _
  | succ d ih => rw [show k + (d + 1) = (k + d) + 1 by omega, szTo]; omega
theorem szTo_get (fs : List (ByteArray × ByteArray)) (n i : Nat) (hi : i < n) : (nameAt fs i).size ≤ szTo fs n ∧ (valAt fs i).size ≤ szTo fs n := by
  have h := szTo_mono fs (i + 1) (n - (i + 1))
  rw [show i + 1 + (n - (i + 1)) = n by omega, szTo] at h
  omega
theorem addr_add (b off y : Nat) : (⟨b, off, none⟩ : Addr).add y = ⟨b, off + y, none⟩ := by
  unfold Addr.add; split <;> simp_all
def txt : Value → ByteArray
  | .string s => s
  | _ => ⟨#[]⟩
theorem nameAt_range (f g : Nat → ByteArray) (n i : Nat) (hi : i < n) : nameAt ((List.range n).map fun j => (f j, g j)) i = f i ∧ valAt ((List.range n).map fun j => (f j, g j)) i = g i := by
  unfold nameAt valAt
  rw [List.getD_eq_getElem?_getD, List.getElem?_map, List.getElem?_range hi]
  exact ⟨rfl, rfl⟩
/-- A list of fields among the arguments: what it holds. -/
theorem openFields {H : Type} {enc : TypeId × Value → H} {W : World} {fuel : Nat} {a : Option Addr} {n cap : Nat} {x : DataW H × List MemPlace} (h : DataW.trod enc Tryd.prog W 0 (fun _ => true) true fuel 22 [.slice a n cap] = some x) :
    ∃ fs, ArgF W W.heap.size a n fs ∧ n ≤ maxLen ∧ ∀ i, i < n → (nameAt fs i).size ≤ maxLen ∧ (valAt fs i).size ≤ maxLen := by
  rcases Go.Deep.open_slice_pairs Tryd.underlying22 Tryd.underlying75 (by kernel_rfl) rfl rfl (by kernel_rfl) (by kernel_rfl) h with ⟨hcs, _⟩ | ⟨ad, len, c, m, q, V0, V1, D0, D1, P0, P1, hcs, _, hl, hm, hmm, _, hx⟩
  · simp at hcs
    obtain ⟨rfl, rfl, rfl⟩ := hcs
    exact ⟨[], ⟨rfl, fun i hi => absurd hi (by omega)⟩, Nat.zero_le _, fun i hi => absurd hi (by omega)⟩
  · simp at hcs
    obtain ⟨rfl, rfl, rfl⟩ := hcs
    have hm2 : m = cap := by simpa using hmm
    have each : ∀ i, i < n → V0 i = .string (txt (V0 i)) ∧ V1 i = .string (txt (V1 i)) ∧ (txt (V0 i)).size ≤ maxLen ∧ (txt (V1 i)).size ≤ maxLen := fun i hi => by
      obtain ⟨_, _, h3, h4⟩ := hx i (by omega)
      obtain ⟨s, e1, _, e3⟩ := DataW.trod_string Tryd.underlying9 h3
      obtain ⟨t, f1, _, f3⟩ := DataW.trod_string Tryd.underlying9 h4
      have e1' : V0 i = .string s := by simpa using e1
      have f1' : V1 i = .string t := by simpa using f1
      rw [e1', f1']
      exact ⟨rfl, rfl, e3, f3⟩
    refine ⟨(List.range n).map fun j => (txt (V0 j), txt (V1 j)), ⟨by simp, fun i hi => ?_⟩, by omega, fun i hi => ?_⟩
    · obtain ⟨c1, c2, _, _⟩ := hx i (by omega)
      obtain ⟨c3, _, _, _⟩ := hx 0 (by omega)
      have hsp : ad.spot = none := by
        have := World.cell?_spot c3
        simpa [Addr.add] using this
      obtain ⟨b, off, sp⟩ := ad
      simp only at hsp
      subst hsp
      rw [addr_add] at c1 c2
      obtain ⟨v0, v1, _, _⟩ := each i hi
      obtain ⟨r0, r1⟩ := nameAt_range (fun j => txt (V0 j)) (fun j => txt (V1 j)) n i hi
      rw [r0, r1]
      have hlt := World.block_lt_of_cell? W _ c1
      rw [v0] at c1
      rw [v1] at c2
      exact ⟨b, off, rfl, hlt, c1, c2⟩
    · obtain ⟨r0, r1⟩ := nameAt_range (fun j => txt (V0 j)) (fun j => txt (V1 j)) n i hi
      rw [r0, r1]
      exact (each i hi).2.2

end Go.Proofs.YtopeegjmpphjnaaDoor

namespace Go.Proofs.YtopeegjmpphjnaaDoor
open Go.RowKit
open Go.Lib hiding intOf

theorem owns_cellC {w : World} {base : Nat} {t : TypeId} {size g n cap : Nat} {xs : List Value} (h : w.ownsRow base t size (.slice (some ⟨g, 0, none⟩) n cap) n xs) (o : Nat) (u : Value) (ho : xs[o]? = some u) : w.cell? ⟨g, o, none⟩ = some u ∧ w.frozen? ⟨g, o, none⟩ = false := by
  obtain ⟨hl, hv⟩ := h
  rcases hv with ⟨e, _⟩ | ⟨g', cap', cur, e, h1, h2, h3, h4, h5, h6⟩
  · cases e
  · cases e
    refine ⟨?_, by simp [World.frozen?, h2]⟩
    rw [← h6, List.getElem?_take] at ho
    split at ho
    · simpa [World.cell?, h2] using ho
    · cases ho
theorem own_noR {w : World} {base : Nat} {t : TypeId} {size : Nat} {v : Value} {n : Nat} {xs : List Value} {j : Nat} {cs : Array Value} {T : TypeId} {fr : Nat × Nat} (h : w.ownsRow base t size v n xs) (hT : T ≠ t) (hj : w.heap[j]? = some (.cells cs T fr)) : v.ownBlock ≠ some j := by
  intro e
  rcases h.2 with ⟨rfl, _⟩ | ⟨g, cap, cur, rfl, _, h1, _⟩
  · cases e
  · cases e
    rw [h1] at hj
    cases hj
    exact hT rfl
theorem own_blockR {w : World} {base : Nat} {t : TypeId} {size : Nat} {v : Value} {n : Nat} {xs : List Value} {j : Nat} (h : w.ownsRow base t size v n xs) (hj : v.ownBlock = some j) : ∃ cur, w.heap[j]? = some (.cells cur t (0, 0)) := by
  rcases h.2 with ⟨rfl, _⟩ | ⟨g, cap, cur, rfl, h0, h1, _⟩
  · cases hj
  · cases hj
    exact ⟨cur, h1⟩
theorem own_two {w : World} {b1 b2 : Nat} {t1 t2 : TypeId} {s1 s2 : Nat} {v1 v2 : Value} {n1 n2 : Nat} {x1 x2 : List Value} {j : Nat} (h1 : w.ownsRow b1 t1 s1 v1 n1 x1) (h2 : w.ownsRow b2 t2 s2 v2 n2 x2) (hT : t1 ≠ t2) (hj : v1.ownBlock = some j) : v2.ownBlock ≠ some j := by
  obtain ⟨cur, hc⟩ := own_blockR h1 hj
  exact own_noR h2 hT hc

end Go.Proofs.YtopeegjmpphjnaaDoor

namespace Go.Proofs.YtopeegjmpphjnaaDoor
open Go.RowKit
open Go.Lib hiding intOf

/-- A part of a line: a text, or none. -/
def partV : Option ByteArray → Value
  | none => .nilIface
  | some x => .iface 9 (.string x)
/-- The parts that are shown. -/
def shownL (ps : List (Option ByteArray)) : List ByteArray := ps.filterMap id
theorem shownL_no {ps : List (Option ByteArray)} {j : Nat} (h : ps[j]? = some none) : shownL (ps.take (j + 1)) = shownL (ps.take j) := by
  unfold shownL
  rw [List.take_add_one, h]
  simp
theorem shownL_yes {ps : List (Option ByteArray)} {j : Nat} {x : ByteArray} (h : ps[j]? = some (some x)) : shownL (ps.take (j + 1)) = shownL (ps.take j) ++ [x] := by
  unfold shownL
  rw [List.take_add_one, h]
  simp
theorem showAssert_yes (x : ByteArray) (w : World) : (Instr.typeAssert (.iface 9 (.string x)) 20 9 true).run Tryd.prog w = .ok (.tuple #[.string x, .bool true]) w := by kernel_rfl
theorem showAssert_no (w : World) : (Instr.typeAssert .nilIface 20 9 true).run Tryd.prog w = .ok (.tuple #[.string ⟨#[]⟩, .bool false]) w := by kernel_rfl
theorem owns_look {w : World} {B : Nat} {T : TypeId} {V : Value} {n : Nat} {cs : List Value} (h : w.ownsRow B T 1 V n cs) (j : Nat) (hj : j < n) (u : Value) (hu : cs[j]? = some u) : ∃ g cp, V = .slice (some ⟨g, 0, none⟩) n cp ∧ w.cell? ⟨g, j, none⟩ = some u := by
  have h' := h
  rcases h.2 with ⟨_, e⟩ | ⟨g, cap, cur, rfl, h1, h2, h3, h4, _⟩
  · omega
  · exact ⟨g, cap, rfl, (owns_cellC h' j u hu).1⟩
theorem owns_textsS {w : World} {base : Nat} {T : TypeId} {V : Value} {n : Nat} {xs : List ByteArray} (h : w.ownsRow base T 1 V n (xs.map Value.string)) (hl : n = xs.length) (hne : xs ≠ []) :
    ∃ g cp, V = .slice (some ⟨g, 0, none⟩) n cp ∧ (∀ (j : Nat) x, xs[j]? = some x → w.cell? ⟨g, 0 + j, none⟩ = some (.string x)) ∧ g < w.heap.size ∧ n ≤ cp := by
  have h' := h
  rcases h.2 with ⟨_, e⟩ | ⟨g, cap, cur, rfl, h1, h2, h3, h4, _⟩
  · exact absurd (by cases xs with | nil => rfl | cons a l => simp at hl; omega) hne
  · refine ⟨g, cap, rfl, fun j x hx => ?_, (Array.getElem?_eq_some_iff.1 h2).1, by omega⟩
    rw [Nat.zero_add]
    exact (owns_cellC h' j (.string x) (by rw [List.getElem?_map, hx]; rfl)).1

set_option maxHeartbeats 4000000 in
set_option maxRecDepth 100000 in
theorem rowText_any (v : Value) (n B : Nat) (ps : List (Option ByteArray)) (w : World) (hl : ps.length = n) (h : w.ownsRow B 20 1 v n (ps.map partV)) (hn : n ≤ 100) (hz : ∀ x ∈ shownL ps, x.size ≤ 1048576) :
    Calls Tryd.prog 21 #[v] w fun e w' => TextIs (joinS (shownL ps)) w e w' := by
  obtain ⟨i0, hi, hz0, hz1, hz2⟩ := info_parts info9
  obtain ⟨oa, cp, rfl⟩ := slice_of_owns h
  have HN : Hid (ps.length = n) := hl
  have HR : Hid (∀ W, Below w.heap.size w W → W.ownsRow B 20 1 (.slice oa n cp) n (ps.map partV)) := fun W hb => owns_below h hb (fun g hg => owns_lt h hg)
  have HZ : Hid (∀ x ∈ shownL ps, x.size ≤ 1048576) := hz
  clear hl h hz
  go_enter Tryd.func21, Tryd.ntmps21
  go_wp2_with fail
  go_loopw [3, 10] (fun T i wr => ∃ (j m : Nat) (o : Option Addr) (p : Nat), j ≤ n ∧ m ≤ j ∧ i = .int .i64 (j : Int) ∧ T = .slice o m p ∧ Hid (Below w.heap.size w wr) ∧ Hid (m = (shownL (ps.take j)).length) ∧ Hid (wr.ownsRow w.heap.size 9 1 (.slice o m p) m ((shownL (ps.take j)).map Value.string))) (fun _ i _ => n - (intOf i).toNat)
  case atStart => exact ⟨0, 0, none, 0, Nat.zero_le _, Nat.zero_le _, rfl, rfl, Below.refl _ _, rfl, World.ownsRow_nil _ _ _ _⟩
  case round =>
    obtain ⟨j, m, o, p, hj, hm, rfl, rfl, HW, HM, HO⟩ := hrel
    by_cases hlt : (j : Int) < (n : Int)
    · have hjl : j < ps.length := by rw [HN.out]; omega
      obtain ⟨y, hy⟩ : ∃ y, ps[j]? = some y := ⟨_, List.getElem?_eq_getElem hjl⟩
      have HY : Hid (ps[j]? = some y) := hy
      obtain ⟨g, cq, hV, hc⟩ := owns_look (HR.out wr HW.out) j (by omega) (partV y) (by rw [List.getElem?_map, hy]; rfl)
      injection hV with e1 e2 e3
      subst e1 e3
      clear hy hjl e2
      cases y with
      | none =>
        have ha := fun w => showAssert_no w
        have hc2 : wr.cell? ⟨g, j, none⟩ = some .nilIface := hc
        clear hc
        go_wp2_with fail
        go_roundw
        case rel => exact ⟨j + 1, m, o, p, by omega, by omega, by go_num, rfl, HW, by show _ = _; rw [shownL_no HY.out]; exact HM.out, by show World.ownsRow _ _ _ _ _ _ _; rw [shownL_no HY.out]; exact HO.out⟩
        case measure => simp [intOf]; omega
      | some x =>
        have ha := fun w => showAssert_yes x w
        have hc2 : wr.cell? ⟨g, j, none⟩ = some (.iface 9 (.string x)) := hc
        have hown := HO.out
        have h63 : m + 1 ≤ maxLen := by unfold maxLen; omega
        have h47 : (m + 1) * 16 ≤ 140737488355328 := by omega
        have HBS : ∀ o, w.heap.size ≤ (wr.alloc o).heap.size := fun o => by have := HW.out.size; simp; omega
        clear hc
        go_wp2_with (at_builtin; refine wpList_append_own _ rfl _ _ 27 rfl w.heap.size 9 i0 (.string ⟨#[]⟩) 1 16 Tryd.underlying27 hi hz0 hz1 hz2 rfl (by decide) _ _ _ rfl (hown.alloc _) ⟨wr.heap.size, 0, none⟩ 1 1 [.string x] rfl rfl (cell_one_new _ _ _) (one_text _) h63 h47 (HBS _) ?_)
        intro v1 w2 hown2 hgrow _
        obtain ⟨o2, p2, rfl⟩ := slice_of_owns hown2
        have HB2 : Hid (Below w.heap.size w w2) := (HW.out.alloc HW.out.size _).grown hgrow (HBS _) (fun g hg => owns_ge hown hg)
        have HO2 : Hid (w2.ownsRow w.heap.size 9 1 (.slice o2 (m + 1) p2) (m + 1) ((shownL (ps.take (j + 1))).map Value.string)) := by
          show World.ownsRow _ _ _ _ _ _ _
          rw [shownL_yes HY.out, List.map_append]
          exact hown2
        have HM2 : Hid (m + 1 = (shownL (ps.take (j + 1))).length) := by
          show _ = _
          rw [shownL_yes HY.out, List.length_append, List.length_singleton, ← HM.out]
        clear hown hown2 hgrow HBS h63 h47 hc2 HM HO
        go_wp2_with fail
        go_roundw
        case rel => exact ⟨j + 1, m + 1, o2, p2, by omega, by omega, by go_num, rfl, HB2, HM2, HO2⟩
        case measure => simp [intOf]; omega
    · obtain rfl : j = n := by omega
      have HT : Hid (shownL (ps.take j) = shownL ps) := by show _ = _; rw [List.take_of_length_le (by rw [HN.out]; exact Nat.le_refl _)]
      rw [HT.out] at HO HM
      obtain ⟨xs, hxs⟩ : ∃ xs, xs = shownL ps := ⟨_, rfl⟩
      rw [← hxs] at HO HM HZ
      have HX : Hid (xs = shownL ps) := hxs
      clear hxs HT
      have HJ : Hid ((Lib.join (xs.map (fun x => x.data.toList)) [32]).length ≤ 140737488355328) := by
        show _ ≤ _
        have h1 := joinS_size xs 1048576 HZ.out
        unfold joinS at h1
        have h2 : (Lib.join (xs.map (fun x => x.data.toList)) [32]).length ≤ (1048576 + 1) * xs.length := by
          have e : (⟨(Lib.join (xs.map (fun x => x.data.toList)) [32]).toArray⟩ : ByteArray).size = (Lib.join (xs.map (fun x => x.data.toList)) [32]).length := by show Array.size _ = _; rw [List.size_toArray]
          omega
        have := HM.out
        omega
      by_cases hem : xs = []
      · subst hem
        have hm0 : m = 0 := HM.out
        subst hm0
        clear hm
        go_wp2_with fail
        refine (Tryd.strings_Join_none _ _ _ _).mono ?_
        rintro e w8 ⟨rfl, rfl⟩
        go_wp2_with fail
        go_ret
        exact TextIs.of (by rw [← HX.out]; rfl) HW.out
      · obtain ⟨g, cq, hV, hcell, hg, hcap⟩ := owns_textsS HO.out HM.out hem
        injection hV with e1 e2 e3
        subst e1 e3
        have hm2 := HM.out
        subst hm2
        go_wp2_with fail
        refine (Tryd.strings_Join g 0 p xs ⟨#[32]⟩ _ hcell hg (by omega) hcap HJ.out).mono ?_
        rintro e w8 ⟨rfl, hb8⟩
        have HL : Hid (Below w.heap.size w w8) := HW.out.trans (hb8.mono HW.out.size)
        clear hb8 hcell
        go_wp2_with fail
        go_ret
        exact TextIs.of (by rw [← HX.out]; rfl) HL.out

/-- The age of an answer, as a part. -/
def ageP (fs : List (ByteArray × ByteArray)) : Option ByteArray := if getB fs ageB = true then some (getV fs ageB) else none
set_option maxHeartbeats 1000000 in
theorem agePart_any (v : Value) (n base : Nat) (fs : List (ByteArray × ByteArray)) (w : World) (hv : FieldsV w base v n fs) (hn : n ≤ 1073741824) (hsz : CopyF fs) :
    Calls Tryd.prog 20 #[v] w fun e w' => e = .returned (partV (ageP fs)) ∧ Below w.heap.size w w' := by
  obtain ⟨g, hg⟩ : ∃ g, g = getB fs ageB := ⟨_, rfl⟩
  have HG : Hid (getB fs ageB = g) := hg.symm
  have HV : Hid (FieldsV w base v n fs) := hv
  have HC : Hid (CopyF fs) := hsz
  clear hg hv hsz
  go_enter Tryd.func20, Tryd.ntmps20
  go_wp2_with fail
  refine (implGet_any v n base fs ageB _ HV.out hn HC.out).mono ?_
  rintro e w1 ⟨rfl, hb⟩
  rw [HG.out]
  cases g with
  | true =>
    go_wp2_with fail
    go_ret
    exact ⟨by unfold ageP; rw [if_pos HG.out]; rfl, hb⟩
  | false =>
    go_wp2_with fail
    go_ret
    exact ⟨by unfold ageP; rw [if_neg (by rw [HG.out]; decide)]; rfl, hb⟩

end Go.Proofs.YtopeegjmpphjnaaDoor

namespace Go.Proofs.YtopeegjmpphjnaaDoor
open Go.RowKit
open Go.Lib hiding intOf

set_option maxHeartbeats 400000 in
theorem kindIn_any (x lo hi : Int) (w : World) :
    Calls Tryd.prog 27 #[.int .i64 x, .int .i64 lo, .int .i64 hi] w fun e w' => e = .returned (.bool (decide (lo ≤ x ∧ x ≤ hi))) ∧ w' = w := by
  by_cases h1 : lo ≤ x
  · by_cases h2 : x ≤ hi
    · go_enter Tryd.func27, Tryd.ntmps27
      go_wp2
      go_ret
      exact ⟨by simp [h1, h2], rfl⟩
    · go_enter Tryd.func27, Tryd.ntmps27
      go_wp2
      go_ret
      exact ⟨by simp [h2], rfl⟩
  · go_enter Tryd.func27, Tryd.ntmps27
    go_wp2
    go_ret
    exact ⟨by simp; omega, rfl⟩
set_option maxHeartbeats 1000000 in
theorem specKindText_any (k : Int) (w : World) :
    Calls Tryd.prog 12 #[.int .i64 k] w fun e w' => TextIs (kindT k) w e w' := by
  by_cases h : 1 ≤ k ∧ k ≤ 4
  · have h2 : k = 1 ∨ k = 2 ∨ k = 3 ∨ k = 4 := by omega
    rcases h2 with rfl | rfl | rfl | rfl
    all_goals
      go_enter Tryd.func12, Tryd.ntmps12
      go_wp2_with fail
      refine (kindIn_any _ _ _ _).mono ?_
      rintro e w1 ⟨rfl, rfl⟩
      go_wp2_with fail
      go_ret
      exact ⟨rfl, (Below.refl _ _).alloc (Nat.le_refl _) _⟩
  · have HE : Hid (kindT k = ⟨#[]⟩) := kindT_out h
    have hd : decide ((1 : Int) ≤ k ∧ k ≤ 4) = false := by simpa using h
    clear h
    go_enter Tryd.func12, Tryd.ntmps12
    go_wp2_with fail
    refine (kindIn_any _ _ _ _).mono ?_
    rintro e w1 ⟨rfl, rfl⟩
    rw [hd]
    go_wp2_with fail
    go_ret
    exact TextIs.of HE.out.symm (Below.refl _ _)
set_option maxHeartbeats 1000000 in
theorem implKindText_any (k : Int) (w : World) :
    Calls Tryd.prog 18 #[.int .i64 k] w fun e w' => TextIs (kindT k) w e w' := by
  by_cases h : 1 ≤ k ∧ k ≤ 4
  · have h2 : k = 1 ∨ k = 2 ∨ k = 3 ∨ k = 4 := by omega
    rcases h2 with rfl | rfl | rfl | rfl
    all_goals
      go_enter Tryd.func18, Tryd.ntmps18
      go_wp2_with fail
      go_ret
      exact ⟨rfl, Below.refl _ _⟩
  · have HE : Hid (kindT k = ⟨#[]⟩) := kindT_out h
    have h1 : ¬ k = 1 := by omega
    have h2 : ¬ k = 2 := by omega
    have h3 : ¬ k = 3 := by omega
    have h4 : ¬ k = 4 := by omega
    clear h
    go_enter Tryd.func18, Tryd.ntmps18
    go_wp2_with fail
    go_ret
    exact TextIs.of HE.out.symm (Below.refl _ _)

end Go.Proofs.YtopeegjmpphjnaaDoor

namespace Go.Proofs.YtopeegjmpphjnaaDoor
open Go.RowKit
open Go.Lib hiding intOf

/-- A row in memory: its elements' type and how many cells each has, the slice, how many elements, their cells. -/
structure Rw where
  T : TypeId
  z : Nat
  v : Value
  n : Nat
  c : List Value
def Rw.own (r : Rw) (w : World) (base : Nat) : Prop := w.ownsRow base r.T r.z r.v r.n r.c
def Rw.ne (a b : Rw) : Prop := ∀ g, a.v.ownBlock = some g → b.v.ownBlock ≠ some g
/-- Rows of one's own, no two in one block. -/
structure RowsO (w : World) (base : Nat) (rs : List Rw) : Prop where
  own : ∀ r ∈ rs, r.own w base
  apart : rs.Pairwise Rw.ne
theorem RowsO.one {w : World} {base : Nat} {r : Rw} (h : r.own w base) : RowsO w base [r] := ⟨fun x hx => by rw [List.mem_singleton.1 hx]; exact h, List.pairwise_singleton _ _⟩
theorem RowsO.ge {w : World} {base : Nat} {rs : List Rw} (h : RowsO w base rs) {r : Rw} (hr : r ∈ rs) {g : Nat} (hg : r.v.ownBlock = some g) : base ≤ g := owns_ge (h.own r hr) hg
theorem RowsO.lt {w : World} {base : Nat} {rs : List Rw} (h : RowsO w base rs) {r : Rw} (hr : r ∈ rs) {g : Nat} (hg : r.v.ownBlock = some g) : g < w.heap.size := owns_lt (h.own r hr) hg
theorem RowsO.same {w w' : World} {base : Nat} {rs : List Rw} (h : RowsO w base rs) (hs : ∀ r ∈ rs, ∀ g, r.v.ownBlock = some g → w'.heap[g]? = w.heap[g]?) : RowsO w' base rs :=
  ⟨fun r hr => owns_same (h.own r hr) (hs r hr), h.apart⟩
theorem RowsO.below {w w' : World} {base : Nat} {rs : List Rw} (h : RowsO w base rs) (hb : Below w.heap.size w w') : RowsO w' base rs := h.same (fun _ hr g hg => hb.block g (h.lt hr hg))
theorem RowsO.wide {w : World} {B base : Nat} {rs : List Rw} (h : RowsO w base rs) (hB : B ≤ base) : RowsO w B rs := ⟨fun r hr => owns_wide (h.own r hr) hB, h.apart⟩
theorem RowsO.sub {w : World} {base : Nat} {rs rs' : List Rw} (h : RowsO w base rs) (hs : List.Sublist rs' rs) : RowsO w base rs' := ⟨fun r hr => h.own r (hs.subset hr), h.apart.sublist hs⟩
/-- Rows, and more rows that were made since. -/
theorem RowsO.more {w w' : World} {base B : Nat} {rs rs' : List Rw} (h : RowsO w base rs) (hb : Below w.heap.size w w') (h' : RowsO w' B rs') (hB : w.heap.size ≤ B) (hB2 : base ≤ B) : RowsO w' base (rs ++ rs') := by
  have h2 := h.below hb
  refine ⟨fun r hr => ?_, List.pairwise_append.2 ⟨h2.apart, h'.apart, fun a ha b hb g hg1 hg2 => ?_⟩⟩
  · rcases List.mem_append.1 hr with hr | hr
    · exact h2.own r hr
    · exact owns_wide (h'.own r hr) hB2
  · have e1 := h.lt ha hg1
    have e2 := h'.ge hb hg2
    omega
/-- Cells set one behind the other. -/
def setW (w : World) (g : Nat) : Nat → List Value → World
  | _, [] => w
  | o, v :: r => setW (w.setCell ⟨g, o, none⟩ v) g (o + 1) r
def setA (cur : Array Value) : Nat → List Value → Array Value
  | _, [] => cur
  | o, v :: r => setA (cur.setIfInBounds o v) (o + 1) r
theorem setA_size : ∀ (l : List Value) (cur : Array Value) (o : Nat), (setA cur o l).size = cur.size
  | [], _, _ => rfl
  | v :: r, cur, o => by rw [setA, setA_size r]; simp
theorem setA_out : ∀ (l : List Value) (cur : Array Value) (o m : Nat), (m < o ∨ o + l.length ≤ m) → (setA cur o l)[m]? = cur[m]?
  | [], _, _, _, _ => rfl
  | v :: r, cur, o, m, h => by
    rw [List.length_cons] at h
    rw [setA, setA_out r _ (o + 1) m (by omega), Array.getElem?_setIfInBounds_ne (by omega)]
theorem setA_in : ∀ (l : List Value) (cur : Array Value) (o j : Nat), j < l.length → o + l.length ≤ cur.size → (setA cur o l)[o + j]? = l[j]?
  | [], _, _, j, h, _ => absurd h (by simp)
  | v :: r, cur, o, 0, _, hs => by
    rw [List.length_cons] at hs
    rw [setA, setA_out r _ (o + 1) (o + 0) (by omega), Nat.add_zero, Array.getElem?_setIfInBounds_self_of_lt (by omega)]
    rfl
  | v :: r, cur, o, j + 1, h, hs => by
    rw [List.length_cons] at h hs
    rw [setA, show o + (j + 1) = (o + 1) + j by omega, setA_in r _ (o + 1) j (by omega) (by simp; omega)]
    rfl
theorem setW_heap (g : Nat) (T : TypeId) : ∀ (l : List Value) (w : World) (o : Nat) (cur : Array Value), w.heap[g]? = some (.cells cur T (0, 0)) → (setW w g o l).heap[g]? = some (.cells (setA cur o l) T (0, 0))
  | [], _, _, _, h => h
  | v :: r, w, o, cur, h => setW_heap g T r _ (o + 1) _ (heap_set w g o cur T (0, 0) v h)
theorem setW_other (g g' : Nat) (hne : g' ≠ g) : ∀ (l : List Value) (w : World) (o : Nat), (setW w g o l).heap[g']? = w.heap[g']?
  | [], _, _ => rfl
  | v :: r, w, o => by rw [setW, setW_other g g' hne r, heap_setCell_other _ _ _ _ hne]
theorem setW_below {base g : Nat} (hg : base ≤ g) : ∀ (l : List Value) (w w' : World) (o : Nat), Below base w w' → Below base w (setW w' g o l)
  | [], _, _, _, h => h
  | v :: r, w, _, o, h => setW_below hg r w _ (o + 1) (h.setCell (p := ⟨g, o, none⟩) hg v)
theorem setW_size (g : Nat) : ∀ (l : List Value) (w : World) (o : Nat), (setW w g o l).heap.size = w.heap.size
  | [], _, _ => rfl
  | v :: r, w, o => by rw [setW, setW_size g r]; simp
end Go.Proofs.YtopeegjmpphjnaaDoor

namespace Go.Proofs.YtopeegjmpphjnaaDoor
open Go.RowKit
open Go.Lib hiding intOf

/-- A list of texts among the arguments. -/
structure ArgT (w : World) (B : Nat) (a : Option Addr) (n : Nat) (xs : List ByteArray) : Prop where
  len : xs.length = n
  get : ∀ i, i < n → ∃ b off, a = some ⟨b, off, none⟩ ∧ b < B ∧ w.cell? ⟨b, off + i, none⟩ = some (.string (textAt xs i))
theorem ArgT.below {w w' : World} {B : Nat} {a : Option Addr} {n : Nat} {xs : List ByteArray} (h : ArgT w B a n xs) (hb : Below B w w') : ArgT w' B a n xs :=
  ⟨h.len, fun i hi => by
    obtain ⟨b, off, h1, h2, h3⟩ := h.get i hi
    exact ⟨b, off, h1, h2, by rw [hb.cell (p := ⟨b, off + i, none⟩) h2]; exact h3⟩⟩

theorem openTexts {H : Type} {enc : TypeId × Value → H} {W : World} {fuel : Nat} {a : Option Addr} {n cap : Nat} {x : DataW H × List MemPlace} (h : DataW.trod enc Tryd.prog W 0 (fun _ => true) true fuel 27 [.slice a n cap] = some x) :
    ∃ xs, ArgT W W.heap.size a n xs ∧ n ≤ maxLen ∧ ∀ i, i < n → (textAt xs i).size ≤ maxLen := by
  rcases Go.ChangeShapes.open_strings Tryd.underlying27 Tryd.underlying9 (by kernel_rfl) h with ⟨hcs, _⟩ | ⟨ad, len, c, ss, hcs, _, hl, hm, hlen, _, hcell, hsz⟩
  · simp at hcs
    obtain ⟨rfl, rfl, rfl⟩ := hcs
    exact ⟨[], ⟨rfl, fun i hi => absurd hi (by omega)⟩, Nat.zero_le _, fun i hi => absurd hi (by omega)⟩
  · simp at hcs
    obtain ⟨rfl, rfl, rfl⟩ := hcs
    have hlen2 : ss.length = cap := by simpa using hlen
    have htk : ∀ i, i < n → textAt (ss.take n) i = ss.getD i ByteArray.empty := fun i hi => by
      unfold textAt
      rw [List.getD_eq_getElem?_getD, List.getD_eq_getElem?_getD, List.getElem?_take_of_lt hi]
      rfl
    refine ⟨ss.take n, ⟨by rw [List.length_take]; omega, fun i hi => ?_⟩, by omega, fun i hi => ?_⟩
    · obtain ⟨b, off, spot⟩ := ad
      have hspot : spot = none := by
        have := World.cell?_spot (hcell 0 (by omega))
        simpa [Addr.add] using this
      subst hspot
      have hc := hcell i (by omega)
      rw [addr_add] at hc
      exact ⟨b, off, rfl, World.block_lt_of_cell? _ _ hc, by rw [htk i hi]; exact hc⟩
    · rw [htk i hi]
      refine hsz _ ?_
      rw [List.getD_eq_getElem?_getD, List.getElem?_eq_getElem (by omega)]
      exact List.getElem_mem _

/-- The first k texts of a row of n cells are told. -/
def PartT (w : World) (g n k : Nat) (xs : List ByteArray) : Prop :=
  ∃ cur, w.heap[g]? = some (.cells cur 9 (0, 0)) ∧ cur.size = n ∧ ∀ i, i < k → cur[i]? = some (.string (textAt xs i))
theorem PartT.put {w : World} {g n k : Nat} {xs : List ByteArray} (h : PartT w g n k xs) (hk : k < n) : PartT (w.setCell ⟨g, k, none⟩ (.string (textAt xs k))) g n (k + 1) xs := by
  obtain ⟨cur, h1, h2, h3⟩ := h
  refine ⟨_, heap_set w g k _ _ _ _ h1, by simpa using h2, fun i hi => ?_⟩
  by_cases e : i = k
  · subst e
    exact Array.getElem?_setIfInBounds_self_of_lt (by omega)
  · rw [Array.getElem?_setIfInBounds_ne (fun x => e x.symm)]
    exact h3 i (by omega)
theorem PartT.row {w : World} {g n base : Nat} {xs : List ByteArray} (h : PartT w g n n xs) (hl : xs.length = n) (hb : base ≤ g) (hn : n ≤ maxLen) : TextRow base w g n n xs := by
  obtain ⟨cur, h1, h2, h3⟩ := h
  exact ⟨hl, hb, (Array.getElem?_eq_some_iff.1 h1).1, Nat.le_refl _, hn, cur, h1, h2, h3⟩

set_option maxHeartbeats 1000000 in
theorem toStringS_any (B : Nat) (a : Option Addr) (n cap : Nat) (xs : List ByteArray) (w : World) (harg : ArgT w B a n xs) (hB : B ≤ w.heap.size) (hn : n ≤ 1048576) :
    Calls Tryd.prog 30 #[.slice a n cap] w fun e w' => ∃ v, e = .returned v ∧ w'.ownsRow w.heap.size 9 1 v n (xs.map Value.string) ∧ Below w.heap.size w w' := by
  obtain ⟨i0, hi, hz0, hz1, hz2⟩ := info_parts info9
  obtain ⟨M, hM⟩ : ∃ M, M = madeCells (Value.string ⟨#[]⟩).cells (((n : Nat) : Int).toNat * i0.size) := ⟨_, rfl⟩
  have hmk : ∀ W : World, (Instr.makeSlice 27 (.int .i64 (n : Int)) (.int .i64 (n : Int))).run Tryd.prog W = .ok (.slice (some ⟨W.heap.size, 0, none⟩) n n) (W.alloc (.cells M 9)) := fun W => by
    have h := run_make (P := Tryd.prog) W 27 9 i0 (.string ⟨#[]⟩) Tryd.underlying27 hi hz0 .i64 .i64 (n : Int) (n : Int) (by omega) (by omega) (by rw [hz2]; omega) (by omega)
    rw [← hM] at h
    simpa using h
  have hMs : M.size = n := by rw [hM, size_madeCells, hz1]; simp
  have HARG : Hid (∀ W, Below B w W → ArgT W B a n xs) := fun W h => harg.below h
  have HLEN : Hid (xs.length = n) := harg.len
  clear hM harg
  have HP : Hid (PartT (w.alloc (.cells M 9)) w.heap.size n 0 xs) := ⟨M, heap_alloc_new w _, hMs, fun i h => absurd h (by omega)⟩
  go_enter Tryd.func30, Tryd.ntmps30
  go_wp2
  go_loopw [4] (fun i wr => ∃ k : Nat, k ≤ n ∧ i = .int .i64 (k : Int) ∧ Hid (PartT wr w.heap.size n k xs) ∧ Below w.heap.size w wr) (fun i _ => n - (intOf i).toNat)
  case atStart => exact ⟨0, Nat.zero_le _, rfl, HP, (Below.refl _ _).alloc (Nat.le_refl _) _⟩
  case round =>
    obtain ⟨k, hk, rfl, hpr, hbw⟩ := hrel
    by_cases hlt : k < n
    · have hlt2 : (k : Int) < (n : Int) := by omega
      obtain ⟨b, off, rfl, hbB, hc1⟩ := (HARG.out wr (hbw.mono hB)).get k hlt
      have HPUT : Hid (PartT (wr.setCell ⟨w.heap.size, k, none⟩ (.string (textAt xs k))) w.heap.size n (k + 1) xs) := hpr.out.put hlt
      obtain ⟨u0, hu0, f0⟩ : ∃ u, wr.cell? ⟨w.heap.size, k, none⟩ = some u ∧ wr.frozen? ⟨w.heap.size, k, none⟩ = false := by
        obtain ⟨cur, h1, h2, _⟩ := hpr.out
        refine ⟨cur[k]'(by omega), ?_, by simp [World.frozen?, h1]⟩
        simp only [World.cell?, h1]
        simp [show k < cur.size by omega]
      generalize textAt xs k = z at hc1 HPUT
      go_wp2
      go_roundw
      case rel => exact ⟨k + 1, by omega, by go_num, HPUT, hbw.setCell (Nat.le_refl _) _⟩
      case measure => simp [intOf]; omega
    · obtain rfl : k = n := by omega
      go_wp2
      go_ret
      exact ⟨_, rfl, (hpr.out.row HLEN.out (Nat.le_refl _) (by unfold maxLen; omega)).owns, hbw⟩

end Go.Proofs.YtopeegjmpphjnaaDoor

namespace Go.Proofs.YtopeegjmpphjnaaDoor
open Go.RowKit
open Go.Lib hiding intOf

set_option maxHeartbeats 2000000 in
set_option maxRecDepth 100000 in
theorem toReq_any (m : Int) (p : ByteArray) (a : Option Addr) (n cap : Nat) (b : ByteArray) (fs : List (ByteArray × ByteArray)) (B : Nat) (w : World) (harg : ArgF w B a n fs) (hB : B ≤ w.heap.size) (hn : n ≤ 1048576) :
    Calls Tryd.prog 15 #[.agg #[.int .i64 m, .string p, .slice a n cap, .string b]] w fun e w' => ∃ v, e = .returned (.agg #[.int .i64 m, .string p, v, .string b]) ∧ w'.ownsRow w.heap.size 68 2 v n (flatF fs) ∧ Below w.heap.size w w' := by
  obtain ⟨w0, hw0⟩ : ∃ W, W = (((w.alloc (.cells #[.int .i64 m, .string p, .slice a n cap, .string b] 24)).alloc (.cells #[.int .i64 0, .string ⟨#[]⟩, .slice none 0 0, .string ⟨#[]⟩] 36)).alloc (.cells #[.int .i64 m, .string p, .slice none 0 0, .string ⟨#[]⟩] 36)) := ⟨_, rfl⟩
  have hs0 : w0.heap.size = w.heap.size + 1 + 1 + 1 := by rw [hw0]; simp
  have hb0 : Below w.heap.size w w0 := by rw [hw0]; exact (((Below.refl _ w).alloc (Nat.le_refl _) _).alloc (by simp) _).alloc (by simp; omega) _
  have x1 : w0.heap[w.heap.size]? = some (.cells #[.int .i64 m, .string p, .slice a n cap, .string b] 24) := by
    rw [hw0, heap_alloc_old _ _ (by simp; omega), heap_alloc_old _ _ (by simp)]; exact heap_alloc_new w _
  have x2 : w0.heap[w.heap.size + 1]? = some (.cells #[.int .i64 0, .string ⟨#[]⟩, .slice none 0 0, .string ⟨#[]⟩] 36) := by
    rw [hw0, heap_alloc_old _ _ (by simp)]
    have := heap_alloc_new (w.alloc (.cells #[.int .i64 m, .string p, .slice a n cap, .string b] 24)) (.cells #[.int .i64 0, .string ⟨#[]⟩, .slice none 0 0, .string ⟨#[]⟩] 36)
    simpa using this
  have x3 : w0.heap[w.heap.size + 1 + 1]? = some (.cells #[.int .i64 m, .string p, .slice none 0 0, .string ⟨#[]⟩] 36) := by
    rw [hw0]
    have := heap_alloc_new ((w.alloc (.cells #[.int .i64 m, .string p, .slice a n cap, .string b] 24)).alloc (.cells #[.int .i64 0, .string ⟨#[]⟩, .slice none 0 0, .string ⟨#[]⟩] 36)) (.cells #[.int .i64 m, .string p, .slice none 0 0, .string ⟨#[]⟩] 36)
    simpa using this
  go_enter Tryd.func15, Tryd.ntmps15
  go_wp2_with fail
  rw [← hw0]
  refine (toFieldS_any B a n cap fs _ (harg.below (hb0.mono hB)) (by omega) hn).mono ?_
  rintro e w1 ⟨v, rfl, hown, bb1⟩
  obtain ⟨fo, fc, rfl⟩ := slice_of_owns hown
  rw [← bb1.block _ (by omega)] at x1 x2 x3
  obtain ⟨o, ho⟩ : ∃ o, o = w.heap.size + 1 + 1 := ⟨_, rfl⟩
  obtain ⟨q, hq⟩ : ∃ q, q = w.heap.size + 1 := ⟨_, rfl⟩
  obtain ⟨c, hc⟩ : ∃ c, c = w.heap.size := ⟨_, rfl⟩
  rw [← ho] at x3
  rw [← hq] at x2
  rw [← hc] at x1
  have hqo : q ≠ o := by omega
  have hco : c ≠ o := by omega
  have hoq : o ≠ q := by omega
  have hoc : o ≠ c := by omega
  have hqw : w.heap.size ≤ q := by omega
  have how : w.heap.size ≤ o := by omega
  obtain ⟨⟨a0, a1, a2, a3⟩, _⟩ := four_facts x1
  obtain ⟨⟨b0, b1, b2, b3⟩, e0, e1, e2, e3⟩ := four_facts x2
  obtain ⟨⟨d0, d1, d2, d3⟩, f0, f1, f2, f3⟩ := four_facts x3
  have hbw1 : Below w.heap.size w w1 := hb0.trans (bb1.mono hb0.size)
  have HFIN : Hid (∀ W : World, W = (w1.setCell ⟨o, 2, none⟩ (.slice fo n fc)).setCell ⟨o, 3, none⟩ (.string b) → ((fourSet W q (.int .i64 m) (.string p) (.slice fo n fc) (.string b)).heap[q]? = some (.cells #[.int .i64 m, .string p, .slice fo n fc, .string b] 36)) ∧ (fourSet W q (.int .i64 m) (.string p) (.slice fo n fc) (.string b)).ownsRow w.heap.size 68 2 (.slice fo n fc) n (flatF fs) ∧ Below w.heap.size w (fourSet W q (.int .i64 m) (.string p) (.slice fo n fc) (.string b))) := fun W hW => by
    have hx2 : W.heap[q]? = some (.cells #[.int .i64 0, .string ⟨#[]⟩, .slice none 0 0, .string ⟨#[]⟩] 36) := by rw [hW, heap_setCell_other _ _ q _ (fun e => hqo e), heap_setCell_other _ _ q _ (fun e => hqo e)]; exact x2
    have hbW : Below w.heap.size w W := by rw [hW]; exact (hbw1.setCell (p := ⟨o, 2, none⟩) how _).setCell (p := ⟨o, 3, none⟩) how _
    refine ⟨four_set hx2 _ _ _ _, ?_, below_four hbW hqw⟩
    have hown1 : w1.ownsRow w.heap.size 68 2 (.slice fo n fc) n (flatF fs) := by
      refine ⟨hown.1, ?_⟩
      rcases hown.2 with h6 | ⟨g6, cap6, cur6, h7, h8, h9⟩
      · exact .inl h6
      · exact .inr ⟨g6, cap6, cur6, h7, by omega, h9⟩
    refine ⟨hown1.1, ?_⟩
    rcases hown.2 with h6 | ⟨g6, cap6, cur6, h7, h8, h9, h10⟩
    · exact .inl h6
    · refine .inr ⟨g6, cap6, cur6, h7, by omega, ?_, h10⟩
      have n1 : g6 ≠ q := by omega
      have n2 : g6 ≠ o := by omega
      unfold fourSet
      rw [heap_setCell_other _ _ g6 _ (fun e => n1 e), heap_setCell_other _ _ g6 _ (fun e => n1 e), heap_setCell_other _ _ g6 _ (fun e => n1 e), heap_setCell_other _ _ g6 _ (fun e => n1 e), hW, heap_setCell_other _ _ g6 _ (fun e => n2 e), heap_setCell_other _ _ g6 _ (fun e => n2 e)]
      exact h9
  obtain ⟨hh, hof, hbf⟩ := HFIN.out _ rfl
  obtain ⟨⟨k0, k1, k2, k3⟩, _⟩ := four_facts hh
  have HOF : Hid _ := hof
  have HBF : Hid _ := hbf
  unfold fourSet at k0 k1 k2 k3
  rw [← ho, ← hq, ← hc]
  clear x1 x2 x3 ho hq hc hw0 hs0 hb0 bb1 hown hbw1 hh hof hbf harg hB HFIN a0 a1 a2
  go_wp2_with fail
  exact bodyPost_ret (v := .agg #[.int .i64 m, .string p, .slice fo n fc, .string b]) (by simp [results, Tryd.results15, go_sem, k0, k1, k2, k3]) rfl ⟨_, rfl, HOF.out, HBF.out⟩

theorem three_facts {W : World} {R : Nat} {a b c : Value} {t : TypeId} (h : W.heap[R]? = some (.cells #[a, b, c] t)) :
    (W.cell? ⟨R, 0, none⟩ = some a ∧ W.cell? ⟨R, 1, none⟩ = some b ∧ W.cell? ⟨R, 2, none⟩ = some c) ∧ W.frozen? ⟨R, 0, none⟩ = false ∧ W.frozen? ⟨R, 1, none⟩ = false ∧ W.frozen? ⟨R, 2, none⟩ = false := by
  refine ⟨⟨?_, ?_, ?_⟩, ?_, ?_, ?_⟩ <;> simp [World.cell?, World.frozen?, h]
/-- The three cells of an answer's memory, written. -/
def threeSet (w : World) (r : Nat) (a b c : Value) : World := ((w.setCell ⟨r, 0, none⟩ a).setCell ⟨r, 1, none⟩ b).setCell ⟨r, 2, none⟩ c
theorem three_set {W : World} {R : Nat} {a b c : Value} {t : TypeId} (h : W.heap[R]? = some (.cells #[a, b, c] t)) (a' b' c' : Value) : (threeSet W R a' b' c').heap[R]? = some (.cells #[a', b', c'] t) := by
  have := heap_set _ R 2 _ _ _ c' (heap_set _ R 1 _ _ _ b' (heap_set W R 0 _ _ _ a' h))
  simpa [threeSet] using this
theorem below_three {w W : World} {B R : Nat} {a b c : Value} (h : Below B w W) (hR : B ≤ R) : Below B w (threeSet W R a b c) :=
  ((h.setCell (p := ⟨R, 0, none⟩) hR _).setCell (p := ⟨R, 1, none⟩) hR _).setCell (p := ⟨R, 2, none⟩) hR _

set_option maxHeartbeats 2000000 in
set_option maxRecDepth 100000 in
theorem toResp_any (m : Int) (a : Option Addr) (n cap : Nat) (b : ByteArray) (fs : List (ByteArray × ByteArray)) (B : Nat) (w : World) (harg : ArgF w B a n fs) (hB : B ≤ w.heap.size) (hn : n ≤ 1048576) :
    Calls Tryd.prog 16 #[.agg #[.int .i64 m, .slice a n cap, .string b]] w fun e w' => ∃ v, e = .returned (.agg #[.int .i64 m, v, .string b]) ∧ w'.ownsRow w.heap.size 68 2 v n (flatF fs) ∧ Below w.heap.size w w' := by
  obtain ⟨w0, hw0⟩ : ∃ W, W = (((w.alloc (.cells #[.int .i64 m, .slice a n cap, .string b] 26)).alloc (.cells #[.int .i64 0, .slice none 0 0, .string ⟨#[]⟩] 38)).alloc (.cells #[.int .i64 m, .slice none 0 0, .string ⟨#[]⟩] 38)) := ⟨_, rfl⟩
  have hs0 : w0.heap.size = w.heap.size + 1 + 1 + 1 := by rw [hw0]; simp
  have hb0 : Below w.heap.size w w0 := by rw [hw0]; exact (((Below.refl _ w).alloc (Nat.le_refl _) _).alloc (by simp) _).alloc (by simp; omega) _
  have x1 : w0.heap[w.heap.size]? = some (.cells #[.int .i64 m, .slice a n cap, .string b] 26) := by
    rw [hw0, heap_alloc_old _ _ (by simp; omega), heap_alloc_old _ _ (by simp)]; exact heap_alloc_new w _
  have x2 : w0.heap[w.heap.size + 1]? = some (.cells #[.int .i64 0, .slice none 0 0, .string ⟨#[]⟩] 38) := by
    rw [hw0, heap_alloc_old _ _ (by simp)]
    have := heap_alloc_new (w.alloc (.cells #[.int .i64 m, .slice a n cap, .string b] 26)) (.cells #[.int .i64 0, .slice none 0 0, .string ⟨#[]⟩] 38)
    simpa using this
  have x3 : w0.heap[w.heap.size + 1 + 1]? = some (.cells #[.int .i64 m, .slice none 0 0, .string ⟨#[]⟩] 38) := by
    rw [hw0]
    have := heap_alloc_new ((w.alloc (.cells #[.int .i64 m, .slice a n cap, .string b] 26)).alloc (.cells #[.int .i64 0, .slice none 0 0, .string ⟨#[]⟩] 38)) (.cells #[.int .i64 m, .slice none 0 0, .string ⟨#[]⟩] 38)
    simpa using this
  go_enter Tryd.func16, Tryd.ntmps16
  go_wp2_with fail
  rw [← hw0]
  refine (toFieldS_any B a n cap fs _ (harg.below (hb0.mono hB)) (by omega) hn).mono ?_
  rintro e w1 ⟨v, rfl, hown, bb1⟩
  obtain ⟨fo, fc, rfl⟩ := slice_of_owns hown
  rw [← bb1.block _ (by omega)] at x1 x2 x3
  obtain ⟨o, ho⟩ : ∃ o, o = w.heap.size + 1 + 1 := ⟨_, rfl⟩
  obtain ⟨q, hq⟩ : ∃ q, q = w.heap.size + 1 := ⟨_, rfl⟩
  obtain ⟨c, hc⟩ : ∃ c, c = w.heap.size := ⟨_, rfl⟩
  rw [← ho] at x3
  rw [← hq] at x2
  rw [← hc] at x1
  have hqo : q ≠ o := by omega
  have hco : c ≠ o := by omega
  have hoq : o ≠ q := by omega
  have hoc : o ≠ c := by omega
  have hqw : w.heap.size ≤ q := by omega
  have how : w.heap.size ≤ o := by omega
  obtain ⟨⟨a0, a1, a2⟩, _⟩ := three_facts x1
  obtain ⟨⟨b0, b1, b2⟩, e0, e1, e2⟩ := three_facts x2
  obtain ⟨⟨d0, d1, d2⟩, f0, f1, f2⟩ := three_facts x3
  have hbw1 : Below w.heap.size w w1 := hb0.trans (bb1.mono hb0.size)
  have HFIN : Hid (∀ W : World, W = (w1.setCell ⟨o, 1, none⟩ (.slice fo n fc)).setCell ⟨o, 2, none⟩ (.string b) → ((threeSet W q (.int .i64 m) (.slice fo n fc) (.string b)).heap[q]? = some (.cells #[.int .i64 m, .slice fo n fc, .string b] 38)) ∧ (threeSet W q (.int .i64 m) (.slice fo n fc) (.string b)).ownsRow w.heap.size 68 2 (.slice fo n fc) n (flatF fs) ∧ Below w.heap.size w (threeSet W q (.int .i64 m) (.slice fo n fc) (.string b))) := fun W hW => by
    have hx2 : W.heap[q]? = some (.cells #[.int .i64 0, .slice none 0 0, .string ⟨#[]⟩] 38) := by rw [hW, heap_setCell_other _ _ q _ (fun e => hqo e), heap_setCell_other _ _ q _ (fun e => hqo e)]; exact x2
    have hbW : Below w.heap.size w W := by rw [hW]; exact (hbw1.setCell (p := ⟨o, 1, none⟩) how _).setCell (p := ⟨o, 2, none⟩) how _
    refine ⟨three_set hx2 _ _ _, ?_, below_three hbW hqw⟩
    have hown1 : w1.ownsRow w.heap.size 68 2 (.slice fo n fc) n (flatF fs) := by
      refine ⟨hown.1, ?_⟩
      rcases hown.2 with h6 | ⟨g6, cap6, cur6, h7, h8, h9⟩
      · exact .inl h6
      · exact .inr ⟨g6, cap6, cur6, h7, by omega, h9⟩
    refine ⟨hown1.1, ?_⟩
    rcases hown.2 with h6 | ⟨g6, cap6, cur6, h7, h8, h9, h10⟩
    · exact .inl h6
    · refine .inr ⟨g6, cap6, cur6, h7, by omega, ?_, h10⟩
      have n1 : g6 ≠ q := by omega
      have n2 : g6 ≠ o := by omega
      unfold threeSet
      rw [heap_setCell_other _ _ g6 _ (fun e => n1 e), heap_setCell_other _ _ g6 _ (fun e => n1 e), heap_setCell_other _ _ g6 _ (fun e => n1 e), hW, heap_setCell_other _ _ g6 _ (fun e => n2 e), heap_setCell_other _ _ g6 _ (fun e => n2 e)]
      exact h9
  obtain ⟨hh, hof, hbf⟩ := HFIN.out _ rfl
  obtain ⟨⟨k0, k1, k2⟩, _⟩ := three_facts hh
  have HOF : Hid _ := hof
  have HBF : Hid _ := hbf
  unfold threeSet at k0 k1 k2
  rw [← ho, ← hq, ← hc]
  clear x1 x2 x3 ho hq hc hw0 hs0 hb0 bb1 hown hbw1 hh hof hbf harg hB HFIN a0 a1
  go_wp2_with fail
  exact bodyPost_ret (v := .agg #[.int .i64 m, .slice fo n fc, .string b]) (by simp [results, Tryd.results16, go_sem, k0, k1, k2]) rfl ⟨_, rfl, HOF.out, HBF.out⟩

set_option maxHeartbeats 2000000 in
set_option maxRecDepth 100000 in
theorem eqReq_any (m : Int) (p : ByteArray) (v1 v2 : Value) (b : ByteArray) (n b1 b2 : Nat) (fs : List (ByteArray × ByteArray)) (w : World) (h1 : FieldsV w b1 v1 n fs) (h2 : FieldsV w b2 v2 n fs) (hn : n ≤ 2000000) :
    Calls Tryd.prog 22 #[.agg #[.int .i64 m, .string p, v1, .string b], .agg #[.int .i64 m, .string p, v2, .string b]] w fun e w' => e = .returned (.bool true) ∧ Below w.heap.size w w' := by
  obtain ⟨oa, ca, rfl, _⟩ := h1.slice
  obtain ⟨ob, cb, rfl, _⟩ := h2.slice
  have tp : (p.toList == p.toList) = true := by simp
  have tb : (b.toList == b.toList) = true := by simp
  have tm : (m != m) = false := by simp
  obtain ⟨w0, hw0⟩ : ∃ W, W = ((w.alloc (.cells #[.int .i64 m, .string p, .slice oa n ca, .string b] 36)).alloc (.cells #[.int .i64 m, .string p, .slice ob n cb, .string b] 36)) := ⟨_, rfl⟩
  have hs0 : w0.heap.size = w.heap.size + 1 + 1 := by rw [hw0]; simp
  have hb0 : Below w.heap.size w w0 := by rw [hw0]; exact ((Below.refl _ w).alloc (Nat.le_refl _) _).alloc (by simp) _
  have x1 : w0.heap[w.heap.size]? = some (.cells #[.int .i64 m, .string p, .slice oa n ca, .string b] 36) := by
    rw [hw0, heap_alloc_old _ _ (by simp)]; exact heap_alloc_new w _
  have x2 : w0.heap[w.heap.size + 1]? = some (.cells #[.int .i64 m, .string p, .slice ob n cb, .string b] 36) := by
    rw [hw0]
    have := heap_alloc_new (w.alloc (.cells #[.int .i64 m, .string p, .slice oa n ca, .string b] 36)) (.cells #[.int .i64 m, .string p, .slice ob n cb, .string b] 36)
    simpa using this
  go_enter Tryd.func22, Tryd.ntmps22
  go_wp2_with fail
  rw [← hw0]
  refine (eqFieldS_any _ _ n b1 b2 fs _ (h1.below hb0) (h2.below hb0) hn).mono ?_
  rintro e w1 ⟨rfl, bb1⟩
  rw [← bb1.block _ (by omega)] at x1 x2
  obtain ⟨q, hq⟩ : ∃ q, q = w.heap.size + 1 := ⟨_, rfl⟩
  obtain ⟨c, hc⟩ : ∃ c, c = w.heap.size := ⟨_, rfl⟩
  rw [← hq] at x2
  rw [← hc] at x1
  have y1 : w1.cell? ⟨c, 3, none⟩ = some (.string b) := by simp [World.cell?, x1]
  have y2 : w1.cell? ⟨q, 3, none⟩ = some (.string b) := by simp [World.cell?, x2]
  have hbw1 : Below w.heap.size w w1 := hb0.trans (bb1.mono hb0.size)
  rw [← hq, ← hc]
  clear x1 x2 hq hc hw0 hs0 hb0 bb1 h1 h2
  go_wp2
  go_ret
  exact ⟨rfl, hbw1⟩

set_option maxHeartbeats 2000000 in
set_option maxRecDepth 100000 in
theorem eqResp_any (m : Int) (v1 v2 : Value) (b : ByteArray) (n b1 b2 : Nat) (fs : List (ByteArray × ByteArray)) (w : World) (h1 : FieldsV w b1 v1 n fs) (h2 : FieldsV w b2 v2 n fs) (hn : n ≤ 2000000) :
    Calls Tryd.prog 23 #[.agg #[.int .i64 m, v1, .string b], .agg #[.int .i64 m, v2, .string b]] w fun e w' => e = .returned (.bool true) ∧ Below w.heap.size w w' := by
  obtain ⟨oa, ca, rfl, _⟩ := h1.slice
  obtain ⟨ob, cb, rfl, _⟩ := h2.slice
  have tb : (b.toList == b.toList) = true := by simp
  have tm : (m != m) = false := by simp
  obtain ⟨w0, hw0⟩ : ∃ W, W = ((w.alloc (.cells #[.int .i64 m, .slice oa n ca, .string b] 38)).alloc (.cells #[.int .i64 m, .slice ob n cb, .string b] 38)) := ⟨_, rfl⟩
  have hs0 : w0.heap.size = w.heap.size + 1 + 1 := by rw [hw0]; simp
  have hb0 : Below w.heap.size w w0 := by rw [hw0]; exact ((Below.refl _ w).alloc (Nat.le_refl _) _).alloc (by simp) _
  have x1 : w0.heap[w.heap.size]? = some (.cells #[.int .i64 m, .slice oa n ca, .string b] 38) := by
    rw [hw0, heap_alloc_old _ _ (by simp)]; exact heap_alloc_new w _
  have x2 : w0.heap[w.heap.size + 1]? = some (.cells #[.int .i64 m, .slice ob n cb, .string b] 38) := by
    rw [hw0]
    have := heap_alloc_new (w.alloc (.cells #[.int .i64 m, .slice oa n ca, .string b] 38)) (.cells #[.int .i64 m, .slice ob n cb, .string b] 38)
    simpa using this
  go_enter Tryd.func23, Tryd.ntmps23
  go_wp2_with fail
  rw [← hw0]
  refine (eqFieldS_any _ _ n b1 b2 fs _ (h1.below hb0) (h2.below hb0) hn).mono ?_
  rintro e w1 ⟨rfl, bb1⟩
  rw [← bb1.block _ (by omega)] at x1 x2
  obtain ⟨q, hq⟩ : ∃ q, q = w.heap.size + 1 := ⟨_, rfl⟩
  obtain ⟨c, hc⟩ : ∃ c, c = w.heap.size := ⟨_, rfl⟩
  rw [← hq] at x2
  rw [← hc] at x1
  have y1 : w1.cell? ⟨c, 2, none⟩ = some (.string b) := by simp [World.cell?, x1]
  have y2 : w1.cell? ⟨q, 2, none⟩ = some (.string b) := by simp [World.cell?, x2]
  have hbw1 : Below w.heap.size w w1 := hb0.trans (bb1.mono hb0.size)
  rw [← hq, ← hc]
  clear x1 x2 hq hc hw0 hs0 hb0 bb1 h1 h2
  go_wp2
  go_ret
  exact ⟨rfl, hbw1⟩

end Go.Proofs.YtopeegjmpphjnaaDoor

namespace Go.Proofs.YtopeegjmpphjnaaDoor
open Go.RowKit
open Go.Lib hiding intOf

/-- The measure is negative, or it says exactly how much room is left of L. -/
def SzEx (L : Int) (n : Nat) (fs : List (ByteArray × ByteArray)) (w : World) (e : Ending) (w' : World) : Prop :=
  ∃ r : Int, e = .returned (.int .i64 r) ∧ r ≤ L ∧ (0 ≤ r → r + (n : Int) + (szTo fs n : Int) = L ∧ n ≤ 1048576 ∧ szTo fs n ≤ 1048576) ∧ Below w.heap.size w w'

set_option maxHeartbeats 1000000 in
theorem szFieldS_exact (L : Int) (hL0 : 0 ≤ L) (hL1 : L ≤ 1048576) (B : Nat) (a : Option Addr) (n cap : Nat) (fs : List (ByteArray × ByteArray)) (w : World) (harg : ArgF w B a n fs) (hB : B ≤ w.heap.size) (hn : n ≤ maxLen) (hsz : ∀ i, i < n → (nameAt fs i).size ≤ maxLen ∧ (valAt fs i).size ≤ maxLen) :
    Calls Tryd.prog 25 #[.slice a n cap, .int .i64 L] w fun e w' => SzEx L n fs w e w' := by
  unfold maxLen at hn
  have HS : Hid (∀ i, i < n → (nameAt fs i).size ≤ maxLen ∧ (valAt fs i).size ≤ maxLen) := hsz
  clear hsz
  by_cases c1 : L - (n : Int) < 0
  · go_enter Tryd.func25, Tryd.ntmps25
    go_wp2
    go_ret
    exact ⟨-1, rfl, by omega, fun h => absurd h (by omega), Below.refl _ _⟩
  · go_enter Tryd.func25, Tryd.ntmps25
    go_wp2
    go_loopw [1, 5] (fun l i wr => ∃ (k : Nat) (x : Int), k ≤ n ∧ i = .int .i64 (k : Int) ∧ l = .int .i64 x ∧ 0 ≤ x ∧ x ≤ L ∧ Hid (x = L - (n : Int) - (szTo fs k : Int)) ∧ Below w.heap.size w wr) (fun _ i _ => n - (intOf i).toNat)
    case atStart => exact ⟨0, _, Nat.zero_le _, rfl, rfl, by omega, by omega, by show _ = _; simp [szTo], Below.refl _ _⟩
    case round =>
      obtain ⟨k, x, hk, rfl, rfl, hx0, hx1, hx, hbw⟩ := hrel
      by_cases hlt : k < n
      · have hlt2 : (k : Int) < (n : Int) := by omega
        obtain ⟨b, off, rfl, hbB, hc1, hc2⟩ := (harg.below (hbw.mono hB)).get k hlt
        obtain ⟨s1, s2⟩ := HS.out k hlt
        obtain ⟨nm, hnm⟩ : ∃ y, y = nameAt fs k := ⟨_, rfl⟩
        obtain ⟨vl, hvl⟩ : ∃ y, y = valAt fs k := ⟨_, rfl⟩
        have HZ : Hid (szTo fs (k + 1) = szTo fs k + nm.size + vl.size) := by rw [hnm, hvl]; rfl
        rw [← hnm] at hc1 s1
        rw [← hvl] at hc2 s2
        clear hnm hvl
        go_wp2_with fail
        refine (szField_any nm vl x _ hx0 (by omega) s1 s2).mono ?_
        rintro e w1 ⟨rfl, hb1⟩
        have hb2 : Below w.heap.size w w1 := hbw.trans (hb1.mono hbw.size)
        clear hc1 hc2 hb1
        by_cases d1 : x - (nm.size : Int) < 0
        · rw [if_pos d1]
          go_wp2
          go_ret
          exact ⟨-1, rfl, by omega, fun h => absurd h (by omega), hb2⟩
        · rw [if_neg d1]
          by_cases d2 : x - (nm.size : Int) - (vl.size : Int) < 0
          · rw [if_pos d2]
            go_wp2
            go_ret
            exact ⟨-1, rfl, by omega, fun h => absurd h (by omega), hb2⟩
          · rw [if_neg d2]
            obtain ⟨y, hy⟩ : ∃ y, y = x - (nm.size : Int) - (vl.size : Int) := ⟨_, rfl⟩
            rw [← hy] at d2 ⊢
            have HY : Hid (y = L - (n : Int) - (szTo fs (k + 1) : Int)) := by
              show _ = _
              rw [hy, HZ.out, hx.out]; omega
            have hy1 : y ≤ L := by omega
            clear hy d1
            go_wp2
            go_roundw
            case rel => exact ⟨k + 1, y, by omega, by go_num, rfl, by omega, hy1, HY, hb2⟩
            case measure => simp [intOf]; omega
      · have hF : Hid (x + (n : Int) + (szTo fs n : Int) = L ∧ n ≤ 1048576 ∧ szTo fs n ≤ 1048576) := by
          have := hx.out
          obtain rfl : k = n := by omega
          exact ⟨by omega, by omega, by omega⟩
        go_wp2
        go_ret
        exact ⟨x, rfl, hx1, fun _ => hF.out, hbw⟩

end Go.Proofs.YtopeegjmpphjnaaDoor

namespace Go.Proofs.YtopeegjmpphjnaaDoor
open Go.RowKit
open Go.Lib hiding intOf

def SzReqRm (L : Int) (p : ByteArray) (n : Nat) (fs : List (ByteArray × ByteArray)) (b : ByteArray) (w : World) (e : Ending) (w' : World) : Prop :=
  ∃ r : Int, e = .returned (.int .i64 r) ∧ r ≤ L ∧ (0 ≤ r → r + (n : Int) ≤ L ∧ (p.size ≤ 1048576 ∧ b.size ≤ 1048576) ∧ n ≤ 1048576 ∧ szTo fs n ≤ 1048576) ∧ Below w.heap.size w w'
def SzRespRm (L : Int) (n : Nat) (fs : List (ByteArray × ByteArray)) (b : ByteArray) (w : World) (e : Ending) (w' : World) : Prop :=
  ∃ r : Int, e = .returned (.int .i64 r) ∧ r ≤ L ∧ (0 ≤ r → r + (n : Int) ≤ L ∧ b.size ≤ 1048576 ∧ n ≤ 1048576 ∧ szTo fs n ≤ 1048576) ∧ Below w.heap.size w w'

set_option maxHeartbeats 2000000 in
set_option maxRecDepth 100000 in
theorem szReq_room (L : Int) (hL0 : 0 ≤ L) (hL1 : L ≤ 1048576) (m : Int) (p : ByteArray) (a : Option Addr) (n cap : Nat) (b : ByteArray) (fs : List (ByteArray × ByteArray)) (w : World) (harg : ArgF w w.heap.size a n fs) (hn : n ≤ maxLen) (hsz : WalkF n fs) (hp : p.size ≤ maxLen) (hb : b.size ≤ maxLen) :
    Calls Tryd.prog 9 #[.agg #[.int .i64 m, .string p, .slice a n cap, .string b], .int .i64 L] w fun e w' => SzReqRm L p n fs b w e w' := by
  unfold maxLen at hp hb
  obtain ⟨r, hr⟩ : ∃ r, r = w.heap.size := ⟨_, rfl⟩
  have HR : Hid (∀ W, Below (w.alloc (.cells #[.int .i64 m, .string p, .slice a n cap, .string b] 24)).heap.size (w.alloc (.cells #[.int .i64 m, .string p, .slice a n cap, .string b] 24)) W → (W.cell? ⟨r, 1, none⟩ = some (.string p) ∧ W.cell? ⟨r, 2, none⟩ = some (.slice a n cap) ∧ W.cell? ⟨r, 3, none⟩ = some (.string b)) ∧ ArgF W w.heap.size a n fs ∧ w.heap.size ≤ W.heap.size ∧ Below w.heap.size w W) := fun W h => by
    have hh := kept_new h
    rw [← hr] at hh
    exact ⟨⟨by simp [World.cell?, hh], by simp [World.cell?, hh], by simp [World.cell?, hh]⟩, harg.below (below_new h), (below_new h).size, below_new h⟩
  obtain ⟨⟨c1, c2, c3⟩, harg0, hs0, hbw0⟩ := HR.out _ (Below.refl _ _)
  have HB0 : Hid (Below w.heap.size w (w.alloc (.cells #[.int .i64 m, .string p, .slice a n cap, .string b] 24))) := hbw0
  have HSZ : Hid (WalkF n fs) := hsz
  have HN : Hid (n ≤ maxLen) := hn
  have HARG : Hid (ArgF (w.alloc (.cells #[.int .i64 m, .string p, .slice a n cap, .string b] 24)) w.heap.size a n fs) := harg0
  clear harg hsz harg0 hbw0 hn
  by_cases d1 : L - (p.size : Int) < 0
  · go_enter Tryd.func9, Tryd.ntmps9
    rw [hr] at c1
    go_wp2_with fail
    go_ret
    exact ⟨-1, rfl, by omega, fun h => absurd h (by omega), HB0.out⟩
  · go_enter Tryd.func9, Tryd.ntmps9
    rw [hr] at c1 c2
    go_wp2_with fail
    refine (szFieldS_exact (L - (p.size : Int)) (by omega) (by omega) w.heap.size a n cap fs _ HARG.out hs0 HN.out HSZ.out).mono ?_
    rintro e w1 ⟨x, rfl, hx1, hx2, bb1⟩
    clear c1 c2 c3
    obtain ⟨⟨c1, c2, c3⟩, _, _, hbw1⟩ := HR.out w1 bb1
    rw [← hr]
    clear bb1 hr
    by_cases hx0 : x < 0
    · clear hx2
      go_wp2_with fail
      go_ret
      exact ⟨-1, rfl, by omega, fun h => absurd h (by omega), hbw1⟩
    · obtain ⟨h0, h1, h2⟩ := hx2 (by omega)
      by_cases d2 : x - (b.size : Int) < 0
      · go_wp2_with fail
        go_ret
        exact ⟨-1, rfl, by omega, fun h => absurd h (by omega), hbw1⟩
      · go_wp2_with fail
        go_ret
        exact ⟨_, rfl, by omega, fun _ => ⟨by omega, ⟨by omega, by omega⟩, h1, h2⟩, hbw1⟩

set_option maxHeartbeats 2000000 in
set_option maxRecDepth 100000 in
theorem szResp_room (L : Int) (hL0 : 0 ≤ L) (hL1 : L ≤ 1048576) (m : Int) (a : Option Addr) (n cap : Nat) (b : ByteArray) (fs : List (ByteArray × ByteArray)) (w : World) (harg : ArgF w w.heap.size a n fs) (hn : n ≤ maxLen) (hsz : WalkF n fs) (hb : b.size ≤ maxLen) :
    Calls Tryd.prog 10 #[.agg #[.int .i64 m, .slice a n cap, .string b], .int .i64 L] w fun e w' => SzRespRm L n fs b w e w' := by
  unfold maxLen at hb
  obtain ⟨r, hr⟩ : ∃ r, r = w.heap.size := ⟨_, rfl⟩
  have HR : Hid (∀ W, Below (w.alloc (.cells #[.int .i64 m, .slice a n cap, .string b] 26)).heap.size (w.alloc (.cells #[.int .i64 m, .slice a n cap, .string b] 26)) W → (W.cell? ⟨r, 1, none⟩ = some (.slice a n cap) ∧ W.cell? ⟨r, 2, none⟩ = some (.string b)) ∧ ArgF W w.heap.size a n fs ∧ w.heap.size ≤ W.heap.size ∧ Below w.heap.size w W) := fun W h => by
    have hh := kept_new h
    rw [← hr] at hh
    exact ⟨⟨by simp [World.cell?, hh], by simp [World.cell?, hh]⟩, harg.below (below_new h), (below_new h).size, below_new h⟩
  obtain ⟨⟨c2, c3⟩, harg0, hs0, _⟩ := HR.out _ (Below.refl _ _)
  have HSZ : Hid (WalkF n fs) := hsz
  have HN : Hid (n ≤ maxLen) := hn
  have HARG : Hid (ArgF (w.alloc (.cells #[.int .i64 m, .slice a n cap, .string b] 26)) w.heap.size a n fs) := harg0
  clear harg hsz harg0 hn
  go_enter Tryd.func10, Tryd.ntmps10
  rw [hr] at c2
  go_wp2_with fail
  refine (szFieldS_exact L (by omega) (by omega) w.heap.size a n cap fs _ HARG.out hs0 HN.out HSZ.out).mono ?_
  rintro e w1 ⟨x, rfl, hx1, hx2, bb1⟩
  clear c2 c3
  obtain ⟨⟨c2, c3⟩, _, _, hbw1⟩ := HR.out w1 bb1
  rw [← hr]
  clear bb1 hr
  by_cases hx0 : x < 0
  · clear hx2
    go_wp2_with fail
    go_ret
    exact ⟨-1, rfl, by omega, fun h => absurd h (by omega), hbw1⟩
  · obtain ⟨h0, h1, h2⟩ := hx2 (by omega)
    by_cases d2 : x - (b.size : Int) < 0
    · go_wp2_with fail
      go_ret
      exact ⟨-1, rfl, by omega, fun h => absurd h (by omega), hbw1⟩
    · go_wp2_with fail
      go_ret
      exact ⟨_, rfl, by omega, fun _ => ⟨by omega, by omega, h1, h2⟩, hbw1⟩

/-- A block's content behind a call. -/
theorem blk_below {W W' : World} {r : Nat} {o : Obj} (h : W.heap[r]? = some o) (b : Below W.heap.size W W') : W'.heap[r]? = some o := by
  rw [b.block r (Array.getElem?_eq_some_iff.1 h).1]; exact h
theorem own_ne {W : World} {r : Nat} {cs : Array Value} {T t : TypeId} {base size n : Nat} {v : Value} {xs : List Value} (ho : W.ownsRow base t size v n xs) (h : W.heap[r]? = some (.cells cs T)) (hT : T ≠ t) (j : Nat) (hj : v.ownBlock = some j) : j ≠ r := fun e => by
  subst e
  rcases ho.2 with ⟨rfl, _⟩ | ⟨g, cap, cur, rfl, _, h1, _⟩
  · cases hj
  · cases hj
    rw [h] at h1
    cases h1
    exact hT rfl
end Go.Proofs.YtopeegjmpphjnaaDoor

namespace Go.Proofs.YtopeegjmpphjnaaDoor
open Go.RowKit
open Go.Lib hiding intOf

theorem cell_of {W : World} {R : Nat} {cs : Array Value} {t : TypeId} (h : W.heap[R]? = some (.cells cs t)) (i : Nat) : W.cell? ⟨R, i, none⟩ = cs[i]? := by simp [World.cell?, h]
theorem frozen_of {W : World} {R : Nat} {cs : Array Value} {t : TypeId} (h : W.heap[R]? = some (.cells cs t)) (i : Nat) : W.frozen? ⟨R, i, none⟩ = false := by simp [World.frozen?, h]
/-- The measure is negative, or it says that the list and what is left fit into L. -/
def SzTx (L : Int) (n : Nat) (xs : List ByteArray) (w : World) (e : Ending) (w' : World) : Prop :=
  ∃ r : Int, e = .returned (.int .i64 r) ∧ r ≤ L ∧ (0 ≤ r → r + (n : Int) ≤ L ∧ n ≤ 1048576 ∧ ∀ i, i < n → (textAt xs i).size ≤ 1048576) ∧ Below w.heap.size w w'

set_option maxHeartbeats 1000000 in
theorem szStringS_exact (L : Int) (hL0 : 0 ≤ L) (hL1 : L ≤ 1048576) (B : Nat) (a : Option Addr) (n cap : Nat) (xs : List ByteArray) (w : World) (harg : ArgT w B a n xs) (hB : B ≤ w.heap.size) (hn : n ≤ maxLen) (hsz : ∀ i, i < n → (textAt xs i).size ≤ maxLen) :
    Calls Tryd.prog 26 #[.slice a n cap, .int .i64 L] w fun e w' => SzTx L n xs w e w' := by
  unfold maxLen at hn
  have HS : Hid (∀ i, i < n → (textAt xs i).size ≤ maxLen) := hsz
  have HA : Hid (∀ W, Below w.heap.size w W → ArgT W B a n xs) := fun W h => harg.below (h.mono hB)
  clear hsz harg
  by_cases c1 : L - (n : Int) < 0
  · go_enter Tryd.func26, Tryd.ntmps26
    go_wp2
    go_ret
    exact ⟨-1, rfl, by omega, fun h => absurd h (by omega), Below.refl _ _⟩
  · go_enter Tryd.func26, Tryd.ntmps26
    go_wp2
    go_loopw [1, 5] (fun l i wr => ∃ (k : Nat) (x : Int), k ≤ n ∧ i = .int .i64 (k : Int) ∧ l = .int .i64 x ∧ 0 ≤ x ∧ x + (n : Int) ≤ L ∧ Hid (∀ j, j < k → (textAt xs j).size ≤ 1048576) ∧ Below w.heap.size w wr) (fun _ i _ => n - (intOf i).toNat)
    case atStart => exact ⟨0, _, Nat.zero_le _, rfl, rfl, by omega, by omega, fun j hj => absurd hj (by omega), Below.refl _ _⟩
    case round =>
      obtain ⟨k, x, hk, rfl, rfl, hx0, hx1, HX, hbw⟩ := hrel
      by_cases hlt : k < n
      · have hlt2 : (k : Int) < (n : Int) := by omega
        obtain ⟨b, off, rfl, hbB, hc1⟩ := (HA.out wr hbw).get k hlt
        have s1 := HS.out k hlt
        obtain ⟨t, ht⟩ : ∃ y, y = textAt xs k := ⟨_, rfl⟩
        rw [← ht] at hc1 s1
        unfold maxLen at s1
        by_cases d1 : x - (t.size : Int) < 0
        · clear ht
          go_wp2
          go_ret
          exact ⟨-1, rfl, by omega, fun h => absurd h (by omega), hbw⟩
        · have HX2 : Hid (∀ j, j < k + 1 → (textAt xs j).size ≤ 1048576) := by
            intro j hj
            by_cases e : j = k
            · rw [e, ← ht]; omega
            · exact HX.out j (by omega)
          clear ht
          go_wp2
          go_roundw
          case rel => exact ⟨k + 1, x - (t.size : Int), by omega, by go_num, by go_num, by omega, by omega, HX2, hbw⟩
          case measure => simp [intOf]; omega
      · have hF : Hid (n ≤ 1048576 ∧ ∀ i, i < n → (textAt xs i).size ≤ 1048576) := ⟨by omega, fun i hi => HX.out i (by omega)⟩
        go_wp2
        go_ret
        exact ⟨x, rfl, by omega, fun _ => ⟨hx1, hF.out⟩, hbw⟩


end Go.Proofs.YtopeegjmpphjnaaDoor

namespace Go.Proofs.YtopeegjmpphjnaaDoor
open Go.RowKit
open Go.Lib hiding intOf

/-- An object's three lists, in memory of one's own, no two in one block. -/
structure ObjO (W : World) (base : Nat) (v1 : Value) (n1 : Nat) (xs : List ByteArray) (v2 : Value) (n2 : Nat) (ys : List ByteArray) (v3 : Value) (n3 : Nat) (fs : List (ByteArray × ByteArray)) : Prop where
  names : W.ownsRow base 9 1 v1 n1 (xs.map Value.string)
  vals : W.ownsRow base 9 1 v2 n2 (ys.map Value.string)
  flds : W.ownsRow base 68 2 v3 n3 (flatF fs)
  ne : ∀ j, v1.ownBlock = some j → v2.ownBlock ≠ some j


set_option maxHeartbeats 4000000 in
set_option maxRecDepth 100000 in
theorem toObj_any (p : ByteArray) (a1 : Option Addr) (n1 c1 : Nat) (xs : List ByteArray) (a2 : Option Addr) (n2 c2 : Nat) (ys : List ByteArray) (st : Int) (a3 : Option Addr) (n3 c3 : Nat) (fs : List (ByteArray × ByteArray)) (b : ByteArray) (t : Int) (B : Nat) (w : World) (h1 : ArgT w B a1 n1 xs) (h2 : ArgT w B a2 n2 ys) (h3 : ArgF w B a3 n3 fs) (hB : B ≤ w.heap.size) (hn1 : n1 ≤ 1048576) (hn2 : n2 ≤ 1048576) (hn3 : n3 ≤ 1048576) :
    Calls Tryd.prog 17 #[.agg #[.string p, .slice a1 n1 c1, .slice a2 n2 c2, .int .i64 st, .slice a3 n3 c3, .string b, .int .i64 t]] w fun e w' => ∃ v1 v2 v3, e = .returned (.agg #[.string p, v1, v2, .int .i64 st, v3, .string b, .int .i64 t]) ∧ ObjO w' w.heap.size v1 n1 xs v2 n2 ys v3 n3 fs ∧ Below w.heap.size w w' := by
  have HA1 : Hid (∀ W, Below w.heap.size w W → ArgT W B a1 n1 xs) := fun W h => h1.below (h.mono hB)
  have HA2 : Hid (∀ W, Below w.heap.size w W → ArgT W B a2 n2 ys) := fun W h => h2.below (h.mono hB)
  have HA3 : Hid (∀ W, Below w.heap.size w W → ArgF W B a3 n3 fs) := fun W h => h3.below (h.mono hB)
  have HBB : Hid (∀ W, Below w.heap.size w W → B ≤ W.heap.size) := fun W h => Nat.le_trans hB h.size
  clear h1 h2 h3
  have hb0 : Below w.heap.size w w := Below.refl _ _
  go_enter Tryd.func17, Tryd.ntmps17
  go_upto_region 1 with fail
  obtain ⟨qv1, hqv1⟩ : ∃ q, q = (w).heap.size := ⟨_, rfl⟩
  obtain ⟨w1, hW1⟩ : ∃ W, W = (w).alloc (.cells #[.string p, .slice a1 n1 c1, .slice a2 n2 c2, .int .i64 st, .slice a3 n3 c3, .string b, .int .i64 t] 29) := ⟨_, rfl⟩
  have hz1 : (w).heap.size = qv1 := hqv1.symm
  first | rw [← hW1, ← hqv1] | rw [← hW1]
  have hs1 : w1.heap.size = qv1 + 1 := by rw [hW1, ← hz1]; simp
  have bw : Below (w).heap.size (w) w1 := by rw [hW1]; exact (Below.refl _ _).alloc (Nat.le_refl _) _
  have hb1 : Below w.heap.size w (w1) := hb0.trans (bw.mono hb0.size)
  have HBv1_1 : Hid ((w1).heap[qv1]? = some (.cells #[.string p, .slice a1 n1 c1, .slice a2 n2 c2, .int .i64 st, .slice a3 n3 c3, .string b, .int .i64 t] 29)) := by show _ = _; rw [hW1, ← hz1]; exact heap_alloc_new _ _
  clear hb0 bw hW1 hz1
  obtain ⟨qv2, hqv2⟩ : ∃ q, q = qv1 + 1 := ⟨_, rfl⟩
  obtain ⟨w2, hW2⟩ : ∃ W, W = (w1).alloc (.cells #[.string ⟨#[]⟩, .slice none 0 0, .slice none 0 0, .int .i64 0, .slice none 0 0, .string ⟨#[]⟩, .int .i64 0] 40) := ⟨_, rfl⟩
  have hz2 : (w1).heap.size = qv2 := by rw [hqv2]; exact hs1
  first | rw [← hW2, ← hqv2] | rw [← hW2]
  have hs2 : w2.heap.size = qv2 + 1 := by rw [hW2, ← hz2]; simp
  have bw : Below (w1).heap.size (w1) w2 := by rw [hW2]; exact (Below.refl _ _).alloc (Nat.le_refl _) _
  have hb2 : Below w.heap.size w (w2) := hb1.trans (bw.mono hb1.size)
  have HBv1_2 : Hid ((w2).heap[qv1]? = some (.cells #[.string p, .slice a1 n1 c1, .slice a2 n2 c2, .int .i64 st, .slice a3 n3 c3, .string b, .int .i64 t] 29)) := blk_below HBv1_1.out bw
  have HNv1v2 : Hid (qv1 ≠ qv2) := fun e => by have h1 := (Array.getElem?_eq_some_iff.1 HBv1_1.out).1; omega
  have HBv2_2 : Hid ((w2).heap[qv2]? = some (.cells #[.string ⟨#[]⟩, .slice none 0 0, .slice none 0 0, .int .i64 0, .slice none 0 0, .string ⟨#[]⟩, .int .i64 0] 40)) := by show _ = _; rw [hW2, ← hz2]; exact heap_alloc_new _ _
  have HGv2 : Hid (w.heap.size ≤ qv2) := by show _ ≤ _; rw [← hz2]; exact hb1.size
  clear hb1 HBv1_1 bw hW2 hz2
  clear hs2 hqv2 hs1 hqv1
  go_upto_region 2 with fail
  obtain ⟨qv3, hqv3⟩ : ∃ q, q = (w2).heap.size := ⟨_, rfl⟩
  obtain ⟨w3, hW3⟩ : ∃ W, W = (w2).alloc (.cells #[.string ⟨#[]⟩, .slice none 0 0, .slice none 0 0, .int .i64 0, .slice none 0 0, .string ⟨#[]⟩, .int .i64 0] 40) := ⟨_, rfl⟩
  have hz3 : (w2).heap.size = qv3 := hqv3.symm
  first | rw [← hW3, ← hqv3] | rw [← hW3]
  have hs3 : w3.heap.size = qv3 + 1 := by rw [hW3, ← hz3]; simp
  have bw : Below (w2).heap.size (w2) w3 := by rw [hW3]; exact (Below.refl _ _).alloc (Nat.le_refl _) _
  have hb3 : Below w.heap.size w (w3) := hb2.trans (bw.mono hb2.size)
  have HBv1_3 : Hid ((w3).heap[qv1]? = some (.cells #[.string p, .slice a1 n1 c1, .slice a2 n2 c2, .int .i64 st, .slice a3 n3 c3, .string b, .int .i64 t] 29)) := blk_below HBv1_2.out bw
  have HBv2_3 : Hid ((w3).heap[qv2]? = some (.cells #[.string ⟨#[]⟩, .slice none 0 0, .slice none 0 0, .int .i64 0, .slice none 0 0, .string ⟨#[]⟩, .int .i64 0] 40)) := blk_below HBv2_2.out bw
  have HNv1v3 : Hid (qv1 ≠ qv3) := fun e => by have h1 := (Array.getElem?_eq_some_iff.1 HBv1_2.out).1; omega
  have HNv2v3 : Hid (qv2 ≠ qv3) := fun e => by have h1 := (Array.getElem?_eq_some_iff.1 HBv2_2.out).1; omega
  have HBv3_3 : Hid ((w3).heap[qv3]? = some (.cells #[.string ⟨#[]⟩, .slice none 0 0, .slice none 0 0, .int .i64 0, .slice none 0 0, .string ⟨#[]⟩, .int .i64 0] 40)) := by show _ = _; rw [hW3, ← hz3]; exact heap_alloc_new _ _
  have HGv3 : Hid (w.heap.size ≤ qv3) := by show _ ≤ _; rw [← hz3]; exact hb2.size
  clear hb2 HBv1_2 HBv2_2 bw hW3 hz3
  clear hs3 hqv3
  have cv1_0 : (w3).cell? ⟨qv1, 0, none⟩ = some (.string p) := (cell_of HBv1_3.out 0).trans rfl
  have cv3_0 : (w3).cell? ⟨qv3, 0, none⟩ = some (.string ⟨#[]⟩) := (cell_of HBv3_3.out 0).trans rfl
  have fcv3_0 : (w3).frozen? ⟨qv3, 0, none⟩ = false := frozen_of HBv3_3.out 0
  go_upto_region 3 with fail
  obtain ⟨w4, hW4⟩ : ∃ W, W = (w3).setCell ⟨qv3, 0, none⟩ (.string p) := ⟨_, rfl⟩
  rw [← hW4]
  have hb4 : Below w.heap.size w (w4) := by rw [hW4]; exact (hb3.setCell (p := ⟨qv3, 0, none⟩) HGv3.out _)
  have HBv1_4 : Hid ((w4).heap[qv1]? = some (.cells #[.string p, .slice a1 n1 c1, .slice a2 n2 c2, .int .i64 st, .slice a3 n3 c3, .string b, .int .i64 t] 29)) := by show _ = _; rw [hW4, heap_setCell_other _ _ _ _ HNv1v3.out]; exact HBv1_3.out
  have HBv2_4 : Hid ((w4).heap[qv2]? = some (.cells #[.string ⟨#[]⟩, .slice none 0 0, .slice none 0 0, .int .i64 0, .slice none 0 0, .string ⟨#[]⟩, .int .i64 0] 40)) := by show _ = _; rw [hW4, heap_setCell_other _ _ _ _ HNv2v3.out]; exact HBv2_3.out
  have HBv3_4 : Hid ((w4).heap[qv3]? = some (.cells #[.string p, .slice none 0 0, .slice none 0 0, .int .i64 0, .slice none 0 0, .string ⟨#[]⟩, .int .i64 0] 40)) := by show _ = _; rw [hW4]; have h := heap_set _ _ 0 _ _ _ (.string p) HBv3_3.out; simpa using h
  clear hb3 HBv1_3 HBv2_3 HBv3_3 hW4
  clear cv1_0 cv3_0 fcv3_0
  have cv1_1 : (w4).cell? ⟨qv1, 1, none⟩ = some (.slice a1 n1 c1) := (cell_of HBv1_4.out 1).trans rfl
  go_wp2_with fail
  refine (toStringS_any B a1 n1 c1 xs _ (HA1.out _ hb4) (HBB.out _ hb4) hn1).mono ?_
  rintro e w5 ⟨vv, rfl, ownN, bw⟩
  obtain ⟨oN, pN, rfl⟩ := slice_of_owns ownN
  have hb5 : Below w.heap.size w (w5) := hb4.trans (bw.mono hb4.size)
  have HBv1_5 : Hid ((w5).heap[qv1]? = some (.cells #[.string p, .slice a1 n1 c1, .slice a2 n2 c2, .int .i64 st, .slice a3 n3 c3, .string b, .int .i64 t] 29)) := blk_below HBv1_4.out bw
  have HBv2_5 : Hid ((w5).heap[qv2]? = some (.cells #[.string ⟨#[]⟩, .slice none 0 0, .slice none 0 0, .int .i64 0, .slice none 0 0, .string ⟨#[]⟩, .int .i64 0] 40)) := blk_below HBv2_4.out bw
  have HBv3_5 : Hid ((w5).heap[qv3]? = some (.cells #[.string p, .slice none 0 0, .slice none 0 0, .int .i64 0, .slice none 0 0, .string ⟨#[]⟩, .int .i64 0] 40)) := blk_below HBv3_4.out bw
  have HON_5 : Hid ((w5).ownsRow w.heap.size 9 1 (.slice oN n1 pN) n1 (xs.map Value.string)) := owns_wide ownN hb4.size
  have HIN : Hid (∀ g, (Value.ownBlock (.slice oN n1 pN)) = some g → g < (w5).heap.size) := fun g hg => owns_lt ownN hg
  clear ownN
  clear hb4 HBv1_4 HBv2_4 HBv3_4 bw
  clear cv1_1
  have cv3_1 : (w5).cell? ⟨qv3, 1, none⟩ = some (.slice none 0 0) := (cell_of HBv3_5.out 1).trans rfl
  have fcv3_1 : (w5).frozen? ⟨qv3, 1, none⟩ = false := frozen_of HBv3_5.out 1
  go_upto_region 4 with fail
  obtain ⟨w6, hW6⟩ : ∃ W, W = (w5).setCell ⟨qv3, 1, none⟩ (.slice oN n1 pN) := ⟨_, rfl⟩
  rw [← hW6]
  have hb6 : Below w.heap.size w (w6) := by rw [hW6]; exact (hb5.setCell (p := ⟨qv3, 1, none⟩) HGv3.out _)
  have HM6 : Hid ((w5).heap.size ≤ w6.heap.size) := by show _ ≤ _; rw [hW6]; simp
  have HON_6 : Hid ((w6).ownsRow w.heap.size 9 1 (.slice oN n1 pN) n1 (xs.map Value.string)) := by show World.ownsRow _ _ _ _ _ _ _; rw [hW6]; exact owns_same HON_5.out (fun g hg => heap_setCell_other _ _ g _ (own_ne HON_5.out HBv3_5.out (by decide) g hg))
  have HBv1_6 : Hid ((w6).heap[qv1]? = some (.cells #[.string p, .slice a1 n1 c1, .slice a2 n2 c2, .int .i64 st, .slice a3 n3 c3, .string b, .int .i64 t] 29)) := by show _ = _; rw [hW6, heap_setCell_other _ _ _ _ HNv1v3.out]; exact HBv1_5.out
  have HBv2_6 : Hid ((w6).heap[qv2]? = some (.cells #[.string ⟨#[]⟩, .slice none 0 0, .slice none 0 0, .int .i64 0, .slice none 0 0, .string ⟨#[]⟩, .int .i64 0] 40)) := by show _ = _; rw [hW6, heap_setCell_other _ _ _ _ HNv2v3.out]; exact HBv2_5.out
  have HBv3_6 : Hid ((w6).heap[qv3]? = some (.cells #[.string p, .slice oN n1 pN, .slice none 0 0, .int .i64 0, .slice none 0 0, .string ⟨#[]⟩, .int .i64 0] 40)) := by show _ = _; rw [hW6]; have h := heap_set _ _ 1 _ _ _ (.slice oN n1 pN) HBv3_5.out; simpa using h
  clear hb5 HON_5 HBv1_5 HBv2_5 HBv3_5 hW6
  clear cv3_1 fcv3_1
  have cv1_2 : (w6).cell? ⟨qv1, 2, none⟩ = some (.slice a2 n2 c2) := (cell_of HBv1_6.out 2).trans rfl
  go_wp2_with fail
  refine (toStringS_any B a2 n2 c2 ys _ (HA2.out _ hb6) (HBB.out _ hb6) hn2).mono ?_
  rintro e w7 ⟨vv, rfl, ownV, bw⟩
  obtain ⟨oV, pV, rfl⟩ := slice_of_owns ownV
  have hb7 : Below w.heap.size w (w7) := hb6.trans (bw.mono hb6.size)
  have HM7 : Hid ((w6).heap.size ≤ (w7).heap.size) := bw.size
  have HON_7 : Hid ((w7).ownsRow w.heap.size 9 1 (.slice oN n1 pN) n1 (xs.map Value.string)) := owns_below HON_6.out bw (fun g hg => owns_lt HON_6.out hg)
  have HBv1_7 : Hid ((w7).heap[qv1]? = some (.cells #[.string p, .slice a1 n1 c1, .slice a2 n2 c2, .int .i64 st, .slice a3 n3 c3, .string b, .int .i64 t] 29)) := blk_below HBv1_6.out bw
  have HBv2_7 : Hid ((w7).heap[qv2]? = some (.cells #[.string ⟨#[]⟩, .slice none 0 0, .slice none 0 0, .int .i64 0, .slice none 0 0, .string ⟨#[]⟩, .int .i64 0] 40)) := blk_below HBv2_6.out bw
  have HBv3_7 : Hid ((w7).heap[qv3]? = some (.cells #[.string p, .slice oN n1 pN, .slice none 0 0, .int .i64 0, .slice none 0 0, .string ⟨#[]⟩, .int .i64 0] 40)) := blk_below HBv3_6.out bw
  have HOV_7 : Hid ((w7).ownsRow w.heap.size 9 1 (.slice oV n2 pV) n2 (ys.map Value.string)) := owns_wide ownV hb6.size
  have LOV : Hid (∀ g, (Value.ownBlock (.slice oV n2 pV)) = some g → (w6).heap.size ≤ g) := fun g hg => owns_ge ownV hg
  clear ownV
  clear hb6 HON_6 HBv1_6 HBv2_6 HBv3_6 bw
  clear cv1_2
  have cv3_2 : (w7).cell? ⟨qv3, 2, none⟩ = some (.slice none 0 0) := (cell_of HBv3_7.out 2).trans rfl
  have fcv3_2 : (w7).frozen? ⟨qv3, 2, none⟩ = false := frozen_of HBv3_7.out 2
  go_upto_region 5 with fail
  obtain ⟨w8, hW8⟩ : ∃ W, W = (w7).setCell ⟨qv3, 2, none⟩ (.slice oV n2 pV) := ⟨_, rfl⟩
  rw [← hW8]
  have hb8 : Below w.heap.size w (w8) := by rw [hW8]; exact (hb7.setCell (p := ⟨qv3, 2, none⟩) HGv3.out _)
  have HON_8 : Hid ((w8).ownsRow w.heap.size 9 1 (.slice oN n1 pN) n1 (xs.map Value.string)) := by show World.ownsRow _ _ _ _ _ _ _; rw [hW8]; exact owns_same HON_7.out (fun g hg => heap_setCell_other _ _ g _ (own_ne HON_7.out HBv3_7.out (by decide) g hg))
  have HOV_8 : Hid ((w8).ownsRow w.heap.size 9 1 (.slice oV n2 pV) n2 (ys.map Value.string)) := by show World.ownsRow _ _ _ _ _ _ _; rw [hW8]; exact owns_same HOV_7.out (fun g hg => heap_setCell_other _ _ g _ (own_ne HOV_7.out HBv3_7.out (by decide) g hg))
  have HBv1_8 : Hid ((w8).heap[qv1]? = some (.cells #[.string p, .slice a1 n1 c1, .slice a2 n2 c2, .int .i64 st, .slice a3 n3 c3, .string b, .int .i64 t] 29)) := by show _ = _; rw [hW8, heap_setCell_other _ _ _ _ HNv1v3.out]; exact HBv1_7.out
  have HBv2_8 : Hid ((w8).heap[qv2]? = some (.cells #[.string ⟨#[]⟩, .slice none 0 0, .slice none 0 0, .int .i64 0, .slice none 0 0, .string ⟨#[]⟩, .int .i64 0] 40)) := by show _ = _; rw [hW8, heap_setCell_other _ _ _ _ HNv2v3.out]; exact HBv2_7.out
  have HBv3_8 : Hid ((w8).heap[qv3]? = some (.cells #[.string p, .slice oN n1 pN, .slice oV n2 pV, .int .i64 0, .slice none 0 0, .string ⟨#[]⟩, .int .i64 0] 40)) := by show _ = _; rw [hW8]; have h := heap_set _ _ 2 _ _ _ (.slice oV n2 pV) HBv3_7.out; simpa using h
  clear hb7 HON_7 HOV_7 HBv1_7 HBv2_7 HBv3_7 hW8
  clear cv3_2 fcv3_2
  have cv1_3 : (w8).cell? ⟨qv1, 3, none⟩ = some (.int .i64 st) := (cell_of HBv1_8.out 3).trans rfl
  have cv1_4 : (w8).cell? ⟨qv1, 4, none⟩ = some (.slice a3 n3 c3) := (cell_of HBv1_8.out 4).trans rfl
  have cv1_5 : (w8).cell? ⟨qv1, 5, none⟩ = some (.string b) := (cell_of HBv1_8.out 5).trans rfl
  go_wp2_with fail
  refine (toResp_any st a3 n3 c3 b fs B _ (HA3.out _ hb8) (HBB.out _ hb8) hn3).mono ?_
  rintro e w9 ⟨vv, rfl, ownF, bw⟩
  obtain ⟨oF, pF, rfl⟩ := slice_of_owns ownF
  have hb9 : Below w.heap.size w (w9) := hb8.trans (bw.mono hb8.size)
  have HON_9 : Hid ((w9).ownsRow w.heap.size 9 1 (.slice oN n1 pN) n1 (xs.map Value.string)) := owns_below HON_8.out bw (fun g hg => owns_lt HON_8.out hg)
  have HOV_9 : Hid ((w9).ownsRow w.heap.size 9 1 (.slice oV n2 pV) n2 (ys.map Value.string)) := owns_below HOV_8.out bw (fun g hg => owns_lt HOV_8.out hg)
  have HBv1_9 : Hid ((w9).heap[qv1]? = some (.cells #[.string p, .slice a1 n1 c1, .slice a2 n2 c2, .int .i64 st, .slice a3 n3 c3, .string b, .int .i64 t] 29)) := blk_below HBv1_8.out bw
  have HBv2_9 : Hid ((w9).heap[qv2]? = some (.cells #[.string ⟨#[]⟩, .slice none 0 0, .slice none 0 0, .int .i64 0, .slice none 0 0, .string ⟨#[]⟩, .int .i64 0] 40)) := blk_below HBv2_8.out bw
  have HBv3_9 : Hid ((w9).heap[qv3]? = some (.cells #[.string p, .slice oN n1 pN, .slice oV n2 pV, .int .i64 0, .slice none 0 0, .string ⟨#[]⟩, .int .i64 0] 40)) := blk_below HBv3_8.out bw
  have HOF_9 : Hid ((w9).ownsRow w.heap.size 68 2 (.slice oF n3 pF) n3 (flatF fs)) := owns_wide ownF hb8.size
  clear ownF
  clear hb8 HON_8 HOV_8 HBv1_8 HBv2_8 HBv3_8 bw
  clear cv1_3 cv1_4 cv1_5
  have cv3_3 : (w9).cell? ⟨qv3, 3, none⟩ = some (.int .i64 0) := (cell_of HBv3_9.out 3).trans rfl
  have fcv3_3 : (w9).frozen? ⟨qv3, 3, none⟩ = false := frozen_of HBv3_9.out 3
  have cv3_4 : (w9).cell? ⟨qv3, 4, none⟩ = some (.slice none 0 0) := (cell_of HBv3_9.out 4).trans rfl
  have fcv3_4 : (w9).frozen? ⟨qv3, 4, none⟩ = false := frozen_of HBv3_9.out 4
  have cv3_5 : (w9).cell? ⟨qv3, 5, none⟩ = some (.string ⟨#[]⟩) := (cell_of HBv3_9.out 5).trans rfl
  have fcv3_5 : (w9).frozen? ⟨qv3, 5, none⟩ = false := frozen_of HBv3_9.out 5
  go_upto_region 6 with fail
  obtain ⟨w10, hW10⟩ : ∃ W, W = (w9).setCell ⟨qv3, 3, none⟩ (.int .i64 st) := ⟨_, rfl⟩
  rw [← hW10]
  have hb10 : Below w.heap.size w (w10) := by rw [hW10]; exact (hb9.setCell (p := ⟨qv3, 3, none⟩) HGv3.out _)
  have HON_10 : Hid ((w10).ownsRow w.heap.size 9 1 (.slice oN n1 pN) n1 (xs.map Value.string)) := by show World.ownsRow _ _ _ _ _ _ _; rw [hW10]; exact owns_same HON_9.out (fun g hg => heap_setCell_other _ _ g _ (own_ne HON_9.out HBv3_9.out (by decide) g hg))
  have HOV_10 : Hid ((w10).ownsRow w.heap.size 9 1 (.slice oV n2 pV) n2 (ys.map Value.string)) := by show World.ownsRow _ _ _ _ _ _ _; rw [hW10]; exact owns_same HOV_9.out (fun g hg => heap_setCell_other _ _ g _ (own_ne HOV_9.out HBv3_9.out (by decide) g hg))
  have HOF_10 : Hid ((w10).ownsRow w.heap.size 68 2 (.slice oF n3 pF) n3 (flatF fs)) := by show World.ownsRow _ _ _ _ _ _ _; rw [hW10]; exact owns_same HOF_9.out (fun g hg => heap_setCell_other _ _ g _ (own_ne HOF_9.out HBv3_9.out (by decide) g hg))
  have HBv1_10 : Hid ((w10).heap[qv1]? = some (.cells #[.string p, .slice a1 n1 c1, .slice a2 n2 c2, .int .i64 st, .slice a3 n3 c3, .string b, .int .i64 t] 29)) := by show _ = _; rw [hW10, heap_setCell_other _ _ _ _ HNv1v3.out]; exact HBv1_9.out
  have HBv2_10 : Hid ((w10).heap[qv2]? = some (.cells #[.string ⟨#[]⟩, .slice none 0 0, .slice none 0 0, .int .i64 0, .slice none 0 0, .string ⟨#[]⟩, .int .i64 0] 40)) := by show _ = _; rw [hW10, heap_setCell_other _ _ _ _ HNv2v3.out]; exact HBv2_9.out
  have HBv3_10 : Hid ((w10).heap[qv3]? = some (.cells #[.string p, .slice oN n1 pN, .slice oV n2 pV, .int .i64 st, .slice none 0 0, .string ⟨#[]⟩, .int .i64 0] 40)) := by show _ = _; rw [hW10]; have h := heap_set _ _ 3 _ _ _ (.int .i64 st) HBv3_9.out; simpa using h
  clear hb9 HON_9 HOV_9 HOF_9 HBv1_9 HBv2_9 HBv3_9 hW10
  obtain ⟨w11, hW11⟩ : ∃ W, W = (w10).setCell ⟨qv3, 4, none⟩ (.slice oF n3 pF) := ⟨_, rfl⟩
  rw [← hW11]
  have hb11 : Below w.heap.size w (w11) := by rw [hW11]; exact (hb10.setCell (p := ⟨qv3, 4, none⟩) HGv3.out _)
  have HON_11 : Hid ((w11).ownsRow w.heap.size 9 1 (.slice oN n1 pN) n1 (xs.map Value.string)) := by show World.ownsRow _ _ _ _ _ _ _; rw [hW11]; exact owns_same HON_10.out (fun g hg => heap_setCell_other _ _ g _ (own_ne HON_10.out HBv3_10.out (by decide) g hg))
  have HOV_11 : Hid ((w11).ownsRow w.heap.size 9 1 (.slice oV n2 pV) n2 (ys.map Value.string)) := by show World.ownsRow _ _ _ _ _ _ _; rw [hW11]; exact owns_same HOV_10.out (fun g hg => heap_setCell_other _ _ g _ (own_ne HOV_10.out HBv3_10.out (by decide) g hg))
  have HOF_11 : Hid ((w11).ownsRow w.heap.size 68 2 (.slice oF n3 pF) n3 (flatF fs)) := by show World.ownsRow _ _ _ _ _ _ _; rw [hW11]; exact owns_same HOF_10.out (fun g hg => heap_setCell_other _ _ g _ (own_ne HOF_10.out HBv3_10.out (by decide) g hg))
  have HBv1_11 : Hid ((w11).heap[qv1]? = some (.cells #[.string p, .slice a1 n1 c1, .slice a2 n2 c2, .int .i64 st, .slice a3 n3 c3, .string b, .int .i64 t] 29)) := by show _ = _; rw [hW11, heap_setCell_other _ _ _ _ HNv1v3.out]; exact HBv1_10.out
  have HBv2_11 : Hid ((w11).heap[qv2]? = some (.cells #[.string ⟨#[]⟩, .slice none 0 0, .slice none 0 0, .int .i64 0, .slice none 0 0, .string ⟨#[]⟩, .int .i64 0] 40)) := by show _ = _; rw [hW11, heap_setCell_other _ _ _ _ HNv2v3.out]; exact HBv2_10.out
  have HBv3_11 : Hid ((w11).heap[qv3]? = some (.cells #[.string p, .slice oN n1 pN, .slice oV n2 pV, .int .i64 st, .slice oF n3 pF, .string ⟨#[]⟩, .int .i64 0] 40)) := by show _ = _; rw [hW11]; have h := heap_set _ _ 4 _ _ _ (.slice oF n3 pF) HBv3_10.out; simpa using h
  clear hb10 HON_10 HOV_10 HOF_10 HBv1_10 HBv2_10 HBv3_10 hW11
  obtain ⟨w12, hW12⟩ : ∃ W, W = (w11).setCell ⟨qv3, 5, none⟩ (.string b) := ⟨_, rfl⟩
  rw [← hW12]
  have hb12 : Below w.heap.size w (w12) := by rw [hW12]; exact (hb11.setCell (p := ⟨qv3, 5, none⟩) HGv3.out _)
  have HON_12 : Hid ((w12).ownsRow w.heap.size 9 1 (.slice oN n1 pN) n1 (xs.map Value.string)) := by show World.ownsRow _ _ _ _ _ _ _; rw [hW12]; exact owns_same HON_11.out (fun g hg => heap_setCell_other _ _ g _ (own_ne HON_11.out HBv3_11.out (by decide) g hg))
  have HOV_12 : Hid ((w12).ownsRow w.heap.size 9 1 (.slice oV n2 pV) n2 (ys.map Value.string)) := by show World.ownsRow _ _ _ _ _ _ _; rw [hW12]; exact owns_same HOV_11.out (fun g hg => heap_setCell_other _ _ g _ (own_ne HOV_11.out HBv3_11.out (by decide) g hg))
  have HOF_12 : Hid ((w12).ownsRow w.heap.size 68 2 (.slice oF n3 pF) n3 (flatF fs)) := by show World.ownsRow _ _ _ _ _ _ _; rw [hW12]; exact owns_same HOF_11.out (fun g hg => heap_setCell_other _ _ g _ (own_ne HOF_11.out HBv3_11.out (by decide) g hg))
  have HBv1_12 : Hid ((w12).heap[qv1]? = some (.cells #[.string p, .slice a1 n1 c1, .slice a2 n2 c2, .int .i64 st, .slice a3 n3 c3, .string b, .int .i64 t] 29)) := by show _ = _; rw [hW12, heap_setCell_other _ _ _ _ HNv1v3.out]; exact HBv1_11.out
  have HBv2_12 : Hid ((w12).heap[qv2]? = some (.cells #[.string ⟨#[]⟩, .slice none 0 0, .slice none 0 0, .int .i64 0, .slice none 0 0, .string ⟨#[]⟩, .int .i64 0] 40)) := by show _ = _; rw [hW12, heap_setCell_other _ _ _ _ HNv2v3.out]; exact HBv2_11.out
  have HBv3_12 : Hid ((w12).heap[qv3]? = some (.cells #[.string p, .slice oN n1 pN, .slice oV n2 pV, .int .i64 st, .slice oF n3 pF, .string b, .int .i64 0] 40)) := by show _ = _; rw [hW12]; have h := heap_set _ _ 5 _ _ _ (.string b) HBv3_11.out; simpa using h
  clear hb11 HON_11 HOV_11 HOF_11 HBv1_11 HBv2_11 HBv3_11 hW12
  clear cv3_3 fcv3_3 cv3_4 fcv3_4 cv3_5 fcv3_5
  have cv1_6 : (w12).cell? ⟨qv1, 6, none⟩ = some (.int .i64 t) := (cell_of HBv1_12.out 6).trans rfl
  have cv3_6 : (w12).cell? ⟨qv3, 6, none⟩ = some (.int .i64 0) := (cell_of HBv3_12.out 6).trans rfl
  have fcv3_6 : (w12).frozen? ⟨qv3, 6, none⟩ = false := frozen_of HBv3_12.out 6
  go_upto_region 7 with fail
  obtain ⟨w13, hW13⟩ : ∃ W, W = (w12).setCell ⟨qv3, 6, none⟩ (.int .i64 t) := ⟨_, rfl⟩
  rw [← hW13]
  have hb13 : Below w.heap.size w (w13) := by rw [hW13]; exact (hb12.setCell (p := ⟨qv3, 6, none⟩) HGv3.out _)
  have HON_13 : Hid ((w13).ownsRow w.heap.size 9 1 (.slice oN n1 pN) n1 (xs.map Value.string)) := by show World.ownsRow _ _ _ _ _ _ _; rw [hW13]; exact owns_same HON_12.out (fun g hg => heap_setCell_other _ _ g _ (own_ne HON_12.out HBv3_12.out (by decide) g hg))
  have HOV_13 : Hid ((w13).ownsRow w.heap.size 9 1 (.slice oV n2 pV) n2 (ys.map Value.string)) := by show World.ownsRow _ _ _ _ _ _ _; rw [hW13]; exact owns_same HOV_12.out (fun g hg => heap_setCell_other _ _ g _ (own_ne HOV_12.out HBv3_12.out (by decide) g hg))
  have HOF_13 : Hid ((w13).ownsRow w.heap.size 68 2 (.slice oF n3 pF) n3 (flatF fs)) := by show World.ownsRow _ _ _ _ _ _ _; rw [hW13]; exact owns_same HOF_12.out (fun g hg => heap_setCell_other _ _ g _ (own_ne HOF_12.out HBv3_12.out (by decide) g hg))
  have HBv1_13 : Hid ((w13).heap[qv1]? = some (.cells #[.string p, .slice a1 n1 c1, .slice a2 n2 c2, .int .i64 st, .slice a3 n3 c3, .string b, .int .i64 t] 29)) := by show _ = _; rw [hW13, heap_setCell_other _ _ _ _ HNv1v3.out]; exact HBv1_12.out
  have HBv2_13 : Hid ((w13).heap[qv2]? = some (.cells #[.string ⟨#[]⟩, .slice none 0 0, .slice none 0 0, .int .i64 0, .slice none 0 0, .string ⟨#[]⟩, .int .i64 0] 40)) := by show _ = _; rw [hW13, heap_setCell_other _ _ _ _ HNv2v3.out]; exact HBv2_12.out
  have HBv3_13 : Hid ((w13).heap[qv3]? = some (.cells #[.string p, .slice oN n1 pN, .slice oV n2 pV, .int .i64 st, .slice oF n3 pF, .string b, .int .i64 t] 40)) := by show _ = _; rw [hW13]; have h := heap_set _ _ 6 _ _ _ (.int .i64 t) HBv3_12.out; simpa using h
  clear hb12 HON_12 HOV_12 HOF_12 HBv1_12 HBv2_12 HBv3_12 hW13
  clear cv1_6 cv3_6 fcv3_6
  have cv2_0 : (w13).cell? ⟨qv2, 0, none⟩ = some (.string ⟨#[]⟩) := (cell_of HBv2_13.out 0).trans rfl
  have fcv2_0 : (w13).frozen? ⟨qv2, 0, none⟩ = false := frozen_of HBv2_13.out 0
  have cv2_1 : (w13).cell? ⟨qv2, 1, none⟩ = some (.slice none 0 0) := (cell_of HBv2_13.out 1).trans rfl
  have fcv2_1 : (w13).frozen? ⟨qv2, 1, none⟩ = false := frozen_of HBv2_13.out 1
  have cv2_2 : (w13).cell? ⟨qv2, 2, none⟩ = some (.slice none 0 0) := (cell_of HBv2_13.out 2).trans rfl
  have fcv2_2 : (w13).frozen? ⟨qv2, 2, none⟩ = false := frozen_of HBv2_13.out 2
  have cv2_3 : (w13).cell? ⟨qv2, 3, none⟩ = some (.int .i64 0) := (cell_of HBv2_13.out 3).trans rfl
  have fcv2_3 : (w13).frozen? ⟨qv2, 3, none⟩ = false := frozen_of HBv2_13.out 3
  have cv2_4 : (w13).cell? ⟨qv2, 4, none⟩ = some (.slice none 0 0) := (cell_of HBv2_13.out 4).trans rfl
  have fcv2_4 : (w13).frozen? ⟨qv2, 4, none⟩ = false := frozen_of HBv2_13.out 4
  have cv2_5 : (w13).cell? ⟨qv2, 5, none⟩ = some (.string ⟨#[]⟩) := (cell_of HBv2_13.out 5).trans rfl
  have fcv2_5 : (w13).frozen? ⟨qv2, 5, none⟩ = false := frozen_of HBv2_13.out 5
  have cv2_6 : (w13).cell? ⟨qv2, 6, none⟩ = some (.int .i64 0) := (cell_of HBv2_13.out 6).trans rfl
  have fcv2_6 : (w13).frozen? ⟨qv2, 6, none⟩ = false := frozen_of HBv2_13.out 6
  have cv3_0 : (w13).cell? ⟨qv3, 0, none⟩ = some (.string p) := (cell_of HBv3_13.out 0).trans rfl
  have cv3_1 : (w13).cell? ⟨qv3, 1, none⟩ = some (.slice oN n1 pN) := (cell_of HBv3_13.out 1).trans rfl
  have cv3_2 : (w13).cell? ⟨qv3, 2, none⟩ = some (.slice oV n2 pV) := (cell_of HBv3_13.out 2).trans rfl
  have cv3_3 : (w13).cell? ⟨qv3, 3, none⟩ = some (.int .i64 st) := (cell_of HBv3_13.out 3).trans rfl
  have cv3_4 : (w13).cell? ⟨qv3, 4, none⟩ = some (.slice oF n3 pF) := (cell_of HBv3_13.out 4).trans rfl
  have cv3_5 : (w13).cell? ⟨qv3, 5, none⟩ = some (.string b) := (cell_of HBv3_13.out 5).trans rfl
  have cv3_6 : (w13).cell? ⟨qv3, 6, none⟩ = some (.int .i64 t) := (cell_of HBv3_13.out 6).trans rfl
  go_wp2_with fail
  obtain ⟨w14, hW14⟩ : ∃ W, W = (w13).setCell ⟨qv2, 0, none⟩ (.string p) := ⟨_, rfl⟩
  rw [← hW14]
  have hb14 : Below w.heap.size w (w14) := by rw [hW14]; exact (hb13.setCell (p := ⟨qv2, 0, none⟩) HGv2.out _)
  have HON_14 : Hid ((w14).ownsRow w.heap.size 9 1 (.slice oN n1 pN) n1 (xs.map Value.string)) := by show World.ownsRow _ _ _ _ _ _ _; rw [hW14]; exact owns_same HON_13.out (fun g hg => heap_setCell_other _ _ g _ (own_ne HON_13.out HBv2_13.out (by decide) g hg))
  have HOV_14 : Hid ((w14).ownsRow w.heap.size 9 1 (.slice oV n2 pV) n2 (ys.map Value.string)) := by show World.ownsRow _ _ _ _ _ _ _; rw [hW14]; exact owns_same HOV_13.out (fun g hg => heap_setCell_other _ _ g _ (own_ne HOV_13.out HBv2_13.out (by decide) g hg))
  have HOF_14 : Hid ((w14).ownsRow w.heap.size 68 2 (.slice oF n3 pF) n3 (flatF fs)) := by show World.ownsRow _ _ _ _ _ _ _; rw [hW14]; exact owns_same HOF_13.out (fun g hg => heap_setCell_other _ _ g _ (own_ne HOF_13.out HBv2_13.out (by decide) g hg))
  have HBv1_14 : Hid ((w14).heap[qv1]? = some (.cells #[.string p, .slice a1 n1 c1, .slice a2 n2 c2, .int .i64 st, .slice a3 n3 c3, .string b, .int .i64 t] 29)) := by show _ = _; rw [hW14, heap_setCell_other _ _ _ _ HNv1v2.out]; exact HBv1_13.out
  have HBv3_14 : Hid ((w14).heap[qv3]? = some (.cells #[.string p, .slice oN n1 pN, .slice oV n2 pV, .int .i64 st, .slice oF n3 pF, .string b, .int .i64 t] 40)) := by show _ = _; rw [hW14, heap_setCell_other _ _ _ _ HNv2v3.out.symm]; exact HBv3_13.out
  have HBv2_14 : Hid ((w14).heap[qv2]? = some (.cells #[.string p, .slice none 0 0, .slice none 0 0, .int .i64 0, .slice none 0 0, .string ⟨#[]⟩, .int .i64 0] 40)) := by show _ = _; rw [hW14]; have h := heap_set _ _ 0 _ _ _ (.string p) HBv2_13.out; simpa using h
  clear hb13 HON_13 HOV_13 HOF_13 HBv1_13 HBv2_13 HBv3_13 hW14
  obtain ⟨w15, hW15⟩ : ∃ W, W = (w14).setCell ⟨qv2, 1, none⟩ (.slice oN n1 pN) := ⟨_, rfl⟩
  rw [← hW15]
  have hb15 : Below w.heap.size w (w15) := by rw [hW15]; exact (hb14.setCell (p := ⟨qv2, 1, none⟩) HGv2.out _)
  have HON_15 : Hid ((w15).ownsRow w.heap.size 9 1 (.slice oN n1 pN) n1 (xs.map Value.string)) := by show World.ownsRow _ _ _ _ _ _ _; rw [hW15]; exact owns_same HON_14.out (fun g hg => heap_setCell_other _ _ g _ (own_ne HON_14.out HBv2_14.out (by decide) g hg))
  have HOV_15 : Hid ((w15).ownsRow w.heap.size 9 1 (.slice oV n2 pV) n2 (ys.map Value.string)) := by show World.ownsRow _ _ _ _ _ _ _; rw [hW15]; exact owns_same HOV_14.out (fun g hg => heap_setCell_other _ _ g _ (own_ne HOV_14.out HBv2_14.out (by decide) g hg))
  have HOF_15 : Hid ((w15).ownsRow w.heap.size 68 2 (.slice oF n3 pF) n3 (flatF fs)) := by show World.ownsRow _ _ _ _ _ _ _; rw [hW15]; exact owns_same HOF_14.out (fun g hg => heap_setCell_other _ _ g _ (own_ne HOF_14.out HBv2_14.out (by decide) g hg))
  have HBv1_15 : Hid ((w15).heap[qv1]? = some (.cells #[.string p, .slice a1 n1 c1, .slice a2 n2 c2, .int .i64 st, .slice a3 n3 c3, .string b, .int .i64 t] 29)) := by show _ = _; rw [hW15, heap_setCell_other _ _ _ _ HNv1v2.out]; exact HBv1_14.out
  have HBv3_15 : Hid ((w15).heap[qv3]? = some (.cells #[.string p, .slice oN n1 pN, .slice oV n2 pV, .int .i64 st, .slice oF n3 pF, .string b, .int .i64 t] 40)) := by show _ = _; rw [hW15, heap_setCell_other _ _ _ _ HNv2v3.out.symm]; exact HBv3_14.out
  have HBv2_15 : Hid ((w15).heap[qv2]? = some (.cells #[.string p, .slice oN n1 pN, .slice none 0 0, .int .i64 0, .slice none 0 0, .string ⟨#[]⟩, .int .i64 0] 40)) := by show _ = _; rw [hW15]; have h := heap_set _ _ 1 _ _ _ (.slice oN n1 pN) HBv2_14.out; simpa using h
  clear hb14 HON_14 HOV_14 HOF_14 HBv1_14 HBv2_14 HBv3_14 hW15
  obtain ⟨w16, hW16⟩ : ∃ W, W = (w15).setCell ⟨qv2, 2, none⟩ (.slice oV n2 pV) := ⟨_, rfl⟩
  rw [← hW16]
  have hb16 : Below w.heap.size w (w16) := by rw [hW16]; exact (hb15.setCell (p := ⟨qv2, 2, none⟩) HGv2.out _)
  have HON_16 : Hid ((w16).ownsRow w.heap.size 9 1 (.slice oN n1 pN) n1 (xs.map Value.string)) := by show World.ownsRow _ _ _ _ _ _ _; rw [hW16]; exact owns_same HON_15.out (fun g hg => heap_setCell_other _ _ g _ (own_ne HON_15.out HBv2_15.out (by decide) g hg))
  have HOV_16 : Hid ((w16).ownsRow w.heap.size 9 1 (.slice oV n2 pV) n2 (ys.map Value.string)) := by show World.ownsRow _ _ _ _ _ _ _; rw [hW16]; exact owns_same HOV_15.out (fun g hg => heap_setCell_other _ _ g _ (own_ne HOV_15.out HBv2_15.out (by decide) g hg))
  have HOF_16 : Hid ((w16).ownsRow w.heap.size 68 2 (.slice oF n3 pF) n3 (flatF fs)) := by show World.ownsRow _ _ _ _ _ _ _; rw [hW16]; exact owns_same HOF_15.out (fun g hg => heap_setCell_other _ _ g _ (own_ne HOF_15.out HBv2_15.out (by decide) g hg))
  have HBv1_16 : Hid ((w16).heap[qv1]? = some (.cells #[.string p, .slice a1 n1 c1, .slice a2 n2 c2, .int .i64 st, .slice a3 n3 c3, .string b, .int .i64 t] 29)) := by show _ = _; rw [hW16, heap_setCell_other _ _ _ _ HNv1v2.out]; exact HBv1_15.out
  have HBv3_16 : Hid ((w16).heap[qv3]? = some (.cells #[.string p, .slice oN n1 pN, .slice oV n2 pV, .int .i64 st, .slice oF n3 pF, .string b, .int .i64 t] 40)) := by show _ = _; rw [hW16, heap_setCell_other _ _ _ _ HNv2v3.out.symm]; exact HBv3_15.out
  have HBv2_16 : Hid ((w16).heap[qv2]? = some (.cells #[.string p, .slice oN n1 pN, .slice oV n2 pV, .int .i64 0, .slice none 0 0, .string ⟨#[]⟩, .int .i64 0] 40)) := by show _ = _; rw [hW16]; have h := heap_set _ _ 2 _ _ _ (.slice oV n2 pV) HBv2_15.out; simpa using h
  clear hb15 HON_15 HOV_15 HOF_15 HBv1_15 HBv2_15 HBv3_15 hW16
  obtain ⟨w17, hW17⟩ : ∃ W, W = (w16).setCell ⟨qv2, 3, none⟩ (.int .i64 st) := ⟨_, rfl⟩
  rw [← hW17]
  have hb17 : Below w.heap.size w (w17) := by rw [hW17]; exact (hb16.setCell (p := ⟨qv2, 3, none⟩) HGv2.out _)
  have HON_17 : Hid ((w17).ownsRow w.heap.size 9 1 (.slice oN n1 pN) n1 (xs.map Value.string)) := by show World.ownsRow _ _ _ _ _ _ _; rw [hW17]; exact owns_same HON_16.out (fun g hg => heap_setCell_other _ _ g _ (own_ne HON_16.out HBv2_16.out (by decide) g hg))
  have HOV_17 : Hid ((w17).ownsRow w.heap.size 9 1 (.slice oV n2 pV) n2 (ys.map Value.string)) := by show World.ownsRow _ _ _ _ _ _ _; rw [hW17]; exact owns_same HOV_16.out (fun g hg => heap_setCell_other _ _ g _ (own_ne HOV_16.out HBv2_16.out (by decide) g hg))
  have HOF_17 : Hid ((w17).ownsRow w.heap.size 68 2 (.slice oF n3 pF) n3 (flatF fs)) := by show World.ownsRow _ _ _ _ _ _ _; rw [hW17]; exact owns_same HOF_16.out (fun g hg => heap_setCell_other _ _ g _ (own_ne HOF_16.out HBv2_16.out (by decide) g hg))
  have HBv1_17 : Hid ((w17).heap[qv1]? = some (.cells #[.string p, .slice a1 n1 c1, .slice a2 n2 c2, .int .i64 st, .slice a3 n3 c3, .string b, .int .i64 t] 29)) := by show _ = _; rw [hW17, heap_setCell_other _ _ _ _ HNv1v2.out]; exact HBv1_16.out
  have HBv3_17 : Hid ((w17).heap[qv3]? = some (.cells #[.string p, .slice oN n1 pN, .slice oV n2 pV, .int .i64 st, .slice oF n3 pF, .string b, .int .i64 t] 40)) := by show _ = _; rw [hW17, heap_setCell_other _ _ _ _ HNv2v3.out.symm]; exact HBv3_16.out
  have HBv2_17 : Hid ((w17).heap[qv2]? = some (.cells #[.string p, .slice oN n1 pN, .slice oV n2 pV, .int .i64 st, .slice none 0 0, .string ⟨#[]⟩, .int .i64 0] 40)) := by show _ = _; rw [hW17]; have h := heap_set _ _ 3 _ _ _ (.int .i64 st) HBv2_16.out; simpa using h
  clear hb16 HON_16 HOV_16 HOF_16 HBv1_16 HBv2_16 HBv3_16 hW17
  obtain ⟨w18, hW18⟩ : ∃ W, W = (w17).setCell ⟨qv2, 4, none⟩ (.slice oF n3 pF) := ⟨_, rfl⟩
  rw [← hW18]
  have hb18 : Below w.heap.size w (w18) := by rw [hW18]; exact (hb17.setCell (p := ⟨qv2, 4, none⟩) HGv2.out _)
  have HON_18 : Hid ((w18).ownsRow w.heap.size 9 1 (.slice oN n1 pN) n1 (xs.map Value.string)) := by show World.ownsRow _ _ _ _ _ _ _; rw [hW18]; exact owns_same HON_17.out (fun g hg => heap_setCell_other _ _ g _ (own_ne HON_17.out HBv2_17.out (by decide) g hg))
  have HOV_18 : Hid ((w18).ownsRow w.heap.size 9 1 (.slice oV n2 pV) n2 (ys.map Value.string)) := by show World.ownsRow _ _ _ _ _ _ _; rw [hW18]; exact owns_same HOV_17.out (fun g hg => heap_setCell_other _ _ g _ (own_ne HOV_17.out HBv2_17.out (by decide) g hg))
  have HOF_18 : Hid ((w18).ownsRow w.heap.size 68 2 (.slice oF n3 pF) n3 (flatF fs)) := by show World.ownsRow _ _ _ _ _ _ _; rw [hW18]; exact owns_same HOF_17.out (fun g hg => heap_setCell_other _ _ g _ (own_ne HOF_17.out HBv2_17.out (by decide) g hg))
  have HBv1_18 : Hid ((w18).heap[qv1]? = some (.cells #[.string p, .slice a1 n1 c1, .slice a2 n2 c2, .int .i64 st, .slice a3 n3 c3, .string b, .int .i64 t] 29)) := by show _ = _; rw [hW18, heap_setCell_other _ _ _ _ HNv1v2.out]; exact HBv1_17.out
  have HBv3_18 : Hid ((w18).heap[qv3]? = some (.cells #[.string p, .slice oN n1 pN, .slice oV n2 pV, .int .i64 st, .slice oF n3 pF, .string b, .int .i64 t] 40)) := by show _ = _; rw [hW18, heap_setCell_other _ _ _ _ HNv2v3.out.symm]; exact HBv3_17.out
  have HBv2_18 : Hid ((w18).heap[qv2]? = some (.cells #[.string p, .slice oN n1 pN, .slice oV n2 pV, .int .i64 st, .slice oF n3 pF, .string ⟨#[]⟩, .int .i64 0] 40)) := by show _ = _; rw [hW18]; have h := heap_set _ _ 4 _ _ _ (.slice oF n3 pF) HBv2_17.out; simpa using h
  clear hb17 HON_17 HOV_17 HOF_17 HBv1_17 HBv2_17 HBv3_17 hW18
  obtain ⟨w19, hW19⟩ : ∃ W, W = (w18).setCell ⟨qv2, 5, none⟩ (.string b) := ⟨_, rfl⟩
  rw [← hW19]
  have hb19 : Below w.heap.size w (w19) := by rw [hW19]; exact (hb18.setCell (p := ⟨qv2, 5, none⟩) HGv2.out _)
  have HON_19 : Hid ((w19).ownsRow w.heap.size 9 1 (.slice oN n1 pN) n1 (xs.map Value.string)) := by show World.ownsRow _ _ _ _ _ _ _; rw [hW19]; exact owns_same HON_18.out (fun g hg => heap_setCell_other _ _ g _ (own_ne HON_18.out HBv2_18.out (by decide) g hg))
  have HOV_19 : Hid ((w19).ownsRow w.heap.size 9 1 (.slice oV n2 pV) n2 (ys.map Value.string)) := by show World.ownsRow _ _ _ _ _ _ _; rw [hW19]; exact owns_same HOV_18.out (fun g hg => heap_setCell_other _ _ g _ (own_ne HOV_18.out HBv2_18.out (by decide) g hg))
  have HOF_19 : Hid ((w19).ownsRow w.heap.size 68 2 (.slice oF n3 pF) n3 (flatF fs)) := by show World.ownsRow _ _ _ _ _ _ _; rw [hW19]; exact owns_same HOF_18.out (fun g hg => heap_setCell_other _ _ g _ (own_ne HOF_18.out HBv2_18.out (by decide) g hg))
  have HBv1_19 : Hid ((w19).heap[qv1]? = some (.cells #[.string p, .slice a1 n1 c1, .slice a2 n2 c2, .int .i64 st, .slice a3 n3 c3, .string b, .int .i64 t] 29)) := by show _ = _; rw [hW19, heap_setCell_other _ _ _ _ HNv1v2.out]; exact HBv1_18.out
  have HBv3_19 : Hid ((w19).heap[qv3]? = some (.cells #[.string p, .slice oN n1 pN, .slice oV n2 pV, .int .i64 st, .slice oF n3 pF, .string b, .int .i64 t] 40)) := by show _ = _; rw [hW19, heap_setCell_other _ _ _ _ HNv2v3.out.symm]; exact HBv3_18.out
  have HBv2_19 : Hid ((w19).heap[qv2]? = some (.cells #[.string p, .slice oN n1 pN, .slice oV n2 pV, .int .i64 st, .slice oF n3 pF, .string b, .int .i64 0] 40)) := by show _ = _; rw [hW19]; have h := heap_set _ _ 5 _ _ _ (.string b) HBv2_18.out; simpa using h
  clear hb18 HON_18 HOV_18 HOF_18 HBv1_18 HBv2_18 HBv3_18 hW19
  obtain ⟨w20, hW20⟩ : ∃ W, W = (w19).setCell ⟨qv2, 6, none⟩ (.int .i64 t) := ⟨_, rfl⟩
  rw [← hW20]
  have hb20 : Below w.heap.size w (w20) := by rw [hW20]; exact (hb19.setCell (p := ⟨qv2, 6, none⟩) HGv2.out _)
  have HON_20 : Hid ((w20).ownsRow w.heap.size 9 1 (.slice oN n1 pN) n1 (xs.map Value.string)) := by show World.ownsRow _ _ _ _ _ _ _; rw [hW20]; exact owns_same HON_19.out (fun g hg => heap_setCell_other _ _ g _ (own_ne HON_19.out HBv2_19.out (by decide) g hg))
  have HOV_20 : Hid ((w20).ownsRow w.heap.size 9 1 (.slice oV n2 pV) n2 (ys.map Value.string)) := by show World.ownsRow _ _ _ _ _ _ _; rw [hW20]; exact owns_same HOV_19.out (fun g hg => heap_setCell_other _ _ g _ (own_ne HOV_19.out HBv2_19.out (by decide) g hg))
  have HOF_20 : Hid ((w20).ownsRow w.heap.size 68 2 (.slice oF n3 pF) n3 (flatF fs)) := by show World.ownsRow _ _ _ _ _ _ _; rw [hW20]; exact owns_same HOF_19.out (fun g hg => heap_setCell_other _ _ g _ (own_ne HOF_19.out HBv2_19.out (by decide) g hg))
  have HBv1_20 : Hid ((w20).heap[qv1]? = some (.cells #[.string p, .slice a1 n1 c1, .slice a2 n2 c2, .int .i64 st, .slice a3 n3 c3, .string b, .int .i64 t] 29)) := by show _ = _; rw [hW20, heap_setCell_other _ _ _ _ HNv1v2.out]; exact HBv1_19.out
  have HBv3_20 : Hid ((w20).heap[qv3]? = some (.cells #[.string p, .slice oN n1 pN, .slice oV n2 pV, .int .i64 st, .slice oF n3 pF, .string b, .int .i64 t] 40)) := by show _ = _; rw [hW20, heap_setCell_other _ _ _ _ HNv2v3.out.symm]; exact HBv3_19.out
  have HBv2_20 : Hid ((w20).heap[qv2]? = some (.cells #[.string p, .slice oN n1 pN, .slice oV n2 pV, .int .i64 st, .slice oF n3 pF, .string b, .int .i64 t] 40)) := by show _ = _; rw [hW20]; have h := heap_set _ _ 6 _ _ _ (.int .i64 t) HBv2_19.out; simpa using h
  clear hb19 HON_19 HOV_19 HOF_19 HBv1_19 HBv2_19 HBv3_19 hW20
  have kv2_0 : (w20).cell? ⟨qv2, 0, none⟩ = some (.string p) := (cell_of HBv2_20.out 0).trans rfl
  have kv2_1 : (w20).cell? ⟨qv2, 1, none⟩ = some (.slice oN n1 pN) := (cell_of HBv2_20.out 1).trans rfl
  have kv2_2 : (w20).cell? ⟨qv2, 2, none⟩ = some (.slice oV n2 pV) := (cell_of HBv2_20.out 2).trans rfl
  have kv2_3 : (w20).cell? ⟨qv2, 3, none⟩ = some (.int .i64 st) := (cell_of HBv2_20.out 3).trans rfl
  have kv2_4 : (w20).cell? ⟨qv2, 4, none⟩ = some (.slice oF n3 pF) := (cell_of HBv2_20.out 4).trans rfl
  have kv2_5 : (w20).cell? ⟨qv2, 5, none⟩ = some (.string b) := (cell_of HBv2_20.out 5).trans rfl
  have kv2_6 : (w20).cell? ⟨qv2, 6, none⟩ = some (.int .i64 t) := (cell_of HBv2_20.out 6).trans rfl
  refine bodyPost_ret (v := .agg #[.string p, .slice oN n1 pN, .slice oV n2 pV, .int .i64 st, .slice oF n3 pF, .string b, .int .i64 t]) (by simp [results, Tryd.results17, go_sem, kv2_0, kv2_1, kv2_2, kv2_3, kv2_4, kv2_5, kv2_6]) rfl ?_
  exact ⟨_, _, _, rfl, ⟨HON_20.out, HOV_20.out, HOF_20.out, fun g hg e => by have h1 := LOV.out g e; have h2 := HIN.out g hg; have := HM6.out; have := HM7.out; omega⟩, hb20⟩

theorem argUp {w : World} {B B' : Nat} {a : Option Addr} {n : Nat} {fs : List (ByteArray × ByteArray)} (h : ArgF w B a n fs) (hB : B ≤ B') : ArgF w B' a n fs :=
  ⟨h.len, fun i hi => by
    obtain ⟨b, off, h1, h2, h3⟩ := h.get i hi
    exact ⟨b, off, h1, Nat.lt_of_lt_of_le h2 hB, h3⟩⟩
/-- An object's measure: negative, or the room that is left of L. -/
def SzObj (L : Int) (p : ByteArray) (n1 : Nat) (xs : List ByteArray) (n2 : Nat) (ys : List ByteArray) (n3 : Nat) (fs : List (ByteArray × ByteArray)) (b : ByteArray) (w : World) (e : Ending) (w' : World) : Prop :=
  ∃ r : Int, e = .returned (.int .i64 r) ∧ r ≤ L ∧ (0 ≤ r → r + (n1 : Int) + (n2 : Int) + (n3 : Int) ≤ L ∧ (p.size ≤ 1048576 ∧ b.size ≤ 1048576) ∧ (n1 ≤ 1048576 ∧ ∀ i, i < n1 → (textAt xs i).size ≤ 1048576) ∧ (n2 ≤ 1048576 ∧ ∀ i, i < n2 → (textAt ys i).size ≤ 1048576) ∧ n3 ≤ 1048576 ∧ szTo fs n3 ≤ 1048576) ∧ Below w.heap.size w w'

set_option maxHeartbeats 4000000 in
set_option maxRecDepth 100000 in
theorem szObj_any (L : Int) (hL0 : 0 ≤ L) (hL1 : L ≤ 1048576) (p : ByteArray) (a1 : Option Addr) (n1 c1 : Nat) (xs : List ByteArray) (a2 : Option Addr) (n2 c2 : Nat) (ys : List ByteArray) (st : Int) (a3 : Option Addr) (n3 c3 : Nat) (fs : List (ByteArray × ByteArray)) (b : ByteArray) (t : Int) (B : Nat) (w : World) (h1 : ArgT w B a1 n1 xs) (h2 : ArgT w B a2 n2 ys) (h3 : ArgF w B a3 n3 fs) (hB : B ≤ w.heap.size) (hn1 : n1 ≤ maxLen) (hn2 : n2 ≤ maxLen) (hn3 : n3 ≤ maxLen) (hs1 : ∀ i, i < n1 → (textAt xs i).size ≤ maxLen) (hs2 : ∀ i, i < n2 → (textAt ys i).size ≤ maxLen) (hs3 : WalkF n3 fs) (hp : p.size ≤ maxLen) (hx : b.size ≤ maxLen) :
    Calls Tryd.prog 11 #[.agg #[.string p, .slice a1 n1 c1, .slice a2 n2 c2, .int .i64 st, .slice a3 n3 c3, .string b, .int .i64 t], .int .i64 L] w fun e w' => SzObj L p n1 xs n2 ys n3 fs b w e w' := by
  have HA1 : Hid (∀ W, Below w.heap.size w W → ArgT W B a1 n1 xs) := fun W h => h1.below (h.mono hB)
  have HA2 : Hid (∀ W, Below w.heap.size w W → ArgT W B a2 n2 ys) := fun W h => h2.below (h.mono hB)
  have HA3 : Hid (∀ W, Below w.heap.size w W → ArgF W B a3 n3 fs) := fun W h => h3.below (h.mono hB)
  have HBB : Hid (∀ W, Below w.heap.size w W → B ≤ W.heap.size) := fun W h => Nat.le_trans hB h.size
  clear h1 h2 h3
  have HN1 : Hid (n1 ≤ maxLen) := hn1
  have HN2 : Hid (n2 ≤ maxLen) := hn2
  have HN3 : Hid (n3 ≤ maxLen) := hn3
  have HS1 : Hid (∀ i, i < n1 → (textAt xs i).size ≤ maxLen) := hs1
  have HS2 : Hid (∀ i, i < n2 → (textAt ys i).size ≤ maxLen) := hs2
  have HS3 : Hid (WalkF n3 fs) := hs3
  have HX : Hid (b.size ≤ maxLen) := hx
  unfold maxLen at hp
  clear hs1 hs2 hs3 hn1 hn2 hn3 hx
  have hb0 : Below w.heap.size w w := Below.refl _ _
  go_enter Tryd.func11, Tryd.ntmps11
  go_upto_region 1 with fail
  obtain ⟨qv1, hqv1⟩ : ∃ q, q = (w).heap.size := ⟨_, rfl⟩
  obtain ⟨w1, hW1⟩ : ∃ W, W = (w).alloc (.cells #[.string p, .slice a1 n1 c1, .slice a2 n2 c2, .int .i64 st, .slice a3 n3 c3, .string b, .int .i64 t] 29) := ⟨_, rfl⟩
  have hz1 : (w).heap.size = qv1 := hqv1.symm
  first | rw [← hW1, ← hqv1] | rw [← hW1]
  have hs1 : w1.heap.size = qv1 + 1 := by rw [hW1, ← hz1]; simp
  have bw : Below (w).heap.size (w) w1 := by rw [hW1]; exact (Below.refl _ _).alloc (Nat.le_refl _) _
  have hb1 : Below w.heap.size w (w1) := hb0.trans (bw.mono hb0.size)
  have HBv1_1 : Hid ((w1).heap[qv1]? = some (.cells #[.string p, .slice a1 n1 c1, .slice a2 n2 c2, .int .i64 st, .slice a3 n3 c3, .string b, .int .i64 t] 29)) := by show _ = _; rw [hW1, ← hz1]; exact heap_alloc_new _ _
  clear hb0 bw hW1 hz1
  clear hs1 hqv1
  have cv1_0 : (w1).cell? ⟨qv1, 0, none⟩ = some (.string p) := (cell_of HBv1_1.out 0).trans rfl
  by_cases hc1 : (L - (p.size : Int)) < 0
  · go_wp2_with fail
    go_ret
    exact ⟨-1, rfl, by omega, fun h => absurd h (by omega), hb1⟩
  · have cv1_1 : (w1).cell? ⟨qv1, 1, none⟩ = some (.slice a1 n1 c1) := (cell_of HBv1_1.out 1).trans rfl
    go_wp2_with fail
    refine (szStringS_exact (L - (p.size : Int)) (by omega) (by omega) B a1 n1 c1 xs _ (HA1.out _ hb1) (HBB.out _ hb1) HN1.out HS1.out).mono ?_
    rintro e w2 ⟨r2, rfl, hlr2, hrr2, bw⟩
    have hb2 : Below w.heap.size w (w2) := hb1.trans (bw.mono hb1.size)
    have HBv1_2 : Hid ((w2).heap[qv1]? = some (.cells #[.string p, .slice a1 n1 c1, .slice a2 n2 c2, .int .i64 st, .slice a3 n3 c3, .string b, .int .i64 t] 29)) := blk_below HBv1_1.out bw
    clear hb1 HBv1_1 bw
    clear cv1_0 cv1_1
    by_cases hc3 : r2 < 0
    · clear hrr2
      go_wp2_with fail
      go_ret
      exact ⟨-1, rfl, by omega, fun h => absurd h (by omega), hb2⟩
    · obtain ⟨her2, hnr2, hzr2⟩ := hrr2 (by omega)
      have HZr2 := (show Hid _ from hzr2)
      clear hrr2 hzr2
      have cv1_2 : (w2).cell? ⟨qv1, 2, none⟩ = some (.slice a2 n2 c2) := (cell_of HBv1_2.out 2).trans rfl
      go_wp2_with fail
      refine (szStringS_exact r2 (by omega) (by omega) B a2 n2 c2 ys _ (HA2.out _ hb2) (HBB.out _ hb2) HN2.out HS2.out).mono ?_
      rintro e w3 ⟨r4, rfl, hlr4, hrr4, bw⟩
      have hb3 : Below w.heap.size w (w3) := hb2.trans (bw.mono hb2.size)
      have HBv1_3 : Hid ((w3).heap[qv1]? = some (.cells #[.string p, .slice a1 n1 c1, .slice a2 n2 c2, .int .i64 st, .slice a3 n3 c3, .string b, .int .i64 t] 29)) := blk_below HBv1_2.out bw
      clear hb2 HBv1_2 bw
      clear cv1_2
      by_cases hc5 : r4 < 0
      · clear hrr4
        go_wp2_with fail
        go_ret
        exact ⟨-1, rfl, by omega, fun h => absurd h (by omega), hb3⟩
      · obtain ⟨her4, hnr4, hzr4⟩ := hrr4 (by omega)
        have HZr4 := (show Hid _ from hzr4)
        clear hrr4 hzr4
        have cv1_3 : (w3).cell? ⟨qv1, 3, none⟩ = some (.int .i64 st) := (cell_of HBv1_3.out 3).trans rfl
        have cv1_4 : (w3).cell? ⟨qv1, 4, none⟩ = some (.slice a3 n3 c3) := (cell_of HBv1_3.out 4).trans rfl
        have cv1_5 : (w3).cell? ⟨qv1, 5, none⟩ = some (.string b) := (cell_of HBv1_3.out 5).trans rfl
        go_wp2_with fail
        refine (szResp_room r4 (by omega) (by omega) st a3 n3 c3 b fs _ (argUp (HA3.out _ hb3) (HBB.out _ hb3)) HN3.out HS3.out HX.out).mono ?_
        rintro e w4 ⟨r6, rfl, hlr6, hrr6, bw⟩
        have hb4 : Below w.heap.size w (w4) := hb3.trans (bw.mono hb3.size)
        have HBv1_4 : Hid ((w4).heap[qv1]? = some (.cells #[.string p, .slice a1 n1 c1, .slice a2 n2 c2, .int .i64 st, .slice a3 n3 c3, .string b, .int .i64 t] 29)) := blk_below HBv1_3.out bw
        clear hb3 HBv1_3 bw
        clear cv1_3 cv1_4 cv1_5
        by_cases hc7 : r6 < 0
        · clear hrr6
          go_wp2_with fail
          go_ret
          exact ⟨-1, rfl, by omega, fun h => absurd h (by omega), hb4⟩
        · obtain ⟨her6, hxr6, hnr6, hzr6⟩ := hrr6 (by omega)
          clear hrr6
          go_wp2_with fail
          go_ret
          exact ⟨_, rfl, by omega, fun _ => ⟨by omega, ⟨by omega, by omega⟩, ⟨by omega, HZr2.out⟩, ⟨by omega, HZr4.out⟩, by omega, by omega⟩, hb4⟩

set_option maxHeartbeats 4000000 in
set_option maxRecDepth 100000 in
theorem eqObj_any (p : ByteArray) (n1 : Nat) (xs : List ByteArray) (n2 : Nat) (ys : List ByteArray) (st : Int) (n3 : Nat) (fs : List (ByteArray × ByteArray)) (b : ByteArray) (t : Int) (v1 v2 v3 u1 u2 u3 : Value) (B1 B2 : Nat) (w : World) (hx : ObjO w B1 v1 n1 xs v2 n2 ys v3 n3 fs) (hy : ObjO w B2 u1 n1 xs u2 n2 ys u3 n3 fs) (hn1 : n1 ≤ 2000000) (hn2 : n2 ≤ 2000000) (hn3 : n3 ≤ 2000000) :
    Calls Tryd.prog 24 #[.agg #[.string p, v1, v2, .int .i64 st, v3, .string b, .int .i64 t], .agg #[.string p, u1, u2, .int .i64 st, u3, .string b, .int .i64 t]] w fun e w' => e = .returned (.bool true) ∧ Below w.heap.size w w' := by
  obtain ⟨oNx, pNx, rfl⟩ := slice_of_owns hx.names
  obtain ⟨oVx, pVx, rfl⟩ := slice_of_owns hx.vals
  obtain ⟨oFx, pFx, rfl⟩ := slice_of_owns hx.flds
  have HONx_0 : Hid ((w).ownsRow B1 9 1 (.slice oNx n1 pNx) n1 (xs.map Value.string)) := hx.names
  have HOVx_0 : Hid ((w).ownsRow B1 9 1 (.slice oVx n2 pVx) n2 (ys.map Value.string)) := hx.vals
  have HOFx_0 : Hid ((w).ownsRow B1 68 2 (.slice oFx n3 pFx) n3 (flatF fs)) := hx.flds
  clear hx
  obtain ⟨oNy, pNy, rfl⟩ := slice_of_owns hy.names
  obtain ⟨oVy, pVy, rfl⟩ := slice_of_owns hy.vals
  obtain ⟨oFy, pFy, rfl⟩ := slice_of_owns hy.flds
  have HONy_0 : Hid ((w).ownsRow B2 9 1 (.slice oNy n1 pNy) n1 (xs.map Value.string)) := hy.names
  have HOVy_0 : Hid ((w).ownsRow B2 9 1 (.slice oVy n2 pVy) n2 (ys.map Value.string)) := hy.vals
  have HOFy_0 : Hid ((w).ownsRow B2 68 2 (.slice oFy n3 pFy) n3 (flatF fs)) := hy.flds
  clear hy
  have hpp : (p.toList != p.toList) = false := by simp
  have htt : (t != t) = false := by simp
  have hb0 : Below w.heap.size w w := Below.refl _ _
  go_enter Tryd.func24, Tryd.ntmps24
  go_upto_region 1 with fail
  obtain ⟨qv1, hqv1⟩ : ∃ q, q = (w).heap.size := ⟨_, rfl⟩
  obtain ⟨w1, hW1⟩ : ∃ W, W = (w).alloc (.cells #[.string p, .slice oNx n1 pNx, .slice oVx n2 pVx, .int .i64 st, .slice oFx n3 pFx, .string b, .int .i64 t] 40) := ⟨_, rfl⟩
  have hz1 : (w).heap.size = qv1 := hqv1.symm
  first | rw [← hW1, ← hqv1] | rw [← hW1]
  have hs1 : w1.heap.size = qv1 + 1 := by rw [hW1, ← hz1]; simp
  have bw : Below (w).heap.size (w) w1 := by rw [hW1]; exact (Below.refl _ _).alloc (Nat.le_refl _) _
  have hb1 : Below w.heap.size w (w1) := hb0.trans (bw.mono hb0.size)
  have HONx_1 : Hid ((w1).ownsRow B1 9 1 (.slice oNx n1 pNx) n1 (xs.map Value.string)) := owns_below HONx_0.out bw (fun g hg => owns_lt HONx_0.out hg)
  have HOVx_1 : Hid ((w1).ownsRow B1 9 1 (.slice oVx n2 pVx) n2 (ys.map Value.string)) := owns_below HOVx_0.out bw (fun g hg => owns_lt HOVx_0.out hg)
  have HOFx_1 : Hid ((w1).ownsRow B1 68 2 (.slice oFx n3 pFx) n3 (flatF fs)) := owns_below HOFx_0.out bw (fun g hg => owns_lt HOFx_0.out hg)
  have HONy_1 : Hid ((w1).ownsRow B2 9 1 (.slice oNy n1 pNy) n1 (xs.map Value.string)) := owns_below HONy_0.out bw (fun g hg => owns_lt HONy_0.out hg)
  have HOVy_1 : Hid ((w1).ownsRow B2 9 1 (.slice oVy n2 pVy) n2 (ys.map Value.string)) := owns_below HOVy_0.out bw (fun g hg => owns_lt HOVy_0.out hg)
  have HOFy_1 : Hid ((w1).ownsRow B2 68 2 (.slice oFy n3 pFy) n3 (flatF fs)) := owns_below HOFy_0.out bw (fun g hg => owns_lt HOFy_0.out hg)
  have HBv1_1 : Hid ((w1).heap[qv1]? = some (.cells #[.string p, .slice oNx n1 pNx, .slice oVx n2 pVx, .int .i64 st, .slice oFx n3 pFx, .string b, .int .i64 t] 40)) := by show _ = _; rw [hW1, ← hz1]; exact heap_alloc_new _ _
  clear hb0 HONx_0 HOVx_0 HOFx_0 HONy_0 HOVy_0 HOFy_0 bw hW1 hz1
  obtain ⟨qv2, hqv2⟩ : ∃ q, q = qv1 + 1 := ⟨_, rfl⟩
  obtain ⟨w2, hW2⟩ : ∃ W, W = (w1).alloc (.cells #[.string p, .slice oNy n1 pNy, .slice oVy n2 pVy, .int .i64 st, .slice oFy n3 pFy, .string b, .int .i64 t] 40) := ⟨_, rfl⟩
  have hz2 : (w1).heap.size = qv2 := by rw [hqv2]; exact hs1
  first | rw [← hW2, ← hqv2] | rw [← hW2]
  have hs2 : w2.heap.size = qv2 + 1 := by rw [hW2, ← hz2]; simp
  have bw : Below (w1).heap.size (w1) w2 := by rw [hW2]; exact (Below.refl _ _).alloc (Nat.le_refl _) _
  have hb2 : Below w.heap.size w (w2) := hb1.trans (bw.mono hb1.size)
  have HONx_2 : Hid ((w2).ownsRow B1 9 1 (.slice oNx n1 pNx) n1 (xs.map Value.string)) := owns_below HONx_1.out bw (fun g hg => owns_lt HONx_1.out hg)
  have HOVx_2 : Hid ((w2).ownsRow B1 9 1 (.slice oVx n2 pVx) n2 (ys.map Value.string)) := owns_below HOVx_1.out bw (fun g hg => owns_lt HOVx_1.out hg)
  have HOFx_2 : Hid ((w2).ownsRow B1 68 2 (.slice oFx n3 pFx) n3 (flatF fs)) := owns_below HOFx_1.out bw (fun g hg => owns_lt HOFx_1.out hg)
  have HONy_2 : Hid ((w2).ownsRow B2 9 1 (.slice oNy n1 pNy) n1 (xs.map Value.string)) := owns_below HONy_1.out bw (fun g hg => owns_lt HONy_1.out hg)
  have HOVy_2 : Hid ((w2).ownsRow B2 9 1 (.slice oVy n2 pVy) n2 (ys.map Value.string)) := owns_below HOVy_1.out bw (fun g hg => owns_lt HOVy_1.out hg)
  have HOFy_2 : Hid ((w2).ownsRow B2 68 2 (.slice oFy n3 pFy) n3 (flatF fs)) := owns_below HOFy_1.out bw (fun g hg => owns_lt HOFy_1.out hg)
  have HBv1_2 : Hid ((w2).heap[qv1]? = some (.cells #[.string p, .slice oNx n1 pNx, .slice oVx n2 pVx, .int .i64 st, .slice oFx n3 pFx, .string b, .int .i64 t] 40)) := blk_below HBv1_1.out bw
  have HBv2_2 : Hid ((w2).heap[qv2]? = some (.cells #[.string p, .slice oNy n1 pNy, .slice oVy n2 pVy, .int .i64 st, .slice oFy n3 pFy, .string b, .int .i64 t] 40)) := by show _ = _; rw [hW2, ← hz2]; exact heap_alloc_new _ _
  clear hb1 HONx_1 HOVx_1 HOFx_1 HONy_1 HOVy_1 HOFy_1 HBv1_1 bw hW2 hz2
  clear hs2 hqv2 hs1 hqv1
  have cv1_0 : (w2).cell? ⟨qv1, 0, none⟩ = some (.string p) := (cell_of HBv1_2.out 0).trans rfl
  have cv2_0 : (w2).cell? ⟨qv2, 0, none⟩ = some (.string p) := (cell_of HBv2_2.out 0).trans rfl
  have cv1_1 : (w2).cell? ⟨qv1, 1, none⟩ = some (.slice oNx n1 pNx) := (cell_of HBv1_2.out 1).trans rfl
  have cv2_1 : (w2).cell? ⟨qv2, 1, none⟩ = some (.slice oNy n1 pNy) := (cell_of HBv2_2.out 1).trans rfl
  go_wp2_with fail
  refine (eqS_any _ _ n1 _ _ xs _ HONx_2.out HONy_2.out (by omega)).mono ?_
  rintro e w3 ⟨rfl, bw⟩
  have hb3 : Below w.heap.size w (w3) := hb2.trans (bw.mono hb2.size)
  have HONx_3 : Hid ((w3).ownsRow B1 9 1 (.slice oNx n1 pNx) n1 (xs.map Value.string)) := owns_below HONx_2.out bw (fun g hg => owns_lt HONx_2.out hg)
  have HOVx_3 : Hid ((w3).ownsRow B1 9 1 (.slice oVx n2 pVx) n2 (ys.map Value.string)) := owns_below HOVx_2.out bw (fun g hg => owns_lt HOVx_2.out hg)
  have HOFx_3 : Hid ((w3).ownsRow B1 68 2 (.slice oFx n3 pFx) n3 (flatF fs)) := owns_below HOFx_2.out bw (fun g hg => owns_lt HOFx_2.out hg)
  have HONy_3 : Hid ((w3).ownsRow B2 9 1 (.slice oNy n1 pNy) n1 (xs.map Value.string)) := owns_below HONy_2.out bw (fun g hg => owns_lt HONy_2.out hg)
  have HOVy_3 : Hid ((w3).ownsRow B2 9 1 (.slice oVy n2 pVy) n2 (ys.map Value.string)) := owns_below HOVy_2.out bw (fun g hg => owns_lt HOVy_2.out hg)
  have HOFy_3 : Hid ((w3).ownsRow B2 68 2 (.slice oFy n3 pFy) n3 (flatF fs)) := owns_below HOFy_2.out bw (fun g hg => owns_lt HOFy_2.out hg)
  have HBv1_3 : Hid ((w3).heap[qv1]? = some (.cells #[.string p, .slice oNx n1 pNx, .slice oVx n2 pVx, .int .i64 st, .slice oFx n3 pFx, .string b, .int .i64 t] 40)) := blk_below HBv1_2.out bw
  have HBv2_3 : Hid ((w3).heap[qv2]? = some (.cells #[.string p, .slice oNy n1 pNy, .slice oVy n2 pVy, .int .i64 st, .slice oFy n3 pFy, .string b, .int .i64 t] 40)) := blk_below HBv2_2.out bw
  clear hb2 HONx_2 HOVx_2 HOFx_2 HONy_2 HOVy_2 HOFy_2 HBv1_2 HBv2_2 bw
  clear cv1_0 cv2_0 cv1_1 cv2_1
  have cv1_2 : (w3).cell? ⟨qv1, 2, none⟩ = some (.slice oVx n2 pVx) := (cell_of HBv1_3.out 2).trans rfl
  have cv2_2 : (w3).cell? ⟨qv2, 2, none⟩ = some (.slice oVy n2 pVy) := (cell_of HBv2_3.out 2).trans rfl
  go_wp2_with fail
  refine (eqS_any _ _ n2 _ _ ys _ HOVx_3.out HOVy_3.out (by omega)).mono ?_
  rintro e w4 ⟨rfl, bw⟩
  have hb4 : Below w.heap.size w (w4) := hb3.trans (bw.mono hb3.size)
  have HONx_4 : Hid ((w4).ownsRow B1 9 1 (.slice oNx n1 pNx) n1 (xs.map Value.string)) := owns_below HONx_3.out bw (fun g hg => owns_lt HONx_3.out hg)
  have HOVx_4 : Hid ((w4).ownsRow B1 9 1 (.slice oVx n2 pVx) n2 (ys.map Value.string)) := owns_below HOVx_3.out bw (fun g hg => owns_lt HOVx_3.out hg)
  have HOFx_4 : Hid ((w4).ownsRow B1 68 2 (.slice oFx n3 pFx) n3 (flatF fs)) := owns_below HOFx_3.out bw (fun g hg => owns_lt HOFx_3.out hg)
  have HONy_4 : Hid ((w4).ownsRow B2 9 1 (.slice oNy n1 pNy) n1 (xs.map Value.string)) := owns_below HONy_3.out bw (fun g hg => owns_lt HONy_3.out hg)
  have HOVy_4 : Hid ((w4).ownsRow B2 9 1 (.slice oVy n2 pVy) n2 (ys.map Value.string)) := owns_below HOVy_3.out bw (fun g hg => owns_lt HOVy_3.out hg)
  have HOFy_4 : Hid ((w4).ownsRow B2 68 2 (.slice oFy n3 pFy) n3 (flatF fs)) := owns_below HOFy_3.out bw (fun g hg => owns_lt HOFy_3.out hg)
  have HBv1_4 : Hid ((w4).heap[qv1]? = some (.cells #[.string p, .slice oNx n1 pNx, .slice oVx n2 pVx, .int .i64 st, .slice oFx n3 pFx, .string b, .int .i64 t] 40)) := blk_below HBv1_3.out bw
  have HBv2_4 : Hid ((w4).heap[qv2]? = some (.cells #[.string p, .slice oNy n1 pNy, .slice oVy n2 pVy, .int .i64 st, .slice oFy n3 pFy, .string b, .int .i64 t] 40)) := blk_below HBv2_3.out bw
  clear hb3 HONx_3 HOVx_3 HOFx_3 HONy_3 HOVy_3 HOFy_3 HBv1_3 HBv2_3 bw
  clear cv1_2 cv2_2
  have cv1_3 : (w4).cell? ⟨qv1, 3, none⟩ = some (.int .i64 st) := (cell_of HBv1_4.out 3).trans rfl
  have cv1_4 : (w4).cell? ⟨qv1, 4, none⟩ = some (.slice oFx n3 pFx) := (cell_of HBv1_4.out 4).trans rfl
  have cv1_5 : (w4).cell? ⟨qv1, 5, none⟩ = some (.string b) := (cell_of HBv1_4.out 5).trans rfl
  have cv2_3 : (w4).cell? ⟨qv2, 3, none⟩ = some (.int .i64 st) := (cell_of HBv2_4.out 3).trans rfl
  have cv2_4 : (w4).cell? ⟨qv2, 4, none⟩ = some (.slice oFy n3 pFy) := (cell_of HBv2_4.out 4).trans rfl
  have cv2_5 : (w4).cell? ⟨qv2, 5, none⟩ = some (.string b) := (cell_of HBv2_4.out 5).trans rfl
  go_wp2_with fail
  refine (eqResp_any st _ _ b n3 _ _ fs _ (FieldsV.of_owns HOFx_4.out) (FieldsV.of_owns HOFy_4.out) (by omega)).mono ?_
  rintro e w5 ⟨rfl, bw⟩
  have hb5 : Below w.heap.size w (w5) := hb4.trans (bw.mono hb4.size)
  have HONx_5 : Hid ((w5).ownsRow B1 9 1 (.slice oNx n1 pNx) n1 (xs.map Value.string)) := owns_below HONx_4.out bw (fun g hg => owns_lt HONx_4.out hg)
  have HOVx_5 : Hid ((w5).ownsRow B1 9 1 (.slice oVx n2 pVx) n2 (ys.map Value.string)) := owns_below HOVx_4.out bw (fun g hg => owns_lt HOVx_4.out hg)
  have HOFx_5 : Hid ((w5).ownsRow B1 68 2 (.slice oFx n3 pFx) n3 (flatF fs)) := owns_below HOFx_4.out bw (fun g hg => owns_lt HOFx_4.out hg)
  have HONy_5 : Hid ((w5).ownsRow B2 9 1 (.slice oNy n1 pNy) n1 (xs.map Value.string)) := owns_below HONy_4.out bw (fun g hg => owns_lt HONy_4.out hg)
  have HOVy_5 : Hid ((w5).ownsRow B2 9 1 (.slice oVy n2 pVy) n2 (ys.map Value.string)) := owns_below HOVy_4.out bw (fun g hg => owns_lt HOVy_4.out hg)
  have HOFy_5 : Hid ((w5).ownsRow B2 68 2 (.slice oFy n3 pFy) n3 (flatF fs)) := owns_below HOFy_4.out bw (fun g hg => owns_lt HOFy_4.out hg)
  have HBv1_5 : Hid ((w5).heap[qv1]? = some (.cells #[.string p, .slice oNx n1 pNx, .slice oVx n2 pVx, .int .i64 st, .slice oFx n3 pFx, .string b, .int .i64 t] 40)) := blk_below HBv1_4.out bw
  have HBv2_5 : Hid ((w5).heap[qv2]? = some (.cells #[.string p, .slice oNy n1 pNy, .slice oVy n2 pVy, .int .i64 st, .slice oFy n3 pFy, .string b, .int .i64 t] 40)) := blk_below HBv2_4.out bw
  clear hb4 HONx_4 HOVx_4 HOFx_4 HONy_4 HOVy_4 HOFy_4 HBv1_4 HBv2_4 bw
  clear cv1_3 cv1_4 cv1_5 cv2_3 cv2_4 cv2_5
  have cv1_6 : (w5).cell? ⟨qv1, 6, none⟩ = some (.int .i64 t) := (cell_of HBv1_5.out 6).trans rfl
  have cv2_6 : (w5).cell? ⟨qv2, 6, none⟩ = some (.int .i64 t) := (cell_of HBv2_5.out 6).trans rfl
  go_wp2_with fail
  go_ret
  exact ⟨rfl, hb5⟩

end Go.Proofs.YtopeegjmpphjnaaDoor

namespace Go.Proofs.YtopeegjmpphjnaaDoor
open Go.RowKit
open Go.Lib hiding intOf

theorem setCells_eq (b : Nat) : ∀ (vs : List Value) (o : Nat) (w : World), w.setCells b o vs = setW w b o vs
  | [], _, _ => rfl
  | _ :: r, o, _ => setCells_eq b r (o + 1) _
theorem setA_whole (l : List Value) (cur : Array Value) (h : l.length = cur.size) : setA cur 0 l = l.toArray := by
  apply Array.ext_getElem?
  intro i
  by_cases hi : i < l.length
  · have h2 := setA_in l cur 0 i hi (by omega)
    rw [Nat.zero_add] at h2
    rw [h2]
    simp
  · rw [Array.getElem?_eq_none (by rw [setA_size]; omega), Array.getElem?_eq_none (by simpa using Nat.le_of_not_lt hi)]
theorem there_of {W : World} {R n : Nat} {cs : Array Value} {t : TypeId} (h : W.heap[R]? = some (.cells cs t)) (hn : cs.size = n) : W.there R 0 n := fun j hj => by
  have e : 0 + j = j := Nat.zero_add j
  rw [e, cell_of h, frozen_of h]
  exact ⟨by simp [hn, hj], rfl⟩
theorem range_of {W : World} {R : Nat} {cs : Array Value} {t : TypeId} (h : W.heap[R]? = some (.cells cs t)) : W.rangeAt R 0 cs.toList := fun j v hv => by
  have e : 0 + j = j := Nat.zero_add j
  rw [e, cell_of h]
  simpa using hv
theorem alloc_setW (T : TypeId) : ∀ (l : List Value) (o : Nat) (c : Array Value) (w : World), setW (w.alloc (.cells c T)) w.heap.size o l = w.alloc (.cells (setA c o l) T)
  | [], _, _, _ => rfl
  | v :: r, o, c, w => by rw [setW, World.setCell_alloc_at c T _ o v rfl, alloc_setW T r, setA]
theorem alloc_whole {w : World} {T : TypeId} {zs ds : Array Value} (h : ds.toList.length = zs.size) : (w.alloc (.cells zs T)).setCells w.heap.size 0 ds.toList = w.alloc (.cells ds T) := by
  rw [setCells_eq, alloc_setW, setA_whole _ _ h]
theorem big_block {W : World} {q : Nat} {cs ds : Array Value} {T : TypeId} (h : W.heap[q]? = some (.cells cs T)) (hn : ds.toList.length = cs.size) : (W.setCells q 0 ds.toList).heap[q]? = some (.cells ds T) := by
  rw [setCells_eq, setW_heap q T _ W 0 cs h, setA_whole _ _ hn]
theorem big_other {W : World} {q g : Nat} {vs : List Value} (hne : g ≠ q) : (W.setCells q 0 vs).heap[g]? = W.heap[g]? := by rw [setCells_eq]; exact setW_other q g hne _ _ _
theorem big_below {w W : World} {base q : Nat} {vs : List Value} (hq : base ≤ q) (h : Below base w W) : Below base w (W.setCells q 0 vs) := by rw [setCells_eq]; exact setW_below hq _ _ _ _ h
theorem big_size {W : World} {q : Nat} {vs : List Value} : (W.setCells q 0 vs).heap.size = W.heap.size := by rw [setCells_eq]; exact setW_size q _ _ _
theorem RowsO.big {W : World} {base q : Nat} {rs : List Rw} {cs : Array Value} {T : TypeId} {fr : Nat × Nat} {vs : List Value} (h : RowsO W base rs) (hq : W.heap[q]? = some (.cells cs T fr)) (hT : ∀ r ∈ rs, T ≠ r.T) : RowsO (W.setCells q 0 vs) base rs :=
  h.same (fun r hr g hg => big_other (fun e => own_noR (h.own r hr) (hT r hr) hq (by rw [← e]; exact hg)))
theorem argUpF {w : World} {B B' : Nat} {a : Option Addr} {n : Nat} {fs : List (ByteArray × ByteArray)} (h : ArgF w B a n fs) (hB : B ≤ B') : ArgF w B' a n fs :=
  ⟨h.len, fun i hi => by
    obtain ⟨b, off, h1, h2, h3⟩ := h.get i hi
    exact ⟨b, off, h1, Nat.lt_of_lt_of_le h2 hB, h3⟩⟩
theorem RowsO.cons {w : World} {base : Nat} {r : Rw} {rs : List Rw} (h1 : r.own w base) (h2 : ∀ x ∈ rs, r.ne x) (h : RowsO w base rs) : RowsO w base (r :: rs) :=
  ⟨fun x hx => by
    rcases List.mem_cons.1 hx with e | e
    · rw [e]; exact h1
    · exact h.own x e, List.pairwise_cons.2 ⟨h2, h.apart⟩⟩
theorem obj_rows3 {w : World} {B : Nat} {v1 v2 v3 : Value} {xs ys : List ByteArray} {fs : List (ByteArray × ByteArray)} (h : ObjO w B v1 xs.length xs v2 ys.length ys v3 fs.length fs) : RowsO w B [(⟨9, 1, v1, xs.length, xs.map Value.string⟩ : Rw), (⟨9, 1, v2, ys.length, ys.map Value.string⟩ : Rw), (⟨68, 2, v3, fs.length, flatF fs⟩ : Rw)] := by
  refine RowsO.cons h.names (fun r hr => ?_) (RowsO.cons h.vals (fun r hr => ?_) (RowsO.one h.flds))
  · simp only [List.mem_cons, List.not_mem_nil, or_false] at hr
    rcases hr with rfl | rfl
    · exact fun g hg => h.ne g hg
    · exact fun g hg => own_two h.names h.flds (by decide) hg
  · rw [List.mem_singleton.1 hr]
    exact fun g hg => own_two h.vals h.flds (by decide) hg
theorem rows_obj3 {w : World} {B : Nat} {v1 v2 v3 : Value} {xs ys : List ByteArray} {fs : List (ByteArray × ByteArray)} (h : RowsO w B [(⟨9, 1, v1, xs.length, xs.map Value.string⟩ : Rw), (⟨9, 1, v2, ys.length, ys.map Value.string⟩ : Rw), (⟨68, 2, v3, fs.length, flatF fs⟩ : Rw)]) : ObjO w B v1 xs.length xs v2 ys.length ys v3 fs.length fs :=
  ⟨h.own (⟨9, 1, v1, xs.length, xs.map Value.string⟩ : Rw) (by simp), h.own (⟨9, 1, v2, ys.length, ys.map Value.string⟩ : Rw) (by simp), h.own (⟨68, 2, v3, fs.length, flatF fs⟩ : Rw) (by simp), fun g hg => (List.pairwise_cons.1 h.apart).1 (⟨9, 1, v2, ys.length, ys.map Value.string⟩ : Rw) (by simp) g hg⟩


end Go.Proofs.YtopeegjmpphjnaaDoor

namespace Go.Proofs.YtopeegjmpphjnaaDoor
open Go.RowKit
open Go.Lib hiding intOf

/-- What a Reply tells. -/
structure RpD where
  cli : Int
  qmt : Int
  qpa : ByteArray
  qfs : List (ByteArray × ByteArray)
  qbd : ByteArray
  rst : Int
  rfs : List (ByteArray × ByteArray)
  rbd : ByteArray
  knd : Int
  tim : Int
  opa : ByteArray
  oxs : List ByteArray
  oys : List ByteArray
  ost : Int
  ofs : List (ByteArray × ByteArray)
  obd : ByteArray
  otm : Int
  bns : Int
/-- And its lists' slices. -/
structure RpV where
  d : RpD
  v3 : Value
  v6 : Value
  v11 : Value
  v12 : Value
  v14 : Value
/-- Its rows. -/
def rpR (x : RpV) : List Rw := [(⟨68, 2, x.v3, x.d.qfs.length, flatF x.d.qfs⟩ : Rw), (⟨68, 2, x.v6, x.d.rfs.length, flatF x.d.rfs⟩ : Rw), (⟨9, 1, x.v11, x.d.oxs.length, x.d.oxs.map Value.string⟩ : Rw), (⟨9, 1, x.v12, x.d.oys.length, x.d.oys.map Value.string⟩ : Rw), (⟨68, 2, x.v14, x.d.ofs.length, flatF x.d.ofs⟩ : Rw)]
end Go.Proofs.YtopeegjmpphjnaaDoor

namespace Go.Proofs.YtopeegjmpphjnaaDoor
open Go.RowKit
open Go.Lib hiding intOf

theorem RowsO.other {W : World} {base q o : Nat} {rs : List Rw} {cs : Array Value} {T : TypeId} {fr : Nat × Nat} {u : Value} (h : RowsO W base rs) (hq : W.heap[q]? = some (.cells cs T fr)) (hT : ∀ r ∈ rs, T ≠ r.T) : RowsO (W.setCell ⟨q, o, none⟩ u) base rs :=
  h.same (fun r hr g hg => heap_setCell_other _ _ g _ (fun e => own_noR (h.own r hr) (hT r hr) hq (by have e' : g = q := e; rw [← e']; exact hg)))

end Go.Proofs.YtopeegjmpphjnaaDoor
