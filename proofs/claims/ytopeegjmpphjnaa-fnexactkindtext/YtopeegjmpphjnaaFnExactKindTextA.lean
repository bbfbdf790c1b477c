/- What the proof of FnExactKindText leans on: contracts of the program's and the specification's functions, and plain facts (part 1 of 1). -/
import Derived.Test.YtopeegjmpphjnaaProg
import Derived.Test.YtopeegjmpphjnaaRows
import Derived.Below
import Derived.ChangeOld
import Derived.Deep.CutRange
import Derived.Deep.DeepCutAuto
import Derived.Deep.DrawnRows
import Derived.Deep.RegionHeld3
import Derived.Laws.EntriesVeiled
import Derived.Laws.MakeOwn
import Derived.Laws.RangeAny
import Derived.Lib.Strings
import Derived.Lib.Walk
import Derived.OpenShut
import Derived.ProofKit
import Derived.ShutString
import Derived.WalkKit
import Derived.WalkLawsBesides
import Derived.WalkSpells
namespace Go.Proofs.Ytopeegjmpphjnaa
open Go.RowKit
open Go.Lib hiding intOf

/-- A call answers this text, and turns nothing that was there. -/
def TextIs (t : ByteArray) (w : World) (e : Ending) (w' : World) : Prop := e = .returned (.string t) ∧ Below w.heap.size w w'
theorem TextIs.of {t u : ByteArray} {w w' : World} (h : u = t) (hb : Below w.heap.size w w') : TextIs t w (.returned (.string u)) w' := ⟨by rw [h], hb⟩

end Go.Proofs.Ytopeegjmpphjnaa

namespace Go.Proofs.Ytopeegjmpphjnaa
open Go.RowKit
open Go.Lib hiding intOf

/-- A kind of answer in letters. -/
def kindT (k : Int) : ByteArray := if k = 1 then ⟨#[104, 101, 114, 101]⟩ else if k = 2 then ⟨#[116, 104, 101, 114, 101]⟩ else if k = 3 then ⟨#[115, 97, 109, 101]⟩ else if k = 4 then ⟨#[110, 111, 116]⟩ else ⟨#[]⟩
theorem kindT_out {k : Int} (h : ¬ (1 ≤ k ∧ k ≤ 4)) : kindT k = ⟨#[]⟩ := by
  unfold kindT
  rw [if_neg (by omega), if_neg (by omega), if_neg (by omega), if_neg (by omega)]

end Go.Proofs.Ytopeegjmpphjnaa

namespace Go.Proofs.Ytopeegjmpphjnaa
open Go.RowKit
open Go.Lib hiding intOf

set_option maxHeartbeats 400000 in
theorem kindIn_any (x lo hi : Int) (w : World) :
    Calls Try.prog 6 #[.int .i64 x, .int .i64 lo, .int .i64 hi] w fun e w' => e = .returned (.bool (decide (lo ≤ x ∧ x ≤ hi))) ∧ w' = w := by
  by_cases h1 : lo ≤ x
  · by_cases h2 : x ≤ hi
    · go_enter Try.func6, Try.ntmps6
      go_wp2
      go_ret
      exact ⟨by simp [h1, h2], rfl⟩
    · go_enter Try.func6, Try.ntmps6
      go_wp2
      go_ret
      exact ⟨by simp [h2], rfl⟩
  · go_enter Try.func6, Try.ntmps6
    go_wp2
    go_ret
    exact ⟨by simp; omega, rfl⟩
set_option maxHeartbeats 1000000 in
theorem specKindText_any (k : Int) (w : World) :
    Calls Try.prog 4 #[.int .i64 k] w fun e w' => TextIs (kindT k) w e w' := by
  by_cases h : 1 ≤ k ∧ k ≤ 4
  · have h2 : k = 1 ∨ k = 2 ∨ k = 3 ∨ k = 4 := by omega
    rcases h2 with rfl | rfl | rfl | rfl
    all_goals
      go_enter Try.func4, Try.ntmps4
      go_wp2_with fail
      refine (kindIn_any _ _ _ _).mono ?_
      rintro e w1 ⟨rfl, rfl⟩
      go_wp2_with fail
      go_ret
      exact ⟨rfl, (Below.refl _ _).alloc (Nat.le_refl _) _⟩
  · have HE : Hid (kindT k = ⟨#[]⟩) := kindT_out h
    have hd : decide ((1 : Int) ≤ k ∧ k ≤ 4) = false := by simpa using h
    clear h
    go_enter Try.func4, Try.ntmps4
    go_wp2_with fail
    refine (kindIn_any _ _ _ _).mono ?_
    rintro e w1 ⟨rfl, rfl⟩
    rw [hd]
    go_wp2_with fail
    go_ret
    exact TextIs.of HE.out.symm (Below.refl _ _)
set_option maxHeartbeats 1000000 in
theorem implKindText_any (k : Int) (w : World) :
    Calls Try.prog 5 #[.int .i64 k] w fun e w' => TextIs (kindT k) w e w' := by
  by_cases h : 1 ≤ k ∧ k ≤ 4
  · have h2 : k = 1 ∨ k = 2 ∨ k = 3 ∨ k = 4 := by omega
    rcases h2 with rfl | rfl | rfl | rfl
    all_goals
      go_enter Try.func5, Try.ntmps5
      go_wp2_with fail
      go_ret
      exact ⟨rfl, Below.refl _ _⟩
  · have HE : Hid (kindT k = ⟨#[]⟩) := kindT_out h
    have h1 : ¬ k = 1 := by omega
    have h2 : ¬ k = 2 := by omega
    have h3 : ¬ k = 3 := by omega
    have h4 : ¬ k = 4 := by omega
    clear h
    go_enter Try.func5, Try.ntmps5
    go_wp2_with fail
    go_ret
    exact TextIs.of HE.out.symm (Below.refl _ _)

end Go.Proofs.Ytopeegjmpphjnaa
