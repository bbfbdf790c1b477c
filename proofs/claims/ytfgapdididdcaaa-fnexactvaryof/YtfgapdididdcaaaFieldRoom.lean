/- A list of fields measured, where so much room is left. (MsgLaw has the same for messages.) -/
import Derived.Test.YtfgapdididdcaaaFieldOpen
namespace Go.Proofs.Ytfgapdididdcaaa
open Go.RowKit
open Go.Lib hiding intOf

/-- The measure is negative, or it says how much room is left of L. -/
def SzRm (L : Int) (n : Nat) (fs : List (ByteArray × ByteArray)) (w : World) (e : Ending) (w' : World) : Prop :=
  ∃ r : Int, e = .returned (.int .i64 r) ∧ r ≤ L ∧ (0 ≤ r → n ≤ 1048576 ∧ szTo fs n ≤ 1048576) ∧ Below w.heap.size w w'

set_option maxHeartbeats 1000000 in
theorem szFieldS_room (L : Int) (hL0 : 0 ≤ L) (hL1 : L ≤ 1048576) (B : Nat) (a : Option Addr) (n cap : Nat) (fs : List (ByteArray × ByteArray)) (w : World) (harg : ArgF w B a n fs) (hB : B ≤ w.heap.size) (hn : n ≤ maxLen) (hsz : ∀ i, i < n → (nameAt fs i).size ≤ maxLen ∧ (valAt fs i).size ≤ maxLen) :
    Calls Try.prog 18 #[.slice a n cap, .int .i64 L] w fun e w' => SzRm L n fs w e w' := by
  unfold maxLen at hn
  have HS : Hid (∀ i, i < n → (nameAt fs i).size ≤ maxLen ∧ (valAt fs i).size ≤ maxLen) := hsz
  clear hsz
  by_cases c1 : L - (n : Int) < 0
  · go_enter Try.func18, Try.ntmps18
    go_wp2
    go_ret
    exact ⟨-1, rfl, by omega, fun h => absurd h (by omega), Below.refl _ _⟩
  · go_enter Try.func18, Try.ntmps18
    go_wp2
    go_loopw [1, 5] (fun l i wr => ∃ (k : Nat) (x : Int), k ≤ n ∧ i = .int .i64 (k : Int) ∧ l = .int .i64 x ∧ 0 ≤ x ∧ x ≤ L ∧ Hid (x = L - (n : Int) - (szTo fs k : Int)) ∧ Below w.heap.size w wr) (fun _ i _ => n - (intOf i).toNat)
    case atStart => exact ⟨0, _, Nat.zero_le _, rfl, rfl, by omega, by omega, by show _ = _; simp [szTo], Below.refl _ _⟩
    case round =>
      obtain ⟨k, x, hk, rfl, rfl, hx0, hx1, hx, hbw⟩ := hrel
      by_cases hlt : k < n
      · have hlt2 : (k : Int) < (n : Int) := by omega
        obtain ⟨b, off, rfl, hbB, hc1, hc2⟩ := (harg.below (hbw.mono hB)).get k hlt
        obtain ⟨s1, s2⟩ := HS.out k hlt
        obtain ⟨nm, hnm⟩ : ∃ y, y = nameAt fs k := ⟨_, rfl⟩
        obtain ⟨vl, hvl⟩ : ∃ y, y = valAt fs k := ⟨_, rfl⟩
        have HZ : Hid (szTo fs (k + 1) = szTo fs k + nm.size + vl.size) := by rw [hnm, hvl]; rfl
        rw [← hnm] at hc1 s1
        rw [← hvl] at hc2 s2
        clear hnm hvl
        go_wp2_with fail
        refine (szField_any nm vl x _ hx0 (by omega) s1 s2).mono ?_
        rintro e w1 ⟨rfl, hb1⟩
        have hb2 : Below w.heap.size w w1 := hbw.trans (hb1.mono hbw.size)
        clear hc1 hc2 hb1
        by_cases d1 : x - (nm.size : Int) < 0
        · rw [if_pos d1]
          go_wp2
          go_ret
          exact ⟨-1, rfl, by omega, fun h => absurd h (by omega), hb2⟩
        · rw [if_neg d1]
          by_cases d2 : x - (nm.size : Int) - (vl.size : Int) < 0
          · rw [if_pos d2]
            go_wp2
            go_ret
            exact ⟨-1, rfl, by omega, fun h => absurd h (by omega), hb2⟩
          · rw [if_neg d2]
            obtain ⟨y, hy⟩ : ∃ y, y = x - (nm.size : Int) - (vl.size : Int) := ⟨_, rfl⟩
            rw [← hy] at d2 ⊢
            have HY : Hid (y = L - (n : Int) - (szTo fs (k + 1) : Int)) := by
              show _ = _
              rw [hy, HZ.out, hx.out]; omega
            have hy1 : y ≤ L := by omega
            clear hy d1
            go_wp2
            go_roundw
            case rel => exact ⟨k + 1, y, by omega, by go_num, rfl, by omega, hy1, HY, hb2⟩
            case measure => simp [intOf]; omega
      · have hF : Hid (n ≤ 1048576 ∧ szTo fs n ≤ 1048576) := by
          have := hx.out
          obtain rfl : k = n := by omega
          exact ⟨by omega, by omega⟩
        go_wp2
        go_ret
        exact ⟨x, rfl, hx1, fun _ => hF.out, hbw⟩

end Go.Proofs.Ytfgapdididdcaaa
