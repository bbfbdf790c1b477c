/- 'l5Head', 'l5Length' of the specification: contracts over the translation. -/
import Derived.Test.YtacfajnagbeocaaGreatDoorStreamLen
import Derived.Test.YtacfajnagbeocaaGreatDoorMsgScan
import Derived.Test.YtacfajnagbeocaaGreatDoorMsgSpec
namespace Go.Proofs.YtacfajnagbeocaaGreatDoor
open Go.RowKit
open Go.Lib hiding intOf

def headI (l : List UInt8) : Int := match headN l with | some n => (n : Int) | none => -1
theorem headN_short : ∀ (l : List UInt8), l.length < 4 → headN l = none := by
  intro l
  induction l with
  | nil => intro _; rfl
  | cons c t ih =>
    intro h
    unfold headN
    rw [if_neg, ih (by simp at h; omega)]
    · rfl
    · intro e
      have := congrArg List.length e
      simp at this
      simp at h
      omega
theorem head_at4 (s : ByteArray) (k : Nat) (h : k + 3 < s.size) : ((bs s).drop k).take 4 = [s[k]'(by omega), s[k + 1]'(by omega), s[k + 2]'(by omega), s[k + 3]'h] := by
  rw [bs_drop s k (by omega), bs_drop s (k + 1) (by omega), bs_drop s (k + 2) (by omega), bs_drop s (k + 3) h]
  rfl
theorem headN_step (s : ByteArray) (k : Nat) (h : k + 3 < s.size) : headN ((bs s).drop k) = if ((bs s).drop k).take 4 = [13, 10, 13, 10] then some 4 else (headN ((bs s).drop (k + 1))).map (· + 1) := by
  rw [bs_drop s k (by omega)]
  rfl

theorem headI_from (s : ByteArray) (k : Nat) (hk : headN (bs s) = (headN ((bs s).drop k)).map (· + k)) (h : k + 3 < s.size) :
    (((bs s).drop k).take 4 = [13, 10, 13, 10] → headI (bs s) = (k : Int) + 4) ∧ (((bs s).drop k).take 4 ≠ [13, 10, 13, 10] → headN (bs s) = (headN ((bs s).drop (k + 1))).map (· + (k + 1))) := by
  rw [headN_step s k h] at hk
  constructor
  · intro e
    rw [if_pos e] at hk
    unfold headI
    rw [hk]
    simp
    omega
  · intro e
    rw [if_neg e, Option.map_map] at hk
    rw [hk]
    congr 1
    funext x
    simp
    omega
theorem headI_none (s : ByteArray) (k : Nat) (hk : headN (bs s) = (headN ((bs s).drop k)).map (· + k)) (h : ¬ k + 3 < s.size) : headI (bs s) = -1 := by
  rw [headN_short ((bs s).drop k) (by rw [List.length_drop, bs_len]; omega)] at hk
  unfold headI
  rw [hk]
  rfl

set_option maxHeartbeats 2000000 in
set_option maxRecDepth 100000 in
theorem l5Head_any (s : ByteArray) (w : World) (hs : s.size ≤ 4000000) :
    Calls Tryz.prog 12 #[.string s] w fun e w' => e = .returned (.int .i64 (headI (bs s))) ∧ w' = w := by
  go_enter Tryz.func12, Tryz.ntmps12
  go_wp2
  go_loop [3] (fun a => ∃ i : Nat, a = .int .i64 (i : Int) ∧ 3 ≤ i ∧ (i ≤ s.size ∨ i = 3) ∧ Hid (headN (bs s) = (headN ((bs s).drop (i - 3))).map (· + (i - 3)))) (fun a => s.size - (intOf a).toNat)
  case atStart => exact ⟨3, rfl, by omega, .inr rfl, by show _ = _; simp⟩
  case round =>
    obtain ⟨i, rfl, hi3, his, HH⟩ := hrel
    by_cases hlt : (i : Int) < (s.size : Int)
    · have hin : i < s.size := by omega
      have n3 : ((i : Int) - 3).toNat = i - 3 := by omega
      have n2 : ((i : Int) - 2).toNat = i - 2 := by omega
      have n1 : ((i : Int) - 1).toNat = i - 1 := by omega
      have u3 : (0 : Int) ≤ (i : Int) - 3 ∧ (i : Int) - 3 < (s.size : Int) := by omega
      have u2 : (0 : Int) ≤ (i : Int) - 2 ∧ (i : Int) - 2 < (s.size : Int) := by omega
      have u1 : (0 : Int) ≤ (i : Int) - 1 ∧ (i : Int) - 1 < (s.size : Int) := by omega
      have l3 : i - 3 < s.size := by omega
      have l2 : i - 2 < s.size := by omega
      have l1 : i - 1 < s.size := by omega
      have HS : Hid (((bs s).drop (i - 3)).take 4 = [s[i - 3]'l3, s[i - 2]'l2, s[i - 1]'l1, s[i]'hin]) := by
        show _ = _
        have := head_at4 s (i - 3) (by omega)
        simp only [show i - 3 + 1 = i - 2 by omega, show i - 3 + 2 = i - 1 by omega, show i - 3 + 3 = i by omega] at this
        exact this
      have HF := headI_from s (i - 3) HH.out (by omega)
      have HFN : Hid ([s[i - 3]'l3, s[i - 2]'l2, s[i - 1]'l1, s[i]'hin] ≠ [13, 10, 13, 10] → headN (bs s) = (headN ((bs s).drop (i + 1 - 3))).map (· + (i + 1 - 3))) := fun h => by
        have := HF.2 (by rw [HS.out]; exact h)
        rw [show i - 3 + 1 = i + 1 - 3 by omega] at this
        exact this
      have HFY : Hid ([s[i - 3]'l3, s[i - 2]'l2, s[i - 1]'l1, s[i]'hin] = [13, 10, 13, 10] → headI (bs s) = (i : Int) + 1) := fun h => by
        have := HF.1 (by rw [HS.out]; exact h)
        omega
      clear HF HS
      by_cases c3 : ((s[i - 3]'l3).toNat : Int) = 13
      · have t3 : (((s[i - 3]'l3).toNat : Int) == 13) = true := by simpa using c3
        by_cases c2 : ((s[i - 2]'l2).toNat : Int) = 10
        · have t2 : (((s[i - 2]'l2).toNat : Int) == 10) = true := by simpa using c2
          by_cases c1 : ((s[i - 1]'l1).toNat : Int) = 13
          · have t1 : (((s[i - 1]'l1).toNat : Int) == 13) = true := by simpa using c1
            by_cases c0 : ((s[i]'hin).toNat : Int) = 10
            · have t0 : (((s[i]'hin).toNat : Int) == 10) = true := by simpa using c0
              have HE : Hid (headI (bs s) = (i : Int) + 1) := HFY.out (by
                rw [(u8_eq _ 13 (by omega)).2 (by omega : (s[i - 3]'l3).toNat = 13), (u8_eq _ 10 (by omega)).2 (by omega : (s[i - 2]'l2).toNat = 10), (u8_eq _ 13 (by omega)).2 (by omega : (s[i - 1]'l1).toNat = 13), (u8_eq _ 10 (by omega)).2 (by omega : (s[i]'hin).toNat = 10)]; rfl)
              clear c3 c2 c1 c0 HFY HFN
              go_wp2_with fail
              go_ret
              exact ⟨by rw [HE.out]; rfl, rfl⟩
            · have t0 : (((s[i]'hin).toNat : Int) == 10) = false := by simpa using c0
              have HN := HFN.out (by intro e; simp at e; apply c0; rw [e.2.2.2]; rfl)
              clear c3 c2 c1 c0 HFY HFN
              go_wp2_with fail
              go_round
              case rel => exact ⟨i + 1, by go_num, by omega, .inl (by omega), HN⟩
              case measure => simp [intOf]; omega
          · have t1 : (((s[i - 1]'l1).toNat : Int) == 13) = false := by simpa using c1
            have HN := HFN.out (by intro e; simp at e; apply c1; rw [e.2.2.1]; rfl)
            clear c3 c2 c1 HFY HFN
            go_wp2_with fail
            go_round
            case rel => exact ⟨i + 1, by go_num, by omega, .inl (by omega), HN⟩
            case measure => simp [intOf]; omega
        · have t2 : (((s[i - 2]'l2).toNat : Int) == 10) = false := by simpa using c2
          have HN := HFN.out (by intro e; simp at e; apply c2; rw [e.2.1]; rfl)
          clear c3 c2 HFY HFN
          go_wp2_with fail
          go_round
          case rel => exact ⟨i + 1, by go_num, by omega, .inl (by omega), HN⟩
          case measure => simp [intOf]; omega
      · have t3 : (((s[i - 3]'l3).toNat : Int) == 13) = false := by simpa using c3
        have HN := HFN.out (by intro e; simp at e; apply c3; rw [e.1]; rfl)
        clear c3 HFY HFN
        go_wp2_with fail
        go_round
        case rel => exact ⟨i + 1, by go_num, by omega, .inl (by omega), HN⟩
        case measure => simp [intOf]; omega
    · have HE : Hid (headI (bs s) = -1) := headI_none s (i - 3) HH.out (by omega)
      go_wp2_with fail
      go_ret
      exact ⟨by rw [HE.out]; rfl, rfl⟩

end Go.Proofs.YtacfajnagbeocaaGreatDoor
