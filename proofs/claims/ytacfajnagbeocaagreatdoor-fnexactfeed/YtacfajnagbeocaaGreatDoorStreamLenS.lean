/- 'l5Length' of the specification: a contract over the translation. -/
import Derived.Test.YtacfajnagbeocaaGreatDoorStreamHead
import Derived.Test.YtacfajnagbeocaaGreatDoorNum
namespace Go.Proofs.YtacfajnagbeocaaGreatDoor
open Go.RowKit
open Go.Lib hiding intOf

/-- What stands of the line that begins at 'st', ahead of place i. -/
def curAt (l : List UInt8) (st i : Nat) : List UInt8 := (l.drop st).take (i - st)
theorem curAt_succ (s : ByteArray) (st i : Nat) (h : st ≤ i) (hi : i < s.size) : curAt (bs s) st (i + 1) = curAt (bs s) st i ++ [s[i]'hi] := by
  unfold curAt
  have hl : i - st < ((bs s).drop st).length := by rw [List.length_drop, bs_len]; omega
  rw [show i + 1 - st = (i - st) + 1 by omega, List.take_succ_eq_append_getElem hl]
  congr 1
  rw [List.getElem_drop]
  simp only [show st + (i - st) = i by omega]
  rw [bs_at s i hi]
theorem curAt_self (l : List UInt8) (st : Nat) : curAt l st st = [] := by simp [curAt]
/-- The state of the scan at place i: the line's beginning, and what is told from here on. -/
structure LenAt (s : ByteArray) (first : Bool) (st i : Nat) : Prop where
  le : st ≤ i
  low : first = true → st = 0
  prev : st = 0 ∨ ∃ h : st - 1 < s.size, s[st - 1]'h = 10
  told : lenL (bs s) = lenS first (curAt (bs s) st i) ((bs s).drop i)
theorem LenAt.start (s : ByteArray) (h : 0 < s.size) : LenAt s true 0 1 := by
  refine ⟨by omega, fun _ => rfl, .inl rfl, ?_⟩
  have e : bs s = s[0]'h :: (bs s).drop 1 := by
    have := bs_drop s 0 h
    simpa using this
  rw [curAt_succ s 0 0 (by omega) h, curAt_self]
  unfold lenL
  rw [e, lenS_on (by simp)]
  rfl
theorem LenAt.last {s : ByteArray} {first : Bool} {st i : Nat} (h : LenAt s first st i) (h1 : 1 ≤ i) (hi : i ≤ s.size) : ((curAt (bs s) st i).getLast? = some 13) ↔ s[i - 1]'(by omega) = 13 := by
  by_cases e : st = i
  · subst e
    rw [curAt_self]
    rcases h.prev with h0 | ⟨hp, hp2⟩
    · omega
    · constructor
      · intro e; simp at e
      · intro e; rw [hp2] at e; simp at e
  · have hle := h.le
    obtain ⟨j, rfl⟩ : ∃ j, i = j + 1 := ⟨i - 1, by omega⟩
    rw [curAt_succ s st j (by omega) (by omega)]
    simp
/-- No line's end here. -/
theorem LenAt.on {s : ByteArray} {first : Bool} {st i : Nat} (h : LenAt s first st i) (h1 : 1 ≤ i) (hi : i < s.size) (hn : ¬ (s[i]'hi = 10 ∧ s[i - 1]'(by omega) = 13)) : LenAt s first st (i + 1) := by
  refine ⟨by have := h.le; omega, h.low, h.prev, ?_⟩
  rw [h.told, bs_drop s i hi, lenS_on, curAt_succ s st i h.le hi]
  rintro ⟨e1, e2⟩
  exact hn ⟨e1, (h.last h1 (by omega)).1 e2⟩
/-- A line's end: the first one's, or that of a line that tells nothing. -/
theorem LenAt.line {s : ByteArray} {first : Bool} {st i : Nat} (h : LenAt s first st i) (h1 : 1 ≤ i) (hi : i < s.size) (hy : s[i]'hi = 10 ∧ s[i - 1]'(by omega) = 13) (hc : first = true ∨ clenOf (curAt (bs s) st (i - 1)) = none) : LenAt s false (i + 1) (i + 1) := by
  refine ⟨Nat.le_refl _, (fun e => by cases e), .inr ⟨by simpa using hi, by simpa using hy.1⟩, ?_⟩
  have hst : st ≤ i - 1 := by
    have hle := h.le
    by_cases e : st = i
    · rcases h.prev with h0 | ⟨hp, hp2⟩
      · omega
      · subst e; rw [hy.2] at hp2; simp at hp2
    · omega
  have hd : (curAt (bs s) st i).dropLast = curAt (bs s) st (i - 1) := by
    obtain ⟨j, rfl⟩ : ∃ j, i = j + 1 := ⟨i - 1, by omega⟩
    rw [curAt_succ s st j (by omega) (by omega)]
    simp
  rw [h.told, bs_drop s i hi, hy.1, lenS_end ((h.last h1 (by omega)).2 hy.2), hd, curAt_self]
  rcases hc with hc | hc
  · rw [if_pos hc]
  · by_cases hf : first = true
    · rw [if_pos hf]
    · rw [if_neg hf, hc]
theorem LenAt.tells {s : ByteArray} {st i n : Nat} (h : LenAt s false st i) (h1 : 1 ≤ i) (hi : i < s.size) (hy : s[i]'hi = 10 ∧ s[i - 1]'(by omega) = 13) (hst : st ≤ i - 1) (hc : clenOf (curAt (bs s) st (i - 1)) = some n) : lenL (bs s) = n := by
  have hd : (curAt (bs s) st i).dropLast = curAt (bs s) st (i - 1) := by
    obtain ⟨j, rfl⟩ : ∃ j, i = j + 1 := ⟨i - 1, by omega⟩
    rw [curAt_succ s st j (by omega) (by omega)]
    simp
  rw [h.told, bs_drop s i hi, hy.1, lenS_end ((h.last h1 (by omega)).2 hy.2), hd, if_neg (by simp), hc]
theorem LenAt.done {s : ByteArray} {first : Bool} {st i : Nat} (h : LenAt s first st i) (hi : s.size ≤ i) : lenL (bs s) = 0 := by
  rw [h.told, List.drop_of_length_le (by rw [bs_len]; exact hi), lenS]

def fromI (first : Bool) (st : Nat) : Int := if first = true then -1 else (st : Int)
theorem clen_short {s : ByteArray} {st e : Nat} (h : e - st ≤ 16) : clenOf (curAt (bs s) st e) = none := by
  apply clenOf_no
  rintro ⟨_, h2⟩
  have h3 := h2.1
  have : (curAt (bs s) st e).length ≤ 16 := by unfold curAt; rw [List.length_take]; omega
  rw [List.drop_of_length_le this] at h3
  exact absurd h3 (by decide)
theorem clen_parts (s : ByteArray) (st e : Nat) (h : st + 16 ≤ e) : (curAt (bs s) st e).take 16 = bs (s.extract st (st + 16)) ∧ (curAt (bs s) st e).drop 16 = bs (s.extract (st + 16) e) := by
  unfold curAt
  refine ⟨?_, ?_⟩
  · rw [List.take_take, bs_extract, List.drop_take, show min 16 (e - st) = 16 by omega, show st + 16 - st = 16 by omega]
  · rw [List.drop_take, List.drop_drop, bs_extract, List.drop_take, show e - st - 16 = e - (st + 16) by omega]
theorem text_of (l : ByteArray) : (⟨(bs l).toArray⟩ : ByteArray) = l := by
  apply ByteArray.ext
  show l.data.toList.toArray = l.data
  simp

set_option maxHeartbeats 4000000 in
set_option maxRecDepth 100000 in
theorem l5Length_any (s : ByteArray) (w : World) (hs : s.size ≤ 4000000) :
    Calls Tryz.prog 13 #[.string s] w fun e w' => e = .returned (.int .i64 (lenL (bs s) : Int)) ∧ Below w.heap.size w w' := by
  by_cases h0 : s.size = 0
  · have HE : Hid (lenL (bs s) = 0) := by
      show _ = _
      rw [show bs s = [] from List.length_eq_zero_iff.1 (by rw [bs_len]; exact h0)]
      rfl
    have hlt : ¬ (1 : Int) < (s.size : Int) := by omega
    clear h0
    go_enter Tryz.func13, Tryz.ntmps13
    go_wp2
    refine wp_loop_rounds 1 ?_
    rw [rounds_succ]
    go_wp2
    go_ret
    exact ⟨by rw [HE.out]; rfl, Below.refl _ _⟩
  · have e16 : (⟨#[99, 111, 110, 116, 101, 110, 116, 45, 108, 101, 110, 103, 116, 104, 58, 32]⟩ : ByteArray).size = 16 := rfl
    go_enter Tryz.func13, Tryz.ntmps13
    go_wp2
    go_loopw [4, 5] (fun a b wr => ∃ (i st : Nat) (first : Bool), a = .int .i64 (fromI first st) ∧ b = .int .i64 (i : Int) ∧ 1 ≤ i ∧ i ≤ s.size ∧ Hid (LenAt s first st i) ∧ Below w.heap.size w wr) (fun _ b _ => s.size - (intOf b).toNat)
    case atStart => exact ⟨1, 0, true, rfl, rfl, by omega, by omega, LenAt.start s (by omega), Below.refl _ _⟩
    case round =>
      obtain ⟨i, st, first, rfl, rfl, hi1, his, HL, hbw⟩ := hrel
      by_cases hlt : (i : Int) < (s.size : Int)
      · have hin : i < s.size := by omega
        have n1 : ((i : Int) - 1).toNat = i - 1 := by omega
        have u1 : (0 : Int) ≤ (i : Int) - 1 ∧ (i : Int) - 1 < (s.size : Int) := by omega
        have l1 : i - 1 < s.size := by omega
        by_cases c0 : ((s[i]'hin).toNat : Int) = 10
        · have t0 : (((s[i]'hin).toNat : Int) != 10) = false := by simp [c0]
          by_cases c1 : ((s[i - 1]'l1).toNat : Int) = 13
          · have t1 : (((s[i - 1]'l1).toNat : Int) != 13) = false := by simp [c1]
            have hy : s[i]'hin = 10 ∧ s[i - 1]'l1 = 13 := ⟨(u8_eq _ 10 (by omega)).2 (by omega), (u8_eq _ 13 (by omega)).2 (by omega)⟩
            have HY : Hid (s[i]'hin = 10 ∧ s[i - 1]'l1 = 13) := hy
            clear hy c0 c1
            cases first with
            | true =>
              have hfr : fromI true st = -1 := rfl
              have HN : Hid (LenAt s false (i + 1) (i + 1)) := HL.out.line hi1 hin HY.out (.inl rfl)
              go_wp2_with fail
              go_roundw
              case rel => exact ⟨i + 1, i + 1, false, by unfold fromI; simp, by go_num, by omega, by omega, HN, hbw⟩
              case measure => simp [intOf]; omega
            | false =>
              have hfr : fromI false st = (st : Int) := rfl
              have hst := HL.out.le
              have HNX : Hid (clenOf (curAt (bs s) st (i - 1)) = none → LenAt s false (i + 1) (i + 1)) := fun h => HL.out.line hi1 hin HY.out (.inr h)
              have hst0 : (0 : Int) ≤ (st : Int) := by omega
              by_cases hl16 : (16 : Int) < (i : Int) - 1 - (st : Int)
              · have p1 : (st : Int) + 16 ≤ (s.size : Int) := by omega
                have p2 : ((st : Int) + 16).toNat = st + 16 := by omega
                have p3 : (st : Int) + 16 ≤ (i : Int) - 1 := by omega
                obtain ⟨q1, q2⟩ := clen_parts s st (i - 1) (by omega)
                by_cases hm : s.extract st (st + 16) = (⟨#[99, 111, 110, 116, 101, 110, 116, 45, 108, 101, 110, 103, 116, 104, 58, 32]⟩ : ByteArray)
                · have tm : ((s.extract st (st + 16)).toList == ([99, 111, 110, 116, 101, 110, 116, 45, 108, 101, 110, 103, 116, 104, 58, 32] : List UInt8)) = true := by rw [hm, ByteArray.toList_eq]; rfl
                  have HM : Hid ((curAt (bs s) st (i - 1)).take 16 = clenM) := by show _ = _; rw [q1, hm]; rfl
                  have HQ : Hid ((curAt (bs s) st (i - 1)).drop 16 = bs (s.extract (st + 16) (i - 1))) := q2
                  clear hm q1 q2
                  go_wp2_with fail
                  refine (specNumRead_any _ _ (by unfold maxLen; rw [ByteArray.size_extract]; omega)).mono ?_
                  rintro e w1 ⟨ok, n, rfl, hok, hval, _, b1⟩
                  have HB1 : Hid (Below w.heap.size w w1) := hbw.trans (b1.mono hbw.size)
                  clear b1 hbw
                  cases ok with
                  | true =>
                    have hnum : NumOk (s.extract (st + 16) (i - 1)) := hok.1 rfl
                    have HV : Hid (lenL (bs s) = valL (bs (s.extract (st + 16) (i - 1)))) := by
                      refine HL.out.tells hi1 hin HY.out (by omega) ?_
                      rw [← HQ.out]
                      exact clenOf_yes HM.out (by rw [HQ.out, text_of]; exact hnum)
                    have HN : Hid (n = (valL (bs (s.extract (st + 16) (i - 1))) : Int)) := hval rfl
                    clear hok hval hnum
                    go_wp2_with fail
                    go_ret
                    exact ⟨by rw [HV.out, HN.out]; rfl, HB1.out⟩
                  | false =>
                    have HN : Hid (LenAt s false (i + 1) (i + 1)) := HNX.out (clenOf_no (fun h => by
                      have h2 := h.2
                      rw [HQ.out, text_of] at h2
                      have := hok.2 h2
                      cases this))
                    clear hok hval
                    go_wp2_with fail
                    go_roundw
                    case rel => exact ⟨i + 1, i + 1, false, by unfold fromI; simp, by go_num, by omega, by omega, HN, HB1.out⟩
                    case measure => simp [intOf]; omega
                · have tm : ((s.extract st (st + 16)).toList == ([99, 111, 110, 116, 101, 110, 116, 45, 108, 101, 110, 103, 116, 104, 58, 32] : List UInt8)) = false := by rw [beq_eq_false_iff_ne]; intro e; rw [ByteArray.toList_eq] at e; exact hm (bs_inj e)
                  have HN : Hid (LenAt s false (i + 1) (i + 1)) := HNX.out (clenOf_no (fun h => hm (bs_inj (by rw [← q1, h.1]; rfl))))
                  clear hm q1 q2
                  go_wp2_with fail
                  go_roundw
                  case rel => exact ⟨i + 1, i + 1, false, by unfold fromI; simp, by go_num, by omega, by omega, HN, hbw⟩
                  case measure => simp [intOf]; omega
              · have HN : Hid (LenAt s false (i + 1) (i + 1)) := HNX.out (clen_short (by omega))
                go_wp2_with fail
                go_roundw
                case rel => exact ⟨i + 1, i + 1, false, by unfold fromI; simp, by go_num, by omega, by omega, HN, hbw⟩
                case measure => simp [intOf]; omega
          · have t1 : (((s[i - 1]'l1).toNat : Int) != 13) = true := by simpa using c1
            have HN : Hid (LenAt s first st (i + 1)) := HL.out.on hi1 hin (fun e => c1 (by rw [e.2]; rfl))
            clear c0 c1
            go_wp2_with fail
            go_roundw
            case rel => exact ⟨i + 1, st, first, rfl, by go_num, by omega, by omega, HN, hbw⟩
            case measure => simp [intOf]; omega
        · have t0 : (((s[i]'hin).toNat : Int) != 10) = true := by simpa using c0
          have HN : Hid (LenAt s first st (i + 1)) := HL.out.on hi1 hin (fun e => c0 (by rw [e.1]; rfl))
          clear c0
          go_wp2_with fail
          go_roundw
          case rel => exact ⟨i + 1, st, first, rfl, by go_num, by omega, by omega, HN, hbw⟩
          case measure => simp [intOf]; omega
      · have HE : Hid (lenL (bs s) = 0) := HL.out.done (by omega)
        go_wp2_with fail
        go_ret
        exact ⟨by rw [HE.out]; rfl, hbw⟩

end Go.Proofs.YtacfajnagbeocaaGreatDoor
