/- How the specification takes a text apart: lines, words, fields: contracts over the translation. -/
import Derived.Test.YtacfajnagbeocaaGreatDoorMsgText
import Derived.Test.YtacfajnagbeocaaGreatDoorMsgScan
namespace Go.Proofs.YtacfajnagbeocaaGreatDoor
open Go.RowKit
open Go.Lib hiding intOf

/-- The lines of a head, in a list of the call's own, and where what is behind them begins. -/
def HeadIs (s : ByteArray) (w : World) (e : Ending) (w' : World) : Prop :=
  ∃ (v : Value) (xs : List ByteArray) (p : Int), e = .returned (.tuple #[v, .int .i64 p]) ∧ w'.ownsRow w.heap.size 9 1 v xs.length (xs.map Value.string) ∧ xs.length ≤ s.size ∧ Below w.heap.size w w' ∧
    ((p = -1 ∧ headL [] [] (bs s) = (xs.map bs, none)) ∨ ∃ k : Nat, p = (k : Int) ∧ k ≤ s.size ∧ headL [] [] (bs s) = (xs.map bs, some ((bs s).drop k)))

theorem hd_go {s : ByteArray} {l : List ByteArray} {f j : Nat} (hf : f ≤ j + 1) (hj : j + 1 < s.size) (hn : f ≤ j → ¬ ((s[j]'(by omega)).toNat = 13 ∧ (s[j + 1]'hj).toNat = 10)) (h : HdInv s l f j) : HdInv s l f (j + 1) := by
  by_cases c : f ≤ j
  · exact hd_other c hj (hn c) h
  · exact hd_skip (by omega) h

set_option maxHeartbeats 4000000 in
set_option maxRecDepth 100000 in
theorem l3Head_any (s : ByteArray) (w : World) (hs : s.size ≤ 4000000) :
    Calls Tryz.prog 22 #[.string s] w fun e w' => HeadIs s w e w' := by
  obtain ⟨i0, hi, hz0, hz1, hz2⟩ := info_parts info9
  go_enter Tryz.func22, Tryz.ntmps22
  go_wp2
  go_loopw [4, 5, 6] (fun v a i wr => ∃ (j f : Nat) (l : List ByteArray), (j + 1 ≤ s.size ∨ j = 0) ∧ f ≤ j + 1 ∧ l.length ≤ f ∧ f ≤ s.size ∧ i = .int .i64 ((j : Int) + 1) ∧ a = .int .i64 (f : Int) ∧ Below w.heap.size w wr ∧
      Hid (HdInv s l f j) ∧ wr.ownsRow w.heap.size 9 1 v l.length (l.map Value.string)) (fun _ _ i _ => s.size + 1 - (intOf i).toNat)
  case atStart =>
    exact ⟨0, 0, [], .inr rfl, Nat.zero_le _, Nat.le_refl _, Nat.zero_le _, rfl, rfl, (Below.refl _ _).alloc (Nat.le_refl _) _, hd_start s, ⟨rfl, .inr ⟨w.heap.size, 0, #[], rfl, Nat.le_refl _, heap_alloc_new w _, Nat.le_refl _, Nat.zero_le _, rfl, rfl⟩⟩⟩
  case round =>
    obtain ⟨j, f, l, hj, hfj, hlf, hfs, rfl, rfl, hbw, hinv, hown⟩ := hrel
    by_cases hlt : j + 1 < s.size
    · have hlt2 : (j : Int) + 1 < (s.size : Int) := by omega
      have hjs : j < s.size := by omega
      by_cases h10 : (s[j + 1]'hlt).toNat = 10
      · have t1 : (((s[j + 1]'hlt).toNat : Int) != 10) = false := by rw [bne_eq_false_iff_eq]; omega
        by_cases h13 : (s[j]'hjs).toNat = 13
        · have t2 : (((s[j]'hjs).toNat : Int) != 13) = false := by rw [bne_eq_false_iff_eq]; omega
          by_cases hf : f ≤ j
          · have t3 : ¬ (j : Int) < (f : Int) := by omega
            by_cases hfe : f = j
            · have HF : Hid _ := hd_fin hfe hlt h13 h10 hinv.out
              subst hfe
              clear h10 h13 hj
              go_wp2
              go_ret2
              exact ⟨_, l, _, rfl, hown, by omega, hbw, .inr ⟨f + 2, by omega, by omega, HF.out⟩⟩
            · have HI : Hid _ := hd_line (by omega) hlt h13 h10 hinv.out
              have he : (s.extract f j).toList.isEmpty = false := by
                rw [ByteArray.toList_eq, List.isEmpty_eq_false_iff]
                intro e
                have := congrArg List.length e
                simp at this; omega
              have h63 : l.length + 1 ≤ maxLen := by unfold maxLen; omega
              have h47 : (l.length + 1) * 16 ≤ 140737488355328 := by omega
              have HBS : ∀ o, w.heap.size ≤ (wr.alloc o).heap.size := fun o => by have := hbw.size; simp; omega
              clear h10 h13 hj
              go_wp2_with (at_builtin; refine wpList_append_own _ rfl _ _ 49 rfl w.heap.size 9 i0 (.string ⟨#[]⟩) 1 16 Tryz.underlying49 hi hz0 hz1 hz2 rfl (by decide) _ _ _ rfl (hown.alloc _) ⟨wr.heap.size, 0, none⟩ 1 1 [.string (s.extract f j)] rfl rfl (cell_one_new _ _ _) (one_text _) h63 h47 (HBS _) ?_)
              intro v1 w2 hown2 hgrow _
              have hb2 : Below w.heap.size w w2 := (hbw.alloc hbw.size _).grown hgrow (HBS _) (fun g hg => owns_ge hown hg)
              have hown3 : w2.ownsRow w.heap.size 9 1 v1 (l ++ [s.extract f j]).length ((l ++ [s.extract f j]).map Value.string) := by simpa using hown2
              clear hown HBS hgrow hown2 hbw
              go_wp2
              go_roundw
              case rel => exact ⟨j + 1, j + 2, _, .inl (by omega), by omega, by simp; omega, by omega, by go_num, by go_num, hb2, HI, hown3⟩
              case measure => simp [intOf]; omega
          · have t3 : (j : Int) < (f : Int) := by omega
            have HI : Hid _ := hd_go hfj hlt (fun h => absurd h hf) hinv.out
            clear h10 h13 hj
            go_wp2
            go_roundw
            case rel => exact ⟨j + 1, f, l, .inl (by omega), by omega, hlf, hfs, by go_num, rfl, hbw, HI, hown⟩
            case measure => simp [intOf]; omega
        · have t2 : (((s[j]'hjs).toNat : Int) != 13) = true := by rw [bne_iff_ne]; omega
          have HI : Hid _ := hd_go hfj hlt (fun _ h => h13 h.1) hinv.out
          clear h10 h13 hj
          go_wp2
          go_roundw
          case rel => exact ⟨j + 1, f, l, .inl (by omega), by omega, hlf, hfs, by go_num, rfl, hbw, HI, hown⟩
          case measure => simp [intOf]; omega
      · have t1 : (((s[j + 1]'hlt).toNat : Int) != 10) = true := by rw [bne_iff_ne]; omega
        have HI : Hid _ := hd_go hfj hlt (fun _ h => h10 h.2) hinv.out
        clear h10 hj
        go_wp2
        go_roundw
        case rel => exact ⟨j + 1, f, l, .inl (by omega), by omega, hlf, hfs, by go_num, rfl, hbw, HI, hown⟩
        case measure => simp [intOf]; omega
    · have HE : Hid _ := hd_end hlt hinv.out
      have hlt2 : ¬ (j : Int) + 1 < (s.size : Int) := by omega
      go_wp2
      go_ret2
      exact ⟨_, l, _, rfl, hown, by omega, hbw, .inl ⟨rfl, HE.out⟩⟩

/-- What stands between blanks, in a list of the call's own. -/
def WordsIs (s : ByteArray) (w : World) (e : Ending) (w' : World) : Prop :=
  ∃ (v : Value) (xs : List ByteArray), e = .returned v ∧ w'.ownsRow w.heap.size 9 1 v xs.length (xs.map Value.string) ∧ xs.length ≤ s.size + 1 ∧ Below w.heap.size w w' ∧ wordsL [] [] (bs s) = xs.map bs

set_option maxHeartbeats 4000000 in
set_option maxRecDepth 100000 in
theorem l3Words_any (s : ByteArray) (w : World) (hs : s.size ≤ 4000000) :
    Calls Tryz.prog 23 #[.string s] w fun e w' => WordsIs s w e w' := by
  obtain ⟨i0, hi, hz0, hz1, hz2⟩ := info_parts info9
  go_enter Tryz.func23, Tryz.ntmps23
  go_wp2
  go_loopw [3, 4, 5] (fun v a i wr => ∃ (k f : Nat) (l : List ByteArray), k ≤ s.size + 1 ∧ f ≤ k ∧ l.length ≤ k ∧ i = .int .i64 (k : Int) ∧ a = .int .i64 (f : Int) ∧ Below w.heap.size w wr ∧
      Hid (WdInv s l f k) ∧ wr.ownsRow w.heap.size 9 1 v l.length (l.map Value.string)) (fun _ _ i _ => s.size + 1 - (intOf i).toNat)
  case atStart =>
    exact ⟨0, 0, [], Nat.zero_le _, Nat.le_refl _, Nat.le_refl _, rfl, rfl, (Below.refl _ _).alloc (Nat.le_refl _) _, wd_start s, ⟨rfl, .inr ⟨w.heap.size, 0, #[], rfl, Nat.le_refl _, heap_alloc_new w _, Nat.le_refl _, Nat.zero_le _, rfl, rfl⟩⟩⟩
  case round =>
    obtain ⟨k, f, l, hk, hfk, hlk, rfl, rfl, hbw, hinv, hown⟩ := hrel
    have h63 : l.length + 1 ≤ maxLen := by unfold maxLen; omega
    have h47 : (l.length + 1) * 16 ≤ 140737488355328 := by omega
    by_cases hks : k ≤ s.size
    · have hks2 : (k : Int) ≤ (s.size : Int) := by omega
      by_cases hlt : k < s.size
      · have hlt2 : (k : Int) < (s.size : Int) := by omega
        have hne : ((k : Int) == (s.size : Int)) = false := by rw [beq_eq_false_iff_ne]; omega
        by_cases hc : (s[k]'hlt).toNat = 32
        · have t1 : (((s[k]'hlt).toNat : Int) == 32) = true := by rw [beq_iff_eq]; omega
          have HI : Hid _ := wd_blank hlt hc hinv.out
          have HBS : ∀ o, w.heap.size ≤ (wr.alloc o).heap.size := fun o => by have := hbw.size; simp; omega
          clear hc hk
          go_wp2_with (at_builtin; refine wpList_append_own _ rfl _ _ 49 rfl w.heap.size 9 i0 (.string ⟨#[]⟩) 1 16 Tryz.underlying49 hi hz0 hz1 hz2 rfl (by decide) _ _ _ rfl (hown.alloc _) ⟨wr.heap.size, 0, none⟩ 1 1 [.string (s.extract f k)] rfl rfl (cell_one_new _ _ _) (one_text _) h63 h47 (HBS _) ?_)
          intro v1 w2 hown2 hgrow _
          have hb2 : Below w.heap.size w w2 := (hbw.alloc hbw.size _).grown hgrow (HBS _) (fun g hg => owns_ge hown hg)
          have hown3 : w2.ownsRow w.heap.size 9 1 v1 (l ++ [s.extract f k]).length ((l ++ [s.extract f k]).map Value.string) := by simpa using hown2
          clear hown HBS hgrow hown2 hbw
          go_wp2
          go_roundw
          case rel => exact ⟨k + 1, k + 1, _, by omega, by omega, by simp; omega, by go_num, by go_num, hb2, HI, hown3⟩
          case measure => simp [intOf]; omega
        · have t1 : (((s[k]'hlt).toNat : Int) == 32) = false := by rw [beq_eq_false_iff_ne]; omega
          have HI : Hid _ := wd_other hfk hlt hc hinv.out
          clear hc hk
          go_wp2
          go_roundw
          case rel => exact ⟨k + 1, f, l, by omega, by omega, by omega, by go_num, rfl, hbw, HI, hown⟩
          case measure => simp [intOf]; omega
      · obtain rfl : k = s.size := by omega
        have HI : Hid _ := wd_last rfl hinv.out
        have HBS : ∀ o, w.heap.size ≤ (wr.alloc o).heap.size := fun o => by have := hbw.size; simp; omega
        clear hk
        go_wp2_with (at_builtin; refine wpList_append_own _ rfl _ _ 49 rfl w.heap.size 9 i0 (.string ⟨#[]⟩) 1 16 Tryz.underlying49 hi hz0 hz1 hz2 rfl (by decide) _ _ _ rfl (hown.alloc _) ⟨wr.heap.size, 0, none⟩ 1 1 [.string (s.extract f s.size)] rfl rfl (cell_one_new _ _ _) (one_text _) h63 h47 (HBS _) ?_)
        intro v1 w2 hown2 hgrow _
        have hb2 : Below w.heap.size w w2 := (hbw.alloc hbw.size _).grown hgrow (HBS _) (fun g hg => owns_ge hown hg)
        have hown3 : w2.ownsRow w.heap.size 9 1 v1 (l ++ [s.extract f s.size]).length ((l ++ [s.extract f s.size]).map Value.string) := by simpa using hown2
        clear hown HBS hgrow hown2 hbw
        go_wp2
        go_roundw
        case rel => exact ⟨s.size + 1, s.size + 1, _, by omega, by omega, by simp; omega, by go_num, by go_num, hb2, HI, hown3⟩
        case measure => simp [intOf]
    · have HE : Hid _ := wd_end hks hinv.out
      have hks2 : ¬ (k : Int) ≤ (s.size : Int) := by omega
      go_wp2
      go_ret
      exact ⟨_, l, rfl, hown, by omega, hbw, HE.out⟩

end Go.Proofs.YtacfajnagbeocaaGreatDoor
