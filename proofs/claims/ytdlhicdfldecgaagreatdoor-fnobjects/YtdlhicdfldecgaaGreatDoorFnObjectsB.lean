/- What the proof of FnObjects leans on: contracts of the program's and the specification's functions, and plain facts (part 2 of 8). -/
import Derived.Test.YtdlhicdfldecgaaGreatDoorFnObjectsA
namespace Go.Proofs.YtdlhicdfldecgaaGreatDoor
open Go.RowKit
open Go.Lib hiding intOf

/-- The lines of a head, in a list of the call's own, and where what is behind them begins. -/
def HeadIs (s : ByteArray) (w : World) (e : Ending) (w' : World) : Prop :=
  ∃ (v : Value) (xs : List ByteArray) (p : Int), e = .returned (.tuple #[v, .int .i64 p]) ∧ w'.ownsRow w.heap.size 9 1 v xs.length (xs.map Value.string) ∧ xs.length ≤ s.size ∧ Below w.heap.size w w' ∧
    ((p = -1 ∧ headL [] [] (bs s) = (xs.map bs, none)) ∨ ∃ k : Nat, p = (k : Int) ∧ k ≤ s.size ∧ headL [] [] (bs s) = (xs.map bs, some ((bs s).drop k)))

theorem hd_go {s : ByteArray} {l : List ByteArray} {f j : Nat} (hf : f ≤ j + 1) (hj : j + 1 < s.size) (hn : f ≤ j → ¬ ((s[j]'(by omega)).toNat = 13 ∧ (s[j + 1]'hj).toNat = 10)) (h : HdInv s l f j) : HdInv s l f (j + 1) := by
  by_cases c : f ≤ j
  · exact hd_other c hj (hn c) h
  · exact hd_skip (by omega) h

set_option maxHeartbeats 4000000 in
set_option maxRecDepth 100000 in
theorem l3Head_any (s : ByteArray) (w : World) (hs : s.size ≤ 4000000) :
    Calls Tryz.prog 100 #[.string s] w fun e w' => HeadIs s w e w' := by
  obtain ⟨i0, hi, hz0, hz1, hz2⟩ := info_parts info9
  go_enter Tryz.func100, Tryz.ntmps100
  go_wp2
  go_loopw [4, 5, 6] (fun v a i wr => ∃ (j f : Nat) (l : List ByteArray), (j + 1 ≤ s.size ∨ j = 0) ∧ f ≤ j + 1 ∧ l.length ≤ f ∧ f ≤ s.size ∧ i = .int .i64 ((j : Int) + 1) ∧ a = .int .i64 (f : Int) ∧ Below w.heap.size w wr ∧
      Hid (HdInv s l f j) ∧ wr.ownsRow w.heap.size 9 1 v l.length (l.map Value.string)) (fun _ _ i _ => s.size + 1 - (intOf i).toNat)
  case atStart =>
    exact ⟨0, 0, [], .inr rfl, Nat.zero_le _, Nat.le_refl _, Nat.zero_le _, rfl, rfl, (Below.refl _ _).alloc (Nat.le_refl _) _, hd_start s, ⟨rfl, .inr ⟨w.heap.size, 0, #[], rfl, Nat.le_refl _, heap_alloc_new w _, Nat.le_refl _, Nat.zero_le _, rfl, rfl⟩⟩⟩
  case round =>
    obtain ⟨j, f, l, hj, hfj, hlf, hfs, rfl, rfl, hbw, hinv, hown⟩ := hrel
    by_cases hlt : j + 1 < s.size
    · have hlt2 : (j : Int) + 1 < (s.size : Int) := by omega
      have hjs : j < s.size := by omega
      by_cases h10 : (s[j + 1]'hlt).toNat = 10
      · have t1 : (((s[j + 1]'hlt).toNat : Int) != 10) = false := by rw [bne_eq_false_iff_eq]; omega
        by_cases h13 : (s[j]'hjs).toNat = 13
        · have t2 : (((s[j]'hjs).toNat : Int) != 13) = false := by rw [bne_eq_false_iff_eq]; omega
          by_cases hf : f ≤ j
          · have t3 : ¬ (j : Int) < (f : Int) := by omega
            by_cases hfe : f = j
            · have HF : Hid _ := hd_fin hfe hlt h13 h10 hinv.out
              subst hfe
              clear h10 h13 hj
              go_wp2
              go_ret2
              exact ⟨_, l, _, rfl, hown, by omega, hbw, .inr ⟨f + 2, by omega, by omega, HF.out⟩⟩
            · have HI : Hid _ := hd_line (by omega) hlt h13 h10 hinv.out
              have he : (s.extract f j).toList.isEmpty = false := by
                rw [ByteArray.toList_eq, List.isEmpty_eq_false_iff]
                intro e
                have := congrArg List.length e
                simp at this; omega
              have h63 : l.length + 1 ≤ maxLen := by unfold maxLen; omega
              have h47 : (l.length + 1) * 16 ≤ 140737488355328 := by omega
              have HBS : ∀ o, w.heap.size ≤ (wr.alloc o).heap.size := fun o => by have := hbw.size; simp; omega
              clear h10 h13 hj
              go_wp2_with (at_builtin; refine wpList_append_own _ rfl _ _ 24 rfl w.heap.size 9 i0 (.string ⟨#[]⟩) 1 16 Tryz.underlying24 hi hz0 hz1 hz2 rfl (by decide) _ _ _ rfl (hown.alloc _) ⟨wr.heap.size, 0, none⟩ 1 1 [.string (s.extract f j)] rfl rfl (cell_one_new _ _ _) (one_text _) h63 h47 (HBS _) ?_)
              intro v1 w2 hown2 hgrow _
              have hb2 : Below w.heap.size w w2 := (hbw.alloc hbw.size _).grown hgrow (HBS _) (fun g hg => owns_ge hown hg)
              have hown3 : w2.ownsRow w.heap.size 9 1 v1 (l ++ [s.extract f j]).length ((l ++ [s.extract f j]).map Value.string) := by simpa using hown2
              clear hown HBS hgrow hown2 hbw
              go_wp2
              go_roundw
              case rel => exact ⟨j + 1, j + 2, _, .inl (by omega), by omega, by simp; omega, by omega, by go_num, by go_num, hb2, HI, hown3⟩
              case measure => simp [intOf]; omega
          · have t3 : (j : Int) < (f : Int) := by omega
            have HI : Hid _ := hd_go hfj hlt (fun h => absurd h hf) hinv.out
            clear h10 h13 hj
            go_wp2
            go_roundw
            case rel => exact ⟨j + 1, f, l, .inl (by omega), by omega, hlf, hfs, by go_num, rfl, hbw, HI, hown⟩
            case measure => simp [intOf]; omega
        · have t2 : (((s[j]'hjs).toNat : Int) != 13) = true := by rw [bne_iff_ne]; omega
          have HI : Hid _ := hd_go hfj hlt (fun _ h => h13 h.1) hinv.out
          clear h10 h13 hj
          go_wp2
          go_roundw
          case rel => exact ⟨j + 1, f, l, .inl (by omega), by omega, hlf, hfs, by go_num, rfl, hbw, HI, hown⟩
          case measure => simp [intOf]; omega
      · have t1 : (((s[j + 1]'hlt).toNat : Int) != 10) = true := by rw [bne_iff_ne]; omega
        have HI : Hid _ := hd_go hfj hlt (fun _ h => h10 h.2) hinv.out
        clear h10 hj
        go_wp2
        go_roundw
        case rel => exact ⟨j + 1, f, l, .inl (by omega), by omega, hlf, hfs, by go_num, rfl, hbw, HI, hown⟩
        case measure => simp [intOf]; omega
    · have HE : Hid _ := hd_end hlt hinv.out
      have hlt2 : ¬ (j : Int) + 1 < (s.size : Int) := by omega
      go_wp2
      go_ret2
      exact ⟨_, l, _, rfl, hown, by omega, hbw, .inl ⟨rfl, HE.out⟩⟩

/-- What stands between blanks, in a list of the call's own. -/
def WordsIs (s : ByteArray) (w : World) (e : Ending) (w' : World) : Prop :=
  ∃ (v : Value) (xs : List ByteArray), e = .returned v ∧ w'.ownsRow w.heap.size 9 1 v xs.length (xs.map Value.string) ∧ xs.length ≤ s.size + 1 ∧ Below w.heap.size w w' ∧ wordsL [] [] (bs s) = xs.map bs

set_option maxHeartbeats 4000000 in
set_option maxRecDepth 100000 in
theorem l3Words_any (s : ByteArray) (w : World) (hs : s.size ≤ 4000000) :
    Calls Tryz.prog 46 #[.string s] w fun e w' => WordsIs s w e w' := by
  obtain ⟨i0, hi, hz0, hz1, hz2⟩ := info_parts info9
  go_enter Tryz.func46, Tryz.ntmps46
  go_wp2
  go_loopw [3, 4, 5] (fun v a i wr => ∃ (k f : Nat) (l : List ByteArray), k ≤ s.size + 1 ∧ f ≤ k ∧ l.length ≤ k ∧ i = .int .i64 (k : Int) ∧ a = .int .i64 (f : Int) ∧ Below w.heap.size w wr ∧
      Hid (WdInv s l f k) ∧ wr.ownsRow w.heap.size 9 1 v l.length (l.map Value.string)) (fun _ _ i _ => s.size + 1 - (intOf i).toNat)
  case atStart =>
    exact ⟨0, 0, [], Nat.zero_le _, Nat.le_refl _, Nat.le_refl _, rfl, rfl, (Below.refl _ _).alloc (Nat.le_refl _) _, wd_start s, ⟨rfl, .inr ⟨w.heap.size, 0, #[], rfl, Nat.le_refl _, heap_alloc_new w _, Nat.le_refl _, Nat.zero_le _, rfl, rfl⟩⟩⟩
  case round =>
    obtain ⟨k, f, l, hk, hfk, hlk, rfl, rfl, hbw, hinv, hown⟩ := hrel
    have h63 : l.length + 1 ≤ maxLen := by unfold maxLen; omega
    have h47 : (l.length + 1) * 16 ≤ 140737488355328 := by omega
    by_cases hks : k ≤ s.size
    · have hks2 : (k : Int) ≤ (s.size : Int) := by omega
      by_cases hlt : k < s.size
      · have hlt2 : (k : Int) < (s.size : Int) := by omega
        have hne : ((k : Int) == (s.size : Int)) = false := by rw [beq_eq_false_iff_ne]; omega
        by_cases hc : (s[k]'hlt).toNat = 32
        · have t1 : (((s[k]'hlt).toNat : Int) == 32) = true := by rw [beq_iff_eq]; omega
          have HI : Hid _ := wd_blank hlt hc hinv.out
          have HBS : ∀ o, w.heap.size ≤ (wr.alloc o).heap.size := fun o => by have := hbw.size; simp; omega
          clear hc hk
          go_wp2_with (at_builtin; refine wpList_append_own _ rfl _ _ 24 rfl w.heap.size 9 i0 (.string ⟨#[]⟩) 1 16 Tryz.underlying24 hi hz0 hz1 hz2 rfl (by decide) _ _ _ rfl (hown.alloc _) ⟨wr.heap.size, 0, none⟩ 1 1 [.string (s.extract f k)] rfl rfl (cell_one_new _ _ _) (one_text _) h63 h47 (HBS _) ?_)
          intro v1 w2 hown2 hgrow _
          have hb2 : Below w.heap.size w w2 := (hbw.alloc hbw.size _).grown hgrow (HBS _) (fun g hg => owns_ge hown hg)
          have hown3 : w2.ownsRow w.heap.size 9 1 v1 (l ++ [s.extract f k]).length ((l ++ [s.extract f k]).map Value.string) := by simpa using hown2
          clear hown HBS hgrow hown2 hbw
          go_wp2
          go_roundw
          case rel => exact ⟨k + 1, k + 1, _, by omega, by omega, by simp; omega, by go_num, by go_num, hb2, HI, hown3⟩
          case measure => simp [intOf]; omega
        · have t1 : (((s[k]'hlt).toNat : Int) == 32) = false := by rw [beq_eq_false_iff_ne]; omega
          have HI : Hid _ := wd_other hfk hlt hc hinv.out
          clear hc hk
          go_wp2
          go_roundw
          case rel => exact ⟨k + 1, f, l, by omega, by omega, by omega, by go_num, rfl, hbw, HI, hown⟩
          case measure => simp [intOf]; omega
      · obtain rfl : k = s.size := by omega
        have HI : Hid _ := wd_last rfl hinv.out
        have HBS : ∀ o, w.heap.size ≤ (wr.alloc o).heap.size := fun o => by have := hbw.size; simp; omega
        clear hk
        go_wp2_with (at_builtin; refine wpList_append_own _ rfl _ _ 24 rfl w.heap.size 9 i0 (.string ⟨#[]⟩) 1 16 Tryz.underlying24 hi hz0 hz1 hz2 rfl (by decide) _ _ _ rfl (hown.alloc _) ⟨wr.heap.size, 0, none⟩ 1 1 [.string (s.extract f s.size)] rfl rfl (cell_one_new _ _ _) (one_text _) h63 h47 (HBS _) ?_)
        intro v1 w2 hown2 hgrow _
        have hb2 : Below w.heap.size w w2 := (hbw.alloc hbw.size _).grown hgrow (HBS _) (fun g hg => owns_ge hown hg)
        have hown3 : w2.ownsRow w.heap.size 9 1 v1 (l ++ [s.extract f s.size]).length ((l ++ [s.extract f s.size]).map Value.string) := by simpa using hown2
        clear hown HBS hgrow hown2 hbw
        go_wp2
        go_roundw
        case rel => exact ⟨s.size + 1, s.size + 1, _, by omega, by omega, by simp; omega, by go_num, by go_num, hb2, HI, hown3⟩
        case measure => simp [intOf]
    · have HE : Hid _ := wd_end hks hinv.out
      have hks2 : ¬ (k : Int) ≤ (s.size : Int) := by omega
      go_wp2
      go_ret
      exact ⟨_, l, rfl, hown, by omega, hbw, HE.out⟩

end Go.Proofs.YtdlhicdfldecgaaGreatDoor

namespace Go.Proofs.YtdlhicdfldecgaaGreatDoor
open Go.RowKit
open Go.Lib hiding intOf

theorem flatF_append (a b : List (ByteArray × ByteArray)) : flatF (a ++ b) = flatF a ++ flatF b := by simp [flatF]
theorem flatF_one (nm vl : ByteArray) : flatF [(nm, vl)] = [.string nm, .string vl] := rfl
theorem two_text (a b : ByteArray) : ∀ u ∈ [Value.string a, Value.string b], u.oneCell' = true := by
  intro u hu
  simp at hu
  rcases hu with rfl | rfl <;> rfl

/-- The first k fields without the one at that place. -/
def dropTo (fs : List (ByteArray × ByteArray)) (p : Int) : Nat → List (ByteArray × ByteArray)
  | 0 => []
  | k + 1 => if (k : Int) = p then dropTo fs p k else dropTo fs p k ++ [(nameAt fs k, valAt fs k)]
def dropF (fs : List (ByteArray × ByteArray)) (name : ByteArray) : List (ByteArray × ByteArray) := dropTo fs (atI fs name) fs.length
/-- A call answers a list of these fields in memory of its own, and turns nothing that was there. -/
def RowF (fs : List (ByteArray × ByteArray)) (w : World) (e : Ending) (w' : World) : Prop :=
  ∃ v, e = .returned v ∧ w'.ownsRow w.heap.size 131 2 v fs.length (flatF fs) ∧ Below w.heap.size w w'

set_option maxHeartbeats 2000000 in
set_option maxRecDepth 100000 in
theorem specDrop_any (v : Value) (n base : Nat) (fs : List (ByteArray × ByteArray)) (name : ByteArray) (w : World) (hv : FieldsV w base v n fs) (hn : n ≤ 2000000) :
    Calls Tryz.prog 51 #[v, .string name] w fun e w' => RowF (dropF fs name) w e w' := by
  obtain ⟨i0, hi, hz0, hz1, hz2⟩ := info_parts info33
  have hl := hv.len
  obtain ⟨p, hp⟩ : ∃ p, p = atI fs name := ⟨_, rfl⟩
  have hDF : Hid (dropF fs name = dropTo fs p n) := by show _ = _; unfold dropF; rw [← hp, hl]
  go_enter Tryz.func51, Tryz.ntmps51
  go_wp2_with fail
  refine (l2At_any v n base fs name _ hv (by omega)).mono ?_
  rintro e w1 ⟨rfl, rfl⟩
  rw [← hp]
  clear hp
  have hv0 := hv
  rcases hv0 with ⟨oa, ca, rfl, _, rfl, rfl⟩ | ⟨g, cap, rfl, hp0, row⟩
  · have hT : Hid (dropTo [] p 0 = []) := rfl
    clear hv
    go_wp2
    refine wp_loop_rounds 1 ?_
    rw [rounds_succ]
    go_wp2
    go_ret
    refine ⟨_, rfl, ?_, (Below.refl _ _).alloc (Nat.le_refl _) _⟩
    rw [hDF.out, hT.out]
    exact ⟨rfl, .inr ⟨w1.heap.size, 0, #[], rfl, Nat.le_refl _, heap_alloc_new w1 _, Nat.le_refl _, Nat.zero_le _, rfl, rfl⟩⟩
  · clear hv
    go_wp2
    go_loopw [6, 7] (fun o i wr => ∃ k m : Nat, k ≤ n ∧ m ≤ k ∧ i = .int .i64 (k : Int) ∧ Hid (m = (dropTo fs p k).length) ∧ wr.ownsRow w1.heap.size 131 2 o m (flatF (dropTo fs p k)) ∧ Below w1.heap.size w1 wr) (fun _ i _ => n - (intOf i).toNat)
    case atStart => exact ⟨0, 0, Nat.zero_le _, Nat.le_refl _, rfl, rfl, ⟨rfl, .inr ⟨w1.heap.size, 0, #[], rfl, Nat.le_refl _, heap_alloc_new w1 _, Nat.le_refl _, Nat.zero_le _, rfl, rfl⟩⟩, (Below.refl _ _).alloc (Nat.le_refl _) _⟩
    case round =>
      obtain ⟨k, m, hk, hmk, rfl, hm, hown, hbw⟩ := hrel
      by_cases hlt : k < n
      · have hlt2 : (k : Int) < (n : Int) := by omega
        by_cases hkp : (k : Int) = p
        · have hne : ((k : Int) != p) = false := by rw [bne_eq_false_iff_eq]; exact hkp
          have HD : Hid (dropTo fs p (k + 1) = dropTo fs p k) := by show _ = _; rw [dropTo, if_pos hkp]
          clear hkp
          go_wp2
          go_roundw
          case rel => exact ⟨k + 1, m, by omega, by omega, by go_num, by rw [HD.out]; exact hm, by rw [HD.out]; exact hown, hbw⟩
          case measure => simp [intOf]; omega
        · have hne : ((k : Int) != p) = true := by rw [bne_iff_ne]; exact hkp
          obtain ⟨nm, hnm⟩ : ∃ y, y = nameAt fs k := ⟨_, rfl⟩
          obtain ⟨vl, hvl⟩ : ∃ y, y = valAt fs k := ⟨_, rfl⟩
          have HD : Hid (dropTo fs p (k + 1) = dropTo fs p k ++ [(nm, vl)]) := by show _ = _; rw [dropTo, if_neg hkp, hnm, hvl]
          have hc1 := (row.below hbw row.lt).name k hlt
          have hc2 := (row.below hbw row.lt).val k hlt
          rw [← hnm] at hc1
          rw [← hvl] at hc2
          have h63 : m + 1 ≤ maxLen := by unfold maxLen; omega
          have h47 : (m + 1) * 32 ≤ 140737488355328 := by omega
          have HBS : ∀ o, w1.heap.size ≤ (wr.alloc o).heap.size := fun o => by have := hbw.size; simp; omega
          clear hkp hnm hvl
          go_wp2_with (at_builtin; refine wpList_append_own _ rfl _ _ 25 rfl w1.heap.size 131 i0 (.agg #[.string ⟨#[]⟩, .string ⟨#[]⟩]) 2 32 Tryz.underlying25 hi hz0 hz1 hz2 rfl (by decide) _ _ _ rfl (hown.alloc _) ⟨wr.heap.size, 0, none⟩ 1 1 [.string nm, .string vl] rfl rfl (cell_two_new _ _ _ _) (two_text _ _) h63 h47 (HBS _) ?_)
          intro v1 w2 hown1 hgrow _
          have hb2 : Below w1.heap.size w1 w2 := (hbw.alloc hbw.size _).grown hgrow (HBS _) (fun g hg => owns_ge hown hg)
          have hown2 : w2.ownsRow w1.heap.size 131 2 v1 (m + 1) (flatF (dropTo fs p (k + 1))) := by rw [HD.out, flatF_append, flatF_one]; exact hown1
          have hm2 : Hid (m + 1 = (dropTo fs p (k + 1)).length) := by show _ = _; rw [HD.out, hm.out]; simp
          clear hgrow hown1 hown hbw HBS hc1 hc2
          go_wp2
          go_roundw
          case rel => exact ⟨k + 1, m + 1, by omega, by omega, by go_num, hm2, hown2, hb2⟩
          case measure => simp [intOf]; omega
      · obtain rfl : k = n := by omega
        go_wp2
        go_ret
        exact ⟨_, rfl, by rw [hDF.out, ← hm.out]; exact hown, hbw⟩

def putF (fs : List (ByteArray × ByteArray)) (name value : ByteArray) : List (ByteArray × ByteArray) :=
  if atF fs name < fs.length then fs.set (atF fs name) (nameAt fs (atF fs name), value) else fs ++ [(name, value)]
/-- One value of a row stored anew. -/
theorem FieldRow.setVal {base : Nat} {w : World} {g n cap : Nat} {fs : List (ByteArray × ByteArray)} (h : FieldRow base w g n cap fs) (k : Nat) (hk : k < n) (b : ByteArray) : FieldRow base (w.setCell ⟨g, k * 2 + 1, none⟩ (.string b)) g n cap (fs.set k (nameAt fs k, b)) := by
  have hl := h.len; have hle := h.le
  obtain ⟨cur, h1, h2, h3⟩ := h.heap
  refine ⟨by simp [hl], h.base, by simpa using h.lt, h.le, h.mx, cur.setIfInBounds (k * 2 + 1) (.string b), heap_set w g (k * 2 + 1) _ _ _ _ h1, by simpa using h2, ?_⟩
  intro i hi
  have hs := nameAt_set fs k i (nameAt fs k, b) (by omega)
  rw [hs.1, hs.2]
  have h4 := h3 i hi
  by_cases e : i = k
  · subst e
    rw [if_pos rfl, if_pos rfl]
    refine ⟨?_, ?_⟩
    · rw [Array.getElem?_setIfInBounds_ne (by omega)]; exact h4.1
    · rw [Array.getElem?_setIfInBounds_self_of_lt (by omega)]
  · rw [if_neg e, if_neg e]
    refine ⟨?_, ?_⟩
    · rw [Array.getElem?_setIfInBounds_ne (by omega)]; exact h4.1
    · rw [Array.getElem?_setIfInBounds_ne (by omega)]; exact h4.2
/-- The cells of a row, one behind the other. -/
theorem FieldRow.cells {base : Nat} {w : World} {g n cap : Nat} {fs : List (ByteArray × ByteArray)} (h : FieldRow base w g n cap fs) : ∀ j u, (flatF fs)[j]? = some u → w.cell? ((⟨g, 0, none⟩ : Addr).add j) = some u := by
  intro j u hj
  have hl := h.len
  have hjl : j < fs.length * 2 := by
    rw [← flatF_len]
    exact (List.getElem?_eq_some_iff.1 hj).1
  have e0 : (⟨g, 0, none⟩ : Addr).add j = ⟨g, j, none⟩ := by
    unfold Addr.add; split <;> simp_all
  rw [e0]
  have hf := flatF_get fs (j / 2) (by omega)
  rcases Nat.mod_two_eq_zero_or_one j with e | e
  · have e2 : j / 2 * 2 = j := by omega
    have hc := h.name (j / 2) (by omega)
    rw [e2] at hf hc
    rw [hf.1] at hj
    cases hj
    exact hc
  · have e2 : j / 2 * 2 + 1 = j := by omega
    have hc := h.val (j / 2) (by omega)
    rw [e2] at hf hc
    rw [hf.2] at hj
    cases hj
    exact hc
theorem flat_one (fs : List (ByteArray × ByteArray)) : ∀ u ∈ flatF fs, u.oneCell' = true := by
  intro u hu
  simp only [flatF, List.mem_flatMap] at hu
  obtain ⟨f, _, hf⟩ := hu
  exact two_text f.1 f.2 u hf

/-- What 'append' reads of a list: nil, or cells behind an address. -/
theorem FieldsV.src {w : World} {base n : Nat} {v : Value} {fs : List (ByteArray × ByteArray)} (h : FieldsV w base v n fs) :
    (v = .slice none 0 0 ∧ n = 0 ∧ fs = []) ∨ ∃ ad cap, v = .slice (some ad) n cap ∧ ∀ j u, (flatF fs)[j]? = some u → w.cell? (ad.add j) = some u := by
  rcases h with ⟨oa, cap, rfl, h0, rfl, rfl⟩ | ⟨g, cap, rfl, _, row⟩
  · cases oa with
    | none => exact .inl ⟨by rw [h0 rfl], rfl, rfl⟩
    | some ad => exact .inr ⟨ad, cap, rfl, fun j u hj => by simp [flatF] at hj⟩
  · exact .inr ⟨_, cap, rfl, row.cells⟩

set_option maxHeartbeats 2000000 in
set_option maxRecDepth 100000 in
theorem specPut_any (v : Value) (n base : Nat) (fs : List (ByteArray × ByteArray)) (name value : ByteArray) (w : World) (hv : FieldsV w base v n fs) (hn : n ≤ 2000000) :
    Calls Tryz.prog 53 #[v, .string name, .string value] w fun e w' => RowF (putF fs name value) w e w' := by
  obtain ⟨i0, hi, hz0, hz1, hz2⟩ := info_parts info33
  have hl := hv.len
  have h63a : 0 + n ≤ maxLen := by unfold maxLen; omega
  have h47a : (0 + n) * 32 ≤ 140737488355328 := by omega
  have hown0 : (w.alloc (.cells #[] 131)).ownsRow w.heap.size 131 2 (.slice (some ⟨w.heap.size, 0, none⟩) 0 0) 0 [] := ⟨rfl, .inr ⟨w.heap.size, 0, #[], rfl, Nat.le_refl _, heap_alloc_new w _, Nat.le_refl _, Nat.zero_le _, rfl, rfl⟩⟩
  have hbs0 : w.heap.size ≤ (w.alloc (.cells #[] 131)).heap.size := by simp
  have hv1 := hv.below ((Below.refl _ w).alloc (Nat.le_refl _) (.cells #[] 131))
  rcases hv1.src with ⟨rfl, rfl, rfl⟩ | ⟨ad, cap, rfl, hcs⟩
  · have hP : Hid (putF [] name value = [(name, value)]) := rfl
    have hI : Hid (atI [] name = -1) := rfl
    have hb2 : Below w.heap.size w (w.alloc (.cells #[] 131)) := (Below.refl _ w).alloc (Nat.le_refl _) _
    have HBS : ∀ o, w.heap.size ≤ ((w.alloc (.cells #[] 131)).alloc o).heap.size := fun o => by simp; omega
    clear hv
    go_enter Tryz.func53, Tryz.ntmps53
    go_wp2_with (at_builtin; refine wpList_append_own_none rfl _ _ 25 rfl w.heap.size 131 i0 2 Tryz.underlying25 hi _ _ _ rfl hown0 rfl ?_)
    go_wp2_with fail
    refine (l2At_any _ 0 base [] name _ hv1 (by omega)).mono ?_
    rintro e w3 ⟨rfl, hw3⟩
    rw [← hw3] at hown0 hb2 HBS
    clear hv1 hbs0 hw3
    rw [hI.out]
    have h63 : 0 + 1 ≤ maxLen := by unfold maxLen; omega
    have h47 : (0 + 1) * 32 ≤ 140737488355328 := by omega
    go_wp2_with (at_builtin; refine wpList_append_own _ rfl _ _ 25 rfl w.heap.size 131 i0 (.agg #[.string ⟨#[]⟩, .string ⟨#[]⟩]) 2 32 Tryz.underlying25 hi hz0 hz1 hz2 rfl (by decide) _ _ _ rfl (hown0.alloc _) ⟨w3.heap.size, 0, none⟩ 1 1 [.string name, .string value] rfl rfl (cell_two_new _ _ _ _) (two_text _ _) h63 h47 (HBS _) ?_)
    intro v4 w4 hown4 hgrow4 _
    have hb4 : Below w.heap.size w w4 := (hb2.alloc hb2.size _).grown hgrow4 (HBS _) (fun g hg => owns_ge hown0 hg)
    clear hgrow4 HBS
    go_wp2
    go_ret
    exact ⟨_, rfl, by rw [hP.out, flatF_one]; simpa using hown4, hb4⟩
  · have hnl : (flatF fs).length = n * 2 := by rw [flatF_len, hl]
    go_enter Tryz.func53, Tryz.ntmps53
    go_wp2_with (at_builtin; refine wpList_append_own _ rfl _ _ 25 rfl w.heap.size 131 i0 (.agg #[.string ⟨#[]⟩, .string ⟨#[]⟩]) 2 32 Tryz.underlying25 hi hz0 hz1 hz2 rfl (by decide) _ _ _ rfl hown0 ad n cap (flatF fs) rfl hnl hcs (flat_one _) h63a h47a hbs0 ?_)
    intro v1 w2 hown1 hgrow _
    have hb2 : Below w.heap.size w w2 := ((Below.refl _ w).alloc (Nat.le_refl _) _).grown hgrow hbs0 (fun g hg => owns_ge hown0 hg)
    have hv2 := hv.below hb2
    have hown2 : w2.ownsRow w.heap.size 131 2 v1 n (flatF fs) := by simpa using hown1
    clear hgrow hown1 hown0 hbs0 hv1 hcs hv
    by_cases hin : atF fs name < fs.length
    · have hI : Hid (atI fs name = (atF fs name : Int)) := by show _ = _; unfold atI; rw [if_pos hin]
      have hP : Hid (putF fs name value = fs.set (atF fs name) (nameAt fs (atF fs name), value)) := by show _ = _; unfold putF; rw [if_pos hin]
      obtain ⟨k, hk⟩ : ∃ k, k = atF fs name := ⟨_, rfl⟩
      rw [← hk] at hI hP hin
      clear hk
      go_wp2_with fail
      refine (l2At_any _ n base fs name _ hv2 (by omega)).mono ?_
      rintro e w3 ⟨rfl, rfl⟩
      rw [hI.out]
      rcases frow_form hown2 with ⟨_, _, _, _, h0, _⟩ | ⟨g1, c1, rfl, _, row1⟩
      · omega
      have hset := row1.setVal k (by omega) value
      have hc := row1.val k (by omega)
      have hf := row1.frozen (k * 2 + 1)
      have hlt : (k : Int) < (n : Int) := by omega
      have hb3 := hb2.setCell (p := ⟨g1, k * 2 + 1, none⟩) row1.base (.string value)
      clear hv2 hown2
      go_wp2
      go_ret
      exact ⟨_, rfl, by rw [hP.out]; simpa [hl] using hset.owns, hb3⟩
    · have hI : Hid (atI fs name = -1) := by show _ = _; unfold atI; rw [if_neg hin]
      have hP : Hid (putF fs name value = fs ++ [(name, value)]) := by show _ = _; unfold putF; rw [if_neg hin]
      clear hin
      go_wp2_with fail
      refine (l2At_any _ n base fs name _ hv2 (by omega)).mono ?_
      rintro e w3 ⟨rfl, rfl⟩
      rw [hI.out]
      have h63 : n + 1 ≤ maxLen := by unfold maxLen; omega
      have h47 : (n + 1) * 32 ≤ 140737488355328 := by omega
      have HBS : ∀ o, w.heap.size ≤ (w3.alloc o).heap.size := fun o => by have := hb2.size; simp; omega
      go_wp2_with (at_builtin; refine wpList_append_own _ rfl _ _ 25 rfl w.heap.size 131 i0 (.agg #[.string ⟨#[]⟩, .string ⟨#[]⟩]) 2 32 Tryz.underlying25 hi hz0 hz1 hz2 rfl (by decide) _ _ _ rfl (hown2.alloc _) ⟨w3.heap.size, 0, none⟩ 1 1 [.string name, .string value] rfl rfl (cell_two_new _ _ _ _) (two_text _ _) h63 h47 (HBS _) ?_)
      intro v4 w4 hown4 hgrow4 _
      have hb4 : Below w.heap.size w w4 := (hb2.alloc hb2.size _).grown hgrow4 (HBS _) (fun g hg => owns_ge hown2 hg)
      clear hgrow4 HBS
      go_wp2
      go_ret
      exact ⟨_, rfl, by rw [hP.out, flatF_append, flatF_one]; simpa [hl] using hown4, hb4⟩

end Go.Proofs.YtdlhicdfldecgaaGreatDoor

namespace Go.Proofs.YtdlhicdfldecgaaGreatDoor
open Go.RowKit
open Go.Lib hiding intOf

/-- A list of texts that a function reads, in blocks below B. -/
def TextsV (w : World) (B : Nat) (a : Option Addr) (n : Nat) (xs : List ByteArray) : Prop :=
  xs.length = n ∧ ∀ i (h : i < xs.length), ∃ g off, a = some ⟨g, off, none⟩ ∧ g < B ∧ w.cell? ⟨g, off + i, none⟩ = some (.string (xs[i]'h))
theorem TextsV.below {w w' : World} {B : Nat} {a : Option Addr} {n : Nat} {xs : List ByteArray} (h : TextsV w B a n xs) (hb : Below B w w') : TextsV w' B a n xs :=
  ⟨h.1, fun i hi => by
    obtain ⟨g, off, h1, h2, h3⟩ := h.2 i hi
    exact ⟨g, off, h1, h2, by rw [hb.cell (p := ⟨g, off + i, none⟩) h2]; exact h3⟩⟩

/-- A call answers the fields of these lines, in a list of its own. -/
def FieldsOf (xs : List ByteArray) (w : World) (e : Ending) (w' : World) : Prop :=
  ∃ (v : Value) (l : List (ByteArray × ByteArray)), e = .returned v ∧ w'.ownsRow w.heap.size 131 2 v l.length (flatF l) ∧ l.length ≤ xs.length ∧ Below w.heap.size w w' ∧ fieldsL (xs.map bs) = l.map bsP

set_option maxHeartbeats 4000000 in
set_option maxRecDepth 100000 in
theorem l3Fields_any (a : Option Addr) (n cap : Nat) (xs : List ByteArray) (w : World) (hv : TextsV w w.heap.size a n xs) (hn : n ≤ 4000000) (hsz : ∀ x ∈ xs, x.size ≤ 4000000) :
    Calls Tryz.prog 101 #[.slice a n cap] w fun e w' => FieldsOf xs w e w' := by
  obtain ⟨i0, hi, hz0, hz1, hz2⟩ := info_parts info33
  have hxl := hv.1
  have HV : Hid (∀ W, Below w.heap.size w W → TextsV W w.heap.size a n xs) := fun W h => hv.below h
  have HSZ : Hid (∀ x ∈ xs, x.size ≤ 4000000) := hsz
  clear hv hsz
  go_enter Tryz.func101, Tryz.ntmps101
  go_wp2
  go_loopw [3, 4] (fun v i wr => ∃ (k : Nat) (l : List (ByteArray × ByteArray)), k ≤ n ∧ l.length ≤ k ∧ i = .int .i64 (k : Int) ∧ Below w.heap.size w wr ∧ Hid (GdInv xs l k) ∧ wr.ownsRow w.heap.size 131 2 v l.length (flatF l)) (fun _ i _ => n - (intOf i).toNat)
  case atStart =>
    exact ⟨0, [], Nat.zero_le _, Nat.le_refl _, rfl, (Below.refl _ _).alloc (Nat.le_refl _) _, gd_start xs, ⟨rfl, .inr ⟨w.heap.size, 0, #[], rfl, Nat.le_refl _, heap_alloc_new w _, Nat.le_refl _, Nat.zero_le _, rfl, rfl⟩⟩⟩
  case round =>
    obtain ⟨k, l, hk, hlk, rfl, hbw, hinv, hown⟩ := hrel
    by_cases hlt : k < n
    · have hlt2 : (k : Int) < (n : Int) := by omega
      have hkx : k < xs.length := by omega
      obtain ⟨x, hx⟩ : ∃ x, x = xs[k]'hkx := ⟨_, rfl⟩
      have hxs : x.size ≤ 4000000 := by rw [hx]; exact HSZ.out _ (List.getElem_mem hkx)
      obtain ⟨g, off, rfl, hgB, _⟩ := (HV.out wr hbw).2 k hkx
      have HC : Hid (∀ W, Below w.heap.size w W → W.cell? ⟨g, off + k, none⟩ = some (.string x)) := fun W h => by
        obtain ⟨g2, off2, e2, _, h2⟩ := (HV.out W h).2 k hkx
        cases e2
        rw [hx]; exact h2
      have HX : Hid (xs[k]'hkx = x) := hx.symm
      clear hx
      go_wp2
      go_loopw [3, 5] (fun o q wq => ∃ m : Nat, (m + 1 ≤ x.size ∨ m = 0) ∧ o = u3 ∧ q = .int .i64 (m : Int) ∧ Below wr.heap.size wr wq ∧ Hid (FdInv x m)) (fun _ q _ => x.size + 1 - (intOf q).toNat)
      case atStart => exact ⟨0, .inr rfl, rfl, rfl, Below.refl _ _, fd_start x⟩
      case round =>
        obtain ⟨m, hm, rfl, rfl, hbq, hfd⟩ := hrel
        have hbW : Below w.heap.size w wr := hbw.trans (hbq.mono hbw.size)
        have hc := HC.out wr hbW
        by_cases hml : m + 1 < x.size
        · have hml2 : (m : Int) + 1 < (x.size : Int) := by omega
          have hml3 : (m : Int) < (x.size : Int) := by omega
          have hmx : m < x.size := by omega
          by_cases h58 : (x[m]'hmx).toNat = 58
          · have t1 : (((x[m]'hmx).toNat : Int) == 58) = true := by rw [beq_iff_eq]; omega
            by_cases h32 : (x[m + 1]'hml).toNat = 32
            · have t2 : (((x[m + 1]'hml).toNat : Int) == 32) = true := by rw [beq_iff_eq]; omega
              have HF : Hid (fieldL [] (bs (xs[k]'hkx)) = some (bs (x.extract 0 m), bs (x.extract (m + 2) x.size))) := by rw [HX.out]; exact fd_cut hml h58 h32 hfd.out
              clear h58 h32 hm
              have hnew := World.new_ne wr ⟨g, off + k, none⟩ hc
              have hmz : ((m : Int) + 2) ≤ (x.size : Int) := by omega
              have hm0 : (0 : Int) ≤ (m : Int) := by omega
              have hm2 : (0 : Int) ≤ (m : Int) + 2 := by omega
              have hmi : (m : Int) ≤ (x.size : Int) := by omega
              have hmn : m ≤ x.size := by omega
              have hmk : m + 2 ≤ x.size := by omega
              have hwr : IntKind.i64.wrap ((m : Int) + 2) = (m : Int) + 2 := by rw [IntKind.wrap_i64]; omega
              go_wp2_with fail
              go_region_held3 (fun W => W.cell? ⟨g, off + k, none⟩ = some (.string x)) (first | assumption | go_keep) (fail)
              obtain ⟨nm, hnm⟩ : ∃ y, y = x.extract 0 m := ⟨_, rfl⟩
              obtain ⟨vl, hvl⟩ : ∃ y, y = x.extract ((m : Int) + 2).toNat x.size := ⟨_, rfl⟩
              have HF2 : Hid (fieldL [] (bs (xs[k]'hkx)) = some (bs nm, bs vl)) := by
                show _ = _
                rw [HF.out, hnm, hvl, show ((m : Int) + 2).toNat = m + 2 by omega]
              rw [← hnm, ← hvl]
              obtain ⟨w2, hw2⟩ : ∃ W, W = (wr.alloc (.cells #[.string nm, .string vl] 131)).drew := ⟨_, rfl⟩
              obtain ⟨r, hr⟩ : ∃ r, r = wr.heap.size := ⟨_, rfl⟩
              have hh : w2.heap[r]? = some (.cells #[.string nm, .string vl] 131) := by rw [hw2, hr]; exact heap_alloc_new wr _
              have hc0 : w2.cell? ⟨r, 0, none⟩ = some (.string nm) := by simp [World.cell?, hh]
              have hc1 : w2.cell? ⟨r, 1, none⟩ = some (.string vl) := by simp [World.cell?, hh]
              have b2 : Below wr.heap.size wr w2 := by rw [hw2]; exact ((Below.refl _ wr).alloc (Nat.le_refl _) _).drew
              have hbW2 : Below w.heap.size w w2 := hbW.trans (b2.mono hbW.size)
              have hown2 : w2.ownsRow w.heap.size 131 2 u3 l.length (flatF l) := owns_below (owns_below hown hbq (fun g hg => owns_lt hown hg)) b2 (fun g hg => owns_lt (owns_below hown hbq (fun g hg => owns_lt hown hg)) hg)
              rw [← hw2, ← hr]
              clear hw2 hr hh b2 hnm hvl HF hc hnew hbq hbW hown
              by_cases hcl : nm = clen
              · have ht := (text_beq _ _).2 hcl
                rw [clen_list] at ht
                have HI : Hid (GdInv xs l (k + 1)) := gd_clen hkx HF2.out hcl hinv.out
                clear hcl
                go_wp2
                go_roundw
                case rel => exact ⟨k + 1, l, by omega, by omega, by go_num, hbW2, HI, hown2⟩
                case measure => simp [intOf]; omega
              · have ht := text_beq_no hcl
                rw [clen_list] at ht
                have HI : Hid (GdInv xs (l ++ [(nm, vl)]) (k + 1)) := gd_some hkx HF2.out hcl hinv.out
                have h63 : l.length + 1 ≤ maxLen := by unfold maxLen; omega
                have h47 : (l.length + 1) * 32 ≤ 140737488355328 := by omega
                have HBS : ∀ o, w.heap.size ≤ (w2.alloc o).heap.size := fun o => by have := hbW2.size; simp; omega
                clear hcl
                go_wp2_with (at_builtin; refine wpList_append_own _ rfl _ _ 25 rfl w.heap.size 131 i0 (.agg #[.string ⟨#[]⟩, .string ⟨#[]⟩]) 2 32 Tryz.underlying25 hi hz0 hz1 hz2 rfl (by decide) _ _ _ rfl (hown2.alloc _) ⟨w2.heap.size, 0, none⟩ 1 1 [.string nm, .string vl] rfl rfl (cell_two_new _ _ _ _) (two_text _ _) h63 h47 (HBS _) ?_)
                intro v1 w3 hown3 hgrow _
                have hb3 : Below w.heap.size w w3 := (hbW2.alloc hbW2.size _).grown hgrow (HBS _) (fun g hg => owns_ge hown2 hg)
                have hown4 : w3.ownsRow w.heap.size 131 2 v1 (l ++ [(nm, vl)]).length (flatF (l ++ [(nm, vl)])) := by rw [flatF_append, flatF_one]; simpa using hown3
                clear hown3 HBS hgrow hown2 hbW2
                go_wp2
                go_roundw
                case rel => exact ⟨k + 1, _, by omega, by simp; omega, by go_num, hb3, HI, hown4⟩
                case measure => simp [intOf]; omega
            · have t2 : (((x[m + 1]'hml).toNat : Int) == 32) = false := by rw [beq_eq_false_iff_ne]; omega
              have HI : Hid _ := fd_other hml (fun h => h32 h.2) hfd.out
              clear h58 h32 hm
              go_wp2
              go_roundw
              case rel => exact ⟨m + 1, .inl (by omega), rfl, by go_num, hbq, HI⟩
              case measure => simp [intOf]; omega
          · have t1 : (((x[m]'hmx).toNat : Int) == 58) = false := by rw [beq_eq_false_iff_ne]; omega
            have HI : Hid _ := fd_other hml (fun h => h58 h.1) hfd.out
            clear h58 hm
            go_wp2
            go_roundw
            case rel => exact ⟨m + 1, .inl (by omega), rfl, by go_num, hbq, HI⟩
            case measure => simp [intOf]; omega
        · have hml2 : ¬ (m : Int) + 1 < (x.size : Int) := by omega
          have hmb : (m : Int) ≤ 4000000 := by omega
          have HI : Hid (GdInv xs l (k + 1)) := gd_none hkx (by rw [HX.out]; exact fd_end hml hfd.out) hinv.out
          have hownq := owns_below hown hbq (fun g hg => owns_lt hown hg)
          clear hm
          go_wp2
          go_roundw
          case rel => exact ⟨k + 1, l, by omega, by omega, by go_num, hbW, HI, hownq⟩
          case measure => simp [intOf]; omega
    · have HE : Hid _ := gd_end (by omega) hinv.out
      have hlt2 : ¬ (k : Int) < (n : Int) := by omega
      go_wp2
      go_ret
      exact ⟨_, l, rfl, hown, by omega, hbw, HE.out⟩

end Go.Proofs.YtdlhicdfldecgaaGreatDoor

namespace Go.Proofs.YtdlhicdfldecgaaGreatDoor
open Go.RowKit
open Go.Lib hiding intOf

theorem headL_len : ∀ (n : Nat) (r : List UInt8) (out : List (List UInt8)) (cur : List UInt8), r.length ≤ n → ∀ x ∈ (headL out cur r).1, x ∈ out ∨ x.length ≤ cur.length + r.length := by
  intro n
  induction n with
  | zero =>
    intro r out cur h x hx
    rw [headL_short out cur r (by omega)] at hx
    exact .inl hx
  | succ n ih =>
    intro r out cur h x hx
    match r, h with
    | [], _ => exact .inl hx
    | [_], _ => exact .inl hx
    | c :: d :: t, h =>
      rw [headL] at hx
      split at hx
      · split at hx
        · exact .inl hx
        · rcases ih t (out ++ [cur]) [] (by simp at h; omega) x hx with h1 | h1
          · rcases List.mem_append.1 h1 with h2 | h2
            · exact .inl h2
            · simp at h2; subst h2; exact .inr (by omega)
          · exact .inr (by simp at h1 ⊢; omega)
      · rcases ih (d :: t) out (cur ++ [c]) (by simp at h ⊢; omega) x hx with h1 | h1
        · exact .inl h1
        · exact .inr (by simp at h1 ⊢; omega)
theorem wordsL_len : ∀ (r : List UInt8) (out : List (List UInt8)) (cur : List UInt8), ∀ x ∈ wordsL out cur r, x ∈ out ∨ x.length ≤ cur.length + r.length := by
  intro r
  induction r with
  | nil =>
    intro out cur x hx
    rw [wordsL] at hx
    rcases List.mem_append.1 hx with h | h
    · exact .inl h
    · simp at h; subst h; exact .inr (by simp)
  | cons c t ih =>
    intro out cur x hx
    rw [wordsL] at hx
    split at hx
    · rcases ih (out ++ [cur]) [] x hx with h1 | h1
      · rcases List.mem_append.1 h1 with h2 | h2
        · exact .inl h2
        · simp at h2; subst h2; exact .inr (by omega)
      · exact .inr (by simp at h1 ⊢; omega)
    · rcases ih out (cur ++ [c]) x hx with h1 | h1
      · exact .inl h1
      · exact .inr (by simp at h1 ⊢; omega)
theorem fieldL_len : ∀ (n : Nat) (r cur a b : List UInt8), r.length ≤ n → fieldL cur r = some (a, b) → a.length ≤ cur.length + r.length ∧ b.length ≤ r.length := by
  intro n
  induction n with
  | zero =>
    intro r cur a b h he
    rw [fieldL_short cur r (by omega)] at he
    cases he
  | succ n ih =>
    intro r cur a b h he
    match r, h with
    | [], _ => cases he
    | [_], _ => cases he
    | c :: d :: t, h =>
      rw [fieldL] at he
      split at he
      · cases he
        simp; omega
      · have := ih (d :: t) (cur ++ [c]) a b (by simp at h ⊢; omega) he
        simp at this ⊢; omega
theorem fieldsL_len : ∀ (ls : List (List UInt8)), ∀ f ∈ fieldsL ls, ∃ x ∈ ls, f.1.length ≤ x.length ∧ f.2.length ≤ x.length := by
  intro ls
  induction ls with
  | nil => intro f hf; simp [fieldsL] at hf
  | cons l r ih =>
    intro f hf
    rw [fieldsL] at hf
    split at hf
    · rename_i g hg
      split at hf
      · obtain ⟨x, hx, h⟩ := ih f hf
        exact ⟨x, by simp [hx], h⟩
      · rcases List.mem_cons.1 hf with rfl | hf
        · have := fieldL_len l.length l [] f.1 f.2 (Nat.le_refl _) hg
          exact ⟨l, by simp, by simpa using this.1, this.2⟩
        · obtain ⟨x, hx, h⟩ := ih f hf
          exact ⟨x, by simp [hx], h⟩
    · obtain ⟨x, hx, h⟩ := ih f hf
      exact ⟨x, by simp [hx], h⟩
theorem map_bs_inj : ∀ {a b : List ByteArray}, a.map bs = b.map bs → a = b
  | [], [], _ => rfl
  | [], _ :: _, h => by simp at h
  | _ :: _, [], h => by simp at h
  | x :: r, y :: t, h => by
    simp only [List.map_cons, List.cons.injEq] at h
    rw [map_bs_inj h.2, bs_inj h.1]

/-- What is read of a text, ahead of the last look: the words of its first line, the fields of the others, what is behind. -/
structure Parts (s : ByteArray) (xs : List ByteArray) (k : Nat) (ws : List ByteArray) (l : List (ByteArray × ByteArray)) : Prop where
  head : headL [] [] (bs s) = (xs.map bs, some ((bs s).drop k))
  ne : xs ≠ []
  words : wordsL [] [] (bs (xs.headD ⟨#[]⟩)) = ws.map bs
  fields : fieldsL (xs.tail.map bs) = l.map bsP
/-- A request's text is read as the request. -/
theorem IsReq.parts {s : ByteArray} {m : Int} {p : ByteArray} {fs : List (ByteArray × ByteArray)} {b : ByteArray} (h : IsReq s m p fs b) {xs : List ByteArray} {k : Nat} {ws : List ByteArray} {l : List (ByteArray × ByteArray)} (hp : Parts s xs k ws l) :
    ∃ x, ws = [methB m, p, x] ∧ l = fs ∧ s.extract k s.size = b := by
  have e := hp.head.symm.trans (req_head h)
  simp only [Prod.mk.injEq, Option.some.injEq] at e
  obtain ⟨e1, e2⟩ := e
  obtain ⟨x0, xr, rfl⟩ : ∃ x0 xr, xs = x0 :: xr := by
    cases xs with
    | nil => exact absurd rfl hp.ne
    | cons a r => exact ⟨a, r, rfl⟩
  simp only [List.map_cons, List.cons.injEq] at e1
  have hw := hp.words
  simp only [List.headD_cons] at hw
  rw [e1.1, req_words h.1.1 h.1.2.1] at hw
  have hf := hp.fields
  simp only [List.tail_cons] at hf
  rw [e1.2, req_fields h.1.2.2.1] at hf
  refine ⟨⟨httpL.toArray⟩, map_bs_inj (by rw [← hw]; rfl), (pairs_inj hf).symm, bs_inj ?_⟩
  rw [bs_extract, List.take_of_length_le (i := s.size) (l := bs s) (by rw [bs_len]; omega)]
  exact e2

theorem slice_of_owns {w : World} {base : Nat} {t : TypeId} {size : Nat} {v : Value} {n : Nat} {xs : List Value} (h : w.ownsRow base t size v n xs) : ∃ oa cp, v = .slice oa n cp := by
  rcases h.2 with ⟨rfl, rfl⟩ | ⟨g, cap, cur, rfl, _⟩
  · exact ⟨none, 0, rfl⟩
  · exact ⟨_, cap, rfl⟩
theorem grown_below {w w' : World} (hb : Below w.heap.size w w') (row : Option Nat) : w.grownBy w' row := ⟨hb.os, hb.tape, hb.output, hb.size, fun k hk _ => hb.block k hk⟩
theorem grown_then {a w w' : World} {row : Option Nat} (h : a.grownBy w row) (k : w.grownBy w' row) : a.grownBy w' row :=
  ⟨k.os.trans h.os, k.tape.trans h.tape, k.output.trans h.output, Nat.le_trans h.size k.size, fun i hi hne => (k.block i (Nat.lt_of_lt_of_le hi h.size) hne).trans (h.block i hi hne)⟩
theorem grown_set (w : World) (r o : Nat) (v : Value) : w.grownBy (w.setCell ⟨r, o, none⟩ v) (some r) :=
  ⟨rfl, rfl, rfl, by simp, fun k _ hk => heap_setCell_other _ _ k _ (fun e => hk (by rw [e]))⟩
theorem below_grown {B r : Nat} {a b : World} (h : a.grownBy b (some r)) (hB : B ≤ a.heap.size) (hr : B ≤ r) : Below B a b :=
  ⟨h.os, h.tape, h.output, h.size, fun k hk => h.block k (by omega) (fun e => by have := Option.some.inj e; omega)⟩
theorem pair_of (fs : List (ByteArray × ByteArray)) (k : Nat) (h : k < fs.length) : (nameAt fs k, valAt fs k) = fs[k] := by
  unfold nameAt valAt
  rw [List.getD_eq_getElem?_getD, List.getElem?_eq_getElem h]
  rfl
/-- Every text of the fields of a text's lines is no longer than the text. -/
theorem walk_fields {s : ByteArray} {xs : List ByteArray} {o : Option (List UInt8)} {l : List (ByteArray × ByteArray)} (hh : headL [] [] (bs s) = (xs.map bs, o)) (hl : fieldsL (xs.tail.map bs) = l.map bsP) (hs : s.size ≤ maxLen) : WalkF l.length l := by
  intro i hi
  have hm : (bs (nameAt l i), bs (valAt l i)) ∈ fieldsL (xs.tail.map bs) := by
    rw [hl]
    exact List.mem_map.2 ⟨l[i], List.getElem_mem hi, by rw [← pair_of l i hi]; rfl⟩
  obtain ⟨x, hx, h1, h2⟩ := fieldsL_len _ _ hm
  obtain ⟨y, hy, rfl⟩ := List.mem_map.1 hx
  have hm2 : bs y ∈ (headL [] [] (bs s)).1 := by rw [hh]; exact List.mem_map_of_mem (List.mem_of_mem_tail hy)
  rcases headL_len _ (bs s) [] [] (Nat.le_refl _) _ hm2 with h3 | h3
  · simp at h3
  · simp only [bs_len, List.length_nil, Nat.zero_add] at h1 h2 h3
    omega
/-- The four cells of a request's memory, written. -/
def fourSet (w : World) (r : Nat) (a b c d : Value) : World := (((w.setCell ⟨r, 0, none⟩ a).setCell ⟨r, 1, none⟩ b).setCell ⟨r, 2, none⟩ c).setCell ⟨r, 3, none⟩ d
theorem four_facts {W : World} {R : Nat} {a b c d : Value} {t : TypeId} (h : W.heap[R]? = some (.cells #[a, b, c, d] t)) :
    (W.cell? ⟨R, 0, none⟩ = some a ∧ W.cell? ⟨R, 1, none⟩ = some b ∧ W.cell? ⟨R, 2, none⟩ = some c ∧ W.cell? ⟨R, 3, none⟩ = some d) ∧ W.frozen? ⟨R, 0, none⟩ = false ∧ W.frozen? ⟨R, 1, none⟩ = false ∧ W.frozen? ⟨R, 2, none⟩ = false ∧ W.frozen? ⟨R, 3, none⟩ = false := by
  refine ⟨⟨?_, ?_, ?_, ?_⟩, ?_, ?_, ?_, ?_⟩ <;> simp [World.cell?, World.frozen?, h]
theorem four_set {W : World} {R : Nat} {a b c d : Value} {t : TypeId} (h : W.heap[R]? = some (.cells #[a, b, c, d] t)) (a' b' c' d' : Value) : (fourSet W R a' b' c' d').heap[R]? = some (.cells #[a', b', c', d'] t) := by
  have := heap_set _ R 3 _ _ _ d' (heap_set _ R 2 _ _ _ c' (heap_set _ R 1 _ _ _ b' (heap_set W R 0 _ _ _ a' h)))
  simpa [fourSet] using this
end Go.Proofs.YtdlhicdfldecgaaGreatDoor

namespace Go.Proofs.YtdlhicdfldecgaaGreatDoor
open Go.RowKit
open Go.Lib hiding intOf

theorem and255 (x : Int) : 0 ≤ bits BinOp.and IntKind.i64 x 255 ∧ bits BinOp.and IntKind.i64 x 255 < 256 := by
  have h : (BitVec.ofInt 64 x &&& BitVec.ofInt 64 255).toNat ≤ 255 := by
    rw [BitVec.toNat_and]
    exact Nat.and_le_right
  unfold bits
  simp only
  rw [IntKind.wrap_i64]
  show 0 ≤ (((BitVec.ofInt 64 x &&& BitVec.ofInt 64 255).toNat : Int) + 9223372036854775808) % 18446744073709551616 - 9223372036854775808 ∧ (((BitVec.ofInt 64 x &&& BitVec.ofInt 64 255).toNat : Int) + 9223372036854775808) % 18446744073709551616 - 9223372036854775808 < 256
  omega

/-- The bytes that a draw reads: a slice that came in, in blocks below B. -/
structure CodeAt (w : World) (B : Nat) (a : Option Addr) (len : Nat) (zs : List Int) : Prop where
  le : len ≤ 1048576
  get : ∀ j, j < len → ∃ b off, a = some ⟨b, off, none⟩ ∧ b < B ∧ w.cell? ⟨b, off + j, none⟩ = some (.int .u8 (zs.getD j 0)) ∧ 0 ≤ zs.getD j 0 ∧ zs.getD j 0 ≤ 255
theorem CodeAt.below {w w' : World} {B : Nat} {a : Option Addr} {len : Nat} {zs : List Int} (h : CodeAt w B a len zs) (hb : Below B w w') : CodeAt w' B a len zs :=
  ⟨h.le, fun j hj => by
    obtain ⟨b, off, h1, h2, h3, h4⟩ := h.get j hj
    exact ⟨b, off, h1, h2, by rw [hb.cell (p := ⟨b, off + j, none⟩) h2]; exact h3, h4⟩⟩
theorem CodeAt.upTo {w : World} {B C : Nat} {a : Option Addr} {len : Nat} {zs : List Int} (h : CodeAt w B a len zs) (hC : B ≤ C) : CodeAt w C a len zs :=
  ⟨h.le, fun j hj => by
    obtain ⟨b, off, h1, h2, h3⟩ := h.get j hj
    exact ⟨b, off, h1, by omega, h3⟩⟩
/-- The cursor lies in block c. -/
def CurAt (w : World) (c : Nat) (a : Option Addr) (len cap : Nat) : Prop :=
  ∃ (i : Nat) (h : Int), i ≤ len ∧ w.heap[c]? = some (.cells #[.slice a len cap, .int .i64 (i : Int), .int .i64 h] 114 (0, 0))
theorem CurAt.lt {w : World} {c : Nat} {a : Option Addr} {len cap : Nat} (h : CurAt w c a len cap) : c < w.heap.size := by
  obtain ⟨i, h, _, hh⟩ := h
  exact (Array.getElem?_eq_some_iff.1 hh).1
theorem CurAt.below {w w' : World} {B c : Nat} {a : Option Addr} {len cap : Nat} (h : CurAt w c a len cap) (hb : Below B w w') (hc : c < B) : CurAt w' c a len cap := by
  obtain ⟨i, h, hi, hh⟩ := h
  exact ⟨i, h, hi, by rw [hb.block c hc]; exact hh⟩

theorem heap_setCell_self (w : World) (c o : Nat) (cs : Array Value) (t : TypeId) (fz : Nat × Nat) (v : Value) (h : w.heap[c]? = some (.cells cs t fz)) : (w.setCell ⟨c, o, none⟩ v).heap[c]? = some (.cells (cs.setIfInBounds o v) t fz) := by
  simp [World.setCell, Array.getElem?_modify, h]

theorem grownBy_drewN {a w : World} {row : Option Nat} (h : a.grownBy w row) (n : Nat) : a.grownBy (w.drewN n) row := ⟨h.os, h.tape, h.output, h.size, h.block⟩

/-- A call on the cursor answers a number from 0 to below m, and turns the cursor alone of what was there. -/
def DrawIs (m : Int) (w : World) (c : Nat) (a : Option Addr) (len cap : Nat) (e : Ending) (w' : World) : Prop :=
  ∃ x : Int, e = .returned (.int .i64 x) ∧ 0 ≤ x ∧ x < m ∧ CurAt w' c a len cap ∧ w.grownBy w' (some c)

set_option maxHeartbeats 1000000 in
theorem l1Byte_any (c B : Nat) (a : Option Addr) (len cap : Nat) (zs : List Int) (w : World) (hcur : CurAt w c a len cap) (hcode : CodeAt w B a len zs) (hB : B ≤ c) :
    Calls Tryz.prog 99 #[.pointer (some ⟨c, 0, none⟩)] w fun e w' => DrawIs 256 w c a len cap e w' := by
  obtain ⟨i, h, hi1, hh⟩ := hcur
  have hc0 : w.cell? ⟨c, 0, none⟩ = some (.slice a len cap) := by simp [World.cell?, hh]
  have hc1 : w.cell? ⟨c, 1, none⟩ = some (.int .i64 (i : Int)) := by simp [World.cell?, hh]
  have hc2 : w.cell? ⟨c, 2, none⟩ = some (.int .i64 h) := by simp [World.cell?, hh]
  have hf1 : w.frozen? ⟨c, 1, none⟩ = false := by simp [World.frozen?, hh]
  have hf2 : w.frozen? ⟨c, 2, none⟩ = false := by simp [World.frozen?, hh]
  have HH : Hid _ := hh
  clear hh
  have hlen := hcode.le
  by_cases hlt : (i : Int) < (len : Int)
  · obtain ⟨b, off, rfl, hbB, hcell, hz0, hz1⟩ := hcode.get i (by omega)
    have hcell2 : ∀ o v, (w.setCell ⟨c, o, none⟩ v).cell? ⟨b, off + i, none⟩ = some (.int .u8 (zs.getD i 0)) := fun o v => by
      rw [World.cell?_setCell_other (h := fun e => by cases e; omega)]; exact hcell
    obtain ⟨z, hz⟩ : ∃ z, z = zs.getD i 0 := ⟨_, rfl⟩
    rw [← hz] at hcell2 hz0 hz1
    clear hz hcell hcode
    go_enter Tryz.func99, Tryz.ntmps99
    go_wp2
    go_quiet (fail)
    go_wp2
    go_quiet (fail)
    go_wp2
    go_quiet (fail)
    go_wp2
    go_ret
    exact ⟨_, rfl, (and255 _).1, (and255 _).2, ⟨i + 1, _, by omega, heap_setCell_self _ c 1 _ _ _ _ (heap_setCell_self w c 2 _ _ _ _ HH.out)⟩, grownBy_setB (grownBy_drewN (grownBy_setCell w c 2 _) _) 1 _⟩
  · go_enter Tryz.func99, Tryz.ntmps99
    go_wp2
    go_quiet (fail)
    go_wp2
    go_quiet (fail)
    go_wp2
    go_ret
    exact ⟨_, rfl, (and255 _).1, (and255 _).2, ⟨i, _, hi1, heap_setCell_self w c 2 _ _ _ _ HH.out⟩, grownBy_drewN (grownBy_drewN (grownBy_setCell w c 2 _) _) _⟩

set_option maxHeartbeats 1000000 in
theorem l1Below_any (c B : Nat) (m : Int) (a : Option Addr) (len cap : Nat) (zs : List Int) (w : World) (hcur : CurAt w c a len cap) (hcode : CodeAt w B a len zs) (hB : B ≤ c) (hm : 1 ≤ m) (hm2 : m ≤ 256) :
    Calls Tryz.prog 44 #[.pointer (some ⟨c, 0, none⟩), .int .i64 m] w fun e w' => DrawIs m w c a len cap e w' := by
  have hm0 : ¬ m ≤ 0 := by omega
  go_enter Tryz.func44, Tryz.ntmps44
  go_wp2_with fail
  refine (l1Byte_any c B a len cap zs _ hcur hcode hB).mono ?_
  rintro e w1 ⟨x, rfl, hx0, hx1, hcur1, hg1⟩
  go_wp2_with fail
  go_ret
  exact ⟨x % m, rfl, Int.emod_nonneg _ (by omega), Int.emod_lt_of_pos _ (by omega), hcur1, hg1⟩

/-- A list of n texts that the caller has laid, text j by 'f j'. -/
def ListAt (w : World) (g n : Nat) (f : Nat → ByteArray) : Prop := ∀ j, j < n → w.cell? ⟨g, j, none⟩ = some (.string (f j))

theorem grown_cell {w w' : World} {c : Nat} (hg : w.grownBy w' (some c)) {g j : Nat} {v : Value} (h : w.cell? ⟨g, j, none⟩ = some v) (hne : g ≠ c) : w'.cell? ⟨g, j, none⟩ = some v :=
  hg.cell h (fun e => hne (Option.some.inj e))

set_option maxHeartbeats 1000000 in
theorem l1Pick_any (c B g n : Nat) (f : Nat → ByteArray) (a : Option Addr) (len cap : Nat) (zs : List Int) (w : World) (hcur : CurAt w c a len cap) (hcode : CodeAt w B a len zs) (hB : B ≤ c) (hn : 1 ≤ n) (hn2 : n ≤ 256) (hl : ListAt w g n f) (hgc : g ≠ c) :
    Calls Tryz.prog 74 #[.pointer (some ⟨c, 0, none⟩), .slice (some ⟨g, 0, none⟩) n n] w fun e w' => ∃ j, j < n ∧ e = .returned (.string (f j)) ∧ CurAt w' c a len cap ∧ w.grownBy w' (some c) := by
  go_enter Tryz.func74, Tryz.ntmps74
  go_wp2_with fail
  refine (l1Below_any c B n a len cap zs _ hcur hcode hB (by omega) (by omega)).mono ?_
  rintro e w1 ⟨x, rfl, hx0, hx1, hcur1, hg1⟩
  obtain ⟨j, rfl⟩ := Int.eq_ofNat_of_zero_le hx0
  have hj : j < n := by omega
  have hcell : w1.cell? ⟨g, j, none⟩ = some (.string (f j)) := grown_cell hg1 (hl j hj) hgc
  go_wp2
  go_ret
  exact ⟨j, hj, rfl, hcur1, hg1⟩

set_option maxHeartbeats 1000000 in
theorem l1New_any (B : Nat) (a : Option Addr) (len cap : Nat) (zs : List Int) (w : World) (hcode : CodeAt w B a len zs) :
    Calls Tryz.prog 25 #[.slice a len cap] w fun e w' => e = .returned (.pointer (some ⟨w.heap.size, 0, none⟩)) ∧ CurAt w' w.heap.size a len cap ∧ Below w.heap.size w w' := by
  have hlen := hcode.le
  go_enter Tryz.func25, Tryz.ntmps25
  go_wp2
  go_loop [3, 4] (fun h i => ∃ (k : Nat) (x : Int), k ≤ len ∧ i = .int .i64 (k : Int) ∧ h = .int .i64 x) (fun _ i => len - (intOf i).toNat)
  case atStart => exact ⟨0, _, Nat.zero_le _, rfl, rfl⟩
  case round =>
    obtain ⟨k, x, hk, rfl, rfl⟩ := hrel
    by_cases hlt : (k : Int) < (len : Int)
    · by_cases h4 : (k : Int) < 4000
      · obtain ⟨b, off, rfl, hbB, hcell, hz0, hz1⟩ := hcode.get k (by omega)
        clear hcode
        go_wp2
        go_round
        case rel => exact ⟨k + 1, _, by omega, by go_num, rfl⟩
        case measure => simp [intOf]; omega
      · go_wp2
        go_ret
        exact ⟨rfl, ⟨0, x, Nat.zero_le _, heap_alloc_new w _⟩, (Below.refl _ _).alloc (Nat.le_refl _) _⟩
    · go_wp2
      go_ret
      exact ⟨rfl, ⟨0, x, Nat.zero_le _, heap_alloc_new w _⟩, (Below.refl _ _).alloc (Nat.le_refl _) _⟩

end Go.Proofs.YtdlhicdfldecgaaGreatDoor

namespace Go.Proofs.YtdlhicdfldecgaaGreatDoor
open Go.RowKit
open Go.Lib hiding intOf

theorem CodeAt.grown {w w' : World} {B c : Nat} {a : Option Addr} {len : Nat} {zs : List Int} (h : CodeAt w B a len zs) (hg : w.grownBy w' (some c)) (hB : B ≤ c) : CodeAt w' B a len zs :=
  ⟨h.le, fun j hj => by
    obtain ⟨b, off, h1, h2, h3, h4⟩ := h.get j hj
    exact ⟨b, off, h1, h2, grown_cell hg h3 (by omega), h4⟩⟩
theorem CurAt.grown {w w' : World} {c : Nat} {row : Option Nat} {a : Option Addr} {len cap : Nat} (h : CurAt w c a len cap) (hg : w.grownBy w' row) (hne : row ≠ some c) : CurAt w' c a len cap := by
  have hlt := h.lt
  obtain ⟨i, h, hi, hh⟩ := h
  exact ⟨i, h, hi, by rw [hg.block c hlt (fun e => hne e.symm)]; exact hh⟩
theorem owns_grown {w w' : World} {base c : Nat} {e : TypeId} {size : Nat} {v : Value} {n : Nat} {xs : List Value} (h : w.ownsRow base e size v n xs) (hg : w.grownBy w' (some c)) (hc : c < base) : w'.ownsRow base e size v n xs := by
  refine ⟨h.1, ?_⟩
  rcases h.2 with h2 | ⟨g, cap, cur, rfl, h3, h4, h5⟩
  · exact .inl h2
  · exact .inr ⟨g, cap, cur, rfl, h3, by rw [hg.block g (Array.getElem?_eq_some_iff.1 h4).1 (fun e => by cases e; omega)]; exact h4, h5⟩
/-- A step that turns only a block which came later. -/
theorem grown_later {a w w' : World} {row r : Option Nat} (h : a.grownBy w row) (k : w.grownBy w' r) (hr : ∀ g, r = some g → a.heap.size ≤ g) : a.grownBy w' row :=
  ⟨k.os.trans h.os, k.tape.trans h.tape, k.output.trans h.output, Nat.le_trans h.size k.size, fun i hi hne => (k.block i (Nat.lt_of_lt_of_le hi h.size) (fun e => by have := hr i e.symm; omega)).trans (h.block i hi hne)⟩

theorem listAt_alloc (w : World) (xs : List ByteArray) : ListAt (w.alloc (.cells (xs.map Value.string).toArray 9)) w.heap.size xs.length (textAt xs) := by
  intro j hj
  rw [World.cell?_alloc_new]
  simp [textAt, List.getD_eq_getElem?_getD, hj]

/-- A call on the cursor answers a text of at most m bytes, and turns the cursor alone of what was there. -/
def TextDrawn (m : Nat) (w : World) (c : Nat) (a : Option Addr) (len cap : Nat) (e : Ending) (w' : World) : Prop :=
  ∃ t : ByteArray, e = .returned (.string t) ∧ t.size ≤ m ∧ CurAt w' c a len cap ∧ w.grownBy w' (some c)

def pickL : List ByteArray := [⟨#[32]⟩, ⟨#[44]⟩, ⟨#[97]⟩, ⟨#[90]⟩, ⟨#[55]⟩, ⟨#[45]⟩, ⟨#[61]⟩, ⟨#[120]⟩, ⟨#[58]⟩, ⟨#[1]⟩, ⟨#[64]⟩, ⟨#[91]⟩]
theorem pickL_one : ∀ j, j < 12 → (textAt pickL j).size = 1 := by decide

set_option maxHeartbeats 2000000 in
set_option maxRecDepth 100000 in
theorem l1DrawText_any (c B : Nat) (a : Option Addr) (len cap : Nat) (zs : List Int) (w : World) (hcur : CurAt w c a len cap) (hcode : CodeAt w B a len zs) (hB : B ≤ c) :
    Calls Tryz.prog 142 #[.pointer (some ⟨c, 0, none⟩)] w fun e w' => TextDrawn 14 w c a len cap e w' := by
  obtain ⟨i0, hi, hz0, hz1, hz2⟩ := info_parts info5
  have hcw := hcur.lt
  go_enter Tryz.func142, Tryz.ntmps142
  go_wp2
  go_loopw [3, 4] (fun v i wr => ∃ (k : Nat) (xs : List Int), k ≤ 14 ∧ i = .int .i64 (k : Int) ∧ wr.ownsRow w.heap.size 5 1 v k (xs.map (Value.int .u8)) ∧ CurAt wr c a len cap ∧ w.grownBy wr (some c)) (fun _ i _ => 14 - (intOf i).toNat)
  case atStart => exact ⟨0, [], Nat.zero_le _, rfl, ⟨rfl, .inr ⟨w.heap.size, 0, #[], rfl, Nat.le_refl _, heap_alloc_new w _, Nat.le_refl _, Nat.zero_le _, rfl, rfl⟩⟩, hcur.below ((Below.refl _ _).alloc (Nat.le_refl _) _) hcw, World.grownBy_alloc w _ _⟩
  case round =>
    obtain ⟨k, xs, hk, rfl, hown, hcu, hgw⟩ := hrel
    have hxl : xs.length = k := by have := hown.1; simpa using this
    have HXL : Hid (xs.length = k) := hxl
    clear hxl
    go_wp2_with fail
    refine (l1Below_any c B 14 a len cap zs _ hcu (hcode.grown hgw hB) hB (by omega) (by omega)).mono ?_
    rintro e w1 ⟨x, rfl, hx0, hx1, hcu1, hg1⟩
    have hown1 := owns_grown hown hg1 hcw
    have hgw1 := grownBy_trans hgw hg1
    clear hcu hown hg1 hgw
    by_cases hkx : (k : Int) < x
    · have hcl := hcu1.lt
      have hsw1 := hgw1.size
      have hla := listAt_alloc w1 pickL
      go_wp2_with fail
      refine (l1Pick_any c B w1.heap.size 12 (textAt pickL) a len cap zs _ (hcu1.below ((Below.refl _ _).alloc (Nat.le_refl _) _) hcl) (hcode.grown (grownBy_allocR hgw1 _) hB) hB (by omega) (by omega) (by exact hla) (by omega)).mono ?_
      rintro e w3 ⟨j, hj, rfl, hcu3, hg3⟩
      have ht1 := pickL_one j hj
      obtain ⟨t, ht⟩ : ∃ t, t = textAt pickL j := ⟨_, rfl⟩
      rw [← ht] at ht1 ⊢
      have hown3 := owns_grown (hown1.alloc (.cells (pickL.map Value.string).toArray 9)) hg3 hcw
      have hgw3 := grownBy_trans (grownBy_allocR hgw1 (.cells (pickL.map Value.string).toArray 9)) hg3
      have hcl3 := hcu3.lt
      have hsw3 := hgw3.size
      clear ht hla hg3 hown1 hgw1 hcu1
      have hp0 : 0 < t.size := by omega
      have h63 : k + 1 ≤ maxLen := by unfold maxLen; omega
      have h47 : (k + 1) * 1 ≤ 140737488355328 := by omega
      have HBS : ∀ o, w.heap.size ≤ (w3.alloc o).heap.size := fun o => by simp; omega
      go_wp2_with (at_builtin; refine wpList_append_own _ rfl _ _ 22 rfl w.heap.size 5 i0 (.int .u8 0) 1 1 Tryz.underlying22 hi hz0 hz1 hz2 rfl (by decide) _ _ _ rfl (hown3.alloc _) ⟨w3.heap.size, 0, none⟩ 1 1 [.int .u8 ((t[0]'hp0).toNat : Int)] rfl rfl (cell_one_new _ _ _) (one_byte _) h63 h47 (HBS _) ?_)
      intro v1 w5 hown5 hgrow _
      have hgw5 : w.grownBy w5 (some c) := grown_later (grownBy_allocR hgw3 _) hgrow (fun g hg => owns_ge hown3 hg)
      have hcu5 : CurAt w5 c a len cap := (hcu3.below ((Below.refl _ _).alloc (Nat.le_refl _) _) hcl3).grown hgrow (fun e => by have := owns_ge hown3 e; omega)
      clear hgrow hown3 hcu3 hgw3 HBS
      go_wp2
      go_roundw
      case rel => exact ⟨k + 1, xs ++ [((t[0]'hp0).toNat : Int)], by omega, by go_num, by simpa using hown5, hcu5, hgw5⟩
      case measure => simp [intOf]; omega
    · have hcv := conv_owned hown1
      go_wp2
      go_ret
      exact ⟨strOfNums xs, rfl, by rw [strOfNums_size, HXL.out]; omega, hcu1, hgw1⟩

set_option maxHeartbeats 1000000 in
theorem l1Once_any (c B : Nat) (m : Int) (a : Option Addr) (len cap : Nat) (zs : List Int) (w : World) (hcur : CurAt w c a len cap) (hcode : CodeAt w B a len zs) (hB : B ≤ c) (hm : 1 ≤ m) (hm2 : m ≤ 256) :
    Calls Tryz.prog 109 #[.pointer (some ⟨c, 0, none⟩), .int .i64 m] w fun e w' => Hid (∃ b : Bool, e = .returned (.bool b)) ∧ CurAt w' c a len cap ∧ w.grownBy w' (some c) := by
  go_enter Tryz.func109, Tryz.ntmps109
  go_wp2_with fail
  refine (l1Below_any c B m a len cap zs _ hcur hcode hB hm hm2).mono ?_
  rintro e w1 ⟨x, rfl, hx0, hx1, hcur1, hg1⟩
  go_wp2
  go_ret
  exact ⟨⟨_, rfl⟩, hcur1, hg1⟩

end Go.Proofs.YtdlhicdfldecgaaGreatDoor

namespace Go.Proofs.YtdlhicdfldecgaaGreatDoor
open Go.RowKit
open Go.Lib hiding intOf

/-- A pick out of texts that the caller has just laid. -/
theorem pick_new (c B : Nat) (xs : List ByteArray) (m : Nat) (hm : ∀ j, j < xs.length → (textAt xs j).size ≤ m) (a : Option Addr) (len cap : Nat) (zs : List Int) (w : World) (hcur : CurAt w c a len cap) (hcode : CodeAt w B a len zs) (hB : B ≤ c) (hn : 1 ≤ xs.length) (hn2 : xs.length ≤ 256) :
    Calls Tryz.prog 74 #[.pointer (some ⟨c, 0, none⟩), .slice (some ⟨w.heap.size, 0, none⟩) xs.length xs.length] (w.alloc (.cells (xs.map Value.string).toArray 9)) fun e w' => TextDrawn m w c a len cap e w' := by
  have hc := hcur.lt
  refine (l1Pick_any c B w.heap.size xs.length (textAt xs) a len cap zs _ (hcur.below ((Below.refl _ _).alloc (Nat.le_refl _) _) hc) (hcode.grown (World.grownBy_alloc w _ _) hB) hB hn hn2 (listAt_alloc w xs) (by omega)).mono ?_
  rintro e w1 ⟨j, hj, rfl, hcu, hg⟩
  exact ⟨_, rfl, hm j hj, hcu, grownBy_trans (World.grownBy_alloc w _ _) hg⟩

/-- A call on the cursor answers a field of short texts, and turns the cursor alone of what was there. -/
def FieldDrawn (w : World) (c : Nat) (a : Option Addr) (len cap : Nat) (e : Ending) (w' : World) : Prop :=
  ∃ nm vl : ByteArray, e = .returned (.agg #[.string nm, .string vl]) ∧ nm.size ≤ 64 ∧ vl.size ≤ 64 ∧ CurAt w' c a len cap ∧ w.grownBy w' (some c)

/-- The two cells of a field's memory, written. -/
def twoSet (w : World) (r : Nat) (nm vl : ByteArray) : World := (w.setCell ⟨r, 0, none⟩ (.string nm)).setCell ⟨r, 1, none⟩ (.string vl)
theorem twoSet_heap {w : World} {r : Nat} (nm vl : ByteArray) (h : w.heap[r]? = some (.cells #[.string ⟨#[]⟩, .string ⟨#[]⟩] 131)) : (twoSet w r nm vl).heap[r]? = some (.cells #[.string nm, .string vl] 131) := by
  have := heap_set _ r 1 _ _ _ (.string vl) (heap_set w r 0 _ _ _ (.string nm) h)
  simpa [twoSet] using this
theorem twoSet_grown (w : World) (r : Nat) (nm vl : ByteArray) : w.grownBy (twoSet w r nm vl) (some r) :=
  ⟨rfl, rfl, rfl, by simp [twoSet], fun k _ hk => by
    have hne : k ≠ r := fun e => hk (by rw [e])
    unfold twoSet
    rw [heap_setCell_other _ _ k _ (fun e => hne e), heap_setCell_other _ _ k _ (fun e => hne e)]⟩
theorem FieldDrawn.of {w w2 : World} {c r : Nat} {a : Option Addr} {len cap : Nat} {nm vl : ByteArray} (h1 : nm.size ≤ 64) (h2 : vl.size ≤ 64) (hcu : CurAt w2 c a len cap) (hg : w.grownBy w2 (some c)) (hrc : r ≠ c) (hrw : w.heap.size ≤ r) : FieldDrawn w c a len cap (.returned (.agg #[.string nm, .string vl])) (twoSet w2 r nm vl) :=
  ⟨nm, vl, rfl, h1, h2, hcu.grown (twoSet_grown w2 r nm vl) (fun e => hrc (Option.some.inj e)), grown_later hg (twoSet_grown w2 r nm vl) (fun g e => by cases e; exact hrw)⟩

set_option maxHeartbeats 2000000 in
theorem l2DrawField_any (c B : Nat) (a : Option Addr) (len cap : Nat) (zs : List Int) (w : World) (hcur : CurAt w c a len cap) (hcode : CodeAt w B a len zs) (hB : B ≤ c) :
    Calls Tryz.prog 143 #[.pointer (some ⟨c, 0, none⟩)] w fun e w' => FieldDrawn w c a len cap e w' := by
  go_enter Tryz.func143, Tryz.ntmps143
  go_wp2_with fail
  have hcw := hcur.lt
  have hg0 : w.grownBy (w.alloc (.cells #[.string ⟨#[]⟩, .string ⟨#[]⟩] 131)) (some c) := World.grownBy_alloc w _ _
  refine (l1Below_any c B 9 a len cap zs _ (hcur.below ((Below.refl _ _).alloc (Nat.le_refl _) _) hcw) (hcode.grown hg0 hB) hB (by omega) (by omega)).mono ?_
  rintro e w1 ⟨x, rfl, hx0, hx1, hcu1, hg1⟩
  obtain ⟨r, hr⟩ : ∃ r, r = w.heap.size := ⟨_, rfl⟩
  have hs1 : r < w1.heap.size := by have := hg1.size; simp at this; omega
  have hco1 := (hcode.grown hg0 hB).grown hg1 hB
  have hre1 : w1.heap[r]? = some (.cells #[.string ⟨#[]⟩, .string ⟨#[]⟩] 131) := by rw [hr, hg1.block _ (by simp) (fun e => by cases e; omega)]; exact heap_alloc_new w _
  have hgw1 := grownBy_trans hg0 hg1
  have hrc : r ≠ c := by omega
  have hrw : w.heap.size ≤ r := by omega
  rw [← hr]
  clear hcode hcur hg0 hg1 hr
  obtain rfl | rfl | rfl | rfl | rfl | rfl | rfl | rfl | rfl : x = 0 ∨ x = 1 ∨ x = 2 ∨ x = 3 ∨ x = 4 ∨ x = 5 ∨ x = 6 ∨ x = 7 ∨ x = 8 := by omega
  all_goals clear hx0 hx1
  · go_wp2_with fail
    refine (pick_new c B [⟨#[109, 97, 120, 45, 97, 103, 101, 61, 53]⟩, ⟨#[109, 97, 120, 45, 97, 103, 101, 61, 50, 48]⟩, ⟨#[110, 111, 45, 115, 116, 111, 114, 101]⟩, ⟨#[110, 111, 45, 99, 97, 99, 104, 101]⟩, ⟨#[112, 114, 105, 118, 97, 116, 101]⟩, ⟨#[109, 97, 120, 45, 97, 103, 101, 61, 57, 44, 32, 109, 117, 115, 116, 45, 114, 101, 118, 97, 108, 105, 100, 97, 116, 101]⟩, ⟨#[109, 97, 120, 45, 97, 103, 101, 61, 120]⟩, ⟨#[77, 65, 88, 45, 65, 71, 69, 61, 51]⟩] 64 (by decide) a len cap zs w1 hcu1 hco1 hB (by decide) (by decide)).mono ?_
    rintro e w2 ⟨t, rfl, ht, hcu2, hg2⟩
    have hgw2 := grownBy_trans hgw1 hg2
    have hre2 : w2.heap[r]? = some (.cells #[.string ⟨#[]⟩, .string ⟨#[]⟩] 131) := by rw [hg2.block _ hs1 (fun e => by cases e; omega)]; exact hre1
    have hc0 : w2.cell? ⟨r, 0, none⟩ = some (.string ⟨#[]⟩) := by simp [World.cell?, hre2]
    have hc1 : w2.cell? ⟨r, 1, none⟩ = some (.string ⟨#[]⟩) := by simp [World.cell?, hre2]
    have hf0 : w2.frozen? ⟨r, 0, none⟩ = false := by simp [World.frozen?, hre2]
    have hf1 : w2.frozen? ⟨r, 1, none⟩ = false := by simp [World.frozen?, hre2]
    clear hcu1 hco1 hre1 hgw1 hg2
    have hre3 := twoSet_heap ⟨#[99, 97, 99, 104, 101, 45, 99, 111, 110, 116, 114, 111, 108]⟩ t hre2
    have k0 : (twoSet w2 r ⟨#[99, 97, 99, 104, 101, 45, 99, 111, 110, 116, 114, 111, 108]⟩ t).cell? ⟨r, 0, none⟩ = some (.string ⟨#[99, 97, 99, 104, 101, 45, 99, 111, 110, 116, 114, 111, 108]⟩) := by simp [World.cell?, hre3]
    have k1 : (twoSet w2 r ⟨#[99, 97, 99, 104, 101, 45, 99, 111, 110, 116, 114, 111, 108]⟩ t).cell? ⟨r, 1, none⟩ = some (.string t) := by simp [World.cell?, hre3]
    unfold twoSet at k0 k1
    clear hre3
    go_wp2
    exact bodyPost_ret (v := .agg #[.string ⟨#[99, 97, 99, 104, 101, 45, 99, 111, 110, 116, 114, 111, 108]⟩, .string t]) (by simp [results, Tryz.results143, go_sem, k0, k1]) rfl (FieldDrawn.of (by decide) ht hcu2 hgw2 hrc hrw)
  · go_wp2_with fail
    refine (pick_new c B [⟨#[97]⟩, ⟨#[98]⟩] 64 (by decide) a len cap zs w1 hcu1 hco1 hB (by decide) (by decide)).mono ?_
    rintro e w2 ⟨t, rfl, ht, hcu2, hg2⟩
    have hgw2 := grownBy_trans hgw1 hg2
    have hre2 : w2.heap[r]? = some (.cells #[.string ⟨#[]⟩, .string ⟨#[]⟩] 131) := by rw [hg2.block _ hs1 (fun e => by cases e; omega)]; exact hre1
    have hc0 : w2.cell? ⟨r, 0, none⟩ = some (.string ⟨#[]⟩) := by simp [World.cell?, hre2]
    have hc1 : w2.cell? ⟨r, 1, none⟩ = some (.string ⟨#[]⟩) := by simp [World.cell?, hre2]
    have hf0 : w2.frozen? ⟨r, 0, none⟩ = false := by simp [World.frozen?, hre2]
    have hf1 : w2.frozen? ⟨r, 1, none⟩ = false := by simp [World.frozen?, hre2]
    clear hcu1 hco1 hre1 hgw1 hg2
    have hre3 := twoSet_heap ⟨#[101, 116, 97, 103]⟩ t hre2
    have k0 : (twoSet w2 r ⟨#[101, 116, 97, 103]⟩ t).cell? ⟨r, 0, none⟩ = some (.string ⟨#[101, 116, 97, 103]⟩) := by simp [World.cell?, hre3]
    have k1 : (twoSet w2 r ⟨#[101, 116, 97, 103]⟩ t).cell? ⟨r, 1, none⟩ = some (.string t) := by simp [World.cell?, hre3]
    unfold twoSet at k0 k1
    clear hre3
    go_wp2
    exact bodyPost_ret (v := .agg #[.string ⟨#[101, 116, 97, 103]⟩, .string t]) (by simp [results, Tryz.results143, go_sem, k0, k1]) rfl (FieldDrawn.of (by decide) ht hcu2 hgw2 hrc hrw)
  · go_wp2_with fail
    refine (pick_new c B [⟨#[108, 97, 110, 103]⟩, ⟨#[108, 97, 110, 103, 44, 32, 107, 105, 110, 100]⟩, ⟨#[42]⟩] 64 (by decide) a len cap zs w1 hcu1 hco1 hB (by decide) (by decide)).mono ?_
    rintro e w2 ⟨t, rfl, ht, hcu2, hg2⟩
    have hgw2 := grownBy_trans hgw1 hg2
    have hre2 : w2.heap[r]? = some (.cells #[.string ⟨#[]⟩, .string ⟨#[]⟩] 131) := by rw [hg2.block _ hs1 (fun e => by cases e; omega)]; exact hre1
    have hc0 : w2.cell? ⟨r, 0, none⟩ = some (.string ⟨#[]⟩) := by simp [World.cell?, hre2]
    have hc1 : w2.cell? ⟨r, 1, none⟩ = some (.string ⟨#[]⟩) := by simp [World.cell?, hre2]
    have hf0 : w2.frozen? ⟨r, 0, none⟩ = false := by simp [World.frozen?, hre2]
    have hf1 : w2.frozen? ⟨r, 1, none⟩ = false := by simp [World.frozen?, hre2]
    clear hcu1 hco1 hre1 hgw1 hg2
    have hre3 := twoSet_heap ⟨#[118, 97, 114, 121]⟩ t hre2
    have k0 : (twoSet w2 r ⟨#[118, 97, 114, 121]⟩ t).cell? ⟨r, 0, none⟩ = some (.string ⟨#[118, 97, 114, 121]⟩) := by simp [World.cell?, hre3]
    have k1 : (twoSet w2 r ⟨#[118, 97, 114, 121]⟩ t).cell? ⟨r, 1, none⟩ = some (.string t) := by simp [World.cell?, hre3]
    unfold twoSet at k0 k1
    clear hre3
    go_wp2
    exact bodyPost_ret (v := .agg #[.string ⟨#[118, 97, 114, 121]⟩, .string t]) (by simp [results, Tryz.results143, go_sem, k0, k1]) rfl (FieldDrawn.of (by decide) ht hcu2 hgw2 hrc hrw)
  · go_wp2_with fail
    refine (pick_new c B [⟨#[100, 101]⟩, ⟨#[101, 110]⟩] 64 (by decide) a len cap zs w1 hcu1 hco1 hB (by decide) (by decide)).mono ?_
    rintro e w2 ⟨t, rfl, ht, hcu2, hg2⟩
    have hgw2 := grownBy_trans hgw1 hg2
    have hre2 : w2.heap[r]? = some (.cells #[.string ⟨#[]⟩, .string ⟨#[]⟩] 131) := by rw [hg2.block _ hs1 (fun e => by cases e; omega)]; exact hre1
    have hc0 : w2.cell? ⟨r, 0, none⟩ = some (.string ⟨#[]⟩) := by simp [World.cell?, hre2]
    have hc1 : w2.cell? ⟨r, 1, none⟩ = some (.string ⟨#[]⟩) := by simp [World.cell?, hre2]
    have hf0 : w2.frozen? ⟨r, 0, none⟩ = false := by simp [World.frozen?, hre2]
    have hf1 : w2.frozen? ⟨r, 1, none⟩ = false := by simp [World.frozen?, hre2]
    clear hcu1 hco1 hre1 hgw1 hg2
    have hre3 := twoSet_heap ⟨#[108, 97, 110, 103]⟩ t hre2
    have k0 : (twoSet w2 r ⟨#[108, 97, 110, 103]⟩ t).cell? ⟨r, 0, none⟩ = some (.string ⟨#[108, 97, 110, 103]⟩) := by simp [World.cell?, hre3]
    have k1 : (twoSet w2 r ⟨#[108, 97, 110, 103]⟩ t).cell? ⟨r, 1, none⟩ = some (.string t) := by simp [World.cell?, hre3]
    unfold twoSet at k0 k1
    clear hre3
    go_wp2
    exact bodyPost_ret (v := .agg #[.string ⟨#[108, 97, 110, 103]⟩, .string t]) (by simp [results, Tryz.results143, go_sem, k0, k1]) rfl (FieldDrawn.of (by decide) ht hcu2 hgw2 hrc hrw)
  · go_wp2_with fail
    refine (pick_new c B [⟨#[120]⟩, ⟨#[121]⟩] 64 (by decide) a len cap zs w1 hcu1 hco1 hB (by decide) (by decide)).mono ?_
    rintro e w2 ⟨t, rfl, ht, hcu2, hg2⟩
    have hgw2 := grownBy_trans hgw1 hg2
    have hre2 : w2.heap[r]? = some (.cells #[.string ⟨#[]⟩, .string ⟨#[]⟩] 131) := by rw [hg2.block _ hs1 (fun e => by cases e; omega)]; exact hre1
    have hc0 : w2.cell? ⟨r, 0, none⟩ = some (.string ⟨#[]⟩) := by simp [World.cell?, hre2]
    have hc1 : w2.cell? ⟨r, 1, none⟩ = some (.string ⟨#[]⟩) := by simp [World.cell?, hre2]
    have hf0 : w2.frozen? ⟨r, 0, none⟩ = false := by simp [World.frozen?, hre2]
    have hf1 : w2.frozen? ⟨r, 1, none⟩ = false := by simp [World.frozen?, hre2]
    clear hcu1 hco1 hre1 hgw1 hg2
    have hre3 := twoSet_heap ⟨#[107, 105, 110, 100]⟩ t hre2
    have k0 : (twoSet w2 r ⟨#[107, 105, 110, 100]⟩ t).cell? ⟨r, 0, none⟩ = some (.string ⟨#[107, 105, 110, 100]⟩) := by simp [World.cell?, hre3]
    have k1 : (twoSet w2 r ⟨#[107, 105, 110, 100]⟩ t).cell? ⟨r, 1, none⟩ = some (.string t) := by simp [World.cell?, hre3]
    unfold twoSet at k0 k1
    clear hre3
    go_wp2
    exact bodyPost_ret (v := .agg #[.string ⟨#[107, 105, 110, 100]⟩, .string t]) (by simp [results, Tryz.results143, go_sem, k0, k1]) rfl (FieldDrawn.of (by decide) ht hcu2 hgw2 hrc hrw)
  · go_wp2_with fail
    refine (pick_new c B [⟨#[48]⟩, ⟨#[51]⟩, ⟨#[57, 48]⟩, ⟨#[120]⟩] 64 (by decide) a len cap zs w1 hcu1 hco1 hB (by decide) (by decide)).mono ?_
    rintro e w2 ⟨t, rfl, ht, hcu2, hg2⟩
    have hgw2 := grownBy_trans hgw1 hg2
    have hre2 : w2.heap[r]? = some (.cells #[.string ⟨#[]⟩, .string ⟨#[]⟩] 131) := by rw [hg2.block _ hs1 (fun e => by cases e; omega)]; exact hre1
    have hc0 : w2.cell? ⟨r, 0, none⟩ = some (.string ⟨#[]⟩) := by simp [World.cell?, hre2]
    have hc1 : w2.cell? ⟨r, 1, none⟩ = some (.string ⟨#[]⟩) := by simp [World.cell?, hre2]
    have hf0 : w2.frozen? ⟨r, 0, none⟩ = false := by simp [World.frozen?, hre2]
    have hf1 : w2.frozen? ⟨r, 1, none⟩ = false := by simp [World.frozen?, hre2]
    clear hcu1 hco1 hre1 hgw1 hg2
    have hre3 := twoSet_heap ⟨#[97, 103, 101]⟩ t hre2
    have k0 : (twoSet w2 r ⟨#[97, 103, 101]⟩ t).cell? ⟨r, 0, none⟩ = some (.string ⟨#[97, 103, 101]⟩) := by simp [World.cell?, hre3]
    have k1 : (twoSet w2 r ⟨#[97, 103, 101]⟩ t).cell? ⟨r, 1, none⟩ = some (.string t) := by simp [World.cell?, hre3]
    unfold twoSet at k0 k1
    clear hre3
    go_wp2
    exact bodyPost_ret (v := .agg #[.string ⟨#[97, 103, 101]⟩, .string t]) (by simp [results, Tryz.results143, go_sem, k0, k1]) rfl (FieldDrawn.of (by decide) ht hcu2 hgw2 hrc hrw)
  · go_wp2_with fail
    refine (pick_new c B [⟨#[97]⟩, ⟨#[98]⟩] 64 (by decide) a len cap zs w1 hcu1 hco1 hB (by decide) (by decide)).mono ?_
    rintro e w2 ⟨t, rfl, ht, hcu2, hg2⟩
    have hgw2 := grownBy_trans hgw1 hg2
    have hre2 : w2.heap[r]? = some (.cells #[.string ⟨#[]⟩, .string ⟨#[]⟩] 131) := by rw [hg2.block _ hs1 (fun e => by cases e; omega)]; exact hre1
    have hc0 : w2.cell? ⟨r, 0, none⟩ = some (.string ⟨#[]⟩) := by simp [World.cell?, hre2]
    have hc1 : w2.cell? ⟨r, 1, none⟩ = some (.string ⟨#[]⟩) := by simp [World.cell?, hre2]
    have hf0 : w2.frozen? ⟨r, 0, none⟩ = false := by simp [World.frozen?, hre2]
    have hf1 : w2.frozen? ⟨r, 1, none⟩ = false := by simp [World.frozen?, hre2]
    clear hcu1 hco1 hre1 hgw1 hg2
    have hre3 := twoSet_heap ⟨#[105, 102, 45, 110, 111, 110, 101, 45, 109, 97, 116, 99, 104]⟩ t hre2
    have k0 : (twoSet w2 r ⟨#[105, 102, 45, 110, 111, 110, 101, 45, 109, 97, 116, 99, 104]⟩ t).cell? ⟨r, 0, none⟩ = some (.string ⟨#[105, 102, 45, 110, 111, 110, 101, 45, 109, 97, 116, 99, 104]⟩) := by simp [World.cell?, hre3]
    have k1 : (twoSet w2 r ⟨#[105, 102, 45, 110, 111, 110, 101, 45, 109, 97, 116, 99, 104]⟩ t).cell? ⟨r, 1, none⟩ = some (.string t) := by simp [World.cell?, hre3]
    unfold twoSet at k0 k1
    clear hre3
    go_wp2
    exact bodyPost_ret (v := .agg #[.string ⟨#[105, 102, 45, 110, 111, 110, 101, 45, 109, 97, 116, 99, 104]⟩, .string t]) (by simp [results, Tryz.results143, go_sem, k0, k1]) rfl (FieldDrawn.of (by decide) ht hcu2 hgw2 hrc hrw)
  · go_wp2_with fail
    refine (pick_new c B [⟨#[120, 45, 97]⟩, ⟨#[120, 45, 98]⟩, ⟨#[100, 97, 116, 101]⟩] 64 (by decide) a len cap zs w1 hcu1 hco1 hB (by decide) (by decide)).mono ?_
    rintro e w2 ⟨t, rfl, ht, hcu2, hg2⟩
    have hco2 := hco1.grown hg2 hB
    have hgw2 := grownBy_trans hgw1 hg2
    have hs2 : r < w2.heap.size := by have := hg2.size; omega
    have hre2 : w2.heap[r]? = some (.cells #[.string ⟨#[]⟩, .string ⟨#[]⟩] 131) := by rw [hg2.block _ hs1 (fun e => by cases e; omega)]; exact hre1
    clear hcu1 hco1 hre1 hgw1 hg2
    go_wp2_with fail
    refine (pick_new c B [⟨#[49]⟩, ⟨#[116, 119, 111, 32, 119, 111, 114, 100, 115]⟩, ⟨#[113]⟩] 64 (by decide) a len cap zs w2 hcu2 hco2 hB (by decide) (by decide)).mono ?_
    rintro e w3 ⟨u, rfl, hu, hcu3, hg3⟩
    have hgw3 := grownBy_trans hgw2 hg3
    have hre3 : w3.heap[r]? = some (.cells #[.string ⟨#[]⟩, .string ⟨#[]⟩] 131) := by rw [hg3.block _ hs2 (fun e => by cases e; omega)]; exact hre2
    have hc0 : w3.cell? ⟨r, 0, none⟩ = some (.string ⟨#[]⟩) := by simp [World.cell?, hre3]
    have hc1 : w3.cell? ⟨r, 1, none⟩ = some (.string ⟨#[]⟩) := by simp [World.cell?, hre3]
    have hf0 : w3.frozen? ⟨r, 0, none⟩ = false := by simp [World.frozen?, hre3]
    have hf1 : w3.frozen? ⟨r, 1, none⟩ = false := by simp [World.frozen?, hre3]
    have hre4 := twoSet_heap t u hre3
    have k0 : (twoSet w3 r t u).cell? ⟨r, 0, none⟩ = some (.string t) := by simp [World.cell?, hre4]
    have k1 : (twoSet w3 r t u).cell? ⟨r, 1, none⟩ = some (.string u) := by simp [World.cell?, hre4]
    unfold twoSet at k0 k1
    clear hcu2 hco2 hre2 hgw2 hg3 hre4
    go_wp2
    exact bodyPost_ret (v := .agg #[.string t, .string u]) (by simp [results, Tryz.results143, go_sem, k0, k1]) rfl (FieldDrawn.of ht hu hcu3 hgw3 hrc hrw)
  · go_wp2_with fail
    refine (pick_new c B [⟨#[120, 45, 97]⟩, ⟨#[120, 45, 98]⟩, ⟨#[100, 97, 116, 101]⟩] 64 (by decide) a len cap zs w1 hcu1 hco1 hB (by decide) (by decide)).mono ?_
    rintro e w2 ⟨t, rfl, ht, hcu2, hg2⟩
    have hco2 := hco1.grown hg2 hB
    have hgw2 := grownBy_trans hgw1 hg2
    have hs2 : r < w2.heap.size := by have := hg2.size; omega
    have hre2 : w2.heap[r]? = some (.cells #[.string ⟨#[]⟩, .string ⟨#[]⟩] 131) := by rw [hg2.block _ hs1 (fun e => by cases e; omega)]; exact hre1
    clear hcu1 hco1 hre1 hgw1 hg2
    go_wp2_with fail
    refine (pick_new c B [⟨#[49]⟩, ⟨#[116, 119, 111, 32, 119, 111, 114, 100, 115]⟩, ⟨#[113]⟩] 64 (by decide) a len cap zs w2 hcu2 hco2 hB (by decide) (by decide)).mono ?_
    rintro e w3 ⟨u, rfl, hu, hcu3, hg3⟩
    have hgw3 := grownBy_trans hgw2 hg3
    have hre3 : w3.heap[r]? = some (.cells #[.string ⟨#[]⟩, .string ⟨#[]⟩] 131) := by rw [hg3.block _ hs2 (fun e => by cases e; omega)]; exact hre2
    have hc0 : w3.cell? ⟨r, 0, none⟩ = some (.string ⟨#[]⟩) := by simp [World.cell?, hre3]
    have hc1 : w3.cell? ⟨r, 1, none⟩ = some (.string ⟨#[]⟩) := by simp [World.cell?, hre3]
    have hf0 : w3.frozen? ⟨r, 0, none⟩ = false := by simp [World.frozen?, hre3]
    have hf1 : w3.frozen? ⟨r, 1, none⟩ = false := by simp [World.frozen?, hre3]
    have hre4 := twoSet_heap t u hre3
    have k0 : (twoSet w3 r t u).cell? ⟨r, 0, none⟩ = some (.string t) := by simp [World.cell?, hre4]
    have k1 : (twoSet w3 r t u).cell? ⟨r, 1, none⟩ = some (.string u) := by simp [World.cell?, hre4]
    unfold twoSet at k0 k1
    clear hcu2 hco2 hre2 hgw2 hg3 hre4
    go_wp2
    exact bodyPost_ret (v := .agg #[.string t, .string u]) (by simp [results, Tryz.results143, go_sem, k0, k1]) rfl (FieldDrawn.of ht hu hcu3 hgw3 hrc hrw)

end Go.Proofs.YtdlhicdfldecgaaGreatDoor

namespace Go.Proofs.YtdlhicdfldecgaaGreatDoor
open Go.RowKit
open Go.Lib hiding intOf

/-- Fields of short texts. -/
def ShortF (fs : List (ByteArray × ByteArray)) : Prop := ∀ f ∈ fs, f.1.size ≤ 64 ∧ f.2.size ≤ 64
theorem ShortF.snoc {fs : List (ByteArray × ByteArray)} {nm vl : ByteArray} (h : ShortF fs) (h1 : nm.size ≤ 64) (h2 : vl.size ≤ 64) : ShortF (fs ++ [(nm, vl)]) := by
  intro f hf
  rcases List.mem_append.1 hf with hf | hf
  · exact h f hf
  · simp at hf; subst hf; exact ⟨h1, h2⟩
/-- A call on the cursor answers a list of at most m fields of short texts, in memory of its own, and turns the cursor alone of what was there. -/
def FieldsDrawn (m : Nat) (w : World) (c : Nat) (a : Option Addr) (len cap : Nat) (e : Ending) (w' : World) : Prop :=
  ∃ (v : Value) (fs : List (ByteArray × ByteArray)), e = .returned v ∧ w'.ownsRow w.heap.size 131 2 v fs.length (flatF fs) ∧ fs.length ≤ m ∧ ShortF fs ∧ CurAt w' c a len cap ∧ w.grownBy w' (some c)

set_option maxHeartbeats 2000000 in
set_option maxRecDepth 100000 in
theorem l2DrawRight_any (c B : Nat) (a : Option Addr) (len cap : Nat) (zs : List Int) (w : World) (hcur : CurAt w c a len cap) (hcode : CodeAt w B a len zs) (hB : B ≤ c) :
    Calls Tryz.prog 108 #[.pointer (some ⟨c, 0, none⟩)] w fun e w' => FieldsDrawn 5 w c a len cap e w' := by
  obtain ⟨i0, hi, hz0, hz1, hz2⟩ := info_parts info33
  have hcw := hcur.lt
  go_enter Tryz.func108, Tryz.ntmps108
  go_wp2
  go_loopw [3, 4] (fun v i wr => ∃ (k : Nat) (fs : List (ByteArray × ByteArray)), k ≤ 5 ∧ i = .int .i64 (k : Int) ∧ wr.ownsRow w.heap.size 131 2 v fs.length (flatF fs) ∧ fs.length ≤ k ∧ Hid (ShortF fs) ∧ CurAt wr c a len cap ∧ w.grownBy wr (some c)) (fun _ i _ => 5 - (intOf i).toNat)
  case atStart => exact ⟨0, [], Nat.zero_le _, rfl, ⟨rfl, .inr ⟨w.heap.size, 0, #[], rfl, Nat.le_refl _, heap_alloc_new w _, Nat.le_refl _, Nat.zero_le _, rfl, rfl⟩⟩, Nat.le_refl _, (fun f hf => by simp at hf), hcur.below ((Below.refl _ _).alloc (Nat.le_refl _) _) hcw, World.grownBy_alloc w _ _⟩
  case round =>
    obtain ⟨k, fs, hk, rfl, hown, hfl, hsh, hcu, hgw⟩ := hrel
    go_wp2_with fail
    refine (l1Below_any c B 5 a len cap zs _ hcu (hcode.grown hgw hB) hB (by omega) (by omega)).mono ?_
    rintro e w1 ⟨x, rfl, hx0, hx1, hcu1, hg1⟩
    have hown1 := owns_grown hown hg1 hcw
    have hgw1 := grownBy_trans hgw hg1
    clear hcu hown hg1 hgw
    by_cases hkx : (k : Int) < x
    · go_wp2_with fail
      refine (l2DrawField_any c B a len cap zs _ hcu1 (hcode.grown hgw1 hB) hB).mono ?_
      rintro e w2 ⟨nm, vl, rfl, hnm, hvl, hcu2, hg2⟩
      have hown2 := owns_grown hown1 hg2 hcw
      have hgw2 := grownBy_trans hgw1 hg2
      clear hcu1 hown1 hg2 hgw1
      go_wp2_with fail
      have hown3 := hown2.alloc (.cells #[.string nm, .string vl] 131)
      have hgw3 := grownBy_allocR hgw2 (.cells #[.string nm, .string vl] 131)
      have hcl2 := hcu2.lt
      have hcu3 := hcu2.below ((Below.refl _ _).alloc (Nat.le_refl _) (.cells #[.string nm, .string vl] 131)) hcl2
      have hc0 : (w2.alloc (.cells #[.string nm, .string vl] 131)).cell? ⟨w2.heap.size, 0, none⟩ = some (.string nm) := by rw [World.cell?_alloc_new]; rfl
      have hc1 : (w2.alloc (.cells #[.string nm, .string vl] 131)).cell? ⟨w2.heap.size, 1, none⟩ = some (.string vl) := by rw [World.cell?_alloc_new]; rfl
      have hs3 : w2.heap.size < (w2.alloc (.cells #[.string nm, .string vl] 131)).heap.size := by simp
      obtain ⟨r, hr⟩ : ∃ r, r = w2.heap.size := ⟨_, rfl⟩
      refine (l2At_any u3 fs.length w.heap.size fs nm _ (FieldsV.of_owns hown3) (by omega)).mono ?_
      rintro e w3 ⟨rfl, hw3⟩
      rw [← hw3] at hown3 hgw3 hcu3 hc0 hc1 hs3
      rw [← hr] at hc0 hc1 hs3
      rw [← hr]
      clear hown2 hgw2 hcu2 hw3 hr hcl2
      by_cases hin : atF fs nm < fs.length
      · have hI : Hid (atI fs nm = (atF fs nm : Int)) := by show _ = _; unfold atI; rw [if_pos hin]
        rw [hI.out]
        obtain ⟨p, hp⟩ : ∃ p, p = atF fs nm := ⟨_, rfl⟩
        rw [← hp]
        have hp0 : ¬ (p : Int) < 0 := by omega
        clear hI hin hp
        go_wp2
        go_roundw
        case rel => exact ⟨k + 1, fs, by omega, by go_num, hown3, by omega, hsh, hcu3, hgw3⟩
        case measure => simp [intOf]; omega
      · have hI : Hid (atI fs nm = -1) := by show _ = _; unfold atI; rw [if_neg hin]
        rw [hI.out]
        clear hI hin
        have h63 : fs.length + 1 ≤ maxLen := by unfold maxLen; omega
        have h47 : (fs.length + 1) * 32 ≤ 140737488355328 := by omega
        have hsw3 := hgw3.size
        have hcl3 := hcu3.lt
        have HBS : ∀ o, w.heap.size ≤ (w3.alloc o).heap.size := fun o => by simp; omega
        go_wp2_with (at_builtin; refine wpList_append_own _ rfl _ _ 25 rfl w.heap.size 131 i0 (.agg #[.string ⟨#[]⟩, .string ⟨#[]⟩]) 2 32 Tryz.underlying25 hi hz0 hz1 hz2 rfl (by decide) _ _ _ rfl (hown3.alloc _) ⟨w3.heap.size, 0, none⟩ 1 1 [.string nm, .string vl] rfl rfl (cell_two_new _ _ _ _) (two_text _ _) h63 h47 (HBS _) ?_)
        intro v1 w5 hown5 hgrow _
        have hgw5 : w.grownBy w5 (some c) := grown_later (grownBy_allocR hgw3 _) hgrow (fun g hg => owns_ge hown3 hg)
        have hcu5 : CurAt w5 c a len cap := (hcu3.below ((Below.refl _ _).alloc (Nat.le_refl _) _) hcl3).grown hgrow (fun e => by have := owns_ge hown3 e; omega)
        have hsh5 : Hid (ShortF (fs ++ [(nm, vl)])) := hsh.out.snoc hnm hvl
        clear hgrow hown3 hcu3 hgw3 HBS hc0 hc1
        go_wp2
        go_roundw
        case rel => exact ⟨k + 1, fs ++ [(nm, vl)], by omega, by go_num, by rw [flatF_append, flatF_one]; simpa using hown5, by simp; omega, hsh5, hcu5, hgw5⟩
        case measure => simp [intOf]; omega
    · go_wp2
      go_ret
      exact ⟨_, fs, rfl, hown1, by omega, hsh.out, hcu1, hgw1⟩

theorem owns_slice {w : World} {base : Nat} {t : TypeId} {size : Nat} {v : Value} {n : Nat} {xs : List Value} (h : w.ownsRow base t size v n xs) : ∃ oa cp, v = .slice oa n cp := by
  rcases h.2 with ⟨rfl, rfl⟩ | ⟨g, cap, cur, rfl, _⟩
  · exact ⟨none, 0, rfl⟩
  · exact ⟨_, _, rfl⟩
theorem grown_of_below {w w' : World} (hb : Below w.heap.size w w') : w.grownBy w' none := ⟨hb.os, hb.tape, hb.output, hb.size, fun k hk _ => hb.block k hk⟩
theorem numText_short : ∀ k, k ≤ 9 → (numText k).size ≤ 20 := by decide
def lenOf : Value → Nat
  | .slice _ n _ => n
  | _ => 0
theorem cell_four_new (w : World) (a b c d : Value) (t : TypeId) : ∀ j u, [a, b, c, d][j]? = some u → (w.alloc (.cells #[a, b, c, d] t)).cell? ((⟨w.heap.size, 0, none⟩ : Addr).add j) = some u := by
  intro j u h
  have e : (⟨w.heap.size, 0, none⟩ : Addr).add j = ⟨w.heap.size, j, none⟩ := by
    unfold Addr.add; split <;> simp_all
  rw [e, World.cell?_alloc_new]
  match j, h with
  | 0, h => simpa using h
  | 1, h => simpa using h
  | 2, h => simpa using h
  | 3, h => simpa using h
  | k + 4, h => simp at h
theorem four_text (a b c d : ByteArray) : ∀ u ∈ [Value.string a, Value.string b, Value.string c, Value.string d], u.oneCell' = true := by
  intro u hu
  simp at hu
  rcases hu with rfl | rfl | rfl | rfl <;> rfl

set_option maxHeartbeats 2000000 in
set_option maxRecDepth 100000 in
theorem l2Draw_any (c B : Nat) (a : Option Addr) (len cap : Nat) (zs : List Int) (w : World) (hcur : CurAt w c a len cap) (hcode : CodeAt w B a len zs) (hB : B ≤ c) :
    Calls Tryz.prog 125 #[.pointer (some ⟨c, 0, none⟩)] w fun e w' => FieldsDrawn 40 w c a len cap e w' := by
  obtain ⟨i0, hi, hz0, hz1, hz2⟩ := info_parts info33
  have hcw := hcur.lt
  go_enter Tryz.func125, Tryz.ntmps125
  go_wp2_with fail
  refine (l2DrawRight_any c B a len cap zs _ hcur hcode hB).mono ?_
  rintro e w1 ⟨v, fs, rfl, hown1, hfl, hsh, hcu1, hgw1⟩
  have HSH : Hid (ShortF fs) := hsh
  clear hsh
  go_wp2_with fail
  refine (l1Below_any c B 15 a len cap zs _ hcu1 (hcode.grown hgw1 hB) hB (by omega) (by omega)).mono ?_
  rintro e w2 ⟨x, rfl, hx0, hx1, hcu2, hg2⟩
  have hown2 := owns_grown hown1 hg2 hcw
  have hgw2 := grownBy_trans hgw1 hg2
  clear hcu1 hown1 hg2 hgw1
  by_cases h0 : x = 0
  · subst h0
    go_wp2_with fail
    refine (l2DrawField_any c B a len cap zs _ hcu2 (hcode.grown hgw2 hB) hB).mono ?_
    rintro e w3 ⟨nm, vl, rfl, hnm, hvl, hcu3, hg3⟩
    have hown3 := owns_grown hown2 hg3 hcw
    have hgw3 := grownBy_trans hgw2 hg3
    clear hcu2 hown2 hg3 hgw2
    go_wp2_with fail
    refine (l2DrawField_any c B a len cap zs _ hcu3 (hcode.grown hgw3 hB) hB).mono ?_
    rintro e w4 ⟨nm2, vl2, rfl, hnm2, hvl2, hcu4, hg4⟩
    have hown4 := owns_grown hown3 hg4 hcw
    have hgw4 := grownBy_trans hgw3 hg4
    clear hcu3 hown3 hg4 hgw3
    have h63 : fs.length + 2 ≤ maxLen := by unfold maxLen; omega
    have h47 : (fs.length + 2) * 32 ≤ 140737488355328 := by omega
    have hsw4 := hgw4.size
    have hcl4 := hcu4.lt
    have HBS : ∀ o, w.heap.size ≤ (w4.alloc o).heap.size := fun o => by simp; omega
    go_wp2_with (at_builtin; refine wpList_append_own _ rfl _ _ 25 rfl w.heap.size 131 i0 (.agg #[.string ⟨#[]⟩, .string ⟨#[]⟩]) 2 32 Tryz.underlying25 hi hz0 hz1 hz2 rfl (by decide) _ _ _ rfl (hown4.alloc _) ⟨w4.heap.size, 0, none⟩ 2 2 [.string nm, .string vl, .string nm2, .string vl2] rfl rfl (cell_four_new _ _ _ _ _ _) (four_text _ _ _ _) h63 h47 (HBS _) ?_)
    intro v1 w5 hown5 hgrow _
    have hgw5 : w.grownBy w5 (some c) := grown_later (grownBy_allocR hgw4 _) hgrow (fun g hg => owns_ge hown4 hg)
    have hcu5 : CurAt w5 c a len cap := (hcu4.below ((Below.refl _ _).alloc (Nat.le_refl _) _) hcl4).grown hgrow (fun e => by have := owns_ge hown4 e; omega)
    clear hgrow hown4 hcu4 hgw4 HBS
    go_wp2
    go_ret
    exact ⟨_, (fs ++ [(nm, vl)]) ++ [(nm2, vl2)], rfl, by rw [flatF_append, flatF_append, flatF_one, flatF_one]; simpa using hown5, by simp; omega, (HSH.out.snoc hnm hvl).snoc hnm2 hvl2, hcu5, hgw5⟩
  by_cases h1 : x = 1
  · subst h1
    go_wp2_with fail
    refine (pick_new c B [⟨#[]⟩, ⟨#[65]⟩, ⟨#[99, 111, 110, 116, 101, 110, 116, 45, 108, 101, 110, 103, 116, 104]⟩] 64 (by decide) a len cap zs w2 hcu2 (hcode.grown hgw2 hB) hB (by decide) (by decide)).mono ?_
    rintro e w3 ⟨nm, rfl, hnm, hcu3, hg3⟩
    have hown3 := owns_grown hown2 hg3 hcw
    have hgw3 := grownBy_trans hgw2 hg3
    clear hcu2 hown2 hg3 hgw2
    go_wp2_with fail
    refine (pick_new c B [⟨#[]⟩, ⟨#[32, 97]⟩, ⟨#[49]⟩] 64 (by decide) a len cap zs w3 hcu3 (hcode.grown hgw3 hB) hB (by decide) (by decide)).mono ?_
    rintro e w4 ⟨vl, rfl, hvl, hcu4, hg4⟩
    have hown4 := owns_grown hown3 hg4 hcw
    have hgw4 := grownBy_trans hgw3 hg4
    clear hcu3 hown3 hg4 hgw3
    have h63 : fs.length + 1 ≤ maxLen := by unfold maxLen; omega
    have h47 : (fs.length + 1) * 32 ≤ 140737488355328 := by omega
    have hsw4 := hgw4.size
    have hcl4 := hcu4.lt
    have HBS : ∀ o, w.heap.size ≤ (w4.alloc o).heap.size := fun o => by simp; omega
    go_wp2_with (at_builtin; refine wpList_append_own _ rfl _ _ 25 rfl w.heap.size 131 i0 (.agg #[.string ⟨#[]⟩, .string ⟨#[]⟩]) 2 32 Tryz.underlying25 hi hz0 hz1 hz2 rfl (by decide) _ _ _ rfl (hown4.alloc _) ⟨w4.heap.size, 0, none⟩ 1 1 [.string nm, .string vl] rfl rfl (cell_two_new _ _ _ _) (two_text _ _) h63 h47 (HBS _) ?_)
    intro v1 w5 hown5 hgrow _
    have hgw5 : w.grownBy w5 (some c) := grown_later (grownBy_allocR hgw4 _) hgrow (fun g hg => owns_ge hown4 hg)
    have hcu5 : CurAt w5 c a len cap := (hcu4.below ((Below.refl _ _).alloc (Nat.le_refl _) _) hcl4).grown hgrow (fun e => by have := owns_ge hown4 e; omega)
    clear hgrow hown4 hcu4 hgw4 HBS
    go_wp2
    go_ret
    exact ⟨_, fs ++ [(nm, vl)], rfl, by rw [flatF_append, flatF_one]; simpa using hown5, by simp; omega, HSH.out.snoc hnm hvl, hcu5, hgw5⟩
  by_cases h2 : x = 2
  · subst h2
    clear h0 h1
    go_wp2
    obtain ⟨oa, cp, rfl⟩ := owns_slice hown2
    go_loopw [3] (fun v wr => ∃ (oa : Option Addr) (cp : Nat) (fs : List (ByteArray × ByteArray)), v = .slice oa fs.length cp ∧ wr.ownsRow w.heap.size 131 2 (.slice oa fs.length cp) fs.length (flatF fs) ∧ fs.length ≤ 9 ∧ Hid (ShortF fs) ∧ CurAt wr c a len cap ∧ w.grownBy wr (some c)) (fun v _ => 9 - lenOf v)
    case atStart => exact ⟨oa, cp, fs, rfl, hown2, by omega, HSH, hcu2, hgw2⟩
    case round =>
      obtain ⟨oa, cp, fs, rfl, hown, hfl, hsh, hcu, hgw⟩ := hrel
      go_wp2_with fail
      refine (l1Below_any c B 2 a len cap zs _ hcu (hcode.grown hgw hB) hB (by omega) (by omega)).mono ?_
      rintro e w3 ⟨x, rfl, hx0, hx1, hcu3, hg3⟩
      have hown3 := owns_grown hown hg3 hcw
      have hgw3 := grownBy_trans hgw hg3
      clear hcu hown hg3 hgw
      by_cases hlt : (fs.length : Int) < 8 + x
      · go_wp2_with fail
        refine (specNumText_any fs.length _ (by omega)).mono ?_
        rintro e w4 ⟨rfl, hb4⟩
        obtain ⟨nt, hnt⟩ : ∃ nt, nt = numText fs.length := ⟨_, rfl⟩
        have hns : nt.size ≤ 20 := by rw [hnt]; exact numText_short _ (by omega)
        rw [← hnt]
        clear hnt
        have hown4 := owns_below hown3 hb4 (fun g hg => owns_lt hown3 hg)
        have hgw4 : w.grownBy w4 (some c) := grown_later hgw3 (grown_of_below hb4) (fun g e => by cases e)
        have hcu4 := hcu3.below hb4 hcu3.lt
        clear hown3 hgw3 hcu3 hb4
        obtain ⟨nm, hnm⟩ : ∃ nm, nm = (⟨#[110]⟩ : ByteArray) ++ nt := ⟨_, rfl⟩
        have hnz : nm.size ≤ 64 := by rw [hnm, ByteArray.size_append]; show 1 + nt.size ≤ 64; omega
        have hbig : ¬ 9223372036854775807 < 1 + nt.size := by omega
        have h63 : fs.length + 1 ≤ maxLen := by unfold maxLen; omega
        have h47 : (fs.length + 1) * 32 ≤ 140737488355328 := by omega
        have hsw4 := hgw4.size
        have hcl4 := hcu4.lt
        have HBS : ∀ o, w.heap.size ≤ (w4.alloc o).heap.size := fun o => by simp; omega
        have HNM : Hid (nm = (⟨#[110]⟩ : ByteArray) ++ nt) := hnm
        clear hnm
        go_wp2_with (at_builtin; rw [← HNM.out]; refine wpList_append_own _ rfl _ _ 25 rfl w.heap.size 131 i0 (.agg #[.string ⟨#[]⟩, .string ⟨#[]⟩]) 2 32 Tryz.underlying25 hi hz0 hz1 hz2 rfl (by decide) _ _ _ rfl (hown4.alloc _) ⟨w4.heap.size, 0, none⟩ 1 1 [.string nm, .string ⟨#[118]⟩] rfl rfl (cell_two_new _ _ _ _) (two_text _ _) h63 h47 (HBS _) ?_)
        intro v1 w5 hown5 hgrow _
        have hgw5 : w.grownBy w5 (some c) := grown_later (grownBy_allocR hgw4 _) hgrow (fun g hg => owns_ge hown4 hg)
        have hcu5 : CurAt w5 c a len cap := (hcu4.below ((Below.refl _ _).alloc (Nat.le_refl _) _) hcl4).grown hgrow (fun e => by have := owns_ge hown4 e; omega)
        clear hgrow hown4 hcu4 hgw4 HBS
        obtain ⟨oa1, cp1, rfl⟩ := owns_slice hown5
        go_wp2
        go_roundw
        case rel => exact ⟨oa1, cp1, fs ++ [(nm, ⟨#[118]⟩)], by simp, by rw [flatF_append, flatF_one]; simpa using hown5, by simp; omega, hsh.out.snoc hnz (by decide), hcu5, hgw5⟩
        case measure => simp [lenOf]; omega
      · go_wp2
        go_ret
        exact ⟨_, fs, rfl, hown3, by omega, hsh.out, hcu3, hgw3⟩
  · have e0 : (x == 0) = false := by simpa using h0
    have e1 : (x == 1) = false := by simpa using h1
    have e2 : (x == 2) = false := by simpa using h2
    clear h0 h1 h2
    go_wp2
    go_ret
    exact ⟨_, fs, rfl, hown2, by omega, HSH.out, hcu2, hgw2⟩

end Go.Proofs.YtdlhicdfldecgaaGreatDoor

namespace Go.Proofs.YtdlhicdfldecgaaGreatDoor
open Go.RowKit
open Go.Lib hiding intOf

def bodyL : List ByteArray := [⟨#[]⟩, ⟨#[104, 101, 108, 108, 111]⟩, ⟨#[13, 10, 13, 10]⟩, ⟨#[97, 0, 98]⟩, ⟨#[111, 110, 101, 32, 116, 119, 111]⟩]
set_option maxHeartbeats 1000000 in
set_option maxRecDepth 100000 in
theorem l3DrawBody_any (c B : Nat) (a : Option Addr) (len cap : Nat) (zs : List Int) (w : World) (hcur : CurAt w c a len cap) (hcode : CodeAt w B a len zs) (hB : B ≤ c) :
    Calls Tryz.prog 107 #[.pointer (some ⟨c, 0, none⟩)] w fun e w' => TextDrawn 14 w c a len cap e w' := by
  go_enter Tryz.func107, Tryz.ntmps107
  go_wp2_with fail
  refine (l1Once_any c B 2 a len cap zs _ hcur hcode hB (by omega) (by omega)).mono ?_
  rintro e w1 ⟨⟨b, rfl⟩, hcu1, hg1⟩
  have hco1 := hcode.grown hg1 hB
  clear hcur hcode
  cases b
  · go_wp2_with fail
    refine (l1DrawText_any c B a len cap zs _ hcu1 hco1 hB).mono ?_
    rintro e w2 ⟨t, rfl, ht, hcu2, hg2⟩
    have hg3 := grownBy_trans hg1 hg2
    clear hg1 hg2 hcu1 hco1
    go_wp2
    go_ret
    exact ⟨t, rfl, ht, hcu2, hg3⟩
  · go_wp2_with fail
    refine (pick_new c B bodyL 14 (by decide) a len cap zs w1 hcu1 hco1 hB (by decide) (by decide)).mono ?_
    rintro e w2 ⟨t, rfl, ht, hcu2, hg2⟩
    have hg3 := grownBy_trans hg1 hg2
    clear hg1 hg2 hcu1 hco1
    go_wp2
    go_ret
    exact ⟨t, rfl, ht, hcu2, hg3⟩

theorem ints_at (w : World) (xs : List Int) (j : Nat) (hj : j < xs.length) : (w.alloc (.cells (xs.map (Value.int .i64)).toArray 3)).cell? ⟨w.heap.size, j, none⟩ = some (.int .i64 (xs.getD j 0)) := by
  rw [World.cell?_alloc_new]
  simp [List.getD_eq_getElem?_getD, hj]
set_option maxHeartbeats 1000000 in
theorem pickInt_new (c B : Nat) (xs : List Int) (lo hi : Int) (hm : ∀ j, j < xs.length → lo ≤ xs.getD j 0 ∧ xs.getD j 0 ≤ hi) (a : Option Addr) (len cap : Nat) (zs : List Int) (w : World) (hcur : CurAt w c a len cap) (hcode : CodeAt w B a len zs) (hB : B ≤ c) (hn : 1 ≤ xs.length) (hn2 : xs.length ≤ 256) :
    Calls Tryz.prog 105 #[.pointer (some ⟨c, 0, none⟩), .slice (some ⟨w.heap.size, 0, none⟩) xs.length xs.length] (w.alloc (.cells (xs.map (Value.int .i64)).toArray 3)) fun e w' => ∃ n : Int, e = .returned (.int .i64 n) ∧ lo ≤ n ∧ n ≤ hi ∧ CurAt w' c a len cap ∧ w.grownBy w' (some c) := by
  have hc := hcur.lt
  have HL : Hid (∀ j, j < xs.length → (w.alloc (.cells (xs.map (Value.int .i64)).toArray 3)).cell? ⟨w.heap.size, j, none⟩ = some (.int .i64 (xs.getD j 0))) := ints_at w xs
  have HM : Hid (∀ j, j < xs.length → lo ≤ xs.getD j 0 ∧ xs.getD j 0 ≤ hi) := hm
  have hcu0 := hcur.below ((Below.refl _ w).alloc (Nat.le_refl _) (.cells (xs.map (Value.int .i64)).toArray 3)) hc
  have hg0 : w.grownBy (w.alloc (.cells (xs.map (Value.int .i64)).toArray 3)) (some c) := World.grownBy_alloc w _ _
  have hco0 := hcode.grown hg0 hB
  clear hm hcur hcode
  obtain ⟨w0, hw0⟩ : ∃ W, W = w.alloc (.cells (xs.map (Value.int .i64)).toArray 3) := ⟨_, rfl⟩
  rw [← hw0] at HL hcu0 hg0 hco0 ⊢
  obtain ⟨n, hnn⟩ : ∃ n, n = xs.length := ⟨_, rfl⟩
  rw [← hnn] at HL HM hn hn2 ⊢
  obtain ⟨g, hg⟩ : ∃ g, g = w.heap.size := ⟨_, rfl⟩
  have hgc : g ≠ c := by omega
  rw [← hg] at HL ⊢
  clear hw0 hnn hg
  go_enter Tryz.func105, Tryz.ntmps105
  go_wp2_with fail
  refine (l1Below_any c B n a len cap zs _ hcu0 hco0 hB (by omega) (by omega)).mono ?_
  rintro e w1 ⟨x, rfl, hx0, hx1, hcur1, hg1⟩
  obtain ⟨j, rfl⟩ := Int.eq_ofNat_of_zero_le hx0
  have hj : j < n := by omega
  have hcell : w1.cell? ⟨g, j, none⟩ = some (.int .i64 (xs.getD j 0)) := grown_cell hg1 (HL.out j hj) hgc
  have hjr := HM.out j hj
  have hg2 := grownBy_trans hg0 hg1
  clear hg0 hg1 hcu0 hco0
  go_wp2
  go_ret
  exact ⟨_, rfl, hjr.1, hjr.2, hcur1, hg2⟩

/-- A call on the cursor answers a request of short texts, in memory of its own, and turns the cursor alone of what was there. -/
def ReqDrawn (bmax : Nat) (w : World) (c : Nat) (a : Option Addr) (len cap : Nat) (e : Ending) (w' : World) : Prop :=
  ∃ (m : Int) (p : ByteArray) (v : Value) (fs : List (ByteArray × ByteArray)) (b : ByteArray), e = .returned (.agg #[.int .i64 m, .string p, v, .string b]) ∧ (-1000 ≤ m ∧ m ≤ 1000) ∧ p.size ≤ 64 ∧ w'.ownsRow w.heap.size 131 2 v fs.length (flatF fs) ∧ fs.length ≤ 40 ∧ ShortF fs ∧ b.size ≤ bmax ∧ CurAt w' c a len cap ∧ w.grownBy w' (some c)

theorem kind_list : (⟨#[107, 105, 110, 100]⟩ : ByteArray).toList = [107, 105, 110, 100] := by rw [ByteArray.toList_eq]
theorem cacheC_list : (⟨#[99, 97, 99, 104, 101, 45, 99, 111, 110, 116, 114, 111, 108]⟩ : ByteArray).toList = [99, 97, 99, 104, 101, 45, 99, 111, 110, 116, 114, 111, 108] := by rw [ByteArray.toList_eq]
theorem ifNone_list : (⟨#[105, 102, 45, 110, 111, 110, 101, 45, 109, 97, 116, 99, 104]⟩ : ByteArray).toList = [105, 102, 45, 110, 111, 110, 101, 45, 109, 97, 116, 99, 104] := by rw [ByteArray.toList_eq]
/-- A request that is being drawn: its memory, its fields, the cursor. -/
structure DReq (w : World) (c R r : Nat) (m : Int) (p : ByteArray) (fv : Value) (fs : List (ByteArray × ByteArray)) (b : ByteArray) (a : Option Addr) (len cap : Nat) (W : World) : Prop where
  hR : W.heap[R]? = some (.cells #[.int .i64 0, .string ⟨#[]⟩, .slice none 0 0, .string ⟨#[]⟩] 39)
  hr : W.heap[r]? = some (.cells #[.int .i64 m, .string p, fv, .string b] 39)
  own : W.ownsRow w.heap.size 131 2 fv fs.length (flatF fs)
  cur : CurAt W c a len cap
  grow : w.grownBy W (some c)
  apart : ∀ j, fv.ownBlock = some j → j ≠ R ∧ j ≠ r
theorem DReq.later {w : World} {c R r : Nat} {m : Int} {p : ByteArray} {fv : Value} {fs : List (ByteArray × ByteArray)} {b : ByteArray} {a : Option Addr} {len cap : Nat} {W W' : World} (h : DReq w c R r m p fv fs b a len cap W) (hcw : c < w.heap.size) (hRw : w.heap.size ≤ R) (hrw : w.heap.size ≤ r) (hcu : CurAt W' c a len cap) (hg : W.grownBy W' (some c)) : DReq w c R r m p fv fs b a len cap W' := by
  refine ⟨?_, ?_, ?_, hcu, grownBy_trans h.grow hg, h.apart⟩
  · rw [hg.block R ((Array.getElem?_eq_some_iff.1 h.hR).1) (fun e => by have := Option.some.inj e; omega)]; exact h.hR
  · rw [hg.block r ((Array.getElem?_eq_some_iff.1 h.hr).1) (fun e => by have := Option.some.inj e; omega)]; exact h.hr
  · exact h.own.kept hg (by cases h2 : fv.ownBlock <;> simp; exact fun e => by have h7 := owns_ge h.own h2; omega)

theorem owns_heap {w : World} {base : Nat} {t : TypeId} {size : Nat} {v : Value} {n : Nat} {xs : List Value} {j : Nat} (h : w.ownsRow base t size v n xs) (hj : v.ownBlock = some j) : ∃ cur, w.heap[j]? = some (.cells cur t (0, 0)) := by
  rcases h.2 with ⟨rfl, rfl⟩ | ⟨g, cap, cur, rfl, _, h1, _⟩
  · cases hj
  · cases hj; exact ⟨cur, h1⟩
/-- One field more. -/
theorem DReq.more {w : World} {c R r : Nat} {m : Int} {p : ByteArray} {fv : Value} {fs : List (ByteArray × ByteArray)} {b f v : ByteArray} {a : Option Addr} {len cap : Nat} {W W5 : World} {o : Obj} {v1 : Value} (h : DReq w c R r m p fv fs b a len cap W) (hcw : c < w.heap.size) (hRw : w.heap.size ≤ R) (hrw : w.heap.size ≤ r) (hrR : R ≠ r) (hg : (W.alloc o).grownBy W5 fv.ownBlock) (hown : W5.ownsRow w.heap.size 131 2 v1 (fs.length + 1) (flatF fs ++ [.string f, .string v])) :
    (W5.heap[r]? = some (.cells #[.int .i64 m, .string p, fv, .string b] 39)) ∧ DReq w c R r m p v1 (fs ++ [(f, v)]) b a len cap (W5.setCell ⟨r, 2, none⟩ v1) := by
  have hs : (W.alloc o).heap.size = W.heap.size + 1 := by simp
  have hRl := (Array.getElem?_eq_some_iff.1 h.hR).1
  have hrl := (Array.getElem?_eq_some_iff.1 h.hr).1
  have hcl := h.cur.lt
  have hR5 : W5.heap[R]? = some (.cells #[.int .i64 0, .string ⟨#[]⟩, .slice none 0 0, .string ⟨#[]⟩] 39) := by
    rw [hg.block R (by omega) (fun e => (h.apart R e.symm).1 rfl), heap_alloc_old _ _ hRl]; exact h.hR
  have hr5 : W5.heap[r]? = some (.cells #[.int .i64 m, .string p, fv, .string b] 39) := by
    rw [hg.block r (by omega) (fun e => (h.apart r e.symm).2 rfl), heap_alloc_old _ _ hrl]; exact h.hr
  have hap : ∀ j, v1.ownBlock = some j → j ≠ R ∧ j ≠ r := fun j hj => by
    obtain ⟨cur, hcj⟩ := owns_heap hown hj
    refine ⟨fun e => ?_, fun e => ?_⟩
    · rw [e, hR5] at hcj
      simp at hcj
    · rw [e, hr5] at hcj
      simp at hcj
  have hg5 : w.grownBy W5 (some c) := by
    have h1 := grownBy_trans h.grow (World.grownBy_alloc W o (some c))
    refine ⟨hg.os.trans h1.os, hg.tape.trans h1.tape, hg.output.trans h1.output, Nat.le_trans h1.size hg.size, fun i hi hne => ?_⟩
    rw [hg.block i (by have := h1.size; omega) (fun e => by have := owns_ge h.own e.symm; omega)]
    exact h1.block i hi hne
  refine ⟨hr5, ?_, ?_, ?_, ?_, grown_later hg5 (grown_set W5 r 2 v1) (fun g e => by cases e; exact hrw), hap⟩
  · rw [heap_setCell_other _ _ R _ (fun e => hrR e)]; exact hR5
  · have := heap_set W5 r 2 _ _ _ v1 hr5
    simpa using this
  · have h2 : (W5.setCell ⟨r, 2, none⟩ v1).ownsRow w.heap.size 131 2 v1 (fs.length + 1) (flatF fs ++ [.string f, .string v]) := hown.kept (grown_set W5 r 2 v1) (by cases h3 : v1.ownBlock <;> simp; exact (hap _ h3).2)
    rw [flatF_append, flatF_one]; simpa using h2
  · obtain ⟨i, hh, hi, h4⟩ := h.cur
    refine ⟨i, hh, hi, ?_⟩
    rw [heap_setCell_other _ _ c _ (fun e => by have e2 : c = r := e; omega), hg.block c (by omega) (fun e => by have := owns_ge h.own e.symm; omega), heap_alloc_old _ _ hcl]
    exact h4

/-- The body set. -/
theorem DReq.setBody {w : World} {c R r : Nat} {m : Int} {p : ByteArray} {fv : Value} {fs : List (ByteArray × ByteArray)} {b : ByteArray} {a : Option Addr} {len cap : Nat} {W : World} (h : DReq w c R r m p fv fs b a len cap W) (hcw : c < w.heap.size) (hrw : w.heap.size ≤ r) (hrR : R ≠ r) (b' : ByteArray) : DReq w c R r m p fv fs b' a len cap (W.setCell ⟨r, 3, none⟩ (.string b')) := by
  refine ⟨?_, ?_, ?_, ?_, grown_later h.grow (grown_set W r 3 _) (fun g e => by cases e; exact hrw), h.apart⟩
  · rw [heap_setCell_other _ _ R _ (fun e => hrR e)]; exact h.hR
  · have := heap_set W r 3 _ _ _ (.string b') h.hr
    simpa using this
  · exact h.own.kept (grown_set W r 3 _) (by cases h3 : fv.ownBlock <;> simp; exact (h.apart _ h3).2)
  · obtain ⟨i, hh, hi, h4⟩ := h.cur
    refine ⟨i, hh, hi, ?_⟩
    rw [heap_setCell_other _ _ c _ (fun e => by have e2 : c = r := e; omega)]
    exact h4
/-- The request handed back. -/
theorem DReq.fin {w : World} {c R r : Nat} {m : Int} {p : ByteArray} {fv : Value} {fs : List (ByteArray × ByteArray)} {b : ByteArray} {a : Option Addr} {len cap : Nat} {W : World} (h : DReq w c R r m p fv fs b a len cap W) (hcw : c < w.heap.size) (hRw : w.heap.size ≤ R) (hm : -1000 ≤ m ∧ m ≤ 1000) (hp : p.size ≤ 64) (hf : fs.length ≤ 40) (hsh : ShortF fs) {bmax : Nat} (hb : b.size ≤ bmax) :
    (fourSet W R (.int .i64 m) (.string p) fv (.string b)).heap[R]? = some (.cells #[.int .i64 m, .string p, fv, .string b] 39) ∧ ReqDrawn bmax w c a len cap (.returned (.agg #[.int .i64 m, .string p, fv, .string b])) (fourSet W R (.int .i64 m) (.string p) fv (.string b)) := by
  have hg : W.grownBy (fourSet W R (.int .i64 m) (.string p) fv (.string b)) (some R) := by
    unfold fourSet
    exact grown_then (grown_then (grown_then (grown_set _ _ _ _) (grown_set _ _ _ _)) (grown_set _ _ _ _)) (grown_set _ _ _ _)
  refine ⟨four_set h.hR _ _ _ _, m, p, fv, fs, b, rfl, hm, hp, ?_, hf, hsh, hb, ?_, grown_later h.grow hg (fun g e => by cases e; exact hRw)⟩
  · exact h.own.kept hg (by cases h3 : fv.ownBlock <;> simp; exact (h.apart _ h3).1)
  · obtain ⟨i, hh, hi, h4⟩ := h.cur
    refine ⟨i, hh, hi, ?_⟩
    rw [hg.block c (Array.getElem?_eq_some_iff.1 h4).1 (fun e => by have := Option.some.inj e; omega)]
    exact h4

set_option maxHeartbeats 1000000 in
set_option maxRecDepth 100000 in
theorem l3DrawReq_any (c B : Nat) (a : Option Addr) (len cap : Nat) (zs : List Int) (w : World) (hcur : CurAt w c a len cap) (hcode : CodeAt w B a len zs) (hB : B ≤ c) :
    Calls Tryz.prog 50 #[.pointer (some ⟨c, 0, none⟩)] w fun e w' => ReqDrawn 14 w c a len cap e w' := by
  obtain ⟨i0, hi, hz0, hz1, hz2⟩ := info_parts info33
  have hcw := hcur.lt
  have HCO : Hid (∀ W, w.grownBy W (some c) → CodeAt W B a len zs) := fun W h => hcode.grown h hB
  obtain ⟨R, hR⟩ : ∃ R, R = w.heap.size := ⟨_, rfl⟩
  have hg0 : w.grownBy (w.alloc (.cells #[.int .i64 0, .string ⟨#[]⟩, .slice none 0 0, .string ⟨#[]⟩] 39)) (some c) := World.grownBy_alloc w _ _
  have hcu0 := hcur.below ((Below.refl _ w).alloc (Nat.le_refl _) (.cells #[.int .i64 0, .string ⟨#[]⟩, .slice none 0 0, .string ⟨#[]⟩] 39)) hcw
  have hco0 := HCO.out _ hg0
  have hz0' : (w.alloc (.cells #[.int .i64 0, .string ⟨#[]⟩, .slice none 0 0, .string ⟨#[]⟩] 39)).heap[R]? = some (.cells #[.int .i64 0, .string ⟨#[]⟩, .slice none 0 0, .string ⟨#[]⟩] 39) := by rw [hR]; exact heap_alloc_new w _
  have hRlt : R < (w.alloc (.cells #[.int .i64 0, .string ⟨#[]⟩, .slice none 0 0, .string ⟨#[]⟩] 39)).heap.size := by rw [hR]; simp
  have hRc : R ≠ c := by omega
  have hRw : w.heap.size ≤ R := by omega
  have HRE : Hid (R = w.heap.size) := hR
  obtain ⟨w0, hw0⟩ : ∃ W, W = w.alloc (.cells #[.int .i64 0, .string ⟨#[]⟩, .slice none 0 0, .string ⟨#[]⟩] 39) := ⟨_, rfl⟩
  have HS0 : Hid (w0.heap.size = w.heap.size + 1) := by show _ = _; rw [hw0]; simp
  have HW0 : Hid (w0 = w.alloc (.cells #[.int .i64 0, .string ⟨#[]⟩, .slice none 0 0, .string ⟨#[]⟩] 39)) := hw0
  rw [← hw0] at hg0 hcu0 hco0 hz0' hRlt
  clear hcur hcode hR hw0
  go_enter Tryz.func50, Tryz.ntmps50
  go_wp2_with fail
  rw [← HW0.out, ← HS0.out]
  refine (pickInt_new c B [1, 1, 1, 1, 2, 3, 4] 1 4 (by decide) a len cap zs w0 hcu0 hco0 hB (by decide) (by decide)).mono ?_
  rintro e w1 ⟨m, rfl, hm1, hm2, hcu1, hg1⟩
  have hga1 := grownBy_trans hg0 hg1
  have hz1' : w1.heap[R]? = some (.cells #[.int .i64 0, .string ⟨#[]⟩, .slice none 0 0, .string ⟨#[]⟩] 39) := by rw [hg1.block R hRlt (fun e => hRc (Option.some.inj e))]; exact hz0'
  have hR1 : R < w1.heap.size := (Array.getElem?_eq_some_iff.1 hz1').1
  clear hg0 hg1 hcu0 hco0 hz0' hRlt
  go_wp2_with fail
  refine (pick_new c B [⟨#[47]⟩, ⟨#[47, 97]⟩, ⟨#[47, 97, 47, 98]⟩, ⟨#[47, 98]⟩] 64 (by decide) a len cap zs w1 hcu1 (HCO.out _ hga1) hB (by decide) (by decide)).mono ?_
  rintro e w2 ⟨p, rfl, hp, hcu2, hg2⟩
  have hga2 := grownBy_trans hga1 hg2
  have hz2' : w2.heap[R]? = some (.cells #[.int .i64 0, .string ⟨#[]⟩, .slice none 0 0, .string ⟨#[]⟩] 39) := by rw [hg2.block R hR1 (fun e => hRc (Option.some.inj e))]; exact hz1'
  have hR2 : R < w2.heap.size := (Array.getElem?_eq_some_iff.1 hz2').1
  rw [← HRE.out]
  clear hg2 hga1 hcu1 hz1' hR1
  obtain ⟨r, hr⟩ : ∃ r, r = w2.heap.size := ⟨_, rfl⟩
  have hrw : w.heap.size ≤ r := by rw [hr]; exact hga2.size
  have hrR : R ≠ r := by omega
  have HD0 : Hid (DReq w c R r m p (.slice none 0 0) [] ⟨#[]⟩ a len cap (w2.alloc (.cells #[.int .i64 m, .string p, .slice none 0 0, .string ⟨#[]⟩] 39))) := by
    have hgal : w2.grownBy (w2.alloc (.cells #[.int .i64 m, .string p, .slice none 0 0, .string ⟨#[]⟩] 39)) (some c) := World.grownBy_alloc w2 _ _
    refine ⟨?_, by rw [hr]; exact heap_alloc_new w2 _, ⟨rfl, .inl ⟨rfl, rfl⟩⟩, hcu2.below ((Below.refl _ w2).alloc (Nat.le_refl _) _) hcu2.lt, grownBy_trans hga2 hgal, fun j h => by cases h⟩
    rw [hgal.block R hR2 (fun e => hRc (Option.some.inj e))]; exact hz2'
  have HR' : Hid (r = w2.heap.size) := hr
  clear hr hz2' hR2 hcu2 hga2
  go_wp2_with fail
  rw [← HR'.out]
  go_loopw [4] (fun i wr => ∃ (k : Nat) (fs : List (ByteArray × ByteArray)) (fv : Value), k ≤ 4 ∧ fs.length ≤ k ∧ i = .int .i64 (k : Int) ∧ Hid (ShortF fs) ∧ Hid (DReq w c R r m p fv fs ⟨#[]⟩ a len cap wr)) (fun i _ => 4 - (intOf i).toNat)
  case atStart => exact ⟨0, [], _, by omega, Nat.le_refl _, rfl, (fun f hf => by cases hf), HD0⟩
  case round =>
    obtain ⟨k, fs, fv, hk, hfl, rfl, hsh, hd⟩ := hrel
    obtain ⟨fo, fc, rfl⟩ := slice_of_owns hd.out.own
    go_wp2_with fail
    refine (l1Below_any c B 4 a len cap zs _ hd.out.cur (HCO.out _ hd.out.grow) hB (by omega) (by omega)).mono ?_
    rintro e wa ⟨x, rfl, hx0, hx1, hcua, hgaa⟩
    have hda : Hid (DReq w c R r m p (.slice fo fs.length fc) fs ⟨#[]⟩ a len cap wa) := hd.out.later hcw hRw hrw hcua hgaa
    clear hcua hgaa hd
    by_cases hkx : (k : Int) < x
    · go_wp2_with fail
      refine (pick_new c B [⟨#[108, 97, 110, 103]⟩, ⟨#[107, 105, 110, 100]⟩, ⟨#[99, 97, 99, 104, 101, 45, 99, 111, 110, 116, 114, 111, 108]⟩, ⟨#[105, 102, 45, 110, 111, 110, 101, 45, 109, 97, 116, 99, 104]⟩, ⟨#[120, 45, 97]⟩] 64 (by decide) a len cap zs wa hda.out.cur (HCO.out _ hda.out.grow) hB (by decide) (by decide)).mono ?_
      rintro e wb ⟨f, rfl, hf, hcub, hgb⟩
      have hdb : Hid (DReq w c R r m p (.slice fo fs.length fc) fs ⟨#[]⟩ a len cap wb) := hda.out.later hcw hRw hrw hcub hgb
      obtain ⟨⟨c0, c1, c2, c3⟩, f0, f1, f2, f3⟩ := four_facts hdb.out.hr
      clear hcub hgb hda
      go_wp2_with fail
      refine (l2At_any _ fs.length _ fs f _ (FieldsV.of_owns hdb.out.own) (by omega)).mono ?_
      rintro e wc ⟨rfl, rfl⟩
      by_cases hat : atI fs f < 0
      · skip
        go_wp2_with fail
        refine (pick_new c B [⟨#[100, 101]⟩, ⟨#[101, 110]⟩] 64 (by decide) a len cap zs wc hdb.out.cur (HCO.out _ hdb.out.grow) hB (by decide) (by decide)).mono ?_
        rintro e wd ⟨v, rfl, hv, hcud, hgd⟩
        have hdd : Hid (DReq w c R r m p (.slice fo fs.length fc) fs ⟨#[]⟩ a len cap wd) := hdb.out.later hcw hRw hrw hcud hgd
        clear hcud hgd
        clear c0 c1 c2 c3 f0 f1 f2 f3
        by_cases e1 : f = ⟨#[107, 105, 110, 100]⟩
        · have ht := (text_beq _ _).2 e1
          rw [kind_list] at ht
          clear e1
          go_wp2_with fail
          refine (pick_new c B [⟨#[120]⟩, ⟨#[121]⟩] 64 (by decide) a len cap zs wd hdd.out.cur (HCO.out _ hdd.out.grow) hB (by decide) (by decide)).mono ?_
          rintro e we ⟨v2, rfl, hv2, hcue, hge⟩
          have hde : Hid (DReq w c R r m p (.slice fo fs.length fc) fs ⟨#[]⟩ a len cap we) := hdd.out.later hcw hRw hrw hcue hge
          clear hcue hge
          have h63 : fs.length + 1 ≤ maxLen := by unfold maxLen; omega
          have h47 : (fs.length + 1) * 32 ≤ 140737488355328 := by omega
          have HBS : ∀ o, w.heap.size ≤ (we.alloc o).heap.size := fun o => by have := hde.out.grow.size; simp; omega
          obtain ⟨⟨c0, c1, c2, c3⟩, f0, f1, f2, f3⟩ := four_facts hde.out.hr
          go_wp2_with (at_builtin; refine wpList_append_own _ rfl _ _ 25 rfl w.heap.size 131 i0 (.agg #[.string ⟨#[]⟩, .string ⟨#[]⟩]) 2 32 Tryz.underlying25 hi hz0 hz1 hz2 rfl (by decide) _ _ _ rfl (hde.out.own.alloc _) ⟨we.heap.size, 0, none⟩ 1 1 [.string f, .string v2] rfl rfl (cell_two_new _ _ _ _) (two_text _ _) h63 h47 (HBS _) ?_)
          intro v1 w5 hown5 hgrow _
          obtain ⟨fo1, fc1, rfl⟩ := slice_of_owns hown5
          obtain ⟨hr5, hd5⟩ := hde.out.more hcw hRw hrw hrR hgrow hown5
          have HD5 : Hid (DReq w c R r m p (.slice fo1 (fs.length + 1) fc1) (fs ++ [(f, v2)]) ⟨#[]⟩ a len cap (w5.setCell ⟨r, 2, none⟩ (.slice fo1 (fs.length + 1) fc1))) := hd5
          have HSH : Hid (ShortF (fs ++ [(f, v2)])) := hsh.out.snoc hf hv2
          clear c0 c1 c2 c3 f0 f1 f2 f3
          obtain ⟨⟨c0, c1, c2, c3⟩, f0, f1, f2, f3⟩ := four_facts hr5
          clear hr5 hd5 hgrow hown5 HBS
          go_wp2
          go_roundw
          case rel => exact ⟨k + 1, _, _, by omega, by simp; omega, by go_num, HSH, HD5⟩
          case measure => simp [intOf]; omega
        · have ht := text_beq_no e1
          rw [kind_list] at ht
          by_cases e2 : f = ⟨#[99, 97, 99, 104, 101, 45, 99, 111, 110, 116, 114, 111, 108]⟩
          · have ht2 := (text_beq _ _).2 e2
            rw [cacheC_list] at ht2
            clear e1 e2
            go_wp2_with fail
            refine (pick_new c B [⟨#[110, 111, 45, 99, 97, 99, 104, 101]⟩, ⟨#[110, 111, 45, 115, 116, 111, 114, 101]⟩, ⟨#[109, 97, 120, 45, 97, 103, 101, 61, 51]⟩] 64 (by decide) a len cap zs wd hdd.out.cur (HCO.out _ hdd.out.grow) hB (by decide) (by decide)).mono ?_
            rintro e we ⟨v2, rfl, hv2, hcue, hge⟩
            have hde : Hid (DReq w c R r m p (.slice fo fs.length fc) fs ⟨#[]⟩ a len cap we) := hdd.out.later hcw hRw hrw hcue hge
            clear hcue hge
            have h63 : fs.length + 1 ≤ maxLen := by unfold maxLen; omega
            have h47 : (fs.length + 1) * 32 ≤ 140737488355328 := by omega
            have HBS : ∀ o, w.heap.size ≤ (we.alloc o).heap.size := fun o => by have := hde.out.grow.size; simp; omega
            obtain ⟨⟨c0, c1, c2, c3⟩, f0, f1, f2, f3⟩ := four_facts hde.out.hr
            go_wp2_with (at_builtin; refine wpList_append_own _ rfl _ _ 25 rfl w.heap.size 131 i0 (.agg #[.string ⟨#[]⟩, .string ⟨#[]⟩]) 2 32 Tryz.underlying25 hi hz0 hz1 hz2 rfl (by decide) _ _ _ rfl (hde.out.own.alloc _) ⟨we.heap.size, 0, none⟩ 1 1 [.string f, .string v2] rfl rfl (cell_two_new _ _ _ _) (two_text _ _) h63 h47 (HBS _) ?_)
            intro v1 w5 hown5 hgrow _
            obtain ⟨fo1, fc1, rfl⟩ := slice_of_owns hown5
            obtain ⟨hr5, hd5⟩ := hde.out.more hcw hRw hrw hrR hgrow hown5
            have HD5 : Hid (DReq w c R r m p (.slice fo1 (fs.length + 1) fc1) (fs ++ [(f, v2)]) ⟨#[]⟩ a len cap (w5.setCell ⟨r, 2, none⟩ (.slice fo1 (fs.length + 1) fc1))) := hd5
            have HSH : Hid (ShortF (fs ++ [(f, v2)])) := hsh.out.snoc hf hv2
            clear c0 c1 c2 c3 f0 f1 f2 f3
            obtain ⟨⟨c0, c1, c2, c3⟩, f0, f1, f2, f3⟩ := four_facts hr5
            clear hr5 hd5 hgrow hown5 HBS
            go_wp2
            go_roundw
            case rel => exact ⟨k + 1, _, _, by omega, by simp; omega, by go_num, HSH, HD5⟩
            case measure => simp [intOf]; omega
          · have ht2 := text_beq_no e2
            rw [cacheC_list] at ht2
            by_cases e3 : f = ⟨#[105, 102, 45, 110, 111, 110, 101, 45, 109, 97, 116, 99, 104]⟩
            · have ht3 := (text_beq _ _).2 e3
              rw [ifNone_list] at ht3
              clear e1 e2 e3
              go_wp2_with fail
              refine (pick_new c B [⟨#[97]⟩, ⟨#[98]⟩] 64 (by decide) a len cap zs wd hdd.out.cur (HCO.out _ hdd.out.grow) hB (by decide) (by decide)).mono ?_
              rintro e we ⟨v2, rfl, hv2, hcue, hge⟩
              have hde : Hid (DReq w c R r m p (.slice fo fs.length fc) fs ⟨#[]⟩ a len cap we) := hdd.out.later hcw hRw hrw hcue hge
              clear hcue hge
              have h63 : fs.length + 1 ≤ maxLen := by unfold maxLen; omega
              have h47 : (fs.length + 1) * 32 ≤ 140737488355328 := by omega
              have HBS : ∀ o, w.heap.size ≤ (we.alloc o).heap.size := fun o => by have := hde.out.grow.size; simp; omega
              obtain ⟨⟨c0, c1, c2, c3⟩, f0, f1, f2, f3⟩ := four_facts hde.out.hr
              go_wp2_with (at_builtin; refine wpList_append_own _ rfl _ _ 25 rfl w.heap.size 131 i0 (.agg #[.string ⟨#[]⟩, .string ⟨#[]⟩]) 2 32 Tryz.underlying25 hi hz0 hz1 hz2 rfl (by decide) _ _ _ rfl (hde.out.own.alloc _) ⟨we.heap.size, 0, none⟩ 1 1 [.string f, .string v2] rfl rfl (cell_two_new _ _ _ _) (two_text _ _) h63 h47 (HBS _) ?_)
              intro v1 w5 hown5 hgrow _
              obtain ⟨fo1, fc1, rfl⟩ := slice_of_owns hown5
              obtain ⟨hr5, hd5⟩ := hde.out.more hcw hRw hrw hrR hgrow hown5
              have HD5 : Hid (DReq w c R r m p (.slice fo1 (fs.length + 1) fc1) (fs ++ [(f, v2)]) ⟨#[]⟩ a len cap (w5.setCell ⟨r, 2, none⟩ (.slice fo1 (fs.length + 1) fc1))) := hd5
              have HSH : Hid (ShortF (fs ++ [(f, v2)])) := hsh.out.snoc hf hv2
              clear c0 c1 c2 c3 f0 f1 f2 f3
              obtain ⟨⟨c0, c1, c2, c3⟩, f0, f1, f2, f3⟩ := four_facts hr5
              clear hr5 hd5 hgrow hown5 HBS
              go_wp2
              go_roundw
              case rel => exact ⟨k + 1, _, _, by omega, by simp; omega, by go_num, HSH, HD5⟩
              case measure => simp [intOf]; omega
            · have ht3 := text_beq_no e3
              rw [ifNone_list] at ht3
              clear e1 e2 e3
              have h63 : fs.length + 1 ≤ maxLen := by unfold maxLen; omega
              have h47 : (fs.length + 1) * 32 ≤ 140737488355328 := by omega
              have HBS : ∀ o, w.heap.size ≤ (wd.alloc o).heap.size := fun o => by have := hdd.out.grow.size; simp; omega
              obtain ⟨⟨c0, c1, c2, c3⟩, f0, f1, f2, f3⟩ := four_facts hdd.out.hr
              go_wp2_with (at_builtin; refine wpList_append_own _ rfl _ _ 25 rfl w.heap.size 131 i0 (.agg #[.string ⟨#[]⟩, .string ⟨#[]⟩]) 2 32 Tryz.underlying25 hi hz0 hz1 hz2 rfl (by decide) _ _ _ rfl (hdd.out.own.alloc _) ⟨wd.heap.size, 0, none⟩ 1 1 [.string f, .string v] rfl rfl (cell_two_new _ _ _ _) (two_text _ _) h63 h47 (HBS _) ?_)
              intro v1 w5 hown5 hgrow _
              obtain ⟨fo1, fc1, rfl⟩ := slice_of_owns hown5
              obtain ⟨hr5, hd5⟩ := hdd.out.more hcw hRw hrw hrR hgrow hown5
              have HD5 : Hid (DReq w c R r m p (.slice fo1 (fs.length + 1) fc1) (fs ++ [(f, v)]) ⟨#[]⟩ a len cap (w5.setCell ⟨r, 2, none⟩ (.slice fo1 (fs.length + 1) fc1))) := hd5
              have HSH : Hid (ShortF (fs ++ [(f, v)])) := hsh.out.snoc hf hv
              clear c0 c1 c2 c3 f0 f1 f2 f3
              obtain ⟨⟨c0, c1, c2, c3⟩, f0, f1, f2, f3⟩ := four_facts hr5
              clear hr5 hd5 hgrow hown5 HBS
              go_wp2
              go_roundw
              case rel => exact ⟨k + 1, _, _, by omega, by simp; omega, by go_num, HSH, HD5⟩
              case measure => simp [intOf]; omega
      · go_wp2
        go_roundw
        case rel => exact ⟨k + 1, fs, _, by omega, by omega, by go_num, hsh, hdb⟩
        case measure => simp [intOf]; omega
    · skip
      obtain ⟨⟨c0, c1, c2, c3⟩, f0, f1, f2, f3⟩ := four_facts hda.out.hr
      obtain ⟨⟨d0, d1, d2, d3⟩, g0, g1, g2, g3⟩ := four_facts hda.out.hR
      by_cases hm3 : m = 3
      · have hme : (m == 3) = true := by rw [beq_iff_eq]; exact hm3
        clear hm3
        go_wp2_with fail
        refine (l3DrawBody_any c B a len cap zs _ hda.out.cur (HCO.out _ hda.out.grow) hB).mono ?_
        rintro e wb ⟨b, rfl, hb, hcub, hgb⟩
        have hdb : Hid (DReq w c R r m p (.slice fo fs.length fc) fs ⟨#[]⟩ a len cap wb) := hda.out.later hcw hRw hrw hcub hgb
        clear c0 c1 c2 c3 f0 f1 f2 f3 d0 d1 d2 d3 g0 g1 g2 g3 hcub hgb hda
        obtain ⟨⟨c0, c1, c2, c3⟩, f0, f1, f2, f3⟩ := four_facts hdb.out.hr
        have hdc : Hid (DReq w c R r m p (.slice fo fs.length fc) fs b a len cap (wb.setCell ⟨r, 3, none⟩ (.string b))) := hdb.out.setBody hcw hrw hrR b
        obtain ⟨⟨i0', i1, i2, i3⟩, j0, j1, j2, j3⟩ := four_facts hdc.out.hr
        obtain ⟨⟨d0, d1, d2, d3⟩, g0, g1, g2, g3⟩ := four_facts hdc.out.hR
        obtain ⟨hh, hfin⟩ := hdc.out.fin (bmax := 14) hcw hRw ⟨by omega, by omega⟩ hp (by omega) hsh.out hb
        obtain ⟨⟨k0, k1, k2, k3⟩, _⟩ := four_facts hh
        have HFIN : Hid _ := hfin
        unfold fourSet at k0 k1 k2 k3
        clear hh hfin
        go_wp2_with fail
        exact bodyPost_ret (v := .agg #[.int .i64 m, .string p, .slice fo fs.length fc, .string b]) (by simp [results, Tryz.results50, go_sem, k0, k1, k2, k3]) rfl HFIN.out
      · have hme : (m == 3) = false := by rw [beq_eq_false_iff_ne]; exact hm3
        obtain ⟨hh, hfin⟩ := hda.out.fin (bmax := 14) hcw hRw ⟨by omega, by omega⟩ hp (by omega) hsh.out (by decide)
        obtain ⟨⟨k0, k1, k2, k3⟩, _⟩ := four_facts hh
        have HFIN : Hid _ := hfin
        unfold fourSet at k0 k1 k2 k3
        clear hh hfin
        go_wp2_with fail
        exact bodyPost_ret (v := .agg #[.int .i64 m, .string p, .slice fo fs.length fc, .string ⟨#[]⟩]) (by simp [results, Tryz.results50, go_sem, k0, k1, k2, k3]) rfl HFIN.out

end Go.Proofs.YtdlhicdfldecgaaGreatDoor

namespace Go.Proofs.YtdlhicdfldecgaaGreatDoor
open Go.RowKit
open Go.Lib hiding intOf

theorem DReq.setFields {w : World} {c R r : Nat} {m : Int} {p : ByteArray} {fv : Value} {fs : List (ByteArray × ByteArray)} {b : ByteArray} {a : Option Addr} {len cap : Nat} {W : World} {gv : Value} {gs : List (ByteArray × ByteArray)} (h : DReq w c R r m p fv fs b a len cap W) (hcw : c < w.heap.size) (hrw : w.heap.size ≤ r) (hrR : R ≠ r) (hown : W.ownsRow w.heap.size 131 2 gv gs.length (flatF gs)) : DReq w c R r m p gv gs b a len cap (W.setCell ⟨r, 2, none⟩ gv) := by
  have hap : ∀ j, gv.ownBlock = some j → j ≠ R ∧ j ≠ r := fun j hj => by
    obtain ⟨cur, hcj⟩ := owns_heap hown hj
    refine ⟨fun e => ?_, fun e => ?_⟩
    · rw [e, h.hR] at hcj
      simp at hcj
    · rw [e, h.hr] at hcj
      simp at hcj
  refine ⟨?_, ?_, ?_, ?_, grown_later h.grow (grown_set W r 2 _) (fun g e => by cases e; exact hrw), hap⟩
  · rw [heap_setCell_other _ _ R _ (fun e => hrR e)]; exact h.hR
  · have := heap_set W r 2 _ _ _ gv h.hr
    simpa using this
  · exact hown.kept (grown_set W r 2 _) (by cases h3 : gv.ownBlock <;> simp; exact (hap _ h3).2)
  · obtain ⟨i, hh, hi, h4⟩ := h.cur
    refine ⟨i, hh, hi, ?_⟩
    rw [heap_setCell_other _ _ c _ (fun e => by have e2 : c = r := e; omega)]
    exact h4

end Go.Proofs.YtdlhicdfldecgaaGreatDoor

namespace Go.Proofs.YtdlhicdfldecgaaGreatDoor
open Go.RowKit
open Go.Lib hiding intOf

theorem three_facts {W : World} {R : Nat} {a b c : Value} {t : TypeId} (h : W.heap[R]? = some (.cells #[a, b, c] t)) :
    (W.cell? ⟨R, 0, none⟩ = some a ∧ W.cell? ⟨R, 1, none⟩ = some b ∧ W.cell? ⟨R, 2, none⟩ = some c) ∧ W.frozen? ⟨R, 0, none⟩ = false ∧ W.frozen? ⟨R, 1, none⟩ = false ∧ W.frozen? ⟨R, 2, none⟩ = false := by
  refine ⟨⟨?_, ?_, ?_⟩, ?_, ?_, ?_⟩ <;> simp [World.cell?, World.frozen?, h]
/-- The three cells of an answer's memory, written. -/
def threeSet (w : World) (r : Nat) (a b c : Value) : World := ((w.setCell ⟨r, 0, none⟩ a).setCell ⟨r, 1, none⟩ b).setCell ⟨r, 2, none⟩ c
theorem three_set {W : World} {R : Nat} {a b c : Value} {t : TypeId} (h : W.heap[R]? = some (.cells #[a, b, c] t)) (a' b' c' : Value) : (threeSet W R a' b' c').heap[R]? = some (.cells #[a', b', c'] t) := by
  have := heap_set _ R 2 _ _ _ c' (heap_set _ R 1 _ _ _ b' (heap_set W R 0 _ _ _ a' h))
  simpa [threeSet] using this
theorem below_three {w W : World} {B R : Nat} {a b c : Value} (h : Below B w W) (hR : B ≤ R) : Below B w (threeSet W R a b c) :=
  ((h.setCell (p := ⟨R, 0, none⟩) hR _).setCell (p := ⟨R, 1, none⟩) hR _).setCell (p := ⟨R, 2, none⟩) hR _

end Go.Proofs.YtdlhicdfldecgaaGreatDoor

namespace Go.Proofs.YtdlhicdfldecgaaGreatDoor
open Go.RowKit
open Go.Lib hiding intOf

/-- The text of whatever int: that of a number from 0 to 1000000, else the empty one. -/
def numTextI (n : Int) : ByteArray := if n < 0 then ⟨#[]⟩ else numText n.toNat

theorem decDigits_zero : Lib.decDigits 0 = [48] := by rw [Lib.decDigits, dif_pos (by omega)]; rfl
theorem dg_dec : ∀ (f n : Nat), n < 10 ^ f → n ≠ 0 → dgF f n = Lib.decDigits n := by
  intro f
  induction f with
  | zero => intro n h h0; simp at h; omega
  | succ f ih =>
    intro n h h0
    rw [dgF_pos f n h0]
    rw [Nat.pow_succ] at h
    by_cases hs : n < 10
    · rw [Lib.decDigits, dif_pos hs]
      have e1 : n / 10 = 0 := by omega
      have e2 : n % 10 = n := by omega
      rw [e1, dgF_zero, e2]; rfl
    · rw [Lib.decDigits, dif_neg hs, ih (n / 10) (by omega) (by omega)]
theorem itoa_num (n : Int) (h0 : 0 ≤ n) (h1 : n ≤ 1000000) : (⟨(Lib.itoa n).toArray⟩ : ByteArray) = numTextI n := by
  unfold numTextI
  rw [if_neg (by omega)]
  unfold numText numL Lib.itoa
  rw [if_neg (by omega), if_neg (by omega)]
  by_cases h : n.toNat = 0
  · rw [if_pos h, h, decDigits_zero]
  · rw [if_neg h, dg_dec 8 n.toNat (by omega) h]

/-- The table that strconv.Itoa reads holds what the program's text lays. -/
def TabOk (w : World) : Prop := Lib.TabIs Tryz.prog w "internal/strconv.uint64pow10" .u64 Lib.pow10Tab
theorem gTab : Tryz.prog.globalNamed "internal/strconv.uint64pow10" = some 0 := by kernel_rfl
theorem TabOk.lt {w : World} (h : TabOk w) : 0 < w.heap.size := by
  unfold TabOk Lib.TabIs World.var? at h
  rw [gTab] at h
  rcases Nat.lt_or_ge 0 w.heap.size with hl | hl
  · exact hl
  · simp [Array.getElem?_eq_none hl] at h
theorem TabOk.below {w w' : World} (h : TabOk w) (hb : Below w.heap.size w w') : TabOk w' := var?_below hb gTab h.lt h

set_option maxHeartbeats 1000000 in
theorem implNumText_any (n : Int) (w : World) (h0 : -9223372036854775808 ≤ n) (h1 : n ≤ 9223372036854775807) (htab : TabOk w) :
    Calls Tryz.prog 27 #[.int .i64 n] w fun e w' => TextIs (numTextI n) w e w' := by
  by_cases hn : n < 0
  · have hT : Hid (⟨#[]⟩ = numTextI n) := by show _ = _; unfold numTextI; rw [if_pos hn]
    go_enter Tryz.func27, Tryz.ntmps27
    go_wp2_with fail
    go_ret
    exact TextIs.of hT.out (Below.refl _ _)
  · by_cases hb : 1000000 < n
    · have hT : Hid (⟨#[]⟩ = numTextI n) := by
        show _ = _
        unfold numTextI numText numL; rw [if_neg hn, if_pos (by omega)]
      go_enter Tryz.func27, Tryz.ntmps27
      go_wp2_with fail
      go_ret
      exact TextIs.of hT.out (Below.refl _ _)
    · have hT : Hid _ := itoa_num n (by omega) (by omega)
      have HT : Hid (TabOk w) := htab
      clear htab
      go_enter Tryz.func27, Tryz.ntmps27
      go_wp2_with fail
      refine (Tryz.strconv_Itoa n h0 h1 w HT.out).mono ?_
      rintro e w1 ⟨rfl, k, os, rfl⟩
      rw [hT.out]
      have hb1 := Lib.below_grow w.heap.size w (Nat.le_refl _) k os
      obtain ⟨w1, hw1⟩ : ∃ w1, w1 = Sort.grow (w.drewN k) os := ⟨_, rfl⟩
      rw [← hw1] at hb1 ⊢
      clear hw1
      go_wp2_with fail
      go_ret
      exact TextIs.of rfl hb1

set_option maxHeartbeats 1000000 in
theorem specNumText_int (n : Int) (w : World) (h0 : -9223372036854775808 ≤ n) (h1 : n ≤ 9223372036854775807) :
    Calls Tryz.prog 30 #[.int .i64 n] w fun e w' => TextIs (numTextI n) w e w' := by
  by_cases hn : n < 0
  · have hT : Hid (⟨#[]⟩ = numTextI n) := by show _ = _; unfold numTextI; rw [if_pos hn]
    have hn2 : ¬ 0 ≤ n := by omega
    go_enter Tryz.func30, Tryz.ntmps30
    go_wp2
    go_ret
    exact TextIs.of hT.out (Below.refl _ _)
  · by_cases hb : 1000000 < n
    · have hT : Hid (⟨#[]⟩ = numTextI n) := by
        show _ = _
        unfold numTextI numText numL; rw [if_neg hn, if_pos (by omega)]
      have hp : 0 ≤ n := by omega
      have hb2 : ¬ n ≤ 1000000 := by omega
      have hd : decide (n ≤ 1000000) = false := by simp; omega
      go_enter Tryz.func30, Tryz.ntmps30
      go_wp2
      go_ret
      exact TextIs.of hT.out (Below.refl _ _)
    · obtain ⟨m, rfl⟩ := Int.eq_ofNat_of_zero_le (Int.not_lt.1 hn)
      have hT : numTextI (m : Int) = numText m := by unfold numTextI; rw [if_neg hn]; simp
      rw [hT]
      exact specNumText_any m w (by omega)

end Go.Proofs.YtdlhicdfldecgaaGreatDoor

namespace Go.Proofs.YtdlhicdfldecgaaGreatDoor
open Go.RowKit

/-- A part of a split text. -/
def partL (cur : List UInt8) : List ByteArray := if trimL cur = [] then [] else [⟨(trimL cur).toArray⟩]
/-- Split, byte by byte: 'cur': what stands of this part. -/
def spA (cur : List UInt8) : List UInt8 → List ByteArray
  | [] => partL cur
  | c :: r => if c = 44 then partL cur ++ spA [] r else spA (cur ++ [c]) r
theorem add_part (l : List ByteArray) (s : ByteArray) : addPart l (trimOf s) = l ++ partL (bs s) := by
  have hs : (trimOf s).size = (trimL (bs s)).length := by
    show (trimL s.data.toList).toArray.size = _
    simp [bs]
  unfold addPart partL
  rw [hs]
  by_cases h : trimL (bs s) = []
  · rw [if_pos h, if_pos (by rw [h]; rfl), List.append_nil]
  · rw [if_neg h, if_neg (fun e => h (List.length_eq_zero_iff.1 e))]
    rfl
theorem ext_part (s : ByteArray) (a k : Nat) : bs (s.extract a k) = ((bs s).take k).drop a := by rw [bs_extract]
theorem split_from (s : ByteArray) : ∀ k, k ≤ s.size → (splitTo s k).1 ++ spA (((bs s).take k).drop (splitTo s k).2) ((bs s).drop k) = spA [] (bs s) := by
  intro k
  induction k with
  | zero => intro _; simp [splitTo]
  | succ k ih =>
    intro hk
    have hlt : k < s.size := by omega
    have h := ih (by omega)
    have hle := (splitTo_le s k).1
    have hd : (bs s).drop k = s[k]'hlt :: (bs s).drop (k + 1) := by
      have hl : k < (bs s).length := by rw [bs_len]; exact hlt
      rw [List.drop_eq_getElem_cons hl]
      congr 1
    have ht : (bs s).take (k + 1) = (bs s).take k ++ [s[k]'hlt] := by
      have hl : k < (bs s).length := by rw [bs_len]; exact hlt
      rw [List.take_succ_eq_append_getElem hl]
      congr 1
    rw [hd] at h
    by_cases hc : (s[k]'hlt).toNat = 44
    · have hc8 : s[k]'hlt = 44 := UInt8.toNat_inj.1 hc
      rw [splitTo_comma s k hlt hc]
      dsimp only
      rw [add_part, ext_part]
      rw [spA, if_pos hc8] at h
      have hn : ((bs s).take (k + 1)).drop (k + 1) = [] := List.drop_of_length_le (by rw [List.length_take]; omega)
      rw [hn, List.append_assoc]
      exact h
    · have hc8 : s[k]'hlt ≠ 44 := fun e => hc (by rw [e]; rfl)
      rw [splitTo_other s k hlt hc]
      rw [spA, if_neg hc8] at h
      have hn : ((bs s).take (k + 1)).drop (splitTo s k).2 = ((bs s).take k).drop (splitTo s k).2 ++ [s[k]'hlt] := by
        rw [ht, List.drop_append_of_le_length (by rw [List.length_take, bs_len]; omega)]
      rw [hn]
      exact h
theorem splitL_sp (s : ByteArray) : splitL s = spA [] (bs s) := by
  have h := split_from s s.size (Nat.le_refl _)
  have hd : (bs s).drop s.size = [] := List.drop_of_length_le (by rw [bs_len]; exact Nat.le_refl _)
  rw [hd] at h
  unfold splitL
  rw [add_part, ext_part]
  exact h

theorem dropB_len : ∀ l : List UInt8, (dropB l).length ≤ l.length := by
  intro l
  induction l with
  | nil => simp [dropB]
  | cons c l ih =>
    unfold dropB
    split
    · simp; omega
    · exact Nat.le_refl _
theorem trimL_len (l : List UInt8) : (trimL l).length ≤ l.length := by
  have h1 := dropB_len l
  have h2 := dropB_len (dropB l).reverse
  unfold trimL
  rw [List.length_reverse]
  rw [List.length_reverse] at h2
  omega
theorem partL_le (cur : List UInt8) : (partL cur).length ≤ 1 ∧ ∀ x ∈ partL cur, x.size ≤ cur.length := by
  unfold partL
  split
  · exact ⟨by simp, fun x hx => nomatch hx⟩
  · refine ⟨by simp, fun x hx => ?_⟩
    obtain rfl := List.mem_singleton.1 hx
    exact trimL_len cur
theorem spA_le : ∀ (l cur : List UInt8), (spA cur l).length ≤ l.length + 1 ∧ ∀ x ∈ spA cur l, x.size ≤ cur.length + l.length := by
  intro l
  induction l with
  | nil => intro cur; exact ⟨(partL_le cur).1, fun x hx => (partL_le cur).2 x hx⟩
  | cons c l ih =>
    intro cur
    unfold spA
    split
    · have h1 := partL_le cur
      have h2 := ih []
      refine ⟨by rw [List.length_append, List.length_cons]; omega, fun x hx => ?_⟩
      rw [List.mem_append] at hx
      rw [List.length_cons]
      rcases hx with hx | hx
      · have := h1.2 x hx; omega
      · have := h2.2 x hx; rw [List.length_nil] at this; omega
    · have h2 := ih (cur ++ [c])
      refine ⟨by rw [List.length_cons]; omega, fun x hx => ?_⟩
      have := h2.2 x hx
      rw [List.length_append, List.length_singleton] at this
      rw [List.length_cons]
      omega
theorem splitL_le (s : ByteArray) : (splitL s).length ≤ s.size + 1 ∧ ∀ x ∈ splitL s, x.size ≤ s.size := by
  have h := spA_le (bs s) []
  rw [← splitL_sp, bs_len, List.length_nil, Nat.zero_add] at h
  exact h

/-- What is said of keeping. -/
structure CcD where
  ns : Bool
  nc : Bool
  pr : Bool
  mu : Bool
  ha : Bool
  age : Int
def cc0 : CcD := ⟨false, false, false, false, false, 0⟩
def CcD.v (c : CcD) : Value := .agg #[.bool c.ns, .bool c.nc, .bool c.pr, .bool c.mu, .bool c.ha, .int .i64 c.age]
def nsW : ByteArray := ⟨#[110, 111, 45, 115, 116, 111, 114, 101]⟩
def ncW : ByteArray := ⟨#[110, 111, 45, 99, 97, 99, 104, 101]⟩
def prW : ByteArray := ⟨#[112, 114, 105, 118, 97, 116, 101]⟩
def muW : ByteArray := ⟨#[109, 117, 115, 116, 45, 114, 101, 118, 97, 108, 105, 100, 97, 116, 101]⟩
def maW : ByteArray := ⟨#[109, 97, 120, 45, 97, 103, 101, 61]⟩
open Classical in
/-- The number that a text is; 0: it is none. -/
noncomputable def numV (s : ByteArray) : Int := if NumOk s then (valL s.data.toList : Int) else 0
open Classical in
/-- What stands behind the word of ages; none: it is another word. -/
noncomputable def ageOf (w : ByteArray) : Option Int := if (bs w).take 8 = bs maW then some (numV ⟨((bs w).drop 8).toArray⟩) else none
/-- One word more. -/
noncomputable def ccStep (c : CcD) (w : ByteArray) : CcD :=
  if w = nsW then { c with ns := true } else if w = ncW then { c with nc := true } else if w = prW then { c with pr := true } else if w = muW then { c with mu := true }
  else match ageOf w with
    | none => c
    | some n => if c.ha = true then { c with age := min c.age n } else { c with ha := true, age := n }
/-- So many of the words. -/
noncomputable def ccTo (l : List ByteArray) : CcD := l.foldl (fun c x => ccStep c (lowerOf x)) cc0
noncomputable def ccR (s : ByteArray) : CcD := ccTo (splitL s)
theorem ccTo_snoc (l : List ByteArray) (x : ByteArray) : ccTo (l ++ [x]) = ccStep (ccTo l) (lowerOf x) := by simp [ccTo]

theorem text_bs (x : ByteArray) : (⟨(bs x).toArray⟩ : ByteArray) = x := by
  apply ByteArray.ext
  simp [bs]
end Go.Proofs.YtdlhicdfldecgaaGreatDoor

namespace Go.Proofs.YtdlhicdfldecgaaGreatDoor
open Go.RowKit
open Go.Lib hiding intOf

set_option maxHeartbeats 400000 in
theorem l1Min_any (a b : Int) (w : World) :
    Calls Tryz.prog 160 #[.int .i64 a, .int .i64 b] w fun e w' => e = .returned (.int .i64 (min a b)) ∧ w' = w := by
  by_cases h : a < b
  · have HE : Hid (min a b = a) := by show _ = _; omega
    go_enter Tryz.func160, Tryz.ntmps160
    go_wp2
    go_ret
    exact ⟨by rw [HE.out]; rfl, rfl⟩
  · have HE : Hid (min a b = b) := by show _ = _; omega
    go_enter Tryz.func160, Tryz.ntmps160
    go_wp2
    go_ret
    exact ⟨by rw [HE.out]; rfl, rfl⟩
/-- A list of ints that a function reads. -/
def IntsV (w : World) (oa : Option Addr) (n : Nat) (zs : List Int) : Prop := zs.length = n ∧ ∀ i, i < n → ∃ g, oa = some ⟨g, 0, none⟩ ∧ g < w.heap.size ∧ w.cell? ⟨g, i, none⟩ = some (.int .i64 (zs.getD i 0))
theorem IntsV.below {w w' : World} {oa : Option Addr} {n : Nat} {zs : List Int} (h : IntsV w oa n zs) (hb : Below w.heap.size w w') : IntsV w' oa n zs :=
  ⟨h.1, fun i hi => by
    obtain ⟨g, e, hg, hc⟩ := h.2 i hi
    exact ⟨g, e, Nat.lt_of_lt_of_le hg hb.size, by rw [hb.cell (p := ⟨g, i, none⟩) hg]; exact hc⟩⟩

end Go.Proofs.YtdlhicdfldecgaaGreatDoor

namespace Go.Proofs.YtdlhicdfldecgaaGreatDoor
open Go.RowKit
open Go.Lib hiding intOf

theorem owns_wide {w : World} {B base : Nat} {e : TypeId} {size : Nat} {v : Value} {n : Nat} {xs : List Value} (h : w.ownsRow base e size v n xs) (hB : B ≤ base) : w.ownsRow B e size v n xs := by
  obtain ⟨hl, hv⟩ := h
  refine ⟨hl, ?_⟩
  rcases hv with h0 | ⟨g, cap, cur, h1, h2, h3⟩
  · exact .inl h0
  · exact .inr ⟨g, cap, cur, h1, Nat.le_trans hB h2, h3⟩
theorem owns_same {w w' : World} {base : Nat} {e : TypeId} {size : Nat} {v : Value} {n : Nat} {xs : List Value} (h : w.ownsRow base e size v n xs) (hs : ∀ j, v.ownBlock = some j → w'.heap[j]? = w.heap[j]?) : w'.ownsRow base e size v n xs := by
  obtain ⟨hl, hv⟩ := h
  refine ⟨hl, ?_⟩
  rcases hv with h0 | ⟨g, cap, cur, rfl, h2, h3, h4⟩
  · exact .inl h0
  · exact .inr ⟨g, cap, cur, rfl, h2, by rw [hs g rfl]; exact h3, h4⟩

end Go.Proofs.YtdlhicdfldecgaaGreatDoor

namespace Go.Proofs.YtdlhicdfldecgaaGreatDoor
open Go.RowKit
open Go.Lib hiding intOf

/-- A request, as it is told. -/
structure RqD where
  m : Int
  p : ByteArray
  fs : List (ByteArray × ByteArray)
  b : ByteArray
/-- Its text. -/
def RqD.text (r : RqD) : List UInt8 := bs (reqT r.m r.p r.fs r.b)
def RqD.ok (r : RqD) : Prop := ReqP r.m r.p r.fs r.b
/-- The four cells of a request whose fields lie there. -/
def rqC (x : RqD × Value) : List Value := [.int .i64 x.1.m, .string x.1.p, x.2, .string x.1.b]
def flatR : List (RqD × Value) → List Value
  | [] => []
  | x :: t => rqC x ++ flatR t
theorem flatR_snoc (x : RqD × Value) : ∀ rv : List (RqD × Value), flatR (rv ++ [x]) = flatR rv ++ rqC x
  | [] => by simp [flatR]
  | y :: t => by rw [List.cons_append, flatR, flatR_snoc x t, flatR, List.append_assoc]
theorem owns_cellC {w : World} {base : Nat} {t : TypeId} {size g n cap : Nat} {xs : List Value} (h : w.ownsRow base t size (.slice (some ⟨g, 0, none⟩) n cap) n xs) (o : Nat) (u : Value) (ho : xs[o]? = some u) : w.cell? ⟨g, o, none⟩ = some u ∧ w.frozen? ⟨g, o, none⟩ = false := by
  obtain ⟨hl, hv⟩ := h
  rcases hv with ⟨e, _⟩ | ⟨g', cap', cur, e, h1, h2, h3, h4, h5, h6⟩
  · cases e
  · cases e
    refine ⟨?_, by simp [World.frozen?, h2]⟩
    rw [← h6, List.getElem?_take] at ho
    split at ho
    · simpa [World.cell?, h2] using ho
    · cases ho
theorem own_noR {w : World} {base : Nat} {t : TypeId} {size : Nat} {v : Value} {n : Nat} {xs : List Value} {j : Nat} {cs : Array Value} {T : TypeId} {fr : Nat × Nat} (h : w.ownsRow base t size v n xs) (hT : T ≠ t) (hj : w.heap[j]? = some (.cells cs T fr)) : v.ownBlock ≠ some j := by
  intro e
  rcases h.2 with ⟨rfl, _⟩ | ⟨g, cap, cur, rfl, _, h1, _⟩
  · cases e
  · cases e
    rw [h1] at hj
    cases hj
    exact hT rfl
theorem own_ltR {w : World} {base : Nat} {t : TypeId} {size : Nat} {v : Value} {n : Nat} {xs : List Value} {j : Nat} (h : w.ownsRow base t size v n xs) (hj : v.ownBlock = some j) : base ≤ j ∧ j < w.heap.size := by
  rcases h.2 with ⟨rfl, _⟩ | ⟨g, cap, cur, rfl, h0, h1, _⟩
  · cases hj
  · cases hj
    exact ⟨h0, (Array.getElem?_eq_some_iff.1 h1).1⟩
theorem own_blockR {w : World} {base : Nat} {t : TypeId} {size : Nat} {v : Value} {n : Nat} {xs : List Value} {j : Nat} (h : w.ownsRow base t size v n xs) (hj : v.ownBlock = some j) : ∃ cur, w.heap[j]? = some (.cells cur t (0, 0)) := by
  rcases h.2 with ⟨rfl, _⟩ | ⟨g, cap, cur, rfl, h0, h1, _⟩
  · cases hj
  · cases hj
    exact ⟨cur, h1⟩
theorem own_two {w : World} {b1 b2 : Nat} {t1 t2 : TypeId} {s1 s2 : Nat} {v1 v2 : Value} {n1 n2 : Nat} {x1 x2 : List Value} {j : Nat} (h1 : w.ownsRow b1 t1 s1 v1 n1 x1) (h2 : w.ownsRow b2 t2 s2 v2 n2 x2) (hT : t1 ≠ t2) (hj : v1.ownBlock = some j) : v2.ownBlock ≠ some j := by
  obtain ⟨cur, hc⟩ := own_blockR h1 hj
  exact own_noR h2 hT hc

/-- A list of requests of one's own: the row, each one's fields, no two lists of fields in one block. -/
structure ReqsO (w : World) (base : Nat) (V : Value) (rv : List (RqD × Value)) : Prop where
  row : w.ownsRow base 39 4 V rv.length (flatR rv)
  own : ∀ x ∈ rv, w.ownsRow base 131 2 x.2 x.1.fs.length (flatF x.1.fs)
  apart : rv.Pairwise (fun a b => ∀ g, a.2.ownBlock = some g → b.2.ownBlock ≠ some g)
theorem ReqsO.nil (w : World) (base : Nat) : ReqsO w base (.slice none 0 0) [] := ⟨⟨rfl, .inl ⟨rfl, rfl⟩⟩, by simp, List.Pairwise.nil⟩
/-- All that stands in the blocks of the list stands: so does the list. -/
theorem ReqsO.same {w w' : World} {base : Nat} {V : Value} {rv : List (RqD × Value)} (h : ReqsO w base V rv) (hs : ∀ j, base ≤ j → j < w.heap.size → w'.heap[j]? = w.heap[j]?) : ReqsO w' base V rv :=
  ⟨owns_same h.row (fun j hj => hs j (own_ltR h.row hj).1 (own_ltR h.row hj).2), fun x hx => owns_same (h.own x hx) (fun j hj => hs j (own_ltR (h.own x hx) hj).1 (own_ltR (h.own x hx) hj).2), h.apart⟩
theorem ReqsO.later {w w' : World} {base : Nat} {V : Value} {rv : List (RqD × Value)} (h : ReqsO w base V rv) (hb : Below w.heap.size w w') : ReqsO w' base V rv := h.same (fun j _ hj => hb.block j hj)
/-- What lies wholly below a number outlives what is done above it. -/
theorem ReqsO.below {w w' : World} {base B : Nat} {V : Value} {rv : List (RqD × Value)} (h : ReqsO w base V rv) (hB : ∀ j, V.ownBlock = some j ∨ (∃ x ∈ rv, x.2.ownBlock = some j) → j < B) (hb : Below B w w') : ReqsO w' base V rv :=
  ⟨owns_same h.row (fun j hj => hb.block j (hB j (.inl hj))), fun x hx => owns_same (h.own x hx) (fun j hj => hb.block j (hB j (.inr ⟨x, hx, hj⟩))), h.apart⟩
theorem ReqsO.lt {w : World} {base : Nat} {V : Value} {rv : List (RqD × Value)} (h : ReqsO w base V rv) (j : Nat) (hj : V.ownBlock = some j ∨ (∃ x ∈ rv, x.2.ownBlock = some j)) : base ≤ j ∧ j < w.heap.size := by
  rcases hj with hj | ⟨x, hx, hj⟩
  · exact own_ltR h.row hj
  · exact own_ltR (h.own x hx) hj
/-- A request more, whose fields were made since. -/
theorem ReqsO.more {w W : World} {base base' : Nat} {V V' : Value} {rv : List (RqD × Value)} {r : RqD} {v : Value} (h : ReqsO w base V rv) (hb' : base ≤ base') (hv : w.ownsRow base' 131 2 v r.fs.length (flatF r.fs)) (hold : ∀ j, (∃ x ∈ rv, x.2.ownBlock = some j) → j < base')
    (hg : w.grownBy W V.ownBlock) (hrow : W.ownsRow base 39 4 V' (rv.length + 1) (flatR rv ++ rqC (r, v))) : ReqsO W base V' (rv ++ [(r, v)]) := by
  have hkeep : ∀ x ∈ rv, W.ownsRow base 131 2 x.2 x.1.fs.length (flatF x.1.fs) := fun x hx =>
    owns_same (h.own x hx) (fun j hj => hg.block j (own_ltR (h.own x hx) hj).2 (fun e => own_two (h.own x hx) h.row (by decide) hj e.symm))
  have hnew : W.ownsRow base 131 2 v r.fs.length (flatF r.fs) := by
    refine owns_wide ?_ hb'
    exact owns_same hv (fun j hj => hg.block j (own_ltR hv hj).2 (fun e => own_two hv h.row (by decide) hj e.symm))
  refine ⟨by rw [flatR_snoc, List.length_append]; exact hrow, fun x hx => ?_, ?_⟩
  · simp only [List.mem_append, List.mem_singleton] at hx
    rcases hx with hx | rfl
    · exact hkeep x hx
    · exact hnew
  · rw [List.pairwise_append]
    refine ⟨h.apart, List.pairwise_singleton _ _, fun a ha b hb g hg1 hg2 => ?_⟩
    simp only [List.mem_singleton] at hb
    subst hb
    have h1 := hold g ⟨a, ha, hg1⟩
    have h2 := (own_ltR hv hg2).1
    omega

end Go.Proofs.YtdlhicdfldecgaaGreatDoor

namespace Go.Proofs.YtdlhicdfldecgaaGreatDoor
open Go.RowKit
open Go.Lib hiding intOf

theorem maW_list : maW.toList = [109, 97, 120, 45, 97, 103, 101, 61] := by rw [ByteArray.toList_eq]; rfl
theorem nsW_list : nsW.toList = [110, 111, 45, 115, 116, 111, 114, 101] := by rw [ByteArray.toList_eq]; rfl
theorem ncW_list : ncW.toList = [110, 111, 45, 99, 97, 99, 104, 101] := by rw [ByteArray.toList_eq]; rfl
theorem prW_list : prW.toList = [112, 114, 105, 118, 97, 116, 101] := by rw [ByteArray.toList_eq]; rfl
theorem muW_list : muW.toList = [109, 117, 115, 116, 45, 114, 101, 118, 97, 108, 105, 100, 97, 116, 101] := by rw [ByteArray.toList_eq]; rfl
theorem ageOf_short {s : ByteArray} (h : s.size < 8) : ageOf s = none := by
  unfold ageOf
  rw [if_neg]
  intro e
  have := congrArg List.length e
  rw [List.length_take, bs_len] at this
  have h8 : (bs maW).length = 8 := rfl
  omega
theorem ageOf_yes {s : ByteArray} (h : s.extract 0 8 = maW) : ageOf s = some (numV (s.extract 8 s.size)) := by
  have e : (bs s).take 8 = bs maW := by rw [← h, bs_extract, List.drop_zero]
  have d : (⟨((bs s).drop 8).toArray⟩ : ByteArray) = s.extract 8 s.size := by
    rw [← text_bs (s.extract 8 s.size), bs_extract, List.take_of_length_le (by rw [bs_len]; exact Nat.le_refl _)]
  unfold ageOf
  rw [if_pos e, d]
theorem ageOf_no {s : ByteArray} (h : s.extract 0 8 ≠ maW) : ageOf s = none := by
  unfold ageOf
  rw [if_neg]
  intro e
  apply h
  rw [← text_bs (s.extract 0 8), bs_extract, List.drop_zero, e, text_bs]

/-- What l6Age answers. -/
def AgeIs (s : ByteArray) (w : World) (e : Ending) (w' : World) : Prop :=
  ∃ (n : Int) (b : Bool), e = .returned (.tuple #[.int .i64 n, .bool b]) ∧ (b = true → ageOf s = some n) ∧ (b = false → ageOf s = none) ∧ Below w.heap.size w w'
set_option maxHeartbeats 1000000 in
theorem l6Age_any (s : ByteArray) (w : World) (hs : s.size ≤ 4000000) :
    Calls Tryz.prog 159 #[.string s] w fun e w' => AgeIs s w e w' := by
  by_cases h8 : s.size < 8
  · have HN : Hid (ageOf s = none) := ageOf_short h8
    have h8' : (s.size : Int) < 8 := by omega
    clear h8
    go_enter Tryz.func159, Tryz.ntmps159
    go_wp2_with fail
    refine bodyPost_ret (v := .tuple #[.int .i64 0, .bool false]) (by simp [results, Tryz.results159, go_sem]) rfl ?_
    exact ⟨0, false, rfl, nofun, fun _ => HN.out, Below.refl _ _⟩
  · have h8' : ¬ (s.size : Int) < 8 := by omega
    have h8'' : (8 : Int) ≤ (s.size : Int) := by omega
    by_cases hp : s.extract 0 8 = maW
    · have ht : ((s.extract 0 8).toList == maW.toList) = true := (text_beq _ _).2 hp
      rw [maW_list] at ht
      have HY : Hid (ageOf s = some (numV (s.extract 8 s.size))) := ageOf_yes hp
      have hes : (s.extract 8 s.size).size ≤ maxLen := by rw [ByteArray.size_extract]; unfold maxLen; omega
      clear hp h8
      go_enter Tryz.func159, Tryz.ntmps159
      go_wp2_with fail
      refine (specNumRead_any (s.extract 8 s.size) _ hes).mono ?_
      rintro e w1 ⟨b, n, rfl, hb1, hb2, hb3, b1⟩
      have HV : Hid (numV (s.extract 8 s.size) = n) := by
        show _ = _
        unfold numV
        cases b with
        | true => rw [if_pos (hb1.1 rfl), hb2 rfl]
        | false => rw [if_neg (fun h => nomatch hb1.2 h), hb3 rfl]
      clear hb1 hb2 hb3
      go_wp2_with fail
      refine bodyPost_ret (v := .tuple #[.int .i64 n, .bool true]) (by simp [results, Tryz.results159, go_sem]) rfl ?_
      exact ⟨n, true, rfl, fun _ => by rw [HY.out, HV.out], nofun, b1⟩
    · have ht : ((s.extract 0 8).toList == maW.toList) = false := text_beq_no hp
      rw [maW_list] at ht
      have HN : Hid (ageOf s = none) := ageOf_no hp
      clear hp h8
      go_enter Tryz.func159, Tryz.ntmps159
      go_wp2_with fail
      refine bodyPost_ret (v := .tuple #[.int .i64 0, .bool false]) (by simp [results, Tryz.results159, go_sem]) rfl ?_
      exact ⟨0, false, rfl, nofun, fun _ => HN.out, Below.refl _ _⟩

theorem ccLow_size (s : ByteArray) : (lowerOf s).size = s.size := by unfold lowerOf; rw [strOfNums_size, lowXs_len]
/-- The cells of it. -/
def CcD.cs (c : CcD) : Array Value := #[.bool c.ns, .bool c.nc, .bool c.pr, .bool c.mu, .bool c.ha, .int .i64 c.age]
/-- A block that holds it. -/
def CcAt (w : World) (g : Nat) (c : CcD) : Prop := w.heap[g]? = some (.cells c.cs 101)
theorem CcAt.cells {w : World} {g : Nat} {c : CcD} (h : CcAt w g c) : w.cell? ⟨g, 0, none⟩ = some (.bool c.ns) ∧ w.cell? ⟨g, 1, none⟩ = some (.bool c.nc) ∧ w.cell? ⟨g, 2, none⟩ = some (.bool c.pr) ∧ w.cell? ⟨g, 3, none⟩ = some (.bool c.mu) ∧ w.cell? ⟨g, 4, none⟩ = some (.bool c.ha) ∧ w.cell? ⟨g, 5, none⟩ = some (.int .i64 c.age) := by
  unfold CcAt CcD.cs at h
  refine ⟨?_, ?_, ?_, ?_, ?_, ?_⟩ <;> simp [World.cell?, h]
theorem CcAt.frozen {w : World} {g : Nat} {c : CcD} (h : CcAt w g c) (o : Nat) : w.frozen? ⟨g, o, none⟩ = false := by
  unfold CcAt at h
  simp [World.frozen?, h]
theorem CcAt.lt {w : World} {g : Nat} {c : CcD} (h : CcAt w g c) : g < w.heap.size := (Array.getElem?_eq_some_iff.1 h).1
theorem CcAt.same {w w' : World} {g : Nat} {c : CcD} (h : CcAt w g c) (hs : w'.heap[g]? = w.heap[g]?) : CcAt w' g c := by unfold CcAt; rw [hs]; exact h
theorem CcAt.put0 {w : World} {g : Nat} {c : CcD} (h : CcAt w g c) (x : Bool) : CcAt (w.setCell ⟨g, 0, none⟩ (.bool x)) g { c with ns := x } := by unfold CcAt at *; rw [heap_set _ _ _ _ _ _ _ h]; rfl
theorem CcAt.put1 {w : World} {g : Nat} {c : CcD} (h : CcAt w g c) (x : Bool) : CcAt (w.setCell ⟨g, 1, none⟩ (.bool x)) g { c with nc := x } := by unfold CcAt at *; rw [heap_set _ _ _ _ _ _ _ h]; rfl
theorem CcAt.put2 {w : World} {g : Nat} {c : CcD} (h : CcAt w g c) (x : Bool) : CcAt (w.setCell ⟨g, 2, none⟩ (.bool x)) g { c with pr := x } := by unfold CcAt at *; rw [heap_set _ _ _ _ _ _ _ h]; rfl
theorem CcAt.put3 {w : World} {g : Nat} {c : CcD} (h : CcAt w g c) (x : Bool) : CcAt (w.setCell ⟨g, 3, none⟩ (.bool x)) g { c with mu := x } := by unfold CcAt at *; rw [heap_set _ _ _ _ _ _ _ h]; rfl
theorem CcAt.put4 {w : World} {g : Nat} {c : CcD} (h : CcAt w g c) (x : Bool) : CcAt (w.setCell ⟨g, 4, none⟩ (.bool x)) g { c with ha := x } := by unfold CcAt at *; rw [heap_set _ _ _ _ _ _ _ h]; rfl
theorem CcAt.put5 {w : World} {g : Nat} {c : CcD} (h : CcAt w g c) (x : Int) : CcAt (w.setCell ⟨g, 5, none⟩ (.int .i64 x)) g { c with age := x } := by unfold CcAt at *; rw [heap_set _ _ _ _ _ _ _ h]; rfl
/-- All six cells of a block are stored. -/
def putCc (w : World) (g : Nat) (d : CcD) : World := (((((w.setCell ⟨g, 0, none⟩ (.bool d.ns)).setCell ⟨g, 1, none⟩ (.bool d.nc)).setCell ⟨g, 2, none⟩ (.bool d.pr)).setCell ⟨g, 3, none⟩ (.bool d.mu)).setCell ⟨g, 4, none⟩ (.bool d.ha)).setCell ⟨g, 5, none⟩ (.int .i64 d.age)
theorem CcAt.putAll {w : World} {g : Nat} {c : CcD} (h : CcAt w g c) (d : CcD) : CcAt (putCc w g d) g d :=
  (((((h.put0 d.ns).put1 d.nc).put2 d.pr).put3 d.mu).put4 d.ha).put5 d.age
theorem below_putCc {B : Nat} {a w : World} (h : Below B a w) {g : Nat} (hg : B ≤ g) (d : CcD) : Below B a (putCc w g d) :=
  (((((h.setCell hg _).setCell hg _).setCell hg _).setCell hg _).setCell hg _).setCell hg _

/-- The name of the field that says it. -/
def ccName : ByteArray := ⟨#[99, 97, 99, 104, 101, 45, 99, 111, 110, 116, 114, 111, 108]⟩

/-- While words are read. -/
structure CcSt (w : World) (H : Nat) (c : CcD) (v : Value) (l : List ByteArray) (wr : World) : Prop where
  res : CcAt wr H cc0
  cur : CcAt wr (H + 1) c
  row : wr.ownsRow (H + 1 + 1) 9 1 v l.length (l.map Value.string)
  low : Below H w wr
theorem CcSt.later {w : World} {H : Nat} {c : CcD} {v : Value} {l : List ByteArray} {wr w' : World} (h : CcSt w H c v l wr) (hb : Below wr.heap.size wr w') : CcSt w H c v l w' :=
  ⟨h.res.same (hb.block _ h.res.lt), h.cur.same (hb.block _ h.cur.lt), owns_below h.row hb (fun _ hg => owns_lt h.row hg), h.low.trans (hb.mono (Nat.le_of_lt h.res.lt))⟩
theorem CcSt.put {w : World} {H : Nat} {c d : CcD} {v : Value} {l : List ByteArray} {wr : World} (h : CcSt w H c v l wr) {o : Nat} {x : Value} (hd : CcAt (wr.setCell ⟨H + 1, o, none⟩ x) (H + 1) d) : CcSt w H d v l (wr.setCell ⟨H + 1, o, none⟩ x) :=
  ⟨h.res.same (heap_setCell_other _ _ H _ (by show H ≠ H + 1; omega)), hd, owns_same h.row (fun j hj => heap_setCell_other _ _ j _ (by show j ≠ H + 1; have := (own_ltR h.row hj).1; omega)), h.low.setCell (by show H ≤ H + 1; omega) _⟩

set_option maxHeartbeats 4000000 in
set_option maxRecDepth 100000 in
theorem specCcRead_any (s : ByteArray) (w : World) (hs : s.size ≤ 1048576) :
    Calls Tryz.prog 145 #[.string s] w fun e w' => e = .returned (ccR s).v ∧ Below w.heap.size w w' := by
  obtain ⟨H, hH⟩ : ∃ H, H = w.heap.size := ⟨_, rfl⟩
  have HW : Hid (w.heap.size = H) := hH.symm
  obtain ⟨W0, hW0⟩ : ∃ W, W = (w.alloc (.cells cc0.cs 101)).alloc (.cells cc0.cs 101) := ⟨_, rfl⟩
  have HA : Hid (CcAt W0 H cc0 ∧ CcAt W0 (H + 1) cc0 ∧ Below H w W0 ∧ W0.heap.size = H + 1 + 1) := by
    have e1 := heap_alloc_new w (.cells cc0.cs 101)
    have e2 := heap_alloc_new (w.alloc (.cells cc0.cs 101)) (.cells cc0.cs 101)
    rw [World.size_alloc] at e2
    refine ⟨?_, ?_, ?_, ?_⟩
    · unfold CcAt; rw [hW0, hH, heap_alloc_old _ _ (by simp)]; exact e1
    · unfold CcAt; rw [hW0, hH]; exact e2
    · rw [hW0, hH]; exact ((Below.refl _ w).alloc (Nat.le_refl _) _).alloc (by simp) _
    · rw [hW0, hH]; simp
  have HW0 : Hid ((w.alloc (.cells #[.bool false, .bool false, .bool false, .bool false, .bool false, .int .i64 0] 101)).alloc (.cells #[.bool false, .bool false, .bool false, .bool false, .bool false, .int .i64 0] 101) = W0) := hW0.symm
  clear hW0
  go_enter Tryz.func145, Tryz.ntmps145
  go_wp2_with fail
  rw [HW0.out, ← hH]
  clear hH
  refine (specSplit_any s _ hs).mono ?_
  rintro e w1 ⟨v, rfl, hown, b1⟩
  rw [HA.out.2.2.2] at hown b1
  obtain ⟨l, hl⟩ : ∃ l, l = splitL s := ⟨_, rfl⟩
  rw [← hl] at hown
  have HLS : Hid (splitL s = l) := hl.symm
  have HLB : Hid (∀ x ∈ l, x.size ≤ 1048576) := fun x hx => by rw [hl] at hx; have := (splitL_le s).2 x hx; omega
  have hll : l.length ≤ 1048577 := by rw [hl]; have := (splitL_le s).1; omega
  have HS1 : Hid (CcSt w H (ccTo (l.take 0)) v l w1) := ⟨HA.out.1.same (b1.block _ (by omega)), HA.out.2.1.same (b1.block _ (by omega)), hown, HA.out.2.2.1.trans (b1.mono (by omega))⟩
  obtain ⟨oa, cp, rfl⟩ := slice_of_owns hown
  obtain ⟨n, hn⟩ : ∃ n, n = l.length := ⟨_, rfl⟩
  have HN : Hid (l.length = n) := hn.symm
  rw [← hn] at hll HS1
  rw [← hn]
  clear hown b1 hl hn
  go_wp2_with fail
  go_loopw [5] (fun i wr => ∃ k : Nat, k ≤ n ∧ i = .int .i64 (k : Int) ∧ Hid (CcSt w H (ccTo (l.take k)) (.slice oa n cp) l wr)) (fun i _ => n - (intOf i).toNat)
  case atStart => exact ⟨0, Nat.zero_le _, rfl, HS1⟩
  case round =>
    obtain ⟨k, hk, rfl, HS⟩ := hrel
    by_cases hlt : (k : Int) < (n : Int)
    · have hkl : k < l.length := by have := HN.out; omega
      obtain ⟨g, rfl⟩ : ∃ g, oa = some ⟨g, 0, none⟩ := by
        rcases HS.out.row.2 with ⟨e, _⟩ | ⟨g, _, _, e, _⟩
        · injection e with _ e2 _; omega
        · injection e with e1 _ _; exact ⟨g, e1⟩
      obtain ⟨x, hx⟩ : ∃ x, x = l[k]'hkl := ⟨_, rfl⟩
      have hc0 : wr.cell? ⟨g, k, none⟩ = some (.string x) := by
        have hr := HS.out.row
        rw [HN.out] at hr
        exact (owns_cellC hr k (.string x) (by rw [List.getElem?_map, List.getElem?_eq_getElem hkl, hx]; rfl)).1
      have hxs : x.size ≤ 1048576 := by rw [hx]; exact HLB.out _ (List.getElem_mem hkl)
      obtain ⟨y, hy⟩ : ∃ y, y = lowerOf x := ⟨_, rfl⟩
      have hys : y.size ≤ 4000000 := by rw [hy, ccLow_size]; omega
      have HY : Hid (lowerOf x = y) := hy.symm
      have HST : Hid (ccTo (l.take (k + 1)) = ccStep (ccTo (l.take k)) y) := by
        show _ = _
        rw [List.take_succ_eq_append_getElem hkl, ccTo_snoc, ← hx, hy]
      clear hx hy hkl
      obtain ⟨c, hc⟩ : ∃ c, c = ccTo (l.take k) := ⟨_, rfl⟩
      rw [← hc] at HS HST
      obtain ⟨d, hd⟩ : ∃ d, d = ccTo (l.take (k + 1)) := ⟨_, rfl⟩
      rw [← hd] at HST
      have HD : Hid (ccTo (l.take (k + 1)) = d) := hd.symm
      clear hc hd
      go_wp2_with fail
      refine (specLower_any x _ hxs).mono ?_
      rintro e w2 ⟨rfl, b2⟩
      rw [HY.out]
      have HS2 : Hid (CcSt w H c (.slice (some ⟨g, 0, none⟩) n cp) l w2) := HS.out.later b2
      clear b2 hc0
      go_wp2_with fail
      refine (l6Age_any y _ hys).mono ?_
      rintro e w3 ⟨na, ba, rfl, hb1, hb2, b3⟩
      have HS3 : Hid (CcSt w H c (.slice (some ⟨g, 0, none⟩) n cp) l w3) := HS2.out.later b3
      obtain ⟨q0, q1, q2, q3, q4, q5⟩ := HS3.out.cur.cells
      have f0 := HS3.out.cur.frozen 0
      have f1 := HS3.out.cur.frozen 1
      have f2 := HS3.out.cur.frozen 2
      have f3 := HS3.out.cur.frozen 3
      have f4 := HS3.out.cur.frozen 4
      have f5 := HS3.out.cur.frozen 5
      clear b3 HS HS2
      by_cases h0 : y = nsW
      · have t0 : (y.toList == nsW.toList) = true := (text_beq _ _).2 h0
        rw [nsW_list] at t0
        have HS4 : Hid (CcSt w H d (.slice (some ⟨g, 0, none⟩) n cp) l (w3.setCell ⟨H + 1, 0, none⟩ (.bool true))) := by
          show CcSt _ _ _ _ _ _
          have e : d = { c with ns := true } := by rw [HST.out]; unfold ccStep; rw [if_pos h0]
          rw [e]
          exact HS3.out.put (HS3.out.cur.put0 true)
        clear h0 hb1 hb2
        go_wp2_with fail
        go_roundw
        case rel => exact ⟨k + 1, by omega, by go_num, by rw [HD.out]; exact HS4⟩
        case measure => simp [intOf]; omega
      have t0 : (y.toList == nsW.toList) = false := text_beq_no h0
      rw [nsW_list] at t0
      by_cases h1 : y = ncW
      · have t1 : (y.toList == ncW.toList) = true := (text_beq _ _).2 h1
        rw [ncW_list] at t1
        have HS4 : Hid (CcSt w H d (.slice (some ⟨g, 0, none⟩) n cp) l (w3.setCell ⟨H + 1, 1, none⟩ (.bool true))) := by
          show CcSt _ _ _ _ _ _
          have e : d = { c with nc := true } := by rw [HST.out]; unfold ccStep; rw [if_neg h0, if_pos h1]
          rw [e]
          exact HS3.out.put (HS3.out.cur.put1 true)
        clear h0 h1 hb1 hb2
        go_wp2_with fail
        go_roundw
        case rel => exact ⟨k + 1, by omega, by go_num, by rw [HD.out]; exact HS4⟩
        case measure => simp [intOf]; omega
      have t1 : (y.toList == ncW.toList) = false := text_beq_no h1
      rw [ncW_list] at t1
      by_cases h2 : y = prW
      · have t2 : (y.toList == prW.toList) = true := (text_beq _ _).2 h2
        rw [prW_list] at t2
        have HS4 : Hid (CcSt w H d (.slice (some ⟨g, 0, none⟩) n cp) l (w3.setCell ⟨H + 1, 2, none⟩ (.bool true))) := by
          show CcSt _ _ _ _ _ _
          have e : d = { c with pr := true } := by rw [HST.out]; unfold ccStep; rw [if_neg h0, if_neg h1, if_pos h2]
          rw [e]
          exact HS3.out.put (HS3.out.cur.put2 true)
        clear h0 h1 h2 hb1 hb2
        go_wp2_with fail
        go_roundw
        case rel => exact ⟨k + 1, by omega, by go_num, by rw [HD.out]; exact HS4⟩
        case measure => simp [intOf]; omega
      have t2 : (y.toList == prW.toList) = false := text_beq_no h2
      rw [prW_list] at t2
      by_cases h3 : y = muW
      · have t3 : (y.toList == muW.toList) = true := (text_beq _ _).2 h3
        rw [muW_list] at t3
        have HS4 : Hid (CcSt w H d (.slice (some ⟨g, 0, none⟩) n cp) l (w3.setCell ⟨H + 1, 3, none⟩ (.bool true))) := by
          show CcSt _ _ _ _ _ _
          have e : d = { c with mu := true } := by rw [HST.out]; unfold ccStep; rw [if_neg h0, if_neg h1, if_neg h2, if_pos h3]
          rw [e]
          exact HS3.out.put (HS3.out.cur.put3 true)
        clear h0 h1 h2 h3 hb1 hb2
        go_wp2_with fail
        go_roundw
        case rel => exact ⟨k + 1, by omega, by go_num, by rw [HD.out]; exact HS4⟩
        case measure => simp [intOf]; omega
      have t3 : (y.toList == muW.toList) = false := text_beq_no h3
      rw [muW_list] at t3
      have HRE : Hid (ccStep c y = match ageOf y with | none => c | some n => if c.ha = true then { c with age := min c.age n } else { c with ha := true, age := n }) := by
        show _ = _
        unfold ccStep
        rw [if_neg h0, if_neg h1, if_neg h2, if_neg h3] <;> rfl
      clear h0 h1 h2 h3
      cases ba with
      | false =>
        have HS4 : Hid (CcSt w H d (.slice (some ⟨g, 0, none⟩) n cp) l w3) := by
          show CcSt _ _ _ _ _ _
          have e : d = c := by rw [HST.out, HRE.out, hb2 rfl]
          rw [e]
          exact HS3.out
        clear hb1 hb2
        go_wp2_with fail
        go_roundw
        case rel => exact ⟨k + 1, by omega, by go_num, by rw [HD.out]; exact HS4⟩
        case measure => simp [intOf]; omega
      | true =>
        cases hha : c.ha with
        | true =>
          have HS4 : Hid (CcSt w H d (.slice (some ⟨g, 0, none⟩) n cp) l (w3.setCell ⟨H + 1, 5, none⟩ (.int .i64 (min c.age na)))) := by
            show CcSt _ _ _ _ _ _
            have e : d = { c with age := min c.age na } := by rw [HST.out, HRE.out, hb1 rfl]; dsimp only; rw [if_pos hha]
            rw [e]
            exact HS3.out.put (HS3.out.cur.put5 _)
          rw [hha] at q4
          clear hb1 hb2 hha
          go_wp2_with fail
          refine (l1Min_any _ _ _).mono ?_
          rintro e w4 ⟨rfl, rfl⟩
          go_wp2_with fail
          go_roundw
          case rel => exact ⟨k + 1, by omega, by go_num, by rw [HD.out]; exact HS4⟩
          case measure => simp [intOf]; omega
        | false =>
          have HS4a : CcSt w H { c with ha := true } (.slice (some ⟨g, 0, none⟩) n cp) l (w3.setCell ⟨H + 1, 4, none⟩ (.bool true)) := HS3.out.put (HS3.out.cur.put4 true)
          have HS4 : Hid (CcSt w H d (.slice (some ⟨g, 0, none⟩) n cp) l ((w3.setCell ⟨H + 1, 4, none⟩ (.bool true)).setCell ⟨H + 1, 5, none⟩ (.int .i64 na))) := by
            show CcSt _ _ _ _ _ _
            have e : d = { c with ha := true, age := na } := by rw [HST.out, HRE.out, hb1 rfl]; dsimp only; rw [if_neg (by rw [hha]; decide)]
            rw [e]
            exact HS4a.put (HS4a.cur.put5 _)
          have q5a := HS4a.cur.cells.2.2.2.2.2
          have f5a := HS4a.cur.frozen 5
          rw [hha] at q4
          clear hb1 hb2 hha HS4a
          go_wp2_with fail
          go_roundw
          case rel => exact ⟨k + 1, by omega, by go_num, by rw [HD.out]; exact HS4⟩
          case measure => simp [intOf]; omega
    · obtain rfl : k = n := by omega
      have HE : Hid (ccTo (l.take k) = ccR s) := by
        show _ = _
        rw [List.take_of_length_le (by rw [HN.out]; exact Nat.le_refl _)]
        unfold ccR
        rw [HLS.out]
      rw [HE.out] at HS
      obtain ⟨c, hc⟩ : ∃ c, c = ccR s := ⟨_, rfl⟩
      rw [← hc] at HS
      have HC : Hid (c = ccR s) := hc
      obtain ⟨q0, q1, q2, q3, q4, q5⟩ := HS.out.cur.cells
      obtain ⟨r0, r1, r2, r3, r4, r5⟩ := HS.out.res.cells
      have f0 := HS.out.res.frozen 0
      have f1 := HS.out.res.frozen 1
      have f2 := HS.out.res.frozen 2
      have f3 := HS.out.res.frozen 3
      have f4 := HS.out.res.frozen 4
      have f5 := HS.out.res.frozen 5
      obtain ⟨m0, m1, m2, m3, m4, m5⟩ := (HS.out.res.putAll c).cells
      have HB : Hid (Below H w (putCc wr H c)) := below_putCc HS.out.low (Nat.le_refl _) c
      clear hc HE
      unfold putCc at m0 m1 m2 m3 m4 m5 HB
      go_wp2_with fail
      refine bodyPost_ret (v := c.v) (by simp [results, Tryz.results145, go_sem, m0, m1, m2, m3, m4, m5, CcD.v]) rfl ?_
      exact ⟨by rw [HC.out], by rw [HW.out]; exact HB.out⟩

set_option maxHeartbeats 1000000 in
theorem specCcOf_any (v : Value) (n base : Nat) (fs : List (ByteArray × ByteArray)) (w : World) (hv : FieldsV w base v n fs) (hn : n ≤ 1073741824) (hsz : (getV fs ccName).size ≤ 1048576) :
    Calls Tryz.prog 114 #[v] w fun e w' => e = .returned (ccR (getV fs ccName)).v ∧ Below w.heap.size w w' := by
  have hv1 : FieldsV (w.alloc (.cells cc0.cs 101)) base v n fs := hv.below ((Below.refl _ _).alloc (Nat.le_refl _) _)
  have HR0 : Hid (CcAt (w.alloc (.cells cc0.cs 101)) w.heap.size cc0) := heap_alloc_new w _
  obtain ⟨t, ht⟩ : ∃ t, t = getV fs ccName := ⟨_, rfl⟩
  have HT : Hid (getV fs ccName = t) := ht.symm
  rw [← ht] at hsz
  obtain ⟨c, hc⟩ : ∃ c, c = ccR t := ⟨_, rfl⟩
  have HC : Hid (ccR t = c) := hc.symm
  rw [← ht, ← hc]
  clear ht hc hv
  go_enter Tryz.func114, Tryz.ntmps114
  go_wp2_with fail
  refine (specGet_any v n base fs ccName _ hv1 hn).mono ?_
  rintro e w1 ⟨rfl, rfl⟩
  rw [HT.out]
  clear hv1
  go_wp2_with fail
  refine (specCcRead_any t _ hsz).mono ?_
  rintro e w2 ⟨rfl, b2⟩
  rw [HC.out]
  have hR := HR0.out.same (b2.block _ HR0.out.lt)
  obtain ⟨r0, r1, r2, r3, r4, r5⟩ := hR.cells
  have f0 := hR.frozen 0
  have f1 := hR.frozen 1
  have f2 := hR.frozen 2
  have f3 := hR.frozen 3
  have f4 := hR.frozen 4
  have f5 := hR.frozen 5
  obtain ⟨m0, m1, m2, m3, m4, m5⟩ := (hR.putAll c).cells
  have HB : Hid (Below w.heap.size w (putCc w2 w.heap.size c)) := below_putCc (((Below.refl _ w).alloc (Nat.le_refl _) _).trans (b2.mono (by simp))) (Nat.le_refl _) c
  unfold putCc at m0 m1 m2 m3 m4 m5 HB
  clear hR b2 HR0
  unfold CcD.v
  go_wp2_with fail
  refine bodyPost_ret (v := c.v) (by simp [results, Tryz.results114, go_sem, m0, m1, m2, m3, m4, m5, CcD.v]) rfl ?_
  exact ⟨rfl, HB.out⟩

end Go.Proofs.YtdlhicdfldecgaaGreatDoor

namespace Go.Proofs.YtdlhicdfldecgaaGreatDoor
open Go.RowKit
open Go.Lib hiding intOf

set_option maxHeartbeats 1000000 in
theorem ccPickInt_any (c B g n : Nat) (f : Nat → Int) (a : Option Addr) (len cap : Nat) (zs : List Int) (w : World) (hcur : CurAt w c a len cap) (hcode : CodeAt w B a len zs) (hB : B ≤ c) (hn : 1 ≤ n) (hn2 : n ≤ 256) (hl : ∀ j, j < n → w.cell? ⟨g, j, none⟩ = some (.int .i64 (f j))) (hgc : g ≠ c) :
    Calls Tryz.prog 105 #[.pointer (some ⟨c, 0, none⟩), .slice (some ⟨g, 0, none⟩) n n] w fun e w' => ∃ j, j < n ∧ e = .returned (.int .i64 (f j)) ∧ CurAt w' c a len cap ∧ w.grownBy w' (some c) := by
  go_enter Tryz.func105, Tryz.ntmps105
  go_wp2_with fail
  refine (l1Below_any c B n a len cap zs _ hcur hcode hB (by omega) (by omega)).mono ?_
  rintro e w1 ⟨x, rfl, hx0, hx1, hcur1, hg1⟩
  obtain ⟨j, rfl⟩ := Int.eq_ofNat_of_zero_le hx0
  have hj : j < n := by omega
  have hcell : w1.cell? ⟨g, j, none⟩ = some (.int .i64 (f j)) := grown_cell hg1 (hl j hj) hgc
  go_wp2
  go_ret
  exact ⟨j, hj, rfl, hcur1, hg1⟩

end Go.Proofs.YtdlhicdfldecgaaGreatDoor

namespace Go.Proofs.YtdlhicdfldecgaaGreatDoor
open Go.RowKit
open Go.Lib hiding intOf

theorem putL_len (fs : List (ByteArray × ByteArray)) (name value : ByteArray) : (putF fs name value).length ≤ fs.length + 1 := by
  unfold putF
  split
  · rw [List.length_set]; omega
  · rw [List.length_append]; simp
theorem putL_short {fs : List (ByteArray × ByteArray)} (h : ShortF fs) {name value : ByteArray} (h1 : name.size ≤ 64) (h2 : value.size ≤ 64) : ShortF (putF fs name value) := by
  by_cases hin : atF fs name < fs.length
  · unfold putF
    rw [if_pos hin]
    intro f hf
    rcases List.mem_or_eq_of_mem_set hf with hf | hf
    · exact h f hf
    · subst hf
      refine ⟨?_, h2⟩
      first
        | exact h1
        | (unfold nameAt
           rw [List.getD_eq_getElem?_getD, List.getElem?_eq_getElem hin]
           exact (h _ (List.getElem_mem hin)).1)
  · unfold putF
    rw [if_neg hin]
    exact h.snoc h1 h2

/-- A call on the cursor answers a number. -/
def TimeDrawn (w : World) (c : Nat) (a : Option Addr) (len cap : Nat) (e : Ending) (w' : World) : Prop :=
  ∃ n : Int, e = .returned (.int .i64 n) ∧ -9223372036854775808 ≤ n ∧ n ≤ 9223372036854775807 ∧ CurAt w' c a len cap ∧ w.grownBy w' (some c)
def tmL : List Int := [-1, 1000000, 1000001, 9223372036854775807, -9223372036854775808]
theorem tmL_in : ∀ j, j < 5 → -9223372036854775808 ≤ tmL.getD j 0 ∧ tmL.getD j 0 ≤ 9223372036854775807 := by decide
set_option maxHeartbeats 1000000 in
set_option maxRecDepth 100000 in
theorem l7DrawTime_any (c B : Nat) (a : Option Addr) (len cap : Nat) (zs : List Int) (w : World) (hcur : CurAt w c a len cap) (hcode : CodeAt w B a len zs) (hB : B ≤ c) :
    Calls Tryz.prog 54 #[.pointer (some ⟨c, 0, none⟩)] w fun e w' => TimeDrawn w c a len cap e w' := by
  have HCO : Hid (∀ W, w.grownBy W (some c) → CodeAt W B a len zs) := fun W h => hcode.grown h hB
  go_enter Tryz.func54, Tryz.ntmps54
  go_wp2_with fail
  refine (l1Once_any c B 15 a len cap zs _ hcur hcode hB (by omega) (by omega)).mono ?_
  rintro e w1 ⟨hb, hcu1, hg1⟩
  obtain ⟨b, rfl⟩ := hb.out
  have HG1 : Hid (w.grownBy w1 (some c)) := hg1
  have hcl1 := hcu1.lt
  clear hb hcur hcode hg1
  cases b with
  | true =>
    have hla : ∀ j, j < 5 → (w1.alloc (.cells #[.int .i64 (-1), .int .i64 1000000, .int .i64 1000001, .int .i64 9223372036854775807, .int .i64 (-9223372036854775808)] 3)).cell? ⟨w1.heap.size, j, none⟩ = some (.int .i64 (tmL.getD j 0)) := by
      intro j hj
      rw [World.cell?_alloc_new]
      match j, hj with
      | 0, _ => rfl
      | 1, _ => rfl
      | 2, _ => rfl
      | 3, _ => rfl
      | 4, _ => rfl
    have HGA : Hid (∀ o, w.grownBy (w1.alloc o) (some c)) := fun o => grownBy_trans HG1.out (World.grownBy_alloc w1 o _)
    go_wp2_with fail
    refine (ccPickInt_any c B w1.heap.size 5 (fun j => tmL.getD j 0) a len cap zs _ (hcu1.below ((Below.refl _ _).alloc (Nat.le_refl _) _) hcl1) (HCO.out _ (HGA.out _)) hB (by omega) (by omega) (by exact hla) (by omega)).mono ?_
    rintro e w2 ⟨j, hj, rfl, hcu2, hg2⟩
    have hz := tmL_in j hj
    obtain ⟨z, hzz⟩ : ∃ z, z = tmL.getD j 0 := ⟨_, rfl⟩
    rw [← hzz] at hz ⊢
    have HG2 : Hid (w.grownBy w2 (some c)) := grownBy_trans (HGA.out _) hg2
    clear hzz hla hg2 hcu1
    go_wp2_with fail
    go_ret
    exact ⟨z, rfl, hz.1, hz.2, hcu2, HG2.out⟩
  | false =>
    go_wp2_with fail
    refine (l1Below_any c B 40 a len cap zs _ hcu1 (HCO.out _ HG1.out) hB (by omega) (by omega)).mono ?_
    rintro e w2 ⟨x, rfl, hx0, hx1, hcu2, hg2⟩
    have HG2 : Hid (w.grownBy w2 (some c)) := grownBy_trans HG1.out hg2
    clear hcu1 hg2
    go_wp2_with fail
    go_ret
    exact ⟨x, rfl, by omega, by omega, hcu2, HG2.out⟩

/-- While they are drawn. -/
structure FtSt (w : World) (c : Nat) (a : Option Addr) (len cap : Nat) (v : Value) (fs : List (ByteArray × ByteArray)) (wr : World) : Prop where
  own : wr.ownsRow (c + 1) 131 2 v fs.length (flatF fs)
  le : fs.length ≤ 41
  short : ShortF fs
  cur : CurAt wr c a len cap
  low : Below c w wr
theorem FtSt.grown {w : World} {c : Nat} {a : Option Addr} {len cap : Nat} {v : Value} {fs : List (ByteArray × ByteArray)} {wr W : World} (h : FtSt w c a len cap v fs wr) (hg : wr.grownBy W (some c)) (hcu : CurAt W c a len cap) : FtSt w c a len cap v fs W :=
  ⟨owns_same h.own (fun j hj => hg.block j (own_ltR h.own hj).2 (fun e => by cases e; have := (own_ltR h.own hj).1; omega)), h.le, h.short, hcu, h.low.grown hg (by have := h.cur.lt; omega) (by intro k hk; cases hk; exact Nat.le_refl _)⟩
end Go.Proofs.YtdlhicdfldecgaaGreatDoor

namespace Go.Proofs.YtdlhicdfldecgaaGreatDoor
open Go.RowKit
open Go.Lib hiding intOf

set_option maxHeartbeats 1000000 in
theorem place_any (v : Value) (n base : Nat) (fs : List (ByteArray × ByteArray)) (name : ByteArray) (w : World) (hv : FieldsV w base v n fs) (hn : n ≤ 1073741824) :
    Calls Tryz.prog 133 #[v, .string name] w fun e w' => e = .returned (.int .i64 (atF fs name : Int)) ∧ w' = w := by
  have hl := hv.len
  obtain ⟨oa, cap, rfl, hrow⟩ := hv.slice
  clear hv
  go_enter Tryz.func133, Tryz.ntmps133
  go_wp2
  go_loop [8] (fun i => ∃ k : Nat, k ≤ n ∧ i = .int .i64 (k : Int) ∧ Hid (∀ j, j < k → nameAt fs j ≠ name)) (fun i => n - (intOf i).toNat)
  case atStart => exact ⟨0, Nat.zero_le _, rfl, fun j h => absurd h (by omega)⟩
  case round =>
    obtain ⟨k, hk, rfl, hb⟩ := hrel
    by_cases hlt : k < n
    · obtain ⟨g, rfl, row⟩ := hrow k hlt
      have hc := row.name k hlt
      have hlt2 : (k : Int) < (n : Int) := by omega
      clear hrow row
      by_cases he : nameAt fs k = name
      · have hT : Hid (atF fs name = k) := atF_uniq (by omega) hb.out he
        have ht : ((nameAt fs k).toList == name.toList) = true := (text_beq _ _).2 he
        clear he
        go_wp2
        go_ret
        exact ⟨by rw [hT.out]; rfl, rfl⟩
      · have ht := text_beq_no he
        have HE : Hid (nameAt fs k ≠ name) := he
        clear he
        go_wp2
        go_round
        case rel =>
          refine ⟨k + 1, by omega, by go_num, ?_⟩
          intro j hj
          by_cases e : j = k
          · subst e; exact HE.out
          · exact hb.out j (by omega)
        case measure => simp [intOf]; omega
    · have hT : Hid (atF fs name = n) := by
        have := atF_none (fs := fs) (name := name) (fun j hj => hb.out j (by omega))
        show _ = _
        omega
      clear hrow
      go_wp2
      go_ret
      exact ⟨by rw [hT.out]; rfl, rfl⟩

set_option maxHeartbeats 1000000 in
theorem newField_any (nm vl : ByteArray) (w : World) (h1 : nm.size ≤ 281474976710656) (h2 : vl.size ≤ 281474976710656) :
    Calls Tryz.prog 144 #[.string nm, .string vl] w fun e w' => e = .returned (.agg #[.string nm, .string vl]) ∧ Below w.heap.size w w' := by
  go_enter Tryz.func144, Tryz.ntmps144
  go_wp2_with fail
  refine (clone_any nm _ h1).mono ?_
  rintro e w1 ⟨rfl, hb1⟩
  go_wp2_with fail
  refine (clone_any vl _ h2).mono ?_
  rintro e w2 ⟨rfl, hb2⟩
  obtain ⟨r, hr⟩ : ∃ r, r = w.heap.size := ⟨_, rfl⟩
  have h0 : (w.alloc (.cells #[.string ⟨#[]⟩, .string ⟨#[]⟩] 131)).heap.size = w.heap.size + 1 := by simp
  have hb : Below w.heap.size w w2 := ((Below.refl _ w).alloc (Nat.le_refl _) _).trans ((hb1.trans (hb2.mono hb1.size)).mono (by omega))
  have hre2 : w2.heap[r]? = some (.cells #[.string ⟨#[]⟩, .string ⟨#[]⟩] 131) := by
    rw [hr, (hb1.trans (hb2.mono hb1.size)).block _ (by omega)]; exact heap_alloc_new w _
  have hc0 : w2.cell? ⟨r, 0, none⟩ = some (.string ⟨#[]⟩) := by simp [World.cell?, hre2]
  have hc1 : w2.cell? ⟨r, 1, none⟩ = some (.string ⟨#[]⟩) := by simp [World.cell?, hre2]
  have hf0 : w2.frozen? ⟨r, 0, none⟩ = false := by simp [World.frozen?, hre2]
  have hf1 : w2.frozen? ⟨r, 1, none⟩ = false := by simp [World.frozen?, hre2]
  have hre3 := twoSet_heap nm vl hre2
  have k0 : (twoSet w2 r nm vl).cell? ⟨r, 0, none⟩ = some (.string nm) := by simp [World.cell?, hre3]
  have k1 : (twoSet w2 r nm vl).cell? ⟨r, 1, none⟩ = some (.string vl) := by simp [World.cell?, hre3]
  have hb3 : Below w.heap.size w (twoSet w2 r nm vl) := (hb.setCell (p := ⟨r, 0, none⟩) (by simp [hr]) _).setCell (p := ⟨r, 1, none⟩) (by simp [hr]) _
  have HB3 : Hid (Below w.heap.size w (twoSet w2 r nm vl)) := hb3
  rw [← hr]
  unfold twoSet at k0 k1
  clear hre3 hre2 hb hb3 hb1 hb2 hr h0
  go_wp2
  exact bodyPost_ret (v := .agg #[.string nm, .string vl]) (by simp [results, Tryz.results144, go_sem, k0, k1]) rfl ⟨rfl, HB3.out⟩

/-- Every text of the fields is short enough to be copied. -/
def CopyF (fs : List (ByteArray × ByteArray)) : Prop := ∀ i, i < fs.length → (nameAt fs i).size ≤ 281474976710656 ∧ (valAt fs i).size ≤ 281474976710656

set_option maxHeartbeats 1000000 in
theorem implGet_any (v : Value) (n base : Nat) (fs : List (ByteArray × ByteArray)) (name : ByteArray) (w : World) (hv : FieldsV w base v n fs) (hn : n ≤ 1073741824) (hsz : CopyF fs) :
    Calls Tryz.prog 88 #[v, .string name] w fun e w' => e = .returned (.tuple #[.string (getV fs name), .bool (getB fs name)]) ∧ Below w.heap.size w w' := by
  have hl := hv.len
  have hv0 := hv
  obtain ⟨oa, cap, rfl, hrow⟩ := hv0.slice
  clear hv0
  obtain ⟨k, hk⟩ : ∃ k, k = atF fs name := ⟨_, rfl⟩
  have hle := atF_le fs name
  by_cases hin : atF fs name < fs.length
  · have hV : Hid (getV fs name = valAt fs k) := by show _ = _; unfold getV; rw [if_pos hin, hk]
    have hB : Hid (getB fs name = true) := by show _ = _; unfold getB; simpa using hin
    obtain ⟨g, rfl, row⟩ := hrow k (by omega)
    have hc := row.val k (by omega)
    have hlt : (k : Int) < (n : Int) := by omega
    have hne : ((k : Int) == (n : Int)) = false := by rw [beq_eq_false_iff_ne]; omega
    obtain ⟨_, hz⟩ := hsz k (by omega)
    obtain ⟨vl, hvl⟩ : ∃ y, y = valAt fs k := ⟨_, rfl⟩
    rw [← hvl] at hV hc hz
    go_enter Tryz.func88, Tryz.ntmps88
    go_wp2_with fail
    refine (place_any _ n base fs name _ hv hn).mono ?_
    rintro e w1 ⟨rfl, rfl⟩
    rw [← hk]
    clear hv hrow row hk hvl hle hin hsz
    go_wp2_with fail
    refine (clone_any vl _ hz).mono ?_
    rintro e w2 ⟨rfl, hb2⟩
    go_wp2
    go_ret2
    exact ⟨by rw [hV.out, hB.out]; rfl, hb2⟩
  · have hV : Hid (getV fs name = ⟨#[]⟩) := by show _ = _; unfold getV; rw [if_neg hin]
    have hB : Hid (getB fs name = false) := by show _ = _; unfold getB; simpa using hin
    have hkn : k = n := by omega
    go_enter Tryz.func88, Tryz.ntmps88
    go_wp2_with fail
    refine (place_any _ n base fs name _ hv hn).mono ?_
    rintro e w1 ⟨rfl, rfl⟩
    rw [← hk, hkn]
    clear hv hrow hk hle hin hsz hkn
    go_wp2
    go_ret2
    exact ⟨by rw [hV.out, hB.out]; rfl, Below.refl _ _⟩

end Go.Proofs.YtdlhicdfldecgaaGreatDoor

namespace Go.Proofs.YtdlhicdfldecgaaGreatDoor
open Go.RowKit
open Go.Lib hiding intOf

/-- 'wpAnyH_take', its place named. -/
theorem wpAnyH_takeD {P : Program} {ops : Array Oper} {Q : Exit → Act → World → Prop} {md : Region.Mode} {S : World → Prop} {i : Nat} {oi : Oper} {v : Value} {fuel : Nat} {listed : Array Bool} {a : Act} {w : World} (d : Option Tmp) (hi : ops[i]? = some oi) (hd : oi.dst = d)
    (hs : Region.noSelect ops = true) (hf : Region.free md ops listed i = true) (hr : (Region.ready md ops listed).contains i = true)
    (hQ : ∀ c a w, Q (.panic c) (a.put oi.dst v) w → Q (.panic c) a w) (hy : YieldsIf P ops S oi v a) (hS : S w)
    (h : wpAnyH P md ops Q S fuel (listed.setIfInBounds i true) (a.put d v) w) : wpAnyH P md ops Q S (fuel + 1) listed a w :=
  wpAnyH_take hi hs hf hr hQ hy hS (hd ▸ h)
end Go.Proofs.YtdlhicdfldecgaaGreatDoor
