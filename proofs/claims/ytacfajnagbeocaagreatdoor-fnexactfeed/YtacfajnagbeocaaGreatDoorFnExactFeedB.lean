/- What the proof of FnExactFeed leans on: contracts of the program's and the specification's functions, and plain facts (part 2 of 3). -/
import Derived.Test.YtacfajnagbeocaaGreatDoorFnExactFeedA
namespace Go.Proofs.YtacfajnagbeocaaGreatDoor
open Go.RowKit
open Go.Lib hiding intOf

/-- The lines of a head, in a list of the call's own, and where what is behind them begins. -/
def HeadIs (s : ByteArray) (w : World) (e : Ending) (w' : World) : Prop :=
  ∃ (v : Value) (xs : List ByteArray) (p : Int), e = .returned (.tuple #[v, .int .i64 p]) ∧ w'.ownsRow w.heap.size 9 1 v xs.length (xs.map Value.string) ∧ xs.length ≤ s.size ∧ Below w.heap.size w w' ∧
    ((p = -1 ∧ headL [] [] (bs s) = (xs.map bs, none)) ∨ ∃ k : Nat, p = (k : Int) ∧ k ≤ s.size ∧ headL [] [] (bs s) = (xs.map bs, some ((bs s).drop k)))

theorem hd_go {s : ByteArray} {l : List ByteArray} {f j : Nat} (hf : f ≤ j + 1) (hj : j + 1 < s.size) (hn : f ≤ j → ¬ ((s[j]'(by omega)).toNat = 13 ∧ (s[j + 1]'hj).toNat = 10)) (h : HdInv s l f j) : HdInv s l f (j + 1) := by
  by_cases c : f ≤ j
  · exact hd_other c hj (hn c) h
  · exact hd_skip (by omega) h

set_option maxHeartbeats 4000000 in
set_option maxRecDepth 100000 in
theorem l3Head_any (s : ByteArray) (w : World) (hs : s.size ≤ 4000000) :
    Calls Tryz.prog 22 #[.string s] w fun e w' => HeadIs s w e w' := by
  obtain ⟨i0, hi, hz0, hz1, hz2⟩ := info_parts info9
  go_enter Tryz.func22, Tryz.ntmps22
  go_wp2
  go_loopw [4, 5, 6] (fun v a i wr => ∃ (j f : Nat) (l : List ByteArray), (j + 1 ≤ s.size ∨ j = 0) ∧ f ≤ j + 1 ∧ l.length ≤ f ∧ f ≤ s.size ∧ i = .int .i64 ((j : Int) + 1) ∧ a = .int .i64 (f : Int) ∧ Below w.heap.size w wr ∧
      Hid (HdInv s l f j) ∧ wr.ownsRow w.heap.size 9 1 v l.length (l.map Value.string)) (fun _ _ i _ => s.size + 1 - (intOf i).toNat)
  case atStart =>
    exact ⟨0, 0, [], .inr rfl, Nat.zero_le _, Nat.le_refl _, Nat.zero_le _, rfl, rfl, (Below.refl _ _).alloc (Nat.le_refl _) _, hd_start s, ⟨rfl, .inr ⟨w.heap.size, 0, #[], rfl, Nat.le_refl _, heap_alloc_new w _, Nat.le_refl _, Nat.zero_le _, rfl, rfl⟩⟩⟩
  case round =>
    obtain ⟨j, f, l, hj, hfj, hlf, hfs, rfl, rfl, hbw, hinv, hown⟩ := hrel
    by_cases hlt : j + 1 < s.size
    · have hlt2 : (j : Int) + 1 < (s.size : Int) := by omega
      have hjs : j < s.size := by omega
      by_cases h10 : (s[j + 1]'hlt).toNat = 10
      · have t1 : (((s[j + 1]'hlt).toNat : Int) != 10) = false := by rw [bne_eq_false_iff_eq]; omega
        by_cases h13 : (s[j]'hjs).toNat = 13
        · have t2 : (((s[j]'hjs).toNat : Int) != 13) = false := by rw [bne_eq_false_iff_eq]; omega
          by_cases hf : f ≤ j
          · have t3 : ¬ (j : Int) < (f : Int) := by omega
            by_cases hfe : f = j
            · have HF : Hid _ := hd_fin hfe hlt h13 h10 hinv.out
              subst hfe
              clear h10 h13 hj
              go_wp2
              go_ret2
              exact ⟨_, l, _, rfl, hown, by omega, hbw, .inr ⟨f + 2, by omega, by omega, HF.out⟩⟩
            · have HI : Hid _ := hd_line (by omega) hlt h13 h10 hinv.out
              have he : (s.extract f j).toList.isEmpty = false := by
                rw [ByteArray.toList_eq, List.isEmpty_eq_false_iff]
                intro e
                have := congrArg List.length e
                simp at this; omega
              have h63 : l.length + 1 ≤ maxLen := by unfold maxLen; omega
              have h47 : (l.length + 1) * 16 ≤ 140737488355328 := by omega
              have HBS : ∀ o, w.heap.size ≤ (wr.alloc o).heap.size := fun o => by have := hbw.size; simp; omega
              clear h10 h13 hj
              go_wp2_with (at_builtin; refine wpList_append_own _ rfl _ _ 49 rfl w.heap.size 9 i0 (.string ⟨#[]⟩) 1 16 Tryz.underlying49 hi hz0 hz1 hz2 rfl (by decide) _ _ _ rfl (hown.alloc _) ⟨wr.heap.size, 0, none⟩ 1 1 [.string (s.extract f j)] rfl rfl (cell_one_new _ _ _) (one_text _) h63 h47 (HBS _) ?_)
              intro v1 w2 hown2 hgrow _
              have hb2 : Below w.heap.size w w2 := (hbw.alloc hbw.size _).grown hgrow (HBS _) (fun g hg => owns_ge hown hg)
              have hown3 : w2.ownsRow w.heap.size 9 1 v1 (l ++ [s.extract f j]).length ((l ++ [s.extract f j]).map Value.string) := by simpa using hown2
              clear hown HBS hgrow hown2 hbw
              go_wp2
              go_roundw
              case rel => exact ⟨j + 1, j + 2, _, .inl (by omega), by omega, by simp; omega, by omega, by go_num, by go_num, hb2, HI, hown3⟩
              case measure => simp [intOf]; omega
          · have t3 : (j : Int) < (f : Int) := by omega
            have HI : Hid _ := hd_go hfj hlt (fun h => absurd h hf) hinv.out
            clear h10 h13 hj
            go_wp2
            go_roundw
            case rel => exact ⟨j + 1, f, l, .inl (by omega), by omega, hlf, hfs, by go_num, rfl, hbw, HI, hown⟩
            case measure => simp [intOf]; omega
        · have t2 : (((s[j]'hjs).toNat : Int) != 13) = true := by rw [bne_iff_ne]; omega
          have HI : Hid _ := hd_go hfj hlt (fun _ h => h13 h.1) hinv.out
          clear h10 h13 hj
          go_wp2
          go_roundw
          case rel => exact ⟨j + 1, f, l, .inl (by omega), by omega, hlf, hfs, by go_num, rfl, hbw, HI, hown⟩
          case measure => simp [intOf]; omega
      · have t1 : (((s[j + 1]'hlt).toNat : Int) != 10) = true := by rw [bne_iff_ne]; omega
        have HI : Hid _ := hd_go hfj hlt (fun _ h => h10 h.2) hinv.out
        clear h10 hj
        go_wp2
        go_roundw
        case rel => exact ⟨j + 1, f, l, .inl (by omega), by omega, hlf, hfs, by go_num, rfl, hbw, HI, hown⟩
        case measure => simp [intOf]; omega
    · have HE : Hid _ := hd_end hlt hinv.out
      have hlt2 : ¬ (j : Int) + 1 < (s.size : Int) := by omega
      go_wp2
      go_ret2
      exact ⟨_, l, _, rfl, hown, by omega, hbw, .inl ⟨rfl, HE.out⟩⟩

/-- What stands between blanks, in a list of the call's own. -/
def WordsIs (s : ByteArray) (w : World) (e : Ending) (w' : World) : Prop :=
  ∃ (v : Value) (xs : List ByteArray), e = .returned v ∧ w'.ownsRow w.heap.size 9 1 v xs.length (xs.map Value.string) ∧ xs.length ≤ s.size + 1 ∧ Below w.heap.size w w' ∧ wordsL [] [] (bs s) = xs.map bs

set_option maxHeartbeats 4000000 in
set_option maxRecDepth 100000 in
theorem l3Words_any (s : ByteArray) (w : World) (hs : s.size ≤ 4000000) :
    Calls Tryz.prog 23 #[.string s] w fun e w' => WordsIs s w e w' := by
  obtain ⟨i0, hi, hz0, hz1, hz2⟩ := info_parts info9
  go_enter Tryz.func23, Tryz.ntmps23
  go_wp2
  go_loopw [3, 4, 5] (fun v a i wr => ∃ (k f : Nat) (l : List ByteArray), k ≤ s.size + 1 ∧ f ≤ k ∧ l.length ≤ k ∧ i = .int .i64 (k : Int) ∧ a = .int .i64 (f : Int) ∧ Below w.heap.size w wr ∧
      Hid (WdInv s l f k) ∧ wr.ownsRow w.heap.size 9 1 v l.length (l.map Value.string)) (fun _ _ i _ => s.size + 1 - (intOf i).toNat)
  case atStart =>
    exact ⟨0, 0, [], Nat.zero_le _, Nat.le_refl _, Nat.le_refl _, rfl, rfl, (Below.refl _ _).alloc (Nat.le_refl _) _, wd_start s, ⟨rfl, .inr ⟨w.heap.size, 0, #[], rfl, Nat.le_refl _, heap_alloc_new w _, Nat.le_refl _, Nat.zero_le _, rfl, rfl⟩⟩⟩
  case round =>
    obtain ⟨k, f, l, hk, hfk, hlk, rfl, rfl, hbw, hinv, hown⟩ := hrel
    have h63 : l.length + 1 ≤ maxLen := by unfold maxLen; omega
    have h47 : (l.length + 1) * 16 ≤ 140737488355328 := by omega
    by_cases hks : k ≤ s.size
    · have hks2 : (k : Int) ≤ (s.size : Int) := by omega
      by_cases hlt : k < s.size
      · have hlt2 : (k : Int) < (s.size : Int) := by omega
        have hne : ((k : Int) == (s.size : Int)) = false := by rw [beq_eq_false_iff_ne]; omega
        by_cases hc : (s[k]'hlt).toNat = 32
        · have t1 : (((s[k]'hlt).toNat : Int) == 32) = true := by rw [beq_iff_eq]; omega
          have HI : Hid _ := wd_blank hlt hc hinv.out
          have HBS : ∀ o, w.heap.size ≤ (wr.alloc o).heap.size := fun o => by have := hbw.size; simp; omega
          clear hc hk
          go_wp2_with (at_builtin; refine wpList_append_own _ rfl _ _ 49 rfl w.heap.size 9 i0 (.string ⟨#[]⟩) 1 16 Tryz.underlying49 hi hz0 hz1 hz2 rfl (by decide) _ _ _ rfl (hown.alloc _) ⟨wr.heap.size, 0, none⟩ 1 1 [.string (s.extract f k)] rfl rfl (cell_one_new _ _ _) (one_text _) h63 h47 (HBS _) ?_)
          intro v1 w2 hown2 hgrow _
          have hb2 : Below w.heap.size w w2 := (hbw.alloc hbw.size _).grown hgrow (HBS _) (fun g hg => owns_ge hown hg)
          have hown3 : w2.ownsRow w.heap.size 9 1 v1 (l ++ [s.extract f k]).length ((l ++ [s.extract f k]).map Value.string) := by simpa using hown2
          clear hown HBS hgrow hown2 hbw
          go_wp2
          go_roundw
          case rel => exact ⟨k + 1, k + 1, _, by omega, by omega, by simp; omega, by go_num, by go_num, hb2, HI, hown3⟩
          case measure => simp [intOf]; omega
        · have t1 : (((s[k]'hlt).toNat : Int) == 32) = false := by rw [beq_eq_false_iff_ne]; omega
          have HI : Hid _ := wd_other hfk hlt hc hinv.out
          clear hc hk
          go_wp2
          go_roundw
          case rel => exact ⟨k + 1, f, l, by omega, by omega, by omega, by go_num, rfl, hbw, HI, hown⟩
          case measure => simp [intOf]; omega
      · obtain rfl : k = s.size := by omega
        have HI : Hid _ := wd_last rfl hinv.out
        have HBS : ∀ o, w.heap.size ≤ (wr.alloc o).heap.size := fun o => by have := hbw.size; simp; omega
        clear hk
        go_wp2_with (at_builtin; refine wpList_append_own _ rfl _ _ 49 rfl w.heap.size 9 i0 (.string ⟨#[]⟩) 1 16 Tryz.underlying49 hi hz0 hz1 hz2 rfl (by decide) _ _ _ rfl (hown.alloc _) ⟨wr.heap.size, 0, none⟩ 1 1 [.string (s.extract f s.size)] rfl rfl (cell_one_new _ _ _) (one_text _) h63 h47 (HBS _) ?_)
        intro v1 w2 hown2 hgrow _
        have hb2 : Below w.heap.size w w2 := (hbw.alloc hbw.size _).grown hgrow (HBS _) (fun g hg => owns_ge hown hg)
        have hown3 : w2.ownsRow w.heap.size 9 1 v1 (l ++ [s.extract f s.size]).length ((l ++ [s.extract f s.size]).map Value.string) := by simpa using hown2
        clear hown HBS hgrow hown2 hbw
        go_wp2
        go_roundw
        case rel => exact ⟨s.size + 1, s.size + 1, _, by omega, by omega, by simp; omega, by go_num, by go_num, hb2, HI, hown3⟩
        case measure => simp [intOf]
    · have HE : Hid _ := wd_end hks hinv.out
      have hks2 : ¬ (k : Int) ≤ (s.size : Int) := by omega
      go_wp2
      go_ret
      exact ⟨_, l, rfl, hown, by omega, hbw, HE.out⟩

end Go.Proofs.YtacfajnagbeocaaGreatDoor

namespace Go.Proofs.YtacfajnagbeocaaGreatDoor
open Go.RowKit
open Go.Lib hiding intOf

theorem flatF_append (a b : List (ByteArray × ByteArray)) : flatF (a ++ b) = flatF a ++ flatF b := by simp [flatF]
theorem flatF_one (nm vl : ByteArray) : flatF [(nm, vl)] = [.string nm, .string vl] := rfl
theorem two_text (a b : ByteArray) : ∀ u ∈ [Value.string a, Value.string b], u.oneCell' = true := by
  intro u hu
  simp at hu
  rcases hu with rfl | rfl <;> rfl

/-- The cells of a row, one behind the other. -/
theorem FieldRow.cells {base : Nat} {w : World} {g n cap : Nat} {fs : List (ByteArray × ByteArray)} (h : FieldRow base w g n cap fs) : ∀ j u, (flatF fs)[j]? = some u → w.cell? ((⟨g, 0, none⟩ : Addr).add j) = some u := by
  intro j u hj
  have hl := h.len
  have hjl : j < fs.length * 2 := by
    rw [← flatF_len]
    exact (List.getElem?_eq_some_iff.1 hj).1
  have e0 : (⟨g, 0, none⟩ : Addr).add j = ⟨g, j, none⟩ := by
    unfold Addr.add; split <;> simp_all
  rw [e0]
  have hf := flatF_get fs (j / 2) (by omega)
  rcases Nat.mod_two_eq_zero_or_one j with e | e
  · have e2 : j / 2 * 2 = j := by omega
    have hc := h.name (j / 2) (by omega)
    rw [e2] at hf hc
    rw [hf.1] at hj
    cases hj
    exact hc
  · have e2 : j / 2 * 2 + 1 = j := by omega
    have hc := h.val (j / 2) (by omega)
    rw [e2] at hf hc
    rw [hf.2] at hj
    cases hj
    exact hc
end Go.Proofs.YtacfajnagbeocaaGreatDoor

namespace Go.Proofs.YtacfajnagbeocaaGreatDoor
open Go.RowKit
open Go.Lib hiding intOf

/-- A list of texts that a function reads, in blocks below B. -/
def TextsV (w : World) (B : Nat) (a : Option Addr) (n : Nat) (xs : List ByteArray) : Prop :=
  xs.length = n ∧ ∀ i (h : i < xs.length), ∃ g off, a = some ⟨g, off, none⟩ ∧ g < B ∧ w.cell? ⟨g, off + i, none⟩ = some (.string (xs[i]'h))
theorem TextsV.below {w w' : World} {B : Nat} {a : Option Addr} {n : Nat} {xs : List ByteArray} (h : TextsV w B a n xs) (hb : Below B w w') : TextsV w' B a n xs :=
  ⟨h.1, fun i hi => by
    obtain ⟨g, off, h1, h2, h3⟩ := h.2 i hi
    exact ⟨g, off, h1, h2, by rw [hb.cell (p := ⟨g, off + i, none⟩) h2]; exact h3⟩⟩

/-- A call answers the fields of these lines, in a list of its own. -/
def FieldsOf (xs : List ByteArray) (w : World) (e : Ending) (w' : World) : Prop :=
  ∃ (v : Value) (l : List (ByteArray × ByteArray)), e = .returned v ∧ w'.ownsRow w.heap.size 63 2 v l.length (flatF l) ∧ l.length ≤ xs.length ∧ Below w.heap.size w w' ∧ fieldsL (xs.map bs) = l.map bsP

set_option maxHeartbeats 4000000 in
set_option maxRecDepth 100000 in
theorem l3Fields_any (a : Option Addr) (n cap : Nat) (xs : List ByteArray) (w : World) (hv : TextsV w w.heap.size a n xs) (hn : n ≤ 4000000) (hsz : ∀ x ∈ xs, x.size ≤ 4000000) :
    Calls Tryz.prog 24 #[.slice a n cap] w fun e w' => FieldsOf xs w e w' := by
  obtain ⟨i0, hi, hz0, hz1, hz2⟩ := info_parts info33
  have hxl := hv.1
  have HV : Hid (∀ W, Below w.heap.size w W → TextsV W w.heap.size a n xs) := fun W h => hv.below h
  have HSZ : Hid (∀ x ∈ xs, x.size ≤ 4000000) := hsz
  clear hv hsz
  go_enter Tryz.func24, Tryz.ntmps24
  go_wp2
  go_loopw [3, 4] (fun v i wr => ∃ (k : Nat) (l : List (ByteArray × ByteArray)), k ≤ n ∧ l.length ≤ k ∧ i = .int .i64 (k : Int) ∧ Below w.heap.size w wr ∧ Hid (GdInv xs l k) ∧ wr.ownsRow w.heap.size 63 2 v l.length (flatF l)) (fun _ i _ => n - (intOf i).toNat)
  case atStart =>
    exact ⟨0, [], Nat.zero_le _, Nat.le_refl _, rfl, (Below.refl _ _).alloc (Nat.le_refl _) _, gd_start xs, ⟨rfl, .inr ⟨w.heap.size, 0, #[], rfl, Nat.le_refl _, heap_alloc_new w _, Nat.le_refl _, Nat.zero_le _, rfl, rfl⟩⟩⟩
  case round =>
    obtain ⟨k, l, hk, hlk, rfl, hbw, hinv, hown⟩ := hrel
    by_cases hlt : k < n
    · have hlt2 : (k : Int) < (n : Int) := by omega
      have hkx : k < xs.length := by omega
      obtain ⟨x, hx⟩ : ∃ x, x = xs[k]'hkx := ⟨_, rfl⟩
      have hxs : x.size ≤ 4000000 := by rw [hx]; exact HSZ.out _ (List.getElem_mem hkx)
      obtain ⟨g, off, rfl, hgB, _⟩ := (HV.out wr hbw).2 k hkx
      have HC : Hid (∀ W, Below w.heap.size w W → W.cell? ⟨g, off + k, none⟩ = some (.string x)) := fun W h => by
        obtain ⟨g2, off2, e2, _, h2⟩ := (HV.out W h).2 k hkx
        cases e2
        rw [hx]; exact h2
      have HX : Hid (xs[k]'hkx = x) := hx.symm
      clear hx
      go_wp2
      go_loopw [3, 5] (fun o q wq => ∃ m : Nat, (m + 1 ≤ x.size ∨ m = 0) ∧ o = u3 ∧ q = .int .i64 (m : Int) ∧ Below wr.heap.size wr wq ∧ Hid (FdInv x m)) (fun _ q _ => x.size + 1 - (intOf q).toNat)
      case atStart => exact ⟨0, .inr rfl, rfl, rfl, Below.refl _ _, fd_start x⟩
      case round =>
        obtain ⟨m, hm, rfl, rfl, hbq, hfd⟩ := hrel
        have hbW : Below w.heap.size w wr := hbw.trans (hbq.mono hbw.size)
        have hc := HC.out wr hbW
        by_cases hml : m + 1 < x.size
        · have hml2 : (m : Int) + 1 < (x.size : Int) := by omega
          have hml3 : (m : Int) < (x.size : Int) := by omega
          have hmx : m < x.size := by omega
          by_cases h58 : (x[m]'hmx).toNat = 58
          · have t1 : (((x[m]'hmx).toNat : Int) == 58) = true := by rw [beq_iff_eq]; omega
            by_cases h32 : (x[m + 1]'hml).toNat = 32
            · have t2 : (((x[m + 1]'hml).toNat : Int) == 32) = true := by rw [beq_iff_eq]; omega
              have HF : Hid (fieldL [] (bs (xs[k]'hkx)) = some (bs (x.extract 0 m), bs (x.extract (m + 2) x.size))) := by rw [HX.out]; exact fd_cut hml h58 h32 hfd.out
              clear h58 h32 hm
              have hnew := World.new_ne wr ⟨g, off + k, none⟩ hc
              have hmz : ((m : Int) + 2) ≤ (x.size : Int) := by omega
              have hm0 : (0 : Int) ≤ (m : Int) := by omega
              have hm2 : (0 : Int) ≤ (m : Int) + 2 := by omega
              have hmi : (m : Int) ≤ (x.size : Int) := by omega
              have hmn : m ≤ x.size := by omega
              have hmk : m + 2 ≤ x.size := by omega
              have hwr : IntKind.i64.wrap ((m : Int) + 2) = (m : Int) + 2 := by rw [IntKind.wrap_i64]; omega
              go_wp2_with fail
              go_region_held3 (fun W => W.cell? ⟨g, off + k, none⟩ = some (.string x)) (first | assumption | go_keep) (fail)
              obtain ⟨nm, hnm⟩ : ∃ y, y = x.extract 0 m := ⟨_, rfl⟩
              obtain ⟨vl, hvl⟩ : ∃ y, y = x.extract ((m : Int) + 2).toNat x.size := ⟨_, rfl⟩
              have HF2 : Hid (fieldL [] (bs (xs[k]'hkx)) = some (bs nm, bs vl)) := by
                show _ = _
                rw [HF.out, hnm, hvl, show ((m : Int) + 2).toNat = m + 2 by omega]
              rw [← hnm, ← hvl]
              obtain ⟨w2, hw2⟩ : ∃ W, W = (wr.alloc (.cells #[.string nm, .string vl] 63)).drew := ⟨_, rfl⟩
              obtain ⟨r, hr⟩ : ∃ r, r = wr.heap.size := ⟨_, rfl⟩
              have hh : w2.heap[r]? = some (.cells #[.string nm, .string vl] 63) := by rw [hw2, hr]; exact heap_alloc_new wr _
              have hc0 : w2.cell? ⟨r, 0, none⟩ = some (.string nm) := by simp [World.cell?, hh]
              have hc1 : w2.cell? ⟨r, 1, none⟩ = some (.string vl) := by simp [World.cell?, hh]
              have b2 : Below wr.heap.size wr w2 := by rw [hw2]; exact ((Below.refl _ wr).alloc (Nat.le_refl _) _).drew
              have hbW2 : Below w.heap.size w w2 := hbW.trans (b2.mono hbW.size)
              have hown2 : w2.ownsRow w.heap.size 63 2 u3 l.length (flatF l) := owns_below (owns_below hown hbq (fun g hg => owns_lt hown hg)) b2 (fun g hg => owns_lt (owns_below hown hbq (fun g hg => owns_lt hown hg)) hg)
              rw [← hw2, ← hr]
              clear hw2 hr hh b2 hnm hvl HF hc hnew hbq hbW hown
              by_cases hcl : nm = clen
              · have ht := (text_beq _ _).2 hcl
                rw [clen_list] at ht
                have HI : Hid (GdInv xs l (k + 1)) := gd_clen hkx HF2.out hcl hinv.out
                clear hcl
                go_wp2
                go_roundw
                case rel => exact ⟨k + 1, l, by omega, by omega, by go_num, hbW2, HI, hown2⟩
                case measure => simp [intOf]; omega
              · have ht := text_beq_no hcl
                rw [clen_list] at ht
                have HI : Hid (GdInv xs (l ++ [(nm, vl)]) (k + 1)) := gd_some hkx HF2.out hcl hinv.out
                have h63 : l.length + 1 ≤ maxLen := by unfold maxLen; omega
                have h47 : (l.length + 1) * 32 ≤ 140737488355328 := by omega
                have HBS : ∀ o, w.heap.size ≤ (w2.alloc o).heap.size := fun o => by have := hbW2.size; simp; omega
                clear hcl
                go_wp2_with (at_builtin; refine wpList_append_own _ rfl _ _ 35 rfl w.heap.size 63 i0 (.agg #[.string ⟨#[]⟩, .string ⟨#[]⟩]) 2 32 Tryz.underlying35 hi hz0 hz1 hz2 rfl (by decide) _ _ _ rfl (hown2.alloc _) ⟨w2.heap.size, 0, none⟩ 1 1 [.string nm, .string vl] rfl rfl (cell_two_new _ _ _ _) (two_text _ _) h63 h47 (HBS _) ?_)
                intro v1 w3 hown3 hgrow _
                have hb3 : Below w.heap.size w w3 := (hbW2.alloc hbW2.size _).grown hgrow (HBS _) (fun g hg => owns_ge hown2 hg)
                have hown4 : w3.ownsRow w.heap.size 63 2 v1 (l ++ [(nm, vl)]).length (flatF (l ++ [(nm, vl)])) := by rw [flatF_append, flatF_one]; simpa using hown3
                clear hown3 HBS hgrow hown2 hbW2
                go_wp2
                go_roundw
                case rel => exact ⟨k + 1, _, by omega, by simp; omega, by go_num, hb3, HI, hown4⟩
                case measure => simp [intOf]; omega
            · have t2 : (((x[m + 1]'hml).toNat : Int) == 32) = false := by rw [beq_eq_false_iff_ne]; omega
              have HI : Hid _ := fd_other hml (fun h => h32 h.2) hfd.out
              clear h58 h32 hm
              go_wp2
              go_roundw
              case rel => exact ⟨m + 1, .inl (by omega), rfl, by go_num, hbq, HI⟩
              case measure => simp [intOf]; omega
          · have t1 : (((x[m]'hmx).toNat : Int) == 58) = false := by rw [beq_eq_false_iff_ne]; omega
            have HI : Hid _ := fd_other hml (fun h => h58 h.1) hfd.out
            clear h58 hm
            go_wp2
            go_roundw
            case rel => exact ⟨m + 1, .inl (by omega), rfl, by go_num, hbq, HI⟩
            case measure => simp [intOf]; omega
        · have hml2 : ¬ (m : Int) + 1 < (x.size : Int) := by omega
          have hmb : (m : Int) ≤ 4000000 := by omega
          have HI : Hid (GdInv xs l (k + 1)) := gd_none hkx (by rw [HX.out]; exact fd_end hml hfd.out) hinv.out
          have hownq := owns_below hown hbq (fun g hg => owns_lt hown hg)
          clear hm
          go_wp2
          go_roundw
          case rel => exact ⟨k + 1, l, by omega, by omega, by go_num, hbW, HI, hownq⟩
          case measure => simp [intOf]; omega
    · have HE : Hid _ := gd_end (by omega) hinv.out
      have hlt2 : ¬ (k : Int) < (n : Int) := by omega
      go_wp2
      go_ret
      exact ⟨_, l, rfl, hown, by omega, hbw, HE.out⟩

end Go.Proofs.YtacfajnagbeocaaGreatDoor

namespace Go.Proofs.YtacfajnagbeocaaGreatDoor
open Go.RowKit
open Go.Lib hiding intOf

theorem headL_len : ∀ (n : Nat) (r : List UInt8) (out : List (List UInt8)) (cur : List UInt8), r.length ≤ n → ∀ x ∈ (headL out cur r).1, x ∈ out ∨ x.length ≤ cur.length + r.length := by
  intro n
  induction n with
  | zero =>
    intro r out cur h x hx
    rw [headL_short out cur r (by omega)] at hx
    exact .inl hx
  | succ n ih =>
    intro r out cur h x hx
    match r, h with
    | [], _ => exact .inl hx
    | [_], _ => exact .inl hx
    | c :: d :: t, h =>
      rw [headL] at hx
      split at hx
      · split at hx
        · exact .inl hx
        · rcases ih t (out ++ [cur]) [] (by simp at h; omega) x hx with h1 | h1
          · rcases List.mem_append.1 h1 with h2 | h2
            · exact .inl h2
            · simp at h2; subst h2; exact .inr (by omega)
          · exact .inr (by simp at h1 ⊢; omega)
      · rcases ih (d :: t) out (cur ++ [c]) (by simp at h ⊢; omega) x hx with h1 | h1
        · exact .inl h1
        · exact .inr (by simp at h1 ⊢; omega)
theorem wordsL_len : ∀ (r : List UInt8) (out : List (List UInt8)) (cur : List UInt8), ∀ x ∈ wordsL out cur r, x ∈ out ∨ x.length ≤ cur.length + r.length := by
  intro r
  induction r with
  | nil =>
    intro out cur x hx
    rw [wordsL] at hx
    rcases List.mem_append.1 hx with h | h
    · exact .inl h
    · simp at h; subst h; exact .inr (by simp)
  | cons c t ih =>
    intro out cur x hx
    rw [wordsL] at hx
    split at hx
    · rcases ih (out ++ [cur]) [] x hx with h1 | h1
      · rcases List.mem_append.1 h1 with h2 | h2
        · exact .inl h2
        · simp at h2; subst h2; exact .inr (by omega)
      · exact .inr (by simp at h1 ⊢; omega)
    · rcases ih out (cur ++ [c]) x hx with h1 | h1
      · exact .inl h1
      · exact .inr (by simp at h1 ⊢; omega)
theorem fieldL_len : ∀ (n : Nat) (r cur a b : List UInt8), r.length ≤ n → fieldL cur r = some (a, b) → a.length ≤ cur.length + r.length ∧ b.length ≤ r.length := by
  intro n
  induction n with
  | zero =>
    intro r cur a b h he
    rw [fieldL_short cur r (by omega)] at he
    cases he
  | succ n ih =>
    intro r cur a b h he
    match r, h with
    | [], _ => cases he
    | [_], _ => cases he
    | c :: d :: t, h =>
      rw [fieldL] at he
      split at he
      · cases he
        simp; omega
      · have := ih (d :: t) (cur ++ [c]) a b (by simp at h ⊢; omega) he
        simp at this ⊢; omega
theorem fieldsL_len : ∀ (ls : List (List UInt8)), ∀ f ∈ fieldsL ls, ∃ x ∈ ls, f.1.length ≤ x.length ∧ f.2.length ≤ x.length := by
  intro ls
  induction ls with
  | nil => intro f hf; simp [fieldsL] at hf
  | cons l r ih =>
    intro f hf
    rw [fieldsL] at hf
    split at hf
    · rename_i g hg
      split at hf
      · obtain ⟨x, hx, h⟩ := ih f hf
        exact ⟨x, by simp [hx], h⟩
      · rcases List.mem_cons.1 hf with rfl | hf
        · have := fieldL_len l.length l [] f.1 f.2 (Nat.le_refl _) hg
          exact ⟨l, by simp, by simpa using this.1, this.2⟩
        · obtain ⟨x, hx, h⟩ := ih f hf
          exact ⟨x, by simp [hx], h⟩
    · obtain ⟨x, hx, h⟩ := ih f hf
      exact ⟨x, by simp [hx], h⟩
theorem map_bs_inj : ∀ {a b : List ByteArray}, a.map bs = b.map bs → a = b
  | [], [], _ => rfl
  | [], _ :: _, h => by simp at h
  | _ :: _, [], h => by simp at h
  | x :: r, y :: t, h => by
    simp only [List.map_cons, List.cons.injEq] at h
    rw [map_bs_inj h.2, bs_inj h.1]

/-- Which method a word names, of the first k. -/
def methTo (a : ByteArray) : Nat → Int
  | 0 => 0
  | k + 1 => if 1 ≤ k ∧ methB (k : Int) = a then (k : Int) else methTo a k
theorem methTo_of {m : Int} (h : 1 ≤ m ∧ m ≤ 4) : methTo (methB m) 5 = m := by
  rcases meth_cases h with rfl | rfl | rfl | rfl <;> decide
/-- What is read of a text, ahead of the last look: the words of its first line, the fields of the others, what is behind. -/
structure Parts (s : ByteArray) (xs : List ByteArray) (k : Nat) (ws : List ByteArray) (l : List (ByteArray × ByteArray)) : Prop where
  head : headL [] [] (bs s) = (xs.map bs, some ((bs s).drop k))
  ne : xs ≠ []
  words : wordsL [] [] (bs (xs.headD ⟨#[]⟩)) = ws.map bs
  fields : fieldsL (xs.tail.map bs) = l.map bsP
/-- A request's text is read as the request. -/
theorem IsReq.parts {s : ByteArray} {m : Int} {p : ByteArray} {fs : List (ByteArray × ByteArray)} {b : ByteArray} (h : IsReq s m p fs b) {xs : List ByteArray} {k : Nat} {ws : List ByteArray} {l : List (ByteArray × ByteArray)} (hp : Parts s xs k ws l) :
    ∃ x, ws = [methB m, p, x] ∧ l = fs ∧ s.extract k s.size = b := by
  have e := hp.head.symm.trans (req_head h)
  simp only [Prod.mk.injEq, Option.some.injEq] at e
  obtain ⟨e1, e2⟩ := e
  obtain ⟨x0, xr, rfl⟩ : ∃ x0 xr, xs = x0 :: xr := by
    cases xs with
    | nil => exact absurd rfl hp.ne
    | cons a r => exact ⟨a, r, rfl⟩
  simp only [List.map_cons, List.cons.injEq] at e1
  have hw := hp.words
  simp only [List.headD_cons] at hw
  rw [e1.1, req_words h.1.1 h.1.2.1] at hw
  have hf := hp.fields
  simp only [List.tail_cons] at hf
  rw [e1.2, req_fields h.1.2.2.1] at hf
  refine ⟨⟨httpL.toArray⟩, map_bs_inj (by rw [← hw]; rfl), (pairs_inj hf).symm, bs_inj ?_⟩
  rw [bs_extract, List.take_of_length_le (i := s.size) (l := bs s) (by rw [bs_len]; omega)]
  exact e2

/-- What 'ReqRead' answers: the one request whose text this is, or nothing. -/
def ReqIs (s : ByteArray) (w : World) (e : Ending) (w' : World) : Prop :=
  (∃ (m : Int) (p : ByteArray) (fs : List (ByteArray × ByteArray)) (b : ByteArray) (v : Value), e = .returned (.tuple #[.agg #[.int .i64 m, .string p, v, .string b], .bool true]) ∧ IsReq s m p fs b ∧ w'.ownsRow w.heap.size 63 2 v fs.length (flatF fs) ∧ Below w.heap.size w w') ∨
  (e = .returned (.tuple #[.agg #[.int .i64 0, .string ⟨#[]⟩, .slice none 0 0, .string ⟨#[]⟩], .bool false]) ∧ (∀ m p fs b, ¬ IsReq s m p fs b) ∧ Below w.heap.size w w')

theorem slice_of_owns {w : World} {base : Nat} {t : TypeId} {size : Nat} {v : Value} {n : Nat} {xs : List Value} (h : w.ownsRow base t size v n xs) : ∃ oa cp, v = .slice oa n cp := by
  rcases h.2 with ⟨rfl, rfl⟩ | ⟨g, cap, cur, rfl, _⟩
  · exact ⟨none, 0, rfl⟩
  · exact ⟨_, cap, rfl⟩
theorem grown_below {w w' : World} (hb : Below w.heap.size w w') (row : Option Nat) : w.grownBy w' row := ⟨hb.os, hb.tape, hb.output, hb.size, fun k hk _ => hb.block k hk⟩
theorem grown_then {a w w' : World} {row : Option Nat} (h : a.grownBy w row) (k : w.grownBy w' row) : a.grownBy w' row :=
  ⟨k.os.trans h.os, k.tape.trans h.tape, k.output.trans h.output, Nat.le_trans h.size k.size, fun i hi hne => (k.block i (Nat.lt_of_lt_of_le hi h.size) hne).trans (h.block i hi hne)⟩
theorem grown_set (w : World) (r o : Nat) (v : Value) : w.grownBy (w.setCell ⟨r, o, none⟩ v) (some r) :=
  ⟨rfl, rfl, rfl, by simp, fun k _ hk => heap_setCell_other _ _ k _ (fun e => hk (by rw [e]))⟩
theorem below_grown {B r : Nat} {a b : World} (h : a.grownBy b (some r)) (hB : B ≤ a.heap.size) (hr : B ≤ r) : Below B a b :=
  ⟨h.os, h.tape, h.output, h.size, fun k hk => h.block k (by omega) (fun e => by have := Option.some.inj e; omega)⟩
theorem pair_of (fs : List (ByteArray × ByteArray)) (k : Nat) (h : k < fs.length) : (nameAt fs k, valAt fs k) = fs[k] := by
  unfold nameAt valAt
  rw [List.getD_eq_getElem?_getD, List.getElem?_eq_getElem h]
  rfl
theorem methTo_one (a : ByteArray) : methTo a 1 = 0 := by simp [methTo]
theorem methTo_yes {a : ByteArray} {j : Nat} (h1 : 1 ≤ j) (h : methB (j : Int) = a) : methTo a (j + 1) = (j : Int) := by rw [methTo, if_pos ⟨h1, h⟩]
theorem methTo_no {a : ByteArray} {j : Nat} (h : methB (j : Int) ≠ a) : methTo a (j + 1) = methTo a j := by rw [methTo, if_neg (fun e => h e.2)]
/-- Every text of the fields of a text's lines is no longer than the text. -/
theorem walk_fields {s : ByteArray} {xs : List ByteArray} {o : Option (List UInt8)} {l : List (ByteArray × ByteArray)} (hh : headL [] [] (bs s) = (xs.map bs, o)) (hl : fieldsL (xs.tail.map bs) = l.map bsP) (hs : s.size ≤ maxLen) : WalkF l.length l := by
  intro i hi
  have hm : (bs (nameAt l i), bs (valAt l i)) ∈ fieldsL (xs.tail.map bs) := by
    rw [hl]
    exact List.mem_map.2 ⟨l[i], List.getElem_mem hi, by rw [← pair_of l i hi]; rfl⟩
  obtain ⟨x, hx, h1, h2⟩ := fieldsL_len _ _ hm
  obtain ⟨y, hy, rfl⟩ := List.mem_map.1 hx
  have hm2 : bs y ∈ (headL [] [] (bs s)).1 := by rw [hh]; exact List.mem_map_of_mem (List.mem_of_mem_tail hy)
  rcases headL_len _ (bs s) [] [] (Nat.le_refl _) _ hm2 with h3 | h3
  · simp at h3
  · simp only [bs_len, List.length_nil, Nat.zero_add] at h1 h2 h3
    omega
/-- The four cells of a request's memory, written. -/
def fourSet (w : World) (r : Nat) (a b c d : Value) : World := (((w.setCell ⟨r, 0, none⟩ a).setCell ⟨r, 1, none⟩ b).setCell ⟨r, 2, none⟩ c).setCell ⟨r, 3, none⟩ d
theorem four_facts {W : World} {R : Nat} {a b c d : Value} {t : TypeId} (h : W.heap[R]? = some (.cells #[a, b, c, d] t)) :
    (W.cell? ⟨R, 0, none⟩ = some a ∧ W.cell? ⟨R, 1, none⟩ = some b ∧ W.cell? ⟨R, 2, none⟩ = some c ∧ W.cell? ⟨R, 3, none⟩ = some d) ∧ W.frozen? ⟨R, 0, none⟩ = false ∧ W.frozen? ⟨R, 1, none⟩ = false ∧ W.frozen? ⟨R, 2, none⟩ = false ∧ W.frozen? ⟨R, 3, none⟩ = false := by
  refine ⟨⟨?_, ?_, ?_, ?_⟩, ?_, ?_, ?_, ?_⟩ <;> simp [World.cell?, World.frozen?, h]
theorem four_set {W : World} {R : Nat} {a b c d : Value} {t : TypeId} (h : W.heap[R]? = some (.cells #[a, b, c, d] t)) (a' b' c' d' : Value) : (fourSet W R a' b' c' d').heap[R]? = some (.cells #[a', b', c', d'] t) := by
  have := heap_set _ R 3 _ _ _ d' (heap_set _ R 2 _ _ _ c' (heap_set _ R 1 _ _ _ b' (heap_set W R 0 _ _ _ a' h)))
  simpa [fourSet] using this
theorem below_four {w W : World} {B R : Nat} {a b c d : Value} (h : Below B w W) (hR : B ≤ R) : Below B w (fourSet W R a b c d) :=
  (((h.setCell (p := ⟨R, 0, none⟩) hR _).setCell (p := ⟨R, 1, none⟩) hR _).setCell (p := ⟨R, 2, none⟩) hR _).setCell (p := ⟨R, 3, none⟩) hR _

set_option maxHeartbeats 400000 in
set_option maxRecDepth 100000 in
theorem specReqRead_any (s : ByteArray) (w : World) (hs : s.size ≤ 3000000) :
    Calls Tryz.prog 14 #[.string s] w fun e w' => ReqIs s w e w' := by
  obtain ⟨R, hR⟩ : ∃ R, R = w.heap.size := ⟨_, rfl⟩
  have hRw : w.heap.size ≤ R := by omega
  have HZ : Hid (∀ W, Below (w.alloc (.cells #[.int .i64 0, .string ⟨#[]⟩, .slice none 0 0, .string ⟨#[]⟩] 37)).heap.size (w.alloc (.cells #[.int .i64 0, .string ⟨#[]⟩, .slice none 0 0, .string ⟨#[]⟩] 37)) W → W.heap[R]? = some (.cells #[.int .i64 0, .string ⟨#[]⟩, .slice none 0 0, .string ⟨#[]⟩] 37) ∧ Below w.heap.size w W) := fun W h => ⟨by rw [hR]; exact kept_new h, below_new h⟩
  have hZs : w.heap.size ≤ (w.alloc (.cells #[.int .i64 0, .string ⟨#[]⟩, .slice none 0 0, .string ⟨#[]⟩] 37)).heap.size := by simp
  go_enter Tryz.func14, Tryz.ntmps14
  go_wp2_with fail
  refine (l3Head_any s _ (by omega)).mono ?_
  rintro e w1 ⟨v, xs, at0, rfl, hown1, hxl, bb1, hd⟩
  rw [← hR]
  clear hR
  rcases hd with ⟨rfl, hh⟩ | ⟨k, rfl, hk, hh⟩
  · obtain ⟨z, hbz⟩ := HZ.out w1 bb1
    obtain ⟨⟨c0, c1, c2, c3⟩, f0, f1, f2, f3⟩ := four_facts z
    obtain ⟨⟨k0, k1, k2, k3⟩, _⟩ := four_facts (four_set z (.int .i64 0) (.string ⟨#[]⟩) (.slice none 0 0) (.string ⟨#[]⟩))
    have HB4 : Hid (Below w.heap.size w (fourSet w1 R (.int .i64 0) (.string ⟨#[]⟩) (.slice none 0 0) (.string ⟨#[]⟩))) := below_four hbz hRw
    have HNO : Hid (∀ m p fs b, ¬ IsReq s m p fs b) := fun m p fs b h => by
          have e := hh.symm.trans (req_head h)
          simp at e
    unfold fourSet at k0 k1 k2 k3
    clear z hbz HZ hh hown1 bb1
    go_wp2_with fail
    exact bodyPost_ret (v := .tuple #[.agg #[.int .i64 0, .string ⟨#[]⟩, .slice none 0 0, .string ⟨#[]⟩], .bool false]) (by simp [results, Tryz.results14, go_sem, k0, k1, k2, k3]) rfl (.inr ⟨rfl, HNO.out, HB4.out⟩)
  · by_cases hx0 : xs = []
    · subst hx0
      obtain ⟨oa, cp, rfl, _, _⟩ | ⟨g, cp, _, h0, _⟩ := row_form hown1
      · obtain ⟨z, hbz⟩ := HZ.out w1 bb1
        obtain ⟨⟨c0, c1, c2, c3⟩, f0, f1, f2, f3⟩ := four_facts z
        obtain ⟨⟨k0, k1, k2, k3⟩, _⟩ := four_facts (four_set z (.int .i64 0) (.string ⟨#[]⟩) (.slice none 0 0) (.string ⟨#[]⟩))
        have HB4 : Hid (Below w.heap.size w (fourSet w1 R (.int .i64 0) (.string ⟨#[]⟩) (.slice none 0 0) (.string ⟨#[]⟩))) := below_four hbz hRw
        have HNO : Hid (∀ m p fs b, ¬ IsReq s m p fs b) := fun m p fs b h => by
                  have e := hh.symm.trans (req_head h)
                  simp at e
        unfold fourSet at k0 k1 k2 k3
        clear z hbz HZ hh hown1 bb1
        go_wp2_with fail
        exact bodyPost_ret (v := .tuple #[.agg #[.int .i64 0, .string ⟨#[]⟩, .slice none 0 0, .string ⟨#[]⟩], .bool false]) (by simp [results, Tryz.results14, go_sem, k0, k1, k2, k3]) rfl (.inr ⟨rfl, HNO.out, HB4.out⟩)
      · simp at h0
    · have hxn : 0 < xs.length := List.length_pos_iff.2 hx0
      obtain ⟨_, _, _, h0, _⟩ | ⟨g, cp, rfl, _, row1⟩ := row_form hown1
      · omega
      obtain ⟨x0, hx⟩ : ∃ y, y = textAt xs 0 := ⟨_, rfl⟩
      have hc0 := row1.cell 0 hxn
      rw [← hx] at hc0
      have hxb : bs x0 ∈ (headL [] [] (bs s)).1 := by
        rw [hh, hx]
        cases xs with
        | nil => exact absurd rfl hx0
        | cons y r => simp [textAt]
      have hx0s : x0.size ≤ s.size := by
        rcases headL_len _ (bs s) [] [] (Nat.le_refl _) _ hxb with h1 | h1
        · simp at h1
        · rw [bs_len, bs_len] at h1; simpa using h1
      have HB1 : Hid (Below (w.alloc (.cells #[.int .i64 0, .string ⟨#[]⟩, .slice none 0 0, .string ⟨#[]⟩] 37)).heap.size (w.alloc (.cells #[.int .i64 0, .string ⟨#[]⟩, .slice none 0 0, .string ⟨#[]⟩] 37)) w1) := bb1
      have HROW1 : Hid (TextRow (w.alloc (.cells #[.int .i64 0, .string ⟨#[]⟩, .slice none 0 0, .string ⟨#[]⟩] 37)).heap.size w1 g xs.length cp xs) := row1
      have HX : Hid (x0 = textAt xs 0) := hx
      have HH : Hid (headL [] [] (bs s) = (xs.map bs, some ((bs s).drop k))) := hh
      have HN0 : Hid (xs ≠ []) := hx0
      clear hx hh hx0
      obtain ⟨nx, hnx⟩ : ∃ y, y = xs.length := ⟨_, rfl⟩
      have HNX : Hid (nx = xs.length) := hnx
      rw [← hnx] at hxn hxl HROW1 ⊢
      clear hnx
      have hxn2 : (0 : Int) < (nx : Int) := by omega
      have hxne : ((nx : Int) == 0) = false := by rw [beq_eq_false_iff_ne]; omega
      have hk2 : ¬ (k : Int) < 0 := by omega
      clear bb1 row1 hown1 hxb
      go_wp2_with fail
      refine (l3Words_any x0 _ (by omega)).mono ?_
      rintro e w2 ⟨wv, ws, rfl, hownw, hwl, bb2, hwd⟩
      have HWD : Hid (wordsL [] [] (bs x0) = ws.map bs) := hwd
      clear hwd
      have hb2 : Below (w.alloc (.cells #[.int .i64 0, .string ⟨#[]⟩, .slice none 0 0, .string ⟨#[]⟩] 37)).heap.size (w.alloc (.cells #[.int .i64 0, .string ⟨#[]⟩, .slice none 0 0, .string ⟨#[]⟩] 37)) w2 := HB1.out.trans (bb2.mono HB1.out.size)
      by_cases h3 : ws.length = 3
      · obtain ⟨wa, wp, wc, rfl⟩ : ∃ a b c, ws = [a, b, c] := by
          match ws, h3 with
          | [a, b, c], _ => exact ⟨a, b, c, rfl⟩
        clear h3
        obtain ⟨_, _, _, h0, _⟩ | ⟨g2, cp2, rfl, _, row2⟩ := row_form hownw
        · simp at h0
        have hpw : wp.size ≤ s.size := by
          have hm : bs wp ∈ wordsL [] [] (bs x0) := by rw [HWD.out]; simp
          rcases wordsL_len (bs x0) [] [] _ hm with h1 | h1
          · simp at h1
          · rw [bs_len, bs_len] at h1; simp at h1; omega
        have ha := row2.cell 0 (by simp)
        have hpc := row2.cell 1 (by simp)
        have ha : w2.cell? ⟨g2, 0, none⟩ = some (.string wa) := ha
        have hpc : w2.cell? ⟨g2, 1, none⟩ = some (.string wp) := hpc
        have HROW2 : Hid (TextRow w1.heap.size w2 g2 3 cp2 [wa, wp, wc]) := row2
        have HB2 : Hid (Below (w.alloc (.cells #[.int .i64 0, .string ⟨#[]⟩, .slice none 0 0, .string ⟨#[]⟩] 37)).heap.size (w.alloc (.cells #[.int .i64 0, .string ⟨#[]⟩, .slice none 0 0, .string ⟨#[]⟩] 37)) w2) := hb2
        have HBB2 : Hid (Below w1.heap.size w1 w2) := bb2
        have hki : (k : Int) ≤ (s.size : Int) := by omega
        have h1n : (1 : Int) ≤ (nx : Int) := by omega
        clear hownw row2 bb2 hb2 hwl hc0
        have hrow2 : TextRow (w.alloc (.cells #[.int .i64 0, .string ⟨#[]⟩, .slice none 0 0, .string ⟨#[]⟩] 37)).heap.size w2 g nx cp xs := HROW1.out.below HBB2.out HROW1.out.lt
        have hxlen := hrow2.len
        obtain ⟨aT, hA, HTX⟩ : ∃ aT : Addr, (if cp = 1 then some (⟨g, 0, none⟩ : Addr) else some ⟨g, 1, none⟩) = some aT ∧ Hid (∀ W, Below w2.heap.size w2 W → TextsV W W.heap.size (some aT) (nx - 1) xs.tail) := by
          have hle := hrow2.le
          by_cases h : cp = 1
          · refine ⟨⟨g, 0, none⟩, by simp [h], fun W hW => ⟨by simp; omega, fun i hi => ?_⟩⟩
            simp at hi; omega
          · refine ⟨⟨g, 1, none⟩, by simp [h], fun W hW => ⟨by simp; omega, fun i hi => ?_⟩⟩
            have hi2 : i + 1 < nx := by simp at hi; omega
            have hcc := (hrow2.below hW hrow2.lt).cell (i + 1) hi2
            refine ⟨g, 1, rfl, by have := hW.size; have := hrow2.lt; omega, ?_⟩
            rw [show 1 + i = i + 1 by omega, hcc]
            simp [textAt, List.getD_eq_getElem?_getD, show i + 1 < xs.length by omega]
        have HSZ : Hid (∀ x ∈ xs.tail, x.size ≤ 4000000) := fun x hx => by
          have hm : bs x ∈ (headL [] [] (bs s)).1 := by rw [HH.out]; exact List.mem_map_of_mem (List.mem_of_mem_tail hx)
          rcases headL_len _ (bs s) [] [] (Nat.le_refl _) _ hm with h1 | h1
          · simp at h1
          · rw [bs_len, bs_len] at h1; simp at h1; omega
        have HP : Hid (∀ w0 w3, Below w2.heap.size w2 w0 → Below w0.heap.size w0 w3 → w3.cell? ⟨g2, 1, none⟩ = some (.string wp) ∧ Below w2.heap.size w2 w3) := fun w0 w3 h h' => by
          have hx := h.trans (h'.mono h.size)
          exact ⟨(HROW2.out.below hx HROW2.out.lt).cell 1 (by omega), hx⟩
        have hnew := World.new_ne w2 ⟨g2, 1, none⟩ hpc
        have HKN : Hid (∀ w3, Below (w2.alloc (.cells #[.int .i64 0, .string ⟨#[]⟩, .slice none 0 0, .string ⟨#[]⟩] 37)).drew.heap.size (w2.alloc (.cells #[.int .i64 0, .string ⟨#[]⟩, .slice none 0 0, .string ⟨#[]⟩] 37)).drew w3 → w3.heap[w2.heap.size]? = some (.cells #[.int .i64 0, .string ⟨#[]⟩, .slice none 0 0, .string ⟨#[]⟩] 37)) := fun w3 h => by
          rw [h.block _ (by simp)]; exact heap_alloc_new w2 _
        have HK : Hid (∀ (W : World) o, W.cell? ⟨g2, 1, none⟩ = some (.string wp) → (W.alloc o).cell? ⟨g2, 1, none⟩ = some (.string wp)) := fun W o h => by rw [World.cell?_alloc_some _ _ _ (by rw [h]; rfl)]; exact h
        have h1c : (1 : Int) ≤ (cp : Int) := by have := hrow2.le; omega
        have h1m : 1 ≤ nx := by omega
        clear hrow2
        go_wp2_with fail
        refine wp_region_held_drew (S := fun W => W.cell? ⟨g2, 1, none⟩ = some (.string wp)) (by kernel_rfl) hpc (fun hHeld => ?_)
        refine wpAnyH_take (i := 0) (v := .slice (some ⟨g2, 0, none⟩) 3 cp2) rfl (by kernel_rfl) (by kernel_rfl) (by kernel_rfl) (fun _ _ _ h => h) (Or.inl ⟨by rfl, by intro W hSW; (try dsimp only at hSW); go_simp⟩) (by assumption) ?_
        refine wpAnyH_take (i := 1) (v := .pointer (some ⟨g2, 1, none⟩)) rfl (by kernel_rfl) (by kernel_rfl) (by kernel_rfl) (fun _ _ _ h => h) (Or.inl ⟨by rfl, by intro W hSW; (try dsimp only at hSW); go_simp⟩) (by assumption) ?_
        refine wpAnyH_take (i := 2) (v := .string wp) rfl (by kernel_rfl) (by kernel_rfl) (by kernel_rfl) (fun _ _ _ h => h) (Or.inl ⟨by rfl, by intro W hSW; (try dsimp only at hSW); go_simp⟩) (by assumption) ?_
        refine wpAnyH_take (i := 3) (v := .slice (some ⟨g, 0, none⟩) nx cp) rfl (by kernel_rfl) (by kernel_rfl) (by kernel_rfl) (fun _ _ _ h => h) (Or.inl ⟨by rfl, by intro W hSW; (try dsimp only at hSW); go_simp⟩) (by assumption) ?_
        refine wpAnyH_take (i := 4) (v := .slice (some aT) (nx - 1) (cp - 1)) rfl (by kernel_rfl) (by kernel_rfl) (by kernel_rfl) (fun _ _ _ h => h) (Or.inl ⟨by rfl, by intro W hSW; (try dsimp only at hSW); go_simp⟩) (by assumption) ?_
        refine wpAnyH_take (i := 6) (v := .string s) rfl (by kernel_rfl) (by kernel_rfl) (by kernel_rfl) (fun _ _ _ h => h) (Or.inl ⟨by rfl, by intro W hSW; (try dsimp only at hSW); go_simp⟩) (by assumption) ?_
        refine wpAnyH_take (i := 7) (v := .int .i64 (k : Int)) rfl (by kernel_rfl) (by kernel_rfl) (by kernel_rfl) (fun _ _ _ h => h) (Or.inl ⟨by rfl, by intro W hSW; (try dsimp only at hSW); go_simp⟩) (by assumption) ?_
        refine wpAnyH_take (i := 8) (v := .string (s.extract k s.size)) rfl (by kernel_rfl) (by kernel_rfl) (by kernel_rfl) (fun _ _ _ h => h) (Or.inl ⟨by rfl, by intro W hSW; (try dsimp only at hSW); go_simp⟩) (by assumption) ?_
        refine wpAnyH_ready (rs := [5, 10]) (by kernel_rfl) (by simp) ?_
        refine AllReadyH.cons rfl (fun K hK => ?_) (AllReadyH.cons rfl (fun K hK => ?_) AllReadyH.nil)
        · go_simp
          refine (l3Fields_any (some aT) (nx - 1) (cp - 1) xs.tail _ (HTX.out _ (Below.refl _ w2).drew) (by omega) HSZ.out).mono ?_
          rintro e w3 ⟨fv, l, rfl, hownf, hll, bb3, hfl⟩
          obtain ⟨fo, fc, rfl⟩ := slice_of_owns hownf
          obtain ⟨hp3, hb3⟩ := HP.out _ w3 (Below.refl _ w2).drew bb3
          refine hK.out _ _ hp3 (fun hHeld3 => ?_)
          clear hK K hHeld
          refine wpAnyH_take (i := 9) (v := .agg #[.int .i64 0, .string wp, .slice fo l.length fc, .string (s.extract k s.size)]) rfl (by kernel_rfl) (by kernel_rfl) (by kernel_rfl) (fun _ _ _ h => h) (Or.inl ⟨by rfl, by intro W hSW; (try dsimp only at hSW); go_simp⟩) (by assumption) ?_
          refine wpAnyH_ready (rs := [10]) (by kernel_rfl) (by simp) ?_
          refine AllReadyH.cons rfl (fun K hK => ?_) AllReadyH.nil
          go_simp
          refine hK.out _ _ (HK.out w3 _ hp3) (fun hHeld4 => ?_)
          clear hK K hHeld3
          refine wpAnyH_ready (rs := [11]) (by kernel_rfl) (by simp) ?_
          refine AllReadyH.cons rfl (fun K hK => ?_) AllReadyH.nil
          go_simp
          refine hK.out _ _ (HK.out w3 _ hp3) (fun hHeld5 => ?_)
          clear hK K hHeld4
          refine wpAnyH_done (by kernel_rfl) ?_ _
          clear hHeld5
          obtain ⟨r, hr⟩ : ∃ r, r = w3.heap.size := ⟨_, rfl⟩
          obtain ⟨w4, hw4⟩ : ∃ W, W = w3.alloc (.cells #[.int .i64 0, .string wp, .slice fo l.length fc, .string (s.extract k s.size)] 37) := ⟨_, rfl⟩
          have hz4 : w4.heap[r]? = some (.cells #[.int .i64 0, .string wp, .slice fo l.length fc, .string (s.extract k s.size)] 37) := by rw [hw4, hr]; exact heap_alloc_new w3 _
          have hb34 : Below w3.heap.size w3 w4 := by rw [hw4]; exact (Below.refl _ w3).alloc (Nat.le_refl _) _
          have hb4 : Below w2.heap.size w2 w4 := hb3.trans (hb34.mono hb3.size)
          have hrw : w2.heap.size ≤ r := by rw [hr]; exact hb3.size
          have hr4 : r < w4.heap.size := by rw [hw4, hr]; simp
          have hown4 : w4.ownsRow w2.heap.size 63 2 (.slice fo l.length fc) l.length (flatF l) := owns_below hownf hb34 (fun g hg => owns_lt hownf hg)
          have HFR : Hid (∀ j, (Value.slice fo l.length fc).ownBlock = some j → j ≠ r) := fun j hj => by have := owns_lt hownf hj; omega
          rw [← hr, ← hw4]
          clear hr hw4 hb34 hownf bb3 hb3 hp3 hpc hnew HK HKN HP HTX HSZ hA
          obtain ⟨body, hbody⟩ : ∃ y, y = s.extract k s.size := ⟨_, rfl⟩
          rw [← hbody] at hz4 ⊢
          have HBODY : Hid (body = s.extract k s.size) := hbody
          have HL4 : Hid (fieldsL (xs.tail.map bs) = l.map bsP) := hfl
          have HA4 : Hid (∀ W, w4.grownBy W (some r) → W.cell? ⟨g2, 0, none⟩ = some (.string wa)) := fun W h => by
            have hc := (HROW2.out.below hb4 HROW2.out.lt).cell 0 (by omega)
            exact h.cell hc (fun e => by have h1 := HROW2.out.lt; have h2 : g2 = r := Option.some.inj e; omega)
          clear hbody hfl
          go_wp2_with fail
          refine (l3Methods_any _).mono ?_
          rintro e w5 ⟨g5, rfl, hme, hg5, hg5', bb5⟩
          have hz5 : w5.heap[r]? = some (.cells #[.int .i64 0, .string wp, .slice fo l.length fc, .string body] 37) := by rw [bb5.block r hr4]; exact hz4
          have hgr5 := grown_below bb5 (some r)
          have HME : Hid (∀ W j, j < 5 → w5.grownBy W (some r) → W.cell? ⟨g5, j, none⟩ = some (.string (methB (j : Int)))) := fun W j hj h => h.cell (hme j hj) (fun e => by have h2 : g5 = r := Option.some.inj e; omega)
          have H45 : Hid (w4.grownBy w5 (some r)) := hgr5
          have HZ5 : Hid (w5.heap[r]? = some (.cells #[.int .i64 0, .string wp, .slice fo l.length fc, .string body] 37)) := hz5
          clear hz5 hz4 hme hgr5 bb5
          go_wp2
          go_loopw [9] (fun q wr => ∃ j : Nat, 1 ≤ j ∧ j ≤ 5 ∧ q = .int .i64 (j : Int) ∧ Hid (wr.heap[r]? = some (.cells #[.int .i64 (methTo wa j), .string wp, .slice fo l.length fc, .string body] 37)) ∧ w5.grownBy wr (some r)) (fun q _ => 5 - (intOf q).toNat)
          case atStart => exact ⟨1, by omega, by omega, rfl, by rw [methTo_one]; exact HZ5, World.grownBy.refl _ _⟩
          case round =>
            obtain ⟨j, h1, h5, rfl, hzr, hgr⟩ := hrel
            have hga := grown_then H45.out hgr
            have ha := HA4.out wr hga
            by_cases hlt : j < 5
            · have hlt2 : (j : Int) < 5 := by omega
              have hn := HME.out wr j hlt hgr
              obtain ⟨⟨c0, c1, c2, c3⟩, f0, f1, f2, f3⟩ := four_facts hzr.out
              by_cases he : methB (j : Int) = wa
              · have ht := (text_beq _ _).2 he
                have HM : Hid (methTo wa (j + 1) = (j : Int)) := methTo_yes h1 he
                have HZN : Hid (∀ W : World, W.heap = wr.heap → (W.setCell ⟨r, 0, none⟩ (.int .i64 (j : Int))).heap[r]? = some (.cells #[.int .i64 (methTo wa (j + 1)), .string wp, .slice fo l.length fc, .string body] 37)) := fun W hW => by
                  have := heap_set W r 0 _ _ _ (.int .i64 (j : Int)) (by rw [hW]; exact hzr.out)
                  rw [HM.out]; simpa using this
                have HGN : Hid (∀ n, w5.grownBy ((wr.drewN n).setCell ⟨r, 0, none⟩ (.int .i64 (j : Int))) (some r)) := fun n => grown_then (grown_then hgr (grown_below (below_drewN (Below.refl _ wr) n) _)) (grown_set _ _ _ _)
                clear he c1 c2 c3 f1 f2 f3 hga
                go_wp2
                go_quiet (fail)
                go_wp2
                go_roundw
                case rel => exact ⟨j + 1, by omega, by omega, by go_num, HZN.out _ rfl, HGN.out _⟩
                case measure => simp [intOf]; omega
              · have ht := text_beq_no he
                have HM : Hid (methTo wa (j + 1) = methTo wa j) := methTo_no he
                have HGN : Hid (∀ n, w5.grownBy (wr.drewN n) (some r)) := fun n => grown_then hgr (grown_below (below_drewN (Below.refl _ wr) n) _)
                clear he c0 c1 c2 c3 f0 f1 f2 f3 hga
                go_wp2
                go_quiet (fail)
                go_wp2
                go_roundw
                case rel => exact ⟨j + 1, by omega, by omega, by go_num, by rw [HM.out]; exact hzr, HGN.out _⟩
                case measure => simp [intOf]; omega
            · obtain rfl : j = 5 := by omega
              obtain ⟨mm, hmm⟩ : ∃ y, y = methTo wa 5 := ⟨_, rfl⟩
              rw [← hmm] at hzr
              have HMM : Hid (mm = methTo wa 5) := hmm
              obtain ⟨⟨c0, c1, c2, c3⟩, f0, f1, f2, f3⟩ := four_facts hzr.out
              have howr : wr.ownsRow w2.heap.size 63 2 (.slice fo l.length fc) l.length (flatF l) := hown4.kept hga (by cases h : (Value.slice fo l.length fc).ownBlock <;> simp; exact fun e => HFR.out _ h e)
              have HOW : Hid (wr.ownsRow w2.heap.size 63 2 (.slice fo l.length fc) l.length (flatF l)) := howr
              have HWF : Hid (WalkF l.length l) := walk_fields HH.out HL4.out (by unfold maxLen; omega)
              have hbs : body.size ≤ s.size := by rw [HBODY.out]; simp
              have HBr : Hid (Below (w.alloc (.cells #[.int .i64 0, .string ⟨#[]⟩, .slice none 0 0, .string ⟨#[]⟩] 37)).heap.size (w.alloc (.cells #[.int .i64 0, .string ⟨#[]⟩, .slice none 0 0, .string ⟨#[]⟩] 37)) wr) := by
                have hz2 := HB2.out.size
                exact (HB2.out.trans (hb4.mono hz2)).trans (below_grown hga (by have := hb4.size; omega) (by omega))
              have hll2 : l.length ≤ 3000000 := by simp at hll; omega
              clear hmm hown4 howr hga
              go_wp2_with fail
              refine (specReqText_any mm wp _ body l.length _ l _ (FieldsV.of_owns HOW.out) (by omega) HWF.out (by unfold maxLen; omega) (by unfold maxLen; omega)).mono ?_
              rintro e w7 ⟨t, rfl, ht1, ht2, bb7⟩
              have hz7 : w7.heap[r]? = some (.cells #[.int .i64 (mm), .string wp, .slice fo l.length fc, .string body] 37) := by rw [bb7.block r (by have := (Array.getElem?_eq_some_iff.1 hzr.out).1; exact this)]; exact hzr.out
              have hb7 : Below (w.alloc (.cells #[.int .i64 0, .string ⟨#[]⟩, .slice none 0 0, .string ⟨#[]⟩] 37)).heap.size (w.alloc (.cells #[.int .i64 0, .string ⟨#[]⟩, .slice none 0 0, .string ⟨#[]⟩] 37)) w7 := HBr.out.trans (bb7.mono HBr.out.size)
              clear c0 c1 c2 c3 f0 f1 f2 f3
              obtain ⟨⟨c0, c1, c2, c3⟩, f0, f1, f2, f3⟩ := four_facts hz7
              by_cases hts : t = s
              · have ht := (text_beq _ _).2 hts
                have HRP : Hid (ReqP mm wp l body) := Classical.byContradiction (fun hn => by
                  have h0 := ht2 hn
                  rw [hts] at h0
                  have hh := HH.out
                  rw [h0] at hh
                  simp [bs, headL] at hh)
                have HIS : Hid (IsReq s mm wp l body) := ⟨HRP.out, by rw [← ht1 HRP.out]; exact hts⟩
                have hR2 : R < w2.heap.size := (Array.getElem?_eq_some_iff.1 (HZ.out w2 HB2.out).1).1
                obtain ⟨z, hbz⟩ := HZ.out w7 hb7
                obtain ⟨⟨e0, e1, e2, e3⟩, g0, g1, g2', g3⟩ := four_facts z
                obtain ⟨⟨k0, k1, k2, k3⟩, _⟩ := four_facts (four_set z (.int .i64 mm) (.string wp) (.slice fo l.length fc) (.string body))
                have HB4 : Hid (Below w.heap.size w (fourSet w7 R (.int .i64 mm) (.string wp) (.slice fo l.length fc) (.string body))) := below_four hbz hRw
                have hgR : w7.grownBy (fourSet w7 R (.int .i64 mm) (.string wp) (.slice fo l.length fc) (.string body)) (some R) := by
                  unfold fourSet
                  exact grown_then (grown_then (grown_then (grown_set _ _ _ _) (grown_set _ _ _ _)) (grown_set _ _ _ _)) (grown_set _ _ _ _)
                have how7 := owns_below HOW.out bb7 (fun g hg => owns_lt HOW.out hg)
                have hww : w.heap.size ≤ w2.heap.size := Nat.le_trans hZs HB2.out.size
                have HOWF : Hid ((fourSet w7 R (.int .i64 mm) (.string wp) (.slice fo l.length fc) (.string body)).ownsRow w.heap.size 63 2 (.slice fo l.length fc) l.length (flatF l)) := by
                  have h6 := how7.kept hgR (by cases h : (Value.slice fo l.length fc).ownBlock <;> simp; exact fun e => by have h7 := owns_ge how7 h; omega)
                  refine ⟨h6.1, ?_⟩
                  rcases h6.2 with h9 | ⟨g6, cap6, cur6, h7, h8, h9⟩
                  · exact .inl h9
                  · exact .inr ⟨g6, cap6, cur6, h7, by omega, h9⟩
                unfold fourSet at k0 k1 k2 k3
                clear z hbz HZ hgR how7 ht1 ht2 hts bb7 hb7 hz7
                go_wp2_with fail
                exact bodyPost_ret (v := .tuple #[.agg #[.int .i64 mm, .string wp, (.slice fo l.length fc), .string body], .bool true]) (by simp [results, Tryz.results14, go_sem, k0, k1, k2, k3]) rfl (.inl ⟨mm, wp, l, body, _, rfl, HIS.out, HOWF.out, HB4.out⟩)
              · have ht := text_beq_no hts
                have HNO : Hid (∀ m p fs b, ¬ IsReq s m p fs b) := fun m p fs b h => by
                  have hpt : Parts s xs k [wa, wp, wc] l := ⟨HH.out, HN0.out, by
                    have : xs.headD ⟨#[]⟩ = x0 := by
                      rw [HX.out]
                      cases xs with
                      | nil => exact absurd rfl HN0.out
                      | cons y q => rfl
                    rw [this]; exact HWD.out, HL4.out⟩
                  obtain ⟨x9, e1, e2, e3⟩ := h.parts hpt
                  simp only [List.cons.injEq] at e1
                  obtain ⟨e4, e5, _⟩ := e1
                  have hmm : mm = m := by rw [HMM.out, e4]; exact methTo_of h.1.1
                  have hbb : body = b := by rw [HBODY.out]; exact e3
                  subst hmm hbb e5 e2
                  exact hts ((ht1 h.1).trans h.2)
                obtain ⟨z, hbz⟩ := HZ.out w7 hb7
                obtain ⟨⟨e0, e1, e2, e3⟩, g0, g1, g2', g3⟩ := four_facts z
                obtain ⟨⟨k0, k1, k2, k3⟩, _⟩ := four_facts (four_set z (.int .i64 0) (.string ⟨#[]⟩) (.slice none 0 0) (.string ⟨#[]⟩))
                have HB4 : Hid (Below w.heap.size w (fourSet w7 R (.int .i64 0) (.string ⟨#[]⟩) (.slice none 0 0) (.string ⟨#[]⟩))) := below_four hbz hRw
                unfold fourSet at k0 k1 k2 k3
                clear z hbz HZ ht1 ht2 hts bb7 hb7 hz7
                go_wp2_with fail
                exact bodyPost_ret (v := .tuple #[.agg #[.int .i64 0, .string ⟨#[]⟩, .slice none 0 0, .string ⟨#[]⟩], .bool false]) (by simp [results, Tryz.results14, go_sem, k0, k1, k2, k3]) rfl (.inr ⟨rfl, HNO.out, HB4.out⟩)
        · go_simp
          refine hK.out _ _ (HK.out w2 _ hpc) (fun hHeld3 => ?_)
          clear hK K hHeld
          refine wpAnyH_ready (rs := [5]) (by kernel_rfl) (by simp) ?_
          refine AllReadyH.cons rfl (fun K hK => ?_) AllReadyH.nil
          go_simp
          refine (l3Fields_any (some aT) (nx - 1) (cp - 1) xs.tail _ (HTX.out _ ((Below.refl _ w2).alloc (Nat.le_refl _) _).drew) (by omega) HSZ.out).mono ?_
          rintro e w3 ⟨fv, l, rfl, hownf, hll, bb3, hfl⟩
          obtain ⟨fo, fc, rfl⟩ := slice_of_owns hownf
          obtain ⟨hp3, hb3⟩ := HP.out _ w3 ((Below.refl _ w2).alloc (Nat.le_refl _) _).drew bb3
          refine hK.out _ _ hp3 (fun hHeld4 => ?_)
          clear hK K hHeld3
          refine wpAnyH_take (i := 9) (v := .agg #[.int .i64 0, .string wp, .slice fo l.length fc, .string (s.extract k s.size)]) rfl (by kernel_rfl) (by kernel_rfl) (by kernel_rfl) (fun _ _ _ h => h) (Or.inl ⟨by rfl, by intro W hSW; (try dsimp only at hSW); go_simp⟩) (by assumption) ?_
          obtain ⟨⟨y0, y1, y2, y3⟩, v0, v1, v2, v3⟩ := four_facts (HKN.out w3 bb3)
          refine wpAnyH_ready (rs := [11]) (by kernel_rfl) (by simp) ?_
          refine AllReadyH.cons rfl (fun K hK => ?_) AllReadyH.nil
          go_simp
          refine hK.out _ _ ?_ (fun hHeld5 => ?_)
          · show (fourSet w3 w2.heap.size _ _ _ _).cell? _ = _
            unfold fourSet
            rw [World.cell?_setCell_far _ _ _ _ hnew, World.cell?_setCell_far _ _ _ _ hnew, World.cell?_setCell_far _ _ _ _ hnew, World.cell?_setCell_far _ _ _ _ hnew]; exact hp3
          clear hK K hHeld4
          refine wpAnyH_done (by kernel_rfl) ?_ _
          clear hHeld5
          obtain ⟨r, hr⟩ : ∃ r, r = w2.heap.size := ⟨_, rfl⟩
          have z3 := HKN.out w3 bb3
          rw [← hr] at z3 ⊢
          have hz4 := four_set z3 (.int .i64 0) (.string wp) (.slice fo l.length fc) (.string (s.extract k s.size))
          obtain ⟨w4, hw4⟩ : ∃ W, W = fourSet w3 r (.int .i64 0) (.string wp) (.slice fo l.length fc) (.string (s.extract k s.size)) := ⟨_, rfl⟩
          rw [← hw4] at hz4
          have hrw : w2.heap.size ≤ r := by omega
          have hg34 : w3.grownBy w4 (some r) := by
            rw [hw4]; unfold fourSet
            exact grown_then (grown_then (grown_then (grown_set _ _ _ _) (grown_set _ _ _ _)) (grown_set _ _ _ _)) (grown_set _ _ _ _)
          have hb4 : Below w2.heap.size w2 w4 := by rw [hw4]; exact below_four hb3 hrw
          have hr4 : r < w4.heap.size := (Array.getElem?_eq_some_iff.1 hz4).1
          have HFR : Hid (∀ j, (Value.slice fo l.length fc).ownBlock = some j → j ≠ r) := fun j hj => by
            have := owns_ge hownf hj
            simp at this; omega
          have hown4 : w4.ownsRow w2.heap.size 63 2 (.slice fo l.length fc) l.length (flatF l) := by
            have h5 : w3.ownsRow w2.heap.size 63 2 (.slice fo l.length fc) l.length (flatF l) := by
              refine ⟨hownf.1, ?_⟩
              rcases hownf.2 with h6 | ⟨g6, cap6, cur6, h7, h8, h9⟩
              · exact .inl h6
              · exact .inr ⟨g6, cap6, cur6, h7, by simp at h8; omega, h9⟩
            exact h5.kept hg34 (by cases h : (Value.slice fo l.length fc).ownBlock <;> simp; exact fun e => HFR.out _ h e)
          unfold fourSet at hw4
          rw [← hw4]
          clear hr hw4 hg34 hownf bb3 hb3 hp3 hpc hnew HK HKN HP HTX HSZ hA z3 y0 y1 y2 y3 v0 v1 v2 v3
          obtain ⟨body, hbody⟩ : ∃ y, y = s.extract k s.size := ⟨_, rfl⟩
          rw [← hbody] at hz4 ⊢
          have HBODY : Hid (body = s.extract k s.size) := hbody
          have HL4 : Hid (fieldsL (xs.tail.map bs) = l.map bsP) := hfl
          have HA4 : Hid (∀ W, w4.grownBy W (some r) → W.cell? ⟨g2, 0, none⟩ = some (.string wa)) := fun W h => by
            have hc := (HROW2.out.below hb4 HROW2.out.lt).cell 0 (by omega)
            exact h.cell hc (fun e => by have h1 := HROW2.out.lt; have h2 : g2 = r := Option.some.inj e; omega)
          clear hbody hfl
          go_wp2_with fail
          refine (l3Methods_any _).mono ?_
          rintro e w5 ⟨g5, rfl, hme, hg5, hg5', bb5⟩
          have hz5 : w5.heap[r]? = some (.cells #[.int .i64 0, .string wp, .slice fo l.length fc, .string body] 37) := by rw [bb5.block r hr4]; exact hz4
          have hgr5 := grown_below bb5 (some r)
          have HME : Hid (∀ W j, j < 5 → w5.grownBy W (some r) → W.cell? ⟨g5, j, none⟩ = some (.string (methB (j : Int)))) := fun W j hj h => h.cell (hme j hj) (fun e => by have h2 : g5 = r := Option.some.inj e; omega)
          have H45 : Hid (w4.grownBy w5 (some r)) := hgr5
          have HZ5 : Hid (w5.heap[r]? = some (.cells #[.int .i64 0, .string wp, .slice fo l.length fc, .string body] 37)) := hz5
          clear hz5 hz4 hme hgr5 bb5
          go_wp2
          go_loopw [9] (fun q wr => ∃ j : Nat, 1 ≤ j ∧ j ≤ 5 ∧ q = .int .i64 (j : Int) ∧ Hid (wr.heap[r]? = some (.cells #[.int .i64 (methTo wa j), .string wp, .slice fo l.length fc, .string body] 37)) ∧ w5.grownBy wr (some r)) (fun q _ => 5 - (intOf q).toNat)
          case atStart => exact ⟨1, by omega, by omega, rfl, by rw [methTo_one]; exact HZ5, World.grownBy.refl _ _⟩
          case round =>
            obtain ⟨j, h1, h5, rfl, hzr, hgr⟩ := hrel
            have hga := grown_then H45.out hgr
            have ha := HA4.out wr hga
            by_cases hlt : j < 5
            · have hlt2 : (j : Int) < 5 := by omega
              have hn := HME.out wr j hlt hgr
              obtain ⟨⟨c0, c1, c2, c3⟩, f0, f1, f2, f3⟩ := four_facts hzr.out
              by_cases he : methB (j : Int) = wa
              · have ht := (text_beq _ _).2 he
                have HM : Hid (methTo wa (j + 1) = (j : Int)) := methTo_yes h1 he
                have HZN : Hid (∀ W : World, W.heap = wr.heap → (W.setCell ⟨r, 0, none⟩ (.int .i64 (j : Int))).heap[r]? = some (.cells #[.int .i64 (methTo wa (j + 1)), .string wp, .slice fo l.length fc, .string body] 37)) := fun W hW => by
                  have := heap_set W r 0 _ _ _ (.int .i64 (j : Int)) (by rw [hW]; exact hzr.out)
                  rw [HM.out]; simpa using this
                have HGN : Hid (∀ n, w5.grownBy ((wr.drewN n).setCell ⟨r, 0, none⟩ (.int .i64 (j : Int))) (some r)) := fun n => grown_then (grown_then hgr (grown_below (below_drewN (Below.refl _ wr) n) _)) (grown_set _ _ _ _)
                clear he c1 c2 c3 f1 f2 f3 hga
                go_wp2
                go_quiet (fail)
                go_wp2
                go_roundw
                case rel => exact ⟨j + 1, by omega, by omega, by go_num, HZN.out _ rfl, HGN.out _⟩
                case measure => simp [intOf]; omega
              · have ht := text_beq_no he
                have HM : Hid (methTo wa (j + 1) = methTo wa j) := methTo_no he
                have HGN : Hid (∀ n, w5.grownBy (wr.drewN n) (some r)) := fun n => grown_then hgr (grown_below (below_drewN (Below.refl _ wr) n) _)
                clear he c0 c1 c2 c3 f0 f1 f2 f3 hga
                go_wp2
                go_quiet (fail)
                go_wp2
                go_roundw
                case rel => exact ⟨j + 1, by omega, by omega, by go_num, by rw [HM.out]; exact hzr, HGN.out _⟩
                case measure => simp [intOf]; omega
            · obtain rfl : j = 5 := by omega
              obtain ⟨mm, hmm⟩ : ∃ y, y = methTo wa 5 := ⟨_, rfl⟩
              rw [← hmm] at hzr
              have HMM : Hid (mm = methTo wa 5) := hmm
              obtain ⟨⟨c0, c1, c2, c3⟩, f0, f1, f2, f3⟩ := four_facts hzr.out
              have howr : wr.ownsRow w2.heap.size 63 2 (.slice fo l.length fc) l.length (flatF l) := hown4.kept hga (by cases h : (Value.slice fo l.length fc).ownBlock <;> simp; exact fun e => HFR.out _ h e)
              have HOW : Hid (wr.ownsRow w2.heap.size 63 2 (.slice fo l.length fc) l.length (flatF l)) := howr
              have HWF : Hid (WalkF l.length l) := walk_fields HH.out HL4.out (by unfold maxLen; omega)
              have hbs : body.size ≤ s.size := by rw [HBODY.out]; simp
              have HBr : Hid (Below (w.alloc (.cells #[.int .i64 0, .string ⟨#[]⟩, .slice none 0 0, .string ⟨#[]⟩] 37)).heap.size (w.alloc (.cells #[.int .i64 0, .string ⟨#[]⟩, .slice none 0 0, .string ⟨#[]⟩] 37)) wr) := by
                have hz2 := HB2.out.size
                exact (HB2.out.trans (hb4.mono hz2)).trans (below_grown hga (by have := hb4.size; omega) (by omega))
              have hll2 : l.length ≤ 3000000 := by simp at hll; omega
              clear hmm hown4 howr hga
              go_wp2_with fail
              refine (specReqText_any mm wp _ body l.length _ l _ (FieldsV.of_owns HOW.out) (by omega) HWF.out (by unfold maxLen; omega) (by unfold maxLen; omega)).mono ?_
              rintro e w7 ⟨t, rfl, ht1, ht2, bb7⟩
              have hz7 : w7.heap[r]? = some (.cells #[.int .i64 (mm), .string wp, .slice fo l.length fc, .string body] 37) := by rw [bb7.block r (by have := (Array.getElem?_eq_some_iff.1 hzr.out).1; exact this)]; exact hzr.out
              have hb7 : Below (w.alloc (.cells #[.int .i64 0, .string ⟨#[]⟩, .slice none 0 0, .string ⟨#[]⟩] 37)).heap.size (w.alloc (.cells #[.int .i64 0, .string ⟨#[]⟩, .slice none 0 0, .string ⟨#[]⟩] 37)) w7 := HBr.out.trans (bb7.mono HBr.out.size)
              clear c0 c1 c2 c3 f0 f1 f2 f3
              obtain ⟨⟨c0, c1, c2, c3⟩, f0, f1, f2, f3⟩ := four_facts hz7
              by_cases hts : t = s
              · have ht := (text_beq _ _).2 hts
                have HRP : Hid (ReqP mm wp l body) := Classical.byContradiction (fun hn => by
                  have h0 := ht2 hn
                  rw [hts] at h0
                  have hh := HH.out
                  rw [h0] at hh
                  simp [bs, headL] at hh)
                have HIS : Hid (IsReq s mm wp l body) := ⟨HRP.out, by rw [← ht1 HRP.out]; exact hts⟩
                have hR2 : R < w2.heap.size := (Array.getElem?_eq_some_iff.1 (HZ.out w2 HB2.out).1).1
                obtain ⟨z, hbz⟩ := HZ.out w7 hb7
                obtain ⟨⟨e0, e1, e2, e3⟩, g0, g1, g2', g3⟩ := four_facts z
                obtain ⟨⟨k0, k1, k2, k3⟩, _⟩ := four_facts (four_set z (.int .i64 mm) (.string wp) (.slice fo l.length fc) (.string body))
                have HB4 : Hid (Below w.heap.size w (fourSet w7 R (.int .i64 mm) (.string wp) (.slice fo l.length fc) (.string body))) := below_four hbz hRw
                have hgR : w7.grownBy (fourSet w7 R (.int .i64 mm) (.string wp) (.slice fo l.length fc) (.string body)) (some R) := by
                  unfold fourSet
                  exact grown_then (grown_then (grown_then (grown_set _ _ _ _) (grown_set _ _ _ _)) (grown_set _ _ _ _)) (grown_set _ _ _ _)
                have how7 := owns_below HOW.out bb7 (fun g hg => owns_lt HOW.out hg)
                have hww : w.heap.size ≤ w2.heap.size := Nat.le_trans hZs HB2.out.size
                have HOWF : Hid ((fourSet w7 R (.int .i64 mm) (.string wp) (.slice fo l.length fc) (.string body)).ownsRow w.heap.size 63 2 (.slice fo l.length fc) l.length (flatF l)) := by
                  have h6 := how7.kept hgR (by cases h : (Value.slice fo l.length fc).ownBlock <;> simp; exact fun e => by have h7 := owns_ge how7 h; omega)
                  refine ⟨h6.1, ?_⟩
                  rcases h6.2 with h9 | ⟨g6, cap6, cur6, h7, h8, h9⟩
                  · exact .inl h9
                  · exact .inr ⟨g6, cap6, cur6, h7, by omega, h9⟩
                unfold fourSet at k0 k1 k2 k3
                clear z hbz HZ hgR how7 ht1 ht2 hts bb7 hb7 hz7
                go_wp2_with fail
                exact bodyPost_ret (v := .tuple #[.agg #[.int .i64 mm, .string wp, (.slice fo l.length fc), .string body], .bool true]) (by simp [results, Tryz.results14, go_sem, k0, k1, k2, k3]) rfl (.inl ⟨mm, wp, l, body, _, rfl, HIS.out, HOWF.out, HB4.out⟩)
              · have ht := text_beq_no hts
                have HNO : Hid (∀ m p fs b, ¬ IsReq s m p fs b) := fun m p fs b h => by
                  have hpt : Parts s xs k [wa, wp, wc] l := ⟨HH.out, HN0.out, by
                    have : xs.headD ⟨#[]⟩ = x0 := by
                      rw [HX.out]
                      cases xs with
                      | nil => exact absurd rfl HN0.out
                      | cons y q => rfl
                    rw [this]; exact HWD.out, HL4.out⟩
                  obtain ⟨x9, e1, e2, e3⟩ := h.parts hpt
                  simp only [List.cons.injEq] at e1
                  obtain ⟨e4, e5, _⟩ := e1
                  have hmm : mm = m := by rw [HMM.out, e4]; exact methTo_of h.1.1
                  have hbb : body = b := by rw [HBODY.out]; exact e3
                  subst hmm hbb e5 e2
                  exact hts ((ht1 h.1).trans h.2)
                obtain ⟨z, hbz⟩ := HZ.out w7 hb7
                obtain ⟨⟨e0, e1, e2, e3⟩, g0, g1, g2', g3⟩ := four_facts z
                obtain ⟨⟨k0, k1, k2, k3⟩, _⟩ := four_facts (four_set z (.int .i64 0) (.string ⟨#[]⟩) (.slice none 0 0) (.string ⟨#[]⟩))
                have HB4 : Hid (Below w.heap.size w (fourSet w7 R (.int .i64 0) (.string ⟨#[]⟩) (.slice none 0 0) (.string ⟨#[]⟩))) := below_four hbz hRw
                unfold fourSet at k0 k1 k2 k3
                clear z hbz HZ ht1 ht2 hts bb7 hb7 hz7
                go_wp2_with fail
                exact bodyPost_ret (v := .tuple #[.agg #[.int .i64 0, .string ⟨#[]⟩, .slice none 0 0, .string ⟨#[]⟩], .bool false]) (by simp [results, Tryz.results14, go_sem, k0, k1, k2, k3]) rfl (.inr ⟨rfl, HNO.out, HB4.out⟩)
      · have hne3 : ((ws.length : Int) != 3) = true := by rw [bne_iff_ne]; omega
        obtain ⟨oa, cp2, rfl⟩ : ∃ oa cp, wv = .slice oa ws.length cp := by
          obtain ⟨oa, cp, h1, h2, _⟩ | ⟨g, cp, h1, _⟩ := row_form hownw
          · exact ⟨oa, cp, by rw [h1, h2]⟩
          · exact ⟨_, cp, h1⟩
        obtain ⟨z, hbz⟩ := HZ.out w2 hb2
        obtain ⟨⟨c0, c1, c2, c3⟩, f0, f1, f2, f3⟩ := four_facts z
        obtain ⟨⟨k0, k1, k2, k3⟩, _⟩ := four_facts (four_set z (.int .i64 0) (.string ⟨#[]⟩) (.slice none 0 0) (.string ⟨#[]⟩))
        have HB4 : Hid (Below w.heap.size w (fourSet w2 R (.int .i64 0) (.string ⟨#[]⟩) (.slice none 0 0) (.string ⟨#[]⟩))) := below_four hbz hRw
        have HNO : Hid (∀ m p fs b, ¬ IsReq s m p fs b) := fun m p fs b h => by
                  have e := HH.out.symm.trans (req_head h)
                  have hwd := HWD.out
                  have hx := HX.out
                  have hx0 := HN0.out
                  cases xs with
                  | nil => exact absurd rfl hx0
                  | cons y r =>
                    simp only [List.map_cons, Prod.mk.injEq, List.cons.injEq] at e
                    have : x0 = y := hx
                    rw [this, e.1.1, req_words h.1.1 h.1.2.1] at hwd
                    have := congrArg List.length hwd
                    simp at this; omega
        unfold fourSet at k0 k1 k2 k3
        clear z hbz HZ HH hownw bb2 HB1 HROW1 HWD HX HN0 HNX
        go_wp2_with fail
        exact bodyPost_ret (v := .tuple #[.agg #[.int .i64 0, .string ⟨#[]⟩, .slice none 0 0, .string ⟨#[]⟩], .bool false]) (by simp [results, Tryz.results14, go_sem, k0, k1, k2, k3]) rfl (.inr ⟨rfl, HNO.out, HB4.out⟩)

end Go.Proofs.YtacfajnagbeocaaGreatDoor

namespace Go.Proofs.YtacfajnagbeocaaGreatDoor
open Go.RowKit
open Go.Lib hiding intOf

theorem owns_wide {w : World} {B base : Nat} {e : TypeId} {size : Nat} {v : Value} {n : Nat} {xs : List Value} (h : w.ownsRow base e size v n xs) (hB : B ≤ base) : w.ownsRow B e size v n xs := by
  obtain ⟨hl, hv⟩ := h
  refine ⟨hl, ?_⟩
  rcases hv with h0 | ⟨g, cap, cur, h1, h2, h3⟩
  · exact .inl h0
  · exact .inr ⟨g, cap, cur, h1, Nat.le_trans hB h2, h3⟩
theorem owns_same {w w' : World} {base : Nat} {e : TypeId} {size : Nat} {v : Value} {n : Nat} {xs : List Value} (h : w.ownsRow base e size v n xs) (hs : ∀ j, v.ownBlock = some j → w'.heap[j]? = w.heap[j]?) : w'.ownsRow base e size v n xs := by
  obtain ⟨hl, hv⟩ := h
  refine ⟨hl, ?_⟩
  rcases hv with h0 | ⟨g, cap, cur, rfl, h2, h3, h4⟩
  · exact .inl h0
  · exact .inr ⟨g, cap, cur, rfl, h2, by rw [hs g rfl]; exact h3, h4⟩

end Go.Proofs.YtacfajnagbeocaaGreatDoor

namespace Go.Proofs.YtacfajnagbeocaaGreatDoor
open Go.RowKit
open Go.Lib hiding intOf

/-- A request, as it is told. -/
structure RqD where
  m : Int
  p : ByteArray
  fs : List (ByteArray × ByteArray)
  b : ByteArray
/-- Its text. -/
def RqD.text (r : RqD) : List UInt8 := bs (reqT r.m r.p r.fs r.b)
def RqD.ok (r : RqD) : Prop := ReqP r.m r.p r.fs r.b
theorem rq_uniq {r r' : RqD} (h : r.ok) (h' : r'.ok) (e : r.text = r'.text) : r = r' := by
  have h1 : IsReq (reqT r.m r.p r.fs r.b) r.m r.p r.fs r.b := ⟨h, rfl⟩
  have h2 : IsReq (reqT r.m r.p r.fs r.b) r'.m r'.p r'.fs r'.b := ⟨h', (bs_inj e).symm⟩
  obtain ⟨e1, e2, e3, e4⟩ := h1.uniq h2
  cases r
  cases r'
  simp_all
theorem rqs_uniq : ∀ (a b : List RqD), (∀ r ∈ a, r.ok) → (∀ r ∈ b, r.ok) → a.map RqD.text = b.map RqD.text → a = b := by
  intro a
  induction a with
  | nil => intro b _ _ e; cases b with
    | nil => rfl
    | cons x y => simp at e
  | cons r a ih =>
    intro b ha hb e
    cases b with
    | nil => simp at e
    | cons x y =>
      simp only [List.map_cons, List.cons.injEq] at e
      rw [rq_uniq (ha r (by simp)) (hb x (by simp)) e.1, ih y (fun z hz => ha z (by simp [hz])) (fun z hz => hb z (by simp [hz])) e.2]
/-- The four cells of a request whose fields lie there. -/
def rqC (x : RqD × Value) : List Value := [.int .i64 x.1.m, .string x.1.p, x.2, .string x.1.b]
def flatR : List (RqD × Value) → List Value
  | [] => []
  | x :: t => rqC x ++ flatR t
theorem flatR_len : ∀ rv : List (RqD × Value), (flatR rv).length = rv.length * 4
  | [] => rfl
  | x :: t => by
    rw [flatR, List.length_append, flatR_len t, List.length_cons]
    simp [rqC]
    omega
theorem flatR_snoc (x : RqD × Value) : ∀ rv : List (RqD × Value), flatR (rv ++ [x]) = flatR rv ++ rqC x
  | [] => by simp [flatR]
  | y :: t => by rw [List.cons_append, flatR, flatR_snoc x t, flatR, List.append_assoc]
theorem flatR_at (j : Nat) (hj : j < 4) : ∀ (rv : List (RqD × Value)) (i : Nat) (hi : i < rv.length), (flatR rv)[i * 4 + j]? = (rqC (rv[i]'hi))[j]?
  | [], i, hi => by simp at hi
  | x :: t, 0, _ => by
    rw [flatR, List.getElem?_append_left (by simp [rqC]; omega)]
    simp
  | x :: t, i + 1, hi => by
    rw [flatR, List.getElem?_append_right (by simp [rqC]; omega)]
    have := flatR_at j hj t i (by simpa using hi)
    simp only [List.getElem_cons_succ]
    rw [← this]
    congr 1
    simp [rqC]
    omega
theorem flatR_set (y : RqD × Value) : ∀ (rv : List (RqD × Value)) (i : Nat), i < rv.length → flatR (rv.set i y) = ((((flatR rv).set (i * 4) (.int .i64 y.1.m)).set (i * 4 + 1) (.string y.1.p)).set (i * 4 + 2) y.2).set (i * 4 + 3) (.string y.1.b)
  | [], i, hi => by simp at hi
  | x :: t, 0, _ => by simp [flatR, rqC]
  | x :: t, i + 1, hi => by
    have ih := flatR_set y t i (by simpa using hi)
    have e : ∀ (l : List Value) (o : Nat) (u : Value), (rqC x ++ l).set (4 + o) u = rqC x ++ l.set o u := fun l o u => by
      rw [Nat.add_comm]
      rfl
    rw [List.set_cons_succ, flatR, ih, flatR, show (i + 1) * 4 = 4 + i * 4 by omega, show 4 + i * 4 + 1 = 4 + (i * 4 + 1) by omega, show 4 + i * 4 + 2 = 4 + (i * 4 + 2) by omega, show 4 + i * 4 + 3 = 4 + (i * 4 + 3) by omega, e, e, e, e]

theorem owns_setC {w : World} {base : Nat} {t : TypeId} {size g n cap : Nat} {xs : List Value} (h : w.ownsRow base t size (.slice (some ⟨g, 0, none⟩) n cap) n xs) (o : Nat) (u : Value) : (w.setCell ⟨g, o, none⟩ u).ownsRow base t size (.slice (some ⟨g, 0, none⟩) n cap) n (xs.set o u) := by
  obtain ⟨hl, hv⟩ := h
  refine ⟨by simpa using hl, ?_⟩
  rcases hv with ⟨e, _⟩ | ⟨g', cap', cur, e, h1, h2, h3, h4, h5, h6⟩
  · cases e
  · cases e
    refine .inr ⟨g, cap, _, rfl, h1, heap_set w g o cur t (0, 0) u h2, h3, h4, by simpa using h5, ?_⟩
    rw [Array.toList_setIfInBounds, List.take_set, h6]
theorem owns_cellC {w : World} {base : Nat} {t : TypeId} {size g n cap : Nat} {xs : List Value} (h : w.ownsRow base t size (.slice (some ⟨g, 0, none⟩) n cap) n xs) (o : Nat) (u : Value) (ho : xs[o]? = some u) : w.cell? ⟨g, o, none⟩ = some u ∧ w.frozen? ⟨g, o, none⟩ = false := by
  obtain ⟨hl, hv⟩ := h
  rcases hv with ⟨e, _⟩ | ⟨g', cap', cur, e, h1, h2, h3, h4, h5, h6⟩
  · cases e
  · cases e
    refine ⟨?_, by simp [World.frozen?, h2]⟩
    rw [← h6, List.getElem?_take] at ho
    split at ho
    · simpa [World.cell?, h2] using ho
    · cases ho
theorem own_noR {w : World} {base : Nat} {t : TypeId} {size : Nat} {v : Value} {n : Nat} {xs : List Value} {j : Nat} {cs : Array Value} {T : TypeId} {fr : Nat × Nat} (h : w.ownsRow base t size v n xs) (hT : T ≠ t) (hj : w.heap[j]? = some (.cells cs T fr)) : v.ownBlock ≠ some j := by
  intro e
  rcases h.2 with ⟨rfl, _⟩ | ⟨g, cap, cur, rfl, _, h1, _⟩
  · cases e
  · cases e
    rw [h1] at hj
    cases hj
    exact hT rfl
theorem own_ltR {w : World} {base : Nat} {t : TypeId} {size : Nat} {v : Value} {n : Nat} {xs : List Value} {j : Nat} (h : w.ownsRow base t size v n xs) (hj : v.ownBlock = some j) : base ≤ j ∧ j < w.heap.size := by
  rcases h.2 with ⟨rfl, _⟩ | ⟨g, cap, cur, rfl, h0, h1, _⟩
  · cases hj
  · cases hj
    exact ⟨h0, (Array.getElem?_eq_some_iff.1 h1).1⟩
theorem own_blockR {w : World} {base : Nat} {t : TypeId} {size : Nat} {v : Value} {n : Nat} {xs : List Value} {j : Nat} (h : w.ownsRow base t size v n xs) (hj : v.ownBlock = some j) : ∃ cur, w.heap[j]? = some (.cells cur t (0, 0)) := by
  rcases h.2 with ⟨rfl, _⟩ | ⟨g, cap, cur, rfl, h0, h1, _⟩
  · cases hj
  · cases hj
    exact ⟨cur, h1⟩
theorem own_two {w : World} {b1 b2 : Nat} {t1 t2 : TypeId} {s1 s2 : Nat} {v1 v2 : Value} {n1 n2 : Nat} {x1 x2 : List Value} {j : Nat} (h1 : w.ownsRow b1 t1 s1 v1 n1 x1) (h2 : w.ownsRow b2 t2 s2 v2 n2 x2) (hT : t1 ≠ t2) (hj : v1.ownBlock = some j) : v2.ownBlock ≠ some j := by
  obtain ⟨cur, hc⟩ := own_blockR h1 hj
  exact own_noR h2 hT hc

/-- A list of requests of one's own: the row, each one's fields, no two lists of fields in one block. -/
structure ReqsO (w : World) (base : Nat) (V : Value) (rv : List (RqD × Value)) : Prop where
  row : w.ownsRow base 37 4 V rv.length (flatR rv)
  own : ∀ x ∈ rv, w.ownsRow base 63 2 x.2 x.1.fs.length (flatF x.1.fs)
  apart : rv.Pairwise (fun a b => ∀ g, a.2.ownBlock = some g → b.2.ownBlock ≠ some g)
theorem ReqsO.nil (w : World) (base : Nat) : ReqsO w base (.slice none 0 0) [] := ⟨⟨rfl, .inl ⟨rfl, rfl⟩⟩, by simp, List.Pairwise.nil⟩
/-- All that stands in the blocks of the list stands: so does the list. -/
theorem ReqsO.same {w w' : World} {base : Nat} {V : Value} {rv : List (RqD × Value)} (h : ReqsO w base V rv) (hs : ∀ j, base ≤ j → j < w.heap.size → w'.heap[j]? = w.heap[j]?) : ReqsO w' base V rv :=
  ⟨owns_same h.row (fun j hj => hs j (own_ltR h.row hj).1 (own_ltR h.row hj).2), fun x hx => owns_same (h.own x hx) (fun j hj => hs j (own_ltR (h.own x hx) hj).1 (own_ltR (h.own x hx) hj).2), h.apart⟩
theorem ReqsO.later {w w' : World} {base : Nat} {V : Value} {rv : List (RqD × Value)} (h : ReqsO w base V rv) (hb : Below w.heap.size w w') : ReqsO w' base V rv := h.same (fun j _ hj => hb.block j hj)
/-- What lies wholly below a number outlives what is done above it. -/
theorem ReqsO.below {w w' : World} {base B : Nat} {V : Value} {rv : List (RqD × Value)} (h : ReqsO w base V rv) (hB : ∀ j, V.ownBlock = some j ∨ (∃ x ∈ rv, x.2.ownBlock = some j) → j < B) (hb : Below B w w') : ReqsO w' base V rv :=
  ⟨owns_same h.row (fun j hj => hb.block j (hB j (.inl hj))), fun x hx => owns_same (h.own x hx) (fun j hj => hb.block j (hB j (.inr ⟨x, hx, hj⟩))), h.apart⟩
theorem ReqsO.lt {w : World} {base : Nat} {V : Value} {rv : List (RqD × Value)} (h : ReqsO w base V rv) (j : Nat) (hj : V.ownBlock = some j ∨ (∃ x ∈ rv, x.2.ownBlock = some j)) : base ≤ j ∧ j < w.heap.size := by
  rcases hj with hj | ⟨x, hx, hj⟩
  · exact own_ltR h.row hj
  · exact own_ltR (h.own x hx) hj
/-- A request more, whose fields were made since. -/
theorem ReqsO.more {w W : World} {base base' : Nat} {V V' : Value} {rv : List (RqD × Value)} {r : RqD} {v : Value} (h : ReqsO w base V rv) (hb' : base ≤ base') (hv : w.ownsRow base' 63 2 v r.fs.length (flatF r.fs)) (hold : ∀ j, (∃ x ∈ rv, x.2.ownBlock = some j) → j < base')
    (hg : w.grownBy W V.ownBlock) (hrow : W.ownsRow base 37 4 V' (rv.length + 1) (flatR rv ++ rqC (r, v))) : ReqsO W base V' (rv ++ [(r, v)]) := by
  have hkeep : ∀ x ∈ rv, W.ownsRow base 63 2 x.2 x.1.fs.length (flatF x.1.fs) := fun x hx =>
    owns_same (h.own x hx) (fun j hj => hg.block j (own_ltR (h.own x hx) hj).2 (fun e => own_two (h.own x hx) h.row (by decide) hj e.symm))
  have hnew : W.ownsRow base 63 2 v r.fs.length (flatF r.fs) := by
    refine owns_wide ?_ hb'
    exact owns_same hv (fun j hj => hg.block j (own_ltR hv hj).2 (fun e => own_two hv h.row (by decide) hj e.symm))
  refine ⟨by rw [flatR_snoc, List.length_append]; exact hrow, fun x hx => ?_, ?_⟩
  · simp only [List.mem_append, List.mem_singleton] at hx
    rcases hx with hx | rfl
    · exact hkeep x hx
    · exact hnew
  · rw [List.pairwise_append]
    refine ⟨h.apart, List.pairwise_singleton _ _, fun a ha b hb g hg1 hg2 => ?_⟩
    simp only [List.mem_singleton] at hb
    subst hb
    have h1 := hold g ⟨a, ha, hg1⟩
    have h2 := (own_ltR hv hg2).1
    omega

end Go.Proofs.YtacfajnagbeocaaGreatDoor

namespace Go.Proofs.YtacfajnagbeocaaGreatDoor
open Go.RowKit
open Go.Lib hiding intOf

/-- The two cells of a field's memory, written. -/
def twoSet (w : World) (r : Nat) (nm vl : ByteArray) : World := (w.setCell ⟨r, 0, none⟩ (.string nm)).setCell ⟨r, 1, none⟩ (.string vl)
theorem twoSet_heap {w : World} {r : Nat} (nm vl : ByteArray) (h : w.heap[r]? = some (.cells #[.string ⟨#[]⟩, .string ⟨#[]⟩] 63)) : (twoSet w r nm vl).heap[r]? = some (.cells #[.string nm, .string vl] 63) := by
  have := heap_set _ r 1 _ _ _ (.string vl) (heap_set w r 0 _ _ _ (.string nm) h)
  simpa [twoSet] using this
end Go.Proofs.YtacfajnagbeocaaGreatDoor

namespace Go.Proofs.YtacfajnagbeocaaGreatDoor
open Go.RowKit
open Go.Lib hiding intOf

set_option maxHeartbeats 1000000 in
theorem place_any (v : Value) (n base : Nat) (fs : List (ByteArray × ByteArray)) (name : ByteArray) (w : World) (hv : FieldsV w base v n fs) (hn : n ≤ 1073741824) :
    Calls Tryz.prog 96 #[v, .string name] w fun e w' => e = .returned (.int .i64 (atF fs name : Int)) ∧ w' = w := by
  have hl := hv.len
  obtain ⟨oa, cap, rfl, hrow⟩ := hv.slice
  clear hv
  go_enter Tryz.func96, Tryz.ntmps96
  go_wp2
  go_loop [8] (fun i => ∃ k : Nat, k ≤ n ∧ i = .int .i64 (k : Int) ∧ Hid (∀ j, j < k → nameAt fs j ≠ name)) (fun i => n - (intOf i).toNat)
  case atStart => exact ⟨0, Nat.zero_le _, rfl, fun j h => absurd h (by omega)⟩
  case round =>
    obtain ⟨k, hk, rfl, hb⟩ := hrel
    by_cases hlt : k < n
    · obtain ⟨g, rfl, row⟩ := hrow k hlt
      have hc := row.name k hlt
      have hlt2 : (k : Int) < (n : Int) := by omega
      clear hrow row
      by_cases he : nameAt fs k = name
      · have hT : Hid (atF fs name = k) := atF_uniq (by omega) hb.out he
        have ht : ((nameAt fs k).toList == name.toList) = true := (text_beq _ _).2 he
        clear he
        go_wp2
        go_ret
        exact ⟨by rw [hT.out]; rfl, rfl⟩
      · have ht := text_beq_no he
        have HE : Hid (nameAt fs k ≠ name) := he
        clear he
        go_wp2
        go_round
        case rel =>
          refine ⟨k + 1, by omega, by go_num, ?_⟩
          intro j hj
          by_cases e : j = k
          · subst e; exact HE.out
          · exact hb.out j (by omega)
        case measure => simp [intOf]; omega
    · have hT : Hid (atF fs name = n) := by
        have := atF_none (fs := fs) (name := name) (fun j hj => hb.out j (by omega))
        show _ = _
        omega
      clear hrow
      go_wp2
      go_ret
      exact ⟨by rw [hT.out]; rfl, rfl⟩

set_option maxHeartbeats 1000000 in
theorem newField_any (nm vl : ByteArray) (w : World) (h1 : nm.size ≤ 281474976710656) (h2 : vl.size ≤ 281474976710656) :
    Calls Tryz.prog 89 #[.string nm, .string vl] w fun e w' => e = .returned (.agg #[.string nm, .string vl]) ∧ Below w.heap.size w w' := by
  go_enter Tryz.func89, Tryz.ntmps89
  go_wp2_with fail
  refine (clone_any nm _ h1).mono ?_
  rintro e w1 ⟨rfl, hb1⟩
  go_wp2_with fail
  refine (clone_any vl _ h2).mono ?_
  rintro e w2 ⟨rfl, hb2⟩
  obtain ⟨r, hr⟩ : ∃ r, r = w.heap.size := ⟨_, rfl⟩
  have h0 : (w.alloc (.cells #[.string ⟨#[]⟩, .string ⟨#[]⟩] 63)).heap.size = w.heap.size + 1 := by simp
  have hb : Below w.heap.size w w2 := ((Below.refl _ w).alloc (Nat.le_refl _) _).trans ((hb1.trans (hb2.mono hb1.size)).mono (by omega))
  have hre2 : w2.heap[r]? = some (.cells #[.string ⟨#[]⟩, .string ⟨#[]⟩] 63) := by
    rw [hr, (hb1.trans (hb2.mono hb1.size)).block _ (by omega)]; exact heap_alloc_new w _
  have hc0 : w2.cell? ⟨r, 0, none⟩ = some (.string ⟨#[]⟩) := by simp [World.cell?, hre2]
  have hc1 : w2.cell? ⟨r, 1, none⟩ = some (.string ⟨#[]⟩) := by simp [World.cell?, hre2]
  have hf0 : w2.frozen? ⟨r, 0, none⟩ = false := by simp [World.frozen?, hre2]
  have hf1 : w2.frozen? ⟨r, 1, none⟩ = false := by simp [World.frozen?, hre2]
  have hre3 := twoSet_heap nm vl hre2
  have k0 : (twoSet w2 r nm vl).cell? ⟨r, 0, none⟩ = some (.string nm) := by simp [World.cell?, hre3]
  have k1 : (twoSet w2 r nm vl).cell? ⟨r, 1, none⟩ = some (.string vl) := by simp [World.cell?, hre3]
  have hb3 : Below w.heap.size w (twoSet w2 r nm vl) := (hb.setCell (p := ⟨r, 0, none⟩) (by simp [hr]) _).setCell (p := ⟨r, 1, none⟩) (by simp [hr]) _
  have HB3 : Hid (Below w.heap.size w (twoSet w2 r nm vl)) := hb3
  rw [← hr]
  unfold twoSet at k0 k1
  clear hre3 hre2 hb hb3 hb1 hb2 hr h0
  go_wp2
  exact bodyPost_ret (v := .agg #[.string nm, .string vl]) (by simp [results, Tryz.results89, go_sem, k0, k1]) rfl ⟨rfl, HB3.out⟩

end Go.Proofs.YtacfajnagbeocaaGreatDoor

namespace Go.Proofs.YtacfajnagbeocaaGreatDoor
open Go.RowKit
open Go.Lib hiding intOf

set_option maxHeartbeats 1000000 in
theorem fieldOk_any (v : Value) (n base : Nat) (fs : List (ByteArray × ByteArray)) (k : Nat) (w : World) (hv : FieldsV w base v n fs) (hn : n ≤ 1073741824) (hk : k < n) (hs1 : (nameAt fs k).size ≤ maxLen) (hs2 : (valAt fs k).size ≤ maxLen) :
    Calls Tryz.prog 90 #[v, .int .i64 (k : Int)] w fun e w' => BoolIs (FldOk fs k) w e w' := by
  have HV : Hid (∀ W, Below w.heap.size w W → FieldsV W base v n fs) := fun W h => hv.below h
  obtain ⟨oa, cap, rfl, hrow⟩ := hv.slice
  obtain ⟨g, rfl, row⟩ := hrow k hk
  have hlt2 : (k : Int) < (n : Int) := by omega
  have hc1 := row.name k hk
  have hc2 := row.val k hk
  obtain ⟨nm, hnm⟩ : ∃ x, x = nameAt fs k := ⟨_, rfl⟩
  obtain ⟨vl, hvl⟩ : ∃ x, x = valAt fs k := ⟨_, rfl⟩
  have HO : Hid (FldOk fs k ↔ TokOk nm ∧ ValOk vl ∧ atF fs nm = k ∧ nm ≠ clen) := by rw [hnm, hvl]; exact Iff.rfl
  rw [← hnm] at hc1 hs1
  rw [← hvl] at hc2 hs2
  clear hv hrow row hnm hvl
  obtain ⟨r, hr⟩ : ∃ r, r = w.heap.size := ⟨_, rfl⟩
  have h0 : (w.alloc (.cells #[.string nm, .string vl] 63)).heap.size = w.heap.size + 1 := by simp
  have HB0 : Hid (Below w.heap.size w (w.alloc (.cells #[.string nm, .string vl] 63)) ∧ w.heap.size ≤ (w.alloc (.cells #[.string nm, .string vl] 63)).heap.size) := ⟨(Below.refl _ w).alloc (Nat.le_refl _) _, by omega⟩
  have HR : Hid (∀ W, Below (w.alloc (.cells #[.string nm, .string vl] 63)).heap.size (w.alloc (.cells #[.string nm, .string vl] 63)) W → W.cell? ⟨r, 0, none⟩ = some (.string nm) ∧ W.cell? ⟨r, 1, none⟩ = some (.string vl)) := fun W h => by
    have hh : W.heap[r]? = some (.cells #[.string nm, .string vl] 63) := by rw [hr, h.block _ (by omega)]; exact heap_alloc_new w _
    exact ⟨by simp [World.cell?, hh], by simp [World.cell?, hh]⟩
  go_enter Tryz.func90, Tryz.ntmps90
  go_wp2_with fail
  refine (implTokenOk_any nm _ hs1).mono ?_
  rintro e w1 ⟨b1, rfl, kb1, bb1⟩
  rw [← hr]
  have hb1 : Below w.heap.size w w1 := HB0.out.1.trans (bb1.mono HB0.out.2)
  obtain ⟨d1, d2⟩ := HR.out w1 bb1
  clear h0
  cases b1
  · have HF : Hid (¬ FldOk fs k) := fun h => by have := kb1.2 (HO.out.1 h).1; cases this
    clear kb1 hc1 hc2 bb1 hr
    go_wp2_with fail
    go_ret
    exact BoolIs.no HF.out hb1
  · have HT : Hid (TokOk nm) := kb1.1 rfl
    clear kb1 hc1 hc2 hr
    go_wp2_with fail
    refine (implValueOk_any vl _ hs2).mono ?_
    rintro e w2 ⟨b2, rfl, kb2, bb2⟩
    have bb2' := bb1.trans (bb2.mono bb1.size)
    have hb2 : Below w.heap.size w w2 := HB0.out.1.trans (bb2'.mono HB0.out.2)
    obtain ⟨d3, d4⟩ := HR.out w2 bb2'
    cases b2
    · have HF : Hid (¬ FldOk fs k) := fun h => by have := kb2.2 (HO.out.1 h).2.1; cases this
      clear kb2 bb1 bb2 bb2' hb1 d1 d2
      go_wp2_with fail
      go_ret
      exact BoolIs.no HF.out hb2
    · have HT2 : Hid (ValOk vl) := kb2.1 rfl
      clear kb2 bb1 bb2 bb2' hb1 d1 d2
      by_cases hcl : nm = clen
      · have ht := (text_beq _ _).2 hcl
        rw [clen_list] at ht
        have HF : Hid (¬ FldOk fs k) := fun h => (HO.out.1 h).2.2.2 hcl
        clear hcl
        go_wp2_with fail
        go_ret
        exact BoolIs.no HF.out hb2
      · have ht := text_beq_no hcl
        rw [clen_list] at ht
        have HC : Hid (nm ≠ clen) := hcl
        clear hcl
        go_wp2_with fail
        refine (place_any _ n base fs nm _ (HV.out w2 hb2) hn).mono ?_
        rintro e w3 ⟨rfl, rfl⟩
        by_cases hat : atF fs nm = k
        · have HY : Hid (FldOk fs k) := HO.out.2 ⟨HT.out, HT2.out, hat, HC.out⟩
          rw [hat]
          clear hat
          go_wp2
          go_ret
          exact BoolIs.yes HY.out hb2
        · have HF : Hid (¬ FldOk fs k) := fun h => hat (HO.out.1 h).2.2.1
          have hne : ((atF fs nm : Int) == (k : Int)) = false := by rw [beq_eq_false_iff_ne]; omega
          clear hat
          go_wp2
          go_ret
          exact BoolIs.no HF.out hb2

set_option maxHeartbeats 1000000 in
theorem ok_any (v : Value) (n base : Nat) (fs : List (ByteArray × ByteArray)) (w : World) (hv : FieldsV w base v n fs) (hn : n ≤ 1073741824) (hsz : ∀ i, i < n → (nameAt fs i).size ≤ maxLen ∧ (valAt fs i).size ≤ maxLen) :
    Calls Tryz.prog 84 #[v] w fun e w' => BoolIs (FldsOk fs) w e w' := by
  have hl := hv.len
  have HV : Hid (∀ W, Below w.heap.size w W → FieldsV W base v n fs) := fun W h => hv.below h
  have HS : Hid (∀ i, i < n → (nameAt fs i).size ≤ maxLen ∧ (valAt fs i).size ≤ maxLen) := hsz
  obtain ⟨oa, cap, rfl, hrow⟩ := hv.slice
  clear hv hrow hsz
  by_cases h8 : (8 : Int) < (n : Int)
  · have HF : Hid (¬ FldsOk fs) := fun h => by have := h.1; omega
    go_enter Tryz.func84, Tryz.ntmps84
    go_wp2
    go_ret
    exact BoolIs.no HF.out (Below.refl _ _)
  · go_enter Tryz.func84, Tryz.ntmps84
    go_wp2
    go_loopw [9] (fun i wr => ∃ k : Nat, k ≤ n ∧ i = .int .i64 (k : Int) ∧ Hid (∀ j, j < k → FldOk fs j) ∧ Below w.heap.size w wr) (fun i _ => n - (intOf i).toNat)
    case atStart => exact ⟨0, Nat.zero_le _, rfl, fun j h => absurd h (by omega), Below.refl _ _⟩
    case round =>
      obtain ⟨k, hk, rfl, hall, hbw⟩ := hrel
      by_cases hlt : k < n
      · have hlt2 : (k : Int) < (n : Int) := by omega
        obtain ⟨hs1, hs2⟩ := HS.out k hlt
        go_wp2_with fail
        refine (fieldOk_any _ n base fs k _ (HV.out wr hbw) hn hlt hs1 hs2).mono ?_
        rintro e w1 ⟨b1, rfl, kb1, bb1⟩
        have hb1 : Below w.heap.size w w1 := hbw.trans (bb1.mono hbw.size)
        cases b1
        · have HF : Hid (¬ FldsOk fs) := fun h => by have := kb1.2 (h.2 k (by omega)); cases this
          clear kb1 bb1
          go_wp2
          go_ret
          exact BoolIs.no HF.out hb1
        · have HY : Hid (FldOk fs k) := kb1.1 rfl
          clear kb1 bb1
          go_wp2
          go_roundw
          case rel =>
            refine ⟨k + 1, by omega, by go_num, ?_, hb1⟩
            intro j hj
            by_cases e : j = k
            · subst e; exact HY.out
            · exact hall.out j (by omega)
          case measure => simp [intOf]; omega
      · have HF : Hid (FldsOk fs) := ⟨by omega, fun i hi => hall.out i (by omega)⟩
        go_wp2
        go_ret
        exact BoolIs.yes HF.out hbw

end Go.Proofs.YtacfajnagbeocaaGreatDoor

namespace Go.Proofs
open Go.Shelf
def Tryz.lays166_ren : Go.Shelf.Ren := ⟨fun | 166 => 91 | 240 => 97 | 276 => 101 | n => n, fun | 0 => 0 | 3 => 3 | 4 => 4 | 5 => 5 | 9 => 9 | 20 => 20 | 37 => 61 | 70 => 106 | 72 => 108 | 75 => 110 | 80 => 87 | 164 => 113 | n => n, fun | n => n⟩
theorem Tryz.lays166 : Go.Proofs.Lays.n166 Tryz.prog Tryz.lays166_ren := {
  mixed := by kernel_rfl
  f166 := Tryz.func91.trans (congrArg some (by kernel_rfl))
  f240 := Tryz.func97.trans (congrArg some (by kernel_rfl))
  f276 := Tryz.func101.trans (congrArg some (by kernel_rfl))
  t0 := Tryz.underlying0
  a0 := Tryz.isAgg0
  z0 := Tryz.sizeOf0
  v0 := Tryz.zeroValue0
  t3 := Tryz.underlying3
  a3 := Tryz.isAgg3
  z3 := Tryz.sizeOf3
  v3 := Tryz.zeroValue3
  t4 := Tryz.underlying4
  a4 := Tryz.isAgg4
  z4 := Tryz.sizeOf4
  v4 := Tryz.zeroValue4
  t9 := Tryz.underlying9
  a9 := Tryz.isAgg9
  z9 := Tryz.sizeOf9
  v9 := Tryz.zeroValue9
  t20 := Tryz.underlying20
  a20 := Tryz.isAgg20
  z20 := Tryz.sizeOf20
  v20 := Tryz.zeroValue20
  t37 := Tryz.underlying61
  a37 := Tryz.isAgg61
  z37 := Tryz.sizeOf61
  v37 := Tryz.zeroValue61
  t70 := Tryz.underlying106
  a70 := Tryz.isAgg106
  z70 := Tryz.sizeOf106
  v70 := Tryz.zeroValue106
  t72 := Tryz.underlying108
  a72 := Tryz.isAgg108
  z72 := Tryz.sizeOf108
  v72 := Tryz.zeroValue108
  t75 := Tryz.underlying110
  a75 := Tryz.isAgg110
  z75 := Tryz.sizeOf110
  v75 := Tryz.zeroValue110
  t164 := Tryz.underlying113
  a164 := Tryz.isAgg113
  z164 := Tryz.sizeOf113
  v164 := Tryz.zeroValue113 }
theorem Tryz.Builder_Extra_166 : Builder.Extra Tryz.prog Tryz.lays166_ren := {
  sizeBuilder := by kernel_rfl
  liesBuilder := by kernel_rfl
  t5 := Tryz.underlying5
  a5 := Tryz.isAgg5
  z5 := Tryz.sizeOf5
  v5 := Tryz.zeroValue5
  infoByte := by kernel_rfl
  cellsByte := by kernel_rfl
  sizeByte := by kernel_rfl
  neB5 := by decide }
open Go.RowKit in
theorem Tryz.Builder_WriteString (B b : Nat) (bs : List Value) (s : ByteArray) (w : World) (h : Lib.IsBuilder 108 5 B b bs w) (hlen : bs.length + s.size ≤ 140737488355328) (hBw : B ≤ w.heap.size) :
    Calls Tryz.prog 91 #[.pointer (some ⟨b, 0, none⟩), .string s] w fun e w' => e = .returned (.tuple #[.int .i64 s.size, .nilIface]) ∧ (Lib.BuilderAt 108 5 B b (.pointer (some ⟨b, 0, none⟩)) (bs ++ Lib.strCells s) w' ∧ Below B w w') := Any.Builder_WriteString Tryz.lays166 Tryz.Builder_Extra_166 B b bs s w h hlen hBw
end Go.Proofs
namespace Go.Proofs.YtacfajnagbeocaaGreatDoor
open Go.RowKit
open Go.Lib hiding intOf

theorem strCells_append (a b : ByteArray) : strCells (a ++ b) = strCells a ++ strCells b := by simp [strCells]
/-- A builder of the call's own that holds this text. -/
def Holding (B : Nat) (t : ByteArray) (w : World) : Prop := IsBuilder 108 5 B B (strCells t) w

set_option maxHeartbeats 1000000 in
theorem write_any (B : Nat) (t s : ByteArray) (w : World) (h : Holding B t w) (hlen : t.size + s.size ≤ 140737488355328) (hBw : B ≤ w.heap.size) :
    Calls Tryz.prog 91 #[.pointer (some ⟨B, 0, none⟩), .string s] w fun e w' => e = .returned (.tuple #[.int .i64 s.size, .nilIface]) ∧ Holding B (t ++ s) w' ∧ Below B w w' := by
  refine (Tryz.Builder_WriteString B B _ s w h (by rw [strCells_length]; exact hlen) hBw).mono ?_
  rintro e w' ⟨rfl, h1, h2⟩
  exact ⟨rfl, .inr (by rw [strCells_append]; exact h1), h2⟩
theorem text_out (B : Nat) (t : ByteArray) (w : World) (h : Holding B t w) (hBw : B ≤ w.heap.size) :
    Calls Tryz.prog 92 #[.pointer (some ⟨B, 0, none⟩)] w fun e w' => e = .returned (.string t) ∧ Below B w w' :=
  Tryz.Builder_String_any B B t.data.toList w h hBw

set_option maxHeartbeats 2000000 in
theorem text_any (v : Value) (n base : Nat) (fs : List (ByteArray × ByteArray)) (w : World) (hv : FieldsV w base v n fs) (hn : n ≤ 1073741824) (hsz : (fieldsText fs).size ≤ 1099511627776) :
    Calls Tryz.prog 85 #[v] w fun e w' => TextIs (fieldsText fs) w e w' := by
  have hl := hv.len
  obtain ⟨oa, cap, rfl, hrow⟩ := hv.slice
  have HROW : Hid (∀ k, k < n → ∃ g, oa = some ⟨g, 0, none⟩ ∧ FieldRow base w g n cap fs) := hrow
  have HZ : Hid (∀ k, k < n → (ftTo fs (k + 1)).size ≤ 1099511627776) := fun k hk => by
    have := ftTo_mono fs (k + 1) (fs.length - (k + 1))
    rw [show k + 1 + (fs.length - (k + 1)) = fs.length by omega] at this
    exact Nat.le_trans this hsz
  have HF : Hid (fieldsText fs = ftTo fs n) := by show _ = _; unfold fieldsText; rw [hl]
  have H0 : Hid (Holding w.heap.size ⟨#[]⟩ (w.alloc (.cells #[.pointer none, .slice none 0 0] 108))) := fresh_isBuilder 108 5 w
  clear hsz hv hrow
  go_enter Tryz.func85, Tryz.ntmps85
  go_wp2
  go_loopw [7] (fun i wr => ∃ k : Nat, k ≤ n ∧ i = .int .i64 (k : Int) ∧ Hid (Holding w.heap.size (ftTo fs k) wr) ∧ Below w.heap.size w wr) (fun i _ => n - (intOf i).toNat)
  case atStart => exact ⟨0, Nat.zero_le _, rfl, H0, (Below.refl _ _).alloc (Nat.le_refl _) _⟩
  case round =>
    obtain ⟨k, hk, rfl, hI, hbw⟩ := hrel
    by_cases hlt : k < n
    · have hlt2 : (k : Int) < (n : Int) := by omega
      obtain ⟨g, rfl, row⟩ := HROW.out k hlt
      obtain ⟨nm, hnm⟩ : ∃ x, x = nameAt fs k := ⟨_, rfl⟩
      obtain ⟨vl, hvl⟩ : ∃ x, x = valAt fs k := ⟨_, rfl⟩
      obtain ⟨out, hout⟩ : ∃ x, x = ftTo fs k := ⟨_, rfl⟩
      have HR : Hid (∀ W, Below w.heap.size w W → W.cell? ⟨g, k * 2, none⟩ = some (.string nm) ∧ W.cell? ⟨g, k * 2 + 1, none⟩ = some (.string vl)) := fun W h => by
        rw [hnm, hvl]; exact ⟨(row.below h row.lt).name k hlt, (row.below h row.lt).val k hlt⟩
      have hz := HZ.out k hlt
      rw [ftTo_size] at hz
      have HN : Hid (out ++ nm ++ ⟨#[58, 32]⟩ ++ vl ++ ⟨#[13, 10]⟩ = ftTo fs (k + 1)) := by
        show _ = _
        rw [ftTo, ← hout, hnm, hvl]
      rw [← hout, ← hnm, ← hvl] at hz
      rw [← hout] at hI
      have e1 : (⟨#[58, 32]⟩ : ByteArray).size = 2 := rfl
      have e2 : (⟨#[13, 10]⟩ : ByteArray).size = 2 := rfl
      have q1 : out.size + nm.size ≤ 140737488355328 := by omega
      have q2 : (out ++ nm).size + (⟨#[58, 32]⟩ : ByteArray).size ≤ 140737488355328 := by rw [ByteArray.size_append]; omega
      have q3 : (out ++ nm ++ ⟨#[58, 32]⟩).size + vl.size ≤ 140737488355328 := by rw [ByteArray.size_append, ByteArray.size_append]; omega
      have q4 : (out ++ nm ++ ⟨#[58, 32]⟩ ++ vl).size + (⟨#[13, 10]⟩ : ByteArray).size ≤ 140737488355328 := by rw [ByteArray.size_append, ByteArray.size_append, ByteArray.size_append]; omega
      obtain ⟨c1, c2⟩ := HR.out wr hbw
      clear hnm hvl hout hz row
      go_wp2_with fail
      refine (write_any w.heap.size out nm _ hI.out q1 hbw.size).mono ?_
      rintro e w1 ⟨rfl, hI1, hb1⟩
      have hbw1 := hbw.trans hb1
      have HI1 : Hid (Holding w.heap.size (out ++ nm) w1) := hI1
      obtain ⟨c1a, c2a⟩ := HR.out w1 hbw1
      clear c1 c2 hb1 hI1 hI hbw
      go_wp2_with fail
      refine (write_any w.heap.size (out ++ nm) ⟨#[58, 32]⟩ _ HI1.out q2 hbw1.size).mono ?_
      rintro e w2 ⟨rfl, hI2, hb2⟩
      have hbw2 := hbw1.trans hb2
      have HI2 : Hid (Holding w.heap.size (out ++ nm ++ ⟨#[58, 32]⟩) w2) := hI2
      obtain ⟨c1b, c2b⟩ := HR.out w2 hbw2
      clear c1a c2a hb2 hI2 HI1 hbw1
      go_wp2_with fail
      refine (write_any w.heap.size (out ++ nm ++ ⟨#[58, 32]⟩) vl _ HI2.out q3 hbw2.size).mono ?_
      rintro e w3 ⟨rfl, hI3, hb3⟩
      have hbw3 := hbw2.trans hb3
      have HI3 : Hid (Holding w.heap.size (out ++ nm ++ ⟨#[58, 32]⟩ ++ vl) w3) := hI3
      clear c1b c2b hb3 hI3 HI2 hbw2
      go_wp2_with fail
      refine (write_any w.heap.size (out ++ nm ++ ⟨#[58, 32]⟩ ++ vl) ⟨#[13, 10]⟩ _ HI3.out q4 hbw3.size).mono ?_
      rintro e w4 ⟨rfl, hI4, hb4⟩
      have hbw4 := hbw3.trans hb4
      rw [HN.out] at hI4
      have HI4 : Hid (Holding w.heap.size (ftTo fs (k + 1)) w4) := hI4
      clear hb4 hI4 HI3 hbw3
      go_wp2
      go_roundw
      case rel => exact ⟨k + 1, by omega, by go_num, HI4, hbw4⟩
      case measure => simp [intOf]; omega
    · obtain rfl : k = n := by omega
      go_wp2_with fail
      refine (text_out w.heap.size _ _ hI.out hbw.size).mono ?_
      rintro e w1 ⟨rfl, hb1⟩
      have hbw1 := hbw.trans hb1
      clear hb1 hbw hI
      go_wp2
      go_ret
      exact TextIs.of HF.out.symm hbw1

end Go.Proofs.YtacfajnagbeocaaGreatDoor

namespace Go.Proofs.YtacfajnagbeocaaGreatDoor
open Go.RowKit
open Go.Lib hiding intOf

/-- All blocks that were there but the list's own are as they were. -/
def Far (v : Value) (w w' : World) : Prop := ∀ j, j < w.heap.size → v.ownBlock ≠ some j → w'.heap[j]? = w.heap[j]?

end Go.Proofs.YtacfajnagbeocaaGreatDoor

namespace Go.Proofs.YtacfajnagbeocaaGreatDoor
open Go.RowKit
open Go.Lib hiding intOf

/-- The list with its first k fields marked, from k0 on. -/
def mkG (k0 : Nat) (fs : List (ByteArray × ByteArray)) : Nat → List (ByteArray × ByteArray)
  | 0 => fs
  | k + 1 => (mkG k0 fs k).set k (markOf (k0 + 2 * k), markOf (k0 + 2 * k + 1))
theorem mkG_len (k0 : Nat) (fs : List (ByteArray × ByteArray)) : ∀ k, (mkG k0 fs k).length = fs.length
  | 0 => rfl
  | k + 1 => by rw [mkG, List.length_set, mkG_len k0 fs k]
theorem mkG_at (k0 : Nat) (fs : List (ByteArray × ByteArray)) (j : Nat) : ∀ k, k ≤ fs.length → j < k → nameAt (mkG k0 fs k) j = markOf (k0 + 2 * j) ∧ valAt (mkG k0 fs k) j = markOf (k0 + 2 * j + 1) := by
  intro k
  induction k with
  | zero => intro _ h; omega
  | succ k ih =>
    intro hk h
    have hs := nameAt_set (mkG k0 fs k) k j (markOf (k0 + 2 * k), markOf (k0 + 2 * k + 1)) (by rw [mkG_len]; omega)
    rw [mkG, hs.1, hs.2]
    by_cases e : j = k
    · subst e; rw [if_pos rfl, if_pos rfl]; exact ⟨rfl, rfl⟩
    · rw [if_neg e, if_neg e]; exact ih (by omega) (by omega)

set_option maxHeartbeats 2000000 in
theorem markFrom_any (v : Value) (n base : Nat) (fs : List (ByteArray × ByteArray)) (w : World) (h1 : w.ownsRow base 63 2 v n (flatF fs)) (hb : base ≤ w.heap.size) (k0 : Nat) (hk0 : 1 ≤ k0) (hn : k0 + 2 * n ≤ 9999999) :
    Calls Tryz.prog 19 #[v, .int .i64 (k0 : Int)] w fun e w' => e = .returned (.int .i64 ((k0 : Int) + 2 * (n : Int))) ∧ w'.ownsRow base 63 2 v n (flatF (mkG k0 fs n)) ∧ Below base w w' ∧ Far v w w' := by
  rcases frow_form h1 with ⟨oa, ca, rfl, _, rfl, rfl⟩ | ⟨g, cap, rfl, hp, r1⟩
  · go_enter Tryz.func19, Tryz.ntmps19
    go_wp2
    refine wp_loop_rounds 1 ?_
    rw [rounds_succ]
    go_wp2
    go_ret
    exact ⟨ret_int (by simp), h1, Below.refl _ _, fun j _ _ => rfl⟩
  · clear h1
    go_enter Tryz.func19, Tryz.ntmps19
    go_wp2
    go_loopw [1, 5] (fun q i wr => ∃ k : Nat, k ≤ n ∧ i = .int .i64 (k : Int) ∧ q = .int .i64 ((k0 : Int) + 2 * (k : Int)) ∧ Below base w wr ∧ FieldRow base wr g n cap (mkG k0 fs k) ∧ Hid (∀ j, j < w.heap.size → j ≠ g → wr.heap[j]? = w.heap[j]?)) (fun _ i _ => n - (intOf i).toNat)
    case atStart => exact ⟨0, Nat.zero_le _, rfl, by simp, Below.refl _ _, r1, fun j _ _ => rfl⟩
    case round =>
      obtain ⟨k, hk, rfl, rfl, hbw, hrow, hfar⟩ := hrel
      by_cases hlt : k < n
      · have hlt2 : (k : Int) < (n : Int) := by omega
        have hszr := hbw.size
        go_wp2_with fail
        refine (markText_int _ (k0 + 2 * k) _ (by omega) (by omega) (by omega)).mono ?_
        rintro e w1 ⟨rfl, hb1⟩
        have hrow1 := hrow.below hb1 hrow.lt
        have hc := hrow1.name k hlt
        have hf := hrow1.frozen (k * 2)
        have hb2 : Below base w w1 := hbw.trans (hb1.mono (Nat.le_trans hb hbw.size))
        have HF1 : Hid (∀ j, j < w.heap.size → j ≠ g → w1.heap[j]? = w.heap[j]?) := fun j hj hne => by rw [hb1.block j (by omega)]; exact hfar.out j hj hne
        clear hb1 hbw
        go_wp2_with fail
        refine (markText_int _ (k0 + 2 * k + 1) _ (by omega) (by omega) (by omega)).mono ?_
        rintro e w2 ⟨rfl, hb3⟩
        have hlt3 : g < (w1.setCell ⟨g, k * 2, none⟩ (.string (markOf (k0 + 2 * k)))).heap.size := by simpa using hrow1.lt
        have hblk := hb3.block g hlt3
        have hc2 : w2.cell? ⟨g, k * 2 + 1, none⟩ = some (.string (valAt (mkG k0 fs k) k)) := by
          rw [World.cell?_of_block (w := w1.setCell ⟨g, k * 2, none⟩ (.string (markOf (k0 + 2 * k)))) hblk, World.cell?_setCell_other (h := fun e => by have := congrArg Addr.off e; simp at this)]
          exact hrow1.val k hlt
        have hf2 : w2.frozen? ⟨g, k * 2 + 1, none⟩ = false := by
          rw [World.frozen?_of_block (w := w1.setCell ⟨g, k * 2, none⟩ (.string (markOf (k0 + 2 * k)))) hblk, World.frozen?_setCell]; exact hrow1.frozen _
        have hb4 : Below base w w2 := (hb2.setCell hrow.base _).trans (hb3.mono (by have := hb2.size; simp; omega))
        have hsz2 : w1.heap.size ≤ w2.heap.size := by have := hb3.size; simpa using this
        have HF2 : Hid (∀ j, j < w.heap.size → j ≠ g → (w2.setCell ⟨g, k * 2 + 1, none⟩ (.string (markOf (k0 + 2 * k + 1)))).heap[j]? = w.heap[j]?) := fun j hj hne => by
          have hs1 : w.heap.size ≤ w1.heap.size := hb2.size
          rw [heap_setCell_other _ _ j _ (fun e => hne e), hb3.block j (by simp; omega), heap_setCell_other _ _ j _ (fun e => hne e)]
          exact HF1.out j hj hne
        clear hb3 hb2
        have HROW : Hid (FieldRow base (w2.setCell ⟨g, k * 2 + 1, none⟩ (.string (markOf (k0 + 2 * k + 1)))) g n cap (mkG k0 fs (k + 1))) := hrow1.set k hlt _ _ _ (heap_setCell_congr hblk _ _) (by simpa using hsz2)
        clear hblk hc hf
        go_wp2
        go_roundw
        case rel => exact ⟨k + 1, by omega, by go_num, by first | go_num | (congr 1; omega), hb4.setCell hrow.base _, HROW, HF2⟩
        case measure => simp [intOf]; omega
      · obtain rfl : k = n := by omega
        go_wp2
        go_ret
        exact ⟨rfl, hrow.owns, hbw, fun j hj hne => hfar.out j hj (fun e => hne (by rw [e]; rfl))⟩

set_option maxHeartbeats 2000000 in
theorem heldFrom_any (v : Value) (n base : Nat) (fs : List (ByteArray × ByteArray)) (w : World) (h1 : w.ownsRow base 63 2 v n (flatF fs)) (k0 : Nat) (hk0 : 1 ≤ k0) (hn : k0 + 2 * n ≤ 9999999) (hm : ∀ j, j < n → nameAt fs j = markOf (k0 + 2 * j) ∧ valAt fs j = markOf (k0 + 2 * j + 1)) :
    Calls Tryz.prog 20 #[v, .int .i64 (k0 : Int)] w fun e w' => e = .returned (.int .i64 ((k0 : Int) + 2 * (n : Int))) ∧ Below w.heap.size w w' := by
  rcases frow_form h1 with ⟨oa, ca, rfl, _, rfl, rfl⟩ | ⟨g, cap, rfl, hp, r1⟩
  · clear hm
    go_enter Tryz.func20, Tryz.ntmps20
    go_wp2
    refine wp_loop_rounds 1 ?_
    rw [rounds_succ]
    go_wp2
    go_ret
    exact ⟨ret_int (by simp), Below.refl _ _⟩
  · clear h1
    have HM : Hid (∀ j, j < n → nameAt fs j = markOf (k0 + 2 * j) ∧ valAt fs j = markOf (k0 + 2 * j + 1)) := hm
    clear hm
    go_enter Tryz.func20, Tryz.ntmps20
    go_wp2
    go_loopw [1, 5] (fun q i wr => ∃ k : Nat, k ≤ n ∧ i = .int .i64 (k : Int) ∧ q = .int .i64 ((k0 : Int) + 2 * (k : Int)) ∧ Below w.heap.size w wr) (fun _ i _ => n - (intOf i).toNat)
    case atStart => exact ⟨0, Nat.zero_le _, rfl, by simp, Below.refl _ _⟩
    case round =>
      obtain ⟨k, hk, rfl, rfl, hbw⟩ := hrel
      by_cases hlt : k < n
      · have hlt2 : (k : Int) < (n : Int) := by omega
        have HA : Hid (∀ w0 w1, Below w.heap.size w w0 → Below w0.heap.size w0 w1 → (w1.cell? ⟨g, k * 2, none⟩ = some (.string (markOf (k0 + 2 * k))) ∧ w1.cell? ⟨g, k * 2 + 1, none⟩ = some (.string (markOf (k0 + 2 * k + 1)))) ∧ Below w.heap.size w w1) := fun w0 w1 h h' => by
          have hx := h.trans (h'.mono h.size)
          have a1 := (r1.below hx r1.lt).name k hlt
          have a2 := (r1.below hx r1.lt).val k hlt
          rw [(HM.out k hlt).1] at a1
          rw [(HM.out k hlt).2] at a2
          exact ⟨⟨a1, a2⟩, hx⟩
        obtain ⟨⟨hc1, hc2⟩, _⟩ := HA.out wr wr hbw (Below.refl _ _)
        go_wp2
        go_region_held3 (fun w' => w'.cell? ⟨g, k * 2, none⟩ = some (.string (markOf (k0 + 2 * k)))) (first | assumption | go_keep) (first | (go_at_call 18; refine (markText_int _ (k0 + 2 * k) _ (by omega) (by omega) (by omega)).mono ?_; rintro e w1 ⟨rfl, hb1⟩; obtain ⟨⟨hd1, hd2⟩, hbx⟩ := HA.out _ w1 hbw.drew hb1))
        clear hc1 hc2 hd1
        go_wp2
        go_region_held3 (fun w' => w'.cell? ⟨g, k * 2 + 1, none⟩ = some (.string (markOf (k0 + 2 * k + 1)))) (first | assumption | go_keep) (first | (go_at_call 18; refine (markText_int _ (k0 + 2 * k + 1) _ (by omega) (by omega) (by omega)).mono ?_; rintro e w2 ⟨rfl, hb2⟩; obtain ⟨⟨he1, he2⟩, hby⟩ := HA.out _ w2 hbx.drew hb2))
        go_wp2
        go_roundw
        case rel => exact ⟨k + 1, by omega, by go_num, by first | go_num | (congr 1; omega), hby⟩
        case measure => simp [intOf]; omega
      · obtain rfl : k = n := by omega
        go_wp2
        go_ret
        exact ⟨rfl, hbw⟩

end Go.Proofs.YtacfajnagbeocaaGreatDoor

namespace Go.Proofs.YtacfajnagbeocaaGreatDoor
open Go.RowKit
open Go.Lib hiding intOf

set_option maxHeartbeats 2000000 in
set_option maxRecDepth 100000 in
theorem eqReq_any (m : Int) (p : ByteArray) (v1 v2 : Value) (b : ByteArray) (n b1 b2 : Nat) (fs : List (ByteArray × ByteArray)) (w : World) (h1 : FieldsV w b1 v1 n fs) (h2 : FieldsV w b2 v2 n fs) (hn : n ≤ 2000000) :
    Calls Tryz.prog 17 #[.agg #[.int .i64 m, .string p, v1, .string b], .agg #[.int .i64 m, .string p, v2, .string b]] w fun e w' => e = .returned (.bool true) ∧ Below w.heap.size w w' := by
  obtain ⟨oa, ca, rfl, _⟩ := h1.slice
  obtain ⟨ob, cb, rfl, _⟩ := h2.slice
  have tp : (p.toList == p.toList) = true := by simp
  have tb : (b.toList == b.toList) = true := by simp
  have tm : (m != m) = false := by simp
  obtain ⟨w0, hw0⟩ : ∃ W, W = ((w.alloc (.cells #[.int .i64 m, .string p, .slice oa n ca, .string b] 37)).alloc (.cells #[.int .i64 m, .string p, .slice ob n cb, .string b] 37)) := ⟨_, rfl⟩
  have hs0 : w0.heap.size = w.heap.size + 1 + 1 := by rw [hw0]; simp
  have hb0 : Below w.heap.size w w0 := by rw [hw0]; exact ((Below.refl _ w).alloc (Nat.le_refl _) _).alloc (by simp) _
  have x1 : w0.heap[w.heap.size]? = some (.cells #[.int .i64 m, .string p, .slice oa n ca, .string b] 37) := by
    rw [hw0, heap_alloc_old _ _ (by simp)]; exact heap_alloc_new w _
  have x2 : w0.heap[w.heap.size + 1]? = some (.cells #[.int .i64 m, .string p, .slice ob n cb, .string b] 37) := by
    rw [hw0]
    have := heap_alloc_new (w.alloc (.cells #[.int .i64 m, .string p, .slice oa n ca, .string b] 37)) (.cells #[.int .i64 m, .string p, .slice ob n cb, .string b] 37)
    simpa using this
  go_enter Tryz.func17, Tryz.ntmps17
  go_wp2_with fail
  rw [← hw0]
  refine (eqFieldS_any _ _ n b1 b2 fs _ (h1.below hb0) (h2.below hb0) hn).mono ?_
  rintro e w1 ⟨rfl, bb1⟩
  rw [← bb1.block _ (by omega)] at x1 x2
  obtain ⟨q, hq⟩ : ∃ q, q = w.heap.size + 1 := ⟨_, rfl⟩
  obtain ⟨c, hc⟩ : ∃ c, c = w.heap.size := ⟨_, rfl⟩
  rw [← hq] at x2
  rw [← hc] at x1
  have y1 : w1.cell? ⟨c, 3, none⟩ = some (.string b) := by simp [World.cell?, x1]
  have y2 : w1.cell? ⟨q, 3, none⟩ = some (.string b) := by simp [World.cell?, x2]
  have hbw1 : Below w.heap.size w w1 := hb0.trans (bb1.mono hb0.size)
  rw [← hq, ← hc]
  clear x1 x2 hq hc hw0 hs0 hb0 bb1 h1 h2
  go_wp2
  go_ret
  exact ⟨rfl, hbw1⟩

end Go.Proofs.YtacfajnagbeocaaGreatDoor

namespace Go.Proofs.YtacfajnagbeocaaGreatDoor
open Go.RowKit
open Go.Lib hiding intOf

theorem ReqsO.form {w : World} {base : Nat} {V : Value} {rv : List (RqD × Value)} (h : ReqsO w base V rv) : ∃ oa cap, V = .slice oa rv.length cap := by
  rcases h.row.2 with ⟨e, h0⟩ | ⟨g, cap, cur, e, _⟩
  · exact ⟨none, 0, by rw [e, h0]⟩
  · exact ⟨_, _, e⟩
/-- The cells of request k. -/
theorem ReqsO.at {w : World} {base : Nat} {oa : Option Addr} {n cap : Nat} {rv : List (RqD × Value)} (h : ReqsO w base (.slice oa n cap) rv) (k : Nat) (hk : k < rv.length) :
    ∃ g, oa = some ⟨g, 0, none⟩ ∧ base ≤ g ∧ g < w.heap.size ∧ (w.cell? ⟨g, k * 4, none⟩ = some (.int .i64 (rv[k]'hk).1.m) ∧ w.cell? ⟨g, k * 4 + 1, none⟩ = some (.string (rv[k]'hk).1.p) ∧ w.cell? ⟨g, k * 4 + 2, none⟩ = some (rv[k]'hk).2 ∧ w.cell? ⟨g, k * 4 + 3, none⟩ = some (.string (rv[k]'hk).1.b)) ∧ (∀ o, o < 4 → w.frozen? ⟨g, k * 4 + o, none⟩ = false) := by
  have hr := h.row
  rcases hr.2 with ⟨e, h0⟩ | ⟨g, cap', cur, e, h1, h2, _⟩
  · omega
  · cases e
    have hlt : g < w.heap.size := (Array.getElem?_eq_some_iff.1 h2).1
    have key : ∀ j, j < 4 → ∀ u, (rqC (rv[k]'hk))[j]? = some u → w.cell? ⟨g, k * 4 + j, none⟩ = some u ∧ w.frozen? ⟨g, k * 4 + j, none⟩ = false := fun j hj u hu => owns_cellC hr (k * 4 + j) u (by rw [flatR_at j hj rv k hk]; exact hu)
    refine ⟨g, rfl, h1, hlt, ⟨(key 0 (by omega) _ rfl).1, (key 1 (by omega) _ rfl).1, (key 2 (by omega) _ rfl).1, (key 3 (by omega) _ rfl).1⟩, fun o ho => ?_⟩
    have : ∃ u, (rqC (rv[k]'hk))[o]? = some u := ⟨_, List.getElem?_eq_getElem (by simpa [rqC] using ho)⟩
    obtain ⟨u, hu⟩ := this
    exact (key o ho u hu).2

set_option maxHeartbeats 4000000 in
set_option maxRecDepth 100000 in
theorem eqReqS_any (b1 b2 : Nat) (V1 V2 : Value) (rv1 rv2 : List (RqD × Value)) (w : World) (h1 : ReqsO w b1 V1 rv1) (h2 : ReqsO w b2 V2 rv2) (he : rv1.map Prod.fst = rv2.map Prod.fst) (hn : rv1.length ≤ 1000000) (h8 : ∀ x ∈ rv1, x.1.fs.length ≤ 2000000) :
    Calls Tryz.prog 9 #[V1, V2] w fun e w' => e = .returned (.bool true) ∧ Below w.heap.size w w' := by
  have hll : rv1.length = rv2.length := by have := congrArg List.length he; simpa using this
  obtain ⟨oa1, c1, rfl⟩ := h1.form
  obtain ⟨oa2, c2, rfl⟩ := h2.form
  rw [← hll] at h2 ⊢
  obtain ⟨n, hn0⟩ : ∃ n, n = rv1.length := ⟨_, rfl⟩
  rw [← hn0] at h1 h2 hn ⊢
  have H1 : Hid (ReqsO w b1 (.slice oa1 n c1) rv1) := h1
  have H2 : Hid (ReqsO w b2 (.slice oa2 n c2) rv2) := h2
  have HL : Hid (n = rv1.length ∧ n = rv2.length) := ⟨hn0, by omega⟩
  have HE : Hid (∀ k (hk : k < rv1.length) (hk2 : k < rv2.length), (rv1[k]'hk).1 = (rv2[k]'hk2).1) := fun k hk hk2 => by
    have := congrArg (fun l => l[k]?) he
    simp only [List.getElem?_map, List.getElem?_eq_getElem hk, List.getElem?_eq_getElem hk2] at this
    simpa using this
  have H8 : Hid (∀ x ∈ rv1, x.1.fs.length ≤ 2000000) := h8
  clear h1 h2 hll he hn0 h8
  go_enter Tryz.func9, Tryz.ntmps9
  go_wp2
  go_loopw [5] (fun i wr => ∃ k : Nat, k ≤ n ∧ i = .int .i64 (k : Int) ∧ Below w.heap.size w wr) (fun i _ => n - (intOf i).toNat)
  case atStart => exact ⟨0, Nat.zero_le _, rfl, Below.refl _ _⟩
  case round =>
    obtain ⟨k, hk, rfl, hbw⟩ := hrel
    by_cases hlt : k < n
    · have hlt2 : (k : Int) < (n : Int) := by omega
      have hk1 : k < rv1.length := by rw [← HL.out.1]; exact hlt
      have hk2 : k < rv2.length := by rw [← HL.out.2]; exact hlt
      obtain ⟨g1, rfl, _, _, _, _⟩ := H1.out.at k hk1
      obtain ⟨g2, rfl, _, _, _, _⟩ := H2.out.at k hk2
      have hw1 := H1.out.own _ (List.getElem_mem hk1)
      have hw2 := H2.out.own _ (List.getElem_mem hk2)
      have he := HE.out k hk1 hk2
      have h8 := H8.out _ (List.getElem_mem hk1)
      obtain ⟨o1, e1, ho1⟩ := slice_of_owns hw1
      obtain ⟨o2, e2, ho2⟩ := slice_of_owns hw2
      obtain ⟨m, hm⟩ : ∃ x, x = (rv1[k]'hk1).1.m := ⟨_, rfl⟩
      obtain ⟨p, hp⟩ : ∃ x, x = (rv1[k]'hk1).1.p := ⟨_, rfl⟩
      obtain ⟨fs, hfs⟩ : ∃ x, x = (rv1[k]'hk1).1.fs := ⟨_, rfl⟩
      obtain ⟨b, hb⟩ : ∃ x, x = (rv1[k]'hk1).1.b := ⟨_, rfl⟩
      obtain ⟨nf, hnf⟩ : ∃ x, x = fs.length := ⟨_, rfl⟩
      rw [← he] at hw2 ho2
      rw [← hfs, ← hnf] at hw1 hw2 ho1 ho2 h8
      rw [ho1] at hw1
      rw [ho2] at hw2
      have HA : Hid (∀ W, Below w.heap.size w W → ((W.cell? ⟨g1, k * 4, none⟩ = some (.int .i64 m) ∧ W.cell? ⟨g1, k * 4 + 1, none⟩ = some (.string p) ∧ W.cell? ⟨g1, k * 4 + 2, none⟩ = some (.slice o1 nf e1) ∧ W.cell? ⟨g1, k * 4 + 3, none⟩ = some (.string b)) ∧ W.cell? ⟨g2, k * 4, none⟩ = some (.int .i64 m) ∧ W.cell? ⟨g2, k * 4 + 1, none⟩ = some (.string p) ∧ W.cell? ⟨g2, k * 4 + 2, none⟩ = some (.slice o2 nf e2) ∧ W.cell? ⟨g2, k * 4 + 3, none⟩ = some (.string b)) ∧ FieldsV W b1 (.slice o1 nf e1) nf fs ∧ FieldsV W b2 (.slice o2 nf e2) nf fs) := fun W h => by
        obtain ⟨x1, y1, _, _, ⟨a1, a2, a3, a4⟩, _⟩ := (H1.out.later h).at k hk1
        obtain ⟨x2, y2, _, _, ⟨c1, c2, c3, c4⟩, _⟩ := (H2.out.later h).at k hk2
        cases y1
        cases y2
        rw [← he] at c1 c2 c4
        rw [ho1] at a3
        rw [ho2] at c3
        rw [← hm] at a1 c1
        rw [← hp] at a2 c2
        rw [← hb] at a4 c4
        exact ⟨⟨⟨a1, a2, a3, a4⟩, c1, c2, c3, c4⟩, (FieldsV.of_owns hw1).below h, (FieldsV.of_owns hw2).below h⟩
      clear hw1 hw2 he ho1 ho2 hm hp hfs hb hnf
      have HD : Hid (FieldsV wr.drew b1 (.slice o1 nf e1) nf fs ∧ FieldsV wr.drew b2 (.slice o2 nf e2) nf fs) := (HA.out wr.drew hbw.drew).2
      have HB : Hid (∀ W, Below wr.drew.heap.size wr.drew W → Below w.heap.size w W) := fun W h => hbw.drew.trans (h.mono hbw.size)
      obtain ⟨⟨a1, a2, a3, a4⟩, c1, c2, c3, c4⟩ := (HA.out wr hbw).1
      go_wp2
      go_region_held3 (fun W => (W.cell? ⟨g1, k * 4, none⟩ = some (.int .i64 m) ∧ W.cell? ⟨g1, k * 4 + 1, none⟩ = some (.string p) ∧ W.cell? ⟨g1, k * 4 + 2, none⟩ = some (.slice o1 nf e1) ∧ W.cell? ⟨g1, k * 4 + 3, none⟩ = some (.string b)) ∧ W.cell? ⟨g2, k * 4, none⟩ = some (.int .i64 m) ∧ W.cell? ⟨g2, k * 4 + 1, none⟩ = some (.string p) ∧ W.cell? ⟨g2, k * 4 + 2, none⟩ = some (.slice o2 nf e2) ∧ W.cell? ⟨g2, k * 4 + 3, none⟩ = some (.string b)) (first | assumption | go_keep) (first | (go_at_call 17; refine (eqReq_any m p _ _ b nf b1 b2 fs _ HD.out.1 HD.out.2 h8).mono ?_; rintro e w1 ⟨rfl, hb1⟩; have hbx := HB.out w1 hb1; have hcc := (HA.out w1 hbx).1))
      go_wp2
      go_roundw
      case rel => exact ⟨k + 1, by omega, by go_num, hbx⟩
      case measure => simp [intOf]; omega
    · go_wp2
      go_ret
      exact ⟨rfl, hbw⟩

end Go.Proofs.YtacfajnagbeocaaGreatDoor

namespace Go.Proofs.YtacfajnagbeocaaGreatDoor
open Go.RowKit
open Go.Lib hiding intOf

/-- A request marked from k on; how many numbers it takes. -/
def mkRq (k : Nat) (r : RqD) : RqD := ⟨(k : Int), markOf (k + 1), mkG (k + 2) r.fs r.fs.length, markOf (k + 2 + 2 * r.fs.length)⟩
def stepK (r : RqD) : Nat := 3 + 2 * r.fs.length
def kAt : List (RqD × Value) → Nat → Nat
  | _, 0 => 1
  | [], _ + 1 => 1
  | x :: t, j + 1 => stepK x.1 + kAt t j
theorem kAt_succ : ∀ (rv : List (RqD × Value)) (j : Nat) (hj : j < rv.length), kAt rv (j + 1) = kAt rv j + stepK (rv[j]'hj).1
  | [], j, hj => by simp at hj
  | x :: t, 0, _ => by
    cases t <;> simp [kAt] <;> omega
  | x :: t, j + 1, hj => by
    have := kAt_succ t j (by simpa using hj)
    simp only [kAt, List.getElem_cons_succ]
    omega
theorem kAt_pos : ∀ (rv : List (RqD × Value)) (j : Nat), 1 ≤ kAt rv j
  | _, 0 => by cases ‹List (RqD × Value)› <;> simp [kAt]
  | [], _ + 1 => by simp [kAt]
  | x :: t, j + 1 => by have := kAt_pos t j; simp only [kAt]; omega
theorem kAt_mono (rv : List (RqD × Value)) (i j : Nat) (h : i ≤ j) (hj : j ≤ rv.length) : kAt rv i ≤ kAt rv j := by
  induction j with
  | zero => rw [Nat.le_zero.1 h]; exact Nat.le_refl _
  | succ j ih =>
    by_cases e : i = j + 1
    · subst e; exact Nat.le_refl _
    · have h1 := ih (by omega) (by omega)
      rw [kAt_succ rv j (by omega)]
      omega
/-- The list with its first j requests marked. -/
def mkR (rv : List (RqD × Value)) : Nat → List (RqD × Value)
  | 0 => rv
  | j + 1 => if h : j < rv.length then (mkR rv j).set j (mkRq (kAt rv j) (rv[j]'h).1, (rv[j]'h).2) else mkR rv j
theorem mkR_len (rv : List (RqD × Value)) : ∀ j, (mkR rv j).length = rv.length
  | 0 => rfl
  | j + 1 => by
    unfold mkR
    split
    · rw [List.length_set, mkR_len rv j]
    · exact mkR_len rv j
theorem mkR_at (rv : List (RqD × Value)) (i : Nat) (hi : i < rv.length) : ∀ j, j ≤ rv.length → (mkR rv j)[i]? = some (if i < j then (mkRq (kAt rv i) (rv[i]'hi).1, (rv[i]'hi).2) else rv[i]'hi) := by
  intro j
  induction j with
  | zero => intro _; simp [mkR]
  | succ j ih =>
    intro hj
    unfold mkR
    rw [dif_pos (by omega)]
    by_cases e : i = j
    · subst e
      rw [List.getElem?_set_self (by rw [mkR_len]; exact hi), if_pos (by omega)]
    · rw [List.getElem?_set_ne (by omega), ih (by omega)]
      by_cases h : i < j
      · rw [if_pos h, if_pos (by omega)]
      · rw [if_neg h, if_neg (by omega)]
theorem mkR_own (rv : List (RqD × Value)) (i : Nat) (hi : i < rv.length) (j : Nat) (hj : j ≤ rv.length) : ((mkR rv j)[i]'(by rw [mkR_len]; exact hi)).2 = (rv[i]'hi).2 := by
  have := mkR_at rv i hi j hj
  rw [List.getElem?_eq_getElem (by rw [mkR_len]; exact hi)] at this
  have := Option.some.inj this
  rw [this]
  split <;> rfl

theorem apart_at {rv : List (RqD × Value)} (h : rv.Pairwise (fun a b => ∀ g, a.2.ownBlock = some g → b.2.ownBlock ≠ some g)) (i j : Nat) (hi : i < rv.length) (hj : j < rv.length) (hne : i ≠ j) (g : Nat) (hg : (rv[i]'hi).2.ownBlock = some g) : (rv[j]'hj).2.ownBlock ≠ some g := by
  rw [List.pairwise_iff_getElem] at h
  rcases Nat.lt_or_ge i j with hl | hl
  · exact h i j hi hj hl g hg
  · intro e
    exact h j i hj hi (by omega) g e hg
theorem apart_of {rv : List (RqD × Value)} (h : ∀ i j (hi : i < rv.length) (hj : j < rv.length), i ≠ j → ∀ g, (rv[i]'hi).2.ownBlock = some g → (rv[j]'hj).2.ownBlock ≠ some g) : rv.Pairwise (fun a b => ∀ g, a.2.ownBlock = some g → b.2.ownBlock ≠ some g) := by
  rw [List.pairwise_iff_getElem]
  intro i j hi hj hl
  exact h i j hi hj (by omega)

/-- While a request is marked: the row's cells as they are, every list of fields as it is. -/
structure RqSt (W : World) (base g n cap : Nat) (xs : List Value) (L : List (RqD × Value)) : Prop where
  row : W.ownsRow base 37 4 (.slice (some ⟨g, 0, none⟩) n cap) n xs
  own : ∀ i (hi : i < L.length), W.ownsRow base 63 2 (L[i]'hi).2 (L[i]'hi).1.fs.length (flatF (L[i]'hi).1.fs)
theorem RqSt.of {W : World} {base g n cap : Nat} {L : List (RqD × Value)} (h : ReqsO W base (.slice (some ⟨g, 0, none⟩) n cap) L) (hn : L.length = n) : RqSt W base g n cap (flatR L) L := by
  subst hn
  exact ⟨h.row, fun i hi => h.own _ (List.getElem_mem hi)⟩
theorem RqSt.put {W : World} {base g n cap : Nat} {xs : List Value} {L : List (RqD × Value)} (h : RqSt W base g n cap xs L) (o : Nat) (u : Value) : RqSt (W.setCell ⟨g, o, none⟩ u) base g n cap (xs.set o u) L :=
  ⟨owns_setC h.row o u, fun i hi => owns_same (h.own i hi) (fun j hj => heap_setCell_other _ _ j _ (fun e => by
    have := own_two (h.own i hi) h.row (by decide) hj
    exact this (by rw [e]; rfl)))⟩
theorem RqSt.later {W W' : World} {base g n cap : Nat} {xs : List Value} {L : List (RqD × Value)} (h : RqSt W base g n cap xs L) (hb : Below W.heap.size W W') : RqSt W' base g n cap xs L :=
  ⟨owns_same h.row (fun j hj => hb.block j (own_ltR h.row hj).2), fun i hi => owns_same (h.own i hi) (fun j hj => hb.block j (own_ltR (h.own i hi) hj).2)⟩
theorem RqSt.lt {W : World} {base g n cap : Nat} {xs : List Value} {L : List (RqD × Value)} (h : RqSt W base g n cap xs L) : base ≤ g ∧ g < W.heap.size := own_ltR h.row rfl
theorem RqSt.marked {W W' : World} {base g n cap : Nat} {xs : List Value} {L : List (RqD × Value)} (h : RqSt W base g n cap xs L) (j : Nat) (hj : j < L.length) (hap : ∀ i (hi : i < L.length), i ≠ j → ∀ b, (L[i]'hi).2.ownBlock = some b → (L[j]'hj).2.ownBlock ≠ some b) (hf : Far (L[j]'hj).2 W W') (r : RqD) (hown : W'.ownsRow base 63 2 (L[j]'hj).2 r.fs.length (flatF r.fs)) : RqSt W' base g n cap xs (L.set j (r, (L[j]'hj).2)) := by
  refine ⟨owns_same h.row (fun i hi => hf i (own_ltR h.row hi).2 (fun e => own_two h.row (h.own j hj) (by decide) hi e)), fun i hi => ?_⟩
  have hi' : i < L.length := by simpa using hi
  by_cases e : j = i
  · subst e
    simp only [List.getElem_set_self]
    exact hown
  · simp only [List.getElem_set_ne e]
    exact owns_same (h.own i hi') (fun b hb => hf b (own_ltR (h.own i hi') hb).2 (hap i hi' (fun x => e x.symm) b hb))
theorem RqSt.cell {W : World} {base g n cap : Nat} {xs : List Value} {L : List (RqD × Value)} (h : RqSt W base g n cap xs L) (o : Nat) (u : Value) (ho : xs[o]? = some u) : W.cell? ⟨g, o, none⟩ = some u ∧ W.frozen? ⟨g, o, none⟩ = false := owns_cellC h.row o u ho
theorem flatR_mark (L : List (RqD × Value)) (j : Nat) (hj : j < L.length) (r : RqD) : (((flatR L).set (j * 4) (.int .i64 r.m)).set (j * 4 + 1) (.string r.p)).set (j * 4 + 3) (.string r.b) = flatR (L.set j (r, (L[j]'hj).2)) := by
  rw [flatR_set _ L j hj]
  congr 1
  apply List.ext_getElem?
  intro i
  rw [List.getElem?_set (j := i) (i := j * 4 + 2)]
  by_cases e : j * 4 + 2 = i
  · subst e
    have hl := flatR_len L
    rw [if_pos rfl, if_pos (by simp; omega), List.getElem?_set_ne (by omega), List.getElem?_set_ne (by omega), flatR_at 2 (by omega) L j hj]
    rfl
  · rw [if_neg e]

set_option maxHeartbeats 4000000 in
set_option maxRecDepth 100000 in
theorem markReqS_any (base : Nat) (V : Value) (rv : List (RqD × Value)) (w : World) (h : ReqsO w base V rv) (hb : base ≤ w.heap.size) (hk : kAt rv rv.length ≤ 9999000) :
    Calls Tryz.prog 10 #[V, .int .i64 1] w fun e w' => e = .returned (.int .i64 (kAt rv rv.length : Int)) ∧ ReqsO w' base V (mkR rv rv.length) ∧ Below base w w' := by
  obtain ⟨oa, cap, rfl⟩ := h.form
  obtain ⟨n, hn⟩ : ∃ n, n = rv.length := ⟨_, rfl⟩
  rw [← hn] at h hk ⊢
  have H0 : Hid (ReqsO w base (.slice oa n cap) rv) := h
  have HN : Hid (n = rv.length) := hn
  have HK : Hid (kAt rv n ≤ 9999000) := hk
  have hn6 : n ≤ 9999000 := by
    have : ∀ j, j ≤ rv.length → j ≤ kAt rv j := by
      intro j
      induction j with
      | zero => intro _; omega
      | succ j ih => intro hj; have := ih (by omega); rw [kAt_succ rv j (by omega)]; unfold stepK; omega
    have := this n (by omega)
    omega
  clear h hn hk
  go_enter Tryz.func10, Tryz.ntmps10
  have HAP : Hid (∀ i j (hi : i < rv.length) (hj : j < rv.length), i ≠ j → ∀ g, (rv[i]'hi).2.ownBlock = some g → (rv[j]'hj).2.ownBlock ≠ some g) := fun i j hi hj hne g hg => apart_at H0.out.apart i j hi hj hne g hg
  go_wp2
  go_loopw [1, 5] (fun q i wr => ∃ j : Nat, j ≤ n ∧ i = .int .i64 (j : Int) ∧ q = .int .i64 (kAt rv j : Int) ∧ Hid (ReqsO wr base (.slice oa n cap) (mkR rv j)) ∧ Below base w wr) (fun _ i _ => n - (intOf i).toNat)
  case atStart => exact ⟨0, Nat.zero_le _, rfl, by cases rv <;> rfl, H0, Below.refl _ _⟩
  case round =>
    obtain ⟨j, hj, rfl, rfl, HS, hbw⟩ := hrel
    by_cases hlt : j < n
    · have hlt2 : (j : Int) < (n : Int) := by omega
      have hj1 : j < rv.length := by rw [← HN.out]; exact hlt
      have hjL : j < (mkR rv j).length := by rw [mkR_len]; exact hj1
      obtain ⟨L, hL⟩ : ∃ L, L = mkR rv j := ⟨_, rfl⟩
      rw [← hL] at HS hjL
      have HLL : Hid (L.length = n) := by show _ = _; rw [hL, mkR_len, HN.out]
      have HLJ : Hid (L[j]'hjL = rv[j]'hj1) := by
        show _ = _
        have := mkR_at rv j hj1 j (by omega)
        rw [← hL, List.getElem?_eq_getElem hjL, if_neg (by omega)] at this
        exact Option.some.inj this
      have HAL : Hid (∀ i (hi : i < L.length), i ≠ j → ∀ b, (L[i]'hi).2.ownBlock = some b → (L[j]'hjL).2.ownBlock ≠ some b) := fun i hi hne b hb => by
        have hi1 : i < rv.length := by rw [HLL.out, HN.out] at hi; exact hi
        have e := mkR_own rv i hi1 j (by omega)
        simp only [← hL] at e
        rw [e] at hb
        rw [HLJ.out]
        exact HAP.out i j hi1 hj1 hne b hb
      have HLN : Hid (mkR rv (j + 1) = L.set j (mkRq (kAt rv j) (rv[j]'hj1).1, (rv[j]'hj1).2)) := by show _ = _; rw [mkR, dif_pos hj1, hL]
      have HAN : Hid (∀ a b (ha : a < (mkR rv (j + 1)).length) (hb : b < (mkR rv (j + 1)).length), a ≠ b → ∀ g, ((mkR rv (j + 1))[a]'ha).2.ownBlock = some g → ((mkR rv (j + 1))[b]'hb).2.ownBlock ≠ some g) := fun a b ha hb hne g hg => by
        have ha1 : a < rv.length := by rw [mkR_len] at ha; exact ha
        have hb1 : b < rv.length := by rw [mkR_len] at hb; exact hb
        rw [mkR_own rv a ha1 (j + 1) (by omega)] at hg
        rw [mkR_own rv b hb1 (j + 1) (by omega)]
        exact HAP.out a b ha1 hb1 hne g hg
      have hks := kAt_succ rv j hj1
      have hkm := kAt_mono rv (j + 1) n (by omega) (by rw [HN.out]; exact Nat.le_refl _)
      have hkp := kAt_pos rv j
      have hk9 := HK.out
      obtain ⟨g, rfl, hgb, hgl, _, _⟩ := HS.out.at j hjL
      have St0 := RqSt.of HS.out HLL.out
      obtain ⟨ov, cv, hv⟩ := slice_of_owns (St0.own j hjL)
      obtain ⟨fs, hfs⟩ : ∃ x, x = (rv[j]'hj1).1.fs := ⟨_, rfl⟩
      obtain ⟨nf, hnf⟩ : ∃ x, x = fs.length := ⟨_, rfl⟩
      obtain ⟨kq, hkq⟩ : ∃ x, x = kAt rv j := ⟨_, rfl⟩
      have hvr : (rv[j]'hj1).2 = .slice ov nf cv := by rw [← HLJ.out, hv, HLJ.out, ← hfs, ← hnf]
      have HVR : Hid ((rv[j]'hj1).2 = .slice ov nf cv) := hvr
      unfold stepK at hks
      rw [← hfs, ← hnf, ← hkq] at hks
      rw [← hkq] at hkp HLN
      rw [← hkq]
      have HFS : Hid ((rv[j]'hj1).1.fs = fs ∧ fs.length = nf) := ⟨hfs.symm, hnf.symm⟩
      have c0 := St0.cell (j * 4) _ (flatR_at 0 (by omega) L j hjL)
      have St1 := St0.put (j * 4) (.int .i64 (kq : Int))
      have HKS : Hid (kAt rv (j + 1) = kq + (3 + 2 * nf)) := hks
      have hkb : kq + (3 + 2 * nf) ≤ 9999000 := by omega
      have hbs : base ≤ wr.heap.size := Nat.le_trans hb hbw.size
      clear hL hv hvr hfs hnf hkq hks hkm hk9 St0 HS
      have HS1 : Hid (RqSt (wr.setCell ⟨g, j * 4, none⟩ (.int .i64 (kq : Int))) base g n cap ((flatR L).set (j * 4) (.int .i64 (kq : Int))) L) := St1
      have HB1 : Hid (Below base w (wr.setCell ⟨g, j * 4, none⟩ (.int .i64 (kq : Int)))) := hbw.setCell hgb _
      clear St1
      go_wp2_with fail
      refine (markText_int _ (kq + 1) _ (by omega) (by omega) (by omega)).mono ?_
      rintro e w1 ⟨rfl, b1⟩
      have St2 := HS1.out.later b1
      have c1 := St2.cell (j * 4 + 1) _ (by rw [List.getElem?_set_ne (by omega)]; exact flatR_at 1 (by omega) L j hjL)
      have c2 := (St2.cell (j * 4 + 2) _ (by rw [List.getElem?_set_ne (by omega)]; exact flatR_at 2 (by omega) L j hjL)).1
      rw [HLJ.out] at c1 c2
      rw [HVR.out] at c2
      have HB2 : Hid (Below base w (w1.setCell ⟨g, j * 4 + 1, none⟩ (.string (markOf (kq + 1))))) := (HB1.out.trans (b1.mono (by simp; omega))).setCell hgb _
      have HS2 : Hid (RqSt (w1.setCell ⟨g, j * 4 + 1, none⟩ (.string (markOf (kq + 1)))) base g n cap (((flatR L).set (j * 4) (.int .i64 (kq : Int))).set (j * 4 + 1) (.string (markOf (kq + 1)))) L) := St2.put _ _
      have hbs2 : base ≤ (w1.setCell ⟨g, j * 4 + 1, none⟩ (.string (markOf (kq + 1)))).heap.size := Nat.le_trans hb HB2.out.size
      have HOW : Hid ((w1.setCell ⟨g, j * 4 + 1, none⟩ (.string (markOf (kq + 1)))).ownsRow base 63 2 (.slice ov nf cv) nf (flatF fs)) := by
        have h := HS2.out.own j hjL
        rw [HLJ.out, HVR.out, HFS.out.1, HFS.out.2] at h
        exact h
      clear St2 b1 HS1 HB1 c0
      go_wp2_with fail
      have hfr := markFrom_any (.slice ov nf cv) nf base fs _ HOW.out hbs2 (kq + 2) (by omega) (by omega)
      rw [show ((kq + 2 : Nat) : Int) = (kq : Int) + 1 + 1 by omega] at hfr
      refine hfr.mono ?_
      rintro e w3 ⟨rfl, ho3, b3, far3⟩
      have St3 := HS2.out.marked j hjL HAL.out (by rw [HLJ.out, HVR.out]; exact far3) (mkRq kq (rv[j]'hj1).1) (by
        rw [HLJ.out, HVR.out]
        have e1 : (mkRq kq (rv[j]'hj1).1).fs = mkG (kq + 2) fs nf := by unfold mkRq; rw [HFS.out.1, HFS.out.2]
        have e2 : (mkG (kq + 2) fs nf).length = nf := by rw [mkG_len, HFS.out.2]
        rw [e1, e2]
        exact ho3)
      have HB3 : Hid (Below base w w3) := HB2.out.trans b3
      have HS3 : Hid _ := St3
      clear St3 ho3 b3 far3 hfr HS2 HB2 c1 c2 HOW hbs2
      go_wp2_with fail
      refine (markText_int _ (kq + 2 + 2 * nf) _ (by omega) (by omega) (by omega)).mono ?_
      rintro e w4 ⟨rfl, b4⟩
      have St4 := HS3.out.later b4
      have c3 := St4.cell (j * 4 + 3) _ (by rw [List.getElem?_set_ne (by omega), List.getElem?_set_ne (by omega)]; exact flatR_at 3 (by omega) L j hjL)
      rw [HLJ.out] at c3
      have St5 := St4.put (j * 4 + 3) (.string (markOf (kq + 2 + 2 * nf)))
      have HB5 : Hid (Below base w (w4.setCell ⟨g, j * 4 + 3, none⟩ (.string (markOf (kq + 2 + 2 * nf))))) := (HB3.out.trans (b4.mono (Nat.le_trans hb HB3.out.size))).setCell hgb _
      have HEND : Hid (ReqsO (w4.setCell ⟨g, j * 4 + 3, none⟩ (.string (markOf (kq + 2 + 2 * nf)))) base (.slice (some ⟨g, 0, none⟩) n cap) (mkR rv (j + 1))) := by
        have er : (rv[j]'hj1).2 = (L[j]'hjL).2 := by rw [HLJ.out]
        have eL : mkR rv (j + 1) = L.set j (mkRq kq (rv[j]'hj1).1, (L[j]'hjL).2) := by rw [HLN.out, er]
        have ex := flatR_mark L j hjL (mkRq kq (rv[j]'hj1).1)
        have eb : (mkRq kq (rv[j]'hj1).1).b = markOf (kq + 2 + 2 * nf) := by unfold mkRq; rw [HFS.out.1, HFS.out.2]
        rw [eb] at ex
        refine ⟨?_, fun x hx => ?_, apart_of HAN.out⟩
        · rw [mkR_len, ← HN.out, eL, ← ex]
          exact St5.row
        · rw [eL] at hx
          obtain ⟨i, hi, rfl⟩ := List.getElem_of_mem hx
          exact St5.own i hi
      clear St4 St5 b4 HS3 HB3
      go_wp2_with fail
      go_roundw
      case rel => exact ⟨j + 1, by omega, by go_num, by rw [HKS.out]; congr 1; omega, HEND, HB5.out⟩
      case measure => simp [intOf]; omega
    · obtain rfl : j = n := by omega
      go_wp2
      go_ret
      exact ⟨rfl, HS.out, hbw⟩

set_option maxHeartbeats 4000000 in
set_option maxRecDepth 100000 in
theorem heldReqS_any (base : Nat) (V : Value) (rv : List (RqD × Value)) (w : World) (h : ReqsO w base V (mkR rv rv.length)) (hk : kAt rv rv.length ≤ 9999000) :
    Calls Tryz.prog 11 #[V, .int .i64 1] w fun e w' => e = .returned (.int .i64 (kAt rv rv.length : Int)) ∧ Below w.heap.size w w' := by
  obtain ⟨oa, cap, rfl⟩ := h.form
  rw [mkR_len] at h ⊢
  obtain ⟨n, hn⟩ : ∃ n, n = rv.length := ⟨_, rfl⟩
  rw [← hn] at h hk ⊢
  have H0 : Hid (ReqsO w base (.slice oa n cap) (mkR rv n)) := h
  have HN : Hid (n = rv.length) := hn
  have HK : Hid (kAt rv n ≤ 9999000) := hk
  have hn6 : n ≤ 9999000 := by
    have : ∀ j, j ≤ rv.length → j ≤ kAt rv j := by
      intro j
      induction j with
      | zero => intro _; omega
      | succ j ih => intro hj; have := ih (by omega); rw [kAt_succ rv j (by omega)]; unfold stepK; omega
    have := this n (by omega)
    omega
  clear h hn hk
  go_enter Tryz.func11, Tryz.ntmps11
  go_wp2
  go_loopw [1, 5] (fun q i wr => ∃ j : Nat, j ≤ n ∧ i = .int .i64 (j : Int) ∧ q = .int .i64 (kAt rv j : Int) ∧ Below w.heap.size w wr) (fun _ i _ => n - (intOf i).toNat)
  case atStart => exact ⟨0, Nat.zero_le _, rfl, by cases rv <;> rfl, Below.refl _ _⟩
  case round =>
    obtain ⟨j, hj, rfl, rfl, hbw⟩ := hrel
    by_cases hlt : j < n
    · have hlt2 : (j : Int) < (n : Int) := by omega
      have hj1 : j < rv.length := by rw [← HN.out]; exact hlt
      have hjL : j < (mkR rv n).length := by rw [mkR_len]; exact hj1
      have hLJ : (mkR rv n)[j]'hjL = (mkRq (kAt rv j) (rv[j]'hj1).1, (rv[j]'hj1).2) := by
        have := mkR_at rv j hj1 n (by rw [HN.out]; exact Nat.le_refl _)
        rw [List.getElem?_eq_getElem hjL, if_pos hlt] at this
        exact Option.some.inj this
      have hks := kAt_succ rv j hj1
      have hkm := kAt_mono rv (j + 1) n (by omega) (by rw [HN.out]; exact Nat.le_refl _)
      have hkp := kAt_pos rv j
      have hk9 := HK.out
      obtain ⟨g, rfl, hgb, hgl, _, _⟩ := H0.out.at j hjL
      obtain ⟨fs, hfs⟩ : ∃ x, x = (rv[j]'hj1).1.fs := ⟨_, rfl⟩
      obtain ⟨nf, hnf⟩ : ∃ x, x = fs.length := ⟨_, rfl⟩
      obtain ⟨kq, hkq⟩ : ∃ x, x = kAt rv j := ⟨_, rfl⟩
      have hown := H0.out.own _ (List.getElem_mem hjL)
      rw [hLJ] at hown
      have e1 : (mkRq (kAt rv j) (rv[j]'hj1).1).fs = mkG (kq + 2) fs nf := by unfold mkRq; rw [← hfs, ← hnf, hkq]
      have e2 : (mkG (kq + 2) fs nf).length = nf := by rw [mkG_len, hnf]
      have e3 : (mkRq (kAt rv j) (rv[j]'hj1).1).b = markOf (kq + 2 + 2 * nf) := by unfold mkRq; rw [← hfs, ← hnf, hkq]
      rw [e1, e2] at hown
      obtain ⟨ov, cv, hv⟩ := slice_of_owns hown
      have hv : (rv[j]'hj1).2 = .slice ov nf cv := hv
      have hown : w.ownsRow base 63 2 (.slice ov nf cv) nf (flatF (mkG (kq + 2) fs nf)) := by rw [← hv]; exact hown
      have HO : Hid (∀ W, Below w.heap.size w W → W.ownsRow base 63 2 (.slice ov nf cv) nf (flatF (mkG (kq + 2) fs nf))) := fun W hW => owns_same hown (fun i hi => hW.block i (own_ltR hown hi).2)
      have HM : Hid (∀ i, i < nf → nameAt (mkG (kq + 2) fs nf) i = markOf (kq + 2 + 2 * i) ∧ valAt (mkG (kq + 2) fs nf) i = markOf (kq + 2 + 2 * i + 1)) := fun i hi => mkG_at (kq + 2) fs i nf (by omega) hi
      have HC : Hid (∀ W, Below w.heap.size w W → W.cell? ⟨g, j * 4, none⟩ = some (.int .i64 (kq : Int)) ∧ W.cell? ⟨g, j * 4 + 1, none⟩ = some (.string (markOf (kq + 1))) ∧ W.cell? ⟨g, j * 4 + 2, none⟩ = some (.slice ov nf cv) ∧ W.cell? ⟨g, j * 4 + 3, none⟩ = some (.string (markOf (kq + 2 + 2 * nf)))) := fun W hW => by
        obtain ⟨x, y, _, _, ⟨a1, a2, a3, a4⟩, _⟩ := (H0.out.later hW).at j hjL
        cases y
        rw [hLJ] at a1 a2 a3 a4
        have a3 : W.cell? ⟨g, j * 4 + 2, none⟩ = some (rv[j]'hj1).2 := a3
        rw [hv] at a3
        have a4 : W.cell? ⟨g, j * 4 + 3, none⟩ = some (.string (mkRq (kAt rv j) (rv[j]'hj1).1).b) := a4
        rw [e3] at a4
        rw [hkq]
        exact ⟨a1, a2, a3, by rw [← hkq]; exact a4⟩
      unfold stepK at hks
      rw [← hfs, ← hnf, ← hkq] at hks
      rw [← hkq] at hkp
      rw [← hkq]
      have HKS : Hid (kAt rv (j + 1) = kq + (3 + 2 * nf)) := hks
      have hkb : kq + (3 + 2 * nf) ≤ 9999000 := by omega
      clear hLJ hown hv hfs hnf hkq hks hkm hk9 e1 e2 e3
      obtain ⟨c0, c1, c2, c3⟩ := HC.out wr hbw
      have t0 : ((kq : Int) != (kq : Int)) = false := by simp
      have HB : Hid (∀ W, Below wr.drew.heap.size wr.drew W → Below w.heap.size w W) := fun W h => hbw.drew.trans (h.mono hbw.size)
      have t1 : ((markOf (kq + 1)).toList == (markOf (kq + 1)).toList) = true := by simp
      go_wp2
      go_region_held3 (fun W => W.cell? ⟨g, j * 4 + 1, none⟩ = some (.string (markOf (kq + 1)))) (first | assumption | go_keep) (first | (go_at_call 18; refine (markText_int _ (kq + 1) _ (by omega) (by omega) (by omega)).mono ?_; rintro e w1 ⟨rfl, hb1⟩; have hbx := HB.out w1 hb1; obtain ⟨d0, d1, d2, d3⟩ := HC.out w1 hbx))
      clear c0 c1 c2 c3 hb1 d0 t0 t1
      have HHD : Hid (Calls Tryz.prog 20 #[.slice ov nf cv, .int .i64 ((kq : Int) + 1 + 1)] w1 fun e w' => e = .returned (.int .i64 ((kq : Int) + 1 + 1 + 2 * (nf : Int))) ∧ Below w1.heap.size w1 w') := by
        have h := heldFrom_any (.slice ov nf cv) nf base (mkG (kq + 2) fs nf) w1 (HO.out w1 hbx) (kq + 2) (by omega) (by omega) HM.out
        rw [show ((kq + 2 : Nat) : Int) = (kq : Int) + 1 + 1 by omega] at h
        exact h
      have HBX : Hid (Below w.heap.size w w1) := hbx
      clear hbx
      go_wp2_with (go_at_call 20; refine HHD.out.mono ?_; rintro e w2 ⟨rfl, b2⟩)
      have HBY : Hid (Below w.heap.size w w2) := HBX.out.trans (b2.mono HBX.out.size)
      obtain ⟨f0, f1, f2, f3⟩ := HC.out w2 HBY.out
      have HB3 : Hid (∀ W, Below w2.drew.heap.size w2.drew W → Below w.heap.size w W) := fun W h => HBY.out.drew.trans (h.mono HBY.out.size)
      have t3 : ((markOf (kq + 2 + 2 * nf)).toList == (markOf (kq + 2 + 2 * nf)).toList) = true := by simp
      clear d1 d2 d3 b2 f0 f1 f2 HHD HBX
      go_region_held3 (fun W => W.cell? ⟨g, j * 4 + 3, none⟩ = some (.string (markOf (kq + 2 + 2 * nf)))) (first | assumption | go_keep) (first | (go_at_call 18; refine (markText_int _ (kq + 2 + 2 * nf) _ (by omega) (by omega) (by omega)).mono ?_; rintro e w3 ⟨rfl, hb3⟩; have hbz := HB3.out w3 hb3; obtain ⟨_, _, _, h3⟩ := HC.out w3 hbz))
      go_wp2
      go_roundw
      case rel => exact ⟨j + 1, by omega, by go_num, by rw [HKS.out]; congr 1; omega, hbz⟩
      case measure => simp [intOf]; omega
    · obtain rfl : j = n := by omega
      go_wp2
      go_ret
      exact ⟨rfl, hbw⟩

end Go.Proofs.YtacfajnagbeocaaGreatDoor

namespace Go.Proofs.YtacfajnagbeocaaGreatDoor
open Go.RowKit
open Go.Lib hiding intOf

def headI (l : List UInt8) : Int := match headN l with | some n => (n : Int) | none => -1
theorem headN_short : ∀ (l : List UInt8), l.length < 4 → headN l = none := by
  intro l
  induction l with
  | nil => intro _; rfl
  | cons c t ih =>
    intro h
    unfold headN
    rw [if_neg, ih (by simp at h; omega)]
    · rfl
    · intro e
      have := congrArg List.length e
      simp at this
      simp at h
      omega
theorem head_at4 (s : ByteArray) (k : Nat) (h : k + 3 < s.size) : ((bs s).drop k).take 4 = [s[k]'(by omega), s[k + 1]'(by omega), s[k + 2]'(by omega), s[k + 3]'h] := by
  rw [bs_drop s k (by omega), bs_drop s (k + 1) (by omega), bs_drop s (k + 2) (by omega), bs_drop s (k + 3) h]
  rfl
theorem headN_step (s : ByteArray) (k : Nat) (h : k + 3 < s.size) : headN ((bs s).drop k) = if ((bs s).drop k).take 4 = [13, 10, 13, 10] then some 4 else (headN ((bs s).drop (k + 1))).map (· + 1) := by
  rw [bs_drop s k (by omega)]
  rfl

theorem headI_from (s : ByteArray) (k : Nat) (hk : headN (bs s) = (headN ((bs s).drop k)).map (· + k)) (h : k + 3 < s.size) :
    (((bs s).drop k).take 4 = [13, 10, 13, 10] → headI (bs s) = (k : Int) + 4) ∧ (((bs s).drop k).take 4 ≠ [13, 10, 13, 10] → headN (bs s) = (headN ((bs s).drop (k + 1))).map (· + (k + 1))) := by
  rw [headN_step s k h] at hk
  constructor
  · intro e
    rw [if_pos e] at hk
    unfold headI
    rw [hk]
    simp
    omega
  · intro e
    rw [if_neg e, Option.map_map] at hk
    rw [hk]
    congr 1
    funext x
    simp
    omega
theorem headI_none (s : ByteArray) (k : Nat) (hk : headN (bs s) = (headN ((bs s).drop k)).map (· + k)) (h : ¬ k + 3 < s.size) : headI (bs s) = -1 := by
  rw [headN_short ((bs s).drop k) (by rw [List.length_drop, bs_len]; omega)] at hk
  unfold headI
  rw [hk]
  rfl

set_option maxHeartbeats 2000000 in
set_option maxRecDepth 100000 in
theorem l5Head_any (s : ByteArray) (w : World) (hs : s.size ≤ 4000000) :
    Calls Tryz.prog 12 #[.string s] w fun e w' => e = .returned (.int .i64 (headI (bs s))) ∧ w' = w := by
  go_enter Tryz.func12, Tryz.ntmps12
  go_wp2
  go_loop [3] (fun a => ∃ i : Nat, a = .int .i64 (i : Int) ∧ 3 ≤ i ∧ (i ≤ s.size ∨ i = 3) ∧ Hid (headN (bs s) = (headN ((bs s).drop (i - 3))).map (· + (i - 3)))) (fun a => s.size - (intOf a).toNat)
  case atStart => exact ⟨3, rfl, by omega, .inr rfl, by show _ = _; simp⟩
  case round =>
    obtain ⟨i, rfl, hi3, his, HH⟩ := hrel
    by_cases hlt : (i : Int) < (s.size : Int)
    · have hin : i < s.size := by omega
      have n3 : ((i : Int) - 3).toNat = i - 3 := by omega
      have n2 : ((i : Int) - 2).toNat = i - 2 := by omega
      have n1 : ((i : Int) - 1).toNat = i - 1 := by omega
      have u3 : (0 : Int) ≤ (i : Int) - 3 ∧ (i : Int) - 3 < (s.size : Int) := by omega
      have u2 : (0 : Int) ≤ (i : Int) - 2 ∧ (i : Int) - 2 < (s.size : Int) := by omega
      have u1 : (0 : Int) ≤ (i : Int) - 1 ∧ (i : Int) - 1 < (s.size : Int) := by omega
      have l3 : i - 3 < s.size := by omega
      have l2 : i - 2 < s.size := by omega
      have l1 : i - 1 < s.size := by omega
      have HS : Hid (((bs s).drop (i - 3)).take 4 = [s[i - 3]'l3, s[i - 2]'l2, s[i - 1]'l1, s[i]'hin]) := by
        show _ = _
        have := head_at4 s (i - 3) (by omega)
        simp only [show i - 3 + 1 = i - 2 by omega, show i - 3 + 2 = i - 1 by omega, show i - 3 + 3 = i by omega] at this
        exact this
      have HF := headI_from s (i - 3) HH.out (by omega)
      have HFN : Hid ([s[i - 3]'l3, s[i - 2]'l2, s[i - 1]'l1, s[i]'hin] ≠ [13, 10, 13, 10] → headN (bs s) = (headN ((bs s).drop (i + 1 - 3))).map (· + (i + 1 - 3))) := fun h => by
        have := HF.2 (by rw [HS.out]; exact h)
        rw [show i - 3 + 1 = i + 1 - 3 by omega] at this
        exact this
      have HFY : Hid ([s[i - 3]'l3, s[i - 2]'l2, s[i - 1]'l1, s[i]'hin] = [13, 10, 13, 10] → headI (bs s) = (i : Int) + 1) := fun h => by
        have := HF.1 (by rw [HS.out]; exact h)
        omega
      clear HF HS
      by_cases c3 : ((s[i - 3]'l3).toNat : Int) = 13
      · have t3 : (((s[i - 3]'l3).toNat : Int) == 13) = true := by simpa using c3
        by_cases c2 : ((s[i - 2]'l2).toNat : Int) = 10
        · have t2 : (((s[i - 2]'l2).toNat : Int) == 10) = true := by simpa using c2
          by_cases c1 : ((s[i - 1]'l1).toNat : Int) = 13
          · have t1 : (((s[i - 1]'l1).toNat : Int) == 13) = true := by simpa using c1
            by_cases c0 : ((s[i]'hin).toNat : Int) = 10
            · have t0 : (((s[i]'hin).toNat : Int) == 10) = true := by simpa using c0
              have HE : Hid (headI (bs s) = (i : Int) + 1) := HFY.out (by
                rw [(u8_eq _ 13 (by omega)).2 (by omega : (s[i - 3]'l3).toNat = 13), (u8_eq _ 10 (by omega)).2 (by omega : (s[i - 2]'l2).toNat = 10), (u8_eq _ 13 (by omega)).2 (by omega : (s[i - 1]'l1).toNat = 13), (u8_eq _ 10 (by omega)).2 (by omega : (s[i]'hin).toNat = 10)]; rfl)
              clear c3 c2 c1 c0 HFY HFN
              go_wp2_with fail
              go_ret
              exact ⟨by rw [HE.out]; rfl, rfl⟩
            · have t0 : (((s[i]'hin).toNat : Int) == 10) = false := by simpa using c0
              have HN := HFN.out (by intro e; simp at e; apply c0; rw [e.2.2.2]; rfl)
              clear c3 c2 c1 c0 HFY HFN
              go_wp2_with fail
              go_round
              case rel => exact ⟨i + 1, by go_num, by omega, .inl (by omega), HN⟩
              case measure => simp [intOf]; omega
          · have t1 : (((s[i - 1]'l1).toNat : Int) == 13) = false := by simpa using c1
            have HN := HFN.out (by intro e; simp at e; apply c1; rw [e.2.2.1]; rfl)
            clear c3 c2 c1 HFY HFN
            go_wp2_with fail
            go_round
            case rel => exact ⟨i + 1, by go_num, by omega, .inl (by omega), HN⟩
            case measure => simp [intOf]; omega
        · have t2 : (((s[i - 2]'l2).toNat : Int) == 10) = false := by simpa using c2
          have HN := HFN.out (by intro e; simp at e; apply c2; rw [e.2.1]; rfl)
          clear c3 c2 HFY HFN
          go_wp2_with fail
          go_round
          case rel => exact ⟨i + 1, by go_num, by omega, .inl (by omega), HN⟩
          case measure => simp [intOf]; omega
      · have t3 : (((s[i - 3]'l3).toNat : Int) == 13) = false := by simpa using c3
        have HN := HFN.out (by intro e; simp at e; apply c3; rw [e.1]; rfl)
        clear c3 HFY HFN
        go_wp2_with fail
        go_round
        case rel => exact ⟨i + 1, by go_num, by omega, .inl (by omega), HN⟩
        case measure => simp [intOf]; omega
    · have HE : Hid (headI (bs s) = -1) := headI_none s (i - 3) HH.out (by omega)
      go_wp2_with fail
      go_ret
      exact ⟨by rw [HE.out]; rfl, rfl⟩

end Go.Proofs.YtacfajnagbeocaaGreatDoor

namespace Go.Proofs.YtacfajnagbeocaaGreatDoor
open Go.RowKit
open Go.Lib hiding intOf

/-- What stands of the line that begins at 'st', ahead of place i. -/
def curAt (l : List UInt8) (st i : Nat) : List UInt8 := (l.drop st).take (i - st)
theorem curAt_succ (s : ByteArray) (st i : Nat) (h : st ≤ i) (hi : i < s.size) : curAt (bs s) st (i + 1) = curAt (bs s) st i ++ [s[i]'hi] := by
  unfold curAt
  have hl : i - st < ((bs s).drop st).length := by rw [List.length_drop, bs_len]; omega
  rw [show i + 1 - st = (i - st) + 1 by omega, List.take_succ_eq_append_getElem hl]
  congr 1
  rw [List.getElem_drop]
  simp only [show st + (i - st) = i by omega]
  rw [bs_at s i hi]
theorem curAt_self (l : List UInt8) (st : Nat) : curAt l st st = [] := by simp [curAt]
/-- The state of the scan at place i: the line's beginning, and what is told from here on. -/
structure LenAt (s : ByteArray) (first : Bool) (st i : Nat) : Prop where
  le : st ≤ i
  low : first = true → st = 0
  prev : st = 0 ∨ ∃ h : st - 1 < s.size, s[st - 1]'h = 10
  told : lenL (bs s) = lenS first (curAt (bs s) st i) ((bs s).drop i)
theorem LenAt.start (s : ByteArray) (h : 0 < s.size) : LenAt s true 0 1 := by
  refine ⟨by omega, fun _ => rfl, .inl rfl, ?_⟩
  have e : bs s = s[0]'h :: (bs s).drop 1 := by
    have := bs_drop s 0 h
    simpa using this
  rw [curAt_succ s 0 0 (by omega) h, curAt_self]
  unfold lenL
  rw [e, lenS_on (by simp)]
  rfl
theorem LenAt.last {s : ByteArray} {first : Bool} {st i : Nat} (h : LenAt s first st i) (h1 : 1 ≤ i) (hi : i ≤ s.size) : ((curAt (bs s) st i).getLast? = some 13) ↔ s[i - 1]'(by omega) = 13 := by
  by_cases e : st = i
  · subst e
    rw [curAt_self]
    rcases h.prev with h0 | ⟨hp, hp2⟩
    · omega
    · constructor
      · intro e; simp at e
      · intro e; rw [hp2] at e; simp at e
  · have hle := h.le
    obtain ⟨j, rfl⟩ : ∃ j, i = j + 1 := ⟨i - 1, by omega⟩
    rw [curAt_succ s st j (by omega) (by omega)]
    simp
/-- No line's end here. -/
theorem LenAt.on {s : ByteArray} {first : Bool} {st i : Nat} (h : LenAt s first st i) (h1 : 1 ≤ i) (hi : i < s.size) (hn : ¬ (s[i]'hi = 10 ∧ s[i - 1]'(by omega) = 13)) : LenAt s first st (i + 1) := by
  refine ⟨by have := h.le; omega, h.low, h.prev, ?_⟩
  rw [h.told, bs_drop s i hi, lenS_on, curAt_succ s st i h.le hi]
  rintro ⟨e1, e2⟩
  exact hn ⟨e1, (h.last h1 (by omega)).1 e2⟩
/-- A line's end: the first one's, or that of a line that tells nothing. -/
theorem LenAt.line {s : ByteArray} {first : Bool} {st i : Nat} (h : LenAt s first st i) (h1 : 1 ≤ i) (hi : i < s.size) (hy : s[i]'hi = 10 ∧ s[i - 1]'(by omega) = 13) (hc : first = true ∨ clenOf (curAt (bs s) st (i - 1)) = none) : LenAt s false (i + 1) (i + 1) := by
  refine ⟨Nat.le_refl _, (fun e => by cases e), .inr ⟨by simpa using hi, by simpa using hy.1⟩, ?_⟩
  have hst : st ≤ i - 1 := by
    have hle := h.le
    by_cases e : st = i
    · rcases h.prev with h0 | ⟨hp, hp2⟩
      · omega
      · subst e; rw [hy.2] at hp2; simp at hp2
    · omega
  have hd : (curAt (bs s) st i).dropLast = curAt (bs s) st (i - 1) := by
    obtain ⟨j, rfl⟩ : ∃ j, i = j + 1 := ⟨i - 1, by omega⟩
    rw [curAt_succ s st j (by omega) (by omega)]
    simp
  rw [h.told, bs_drop s i hi, hy.1, lenS_end ((h.last h1 (by omega)).2 hy.2), hd, curAt_self]
  rcases hc with hc | hc
  · rw [if_pos hc]
  · by_cases hf : first = true
    · rw [if_pos hf]
    · rw [if_neg hf, hc]
theorem LenAt.tells {s : ByteArray} {st i n : Nat} (h : LenAt s false st i) (h1 : 1 ≤ i) (hi : i < s.size) (hy : s[i]'hi = 10 ∧ s[i - 1]'(by omega) = 13) (hst : st ≤ i - 1) (hc : clenOf (curAt (bs s) st (i - 1)) = some n) : lenL (bs s) = n := by
  have hd : (curAt (bs s) st i).dropLast = curAt (bs s) st (i - 1) := by
    obtain ⟨j, rfl⟩ : ∃ j, i = j + 1 := ⟨i - 1, by omega⟩
    rw [curAt_succ s st j (by omega) (by omega)]
    simp
  rw [h.told, bs_drop s i hi, hy.1, lenS_end ((h.last h1 (by omega)).2 hy.2), hd, if_neg (by simp), hc]
theorem LenAt.done {s : ByteArray} {first : Bool} {st i : Nat} (h : LenAt s first st i) (hi : s.size ≤ i) : lenL (bs s) = 0 := by
  rw [h.told, List.drop_of_length_le (by rw [bs_len]; exact hi), lenS]

def fromI (first : Bool) (st : Nat) : Int := if first = true then -1 else (st : Int)
theorem clen_short {s : ByteArray} {st e : Nat} (h : e - st ≤ 16) : clenOf (curAt (bs s) st e) = none := by
  apply clenOf_no
  rintro ⟨_, h2⟩
  have h3 := h2.1
  have : (curAt (bs s) st e).length ≤ 16 := by unfold curAt; rw [List.length_take]; omega
  rw [List.drop_of_length_le this] at h3
  exact absurd h3 (by decide)
theorem clen_parts (s : ByteArray) (st e : Nat) (h : st + 16 ≤ e) : (curAt (bs s) st e).take 16 = bs (s.extract st (st + 16)) ∧ (curAt (bs s) st e).drop 16 = bs (s.extract (st + 16) e) := by
  unfold curAt
  refine ⟨?_, ?_⟩
  · rw [List.take_take, bs_extract, List.drop_take, show min 16 (e - st) = 16 by omega, show st + 16 - st = 16 by omega]
  · rw [List.drop_take, List.drop_drop, bs_extract, List.drop_take, show e - st - 16 = e - (st + 16) by omega]
theorem text_of (l : ByteArray) : (⟨(bs l).toArray⟩ : ByteArray) = l := by
  apply ByteArray.ext
  show l.data.toList.toArray = l.data
  simp

set_option maxHeartbeats 4000000 in
set_option maxRecDepth 100000 in
theorem l5Length_any (s : ByteArray) (w : World) (hs : s.size ≤ 4000000) :
    Calls Tryz.prog 13 #[.string s] w fun e w' => e = .returned (.int .i64 (lenL (bs s) : Int)) ∧ Below w.heap.size w w' := by
  by_cases h0 : s.size = 0
  · have HE : Hid (lenL (bs s) = 0) := by
      show _ = _
      rw [show bs s = [] from List.length_eq_zero_iff.1 (by rw [bs_len]; exact h0)]
      rfl
    have hlt : ¬ (1 : Int) < (s.size : Int) := by omega
    clear h0
    go_enter Tryz.func13, Tryz.ntmps13
    go_wp2
    refine wp_loop_rounds 1 ?_
    rw [rounds_succ]
    go_wp2
    go_ret
    exact ⟨by rw [HE.out]; rfl, Below.refl _ _⟩
  · have e16 : (⟨#[99, 111, 110, 116, 101, 110, 116, 45, 108, 101, 110, 103, 116, 104, 58, 32]⟩ : ByteArray).size = 16 := rfl
    go_enter Tryz.func13, Tryz.ntmps13
    go_wp2
    go_loopw [4, 5] (fun a b wr => ∃ (i st : Nat) (first : Bool), a = .int .i64 (fromI first st) ∧ b = .int .i64 (i : Int) ∧ 1 ≤ i ∧ i ≤ s.size ∧ Hid (LenAt s first st i) ∧ Below w.heap.size w wr) (fun _ b _ => s.size - (intOf b).toNat)
    case atStart => exact ⟨1, 0, true, rfl, rfl, by omega, by omega, LenAt.start s (by omega), Below.refl _ _⟩
    case round =>
      obtain ⟨i, st, first, rfl, rfl, hi1, his, HL, hbw⟩ := hrel
      by_cases hlt : (i : Int) < (s.size : Int)
      · have hin : i < s.size := by omega
        have n1 : ((i : Int) - 1).toNat = i - 1 := by omega
        have u1 : (0 : Int) ≤ (i : Int) - 1 ∧ (i : Int) - 1 < (s.size : Int) := by omega
        have l1 : i - 1 < s.size := by omega
        by_cases c0 : ((s[i]'hin).toNat : Int) = 10
        · have t0 : (((s[i]'hin).toNat : Int) != 10) = false := by simp [c0]
          by_cases c1 : ((s[i - 1]'l1).toNat : Int) = 13
          · have t1 : (((s[i - 1]'l1).toNat : Int) != 13) = false := by simp [c1]
            have hy : s[i]'hin = 10 ∧ s[i - 1]'l1 = 13 := ⟨(u8_eq _ 10 (by omega)).2 (by omega), (u8_eq _ 13 (by omega)).2 (by omega)⟩
            have HY : Hid (s[i]'hin = 10 ∧ s[i - 1]'l1 = 13) := hy
            clear hy c0 c1
            cases first with
            | true =>
              have hfr : fromI true st = -1 := rfl
              have HN : Hid (LenAt s false (i + 1) (i + 1)) := HL.out.line hi1 hin HY.out (.inl rfl)
              go_wp2_with fail
              go_roundw
              case rel => exact ⟨i + 1, i + 1, false, by unfold fromI; simp, by go_num, by omega, by omega, HN, hbw⟩
              case measure => simp [intOf]; omega
            | false =>
              have hfr : fromI false st = (st : Int) := rfl
              have hst := HL.out.le
              have HNX : Hid (clenOf (curAt (bs s) st (i - 1)) = none → LenAt s false (i + 1) (i + 1)) := fun h => HL.out.line hi1 hin HY.out (.inr h)
              have hst0 : (0 : Int) ≤ (st : Int) := by omega
              by_cases hl16 : (16 : Int) < (i : Int) - 1 - (st : Int)
              · have p1 : (st : Int) + 16 ≤ (s.size : Int) := by omega
                have p2 : ((st : Int) + 16).toNat = st + 16 := by omega
                have p3 : (st : Int) + 16 ≤ (i : Int) - 1 := by omega
                obtain ⟨q1, q2⟩ := clen_parts s st (i - 1) (by omega)
                by_cases hm : s.extract st (st + 16) = (⟨#[99, 111, 110, 116, 101, 110, 116, 45, 108, 101, 110, 103, 116, 104, 58, 32]⟩ : ByteArray)
                · have tm : ((s.extract st (st + 16)).toList == ([99, 111, 110, 116, 101, 110, 116, 45, 108, 101, 110, 103, 116, 104, 58, 32] : List UInt8)) = true := by rw [hm, ByteArray.toList_eq]; rfl
                  have HM : Hid ((curAt (bs s) st (i - 1)).take 16 = clenM) := by show _ = _; rw [q1, hm]; rfl
                  have HQ : Hid ((curAt (bs s) st (i - 1)).drop 16 = bs (s.extract (st + 16) (i - 1))) := q2
                  clear hm q1 q2
                  go_wp2_with fail
                  refine (specNumRead_any _ _ (by unfold maxLen; rw [ByteArray.size_extract]; omega)).mono ?_
                  rintro e w1 ⟨ok, n, rfl, hok, hval, _, b1⟩
                  have HB1 : Hid (Below w.heap.size w w1) := hbw.trans (b1.mono hbw.size)
                  clear b1 hbw
                  cases ok with
                  | true =>
                    have hnum : NumOk (s.extract (st + 16) (i - 1)) := hok.1 rfl
                    have HV : Hid (lenL (bs s) = valL (bs (s.extract (st + 16) (i - 1)))) := by
                      refine HL.out.tells hi1 hin HY.out (by omega) ?_
                      rw [← HQ.out]
                      exact clenOf_yes HM.out (by rw [HQ.out, text_of]; exact hnum)
                    have HN : Hid (n = (valL (bs (s.extract (st + 16) (i - 1))) : Int)) := hval rfl
                    clear hok hval hnum
                    go_wp2_with fail
                    go_ret
                    exact ⟨by rw [HV.out, HN.out]; rfl, HB1.out⟩
                  | false =>
                    have HN : Hid (LenAt s false (i + 1) (i + 1)) := HNX.out (clenOf_no (fun h => by
                      have h2 := h.2
                      rw [HQ.out, text_of] at h2
                      have := hok.2 h2
                      cases this))
                    clear hok hval
                    go_wp2_with fail
                    go_roundw
                    case rel => exact ⟨i + 1, i + 1, false, by unfold fromI; simp, by go_num, by omega, by omega, HN, HB1.out⟩
                    case measure => simp [intOf]; omega
                · have tm : ((s.extract st (st + 16)).toList == ([99, 111, 110, 116, 101, 110, 116, 45, 108, 101, 110, 103, 116, 104, 58, 32] : List UInt8)) = false := by rw [beq_eq_false_iff_ne]; intro e; rw [ByteArray.toList_eq] at e; exact hm (bs_inj e)
                  have HN : Hid (LenAt s false (i + 1) (i + 1)) := HNX.out (clenOf_no (fun h => hm (bs_inj (by rw [← q1, h.1]; rfl))))
                  clear hm q1 q2
                  go_wp2_with fail
                  go_roundw
                  case rel => exact ⟨i + 1, i + 1, false, by unfold fromI; simp, by go_num, by omega, by omega, HN, hbw⟩
                  case measure => simp [intOf]; omega
              · have HN : Hid (LenAt s false (i + 1) (i + 1)) := HNX.out (clen_short (by omega))
                go_wp2_with fail
                go_roundw
                case rel => exact ⟨i + 1, i + 1, false, by unfold fromI; simp, by go_num, by omega, by omega, HN, hbw⟩
                case measure => simp [intOf]; omega
          · have t1 : (((s[i - 1]'l1).toNat : Int) != 13) = true := by simpa using c1
            have HN : Hid (LenAt s first st (i + 1)) := HL.out.on hi1 hin (fun e => c1 (by rw [e.2]; rfl))
            clear c0 c1
            go_wp2_with fail
            go_roundw
            case rel => exact ⟨i + 1, st, first, rfl, by go_num, by omega, by omega, HN, hbw⟩
            case measure => simp [intOf]; omega
        · have t0 : (((s[i]'hin).toNat : Int) != 10) = true := by simpa using c0
          have HN : Hid (LenAt s first st (i + 1)) := HL.out.on hi1 hin (fun e => c0 (by rw [e.1]; rfl))
          clear c0
          go_wp2_with fail
          go_roundw
          case rel => exact ⟨i + 1, st, first, rfl, by go_num, by omega, by omega, HN, hbw⟩
          case measure => simp [intOf]; omega
      · have HE : Hid (lenL (bs s) = 0) := HL.out.done (by omega)
        go_wp2_with fail
        go_ret
        exact ⟨by rw [HE.out]; rfl, hbw⟩

end Go.Proofs.YtacfajnagbeocaaGreatDoor

namespace Go.Proofs.YtacfajnagbeocaaGreatDoor
open Go.RowKit
open Go.Lib hiding intOf

/-- A call of Feed: what waits, whether it is bad, and a list of one's own of what was told. -/
def FeedIs (wait : ByteArray) (bad : Bool) (piece : ByteArray) (w : World) (e : Ending) (w' : World) : Prop :=
  ∃ (u : ByteArray) (c : Bool) (V : Value) (rv : List (RqD × Value)), e = .returned (.tuple #[.agg #[.string u, .bool c], V]) ∧ ReqsO w' w.heap.size V rv ∧ (∀ x ∈ rv, x.1.ok) ∧ FeedP okL lenL (bs wait) bad (bs piece) (bs u) c (rv.map (fun x => x.1.text)) ∧ Below w.heap.size w w'
theorem infoReq : (Tryz.prog.info? 37).map (fun i => (i.zero, i.size, i.bytes)) = some (some (.agg #[.int .i64 0, .string ⟨#[]⟩, .slice none 0 0, .string ⟨#[]⟩]), 4, 64) := by kernel_rfl

/-- While lines are read: the answer's block, the bad one's, and the list so far. -/
structure FdSt (w : World) (H : Nat) (V : Value) (rv : List (RqD × Value)) (wr : World) : Prop where
  res : ∃ a b, wr.heap[H + 1]? = some (.cells #[a, b] 25)
  bad : wr.heap[H + 1 + 1 + 1]? = some (.cells #[.string ⟨#[]⟩, .bool true] 25)
  low : Below H w wr
  own : ReqsO wr H V rv
theorem FdSt.later {w : World} {H : Nat} {V : Value} {rv : List (RqD × Value)} {wr w' : World} (h : FdSt w H V rv wr) (hH : H ≤ wr.heap.size) (hb : Below wr.heap.size wr w') : FdSt w H V rv w' := by
  obtain ⟨a, b, hr⟩ := h.res
  exact ⟨⟨a, b, by rw [hb.block _ (Array.getElem?_eq_some_iff.1 hr).1]; exact hr⟩, by rw [hb.block _ (Array.getElem?_eq_some_iff.1 h.bad).1]; exact h.bad, h.low.trans (hb.mono hH), h.own.later hb⟩
theorem FdSt.size {w : World} {H : Nat} {V : Value} {rv : List (RqD × Value)} {wr : World} (h : FdSt w H V rv wr) : H + 3 < wr.heap.size := (Array.getElem?_eq_some_iff.1 h.bad).1
theorem FdSt.cells {w : World} {H : Nat} {V : Value} {rv : List (RqD × Value)} {wr : World} (h : FdSt w H V rv wr) : (wr.cell? ⟨H + 1 + 1 + 1, 0, none⟩ = some (.string ⟨#[]⟩) ∧ wr.cell? ⟨H + 1 + 1 + 1, 1, none⟩ = some (.bool true)) ∧ (∃ a, wr.cell? ⟨H + 1, 0, none⟩ = some a) ∧ (∃ b, wr.cell? ⟨H + 1, 1, none⟩ = some b) ∧ wr.frozen? ⟨H + 1, 0, none⟩ = false ∧ wr.frozen? ⟨H + 1, 1, none⟩ = false := by
  obtain ⟨a, b, hr⟩ := h.res
  refine ⟨⟨?_, ?_⟩, ⟨a, ?_⟩, ⟨b, ?_⟩, ?_, ?_⟩ <;> simp [World.cell?, World.frozen?, hr, h.bad]
/-- A request more. -/
theorem FdSt.more {w : World} {H : Nat} {V V' : Value} {rv : List (RqD × Value)} {wr W : World} {r : RqD} {v : Value} {base' : Nat} (h : FdSt w H V rv wr) (hb' : H ≤ base') (hv : wr.ownsRow base' 63 2 v r.fs.length (flatF r.fs)) (hold : ∀ j, (∃ x ∈ rv, x.2.ownBlock = some j) → j < base') (hg : wr.grownBy W V.ownBlock) (hrow : W.ownsRow H 37 4 V' (rv.length + 1) (flatR rv ++ rqC (r, v))) : FdSt w H V' (rv ++ [(r, v)]) W := by
  obtain ⟨a, b, hr⟩ := h.res
  have hs := h.size
  refine ⟨⟨a, b, ?_⟩, ?_, ?_, h.own.more hb' hv hold hg hrow⟩
  · rw [hg.block _ (by omega) (fun e => own_noR h.own.row (by decide) hr e.symm)]; exact hr
  · rw [hg.block _ (by omega) (fun e => own_noR h.own.row (by decide) h.bad e.symm)]; exact h.bad
  · exact h.low.trans ((Below.refl H wr).grown hg (by omega) (fun g hg => (own_ltR h.own.row hg).1))

/-- A cell of another kind of block is stored: the list stands. -/
theorem ReqsO.else {w : World} {base : Nat} {V : Value} {rv : List (RqD × Value)} {q : Nat} {cs : Array Value} {T : TypeId} {fr : Nat × Nat} (h : ReqsO w base V rv) (hq : w.heap[q]? = some (.cells cs T fr)) (h1 : T ≠ 37) (h2 : T ≠ 63) (o : Nat) (x : Value) : ReqsO (w.setCell ⟨q, o, none⟩ x) base V rv :=
  ⟨owns_same h.row (fun j hj => heap_setCell_other _ _ j _ (fun e => by subst e; exact own_noR h.row h1 hq hj)), fun y hy => owns_same (h.own y hy) (fun j hj => heap_setCell_other _ _ j _ (fun e => by subst e; exact own_noR (h.own y hy) h2 hq hj)), h.apart⟩
theorem FdSt.answer {w : World} {H : Nat} {V : Value} {rv : List (RqD × Value)} {wr : World} (h : FdSt w H V rv wr) (x y : Value) : ReqsO ((wr.setCell ⟨H + 1, 0, none⟩ x).setCell ⟨H + 1, 1, none⟩ y) H V rv ∧ Below H w ((wr.setCell ⟨H + 1, 0, none⟩ x).setCell ⟨H + 1, 1, none⟩ y) ∧ ((wr.setCell ⟨H + 1, 0, none⟩ x).setCell ⟨H + 1, 1, none⟩ y).cell? ⟨H + 1, 0, none⟩ = some x ∧ ((wr.setCell ⟨H + 1, 0, none⟩ x).setCell ⟨H + 1, 1, none⟩ y).cell? ⟨H + 1, 1, none⟩ = some y := by
  obtain ⟨a, b, hr⟩ := h.res
  have hr1 := heap_set wr (H + 1) 0 _ _ _ x hr
  have hr2 := heap_set (wr.setCell ⟨H + 1, 0, none⟩ x) (H + 1) 1 _ _ _ y hr1
  refine ⟨(h.own.else hr (by decide) (by decide) 0 x).else hr1 (by decide) (by decide) 1 y, (h.low.setCell (by show H ≤ H + 1; omega) _).setCell (by show H ≤ H + 1; omega) _, ?_, ?_⟩
  · simp [World.cell?, hr2]
  · simp [World.cell?, hr2]

/-- Four blocks, one behind the other. -/
theorem four_new (w : World) (o0 o1 o2 o3 : Obj) : ((((w.alloc o0).alloc o1).alloc o2).alloc o3).heap[w.heap.size + 1]? = some o1 ∧ ((((w.alloc o0).alloc o1).alloc o2).alloc o3).heap[w.heap.size + 1 + 1]? = some o2 ∧ ((((w.alloc o0).alloc o1).alloc o2).alloc o3).heap[w.heap.size + 1 + 1 + 1]? = some o3 ∧ Below w.heap.size w ((((w.alloc o0).alloc o1).alloc o2).alloc o3) := by
  have e1 := heap_alloc_new (w.alloc o0) o1
  have e2 := heap_alloc_new ((w.alloc o0).alloc o1) o2
  have e3 := heap_alloc_new (((w.alloc o0).alloc o1).alloc o2) o3
  simp only [World.size_alloc] at e1 e2 e3
  refine ⟨?_, ?_, e3, ((((Below.refl _ w).alloc (Nat.le_refl _) _).alloc (by simp) _).alloc (by simp; omega) _).alloc (by simp; omega) _⟩
  · rw [heap_alloc_old _ _ (by simp), heap_alloc_old _ _ (by simp)]; exact e1
  · rw [heap_alloc_old _ _ (by simp)]; exact e2

set_option maxHeartbeats 4000000 in
set_option maxRecDepth 100000 in
theorem specFeed_any (wait : ByteArray) (bad : Bool) (piece : ByteArray) (w : World) (hs : wait.size + piece.size ≤ 2200000) :
    Calls Tryz.prog 5 #[.agg #[.string wait, .bool bad], .string piece] w fun e w' => FeedIs wait bad piece w e w' := by
  cases bad with
  | true =>
    have hF : FeedP okL lenL (bs wait) true (bs piece) (bs ⟨#[]⟩) true ([] : List (List UInt8)) := .inl ⟨rfl, rfl, rfl, rfl⟩
    have HF : Hid (FeedP okL lenL (bs wait) true (bs piece) (bs ⟨#[]⟩) true ([] : List (List UInt8))) := hF
    clear hF
    go_enter Tryz.func5, Tryz.ntmps5
    go_wp2_with fail
    refine bodyPost_ret (v := .tuple #[.agg #[.string ⟨#[]⟩, .bool true], .slice (some ⟨w.heap.size + 1 + 1, 0, none⟩) 0 0]) (by simp [results, Tryz.results5, go_sem]) rfl ?_
    obtain ⟨_, g2, _, g4⟩ := four_new w (Obj.cells #[.string wait, .bool true] 25) (Obj.cells #[.string ⟨#[]⟩, .bool true] 25) (Obj.cells #[] 37) (Obj.cells #[.string ⟨#[]⟩, .bool true] 25)
    exact ⟨⟨#[]⟩, true, _, [], rfl, ⟨⟨rfl, .inr ⟨w.heap.size + 1 + 1, 0, #[], rfl, by omega, g2, Nat.le_refl _, Nat.zero_le _, rfl, rfl⟩⟩, by simp, List.Pairwise.nil⟩, by simp, HF.out, g4⟩
  | false =>
    obtain ⟨i0, hi, hz0, hz1, hz2⟩ := info_parts infoReq
    have q0 : ¬ 9223372036854775807 < wait.size + piece.size := by omega
    have HST : Hid (FdSt w w.heap.size (.slice (some ⟨w.heap.size + 1 + 1, 0, none⟩) 0 0) [] ((((w.alloc (Obj.cells #[.string wait, .bool false] 25)).alloc (Obj.cells #[.string ⟨#[]⟩, .bool false] 25)).alloc (Obj.cells #[] 37)).alloc (Obj.cells #[.string ⟨#[]⟩, .bool true] 25))) := by
      obtain ⟨g1, g2, g3, g4⟩ := four_new w (Obj.cells #[.string wait, .bool false] 25) (Obj.cells #[.string ⟨#[]⟩, .bool false] 25) (Obj.cells #[] 37) (Obj.cells #[.string ⟨#[]⟩, .bool true] 25)
      exact ⟨⟨_, _, g1⟩, g3, g4, ⟨⟨rfl, .inr ⟨w.heap.size + 1 + 1, 0, #[], rfl, by omega, g2, Nat.le_refl _, Nat.zero_le _, rfl, rfl⟩⟩, by simp, List.Pairwise.nil⟩⟩
    go_enter Tryz.func5, Tryz.ntmps5
    go_wp2_with fail
    obtain ⟨all, hall⟩ : ∃ x, x = wait ++ piece := ⟨_, rfl⟩
    have hals : all.size ≤ 2200000 := by rw [hall, ByteArray.size_append]; omega
    have HALL : Hid (bs all = bs wait ++ bs piece) := by show _ = _; rw [hall, bs_append]
    rw [← hall]
    have HFIN : Hid (∀ (u : ByteArray) (c : Bool) (t : List (List UInt8)), Fd okL lenL (bs all) (bs u, c, t) → (((c = true ∨ 1200 < u.size) → FeedP okL lenL (bs wait) false (bs piece) (bs ⟨#[]⟩) true t) ∧ (c = false → ¬ 1200 < u.size → FeedP okL lenL (bs wait) false (bs piece) (bs u) false t))) := fun u c t h => by
      rw [HALL.out] at h
      exact ⟨fun hc => .inr ⟨rfl, bs u, c, h, .inl ⟨by rw [bs_len]; exact hc, rfl, rfl⟩⟩, fun h1 h2 => .inr ⟨rfl, bs u, c, h, .inr ⟨h1, by rw [bs_len]; exact h2, rfl, rfl⟩⟩⟩
    clear hall q0
    obtain ⟨H, hH⟩ : ∃ H, H = w.heap.size := ⟨_, rfl⟩
    have HW : Hid (w.heap.size = H) := hH.symm
    rw [← hH] at HST
    rw [← hH]
    clear hH
    go_loopw [6, 8] (fun a b wr => ∃ (u : ByteArray) (rv : List (RqD × Value)), b = .string u ∧ u.size ≤ all.size ∧ 4 * rv.length + u.size ≤ all.size ∧ Hid (FdSt w H a rv wr) ∧ Hid (∀ x ∈ rv, x.1.ok) ∧ Hid (∀ u2 c t, Fd okL lenL (bs u) (u2, c, t) → Fd okL lenL (bs all) (u2, c, rv.map (fun x => x.1.text) ++ t))) (fun _ b _ => match b with | .string u => u.size | _ => 0)
    case atStart => exact ⟨all, [], rfl, Nat.le_refl _, by simp, HST, (by show ∀ x ∈ _, _; simp), fun u2 c t h => by simpa using h⟩
    case round =>
      obtain ⟨u, rv, rfl, hu, hrl, HS, HOK, HFD⟩ := hrel
      have hus : u.size ≤ 2200000 := by omega
      have HH1 : Hid (H ≤ wr.heap.size) := by show _ ≤ _; have := HS.out.size; omega
      go_wp2_with fail
      refine (l5Head_any u _ (by omega)).mono ?_
      rintro e w0 ⟨rfl, rfl⟩
      cases hn : headN (bs u) with
      | none =>
        have hhi : headI (bs u) = -1 := by unfold headI; rw [hn]
        rw [hhi]
        have HF1 : Hid (Fd okL lenL (bs all) (bs u, false, rv.map (fun x => x.1.text))) := by
          have := HFD.out _ _ _ (Fd.none hn)
          rw [List.append_nil] at this
          exact this
        clear hn hhi
        by_cases h12 : (1200 : Int) < (u.size : Int)
        · have HP : Hid (FeedP okL lenL (bs wait) false (bs piece) (bs ⟨#[]⟩) true (rv.map (fun x => x.1.text))) := (HFIN.out u false _ HF1.out).1 (.inr (by omega))
          obtain ⟨⟨k1, k2⟩, ⟨x1, k3⟩, ⟨x2, k4⟩, k5, k6⟩ := HS.out.cells
          obtain ⟨m1, m2, m3, m4⟩ := HS.out.answer (.string ⟨#[]⟩) (.bool true)
          have HM : Hid _ := And.intro m1 m2
          clear m1 m2
          go_wp2_with fail
          refine bodyPost_ret (v := .tuple #[.agg #[.string ⟨#[]⟩, .bool true], u6]) (by simp [results, Tryz.results5, go_sem, m3, m4]) rfl ?_
          exact ⟨⟨#[]⟩, true, u6, rv, rfl, by rw [HW.out]; exact HM.out.1, HOK.out, HP.out, by rw [HW.out]; exact HM.out.2⟩
        · have HP : Hid (FeedP okL lenL (bs wait) false (bs piece) (bs u) false (rv.map (fun x => x.1.text))) := (HFIN.out u false _ HF1.out).2 rfl (by omega)
          obtain ⟨⟨k1, k2⟩, ⟨x1, k3⟩, ⟨x2, k4⟩, k5, k6⟩ := HS.out.cells
          obtain ⟨m1, m2, m3, m4⟩ := HS.out.answer (.string u) (.bool false)
          have HM : Hid _ := And.intro m1 m2
          clear m1 m2
          go_wp2_with fail
          refine bodyPost_ret (v := .tuple #[.agg #[.string u, .bool false], u6]) (by simp [results, Tryz.results5, go_sem, m3, m4]) rfl ?_
          exact ⟨u, false, u6, rv, rfl, by rw [HW.out]; exact HM.out.1, HOK.out, HP.out, by rw [HW.out]; exact HM.out.2⟩
      | some n =>
        have hhi : headI (bs u) = (n : Int) := by unfold headI; rw [hn]
        rw [hhi]
        have hnl := headN_len hn
        rw [bs_len] at hnl
        have HNN : Hid (headN (bs u) = some n) := hn
        have hnu : (n : Int) ≤ (u.size : Int) := by omega
        obtain ⟨hd, hhd⟩ : ∃ x, x = u.extract 0 n := ⟨_, rfl⟩
        have hhs : hd.size ≤ 4000000 := by rw [hhd, ByteArray.size_extract]; omega
        have HHD : Hid (bs hd = (bs u).take n) := by show _ = _; rw [hhd, bs_extract, List.drop_zero]
        have HXD : Hid (u.extract 0 n = hd) := hhd.symm
        clear hn hhi hhd
        go_wp2_with fail
        rw [HXD.out]
        refine (l5Length_any hd _ hhs).mono ?_
        rintro e w1 ⟨rfl, b1⟩
        have HS1 : Hid (FdSt w H u6 rv w1) := HS.out.later HH1.out b1
        have HH2 : Hid (H ≤ w1.heap.size) := by show _ ≤ _; have := HS1.out.size; omega
        obtain ⟨k, hk⟩ : ∃ k, k = lenL (bs hd) := ⟨_, rfl⟩
        rw [← hk]
        have HK : Hid (lenL ((bs u).take n) = k) := by show _ = _; rw [hk, HHD.out]
        have hk6 : k ≤ 1000000 := by rw [hk]; exact lenL_le _
        clear hk b1 HS HH1
        by_cases hk120 : (120 : Int) < (k : Int)
        · have HF1 : Hid (Fd okL lenL (bs all) (bs ⟨#[]⟩, true, rv.map (fun x => x.1.text))) := by
            have := HFD.out _ _ _ (Fd.long HNN.out (by rw [HK.out]; omega))
            rw [List.append_nil] at this
            exact this
          have HP : Hid (FeedP okL lenL (bs wait) false (bs piece) (bs ⟨#[]⟩) true (rv.map (fun x => x.1.text))) := (HFIN.out ⟨#[]⟩ true _ HF1.out).1 (.inl rfl)
          obtain ⟨⟨k1, k2⟩, ⟨x1, k3⟩, ⟨x2, k4⟩, k5, k6⟩ := HS1.out.cells
          obtain ⟨m1, m2, m3, m4⟩ := HS1.out.answer (.string ⟨#[]⟩) (.bool true)
          have HM : Hid _ := And.intro m1 m2
          clear m1 m2
          go_wp2_with fail
          refine bodyPost_ret (v := .tuple #[.agg #[.string ⟨#[]⟩, .bool true], u6]) (by simp [results, Tryz.results5, go_sem, m3, m4]) rfl ?_
          exact ⟨⟨#[]⟩, true, u6, rv, rfl, by rw [HW.out]; exact HM.out.1, HOK.out, HP.out, by rw [HW.out]; exact HM.out.2⟩
        · by_cases hshort : (u.size : Int) < (n : Int) + (k : Int)
          · have HF1 : Hid (Fd okL lenL (bs all) (bs u, false, rv.map (fun x => x.1.text))) := by
              have := HFD.out _ _ _ (Fd.short HNN.out (by rw [HK.out]; omega) (by rw [HK.out, bs_len]; omega))
              rw [List.append_nil] at this
              exact this
            by_cases h12 : (1200 : Int) < (u.size : Int)
            · have HP : Hid (FeedP okL lenL (bs wait) false (bs piece) (bs ⟨#[]⟩) true (rv.map (fun x => x.1.text))) := (HFIN.out u false _ HF1.out).1 (.inr (by omega))
              obtain ⟨⟨k1, k2⟩, ⟨x1, k3⟩, ⟨x2, k4⟩, k5, k6⟩ := HS1.out.cells
              obtain ⟨m1, m2, m3, m4⟩ := HS1.out.answer (.string ⟨#[]⟩) (.bool true)
              have HM : Hid _ := And.intro m1 m2
              clear m1 m2
              go_wp2_with fail
              refine bodyPost_ret (v := .tuple #[.agg #[.string ⟨#[]⟩, .bool true], u6]) (by simp [results, Tryz.results5, go_sem, m3, m4]) rfl ?_
              exact ⟨⟨#[]⟩, true, u6, rv, rfl, by rw [HW.out]; exact HM.out.1, HOK.out, HP.out, by rw [HW.out]; exact HM.out.2⟩
            · have HP : Hid (FeedP okL lenL (bs wait) false (bs piece) (bs u) false (rv.map (fun x => x.1.text))) := (HFIN.out u false _ HF1.out).2 rfl (by omega)
              obtain ⟨⟨k1, k2⟩, ⟨x1, k3⟩, ⟨x2, k4⟩, k5, k6⟩ := HS1.out.cells
              obtain ⟨m1, m2, m3, m4⟩ := HS1.out.answer (.string u) (.bool false)
              have HM : Hid _ := And.intro m1 m2
              clear m1 m2
              go_wp2_with fail
              refine bodyPost_ret (v := .tuple #[.agg #[.string u, .bool false], u6]) (by simp [results, Tryz.results5, go_sem, m3, m4]) rfl ?_
              exact ⟨u, false, u6, rv, rfl, by rw [HW.out]; exact HM.out.1, HOK.out, HP.out, by rw [HW.out]; exact HM.out.2⟩
          · have hnk : (n : Int) + (k : Int) ≤ (u.size : Int) := by omega
            have hnt : ((n : Int) + (k : Int)).toNat = n + k := by omega
            have hnk0 : (0 : Int) ≤ (n : Int) + (k : Int) := by omega
            obtain ⟨tx, htx⟩ : ∃ x, x = u.extract 0 (n + k) := ⟨_, rfl⟩
            have hts : tx.size ≤ 3000000 := by rw [htx, ByteArray.size_extract]; omega
            have HTX : Hid (bs tx = (bs u).take (n + k)) := by show _ = _; rw [htx, bs_extract, List.drop_zero]
            have HXT : Hid (u.extract 0 (n + k) = tx) := htx.symm
            clear htx
            go_wp2_with fail
            rw [HXT.out]
            refine (specReqRead_any tx _ hts).mono ?_
            rintro e w2 (⟨m, p, fs, b, v, rfl, hreq, hown, b2⟩ | ⟨rfl, hno, b2⟩)
            · obtain ⟨ov, cv, rfl⟩ := slice_of_owns hown
              obtain ⟨r, hr⟩ : ∃ r : RqD, r = ⟨m, p, fs, b⟩ := ⟨_, rfl⟩
              obtain ⟨nf, hnf⟩ : ∃ x, x = fs.length := ⟨_, rfl⟩
              rw [← hnf] at hown
              rw [← hnf]
              have HRC : Hid (rqC (r, .slice ov nf cv) = [.int .i64 m, .string p, .slice ov nf cv, .string b]) := by show _ = _; rw [hr]; rfl
              have HOKR : Hid (r.ok ∧ r.text = bs tx ∧ nf = r.fs.length) := by show _ ∧ _; rw [hr]; exact ⟨hreq.1, by show bs (reqT m p fs b) = bs tx; rw [hreq.2], hnf⟩
              have HS2 : Hid (FdSt w H u6 rv w2) := HS1.out.later HH2.out b2
              have HOLD : Hid (∀ j, (∃ x ∈ rv, x.2.ownBlock = some j) → j < w1.heap.size) := fun j hj => (HS1.out.own.lt j (.inr hj)).2
              have HOW : Hid (w2.ownsRow w1.heap.size 63 2 (.slice ov nf cv) r.fs.length (flatF r.fs)) := by show World.ownsRow _ _ _ _ _ _ _; rw [← HOKR.out.2.2, hr]; exact hown
              have HS3 : Hid (FdSt w H u6 rv (w2.alloc (Obj.cells #[.int .i64 m, .string p, .slice ov nf cv, .string b] 37))) := HS2.out.later (by have := HS2.out.size; omega) ((Below.refl _ w2).alloc (Nat.le_refl _) _)
              have HS4 : Hid (∀ o, FdSt w H u6 rv ((w2.alloc (Obj.cells #[.int .i64 m, .string p, .slice ov nf cv, .string b] 37)).alloc o)) := fun o => HS3.out.later (by have := HS3.out.size; omega) ((Below.refl _ _).alloc (Nat.le_refl _) _)
              have h63 : rv.length + 1 ≤ maxLen := by unfold maxLen; omega
              have h47 : (rv.length + 1) * 64 ≤ 140737488355328 := by omega
              have HBS : ∀ o, H ≤ ((w2.alloc (Obj.cells #[.int .i64 m, .string p, .slice ov nf cv, .string b] 37)).alloc o).heap.size := fun o => by have := (HS4.out o).size; omega
              have HOK2 : Hid (okL (bs tx) = true) := okL_yes hreq
              have hnews : ∀ j x, [Value.int .i64 m, .string p, .slice ov nf cv, .string b][j]? = some x → ((w2.alloc (Obj.cells #[.int .i64 m, .string p, .slice ov nf cv, .string b] 37)).alloc (Obj.cells #[.int .i64 m, .string p, .slice ov nf cv, .string b] 37)).cell? ((⟨w2.heap.size + 1, 0, none⟩ : Addr).add j) = some x := by
                have h := heap_alloc_new (w2.alloc (Obj.cells #[.int .i64 m, .string p, .slice ov nf cv, .string b] 37)) (Obj.cells #[.int .i64 m, .string p, .slice ov nf cv, .string b] 37)
                rw [World.size_alloc] at h
                exact World.news_of_block h
              clear hown hr hnf b2 hreq
              go_wp2_with (at_builtin; refine wpList_append_own _ rfl _ _ 26 rfl H 37 i0 (.agg #[.int .i64 0, .string ⟨#[]⟩, .slice none 0 0, .string ⟨#[]⟩]) 4 64 Tryz.underlying26 hi hz0 hz1 hz2 rfl (by decide) _ _ _ rfl (HS4.out _).own.row ⟨w2.heap.size + 1, 0, none⟩ 1 1 [.int .i64 m, .string p, .slice ov nf cv, .string b] rfl rfl hnews (by simp [Value.oneCell']) h63 h47 (HBS _) ?_)
              intro V2 W5 hown5 hgrow5 _
              have HS5 : Hid (FdSt w H V2 (rv ++ [(r, .slice ov nf cv)]) W5) := (HS4.out _).more HH2.out ((HOW.out.alloc _).alloc _) HOLD.out hgrow5 (by rw [HRC.out]; exact hown5)
              have HOK3 : Hid (∀ x ∈ rv ++ [(r, Value.slice ov nf cv)], x.1.ok) := fun x hx => by
                simp only [List.mem_append, List.mem_singleton] at hx
                rcases hx with hx | rfl
                · exact HOK.out x hx
                · exact HOKR.out.1
              have HFD3 : Hid (∀ u2 c t, Fd okL lenL (bs (u.extract (n + k) u.size)) (u2, c, t) → Fd okL lenL (bs all) (u2, c, (rv ++ [(r, Value.slice ov nf cv)]).map (fun x => x.1.text) ++ t)) := fun u2 c t h => by
                have h1 := Fd.next (ok := okL) (len := lenL) (u := u2) (b := c) (t := t) HNN.out (by rw [HK.out]; omega) (by rw [HK.out, bs_len]; omega) (by rw [HK.out, ← HTX.out]; exact HOK2.out) (by
                  rw [HK.out]
                  have e : bs (u.extract (n + k) u.size) = (bs u).drop (n + k) := by rw [bs_extract, List.take_of_length_le (by rw [bs_len]; exact Nat.le_refl _)]
                  rw [← e]
                  exact h)
                rw [HK.out, ← HTX.out] at h1
                have h2 := HFD.out _ _ _ h1
                rw [List.map_append, List.append_assoc]
                have e2 : ([(r, Value.slice ov nf cv)].map (fun x : RqD × Value => x.1.text) ++ t) = bs tx :: t := by
                  show r.text :: t = _
                  rw [HOKR.out.2.1]
                rw [e2]
                exact h2
              clear hown5 hgrow5 hnews
              go_wp2_with fail
              go_roundw
              case rel =>
                refine ⟨u.extract (n + k) u.size, rv ++ [(r, .slice ov nf cv)], rfl, ?_, ?_, HS5, HOK3, HFD3⟩
                · rw [ByteArray.size_extract]; omega
                · rw [ByteArray.size_extract, List.length_append, List.length_singleton]; omega
              case measure => simp; omega
            · have HS2 : Hid (FdSt w H u6 rv (w2.alloc (Obj.cells #[.int .i64 0, .string ⟨#[]⟩, .slice none 0 0, .string ⟨#[]⟩] 37))) := (HS1.out.later HH2.out b2).later (by have := (HS1.out.later HH2.out b2).size; omega) ((Below.refl _ w2).alloc (Nat.le_refl _) _)
              have HF1 : Hid (Fd okL lenL (bs all) (bs ⟨#[]⟩, true, rv.map (fun x => x.1.text))) := by
                have := HFD.out _ _ _ (Fd.wrong HNN.out (by rw [HK.out]; omega) (by rw [HK.out, bs_len]; omega) (by rw [HK.out, ← HTX.out]; exact okL_no hno))
                rw [List.append_nil] at this
                exact this
              have HP : Hid (FeedP okL lenL (bs wait) false (bs piece) (bs ⟨#[]⟩) true (rv.map (fun x => x.1.text))) := (HFIN.out ⟨#[]⟩ true _ HF1.out).1 (.inl rfl)
              clear b2 hno
              obtain ⟨⟨k1, k2⟩, ⟨x1, k3⟩, ⟨x2, k4⟩, k5, k6⟩ := HS2.out.cells
              obtain ⟨m1, m2, m3, m4⟩ := HS2.out.answer (.string ⟨#[]⟩) (.bool true)
              have HM : Hid _ := And.intro m1 m2
              clear m1 m2
              go_wp2_with fail
              refine bodyPost_ret (v := .tuple #[.agg #[.string ⟨#[]⟩, .bool true], u6]) (by simp [results, Tryz.results5, go_sem, m3, m4]) rfl ?_
              exact ⟨⟨#[]⟩, true, u6, rv, rfl, by rw [HW.out]; exact HM.out.1, HOK.out, HP.out, by rw [HW.out]; exact HM.out.2⟩

end Go.Proofs.YtacfajnagbeocaaGreatDoor

namespace Go.Proofs.YtacfajnagbeocaaGreatDoor
open Go.RowKit Go.WideShapes
open Go.Lib hiding intOf

set_option maxRecDepth 100000 in
/-- A line among the arguments: what it holds. -/
theorem openStream {H : Type} {enc : TypeId × Value → H} {W : World} {r : Reach} {b0 : Nat} {v : Value} {d : DataW H} {ps : List MemPlace} (hval : Value.okWide Tryz.prog W r b0 23 v) (h : ∃ fuel, DataW.trod enc Tryz.prog W 0 (fun _ => true) true fuel 23 v.cells.toList = some (d, ps)) :
    ∃ (s : ByteArray) (b : Bool), v = .agg #[.string s, .bool b] ∧ s.size ≤ maxLen := by
  obtain ⟨cs, rfl, hsz⟩ := okWide_struct Tryz.underlying23 hval
  obtain ⟨fuel, hf⟩ := h
  obtain ⟨ys, q, _, _, _, hyl, hg⟩ := DataW.trod_struct Tryz.underlying23 hf
  have hc2 : Tryz.prog.cellsOf 23 = 2 := by kernel_rfl
  have e9 : Tryz.prog.cellsOf 9 = 1 := by kernel_rfl
  have e4 : Tryz.prog.cellsOf 4 = 1 := by kernel_rfl
  rw [hc2] at hsz
  obtain ⟨l⟩ := cs
  obtain ⟨c0, c1, rfl⟩ : ∃ c0 c1, l = [c0, c1] := by
    match l, hsz with
    | [c0, c1], _ => exact ⟨c0, c1, rfl⟩
  have g0 := hg 0 _ rfl
  have g1 := hg 1 _ rfl
  simp [Value.cells, e9, e4] at g0 g1
  have hy2 : ys.length = 2 := hyl
  rw [List.getElem?_eq_getElem (show 0 < ys.length by omega)] at g0
  rw [List.getElem?_eq_getElem (show 1 < ys.length by omega)] at g1
  obtain ⟨s, hs, _, hss⟩ := DataW.trod_string Tryz.underlying9 g0
  obtain ⟨b, hb, _⟩ := DataW.trod_bool Tryz.underlying4 g1
  simp only [List.cons.injEq, and_true] at hs hb
  subst hs hb
  exact ⟨s, b, rfl, hss⟩

set_option maxHeartbeats 1000000 in
theorem szStream_any (s : ByteArray) (b : Bool) (left : Nat) (w : World) (hs : s.size ≤ maxLen) (hl : left ≤ 1048576) :
    Calls Tryz.prog 4 #[.agg #[.string s, .bool b], .int .i64 (left : Int)] w fun e w' => ∃ z : Int, e = .returned (.int .i64 z) ∧ (¬ z < 0 → s.size ≤ left) ∧ Below w.heap.size w w' := by
  unfold maxLen at hs
  have hb : Below w.heap.size w (w.alloc (Obj.cells #[.string s, .bool b] 23)) := (Below.refl _ w).alloc (Nat.le_refl _) _
  have HB : Hid (Below w.heap.size w (w.alloc (Obj.cells #[.string s, .bool b] 23))) := hb
  clear hb
  by_cases h : (left : Int) - (s.size : Int) < 0
  · go_enter Tryz.func4, Tryz.ntmps4
    go_wp2_with fail
    go_ret
    exact ⟨-1, rfl, fun h => by omega, HB.out⟩
  · go_enter Tryz.func4, Tryz.ntmps4
    go_wp2_with fail
    go_ret
    exact ⟨(left : Int) - (s.size : Int), rfl, fun _ => by omega, HB.out⟩

set_option maxHeartbeats 1000000 in
theorem toStream_any (s : ByteArray) (b : Bool) (w : World) :
    Calls Tryz.prog 6 #[.agg #[.string s, .bool b]] w fun e w' => e = .returned (.agg #[.string s, .bool b]) ∧ Below w.heap.size w w' := by
  go_enter Tryz.func6, Tryz.ntmps6
  go_wp2_with fail
  exact bodyPost_ret (v := .agg #[.string s, .bool b]) (by simp [results, Tryz.results6, go_sem]) rfl ⟨rfl, (((Below.refl _ w).alloc (Nat.le_refl _) _).alloc (by simp) _).alloc (by simp; omega) _⟩

set_option maxHeartbeats 1000000 in
theorem eqStream_any (s : ByteArray) (b : Bool) (w : World) :
    Calls Tryz.prog 8 #[.agg #[.string s, .bool b], .agg #[.string s, .bool b]] w fun e w' => e = .returned (.bool true) ∧ Below w.heap.size w w' := by
  have t1 : (s.toList == s.toList) = true := by simp
  have t2 : (b != b) = false := by simp
  go_enter Tryz.func8, Tryz.ntmps8
  go_wp2_with fail
  go_ret
  exact ⟨rfl, ((Below.refl _ w).alloc (Nat.le_refl _) _).alloc (by simp) _⟩

theorem kAt_le : ∀ (rv : List (RqD × Value)) (j : Nat), (∀ x ∈ rv, x.1.fs.length ≤ 8) → kAt rv j ≤ 1 + 19 * j
  | _, 0, _ => by cases ‹List (RqD × Value)› <;> simp [kAt]
  | [], _ + 1, _ => by simp [kAt]
  | x :: t, j + 1, h => by
    have h1 := kAt_le t j (fun y hy => h y (by simp [hy]))
    have h2 := h x (by simp)
    simp only [kAt, stepK]
    omega
theorem FeedP.few {w p u : List UInt8} {b c : Bool} {t : List (List UInt8)} (h : FeedP okL lenL w b p u c t) : 4 * t.length ≤ w.length + p.length := by
  rcases h with ⟨_, _, _, rfl⟩ | ⟨_, u', c', ⟨f, hf⟩, _⟩
  · simp
  · have := (fdF_bound f _ _ _ _ hf).2.2
    rw [List.length_append] at this
    exact this
/-- What was told twice of one line is the same. -/
theorem told_same {w p u1 u2 : List UInt8} {b c1 c2 : Bool} {r1 r2 : List (RqD × Value)} (h1 : FeedP okL lenL w b p u1 c1 (r1.map (fun x => x.1.text))) (h2 : FeedP okL lenL w b p u2 c2 (r2.map (fun x => x.1.text))) (k1 : ∀ x ∈ r1, x.1.ok) (k2 : ∀ x ∈ r2, x.1.ok) : u1 = u2 ∧ c1 = c2 ∧ r1.map Prod.fst = r2.map Prod.fst := by
  obtain ⟨e1, e2, e3⟩ := h1.uniq h2
  refine ⟨e1, e2, rqs_uniq _ _ ?_ ?_ ?_⟩
  · intro r hr
    obtain ⟨x, hx, rfl⟩ := List.mem_map.1 hr
    exact k1 x hx
  · intro r hr
    obtain ⟨x, hx, rfl⟩ := List.mem_map.1 hr
    exact k2 x hx
  · rw [List.map_map, List.map_map]
    exact e3
theorem ok_few {r : RqD} (h : r.ok) : r.fs.length ≤ 8 := h.2.2.1.1

end Go.Proofs.YtacfajnagbeocaaGreatDoor
