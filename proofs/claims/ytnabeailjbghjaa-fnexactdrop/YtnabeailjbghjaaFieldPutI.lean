/- 'Put' and 'Drop' of the program: contracts over the translation. -/
import Derived.Test.YtnabeailjbghjaaFieldDel
namespace Go.Proofs.Ytnabeailjbghjaa
open Go.RowKit
open Go.Lib hiding intOf

theorem owns_in {w : World} {base : Nat} {e : TypeId} {size : Nat} {v : Value} {n g : Nat} {xs : List Value} (h : w.ownsRow base e size v n xs) (hg : v.ownBlock = some g) : g < w.heap.size := by
  rcases h.2 with ⟨rfl, _⟩ | ⟨g1, cap, cur, rfl, _, h1, _⟩
  · cases hg
  · cases hg
    exact (Array.getElem?_eq_some_iff.1 h1).1
theorem pair_at (fs : List (ByteArray × ByteArray)) (k : Nat) (h : k < fs.length) : (nameAt fs k, valAt fs k) = fs[k] := by
  unfold nameAt valAt
  rw [List.getD_eq_getElem?_getD, List.getElem?_eq_getElem h]
  rfl
theorem dropTo_none (fs : List (ByteArray × ByteArray)) : ∀ k, k ≤ fs.length → dropTo fs (-1) k = fs.take k := by
  intro k
  induction k with
  | zero => intro _; rfl
  | succ k ih =>
    intro hk
    rw [dropTo, if_neg (by omega), ih (by omega), pair_at fs k (by omega), List.take_append_getElem (by omega)]
theorem dropTo_at (fs : List (ByteArray × ByteArray)) (a : Nat) : ∀ k, k ≤ fs.length → dropTo fs (a : Int) k = (if a < k then (fs.take k).eraseIdx a else fs.take k) := by
  intro k
  induction k with
  | zero => intro _; rfl
  | succ k ih =>
    intro hk
    have ht : fs.take (k + 1) = fs.take k ++ [fs[k]] := (List.take_append_getElem (by omega)).symm
    have hl : (fs.take k).length = k := by rw [List.length_take]; omega
    rw [dropTo, ih (by omega), pair_at fs k (by omega), ht]
    by_cases e : k = a
    · subst e
      rw [if_pos rfl, if_neg (by omega), if_pos (by omega), List.eraseIdx_append_of_length_le (by omega), hl, Nat.sub_self]
      simp
    · rw [if_neg (by omega)]
      by_cases c : a < k
      · rw [if_pos c, if_pos (by omega), List.eraseIdx_append_of_lt_length (by omega)]
      · rw [if_neg c, if_neg (by omega)]
theorem dropF_eq (fs : List (ByteArray × ByteArray)) (name : ByteArray) : dropF fs name = (if atF fs name < fs.length then fs.eraseIdx (atF fs name) else fs) := by
  unfold dropF atI
  by_cases h : atF fs name < fs.length
  · rw [if_pos h, if_pos h, dropTo_at fs _ _ (Nat.le_refl _), if_pos h, List.take_length]
  · rw [if_neg h, if_neg h, dropTo_none fs _ (Nat.le_refl _), List.take_length]
theorem putF_eq (fs : List (ByteArray × ByteArray)) (name value : ByteArray) (h : atF fs name < fs.length) : putF fs name value = fs.set (atF fs name) (name, value) := by
  unfold putF
  rw [if_pos h, atF_here fs name h]

set_option maxHeartbeats 400000 in
theorem implDrop_any (v : Value) (n base : Nat) (fs : List (ByteArray × ByteArray)) (name : ByteArray) (w : World) (hv : FieldsV w base v n fs) (hn : n ≤ 2000000) (hsz : CopyF fs) :
    Calls Try.prog 17 #[v, .string name] w fun e w' => RowF (dropF fs name) w e w' := by
  have hl := hv.len
  have hle := atF_le fs name
  obtain ⟨oa, cap, rfl, _⟩ := hv.slice
  go_enter Try.func17, Try.ntmps17
  go_wp2_with fail
  refine (copied_any _ n base fs _ hv hn hsz).mono ?_
  rintro e w1 ⟨out, rfl, hown, hb1⟩
  rw [hl] at hown
  have hv1 := FieldsV.of_owns hown
  clear hv hsz
  obtain ⟨k, hk⟩ : ∃ k, k = atF fs name := ⟨_, rfl⟩
  by_cases hin : atF fs name < fs.length
  · have hD : Hid (dropF fs name = fs.eraseIdx k) := by show _ = _; rw [dropF_eq, if_pos hin, hk]
    rcases frow_form hown with ⟨_, _, _, _, h0, _⟩ | ⟨g1, c1, rfl, _, row1⟩
    · omega
    have HROW : Hid (FieldRow w.heap.size w1 g1 n c1 fs) := row1
    have hlt : (k : Int) < (n : Int) := by omega
    have hne : ((k : Int) == (n : Int)) = false := by rw [beq_eq_false_iff_ne]; omega
    have hkn : k < n := by omega
    go_wp2_with fail
    refine (place_any _ n w.heap.size fs name _ hv1 (by omega)).mono ?_
    rintro e w2 ⟨rfl, rfl⟩
    rw [← hk]
    clear hv1 hown row1 hk hle hin
    go_wp2_with fail
    refine (del_any w.heap.size g1 n c1 fs k _ HROW.out hkn).mono ?_
    rintro e w3 ⟨rfl, hrow3, hb3⟩
    have hb4 := hb1.trans hb3
    have HR3 : Hid (FieldRow w.heap.size w3 g1 (n - 1) c1 (fs.eraseIdx k)) := hrow3
    clear hb1 hb3 hrow3 HROW
    go_wp2
    go_ret
    refine ⟨_, rfl, ?_, hb4⟩
    rw [hD.out, HR3.out.len]
    exact HR3.out.owns
  · have hD : Hid (dropF fs name = fs) := by show _ = _; rw [dropF_eq, if_neg hin]
    have hkn : k = n := by omega
    have HOWN : Hid (w1.ownsRow w.heap.size 33 2 out n (flatF fs)) := hown
    obtain ⟨oa1, cp1, rfl, _⟩ := hv1.slice
    clear hown
    go_wp2_with fail
    refine (place_any _ n w.heap.size fs name _ hv1 (by omega)).mono ?_
    rintro e w2 ⟨rfl, rfl⟩
    rw [← hk, hkn]
    clear hv1 hk hle hin hkn
    go_wp2
    go_ret
    exact ⟨_, rfl, by rw [hD.out, hl]; exact HOWN.out, hb1⟩

set_option maxHeartbeats 400000 in
theorem implPut_any (v : Value) (n base : Nat) (fs : List (ByteArray × ByteArray)) (name value : ByteArray) (w : World) (hv : FieldsV w base v n fs) (hn : n ≤ 1999999) (hsz : CopyF fs) (h1 : name.size ≤ 281474976710656) (h2 : value.size ≤ 281474976710656) :
    Calls Try.prog 11 #[v, .string name, .string value] w fun e w' => RowF (putF fs name value) w e w' := by
  obtain ⟨i0, hi, hz0, hz1, hz2⟩ := info_parts info33
  have hl := hv.len
  have hle := atF_le fs name
  obtain ⟨oa, cap, rfl, _⟩ := hv.slice
  go_enter Try.func11, Try.ntmps11
  go_wp2_with fail
  refine (copied_any _ n base fs _ hv (by omega) hsz).mono ?_
  rintro e w1 ⟨out, rfl, hown, hb1⟩
  rw [hl] at hown
  have hv1 := FieldsV.of_owns hown
  clear hv hsz
  obtain ⟨k, hk⟩ : ∃ k, k = atF fs name := ⟨_, rfl⟩
  by_cases hin : atF fs name < fs.length
  · have hP : Hid (putF fs name value = fs.set k (name, value)) := by show _ = _; rw [putF_eq fs name value hin, hk]
    rcases frow_form hown with ⟨_, _, _, _, h0, _⟩ | ⟨g1, c1, rfl, _, row1⟩
    · omega
    have HROW : Hid (FieldRow w.heap.size w1 g1 n c1 fs) := row1
    have hlt : (k : Int) < (n : Int) := by omega
    have hne : ((k : Int) == (n : Int)) = false := by rw [beq_eq_false_iff_ne]; omega
    have hkn : k < n := by omega
    go_wp2_with fail
    refine (place_any _ n w.heap.size fs name _ hv1 (by omega)).mono ?_
    rintro e w2 ⟨rfl, rfl⟩
    rw [← hk]
    clear hv1 hown row1 hk hle hin
    go_wp2_with fail
    refine (newField_any name value _ h1 h2).mono ?_
    rintro e w3 ⟨rfl, hb3⟩
    have row3 := HROW.out.below hb3 HROW.out.lt
    have hb4 : Below w.heap.size w w3 := hb1.trans (hb3.mono hb1.size)
    have hset := row3.set k hkn name value _ rfl (by simp)
    have hc0 := row3.name k hkn
    have hc1 := row3.val k hkn
    have hf0 := row3.frozen (k * 2)
    have hf1 := row3.frozen (k * 2 + 1)
    have HSET : Hid (FieldRow w.heap.size ((w3.setCell ⟨g1, k * 2, none⟩ (.string name)).setCell ⟨g1, k * 2 + 1, none⟩ (.string value)) g1 n c1 (fs.set k (name, value))) := hset
    have HB5 : Hid (Below w.heap.size w ((w3.setCell ⟨g1, k * 2, none⟩ (.string name)).setCell ⟨g1, k * 2 + 1, none⟩ (.string value))) := (hb4.setCell (p := ⟨g1, k * 2, none⟩) row3.base _).setCell (p := ⟨g1, k * 2 + 1, none⟩) row3.base _
    clear hb1 hb3 hb4 row3 hset HROW
    go_wp2
    go_ret
    refine ⟨_, rfl, ?_, HB5.out⟩
    rw [hP.out, HSET.out.len]
    exact HSET.out.owns
  · have hP : Hid (putF fs name value = fs ++ [(name, value)]) := by show _ = _; unfold putF; rw [if_neg hin]
    have hkn : k = n := by omega
    have HOWN : Hid (w1.ownsRow w.heap.size 33 2 out n (flatF fs)) := hown
    obtain ⟨oa1, cp1, rfl, _⟩ := hv1.slice
    clear hown
    go_wp2_with fail
    refine (place_any _ n w.heap.size fs name _ hv1 (by omega)).mono ?_
    rintro e w2 ⟨rfl, rfl⟩
    rw [← hk, hkn]
    clear hv1 hk hle hin hkn
    go_wp2_with fail
    refine (newField_any name value _ h1 h2).mono ?_
    rintro e w3 ⟨rfl, hb3⟩
    have hb4 : Below w.heap.size w w3 := hb1.trans (hb3.mono hb1.size)
    have hown3 : w3.ownsRow w.heap.size 33 2 (.slice oa1 n cp1) n (flatF fs) := owns_below HOWN.out hb3 (fun g hg => owns_in HOWN.out hg)
    have h63 : n + 1 ≤ maxLen := by unfold maxLen; omega
    have h47 : (n + 1) * 32 ≤ 140737488355328 := by omega
    have HBS : ∀ o, w.heap.size ≤ (w3.alloc o).heap.size := fun o => by have := hb4.size; simp; omega
    clear hb1 hb3
    go_wp2_with (at_builtin; refine wpList_append_own _ rfl _ _ 49 rfl w.heap.size 33 i0 (.agg #[.string ⟨#[]⟩, .string ⟨#[]⟩]) 2 32 Try.underlying49 hi hz0 hz1 hz2 rfl (by decide) _ _ _ rfl (hown3.alloc _) ⟨w3.heap.size, 0, none⟩ 1 1 [.string name, .string value] rfl rfl (cell_two_new _ _ _ _) (two_text _ _) h63 h47 (HBS _) ?_)
    intro v4 w4 hown4 hgrow4 _
    have hb5 : Below w.heap.size w w4 := (hb4.alloc hb4.size _).grown hgrow4 (HBS _) (fun g hg => owns_ge hown3 hg)
    clear hgrow4 HBS
    go_wp2
    go_ret
    exact ⟨_, rfl, by rw [hP.out, flatF_append, flatF_one]; simpa [hl] using hown4, hb5⟩

end Go.Proofs.Ytnabeailjbghjaa
