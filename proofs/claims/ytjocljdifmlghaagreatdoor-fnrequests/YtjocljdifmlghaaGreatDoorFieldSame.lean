/- Chapter 2's own law: 'sameFields'; what is put is got, the others stay, what is dropped of right fields is gone. -/
import Derived.Test.YtjocljdifmlghaaGreatDoorFieldMark
import Derived.Test.YtjocljdifmlghaaGreatDoorFieldDraw3
namespace Go.Proofs.YtjocljdifmlghaaGreatDoor
open Go.RowKit
open Go.Lib hiding intOf

set_option maxHeartbeats 1000000 in
theorem sameFields_any (v1 v2 : Value) (n b1 b2 : Nat) (fs : List (ByteArray × ByteArray)) (w : World) (h1 : FieldsV w b1 v1 n fs) (h2 : FieldsV w b2 v2 n fs) (hn : n ≤ 2000000) :
    Calls Tryz.prog 10 #[v1, v2] w fun e w' => e = .returned (.bool true) ∧ Below w.heap.size w w' := by
  obtain ⟨oa, ca, rfl, hr1⟩ := h1.slice
  obtain ⟨ob, cb, rfl, hr2⟩ := h2.slice
  have H1 : Hid (∀ k, k < n → ∃ g, oa = some ⟨g, 0, none⟩ ∧ FieldRow b1 w g n ca fs) := hr1
  have H2 : Hid (∀ k, k < n → ∃ g, ob = some ⟨g, 0, none⟩ ∧ FieldRow b2 w g n cb fs) := hr2
  clear h1 h2 hr1 hr2
  go_enter Tryz.func10, Tryz.ntmps10
  go_wp2
  go_loopw [5] (fun i wr => ∃ k : Nat, k ≤ n ∧ i = .int .i64 (k : Int) ∧ Below w.heap.size w wr) (fun i _ => n - (intOf i).toNat)
  case atStart => exact ⟨0, Nat.zero_le _, rfl, Below.refl _ _⟩
  case round =>
    obtain ⟨k, hk, rfl, hbw⟩ := hrel
    by_cases hlt : k < n
    · have hlt2 : (k : Int) < (n : Int) := by omega
      obtain ⟨g1, rfl, r1⟩ := H1.out k hlt
      obtain ⟨g2, rfl, r2⟩ := H2.out k hlt
      have ha := (r1.below hbw r1.lt).name k hlt
      have hb := (r1.below hbw r1.lt).val k hlt
      have hc := (r2.below hbw r2.lt).name k hlt
      have hd := (r2.below hbw r2.lt).val k hlt
      obtain ⟨nm, hnm⟩ : ∃ y, y = nameAt fs k := ⟨_, rfl⟩
      obtain ⟨vl, hvl⟩ : ∃ y, y = valAt fs k := ⟨_, rfl⟩
      rw [← hnm] at ha hc
      rw [← hvl] at hb hd
      clear r1 r2 hnm hvl
      have t1 : (nm.toList == nm.toList) = true := by simp
      have t2 : (vl.toList == vl.toList) = true := by simp
      go_wp2
      go_quiet (fail)
      go_wp2
      go_roundw
      case rel => exact ⟨k + 1, by omega, by go_num, below_drewN hbw _⟩
      case measure => simp [intOf]; omega
    · go_wp2
      go_ret
      exact ⟨rfl, hbw⟩

theorem atF_append (fs : List (ByteArray × ByteArray)) (name value x : ByteArray) (h : atF fs name = fs.length) : atF (fs ++ [(name, value)]) x = (if x = name then fs.length else if atF fs x < fs.length then atF fs x else fs.length + 1) := by
  induction fs with
  | nil =>
    simp only [List.nil_append, atF, List.length_nil]
    by_cases e : x = name
    · rw [if_pos e.symm, if_pos e]
    · rw [if_neg (fun h => e h.symm), if_neg e]
      simp
  | cons f r ih =>
    have hne : f.1 ≠ name := fun e => by rw [atF, if_pos e] at h; simp at h
    have hr : atF r name = r.length := by rw [atF, if_neg hne] at h; simpa using h
    have ih := ih hr
    rw [List.cons_append, atF, ih, atF]
    by_cases e : f.1 = x
    · rw [if_pos e, if_pos e]
      subst e
      rw [if_neg hne, if_pos (by simp)]
    · rw [if_neg e, if_neg e]
      by_cases e2 : x = name
      · rw [if_pos e2, if_pos e2]; simp
      · rw [if_neg e2, if_neg e2]
        by_cases c : atF r x < r.length
        · rw [if_pos c, if_pos (by simp; omega)]
        · rw [if_neg c, if_neg (by simp; omega)]; simp
theorem atF_set (fs : List (ByteArray × ByteArray)) (k : Nat) (name value x : ByteArray) (hk : k < fs.length) (hn : nameAt fs k = name) : atF (fs.set k (name, value)) x = atF fs x := by
  induction fs generalizing k with
  | nil => simp at hk
  | cons f r ih =>
    cases k with
    | zero =>
      have : f.1 = name := hn
      simp only [List.set_cons_zero, atF, this]
    | succ k =>
      have hk' : k < r.length := by simpa using hk
      have hn' : nameAt r k = name := by simpa [nameAt] using hn
      simp only [List.set_cons_succ, atF, ih k hk' hn']
theorem valAt_append (fs : List (ByteArray × ByteArray)) (f : ByteArray × ByteArray) (k : Nat) : valAt (fs ++ [f]) k = (if k < fs.length then valAt fs k else if k = fs.length then f.2 else ⟨#[]⟩) := by
  unfold valAt
  rw [List.getD_eq_getElem?_getD, List.getD_eq_getElem?_getD]
  by_cases c : k < fs.length
  · rw [if_pos c, List.getElem?_append_left c]
  · rw [if_neg c, List.getElem?_append_right (by omega)]
    by_cases e : k = fs.length
    · rw [if_pos e, e, Nat.sub_self]; rfl
    · rw [if_neg e, List.getElem?_eq_none (by simp; omega)]; rfl

/-- What is put is got. -/
theorem put_got (fs : List (ByteArray × ByteArray)) (name value : ByteArray) : getV (putF fs name value) name = value ∧ getB (putF fs name value) name = true := by
  by_cases hin : atF fs name < fs.length
  · have hh := atF_here fs name hin
    rw [putF_eq fs name value hin]
    have ha := atF_set fs _ name value name hin hh
    unfold getV getB
    rw [ha, List.length_set, if_pos hin]
    have := (nameAt_set fs (atF fs name) (atF fs name) (name, value) hin).2
    rw [if_pos rfl] at this
    exact ⟨this, by simpa using hin⟩
  · have hl : atF fs name = fs.length := by have := atF_le fs name; omega
    have hp : putF fs name value = fs ++ [(name, value)] := by unfold putF; rw [if_neg hin]
    have ha := atF_append fs name value name hl
    rw [if_pos rfl] at ha
    rw [hp]
    unfold getV getB
    rw [ha, if_pos (by simp), valAt_append, if_neg (by omega), if_pos rfl]
    exact ⟨rfl, by simp⟩
/-- What is put turns no other name. -/
theorem put_other (fs : List (ByteArray × ByteArray)) (name value x : ByteArray) (hx : x ≠ name) : getV (putF fs name value) x = getV fs x ∧ getB (putF fs name value) x = getB fs x := by
  by_cases hin : atF fs name < fs.length
  · have hh := atF_here fs name hin
    rw [putF_eq fs name value hin]
    have ha := atF_set fs _ name value x hin hh
    unfold getV getB
    rw [ha, List.length_set]
    refine ⟨?_, rfl⟩
    by_cases c : atF fs x < fs.length
    · rw [if_pos c, if_pos c]
      have := (nameAt_set fs (atF fs name) (atF fs x) (name, value) hin).2
      rw [if_neg (fun e => hx (by have h2 := atF_here fs x c; rw [e, hh] at h2; exact h2.symm))] at this
      exact this
    · rw [if_neg c, if_neg c]
  · have hl : atF fs name = fs.length := by have := atF_le fs name; omega
    have hp : putF fs name value = fs ++ [(name, value)] := by unfold putF; rw [if_neg hin]
    have ha := atF_append fs name value x hl
    rw [if_neg hx] at ha
    rw [hp]
    unfold getV getB
    by_cases c : atF fs x < fs.length
    · rw [if_pos c] at ha
      rw [ha, if_pos (by simp; omega), if_pos c, valAt_append, if_pos c]
      exact ⟨rfl, by simp; omega⟩
    · rw [if_neg c] at ha
      rw [ha, if_neg (by simp), if_neg c]
      exact ⟨rfl, by simp; omega⟩
/-- A name dropped of right fields is gone. -/
theorem drop_gone (fs : List (ByteArray × ByteArray)) (name : ByteArray) (h : FldsOk fs) : getB (dropF fs name) name = false := by
  unfold getB
  rw [dropF_eq]
  have hno : ∀ gs : List (ByteArray × ByteArray), (∀ j, j < gs.length → nameAt gs j ≠ name) → decide (atF gs name < gs.length) = false := fun gs hg => by
    have := atF_none (fs := gs) (name := name) hg
    simp; omega
  by_cases hin : atF fs name < fs.length
  · rw [if_pos hin]
    apply hno
    intro j hj he
    rw [List.length_eraseIdx, if_pos hin] at hj
    rw [(nameAt_erase fs (atF fs name) j).1] at he
    by_cases c : j < atF fs name
    · rw [if_pos c] at he
      exact atF_before fs name j c he
    · rw [if_neg c] at he
      have := (h.2 (j + 1) (by omega)).2.2.1
      rw [he] at this
      omega
  · rw [if_neg hin]
    simpa using hin

theorem ShortF.name {fs : List (ByteArray × ByteArray)} (h : ShortF fs) (i : Nat) (hi : i < fs.length) : (nameAt fs i).size ≤ 64 ∧ (valAt fs i).size ≤ 64 := by
  have := h (nameAt fs i, valAt fs i) (by rw [pair_at fs i hi]; exact List.getElem_mem hi)
  exact this
theorem ShortF.put {fs : List (ByteArray × ByteArray)} (h : ShortF fs) {name value : ByteArray} (h1 : name.size ≤ 64) (h2 : value.size ≤ 64) : ShortF (putF fs name value) := by
  by_cases hin : atF fs name < fs.length
  · rw [putF_eq fs name value hin]
    intro f hf
    rcases List.mem_or_eq_of_mem_set hf with hf | hf
    · exact h f hf
    · subst hf; exact ⟨h1, h2⟩
  · have hp : putF fs name value = fs ++ [(name, value)] := by unfold putF; rw [if_neg hin]
    rw [hp]; exact h.snoc h1 h2
theorem ShortF.drop {fs : List (ByteArray × ByteArray)} (h : ShortF fs) (name : ByteArray) : ShortF (dropF fs name) := by
  rw [dropF_eq]
  split
  · intro f hf; exact h f (List.mem_of_mem_eraseIdx hf)
  · exact h
theorem ShortF.copy {fs : List (ByteArray × ByteArray)} (h : ShortF fs) : CopyF fs := fun i hi => by
  have := h.name i hi
  omega
theorem ShortF.sum {fs : List (ByteArray × ByteArray)} (h : ShortF fs) : ∀ k, k ≤ fs.length → szTo fs k ≤ 128 * k := by
  intro k
  induction k with
  | zero => intro _; exact Nat.le_refl _
  | succ k ih =>
    intro hk
    have := h.name k (by omega)
    have := ih (by omega)
    rw [szTo]; omega
theorem put_len (fs : List (ByteArray × ByteArray)) (name value : ByteArray) : (putF fs name value).length ≤ fs.length + 1 := by
  unfold putF
  split
  · rw [List.length_set]; omega
  · rw [List.length_append]; simp
theorem drop_len (fs : List (ByteArray × ByteArray)) (name : ByteArray) : (dropF fs name).length ≤ fs.length := by
  rw [dropF_eq]
  split
  · rw [List.length_eraseIdx]; split <;> omega
  · exact Nat.le_refl _

end Go.Proofs.YtjocljdifmlghaaGreatDoor
