/- 'Drop' and 'Put' of the specification: contracts over the translation. -/
import Derived.Test.YtacfajnagbeocaaGreatDoorFieldLaw
import Derived.Laws.AppendOwnNone
namespace Go.Proofs.YtacfajnagbeocaaGreatDoor
open Go.RowKit
open Go.Lib hiding intOf

theorem flatF_append (a b : List (ByteArray × ByteArray)) : flatF (a ++ b) = flatF a ++ flatF b := by simp [flatF]
theorem flatF_one (nm vl : ByteArray) : flatF [(nm, vl)] = [.string nm, .string vl] := rfl
theorem two_text (a b : ByteArray) : ∀ u ∈ [Value.string a, Value.string b], u.oneCell' = true := by
  intro u hu
  simp at hu
  rcases hu with rfl | rfl <;> rfl

/-- The first k fields without the one at that place. -/
def dropTo (fs : List (ByteArray × ByteArray)) (p : Int) : Nat → List (ByteArray × ByteArray)
  | 0 => []
  | k + 1 => if (k : Int) = p then dropTo fs p k else dropTo fs p k ++ [(nameAt fs k, valAt fs k)]
def dropF (fs : List (ByteArray × ByteArray)) (name : ByteArray) : List (ByteArray × ByteArray) := dropTo fs (atI fs name) fs.length
theorem dropTo_len (fs : List (ByteArray × ByteArray)) (p : Int) : ∀ k, (dropTo fs p k).length ≤ k := by
  intro k
  induction k with
  | zero => simp [dropTo]
  | succ k ih =>
    rw [dropTo]
    split
    · omega
    · simp; omega

/-- A call answers a list of these fields in memory of its own, and turns nothing that was there. -/
def RowF (fs : List (ByteArray × ByteArray)) (w : World) (e : Ending) (w' : World) : Prop :=
  ∃ v, e = .returned v ∧ w'.ownsRow w.heap.size 63 2 v fs.length (flatF fs) ∧ Below w.heap.size w w'

def putF (fs : List (ByteArray × ByteArray)) (name value : ByteArray) : List (ByteArray × ByteArray) :=
  if atF fs name < fs.length then fs.set (atF fs name) (nameAt fs (atF fs name), value) else fs ++ [(name, value)]
/-- One value of a row stored anew. -/
theorem FieldRow.setVal {base : Nat} {w : World} {g n cap : Nat} {fs : List (ByteArray × ByteArray)} (h : FieldRow base w g n cap fs) (k : Nat) (hk : k < n) (b : ByteArray) : FieldRow base (w.setCell ⟨g, k * 2 + 1, none⟩ (.string b)) g n cap (fs.set k (nameAt fs k, b)) := by
  have hl := h.len; have hle := h.le
  obtain ⟨cur, h1, h2, h3⟩ := h.heap
  refine ⟨by simp [hl], h.base, by simpa using h.lt, h.le, h.mx, cur.setIfInBounds (k * 2 + 1) (.string b), heap_set w g (k * 2 + 1) _ _ _ _ h1, by simpa using h2, ?_⟩
  intro i hi
  have hs := nameAt_set fs k i (nameAt fs k, b) (by omega)
  rw [hs.1, hs.2]
  have h4 := h3 i hi
  by_cases e : i = k
  · subst e
    rw [if_pos rfl, if_pos rfl]
    refine ⟨?_, ?_⟩
    · rw [Array.getElem?_setIfInBounds_ne (by omega)]; exact h4.1
    · rw [Array.getElem?_setIfInBounds_self_of_lt (by omega)]
  · rw [if_neg e, if_neg e]
    refine ⟨?_, ?_⟩
    · rw [Array.getElem?_setIfInBounds_ne (by omega)]; exact h4.1
    · rw [Array.getElem?_setIfInBounds_ne (by omega)]; exact h4.2
/-- The cells of a row, one behind the other. -/
theorem FieldRow.cells {base : Nat} {w : World} {g n cap : Nat} {fs : List (ByteArray × ByteArray)} (h : FieldRow base w g n cap fs) : ∀ j u, (flatF fs)[j]? = some u → w.cell? ((⟨g, 0, none⟩ : Addr).add j) = some u := by
  intro j u hj
  have hl := h.len
  have hjl : j < fs.length * 2 := by
    rw [← flatF_len]
    exact (List.getElem?_eq_some_iff.1 hj).1
  have e0 : (⟨g, 0, none⟩ : Addr).add j = ⟨g, j, none⟩ := by
    unfold Addr.add; split <;> simp_all
  rw [e0]
  have hf := flatF_get fs (j / 2) (by omega)
  rcases Nat.mod_two_eq_zero_or_one j with e | e
  · have e2 : j / 2 * 2 = j := by omega
    have hc := h.name (j / 2) (by omega)
    rw [e2] at hf hc
    rw [hf.1] at hj
    cases hj
    exact hc
  · have e2 : j / 2 * 2 + 1 = j := by omega
    have hc := h.val (j / 2) (by omega)
    rw [e2] at hf hc
    rw [hf.2] at hj
    cases hj
    exact hc
theorem flat_one (fs : List (ByteArray × ByteArray)) : ∀ u ∈ flatF fs, u.oneCell' = true := by
  intro u hu
  simp only [flatF, List.mem_flatMap] at hu
  obtain ⟨f, _, hf⟩ := hu
  exact two_text f.1 f.2 u hf

/-- What 'append' reads of a list: nil, or cells behind an address. -/
theorem FieldsV.src {w : World} {base n : Nat} {v : Value} {fs : List (ByteArray × ByteArray)} (h : FieldsV w base v n fs) :
    (v = .slice none 0 0 ∧ n = 0 ∧ fs = []) ∨ ∃ ad cap, v = .slice (some ad) n cap ∧ ∀ j u, (flatF fs)[j]? = some u → w.cell? (ad.add j) = some u := by
  rcases h with ⟨oa, cap, rfl, h0, rfl, rfl⟩ | ⟨g, cap, rfl, _, row⟩
  · cases oa with
    | none => exact .inl ⟨by rw [h0 rfl], rfl, rfl⟩
    | some ad => exact .inr ⟨ad, cap, rfl, fun j u hj => by simp [flatF] at hj⟩
  · exact .inr ⟨_, cap, rfl, row.cells⟩

end Go.Proofs.YtacfajnagbeocaaGreatDoor
