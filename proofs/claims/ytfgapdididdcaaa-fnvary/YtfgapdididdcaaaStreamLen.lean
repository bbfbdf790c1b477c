/- A head's length, in plain words: of the first line behind the first that begins with the word and has a number behind it. No program. -/
import Derived.Test.YtfgapdididdcaaaStreamPlain
namespace Go.Proofs.Ytfgapdididdcaaa
open Go.RowKit

/-- The bytes of 'content-length: '. -/
def clenM : List UInt8 := [99, 111, 110, 116, 101, 110, 116, 45, 108, 101, 110, 103, 116, 104, 58, 32]
open Classical in
/-- The number that a line tells. -/
noncomputable def clenOf (line : List UInt8) : Option Nat := if line.take 16 = clenM ∧ NumOk ⟨(line.drop 16).toArray⟩ then some (valL (line.drop 16)) else none
/-- What a head tells, byte by byte: 'first': the first line is not over; 'cur': what stands of this line. -/
noncomputable def lenS (first : Bool) (cur : List UInt8) : List UInt8 → Nat
  | [] => 0
  | c :: r =>
    if c = 10 ∧ cur.getLast? = some 13 then
      (if first = true then lenS false [] r else match clenOf cur.dropLast with | some n => n | none => lenS false [] r)
    else lenS first (cur ++ [c]) r
noncomputable def lenL (head : List UInt8) : Nat := lenS true [] head
theorem lenS_end {first : Bool} {cur r : List UInt8} (h : cur.getLast? = some 13) : lenS first cur (10 :: r) = (if first = true then lenS false [] r else match clenOf cur.dropLast with | some n => n | none => lenS false [] r) := by
  rw [lenS, if_pos ⟨rfl, h⟩]
theorem lenS_on {first : Bool} {cur r : List UInt8} {c : UInt8} (h : ¬ (c = 10 ∧ cur.getLast? = some 13)) : lenS first cur (c :: r) = lenS first (cur ++ [c]) r := by
  rw [lenS, if_neg h]
theorem clenOf_some {line : List UInt8} {n : Nat} (h : clenOf line = some n) : line.take 16 = clenM ∧ NumOk ⟨(line.drop 16).toArray⟩ ∧ n = valL (line.drop 16) ∧ n ≤ 1000000 := by
  unfold clenOf at h
  split at h
  · rename_i hc
    obtain rfl := Option.some.inj h
    exact ⟨hc.1, hc.2, rfl, hc.2.2.2.2⟩
  · cases h
theorem clenOf_yes {line : List UInt8} (h1 : line.take 16 = clenM) (h2 : NumOk ⟨(line.drop 16).toArray⟩) : clenOf line = some (valL (line.drop 16)) := by
  unfold clenOf
  rw [if_pos ⟨h1, h2⟩]
theorem clenOf_no {line : List UInt8} (h : ¬ (line.take 16 = clenM ∧ NumOk ⟨(line.drop 16).toArray⟩)) : clenOf line = none := by
  unfold clenOf
  rw [if_neg h]
theorem lenS_le : ∀ (r : List UInt8) (first : Bool) (cur : List UInt8), lenS first cur r ≤ 1000000 := by
  intro r
  induction r with
  | nil => intro first cur; simp [lenS]
  | cons c r ih =>
    intro first cur
    unfold lenS
    split
    · split
      · exact ih _ _
      · cases h : clenOf cur.dropLast with
        | some n => exact (clenOf_some h).2.2.2
        | none => exact ih _ _
    · exact ih _ _
theorem lenL_le (h : List UInt8) : lenL h ≤ 1000000 := lenS_le _ _ _

/-- Whether a text is a request's. -/
noncomputable def okL (l : List UInt8) : Bool := @decide (∃ m p fs b, IsReq ⟨l.toArray⟩ m p fs b) (Classical.propDecidable _)
theorem okL_yes {s : ByteArray} {m : Int} {p : ByteArray} {fs : List (ByteArray × ByteArray)} {b : ByteArray} (h : IsReq s m p fs b) : okL (bs s) = true :=
  (@decide_eq_true_iff _ (Classical.propDecidable _)).2 ⟨m, p, fs, b, h⟩
theorem okL_no {s : ByteArray} (h : ∀ m p fs b, ¬ IsReq s m p fs b) : ¬ okL (bs s) = true := by
  intro e
  obtain ⟨m, p, fs, b, hr⟩ := (@decide_eq_true_iff _ (Classical.propDecidable _)).1 e
  exact h m p fs b hr

end Go.Proofs.Ytfgapdididdcaaa
