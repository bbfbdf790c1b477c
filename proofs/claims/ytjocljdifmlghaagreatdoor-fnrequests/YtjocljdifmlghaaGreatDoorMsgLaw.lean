/- What the exact laws of chapter 3 do with requests and answers: measured, copied, held against each other, marked: contracts over the translation. -/
import Derived.Test.YtjocljdifmlghaaGreatDoorMsgReq
namespace Go.Proofs.YtjocljdifmlghaaGreatDoor
open Go.RowKit
open Go.Lib hiding intOf

/-- The measure is negative, or it says how much room is left of L. -/
def SzLe (L : Int) (n : Nat) (fs : List (ByteArray × ByteArray)) (w : World) (e : Ending) (w' : World) : Prop :=
  ∃ r : Int, e = .returned (.int .i64 r) ∧ r ≤ L ∧ (0 ≤ r → n ≤ 1048576 ∧ szTo fs n ≤ 1048576) ∧ Below w.heap.size w w'

/-- A request among the arguments is small, or the measure says no. -/
def SzReqIs (p : ByteArray) (n : Nat) (fs : List (ByteArray × ByteArray)) (b : ByteArray) (w : World) (e : Ending) (w' : World) : Prop :=
  ∃ r : Int, e = .returned (.int .i64 r) ∧ (0 ≤ r → (p.size ≤ 1048576 ∧ b.size ≤ 1048576) ∧ n ≤ 1048576 ∧ szTo fs n ≤ 1048576) ∧ Below w.heap.size w w'

theorem three_facts {W : World} {R : Nat} {a b c : Value} {t : TypeId} (h : W.heap[R]? = some (.cells #[a, b, c] t)) :
    (W.cell? ⟨R, 0, none⟩ = some a ∧ W.cell? ⟨R, 1, none⟩ = some b ∧ W.cell? ⟨R, 2, none⟩ = some c) ∧ W.frozen? ⟨R, 0, none⟩ = false ∧ W.frozen? ⟨R, 1, none⟩ = false ∧ W.frozen? ⟨R, 2, none⟩ = false := by
  refine ⟨⟨?_, ?_, ?_⟩, ?_, ?_, ?_⟩ <;> simp [World.cell?, World.frozen?, h]
/-- The three cells of an answer's memory, written. -/
def threeSet (w : World) (r : Nat) (a b c : Value) : World := ((w.setCell ⟨r, 0, none⟩ a).setCell ⟨r, 1, none⟩ b).setCell ⟨r, 2, none⟩ c
theorem three_set {W : World} {R : Nat} {a b c : Value} {t : TypeId} (h : W.heap[R]? = some (.cells #[a, b, c] t)) (a' b' c' : Value) : (threeSet W R a' b' c').heap[R]? = some (.cells #[a', b', c'] t) := by
  have := heap_set _ R 2 _ _ _ c' (heap_set _ R 1 _ _ _ b' (heap_set W R 0 _ _ _ a' h))
  simpa [threeSet] using this
theorem below_three {w W : World} {B R : Nat} {a b c : Value} (h : Below B w W) (hR : B ≤ R) : Below B w (threeSet W R a b c) :=
  ((h.setCell (p := ⟨R, 0, none⟩) hR _).setCell (p := ⟨R, 1, none⟩) hR _).setCell (p := ⟨R, 2, none⟩) hR _

def SzRespIs (n : Nat) (fs : List (ByteArray × ByteArray)) (b : ByteArray) (w : World) (e : Ending) (w' : World) : Prop :=
  ∃ r : Int, e = .returned (.int .i64 r) ∧ (0 ≤ r → b.size ≤ 1048576 ∧ n ≤ 1048576 ∧ szTo fs n ≤ 1048576) ∧ Below w.heap.size w w'

end Go.Proofs.YtjocljdifmlghaaGreatDoor
