/- Marking what was read, and nothing else; what a reading gives. -/
import Derived.Test.YtjocljdifmlghaaGreatDoorFieldMark
import Derived.Test.YtjocljdifmlghaaGreatDoorMsgLaw
import Derived.Test.YtjocljdifmlghaaGreatDoorMsgReadJ
namespace Go.Proofs.YtjocljdifmlghaaGreatDoor
open Go.RowKit
open Go.Lib hiding intOf

/-- What a reading gives: the one request whose text this is, or nothing. -/
def ReqGives (s : ByteArray) (m : Int) (p : ByteArray) (fs : List (ByteArray × ByteArray)) (b : ByteArray) (ok : Bool) : Prop := (ok = true ∧ IsReq s m p fs b) ∨ (ok = false ∧ m = 0 ∧ p = ⟨#[]⟩ ∧ fs = [] ∧ b = ⟨#[]⟩ ∧ ∀ m p fs b, ¬ IsReq s m p fs b)
theorem ReqGives.uniq {s : ByteArray} {m m' : Int} {p p' : ByteArray} {fs fs' : List (ByteArray × ByteArray)} {b b' : ByteArray} {ok ok' : Bool} (h : ReqGives s m p fs b ok) (h' : ReqGives s m' p' fs' b' ok') : m = m' ∧ p = p' ∧ fs = fs' ∧ b = b' ∧ ok = ok' := by
  rcases h with ⟨rfl, h⟩ | ⟨rfl, rfl, rfl, rfl, rfl, h⟩
  · rcases h' with ⟨rfl, h'⟩ | ⟨_, _, _, _, _, h'⟩
    · obtain ⟨e1, e2, e3, e4⟩ := h.uniq h'
      exact ⟨e1, e2, e3, e4, rfl⟩
    · exact absurd h (h' _ _ _ _)
  · rcases h' with ⟨_, h'⟩ | ⟨rfl, rfl, rfl, rfl, rfl, _⟩
    · exact absurd h' (h _ _ _ _)
    · exact ⟨rfl, rfl, rfl, rfl, rfl⟩
theorem ReqIs.form {s : ByteArray} {w : World} {e : Ending} {w' : World} (h : ReqIs s w e w') : ∃ (m : Int) (p : ByteArray) (fs : List (ByteArray × ByteArray)) (b : ByteArray) (v : Value) (ok : Bool), e = .returned (.tuple #[.agg #[.int .i64 m, .string p, v, .string b], .bool ok]) ∧ w'.ownsRow w.heap.size 55 2 v fs.length (flatF fs) ∧ Below w.heap.size w w' ∧ Hid (ReqGives s m p fs b ok) ∧ fs.length ≤ 8 := by
  rcases h with ⟨m, p, fs, b, v, rfl, h1, h2, h3⟩ | ⟨rfl, h1, h2⟩
  · exact ⟨m, p, fs, b, v, true, rfl, h2, h3, .inl ⟨rfl, h1⟩, h1.1.2.2.1.1⟩
  · exact ⟨0, ⟨#[]⟩, [], ⟨#[]⟩, .slice none 0 0, false, rfl, ⟨rfl, .inl ⟨rfl, rfl⟩⟩, h2, .inr ⟨rfl, rfl, rfl, rfl, rfl, h1⟩, by simp⟩

/-- What a reading gives: the one answer whose text this is, or nothing. -/
def RespGives (s : ByteArray) (m : Int) (fs : List (ByteArray × ByteArray)) (b : ByteArray) (ok : Bool) : Prop := (ok = true ∧ IsResp s m fs b) ∨ (ok = false ∧ m = 0 ∧ fs = [] ∧ b = ⟨#[]⟩ ∧ ∀ m fs b, ¬ IsResp s m fs b)
theorem RespGives.uniq {s : ByteArray} {m m' : Int} {fs fs' : List (ByteArray × ByteArray)} {b b' : ByteArray} {ok ok' : Bool} (h : RespGives s m fs b ok) (h' : RespGives s m' fs' b' ok') : m = m' ∧ fs = fs' ∧ b = b' ∧ ok = ok' := by
  rcases h with ⟨rfl, h⟩ | ⟨rfl, rfl, rfl, rfl, h⟩
  · rcases h' with ⟨rfl, h'⟩ | ⟨_, _, _, _, h'⟩
    · obtain ⟨e1, e3, e4⟩ := h.uniq h'
      exact ⟨e1, e3, e4, rfl⟩
    · exact absurd h (h' _ _ _)
  · rcases h' with ⟨_, h'⟩ | ⟨rfl, rfl, rfl, rfl, _⟩
    · exact absurd h' (h _ _ _)
    · exact ⟨rfl, rfl, rfl, rfl⟩
theorem RespIs.form {s : ByteArray} {w : World} {e : Ending} {w' : World} (h : RespIs s w e w') : ∃ (m : Int) (fs : List (ByteArray × ByteArray)) (b : ByteArray) (v : Value) (ok : Bool), e = .returned (.tuple #[.agg #[.int .i64 m, v, .string b], .bool ok]) ∧ w'.ownsRow w.heap.size 55 2 v fs.length (flatF fs) ∧ Below w.heap.size w w' ∧ Hid (RespGives s m fs b ok) ∧ fs.length ≤ 8 := by
  rcases h with ⟨m, fs, b, v, rfl, h1, h2, h3⟩ | ⟨rfl, h1, h2⟩
  · exact ⟨m, fs, b, v, true, rfl, h2, h3, .inl ⟨rfl, h1⟩, h1.1.2.1.1⟩
  · exact ⟨0, [], ⟨#[]⟩, .slice none 0 0, false, rfl, ⟨rfl, .inl ⟨rfl, rfl⟩⟩, h2, .inr ⟨rfl, rfl, rfl, rfl, h1⟩, by simp⟩

/-- A message that was read lies in a block: its cells, and the list that it owns. -/
structure Lies (q : Nat) (cs : Array Value) (t : TypeId) (base hi : Nat) (v : Value) (n : Nat) (fs : List (ByteArray × ByteArray)) (W : World) : Prop where
  cell : W.heap[q]? = some (.cells cs t)
  own : W.ownsRow base 55 2 v n (flatF fs)
  hi : ∀ j, v.ownBlock = some j → j < hi
theorem Lies.below {q : Nat} {cs : Array Value} {t : TypeId} {base hi : Nat} {v : Value} {n : Nat} {fs : List (ByteArray × ByteArray)} {W W' : World} (h : Lies q cs t base hi v n fs W) (hb : Below W.heap.size W W') : Lies q cs t base hi v n fs W' :=
  ⟨by rw [hb.block q (Array.getElem?_eq_some_iff.1 h.cell).1]; exact h.cell, owns_same h.own (fun j hj => hb.block j (owns_block_lt h.own hj).2), h.hi⟩
/-- Another message's list was marked: all of this one stands. -/
theorem Lies.far {q : Nat} {cs : Array Value} {t : TypeId} {base hi : Nat} {v : Value} {n : Nat} {fs : List (ByteArray × ByteArray)} {W W' : World} {v' : Value} {base' n' : Nat} {xs : List Value} (h : Lies q cs t base hi v n fs W) (ht : t ≠ 55) (ho : W.ownsRow base' 55 2 v' n' xs) (hk : hi ≤ base') (hf : Far v' W W') : Lies q cs t base hi v n fs W' :=
  ⟨by rw [hf q (Array.getElem?_eq_some_iff.1 h.cell).1 (own_not ho ht h.cell)]; exact h.cell, owns_same h.own (fun j hj => hf j (owns_block_lt h.own hj).2 (fun e => by
    have h1 := h.hi j hj
    have h2 := (owns_block_lt ho e).1
    omega)), h.hi⟩

end Go.Proofs.YtjocljdifmlghaaGreatDoor
