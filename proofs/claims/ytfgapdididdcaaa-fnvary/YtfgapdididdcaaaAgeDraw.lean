/- Drawings of chapter 7: contracts over the translation. -/
import Derived.Test.YtfgapdididdcaaaCtlDraw
import Derived.Test.YtfgapdididdcaaaFieldPut
namespace Go.Proofs.Ytfgapdididdcaaa
open Go.RowKit
open Go.Lib hiding intOf

theorem putL_len (fs : List (ByteArray × ByteArray)) (name value : ByteArray) : (putF fs name value).length ≤ fs.length + 1 := by
  unfold putF
  split
  · rw [List.length_set]; omega
  · rw [List.length_append]; simp
theorem putL_short {fs : List (ByteArray × ByteArray)} (h : ShortF fs) {name value : ByteArray} (h1 : name.size ≤ 64) (h2 : value.size ≤ 64) : ShortF (putF fs name value) := by
  by_cases hin : atF fs name < fs.length
  · unfold putF
    rw [if_pos hin]
    intro f hf
    rcases List.mem_or_eq_of_mem_set hf with hf | hf
    · exact h f hf
    · subst hf
      refine ⟨?_, h2⟩
      first
        | exact h1
        | (unfold nameAt
           rw [List.getD_eq_getElem?_getD, List.getElem?_eq_getElem hin]
           exact (h _ (List.getElem_mem hin)).1)
  · unfold putF
    rw [if_neg hin]
    exact h.snoc h1 h2

/-- A call on the cursor answers a number. -/
def TimeDrawn (w : World) (c : Nat) (a : Option Addr) (len cap : Nat) (e : Ending) (w' : World) : Prop :=
  ∃ n : Int, e = .returned (.int .i64 n) ∧ -9223372036854775808 ≤ n ∧ n ≤ 9223372036854775807 ∧ CurAt w' c a len cap ∧ w.grownBy w' (some c)
def tmL : List Int := [-1, 1000000, 1000001, 9223372036854775807, -9223372036854775808]
theorem tmL_in : ∀ j, j < 5 → -9223372036854775808 ≤ tmL.getD j 0 ∧ tmL.getD j 0 ≤ 9223372036854775807 := by decide
/-- Fields and two times are drawn. -/
def DrawnFT (w : World) (e : Ending) (w' : World) : Prop :=
  ∃ (v : Value) (fs : List (ByteArray × ByteArray)) (t now : Int), e = .returned (.tuple #[v, .int .i64 t, .int .i64 now]) ∧ w'.ownsRow w.heap.size 64 2 v fs.length (flatF fs) ∧ fs.length ≤ 41 ∧ ShortF fs ∧ -9223372036854775808 ≤ t ∧ t ≤ 9223372036854775807 ∧ -9223372036854775808 ≤ now ∧ now ≤ 9223372036854775807 ∧ Below w.heap.size w w'
/-- While they are drawn. -/
structure FtSt (w : World) (c : Nat) (a : Option Addr) (len cap : Nat) (v : Value) (fs : List (ByteArray × ByteArray)) (wr : World) : Prop where
  own : wr.ownsRow (c + 1) 64 2 v fs.length (flatF fs)
  le : fs.length ≤ 41
  short : ShortF fs
  cur : CurAt wr c a len cap
  low : Below c w wr
theorem FtSt.grown {w : World} {c : Nat} {a : Option Addr} {len cap : Nat} {v : Value} {fs : List (ByteArray × ByteArray)} {wr W : World} (h : FtSt w c a len cap v fs wr) (hg : wr.grownBy W (some c)) (hcu : CurAt W c a len cap) : FtSt w c a len cap v fs W :=
  ⟨owns_same h.own (fun j hj => hg.block j (own_ltR h.own hj).2 (fun e => by cases e; have := (own_ltR h.own hj).1; omega)), h.le, h.short, hcu, h.low.grown hg (by have := h.cur.lt; omega) (by intro k hk; cases hk; exact Nat.le_refl _)⟩
def maL : List ByteArray := [⟨#[109, 97, 120, 45, 97, 103, 101, 61, 57]⟩, ⟨#[109, 97, 120, 45, 97, 103, 101, 61, 51, 48]⟩, ⟨#[109, 97, 120, 45, 97, 103, 101, 61, 50, 48, 44, 32, 110, 111, 45, 99, 97, 99, 104, 101]⟩]
theorem maL_short : ∀ j, j < maL.length → (textAt maL j).size ≤ 20 := by decide

end Go.Proofs.Ytfgapdididdcaaa
