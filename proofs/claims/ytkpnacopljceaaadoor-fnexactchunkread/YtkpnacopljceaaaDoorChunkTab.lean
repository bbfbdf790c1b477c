/- What the rows' list gives of math/bits' table: the one word of it that is read. -/
import Derived.Test.YtkpnacopljceaaaDoorTab
import Derived.Test.YtkpnacopljceaaaDoorChunkHexI
namespace Go.Proofs.YtkpnacopljceaaaDoor
open Go.ChangeShapes Go.WideShapes Go.ChangeAt Go.RowKit

def dbTab : List Int := [0, 1, 56, 2, 57, 49, 28, 3, 61, 58, 42, 50, 38, 29, 17, 4, 62, 47, 59, 36, 45, 43, 51, 22, 53, 39, 33, 30, 24, 18, 12, 5, 63, 55, 48, 27, 60, 41, 37, 16, 46, 35, 44, 21, 52, 32, 23, 11, 54, 26, 40, 15, 34, 20, 31, 10, 25, 14, 19, 9, 13, 8, 7, 6]
theorem gDb : Tryd.prog.globalNamed "math/bits.deBruijn64tab" = some 3 := by kernel_rfl
theorem gDbType : (Tryd.prog.globals[3]?).map (·.type) = some 103 := by kernel_rfl
theorem cellsDb : Tryd.prog.cellsOf 103 = 64 := by kernel_rfl
theorem cellsByte : Tryd.prog.cellsOf 5 = 1 := by kernel_rfl
theorem dbtable {W : World} (h : laidMetH Tryd.prog Rows.fnChunksRow.laid W) : DbOk W := by
  have h1 : laidMet Tryd.prog Rows.fnChunksRow.laid W := h
  obtain ⟨ps, hl, _⟩ := h1
  obtain ⟨g1, t1, cs1, f1, p1, q1, _, _, _, _, hr1, _⟩ := hl
  obtain ⟨g2, t2, cs2, f2, p2, q2, hg, ht, hvar, hd, _, _⟩ := hr1
  obtain rfl := Option.some.inj (gDb.symm.trans hg)
  obtain rfl := Option.some.inj (gDbType.symm.trans ht)
  have hc := Lib.cells_of_tab (zs := dbTab) Tryd.underlying103 Tryd.underlying5 cellsByte cellsDb hd
  unfold World.var? at hvar
  rw [gDb] at hvar
  have h15 : cs2[15]? = some (.int .u8 4) := by rw [← Array.getElem?_toList, hc]; rfl
  unfold DbOk
  cases hx : W.heap[3]? with
  | none => simp [hx] at hvar
  | some o =>
    cases o with
    | cells cs t fz =>
      simp [hx] at hvar
      subst hvar
      simp [World.cell?, hx, h15]
    | _ => simp [hx] at hvar

end Go.Proofs.YtkpnacopljceaaaDoor
