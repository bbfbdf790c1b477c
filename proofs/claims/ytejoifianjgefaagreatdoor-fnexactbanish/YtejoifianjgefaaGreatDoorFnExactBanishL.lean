/- What the proof of FnExactBanish leans on: contracts of the program's and the specification's functions, and plain facts (part 12 of 11). -/
import Derived.Test.YtejoifianjgefaaGreatDoorFnExactBanishK
set_option maxHeartbeats 16000000
set_option maxRecDepth 100000
namespace Go.Proofs.YtejoifianjgefaaGreatDoor
open Go.Proofs.Tryz
namespace fnExactBanish
open Go.ChangeShapes Go.WideShapes Go.ChangeAt Go.RowKit
open Go.ChangeMaps (open_string shut_string)
attribute [local go_sem ↓] Go.wp_at_zero Go.wp_at_succ
theorem cV8 (hl : ∀ (os : Os) (_ : os.Started) (H : Type) (enc : TypeId × Value → H) (F : Stop.Interp), ReturnsInHanded {} Tryz.checked os 4 .any ((OpenSpec.ofChange Rows.fnExactBanishSpec).preRow enc prog Tryz.f4 Rows.fnExactBanishRow.domain false Rows.fnExactBanishRow.laid) (((OpenSpec.ofChange Rows.fnExactBanishSpec).at F).post enc prog Tryz.f4 false true false false)) : Rows.FnExactBanishSaid :=
 OpenClaim.holds_of_cond 4 Tryz.f4 rfl rfl rfl rfl rfl rfl rfl ⟨rfl, rfl, rfl, rfl, rfl⟩ rfl rfl rfl rfl rfl (by as_aux_lemma => kernel_rfl) func4 (by as_aux_lemma => kernel_rfl)
  (of_decide_eq_true (by as_aux_lemma => kernel_rfl)) (by as_aux_lemma => unfold Func.isWrapper; first | (rw [if_pos (by decide +kernel)]; kernel_rfl) | (rw [if_neg (by decide +kernel)]; exact ⟨rfl, rfl⟩))
  (fun os started H enc _ F => by rw [OpenClaim.pre_eq_preRow]; exact hl os started H enc F)
end fnExactBanish
end Go.Proofs.YtejoifianjgefaaGreatDoor
namespace Go.Proofs.YtejoifianjgefaaGreatDoor
open Go.Proofs.Tryz
open Go.ChangeShapes Go.WideShapes Go.ChangeAt Go.RowKit
theorem cO4 : (prog.globals[1]?).map (·.type) = some 324 := by kernel_rfl
theorem cS0 : prog.cellsOf 324 = 20 := by kernel_rfl
theorem cS1 : prog.cellsOf 300 = 1 := by kernel_rfl
theorem cV6 {W : World} (h : laidMetH prog Rows.fnExactKeepRow.laid W) : aL2 W := by
 have h1 : laidMet prog Rows.fnExactKeepRow.laid W := h;obtain ⟨ps, hl, _⟩ := h1;obtain ⟨g1, t1, a3, f1, p1, q1, _, _, _, _, a1, _⟩ := hl;obtain ⟨g2, t2, a4, f2, p2, q2, _, _, _, _, a2, _⟩ := a1;obtain ⟨g3, t3, a5, f3, p3, q3, hg, ht, a0, hd, _, _⟩ := a2;obtain rfl := Option.some.inj (gTab.symm.trans hg);obtain rfl := Option.some.inj (cO4.symm.trans ht);unfold aL2 Lib.TabIs;rw [a0, ← Lib.cells_of_tab (zs := Lib.pow10Tab) underlying324 underlying300 cS1 cS0 hd]
def bB8 (w : World) : World :=
 { w with heap := ((w.heap.modify 1 fun
   | .cells _ t frozen => .cells #[.int .u64 1, .int .u64 10, .int .u64 100, .int .u64 1000, .int .u64 10000, .int .u64 100000, .int .u64 1000000, .int .u64 10000000, .int .u64 100000000, .int .u64 1000000000, .int .u64 10000000000, .int .u64 100000000000, .int .u64 1000000000000, .int .u64 10000000000000, .int .u64 100000000000000, .int .u64 1000000000000000, .int .u64 10000000000000000, .int .u64 100000000000000000, .int .u64 1000000000000000000, .int .u64 10000000000000000000] t frozen
   | o => o).modify 3 fun
   | .cells _ t frozen => .cells #[.int .u8 0, .int .u8 1, .int .u8 28, .int .u8 2, .int .u8 29, .int .u8 14, .int .u8 24, .int .u8 3, .int .u8 30, .int .u8 22, .int .u8 20, .int .u8 15, .int .u8 25, .int .u8 17, .int .u8 4, .int .u8 8, .int .u8 31, .int .u8 27, .int .u8 13, .int .u8 23, .int .u8 21, .int .u8 19, .int .u8 16, .int .u8 7, .int .u8 26, .int .u8 12, .int .u8 18, .int .u8 6, .int .u8 11, .int .u8 5, .int .u8 10, .int .u8 9] t frozen
   | o => o).modify 4 fun
   | .cells _ t frozen => .cells #[.int .u8 0, .int .u8 1, .int .u8 56, .int .u8 2, .int .u8 57, .int .u8 49, .int .u8 28, .int .u8 3, .int .u8 61, .int .u8 58, .int .u8 42, .int .u8 50, .int .u8 38, .int .u8 29, .int .u8 17, .int .u8 4, .int .u8 62, .int .u8 47, .int .u8 59, .int .u8 36, .int .u8 45, .int .u8 43, .int .u8 51, .int .u8 22, .int .u8 53, .int .u8 39, .int .u8 33, .int .u8 30, .int .u8 24, .int .u8 18, .int .u8 12, .int .u8 5, .int .u8 63, .int .u8 55, .int .u8 48, .int .u8 27, .int .u8 60, .int .u8 41, .int .u8 37, .int .u8 16, .int .u8 46, .int .u8 35, .int .u8 44, .int .u8 21, .int .u8 52, .int .u8 32, .int .u8 23, .int .u8 11, .int .u8 54, .int .u8 26, .int .u8 40, .int .u8 15, .int .u8 34, .int .u8 20, .int .u8 31, .int .u8 10, .int .u8 25, .int .u8 14, .int .u8 19, .int .u8 9, .int .u8 13, .int .u8 8, .int .u8 7, .int .u8 6] t frozen
   | o => o }
end Go.Proofs.YtejoifianjgefaaGreatDoor
