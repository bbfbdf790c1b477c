/- What the proof of FnExactMount leans on: contracts of the program's and the specification's functions, and plain facts (part 12 of 12). -/
import Derived.Test.YtiobfnpmidjijaaGreatDoorFnExactMountK
set_option maxHeartbeats 16000000
set_option maxRecDepth 100000
namespace Go.Proofs.YtiobfnpmidjijaaGreatDoor
open Go.Proofs.Tryz
namespace fnExactMount
open Go.ChangeShapes Go.WideShapes Go.ChangeAt Go.RowKit
open Go.ChangeMaps (open_string shut_string)
attribute [local go_sem ↓] Go.wp_at_zero Go.wp_at_succ
theorem dP8 (hl : ∀ (os : Os) (_ : os.Started) (H : Type) (enc : TypeId × Value → H) (F : Stop.Interp), ReturnsInHanded {} Tryz.checked os 7 .any ((OpenSpec.ofChange Rows.fnExactMountSpec).preRow enc prog Tryz.f7 Rows.fnExactMountRow.domain false Rows.fnExactMountRow.laid) (((OpenSpec.ofChange Rows.fnExactMountSpec).at F).post enc prog Tryz.f7 false true false false)) : Rows.FnExactMountSaid :=
 OpenClaim.holds_of_cond 7 Tryz.f7 rfl rfl rfl rfl rfl rfl rfl ⟨rfl, rfl, rfl, rfl, rfl⟩ rfl rfl rfl rfl rfl (by as_aux_lemma => kernel_rfl) func7 (by
   simp only [joinedFacts, Bool.and_eq_true]
   repeat' apply And.intro
   all_goals as_aux_lemma => kernel_rfl)
  (of_decide_eq_true (by as_aux_lemma => kernel_rfl)) (by as_aux_lemma => unfold Func.isWrapper; first | (rw [if_pos (by decide +kernel)]; kernel_rfl) | (rw [if_neg (by decide +kernel)]; exact ⟨rfl, rfl⟩))
  (fun os started H enc _ F => by rw [OpenClaim.pre_eq_preRow]; exact hl os started H enc F)
end fnExactMount
end Go.Proofs.YtiobfnpmidjijaaGreatDoor
