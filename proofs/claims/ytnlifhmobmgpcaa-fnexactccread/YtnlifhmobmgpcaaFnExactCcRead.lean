/- CcRead: at every argument the program answers as the specification; nothing that was there is turned. -/
import Derived.Test.YtnlifhmobmgpcaaCtlRead
import Derived.Test.YtnlifhmobmgpcaaCtlLaw
import Derived.Test.YtnlifhmobmgpcaaRows
import Derived.WalkKit
import Derived.ProofKit
import Derived.OpenShut
import Derived.ShutString
import Derived.ChangeOld
import Derived.Below
import Derived.Deep.RegionHeld3
import Derived.Deep.DrawnRows
namespace Go.Proofs.Ytnlifhmobmgpcaa
namespace fnExactCcRead
open Go.ChangeShapes Go.WideShapes Go.ChangeAt Go.RowKit
open Go.ChangeMaps (open_string shut_string)
attribute [local go_sem ↓] Go.wp_at_zero Go.wp_at_succ

theorem own : ownKnob Try.prog.godebug = none := by kernel_rfl
theorem laidOut : laidOutB Try.prog = true := by kernel_rfl

set_option maxHeartbeats 4000000 in
set_option maxRecDepth 100000 in
theorem walk1 (w : World) (s : ByteArray) (hs : s.size ≤ maxLen) :
    Calls Try.prog 4 #[.string s] w fun e w' => e = .returned (.bool true) ∧ Below w.heap.size w w' := by
  unfold maxLen at hs
  by_cases hbig : (1048576 : Int) < (s.size : Int)
  · go_enter Try.func4, Try.ntmps4
    go_wp2_with fail
    go_ret
    exact ⟨rfl, Below.refl _ _⟩
  · have hsz : s.size ≤ 1048576 := by omega
    obtain ⟨c, hc⟩ : ∃ c, c = ccR s := ⟨_, rfl⟩
    have HC : Hid (ccR s = c) := hc.symm
    clear hc
    go_enter Try.func4, Try.ntmps4
    go_wp2_with fail
    refine (specCcRead_any s _ hsz).mono ?_
    rintro e w1 ⟨rfl, b1⟩
    rw [HC.out]
    unfold CcD.v
    have HE := eqCc_same c
    dsimp only [CcD.v] at HE
    have HEQ : Hid _ := HE
    clear HE
    obtain ⟨r, hr⟩ : ∃ r, r = w1.heap.size := ⟨_, rfl⟩
    have HA1 : Hid (CcAt (w1.alloc (.cells c.cs 34)) r c) := by show CcAt _ _ _; rw [hr]; exact heap_alloc_new w1 _
    have HB1 : Hid (Below w.heap.size w (w1.alloc (.cells c.cs 34))) := b1.alloc b1.size _
    unfold CcD.cs at HA1 HB1
    clear b1
    go_wp2_with fail
    rw [← hr]
    clear hr
    refine (implCcRead_any s _ hsz).mono ?_
    rintro e w2 ⟨rfl, b2⟩
    rw [HC.out]
    unfold CcD.v
    have HA2 : Hid (CcAt w2 r c) := HA1.out.same (b2.block _ HA1.out.lt)
    have HB2 : Hid (Below w.heap.size w w2) := HB1.out.trans (b2.mono HB1.out.size)
    clear b2 HA1 HB1
    have hA3 : CcAt (w2.alloc (.cells c.cs 34)) r c := HA2.out.same (heap_alloc_old _ _ HA2.out.lt)
    have HB3 : Hid (Below w.heap.size w (w2.alloc (.cells c.cs 34))) := HB2.out.alloc HB2.out.size _
    obtain ⟨q0, q1, q2, q3, q4, q5⟩ := hA3.cells
    unfold CcD.cs at q0 q1 q2 q3 q4 q5 HB3
    clear hA3 HA2 HB2
    go_wp2_with fail
    refine (HEQ.out _).mono ?_
    rintro e w3 ⟨rfl, b3⟩
    have HB4 : Hid (Below w.heap.size w w3) := HB3.out.trans (b3.mono HB3.out.size)
    clear b3 q0 q1 q2 q3 q4 q5
    go_wp2_with fail
    go_ret
    exact ⟨rfl, HB4.out⟩

set_option maxRecDepth 100000 in
theorem lifted (os : Os) (started : os.Started) (H : Type) (enc : TypeId × Value → H) :
    ReturnsInHanded {} Try.checked os 4 .any (Rows.fnExactCcReadSpec.pre6 enc Try.prog Try.f4 Rows.fnExactCcReadRow.domain false) (Rows.fnExactCcReadSpec.post enc Try.prog Try.f4 false true false false) := by
  refine returnsInHanded_of_change (C := Try.checked) own started (by kernel_rfl) Try.func4
    (ChangeSpec.witness6 (enc := enc) (C := Try.checked) false ⟨#[], #[.string ByteArray.empty], []⟩ 8 (by kernel_rfl) (by kernel_rfl) (by kernel_rfl) (by kernel_rfl)) ?_
  intro W base args ds gs before hval0 hW _ _
  have hval : ∀ (j : Nat) t v, Try.f4.params[j]? = some t → args[j]? = some v → Value.okWide Try.prog W .any base t v := hval0
  have hW' := hW
  obtain ⟨p, q, hA0, hV, rfl, hfz, hnd⟩ := hW
  have hA : DataW.TrodAll enc Try.prog W 0 (fun _ => true) true Try.f4.params.toList args.toList ds p := hA0
  rw [Try.params4] at hA hval
  obtain ⟨v0, vs0, d0, ds0, p0, q0, hargs, rfl, rfl, h0, r0⟩ := trodAll_cons hA
  obtain ⟨rfl, rfl, rfl⟩ := trodAll_nil r0
  obtain rfl : args = #[v0] := by cases args; simp_all
  obtain ⟨rfl, rfl⟩ := trodVars_none hV
  obtain ⟨a0, rfl, rfl, rfl, w0⟩ := open_string Try.underlying9 (hval 0 9 v0 rfl rfl) h0
  clear hA0 hval0
  simp only [List.append_nil] at hW'
  refine (walk1 W a0 w0).mono fun e W' ⟨he, bel⟩ => ?_
  subst he
  exact ⟨_, rfl, _, _, _, [], [], [], hW', trodAll_mk1 (shut_bool Try.underlying4 _), (trodAll_cons_mk (shut_string Try.underlying9 w0) trodAll_mk0), rfl, bel.frame _, fun h => by cases h⟩

theorem over : Rows.fnExactCcReadRow.holds Try.pinned (OpenSpec.ofChange Rows.fnExactCcReadSpec) :=
  OpenClaim.holds_of_wide 4 Try.f4 rfl rfl rfl rfl rfl rfl rfl ⟨rfl, rfl, rfl, rfl, rfl⟩ rfl rfl rfl rfl rfl (by kernel_rfl) Try.func4 (by kernel_rfl)
    (of_decide_eq_true (by kernel_rfl)) (by unfold Func.isWrapper; first | (rw [if_pos (by decide +kernel)]; kernel_rfl) | (rw [if_neg (by decide +kernel)]; exact ⟨rfl, rfl⟩))
    (fun os started H enc _ => lifted os started H enc)
end fnExactCcRead

theorem fnExactCcRead_holds : Rows.FnExactCcReadSaid := fnExactCcRead.over
#print axioms fnExactCcRead_holds
end Go.Proofs.Ytnlifhmobmgpcaa
