/- CcOf: at every list of fields the program answers as the specification; it writes into no argument. -/
import Derived.Test.YtnlifhmobmgpcaaCtlRead
import Derived.Test.YtnlifhmobmgpcaaCtlLaw
import Derived.Test.YtnlifhmobmgpcaaFieldLaw
import Derived.Test.YtnlifhmobmgpcaaFieldOpen
import Derived.Test.YtnlifhmobmgpcaaRows
import Derived.WalkKit
import Derived.ProofKit
import Derived.OpenShut
import Derived.ShutString
import Derived.ChangeOld
import Derived.Below
import Derived.Deep.RegionHeld3
import Derived.Deep.DrawnRows
namespace Go.Proofs.Ytnlifhmobmgpcaa
namespace fnExactCcOf
open Go.ChangeShapes Go.WideShapes Go.ChangeAt Go.RowKit
open Go.ChangeMaps (open_string shut_string)
attribute [local go_sem ↓] Go.wp_at_zero Go.wp_at_succ

theorem own : ownKnob Try.prog.godebug = none := by kernel_rfl
theorem laidOut : laidOutB Try.prog = true := by kernel_rfl

set_option maxHeartbeats 4000000 in
set_option maxRecDepth 100000 in
theorem walk1 (w : World) (a : Option Addr) (n cap : Nat) (fs : List (ByteArray × ByteArray)) (harg : ArgF w w.heap.size a n fs) (hn : n ≤ maxLen) (hs : ∀ i, i < n → (nameAt fs i).size ≤ maxLen ∧ (valAt fs i).size ≤ maxLen) :
    Calls Try.prog 5 #[.slice a n cap] w fun e w' => e = .returned (.bool true) ∧ Below w.heap.size w w' := by
  have HA : Hid (∀ W, Below w.heap.size w W → ArgF W w.heap.size a n fs) := fun W h => harg.below h
  have hlen := harg.len
  go_enter Try.func5, Try.ntmps5
  go_wp2_with fail
  refine (szFieldS_any w.heap.size a n cap fs _ harg (Nat.le_refl _) hn hs).mono ?_
  rintro e w1 ⟨r0, rfl, hr, hb1⟩
  clear harg hs
  by_cases hr0 : r0 < 0
  · clear hr
    go_wp2_with fail
    go_ret
    exact ⟨rfl, hb1⟩
  obtain ⟨hn1, hz1⟩ := hr (by omega)
  have HC : Hid (CopyF fs) := fun i hi => by
    have := szTo_get fs n i (by omega)
    omega
  have HG : Hid (∀ x, (getV fs x).size ≤ 1048576) := fun x => by
    unfold getV
    split
    · rename_i h
      have := szTo_get fs n (atF fs x) (by omega)
      omega
    · decide
  clear hr hn
  obtain ⟨t, ht⟩ : ∃ t, t = getV fs ccName := ⟨_, rfl⟩
  have HTT : Hid (getV fs ccName = t) := ht.symm
  obtain ⟨c, hc⟩ : ∃ c, c = ccR t := ⟨_, rfl⟩
  have HCC : Hid (ccR t = c) := hc.symm
  have HE := eqCc_same c
  dsimp only [CcD.v] at HE
  have HEQ : Hid _ := HE
  clear hc HE ht
  go_wp2_with fail
  refine (toFieldS_any w.heap.size a n cap fs _ (HA.out w1 hb1) hb1.size hn1).mono ?_
  rintro e w2 ⟨t1, rfl, own1, b2⟩
  have hb2 : Below w.heap.size w w2 := hb1.trans (b2.mono hb1.size)
  clear hb1 b2
  go_wp2_with fail
  refine (specCcOf_any t1 n _ fs _ (FieldsV.of_owns own1) (by omega) (HG.out _)).mono ?_
  rintro e w3 ⟨rfl, b3⟩
  have hb3 : Below w.heap.size w w3 := hb2.trans (b3.mono hb2.size)
  clear hb2 b3 own1
  rw [HTT.out, HCC.out]
  unfold CcD.v
  obtain ⟨r, hr⟩ : ∃ r, r = w3.heap.size := ⟨_, rfl⟩
  obtain ⟨W3, hW3⟩ : ∃ W, W = w3.alloc (.cells #[.bool c.ns, .bool c.nc, .bool c.pr, .bool c.mu, .bool c.ha, .int .i64 c.age] 34) := ⟨_, rfl⟩
  have HW3 : Hid (w3.alloc (.cells #[.bool c.ns, .bool c.nc, .bool c.pr, .bool c.mu, .bool c.ha, .int .i64 c.age] 34) = W3) := hW3.symm
  have HA3 : Hid (CcAt W3 r c) := by show CcAt _ _ _; rw [hW3, hr]; exact heap_alloc_new w3 _
  have hbW : Below w.heap.size w W3 := by rw [hW3]; exact hb3.alloc hb3.size _
  clear hb3 hW3
  go_wp2_with fail
  rw [HW3.out, ← hr]
  clear HW3 hr
  refine (toFieldS_any w.heap.size a n cap fs _ (HA.out W3 hbW) hbW.size hn1).mono ?_
  rintro e w4 ⟨x, rfl, ownx, b4⟩
  have hb4 : Below w.heap.size w w4 := hbW.trans (b4.mono hbW.size)
  have HX : Hid (FieldsV w4 W3.heap.size x n fs) := FieldsV.of_owns ownx
  have HA4 : Hid (CcAt w4 r c) := HA3.out.same (b4.block _ HA3.out.lt)
  clear hbW b4 ownx HA3
  go_wp2_with fail
  refine (implCcOf_any x n _ fs _ HX.out (by omega) HC.out (HG.out _)).mono ?_
  rintro e w5 ⟨rfl, b5⟩
  rw [HTT.out, HCC.out]
  unfold CcD.v
  have hb5 : Below w.heap.size w w5 := hb4.trans (b5.mono hb4.size)
  have HA5 : Hid (CcAt w5 r c) := HA4.out.same (b5.block _ HA4.out.lt)
  have HX5 : Hid (FieldsV (w5.alloc (.cells #[.bool c.ns, .bool c.nc, .bool c.pr, .bool c.mu, .bool c.ha, .int .i64 c.age] 34)) W3.heap.size x n fs) := (HX.out.below b5).below ((Below.refl _ _).alloc (Nat.le_refl _) _)
  have HB5 : Hid (Below w.heap.size w (w5.alloc (.cells #[.bool c.ns, .bool c.nc, .bool c.pr, .bool c.mu, .bool c.ha, .int .i64 c.age] 34))) := hb5.alloc hb5.size _
  obtain ⟨q0, q1, q2, q3, q4, q5⟩ := (show CcAt (w5.alloc (.cells #[.bool c.ns, .bool c.nc, .bool c.pr, .bool c.mu, .bool c.ha, .int .i64 c.age] 34)) r c from HA5.out.same (heap_alloc_old _ _ HA5.out.lt)).cells
  clear hb4 b5 HX HA4 HA5 hb5
  go_wp2_with fail
  refine (HEQ.out _).mono ?_
  rintro e w6 ⟨rfl, b6⟩
  have hb6 : Below w.heap.size w w6 := HB5.out.trans (b6.mono HB5.out.size)
  have HX6 : Hid (FieldsV w6 W3.heap.size x n fs) := HX5.out.below b6
  clear b6 HB5 HX5 q0 q1 q2 q3 q4 q5
  go_wp2_with fail
  refine (toFieldS_any w.heap.size a n cap fs _ (HA.out w6 hb6) hb6.size hn1).mono ?_
  rintro e w7 ⟨t3, rfl, own3, b7⟩
  have hb7 : Below w.heap.size w w7 := hb6.trans (b7.mono hb6.size)
  have HX7 : Hid (FieldsV w7 W3.heap.size x n fs) := HX6.out.below b7
  clear hb6 b7 HX6
  go_wp2_with fail
  refine (eqFieldS_any x t3 n _ _ fs _ HX7.out (FieldsV.of_owns own3) (by omega)).mono ?_
  rintro e w8 ⟨rfl, b8⟩
  have hb8 : Below w.heap.size w w8 := hb7.trans (b8.mono hb7.size)
  clear hb7 b8 own3 HX7
  go_wp2_with fail
  go_ret
  exact ⟨rfl, hb8⟩

set_option maxRecDepth 100000 in
theorem lifted (os : Os) (started : os.Started) (H : Type) (enc : TypeId × Value → H) :
    ReturnsInHanded {} Try.checked os 5 .any (Rows.fnExactCcOfSpec.pre6 enc Try.prog Try.f5 Rows.fnExactCcOfRow.domain false) (Rows.fnExactCcOfSpec.post enc Try.prog Try.f5 false true false false) := by
  refine returnsInHanded_of_change (C := Try.checked) own started (by kernel_rfl) Try.func5
    (ChangeSpec.witness6 (enc := enc) (C := Try.checked) false ⟨#[], #[.slice none 0 0], []⟩ 8 (by kernel_rfl) (by kernel_rfl) (by kernel_rfl) (by kernel_rfl)) ?_
  intro W base args ds gs before hval0 hW _ _
  have hval : ∀ (j : Nat) t v, Try.f5.params[j]? = some t → args[j]? = some v → Value.okWide Try.prog W .any base t v := hval0
  have hW' := hW
  obtain ⟨p, q, hA0, hV, rfl, hfz, hnd⟩ := hW
  have hA : DataW.TrodAll enc Try.prog W 0 (fun _ => true) true Try.f5.params.toList args.toList ds p := hA0
  rw [Try.params5] at hA hval
  obtain ⟨v0, vs0, d0, ds0, p0, q0, hargs, rfl, rfl, h0, r0⟩ := trodAll_cons hA
  obtain ⟨rfl, rfl, rfl⟩ := trodAll_nil r0
  obtain rfl : args = #[v0] := by cases args; simp_all
  obtain ⟨rfl, rfl⟩ := trodVars_none hV
  obtain ⟨a0, len0, cap0, rfl⟩ := okWide_slice Try.underlying38 (hval 0 38 v0 rfl rfl)
  have k0 := h0
  have lt0 : ∀ x ∈ p0, x.block < W.heap.size := by obtain ⟨m, hm⟩ := k0; exact DataW.trod_lt m _ _ _ hm
  obtain ⟨f0, g0, m0, s0⟩ : ∃ fs, ArgF W W.heap.size a0 len0 fs ∧ len0 ≤ maxLen ∧ ∀ i, i < len0 → (nameAt fs i).size ≤ maxLen ∧ (valAt fs i).size ≤ maxLen := by
    obtain ⟨fuel, hf⟩ := h0
    exact openFields (by simpa [Value.cells] using hf)
  clear hA0 hval0
  refine (walk1 W a0 len0 cap0 f0 g0 m0 s0).mono fun e W' ⟨he, bel⟩ => ?_
  subst he
  exact ⟨_, rfl, _, _, _, [], _, [], hW', trodAll_mk1 (shut_bool Try.underlying4 _), (trodAll_cons_mk (Below.trod laidOut (by kernel_rfl) (of_decide_eq_true (by kernel_rfl)) k0 bel lt0) trodAll_mk0), rfl, bel.frame _, fun h => by cases h⟩

theorem over : Rows.fnExactCcOfRow.holds Try.pinned (OpenSpec.ofChange Rows.fnExactCcOfSpec) :=
  OpenClaim.holds_of_wide 5 Try.f5 rfl rfl rfl rfl rfl rfl rfl ⟨rfl, rfl, rfl, rfl, rfl⟩ rfl rfl rfl rfl rfl (by kernel_rfl) Try.func5 (by kernel_rfl)
    (of_decide_eq_true (by kernel_rfl)) (by unfold Func.isWrapper; first | (rw [if_pos (by decide +kernel)]; kernel_rfl) | (rw [if_neg (by decide +kernel)]; exact ⟨rfl, rfl⟩))
    (fun os started H enc _ => lifted os started H enc)
end fnExactCcOf

theorem fnExactCcOf_holds : Rows.FnExactCcOfSaid := fnExactCcOf.over
#print axioms fnExactCcOf_holds
end Go.Proofs.Ytnlifhmobmgpcaa
