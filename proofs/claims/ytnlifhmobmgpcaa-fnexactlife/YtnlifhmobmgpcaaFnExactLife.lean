/- Life: at every list of fields and every time the program answers as the specification (the law answers true), and writes into no argument: no condition. -/
import Derived.Test.YtnlifhmobmgpcaaAgeImpl
import Derived.Test.YtnlifhmobmgpcaaCtlLaw
import Derived.Test.YtnlifhmobmgpcaaFieldLaw
import Derived.Test.YtnlifhmobmgpcaaFieldOpen
import Derived.Test.YtnlifhmobmgpcaaRows
import Derived.WalkKit
import Derived.ProofKit
import Derived.OpenShut
import Derived.ShutString
import Derived.ChangeOld
import Derived.Below
import Derived.Deep.RegionHeld3
import Derived.Deep.DrawnRows
namespace Go.Proofs.Ytnlifhmobmgpcaa
namespace fnExactLife
open Go.ChangeShapes Go.WideShapes Go.ChangeAt Go.RowKit
open Go.ChangeMaps (open_string shut_string)
attribute [local go_sem ↓] Go.wp_at_zero Go.wp_at_succ

theorem own : ownKnob Try.prog.godebug = none := by kernel_rfl
theorem laidOut : laidOutB Try.prog = true := by kernel_rfl

set_option maxHeartbeats 4000000 in
set_option maxRecDepth 100000 in
theorem walk1 (w : World) (a : Option Addr) (n cap : Nat) (fs : List (ByteArray × ByteArray)) (harg : ArgF w w.heap.size a n fs) (hn : n ≤ maxLen) (hs : ∀ i, i < n → (nameAt fs i).size ≤ maxLen ∧ (valAt fs i).size ≤ maxLen) :
    Calls Try.prog 8 #[.slice a n cap] w fun e w' => e = .returned (.bool true) ∧ Below w.heap.size w w' := by
  have HA : Hid (∀ W, Below w.heap.size w W → ArgF W w.heap.size a n fs) := fun W h => harg.below h
  have hlen := harg.len
  go_enter Try.func8, Try.ntmps8
  go_wp2_with fail
  refine (szFieldS_any w.heap.size a n cap fs _ harg (Nat.le_refl _) hn hs).mono ?_
  rintro e w1 ⟨r0, rfl, hr, hb1⟩
  clear harg hs
  by_cases hr0 : r0 < 0
  · clear hr
    go_wp2_with fail
    go_ret
    exact ⟨rfl, hb1⟩
  obtain ⟨hn1, hz1⟩ := hr (by omega)
  have HC : Hid (CopyF fs) := fun i hi => by
    have := szTo_get fs n i (by omega)
    omega
  have HG : Hid (∀ x, (getV fs x).size ≤ 1048576) := fun x => by
    unfold getV
    split
    · rename_i h
      have := szTo_get fs n (atF fs x) (by omega)
      omega
    · decide
  clear hr hn
  have HGM : Hid (∀ x, (getV fs x).size ≤ maxLen) := fun x => by have := HG.out x; unfold maxLen; omega
  obtain ⟨p, hp⟩ : ∃ p, p = lifeOf fs := ⟨_, rfl⟩
  have HP : Hid (lifeOf fs = p) := hp.symm
  have HS : Hid (∀ (v : Value) (base : Nat) (W : World), FieldsV W base v n fs → Calls Try.prog 17 #[v] W fun e w' => e = .returned (.int .i64 p) ∧ Below W.heap.size W w') := fun v base W h => by rw [hp]; exact specLife_any v n base fs W h (by omega) (HG.out _)
  have HI : Hid (∀ (v : Value) (base : Nat) (W : World), FieldsV W base v n fs → Calls Try.prog 16 #[v] W fun e w' => e = .returned (.int .i64 p) ∧ Below W.heap.size W w') := fun v base W h => by rw [hp]; exact implLife_any v n base fs W h (by omega) HC.out (HG.out _)
  have t1 : (p != p) = false := by simp
  clear hp HP
  go_wp2_with fail
  refine (toFieldS_any w.heap.size a n cap fs _ (HA.out w1 hb1) hb1.size hn1).mono ?_
  rintro e w2 ⟨tv, rfl, own1, b2⟩
  have hb2 : Below w.heap.size w w2 := hb1.trans (b2.mono hb1.size)
  clear hb1 b2
  go_wp2_with fail
  refine (HS.out tv _ _ (FieldsV.of_owns own1)).mono ?_
  rintro e w3 ⟨rfl, b3⟩
  have hb3 : Below w.heap.size w w3 := hb2.trans (b3.mono hb2.size)
  clear hb2 b3 own1
  go_wp2_with fail
  refine (toFieldS_any w.heap.size a n cap fs _ (HA.out w3 hb3) hb3.size hn1).mono ?_
  rintro e w4 ⟨x0, rfl, ownx, b4⟩
  have hb4 : Below w.heap.size w w4 := hb3.trans (b4.mono hb3.size)
  have HX : Hid (FieldsV w4 w3.heap.size x0 n fs) := FieldsV.of_owns ownx
  clear hb3 b4 ownx
  go_wp2_with fail
  refine (HI.out x0 _ _ HX.out).mono ?_
  rintro e w5 ⟨rfl, b5⟩
  have hb5 : Below w.heap.size w w5 := hb4.trans (b5.mono hb4.size)
  have HX5 : Hid (FieldsV w5 w3.heap.size x0 n fs) := HX.out.below b5
  clear hb4 b5 HX
  go_wp2_with fail
  refine (toFieldS_any w.heap.size a n cap fs _ (HA.out w5 hb5) hb5.size hn1).mono ?_
  rintro e w6 ⟨t3, rfl, own3, b6⟩
  have hb6 : Below w.heap.size w w6 := hb5.trans (b6.mono hb5.size)
  have HX6 : Hid (FieldsV w6 w3.heap.size x0 n fs) := HX5.out.below b6
  clear hb5 b6 HX5
  go_wp2_with fail
  refine (eqFieldS_any x0 t3 n _ _ fs _ HX6.out (FieldsV.of_owns own3) (by omega)).mono ?_
  rintro e w7 ⟨rfl, b7⟩
  have hb7 : Below w.heap.size w w7 := hb6.trans (b7.mono hb6.size)
  clear hb6 b7 own3 HX6
  go_wp2_with fail
  go_ret
  exact ⟨rfl, hb7⟩

set_option maxRecDepth 100000 in
theorem lifted (os : Os) (started : os.Started) (H : Type) (enc : TypeId × Value → H) :
    ReturnsInHanded {} Try.checked os 8 .any (Rows.fnExactLifeSpec.pre6 enc Try.prog Try.f8 Rows.fnExactLifeRow.domain false) (Rows.fnExactLifeSpec.post enc Try.prog Try.f8 false true false false) := by
  refine returnsInHanded_of_change (C := Try.checked) own started (by kernel_rfl) Try.func8
    (ChangeSpec.witness6 (enc := enc) (C := Try.checked) false ⟨#[], #[.slice none 0 0], []⟩ 8 (by kernel_rfl) (by kernel_rfl) (by kernel_rfl) (by kernel_rfl)) ?_
  intro W base args ds gs before hval0 hW _ _
  have hval : ∀ (j : Nat) t v, Try.f8.params[j]? = some t → args[j]? = some v → Value.okWide Try.prog W .any base t v := hval0
  have hW' := hW
  obtain ⟨p, q, hA0, hV, rfl, hfz, hnd⟩ := hW
  have hA : DataW.TrodAll enc Try.prog W 0 (fun _ => true) true Try.f8.params.toList args.toList ds p := hA0
  rw [Try.params8] at hA hval
  obtain ⟨v0, vs0, d0, ds0, p0, q0, hargs, rfl, rfl, h0, r0⟩ := trodAll_cons hA
  obtain ⟨rfl, rfl, rfl⟩ := trodAll_nil r0
  obtain rfl : args = #[v0] := by cases args; simp_all
  obtain ⟨rfl, rfl⟩ := trodVars_none hV
  obtain ⟨a0, len0, cap0, rfl⟩ := okWide_slice Try.underlying38 (hval 0 38 v0 rfl rfl)
  have k0 := h0
  have lt0 : ∀ x ∈ p0, x.block < W.heap.size := by obtain ⟨m, hm⟩ := k0; exact DataW.trod_lt m _ _ _ hm
  obtain ⟨f0, g0, m0, s0⟩ : ∃ fs, ArgF W W.heap.size a0 len0 fs ∧ len0 ≤ maxLen ∧ ∀ i, i < len0 → (nameAt fs i).size ≤ maxLen ∧ (valAt fs i).size ≤ maxLen := by
    obtain ⟨fuel, hf⟩ := h0
    exact openFields (by simpa [Value.cells] using hf)
  clear hA0 hval0
  refine (walk1 W a0 len0 cap0 f0 g0 m0 s0).mono fun e W' ⟨he, bel⟩ => ?_
  subst he
  exact ⟨_, rfl, _, _, _, [], _, [], hW', trodAll_mk1 (shut_bool Try.underlying4 _), (trodAll_cons_mk (Below.trod laidOut (by kernel_rfl) (of_decide_eq_true (by kernel_rfl)) k0 bel lt0) trodAll_mk0), rfl, bel.frame _, fun h => by cases h⟩

theorem over : Rows.fnExactLifeRow.holds Try.pinned (OpenSpec.ofChange Rows.fnExactLifeSpec) :=
  OpenClaim.holds_of_wide 8 Try.f8 rfl rfl rfl rfl rfl rfl rfl ⟨rfl, rfl, rfl, rfl, rfl⟩ rfl rfl rfl rfl rfl (by kernel_rfl) Try.func8 (by kernel_rfl)
    (of_decide_eq_true (by kernel_rfl)) (by unfold Func.isWrapper; first | (rw [if_pos (by decide +kernel)]; kernel_rfl) | (rw [if_neg (by decide +kernel)]; exact ⟨rfl, rfl⟩))
    (fun os started H enc _ => lifted os started H enc)
end fnExactLife

theorem fnExactLife_holds : Rows.FnExactLifeSaid := fnExactLife.over
#print axioms fnExactLife_holds
end Go.Proofs.Ytnlifhmobmgpcaa
