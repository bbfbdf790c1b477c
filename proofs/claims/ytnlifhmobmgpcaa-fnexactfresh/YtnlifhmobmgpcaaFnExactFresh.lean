/- Fresh: at every list of fields and every time the program answers as the specification (the law answers true), and writes into no argument: no condition. -/
import Derived.Test.YtnlifhmobmgpcaaAgeImpl
import Derived.Test.YtnlifhmobmgpcaaCtlLaw
import Derived.Test.YtnlifhmobmgpcaaFieldLaw
import Derived.Test.YtnlifhmobmgpcaaFieldOpen
import Derived.Test.YtnlifhmobmgpcaaRows
import Derived.WalkKit
import Derived.ProofKit
import Derived.OpenShut
import Derived.ShutString
import Derived.ChangeOld
import Derived.Below
import Derived.Deep.RegionHeld3
import Derived.Deep.DrawnRows
namespace Go.Proofs.Ytnlifhmobmgpcaa
namespace fnExactFresh
open Go.ChangeShapes Go.WideShapes Go.ChangeAt Go.RowKit
open Go.ChangeMaps (open_string shut_string)
attribute [local go_sem ↓] Go.wp_at_zero Go.wp_at_succ

theorem own : ownKnob Try.prog.godebug = none := by kernel_rfl
theorem laidOut : laidOutB Try.prog = true := by kernel_rfl

set_option maxHeartbeats 4000000 in
set_option maxRecDepth 100000 in
theorem walk1 (w : World) (a : Option Addr) (n cap : Nat) (fs : List (ByteArray × ByteArray)) (harg : ArgF w w.heap.size a n fs) (hn : n ≤ maxLen) (hs : ∀ i, i < n → (nameAt fs i).size ≤ maxLen ∧ (valAt fs i).size ≤ maxLen) (t : Int) (ht0 : -9223372036854775808 ≤ t) (_ : t ≤ 9223372036854775807) (now : Int) (_ : -9223372036854775808 ≤ now) (hnow1 : now ≤ 9223372036854775807) :
    Calls Try.prog 9 #[.slice a n cap, .int .i64 t, .int .i64 now] w fun e w' => e = .returned (.bool true) ∧ Below w.heap.size w w' := by
  have HA : Hid (∀ W, Below w.heap.size w W → ArgF W w.heap.size a n fs) := fun W h => harg.below h
  have hlen := harg.len
  go_enter Try.func9, Try.ntmps9
  go_wp2_with fail
  refine (szFieldS_any w.heap.size a n cap fs _ harg (Nat.le_refl _) hn hs).mono ?_
  rintro e w1 ⟨r0, rfl, hr, hb1⟩
  clear harg hs
  by_cases hr0 : r0 < 0
  · clear hr
    go_wp2_with fail
    go_ret
    exact ⟨rfl, hb1⟩
  obtain ⟨hn1, hz1⟩ := hr (by omega)
  have HC : Hid (CopyF fs) := fun i hi => by
    have := szTo_get fs n i (by omega)
    omega
  have HG : Hid (∀ x, (getV fs x).size ≤ 1048576) := fun x => by
    unfold getV
    split
    · rename_i h
      have := szTo_get fs n (atF fs x) (by omega)
      omega
    · decide
  clear hr hn
  have HGM : Hid (∀ x, (getV fs x).size ≤ maxLen) := fun x => by have := HG.out x; unfold maxLen; omega
  obtain ⟨p, hp⟩ : ∃ p, p = freshOf fs t now := ⟨_, rfl⟩
  have HP : Hid (freshOf fs t now = p) := hp.symm
  have HS : Hid (∀ (v : Value) (base : Nat) (W : World), FieldsV W base v n fs → Calls Try.prog 14 #[v, .int .i64 t, .int .i64 now] W fun e w' => e = .returned (.bool p) ∧ Below W.heap.size W w') := fun v base W h => by rw [hp]; exact specFresh_any v n base fs t now W h (by omega) (HGM.out _) (HG.out _) ht0 hnow1
  have HI : Hid (∀ (v : Value) (base : Nat) (W : World), FieldsV W base v n fs → Calls Try.prog 12 #[v, .int .i64 t, .int .i64 now] W fun e w' => e = .returned (.bool p) ∧ Below W.heap.size W w') := fun v base W h => by rw [hp]; exact implFresh_any v n base fs t now W h (by omega) HC.out (HGM.out _) (HG.out _) ht0 hnow1
  have t1 : (p != p) = false := by simp
  clear hp HP
  go_wp2_with fail
  refine (toFieldS_any w.heap.size a n cap fs _ (HA.out w1 hb1) hb1.size hn1).mono ?_
  rintro e w2 ⟨tv, rfl, own1, b2⟩
  have hb2 : Below w.heap.size w w2 := hb1.trans (b2.mono hb1.size)
  clear hb1 b2
  go_wp2_with fail
  refine (HS.out tv _ _ (FieldsV.of_owns own1)).mono ?_
  rintro e w3 ⟨rfl, b3⟩
  have hb3 : Below w.heap.size w w3 := hb2.trans (b3.mono hb2.size)
  clear hb2 b3 own1
  go_wp2_with fail
  refine (toFieldS_any w.heap.size a n cap fs _ (HA.out w3 hb3) hb3.size hn1).mono ?_
  rintro e w4 ⟨x0, rfl, ownx, b4⟩
  have hb4 : Below w.heap.size w w4 := hb3.trans (b4.mono hb3.size)
  have HX : Hid (FieldsV w4 w3.heap.size x0 n fs) := FieldsV.of_owns ownx
  clear hb3 b4 ownx
  go_wp2_with fail
  refine (HI.out x0 _ _ HX.out).mono ?_
  rintro e w5 ⟨rfl, b5⟩
  have hb5 : Below w.heap.size w w5 := hb4.trans (b5.mono hb4.size)
  have HX5 : Hid (FieldsV w5 w3.heap.size x0 n fs) := HX.out.below b5
  clear hb4 b5 HX
  go_wp2_with fail
  refine (toFieldS_any w.heap.size a n cap fs _ (HA.out w5 hb5) hb5.size hn1).mono ?_
  rintro e w6 ⟨t3, rfl, own3, b6⟩
  have hb6 : Below w.heap.size w w6 := hb5.trans (b6.mono hb5.size)
  have HX6 : Hid (FieldsV w6 w3.heap.size x0 n fs) := HX5.out.below b6
  clear hb5 b6 HX5
  go_wp2_with fail
  refine (eqFieldS_any x0 t3 n _ _ fs _ HX6.out (FieldsV.of_owns own3) (by omega)).mono ?_
  rintro e w7 ⟨rfl, b7⟩
  have hb7 : Below w.heap.size w w7 := hb6.trans (b7.mono hb6.size)
  clear hb6 b7 own3 HX6
  go_wp2_with fail
  go_ret
  exact ⟨rfl, hb7⟩

set_option maxRecDepth 100000 in
theorem lifted (os : Os) (started : os.Started) (H : Type) (enc : TypeId × Value → H) :
    ReturnsInHanded {} Try.checked os 9 .any (Rows.fnExactFreshSpec.pre6 enc Try.prog Try.f9 Rows.fnExactFreshRow.domain false) (Rows.fnExactFreshSpec.post enc Try.prog Try.f9 false true false false) := by
  refine returnsInHanded_of_change (C := Try.checked) own started (by kernel_rfl) Try.func9
    (ChangeSpec.witness6 (enc := enc) (C := Try.checked) false ⟨#[], #[.slice none 0 0, .int .i64 0, .int .i64 0], []⟩ 8 (by kernel_rfl) (by kernel_rfl) (by kernel_rfl) (by kernel_rfl)) ?_
  intro W base args ds gs before hval0 hW _ _
  have hval : ∀ (j : Nat) t v, Try.f9.params[j]? = some t → args[j]? = some v → Value.okWide Try.prog W .any base t v := hval0
  have hW' := hW
  obtain ⟨p, q, hA0, hV, rfl, hfz, hnd⟩ := hW
  have hA : DataW.TrodAll enc Try.prog W 0 (fun _ => true) true Try.f9.params.toList args.toList ds p := hA0
  rw [Try.params9] at hA hval
  obtain ⟨v0, vs0, d0, ds0, p0, q0, hargs, rfl, rfl, h0, r0⟩ := trodAll_cons hA
  obtain ⟨v1, vs1, d1, ds1, p1, q1, hargs1, rfl, rfl, h1, r1⟩ := trodAll_cons r0
  obtain ⟨v2, vs2, d2, ds2, p2, q2, hargs2, rfl, rfl, h2, r2⟩ := trodAll_cons r1
  obtain ⟨rfl, rfl, rfl⟩ := trodAll_nil r2
  obtain rfl : args = #[v0, v1, v2] := by cases args; simp_all
  obtain ⟨rfl, rfl⟩ := trodVars_none hV
  obtain ⟨a0, len0, cap0, rfl⟩ := okWide_slice Try.underlying38 (hval 0 38 v0 rfl rfl)
  have k0 := h0
  have lt0 : ∀ x ∈ p0, x.block < W.heap.size := by obtain ⟨m, hm⟩ := k0; exact DataW.trod_lt m _ _ _ hm
  obtain ⟨f0, g0, m0, s0⟩ : ∃ fs, ArgF W W.heap.size a0 len0 fs ∧ len0 ≤ maxLen ∧ ∀ i, i < len0 → (nameAt fs i).size ≤ maxLen ∧ (valAt fs i).size ≤ maxLen := by
    obtain ⟨fuel, hf⟩ := h0
    exact openFields (by simpa [Value.cells] using hf)
  obtain ⟨a1, rfl, rfl, rfl, w1⟩ := open_int Try.underlying3 (hval 1 3 v1 rfl rfl) h1
  have bd1 := bounds_i64 w1
  obtain ⟨a2, rfl, rfl, rfl, w2⟩ := open_int Try.underlying3 (hval 2 3 v2 rfl rfl) h2
  have bd2 := bounds_i64 w2
  clear hA0 hval0
  simp only [List.append_nil] at hW'
  refine (walk1 W a0 len0 cap0 f0 g0 m0 s0 a1 (by omega) (by omega) a2 (by omega) (by omega)).mono fun e W' ⟨he, bel⟩ => ?_
  subst he
  exact ⟨_, rfl, _, _, _, [], _, [], hW', trodAll_mk1 (shut_bool Try.underlying4 _), (trodAll_cons_mk (Below.trod laidOut (by kernel_rfl) (of_decide_eq_true (by kernel_rfl)) k0 bel lt0) (trodAll_cons_mk (shut_int Try.underlying3 w1) (trodAll_cons_mk (shut_int Try.underlying3 w2) trodAll_mk0))), rfl, bel.frame _, fun h => by cases h⟩

theorem over : Rows.fnExactFreshRow.holds Try.pinned (OpenSpec.ofChange Rows.fnExactFreshSpec) :=
  OpenClaim.holds_of_wide 9 Try.f9 rfl rfl rfl rfl rfl rfl rfl ⟨rfl, rfl, rfl, rfl, rfl⟩ rfl rfl rfl rfl rfl (by kernel_rfl) Try.func9 (by kernel_rfl)
    (of_decide_eq_true (by kernel_rfl)) (by unfold Func.isWrapper; first | (rw [if_pos (by decide +kernel)]; kernel_rfl) | (rw [if_neg (by decide +kernel)]; exact ⟨rfl, rfl⟩))
    (fun os started H enc _ => lifted os started H enc)
end fnExactFresh

theorem fnExactFresh_holds : Rows.FnExactFreshSaid := fnExactFresh.over
#print axioms fnExactFresh_holds
end Go.Proofs.Ytnlifhmobmgpcaa
