/- 'Get' answers as the specification's (the law answers true), writes into no argument and owns its answer's memory, and the arguments read as they did: for every list of fields, no condition. -/
import Derived.Test.YtnabeailjbghjaaFieldMark
import Derived.Test.YtnabeailjbghjaaRows
import Derived.WalkKit
import Derived.ProofKit
import Derived.OpenShut
import Derived.ShutString
import Derived.ChangeOld
import Derived.Below
namespace Go.Proofs.Ytnabeailjbghjaa
namespace fnExactGet
open Go.ChangeShapes Go.WideShapes Go.ChangeAt Go.RowKit
open Go.ChangeMaps (open_string shut_string)

theorem own : ownKnob Try.prog.godebug = none := by kernel_rfl
theorem laidOut : laidOutB Try.prog = true := by kernel_rfl

set_option maxHeartbeats 2000000 in
theorem walk1 (w : World) (a : Option Addr) (n cap : Nat) (fs : List (ByteArray × ByteArray)) (harg : ArgF w w.heap.size a n fs) (hn : n ≤ maxLen) (hs : ∀ i, i < n → (nameAt fs i).size ≤ maxLen ∧ (valAt fs i).size ≤ maxLen) (s1 : ByteArray) (_hs1 : s1.size ≤ maxLen) :
    Calls Try.prog 5 #[.slice a n cap, .string s1] w fun e w' => e = .returned (.bool true) ∧ Below w.heap.size w w' := by
  by_cases hbig1 : (1048576 : Int) < (s1.size : Int)
  · clear hs harg
    go_enter Try.func5, Try.ntmps5
    go_wp2_with fail
    go_ret
    exact ⟨rfl, Below.refl _ _⟩
  · skip
    have HA : Hid (∀ W, Below w.heap.size w W → ArgF W w.heap.size a n fs) := fun W h => harg.below h
    have hlen := harg.len
    go_enter Try.func5, Try.ntmps5
    go_wp2_with fail
    refine (szFieldS_any w.heap.size a n cap fs _ harg (Nat.le_refl _) hn hs).mono ?_
    rintro e w1 ⟨r, rfl, hr, hb1⟩
    clear harg hs
    by_cases hr0 : r < 0
    · clear hr
      go_wp2_with fail
      go_ret
      exact ⟨rfl, hb1⟩
    · obtain ⟨hn1, hz1⟩ := hr (by omega)
      have HC : Hid (CopyF fs) := fun i hi => by
        have := szTo_get fs n i (by omega)
        omega
      clear hr hn
      go_wp2_with fail
      refine (toFieldS_any w.heap.size a n cap fs _ (HA.out w1 hb1) hb1.size hn1).mono ?_
      rintro e w2 ⟨t1, rfl, own1, b2⟩
      have hb2 : Below w.heap.size w w2 := hb1.trans (b2.mono hb1.size)
      clear hb1 b2
      go_wp2_with fail
      refine (specGet_any t1 n _ fs s1 _ (FieldsV.of_owns own1) (by omega)).mono ?_
      rintro e w3 ⟨rfl, rfl⟩
      have hb3 := hb2
      clear hb2
      clear own1
      go_wp2_with fail
      refine (toFieldS_any w.heap.size a n cap fs _ (HA.out w3 hb3) hb3.size hn1).mono ?_
      rintro e w4 ⟨x, rfl, ownx, b4⟩
      have hb4 : Below w.heap.size w w4 := hb3.trans (b4.mono hb3.size)
      have HX : Hid (FieldsV w4 w3.heap.size x n fs) := FieldsV.of_owns ownx
      clear hb3 b4 ownx
      go_wp2_with fail
      refine (implGet_any x n _ fs s1 _ HX.out (by omega) HC.out).mono ?_
      rintro e w5 ⟨rfl, b5⟩
      have hb5 : Below w.heap.size w w5 := hb4.trans (b5.mono hb4.size)
      have HX5 : Hid (FieldsV w5 w3.heap.size x n fs) := HX.out.below b5
      clear hb4 b5 HX
      obtain ⟨gv, hgv⟩ : ∃ y, y = getV fs s1 := ⟨_, rfl⟩
      obtain ⟨gb, hgb⟩ : ∃ y, y = getB fs s1 := ⟨_, rfl⟩
      rw [← hgv, ← hgb]
      clear hgv hgb
      have t1 : (gv.toList == gv.toList) = true := by simp
      have t2 : (gb != gb) = false := by simp
      go_wp2_with fail
      refine (toFieldS_any w.heap.size a n cap fs _ (HA.out w5 hb5) hb5.size hn1).mono ?_
      rintro e w6 ⟨t3, rfl, own3, b6⟩
      have hb6 : Below w.heap.size w w6 := hb5.trans (b6.mono hb5.size)
      have HX6 : Hid (FieldsV w6 w3.heap.size x n fs) := HX5.out.below b6
      clear hb5 b6 HX5
      go_wp2_with fail
      refine (eqFieldS_any x t3 n _ _ fs _ HX6.out (FieldsV.of_owns own3) (by omega)).mono ?_
      rintro e w7 ⟨rfl, b7⟩
      have hb7 : Below w.heap.size w w7 := hb6.trans (b7.mono hb6.size)
      clear hb6 b7 own3 HX6
      go_wp2_with fail
      go_ret
      exact ⟨rfl, hb7⟩
theorem walk (a : Option Addr) (n cap : Nat) (fs : List (ByteArray × ByteArray)) {W : World} (harg : ArgF W W.heap.size a n fs) (hn : n ≤ maxLen) (hs : ∀ i, i < n → (nameAt fs i).size ≤ maxLen ∧ (valAt fs i).size ≤ maxLen) (s1 : ByteArray) (hs1 : s1.size ≤ maxLen) (w : World) (hw : W = w := by rfl) :
    Calls Try.prog 5 #[.slice a n cap, .string s1] w fun e w' => e = .returned (.bool true) ∧ Below w.heap.size w w' := by
  subst hw; exact walk1 W a n cap fs harg hn hs s1 hs1


set_option maxRecDepth 100000 in
theorem lifted (os : Os) (started : os.Started) (H : Type) (enc : TypeId × Value → H) :
    ReturnsInHanded {} Try.checked os 5 .any (Rows.fnExactGetSpec.pre6 enc Try.prog Try.f5 Rows.fnExactGetRow.domain false) (Rows.fnExactGetSpec.post enc Try.prog Try.f5 false true false false) := by
  refine returnsInHanded_of_change (C := Try.checked) own started (by kernel_rfl) Try.func5
    (ChangeSpec.witness6 (enc := enc) (C := Try.checked) false ⟨#[], #[.slice none 0 0, .string ByteArray.empty], []⟩ 8 (by kernel_rfl) (by kernel_rfl) (by kernel_rfl) (by kernel_rfl)) ?_
  intro W base args ds gs before hval0 hW _ _
  have hval : ∀ (j : Nat) t v, Try.f5.params[j]? = some t → args[j]? = some v → Value.okWide Try.prog W .any base t v := hval0
  have hW' := hW
  obtain ⟨p, q, hA0, hV, rfl, hfz, hnd⟩ := hW
  have hA : DataW.TrodAll enc Try.prog W 0 (fun _ => true) true Try.f5.params.toList args.toList ds p := hA0
  rw [Try.params5] at hA hval
  obtain ⟨v0, vs0, d0, ds0, p0, q0, hargs, rfl, rfl, h0, r0⟩ := trodAll_cons hA
  obtain ⟨v1, vs1, d1, ds1, p1, q1, hargs1, rfl, rfl, h1, r1⟩ := trodAll_cons r0
  obtain ⟨rfl, rfl, rfl⟩ := trodAll_nil r1
  obtain rfl : args = #[v0, v1] := by cases args; simp_all
  obtain ⟨rfl, rfl⟩ := trodVars_none hV
  obtain ⟨a0, len0, cap0, rfl⟩ := okWide_slice Try.underlying38 (hval 0 38 v0 rfl rfl)
  have k0 := h0
  have lt0 : ∀ x ∈ p0, x.block < W.heap.size := by obtain ⟨m, hm⟩ := k0; exact DataW.trod_lt m _ _ _ hm
  obtain ⟨f0, g0, m0, s0⟩ : ∃ fs, ArgF W W.heap.size a0 len0 fs ∧ len0 ≤ maxLen ∧ ∀ i, i < len0 → (nameAt fs i).size ≤ maxLen ∧ (valAt fs i).size ≤ maxLen := by
    obtain ⟨fuel, hf⟩ := h0
    exact openFields (by simpa [Value.cells] using hf)
  obtain ⟨a1, rfl, rfl, rfl, w1⟩ := open_string Try.underlying9 (hval 1 9 v1 rfl rfl) h1
  clear hA0 hval0
  simp only [List.append_nil] at hW'
  refine (walk a0 len0 cap0 f0 g0 m0 s0 a1 w1 W).mono fun e W' ⟨he, bel⟩ => ?_
  subst he
  exact ⟨_, rfl, _, _, _, [], _, [], hW', trodAll_mk1 (shut_bool Try.underlying4 _), (trodAll_cons_mk (Below.trod laidOut (by kernel_rfl) (of_decide_eq_true (by kernel_rfl)) k0 bel lt0) (trodAll_cons_mk (shut_string Try.underlying9 w1) trodAll_mk0)), rfl, bel.frame _, fun h => by cases h⟩

theorem over : Rows.fnExactGetRow.holds Try.pinned (OpenSpec.ofChange Rows.fnExactGetSpec) :=
  OpenClaim.holds_of_wide 5 Try.f5 rfl rfl rfl rfl rfl rfl rfl ⟨rfl, rfl, rfl, rfl, rfl⟩ rfl rfl rfl rfl rfl (by kernel_rfl) Try.func5 (by kernel_rfl)
    (of_decide_eq_true (by kernel_rfl)) (by unfold Func.isWrapper; first | (rw [if_pos (by decide +kernel)]; kernel_rfl) | (rw [if_neg (by decide +kernel)]; exact ⟨rfl, rfl⟩))
    (fun os started H enc _ => lifted os started H enc)
end fnExactGet

theorem fnExactGet_holds : Rows.FnExactGetSaid := fnExactGet.over
#print axioms fnExactGet_holds
end Go.Proofs.Ytnabeailjbghjaa
