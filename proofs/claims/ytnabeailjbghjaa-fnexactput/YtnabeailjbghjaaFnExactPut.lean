/- 'Put' answers as the specification's (the law answers true), writes into no argument and owns its answer's memory, and the arguments read as they did: for every list of fields, no condition. -/
import Derived.Test.YtnabeailjbghjaaFieldMark
import Derived.Test.YtnabeailjbghjaaRows
import Derived.WalkKit
import Derived.ProofKit
import Derived.OpenShut
import Derived.ShutString
import Derived.ChangeOld
import Derived.Below
namespace Go.Proofs.Ytnabeailjbghjaa
namespace fnExactPut
open Go.ChangeShapes Go.WideShapes Go.ChangeAt Go.RowKit
open Go.ChangeMaps (open_string shut_string)

theorem own : ownKnob Try.prog.godebug = none := by kernel_rfl
theorem laidOut : laidOutB Try.prog = true := by kernel_rfl

set_option maxHeartbeats 2000000 in
theorem walk1 (w : World) (a : Option Addr) (n cap : Nat) (fs : List (ByteArray × ByteArray)) (harg : ArgF w w.heap.size a n fs) (hn : n ≤ maxLen) (hs : ∀ i, i < n → (nameAt fs i).size ≤ maxLen ∧ (valAt fs i).size ≤ maxLen) (s1 : ByteArray) (_hs1 : s1.size ≤ maxLen) (s2 : ByteArray) (_hs2 : s2.size ≤ maxLen) :
    Calls Try.prog 6 #[.slice a n cap, .string s1, .string s2] w fun e w' => e = .returned (.bool true) ∧ Below w.heap.size w w' := by
  by_cases hbig1 : (1048576 : Int) < (s1.size : Int)
  · clear hs harg
    go_enter Try.func6, Try.ntmps6
    go_wp2_with fail
    go_ret
    exact ⟨rfl, Below.refl _ _⟩
  · skip
    by_cases hbig2 : (1048576 : Int) < (s2.size : Int)
    · clear hs harg
      go_enter Try.func6, Try.ntmps6
      go_wp2_with fail
      go_ret
      exact ⟨rfl, Below.refl _ _⟩
    · skip
      have HA : Hid (∀ W, Below w.heap.size w W → ArgF W w.heap.size a n fs) := fun W h => harg.below h
      have hlen := harg.len
      go_enter Try.func6, Try.ntmps6
      go_wp2_with fail
      refine (szFieldS_any w.heap.size a n cap fs _ harg (Nat.le_refl _) hn hs).mono ?_
      rintro e w1 ⟨r, rfl, hr, hb1⟩
      clear harg hs
      by_cases hr0 : r < 0
      · clear hr
        go_wp2_with fail
        go_ret
        exact ⟨rfl, hb1⟩
      · obtain ⟨hn1, hz1⟩ := hr (by omega)
        have HC : Hid (CopyF fs) := fun i hi => by
          have := szTo_get fs n i (by omega)
          omega
        clear hr hn
        obtain ⟨P, hP⟩ : ∃ P, P = putF fs s1 s2 := ⟨_, rfl⟩
        obtain ⟨np, hnp⟩ : ∃ m, m = P.length := ⟨_, rfl⟩
        have hnp2 : np ≤ 1048577 := by
          rw [hnp, hP]
          unfold putF
          split
          · rw [List.length_set]; omega
          · rw [List.length_append]; simp; omega
        go_wp2_with fail
        refine (toFieldS_any w.heap.size a n cap fs _ (HA.out w1 hb1) hb1.size hn1).mono ?_
        rintro e w2 ⟨t1, rfl, own1, b2⟩
        have hb2 : Below w.heap.size w w2 := hb1.trans (b2.mono hb1.size)
        clear hb1 b2
        go_wp2_with fail
        refine (specPut_any t1 n _ fs s1 s2 _ (FieldsV.of_owns own1) (by omega)).mono ?_
        rintro e w3 ⟨s0, rfl, own0, b3⟩
        rw [← hP, ← hnp] at own0
        have hb3 : Below w.heap.size w w3 := hb2.trans (b3.mono hb2.size)
        have HS3 : Hid (w3.ownsRow w.heap.size 33 2 s0 np (flatF P)) := owns_wide own0 hb2.size
        clear own0 own1 b3 hb2
        go_wp2_with fail
        refine (toFieldS_any w.heap.size a n cap fs _ (HA.out w3 hb3) hb3.size hn1).mono ?_
        rintro e w4 ⟨x, rfl, ownx, b4⟩
        have hb4 : Below w.heap.size w w4 := hb3.trans (b4.mono hb3.size)
        have HX4 : Hid (w4.ownsRow w.heap.size 33 2 x n (flatF fs)) := owns_wide ownx hb3.size
        have XLO : Hid (∀ j, x.ownBlock = some j → w3.heap.size ≤ j) := fun j hj => owns_ge ownx hj
        have SHI : Hid (∀ j, s0.ownBlock = some j → j < w3.heap.size) := fun j hj => owns_lt HS3.out hj
        have h34 : w3.heap.size ≤ w4.heap.size := b4.size
        have HS4 : Hid (w4.ownsRow w.heap.size 33 2 s0 np (flatF P)) := owns_below HS3.out b4 (fun g hg => owns_lt HS3.out hg)
        clear b4 ownx HS3 hb3
        go_wp2_with fail
        refine (implPut_any x n _ fs s1 s2 _ (FieldsV.of_owns HX4.out) (by omega) HC.out (by omega) (by omega)).mono ?_
        rintro e w5 ⟨g0, rfl, owng, b5⟩
        rw [← hP, ← hnp] at owng
        have hb5 : Below w.heap.size w w5 := hb4.trans (b5.mono hb4.size)
        have HG5 : Hid (w5.ownsRow w.heap.size 33 2 g0 np (flatF P)) := owns_wide owng hb4.size
        have XHI : Hid (∀ j, x.ownBlock = some j → j < w4.heap.size) := fun j hj => owns_lt HX4.out hj
        have GLO : Hid (∀ j, g0.ownBlock = some j → w4.heap.size ≤ j) := fun j hj => owns_ge owng hj
        have HS5 : Hid (w5.ownsRow w.heap.size 33 2 s0 np (flatF P)) := owns_below HS4.out b5 (fun g hg => owns_lt HS4.out hg)
        have HX5 : Hid (w5.ownsRow w.heap.size 33 2 x n (flatF fs)) := owns_below HX4.out b5 (fun g hg => owns_lt HX4.out hg)
        clear b5 owng HS4 HX4 hb4
        go_wp2_with fail
        refine (eqFieldS_any g0 s0 np _ _ P _ (FieldsV.of_owns HG5.out) (FieldsV.of_owns HS5.out) (by omega)).mono ?_
        rintro e w6 ⟨rfl, b6⟩
        have hb6 : Below w.heap.size w w6 := hb5.trans (b6.mono hb5.size)
        have HS6 : Hid (w6.ownsRow w.heap.size 33 2 s0 np (flatF P)) := owns_below HS5.out b6 (fun g hg => owns_lt HS5.out hg)
        have HX6 : Hid (w6.ownsRow w.heap.size 33 2 x n (flatF fs)) := owns_below HX5.out b6 (fun g hg => owns_lt HX5.out hg)
        have HG6 : Hid (w6.ownsRow w.heap.size 33 2 g0 np (flatF P)) := owns_below HG5.out b6 (fun g hg => owns_lt HG5.out hg)
        clear b6 HS5 HX5 HG5 hb5
        go_wp2_with fail
        refine (toFieldS_any w.heap.size a n cap fs _ (HA.out w6 hb6) hb6.size hn1).mono ?_
        rintro e w7 ⟨t2, rfl, own2, b7⟩
        have hb7 : Below w.heap.size w w7 := hb6.trans (b7.mono hb6.size)
        have HS7 : Hid (w7.ownsRow w.heap.size 33 2 s0 np (flatF P)) := owns_below HS6.out b7 (fun g hg => owns_lt HS6.out hg)
        have HX7 : Hid (w7.ownsRow w.heap.size 33 2 x n (flatF fs)) := owns_below HX6.out b7 (fun g hg => owns_lt HX6.out hg)
        have HG7 : Hid (w7.ownsRow w.heap.size 33 2 g0 np (flatF P)) := owns_below HG6.out b7 (fun g hg => owns_lt HG6.out hg)
        clear b7 HS6 HX6 HG6 hb6
        go_wp2_with fail
        refine (eqFieldS_any x t2 n _ _ fs _ (FieldsV.of_owns HX7.out) (FieldsV.of_owns own2) (by omega)).mono ?_
        rintro e w8 ⟨rfl, b8⟩
        have hb8 : Below w.heap.size w w8 := hb7.trans (b8.mono hb7.size)
        have HS8 : Hid (w8.ownsRow w.heap.size 33 2 s0 np (flatF P)) := owns_below HS7.out b8 (fun g hg => owns_lt HS7.out hg)
        have HX8 : Hid (w8.ownsRow w.heap.size 33 2 x n (flatF fs)) := owns_below HX7.out b8 (fun g hg => owns_lt HX7.out hg)
        have HG8 : Hid (w8.ownsRow w.heap.size 33 2 g0 np (flatF P)) := owns_below HG7.out b8 (fun g hg => owns_lt HG7.out hg)
        clear b8 HS7 HX7 HG7 hb7 own2
        go_wp2_with fail
        refine (markFar_any x n w.heap.size fs _ HX8.out hb8.size (by omega)).mono ?_
        rintro e w9 ⟨rfl, _, b9, far9⟩
        have hb9 : Below w.heap.size w w9 := hb8.trans b9
        have HS9 : Hid (w9.ownsRow w.heap.size 33 2 s0 np (flatF P)) := owns_same HS8.out (fun j hj => far9 j (owns_lt HS8.out hj) (fun e => by have h1 := SHI.out j hj; have h2 := XLO.out j e; omega))
        have HG9 : Hid (w9.ownsRow w.heap.size 33 2 g0 np (flatF P)) := owns_same HG8.out (fun j hj => far9 j (owns_lt HG8.out hj) (fun e => by have h1 := GLO.out j hj; have h2 := XHI.out j e; omega))
        clear b9 far9 HS8 HX8 HG8 hb8
        have hk1 : ¬ (2 * (n : Int) + 1 < 0) := by omega
        go_wp2_with fail
        refine (eqFieldS_any g0 s0 np _ _ P _ (FieldsV.of_owns HG9.out) (FieldsV.of_owns HS9.out) (by omega)).mono ?_
        rintro e w10 ⟨rfl, b10⟩
        have hb10 : Below w.heap.size w w10 := hb9.trans (b10.mono hb9.size)
        have HS10 : Hid (w10.ownsRow w.heap.size 33 2 s0 np (flatF P)) := owns_below HS9.out b10 (fun g hg => owns_lt HS9.out hg)
        have HG10 : Hid (w10.ownsRow w.heap.size 33 2 g0 np (flatF P)) := owns_below HG9.out b10 (fun g hg => owns_lt HG9.out hg)
        clear b10 HS9 HG9 hb9 hk1
        go_wp2_with fail
        refine (markFar_any g0 np w.heap.size P _ HG10.out hb10.size (by omega)).mono ?_
        rintro e w11 ⟨rfl, hmk, b11, far11⟩
        have hb11 : Below w.heap.size w w11 := hb10.trans b11
        have HS11 : Hid (w11.ownsRow w.heap.size 33 2 s0 np (flatF P)) := owns_same HS10.out (fun j hj => far11 j (owns_lt HS10.out hj) (fun e => by have h1 := SHI.out j hj; have h2 := GLO.out j e; omega))
        have HM11 : Hid (w11.ownsRow w.heap.size 33 2 g0 np (flatF (mkF P np))) := hmk
        have HK : Hid (∀ j, j < np → nameAt (mkF P np) j = markOf (2 * j + 1) ∧ valAt (mkF P np) j = markOf (2 * j + 2)) := fun j hj => mkF_at P j np (by omega) hj
        clear b11 far11 HS10 HG10 hb10 hmk
        go_wp2_with fail
        refine (heldFieldS_any g0 np w.heap.size (mkF P np) _ HM11.out (by omega) HK.out).mono ?_
        rintro e w12 ⟨rfl, b12⟩
        have hb12 : Below w.heap.size w w12 := hb11.trans (b12.mono hb11.size)
        have HS12 : Hid (w12.ownsRow w.heap.size 33 2 s0 np (flatF P)) := owns_below HS11.out b12 (fun g hg => owns_lt HS11.out hg)
        have HM12 : Hid (w12.ownsRow w.heap.size 33 2 g0 np (flatF (mkF P np))) := owns_below HM11.out b12 (fun g hg => owns_lt HM11.out hg)
        clear b12 HS11 HM11 hb11
        have hk2 : ¬ (2 * (np : Int) + 1 < 0) := by omega
        have hk3 : ((2 * (np : Int) + 1) != (2 * (np : Int) + 1)) = false := by simp
        go_wp2_with fail
        refine (toFieldS_any w.heap.size a n cap fs _ (HA.out w12 hb12) hb12.size hn1).mono ?_
        rintro e w13 ⟨t3, rfl, own3, b13⟩
        have hb13 : Below w.heap.size w w13 := hb12.trans (b13.mono hb12.size)
        have HS13 : Hid (w13.ownsRow w.heap.size 33 2 s0 np (flatF P)) := owns_below HS12.out b13 (fun g hg => owns_lt HS12.out hg)
        have HM13 : Hid (w13.ownsRow w.heap.size 33 2 g0 np (flatF (mkF P np))) := owns_below HM12.out b13 (fun g hg => owns_lt HM12.out hg)
        clear b13 HS12 HM12 hb12
        go_wp2_with fail
        refine (implPut_any t3 n _ fs s1 s2 _ (FieldsV.of_owns own3) (by omega) HC.out (by omega) (by omega)).mono ?_
        rintro e w14 ⟨h0, rfl, ownh, b14⟩
        rw [← hP, ← hnp] at ownh
        have hb14 : Below w.heap.size w w14 := hb13.trans (b14.mono hb13.size)
        have HS14 : Hid (w14.ownsRow w.heap.size 33 2 s0 np (flatF P)) := owns_below HS13.out b14 (fun g hg => owns_lt HS13.out hg)
        have HM14 : Hid (w14.ownsRow w.heap.size 33 2 g0 np (flatF (mkF P np))) := owns_below HM13.out b14 (fun g hg => owns_lt HM13.out hg)
        clear b14 HS13 HM13 hb13 own3
        go_wp2_with fail
        refine (eqFieldS_any h0 s0 np _ _ P _ (FieldsV.of_owns ownh) (FieldsV.of_owns HS14.out) (by omega)).mono ?_
        rintro e w15 ⟨rfl, b15⟩
        have hb15 : Below w.heap.size w w15 := hb14.trans (b15.mono hb14.size)
        have HM15 : Hid (w15.ownsRow w.heap.size 33 2 g0 np (flatF (mkF P np))) := owns_below HM14.out b15 (fun g hg => owns_lt HM14.out hg)
        clear b15 HS14 HM14 hb14 ownh
        go_wp2_with fail
        refine (heldFieldS_any g0 np w.heap.size (mkF P np) _ HM15.out (by omega) HK.out).mono ?_
        rintro e w16 ⟨rfl, b16⟩
        have hb16 : Below w.heap.size w w16 := hb15.trans (b16.mono hb15.size)
        clear b16 HM15 hb15
        go_wp2_with fail
        go_ret
        exact ⟨rfl, hb16⟩
theorem walk (a : Option Addr) (n cap : Nat) (fs : List (ByteArray × ByteArray)) {W : World} (harg : ArgF W W.heap.size a n fs) (hn : n ≤ maxLen) (hs : ∀ i, i < n → (nameAt fs i).size ≤ maxLen ∧ (valAt fs i).size ≤ maxLen) (s1 : ByteArray) (hs1 : s1.size ≤ maxLen) (s2 : ByteArray) (hs2 : s2.size ≤ maxLen) (w : World) (hw : W = w := by rfl) :
    Calls Try.prog 6 #[.slice a n cap, .string s1, .string s2] w fun e w' => e = .returned (.bool true) ∧ Below w.heap.size w w' := by
  subst hw; exact walk1 W a n cap fs harg hn hs s1 hs1 s2 hs2


set_option maxRecDepth 100000 in
theorem lifted (os : Os) (started : os.Started) (H : Type) (enc : TypeId × Value → H) :
    ReturnsInHanded {} Try.checked os 6 .any (Rows.fnExactPutSpec.pre6 enc Try.prog Try.f6 Rows.fnExactPutRow.domain false) (Rows.fnExactPutSpec.post enc Try.prog Try.f6 false true false false) := by
  refine returnsInHanded_of_change (C := Try.checked) own started (by kernel_rfl) Try.func6
    (ChangeSpec.witness6 (enc := enc) (C := Try.checked) false ⟨#[], #[.slice none 0 0, .string ByteArray.empty, .string ByteArray.empty], []⟩ 8 (by kernel_rfl) (by kernel_rfl) (by kernel_rfl) (by kernel_rfl)) ?_
  intro W base args ds gs before hval0 hW _ _
  have hval : ∀ (j : Nat) t v, Try.f6.params[j]? = some t → args[j]? = some v → Value.okWide Try.prog W .any base t v := hval0
  have hW' := hW
  obtain ⟨p, q, hA0, hV, rfl, hfz, hnd⟩ := hW
  have hA : DataW.TrodAll enc Try.prog W 0 (fun _ => true) true Try.f6.params.toList args.toList ds p := hA0
  rw [Try.params6] at hA hval
  obtain ⟨v0, vs0, d0, ds0, p0, q0, hargs, rfl, rfl, h0, r0⟩ := trodAll_cons hA
  obtain ⟨v1, vs1, d1, ds1, p1, q1, hargs1, rfl, rfl, h1, r1⟩ := trodAll_cons r0
  obtain ⟨v2, vs2, d2, ds2, p2, q2, hargs2, rfl, rfl, h2, r2⟩ := trodAll_cons r1
  obtain ⟨rfl, rfl, rfl⟩ := trodAll_nil r2
  obtain rfl : args = #[v0, v1, v2] := by cases args; simp_all
  obtain ⟨rfl, rfl⟩ := trodVars_none hV
  obtain ⟨a0, len0, cap0, rfl⟩ := okWide_slice Try.underlying38 (hval 0 38 v0 rfl rfl)
  have k0 := h0
  have lt0 : ∀ x ∈ p0, x.block < W.heap.size := by obtain ⟨m, hm⟩ := k0; exact DataW.trod_lt m _ _ _ hm
  obtain ⟨f0, g0, m0, s0⟩ : ∃ fs, ArgF W W.heap.size a0 len0 fs ∧ len0 ≤ maxLen ∧ ∀ i, i < len0 → (nameAt fs i).size ≤ maxLen ∧ (valAt fs i).size ≤ maxLen := by
    obtain ⟨fuel, hf⟩ := h0
    exact openFields (by simpa [Value.cells] using hf)
  obtain ⟨a1, rfl, rfl, rfl, w1⟩ := open_string Try.underlying9 (hval 1 9 v1 rfl rfl) h1
  obtain ⟨a2, rfl, rfl, rfl, w2⟩ := open_string Try.underlying9 (hval 2 9 v2 rfl rfl) h2
  clear hA0 hval0
  simp only [List.append_nil] at hW'
  refine (walk a0 len0 cap0 f0 g0 m0 s0 a1 w1 a2 w2 W).mono fun e W' ⟨he, bel⟩ => ?_
  subst he
  exact ⟨_, rfl, _, _, _, [], _, [], hW', trodAll_mk1 (shut_bool Try.underlying4 _), (trodAll_cons_mk (Below.trod laidOut (by kernel_rfl) (of_decide_eq_true (by kernel_rfl)) k0 bel lt0) (trodAll_cons_mk (shut_string Try.underlying9 w1) (trodAll_cons_mk (shut_string Try.underlying9 w2) trodAll_mk0))), rfl, bel.frame _, fun h => by cases h⟩

theorem over : Rows.fnExactPutRow.holds Try.pinned (OpenSpec.ofChange Rows.fnExactPutSpec) :=
  OpenClaim.holds_of_wide 6 Try.f6 rfl rfl rfl rfl rfl rfl rfl ⟨rfl, rfl, rfl, rfl, rfl⟩ rfl rfl rfl rfl rfl (by kernel_rfl) Try.func6 (by kernel_rfl)
    (of_decide_eq_true (by kernel_rfl)) (by unfold Func.isWrapper; first | (rw [if_pos (by decide +kernel)]; kernel_rfl) | (rw [if_neg (by decide +kernel)]; exact ⟨rfl, rfl⟩))
    (fun os started H enc _ => lifted os started H enc)
end fnExactPut

theorem fnExactPut_holds : Rows.FnExactPutSaid := fnExactPut.over
#print axioms fnExactPut_holds
end Go.Proofs.Ytnabeailjbghjaa
