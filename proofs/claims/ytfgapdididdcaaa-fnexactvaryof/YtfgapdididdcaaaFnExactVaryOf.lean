/- VaryOf: at every argument the program answers as the specification (the law answers true), it writes into no argument, and its answer owns its memory: no condition. -/
import Derived.Test.YtfgapdididdcaaaVaryImpl
import Derived.Test.YtfgapdididdcaaaVaryLaw
import Derived.Test.YtfgapdididdcaaaVarySuit
import Derived.Test.YtfgapdididdcaaaFieldFar
import Derived.Test.YtfgapdididdcaaaFieldRoom
import Derived.Test.YtfgapdididdcaaaStreamMark
import Derived.Test.YtfgapdididdcaaaRows
import Derived.WalkKit
import Derived.ProofKit
import Derived.OpenShut
import Derived.ShutString
import Derived.ChangeOld
import Derived.Below
import Derived.Deep.RegionHeld3
import Derived.Deep.DrawnRows
namespace Go.Proofs.Ytfgapdididdcaaa
namespace fnExactVaryOf
open Go.ChangeShapes Go.WideShapes Go.ChangeAt Go.RowKit
open Go.ChangeMaps (open_string shut_string)
attribute [local go_sem ↓] Go.wp_at_zero Go.wp_at_succ

theorem own : ownKnob Try.prog.godebug = none := by kernel_rfl
theorem laidOut : laidOutB Try.prog = true := by kernel_rfl
theorem below_grownO {B : Nat} {w w' : World} {r : Option Nat} (hg : w.grownBy w' r) (hB : B ≤ w.heap.size) (hr : ∀ g, r = some g → B ≤ g) : Below B w w' :=
  ⟨hg.os, hg.tape, hg.output, hg.size, fun k hk => hg.block k (Nat.lt_of_lt_of_le hk hB) (fun e => by have := hr k e.symm; omega)⟩

set_option maxHeartbeats 4000000 in
set_option maxRecDepth 100000 in
theorem walk1 (w : World) (a : Option Addr) (n cap : Nat) (fs : List (ByteArray × ByteArray)) (harg0 : ArgF w w.heap.size a n fs) (hn0 : n ≤ maxLen) (hs0 : ∀ i, i < n → (nameAt fs i).size ≤ maxLen ∧ (valAt fs i).size ≤ maxLen) :
    Calls Try.prog 4 #[.slice a n cap] w fun e w' => e = .returned (.bool true) ∧ Below w.heap.size w w' := by
  have HA0 : Hid (∀ W, Below w.heap.size w W → ArgF W w.heap.size a n fs) := fun W h => harg0.below h
  have HLEN0 : Hid (fs.length = n) := harg0.len
  clear harg0
  have hb0 : Below w.heap.size w w := Below.refl _ _
  go_enter Try.func4, Try.ntmps4
  go_wp2_with fail
  refine (szFieldS_room 1048576 (by omega) (by omega) w.heap.size a n cap fs _ (HA0.out _ hb0) hb0.size hn0 hs0).mono ?_
  rintro e w1 ⟨r0, rfl, hrl0, hr0, b⟩
  have hb1 : Below w.heap.size w w1 := hb0.trans (b.mono hb0.size)
  clear b hb0 hs0 hn0
  by_cases hq0 : r0 < 0
  · clear hr0
    go_wp2_with fail
    go_ret
    exact ⟨rfl, hb1⟩
  obtain ⟨hm0, hz0⟩ := hr0 (by omega)
  clear hr0
  have HC0 : Hid (CopyF fs) := fun i hi => by
    have := szTo_get fs n i (by rw [← HLEN0.out]; exact hi)
    omega
  have HG0 : Hid (∀ x, (getV fs x).size ≤ 1048576) := fun x => by
    unfold getV
    split
    · rename_i h
      have := szTo_get fs n (atF fs x) (by rw [← HLEN0.out]; exact h)
      omega
    · decide
  clear hz0
  clear hrl0
  obtain ⟨P, hP⟩ : ∃ P, P = varyP fs := ⟨_, rfl⟩
  obtain ⟨np, hnp⟩ : ∃ m, m = P.length := ⟨_, rfl⟩
  have hnp2 : np ≤ 1048577 := by
    rw [hnp, hP]
    unfold varyP
    rw [List.length_map]
    have := (splitL_le (getV fs varyName)).1
    have := HG0.out varyName
    omega
  have HS : Hid (∀ (u0 : Value) (B0 : Nat) (W : World), FieldsV W B0 u0 n fs → Calls Try.prog 17 #[u0] W fun e w' => ∃ v, e = .returned v ∧ w'.ownsRow W.heap.size 9 1 v np (P.map Value.string) ∧ Below W.heap.size W w') := by
    intro u0 B0 W h0
    rw [hnp, hP]
    exact specVaryOf_any u0 n B0 fs W h0 (by omega) (HG0.out _)
  have HI : Hid (∀ (u0 : Value) (B0 : Nat) (W : World), FieldsV W B0 u0 n fs → Calls Try.prog 16 #[u0] W fun e w' => ∃ v, e = .returned v ∧ w'.ownsRow W.heap.size 9 1 v np (P.map Value.string) ∧ Below W.heap.size W w') := by
    intro u0 B0 W h0
    rw [hnp, hP]
    exact implVaryOf_any u0 n B0 fs W h0 (by omega) HC0.out (HG0.out _)
  clear hP HG0 HC0
  have HNP : Hid (P.length = np) := hnp.symm
  clear hnp
  go_wp2_with fail
  refine (toFieldS_any w.heap.size a n cap fs _ (HA0.out _ hb1) hb1.size hm0).mono ?_
  rintro e w2 ⟨vt0, rfl, own, b⟩
  have hb2 : Below w.heap.size w w2 := hb1.trans (b.mono hb1.size)
  have HM2 : Hid (w1.heap.size ≤ w2.heap.size) := b.size
  have HOt02 : Hid (w2.ownsRow w.heap.size 64 2 vt0 n (flatF fs)) := owns_wide own hb1.size
  have LOt0 : Hid (∀ g, vt0.ownBlock = some g → w1.heap.size ≤ g) := fun g hg => owns_ge own hg
  have HIt0 : Hid (∀ g, vt0.ownBlock = some g → g < w2.heap.size) := fun g hg => owns_lt own hg
  clear hb1 own b
  go_wp2_with fail
  refine (HS.out vt0 _ _ (FieldsV.of_owns HOt02.out)).mono ?_
  rintro e w3 ⟨vs, rfl, own, b⟩
  clear HOt02
  have hb3 : Below w.heap.size w w3 := hb2.trans (b.mono hb2.size)
  have HM3 : Hid (w2.heap.size ≤ w3.heap.size) := b.size
  have HOs3 : Hid (w3.ownsRow w.heap.size 9 1 vs np (P.map Value.string)) := owns_wide own hb2.size
  have LOs : Hid (∀ g, vs.ownBlock = some g → w2.heap.size ≤ g) := fun g hg => owns_ge own hg
  have HIs : Hid (∀ g, vs.ownBlock = some g → g < w3.heap.size) := fun g hg => owns_lt own hg
  clear hb2 own b
  go_wp2_with fail
  refine (toFieldS_any w.heap.size a n cap fs _ (HA0.out _ hb3) hb3.size hm0).mono ?_
  rintro e w4 ⟨vx0, rfl, own, b⟩
  have hb4 : Below w.heap.size w w4 := hb3.trans (b.mono hb3.size)
  have HM4 : Hid (w3.heap.size ≤ w4.heap.size) := b.size
  have HOs4 : Hid (w4.ownsRow w.heap.size 9 1 vs np (P.map Value.string)) := owns_below HOs3.out b (fun g hg => owns_lt HOs3.out hg)
  have HOx04 : Hid (w4.ownsRow w.heap.size 64 2 vx0 n (flatF fs)) := owns_wide own hb3.size
  have LOx0 : Hid (∀ g, vx0.ownBlock = some g → w3.heap.size ≤ g) := fun g hg => owns_ge own hg
  have HIx0 : Hid (∀ g, vx0.ownBlock = some g → g < w4.heap.size) := fun g hg => owns_lt own hg
  clear hb3 HOs3 own b
  go_wp2_with fail
  refine (HI.out vx0 _ _ (FieldsV.of_owns HOx04.out)).mono ?_
  rintro e w5 ⟨vg, rfl, own, b⟩
  have hb5 : Below w.heap.size w w5 := hb4.trans (b.mono hb4.size)
  have HM5 : Hid (w4.heap.size ≤ w5.heap.size) := b.size
  have HOs5 : Hid (w5.ownsRow w.heap.size 9 1 vs np (P.map Value.string)) := owns_below HOs4.out b (fun g hg => owns_lt HOs4.out hg)
  have HOx05 : Hid (w5.ownsRow w.heap.size 64 2 vx0 n (flatF fs)) := owns_below HOx04.out b (fun g hg => owns_lt HOx04.out hg)
  have HOg5 : Hid (w5.ownsRow w.heap.size 9 1 vg np (P.map Value.string)) := owns_wide own hb4.size
  have LOg : Hid (∀ g, vg.ownBlock = some g → w4.heap.size ≤ g) := fun g hg => owns_ge own hg
  have HIg : Hid (∀ g, vg.ownBlock = some g → g < w5.heap.size) := fun g hg => owns_lt own hg
  clear hb4 HOs4 HOx04 own b
  go_wp2_with fail
  refine (eqS_any vg vs np _ _ P _ HOg5.out HOs5.out (by omega)).mono ?_
  rintro e w6 ⟨rfl, b⟩
  have hb6 : Below w.heap.size w w6 := hb5.trans (b.mono hb5.size)
  have HM6 : Hid (w5.heap.size ≤ w6.heap.size) := b.size
  have HOs6 : Hid (w6.ownsRow w.heap.size 9 1 vs np (P.map Value.string)) := owns_below HOs5.out b (fun g hg => owns_lt HOs5.out hg)
  have HOx06 : Hid (w6.ownsRow w.heap.size 64 2 vx0 n (flatF fs)) := owns_below HOx05.out b (fun g hg => owns_lt HOx05.out hg)
  have HOg6 : Hid (w6.ownsRow w.heap.size 9 1 vg np (P.map Value.string)) := owns_below HOg5.out b (fun g hg => owns_lt HOg5.out hg)
  clear hb5 HOs5 HOx05 HOg5 b
  go_wp2_with fail
  refine (toFieldS_any w.heap.size a n cap fs _ (HA0.out _ hb6) hb6.size hm0).mono ?_
  rintro e w7 ⟨vz0, rfl, own, b⟩
  have hb7 : Below w.heap.size w w7 := hb6.trans (b.mono hb6.size)
  have HM7 : Hid (w6.heap.size ≤ w7.heap.size) := b.size
  have HOs7 : Hid (w7.ownsRow w.heap.size 9 1 vs np (P.map Value.string)) := owns_below HOs6.out b (fun g hg => owns_lt HOs6.out hg)
  have HOx07 : Hid (w7.ownsRow w.heap.size 64 2 vx0 n (flatF fs)) := owns_below HOx06.out b (fun g hg => owns_lt HOx06.out hg)
  have HOg7 : Hid (w7.ownsRow w.heap.size 9 1 vg np (P.map Value.string)) := owns_below HOg6.out b (fun g hg => owns_lt HOg6.out hg)
  have HOz07 : Hid (w7.ownsRow w.heap.size 64 2 vz0 n (flatF fs)) := owns_wide own hb6.size
  have LOz0 : Hid (∀ g, vz0.ownBlock = some g → w6.heap.size ≤ g) := fun g hg => owns_ge own hg
  have HIz0 : Hid (∀ g, vz0.ownBlock = some g → g < w7.heap.size) := fun g hg => owns_lt own hg
  clear hb6 HOs6 HOx06 HOg6 own b
  go_wp2_with fail
  refine (eqFieldS_any vx0 vz0 n _ _ fs _ (FieldsV.of_owns HOx07.out) (FieldsV.of_owns HOz07.out) (by omega)).mono ?_
  rintro e w8 ⟨rfl, b⟩
  clear HOz07
  have hb8 : Below w.heap.size w w8 := hb7.trans (b.mono hb7.size)
  have HM8 : Hid (w7.heap.size ≤ w8.heap.size) := b.size
  have HOs8 : Hid (w8.ownsRow w.heap.size 9 1 vs np (P.map Value.string)) := owns_below HOs7.out b (fun g hg => owns_lt HOs7.out hg)
  have HOx08 : Hid (w8.ownsRow w.heap.size 64 2 vx0 n (flatF fs)) := owns_below HOx07.out b (fun g hg => owns_lt HOx07.out hg)
  have HOg8 : Hid (w8.ownsRow w.heap.size 9 1 vg np (P.map Value.string)) := owns_below HOg7.out b (fun g hg => owns_lt HOg7.out hg)
  clear hb7 HOs7 HOx07 HOg7 b
  go_wp2_with fail
  refine (markFar_any vx0 n w.heap.size fs _ HOx08.out hb8.size (by omega)).mono ?_
  rintro e w9 ⟨rfl, mk, bm, far⟩
  have hb9 : Below w.heap.size w w9 := hb8.trans bm
  have HM9 : Hid (w8.heap.size ≤ w9.heap.size) := bm.size
  have HOs9 : Hid (w9.ownsRow w.heap.size 9 1 vs np (P.map Value.string)) := owns_same HOs8.out (fun g hg => far g (owns_lt HOs8.out hg) (fun e => by have h1 := LOx0.out g e; have h2 := HIs.out g hg; omega))
  have HOg9 : Hid (w9.ownsRow w.heap.size 9 1 vg np (P.map Value.string)) := owns_same HOg8.out (fun g hg => far g (owns_lt HOg8.out hg) (fun e => by have h1 := LOg.out g hg; have h2 := HIx0.out g e; omega))
  have HOx09 : Hid (w9.ownsRow w.heap.size 64 2 vx0 n (flatF (mkF fs n))) := mk
  clear hb8 HOs8 HOx08 HOg8 mk bm far
  clear HOx09
  have hk1 : ¬ (2 * (n : Int) + 1 < 0) := by omega
  go_wp2_with fail
  refine (eqS_any vg vs np _ _ P _ HOg9.out HOs9.out (by omega)).mono ?_
  rintro e w10 ⟨rfl, b⟩
  have hb10 : Below w.heap.size w w10 := hb9.trans (b.mono hb9.size)
  have HM10 : Hid (w9.heap.size ≤ w10.heap.size) := b.size
  have HOs10 : Hid (w10.ownsRow w.heap.size 9 1 vs np (P.map Value.string)) := owns_below HOs9.out b (fun g hg => owns_lt HOs9.out hg)
  have HOg10 : Hid (w10.ownsRow w.heap.size 9 1 vg np (P.map Value.string)) := owns_below HOg9.out b (fun g hg => owns_lt HOg9.out hg)
  clear hb9 HOs9 HOg9 b hk1
  go_wp2_with fail
  refine (markTFar_any vg np w.heap.size P _ HOg10.out (by omega)).mono ?_
  rintro e w11 ⟨rfl, mk, gr⟩
  have hb11 : Below w.heap.size w w11 := hb10.trans (below_grownO gr hb10.size (fun g hg => owns_ge HOg10.out hg))
  have HM11 : Hid (w10.heap.size ≤ w11.heap.size) := gr.size
  have HOs11 : Hid (w11.ownsRow w.heap.size 9 1 vs np (P.map Value.string)) := owns_same HOs10.out (fun g hg => (fun g h1 (h2 : vg.ownBlock ≠ some g) => gr.block g h1 (fun e => h2 e.symm)) g (owns_lt HOs10.out hg) (fun e => by have h1 := LOg.out g e; have h2 := HIs.out g hg; have := HM4.out; omega))
  have HOg11 : Hid (w11.ownsRow w.heap.size 9 1 vg np ((mkTo P np).map Value.string)) := mk
  clear hb10 HOs10 HOg10 mk gr
  have HK : Hid (∀ j, j < np → textAt (mkTo P np) j = markOf (j + 1)) := fun j hj => mkTo_at P j (by rw [HNP.out]; exact hj) np hj
  have hk2 : ¬ ((np : Int) + 1 < 0) := by omega
  have hk3 : (((np : Int) + 1) != ((np : Int) + 1)) = false := by simp
  go_wp2_with fail
  refine (heldS_any vg np w.heap.size (mkTo P np) _ HOg11.out (by omega) HK.out).mono ?_
  rintro e w12 ⟨rfl, b⟩
  have hb12 : Below w.heap.size w w12 := hb11.trans (b.mono hb11.size)
  have HM12 : Hid (w11.heap.size ≤ w12.heap.size) := b.size
  have HOs12 : Hid (w12.ownsRow w.heap.size 9 1 vs np (P.map Value.string)) := owns_below HOs11.out b (fun g hg => owns_lt HOs11.out hg)
  have HOg12 : Hid (w12.ownsRow w.heap.size 9 1 vg np ((mkTo P np).map Value.string)) := owns_below HOg11.out b (fun g hg => owns_lt HOg11.out hg)
  clear hb11 HOs11 HOg11 b
  go_wp2_with fail
  refine (toFieldS_any w.heap.size a n cap fs _ (HA0.out _ hb12) hb12.size hm0).mono ?_
  rintro e w13 ⟨vy0, rfl, own, b⟩
  have hb13 : Below w.heap.size w w13 := hb12.trans (b.mono hb12.size)
  have HM13 : Hid (w12.heap.size ≤ w13.heap.size) := b.size
  have HOs13 : Hid (w13.ownsRow w.heap.size 9 1 vs np (P.map Value.string)) := owns_below HOs12.out b (fun g hg => owns_lt HOs12.out hg)
  have HOg13 : Hid (w13.ownsRow w.heap.size 9 1 vg np ((mkTo P np).map Value.string)) := owns_below HOg12.out b (fun g hg => owns_lt HOg12.out hg)
  have HOy013 : Hid (w13.ownsRow w.heap.size 64 2 vy0 n (flatF fs)) := owns_wide own hb12.size
  have LOy0 : Hid (∀ g, vy0.ownBlock = some g → w12.heap.size ≤ g) := fun g hg => owns_ge own hg
  have HIy0 : Hid (∀ g, vy0.ownBlock = some g → g < w13.heap.size) := fun g hg => owns_lt own hg
  clear hb12 HOs12 HOg12 own b
  go_wp2_with fail
  refine (HI.out vy0 _ _ (FieldsV.of_owns HOy013.out)).mono ?_
  rintro e w14 ⟨vh, rfl, own, b⟩
  clear HOy013
  have hb14 : Below w.heap.size w w14 := hb13.trans (b.mono hb13.size)
  have HM14 : Hid (w13.heap.size ≤ w14.heap.size) := b.size
  have HOs14 : Hid (w14.ownsRow w.heap.size 9 1 vs np (P.map Value.string)) := owns_below HOs13.out b (fun g hg => owns_lt HOs13.out hg)
  have HOg14 : Hid (w14.ownsRow w.heap.size 9 1 vg np ((mkTo P np).map Value.string)) := owns_below HOg13.out b (fun g hg => owns_lt HOg13.out hg)
  have HOh14 : Hid (w14.ownsRow w.heap.size 9 1 vh np (P.map Value.string)) := owns_wide own hb13.size
  have LOh : Hid (∀ g, vh.ownBlock = some g → w13.heap.size ≤ g) := fun g hg => owns_ge own hg
  have HIh : Hid (∀ g, vh.ownBlock = some g → g < w14.heap.size) := fun g hg => owns_lt own hg
  clear hb13 HOs13 HOg13 own b
  go_wp2_with fail
  refine (eqS_any vh vs np _ _ P _ HOh14.out HOs14.out (by omega)).mono ?_
  rintro e w15 ⟨rfl, b⟩
  clear HOh14
  clear HOs14
  have hb15 : Below w.heap.size w w15 := hb14.trans (b.mono hb14.size)
  have HM15 : Hid (w14.heap.size ≤ w15.heap.size) := b.size
  have HOg15 : Hid (w15.ownsRow w.heap.size 9 1 vg np ((mkTo P np).map Value.string)) := owns_below HOg14.out b (fun g hg => owns_lt HOg14.out hg)
  clear hb14 HOg14 b
  go_wp2_with fail
  refine (heldS_any vg np w.heap.size (mkTo P np) _ HOg15.out (by omega) HK.out).mono ?_
  rintro e w16 ⟨rfl, b⟩
  clear HOg15
  have hb16 : Below w.heap.size w w16 := hb15.trans (b.mono hb15.size)
  have HM16 : Hid (w15.heap.size ≤ w16.heap.size) := b.size
  clear hb15 b
  go_wp2_with fail
  go_ret
  exact ⟨rfl, hb16⟩

set_option maxRecDepth 100000 in
theorem lifted (os : Os) (started : os.Started) (H : Type) (enc : TypeId × Value → H) :
    ReturnsInHanded {} Try.checked os 4 .any (Rows.fnExactVaryOfSpec.pre6 enc Try.prog Try.f4 Rows.fnExactVaryOfRow.domain false) (Rows.fnExactVaryOfSpec.post enc Try.prog Try.f4 false true false false) := by
  refine returnsInHanded_of_change (C := Try.checked) own started (by kernel_rfl) Try.func4
    (ChangeSpec.witness6 (enc := enc) (C := Try.checked) false ⟨#[], #[.slice none 0 0], []⟩ 8 (by kernel_rfl) (by kernel_rfl) (by kernel_rfl) (by kernel_rfl)) ?_
  intro W base args ds gs before hval0 hW _ _
  have hval : ∀ (j : Nat) t v, Try.f4.params[j]? = some t → args[j]? = some v → Value.okWide Try.prog W .any base t v := hval0
  have hW' := hW
  obtain ⟨p, q, hA0, hV, rfl, hfz, hnd⟩ := hW
  have hA : DataW.TrodAll enc Try.prog W 0 (fun _ => true) true Try.f4.params.toList args.toList ds p := hA0
  rw [Try.params4] at hA hval
  obtain ⟨v0, vs0, d0, ds0, p0, q0, hargs, rfl, rfl, h0, r0⟩ := trodAll_cons hA
  obtain ⟨rfl, rfl, rfl⟩ := trodAll_nil r0
  obtain rfl : args = #[v0] := by cases args; simp_all
  obtain ⟨rfl, rfl⟩ := trodVars_none hV
  obtain ⟨a0, len0, cap0, rfl⟩ := okWide_slice Try.underlying35 (hval 0 35 v0 rfl rfl)
  have k0 := h0
  have lt0 : ∀ x ∈ p0, x.block < W.heap.size := by obtain ⟨m, hm⟩ := k0; exact DataW.trod_lt m _ _ _ hm
  obtain ⟨f0, g0, m0, s0⟩ : ∃ fs, ArgF W W.heap.size a0 len0 fs ∧ len0 ≤ maxLen ∧ ∀ i, i < len0 → (nameAt fs i).size ≤ maxLen ∧ (valAt fs i).size ≤ maxLen := by
    obtain ⟨fuel, hf⟩ := h0
    exact openFields (by simpa [Value.cells] using hf)
  clear hA0 hval0
  refine (walk1 W a0 len0 cap0 f0 g0 m0 s0).mono fun e W' ⟨he, bel⟩ => ?_
  subst he
  exact ⟨_, rfl, _, _, _, [], _, [], hW', trodAll_mk1 (shut_bool Try.underlying4 _), (trodAll_cons_mk (Below.trod laidOut (by kernel_rfl) (of_decide_eq_true (by kernel_rfl)) k0 bel lt0) trodAll_mk0), rfl, bel.frame _, fun h => by cases h⟩

theorem over : Rows.fnExactVaryOfRow.holds Try.pinned (OpenSpec.ofChange Rows.fnExactVaryOfSpec) :=
  OpenClaim.holds_of_wide 4 Try.f4 rfl rfl rfl rfl rfl rfl rfl ⟨rfl, rfl, rfl, rfl, rfl⟩ rfl rfl rfl rfl rfl (by kernel_rfl) Try.func4 (by kernel_rfl)
    (of_decide_eq_true (by kernel_rfl)) (by unfold Func.isWrapper; first | (rw [if_pos (by decide +kernel)]; kernel_rfl) | (rw [if_neg (by decide +kernel)]; exact ⟨rfl, rfl⟩))
    (fun os started H enc _ => lifted os started H enc)
end fnExactVaryOf

theorem fnExactVaryOf_holds : Rows.FnExactVaryOfSaid := fnExactVaryOf.over
#print axioms fnExactVaryOf_holds
end Go.Proofs.Ytfgapdididdcaaa
