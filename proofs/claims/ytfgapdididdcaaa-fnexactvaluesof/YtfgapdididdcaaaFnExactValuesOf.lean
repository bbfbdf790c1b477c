/- ValuesOf: at every argument the program answers as the specification (the law answers true), it writes into no argument, and its answer owns its memory: no condition. -/
import Derived.Test.YtfgapdididdcaaaVaryImpl
import Derived.Test.YtfgapdididdcaaaVaryLaw
import Derived.Test.YtfgapdididdcaaaVarySuit
import Derived.Test.YtfgapdididdcaaaFieldFar
import Derived.Test.YtfgapdididdcaaaFieldRoom
import Derived.Test.YtfgapdididdcaaaStreamMark
import Derived.Test.YtfgapdididdcaaaRows
import Derived.WalkKit
import Derived.ProofKit
import Derived.OpenShut
import Derived.ShutString
import Derived.ChangeOld
import Derived.Below
import Derived.Deep.RegionHeld3
import Derived.Deep.DrawnRows
namespace Go.Proofs.Ytfgapdididdcaaa
namespace fnExactValuesOf
open Go.ChangeShapes Go.WideShapes Go.ChangeAt Go.RowKit
open Go.ChangeMaps (open_string shut_string)
attribute [local go_sem ↓] Go.wp_at_zero Go.wp_at_succ

theorem own : ownKnob Try.prog.godebug = none := by kernel_rfl
theorem laidOut : laidOutB Try.prog = true := by kernel_rfl
theorem below_grownO {B : Nat} {w w' : World} {r : Option Nat} (hg : w.grownBy w' r) (hB : B ≤ w.heap.size) (hr : ∀ g, r = some g → B ≤ g) : Below B w w' :=
  ⟨hg.os, hg.tape, hg.output, hg.size, fun k hk => hg.block k (Nat.lt_of_lt_of_le hk hB) (fun e => by have := hr k e.symm; omega)⟩

set_option maxHeartbeats 4000000 in
set_option maxRecDepth 100000 in
theorem walk1 (w : World) (a : Option Addr) (n cap : Nat) (xs : List ByteArray) (harg0 : ArgT w w.heap.size a n xs) (hn0 : n ≤ maxLen) (hs0 : ∀ i, i < n → (textAt xs i).size ≤ maxLen) (a1 : Option Addr) (n1 cap1 : Nat) (fs : List (ByteArray × ByteArray)) (harg1 : ArgF w w.heap.size a1 n1 fs) (hn1 : n1 ≤ maxLen) (hs1 : ∀ i, i < n1 → (nameAt fs i).size ≤ maxLen ∧ (valAt fs i).size ≤ maxLen) :
    Calls Try.prog 5 #[.slice a n cap, .slice a1 n1 cap1] w fun e w' => e = .returned (.bool true) ∧ Below w.heap.size w w' := by
  have HA0 : Hid (∀ W, Below w.heap.size w W → ArgT W w.heap.size a n xs) := fun W h => harg0.below h
  have hlen0 := harg0.len
  have HLEN0 : Hid (xs.length = n) := hlen0
  clear hlen0
  have HA1 : Hid (∀ W, Below w.heap.size w W → ArgF W w.heap.size a1 n1 fs) := fun W h => harg1.below h
  have HLEN1 : Hid (fs.length = n1) := harg1.len
  clear harg0 harg1
  have hb0 : Below w.heap.size w w := Below.refl _ _
  go_enter Try.func5, Try.ntmps5
  go_wp2_with fail
  refine (szStringS_any 1048576 (by omega) (by omega) w.heap.size a n cap xs _ (HA0.out _ hb0) hb0.size hn0 hs0).mono ?_
  rintro e w1 ⟨r0, rfl, hrl0, hr0, b⟩
  have hb1 : Below w.heap.size w w1 := hb0.trans (b.mono hb0.size)
  clear b hb0 hs0 hn0
  by_cases hq0 : r0 < 0
  · clear hr0
    go_wp2_with fail
    go_ret
    exact ⟨rfl, hb1⟩
  obtain ⟨hm0, hz0⟩ := hr0 (by omega)
  clear hr0
  have HZ0 : Hid (∀ i, i < n → (textAt xs i).size ≤ 1048576) := hz0
  clear hz0
  go_wp2_with fail
  refine (szFieldS_room r0 (by omega) (by omega) w.heap.size a1 n1 cap1 fs _ (HA1.out _ hb1) hb1.size hn1 hs1).mono ?_
  rintro e w2 ⟨r1, rfl, hrl1, hr1, b⟩
  have hb2 : Below w.heap.size w w2 := hb1.trans (b.mono hb1.size)
  clear b hb1 hs1 hn1
  by_cases hq1 : r1 < 0
  · clear hr1
    go_wp2_with fail
    go_ret
    exact ⟨rfl, hb2⟩
  obtain ⟨hm1, hz1⟩ := hr1 (by omega)
  clear hr1
  have HC1 : Hid (CopyF fs) := fun i hi => by
    have := szTo_get fs n1 i (by rw [← HLEN1.out]; exact hi)
    omega
  have HG1 : Hid (∀ x, (getV fs x).size ≤ 1048576) := fun x => by
    unfold getV
    split
    · rename_i h
      have := szTo_get fs n1 (atF fs x) (by rw [← HLEN1.out]; exact h)
      omega
    · decide
  clear hz1
  clear hrl0 hrl1
  obtain ⟨P, hP⟩ : ∃ P, P = valsP xs fs := ⟨_, rfl⟩
  obtain ⟨np, hnp⟩ : ∃ m, m = P.length := ⟨_, rfl⟩
  have hnp2 : np ≤ 1048577 := by
    rw [hnp, hP]
    rw [valsP_len, HLEN0.out]
    omega
  have HS : Hid (∀ (u0 : Value) (B0 : Nat) (u1 : Value) (B1 : Nat) (W : World), W.ownsRow B0 9 1 u0 n (xs.map Value.string) → FieldsV W B1 u1 n1 fs → Calls Try.prog 15 #[u0, u1] W fun e w' => ∃ v, e = .returned v ∧ w'.ownsRow W.heap.size 9 1 v np (P.map Value.string) ∧ Below W.heap.size W w') := by
    intro u0 B0 u1 B1 W h0 h1
    rw [hnp, hP]
    obtain ⟨oa, ca, rfl, hx⟩ := texts_own h0
    exact specValuesOf_any oa n ca xs u1 n1 B1 fs W hx (by omega) h1 (by omega)
  have HI : Hid (∀ (u0 : Value) (B0 : Nat) (u1 : Value) (B1 : Nat) (W : World), W.ownsRow B0 9 1 u0 n (xs.map Value.string) → FieldsV W B1 u1 n1 fs → Calls Try.prog 11 #[u0, u1] W fun e w' => ∃ v, e = .returned v ∧ w'.ownsRow W.heap.size 9 1 v np (P.map Value.string) ∧ Below W.heap.size W w') := by
    intro u0 B0 u1 B1 W h0 h1
    rw [hnp, hP]
    obtain ⟨oa, ca, rfl, hx⟩ := texts_own h0
    exact implValuesOf_any oa n ca xs u1 n1 B1 fs W hx (by omega) h1 (by omega) HC1.out
  clear hP HG1 HC1 HZ0
  have HNP : Hid (P.length = np) := hnp.symm
  clear hnp
  go_wp2_with fail
  refine (toStringS_any w.heap.size a n cap xs _ (HA0.out _ hb2) hb2.size hm0).mono ?_
  rintro e w3 ⟨vt0, rfl, own, b⟩
  have hb3 : Below w.heap.size w w3 := hb2.trans (b.mono hb2.size)
  have HM3 : Hid (w2.heap.size ≤ w3.heap.size) := b.size
  have HOt03 : Hid (w3.ownsRow w.heap.size 9 1 vt0 n (xs.map Value.string)) := owns_wide own hb2.size
  have LOt0 : Hid (∀ g, vt0.ownBlock = some g → w2.heap.size ≤ g) := fun g hg => owns_ge own hg
  have HIt0 : Hid (∀ g, vt0.ownBlock = some g → g < w3.heap.size) := fun g hg => owns_lt own hg
  clear hb2 own b
  go_wp2_with fail
  refine (toFieldS_any w.heap.size a1 n1 cap1 fs _ (HA1.out _ hb3) hb3.size hm1).mono ?_
  rintro e w4 ⟨vt1, rfl, own, b⟩
  have hb4 : Below w.heap.size w w4 := hb3.trans (b.mono hb3.size)
  have HM4 : Hid (w3.heap.size ≤ w4.heap.size) := b.size
  have HOt04 : Hid (w4.ownsRow w.heap.size 9 1 vt0 n (xs.map Value.string)) := owns_below HOt03.out b (fun g hg => owns_lt HOt03.out hg)
  have HOt14 : Hid (w4.ownsRow w.heap.size 64 2 vt1 n1 (flatF fs)) := owns_wide own hb3.size
  have LOt1 : Hid (∀ g, vt1.ownBlock = some g → w3.heap.size ≤ g) := fun g hg => owns_ge own hg
  have HIt1 : Hid (∀ g, vt1.ownBlock = some g → g < w4.heap.size) := fun g hg => owns_lt own hg
  clear hb3 HOt03 own b
  go_wp2_with fail
  refine (HS.out vt0 _ vt1 _ _ HOt04.out (FieldsV.of_owns HOt14.out)).mono ?_
  rintro e w5 ⟨vs, rfl, own, b⟩
  clear HOt04
  clear HOt14
  have hb5 : Below w.heap.size w w5 := hb4.trans (b.mono hb4.size)
  have HM5 : Hid (w4.heap.size ≤ w5.heap.size) := b.size
  have HOs5 : Hid (w5.ownsRow w.heap.size 9 1 vs np (P.map Value.string)) := owns_wide own hb4.size
  have LOs : Hid (∀ g, vs.ownBlock = some g → w4.heap.size ≤ g) := fun g hg => owns_ge own hg
  have HIs : Hid (∀ g, vs.ownBlock = some g → g < w5.heap.size) := fun g hg => owns_lt own hg
  clear hb4 own b
  go_wp2_with fail
  refine (toStringS_any w.heap.size a n cap xs _ (HA0.out _ hb5) hb5.size hm0).mono ?_
  rintro e w6 ⟨vx0, rfl, own, b⟩
  have hb6 : Below w.heap.size w w6 := hb5.trans (b.mono hb5.size)
  have HM6 : Hid (w5.heap.size ≤ w6.heap.size) := b.size
  have HOs6 : Hid (w6.ownsRow w.heap.size 9 1 vs np (P.map Value.string)) := owns_below HOs5.out b (fun g hg => owns_lt HOs5.out hg)
  have HOx06 : Hid (w6.ownsRow w.heap.size 9 1 vx0 n (xs.map Value.string)) := owns_wide own hb5.size
  have LOx0 : Hid (∀ g, vx0.ownBlock = some g → w5.heap.size ≤ g) := fun g hg => owns_ge own hg
  have HIx0 : Hid (∀ g, vx0.ownBlock = some g → g < w6.heap.size) := fun g hg => owns_lt own hg
  clear hb5 HOs5 own b
  go_wp2_with fail
  refine (toFieldS_any w.heap.size a1 n1 cap1 fs _ (HA1.out _ hb6) hb6.size hm1).mono ?_
  rintro e w7 ⟨vx1, rfl, own, b⟩
  have hb7 : Below w.heap.size w w7 := hb6.trans (b.mono hb6.size)
  have HM7 : Hid (w6.heap.size ≤ w7.heap.size) := b.size
  have HOs7 : Hid (w7.ownsRow w.heap.size 9 1 vs np (P.map Value.string)) := owns_below HOs6.out b (fun g hg => owns_lt HOs6.out hg)
  have HOx07 : Hid (w7.ownsRow w.heap.size 9 1 vx0 n (xs.map Value.string)) := owns_below HOx06.out b (fun g hg => owns_lt HOx06.out hg)
  have HOx17 : Hid (w7.ownsRow w.heap.size 64 2 vx1 n1 (flatF fs)) := owns_wide own hb6.size
  have LOx1 : Hid (∀ g, vx1.ownBlock = some g → w6.heap.size ≤ g) := fun g hg => owns_ge own hg
  have HIx1 : Hid (∀ g, vx1.ownBlock = some g → g < w7.heap.size) := fun g hg => owns_lt own hg
  clear hb6 HOs6 HOx06 own b
  go_wp2_with fail
  refine (HI.out vx0 _ vx1 _ _ HOx07.out (FieldsV.of_owns HOx17.out)).mono ?_
  rintro e w8 ⟨vg, rfl, own, b⟩
  have hb8 : Below w.heap.size w w8 := hb7.trans (b.mono hb7.size)
  have HM8 : Hid (w7.heap.size ≤ w8.heap.size) := b.size
  have HOs8 : Hid (w8.ownsRow w.heap.size 9 1 vs np (P.map Value.string)) := owns_below HOs7.out b (fun g hg => owns_lt HOs7.out hg)
  have HOx08 : Hid (w8.ownsRow w.heap.size 9 1 vx0 n (xs.map Value.string)) := owns_below HOx07.out b (fun g hg => owns_lt HOx07.out hg)
  have HOx18 : Hid (w8.ownsRow w.heap.size 64 2 vx1 n1 (flatF fs)) := owns_below HOx17.out b (fun g hg => owns_lt HOx17.out hg)
  have HOg8 : Hid (w8.ownsRow w.heap.size 9 1 vg np (P.map Value.string)) := owns_wide own hb7.size
  have LOg : Hid (∀ g, vg.ownBlock = some g → w7.heap.size ≤ g) := fun g hg => owns_ge own hg
  have HIg : Hid (∀ g, vg.ownBlock = some g → g < w8.heap.size) := fun g hg => owns_lt own hg
  clear hb7 HOs7 HOx07 HOx17 own b
  go_wp2_with fail
  refine (eqS_any vg vs np _ _ P _ HOg8.out HOs8.out (by omega)).mono ?_
  rintro e w9 ⟨rfl, b⟩
  have hb9 : Below w.heap.size w w9 := hb8.trans (b.mono hb8.size)
  have HM9 : Hid (w8.heap.size ≤ w9.heap.size) := b.size
  have HOs9 : Hid (w9.ownsRow w.heap.size 9 1 vs np (P.map Value.string)) := owns_below HOs8.out b (fun g hg => owns_lt HOs8.out hg)
  have HOx09 : Hid (w9.ownsRow w.heap.size 9 1 vx0 n (xs.map Value.string)) := owns_below HOx08.out b (fun g hg => owns_lt HOx08.out hg)
  have HOx19 : Hid (w9.ownsRow w.heap.size 64 2 vx1 n1 (flatF fs)) := owns_below HOx18.out b (fun g hg => owns_lt HOx18.out hg)
  have HOg9 : Hid (w9.ownsRow w.heap.size 9 1 vg np (P.map Value.string)) := owns_below HOg8.out b (fun g hg => owns_lt HOg8.out hg)
  clear hb8 HOs8 HOx08 HOx18 HOg8 b
  go_wp2_with fail
  refine (toStringS_any w.heap.size a n cap xs _ (HA0.out _ hb9) hb9.size hm0).mono ?_
  rintro e w10 ⟨vz0, rfl, own, b⟩
  have hb10 : Below w.heap.size w w10 := hb9.trans (b.mono hb9.size)
  have HM10 : Hid (w9.heap.size ≤ w10.heap.size) := b.size
  have HOs10 : Hid (w10.ownsRow w.heap.size 9 1 vs np (P.map Value.string)) := owns_below HOs9.out b (fun g hg => owns_lt HOs9.out hg)
  have HOx010 : Hid (w10.ownsRow w.heap.size 9 1 vx0 n (xs.map Value.string)) := owns_below HOx09.out b (fun g hg => owns_lt HOx09.out hg)
  have HOx110 : Hid (w10.ownsRow w.heap.size 64 2 vx1 n1 (flatF fs)) := owns_below HOx19.out b (fun g hg => owns_lt HOx19.out hg)
  have HOg10 : Hid (w10.ownsRow w.heap.size 9 1 vg np (P.map Value.string)) := owns_below HOg9.out b (fun g hg => owns_lt HOg9.out hg)
  have HOz010 : Hid (w10.ownsRow w.heap.size 9 1 vz0 n (xs.map Value.string)) := owns_wide own hb9.size
  have LOz0 : Hid (∀ g, vz0.ownBlock = some g → w9.heap.size ≤ g) := fun g hg => owns_ge own hg
  have HIz0 : Hid (∀ g, vz0.ownBlock = some g → g < w10.heap.size) := fun g hg => owns_lt own hg
  clear hb9 HOs9 HOx09 HOx19 HOg9 own b
  go_wp2_with fail
  refine (eqS_any vx0 vz0 n _ _ xs _ HOx010.out HOz010.out (by omega)).mono ?_
  rintro e w11 ⟨rfl, b⟩
  clear HOz010
  have hb11 : Below w.heap.size w w11 := hb10.trans (b.mono hb10.size)
  have HM11 : Hid (w10.heap.size ≤ w11.heap.size) := b.size
  have HOs11 : Hid (w11.ownsRow w.heap.size 9 1 vs np (P.map Value.string)) := owns_below HOs10.out b (fun g hg => owns_lt HOs10.out hg)
  have HOx011 : Hid (w11.ownsRow w.heap.size 9 1 vx0 n (xs.map Value.string)) := owns_below HOx010.out b (fun g hg => owns_lt HOx010.out hg)
  have HOx111 : Hid (w11.ownsRow w.heap.size 64 2 vx1 n1 (flatF fs)) := owns_below HOx110.out b (fun g hg => owns_lt HOx110.out hg)
  have HOg11 : Hid (w11.ownsRow w.heap.size 9 1 vg np (P.map Value.string)) := owns_below HOg10.out b (fun g hg => owns_lt HOg10.out hg)
  clear hb10 HOs10 HOx010 HOx110 HOg10 b
  go_wp2_with fail
  refine (toFieldS_any w.heap.size a1 n1 cap1 fs _ (HA1.out _ hb11) hb11.size hm1).mono ?_
  rintro e w12 ⟨vz1, rfl, own, b⟩
  have hb12 : Below w.heap.size w w12 := hb11.trans (b.mono hb11.size)
  have HM12 : Hid (w11.heap.size ≤ w12.heap.size) := b.size
  have HOs12 : Hid (w12.ownsRow w.heap.size 9 1 vs np (P.map Value.string)) := owns_below HOs11.out b (fun g hg => owns_lt HOs11.out hg)
  have HOx012 : Hid (w12.ownsRow w.heap.size 9 1 vx0 n (xs.map Value.string)) := owns_below HOx011.out b (fun g hg => owns_lt HOx011.out hg)
  have HOx112 : Hid (w12.ownsRow w.heap.size 64 2 vx1 n1 (flatF fs)) := owns_below HOx111.out b (fun g hg => owns_lt HOx111.out hg)
  have HOg12 : Hid (w12.ownsRow w.heap.size 9 1 vg np (P.map Value.string)) := owns_below HOg11.out b (fun g hg => owns_lt HOg11.out hg)
  have HOz112 : Hid (w12.ownsRow w.heap.size 64 2 vz1 n1 (flatF fs)) := owns_wide own hb11.size
  have LOz1 : Hid (∀ g, vz1.ownBlock = some g → w11.heap.size ≤ g) := fun g hg => owns_ge own hg
  have HIz1 : Hid (∀ g, vz1.ownBlock = some g → g < w12.heap.size) := fun g hg => owns_lt own hg
  clear hb11 HOs11 HOx011 HOx111 HOg11 own b
  go_wp2_with fail
  refine (eqFieldS_any vx1 vz1 n1 _ _ fs _ (FieldsV.of_owns HOx112.out) (FieldsV.of_owns HOz112.out) (by omega)).mono ?_
  rintro e w13 ⟨rfl, b⟩
  clear HOz112
  have hb13 : Below w.heap.size w w13 := hb12.trans (b.mono hb12.size)
  have HM13 : Hid (w12.heap.size ≤ w13.heap.size) := b.size
  have HOs13 : Hid (w13.ownsRow w.heap.size 9 1 vs np (P.map Value.string)) := owns_below HOs12.out b (fun g hg => owns_lt HOs12.out hg)
  have HOx013 : Hid (w13.ownsRow w.heap.size 9 1 vx0 n (xs.map Value.string)) := owns_below HOx012.out b (fun g hg => owns_lt HOx012.out hg)
  have HOx113 : Hid (w13.ownsRow w.heap.size 64 2 vx1 n1 (flatF fs)) := owns_below HOx112.out b (fun g hg => owns_lt HOx112.out hg)
  have HOg13 : Hid (w13.ownsRow w.heap.size 9 1 vg np (P.map Value.string)) := owns_below HOg12.out b (fun g hg => owns_lt HOg12.out hg)
  clear hb12 HOs12 HOx012 HOx112 HOg12 b
  go_wp2_with fail
  refine (markTFar_any vx0 n w.heap.size xs _ HOx013.out (by omega)).mono ?_
  rintro e w14 ⟨rfl, mk, gr⟩
  have hb14 : Below w.heap.size w w14 := hb13.trans (below_grownO gr hb13.size (fun g hg => owns_ge HOx013.out hg))
  have HM14 : Hid (w13.heap.size ≤ w14.heap.size) := gr.size
  have HOs14 : Hid (w14.ownsRow w.heap.size 9 1 vs np (P.map Value.string)) := owns_same HOs13.out (fun g hg => (fun g h1 (h2 : vx0.ownBlock ≠ some g) => gr.block g h1 (fun e => h2 e.symm)) g (owns_lt HOs13.out hg) (fun e => by have h1 := LOx0.out g e; have h2 := HIs.out g hg; omega))
  have HOx114 : Hid (w14.ownsRow w.heap.size 64 2 vx1 n1 (flatF fs)) := owns_same HOx113.out (fun g hg => (fun g h1 (h2 : vx0.ownBlock ≠ some g) => gr.block g h1 (fun e => h2 e.symm)) g (owns_lt HOx113.out hg) (fun e => by have h1 := LOx1.out g hg; have h2 := HIx0.out g e; omega))
  have HOg14 : Hid (w14.ownsRow w.heap.size 9 1 vg np (P.map Value.string)) := owns_same HOg13.out (fun g hg => (fun g h1 (h2 : vx0.ownBlock ≠ some g) => gr.block g h1 (fun e => h2 e.symm)) g (owns_lt HOg13.out hg) (fun e => by have h1 := LOg.out g hg; have h2 := HIx0.out g e; have := HM7.out; omega))
  have HOx014 : Hid (w14.ownsRow w.heap.size 9 1 vx0 n ((mkTo xs n).map Value.string)) := mk
  clear hb13 HOs13 HOx013 HOx113 HOg13 mk gr
  clear HOx014
  rw [show ((n : Int) + 1) = ((n + 1 : Nat) : Int) by omega]
  go_wp2_with fail
  refine (markFrom_any vx1 n1 w.heap.size fs _ HOx114.out hb14.size (n + 1) (by omega) (by omega)).mono ?_
  rintro e w15 ⟨rfl, mk, bm, far⟩
  have hb15 : Below w.heap.size w w15 := hb14.trans bm
  have HM15 : Hid (w14.heap.size ≤ w15.heap.size) := bm.size
  have HOs15 : Hid (w15.ownsRow w.heap.size 9 1 vs np (P.map Value.string)) := owns_same HOs14.out (fun g hg => far g (owns_lt HOs14.out hg) (fun e => by have h1 := LOx1.out g e; have h2 := HIs.out g hg; have := HM6.out; omega))
  have HOg15 : Hid (w15.ownsRow w.heap.size 9 1 vg np (P.map Value.string)) := owns_same HOg14.out (fun g hg => far g (owns_lt HOg14.out hg) (fun e => by have h1 := LOg.out g hg; have h2 := HIx1.out g e; omega))
  have HOx115 : Hid (w15.ownsRow w.heap.size 64 2 vx1 n1 (flatF (mkG (n + 1) fs n1))) := mk
  clear hb14 HOs14 HOx114 HOg14 mk bm far
  clear HOx115
  have hk1 : ¬ (((n + 1 : Nat) : Int) + 2 * (n1 : Int) < 0) := by omega
  go_wp2_with fail
  refine (eqS_any vg vs np _ _ P _ HOg15.out HOs15.out (by omega)).mono ?_
  rintro e w16 ⟨rfl, b⟩
  have hb16 : Below w.heap.size w w16 := hb15.trans (b.mono hb15.size)
  have HM16 : Hid (w15.heap.size ≤ w16.heap.size) := b.size
  have HOs16 : Hid (w16.ownsRow w.heap.size 9 1 vs np (P.map Value.string)) := owns_below HOs15.out b (fun g hg => owns_lt HOs15.out hg)
  have HOg16 : Hid (w16.ownsRow w.heap.size 9 1 vg np (P.map Value.string)) := owns_below HOg15.out b (fun g hg => owns_lt HOg15.out hg)
  clear hb15 HOs15 HOg15 b hk1
  go_wp2_with fail
  refine (markTFar_any vg np w.heap.size P _ HOg16.out (by omega)).mono ?_
  rintro e w17 ⟨rfl, mk, gr⟩
  have hb17 : Below w.heap.size w w17 := hb16.trans (below_grownO gr hb16.size (fun g hg => owns_ge HOg16.out hg))
  have HM17 : Hid (w16.heap.size ≤ w17.heap.size) := gr.size
  have HOs17 : Hid (w17.ownsRow w.heap.size 9 1 vs np (P.map Value.string)) := owns_same HOs16.out (fun g hg => (fun g h1 (h2 : vg.ownBlock ≠ some g) => gr.block g h1 (fun e => h2 e.symm)) g (owns_lt HOs16.out hg) (fun e => by have h1 := LOg.out g e; have h2 := HIs.out g hg; have := HM6.out; have := HM7.out; omega))
  have HOg17 : Hid (w17.ownsRow w.heap.size 9 1 vg np ((mkTo P np).map Value.string)) := mk
  clear hb16 HOs16 HOg16 mk gr
  have HK : Hid (∀ j, j < np → textAt (mkTo P np) j = markOf (j + 1)) := fun j hj => mkTo_at P j (by rw [HNP.out]; exact hj) np hj
  have hk2 : ¬ ((np : Int) + 1 < 0) := by omega
  have hk3 : (((np : Int) + 1) != ((np : Int) + 1)) = false := by simp
  go_wp2_with fail
  refine (heldS_any vg np w.heap.size (mkTo P np) _ HOg17.out (by omega) HK.out).mono ?_
  rintro e w18 ⟨rfl, b⟩
  have hb18 : Below w.heap.size w w18 := hb17.trans (b.mono hb17.size)
  have HM18 : Hid (w17.heap.size ≤ w18.heap.size) := b.size
  have HOs18 : Hid (w18.ownsRow w.heap.size 9 1 vs np (P.map Value.string)) := owns_below HOs17.out b (fun g hg => owns_lt HOs17.out hg)
  have HOg18 : Hid (w18.ownsRow w.heap.size 9 1 vg np ((mkTo P np).map Value.string)) := owns_below HOg17.out b (fun g hg => owns_lt HOg17.out hg)
  clear hb17 HOs17 HOg17 b
  go_wp2_with fail
  refine (toStringS_any w.heap.size a n cap xs _ (HA0.out _ hb18) hb18.size hm0).mono ?_
  rintro e w19 ⟨vy0, rfl, own, b⟩
  have hb19 : Below w.heap.size w w19 := hb18.trans (b.mono hb18.size)
  have HM19 : Hid (w18.heap.size ≤ w19.heap.size) := b.size
  have HOs19 : Hid (w19.ownsRow w.heap.size 9 1 vs np (P.map Value.string)) := owns_below HOs18.out b (fun g hg => owns_lt HOs18.out hg)
  have HOg19 : Hid (w19.ownsRow w.heap.size 9 1 vg np ((mkTo P np).map Value.string)) := owns_below HOg18.out b (fun g hg => owns_lt HOg18.out hg)
  have HOy019 : Hid (w19.ownsRow w.heap.size 9 1 vy0 n (xs.map Value.string)) := owns_wide own hb18.size
  have LOy0 : Hid (∀ g, vy0.ownBlock = some g → w18.heap.size ≤ g) := fun g hg => owns_ge own hg
  have HIy0 : Hid (∀ g, vy0.ownBlock = some g → g < w19.heap.size) := fun g hg => owns_lt own hg
  clear hb18 HOs18 HOg18 own b
  go_wp2_with fail
  refine (toFieldS_any w.heap.size a1 n1 cap1 fs _ (HA1.out _ hb19) hb19.size hm1).mono ?_
  rintro e w20 ⟨vy1, rfl, own, b⟩
  have hb20 : Below w.heap.size w w20 := hb19.trans (b.mono hb19.size)
  have HM20 : Hid (w19.heap.size ≤ w20.heap.size) := b.size
  have HOs20 : Hid (w20.ownsRow w.heap.size 9 1 vs np (P.map Value.string)) := owns_below HOs19.out b (fun g hg => owns_lt HOs19.out hg)
  have HOg20 : Hid (w20.ownsRow w.heap.size 9 1 vg np ((mkTo P np).map Value.string)) := owns_below HOg19.out b (fun g hg => owns_lt HOg19.out hg)
  have HOy020 : Hid (w20.ownsRow w.heap.size 9 1 vy0 n (xs.map Value.string)) := owns_below HOy019.out b (fun g hg => owns_lt HOy019.out hg)
  have HOy120 : Hid (w20.ownsRow w.heap.size 64 2 vy1 n1 (flatF fs)) := owns_wide own hb19.size
  have LOy1 : Hid (∀ g, vy1.ownBlock = some g → w19.heap.size ≤ g) := fun g hg => owns_ge own hg
  have HIy1 : Hid (∀ g, vy1.ownBlock = some g → g < w20.heap.size) := fun g hg => owns_lt own hg
  clear hb19 HOs19 HOg19 HOy019 own b
  go_wp2_with fail
  refine (HI.out vy0 _ vy1 _ _ HOy020.out (FieldsV.of_owns HOy120.out)).mono ?_
  rintro e w21 ⟨vh, rfl, own, b⟩
  clear HOy020
  clear HOy120
  have hb21 : Below w.heap.size w w21 := hb20.trans (b.mono hb20.size)
  have HM21 : Hid (w20.heap.size ≤ w21.heap.size) := b.size
  have HOs21 : Hid (w21.ownsRow w.heap.size 9 1 vs np (P.map Value.string)) := owns_below HOs20.out b (fun g hg => owns_lt HOs20.out hg)
  have HOg21 : Hid (w21.ownsRow w.heap.size 9 1 vg np ((mkTo P np).map Value.string)) := owns_below HOg20.out b (fun g hg => owns_lt HOg20.out hg)
  have HOh21 : Hid (w21.ownsRow w.heap.size 9 1 vh np (P.map Value.string)) := owns_wide own hb20.size
  have LOh : Hid (∀ g, vh.ownBlock = some g → w20.heap.size ≤ g) := fun g hg => owns_ge own hg
  have HIh : Hid (∀ g, vh.ownBlock = some g → g < w21.heap.size) := fun g hg => owns_lt own hg
  clear hb20 HOs20 HOg20 own b
  go_wp2_with fail
  refine (eqS_any vh vs np _ _ P _ HOh21.out HOs21.out (by omega)).mono ?_
  rintro e w22 ⟨rfl, b⟩
  clear HOh21
  clear HOs21
  have hb22 : Below w.heap.size w w22 := hb21.trans (b.mono hb21.size)
  have HM22 : Hid (w21.heap.size ≤ w22.heap.size) := b.size
  have HOg22 : Hid (w22.ownsRow w.heap.size 9 1 vg np ((mkTo P np).map Value.string)) := owns_below HOg21.out b (fun g hg => owns_lt HOg21.out hg)
  clear hb21 HOg21 b
  go_wp2_with fail
  refine (heldS_any vg np w.heap.size (mkTo P np) _ HOg22.out (by omega) HK.out).mono ?_
  rintro e w23 ⟨rfl, b⟩
  clear HOg22
  have hb23 : Below w.heap.size w w23 := hb22.trans (b.mono hb22.size)
  have HM23 : Hid (w22.heap.size ≤ w23.heap.size) := b.size
  clear hb22 b
  go_wp2_with fail
  go_ret
  exact ⟨rfl, hb23⟩

set_option maxRecDepth 100000 in
theorem lifted (os : Os) (started : os.Started) (H : Type) (enc : TypeId × Value → H) :
    ReturnsInHanded {} Try.checked os 5 .any (Rows.fnExactValuesOfSpec.pre6 enc Try.prog Try.f5 Rows.fnExactValuesOfRow.domain false) (Rows.fnExactValuesOfSpec.post enc Try.prog Try.f5 false true false false) := by
  refine returnsInHanded_of_change (C := Try.checked) own started (by kernel_rfl) Try.func5
    (ChangeSpec.witness6 (enc := enc) (C := Try.checked) false ⟨#[], #[.slice none 0 0, .slice none 0 0], []⟩ 8 (by kernel_rfl) (by kernel_rfl) (by kernel_rfl) (by kernel_rfl)) ?_
  intro W base args ds gs before hval0 hW _ _
  have hval : ∀ (j : Nat) t v, Try.f5.params[j]? = some t → args[j]? = some v → Value.okWide Try.prog W .any base t v := hval0
  have hW' := hW
  obtain ⟨p, q, hA0, hV, rfl, hfz, hnd⟩ := hW
  have hA : DataW.TrodAll enc Try.prog W 0 (fun _ => true) true Try.f5.params.toList args.toList ds p := hA0
  rw [Try.params5] at hA hval
  obtain ⟨v0, vs0, d0, ds0, p0, q0, hargs, rfl, rfl, h0, r0⟩ := trodAll_cons hA
  obtain ⟨v1, vs1, d1, ds1, p1, q1, hargs1, rfl, rfl, h1, r1⟩ := trodAll_cons r0
  obtain ⟨rfl, rfl, rfl⟩ := trodAll_nil r1
  obtain rfl : args = #[v0, v1] := by cases args; simp_all
  obtain ⟨rfl, rfl⟩ := trodVars_none hV
  obtain ⟨a0, len0, cap0, rfl⟩ := okWide_slice Try.underlying24 (hval 0 24 v0 rfl rfl)
  have k0 := h0
  have lt0 : ∀ x ∈ p0, x.block < W.heap.size := by obtain ⟨m, hm⟩ := k0; exact DataW.trod_lt m _ _ _ hm
  obtain ⟨f0, g0, m0, s0⟩ : ∃ xs, ArgT W W.heap.size a0 len0 xs ∧ len0 ≤ maxLen ∧ ∀ i, i < len0 → (textAt xs i).size ≤ maxLen := by
    obtain ⟨fuel, hf⟩ := h0
    exact openTexts (by simpa [Value.cells] using hf)
  obtain ⟨a1, len1, cap1, rfl⟩ := okWide_slice Try.underlying35 (hval 1 35 v1 rfl rfl)
  have k1 := h1
  have lt1 : ∀ x ∈ p1, x.block < W.heap.size := by obtain ⟨m, hm⟩ := k1; exact DataW.trod_lt m _ _ _ hm
  obtain ⟨f1, g1, m1, s1⟩ : ∃ fs, ArgF W W.heap.size a1 len1 fs ∧ len1 ≤ maxLen ∧ ∀ i, i < len1 → (nameAt fs i).size ≤ maxLen ∧ (valAt fs i).size ≤ maxLen := by
    obtain ⟨fuel, hf⟩ := h1
    exact openFields (by simpa [Value.cells] using hf)
  clear hA0 hval0
  refine (walk1 W a0 len0 cap0 f0 g0 m0 s0 a1 len1 cap1 f1 g1 m1 s1).mono fun e W' ⟨he, bel⟩ => ?_
  subst he
  exact ⟨_, rfl, _, _, _, [], _, [], hW', trodAll_mk1 (shut_bool Try.underlying4 _), (trodAll_cons_mk (Below.trod laidOut (by kernel_rfl) (of_decide_eq_true (by kernel_rfl)) k0 bel lt0) (trodAll_cons_mk (Below.trod laidOut (by kernel_rfl) (of_decide_eq_true (by kernel_rfl)) k1 bel lt1) trodAll_mk0)), rfl, bel.frame _, fun h => by cases h⟩

theorem over : Rows.fnExactValuesOfRow.holds Try.pinned (OpenSpec.ofChange Rows.fnExactValuesOfSpec) :=
  OpenClaim.holds_of_wide 5 Try.f5 rfl rfl rfl rfl rfl rfl rfl ⟨rfl, rfl, rfl, rfl, rfl⟩ rfl rfl rfl rfl rfl (by kernel_rfl) Try.func5 (by kernel_rfl)
    (of_decide_eq_true (by kernel_rfl)) (by unfold Func.isWrapper; first | (rw [if_pos (by decide +kernel)]; kernel_rfl) | (rw [if_neg (by decide +kernel)]; exact ⟨rfl, rfl⟩))
    (fun os started H enc _ => lifted os started H enc)
end fnExactValuesOf

theorem fnExactValuesOf_holds : Rows.FnExactValuesOfSaid := fnExactValuesOf.over
#print axioms fnExactValuesOf_holds
end Go.Proofs.Ytfgapdididdcaaa
