/- Suits: at every argument the program answers as the specification (the law answers true), it writes into no argument: no condition. -/
import Derived.Test.YtfgapdididdcaaaVaryImpl
import Derived.Test.YtfgapdididdcaaaVaryLaw
import Derived.Test.YtfgapdididdcaaaVarySuit
import Derived.Test.YtfgapdididdcaaaFieldFar
import Derived.Test.YtfgapdididdcaaaFieldRoom
import Derived.Test.YtfgapdididdcaaaStreamMark
import Derived.Test.YtfgapdididdcaaaRows
import Derived.WalkKit
import Derived.ProofKit
import Derived.OpenShut
import Derived.ShutString
import Derived.ChangeOld
import Derived.Below
import Derived.Deep.RegionHeld3
import Derived.Deep.DrawnRows
namespace Go.Proofs.Ytfgapdididdcaaa
namespace fnExactSuits
open Go.ChangeShapes Go.WideShapes Go.ChangeAt Go.RowKit
open Go.ChangeMaps (open_string shut_string)
attribute [local go_sem ↓] Go.wp_at_zero Go.wp_at_succ

theorem own : ownKnob Try.prog.godebug = none := by kernel_rfl
theorem laidOut : laidOutB Try.prog = true := by kernel_rfl

set_option maxHeartbeats 4000000 in
set_option maxRecDepth 100000 in
theorem walk1 (w : World) (a : Option Addr) (n cap : Nat) (xs : List ByteArray) (harg0 : ArgT w w.heap.size a n xs) (hn0 : n ≤ maxLen) (hs0 : ∀ i, i < n → (textAt xs i).size ≤ maxLen) (a1 : Option Addr) (n1 cap1 : Nat) (ys : List ByteArray) (harg1 : ArgT w w.heap.size a1 n1 ys) (hn1 : n1 ≤ maxLen) (hs1 : ∀ i, i < n1 → (textAt ys i).size ≤ maxLen) (a2 : Option Addr) (n2 cap2 : Nat) (fs : List (ByteArray × ByteArray)) (harg2 : ArgF w w.heap.size a2 n2 fs) (hn2 : n2 ≤ maxLen) (hs2 : ∀ i, i < n2 → (nameAt fs i).size ≤ maxLen ∧ (valAt fs i).size ≤ maxLen) :
    Calls Try.prog 6 #[.slice a n cap, .slice a1 n1 cap1, .slice a2 n2 cap2] w fun e w' => e = .returned (.bool true) ∧ Below w.heap.size w w' := by
  have HA0 : Hid (∀ W, Below w.heap.size w W → ArgT W w.heap.size a n xs) := fun W h => harg0.below h
  have hlen0 := harg0.len
  have HLEN0 : Hid (xs.length = n) := hlen0
  clear hlen0
  have HA1 : Hid (∀ W, Below w.heap.size w W → ArgT W w.heap.size a1 n1 ys) := fun W h => harg1.below h
  have hlen1 := harg1.len
  have HLEN1 : Hid (ys.length = n1) := hlen1
  clear hlen1
  have HA2 : Hid (∀ W, Below w.heap.size w W → ArgF W w.heap.size a2 n2 fs) := fun W h => harg2.below h
  have HLEN2 : Hid (fs.length = n2) := harg2.len
  clear harg0 harg1 harg2
  have hb0 : Below w.heap.size w w := Below.refl _ _
  go_enter Try.func6, Try.ntmps6
  go_wp2_with fail
  refine (szStringS_any 1048576 (by omega) (by omega) w.heap.size a n cap xs _ (HA0.out _ hb0) hb0.size hn0 hs0).mono ?_
  rintro e w1 ⟨r0, rfl, hrl0, hr0, b⟩
  have hb1 : Below w.heap.size w w1 := hb0.trans (b.mono hb0.size)
  clear b hb0 hs0 hn0
  by_cases hq0 : r0 < 0
  · clear hr0
    go_wp2_with fail
    go_ret
    exact ⟨rfl, hb1⟩
  obtain ⟨hm0, hz0⟩ := hr0 (by omega)
  clear hr0
  have HZ0 : Hid (∀ i, i < n → (textAt xs i).size ≤ 1048576) := hz0
  clear hz0
  go_wp2_with fail
  refine (szStringS_any r0 (by omega) (by omega) w.heap.size a1 n1 cap1 ys _ (HA1.out _ hb1) hb1.size hn1 hs1).mono ?_
  rintro e w2 ⟨r1, rfl, hrl1, hr1, b⟩
  have hb2 : Below w.heap.size w w2 := hb1.trans (b.mono hb1.size)
  clear b hb1 hs1 hn1
  by_cases hq1 : r1 < 0
  · clear hr1
    go_wp2_with fail
    go_ret
    exact ⟨rfl, hb2⟩
  obtain ⟨hm1, hz1⟩ := hr1 (by omega)
  clear hr1
  have HZ1 : Hid (∀ i, i < n1 → (textAt ys i).size ≤ 1048576) := hz1
  clear hz1
  go_wp2_with fail
  refine (szFieldS_room r1 (by omega) (by omega) w.heap.size a2 n2 cap2 fs _ (HA2.out _ hb2) hb2.size hn2 hs2).mono ?_
  rintro e w3 ⟨r2, rfl, hrl2, hr2, b⟩
  have hb3 : Below w.heap.size w w3 := hb2.trans (b.mono hb2.size)
  clear b hb2 hs2 hn2
  by_cases hq2 : r2 < 0
  · clear hr2
    go_wp2_with fail
    go_ret
    exact ⟨rfl, hb3⟩
  obtain ⟨hm2, hz2⟩ := hr2 (by omega)
  clear hr2
  have HC2 : Hid (CopyF fs) := fun i hi => by
    have := szTo_get fs n2 i (by rw [← HLEN2.out]; exact hi)
    omega
  have HG2 : Hid (∀ x, (getV fs x).size ≤ 1048576) := fun x => by
    unfold getV
    split
    · rename_i h
      have := szTo_get fs n2 (atF fs x) (by rw [← HLEN2.out]; exact h)
      omega
    · decide
  clear hz2
  clear hrl0 hrl1 hrl2
  obtain ⟨P, hP⟩ : ∃ P, P = suitsP xs ys fs := ⟨_, rfl⟩
  have HS : Hid (∀ (u0 : Value) (B0 : Nat) (u1 : Value) (B1 : Nat) (u2 : Value) (B2 : Nat) (W : World), W.ownsRow B0 9 1 u0 n (xs.map Value.string) → W.ownsRow B1 9 1 u1 n1 (ys.map Value.string) → FieldsV W B2 u2 n2 fs → Calls Try.prog 10 #[u0, u1, u2] W fun e w' => e = .returned (.bool P) ∧ Below W.heap.size W w') := by
    intro u0 B0 u1 B1 u2 B2 W h0 h1 h2
    rw [hP]
    obtain ⟨oa, ca, rfl, hx⟩ := texts_own h0
    obtain ⟨ob, cb, rfl, hy⟩ := texts_own h1
    exact specSuits_any oa ob n ca n1 cb xs ys u2 n2 B2 fs W hx (by omega) hy h2 (by omega)
  have HI : Hid (∀ (u0 : Value) (B0 : Nat) (u1 : Value) (B1 : Nat) (u2 : Value) (B2 : Nat) (W : World), W.ownsRow B0 9 1 u0 n (xs.map Value.string) → W.ownsRow B1 9 1 u1 n1 (ys.map Value.string) → FieldsV W B2 u2 n2 fs → Calls Try.prog 9 #[u0, u1, u2] W fun e w' => e = .returned (.bool P) ∧ Below W.heap.size W w') := by
    intro u0 B0 u1 B1 u2 B2 W h0 h1 h2
    rw [hP]
    obtain ⟨oa, ca, rfl, hx⟩ := texts_own h0
    obtain ⟨ob, cb, rfl, hy⟩ := texts_own h1
    exact implSuits_any oa ob n ca n1 cb xs ys u2 n2 B2 fs W hx (by omega) hy h2 (by omega) HC2.out (by omega)
  clear hP
  have hpp : (P != P) = false := by simp
  go_wp2_with fail
  refine (toStringS_any w.heap.size a n cap xs _ (HA0.out _ hb3) hb3.size hm0).mono ?_
  rintro e w4 ⟨vt0, rfl, own, b⟩
  have hb4 : Below w.heap.size w w4 := hb3.trans (b.mono hb3.size)
  have HM4 : Hid (w3.heap.size ≤ w4.heap.size) := b.size
  have HOt04 : Hid (w4.ownsRow w.heap.size 9 1 vt0 n (xs.map Value.string)) := owns_wide own hb3.size
  have LOt0 : Hid (∀ g, vt0.ownBlock = some g → w3.heap.size ≤ g) := fun g hg => owns_ge own hg
  have HIt0 : Hid (∀ g, vt0.ownBlock = some g → g < w4.heap.size) := fun g hg => owns_lt own hg
  clear hb3 own b
  go_wp2_with fail
  refine (toStringS_any w.heap.size a1 n1 cap1 ys _ (HA1.out _ hb4) hb4.size hm1).mono ?_
  rintro e w5 ⟨vt1, rfl, own, b⟩
  have hb5 : Below w.heap.size w w5 := hb4.trans (b.mono hb4.size)
  have HM5 : Hid (w4.heap.size ≤ w5.heap.size) := b.size
  have HOt05 : Hid (w5.ownsRow w.heap.size 9 1 vt0 n (xs.map Value.string)) := owns_below HOt04.out b (fun g hg => owns_lt HOt04.out hg)
  have HOt15 : Hid (w5.ownsRow w.heap.size 9 1 vt1 n1 (ys.map Value.string)) := owns_wide own hb4.size
  have LOt1 : Hid (∀ g, vt1.ownBlock = some g → w4.heap.size ≤ g) := fun g hg => owns_ge own hg
  have HIt1 : Hid (∀ g, vt1.ownBlock = some g → g < w5.heap.size) := fun g hg => owns_lt own hg
  clear hb4 HOt04 own b
  go_wp2_with fail
  refine (toFieldS_any w.heap.size a2 n2 cap2 fs _ (HA2.out _ hb5) hb5.size hm2).mono ?_
  rintro e w6 ⟨vt2, rfl, own, b⟩
  have hb6 : Below w.heap.size w w6 := hb5.trans (b.mono hb5.size)
  have HM6 : Hid (w5.heap.size ≤ w6.heap.size) := b.size
  have HOt06 : Hid (w6.ownsRow w.heap.size 9 1 vt0 n (xs.map Value.string)) := owns_below HOt05.out b (fun g hg => owns_lt HOt05.out hg)
  have HOt16 : Hid (w6.ownsRow w.heap.size 9 1 vt1 n1 (ys.map Value.string)) := owns_below HOt15.out b (fun g hg => owns_lt HOt15.out hg)
  have HOt26 : Hid (w6.ownsRow w.heap.size 64 2 vt2 n2 (flatF fs)) := owns_wide own hb5.size
  have LOt2 : Hid (∀ g, vt2.ownBlock = some g → w5.heap.size ≤ g) := fun g hg => owns_ge own hg
  have HIt2 : Hid (∀ g, vt2.ownBlock = some g → g < w6.heap.size) := fun g hg => owns_lt own hg
  clear hb5 HOt05 HOt15 own b
  go_wp2_with fail
  refine (HS.out vt0 _ vt1 _ vt2 _ _ HOt06.out HOt16.out (FieldsV.of_owns HOt26.out)).mono ?_
  rintro e w7 ⟨rfl, b⟩
  clear HOt06
  clear HOt16
  clear HOt26
  have hb7 : Below w.heap.size w w7 := hb6.trans (b.mono hb6.size)
  have HM7 : Hid (w6.heap.size ≤ w7.heap.size) := b.size
  clear hb6 b
  go_wp2_with fail
  refine (toStringS_any w.heap.size a n cap xs _ (HA0.out _ hb7) hb7.size hm0).mono ?_
  rintro e w8 ⟨vx0, rfl, own, b⟩
  have hb8 : Below w.heap.size w w8 := hb7.trans (b.mono hb7.size)
  have HM8 : Hid (w7.heap.size ≤ w8.heap.size) := b.size
  have HOx08 : Hid (w8.ownsRow w.heap.size 9 1 vx0 n (xs.map Value.string)) := owns_wide own hb7.size
  have LOx0 : Hid (∀ g, vx0.ownBlock = some g → w7.heap.size ≤ g) := fun g hg => owns_ge own hg
  have HIx0 : Hid (∀ g, vx0.ownBlock = some g → g < w8.heap.size) := fun g hg => owns_lt own hg
  clear hb7 own b
  go_wp2_with fail
  refine (toStringS_any w.heap.size a1 n1 cap1 ys _ (HA1.out _ hb8) hb8.size hm1).mono ?_
  rintro e w9 ⟨vx1, rfl, own, b⟩
  have hb9 : Below w.heap.size w w9 := hb8.trans (b.mono hb8.size)
  have HM9 : Hid (w8.heap.size ≤ w9.heap.size) := b.size
  have HOx09 : Hid (w9.ownsRow w.heap.size 9 1 vx0 n (xs.map Value.string)) := owns_below HOx08.out b (fun g hg => owns_lt HOx08.out hg)
  have HOx19 : Hid (w9.ownsRow w.heap.size 9 1 vx1 n1 (ys.map Value.string)) := owns_wide own hb8.size
  have LOx1 : Hid (∀ g, vx1.ownBlock = some g → w8.heap.size ≤ g) := fun g hg => owns_ge own hg
  have HIx1 : Hid (∀ g, vx1.ownBlock = some g → g < w9.heap.size) := fun g hg => owns_lt own hg
  clear hb8 HOx08 own b
  go_wp2_with fail
  refine (toFieldS_any w.heap.size a2 n2 cap2 fs _ (HA2.out _ hb9) hb9.size hm2).mono ?_
  rintro e w10 ⟨vx2, rfl, own, b⟩
  have hb10 : Below w.heap.size w w10 := hb9.trans (b.mono hb9.size)
  have HM10 : Hid (w9.heap.size ≤ w10.heap.size) := b.size
  have HOx010 : Hid (w10.ownsRow w.heap.size 9 1 vx0 n (xs.map Value.string)) := owns_below HOx09.out b (fun g hg => owns_lt HOx09.out hg)
  have HOx110 : Hid (w10.ownsRow w.heap.size 9 1 vx1 n1 (ys.map Value.string)) := owns_below HOx19.out b (fun g hg => owns_lt HOx19.out hg)
  have HOx210 : Hid (w10.ownsRow w.heap.size 64 2 vx2 n2 (flatF fs)) := owns_wide own hb9.size
  have LOx2 : Hid (∀ g, vx2.ownBlock = some g → w9.heap.size ≤ g) := fun g hg => owns_ge own hg
  have HIx2 : Hid (∀ g, vx2.ownBlock = some g → g < w10.heap.size) := fun g hg => owns_lt own hg
  clear hb9 HOx09 HOx19 own b
  go_wp2_with fail
  refine (HI.out vx0 _ vx1 _ vx2 _ _ HOx010.out HOx110.out (FieldsV.of_owns HOx210.out)).mono ?_
  rintro e w11 ⟨rfl, b⟩
  have hb11 : Below w.heap.size w w11 := hb10.trans (b.mono hb10.size)
  have HM11 : Hid (w10.heap.size ≤ w11.heap.size) := b.size
  have HOx011 : Hid (w11.ownsRow w.heap.size 9 1 vx0 n (xs.map Value.string)) := owns_below HOx010.out b (fun g hg => owns_lt HOx010.out hg)
  have HOx111 : Hid (w11.ownsRow w.heap.size 9 1 vx1 n1 (ys.map Value.string)) := owns_below HOx110.out b (fun g hg => owns_lt HOx110.out hg)
  have HOx211 : Hid (w11.ownsRow w.heap.size 64 2 vx2 n2 (flatF fs)) := owns_below HOx210.out b (fun g hg => owns_lt HOx210.out hg)
  clear hb10 HOx010 HOx110 HOx210 b
  go_wp2_with fail
  refine (toStringS_any w.heap.size a n cap xs _ (HA0.out _ hb11) hb11.size hm0).mono ?_
  rintro e w12 ⟨vz0, rfl, own, b⟩
  have hb12 : Below w.heap.size w w12 := hb11.trans (b.mono hb11.size)
  have HM12 : Hid (w11.heap.size ≤ w12.heap.size) := b.size
  have HOx012 : Hid (w12.ownsRow w.heap.size 9 1 vx0 n (xs.map Value.string)) := owns_below HOx011.out b (fun g hg => owns_lt HOx011.out hg)
  have HOx112 : Hid (w12.ownsRow w.heap.size 9 1 vx1 n1 (ys.map Value.string)) := owns_below HOx111.out b (fun g hg => owns_lt HOx111.out hg)
  have HOx212 : Hid (w12.ownsRow w.heap.size 64 2 vx2 n2 (flatF fs)) := owns_below HOx211.out b (fun g hg => owns_lt HOx211.out hg)
  have HOz012 : Hid (w12.ownsRow w.heap.size 9 1 vz0 n (xs.map Value.string)) := owns_wide own hb11.size
  have LOz0 : Hid (∀ g, vz0.ownBlock = some g → w11.heap.size ≤ g) := fun g hg => owns_ge own hg
  have HIz0 : Hid (∀ g, vz0.ownBlock = some g → g < w12.heap.size) := fun g hg => owns_lt own hg
  clear hb11 HOx011 HOx111 HOx211 own b
  go_wp2_with fail
  refine (eqS_any vx0 vz0 n _ _ xs _ HOx012.out HOz012.out (by omega)).mono ?_
  rintro e w13 ⟨rfl, b⟩
  clear HOz012
  have hb13 : Below w.heap.size w w13 := hb12.trans (b.mono hb12.size)
  have HM13 : Hid (w12.heap.size ≤ w13.heap.size) := b.size
  have HOx013 : Hid (w13.ownsRow w.heap.size 9 1 vx0 n (xs.map Value.string)) := owns_below HOx012.out b (fun g hg => owns_lt HOx012.out hg)
  have HOx113 : Hid (w13.ownsRow w.heap.size 9 1 vx1 n1 (ys.map Value.string)) := owns_below HOx112.out b (fun g hg => owns_lt HOx112.out hg)
  have HOx213 : Hid (w13.ownsRow w.heap.size 64 2 vx2 n2 (flatF fs)) := owns_below HOx212.out b (fun g hg => owns_lt HOx212.out hg)
  clear hb12 HOx012 HOx112 HOx212 b
  go_wp2_with fail
  refine (toStringS_any w.heap.size a1 n1 cap1 ys _ (HA1.out _ hb13) hb13.size hm1).mono ?_
  rintro e w14 ⟨vz1, rfl, own, b⟩
  have hb14 : Below w.heap.size w w14 := hb13.trans (b.mono hb13.size)
  have HM14 : Hid (w13.heap.size ≤ w14.heap.size) := b.size
  have HOx014 : Hid (w14.ownsRow w.heap.size 9 1 vx0 n (xs.map Value.string)) := owns_below HOx013.out b (fun g hg => owns_lt HOx013.out hg)
  have HOx114 : Hid (w14.ownsRow w.heap.size 9 1 vx1 n1 (ys.map Value.string)) := owns_below HOx113.out b (fun g hg => owns_lt HOx113.out hg)
  have HOx214 : Hid (w14.ownsRow w.heap.size 64 2 vx2 n2 (flatF fs)) := owns_below HOx213.out b (fun g hg => owns_lt HOx213.out hg)
  have HOz114 : Hid (w14.ownsRow w.heap.size 9 1 vz1 n1 (ys.map Value.string)) := owns_wide own hb13.size
  have LOz1 : Hid (∀ g, vz1.ownBlock = some g → w13.heap.size ≤ g) := fun g hg => owns_ge own hg
  have HIz1 : Hid (∀ g, vz1.ownBlock = some g → g < w14.heap.size) := fun g hg => owns_lt own hg
  clear hb13 HOx013 HOx113 HOx213 own b
  go_wp2_with fail
  refine (eqS_any vx1 vz1 n1 _ _ ys _ HOx114.out HOz114.out (by omega)).mono ?_
  rintro e w15 ⟨rfl, b⟩
  clear HOz114
  have hb15 : Below w.heap.size w w15 := hb14.trans (b.mono hb14.size)
  have HM15 : Hid (w14.heap.size ≤ w15.heap.size) := b.size
  have HOx015 : Hid (w15.ownsRow w.heap.size 9 1 vx0 n (xs.map Value.string)) := owns_below HOx014.out b (fun g hg => owns_lt HOx014.out hg)
  have HOx115 : Hid (w15.ownsRow w.heap.size 9 1 vx1 n1 (ys.map Value.string)) := owns_below HOx114.out b (fun g hg => owns_lt HOx114.out hg)
  have HOx215 : Hid (w15.ownsRow w.heap.size 64 2 vx2 n2 (flatF fs)) := owns_below HOx214.out b (fun g hg => owns_lt HOx214.out hg)
  clear hb14 HOx014 HOx114 HOx214 b
  go_wp2_with fail
  refine (toFieldS_any w.heap.size a2 n2 cap2 fs _ (HA2.out _ hb15) hb15.size hm2).mono ?_
  rintro e w16 ⟨vz2, rfl, own, b⟩
  have hb16 : Below w.heap.size w w16 := hb15.trans (b.mono hb15.size)
  have HM16 : Hid (w15.heap.size ≤ w16.heap.size) := b.size
  have HOx016 : Hid (w16.ownsRow w.heap.size 9 1 vx0 n (xs.map Value.string)) := owns_below HOx015.out b (fun g hg => owns_lt HOx015.out hg)
  have HOx116 : Hid (w16.ownsRow w.heap.size 9 1 vx1 n1 (ys.map Value.string)) := owns_below HOx115.out b (fun g hg => owns_lt HOx115.out hg)
  have HOx216 : Hid (w16.ownsRow w.heap.size 64 2 vx2 n2 (flatF fs)) := owns_below HOx215.out b (fun g hg => owns_lt HOx215.out hg)
  have HOz216 : Hid (w16.ownsRow w.heap.size 64 2 vz2 n2 (flatF fs)) := owns_wide own hb15.size
  have LOz2 : Hid (∀ g, vz2.ownBlock = some g → w15.heap.size ≤ g) := fun g hg => owns_ge own hg
  have HIz2 : Hid (∀ g, vz2.ownBlock = some g → g < w16.heap.size) := fun g hg => owns_lt own hg
  clear hb15 HOx015 HOx115 HOx215 own b
  go_wp2_with fail
  refine (eqFieldS_any vx2 vz2 n2 _ _ fs _ (FieldsV.of_owns HOx216.out) (FieldsV.of_owns HOz216.out) (by omega)).mono ?_
  rintro e w17 ⟨rfl, b⟩
  clear HOz216
  have hb17 : Below w.heap.size w w17 := hb16.trans (b.mono hb16.size)
  have HM17 : Hid (w16.heap.size ≤ w17.heap.size) := b.size
  have HOx017 : Hid (w17.ownsRow w.heap.size 9 1 vx0 n (xs.map Value.string)) := owns_below HOx016.out b (fun g hg => owns_lt HOx016.out hg)
  have HOx117 : Hid (w17.ownsRow w.heap.size 9 1 vx1 n1 (ys.map Value.string)) := owns_below HOx116.out b (fun g hg => owns_lt HOx116.out hg)
  have HOx217 : Hid (w17.ownsRow w.heap.size 64 2 vx2 n2 (flatF fs)) := owns_below HOx216.out b (fun g hg => owns_lt HOx216.out hg)
  clear hb16 HOx016 HOx116 HOx216 b
  go_wp2_with fail
  go_ret
  exact ⟨rfl, hb17⟩

set_option maxRecDepth 100000 in
theorem lifted (os : Os) (started : os.Started) (H : Type) (enc : TypeId × Value → H) :
    ReturnsInHanded {} Try.checked os 6 .any (Rows.fnExactSuitsSpec.pre6 enc Try.prog Try.f6 Rows.fnExactSuitsRow.domain false) (Rows.fnExactSuitsSpec.post enc Try.prog Try.f6 false true false false) := by
  refine returnsInHanded_of_change (C := Try.checked) own started (by kernel_rfl) Try.func6
    (ChangeSpec.witness6 (enc := enc) (C := Try.checked) false ⟨#[], #[.slice none 0 0, .slice none 0 0, .slice none 0 0], []⟩ 8 (by kernel_rfl) (by kernel_rfl) (by kernel_rfl) (by kernel_rfl)) ?_
  intro W base args ds gs before hval0 hW _ _
  have hval : ∀ (j : Nat) t v, Try.f6.params[j]? = some t → args[j]? = some v → Value.okWide Try.prog W .any base t v := hval0
  have hW' := hW
  obtain ⟨p, q, hA0, hV, rfl, hfz, hnd⟩ := hW
  have hA : DataW.TrodAll enc Try.prog W 0 (fun _ => true) true Try.f6.params.toList args.toList ds p := hA0
  rw [Try.params6] at hA hval
  obtain ⟨v0, vs0, d0, ds0, p0, q0, hargs, rfl, rfl, h0, r0⟩ := trodAll_cons hA
  obtain ⟨v1, vs1, d1, ds1, p1, q1, hargs1, rfl, rfl, h1, r1⟩ := trodAll_cons r0
  obtain ⟨v2, vs2, d2, ds2, p2, q2, hargs2, rfl, rfl, h2, r2⟩ := trodAll_cons r1
  obtain ⟨rfl, rfl, rfl⟩ := trodAll_nil r2
  obtain rfl : args = #[v0, v1, v2] := by cases args; simp_all
  obtain ⟨rfl, rfl⟩ := trodVars_none hV
  obtain ⟨a0, len0, cap0, rfl⟩ := okWide_slice Try.underlying24 (hval 0 24 v0 rfl rfl)
  have k0 := h0
  have lt0 : ∀ x ∈ p0, x.block < W.heap.size := by obtain ⟨m, hm⟩ := k0; exact DataW.trod_lt m _ _ _ hm
  obtain ⟨f0, g0, m0, s0⟩ : ∃ xs, ArgT W W.heap.size a0 len0 xs ∧ len0 ≤ maxLen ∧ ∀ i, i < len0 → (textAt xs i).size ≤ maxLen := by
    obtain ⟨fuel, hf⟩ := h0
    exact openTexts (by simpa [Value.cells] using hf)
  obtain ⟨a1, len1, cap1, rfl⟩ := okWide_slice Try.underlying24 (hval 1 24 v1 rfl rfl)
  have k1 := h1
  have lt1 : ∀ x ∈ p1, x.block < W.heap.size := by obtain ⟨m, hm⟩ := k1; exact DataW.trod_lt m _ _ _ hm
  obtain ⟨f1, g1, m1, s1⟩ : ∃ xs, ArgT W W.heap.size a1 len1 xs ∧ len1 ≤ maxLen ∧ ∀ i, i < len1 → (textAt xs i).size ≤ maxLen := by
    obtain ⟨fuel, hf⟩ := h1
    exact openTexts (by simpa [Value.cells] using hf)
  obtain ⟨a2, len2, cap2, rfl⟩ := okWide_slice Try.underlying35 (hval 2 35 v2 rfl rfl)
  have k2 := h2
  have lt2 : ∀ x ∈ p2, x.block < W.heap.size := by obtain ⟨m, hm⟩ := k2; exact DataW.trod_lt m _ _ _ hm
  obtain ⟨f2, g2, m2, s2⟩ : ∃ fs, ArgF W W.heap.size a2 len2 fs ∧ len2 ≤ maxLen ∧ ∀ i, i < len2 → (nameAt fs i).size ≤ maxLen ∧ (valAt fs i).size ≤ maxLen := by
    obtain ⟨fuel, hf⟩ := h2
    exact openFields (by simpa [Value.cells] using hf)
  clear hA0 hval0
  refine (walk1 W a0 len0 cap0 f0 g0 m0 s0 a1 len1 cap1 f1 g1 m1 s1 a2 len2 cap2 f2 g2 m2 s2).mono fun e W' ⟨he, bel⟩ => ?_
  subst he
  exact ⟨_, rfl, _, _, _, [], _, [], hW', trodAll_mk1 (shut_bool Try.underlying4 _), (trodAll_cons_mk (Below.trod laidOut (by kernel_rfl) (of_decide_eq_true (by kernel_rfl)) k0 bel lt0) (trodAll_cons_mk (Below.trod laidOut (by kernel_rfl) (of_decide_eq_true (by kernel_rfl)) k1 bel lt1) (trodAll_cons_mk (Below.trod laidOut (by kernel_rfl) (of_decide_eq_true (by kernel_rfl)) k2 bel lt2) trodAll_mk0))), rfl, bel.frame _, fun h => by cases h⟩

theorem over : Rows.fnExactSuitsRow.holds Try.pinned (OpenSpec.ofChange Rows.fnExactSuitsSpec) :=
  OpenClaim.holds_of_wide 6 Try.f6 rfl rfl rfl rfl rfl rfl rfl ⟨rfl, rfl, rfl, rfl, rfl⟩ rfl rfl rfl rfl rfl (by kernel_rfl) Try.func6 (by kernel_rfl)
    (of_decide_eq_true (by kernel_rfl)) (by unfold Func.isWrapper; first | (rw [if_pos (by decide +kernel)]; kernel_rfl) | (rw [if_neg (by decide +kernel)]; exact ⟨rfl, rfl⟩))
    (fun os started H enc _ => lifted os started H enc)
end fnExactSuits

theorem fnExactSuits_holds : Rows.FnExactSuitsSaid := fnExactSuits.over
#print axioms fnExactSuits_holds
end Go.Proofs.Ytfgapdididdcaaa
