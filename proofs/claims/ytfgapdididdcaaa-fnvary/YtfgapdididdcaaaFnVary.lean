/- An answer suits whoever asks as it was asked, whatever is drawn (the law answers true), and the code reads as it did: for every code, no condition. -/
import Derived.Test.YtfgapdididdcaaaVaryImpl
import Derived.Test.YtfgapdididdcaaaVaryLaw
import Derived.Test.YtfgapdididdcaaaVarySuit
import Derived.Test.YtfgapdididdcaaaFieldFar
import Derived.Test.YtfgapdididdcaaaFieldRoom
import Derived.Test.YtfgapdididdcaaaStreamMark
import Derived.Test.YtfgapdididdcaaaVaryDraw
import Derived.Test.YtfgapdididdcaaaRows
import Derived.WalkKit
import Derived.ProofKit
import Derived.OpenShut
import Derived.ShutString
import Derived.ChangeOld
import Derived.Below
import Derived.Deep.RegionHeld3
import Derived.Deep.DrawnRows
namespace Go.Proofs.Ytfgapdididdcaaa
namespace fnVary
open Go.ChangeShapes Go.WideShapes Go.ChangeAt Go.RowKit
open Go.ChangeMaps (open_string shut_string)
attribute [local go_sem ↓] Go.wp_at_zero Go.wp_at_succ

theorem own : ownKnob Try.prog.godebug = none := by kernel_rfl
theorem laidOut : laidOutB Try.prog = true := by kernel_rfl
def IsRow (k : IntKind) (w : World) (a : Option Addr) (len cap : Nat) (zs : List Int) : Prop :=
  (a = none ∧ len = 0 ∧ cap = 0 ∧ zs = []) ∨
  ∃ x, a = some x ∧ len ≤ cap ∧ cap ≤ maxLen ∧ zs.length = cap ∧ (∀ i, i < zs.length → w.cell? (x.add i) = some (.int k (zs.getD i 0))) ∧ ∀ n ∈ zs, (Lit.int k n).wf = true
theorem row_cell {k : IntKind} {w : World} {x : Addr} {zs : List Int} (h : ∀ i, i < zs.length → w.cell? (x.add i) = some (.int k (zs.getD i 0))) (j : Nat) (hj : j < zs.length) : ∃ b off, x = ⟨b, off, none⟩ ∧ w.cell? ⟨b, off + j, none⟩ = some (.int k (zs.getD j 0)) := by
  obtain ⟨b, off, spot⟩ := x
  have hc := h j hj
  have hspot : spot = none := by
    have := World.cell?_spot (h 0 (by omega))
    simpa [Addr.add] using this
  subst hspot
  refine ⟨b, off, rfl, ?_⟩
  by_cases e : j = 0
  · subst e; simpa [Addr.add] using hc
  · simpa [Addr.add, e] using hc
theorem row_code {w : World} {a : Option Addr} {len cap : Nat} {zs : List Int} (h : IsRow .u8 w a len cap zs) (hl : len ≤ 1048576) : CodeAt w w.heap.size a len zs := by
  refine ⟨hl, fun j hj => ?_⟩
  rcases h with ⟨rfl, rfl, _, _⟩ | ⟨x, rfl, h1, _, h3, h4, h5⟩
  · omega
  · obtain ⟨b, off, rfl, hc2⟩ := row_cell h4 j (by omega)
    have hm : zs.getD j 0 ∈ zs := by
      rw [List.getD_eq_getElem?_getD, List.getElem?_eq_getElem (by omega)]
      exact List.getElem_mem _
    have hr := bounds_u8 (h5 _ hm)
    exact ⟨b, off, rfl, World.block_lt_of_cell? _ _ hc2, hc2, hr.1, by omega⟩
theorem short_at {fs : List (ByteArray × ByteArray)} (h : ShortF fs) (i : Nat) (hi : i < fs.length) : (nameAt fs i).size ≤ 64 ∧ (valAt fs i).size ≤ 64 := by
  have := h (fs[i]) (List.getElem_mem hi)
  unfold nameAt valAt
  rw [List.getD_eq_getElem?_getD, List.getElem?_eq_getElem hi]
  exact this
theorem short_copy {fs : List (ByteArray × ByteArray)} (h : ShortF fs) : CopyF fs := fun i hi => by
  have := short_at h i hi
  omega
theorem short_get {fs : List (ByteArray × ByteArray)} (h : ShortF fs) (x : ByteArray) : (getV fs x).size ≤ 1048576 := by
  unfold getV
  split
  · rename_i hi
    have := short_at h _ hi
    omega
  · decide
open Classical in
noncomputable def starTo (xs : List ByteArray) (j : Nat) : Bool := decide (starT ∈ xs.take j)
theorem starTo_zero (xs : List ByteArray) : starTo xs 0 = false := by simp [starTo]
open Classical in
theorem starTo_all (xs : List ByteArray) : starTo xs xs.length = decide (starT ∈ xs) := by unfold starTo; rw [List.take_of_length_le (Nat.le_refl _)]
open Classical in
theorem starTo_step (xs : List ByteArray) (j : Nat) (h : j < xs.length) : starTo xs (j + 1) = (starTo xs j || ((textAt xs j).toList == [42])) := by
  have e : ((textAt xs j).toList == [42]) = true ↔ textAt xs j = starT := by
    rw [← starT_list]
    exact text_beq _ _
  unfold starTo
  rw [take_textAt xs j h]
  by_cases h1 : starT ∈ xs.take j
  · simp [h1]
  · by_cases h2 : textAt xs j = starT
    · rw [e.2 h2, Bool.or_true, h2]
      exact decide_eq_true (by simp)
    · have h3 : ((textAt xs j).toList == [42]) = false := Bool.eq_false_iff.2 (fun hh => h2 (e.1 hh))
      rw [h3, Bool.or_false, decide_eq_false h1]
      exact decide_eq_false (fun hm => by
        rcases List.mem_append.1 hm with hm | hm
        · exact h1 hm
        · exact h2 (List.mem_singleton.1 hm).symm)

set_option maxHeartbeats 8000000 in
set_option maxRecDepth 100000 in
theorem walk1 (w : World) (a0 : Option Addr) (len0 cap0 : Nat) (z0 : List Int) (w0 : IsRow .u8 w a0 len0 cap0 z0) :
    Calls Try.prog 3 #[.slice a0 len0 cap0] w fun e w' => e = .returned (.bool true) ∧ Below w.heap.size w w' := by
  classical
  by_cases hbig : (1048576 : Int) < (len0 : Int)
  · go_enter Try.func3, Try.ntmps3
    go_wp2_with (go_at_call 7; go_in)
    go_ret
    exact ⟨rfl, Below.refl _ _⟩
  have hcode := row_code w0 (by omega)
  have HCODE : Hid (∀ W, Below w.heap.size w W → CodeAt W W.heap.size a0 len0 z0) := fun W h => (hcode.below h).upTo h.size
  clear w0
  go_enter Try.func3, Try.ntmps3
  go_wp2_with (go_at_call 7; go_in)
  refine (drawSuits_any a0 len0 cap0 z0 _ hcode).mono ?_
  rintro e w1 ⟨v1, v3, v2, xs, ys, fs, rfl, o1, hxl, o3, hyl, o2, hfl, hsh, hb1⟩
  clear hcode
  obtain ⟨on, cn, rfl, hx⟩ := texts_own o1
  have HX : Hid (TextsA w1 on xs.length xs) := hx
  have HON1 : Hid (w1.ownsRow w.heap.size 9 1 (.slice on xs.length cn) xs.length (xs.map Value.string)) := o1
  have HOV1 : Hid (w1.ownsRow w.heap.size 9 1 v3 ys.length (ys.map Value.string)) := o3
  have HOL1 : Hid (w1.ownsRow w.heap.size 64 2 v2 fs.length (flatF fs)) := o2
  have HCP : Hid (CopyF fs) := short_copy hsh
  obtain ⟨P, hP⟩ : ∃ P, P = valsP xs fs := ⟨_, rfl⟩
  obtain ⟨sv, hsv⟩ : ∃ b, b = suitsP xs ys fs := ⟨_, rfl⟩
  obtain ⟨st, hst⟩ : ∃ b, b = decide (starT ∈ xs) := ⟨_, rfl⟩
  have hPl : P.length = xs.length := by rw [hP, valsP_len]
  have HSV : Hid (sv = true → st = false ∧ ys = P) := fun h => by
    rw [hsv] at h
    unfold suitsP at h
    have h2 := of_decide_eq_true h
    rw [hst, hP]
    exact ⟨decide_eq_false h2.1, h2.2.symm⟩
  have HOW : Hid (suitsP xs P fs = !st) := by
    show _ = _
    rw [hP, suits_own, hst]
    by_cases hh : starT ∈ xs <;> simp [hh]
  have HIS : Hid (∀ (u : Value) (ws : List ByteArray) (W : World), ws.length ≤ 3 → W.ownsRow w.heap.size 9 1 (.slice on xs.length cn) xs.length (xs.map Value.string) → W.ownsRow w.heap.size 9 1 u ws.length (ws.map Value.string) → W.ownsRow w.heap.size 64 2 v2 fs.length (flatF fs) → Calls Try.prog 9 #[.slice on xs.length cn, u, v2] W fun e w' => e = .returned (.bool (suitsP xs ws fs)) ∧ Below W.heap.size W w') := by
    intro u ws W hl h0 h1 h2
    obtain ⟨oa, ca, he, hx⟩ := texts_own h0
    cases he
    obtain ⟨ob, cb, rfl, hy⟩ := texts_own h1
    exact implSuits_any _ ob _ _ _ cb xs ws v2 fs.length _ fs W hx (by omega) hy (FieldsV.of_owns h2) (by omega) HCP.out (by omega)
  have HSS : Hid (∀ (u : Value) (ws : List ByteArray) (W : World), ws.length ≤ 3 → W.ownsRow w.heap.size 9 1 (.slice on xs.length cn) xs.length (xs.map Value.string) → W.ownsRow w.heap.size 9 1 u ws.length (ws.map Value.string) → W.ownsRow w.heap.size 64 2 v2 fs.length (flatF fs) → Calls Try.prog 10 #[.slice on xs.length cn, u, v2] W fun e w' => e = .returned (.bool (suitsP xs ws fs)) ∧ Below W.heap.size W w') := by
    intro u ws W hl h0 h1 h2
    obtain ⟨oa, ca, he, hx⟩ := texts_own h0
    cases he
    obtain ⟨ob, cb, rfl, hy⟩ := texts_own h1
    exact specSuits_any _ ob _ _ _ cb xs ws v2 fs.length _ fs W hx (by omega) hy (FieldsV.of_owns h2) (by omega)
  have HIV : Hid (∀ (u v : Value) (B B2 : Nat) (ws : List ByteArray) (gs : List (ByteArray × ByteArray)) (W : World), ws.length ≤ 3 → gs.length ≤ 40 → CopyF gs → W.ownsRow B 9 1 u ws.length (ws.map Value.string) → W.ownsRow B2 64 2 v gs.length (flatF gs) → Calls Try.prog 11 #[u, v] W fun e w' => ∃ r, e = .returned r ∧ w'.ownsRow W.heap.size 9 1 r ws.length ((valsP ws gs).map Value.string) ∧ Below W.heap.size W w') := by
    intro u v B B2 ws gs W hl hg hcp h0 h1
    obtain ⟨oa, ca, rfl, hx⟩ := texts_own h0
    have h := implValuesOf_any oa _ ca ws v gs.length _ gs W hx (by omega) (FieldsV.of_owns h1) (by omega) hcp
    unfold RowIs at h
    rw [valsP_len] at h
    exact h
  have HSW : Hid (∀ (u v : Value) (B B2 : Nat) (ws : List ByteArray) (gs : List (ByteArray × ByteArray)) (W : World), ws.length ≤ 3 → gs.length ≤ 40 → W.ownsRow B 9 1 u ws.length (ws.map Value.string) → W.ownsRow B2 64 2 v gs.length (flatF gs) → Calls Try.prog 15 #[u, v] W fun e w' => ∃ r, e = .returned r ∧ w'.ownsRow W.heap.size 9 1 r ws.length ((valsP ws gs).map Value.string) ∧ Below W.heap.size W w') := by
    intro u v B B2 ws gs W hl hg h0 h1
    obtain ⟨oa, ca, rfl, hx⟩ := texts_own h0
    have h := specValuesOf_any oa _ ca ws v gs.length _ gs W hx (by omega) (FieldsV.of_owns h1) (by omega)
    unfold RowIs at h
    rw [valsP_len] at h
    exact h
  have hq : (sv != sv) = false := by simp
  have HSVE : Hid (suitsP xs ys fs = sv) := hsv.symm
  have HPE : Hid (valsP xs fs = P) := hP.symm
  have HSTE : Hid (decide (starT ∈ xs) = st) := hst.symm
  have HPL : Hid (P.length = xs.length) := hPl
  clear hx o1 o2 o3 hsh hP hsv hst hPl
  go_wp2_with fail
  refine (HIS.out v3 ys _ hyl HON1.out HOV1.out HOL1.out).mono ?_
  rintro e w2 ⟨rfl, b⟩
  have hb2 : Below w.heap.size w w2 := hb1.trans (b.mono hb1.size)
  have HM2 : Hid (w1.heap.size ≤ w2.heap.size) := b.size
  have HON2 : Hid (w2.ownsRow w.heap.size 9 1 (.slice on xs.length cn) xs.length (xs.map Value.string)) := owns_below HON1.out b (fun g hg => owns_lt HON1.out hg)
  have HOV2 : Hid (w2.ownsRow w.heap.size 9 1 v3 ys.length (ys.map Value.string)) := owns_below HOV1.out b (fun g hg => owns_lt HOV1.out hg)
  have HOL2 : Hid (w2.ownsRow w.heap.size 64 2 v2 fs.length (flatF fs)) := owns_below HOL1.out b (fun g hg => owns_lt HOL1.out hg)
  clear hb1 HON1 HOV1 HOL1 b
  rw [HSVE.out]
  go_wp2_with fail
  refine (HSS.out v3 ys _ hyl HON2.out HOV2.out HOL2.out).mono ?_
  rintro e w3 ⟨rfl, b⟩
  have hb3 : Below w.heap.size w w3 := hb2.trans (b.mono hb2.size)
  have HM3 : Hid (w2.heap.size ≤ w3.heap.size) := b.size
  have HON3 : Hid (w3.ownsRow w.heap.size 9 1 (.slice on xs.length cn) xs.length (xs.map Value.string)) := owns_below HON2.out b (fun g hg => owns_lt HON2.out hg)
  have HOV3 : Hid (w3.ownsRow w.heap.size 9 1 v3 ys.length (ys.map Value.string)) := owns_below HOV2.out b (fun g hg => owns_lt HOV2.out hg)
  have HOL3 : Hid (w3.ownsRow w.heap.size 64 2 v2 fs.length (flatF fs)) := owns_below HOL2.out b (fun g hg => owns_lt HOL2.out hg)
  clear hb2 HON2 HOV2 HOL2 b
  rw [HSVE.out]
  go_wp2_with fail
  refine (HIV.out (.slice on xs.length cn) v2 _ _ xs fs _ hxl (by omega) HCP.out HON3.out HOL3.out).mono ?_
  rintro e w4 ⟨vO, rfl, own, b⟩
  have hb4 : Below w.heap.size w w4 := hb3.trans (b.mono hb3.size)
  have HM4 : Hid (w3.heap.size ≤ w4.heap.size) := b.size
  have HON4 : Hid (w4.ownsRow w.heap.size 9 1 (.slice on xs.length cn) xs.length (xs.map Value.string)) := owns_below HON3.out b (fun g hg => owns_lt HON3.out hg)
  have HOV4 : Hid (w4.ownsRow w.heap.size 9 1 v3 ys.length (ys.map Value.string)) := owns_below HOV3.out b (fun g hg => owns_lt HOV3.out hg)
  have HOL4 : Hid (w4.ownsRow w.heap.size 64 2 v2 fs.length (flatF fs)) := owns_below HOL3.out b (fun g hg => owns_lt HOL3.out hg)
  have HOO4 : Hid (w4.ownsRow w.heap.size 9 1 vO xs.length ((valsP xs fs).map Value.string)) := owns_wide own hb3.size
  have LOO : Hid (∀ g, vO.ownBlock = some g → w3.heap.size ≤ g) := fun g hg => owns_ge own hg
  have HIO : Hid (∀ g, vO.ownBlock = some g → g < w4.heap.size) := fun g hg => owns_lt own hg
  clear hb3 HON3 HOV3 HOL3 own b
  rw [HPE.out] at HOO4
  have HXK : Hid (TextsA w4 on xs.length xs) := by
    obtain ⟨oa, ca, he, hx⟩ := texts_own HON4.out
    cases he
    exact hx
  obtain ⟨oo, co, rfl, _⟩ := texts_own HOO4.out
  clear HX LOO HIO
  go_wp2_with fail
  go_loopw [8, 9] (fun s i wr => ∃ j : Nat, j ≤ xs.length ∧ i = .int .i64 (j : Int) ∧ s = .bool (starTo xs j) ∧ wr = w4) (fun _ i _ => xs.length - (intOf i).toNat)
  case atStart => exact ⟨0, Nat.zero_le _, rfl, by rw [starTo_zero], rfl⟩
  case round =>
    obtain ⟨j, hj, rfl, rfl, hwr⟩ := hrel
    have hwr := hwr.symm
    subst hwr
    by_cases hlt : (j : Int) < (xs.length : Int)
    · obtain ⟨g, rfl, hg, hc⟩ := HXK.out.2 j (by omega)
      have HST := starTo_step xs j (by omega)
      obtain ⟨x, hxx⟩ : ∃ x, x = textAt xs j := ⟨_, rfl⟩
      rw [← hxx] at hc HST
      clear hxx
      obtain ⟨sj, hsj⟩ : ∃ b, b = starTo xs j := ⟨_, rfl⟩
      rw [← hsj] at HST ⊢
      have HST2 : Hid (starTo xs (j + 1) = (sj || (x.toList == [42]))) := HST
      clear hsj HST
      cases sj with
      | true =>
        go_wp2_with fail
        go_roundw
        case rel => exact ⟨j + 1, by omega, by go_num, by rw [HST2.out]; rfl, by first | rfl | trivial⟩
        case measure => simp [intOf]; omega
      | false =>
        go_wp2_with fail
        go_roundw
        case rel => exact ⟨j + 1, by omega, by go_num, by rw [HST2.out]; rfl, by first | rfl | trivial⟩
        case measure => simp [intOf]; omega
    · obtain rfl : j = xs.length := by omega
      rw [starTo_all, HSTE.out]
      clear HXK
      go_wp2_with fail
      refine (drawValuesOf_any a0 len0 cap0 z0 _ (HCODE.out _ hb4)).mono ?_
      rintro e w5 ⟨u1, u2, xs2, fs2, rfl, o1, hxl2, o2, hfl2, hsh2, b⟩
      have hb5 : Below w.heap.size w w5 := hb4.trans (b.mono hb4.size)
      have HM5 : Hid (w4.heap.size ≤ w5.heap.size) := b.size
      have HON5 : Hid (w5.ownsRow w.heap.size 9 1 (.slice on xs.length cn) xs.length (xs.map Value.string)) := owns_below HON4.out b (fun g hg => owns_lt HON4.out hg)
      have HOV5 : Hid (w5.ownsRow w.heap.size 9 1 v3 ys.length (ys.map Value.string)) := owns_below HOV4.out b (fun g hg => owns_lt HOV4.out hg)
      have HOL5 : Hid (w5.ownsRow w.heap.size 64 2 v2 fs.length (flatF fs)) := owns_below HOL4.out b (fun g hg => owns_lt HOL4.out hg)
      have HOO5 : Hid (w5.ownsRow w.heap.size 9 1 (.slice oo xs.length co) xs.length (P.map Value.string)) := owns_below HOO4.out b (fun g hg => owns_lt HOO4.out hg)
      have HOM5 : Hid (w5.ownsRow w.heap.size 9 1 u1 xs2.length (xs2.map Value.string)) := owns_wide o1 hb4.size
      have HOK5 : Hid (w5.ownsRow w.heap.size 64 2 u2 fs2.length (flatF fs2)) := owns_wide o2 hb4.size
      clear hb4 HON4 HOV4 HOL4 HOO4 o1 o2 b
      have HCP2 : Hid (CopyF fs2) := short_copy hsh2
      clear hsh2
      go_wp2_with fail
      refine (drawVaryOf_any a0 len0 cap0 z0 _ (HCODE.out _ hb5)).mono ?_
      rintro e w6 ⟨u3, fs3, rfl, o1, hfl3, hsh3, b⟩
      have hb6 : Below w.heap.size w w6 := hb5.trans (b.mono hb5.size)
      have HM6 : Hid (w5.heap.size ≤ w6.heap.size) := b.size
      have HON6 : Hid (w6.ownsRow w.heap.size 9 1 (.slice on xs.length cn) xs.length (xs.map Value.string)) := owns_below HON5.out b (fun g hg => owns_lt HON5.out hg)
      have HOV6 : Hid (w6.ownsRow w.heap.size 9 1 v3 ys.length (ys.map Value.string)) := owns_below HOV5.out b (fun g hg => owns_lt HOV5.out hg)
      have HOL6 : Hid (w6.ownsRow w.heap.size 64 2 v2 fs.length (flatF fs)) := owns_below HOL5.out b (fun g hg => owns_lt HOL5.out hg)
      have HOO6 : Hid (w6.ownsRow w.heap.size 9 1 (.slice oo xs.length co) xs.length (P.map Value.string)) := owns_below HOO5.out b (fun g hg => owns_lt HOO5.out hg)
      have HOM6 : Hid (w6.ownsRow w.heap.size 9 1 u1 xs2.length (xs2.map Value.string)) := owns_below HOM5.out b (fun g hg => owns_lt HOM5.out hg)
      have HOK6 : Hid (w6.ownsRow w.heap.size 64 2 u2 fs2.length (flatF fs2)) := owns_below HOK5.out b (fun g hg => owns_lt HOK5.out hg)
      have HOR6 : Hid (w6.ownsRow w.heap.size 64 2 u3 fs3.length (flatF fs3)) := owns_wide o1 hb5.size
      clear hb5 HON5 HOV5 HOL5 HOO5 HOM5 HOK5 o1 b
      have HCP3 : Hid (CopyF fs3) := short_copy hsh3
      have HG3 : Hid ((getV fs3 varyName).size ≤ 1048576) := short_get hsh3 _
      clear hsh3
      obtain ⟨Q, hQ⟩ : ∃ Q, Q = varyP fs3 := ⟨_, rfl⟩
      have hQl : Q.length ≤ 1048577 := by
        rw [hQ]
        unfold varyP
        rw [List.length_map]
        have := (splitL_le (getV fs3 varyName)).1
        have := HG3.out
        omega
      have HIQ : Hid (∀ (B : Nat) (W : World), FieldsV W B u3 fs3.length fs3 → Calls Try.prog 16 #[u3] W fun e w' => ∃ r, e = .returned r ∧ w'.ownsRow W.heap.size 9 1 r Q.length (Q.map Value.string) ∧ Below W.heap.size W w') := by
        intro B W h
        rw [hQ]
        exact implVaryOf_any u3 _ B fs3 W h (by omega) HCP3.out HG3.out
      have HSQ : Hid (∀ (B : Nat) (W : World), FieldsV W B u3 fs3.length fs3 → Calls Try.prog 17 #[u3] W fun e w' => ∃ r, e = .returned r ∧ w'.ownsRow W.heap.size 9 1 r Q.length (Q.map Value.string) ∧ Below W.heap.size W w') := by
        intro B W h
        rw [hQ]
        exact specVaryOf_any u3 _ B fs3 W h (by omega) HG3.out
      clear hQ HCP3 HG3
      go_wp2_with fail
      refine (HIV.out u1 u2 _ _ xs2 fs2 _ hxl2 (by omega) HCP2.out HOM6.out HOK6.out).mono ?_
      rintro e w7 ⟨vA, rfl, own, b⟩
      have hb7 : Below w.heap.size w w7 := hb6.trans (b.mono hb6.size)
      have HM7 : Hid (w6.heap.size ≤ w7.heap.size) := b.size
      have HON7 : Hid (w7.ownsRow w.heap.size 9 1 (.slice on xs.length cn) xs.length (xs.map Value.string)) := owns_below HON6.out b (fun g hg => owns_lt HON6.out hg)
      have HOV7 : Hid (w7.ownsRow w.heap.size 9 1 v3 ys.length (ys.map Value.string)) := owns_below HOV6.out b (fun g hg => owns_lt HOV6.out hg)
      have HOL7 : Hid (w7.ownsRow w.heap.size 64 2 v2 fs.length (flatF fs)) := owns_below HOL6.out b (fun g hg => owns_lt HOL6.out hg)
      have HOO7 : Hid (w7.ownsRow w.heap.size 9 1 (.slice oo xs.length co) xs.length (P.map Value.string)) := owns_below HOO6.out b (fun g hg => owns_lt HOO6.out hg)
      have HOM7 : Hid (w7.ownsRow w.heap.size 9 1 u1 xs2.length (xs2.map Value.string)) := owns_below HOM6.out b (fun g hg => owns_lt HOM6.out hg)
      have HOK7 : Hid (w7.ownsRow w.heap.size 64 2 u2 fs2.length (flatF fs2)) := owns_below HOK6.out b (fun g hg => owns_lt HOK6.out hg)
      have HOR7 : Hid (w7.ownsRow w.heap.size 64 2 u3 fs3.length (flatF fs3)) := owns_below HOR6.out b (fun g hg => owns_lt HOR6.out hg)
      have HOA7 : Hid (w7.ownsRow w.heap.size 9 1 vA xs2.length ((valsP xs2 fs2).map Value.string)) := owns_wide own hb6.size
      have LOA : Hid (∀ g, vA.ownBlock = some g → w6.heap.size ≤ g) := fun g hg => owns_ge own hg
      have HIA : Hid (∀ g, vA.ownBlock = some g → g < w7.heap.size) := fun g hg => owns_lt own hg
      clear hb6 HON6 HOV6 HOL6 HOO6 HOM6 HOK6 HOR6 own b
      go_wp2_with fail
      refine (HSW.out u1 u2 _ _ xs2 fs2 _ hxl2 (by omega) HOM7.out HOK7.out).mono ?_
      rintro e w8 ⟨vB, rfl, own, b⟩
      clear HOM7
      clear HOK7
      have hb8 : Below w.heap.size w w8 := hb7.trans (b.mono hb7.size)
      have HM8 : Hid (w7.heap.size ≤ w8.heap.size) := b.size
      have HON8 : Hid (w8.ownsRow w.heap.size 9 1 (.slice on xs.length cn) xs.length (xs.map Value.string)) := owns_below HON7.out b (fun g hg => owns_lt HON7.out hg)
      have HOV8 : Hid (w8.ownsRow w.heap.size 9 1 v3 ys.length (ys.map Value.string)) := owns_below HOV7.out b (fun g hg => owns_lt HOV7.out hg)
      have HOL8 : Hid (w8.ownsRow w.heap.size 64 2 v2 fs.length (flatF fs)) := owns_below HOL7.out b (fun g hg => owns_lt HOL7.out hg)
      have HOO8 : Hid (w8.ownsRow w.heap.size 9 1 (.slice oo xs.length co) xs.length (P.map Value.string)) := owns_below HOO7.out b (fun g hg => owns_lt HOO7.out hg)
      have HOR8 : Hid (w8.ownsRow w.heap.size 64 2 u3 fs3.length (flatF fs3)) := owns_below HOR7.out b (fun g hg => owns_lt HOR7.out hg)
      have HOA8 : Hid (w8.ownsRow w.heap.size 9 1 vA xs2.length ((valsP xs2 fs2).map Value.string)) := owns_below HOA7.out b (fun g hg => owns_lt HOA7.out hg)
      have HOB8 : Hid (w8.ownsRow w.heap.size 9 1 vB xs2.length ((valsP xs2 fs2).map Value.string)) := owns_wide own hb7.size
      have LOB : Hid (∀ g, vB.ownBlock = some g → w7.heap.size ≤ g) := fun g hg => owns_ge own hg
      have HIB : Hid (∀ g, vB.ownBlock = some g → g < w8.heap.size) := fun g hg => owns_lt own hg
      clear hb7 HON7 HOV7 HOL7 HOO7 HOR7 HOA7 own b
      go_wp2_with fail
      refine (sameT_any vA vB xs2.length _ _ (valsP xs2 fs2) _ HOA8.out HOB8.out (by omega)).mono ?_
      rintro e w9 ⟨rfl, b⟩
      clear HOA8
      clear HOB8
      have hb9 : Below w.heap.size w w9 := hb8.trans (b.mono hb8.size)
      have HM9 : Hid (w8.heap.size ≤ w9.heap.size) := b.size
      have HON9 : Hid (w9.ownsRow w.heap.size 9 1 (.slice on xs.length cn) xs.length (xs.map Value.string)) := owns_below HON8.out b (fun g hg => owns_lt HON8.out hg)
      have HOV9 : Hid (w9.ownsRow w.heap.size 9 1 v3 ys.length (ys.map Value.string)) := owns_below HOV8.out b (fun g hg => owns_lt HOV8.out hg)
      have HOL9 : Hid (w9.ownsRow w.heap.size 64 2 v2 fs.length (flatF fs)) := owns_below HOL8.out b (fun g hg => owns_lt HOL8.out hg)
      have HOO9 : Hid (w9.ownsRow w.heap.size 9 1 (.slice oo xs.length co) xs.length (P.map Value.string)) := owns_below HOO8.out b (fun g hg => owns_lt HOO8.out hg)
      have HOR9 : Hid (w9.ownsRow w.heap.size 64 2 u3 fs3.length (flatF fs3)) := owns_below HOR8.out b (fun g hg => owns_lt HOR8.out hg)
      clear hb8 HON8 HOV8 HOL8 HOO8 HOR8 b
      go_wp2_with fail
      refine (HIQ.out _ _ (FieldsV.of_owns HOR9.out)).mono ?_
      rintro e w10 ⟨vC, rfl, own, b⟩
      have hb10 : Below w.heap.size w w10 := hb9.trans (b.mono hb9.size)
      have HM10 : Hid (w9.heap.size ≤ w10.heap.size) := b.size
      have HON10 : Hid (w10.ownsRow w.heap.size 9 1 (.slice on xs.length cn) xs.length (xs.map Value.string)) := owns_below HON9.out b (fun g hg => owns_lt HON9.out hg)
      have HOV10 : Hid (w10.ownsRow w.heap.size 9 1 v3 ys.length (ys.map Value.string)) := owns_below HOV9.out b (fun g hg => owns_lt HOV9.out hg)
      have HOL10 : Hid (w10.ownsRow w.heap.size 64 2 v2 fs.length (flatF fs)) := owns_below HOL9.out b (fun g hg => owns_lt HOL9.out hg)
      have HOO10 : Hid (w10.ownsRow w.heap.size 9 1 (.slice oo xs.length co) xs.length (P.map Value.string)) := owns_below HOO9.out b (fun g hg => owns_lt HOO9.out hg)
      have HOR10 : Hid (w10.ownsRow w.heap.size 64 2 u3 fs3.length (flatF fs3)) := owns_below HOR9.out b (fun g hg => owns_lt HOR9.out hg)
      have HOC10 : Hid (w10.ownsRow w.heap.size 9 1 vC Q.length (Q.map Value.string)) := owns_wide own hb9.size
      have LOC : Hid (∀ g, vC.ownBlock = some g → w9.heap.size ≤ g) := fun g hg => owns_ge own hg
      have HIC : Hid (∀ g, vC.ownBlock = some g → g < w10.heap.size) := fun g hg => owns_lt own hg
      clear hb9 HON9 HOV9 HOL9 HOO9 HOR9 own b
      go_wp2_with fail
      refine (HSQ.out _ _ (FieldsV.of_owns HOR10.out)).mono ?_
      rintro e w11 ⟨vD, rfl, own, b⟩
      clear HOR10
      have hb11 : Below w.heap.size w w11 := hb10.trans (b.mono hb10.size)
      have HM11 : Hid (w10.heap.size ≤ w11.heap.size) := b.size
      have HON11 : Hid (w11.ownsRow w.heap.size 9 1 (.slice on xs.length cn) xs.length (xs.map Value.string)) := owns_below HON10.out b (fun g hg => owns_lt HON10.out hg)
      have HOV11 : Hid (w11.ownsRow w.heap.size 9 1 v3 ys.length (ys.map Value.string)) := owns_below HOV10.out b (fun g hg => owns_lt HOV10.out hg)
      have HOL11 : Hid (w11.ownsRow w.heap.size 64 2 v2 fs.length (flatF fs)) := owns_below HOL10.out b (fun g hg => owns_lt HOL10.out hg)
      have HOO11 : Hid (w11.ownsRow w.heap.size 9 1 (.slice oo xs.length co) xs.length (P.map Value.string)) := owns_below HOO10.out b (fun g hg => owns_lt HOO10.out hg)
      have HOC11 : Hid (w11.ownsRow w.heap.size 9 1 vC Q.length (Q.map Value.string)) := owns_below HOC10.out b (fun g hg => owns_lt HOC10.out hg)
      have HOD11 : Hid (w11.ownsRow w.heap.size 9 1 vD Q.length (Q.map Value.string)) := owns_wide own hb10.size
      have LOD : Hid (∀ g, vD.ownBlock = some g → w10.heap.size ≤ g) := fun g hg => owns_ge own hg
      have HID : Hid (∀ g, vD.ownBlock = some g → g < w11.heap.size) := fun g hg => owns_lt own hg
      clear hb10 HON10 HOV10 HOL10 HOO10 HOC10 own b
      go_wp2_with fail
      refine (sameT_any vC vD Q.length _ _ Q _ HOC11.out HOD11.out (by omega)).mono ?_
      rintro e w12 ⟨rfl, b⟩
      clear HOC11
      clear HOD11
      have hb12 : Below w.heap.size w w12 := hb11.trans (b.mono hb11.size)
      have HM12 : Hid (w11.heap.size ≤ w12.heap.size) := b.size
      have HON12 : Hid (w12.ownsRow w.heap.size 9 1 (.slice on xs.length cn) xs.length (xs.map Value.string)) := owns_below HON11.out b (fun g hg => owns_lt HON11.out hg)
      have HOV12 : Hid (w12.ownsRow w.heap.size 9 1 v3 ys.length (ys.map Value.string)) := owns_below HOV11.out b (fun g hg => owns_lt HOV11.out hg)
      have HOL12 : Hid (w12.ownsRow w.heap.size 64 2 v2 fs.length (flatF fs)) := owns_below HOL11.out b (fun g hg => owns_lt HOL11.out hg)
      have HOO12 : Hid (w12.ownsRow w.heap.size 9 1 (.slice oo xs.length co) xs.length (P.map Value.string)) := owns_below HOO11.out b (fun g hg => owns_lt HOO11.out hg)
      clear hb11 HON11 HOV11 HOL11 HOO11 b
      have HOP : Hid (w12.ownsRow w.heap.size 9 1 (.slice oo xs.length co) P.length (P.map Value.string)) := by
        show World.ownsRow _ _ _ _ _ _ _
        rw [HPL.out]
        exact HOO12.out
      go_wp2_with fail
      refine (HIS.out (.slice oo xs.length co) P _ (by rw [HPL.out]; exact hxl) HON12.out HOP.out HOL12.out).mono ?_
      rintro e w13 ⟨rfl, b⟩
      have hb13 : Below w.heap.size w w13 := hb12.trans (b.mono hb12.size)
      have HM13 : Hid (w12.heap.size ≤ w13.heap.size) := b.size
      have HON13 : Hid (w13.ownsRow w.heap.size 9 1 (.slice on xs.length cn) xs.length (xs.map Value.string)) := owns_below HON12.out b (fun g hg => owns_lt HON12.out hg)
      have HOV13 : Hid (w13.ownsRow w.heap.size 9 1 v3 ys.length (ys.map Value.string)) := owns_below HOV12.out b (fun g hg => owns_lt HOV12.out hg)
      have HOL13 : Hid (w13.ownsRow w.heap.size 64 2 v2 fs.length (flatF fs)) := owns_below HOL12.out b (fun g hg => owns_lt HOL12.out hg)
      have HOO13 : Hid (w13.ownsRow w.heap.size 9 1 (.slice oo xs.length co) xs.length (P.map Value.string)) := owns_below HOO12.out b (fun g hg => owns_lt HOO12.out hg)
      clear hb12 HON12 HOV12 HOL12 HOO12 b HOP
      rw [HOW.out]
      clear HON13
      clear HOL13
      clear HIS HSS HIV HSW HIQ HSQ HCODE
      cases sv with
      | false =>
        cases st with
        | true =>
          go_wp2_with fail
          go_ret
          exact ⟨by simp, hb13⟩
        | false =>
          go_wp2_with fail
          go_ret
          exact ⟨by simp, hb13⟩
      | true =>
        obtain ⟨hs0, hy0⟩ := HSV.out rfl
        subst hs0
        subst hy0
        have HVN : Hid (w13.ownsRow w.heap.size 9 1 v3 xs.length (ys.map Value.string)) := by
          have h := HOV13.out
          rw [HPL.out] at h
          exact h
        go_wp2_with fail
        refine (sameT_any (.slice oo xs.length co) v3 xs.length _ _ ys _ HOO13.out HVN.out (by omega)).mono ?_
        rintro e w14 ⟨rfl, b⟩
        have hb14 : Below w.heap.size w w14 := hb13.trans (b.mono hb13.size)
        clear b
        go_wp2_with fail
        go_ret
        exact ⟨rfl, hb14⟩

set_option maxRecDepth 100000 in
theorem lifted (os : Os) (started : os.Started) (H : Type) (enc : TypeId × Value → H) :
    ReturnsInHanded {} Try.checked os 3 .any (Rows.fnVarySpec.pre6 enc Try.prog Try.f3 Rows.fnVaryRow.domain false) (Rows.fnVarySpec.post enc Try.prog Try.f3 false true false false) := by
  refine returnsInHanded_of_change (C := Try.checked) own started (by kernel_rfl) Try.func3
    (ChangeSpec.witness6 (enc := enc) (C := Try.checked) false ⟨#[], #[.slice none 0 0], []⟩ 8 (by kernel_rfl) (by kernel_rfl) (by kernel_rfl) (by kernel_rfl)) ?_
  intro W base args ds gs before hval0 hW _ _
  have hval : ∀ (j : Nat) t v, Try.f3.params[j]? = some t → args[j]? = some v → Value.okWide Try.prog W .any base t v := hval0
  have hW' := hW
  obtain ⟨p, q, hA0, hV, rfl, hfz, hnd⟩ := hW
  have hA : DataW.TrodAll enc Try.prog W 0 (fun _ => true) true Try.f3.params.toList args.toList ds p := hA0
  rw [Try.params3] at hA hval
  obtain ⟨v0, vs0, d0, ds0, p0, q0, hargs, rfl, rfl, h0, r0⟩ := trodAll_cons hA
  obtain ⟨rfl, rfl, rfl⟩ := trodAll_nil r0
  obtain rfl : args = #[v0] := by cases args; simp_all
  obtain ⟨rfl, rfl⟩ := trodVars_none hV
  obtain ⟨a0, len0, cap0, rfl⟩ := okWide_slice Try.underlying22 (hval 0 22 v0 rfl rfl)
  have k0 := h0
  have lt0 : ∀ x ∈ p0, x.block < W.heap.size := by obtain ⟨m, hm⟩ := k0; exact DataW.trod_lt m _ _ _ hm
  obtain ⟨z0, w0⟩ : ∃ zs, IsRow .u8 W a0 len0 cap0 zs := by
    obtain ⟨fuel, hf⟩ := h0
    rcases open_ints Try.underlying22 Try.underlying5 (by kernel_rfl) hf with ⟨hcs, _⟩ | ⟨x, l, c, zs, hcs, _, hl, hm, hz, _, hcell, hwz⟩
    · simp [Value.cells] at hcs
      obtain ⟨rfl, rfl, rfl⟩ := hcs
      exact ⟨[], .inl ⟨rfl, rfl, rfl, rfl⟩⟩
    · simp [Value.cells] at hcs
      obtain ⟨rfl, rfl, rfl⟩ := hcs
      exact ⟨zs, .inr ⟨_, rfl, hl, hm, by simpa using hz, hcell, hwz⟩⟩
  clear hA0 hval0
  refine (walk1 W a0 len0 cap0 z0 w0).mono fun e W' ⟨he, bel⟩ => ?_
  subst he
  exact ⟨_, rfl, _, _, _, [], _, [], hW', trodAll_mk1 (shut_bool Try.underlying4 _), (trodAll_cons_mk (Below.trod laidOut (by kernel_rfl) (of_decide_eq_true (by kernel_rfl)) k0 bel lt0) trodAll_mk0), rfl, bel.frame _, fun h => by cases h⟩

theorem over : Rows.fnVaryRow.holds Try.pinned (OpenSpec.ofChange Rows.fnVarySpec) :=
  OpenClaim.holds_of_wide 3 Try.f3 rfl rfl rfl rfl rfl rfl rfl ⟨rfl, rfl, rfl, rfl, rfl⟩ rfl rfl rfl rfl rfl (by kernel_rfl) Try.func3 (by kernel_rfl)
    (of_decide_eq_true (by kernel_rfl)) (by unfold Func.isWrapper; first | (rw [if_pos (by decide +kernel)]; kernel_rfl) | (rw [if_neg (by decide +kernel)]; exact ⟨rfl, rfl⟩))
    (fun os started H enc _ => lifted os started H enc)
end fnVary

theorem fnVary_holds : Rows.FnVarySaid := fnVary.over
#print axioms fnVary_holds
end Go.Proofs.Ytfgapdididdcaaa
