/- What was flushed is there behind any crash; a crash that keeps all is a flush, one that keeps none leaves what lay there (the law answers true), and the code reads as it did: for every code. -/
import Derived.Test.YtckjbgpdbehmaaaFnDiskE
import Derived.Test.YtckjbgpdbehmaaaRows
import Derived.WalkKit
import Derived.ProofKit
import Derived.OpenShut
import Derived.ShutString
import Derived.ChangeOld
import Derived.Below
import Derived.Deep.RegionHeld3
import Derived.Deep.DrawnRows
import Derived.Deep.CutRange
import Derived.Deep.DeepCutAuto
namespace Go.Proofs.Ytckjbgpdbehmaaa
namespace fnDisk
open Go.ChangeShapes Go.WideShapes Go.ChangeAt Go.RowKit
open Go.ChangeMaps (open_string shut_string)
attribute [local go_sem ↓] Go.wp_at_zero Go.wp_at_succ

theorem own : ownKnob Try.prog.godebug = none := by kernel_rfl
theorem laidOut : laidOutB Try.prog = true := by kernel_rfl
def IsRow (k : IntKind) (w : World) (a : Option Addr) (len cap : Nat) (zs : List Int) : Prop :=
  (a = none ∧ len = 0 ∧ cap = 0 ∧ zs = []) ∨
  ∃ x, a = some x ∧ len ≤ cap ∧ cap ≤ maxLen ∧ zs.length = cap ∧ (∀ i, i < zs.length → w.cell? (x.add i) = some (.int k (zs.getD i 0))) ∧ ∀ n ∈ zs, (Lit.int k n).wf = true
theorem row_cell {k : IntKind} {w : World} {x : Addr} {zs : List Int} (h : ∀ i, i < zs.length → w.cell? (x.add i) = some (.int k (zs.getD i 0))) (j : Nat) (hj : j < zs.length) : ∃ b off, x = ⟨b, off, none⟩ ∧ w.cell? ⟨b, off + j, none⟩ = some (.int k (zs.getD j 0)) := by
  obtain ⟨b, off, spot⟩ := x
  have hc := h j hj
  have hspot : spot = none := by
    have := World.cell?_spot (h 0 (by omega))
    simpa [Addr.add] using this
  subst hspot
  refine ⟨b, off, rfl, ?_⟩
  by_cases e : j = 0
  · subst e; simpa [Addr.add] using hc
  · simpa [Addr.add, e] using hc
theorem row_code {w : World} {a : Option Addr} {len cap : Nat} {zs : List Int} (h : IsRow .u8 w a len cap zs) (hl : len ≤ 1048576) : CodeAt w w.heap.size a len zs := by
  refine ⟨hl, fun j hj => ?_⟩
  rcases h with ⟨rfl, rfl, _, _⟩ | ⟨x, rfl, h1, _, h3, h4, h5⟩
  · omega
  · obtain ⟨b, off, rfl, hc2⟩ := row_cell h4 j (by omega)
    have hm : zs.getD j 0 ∈ zs := by
      rw [List.getD_eq_getElem?_getD, List.getElem?_eq_getElem (by omega)]
      exact List.getElem_mem _
    have hr := bounds_u8 (h5 _ hm)
    exact ⟨b, off, rfl, World.block_lt_of_cell? _ _ hc2, hc2, hr.1, by omega⟩
/-- A landed disk whose cell j tells z. -/
def Good (cs : List ByteArray) (j : Nat) (z : ByteArray) : Prop := DiskP cs [] ∧ (∀ i, i < 20 → (textAt cs i).size ≤ 1048576) ∧ getD' cs [] (j : Int) = z
theorem get_good {W : World} {B : Nat} {p1 p2 : Value} {n n1 : Nat} {cs : List ByteArray} {j : Nat} {z : ByteArray} (h : DiskO W B p1 n1 cs p2 n []) (hg : Good cs j z) :
    Calls Try.prog 19 #[.agg #[p1, p2], .int .i64 (j : Int)] W fun e w' => TextIs z W e w' := by
  have hn : n = 0 := (write_len h.pend).symm
  subst hn
  have hl : n1 = 20 := by
    have h1 := h.cells.1
    have h2 := hg.1.1
    rw [List.length_map] at h1
    omega
  subst hl
  rw [← hg.2.2]
  exact implDiskGet_any p1 p2 20 cs 0 [] B W h (by omega) (by omega) hg.2.1 (fun x hx => by simp at hx) _
theorem good_land {cs : List ByteArray} {ws : List (Int × ByteArray)} (hp : DiskP cs ws) (h1 : ∀ i, i < 20 → (textAt cs i).size ≤ 1048576) (h2 : ∀ x ∈ ws, (x.2).size ≤ 1048576) (f : Nat → Bool) (j : Nat) (hj : j < 20) : Good (landC cs ws f) j (textAt (landTo cs ws f ws.length) j) := by
  rw [landC_yes hp]
  have hr := landed_right hp f ws.length
  refine ⟨hr, land_size h1 h2 f _ (Nat.le_refl _), ?_⟩
  rw [get_yes hr j (by omega)]
  rfl
theorem good_all {cs : List ByteArray} {ws : List (Int × ByteArray)} (hp : DiskP cs ws) (h1 : ∀ i, i < 20 → (textAt cs i).size ≤ 1048576) (h2 : ∀ x ∈ ws, (x.2).size ≤ 1048576) (f : Nat → Bool) (hf : ∀ k, k < ws.length → f k = true) (j : Nat) (hj : j < 20) : Good (landC cs ws f) j (getD' cs ws (j : Int)) := by
  have h := good_land hp h1 h2 f j hj
  have e : textAt (landTo cs ws f ws.length) j = getD' cs ws (j : Int) := by
    rw [land_all cs ws f (fun _ => true) _ hf, land_get hp j hj _ (Nat.le_refl _), get_yes hp j (by omega)]
  rw [e] at h
  exact h
theorem good_none {cs : List ByteArray} {ws : List (Int × ByteArray)} (hp : DiskP cs ws) (h1 : ∀ i, i < 20 → (textAt cs i).size ≤ 1048576) (h2 : ∀ x ∈ ws, (x.2).size ≤ 1048576) (j : Nat) (hj : j < 20) : Good (landC cs ws (keptB [])) j (textAt cs j) := by
  have h := good_land hp h1 h2 (keptB []) j hj
  rw [land_none cs ws (keptB []) _ (fun k _ => keptB_no [] k (Nat.zero_le _))] at h
  exact h
/-- The same disk crashed once more. -/
theorem good_again {cs : List ByteArray} {j : Nat} {z : ByteArray} (h : Good cs j z) (f : Nat → Bool) : Good (landC cs [] f) j z := by
  have e : landC cs [] f = cs := by
    rw [landC_yes h.1]
    rfl
  rw [e]
  exact h
theorem nil_bools (W : World) : BoolA W none 0 [] := ⟨rfl, fun i h => absurd h (by omega)⟩
theorem kept_rep (n k : Nat) (h : k < n) : keptB (List.replicate n true) k = true := by
  unfold keptB
  rw [List.getD_eq_getElem?_getD, List.getElem?_replicate, if_pos h]
  rfl

open Go.Lib hiding intOf
set_option maxHeartbeats 400000 in
theorem big_no (a : Option Addr) (len cap : Nat) (w : World) (h : ¬ (1048576 : Int) < (len : Int)) : Calls Try.prog 11 #[.slice a len cap] w fun e w' => e = .returned (.bool false) ∧ w' = w := by
  go_enter Try.func11, Try.ntmps11
  go_wp2
  go_ret
  exact ⟨rfl, rfl⟩
set_option maxHeartbeats 400000 in
theorem big_yes (a : Option Addr) (len cap : Nat) (w : World) (h : (1048576 : Int) < (len : Int)) : Calls Try.prog 11 #[.slice a len cap] w fun e w' => e = .returned (.bool true) ∧ w' = w := by
  go_enter Try.func11, Try.ntmps11
  go_wp2
  go_ret
  exact ⟨rfl, rfl⟩
set_option maxHeartbeats 16000000 in
set_option maxRecDepth 100000 in
theorem walk1 (w : World) (a0 : Option Addr) (len0 cap0 : Nat) (zc0 : List Int) (w0 : IsRow .u8 w a0 len0 cap0 zc0) :
    Calls Try.prog 3 #[.slice a0 len0 cap0] w fun e w' => e = .returned (.bool true) ∧ Below w.heap.size w w' := by
  classical
  by_cases hbig : (1048576 : Int) < (len0 : Int)
  · go_enter Try.func3, Try.ntmps3
    go_wp2_with fail
    refine (big_yes a0 len0 cap0 _ hbig).mono ?_
    rintro e w1 ⟨rfl, rfl⟩
    go_wp2
    go_ret
    exact ⟨rfl, Below.refl _ _⟩
  have hcode := row_code w0 (by omega)
  have HCODE : Hid (∀ W, Below w.heap.size w W → CodeAt W W.heap.size a0 len0 zc0) := fun W h => (hcode.below h).upTo h.size
  have HBIG : Hid (¬ (1048576 : Int) < (len0 : Int)) := hbig
  clear w0 hcode hbig
  go_enter Try.func3, Try.ntmps3
  go_wp2_with fail
  refine (big_no a0 len0 cap0 _ (by have := HBIG.out; omega)).mono ?_
  rintro e w1 ⟨rfl, hw1⟩
  rw [hw1]
  clear hw1 w1
  go_wp2_with fail
  refine (drawCrash_any a0 len0 cap0 zc0 _ (HCODE.out _ (Below.refl _ _))).mono ?_
  rintro e w2 ⟨v1, v2, cs, ws, vK, ks, rfl, hoK, hks, hA, bw⟩
  obtain ⟨oK, pK, rfl⟩ := slice_of_owns hoK
  obtain ⟨o1, n1, c1, o2, c2, rfl, rfl⟩ := hA.forms
  have HA : Hid (∀ W, Below w2.heap.size w2 W → AnyD W w.heap.size (.slice o1 n1 c1) (.slice o2 ws.length c2) cs ws ∧ BoolA W oK ks.length ks) := fun W h => ⟨hA.below h, (bool_view hoK).below h⟩
  have hws : ws.length ≤ 17 := hA.2.1
  have HB2 : Hid (Below w.heap.size w w2) := bw
  clear hA hoK bw HCODE HBIG
  go_wp2_with fail
  have b3 : Below w2.heap.size w2 (w2.alloc (.cells #[.slice o1 n1 c1, .slice o2 ws.length c2] 27)) := (Below.refl _ _).alloc (Nat.le_refl _) _
  refine (implCrash_d _ _ cs ws _ _ (HA.out _ b3).1 oK ks.length pK ks (HA.out _ b3).2).mono ?_
  rintro e w3 ⟨e1, e2, rfl, hE, bw⟩
  obtain ⟨oe, pe, rfl⟩ := slice_of_owns hE.cells
  obtain ⟨oe2, pe2, rfl⟩ := slice_of_owns hE.pend
  have hd3 := blk_below (heap_alloc_new w2 (.cells #[.slice o1 n1 c1, .slice o2 ws.length c2] 27)) bw
  have HD3 : Hid (w3.heap[w2.heap.size]? = some (.cells #[.slice o1 n1 c1, .slice o2 ws.length c2] 27)) := hd3
  have HB3 : Hid (Below w2.heap.size w2 w3) := b3.trans (bw.mono b3.size)
  have Ad0 : ∀ o, (w3.alloc o).cell? ⟨w2.heap.size, 0, none⟩ = some (.slice o1 n1 c1) := fun o => (cell_of (blk_alloc hd3 o) 0).trans rfl
  have Ad1 : ∀ o, (w3.alloc o).cell? ⟨w2.heap.size, 1, none⟩ = some (.slice o2 ws.length c2) := fun o => (cell_of (blk_alloc hd3 o) 1).trans rfl
  have HE3 : Hid (∀ W, Below w3.heap.size w3 W → DiskO W w2.heap.size (.slice oe (landC cs ws (keptB ks)).length pe) (landC cs ws (keptB ks)).length (landC cs ws (keptB ks)) (.slice oe2 0 pe2) 0 []) := fun W h => ⟨owns_below (owns_wide hE.cells b3.size) h (fun _ hg => owns_lt hE.cells hg), owns_below (owns_wide hE.pend b3.size) h (fun _ hg => owns_lt hE.pend hg)⟩
  clear hd3 bw b3 hE
  go_wp2_with fail
  have b4 : Below w3.heap.size w3 (w3.alloc (.cells #[.slice oe (landC cs ws (keptB ks)).length pe, .slice oe2 0 pe2] 27)) := (Below.refl _ _).alloc (Nat.le_refl _) _
  have b4' := HB3.out.trans (b4.mono HB3.out.size)
  refine (specCrash_d _ _ cs ws _ _ (HA.out _ b4').1 oK ks.length pK ks (HA.out _ b4').2).mono ?_
  rintro e w4 ⟨f1, f2, rfl, hF, bw⟩
  obtain ⟨of, pf, rfl⟩ := slice_of_owns hF.cells
  obtain ⟨of2, pf2, rfl⟩ := slice_of_owns hF.pend
  have HB4 : Hid (Below w3.heap.size w3 w4) := b4.trans (bw.mono b4.size)
  have HD4 : Hid (w4.heap[w2.heap.size]? = some (.cells #[.slice o1 n1 c1, .slice o2 ws.length c2] 27)) := blk_below (blk_alloc HD3.out _) bw
  have HQ4 : Hid (w4.heap[w3.heap.size]? = some (.cells #[.slice oe (landC cs ws (keptB ks)).length pe, .slice oe2 0 pe2] 27)) := blk_below (heap_alloc_new w3 _) bw
  have HF4 : Hid (∀ W, Below w4.heap.size w4 W → W.ownsRow w3.heap.size 9 1 (.slice of (landC cs ws (keptB ks)).length pf) (landC cs ws (keptB ks)).length ((landC cs ws (keptB ks)).map Value.string)) := fun W h => owns_below (owns_wide hF.cells b4.size) h (fun _ hg => owns_lt hF.cells hg)
  clear bw b4 b4' hF HD3 Ad0 Ad1
  go_upto_region 6 with fail
  obtain ⟨w5, hw5⟩ : ∃ W, W = w4.alloc (.cells #[.slice of (landC cs ws (keptB ks)).length pf, .slice of2 0 pf2] 27) := ⟨_, rfl⟩
  obtain ⟨qf, hqf⟩ : ∃ q, q = w4.heap.size := ⟨_, rfl⟩
  obtain ⟨qe, hqe⟩ : ∃ q, q = w3.heap.size := ⟨_, rfl⟩
  obtain ⟨qd, hqd⟩ : ∃ q, q = w2.heap.size := ⟨_, rfl⟩
  rw [← hw5, ← hqf, ← hqe, ← hqd]
  have b5 : Below w4.heap.size w4 w5 := by rw [hw5]; exact (Below.refl _ _).alloc (Nat.le_refl _) _
  have hd5 : w5.heap[qd]? = some (.cells #[.slice o1 n1 c1, .slice o2 ws.length c2] 27) := by rw [hqd]; exact blk_below HD4.out b5
  have he5 : w5.heap[qe]? = some (.cells #[.slice oe (landC cs ws (keptB ks)).length pe, .slice oe2 0 pe2] 27) := by rw [hqe]; exact blk_below HQ4.out b5
  have hf5 : w5.heap[qf]? = some (.cells #[.slice of (landC cs ws (keptB ks)).length pf, .slice of2 0 pf2] 27) := by rw [hw5, hqf]; exact heap_alloc_new _ _
  have B35 : Below w3.heap.size w3 w5 := HB4.out.trans (b5.mono HB4.out.size)
  have B25 : Below w2.heap.size w2 w5 := HB3.out.trans (B35.mono HB3.out.size)
  have HK : Hid (∀ W, Below w5.heap.size w5 W → ((W.cell? ⟨qd, 0, none⟩ = some (.slice o1 n1 c1) ∧ W.cell? ⟨qd, 1, none⟩ = some (.slice o2 ws.length c2)) ∧ (W.cell? ⟨qe, 0, none⟩ = some (.slice oe (landC cs ws (keptB ks)).length pe) ∧ W.cell? ⟨qe, 1, none⟩ = some (.slice oe2 0 pe2)) ∧ W.cell? ⟨qf, 0, none⟩ = some (.slice of (landC cs ws (keptB ks)).length pf)) ∧ AnyD W w.heap.size (.slice o1 n1 c1) (.slice o2 ws.length c2) cs ws ∧ BoolA W oK ks.length ks ∧ W.ownsRow w2.heap.size 9 1 (.slice oe (landC cs ws (keptB ks)).length pe) (landC cs ws (keptB ks)).length ((landC cs ws (keptB ks)).map Value.string) ∧ W.ownsRow w3.heap.size 9 1 (.slice of (landC cs ws (keptB ks)).length pf) (landC cs ws (keptB ks)).length ((landC cs ws (keptB ks)).map Value.string) ∧ Below w.heap.size w W) := fun W h => by
    have h2 := B25.trans (h.mono B25.size)
    have h3 := B35.trans (h.mono B35.size)
    have h4 := b5.trans (h.mono b5.size)
    exact ⟨⟨⟨(cell_of (blk_below hd5 h) 0).trans rfl, (cell_of (blk_below hd5 h) 1).trans rfl⟩, ⟨(cell_of (blk_below he5 h) 0).trans rfl, (cell_of (blk_below he5 h) 1).trans rfl⟩, (cell_of (blk_below hf5 h) 0).trans rfl⟩, (HA.out W h2).1, (HA.out W h2).2, (HE3.out W h3).cells, HF4.out W h4, HB2.out.trans (h2.mono HB2.out.size)⟩
  have HDD : Hid (w5.heap[qd]? = some (.cells #[.slice o1 n1 c1, .slice o2 ws.length c2] 27)) := hd5
  clear b5 hd5 he5 hf5 B35 B25 hw5 hqf hqe hqd HA HD4 HQ4 HE3 HF4 HB2 HB3 HB4
  have HLL : Hid ((landC cs ws (keptB ks)).length ≤ 20) := by
    by_cases hp : DiskP cs ws
    · rw [landC_yes hp, landTo_len, hp.1]; exact Nat.le_refl _
    · rw [landC_no hp]; exact Nat.zero_le _
  obtain ⟨⟨d0, d1⟩, ⟨d2, d3⟩, d4⟩ := (HK.out _ (Below.refl _ _)).1
  have hc0 := (Below.refl w5.heap.size w5).drew
  by_cases hp : DiskP cs ws
  · have HP : Hid (DiskP cs ws) := hp
    clear hp
    go_region_held3 (fun W => (W.cell? ⟨qd, 0, none⟩ = some (.slice o1 n1 c1) ∧ W.cell? ⟨qd, 1, none⟩ = some (.slice o2 ws.length c2)) ∧ (W.cell? ⟨qe, 0, none⟩ = some (.slice oe (landC cs ws (keptB ks)).length pe) ∧ W.cell? ⟨qe, 1, none⟩ = some (.slice oe2 0 pe2)) ∧ W.cell? ⟨qf, 0, none⟩ = some (.slice of (landC cs ws (keptB ks)).length pf)) (first | assumption | go_keep) (first | (go_at_call 15; refine (sameT_any _ _ _ _ _ (landC cs ws (keptB ks)) _ (HK.out _ hc0).2.2.2.1 (HK.out _ hc0).2.2.2.2.1 (by have := HLL.out; omega)).mono ?_; rintro e u0 ⟨rfl, hb0⟩; have hc1 := hc0.trans (hb0.mono hc0.size); obtain ⟨⟨e00, e01⟩, ⟨e02, e03⟩, e04⟩ := (HK.out _ hc1).1) | (go_at_call 16; refine (implDiskOk_d _ _ cs ws _ _ (HK.out _ hc1).2.1).mono ?_; rintro e u1 ⟨bb1, rfl, hbb1, hb1⟩; obtain rfl : bb1 = true := hbb1.2 HP.out; clear hbb1; have hc2 := hc1.trans (hb1.mono hc1.size); obtain ⟨⟨e10, e11⟩, ⟨e12, e13⟩, e14⟩ := (HK.out _ hc2).1) | (go_at_call 17; refine (specDiskOk_d _ _ cs ws _ _ (HK.out _ hc2).2.1).mono ?_; rintro e u2 ⟨bb2, rfl, hbb2, hb2⟩; obtain rfl : bb2 = true := hbb2.2 HP.out; clear hbb2; have hc3 := hc2.trans (hb2.mono hc2.size); obtain ⟨⟨e20, e21⟩, ⟨e22, e23⟩, e24⟩ := (HK.out _ hc3).1))
    go_wp2_with fail
    refine (specDiskOk_d _ _ cs ws _ _ (HK.out _ hc3).2.1).mono ?_
    rintro e u3 ⟨bb3, rfl, hbb3, hb3⟩
    obtain rfl : bb3 = true := hbb3.2 HP.out
    clear hbb3
    have hc4 := hc3.trans (hb3.mono hc3.size)
    obtain ⟨⟨e30, e31⟩, ⟨e32, e33⟩, e34⟩ := (HK.out _ hc4).1
    clear d0 d1 d2 d3 d4 e00 e01 e02 e03 e04 e10 e11 e12 e13 e14 e20 e21 e22 e23 e24
    go_wp2_with fail
    refine (implFlush_d _ _ cs ws _ _ (HK.out _ hc4).2.1).mono ?_
    rintro e u4 ⟨g1, g2, rfl, hG, hb4⟩
    have hLF : (landC cs ws (fun _ => true)).length = 20 := by rw [landC_yes HP.out, landTo_len, HP.out.1]
    rw [hLF] at hG
    clear hLF
    obtain ⟨og, pg, rfl⟩ := slice_of_owns hG.cells
    obtain ⟨og2, pg2, rfl⟩ := slice_of_owns hG.pend
    have HC5 : Hid (Below w5.heap.size w5 u4) := hc4.trans (hb4.mono hc4.size)
    have HG4 : Hid (∀ W, Below u4.heap.size u4 W → DiskO W u3.heap.size (.slice og 20 pg) 20 (landC cs ws (fun _ => true)) (.slice og2 0 pg2) 0 []) := fun W h => ⟨owns_below hG.cells h (fun _ hg => owns_lt hG.cells hg), owns_below hG.pend h (fun _ hg => owns_lt hG.pend hg)⟩
    clear e30 e31 e32 e33 e34 hG hc0 hc1 hc2 hc3 hc4 hb0 hb1 hb2 hb3 hb4
    go_upto_region 11 with fail
    obtain ⟨w6, hw6⟩ : ∃ W, W = u4.alloc (.cells #[.slice og 20 pg, .slice og2 0 pg2] 27) := ⟨_, rfl⟩
    obtain ⟨qg, hqg⟩ : ∃ q, q = u4.heap.size := ⟨_, rfl⟩
    rw [← hw6, ← hqg]
    have b6 : Below u4.heap.size u4 w6 := by rw [hw6]; exact (Below.refl _ _).alloc (Nat.le_refl _) _
    have hg6 : w6.heap[qg]? = some (.cells #[.slice og 20 pg, .slice og2 0 pg2] 27) := by rw [hw6, hqg]; exact heap_alloc_new _ _
    have B56 : Below w5.heap.size w5 w6 := HC5.out.trans (b6.mono HC5.out.size)
    obtain ⟨hh1, hh2, hh3, hh4⟩ := (HK.out _ B56).2.1
    rcases hh4 with ⟨h20, hrow, hsz⟩ | ⟨hnil, _⟩
    case inr => exact absurd HP.out (AnyD.right hnil)
    obtain ⟨on, cn, e20⟩ := slice_of_owns hrow
    cases e20
    obtain ⟨gc, rfl⟩ := owns_some hrow (by omega)
    have HS1 : Hid (∀ i, i < 20 → (textAt cs i).size ≤ 1048576) := hsz
    have HS2 : Hid (∀ x ∈ ws, (x.2).size ≤ 1048576) := hh3
    have HM : Hid (∀ W, Below w6.heap.size w6 W → ((W.heap[qd]? = some (.cells #[.slice (some ⟨gc, 0, none⟩) 20 c1, .slice o2 ws.length c2] 27) ∧ W.heap[qg]? = some (.cells #[.slice og 20 pg, .slice og2 0 pg2] 27)) ∧ (W.cell? ⟨qd, 0, none⟩ = some (.slice (some ⟨gc, 0, none⟩) 20 c1) ∧ W.cell? ⟨qd, 1, none⟩ = some (.slice o2 ws.length c2)) ∧ (W.cell? ⟨qg, 0, none⟩ = some (.slice og 20 pg) ∧ W.cell? ⟨qg, 1, none⟩ = some (.slice og2 0 pg2)) ∧ ∀ j, j < 20 → W.cell? ⟨gc, j, none⟩ = some (.string (textAt cs j))) ∧ AnyD W w.heap.size (.slice (some ⟨gc, 0, none⟩) 20 c1) (.slice o2 ws.length c2) cs ws ∧ DiskO W u3.heap.size (.slice og 20 pg) 20 (landC cs ws (fun _ => true)) (.slice og2 0 pg2) 0 [] ∧ BoolA W oK ks.length ks ∧ Below w.heap.size w W ∧ W.cell? ⟨qe, 1, none⟩ = some (.slice oe2 0 pe2)) := fun W h => by
      have h2 := B56.trans (h.mono B56.size)
      have h3 := b6.trans (h.mono b6.size)
      have hk := HK.out W h2
      refine ⟨⟨⟨blk_below HDD.out h2, blk_below hg6 h⟩, hk.1.1, ⟨(cell_of (blk_below hg6 h) 0).trans rfl, (cell_of (blk_below hg6 h) 1).trans rfl⟩, fun j hj => ?_⟩, hk.2.1, HG4.out W h3, hk.2.2.1, hk.2.2.2.2.2, hk.1.2.1.2⟩
      obtain ⟨g', e, _, r⟩ := (text_view (owns_below hrow h (fun _ hg => owns_lt hrow hg))).2 j hj
      cases e
      exact r
    clear hh1 hh2 hh3 h20 hrow hsz b6 hg6 B56 hw6 hqg HK HG4 HC5
    obtain ⟨i0, hi, hz0, hz1, hz2⟩ := info_parts infoBool
    have HR0 : Hid ((w6.alloc (.cells #[] 4)).ownsRow w6.heap.size 4 1 (.slice (some ⟨w6.heap.size, 0, none⟩) 0 0) 0 ((List.replicate 0 true).map Value.bool)) := ⟨rfl, .inr ⟨_, _, _, rfl, Nat.le_refl _, heap_alloc_new _ _, Nat.le_refl _, by unfold maxLen; omega, rfl, rfl⟩⟩
    have HBA : Hid (Below w6.heap.size w6 (w6.alloc (.cells #[] 4))) := (Below.refl _ _).alloc (Nat.le_refl _) _
    obtain ⟨⟨_, ⟨d0, d1⟩, ⟨d2, d3⟩, _⟩, _⟩ := HM.out _ (Below.refl _ _)
    go_wp2_with fail
    go_loopw [8, 9] (fun v i wr => ∃ (j : Nat) (oA : Option Addr) (pA : Nat), j ≤ ws.length ∧ i = .int .i64 (j : Int) ∧ v = .slice oA j pA ∧ Hid (Below w6.heap.size w6 wr ∧ wr.ownsRow w6.heap.size 4 1 (.slice oA j pA) j ((List.replicate j true).map Value.bool))) (fun _ i _ => ws.length - (intOf i).toNat)
    case atStart => exact ⟨0, _, 0, Nat.zero_le _, rfl, rfl, ⟨HBA.out, HR0.out⟩⟩
    case round =>
      obtain ⟨j, oA, pA, hj, rfl, rfl, HW⟩ := hrel
      clear HR0 HBA d0 d1 d2 d3
      obtain ⟨⟨_, ⟨d0, d1⟩, ⟨d2, d3⟩, _⟩, _⟩ := HM.out _ HW.out.1
      by_cases hlt : (j : Int) < (ws.length : Int)
      · have hown := HW.out.2
        have h63 : j + 1 ≤ maxLen := by unfold maxLen; omega
        have h47 : (j + 1) * 1 ≤ 140737488355328 := by omega
        have HBS : ∀ o, w6.heap.size ≤ (wr.alloc o).heap.size := fun o => by have := HW.out.1.size; simp; omega
        go_wp2_with (at_builtin; refine wpList_append_own _ rfl _ _ 28 rfl w6.heap.size 4 i0 (.bool false) 1 1 Try.underlying28 hi hz0 hz1 hz2 rfl (by decide) _ _ _ rfl (hown.alloc _) ⟨wr.heap.size, 0, none⟩ 1 1 [.bool true] rfl rfl (cell_one_new _ _ _) (by intro u hu; simp at hu; subst hu; rfl) h63 h47 (HBS _) ?_)
        intro v5 w7 hown2 hgrow _
        have HE : Hid (Below w6.heap.size w6 w7) := (HW.out.1.alloc HW.out.1.size _).grown hgrow (HBS _) (fun g hg => owns_ge hown hg)
        obtain ⟨oA2, pA2, rfl⟩ := slice_of_owns hown2
        have HO2 : Hid (w7.ownsRow w6.heap.size 4 1 (.slice oA2 (j + 1) pA2) (j + 1) ((List.replicate (j + 1) true).map Value.bool)) := by rw [List.replicate_succ', List.map_append, List.map_replicate]; exact hown2
        clear hown hown2 hgrow h63 h47 HBS HW d0 d1 d2 d3
        go_wp2_with fail
        go_roundw
        case rel => exact ⟨j + 1, oA2, pA2, by omega, by go_num, rfl, ⟨HE.out, HO2.out⟩⟩
        case measure => simp [intOf]; omega
      · obtain rfl : j = ws.length := by omega
        obtain ⟨wA, hwA⟩ : ∃ W : World, W = wr := ⟨_, rfl⟩
        subst hwA
        have HJ0 : Hid (∀ W, Below wA.heap.size wA W → Below w6.heap.size w6 W ∧ BoolA W oA ws.length (List.replicate ws.length true)) := fun W h => ⟨HW.out.1.trans (h.mono HW.out.1.size), (bool_view HW.out.2).below h⟩
        clear HW
        go_wp2_with fail
        go_loopw [10] (fun i wr => ∃ j : Nat, j ≤ 20 ∧ i = .int .i64 (j : Int) ∧ Hid (Below wA.heap.size wA wr)) (fun i _ => 20 - (intOf i).toNat)
        case atStart => exact ⟨0, by omega, rfl, Below.refl _ _⟩
        case round =>
          obtain ⟨j, hj20, rfl, HX⟩ := hrel
          clear d0 d1 d2 d3
          by_cases hlt2 : (j : Int) < 20
          · have hj2 : j < 20 := by omega
            obtain ⟨y, hyy⟩ : ∃ y, y = textAt cs j := ⟨_, rfl⟩
            obtain ⟨z, hzz⟩ : ∃ z, z = getD' cs ws (j : Int) := ⟨_, rfl⟩
            have HZ : Hid (getD' cs ws (j : Int) = z) := hzz.symm
            have HY : Hid (textAt cs j = y) := hyy.symm
            have HG1 : Hid (Good (landC cs ws (fun _ => true)) j z) := by rw [hzz]; exact good_all HP.out HS1.out HS2.out _ (fun _ _ => rfl) j hj2
            have HG2 : Hid (Good (landC (landC cs ws (fun _ => true)) [] (keptB ks)) j z) := good_again HG1.out _
            have HG3 : Hid (Good (landC cs ws (keptB (List.replicate ws.length true))) j z) := by rw [hzz]; exact good_all HP.out HS1.out HS2.out _ (fun k hk => kept_rep _ k hk) j hj2
            have HG4 : Hid (Good (landC cs ws (keptB [])) j y) := by rw [hyy]; exact good_none HP.out HS1.out HS2.out j hj2
            have HJ : Hid (∀ W, Below wr.heap.size wr W → (W.heap[qd]? = some (.cells #[.slice (some ⟨gc, 0, none⟩) 20 c1, .slice o2 ws.length c2] 27) ∧ W.heap[qg]? = some (.cells #[.slice og 20 pg, .slice og2 0 pg2] 27) ∧ (W.cell? ⟨gc, j, none⟩ = some (.string y))) ∧ AnyD W w.heap.size (.slice (some ⟨gc, 0, none⟩) 20 c1) (.slice o2 ws.length c2) cs ws ∧ DiskO W u3.heap.size (.slice og 20 pg) 20 (landC cs ws (fun _ => true)) (.slice og2 0 pg2) 0 [] ∧ BoolA W oK ks.length ks ∧ BoolA W oA ws.length (List.replicate ws.length true) ∧ Below wA.heap.size wA W) := fun W h => by
              have h1 := HX.out.trans (h.mono HX.out.size)
              have h2 := HJ0.out W h1
              have h3 := HM.out W h2.1
              refine ⟨⟨h3.1.1.1, h3.1.1.2, ?_⟩, h3.2.1, h3.2.2.1, h3.2.2.2.1, h2.2, h1⟩
              rw [← HY.out]
              exact h3.1.2.2.2 j hj2
            clear hyy hzz
            obtain ⟨⟨k0, k1, k4⟩, _⟩ := HJ.out _ (Below.refl _ _)
            go_upto_region 19 with fail
            refine wp_region_held_drew (S := fun W => W.heap[qd]? = some (.cells #[.slice (some ⟨gc, 0, none⟩) 20 c1, .slice o2 ws.length c2] 27) ∧ W.heap[qg]? = some (.cells #[.slice og 20 pg, .slice og2 0 pg2] 27) ∧ (W.cell? ⟨gc, j, none⟩ = some (.string y))) (by kernel_rfl) (HJ.out _ (Below.refl _ _).drew).1 (fun _ => ?_)
            obtain ⟨m0, hX⟩ : ∃ X, X = wr.drew := ⟨_, rfl⟩
            have hx0 : Below wr.heap.size wr m0 := by rw [hX]; exact (Below.refl _ _).drew
            rw [← hX]
            clear hX
            have hS0 : m0.heap[qd]? = some (.cells #[.slice (some ⟨gc, 0, none⟩) 20 c1, .slice o2 ws.length c2] 27) ∧ m0.heap[qg]? = some (.cells #[.slice og 20 pg, .slice og2 0 pg2] 27) ∧ (m0.cell? ⟨gc, j, none⟩ = some (.string y)) := (HJ.out _ hx0).1
            refine wpAnyH_takeD (i := 0) (v := .agg #[.slice og 20 pg, .slice og2 0 pg2]) (some 61) rfl rfl (by kernel_rfl) (by kernel_rfl) (by kernel_rfl) (fun _ _ _ h => h) (Or.inl ⟨by rfl, by intro W hW; obtain ⟨hhd, hhg, hhE_C⟩ := hW; have y0 := (cell_of hhg 0).trans rfl; have y1 := (cell_of hhg 1).trans rfl; go_simp⟩) hS0 ?_
            simp only [Act.put, List.setIfInBounds_toArray, List.set_cons_zero, List.set_cons_succ]
            refine wpAnyH_takeD (i := 1) (v := .int .i64 (j : Int)) (some 62) rfl rfl (by kernel_rfl) (by kernel_rfl) (by kernel_rfl) (fun _ _ _ h => h) (Or.inl ⟨by rfl, by intro W _; go_simp⟩) hS0 ?_
            simp only [Act.put, List.setIfInBounds_toArray, List.set_cons_zero, List.set_cons_succ]
            refine wpAnyH_takeD (i := 3) (v := .agg #[.slice (some ⟨gc, 0, none⟩) 20 c1, .slice o2 ws.length c2]) (some 64) rfl rfl (by kernel_rfl) (by kernel_rfl) (by kernel_rfl) (fun _ _ _ h => h) (Or.inl ⟨by rfl, by intro W hW; obtain ⟨hhd, hhg, hhE_C⟩ := hW; have y0 := (cell_of hhd 0).trans rfl; have y1 := (cell_of hhd 1).trans rfl; go_simp⟩) hS0 ?_
            simp only [Act.put, List.setIfInBounds_toArray, List.set_cons_zero, List.set_cons_succ]
            refine wpAnyH_takeD (i := 4) (v := .int .i64 (j : Int)) (some 65) rfl rfl (by kernel_rfl) (by kernel_rfl) (by kernel_rfl) (fun _ _ _ h => h) (Or.inl ⟨by rfl, by intro W _; go_simp⟩) hS0 ?_
            simp only [Act.put, List.setIfInBounds_toArray, List.set_cons_zero, List.set_cons_succ]
            refine wpAnyH_ready (rs := [2]) (by kernel_rfl) (by simp) ?_
            refine AllReadyH.cons rfl (fun K hK => ?_) AllReadyH.nil
            go_simp
            refine (get_good (HJ.out _ hx0).2.2.1 HG1.out).mono ?_
            rintro e m1 ⟨rfl, bw⟩
            have hx1 := hx0.trans (bw.mono hx0.size)
            clear bw
            have hS1 : m1.heap[qd]? = some (.cells #[.slice (some ⟨gc, 0, none⟩) 20 c1, .slice o2 ws.length c2] 27) ∧ m1.heap[qg]? = some (.cells #[.slice og 20 pg, .slice og2 0 pg2] 27) ∧ (m1.cell? ⟨gc, j, none⟩ = some (.string y)) := (HJ.out _ hx1).1
            refine hK.out _ _ hS1 (fun _ => ?_)
            clear hK K hS0
            refine wpAnyH_ready (rs := [5]) (by kernel_rfl) (by simp) ?_
            refine AllReadyH.cons rfl (fun K hK => ?_) AllReadyH.nil
            go_simp
            refine (implDiskGet_d (.slice (some ⟨gc, 0, none⟩) 20 c1) (.slice o2 ws.length c2) cs ws _ _ (HJ.out _ hx1).2.1 (j : Int)).mono ?_
            rintro e m2 ⟨rfl, bw⟩
            rw [HZ.out]
            have hx2 := hx1.trans (bw.mono hx1.size)
            clear bw
            have hS2 : m2.heap[qd]? = some (.cells #[.slice (some ⟨gc, 0, none⟩) 20 c1, .slice o2 ws.length c2] 27) ∧ m2.heap[qg]? = some (.cells #[.slice og 20 pg, .slice og2 0 pg2] 27) ∧ (m2.cell? ⟨gc, j, none⟩ = some (.string y)) := (HJ.out _ hx2).1
            refine hK.out _ _ hS2 (fun _ => ?_)
            clear hK K hS1
            refine wpAnyH_takeD (i := 6) (v := .bool false) (some 67) rfl rfl (by kernel_rfl) (by kernel_rfl) (by kernel_rfl) (fun _ _ _ h => h) (Or.inl ⟨by rfl, by intro W _; go_simp⟩) hS2 ?_
            simp only [Act.put, List.setIfInBounds_toArray, List.set_cons_zero, List.set_cons_succ]
            refine wpAnyH_takeD (i := 7) (v := .bool false) (some 68) rfl rfl (by kernel_rfl) (by kernel_rfl) (by kernel_rfl) (fun _ _ _ h => h) (Or.inl ⟨by rfl, by intro W _; go_simp⟩) hS2 ?_
            simp only [Act.put, List.setIfInBounds_toArray, List.set_cons_zero, List.set_cons_succ]
            refine wpAnyH_takeD (i := 8) (v := .agg #[.slice og 20 pg, .slice og2 0 pg2]) (some 69) rfl rfl (by kernel_rfl) (by kernel_rfl) (by kernel_rfl) (fun _ _ _ h => h) (Or.inl ⟨by rfl, by intro W hW; obtain ⟨hhd, hhg, hhE_C⟩ := hW; have y0 := (cell_of hhg 0).trans rfl; have y1 := (cell_of hhg 1).trans rfl; go_simp⟩) hS2 ?_
            simp only [Act.put, List.setIfInBounds_toArray, List.set_cons_zero, List.set_cons_succ]
            refine wpAnyH_takeD (i := 9) (v := .slice oK ks.length pK) (some 70) rfl rfl (by kernel_rfl) (by kernel_rfl) (by kernel_rfl) (fun _ _ _ h => h) (Or.inl ⟨by rfl, by intro W _; go_simp⟩) hS2 ?_
            simp only [Act.put, List.setIfInBounds_toArray, List.set_cons_zero, List.set_cons_succ]
            refine wpAnyH_takeD (i := 11) (v := .int .i64 (j : Int)) (some 72) rfl rfl (by kernel_rfl) (by kernel_rfl) (by kernel_rfl) (fun _ _ _ h => h) (Or.inl ⟨by rfl, by intro W _; go_simp⟩) hS2 ?_
            simp only [Act.put, List.setIfInBounds_toArray, List.set_cons_zero, List.set_cons_succ]
            refine wpAnyH_takeD (i := 13) (v := .agg #[.slice (some ⟨gc, 0, none⟩) 20 c1, .slice o2 ws.length c2]) (some 74) rfl rfl (by kernel_rfl) (by kernel_rfl) (by kernel_rfl) (fun _ _ _ h => h) (Or.inl ⟨by rfl, by intro W hW; obtain ⟨hhd, hhg, hhE_C⟩ := hW; have y0 := (cell_of hhd 0).trans rfl; have y1 := (cell_of hhd 1).trans rfl; go_simp⟩) hS2 ?_
            simp only [Act.put, List.setIfInBounds_toArray, List.set_cons_zero, List.set_cons_succ]
            refine wpAnyH_takeD (i := 14) (v := .int .i64 (j : Int)) (some 75) rfl rfl (by kernel_rfl) (by kernel_rfl) (by kernel_rfl) (fun _ _ _ h => h) (Or.inl ⟨by rfl, by intro W _; go_simp⟩) hS2 ?_
            simp only [Act.put, List.setIfInBounds_toArray, List.set_cons_zero, List.set_cons_succ]
            refine wpAnyH_ready (rs := [10]) (by kernel_rfl) (by simp) ?_
            refine AllReadyH.cons rfl (fun K hK => ?_) AllReadyH.nil
            go_simp
            refine (implCrash_any (.slice og 20 pg) (.slice og2 0 pg2) 20 _ 0 [] _ _ (HJ.out _ hx2).2.2.1 (by omega) (by omega) HG1.out.2.1 (fun x hx => by simp at hx) oK ks.length pK ks (HJ.out _ hx2).2.2.2.1).mono ?_
            rintro e m3 ⟨p0, r0, rfl, hP0, bw⟩
            rw [HG2.out.1.1] at hP0
            obtain ⟨op0, pp0, rfl⟩ := slice_of_owns hP0.cells
            obtain ⟨or0, pr0, rfl⟩ := slice_of_owns hP0.pend
            have hx3 := hx2.trans (bw.mono hx2.size)
            clear bw
            have hS3 : m3.heap[qd]? = some (.cells #[.slice (some ⟨gc, 0, none⟩) 20 c1, .slice o2 ws.length c2] 27) ∧ m3.heap[qg]? = some (.cells #[.slice og 20 pg, .slice og2 0 pg2] 27) ∧ (m3.cell? ⟨gc, j, none⟩ = some (.string y)) := (HJ.out _ hx3).1
            refine hK.out _ _ hS3 (fun _ => ?_)
            clear hK K hS2
            refine wpAnyH_ready (rs := [12]) (by kernel_rfl) (by simp) ?_
            refine AllReadyH.cons rfl (fun K hK => ?_) AllReadyH.nil
            go_simp
            refine (get_good hP0 HG2.out).mono ?_
            rintro e m4 ⟨rfl, bw⟩
            have hx4 := hx3.trans (bw.mono hx3.size)
            clear bw
            have hS4 : m4.heap[qd]? = some (.cells #[.slice (some ⟨gc, 0, none⟩) 20 c1, .slice o2 ws.length c2] 27) ∧ m4.heap[qg]? = some (.cells #[.slice og 20 pg, .slice og2 0 pg2] 27) ∧ (m4.cell? ⟨gc, j, none⟩ = some (.string y)) := (HJ.out _ hx4).1
            refine hK.out _ _ hS4 (fun _ => ?_)
            clear hK K hS3
            refine wpAnyH_ready (rs := [15]) (by kernel_rfl) (by simp) ?_
            refine AllReadyH.cons rfl (fun K hK => ?_) AllReadyH.nil
            go_simp
            refine (implDiskGet_d (.slice (some ⟨gc, 0, none⟩) 20 c1) (.slice o2 ws.length c2) cs ws _ _ (HJ.out _ hx4).2.1 (j : Int)).mono ?_
            rintro e m5 ⟨rfl, bw⟩
            rw [HZ.out]
            have hx5 := hx4.trans (bw.mono hx4.size)
            clear bw
            have hS5 : m5.heap[qd]? = some (.cells #[.slice (some ⟨gc, 0, none⟩) 20 c1, .slice o2 ws.length c2] 27) ∧ m5.heap[qg]? = some (.cells #[.slice og 20 pg, .slice og2 0 pg2] 27) ∧ (m5.cell? ⟨gc, j, none⟩ = some (.string y)) := (HJ.out _ hx5).1
            refine hK.out _ _ hS5 (fun _ => ?_)
            clear hK K hS4
            refine wpAnyH_takeD (i := 16) (v := .bool false) (some 77) rfl rfl (by kernel_rfl) (by kernel_rfl) (by kernel_rfl) (fun _ _ _ h => h) (Or.inl ⟨by rfl, by intro W _; go_simp⟩) hS5 ?_
            simp only [Act.put, List.setIfInBounds_toArray, List.set_cons_zero, List.set_cons_succ]
            refine wpAnyH_takeD (i := 17) (v := .bool false) (some 78) rfl rfl (by kernel_rfl) (by kernel_rfl) (by kernel_rfl) (fun _ _ _ h => h) (Or.inl ⟨by rfl, by intro W _; go_simp⟩) hS5 ?_
            simp only [Act.put, List.setIfInBounds_toArray, List.set_cons_zero, List.set_cons_succ]
            refine wpAnyH_takeD (i := 18) (v := .bool false) (some 79) rfl rfl (by kernel_rfl) (by kernel_rfl) (by kernel_rfl) (fun _ _ _ h => h) (Or.inl ⟨by rfl, by intro W _; go_simp⟩) hS5 ?_
            simp only [Act.put, List.setIfInBounds_toArray, List.set_cons_zero, List.set_cons_succ]
            refine wpAnyH_takeD (i := 19) (v := .agg #[.slice (some ⟨gc, 0, none⟩) 20 c1, .slice o2 ws.length c2]) (some 80) rfl rfl (by kernel_rfl) (by kernel_rfl) (by kernel_rfl) (fun _ _ _ h => h) (Or.inl ⟨by rfl, by intro W hW; obtain ⟨hhd, hhg, hhE_C⟩ := hW; have y0 := (cell_of hhd 0).trans rfl; have y1 := (cell_of hhd 1).trans rfl; go_simp⟩) hS5 ?_
            simp only [Act.put, List.setIfInBounds_toArray, List.set_cons_zero, List.set_cons_succ]
            refine wpAnyH_takeD (i := 20) (v := .slice oA ws.length pA) (some 81) rfl rfl (by kernel_rfl) (by kernel_rfl) (by kernel_rfl) (fun _ _ _ h => h) (Or.inl ⟨by rfl, by intro W _; go_simp⟩) hS5 ?_
            simp only [Act.put, List.setIfInBounds_toArray, List.set_cons_zero, List.set_cons_succ]
            refine wpAnyH_takeD (i := 22) (v := .int .i64 (j : Int)) (some 83) rfl rfl (by kernel_rfl) (by kernel_rfl) (by kernel_rfl) (fun _ _ _ h => h) (Or.inl ⟨by rfl, by intro W _; go_simp⟩) hS5 ?_
            simp only [Act.put, List.setIfInBounds_toArray, List.set_cons_zero, List.set_cons_succ]
            refine wpAnyH_takeD (i := 24) (v := .agg #[.slice (some ⟨gc, 0, none⟩) 20 c1, .slice o2 ws.length c2]) (some 85) rfl rfl (by kernel_rfl) (by kernel_rfl) (by kernel_rfl) (fun _ _ _ h => h) (Or.inl ⟨by rfl, by intro W hW; obtain ⟨hhd, hhg, hhE_C⟩ := hW; have y0 := (cell_of hhd 0).trans rfl; have y1 := (cell_of hhd 1).trans rfl; go_simp⟩) hS5 ?_
            simp only [Act.put, List.setIfInBounds_toArray, List.set_cons_zero, List.set_cons_succ]
            refine wpAnyH_takeD (i := 25) (v := .int .i64 (j : Int)) (some 86) rfl rfl (by kernel_rfl) (by kernel_rfl) (by kernel_rfl) (fun _ _ _ h => h) (Or.inl ⟨by rfl, by intro W _; go_simp⟩) hS5 ?_
            simp only [Act.put, List.setIfInBounds_toArray, List.set_cons_zero, List.set_cons_succ]
            refine wpAnyH_ready (rs := [21]) (by kernel_rfl) (by simp) ?_
            refine AllReadyH.cons rfl (fun K hK => ?_) AllReadyH.nil
            go_simp
            refine (implCrash_d (.slice (some ⟨gc, 0, none⟩) 20 c1) (.slice o2 ws.length c2) cs ws _ _ (HJ.out _ hx5).2.1 oA ws.length pA (List.replicate ws.length true) (HJ.out _ hx5).2.2.2.2.1).mono ?_
            rintro e m6 ⟨p1, r1, rfl, hP1, bw⟩
            rw [HG3.out.1.1] at hP1
            obtain ⟨op1, pp1, rfl⟩ := slice_of_owns hP1.cells
            obtain ⟨or1, pr1, rfl⟩ := slice_of_owns hP1.pend
            have hx6 := hx5.trans (bw.mono hx5.size)
            clear bw
            have hS6 : m6.heap[qd]? = some (.cells #[.slice (some ⟨gc, 0, none⟩) 20 c1, .slice o2 ws.length c2] 27) ∧ m6.heap[qg]? = some (.cells #[.slice og 20 pg, .slice og2 0 pg2] 27) ∧ (m6.cell? ⟨gc, j, none⟩ = some (.string y)) := (HJ.out _ hx6).1
            refine hK.out _ _ hS6 (fun _ => ?_)
            clear hK K hS5
            refine wpAnyH_ready (rs := [23]) (by kernel_rfl) (by simp) ?_
            refine AllReadyH.cons rfl (fun K hK => ?_) AllReadyH.nil
            go_simp
            refine (get_good hP1 HG3.out).mono ?_
            rintro e m7 ⟨rfl, bw⟩
            have hx7 := hx6.trans (bw.mono hx6.size)
            clear bw
            have hS7 : m7.heap[qd]? = some (.cells #[.slice (some ⟨gc, 0, none⟩) 20 c1, .slice o2 ws.length c2] 27) ∧ m7.heap[qg]? = some (.cells #[.slice og 20 pg, .slice og2 0 pg2] 27) ∧ (m7.cell? ⟨gc, j, none⟩ = some (.string y)) := (HJ.out _ hx7).1
            refine hK.out _ _ hS7 (fun _ => ?_)
            clear hK K hS6
            refine wpAnyH_ready (rs := [26]) (by kernel_rfl) (by simp) ?_
            refine AllReadyH.cons rfl (fun K hK => ?_) AllReadyH.nil
            go_simp
            refine (implDiskGet_d (.slice (some ⟨gc, 0, none⟩) 20 c1) (.slice o2 ws.length c2) cs ws _ _ (HJ.out _ hx7).2.1 (j : Int)).mono ?_
            rintro e m8 ⟨rfl, bw⟩
            rw [HZ.out]
            have hx8 := hx7.trans (bw.mono hx7.size)
            clear bw
            have hS8 : m8.heap[qd]? = some (.cells #[.slice (some ⟨gc, 0, none⟩) 20 c1, .slice o2 ws.length c2] 27) ∧ m8.heap[qg]? = some (.cells #[.slice og 20 pg, .slice og2 0 pg2] 27) ∧ (m8.cell? ⟨gc, j, none⟩ = some (.string y)) := (HJ.out _ hx8).1
            refine hK.out _ _ hS8 (fun _ => ?_)
            clear hK K hS7
            refine wpAnyH_takeD (i := 27) (v := .bool false) (some 88) rfl rfl (by kernel_rfl) (by kernel_rfl) (by kernel_rfl) (fun _ _ _ h => h) (Or.inl ⟨by rfl, by intro W _; go_simp⟩) hS8 ?_
            simp only [Act.put, List.setIfInBounds_toArray, List.set_cons_zero, List.set_cons_succ]
            refine wpAnyH_takeD (i := 28) (v := .bool false) (some 89) rfl rfl (by kernel_rfl) (by kernel_rfl) (by kernel_rfl) (fun _ _ _ h => h) (Or.inl ⟨by rfl, by intro W _; go_simp⟩) hS8 ?_
            simp only [Act.put, List.setIfInBounds_toArray, List.set_cons_zero, List.set_cons_succ]
            refine wpAnyH_takeD (i := 29) (v := .bool false) (some 90) rfl rfl (by kernel_rfl) (by kernel_rfl) (by kernel_rfl) (fun _ _ _ h => h) (Or.inl ⟨by rfl, by intro W _; go_simp⟩) hS8 ?_
            simp only [Act.put, List.setIfInBounds_toArray, List.set_cons_zero, List.set_cons_succ]
            refine wpAnyH_takeD (i := 30) (v := .agg #[.slice (some ⟨gc, 0, none⟩) 20 c1, .slice o2 ws.length c2]) (some 91) rfl rfl (by kernel_rfl) (by kernel_rfl) (by kernel_rfl) (fun _ _ _ h => h) (Or.inl ⟨by rfl, by intro W hW; obtain ⟨hhd, hhg, hhE_C⟩ := hW; have y0 := (cell_of hhd 0).trans rfl; have y1 := (cell_of hhd 1).trans rfl; go_simp⟩) hS8 ?_
            simp only [Act.put, List.setIfInBounds_toArray, List.set_cons_zero, List.set_cons_succ]
            refine wpAnyH_takeD (i := 32) (v := .int .i64 (j : Int)) (some 93) rfl rfl (by kernel_rfl) (by kernel_rfl) (by kernel_rfl) (fun _ _ _ h => h) (Or.inl ⟨by rfl, by intro W _; go_simp⟩) hS8 ?_
            simp only [Act.put, List.setIfInBounds_toArray, List.set_cons_zero, List.set_cons_succ]
            refine wpAnyH_takeD (i := 34) (v := .pointer (some ⟨qd, 0, none⟩)) (some 95) rfl rfl (by kernel_rfl) (by kernel_rfl) (by kernel_rfl) (fun _ _ _ h => h) (Or.inl ⟨by rfl, by intro W _; go_simp⟩) hS8 ?_
            simp only [Act.put, List.setIfInBounds_toArray, List.set_cons_zero, List.set_cons_succ]
            refine wpAnyH_takeD (i := 35) (v := .slice (some ⟨gc, 0, none⟩) 20 c1) (some 96) rfl rfl (by kernel_rfl) (by kernel_rfl) (by kernel_rfl) (fun _ _ _ h => h) (Or.inl ⟨by rfl, by intro W hW; obtain ⟨hhd, hhg, hhE_C⟩ := hW; have y0 := (cell_of hhd 0).trans rfl; go_simp⟩) hS8 ?_
            simp only [Act.put, List.setIfInBounds_toArray, List.set_cons_zero, List.set_cons_succ]
            refine wpAnyH_takeD (i := 36) (v := .int .i64 (j : Int)) (some 97) rfl rfl (by kernel_rfl) (by kernel_rfl) (by kernel_rfl) (fun _ _ _ h => h) (Or.inl ⟨by rfl, by intro W _; go_simp⟩) hS8 ?_
            simp only [Act.put, List.setIfInBounds_toArray, List.set_cons_zero, List.set_cons_succ]
            refine wpAnyH_takeD (i := 37) (v := .pointer (some ⟨gc, j, none⟩)) (some 98) rfl rfl (by kernel_rfl) (by kernel_rfl) (by kernel_rfl) (fun _ _ _ h => h) (Or.inl ⟨by rfl, by intro W _; go_simp⟩) hS8 ?_
            simp only [Act.put, List.setIfInBounds_toArray, List.set_cons_zero, List.set_cons_succ]
            refine wpAnyH_takeD (i := 38) (v := .string y) (some 99) rfl rfl (by kernel_rfl) (by kernel_rfl) (by kernel_rfl) (fun _ _ _ h => h) (Or.inl ⟨by rfl, by intro W hW; obtain ⟨hhd, hhg, hhE_C⟩ := hW; have y0 := hhE_C; go_simp⟩) hS8 ?_
            simp only [Act.put, List.setIfInBounds_toArray, List.set_cons_zero, List.set_cons_succ]
            refine wpAnyH_ready (rs := [31]) (by kernel_rfl) (by simp) ?_
            refine AllReadyH.cons rfl (fun K hK => ?_) AllReadyH.nil
            go_simp
            refine (implCrash_d (.slice (some ⟨gc, 0, none⟩) 20 c1) (.slice o2 ws.length c2) cs ws _ _ (HJ.out _ hx8).2.1 none 0 0 [] (nil_bools _)).mono ?_
            rintro e m9 ⟨p2, r2, rfl, hP2, bw⟩
            rw [HG4.out.1.1] at hP2
            obtain ⟨op2, pp2, rfl⟩ := slice_of_owns hP2.cells
            obtain ⟨or2, pr2, rfl⟩ := slice_of_owns hP2.pend
            have hx9 := hx8.trans (bw.mono hx8.size)
            clear bw
            have hS9 : m9.heap[qd]? = some (.cells #[.slice (some ⟨gc, 0, none⟩) 20 c1, .slice o2 ws.length c2] 27) ∧ m9.heap[qg]? = some (.cells #[.slice og 20 pg, .slice og2 0 pg2] 27) ∧ (m9.cell? ⟨gc, j, none⟩ = some (.string y)) := (HJ.out _ hx9).1
            refine hK.out _ _ hS9 (fun _ => ?_)
            clear hK K hS8
            refine wpAnyH_ready (rs := [33]) (by kernel_rfl) (by simp) ?_
            refine AllReadyH.cons rfl (fun K hK => ?_) AllReadyH.nil
            go_simp
            refine (get_good hP2 HG4.out).mono ?_
            rintro e m10 ⟨rfl, bw⟩
            have hx10 := hx9.trans (bw.mono hx9.size)
            clear bw
            have hS10 : m10.heap[qd]? = some (.cells #[.slice (some ⟨gc, 0, none⟩) 20 c1, .slice o2 ws.length c2] 27) ∧ m10.heap[qg]? = some (.cells #[.slice og 20 pg, .slice og2 0 pg2] 27) ∧ (m10.cell? ⟨gc, j, none⟩ = some (.string y)) := (HJ.out _ hx10).1
            refine hK.out _ _ hS10 (fun _ => ?_)
            clear hK K hS9
            refine wpAnyH_takeD (i := 39) (v := .bool false) (some 100) rfl rfl (by kernel_rfl) (by kernel_rfl) (by kernel_rfl) (fun _ _ _ h => h) (Or.inl ⟨by rfl, by intro W _; go_simp⟩) hS10 ?_
            simp only [Act.put, List.setIfInBounds_toArray, List.set_cons_zero, List.set_cons_succ]
            refine wpAnyH_takeD (i := 40) (v := .bool false) (some 101) rfl rfl (by kernel_rfl) (by kernel_rfl) (by kernel_rfl) (fun _ _ _ h => h) (Or.inl ⟨by rfl, by intro W _; go_simp⟩) hS10 ?_
            simp only [Act.put, List.setIfInBounds_toArray, List.set_cons_zero, List.set_cons_succ]
            clear hS10
            refine wpAnyH_done (by kernel_rfl) ?_ _
            have HE : Hid (Below wA.heap.size wA m10) := (HJ.out _ hx10).2.2.2.2.2
            clear k0 k1 k4
            go_wp2_with fail
            go_roundw
            case rel => exact ⟨j + 1, by omega, by go_num, HE⟩
            case measure => simp [intOf]; omega
          · obtain ⟨⟨_, ⟨d0, d1⟩, ⟨d2, d3⟩, _⟩, _, _, _, hbw, d5⟩ := HM.out _ (HJ0.out _ HX.out).1
            have HBW : Hid (Below w.heap.size w wr) := hbw
            clear hbw
            go_wp2_with fail
            go_ret
            exact ⟨rfl, HBW.out⟩
  · have HP : Hid (¬ DiskP cs ws) := hp
    clear hp
    go_region_held3 (fun W => (W.cell? ⟨qd, 0, none⟩ = some (.slice o1 n1 c1) ∧ W.cell? ⟨qd, 1, none⟩ = some (.slice o2 ws.length c2)) ∧ (W.cell? ⟨qe, 0, none⟩ = some (.slice oe (landC cs ws (keptB ks)).length pe) ∧ W.cell? ⟨qe, 1, none⟩ = some (.slice oe2 0 pe2)) ∧ W.cell? ⟨qf, 0, none⟩ = some (.slice of (landC cs ws (keptB ks)).length pf)) (first | assumption | go_keep) (first | (go_at_call 15; refine (sameT_any _ _ _ _ _ (landC cs ws (keptB ks)) _ (HK.out _ hc0).2.2.2.1 (HK.out _ hc0).2.2.2.2.1 (by have := HLL.out; omega)).mono ?_; rintro e u0 ⟨rfl, hb0⟩; have hc1 := hc0.trans (hb0.mono hc0.size); obtain ⟨⟨e00, e01⟩, ⟨e02, e03⟩, e04⟩ := (HK.out _ hc1).1) | (go_at_call 16; refine (implDiskOk_d _ _ cs ws _ _ (HK.out _ hc1).2.1).mono ?_; rintro e u1 ⟨bb1, rfl, hbb1, hb1⟩; obtain rfl : bb1 = false := (by cases bb1 with | true => exact absurd (hbb1.1 rfl) HP.out | false => rfl); clear hbb1; have hc2 := hc1.trans (hb1.mono hc1.size); obtain ⟨⟨e10, e11⟩, ⟨e12, e13⟩, e14⟩ := (HK.out _ hc2).1) | (go_at_call 17; refine (specDiskOk_d _ _ cs ws _ _ (HK.out _ hc2).2.1).mono ?_; rintro e u2 ⟨bb2, rfl, hbb2, hb2⟩; obtain rfl : bb2 = false := (by cases bb2 with | true => exact absurd (hbb2.1 rfl) HP.out | false => rfl); clear hbb2; have hc3 := hc2.trans (hb2.mono hc2.size); obtain ⟨⟨e20, e21⟩, ⟨e22, e23⟩, e24⟩ := (HK.out _ hc3).1))
    go_wp2_with fail
    refine (specDiskOk_d _ _ cs ws _ _ (HK.out _ hc3).2.1).mono ?_
    rintro e u3 ⟨bb3, rfl, hbb3, hb3⟩
    obtain rfl : bb3 = false := (by cases bb3 with | true => exact absurd (hbb3.1 rfl) HP.out | false => rfl)
    clear hbb3
    have hc4 := hc3.trans (hb3.mono hc3.size)
    obtain ⟨⟨e30, e31⟩, ⟨e32, e33⟩, e34⟩ := (HK.out _ hc4).1
    have HB : Hid (Below w.heap.size w u3) := (HK.out _ hc4).2.2.2.2.2
    have hl0 : (landC cs ws (keptB ks)).length = 0 := by rw [landC_no HP.out]; rfl
    clear d0 d1 d2 d3 d4 e00 e01 e02 e03 e04 e10 e11 e12 e13 e14 e20 e21 e22 e23 e24 hc0 hc1 hc2 hc3 hc4 hb0 hb1 hb2 hb3
    go_wp2_with fail
    go_ret
    exact ⟨rfl, HB.out⟩

set_option maxRecDepth 100000 in
theorem lifted (os : Os) (started : os.Started) (H : Type) (enc : TypeId × Value → H) :
    ReturnsInHanded {} Try.checked os 3 .any (Rows.fnDiskSpec.pre6 enc Try.prog Try.f3 Rows.fnDiskRow.domain false) (Rows.fnDiskSpec.post enc Try.prog Try.f3 false true false false) := by
  refine returnsInHanded_of_change (C := Try.checked) own started (by kernel_rfl) Try.func3
    (ChangeSpec.witness6 (enc := enc) (C := Try.checked) false ⟨#[], #[.slice none 0 0], []⟩ 8 (by kernel_rfl) (by kernel_rfl) (by kernel_rfl) (by kernel_rfl)) ?_
  intro W base args ds gs before hval0 hW _ _
  have hval : ∀ (j : Nat) t v, Try.f3.params[j]? = some t → args[j]? = some v → Value.okWide Try.prog W .any base t v := hval0
  have hW' := hW
  obtain ⟨p, q, hA0, hV, rfl, hfz, hnd⟩ := hW
  have hA : DataW.TrodAll enc Try.prog W 0 (fun _ => true) true Try.f3.params.toList args.toList ds p := hA0
  rw [Try.params3] at hA hval
  obtain ⟨v0, vs0, d0, ds0, p0, q0, hargs, rfl, rfl, h0, r0⟩ := trodAll_cons hA
  obtain ⟨rfl, rfl, rfl⟩ := trodAll_nil r0
  obtain rfl : args = #[v0] := by cases args; simp_all
  obtain ⟨rfl, rfl⟩ := trodVars_none hV
  obtain ⟨a0, len0, cap0, rfl⟩ := okWide_slice Try.underlying22 (hval 0 22 v0 rfl rfl)
  have k0 := h0
  have lt0 : ∀ x ∈ p0, x.block < W.heap.size := by obtain ⟨m, hm⟩ := k0; exact DataW.trod_lt m _ _ _ hm
  obtain ⟨z0, w0⟩ : ∃ zs, IsRow .u8 W a0 len0 cap0 zs := by
    obtain ⟨fuel, hf⟩ := h0
    rcases open_ints Try.underlying22 Try.underlying5 (by kernel_rfl) hf with ⟨hcs, _⟩ | ⟨x, l, c, zs, hcs, _, hl, hm, hz, _, hcell, hwz⟩
    · simp [Value.cells] at hcs
      obtain ⟨rfl, rfl, rfl⟩ := hcs
      exact ⟨[], .inl ⟨rfl, rfl, rfl, rfl⟩⟩
    · simp [Value.cells] at hcs
      obtain ⟨rfl, rfl, rfl⟩ := hcs
      exact ⟨zs, .inr ⟨_, rfl, hl, hm, by simpa using hz, hcell, hwz⟩⟩
  clear hA0 hval0
  refine (walk1 W a0 len0 cap0 z0 w0).mono fun e W' ⟨he, bel⟩ => ?_
  subst he
  exact ⟨_, rfl, _, _, _, [], _, [], hW', trodAll_mk1 (shut_bool Try.underlying4 _), (trodAll_cons_mk (Below.trod laidOut (by kernel_rfl) (of_decide_eq_true (by kernel_rfl)) k0 bel lt0) trodAll_mk0), rfl, bel.frame _, fun h => by cases h⟩

theorem over : Rows.fnDiskRow.holds Try.pinned (OpenSpec.ofChange Rows.fnDiskSpec) :=
  OpenClaim.holds_of_wide 3 Try.f3 rfl rfl rfl rfl rfl rfl rfl ⟨rfl, rfl, rfl, rfl, rfl⟩ rfl rfl rfl rfl rfl (by kernel_rfl) Try.func3 (by kernel_rfl)
    (of_decide_eq_true (by kernel_rfl)) (by unfold Func.isWrapper; first | (rw [if_pos (by decide +kernel)]; kernel_rfl) | (rw [if_neg (by decide +kernel)]; exact ⟨rfl, rfl⟩))
    (fun os started H enc _ => lifted os started H enc)
end fnDisk

theorem fnDisk_holds : Rows.FnDiskSaid := fnDisk.over
#print axioms fnDisk_holds
end Go.Proofs.Ytckjbgpdbehmaaa
