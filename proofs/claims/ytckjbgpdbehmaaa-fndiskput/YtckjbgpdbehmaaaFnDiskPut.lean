/- What is put to a drawn disk is got, and nothing else turns (the law answers true), and the code reads as it did: for every code. -/
import Derived.Test.YtckjbgpdbehmaaaFnDiskPutE
import Derived.Test.YtckjbgpdbehmaaaRows
import Derived.WalkKit
import Derived.ProofKit
import Derived.OpenShut
import Derived.ShutString
import Derived.ChangeOld
import Derived.Below
import Derived.Deep.RegionHeld3
import Derived.Deep.DrawnRows
import Derived.Deep.CutRange
import Derived.Deep.DeepCutAuto
namespace Go.Proofs.Ytckjbgpdbehmaaa
namespace fnDiskPut
open Go.ChangeShapes Go.WideShapes Go.ChangeAt Go.RowKit
open Go.ChangeMaps (open_string shut_string)
attribute [local go_sem ↓] Go.wp_at_zero Go.wp_at_succ

theorem own : ownKnob Try.prog.godebug = none := by kernel_rfl
theorem laidOut : laidOutB Try.prog = true := by kernel_rfl
def IsRow (k : IntKind) (w : World) (a : Option Addr) (len cap : Nat) (zs : List Int) : Prop :=
  (a = none ∧ len = 0 ∧ cap = 0 ∧ zs = []) ∨
  ∃ x, a = some x ∧ len ≤ cap ∧ cap ≤ maxLen ∧ zs.length = cap ∧ (∀ i, i < zs.length → w.cell? (x.add i) = some (.int k (zs.getD i 0))) ∧ ∀ n ∈ zs, (Lit.int k n).wf = true
theorem row_cell {k : IntKind} {w : World} {x : Addr} {zs : List Int} (h : ∀ i, i < zs.length → w.cell? (x.add i) = some (.int k (zs.getD i 0))) (j : Nat) (hj : j < zs.length) : ∃ b off, x = ⟨b, off, none⟩ ∧ w.cell? ⟨b, off + j, none⟩ = some (.int k (zs.getD j 0)) := by
  obtain ⟨b, off, spot⟩ := x
  have hc := h j hj
  have hspot : spot = none := by
    have := World.cell?_spot (h 0 (by omega))
    simpa [Addr.add] using this
  subst hspot
  refine ⟨b, off, rfl, ?_⟩
  by_cases e : j = 0
  · subst e; simpa [Addr.add] using hc
  · simpa [Addr.add, e] using hc
theorem row_code {w : World} {a : Option Addr} {len cap : Nat} {zs : List Int} (h : IsRow .u8 w a len cap zs) (hl : len ≤ 1048576) : CodeAt w w.heap.size a len zs := by
  refine ⟨hl, fun j hj => ?_⟩
  rcases h with ⟨rfl, rfl, _, _⟩ | ⟨x, rfl, h1, _, h3, h4, h5⟩
  · omega
  · obtain ⟨b, off, rfl, hc2⟩ := row_cell h4 j (by omega)
    have hm : zs.getD j 0 ∈ zs := by
      rw [List.getD_eq_getElem?_getD, List.getElem?_eq_getElem (by omega)]
      exact List.getElem_mem _
    have hr := bounds_u8 (h5 _ hm)
    exact ⟨b, off, rfl, World.block_lt_of_cell? _ _ hc2, hc2, hr.1, by omega⟩
theorem dput_yes {cs : List ByteArray} {ws : List (Int × ByteArray)} {x : Int} (h : putB cs ws x = true) : DiskP cs ws ∧ ws.length < 16 ∧ (0 ≤ x ∧ x ≤ 19) := by
  unfold putB at h
  rw [Bool.and_eq_true, Bool.and_eq_true, decide_eq_true_iff, cellB_iff, diskB_iff] at h
  exact h
theorem dput_same {cs : List ByteArray} {ws : List (Int × ByteArray)} {x : Int} {t : ByteArray} (h : DiskP cs ws) (hb : putB cs ws x = false) : putW cs ws x t = ws := by
  unfold putW
  rw [hb, if_neg (by decide), if_pos ((diskB_iff cs ws).2 h)]
theorem dput_other {cs : List ByteArray} {ws : List (Int × ByteArray)} {x : Int} {t : ByteArray} (h : putB cs ws x = true) (j : Nat) (hj : j < 20) (hne : ¬ (j : Int) = x) : getD' cs (ws ++ [(x, t)]) (j : Int) = getD' cs ws (j : Int) := by
  obtain ⟨h1, h2, h3⟩ := dput_yes h
  rw [get_yes (put_right h1 h2 (x, t) h3.1 h3.2) j (by omega), get_yes h1 j (by omega), List.length_append]
  have e := put_get cs ws (x, t) j
  rw [if_neg (fun e2 => hne e2.symm)] at e
  exact e
theorem dput_there {cs : List ByteArray} {ws : List (Int × ByteArray)} {x : Int} {t : ByteArray} (h : putB cs ws x = true) : getD' cs (ws ++ [(x, t)]) x = t := by
  obtain ⟨h1, h2, h3⟩ := dput_yes h
  obtain ⟨m, rfl⟩ : ∃ m : Nat, x = (m : Int) := ⟨x.toNat, by omega⟩
  rw [get_yes (put_right h1 h2 ((m : Int), t) h3.1 h3.2) m (by omega), List.length_append]
  have e := put_get cs ws ((m : Int), t) m
  rw [if_pos rfl] at e
  exact e

open Go.Lib hiding intOf
set_option maxHeartbeats 400000 in
theorem big_no (a : Option Addr) (len cap : Nat) (w : World) (h : ¬ (1048576 : Int) < (len : Int)) : Calls Try.prog 11 #[.slice a len cap] w fun e w' => e = .returned (.bool false) ∧ w' = w := by
  go_enter Try.func11, Try.ntmps11
  go_wp2
  go_ret
  exact ⟨rfl, rfl⟩
set_option maxHeartbeats 400000 in
theorem big_yes (a : Option Addr) (len cap : Nat) (w : World) (h : (1048576 : Int) < (len : Int)) : Calls Try.prog 11 #[.slice a len cap] w fun e w' => e = .returned (.bool true) ∧ w' = w := by
  go_enter Try.func11, Try.ntmps11
  go_wp2
  go_ret
  exact ⟨rfl, rfl⟩
set_option maxHeartbeats 16000000 in
set_option maxRecDepth 100000 in
theorem walk1 (w : World) (a0 : Option Addr) (len0 cap0 : Nat) (zc0 : List Int) (w0 : IsRow .u8 w a0 len0 cap0 zc0) :
    Calls Try.prog 4 #[.slice a0 len0 cap0] w fun e w' => e = .returned (.bool true) ∧ Below w.heap.size w w' := by
  classical
  by_cases hbig : (1048576 : Int) < (len0 : Int)
  · go_enter Try.func4, Try.ntmps4
    go_wp2_with fail
    refine (big_yes a0 len0 cap0 _ hbig).mono ?_
    rintro e w1 ⟨rfl, rfl⟩
    go_wp2
    go_ret
    exact ⟨rfl, Below.refl _ _⟩
  have hcode := row_code w0 (by omega)
  have HCODE : Hid (∀ W, Below w.heap.size w W → CodeAt W W.heap.size a0 len0 zc0) := fun W h => (hcode.below h).upTo h.size
  have HBIG : Hid (¬ (1048576 : Int) < (len0 : Int)) := hbig
  clear w0 hcode hbig
  go_enter Try.func4, Try.ntmps4
  go_wp2_with fail
  refine (big_no a0 len0 cap0 _ (by have := HBIG.out; omega)).mono ?_
  rintro e w1 ⟨rfl, hw1⟩
  rw [hw1]
  clear hw1 w1
  go_wp2_with fail
  refine (drawDiskPut_any a0 len0 cap0 zc0 _ (HCODE.out _ (Below.refl _ _))).mono ?_
  rintro e w2 ⟨v1, v2, cs, ws, x, t, rfl, hx, ht, hA, bw⟩
  obtain ⟨o1, n1, c1, o2, c2, rfl, rfl⟩ := hA.forms
  obtain ⟨pc, hpc⟩ : ∃ l, l = putC cs ws := ⟨_, rfl⟩
  obtain ⟨pw, hpw⟩ : ∃ l, l = putW cs ws x t := ⟨_, rfl⟩
  obtain ⟨pb, hpb⟩ : ∃ l, l = putB cs ws x := ⟨_, rfl⟩
  have HPC : Hid (pc = putC cs ws) := hpc
  have HPW : Hid (pw = putW cs ws x t) := hpw
  have HPB : Hid (pb = putB cs ws x) := hpb
  have HA : Hid (∀ W, Below w2.heap.size w2 W → AnyD W w.heap.size (.slice o1 n1 c1) (.slice o2 ws.length c2) cs ws) := fun W h => hA.below h
  have hws : ws.length ≤ 17 := hA.2.1
  have HZW : Hid (∀ y ∈ ws, (y.2).size ≤ 1048576) := hA.2.2.1
  have HT : Hid (t.size ≤ 1048576) := Nat.le_trans ht (by decide)
  have HX : Hid (-1 ≤ x ∧ x ≤ 20) := hx
  have HB2 : Hid (Below w.heap.size w w2) := bw
  clear hA bw HBIG hpc hpw hpb ht hx
  go_wp2_with fail
  have b3 : Below w2.heap.size w2 (w2.alloc (.cells #[.slice o1 n1 c1, .slice o2 ws.length c2] 27)) := (Below.refl _ _).alloc (Nat.le_refl _) _
  refine (show Calls Try.prog 21 #[.agg #[.slice o1 n1 c1, .slice o2 ws.length c2], .int .i64 x, .string t] _ fun e w' => DiskIsB pc pw pb _ e w' by have h := implDiskPut_d _ _ cs ws _ _ (HA.out _ b3) x t HT.out; rw [← HPC.out, ← HPW.out, ← HPB.out] at h; exact h).mono ?_
  rintro e w3 ⟨e1, e2, rfl, hE, bw⟩
  obtain ⟨oe, pe, rfl⟩ := slice_of_owns hE.cells
  obtain ⟨oe2, pe2, rfl⟩ := slice_of_owns hE.pend
  have hd3 := blk_below (heap_alloc_new w2 (.cells #[.slice o1 n1 c1, .slice o2 ws.length c2] 27)) bw
  have HD3 : Hid (w3.heap[w2.heap.size]? = some (.cells #[.slice o1 n1 c1, .slice o2 ws.length c2] 27)) := hd3
  have HB3 : Hid (Below w2.heap.size w2 w3) := b3.trans (bw.mono b3.size)
  have Ad0 : ∀ o, (w3.alloc o).cell? ⟨w2.heap.size, 0, none⟩ = some (.slice o1 n1 c1) := fun o => (cell_of (blk_alloc hd3 o) 0).trans rfl
  have Ad1 : ∀ o, (w3.alloc o).cell? ⟨w2.heap.size, 1, none⟩ = some (.slice o2 ws.length c2) := fun o => (cell_of (blk_alloc hd3 o) 1).trans rfl
  have HE3 : Hid (∀ W, Below w3.heap.size w3 W → DiskO W w2.heap.size (.slice oe pc.length pe) pc.length pc (.slice oe2 pw.length pe2) pw.length pw) := fun W h => ⟨owns_below (owns_wide hE.cells b3.size) h (fun _ hg => owns_lt hE.cells hg), owns_below (owns_wide hE.pend b3.size) h (fun _ hg => owns_lt hE.pend hg)⟩
  clear hd3 bw b3 hE
  go_wp2_with fail
  have b4 : Below w3.heap.size w3 (w3.alloc (.cells #[.slice oe pc.length pe, .slice oe2 pw.length pe2] 27)) := (Below.refl _ _).alloc (Nat.le_refl _) _
  have b4' := HB3.out.trans (b4.mono HB3.out.size)
  refine (show Calls Try.prog 22 #[.agg #[.slice o1 n1 c1, .slice o2 ws.length c2], .int .i64 x, .string t] _ fun e w' => DiskIsB pc pw pb _ e w' by have h := specDiskPut_d _ _ cs ws _ _ (HA.out _ b4') x t; rw [← HPC.out, ← HPW.out, ← HPB.out] at h; exact h).mono ?_
  rintro e w4 ⟨f1, f2, rfl, hF, bw⟩
  obtain ⟨of, pf, rfl⟩ := slice_of_owns hF.cells
  obtain ⟨of2, pf2, rfl⟩ := slice_of_owns hF.pend
  have HB4 : Hid (Below w3.heap.size w3 w4) := b4.trans (bw.mono b4.size)
  have HD4 : Hid (w4.heap[w2.heap.size]? = some (.cells #[.slice o1 n1 c1, .slice o2 ws.length c2] 27)) := blk_below (blk_alloc HD3.out _) bw
  have HQ4 : Hid (w4.heap[w3.heap.size]? = some (.cells #[.slice oe pc.length pe, .slice oe2 pw.length pe2] 27)) := blk_below (heap_alloc_new w3 _) bw
  clear bw b4 b4' hF HD3 Ad0 Ad1
  go_wp2_with fail
  have b5 : Below w4.heap.size w4 (w4.alloc (.cells #[.slice of pc.length pf, .slice of2 pw.length pf2] 27)) := (Below.refl _ _).alloc (Nat.le_refl _) _
  have B3 : Below w3.heap.size w3 (w4.alloc (.cells #[.slice of pc.length pf, .slice of2 pw.length pf2] 27)) := HB4.out.trans (b5.mono HB4.out.size)
  have B2 : Below w2.heap.size w2 (w4.alloc (.cells #[.slice of pc.length pf, .slice of2 pw.length pf2] 27)) := HB3.out.trans (B3.mono HB3.out.size)
  have B0 : Below w.heap.size w (w4.alloc (.cells #[.slice of pc.length pf, .slice of2 pw.length pf2] 27)) := HB2.out.trans (B2.mono HB2.out.size)
  refine (drawDiskGet_any a0 len0 cap0 zc0 _ (HCODE.out _ B0)).mono ?_
  rintro e w5 ⟨v3, v4, cs2, ws2, x2, rfl, hx20, hx21, hA2, bw⟩
  obtain ⟨o3, n3, c3, o4, c4, rfl, rfl⟩ := hA2.forms
  have B35 : Below w3.heap.size w3 w5 := B3.trans (bw.mono B3.size)
  have B25 : Below w2.heap.size w2 w5 := B2.trans (bw.mono B2.size)
  have B05 : Below w.heap.size w w5 := B0.trans (bw.mono B0.size)
  have hd5 : w5.heap[w2.heap.size]? = some (.cells #[.slice o1 n1 c1, .slice o2 ws.length c2] 27) := blk_below (blk_alloc HD4.out _) bw
  have he5 : w5.heap[w3.heap.size]? = some (.cells #[.slice oe pc.length pe, .slice oe2 pw.length pe2] 27) := blk_below (blk_alloc HQ4.out _) bw
  have HA5 : Hid (∀ W, Below w5.heap.size w5 W → AnyD W (w4.alloc (.cells #[.slice of pc.length pf, .slice of2 pw.length pf2] 27)).heap.size (.slice o3 n3 c3) (.slice o4 ws2.length c4) cs2 ws2) := fun W h => hA2.below h
  have HK5 : Hid (∀ W, Below w5.heap.size w5 W → W.heap[w2.heap.size]? = some (.cells #[.slice o1 n1 c1, .slice o2 ws.length c2] 27) ∧ W.heap[w3.heap.size]? = some (.cells #[.slice oe pc.length pe, .slice oe2 pw.length pe2] 27) ∧ AnyD W w.heap.size (.slice o1 n1 c1) (.slice o2 ws.length c2) cs ws ∧ DiskO W w2.heap.size (.slice oe pc.length pe) pc.length pc (.slice oe2 pw.length pe2) pw.length pw ∧ Below w.heap.size w W) := fun W h => by
    have h2 := B25.trans (h.mono B25.size)
    have h3 := B35.trans (h.mono B35.size)
    exact ⟨blk_below hd5 h, blk_below he5 h, HA.out W h2, HE3.out W h3, B05.trans (h.mono B05.size)⟩
  clear b5 B3 B2 B0 B35 B25 B05 hd5 he5 hA2 bw HD4 HQ4 HE3 HA HB2 HB3 HB4
  go_upto_region 7 with fail
  obtain ⟨w6, hw6⟩ : ∃ W, W = w5.alloc (.cells #[.slice o3 n3 c3, .slice o4 ws2.length c4] 27) := ⟨_, rfl⟩
  obtain ⟨qx, hqx⟩ : ∃ q, q = w5.heap.size := ⟨_, rfl⟩
  obtain ⟨qe, hqe⟩ : ∃ q, q = w3.heap.size := ⟨_, rfl⟩
  obtain ⟨qd, hqd⟩ : ∃ q, q = w2.heap.size := ⟨_, rfl⟩
  rw [← hw6, ← hqx, ← hqe, ← hqd]
  have b6 : Below w5.heap.size w5 w6 := by rw [hw6]; exact (Below.refl _ _).alloc (Nat.le_refl _) _
  have hx6 : w6.heap[qx]? = some (.cells #[.slice o3 n3 c3, .slice o4 ws2.length c4] 27) := by rw [hw6, hqx]; exact heap_alloc_new _ _
  have HK : Hid (∀ W, Below w6.heap.size w6 W → W.heap[qd]? = some (.cells #[.slice o1 n1 c1, .slice o2 ws.length c2] 27) ∧ W.heap[qe]? = some (.cells #[.slice oe pc.length pe, .slice oe2 pw.length pe2] 27) ∧ AnyD W w.heap.size (.slice o1 n1 c1) (.slice o2 ws.length c2) cs ws ∧ DiskO W w2.heap.size (.slice oe pc.length pe) pc.length pc (.slice oe2 pw.length pe2) pw.length pw ∧ Below w.heap.size w W) := fun W h => by
    rw [hqd, hqe]
    exact HK5.out W (b6.trans (h.mono b6.size))
  have HJ : Hid (∀ W, Below w6.heap.size w6 W → (W.heap[qx]? = some (.cells #[.slice o3 n3 c3, .slice o4 ws2.length c4] 27)) ∧ AnyD W (w4.alloc (.cells #[.slice of pc.length pf, .slice of2 pw.length pf2] 27)).heap.size (.slice o3 n3 c3) (.slice o4 ws2.length c4) cs2 ws2) := fun W h => ⟨blk_below hx6 h, HA5.out W (b6.trans (h.mono b6.size))⟩
  obtain ⟨z2, hz2⟩ : ∃ z, z = getD' cs2 ws2 x2 := ⟨_, rfl⟩
  have HZ2 : Hid (getD' cs2 ws2 x2 = z2) := hz2.symm
  clear hw6 hqx hqe hqd b6 hx6 HK5 HA5 hz2
  cases pb with
  | true =>
    refine wp_region_held_drew (S := fun W => W.heap[qx]? = some (.cells #[.slice o3 n3 c3, .slice o4 ws2.length c4] 27)) (by kernel_rfl) (HJ.out _ (Below.refl _ _).drew).1 (fun _ => ?_)
    obtain ⟨m0, hX⟩ : ∃ X, X = w6.drew := ⟨_, rfl⟩
    have hx0 : Below w6.heap.size w6 m0 := by rw [hX]; exact (Below.refl _ _).drew
    rw [← hX]
    clear hX
    have hS0 : m0.heap[qx]? = some (.cells #[.slice o3 n3 c3, .slice o4 ws2.length c4] 27) := (HJ.out _ hx0).1
    refine wpAnyH_takeD (i := 0) (v := .bool true) (some 41) rfl rfl (by kernel_rfl) (by kernel_rfl) (by kernel_rfl) (fun _ _ _ h => h) (Or.inl ⟨by rfl, by intro W _; go_simp⟩) hS0 ?_
    simp only [Act.put, List.setIfInBounds_toArray, List.set_cons_zero, List.set_cons_succ]
    refine wpAnyH_takeD (i := 1) (v := .bool true) (some 42) rfl rfl (by kernel_rfl) (by kernel_rfl) (by kernel_rfl) (fun _ _ _ h => h) (Or.inl ⟨by rfl, by intro W _; go_simp⟩) hS0 ?_
    simp only [Act.put, List.setIfInBounds_toArray, List.set_cons_zero, List.set_cons_succ]
    refine wpAnyH_takeD (i := 2) (v := .bool false) (some 43) rfl rfl (by kernel_rfl) (by kernel_rfl) (by kernel_rfl) (fun _ _ _ h => h) (Or.inl ⟨by rfl, by intro W _; go_simp⟩) hS0 ?_
    simp only [Act.put, List.setIfInBounds_toArray, List.set_cons_zero, List.set_cons_succ]
    refine wpAnyH_takeD (i := 3) (v := .bool false) (some 44) rfl rfl (by kernel_rfl) (by kernel_rfl) (by kernel_rfl) (fun _ _ _ h => h) (Or.inl ⟨by rfl, by intro W _; go_simp⟩) hS0 ?_
    simp only [Act.put, List.setIfInBounds_toArray, List.set_cons_zero, List.set_cons_succ]
    refine wpAnyH_takeD (i := 4) (v := .agg #[.slice o3 n3 c3, .slice o4 ws2.length c4]) (some 45) rfl rfl (by kernel_rfl) (by kernel_rfl) (by kernel_rfl) (fun _ _ _ h => h) (Or.inl ⟨by rfl, by intro W hW; have hhx := hW; have y0 := (cell_of hhx 0).trans rfl; have y1 := (cell_of hhx 1).trans rfl; go_simp⟩) hS0 ?_
    simp only [Act.put, List.setIfInBounds_toArray, List.set_cons_zero, List.set_cons_succ]
    refine wpAnyH_takeD (i := 5) (v := .int .i64 x2) (some 46) rfl rfl (by kernel_rfl) (by kernel_rfl) (by kernel_rfl) (fun _ _ _ h => h) (Or.inl ⟨by rfl, by intro W _; go_simp⟩) hS0 ?_
    simp only [Act.put, List.setIfInBounds_toArray, List.set_cons_zero, List.set_cons_succ]
    refine wpAnyH_takeD (i := 7) (v := .agg #[.slice o3 n3 c3, .slice o4 ws2.length c4]) (some 48) rfl rfl (by kernel_rfl) (by kernel_rfl) (by kernel_rfl) (fun _ _ _ h => h) (Or.inl ⟨by rfl, by intro W hW; have hhx := hW; have y0 := (cell_of hhx 0).trans rfl; have y1 := (cell_of hhx 1).trans rfl; go_simp⟩) hS0 ?_
    simp only [Act.put, List.setIfInBounds_toArray, List.set_cons_zero, List.set_cons_succ]
    refine wpAnyH_takeD (i := 8) (v := .int .i64 x2) (some 49) rfl rfl (by kernel_rfl) (by kernel_rfl) (by kernel_rfl) (fun _ _ _ h => h) (Or.inl ⟨by rfl, by intro W _; go_simp⟩) hS0 ?_
    simp only [Act.put, List.setIfInBounds_toArray, List.set_cons_zero, List.set_cons_succ]
    refine wpAnyH_ready (rs := [6]) (by kernel_rfl) (by simp) ?_
    refine AllReadyH.cons rfl (fun K hK => ?_) AllReadyH.nil
    go_simp
    refine (implDiskGet_d _ _ cs2 ws2 _ _ (HJ.out _ hx0).2 x2).mono ?_
    rintro e m1 ⟨rfl, bw⟩
    rw [HZ2.out]
    have hx1 := hx0.trans (bw.mono hx0.size)
    clear bw
    have hS1 : m1.heap[qx]? = some (.cells #[.slice o3 n3 c3, .slice o4 ws2.length c4] 27) := (HJ.out _ hx1).1
    refine hK.out _ _ hS1 (fun _ => ?_)
    clear hK K hS0
    refine wpAnyH_ready (rs := [9]) (by kernel_rfl) (by simp) ?_
    refine AllReadyH.cons rfl (fun K hK => ?_) AllReadyH.nil
    go_simp
    refine (specDiskGet_d _ _ cs2 ws2 _ _ (HJ.out _ hx1).2 x2).mono ?_
    rintro e m2 ⟨rfl, bw⟩
    rw [HZ2.out]
    have hx2 := hx1.trans (bw.mono hx1.size)
    clear bw
    have hS2 : m2.heap[qx]? = some (.cells #[.slice o3 n3 c3, .slice o4 ws2.length c4] 27) := (HJ.out _ hx2).1
    refine hK.out _ _ hS2 (fun _ => ?_)
    clear hK K hS1
    refine wpAnyH_takeD (i := 10) (v := .bool false) (some 51) rfl rfl (by kernel_rfl) (by kernel_rfl) (by kernel_rfl) (fun _ _ _ h => h) (Or.inl ⟨by rfl, by intro W _; go_simp⟩) hS2 ?_
    simp only [Act.put, List.setIfInBounds_toArray, List.set_cons_zero, List.set_cons_succ]
    refine wpAnyH_takeD (i := 11) (v := .bool false) (some 52) rfl rfl (by kernel_rfl) (by kernel_rfl) (by kernel_rfl) (fun _ _ _ h => h) (Or.inl ⟨by rfl, by intro W _; go_simp⟩) hS2 ?_
    simp only [Act.put, List.setIfInBounds_toArray, List.set_cons_zero, List.set_cons_succ]
    clear hS2
    refine wpAnyH_done (by kernel_rfl) ?_ _
    have HX7 : Hid (Below w6.heap.size w6 m2) := hx2
    have HK7 := HK.out _ HX7.out
    go_wp2_with fail
    refine (drawFlush_any a0 len0 cap0 zc0 _ (HCODE.out _ HK7.2.2.2.2)).mono ?_
    rintro e w7 ⟨v5, v6, cs3, ws3, rfl, hA3, bw7⟩
    obtain ⟨o5, n5, c5, o6, c6, rfl, rfl⟩ := hA3.forms
    have B7 : Below w6.heap.size w6 w7 := HX7.out.trans (bw7.mono HX7.out.size)
    go_upto_region 10 with fail
    obtain ⟨w8, hw8⟩ : ∃ W, W = w7.alloc (.cells #[.slice o5 n5 c5, .slice o6 ws3.length c6] 27) := ⟨_, rfl⟩
    obtain ⟨qf, hqf⟩ : ∃ q, q = w7.heap.size := ⟨_, rfl⟩
    rw [← hw8, ← hqf]
    have b8 : Below w7.heap.size w7 w8 := by rw [hw8]; exact (Below.refl _ _).alloc (Nat.le_refl _) _
    have hf8 : w8.heap[qf]? = some (.cells #[.slice o5 n5 c5, .slice o6 ws3.length c6] 27) := by rw [hw8, hqf]; exact heap_alloc_new _ _
    have B8 : Below w6.heap.size w6 w8 := B7.trans (b8.mono B7.size)
    have HN : Hid (∀ W, Below w8.heap.size w8 W → Below w6.heap.size w6 W) := fun W h => B8.trans (h.mono B8.size)
    have HF : Hid (∀ W, Below w8.heap.size w8 W → (W.heap[qf]? = some (.cells #[.slice o5 n5 c5, .slice o6 ws3.length c6] 27)) ∧ AnyD W m2.heap.size (.slice o5 n5 c5) (.slice o6 ws3.length c6) cs3 ws3) := fun W h => ⟨blk_below hf8 h, hA3.below (b8.trans (h.mono b8.size))⟩
    obtain ⟨lf, hlf⟩ : ∃ l, l = landC cs3 ws3 (fun _ => true) := ⟨_, rfl⟩
    have HLF : Hid (lf = landC cs3 ws3 (fun _ => true)) := hlf
    have HL20 : Hid (lf.length ≤ 20) := by
      rw [hlf]
      by_cases hp : DiskP cs3 ws3
      · rw [landC_yes hp, landTo_len, hp.1]; exact Nat.le_refl _
      · rw [landC_no hp]; exact Nat.zero_le _
    clear hlf hw8 hqf b8 hf8 B8 B7 bw7 hA3 HK7 HX7 hx0
    have hfld : ∀ (o : Option Addr) (n c : Nat) (b : Value) (W : World), (Instr.field 27 (.agg #[.slice o n c, b]) 0).run Try.prog W = .ok (.slice o n c) W := fun o n c b W => by simp [Instr.field, asAgg, part]
    refine wp_region_held_drew (S := fun W => W.heap[qf]? = some (.cells #[.slice o5 n5 c5, .slice o6 ws3.length c6] 27)) (by kernel_rfl) (HF.out _ (Below.refl _ _).drew).1 (fun _ => ?_)
    obtain ⟨m0, hX⟩ : ∃ X, X = w8.drew := ⟨_, rfl⟩
    have hx0 : Below w8.heap.size w8 m0 := by rw [hX]; exact (Below.refl _ _).drew
    rw [← hX]
    clear hX
    have hS0 : m0.heap[qf]? = some (.cells #[.slice o5 n5 c5, .slice o6 ws3.length c6] 27) := (HF.out _ hx0).1
    refine wpAnyH_takeD (i := 0) (v := .agg #[.slice o5 n5 c5, .slice o6 ws3.length c6]) (some 55) rfl rfl (by kernel_rfl) (by kernel_rfl) (by kernel_rfl) (fun _ _ _ h => h) (Or.inl ⟨by rfl, by intro W hW; have hhf := hW; have y0 := (cell_of hhf 0).trans rfl; have y1 := (cell_of hhf 1).trans rfl; go_simp⟩) hS0 ?_
    simp only [Act.put, List.setIfInBounds_toArray, List.set_cons_zero, List.set_cons_succ]
    refine wpAnyH_takeD (i := 3) (v := .agg #[.slice o5 n5 c5, .slice o6 ws3.length c6]) (some 58) rfl rfl (by kernel_rfl) (by kernel_rfl) (by kernel_rfl) (fun _ _ _ h => h) (Or.inl ⟨by rfl, by intro W hW; have hhf := hW; have y0 := (cell_of hhf 0).trans rfl; have y1 := (cell_of hhf 1).trans rfl; go_simp⟩) hS0 ?_
    simp only [Act.put, List.setIfInBounds_toArray, List.set_cons_zero, List.set_cons_succ]
    refine wpAnyH_ready (rs := [1]) (by kernel_rfl) (by simp) ?_
    refine AllReadyH.cons rfl (fun K hK => ?_) AllReadyH.nil
    go_simp
    refine ((show Calls Try.prog 18 #[.agg #[.slice o5 n5 c5, .slice o6 ws3.length c6]] _ fun e w' => DiskIs lf [] _ e w' by rw [HLF.out]; exact implFlush_d _ _ cs3 ws3 _ _ (HF.out _ hx0).2)).mono ?_
    rintro e m1 ⟨l1, k1, rfl, hL1, bw⟩
    obtain ⟨ol1, pl1, rfl⟩ := slice_of_owns hL1.cells
    obtain ⟨om1, pm1, rfl⟩ := slice_of_owns hL1.pend
    have bL1 := bw
    have hx1 := hx0.trans (bw.mono hx0.size)
    clear bw
    have hS1 : m1.heap[qf]? = some (.cells #[.slice o5 n5 c5, .slice o6 ws3.length c6] 27) := (HF.out _ hx1).1
    refine hK.out _ _ hS1 (fun _ => ?_)
    clear hK K hS0
    refine wpAnyH_takeD (i := 2) (v := .slice ol1 lf.length pl1) (some 57) rfl rfl (by kernel_rfl) (by kernel_rfl) (by kernel_rfl) (fun _ _ _ h => h) (Or.inl ⟨by rfl, by intro W _; go_simp⟩) hS1 ?_
    simp only [Act.put, List.setIfInBounds_toArray, List.set_cons_zero, List.set_cons_succ]
    refine wpAnyH_ready (rs := [4]) (by kernel_rfl) (by simp) ?_
    refine AllReadyH.cons rfl (fun K hK => ?_) AllReadyH.nil
    go_simp
    refine ((show Calls Try.prog 26 #[.agg #[.slice o5 n5 c5, .slice o6 ws3.length c6]] _ fun e w' => DiskIs lf [] _ e w' by rw [HLF.out]; exact specFlush_d _ _ cs3 ws3 _ _ (HF.out _ hx1).2)).mono ?_
    rintro e m2 ⟨l2, k2, rfl, hL2, bw⟩
    obtain ⟨ol2, pl2, rfl⟩ := slice_of_owns hL2.cells
    obtain ⟨om2, pm2, rfl⟩ := slice_of_owns hL2.pend
    have bL2 := bw
    have hx2 := hx1.trans (bw.mono hx1.size)
    clear bw
    have hS2 : m2.heap[qf]? = some (.cells #[.slice o5 n5 c5, .slice o6 ws3.length c6] 27) := (HF.out _ hx2).1
    refine hK.out _ _ hS2 (fun _ => ?_)
    clear hK K hS1
    refine wpAnyH_takeD (i := 5) (v := .slice ol2 lf.length pl2) (some 60) rfl rfl (by kernel_rfl) (by kernel_rfl) (by kernel_rfl) (fun _ _ _ h => h) (Or.inl ⟨by rfl, by intro W _; go_simp⟩) hS2 ?_
    simp only [Act.put, List.setIfInBounds_toArray, List.set_cons_zero, List.set_cons_succ]
    refine wpAnyH_ready (rs := [6]) (by kernel_rfl) (by simp) ?_
    refine AllReadyH.cons rfl (fun K hK => ?_) AllReadyH.nil
    go_simp
    refine (sameT_any _ _ _ _ _ lf _ (owns_below hL1.cells bL2 (fun _ hg => owns_lt hL1.cells hg)) hL2.cells (by have := HL20.out; omega)).mono ?_
    rintro e m3 ⟨rfl, bw⟩
    have hx3 := hx2.trans (bw.mono hx2.size)
    clear bw
    have hS3 : m3.heap[qf]? = some (.cells #[.slice o5 n5 c5, .slice o6 ws3.length c6] 27) := (HF.out _ hx3).1
    refine hK.out _ _ hS3 (fun _ => ?_)
    clear hK K hS2
    refine wpAnyH_takeD (i := 7) (v := .bool false) (some 62) rfl rfl (by kernel_rfl) (by kernel_rfl) (by kernel_rfl) (fun _ _ _ h => h) (Or.inl ⟨by rfl, by intro W _; go_simp⟩) hS3 ?_
    simp only [Act.put, List.setIfInBounds_toArray, List.set_cons_zero, List.set_cons_succ]
    refine wpAnyH_takeD (i := 8) (v := .bool false) (some 63) rfl rfl (by kernel_rfl) (by kernel_rfl) (by kernel_rfl) (fun _ _ _ h => h) (Or.inl ⟨by rfl, by intro W _; go_simp⟩) hS3 ?_
    simp only [Act.put, List.setIfInBounds_toArray, List.set_cons_zero, List.set_cons_succ]
    refine wpAnyH_ready (rs := [9]) (by kernel_rfl) (by simp) ?_
    refine AllReadyH.cons rfl (fun K hK => ?_) AllReadyH.nil
    go_simp
    refine (implDiskNew_any _).mono ?_
    rintro e m4 ⟨u1, u2, rfl, hNW, bw⟩
    obtain ⟨on, pn, rfl⟩ := slice_of_owns hNW.cells
    obtain ⟨on2, pn2, rfl⟩ := slice_of_owns hNW.pend
    clear hNW
    simp only [show newC.length = 20 from rfl]
    have hx4 := hx3.trans (bw.mono hx3.size)
    clear bw
    have hS4 : m4.heap[qf]? = some (.cells #[.slice o5 n5 c5, .slice o6 ws3.length c6] 27) := (HF.out _ hx4).1
    refine hK.out _ _ hS4 (fun _ => ?_)
    clear hK K hS3
    refine wpAnyH_takeD (i := 10) (v := .slice on 20 pn) (some 65) rfl rfl (by kernel_rfl) (by kernel_rfl) (by kernel_rfl) (fun _ _ _ h => h) (Or.inl ⟨by rfl, by intro W _; go_simp⟩) hS4 ?_
    simp only [Act.put, List.setIfInBounds_toArray, List.set_cons_zero, List.set_cons_succ]
    refine wpAnyH_takeD (i := 11) (v := .int .i64 (20 : Int)) (some 66) rfl rfl (by kernel_rfl) (by kernel_rfl) (by kernel_rfl) (fun _ _ _ h => h) (Or.inl ⟨by rfl, by intro W _; go_simp⟩) hS4 ?_
    simp only [Act.put, List.setIfInBounds_toArray, List.set_cons_zero, List.set_cons_succ]
    refine wpAnyH_takeD (i := 12) (v := .bool false) (some 67) rfl rfl (by kernel_rfl) (by kernel_rfl) (by kernel_rfl) (fun _ _ _ h => h) (Or.inl ⟨by rfl, by intro W _; go_simp⟩) hS4 ?_
    simp only [Act.put, List.setIfInBounds_toArray, List.set_cons_zero, List.set_cons_succ]
    refine wpAnyH_takeD (i := 13) (v := .bool false) (some 68) rfl rfl (by kernel_rfl) (by kernel_rfl) (by kernel_rfl) (fun _ _ _ h => h) (Or.inl ⟨by rfl, by intro W _; go_simp⟩) hS4 ?_
    simp only [Act.put, List.setIfInBounds_toArray, List.set_cons_zero, List.set_cons_succ]
    clear hS4
    refine wpAnyH_done (by kernel_rfl) ?_ _
    have HX8 : Hid (Below w6.heap.size w6 m4) := HN.out _ hx4
    have hpu : putB cs ws x = true := HPB.out.symm
    obtain ⟨hp, hl16, hx19⟩ := dput_yes hpu
    have HCE : Hid (pc = cs) := by rw [Hid, HPC.out, put_c hp]
    have HWE : Hid (pw = (ws ++ [(x, t)])) := by rw [Hid, HPW.out, put_w hp hl16 hx19]
    have HPU : Hid (putB cs ws x = true) := hpu
    have HPR : Hid (DiskP pc pw) := by rw [HCE.out, HWE.out]; exact put_right hp hl16 (x, t) hx19.1 hx19.2
    have HP : Hid (DiskP cs ws) := hp
    clear hpu hp hl16 hx19 HPC HPW HPB
    obtain ⟨mA, hmA⟩ : ∃ m, m = m4 := ⟨_, rfl⟩
    rw [← hmA] at HX8
    rw [← hmA]
    have HM : Hid (∀ W, Below mA.heap.size mA W → (W.heap[qd]? = some (.cells #[.slice o1 n1 c1, .slice o2 ws.length c2] 27) ∧ W.heap[qe]? = some (.cells #[.slice oe pc.length pe, .slice oe2 pw.length pe2] 27)) ∧ AnyD W w.heap.size (.slice o1 n1 c1) (.slice o2 ws.length c2) cs ws ∧ AnyD W w2.heap.size (.slice oe pc.length pe) (.slice oe2 pw.length pe2) pc pw ∧ Below w.heap.size w W) := fun W h => by
      obtain ⟨g1, g2, g3, g4, g5⟩ := HK.out W (HX8.out.trans (h.mono HX8.out.size))
      refine ⟨⟨g1, g2⟩, g3, anyD_of g4 HPR.out ?_ ?_, g5⟩
      · rcases g3.2.2.2 with ⟨_, _, h7⟩ | ⟨h7, _⟩
        · rw [HCE.out]; exact h7
        · exact absurd HP.out (AnyD.right h7)
      · intro y hy
        rw [HWE.out] at hy
        rcases List.mem_append.1 hy with h | h
        · exact HZW.out y h
        · rw [List.mem_singleton.1 h]; exact HT.out
    clear HK HX8 hmA HN HF
    go_wp2_with fail
    have HTE : Hid (getD' pc pw x = t) := by rw [HCE.out, HWE.out]; exact dput_there HPU.out
    go_loopw [13] (fun i wr => ∃ j : Nat, j ≤ 20 ∧ i = .int .i64 (j : Int) ∧ Hid (Below mA.heap.size mA wr)) (fun i _ => 20 - (intOf i).toNat)
    case atStart => exact ⟨0, by omega, rfl, Below.refl _ _⟩
    case round =>
      obtain ⟨j, hj20, rfl, HXW⟩ := hrel
      have HJ2 : Hid (∀ W, Below wr.heap.size wr W → (W.heap[qd]? = some (.cells #[.slice o1 n1 c1, .slice o2 ws.length c2] 27) ∧ W.heap[qe]? = some (.cells #[.slice oe pc.length pe, .slice oe2 pw.length pe2] 27)) ∧ AnyD W w.heap.size (.slice o1 n1 c1) (.slice o2 ws.length c2) cs ws ∧ AnyD W w2.heap.size (.slice oe pc.length pe) (.slice oe2 pw.length pe2) pc pw ∧ Below mA.heap.size mA W) := fun W h => by
        have h1 := HXW.out.trans (h.mono HXW.out.size)
        have h2 := HM.out W h1
        exact ⟨h2.1, h2.2.1, h2.2.2.1, h1⟩
      by_cases hlt : (j : Int) < 20
      · have hj2 : j < 20 := by omega
        obtain ⟨z, hzz⟩ : ∃ z, z = getD' cs ws (j : Int) := ⟨_, rfl⟩
        have HZ : Hid (getD' cs ws (j : Int) = z) := hzz.symm
        by_cases hjx : (j : Int) = x
        · have hq1 : ((j : Int) == x) = true := by simp [hjx]
          have hq2 : ((j : Int) != x) = false := by simp [hjx]
          clear hjx hzz
          go_upto_region 17 with fail
          refine wp_region_held_drew (S := fun W => W.heap[qd]? = some (.cells #[.slice o1 n1 c1, .slice o2 ws.length c2] 27) ∧ W.heap[qe]? = some (.cells #[.slice oe pc.length pe, .slice oe2 pw.length pe2] 27)) (by kernel_rfl) (HJ2.out _ (Below.refl _ _).drew).1 (fun _ => ?_)
          obtain ⟨m0, hX⟩ : ∃ X, X = wr.drew := ⟨_, rfl⟩
          have hx0 : Below wr.heap.size wr m0 := by rw [hX]; exact (Below.refl _ _).drew
          rw [← hX]
          clear hX
          have hS0 : m0.heap[qd]? = some (.cells #[.slice o1 n1 c1, .slice o2 ws.length c2] 27) ∧ m0.heap[qe]? = some (.cells #[.slice oe pc.length pe, .slice oe2 pw.length pe2] 27) := (HJ2.out _ hx0).1
          refine wpAnyH_takeD (i := 0) (v := .int .i64 (j : Int)) (some 88) rfl rfl (by kernel_rfl) (by kernel_rfl) (by kernel_rfl) (fun _ _ _ h => h) (Or.inl ⟨by rfl, by intro W _; go_simp⟩) hS0 ?_
          simp only [Act.put, List.setIfInBounds_toArray, List.set_cons_zero, List.set_cons_succ]
          refine wpAnyH_takeD (i := 1) (v := .int .i64 x) (some 89) rfl rfl (by kernel_rfl) (by kernel_rfl) (by kernel_rfl) (fun _ _ _ h => h) (Or.inl ⟨by rfl, by intro W _; go_simp⟩) hS0 ?_
          simp only [Act.put, List.setIfInBounds_toArray, List.set_cons_zero, List.set_cons_succ]
          refine wpAnyH_takeD (i := 2) (v := .bool false) (some 90) rfl rfl (by kernel_rfl) (by kernel_rfl) (by kernel_rfl) (fun _ _ _ h => h) (Or.inl ⟨by rfl, by intro W _; go_simp⟩) hS0 ?_
          simp only [Act.put, List.setIfInBounds_toArray, List.set_cons_zero, List.set_cons_succ]
          refine wpAnyH_takeD (i := 3) (v := .bool false) (some 91) rfl rfl (by kernel_rfl) (by kernel_rfl) (by kernel_rfl) (fun _ _ _ h => h) (Or.inl ⟨by rfl, by intro W _; go_simp⟩) hS0 ?_
          simp only [Act.put, List.setIfInBounds_toArray, List.set_cons_zero, List.set_cons_succ]
          refine wpAnyH_takeD (i := 4) (v := undef) (some 92) rfl rfl (by kernel_rfl) (by kernel_rfl) (by kernel_rfl) (fun _ _ _ h => h) (Or.inr ⟨by rfl, rfl⟩) hS0 ?_
          simp only [Act.put, List.setIfInBounds_toArray, List.set_cons_zero, List.set_cons_succ]
          refine wpAnyH_takeD (i := 5) (v := undef) (some 93) rfl rfl (by kernel_rfl) (by kernel_rfl) (by kernel_rfl) (fun _ _ _ h => h) (Or.inr ⟨by rfl, rfl⟩) hS0 ?_
          simp only [Act.put, List.setIfInBounds_toArray, List.set_cons_zero, List.set_cons_succ]
          refine wpAnyH_takeD (i := 6) (v := undef) (some 94) rfl rfl (by kernel_rfl) (by kernel_rfl) (by kernel_rfl) (fun _ _ _ h => h) (Or.inr ⟨by rfl, rfl⟩) hS0 ?_
          simp only [Act.put, List.setIfInBounds_toArray, List.set_cons_zero, List.set_cons_succ]
          refine wpAnyH_takeD (i := 7) (v := undef) (some 95) rfl rfl (by kernel_rfl) (by kernel_rfl) (by kernel_rfl) (fun _ _ _ h => h) (Or.inr ⟨by rfl, rfl⟩) hS0 ?_
          simp only [Act.put, List.setIfInBounds_toArray, List.set_cons_zero, List.set_cons_succ]
          refine wpAnyH_takeD (i := 8) (v := undef) (some 96) rfl rfl (by kernel_rfl) (by kernel_rfl) (by kernel_rfl) (fun _ _ _ h => h) (Or.inr ⟨by rfl, rfl⟩) hS0 ?_
          simp only [Act.put, List.setIfInBounds_toArray, List.set_cons_zero, List.set_cons_succ]
          refine wpAnyH_takeD (i := 9) (v := undef) (some 97) rfl rfl (by kernel_rfl) (by kernel_rfl) (by kernel_rfl) (fun _ _ _ h => h) (Or.inr ⟨by rfl, rfl⟩) hS0 ?_
          simp only [Act.put, List.setIfInBounds_toArray, List.set_cons_zero, List.set_cons_succ]
          refine wpAnyH_takeD (i := 10) (v := undef) (some 98) rfl rfl (by kernel_rfl) (by kernel_rfl) (by kernel_rfl) (fun _ _ _ h => h) (Or.inr ⟨by rfl, rfl⟩) hS0 ?_
          simp only [Act.put, List.setIfInBounds_toArray, List.set_cons_zero, List.set_cons_succ]
          refine wpAnyH_takeD (i := 11) (v := .bool false) (some 99) rfl rfl (by kernel_rfl) (by kernel_rfl) (by kernel_rfl) (fun _ _ _ h => h) (Or.inl ⟨by rfl, by intro W _; go_simp⟩) hS0 ?_
          simp only [Act.put, List.setIfInBounds_toArray, List.set_cons_zero, List.set_cons_succ]
          clear hS0
          refine wpAnyH_done (by kernel_rfl) ?_ _
          have HE : Hid (Below mA.heap.size mA m0) := (HJ2.out _ hx0).2.2.2
          go_wp2_with fail
          go_roundw
          case rel => exact ⟨j + 1, by omega, by go_num, HE⟩
          case measure => simp [intOf]; omega
        · have hq1 : ((j : Int) == x) = false := by simp [hjx]
          have hq2 : ((j : Int) != x) = true := by simp [hjx]
          have HZE : Hid (getD' pc pw (j : Int) = z) := by rw [hzz, HCE.out, HWE.out]; exact dput_other HPU.out j hj2 hjx
          clear hjx hzz
          go_upto_region 17 with fail
          refine wp_region_held_drew (S := fun W => W.heap[qd]? = some (.cells #[.slice o1 n1 c1, .slice o2 ws.length c2] 27) ∧ W.heap[qe]? = some (.cells #[.slice oe pc.length pe, .slice oe2 pw.length pe2] 27)) (by kernel_rfl) (HJ2.out _ (Below.refl _ _).drew).1 (fun _ => ?_)
          obtain ⟨m0, hX⟩ : ∃ X, X = wr.drew := ⟨_, rfl⟩
          have hx0 : Below wr.heap.size wr m0 := by rw [hX]; exact (Below.refl _ _).drew
          rw [← hX]
          clear hX
          have hS0 : m0.heap[qd]? = some (.cells #[.slice o1 n1 c1, .slice o2 ws.length c2] 27) ∧ m0.heap[qe]? = some (.cells #[.slice oe pc.length pe, .slice oe2 pw.length pe2] 27) := (HJ2.out _ hx0).1
          refine wpAnyH_takeD (i := 0) (v := .int .i64 (j : Int)) (some 88) rfl rfl (by kernel_rfl) (by kernel_rfl) (by kernel_rfl) (fun _ _ _ h => h) (Or.inl ⟨by rfl, by intro W _; go_simp⟩) hS0 ?_
          simp only [Act.put, List.setIfInBounds_toArray, List.set_cons_zero, List.set_cons_succ]
          refine wpAnyH_takeD (i := 1) (v := .int .i64 x) (some 89) rfl rfl (by kernel_rfl) (by kernel_rfl) (by kernel_rfl) (fun _ _ _ h => h) (Or.inl ⟨by rfl, by intro W _; go_simp⟩) hS0 ?_
          simp only [Act.put, List.setIfInBounds_toArray, List.set_cons_zero, List.set_cons_succ]
          refine wpAnyH_takeD (i := 2) (v := .bool true) (some 90) rfl rfl (by kernel_rfl) (by kernel_rfl) (by kernel_rfl) (fun _ _ _ h => h) (Or.inl ⟨by rfl, by intro W _; go_simp⟩) hS0 ?_
          simp only [Act.put, List.setIfInBounds_toArray, List.set_cons_zero, List.set_cons_succ]
          refine wpAnyH_takeD (i := 3) (v := .bool true) (some 91) rfl rfl (by kernel_rfl) (by kernel_rfl) (by kernel_rfl) (fun _ _ _ h => h) (Or.inl ⟨by rfl, by intro W _; go_simp⟩) hS0 ?_
          simp only [Act.put, List.setIfInBounds_toArray, List.set_cons_zero, List.set_cons_succ]
          refine wpAnyH_takeD (i := 4) (v := .agg #[.slice oe pc.length pe, .slice oe2 pw.length pe2]) (some 92) rfl rfl (by kernel_rfl) (by kernel_rfl) (by kernel_rfl) (fun _ _ _ h => h) (Or.inl ⟨by rfl, by intro W hW; obtain ⟨hhd, hhe⟩ := hW; have y0 := (cell_of hhe 0).trans rfl; have y1 := (cell_of hhe 1).trans rfl; go_simp⟩) hS0 ?_
          simp only [Act.put, List.setIfInBounds_toArray, List.set_cons_zero, List.set_cons_succ]
          refine wpAnyH_takeD (i := 5) (v := .int .i64 (j : Int)) (some 93) rfl rfl (by kernel_rfl) (by kernel_rfl) (by kernel_rfl) (fun _ _ _ h => h) (Or.inl ⟨by rfl, by intro W _; go_simp⟩) hS0 ?_
          simp only [Act.put, List.setIfInBounds_toArray, List.set_cons_zero, List.set_cons_succ]
          refine wpAnyH_takeD (i := 7) (v := .agg #[.slice o1 n1 c1, .slice o2 ws.length c2]) (some 95) rfl rfl (by kernel_rfl) (by kernel_rfl) (by kernel_rfl) (fun _ _ _ h => h) (Or.inl ⟨by rfl, by intro W hW; obtain ⟨hhd, hhe⟩ := hW; have y0 := (cell_of hhd 0).trans rfl; have y1 := (cell_of hhd 1).trans rfl; go_simp⟩) hS0 ?_
          simp only [Act.put, List.setIfInBounds_toArray, List.set_cons_zero, List.set_cons_succ]
          refine wpAnyH_takeD (i := 8) (v := .int .i64 (j : Int)) (some 96) rfl rfl (by kernel_rfl) (by kernel_rfl) (by kernel_rfl) (fun _ _ _ h => h) (Or.inl ⟨by rfl, by intro W _; go_simp⟩) hS0 ?_
          simp only [Act.put, List.setIfInBounds_toArray, List.set_cons_zero, List.set_cons_succ]
          refine wpAnyH_ready (rs := [6]) (by kernel_rfl) (by simp) ?_
          refine AllReadyH.cons rfl (fun K hK => ?_) AllReadyH.nil
          go_simp
          refine (implDiskGet_d _ _ pc pw _ _ (HJ2.out _ hx0).2.2.1 (j : Int)).mono ?_
          rintro e m1 ⟨rfl, bw⟩
          rw [HZE.out]
          have hx1 := hx0.trans (bw.mono hx0.size)
          clear bw
          have hS1 : m1.heap[qd]? = some (.cells #[.slice o1 n1 c1, .slice o2 ws.length c2] 27) ∧ m1.heap[qe]? = some (.cells #[.slice oe pc.length pe, .slice oe2 pw.length pe2] 27) := (HJ2.out _ hx1).1
          refine hK.out _ _ hS1 (fun _ => ?_)
          clear hK K hS0
          refine wpAnyH_ready (rs := [9]) (by kernel_rfl) (by simp) ?_
          refine AllReadyH.cons rfl (fun K hK => ?_) AllReadyH.nil
          go_simp
          refine (implDiskGet_d _ _ cs ws _ _ (HJ2.out _ hx1).2.1 (j : Int)).mono ?_
          rintro e m2 ⟨rfl, bw⟩
          rw [HZ.out]
          have hx2 := hx1.trans (bw.mono hx1.size)
          clear bw
          have hS2 : m2.heap[qd]? = some (.cells #[.slice o1 n1 c1, .slice o2 ws.length c2] 27) ∧ m2.heap[qe]? = some (.cells #[.slice oe pc.length pe, .slice oe2 pw.length pe2] 27) := (HJ2.out _ hx2).1
          refine hK.out _ _ hS2 (fun _ => ?_)
          clear hK K hS1
          refine wpAnyH_takeD (i := 10) (v := .bool false) (some 98) rfl rfl (by kernel_rfl) (by kernel_rfl) (by kernel_rfl) (fun _ _ _ h => h) (Or.inl ⟨by rfl, by intro W _; go_simp⟩) hS2 ?_
          simp only [Act.put, List.setIfInBounds_toArray, List.set_cons_zero, List.set_cons_succ]
          refine wpAnyH_takeD (i := 11) (v := .bool false) (some 99) rfl rfl (by kernel_rfl) (by kernel_rfl) (by kernel_rfl) (fun _ _ _ h => h) (Or.inl ⟨by rfl, by intro W _; go_simp⟩) hS2 ?_
          simp only [Act.put, List.setIfInBounds_toArray, List.set_cons_zero, List.set_cons_succ]
          clear hS2
          refine wpAnyH_done (by kernel_rfl) ?_ _
          have HE : Hid (Below mA.heap.size mA m2) := (HJ2.out _ hx2).2.2.2
          go_wp2_with fail
          refine ⟨⟨_, .int .i64 ((j : Int) + 1), _, _, _, _, _, _, _, _, _, _, _, _, _, _, _, _, ⟨j + 1, by omega, by simp, HE⟩, rfl⟩, ?_⟩
          simp [intOf]
          omega
      · obtain ⟨⟨k0, k1⟩, _, hAE, hBW⟩ := HM.out _ HXW.out
        have y0 := (cell_of k1 0).trans rfl
        have y1 := (cell_of k1 1).trans rfl
        clear k0 k1
        go_wp2_with fail
        refine (implDiskGet_d _ _ pc pw _ _ hAE x).mono ?_
        rintro e w9 ⟨rfl, bw9⟩
        rw [HTE.out]
        obtain ⟨⟨k0, k1⟩, _, hAE2, hBW2⟩ := HM.out _ (HXW.out.trans (bw9.mono HXW.out.size))
        have y2 := (cell_of k1 0).trans rfl
        have y3 := (cell_of k1 1).trans rfl
        clear k0 k1 y0 y1 hBW
        go_wp2_with fail
        refine (implDiskOk_d _ _ pc pw _ _ hAE2).mono ?_
        rintro e w10 ⟨bb, rfl, hbb, bw10⟩
        obtain rfl : bb = true := hbb.2 HPR.out
        have HBE : Hid (Below w.heap.size w w10) := hBW2.trans (bw10.mono hBW2.size)
        clear hbb bw10 hBW2 hAE hAE2 bw9
        go_wp2_with fail
        go_ret
        exact ⟨rfl, HBE.out⟩
  | false =>
    refine wp_region_held_drew (S := fun W => W.heap[qx]? = some (.cells #[.slice o3 n3 c3, .slice o4 ws2.length c4] 27)) (by kernel_rfl) (HJ.out _ (Below.refl _ _).drew).1 (fun _ => ?_)
    obtain ⟨m0, hX⟩ : ∃ X, X = w6.drew := ⟨_, rfl⟩
    have hx0 : Below w6.heap.size w6 m0 := by rw [hX]; exact (Below.refl _ _).drew
    rw [← hX]
    clear hX
    have hS0 : m0.heap[qx]? = some (.cells #[.slice o3 n3 c3, .slice o4 ws2.length c4] 27) := (HJ.out _ hx0).1
    refine wpAnyH_takeD (i := 0) (v := .bool false) (some 41) rfl rfl (by kernel_rfl) (by kernel_rfl) (by kernel_rfl) (fun _ _ _ h => h) (Or.inl ⟨by rfl, by intro W _; go_simp⟩) hS0 ?_
    simp only [Act.put, List.setIfInBounds_toArray, List.set_cons_zero, List.set_cons_succ]
    refine wpAnyH_takeD (i := 1) (v := .bool false) (some 42) rfl rfl (by kernel_rfl) (by kernel_rfl) (by kernel_rfl) (fun _ _ _ h => h) (Or.inl ⟨by rfl, by intro W _; go_simp⟩) hS0 ?_
    simp only [Act.put, List.setIfInBounds_toArray, List.set_cons_zero, List.set_cons_succ]
    refine wpAnyH_takeD (i := 2) (v := .bool false) (some 43) rfl rfl (by kernel_rfl) (by kernel_rfl) (by kernel_rfl) (fun _ _ _ h => h) (Or.inl ⟨by rfl, by intro W _; go_simp⟩) hS0 ?_
    simp only [Act.put, List.setIfInBounds_toArray, List.set_cons_zero, List.set_cons_succ]
    refine wpAnyH_takeD (i := 3) (v := .bool false) (some 44) rfl rfl (by kernel_rfl) (by kernel_rfl) (by kernel_rfl) (fun _ _ _ h => h) (Or.inl ⟨by rfl, by intro W _; go_simp⟩) hS0 ?_
    simp only [Act.put, List.setIfInBounds_toArray, List.set_cons_zero, List.set_cons_succ]
    refine wpAnyH_takeD (i := 4) (v := .agg #[.slice o3 n3 c3, .slice o4 ws2.length c4]) (some 45) rfl rfl (by kernel_rfl) (by kernel_rfl) (by kernel_rfl) (fun _ _ _ h => h) (Or.inl ⟨by rfl, by intro W hW; have hhx := hW; have y0 := (cell_of hhx 0).trans rfl; have y1 := (cell_of hhx 1).trans rfl; go_simp⟩) hS0 ?_
    simp only [Act.put, List.setIfInBounds_toArray, List.set_cons_zero, List.set_cons_succ]
    refine wpAnyH_takeD (i := 5) (v := .int .i64 x2) (some 46) rfl rfl (by kernel_rfl) (by kernel_rfl) (by kernel_rfl) (fun _ _ _ h => h) (Or.inl ⟨by rfl, by intro W _; go_simp⟩) hS0 ?_
    simp only [Act.put, List.setIfInBounds_toArray, List.set_cons_zero, List.set_cons_succ]
    refine wpAnyH_takeD (i := 7) (v := .agg #[.slice o3 n3 c3, .slice o4 ws2.length c4]) (some 48) rfl rfl (by kernel_rfl) (by kernel_rfl) (by kernel_rfl) (fun _ _ _ h => h) (Or.inl ⟨by rfl, by intro W hW; have hhx := hW; have y0 := (cell_of hhx 0).trans rfl; have y1 := (cell_of hhx 1).trans rfl; go_simp⟩) hS0 ?_
    simp only [Act.put, List.setIfInBounds_toArray, List.set_cons_zero, List.set_cons_succ]
    refine wpAnyH_takeD (i := 8) (v := .int .i64 x2) (some 49) rfl rfl (by kernel_rfl) (by kernel_rfl) (by kernel_rfl) (fun _ _ _ h => h) (Or.inl ⟨by rfl, by intro W _; go_simp⟩) hS0 ?_
    simp only [Act.put, List.setIfInBounds_toArray, List.set_cons_zero, List.set_cons_succ]
    refine wpAnyH_ready (rs := [6]) (by kernel_rfl) (by simp) ?_
    refine AllReadyH.cons rfl (fun K hK => ?_) AllReadyH.nil
    go_simp
    refine (implDiskGet_d _ _ cs2 ws2 _ _ (HJ.out _ hx0).2 x2).mono ?_
    rintro e m1 ⟨rfl, bw⟩
    rw [HZ2.out]
    have hx1 := hx0.trans (bw.mono hx0.size)
    clear bw
    have hS1 : m1.heap[qx]? = some (.cells #[.slice o3 n3 c3, .slice o4 ws2.length c4] 27) := (HJ.out _ hx1).1
    refine hK.out _ _ hS1 (fun _ => ?_)
    clear hK K hS0
    refine wpAnyH_ready (rs := [9]) (by kernel_rfl) (by simp) ?_
    refine AllReadyH.cons rfl (fun K hK => ?_) AllReadyH.nil
    go_simp
    refine (specDiskGet_d _ _ cs2 ws2 _ _ (HJ.out _ hx1).2 x2).mono ?_
    rintro e m2 ⟨rfl, bw⟩
    rw [HZ2.out]
    have hx2 := hx1.trans (bw.mono hx1.size)
    clear bw
    have hS2 : m2.heap[qx]? = some (.cells #[.slice o3 n3 c3, .slice o4 ws2.length c4] 27) := (HJ.out _ hx2).1
    refine hK.out _ _ hS2 (fun _ => ?_)
    clear hK K hS1
    refine wpAnyH_takeD (i := 10) (v := .bool false) (some 51) rfl rfl (by kernel_rfl) (by kernel_rfl) (by kernel_rfl) (fun _ _ _ h => h) (Or.inl ⟨by rfl, by intro W _; go_simp⟩) hS2 ?_
    simp only [Act.put, List.setIfInBounds_toArray, List.set_cons_zero, List.set_cons_succ]
    refine wpAnyH_takeD (i := 11) (v := .bool false) (some 52) rfl rfl (by kernel_rfl) (by kernel_rfl) (by kernel_rfl) (fun _ _ _ h => h) (Or.inl ⟨by rfl, by intro W _; go_simp⟩) hS2 ?_
    simp only [Act.put, List.setIfInBounds_toArray, List.set_cons_zero, List.set_cons_succ]
    clear hS2
    refine wpAnyH_done (by kernel_rfl) ?_ _
    have HX7 : Hid (Below w6.heap.size w6 m2) := hx2
    have HK7 := HK.out _ HX7.out
    go_wp2_with fail
    refine (drawFlush_any a0 len0 cap0 zc0 _ (HCODE.out _ HK7.2.2.2.2)).mono ?_
    rintro e w7 ⟨v5, v6, cs3, ws3, rfl, hA3, bw7⟩
    obtain ⟨o5, n5, c5, o6, c6, rfl, rfl⟩ := hA3.forms
    have B7 : Below w6.heap.size w6 w7 := HX7.out.trans (bw7.mono HX7.out.size)
    go_upto_region 10 with fail
    obtain ⟨w8, hw8⟩ : ∃ W, W = w7.alloc (.cells #[.slice o5 n5 c5, .slice o6 ws3.length c6] 27) := ⟨_, rfl⟩
    obtain ⟨qf, hqf⟩ : ∃ q, q = w7.heap.size := ⟨_, rfl⟩
    rw [← hw8, ← hqf]
    have b8 : Below w7.heap.size w7 w8 := by rw [hw8]; exact (Below.refl _ _).alloc (Nat.le_refl _) _
    have hf8 : w8.heap[qf]? = some (.cells #[.slice o5 n5 c5, .slice o6 ws3.length c6] 27) := by rw [hw8, hqf]; exact heap_alloc_new _ _
    have B8 : Below w6.heap.size w6 w8 := B7.trans (b8.mono B7.size)
    have HN : Hid (∀ W, Below w8.heap.size w8 W → Below w6.heap.size w6 W) := fun W h => B8.trans (h.mono B8.size)
    have HF : Hid (∀ W, Below w8.heap.size w8 W → (W.heap[qf]? = some (.cells #[.slice o5 n5 c5, .slice o6 ws3.length c6] 27)) ∧ AnyD W m2.heap.size (.slice o5 n5 c5) (.slice o6 ws3.length c6) cs3 ws3) := fun W h => ⟨blk_below hf8 h, hA3.below (b8.trans (h.mono b8.size))⟩
    obtain ⟨lf, hlf⟩ : ∃ l, l = landC cs3 ws3 (fun _ => true) := ⟨_, rfl⟩
    have HLF : Hid (lf = landC cs3 ws3 (fun _ => true)) := hlf
    have HL20 : Hid (lf.length ≤ 20) := by
      rw [hlf]
      by_cases hp : DiskP cs3 ws3
      · rw [landC_yes hp, landTo_len, hp.1]; exact Nat.le_refl _
      · rw [landC_no hp]; exact Nat.zero_le _
    clear hlf hw8 hqf b8 hf8 B8 B7 bw7 hA3 HK7 HX7 hx0
    have hfld : ∀ (o : Option Addr) (n c : Nat) (b : Value) (W : World), (Instr.field 27 (.agg #[.slice o n c, b]) 0).run Try.prog W = .ok (.slice o n c) W := fun o n c b W => by simp [Instr.field, asAgg, part]
    refine wp_region_held_drew (S := fun W => W.heap[qf]? = some (.cells #[.slice o5 n5 c5, .slice o6 ws3.length c6] 27)) (by kernel_rfl) (HF.out _ (Below.refl _ _).drew).1 (fun _ => ?_)
    obtain ⟨m0, hX⟩ : ∃ X, X = w8.drew := ⟨_, rfl⟩
    have hx0 : Below w8.heap.size w8 m0 := by rw [hX]; exact (Below.refl _ _).drew
    rw [← hX]
    clear hX
    have hS0 : m0.heap[qf]? = some (.cells #[.slice o5 n5 c5, .slice o6 ws3.length c6] 27) := (HF.out _ hx0).1
    refine wpAnyH_takeD (i := 0) (v := .agg #[.slice o5 n5 c5, .slice o6 ws3.length c6]) (some 55) rfl rfl (by kernel_rfl) (by kernel_rfl) (by kernel_rfl) (fun _ _ _ h => h) (Or.inl ⟨by rfl, by intro W hW; have hhf := hW; have y0 := (cell_of hhf 0).trans rfl; have y1 := (cell_of hhf 1).trans rfl; go_simp⟩) hS0 ?_
    simp only [Act.put, List.setIfInBounds_toArray, List.set_cons_zero, List.set_cons_succ]
    refine wpAnyH_takeD (i := 3) (v := .agg #[.slice o5 n5 c5, .slice o6 ws3.length c6]) (some 58) rfl rfl (by kernel_rfl) (by kernel_rfl) (by kernel_rfl) (fun _ _ _ h => h) (Or.inl ⟨by rfl, by intro W hW; have hhf := hW; have y0 := (cell_of hhf 0).trans rfl; have y1 := (cell_of hhf 1).trans rfl; go_simp⟩) hS0 ?_
    simp only [Act.put, List.setIfInBounds_toArray, List.set_cons_zero, List.set_cons_succ]
    refine wpAnyH_ready (rs := [1]) (by kernel_rfl) (by simp) ?_
    refine AllReadyH.cons rfl (fun K hK => ?_) AllReadyH.nil
    go_simp
    refine ((show Calls Try.prog 18 #[.agg #[.slice o5 n5 c5, .slice o6 ws3.length c6]] _ fun e w' => DiskIs lf [] _ e w' by rw [HLF.out]; exact implFlush_d _ _ cs3 ws3 _ _ (HF.out _ hx0).2)).mono ?_
    rintro e m1 ⟨l1, k1, rfl, hL1, bw⟩
    obtain ⟨ol1, pl1, rfl⟩ := slice_of_owns hL1.cells
    obtain ⟨om1, pm1, rfl⟩ := slice_of_owns hL1.pend
    have bL1 := bw
    have hx1 := hx0.trans (bw.mono hx0.size)
    clear bw
    have hS1 : m1.heap[qf]? = some (.cells #[.slice o5 n5 c5, .slice o6 ws3.length c6] 27) := (HF.out _ hx1).1
    refine hK.out _ _ hS1 (fun _ => ?_)
    clear hK K hS0
    refine wpAnyH_takeD (i := 2) (v := .slice ol1 lf.length pl1) (some 57) rfl rfl (by kernel_rfl) (by kernel_rfl) (by kernel_rfl) (fun _ _ _ h => h) (Or.inl ⟨by rfl, by intro W _; go_simp⟩) hS1 ?_
    simp only [Act.put, List.setIfInBounds_toArray, List.set_cons_zero, List.set_cons_succ]
    refine wpAnyH_ready (rs := [4]) (by kernel_rfl) (by simp) ?_
    refine AllReadyH.cons rfl (fun K hK => ?_) AllReadyH.nil
    go_simp
    refine ((show Calls Try.prog 26 #[.agg #[.slice o5 n5 c5, .slice o6 ws3.length c6]] _ fun e w' => DiskIs lf [] _ e w' by rw [HLF.out]; exact specFlush_d _ _ cs3 ws3 _ _ (HF.out _ hx1).2)).mono ?_
    rintro e m2 ⟨l2, k2, rfl, hL2, bw⟩
    obtain ⟨ol2, pl2, rfl⟩ := slice_of_owns hL2.cells
    obtain ⟨om2, pm2, rfl⟩ := slice_of_owns hL2.pend
    have bL2 := bw
    have hx2 := hx1.trans (bw.mono hx1.size)
    clear bw
    have hS2 : m2.heap[qf]? = some (.cells #[.slice o5 n5 c5, .slice o6 ws3.length c6] 27) := (HF.out _ hx2).1
    refine hK.out _ _ hS2 (fun _ => ?_)
    clear hK K hS1
    refine wpAnyH_takeD (i := 5) (v := .slice ol2 lf.length pl2) (some 60) rfl rfl (by kernel_rfl) (by kernel_rfl) (by kernel_rfl) (fun _ _ _ h => h) (Or.inl ⟨by rfl, by intro W _; go_simp⟩) hS2 ?_
    simp only [Act.put, List.setIfInBounds_toArray, List.set_cons_zero, List.set_cons_succ]
    refine wpAnyH_ready (rs := [6]) (by kernel_rfl) (by simp) ?_
    refine AllReadyH.cons rfl (fun K hK => ?_) AllReadyH.nil
    go_simp
    refine (sameT_any _ _ _ _ _ lf _ (owns_below hL1.cells bL2 (fun _ hg => owns_lt hL1.cells hg)) hL2.cells (by have := HL20.out; omega)).mono ?_
    rintro e m3 ⟨rfl, bw⟩
    have hx3 := hx2.trans (bw.mono hx2.size)
    clear bw
    have hS3 : m3.heap[qf]? = some (.cells #[.slice o5 n5 c5, .slice o6 ws3.length c6] 27) := (HF.out _ hx3).1
    refine hK.out _ _ hS3 (fun _ => ?_)
    clear hK K hS2
    refine wpAnyH_takeD (i := 7) (v := .bool false) (some 62) rfl rfl (by kernel_rfl) (by kernel_rfl) (by kernel_rfl) (fun _ _ _ h => h) (Or.inl ⟨by rfl, by intro W _; go_simp⟩) hS3 ?_
    simp only [Act.put, List.setIfInBounds_toArray, List.set_cons_zero, List.set_cons_succ]
    refine wpAnyH_takeD (i := 8) (v := .bool false) (some 63) rfl rfl (by kernel_rfl) (by kernel_rfl) (by kernel_rfl) (fun _ _ _ h => h) (Or.inl ⟨by rfl, by intro W _; go_simp⟩) hS3 ?_
    simp only [Act.put, List.setIfInBounds_toArray, List.set_cons_zero, List.set_cons_succ]
    refine wpAnyH_ready (rs := [9]) (by kernel_rfl) (by simp) ?_
    refine AllReadyH.cons rfl (fun K hK => ?_) AllReadyH.nil
    go_simp
    refine (implDiskNew_any _).mono ?_
    rintro e m4 ⟨u1, u2, rfl, hNW, bw⟩
    obtain ⟨on, pn, rfl⟩ := slice_of_owns hNW.cells
    obtain ⟨on2, pn2, rfl⟩ := slice_of_owns hNW.pend
    clear hNW
    simp only [show newC.length = 20 from rfl]
    have hx4 := hx3.trans (bw.mono hx3.size)
    clear bw
    have hS4 : m4.heap[qf]? = some (.cells #[.slice o5 n5 c5, .slice o6 ws3.length c6] 27) := (HF.out _ hx4).1
    refine hK.out _ _ hS4 (fun _ => ?_)
    clear hK K hS3
    refine wpAnyH_takeD (i := 10) (v := .slice on 20 pn) (some 65) rfl rfl (by kernel_rfl) (by kernel_rfl) (by kernel_rfl) (fun _ _ _ h => h) (Or.inl ⟨by rfl, by intro W _; go_simp⟩) hS4 ?_
    simp only [Act.put, List.setIfInBounds_toArray, List.set_cons_zero, List.set_cons_succ]
    refine wpAnyH_takeD (i := 11) (v := .int .i64 (20 : Int)) (some 66) rfl rfl (by kernel_rfl) (by kernel_rfl) (by kernel_rfl) (fun _ _ _ h => h) (Or.inl ⟨by rfl, by intro W _; go_simp⟩) hS4 ?_
    simp only [Act.put, List.setIfInBounds_toArray, List.set_cons_zero, List.set_cons_succ]
    refine wpAnyH_takeD (i := 12) (v := .bool false) (some 67) rfl rfl (by kernel_rfl) (by kernel_rfl) (by kernel_rfl) (fun _ _ _ h => h) (Or.inl ⟨by rfl, by intro W _; go_simp⟩) hS4 ?_
    simp only [Act.put, List.setIfInBounds_toArray, List.set_cons_zero, List.set_cons_succ]
    refine wpAnyH_takeD (i := 13) (v := .bool false) (some 68) rfl rfl (by kernel_rfl) (by kernel_rfl) (by kernel_rfl) (fun _ _ _ h => h) (Or.inl ⟨by rfl, by intro W _; go_simp⟩) hS4 ?_
    simp only [Act.put, List.setIfInBounds_toArray, List.set_cons_zero, List.set_cons_succ]
    clear hS4
    refine wpAnyH_done (by kernel_rfl) ?_ _
    have HX8 : Hid (Below w6.heap.size w6 m4) := HN.out _ hx4
    obtain ⟨hd9, he9, _, _, hb9⟩ := HK.out _ HX8.out
    have HBW : Hid (Below w.heap.size w m4) := hb9
    have d0 := (cell_of hd9 1).trans rfl
    have d1 := (cell_of he9 0).trans rfl
    have d2 := (cell_of he9 1).trans rfl
    clear hd9 he9 hb9
    by_cases hp : DiskP cs ws
    · have hp1 : pc.length = 20 := by rw [HPC.out, put_c hp, hp.1]
      have hp2 : pw.length = ws.length := by rw [HPW.out, dput_same hp HPB.out.symm]
      have HP : Hid (DiskP cs ws) := hp
      clear hp
      go_wp2_with fail
      go_ret
      exact ⟨rfl, HBW.out⟩
    · have hp1 : pc.length = 0 := by rw [HPC.out, put_c_no hp]; rfl
      clear hp
      go_wp2_with fail
      go_ret
      exact ⟨rfl, HBW.out⟩

set_option maxRecDepth 100000 in
theorem lifted (os : Os) (started : os.Started) (H : Type) (enc : TypeId × Value → H) :
    ReturnsInHanded {} Try.checked os 4 .any (Rows.fnDiskPutSpec.pre6 enc Try.prog Try.f4 Rows.fnDiskPutRow.domain false) (Rows.fnDiskPutSpec.post enc Try.prog Try.f4 false true false false) := by
  refine returnsInHanded_of_change (C := Try.checked) own started (by kernel_rfl) Try.func4
    (ChangeSpec.witness6 (enc := enc) (C := Try.checked) false ⟨#[], #[.slice none 0 0], []⟩ 8 (by kernel_rfl) (by kernel_rfl) (by kernel_rfl) (by kernel_rfl)) ?_
  intro W base args ds gs before hval0 hW _ _
  have hval : ∀ (j : Nat) t v, Try.f4.params[j]? = some t → args[j]? = some v → Value.okWide Try.prog W .any base t v := hval0
  have hW' := hW
  obtain ⟨p, q, hA0, hV, rfl, hfz, hnd⟩ := hW
  have hA : DataW.TrodAll enc Try.prog W 0 (fun _ => true) true Try.f4.params.toList args.toList ds p := hA0
  rw [Try.params4] at hA hval
  obtain ⟨v0, vs0, d0, ds0, p0, q0, hargs, rfl, rfl, h0, r0⟩ := trodAll_cons hA
  obtain ⟨rfl, rfl, rfl⟩ := trodAll_nil r0
  obtain rfl : args = #[v0] := by cases args; simp_all
  obtain ⟨rfl, rfl⟩ := trodVars_none hV
  obtain ⟨a0, len0, cap0, rfl⟩ := okWide_slice Try.underlying22 (hval 0 22 v0 rfl rfl)
  have k0 := h0
  have lt0 : ∀ x ∈ p0, x.block < W.heap.size := by obtain ⟨m, hm⟩ := k0; exact DataW.trod_lt m _ _ _ hm
  obtain ⟨z0, w0⟩ : ∃ zs, IsRow .u8 W a0 len0 cap0 zs := by
    obtain ⟨fuel, hf⟩ := h0
    rcases open_ints Try.underlying22 Try.underlying5 (by kernel_rfl) hf with ⟨hcs, _⟩ | ⟨x, l, c, zs, hcs, _, hl, hm, hz, _, hcell, hwz⟩
    · simp [Value.cells] at hcs
      obtain ⟨rfl, rfl, rfl⟩ := hcs
      exact ⟨[], .inl ⟨rfl, rfl, rfl, rfl⟩⟩
    · simp [Value.cells] at hcs
      obtain ⟨rfl, rfl, rfl⟩ := hcs
      exact ⟨zs, .inr ⟨_, rfl, hl, hm, by simpa using hz, hcell, hwz⟩⟩
  clear hA0 hval0
  refine (walk1 W a0 len0 cap0 z0 w0).mono fun e W' ⟨he, bel⟩ => ?_
  subst he
  exact ⟨_, rfl, _, _, _, [], _, [], hW', trodAll_mk1 (shut_bool Try.underlying4 _), (trodAll_cons_mk (Below.trod laidOut (by kernel_rfl) (of_decide_eq_true (by kernel_rfl)) k0 bel lt0) trodAll_mk0), rfl, bel.frame _, fun h => by cases h⟩

theorem over : Rows.fnDiskPutRow.holds Try.pinned (OpenSpec.ofChange Rows.fnDiskPutSpec) :=
  OpenClaim.holds_of_wide 4 Try.f4 rfl rfl rfl rfl rfl rfl rfl ⟨rfl, rfl, rfl, rfl, rfl⟩ rfl rfl rfl rfl rfl (by kernel_rfl) Try.func4 (by kernel_rfl)
    (of_decide_eq_true (by kernel_rfl)) (by unfold Func.isWrapper; first | (rw [if_pos (by decide +kernel)]; kernel_rfl) | (rw [if_neg (by decide +kernel)]; exact ⟨rfl, rfl⟩))
    (fun os started H enc _ => lifted os started H enc)
end fnDiskPut

theorem fnDiskPut_holds : Rows.FnDiskPutSaid := fnDiskPut.over
#print axioms fnDiskPut_holds
end Go.Proofs.Ytckjbgpdbehmaaa
