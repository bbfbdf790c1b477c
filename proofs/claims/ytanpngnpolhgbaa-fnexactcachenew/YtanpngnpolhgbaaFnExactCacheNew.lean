/- CacheNew: the program answers as the specification (the law answers true), and its answer owns its memory: no condition. -/
import Derived.Test.YtanpngnpolhgbaaFnExactCacheNewB
import Derived.Test.YtanpngnpolhgbaaRows
import Derived.WalkKit
import Derived.ProofKit
import Derived.OpenShut
import Derived.ShutString
import Derived.ChangeOld
import Derived.Below
import Derived.Deep.RegionHeld3
import Derived.Deep.DrawnRows
import Derived.Deep.CutRange
import Derived.Deep.DeepCutAuto
namespace Go.Proofs.Ytanpngnpolhgbaa
namespace fnExactCacheNew
open Go.ChangeShapes Go.WideShapes Go.ChangeAt Go.RowKit
open Go.ChangeMaps (open_string shut_string)
attribute [local go_sem ↓] Go.wp_at_zero Go.wp_at_succ

theorem own : ownKnob Try.prog.godebug = none := by kernel_rfl
theorem laidOut : laidOutB Try.prog = true := by kernel_rfl
/-- A store of bounded size. -/
structure ShLim (s : ShD) : Prop where
  c : s.cs.length ≤ 2000000
  w : s.ws.length ≤ 2000000
  k : s.ks.length ≤ 2000000
  b : s.bl.length ≤ 2000000
  ks : ∀ k ∈ s.ks, k.xs.length ≤ 2000000 ∧ k.ys.length ≤ 2000000 ∧ k.fs.length ≤ 2000000
  m : ∀ kv : List (KpD × Value × Value × Value), kv.map (·.1) = s.ks → 1 + s.cs.length + 2 * s.ws.length + wms kv + 4 * s.bl.length ≤ 9999998
theorem ShLim.kl {s : ShD} (h : ShLim s) (kv : List (KpD × Value × Value × Value)) (hk : kv.map (·.1) = s.ks) : kv.length ≤ 2000000 := by
  have := h.k
  rw [← hk, List.length_map] at this
  exact this
/-- Of no other type is a row. -/
def NoT (R : List Rw) : Prop := ∀ T : TypeId, T ≠ 9 → T ≠ 97 → T ≠ 82 → T ≠ 85 → T ≠ 93 → ∀ r ∈ R, T ≠ r.T
theorem shelf_of {W : World} {b : Nat} {R : List Rw} {v1 v2 V VB : Value} {kv : List (KpD × Value × Value × Value)} {s : ShD} (hR : R = shAll v1 v2 V VB kv s.cs s.ws s.bl) (h : RowsO W b R) (hk : kv.map (·.1) = s.ks) : ShelfO W b v1 v2 V VB kv s := ⟨by rw [← hR]; exact h, hk⟩
theorem allRows_T (T : TypeId) (h1 : T ≠ 9) (h2 : T ≠ 97) (h3 : T ≠ 82) (h4 : T ≠ 85) (h5 : T ≠ 93) {a b c : Rw} {V : Value} {kv : List (KpD × Value × Value × Value)} (ha : a.T = 9) (hb : b.T = 97) (hc : c.T = 85) : ∀ r ∈ [a, b] ++ kpAll V kv ++ [c], T ≠ r.T := by
  intro r hr
  rcases List.mem_append.1 hr with hr | hr
  · rcases List.mem_append.1 hr with hr | hr
    · simp only [List.mem_cons, List.not_mem_nil, or_false] at hr
      rcases hr with rfl | rfl
      · rw [ha]; exact h1
      · rw [hb]; exact h2
    · rcases kpAll_T hr with e | e | e <;> rw [e] <;> assumption
  · rw [List.mem_singleton.1 hr, hc]; exact h4
theorem shAll_T (T : TypeId) (h1 : T ≠ 9) (h2 : T ≠ 97) (h3 : T ≠ 82) (h4 : T ≠ 85) (h5 : T ≠ 93) {v1 v2 V VB : Value} {kv : List (KpD × Value × Value × Value)} {cs : List ByteArray} {ws : List (Int × ByteArray)} {bl : List (Int × ByteArray × ByteArray × Int)} : ∀ r ∈ shAll v1 v2 V VB kv cs ws bl, T ≠ r.T := allRows_T T h1 h2 h3 h4 h5 rfl rfl rfl
theorem mkAll_T (T : TypeId) (h1 : T ≠ 9) (h2 : T ≠ 97) (h3 : T ≠ 82) (h4 : T ≠ 85) (h5 : T ≠ 93) {v1 v2 V VB : Value} {n1 n2 n4 : Nat} {c1 c2 c4 : List Value} {kv : List (KpD × Value × Value × Value)} : ∀ r ∈ [(⟨9, 1, v1, n1, c1⟩ : Rw), ⟨97, 2, v2, n2, c2⟩] ++ kpAll V kv ++ [⟨85, 4, VB, n4, c4⟩], T ≠ r.T := allRows_T T h1 h2 h3 h4 h5 rfl rfl rfl

open Go.Lib hiding intOf
set_option maxHeartbeats 16000000 in
set_option maxRecDepth 100000 in
theorem walk1 (w : World) :
    Calls Try.prog 3 #[] w fun e w' => e = .returned (.bool true) ∧ Below w.heap.size w w' := by
  obtain ⟨so, hse⟩ : ∃ s, s = newS := ⟨_, rfl⟩
  have HSP : Hid (∀ W : World, Below w.heap.size w W → Calls Try.prog 4 #[] W fun e w' => CacheN so W e w') := fun W hW => by rw [hse]; exact specCacheNew_any W
  have HIM : Hid (∀ W : World, Below w.heap.size w W → Calls Try.prog 5 #[] W fun e w' => CacheN so W e w') := fun W hW => by rw [hse]; exact implCacheNew_any W
  have HLIMso : Hid (ShLim so) := by
    show ShLim so
    rw [hse]
    refine ⟨by decide, by decide, by decide, by decide, fun k hk => absurd hk (by simp [newS]), fun kv hk => ?_⟩
    have e : kv = [] := by
      have h2 : kv.map (·.1) = [] := hk
      simpa using h2
    rw [e]
    decide
  clear hse
  have hb0 : Below w.heap.size w w := Below.refl _ _
  go_enter Try.func3, Try.ntmps3
  go_wp2_with fail
  refine (HSP.out _ hb0).mono ?_
  rintro e w1 ⟨va, vb, vc, vd, kv1, rfl, hso, bw⟩
  obtain ⟨oC1, pC1, rfl⟩ := slice_of_owns hso.disk.cells
  obtain ⟨oP1, pP1, rfl⟩ := slice_of_owns hso.disk.pend
  obtain ⟨oK1, pK1, rfl⟩ := hso.kept.len
  obtain ⟨oB1, pB1, rfl⟩ := slice_of_owns hso.bans
  obtain ⟨R1, hR1⟩ : ∃ R, R = shAll (.slice oC1 so.cs.length pC1) (.slice oP1 so.ws.length pP1) (.slice oK1 kv1.length pK1) (.slice oB1 so.bl.length pB1) kv1 so.cs so.ws so.bl := ⟨_, rfl⟩
  obtain ⟨b1, hbq1⟩ : ∃ b, b = (w).heap.size := ⟨_, rfl⟩
  obtain ⟨t1, htq1⟩ : ∃ t, t = (w1).heap.size := ⟨_, rfl⟩
  have hbk1 := hb0.size
  have hb1 : Below w.heap.size w (w1) := hb0.trans (bw.mono hb0.size)
  clear hb0 bw
  have ES1_1 : Hid (RowsO (w1) b1 (R1)) := by show RowsO _ _ _; rw [hbq1, hR1]; exact hso.1
  have HKM1 : Hid (kv1.map (·.1) = so.ks) := hso.2
  have HU1 : Hid (∀ r ∈ R1, ∀ g, r.v.ownBlock = some g → g < t1) := fun r hr g hg => by rw [htq1]; rw [hR1] at hr; exact hso.1.lt hr hg
  have HRQ1 : Hid (R1 = shAll (.slice oC1 so.cs.length pC1) (.slice oP1 so.ws.length pP1) (.slice oK1 kv1.length pK1) (.slice oB1 so.bl.length pB1) kv1 so.cs so.ws so.bl) := hR1
  have HTY1 : Hid (NoT R1) := fun T h1 h2 h3 h4 h5 r hr => by rw [hR1] at hr; exact shAll_T T h1 h2 h3 h4 h5 r hr
  clear hR1
  have HBW1 : Hid (b1 ≥ w.heap.size) := by show _ ≤ _; rw [hbq1]; exact hbk1
  have HBK1 : Hid (b1 = w.heap.size) := hbq1
  have HTK1 : Hid (t1 = w1.heap.size) := htq1
  clear hso hbq1 htq1 hbk1
  go_upto_region 2 with fail
  obtain ⟨qv1, hqv1⟩ : ∃ q, q = (w1).heap.size := ⟨_, rfl⟩
  obtain ⟨w2, hW2⟩ : ∃ W, W = (w1).alloc (.cells #[(.slice oC1 so.cs.length pC1), (.slice oP1 so.ws.length pP1), (.slice oK1 kv1.length pK1), (.slice oB1 so.bl.length pB1), .int .i64 so.nx, .int .i64 so.sq, .slice none 0 0, .int .i64 0, .slice none 0 0, .slice none 0 0] 34) := ⟨_, rfl⟩
  have hz2 : (w1).heap.size = qv1 := hqv1.symm
  first | rw [← hW2, ← hqv1] | rw [← hW2]
  have hs2 : w2.heap.size = qv1 + 1 := by rw [hW2, ← hz2]; simp
  have bw : Below (w1).heap.size (w1) w2 := by rw [hW2]; exact (Below.refl _ _).alloc (Nat.le_refl _) _
  have hb2 : Below w.heap.size w (w2) := hb1.trans (bw.mono hb1.size)
  have HM2 : Hid ((w1).heap.size ≤ (w2).heap.size) := bw.size
  have ES1_2 : Hid (RowsO (w2) b1 (R1)) := ES1_1.out.below bw
  have HBv1_2 : Hid ((w2).heap[qv1]? = some (.cells #[(.slice oC1 so.cs.length pC1), (.slice oP1 so.ws.length pP1), (.slice oK1 kv1.length pK1), (.slice oB1 so.bl.length pB1), .int .i64 so.nx, .int .i64 so.sq, .slice none 0 0, .int .i64 0, .slice none 0 0, .slice none 0 0] 34)) := by show _ = _; rw [hW2, ← hz2]; exact heap_alloc_new _ _
  clear hb1 ES1_1 bw hW2 hz2
  clear hs2 hqv1
  go_wp2_with fail
  refine (HIM.out _ hb2).mono ?_
  rintro e w3 ⟨va, vb, vc, vd, kv2, rfl, hso, bw⟩
  obtain ⟨oC2, pC2, rfl⟩ := slice_of_owns hso.disk.cells
  obtain ⟨oP2, pP2, rfl⟩ := slice_of_owns hso.disk.pend
  obtain ⟨oK2, pK2, rfl⟩ := hso.kept.len
  obtain ⟨oB2, pB2, rfl⟩ := slice_of_owns hso.bans
  obtain ⟨R2, hR2⟩ : ∃ R, R = shAll (.slice oC2 so.cs.length pC2) (.slice oP2 so.ws.length pP2) (.slice oK2 kv2.length pK2) (.slice oB2 so.bl.length pB2) kv2 so.cs so.ws so.bl := ⟨_, rfl⟩
  obtain ⟨b2, hbq2⟩ : ∃ b, b = (w2).heap.size := ⟨_, rfl⟩
  obtain ⟨t2, htq2⟩ : ∃ t, t = (w3).heap.size := ⟨_, rfl⟩
  have hbk2 := hb2.size
  have hb3 : Below w.heap.size w (w3) := hb2.trans (bw.mono hb2.size)
  have HM3 : Hid ((w2).heap.size ≤ (w3).heap.size) := bw.size
  have HBv1_3 : Hid ((w3).heap[qv1]? = some (.cells #[(.slice oC1 so.cs.length pC1), (.slice oP1 so.ws.length pP1), (.slice oK1 kv1.length pK1), (.slice oB1 so.bl.length pB1), .int .i64 so.nx, .int .i64 so.sq, .slice none 0 0, .int .i64 0, .slice none 0 0, .slice none 0 0] 34)) := blk_below HBv1_2.out bw
  have ES1_3 : Hid (RowsO (w3) b1 (R1)) := ES1_2.out.below bw
  clear hb2 HBv1_2 ES1_2 bw
  have ES2_3 : Hid (RowsO (w3) b2 (R2)) := by show RowsO _ _ _; rw [hbq2, hR2]; exact hso.1
  have HKM2 : Hid (kv2.map (·.1) = so.ks) := hso.2
  have HU2 : Hid (∀ r ∈ R2, ∀ g, r.v.ownBlock = some g → g < t2) := fun r hr g hg => by rw [htq2]; rw [hR2] at hr; exact hso.1.lt hr hg
  have HRQ2 : Hid (R2 = shAll (.slice oC2 so.cs.length pC2) (.slice oP2 so.ws.length pP2) (.slice oK2 kv2.length pK2) (.slice oB2 so.bl.length pB2) kv2 so.cs so.ws so.bl) := hR2
  have HTY2 : Hid (NoT R2) := fun T h1 h2 h3 h4 h5 r hr => by rw [hR2] at hr; exact shAll_T T h1 h2 h3 h4 h5 r hr
  clear hR2
  have HBW2 : Hid (b2 ≥ w.heap.size) := by show _ ≤ _; rw [hbq2]; exact hbk2
  have HBK2 : Hid (b2 = w2.heap.size) := hbq2
  have HTK2 : Hid (t2 = w3.heap.size) := htq2
  clear hso hbq2 htq2 hbk2
  go_upto_region 3 with fail
  obtain ⟨qv2, hqv2⟩ : ∃ q, q = (w3).heap.size := ⟨_, rfl⟩
  obtain ⟨w4, hW4⟩ : ∃ W, W = (w3).alloc (.cells #[(.slice oC2 so.cs.length pC2), (.slice oP2 so.ws.length pP2), (.slice oK2 kv2.length pK2), (.slice oB2 so.bl.length pB2), .int .i64 so.nx, .int .i64 so.sq, .slice none 0 0, .int .i64 0, .slice none 0 0, .slice none 0 0] 34) := ⟨_, rfl⟩
  have hz4 : (w3).heap.size = qv2 := hqv2.symm
  first | rw [← hW4, ← hqv2] | rw [← hW4]
  have hs4 : w4.heap.size = qv2 + 1 := by rw [hW4, ← hz4]; simp
  have bw : Below (w3).heap.size (w3) w4 := by rw [hW4]; exact (Below.refl _ _).alloc (Nat.le_refl _) _
  have hb4 : Below w.heap.size w (w4) := hb3.trans (bw.mono hb3.size)
  have HM4 : Hid ((w3).heap.size ≤ (w4).heap.size) := bw.size
  have HBv1_4 : Hid ((w4).heap[qv1]? = some (.cells #[(.slice oC1 so.cs.length pC1), (.slice oP1 so.ws.length pP1), (.slice oK1 kv1.length pK1), (.slice oB1 so.bl.length pB1), .int .i64 so.nx, .int .i64 so.sq, .slice none 0 0, .int .i64 0, .slice none 0 0, .slice none 0 0] 34)) := blk_below HBv1_3.out bw
  have ES1_4 : Hid (RowsO (w4) b1 (R1)) := ES1_3.out.below bw
  have ES2_4 : Hid (RowsO (w4) b2 (R2)) := ES2_3.out.below bw
  have HBv2_4 : Hid ((w4).heap[qv2]? = some (.cells #[(.slice oC2 so.cs.length pC2), (.slice oP2 so.ws.length pP2), (.slice oK2 kv2.length pK2), (.slice oB2 so.bl.length pB2), .int .i64 so.nx, .int .i64 so.sq, .slice none 0 0, .int .i64 0, .slice none 0 0, .slice none 0 0] 34)) := by show _ = _; rw [hW4, ← hz4]; exact heap_alloc_new _ _
  clear hb3 HBv1_3 ES1_3 ES2_3 bw hW4 hz4
  clear hs4 hqv2
  have cv1_0 : (w4).cell? ⟨qv1, 0, none⟩ = some ((.slice oC1 so.cs.length pC1)) := (cell_of HBv1_4.out 0).trans rfl
  have cv1_1 : (w4).cell? ⟨qv1, 1, none⟩ = some ((.slice oP1 so.ws.length pP1)) := (cell_of HBv1_4.out 1).trans rfl
  have cv1_2 : (w4).cell? ⟨qv1, 2, none⟩ = some ((.slice oK1 kv1.length pK1)) := (cell_of HBv1_4.out 2).trans rfl
  have cv1_3 : (w4).cell? ⟨qv1, 3, none⟩ = some ((.slice oB1 so.bl.length pB1)) := (cell_of HBv1_4.out 3).trans rfl
  have cv1_4 : (w4).cell? ⟨qv1, 4, none⟩ = some (.int .i64 so.nx) := (cell_of HBv1_4.out 4).trans rfl
  have cv1_5 : (w4).cell? ⟨qv1, 5, none⟩ = some (.int .i64 so.sq) := (cell_of HBv1_4.out 5).trans rfl
  have cv1_6 : (w4).cell? ⟨qv1, 6, none⟩ = some (.slice none 0 0) := (cell_of HBv1_4.out 6).trans rfl
  have cv1_7 : (w4).cell? ⟨qv1, 7, none⟩ = some (.int .i64 0) := (cell_of HBv1_4.out 7).trans rfl
  have cv1_8 : (w4).cell? ⟨qv1, 8, none⟩ = some (.slice none 0 0) := (cell_of HBv1_4.out 8).trans rfl
  have cv1_9 : (w4).cell? ⟨qv1, 9, none⟩ = some (.slice none 0 0) := (cell_of HBv1_4.out 9).trans rfl
  have cv2_0 : (w4).cell? ⟨qv2, 0, none⟩ = some ((.slice oC2 so.cs.length pC2)) := (cell_of HBv2_4.out 0).trans rfl
  have cv2_1 : (w4).cell? ⟨qv2, 1, none⟩ = some ((.slice oP2 so.ws.length pP2)) := (cell_of HBv2_4.out 1).trans rfl
  have cv2_2 : (w4).cell? ⟨qv2, 2, none⟩ = some ((.slice oK2 kv2.length pK2)) := (cell_of HBv2_4.out 2).trans rfl
  have cv2_3 : (w4).cell? ⟨qv2, 3, none⟩ = some ((.slice oB2 so.bl.length pB2)) := (cell_of HBv2_4.out 3).trans rfl
  have cv2_4 : (w4).cell? ⟨qv2, 4, none⟩ = some (.int .i64 so.nx) := (cell_of HBv2_4.out 4).trans rfl
  have cv2_5 : (w4).cell? ⟨qv2, 5, none⟩ = some (.int .i64 so.sq) := (cell_of HBv2_4.out 5).trans rfl
  have cv2_6 : (w4).cell? ⟨qv2, 6, none⟩ = some (.slice none 0 0) := (cell_of HBv2_4.out 6).trans rfl
  have cv2_7 : (w4).cell? ⟨qv2, 7, none⟩ = some (.int .i64 0) := (cell_of HBv2_4.out 7).trans rfl
  have cv2_8 : (w4).cell? ⟨qv2, 8, none⟩ = some (.slice none 0 0) := (cell_of HBv2_4.out 8).trans rfl
  have cv2_9 : (w4).cell? ⟨qv2, 9, none⟩ = some (.slice none 0 0) := (cell_of HBv2_4.out 9).trans rfl
  go_wp2_with fail
  refine (eqCacheN_any so _ _ _ _ _ _ _ _ _ _ _ _ _ (shelf_of HRQ2.out ES2_4.out HKM2.out) (shelf_of HRQ1.out ES1_4.out HKM1.out) HLIMso.out.c HLIMso.out.w HLIMso.out.k HLIMso.out.b HLIMso.out.ks).mono ?_
  rintro e w5 ⟨rfl, bw⟩
  have hb5 : Below w.heap.size w (w5) := hb4.trans (bw.mono hb4.size)
  have HM5 : Hid ((w4).heap.size ≤ (w5).heap.size) := bw.size
  have HBv1_5 : Hid ((w5).heap[qv1]? = some (.cells #[(.slice oC1 so.cs.length pC1), (.slice oP1 so.ws.length pP1), (.slice oK1 kv1.length pK1), (.slice oB1 so.bl.length pB1), .int .i64 so.nx, .int .i64 so.sq, .slice none 0 0, .int .i64 0, .slice none 0 0, .slice none 0 0] 34)) := blk_below HBv1_4.out bw
  have HBv2_5 : Hid ((w5).heap[qv2]? = some (.cells #[(.slice oC2 so.cs.length pC2), (.slice oP2 so.ws.length pP2), (.slice oK2 kv2.length pK2), (.slice oB2 so.bl.length pB2), .int .i64 so.nx, .int .i64 so.sq, .slice none 0 0, .int .i64 0, .slice none 0 0, .slice none 0 0] 34)) := blk_below HBv2_4.out bw
  have ES1_5 : Hid (RowsO (w5) b1 (R1)) := ES1_4.out.below bw
  have ES2_5 : Hid (RowsO (w5) b2 (R2)) := ES2_4.out.below bw
  clear hb4 HBv1_4 HBv2_4 ES1_4 ES2_4 bw
  clear cv1_0 cv1_1 cv1_2 cv1_3 cv1_4 cv1_5 cv1_6 cv1_7 cv1_8 cv1_9 cv2_0 cv2_1 cv2_2 cv2_3 cv2_4 cv2_5 cv2_6 cv2_7 cv2_8 cv2_9
  have cv2_0 : (w5).cell? ⟨qv2, 0, none⟩ = some ((.slice oC2 so.cs.length pC2)) := (cell_of HBv2_5.out 0).trans rfl
  have cv2_1 : (w5).cell? ⟨qv2, 1, none⟩ = some ((.slice oP2 so.ws.length pP2)) := (cell_of HBv2_5.out 1).trans rfl
  have cv2_2 : (w5).cell? ⟨qv2, 2, none⟩ = some ((.slice oK2 kv2.length pK2)) := (cell_of HBv2_5.out 2).trans rfl
  have cv2_3 : (w5).cell? ⟨qv2, 3, none⟩ = some ((.slice oB2 so.bl.length pB2)) := (cell_of HBv2_5.out 3).trans rfl
  have cv2_4 : (w5).cell? ⟨qv2, 4, none⟩ = some (.int .i64 so.nx) := (cell_of HBv2_5.out 4).trans rfl
  have cv2_5 : (w5).cell? ⟨qv2, 5, none⟩ = some (.int .i64 so.sq) := (cell_of HBv2_5.out 5).trans rfl
  have cv2_6 : (w5).cell? ⟨qv2, 6, none⟩ = some (.slice none 0 0) := (cell_of HBv2_5.out 6).trans rfl
  have cv2_7 : (w5).cell? ⟨qv2, 7, none⟩ = some (.int .i64 0) := (cell_of HBv2_5.out 7).trans rfl
  have cv2_8 : (w5).cell? ⟨qv2, 8, none⟩ = some (.slice none 0 0) := (cell_of HBv2_5.out 8).trans rfl
  have cv2_9 : (w5).cell? ⟨qv2, 9, none⟩ = some (.slice none 0 0) := (cell_of HBv2_5.out 9).trans rfl
  obtain ⟨Ka1, hKa⟩ : ∃ K, K = 1 + so.cs.length + 2 * so.ws.length := ⟨_, rfl⟩
  obtain ⟨Kb1, hKb⟩ : ∃ K, K = Ka1 + wms kv2 := ⟨_, rfl⟩
  obtain ⟨Kc1, hKc⟩ : ∃ K, K = Kb1 + 4 * so.bl.length := ⟨_, rfl⟩
  have HKa1 : Hid (Ka1 = 1 + so.cs.length + 2 * so.ws.length) := hKa
  have HKb1 : Hid (Kb1 = Ka1 + wms kv2) := hKb
  have HKc1 : Hid (Kc1 = Kb1 + 4 * so.bl.length) := hKc
  have hKp1 : 1 ≤ Kc1 := by omega
  have hKl1 : Kc1 ≤ 9999998 := by have := HLIMso.out.m kv2 HKM2.out; omega
  clear hKa hKb hKc
  have HRX1 : Hid (RowsO (w5) b2 (shAll (.slice oC2 so.cs.length pC2) (.slice oP2 so.ws.length pP2) (.slice oK2 kv2.length pK2) (.slice oB2 so.bl.length pB2) kv2 so.cs so.ws so.bl)) := by show RowsO _ _ _; rw [← HRQ2.out]; exact ES2_5.out
  go_wp2_with fail
  refine (markCacheN_go so _ _ _ _ _ _ _ _ _ _ _ _ kv2 b2 _ rfl rfl rfl rfl HRX1 (by rw [HBK2.out]; have := HM3.out; have := HM4.out; have := HM5.out; omega) 1 (by omega) (by have := HKa1.out; have := HKb1.out; have := HKc1.out; omega) (HLIMso.out.kl kv2 HKM2.out) Ka1 Kb1 Kc1 HKa1 HKb1 HKc1).mono ?_
  rintro e w6 ⟨rfl, mk, bm, far⟩
  clear HRX1
  have far2 : FarR R2 w5 w6 := by rw [HRQ2.out]; exact far
  clear far
  have far := far2
  clear far2
  have hb6 : Below w.heap.size w (w6) := hb5.trans (bm.mono HBW2.out)
  have HBv1_6 : Hid ((w6).heap[qv1]? = some (.cells #[(.slice oC1 so.cs.length pC1), (.slice oP1 so.ws.length pP1), (.slice oK1 kv1.length pK1), (.slice oB1 so.bl.length pB1), .int .i64 so.nx, .int .i64 so.sq, .slice none 0 0, .int .i64 0, .slice none 0 0, .slice none 0 0] 34)) := (far _ (Array.getElem?_eq_some_iff.1 HBv1_5.out).1 (fun r hr e => own_noR (ES2_5.out.own r hr) (HTY2.out 34 (by decide) (by decide) (by decide) (by decide) (by decide) r hr) HBv1_5.out e)).trans HBv1_5.out
  have HBv2_6 : Hid ((w6).heap[qv2]? = some (.cells #[(.slice oC2 so.cs.length pC2), (.slice oP2 so.ws.length pP2), (.slice oK2 kv2.length pK2), (.slice oB2 so.bl.length pB2), .int .i64 so.nx, .int .i64 so.sq, .slice none 0 0, .int .i64 0, .slice none 0 0, .slice none 0 0] 34)) := (far _ (Array.getElem?_eq_some_iff.1 HBv2_5.out).1 (fun r hr e => own_noR (ES2_5.out.own r hr) (HTY2.out 34 (by decide) (by decide) (by decide) (by decide) (by decide) r hr) HBv2_5.out e)).trans HBv2_5.out
  have ES1_6 : Hid (RowsO (w6) b1 (R1)) := RowsO.same ES1_5.out (fun r2 hr2 g hg => far g (ES1_5.out.lt hr2 hg) (fun r hr e => by have h1 := HU1.out r2 hr2 g hg; have h2 := ES2_5.out.ge hr e; have h3 := HTK1.out; have h4 := HBK2.out; have := HM2.out; omega))
  obtain ⟨M2, hMq⟩ : ∃ M, M = [(⟨9, 1, (.slice oC2 so.cs.length pC2), so.cs.length, (mkT 1 so.cs so.cs.length).map Value.string⟩ : Rw), (⟨97, 2, (.slice oP2 so.ws.length pP2), so.ws.length, flatWrite (mkWrite (1 + so.cs.length) so.ws so.ws.length)⟩ : Rw)] ++ kpAll (.slice oK2 kv2.length pK2) (mkKs Ka1 kv2) ++ [(⟨85, 4, (.slice oB2 so.bl.length pB2), so.bl.length, flatBan (mkBan Kb1 so.bl so.bl.length)⟩ : Rw)] := ⟨_, rfl⟩
  rw [← hMq] at mk
  have HMQ2 : Hid (M2 = [(⟨9, 1, (.slice oC2 so.cs.length pC2), so.cs.length, (mkT 1 so.cs so.cs.length).map Value.string⟩ : Rw), (⟨97, 2, (.slice oP2 so.ws.length pP2), so.ws.length, flatWrite (mkWrite (1 + so.cs.length) so.ws so.ws.length)⟩ : Rw)] ++ kpAll (.slice oK2 kv2.length pK2) (mkKs Ka1 kv2) ++ [(⟨85, 4, (.slice oB2 so.bl.length pB2), so.bl.length, flatBan (mkBan Kb1 so.bl so.bl.length)⟩ : Rw)]) := hMq
  have HTYM2 : Hid (NoT M2) := fun T h1 h2 h3 h4 h5 r hr => by rw [hMq] at hr; exact mkAll_T T h1 h2 h3 h4 h5 r hr
  clear hMq
  have ES2_6 : Hid (RowsO (w6) b2 (M2)) := mk
  clear mk bm far hb5 HBv1_5 HBv2_5 ES1_5 ES2_5
  have hKn1 : ¬ ((Kc1 : Int) < 0) := by omega
  clear cv2_0 cv2_1 cv2_2 cv2_3 cv2_4 cv2_5 cv2_6 cv2_7 cv2_8 cv2_9
  have cv2_0 : (w6).cell? ⟨qv2, 0, none⟩ = some ((.slice oC2 so.cs.length pC2)) := (cell_of HBv2_6.out 0).trans rfl
  have cv2_1 : (w6).cell? ⟨qv2, 1, none⟩ = some ((.slice oP2 so.ws.length pP2)) := (cell_of HBv2_6.out 1).trans rfl
  have cv2_2 : (w6).cell? ⟨qv2, 2, none⟩ = some ((.slice oK2 kv2.length pK2)) := (cell_of HBv2_6.out 2).trans rfl
  have cv2_3 : (w6).cell? ⟨qv2, 3, none⟩ = some ((.slice oB2 so.bl.length pB2)) := (cell_of HBv2_6.out 3).trans rfl
  have cv2_4 : (w6).cell? ⟨qv2, 4, none⟩ = some (.int .i64 so.nx) := (cell_of HBv2_6.out 4).trans rfl
  have cv2_5 : (w6).cell? ⟨qv2, 5, none⟩ = some (.int .i64 so.sq) := (cell_of HBv2_6.out 5).trans rfl
  have cv2_6 : (w6).cell? ⟨qv2, 6, none⟩ = some (.slice none 0 0) := (cell_of HBv2_6.out 6).trans rfl
  have cv2_7 : (w6).cell? ⟨qv2, 7, none⟩ = some (.int .i64 0) := (cell_of HBv2_6.out 7).trans rfl
  have cv2_8 : (w6).cell? ⟨qv2, 8, none⟩ = some (.slice none 0 0) := (cell_of HBv2_6.out 8).trans rfl
  have cv2_9 : (w6).cell? ⟨qv2, 9, none⟩ = some (.slice none 0 0) := (cell_of HBv2_6.out 9).trans rfl
  have HRX : Hid (RowsO (w6) b2 ([(⟨9, 1, (.slice oC2 so.cs.length pC2), so.cs.length, (mkT 1 so.cs so.cs.length).map Value.string⟩ : Rw), (⟨97, 2, (.slice oP2 so.ws.length pP2), so.ws.length, flatWrite (mkWrite (1 + so.cs.length) so.ws so.ws.length)⟩ : Rw)] ++ kpAll (.slice oK2 kv2.length pK2) (mkKs Ka1 kv2) ++ [(⟨85, 4, (.slice oB2 so.bl.length pB2), so.bl.length, flatBan (mkBan Kb1 so.bl so.bl.length)⟩ : Rw)])) := by show RowsO _ _ _; rw [← HMQ2.out]; exact ES2_6.out
  go_wp2_with fail
  refine (heldCacheN_go so _ _ _ _ _ _ _ _ _ _ _ _ kv2 b2 _ rfl rfl rfl rfl 1 Ka1 Kb1 Kc1 HRX (by omega) (by have := HKa1.out; have := HKb1.out; have := HKc1.out; omega) (HLIMso.out.kl kv2 HKM2.out) HKa1 HKb1 HKc1).mono ?_
  rintro e w7 ⟨rfl, bw⟩
  clear HRX
  have hb7 : Below w.heap.size w (w7) := hb6.trans (bw.mono hb6.size)
  have HBv1_7 : Hid ((w7).heap[qv1]? = some (.cells #[(.slice oC1 so.cs.length pC1), (.slice oP1 so.ws.length pP1), (.slice oK1 kv1.length pK1), (.slice oB1 so.bl.length pB1), .int .i64 so.nx, .int .i64 so.sq, .slice none 0 0, .int .i64 0, .slice none 0 0, .slice none 0 0] 34)) := blk_below HBv1_6.out bw
  have HBv2_7 : Hid ((w7).heap[qv2]? = some (.cells #[(.slice oC2 so.cs.length pC2), (.slice oP2 so.ws.length pP2), (.slice oK2 kv2.length pK2), (.slice oB2 so.bl.length pB2), .int .i64 so.nx, .int .i64 so.sq, .slice none 0 0, .int .i64 0, .slice none 0 0, .slice none 0 0] 34)) := blk_below HBv2_6.out bw
  have ES1_7 : Hid (RowsO (w7) b1 (R1)) := ES1_6.out.below bw
  have ES2_7 : Hid (RowsO (w7) b2 (M2)) := ES2_6.out.below bw
  clear hb6 HBv1_6 HBv2_6 ES1_6 ES2_6 bw
  clear cv2_0 cv2_1 cv2_2 cv2_3 cv2_4 cv2_5 cv2_6 cv2_7 cv2_8 cv2_9
  go_wp2_with fail
  refine (HIM.out _ hb7).mono ?_
  rintro e w8 ⟨va, vb, vc, vd, kv3, rfl, hso, bw⟩
  obtain ⟨oC3, pC3, rfl⟩ := slice_of_owns hso.disk.cells
  obtain ⟨oP3, pP3, rfl⟩ := slice_of_owns hso.disk.pend
  obtain ⟨oK3, pK3, rfl⟩ := hso.kept.len
  obtain ⟨oB3, pB3, rfl⟩ := slice_of_owns hso.bans
  obtain ⟨R3, hR3⟩ : ∃ R, R = shAll (.slice oC3 so.cs.length pC3) (.slice oP3 so.ws.length pP3) (.slice oK3 kv3.length pK3) (.slice oB3 so.bl.length pB3) kv3 so.cs so.ws so.bl := ⟨_, rfl⟩
  obtain ⟨b3, hbq3⟩ : ∃ b, b = (w7).heap.size := ⟨_, rfl⟩
  obtain ⟨t3, htq3⟩ : ∃ t, t = (w8).heap.size := ⟨_, rfl⟩
  have hbk3 := hb7.size
  have hb8 : Below w.heap.size w (w8) := hb7.trans (bw.mono hb7.size)
  have HBv1_8 : Hid ((w8).heap[qv1]? = some (.cells #[(.slice oC1 so.cs.length pC1), (.slice oP1 so.ws.length pP1), (.slice oK1 kv1.length pK1), (.slice oB1 so.bl.length pB1), .int .i64 so.nx, .int .i64 so.sq, .slice none 0 0, .int .i64 0, .slice none 0 0, .slice none 0 0] 34)) := blk_below HBv1_7.out bw
  have HBv2_8 : Hid ((w8).heap[qv2]? = some (.cells #[(.slice oC2 so.cs.length pC2), (.slice oP2 so.ws.length pP2), (.slice oK2 kv2.length pK2), (.slice oB2 so.bl.length pB2), .int .i64 so.nx, .int .i64 so.sq, .slice none 0 0, .int .i64 0, .slice none 0 0, .slice none 0 0] 34)) := blk_below HBv2_7.out bw
  have ES1_8 : Hid (RowsO (w8) b1 (R1)) := ES1_7.out.below bw
  have ES2_8 : Hid (RowsO (w8) b2 (M2)) := ES2_7.out.below bw
  clear hb7 HBv1_7 HBv2_7 ES1_7 ES2_7 bw
  have ES3_8 : Hid (RowsO (w8) b3 (R3)) := by show RowsO _ _ _; rw [hbq3, hR3]; exact hso.1
  have HKM3 : Hid (kv3.map (·.1) = so.ks) := hso.2
  have HU3 : Hid (∀ r ∈ R3, ∀ g, r.v.ownBlock = some g → g < t3) := fun r hr g hg => by rw [htq3]; rw [hR3] at hr; exact hso.1.lt hr hg
  have HRQ3 : Hid (R3 = shAll (.slice oC3 so.cs.length pC3) (.slice oP3 so.ws.length pP3) (.slice oK3 kv3.length pK3) (.slice oB3 so.bl.length pB3) kv3 so.cs so.ws so.bl) := hR3
  have HTY3 : Hid (NoT R3) := fun T h1 h2 h3 h4 h5 r hr => by rw [hR3] at hr; exact shAll_T T h1 h2 h3 h4 h5 r hr
  clear hR3
  have HBW3 : Hid (b3 ≥ w.heap.size) := by show _ ≤ _; rw [hbq3]; exact hbk3
  have HBK3 : Hid (b3 = w7.heap.size) := hbq3
  have HTK3 : Hid (t3 = w8.heap.size) := htq3
  clear hso hbq3 htq3 hbk3
  go_upto_region 14 with fail
  obtain ⟨qv3, hqv3⟩ : ∃ q, q = (w8).heap.size := ⟨_, rfl⟩
  obtain ⟨w9, hW9⟩ : ∃ W, W = (w8).alloc (.cells #[(.slice oC3 so.cs.length pC3), (.slice oP3 so.ws.length pP3), (.slice oK3 kv3.length pK3), (.slice oB3 so.bl.length pB3), .int .i64 so.nx, .int .i64 so.sq, .slice none 0 0, .int .i64 0, .slice none 0 0, .slice none 0 0] 34) := ⟨_, rfl⟩
  have hz9 : (w8).heap.size = qv3 := hqv3.symm
  first | rw [← hW9, ← hqv3] | rw [← hW9]
  have hs9 : w9.heap.size = qv3 + 1 := by rw [hW9, ← hz9]; simp
  have bw : Below (w8).heap.size (w8) w9 := by rw [hW9]; exact (Below.refl _ _).alloc (Nat.le_refl _) _
  have hb9 : Below w.heap.size w (w9) := hb8.trans (bw.mono hb8.size)
  have HBv1_9 : Hid ((w9).heap[qv1]? = some (.cells #[(.slice oC1 so.cs.length pC1), (.slice oP1 so.ws.length pP1), (.slice oK1 kv1.length pK1), (.slice oB1 so.bl.length pB1), .int .i64 so.nx, .int .i64 so.sq, .slice none 0 0, .int .i64 0, .slice none 0 0, .slice none 0 0] 34)) := blk_below HBv1_8.out bw
  have HBv2_9 : Hid ((w9).heap[qv2]? = some (.cells #[(.slice oC2 so.cs.length pC2), (.slice oP2 so.ws.length pP2), (.slice oK2 kv2.length pK2), (.slice oB2 so.bl.length pB2), .int .i64 so.nx, .int .i64 so.sq, .slice none 0 0, .int .i64 0, .slice none 0 0, .slice none 0 0] 34)) := blk_below HBv2_8.out bw
  have ES1_9 : Hid (RowsO (w9) b1 (R1)) := ES1_8.out.below bw
  have ES2_9 : Hid (RowsO (w9) b2 (M2)) := ES2_8.out.below bw
  have ES3_9 : Hid (RowsO (w9) b3 (R3)) := ES3_8.out.below bw
  have HBv3_9 : Hid ((w9).heap[qv3]? = some (.cells #[(.slice oC3 so.cs.length pC3), (.slice oP3 so.ws.length pP3), (.slice oK3 kv3.length pK3), (.slice oB3 so.bl.length pB3), .int .i64 so.nx, .int .i64 so.sq, .slice none 0 0, .int .i64 0, .slice none 0 0, .slice none 0 0] 34)) := by show _ = _; rw [hW9, ← hz9]; exact heap_alloc_new _ _
  clear hb8 HBv1_8 HBv2_8 ES1_8 ES2_8 ES3_8 bw hW9 hz9
  clear hs9 hqv3
  have cv1_0 : (w9).cell? ⟨qv1, 0, none⟩ = some ((.slice oC1 so.cs.length pC1)) := (cell_of HBv1_9.out 0).trans rfl
  have cv1_1 : (w9).cell? ⟨qv1, 1, none⟩ = some ((.slice oP1 so.ws.length pP1)) := (cell_of HBv1_9.out 1).trans rfl
  have cv1_2 : (w9).cell? ⟨qv1, 2, none⟩ = some ((.slice oK1 kv1.length pK1)) := (cell_of HBv1_9.out 2).trans rfl
  have cv1_3 : (w9).cell? ⟨qv1, 3, none⟩ = some ((.slice oB1 so.bl.length pB1)) := (cell_of HBv1_9.out 3).trans rfl
  have cv1_4 : (w9).cell? ⟨qv1, 4, none⟩ = some (.int .i64 so.nx) := (cell_of HBv1_9.out 4).trans rfl
  have cv1_5 : (w9).cell? ⟨qv1, 5, none⟩ = some (.int .i64 so.sq) := (cell_of HBv1_9.out 5).trans rfl
  have cv1_6 : (w9).cell? ⟨qv1, 6, none⟩ = some (.slice none 0 0) := (cell_of HBv1_9.out 6).trans rfl
  have cv1_7 : (w9).cell? ⟨qv1, 7, none⟩ = some (.int .i64 0) := (cell_of HBv1_9.out 7).trans rfl
  have cv1_8 : (w9).cell? ⟨qv1, 8, none⟩ = some (.slice none 0 0) := (cell_of HBv1_9.out 8).trans rfl
  have cv1_9 : (w9).cell? ⟨qv1, 9, none⟩ = some (.slice none 0 0) := (cell_of HBv1_9.out 9).trans rfl
  have cv3_0 : (w9).cell? ⟨qv3, 0, none⟩ = some ((.slice oC3 so.cs.length pC3)) := (cell_of HBv3_9.out 0).trans rfl
  have cv3_1 : (w9).cell? ⟨qv3, 1, none⟩ = some ((.slice oP3 so.ws.length pP3)) := (cell_of HBv3_9.out 1).trans rfl
  have cv3_2 : (w9).cell? ⟨qv3, 2, none⟩ = some ((.slice oK3 kv3.length pK3)) := (cell_of HBv3_9.out 2).trans rfl
  have cv3_3 : (w9).cell? ⟨qv3, 3, none⟩ = some ((.slice oB3 so.bl.length pB3)) := (cell_of HBv3_9.out 3).trans rfl
  have cv3_4 : (w9).cell? ⟨qv3, 4, none⟩ = some (.int .i64 so.nx) := (cell_of HBv3_9.out 4).trans rfl
  have cv3_5 : (w9).cell? ⟨qv3, 5, none⟩ = some (.int .i64 so.sq) := (cell_of HBv3_9.out 5).trans rfl
  have cv3_6 : (w9).cell? ⟨qv3, 6, none⟩ = some (.slice none 0 0) := (cell_of HBv3_9.out 6).trans rfl
  have cv3_7 : (w9).cell? ⟨qv3, 7, none⟩ = some (.int .i64 0) := (cell_of HBv3_9.out 7).trans rfl
  have cv3_8 : (w9).cell? ⟨qv3, 8, none⟩ = some (.slice none 0 0) := (cell_of HBv3_9.out 8).trans rfl
  have cv3_9 : (w9).cell? ⟨qv3, 9, none⟩ = some (.slice none 0 0) := (cell_of HBv3_9.out 9).trans rfl
  go_wp2_with fail
  refine (eqCacheN_any so _ _ _ _ _ _ _ _ _ _ _ _ _ (shelf_of HRQ3.out ES3_9.out HKM3.out) (shelf_of HRQ1.out ES1_9.out HKM1.out) HLIMso.out.c HLIMso.out.w HLIMso.out.k HLIMso.out.b HLIMso.out.ks).mono ?_
  rintro e w10 ⟨rfl, bw⟩
  have hb10 : Below w.heap.size w (w10) := hb9.trans (bw.mono hb9.size)
  have HBv1_10 : Hid ((w10).heap[qv1]? = some (.cells #[(.slice oC1 so.cs.length pC1), (.slice oP1 so.ws.length pP1), (.slice oK1 kv1.length pK1), (.slice oB1 so.bl.length pB1), .int .i64 so.nx, .int .i64 so.sq, .slice none 0 0, .int .i64 0, .slice none 0 0, .slice none 0 0] 34)) := blk_below HBv1_9.out bw
  have HBv2_10 : Hid ((w10).heap[qv2]? = some (.cells #[(.slice oC2 so.cs.length pC2), (.slice oP2 so.ws.length pP2), (.slice oK2 kv2.length pK2), (.slice oB2 so.bl.length pB2), .int .i64 so.nx, .int .i64 so.sq, .slice none 0 0, .int .i64 0, .slice none 0 0, .slice none 0 0] 34)) := blk_below HBv2_9.out bw
  have HBv3_10 : Hid ((w10).heap[qv3]? = some (.cells #[(.slice oC3 so.cs.length pC3), (.slice oP3 so.ws.length pP3), (.slice oK3 kv3.length pK3), (.slice oB3 so.bl.length pB3), .int .i64 so.nx, .int .i64 so.sq, .slice none 0 0, .int .i64 0, .slice none 0 0, .slice none 0 0] 34)) := blk_below HBv3_9.out bw
  have ES1_10 : Hid (RowsO (w10) b1 (R1)) := ES1_9.out.below bw
  have ES2_10 : Hid (RowsO (w10) b2 (M2)) := ES2_9.out.below bw
  have ES3_10 : Hid (RowsO (w10) b3 (R3)) := ES3_9.out.below bw
  clear hb9 HBv1_9 HBv2_9 HBv3_9 ES1_9 ES2_9 ES3_9 bw
  clear cv1_0 cv1_1 cv1_2 cv1_3 cv1_4 cv1_5 cv1_6 cv1_7 cv1_8 cv1_9 cv3_0 cv3_1 cv3_2 cv3_3 cv3_4 cv3_5 cv3_6 cv3_7 cv3_8 cv3_9
  have cv2_0 : (w10).cell? ⟨qv2, 0, none⟩ = some ((.slice oC2 so.cs.length pC2)) := (cell_of HBv2_10.out 0).trans rfl
  have cv2_1 : (w10).cell? ⟨qv2, 1, none⟩ = some ((.slice oP2 so.ws.length pP2)) := (cell_of HBv2_10.out 1).trans rfl
  have cv2_2 : (w10).cell? ⟨qv2, 2, none⟩ = some ((.slice oK2 kv2.length pK2)) := (cell_of HBv2_10.out 2).trans rfl
  have cv2_3 : (w10).cell? ⟨qv2, 3, none⟩ = some ((.slice oB2 so.bl.length pB2)) := (cell_of HBv2_10.out 3).trans rfl
  have cv2_4 : (w10).cell? ⟨qv2, 4, none⟩ = some (.int .i64 so.nx) := (cell_of HBv2_10.out 4).trans rfl
  have cv2_5 : (w10).cell? ⟨qv2, 5, none⟩ = some (.int .i64 so.sq) := (cell_of HBv2_10.out 5).trans rfl
  have cv2_6 : (w10).cell? ⟨qv2, 6, none⟩ = some (.slice none 0 0) := (cell_of HBv2_10.out 6).trans rfl
  have cv2_7 : (w10).cell? ⟨qv2, 7, none⟩ = some (.int .i64 0) := (cell_of HBv2_10.out 7).trans rfl
  have cv2_8 : (w10).cell? ⟨qv2, 8, none⟩ = some (.slice none 0 0) := (cell_of HBv2_10.out 8).trans rfl
  have cv2_9 : (w10).cell? ⟨qv2, 9, none⟩ = some (.slice none 0 0) := (cell_of HBv2_10.out 9).trans rfl
  have HRX : Hid (RowsO (w10) b2 ([(⟨9, 1, (.slice oC2 so.cs.length pC2), so.cs.length, (mkT 1 so.cs so.cs.length).map Value.string⟩ : Rw), (⟨97, 2, (.slice oP2 so.ws.length pP2), so.ws.length, flatWrite (mkWrite (1 + so.cs.length) so.ws so.ws.length)⟩ : Rw)] ++ kpAll (.slice oK2 kv2.length pK2) (mkKs Ka1 kv2) ++ [(⟨85, 4, (.slice oB2 so.bl.length pB2), so.bl.length, flatBan (mkBan Kb1 so.bl so.bl.length)⟩ : Rw)])) := by show RowsO _ _ _; rw [← HMQ2.out]; exact ES2_10.out
  go_wp2_with fail
  refine (heldCacheN_go so _ _ _ _ _ _ _ _ _ _ _ _ kv2 b2 _ rfl rfl rfl rfl 1 Ka1 Kb1 Kc1 HRX (by omega) (by have := HKa1.out; have := HKb1.out; have := HKc1.out; omega) (HLIMso.out.kl kv2 HKM2.out) HKa1 HKb1 HKc1).mono ?_
  rintro e w11 ⟨rfl, bw⟩
  clear HRX
  have hb11 : Below w.heap.size w (w11) := hb10.trans (bw.mono hb10.size)
  have HBv1_11 : Hid ((w11).heap[qv1]? = some (.cells #[(.slice oC1 so.cs.length pC1), (.slice oP1 so.ws.length pP1), (.slice oK1 kv1.length pK1), (.slice oB1 so.bl.length pB1), .int .i64 so.nx, .int .i64 so.sq, .slice none 0 0, .int .i64 0, .slice none 0 0, .slice none 0 0] 34)) := blk_below HBv1_10.out bw
  have HBv2_11 : Hid ((w11).heap[qv2]? = some (.cells #[(.slice oC2 so.cs.length pC2), (.slice oP2 so.ws.length pP2), (.slice oK2 kv2.length pK2), (.slice oB2 so.bl.length pB2), .int .i64 so.nx, .int .i64 so.sq, .slice none 0 0, .int .i64 0, .slice none 0 0, .slice none 0 0] 34)) := blk_below HBv2_10.out bw
  have HBv3_11 : Hid ((w11).heap[qv3]? = some (.cells #[(.slice oC3 so.cs.length pC3), (.slice oP3 so.ws.length pP3), (.slice oK3 kv3.length pK3), (.slice oB3 so.bl.length pB3), .int .i64 so.nx, .int .i64 so.sq, .slice none 0 0, .int .i64 0, .slice none 0 0, .slice none 0 0] 34)) := blk_below HBv3_10.out bw
  have ES1_11 : Hid (RowsO (w11) b1 (R1)) := ES1_10.out.below bw
  have ES2_11 : Hid (RowsO (w11) b2 (M2)) := ES2_10.out.below bw
  have ES3_11 : Hid (RowsO (w11) b3 (R3)) := ES3_10.out.below bw
  clear hb10 HBv1_10 HBv2_10 HBv3_10 ES1_10 ES2_10 ES3_10 bw
  clear cv2_0 cv2_1 cv2_2 cv2_3 cv2_4 cv2_5 cv2_6 cv2_7 cv2_8 cv2_9
  go_wp2_with fail
  go_ret
  exact ⟨rfl, hb11⟩


set_option maxRecDepth 100000 in
theorem lifted (os : Os) (started : os.Started) (H : Type) (enc : TypeId × Value → H) :
    ReturnsInHanded {} Try.checked os 3 .any (Rows.fnExactCacheNewSpec.pre6 enc Try.prog Try.f3 Rows.fnExactCacheNewRow.domain false) (Rows.fnExactCacheNewSpec.post enc Try.prog Try.f3 false true false false) := by
  refine returnsInHanded_of_change (C := Try.checked) own started (by kernel_rfl) Try.func3
    (ChangeSpec.witness6 (enc := enc) (C := Try.checked) false ⟨#[], #[], []⟩ 8 (by kernel_rfl) (by kernel_rfl) (by kernel_rfl) (by kernel_rfl)) ?_
  intro W base args ds gs before hval0 hW _ _
  have hval : ∀ (j : Nat) t v, Try.f3.params[j]? = some t → args[j]? = some v → Value.okWide Try.prog W .any base t v := hval0
  have hW' := hW
  obtain ⟨p, q, hA0, hV, rfl, hfz, hnd⟩ := hW
  have hA : DataW.TrodAll enc Try.prog W 0 (fun _ => true) true Try.f3.params.toList args.toList ds p := hA0
  rw [Try.params3] at hA hval
  obtain ⟨hargs, rfl, rfl⟩ := trodAll_nil hA
  obtain rfl : args = #[] := by cases args; simp_all
  obtain ⟨rfl, rfl⟩ := trodVars_none hV
  clear hA0 hval0
  refine (walk1 W ).mono fun e W' ⟨he, bel⟩ => ?_
  subst he
  exact ⟨_, rfl, _, _, _, [], [], [], hW', trodAll_mk1 (shut_bool Try.underlying4 _), trodAll_mk0, rfl, bel.frame _, fun h => by cases h⟩

theorem over : Rows.fnExactCacheNewRow.holds Try.pinned (OpenSpec.ofChange Rows.fnExactCacheNewSpec) :=
  OpenClaim.holds_of_wide 3 Try.f3 rfl rfl rfl rfl rfl rfl rfl ⟨rfl, rfl, rfl, rfl, rfl⟩ rfl rfl rfl rfl rfl (by kernel_rfl) Try.func3 (by kernel_rfl)
    (of_decide_eq_true (by kernel_rfl)) (by unfold Func.isWrapper; first | (rw [if_pos (by decide +kernel)]; kernel_rfl) | (rw [if_neg (by decide +kernel)]; exact ⟨rfl, rfl⟩))
    (fun os started H enc _ => lifted os started H enc)
end fnExactCacheNew

theorem fnExactCacheNew_holds : Rows.FnExactCacheNewSaid := fnExactCacheNew.over
#print axioms fnExactCacheNew_holds
end Go.Proofs.Ytanpngnpolhgbaa
