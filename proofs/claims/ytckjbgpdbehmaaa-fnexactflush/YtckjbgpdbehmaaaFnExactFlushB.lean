/- What the proof of FnExactFlush leans on: contracts of the program's and the specification's functions, and plain facts (part 2 of 2). -/
import Derived.Test.YtckjbgpdbehmaaaFnExactFlushA
namespace Go.Proofs.Ytckjbgpdbehmaaa
open Go.RowKit
open Go.Lib hiding intOf

set_option maxHeartbeats 8000000 in
set_option maxRecDepth 100000 in
theorem specDiskOk_len (o1 : Option Addr) (n1 c1 : Nat) (v2 : Value) (n2 : Nat) (ws : List (Int × ByteArray)) (B : Nat) (w : World) (h : w.ownsRow B 67 2 v2 n2 (flatWrite ws)) (hn2 : n2 ≤ 2000000) :
    Calls Try.prog 17 #[.agg #[.slice o1 n1 c1, v2]] w fun e w' => BoolIs (DiskN n1 ws) w e w' := by
  obtain ⟨oPx, pPx, rfl⟩ := slice_of_owns h
  have HOPx_0 : Hid ((w).ownsRow B 67 2 (.slice oPx n2 pPx) n2 (flatWrite ws)) := h
  have HIPx : Hid (∀ g, (Value.ownBlock (.slice oPx n2 pPx)) = some g → g < w.heap.size) := fun g hg => owns_lt h hg
  have HPL : Hid (ws.length = n2) := write_len h
  clear h
  have hb0 : Below w.heap.size w w := Below.refl _ _
  go_enter Try.func17, Try.ntmps17
  go_upto_region 1 with fail
  obtain ⟨qv1, hqv1⟩ : ∃ q, q = (w).heap.size := ⟨_, rfl⟩
  obtain ⟨w1, hW1⟩ : ∃ W, W = (w).alloc (.cells #[.slice o1 n1 c1, .slice oPx n2 pPx] 27) := ⟨_, rfl⟩
  have hz1 : (w).heap.size = qv1 := hqv1.symm
  first | rw [← hW1, ← hqv1] | rw [← hW1]
  have hs1 : w1.heap.size = qv1 + 1 := by rw [hW1, ← hz1]; simp
  have bw : Below (w).heap.size (w) w1 := by rw [hW1]; exact (Below.refl _ _).alloc (Nat.le_refl _) _
  have hb1 : Below w.heap.size w (w1) := hb0.trans (bw.mono hb0.size)
  have HM1 : Hid ((w).heap.size ≤ (w1).heap.size) := bw.size
  have HOPx_1 : Hid ((w1).ownsRow B 67 2 (.slice oPx n2 pPx) n2 (flatWrite ws)) := owns_below HOPx_0.out bw (fun g hg => owns_lt HOPx_0.out hg)
  have HBv1_1 : Hid ((w1).heap[qv1]? = some (.cells #[.slice o1 n1 c1, .slice oPx n2 pPx] 27)) := by show _ = _; rw [hW1, ← hz1]; exact heap_alloc_new _ _
  have HGv1 : Hid (w.heap.size ≤ qv1) := by show _ ≤ _; rw [← hz1]; exact hb0.size
  clear hb0 HOPx_0 bw hW1 hz1
  clear hs1 hqv1
  go_wp2_with fail
  go_loopw [3] (fun i wr => ∃ j : Nat, j ≤ n2 ∧ i = .int .i64 (j : Int) ∧ Hid (Below w.heap.size w (wr) ∧ (wr).heap[qv1]? = some (.cells #[.slice o1 n1 c1, .slice oPx n2 pPx] 27) ∧ (wr).ownsRow B 67 2 (.slice oPx n2 pPx) n2 (flatWrite ws)) ∧ Hid (∀ x ∈ ws.take j, 0 ≤ x.1 ∧ x.1 ≤ 19)) (fun i _ => n2 - (intOf i).toNat)
  case atStart => exact ⟨0, Nat.zero_le _, rfl, ⟨hb1, HBv1_1.out, HOPx_1.out⟩, fun x hx => by simp at hx⟩
  case round =>
    obtain ⟨j, hj, rfl, HW, HN⟩ := hrel
    by_cases hlt : (j : Int) < (n2 : Int)
    · have hb2 := HW.out.1
      have HBv1_2 : Hid ((wr).heap[qv1]? = some (.cells #[.slice o1 n1 c1, .slice oPx n2 pPx] 27)) := HW.out.2.1
      have HOPx_2 : Hid ((wr).ownsRow B 67 2 (.slice oPx n2 pPx) n2 (flatWrite ws)) := HW.out.2.2
      clear HW hb1 HOPx_1 HBv1_1
      have hjx : j < ws.length := by rw [HPL.out]; omega
      obtain ⟨g, rfl⟩ := owns_some HOPx_2.out (by omega)
      obtain ⟨y, hy⟩ : ∃ y, y = writeAt ws j := ⟨_, rfl⟩
      have HM : Hid (y ∈ ws) := by show _ ∈ _; rw [hy]; exact writeAt_mem ws j hjx
      have HTK : Hid (ws.take (j + 1) = ws.take j ++ [y]) := by show _ = _; rw [hy]; exact take_writeAt ws j hjx
      have HYE : Hid (writeAt ws j = y) := hy.symm
      clear hy hjx
      obtain ⟨y0, y1⟩ := y
      have HELPx : Hid (∀ W : World, (W).ownsRow B 67 2 (.slice (some ⟨g, 0, none⟩) n2 pPx) n2 (flatWrite ws) → (W.cell? ⟨g, j * 2, none⟩ = some (.int .i64 y0) ∧ W.cell? ⟨g, j * 2 + 1, none⟩ = some (.string y1))) := fun W h => by
        obtain ⟨g', hg, _, r0, r1⟩ := (write_view h).2 j (by omega)
        cases hg
        rw [HYE.out] at r0 r1
        exact ⟨r0, r1⟩
      obtain ⟨r0, r1⟩ := HELPx.out _ HOPx_2.out
      have cv1_1 : (wr).cell? ⟨qv1, 1, none⟩ = some (.slice (some ⟨g, 0, none⟩) n2 pPx) := (cell_of HBv1_2.out 1).trans rfl
      go_wp2_with fail
      refine (l1In_any y0 0 19 _).mono ?_
      rintro e w3 ⟨rfl, hwe⟩
      have bw : Below (wr).heap.size (wr) w3 := by rw [hwe]; exact Below.refl _ _
      clear hwe
      obtain ⟨uy, huy⟩ : ∃ u, u = decide ((0 : Int) ≤ y0 ∧ y0 ≤ 19) := ⟨_, rfl⟩
      rw [← huy]
      have hb3 : Below w.heap.size w (w3) := hb2.trans (bw.mono hb2.size)
      have HM3 : Hid ((wr).heap.size ≤ (w3).heap.size) := bw.size
      have HOPx_3 : Hid ((w3).ownsRow B 67 2 (.slice (some ⟨g, 0, none⟩) n2 pPx) n2 (flatWrite ws)) := owns_below HOPx_2.out bw (fun g hg => owns_lt HOPx_2.out hg)
      have HBv1_3 : Hid ((w3).heap[qv1]? = some (.cells #[.slice o1 n1 c1, .slice (some ⟨g, 0, none⟩) n2 pPx] 27)) := blk_below HBv1_2.out bw
      clear hb2 HOPx_2 HBv1_2 bw
      clear cv1_1 r0 r1
      cases uy with
      | false =>
        have HNY : Hid (¬ (0 ≤ y0 ∧ y0 ≤ 19)) := (show ¬ (0 ≤ y0 ∧ y0 ≤ 19) from of_decide_eq_false huy.symm)
        clear huy
        go_wp2_with fail
        go_ret
        exact BoolIs.no (fun h => HNY.out (h.2.2 _ HM.out)) hb3
      | true =>
        have HY : Hid (0 ≤ y0 ∧ y0 ≤ 19) := (show (0 ≤ y0 ∧ y0 ≤ 19) from of_decide_eq_true huy.symm)
        clear huy
        have HN2 : Hid (∀ x ∈ ws.take (j + 1), 0 ≤ x.1 ∧ x.1 ≤ 19) := fun x hx => by
          rw [HTK.out] at hx
          rcases List.mem_append.1 hx with hx | hx
          · exact HN.out x hx
          · rw [List.mem_singleton.1 hx]; exact HY.out
        go_wp2_with fail
        go_roundw
        case rel => exact ⟨j + 1, by omega, by go_num, ⟨hb3, HBv1_3.out, HOPx_3.out⟩, HN2⟩
        case measure => simp [intOf]; omega
    · have hb2 := HW.out.1
      have HBv1_2 : Hid ((wr).heap[qv1]? = some (.cells #[.slice o1 n1 c1, .slice oPx n2 pPx] 27)) := HW.out.2.1
      have HOPx_2 : Hid ((wr).ownsRow B 67 2 (.slice oPx n2 pPx) n2 (flatWrite ws)) := HW.out.2.2
      clear HW hb1 HOPx_1 HBv1_1
      have HAL : Hid (∀ x ∈ ws, 0 ≤ x.1 ∧ x.1 ≤ 19) := fun x hx => HN.out x (by rw [List.take_of_length_le (by rw [HPL.out]; omega)]; exact hx)
      clear HN
      have cv1_1 : (wr).cell? ⟨qv1, 1, none⟩ = some (.slice oPx n2 pPx) := (cell_of HBv1_2.out 1).trans rfl
      by_cases hc1 : (n1 : Int) = 20
      · have hc1b : (((n1 : Int) : Int) == (20 : Int)) = true := by simpa using hc1
        have hc1n : (((n1 : Int) : Int) != (20 : Int)) = false := by simpa using hc1
        have HE : Hid (n1 = 20) := (by have := hc1; show _ = _; omega)
        have hc1H : Hid ((n1 : Int) = 20) := hc1
        clear hc1
        have cv1_0 : (wr).cell? ⟨qv1, 0, none⟩ = some (.slice o1 n1 c1) := (cell_of HBv1_2.out 0).trans rfl
        by_cases hc2 : (n2 : Int) ≤ 16
        · have HLE : Hid (n2 ≤ 16) := (by have := hc2; show _ ≤ _; omega)
          go_wp2_with fail
          go_ret
          exact ⟨true, rfl, ⟨fun _ => ⟨HE.out, by rw [HPL.out]; exact HLE.out, HAL.out⟩, fun _ => rfl⟩, hb2⟩
        · have HLE : Hid (¬ n2 ≤ 16) := (by have := hc2; show ¬ _; omega)
          go_wp2_with fail
          go_ret
          exact BoolIs.no (fun h => HLE.out (by have := h.2.1; rw [HPL.out] at this; exact this)) hb2
      · have hc1b : (((n1 : Int) : Int) == (20 : Int)) = false := by simpa using hc1
        have hc1n : (((n1 : Int) : Int) != (20 : Int)) = true := by simpa using hc1
        have HE : Hid (¬ n1 = 20) := (by have := hc1; show ¬ _; omega)
        have hc1H : Hid (¬ ((n1 : Int) = 20)) := hc1
        clear hc1
        have cv1_0 : (wr).cell? ⟨qv1, 0, none⟩ = some (.slice o1 n1 c1) := (cell_of HBv1_2.out 0).trans rfl
        go_wp2_with fail
        go_ret
        exact BoolIs.no (fun h => HE.out h.1) hb2

theorem specDiskOk_any (v1 v2 : Value) (n1 : Nat) (cs : List ByteArray) (n2 : Nat) (ws : List (Int × ByteArray)) (B : Nat) (w : World) (h : DiskO w B v1 n1 cs v2 n2 ws) (_hn1 : n1 ≤ 2000000) (hn2 : n2 ≤ 2000000) :
    Calls Try.prog 17 #[.agg #[v1, v2]] w fun e w' => BoolIs (DiskP cs ws) w e w' := by
  obtain ⟨oCx, pCx, rfl⟩ := slice_of_owns h.cells
  have hl : cs.length = n1 := by have := h.cells.1; rw [List.length_map] at this; omega
  refine (specDiskOk_len oCx n1 pCx v2 n2 ws B w h.pend hn2).mono fun e w' hq => ?_
  show BoolIs (DiskN cs.length ws) w e w'
  rw [hl]
  exact hq

set_option maxHeartbeats 8000000 in
set_option maxRecDepth 100000 in
theorem l12Land_all (v1 v2 : Value) (n1 : Nat) (cs : List ByteArray) (n2 : Nat) (ws : List (Int × ByteArray)) (B : Nat) (w : World) (h : DiskO w B v1 n1 cs v2 n2 ws) (hn1 : n1 ≤ 2000000) (hn2 : n2 ≤ 2000000) (hok : DiskP cs ws) :
    Calls Try.prog 43 #[.agg #[v1, v2], .slice none 0 0, .bool true] w fun e w' => DiskIs (landTo cs ws (fun _ => true) ws.length) [] w e w' := by
  obtain ⟨i0s, his, hz0s, hz1s, hz2s⟩ := info_parts info9
  have HOK : Hid (DiskP cs ws) := hok
  clear hok
  obtain ⟨oCx, pCx, rfl⟩ := slice_of_owns h.cells
  have HOCx_0 : Hid ((w).ownsRow B 9 1 (.slice oCx n1 pCx) n1 (cs.map Value.string)) := h.cells
  have HICx : Hid (∀ g, (Value.ownBlock (.slice oCx n1 pCx)) = some g → g < w.heap.size) := fun g hg => owns_lt h.cells hg
  obtain ⟨oPx, pPx, rfl⟩ := slice_of_owns h.pend
  have HOPx_0 : Hid ((w).ownsRow B 67 2 (.slice oPx n2 pPx) n2 (flatWrite ws)) := h.pend
  have HIPx : Hid (∀ g, (Value.ownBlock (.slice oPx n2 pPx)) = some g → g < w.heap.size) := fun g hg => owns_lt h.pend hg
  have HCL : Hid (cs.length = n1) := by have := h.cells.1; rw [List.length_map] at this; show _ = _; omega
  have HPL : Hid (ws.length = n2) := write_len h.pend
  clear h
  have hb0 : Below w.heap.size w w := Below.refl _ _
  go_enter Try.func43, Try.ntmps43
  go_upto_region 1 with fail
  obtain ⟨qv1, hqv1⟩ : ∃ q, q = (w).heap.size := ⟨_, rfl⟩
  obtain ⟨w1, hW1⟩ : ∃ W, W = (w).alloc (.cells #[.slice oCx n1 pCx, .slice oPx n2 pPx] 27) := ⟨_, rfl⟩
  have hz1 : (w).heap.size = qv1 := hqv1.symm
  first | rw [← hW1, ← hqv1] | rw [← hW1]
  have hs1 : w1.heap.size = qv1 + 1 := by rw [hW1, ← hz1]; simp
  have bw : Below (w).heap.size (w) w1 := by rw [hW1]; exact (Below.refl _ _).alloc (Nat.le_refl _) _
  have hb1 : Below w.heap.size w (w1) := hb0.trans (bw.mono hb0.size)
  have HM1 : Hid ((w).heap.size ≤ (w1).heap.size) := bw.size
  have HOCx_1 : Hid ((w1).ownsRow B 9 1 (.slice oCx n1 pCx) n1 (cs.map Value.string)) := owns_below HOCx_0.out bw (fun g hg => owns_lt HOCx_0.out hg)
  have HOPx_1 : Hid ((w1).ownsRow B 67 2 (.slice oPx n2 pPx) n2 (flatWrite ws)) := owns_below HOPx_0.out bw (fun g hg => owns_lt HOPx_0.out hg)
  have HBv1_1 : Hid ((w1).heap[qv1]? = some (.cells #[.slice oCx n1 pCx, .slice oPx n2 pPx] 27)) := by show _ = _; rw [hW1, ← hz1]; exact heap_alloc_new _ _
  have HGv1 : Hid (w.heap.size ≤ qv1) := by show _ ≤ _; rw [← hz1]; exact hb0.size
  clear hb0 HOCx_0 HOPx_0 bw hW1 hz1
  obtain ⟨qv2, hqv2⟩ : ∃ q, q = qv1 + 1 := ⟨_, rfl⟩
  obtain ⟨w2, hW2⟩ : ∃ W, W = (w1).alloc (.cells #[.slice none 0 0, .slice none 0 0] 27) := ⟨_, rfl⟩
  have hz2 : (w1).heap.size = qv2 := by rw [hqv2]; exact hs1
  first | rw [← hW2, ← hqv2] | rw [← hW2]
  have hs2 : w2.heap.size = qv2 + 1 := by rw [hW2, ← hz2]; simp
  have bw : Below (w1).heap.size (w1) w2 := by rw [hW2]; exact (Below.refl _ _).alloc (Nat.le_refl _) _
  have hb2 : Below w.heap.size w (w2) := hb1.trans (bw.mono hb1.size)
  have HM2 : Hid ((w1).heap.size ≤ (w2).heap.size) := bw.size
  have HOCx_2 : Hid ((w2).ownsRow B 9 1 (.slice oCx n1 pCx) n1 (cs.map Value.string)) := owns_below HOCx_1.out bw (fun g hg => owns_lt HOCx_1.out hg)
  have HOPx_2 : Hid ((w2).ownsRow B 67 2 (.slice oPx n2 pPx) n2 (flatWrite ws)) := owns_below HOPx_1.out bw (fun g hg => owns_lt HOPx_1.out hg)
  have HBv1_2 : Hid ((w2).heap[qv1]? = some (.cells #[.slice oCx n1 pCx, .slice oPx n2 pPx] 27)) := blk_below HBv1_1.out bw
  have HNv1v2 : Hid (qv1 ≠ qv2) := fun e => by have h1 := (Array.getElem?_eq_some_iff.1 HBv1_1.out).1; omega
  have HBv2_2 : Hid ((w2).heap[qv2]? = some (.cells #[.slice none 0 0, .slice none 0 0] 27)) := by show _ = _; rw [hW2, ← hz2]; exact heap_alloc_new _ _
  have HGv2 : Hid (w.heap.size ≤ qv2) := by show _ ≤ _; rw [← hz2]; exact hb1.size
  clear hb1 HOCx_1 HOPx_1 HBv1_1 bw hW2 hz2
  clear hs2 hqv2 hs1 hqv1
  have cv1_0 : (w2).cell? ⟨qv1, 0, none⟩ = some (.slice oCx n1 pCx) := (cell_of HBv1_2.out 0).trans rfl
  have Acv1_0 : ∀ o, ((w2).alloc o).cell? ⟨qv1, 0, none⟩ = some (.slice oCx n1 pCx) := fun o => (cell_of (blk_below HBv1_2.out ((Below.refl _ _).alloc (Nat.le_refl _) o)) 0).trans rfl
  have Afcv1_0 : ∀ o, ((w2).alloc o).frozen? ⟨qv1, 0, none⟩ = false := fun o => frozen_of (blk_below HBv1_2.out ((Below.refl _ _).alloc (Nat.le_refl _) o)) 0
  have bA : Below w2.heap.size w2 (w2.alloc (.cells #[] 9)) := (Below.refl _ _).alloc (Nat.le_refl _) _
  have hown0 : (w2.alloc (.cells #[] 9)).ownsRow w.heap.size 9 1 (.slice (some ⟨w2.heap.size, 0, none⟩) 0 0) 0 [] := ⟨rfl, .inr ⟨_, 0, #[], rfl, hb2.size, heap_alloc_new _ _, Nat.le_refl _, Nat.zero_le _, rfl, rfl⟩⟩
  have h63 : 0 + n1 ≤ maxLen := by unfold maxLen; omega
  have h47 : (0 + n1) * 16 ≤ 140737488355328 := by omega
  have hbs : w.heap.size ≤ (w2.alloc (.cells #[] 9)).heap.size := Nat.le_trans hb2.size bA.size
  go_wp2_with (at_builtin; refine wpList_append_src (by rfl) _ _ _ (by rfl) w.heap.size 9 i0s (.string ⟨#[]⟩) 1 16 Try.underlying24 his hz0s hz1s hz2s rfl (by decide) _ _ _ (by rfl) hown0 _ _ _ (by rfl) (Src.texts (owns_below HOCx_2.out bA (fun g hg => owns_lt HOCx_2.out hg))) h63 h47 hbs ?_)
  intro v1 w3 hown1 hgrow
  have hown2 : w3.ownsRow w.heap.size 9 1 v1 n1 (cs.map Value.string) := by first | exact hown1 | (rw [Nat.zero_add, List.nil_append] at hown1; exact hown1) | simpa using hown1
  clear hown1
  clear cv1_0 Acv1_0 Afcv1_0
  have hb3 : Below w.heap.size w (w3) := (hb2.trans (bA.mono hb2.size)).grown hgrow hbs (fun g hg => owns_ge hown0 hg)
  have HM3 : Hid ((w2).heap.size ≤ w3.heap.size) := Nat.le_trans bA.size hgrow.size
  have HOCx_3 : Hid ((w3).ownsRow B 9 1 (.slice oCx n1 pCx) n1 (cs.map Value.string)) := owns_same HOCx_2.out (fun g hg => (hgrow.block g (Nat.lt_of_lt_of_le (owns_lt HOCx_2.out hg) bA.size) (fun e => by have h1 := owns_lt HOCx_2.out hg; simp [Value.ownBlock] at e; omega)).trans (bA.block g (owns_lt HOCx_2.out hg)))
  have HOPx_3 : Hid ((w3).ownsRow B 67 2 (.slice oPx n2 pPx) n2 (flatWrite ws)) := owns_same HOPx_2.out (fun g hg => (hgrow.block g (Nat.lt_of_lt_of_le (owns_lt HOPx_2.out hg) bA.size) (fun e => by have h1 := owns_lt HOPx_2.out hg; simp [Value.ownBlock] at e; omega)).trans (bA.block g (owns_lt HOPx_2.out hg)))
  have HBv1_3 : Hid ((w3).heap[qv1]? = some (.cells #[.slice oCx n1 pCx, .slice oPx n2 pPx] 27)) := (hgrow.block _ (Nat.lt_of_lt_of_le (Array.getElem?_eq_some_iff.1 HBv1_2.out).1 bA.size) (fun e => by have h1 := (Array.getElem?_eq_some_iff.1 HBv1_2.out).1; simp [Value.ownBlock] at e; omega)).trans (blk_below HBv1_2.out bA)
  have HBv2_3 : Hid ((w3).heap[qv2]? = some (.cells #[.slice none 0 0, .slice none 0 0] 27)) := (hgrow.block _ (Nat.lt_of_lt_of_le (Array.getElem?_eq_some_iff.1 HBv2_2.out).1 bA.size) (fun e => by have h1 := (Array.getElem?_eq_some_iff.1 HBv2_2.out).1; simp [Value.ownBlock] at e; omega)).trans (blk_below HBv2_2.out bA)
  obtain ⟨oE1p, pE1p, rfl⟩ := slice_of_owns hown2
  have HOE1p_3 : Hid ((w3).ownsRow w.heap.size 9 1 (.slice oE1p n1 pE1p) n1 (cs.map Value.string)) := hown2
  have LOE1p : Hid (∀ g, (Value.ownBlock (.slice oE1p n1 pE1p)) = some g → w.heap.size ≤ g) := fun g hg => owns_ge hown2 hg
  have HIE1p : Hid (∀ g, (Value.ownBlock (.slice oE1p n1 pE1p)) = some g → g < w3.heap.size) := fun g hg => owns_lt hown2 hg
  clear hb2 HOCx_2 HOPx_2 HBv1_2 HBv2_2 hown2 hgrow h63 h47 hbs hown0 bA
  go_upto_region 2 with fail
  obtain ⟨qv4, hqv4⟩ : ∃ q, q = (w3).heap.size := ⟨_, rfl⟩
  obtain ⟨w4, hW4⟩ : ∃ W, W = (w3).alloc (.cells #[.slice oE1p n1 pE1p, .slice none 0 0] 27) := ⟨_, rfl⟩
  have hz4 : (w3).heap.size = qv4 := hqv4.symm
  first | rw [← hW4, ← hqv4] | rw [← hW4]
  have hs4 : w4.heap.size = qv4 + 1 := by rw [hW4, ← hz4]; simp
  have bw : Below (w3).heap.size (w3) w4 := by rw [hW4]; exact (Below.refl _ _).alloc (Nat.le_refl _) _
  have hb4 : Below w.heap.size w (w4) := hb3.trans (bw.mono hb3.size)
  have HM4 : Hid ((w3).heap.size ≤ (w4).heap.size) := bw.size
  have HOCx_4 : Hid ((w4).ownsRow B 9 1 (.slice oCx n1 pCx) n1 (cs.map Value.string)) := owns_below HOCx_3.out bw (fun g hg => owns_lt HOCx_3.out hg)
  have HOPx_4 : Hid ((w4).ownsRow B 67 2 (.slice oPx n2 pPx) n2 (flatWrite ws)) := owns_below HOPx_3.out bw (fun g hg => owns_lt HOPx_3.out hg)
  have HOE1p_4 : Hid ((w4).ownsRow w.heap.size 9 1 (.slice oE1p n1 pE1p) n1 (cs.map Value.string)) := owns_below HOE1p_3.out bw (fun g hg => owns_lt HOE1p_3.out hg)
  have HBv1_4 : Hid ((w4).heap[qv1]? = some (.cells #[.slice oCx n1 pCx, .slice oPx n2 pPx] 27)) := blk_below HBv1_3.out bw
  have HBv2_4 : Hid ((w4).heap[qv2]? = some (.cells #[.slice none 0 0, .slice none 0 0] 27)) := blk_below HBv2_3.out bw
  have HNv1v4 : Hid (qv1 ≠ qv4) := fun e => by have h1 := (Array.getElem?_eq_some_iff.1 HBv1_3.out).1; omega
  have HNv2v4 : Hid (qv2 ≠ qv4) := fun e => by have h1 := (Array.getElem?_eq_some_iff.1 HBv2_3.out).1; omega
  have HBv4_4 : Hid ((w4).heap[qv4]? = some (.cells #[.slice oE1p n1 pE1p, .slice none 0 0] 27)) := by show _ = _; rw [hW4, ← hz4]; exact heap_alloc_new _ _
  have HGv4 : Hid (w.heap.size ≤ qv4) := by show _ ≤ _; rw [← hz4]; exact hb3.size
  clear hb3 HOCx_3 HOPx_3 HOE1p_3 HBv1_3 HBv2_3 bw hW4 hz4
  clear hs4 hqv4
  go_wp2_with fail
  go_loopw [8] (fun i wr => ∃ j : Nat, j ≤ n2 ∧ i = .int .i64 (j : Int) ∧ Hid (Below w.heap.size w (wr) ∧ (wr).heap[qv1]? = some (.cells #[.slice oCx n1 pCx, .slice oPx n2 pPx] 27) ∧ (wr).heap[qv2]? = some (.cells #[.slice none 0 0, .slice none 0 0] 27) ∧ (wr).heap[qv4]? = some (.cells #[.slice oE1p n1 pE1p, .slice none 0 0] 27) ∧ (wr).ownsRow B 9 1 (.slice oCx n1 pCx) n1 (cs.map Value.string) ∧ (wr).ownsRow B 67 2 (.slice oPx n2 pPx) n2 (flatWrite ws) ∧ (wr).ownsRow w.heap.size 9 1 (.slice oE1p n1 pE1p) n1 ((landTo cs ws (fun _ => true) j).map Value.string))) (fun i _ => n2 - (intOf i).toNat)
  case atStart => exact ⟨0, Nat.zero_le _, rfl, ⟨hb4, HBv1_4.out, HBv2_4.out, HBv4_4.out, HOCx_4.out, HOPx_4.out, HOE1p_4.out⟩⟩
  case round =>
    obtain ⟨j, hj, rfl, HW⟩ := hrel
    by_cases hlt : (j : Int) < (n2 : Int)
    · have hb5 := HW.out.1
      have HBv1_5 : Hid ((wr).heap[qv1]? = some (.cells #[.slice oCx n1 pCx, .slice oPx n2 pPx] 27)) := HW.out.2.1
      have HBv2_5 : Hid ((wr).heap[qv2]? = some (.cells #[.slice none 0 0, .slice none 0 0] 27)) := HW.out.2.2.1
      have HBv4_5 : Hid ((wr).heap[qv4]? = some (.cells #[.slice oE1p n1 pE1p, .slice none 0 0] 27)) := HW.out.2.2.2.1
      have HOCx_5 : Hid ((wr).ownsRow B 9 1 (.slice oCx n1 pCx) n1 (cs.map Value.string)) := HW.out.2.2.2.2.1
      have HOPx_5 : Hid ((wr).ownsRow B 67 2 (.slice oPx n2 pPx) n2 (flatWrite ws)) := HW.out.2.2.2.2.2.1
      have HOE1p_5 : Hid ((wr).ownsRow w.heap.size 9 1 (.slice oE1p n1 pE1p) n1 ((landTo cs ws (fun _ => true) j).map Value.string)) := HW.out.2.2.2.2.2.2
      clear HW hb4 HOCx_4 HOPx_4 HOE1p_4 HBv1_4 HBv2_4 HBv4_4
      have hjx : j < ws.length := by rw [HPL.out]; omega
      obtain ⟨g, rfl⟩ := owns_some HOPx_5.out (by omega)
      obtain ⟨y, hy⟩ : ∃ y, y = writeAt ws j := ⟨_, rfl⟩
      have HM : Hid (y ∈ ws) := by show _ ∈ _; rw [hy]; exact writeAt_mem ws j hjx
      have HTK : Hid (ws.take (j + 1) = ws.take j ++ [y]) := by show _ = _; rw [hy]; exact take_writeAt ws j hjx
      have HYE : Hid (writeAt ws j = y) := hy.symm
      clear hy hjx
      obtain ⟨y0, y1⟩ := y
      have HELPx : Hid (∀ W : World, (W).ownsRow B 67 2 (.slice (some ⟨g, 0, none⟩) n2 pPx) n2 (flatWrite ws) → (W.cell? ⟨g, j * 2, none⟩ = some (.int .i64 y0) ∧ W.cell? ⟨g, j * 2 + 1, none⟩ = some (.string y1))) := fun W h => by
        obtain ⟨g', hg, _, r0, r1⟩ := (write_view h).2 j (by omega)
        cases hg
        rw [HYE.out] at r0 r1
        exact ⟨r0, r1⟩
      obtain ⟨r0, r1⟩ := HELPx.out _ HOPx_5.out
      obtain ⟨m, hm⟩ : ∃ m : Nat, y0 = (m : Int) := ⟨y0.toNat, by have := HOK.out.2.2 _ HM.out; omega⟩
      subst hm
      have hm19 : (m : Int) < (n1 : Int) := by have h1 := HOK.out.2.2 _ HM.out; have h2 := HOK.out.1; rw [HCL.out] at h2; omega
      obtain ⟨gE, rfl⟩ := owns_some HOE1p_5.out (by omega)
      have HATE1p : Hid (((landTo cs ws (fun _ => true) j).map Value.string)[m]? = some (.string (textAt (landTo cs ws (fun _ => true) j) m))) := by show _ = _; rw [List.getElem?_map, getElem_textAt _ m (by rw [landTo_len, HCL.out]; omega)]; rfl
      have cv1_1 : (wr).cell? ⟨qv1, 1, none⟩ = some (.slice (some ⟨g, 0, none⟩) n2 pPx) := (cell_of HBv1_5.out 1).trans rfl
      go_upto_region 6 with fail
      clear cv1_1
      refine wp_region_held_drew (S := fun W => W.heap[qv4]? = some (.cells #[.slice (some ⟨gE, 0, none⟩) n1 pE1p, .slice none 0 0] 27) ∧ W.heap[qv1]? = some (.cells #[.slice oCx n1 pCx, .slice (some ⟨g, 0, none⟩) n2 pPx] 27) ∧ (W.cell? ⟨g, j * 2, none⟩ = some (.int .i64 (m : Int)) ∧ W.cell? ⟨g, j * 2 + 1, none⟩ = some (.string y1))) (by kernel_rfl) ⟨HBv4_5.out, HBv1_5.out, HELPx.out _ HOPx_5.out⟩ (fun _ => ?_)
      obtain ⟨w6, hX⟩ : ∃ X, X = wr.drew := ⟨_, rfl⟩
      have bw : Below wr.heap.size wr w6 := by rw [hX]; exact (Below.refl _ _).drew
      rw [← hX]
      have hb6 : Below w.heap.size w (w6) := hb5.trans (bw.mono hb5.size)
      have HM6 : Hid ((wr).heap.size ≤ (w6).heap.size) := bw.size
      have HOCx_6 : Hid ((w6).ownsRow B 9 1 (.slice oCx n1 pCx) n1 (cs.map Value.string)) := owns_below HOCx_5.out bw (fun g hg => owns_lt HOCx_5.out hg)
      have HOPx_6 : Hid ((w6).ownsRow B 67 2 (.slice (some ⟨g, 0, none⟩) n2 pPx) n2 (flatWrite ws)) := owns_below HOPx_5.out bw (fun g hg => owns_lt HOPx_5.out hg)
      have HOE1p_6 : Hid ((w6).ownsRow w.heap.size 9 1 (.slice (some ⟨gE, 0, none⟩) n1 pE1p) n1 ((landTo cs ws (fun _ => true) j).map Value.string)) := owns_below HOE1p_5.out bw (fun g hg => owns_lt HOE1p_5.out hg)
      have HBv1_6 : Hid ((w6).heap[qv1]? = some (.cells #[.slice oCx n1 pCx, .slice (some ⟨g, 0, none⟩) n2 pPx] 27)) := blk_below HBv1_5.out bw
      have HBv2_6 : Hid ((w6).heap[qv2]? = some (.cells #[.slice none 0 0, .slice none 0 0] 27)) := blk_below HBv2_5.out bw
      have HBv4_6 : Hid ((w6).heap[qv4]? = some (.cells #[.slice (some ⟨gE, 0, none⟩) n1 pE1p, .slice none 0 0] 27)) := blk_below HBv4_5.out bw
      have hS6 : w6.heap[qv4]? = some (.cells #[.slice (some ⟨gE, 0, none⟩) n1 pE1p, .slice none 0 0] 27) ∧ w6.heap[qv1]? = some (.cells #[.slice oCx n1 pCx, .slice (some ⟨g, 0, none⟩) n2 pPx] 27) ∧ (w6.cell? ⟨g, j * 2, none⟩ = some (.int .i64 (m : Int)) ∧ w6.cell? ⟨g, j * 2 + 1, none⟩ = some (.string y1)) := ⟨HBv4_6.out, HBv1_6.out, HELPx.out _ HOPx_6.out⟩
      clear hb5 HOCx_5 HOPx_5 HOE1p_5 HBv1_5 HBv2_5 HBv4_5 bw hX
      refine wpAnyH_takeD (i := 0) (v := .pointer (some ⟨qv4, 0, none⟩)) (some 34) rfl rfl (by kernel_rfl) (by kernel_rfl) (by kernel_rfl) (fun _ _ _ h => h) (Or.inl ⟨by rfl, by intro W _; go_simp⟩) hS6 ?_
      simp only [Act.put, List.setIfInBounds_toArray, List.set_cons_zero, List.set_cons_succ]
      refine wpAnyH_takeD (i := 1) (v := .slice (some ⟨gE, 0, none⟩) n1 pE1p) (some 35) rfl rfl (by kernel_rfl) (by kernel_rfl) (by kernel_rfl) (fun _ _ _ h => h) (Or.inl ⟨by rfl, by intro W hW; obtain ⟨hhv4, hhv1, hhE_Px⟩ := hW; have y0 := (cell_of hhv4 0).trans rfl; go_simp⟩) hS6 ?_
      simp only [Act.put, List.setIfInBounds_toArray, List.set_cons_zero, List.set_cons_succ]
      refine wpAnyH_takeD (i := 2) (v := .pointer (some ⟨qv1, 1, none⟩)) (some 36) rfl rfl (by kernel_rfl) (by kernel_rfl) (by kernel_rfl) (fun _ _ _ h => h) (Or.inl ⟨by rfl, by intro W _; go_simp⟩) hS6 ?_
      simp only [Act.put, List.setIfInBounds_toArray, List.set_cons_zero, List.set_cons_succ]
      refine wpAnyH_takeD (i := 3) (v := .slice (some ⟨g, 0, none⟩) n2 pPx) (some 37) rfl rfl (by kernel_rfl) (by kernel_rfl) (by kernel_rfl) (fun _ _ _ h => h) (Or.inl ⟨by rfl, by intro W hW; obtain ⟨hhv4, hhv1, hhE_Px⟩ := hW; have y1 := (cell_of hhv1 1).trans rfl; go_simp⟩) hS6 ?_
      simp only [Act.put, List.setIfInBounds_toArray, List.set_cons_zero, List.set_cons_succ]
      refine wpAnyH_takeD (i := 4) (v := .int .i64 (j : Int)) (some 38) rfl rfl (by kernel_rfl) (by kernel_rfl) (by kernel_rfl) (fun _ _ _ h => h) (Or.inl ⟨by rfl, by intro W _; go_simp⟩) hS6 ?_
      simp only [Act.put, List.setIfInBounds_toArray, List.set_cons_zero, List.set_cons_succ]
      refine wpAnyH_takeD (i := 5) (v := .pointer (some ⟨g, j * 2, none⟩)) (some 39) rfl rfl (by kernel_rfl) (by kernel_rfl) (by kernel_rfl) (fun _ _ _ h => h) (Or.inl ⟨by rfl, by intro W _; go_simp⟩) hS6 ?_
      simp only [Act.put, List.setIfInBounds_toArray, List.set_cons_zero, List.set_cons_succ]
      refine wpAnyH_takeD (i := 6) (v := .pointer (some ⟨g, j * 2, none⟩)) (some 40) rfl rfl (by kernel_rfl) (by kernel_rfl) (by kernel_rfl) (fun _ _ _ h => h) (Or.inl ⟨by rfl, by intro W _; go_simp⟩) hS6 ?_
      simp only [Act.put, List.setIfInBounds_toArray, List.set_cons_zero, List.set_cons_succ]
      refine wpAnyH_takeD (i := 7) (v := .int .i64 (m : Int)) (some 41) rfl rfl (by kernel_rfl) (by kernel_rfl) (by kernel_rfl) (fun _ _ _ h => h) (Or.inl ⟨by rfl, by intro W hW; obtain ⟨hhv4, hhv1, hhE_Px⟩ := hW; have y0 := hhE_Px.1; go_simp⟩) hS6 ?_
      simp only [Act.put, List.setIfInBounds_toArray, List.set_cons_zero, List.set_cons_succ]
      refine wpAnyH_takeD (i := 8) (v := .pointer (some ⟨qv1, 1, none⟩)) (some 42) rfl rfl (by kernel_rfl) (by kernel_rfl) (by kernel_rfl) (fun _ _ _ h => h) (Or.inl ⟨by rfl, by intro W _; go_simp⟩) hS6 ?_
      simp only [Act.put, List.setIfInBounds_toArray, List.set_cons_zero, List.set_cons_succ]
      refine wpAnyH_takeD (i := 9) (v := .slice (some ⟨g, 0, none⟩) n2 pPx) (some 43) rfl rfl (by kernel_rfl) (by kernel_rfl) (by kernel_rfl) (fun _ _ _ h => h) (Or.inl ⟨by rfl, by intro W hW; obtain ⟨hhv4, hhv1, hhE_Px⟩ := hW; have y1 := (cell_of hhv1 1).trans rfl; go_simp⟩) hS6 ?_
      simp only [Act.put, List.setIfInBounds_toArray, List.set_cons_zero, List.set_cons_succ]
      refine wpAnyH_takeD (i := 10) (v := .int .i64 (j : Int)) (some 44) rfl rfl (by kernel_rfl) (by kernel_rfl) (by kernel_rfl) (fun _ _ _ h => h) (Or.inl ⟨by rfl, by intro W _; go_simp⟩) hS6 ?_
      simp only [Act.put, List.setIfInBounds_toArray, List.set_cons_zero, List.set_cons_succ]
      refine wpAnyH_takeD (i := 11) (v := .pointer (some ⟨g, j * 2, none⟩)) (some 45) rfl rfl (by kernel_rfl) (by kernel_rfl) (by kernel_rfl) (fun _ _ _ h => h) (Or.inl ⟨by rfl, by intro W _; go_simp⟩) hS6 ?_
      simp only [Act.put, List.setIfInBounds_toArray, List.set_cons_zero, List.set_cons_succ]
      refine wpAnyH_takeD (i := 12) (v := .pointer (some ⟨g, j * 2 + 1, none⟩)) (some 46) rfl rfl (by kernel_rfl) (by kernel_rfl) (by kernel_rfl) (fun _ _ _ h => h) (Or.inl ⟨by rfl, by intro W _; go_simp⟩) hS6 ?_
      simp only [Act.put, List.setIfInBounds_toArray, List.set_cons_zero, List.set_cons_succ]
      refine wpAnyH_takeD (i := 13) (v := .string y1) (some 47) rfl rfl (by kernel_rfl) (by kernel_rfl) (by kernel_rfl) (fun _ _ _ h => h) (Or.inl ⟨by rfl, by intro W hW; obtain ⟨hhv4, hhv1, hhE_Px⟩ := hW; have y1 := hhE_Px.2; go_simp⟩) hS6 ?_
      simp only [Act.put, List.setIfInBounds_toArray, List.set_cons_zero, List.set_cons_succ]
      refine wpAnyH_takeD (i := 14) (v := .pointer (some ⟨gE, m, none⟩)) (some 48) rfl rfl (by kernel_rfl) (by kernel_rfl) (by kernel_rfl) (fun _ _ _ h => h) (Or.inl ⟨by rfl, by intro W _; go_simp⟩) hS6 ?_
      simp only [Act.put, List.setIfInBounds_toArray, List.set_cons_zero, List.set_cons_succ]
      refine wpAnyH_ready (rs := [15]) (by kernel_rfl) (by simp) ?_
      refine AllReadyH.cons rfl (fun K hK => ?_) AllReadyH.nil
      obtain ⟨ceR, feR⟩ := owns_at HOE1p_6.out m _ HATE1p.out
      obtain ⟨w7, hY⟩ : ∃ Y, Y = w6.setCell ⟨gE, m, none⟩ (.string y1) := ⟨_, rfl⟩
      have HY : Hid (w6.setCell ⟨gE, m, none⟩ (.string y1) = w7) := hY.symm
      have hb7 : Below w.heap.size w (w7) := by rw [hY]; exact hb6.setCell (p := ⟨gE, m, none⟩) (owns_ge HOE1p_6.out rfl) _
      have HM7 : Hid ((w6).heap.size ≤ w7.heap.size) := by show _ ≤ _; rw [hY]; simp
      have HOCx_7 : Hid ((w7).ownsRow B 9 1 (.slice oCx n1 pCx) n1 (cs.map Value.string)) := by show World.ownsRow _ _ _ _ _ _ _; rw [hY]; exact owns_same HOCx_6.out (fun g hg => heap_setCell_other _ _ g _ (fun e => (fun e => by have h1 := LOE1p.out g e; have h2 := HICx.out g hg; have := HM1.out; have := HM2.out; have := HM3.out; omega) (show (Value.ownBlock (.slice (some ⟨gE, 0, none⟩) n1 pE1p)) = some g by rw [e]; rfl)))
      have HOPx_7 : Hid ((w7).ownsRow B 67 2 (.slice (some ⟨g, 0, none⟩) n2 pPx) n2 (flatWrite ws)) := by show World.ownsRow _ _ _ _ _ _ _; rw [hY]; exact owns_same HOPx_6.out (fun g hg => heap_setCell_other _ _ g _ (fun e => (own_type_ne HOPx_6.out HOE1p_6.out (by decide) g hg) (show (Value.ownBlock (.slice (some ⟨gE, 0, none⟩) n1 pE1p)) = some g by rw [e]; rfl)))
      have HBv1_7 : Hid ((w7).heap[qv1]? = some (.cells #[.slice oCx n1 pCx, .slice (some ⟨g, 0, none⟩) n2 pPx] 27)) := by show _ = _; rw [hY]; exact (heap_setCell_other _ _ qv1 _ (fun e => own_ne HOE1p_6.out HBv1_6.out (by decide) gE rfl e.symm)).trans HBv1_6.out
      have HBv2_7 : Hid ((w7).heap[qv2]? = some (.cells #[.slice none 0 0, .slice none 0 0] 27)) := by show _ = _; rw [hY]; exact (heap_setCell_other _ _ qv2 _ (fun e => own_ne HOE1p_6.out HBv2_6.out (by decide) gE rfl e.symm)).trans HBv2_6.out
      have HBv4_7 : Hid ((w7).heap[qv4]? = some (.cells #[.slice (some ⟨gE, 0, none⟩) n1 pE1p, .slice none 0 0] 27)) := by show _ = _; rw [hY]; exact (heap_setCell_other _ _ qv4 _ (fun e => own_ne HOE1p_6.out HBv4_6.out (by decide) gE rfl e.symm)).trans HBv4_6.out
      have HOE1p_7 : Hid ((w7).ownsRow w.heap.size 9 1 (.slice (some ⟨gE, 0, none⟩) n1 pE1p) n1 (((landTo cs ws (fun _ => true) j).set m y1).map Value.string)) := by show World.ownsRow _ _ _ _ _ _ _; rw [hY, List.map_set]; exact owns_put HOE1p_6.out _ _
      clear hY hb6 HOCx_6 HOPx_6 HOE1p_6 HBv1_6 HBv2_6 HBv4_6
      go_simp
      rw [HY.out]
      have hS7 : w7.heap[qv4]? = some (.cells #[.slice (some ⟨gE, 0, none⟩) n1 pE1p, .slice none 0 0] 27) ∧ w7.heap[qv1]? = some (.cells #[.slice oCx n1 pCx, .slice (some ⟨g, 0, none⟩) n2 pPx] 27) ∧ (w7.cell? ⟨g, j * 2, none⟩ = some (.int .i64 (m : Int)) ∧ w7.cell? ⟨g, j * 2 + 1, none⟩ = some (.string y1)) := ⟨HBv4_7.out, HBv1_7.out, HELPx.out _ HOPx_7.out⟩
      refine hK.out _ _ hS7 (fun _ => ?_)
      clear hK K HY hS6 ceR feR
      clear hS7
      refine wpAnyH_done (by kernel_rfl) ?_ _
      have HLT : Hid (landTo cs ws (fun _ => true) (j + 1) = ((landTo cs ws (fun _ => true) j).set m y1)) := by
        show _ = _
        rw [landTo, if_pos rfl, HYE.out]; rfl
      have HOQ : Hid ((w7).ownsRow w.heap.size 9 1 (.slice (some ⟨gE, 0, none⟩) n1 pE1p) n1 ((landTo cs ws (fun _ => true) (j + 1)).map Value.string)) := by show World.ownsRow _ _ _ _ _ _ _; rw [HLT.out]; exact HOE1p_7.out
      go_wp2_with fail
      go_roundw
      case rel => exact ⟨j + 1, by omega, by go_num, ⟨hb7, HBv1_7.out, HBv2_7.out, HBv4_7.out, HOCx_7.out, HOPx_7.out, HOQ.out⟩⟩
      case measure => simp [intOf]; omega
    · have hb5 := HW.out.1
      have HBv1_5 : Hid ((wr).heap[qv1]? = some (.cells #[.slice oCx n1 pCx, .slice oPx n2 pPx] 27)) := HW.out.2.1
      have HBv2_5 : Hid ((wr).heap[qv2]? = some (.cells #[.slice none 0 0, .slice none 0 0] 27)) := HW.out.2.2.1
      have HBv4_5 : Hid ((wr).heap[qv4]? = some (.cells #[.slice oE1p n1 pE1p, .slice none 0 0] 27)) := HW.out.2.2.2.1
      have HOCx_5 : Hid ((wr).ownsRow B 9 1 (.slice oCx n1 pCx) n1 (cs.map Value.string)) := HW.out.2.2.2.2.1
      have HOPx_5 : Hid ((wr).ownsRow B 67 2 (.slice oPx n2 pPx) n2 (flatWrite ws)) := HW.out.2.2.2.2.2.1
      have HOE1p_5 : Hid ((wr).ownsRow w.heap.size 9 1 (.slice oE1p n1 pE1p) n1 ((landTo cs ws (fun _ => true) j).map Value.string)) := HW.out.2.2.2.2.2.2
      clear HW hb4 HOCx_4 HOPx_4 HOE1p_4 HBv1_4 HBv2_4 HBv4_4
      have hjn : j = n2 := by omega
      have HJN : Hid (j = n2) := hjn
      clear hjn
      have cv1_1 : (wr).cell? ⟨qv1, 1, none⟩ = some (.slice oPx n2 pPx) := (cell_of HBv1_5.out 1).trans rfl
      have cv2_0 : (wr).cell? ⟨qv2, 0, none⟩ = some (.slice none 0 0) := (cell_of HBv2_5.out 0).trans rfl
      have fcv2_0 : (wr).frozen? ⟨qv2, 0, none⟩ = false := frozen_of HBv2_5.out 0
      have cv2_1 : (wr).cell? ⟨qv2, 1, none⟩ = some (.slice none 0 0) := (cell_of HBv2_5.out 1).trans rfl
      have fcv2_1 : (wr).frozen? ⟨qv2, 1, none⟩ = false := frozen_of HBv2_5.out 1
      have cv4_0 : (wr).cell? ⟨qv4, 0, none⟩ = some (.slice oE1p n1 pE1p) := (cell_of HBv4_5.out 0).trans rfl
      have cv4_1 : (wr).cell? ⟨qv4, 1, none⟩ = some (.slice none 0 0) := (cell_of HBv4_5.out 1).trans rfl
      go_wp2_with fail
      obtain ⟨w6, hW6⟩ : ∃ W, W = (wr).setCell ⟨qv2, 0, none⟩ (.slice oE1p n1 pE1p) := ⟨_, rfl⟩
      rw [← hW6]
      have hb6 : Below w.heap.size w (w6) := by rw [hW6]; exact (hb5.setCell (p := ⟨qv2, 0, none⟩) HGv2.out _)
      have HM6 : Hid ((wr).heap.size ≤ w6.heap.size) := by show _ ≤ _; rw [hW6]; simp
      have HOCx_6 : Hid ((w6).ownsRow B 9 1 (.slice oCx n1 pCx) n1 (cs.map Value.string)) := by show World.ownsRow _ _ _ _ _ _ _; rw [hW6]; exact owns_same HOCx_5.out (fun g hg => heap_setCell_other _ _ g _ (own_ne HOCx_5.out HBv2_5.out (by decide) g hg))
      have HOPx_6 : Hid ((w6).ownsRow B 67 2 (.slice oPx n2 pPx) n2 (flatWrite ws)) := by show World.ownsRow _ _ _ _ _ _ _; rw [hW6]; exact owns_same HOPx_5.out (fun g hg => heap_setCell_other _ _ g _ (own_ne HOPx_5.out HBv2_5.out (by decide) g hg))
      have HOE1p_6 : Hid ((w6).ownsRow w.heap.size 9 1 (.slice oE1p n1 pE1p) n1 ((landTo cs ws (fun _ => true) j).map Value.string)) := by show World.ownsRow _ _ _ _ _ _ _; rw [hW6]; exact owns_same HOE1p_5.out (fun g hg => heap_setCell_other _ _ g _ (own_ne HOE1p_5.out HBv2_5.out (by decide) g hg))
      have HBv1_6 : Hid ((w6).heap[qv1]? = some (.cells #[.slice oCx n1 pCx, .slice oPx n2 pPx] 27)) := by show _ = _; rw [hW6, heap_setCell_other _ _ _ _ HNv1v2.out]; exact HBv1_5.out
      have HBv4_6 : Hid ((w6).heap[qv4]? = some (.cells #[.slice oE1p n1 pE1p, .slice none 0 0] 27)) := by show _ = _; rw [hW6, heap_setCell_other _ _ _ _ HNv2v4.out.symm]; exact HBv4_5.out
      have HBv2_6 : Hid ((w6).heap[qv2]? = some (.cells #[.slice oE1p n1 pE1p, .slice none 0 0] 27)) := by show _ = _; rw [hW6]; have h := heap_set _ _ 0 _ _ _ (.slice oE1p n1 pE1p) HBv2_5.out; simpa using h
      clear hb5 HOCx_5 HOPx_5 HOE1p_5 HBv1_5 HBv2_5 HBv4_5 hW6
      obtain ⟨w7, hW7⟩ : ∃ W, W = (w6).setCell ⟨qv2, 1, none⟩ (.slice none 0 0) := ⟨_, rfl⟩
      rw [← hW7]
      have hb7 : Below w.heap.size w (w7) := by rw [hW7]; exact (hb6.setCell (p := ⟨qv2, 1, none⟩) HGv2.out _)
      have HM7 : Hid ((w6).heap.size ≤ w7.heap.size) := by show _ ≤ _; rw [hW7]; simp
      have HOCx_7 : Hid ((w7).ownsRow B 9 1 (.slice oCx n1 pCx) n1 (cs.map Value.string)) := by show World.ownsRow _ _ _ _ _ _ _; rw [hW7]; exact owns_same HOCx_6.out (fun g hg => heap_setCell_other _ _ g _ (own_ne HOCx_6.out HBv2_6.out (by decide) g hg))
      have HOPx_7 : Hid ((w7).ownsRow B 67 2 (.slice oPx n2 pPx) n2 (flatWrite ws)) := by show World.ownsRow _ _ _ _ _ _ _; rw [hW7]; exact owns_same HOPx_6.out (fun g hg => heap_setCell_other _ _ g _ (own_ne HOPx_6.out HBv2_6.out (by decide) g hg))
      have HOE1p_7 : Hid ((w7).ownsRow w.heap.size 9 1 (.slice oE1p n1 pE1p) n1 ((landTo cs ws (fun _ => true) j).map Value.string)) := by show World.ownsRow _ _ _ _ _ _ _; rw [hW7]; exact owns_same HOE1p_6.out (fun g hg => heap_setCell_other _ _ g _ (own_ne HOE1p_6.out HBv2_6.out (by decide) g hg))
      have HBv1_7 : Hid ((w7).heap[qv1]? = some (.cells #[.slice oCx n1 pCx, .slice oPx n2 pPx] 27)) := by show _ = _; rw [hW7, heap_setCell_other _ _ _ _ HNv1v2.out]; exact HBv1_6.out
      have HBv4_7 : Hid ((w7).heap[qv4]? = some (.cells #[.slice oE1p n1 pE1p, .slice none 0 0] 27)) := by show _ = _; rw [hW7, heap_setCell_other _ _ _ _ HNv2v4.out.symm]; exact HBv4_6.out
      have HBv2_7 : Hid ((w7).heap[qv2]? = some (.cells #[.slice oE1p n1 pE1p, .slice none 0 0] 27)) := by show _ = _; rw [hW7]; have h := heap_set _ _ 1 _ _ _ (.slice none 0 0) HBv2_6.out; simpa using h
      clear hb6 HOCx_6 HOPx_6 HOE1p_6 HBv1_6 HBv2_6 HBv4_6 hW7
      have kv2_0 : (w7).cell? ⟨qv2, 0, none⟩ = some (.slice oE1p n1 pE1p) := (cell_of HBv2_7.out 0).trans rfl
      have kv2_1 : (w7).cell? ⟨qv2, 1, none⟩ = some (.slice none 0 0) := (cell_of HBv2_7.out 1).trans rfl
      refine bodyPost_ret (v := .agg #[.slice oE1p n1 pE1p, .slice none 0 0]) (by simp [results, Try.results43, go_sem, kv2_0, kv2_1]) rfl ?_
      exact ⟨_, _, rfl, ⟨by rw [landTo_len, HCL.out, HPL.out, ← HJN.out]; exact HOE1p_7.out, World.ownsRow_nil _ _ _ _⟩, hb7⟩

set_option maxHeartbeats 8000000 in
set_option maxRecDepth 100000 in
theorem specFlush_any (v1 v2 : Value) (n1 : Nat) (cs : List ByteArray) (n2 : Nat) (ws : List (Int × ByteArray)) (B : Nat) (w : World) (h : DiskO w B v1 n1 cs v2 n2 ws) (hn1 : n1 ≤ 2000000) (hn2 : n2 ≤ 2000000) :
    Calls Try.prog 26 #[.agg #[v1, v2]] w fun e w' => DiskIs (landC cs ws (fun _ => true)) [] w e w' := by
  obtain ⟨oCx, pCx, rfl⟩ := slice_of_owns h.cells
  have HOCx_0 : Hid ((w).ownsRow B 9 1 (.slice oCx n1 pCx) n1 (cs.map Value.string)) := h.cells
  have HICx : Hid (∀ g, (Value.ownBlock (.slice oCx n1 pCx)) = some g → g < w.heap.size) := fun g hg => owns_lt h.cells hg
  obtain ⟨oPx, pPx, rfl⟩ := slice_of_owns h.pend
  have HOPx_0 : Hid ((w).ownsRow B 67 2 (.slice oPx n2 pPx) n2 (flatWrite ws)) := h.pend
  have HIPx : Hid (∀ g, (Value.ownBlock (.slice oPx n2 pPx)) = some g → g < w.heap.size) := fun g hg => owns_lt h.pend hg
  clear h
  have hb0 : Below w.heap.size w w := Below.refl _ _
  go_enter Try.func26, Try.ntmps26
  go_upto_region 1 with fail
  obtain ⟨qv1, hqv1⟩ : ∃ q, q = (w).heap.size := ⟨_, rfl⟩
  obtain ⟨w1, hW1⟩ : ∃ W, W = (w).alloc (.cells #[.slice oCx n1 pCx, .slice oPx n2 pPx] 27) := ⟨_, rfl⟩
  have hz1 : (w).heap.size = qv1 := hqv1.symm
  first | rw [← hW1, ← hqv1] | rw [← hW1]
  have hs1 : w1.heap.size = qv1 + 1 := by rw [hW1, ← hz1]; simp
  have bw : Below (w).heap.size (w) w1 := by rw [hW1]; exact (Below.refl _ _).alloc (Nat.le_refl _) _
  have hb1 : Below w.heap.size w (w1) := hb0.trans (bw.mono hb0.size)
  have HM1 : Hid ((w).heap.size ≤ (w1).heap.size) := bw.size
  have HOCx_1 : Hid ((w1).ownsRow B 9 1 (.slice oCx n1 pCx) n1 (cs.map Value.string)) := owns_below HOCx_0.out bw (fun g hg => owns_lt HOCx_0.out hg)
  have HOPx_1 : Hid ((w1).ownsRow B 67 2 (.slice oPx n2 pPx) n2 (flatWrite ws)) := owns_below HOPx_0.out bw (fun g hg => owns_lt HOPx_0.out hg)
  have HBv1_1 : Hid ((w1).heap[qv1]? = some (.cells #[.slice oCx n1 pCx, .slice oPx n2 pPx] 27)) := by show _ = _; rw [hW1, ← hz1]; exact heap_alloc_new _ _
  have HGv1 : Hid (w.heap.size ≤ qv1) := by show _ ≤ _; rw [← hz1]; exact hb0.size
  clear hb0 HOCx_0 HOPx_0 bw hW1 hz1
  obtain ⟨qv2, hqv2⟩ : ∃ q, q = qv1 + 1 := ⟨_, rfl⟩
  obtain ⟨w2, hW2⟩ : ∃ W, W = (w1).alloc (.cells #[.slice none 0 0, .slice none 0 0] 27) := ⟨_, rfl⟩
  have hz2 : (w1).heap.size = qv2 := by rw [hqv2]; exact hs1
  first | rw [← hW2, ← hqv2] | rw [← hW2]
  have hs2 : w2.heap.size = qv2 + 1 := by rw [hW2, ← hz2]; simp
  have bw : Below (w1).heap.size (w1) w2 := by rw [hW2]; exact (Below.refl _ _).alloc (Nat.le_refl _) _
  have hb2 : Below w.heap.size w (w2) := hb1.trans (bw.mono hb1.size)
  have HM2 : Hid ((w1).heap.size ≤ (w2).heap.size) := bw.size
  have HOCx_2 : Hid ((w2).ownsRow B 9 1 (.slice oCx n1 pCx) n1 (cs.map Value.string)) := owns_below HOCx_1.out bw (fun g hg => owns_lt HOCx_1.out hg)
  have HOPx_2 : Hid ((w2).ownsRow B 67 2 (.slice oPx n2 pPx) n2 (flatWrite ws)) := owns_below HOPx_1.out bw (fun g hg => owns_lt HOPx_1.out hg)
  have HBv1_2 : Hid ((w2).heap[qv1]? = some (.cells #[.slice oCx n1 pCx, .slice oPx n2 pPx] 27)) := blk_below HBv1_1.out bw
  have HNv1v2 : Hid (qv1 ≠ qv2) := fun e => by have h1 := (Array.getElem?_eq_some_iff.1 HBv1_1.out).1; omega
  have HBv2_2 : Hid ((w2).heap[qv2]? = some (.cells #[.slice none 0 0, .slice none 0 0] 27)) := by show _ = _; rw [hW2, ← hz2]; exact heap_alloc_new _ _
  have HGv2 : Hid (w.heap.size ≤ qv2) := by show _ ≤ _; rw [← hz2]; exact hb1.size
  clear hb1 HOCx_1 HOPx_1 HBv1_1 bw hW2 hz2
  clear hs2 hqv2 hs1 hqv1
  have cv1_0 : (w2).cell? ⟨qv1, 0, none⟩ = some (.slice oCx n1 pCx) := (cell_of HBv1_2.out 0).trans rfl
  have cv1_1 : (w2).cell? ⟨qv1, 1, none⟩ = some (.slice oPx n2 pPx) := (cell_of HBv1_2.out 1).trans rfl
  go_wp2_with fail
  refine (specDiskOk_any _ _ n1 cs n2 ws B _ ⟨HOCx_2.out, HOPx_2.out⟩ hn1 hn2).mono ?_
  rintro e w3 ⟨uo, rfl, htuo, bw⟩
  have hb3 : Below w.heap.size w (w3) := hb2.trans (bw.mono hb2.size)
  have HM3 : Hid ((w2).heap.size ≤ (w3).heap.size) := bw.size
  have HOCx_3 : Hid ((w3).ownsRow B 9 1 (.slice oCx n1 pCx) n1 (cs.map Value.string)) := owns_below HOCx_2.out bw (fun g hg => owns_lt HOCx_2.out hg)
  have HOPx_3 : Hid ((w3).ownsRow B 67 2 (.slice oPx n2 pPx) n2 (flatWrite ws)) := owns_below HOPx_2.out bw (fun g hg => owns_lt HOPx_2.out hg)
  have HBv1_3 : Hid ((w3).heap[qv1]? = some (.cells #[.slice oCx n1 pCx, .slice oPx n2 pPx] 27)) := blk_below HBv1_2.out bw
  have HBv2_3 : Hid ((w3).heap[qv2]? = some (.cells #[.slice none 0 0, .slice none 0 0] 27)) := blk_below HBv2_2.out bw
  clear hb2 HOCx_2 HOPx_2 HBv1_2 HBv2_2 bw
  clear cv1_0 cv1_1
  cases uo with
  | false =>
    have HNK : Hid (¬ DiskP cs ws) := fun h => nomatch htuo.2 h
    clear htuo
    have cv2_0 : (w3).cell? ⟨qv2, 0, none⟩ = some (.slice none 0 0) := (cell_of HBv2_3.out 0).trans rfl
    have fcv2_0 : (w3).frozen? ⟨qv2, 0, none⟩ = false := frozen_of HBv2_3.out 0
    have cv2_1 : (w3).cell? ⟨qv2, 1, none⟩ = some (.slice none 0 0) := (cell_of HBv2_3.out 1).trans rfl
    have fcv2_1 : (w3).frozen? ⟨qv2, 1, none⟩ = false := frozen_of HBv2_3.out 1
    go_wp2_with fail
    obtain ⟨w4, hW4⟩ : ∃ W, W = (w3).setCell ⟨qv2, 0, none⟩ (.slice none 0 0) := ⟨_, rfl⟩
    rw [← hW4]
    have hb4 : Below w.heap.size w (w4) := by rw [hW4]; exact (hb3.setCell (p := ⟨qv2, 0, none⟩) HGv2.out _)
    have HM4 : Hid ((w3).heap.size ≤ w4.heap.size) := by show _ ≤ _; rw [hW4]; simp
    have HOCx_4 : Hid ((w4).ownsRow B 9 1 (.slice oCx n1 pCx) n1 (cs.map Value.string)) := by show World.ownsRow _ _ _ _ _ _ _; rw [hW4]; exact owns_same HOCx_3.out (fun g hg => heap_setCell_other _ _ g _ (own_ne HOCx_3.out HBv2_3.out (by decide) g hg))
    have HOPx_4 : Hid ((w4).ownsRow B 67 2 (.slice oPx n2 pPx) n2 (flatWrite ws)) := by show World.ownsRow _ _ _ _ _ _ _; rw [hW4]; exact owns_same HOPx_3.out (fun g hg => heap_setCell_other _ _ g _ (own_ne HOPx_3.out HBv2_3.out (by decide) g hg))
    have HBv1_4 : Hid ((w4).heap[qv1]? = some (.cells #[.slice oCx n1 pCx, .slice oPx n2 pPx] 27)) := by show _ = _; rw [hW4, heap_setCell_other _ _ _ _ HNv1v2.out]; exact HBv1_3.out
    have HBv2_4 : Hid ((w4).heap[qv2]? = some (.cells #[.slice none 0 0, .slice none 0 0] 27)) := by show _ = _; rw [hW4]; have h := heap_set _ _ 0 _ _ _ (.slice none 0 0) HBv2_3.out; simpa using h
    clear hb3 HOCx_3 HOPx_3 HBv1_3 HBv2_3 hW4
    obtain ⟨w5, hW5⟩ : ∃ W, W = (w4).setCell ⟨qv2, 1, none⟩ (.slice none 0 0) := ⟨_, rfl⟩
    rw [← hW5]
    have hb5 : Below w.heap.size w (w5) := by rw [hW5]; exact (hb4.setCell (p := ⟨qv2, 1, none⟩) HGv2.out _)
    have HM5 : Hid ((w4).heap.size ≤ w5.heap.size) := by show _ ≤ _; rw [hW5]; simp
    have HOCx_5 : Hid ((w5).ownsRow B 9 1 (.slice oCx n1 pCx) n1 (cs.map Value.string)) := by show World.ownsRow _ _ _ _ _ _ _; rw [hW5]; exact owns_same HOCx_4.out (fun g hg => heap_setCell_other _ _ g _ (own_ne HOCx_4.out HBv2_4.out (by decide) g hg))
    have HOPx_5 : Hid ((w5).ownsRow B 67 2 (.slice oPx n2 pPx) n2 (flatWrite ws)) := by show World.ownsRow _ _ _ _ _ _ _; rw [hW5]; exact owns_same HOPx_4.out (fun g hg => heap_setCell_other _ _ g _ (own_ne HOPx_4.out HBv2_4.out (by decide) g hg))
    have HBv1_5 : Hid ((w5).heap[qv1]? = some (.cells #[.slice oCx n1 pCx, .slice oPx n2 pPx] 27)) := by show _ = _; rw [hW5, heap_setCell_other _ _ _ _ HNv1v2.out]; exact HBv1_4.out
    have HBv2_5 : Hid ((w5).heap[qv2]? = some (.cells #[.slice none 0 0, .slice none 0 0] 27)) := by show _ = _; rw [hW5]; have h := heap_set _ _ 1 _ _ _ (.slice none 0 0) HBv2_4.out; simpa using h
    clear hb4 HOCx_4 HOPx_4 HBv1_4 HBv2_4 hW5
    have kv2_0 : (w5).cell? ⟨qv2, 0, none⟩ = some (.slice none 0 0) := (cell_of HBv2_5.out 0).trans rfl
    have kv2_1 : (w5).cell? ⟨qv2, 1, none⟩ = some (.slice none 0 0) := (cell_of HBv2_5.out 1).trans rfl
    refine bodyPost_ret (v := .agg #[.slice none 0 0, .slice none 0 0]) (by simp [results, Try.results26, go_sem, kv2_0, kv2_1]) rfl ?_
    rw [landC_no HNK.out]
    exact ⟨_, _, rfl, diskO_nil _ _, hb5⟩
  | true =>
    have HOK : Hid (DiskP cs ws) := htuo.1 rfl
    clear htuo
    have cv1_0 : (w3).cell? ⟨qv1, 0, none⟩ = some (.slice oCx n1 pCx) := (cell_of HBv1_3.out 0).trans rfl
    have cv1_1 : (w3).cell? ⟨qv1, 1, none⟩ = some (.slice oPx n2 pPx) := (cell_of HBv1_3.out 1).trans rfl
    go_wp2_with fail
    refine (l12Land_all _ _ n1 cs n2 ws B _ ⟨HOCx_3.out, HOPx_3.out⟩ hn1 hn2 HOK.out).mono ?_
    rintro e w4 ⟨vv1, vv2, rfl, ⟨ownC1, ownP1⟩, bw⟩
    obtain ⟨oC1, pC1, rfl⟩ := slice_of_owns ownC1
    replace ownP1 := (show World.ownsRow _ _ _ _ vv2 0 _ from ownP1)
    obtain ⟨oP1, pP1, rfl⟩ := slice_of_owns ownP1
    have hb4 : Below w.heap.size w (w4) := hb3.trans (bw.mono hb3.size)
    have HM4 : Hid ((w3).heap.size ≤ (w4).heap.size) := bw.size
    have HOCx_4 : Hid ((w4).ownsRow B 9 1 (.slice oCx n1 pCx) n1 (cs.map Value.string)) := owns_below HOCx_3.out bw (fun g hg => owns_lt HOCx_3.out hg)
    have HOPx_4 : Hid ((w4).ownsRow B 67 2 (.slice oPx n2 pPx) n2 (flatWrite ws)) := owns_below HOPx_3.out bw (fun g hg => owns_lt HOPx_3.out hg)
    have HBv1_4 : Hid ((w4).heap[qv1]? = some (.cells #[.slice oCx n1 pCx, .slice oPx n2 pPx] 27)) := blk_below HBv1_3.out bw
    have HBv2_4 : Hid ((w4).heap[qv2]? = some (.cells #[.slice none 0 0, .slice none 0 0] 27)) := blk_below HBv2_3.out bw
    have HOC1_4 : Hid ((w4).ownsRow w.heap.size 9 1 (.slice oC1 (landTo cs ws (fun _ => true) ws.length).length pC1) (landTo cs ws (fun _ => true) ws.length).length ((landTo cs ws (fun _ => true) ws.length).map Value.string)) := owns_wide ownC1 hb3.size
    have LOC1 : Hid (∀ g, (Value.ownBlock (.slice oC1 (landTo cs ws (fun _ => true) ws.length).length pC1)) = some g → (w3).heap.size ≤ g) := fun g hg => owns_ge ownC1 hg
    have HIC1 : Hid (∀ g, (Value.ownBlock (.slice oC1 (landTo cs ws (fun _ => true) ws.length).length pC1)) = some g → g < (w4).heap.size) := fun g hg => owns_lt ownC1 hg
    clear ownC1
    have HOP1_4 : Hid ((w4).ownsRow w.heap.size 67 2 (.slice oP1 0 pP1) 0 (flatWrite [])) := owns_wide ownP1 hb3.size
    have LOP1 : Hid (∀ g, (Value.ownBlock (.slice oP1 0 pP1)) = some g → (w3).heap.size ≤ g) := fun g hg => owns_ge ownP1 hg
    have HIP1 : Hid (∀ g, (Value.ownBlock (.slice oP1 0 pP1)) = some g → g < (w4).heap.size) := fun g hg => owns_lt ownP1 hg
    clear ownP1
    clear hb3 HOCx_3 HOPx_3 HBv1_3 HBv2_3 bw
    clear cv1_0 cv1_1
    have cv2_0 : (w4).cell? ⟨qv2, 0, none⟩ = some (.slice none 0 0) := (cell_of HBv2_4.out 0).trans rfl
    have fcv2_0 : (w4).frozen? ⟨qv2, 0, none⟩ = false := frozen_of HBv2_4.out 0
    have cv2_1 : (w4).cell? ⟨qv2, 1, none⟩ = some (.slice none 0 0) := (cell_of HBv2_4.out 1).trans rfl
    have fcv2_1 : (w4).frozen? ⟨qv2, 1, none⟩ = false := frozen_of HBv2_4.out 1
    go_wp2_with fail
    obtain ⟨w5, hW5⟩ : ∃ W, W = (w4).setCell ⟨qv2, 0, none⟩ (.slice oC1 (landTo cs ws (fun _ => true) ws.length).length pC1) := ⟨_, rfl⟩
    rw [← hW5]
    have hb5 : Below w.heap.size w (w5) := by rw [hW5]; exact (hb4.setCell (p := ⟨qv2, 0, none⟩) HGv2.out _)
    have HM5 : Hid ((w4).heap.size ≤ w5.heap.size) := by show _ ≤ _; rw [hW5]; simp
    have HOCx_5 : Hid ((w5).ownsRow B 9 1 (.slice oCx n1 pCx) n1 (cs.map Value.string)) := by show World.ownsRow _ _ _ _ _ _ _; rw [hW5]; exact owns_same HOCx_4.out (fun g hg => heap_setCell_other _ _ g _ (own_ne HOCx_4.out HBv2_4.out (by decide) g hg))
    have HOPx_5 : Hid ((w5).ownsRow B 67 2 (.slice oPx n2 pPx) n2 (flatWrite ws)) := by show World.ownsRow _ _ _ _ _ _ _; rw [hW5]; exact owns_same HOPx_4.out (fun g hg => heap_setCell_other _ _ g _ (own_ne HOPx_4.out HBv2_4.out (by decide) g hg))
    have HOC1_5 : Hid ((w5).ownsRow w.heap.size 9 1 (.slice oC1 (landTo cs ws (fun _ => true) ws.length).length pC1) (landTo cs ws (fun _ => true) ws.length).length ((landTo cs ws (fun _ => true) ws.length).map Value.string)) := by show World.ownsRow _ _ _ _ _ _ _; rw [hW5]; exact owns_same HOC1_4.out (fun g hg => heap_setCell_other _ _ g _ (own_ne HOC1_4.out HBv2_4.out (by decide) g hg))
    have HOP1_5 : Hid ((w5).ownsRow w.heap.size 67 2 (.slice oP1 0 pP1) 0 (flatWrite [])) := by show World.ownsRow _ _ _ _ _ _ _; rw [hW5]; exact owns_same HOP1_4.out (fun g hg => heap_setCell_other _ _ g _ (own_ne HOP1_4.out HBv2_4.out (by decide) g hg))
    have HBv1_5 : Hid ((w5).heap[qv1]? = some (.cells #[.slice oCx n1 pCx, .slice oPx n2 pPx] 27)) := by show _ = _; rw [hW5, heap_setCell_other _ _ _ _ HNv1v2.out]; exact HBv1_4.out
    have HBv2_5 : Hid ((w5).heap[qv2]? = some (.cells #[.slice oC1 (landTo cs ws (fun _ => true) ws.length).length pC1, .slice none 0 0] 27)) := by show _ = _; rw [hW5]; have h := heap_set _ _ 0 _ _ _ (.slice oC1 (landTo cs ws (fun _ => true) ws.length).length pC1) HBv2_4.out; simpa using h
    clear hb4 HOCx_4 HOPx_4 HOC1_4 HOP1_4 HBv1_4 HBv2_4 hW5
    obtain ⟨w6, hW6⟩ : ∃ W, W = (w5).setCell ⟨qv2, 1, none⟩ (.slice oP1 0 pP1) := ⟨_, rfl⟩
    rw [← hW6]
    have hb6 : Below w.heap.size w (w6) := by rw [hW6]; exact (hb5.setCell (p := ⟨qv2, 1, none⟩) HGv2.out _)
    have HM6 : Hid ((w5).heap.size ≤ w6.heap.size) := by show _ ≤ _; rw [hW6]; simp
    have HOCx_6 : Hid ((w6).ownsRow B 9 1 (.slice oCx n1 pCx) n1 (cs.map Value.string)) := by show World.ownsRow _ _ _ _ _ _ _; rw [hW6]; exact owns_same HOCx_5.out (fun g hg => heap_setCell_other _ _ g _ (own_ne HOCx_5.out HBv2_5.out (by decide) g hg))
    have HOPx_6 : Hid ((w6).ownsRow B 67 2 (.slice oPx n2 pPx) n2 (flatWrite ws)) := by show World.ownsRow _ _ _ _ _ _ _; rw [hW6]; exact owns_same HOPx_5.out (fun g hg => heap_setCell_other _ _ g _ (own_ne HOPx_5.out HBv2_5.out (by decide) g hg))
    have HOC1_6 : Hid ((w6).ownsRow w.heap.size 9 1 (.slice oC1 (landTo cs ws (fun _ => true) ws.length).length pC1) (landTo cs ws (fun _ => true) ws.length).length ((landTo cs ws (fun _ => true) ws.length).map Value.string)) := by show World.ownsRow _ _ _ _ _ _ _; rw [hW6]; exact owns_same HOC1_5.out (fun g hg => heap_setCell_other _ _ g _ (own_ne HOC1_5.out HBv2_5.out (by decide) g hg))
    have HOP1_6 : Hid ((w6).ownsRow w.heap.size 67 2 (.slice oP1 0 pP1) 0 (flatWrite [])) := by show World.ownsRow _ _ _ _ _ _ _; rw [hW6]; exact owns_same HOP1_5.out (fun g hg => heap_setCell_other _ _ g _ (own_ne HOP1_5.out HBv2_5.out (by decide) g hg))
    have HBv1_6 : Hid ((w6).heap[qv1]? = some (.cells #[.slice oCx n1 pCx, .slice oPx n2 pPx] 27)) := by show _ = _; rw [hW6, heap_setCell_other _ _ _ _ HNv1v2.out]; exact HBv1_5.out
    have HBv2_6 : Hid ((w6).heap[qv2]? = some (.cells #[.slice oC1 (landTo cs ws (fun _ => true) ws.length).length pC1, .slice oP1 0 pP1] 27)) := by show _ = _; rw [hW6]; have h := heap_set _ _ 1 _ _ _ (.slice oP1 0 pP1) HBv2_5.out; simpa using h
    clear hb5 HOCx_5 HOPx_5 HOC1_5 HOP1_5 HBv1_5 HBv2_5 hW6
    have kv2_0 : (w6).cell? ⟨qv2, 0, none⟩ = some (.slice oC1 (landTo cs ws (fun _ => true) ws.length).length pC1) := (cell_of HBv2_6.out 0).trans rfl
    have kv2_1 : (w6).cell? ⟨qv2, 1, none⟩ = some (.slice oP1 0 pP1) := (cell_of HBv2_6.out 1).trans rfl
    refine bodyPost_ret (v := .agg #[.slice oC1 (landTo cs ws (fun _ => true) ws.length).length pC1, .slice oP1 0 pP1]) (by simp [results, Try.results26, go_sem, kv2_0, kv2_1]) rfl ?_
    rw [landC_yes HOK.out]
    exact ⟨_, _, rfl, ⟨HOC1_6.out, HOP1_6.out⟩, hb6⟩

end Go.Proofs.Ytckjbgpdbehmaaa

namespace Go.Proofs.Ytckjbgpdbehmaaa
open Go.RowKit Go.WideShapes
open Go.Lib hiding intOf

set_option maxRecDepth 100000 in
theorem openDisk {H : Type} {enc : TypeId × Value → H} {W : World} {r : Reach} {b0 : Nat} {v : Value} {d : DataW H} {ps : List MemPlace} (hval : Value.okWide Try.prog W r b0 46 v) (h : DataW.Trod enc Try.prog W 0 (fun _ => true) true 46 v d ps) :
    ∃ (a1 : Option Addr) (n1 c1 : Nat) (cs : List ByteArray) (a2 : Option Addr) (n2 c2 : Nat) (ws : List (Int × ByteArray)), v = .agg #[.slice a1 n1 c1, .slice a2 n2 c2] ∧ ArgT W W.heap.size a1 n1 cs ∧ ArgWrite W W.heap.size a2 n2 ws ∧ n1 ≤ maxLen ∧ n2 ≤ maxLen ∧ (∀ i, i < n1 → (textAt cs i).size ≤ maxLen) ∧ ∀ x ∈ ws, (x.2).size ≤ maxLen := by
  obtain ⟨cs, rfl, hsz⟩ := okWide_struct Try.underlying46 hval
  obtain ⟨fuel, hf⟩ := h
  obtain ⟨ys, q, _, _, _, hyl, hg⟩ := DataW.trod_struct Try.underlying46 hf
  have hc2 : Try.prog.cellsOf 46 = 2 := by kernel_rfl
  have eS : Try.prog.cellsOf 24 = 1 := by kernel_rfl
  have eW : Try.prog.cellsOf 44 = 1 := by kernel_rfl
  rw [hc2] at hsz
  obtain ⟨l⟩ := cs
  obtain ⟨d0, d1, rfl⟩ : ∃ d0 d1, l = [d0, d1] := by
    match l, hsz with
    | [d0, d1], _ => exact ⟨d0, d1, rfl⟩
  have g0 := hg 0 _ rfl
  have g1 := hg 1 _ rfl
  simp [Value.cells, eS, eW] at g0 g1
  have hy2 : ys.length = 2 := hyl
  rw [List.getElem?_eq_getElem (show 0 < ys.length by omega)] at g0
  rw [List.getElem?_eq_getElem (show 1 < ys.length by omega)] at g1
  obtain ⟨a1, n1, c1, rfl⟩ : ∃ a n cap, d0 = .slice a n cap := by
    rcases DataW.trod_slice Try.underlying24 g0 with ⟨h, _⟩ | ⟨a, n, cap, _, _, _, _, h, _⟩
    · exact ⟨none, 0, 0, by simpa using h⟩
    · exact ⟨_, n, cap, by simpa using h⟩
  obtain ⟨a2, n2, c2, rfl⟩ : ∃ a n cap, d1 = .slice a n cap := by
    rcases DataW.trod_slice Try.underlying44 g1 with ⟨h, _⟩ | ⟨a, n, cap, _, _, _, _, h, _⟩
    · exact ⟨none, 0, 0, by simpa using h⟩
    · exact ⟨_, n, cap, by simpa using h⟩
  obtain ⟨xs, x1, x2, x3⟩ := openTexts g0
  obtain ⟨ws, y1, y2, y3⟩ := openWriteS g1
  exact ⟨a1, n1, c1, xs, a2, n2, c2, ws, rfl, x1, y1, x2, y2, x3, y3⟩

end Go.Proofs.Ytckjbgpdbehmaaa

namespace Go.Proofs.Ytckjbgpdbehmaaa
open Go.RowKit
open Go.Lib hiding intOf

/-- Texts as an array's cells. -/
def cellsA (l : List ByteArray) : Array Value := (l.map Value.string).toArray
/-- Twenty empty texts. -/
def noneA : List ByteArray := List.replicate 20 ⟨#[]⟩
/-- The cells with one written. -/
def withP (l : List ByteArray) (x : Int) (t : ByteArray) : List ByteArray := if 0 ≤ x ∧ x < 20 then l.set x.toNat t else l
/-- A call answers an array of texts. -/
def ArrIs (l : List ByteArray) (w : World) (e : Ending) (w' : World) : Prop := e = .returned (.agg (cellsA l)) ∧ Below w.heap.size w w'
theorem cellsA_size (l : List ByteArray) : (cellsA l).size = l.length := by simp [cellsA]
theorem cellsA_at (l : List ByteArray) (i : Nat) (h : i < l.length) : (cellsA l)[i]? = some (.string (textAt l i)) := by
  unfold cellsA
  rw [List.getElem?_toArray, List.getElem?_map, getElem_textAt l i h]
  rfl
theorem cellsA_set (l : List ByteArray) (i : Nat) (t : ByteArray) : (cellsA l).setIfInBounds i (.string t) = cellsA (l.set i t) := by
  unfold cellsA
  rw [List.setIfInBounds_toArray, List.map_set]
theorem noneA_len : noneA.length = 20 := rfl
theorem noneA_cells : cellsA noneA = #[.string ⟨#[]⟩, .string ⟨#[]⟩, .string ⟨#[]⟩, .string ⟨#[]⟩, .string ⟨#[]⟩, .string ⟨#[]⟩, .string ⟨#[]⟩, .string ⟨#[]⟩, .string ⟨#[]⟩, .string ⟨#[]⟩, .string ⟨#[]⟩, .string ⟨#[]⟩, .string ⟨#[]⟩, .string ⟨#[]⟩, .string ⟨#[]⟩, .string ⟨#[]⟩, .string ⟨#[]⟩, .string ⟨#[]⟩, .string ⟨#[]⟩, .string ⟨#[]⟩] := rfl
theorem withP_len (l : List ByteArray) (x : Int) (t : ByteArray) : (withP l x t).length = l.length := by
  unfold withP
  split
  · exact List.length_set
  · rfl
theorem infoA {l : List ByteArray} (h : l.length = 20) : (Try.prog.info? 64).map (·.size) = some (cellsA l).size := by
  rw [cellsA_size, h]
  kernel_rfl
theorem cellsA_one (l : List ByteArray) : (cellsA l).all (·.oneCell') = true := by
  unfold cellsA
  rw [List.all_toArray, List.all_eq_true]
  intro v hv
  obtain ⟨a, _, rfl⟩ := List.mem_map.1 hv
  rfl
theorem below_setRow {B : Nat} {a w : World} (h : Below B a w) (g : Nat) (cs : Array Value) (hg : B ≤ g) : Below B a (w.setRow g cs) :=
  h.trans ⟨rfl, rfl, rfl, by simp, fun k hk => setRow_other w g k cs (by omega)⟩
theorem new1 {w : World} {A B C : Obj} : (((w.alloc A).alloc B).alloc C).heap[w.heap.size]? = some A := blk_alloc (blk_alloc (heap_alloc_new w A) B) C
theorem new2 {w : World} {A B C : Obj} : (((w.alloc A).alloc B).alloc C).heap[w.heap.size + 1]? = some B := blk_alloc (heap_alloc2_new w A B) C
theorem new3 {w : World} {A B C : Obj} : (((w.alloc A).alloc B).alloc C).heap[w.heap.size + 1 + 1]? = some C := by
  have h := heap_alloc_new ((w.alloc A).alloc B) C
  have e : ((w.alloc A).alloc B).heap.size = w.heap.size + 1 + 1 := by simp
  rwa [e] at h
theorem new_below {w : World} {A B C : Obj} : Below w.heap.size w (((w.alloc A).alloc B).alloc C) :=
  (((Below.refl _ _).alloc (Nat.le_refl _) _).alloc (by simp) _).alloc (by simp; omega) _

set_option maxHeartbeats 4000000 in
theorem with_any (l : List ByteArray) (hl : l.length = 20) (x : Int) (t : ByteArray) (w : World) :
    Calls Try.prog 41 #[.agg (cellsA l), .agg #[.int .i64 x, .string t]] w fun e w' => ArrIs (withP l x t) w e w' := by
  have HL : Hid (l.length = 20) := hl
  have HLW : Hid ((withP l x t).length = 20) := (withP_len l x t).trans hl
  clear hl
  go_enter Try.func41, Try.ntmps41
  go_upto_region 1 with fail
  obtain ⟨w3, hw3⟩ : ∃ W, W = ((w.alloc (.cells (cellsA l) 64)).alloc (.cells #[.int .i64 x, .string t] 67)).alloc (.cells #[.string ⟨#[]⟩, .string ⟨#[]⟩, .string ⟨#[]⟩, .string ⟨#[]⟩, .string ⟨#[]⟩, .string ⟨#[]⟩, .string ⟨#[]⟩, .string ⟨#[]⟩, .string ⟨#[]⟩, .string ⟨#[]⟩, .string ⟨#[]⟩, .string ⟨#[]⟩, .string ⟨#[]⟩, .string ⟨#[]⟩, .string ⟨#[]⟩, .string ⟨#[]⟩, .string ⟨#[]⟩, .string ⟨#[]⟩, .string ⟨#[]⟩, .string ⟨#[]⟩] 64) := ⟨_, rfl⟩
  rw [← hw3]
  have HBW : Hid (Below w.heap.size w w3) := by rw [hw3]; exact new_below
  have hA : w3.heap[w.heap.size]? = some (.cells (cellsA l) 64) := by rw [hw3]; exact new1
  have hB : w3.heap[w.heap.size + 1]? = some (.cells #[.int .i64 x, .string t] 67) := by rw [hw3]; exact new2
  have hC : w3.heap[w.heap.size + 1 + 1]? = some (.cells (cellsA noneA) 64) := by rw [hw3]; exact new3
  obtain ⟨q, hq⟩ : ∃ q, q = w.heap.size := ⟨_, rfl⟩
  have HQ : Hid (w.heap.size ≤ q) := by rw [hq]; exact Nat.le_refl _
  rw [← hq] at hA hB hC
  rw [← hq]
  have HA : Hid (w3.heap[q]? = some (.cells (cellsA l) 64)) := hA
  have HC : Hid (w3.heap[q + 1 + 1]? = some (.cells (cellsA noneA) 64)) := hC
  have c0 := (cell_of hB 0)
  have c1 := (cell_of hB 1)
  simp only [List.getElem?_toArray, List.getElem?_cons_zero, List.getElem?_cons_succ] at c0 c1
  clear hw3 hA hB hC hq
  by_cases h0 : 0 ≤ x
  · by_cases h1 : x < 20
    · have HE : Hid (withP l x t = l.set x.toNat t) := by unfold withP; rw [Hid, if_pos ⟨h0, h1⟩]
      have c2 : w3.cell? ⟨q, x.toNat, none⟩ = some (.string (textAt l x.toNat)) := (cell_of HA.out _).trans (cellsA_at l _ (by rw [HL.out]; omega))
      have c3 := frozen_of HA.out x.toNat
      go_upto_region 3 with fail
      obtain ⟨w4, hw4⟩ : ∃ W, W = w3.setCell ⟨q, x.toNat, none⟩ (.string t) := ⟨_, rfl⟩
      rw [← hw4]
      have HA4 : Hid (w4.heap[q]? = some (.cells (cellsA (withP l x t)) 64)) := by
        rw [Hid, hw4, HE.out, ← cellsA_set]
        exact heap_setCell_same w3 q _ _ 64 _ HA.out
      have HC4 : Hid (w4.heap[q + 1 + 1]? = some (.cells (cellsA noneA) 64)) := by
        rw [Hid, hw4, heap_setCell_other w3 _ _ _ (by simp; omega)]
        exact HC.out
      have HB4 : Hid (Below w.heap.size w w4) := by rw [hw4]; exact HBW.out.setCell HQ.out _
      clear hw4 HA HC HBW c0 c1 c2 c3 h0 h1
      go_wp2_with (first | refine wpList_load_row rfl 64 _ rfl q rfl 64 _ (0, 0) _ HA4.out Try.underlying64 rfl (infoA HLW.out) ?_ | refine wpList_store_row rfl 64 _ _ rfl (q + 1 + 1) _ rfl rfl 64 _ HC4.out (infoA HLW.out) (by rw [cellsA_size, cellsA_size, HLW.out, noneA_len]) (cellsA_one _) ?_)
      exact bodyPost_ret (v := .agg (cellsA (withP l x t))) (results_cell_row Try.results41 _ _ (q + 1 + 1) 64 _ (0, 0) _ rfl (setRow_heap _ _ _ _ _ _ HC4.out) Try.underlying64 rfl (infoA HLW.out)) rfl ⟨rfl, below_setRow HB4.out _ _ (Nat.le_trans HQ.out (by omega))⟩
    · have HE : Hid (withP l x t = l) := by unfold withP; rw [Hid, if_neg (fun h => h1 h.2)]
      go_upto_region 3 with fail
      clear c0 c1 h0 h1
      rw [← HE.out] at HA
      go_wp2_with (first | refine wpList_load_row rfl 64 _ rfl q rfl 64 _ (0, 0) _ HA.out Try.underlying64 rfl (infoA HLW.out) ?_ | refine wpList_store_row rfl 64 _ _ rfl (q + 1 + 1) _ rfl rfl 64 _ HC.out (infoA HLW.out) (by rw [cellsA_size, cellsA_size, HLW.out, noneA_len]) (cellsA_one _) ?_)
      exact bodyPost_ret (v := .agg (cellsA (withP l x t))) (results_cell_row Try.results41 _ _ (q + 1 + 1) 64 _ (0, 0) _ rfl (setRow_heap _ _ _ _ _ _ HC.out) Try.underlying64 rfl (infoA HLW.out)) rfl ⟨rfl, below_setRow HBW.out _ _ (Nat.le_trans HQ.out (by omega))⟩
  · have HE : Hid (withP l x t = l) := by unfold withP; rw [Hid, if_neg (fun h => h0 h.1)]
    go_upto_region 3 with fail
    clear c0 c1 h0
    rw [← HE.out] at HA
    go_wp2_with (first | refine wpList_load_row rfl 64 _ rfl q rfl 64 _ (0, 0) _ HA.out Try.underlying64 rfl (infoA HLW.out) ?_ | refine wpList_store_row rfl 64 _ _ rfl (q + 1 + 1) _ rfl rfl 64 _ HC.out (infoA HLW.out) (by rw [cellsA_size, cellsA_size, HLW.out, noneA_len]) (cellsA_one _) ?_)
    exact bodyPost_ret (v := .agg (cellsA (withP l x t))) (results_cell_row Try.results41 _ _ (q + 1 + 1) 64 _ (0, 0) _ rfl (setRow_heap _ _ _ _ _ _ HC.out) Try.underlying64 rfl (infoA HLW.out)) rfl ⟨rfl, below_setRow HBW.out _ _ (Nat.le_trans HQ.out (by omega))⟩

set_option maxHeartbeats 8000000 in
theorem withAll_any (l : List ByteArray) (hl : l.length = 20) (o : Option Addr) (n c : Nat) (ws : List (Int × ByteArray)) (w : World) (h : WriteA w o n ws) (hn : n ≤ 2000000) (hok : ∀ x ∈ ws, 0 ≤ x.1 ∧ x.1 ≤ 19) :
    Calls Try.prog 46 #[.agg (cellsA l), .slice o n c] w fun e w' => ArrIs (landTo l ws (fun _ => true) ws.length) w e w' := by
  have HL : Hid (l.length = 20) := hl
  have HW : Hid (WriteA w o n ws) := h
  have HOK : Hid (∀ x ∈ ws, 0 ≤ x.1 ∧ x.1 ≤ 19) := hok
  have HLT : Hid (∀ k, (landTo l ws (fun _ => true) k).length = 20) := fun k => (landTo_len l ws _ k).trans hl
  clear hl h hok
  go_enter Try.func46, Try.ntmps46
  go_upto_region 1 with fail
  obtain ⟨w2, hw2⟩ : ∃ W, W = (w.alloc (.cells (cellsA l) 64)).alloc (.cells #[.string ⟨#[]⟩, .string ⟨#[]⟩, .string ⟨#[]⟩, .string ⟨#[]⟩, .string ⟨#[]⟩, .string ⟨#[]⟩, .string ⟨#[]⟩, .string ⟨#[]⟩, .string ⟨#[]⟩, .string ⟨#[]⟩, .string ⟨#[]⟩, .string ⟨#[]⟩, .string ⟨#[]⟩, .string ⟨#[]⟩, .string ⟨#[]⟩, .string ⟨#[]⟩, .string ⟨#[]⟩, .string ⟨#[]⟩, .string ⟨#[]⟩, .string ⟨#[]⟩] 64) := ⟨_, rfl⟩
  rw [← hw2]
  have hBW : Below w.heap.size w w2 := by rw [hw2]; exact ((Below.refl _ _).alloc (Nat.le_refl _) _).alloc (by simp) _
  have hA : w2.heap[w.heap.size]? = some (.cells (cellsA l) 64) := by rw [hw2]; exact blk_alloc (heap_alloc_new _ _) _
  have hC : w2.heap[w.heap.size + 1]? = some (.cells (cellsA noneA) 64) := by rw [hw2]; exact heap_alloc2_new _ _ _
  obtain ⟨q, hq⟩ : ∃ q, q = w.heap.size := ⟨_, rfl⟩
  have HQ : Hid (w.heap.size = q) := hq.symm
  rw [← hq] at hA hC
  rw [← hq]
  have H0 : Hid (Below w.heap.size w w2 ∧ w2.heap[q]? = some (.cells (cellsA l) 64) ∧ w2.heap[q + 1]? = some (.cells (cellsA noneA) 64)) := ⟨hBW, hA, hC⟩
  clear hw2 hBW hA hC hq
  go_wp2_with fail
  go_loopw [9] (fun i wr => ∃ j : Nat, j ≤ n ∧ i = .int .i64 (j : Int) ∧ Hid (Below w.heap.size w wr ∧ wr.heap[q]? = some (.cells (cellsA (landTo l ws (fun _ => true) j)) 64) ∧ wr.heap[q + 1]? = some (.cells (cellsA noneA) 64))) (fun i _ => n - (intOf i).toNat)
  case atStart => exact ⟨0, Nat.zero_le _, rfl, H0⟩
  case round =>
    obtain ⟨j, hj, rfl, H1⟩ := hrel
    clear H0
    by_cases hlt : (j : Int) < (n : Int)
    · have hjx : j < ws.length := by rw [HW.out.1]; omega
      obtain ⟨g, rfl, hg, r0, r1⟩ := (HW.out.below (H1.out.1)).2 j (by omega)
      obtain ⟨y, hy⟩ : ∃ y, y = writeAt ws j := ⟨_, rfl⟩
      have HLE : Hid (landTo l ws (fun _ => true) (j + 1) = withP (landTo l ws (fun _ => true) j) y.1 y.2) := by
        have hm := HOK.out _ (writeAt_mem ws j hjx)
        rw [Hid, hy, withP, if_pos ⟨hm.1, by omega⟩, landTo, if_pos rfl]
      rw [← hy] at r0 r1
      obtain ⟨y0, y1⟩ := y
      simp only at r0 r1
      clear hy hjx
      go_upto_region 4 with fail
      go_wp2_with (first | refine wpList_load_row rfl 64 _ rfl q rfl 64 _ (0, 0) _ (blk_alloc H1.out.2.1 _) Try.underlying64 rfl (infoA (HLT.out j)) ?_)
      refine (with_any (landTo l ws (fun _ => true) j) (HLT.out j) y0 y1 _).mono ?_
      rintro e w4 ⟨rfl, bw⟩
      have hA4 := blk_below (blk_alloc H1.out.2.1 _) bw
      have HBW : Hid (Below w.heap.size w w4) := (H1.out.1.alloc H1.out.1.size _).trans (bw.mono (Nat.le_trans H1.out.1.size (by simp)))
      have HC4 : Hid (w4.heap[q + 1]? = some (.cells (cellsA noneA) 64)) := blk_below (blk_alloc H1.out.2.2 _) bw
      have HA4 : Hid (w4.heap[q]? = some (.cells (cellsA (landTo l ws (fun _ => true) j)) 64)) := hA4
      have HLS : Hid ((withP (landTo l ws (fun _ => true) j) y0 y1).length = 20) := (withP_len _ _ _).trans (HLT.out j)
      clear bw hA4 H1 r0 r1
      go_wp2_with (first | refine wpList_store_row rfl 64 _ _ rfl q _ rfl rfl 64 _ HA4.out (infoA HLS.out) (by rw [cellsA_size, cellsA_size, HLS.out, (HLT.out j)]) (cellsA_one _) ?_)
      have HE : Hid (Below w.heap.size w (w4.setRow q (cellsA (withP (landTo l ws (fun _ => true) j) y0 y1))) ∧ (w4.setRow q (cellsA (withP (landTo l ws (fun _ => true) j) y0 y1))).heap[q]? = some (.cells (cellsA (landTo l ws (fun _ => true) (j + 1))) 64) ∧ (w4.setRow q (cellsA (withP (landTo l ws (fun _ => true) j) y0 y1))).heap[q + 1]? = some (.cells (cellsA noneA) 64)) := by
        refine ⟨below_setRow HBW.out _ _ (Nat.le_of_eq HQ.out), ?_, ?_⟩
        · rw [HLE.out]; exact setRow_heap _ _ _ _ _ _ HA4.out
        · rw [setRow_other _ _ _ _ (by omega)]; exact HC4.out
      go_roundw
      case rel => exact ⟨j + 1, by omega, by go_num, HE⟩
      case measure => simp [intOf]; omega
    · obtain rfl : j = n := by omega
      have HLE : Hid (ws.length = j) := HW.out.1
      go_upto_region 6 with fail
      go_wp2_with (first | refine wpList_load_row rfl 64 _ rfl q rfl 64 _ (0, 0) _ H1.out.2.1 Try.underlying64 rfl (infoA (HLT.out j)) ?_ | refine wpList_store_row rfl 64 _ _ rfl (q + 1) _ rfl rfl 64 _ H1.out.2.2 (infoA (HLT.out j)) (by rw [cellsA_size, cellsA_size, (HLT.out j), noneA_len]) (cellsA_one _) ?_)
      rw [HLE.out]
      exact bodyPost_ret (v := .agg (cellsA (landTo l ws (fun _ => true) j))) (results_cell_row Try.results46 _ _ (q + 1) 64 _ (0, 0) _ rfl (setRow_heap _ _ _ _ _ _ H1.out.2.2) Try.underlying64 rfl (infoA (HLT.out j))) rfl ⟨rfl, below_setRow H1.out.1 _ _ (Nat.le_trans (Nat.le_of_eq HQ.out) (by omega))⟩

end Go.Proofs.Ytckjbgpdbehmaaa

namespace Go.Proofs.Ytckjbgpdbehmaaa
open Go.RowKit
open Go.Lib hiding intOf

/-- Every write is to a cell. -/
def AllIn (ws : List (Int × ByteArray)) : Prop := ∀ x ∈ ws, 0 ≤ x.1 ∧ x.1 ≤ 19
theorem guardA : Try.prog.eqGuardType Try.prog.depth 64 = false := by kernel_rfl
theorem equalA (xs ys : List ByteArray) (hx : xs.length = 20) (hy : ys.length = 20) (w : World) :
    (Op.equalIn 10000 64 (.agg (cellsA xs)) (.agg (cellsA ys))).run Try.prog w = .ok ((List.range' 0 20 1).all (fun i => (textAt xs i).toList == (textAt ys i).toList)) w := by
  rw [show (10000 : Nat) = 9999 + 1 from rfl, Op.equalIn]
  simp only [Sem.run_bind, run_underlying Try.underlying64, Result.andThen_ok, Try.sizeOf9, Std.Legacy.Range.forIn_eq_forIn_range', Std.Legacy.Range.size, Nat.sub_zero, Nat.add_sub_cancel, Nat.div_one]
  have hl : ∀ i ∈ List.range' 0 20 1, i < 20 := fun i hi => by simpa using (List.mem_range'_1.1 hi).2
  generalize List.range' 0 20 1 = l at hl ⊢
  induction l with
  | nil => simp
  | cons i l ih =>
    have hi : i < 20 := hl i (by simp)
    have px : ∀ zs : List ByteArray, zs.length = 20 → (part 9 (cellsA zs) (i * 1)).run Try.prog w = .ok (.string (textAt zs i)) w := fun zs hz => by
      simp [part, Try.isAgg9, cellsA_at zs i (by omega)]
    have pe : (Op.equalIn 9999 9 (.string (textAt xs i)) (.string (textAt ys i))).run Try.prog w = .ok ((textAt xs i).toList == (textAt ys i).toList) w := run_equalIn_string w 9998 9 _ _ Try.underlying9
    simp only [List.forIn_cons, Sem.run_bind, px xs hx, px ys hy, pe, Result.andThen_ok, List.all_cons]
    cases hb : ((textAt xs i).toList == (textAt ys i).toList)
    · simp
    · simp only [Bool.not_true, Bool.false_eq_true, if_false, Sem.run_pure, Result.andThen_ok, Bool.true_and]
      exact ih fun j hj => hl j (by simp [hj])
theorem neqA (xs ys : List ByteArray) (hx : xs.length = 20) (hy : ys.length = 20) (w : World) :
    (binOp .neq 64 (.agg (cellsA xs)) (.agg (cellsA ys))).run Try.prog w = .ok (.bool (!((List.range' 0 20 1).all (fun i => (textAt xs i).toList == (textAt ys i).toList)))) w := by
  rw [run_neq_struct, equalA xs ys hx hy]
  rfl
theorem neq_in (x : Int) (h : 0 ≤ x ∧ x ≤ 19) (w : World) : (binOp .neq 64 (.agg (cellsA (withP noneA x ⟨#[120]⟩))) (.agg #[.string ⟨#[]⟩, .string ⟨#[]⟩, .string ⟨#[]⟩, .string ⟨#[]⟩, .string ⟨#[]⟩, .string ⟨#[]⟩, .string ⟨#[]⟩, .string ⟨#[]⟩, .string ⟨#[]⟩, .string ⟨#[]⟩, .string ⟨#[]⟩, .string ⟨#[]⟩, .string ⟨#[]⟩, .string ⟨#[]⟩, .string ⟨#[]⟩, .string ⟨#[]⟩, .string ⟨#[]⟩, .string ⟨#[]⟩, .string ⟨#[]⟩, .string ⟨#[]⟩])).run Try.prog w = .ok (.bool true) w := by
  have h1 := neqA (withP noneA x ⟨#[120]⟩) noneA (withP_len _ _ _) rfl w
  rw [noneA_cells] at h1
  rw [h1]
  have h2 : textAt (withP noneA x ⟨#[120]⟩) x.toNat = ⟨#[120]⟩ := by
    unfold withP
    rw [if_pos ⟨h.1, by omega⟩, textAt_set, if_pos ⟨rfl, by rw [noneA_len]; omega⟩]
  have h3 : textAt noneA x.toNat = ⟨#[]⟩ := by
    unfold textAt noneA
    rw [List.getD_eq_getElem?_getD, List.getElem?_replicate, if_pos (by omega)]
    rfl
  have h4 : ((List.range' 0 20 1).all (fun i => (textAt (withP noneA x ⟨#[120]⟩) i).toList == (textAt noneA i).toList)) = false := by
    rw [List.all_eq_false]
    refine ⟨x.toNat, List.mem_range'_1.2 ⟨by omega, by omega⟩, ?_⟩
    rw [h2, h3, ← beq_toListBytes]
    decide
  rw [h4]
  rfl
theorem neq_out (x : Int) (h : ¬ (0 ≤ x ∧ x ≤ 19)) (w : World) : (binOp .neq 64 (.agg (cellsA (withP noneA x ⟨#[120]⟩))) (.agg #[.string ⟨#[]⟩, .string ⟨#[]⟩, .string ⟨#[]⟩, .string ⟨#[]⟩, .string ⟨#[]⟩, .string ⟨#[]⟩, .string ⟨#[]⟩, .string ⟨#[]⟩, .string ⟨#[]⟩, .string ⟨#[]⟩, .string ⟨#[]⟩, .string ⟨#[]⟩, .string ⟨#[]⟩, .string ⟨#[]⟩, .string ⟨#[]⟩, .string ⟨#[]⟩, .string ⟨#[]⟩, .string ⟨#[]⟩, .string ⟨#[]⟩, .string ⟨#[]⟩])).run Try.prog w = .ok (.bool false) w := by
  have e : withP noneA x ⟨#[120]⟩ = noneA := by unfold withP; rw [if_neg (fun h2 => h ⟨h2.1, by omega⟩)]
  have h1 := neqA noneA noneA rfl rfl w
  rw [e]
  rw [noneA_cells] at h1 ⊢
  rw [h1]
  have h4 : ((List.range' 0 20 1).all (fun i => (textAt noneA i).toList == (textAt noneA i).toList)) = true := by
    rw [List.all_eq_true]
    exact fun i _ => by simp
  rw [h4]
  rfl

set_option maxHeartbeats 4000000 in
theorem isCell_any (x : Int) (w : World) :
    Calls Try.prog 47 #[.int .i64 x] w fun e w' => BoolIs (0 ≤ x ∧ x ≤ 19) w e w' := by
  have hgb := guardA
  by_cases h : 0 ≤ x ∧ x ≤ 19
  · have hqe := neq_in x h
    have HH : Hid (0 ≤ x ∧ x ≤ 19) := h
    clear h
    go_enter Try.func47, Try.ntmps47
    go_wp2_with fail
    refine (with_any noneA rfl x ⟨#[120]⟩ _).mono ?_
    rintro e w1 ⟨rfl, bw⟩
    have HBW : Hid (Below w.heap.size w w1) := bw
    clear bw
    go_wp2_with fail
    go_ret
    exact ⟨true, rfl, ⟨fun _ => HH.out, fun _ => rfl⟩, HBW.out⟩
  · have hqe := neq_out x h
    have HH : Hid (¬ (0 ≤ x ∧ x ≤ 19)) := h
    clear h
    go_enter Try.func47, Try.ntmps47
    go_wp2_with fail
    refine (with_any noneA rfl x ⟨#[120]⟩ _).mono ?_
    rintro e w1 ⟨rfl, bw⟩
    have HBW : Hid (Below w.heap.size w w1) := bw
    clear bw
    go_wp2_with fail
    go_ret
    exact BoolIs.no HH.out HBW.out

set_option maxHeartbeats 4000000 in
theorem allToCells_any (o : Option Addr) (n c : Nat) (ws : List (Int × ByteArray)) (w : World) (h : WriteA w o n ws) (hn : n ≤ 2000000) :
    Calls Try.prog 44 #[.slice o n c] w fun e w' => BoolIs (AllIn ws) w e w' := by
  have HW : Hid (WriteA w o n ws) := h
  clear h
  go_enter Try.func44, Try.ntmps44
  go_wp2_with fail
  go_loopw [7] (fun i wr => ∃ j : Nat, j ≤ n ∧ i = .int .i64 (j : Int) ∧ Hid (Below w.heap.size w wr) ∧ Hid (∀ x ∈ ws.take j, 0 ≤ x.1 ∧ x.1 ≤ 19)) (fun i _ => n - (intOf i).toNat)
  case atStart => exact ⟨0, Nat.zero_le _, rfl, Below.refl _ _, fun x hx => by simp at hx⟩
  case round =>
    obtain ⟨j, hj, rfl, HB, HN⟩ := hrel
    by_cases hlt : (j : Int) < (n : Int)
    · have hjx : j < ws.length := by rw [HW.out.1]; omega
      obtain ⟨g, rfl, hg, r0, r1⟩ := (HW.out.below HB.out).2 j (by omega)
      obtain ⟨y, hy⟩ : ∃ y, y = writeAt ws j := ⟨_, rfl⟩
      have HM : Hid (y ∈ ws) := by show _ ∈ _; rw [hy]; exact writeAt_mem ws j hjx
      have HTK : Hid (ws.take (j + 1) = ws.take j ++ [y]) := by show _ = _; rw [hy]; exact take_writeAt ws j hjx
      rw [← hy] at r0 r1
      obtain ⟨y0, y1⟩ := y
      simp only at r0 r1
      clear hy hjx
      go_wp2_with fail
      refine (isCell_any y0 _).mono ?_
      rintro e w4 ⟨b, rfl, hb, bw⟩
      have HBW : Hid (Below w.heap.size w w4) := (HB.out.alloc HB.out.size _).trans (bw.mono (Nat.le_trans HB.out.size (by simp)))
      clear bw r0 r1
      cases b with
      | true =>
        have HY : Hid (0 ≤ y0 ∧ y0 ≤ 19) := hb.1 rfl
        clear hb
        go_wp2_with fail
        go_roundw
        case rel =>
          refine ⟨j + 1, by omega, by go_num, HBW, fun x hx => ?_⟩
          rw [HTK.out] at hx
          rcases List.mem_append.1 hx with hx | hx
          · exact HN.out x hx
          · rw [List.mem_singleton.1 hx]; exact HY.out
        case measure => simp [intOf]; omega
      | false =>
        have HY : Hid (¬ (0 ≤ y0 ∧ y0 ≤ 19)) := fun h => nomatch hb.2 h
        clear hb
        go_wp2_with fail
        go_ret
        exact BoolIs.no (fun h => HY.out (h _ HM.out)) HBW.out
    · have HAL : Hid (AllIn ws) := fun x hx => HN.out x (by rw [List.take_of_length_le (by rw [HW.out.1]; omega)]; exact hx)
      clear HN
      go_wp2_with fail
      go_ret
      exact ⟨true, rfl, ⟨fun _ => HAL.out, fun _ => rfl⟩, HB.out⟩

set_option maxHeartbeats 4000000 in
theorem copiedTexts_any (o : Option Addr) (n c : Nat) (xs : List ByteArray) (w : World) (h : TextsA w o n xs) (hn : n ≤ 2000000) (hz : ∀ i, i < n → (textAt xs i).size ≤ 1048576) :
    Calls Try.prog 51 #[.slice o n c] w fun e w' => ∃ v, e = .returned v ∧ w'.ownsRow w.heap.size 9 1 v n (xs.map Value.string) ∧ Below w.heap.size w w' := by
  obtain ⟨i0, hi, hz0, hz1, hz2⟩ := info_parts info9
  obtain ⟨M, hM⟩ : ∃ M, M = madeCells (Value.string ⟨#[]⟩).cells (((n : Nat) : Int).toNat * i0.size) := ⟨_, rfl⟩
  have hmk : ∀ W : World, (Instr.makeSlice 24 (.int .i64 (n : Int)) (.int .i64 (n : Int))).run Try.prog W = .ok (.slice (some ⟨W.heap.size, 0, none⟩) n n) (W.alloc (.cells M 9)) := fun W => by
    have h := run_make (P := Try.prog) W 24 9 i0 (Value.string ⟨#[]⟩) Try.underlying24 hi hz0 .i64 .i64 (n : Int) (n : Int) (by omega) (by omega) (by rw [hz2]; omega) (by omega)
    rw [← hM] at h
    simpa using h
  have hMs : M.size = n := by rw [hM, size_madeCells, hz1]; simp
  have HA : Hid (TextsA w o n xs) := h
  have HZ : Hid (∀ i, i < n → (textAt xs i).size ≤ 1048576) := hz
  have HLEN : Hid (xs.length = n) := h.1
  clear hM h hz
  have HP : Hid (PartT (w.alloc (.cells M 9)) w.heap.size n 0 xs) := ⟨M, heap_alloc_new w _, hMs, fun i h => absurd h (by omega)⟩
  go_enter Try.func51, Try.ntmps51
  go_wp2_with fail
  go_loopw [11] (fun i wr => ∃ k : Nat, k ≤ n ∧ i = .int .i64 (k : Int) ∧ Hid (PartT wr w.heap.size n k xs) ∧ Hid (Below w.heap.size w wr)) (fun i _ => n - (intOf i).toNat)
  case atStart => exact ⟨0, Nat.zero_le _, rfl, HP, (Below.refl _ _).alloc (Nat.le_refl _) _⟩
  case round =>
    obtain ⟨k, hk, rfl, hpr, hbw⟩ := hrel
    by_cases hlt : k < n
    · have hlt2 : (k : Int) < (n : Int) := by omega
      obtain ⟨g, rfl, hg, r0⟩ := (HA.out.below hbw.out).2 k hlt
      obtain ⟨z, hzz⟩ : ∃ z, z = textAt xs k := ⟨_, rfl⟩
      have HZ1 : Hid (z.size ≤ 281474976710656) := by rw [Hid, hzz]; have := HZ.out k hlt; omega
      have HZE : Hid (textAt xs k = z) := hzz.symm
      rw [← hzz] at r0
      clear hzz
      go_wp2_with fail
      refine (clone_any z _ HZ1.out).mono ?_
      rintro e w1 ⟨rfl, bw⟩
      have hp1 : PartT w1 w.heap.size n k xs := by
        obtain ⟨cur, h1, h2, h3⟩ := hpr.out
        exact ⟨cur, blk_below h1 bw, h2, h3⟩
      have HB2 : Hid (Below w.heap.size w w1) := hbw.out.trans (bw.mono hbw.out.size)
      have hput := hp1.put hlt
      rw [HZE.out] at hput
      have HPUT : Hid (PartT (w1.setCell ⟨w.heap.size, k, none⟩ (.string z)) w.heap.size n (k + 1) xs) := hput
      obtain ⟨u0, hu0, f0⟩ : ∃ u, w1.cell? ⟨w.heap.size, k, none⟩ = some u ∧ w1.frozen? ⟨w.heap.size, k, none⟩ = false := by
        obtain ⟨cur, h1, h2, _⟩ := hp1
        refine ⟨cur[k]'(by omega), ?_, by simp [World.frozen?, h1]⟩
        simp only [World.cell?, h1]
        simp [show k < cur.size by omega]
      clear bw hp1 hput r0
      go_wp2_with fail
      go_roundw
      case rel => exact ⟨k + 1, by omega, by go_num, HPUT, HB2.out.setCell (Nat.le_refl _) _⟩
      case measure => simp [intOf]; omega
    · obtain rfl : k = n := by omega
      go_wp2_with fail
      go_ret
      exact ⟨_, rfl, (hpr.out.row HLEN.out (Nat.le_refl _) (by unfold maxLen; omega)).owns, hbw.out⟩

set_option maxHeartbeats 4000000 in
theorem asDisk_any (l : List ByteArray) (hl : l.length = 20) (hz : ∀ i, i < 20 → (textAt l i).size ≤ 1048576) (w : World) :
    Calls Try.prog 42 #[.agg (cellsA l)] w fun e w' => DiskIs l [] w e w' := by
  have HL : Hid (l.length = 20) := hl
  have HZ : Hid (∀ i, i < 20 → (textAt l i).size ≤ 1048576) := hz
  clear hl hz
  go_enter Try.func42, Try.ntmps42
  go_upto_region 1 with fail
  obtain ⟨w2, hw2⟩ : ∃ W, W = (w.alloc (.cells (cellsA l) 64)).alloc (.cells #[.slice none 0 0, .slice none 0 0] 27) := ⟨_, rfl⟩
  rw [← hw2]
  have hBW : Below w.heap.size w w2 := by rw [hw2]; exact ((Below.refl _ _).alloc (Nat.le_refl _) _).alloc (by simp) _
  have hA : w2.heap[w.heap.size]? = some (.cells (cellsA l) 64) := by rw [hw2]; exact blk_alloc (heap_alloc_new _ _) _
  have hC : w2.heap[w.heap.size + 1]? = some (.cells #[.slice none 0 0, .slice none 0 0] 27) := by rw [hw2]; exact heap_alloc2_new _ _ _
  obtain ⟨q, hq⟩ : ∃ q, q = w.heap.size := ⟨_, rfl⟩
  have HQ : Hid (w.heap.size = q) := hq.symm
  rw [← hq] at hA hC
  rw [← hq]
  have HA : Hid (w2.heap[q]? = some (.cells (cellsA l) 64)) := hA
  have HC : Hid (w2.heap[q + 1]? = some (.cells #[.slice none 0 0, .slice none 0 0] 27)) := hC
  have HBW : Hid (Below w.heap.size w w2) := hBW
  clear hw2 hBW hA hC hq
  go_wp2_with fail
  refine (copiedTexts_any (some ⟨q, 0, none⟩) 20 20 l _ ⟨HL.out, fun i hi => ⟨q, rfl, (Array.getElem?_eq_some_iff.1 HA.out).1, (cell_of HA.out i).trans (cellsA_at l i (by rw [HL.out]; exact hi))⟩⟩ (by omega) HZ.out).mono ?_
  rintro e w3 ⟨v, rfl, ho, bw⟩
  have hC3 := blk_below HC.out bw
  have HC3 : Hid (w3.heap[q + 1]? = some (.cells #[.slice none 0 0, .slice none 0 0] 27)) := hC3
  have c0 := (cell_of hC3 0).trans rfl
  have c1 := (cell_of hC3 1).trans rfl
  have f0 := frozen_of hC3 0
  have f1 := frozen_of hC3 1
  obtain ⟨o, p, rfl⟩ := slice_of_owns ho
  have HO : Hid (w3.ownsRow w2.heap.size 9 1 (.slice o 20 p) 20 (l.map Value.string)) := ho
  have HB3 : Hid (Below w.heap.size w w3) := HBW.out.trans (bw.mono HBW.out.size)
  have HS2 : Hid (w.heap.size ≤ w2.heap.size) := HBW.out.size
  clear hC3 bw ho
  go_wp2_with fail
  obtain ⟨w5, hw5⟩ : ∃ W, W = (w3.setCell ⟨q + 1, 0, none⟩ (.slice o 20 p)).setCell ⟨q + 1, 1, none⟩ (.slice none 0 0) := ⟨_, rfl⟩
  rw [← hw5]
  have h5 : w5.heap[q + 1]? = some (.cells #[.slice o 20 p, .slice none 0 0] 27) := by
    rw [hw5]
    exact heap_setCell_same _ _ _ _ _ _ (heap_setCell_same _ _ _ _ _ _ HC3.out)
  refine bodyPost_ret (v := .agg #[.slice o 20 p, .slice none 0 0]) (results_cell_row Try.results42 _ _ (q + 1) 27 _ (0, 0) _ rfl h5 Try.underlying27 rfl (by kernel_rfl)) rfl ⟨_, _, rfl, ⟨?_, World.ownsRow_nil _ _ _ _⟩, ?_⟩
  · rw [HL.out, hw5]
    exact owns_same (owns_wide HO.out HS2.out) (fun g hg => by
      have hne : g ≠ q + 1 := own_ne HO.out HC3.out (by decide) g hg
      rw [heap_setCell_other _ _ g _ hne, heap_setCell_other _ _ g _ hne])
  · rw [hw5]
    exact (HB3.out.setCell (by rw [HQ.out]; exact Nat.le_succ _) _).setCell (by rw [HQ.out]; exact Nat.le_succ _) _

end Go.Proofs.Ytckjbgpdbehmaaa

namespace Go.Proofs.Ytckjbgpdbehmaaa
open Go.RowKit
open Go.Lib hiding intOf

/-- A disk is stored into the result's block. -/
theorem stored {w w0 w1 : World} {q : Nat} {x0 x1 v1 v2 : Value} {n1 n2 : Nat} {cs : List ByteArray} {ws : List (Int × ByteArray)} (hC : w1.heap[q]? = some (.cells #[x0, x1] 27)) (hD : DiskO w1 w0.heap.size v1 n1 cs v2 n2 ws) (hs : w.heap.size ≤ w0.heap.size) (hb : Below w.heap.size w w1) (hq : w.heap.size ≤ q) :
    ((w1.setCell ⟨q, 0, none⟩ v1).setCell ⟨q, 1, none⟩ v2).heap[q]? = some (.cells #[v1, v2] 27) ∧ DiskO ((w1.setCell ⟨q, 0, none⟩ v1).setCell ⟨q, 1, none⟩ v2) w.heap.size v1 n1 cs v2 n2 ws ∧ Below w.heap.size w ((w1.setCell ⟨q, 0, none⟩ v1).setCell ⟨q, 1, none⟩ v2) := by
  refine ⟨heap_setCell_same _ _ _ _ _ _ (heap_setCell_same _ _ _ _ _ _ hC), ⟨?_, ?_⟩, (hb.setCell hq _).setCell hq _⟩
  · exact owns_same (owns_wide hD.cells hs) (fun g hg => by
      have hne : g ≠ q := own_ne hD.cells hC (by decide) g hg
      rw [heap_setCell_other _ _ g _ hne, heap_setCell_other _ _ g _ hne])
  · exact owns_same (owns_wide hD.pend hs) (fun g hg => by
      have hne : g ≠ q := own_ne hD.pend hC (by decide) g hg
      rw [heap_setCell_other _ _ g _ hne, heap_setCell_other _ _ g _ hne])
theorem shutDisk {fn : Func} {w w0 w1 : World} {q : Nat} {a : Act} {p : Tmp} {x0 x1 v1 v2 : Value} {n1 n2 : Nat} {cs : List ByteArray} {ws : List (Int × ByteArray)} (hr : fn.results = #[.cell p 27]) (hp : a.tmps.getD p undef = .pointer (some ⟨q, 0, none⟩)) (hd : a.defers = []) (hC : w1.heap[q]? = some (.cells #[x0, x1] 27)) (hD : DiskO w1 w0.heap.size v1 n1 cs v2 n2 ws) (hn1 : n1 = cs.length) (hn2 : n2 = ws.length) (hs : w.heap.size ≤ w0.heap.size) (hb : Below w.heap.size w w1) (hq : w.heap.size ≤ q) :
    bodyPost Try.prog fn (fun e w' => DiskIs cs ws w e w') .ret a ((w1.setCell ⟨q, 0, none⟩ v1).setCell ⟨q, 1, none⟩ v2) := by
  obtain ⟨h1, h2, h3⟩ := stored hC hD hs hb hq
  subst hn1 hn2
  exact bodyPost_ret (v := .agg #[v1, v2]) (results_cell_row hr _ _ q 27 _ (0, 0) _ hp h1 Try.underlying27 rfl (by kernel_rfl)) hd ⟨_, _, rfl, h2, h3⟩
set_option maxHeartbeats 4000000 in
theorem implDiskOk_len (o1 : Option Addr) (n1 c1 : Nat) (v2 : Value) (n2 : Nat) (ws : List (Int × ByteArray)) (B : Nat) (w : World) (h : w.ownsRow B 67 2 v2 n2 (flatWrite ws)) (hn2 : n2 ≤ 2000000) :
    Calls Try.prog 16 #[.agg #[.slice o1 n1 c1, v2]] w fun e w' => BoolIs (DiskN n1 ws) w e w' := by
  obtain ⟨o2, c2, rfl⟩ := slice_of_owns h
  have HV : Hid (WriteA w o2 n2 ws) := write_view h
  have HLN : Hid (ws.length = n2) := write_len h
  clear h
  by_cases h1 : n1 = 20
  · subst h1
    by_cases h2 : n2 ≤ 16
    · have h3 : (n2 : Int) ≤ 16 := by omega
      go_enter Try.func16, Try.ntmps16
      go_wp2_with fail
      refine (allToCells_any o2 n2 c2 ws _ (HV.out.below ((Below.refl _ _).alloc (Nat.le_refl _) _)) hn2).mono ?_
      rintro e w1 ⟨b, rfl, hb, bw⟩
      have HB : Hid (b = true ↔ AllIn ws) := hb
      have HBW : Hid (Below w.heap.size w w1) := ((Below.refl _ _).alloc (Nat.le_refl _) _).trans (bw.mono (by simp))
      have HN : Hid (n2 ≤ 16) := h2
      clear hb bw
      go_wp2_with fail
      go_ret
      exact ⟨b, rfl, ⟨fun e => ⟨rfl, by rw [HLN.out]; exact HN.out, HB.out.1 e⟩, fun h => HB.out.2 h.2.2⟩, HBW.out⟩
    · have h3 : ¬ (n2 : Int) ≤ 16 := by omega
      have HNO : Hid (¬ ws.length ≤ 16) := by rw [HLN.out]; exact h2
      go_enter Try.func16, Try.ntmps16
      go_wp2_with fail
      go_ret
      exact BoolIs.no (fun h => HNO.out h.2.1) ((Below.refl _ _).alloc (Nat.le_refl _) _)
  · have h3 : ¬ (n1 : Int) = 20 := by omega
    have HNO : Hid (¬ n1 = 20) := h1
    go_enter Try.func16, Try.ntmps16
    go_wp2_with fail
    go_ret
    exact BoolIs.no (fun h => HNO.out h.1) ((Below.refl _ _).alloc (Nat.le_refl _) _)

theorem implDiskOk_any (v1 v2 : Value) (n1 : Nat) (cs : List ByteArray) (n2 : Nat) (ws : List (Int × ByteArray)) (B : Nat) (w : World) (h : DiskO w B v1 n1 cs v2 n2 ws) (_hn1 : n1 ≤ 2000000) (hn2 : n2 ≤ 2000000) :
    Calls Try.prog 16 #[.agg #[v1, v2]] w fun e w' => BoolIs (DiskP cs ws) w e w' := by
  obtain ⟨oCx, pCx, rfl⟩ := slice_of_owns h.cells
  have hl : cs.length = n1 := by have := h.cells.1; rw [List.length_map] at this; omega
  have h1 := implDiskOk_len oCx n1 pCx v2 n2 ws B w h.pend hn2
  rw [← hl] at h1
  rw [← hl]
  exact h1

theorem lieAll {W : World} {B g n c : Nat} {cs : List ByteArray} (h : W.ownsRow B 9 1 (.slice (some ⟨g, 0, none⟩) n c) n (cs.map Value.string)) : W.rangeAt g 0 (cs.map Value.string) := fun j v hv => by
  obtain ⟨oa, cap, e, hl, hc⟩ := texts_own h
  cases e
  have hj : j < cs.length := by
    have := (List.getElem?_eq_some_iff.1 hv).1
    simpa using this
  obtain ⟨g', e, _, r⟩ := hc j (by omega)
  cases e
  rw [List.getElem?_map, getElem_textAt cs j hj] at hv
  rw [Nat.zero_add, r]
  exact hv
theorem land_size {cs : List ByteArray} {ws : List (Int × ByteArray)} {n M : Nat} (h1 : ∀ i, i < n → (textAt cs i).size ≤ M) (h2 : ∀ x ∈ ws, (x.2).size ≤ M) (f : Nat → Bool) : ∀ k, k ≤ ws.length → ∀ i, i < n → (textAt (landTo cs ws f k) i).size ≤ M
  | 0, _, i, hi => h1 i hi
  | k + 1, hk, i, hi => by
    rw [landTo]
    split
    · rw [textAt_set]
      split
      · exact h2 _ (writeAt_mem ws k (by omega))
      · exact land_size h1 h2 f k (by omega) i hi
    · exact land_size h1 h2 f k (by omega) i hi
set_option maxHeartbeats 4000000 in
theorem implFlush_false (o1 : Option Addr) (n1 c1 : Nat) (v2 : Value) (n2 : Nat) (ws : List (Int × ByteArray)) (B : Nat) (w : World) (h : w.ownsRow B 67 2 v2 n2 (flatWrite ws)) (hn2 : n2 ≤ 2000000) (hno : ¬ DiskN n1 ws) :
    Calls Try.prog 18 #[.agg #[.slice o1 n1 c1, v2]] w fun e w' => DiskIs [] [] w e w' := by
  obtain ⟨o2, c2, rfl⟩ := slice_of_owns h
  have HP : Hid (∀ W, Below w.heap.size w W → W.ownsRow B 67 2 (.slice o2 n2 c2) n2 (flatWrite ws)) := fun W hb => owns_below h hb (fun g hg => owns_lt h hg)
  have HNO : Hid (¬ DiskN n1 ws) := hno
  clear h hno
  go_enter Try.func18, Try.ntmps18
  go_wp2_with fail
  refine (implDiskOk_len o1 n1 c1 _ n2 ws B _ (HP.out _ (((Below.refl _ _).alloc (Nat.le_refl _) _).alloc (by simp) _)) hn2).mono ?_
  rintro e w3 ⟨b, rfl, hb, bw⟩
  obtain rfl : b = false := by
    cases b with
    | true => exact absurd (hb.1 rfl) HNO.out
    | false => rfl
  have hC := blk_below (heap_alloc2_new w _ _) bw
  have c0 := (cell_of hC 0).trans rfl
  have c1' := (cell_of hC 1).trans rfl
  have f0 := frozen_of hC 0
  have f1 := frozen_of hC 1
  have HC : Hid _ := hC
  have HB : Hid (Below w.heap.size w w3) := (((Below.refl _ _).alloc (Nat.le_refl _) _).alloc (by simp) _).trans (bw.mono (by simp; omega))
  clear hC bw hb
  go_wp2_with fail
  refine shutDisk (w0 := w) Try.results18 ?_ ?_ HC.out (diskO_nil _ _) ?_ ?_ (Nat.le_refl _) HB.out (Nat.le_succ _) <;> rfl
set_option maxHeartbeats 8000000 in
set_option maxRecDepth 100000 in
theorem implFlush_true (v1 v2 : Value) (cs : List ByteArray) (n2 : Nat) (ws : List (Int × ByteArray)) (B : Nat) (w : World) (h : DiskO w B v1 20 cs v2 n2 ws) (hn2 : n2 ≤ 2000000) (hok : DiskP cs ws) (hz1 : ∀ i, i < 20 → (textAt cs i).size ≤ 1048576) (hz2 : ∀ x ∈ ws, (x.2).size ≤ 1048576) :
    Calls Try.prog 18 #[.agg #[v1, v2]] w fun e w' => DiskIs (landTo cs ws (fun _ => true) ws.length) [] w e w' := by
  obtain ⟨o1, c1, rfl⟩ := slice_of_owns h.cells
  obtain ⟨o2, c2, rfl⟩ := slice_of_owns h.pend
  obtain ⟨g, rfl⟩ := owns_some h.cells (by omega)
  have HD : Hid (∀ W, Below w.heap.size w W → DiskO W B (.slice (some ⟨g, 0, none⟩) 20 c1) 20 cs (.slice o2 n2 c2) n2 ws) := fun W hb => ⟨owns_below h.cells hb (fun g hg => owns_lt h.cells hg), owns_below h.pend hb (fun g hg => owns_lt h.pend hg)⟩
  have HOK : Hid (DiskP cs ws) := hok
  have HZ1 : Hid (∀ i, i < 20 → (textAt cs i).size ≤ 1048576) := hz1
  have HZ2 : Hid (∀ x ∈ ws, (x.2).size ≤ 1048576) := hz2
  have HLN : Hid (ws.length = n2) := write_len h.pend
  have HCL : Hid (cs.length = 20) := hok.1
  have hua := Try.underlying64
  have hia : (Try.prog.info? 64).map (·.size) = some (cs.map Value.string).length := by rw [List.length_map, HCL.out]; kernel_rfl
  have HUA : Hid ((Try.prog.info? 64).map (·.size) = some (cs.map Value.string).length) := hia
  clear h hok hz1 hz2
  go_enter Try.func18, Try.ntmps18
  go_wp2_with fail
  refine (implDiskOk_any _ _ 20 _ n2 ws B _ (HD.out _ (((Below.refl _ _).alloc (Nat.le_refl _) _).alloc (by simp) _)) (by omega) hn2).mono ?_
  rintro e w3 ⟨b, rfl, hb, bw⟩
  obtain rfl : b = true := hb.2 HOK.out
  have hB3 : Below w.heap.size w w3 := (((Below.refl _ _).alloc (Nat.le_refl _) _).alloc (by simp) _).trans (bw.mono (by simp; omega))
  have hS3 := blk_below (blk_alloc (heap_alloc_new w _) _) bw
  have HS3 : Hid (w3.heap[w.heap.size]? = some (.cells #[.slice (some ⟨g, 0, none⟩) 20 c1, .slice o2 n2 c2] 27)) := hS3
  have HD3 : Hid (∀ W, Below w3.heap.size w3 W → DiskO W B (.slice (some ⟨g, 0, none⟩) 20 c1) 20 cs (.slice o2 n2 c2) n2 ws) := fun W hb => HD.out W (hB3.trans (hb.mono hB3.size))
  have HB3 : Hid (Below w.heap.size w w3) := hB3
  have HC3 : Hid (w3.heap[w.heap.size + 1]? = some (.cells #[.slice none 0 0, .slice none 0 0] 27)) := blk_below (heap_alloc2_new w _ _) bw
  obtain ⟨q, hq⟩ : ∃ q, q = w.heap.size := ⟨_, rfl⟩
  have HQ : Hid (w.heap.size = q) := hq.symm
  rw [← hq] at HS3 HC3
  rw [← hq]
  have HK : Hid (∀ W, Below w3.heap.size w3 W → W.cell? ⟨q, 0, none⟩ = some (.slice (some ⟨g, 0, none⟩) 20 c1) ∧ W.cell? ⟨q, 1, none⟩ = some (.slice o2 n2 c2) ∧ W.rangeAt g 0 (cs.map Value.string)) := fun W hW =>
    ⟨(cell_of (blk_below HS3.out hW) 0).trans rfl, (cell_of (blk_below HS3.out hW) 1).trans rfl, lieAll (HD3.out W hW).cells⟩
  clear hb hB3 hS3 bw hq HD
  have hat : ∀ W : World, (Instr.arrayAt 64 (.slice (some ⟨g, 0, none⟩) 20 c1)).run Try.prog W = .ok (.pointer (some ⟨g, 0, none⟩)) W := fun W => by simp [Instr.arrayAt]
  obtain ⟨d0, d1, d2⟩ := HK.out _ (Below.refl _ _)
  go_upto_region 3 with fail
  have HSET : Hid (∀ (W : World) (x y : Value), Below w3.heap.size w3 W → (((W.setCell ⟨q + 1, 0, none⟩ x).setCell ⟨q + 1, 1, none⟩ y).cell? ⟨q, 0, none⟩ = some (.slice (some ⟨g, 0, none⟩) 20 c1) ∧ ((W.setCell ⟨q + 1, 0, none⟩ x).setCell ⟨q + 1, 1, none⟩ y).cell? ⟨q, 1, none⟩ = some (.slice o2 n2 c2) ∧ ((W.setCell ⟨q + 1, 0, none⟩ x).setCell ⟨q + 1, 1, none⟩ y).rangeAt g 0 (cs.map Value.string))) := fun W x y h => by
    obtain ⟨k0, k1, k2⟩ := HK.out W h
    have hne : g ≠ q + 1 := own_ne (HD3.out _ h).cells (blk_below HC3.out h) (by decide) g rfl
    have hh : ∀ j, j ≠ q + 1 → ((W.setCell ⟨q + 1, 0, none⟩ x).setCell ⟨q + 1, 1, none⟩ y).heap[j]? = W.heap[j]? := fun j hj => (heap_setCell_other _ _ j _ hj).trans (heap_setCell_other _ _ j _ hj)
    exact ⟨(World.cell?_of_block (hh q (by omega))).trans k0, (World.cell?_of_block (hh q (by omega))).trans k1, fun j v hv => (World.cell?_of_block (hh g hne)).trans (k2 j v hv)⟩
  have HLZ : Hid (∀ i, i < 20 → (textAt (landTo cs ws (fun _ => true) ws.length) i).size ≤ 1048576) := land_size HZ1.out HZ2.out _ _ (Nat.le_refl _)
  have HLL : Hid ((landTo cs ws (fun _ => true) ws.length).length = 20) := (landTo_len _ _ _ _).trans HCL.out
  go_region_held3 (fun W => W.cell? ⟨q, 0, none⟩ = some (.slice (some ⟨g, 0, none⟩) 20 c1) ∧ W.cell? ⟨q, 1, none⟩ = some (.slice o2 n2 c2) ∧ W.rangeAt g 0 (cs.map Value.string)) (first | assumption | exact HSET.out _ _ _ hb4 | go_keep) (first | (go_at_call 46; refine (withAll_any cs HCL.out o2 n2 c2 ws _ (write_view (HD3.out _ (Below.refl _ _).drew).pend) hn2 HOK.out.2.2).mono ?_; rintro e u1 ⟨rfl, hb1⟩; have hb2 := (Below.refl w3.heap.size w3).drew.trans hb1; obtain ⟨a0, a1, a2⟩ := HK.out u1 hb2) | (go_at_call 42; refine (asDisk_any _ HLL.out HLZ.out _).mono ?_; rintro e u2 ⟨x1, x2, rfl, hd3, hb3⟩; have hb4 := hb2.trans (hb3.mono hb2.size); obtain ⟨b0, b1, b2⟩ := HK.out u2 hb4; obtain ⟨oa, pa, rfl⟩ := slice_of_owns hd3.cells; obtain ⟨ob, pb, rfl⟩ := slice_of_owns hd3.pend; have hC4 := blk_below HC3.out hb4; have k0 := (cell_of hC4 0).trans rfl; have k1 := (cell_of hC4 1).trans rfl; have k2 := frozen_of hC4 0; have k3 := frozen_of hC4 1))
  have HB4 : Hid (Below w.heap.size w u2) := HB3.out.trans (hb4.mono HB3.out.size)
  have HC4 : Hid (u2.heap[q + 1]? = some (.cells #[.slice none 0 0, .slice none 0 0] 27)) := hC4
  have HD4 : Hid (DiskO u2 u1.heap.size (.slice oa (landTo cs ws (fun _ => true) ws.length).length pa) (landTo cs ws (fun _ => true) ws.length).length (landTo cs ws (fun _ => true) ws.length) (.slice ob 0 pb) 0 []) := hd3
  have HS4 : Hid (w.heap.size ≤ u1.heap.size) := Nat.le_trans HB3.out.size hb2.size
  clear hC4 hd3 hb4 hb3 b0 b1 b2 k0 k1 k2 k3 hb1 hb2 a0 a1 a2 d0 d1 d2
  go_wp2_with fail
  refine shutDisk (w0 := u1) Try.results18 ?_ ?_ HC4.out HD4.out ?_ ?_ HS4.out HB4.out (by rw [HQ.out]; exact Nat.le_succ _) <;> rfl
end Go.Proofs.Ytckjbgpdbehmaaa

namespace Go.Proofs.Ytckjbgpdbehmaaa
open Go.RowKit
open Go.Lib hiding intOf

theorem implFlush_any (v1 v2 : Value) (n1 : Nat) (cs : List ByteArray) (n2 : Nat) (ws : List (Int × ByteArray)) (B : Nat) (w : World) (h : DiskO w B v1 n1 cs v2 n2 ws) (_hn1 : n1 ≤ 2000000) (hn2 : n2 ≤ 2000000) (hz1 : ∀ i, i < n1 → (textAt cs i).size ≤ 1048576) (hz2 : ∀ x ∈ ws, (x.2).size ≤ 1048576) :
    Calls Try.prog 18 #[.agg #[v1, v2]] w fun e w' => DiskIs (landC cs ws (fun _ => true)) [] w e w' := by
  have hl : cs.length = n1 := by have := h.cells.1; rw [List.length_map] at this; omega
  by_cases hok : DiskP cs ws
  · obtain rfl : n1 = 20 := hl.symm.trans hok.1
    rw [landC_yes hok]
    exact implFlush_true v1 v2 cs n2 ws B w h hn2 hok hz1 hz2
  · obtain ⟨o1, c1, rfl⟩ := slice_of_owns h.cells
    have hno : ¬ DiskN n1 ws := fun hd => hok ⟨hl.trans hd.1, hd.2⟩
    rw [landC_no hok]
    exact implFlush_false o1 n1 c1 v2 n2 ws B w h.pend hn2 hno
end Go.Proofs.Ytckjbgpdbehmaaa
