/- What the proof of FnExactDiskPut leans on: contracts of the program's and the specification's functions, and plain facts (part 2 of 2). -/
import Derived.Test.YtckjbgpdbehmaaaFnExactDiskPutA
namespace Go.Proofs.Ytckjbgpdbehmaaa
open Go.RowKit
open Go.Lib hiding intOf

/-- A call on the cursor answers a field of short texts, and turns the cursor alone of what was there. -/
def FieldDrawn (w : World) (c : Nat) (a : Option Addr) (len cap : Nat) (e : Ending) (w' : World) : Prop :=
  ∃ nm vl : ByteArray, e = .returned (.agg #[.string nm, .string vl]) ∧ nm.size ≤ 64 ∧ vl.size ≤ 64 ∧ CurAt w' c a len cap ∧ w.grownBy w' (some c)

/-- The two cells of a field's memory, written. -/
def twoSet (w : World) (r : Nat) (nm vl : ByteArray) : World := (w.setCell ⟨r, 0, none⟩ (.string nm)).setCell ⟨r, 1, none⟩ (.string vl)
theorem twoSet_grown (w : World) (r : Nat) (nm vl : ByteArray) : w.grownBy (twoSet w r nm vl) (some r) :=
  ⟨rfl, rfl, rfl, by simp [twoSet], fun k _ hk => by
    have hne : k ≠ r := fun e => hk (by rw [e])
    unfold twoSet
    rw [heap_setCell_other _ _ k _ (fun e => hne e), heap_setCell_other _ _ k _ (fun e => hne e)]⟩
theorem FieldDrawn.of {w w2 : World} {c r : Nat} {a : Option Addr} {len cap : Nat} {nm vl : ByteArray} (h1 : nm.size ≤ 64) (h2 : vl.size ≤ 64) (hcu : CurAt w2 c a len cap) (hg : w.grownBy w2 (some c)) (hrc : r ≠ c) (hrw : w.heap.size ≤ r) : FieldDrawn w c a len cap (.returned (.agg #[.string nm, .string vl])) (twoSet w2 r nm vl) :=
  ⟨nm, vl, rfl, h1, h2, hcu.grown (twoSet_grown w2 r nm vl) (fun e => hrc (Option.some.inj e)), grown_later hg (twoSet_grown w2 r nm vl) (fun g e => by cases e; exact hrw)⟩

end Go.Proofs.Ytckjbgpdbehmaaa

namespace Go.Proofs.Ytckjbgpdbehmaaa
open Go.RowKit
open Go.Lib hiding intOf

/-- 'wpAnyH_take', its place named. -/
theorem wpAnyH_takeD {P : Program} {ops : Array Oper} {Q : Exit → Act → World → Prop} {md : Region.Mode} {S : World → Prop} {i : Nat} {oi : Oper} {v : Value} {fuel : Nat} {listed : Array Bool} {a : Act} {w : World} (d : Option Tmp) (hi : ops[i]? = some oi) (hd : oi.dst = d)
    (hs : Region.noSelect ops = true) (hf : Region.free md ops listed i = true) (hr : (Region.ready md ops listed).contains i = true)
    (hQ : ∀ c a w, Q (.panic c) (a.put oi.dst v) w → Q (.panic c) a w) (hy : YieldsIf P ops S oi v a) (hS : S w)
    (h : wpAnyH P md ops Q S fuel (listed.setIfInBounds i true) (a.put d v) w) : wpAnyH P md ops Q S (fuel + 1) listed a w :=
  wpAnyH_take hi hs hf hr hQ hy hS (hd ▸ h)
end Go.Proofs.Ytckjbgpdbehmaaa

namespace Go.Proofs.Ytckjbgpdbehmaaa
open Go.RowKit
open Go.Lib hiding intOf

set_option maxHeartbeats 8000000 in
set_option maxRecDepth 100000 in
theorem specDiskOk_len (o1 : Option Addr) (n1 c1 : Nat) (v2 : Value) (n2 : Nat) (ws : List (Int × ByteArray)) (B : Nat) (w : World) (h : w.ownsRow B 67 2 v2 n2 (flatWrite ws)) (hn2 : n2 ≤ 2000000) :
    Calls Try.prog 17 #[.agg #[.slice o1 n1 c1, v2]] w fun e w' => BoolIs (DiskN n1 ws) w e w' := by
  obtain ⟨oPx, pPx, rfl⟩ := slice_of_owns h
  have HOPx_0 : Hid ((w).ownsRow B 67 2 (.slice oPx n2 pPx) n2 (flatWrite ws)) := h
  have HIPx : Hid (∀ g, (Value.ownBlock (.slice oPx n2 pPx)) = some g → g < w.heap.size) := fun g hg => owns_lt h hg
  have HPL : Hid (ws.length = n2) := write_len h
  clear h
  have hb0 : Below w.heap.size w w := Below.refl _ _
  go_enter Try.func17, Try.ntmps17
  go_upto_region 1 with fail
  obtain ⟨qv1, hqv1⟩ : ∃ q, q = (w).heap.size := ⟨_, rfl⟩
  obtain ⟨w1, hW1⟩ : ∃ W, W = (w).alloc (.cells #[.slice o1 n1 c1, .slice oPx n2 pPx] 27) := ⟨_, rfl⟩
  have hz1 : (w).heap.size = qv1 := hqv1.symm
  first | rw [← hW1, ← hqv1] | rw [← hW1]
  have hs1 : w1.heap.size = qv1 + 1 := by rw [hW1, ← hz1]; simp
  have bw : Below (w).heap.size (w) w1 := by rw [hW1]; exact (Below.refl _ _).alloc (Nat.le_refl _) _
  have hb1 : Below w.heap.size w (w1) := hb0.trans (bw.mono hb0.size)
  have HM1 : Hid ((w).heap.size ≤ (w1).heap.size) := bw.size
  have HOPx_1 : Hid ((w1).ownsRow B 67 2 (.slice oPx n2 pPx) n2 (flatWrite ws)) := owns_below HOPx_0.out bw (fun g hg => owns_lt HOPx_0.out hg)
  have HBv1_1 : Hid ((w1).heap[qv1]? = some (.cells #[.slice o1 n1 c1, .slice oPx n2 pPx] 27)) := by show _ = _; rw [hW1, ← hz1]; exact heap_alloc_new _ _
  have HGv1 : Hid (w.heap.size ≤ qv1) := by show _ ≤ _; rw [← hz1]; exact hb0.size
  clear hb0 HOPx_0 bw hW1 hz1
  clear hs1 hqv1
  go_wp2_with fail
  go_loopw [3] (fun i wr => ∃ j : Nat, j ≤ n2 ∧ i = .int .i64 (j : Int) ∧ Hid (Below w.heap.size w (wr) ∧ (wr).heap[qv1]? = some (.cells #[.slice o1 n1 c1, .slice oPx n2 pPx] 27) ∧ (wr).ownsRow B 67 2 (.slice oPx n2 pPx) n2 (flatWrite ws)) ∧ Hid (∀ x ∈ ws.take j, 0 ≤ x.1 ∧ x.1 ≤ 19)) (fun i _ => n2 - (intOf i).toNat)
  case atStart => exact ⟨0, Nat.zero_le _, rfl, ⟨hb1, HBv1_1.out, HOPx_1.out⟩, fun x hx => by simp at hx⟩
  case round =>
    obtain ⟨j, hj, rfl, HW, HN⟩ := hrel
    by_cases hlt : (j : Int) < (n2 : Int)
    · have hb2 := HW.out.1
      have HBv1_2 : Hid ((wr).heap[qv1]? = some (.cells #[.slice o1 n1 c1, .slice oPx n2 pPx] 27)) := HW.out.2.1
      have HOPx_2 : Hid ((wr).ownsRow B 67 2 (.slice oPx n2 pPx) n2 (flatWrite ws)) := HW.out.2.2
      clear HW hb1 HOPx_1 HBv1_1
      have hjx : j < ws.length := by rw [HPL.out]; omega
      obtain ⟨g, rfl⟩ := owns_some HOPx_2.out (by omega)
      obtain ⟨y, hy⟩ : ∃ y, y = writeAt ws j := ⟨_, rfl⟩
      have HM : Hid (y ∈ ws) := by show _ ∈ _; rw [hy]; exact writeAt_mem ws j hjx
      have HTK : Hid (ws.take (j + 1) = ws.take j ++ [y]) := by show _ = _; rw [hy]; exact take_writeAt ws j hjx
      have HYE : Hid (writeAt ws j = y) := hy.symm
      clear hy hjx
      obtain ⟨y0, y1⟩ := y
      have HELPx : Hid (∀ W : World, (W).ownsRow B 67 2 (.slice (some ⟨g, 0, none⟩) n2 pPx) n2 (flatWrite ws) → (W.cell? ⟨g, j * 2, none⟩ = some (.int .i64 y0) ∧ W.cell? ⟨g, j * 2 + 1, none⟩ = some (.string y1))) := fun W h => by
        obtain ⟨g', hg, _, r0, r1⟩ := (write_view h).2 j (by omega)
        cases hg
        rw [HYE.out] at r0 r1
        exact ⟨r0, r1⟩
      obtain ⟨r0, r1⟩ := HELPx.out _ HOPx_2.out
      have cv1_1 : (wr).cell? ⟨qv1, 1, none⟩ = some (.slice (some ⟨g, 0, none⟩) n2 pPx) := (cell_of HBv1_2.out 1).trans rfl
      go_wp2_with fail
      refine (l1In_any y0 0 19 _).mono ?_
      rintro e w3 ⟨rfl, hwe⟩
      have bw : Below (wr).heap.size (wr) w3 := by rw [hwe]; exact Below.refl _ _
      clear hwe
      obtain ⟨uy, huy⟩ : ∃ u, u = decide ((0 : Int) ≤ y0 ∧ y0 ≤ 19) := ⟨_, rfl⟩
      rw [← huy]
      have hb3 : Below w.heap.size w (w3) := hb2.trans (bw.mono hb2.size)
      have HM3 : Hid ((wr).heap.size ≤ (w3).heap.size) := bw.size
      have HOPx_3 : Hid ((w3).ownsRow B 67 2 (.slice (some ⟨g, 0, none⟩) n2 pPx) n2 (flatWrite ws)) := owns_below HOPx_2.out bw (fun g hg => owns_lt HOPx_2.out hg)
      have HBv1_3 : Hid ((w3).heap[qv1]? = some (.cells #[.slice o1 n1 c1, .slice (some ⟨g, 0, none⟩) n2 pPx] 27)) := blk_below HBv1_2.out bw
      clear hb2 HOPx_2 HBv1_2 bw
      clear cv1_1 r0 r1
      cases uy with
      | false =>
        have HNY : Hid (¬ (0 ≤ y0 ∧ y0 ≤ 19)) := (show ¬ (0 ≤ y0 ∧ y0 ≤ 19) from of_decide_eq_false huy.symm)
        clear huy
        go_wp2_with fail
        go_ret
        exact BoolIs.no (fun h => HNY.out (h.2.2 _ HM.out)) hb3
      | true =>
        have HY : Hid (0 ≤ y0 ∧ y0 ≤ 19) := (show (0 ≤ y0 ∧ y0 ≤ 19) from of_decide_eq_true huy.symm)
        clear huy
        have HN2 : Hid (∀ x ∈ ws.take (j + 1), 0 ≤ x.1 ∧ x.1 ≤ 19) := fun x hx => by
          rw [HTK.out] at hx
          rcases List.mem_append.1 hx with hx | hx
          · exact HN.out x hx
          · rw [List.mem_singleton.1 hx]; exact HY.out
        go_wp2_with fail
        go_roundw
        case rel => exact ⟨j + 1, by omega, by go_num, ⟨hb3, HBv1_3.out, HOPx_3.out⟩, HN2⟩
        case measure => simp [intOf]; omega
    · have hb2 := HW.out.1
      have HBv1_2 : Hid ((wr).heap[qv1]? = some (.cells #[.slice o1 n1 c1, .slice oPx n2 pPx] 27)) := HW.out.2.1
      have HOPx_2 : Hid ((wr).ownsRow B 67 2 (.slice oPx n2 pPx) n2 (flatWrite ws)) := HW.out.2.2
      clear HW hb1 HOPx_1 HBv1_1
      have HAL : Hid (∀ x ∈ ws, 0 ≤ x.1 ∧ x.1 ≤ 19) := fun x hx => HN.out x (by rw [List.take_of_length_le (by rw [HPL.out]; omega)]; exact hx)
      clear HN
      have cv1_1 : (wr).cell? ⟨qv1, 1, none⟩ = some (.slice oPx n2 pPx) := (cell_of HBv1_2.out 1).trans rfl
      by_cases hc1 : (n1 : Int) = 20
      · have hc1b : (((n1 : Int) : Int) == (20 : Int)) = true := by simpa using hc1
        have hc1n : (((n1 : Int) : Int) != (20 : Int)) = false := by simpa using hc1
        have HE : Hid (n1 = 20) := (by have := hc1; show _ = _; omega)
        have hc1H : Hid ((n1 : Int) = 20) := hc1
        clear hc1
        have cv1_0 : (wr).cell? ⟨qv1, 0, none⟩ = some (.slice o1 n1 c1) := (cell_of HBv1_2.out 0).trans rfl
        by_cases hc2 : (n2 : Int) ≤ 16
        · have HLE : Hid (n2 ≤ 16) := (by have := hc2; show _ ≤ _; omega)
          go_wp2_with fail
          go_ret
          exact ⟨true, rfl, ⟨fun _ => ⟨HE.out, by rw [HPL.out]; exact HLE.out, HAL.out⟩, fun _ => rfl⟩, hb2⟩
        · have HLE : Hid (¬ n2 ≤ 16) := (by have := hc2; show ¬ _; omega)
          go_wp2_with fail
          go_ret
          exact BoolIs.no (fun h => HLE.out (by have := h.2.1; rw [HPL.out] at this; exact this)) hb2
      · have hc1b : (((n1 : Int) : Int) == (20 : Int)) = false := by simpa using hc1
        have hc1n : (((n1 : Int) : Int) != (20 : Int)) = true := by simpa using hc1
        have HE : Hid (¬ n1 = 20) := (by have := hc1; show ¬ _; omega)
        have hc1H : Hid (¬ ((n1 : Int) = 20)) := hc1
        clear hc1
        have cv1_0 : (wr).cell? ⟨qv1, 0, none⟩ = some (.slice o1 n1 c1) := (cell_of HBv1_2.out 0).trans rfl
        go_wp2_with fail
        go_ret
        exact BoolIs.no (fun h => HE.out h.1) hb2

theorem specDiskOk_any (v1 v2 : Value) (n1 : Nat) (cs : List ByteArray) (n2 : Nat) (ws : List (Int × ByteArray)) (B : Nat) (w : World) (h : DiskO w B v1 n1 cs v2 n2 ws) (_hn1 : n1 ≤ 2000000) (hn2 : n2 ≤ 2000000) :
    Calls Try.prog 17 #[.agg #[v1, v2]] w fun e w' => BoolIs (DiskP cs ws) w e w' := by
  obtain ⟨oCx, pCx, rfl⟩ := slice_of_owns h.cells
  have hl : cs.length = n1 := by have := h.cells.1; rw [List.length_map] at this; omega
  refine (specDiskOk_len oCx n1 pCx v2 n2 ws B w h.pend hn2).mono fun e w' hq => ?_
  show BoolIs (DiskN cs.length ws) w e w'
  rw [hl]
  exact hq

set_option maxHeartbeats 8000000 in
set_option maxRecDepth 100000 in
theorem l12Copy_any (v1 v2 : Value) (n1 : Nat) (cs : List ByteArray) (n2 : Nat) (ws : List (Int × ByteArray)) (B : Nat) (w : World) (h : DiskO w B v1 n1 cs v2 n2 ws) (hn1 : n1 ≤ 2000000) (hn2 : n2 ≤ 2000000) :
    Calls Try.prog 53 #[.agg #[v1, v2]] w fun e w' => DiskIs cs ws w e w' := by
  obtain ⟨i0s, his, hz0s, hz1s, hz2s⟩ := info_parts info9
  obtain ⟨i0w, hiw, hz0w, hz1w, hz2w⟩ := info_parts infoWrite
  obtain ⟨oCx, pCx, rfl⟩ := slice_of_owns h.cells
  have HOCx_0 : Hid ((w).ownsRow B 9 1 (.slice oCx n1 pCx) n1 (cs.map Value.string)) := h.cells
  have HICx : Hid (∀ g, (Value.ownBlock (.slice oCx n1 pCx)) = some g → g < w.heap.size) := fun g hg => owns_lt h.cells hg
  obtain ⟨oPx, pPx, rfl⟩ := slice_of_owns h.pend
  have HOPx_0 : Hid ((w).ownsRow B 67 2 (.slice oPx n2 pPx) n2 (flatWrite ws)) := h.pend
  have HIPx : Hid (∀ g, (Value.ownBlock (.slice oPx n2 pPx)) = some g → g < w.heap.size) := fun g hg => owns_lt h.pend hg
  have HCL : Hid (cs.length = n1) := by have := h.cells.1; rw [List.length_map] at this; show _ = _; omega
  have HPL : Hid (ws.length = n2) := write_len h.pend
  clear h
  have hb0 : Below w.heap.size w w := Below.refl _ _
  go_enter Try.func53, Try.ntmps53
  go_upto_region 1 with fail
  obtain ⟨qv1, hqv1⟩ : ∃ q, q = (w).heap.size := ⟨_, rfl⟩
  obtain ⟨w1, hW1⟩ : ∃ W, W = (w).alloc (.cells #[.slice oCx n1 pCx, .slice oPx n2 pPx] 27) := ⟨_, rfl⟩
  have hz1 : (w).heap.size = qv1 := hqv1.symm
  first | rw [← hW1, ← hqv1] | rw [← hW1]
  have hs1 : w1.heap.size = qv1 + 1 := by rw [hW1, ← hz1]; simp
  have bw : Below (w).heap.size (w) w1 := by rw [hW1]; exact (Below.refl _ _).alloc (Nat.le_refl _) _
  have hb1 : Below w.heap.size w (w1) := hb0.trans (bw.mono hb0.size)
  have HM1 : Hid ((w).heap.size ≤ (w1).heap.size) := bw.size
  have HOCx_1 : Hid ((w1).ownsRow B 9 1 (.slice oCx n1 pCx) n1 (cs.map Value.string)) := owns_below HOCx_0.out bw (fun g hg => owns_lt HOCx_0.out hg)
  have HOPx_1 : Hid ((w1).ownsRow B 67 2 (.slice oPx n2 pPx) n2 (flatWrite ws)) := owns_below HOPx_0.out bw (fun g hg => owns_lt HOPx_0.out hg)
  have HBv1_1 : Hid ((w1).heap[qv1]? = some (.cells #[.slice oCx n1 pCx, .slice oPx n2 pPx] 27)) := by show _ = _; rw [hW1, ← hz1]; exact heap_alloc_new _ _
  have HGv1 : Hid (w.heap.size ≤ qv1) := by show _ ≤ _; rw [← hz1]; exact hb0.size
  clear hb0 HOCx_0 HOPx_0 bw hW1 hz1
  obtain ⟨qv2, hqv2⟩ : ∃ q, q = qv1 + 1 := ⟨_, rfl⟩
  obtain ⟨w2, hW2⟩ : ∃ W, W = (w1).alloc (.cells #[.slice none 0 0, .slice none 0 0] 27) := ⟨_, rfl⟩
  have hz2 : (w1).heap.size = qv2 := by rw [hqv2]; exact hs1
  first | rw [← hW2, ← hqv2] | rw [← hW2]
  have hs2 : w2.heap.size = qv2 + 1 := by rw [hW2, ← hz2]; simp
  have bw : Below (w1).heap.size (w1) w2 := by rw [hW2]; exact (Below.refl _ _).alloc (Nat.le_refl _) _
  have hb2 : Below w.heap.size w (w2) := hb1.trans (bw.mono hb1.size)
  have HM2 : Hid ((w1).heap.size ≤ (w2).heap.size) := bw.size
  have HOCx_2 : Hid ((w2).ownsRow B 9 1 (.slice oCx n1 pCx) n1 (cs.map Value.string)) := owns_below HOCx_1.out bw (fun g hg => owns_lt HOCx_1.out hg)
  have HOPx_2 : Hid ((w2).ownsRow B 67 2 (.slice oPx n2 pPx) n2 (flatWrite ws)) := owns_below HOPx_1.out bw (fun g hg => owns_lt HOPx_1.out hg)
  have HBv1_2 : Hid ((w2).heap[qv1]? = some (.cells #[.slice oCx n1 pCx, .slice oPx n2 pPx] 27)) := blk_below HBv1_1.out bw
  have HNv1v2 : Hid (qv1 ≠ qv2) := fun e => by have h1 := (Array.getElem?_eq_some_iff.1 HBv1_1.out).1; omega
  have HBv2_2 : Hid ((w2).heap[qv2]? = some (.cells #[.slice none 0 0, .slice none 0 0] 27)) := by show _ = _; rw [hW2, ← hz2]; exact heap_alloc_new _ _
  have HGv2 : Hid (w.heap.size ≤ qv2) := by show _ ≤ _; rw [← hz2]; exact hb1.size
  clear hb1 HOCx_1 HOPx_1 HBv1_1 bw hW2 hz2
  clear hs2 hqv2 hs1 hqv1
  go_upto_region 1 with fail
  refine wp_region_held_drew (S := fun W => W.heap[qv1]? = some (.cells #[.slice oCx n1 pCx, .slice oPx n2 pPx] 27)) (by kernel_rfl) HBv1_2.out (fun _ => ?_)
  obtain ⟨w3, hX⟩ : ∃ X, X = w2.drew := ⟨_, rfl⟩
  have bw : Below w2.heap.size w2 w3 := by rw [hX]; exact (Below.refl _ _).drew
  rw [← hX]
  have hb3 : Below w.heap.size w (w3) := hb2.trans (bw.mono hb2.size)
  have HM3 : Hid ((w2).heap.size ≤ (w3).heap.size) := bw.size
  have HOCx_3 : Hid ((w3).ownsRow B 9 1 (.slice oCx n1 pCx) n1 (cs.map Value.string)) := owns_below HOCx_2.out bw (fun g hg => owns_lt HOCx_2.out hg)
  have HOPx_3 : Hid ((w3).ownsRow B 67 2 (.slice oPx n2 pPx) n2 (flatWrite ws)) := owns_below HOPx_2.out bw (fun g hg => owns_lt HOPx_2.out hg)
  have HBv1_3 : Hid ((w3).heap[qv1]? = some (.cells #[.slice oCx n1 pCx, .slice oPx n2 pPx] 27)) := blk_below HBv1_2.out bw
  have HBv2_3 : Hid ((w3).heap[qv2]? = some (.cells #[.slice none 0 0, .slice none 0 0] 27)) := blk_below HBv2_2.out bw
  have hS3 : w3.heap[qv1]? = some (.cells #[.slice oCx n1 pCx, .slice oPx n2 pPx] 27) := HBv1_3.out
  clear hb2 HOCx_2 HOPx_2 HBv1_2 HBv2_2 bw hX
  refine wpAnyH_takeD (i := 1) (v := .pointer (some ⟨qv1, 0, none⟩)) (some 4) rfl rfl (by kernel_rfl) (by kernel_rfl) (by kernel_rfl) (fun _ _ _ h => h) (Or.inl ⟨by rfl, by intro W _; go_simp⟩) hS3 ?_
  simp only [Act.put, List.setIfInBounds_toArray, List.set_cons_zero, List.set_cons_succ]
  refine wpAnyH_takeD (i := 2) (v := .slice oCx n1 pCx) (some 5) rfl rfl (by kernel_rfl) (by kernel_rfl) (by kernel_rfl) (fun _ _ _ h => h) (Or.inl ⟨by rfl, by intro W hW; have hhv1 := hW; have y0 := (cell_of hhv1 0).trans rfl; go_simp⟩) hS3 ?_
  simp only [Act.put, List.setIfInBounds_toArray, List.set_cons_zero, List.set_cons_succ]
  refine wpAnyH_takeD (i := 5) (v := .pointer (some ⟨qv1, 1, none⟩)) (some 8) rfl rfl (by kernel_rfl) (by kernel_rfl) (by kernel_rfl) (fun _ _ _ h => h) (Or.inl ⟨by rfl, by intro W _; go_simp⟩) hS3 ?_
  simp only [Act.put, List.setIfInBounds_toArray, List.set_cons_zero, List.set_cons_succ]
  refine wpAnyH_takeD (i := 6) (v := .slice oPx n2 pPx) (some 9) rfl rfl (by kernel_rfl) (by kernel_rfl) (by kernel_rfl) (fun _ _ _ h => h) (Or.inl ⟨by rfl, by intro W hW; have hhv1 := hW; have y1 := (cell_of hhv1 1).trans rfl; go_simp⟩) hS3 ?_
  simp only [Act.put, List.setIfInBounds_toArray, List.set_cons_zero, List.set_cons_succ]
  refine wpAnyH_ready (rs := [0, 4]) (by kernel_rfl) (by simp) ?_
  refine AllReadyH.cons rfl (fun K hK => ?_) (AllReadyH.cons rfl (fun K hK => ?_) AllReadyH.nil)
  · go_simp
    have bw : Below w3.heap.size w3 (w3.alloc (.cells #[] 9)) := (Below.refl _ _).alloc (Nat.le_refl _) _
    have hSA : (w3.alloc (.cells #[] 9)).heap[qv1]? = some (.cells #[.slice oCx n1 pCx, .slice oPx n2 pPx] 27) := blk_below HBv1_3.out bw
    refine hK.out _ _ hSA (fun _ => ?_)
    clear hK K hSA bw hS3
    obtain ⟨qv3, hqv3⟩ : ∃ o, o = w3.heap.size := ⟨_, rfl⟩
    obtain ⟨w4, hXj⟩ : ∃ X, X = (w3.alloc (.cells #[] 9)) := ⟨_, rfl⟩
    rw [← hqv3, ← hXj]
    have bw : Below w3.heap.size w3 w4 := by rw [hXj]; exact (Below.refl _ _).alloc (Nat.le_refl _) _
    have hb4 : Below w.heap.size w (w4) := hb3.trans (bw.mono hb3.size)
    have HM4 : Hid ((w3).heap.size ≤ (w4).heap.size) := bw.size
    have HOCx_4 : Hid ((w4).ownsRow B 9 1 (.slice oCx n1 pCx) n1 (cs.map Value.string)) := owns_below HOCx_3.out bw (fun g hg => owns_lt HOCx_3.out hg)
    have HOPx_4 : Hid ((w4).ownsRow B 67 2 (.slice oPx n2 pPx) n2 (flatWrite ws)) := owns_below HOPx_3.out bw (fun g hg => owns_lt HOPx_3.out hg)
    have HBv1_4 : Hid ((w4).heap[qv1]? = some (.cells #[.slice oCx n1 pCx, .slice oPx n2 pPx] 27)) := blk_below HBv1_3.out bw
    have HBv2_4 : Hid ((w4).heap[qv2]? = some (.cells #[.slice none 0 0, .slice none 0 0] 27)) := blk_below HBv2_3.out bw
    have HNv1v3 : Hid (qv1 ≠ qv3) := fun e => by have h1 := (Array.getElem?_eq_some_iff.1 HBv1_3.out).1; omega
    have HNv2v3 : Hid (qv2 ≠ qv3) := fun e => by have h1 := (Array.getElem?_eq_some_iff.1 HBv2_3.out).1; omega
    have HBv3_4 : Hid ((w4).heap[qv3]? = some (.cells #[] 9)) := by show _ = _; rw [hXj, hqv3]; exact heap_alloc_new _ _
    have HGv3 : Hid (w.heap.size ≤ qv3) := by show _ ≤ _; rw [hqv3]; exact hb3.size
    have hS4 : w4.heap[qv1]? = some (.cells #[.slice oCx n1 pCx, .slice oPx n2 pPx] 27) := HBv1_4.out
    have HQv3 : Hid ((w3).heap.size ≤ qv3) := by show _ ≤ _; omega
    clear hb3 HOCx_3 HOPx_3 HBv1_3 HBv2_3 bw hXj hqv3
    have HOEv3_4 : Hid ((w4).ownsRow w.heap.size 9 1 (.slice (some ⟨qv3, 0, none⟩) 0 0) 0 []) := ⟨rfl, .inr ⟨_, 0, #[], rfl, HGv3.out, HBv3_4.out, Nat.le_refl _, Nat.zero_le _, rfl, rfl⟩⟩
    have HIEv3 : Hid (∀ g, (Value.ownBlock (.slice (some ⟨qv3, 0, none⟩) 0 0)) = some g → g < (w4).heap.size) := fun g hg => owns_lt HOEv3_4.out hg
    have LOEv3 : Hid (∀ g, (Value.ownBlock (.slice (some ⟨qv3, 0, none⟩) 0 0)) = some g → (w3).heap.size ≤ g) := fun g hg => by simp [Value.ownBlock] at hg; have := HQv3.out; omega
    clear HBv3_4
    refine wpAnyH_ready (rs := [3, 4]) (by kernel_rfl) (by simp) ?_
    refine AllReadyH.cons rfl (fun K hK => ?_) (AllReadyH.cons rfl (fun K hK => ?_) AllReadyH.nil)
    · have h63 : 0 + n1 ≤ maxLen := by unfold maxLen; omega
      have h47 : (0 + n1) * 16 ≤ 140737488355328 := by omega
      refine step_append_src (w := w4) (by rfl) _ _ _ (by rfl) w.heap.size 9 i0s (.string ⟨#[]⟩) 1 16 Try.underlying24 his hz0s hz1s hz2s rfl (by decide) _ _ _ (by rfl) HOEv3_4.out _ _ _ (by rfl) (Src.texts HOCx_4.out) h63 h47 hb4.size ?_
      intro v1 w5 hown2 hgrow
      rw [Nat.zero_add, List.nil_append] at hown2
      have hb5 : Below w.heap.size w (w5) := hb4.grown hgrow hb4.size (fun g hg => owns_ge HOEv3_4.out hg)
      have HM5 : Hid ((w4).heap.size ≤ w5.heap.size) := hgrow.size
      have HOCx_5 : Hid ((w5).ownsRow B 9 1 (.slice oCx n1 pCx) n1 (cs.map Value.string)) := owns_same HOCx_4.out (fun g hg => hgrow.block g (owns_lt HOCx_4.out hg) (fun e => (fun e => by have h1 := LOEv3.out g e; have h2 := HICx.out g hg; have := HM1.out; have := HM2.out; have := HM3.out; have := HM4.out; omega) e.symm))
      have HOPx_5 : Hid ((w5).ownsRow B 67 2 (.slice oPx n2 pPx) n2 (flatWrite ws)) := owns_same HOPx_4.out (fun g hg => hgrow.block g (owns_lt HOPx_4.out hg) (fun e => (own_type_ne HOPx_4.out HOEv3_4.out (by decide) g hg) e.symm))
      have HBv1_5 : Hid ((w5).heap[qv1]? = some (.cells #[.slice oCx n1 pCx, .slice oPx n2 pPx] 27)) := (hgrow.block _ (Array.getElem?_eq_some_iff.1 HBv1_4.out).1 (fun e => own_ne HOEv3_4.out HBv1_4.out (by decide) _ e.symm rfl)).trans HBv1_4.out
      have HBv2_5 : Hid ((w5).heap[qv2]? = some (.cells #[.slice none 0 0, .slice none 0 0] 27)) := (hgrow.block _ (Array.getElem?_eq_some_iff.1 HBv2_4.out).1 (fun e => own_ne HOEv3_4.out HBv2_4.out (by decide) _ e.symm rfl)).trans HBv2_4.out
      obtain ⟨oEv3p, pEv3p, rfl⟩ := slice_of_owns hown2
      have HOEv3p_5 : Hid ((w5).ownsRow w.heap.size 9 1 (.slice oEv3p n1 pEv3p) n1 (cs.map Value.string)) := hown2
      clear hb4 HOCx_4 HOPx_4 HOEv3_4 HBv1_4 HBv2_4 hown2 hgrow h63 h47
      simp only [Act.put, List.setIfInBounds_toArray]
      have hS5 : w5.heap[qv1]? = some (.cells #[.slice oCx n1 pCx, .slice oPx n2 pPx] 27) := HBv1_5.out
      refine hK.out _ _ hS5 (fun _ => ?_)
      clear hK K hS4
      refine wpAnyH_ready (rs := [4]) (by kernel_rfl) (by simp) ?_
      refine AllReadyH.cons rfl (fun K hK => ?_) AllReadyH.nil
      go_simp
      have bw : Below w5.heap.size w5 (w5.alloc (.cells #[] 67)) := (Below.refl _ _).alloc (Nat.le_refl _) _
      have hSA : (w5.alloc (.cells #[] 67)).heap[qv1]? = some (.cells #[.slice oCx n1 pCx, .slice oPx n2 pPx] 27) := blk_below HBv1_5.out bw
      refine hK.out _ _ hSA (fun _ => ?_)
      clear hK K hSA bw hS5
      obtain ⟨qv4, hqv4⟩ : ∃ o, o = w5.heap.size := ⟨_, rfl⟩
      obtain ⟨w6, hXj⟩ : ∃ X, X = (w5.alloc (.cells #[] 67)) := ⟨_, rfl⟩
      rw [← hqv4, ← hXj]
      have bw : Below w5.heap.size w5 w6 := by rw [hXj]; exact (Below.refl _ _).alloc (Nat.le_refl _) _
      have hb6 : Below w.heap.size w (w6) := hb5.trans (bw.mono hb5.size)
      have HM6 : Hid ((w5).heap.size ≤ (w6).heap.size) := bw.size
      have HOCx_6 : Hid ((w6).ownsRow B 9 1 (.slice oCx n1 pCx) n1 (cs.map Value.string)) := owns_below HOCx_5.out bw (fun g hg => owns_lt HOCx_5.out hg)
      have HOPx_6 : Hid ((w6).ownsRow B 67 2 (.slice oPx n2 pPx) n2 (flatWrite ws)) := owns_below HOPx_5.out bw (fun g hg => owns_lt HOPx_5.out hg)
      have HOEv3p_6 : Hid ((w6).ownsRow w.heap.size 9 1 (.slice oEv3p n1 pEv3p) n1 (cs.map Value.string)) := owns_below HOEv3p_5.out bw (fun g hg => owns_lt HOEv3p_5.out hg)
      have HBv1_6 : Hid ((w6).heap[qv1]? = some (.cells #[.slice oCx n1 pCx, .slice oPx n2 pPx] 27)) := blk_below HBv1_5.out bw
      have HBv2_6 : Hid ((w6).heap[qv2]? = some (.cells #[.slice none 0 0, .slice none 0 0] 27)) := blk_below HBv2_5.out bw
      have HNv1v4 : Hid (qv1 ≠ qv4) := fun e => by have h1 := (Array.getElem?_eq_some_iff.1 HBv1_5.out).1; omega
      have HNv2v4 : Hid (qv2 ≠ qv4) := fun e => by have h1 := (Array.getElem?_eq_some_iff.1 HBv2_5.out).1; omega
      have HBv4_6 : Hid ((w6).heap[qv4]? = some (.cells #[] 67)) := by show _ = _; rw [hXj, hqv4]; exact heap_alloc_new _ _
      have HGv4 : Hid (w.heap.size ≤ qv4) := by show _ ≤ _; rw [hqv4]; exact hb5.size
      have hS6 : w6.heap[qv1]? = some (.cells #[.slice oCx n1 pCx, .slice oPx n2 pPx] 27) := HBv1_6.out
      have HQv4 : Hid ((w5).heap.size ≤ qv4) := by show _ ≤ _; omega
      clear hb5 HOCx_5 HOPx_5 HOEv3p_5 HBv1_5 HBv2_5 bw hXj hqv4
      have HOEv4_6 : Hid ((w6).ownsRow w.heap.size 67 2 (.slice (some ⟨qv4, 0, none⟩) 0 0) 0 []) := ⟨rfl, .inr ⟨_, 0, #[], rfl, HGv4.out, HBv4_6.out, Nat.le_refl _, Nat.zero_le _, rfl, rfl⟩⟩
      have HIEv4 : Hid (∀ g, (Value.ownBlock (.slice (some ⟨qv4, 0, none⟩) 0 0)) = some g → g < (w6).heap.size) := fun g hg => owns_lt HOEv4_6.out hg
      have LOEv4 : Hid (∀ g, (Value.ownBlock (.slice (some ⟨qv4, 0, none⟩) 0 0)) = some g → (w5).heap.size ≤ g) := fun g hg => by simp [Value.ownBlock] at hg; have := HQv4.out; omega
      clear HBv4_6
      refine wpAnyH_ready (rs := [7]) (by kernel_rfl) (by simp) ?_
      refine AllReadyH.cons rfl (fun K hK => ?_) AllReadyH.nil
      have h63 : 0 + n2 ≤ maxLen := by unfold maxLen; omega
      have h47 : (0 + n2) * 24 ≤ 140737488355328 := by omega
      refine step_append_src (w := w6) (by rfl) _ _ _ (by rfl) w.heap.size 67 i0w (.agg #[.int .i64 0, .string ⟨#[]⟩]) 2 24 Try.underlying25 hiw hz0w hz1w hz2w rfl (by decide) _ _ _ (by rfl) HOEv4_6.out _ _ _ (by rfl) (Src.of_owns HOPx_6.out (flatWrite_ones _)) h63 h47 hb6.size ?_
      intro v1 w7 hown2 hgrow
      rw [Nat.zero_add, List.nil_append] at hown2
      have hb7 : Below w.heap.size w (w7) := hb6.grown hgrow hb6.size (fun g hg => owns_ge HOEv4_6.out hg)
      have HM7 : Hid ((w6).heap.size ≤ w7.heap.size) := hgrow.size
      have HOCx_7 : Hid ((w7).ownsRow B 9 1 (.slice oCx n1 pCx) n1 (cs.map Value.string)) := owns_same HOCx_6.out (fun g hg => hgrow.block g (owns_lt HOCx_6.out hg) (fun e => (own_type_ne HOCx_6.out HOEv4_6.out (by decide) g hg) e.symm))
      have HOPx_7 : Hid ((w7).ownsRow B 67 2 (.slice oPx n2 pPx) n2 (flatWrite ws)) := owns_same HOPx_6.out (fun g hg => hgrow.block g (owns_lt HOPx_6.out hg) (fun e => (fun e => by have h1 := LOEv4.out g e; have h2 := HIPx.out g hg; have := HM1.out; have := HM2.out; have := HM3.out; have := HM4.out; have := HM5.out; have := HM6.out; omega) e.symm))
      have HOEv3p_7 : Hid ((w7).ownsRow w.heap.size 9 1 (.slice oEv3p n1 pEv3p) n1 (cs.map Value.string)) := owns_same HOEv3p_6.out (fun g hg => hgrow.block g (owns_lt HOEv3p_6.out hg) (fun e => (own_type_ne HOEv3p_6.out HOEv4_6.out (by decide) g hg) e.symm))
      have HBv1_7 : Hid ((w7).heap[qv1]? = some (.cells #[.slice oCx n1 pCx, .slice oPx n2 pPx] 27)) := (hgrow.block _ (Array.getElem?_eq_some_iff.1 HBv1_6.out).1 (fun e => own_ne HOEv4_6.out HBv1_6.out (by decide) _ e.symm rfl)).trans HBv1_6.out
      have HBv2_7 : Hid ((w7).heap[qv2]? = some (.cells #[.slice none 0 0, .slice none 0 0] 27)) := (hgrow.block _ (Array.getElem?_eq_some_iff.1 HBv2_6.out).1 (fun e => own_ne HOEv4_6.out HBv2_6.out (by decide) _ e.symm rfl)).trans HBv2_6.out
      obtain ⟨oEv4p, pEv4p, rfl⟩ := slice_of_owns hown2
      have HOEv4p_7 : Hid ((w7).ownsRow w.heap.size 67 2 (.slice oEv4p n2 pEv4p) n2 (flatWrite ws)) := hown2
      clear hb6 HOCx_6 HOPx_6 HOEv3p_6 HOEv4_6 HBv1_6 HBv2_6 hown2 hgrow h63 h47
      simp only [Act.put]
      have hS7 : w7.heap[qv1]? = some (.cells #[.slice oCx n1 pCx, .slice oPx n2 pPx] 27) := HBv1_7.out
      refine hK.out _ _ hS7 (fun _ => ?_)
      clear hK K hS6
      refine wpAnyH_takeD (i := 8) (v := .agg #[.slice oEv3p n1 pEv3p, .slice oEv4p n2 pEv4p]) (some 11) rfl rfl (by kernel_rfl) (by kernel_rfl) (by kernel_rfl) (fun _ _ _ h => h) (Or.inl ⟨by rfl, by intro W _; go_simp⟩) hS7 ?_
      simp only [Act.put]
      refine wpAnyH_ready (rs := [9]) (by kernel_rfl) (by simp) ?_
      refine AllReadyH.cons rfl (fun K hK => ?_) AllReadyH.nil
      have ce0 : (w7).cell? ⟨qv2, 0, none⟩ = some (.slice none 0 0) := (cell_of HBv2_7.out 0).trans rfl
      have fe0 : (w7).frozen? ⟨qv2, 0, none⟩ = false := frozen_of HBv2_7.out 0
      have ce1 : (w7).cell? ⟨qv2, 1, none⟩ = some (.slice none 0 0) := (cell_of HBv2_7.out 1).trans rfl
      have fe1 : (w7).frozen? ⟨qv2, 1, none⟩ = false := frozen_of HBv2_7.out 1
      obtain ⟨w8, hY⟩ : ∃ Y, Y = ((w7.setCell ⟨qv2, 0, none⟩ (.slice oEv3p n1 pEv3p)).setCell ⟨qv2, 1, none⟩ (.slice oEv4p n2 pEv4p)) := ⟨_, rfl⟩
      have HY : Hid (((w7.setCell ⟨qv2, 0, none⟩ (.slice oEv3p n1 pEv3p)).setCell ⟨qv2, 1, none⟩ (.slice oEv4p n2 pEv4p)) = w8) := hY.symm
      have hb8 : Below w.heap.size w (w8) := by rw [hY]; exact ((hb7.setCell (p := ⟨qv2, 0, none⟩) HGv2.out _).setCell (p := ⟨qv2, 1, none⟩) HGv2.out _)
      have HM8 : Hid ((w7).heap.size ≤ w8.heap.size) := by show _ ≤ _; rw [hY]; simp
      have HOCx_8 : Hid ((w8).ownsRow B 9 1 (.slice oCx n1 pCx) n1 (cs.map Value.string)) := by show World.ownsRow _ _ _ _ _ _ _; rw [hY]; exact owns_same HOCx_7.out (fun g hg => by have hne := own_ne HOCx_7.out HBv2_7.out (by decide) g hg; rw [heap_setCell_other _ _ g _ hne, heap_setCell_other _ _ g _ hne])
      have HOPx_8 : Hid ((w8).ownsRow B 67 2 (.slice oPx n2 pPx) n2 (flatWrite ws)) := by show World.ownsRow _ _ _ _ _ _ _; rw [hY]; exact owns_same HOPx_7.out (fun g hg => by have hne := own_ne HOPx_7.out HBv2_7.out (by decide) g hg; rw [heap_setCell_other _ _ g _ hne, heap_setCell_other _ _ g _ hne])
      have HOEv3p_8 : Hid ((w8).ownsRow w.heap.size 9 1 (.slice oEv3p n1 pEv3p) n1 (cs.map Value.string)) := by show World.ownsRow _ _ _ _ _ _ _; rw [hY]; exact owns_same HOEv3p_7.out (fun g hg => by have hne := own_ne HOEv3p_7.out HBv2_7.out (by decide) g hg; rw [heap_setCell_other _ _ g _ hne, heap_setCell_other _ _ g _ hne])
      have HOEv4p_8 : Hid ((w8).ownsRow w.heap.size 67 2 (.slice oEv4p n2 pEv4p) n2 (flatWrite ws)) := by show World.ownsRow _ _ _ _ _ _ _; rw [hY]; exact owns_same HOEv4p_7.out (fun g hg => by have hne := own_ne HOEv4p_7.out HBv2_7.out (by decide) g hg; rw [heap_setCell_other _ _ g _ hne, heap_setCell_other _ _ g _ hne])
      have HBv1_8 : Hid ((w8).heap[qv1]? = some (.cells #[.slice oCx n1 pCx, .slice oPx n2 pPx] 27)) := by show _ = _; rw [hY, heap_setCell_other _ _ _ _ HNv1v2.out, heap_setCell_other _ _ _ _ HNv1v2.out]; exact HBv1_7.out
      have HBv2_8 : Hid ((w8).heap[qv2]? = some (.cells #[.slice oEv3p n1 pEv3p, .slice oEv4p n2 pEv4p] 27)) := by show _ = _; rw [hY]; have h := (heap_set _ qv2 1 _ _ _ (.slice oEv4p n2 pEv4p) (heap_set _ qv2 0 _ _ _ (.slice oEv3p n1 pEv3p) HBv2_7.out)); simpa using h
      clear hY hb7 HOCx_7 HOPx_7 HOEv3p_7 HOEv4p_7 HBv1_7 HBv2_7
      go_simp
      rw [HY.out]
      have hS8 : w8.heap[qv1]? = some (.cells #[.slice oCx n1 pCx, .slice oPx n2 pPx] 27) := HBv1_8.out
      refine hK.out _ _ hS8 (fun _ => ?_)
      clear hK K HY hS7 ce0 fe0 ce1 fe1
      clear hS8
      refine wpAnyH_done (by kernel_rfl) ?_ _
      go_wp2_with fail
      have kv2_0 : (w8).cell? ⟨qv2, 0, none⟩ = some (.slice oEv3p n1 pEv3p) := (cell_of HBv2_8.out 0).trans rfl
      have kv2_1 : (w8).cell? ⟨qv2, 1, none⟩ = some (.slice oEv4p n2 pEv4p) := (cell_of HBv2_8.out 1).trans rfl
      refine bodyPost_ret (v := .agg #[.slice oEv3p n1 pEv3p, .slice oEv4p n2 pEv4p]) (by simp [results, Try.results53, go_sem, kv2_0, kv2_1]) rfl ?_
      exact ⟨_, _, rfl, ⟨by rw [HCL.out]; exact HOEv3p_8.out, by rw [HPL.out]; exact HOEv4p_8.out⟩, hb8⟩
    · go_simp
      have bw : Below w4.heap.size w4 (w4.alloc (.cells #[] 67)) := (Below.refl _ _).alloc (Nat.le_refl _) _
      have hSA : (w4.alloc (.cells #[] 67)).heap[qv1]? = some (.cells #[.slice oCx n1 pCx, .slice oPx n2 pPx] 27) := blk_below HBv1_4.out bw
      refine hK.out _ _ hSA (fun _ => ?_)
      clear hK K hSA bw hS4
      obtain ⟨qv4, hqv4⟩ : ∃ o, o = w4.heap.size := ⟨_, rfl⟩
      obtain ⟨w5, hXj⟩ : ∃ X, X = (w4.alloc (.cells #[] 67)) := ⟨_, rfl⟩
      rw [← hqv4, ← hXj]
      have bw : Below w4.heap.size w4 w5 := by rw [hXj]; exact (Below.refl _ _).alloc (Nat.le_refl _) _
      have hb5 : Below w.heap.size w (w5) := hb4.trans (bw.mono hb4.size)
      have HM5 : Hid ((w4).heap.size ≤ (w5).heap.size) := bw.size
      have HOCx_5 : Hid ((w5).ownsRow B 9 1 (.slice oCx n1 pCx) n1 (cs.map Value.string)) := owns_below HOCx_4.out bw (fun g hg => owns_lt HOCx_4.out hg)
      have HOPx_5 : Hid ((w5).ownsRow B 67 2 (.slice oPx n2 pPx) n2 (flatWrite ws)) := owns_below HOPx_4.out bw (fun g hg => owns_lt HOPx_4.out hg)
      have HOEv3_5 : Hid ((w5).ownsRow w.heap.size 9 1 (.slice (some ⟨qv3, 0, none⟩) 0 0) 0 []) := owns_below HOEv3_4.out bw (fun g hg => owns_lt HOEv3_4.out hg)
      have HBv1_5 : Hid ((w5).heap[qv1]? = some (.cells #[.slice oCx n1 pCx, .slice oPx n2 pPx] 27)) := blk_below HBv1_4.out bw
      have HBv2_5 : Hid ((w5).heap[qv2]? = some (.cells #[.slice none 0 0, .slice none 0 0] 27)) := blk_below HBv2_4.out bw
      have HNv1v4 : Hid (qv1 ≠ qv4) := fun e => by have h1 := (Array.getElem?_eq_some_iff.1 HBv1_4.out).1; omega
      have HNv2v4 : Hid (qv2 ≠ qv4) := fun e => by have h1 := (Array.getElem?_eq_some_iff.1 HBv2_4.out).1; omega
      have HBv4_5 : Hid ((w5).heap[qv4]? = some (.cells #[] 67)) := by show _ = _; rw [hXj, hqv4]; exact heap_alloc_new _ _
      have HGv4 : Hid (w.heap.size ≤ qv4) := by show _ ≤ _; rw [hqv4]; exact hb4.size
      have hS5 : w5.heap[qv1]? = some (.cells #[.slice oCx n1 pCx, .slice oPx n2 pPx] 27) := HBv1_5.out
      have HQv4 : Hid ((w4).heap.size ≤ qv4) := by show _ ≤ _; omega
      clear hb4 HOCx_4 HOPx_4 HOEv3_4 HBv1_4 HBv2_4 bw hXj hqv4
      have HOEv4_5 : Hid ((w5).ownsRow w.heap.size 67 2 (.slice (some ⟨qv4, 0, none⟩) 0 0) 0 []) := ⟨rfl, .inr ⟨_, 0, #[], rfl, HGv4.out, HBv4_5.out, Nat.le_refl _, Nat.zero_le _, rfl, rfl⟩⟩
      have HIEv4 : Hid (∀ g, (Value.ownBlock (.slice (some ⟨qv4, 0, none⟩) 0 0)) = some g → g < (w5).heap.size) := fun g hg => owns_lt HOEv4_5.out hg
      have LOEv4 : Hid (∀ g, (Value.ownBlock (.slice (some ⟨qv4, 0, none⟩) 0 0)) = some g → (w4).heap.size ≤ g) := fun g hg => by simp [Value.ownBlock] at hg; have := HQv4.out; omega
      clear HBv4_5
      refine wpAnyH_ready (rs := [3]) (by kernel_rfl) (by simp) ?_
      refine AllReadyH.cons rfl (fun K hK => ?_) AllReadyH.nil
      have h63 : 0 + n1 ≤ maxLen := by unfold maxLen; omega
      have h47 : (0 + n1) * 16 ≤ 140737488355328 := by omega
      refine step_append_src (w := w5) (by rfl) _ _ _ (by rfl) w.heap.size 9 i0s (.string ⟨#[]⟩) 1 16 Try.underlying24 his hz0s hz1s hz2s rfl (by decide) _ _ _ (by rfl) HOEv3_5.out _ _ _ (by rfl) (Src.texts HOCx_5.out) h63 h47 hb5.size ?_
      intro v1 w6 hown2 hgrow
      rw [Nat.zero_add, List.nil_append] at hown2
      have hb6 : Below w.heap.size w (w6) := hb5.grown hgrow hb5.size (fun g hg => owns_ge HOEv3_5.out hg)
      have HM6 : Hid ((w5).heap.size ≤ w6.heap.size) := hgrow.size
      have HOCx_6 : Hid ((w6).ownsRow B 9 1 (.slice oCx n1 pCx) n1 (cs.map Value.string)) := owns_same HOCx_5.out (fun g hg => hgrow.block g (owns_lt HOCx_5.out hg) (fun e => (fun e => by have h1 := LOEv3.out g e; have h2 := HICx.out g hg; have := HM1.out; have := HM2.out; have := HM3.out; have := HM4.out; omega) e.symm))
      have HOPx_6 : Hid ((w6).ownsRow B 67 2 (.slice oPx n2 pPx) n2 (flatWrite ws)) := owns_same HOPx_5.out (fun g hg => hgrow.block g (owns_lt HOPx_5.out hg) (fun e => (own_type_ne HOPx_5.out HOEv3_5.out (by decide) g hg) e.symm))
      have HOEv4_6 : Hid ((w6).ownsRow w.heap.size 67 2 (.slice (some ⟨qv4, 0, none⟩) 0 0) 0 []) := owns_same HOEv4_5.out (fun g hg => hgrow.block g (owns_lt HOEv4_5.out hg) (fun e => (own_type_ne HOEv4_5.out HOEv3_5.out (by decide) g hg) e.symm))
      have HBv1_6 : Hid ((w6).heap[qv1]? = some (.cells #[.slice oCx n1 pCx, .slice oPx n2 pPx] 27)) := (hgrow.block _ (Array.getElem?_eq_some_iff.1 HBv1_5.out).1 (fun e => own_ne HOEv3_5.out HBv1_5.out (by decide) _ e.symm rfl)).trans HBv1_5.out
      have HBv2_6 : Hid ((w6).heap[qv2]? = some (.cells #[.slice none 0 0, .slice none 0 0] 27)) := (hgrow.block _ (Array.getElem?_eq_some_iff.1 HBv2_5.out).1 (fun e => own_ne HOEv3_5.out HBv2_5.out (by decide) _ e.symm rfl)).trans HBv2_5.out
      obtain ⟨oEv3p, pEv3p, rfl⟩ := slice_of_owns hown2
      have HOEv3p_6 : Hid ((w6).ownsRow w.heap.size 9 1 (.slice oEv3p n1 pEv3p) n1 (cs.map Value.string)) := hown2
      clear hb5 HOCx_5 HOPx_5 HOEv3_5 HOEv4_5 HBv1_5 HBv2_5 hown2 hgrow h63 h47
      simp only [Act.put, List.setIfInBounds_toArray]
      have hS6 : w6.heap[qv1]? = some (.cells #[.slice oCx n1 pCx, .slice oPx n2 pPx] 27) := HBv1_6.out
      refine hK.out _ _ hS6 (fun _ => ?_)
      clear hK K hS5
      refine wpAnyH_ready (rs := [7]) (by kernel_rfl) (by simp) ?_
      refine AllReadyH.cons rfl (fun K hK => ?_) AllReadyH.nil
      have h63 : 0 + n2 ≤ maxLen := by unfold maxLen; omega
      have h47 : (0 + n2) * 24 ≤ 140737488355328 := by omega
      refine step_append_src (w := w6) (by rfl) _ _ _ (by rfl) w.heap.size 67 i0w (.agg #[.int .i64 0, .string ⟨#[]⟩]) 2 24 Try.underlying25 hiw hz0w hz1w hz2w rfl (by decide) _ _ _ (by rfl) HOEv4_6.out _ _ _ (by rfl) (Src.of_owns HOPx_6.out (flatWrite_ones _)) h63 h47 hb6.size ?_
      intro v1 w7 hown2 hgrow
      rw [Nat.zero_add, List.nil_append] at hown2
      have hb7 : Below w.heap.size w (w7) := hb6.grown hgrow hb6.size (fun g hg => owns_ge HOEv4_6.out hg)
      have HM7 : Hid ((w6).heap.size ≤ w7.heap.size) := hgrow.size
      have HOCx_7 : Hid ((w7).ownsRow B 9 1 (.slice oCx n1 pCx) n1 (cs.map Value.string)) := owns_same HOCx_6.out (fun g hg => hgrow.block g (owns_lt HOCx_6.out hg) (fun e => (own_type_ne HOCx_6.out HOEv4_6.out (by decide) g hg) e.symm))
      have HOPx_7 : Hid ((w7).ownsRow B 67 2 (.slice oPx n2 pPx) n2 (flatWrite ws)) := owns_same HOPx_6.out (fun g hg => hgrow.block g (owns_lt HOPx_6.out hg) (fun e => (fun e => by have h1 := LOEv4.out g e; have h2 := HIPx.out g hg; have := HM1.out; have := HM2.out; have := HM3.out; have := HM4.out; have := HM5.out; omega) e.symm))
      have HOEv3p_7 : Hid ((w7).ownsRow w.heap.size 9 1 (.slice oEv3p n1 pEv3p) n1 (cs.map Value.string)) := owns_same HOEv3p_6.out (fun g hg => hgrow.block g (owns_lt HOEv3p_6.out hg) (fun e => (own_type_ne HOEv3p_6.out HOEv4_6.out (by decide) g hg) e.symm))
      have HBv1_7 : Hid ((w7).heap[qv1]? = some (.cells #[.slice oCx n1 pCx, .slice oPx n2 pPx] 27)) := (hgrow.block _ (Array.getElem?_eq_some_iff.1 HBv1_6.out).1 (fun e => own_ne HOEv4_6.out HBv1_6.out (by decide) _ e.symm rfl)).trans HBv1_6.out
      have HBv2_7 : Hid ((w7).heap[qv2]? = some (.cells #[.slice none 0 0, .slice none 0 0] 27)) := (hgrow.block _ (Array.getElem?_eq_some_iff.1 HBv2_6.out).1 (fun e => own_ne HOEv4_6.out HBv2_6.out (by decide) _ e.symm rfl)).trans HBv2_6.out
      obtain ⟨oEv4p, pEv4p, rfl⟩ := slice_of_owns hown2
      have HOEv4p_7 : Hid ((w7).ownsRow w.heap.size 67 2 (.slice oEv4p n2 pEv4p) n2 (flatWrite ws)) := hown2
      clear hb6 HOCx_6 HOPx_6 HOEv4_6 HOEv3p_6 HBv1_6 HBv2_6 hown2 hgrow h63 h47
      simp only [Act.put]
      have hS7 : w7.heap[qv1]? = some (.cells #[.slice oCx n1 pCx, .slice oPx n2 pPx] 27) := HBv1_7.out
      refine hK.out _ _ hS7 (fun _ => ?_)
      clear hK K hS6
      refine wpAnyH_takeD (i := 8) (v := .agg #[.slice oEv3p n1 pEv3p, .slice oEv4p n2 pEv4p]) (some 11) rfl rfl (by kernel_rfl) (by kernel_rfl) (by kernel_rfl) (fun _ _ _ h => h) (Or.inl ⟨by rfl, by intro W _; go_simp⟩) hS7 ?_
      simp only [Act.put]
      refine wpAnyH_ready (rs := [9]) (by kernel_rfl) (by simp) ?_
      refine AllReadyH.cons rfl (fun K hK => ?_) AllReadyH.nil
      have ce0 : (w7).cell? ⟨qv2, 0, none⟩ = some (.slice none 0 0) := (cell_of HBv2_7.out 0).trans rfl
      have fe0 : (w7).frozen? ⟨qv2, 0, none⟩ = false := frozen_of HBv2_7.out 0
      have ce1 : (w7).cell? ⟨qv2, 1, none⟩ = some (.slice none 0 0) := (cell_of HBv2_7.out 1).trans rfl
      have fe1 : (w7).frozen? ⟨qv2, 1, none⟩ = false := frozen_of HBv2_7.out 1
      obtain ⟨w8, hY⟩ : ∃ Y, Y = ((w7.setCell ⟨qv2, 0, none⟩ (.slice oEv3p n1 pEv3p)).setCell ⟨qv2, 1, none⟩ (.slice oEv4p n2 pEv4p)) := ⟨_, rfl⟩
      have HY : Hid (((w7.setCell ⟨qv2, 0, none⟩ (.slice oEv3p n1 pEv3p)).setCell ⟨qv2, 1, none⟩ (.slice oEv4p n2 pEv4p)) = w8) := hY.symm
      have hb8 : Below w.heap.size w (w8) := by rw [hY]; exact ((hb7.setCell (p := ⟨qv2, 0, none⟩) HGv2.out _).setCell (p := ⟨qv2, 1, none⟩) HGv2.out _)
      have HM8 : Hid ((w7).heap.size ≤ w8.heap.size) := by show _ ≤ _; rw [hY]; simp
      have HOCx_8 : Hid ((w8).ownsRow B 9 1 (.slice oCx n1 pCx) n1 (cs.map Value.string)) := by show World.ownsRow _ _ _ _ _ _ _; rw [hY]; exact owns_same HOCx_7.out (fun g hg => by have hne := own_ne HOCx_7.out HBv2_7.out (by decide) g hg; rw [heap_setCell_other _ _ g _ hne, heap_setCell_other _ _ g _ hne])
      have HOPx_8 : Hid ((w8).ownsRow B 67 2 (.slice oPx n2 pPx) n2 (flatWrite ws)) := by show World.ownsRow _ _ _ _ _ _ _; rw [hY]; exact owns_same HOPx_7.out (fun g hg => by have hne := own_ne HOPx_7.out HBv2_7.out (by decide) g hg; rw [heap_setCell_other _ _ g _ hne, heap_setCell_other _ _ g _ hne])
      have HOEv3p_8 : Hid ((w8).ownsRow w.heap.size 9 1 (.slice oEv3p n1 pEv3p) n1 (cs.map Value.string)) := by show World.ownsRow _ _ _ _ _ _ _; rw [hY]; exact owns_same HOEv3p_7.out (fun g hg => by have hne := own_ne HOEv3p_7.out HBv2_7.out (by decide) g hg; rw [heap_setCell_other _ _ g _ hne, heap_setCell_other _ _ g _ hne])
      have HOEv4p_8 : Hid ((w8).ownsRow w.heap.size 67 2 (.slice oEv4p n2 pEv4p) n2 (flatWrite ws)) := by show World.ownsRow _ _ _ _ _ _ _; rw [hY]; exact owns_same HOEv4p_7.out (fun g hg => by have hne := own_ne HOEv4p_7.out HBv2_7.out (by decide) g hg; rw [heap_setCell_other _ _ g _ hne, heap_setCell_other _ _ g _ hne])
      have HBv1_8 : Hid ((w8).heap[qv1]? = some (.cells #[.slice oCx n1 pCx, .slice oPx n2 pPx] 27)) := by show _ = _; rw [hY, heap_setCell_other _ _ _ _ HNv1v2.out, heap_setCell_other _ _ _ _ HNv1v2.out]; exact HBv1_7.out
      have HBv2_8 : Hid ((w8).heap[qv2]? = some (.cells #[.slice oEv3p n1 pEv3p, .slice oEv4p n2 pEv4p] 27)) := by show _ = _; rw [hY]; have h := (heap_set _ qv2 1 _ _ _ (.slice oEv4p n2 pEv4p) (heap_set _ qv2 0 _ _ _ (.slice oEv3p n1 pEv3p) HBv2_7.out)); simpa using h
      clear hY hb7 HOCx_7 HOPx_7 HOEv3p_7 HOEv4p_7 HBv1_7 HBv2_7
      go_simp
      rw [HY.out]
      have hS8 : w8.heap[qv1]? = some (.cells #[.slice oCx n1 pCx, .slice oPx n2 pPx] 27) := HBv1_8.out
      refine hK.out _ _ hS8 (fun _ => ?_)
      clear hK K HY hS7 ce0 fe0 ce1 fe1
      clear hS8
      refine wpAnyH_done (by kernel_rfl) ?_ _
      go_wp2_with fail
      have kv2_0 : (w8).cell? ⟨qv2, 0, none⟩ = some (.slice oEv3p n1 pEv3p) := (cell_of HBv2_8.out 0).trans rfl
      have kv2_1 : (w8).cell? ⟨qv2, 1, none⟩ = some (.slice oEv4p n2 pEv4p) := (cell_of HBv2_8.out 1).trans rfl
      refine bodyPost_ret (v := .agg #[.slice oEv3p n1 pEv3p, .slice oEv4p n2 pEv4p]) (by simp [results, Try.results53, go_sem, kv2_0, kv2_1]) rfl ?_
      exact ⟨_, _, rfl, ⟨by rw [HCL.out]; exact HOEv3p_8.out, by rw [HPL.out]; exact HOEv4p_8.out⟩, hb8⟩
  · go_simp
    have bw : Below w3.heap.size w3 (w3.alloc (.cells #[] 67)) := (Below.refl _ _).alloc (Nat.le_refl _) _
    have hSA : (w3.alloc (.cells #[] 67)).heap[qv1]? = some (.cells #[.slice oCx n1 pCx, .slice oPx n2 pPx] 27) := blk_below HBv1_3.out bw
    refine hK.out _ _ hSA (fun _ => ?_)
    clear hK K hSA bw hS3
    obtain ⟨qv3, hqv3⟩ : ∃ o, o = w3.heap.size := ⟨_, rfl⟩
    obtain ⟨w4, hXj⟩ : ∃ X, X = (w3.alloc (.cells #[] 67)) := ⟨_, rfl⟩
    rw [← hqv3, ← hXj]
    have bw : Below w3.heap.size w3 w4 := by rw [hXj]; exact (Below.refl _ _).alloc (Nat.le_refl _) _
    have hb4 : Below w.heap.size w (w4) := hb3.trans (bw.mono hb3.size)
    have HM4 : Hid ((w3).heap.size ≤ (w4).heap.size) := bw.size
    have HOCx_4 : Hid ((w4).ownsRow B 9 1 (.slice oCx n1 pCx) n1 (cs.map Value.string)) := owns_below HOCx_3.out bw (fun g hg => owns_lt HOCx_3.out hg)
    have HOPx_4 : Hid ((w4).ownsRow B 67 2 (.slice oPx n2 pPx) n2 (flatWrite ws)) := owns_below HOPx_3.out bw (fun g hg => owns_lt HOPx_3.out hg)
    have HBv1_4 : Hid ((w4).heap[qv1]? = some (.cells #[.slice oCx n1 pCx, .slice oPx n2 pPx] 27)) := blk_below HBv1_3.out bw
    have HBv2_4 : Hid ((w4).heap[qv2]? = some (.cells #[.slice none 0 0, .slice none 0 0] 27)) := blk_below HBv2_3.out bw
    have HNv1v3 : Hid (qv1 ≠ qv3) := fun e => by have h1 := (Array.getElem?_eq_some_iff.1 HBv1_3.out).1; omega
    have HNv2v3 : Hid (qv2 ≠ qv3) := fun e => by have h1 := (Array.getElem?_eq_some_iff.1 HBv2_3.out).1; omega
    have HBv3_4 : Hid ((w4).heap[qv3]? = some (.cells #[] 67)) := by show _ = _; rw [hXj, hqv3]; exact heap_alloc_new _ _
    have HGv3 : Hid (w.heap.size ≤ qv3) := by show _ ≤ _; rw [hqv3]; exact hb3.size
    have hS4 : w4.heap[qv1]? = some (.cells #[.slice oCx n1 pCx, .slice oPx n2 pPx] 27) := HBv1_4.out
    have HQv3 : Hid ((w3).heap.size ≤ qv3) := by show _ ≤ _; omega
    clear hb3 HOCx_3 HOPx_3 HBv1_3 HBv2_3 bw hXj hqv3
    have HOEv3_4 : Hid ((w4).ownsRow w.heap.size 67 2 (.slice (some ⟨qv3, 0, none⟩) 0 0) 0 []) := ⟨rfl, .inr ⟨_, 0, #[], rfl, HGv3.out, HBv3_4.out, Nat.le_refl _, Nat.zero_le _, rfl, rfl⟩⟩
    have HIEv3 : Hid (∀ g, (Value.ownBlock (.slice (some ⟨qv3, 0, none⟩) 0 0)) = some g → g < (w4).heap.size) := fun g hg => owns_lt HOEv3_4.out hg
    have LOEv3 : Hid (∀ g, (Value.ownBlock (.slice (some ⟨qv3, 0, none⟩) 0 0)) = some g → (w3).heap.size ≤ g) := fun g hg => by simp [Value.ownBlock] at hg; have := HQv3.out; omega
    clear HBv3_4
    refine wpAnyH_ready (rs := [0]) (by kernel_rfl) (by simp) ?_
    refine AllReadyH.cons rfl (fun K hK => ?_) AllReadyH.nil
    go_simp
    have bw : Below w4.heap.size w4 (w4.alloc (.cells #[] 9)) := (Below.refl _ _).alloc (Nat.le_refl _) _
    have hSA : (w4.alloc (.cells #[] 9)).heap[qv1]? = some (.cells #[.slice oCx n1 pCx, .slice oPx n2 pPx] 27) := blk_below HBv1_4.out bw
    refine hK.out _ _ hSA (fun _ => ?_)
    clear hK K hSA bw hS4
    obtain ⟨qv4, hqv4⟩ : ∃ o, o = w4.heap.size := ⟨_, rfl⟩
    obtain ⟨w5, hXj⟩ : ∃ X, X = (w4.alloc (.cells #[] 9)) := ⟨_, rfl⟩
    rw [← hqv4, ← hXj]
    have bw : Below w4.heap.size w4 w5 := by rw [hXj]; exact (Below.refl _ _).alloc (Nat.le_refl _) _
    have hb5 : Below w.heap.size w (w5) := hb4.trans (bw.mono hb4.size)
    have HM5 : Hid ((w4).heap.size ≤ (w5).heap.size) := bw.size
    have HOCx_5 : Hid ((w5).ownsRow B 9 1 (.slice oCx n1 pCx) n1 (cs.map Value.string)) := owns_below HOCx_4.out bw (fun g hg => owns_lt HOCx_4.out hg)
    have HOPx_5 : Hid ((w5).ownsRow B 67 2 (.slice oPx n2 pPx) n2 (flatWrite ws)) := owns_below HOPx_4.out bw (fun g hg => owns_lt HOPx_4.out hg)
    have HOEv3_5 : Hid ((w5).ownsRow w.heap.size 67 2 (.slice (some ⟨qv3, 0, none⟩) 0 0) 0 []) := owns_below HOEv3_4.out bw (fun g hg => owns_lt HOEv3_4.out hg)
    have HBv1_5 : Hid ((w5).heap[qv1]? = some (.cells #[.slice oCx n1 pCx, .slice oPx n2 pPx] 27)) := blk_below HBv1_4.out bw
    have HBv2_5 : Hid ((w5).heap[qv2]? = some (.cells #[.slice none 0 0, .slice none 0 0] 27)) := blk_below HBv2_4.out bw
    have HNv1v4 : Hid (qv1 ≠ qv4) := fun e => by have h1 := (Array.getElem?_eq_some_iff.1 HBv1_4.out).1; omega
    have HNv2v4 : Hid (qv2 ≠ qv4) := fun e => by have h1 := (Array.getElem?_eq_some_iff.1 HBv2_4.out).1; omega
    have HBv4_5 : Hid ((w5).heap[qv4]? = some (.cells #[] 9)) := by show _ = _; rw [hXj, hqv4]; exact heap_alloc_new _ _
    have HGv4 : Hid (w.heap.size ≤ qv4) := by show _ ≤ _; rw [hqv4]; exact hb4.size
    have hS5 : w5.heap[qv1]? = some (.cells #[.slice oCx n1 pCx, .slice oPx n2 pPx] 27) := HBv1_5.out
    have HQv4 : Hid ((w4).heap.size ≤ qv4) := by show _ ≤ _; omega
    clear hb4 HOCx_4 HOPx_4 HOEv3_4 HBv1_4 HBv2_4 bw hXj hqv4
    have HOEv4_5 : Hid ((w5).ownsRow w.heap.size 9 1 (.slice (some ⟨qv4, 0, none⟩) 0 0) 0 []) := ⟨rfl, .inr ⟨_, 0, #[], rfl, HGv4.out, HBv4_5.out, Nat.le_refl _, Nat.zero_le _, rfl, rfl⟩⟩
    have HIEv4 : Hid (∀ g, (Value.ownBlock (.slice (some ⟨qv4, 0, none⟩) 0 0)) = some g → g < (w5).heap.size) := fun g hg => owns_lt HOEv4_5.out hg
    have LOEv4 : Hid (∀ g, (Value.ownBlock (.slice (some ⟨qv4, 0, none⟩) 0 0)) = some g → (w4).heap.size ≤ g) := fun g hg => by simp [Value.ownBlock] at hg; have := HQv4.out; omega
    clear HBv4_5
    refine wpAnyH_ready (rs := [3]) (by kernel_rfl) (by simp) ?_
    refine AllReadyH.cons rfl (fun K hK => ?_) AllReadyH.nil
    have h63 : 0 + n1 ≤ maxLen := by unfold maxLen; omega
    have h47 : (0 + n1) * 16 ≤ 140737488355328 := by omega
    refine step_append_src (w := w5) (by rfl) _ _ _ (by rfl) w.heap.size 9 i0s (.string ⟨#[]⟩) 1 16 Try.underlying24 his hz0s hz1s hz2s rfl (by decide) _ _ _ (by rfl) HOEv4_5.out _ _ _ (by rfl) (Src.texts HOCx_5.out) h63 h47 hb5.size ?_
    intro v1 w6 hown2 hgrow
    rw [Nat.zero_add, List.nil_append] at hown2
    have hb6 : Below w.heap.size w (w6) := hb5.grown hgrow hb5.size (fun g hg => owns_ge HOEv4_5.out hg)
    have HM6 : Hid ((w5).heap.size ≤ w6.heap.size) := hgrow.size
    have HOCx_6 : Hid ((w6).ownsRow B 9 1 (.slice oCx n1 pCx) n1 (cs.map Value.string)) := owns_same HOCx_5.out (fun g hg => hgrow.block g (owns_lt HOCx_5.out hg) (fun e => (fun e => by have h1 := LOEv4.out g e; have h2 := HICx.out g hg; have := HM1.out; have := HM2.out; have := HM3.out; have := HM4.out; have := HM5.out; omega) e.symm))
    have HOPx_6 : Hid ((w6).ownsRow B 67 2 (.slice oPx n2 pPx) n2 (flatWrite ws)) := owns_same HOPx_5.out (fun g hg => hgrow.block g (owns_lt HOPx_5.out hg) (fun e => (own_type_ne HOPx_5.out HOEv4_5.out (by decide) g hg) e.symm))
    have HOEv3_6 : Hid ((w6).ownsRow w.heap.size 67 2 (.slice (some ⟨qv3, 0, none⟩) 0 0) 0 []) := owns_same HOEv3_5.out (fun g hg => hgrow.block g (owns_lt HOEv3_5.out hg) (fun e => (own_type_ne HOEv3_5.out HOEv4_5.out (by decide) g hg) e.symm))
    have HBv1_6 : Hid ((w6).heap[qv1]? = some (.cells #[.slice oCx n1 pCx, .slice oPx n2 pPx] 27)) := (hgrow.block _ (Array.getElem?_eq_some_iff.1 HBv1_5.out).1 (fun e => own_ne HOEv4_5.out HBv1_5.out (by decide) _ e.symm rfl)).trans HBv1_5.out
    have HBv2_6 : Hid ((w6).heap[qv2]? = some (.cells #[.slice none 0 0, .slice none 0 0] 27)) := (hgrow.block _ (Array.getElem?_eq_some_iff.1 HBv2_5.out).1 (fun e => own_ne HOEv4_5.out HBv2_5.out (by decide) _ e.symm rfl)).trans HBv2_5.out
    obtain ⟨oEv4p, pEv4p, rfl⟩ := slice_of_owns hown2
    have HOEv4p_6 : Hid ((w6).ownsRow w.heap.size 9 1 (.slice oEv4p n1 pEv4p) n1 (cs.map Value.string)) := hown2
    clear hb5 HOCx_5 HOPx_5 HOEv3_5 HOEv4_5 HBv1_5 HBv2_5 hown2 hgrow h63 h47
    simp only [Act.put, List.setIfInBounds_toArray]
    have hS6 : w6.heap[qv1]? = some (.cells #[.slice oCx n1 pCx, .slice oPx n2 pPx] 27) := HBv1_6.out
    refine hK.out _ _ hS6 (fun _ => ?_)
    clear hK K hS5
    refine wpAnyH_ready (rs := [7]) (by kernel_rfl) (by simp) ?_
    refine AllReadyH.cons rfl (fun K hK => ?_) AllReadyH.nil
    have h63 : 0 + n2 ≤ maxLen := by unfold maxLen; omega
    have h47 : (0 + n2) * 24 ≤ 140737488355328 := by omega
    refine step_append_src (w := w6) (by rfl) _ _ _ (by rfl) w.heap.size 67 i0w (.agg #[.int .i64 0, .string ⟨#[]⟩]) 2 24 Try.underlying25 hiw hz0w hz1w hz2w rfl (by decide) _ _ _ (by rfl) HOEv3_6.out _ _ _ (by rfl) (Src.of_owns HOPx_6.out (flatWrite_ones _)) h63 h47 hb6.size ?_
    intro v1 w7 hown2 hgrow
    rw [Nat.zero_add, List.nil_append] at hown2
    have hb7 : Below w.heap.size w (w7) := hb6.grown hgrow hb6.size (fun g hg => owns_ge HOEv3_6.out hg)
    have HM7 : Hid ((w6).heap.size ≤ w7.heap.size) := hgrow.size
    have HOCx_7 : Hid ((w7).ownsRow B 9 1 (.slice oCx n1 pCx) n1 (cs.map Value.string)) := owns_same HOCx_6.out (fun g hg => hgrow.block g (owns_lt HOCx_6.out hg) (fun e => (own_type_ne HOCx_6.out HOEv3_6.out (by decide) g hg) e.symm))
    have HOPx_7 : Hid ((w7).ownsRow B 67 2 (.slice oPx n2 pPx) n2 (flatWrite ws)) := owns_same HOPx_6.out (fun g hg => hgrow.block g (owns_lt HOPx_6.out hg) (fun e => (fun e => by have h1 := LOEv3.out g e; have h2 := HIPx.out g hg; have := HM1.out; have := HM2.out; have := HM3.out; have := HM4.out; omega) e.symm))
    have HOEv4p_7 : Hid ((w7).ownsRow w.heap.size 9 1 (.slice oEv4p n1 pEv4p) n1 (cs.map Value.string)) := owns_same HOEv4p_6.out (fun g hg => hgrow.block g (owns_lt HOEv4p_6.out hg) (fun e => (own_type_ne HOEv4p_6.out HOEv3_6.out (by decide) g hg) e.symm))
    have HBv1_7 : Hid ((w7).heap[qv1]? = some (.cells #[.slice oCx n1 pCx, .slice oPx n2 pPx] 27)) := (hgrow.block _ (Array.getElem?_eq_some_iff.1 HBv1_6.out).1 (fun e => own_ne HOEv3_6.out HBv1_6.out (by decide) _ e.symm rfl)).trans HBv1_6.out
    have HBv2_7 : Hid ((w7).heap[qv2]? = some (.cells #[.slice none 0 0, .slice none 0 0] 27)) := (hgrow.block _ (Array.getElem?_eq_some_iff.1 HBv2_6.out).1 (fun e => own_ne HOEv3_6.out HBv2_6.out (by decide) _ e.symm rfl)).trans HBv2_6.out
    obtain ⟨oEv3p, pEv3p, rfl⟩ := slice_of_owns hown2
    have HOEv3p_7 : Hid ((w7).ownsRow w.heap.size 67 2 (.slice oEv3p n2 pEv3p) n2 (flatWrite ws)) := hown2
    clear hb6 HOCx_6 HOPx_6 HOEv3_6 HOEv4p_6 HBv1_6 HBv2_6 hown2 hgrow h63 h47
    simp only [Act.put]
    have hS7 : w7.heap[qv1]? = some (.cells #[.slice oCx n1 pCx, .slice oPx n2 pPx] 27) := HBv1_7.out
    refine hK.out _ _ hS7 (fun _ => ?_)
    clear hK K hS6
    refine wpAnyH_takeD (i := 8) (v := .agg #[.slice oEv4p n1 pEv4p, .slice oEv3p n2 pEv3p]) (some 11) rfl rfl (by kernel_rfl) (by kernel_rfl) (by kernel_rfl) (fun _ _ _ h => h) (Or.inl ⟨by rfl, by intro W _; go_simp⟩) hS7 ?_
    simp only [Act.put]
    refine wpAnyH_ready (rs := [9]) (by kernel_rfl) (by simp) ?_
    refine AllReadyH.cons rfl (fun K hK => ?_) AllReadyH.nil
    have ce0 : (w7).cell? ⟨qv2, 0, none⟩ = some (.slice none 0 0) := (cell_of HBv2_7.out 0).trans rfl
    have fe0 : (w7).frozen? ⟨qv2, 0, none⟩ = false := frozen_of HBv2_7.out 0
    have ce1 : (w7).cell? ⟨qv2, 1, none⟩ = some (.slice none 0 0) := (cell_of HBv2_7.out 1).trans rfl
    have fe1 : (w7).frozen? ⟨qv2, 1, none⟩ = false := frozen_of HBv2_7.out 1
    obtain ⟨w8, hY⟩ : ∃ Y, Y = ((w7.setCell ⟨qv2, 0, none⟩ (.slice oEv4p n1 pEv4p)).setCell ⟨qv2, 1, none⟩ (.slice oEv3p n2 pEv3p)) := ⟨_, rfl⟩
    have HY : Hid (((w7.setCell ⟨qv2, 0, none⟩ (.slice oEv4p n1 pEv4p)).setCell ⟨qv2, 1, none⟩ (.slice oEv3p n2 pEv3p)) = w8) := hY.symm
    have hb8 : Below w.heap.size w (w8) := by rw [hY]; exact ((hb7.setCell (p := ⟨qv2, 0, none⟩) HGv2.out _).setCell (p := ⟨qv2, 1, none⟩) HGv2.out _)
    have HM8 : Hid ((w7).heap.size ≤ w8.heap.size) := by show _ ≤ _; rw [hY]; simp
    have HOCx_8 : Hid ((w8).ownsRow B 9 1 (.slice oCx n1 pCx) n1 (cs.map Value.string)) := by show World.ownsRow _ _ _ _ _ _ _; rw [hY]; exact owns_same HOCx_7.out (fun g hg => by have hne := own_ne HOCx_7.out HBv2_7.out (by decide) g hg; rw [heap_setCell_other _ _ g _ hne, heap_setCell_other _ _ g _ hne])
    have HOPx_8 : Hid ((w8).ownsRow B 67 2 (.slice oPx n2 pPx) n2 (flatWrite ws)) := by show World.ownsRow _ _ _ _ _ _ _; rw [hY]; exact owns_same HOPx_7.out (fun g hg => by have hne := own_ne HOPx_7.out HBv2_7.out (by decide) g hg; rw [heap_setCell_other _ _ g _ hne, heap_setCell_other _ _ g _ hne])
    have HOEv4p_8 : Hid ((w8).ownsRow w.heap.size 9 1 (.slice oEv4p n1 pEv4p) n1 (cs.map Value.string)) := by show World.ownsRow _ _ _ _ _ _ _; rw [hY]; exact owns_same HOEv4p_7.out (fun g hg => by have hne := own_ne HOEv4p_7.out HBv2_7.out (by decide) g hg; rw [heap_setCell_other _ _ g _ hne, heap_setCell_other _ _ g _ hne])
    have HOEv3p_8 : Hid ((w8).ownsRow w.heap.size 67 2 (.slice oEv3p n2 pEv3p) n2 (flatWrite ws)) := by show World.ownsRow _ _ _ _ _ _ _; rw [hY]; exact owns_same HOEv3p_7.out (fun g hg => by have hne := own_ne HOEv3p_7.out HBv2_7.out (by decide) g hg; rw [heap_setCell_other _ _ g _ hne, heap_setCell_other _ _ g _ hne])
    have HBv1_8 : Hid ((w8).heap[qv1]? = some (.cells #[.slice oCx n1 pCx, .slice oPx n2 pPx] 27)) := by show _ = _; rw [hY, heap_setCell_other _ _ _ _ HNv1v2.out, heap_setCell_other _ _ _ _ HNv1v2.out]; exact HBv1_7.out
    have HBv2_8 : Hid ((w8).heap[qv2]? = some (.cells #[.slice oEv4p n1 pEv4p, .slice oEv3p n2 pEv3p] 27)) := by show _ = _; rw [hY]; have h := (heap_set _ qv2 1 _ _ _ (.slice oEv3p n2 pEv3p) (heap_set _ qv2 0 _ _ _ (.slice oEv4p n1 pEv4p) HBv2_7.out)); simpa using h
    clear hY hb7 HOCx_7 HOPx_7 HOEv4p_7 HOEv3p_7 HBv1_7 HBv2_7
    go_simp
    rw [HY.out]
    have hS8 : w8.heap[qv1]? = some (.cells #[.slice oCx n1 pCx, .slice oPx n2 pPx] 27) := HBv1_8.out
    refine hK.out _ _ hS8 (fun _ => ?_)
    clear hK K HY hS7 ce0 fe0 ce1 fe1
    clear hS8
    refine wpAnyH_done (by kernel_rfl) ?_ _
    go_wp2_with fail
    have kv2_0 : (w8).cell? ⟨qv2, 0, none⟩ = some (.slice oEv4p n1 pEv4p) := (cell_of HBv2_8.out 0).trans rfl
    have kv2_1 : (w8).cell? ⟨qv2, 1, none⟩ = some (.slice oEv3p n2 pEv3p) := (cell_of HBv2_8.out 1).trans rfl
    refine bodyPost_ret (v := .agg #[.slice oEv4p n1 pEv4p, .slice oEv3p n2 pEv3p]) (by simp [results, Try.results53, go_sem, kv2_0, kv2_1]) rfl ?_
    exact ⟨_, _, rfl, ⟨by rw [HCL.out]; exact HOEv4p_8.out, by rw [HPL.out]; exact HOEv3p_8.out⟩, hb8⟩

set_option maxHeartbeats 8000000 in
set_option maxRecDepth 100000 in
theorem specDiskPut_any (v1 v2 : Value) (n1 : Nat) (cs : List ByteArray) (n2 : Nat) (ws : List (Int × ByteArray)) (B : Nat) (w : World) (h : DiskO w B v1 n1 cs v2 n2 ws) (hn1 : n1 ≤ 2000000) (hn2 : n2 ≤ 2000000) (x : Int) (t : ByteArray) :
    Calls Try.prog 22 #[.agg #[v1, v2], .int .i64 x, .string t] w fun e w' => DiskIsB (putC cs ws) (putW cs ws x t) (putB cs ws x) w e w' := by
  obtain ⟨i0s, his, hz0s, hz1s, hz2s⟩ := info_parts info9
  obtain ⟨i0w, hiw, hz0w, hz1w, hz2w⟩ := info_parts infoWrite
  obtain ⟨oCx, pCx, rfl⟩ := slice_of_owns h.cells
  have HOCx_0 : Hid ((w).ownsRow B 9 1 (.slice oCx n1 pCx) n1 (cs.map Value.string)) := h.cells
  have HICx : Hid (∀ g, (Value.ownBlock (.slice oCx n1 pCx)) = some g → g < w.heap.size) := fun g hg => owns_lt h.cells hg
  obtain ⟨oPx, pPx, rfl⟩ := slice_of_owns h.pend
  have HOPx_0 : Hid ((w).ownsRow B 67 2 (.slice oPx n2 pPx) n2 (flatWrite ws)) := h.pend
  have HIPx : Hid (∀ g, (Value.ownBlock (.slice oPx n2 pPx)) = some g → g < w.heap.size) := fun g hg => owns_lt h.pend hg
  have HCL : Hid (cs.length = n1) := by have := h.cells.1; rw [List.length_map] at this; show _ = _; omega
  have HPL : Hid (ws.length = n2) := write_len h.pend
  clear h
  have hb0 : Below w.heap.size w w := Below.refl _ _
  go_enter Try.func22, Try.ntmps22
  go_upto_region 1 with fail
  obtain ⟨qv1, hqv1⟩ : ∃ q, q = (w).heap.size := ⟨_, rfl⟩
  obtain ⟨w1, hW1⟩ : ∃ W, W = (w).alloc (.cells #[.slice oCx n1 pCx, .slice oPx n2 pPx] 27) := ⟨_, rfl⟩
  have hz1 : (w).heap.size = qv1 := hqv1.symm
  first | rw [← hW1, ← hqv1] | rw [← hW1]
  have hs1 : w1.heap.size = qv1 + 1 := by rw [hW1, ← hz1]; simp
  have bw : Below (w).heap.size (w) w1 := by rw [hW1]; exact (Below.refl _ _).alloc (Nat.le_refl _) _
  have hb1 : Below w.heap.size w (w1) := hb0.trans (bw.mono hb0.size)
  have HM1 : Hid ((w).heap.size ≤ (w1).heap.size) := bw.size
  have HOCx_1 : Hid ((w1).ownsRow B 9 1 (.slice oCx n1 pCx) n1 (cs.map Value.string)) := owns_below HOCx_0.out bw (fun g hg => owns_lt HOCx_0.out hg)
  have HOPx_1 : Hid ((w1).ownsRow B 67 2 (.slice oPx n2 pPx) n2 (flatWrite ws)) := owns_below HOPx_0.out bw (fun g hg => owns_lt HOPx_0.out hg)
  have HBv1_1 : Hid ((w1).heap[qv1]? = some (.cells #[.slice oCx n1 pCx, .slice oPx n2 pPx] 27)) := by show _ = _; rw [hW1, ← hz1]; exact heap_alloc_new _ _
  have HGv1 : Hid (w.heap.size ≤ qv1) := by show _ ≤ _; rw [← hz1]; exact hb0.size
  clear hb0 HOCx_0 HOPx_0 bw hW1 hz1
  obtain ⟨qv2, hqv2⟩ : ∃ q, q = qv1 + 1 := ⟨_, rfl⟩
  obtain ⟨w2, hW2⟩ : ∃ W, W = (w1).alloc (.cells #[.slice none 0 0, .slice none 0 0] 27) := ⟨_, rfl⟩
  have hz2 : (w1).heap.size = qv2 := by rw [hqv2]; exact hs1
  first | rw [← hW2, ← hqv2] | rw [← hW2]
  have hs2 : w2.heap.size = qv2 + 1 := by rw [hW2, ← hz2]; simp
  have bw : Below (w1).heap.size (w1) w2 := by rw [hW2]; exact (Below.refl _ _).alloc (Nat.le_refl _) _
  have hb2 : Below w.heap.size w (w2) := hb1.trans (bw.mono hb1.size)
  have HM2 : Hid ((w1).heap.size ≤ (w2).heap.size) := bw.size
  have HOCx_2 : Hid ((w2).ownsRow B 9 1 (.slice oCx n1 pCx) n1 (cs.map Value.string)) := owns_below HOCx_1.out bw (fun g hg => owns_lt HOCx_1.out hg)
  have HOPx_2 : Hid ((w2).ownsRow B 67 2 (.slice oPx n2 pPx) n2 (flatWrite ws)) := owns_below HOPx_1.out bw (fun g hg => owns_lt HOPx_1.out hg)
  have HBv1_2 : Hid ((w2).heap[qv1]? = some (.cells #[.slice oCx n1 pCx, .slice oPx n2 pPx] 27)) := blk_below HBv1_1.out bw
  have HNv1v2 : Hid (qv1 ≠ qv2) := fun e => by have h1 := (Array.getElem?_eq_some_iff.1 HBv1_1.out).1; omega
  have HBv2_2 : Hid ((w2).heap[qv2]? = some (.cells #[.slice none 0 0, .slice none 0 0] 27)) := by show _ = _; rw [hW2, ← hz2]; exact heap_alloc_new _ _
  have HGv2 : Hid (w.heap.size ≤ qv2) := by show _ ≤ _; rw [← hz2]; exact hb1.size
  clear hb1 HOCx_1 HOPx_1 HBv1_1 bw hW2 hz2
  clear hs2 hqv2 hs1 hqv1
  have cv1_0 : (w2).cell? ⟨qv1, 0, none⟩ = some (.slice oCx n1 pCx) := (cell_of HBv1_2.out 0).trans rfl
  have cv1_1 : (w2).cell? ⟨qv1, 1, none⟩ = some (.slice oPx n2 pPx) := (cell_of HBv1_2.out 1).trans rfl
  go_wp2_with fail
  refine (specDiskOk_any _ _ n1 cs n2 ws B _ ⟨HOCx_2.out, HOPx_2.out⟩ hn1 hn2).mono ?_
  rintro e w3 ⟨uo, rfl, htuo, bw⟩
  have hb3 : Below w.heap.size w (w3) := hb2.trans (bw.mono hb2.size)
  have HM3 : Hid ((w2).heap.size ≤ (w3).heap.size) := bw.size
  have HOCx_3 : Hid ((w3).ownsRow B 9 1 (.slice oCx n1 pCx) n1 (cs.map Value.string)) := owns_below HOCx_2.out bw (fun g hg => owns_lt HOCx_2.out hg)
  have HOPx_3 : Hid ((w3).ownsRow B 67 2 (.slice oPx n2 pPx) n2 (flatWrite ws)) := owns_below HOPx_2.out bw (fun g hg => owns_lt HOPx_2.out hg)
  have HBv1_3 : Hid ((w3).heap[qv1]? = some (.cells #[.slice oCx n1 pCx, .slice oPx n2 pPx] 27)) := blk_below HBv1_2.out bw
  have HBv2_3 : Hid ((w3).heap[qv2]? = some (.cells #[.slice none 0 0, .slice none 0 0] 27)) := blk_below HBv2_2.out bw
  clear hb2 HOCx_2 HOPx_2 HBv1_2 HBv2_2 bw
  clear cv1_0 cv1_1
  cases uo with
  | false =>
    have HNK : Hid (¬ DiskP cs ws) := fun h => nomatch htuo.2 h
    clear htuo
    have cv2_0 : (w3).cell? ⟨qv2, 0, none⟩ = some (.slice none 0 0) := (cell_of HBv2_3.out 0).trans rfl
    have fcv2_0 : (w3).frozen? ⟨qv2, 0, none⟩ = false := frozen_of HBv2_3.out 0
    have cv2_1 : (w3).cell? ⟨qv2, 1, none⟩ = some (.slice none 0 0) := (cell_of HBv2_3.out 1).trans rfl
    have fcv2_1 : (w3).frozen? ⟨qv2, 1, none⟩ = false := frozen_of HBv2_3.out 1
    go_wp2_with fail
    obtain ⟨w4, hW4⟩ : ∃ W, W = (w3).setCell ⟨qv2, 0, none⟩ (.slice none 0 0) := ⟨_, rfl⟩
    rw [← hW4]
    have hb4 : Below w.heap.size w (w4) := by rw [hW4]; exact (hb3.setCell (p := ⟨qv2, 0, none⟩) HGv2.out _)
    have HM4 : Hid ((w3).heap.size ≤ w4.heap.size) := by show _ ≤ _; rw [hW4]; simp
    have HOCx_4 : Hid ((w4).ownsRow B 9 1 (.slice oCx n1 pCx) n1 (cs.map Value.string)) := by show World.ownsRow _ _ _ _ _ _ _; rw [hW4]; exact owns_same HOCx_3.out (fun g hg => heap_setCell_other _ _ g _ (own_ne HOCx_3.out HBv2_3.out (by decide) g hg))
    have HOPx_4 : Hid ((w4).ownsRow B 67 2 (.slice oPx n2 pPx) n2 (flatWrite ws)) := by show World.ownsRow _ _ _ _ _ _ _; rw [hW4]; exact owns_same HOPx_3.out (fun g hg => heap_setCell_other _ _ g _ (own_ne HOPx_3.out HBv2_3.out (by decide) g hg))
    have HBv1_4 : Hid ((w4).heap[qv1]? = some (.cells #[.slice oCx n1 pCx, .slice oPx n2 pPx] 27)) := by show _ = _; rw [hW4, heap_setCell_other _ _ _ _ HNv1v2.out]; exact HBv1_3.out
    have HBv2_4 : Hid ((w4).heap[qv2]? = some (.cells #[.slice none 0 0, .slice none 0 0] 27)) := by show _ = _; rw [hW4]; have h := heap_set _ _ 0 _ _ _ (.slice none 0 0) HBv2_3.out; simpa using h
    clear hb3 HOCx_3 HOPx_3 HBv1_3 HBv2_3 hW4
    obtain ⟨w5, hW5⟩ : ∃ W, W = (w4).setCell ⟨qv2, 1, none⟩ (.slice none 0 0) := ⟨_, rfl⟩
    rw [← hW5]
    have hb5 : Below w.heap.size w (w5) := by rw [hW5]; exact (hb4.setCell (p := ⟨qv2, 1, none⟩) HGv2.out _)
    have HM5 : Hid ((w4).heap.size ≤ w5.heap.size) := by show _ ≤ _; rw [hW5]; simp
    have HOCx_5 : Hid ((w5).ownsRow B 9 1 (.slice oCx n1 pCx) n1 (cs.map Value.string)) := by show World.ownsRow _ _ _ _ _ _ _; rw [hW5]; exact owns_same HOCx_4.out (fun g hg => heap_setCell_other _ _ g _ (own_ne HOCx_4.out HBv2_4.out (by decide) g hg))
    have HOPx_5 : Hid ((w5).ownsRow B 67 2 (.slice oPx n2 pPx) n2 (flatWrite ws)) := by show World.ownsRow _ _ _ _ _ _ _; rw [hW5]; exact owns_same HOPx_4.out (fun g hg => heap_setCell_other _ _ g _ (own_ne HOPx_4.out HBv2_4.out (by decide) g hg))
    have HBv1_5 : Hid ((w5).heap[qv1]? = some (.cells #[.slice oCx n1 pCx, .slice oPx n2 pPx] 27)) := by show _ = _; rw [hW5, heap_setCell_other _ _ _ _ HNv1v2.out]; exact HBv1_4.out
    have HBv2_5 : Hid ((w5).heap[qv2]? = some (.cells #[.slice none 0 0, .slice none 0 0] 27)) := by show _ = _; rw [hW5]; have h := heap_set _ _ 1 _ _ _ (.slice none 0 0) HBv2_4.out; simpa using h
    clear hb4 HOCx_4 HOPx_4 HBv1_4 HBv2_4 hW5
    have kv2_0 : (w5).cell? ⟨qv2, 0, none⟩ = some (.slice none 0 0) := (cell_of HBv2_5.out 0).trans rfl
    have kv2_1 : (w5).cell? ⟨qv2, 1, none⟩ = some (.slice none 0 0) := (cell_of HBv2_5.out 1).trans rfl
    refine bodyPost_ret (v := .tuple #[.agg #[.slice none 0 0, .slice none 0 0], .bool false]) (by simp [results, Try.results22, go_sem, kv2_0, kv2_1]) rfl ?_
    obtain ⟨e1, e2, e3⟩ := put_no HNK.out x t
    rw [e1, e2, e3]
    exact ⟨_, _, rfl, diskO_nil _ _, hb5⟩
  | true =>
    have HOK : Hid (DiskP cs ws) := htuo.1 rfl
    clear htuo
    have cv1_0 : (w3).cell? ⟨qv1, 0, none⟩ = some (.slice oCx n1 pCx) := (cell_of HBv1_3.out 0).trans rfl
    have cv1_1 : (w3).cell? ⟨qv1, 1, none⟩ = some (.slice oPx n2 pPx) := (cell_of HBv1_3.out 1).trans rfl
    go_wp2_with fail
    refine (l12Copy_any _ _ n1 cs n2 ws B _ ⟨HOCx_3.out, HOPx_3.out⟩ hn1 hn2).mono ?_
    rintro e w4 ⟨vv1, vv2, rfl, ⟨ownC1, ownP1⟩, bw⟩
    rw [HCL.out] at ownC1
    rw [HPL.out] at ownP1
    obtain ⟨oC1, pC1, rfl⟩ := slice_of_owns ownC1
    obtain ⟨oP1, pP1, rfl⟩ := slice_of_owns ownP1
    have hb4 : Below w.heap.size w (w4) := hb3.trans (bw.mono hb3.size)
    have HM4 : Hid ((w3).heap.size ≤ (w4).heap.size) := bw.size
    have HOCx_4 : Hid ((w4).ownsRow B 9 1 (.slice oCx n1 pCx) n1 (cs.map Value.string)) := owns_below HOCx_3.out bw (fun g hg => owns_lt HOCx_3.out hg)
    have HOPx_4 : Hid ((w4).ownsRow B 67 2 (.slice oPx n2 pPx) n2 (flatWrite ws)) := owns_below HOPx_3.out bw (fun g hg => owns_lt HOPx_3.out hg)
    have HBv1_4 : Hid ((w4).heap[qv1]? = some (.cells #[.slice oCx n1 pCx, .slice oPx n2 pPx] 27)) := blk_below HBv1_3.out bw
    have HBv2_4 : Hid ((w4).heap[qv2]? = some (.cells #[.slice none 0 0, .slice none 0 0] 27)) := blk_below HBv2_3.out bw
    have HOC1_4 : Hid ((w4).ownsRow w.heap.size 9 1 (.slice oC1 n1 pC1) n1 (cs.map Value.string)) := owns_wide ownC1 hb3.size
    have LOC1 : Hid (∀ g, (Value.ownBlock (.slice oC1 n1 pC1)) = some g → (w3).heap.size ≤ g) := fun g hg => owns_ge ownC1 hg
    have HIC1 : Hid (∀ g, (Value.ownBlock (.slice oC1 n1 pC1)) = some g → g < (w4).heap.size) := fun g hg => owns_lt ownC1 hg
    clear ownC1
    have HOP1_4 : Hid ((w4).ownsRow w.heap.size 67 2 (.slice oP1 n2 pP1) n2 (flatWrite ws)) := owns_wide ownP1 hb3.size
    have LOP1 : Hid (∀ g, (Value.ownBlock (.slice oP1 n2 pP1)) = some g → (w3).heap.size ≤ g) := fun g hg => owns_ge ownP1 hg
    have HIP1 : Hid (∀ g, (Value.ownBlock (.slice oP1 n2 pP1)) = some g → g < (w4).heap.size) := fun g hg => owns_lt ownP1 hg
    clear ownP1
    clear hb3 HOCx_3 HOPx_3 HBv1_3 HBv2_3 bw
    clear cv1_0 cv1_1
    go_upto_region 4 with fail
    obtain ⟨qv3, hqv3⟩ : ∃ q, q = (w4).heap.size := ⟨_, rfl⟩
    obtain ⟨w5, hW5⟩ : ∃ W, W = (w4).alloc (.cells #[.slice oC1 n1 pC1, .slice oP1 n2 pP1] 27) := ⟨_, rfl⟩
    have hz5 : (w4).heap.size = qv3 := hqv3.symm
    first | rw [← hW5, ← hqv3] | rw [← hW5]
    have hs5 : w5.heap.size = qv3 + 1 := by rw [hW5, ← hz5]; simp
    have bw : Below (w4).heap.size (w4) w5 := by rw [hW5]; exact (Below.refl _ _).alloc (Nat.le_refl _) _
    have hb5 : Below w.heap.size w (w5) := hb4.trans (bw.mono hb4.size)
    have HM5 : Hid ((w4).heap.size ≤ (w5).heap.size) := bw.size
    have HOCx_5 : Hid ((w5).ownsRow B 9 1 (.slice oCx n1 pCx) n1 (cs.map Value.string)) := owns_below HOCx_4.out bw (fun g hg => owns_lt HOCx_4.out hg)
    have HOPx_5 : Hid ((w5).ownsRow B 67 2 (.slice oPx n2 pPx) n2 (flatWrite ws)) := owns_below HOPx_4.out bw (fun g hg => owns_lt HOPx_4.out hg)
    have HOC1_5 : Hid ((w5).ownsRow w.heap.size 9 1 (.slice oC1 n1 pC1) n1 (cs.map Value.string)) := owns_below HOC1_4.out bw (fun g hg => owns_lt HOC1_4.out hg)
    have HOP1_5 : Hid ((w5).ownsRow w.heap.size 67 2 (.slice oP1 n2 pP1) n2 (flatWrite ws)) := owns_below HOP1_4.out bw (fun g hg => owns_lt HOP1_4.out hg)
    have HBv1_5 : Hid ((w5).heap[qv1]? = some (.cells #[.slice oCx n1 pCx, .slice oPx n2 pPx] 27)) := blk_below HBv1_4.out bw
    have HBv2_5 : Hid ((w5).heap[qv2]? = some (.cells #[.slice none 0 0, .slice none 0 0] 27)) := blk_below HBv2_4.out bw
    have HNv1v3 : Hid (qv1 ≠ qv3) := fun e => by have h1 := (Array.getElem?_eq_some_iff.1 HBv1_4.out).1; omega
    have HNv2v3 : Hid (qv2 ≠ qv3) := fun e => by have h1 := (Array.getElem?_eq_some_iff.1 HBv2_4.out).1; omega
    have HBv3_5 : Hid ((w5).heap[qv3]? = some (.cells #[.slice oC1 n1 pC1, .slice oP1 n2 pP1] 27)) := by show _ = _; rw [hW5, ← hz5]; exact heap_alloc_new _ _
    have HGv3 : Hid (w.heap.size ≤ qv3) := by show _ ≤ _; rw [← hz5]; exact hb4.size
    clear hb4 HOCx_4 HOPx_4 HOC1_4 HOP1_4 HBv1_4 HBv2_4 bw hW5 hz5
    clear hs5 hqv3
    by_cases hc1 : (n2 : Int) = 16
    · have hc1b : (((n2 : Int) : Int) == (16 : Int)) = true := by simpa using hc1
      have hc1n : (((n2 : Int) : Int) != (16 : Int)) = false := by simpa using hc1
      have HF : Hid (n2 = 16) := (by have := hc1; show _ = _; omega)
      have hc1H : Hid ((n2 : Int) = 16) := hc1
      clear hc1
      have cv1_1 : (w5).cell? ⟨qv1, 1, none⟩ = some (.slice oPx n2 pPx) := (cell_of HBv1_5.out 1).trans rfl
      have cv2_0 : (w5).cell? ⟨qv2, 0, none⟩ = some (.slice none 0 0) := (cell_of HBv2_5.out 0).trans rfl
      have fcv2_0 : (w5).frozen? ⟨qv2, 0, none⟩ = false := frozen_of HBv2_5.out 0
      have cv2_1 : (w5).cell? ⟨qv2, 1, none⟩ = some (.slice none 0 0) := (cell_of HBv2_5.out 1).trans rfl
      have fcv2_1 : (w5).frozen? ⟨qv2, 1, none⟩ = false := frozen_of HBv2_5.out 1
      have cv3_0 : (w5).cell? ⟨qv3, 0, none⟩ = some (.slice oC1 n1 pC1) := (cell_of HBv3_5.out 0).trans rfl
      have cv3_1 : (w5).cell? ⟨qv3, 1, none⟩ = some (.slice oP1 n2 pP1) := (cell_of HBv3_5.out 1).trans rfl
      go_wp2_with fail
      obtain ⟨w6, hW6⟩ : ∃ W, W = (w5).setCell ⟨qv2, 0, none⟩ (.slice oC1 n1 pC1) := ⟨_, rfl⟩
      rw [← hW6]
      have hb6 : Below w.heap.size w (w6) := by rw [hW6]; exact (hb5.setCell (p := ⟨qv2, 0, none⟩) HGv2.out _)
      have HM6 : Hid ((w5).heap.size ≤ w6.heap.size) := by show _ ≤ _; rw [hW6]; simp
      have HOCx_6 : Hid ((w6).ownsRow B 9 1 (.slice oCx n1 pCx) n1 (cs.map Value.string)) := by show World.ownsRow _ _ _ _ _ _ _; rw [hW6]; exact owns_same HOCx_5.out (fun g hg => heap_setCell_other _ _ g _ (own_ne HOCx_5.out HBv2_5.out (by decide) g hg))
      have HOPx_6 : Hid ((w6).ownsRow B 67 2 (.slice oPx n2 pPx) n2 (flatWrite ws)) := by show World.ownsRow _ _ _ _ _ _ _; rw [hW6]; exact owns_same HOPx_5.out (fun g hg => heap_setCell_other _ _ g _ (own_ne HOPx_5.out HBv2_5.out (by decide) g hg))
      have HOC1_6 : Hid ((w6).ownsRow w.heap.size 9 1 (.slice oC1 n1 pC1) n1 (cs.map Value.string)) := by show World.ownsRow _ _ _ _ _ _ _; rw [hW6]; exact owns_same HOC1_5.out (fun g hg => heap_setCell_other _ _ g _ (own_ne HOC1_5.out HBv2_5.out (by decide) g hg))
      have HOP1_6 : Hid ((w6).ownsRow w.heap.size 67 2 (.slice oP1 n2 pP1) n2 (flatWrite ws)) := by show World.ownsRow _ _ _ _ _ _ _; rw [hW6]; exact owns_same HOP1_5.out (fun g hg => heap_setCell_other _ _ g _ (own_ne HOP1_5.out HBv2_5.out (by decide) g hg))
      have HBv1_6 : Hid ((w6).heap[qv1]? = some (.cells #[.slice oCx n1 pCx, .slice oPx n2 pPx] 27)) := by show _ = _; rw [hW6, heap_setCell_other _ _ _ _ HNv1v2.out]; exact HBv1_5.out
      have HBv3_6 : Hid ((w6).heap[qv3]? = some (.cells #[.slice oC1 n1 pC1, .slice oP1 n2 pP1] 27)) := by show _ = _; rw [hW6, heap_setCell_other _ _ _ _ HNv2v3.out.symm]; exact HBv3_5.out
      have HBv2_6 : Hid ((w6).heap[qv2]? = some (.cells #[.slice oC1 n1 pC1, .slice none 0 0] 27)) := by show _ = _; rw [hW6]; have h := heap_set _ _ 0 _ _ _ (.slice oC1 n1 pC1) HBv2_5.out; simpa using h
      clear hb5 HOCx_5 HOPx_5 HOC1_5 HOP1_5 HBv1_5 HBv2_5 HBv3_5 hW6
      obtain ⟨w7, hW7⟩ : ∃ W, W = (w6).setCell ⟨qv2, 1, none⟩ (.slice oP1 n2 pP1) := ⟨_, rfl⟩
      rw [← hW7]
      have hb7 : Below w.heap.size w (w7) := by rw [hW7]; exact (hb6.setCell (p := ⟨qv2, 1, none⟩) HGv2.out _)
      have HM7 : Hid ((w6).heap.size ≤ w7.heap.size) := by show _ ≤ _; rw [hW7]; simp
      have HOCx_7 : Hid ((w7).ownsRow B 9 1 (.slice oCx n1 pCx) n1 (cs.map Value.string)) := by show World.ownsRow _ _ _ _ _ _ _; rw [hW7]; exact owns_same HOCx_6.out (fun g hg => heap_setCell_other _ _ g _ (own_ne HOCx_6.out HBv2_6.out (by decide) g hg))
      have HOPx_7 : Hid ((w7).ownsRow B 67 2 (.slice oPx n2 pPx) n2 (flatWrite ws)) := by show World.ownsRow _ _ _ _ _ _ _; rw [hW7]; exact owns_same HOPx_6.out (fun g hg => heap_setCell_other _ _ g _ (own_ne HOPx_6.out HBv2_6.out (by decide) g hg))
      have HOC1_7 : Hid ((w7).ownsRow w.heap.size 9 1 (.slice oC1 n1 pC1) n1 (cs.map Value.string)) := by show World.ownsRow _ _ _ _ _ _ _; rw [hW7]; exact owns_same HOC1_6.out (fun g hg => heap_setCell_other _ _ g _ (own_ne HOC1_6.out HBv2_6.out (by decide) g hg))
      have HOP1_7 : Hid ((w7).ownsRow w.heap.size 67 2 (.slice oP1 n2 pP1) n2 (flatWrite ws)) := by show World.ownsRow _ _ _ _ _ _ _; rw [hW7]; exact owns_same HOP1_6.out (fun g hg => heap_setCell_other _ _ g _ (own_ne HOP1_6.out HBv2_6.out (by decide) g hg))
      have HBv1_7 : Hid ((w7).heap[qv1]? = some (.cells #[.slice oCx n1 pCx, .slice oPx n2 pPx] 27)) := by show _ = _; rw [hW7, heap_setCell_other _ _ _ _ HNv1v2.out]; exact HBv1_6.out
      have HBv3_7 : Hid ((w7).heap[qv3]? = some (.cells #[.slice oC1 n1 pC1, .slice oP1 n2 pP1] 27)) := by show _ = _; rw [hW7, heap_setCell_other _ _ _ _ HNv2v3.out.symm]; exact HBv3_6.out
      have HBv2_7 : Hid ((w7).heap[qv2]? = some (.cells #[.slice oC1 n1 pC1, .slice oP1 n2 pP1] 27)) := by show _ = _; rw [hW7]; have h := heap_set _ _ 1 _ _ _ (.slice oP1 n2 pP1) HBv2_6.out; simpa using h
      clear hb6 HOCx_6 HOPx_6 HOC1_6 HOP1_6 HBv1_6 HBv2_6 HBv3_6 hW7
      have kv2_0 : (w7).cell? ⟨qv2, 0, none⟩ = some (.slice oC1 n1 pC1) := (cell_of HBv2_7.out 0).trans rfl
      have kv2_1 : (w7).cell? ⟨qv2, 1, none⟩ = some (.slice oP1 n2 pP1) := (cell_of HBv2_7.out 1).trans rfl
      refine bodyPost_ret (v := .tuple #[.agg #[.slice oC1 n1 pC1, .slice oP1 n2 pP1], .bool false]) (by simp [results, Try.results22, go_sem, kv2_0, kv2_1]) rfl ?_
      obtain ⟨e1, e2, e3⟩ := put_full HOK.out (x := x) (fun h => by have h2 := HF.out; have h3 := HPL.out; omega) t
      rw [e1, e2, e3]
      exact ⟨_, _, rfl, ⟨by rw [HCL.out]; exact HOC1_7.out, by rw [HPL.out]; exact HOP1_7.out⟩, hb7⟩
    · have hc1b : (((n2 : Int) : Int) == (16 : Int)) = false := by simpa using hc1
      have hc1n : (((n2 : Int) : Int) != (16 : Int)) = true := by simpa using hc1
      have HF : Hid (¬ n2 = 16) := (by have := hc1; show ¬ _; omega)
      have hc1H : Hid (¬ ((n2 : Int) = 16)) := hc1
      clear hc1
      have cv1_1 : (w5).cell? ⟨qv1, 1, none⟩ = some (.slice oPx n2 pPx) := (cell_of HBv1_5.out 1).trans rfl
      go_wp2_with fail
      refine (l1In_any x 0 19 _).mono ?_
      rintro e w6 ⟨rfl, hwe⟩
      have bw : Below (w5).heap.size (w5) w6 := by rw [hwe]; exact Below.refl _ _
      clear hwe
      obtain ⟨ui, hui⟩ : ∃ u, u = decide ((0 : Int) ≤ x ∧ x ≤ 19) := ⟨_, rfl⟩
      rw [← hui]
      have hb6 : Below w.heap.size w (w6) := hb5.trans (bw.mono hb5.size)
      have HM6 : Hid ((w5).heap.size ≤ (w6).heap.size) := bw.size
      have HOCx_6 : Hid ((w6).ownsRow B 9 1 (.slice oCx n1 pCx) n1 (cs.map Value.string)) := owns_below HOCx_5.out bw (fun g hg => owns_lt HOCx_5.out hg)
      have HOPx_6 : Hid ((w6).ownsRow B 67 2 (.slice oPx n2 pPx) n2 (flatWrite ws)) := owns_below HOPx_5.out bw (fun g hg => owns_lt HOPx_5.out hg)
      have HOC1_6 : Hid ((w6).ownsRow w.heap.size 9 1 (.slice oC1 n1 pC1) n1 (cs.map Value.string)) := owns_below HOC1_5.out bw (fun g hg => owns_lt HOC1_5.out hg)
      have HOP1_6 : Hid ((w6).ownsRow w.heap.size 67 2 (.slice oP1 n2 pP1) n2 (flatWrite ws)) := owns_below HOP1_5.out bw (fun g hg => owns_lt HOP1_5.out hg)
      have HBv1_6 : Hid ((w6).heap[qv1]? = some (.cells #[.slice oCx n1 pCx, .slice oPx n2 pPx] 27)) := blk_below HBv1_5.out bw
      have HBv2_6 : Hid ((w6).heap[qv2]? = some (.cells #[.slice none 0 0, .slice none 0 0] 27)) := blk_below HBv2_5.out bw
      have HBv3_6 : Hid ((w6).heap[qv3]? = some (.cells #[.slice oC1 n1 pC1, .slice oP1 n2 pP1] 27)) := blk_below HBv3_5.out bw
      clear hb5 HOCx_5 HOPx_5 HOC1_5 HOP1_5 HBv1_5 HBv2_5 HBv3_5 bw
      clear cv1_1
      cases ui with
      | false =>
        have HNI : Hid (¬ (0 ≤ x ∧ x ≤ 19)) := (show ¬ (0 ≤ x ∧ x ≤ 19) from of_decide_eq_false hui.symm)
        clear hui
        have cv2_0 : (w6).cell? ⟨qv2, 0, none⟩ = some (.slice none 0 0) := (cell_of HBv2_6.out 0).trans rfl
        have fcv2_0 : (w6).frozen? ⟨qv2, 0, none⟩ = false := frozen_of HBv2_6.out 0
        have cv2_1 : (w6).cell? ⟨qv2, 1, none⟩ = some (.slice none 0 0) := (cell_of HBv2_6.out 1).trans rfl
        have fcv2_1 : (w6).frozen? ⟨qv2, 1, none⟩ = false := frozen_of HBv2_6.out 1
        have cv3_0 : (w6).cell? ⟨qv3, 0, none⟩ = some (.slice oC1 n1 pC1) := (cell_of HBv3_6.out 0).trans rfl
        have cv3_1 : (w6).cell? ⟨qv3, 1, none⟩ = some (.slice oP1 n2 pP1) := (cell_of HBv3_6.out 1).trans rfl
        go_wp2_with fail
        obtain ⟨w7, hW7⟩ : ∃ W, W = (w6).setCell ⟨qv2, 0, none⟩ (.slice oC1 n1 pC1) := ⟨_, rfl⟩
        rw [← hW7]
        have hb7 : Below w.heap.size w (w7) := by rw [hW7]; exact (hb6.setCell (p := ⟨qv2, 0, none⟩) HGv2.out _)
        have HM7 : Hid ((w6).heap.size ≤ w7.heap.size) := by show _ ≤ _; rw [hW7]; simp
        have HOCx_7 : Hid ((w7).ownsRow B 9 1 (.slice oCx n1 pCx) n1 (cs.map Value.string)) := by show World.ownsRow _ _ _ _ _ _ _; rw [hW7]; exact owns_same HOCx_6.out (fun g hg => heap_setCell_other _ _ g _ (own_ne HOCx_6.out HBv2_6.out (by decide) g hg))
        have HOPx_7 : Hid ((w7).ownsRow B 67 2 (.slice oPx n2 pPx) n2 (flatWrite ws)) := by show World.ownsRow _ _ _ _ _ _ _; rw [hW7]; exact owns_same HOPx_6.out (fun g hg => heap_setCell_other _ _ g _ (own_ne HOPx_6.out HBv2_6.out (by decide) g hg))
        have HOC1_7 : Hid ((w7).ownsRow w.heap.size 9 1 (.slice oC1 n1 pC1) n1 (cs.map Value.string)) := by show World.ownsRow _ _ _ _ _ _ _; rw [hW7]; exact owns_same HOC1_6.out (fun g hg => heap_setCell_other _ _ g _ (own_ne HOC1_6.out HBv2_6.out (by decide) g hg))
        have HOP1_7 : Hid ((w7).ownsRow w.heap.size 67 2 (.slice oP1 n2 pP1) n2 (flatWrite ws)) := by show World.ownsRow _ _ _ _ _ _ _; rw [hW7]; exact owns_same HOP1_6.out (fun g hg => heap_setCell_other _ _ g _ (own_ne HOP1_6.out HBv2_6.out (by decide) g hg))
        have HBv1_7 : Hid ((w7).heap[qv1]? = some (.cells #[.slice oCx n1 pCx, .slice oPx n2 pPx] 27)) := by show _ = _; rw [hW7, heap_setCell_other _ _ _ _ HNv1v2.out]; exact HBv1_6.out
        have HBv3_7 : Hid ((w7).heap[qv3]? = some (.cells #[.slice oC1 n1 pC1, .slice oP1 n2 pP1] 27)) := by show _ = _; rw [hW7, heap_setCell_other _ _ _ _ HNv2v3.out.symm]; exact HBv3_6.out
        have HBv2_7 : Hid ((w7).heap[qv2]? = some (.cells #[.slice oC1 n1 pC1, .slice none 0 0] 27)) := by show _ = _; rw [hW7]; have h := heap_set _ _ 0 _ _ _ (.slice oC1 n1 pC1) HBv2_6.out; simpa using h
        clear hb6 HOCx_6 HOPx_6 HOC1_6 HOP1_6 HBv1_6 HBv2_6 HBv3_6 hW7
        obtain ⟨w8, hW8⟩ : ∃ W, W = (w7).setCell ⟨qv2, 1, none⟩ (.slice oP1 n2 pP1) := ⟨_, rfl⟩
        rw [← hW8]
        have hb8 : Below w.heap.size w (w8) := by rw [hW8]; exact (hb7.setCell (p := ⟨qv2, 1, none⟩) HGv2.out _)
        have HM8 : Hid ((w7).heap.size ≤ w8.heap.size) := by show _ ≤ _; rw [hW8]; simp
        have HOCx_8 : Hid ((w8).ownsRow B 9 1 (.slice oCx n1 pCx) n1 (cs.map Value.string)) := by show World.ownsRow _ _ _ _ _ _ _; rw [hW8]; exact owns_same HOCx_7.out (fun g hg => heap_setCell_other _ _ g _ (own_ne HOCx_7.out HBv2_7.out (by decide) g hg))
        have HOPx_8 : Hid ((w8).ownsRow B 67 2 (.slice oPx n2 pPx) n2 (flatWrite ws)) := by show World.ownsRow _ _ _ _ _ _ _; rw [hW8]; exact owns_same HOPx_7.out (fun g hg => heap_setCell_other _ _ g _ (own_ne HOPx_7.out HBv2_7.out (by decide) g hg))
        have HOC1_8 : Hid ((w8).ownsRow w.heap.size 9 1 (.slice oC1 n1 pC1) n1 (cs.map Value.string)) := by show World.ownsRow _ _ _ _ _ _ _; rw [hW8]; exact owns_same HOC1_7.out (fun g hg => heap_setCell_other _ _ g _ (own_ne HOC1_7.out HBv2_7.out (by decide) g hg))
        have HOP1_8 : Hid ((w8).ownsRow w.heap.size 67 2 (.slice oP1 n2 pP1) n2 (flatWrite ws)) := by show World.ownsRow _ _ _ _ _ _ _; rw [hW8]; exact owns_same HOP1_7.out (fun g hg => heap_setCell_other _ _ g _ (own_ne HOP1_7.out HBv2_7.out (by decide) g hg))
        have HBv1_8 : Hid ((w8).heap[qv1]? = some (.cells #[.slice oCx n1 pCx, .slice oPx n2 pPx] 27)) := by show _ = _; rw [hW8, heap_setCell_other _ _ _ _ HNv1v2.out]; exact HBv1_7.out
        have HBv3_8 : Hid ((w8).heap[qv3]? = some (.cells #[.slice oC1 n1 pC1, .slice oP1 n2 pP1] 27)) := by show _ = _; rw [hW8, heap_setCell_other _ _ _ _ HNv2v3.out.symm]; exact HBv3_7.out
        have HBv2_8 : Hid ((w8).heap[qv2]? = some (.cells #[.slice oC1 n1 pC1, .slice oP1 n2 pP1] 27)) := by show _ = _; rw [hW8]; have h := heap_set _ _ 1 _ _ _ (.slice oP1 n2 pP1) HBv2_7.out; simpa using h
        clear hb7 HOCx_7 HOPx_7 HOC1_7 HOP1_7 HBv1_7 HBv2_7 HBv3_7 hW8
        have kv2_0 : (w8).cell? ⟨qv2, 0, none⟩ = some (.slice oC1 n1 pC1) := (cell_of HBv2_8.out 0).trans rfl
        have kv2_1 : (w8).cell? ⟨qv2, 1, none⟩ = some (.slice oP1 n2 pP1) := (cell_of HBv2_8.out 1).trans rfl
        refine bodyPost_ret (v := .tuple #[.agg #[.slice oC1 n1 pC1, .slice oP1 n2 pP1], .bool false]) (by simp [results, Try.results22, go_sem, kv2_0, kv2_1]) rfl ?_
        obtain ⟨e1, e2, e3⟩ := put_full HOK.out (x := x) (fun h => HNI.out h.2) t
        rw [e1, e2, e3]
        exact ⟨_, _, rfl, ⟨by rw [HCL.out]; exact HOC1_8.out, by rw [HPL.out]; exact HOP1_8.out⟩, hb8⟩
      | true =>
        have HIN : Hid (0 ≤ x ∧ x ≤ 19) := (show (0 ≤ x ∧ x ≤ 19) from of_decide_eq_true hui.symm)
        clear hui
        have cv3_1 : (w6).cell? ⟨qv3, 1, none⟩ = some (.slice oP1 n2 pP1) := (cell_of HBv3_6.out 1).trans rfl
        have hown := HOP1_6.out
        have h63 : n2 + 1 ≤ maxLen := by unfold maxLen; omega
        have h47 : (n2 + 1) * 24 ≤ 140737488355328 := by omega
        have HBS : ∀ o, w.heap.size ≤ (w6.alloc o).heap.size := fun o => by have := hb6.size; simp; omega
        go_wp2_with (at_builtin; refine wpList_append_own _ rfl _ _ 25 rfl w.heap.size 67 i0w (.agg #[.int .i64 0, .string ⟨#[]⟩]) 2 24 Try.underlying25 hiw hz0w hz1w hz2w rfl (by decide) _ _ _ rfl (hown.alloc _) ⟨w6.heap.size, 0, none⟩ 1 1 [.int .i64 x, .string t] rfl rfl (cell_two_new _ _ _ _) (by intro u hu; simp at hu; rcases hu with rfl | rfl <;> rfl) h63 h47 (HBS _) ?_)
        intro v1 w7 hown2 hgrow _
        have bA : Below w6.heap.size w6 (w6.alloc (.cells #[.int .i64 x, .string t] 67)) := (Below.refl _ _).alloc (Nat.le_refl _) _
        have rowGe : ∀ g, (.slice oP1 n2 pP1 : Value).ownBlock = some g → w.heap.size ≤ g := fun g hg => owns_ge hown hg
        clear cv3_1
        have hb7 : Below w.heap.size w (w7) := (hb6.trans (bA.mono hb6.size)).grown hgrow (HBS _) rowGe
        have HM7 : Hid ((w6).heap.size ≤ w7.heap.size) := Nat.le_trans bA.size hgrow.size
        have HOCx_7 : Hid ((w7).ownsRow B 9 1 (.slice oCx n1 pCx) n1 (cs.map Value.string)) := owns_same HOCx_6.out (fun g hg => (hgrow.block g (Nat.lt_of_lt_of_le (owns_lt HOCx_6.out hg) bA.size) (fun e => (own_type_ne HOCx_6.out HOP1_6.out (by decide) g hg) e.symm)).trans (bA.block g (owns_lt HOCx_6.out hg)))
        have HOPx_7 : Hid ((w7).ownsRow B 67 2 (.slice oPx n2 pPx) n2 (flatWrite ws)) := owns_same HOPx_6.out (fun g hg => (hgrow.block g (Nat.lt_of_lt_of_le (owns_lt HOPx_6.out hg) bA.size) (fun e => (fun e => by have h1 := LOP1.out g e; have h2 := HIPx.out g hg; have := HM1.out; have := HM2.out; have := HM3.out; have := HM4.out; omega) e.symm)).trans (bA.block g (owns_lt HOPx_6.out hg)))
        have HOC1_7 : Hid ((w7).ownsRow w.heap.size 9 1 (.slice oC1 n1 pC1) n1 (cs.map Value.string)) := owns_same HOC1_6.out (fun g hg => (hgrow.block g (Nat.lt_of_lt_of_le (owns_lt HOC1_6.out hg) bA.size) (fun e => (own_type_ne HOC1_6.out HOP1_6.out (by decide) g hg) e.symm)).trans (bA.block g (owns_lt HOC1_6.out hg)))
        have HBv1_7 : Hid ((w7).heap[qv1]? = some (.cells #[.slice oCx n1 pCx, .slice oPx n2 pPx] 27)) := (hgrow.block _ (Nat.lt_of_lt_of_le (Array.getElem?_eq_some_iff.1 HBv1_6.out).1 bA.size) (fun e => own_ne hown HBv1_6.out (by decide) _ e.symm rfl)).trans (blk_below HBv1_6.out bA)
        have HBv2_7 : Hid ((w7).heap[qv2]? = some (.cells #[.slice none 0 0, .slice none 0 0] 27)) := (hgrow.block _ (Nat.lt_of_lt_of_le (Array.getElem?_eq_some_iff.1 HBv2_6.out).1 bA.size) (fun e => own_ne hown HBv2_6.out (by decide) _ e.symm rfl)).trans (blk_below HBv2_6.out bA)
        have HBv3_7 : Hid ((w7).heap[qv3]? = some (.cells #[.slice oC1 n1 pC1, .slice oP1 n2 pP1] 27)) := (hgrow.block _ (Nat.lt_of_lt_of_le (Array.getElem?_eq_some_iff.1 HBv3_6.out).1 bA.size) (fun e => own_ne hown HBv3_6.out (by decide) _ e.symm rfl)).trans (blk_below HBv3_6.out bA)
        obtain ⟨oP1p, pP1p, rfl⟩ := slice_of_owns hown2
        have HOP1p_7 : Hid ((w7).ownsRow w.heap.size 67 2 (.slice oP1p (n2 + 1) pP1p) (n2 + 1) ((flatWrite ws) ++ [.int .i64 x, .string t])) := hown2
        clear hb6 HOCx_6 HOPx_6 HOC1_6 HOP1_6 HBv1_6 HBv2_6 HBv3_6 hown h63 h47 HBS hown2 hgrow bA rowGe
        have cv3_1 : (w7).cell? ⟨qv3, 1, none⟩ = some (.slice oP1 n2 pP1) := (cell_of HBv3_7.out 1).trans rfl
        have fcv3_1 : (w7).frozen? ⟨qv3, 1, none⟩ = false := frozen_of HBv3_7.out 1
        go_upto_region 7 with fail
        obtain ⟨w8, hW8⟩ : ∃ W, W = (w7).setCell ⟨qv3, 1, none⟩ (.slice oP1p (n2 + 1) pP1p) := ⟨_, rfl⟩
        rw [← hW8]
        have hb8 : Below w.heap.size w (w8) := by rw [hW8]; exact (hb7.setCell (p := ⟨qv3, 1, none⟩) HGv3.out _)
        have HM8 : Hid ((w7).heap.size ≤ w8.heap.size) := by show _ ≤ _; rw [hW8]; simp
        have HOCx_8 : Hid ((w8).ownsRow B 9 1 (.slice oCx n1 pCx) n1 (cs.map Value.string)) := by show World.ownsRow _ _ _ _ _ _ _; rw [hW8]; exact owns_same HOCx_7.out (fun g hg => heap_setCell_other _ _ g _ (own_ne HOCx_7.out HBv3_7.out (by decide) g hg))
        have HOPx_8 : Hid ((w8).ownsRow B 67 2 (.slice oPx n2 pPx) n2 (flatWrite ws)) := by show World.ownsRow _ _ _ _ _ _ _; rw [hW8]; exact owns_same HOPx_7.out (fun g hg => heap_setCell_other _ _ g _ (own_ne HOPx_7.out HBv3_7.out (by decide) g hg))
        have HOC1_8 : Hid ((w8).ownsRow w.heap.size 9 1 (.slice oC1 n1 pC1) n1 (cs.map Value.string)) := by show World.ownsRow _ _ _ _ _ _ _; rw [hW8]; exact owns_same HOC1_7.out (fun g hg => heap_setCell_other _ _ g _ (own_ne HOC1_7.out HBv3_7.out (by decide) g hg))
        have HOP1p_8 : Hid ((w8).ownsRow w.heap.size 67 2 (.slice oP1p (n2 + 1) pP1p) (n2 + 1) ((flatWrite ws) ++ [.int .i64 x, .string t])) := by show World.ownsRow _ _ _ _ _ _ _; rw [hW8]; exact owns_same HOP1p_7.out (fun g hg => heap_setCell_other _ _ g _ (own_ne HOP1p_7.out HBv3_7.out (by decide) g hg))
        have HBv1_8 : Hid ((w8).heap[qv1]? = some (.cells #[.slice oCx n1 pCx, .slice oPx n2 pPx] 27)) := by show _ = _; rw [hW8, heap_setCell_other _ _ _ _ HNv1v3.out]; exact HBv1_7.out
        have HBv2_8 : Hid ((w8).heap[qv2]? = some (.cells #[.slice none 0 0, .slice none 0 0] 27)) := by show _ = _; rw [hW8, heap_setCell_other _ _ _ _ HNv2v3.out]; exact HBv2_7.out
        have HBv3_8 : Hid ((w8).heap[qv3]? = some (.cells #[.slice oC1 n1 pC1, .slice oP1p (n2 + 1) pP1p] 27)) := by show _ = _; rw [hW8]; have h := heap_set _ _ 1 _ _ _ (.slice oP1p (n2 + 1) pP1p) HBv3_7.out; simpa using h
        clear hb7 HOCx_7 HOPx_7 HOC1_7 HOP1p_7 HBv1_7 HBv2_7 HBv3_7 hW8
        clear cv3_1 fcv3_1
        have cv2_0 : (w8).cell? ⟨qv2, 0, none⟩ = some (.slice none 0 0) := (cell_of HBv2_8.out 0).trans rfl
        have fcv2_0 : (w8).frozen? ⟨qv2, 0, none⟩ = false := frozen_of HBv2_8.out 0
        have cv2_1 : (w8).cell? ⟨qv2, 1, none⟩ = some (.slice none 0 0) := (cell_of HBv2_8.out 1).trans rfl
        have fcv2_1 : (w8).frozen? ⟨qv2, 1, none⟩ = false := frozen_of HBv2_8.out 1
        have cv3_0 : (w8).cell? ⟨qv3, 0, none⟩ = some (.slice oC1 n1 pC1) := (cell_of HBv3_8.out 0).trans rfl
        have cv3_1 : (w8).cell? ⟨qv3, 1, none⟩ = some (.slice oP1p (n2 + 1) pP1p) := (cell_of HBv3_8.out 1).trans rfl
        go_wp2_with fail
        obtain ⟨w9, hW9⟩ : ∃ W, W = (w8).setCell ⟨qv2, 0, none⟩ (.slice oC1 n1 pC1) := ⟨_, rfl⟩
        rw [← hW9]
        have hb9 : Below w.heap.size w (w9) := by rw [hW9]; exact (hb8.setCell (p := ⟨qv2, 0, none⟩) HGv2.out _)
        have HM9 : Hid ((w8).heap.size ≤ w9.heap.size) := by show _ ≤ _; rw [hW9]; simp
        have HOCx_9 : Hid ((w9).ownsRow B 9 1 (.slice oCx n1 pCx) n1 (cs.map Value.string)) := by show World.ownsRow _ _ _ _ _ _ _; rw [hW9]; exact owns_same HOCx_8.out (fun g hg => heap_setCell_other _ _ g _ (own_ne HOCx_8.out HBv2_8.out (by decide) g hg))
        have HOPx_9 : Hid ((w9).ownsRow B 67 2 (.slice oPx n2 pPx) n2 (flatWrite ws)) := by show World.ownsRow _ _ _ _ _ _ _; rw [hW9]; exact owns_same HOPx_8.out (fun g hg => heap_setCell_other _ _ g _ (own_ne HOPx_8.out HBv2_8.out (by decide) g hg))
        have HOC1_9 : Hid ((w9).ownsRow w.heap.size 9 1 (.slice oC1 n1 pC1) n1 (cs.map Value.string)) := by show World.ownsRow _ _ _ _ _ _ _; rw [hW9]; exact owns_same HOC1_8.out (fun g hg => heap_setCell_other _ _ g _ (own_ne HOC1_8.out HBv2_8.out (by decide) g hg))
        have HOP1p_9 : Hid ((w9).ownsRow w.heap.size 67 2 (.slice oP1p (n2 + 1) pP1p) (n2 + 1) ((flatWrite ws) ++ [.int .i64 x, .string t])) := by show World.ownsRow _ _ _ _ _ _ _; rw [hW9]; exact owns_same HOP1p_8.out (fun g hg => heap_setCell_other _ _ g _ (own_ne HOP1p_8.out HBv2_8.out (by decide) g hg))
        have HBv1_9 : Hid ((w9).heap[qv1]? = some (.cells #[.slice oCx n1 pCx, .slice oPx n2 pPx] 27)) := by show _ = _; rw [hW9, heap_setCell_other _ _ _ _ HNv1v2.out]; exact HBv1_8.out
        have HBv3_9 : Hid ((w9).heap[qv3]? = some (.cells #[.slice oC1 n1 pC1, .slice oP1p (n2 + 1) pP1p] 27)) := by show _ = _; rw [hW9, heap_setCell_other _ _ _ _ HNv2v3.out.symm]; exact HBv3_8.out
        have HBv2_9 : Hid ((w9).heap[qv2]? = some (.cells #[.slice oC1 n1 pC1, .slice none 0 0] 27)) := by show _ = _; rw [hW9]; have h := heap_set _ _ 0 _ _ _ (.slice oC1 n1 pC1) HBv2_8.out; simpa using h
        clear hb8 HOCx_8 HOPx_8 HOC1_8 HOP1p_8 HBv1_8 HBv2_8 HBv3_8 hW9
        obtain ⟨w10, hW10⟩ : ∃ W, W = (w9).setCell ⟨qv2, 1, none⟩ (.slice oP1p (n2 + 1) pP1p) := ⟨_, rfl⟩
        rw [← hW10]
        have hb10 : Below w.heap.size w (w10) := by rw [hW10]; exact (hb9.setCell (p := ⟨qv2, 1, none⟩) HGv2.out _)
        have HM10 : Hid ((w9).heap.size ≤ w10.heap.size) := by show _ ≤ _; rw [hW10]; simp
        have HOCx_10 : Hid ((w10).ownsRow B 9 1 (.slice oCx n1 pCx) n1 (cs.map Value.string)) := by show World.ownsRow _ _ _ _ _ _ _; rw [hW10]; exact owns_same HOCx_9.out (fun g hg => heap_setCell_other _ _ g _ (own_ne HOCx_9.out HBv2_9.out (by decide) g hg))
        have HOPx_10 : Hid ((w10).ownsRow B 67 2 (.slice oPx n2 pPx) n2 (flatWrite ws)) := by show World.ownsRow _ _ _ _ _ _ _; rw [hW10]; exact owns_same HOPx_9.out (fun g hg => heap_setCell_other _ _ g _ (own_ne HOPx_9.out HBv2_9.out (by decide) g hg))
        have HOC1_10 : Hid ((w10).ownsRow w.heap.size 9 1 (.slice oC1 n1 pC1) n1 (cs.map Value.string)) := by show World.ownsRow _ _ _ _ _ _ _; rw [hW10]; exact owns_same HOC1_9.out (fun g hg => heap_setCell_other _ _ g _ (own_ne HOC1_9.out HBv2_9.out (by decide) g hg))
        have HOP1p_10 : Hid ((w10).ownsRow w.heap.size 67 2 (.slice oP1p (n2 + 1) pP1p) (n2 + 1) ((flatWrite ws) ++ [.int .i64 x, .string t])) := by show World.ownsRow _ _ _ _ _ _ _; rw [hW10]; exact owns_same HOP1p_9.out (fun g hg => heap_setCell_other _ _ g _ (own_ne HOP1p_9.out HBv2_9.out (by decide) g hg))
        have HBv1_10 : Hid ((w10).heap[qv1]? = some (.cells #[.slice oCx n1 pCx, .slice oPx n2 pPx] 27)) := by show _ = _; rw [hW10, heap_setCell_other _ _ _ _ HNv1v2.out]; exact HBv1_9.out
        have HBv3_10 : Hid ((w10).heap[qv3]? = some (.cells #[.slice oC1 n1 pC1, .slice oP1p (n2 + 1) pP1p] 27)) := by show _ = _; rw [hW10, heap_setCell_other _ _ _ _ HNv2v3.out.symm]; exact HBv3_9.out
        have HBv2_10 : Hid ((w10).heap[qv2]? = some (.cells #[.slice oC1 n1 pC1, .slice oP1p (n2 + 1) pP1p] 27)) := by show _ = _; rw [hW10]; have h := heap_set _ _ 1 _ _ _ (.slice oP1p (n2 + 1) pP1p) HBv2_9.out; simpa using h
        clear hb9 HOCx_9 HOPx_9 HOC1_9 HOP1p_9 HBv1_9 HBv2_9 HBv3_9 hW10
        have kv2_0 : (w10).cell? ⟨qv2, 0, none⟩ = some (.slice oC1 n1 pC1) := (cell_of HBv2_10.out 0).trans rfl
        have kv2_1 : (w10).cell? ⟨qv2, 1, none⟩ = some (.slice oP1p (n2 + 1) pP1p) := (cell_of HBv2_10.out 1).trans rfl
        refine bodyPost_ret (v := .tuple #[.agg #[.slice oC1 n1 pC1, .slice oP1p (n2 + 1) pP1p], .bool true]) (by simp [results, Try.results22, go_sem, kv2_0, kv2_1]) rfl ?_
        obtain ⟨e1, e2, e3⟩ := put_yes HOK.out (by have h1 := HOK.out.2.1; have h2 := HF.out; have h3 := HPL.out; omega) HIN.out t
        rw [e1, e2, e3]
        exact ⟨_, _, rfl, ⟨by rw [HCL.out]; exact HOC1_10.out, by rw [List.length_append, HPL.out, flatWrite_append, flatWrite_one]; exact HOP1p_10.out⟩, hb10⟩

end Go.Proofs.Ytckjbgpdbehmaaa

namespace Go.Proofs.Ytckjbgpdbehmaaa
open Go.RowKit Go.WideShapes
open Go.Lib hiding intOf

set_option maxRecDepth 100000 in
theorem openDisk {H : Type} {enc : TypeId × Value → H} {W : World} {r : Reach} {b0 : Nat} {v : Value} {d : DataW H} {ps : List MemPlace} (hval : Value.okWide Try.prog W r b0 46 v) (h : DataW.Trod enc Try.prog W 0 (fun _ => true) true 46 v d ps) :
    ∃ (a1 : Option Addr) (n1 c1 : Nat) (cs : List ByteArray) (a2 : Option Addr) (n2 c2 : Nat) (ws : List (Int × ByteArray)), v = .agg #[.slice a1 n1 c1, .slice a2 n2 c2] ∧ ArgT W W.heap.size a1 n1 cs ∧ ArgWrite W W.heap.size a2 n2 ws ∧ n1 ≤ maxLen ∧ n2 ≤ maxLen ∧ (∀ i, i < n1 → (textAt cs i).size ≤ maxLen) ∧ ∀ x ∈ ws, (x.2).size ≤ maxLen := by
  obtain ⟨cs, rfl, hsz⟩ := okWide_struct Try.underlying46 hval
  obtain ⟨fuel, hf⟩ := h
  obtain ⟨ys, q, _, _, _, hyl, hg⟩ := DataW.trod_struct Try.underlying46 hf
  have hc2 : Try.prog.cellsOf 46 = 2 := by kernel_rfl
  have eS : Try.prog.cellsOf 24 = 1 := by kernel_rfl
  have eW : Try.prog.cellsOf 44 = 1 := by kernel_rfl
  rw [hc2] at hsz
  obtain ⟨l⟩ := cs
  obtain ⟨d0, d1, rfl⟩ : ∃ d0 d1, l = [d0, d1] := by
    match l, hsz with
    | [d0, d1], _ => exact ⟨d0, d1, rfl⟩
  have g0 := hg 0 _ rfl
  have g1 := hg 1 _ rfl
  simp [Value.cells, eS, eW] at g0 g1
  have hy2 : ys.length = 2 := hyl
  rw [List.getElem?_eq_getElem (show 0 < ys.length by omega)] at g0
  rw [List.getElem?_eq_getElem (show 1 < ys.length by omega)] at g1
  obtain ⟨a1, n1, c1, rfl⟩ : ∃ a n cap, d0 = .slice a n cap := by
    rcases DataW.trod_slice Try.underlying24 g0 with ⟨h, _⟩ | ⟨a, n, cap, _, _, _, _, h, _⟩
    · exact ⟨none, 0, 0, by simpa using h⟩
    · exact ⟨_, n, cap, by simpa using h⟩
  obtain ⟨a2, n2, c2, rfl⟩ : ∃ a n cap, d1 = .slice a n cap := by
    rcases DataW.trod_slice Try.underlying44 g1 with ⟨h, _⟩ | ⟨a, n, cap, _, _, _, _, h, _⟩
    · exact ⟨none, 0, 0, by simpa using h⟩
    · exact ⟨_, n, cap, by simpa using h⟩
  obtain ⟨xs, x1, x2, x3⟩ := openTexts g0
  obtain ⟨ws, y1, y2, y3⟩ := openWriteS g1
  exact ⟨a1, n1, c1, xs, a2, n2, c2, ws, rfl, x1, y1, x2, y2, x3, y3⟩

end Go.Proofs.Ytckjbgpdbehmaaa

namespace Go.Proofs.Ytckjbgpdbehmaaa
open Go.RowKit
open Go.Lib hiding intOf

/-- Texts as an array's cells. -/
def cellsA (l : List ByteArray) : Array Value := (l.map Value.string).toArray
/-- Twenty empty texts. -/
def noneA : List ByteArray := List.replicate 20 ⟨#[]⟩
/-- The cells with one written. -/
def withP (l : List ByteArray) (x : Int) (t : ByteArray) : List ByteArray := if 0 ≤ x ∧ x < 20 then l.set x.toNat t else l
/-- A call answers an array of texts. -/
def ArrIs (l : List ByteArray) (w : World) (e : Ending) (w' : World) : Prop := e = .returned (.agg (cellsA l)) ∧ Below w.heap.size w w'
theorem cellsA_size (l : List ByteArray) : (cellsA l).size = l.length := by simp [cellsA]
theorem cellsA_at (l : List ByteArray) (i : Nat) (h : i < l.length) : (cellsA l)[i]? = some (.string (textAt l i)) := by
  unfold cellsA
  rw [List.getElem?_toArray, List.getElem?_map, getElem_textAt l i h]
  rfl
theorem cellsA_set (l : List ByteArray) (i : Nat) (t : ByteArray) : (cellsA l).setIfInBounds i (.string t) = cellsA (l.set i t) := by
  unfold cellsA
  rw [List.setIfInBounds_toArray, List.map_set]
theorem noneA_len : noneA.length = 20 := rfl
theorem noneA_cells : cellsA noneA = #[.string ⟨#[]⟩, .string ⟨#[]⟩, .string ⟨#[]⟩, .string ⟨#[]⟩, .string ⟨#[]⟩, .string ⟨#[]⟩, .string ⟨#[]⟩, .string ⟨#[]⟩, .string ⟨#[]⟩, .string ⟨#[]⟩, .string ⟨#[]⟩, .string ⟨#[]⟩, .string ⟨#[]⟩, .string ⟨#[]⟩, .string ⟨#[]⟩, .string ⟨#[]⟩, .string ⟨#[]⟩, .string ⟨#[]⟩, .string ⟨#[]⟩, .string ⟨#[]⟩] := rfl
theorem withP_len (l : List ByteArray) (x : Int) (t : ByteArray) : (withP l x t).length = l.length := by
  unfold withP
  split
  · exact List.length_set
  · rfl
theorem infoA {l : List ByteArray} (h : l.length = 20) : (Try.prog.info? 64).map (·.size) = some (cellsA l).size := by
  rw [cellsA_size, h]
  kernel_rfl
theorem cellsA_one (l : List ByteArray) : (cellsA l).all (·.oneCell') = true := by
  unfold cellsA
  rw [List.all_toArray, List.all_eq_true]
  intro v hv
  obtain ⟨a, _, rfl⟩ := List.mem_map.1 hv
  rfl
theorem below_setRow {B : Nat} {a w : World} (h : Below B a w) (g : Nat) (cs : Array Value) (hg : B ≤ g) : Below B a (w.setRow g cs) :=
  h.trans ⟨rfl, rfl, rfl, by simp, fun k hk => setRow_other w g k cs (by omega)⟩
theorem new1 {w : World} {A B C : Obj} : (((w.alloc A).alloc B).alloc C).heap[w.heap.size]? = some A := blk_alloc (blk_alloc (heap_alloc_new w A) B) C
theorem new2 {w : World} {A B C : Obj} : (((w.alloc A).alloc B).alloc C).heap[w.heap.size + 1]? = some B := blk_alloc (heap_alloc2_new w A B) C
theorem new3 {w : World} {A B C : Obj} : (((w.alloc A).alloc B).alloc C).heap[w.heap.size + 1 + 1]? = some C := by
  have h := heap_alloc_new ((w.alloc A).alloc B) C
  have e : ((w.alloc A).alloc B).heap.size = w.heap.size + 1 + 1 := by simp
  rwa [e] at h
theorem new_below {w : World} {A B C : Obj} : Below w.heap.size w (((w.alloc A).alloc B).alloc C) :=
  (((Below.refl _ _).alloc (Nat.le_refl _) _).alloc (by simp) _).alloc (by simp; omega) _

set_option maxHeartbeats 4000000 in
theorem with_any (l : List ByteArray) (hl : l.length = 20) (x : Int) (t : ByteArray) (w : World) :
    Calls Try.prog 41 #[.agg (cellsA l), .agg #[.int .i64 x, .string t]] w fun e w' => ArrIs (withP l x t) w e w' := by
  have HL : Hid (l.length = 20) := hl
  have HLW : Hid ((withP l x t).length = 20) := (withP_len l x t).trans hl
  clear hl
  go_enter Try.func41, Try.ntmps41
  go_upto_region 1 with fail
  obtain ⟨w3, hw3⟩ : ∃ W, W = ((w.alloc (.cells (cellsA l) 64)).alloc (.cells #[.int .i64 x, .string t] 67)).alloc (.cells #[.string ⟨#[]⟩, .string ⟨#[]⟩, .string ⟨#[]⟩, .string ⟨#[]⟩, .string ⟨#[]⟩, .string ⟨#[]⟩, .string ⟨#[]⟩, .string ⟨#[]⟩, .string ⟨#[]⟩, .string ⟨#[]⟩, .string ⟨#[]⟩, .string ⟨#[]⟩, .string ⟨#[]⟩, .string ⟨#[]⟩, .string ⟨#[]⟩, .string ⟨#[]⟩, .string ⟨#[]⟩, .string ⟨#[]⟩, .string ⟨#[]⟩, .string ⟨#[]⟩] 64) := ⟨_, rfl⟩
  rw [← hw3]
  have HBW : Hid (Below w.heap.size w w3) := by rw [hw3]; exact new_below
  have hA : w3.heap[w.heap.size]? = some (.cells (cellsA l) 64) := by rw [hw3]; exact new1
  have hB : w3.heap[w.heap.size + 1]? = some (.cells #[.int .i64 x, .string t] 67) := by rw [hw3]; exact new2
  have hC : w3.heap[w.heap.size + 1 + 1]? = some (.cells (cellsA noneA) 64) := by rw [hw3]; exact new3
  obtain ⟨q, hq⟩ : ∃ q, q = w.heap.size := ⟨_, rfl⟩
  have HQ : Hid (w.heap.size ≤ q) := by rw [hq]; exact Nat.le_refl _
  rw [← hq] at hA hB hC
  rw [← hq]
  have HA : Hid (w3.heap[q]? = some (.cells (cellsA l) 64)) := hA
  have HC : Hid (w3.heap[q + 1 + 1]? = some (.cells (cellsA noneA) 64)) := hC
  have c0 := (cell_of hB 0)
  have c1 := (cell_of hB 1)
  simp only [List.getElem?_toArray, List.getElem?_cons_zero, List.getElem?_cons_succ] at c0 c1
  clear hw3 hA hB hC hq
  by_cases h0 : 0 ≤ x
  · by_cases h1 : x < 20
    · have HE : Hid (withP l x t = l.set x.toNat t) := by unfold withP; rw [Hid, if_pos ⟨h0, h1⟩]
      have c2 : w3.cell? ⟨q, x.toNat, none⟩ = some (.string (textAt l x.toNat)) := (cell_of HA.out _).trans (cellsA_at l _ (by rw [HL.out]; omega))
      have c3 := frozen_of HA.out x.toNat
      go_upto_region 3 with fail
      obtain ⟨w4, hw4⟩ : ∃ W, W = w3.setCell ⟨q, x.toNat, none⟩ (.string t) := ⟨_, rfl⟩
      rw [← hw4]
      have HA4 : Hid (w4.heap[q]? = some (.cells (cellsA (withP l x t)) 64)) := by
        rw [Hid, hw4, HE.out, ← cellsA_set]
        exact heap_setCell_same w3 q _ _ 64 _ HA.out
      have HC4 : Hid (w4.heap[q + 1 + 1]? = some (.cells (cellsA noneA) 64)) := by
        rw [Hid, hw4, heap_setCell_other w3 _ _ _ (by simp; omega)]
        exact HC.out
      have HB4 : Hid (Below w.heap.size w w4) := by rw [hw4]; exact HBW.out.setCell HQ.out _
      clear hw4 HA HC HBW c0 c1 c2 c3 h0 h1
      go_wp2_with (first | refine wpList_load_row rfl 64 _ rfl q rfl 64 _ (0, 0) _ HA4.out Try.underlying64 rfl (infoA HLW.out) ?_ | refine wpList_store_row rfl 64 _ _ rfl (q + 1 + 1) _ rfl rfl 64 _ HC4.out (infoA HLW.out) (by rw [cellsA_size, cellsA_size, HLW.out, noneA_len]) (cellsA_one _) ?_)
      exact bodyPost_ret (v := .agg (cellsA (withP l x t))) (results_cell_row Try.results41 _ _ (q + 1 + 1) 64 _ (0, 0) _ rfl (setRow_heap _ _ _ _ _ _ HC4.out) Try.underlying64 rfl (infoA HLW.out)) rfl ⟨rfl, below_setRow HB4.out _ _ (Nat.le_trans HQ.out (by omega))⟩
    · have HE : Hid (withP l x t = l) := by unfold withP; rw [Hid, if_neg (fun h => h1 h.2)]
      go_upto_region 3 with fail
      clear c0 c1 h0 h1
      rw [← HE.out] at HA
      go_wp2_with (first | refine wpList_load_row rfl 64 _ rfl q rfl 64 _ (0, 0) _ HA.out Try.underlying64 rfl (infoA HLW.out) ?_ | refine wpList_store_row rfl 64 _ _ rfl (q + 1 + 1) _ rfl rfl 64 _ HC.out (infoA HLW.out) (by rw [cellsA_size, cellsA_size, HLW.out, noneA_len]) (cellsA_one _) ?_)
      exact bodyPost_ret (v := .agg (cellsA (withP l x t))) (results_cell_row Try.results41 _ _ (q + 1 + 1) 64 _ (0, 0) _ rfl (setRow_heap _ _ _ _ _ _ HC.out) Try.underlying64 rfl (infoA HLW.out)) rfl ⟨rfl, below_setRow HBW.out _ _ (Nat.le_trans HQ.out (by omega))⟩
  · have HE : Hid (withP l x t = l) := by unfold withP; rw [Hid, if_neg (fun h => h0 h.1)]
    go_upto_region 3 with fail
    clear c0 c1 h0
    rw [← HE.out] at HA
    go_wp2_with (first | refine wpList_load_row rfl 64 _ rfl q rfl 64 _ (0, 0) _ HA.out Try.underlying64 rfl (infoA HLW.out) ?_ | refine wpList_store_row rfl 64 _ _ rfl (q + 1 + 1) _ rfl rfl 64 _ HC.out (infoA HLW.out) (by rw [cellsA_size, cellsA_size, HLW.out, noneA_len]) (cellsA_one _) ?_)
    exact bodyPost_ret (v := .agg (cellsA (withP l x t))) (results_cell_row Try.results41 _ _ (q + 1 + 1) 64 _ (0, 0) _ rfl (setRow_heap _ _ _ _ _ _ HC.out) Try.underlying64 rfl (infoA HLW.out)) rfl ⟨rfl, below_setRow HBW.out _ _ (Nat.le_trans HQ.out (by omega))⟩

end Go.Proofs.Ytckjbgpdbehmaaa

namespace Go.Proofs.Ytckjbgpdbehmaaa
open Go.RowKit
open Go.Lib hiding intOf

/-- Every write is to a cell. -/
def AllIn (ws : List (Int × ByteArray)) : Prop := ∀ x ∈ ws, 0 ≤ x.1 ∧ x.1 ≤ 19
theorem guardA : Try.prog.eqGuardType Try.prog.depth 64 = false := by kernel_rfl
theorem equalA (xs ys : List ByteArray) (hx : xs.length = 20) (hy : ys.length = 20) (w : World) :
    (Op.equalIn 10000 64 (.agg (cellsA xs)) (.agg (cellsA ys))).run Try.prog w = .ok ((List.range' 0 20 1).all (fun i => (textAt xs i).toList == (textAt ys i).toList)) w := by
  rw [show (10000 : Nat) = 9999 + 1 from rfl, Op.equalIn]
  simp only [Sem.run_bind, run_underlying Try.underlying64, Result.andThen_ok, Try.sizeOf9, Std.Legacy.Range.forIn_eq_forIn_range', Std.Legacy.Range.size, Nat.sub_zero, Nat.add_sub_cancel, Nat.div_one]
  have hl : ∀ i ∈ List.range' 0 20 1, i < 20 := fun i hi => by simpa using (List.mem_range'_1.1 hi).2
  generalize List.range' 0 20 1 = l at hl ⊢
  induction l with
  | nil => simp
  | cons i l ih =>
    have hi : i < 20 := hl i (by simp)
    have px : ∀ zs : List ByteArray, zs.length = 20 → (part 9 (cellsA zs) (i * 1)).run Try.prog w = .ok (.string (textAt zs i)) w := fun zs hz => by
      simp [part, Try.isAgg9, cellsA_at zs i (by omega)]
    have pe : (Op.equalIn 9999 9 (.string (textAt xs i)) (.string (textAt ys i))).run Try.prog w = .ok ((textAt xs i).toList == (textAt ys i).toList) w := run_equalIn_string w 9998 9 _ _ Try.underlying9
    simp only [List.forIn_cons, Sem.run_bind, px xs hx, px ys hy, pe, Result.andThen_ok, List.all_cons]
    cases hb : ((textAt xs i).toList == (textAt ys i).toList)
    · simp
    · simp only [Bool.not_true, Bool.false_eq_true, if_false, Sem.run_pure, Result.andThen_ok, Bool.true_and]
      exact ih fun j hj => hl j (by simp [hj])
theorem neqA (xs ys : List ByteArray) (hx : xs.length = 20) (hy : ys.length = 20) (w : World) :
    (binOp .neq 64 (.agg (cellsA xs)) (.agg (cellsA ys))).run Try.prog w = .ok (.bool (!((List.range' 0 20 1).all (fun i => (textAt xs i).toList == (textAt ys i).toList)))) w := by
  rw [run_neq_struct, equalA xs ys hx hy]
  rfl
theorem neq_in (x : Int) (h : 0 ≤ x ∧ x ≤ 19) (w : World) : (binOp .neq 64 (.agg (cellsA (withP noneA x ⟨#[120]⟩))) (.agg #[.string ⟨#[]⟩, .string ⟨#[]⟩, .string ⟨#[]⟩, .string ⟨#[]⟩, .string ⟨#[]⟩, .string ⟨#[]⟩, .string ⟨#[]⟩, .string ⟨#[]⟩, .string ⟨#[]⟩, .string ⟨#[]⟩, .string ⟨#[]⟩, .string ⟨#[]⟩, .string ⟨#[]⟩, .string ⟨#[]⟩, .string ⟨#[]⟩, .string ⟨#[]⟩, .string ⟨#[]⟩, .string ⟨#[]⟩, .string ⟨#[]⟩, .string ⟨#[]⟩])).run Try.prog w = .ok (.bool true) w := by
  have h1 := neqA (withP noneA x ⟨#[120]⟩) noneA (withP_len _ _ _) rfl w
  rw [noneA_cells] at h1
  rw [h1]
  have h2 : textAt (withP noneA x ⟨#[120]⟩) x.toNat = ⟨#[120]⟩ := by
    unfold withP
    rw [if_pos ⟨h.1, by omega⟩, textAt_set, if_pos ⟨rfl, by rw [noneA_len]; omega⟩]
  have h3 : textAt noneA x.toNat = ⟨#[]⟩ := by
    unfold textAt noneA
    rw [List.getD_eq_getElem?_getD, List.getElem?_replicate, if_pos (by omega)]
    rfl
  have h4 : ((List.range' 0 20 1).all (fun i => (textAt (withP noneA x ⟨#[120]⟩) i).toList == (textAt noneA i).toList)) = false := by
    rw [List.all_eq_false]
    refine ⟨x.toNat, List.mem_range'_1.2 ⟨by omega, by omega⟩, ?_⟩
    rw [h2, h3, ← beq_toListBytes]
    decide
  rw [h4]
  rfl
theorem neq_out (x : Int) (h : ¬ (0 ≤ x ∧ x ≤ 19)) (w : World) : (binOp .neq 64 (.agg (cellsA (withP noneA x ⟨#[120]⟩))) (.agg #[.string ⟨#[]⟩, .string ⟨#[]⟩, .string ⟨#[]⟩, .string ⟨#[]⟩, .string ⟨#[]⟩, .string ⟨#[]⟩, .string ⟨#[]⟩, .string ⟨#[]⟩, .string ⟨#[]⟩, .string ⟨#[]⟩, .string ⟨#[]⟩, .string ⟨#[]⟩, .string ⟨#[]⟩, .string ⟨#[]⟩, .string ⟨#[]⟩, .string ⟨#[]⟩, .string ⟨#[]⟩, .string ⟨#[]⟩, .string ⟨#[]⟩, .string ⟨#[]⟩])).run Try.prog w = .ok (.bool false) w := by
  have e : withP noneA x ⟨#[120]⟩ = noneA := by unfold withP; rw [if_neg (fun h2 => h ⟨h2.1, by omega⟩)]
  have h1 := neqA noneA noneA rfl rfl w
  rw [e]
  rw [noneA_cells] at h1 ⊢
  rw [h1]
  have h4 : ((List.range' 0 20 1).all (fun i => (textAt noneA i).toList == (textAt noneA i).toList)) = true := by
    rw [List.all_eq_true]
    exact fun i _ => by simp
  rw [h4]
  rfl

set_option maxHeartbeats 4000000 in
theorem isCell_any (x : Int) (w : World) :
    Calls Try.prog 47 #[.int .i64 x] w fun e w' => BoolIs (0 ≤ x ∧ x ≤ 19) w e w' := by
  have hgb := guardA
  by_cases h : 0 ≤ x ∧ x ≤ 19
  · have hqe := neq_in x h
    have HH : Hid (0 ≤ x ∧ x ≤ 19) := h
    clear h
    go_enter Try.func47, Try.ntmps47
    go_wp2_with fail
    refine (with_any noneA rfl x ⟨#[120]⟩ _).mono ?_
    rintro e w1 ⟨rfl, bw⟩
    have HBW : Hid (Below w.heap.size w w1) := bw
    clear bw
    go_wp2_with fail
    go_ret
    exact ⟨true, rfl, ⟨fun _ => HH.out, fun _ => rfl⟩, HBW.out⟩
  · have hqe := neq_out x h
    have HH : Hid (¬ (0 ≤ x ∧ x ≤ 19)) := h
    clear h
    go_enter Try.func47, Try.ntmps47
    go_wp2_with fail
    refine (with_any noneA rfl x ⟨#[120]⟩ _).mono ?_
    rintro e w1 ⟨rfl, bw⟩
    have HBW : Hid (Below w.heap.size w w1) := bw
    clear bw
    go_wp2_with fail
    go_ret
    exact BoolIs.no HH.out HBW.out

set_option maxHeartbeats 4000000 in
theorem allToCells_any (o : Option Addr) (n c : Nat) (ws : List (Int × ByteArray)) (w : World) (h : WriteA w o n ws) (hn : n ≤ 2000000) :
    Calls Try.prog 44 #[.slice o n c] w fun e w' => BoolIs (AllIn ws) w e w' := by
  have HW : Hid (WriteA w o n ws) := h
  clear h
  go_enter Try.func44, Try.ntmps44
  go_wp2_with fail
  go_loopw [7] (fun i wr => ∃ j : Nat, j ≤ n ∧ i = .int .i64 (j : Int) ∧ Hid (Below w.heap.size w wr) ∧ Hid (∀ x ∈ ws.take j, 0 ≤ x.1 ∧ x.1 ≤ 19)) (fun i _ => n - (intOf i).toNat)
  case atStart => exact ⟨0, Nat.zero_le _, rfl, Below.refl _ _, fun x hx => by simp at hx⟩
  case round =>
    obtain ⟨j, hj, rfl, HB, HN⟩ := hrel
    by_cases hlt : (j : Int) < (n : Int)
    · have hjx : j < ws.length := by rw [HW.out.1]; omega
      obtain ⟨g, rfl, hg, r0, r1⟩ := (HW.out.below HB.out).2 j (by omega)
      obtain ⟨y, hy⟩ : ∃ y, y = writeAt ws j := ⟨_, rfl⟩
      have HM : Hid (y ∈ ws) := by show _ ∈ _; rw [hy]; exact writeAt_mem ws j hjx
      have HTK : Hid (ws.take (j + 1) = ws.take j ++ [y]) := by show _ = _; rw [hy]; exact take_writeAt ws j hjx
      rw [← hy] at r0 r1
      obtain ⟨y0, y1⟩ := y
      simp only at r0 r1
      clear hy hjx
      go_wp2_with fail
      refine (isCell_any y0 _).mono ?_
      rintro e w4 ⟨b, rfl, hb, bw⟩
      have HBW : Hid (Below w.heap.size w w4) := (HB.out.alloc HB.out.size _).trans (bw.mono (Nat.le_trans HB.out.size (by simp)))
      clear bw r0 r1
      cases b with
      | true =>
        have HY : Hid (0 ≤ y0 ∧ y0 ≤ 19) := hb.1 rfl
        clear hb
        go_wp2_with fail
        go_roundw
        case rel =>
          refine ⟨j + 1, by omega, by go_num, HBW, fun x hx => ?_⟩
          rw [HTK.out] at hx
          rcases List.mem_append.1 hx with hx | hx
          · exact HN.out x hx
          · rw [List.mem_singleton.1 hx]; exact HY.out
        case measure => simp [intOf]; omega
      | false =>
        have HY : Hid (¬ (0 ≤ y0 ∧ y0 ≤ 19)) := fun h => nomatch hb.2 h
        clear hb
        go_wp2_with fail
        go_ret
        exact BoolIs.no (fun h => HY.out (h _ HM.out)) HBW.out
    · have HAL : Hid (AllIn ws) := fun x hx => HN.out x (by rw [List.take_of_length_le (by rw [HW.out.1]; omega)]; exact hx)
      clear HN
      go_wp2_with fail
      go_ret
      exact ⟨true, rfl, ⟨fun _ => HAL.out, fun _ => rfl⟩, HB.out⟩

set_option maxHeartbeats 4000000 in
theorem copiedTexts_any (o : Option Addr) (n c : Nat) (xs : List ByteArray) (w : World) (h : TextsA w o n xs) (hn : n ≤ 2000000) (hz : ∀ i, i < n → (textAt xs i).size ≤ 1048576) :
    Calls Try.prog 51 #[.slice o n c] w fun e w' => ∃ v, e = .returned v ∧ w'.ownsRow w.heap.size 9 1 v n (xs.map Value.string) ∧ Below w.heap.size w w' := by
  obtain ⟨i0, hi, hz0, hz1, hz2⟩ := info_parts info9
  obtain ⟨M, hM⟩ : ∃ M, M = madeCells (Value.string ⟨#[]⟩).cells (((n : Nat) : Int).toNat * i0.size) := ⟨_, rfl⟩
  have hmk : ∀ W : World, (Instr.makeSlice 24 (.int .i64 (n : Int)) (.int .i64 (n : Int))).run Try.prog W = .ok (.slice (some ⟨W.heap.size, 0, none⟩) n n) (W.alloc (.cells M 9)) := fun W => by
    have h := run_make (P := Try.prog) W 24 9 i0 (Value.string ⟨#[]⟩) Try.underlying24 hi hz0 .i64 .i64 (n : Int) (n : Int) (by omega) (by omega) (by rw [hz2]; omega) (by omega)
    rw [← hM] at h
    simpa using h
  have hMs : M.size = n := by rw [hM, size_madeCells, hz1]; simp
  have HA : Hid (TextsA w o n xs) := h
  have HZ : Hid (∀ i, i < n → (textAt xs i).size ≤ 1048576) := hz
  have HLEN : Hid (xs.length = n) := h.1
  clear hM h hz
  have HP : Hid (PartT (w.alloc (.cells M 9)) w.heap.size n 0 xs) := ⟨M, heap_alloc_new w _, hMs, fun i h => absurd h (by omega)⟩
  go_enter Try.func51, Try.ntmps51
  go_wp2_with fail
  go_loopw [11] (fun i wr => ∃ k : Nat, k ≤ n ∧ i = .int .i64 (k : Int) ∧ Hid (PartT wr w.heap.size n k xs) ∧ Hid (Below w.heap.size w wr)) (fun i _ => n - (intOf i).toNat)
  case atStart => exact ⟨0, Nat.zero_le _, rfl, HP, (Below.refl _ _).alloc (Nat.le_refl _) _⟩
  case round =>
    obtain ⟨k, hk, rfl, hpr, hbw⟩ := hrel
    by_cases hlt : k < n
    · have hlt2 : (k : Int) < (n : Int) := by omega
      obtain ⟨g, rfl, hg, r0⟩ := (HA.out.below hbw.out).2 k hlt
      obtain ⟨z, hzz⟩ : ∃ z, z = textAt xs k := ⟨_, rfl⟩
      have HZ1 : Hid (z.size ≤ 281474976710656) := by rw [Hid, hzz]; have := HZ.out k hlt; omega
      have HZE : Hid (textAt xs k = z) := hzz.symm
      rw [← hzz] at r0
      clear hzz
      go_wp2_with fail
      refine (clone_any z _ HZ1.out).mono ?_
      rintro e w1 ⟨rfl, bw⟩
      have hp1 : PartT w1 w.heap.size n k xs := by
        obtain ⟨cur, h1, h2, h3⟩ := hpr.out
        exact ⟨cur, blk_below h1 bw, h2, h3⟩
      have HB2 : Hid (Below w.heap.size w w1) := hbw.out.trans (bw.mono hbw.out.size)
      have hput := hp1.put hlt
      rw [HZE.out] at hput
      have HPUT : Hid (PartT (w1.setCell ⟨w.heap.size, k, none⟩ (.string z)) w.heap.size n (k + 1) xs) := hput
      obtain ⟨u0, hu0, f0⟩ : ∃ u, w1.cell? ⟨w.heap.size, k, none⟩ = some u ∧ w1.frozen? ⟨w.heap.size, k, none⟩ = false := by
        obtain ⟨cur, h1, h2, _⟩ := hp1
        refine ⟨cur[k]'(by omega), ?_, by simp [World.frozen?, h1]⟩
        simp only [World.cell?, h1]
        simp [show k < cur.size by omega]
      clear bw hp1 hput r0
      go_wp2_with fail
      go_roundw
      case rel => exact ⟨k + 1, by omega, by go_num, HPUT, HB2.out.setCell (Nat.le_refl _) _⟩
      case measure => simp [intOf]; omega
    · obtain rfl : k = n := by omega
      go_wp2_with fail
      go_ret
      exact ⟨_, rfl, (hpr.out.row HLEN.out (Nat.le_refl _) (by unfold maxLen; omega)).owns, hbw.out⟩

set_option maxHeartbeats 8000000 in
set_option maxRecDepth 100000 in
theorem copiedWrites_any (o : Option Addr) (n c : Nat) (ws : List (Int × ByteArray)) (w : World) (h : WriteA w o n ws) (hn : n ≤ 2000000) (hz : ∀ x ∈ ws, (x.2).size ≤ 1048576) :
    Calls Try.prog 52 #[.slice o n c] w fun e w' => ∃ v, e = .returned v ∧ w'.ownsRow w.heap.size 67 2 v n (flatWrite ws) ∧ Below w.heap.size w w' := by
  obtain ⟨i0, hi, hz0, hz1, hz2⟩ := info_parts infoWrite
  obtain ⟨M, hM⟩ : ∃ M, M = madeCells (Value.agg #[.int .i64 0, .string ⟨#[]⟩]).cells (((n : Nat) : Int).toNat * i0.size) := ⟨_, rfl⟩
  have hmk : ∀ W : World, (Instr.makeSlice 25 (.int .i64 (n : Int)) (.int .i64 (n : Int))).run Try.prog W = .ok (.slice (some ⟨W.heap.size, 0, none⟩) n n) (W.alloc (.cells M 67)) := fun W => by
    have h := run_make (P := Try.prog) W 25 67 i0 (Value.agg #[.int .i64 0, .string ⟨#[]⟩]) Try.underlying25 hi hz0 .i64 .i64 (n : Int) (n : Int) (by omega) (by omega) (by rw [hz2]; omega) (by omega)
    rw [← hM] at h
    simpa using h
  have hMs : M.size = n * 2 := by rw [hM, size_madeCells, hz1]; simp
  have HA : Hid (WriteA w o n ws) := h
  have HZ : Hid (∀ x ∈ ws, (x.2).size ≤ 1048576) := hz
  have HLEN : Hid (ws.length = n) := h.1
  clear hM h hz
  have HP : Hid (PartWrite (w.alloc (.cells M 67)) w.heap.size n 0 ws) := ⟨M, heap_alloc_new w _, hMs, fun i h => absurd h (by omega)⟩
  go_enter Try.func52, Try.ntmps52
  go_wp2_with fail
  go_loopw [11] (fun i wr => ∃ k : Nat, k ≤ n ∧ i = .int .i64 (k : Int) ∧ Hid (PartWrite wr w.heap.size n k ws) ∧ Hid (Below w.heap.size w wr)) (fun i _ => n - (intOf i).toNat)
  case atStart => exact ⟨0, Nat.zero_le _, rfl, HP, (Below.refl _ _).alloc (Nat.le_refl _) _⟩
  case round =>
    obtain ⟨k, hk, rfl, hpr, hbw⟩ := hrel
    by_cases hlt : k < n
    · have hlt2 : (k : Int) < (n : Int) := by omega
      have hjx : k < ws.length := by rw [HLEN.out]; omega
      obtain ⟨g, rfl, hg, r0, r1⟩ := (HA.out.below hbw.out).2 k hlt
      obtain ⟨y, hy⟩ : ∃ y, y = writeAt ws k := ⟨_, rfl⟩
      have HZ1 : Hid (y.2.size ≤ 281474976710656) := by rw [Hid, hy]; have := HZ.out _ (writeAt_mem ws k hjx); omega
      have HY : Hid (writeAt ws k = y) := hy.symm
      rw [← hy] at r0 r1
      obtain ⟨y0, y1⟩ := y
      simp only at r0 r1
      clear hy hjx
      go_upto_region 5 with fail
      clear r0 r1
      obtain ⟨q, hq⟩ : ∃ q, q = wr.heap.size := ⟨_, rfl⟩
      obtain ⟨w1, hw1⟩ : ∃ W, W = wr.alloc (.cells #[.int .i64 y0, .string y1] 67) := ⟨_, rfl⟩
      rw [← hw1, ← hq]
      have hB1 : Below w.heap.size w w1 := by rw [hw1]; exact hbw.out.alloc hbw.out.size _
      have hS : w1.heap[q]? = some (.cells #[.int .i64 y0, .string y1] 67) := by rw [hw1, hq]; exact heap_alloc_new _ _
      have hp1 : PartWrite w1 w.heap.size n k ws := by rw [hw1]; exact hpr.out.below ((Below.refl _ _).alloc (Nat.le_refl _) _) hpr.out.lt
      have HS : Hid (w1.heap[q]? = some (.cells #[.int .i64 y0, .string y1] 67)) := hS
      have HK : Hid (∀ W, Below w1.heap.size w1 W → (W.cell? ⟨q, 0, none⟩ = some (.int .i64 y0) ∧ W.cell? ⟨q, 1, none⟩ = some (.string y1)) ∧ PartWrite W w.heap.size n k ws ∧ Below w.heap.size w W) := fun W hW =>
        ⟨⟨(cell_of (blk_below hS hW) 0).trans rfl, (cell_of (blk_below hS hW) 1).trans rfl⟩, hp1.below hW hp1.lt, hB1.trans (hW.mono hB1.size)⟩
      have HSET : Hid (∀ (W : World) (a b : Value), (W.cell? ⟨q, 0, none⟩ = some (.int .i64 y0) ∧ W.cell? ⟨q, 1, none⟩ = some (.string y1)) → (((W.setCell ⟨w.heap.size, k * 2, none⟩ a).setCell ⟨w.heap.size, k * 2 + 1, none⟩ b).cell? ⟨q, 0, none⟩ = some (.int .i64 y0) ∧ ((W.setCell ⟨w.heap.size, k * 2, none⟩ a).setCell ⟨w.heap.size, k * 2 + 1, none⟩ b).cell? ⟨q, 1, none⟩ = some (.string y1))) := fun W a b h => by
        have hne : q ≠ w.heap.size := by rw [hq]; exact Nat.ne_of_gt hpr.out.lt
        have hh : ((W.setCell ⟨w.heap.size, k * 2, none⟩ a).setCell ⟨w.heap.size, k * 2 + 1, none⟩ b).heap[q]? = W.heap[q]? := (heap_setCell_other _ _ q _ hne).trans (heap_setCell_other _ _ q _ hne)
        exact ⟨(World.cell?_of_block hh).trans h.1, (World.cell?_of_block hh).trans h.2⟩
      clear hq hw1 hB1 hS hp1 HS hpr hbw
      obtain ⟨c0, c1⟩ := (HK.out _ (Below.refl _ _)).1
      go_region_held3 (fun W => W.cell? ⟨q, 0, none⟩ = some (.int .i64 y0) ∧ W.cell? ⟨q, 1, none⟩ = some (.string y1)) (first | assumption | exact HSET.out _ _ _ ⟨e0, e1⟩ | go_keep) (first | (go_at_call 48; refine (clone_any y1 _ HZ1.out).mono ?_; rintro e u1 ⟨rfl, hb1⟩; obtain ⟨⟨e0, e1⟩, hp2, hb2⟩ := HK.out u1 ((Below.refl _ _).drew.trans hb1); obtain ⟨u2, hu2⟩ := hp2.cell (k * 2) (by omega); have f2 := hp2.frozen (k * 2); obtain ⟨u3, hu3⟩ := hp2.cell (k * 2 + 1) (by omega); have f3 := hp2.frozen (k * 2 + 1)))
      have hput := hp2.put hlt
      rw [HY.out] at hput
      have HPUT : Hid _ := hput
      have HB2 : Hid (Below w.heap.size w u1) := hb2
      clear hput hb2 hp2 hb1 e0 e1 c0 c1 hu2 hu3 f2 f3
      go_wp2_with fail
      go_roundw
      case rel => exact ⟨k + 1, by omega, by go_num, HPUT, (HB2.out.setCell (Nat.le_refl _) _).setCell (Nat.le_refl _) _⟩
      case measure => simp [intOf]; omega
    · obtain rfl : k = n := by omega
      go_wp2_with fail
      go_ret
      exact ⟨_, rfl, hpr.out.owns HLEN.out (by unfold maxLen; omega) (Nat.le_refl _), hbw.out⟩

theorem own_form {w : World} {base n cap : Nat} {t : TypeId} {z : Nat} {oa : Option Addr} {l : List Value} (h : w.ownsRow base t z (.slice oa n cap) n l) : (oa = none ∧ cap = 0) ∨ ∃ g, oa = some ⟨g, 0, none⟩ := by
  rcases h.2 with ⟨e, _⟩ | ⟨g, cap', cur, e, _⟩
  · cases e; exact .inl ⟨rfl, rfl⟩
  · cases e; exact .inr ⟨g, rfl⟩
theorem own_cap {w : World} {base n cap : Nat} {t : TypeId} {z : Nat} {oa : Option Addr} {l : List Value} (h : w.ownsRow base t z (.slice oa n cap) n l) : n ≤ cap := by
  rcases h.2 with ⟨e, h0⟩ | ⟨g, cap', cur, e, _, _, h3, _⟩
  · cases e; exact Nat.le_refl _
  · cases e; exact h3
theorem own_cells {w : World} {base n cap : Nat} {t : TypeId} {z : Nat} {b : Addr} {l : List Value} (h : w.ownsRow base t z (.slice (some b) n cap) n l) (j : Nat) (u : Value) (hj : l[j]? = some u) : w.cell? (b.add j) = some u := by
  rcases h.2 with ⟨e, _⟩ | ⟨g, cap', cur, e, _, hg, _, _, _, ht⟩
  · cases e
  · cases e
    rw [Addr.add_lit, Nat.zero_add, cell_of_row w g j cur t (0, 0) hg]
    rw [← ht, List.getElem?_take] at hj
    split at hj
    · simpa using hj
    · cases hj
theorem text_view {w : World} {base n cap : Nat} {oa : Option Addr} {l : List ByteArray} (h : w.ownsRow base 9 1 (.slice oa n cap) n (l.map Value.string)) : TextsA w oa n l := by
  obtain ⟨oa', cap', e, h'⟩ := texts_own h
  cases e
  exact h'
set_option maxHeartbeats 4000000 in
theorem firstWrites_any (o : Option Addr) (n c m : Nat) (w : World) (ho : (o = none ∧ c = 0) ∨ ∃ g, o = some ⟨g, 0, none⟩) (hm : m ≤ c) :
    Calls Try.prog 40 #[.slice o n c, .int .i64 (m : Int)] w fun e w' => e = .returned (.slice o m m) ∧ w' = w := by
  rcases ho with ⟨rfl, _⟩ | ⟨g, rfl⟩
  · go_enter Try.func40, Try.ntmps40
    go_wp2_with fail
    go_ret
    exact ⟨rfl, rfl⟩
  · go_enter Try.func40, Try.ntmps40
    go_wp2_with fail
    go_ret
    exact ⟨rfl, rfl⟩

end Go.Proofs.Ytckjbgpdbehmaaa

namespace Go.Proofs.Ytckjbgpdbehmaaa
open Go.RowKit
open Go.Lib hiding intOf

/-- A disk is stored into the result's block. -/
theorem stored {w w0 w1 : World} {q : Nat} {x0 x1 v1 v2 : Value} {n1 n2 : Nat} {cs : List ByteArray} {ws : List (Int × ByteArray)} (hC : w1.heap[q]? = some (.cells #[x0, x1] 27)) (hD : DiskO w1 w0.heap.size v1 n1 cs v2 n2 ws) (hs : w.heap.size ≤ w0.heap.size) (hb : Below w.heap.size w w1) (hq : w.heap.size ≤ q) :
    ((w1.setCell ⟨q, 0, none⟩ v1).setCell ⟨q, 1, none⟩ v2).heap[q]? = some (.cells #[v1, v2] 27) ∧ DiskO ((w1.setCell ⟨q, 0, none⟩ v1).setCell ⟨q, 1, none⟩ v2) w.heap.size v1 n1 cs v2 n2 ws ∧ Below w.heap.size w ((w1.setCell ⟨q, 0, none⟩ v1).setCell ⟨q, 1, none⟩ v2) := by
  refine ⟨heap_setCell_same _ _ _ _ _ _ (heap_setCell_same _ _ _ _ _ _ hC), ⟨?_, ?_⟩, (hb.setCell hq _).setCell hq _⟩
  · exact owns_same (owns_wide hD.cells hs) (fun g hg => by
      have hne : g ≠ q := own_ne hD.cells hC (by decide) g hg
      rw [heap_setCell_other _ _ g _ hne, heap_setCell_other _ _ g _ hne])
  · exact owns_same (owns_wide hD.pend hs) (fun g hg => by
      have hne : g ≠ q := own_ne hD.pend hC (by decide) g hg
      rw [heap_setCell_other _ _ g _ hne, heap_setCell_other _ _ g _ hne])
theorem shutDiskB {fn : Func} {w w0 w1 : World} {q : Nat} {a : Act} {p p2 : Tmp} {x0 x1 v1 v2 : Value} {b : Bool} {n1 n2 : Nat} {cs : List ByteArray} {ws : List (Int × ByteArray)} (hr : fn.results = #[.cell p 27, .tmp p2]) (hp : a.tmps.getD p undef = .pointer (some ⟨q, 0, none⟩)) (hp2 : a.tmps.getD p2 undef = .bool b) (hd : a.defers = []) (hC : w1.heap[q]? = some (.cells #[x0, x1] 27)) (hD : DiskO w1 w0.heap.size v1 n1 cs v2 n2 ws) (hn1 : n1 = cs.length) (hn2 : n2 = ws.length) (hs : w.heap.size ≤ w0.heap.size) (hb : Below w.heap.size w w1) (hq : w.heap.size ≤ q) :
    bodyPost Try.prog fn (fun e w' => DiskIsB cs ws b w e w') .ret a ((w1.setCell ⟨q, 0, none⟩ v1).setCell ⟨q, 1, none⟩ v2) := by
  obtain ⟨h1, h2, h3⟩ := stored hC hD hs hb hq
  subst hn1 hn2
  have h4 := run_loadVar_row (P := Try.prog) _ q 27 27 _ (0, 0) _ h1 Try.underlying27 rfl (by kernel_rfl)
  have hp' : a.tmps[p]?.getD undef = .pointer (some ⟨q, 0, none⟩) := by simpa using hp
  have hp2' : a.tmps[p2]?.getD undef = .bool b := by simpa using hp2
  refine bodyPost_ret (v := .tuple #[.agg #[v1, v2], .bool b]) ?_ hd ⟨_, _, rfl, h2, h3⟩
  simp [results, hr, hp', hp2', asAddr, h4]
set_option maxHeartbeats 4000000 in
theorem implDiskOk_len (o1 : Option Addr) (n1 c1 : Nat) (v2 : Value) (n2 : Nat) (ws : List (Int × ByteArray)) (B : Nat) (w : World) (h : w.ownsRow B 67 2 v2 n2 (flatWrite ws)) (hn2 : n2 ≤ 2000000) :
    Calls Try.prog 16 #[.agg #[.slice o1 n1 c1, v2]] w fun e w' => BoolIs (DiskN n1 ws) w e w' := by
  obtain ⟨o2, c2, rfl⟩ := slice_of_owns h
  have HV : Hid (WriteA w o2 n2 ws) := write_view h
  have HLN : Hid (ws.length = n2) := write_len h
  clear h
  by_cases h1 : n1 = 20
  · subst h1
    by_cases h2 : n2 ≤ 16
    · have h3 : (n2 : Int) ≤ 16 := by omega
      go_enter Try.func16, Try.ntmps16
      go_wp2_with fail
      refine (allToCells_any o2 n2 c2 ws _ (HV.out.below ((Below.refl _ _).alloc (Nat.le_refl _) _)) hn2).mono ?_
      rintro e w1 ⟨b, rfl, hb, bw⟩
      have HB : Hid (b = true ↔ AllIn ws) := hb
      have HBW : Hid (Below w.heap.size w w1) := ((Below.refl _ _).alloc (Nat.le_refl _) _).trans (bw.mono (by simp))
      have HN : Hid (n2 ≤ 16) := h2
      clear hb bw
      go_wp2_with fail
      go_ret
      exact ⟨b, rfl, ⟨fun e => ⟨rfl, by rw [HLN.out]; exact HN.out, HB.out.1 e⟩, fun h => HB.out.2 h.2.2⟩, HBW.out⟩
    · have h3 : ¬ (n2 : Int) ≤ 16 := by omega
      have HNO : Hid (¬ ws.length ≤ 16) := by rw [HLN.out]; exact h2
      go_enter Try.func16, Try.ntmps16
      go_wp2_with fail
      go_ret
      exact BoolIs.no (fun h => HNO.out h.2.1) ((Below.refl _ _).alloc (Nat.le_refl _) _)
  · have h3 : ¬ (n1 : Int) = 20 := by omega
    have HNO : Hid (¬ n1 = 20) := h1
    go_enter Try.func16, Try.ntmps16
    go_wp2_with fail
    go_ret
    exact BoolIs.no (fun h => HNO.out h.1) ((Below.refl _ _).alloc (Nat.le_refl _) _)

theorem implDiskOk_any (v1 v2 : Value) (n1 : Nat) (cs : List ByteArray) (n2 : Nat) (ws : List (Int × ByteArray)) (B : Nat) (w : World) (h : DiskO w B v1 n1 cs v2 n2 ws) (_hn1 : n1 ≤ 2000000) (hn2 : n2 ≤ 2000000) :
    Calls Try.prog 16 #[.agg #[v1, v2]] w fun e w' => BoolIs (DiskP cs ws) w e w' := by
  obtain ⟨oCx, pCx, rfl⟩ := slice_of_owns h.cells
  have hl : cs.length = n1 := by have := h.cells.1; rw [List.length_map] at this; omega
  have h1 := implDiskOk_len oCx n1 pCx v2 n2 ws B w h.pend hn2
  rw [← hl] at h1
  rw [← hl]
  exact h1

theorem lieAll {W : World} {B g n c : Nat} {cs : List ByteArray} (h : W.ownsRow B 9 1 (.slice (some ⟨g, 0, none⟩) n c) n (cs.map Value.string)) : W.rangeAt g 0 (cs.map Value.string) := fun j v hv => by
  obtain ⟨oa, cap, e, hl, hc⟩ := texts_own h
  cases e
  have hj : j < cs.length := by
    have := (List.getElem?_eq_some_iff.1 hv).1
    simpa using this
  obtain ⟨g', e, _, r⟩ := hc j (by omega)
  cases e
  rw [List.getElem?_map, getElem_textAt cs j hj] at hv
  rw [Nat.zero_add, r]
  exact hv
set_option maxHeartbeats 4000000 in
theorem implDiskPut_false (o1 : Option Addr) (n1 c1 : Nat) (v2 : Value) (n2 : Nat) (ws : List (Int × ByteArray)) (B : Nat) (w : World) (h : w.ownsRow B 67 2 v2 n2 (flatWrite ws)) (hn2 : n2 ≤ 2000000) (hno : ¬ DiskN n1 ws) (x : Int) (t : ByteArray) :
    Calls Try.prog 21 #[.agg #[.slice o1 n1 c1, v2], .int .i64 x, .string t] w fun e w' => DiskIsB [] [] false w e w' := by
  obtain ⟨o2, c2, rfl⟩ := slice_of_owns h
  have HP : Hid (∀ W, Below w.heap.size w W → W.ownsRow B 67 2 (.slice o2 n2 c2) n2 (flatWrite ws)) := fun W hb => owns_below h hb (fun g hg => owns_lt h hg)
  have HNO : Hid (¬ DiskN n1 ws) := hno
  clear h hno
  go_enter Try.func21, Try.ntmps21
  go_wp2_with fail
  refine (implDiskOk_len o1 n1 c1 _ n2 ws B _ (HP.out _ (((Below.refl _ _).alloc (Nat.le_refl _) _).alloc (by simp) _)) hn2).mono ?_
  rintro e w3 ⟨b, rfl, hb, bw⟩
  obtain rfl : b = false := by
    cases b with
    | true => exact absurd (hb.1 rfl) HNO.out
    | false => rfl
  have hC := blk_below (heap_alloc2_new w _ _) bw
  have c0 := (cell_of hC 0).trans rfl
  have c1' := (cell_of hC 1).trans rfl
  have f0 := frozen_of hC 0
  have f1 := frozen_of hC 1
  have HC : Hid _ := hC
  have HB : Hid (Below w.heap.size w w3) := (((Below.refl _ _).alloc (Nat.le_refl _) _).alloc (by simp) _).trans (bw.mono (by simp; omega))
  clear hC bw hb
  go_wp2_with fail
  refine shutDiskB (w0 := w) Try.results21 ?_ ?_ ?_ HC.out (diskO_nil _ _) ?_ ?_ (Nat.le_refl _) HB.out (Nat.le_succ _) <;> rfl
theorem no_cap {o2 : Option Addr} {n2 c2 : Nat} (hF : (o2 = none ∧ c2 = 0) ∨ ∃ g, o2 = some ⟨g, 0, none⟩) (hc : n2 ≤ c2) (h : o2 = none) : n2 = 0 ∧ n2 = 0 := by
  rcases hF with h2 | ⟨g, h2⟩
  · have := h2.2
    omega
  · rw [h] at h2
    cases h2
theorem two_ones (x : Int) (t : ByteArray) : ∀ u ∈ [Value.int .i64 x, Value.string t], u.oneCell' = true := fun u hu => by
  simp only [List.mem_cons, List.not_mem_nil, or_false] at hu
  rcases hu with rfl | rfl <;> rfl
theorem put_c {cs : List ByteArray} {ws : List (Int × ByteArray)} (h : DiskP cs ws) : putC cs ws = cs := by unfold putC; rw [if_pos ((diskB_iff cs ws).2 h)]
theorem put_b_no {cs : List ByteArray} {ws : List (Int × ByteArray)} {x : Int} (hn : ¬ (ws.length < 16 ∧ (0 ≤ x ∧ x ≤ 19))) : putB cs ws x = false := by
  unfold putB cellB
  rw [Bool.eq_false_iff]
  intro h
  simp only [Bool.and_eq_true, decide_eq_true_eq] at h
  exact hn h.2
theorem put_b {cs : List ByteArray} {ws : List (Int × ByteArray)} {x : Int} (h : DiskP cs ws) (hl : ws.length < 16) (hx : 0 ≤ x ∧ x ≤ 19) : putB cs ws x = true := by
  unfold putB cellB
  simp only [Bool.and_eq_true, decide_eq_true_eq]
  exact ⟨(diskB_iff cs ws).2 h, hl, hx⟩
theorem put_w_no {cs : List ByteArray} {ws : List (Int × ByteArray)} {x : Int} {t : ByteArray} (h : DiskP cs ws) (hn : ¬ (ws.length < 16 ∧ (0 ≤ x ∧ x ≤ 19))) : putW cs ws x t = ws := by
  unfold putW
  rw [put_b_no hn, if_neg (by decide), if_pos ((diskB_iff cs ws).2 h)]
theorem put_w {cs : List ByteArray} {ws : List (Int × ByteArray)} {x : Int} {t : ByteArray} (h : DiskP cs ws) (hl : ws.length < 16) (hx : 0 ≤ x ∧ x ≤ 19) : putW cs ws x t = ws ++ [(x, t)] := by
  unfold putW
  rw [put_b h hl hx, if_pos rfl]
set_option maxHeartbeats 8000000 in
set_option maxRecDepth 100000 in
theorem implDiskPut_true (v1 v2 : Value) (cs : List ByteArray) (n2 : Nat) (ws : List (Int × ByteArray)) (B : Nat) (w : World) (h : DiskO w B v1 20 cs v2 n2 ws) (hn2 : n2 ≤ 2000000) (hok : DiskP cs ws) (hz1 : ∀ i, i < 20 → (textAt cs i).size ≤ 1048576) (hz2 : ∀ x ∈ ws, (x.2).size ≤ 1048576) (x : Int) (t : ByteArray) (ht : t.size ≤ 1048576) :
    Calls Try.prog 21 #[.agg #[v1, v2], .int .i64 x, .string t] w fun e w' => DiskIsB (putC cs ws) (putW cs ws x t) (putB cs ws x) w e w' := by
  obtain ⟨o1, c1, rfl⟩ := slice_of_owns h.cells
  obtain ⟨o2, c2, rfl⟩ := slice_of_owns h.pend
  obtain ⟨g, rfl⟩ := owns_some h.cells (by omega)
  have HD : Hid (∀ W, Below w.heap.size w W → DiskO W B (.slice (some ⟨g, 0, none⟩) 20 c1) 20 cs (.slice o2 n2 c2) n2 ws) := fun W hb => ⟨owns_below h.cells hb (fun g hg => owns_lt h.cells hg), owns_below h.pend hb (fun g hg => owns_lt h.pend hg)⟩
  have HOK : Hid (DiskP cs ws) := hok
  have HZ1 : Hid (∀ i, i < 20 → (textAt cs i).size ≤ 1048576) := hz1
  have HZ2 : Hid (∀ x ∈ ws, (x.2).size ≤ 1048576) := hz2
  have HLN : Hid (ws.length = n2) := write_len h.pend
  have HCL : Hid (cs.length = 20) := hok.1
  have hua := Try.underlying64
  have hia : (Try.prog.info? 64).map (·.size) = some (cs.map Value.string).length := by rw [List.length_map, HCL.out]; kernel_rfl
  have HUA : Hid ((Try.prog.info? 64).map (·.size) = some (cs.map Value.string).length) := hia
  clear h hok hz1 hz2
  go_enter Try.func21, Try.ntmps21
  go_wp2_with fail
  refine (implDiskOk_any _ _ 20 _ n2 ws B _ (HD.out _ (((Below.refl _ _).alloc (Nat.le_refl _) _).alloc (by simp) _)) (by omega) hn2).mono ?_
  rintro e w3 ⟨b, rfl, hb, bw⟩
  obtain rfl : b = true := hb.2 HOK.out
  have hB3 : Below w.heap.size w w3 := (((Below.refl _ _).alloc (Nat.le_refl _) _).alloc (by simp) _).trans (bw.mono (by simp; omega))
  have hS3 := blk_below (blk_alloc (heap_alloc_new w _) _) bw
  have HS3 : Hid (w3.heap[w.heap.size]? = some (.cells #[.slice (some ⟨g, 0, none⟩) 20 c1, .slice o2 n2 c2] 27)) := hS3
  have HD3 : Hid (∀ W, Below w3.heap.size w3 W → DiskO W B (.slice (some ⟨g, 0, none⟩) 20 c1) 20 cs (.slice o2 n2 c2) n2 ws) := fun W hb => HD.out W (hB3.trans (hb.mono hB3.size))
  have HB3 : Hid (Below w.heap.size w w3) := hB3
  have HC3 : Hid (w3.heap[w.heap.size + 1]? = some (.cells #[.slice none 0 0, .slice none 0 0] 27)) := blk_below (heap_alloc2_new w _ _) bw
  obtain ⟨q, hq⟩ : ∃ q, q = w.heap.size := ⟨_, rfl⟩
  have HQ : Hid (w.heap.size = q) := hq.symm
  rw [← hq] at HS3 HC3
  rw [← hq]
  have HK : Hid (∀ W, Below w3.heap.size w3 W → W.cell? ⟨q, 0, none⟩ = some (.slice (some ⟨g, 0, none⟩) 20 c1) ∧ W.cell? ⟨q, 1, none⟩ = some (.slice o2 n2 c2) ∧ W.rangeAt g 0 (cs.map Value.string)) := fun W hW =>
    ⟨(cell_of (blk_below HS3.out hW) 0).trans rfl, (cell_of (blk_below HS3.out hW) 1).trans rfl, lieAll (HD3.out W hW).cells⟩
  clear hb hB3 hS3 bw hq HD
  have hat : ∀ W : World, (Instr.arrayAt 64 (.slice (some ⟨g, 0, none⟩) 20 c1)).run Try.prog W = .ok (.pointer (some ⟨g, 0, none⟩)) W := fun W => by simp [Instr.arrayAt]
  obtain ⟨i0, hi, hz0, hz1, hz2⟩ := info_parts infoWrite
  have HT : Hid (t.size ≤ 1048576) := ht
  clear ht hat hua hia HUA
  obtain ⟨d0, d1, d2⟩ := HK.out _ (Below.refl _ _)
  have hF := own_form (HD3.out _ (Below.refl _ _)).pend
  have HF : Hid ((o2 = none ∧ c2 = 0) ∨ ∃ g, o2 = some ⟨g, 0, none⟩) := hF
  have HCAP : Hid (n2 ≤ c2) := own_cap (HD3.out _ (Below.refl _ _)).pend
  clear hF
  go_wp2_with fail
  refine (firstWrites_any o2 n2 c2 n2 _ HF.out HCAP.out).mono ?_
  rintro e w4 ⟨rfl, hw4⟩
  rw [hw4]
  clear hw4 w4 d2
  by_cases hlt : n2 < 16
  · have hlt2 : (n2 : Int) < 16 := by omega
    go_wp2_with fail
    refine (isCell_any x _).mono ?_
    rintro e w4 ⟨b, rfl, hb, bw⟩
    have HB34 : Hid (Below w3.heap.size w3 w4) := bw
    obtain ⟨e0, e1, _⟩ := HK.out _ bw
    cases b with
    | false =>
      have HX : Hid (¬ (ws.length < 16 ∧ (0 ≤ x ∧ x ≤ 19))) := fun h => nomatch hb.2 h.2
      clear hb bw d0 d1
      go_upto_region 7 with fail
      go_wp2_with fail
      refine (copiedTexts_any (some ⟨g, 0, none⟩) 20 c1 cs _ (text_view (HD3.out _ (HB34.out)).cells) (by omega) HZ1.out).mono ?_
      rintro e wa ⟨v1, rfl, ho1, ba⟩
      obtain ⟨oa, pa, rfl⟩ := slice_of_owns ho1
      have HBA : Hid (Below w4.heap.size w4 wa) := ba
      have HO1 : Hid (wa.ownsRow w4.heap.size 9 1 (.slice oa 20 pa) 20 (cs.map Value.string)) := ho1
      clear ba ho1
      go_wp2_with fail
      refine (copiedWrites_any o2 n2 n2 (ws) _ ((write_view (HD3.out _ HB34.out).pend).below HBA.out) (by omega) (HZ2.out)).mono ?_
      rintro e wb ⟨v2, rfl, ho2, bb⟩
      obtain ⟨ob, pb, rfl⟩ := slice_of_owns ho2
      have HBB : Hid (Below w3.heap.size w3 wb) := (HB34.out).trans ((HBA.out.mono (HB34.out).size).trans (bb.mono (Nat.le_trans (HB34.out).size HBA.out.size)))
      have hCb := blk_below HC3.out HBB.out
      have HCB : Hid (wb.heap[q + 1]? = some (.cells #[.slice none 0 0, .slice none 0 0] 27)) := hCb
      have HDB : Hid (DiskO wb w4.heap.size (.slice oa 20 pa) 20 cs (.slice ob n2 pb) n2 (ws)) := ⟨owns_below HO1.out bb (fun g hg => owns_lt HO1.out hg), owns_wide ho2 HBA.out.size⟩
      have HSB : Hid (w.heap.size ≤ w4.heap.size) := Nat.le_trans HB3.out.size (HB34.out).size
      have HBW : Hid (Below w.heap.size w wb) := HB3.out.trans (HBB.out.mono HB3.out.size)
      have k0 := (cell_of hCb 0).trans rfl
      have k1 := (cell_of hCb 1).trans rfl
      have k2 := frozen_of hCb 0
      have k3 := frozen_of hCb 1
      clear hCb bb ho2
      go_wp2_with fail
      rw [put_w_no HOK.out HX.out, put_c HOK.out, put_b_no HX.out]
      refine shutDiskB (w0 := w4) Try.results21 ?_ ?_ ?_ HCB.out HDB.out ?_ ?_ HSB.out HBW.out (by rw [HQ.out]; exact Nat.le_succ _) <;> first | rfl | exact HCL.out.symm | exact HLN.out.symm | (rw [List.length_append, HLN.out]; rfl)
    | true =>
      have HX : Hid (0 ≤ x ∧ x ≤ 19) := hb.1 rfl
      have HL16 : Hid (ws.length < 16) := by rw [HLN.out]; exact hlt
      clear hb bw d0 d1
      have HOW : Hid (∀ W, Below w3.heap.size w3 W → W.ownsRow B 67 2 (.slice o2 n2 c2) n2 (flatWrite ws)) := fun W h => (HD3.out W h).pend
      go_upto_region 7 with (refine wpList_append_grows _ rfl _ _ 25 rfl 67 i0 (.agg #[.int .i64 0, .string ⟨#[]⟩]) 2 24 Try.underlying25 hi hz0 hz1 hz2 rfl (by omega) o2 n2 n2 (flatWrite ws) rfl (no_cap HF.out HCAP.out) (by rw [flatWrite_len, HLN.out]) (fun b hb j u hj => by subst hb; exact own_cells (HOW.out _ ((HB34.out).alloc HB34.out.size _)) j u hj) ⟨w4.heap.size, 0, none⟩ 1 1 [.int .i64 x, .string t] rfl rfl (fun j u hj => by rw [Addr.add_lit, Nat.zero_add, cell_of (heap_alloc_new _ _) j]; simpa using hj) (two_ones x t) (by omega) (by unfold maxLen; omega) (by omega) ?_; intro v5 w5 ho5 hg5)
      obtain ⟨o5, c5, rfl⟩ := slice_of_owns ho5
      have HG5 : Hid (Below w3.heap.size w3 w5) := (HB34.out.alloc HB34.out.size _).grown hg5 (Nat.le_trans HB34.out.size (by simp)) (fun k h => by cases h)
      have HO5 : Hid (WriteA w5 o5 (n2 + 1) (ws ++ [(x, t)])) := write_view (base := (w4.alloc (.cells #[.int .i64 x, .string t] 67)).heap.size) (cap := c5) (by rw [flatWrite_append, flatWrite_one]; exact ho5)
      have HZ5 : Hid (∀ y ∈ ws ++ [(x, t)], (y.2).size ≤ 1048576) := fun y hy => by
        rcases List.mem_append.1 hy with h | h
        · exact HZ2.out y h
        · rw [List.mem_singleton.1 h]; exact HT.out
      clear ho5 hg5 e0 e1
      obtain ⟨e0, e1, _⟩ := HK.out _ HG5.out
      go_wp2_with fail
      refine (copiedTexts_any (some ⟨g, 0, none⟩) 20 c1 cs _ (text_view (HD3.out _ (HG5.out)).cells) (by omega) HZ1.out).mono ?_
      rintro e wa ⟨v1, rfl, ho1, ba⟩
      obtain ⟨oa, pa, rfl⟩ := slice_of_owns ho1
      have HBA : Hid (Below w5.heap.size w5 wa) := ba
      have HO1 : Hid (wa.ownsRow w5.heap.size 9 1 (.slice oa 20 pa) 20 (cs.map Value.string)) := ho1
      clear ba ho1
      go_wp2_with fail
      refine (copiedWrites_any o5 (n2 + 1) c5 (ws ++ [(x, t)]) _ ((HO5.out).below HBA.out) (by omega) (HZ5.out)).mono ?_
      rintro e wb ⟨v2, rfl, ho2, bb⟩
      obtain ⟨ob, pb, rfl⟩ := slice_of_owns ho2
      have HBB : Hid (Below w3.heap.size w3 wb) := (HG5.out).trans ((HBA.out.mono (HG5.out).size).trans (bb.mono (Nat.le_trans (HG5.out).size HBA.out.size)))
      have hCb := blk_below HC3.out HBB.out
      have HCB : Hid (wb.heap[q + 1]? = some (.cells #[.slice none 0 0, .slice none 0 0] 27)) := hCb
      have HDB : Hid (DiskO wb w5.heap.size (.slice oa 20 pa) 20 cs (.slice ob (n2 + 1) pb) (n2 + 1) (ws ++ [(x, t)])) := ⟨owns_below HO1.out bb (fun g hg => owns_lt HO1.out hg), owns_wide ho2 HBA.out.size⟩
      have HSB : Hid (w.heap.size ≤ w5.heap.size) := Nat.le_trans HB3.out.size (HG5.out).size
      have HBW : Hid (Below w.heap.size w wb) := HB3.out.trans (HBB.out.mono HB3.out.size)
      have k0 := (cell_of hCb 0).trans rfl
      have k1 := (cell_of hCb 1).trans rfl
      have k2 := frozen_of hCb 0
      have k3 := frozen_of hCb 1
      clear hCb bb ho2
      go_wp2_with fail
      rw [put_w HOK.out HL16.out HX.out, put_c HOK.out, put_b HOK.out HL16.out HX.out]
      refine shutDiskB (w0 := w5) Try.results21 ?_ ?_ ?_ HCB.out HDB.out ?_ ?_ HSB.out HBW.out (by rw [HQ.out]; exact Nat.le_succ _) <;> first | rfl | exact HCL.out.symm | exact HLN.out.symm | (rw [List.length_append, HLN.out]; rfl)
  · have hlt2 : ¬ (n2 : Int) < 16 := by omega
    have HX : Hid (¬ (ws.length < 16 ∧ (0 ≤ x ∧ x ≤ 19))) := fun h => hlt (by have := h.1; rw [HLN.out] at this; exact this)
    go_upto_region 7 with fail
    go_wp2_with fail
    refine (copiedTexts_any (some ⟨g, 0, none⟩) 20 c1 cs _ (text_view (HD3.out _ (Below.refl w3.heap.size w3)).cells) (by omega) HZ1.out).mono ?_
    rintro e wa ⟨v1, rfl, ho1, ba⟩
    obtain ⟨oa, pa, rfl⟩ := slice_of_owns ho1
    have HBA : Hid (Below w3.heap.size w3 wa) := ba
    have HO1 : Hid (wa.ownsRow w3.heap.size 9 1 (.slice oa 20 pa) 20 (cs.map Value.string)) := ho1
    clear ba ho1
    go_wp2_with fail
    refine (copiedWrites_any o2 n2 n2 (ws) _ ((write_view (HD3.out _ (Below.refl _ _)).pend).below HBA.out) (by omega) (HZ2.out)).mono ?_
    rintro e wb ⟨v2, rfl, ho2, bb⟩
    obtain ⟨ob, pb, rfl⟩ := slice_of_owns ho2
    have HBB : Hid (Below w3.heap.size w3 wb) := (Below.refl w3.heap.size w3).trans ((HBA.out.mono (Below.refl w3.heap.size w3).size).trans (bb.mono (Nat.le_trans (Below.refl w3.heap.size w3).size HBA.out.size)))
    have hCb := blk_below HC3.out HBB.out
    have HCB : Hid (wb.heap[q + 1]? = some (.cells #[.slice none 0 0, .slice none 0 0] 27)) := hCb
    have HDB : Hid (DiskO wb w3.heap.size (.slice oa 20 pa) 20 cs (.slice ob n2 pb) n2 (ws)) := ⟨owns_below HO1.out bb (fun g hg => owns_lt HO1.out hg), owns_wide ho2 HBA.out.size⟩
    have HSB : Hid (w.heap.size ≤ w3.heap.size) := Nat.le_trans HB3.out.size (Below.refl w3.heap.size w3).size
    have HBW : Hid (Below w.heap.size w wb) := HB3.out.trans (HBB.out.mono HB3.out.size)
    have k0 := (cell_of hCb 0).trans rfl
    have k1 := (cell_of hCb 1).trans rfl
    have k2 := frozen_of hCb 0
    have k3 := frozen_of hCb 1
    clear hCb bb ho2
    go_wp2_with fail
    rw [put_w_no HOK.out HX.out, put_c HOK.out, put_b_no HX.out]
    refine shutDiskB (w0 := w3) Try.results21 ?_ ?_ ?_ HCB.out HDB.out ?_ ?_ HSB.out HBW.out (by rw [HQ.out]; exact Nat.le_succ _) <;> first | rfl | exact HCL.out.symm | exact HLN.out.symm | (rw [List.length_append, HLN.out]; rfl)

end Go.Proofs.Ytckjbgpdbehmaaa

namespace Go.Proofs.Ytckjbgpdbehmaaa
open Go.RowKit
open Go.Lib hiding intOf

theorem put_c_no {cs : List ByteArray} {ws : List (Int × ByteArray)} (h : ¬ DiskP cs ws) : putC cs ws = [] := by unfold putC; rw [diskB_no h, if_neg (by decide)]
theorem put_b_not {cs : List ByteArray} {ws : List (Int × ByteArray)} (x : Int) (h : ¬ DiskP cs ws) : putB cs ws x = false := by unfold putB; rw [diskB_no h]; rfl
theorem put_w_not {cs : List ByteArray} {ws : List (Int × ByteArray)} (x : Int) (t : ByteArray) (h : ¬ DiskP cs ws) : putW cs ws x t = [] := by unfold putW; rw [put_b_not x h, if_neg (by decide), diskB_no h, if_neg (by decide)]
theorem implDiskPut_any (v1 v2 : Value) (n1 : Nat) (cs : List ByteArray) (n2 : Nat) (ws : List (Int × ByteArray)) (B : Nat) (w : World) (h : DiskO w B v1 n1 cs v2 n2 ws) (_hn1 : n1 ≤ 2000000) (hn2 : n2 ≤ 2000000) (hz1 : ∀ i, i < n1 → (textAt cs i).size ≤ 1048576) (hz2 : ∀ x ∈ ws, (x.2).size ≤ 1048576) (x : Int) (t : ByteArray) (ht : t.size ≤ 1048576) :
    Calls Try.prog 21 #[.agg #[v1, v2], .int .i64 x, .string t] w fun e w' => DiskIsB (putC cs ws) (putW cs ws x t) (putB cs ws x) w e w' := by
  have hl : cs.length = n1 := by have := h.cells.1; rw [List.length_map] at this; omega
  by_cases hok : DiskP cs ws
  · obtain rfl : n1 = 20 := hl.symm.trans hok.1
    exact implDiskPut_true v1 v2 cs n2 ws B w h hn2 hok hz1 hz2 x t ht
  · obtain ⟨o1, c1, rfl⟩ := slice_of_owns h.cells
    have hno : ¬ DiskN n1 ws := fun hd => hok ⟨hl.trans hd.1, hd.2⟩
    rw [put_c_no hok, put_b_not x hok, put_w_not x t hok]
    exact implDiskPut_false o1 n1 c1 v2 n2 ws B w h.pend hn2 hno x t
end Go.Proofs.Ytckjbgpdbehmaaa
