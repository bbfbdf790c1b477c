/- What the proof of FnExactDiskGet leans on: contracts of the program's and the specification's functions, and plain facts (part 2 of 2). -/
import Derived.Test.YtckjbgpdbehmaaaFnExactDiskGetA
namespace Go.Proofs.Ytckjbgpdbehmaaa
open Go.RowKit
open Go.Lib hiding intOf

/-- Every write is to a cell. -/
def AllIn (ws : List (Int × ByteArray)) : Prop := ∀ x ∈ ws, 0 ≤ x.1 ∧ x.1 ≤ 19
theorem guardA : Try.prog.eqGuardType Try.prog.depth 64 = false := by kernel_rfl
theorem equalA (xs ys : List ByteArray) (hx : xs.length = 20) (hy : ys.length = 20) (w : World) :
    (Op.equalIn 10000 64 (.agg (cellsA xs)) (.agg (cellsA ys))).run Try.prog w = .ok ((List.range' 0 20 1).all (fun i => (textAt xs i).toList == (textAt ys i).toList)) w := by
  rw [show (10000 : Nat) = 9999 + 1 from rfl, Op.equalIn]
  simp only [Sem.run_bind, run_underlying Try.underlying64, Result.andThen_ok, Try.sizeOf9, Std.Legacy.Range.forIn_eq_forIn_range', Std.Legacy.Range.size, Nat.sub_zero, Nat.add_sub_cancel, Nat.div_one]
  have hl : ∀ i ∈ List.range' 0 20 1, i < 20 := fun i hi => by simpa using (List.mem_range'_1.1 hi).2
  generalize List.range' 0 20 1 = l at hl ⊢
  induction l with
  | nil => simp
  | cons i l ih =>
    have hi : i < 20 := hl i (by simp)
    have px : ∀ zs : List ByteArray, zs.length = 20 → (part 9 (cellsA zs) (i * 1)).run Try.prog w = .ok (.string (textAt zs i)) w := fun zs hz => by
      simp [part, Try.isAgg9, cellsA_at zs i (by omega)]
    have pe : (Op.equalIn 9999 9 (.string (textAt xs i)) (.string (textAt ys i))).run Try.prog w = .ok ((textAt xs i).toList == (textAt ys i).toList) w := run_equalIn_string w 9998 9 _ _ Try.underlying9
    simp only [List.forIn_cons, Sem.run_bind, px xs hx, px ys hy, pe, Result.andThen_ok, List.all_cons]
    cases hb : ((textAt xs i).toList == (textAt ys i).toList)
    · simp
    · simp only [Bool.not_true, Bool.false_eq_true, if_false, Sem.run_pure, Result.andThen_ok, Bool.true_and]
      exact ih fun j hj => hl j (by simp [hj])
theorem neqA (xs ys : List ByteArray) (hx : xs.length = 20) (hy : ys.length = 20) (w : World) :
    (binOp .neq 64 (.agg (cellsA xs)) (.agg (cellsA ys))).run Try.prog w = .ok (.bool (!((List.range' 0 20 1).all (fun i => (textAt xs i).toList == (textAt ys i).toList)))) w := by
  rw [run_neq_struct, equalA xs ys hx hy]
  rfl
theorem neq_in (x : Int) (h : 0 ≤ x ∧ x ≤ 19) (w : World) : (binOp .neq 64 (.agg (cellsA (withP noneA x ⟨#[120]⟩))) (.agg #[.string ⟨#[]⟩, .string ⟨#[]⟩, .string ⟨#[]⟩, .string ⟨#[]⟩, .string ⟨#[]⟩, .string ⟨#[]⟩, .string ⟨#[]⟩, .string ⟨#[]⟩, .string ⟨#[]⟩, .string ⟨#[]⟩, .string ⟨#[]⟩, .string ⟨#[]⟩, .string ⟨#[]⟩, .string ⟨#[]⟩, .string ⟨#[]⟩, .string ⟨#[]⟩, .string ⟨#[]⟩, .string ⟨#[]⟩, .string ⟨#[]⟩, .string ⟨#[]⟩])).run Try.prog w = .ok (.bool true) w := by
  have h1 := neqA (withP noneA x ⟨#[120]⟩) noneA (withP_len _ _ _) rfl w
  rw [noneA_cells] at h1
  rw [h1]
  have h2 : textAt (withP noneA x ⟨#[120]⟩) x.toNat = ⟨#[120]⟩ := by
    unfold withP
    rw [if_pos ⟨h.1, by omega⟩, textAt_set, if_pos ⟨rfl, by rw [noneA_len]; omega⟩]
  have h3 : textAt noneA x.toNat = ⟨#[]⟩ := by
    unfold textAt noneA
    rw [List.getD_eq_getElem?_getD, List.getElem?_replicate, if_pos (by omega)]
    rfl
  have h4 : ((List.range' 0 20 1).all (fun i => (textAt (withP noneA x ⟨#[120]⟩) i).toList == (textAt noneA i).toList)) = false := by
    rw [List.all_eq_false]
    refine ⟨x.toNat, List.mem_range'_1.2 ⟨by omega, by omega⟩, ?_⟩
    rw [h2, h3, ← beq_toListBytes]
    decide
  rw [h4]
  rfl
theorem neq_out (x : Int) (h : ¬ (0 ≤ x ∧ x ≤ 19)) (w : World) : (binOp .neq 64 (.agg (cellsA (withP noneA x ⟨#[120]⟩))) (.agg #[.string ⟨#[]⟩, .string ⟨#[]⟩, .string ⟨#[]⟩, .string ⟨#[]⟩, .string ⟨#[]⟩, .string ⟨#[]⟩, .string ⟨#[]⟩, .string ⟨#[]⟩, .string ⟨#[]⟩, .string ⟨#[]⟩, .string ⟨#[]⟩, .string ⟨#[]⟩, .string ⟨#[]⟩, .string ⟨#[]⟩, .string ⟨#[]⟩, .string ⟨#[]⟩, .string ⟨#[]⟩, .string ⟨#[]⟩, .string ⟨#[]⟩, .string ⟨#[]⟩])).run Try.prog w = .ok (.bool false) w := by
  have e : withP noneA x ⟨#[120]⟩ = noneA := by unfold withP; rw [if_neg (fun h2 => h ⟨h2.1, by omega⟩)]
  have h1 := neqA noneA noneA rfl rfl w
  rw [e]
  rw [noneA_cells] at h1 ⊢
  rw [h1]
  have h4 : ((List.range' 0 20 1).all (fun i => (textAt noneA i).toList == (textAt noneA i).toList)) = true := by
    rw [List.all_eq_true]
    exact fun i _ => by simp
  rw [h4]
  rfl

set_option maxHeartbeats 4000000 in
theorem isCell_any (x : Int) (w : World) :
    Calls Try.prog 47 #[.int .i64 x] w fun e w' => BoolIs (0 ≤ x ∧ x ≤ 19) w e w' := by
  have hgb := guardA
  by_cases h : 0 ≤ x ∧ x ≤ 19
  · have hqe := neq_in x h
    have HH : Hid (0 ≤ x ∧ x ≤ 19) := h
    clear h
    go_enter Try.func47, Try.ntmps47
    go_wp2_with fail
    refine (with_any noneA rfl x ⟨#[120]⟩ _).mono ?_
    rintro e w1 ⟨rfl, bw⟩
    have HBW : Hid (Below w.heap.size w w1) := bw
    clear bw
    go_wp2_with fail
    go_ret
    exact ⟨true, rfl, ⟨fun _ => HH.out, fun _ => rfl⟩, HBW.out⟩
  · have hqe := neq_out x h
    have HH : Hid (¬ (0 ≤ x ∧ x ≤ 19)) := h
    clear h
    go_enter Try.func47, Try.ntmps47
    go_wp2_with fail
    refine (with_any noneA rfl x ⟨#[120]⟩ _).mono ?_
    rintro e w1 ⟨rfl, bw⟩
    have HBW : Hid (Below w.heap.size w w1) := bw
    clear bw
    go_wp2_with fail
    go_ret
    exact BoolIs.no HH.out HBW.out

set_option maxHeartbeats 4000000 in
theorem allToCells_any (o : Option Addr) (n c : Nat) (ws : List (Int × ByteArray)) (w : World) (h : WriteA w o n ws) (hn : n ≤ 2000000) :
    Calls Try.prog 44 #[.slice o n c] w fun e w' => BoolIs (AllIn ws) w e w' := by
  have HW : Hid (WriteA w o n ws) := h
  clear h
  go_enter Try.func44, Try.ntmps44
  go_wp2_with fail
  go_loopw [7] (fun i wr => ∃ j : Nat, j ≤ n ∧ i = .int .i64 (j : Int) ∧ Hid (Below w.heap.size w wr) ∧ Hid (∀ x ∈ ws.take j, 0 ≤ x.1 ∧ x.1 ≤ 19)) (fun i _ => n - (intOf i).toNat)
  case atStart => exact ⟨0, Nat.zero_le _, rfl, Below.refl _ _, fun x hx => by simp at hx⟩
  case round =>
    obtain ⟨j, hj, rfl, HB, HN⟩ := hrel
    by_cases hlt : (j : Int) < (n : Int)
    · have hjx : j < ws.length := by rw [HW.out.1]; omega
      obtain ⟨g, rfl, hg, r0, r1⟩ := (HW.out.below HB.out).2 j (by omega)
      obtain ⟨y, hy⟩ : ∃ y, y = writeAt ws j := ⟨_, rfl⟩
      have HM : Hid (y ∈ ws) := by show _ ∈ _; rw [hy]; exact writeAt_mem ws j hjx
      have HTK : Hid (ws.take (j + 1) = ws.take j ++ [y]) := by show _ = _; rw [hy]; exact take_writeAt ws j hjx
      rw [← hy] at r0 r1
      obtain ⟨y0, y1⟩ := y
      simp only at r0 r1
      clear hy hjx
      go_wp2_with fail
      refine (isCell_any y0 _).mono ?_
      rintro e w4 ⟨b, rfl, hb, bw⟩
      have HBW : Hid (Below w.heap.size w w4) := (HB.out.alloc HB.out.size _).trans (bw.mono (Nat.le_trans HB.out.size (by simp)))
      clear bw r0 r1
      cases b with
      | true =>
        have HY : Hid (0 ≤ y0 ∧ y0 ≤ 19) := hb.1 rfl
        clear hb
        go_wp2_with fail
        go_roundw
        case rel =>
          refine ⟨j + 1, by omega, by go_num, HBW, fun x hx => ?_⟩
          rw [HTK.out] at hx
          rcases List.mem_append.1 hx with hx | hx
          · exact HN.out x hx
          · rw [List.mem_singleton.1 hx]; exact HY.out
        case measure => simp [intOf]; omega
      | false =>
        have HY : Hid (¬ (0 ≤ y0 ∧ y0 ≤ 19)) := fun h => nomatch hb.2 h
        clear hb
        go_wp2_with fail
        go_ret
        exact BoolIs.no (fun h => HY.out (h _ HM.out)) HBW.out
    · have HAL : Hid (AllIn ws) := fun x hx => HN.out x (by rw [List.take_of_length_le (by rw [HW.out.1]; omega)]; exact hx)
      clear HN
      go_wp2_with fail
      go_ret
      exact ⟨true, rfl, ⟨fun _ => HAL.out, fun _ => rfl⟩, HB.out⟩

end Go.Proofs.Ytckjbgpdbehmaaa

namespace Go.Proofs.Ytckjbgpdbehmaaa
open Go.RowKit
open Go.Lib hiding intOf

/-- A disk is stored into the result's block. -/
theorem stored {w w0 w1 : World} {q : Nat} {x0 x1 v1 v2 : Value} {n1 n2 : Nat} {cs : List ByteArray} {ws : List (Int × ByteArray)} (hC : w1.heap[q]? = some (.cells #[x0, x1] 27)) (hD : DiskO w1 w0.heap.size v1 n1 cs v2 n2 ws) (hs : w.heap.size ≤ w0.heap.size) (hb : Below w.heap.size w w1) (hq : w.heap.size ≤ q) :
    ((w1.setCell ⟨q, 0, none⟩ v1).setCell ⟨q, 1, none⟩ v2).heap[q]? = some (.cells #[v1, v2] 27) ∧ DiskO ((w1.setCell ⟨q, 0, none⟩ v1).setCell ⟨q, 1, none⟩ v2) w.heap.size v1 n1 cs v2 n2 ws ∧ Below w.heap.size w ((w1.setCell ⟨q, 0, none⟩ v1).setCell ⟨q, 1, none⟩ v2) := by
  refine ⟨heap_setCell_same _ _ _ _ _ _ (heap_setCell_same _ _ _ _ _ _ hC), ⟨?_, ?_⟩, (hb.setCell hq _).setCell hq _⟩
  · exact owns_same (owns_wide hD.cells hs) (fun g hg => by
      have hne : g ≠ q := own_ne hD.cells hC (by decide) g hg
      rw [heap_setCell_other _ _ g _ hne, heap_setCell_other _ _ g _ hne])
  · exact owns_same (owns_wide hD.pend hs) (fun g hg => by
      have hne : g ≠ q := own_ne hD.pend hC (by decide) g hg
      rw [heap_setCell_other _ _ g _ hne, heap_setCell_other _ _ g _ hne])
set_option maxHeartbeats 4000000 in
theorem implDiskOk_len (o1 : Option Addr) (n1 c1 : Nat) (v2 : Value) (n2 : Nat) (ws : List (Int × ByteArray)) (B : Nat) (w : World) (h : w.ownsRow B 67 2 v2 n2 (flatWrite ws)) (hn2 : n2 ≤ 2000000) :
    Calls Try.prog 16 #[.agg #[.slice o1 n1 c1, v2]] w fun e w' => BoolIs (DiskN n1 ws) w e w' := by
  obtain ⟨o2, c2, rfl⟩ := slice_of_owns h
  have HV : Hid (WriteA w o2 n2 ws) := write_view h
  have HLN : Hid (ws.length = n2) := write_len h
  clear h
  by_cases h1 : n1 = 20
  · subst h1
    by_cases h2 : n2 ≤ 16
    · have h3 : (n2 : Int) ≤ 16 := by omega
      go_enter Try.func16, Try.ntmps16
      go_wp2_with fail
      refine (allToCells_any o2 n2 c2 ws _ (HV.out.below ((Below.refl _ _).alloc (Nat.le_refl _) _)) hn2).mono ?_
      rintro e w1 ⟨b, rfl, hb, bw⟩
      have HB : Hid (b = true ↔ AllIn ws) := hb
      have HBW : Hid (Below w.heap.size w w1) := ((Below.refl _ _).alloc (Nat.le_refl _) _).trans (bw.mono (by simp))
      have HN : Hid (n2 ≤ 16) := h2
      clear hb bw
      go_wp2_with fail
      go_ret
      exact ⟨b, rfl, ⟨fun e => ⟨rfl, by rw [HLN.out]; exact HN.out, HB.out.1 e⟩, fun h => HB.out.2 h.2.2⟩, HBW.out⟩
    · have h3 : ¬ (n2 : Int) ≤ 16 := by omega
      have HNO : Hid (¬ ws.length ≤ 16) := by rw [HLN.out]; exact h2
      go_enter Try.func16, Try.ntmps16
      go_wp2_with fail
      go_ret
      exact BoolIs.no (fun h => HNO.out h.2.1) ((Below.refl _ _).alloc (Nat.le_refl _) _)
  · have h3 : ¬ (n1 : Int) = 20 := by omega
    have HNO : Hid (¬ n1 = 20) := h1
    go_enter Try.func16, Try.ntmps16
    go_wp2_with fail
    go_ret
    exact BoolIs.no (fun h => HNO.out h.1) ((Below.refl _ _).alloc (Nat.le_refl _) _)

theorem implDiskOk_any (v1 v2 : Value) (n1 : Nat) (cs : List ByteArray) (n2 : Nat) (ws : List (Int × ByteArray)) (B : Nat) (w : World) (h : DiskO w B v1 n1 cs v2 n2 ws) (_hn1 : n1 ≤ 2000000) (hn2 : n2 ≤ 2000000) :
    Calls Try.prog 16 #[.agg #[v1, v2]] w fun e w' => BoolIs (DiskP cs ws) w e w' := by
  obtain ⟨oCx, pCx, rfl⟩ := slice_of_owns h.cells
  have hl : cs.length = n1 := by have := h.cells.1; rw [List.length_map] at this; omega
  have h1 := implDiskOk_len oCx n1 pCx v2 n2 ws B w h.pend hn2
  rw [← hl] at h1
  rw [← hl]
  exact h1

theorem lieAll {W : World} {B g n c : Nat} {cs : List ByteArray} (h : W.ownsRow B 9 1 (.slice (some ⟨g, 0, none⟩) n c) n (cs.map Value.string)) : W.rangeAt g 0 (cs.map Value.string) := fun j v hv => by
  obtain ⟨oa, cap, e, hl, hc⟩ := texts_own h
  cases e
  have hj : j < cs.length := by
    have := (List.getElem?_eq_some_iff.1 hv).1
    simpa using this
  obtain ⟨g', e, _, r⟩ := hc j (by omega)
  cases e
  rw [List.getElem?_map, getElem_textAt cs j hj] at hv
  rw [Nat.zero_add, r]
  exact hv
theorem land_size {cs : List ByteArray} {ws : List (Int × ByteArray)} {n M : Nat} (h1 : ∀ i, i < n → (textAt cs i).size ≤ M) (h2 : ∀ x ∈ ws, (x.2).size ≤ M) (f : Nat → Bool) : ∀ k, k ≤ ws.length → ∀ i, i < n → (textAt (landTo cs ws f k) i).size ≤ M
  | 0, _, i, hi => h1 i hi
  | k + 1, hk, i, hi => by
    rw [landTo]
    split
    · rw [textAt_set]
      split
      · exact h2 _ (writeAt_mem ws k (by omega))
      · exact land_size h1 h2 f k (by omega) i hi
    · exact land_size h1 h2 f k (by omega) i hi
set_option maxHeartbeats 4000000 in
theorem implDiskGet_false (o1 : Option Addr) (n1 c1 : Nat) (v2 : Value) (n2 : Nat) (ws : List (Int × ByteArray)) (B : Nat) (w : World) (h : w.ownsRow B 67 2 v2 n2 (flatWrite ws)) (hn2 : n2 ≤ 2000000) (hno : ¬ DiskN n1 ws) (x : Int) :
    Calls Try.prog 19 #[.agg #[.slice o1 n1 c1, v2], .int .i64 x] w fun e w' => TextIs ⟨#[]⟩ w e w' := by
  obtain ⟨o2, c2, rfl⟩ := slice_of_owns h
  have HP : Hid (∀ W, Below w.heap.size w W → W.ownsRow B 67 2 (.slice o2 n2 c2) n2 (flatWrite ws)) := fun W hb => owns_below h hb (fun g hg => owns_lt h hg)
  have HNO : Hid (¬ DiskN n1 ws) := hno
  clear h hno
  go_enter Try.func19, Try.ntmps19
  go_wp2_with fail
  refine (implDiskOk_len o1 n1 c1 _ n2 ws B _ (HP.out _ ((Below.refl _ _).alloc (Nat.le_refl _) _)) hn2).mono ?_
  rintro e w3 ⟨b, rfl, hb, bw⟩
  obtain rfl : b = false := by
    cases b with
    | true => exact absurd (hb.1 rfl) HNO.out
    | false => rfl
  have HB : Hid (Below w.heap.size w w3) := ((Below.refl _ _).alloc (Nat.le_refl _) _).trans (bw.mono (by simp))
  clear bw hb
  go_wp2_with fail
  go_ret
  exact ⟨rfl, HB.out⟩
theorem land_getTo {cs : List ByteArray} {ws : List (Int × ByteArray)} (h : DiskP cs ws) (x : Int) (hx : 0 ≤ x ∧ x ≤ 19) : textAt (landTo cs ws (fun _ => true) ws.length) x.toNat = getD' cs ws x := by
  obtain ⟨m, rfl⟩ : ∃ m : Nat, x = (m : Int) := ⟨x.toNat, by omega⟩
  rw [get_yes h m (by omega)]
  exact land_get h m (by omega) _ (Nat.le_refl _)
set_option maxHeartbeats 8000000 in
set_option maxRecDepth 100000 in
theorem implDiskGet_true (v1 v2 : Value) (cs : List ByteArray) (n2 : Nat) (ws : List (Int × ByteArray)) (B : Nat) (w : World) (h : DiskO w B v1 20 cs v2 n2 ws) (hn2 : n2 ≤ 2000000) (hok : DiskP cs ws) (hz1 : ∀ i, i < 20 → (textAt cs i).size ≤ 1048576) (hz2 : ∀ x ∈ ws, (x.2).size ≤ 1048576) (x : Int) :
    Calls Try.prog 19 #[.agg #[v1, v2], .int .i64 x] w fun e w' => TextIs (getD' cs ws x) w e w' := by
  obtain ⟨o1, c1, rfl⟩ := slice_of_owns h.cells
  obtain ⟨o2, c2, rfl⟩ := slice_of_owns h.pend
  obtain ⟨g, rfl⟩ := owns_some h.cells (by omega)
  have HD : Hid (∀ W, Below w.heap.size w W → DiskO W B (.slice (some ⟨g, 0, none⟩) 20 c1) 20 cs (.slice o2 n2 c2) n2 ws) := fun W hb => ⟨owns_below h.cells hb (fun g hg => owns_lt h.cells hg), owns_below h.pend hb (fun g hg => owns_lt h.pend hg)⟩
  have HOK : Hid (DiskP cs ws) := hok
  have HZ1 : Hid (∀ i, i < 20 → (textAt cs i).size ≤ 1048576) := hz1
  have HZ2 : Hid (∀ x ∈ ws, (x.2).size ≤ 1048576) := hz2
  have HLN : Hid (ws.length = n2) := write_len h.pend
  have HCL : Hid (cs.length = 20) := hok.1
  have hua := Try.underlying64
  have hia : (Try.prog.info? 64).map (·.size) = some (cs.map Value.string).length := by rw [List.length_map, HCL.out]; kernel_rfl
  have HUA : Hid ((Try.prog.info? 64).map (·.size) = some (cs.map Value.string).length) := hia
  clear h hok hz1 hz2
  go_enter Try.func19, Try.ntmps19
  go_wp2_with fail
  refine (implDiskOk_any _ _ 20 _ n2 ws B _ (HD.out _ ((Below.refl _ _).alloc (Nat.le_refl _) _)) (by omega) hn2).mono ?_
  rintro e w3 ⟨b, rfl, hb, bw⟩
  obtain rfl : b = true := hb.2 HOK.out
  have hB3 : Below w.heap.size w w3 := ((Below.refl _ _).alloc (Nat.le_refl _) _).trans (bw.mono (by simp))
  have hS3 := blk_below (heap_alloc_new w _) bw
  have HS3 : Hid (w3.heap[w.heap.size]? = some (.cells #[.slice (some ⟨g, 0, none⟩) 20 c1, .slice o2 n2 c2] 27)) := hS3
  have HD3 : Hid (∀ W, Below w3.heap.size w3 W → DiskO W B (.slice (some ⟨g, 0, none⟩) 20 c1) 20 cs (.slice o2 n2 c2) n2 ws) := fun W hb => HD.out W (hB3.trans (hb.mono hB3.size))
  have HB3 : Hid (Below w.heap.size w w3) := hB3

  obtain ⟨q, hq⟩ : ∃ q, q = w.heap.size := ⟨_, rfl⟩
  have HQ : Hid (w.heap.size = q) := hq.symm
  rw [← hq] at HS3
  rw [← hq]
  have HK : Hid (∀ W, Below w3.heap.size w3 W → W.cell? ⟨q, 0, none⟩ = some (.slice (some ⟨g, 0, none⟩) 20 c1) ∧ W.cell? ⟨q, 1, none⟩ = some (.slice o2 n2 c2) ∧ W.rangeAt g 0 (cs.map Value.string)) := fun W hW =>
    ⟨(cell_of (blk_below HS3.out hW) 0).trans rfl, (cell_of (blk_below HS3.out hW) 1).trans rfl, lieAll (HD3.out W hW).cells⟩
  clear hb hB3 hS3 bw hq HD
  have hat : ∀ W : World, (Instr.arrayAt 64 (.slice (some ⟨g, 0, none⟩) 20 c1)).run Try.prog W = .ok (.pointer (some ⟨g, 0, none⟩)) W := fun W => by simp [Instr.arrayAt]
  obtain ⟨d0, d1, d2⟩ := HK.out _ (Below.refl _ _)
  go_wp2_with fail
  refine (isCell_any x _).mono ?_
  rintro e w4 ⟨b, rfl, hb, bw⟩
  have HB34 : Hid (Below w3.heap.size w3 w4) := bw
  have HB4 : Hid (Below w.heap.size w w4) := HB3.out.trans (bw.mono HB3.out.size)
  cases b with
  | false =>
    have HX : Hid (¬ (0 ≤ x ∧ x ≤ 19)) := fun h => nomatch hb.2 h
    clear hb bw d0 d1 d2
    go_wp2_with fail
    go_ret
    exact ⟨by rw [get_no (fun h => HX.out h.2)]; rfl, HB4.out⟩
  | true =>
    have HX : Hid (0 ≤ x ∧ x ≤ 19) := hb.1 rfl
    clear hb bw d0 d1 d2
    obtain ⟨d0, d1, d2⟩ := HK.out _ HB34.out
    have HLZ : Hid (∀ i, i < 20 → (textAt (landTo cs ws (fun _ => true) ws.length) i).size ≤ 1048576) := land_size HZ1.out HZ2.out _ _ (Nat.le_refl _)
    have HLL : Hid ((landTo cs ws (fun _ => true) ws.length).length = 20) := (landTo_len _ _ _ _).trans HCL.out
    have HE : Hid (textAt (landTo cs ws (fun _ => true) ws.length) x.toNat = getD' cs ws x) := land_getTo HOK.out x HX.out
    have HZ : Hid ((getD' cs ws x).size ≤ 281474976710656) := by
      rw [Hid, ← HE.out]
      have h1 := HX.out
      have := HLZ.out x.toNat (by omega)
      omega
    have hix : ∀ W : World, (Instr.index 64 (.agg (cellsA (landTo cs ws (fun _ => true) ws.length))) (.int .i64 x)).run Try.prog W = .ok (.string (getD' cs ws x)) W := fun W => by
      have h1 := HX.out
      have h2 := cellsA_at (landTo cs ws (fun _ => true) ws.length) x.toNat (by rw [HLL.out]; omega)
      rw [HE.out] at h2
      simp [Instr.index, asIntOf, part, h2, h1.1, show x < 20 by omega]
    go_upto_region 3 with fail
    go_region_held3 (fun W => W.cell? ⟨q, 0, none⟩ = some (.slice (some ⟨g, 0, none⟩) 20 c1) ∧ W.cell? ⟨q, 1, none⟩ = some (.slice o2 n2 c2) ∧ W.rangeAt g 0 (cs.map Value.string)) (first | assumption | go_keep) (first | (go_at_call 46; refine (withAll_any cs HCL.out o2 n2 c2 ws _ (write_view (HD3.out _ HB34.out.drew).pend) hn2 HOK.out.2.2).mono ?_; rintro e u1 ⟨rfl, hb1⟩; have hb2 := HB34.out.drew.trans (hb1.mono HB34.out.size); obtain ⟨a0, a1, a2⟩ := HK.out u1 hb2) | (go_at_call 48; refine (clone_any (getD' cs ws x) _ HZ.out).mono ?_; rintro e u2 ⟨rfl, hb3⟩; have hb4 := hb2.trans (hb3.mono hb2.size); obtain ⟨b0, b1, b2⟩ := HK.out u2 hb4))
    have HB5 : Hid (Below w.heap.size w u2) := HB3.out.trans (hb4.mono HB3.out.size)
    clear hb4 hb3 b0 b1 b2 hb1 hb2 a0 a1 a2 d0 d1 d2
    go_wp2_with fail
    go_ret
    exact ⟨rfl, HB5.out⟩
end Go.Proofs.Ytckjbgpdbehmaaa

namespace Go.Proofs.Ytckjbgpdbehmaaa
open Go.RowKit
open Go.Lib hiding intOf

theorem implDiskGet_any (v1 v2 : Value) (n1 : Nat) (cs : List ByteArray) (n2 : Nat) (ws : List (Int × ByteArray)) (B : Nat) (w : World) (h : DiskO w B v1 n1 cs v2 n2 ws) (_hn1 : n1 ≤ 2000000) (hn2 : n2 ≤ 2000000) (hz1 : ∀ i, i < n1 → (textAt cs i).size ≤ 1048576) (hz2 : ∀ x ∈ ws, (x.2).size ≤ 1048576) (x : Int) :
    Calls Try.prog 19 #[.agg #[v1, v2], .int .i64 x] w fun e w' => TextIs (getD' cs ws x) w e w' := by
  have hl : cs.length = n1 := by have := h.cells.1; rw [List.length_map] at this; omega
  by_cases hok : DiskP cs ws
  · obtain rfl : n1 = 20 := hl.symm.trans hok.1
    exact implDiskGet_true v1 v2 cs n2 ws B w h hn2 hok hz1 hz2 x
  · obtain ⟨o1, c1, rfl⟩ := slice_of_owns h.cells
    have hno : ¬ DiskN n1 ws := fun hd => hok ⟨hl.trans hd.1, hd.2⟩
    rw [get_no (fun h => hok h.1)]
    exact implDiskGet_false o1 n1 c1 v2 n2 ws B w h.pend hn2 hno x
end Go.Proofs.Ytckjbgpdbehmaaa
