/- What the proof of FnExactCacheOk leans on: contracts of the program's and the specification's functions, and plain facts (part 9 of 9). -/
import Derived.Test.YtanpngnpolhgbaaGreatFnExactCacheOkH
set_option maxHeartbeats 16000000
set_option maxRecDepth 100000
namespace Go.Proofs.YtanpngnpolhgbaaGreat
open Go.RowKit
open Go.Lib hiding intOf
/-- Texts as an array's cells. -/
def cellsA (l : List ByteArray) : Array Value := (l.map Value.string).toArray
/-- Twenty empty texts. -/
def noneA : List ByteArray := List.replicate 20 ⟨#[]⟩
/-- The cells with one written. -/
def withP (l : List ByteArray) (x : Int) (t : ByteArray) : List ByteArray := if 0 ≤ x ∧ x < 20 then l.set x.toNat t else l
/-- A call answers an array of texts. -/
def ArrIs (l : List ByteArray) (w : World) (e : Ending) (w' : World) : Prop := e = .returned (.agg (cellsA l)) ∧ Below w.heap.size w w'
theorem cellsA_size (l : List ByteArray) : (cellsA l).size = l.length := by simp [cellsA]
theorem cellsA_at (l : List ByteArray) (i : Nat) (h : i < l.length) : (cellsA l)[i]? = some (.string (textAt l i)) := by
 unfold cellsA
 rw [List.getElem?_toArray, List.getElem?_map, getElem_textAt l i h]
 rfl
theorem cellsA_set (l : List ByteArray) (i : Nat) (t : ByteArray) : (cellsA l).setIfInBounds i (.string t) = cellsA (l.set i t) := by
 unfold cellsA
 rw [List.setIfInBounds_toArray, List.map_set]
theorem noneA_len : noneA.length = 20 := rfl
theorem noneA_cells : cellsA noneA = #[.string ⟨#[]⟩, .string ⟨#[]⟩, .string ⟨#[]⟩, .string ⟨#[]⟩, .string ⟨#[]⟩, .string ⟨#[]⟩, .string ⟨#[]⟩, .string ⟨#[]⟩, .string ⟨#[]⟩, .string ⟨#[]⟩, .string ⟨#[]⟩, .string ⟨#[]⟩, .string ⟨#[]⟩, .string ⟨#[]⟩, .string ⟨#[]⟩, .string ⟨#[]⟩, .string ⟨#[]⟩, .string ⟨#[]⟩, .string ⟨#[]⟩, .string ⟨#[]⟩] := rfl
theorem withP_len (l : List ByteArray) (x : Int) (t : ByteArray) : (withP l x t).length = l.length := by
 unfold withP
 split
 · exact List.length_set
 · rfl
theorem infoA {l : List ByteArray} (h : l.length = 20) : (Tryz.prog.info? 186).map (·.size) = some (cellsA l).size := by
 rw [cellsA_size, h]
 kernel_rfl
theorem cellsA_one (l : List ByteArray) : (cellsA l).all (·.oneCell') = true := by
 unfold cellsA
 rw [List.all_toArray, List.all_eq_true]
 intro v hv
 obtain ⟨a, _, rfl⟩ := List.mem_map.1 hv
 rfl
theorem below_setRow {B : Nat} {a w : World} (h : Below B a w) (g : Nat) (cs : Array Value) (hg : B ≤ g) : Below B a (w.setRow g cs) :=
 h.trans ⟨rfl, rfl, rfl, by simp, fun k hk => setRow_other w g k cs (by omega)⟩
theorem new1 {w : World} {A B C : Obj} : (((w.alloc A).alloc B).alloc C).heap[w.heap.size]? = some A := blk_alloc (blk_alloc (heap_alloc_new w A) B) C
theorem new2 {w : World} {A B C : Obj} : (((w.alloc A).alloc B).alloc C).heap[w.heap.size + 1]? = some B := blk_alloc (heap_alloc2_new w A B) C
theorem new3 {w : World} {A B C : Obj} : (((w.alloc A).alloc B).alloc C).heap[w.heap.size + 1 + 1]? = some C := by
 have h := heap_alloc_new ((w.alloc A).alloc B) C
 have e : ((w.alloc A).alloc B).heap.size = w.heap.size + 1 + 1 := by simp
 rwa [e] at h
theorem new_below {w : World} {A B C : Obj} : Below w.heap.size w (((w.alloc A).alloc B).alloc C) :=
 (((Below.refl _ _).alloc (Nat.le_refl _) _).alloc (by simp) _).alloc (by simp; omega) _
theorem with_any (l : List ByteArray) (hl : l.length = 20) (x : Int) (t : ByteArray) (w : World) :
  Calls Tryz.prog 110 #[.agg (cellsA l), .agg #[.int .i64 x, .string t]] w fun e w' => ArrIs (withP l x t) w e w' := by
 have HL : Hid (l.length = 20) := hl
 have HLW : Hid ((withP l x t).length = 20) := (withP_len l x t).trans hl
 clear hl
 go_enter Tryz.func110, Tryz.ntmps110
 go_upto_region 1 with fail
 obtain ⟨w3, hw3⟩ := exq (((w.alloc (.cells (cellsA l) 186)).alloc (.cells #[.int .i64 x, .string t] 148)).alloc (.cells #[.string ⟨#[]⟩, .string ⟨#[]⟩, .string ⟨#[]⟩, .string ⟨#[]⟩, .string ⟨#[]⟩, .string ⟨#[]⟩, .string ⟨#[]⟩, .string ⟨#[]⟩, .string ⟨#[]⟩, .string ⟨#[]⟩, .string ⟨#[]⟩, .string ⟨#[]⟩, .string ⟨#[]⟩, .string ⟨#[]⟩, .string ⟨#[]⟩, .string ⟨#[]⟩, .string ⟨#[]⟩, .string ⟨#[]⟩, .string ⟨#[]⟩, .string ⟨#[]⟩] 186))
 rw [← hw3]
 have HBW : Hid (Below w.heap.size w w3) := by rw [hw3]; exact new_below
 have hA : w3.heap[w.heap.size]? = some (.cells (cellsA l) 186) := by rw [hw3]; exact new1
 have hB : w3.heap[w.heap.size + 1]? = some (.cells #[.int .i64 x, .string t] 148) := by rw [hw3]; exact new2
 have hC : w3.heap[w.heap.size + 1 + 1]? = some (.cells (cellsA noneA) 186) := by rw [hw3]; exact new3
 obtain ⟨q, hq⟩ := exq (w.heap.size)
 have HQ : Hid (w.heap.size ≤ q) := by rw [hq]; exact Nat.le_refl _
 rw [← hq] at hA hB hC
 rw [← hq]
 have HA : Hid (w3.heap[q]? = some (.cells (cellsA l) 186)) := hA
 have HC : Hid (w3.heap[q + 1 + 1]? = some (.cells (cellsA noneA) 186)) := hC
 have c0 := (cell_of hB 0)
 have c1 := (cell_of hB 1)
 simp only [List.getElem?_toArray, List.getElem?_cons_zero, List.getElem?_cons_succ] at c0 c1
 clear hw3 hA hB hC hq
 by_cases h0 : 0 ≤ x
 ·
  by_cases h1 : x < 20
  ·
   have HE : Hid (withP l x t = l.set x.toNat t) := by unfold withP; rw [Hid, if_pos ⟨h0, h1⟩]
   have c2 : w3.cell? ⟨q, x.toNat, none⟩ = some (.string (textAt l x.toNat)) := (cell_of HA.out _).trans (cellsA_at l _ (by rw [HL.out]; omega))
   have c3 := frozen_of HA.out x.toNat
   go_upto_region 3 with fail
   obtain ⟨w4, hw4⟩ := exq (w3.setCell ⟨q, x.toNat, none⟩ (.string t))
   rw [← hw4]
   have HA4 : Hid (w4.heap[q]? = some (.cells (cellsA (withP l x t)) 186)) := by
    rw [Hid, hw4, HE.out, ← cellsA_set]
    exact heap_setCell_same w3 q _ _ 186 _ HA.out
   have HC4 : Hid (w4.heap[q + 1 + 1]? = some (.cells (cellsA noneA) 186)) := by
    rw [Hid, hw4, heap_setCell_other w3 _ _ _ (by simp; omega)]
    exact HC.out
   have HB4 : Hid (Below w.heap.size w w4) := by rw [hw4]; exact HBW.out.setCell HQ.out _
   clear hw4 HA HC HBW c0 c1 c2 c3 h0 h1
   go_wp2_with (first | refine wpList_load_row rfl 186 _ rfl q rfl 186 _ (0, 0) _ HA4.out Tryz.underlying186 rfl (infoA HLW.out) ?_ | refine wpList_store_row rfl 186 _ _ rfl (q + 1 + 1) _ rfl rfl 186 _ HC4.out (infoA HLW.out) (by rw [cellsA_size, cellsA_size, HLW.out, noneA_len]) (cellsA_one _) ?_)
   exact bodyPost_ret (v := .agg (cellsA (withP l x t))) (results_cell_row Tryz.results110 _ _ (q + 1 + 1) 186 _ (0, 0) _ rfl (setRow_heap _ _ _ _ _ _ HC4.out) Tryz.underlying186 rfl (infoA HLW.out)) rfl ⟨rfl, below_setRow HB4.out _ _ (Nat.le_trans HQ.out (by omega))⟩
  ·
   have HE : Hid (withP l x t = l) := by unfold withP; rw [Hid, if_neg (fun h => h1 h.2)]
   go_upto_region 3 with fail
   clear c0 c1 h0 h1
   rw [← HE.out] at HA
   go_wp2_with (first | refine wpList_load_row rfl 186 _ rfl q rfl 186 _ (0, 0) _ HA.out Tryz.underlying186 rfl (infoA HLW.out) ?_ | refine wpList_store_row rfl 186 _ _ rfl (q + 1 + 1) _ rfl rfl 186 _ HC.out (infoA HLW.out) (by rw [cellsA_size, cellsA_size, HLW.out, noneA_len]) (cellsA_one _) ?_)
   exact bodyPost_ret (v := .agg (cellsA (withP l x t))) (results_cell_row Tryz.results110 _ _ (q + 1 + 1) 186 _ (0, 0) _ rfl (setRow_heap _ _ _ _ _ _ HC.out) Tryz.underlying186 rfl (infoA HLW.out)) rfl ⟨rfl, below_setRow HBW.out _ _ (Nat.le_trans HQ.out (by omega))⟩
 ·
  have HE : Hid (withP l x t = l) := by unfold withP; rw [Hid, if_neg (fun h => h0 h.1)]
  go_upto_region 3 with fail
  clear c0 c1 h0
  rw [← HE.out] at HA
  go_wp2_with (first | refine wpList_load_row rfl 186 _ rfl q rfl 186 _ (0, 0) _ HA.out Tryz.underlying186 rfl (infoA HLW.out) ?_ | refine wpList_store_row rfl 186 _ _ rfl (q + 1 + 1) _ rfl rfl 186 _ HC.out (infoA HLW.out) (by rw [cellsA_size, cellsA_size, HLW.out, noneA_len]) (cellsA_one _) ?_)
  exact bodyPost_ret (v := .agg (cellsA (withP l x t))) (results_cell_row Tryz.results110 _ _ (q + 1 + 1) 186 _ (0, 0) _ rfl (setRow_heap _ _ _ _ _ _ HC.out) Tryz.underlying186 rfl (infoA HLW.out)) rfl ⟨rfl, below_setRow HBW.out _ _ (Nat.le_trans HQ.out (by omega))⟩
end Go.Proofs.YtanpngnpolhgbaaGreat
namespace Go.Proofs.YtanpngnpolhgbaaGreat
open Go.RowKit
open Go.Lib hiding intOf
/-- Every write is to a cell. -/
def AllIn (ws : List (Int × ByteArray)) : Prop := ∀ x ∈ ws, 0 ≤ x.1 ∧ x.1 ≤ 19
theorem guardA : Tryz.prog.eqGuardType Tryz.prog.depth 186 = false := by kernel_rfl
theorem equalA (xs ys : List ByteArray) (hx : xs.length = 20) (hy : ys.length = 20) (w : World) :
  (Op.equalIn 10000 186 (.agg (cellsA xs)) (.agg (cellsA ys))).run Tryz.prog w = .ok ((List.range' 0 20 1).all (fun i => (textAt xs i).toList == (textAt ys i).toList)) w := by
 rw [show (10000 : Nat) = 9999 + 1 from rfl, Op.equalIn]
 simp only [Sem.run_bind, run_underlying Tryz.underlying186, Result.andThen_ok, Tryz.sizeOf9, Std.Legacy.Range.forIn_eq_forIn_range', Std.Legacy.Range.size, Nat.sub_zero, Nat.add_sub_cancel, Nat.div_one]
 have hl : ∀ i ∈ List.range' 0 20 1, i < 20 := fun i hi => by simpa using (List.mem_range'_1.1 hi).2
 generalize List.range' 0 20 1 = l at hl ⊢
 induction l with
 | nil => simp
 | cons i l ih =>
  have hi : i < 20 := hl i (by simp)
  have px : ∀ zs : List ByteArray, zs.length = 20 → (part 9 (cellsA zs) (i * 1)).run Tryz.prog w = .ok (.string (textAt zs i)) w := fun zs hz => by
   simp [part, Tryz.isAgg9, cellsA_at zs i (by omega)]
  have pe : (Op.equalIn 9999 9 (.string (textAt xs i)) (.string (textAt ys i))).run Tryz.prog w = .ok ((textAt xs i).toList == (textAt ys i).toList) w := run_equalIn_string w 9998 9 _ _ Tryz.underlying9
  simp only [List.forIn_cons, Sem.run_bind, px xs hx, px ys hy, pe, Result.andThen_ok, List.all_cons]
  cases hb : ((textAt xs i).toList == (textAt ys i).toList)
  · simp
  ·
   simp only [Bool.not_true, Bool.false_eq_true, if_false, Sem.run_pure, Result.andThen_ok, Bool.true_and]
   exact ih fun j hj => hl j (by simp [hj])
theorem neqA (xs ys : List ByteArray) (hx : xs.length = 20) (hy : ys.length = 20) (w : World) :
  (binOp .neq 186 (.agg (cellsA xs)) (.agg (cellsA ys))).run Tryz.prog w = .ok (.bool (!((List.range' 0 20 1).all (fun i => (textAt xs i).toList == (textAt ys i).toList)))) w := by
 rw [run_neq_struct, equalA xs ys hx hy]
 rfl
theorem neq_in (x : Int) (h : 0 ≤ x ∧ x ≤ 19) (w : World) : (binOp .neq 186 (.agg (cellsA (withP noneA x ⟨#[120]⟩))) (.agg #[.string ⟨#[]⟩, .string ⟨#[]⟩, .string ⟨#[]⟩, .string ⟨#[]⟩, .string ⟨#[]⟩, .string ⟨#[]⟩, .string ⟨#[]⟩, .string ⟨#[]⟩, .string ⟨#[]⟩, .string ⟨#[]⟩, .string ⟨#[]⟩, .string ⟨#[]⟩, .string ⟨#[]⟩, .string ⟨#[]⟩, .string ⟨#[]⟩, .string ⟨#[]⟩, .string ⟨#[]⟩, .string ⟨#[]⟩, .string ⟨#[]⟩, .string ⟨#[]⟩])).run Tryz.prog w = .ok (.bool true) w := by
 have h1 := neqA (withP noneA x ⟨#[120]⟩) noneA (withP_len _ _ _) rfl w
 rw [noneA_cells] at h1
 rw [h1]
 have h2 : textAt (withP noneA x ⟨#[120]⟩) x.toNat = ⟨#[120]⟩ := by
  unfold withP
  rw [if_pos ⟨h.1, by omega⟩, textAt_set, if_pos ⟨rfl, by rw [noneA_len]; omega⟩]
 have h3 : textAt noneA x.toNat = ⟨#[]⟩ := by
  unfold textAt noneA
  rw [List.getD_eq_getElem?_getD, List.getElem?_replicate, if_pos (by omega)]
  rfl
 have h4 : ((List.range' 0 20 1).all (fun i => (textAt (withP noneA x ⟨#[120]⟩) i).toList == (textAt noneA i).toList)) = false := by
  rw [List.all_eq_false]
  refine ⟨x.toNat, List.mem_range'_1.2 ⟨by omega, by omega⟩, ?_⟩
  rw [h2, h3, ← beq_toListBytes]
  decide
 rw [h4]
 rfl
theorem neq_out (x : Int) (h : ¬ (0 ≤ x ∧ x ≤ 19)) (w : World) : (binOp .neq 186 (.agg (cellsA (withP noneA x ⟨#[120]⟩))) (.agg #[.string ⟨#[]⟩, .string ⟨#[]⟩, .string ⟨#[]⟩, .string ⟨#[]⟩, .string ⟨#[]⟩, .string ⟨#[]⟩, .string ⟨#[]⟩, .string ⟨#[]⟩, .string ⟨#[]⟩, .string ⟨#[]⟩, .string ⟨#[]⟩, .string ⟨#[]⟩, .string ⟨#[]⟩, .string ⟨#[]⟩, .string ⟨#[]⟩, .string ⟨#[]⟩, .string ⟨#[]⟩, .string ⟨#[]⟩, .string ⟨#[]⟩, .string ⟨#[]⟩])).run Tryz.prog w = .ok (.bool false) w := by
 have e : withP noneA x ⟨#[120]⟩ = noneA := by unfold withP; rw [if_neg (fun h2 => h ⟨h2.1, by omega⟩)]
 have h1 := neqA noneA noneA rfl rfl w
 rw [e]
 rw [noneA_cells] at h1 ⊢
 rw [h1]
 have h4 : ((List.range' 0 20 1).all (fun i => (textAt noneA i).toList == (textAt noneA i).toList)) = true := by
  rw [List.all_eq_true]
  exact fun i _ => by simp
 rw [h4]
 rfl
theorem isCell_any (x : Int) (w : World) :
  Calls Tryz.prog 88 #[.int .i64 x] w fun e w' => BoolIs (0 ≤ x ∧ x ≤ 19) w e w' := by
 have hgb := guardA
 by_cases h : 0 ≤ x ∧ x ≤ 19
 ·
  have hqe := neq_in x h
  have HH : Hid (0 ≤ x ∧ x ≤ 19) := h
  clear h
  go_enter Tryz.func88, Tryz.ntmps88
  go_wp2_with fail
  refine (with_any noneA rfl x ⟨#[120]⟩ _).mono ?_
  rintro e w1 ⟨rfl, bw⟩
  have HBW : Hid (Below w.heap.size w w1) := bw
  clear bw
  go_wp2_with fail
  go_ret
  exact ⟨true, rfl, ⟨fun _ => HH.out, fun _ => rfl⟩, HBW.out⟩
 ·
  have hqe := neq_out x h
  have HH : Hid (¬ (0 ≤ x ∧ x ≤ 19)) := h
  clear h
  go_enter Tryz.func88, Tryz.ntmps88
  go_wp2_with fail
  refine (with_any noneA rfl x ⟨#[120]⟩ _).mono ?_
  rintro e w1 ⟨rfl, bw⟩
  have HBW : Hid (Below w.heap.size w w1) := bw
  clear bw
  go_wp2_with fail
  go_ret
  exact BoolIs.no HH.out HBW.out
theorem allToCells_any (o : Option Addr) (n c : Nat) (ws : List (Int × ByteArray)) (w : World) (h : WriteA w o n ws) (hn : n ≤ 2000000) :
  Calls Tryz.prog 87 #[.slice o n c] w fun e w' => BoolIs (AllIn ws) w e w' := by
 have HW : Hid (WriteA w o n ws) := h
 clear h
 go_enter Tryz.func87, Tryz.ntmps87
 go_wp2_with fail
 go_loopw [7] (fun i wr => ∃ j : Nat, j ≤ n ∧ i = .int .i64 (j : Int) ∧ Hid (Below w.heap.size w wr) ∧ Hid (∀ x ∈ ws.take j, 0 ≤ x.1 ∧ x.1 ≤ 19)) (fun i _ => n - (intOf i).toNat)
 case atStart => exact ⟨0, Nat.zero_le _, rfl, Below.refl _ _, fun x hx => by simp at hx⟩
 case round =>
  obtain ⟨j, hj, rfl, HB, HN⟩ := hrel
  by_cases hlt : (j : Int) < (n : Int)
  ·
   have hjx : j < ws.length := by rw [HW.out.1]; omega
   obtain ⟨g, rfl, hg, r0, r1⟩ := (HW.out.below HB.out).2 j (by omega)
   obtain ⟨y, hy⟩ := exq (writeAt ws j)
   have HM : Hid (y ∈ ws) := by show _ ∈ _; rw [hy]; exact writeAt_mem ws j hjx
   have HTK : Hid (ws.take (j + 1) = ws.take j ++ [y]) := by show _ = _; rw [hy]; exact take_writeAt ws j hjx
   rw [← hy] at r0 r1
   obtain ⟨y0, y1⟩ := y
   simp only at r0 r1
   clear hy hjx
   go_wp2_with fail
   refine (isCell_any y0 _).mono ?_
   rintro e w4 ⟨b, rfl, hb, bw⟩
   have HBW : Hid (Below w.heap.size w w4) := (HB.out.alloc HB.out.size _).trans (bw.mono (Nat.le_trans HB.out.size (by simp)))
   clear bw r0 r1
   cases b with
   | true =>
    have HY : Hid (0 ≤ y0 ∧ y0 ≤ 19) := hb.1 rfl
    clear hb
    go_wp2_with fail
    go_roundw
    case rel =>
     refine ⟨j + 1, by omega, by go_num, HBW, fun x hx => ?_⟩
     rw [HTK.out] at hx
     rcases List.mem_append.1 hx with hx | hx
     · exact HN.out x hx
     · rw [List.mem_singleton.1 hx]; exact HY.out
    case measure => simp [intOf]; omega
   | false =>
    have HY : Hid (¬ (0 ≤ y0 ∧ y0 ≤ 19)) := fun h => nomatch hb.2 h
    clear hb
    go_wp2_with fail
    go_ret
    exact BoolIs.no (fun h => HY.out (h _ HM.out)) HBW.out
  ·
   have HAL : Hid (AllIn ws) := fun x hx => HN.out x (by rw [List.take_of_length_le (by rw [HW.out.1]; omega)]; exact hx)
   clear HN
   go_wp2_with fail
   go_ret
   exact ⟨true, rfl, ⟨fun _ => HAL.out, fun _ => rfl⟩, HB.out⟩
end Go.Proofs.YtanpngnpolhgbaaGreat
namespace Go.Proofs.YtanpngnpolhgbaaGreat
open Go.RowKit
open Go.Lib hiding intOf
theorem isObjectCell_any (x : Int) (w : World) :
  Calls Tryz.prog 53 #[.int .i64 x] w fun e w' => BoolIs (5 ≤ x ∧ x ≤ 19) w e w' := by
 have hb0 : Below w.heap.size w w := Below.refl _ _
 go_enter Tryz.func53, Tryz.ntmps53
 by_cases hc1 : 5 ≤ x
 ·
  have H5 : Hid (5 ≤ x) := hc1
  go_wp2_with fail
  refine (isCell_any x _).mono ?_
  rintro e w1 ⟨uc, rfl, huc, bw⟩
  have hb1 := hbt hb0 bw
  clear hb0 bw
  go_wp2_with fail
  go_ret
  cases uc with
  | true => exact BoolIs.yes ⟨H5.out, (huc.1 rfl).2⟩ hb1
  | false => exact BoolIs.no (fun h => nomatch huc.2 ⟨by omega, h.2⟩) hb1
 ·
  have H5 : Hid (¬ 5 ≤ x) := hc1
  go_wp2_with fail
  go_ret
  exact BoolIs.no (fun h => by have h5 := H5.out; omega) hb0
theorem knownOf_any (V : Value) (kv : List (KpD × Value × Value × Value)) (B : Nat) (w : World) (h : KeptsO w B V kv) (hn : kv.length ≤ 1048576) (ha : ∀ x ∈ kv, 0 ≤ x.1.a ∧ x.1.a ≤ 1000) :
  Calls Tryz.prog 90 #[V] w fun e w' => KnownIs kv w e w' := by
 obtain ⟨o3, c3, e3⟩ := slice_of_owns h.row
 subst e3
 obtain ⟨n3, hn3⟩ := exq kv.length
 rw [← hn3] at h ⊢
 obtain ⟨ks, hks⟩ := exq (kv.map (·.1))
 have HKS : Hid (kv.map (·.1) = ks) := hks.symm
 have HLK : Hid (kv.length = n3) := hn3.symm
 have bn3 : n3 ≤ 1048576 := by rw [hn3]; exact hn
 have HKP : Hid (∀ W, Below w.heap.size w W → KeptsO W B (.slice o3 n3 c3) kv) := fun W hb => KeptsO.below h hb
 clear hn3 hks h hn
 have HAB : Hid (∀ x ∈ kv, 0 ≤ x.1.a ∧ x.1.a ≤ 1000) := ha
 clear ha
 have hmm : ∀ W : World, (Instr.makeMap 167 (some (.int .i64 (n3 : Int)))).run Tryz.prog W = .ok (.map (some W.heap.size)) (W.alloc (.map #[] 0)) := fun W => run_makeMap_hint Tryz.underlying167 _ W
 have hb0 : Below w.heap.size w w := Below.refl _ _
 go_enter Tryz.func90, Tryz.ntmps90
 go_upto_region 2 with fail
 obtain ⟨qm1, hqm1⟩ := exq ((w).heap.size)
 obtain ⟨w1, hW1⟩ := exq ((w).alloc (.map #[] 0))
 first | rw [← hW1, ← hqm1] | rw [← hW1]
 have bw := bal hW1
 have hb1 := hbt hb0 bw
 have HGm1 : Hid (w.heap.size ≤ qm1) := by show _ ≤ _; rw [hqm1]; exact hb0.size
 have EMm1_1 : Hid (KnownO w1 qm1 0 (.map [])) := by unfold KnownO; show World.ownsMap _ _ _ _ _ _ _; rw [hW1, hqm1]; exact World.ownsMap_made _ _ _ _
 clear bw hW1 hqm1 hb0
 go_wp2_with fail
 go_loopw [11] (fun i wr => ∃ (j : Nat) (D : DataW Value), j ≤ n3 ∧ i = .int .i64 (j : Int) ∧ Hid (KnownO wr qm1 j D ∧ MapN D (kv.take j) ∧ Below w.heap.size w (wr))) (fun i _ => n3 - (intOf i).toNat)
 case atStart => exact ⟨0, .map [], Nat.zero_le _, rfl, EMm1_1.out, by rw [List.take_zero]; exact MapN.nil, hb1⟩
 case round =>
  obtain ⟨j, D, hj, rfl, HW⟩ := hrel
  by_cases hlt : (j : Int) < (n3 : Int)
  ·
   have hb2 := HW.out.2.2
   have HMN := HW.out.2.1
   have HMNH : Hid (MapN D (kv.take j)) := HMN
   clear HMN
   have EMm1_2 : Hid (KnownO wr qm1 j D) := HW.out.1
   clear HW hb1 EMm1_1
   obtain ⟨g3, p3, hV, _, _⟩ := (HKP.out _ hb2).look j (by rw [HLK.out]; omega)
   rw [HLK.out] at hV
   injection hV with hV1 hV2 hV3
   subst hV1 hV3
   clear hV2
   obtain ⟨xX, hxX⟩ := exq (kvAt kv j)
   have HMx : Hid (xX ∈ kv) := by show _ ∈ _; rw [hxX]; exact kvAt_mem kv j (by rw [HLK.out]; omega)
   have HEx : Hid (kpAt ks j = xX.1) := by show _ = _; rw [hxX, ← HKS.out]; exact (kvAt_fst kv j (by rw [HLK.out]; omega)).symm
   have HTKx : Hid (kv.take (j + 1) = kv.take j ++ [xX]) := by show _ = _; rw [hxX]; exact kvAt_take kv j (by rw [HLK.out]; omega)
   have HKx : Hid (∀ W, Below w.heap.size w W → KpAt W g3 j xX) := fun W hb => by
    obtain ⟨g', p', hV, _, hc⟩ := (HKP.out W hb).look j (by rw [HLK.out]; omega)
    injection hV with hV1 _ _
    cases hV1
    rw [hxX]
    exact hc
   clear hxX
   obtain ⟨x, kuv1, kuv2, kuv3⟩ := xX
   obtain ⟨ku1, kuc1, hu⟩ := slice_of_owns ((HKP.out _ hb2).names HMx.out)
   have hu' : kuv1 = .slice ku1 x.xs.length kuc1 := hu
   subst hu'
   clear hu
   obtain ⟨ku2, kuc2, hu⟩ := slice_of_owns ((HKP.out _ hb2).vals HMx.out)
   have hu' : kuv2 = .slice ku2 x.ys.length kuc2 := hu
   subst hu'
   clear hu
   obtain ⟨ku3, kuc3, hu⟩ := slice_of_owns ((HKP.out _ hb2).flds HMx.out)
   have hu' : kuv3 = .slice ku3 x.fs.length kuc3 := hu
   subst hu'
   clear hu
   have r0x := (HKx.out _ hb2).c0
   have r1x := (HKx.out _ hb2).c1
   have r2x := (HKx.out _ hb2).c2
   have r3x := (HKx.out _ hb2).c3
   have r4x := (HKx.out _ hb2).c4
   have r5x := (HKx.out _ hb2).c5
   have r6x := (HKx.out _ hb2).c6
   have r7x := (HKx.out _ hb2).c7
   have r8x := (HKx.out _ hb2).c8
   dsimp only at r0x r1x r2x r3x r4x r5x r6x r7x r8x
   go_upto_region 5 with fail
   obtain ⟨qv1, hqv1⟩ := exq ((wr).heap.size)
   obtain ⟨w3, hW3⟩ := exq ((wr).alloc (.cells #[.string x.p, .slice ku1 x.xs.length kuc1, .slice ku2 x.ys.length kuc2, .int .i64 x.st, .slice ku3 x.fs.length kuc3, .string x.b, .int .i64 x.t, .int .i64 x.a, .int .i64 x.q] 105))
   have hz3 : (wr).heap.size = qv1 := hqv1.symm
   first | rw [← hW3, ← hqv1] | rw [← hW3]
   have hs3 := hsa hW3 hz3
   have bw := bal hW3
   have hb3 := hbt hb2 bw
   have EMm1_3 : Hid (KnownO w3 qm1 j (D)) := map_below EMm1_2.out bw
   have HBv1_3 := hnew hW3 hz3
   clear hb2 EMm1_2 bw hW3 hz3
   clear hs3 hqv1
   clear r0x r1x r2x r3x r4x r5x r6x r7x r8x
   have cv1_0 := (k9c HBv1_3).1
   have cv1_1 := (k9c HBv1_3).2.1
   have cv1_2 := (k9c HBv1_3).2.2.1
   have cv1_3 := (k9c HBv1_3).2.2.2.1
   have cv1_4 := (k9c HBv1_3).2.2.2.2.1
   have cv1_5 := (k9c HBv1_3).2.2.2.2.2.1
   have cv1_6 := (k9c HBv1_3).2.2.2.2.2.2.1
   have cv1_7 := (k9c HBv1_3).2.2.2.2.2.2.2.1
   have cv1_8 := (k9c HBv1_3).2.2.2.2.2.2.2.2
   have hmp := EMm1_3.out
   unfold KnownO at hmp
   go_wp2_with (first | (at_mapUpdate; refine wpList_mapUpdate_own _ rfl _ _ _ 167 rfl 3 105 keyInt Tryz.underlying167 mpR qm1 (j) (D) rfl hmp (by unfold maxLen; omega) _ _ (.int .i64 x.a) rfl rfl (key_wf (HAB.out _ HMx.out).1 (HAB.out _ HMx.out).2) (.held (.agg #[.string x.p, .slice ku1 x.xs.length kuc1, .slice ku2 x.ys.length kuc2, .int .i64 x.st, .slice ku3 x.fs.length kuc3, .string x.b, .int .i64 x.t, .int .i64 x.a, .int .i64 x.q])) [] rfl ?_) | go_in)
   intro w4 hown1 hgrow
   clear cv1_0 cv1_1 cv1_2 cv1_3 cv1_4 cv1_5 cv1_6 cv1_7 cv1_8
   have hb4 : Below w.heap.size w (w4) := hb3.grown hgrow hb3.size (by intro g hg; cases hg; exact HGm1.out)
   have HBv1_4 : Hid ((w4).heap[qv1]? = some (.cells #[.string x.p, .slice ku1 x.xs.length kuc1, .slice ku2 x.ys.length kuc2, .int .i64 x.st, .slice ku3 x.fs.length kuc3, .string x.b, .int .i64 x.t, .int .i64 x.a, .int .i64 x.q] 105)) := map_blk hmp HBv1_3.out hgrow
   have EMm1_4 : Hid (KnownO w4 qm1 (j + 1) (((D).put (.int .i64 x.a) (.held (.agg #[.string x.p, .slice ku1 x.xs.length kuc1, .slice ku2 x.ys.length kuc2, .int .i64 x.st, .slice ku3 x.fs.length kuc3, .string x.b, .int .i64 x.t, .int .i64 x.a, .int .i64 x.q]))))) := hown1
   clear hown1 hgrow hmp hb3 HBv1_3 EMm1_3
   have HN2 : Hid (MapN (D.put (.int .i64 x.a) (.held (kpX (x, .slice ku1 x.xs.length kuc1, .slice ku2 x.ys.length kuc2, .slice ku3 x.fs.length kuc3)))) (kv.take (j + 1))) := by
    show MapN _ _
    rw [HTKx.out]
    exact HMNH.out.put (x, .slice ku1 x.xs.length kuc1, .slice ku2 x.ys.length kuc2, .slice ku3 x.fs.length kuc3)
   go_wp2_with fail
   go_roundw
   case rel => exact ⟨j + 1, _, by omega, by go_num, EMm1_4.out, HN2.out, hb4⟩
   case measure => simp [intOf]; omega
  ·
   have hb2 := HW.out.2.2
   have HMN := HW.out.2.1
   have HMNH : Hid (MapN D (kv.take j)) := HMN
   clear HMN
   have EMm1_2 : Hid (KnownO wr qm1 j D) := HW.out.1
   clear HW hb1 EMm1_1
   go_wp2_with fail
   go_ret
   have HMN2 : MapN D kv := by
    have h := HMNH.out
    rw [List.take_of_length_le (by rw [HLK.out]; omega)] at h
    exact h
   exact ⟨qm1, j, D, rfl, by rw [HLK.out]; omega, EMm1_2.out, HMN2, HGm1.out, hb2⟩
end Go.Proofs.YtanpngnpolhgbaaGreat
namespace Go.Proofs.YtanpngnpolhgbaaGreat
open Go.RowKit
open Go.Lib hiding intOf
theorem implDiskOk_len (o1 : Option Addr) (n1 c1 : Nat) (v2 : Value) (n2 : Nat) (ws : List (Int × ByteArray)) (B : Nat) (w : World) (h : w.ownsRow B 148 2 v2 n2 (flatWrite ws)) (hn2 : n2 ≤ 2000000) :
  Calls Tryz.prog 52 #[.agg #[.slice o1 n1 c1, v2]] w fun e w' => BoolIs (DiskN n1 ws) w e w' := by
 obtain ⟨o2, c2, rfl⟩ := slice_of_owns h
 have HV : Hid (WriteA w o2 n2 ws) := write_view h
 have HLN : Hid (ws.length = n2) := write_len h
 clear h
 by_cases h1 : n1 = 20
 ·
  subst h1
  by_cases h2 : n2 ≤ 16
  ·
   have h3 : (n2 : Int) ≤ 16 := by omega
   go_enter Tryz.func52, Tryz.ntmps52
   go_wp2_with fail
   refine (allToCells_any o2 n2 c2 ws _ (HV.out.below ((Below.refl _ _).alloc (Nat.le_refl _) _)) hn2).mono ?_
   rintro e w1 ⟨b, rfl, hb, bw⟩
   have HB : Hid (b = true ↔ AllIn ws) := hb
   have HBW : Hid (Below w.heap.size w w1) := ((Below.refl _ _).alloc (Nat.le_refl _) _).trans (bw.mono (by simp))
   have HN : Hid (n2 ≤ 16) := h2
   clear hb bw
   go_wp2_with fail
   go_ret
   exact ⟨b, rfl, ⟨fun e => ⟨rfl, by rw [HLN.out]; exact HN.out, HB.out.1 e⟩, fun h => HB.out.2 h.2.2⟩, HBW.out⟩
  ·
   have h3 : ¬ (n2 : Int) ≤ 16 := by omega
   have HNO : Hid (¬ ws.length ≤ 16) := by rw [HLN.out]; exact h2
   go_enter Tryz.func52, Tryz.ntmps52
   go_wp2_with fail
   go_ret
   exact BoolIs.no (fun h => HNO.out h.2.1) ((Below.refl _ _).alloc (Nat.le_refl _) _)
 ·
  have h3 : ¬ (n1 : Int) = 20 := by omega
  have HNO : Hid (¬ n1 = 20) := h1
  go_enter Tryz.func52, Tryz.ntmps52
  go_wp2_with fail
  go_ret
  exact BoolIs.no (fun h => HNO.out h.1) ((Below.refl _ _).alloc (Nat.le_refl _) _)
theorem implDiskOk_any (v1 v2 : Value) (n1 : Nat) (cs : List ByteArray) (n2 : Nat) (ws : List (Int × ByteArray)) (B : Nat) (w : World) (h : DiskO w B v1 n1 cs v2 n2 ws) (_hn1 : n1 ≤ 2000000) (hn2 : n2 ≤ 2000000) :
  Calls Tryz.prog 52 #[.agg #[v1, v2]] w fun e w' => BoolIs (DiskP cs ws) w e w' := by
 obtain ⟨oCx, pCx, rfl⟩ := slice_of_owns h.cells
 have hl : cs.length = n1 := by have := h.cells.1; rw [List.length_map] at this; omega
 have h1 := implDiskOk_len oCx n1 pCx v2 n2 ws B w h.pend hn2
 rw [← hl] at h1
 rw [← hl]
 exact h1
end Go.Proofs.YtanpngnpolhgbaaGreat
namespace Go.Proofs.YtanpngnpolhgbaaGreat
open Go.RowKit
open Go.Lib hiding intOf
/-- At most five bans, each right. -/
def BansP (bl : List (Int × ByteArray × ByteArray × Int)) : Prop := bl.length ≤ 5 ∧ ∀ x ∈ bl, BanP x.1 x.2.1 x.2.2.1 x.2.2.2
/-- The number of the one ahead, or nought. -/
def lastQ (ks : List KpD) (i : Nat) : Int := if i = 0 then 0 else (kpAt ks (i - 1)).q
theorem lastQ_succ (ks : List KpD) (i : Nat) : lastQ ks (i + 1) = (kpAt ks i).q := by unfold lastQ; rw [if_neg (by omega), Nat.add_sub_cancel]
/-- Right, but for its cell's being another's. -/
def KpA (ks : List KpD) (sq : Int) (i : Nat) : Prop := ObjK (kpAt ks i) ∧ (5 ≤ (kpAt ks i).a ∧ (kpAt ks i).a ≤ 19) ∧ lastQ ks i < (kpAt ks i).q ∧ (kpAt ks i).q < sq
theorem lastQ_ge {ks : List KpD} {sq : Int} {n : Nat} (h : ∀ m, m < n → KpA ks sq m) : ∀ i, i ≤ n → 0 ≤ lastQ ks i
 | 0, _ => by simp [lastQ]
 | i + 1, hi => by
  have h1 := lastQ_ge h i (by omega)
  have h2 := (h i (by omega)).2.2.1
  rw [lastQ_succ]
  omega
theorem kpOk_A {ks : List KpD} {sq : Int} {i : Nat} (h : KpOk ks sq i) : KpA ks sq i := by
 obtain ⟨h1, h2, h3, h4, _⟩ := h
 refine ⟨h1, h2, ?_, by omega⟩
 unfold lastQ
 split
 · omega
 · exact h4 (by omega)
theorem kpA_Ok {ks : List KpD} {sq : Int} {n i : Nat} (h : ∀ m, m < n → KpA ks sq m) (hi : i < n) (ha : ∀ j, j < i → (kpAt ks j).a ≠ (kpAt ks i).a) : KpOk ks sq i := by
 obtain ⟨h1, h2, h3, h4⟩ := h i hi
 have h5 := lastQ_ge h i (by omega)
 refine ⟨h1, h2, by omega, fun h0 => ?_, ha⟩
 unfold lastQ at h3
 rw [if_neg (by omega)] at h3
 exact h3
theorem apart_at {kv : List (KpD × Value × Value × Value)} : ApartA kv ↔ ∀ i, i < kv.length → ∀ j, j < i → (kpAt (kv.map (·.1)) j).a ≠ (kpAt (kv.map (·.1)) i).a := by
 have e : ∀ i (hi : i < kv.length), kpAt (kv.map (·.1)) i = (kv[i]'hi).1 := fun i hi => by
  rw [← kpAt_get _ i (by rw [List.length_map]; exact hi)]
  simp
 unfold ApartA
 rw [List.pairwise_iff_getElem]
 constructor
 ·
  intro h i hi j hj
  rw [e i hi, e j (by omega)]
  exact h j i (by omega) hi hj
 ·
  intro h i j hi hj hij
  have h2 := h j hj i hij
  rw [e j hj, e i hi] at h2
  exact h2
theorem keptOk_any (V : Value) (kv : List (KpD × Value × Value × Value)) (sq : Int) (B : Nat) (w : World) (h : KeptsO w B V kv) (hn : kv.length ≤ 1048576) (hs : ∀ x ∈ kv, KpSmall x.1) :
  Calls Tryz.prog 54 #[V, .int .i64 sq] w fun e w' => BoolIs (∀ m, m < kv.length → KpOk (kv.map (·.1)) sq m) w e w' := by
 obtain ⟨o3, c3, e3⟩ := slice_of_owns h.row
 subst e3
 obtain ⟨n3, hn3⟩ := exq kv.length
 rw [← hn3] at h ⊢
 obtain ⟨ks, hks⟩ := exq (kv.map (·.1))
 have HKS : Hid (kv.map (·.1) = ks) := hks.symm
 have HLK : Hid (kv.length = n3) := hn3.symm
 have bn3 : n3 ≤ 1048576 := by rw [hn3]; exact hn
 have HKP : Hid (∀ W, Below w.heap.size w W → KeptsO W B (.slice o3 n3 c3) kv) := fun W hb => KeptsO.below h hb
 clear hn3 hks h hn
 have HSM : Hid (∀ x ∈ kv, KpSmall x.1) := hs
 clear hs
 have hb0 : Below w.heap.size w w := Below.refl _ _
 go_enter Tryz.func54, Tryz.ntmps54
 go_wp2_with fail
 go_loopw [5, 10] (fun l i wr => ∃ i' : Nat, i' ≤ n3 ∧ l = .int .i64 (lastQ ks i') ∧ i = .int .i64 (i' : Int) ∧ Hid (Below w.heap.size w (wr)) ∧ Hid (∀ m, m < i' → KpA ks sq m)) (fun _ i _ => n3 - (intOf i).toNat)
 case atStart => exact ⟨0, Nat.zero_le _, rfl, rfl, hb0, fun m hm => absurd hm (by omega)⟩
 case round =>
  obtain ⟨i, hi, rfl, rfl, HW, HN⟩ := hrel
  by_cases hlt : (i : Int) < (n3 : Int)
  ·
   have hb1 := HW.out
   clear HW hb0
   obtain ⟨g3, p3, hV, _, _⟩ := (HKP.out _ hb1).look i (by rw [HLK.out]; omega)
   rw [HLK.out] at hV
   injection hV with hV1 hV2 hV3
   subst hV1 hV3
   clear hV2
   obtain ⟨xX, hxX⟩ := exq (kvAt kv i)
   have HMx : Hid (xX ∈ kv) := by show _ ∈ _; rw [hxX]; exact kvAt_mem kv i (by rw [HLK.out]; omega)
   have HEx : Hid (kpAt ks i = xX.1) := by show _ = _; rw [hxX, ← HKS.out]; exact (kvAt_fst kv i (by rw [HLK.out]; omega)).symm
   have HTKx : Hid (kv.take (i + 1) = kv.take i ++ [xX]) := by show _ = _; rw [hxX]; exact kvAt_take kv i (by rw [HLK.out]; omega)
   have HKx : Hid (∀ W, Below w.heap.size w W → KpAt W g3 i xX) := fun W hb => by
    obtain ⟨g', p', hV, _, hc⟩ := (HKP.out W hb).look i (by rw [HLK.out]; omega)
    injection hV with hV1 _ _
    cases hV1
    rw [hxX]
    exact hc
   clear hxX
   obtain ⟨x, kuv1, kuv2, kuv3⟩ := xX
   obtain ⟨ku1, kuc1, hu⟩ := slice_of_owns ((HKP.out _ hb1).names HMx.out)
   have hu' : kuv1 = .slice ku1 x.xs.length kuc1 := hu
   subst hu'
   clear hu
   obtain ⟨ku2, kuc2, hu⟩ := slice_of_owns ((HKP.out _ hb1).vals HMx.out)
   have hu' : kuv2 = .slice ku2 x.ys.length kuc2 := hu
   subst hu'
   clear hu
   obtain ⟨ku3, kuc3, hu⟩ := slice_of_owns ((HKP.out _ hb1).flds HMx.out)
   have hu' : kuv3 = .slice ku3 x.fs.length kuc3 := hu
   subst hu'
   clear hu
   have r0x := (HKx.out _ hb1).c0
   have r1x := (HKx.out _ hb1).c1
   have r2x := (HKx.out _ hb1).c2
   have r3x := (HKx.out _ hb1).c3
   have r4x := (HKx.out _ hb1).c4
   have r5x := (HKx.out _ hb1).c5
   have r6x := (HKx.out _ hb1).c6
   have r7x := (HKx.out _ hb1).c7
   have r8x := (HKx.out _ hb1).c8
   dsimp only at r0x r1x r2x r3x r4x r5x r6x r7x r8x
   go_upto_region 5 with fail
   obtain ⟨qv1, hqv1⟩ := exq ((wr).heap.size)
   obtain ⟨w2, hW2⟩ := exq ((wr).alloc (.cells #[.string x.p, .slice ku1 x.xs.length kuc1, .slice ku2 x.ys.length kuc2, .int .i64 x.st, .slice ku3 x.fs.length kuc3, .string x.b, .int .i64 x.t, .int .i64 x.a, .int .i64 x.q] 105))
   have hz2 : (wr).heap.size = qv1 := hqv1.symm
   first | rw [← hW2, ← hqv1] | rw [← hW2]
   have hs2 := hsa hW2 hz2
   have bw := bal hW2
   have hb2 := hbt hb1 bw
   have HM2 := hsz bw
   have HBv1_2 := hnew hW2 hz2
   clear hb1 bw hW2 hz2
   clear hs2 hqv1
   clear r0x r1x r2x r3x r4x r5x r6x r7x r8x
   have cv1_0 := (k9c HBv1_2).1
   have cv1_1 := (k9c HBv1_2).2.1
   have cv1_2 := (k9c HBv1_2).2.2.1
   have cv1_3 := (k9c HBv1_2).2.2.2.1
   have cv1_4 := (k9c HBv1_2).2.2.2.2.1
   have cv1_5 := (k9c HBv1_2).2.2.2.2.2.1
   have cv1_6 := (k9c HBv1_2).2.2.2.2.2.2.1
   go_wp2_with fail
   refine (implObjOk_k x _ _ _ _ ((HKP.out _ hb2).read HMx.out) (HSM.out _ HMx.out)).mono ?_
   rintro e w3 ⟨uo, rfl, huo, bw⟩
   have hb3 := hbt hb2 bw
   have HBv1_3 := hblk HBv1_2 bw
   clear hb2 HBv1_2 bw
   clear cv1_0 cv1_1 cv1_2 cv1_3 cv1_4 cv1_5 cv1_6
   cases uo with
   | false =>
    have HNuo : Hid (¬ (ObjK x)) := fun h => nomatch huo.2 h
    clear huo
    go_wp2_with fail
    go_ret
    exact BoolIs.no (fun h => by have hk := h i (by omega); rw [HKS.out] at hk; have hA := kpOk_A hk; unfold KpA at hA; rw [HEx.out] at hA; exact HNuo.out hA.1) hb3
   | true =>
    have HYuo : Hid (ObjK x) := huo.1 rfl
    clear huo
    have cv1_7 := (k9c HBv1_3).2.2.2.2.2.2.2.1
    go_wp2_with fail
    refine (isObjectCell_any x.a _).mono ?_
    rintro e w4 ⟨uka, rfl, huka, bw⟩
    have hb4 := hbt hb3 bw
    have HBv1_4 := hblk HBv1_3 bw
    clear hb3 HBv1_3 bw
    clear cv1_7
    cases uka with
    | false =>
     have HNuka : Hid (¬ (5 ≤ x.a ∧ x.a ≤ 19)) := fun h => nomatch huka.2 h
     clear huka
     go_wp2_with fail
     go_ret
     exact BoolIs.no (fun h => by have hk := h i (by omega); rw [HKS.out] at hk; have hA := kpOk_A hk; unfold KpA at hA; rw [HEx.out] at hA; exact HNuka.out hA.2.1) hb4
    | true =>
     have HYuka : Hid (5 ≤ x.a ∧ x.a ≤ 19) := huka.1 rfl
     clear huka
     by_cases hc1 : x.q ≤ (lastQ ks i)
     ·
      have HLQ : Hid (x.q ≤ lastQ ks i) := hc1
      have cv1_8 := (k9c HBv1_4).2.2.2.2.2.2.2.2
      go_wp2_with fail
      go_ret
      exact BoolIs.no (fun h => by have hk := h i (by omega); rw [HKS.out] at hk; have hA := kpOk_A hk; unfold KpA at hA; rw [HEx.out] at hA; have h2 := HLQ.out; omega) hb4
     ·
      have HLQ : Hid (¬ x.q ≤ lastQ ks i) := hc1
      have cv1_8 := (k9c HBv1_4).2.2.2.2.2.2.2.2
      by_cases hc2 : sq ≤ x.q
      ·
       have HGQ : Hid (sq ≤ x.q) := hc2
       go_wp2_with fail
       go_ret
       exact BoolIs.no (fun h => by have hk := h i (by omega); rw [HKS.out] at hk; have hA := kpOk_A hk; unfold KpA at hA; rw [HEx.out] at hA; have h2 := HGQ.out; omega) hb4
      ·
       have HGQ : Hid (¬ sq ≤ x.q) := hc2
       have HN2 : Hid (∀ m, m < i + 1 → KpA ks sq m) := fun m hm => by
        by_cases e : m = i
        ·
         subst e
         unfold KpA
         rw [HEx.out]
         have h1 := HLQ.out
         have h2 := HGQ.out
         exact ⟨HYuo.out, HYuka.out, by omega, by omega⟩
        · exact HN.out m (by omega)
       have HLS : Hid (x.q = lastQ ks (i + 1)) := by show _ = _; rw [lastQ_succ, HEx.out]
       go_wp2_with fail
       go_roundw
       case rel => exact ⟨i + 1, by omega, congrArg (Value.int .i64) HLS.out, by go_num, hb4, HN2⟩
       case measure => simp [intOf]; omega
  ·
   have hb1 := HW.out
   clear HW hb0
   have HKA : Hid (∀ m, m < n3 → KpA ks sq m) := fun m hm => HN.out m (by omega)
   have HAB : Hid (∀ x ∈ kv, 0 ≤ x.1.a ∧ x.1.a ≤ 1000) := fun x hx => by
    obtain ⟨j, hj, e⟩ := List.getElem_of_mem hx
    have h2 := (HKA.out j (by rw [← HLK.out]; exact hj)).2.1
    rw [← HKS.out, ← kvAt_fst kv j hj, ← kvAt_get kv j hj, e] at h2
    omega
   clear HN
   go_wp2_with fail
   refine (knownOf_any _ kv B _ (HKP.out _ hb1) (by rw [HLK.out]; exact bn3) (fun x hx => HAB.out x hx)).mono ?_
   rintro e w2 ⟨bM, nM, D, rfl, hnM, hko, hmn, hbg, bw⟩
   have HBK : Hid (w.heap.size ≤ (wr).heap.size) := hb1.size
   have hb2 := hbt hb1 bw
   have HM2 := hsz bw
   clear hb1 bw
   have EMmk_2 : Hid (KnownO w2 bM nM D) := hko
   have HMN : Hid (MapN D kv) := hmn
   clear hbg hko hmn
   by_cases hc1 : (Maps.size (D) : Int) = (n3 : Int)
   ·
    have hc1b : (((Maps.size (D) : Int) : Int) == ((n3 : Int) : Int)) = true := by simpa using hc1
    have hc1n : (((Maps.size (D) : Int) : Int) != ((n3 : Int) : Int)) = false := by simpa using hc1
    have HSZ : Hid ((Maps.size D : Int) = (n3 : Int)) := hc1
    have hc1H : Hid ((Maps.size (D) : Int) = (n3 : Int)) := hc1
    clear hc1
    have hmp := EMmk_2.out
    unfold KnownO at hmp
    go_wp2_with (first | (at_len; refine wpList_len_own _ rfl _ 167 rfl 3 105 Tryz.underlying167 mpR bM nM (D) rfl hmp ?_) | go_in)
    go_ret
    refine BoolIs.yes (fun m hm => ?_) hb2
    have ha : ApartA kv := HMN.out.eq.1 (by have := HSZ.out; rw [HLK.out]; omega)
    rw [apart_at] at ha
    rw [HKS.out] at ha ⊢
    exact kpA_Ok (n := n3) HKA.out hm (ha m (by rw [HLK.out]; exact hm))
   ·
    have hc1b : (((Maps.size (D) : Int) : Int) == ((n3 : Int) : Int)) = false := by simpa using hc1
    have hc1n : (((Maps.size (D) : Int) : Int) != ((n3 : Int) : Int)) = true := by simpa using hc1
    have HSZ : Hid (¬ (Maps.size D : Int) = (n3 : Int)) := hc1
    have hc1H : Hid (¬ ((Maps.size (D) : Int) = (n3 : Int))) := hc1
    clear hc1
    have hmp := EMmk_2.out
    unfold KnownO at hmp
    go_wp2_with (first | (at_len; refine wpList_len_own _ rfl _ 167 rfl 3 105 Tryz.underlying167 mpR bM nM (D) rfl hmp ?_) | go_in)
    go_ret
    refine BoolIs.no (fun h => ?_) hb2
    have hsz := HSZ.out
    have ha : ApartA kv := apart_at.2 (fun m hm => (h m (by rw [← HLK.out]; exact hm)).2.2.2.2)
    have h2 := HMN.out.eq.2 ha
    rw [HLK.out] at h2
    omega
theorem bansOk_any (VB : Value) (bl : List (Int × ByteArray × ByteArray × Int)) (B : Nat) (w : World) (h : w.ownsRow B 103 4 VB bl.length (flatBan bl)) (hn : bl.length ≤ 1048576) (hz : ∀ x ∈ bl, x.2.1.size ≤ maxLen ∧ x.2.2.1.size ≤ maxLen) :
  Calls Tryz.prog 55 #[VB] w fun e w' => BoolIs (BansP bl) w e w' := by
 obtain ⟨o4, c4, e4⟩ := slice_of_owns h
 subst e4
 obtain ⟨n4, hn4⟩ := exq bl.length
 rw [← hn4] at h ⊢
 have HLB : Hid (bl.length = n4) := hn4.symm
 have bn4 : n4 ≤ 1048576 := by rw [hn4]; exact hn
 have HBN : Hid (∀ W, Below w.heap.size w W → W.ownsRow B 103 4 (.slice o4 n4 c4) n4 (flatBan bl)) := fun W hb => owns_below h hb (fun g hg => owns_lt h hg)
 have HBZ : Hid (∀ x ∈ bl, x.2.1.size ≤ maxLen ∧ x.2.2.1.size ≤ maxLen) := hz
 clear hn4 h hn hz
 have hb0 : Below w.heap.size w w := Below.refl _ _
 go_enter Tryz.func55, Tryz.ntmps55
 go_wp2_with fail
 go_loopw [7] (fun i wr => ∃ j : Nat, j ≤ n4 ∧ i = .int .i64 (j : Int) ∧ Hid (Below w.heap.size w (wr)) ∧ Hid (∀ x ∈ bl.take j, BanP x.1 x.2.1 x.2.2.1 x.2.2.2)) (fun i _ => n4 - (intOf i).toNat)
 case atStart => exact ⟨0, Nat.zero_le _, rfl, hb0, fun x hx => by simp at hx⟩
 case round =>
  obtain ⟨j, hj, rfl, HW, HN⟩ := hrel
  by_cases hlt : (j : Int) < (n4 : Int)
  ·
   have hb1 := HW.out
   clear HW hb0
   have hbn := HBN.out _ hb1
   try rw [HLB.out] at hbn
   have hbv := ban_view hbn
   clear hbn
   obtain ⟨g4, hog, hgl, r1, r2, r3, r4⟩ := hbv.2 j (by first | omega | (rw [HLB.out]; omega))
   clear hbv
   subst hog
   obtain ⟨y, hy⟩ := exq (banAt bl j)
   rw [← hy] at r1 r2 r3 r4
   have HM : Hid (y ∈ bl) := by show _ ∈ _; rw [hy]; exact banAt_mem bl j (by rw [HLB.out]; omega)
   have HTK : Hid (bl.take (j + 1) = bl.take j ++ [y]) := by show _ = _; rw [hy]; exact take_banAt bl j (by rw [HLB.out]; omega)
   clear hy hgl
   obtain ⟨y0, y1, y2, y3⟩ := y
   dsimp only at r1 r2 r3 r4
   go_upto_region 4 with fail
   obtain ⟨qv1, hqv1⟩ := exq ((wr).heap.size)
   obtain ⟨w2, hW2⟩ := exq ((wr).alloc (.cells #[.int .i64 y0, .string y1, .string y2, .int .i64 y3] 103))
   have hz2 : (wr).heap.size = qv1 := hqv1.symm
   first | rw [← hW2, ← hqv1] | rw [← hW2]
   have hs2 := hsa hW2 hz2
   have bw := bal hW2
   have hb2 := hbt hb1 bw
   have HBv1_2 := hnew hW2 hz2
   clear hb1 bw hW2 hz2
   clear hs2 hqv1
   clear r1 r2 r3 r4
   have cv1_0 := (k4c HBv1_2).1
   have cv1_1 := (k4c HBv1_2).2.1
   have cv1_2 := (k4c HBv1_2).2.2.1
   have cv1_3 := (k4c HBv1_2).2.2.2
   go_wp2_with fail
   refine (implBanOk_any y0 y1 y2 y3 _ (HBZ.out _ HM.out).1 (HBZ.out _ HM.out).2).mono ?_
   rintro e w3 ⟨ub, rfl, hub, bw⟩
   have hb3 := hbt hb2 bw
   have HBv1_3 := hblk HBv1_2 bw
   clear hb2 HBv1_2 bw
   clear cv1_0 cv1_1 cv1_2 cv1_3
   cases ub with
   | false =>
    have HNub : Hid (¬ (BanP y0 y1 y2 y3)) := fun h => nomatch hub.2 h
    clear hub
    go_wp2_with fail
    go_ret
    exact BoolIs.no (fun h => HNub.out ((show BansP bl from h).2 _ HM.out)) hb3
   | true =>
    have HYub : Hid (BanP y0 y1 y2 y3) := hub.1 rfl
    clear hub
    have HN2 : Hid (∀ x ∈ bl.take (j + 1), BanP x.1 x.2.1 x.2.2.1 x.2.2.2) := fun x hx => by
     rw [HTK.out] at hx
     rcases List.mem_append.1 hx with hx | hx
     · exact HN.out x hx
     · rw [List.mem_singleton.1 hx]; exact HYub.out
    go_wp2_with fail
    go_roundw
    case rel => exact ⟨j + 1, by omega, by go_num, hb3, HN2⟩
    case measure => simp [intOf]; omega
  ·
   have hb1 := HW.out
   clear HW hb0
   have HAL : Hid (∀ x ∈ bl, BanP x.1 x.2.1 x.2.2.1 x.2.2.2) := fun x hx => HN.out x (by rw [List.take_of_length_le (by rw [HLB.out]; omega)]; exact hx)
   clear HN
   by_cases hc1 : (n4 : Int) ≤ 5
   ·
    have HB5 : Hid (n4 ≤ 5) := (by have := hc1; show _ ≤ _; omega)
    go_wp2_with fail
    go_ret
    exact BoolIs.yes (⟨by rw [HLB.out]; exact HB5.out, HAL.out⟩ : BansP bl) hb1
   ·
    have HB5 : Hid (¬ n4 ≤ 5) := (by have := hc1; show ¬ _; omega)
    go_wp2_with fail
    go_ret
    exact BoolIs.no (fun h => by have h1 : bl.length ≤ 5 := h.1; have h5 := HB5.out; rw [HLB.out] at h1; omega) hb1
theorem implShelfOk_any (v1 v2 V VB : Value) (kv : List (KpD × Value × Value × Value)) (s : ShD) (B : Nat) (w : World) (h : ShelfO w B v1 v2 V VB kv s) (hz : ShSmall s) :
  Calls Tryz.prog 22 #[.agg #[v1, v2, V, VB, .int .i64 s.nx, .int .i64 s.sq]] w fun e w' => BoolIs (ShelfP s) w e w' := by
 obtain ⟨o1, c1, e1⟩ := slice_of_owns h.disk.cells
 obtain ⟨o2, c2, e2⟩ := slice_of_owns h.disk.pend
 obtain ⟨o3, c3, e3⟩ := slice_of_owns h.kept.row
 obtain ⟨o4, c4, e4⟩ := slice_of_owns h.bans
 subst e1 e2 e3 e4
 obtain ⟨n1, hn1⟩ := exq (s.cs.length)
 obtain ⟨n2, hn2⟩ := exq (s.ws.length)
 obtain ⟨n3, hn3⟩ := exq kv.length
 obtain ⟨n4, hn4⟩ := exq (s.bl.length)
 rw [← hn1, ← hn2, ← hn3, ← hn4] at h ⊢
 have HLN : Hid (s.cs.length = n1 ∧ s.ws.length = n2 ∧ kv.length = n3 ∧ s.bl.length = n4) := ⟨hn1.symm, hn2.symm, hn3.symm, hn4.symm⟩
 have HKS : Hid (kv.map (·.1) = s.ks) := h.2
 have HZ : Hid (ShSmall s) := hz
 have bn1 : n1 ≤ 1048576 := by rw [hn1]; exact hz.c
 have bn2 : n2 ≤ 1048576 := by rw [hn2]; exact hz.w
 have bn3 : n3 ≤ 1048576 := by rw [hn3, ← List.length_map (f := (·.1)), h.2]; exact hz.k
 have bn4 : n4 ≤ 1048576 := by rw [hn4]; exact hz.b
 have HSH : Hid (∀ W, Below w.heap.size w W → ShelfO W B (.slice o1 n1 c1) (.slice o2 n2 c2) (.slice o3 n3 c3) (.slice o4 n4 c4) kv s) := fun W hb => h.below hb
 have HKP : Hid (∀ W, Below w.heap.size w W → KeptsO W B (.slice o3 n3 c3) kv) := fun W hb => (h.below hb).kept
 have HLK : Hid (kv.length = n3) := hn3.symm
 clear hn1 hn2 hn3 hn4 h hz
 have hb0 : Below w.heap.size w w := Below.refl _ _
 go_enter Tryz.func22, Tryz.ntmps22
 go_upto_region 1 with fail
 obtain ⟨qv1, hqv1⟩ := exq ((w).heap.size)
 obtain ⟨w1, hW1⟩ := exq ((w).alloc (.cells #[.slice o1 n1 c1, .slice o2 n2 c2, .slice o3 n3 c3, .slice o4 n4 c4, .int .i64 s.nx, .int .i64 s.sq] 43))
 have hz1 : (w).heap.size = qv1 := hqv1.symm
 first | rw [← hW1, ← hqv1] | rw [← hW1]
 have hs1 := hsa hW1 hz1
 have bw := bal hW1
 have hb1 := hbt hb0 bw
 have HBv1_1 := hnew hW1 hz1
 clear hb0 bw hW1 hz1
 clear hs1 hqv1
 have cv1_0 := (k6c HBv1_1).1
 have cv1_1 := (k6c HBv1_1).2.1
 go_wp2_with fail
 refine (implDiskOk_any _ _ n1 s.cs n2 s.ws B _ (by have hd := (HSH.out _ hb1).disk; rw [HLN.out.1, HLN.out.2.1] at hd; exact hd) (by omega) (by omega)).mono ?_
 rintro e w2 ⟨ud, rfl, hud, bw⟩
 have hb2 := hbt hb1 bw
 have HBv1_2 := hblk HBv1_1 bw
 clear hb1 HBv1_1 bw
 clear cv1_0 cv1_1
 cases ud with
 | false =>
  have HNud : Hid (¬ (DiskP s.cs s.ws)) := fun h => nomatch hud.2 h
  clear hud
  go_wp2_with fail
  go_ret
  exact BoolIs.no (fun h => HNud.out h.1) hb2
 | true =>
  have HYud : Hid (DiskP s.cs s.ws) := hud.1 rfl
  clear hud
  have cv1_4 := (k6c HBv1_2).2.2.2.2.1
  go_wp2_with fail
  refine (isObjectCell_any s.nx _).mono ?_
  rintro e w3 ⟨unx, rfl, hunx, bw⟩
  have hb3 := hbt hb2 bw
  have HBv1_3 := hblk HBv1_2 bw
  clear hb2 HBv1_2 bw
  clear cv1_4
  cases unx with
  | false =>
   have HNunx : Hid (¬ (5 ≤ s.nx ∧ s.nx ≤ 19)) := fun h => nomatch hunx.2 h
   clear hunx
   go_wp2_with fail
   go_ret
   exact BoolIs.no (fun h => HNunx.out h.2.2.1) hb3
  | true =>
   have HYunx : Hid (5 ≤ s.nx ∧ s.nx ≤ 19) := hunx.1 rfl
   clear hunx
   by_cases hc1 : s.sq < 1
   ·
    have HQ1 : Hid (s.sq < 1) := hc1
    have cv1_5 := (k6c HBv1_3).2.2.2.2.2
    go_wp2_with fail
    go_ret
    exact BoolIs.no (fun h => by have h1 := HQ1.out; have h2 := h.2.2.2.1; omega) hb3
   ·
    have HQ1 : Hid (¬ s.sq < 1) := hc1
    have cv1_5 := (k6c HBv1_3).2.2.2.2.2
    by_cases hc2 : 100000 < s.sq
    ·
     have HQ2 : Hid (100000 < s.sq) := hc2
     go_wp2_with fail
     go_ret
     exact BoolIs.no (fun h => by have h1 := HQ2.out; have h2 := h.2.2.2.1; omega) hb3
    ·
     have HQ2 : Hid (¬ 100000 < s.sq) := hc2
     have cv1_2 := (k6c HBv1_3).2.2.1
     go_wp2_with fail
     refine (keptOk_any _ kv s.sq B _ (HKP.out _ hb3) (by rw [HLK.out]; exact bn3) (fun x hx => HZ.out.kv HKS.out hx)).mono ?_
     rintro e w4 ⟨uk, rfl, huk, bw⟩
     have hb4 := hbt hb3 bw
     have HBv1_4 := hblk HBv1_3 bw
     clear hb3 HBv1_3 bw
     clear cv1_5 cv1_2
     cases uk with
     | false =>
      have HNuk : Hid (¬ (∀ m, m < kv.length → KpOk (kv.map (·.1)) s.sq m)) := fun h => nomatch huk.2 h
      clear huk
      go_wp2_with fail
      go_ret
      exact BoolIs.no (fun h => HNuk.out (fun m hm => by rw [HKS.out]; exact h.2.2.2.2.2 m (by rw [← HKS.out, List.length_map]; exact hm))) hb4
     | true =>
      have HYuk : Hid (∀ m, m < kv.length → KpOk (kv.map (·.1)) s.sq m) := huk.1 rfl
      clear huk
      have cv1_3 := (k6c HBv1_4).2.2.2.1
      go_wp2_with fail
      refine (bansOk_any _ s.bl B _ (by have hd := (HSH.out _ hb4).bans; exact hd) HZ.out.b HZ.out.bm).mono ?_
      rintro e w5 ⟨ub, rfl, hub, bw⟩
      have hb5 := hbt hb4 bw
      have HBv1_5 := hblk HBv1_4 bw
      clear hb4 HBv1_4 bw
      clear cv1_3
      cases ub with
      | false =>
       have HNub : Hid (¬ (BansP s.bl)) := fun h => nomatch hub.2 h
       clear hub
       go_wp2_with fail
       go_ret
       exact BoolIs.no (fun h => HNub.out ⟨h.2.1, h.2.2.2.2.1⟩) hb5
      | true =>
       have HYub : Hid (BansP s.bl) := hub.1 rfl
       clear hub
       go_wp2_with fail
       go_ret
       exact BoolIs.yes ⟨HYud.out, HYub.out.1, HYunx.out, ⟨by have := HQ1.out; omega, by have := HQ2.out; omega⟩, HYub.out.2, fun i hi => by have hk := HYuk.out; rw [HKS.out] at hk; exact hk i (by rw [← HKS.out, List.length_map] at hi; exact hi)⟩ hb5
end Go.Proofs.YtanpngnpolhgbaaGreat
namespace Go.Proofs.YtanpngnpolhgbaaGreat
open Go.RowKit
open Go.Lib hiding intOf
theorem FlsO.cap {w : World} {B : Nat} {o : Option Addr} {n c : Nat} {fv : List FlV} (h : FlsO w B (.slice o n c) fv) : n ≤ c := by
 rcases h.row.2 with ⟨h1, _⟩ | ⟨g, cap, cur, h1, _, _, h2, _⟩
 ·
  injection h1 with _ h3 _
  omega
 ·
  injection h1 with _ h3 h4
  omega
theorem flightsOk_any (V : Value) (fv : List FlV) (fl : List FlD) (B : Nat) (w : World) (h : FlsO w B V fv) (hfd : fv.map (·.d) = fl) (hs : ∀ x ∈ fv, FlSmall x.d) (hn : fv.length ≤ 1048576) :
  Calls Tryz.prog 24 #[V] w fun e w' => BoolIs (FlsP fl) w e w' := by
 obtain ⟨o5, c5, rfl⟩ := h.len
 obtain ⟨n5, hn5⟩ := exq fv.length
 rw [← hn5] at h hn ⊢
 have HLF : Hid (fv.length = n5) := hn5.symm
 have HLC : Hid (fl.length = n5) := by show _ = _; rw [← hfd, List.length_map, hn5]
 have HFD : Hid (fv.map (·.d) = fl) := hfd
 have HFS : Hid (∀ x ∈ fv, FlSmall x.d) := hs
 have HFL : Hid (∀ W, Below w.heap.size w W → FlsO W B (.slice o5 n5 c5) fv) := fun W hb => h.below hb
 clear hn5 h hfd hs
 have hb0 : Below w.heap.size w w := Below.refl _ _
 go_enter Tryz.func24, Tryz.ntmps24
 by_cases hc1 : 5 < (n5 : Int)
 ·
  have Hf5 : Hid (¬ n5 ≤ 5) := (by have := hc1; show ¬ _; omega)
  go_wp2_with fail
  go_ret
  exact BoolIs.no (fun h => by have h1 := h.1; have h5 := Hf5.out; rw [HLC.out] at h1; omega) hb0
 ·
  have Hf5 : Hid (n5 ≤ 5) := (by have := hc1; show _ ≤ _; omega)
  go_wp2_with fail
  go_loopw [10] (fun i wr => ∃ i' : Nat, i' ≤ n5 ∧ i = .int .i64 (i' : Int) ∧ Hid (Below w.heap.size w (wr)) ∧ Hid (∀ m, m < i' → FlAtOk fl m)) (fun i _ => n5 - (intOf i).toNat)
  case atStart => exact ⟨0, Nat.zero_le _, rfl, hb0, fun m hm => absurd hm (by omega)⟩
  case round =>
   obtain ⟨i, hi, rfl, HW, HN⟩ := hrel
   by_cases hlt : (i : Int) < (n5 : Int)
   ·
    have hb1 := HW.out
    clear HW hb0
    obtain ⟨g5, p5, hV, _, _⟩ := (HFL.out _ hb1).look i (by rw [HLF.out]; omega)
    rw [HLF.out] at hV
    injection hV with hV1 hV2 hV3
    subst hV1 hV3
    clear hV2
    obtain ⟨dX, hdX⟩ := exq (flvAt fv i)
    have HMd : Hid (dX ∈ fv) := by show _ ∈ _; rw [hdX]; exact getD_mem0 _ fv i (by rw [HLF.out]; omega)
    have HEd : Hid (flAt fl i = dX.d) := by show _ = _; rw [hdX, ← HFD.out]; exact getD_map0 _ _ _ fv i (by rw [HLF.out]; omega)
    have HKd : Hid (∀ W, Below w.heap.size w W → FlAt W g5 i dX) := fun W hb => by
     obtain ⟨g', p', hV, _, hc⟩ := (HFL.out W hb).look i (by rw [HLF.out]; omega)
     injection hV with hV1 _ _
     cases hV1
     rw [hdX]
     exact hc
    have HRd : Hid (∀ W, Below w.heap.size w W → RowsO W B (flR dX)) := fun W hb => (HFL.out W hb).item HMd.out
    have HSd : Hid (FlSmall dX.d) := HFS.out _ HMd.out
    clear hdX
    obtain ⟨d, kuv2, kuv4, kuv6, kuv7, kuv9⟩ := dX
    obtain ⟨ku2, kuc2, hu⟩ := slice_of_owns ((HRd.out _ hb1).own (⟨150, 2, kuv2, d.qfs.length, flatF d.qfs⟩ : Rw) (by simp [flR]))
    obtain rfl : kuv2 = .slice ku2 d.qfs.length kuc2 := hu
    obtain ⟨ku4, kuc4, hu⟩ := slice_of_owns ((HRd.out _ hb1).own (⟨3, 1, kuv4, d.who.length, d.who.map (Value.int .i64)⟩ : Rw) (by simp [flR]))
    obtain rfl : kuv4 = .slice ku4 d.who.length kuc4 := hu
    obtain ⟨ku6, kuc6, hu⟩ := slice_of_owns ((HRd.out _ hb1).own (⟨9, 1, kuv6, d.oxs.length, d.oxs.map Value.string⟩ : Rw) (by simp [flR]))
    obtain rfl : kuv6 = .slice ku6 d.oxs.length kuc6 := hu
    obtain ⟨ku7, kuc7, hu⟩ := slice_of_owns ((HRd.out _ hb1).own (⟨9, 1, kuv7, d.oys.length, d.oys.map Value.string⟩ : Rw) (by simp [flR]))
    obtain rfl : kuv7 = .slice ku7 d.oys.length kuc7 := hu
    obtain ⟨ku9, kuc9, hu⟩ := slice_of_owns ((HRd.out _ hb1).own (⟨150, 2, kuv9, d.ofs.length, flatF d.ofs⟩ : Rw) (by simp [flR]))
    obtain rfl : kuv9 = .slice ku9 d.ofs.length kuc9 := hu
    have r0d := (HKd.out _ hb1).c0
    have r1d := (HKd.out _ hb1).c1
    have r2d := (HKd.out _ hb1).c2
    have r3d := (HKd.out _ hb1).c3
    have r4d := (HKd.out _ hb1).c4
    have r5d := (HKd.out _ hb1).c5
    have r6d := (HKd.out _ hb1).c6
    have r7d := (HKd.out _ hb1).c7
    have r8d := (HKd.out _ hb1).c8
    have r9d := (HKd.out _ hb1).c9
    have r10d := (HKd.out _ hb1).c10
    have r11d := (HKd.out _ hb1).c11
    have r12d := (HKd.out _ hb1).c12
    dsimp only at r0d r1d r2d r3d r4d r5d r6d r7d r8d r9d r10d r11d r12d
    have hcp := FlsO.cap (HFL.out _ hb1)
    have hic : i ≤ c5 := by omega
    have hic2 : ¬ (c5 < i) := by omega
    clear hcp
    go_upto_region 6 with fail
    obtain ⟨qv1, hqv1⟩ := exq ((wr).heap.size)
    obtain ⟨w2, hW2⟩ := exq ((wr).alloc (.cells #[.int .i64 d.qmt, .string d.qpa, .slice ku2 d.qfs.length kuc2, .string d.qbd, .slice ku4 d.who.length kuc4, .string d.opa, .slice ku6 d.oxs.length kuc6, .slice ku7 d.oys.length kuc7, .int .i64 d.ost, .slice ku9 d.ofs.length kuc9, .string d.obd, .int .i64 d.otm, .bool d.has] 67))
    have hz2 : (wr).heap.size = qv1 := hqv1.symm
    first | rw [← hW2, ← hqv1] | rw [← hW2]
    have hs2 := hsa hW2 hz2
    have bw := bal hW2
    have hb2 := hbt hb1 bw
    have HBv1_2 := hnew hW2 hz2
    clear hb1 bw hW2 hz2
    clear hs2 hqv1
    clear r0d r1d r2d r3d r4d r5d r6d r7d r8d r9d r10d r11d r12d
    go_upto_region 6 with fail
    refine wp_region_held_drew (S := fun W => W.heap[qv1]? = some (.cells #[.int .i64 d.qmt, .string d.qpa, .slice ku2 d.qfs.length kuc2, .string d.qbd, .slice ku4 d.who.length kuc4, .string d.opa, .slice ku6 d.oxs.length kuc6, .slice ku7 d.oys.length kuc7, .int .i64 d.ost, .slice ku9 d.ofs.length kuc9, .string d.obd, .int .i64 d.otm, .bool d.has] 67)) (by kernel_rfl) HBv1_2.out (fun _ => ?_)
    obtain ⟨w3, hX⟩ := exq w2.drew
    have bw := bdr hX
    rw [← hX]
    have hb3 := hbt hb2 bw
    have HBv1_3 := hblk HBv1_2 bw
    have hS3 := HBv1_3.out
    clear hb2 HBv1_2 bw hX
    refine tkL 0 (.agg #[.int .i64 d.qmt, .string d.qpa, .slice ku2 d.qfs.length kuc2, .string d.qbd, .slice ku4 d.who.length kuc4, .string d.opa, .slice ku6 d.oxs.length kuc6, .slice ku7 d.oys.length kuc7, .int .i64 d.ost, .slice ku9 d.ofs.length kuc9, .string d.obd, .int .i64 d.otm, .bool d.has]) 15 rfl rfl (Or.inl ⟨by rfl, by intro W hW; have hhv1 := hW; have y0 := (cell_of hhv1 0).trans rfl; have y1 := (cell_of hhv1 1).trans rfl; have y2 := (cell_of hhv1 2).trans rfl; have y3 := (cell_of hhv1 3).trans rfl; have y4 := (cell_of hhv1 4).trans rfl; have y5 := (cell_of hhv1 5).trans rfl; have y6 := (cell_of hhv1 6).trans rfl; have y7 := (cell_of hhv1 7).trans rfl; have y8 := (cell_of hhv1 8).trans rfl; have y9 := (cell_of hhv1 9).trans rfl; have y10 := (cell_of hhv1 10).trans rfl; have y11 := (cell_of hhv1 11).trans rfl; have y12 := (cell_of hhv1 12).trans rfl; go_simp⟩) hS3 ?_
    go_frame
    refine rd1 1 rfl (fun K hK => ?_)
    go_simp
    refine (flightOk_any d _ _ _ _ _ B _ (HRd.out _ hb3) HSd.out).mono ?_
    rintro e w4 ⟨uf, rfl, huf, bw⟩
    have hb4 := hbt hb3 bw
    have HBv1_4 := hblk HBv1_3 bw
    clear hb3 HBv1_3 bw
    have hS4 := HBv1_4.out
    refine hK.out _ _ hS4 (fun _ => ?_)
    clear hK K hS3
    cases uf with
    | false =>
     have HNuf : Hid (¬ (FlOk d)) := fun h => nomatch huf.2 h
     clear huf
     refine tkP 2 (.bool true) 17 rfl rfl hS4 ?_
     go_frame
     refine tkP 3 (.bool true) 18 rfl rfl hS4 ?_
     go_frame
     refine tkN 4 19 rfl rfl hS4 ?_
     go_frame
     refine tkN 5 20 rfl rfl hS4 ?_
     go_frame
     refine tkN 6 21 rfl rfl hS4 ?_
     go_frame
     refine tkN 7 22 rfl rfl hS4 ?_
     go_frame
     refine tkN 8 23 rfl rfl hS4 ?_
     go_frame
     refine tkN 9 24 rfl rfl hS4 ?_
     go_frame
     refine tkN 10 25 rfl rfl hS4 ?_
     go_frame
     refine tkP 11 (.bool true) 26 rfl rfl hS4 ?_
     go_frame
     clear hS4
     refine wpAnyH_done (by kernel_rfl) ?_ _
     go_wp2_with fail
     go_ret
     exact BoolIs.no (fun h => by have hk := h.2 i (by rw [HLC.out]; omega); unfold FlAtOk at hk; rw [HEd.out] at hk; exact HNuf.out hk.1) hb4
    | true =>
     have HYuf : Hid (FlOk d) := huf.1 rfl
     clear huf
     refine tkP 2 (.bool false) 17 rfl rfl hS4 ?_
     go_frame
     refine tkP 3 (.bool false) 18 rfl rfl hS4 ?_
     go_frame
     refine tkP 4 (.slice (some ⟨g5, 0, none⟩) n5 c5) 19 rfl rfl hS4 ?_
     go_frame
     refine tkP 5 (.int .i64 (i : Int)) 20 rfl rfl hS4 ?_
     go_frame
     refine tkP 6 (.slice (some ⟨g5, 0, none⟩) i c5) 21 rfl rfl hS4 ?_
     go_frame
     refine tkP 7 (.pointer (some ⟨qv1, 0, none⟩)) 22 rfl rfl hS4 ?_
     go_frame
     refine tkL 8 (.agg #[.int .i64 d.qmt, .string d.qpa, .slice ku2 d.qfs.length kuc2, .string d.qbd]) 23 rfl rfl (Or.inl ⟨by rfl, by intro W hW; have hhv1 := hW; have y0 := (cell_of hhv1 0).trans rfl; have y1 := (cell_of hhv1 1).trans rfl; have y2 := (cell_of hhv1 2).trans rfl; have y3 := (cell_of hhv1 3).trans rfl; go_simp⟩) hS4 ?_
     go_frame
     refine rd1 9 rfl (fun K hK => ?_)
     go_simp
     refine (alikePlace_any (.slice (some ⟨g5, 0, none⟩) n5 c5) fv fl _ i c5 d _ _ _ _ _ B B _ ⟨c5, by rw [HLF.out]⟩ (HFL.out _ hb4) HFD.out HFS.out (by rw [HLF.out]; omega) (by omega) (HRd.out _ hb4) HSd.out).mono ?_
     rintro e w5 ⟨rp, rfl, hrp, bw⟩
     have HRP : Hid (0 ≤ rp ↔ ∃ k, k < i ∧ AlikeF (flAt fl k) d) := hrp
     clear hrp
     have hb5 := hbt hb4 bw
     have HBv1_5 := hblk HBv1_4 bw
     clear hb4 HBv1_4 bw
     have hS5 := HBv1_5.out
     refine hK.out _ _ hS5 (fun _ => ?_)
     clear hK K hS4
     by_cases hc2 : 0 ≤ rp
     ·
      have HAL : Hid (0 ≤ rp) := hc2
      refine tkP 10 (.bool true) 25 rfl rfl hS5 ?_
      go_frame
      refine tkP 11 (.bool true) 26 rfl rfl hS5 ?_
      go_frame
      clear hS5
      refine wpAnyH_done (by kernel_rfl) ?_ _
      go_wp2_with fail
      go_ret
      exact BoolIs.no (fun h => by have hk := h.2 i (by rw [HLC.out]; omega); unfold FlAtOk at hk; rw [HEd.out] at hk; obtain ⟨k, hk2, hA⟩ := HRP.out.1 HAL.out; exact hk.2 k hk2 hA) hb5
     ·
      have HAL : Hid (¬ (0 ≤ rp)) := hc2
      refine tkP 10 (.bool false) 25 rfl rfl hS5 ?_
      go_frame
      refine tkP 11 (.bool false) 26 rfl rfl hS5 ?_
      go_frame
      clear hS5
      refine wpAnyH_done (by kernel_rfl) ?_ _
      have HN2 : Hid (∀ m, m < i + 1 → FlAtOk fl m) := fun m hm => by
       by_cases e : m = i
       ·
        subst e
        unfold FlAtOk
        rw [HEd.out]
        exact ⟨HYuf.out, fun k hk hA => HAL.out (HRP.out.2 ⟨k, hk, hA⟩)⟩
       · exact HN.out m (by omega)
      go_wp2_with fail
      go_roundw
      case rel => exact ⟨i + 1, by omega, by go_num, hb5, HN2⟩
      case measure => simp [intOf]; omega
   ·
    have hb1 := HW.out
    clear HW hb0
    have HFA : Hid (∀ m, m < fl.length → FlAtOk fl m) := fun m hm => HN.out m (by rw [HLC.out] at hm; omega)
    clear HN
    go_wp2_with fail
    go_ret
    exact BoolIs.yes ⟨by rw [HLC.out]; exact Hf5.out, HFA.out⟩ hb1
theorem implCacheOk_any (v1 v2 V VB F E R : Value) (kv : List (KpD × Value × Value × Value)) (fv : List FlV) (ev : List SeV) (rv : List RpV) (c : CaD) (B : Nat) (w : World) (h : CacheO w B v1 v2 V VB F E R kv fv ev rv c) (hz : CaSmall c) :
  Calls Tryz.prog 7 #[.agg #[v1, v2, V, VB, .int .i64 c.s.nx, .int .i64 c.s.sq, F, .int .i64 c.now, E, R]] w fun e w' => BoolIs (CacheP c) w e w' := by
 obtain ⟨o1, c1, rfl⟩ := slice_of_owns h.shelf.disk.cells
 obtain ⟨o2, c2, rfl⟩ := slice_of_owns h.shelf.disk.pend
 obtain ⟨o3, c3, rfl⟩ := h.shelf.kept.len
 obtain ⟨o4, c4, rfl⟩ := slice_of_owns h.shelf.bans
 obtain ⟨o5, c5, rfl⟩ := h.fls.len
 obtain ⟨o6, c6, rfl⟩ := h.ses.len
 obtain ⟨o7, c7, rfl⟩ := h.rps.len
 obtain ⟨n5, hn5⟩ := exq fv.length
 obtain ⟨n6, hn6⟩ := exq ev.length
 obtain ⟨n7, hn7⟩ := exq rv.length
 rw [← hn5, ← hn6, ← hn7] at h ⊢
 have HLF : Hid (fv.length = n5) := hn5.symm
 have HLC : Hid (c.fl.length = n5 ∧ c.se.length = n6 ∧ c.sn.length = n7) := ⟨by rw [← h.hf, List.length_map, hn5], by rw [← h.he, List.length_map, hn6], by rw [← h.hr, List.length_map, hn7]⟩
 have HFD : Hid (fv.map (·.d) = c.fl) := h.hf
 have HZ : Hid (CaSmall c) := hz
 have bn5 : n5 ≤ 1048576 := by rw [← HLC.out.1]; exact hz.nf
 have bn6 : n6 ≤ 1048576 := by rw [← HLC.out.2.1]; exact hz.ne
 have bn7 : n7 ≤ 1048576 := by rw [← HLC.out.2.2]; exact hz.nr
 have HCA : Hid (∀ W, Below w.heap.size w W → CacheO W B (.slice o1 c.s.cs.length c1) (.slice o2 c.s.ws.length c2) (.slice o3 kv.length c3) (.slice o4 c.s.bl.length c4) (.slice o5 n5 c5) (.slice o6 n6 c6) (.slice o7 n7 c7) kv fv ev rv c) := fun W hb => h.below hb
 clear hn5 hn6 hn7 h hz
 have HFL : Hid (∀ W, Below w.heap.size w W → FlsO W B (.slice o5 n5 c5) fv) := fun W hb => (HCA.out W hb).fls
 have HFS : Hid (∀ x ∈ fv, FlSmall x.d) := fun x hx => HZ.out.fl _ (by rw [← HFD.out]; exact List.mem_map.2 ⟨x, hx, rfl⟩)
 have hb0 : Below w.heap.size w w := Below.refl _ _
 go_enter Tryz.func7, Tryz.ntmps7
 go_upto_region 1 with fail
 obtain ⟨qv1, hqv1⟩ := exq ((w).heap.size)
 obtain ⟨w1, hW1⟩ := exq ((w).alloc (.cells #[.slice o1 c.s.cs.length c1, .slice o2 c.s.ws.length c2, .slice o3 kv.length c3, .slice o4 c.s.bl.length c4, .int .i64 c.s.nx, .int .i64 c.s.sq, .slice o5 n5 c5, .int .i64 c.now, .slice o6 n6 c6, .slice o7 n7 c7] 48))
 have hz1 : (w).heap.size = qv1 := hqv1.symm
 first | rw [← hW1, ← hqv1] | rw [← hW1]
 have hs1 := hsa hW1 hz1
 have bw := bal hW1
 have hb1 := hbt hb0 bw
 have HBv1_1 := hnew hW1 hz1
 clear hb0 bw hW1 hz1
 clear hs1 hqv1
 have cv1_0 := (k10c HBv1_1).1
 have cv1_1 := (k10c HBv1_1).2.1
 have cv1_2 := (k10c HBv1_1).2.2.1
 have cv1_3 := (k10c HBv1_1).2.2.2.1
 have cv1_4 := (k10c HBv1_1).2.2.2.2.1
 have cv1_5 := (k10c HBv1_1).2.2.2.2.2.1
 go_wp2_with fail
 refine (implShelfOk_any _ _ _ _ kv c.s B _ (HCA.out _ hb1).shelf HZ.out.s).mono ?_
 rintro e w2 ⟨us, rfl, hus, bw⟩
 have hb2 := hbt hb1 bw
 have HBv1_2 := hblk HBv1_1 bw
 clear hb1 HBv1_1 bw
 clear cv1_0 cv1_1 cv1_2 cv1_3 cv1_4 cv1_5
 cases us with
 | false =>
  have HNus : Hid (¬ (ShelfP c.s)) := fun h => nomatch hus.2 h
  clear hus
  go_wp2_with fail
  go_ret
  exact BoolIs.no (fun h => HNus.out h.1) hb2
 | true =>
  have HYus : Hid (ShelfP c.s) := hus.1 rfl
  clear hus
  have cv1_7 := (k10c HBv1_2).2.2.2.2.2.2.2.1
  go_wp2_with fail
  refine (timeOk_any c.now _).mono ?_
  rintro e w3 ⟨rfl, hwe⟩
  have bw : Below (w2).heap.size (w2) w3 := by rw [hwe]; exact Below.refl _ _
  clear hwe
  obtain ⟨un, hun⟩ : ∃ u, u = decide ((0 : Int) ≤ c.now ∧ c.now ≤ 1000000) := ⟨_, rfl⟩
  rw [← hun]
  have hb3 := hbt hb2 bw
  have HBv1_3 := hblk HBv1_2 bw
  clear hb2 HBv1_2 bw
  clear cv1_7
  cases un with
  | false =>
   have HNun : Hid (¬ ((0 : Int) ≤ c.now ∧ c.now ≤ 1000000)) := (show ¬ ((0 : Int) ≤ c.now ∧ c.now ≤ 1000000) from of_decide_eq_false hun.symm)
   clear hun
   go_wp2_with fail
   go_ret
   exact BoolIs.no (fun h => HNun.out h.2.1) hb3
  | true =>
   have HYun : Hid ((0 : Int) ≤ c.now ∧ c.now ≤ 1000000) := (show ((0 : Int) ≤ c.now ∧ c.now ≤ 1000000) from of_decide_eq_true hun.symm)
   clear hun
   have cv1_6 := (k10c HBv1_3).2.2.2.2.2.2.1
   go_wp2_with fail
   refine (flightsOk_any _ fv c.fl B _ (HFL.out _ hb3) HFD.out HFS.out (by rw [HLF.out]; omega)).mono ?_
   rintro e w4 ⟨uf, rfl, huf, bw⟩
   have hb4 := hbt hb3 bw
   have HBv1_4 := hblk HBv1_3 bw
   clear hb3 HBv1_3 bw
   clear cv1_6
   cases uf with
   | false =>
    have HNuf : Hid (¬ (FlsP c.fl)) := fun h => nomatch huf.2 h
    clear huf
    go_wp2_with fail
    go_ret
    exact BoolIs.no (fun h => HNuf.out h.2.2.1) hb4
   | true =>
    have HYuf : Hid (FlsP c.fl) := huf.1 rfl
    clear huf
    by_cases hc1 : (n6 : Int) ≤ 1500
    ·
     have hde5 : decide ((n6 : Int) ≤ 1500) = true := decide_eq_true hc1
     have He5 : Hid (n6 ≤ 1500) := (by have := hc1; show _ ≤ _; omega)
     have cv1_8 := (k10c HBv1_4).2.2.2.2.2.2.2.2.1
     have cv1_9 := (k10c HBv1_4).2.2.2.2.2.2.2.2.2
     by_cases hc2 : (n7 : Int) ≤ 1500
     ·
      have hdr5 : decide ((n7 : Int) ≤ 1500) = true := decide_eq_true hc2
      have Hr5 : Hid (n7 ≤ 1500) := (by have := hc2; show _ ≤ _; omega)
      go_wp2_with fail
      go_ret
      exact BoolIs.yes ⟨HYus.out, HYun.out, HYuf.out, by rw [HLC.out.2.1]; exact He5.out, by rw [HLC.out.2.2]; exact Hr5.out⟩ hb4
     ·
      have hdr5 : decide ((n7 : Int) ≤ 1500) = false := decide_eq_false hc2
      have Hr5 : Hid (¬ n7 ≤ 1500) := (by have := hc2; show ¬ _; omega)
      go_wp2_with fail
      go_ret
      exact BoolIs.no (fun h => by have h1 := h.2.2.2.2; have h5 := Hr5.out; rw [HLC.out.2.2] at h1; omega) hb4
    ·
     have hde5 : decide ((n6 : Int) ≤ 1500) = false := decide_eq_false hc1
     have He5 : Hid (¬ n6 ≤ 1500) := (by have := hc1; show ¬ _; omega)
     have cv1_8 := (k10c HBv1_4).2.2.2.2.2.2.2.2.1
     go_wp2_with fail
     go_ret
     exact BoolIs.no (fun h => by have h1 := h.2.2.2.1; have h5 := He5.out; rw [HLC.out.2.1] at h1; omega) hb4
end Go.Proofs.YtanpngnpolhgbaaGreat
namespace Go.Proofs.YtanpngnpolhgbaaGreat
open Go.RowKit
open Go.Lib hiding intOf
theorem specCacheOk_any (v1 v2 V VB F E R : Value) (kv : List (KpD × Value × Value × Value)) (fv : List FlV) (ev : List SeV) (rv : List RpV) (c : CaD) (B : Nat) (w : World) (h : CacheO w B v1 v2 V VB F E R kv fv ev rv c) (hz : CaSmall c) :
  Calls Tryz.prog 5 #[.agg #[v1, v2, V, VB, .int .i64 c.s.nx, .int .i64 c.s.sq, F, .int .i64 c.now, E, R]] w fun e w' => BoolIs (CacheP c) w e w' := by
 obtain ⟨o1, c1, rfl⟩ := slice_of_owns h.shelf.disk.cells
 obtain ⟨o2, c2, rfl⟩ := slice_of_owns h.shelf.disk.pend
 obtain ⟨o3, c3, rfl⟩ := h.shelf.kept.len
 obtain ⟨o4, c4, rfl⟩ := slice_of_owns h.shelf.bans
 obtain ⟨o5, c5, rfl⟩ := h.fls.len
 obtain ⟨o6, c6, rfl⟩ := h.ses.len
 obtain ⟨o7, c7, rfl⟩ := h.rps.len
 obtain ⟨n5, hn5⟩ := exq fv.length
 obtain ⟨n6, hn6⟩ := exq ev.length
 obtain ⟨n7, hn7⟩ := exq rv.length
 rw [← hn5, ← hn6, ← hn7] at h ⊢
 have HLF : Hid (fv.length = n5) := hn5.symm
 have HLC : Hid (c.fl.length = n5 ∧ c.se.length = n6 ∧ c.sn.length = n7) := ⟨by rw [← h.hf, List.length_map, hn5], by rw [← h.he, List.length_map, hn6], by rw [← h.hr, List.length_map, hn7]⟩
 have HFD : Hid (fv.map (·.d) = c.fl) := h.hf
 have HZ : Hid (CaSmall c) := hz
 have bn5 : n5 ≤ 1048576 := by rw [← HLC.out.1]; exact hz.nf
 have bn6 : n6 ≤ 1048576 := by rw [← HLC.out.2.1]; exact hz.ne
 have bn7 : n7 ≤ 1048576 := by rw [← HLC.out.2.2]; exact hz.nr
 have HCA : Hid (∀ W, Below w.heap.size w W → CacheO W B (.slice o1 c.s.cs.length c1) (.slice o2 c.s.ws.length c2) (.slice o3 kv.length c3) (.slice o4 c.s.bl.length c4) (.slice o5 n5 c5) (.slice o6 n6 c6) (.slice o7 n7 c7) kv fv ev rv c) := fun W hb => h.below hb
 clear hn5 hn6 hn7 h hz
 have HFL : Hid (∀ W, Below w.heap.size w W → FlsO W B (.slice o5 n5 c5) fv) := fun W hb => (HCA.out W hb).fls
 have HFS : Hid (∀ x ∈ fv, FlSmall x.d) := fun x hx => HZ.out.fl _ (by rw [← HFD.out]; exact List.mem_map.2 ⟨x, hx, rfl⟩)
 have hb0 : Below w.heap.size w w := Below.refl _ _
 go_enter Tryz.func5, Tryz.ntmps5
 go_upto_region 1 with fail
 obtain ⟨qv1, hqv1⟩ := exq ((w).heap.size)
 obtain ⟨w1, hW1⟩ := exq ((w).alloc (.cells #[.slice o1 c.s.cs.length c1, .slice o2 c.s.ws.length c2, .slice o3 kv.length c3, .slice o4 c.s.bl.length c4, .int .i64 c.s.nx, .int .i64 c.s.sq, .slice o5 n5 c5, .int .i64 c.now, .slice o6 n6 c6, .slice o7 n7 c7] 48))
 have hz1 : (w).heap.size = qv1 := hqv1.symm
 first | rw [← hW1, ← hqv1] | rw [← hW1]
 have hs1 := hsa hW1 hz1
 have bw := bal hW1
 have hb1 := hbt hb0 bw
 have HBv1_1 := hnew hW1 hz1
 clear hb0 bw hW1 hz1
 clear hs1 hqv1
 have cv1_0 := (k10c HBv1_1).1
 have cv1_1 := (k10c HBv1_1).2.1
 have cv1_2 := (k10c HBv1_1).2.2.1
 have cv1_3 := (k10c HBv1_1).2.2.2.1
 have cv1_4 := (k10c HBv1_1).2.2.2.2.1
 have cv1_5 := (k10c HBv1_1).2.2.2.2.2.1
 go_wp2_with fail
 refine (specShelfOk_any _ _ _ _ kv c.s B _ (HCA.out _ hb1).shelf HZ.out.s).mono ?_
 rintro e w2 ⟨us, rfl, hus, bw⟩
 have hb2 := hbt hb1 bw
 have HBv1_2 := hblk HBv1_1 bw
 clear hb1 HBv1_1 bw
 clear cv1_0 cv1_1 cv1_2 cv1_3 cv1_4 cv1_5
 cases us with
 | false =>
  have HNus : Hid (¬ (ShelfP c.s)) := fun h => nomatch hus.2 h
  clear hus
  go_wp2_with fail
  go_ret
  exact BoolIs.no (fun h => HNus.out h.1) hb2
 | true =>
  have HYus : Hid (ShelfP c.s) := hus.1 rfl
  clear hus
  have cv1_7 := (k10c HBv1_2).2.2.2.2.2.2.2.1
  go_wp2_with fail
  refine (l1In_any c.now 0 1000000 _).mono ?_
  rintro e w3 ⟨rfl, hwe⟩
  have bw : Below (w2).heap.size (w2) w3 := by rw [hwe]; exact Below.refl _ _
  clear hwe
  obtain ⟨un, hun⟩ : ∃ u, u = decide ((0 : Int) ≤ c.now ∧ c.now ≤ 1000000) := ⟨_, rfl⟩
  rw [← hun]
  have hb3 := hbt hb2 bw
  have HBv1_3 := hblk HBv1_2 bw
  clear hb2 HBv1_2 bw
  clear cv1_7
  cases un with
  | false =>
   have HNun : Hid (¬ (0 ≤ c.now ∧ c.now ≤ 1000000)) := (show ¬ (0 ≤ c.now ∧ c.now ≤ 1000000) from of_decide_eq_false hun.symm)
   clear hun
   go_wp2_with fail
   go_ret
   exact BoolIs.no (fun h => HNun.out h.2.1) hb3
  | true =>
   have HYun : Hid (0 ≤ c.now ∧ c.now ≤ 1000000) := (show (0 ≤ c.now ∧ c.now ≤ 1000000) from of_decide_eq_true hun.symm)
   clear hun
   by_cases hc1 : 5 < (n5 : Int)
   ·
    have Hf5 : Hid (¬ n5 ≤ 5) := (by have := hc1; show ¬ _; omega)
    have cv1_6 := (k10c HBv1_3).2.2.2.2.2.2.1
    go_wp2_with fail
    go_ret
    exact BoolIs.no (fun h => by have h1 := h.2.2.1.1; have h5 := Hf5.out; rw [HLC.out.1] at h1; omega) hb3
   ·
    have Hf5 : Hid (n5 ≤ 5) := (by have := hc1; show _ ≤ _; omega)
    by_cases hc2 : 1500 < (n6 : Int)
    ·
     have He5 : Hid (¬ n6 ≤ 1500) := (by have := hc2; show ¬ _; omega)
     have cv1_6 := (k10c HBv1_3).2.2.2.2.2.2.1
     have cv1_8 := (k10c HBv1_3).2.2.2.2.2.2.2.2.1
     go_wp2_with fail
     go_ret
     exact BoolIs.no (fun h => by have h1 := h.2.2.2.1; have h5 := He5.out; rw [HLC.out.2.1] at h1; omega) hb3
    ·
     have He5 : Hid (n6 ≤ 1500) := (by have := hc2; show _ ≤ _; omega)
     have cv1_6 := (k10c HBv1_3).2.2.2.2.2.2.1
     have cv1_8 := (k10c HBv1_3).2.2.2.2.2.2.2.2.1
     have cv1_9 := (k10c HBv1_3).2.2.2.2.2.2.2.2.2
     by_cases hc3 : 1500 < (n7 : Int)
     ·
      have Hr5 : Hid (¬ n7 ≤ 1500) := (by have := hc3; show ¬ _; omega)
      go_wp2_with fail
      go_ret
      exact BoolIs.no (fun h => by have h1 := h.2.2.2.2; have h5 := Hr5.out; rw [HLC.out.2.2] at h1; omega) hb3
     ·
      have Hr5 : Hid (n7 ≤ 1500) := (by have := hc3; show _ ≤ _; omega)
      go_wp2_with fail
      clear cv1_6 cv1_8 cv1_9
      obtain ⟨wA, hwA⟩ := exq w3
      rw [← hwA] at hb3 HBv1_3 ⊢
      clear hwA
      go_loopw [3] (fun i wr => ∃ i' : Nat, i' ≤ n5 ∧ i = .int .i64 (i' : Int) ∧ Hid (Below w.heap.size w (wr) ∧ (wr).heap[qv1]? = some (.cells #[.slice o1 c.s.cs.length c1, .slice o2 c.s.ws.length c2, .slice o3 kv.length c3, .slice o4 c.s.bl.length c4, .int .i64 c.s.nx, .int .i64 c.s.sq, .slice o5 n5 c5, .int .i64 c.now, .slice o6 n6 c6, .slice o7 n7 c7] 48)) ∧ Hid (∀ m, m < i' → FlAtOk c.fl m)) (fun i _ => n5 - (intOf i).toNat)
      case atStart => exact ⟨0, Nat.zero_le _, rfl, ⟨hb3, HBv1_3.out⟩, fun m hm => absurd hm (by omega)⟩
      case round =>
       obtain ⟨i, hi, rfl, HW, HN⟩ := hrel
       by_cases hlt : (i : Int) < (n5 : Int)
       ·
        have hb4 := HW.out.1
        have HBv1_4 : Hid ((wr).heap[qv1]? = some (.cells #[.slice o1 c.s.cs.length c1, .slice o2 c.s.ws.length c2, .slice o3 kv.length c3, .slice o4 c.s.bl.length c4, .int .i64 c.s.nx, .int .i64 c.s.sq, .slice o5 n5 c5, .int .i64 c.now, .slice o6 n6 c6, .slice o7 n7 c7] 48)) := HW.out.2
        clear HW hb3 HBv1_3
        obtain ⟨g5, p5, hV, _, _⟩ := (HFL.out _ hb4).look i (by rw [HLF.out]; omega)
        rw [HLF.out] at hV
        injection hV with hV1 hV2 hV3
        subst hV1 hV3
        clear hV2
        obtain ⟨dX, hdX⟩ := exq (flvAt fv i)
        have HMd : Hid (dX ∈ fv) := by show _ ∈ _; rw [hdX]; exact getD_mem0 _ fv i (by rw [HLF.out]; omega)
        have HEd : Hid (flAt c.fl i = dX.d) := by show _ = _; rw [hdX, ← HFD.out]; exact getD_map0 _ _ _ fv i (by rw [HLF.out]; omega)
        have HKd : Hid (∀ W, Below w.heap.size w W → FlAt W g5 i dX) := fun W hb => by
         obtain ⟨g', p', hV, _, hc⟩ := (HFL.out W hb).look i (by rw [HLF.out]; omega)
         injection hV with hV1 _ _
         cases hV1
         rw [hdX]
         exact hc
        have HRd : Hid (∀ W, Below w.heap.size w W → RowsO W B (flR dX)) := fun W hb => (HFL.out W hb).item HMd.out
        have HSd : Hid (FlSmall dX.d) := HFS.out _ HMd.out
        clear hdX
        obtain ⟨d, kuv2, kuv4, kuv6, kuv7, kuv9⟩ := dX
        obtain ⟨ku2, kuc2, hu⟩ := slice_of_owns ((HRd.out _ hb4).own (⟨150, 2, kuv2, d.qfs.length, flatF d.qfs⟩ : Rw) (by simp [flR]))
        obtain rfl : kuv2 = .slice ku2 d.qfs.length kuc2 := hu
        obtain ⟨ku4, kuc4, hu⟩ := slice_of_owns ((HRd.out _ hb4).own (⟨3, 1, kuv4, d.who.length, d.who.map (Value.int .i64)⟩ : Rw) (by simp [flR]))
        obtain rfl : kuv4 = .slice ku4 d.who.length kuc4 := hu
        obtain ⟨ku6, kuc6, hu⟩ := slice_of_owns ((HRd.out _ hb4).own (⟨9, 1, kuv6, d.oxs.length, d.oxs.map Value.string⟩ : Rw) (by simp [flR]))
        obtain rfl : kuv6 = .slice ku6 d.oxs.length kuc6 := hu
        obtain ⟨ku7, kuc7, hu⟩ := slice_of_owns ((HRd.out _ hb4).own (⟨9, 1, kuv7, d.oys.length, d.oys.map Value.string⟩ : Rw) (by simp [flR]))
        obtain rfl : kuv7 = .slice ku7 d.oys.length kuc7 := hu
        obtain ⟨ku9, kuc9, hu⟩ := slice_of_owns ((HRd.out _ hb4).own (⟨150, 2, kuv9, d.ofs.length, flatF d.ofs⟩ : Rw) (by simp [flR]))
        obtain rfl : kuv9 = .slice ku9 d.ofs.length kuc9 := hu
        have r0d := (HKd.out _ hb4).c0
        have r1d := (HKd.out _ hb4).c1
        have r2d := (HKd.out _ hb4).c2
        have r3d := (HKd.out _ hb4).c3
        have r4d := (HKd.out _ hb4).c4
        have r5d := (HKd.out _ hb4).c5
        have r6d := (HKd.out _ hb4).c6
        have r7d := (HKd.out _ hb4).c7
        have r8d := (HKd.out _ hb4).c8
        have r9d := (HKd.out _ hb4).c9
        have r10d := (HKd.out _ hb4).c10
        have r11d := (HKd.out _ hb4).c11
        have r12d := (HKd.out _ hb4).c12
        dsimp only at r0d r1d r2d r3d r4d r5d r6d r7d r8d r9d r10d r11d r12d
        obtain ⟨hs, hhhs⟩ := exq d.has
        rw [← hhhs] at r12d
        have HHhs : Hid (hs = d.has) := hhhs
        clear hhhs
        have cv1_6 := (k10c HBv1_4).2.2.2.2.2.2.1
        go_upto_region 7 with fail
        obtain ⟨qv2, hqv2⟩ := exq ((wr).heap.size)
        obtain ⟨w5, hW5⟩ := exq ((wr).alloc (.cells #[.int .i64 d.qmt, .string d.qpa, .slice ku2 d.qfs.length kuc2, .string d.qbd, .slice ku4 d.who.length kuc4, .string d.opa, .slice ku6 d.oxs.length kuc6, .slice ku7 d.oys.length kuc7, .int .i64 d.ost, .slice ku9 d.ofs.length kuc9, .string d.obd, .int .i64 d.otm, .bool hs] 67))
        have hz5 : (wr).heap.size = qv2 := hqv2.symm
        first | rw [← hW5, ← hqv2] | rw [← hW5]
        have hs5 := hsa hW5 hz5
        have bw := bal hW5
        have hb5 := hbt hb4 bw
        have HBv1_5 := hblk HBv1_4 bw
        have HBv2_5 := hnew hW5 hz5
        clear hb4 HBv1_4 bw hW5 hz5
        clear hs5 hqv2
        clear r0d r1d r2d r3d r4d r5d r6d r7d r8d r9d r10d r11d r12d cv1_6
        have cv2_0 : (w5).cell? ⟨qv2, 0, none⟩ = some (.int .i64 d.qmt) := (cell_of HBv2_5.out 0).trans rfl
        have cv2_1 : (w5).cell? ⟨qv2, 1, none⟩ = some (.string d.qpa) := (cell_of HBv2_5.out 1).trans rfl
        have cv2_2 : (w5).cell? ⟨qv2, 2, none⟩ = some (.slice ku2 d.qfs.length kuc2) := (cell_of HBv2_5.out 2).trans rfl
        have cv2_3 : (w5).cell? ⟨qv2, 3, none⟩ = some (.string d.qbd) := (cell_of HBv2_5.out 3).trans rfl
        go_wp2_with fail
        refine (specReqOk_f d _ _ _ _ _ B _ (HRd.out _ hb5) HSd.out).mono ?_
        rintro e w6 ⟨ur, rfl, hur, bw⟩
        have hb6 := hbt hb5 bw
        have HBv1_6 := hblk HBv1_5 bw
        have HBv2_6 := hblk HBv2_5 bw
        clear hb5 HBv1_5 HBv2_5 bw
        clear cv2_0 cv2_1 cv2_2 cv2_3
        cases ur with
        | false =>
         have HNur : Hid (¬ (ReqF d)) := fun h => nomatch hur.2 h
         clear hur
         go_wp2_with fail
         go_ret
         exact BoolIs.no (fun h => by have hk := h.2.2.1.2 i (by rw [HLC.out.1]; omega); unfold FlAtOk at hk; rw [HEd.out] at hk; exact HNur.out hk.1.1) hb6
        | true =>
         have HYur : Hid (ReqF d) := hur.1 rfl
         clear hur
         have cv2_4 : (w6).cell? ⟨qv2, 4, none⟩ = some (.slice ku4 d.who.length kuc4) := (cell_of HBv2_6.out 4).trans rfl
         go_wp2_with fail
         refine (l1In_any (d.who.length : Int) 1 5 _).mono ?_
         rintro e w7 ⟨rfl, hwe⟩
         have bw : Below (w6).heap.size (w6) w7 := by rw [hwe]; exact Below.refl _ _
         clear hwe
         obtain ⟨uw, huw⟩ : ∃ u, u = decide ((1 : Int) ≤ (d.who.length : Int) ∧ (d.who.length : Int) ≤ 5) := ⟨_, rfl⟩
         rw [← huw]
         have hb7 := hbt hb6 bw
         have HBv1_7 := hblk HBv1_6 bw
         have HBv2_7 := hblk HBv2_6 bw
         clear hb6 HBv1_6 HBv2_6 bw
         clear cv2_4
         cases uw with
         | false =>
          have HNuw : Hid (¬ (1 ≤ (d.who.length : Int) ∧ (d.who.length : Int) ≤ 5)) := (show ¬ (1 ≤ (d.who.length : Int) ∧ (d.who.length : Int) ≤ 5) from of_decide_eq_false huw.symm)
          clear huw
          go_wp2_with fail
          go_ret
          exact BoolIs.no (fun h => by have hk := h.2.2.1.2 i (by rw [HLC.out.1]; omega); unfold FlAtOk at hk; rw [HEd.out] at hk; exact HNuw.out hk.1.2.1) hb7
         | true =>
          have HYuw : Hid (1 ≤ (d.who.length : Int) ∧ (d.who.length : Int) ≤ 5) := (show (1 ≤ (d.who.length : Int) ∧ (d.who.length : Int) ≤ 5) from of_decide_eq_true huw.symm)
          clear huw
          cases hs with
          | false =>
           have cv2_12 : (w7).cell? ⟨qv2, 12, none⟩ = some (.bool false) := (cell_of HBv2_7.out 12).trans rfl
           go_wp2_with fail
           clear cv2_12
           have HOB : Hid (d.has = true → ObjF d) := fun h => by have e := HHhs.out; rw [h] at e; cases e
           obtain ⟨wB, hwB⟩ := exq w7
           rw [← hwB] at hb7 HBv1_7 HBv2_7 ⊢
           clear hwB
           go_loopw [5] (fun i0 wr => ∃ j : Nat, j ≤ i ∧ i0 = .int .i64 (j : Int) ∧ Hid (Below w.heap.size w (wr) ∧ (wr).heap[qv1]? = some (.cells #[.slice o1 c.s.cs.length c1, .slice o2 c.s.ws.length c2, .slice o3 kv.length c3, .slice o4 c.s.bl.length c4, .int .i64 c.s.nx, .int .i64 c.s.sq, .slice (some ⟨g5, 0, none⟩) n5 c5, .int .i64 c.now, .slice o6 n6 c6, .slice o7 n7 c7] 48) ∧ (wr).heap[qv2]? = some (.cells #[.int .i64 d.qmt, .string d.qpa, .slice ku2 d.qfs.length kuc2, .string d.qbd, .slice ku4 d.who.length kuc4, .string d.opa, .slice ku6 d.oxs.length kuc6, .slice ku7 d.oys.length kuc7, .int .i64 d.ost, .slice ku9 d.ofs.length kuc9, .string d.obd, .int .i64 d.otm, .bool false] 67)) ∧ Hid (∀ m, m < j → ¬ AlikeF (flAt c.fl m) d)) (fun i0 _ => i - (intOf i0).toNat)
           case atStart => exact ⟨0, Nat.zero_le _, rfl, ⟨hb7, HBv1_7.out, HBv2_7.out⟩, fun m hm => absurd hm (by omega)⟩
           case round =>
            obtain ⟨j, hj, rfl, HW, HJ⟩ := hrel
            by_cases hlj : (j : Int) < (i : Int)
            ·
             have hb8 := HW.out.1
             have HBv1_8 : Hid ((wr).heap[qv1]? = some (.cells #[.slice o1 c.s.cs.length c1, .slice o2 c.s.ws.length c2, .slice o3 kv.length c3, .slice o4 c.s.bl.length c4, .int .i64 c.s.nx, .int .i64 c.s.sq, .slice (some ⟨g5, 0, none⟩) n5 c5, .int .i64 c.now, .slice o6 n6 c6, .slice o7 n7 c7] 48)) := HW.out.2.1
             have HBv2_8 : Hid ((wr).heap[qv2]? = some (.cells #[.int .i64 d.qmt, .string d.qpa, .slice ku2 d.qfs.length kuc2, .string d.qbd, .slice ku4 d.who.length kuc4, .string d.opa, .slice ku6 d.oxs.length kuc6, .slice ku7 d.oys.length kuc7, .int .i64 d.ost, .slice ku9 d.ofs.length kuc9, .string d.obd, .int .i64 d.otm, .bool false] 67)) := HW.out.2.2
             clear HW hb7 HBv1_7 HBv2_7
             obtain ⟨zX, hzX⟩ := exq (flvAt fv j)
             have HMz : Hid (zX ∈ fv) := by show _ ∈ _; rw [hzX]; exact getD_mem0 _ fv j (by rw [HLF.out]; omega)
             have HEz : Hid (flAt c.fl j = zX.d) := by show _ = _; rw [hzX, ← HFD.out]; exact getD_map0 _ _ _ fv j (by rw [HLF.out]; omega)
             have HKz : Hid (∀ W, Below w.heap.size w W → FlAt W g5 j zX) := fun W hb => by
              obtain ⟨g', p', hV, _, hc⟩ := (HFL.out W hb).look j (by rw [HLF.out]; omega)
              injection hV with hV1 _ _
              cases hV1
              rw [hzX]
              exact hc
             have HRz : Hid (∀ W, Below w.heap.size w W → RowsO W B (flR zX)) := fun W hb => (HFL.out W hb).item HMz.out
             have HSz : Hid (FlSmall zX.d) := HFS.out _ HMz.out
             clear hzX
             obtain ⟨z, kzv2, kzv4, kzv6, kzv7, kzv9⟩ := zX
             obtain ⟨kz2, kzc2, hu⟩ := slice_of_owns ((HRz.out _ hb8).own (⟨150, 2, kzv2, z.qfs.length, flatF z.qfs⟩ : Rw) (by simp [flR]))
             obtain rfl : kzv2 = .slice kz2 z.qfs.length kzc2 := hu
             obtain ⟨kz4, kzc4, hu⟩ := slice_of_owns ((HRz.out _ hb8).own (⟨3, 1, kzv4, z.who.length, z.who.map (Value.int .i64)⟩ : Rw) (by simp [flR]))
             obtain rfl : kzv4 = .slice kz4 z.who.length kzc4 := hu
             obtain ⟨kz6, kzc6, hu⟩ := slice_of_owns ((HRz.out _ hb8).own (⟨9, 1, kzv6, z.oxs.length, z.oxs.map Value.string⟩ : Rw) (by simp [flR]))
             obtain rfl : kzv6 = .slice kz6 z.oxs.length kzc6 := hu
             obtain ⟨kz7, kzc7, hu⟩ := slice_of_owns ((HRz.out _ hb8).own (⟨9, 1, kzv7, z.oys.length, z.oys.map Value.string⟩ : Rw) (by simp [flR]))
             obtain rfl : kzv7 = .slice kz7 z.oys.length kzc7 := hu
             obtain ⟨kz9, kzc9, hu⟩ := slice_of_owns ((HRz.out _ hb8).own (⟨150, 2, kzv9, z.ofs.length, flatF z.ofs⟩ : Rw) (by simp [flR]))
             obtain rfl : kzv9 = .slice kz9 z.ofs.length kzc9 := hu
             have hjn : ¬ n5 ≤ j := by omega
             have HEL5 : Hid (∀ W, Below w.heap.size w W → (W.cell? ⟨g5, j * 13, none⟩ = some (.int .i64 z.qmt) ∧ W.cell? ⟨g5, j * 13 + 1, none⟩ = some (.string z.qpa) ∧ W.cell? ⟨g5, j * 13 + 2, none⟩ = some (.slice kz2 z.qfs.length kzc2) ∧ W.cell? ⟨g5, j * 13 + 3, none⟩ = some (.string z.qbd) ∧ W.cell? ⟨g5, j * 13 + 4, none⟩ = some (.slice kz4 z.who.length kzc4) ∧ W.cell? ⟨g5, j * 13 + 5, none⟩ = some (.string z.opa) ∧ W.cell? ⟨g5, j * 13 + 6, none⟩ = some (.slice kz6 z.oxs.length kzc6) ∧ W.cell? ⟨g5, j * 13 + 7, none⟩ = some (.slice kz7 z.oys.length kzc7) ∧ W.cell? ⟨g5, j * 13 + 8, none⟩ = some (.int .i64 z.ost) ∧ W.cell? ⟨g5, j * 13 + 9, none⟩ = some (.slice kz9 z.ofs.length kzc9) ∧ W.cell? ⟨g5, j * 13 + 10, none⟩ = some (.string z.obd) ∧ W.cell? ⟨g5, j * 13 + 11, none⟩ = some (.int .i64 z.otm) ∧ W.cell? ⟨g5, j * 13 + 12, none⟩ = some (.bool z.has))) := fun W hb => by
              have c := HKz.out W hb
              exact ⟨c.c0, c.c1, c.c2, c.c3, c.c4, c.c5, c.c6, c.c7, c.c8, c.c9, c.c10, c.c11, c.c12⟩
             go_upto_region 12 with fail
             refine wp_region_held_drew (S := fun W => W.heap[qv1]? = some (.cells #[.slice o1 c.s.cs.length c1, .slice o2 c.s.ws.length c2, .slice o3 kv.length c3, .slice o4 c.s.bl.length c4, .int .i64 c.s.nx, .int .i64 c.s.sq, .slice (some ⟨g5, 0, none⟩) n5 c5, .int .i64 c.now, .slice o6 n6 c6, .slice o7 n7 c7] 48) ∧ (W.cell? ⟨g5, j * 13, none⟩ = some (.int .i64 z.qmt) ∧ W.cell? ⟨g5, j * 13 + 1, none⟩ = some (.string z.qpa) ∧ W.cell? ⟨g5, j * 13 + 2, none⟩ = some (.slice kz2 z.qfs.length kzc2) ∧ W.cell? ⟨g5, j * 13 + 3, none⟩ = some (.string z.qbd) ∧ W.cell? ⟨g5, j * 13 + 4, none⟩ = some (.slice kz4 z.who.length kzc4) ∧ W.cell? ⟨g5, j * 13 + 5, none⟩ = some (.string z.opa) ∧ W.cell? ⟨g5, j * 13 + 6, none⟩ = some (.slice kz6 z.oxs.length kzc6) ∧ W.cell? ⟨g5, j * 13 + 7, none⟩ = some (.slice kz7 z.oys.length kzc7) ∧ W.cell? ⟨g5, j * 13 + 8, none⟩ = some (.int .i64 z.ost) ∧ W.cell? ⟨g5, j * 13 + 9, none⟩ = some (.slice kz9 z.ofs.length kzc9) ∧ W.cell? ⟨g5, j * 13 + 10, none⟩ = some (.string z.obd) ∧ W.cell? ⟨g5, j * 13 + 11, none⟩ = some (.int .i64 z.otm) ∧ W.cell? ⟨g5, j * 13 + 12, none⟩ = some (.bool z.has)) ∧ W.heap[qv2]? = some (.cells #[.int .i64 d.qmt, .string d.qpa, .slice ku2 d.qfs.length kuc2, .string d.qbd, .slice ku4 d.who.length kuc4, .string d.opa, .slice ku6 d.oxs.length kuc6, .slice ku7 d.oys.length kuc7, .int .i64 d.ost, .slice ku9 d.ofs.length kuc9, .string d.obd, .int .i64 d.otm, .bool false] 67)) (by kernel_rfl) ⟨HBv1_8.out, (by first | exact HEL5.out _ hb8 | exact HEL5.out _ hb8.drew), HBv2_8.out⟩ (fun _ => ?_)
             obtain ⟨w9, hX⟩ := exq wr.drew
             have bw := bdr hX
             rw [← hX]
             have hb9 := hbt hb8 bw
             have HBv1_9 := hblk HBv1_8 bw
             have HBv2_9 := hblk HBv2_8 bw
             have hS9 : w9.heap[qv1]? = some (.cells #[.slice o1 c.s.cs.length c1, .slice o2 c.s.ws.length c2, .slice o3 kv.length c3, .slice o4 c.s.bl.length c4, .int .i64 c.s.nx, .int .i64 c.s.sq, .slice (some ⟨g5, 0, none⟩) n5 c5, .int .i64 c.now, .slice o6 n6 c6, .slice o7 n7 c7] 48) ∧ (w9.cell? ⟨g5, j * 13, none⟩ = some (.int .i64 z.qmt) ∧ w9.cell? ⟨g5, j * 13 + 1, none⟩ = some (.string z.qpa) ∧ w9.cell? ⟨g5, j * 13 + 2, none⟩ = some (.slice kz2 z.qfs.length kzc2) ∧ w9.cell? ⟨g5, j * 13 + 3, none⟩ = some (.string z.qbd) ∧ w9.cell? ⟨g5, j * 13 + 4, none⟩ = some (.slice kz4 z.who.length kzc4) ∧ w9.cell? ⟨g5, j * 13 + 5, none⟩ = some (.string z.opa) ∧ w9.cell? ⟨g5, j * 13 + 6, none⟩ = some (.slice kz6 z.oxs.length kzc6) ∧ w9.cell? ⟨g5, j * 13 + 7, none⟩ = some (.slice kz7 z.oys.length kzc7) ∧ w9.cell? ⟨g5, j * 13 + 8, none⟩ = some (.int .i64 z.ost) ∧ w9.cell? ⟨g5, j * 13 + 9, none⟩ = some (.slice kz9 z.ofs.length kzc9) ∧ w9.cell? ⟨g5, j * 13 + 10, none⟩ = some (.string z.obd) ∧ w9.cell? ⟨g5, j * 13 + 11, none⟩ = some (.int .i64 z.otm) ∧ w9.cell? ⟨g5, j * 13 + 12, none⟩ = some (.bool z.has)) ∧ w9.heap[qv2]? = some (.cells #[.int .i64 d.qmt, .string d.qpa, .slice ku2 d.qfs.length kuc2, .string d.qbd, .slice ku4 d.who.length kuc4, .string d.opa, .slice ku6 d.oxs.length kuc6, .slice ku7 d.oys.length kuc7, .int .i64 d.ost, .slice ku9 d.ofs.length kuc9, .string d.obd, .int .i64 d.otm, .bool false] 67) := ⟨HBv1_9.out, (by first | exact HEL5.out _ hb9 | exact HEL5.out _ hb9.drew), HBv2_9.out⟩
             clear hb8 HBv1_8 HBv2_8 bw hX
             refine tkP 0 (.pointer (some ⟨qv1, 6, none⟩)) 72 rfl rfl hS9 ?_
             go_frame
             refine tkL 1 (.slice (some ⟨g5, 0, none⟩) n5 c5) 73 rfl rfl (Or.inl ⟨by rfl, by intro W hW; obtain ⟨hhv1, hhE_5, hhv2⟩ := hW; have y6 := (cell_of hhv1 6).trans rfl; go_simp⟩) hS9 ?_
             go_frame
             refine tkP 2 (.int .i64 (j : Int)) 74 rfl rfl hS9 ?_
             go_frame
             refine tkP 3 (.pointer (some ⟨g5, j * 13, none⟩)) 75 rfl rfl hS9 ?_
             go_frame
             refine tkP 4 (.pointer (some ⟨g5, j * 13, none⟩)) 76 rfl rfl hS9 ?_
             go_frame
             refine tkL 5 (.agg #[.int .i64 z.qmt, .string z.qpa, .slice kz2 z.qfs.length kzc2, .string z.qbd]) 77 rfl rfl (Or.inl ⟨by rfl, by intro W hW; obtain ⟨hhv1, hhE_5, hhv2⟩ := hW; have y0 := hhE_5.1; have y1 := hhE_5.2.1; have y2 := hhE_5.2.2.1; have y3 := hhE_5.2.2.2.1; go_simp⟩) hS9 ?_
             go_frame
             refine tkP 6 (.pointer (some ⟨qv2, 0, none⟩)) 78 rfl rfl hS9 ?_
             go_frame
             refine tkL 7 (.agg #[.int .i64 d.qmt, .string d.qpa, .slice ku2 d.qfs.length kuc2, .string d.qbd]) 79 rfl rfl (Or.inl ⟨by rfl, by intro W hW; obtain ⟨hhv1, hhE_5, hhv2⟩ := hW; have y0 := (cell_of hhv2 0).trans rfl; have y1 := (cell_of hhv2 1).trans rfl; have y2 := (cell_of hhv2 2).trans rfl; have y3 := (cell_of hhv2 3).trans rfl; go_simp⟩) hS9 ?_
             go_frame
             refine rd1 8 rfl (fun K hK => ?_)
             go_simp
             refine (specAlike_f z d _ _ _ _ _ _ _ _ _ _ B B _ (HRz.out _ hb9) (HRd.out _ hb9) HSz.out HSd.out).mono ?_
             rintro e w10 ⟨ua, rfl, hua, bw⟩
             have hb10 := hbt hb9 bw
             have HM10 := hsz bw
             have HBv1_10 := hblk HBv1_9 bw
             have HBv2_10 := hblk HBv2_9 bw
             clear hb9 HBv1_9 HBv2_9 bw
             have hS10 : w10.heap[qv1]? = some (.cells #[.slice o1 c.s.cs.length c1, .slice o2 c.s.ws.length c2, .slice o3 kv.length c3, .slice o4 c.s.bl.length c4, .int .i64 c.s.nx, .int .i64 c.s.sq, .slice (some ⟨g5, 0, none⟩) n5 c5, .int .i64 c.now, .slice o6 n6 c6, .slice o7 n7 c7] 48) ∧ (w10.cell? ⟨g5, j * 13, none⟩ = some (.int .i64 z.qmt) ∧ w10.cell? ⟨g5, j * 13 + 1, none⟩ = some (.string z.qpa) ∧ w10.cell? ⟨g5, j * 13 + 2, none⟩ = some (.slice kz2 z.qfs.length kzc2) ∧ w10.cell? ⟨g5, j * 13 + 3, none⟩ = some (.string z.qbd) ∧ w10.cell? ⟨g5, j * 13 + 4, none⟩ = some (.slice kz4 z.who.length kzc4) ∧ w10.cell? ⟨g5, j * 13 + 5, none⟩ = some (.string z.opa) ∧ w10.cell? ⟨g5, j * 13 + 6, none⟩ = some (.slice kz6 z.oxs.length kzc6) ∧ w10.cell? ⟨g5, j * 13 + 7, none⟩ = some (.slice kz7 z.oys.length kzc7) ∧ w10.cell? ⟨g5, j * 13 + 8, none⟩ = some (.int .i64 z.ost) ∧ w10.cell? ⟨g5, j * 13 + 9, none⟩ = some (.slice kz9 z.ofs.length kzc9) ∧ w10.cell? ⟨g5, j * 13 + 10, none⟩ = some (.string z.obd) ∧ w10.cell? ⟨g5, j * 13 + 11, none⟩ = some (.int .i64 z.otm) ∧ w10.cell? ⟨g5, j * 13 + 12, none⟩ = some (.bool z.has)) ∧ w10.heap[qv2]? = some (.cells #[.int .i64 d.qmt, .string d.qpa, .slice ku2 d.qfs.length kuc2, .string d.qbd, .slice ku4 d.who.length kuc4, .string d.opa, .slice ku6 d.oxs.length kuc6, .slice ku7 d.oys.length kuc7, .int .i64 d.ost, .slice ku9 d.ofs.length kuc9, .string d.obd, .int .i64 d.otm, .bool false] 67) := ⟨HBv1_10.out, (by first | exact HEL5.out _ hb10 | exact HEL5.out _ hb10.drew), HBv2_10.out⟩
             refine hK.out _ _ hS10 (fun _ => ?_)
             clear hK K hS9
             clear hS10
             refine wpAnyH_done (by kernel_rfl) ?_ _
             cases ua with
             | false =>
              have HNua : Hid (¬ (AlikeF z d)) := fun h => nomatch hua.2 h
              clear hua
              have HJ2 : Hid (∀ m, m < j + 1 → ¬ AlikeF (flAt c.fl m) d) := fun m hm => by
               by_cases e : m = j
               ·
                subst e
                rw [HEz.out]
                exact HNua.out
               · exact HJ.out m (by omega)
              go_wp2_with fail
              go_roundw
              case rel => exact ⟨j + 1, by omega, by go_num, ⟨hb10, HBv1_10.out, HBv2_10.out⟩, HJ2⟩
              case measure => simp [intOf]; omega
             | true =>
              have HYua : Hid (AlikeF z d) := hua.1 rfl
              clear hua
              go_wp2_with fail
              go_ret
              exact BoolIs.no (fun h => by have hk := h.2.2.1.2 i (by rw [HLC.out.1]; omega); unfold FlAtOk at hk; rw [HEd.out] at hk; exact hk.2 j (by omega) (by rw [HEz.out]; exact HYua.out)) hb10
            ·
             have hb8 := HW.out.1
             have HBv1_8 : Hid ((wr).heap[qv1]? = some (.cells #[.slice o1 c.s.cs.length c1, .slice o2 c.s.ws.length c2, .slice o3 kv.length c3, .slice o4 c.s.bl.length c4, .int .i64 c.s.nx, .int .i64 c.s.sq, .slice (some ⟨g5, 0, none⟩) n5 c5, .int .i64 c.now, .slice o6 n6 c6, .slice o7 n7 c7] 48)) := HW.out.2.1
             have HBv2_8 : Hid ((wr).heap[qv2]? = some (.cells #[.int .i64 d.qmt, .string d.qpa, .slice ku2 d.qfs.length kuc2, .string d.qbd, .slice ku4 d.who.length kuc4, .string d.opa, .slice ku6 d.oxs.length kuc6, .slice ku7 d.oys.length kuc7, .int .i64 d.ost, .slice ku9 d.ofs.length kuc9, .string d.obd, .int .i64 d.otm, .bool false] 67)) := HW.out.2.2
             clear HW hb7 HBv1_7 HBv2_7
             have HNA : Hid (∀ k, k < i → ¬ AlikeF (flAt c.fl k) d) := fun m hm => HJ.out m (by omega)
             clear HJ
             have HN2 : Hid (∀ m, m < i + 1 → FlAtOk c.fl m) := fun m hm => by
              by_cases e : m = i
              ·
               subst e
               unfold FlAtOk
               rw [HEd.out]
               exact ⟨⟨HYur.out, HYuw.out, HOB.out⟩, HNA.out⟩
              · exact HN.out m (by omega)
             go_wp2_with fail
             go_roundw
             case rel => exact ⟨i + 1, by omega, by go_num, ⟨hb8, HBv1_8.out⟩, HN2⟩
             case measure => simp [intOf]; omega
          | true =>
           have cv2_5 : (w7).cell? ⟨qv2, 5, none⟩ = some (.string d.opa) := (cell_of HBv2_7.out 5).trans rfl
           have cv2_6 : (w7).cell? ⟨qv2, 6, none⟩ = some (.slice ku6 d.oxs.length kuc6) := (cell_of HBv2_7.out 6).trans rfl
           have cv2_7 : (w7).cell? ⟨qv2, 7, none⟩ = some (.slice ku7 d.oys.length kuc7) := (cell_of HBv2_7.out 7).trans rfl
           have cv2_8 : (w7).cell? ⟨qv2, 8, none⟩ = some (.int .i64 d.ost) := (cell_of HBv2_7.out 8).trans rfl
           have cv2_9 : (w7).cell? ⟨qv2, 9, none⟩ = some (.slice ku9 d.ofs.length kuc9) := (cell_of HBv2_7.out 9).trans rfl
           have cv2_10 : (w7).cell? ⟨qv2, 10, none⟩ = some (.string d.obd) := (cell_of HBv2_7.out 10).trans rfl
           have cv2_11 : (w7).cell? ⟨qv2, 11, none⟩ = some (.int .i64 d.otm) := (cell_of HBv2_7.out 11).trans rfl
           have cv2_12 : (w7).cell? ⟨qv2, 12, none⟩ = some (.bool true) := (cell_of HBv2_7.out 12).trans rfl
           go_wp2_with fail
           refine (specObjOk_f d _ _ _ _ _ B _ (HRd.out _ hb7) HSd.out).mono ?_
           rintro e w8 ⟨uo, rfl, huo, bw⟩
           have hb8 := hbt hb7 bw
           have HBv1_8 := hblk HBv1_7 bw
           have HBv2_8 := hblk HBv2_7 bw
           clear hb7 HBv1_7 HBv2_7 bw
           clear cv2_5 cv2_6 cv2_7 cv2_8 cv2_9 cv2_10 cv2_11 cv2_12
           cases uo with
           | false =>
            have HNuo : Hid (¬ (ObjF d)) := fun h => nomatch huo.2 h
            clear huo
            go_wp2_with fail
            go_ret
            exact BoolIs.no (fun h => by have hk := h.2.2.1.2 i (by rw [HLC.out.1]; omega); unfold FlAtOk at hk; rw [HEd.out] at hk; exact HNuo.out (hk.1.2.2 (by have e := HHhs.out; exact e.symm))) hb8
           | true =>
            have HYuo : Hid (ObjF d) := huo.1 rfl
            clear huo
            go_wp2_with fail
            have HOB : Hid (d.has = true → ObjF d) := fun _ => HYuo.out
            obtain ⟨wB, hwB⟩ := exq w8
            rw [← hwB] at hb8 HBv1_8 HBv2_8 ⊢
            clear hwB
            go_loopw [5] (fun i0 wr => ∃ j : Nat, j ≤ i ∧ i0 = .int .i64 (j : Int) ∧ Hid (Below w.heap.size w (wr) ∧ (wr).heap[qv1]? = some (.cells #[.slice o1 c.s.cs.length c1, .slice o2 c.s.ws.length c2, .slice o3 kv.length c3, .slice o4 c.s.bl.length c4, .int .i64 c.s.nx, .int .i64 c.s.sq, .slice (some ⟨g5, 0, none⟩) n5 c5, .int .i64 c.now, .slice o6 n6 c6, .slice o7 n7 c7] 48) ∧ (wr).heap[qv2]? = some (.cells #[.int .i64 d.qmt, .string d.qpa, .slice ku2 d.qfs.length kuc2, .string d.qbd, .slice ku4 d.who.length kuc4, .string d.opa, .slice ku6 d.oxs.length kuc6, .slice ku7 d.oys.length kuc7, .int .i64 d.ost, .slice ku9 d.ofs.length kuc9, .string d.obd, .int .i64 d.otm, .bool true] 67)) ∧ Hid (∀ m, m < j → ¬ AlikeF (flAt c.fl m) d)) (fun i0 _ => i - (intOf i0).toNat)
            case atStart => exact ⟨0, Nat.zero_le _, rfl, ⟨hb8, HBv1_8.out, HBv2_8.out⟩, fun m hm => absurd hm (by omega)⟩
            case round =>
             obtain ⟨j, hj, rfl, HW, HJ⟩ := hrel
             by_cases hlj : (j : Int) < (i : Int)
             ·
              have hb9 := HW.out.1
              have HBv1_9 : Hid ((wr).heap[qv1]? = some (.cells #[.slice o1 c.s.cs.length c1, .slice o2 c.s.ws.length c2, .slice o3 kv.length c3, .slice o4 c.s.bl.length c4, .int .i64 c.s.nx, .int .i64 c.s.sq, .slice (some ⟨g5, 0, none⟩) n5 c5, .int .i64 c.now, .slice o6 n6 c6, .slice o7 n7 c7] 48)) := HW.out.2.1
              have HBv2_9 : Hid ((wr).heap[qv2]? = some (.cells #[.int .i64 d.qmt, .string d.qpa, .slice ku2 d.qfs.length kuc2, .string d.qbd, .slice ku4 d.who.length kuc4, .string d.opa, .slice ku6 d.oxs.length kuc6, .slice ku7 d.oys.length kuc7, .int .i64 d.ost, .slice ku9 d.ofs.length kuc9, .string d.obd, .int .i64 d.otm, .bool true] 67)) := HW.out.2.2
              clear HW hb8 HBv1_8 HBv2_8
              obtain ⟨zX, hzX⟩ := exq (flvAt fv j)
              have HMz : Hid (zX ∈ fv) := by show _ ∈ _; rw [hzX]; exact getD_mem0 _ fv j (by rw [HLF.out]; omega)
              have HEz : Hid (flAt c.fl j = zX.d) := by show _ = _; rw [hzX, ← HFD.out]; exact getD_map0 _ _ _ fv j (by rw [HLF.out]; omega)
              have HKz : Hid (∀ W, Below w.heap.size w W → FlAt W g5 j zX) := fun W hb => by
               obtain ⟨g', p', hV, _, hc⟩ := (HFL.out W hb).look j (by rw [HLF.out]; omega)
               injection hV with hV1 _ _
               cases hV1
               rw [hzX]
               exact hc
              have HRz : Hid (∀ W, Below w.heap.size w W → RowsO W B (flR zX)) := fun W hb => (HFL.out W hb).item HMz.out
              have HSz : Hid (FlSmall zX.d) := HFS.out _ HMz.out
              clear hzX
              obtain ⟨z, kzv2, kzv4, kzv6, kzv7, kzv9⟩ := zX
              obtain ⟨kz2, kzc2, hu⟩ := slice_of_owns ((HRz.out _ hb9).own (⟨150, 2, kzv2, z.qfs.length, flatF z.qfs⟩ : Rw) (by simp [flR]))
              obtain rfl : kzv2 = .slice kz2 z.qfs.length kzc2 := hu
              obtain ⟨kz4, kzc4, hu⟩ := slice_of_owns ((HRz.out _ hb9).own (⟨3, 1, kzv4, z.who.length, z.who.map (Value.int .i64)⟩ : Rw) (by simp [flR]))
              obtain rfl : kzv4 = .slice kz4 z.who.length kzc4 := hu
              obtain ⟨kz6, kzc6, hu⟩ := slice_of_owns ((HRz.out _ hb9).own (⟨9, 1, kzv6, z.oxs.length, z.oxs.map Value.string⟩ : Rw) (by simp [flR]))
              obtain rfl : kzv6 = .slice kz6 z.oxs.length kzc6 := hu
              obtain ⟨kz7, kzc7, hu⟩ := slice_of_owns ((HRz.out _ hb9).own (⟨9, 1, kzv7, z.oys.length, z.oys.map Value.string⟩ : Rw) (by simp [flR]))
              obtain rfl : kzv7 = .slice kz7 z.oys.length kzc7 := hu
              obtain ⟨kz9, kzc9, hu⟩ := slice_of_owns ((HRz.out _ hb9).own (⟨150, 2, kzv9, z.ofs.length, flatF z.ofs⟩ : Rw) (by simp [flR]))
              obtain rfl : kzv9 = .slice kz9 z.ofs.length kzc9 := hu
              have hjn : ¬ n5 ≤ j := by omega
              have HEL5 : Hid (∀ W, Below w.heap.size w W → (W.cell? ⟨g5, j * 13, none⟩ = some (.int .i64 z.qmt) ∧ W.cell? ⟨g5, j * 13 + 1, none⟩ = some (.string z.qpa) ∧ W.cell? ⟨g5, j * 13 + 2, none⟩ = some (.slice kz2 z.qfs.length kzc2) ∧ W.cell? ⟨g5, j * 13 + 3, none⟩ = some (.string z.qbd) ∧ W.cell? ⟨g5, j * 13 + 4, none⟩ = some (.slice kz4 z.who.length kzc4) ∧ W.cell? ⟨g5, j * 13 + 5, none⟩ = some (.string z.opa) ∧ W.cell? ⟨g5, j * 13 + 6, none⟩ = some (.slice kz6 z.oxs.length kzc6) ∧ W.cell? ⟨g5, j * 13 + 7, none⟩ = some (.slice kz7 z.oys.length kzc7) ∧ W.cell? ⟨g5, j * 13 + 8, none⟩ = some (.int .i64 z.ost) ∧ W.cell? ⟨g5, j * 13 + 9, none⟩ = some (.slice kz9 z.ofs.length kzc9) ∧ W.cell? ⟨g5, j * 13 + 10, none⟩ = some (.string z.obd) ∧ W.cell? ⟨g5, j * 13 + 11, none⟩ = some (.int .i64 z.otm) ∧ W.cell? ⟨g5, j * 13 + 12, none⟩ = some (.bool z.has))) := fun W hb => by
               have c := HKz.out W hb
               exact ⟨c.c0, c.c1, c.c2, c.c3, c.c4, c.c5, c.c6, c.c7, c.c8, c.c9, c.c10, c.c11, c.c12⟩
              go_upto_region 12 with fail
              refine wp_region_held_drew (S := fun W => W.heap[qv1]? = some (.cells #[.slice o1 c.s.cs.length c1, .slice o2 c.s.ws.length c2, .slice o3 kv.length c3, .slice o4 c.s.bl.length c4, .int .i64 c.s.nx, .int .i64 c.s.sq, .slice (some ⟨g5, 0, none⟩) n5 c5, .int .i64 c.now, .slice o6 n6 c6, .slice o7 n7 c7] 48) ∧ (W.cell? ⟨g5, j * 13, none⟩ = some (.int .i64 z.qmt) ∧ W.cell? ⟨g5, j * 13 + 1, none⟩ = some (.string z.qpa) ∧ W.cell? ⟨g5, j * 13 + 2, none⟩ = some (.slice kz2 z.qfs.length kzc2) ∧ W.cell? ⟨g5, j * 13 + 3, none⟩ = some (.string z.qbd) ∧ W.cell? ⟨g5, j * 13 + 4, none⟩ = some (.slice kz4 z.who.length kzc4) ∧ W.cell? ⟨g5, j * 13 + 5, none⟩ = some (.string z.opa) ∧ W.cell? ⟨g5, j * 13 + 6, none⟩ = some (.slice kz6 z.oxs.length kzc6) ∧ W.cell? ⟨g5, j * 13 + 7, none⟩ = some (.slice kz7 z.oys.length kzc7) ∧ W.cell? ⟨g5, j * 13 + 8, none⟩ = some (.int .i64 z.ost) ∧ W.cell? ⟨g5, j * 13 + 9, none⟩ = some (.slice kz9 z.ofs.length kzc9) ∧ W.cell? ⟨g5, j * 13 + 10, none⟩ = some (.string z.obd) ∧ W.cell? ⟨g5, j * 13 + 11, none⟩ = some (.int .i64 z.otm) ∧ W.cell? ⟨g5, j * 13 + 12, none⟩ = some (.bool z.has)) ∧ W.heap[qv2]? = some (.cells #[.int .i64 d.qmt, .string d.qpa, .slice ku2 d.qfs.length kuc2, .string d.qbd, .slice ku4 d.who.length kuc4, .string d.opa, .slice ku6 d.oxs.length kuc6, .slice ku7 d.oys.length kuc7, .int .i64 d.ost, .slice ku9 d.ofs.length kuc9, .string d.obd, .int .i64 d.otm, .bool true] 67)) (by kernel_rfl) ⟨HBv1_9.out, (by first | exact HEL5.out _ hb9 | exact HEL5.out _ hb9.drew), HBv2_9.out⟩ (fun _ => ?_)
              obtain ⟨w10, hX⟩ := exq wr.drew
              have bw := bdr hX
              rw [← hX]
              have hb10 := hbt hb9 bw
              have HM10 := hsz bw
              have HBv1_10 := hblk HBv1_9 bw
              have HBv2_10 := hblk HBv2_9 bw
              have hS10 : w10.heap[qv1]? = some (.cells #[.slice o1 c.s.cs.length c1, .slice o2 c.s.ws.length c2, .slice o3 kv.length c3, .slice o4 c.s.bl.length c4, .int .i64 c.s.nx, .int .i64 c.s.sq, .slice (some ⟨g5, 0, none⟩) n5 c5, .int .i64 c.now, .slice o6 n6 c6, .slice o7 n7 c7] 48) ∧ (w10.cell? ⟨g5, j * 13, none⟩ = some (.int .i64 z.qmt) ∧ w10.cell? ⟨g5, j * 13 + 1, none⟩ = some (.string z.qpa) ∧ w10.cell? ⟨g5, j * 13 + 2, none⟩ = some (.slice kz2 z.qfs.length kzc2) ∧ w10.cell? ⟨g5, j * 13 + 3, none⟩ = some (.string z.qbd) ∧ w10.cell? ⟨g5, j * 13 + 4, none⟩ = some (.slice kz4 z.who.length kzc4) ∧ w10.cell? ⟨g5, j * 13 + 5, none⟩ = some (.string z.opa) ∧ w10.cell? ⟨g5, j * 13 + 6, none⟩ = some (.slice kz6 z.oxs.length kzc6) ∧ w10.cell? ⟨g5, j * 13 + 7, none⟩ = some (.slice kz7 z.oys.length kzc7) ∧ w10.cell? ⟨g5, j * 13 + 8, none⟩ = some (.int .i64 z.ost) ∧ w10.cell? ⟨g5, j * 13 + 9, none⟩ = some (.slice kz9 z.ofs.length kzc9) ∧ w10.cell? ⟨g5, j * 13 + 10, none⟩ = some (.string z.obd) ∧ w10.cell? ⟨g5, j * 13 + 11, none⟩ = some (.int .i64 z.otm) ∧ w10.cell? ⟨g5, j * 13 + 12, none⟩ = some (.bool z.has)) ∧ w10.heap[qv2]? = some (.cells #[.int .i64 d.qmt, .string d.qpa, .slice ku2 d.qfs.length kuc2, .string d.qbd, .slice ku4 d.who.length kuc4, .string d.opa, .slice ku6 d.oxs.length kuc6, .slice ku7 d.oys.length kuc7, .int .i64 d.ost, .slice ku9 d.ofs.length kuc9, .string d.obd, .int .i64 d.otm, .bool true] 67) := ⟨HBv1_10.out, (by first | exact HEL5.out _ hb10 | exact HEL5.out _ hb10.drew), HBv2_10.out⟩
              clear hb9 HBv1_9 HBv2_9 bw hX
              refine tkP 0 (.pointer (some ⟨qv1, 6, none⟩)) 72 rfl rfl hS10 ?_
              go_frame
              refine tkL 1 (.slice (some ⟨g5, 0, none⟩) n5 c5) 73 rfl rfl (Or.inl ⟨by rfl, by intro W hW; obtain ⟨hhv1, hhE_5, hhv2⟩ := hW; have y6 := (cell_of hhv1 6).trans rfl; go_simp⟩) hS10 ?_
              go_frame
              refine tkP 2 (.int .i64 (j : Int)) 74 rfl rfl hS10 ?_
              go_frame
              refine tkP 3 (.pointer (some ⟨g5, j * 13, none⟩)) 75 rfl rfl hS10 ?_
              go_frame
              refine tkP 4 (.pointer (some ⟨g5, j * 13, none⟩)) 76 rfl rfl hS10 ?_
              go_frame
              refine tkL 5 (.agg #[.int .i64 z.qmt, .string z.qpa, .slice kz2 z.qfs.length kzc2, .string z.qbd]) 77 rfl rfl (Or.inl ⟨by rfl, by intro W hW; obtain ⟨hhv1, hhE_5, hhv2⟩ := hW; have y0 := hhE_5.1; have y1 := hhE_5.2.1; have y2 := hhE_5.2.2.1; have y3 := hhE_5.2.2.2.1; go_simp⟩) hS10 ?_
              go_frame
              refine tkP 6 (.pointer (some ⟨qv2, 0, none⟩)) 78 rfl rfl hS10 ?_
              go_frame
              refine tkL 7 (.agg #[.int .i64 d.qmt, .string d.qpa, .slice ku2 d.qfs.length kuc2, .string d.qbd]) 79 rfl rfl (Or.inl ⟨by rfl, by intro W hW; obtain ⟨hhv1, hhE_5, hhv2⟩ := hW; have y0 := (cell_of hhv2 0).trans rfl; have y1 := (cell_of hhv2 1).trans rfl; have y2 := (cell_of hhv2 2).trans rfl; have y3 := (cell_of hhv2 3).trans rfl; go_simp⟩) hS10 ?_
              go_frame
              refine rd1 8 rfl (fun K hK => ?_)
              go_simp
              refine (specAlike_f z d _ _ _ _ _ _ _ _ _ _ B B _ (HRz.out _ hb10) (HRd.out _ hb10) HSz.out HSd.out).mono ?_
              rintro e w11 ⟨ua, rfl, hua, bw⟩
              have hb11 := hbt hb10 bw
              have HBv1_11 := hblk HBv1_10 bw
              have HBv2_11 := hblk HBv2_10 bw
              clear hb10 HBv1_10 HBv2_10 bw
              have hS11 : w11.heap[qv1]? = some (.cells #[.slice o1 c.s.cs.length c1, .slice o2 c.s.ws.length c2, .slice o3 kv.length c3, .slice o4 c.s.bl.length c4, .int .i64 c.s.nx, .int .i64 c.s.sq, .slice (some ⟨g5, 0, none⟩) n5 c5, .int .i64 c.now, .slice o6 n6 c6, .slice o7 n7 c7] 48) ∧ (w11.cell? ⟨g5, j * 13, none⟩ = some (.int .i64 z.qmt) ∧ w11.cell? ⟨g5, j * 13 + 1, none⟩ = some (.string z.qpa) ∧ w11.cell? ⟨g5, j * 13 + 2, none⟩ = some (.slice kz2 z.qfs.length kzc2) ∧ w11.cell? ⟨g5, j * 13 + 3, none⟩ = some (.string z.qbd) ∧ w11.cell? ⟨g5, j * 13 + 4, none⟩ = some (.slice kz4 z.who.length kzc4) ∧ w11.cell? ⟨g5, j * 13 + 5, none⟩ = some (.string z.opa) ∧ w11.cell? ⟨g5, j * 13 + 6, none⟩ = some (.slice kz6 z.oxs.length kzc6) ∧ w11.cell? ⟨g5, j * 13 + 7, none⟩ = some (.slice kz7 z.oys.length kzc7) ∧ w11.cell? ⟨g5, j * 13 + 8, none⟩ = some (.int .i64 z.ost) ∧ w11.cell? ⟨g5, j * 13 + 9, none⟩ = some (.slice kz9 z.ofs.length kzc9) ∧ w11.cell? ⟨g5, j * 13 + 10, none⟩ = some (.string z.obd) ∧ w11.cell? ⟨g5, j * 13 + 11, none⟩ = some (.int .i64 z.otm) ∧ w11.cell? ⟨g5, j * 13 + 12, none⟩ = some (.bool z.has)) ∧ w11.heap[qv2]? = some (.cells #[.int .i64 d.qmt, .string d.qpa, .slice ku2 d.qfs.length kuc2, .string d.qbd, .slice ku4 d.who.length kuc4, .string d.opa, .slice ku6 d.oxs.length kuc6, .slice ku7 d.oys.length kuc7, .int .i64 d.ost, .slice ku9 d.ofs.length kuc9, .string d.obd, .int .i64 d.otm, .bool true] 67) := ⟨HBv1_11.out, (by first | exact HEL5.out _ hb11 | exact HEL5.out _ hb11.drew), HBv2_11.out⟩
              refine hK.out _ _ hS11 (fun _ => ?_)
              clear hK K hS10
              clear hS11
              refine wpAnyH_done (by kernel_rfl) ?_ _
              cases ua with
              | false =>
               have HNua : Hid (¬ (AlikeF z d)) := fun h => nomatch hua.2 h
               clear hua
               have HJ2 : Hid (∀ m, m < j + 1 → ¬ AlikeF (flAt c.fl m) d) := fun m hm => by
                by_cases e : m = j
                ·
                 subst e
                 rw [HEz.out]
                 exact HNua.out
                · exact HJ.out m (by omega)
               go_wp2_with fail
               go_roundw
               case rel => exact ⟨j + 1, by omega, by go_num, ⟨hb11, HBv1_11.out, HBv2_11.out⟩, HJ2⟩
               case measure => simp [intOf]; omega
              | true =>
               have HYua : Hid (AlikeF z d) := hua.1 rfl
               clear hua
               go_wp2_with fail
               go_ret
               exact BoolIs.no (fun h => by have hk := h.2.2.1.2 i (by rw [HLC.out.1]; omega); unfold FlAtOk at hk; rw [HEd.out] at hk; exact hk.2 j (by omega) (by rw [HEz.out]; exact HYua.out)) hb11
             ·
              have hb9 := HW.out.1
              have HBv1_9 : Hid ((wr).heap[qv1]? = some (.cells #[.slice o1 c.s.cs.length c1, .slice o2 c.s.ws.length c2, .slice o3 kv.length c3, .slice o4 c.s.bl.length c4, .int .i64 c.s.nx, .int .i64 c.s.sq, .slice (some ⟨g5, 0, none⟩) n5 c5, .int .i64 c.now, .slice o6 n6 c6, .slice o7 n7 c7] 48)) := HW.out.2.1
              have HBv2_9 : Hid ((wr).heap[qv2]? = some (.cells #[.int .i64 d.qmt, .string d.qpa, .slice ku2 d.qfs.length kuc2, .string d.qbd, .slice ku4 d.who.length kuc4, .string d.opa, .slice ku6 d.oxs.length kuc6, .slice ku7 d.oys.length kuc7, .int .i64 d.ost, .slice ku9 d.ofs.length kuc9, .string d.obd, .int .i64 d.otm, .bool true] 67)) := HW.out.2.2
              clear HW hb8 HBv1_8 HBv2_8
              have HNA : Hid (∀ k, k < i → ¬ AlikeF (flAt c.fl k) d) := fun m hm => HJ.out m (by omega)
              clear HJ
              have HN2 : Hid (∀ m, m < i + 1 → FlAtOk c.fl m) := fun m hm => by
               by_cases e : m = i
               ·
                subst e
                unfold FlAtOk
                rw [HEd.out]
                exact ⟨⟨HYur.out, HYuw.out, HOB.out⟩, HNA.out⟩
               · exact HN.out m (by omega)
              go_wp2_with fail
              go_roundw
              case rel => exact ⟨i + 1, by omega, by go_num, ⟨hb9, HBv1_9.out⟩, HN2⟩
              case measure => simp [intOf]; omega
       ·
        have hb4 := HW.out.1
        have HBv1_4 : Hid ((wr).heap[qv1]? = some (.cells #[.slice o1 c.s.cs.length c1, .slice o2 c.s.ws.length c2, .slice o3 kv.length c3, .slice o4 c.s.bl.length c4, .int .i64 c.s.nx, .int .i64 c.s.sq, .slice o5 n5 c5, .int .i64 c.now, .slice o6 n6 c6, .slice o7 n7 c7] 48)) := HW.out.2
        clear HW hb3 HBv1_3
        have HFA : Hid (∀ m, m < c.fl.length → FlAtOk c.fl m) := fun m hm => HN.out m (by rw [HLC.out.1] at hm; omega)
        clear HN
        have cv1_6 := (k10c HBv1_4).2.2.2.2.2.2.1
        go_wp2_with fail
        go_ret
        exact BoolIs.yes ⟨HYus.out, HYun.out, ⟨by rw [HLC.out.1]; exact Hf5.out, HFA.out⟩, by rw [HLC.out.2.1]; exact He5.out, by rw [HLC.out.2.2]; exact Hr5.out⟩ hb4
end Go.Proofs.YtanpngnpolhgbaaGreat
namespace Go.Proofs.YtanpngnpolhgbaaGreat
open Go.RowKit Go.WideShapes
open Go.Lib hiding intOf
/-- An object's seven cells among the arguments. -/
theorem objCells {H : Type} {enc : TypeId × Value → H} {W : World} {fuel : Nat} {d0 d1 d2 d3 d4 d5 d6 : Value} {x : DataW H × List MemPlace} (hf : DataW.trod enc Tryz.prog W 0 (fun _ => true) true fuel 91 [d0, d1, d2, d3, d4, d5, d6] = some x) :
  ∃ (p : ByteArray) (a1 : Option Addr) (n1 c1 : Nat) (xs : List ByteArray) (a2 : Option Addr) (n2 c2 : Nat) (ys : List ByteArray) (st : Int) (a3 : Option Addr) (n3 c3 : Nat) (fs : List (ByteArray × ByteArray)) (b : ByteArray) (t : Int), (d0 = .string p ∧ d1 = .slice a1 n1 c1 ∧ d2 = .slice a2 n2 c2 ∧ d3 = .int .i64 st ∧ d4 = .slice a3 n3 c3 ∧ d5 = .string b ∧ d6 = .int .i64 t) ∧ ArgT W W.heap.size a1 n1 xs ∧ ArgT W W.heap.size a2 n2 ys ∧ ArgF W W.heap.size a3 n3 fs ∧ n1 ≤ maxLen ∧ n2 ≤ maxLen ∧ n3 ≤ maxLen ∧ (∀ i, i < n1 → (textAt xs i).size ≤ maxLen) ∧ (∀ i, i < n2 → (textAt ys i).size ≤ maxLen) ∧ WalkF n3 fs ∧ p.size ≤ maxLen ∧ b.size ≤ maxLen := by
 obtain ⟨ys, q, _, _, _, hyl, hg⟩ := DataW.trod_struct Tryz.underlying91 hf
 have hcR : Tryz.prog.cellsOf 89 = 3 := by kernel_rfl
 have e3 : Tryz.prog.cellsOf 3 = 1 := by kernel_rfl
 have e9 : Tryz.prog.cellsOf 9 = 1 := by kernel_rfl
 have eL : Tryz.prog.cellsOf 85 = 1 := by kernel_rfl
 have eS : Tryz.prog.cellsOf 22 = 1 := by kernel_rfl
 have g0 := hg 0 _ rfl
 have g1 := hg 1 _ rfl
 have g2 := hg 2 _ rfl
 have g3 := hg 3 _ rfl
 have g4 := hg 4 _ rfl
 simp [e3, e9, eS, hcR] at g0 g1 g2 g3 g4
 have hy5 : ys.length = 5 := hyl
 rw [List.getElem?_eq_getElem (show 0 < ys.length by omega)] at g0
 rw [List.getElem?_eq_getElem (show 1 < ys.length by omega)] at g1
 rw [List.getElem?_eq_getElem (show 2 < ys.length by omega)] at g2
 rw [List.getElem?_eq_getElem (show 3 < ys.length by omega)] at g3
 rw [List.getElem?_eq_getElem (show 4 < ys.length by omega)] at g4
 obtain ⟨zs, q2, _, _, _, hzl, hk⟩ := DataW.trod_struct Tryz.underlying89 g3
 have k0 := hk 0 _ rfl
 have k1 := hk 1 _ rfl
 have k2 := hk 2 _ rfl
 simp [e3, e9, eL] at k0 k1 k2
 have hz3 : zs.length = 3 := hzl
 rw [List.getElem?_eq_getElem (show 0 < zs.length by omega)] at k0
 rw [List.getElem?_eq_getElem (show 1 < zs.length by omega)] at k1
 rw [List.getElem?_eq_getElem (show 2 < zs.length by omega)] at k2
 obtain ⟨p, hp, _, hps⟩ := DataW.trod_string Tryz.underlying9 g0
 obtain ⟨t, ht, _, _⟩ := DataW.trod_int Tryz.underlying3 g4
 obtain ⟨st, hst, _, _⟩ := DataW.trod_int Tryz.underlying3 k0
 obtain ⟨b, hb, _, hbs⟩ := DataW.trod_string Tryz.underlying9 k2
 obtain ⟨a1, n1, c1, rfl⟩ : ∃ a n cap, d1 = .slice a n cap := by
  rcases DataW.trod_slice Tryz.underlying22 g1 with ⟨h, _⟩ | ⟨a, n, cap, _, _, _, _, h, _⟩
  · exact ⟨none, 0, 0, by simpa using h⟩
  · exact ⟨_, n, cap, by simpa using h⟩
 obtain ⟨a2, n2, c2, rfl⟩ : ∃ a n cap, d2 = .slice a n cap := by
  rcases DataW.trod_slice Tryz.underlying22 g2 with ⟨h, _⟩ | ⟨a, n, cap, _, _, _, _, h, _⟩
  · exact ⟨none, 0, 0, by simpa using h⟩
  · exact ⟨_, n, cap, by simpa using h⟩
 obtain ⟨a3, n3, c3, rfl⟩ : ∃ a n cap, d4 = .slice a n cap := by
  rcases DataW.trod_slice Tryz.underlying85 k1 with ⟨h, _⟩ | ⟨a, n, cap, _, _, _, _, h, _⟩
  · exact ⟨none, 0, 0, by simpa using h⟩
  · exact ⟨_, n, cap, by simpa using h⟩
 obtain ⟨xs, x1, x2, x3⟩ := openTexts g1
 obtain ⟨ws, y1, y2, y3⟩ := openTexts g2
 obtain ⟨fs, z1, z2, z3⟩ := openFields k1
 simp only [List.cons.injEq, and_true] at hp ht hst hb
 subst hp ht hst hb
 exact ⟨p, a1, n1, c1, xs, a2, n2, c2, ws, st, a3, n3, c3, fs, b, t, ⟨rfl, rfl, rfl, rfl, rfl, rfl, rfl⟩, x1, y1, z1, x2, y2, z2, x3, y3, z3, hps, hbs⟩
/-- A list of what is kept among the arguments. -/
theorem openKeptS {H : Type} {enc : TypeId × Value → H} {W : World} {fuel : Nat} {a : Option Addr} {n cap : Nat} {x : DataW H × List MemPlace} (h : DataW.trod enc Tryz.prog W 0 (fun _ => true) true fuel 26 [.slice a n cap] = some x) :
  ∃ ks, ArgKept W W.heap.size a n ks ∧ n ≤ maxLen ∧ ∀ k ∈ ks, KpMax k := by
 rcases Go.Deep.open_slice Tryz.underlying26 h with ⟨hcs, _⟩ | ⟨ad, len, c, m, q, Dd, Pl, hcs, _, hl, hm, hmm, _, hx⟩
 ·
  simp at hcs
  obtain ⟨rfl, rfl, rfl⟩ := hcs
  exact ⟨[], ⟨rfl, fun i hi => absurd hi (by omega)⟩, Nat.zero_le _, fun x hx => by simp at hx⟩
 ·
  simp at hcs
  obtain ⟨rfl, rfl, rfl⟩ := hcs
  have hm2 : m = cap := by simpa using hmm
  have ce : Tryz.prog.cellsOf 140 = 9 := by kernel_rfl
  have co : Tryz.prog.cellsOf 91 = 7 := by kernel_rfl
  have ci : Tryz.prog.cellsOf 3 = 1 := by kernel_rfl
  have each : ∀ i, i < n → ∃ y : KpD, (∃ (a1 : Option Addr) (n1 c1 : Nat) (a2 : Option Addr) (n2 c2 : Nat) (a3 : Option Addr) (n3 c3 : Nat), (W.cell? (ad.add (i * 9 + 0)) = some (.string y.p) ∧ W.cell? (ad.add (i * 9 + 1)) = some (.slice a1 n1 c1) ∧ W.cell? (ad.add (i * 9 + 2)) = some (.slice a2 n2 c2) ∧ W.cell? (ad.add (i * 9 + 3)) = some (.int .i64 y.st) ∧ W.cell? (ad.add (i * 9 + 4)) = some (.slice a3 n3 c3) ∧ W.cell? (ad.add (i * 9 + 5)) = some (.string y.b) ∧ W.cell? (ad.add (i * 9 + 6)) = some (.int .i64 y.t) ∧ W.cell? (ad.add (i * 9 + 7)) = some (.int .i64 y.a) ∧ W.cell? (ad.add (i * 9 + 8)) = some (.int .i64 y.q)) ∧ ArgT W W.heap.size a1 n1 y.xs ∧ ArgT W W.heap.size a2 n2 y.ys ∧ ArgF W W.heap.size a3 n3 y.fs) ∧ KpMax y := by
   intro i hi
   obtain ⟨cs', h1, h2⟩ := hx i (by omega)
   rw [ce] at h1
   obtain ⟨_, hlen, hcell⟩ := World.cells?_some h1
   obtain ⟨xs, k, hk, hxy, _, hxl, hf⟩ := DataW.trod_struct Tryz.underlying140 h2
   match xs, hxl, cs', hlen with
   | [x0, x1, x2], _, [v0, v1, v2, v3, v4, v5, v6, v7, v8], _ =>
    have g0 := hf 0 _ rfl
    have g1 := hf 1 _ rfl
    have g2 := hf 2 _ rfl
    simp [ci, co] at g0 g1 g2
    obtain ⟨p, a1, n1, c1, xs, a2, n2, c2, ys, st, a3, n3, c3, fs, b, t, ⟨rfl, rfl, rfl, rfl, rfl, rfl, rfl⟩, w1, w2, w3, m1, m2, m3, s1, s2, s3, s4, s5⟩ := objCells g0
    obtain ⟨ka, e1, _, _⟩ := DataW.trod_int Tryz.underlying3 g1
    obtain ⟨kq, e2, _, _⟩ := DataW.trod_int Tryz.underlying3 g2
    simp only [List.cons.injEq, and_true] at e1 e2
    subst e1 e2
    have c0x := hcell 0 (by omega)
    have c1x := hcell 1 (by omega)
    have c2x := hcell 2 (by omega)
    have c3x := hcell 3 (by omega)
    have c4x := hcell 4 (by omega)
    have c5x := hcell 5 (by omega)
    have c6x := hcell 6 (by omega)
    have c7x := hcell 7 (by omega)
    have c8x := hcell 8 (by omega)
    rw [Go.Deep.add_add] at c0x c1x c2x c3x c4x c5x c6x c7x c8x
    refine ⟨⟨p, xs, ys, st, fs, b, t, ka, kq⟩, ⟨a1, n1, c1, a2, n2, c2, a3, n3, c3, ⟨by simpa using c0x, by simpa using c1x, by simpa using c2x, by simpa using c3x, by simpa using c4x, by simpa using c5x, by simpa using c6x, by simpa using c7x, by simpa using c8x⟩, w1, w2, w3⟩, ?_⟩
    unfold KpMax
    show xs.length ≤ maxLen ∧ ys.length ≤ maxLen ∧ fs.length ≤ maxLen ∧ (∀ i, i < xs.length → (textAt xs i).size ≤ maxLen) ∧ (∀ i, i < ys.length → (textAt ys i).size ≤ maxLen) ∧ WalkF fs.length fs ∧ p.size ≤ maxLen ∧ b.size ≤ maxLen
    rw [w1.len, w2.len, w3.len]
    exact ⟨m1, m2, m3, s1, s2, s3, s4, s5⟩
  haveI : Inhabited KpD := ⟨zeroK⟩
  obtain ⟨q, hq⟩ := Go.Deep.choose_lt each
  have hat : ∀ i, i < n → kpAt ((List.range n).map q) i = q i := fun i hi => by
   unfold kpAt
   rw [List.getD_eq_getElem?_getD, List.getElem?_map, List.getElem?_range hi]
   rfl
  refine ⟨(List.range n).map q, ⟨by simp, fun i hi => ?_⟩, by omega, fun x hx => ?_⟩
  ·
   obtain ⟨⟨a1, n1, c1, a2, n2, c2, a3, n3, c3, cc, w1, w2, w3⟩, _⟩ := hq i hi
   have hsp : ad.spot = none := by
    obtain ⟨⟨_, _, _, _, _, _, _, _, _, c3, _⟩, _⟩ := hq 0 (by omega)
    have := World.cell?_spot c3.1
    simpa [Addr.add] using this
   obtain ⟨b, off, sp⟩ := ad
   simp only at hsp
   subst hsp
   simp only [addr_add] at cc
   rw [hat i hi]
   have hlt := World.block_lt_of_cell? W _ cc.1
   exact ⟨b, off, rfl, hlt, a1, n1, c1, a2, n2, c2, a3, n3, c3, ⟨by simpa [Nat.add_assoc] using cc.1, by simpa [Nat.add_assoc] using cc.2.1, by simpa [Nat.add_assoc] using cc.2.2.1, by simpa [Nat.add_assoc] using cc.2.2.2.1, by simpa [Nat.add_assoc] using cc.2.2.2.2.1, by simpa [Nat.add_assoc] using cc.2.2.2.2.2.1, by simpa [Nat.add_assoc] using cc.2.2.2.2.2.2.1, by simpa [Nat.add_assoc] using cc.2.2.2.2.2.2.2.1, by simpa [Nat.add_assoc] using cc.2.2.2.2.2.2.2.2⟩, w1, w2, w3⟩
  ·
   obtain ⟨i, hi, rfl⟩ := List.mem_map.1 hx
   exact (hq i (List.mem_range.1 hi)).2
end Go.Proofs.YtanpngnpolhgbaaGreat
namespace Go.Proofs.YtanpngnpolhgbaaGreat
open Go.RowKit
open Go.Lib hiding intOf
theorem cellsReq {H : Type} {enc : TypeId × Value → H} {W : World} {fuel : Nat} {d0 d1 d2 d3 : Value} {x : DataW H × List MemPlace} (hf : DataW.trod enc Tryz.prog W 0 (fun _ => true) true fuel 87 [d0, d1, d2, d3] = some x) :
  ∃ (mt : Int) (pa : ByteArray) (fs : List (ByteArray × ByteArray)) (bd : ByteArray) (a : Option Addr) (n cap : Nat), (d0 = .int .i64 mt ∧ d1 = .string pa ∧ d2 = .slice a n cap ∧ d3 = .string bd) ∧ ArgF W W.heap.size a n fs ∧ n ≤ maxLen ∧ WalkF n fs ∧ pa.size ≤ maxLen ∧ bd.size ≤ maxLen := by
 obtain ⟨ys, q, _, _, _, hyl, hg⟩ := DataW.trod_struct Tryz.underlying87 hf
 have e3 : Tryz.prog.cellsOf 3 = 1 := by kernel_rfl
 have e9 : Tryz.prog.cellsOf 9 = 1 := by kernel_rfl
 have eL : Tryz.prog.cellsOf 85 = 1 := by kernel_rfl
 have g0 := hg 0 _ rfl
 have g1 := hg 1 _ rfl
 have g2 := hg 2 _ rfl
 have g3 := hg 3 _ rfl
 simp [e3, e9, eL] at g0 g1 g2 g3
 have hyz : ys.length = 4 := hyl
 rw [List.getElem?_eq_getElem (show 0 < ys.length by omega)] at g0
 rw [List.getElem?_eq_getElem (show 1 < ys.length by omega)] at g1
 rw [List.getElem?_eq_getElem (show 2 < ys.length by omega)] at g2
 rw [List.getElem?_eq_getElem (show 3 < ys.length by omega)] at g3
 obtain ⟨mt, hmt, _, _⟩ := DataW.trod_int Tryz.underlying3 g0
 obtain ⟨pa, hpa, _, spa⟩ := DataW.trod_string Tryz.underlying9 g1
 obtain ⟨a, n, cap, rfl⟩ : ∃ a n cap, d2 = .slice a n cap := by
  rcases DataW.trod_slice Tryz.underlying85 g2 with ⟨h, _⟩ | ⟨a, n, cap, _, _, _, _, h, _⟩
  · exact ⟨none, 0, 0, by simpa using h⟩
  · exact ⟨_, n, cap, by simpa using h⟩
 obtain ⟨fs, h1, h2, h3⟩ := openFields g2
 obtain ⟨bd, hbd, _, sbd⟩ := DataW.trod_string Tryz.underlying9 g3
 simp only [List.cons.injEq, and_true] at hmt hpa hbd
 subst hmt hpa hbd
 exact ⟨mt, pa, fs, bd, a, n, cap, ⟨rfl, rfl, rfl, rfl⟩, h1, h2, h3, spa, sbd⟩
theorem cellsResp {H : Type} {enc : TypeId × Value → H} {W : World} {fuel : Nat} {d0 d1 d2 : Value} {x : DataW H × List MemPlace} (hf : DataW.trod enc Tryz.prog W 0 (fun _ => true) true fuel 89 [d0, d1, d2] = some x) :
  ∃ (st : Int) (fs : List (ByteArray × ByteArray)) (bd : ByteArray) (a : Option Addr) (n cap : Nat), (d0 = .int .i64 st ∧ d1 = .slice a n cap ∧ d2 = .string bd) ∧ ArgF W W.heap.size a n fs ∧ n ≤ maxLen ∧ WalkF n fs ∧ bd.size ≤ maxLen := by
 obtain ⟨ys, q, _, _, _, hyl, hg⟩ := DataW.trod_struct Tryz.underlying89 hf
 have e3 : Tryz.prog.cellsOf 3 = 1 := by kernel_rfl
 have e9 : Tryz.prog.cellsOf 9 = 1 := by kernel_rfl
 have eL : Tryz.prog.cellsOf 85 = 1 := by kernel_rfl
 have g0 := hg 0 _ rfl
 have g1 := hg 1 _ rfl
 have g2 := hg 2 _ rfl
 simp [e3, e9, eL] at g0 g1 g2
 have hyz : ys.length = 3 := hyl
 rw [List.getElem?_eq_getElem (show 0 < ys.length by omega)] at g0
 rw [List.getElem?_eq_getElem (show 1 < ys.length by omega)] at g1
 rw [List.getElem?_eq_getElem (show 2 < ys.length by omega)] at g2
 obtain ⟨st, hst, _, _⟩ := DataW.trod_int Tryz.underlying3 g0
 obtain ⟨a, n, cap, rfl⟩ : ∃ a n cap, d1 = .slice a n cap := by
  rcases DataW.trod_slice Tryz.underlying85 g1 with ⟨h, _⟩ | ⟨a, n, cap, _, _, _, _, h, _⟩
  · exact ⟨none, 0, 0, by simpa using h⟩
  · exact ⟨_, n, cap, by simpa using h⟩
 obtain ⟨fs, h1, h2, h3⟩ := openFields g1
 obtain ⟨bd, hbd, _, sbd⟩ := DataW.trod_string Tryz.underlying9 g2
 simp only [List.cons.injEq, and_true] at hst hbd
 subst hst hbd
 exact ⟨st, fs, bd, a, n, cap, ⟨rfl, rfl, rfl⟩, h1, h2, h3, sbd⟩
end Go.Proofs.YtanpngnpolhgbaaGreat
namespace Go.Proofs.YtanpngnpolhgbaaGreat
open Go.RowKit
open Go.Lib hiding intOf
/-- A list of Flight among the arguments. -/
theorem openFlightS {H : Type} {enc : TypeId × Value → H} {W : World} {fuel : Nat} {a : Option Addr} {n cap : Nat} {x : DataW H × List MemPlace} (h : DataW.trod enc Tryz.prog W 0 (fun _ => true) true fuel 30 [.slice a n cap] = some x) :
  ∃ ks, ArgFlight W W.heap.size a n ks ∧ n ≤ maxLen ∧ ∀ k ∈ ks, FlMax k := by
 rcases Go.Deep.open_slice Tryz.underlying30 h with ⟨hcs, _⟩ | ⟨ad, len, c, m, q, Dd, Pl, hcs, _, hl, hm, hmm, _, hx⟩
 ·
  simp at hcs
  obtain ⟨rfl, rfl, rfl⟩ := hcs
  exact ⟨[], ⟨rfl, fun i hi => absurd hi (by omega)⟩, Nat.zero_le _, fun x hx => by simp at hx⟩
 ·
  simp at hcs
  obtain ⟨rfl, rfl, rfl⟩ := hcs
  have hm2 : m = cap := by simpa using hmm
  have ce : Tryz.prog.cellsOf 93 = 13 := by kernel_rfl
  have cReq : Tryz.prog.cellsOf 87 = 4 := by kernel_rfl
  have cIntS : Tryz.prog.cellsOf 61 = 1 := by kernel_rfl
  have cObj : Tryz.prog.cellsOf 91 = 7 := by kernel_rfl
  have cb : Tryz.prog.cellsOf 4 = 1 := by kernel_rfl
  have each : ∀ i, i < n → ∃ y : FlD, (∃ (a2 : Option Addr) (c2 : Nat) (a4 : Option Addr) (c4 : Nat) (a6 : Option Addr) (c6 : Nat) (a7 : Option Addr) (c7 : Nat) (a9 : Option Addr) (c9 : Nat), (W.cell? (ad.add (i * 13 + 0)) = some (.int .i64 y.qmt) ∧ W.cell? (ad.add (i * 13 + 1)) = some (.string y.qpa) ∧ W.cell? (ad.add (i * 13 + 2)) = some (.slice a2 y.qfs.length c2) ∧ W.cell? (ad.add (i * 13 + 3)) = some (.string y.qbd) ∧ W.cell? (ad.add (i * 13 + 4)) = some (.slice a4 y.who.length c4) ∧ W.cell? (ad.add (i * 13 + 5)) = some (.string y.opa) ∧ W.cell? (ad.add (i * 13 + 6)) = some (.slice a6 y.oxs.length c6) ∧ W.cell? (ad.add (i * 13 + 7)) = some (.slice a7 y.oys.length c7) ∧ W.cell? (ad.add (i * 13 + 8)) = some (.int .i64 y.ost) ∧ W.cell? (ad.add (i * 13 + 9)) = some (.slice a9 y.ofs.length c9) ∧ W.cell? (ad.add (i * 13 + 10)) = some (.string y.obd) ∧ W.cell? (ad.add (i * 13 + 11)) = some (.int .i64 y.otm) ∧ W.cell? (ad.add (i * 13 + 12)) = some (.bool y.has)) ∧ ArgF W W.heap.size a2 y.qfs.length y.qfs ∧ ArgI W W.heap.size a4 y.who.length y.who ∧ ArgT W W.heap.size a6 y.oxs.length y.oxs ∧ ArgT W W.heap.size a7 y.oys.length y.oys ∧ ArgF W W.heap.size a9 y.ofs.length y.ofs) ∧ FlMax y := by
   intro i hi
   obtain ⟨cs', h1, h2⟩ := hx i (by omega)
   rw [ce] at h1
   obtain ⟨_, hlen, hcell⟩ := World.cells?_some h1
   obtain ⟨xs, k, hk, hxy, _, hxl, hf⟩ := DataW.trod_struct Tryz.underlying93 h2
   match xs, hxl, cs', hlen with
   | [x0, x1, x2, x3], _, [v0, v1, v2, v3, v4, v5, v6, v7, v8, v9, v10, v11, v12], _ =>
    have g0 := hf 0 _ rfl
    have g1 := hf 1 _ rfl
    have g2 := hf 2 _ rfl
    have g3 := hf 3 _ rfl
    simp [cReq, cIntS, cObj, cb] at g0 g1 g2 g3
    obtain ⟨qmt, qpa, qfs, qbd, a2, n2, c2, ⟨rfl, rfl, rfl, rfl⟩, w2, m2, s2, zqpa, zqbd⟩ := cellsReq g0
    obtain ⟨a4, n4, c4, rfl⟩ : ∃ a n cap, v4 = .slice a n cap := by
     rcases DataW.trod_slice Tryz.underlying61 g1 with ⟨h, _⟩ | ⟨a, n, cap, _, _, _, _, h, _⟩
     · exact ⟨none, 0, 0, by simpa using h⟩
     · exact ⟨_, n, cap, by simpa using h⟩
    obtain ⟨who, w4, m4⟩ := openIntsT g1
    obtain ⟨opa, a6, n6, c6, oxs, a7, n7, c7, oys, ost, a9, n9, c9, ofs, obd, otm, ⟨rfl, rfl, rfl, rfl, rfl, rfl, rfl⟩, w6, w7, w9, m6, m7, m9, s6, s7, s9, zopa, zobd⟩ := objCells g2
    obtain ⟨has, e3, _⟩ := DataW.trod_bool Tryz.underlying4 g3
    simp only [List.cons.injEq, and_true] at e3
    subst e3
    obtain rfl := w2.len
    obtain rfl := w4.len
    obtain rfl := w6.len
    obtain rfl := w7.len
    obtain rfl := w9.len
    have c0x := hcell 0 (by omega)
    have c1x := hcell 1 (by omega)
    have c2x := hcell 2 (by omega)
    have c3x := hcell 3 (by omega)
    have c4x := hcell 4 (by omega)
    have c5x := hcell 5 (by omega)
    have c6x := hcell 6 (by omega)
    have c7x := hcell 7 (by omega)
    have c8x := hcell 8 (by omega)
    have c9x := hcell 9 (by omega)
    have c10x := hcell 10 (by omega)
    have c11x := hcell 11 (by omega)
    have c12x := hcell 12 (by omega)
    rw [Go.Deep.add_add] at c0x c1x c2x c3x c4x c5x c6x c7x c8x c9x c10x c11x c12x
    refine ⟨⟨qmt, qpa, qfs, qbd, who, opa, oxs, oys, ost, ofs, obd, otm, has⟩, ⟨a2, c2, a4, c4, a6, c6, a7, c7, a9, c9, ⟨by simpa using c0x, by simpa using c1x, by simpa using c2x, by simpa using c3x, by simpa using c4x, by simpa using c5x, by simpa using c6x, by simpa using c7x, by simpa using c8x, by simpa using c9x, by simpa using c10x, by simpa using c11x, by simpa using c12x⟩, w2, w4, w6, w7, w9⟩, ⟨zqpa, ⟨m2, s2⟩, zqbd, m4, zopa, ⟨m6, s6⟩, ⟨m7, s7⟩, ⟨m9, s9⟩, zobd⟩⟩
  haveI : Inhabited FlD := ⟨zeroFl⟩
  obtain ⟨q, hq⟩ := Go.Deep.choose_lt each
  have hat : ∀ i, i < n → flAt ((List.range n).map q) i = q i := fun i hi => by
   unfold flAt
   rw [List.getD_eq_getElem?_getD, List.getElem?_map, List.getElem?_range hi]
   rfl
  refine ⟨(List.range n).map q, ⟨by simp, fun i hi => ?_⟩, by omega, fun x hx => ?_⟩
  ·
   obtain ⟨⟨a2, c2, a4, c4, a6, c6, a7, c7, a9, c9, cc, w2, w4, w6, w7, w9⟩, _⟩ := hq i hi
   have hsp : ad.spot = none := by
    obtain ⟨⟨_, _, _, _, _, _, _, _, _, _, c3, _⟩, _⟩ := hq 0 (by omega)
    have := World.cell?_spot c3.1
    simpa [Addr.add] using this
   obtain ⟨b, off, sp⟩ := ad
   simp only at hsp
   subst hsp
   simp only [addr_add] at cc
   rw [hat i hi]
   have hlt := World.block_lt_of_cell? W _ cc.1
   exact ⟨b, off, rfl, hlt, a2, c2, a4, c4, a6, c6, a7, c7, a9, c9, ⟨by simpa [Nat.add_assoc] using cc.1, by simpa [Nat.add_assoc] using cc.2.1, by simpa [Nat.add_assoc] using cc.2.2.1, by simpa [Nat.add_assoc] using cc.2.2.2.1, by simpa [Nat.add_assoc] using cc.2.2.2.2.1, by simpa [Nat.add_assoc] using cc.2.2.2.2.2.1, by simpa [Nat.add_assoc] using cc.2.2.2.2.2.2.1, by simpa [Nat.add_assoc] using cc.2.2.2.2.2.2.2.1, by simpa [Nat.add_assoc] using cc.2.2.2.2.2.2.2.2.1, by simpa [Nat.add_assoc] using cc.2.2.2.2.2.2.2.2.2.1, by simpa [Nat.add_assoc] using cc.2.2.2.2.2.2.2.2.2.2.1, by simpa [Nat.add_assoc] using cc.2.2.2.2.2.2.2.2.2.2.2.1, by simpa [Nat.add_assoc] using cc.2.2.2.2.2.2.2.2.2.2.2.2⟩, w2, w4, w6, w7, w9⟩
  ·
   obtain ⟨i, hi, rfl⟩ := List.mem_map.1 hx
   exact (hq i (List.mem_range.1 hi)).2
end Go.Proofs.YtanpngnpolhgbaaGreat
namespace Go.Proofs.YtanpngnpolhgbaaGreat
open Go.RowKit
open Go.Lib hiding intOf
/-- A list of Seen among the arguments. -/
theorem openSeenS {H : Type} {enc : TypeId × Value → H} {W : World} {fuel : Nat} {a : Option Addr} {n cap : Nat} {x : DataW H × List MemPlace} (h : DataW.trod enc Tryz.prog W 0 (fun _ => true) true fuel 31 [.slice a n cap] = some x) :
  ∃ ks, ArgSeen W W.heap.size a n ks ∧ n ≤ maxLen ∧ ∀ k ∈ ks, SeMax k := by
 rcases Go.Deep.open_slice Tryz.underlying31 h with ⟨hcs, _⟩ | ⟨ad, len, c, m, q, Dd, Pl, hcs, _, hl, hm, hmm, _, hx⟩
 ·
  simp at hcs
  obtain ⟨rfl, rfl, rfl⟩ := hcs
  exact ⟨[], ⟨rfl, fun i hi => absurd hi (by omega)⟩, Nat.zero_le _, fun x hx => by simp at hx⟩
 ·
  simp at hcs
  obtain ⟨rfl, rfl, rfl⟩ := hcs
  have hm2 : m = cap := by simpa using hmm
  have ce : Tryz.prog.cellsOf 96 = 8 := by kernel_rfl
  have cReq : Tryz.prog.cellsOf 87 = 4 := by kernel_rfl
  have cResp : Tryz.prog.cellsOf 89 = 3 := by kernel_rfl
  have ci : Tryz.prog.cellsOf 3 = 1 := by kernel_rfl
  have each : ∀ i, i < n → ∃ y : SeD, (∃ (a2 : Option Addr) (c2 : Nat) (a5 : Option Addr) (c5 : Nat), (W.cell? (ad.add (i * 8 + 0)) = some (.int .i64 y.qmt) ∧ W.cell? (ad.add (i * 8 + 1)) = some (.string y.qpa) ∧ W.cell? (ad.add (i * 8 + 2)) = some (.slice a2 y.qfs.length c2) ∧ W.cell? (ad.add (i * 8 + 3)) = some (.string y.qbd) ∧ W.cell? (ad.add (i * 8 + 4)) = some (.int .i64 y.rst) ∧ W.cell? (ad.add (i * 8 + 5)) = some (.slice a5 y.rfs.length c5) ∧ W.cell? (ad.add (i * 8 + 6)) = some (.string y.rbd) ∧ W.cell? (ad.add (i * 8 + 7)) = some (.int .i64 y.tim)) ∧ ArgF W W.heap.size a2 y.qfs.length y.qfs ∧ ArgF W W.heap.size a5 y.rfs.length y.rfs) ∧ SeMax y := by
   intro i hi
   obtain ⟨cs', h1, h2⟩ := hx i (by omega)
   rw [ce] at h1
   obtain ⟨_, hlen, hcell⟩ := World.cells?_some h1
   obtain ⟨xs, k, hk, hxy, _, hxl, hf⟩ := DataW.trod_struct Tryz.underlying96 h2
   match xs, hxl, cs', hlen with
   | [x0, x1, x2], _, [v0, v1, v2, v3, v4, v5, v6, v7], _ =>
    have g0 := hf 0 _ rfl
    have g1 := hf 1 _ rfl
    have g2 := hf 2 _ rfl
    simp [cReq, cResp, ci] at g0 g1 g2
    obtain ⟨qmt, qpa, qfs, qbd, a2, n2, c2, ⟨rfl, rfl, rfl, rfl⟩, w2, m2, s2, zqpa, zqbd⟩ := cellsReq g0
    obtain ⟨rst, rfs, rbd, a5, n5, c5, ⟨rfl, rfl, rfl⟩, w5, m5, s5, zrbd⟩ := cellsResp g1
    obtain ⟨tim, e2, _, _⟩ := DataW.trod_int Tryz.underlying3 g2
    simp only [List.cons.injEq, and_true] at e2
    subst e2
    obtain rfl := w2.len
    obtain rfl := w5.len
    have c0x := hcell 0 (by omega)
    have c1x := hcell 1 (by omega)
    have c2x := hcell 2 (by omega)
    have c3x := hcell 3 (by omega)
    have c4x := hcell 4 (by omega)
    have c5x := hcell 5 (by omega)
    have c6x := hcell 6 (by omega)
    have c7x := hcell 7 (by omega)
    rw [Go.Deep.add_add] at c0x c1x c2x c3x c4x c5x c6x c7x
    refine ⟨⟨qmt, qpa, qfs, qbd, rst, rfs, rbd, tim⟩, ⟨a2, c2, a5, c5, ⟨by simpa using c0x, by simpa using c1x, by simpa using c2x, by simpa using c3x, by simpa using c4x, by simpa using c5x, by simpa using c6x, by simpa using c7x⟩, w2, w5⟩, ⟨zqpa, ⟨m2, s2⟩, zqbd, ⟨m5, s5⟩, zrbd⟩⟩
  haveI : Inhabited SeD := ⟨zeroSe⟩
  obtain ⟨q, hq⟩ := Go.Deep.choose_lt each
  have hat : ∀ i, i < n → seAt ((List.range n).map q) i = q i := fun i hi => by
   unfold seAt
   rw [List.getD_eq_getElem?_getD, List.getElem?_map, List.getElem?_range hi]
   rfl
  refine ⟨(List.range n).map q, ⟨by simp, fun i hi => ?_⟩, by omega, fun x hx => ?_⟩
  ·
   obtain ⟨⟨a2, c2, a5, c5, cc, w2, w5⟩, _⟩ := hq i hi
   have hsp : ad.spot = none := by
    obtain ⟨⟨_, _, _, _, c3, _⟩, _⟩ := hq 0 (by omega)
    have := World.cell?_spot c3.1
    simpa [Addr.add] using this
   obtain ⟨b, off, sp⟩ := ad
   simp only at hsp
   subst hsp
   simp only [addr_add] at cc
   rw [hat i hi]
   have hlt := World.block_lt_of_cell? W _ cc.1
   exact ⟨b, off, rfl, hlt, a2, c2, a5, c5, ⟨by simpa [Nat.add_assoc] using cc.1, by simpa [Nat.add_assoc] using cc.2.1, by simpa [Nat.add_assoc] using cc.2.2.1, by simpa [Nat.add_assoc] using cc.2.2.2.1, by simpa [Nat.add_assoc] using cc.2.2.2.2.1, by simpa [Nat.add_assoc] using cc.2.2.2.2.2.1, by simpa [Nat.add_assoc] using cc.2.2.2.2.2.2.1, by simpa [Nat.add_assoc] using cc.2.2.2.2.2.2.2⟩, w2, w5⟩
  ·
   obtain ⟨i, hi, rfl⟩ := List.mem_map.1 hx
   exact (hq i (List.mem_range.1 hi)).2
end Go.Proofs.YtanpngnpolhgbaaGreat
namespace Go.Proofs.YtanpngnpolhgbaaGreat
open Go.RowKit
open Go.Lib hiding intOf
/-- A list of Reply among the arguments. -/
theorem openReplyS {H : Type} {enc : TypeId × Value → H} {W : World} {fuel : Nat} {a : Option Addr} {n cap : Nat} {x : DataW H × List MemPlace} (h : DataW.trod enc Tryz.prog W 0 (fun _ => true) true fuel 32 [.slice a n cap] = some x) :
  ∃ ks, ArgReply W W.heap.size a n ks ∧ n ≤ maxLen ∧ ∀ k ∈ ks, RpMax k := by
 rcases Go.Deep.open_slice Tryz.underlying32 h with ⟨hcs, _⟩ | ⟨ad, len, c, m, q, Dd, Pl, hcs, _, hl, hm, hmm, _, hx⟩
 ·
  simp at hcs
  obtain ⟨rfl, rfl, rfl⟩ := hcs
  exact ⟨[], ⟨rfl, fun i hi => absurd hi (by omega)⟩, Nat.zero_le _, fun x hx => by simp at hx⟩
 ·
  simp at hcs
  obtain ⟨rfl, rfl, rfl⟩ := hcs
  have hm2 : m = cap := by simpa using hmm
  have ce : Tryz.prog.cellsOf 99 = 18 := by kernel_rfl
  have ci : Tryz.prog.cellsOf 3 = 1 := by kernel_rfl
  have cReq : Tryz.prog.cellsOf 87 = 4 := by kernel_rfl
  have cResp : Tryz.prog.cellsOf 89 = 3 := by kernel_rfl
  have cObj : Tryz.prog.cellsOf 91 = 7 := by kernel_rfl
  have each : ∀ i, i < n → ∃ y : RpD, (∃ (a3 : Option Addr) (c3 : Nat) (a6 : Option Addr) (c6 : Nat) (a11 : Option Addr) (c11 : Nat) (a12 : Option Addr) (c12 : Nat) (a14 : Option Addr) (c14 : Nat), (W.cell? (ad.add (i * 18 + 0)) = some (.int .i64 y.cli) ∧ W.cell? (ad.add (i * 18 + 1)) = some (.int .i64 y.qmt) ∧ W.cell? (ad.add (i * 18 + 2)) = some (.string y.qpa) ∧ W.cell? (ad.add (i * 18 + 3)) = some (.slice a3 y.qfs.length c3) ∧ W.cell? (ad.add (i * 18 + 4)) = some (.string y.qbd) ∧ W.cell? (ad.add (i * 18 + 5)) = some (.int .i64 y.rst) ∧ W.cell? (ad.add (i * 18 + 6)) = some (.slice a6 y.rfs.length c6) ∧ W.cell? (ad.add (i * 18 + 7)) = some (.string y.rbd) ∧ W.cell? (ad.add (i * 18 + 8)) = some (.int .i64 y.knd) ∧ W.cell? (ad.add (i * 18 + 9)) = some (.int .i64 y.tim) ∧ W.cell? (ad.add (i * 18 + 10)) = some (.string y.opa) ∧ W.cell? (ad.add (i * 18 + 11)) = some (.slice a11 y.oxs.length c11) ∧ W.cell? (ad.add (i * 18 + 12)) = some (.slice a12 y.oys.length c12) ∧ W.cell? (ad.add (i * 18 + 13)) = some (.int .i64 y.ost) ∧ W.cell? (ad.add (i * 18 + 14)) = some (.slice a14 y.ofs.length c14) ∧ W.cell? (ad.add (i * 18 + 15)) = some (.string y.obd) ∧ W.cell? (ad.add (i * 18 + 16)) = some (.int .i64 y.otm) ∧ W.cell? (ad.add (i * 18 + 17)) = some (.int .i64 y.bns)) ∧ ArgF W W.heap.size a3 y.qfs.length y.qfs ∧ ArgF W W.heap.size a6 y.rfs.length y.rfs ∧ ArgT W W.heap.size a11 y.oxs.length y.oxs ∧ ArgT W W.heap.size a12 y.oys.length y.oys ∧ ArgF W W.heap.size a14 y.ofs.length y.ofs) ∧ RpMax y := by
   intro i hi
   obtain ⟨cs', h1, h2⟩ := hx i (by omega)
   rw [ce] at h1
   obtain ⟨_, hlen, hcell⟩ := World.cells?_some h1
   obtain ⟨xs, k, hk, hxy, _, hxl, hf⟩ := DataW.trod_struct Tryz.underlying99 h2
   match xs, hxl, cs', hlen with
   | [x0, x1, x2, x3, x4, x5, x6], _, [v0, v1, v2, v3, v4, v5, v6, v7, v8, v9, v10, v11, v12, v13, v14, v15, v16, v17], _ =>
    have g0 := hf 0 _ rfl
    have g1 := hf 1 _ rfl
    have g2 := hf 2 _ rfl
    have g3 := hf 3 _ rfl
    have g4 := hf 4 _ rfl
    have g5 := hf 5 _ rfl
    have g6 := hf 6 _ rfl
    simp [ci, cReq, cResp, cObj] at g0 g1 g2 g3 g4 g5 g6
    obtain ⟨cli, e0, _, _⟩ := DataW.trod_int Tryz.underlying3 g0
    simp only [List.cons.injEq, and_true] at e0
    subst e0
    obtain ⟨qmt, qpa, qfs, qbd, a3, n3, c3, ⟨rfl, rfl, rfl, rfl⟩, w3, m3, s3, zqpa, zqbd⟩ := cellsReq g1
    obtain ⟨rst, rfs, rbd, a6, n6, c6, ⟨rfl, rfl, rfl⟩, w6, m6, s6, zrbd⟩ := cellsResp g2
    obtain ⟨knd, e3, _, _⟩ := DataW.trod_int Tryz.underlying3 g3
    simp only [List.cons.injEq, and_true] at e3
    subst e3
    obtain ⟨tim, e4, _, _⟩ := DataW.trod_int Tryz.underlying3 g4
    simp only [List.cons.injEq, and_true] at e4
    subst e4
    obtain ⟨opa, a11, n11, c11, oxs, a12, n12, c12, oys, ost, a14, n14, c14, ofs, obd, otm, ⟨rfl, rfl, rfl, rfl, rfl, rfl, rfl⟩, w11, w12, w14, m11, m12, m14, s11, s12, s14, zopa, zobd⟩ := objCells g5
    obtain ⟨bns, e6, _, _⟩ := DataW.trod_int Tryz.underlying3 g6
    simp only [List.cons.injEq, and_true] at e6
    subst e6
    obtain rfl := w3.len
    obtain rfl := w6.len
    obtain rfl := w11.len
    obtain rfl := w12.len
    obtain rfl := w14.len
    have c0x := hcell 0 (by omega)
    have c1x := hcell 1 (by omega)
    have c2x := hcell 2 (by omega)
    have c3x := hcell 3 (by omega)
    have c4x := hcell 4 (by omega)
    have c5x := hcell 5 (by omega)
    have c6x := hcell 6 (by omega)
    have c7x := hcell 7 (by omega)
    have c8x := hcell 8 (by omega)
    have c9x := hcell 9 (by omega)
    have c10x := hcell 10 (by omega)
    have c11x := hcell 11 (by omega)
    have c12x := hcell 12 (by omega)
    have c13x := hcell 13 (by omega)
    have c14x := hcell 14 (by omega)
    have c15x := hcell 15 (by omega)
    have c16x := hcell 16 (by omega)
    have c17x := hcell 17 (by omega)
    rw [Go.Deep.add_add] at c0x c1x c2x c3x c4x c5x c6x c7x c8x c9x c10x c11x c12x c13x c14x c15x c16x c17x
    refine ⟨⟨cli, qmt, qpa, qfs, qbd, rst, rfs, rbd, knd, tim, opa, oxs, oys, ost, ofs, obd, otm, bns⟩, ⟨a3, c3, a6, c6, a11, c11, a12, c12, a14, c14, ⟨by simpa using c0x, by simpa using c1x, by simpa using c2x, by simpa using c3x, by simpa using c4x, by simpa using c5x, by simpa using c6x, by simpa using c7x, by simpa using c8x, by simpa using c9x, by simpa using c10x, by simpa using c11x, by simpa using c12x, by simpa using c13x, by simpa using c14x, by simpa using c15x, by simpa using c16x, by simpa using c17x⟩, w3, w6, w11, w12, w14⟩, ⟨zqpa, ⟨m3, s3⟩, zqbd, ⟨m6, s6⟩, zrbd, zopa, ⟨m11, s11⟩, ⟨m12, s12⟩, ⟨m14, s14⟩, zobd⟩⟩
  haveI : Inhabited RpD := ⟨zeroRp⟩
  obtain ⟨q, hq⟩ := Go.Deep.choose_lt each
  have hat : ∀ i, i < n → rpAt ((List.range n).map q) i = q i := fun i hi => by
   unfold rpAt
   rw [List.getD_eq_getElem?_getD, List.getElem?_map, List.getElem?_range hi]
   rfl
  refine ⟨(List.range n).map q, ⟨by simp, fun i hi => ?_⟩, by omega, fun x hx => ?_⟩
  ·
   obtain ⟨⟨a3, c3, a6, c6, a11, c11, a12, c12, a14, c14, cc, w3, w6, w11, w12, w14⟩, _⟩ := hq i hi
   have hsp : ad.spot = none := by
    obtain ⟨⟨_, _, _, _, _, _, _, _, _, _, c3, _⟩, _⟩ := hq 0 (by omega)
    have := World.cell?_spot c3.1
    simpa [Addr.add] using this
   obtain ⟨b, off, sp⟩ := ad
   simp only at hsp
   subst hsp
   simp only [addr_add] at cc
   rw [hat i hi]
   have hlt := World.block_lt_of_cell? W _ cc.1
   exact ⟨b, off, rfl, hlt, a3, c3, a6, c6, a11, c11, a12, c12, a14, c14, ⟨by simpa [Nat.add_assoc] using cc.1, by simpa [Nat.add_assoc] using cc.2.1, by simpa [Nat.add_assoc] using cc.2.2.1, by simpa [Nat.add_assoc] using cc.2.2.2.1, by simpa [Nat.add_assoc] using cc.2.2.2.2.1, by simpa [Nat.add_assoc] using cc.2.2.2.2.2.1, by simpa [Nat.add_assoc] using cc.2.2.2.2.2.2.1, by simpa [Nat.add_assoc] using cc.2.2.2.2.2.2.2.1, by simpa [Nat.add_assoc] using cc.2.2.2.2.2.2.2.2.1, by simpa [Nat.add_assoc] using cc.2.2.2.2.2.2.2.2.2.1, by simpa [Nat.add_assoc] using cc.2.2.2.2.2.2.2.2.2.2.1, by simpa [Nat.add_assoc] using cc.2.2.2.2.2.2.2.2.2.2.2.1, by simpa [Nat.add_assoc] using cc.2.2.2.2.2.2.2.2.2.2.2.2.1, by simpa [Nat.add_assoc] using cc.2.2.2.2.2.2.2.2.2.2.2.2.2.1, by simpa [Nat.add_assoc] using cc.2.2.2.2.2.2.2.2.2.2.2.2.2.2.1, by simpa [Nat.add_assoc] using cc.2.2.2.2.2.2.2.2.2.2.2.2.2.2.2.1, by simpa [Nat.add_assoc] using cc.2.2.2.2.2.2.2.2.2.2.2.2.2.2.2.2.1, by simpa [Nat.add_assoc] using cc.2.2.2.2.2.2.2.2.2.2.2.2.2.2.2.2.2⟩, w3, w6, w11, w12, w14⟩
  ·
   obtain ⟨i, hi, rfl⟩ := List.mem_map.1 hx
   exact (hq i (List.mem_range.1 hi)).2
end Go.Proofs.YtanpngnpolhgbaaGreat
namespace Go.Proofs.YtanpngnpolhgbaaGreat
open Go.RowKit Go.WideShapes
open Go.Lib hiding intOf
/-- A store's six cells among the arguments. -/
theorem cellsShelf {H : Type} {enc : TypeId × Value → H} {W : World} {fuel : Nat} {d0 d1 d2 d3 d4 d5 : Value} {x : DataW H × List MemPlace} (hf : DataW.trod enc Tryz.prog W 0 (fun _ => true) true fuel 29 [d0, d1, d2, d3, d4, d5] = some x) :
  ∃ (a1 : Option Addr) (n1 c1 : Nat) (cs : List ByteArray) (a2 : Option Addr) (n2 c2 : Nat) (ws : List (Int × ByteArray)) (a3 : Option Addr) (n3 c3 : Nat) (ks : List KpD) (a4 : Option Addr) (n4 c4 : Nat) (bl : List (Int × ByteArray × ByteArray × Int)) (nx sq : Int), (d0 = .slice a1 n1 c1 ∧ d1 = .slice a2 n2 c2 ∧ d2 = .slice a3 n3 c3 ∧ d3 = .slice a4 n4 c4 ∧ d4 = .int .i64 nx ∧ d5 = .int .i64 sq) ∧ ArgT W W.heap.size a1 n1 cs ∧ ArgWrite W W.heap.size a2 n2 ws ∧ ArgKept W W.heap.size a3 n3 ks ∧ ArgBan W W.heap.size a4 n4 bl ∧ (n1 ≤ maxLen ∧ n2 ≤ maxLen ∧ n3 ≤ maxLen ∧ n4 ≤ maxLen ∧ (∀ i, i < n1 → (textAt cs i).size ≤ maxLen) ∧ (∀ x ∈ ws, (x.2).size ≤ maxLen) ∧ (∀ k ∈ ks, KpMax k) ∧ ∀ x ∈ bl, (x.2.1).size ≤ maxLen ∧ (x.2.2.1).size ≤ maxLen) := by
 obtain ⟨ys, q, _, _, _, hyl, hg⟩ := DataW.trod_struct Tryz.underlying29 hf
 have hcD : Tryz.prog.cellsOf 25 = 2 := by kernel_rfl
 have e3 : Tryz.prog.cellsOf 3 = 1 := by kernel_rfl
 have eK : Tryz.prog.cellsOf 26 = 1 := by kernel_rfl
 have eB : Tryz.prog.cellsOf 27 = 1 := by kernel_rfl
 have eS : Tryz.prog.cellsOf 22 = 1 := by kernel_rfl
 have eW : Tryz.prog.cellsOf 23 = 1 := by kernel_rfl
 have g0 := hg 0 _ rfl
 have g1 := hg 1 _ rfl
 have g2 := hg 2 _ rfl
 have g3 := hg 3 _ rfl
 have g4 := hg 4 _ rfl
 simp [e3, eK, eB, hcD] at g0 g1 g2 g3 g4
 have hy5 : ys.length = 5 := hyl
 rw [List.getElem?_eq_getElem (show 0 < ys.length by omega)] at g0
 rw [List.getElem?_eq_getElem (show 1 < ys.length by omega)] at g1
 rw [List.getElem?_eq_getElem (show 2 < ys.length by omega)] at g2
 rw [List.getElem?_eq_getElem (show 3 < ys.length by omega)] at g3
 rw [List.getElem?_eq_getElem (show 4 < ys.length by omega)] at g4
 obtain ⟨zs, q2, _, _, _, hzl, hk⟩ := DataW.trod_struct Tryz.underlying25 g0
 have k0 := hk 0 _ rfl
 have k1 := hk 1 _ rfl
 simp [eS, eW] at k0 k1
 have hz2 : zs.length = 2 := hzl
 rw [List.getElem?_eq_getElem (show 0 < zs.length by omega)] at k0
 rw [List.getElem?_eq_getElem (show 1 < zs.length by omega)] at k1
 obtain ⟨a1, n1, c1, rfl⟩ : ∃ a n cap, d0 = .slice a n cap := by
  rcases DataW.trod_slice Tryz.underlying22 k0 with ⟨h, _⟩ | ⟨a, n, cap, _, _, _, _, h, _⟩
  · exact ⟨none, 0, 0, by simpa using h⟩
  · exact ⟨_, n, cap, by simpa using h⟩
 obtain ⟨a2, n2, c2, rfl⟩ : ∃ a n cap, d1 = .slice a n cap := by
  rcases DataW.trod_slice Tryz.underlying23 k1 with ⟨h, _⟩ | ⟨a, n, cap, _, _, _, _, h, _⟩
  · exact ⟨none, 0, 0, by simpa using h⟩
  · exact ⟨_, n, cap, by simpa using h⟩
 obtain ⟨a3, n3, c3, rfl⟩ : ∃ a n cap, d2 = .slice a n cap := by
  rcases DataW.trod_slice Tryz.underlying26 g1 with ⟨h, _⟩ | ⟨a, n, cap, _, _, _, _, h, _⟩
  · exact ⟨none, 0, 0, by simpa using h⟩
  · exact ⟨_, n, cap, by simpa using h⟩
 obtain ⟨a4, n4, c4, rfl⟩ : ∃ a n cap, d3 = .slice a n cap := by
  rcases DataW.trod_slice Tryz.underlying27 g2 with ⟨h, _⟩ | ⟨a, n, cap, _, _, _, _, h, _⟩
  · exact ⟨none, 0, 0, by simpa using h⟩
  · exact ⟨_, n, cap, by simpa using h⟩
 obtain ⟨nx, h4, _, _⟩ := DataW.trod_int Tryz.underlying3 g3
 obtain ⟨sq, h5, _, _⟩ := DataW.trod_int Tryz.underlying3 g4
 obtain ⟨xs, x1, x2, x3⟩ := openTexts k0
 obtain ⟨ws, y1, y2, y3⟩ := openWriteS k1
 obtain ⟨ks, z1, z2, z3⟩ := openKeptS g1
 obtain ⟨bl, b1, b2, b3⟩ := openBanS g2
 simp only [List.cons.injEq, and_true] at h4 h5
 subst h4 h5
 exact ⟨a1, n1, c1, xs, a2, n2, c2, ws, a3, n3, c3, ks, a4, n4, c4, bl, nx, sq, ⟨rfl, rfl, rfl, rfl, rfl, rfl⟩, x1, y1, z1, b1, x2, y2, z2, b2, x3, y3, z3, b3⟩
/-- A cache among the arguments: what it holds. -/
theorem openCache {H : Type} {enc : TypeId × Value → H} {W : World} {r : Reach} {b0 : Nat} {v : Value} {d : DataW H} {ps : List MemPlace} (hval : Value.okWide Tryz.prog W r b0 34 v) (h : DataW.Trod enc Tryz.prog W 0 (fun _ => true) true 34 v d ps) :
  ∃ (a1 : Option Addr) (n1 c1 : Nat) (cs : List ByteArray) (a2 : Option Addr) (n2 c2 : Nat) (ws : List (Int × ByteArray)) (a3 : Option Addr) (n3 c3 : Nat) (ks : List KpD) (a4 : Option Addr) (n4 c4 : Nat) (bl : List (Int × ByteArray × ByteArray × Int)) (nx sq : Int) (a5 : Option Addr) (n5 c5 : Nat) (fl : List FlD) (now : Int) (a6 : Option Addr) (n6 c6 : Nat) (se : List SeD) (a7 : Option Addr) (n7 c7 : Nat) (sn : List RpD), v = .agg #[.slice a1 n1 c1, .slice a2 n2 c2, .slice a3 n3 c3, .slice a4 n4 c4, .int .i64 nx, .int .i64 sq, .slice a5 n5 c5, .int .i64 now, .slice a6 n6 c6, .slice a7 n7 c7] ∧ ArgT W W.heap.size a1 n1 cs ∧ ArgWrite W W.heap.size a2 n2 ws ∧ ArgKept W W.heap.size a3 n3 ks ∧ ArgBan W W.heap.size a4 n4 bl ∧ ArgFlight W W.heap.size a5 n5 fl ∧ ArgSeen W W.heap.size a6 n6 se ∧ ArgReply W W.heap.size a7 n7 sn ∧ ((n1 ≤ maxLen ∧ n2 ≤ maxLen ∧ n3 ≤ maxLen ∧ n4 ≤ maxLen ∧ (∀ i, i < n1 → (textAt cs i).size ≤ maxLen) ∧ (∀ x ∈ ws, (x.2).size ≤ maxLen) ∧ (∀ k ∈ ks, KpMax k) ∧ ∀ x ∈ bl, (x.2.1).size ≤ maxLen ∧ (x.2.2.1).size ≤ maxLen) ∧ (n5 ≤ maxLen ∧ ∀ k ∈ fl, FlMax k) ∧ (n6 ≤ maxLen ∧ ∀ k ∈ se, SeMax k) ∧ n7 ≤ maxLen ∧ ∀ k ∈ sn, RpMax k) := by
 obtain ⟨cs, rfl, hsz⟩ := okWide_struct Tryz.underlying34 hval
 obtain ⟨fuel, hf⟩ := h
 obtain ⟨ys, q, _, _, _, hyl, hg⟩ := DataW.trod_struct Tryz.underlying34 hf
 have hcC : Tryz.prog.cellsOf 34 = 10 := by kernel_rfl
 have hcH : Tryz.prog.cellsOf 29 = 6 := by kernel_rfl
 have e3 : Tryz.prog.cellsOf 3 = 1 := by kernel_rfl
 have eF : Tryz.prog.cellsOf 30 = 1 := by kernel_rfl
 have eS : Tryz.prog.cellsOf 31 = 1 := by kernel_rfl
 have eR : Tryz.prog.cellsOf 32 = 1 := by kernel_rfl
 rw [hcC] at hsz
 obtain ⟨l⟩ := cs
 obtain ⟨d0, d1, d2, d3, d4, d5, d6, d7, d8, d9, rfl⟩ : ∃ d0 d1 d2 d3 d4 d5 d6 d7 d8 d9, l = [d0, d1, d2, d3, d4, d5, d6, d7, d8, d9] := by
  match l, hsz with
  | [d0, d1, d2, d3, d4, d5, d6, d7, d8, d9], _ => exact ⟨d0, d1, d2, d3, d4, d5, d6, d7, d8, d9, rfl⟩
 have g0 := hg 0 _ rfl
 have g1 := hg 1 _ rfl
 have g2 := hg 2 _ rfl
 have g3 := hg 3 _ rfl
 have g4 := hg 4 _ rfl
 simp [Value.cells, e3, eF, eS, eR, hcH] at g0 g1 g2 g3 g4
 have hy5 : ys.length = 5 := hyl
 rw [List.getElem?_eq_getElem (show 0 < ys.length by omega)] at g0
 rw [List.getElem?_eq_getElem (show 1 < ys.length by omega)] at g1
 rw [List.getElem?_eq_getElem (show 2 < ys.length by omega)] at g2
 rw [List.getElem?_eq_getElem (show 3 < ys.length by omega)] at g3
 rw [List.getElem?_eq_getElem (show 4 < ys.length by omega)] at g4
 obtain ⟨a5, n5, c5, rfl⟩ : ∃ a n cap, d6 = .slice a n cap := by
  rcases DataW.trod_slice Tryz.underlying30 g1 with ⟨h, _⟩ | ⟨a, n, cap, _, _, _, _, h, _⟩
  · exact ⟨none, 0, 0, by simpa using h⟩
  · exact ⟨_, n, cap, by simpa using h⟩
 obtain ⟨a6, n6, c6, rfl⟩ : ∃ a n cap, d8 = .slice a n cap := by
  rcases DataW.trod_slice Tryz.underlying31 g3 with ⟨h, _⟩ | ⟨a, n, cap, _, _, _, _, h, _⟩
  · exact ⟨none, 0, 0, by simpa using h⟩
  · exact ⟨_, n, cap, by simpa using h⟩
 obtain ⟨a7, n7, c7, rfl⟩ : ∃ a n cap, d9 = .slice a n cap := by
  rcases DataW.trod_slice Tryz.underlying32 g4 with ⟨h, _⟩ | ⟨a, n, cap, _, _, _, _, h, _⟩
  · exact ⟨none, 0, 0, by simpa using h⟩
  · exact ⟨_, n, cap, by simpa using h⟩
 obtain ⟨now, h2, _, _⟩ := DataW.trod_int Tryz.underlying3 g2
 obtain ⟨a1, n1, c1, cs, a2, n2, c2, ws, a3, n3, c3, ks, a4, n4, c4, bl, nx, sq, ⟨rfl, rfl, rfl, rfl, rfl, rfl⟩, w1, w2, w3, w4, hmx⟩ := cellsShelf g0
 obtain ⟨fl, x1, x2, x3⟩ := openFlightS g1
 obtain ⟨se, y1, y2, y3⟩ := openSeenS g3
 obtain ⟨sn, z1, z2, z3⟩ := openReplyS g4
 simp only [List.cons.injEq, and_true] at h2
 subst h2
 exact ⟨a1, n1, c1, cs, a2, n2, c2, ws, a3, n3, c3, ks, a4, n4, c4, bl, nx, sq, a5, n5, c5, fl, now, a6, n6, c6, se, a7, n7, c7, sn, rfl, w1, w2, w3, w4, x1, y1, z1, hmx, ⟨x2, x3⟩, ⟨y2, y3⟩, z2, z3⟩
end Go.Proofs.YtanpngnpolhgbaaGreat
