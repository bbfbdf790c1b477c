/- What the proof of FnExactMount leans on: contracts of the program's and the specification's functions, and plain facts (part 9 of 12). -/
import Derived.Test.YtiobfnpmidjijaaGreatDoorFnExactMountH
set_option maxHeartbeats 16000000
set_option maxRecDepth 100000
namespace Go.Proofs.YtiobfnpmidjijaaGreatDoor
open Go.Proofs.Tryz
open Go.RowKit
open Go.Lib hiding intOf
def dT5 (ws : List (Int × ByteArray)) : Prop := ∀ x ∈ ws, 0 ≤ x.1 ∧ x.1 ≤ 19
theorem dT6 : prog.eqGuardType prog.depth 125 = false := by kernel_rfl
theorem dT7 (xs ys : Ts) (hx : xs.length = 20) (hy : ys.length = 20) (w : World) :
  (Op.equalIn 10000 125 (.agg (aE1 xs)) (.agg (aE1 ys))).run prog w = .ok ((List.range' 0 20 1).all (fun i => (aA7 xs i).toList == (aA7 ys i).toList)) w := by
 rw [show (10000 : Nat) = 9999 + 1 from rfl, Op.equalIn];simp only [Sem.run_bind, run_underlying underlying125, Result.andThen_ok, sizeOf9, Std.Legacy.Range.forIn_eq_forIn_range', Std.Legacy.Range.size, Nat.sub_zero, Nat.add_sub_cancel, Nat.div_one]
 have hl : ∀ i ∈ List.range' 0 20 1, i < 20 := fun i hi => by simpa using (List.mem_range'_1.1 hi).2
 generalize List.range' 0 20 1 = l at hl ⊢;induction l with
 | nil => simp
 | cons i l ih =>
  have hi : i < 20 := hl i (by simp)
  have px : ∀ zs : Ts, zs.length = 20 → (part 9 (aE1 zs) (i * 1)).run prog w = .ok (.string (aA7 zs i)) w := fun zs hz => by
   simp [part, isAgg9, bH3 zs i (by omega)]
  have pe : (Op.equalIn 9999 9 (.string (aA7 xs i)) (.string (aA7 ys i))).run prog w = .ok ((aA7 xs i).toList == (aA7 ys i).toList) w := run_equalIn_string w 9998 9 _ _ underlying9
  simp only [List.forIn_cons, Sem.run_bind, px xs hx, px ys hy, pe, Result.andThen_ok, List.all_cons]
  cases hb : ((aA7 xs i).toList == (aA7 ys i).toList)
  ·simp
  ·simp only [Bool.not_true, Bool.false_eq_true, if_false, Sem.run_pure, Result.andThen_ok, Bool.true_and]
   exact ih fun j hj => hl j (by simp [hj])
theorem neqA (xs ys : Ts) (hx : xs.length = 20) (hy : ys.length = 20) (w : World) :
  (binOp .neq 125 (.agg (aE1 xs)) (.agg (aE1 ys))).run prog w = .ok (.bool (!((List.range' 0 20 1).all (fun i => (aA7 xs i).toList == (aA7 ys i).toList)))) w := by
 rw [run_neq_struct, dT7 xs ys hx hy];rfl
theorem dT8 (x : Int) (h : 0 ≤ x ∧ x ≤ 19) (w : World) : (binOp .neq 125 (.agg (aE1 (aP3 aP1 x ⟨#[120]⟩))) (.agg #[.string ⟨#[]⟩, .string ⟨#[]⟩, .string ⟨#[]⟩, .string ⟨#[]⟩, .string ⟨#[]⟩, .string ⟨#[]⟩, .string ⟨#[]⟩, .string ⟨#[]⟩, .string ⟨#[]⟩, .string ⟨#[]⟩, .string ⟨#[]⟩, .string ⟨#[]⟩, .string ⟨#[]⟩, .string ⟨#[]⟩, .string ⟨#[]⟩, .string ⟨#[]⟩, .string ⟨#[]⟩, .string ⟨#[]⟩, .string ⟨#[]⟩, .string ⟨#[]⟩])).run prog w = .ok (.bool true) w := by
 have h1 := neqA (aP3 aP1 x ⟨#[120]⟩) aP1 (bT4 _ _ _) rfl w;rw [bT3] at h1;rw [h1]
 have h2 : aA7 (aP3 aP1 x ⟨#[120]⟩) x.toNat = ⟨#[120]⟩ := by
  unfold aP3
  rw [if_pos ⟨h.1, by omega⟩, bI4, if_pos ⟨rfl, by rw [bA3]; omega⟩]
 have h3 : aA7 aP1 x.toNat = ⟨#[]⟩ := by
  unfold aA7 aP1
  rw [List.getD_eq_getElem?_getD, List.getElem?_replicate, if_pos (by omega)]
  rfl
 have h4 : ((List.range' 0 20 1).all (fun i => (aA7 (aP3 aP1 x ⟨#[120]⟩) i).toList == (aA7 aP1 i).toList)) = false := by
  rw [List.all_eq_false]
  refine ⟨x.toNat, List.mem_range'_1.2 ⟨by omega, by omega⟩, ?_⟩
  rw [h2, h3, ← beq_toListBytes]
  decide
 rw [h4];rfl
theorem dP5 (x : Int) (h : ¬ (0 ≤ x ∧ x ≤ 19)) (w : World) : (binOp .neq 125 (.agg (aE1 (aP3 aP1 x ⟨#[120]⟩))) (.agg #[.string ⟨#[]⟩, .string ⟨#[]⟩, .string ⟨#[]⟩, .string ⟨#[]⟩, .string ⟨#[]⟩, .string ⟨#[]⟩, .string ⟨#[]⟩, .string ⟨#[]⟩, .string ⟨#[]⟩, .string ⟨#[]⟩, .string ⟨#[]⟩, .string ⟨#[]⟩, .string ⟨#[]⟩, .string ⟨#[]⟩, .string ⟨#[]⟩, .string ⟨#[]⟩, .string ⟨#[]⟩, .string ⟨#[]⟩, .string ⟨#[]⟩, .string ⟨#[]⟩])).run prog w = .ok (.bool false) w := by
 have e : aP3 aP1 x ⟨#[120]⟩ = aP1 := by unfold aP3; rw [if_neg (fun h2 => h ⟨h2.1, by omega⟩)]
 have h1 := neqA aP1 aP1 rfl rfl w;rw [e];rw [bT3] at h1 ⊢;rw [h1]
 have h4 : ((List.range' 0 20 1).all (fun i => (aA7 aP1 i).toList == (aA7 aP1 i).toList)) = true := by
  rw [List.all_eq_true]
  exact fun i _ => by simp
 rw [h4];rfl
theorem bJ6 (x : Int) (w : World) :
  Calls prog 161 #[.int .i64 x] w fun e w' => aA5 (0 ≤ x ∧ x ≤ 19) w e w' := by
 have a2 := dT6;by_cases h : 0 ≤ x ∧ x ≤ 19
 rotate_left
 ·have a1 := dP5 x h;have HH := hid h;clear h;go_enter func161, ntmps161;go_wp2_with fail
  refine (cF2 aP1 rfl x ⟨#[120]⟩ _).mono ?_;rintro e w1 ⟨rfl, bw⟩;have a0 : Hid (Bw w w1) := bw;clear bw;go_wp2_with fail
  go_ret;exact aA5.no HH.out a0.out
 have a1 := dT8 x h;have HH := hid h;clear h;go_enter func161, ntmps161;go_wp2_with fail
 refine (cF2 aP1 rfl x ⟨#[120]⟩ _).mono ?_;rintro e w1 ⟨rfl, bw⟩;have a0 : Hid (Bw w w1) := bw;clear bw;go_wp2_with fail
 go_ret;exact ⟨true, rfl, ⟨fun _ => HH.out, fun _ => rfl⟩, a0.out⟩
theorem bV7 (o : Oa) (n c : Nat) (ws : List (Int × ByteArray)) (w : World) (h : aV6 w o n ws) (hn : n ≤ 2000000) :
  Calls prog 160 #[.slice o n c] w fun e w' => aA5 (dT5 ws) w e w' := by
 have HW := hid h;clear h;go_enter func160, ntmps160;go_wp2_with fail
 go_loopw [7] (fun i wr => ∃ j : Nat, j ≤ n ∧ i = .int .i64 (j : Int) ∧ Hid (Bw w wr) ∧ Hid (∀ x ∈ ws.take j, 0 ≤ x.1 ∧ x.1 ≤ 19)) (fun i _ => n - (intOf i).toNat)
 case atStart => exact ⟨0, Nat.zero_le _, rfl, Below.refl _ _, fun x hx => by simp at hx⟩
 case round =>
  obtain ⟨j, hj, rfl, HB, HN⟩ := hrel;by_cases hlt : (j : Int) < (n : Int)
  rotate_left
  ·have a2 : Hid (dT5 ws) := fun x hx => HN.out x (by rw [List.take_of_length_le (by rw [HW.out.1]; omega)]; exact hx)
   clear HN;go_wp2_with fail
   go_ret;exact ⟨true, rfl, ⟨fun _ => a2.out, fun _ => rfl⟩, HB.out⟩
  have a0 : j < ws.length := by rw [HW.out.1]; omega
  obtain ⟨g, rfl, hg, r0, r1⟩ := (HW.out.below HB.out).2 j (by omega);obtain ⟨y, hy⟩ := exq (aC6 ws j);have HM : Hid (y ∈ ws) := by show _ ∈ _; rw [hy]; exact aJ1 ws j a0
  have a3 : Hid (ws.take (j + 1) = ws.take j ++ [y]) := by show _ = _; rw [hy]; exact aU3 ws j a0
  rw [← hy] at r0 r1;obtain ⟨y0, y1⟩ := y;simp only at r0 r1
  clear hy a0;go_wp2_with fail
  refine (bJ6 y0 _).mono ?_;rintro e w4 ⟨b, rfl, hb, bw⟩;have a1 : Hid (Bw w w4) := (HB.out.alloc HB.out.size _).trans (bw.mono (Nat.le_trans HB.out.size (by simp)));clear bw r0 r1;cases b with
  | true =>
   have HY : Hid (0 ≤ y0 ∧ y0 ≤ 19) := hb.1 rfl;clear hb;go_wp2_with fail
   go_roundw
   case rel =>
    refine ⟨j + 1, by omega, by go_num, a1, fun x hx => ?_⟩
    rw [a3.out] at hx;rcases List.mem_append.1 hx with hx | hx
    ·exact HN.out x hx
    rw [List.mem_singleton.1 hx]; exact HY.out
   case measure => simp [intOf]; omega
  | false =>
   have HY : Hid (¬ (0 ≤ y0 ∧ y0 ≤ 19)) := fun h => nomatch hb.2 h
   clear hb;go_wp2_with fail
   go_ret;exact aA5.no (fun h => HY.out (h _ HM.out)) a1.out
theorem aL6 (o : Oa) (n c : Nat) (xs : Ts) (w : World) (h : aC0 w o n xs) (hn : n ≤ 2000000) (hz : ∀ i, i < n → (aA7 xs i).size ≤ 1048576) :
  Calls prog 175 #[.slice o n c] w fun e w' => ∃ v, e = .returned v ∧ w'.ownsRow w.heap.size 9 1 v n (xs.map Value.string) ∧ Below w.heap.size w w' := by
 obtain ⟨i0, hi, a7, a8, a9⟩ := info_parts bU4;obtain ⟨M, hM⟩ : ∃ M, M = madeCells (Value.string ⟨#[]⟩).cells (((n : Nat) : Int).toNat * i0.size) := ⟨_, rfl⟩
 have b5 : ∀ W : World, (Instr.makeSlice 24 (.int .i64 (n : Int)) (.int .i64 (n : Int))).run prog W = .ok (.slice (some ⟨W.heap.size, 0, none⟩) n n) (W.alloc (.cells M 9)) := fun W => by
  have h := run_make (P := prog) W 24 9 i0 (Value.string ⟨#[]⟩) underlying24 hi a7 .i64 .i64 (n : Int) (n : Int) (by omega) (by omega) (by rw [a9]; omega) (by omega)
  rw [← hM] at h
  simpa using h
 have b0 : M.size = n := by rw [hM, size_madeCells, a8]; simp
 have HA := hid h;have HZ := hid hz;have a3 : Hid (xs.length = n) := h.1;clear hM h hz;have HP : Hid (bP5 (w.alloc (.cells M 9)) w.heap.size n 0 xs) := ⟨M, heap_alloc_new w _, b0, fun i h => absurd h (by omega)⟩
 go_enter func175, ntmps175;go_wp2_with fail
 go_loopw [11] (fun i wr => ∃ k : Nat, k ≤ n ∧ i = .int .i64 (k : Int) ∧ Hid (bP5 wr w.heap.size n k xs) ∧ Hid (Bw w wr)) (fun i _ => n - (intOf i).toNat)
 case atStart => exact ⟨0, Nat.zero_le _, rfl, HP, (Below.refl _ _).alloc (Nat.le_refl _) _⟩
 case round =>
  obtain ⟨k, hk, rfl, a6, a0⟩ := hrel;by_cases hlt : k < n
  rotate_left
  ·obtain rfl : k = n := by omega
   go_wp2_with fail
   go_ret;exact ⟨_, rfl, (a6.out.row a3.out (Nat.le_refl _) (by unfold maxLen; omega)).owns, a0.out⟩
  have b1 : (k : Int) < (n : Int) := by omega
  obtain ⟨g, rfl, hg, r0⟩ := (HA.out.below a0.out).2 k hlt;obtain ⟨z, a1⟩ := exq (aA7 xs k);have b2 : Hid (z.size ≤ 281474976710656) := by rw [Hid, a1]; have := HZ.out k hlt; omega
  have b3 := hid a1.symm;rw [← a1] at r0;clear a1;go_wp2_with fail
  refine (aF3 z _ b2.out).mono ?_;rintro e w1 ⟨rfl, bw⟩
  have a4 : bP5 w1 w.heap.size n k xs := by
   obtain ⟨a2, h1, h2, h3⟩ := a6.out
   exact ⟨a2, aA6 h1 bw, h2, h3⟩
  have b4 : Hid (Bw w w1) := a0.out.trans (bw.mono a0.out.size);have hput := a4.put hlt;rw [b3.out] at hput;have a5 := hid hput
  obtain ⟨u0, b6, f0⟩ : ∃ u, w1.cell? ⟨w.heap.size, k, none⟩ = some u ∧ w1.frozen? ⟨w.heap.size, k, none⟩ = false := by
   obtain ⟨a2, h1, h2, _⟩ := a4
   refine ⟨a2[k]'(by omega), ?_, by simp [World.frozen?, h1]⟩
   simp only [World.cell?, h1]
   simp [show k < a2.size by omega]
  clear bw a4 hput r0;go_wp2_with fail
  go_roundw
  case rel => exact ⟨k + 1, by omega, by go_num, a5, b4.out.setCell (Nat.le_refl _) _⟩
  case measure => simp [intOf]; omega
theorem aR5 (o : Oa) (n c : Nat) (ws : List (Int × ByteArray)) (w : World) (h : aV6 w o n ws) (hn : n ≤ 2000000) (hz : ∀ x ∈ ws, (x.2).size ≤ 1048576) :
  Calls prog 176 #[.slice o n c] w fun e w' => ∃ v, e = .returned v ∧ w'.ownsRow w.heap.size 128 2 v n (aA4 ws) ∧ Below w.heap.size w w' := by
 obtain ⟨i0, hi, b3, b4, b5⟩ := info_parts bP8;obtain ⟨M, hM⟩ : ∃ M, M = madeCells (Value.agg #[.int .i64 0, .string ⟨#[]⟩]).cells (((n : Nat) : Int).toNat * i0.size) := ⟨_, rfl⟩
 have c4 : ∀ W : World, (Instr.makeSlice 25 (.int .i64 (n : Int)) (.int .i64 (n : Int))).run prog W = .ok (.slice (some ⟨W.heap.size, 0, none⟩) n n) (W.alloc (.cells M 128)) := fun W => by
  have h := run_make (P := prog) W 25 128 i0 (Value.agg #[.int .i64 0, .string ⟨#[]⟩]) underlying25 hi b3 .i64 .i64 (n : Int) (n : Int) (by omega) (by omega) (by rw [b5]; omega) (by omega)
  rw [← hM] at h
  simpa using h
 have b6 : M.size = n * 2 := by rw [hM, size_madeCells, b4]; simp
 have HA := hid h;have HZ := hid hz;have a1 : Hid (ws.length = n) := h.1;clear hM h hz;have HP : Hid (aE9 (w.alloc (.cells M 128)) w.heap.size n 0 ws) := ⟨M, heap_alloc_new w _, b6, fun i h => absurd h (by omega)⟩
 go_enter func176, ntmps176;go_wp2_with fail
 go_loopw [11] (fun i wr => ∃ k : Nat, k ≤ n ∧ i = .int .i64 (k : Int) ∧ Hid (aE9 wr w.heap.size n k ws) ∧ Hid (Bw w wr)) (fun i _ => n - (intOf i).toNat)
 case atStart => exact ⟨0, Nat.zero_le _, rfl, HP, (Below.refl _ _).alloc (Nat.le_refl _) _⟩
 case round =>
  obtain ⟨k, hk, rfl, a2, a3⟩ := hrel;by_cases hlt : k < n
  rotate_left
  ·obtain rfl : k = n := by omega
   go_wp2_with fail
   go_ret;exact ⟨_, rfl, a2.out.owns a1.out (by unfold maxLen; omega) (Nat.le_refl _), a3.out⟩
  have b7 : (k : Int) < (n : Int) := by omega
  have a9 : k < ws.length := by rw [a1.out]; omega
  obtain ⟨g, rfl, hg, r0, r1⟩ := (HA.out.below a3.out).2 k hlt;obtain ⟨y, hy⟩ := exq (aC6 ws k);have b8 : Hid (y.2.size ≤ 281474976710656) := by rw [Hid, hy]; have := HZ.out _ (aJ1 ws k a9); omega
  have HY := hid hy.symm;rw [← hy] at r0 r1;obtain ⟨y0, y1⟩ := y;simp only at r0 r1
  clear hy a9;go_upto_region 5 with fail
  clear r0 r1;obtain ⟨q, hq⟩ := exq (wr.heap.size);obtain ⟨w1, a4⟩ := exq (wr.alloc (.cells #[.int .i64 y0, .string y1] 128));rw [← a4, ← hq];have a5 : Bw w w1 := by rw [a4]; exact a3.out.alloc a3.out.size _
  have hS : w1.heap[q]? = some (.cells #[.int .i64 y0, .string y1] 128) := by rw [a4, hq]; exact heap_alloc_new _ _
  have a6 : aE9 w1 w.heap.size n k ws := by rw [a4]; exact a2.out.below ((Below.refl _ _).alloc (Nat.le_refl _) _) a2.out.lt
  have HS := hid hS
  have HK : Hid (∀ W, Below w1.heap.size w1 W → (W.cell? ⟨q, 0, none⟩ = some (.int .i64 y0) ∧ W.cell? ⟨q, 1, none⟩ = some (.string y1)) ∧ aE9 W w.heap.size n k ws ∧ Bw w W) := fun W hW =>
   ⟨⟨(aA1 (aA6 hS hW) 0).trans rfl, (aA1 (aA6 hS hW) 1).trans rfl⟩, a6.below hW a6.lt, a5.trans (hW.mono a5.size)⟩
  have a7 : Hid (∀ (W : World) (a b : Value), (W.cell? ⟨q, 0, none⟩ = some (.int .i64 y0) ∧ W.cell? ⟨q, 1, none⟩ = some (.string y1)) → (((W.setCell ⟨w.heap.size, k * 2, none⟩ a).setCell ⟨w.heap.size, k * 2 + 1, none⟩ b).cell? ⟨q, 0, none⟩ = some (.int .i64 y0) ∧ ((W.setCell ⟨w.heap.size, k * 2, none⟩ a).setCell ⟨w.heap.size, k * 2 + 1, none⟩ b).cell? ⟨q, 1, none⟩ = some (.string y1))) := fun W a b h => by
   have b0 : q ≠ w.heap.size := by rw [hq]; exact Nat.ne_of_gt a2.out.lt
   have hh : ((W.setCell ⟨w.heap.size, k * 2, none⟩ a).setCell ⟨w.heap.size, k * 2 + 1, none⟩ b).heap[q]? = W.heap[q]? := (heap_setCell_other _ _ q _ b0).trans (heap_setCell_other _ _ q _ b0)
   exact ⟨(World.cell?_of_block hh).trans h.1, (World.cell?_of_block hh).trans h.2⟩
  clear hq a4 a5 hS a6 HS a2 a3;obtain ⟨c0, c1⟩ := (HK.out _ (Below.refl _ _)).1;go_region_held3 (fun W => W.cell? ⟨q, 0, none⟩ = some (.int .i64 y0) ∧ W.cell? ⟨q, 1, none⟩ = some (.string y1)) (first | assumption | exact a7.out _ _ _ ⟨e0, e1⟩ | go_keep) (first | (go_at_call 194; refine (aF3 y1 _ b8.out).mono ?_; rintro e u1 ⟨rfl, b1⟩; obtain ⟨⟨e0, e1⟩, a0, b2⟩ := HK.out u1 ((Below.refl _ _).drew.trans b1); obtain ⟨u2, b9⟩ := a0.cell (k * 2) (by omega); have f2 := a0.frozen (k * 2); obtain ⟨u3, c2⟩ := a0.cell (k * 2 + 1) (by omega); have f3 := a0.frozen (k * 2 + 1)))
  have hput := a0.put hlt;rw [HY.out] at hput;have a8 : Hid _ := hput;have c3 := hid b2;clear hput b2 a0 b1 e0 e1 c0 c1 b9 c2 f2 f3;go_wp2_with fail
  go_roundw
  case rel => exact ⟨k + 1, by omega, by go_num, a8, (c3.out.setCell (Nat.le_refl _) _).setCell (Nat.le_refl _) _⟩
  case measure => simp [intOf]; omega
theorem cY2 (l : Ts) (hl : l.length = 20) (hz : ∀ i, i < 20 → (aA7 l i).size ≤ 1048576) (w : World) :
  Calls prog 83 #[.agg (aE1 l)] w fun e w' => cI1 l [] w e w' := by
 have HL := hid hl;have HZ := hid hz;clear hl hz;go_enter func83, ntmps83;go_upto_region 1 with fail
 obtain ⟨w2, a1⟩ := exq ((w.alloc (.cells (aE1 l) 125)).alloc (.cells #[.slice none 0 0, .slice none 0 0] 27));rw [← a1];have a4 : Bw w w2 := by rw [a1]; exact ((Below.refl _ _).alloc (Nat.le_refl _) _).alloc (by simp) _
 have hA : w2.heap[w.heap.size]? = some (.cells (aE1 l) 125) := by rw [a1]; exact aJ8 (heap_alloc_new _ _) _
 have hC : w2.heap[w.heap.size + 1]? = some (.cells #[.slice none 0 0, .slice none 0 0] 27) := by rw [a1]; exact heap_alloc2_new _ _ _
 obtain ⟨q, hq⟩ := exq (w.heap.size);have HQ := hid hq.symm;rw [← hq] at hA hC;rw [← hq];have HA := hid hA;have HC := hid hC;have a3 := hid a4;clear a1 a4 hA hC hq;go_wp2_with fail
 refine (aL6 (some ⟨q, 0, none⟩) 20 20 l _ ⟨HL.out, fun i hi => ⟨q, rfl, (blt HA.out), (aA1 HA.out i).trans (bH3 l i (by rw [HL.out]; exact hi))⟩⟩ (by omega) HZ.out).mono ?_
 rintro e w3 ⟨v, rfl, ho, bw⟩;have a0 := aA6 HC.out bw;have a5 := hid a0;have c0 := (aA1 a0 0).trans rfl;have c1 := (aA1 a0 1).trans rfl;have f0 := aA2 a0 0;have f1 := aA2 a0 1;obtain ⟨o, p, rfl⟩ := aA0 ho;have HO := hid ho;have a7 : Hid (Bw w w3) := a3.out.trans (bw.mono a3.out.size);have a8 : Hid (w.heap.size ≤ w2.heap.size) := a3.out.size;clear a0 bw ho;go_wp2_with fail
 obtain ⟨w5, a2⟩ := exq ((w3.setCell ⟨q + 1, 0, none⟩ (.slice o 20 p)).setCell ⟨q + 1, 1, none⟩ (.slice none 0 0));rw [← a2]
 have h5 : w5.heap[q + 1]? = some (.cells #[.slice o 20 p, .slice none 0 0] 27) := by
  rw [a2]
  exact heap_setCell_same _ _ _ _ _ _ (heap_setCell_same _ _ _ _ _ _ a5.out)
 refine bodyPost_ret (v := .agg #[.slice o 20 p, .slice none 0 0]) (results_cell_row results83 _ _ (q + 1) 27 _ (0, 0) _ rfl h5 underlying27 rfl (by kernel_rfl)) rfl ⟨_, _, rfl, ⟨?_, World.ownsRow_nil _ _ _ _⟩, ?_⟩
 ·rw [HL.out, a2]
  exact aA9 (aF5 HO.out a8.out) (fun g hg => by
   have a6 : g ≠ q + 1 := aE8 HO.out a5.out (by decide) g hg
   rw [heap_setCell_other _ _ g _ a6, heap_setCell_other _ _ g _ a6])
 rw [a2];exact (a7.out.setCell (by rw [HQ.out]; exact Nat.le_succ _) _).setCell (by rw [HQ.out]; exact Nat.le_succ _) _
theorem dT9 {w w0 w1 : World} {q : Nat} {x0 x1 v1 v2 : Value} {n1 n2 : Nat} {cs : Ts} {ws : List (Int × ByteArray)} (hC : w1.heap[q]? = some (.cells #[x0, x1] 27)) (hD : aJ3 w1 w0.heap.size v1 n1 cs v2 n2 ws) (hs : w.heap.size ≤ w0.heap.size) (hb : Below w.heap.size w w1) (hq : w.heap.size ≤ q) :
  ((w1.setCell ⟨q, 0, none⟩ v1).setCell ⟨q, 1, none⟩ v2).heap[q]? = some (.cells #[v1, v2] 27) ∧ aJ3 ((w1.setCell ⟨q, 0, none⟩ v1).setCell ⟨q, 1, none⟩ v2) w.heap.size v1 n1 cs v2 n2 ws ∧ Below w.heap.size w ((w1.setCell ⟨q, 0, none⟩ v1).setCell ⟨q, 1, none⟩ v2) := by
 refine ⟨heap_setCell_same _ _ _ _ _ _ (heap_setCell_same _ _ _ _ _ _ hC), ⟨?_, ?_⟩, (hb.setCell hq _).setCell hq _⟩
 ·exact aA9 (aF5 hD.cells hs) (fun g hg => by
   have a0 : g ≠ q := aE8 hD.cells hC (by decide) g hg
   rw [heap_setCell_other _ _ g _ a0, heap_setCell_other _ _ g _ a0])
 exact aA9 (aF5 hD.pend hs) (fun g hg => by
  have a0 : g ≠ q := aE8 hD.pend hC (by decide) g hg
  rw [heap_setCell_other _ _ g _ a0, heap_setCell_other _ _ g _ a0])
theorem dL0 {fn : Func} {w w0 w1 : World} {q : Nat} {a : Act} {p : Tmp} {x0 x1 v1 v2 : Value} {n1 n2 : Nat} {cs : Ts} {ws : List (Int × ByteArray)} (hr : fn.results = #[.cell p 27]) (hp : a.tmps.getD p undef = .pointer (some ⟨q, 0, none⟩)) (hd : a.defers = []) (hC : w1.heap[q]? = some (.cells #[x0, x1] 27)) (hD : aJ3 w1 w0.heap.size v1 n1 cs v2 n2 ws) (hn1 : n1 = cs.length) (hn2 : n2 = ws.length) (hs : w.heap.size ≤ w0.heap.size) (hb : Below w.heap.size w w1) (hq : w.heap.size ≤ q) :
  bodyPost prog fn (fun e w' => cI1 cs ws w e w') .ret a ((w1.setCell ⟨q, 0, none⟩ v1).setCell ⟨q, 1, none⟩ v2) := by
 obtain ⟨h1, h2, h3⟩ := dT9 hC hD hs hb hq;subst hn1 hn2;exact bodyPost_ret (v := .agg #[v1, v2]) (results_cell_row hr _ _ q 27 _ (0, 0) _ hp h1 underlying27 rfl (by kernel_rfl)) hd ⟨_, _, rfl, h2, h3⟩
theorem bC8 (o1 : Oa) (n1 c1 : Nat) (v2 : Value) (n2 : Nat) (ws : List (Int × ByteArray)) (B : Nat) (w : World) (h : w.ownsRow B 128 2 v2 n2 (aA4 ws)) (hn2 : n2 ≤ 2000000) :
  Calls prog 64 #[.agg #[.slice o1 n1 c1, v2]] w fun e w' => aA5 (dB8 n1 ws) w e w' := by
 obtain ⟨o2, c2, rfl⟩ := aA0 h;have HV : Hid (aV6 w o2 n2 ws) := aN6 h;have a1 : Hid (ws.length = n2) := aV7 h;clear h;by_cases h1 : n1 = 20
 rotate_left
 ·have h3 : ¬ (n1 : Int) = 20 := by omega
  have a0 := hid h1;go_enter func64, ntmps64;go_wp2_with fail
  go_ret;exact aA5.no (fun h => a0.out h.1) ((Below.refl _ _).alloc (Nat.le_refl _) _)
 subst h1;by_cases h2 : n2 ≤ 16
 rotate_left
 ·have h3 : ¬ (n2 : Int) ≤ 16 := by omega
  have a0 : Hid (¬ ws.length ≤ 16) := by rw [a1.out]; exact h2
  go_enter func64, ntmps64;go_wp2_with fail
  go_ret;exact aA5.no (fun h => a0.out h.2.1) ((Below.refl _ _).alloc (Nat.le_refl _) _)
 have h3 : (n2 : Int) ≤ 16 := by omega
 go_enter func64, ntmps64;go_wp2_with fail
 refine (bV7 o2 n2 c2 ws _ (HV.out.below ((Below.refl _ _).alloc (Nat.le_refl _) _)) hn2).mono ?_;rintro e w1 ⟨b, rfl, hb, bw⟩;have HB := hid hb;have a2 : Hid (Bw w w1) := ((Below.refl _ _).alloc (Nat.le_refl _) _).trans (bw.mono (by simp));have HN : Hid (n2 ≤ 16) := h2;clear hb bw;go_wp2_with fail
 go_ret;exact ⟨b, rfl, ⟨fun e => ⟨rfl, by rw [a1.out]; exact HN.out, HB.out.1 e⟩, fun h => HB.out.2 h.2.2⟩, a2.out⟩
theorem bC9 (v1 v2 : Value) (n1 : Nat) (cs : Ts) (n2 : Nat) (ws : List (Int × ByteArray)) (B : Nat) (w : World) (h : aJ3 w B v1 n1 cs v2 n2 ws) (_hn1 : n1 ≤ 2000000) (hn2 : n2 ≤ 2000000) :
  Calls prog 64 #[.agg #[v1, v2]] w fun e w' => aA5 (aR2 cs ws) w e w' := by
 obtain ⟨a0, a1, rfl⟩ := aA0 h.cells;have hl : cs.length = n1 := by have := h.cells.1; rw [List.length_map] at this; omega
 have h1 := bC8 a0 n1 a1 v2 n2 ws B w h.pend hn2;rw [← hl] at h1;rw [← hl];exact h1
theorem bT5 (w : World) :
  Calls prog 97 #[] w fun e w' => cI1 newC [] w e w' := by
 go_enter func97, ntmps97;go_wp2_with fail
 refine (cY2 aP1 rfl (fun i hi => by
  have e : aA7 aP1 i = ⟨#[]⟩ := by
   unfold aA7 aP1
   rw [List.getD_eq_getElem?_getD, List.getElem?_replicate, if_pos hi]
   rfl
  rw [e]
  exact Nat.zero_le _) _).mono ?_
 rintro e w1 ⟨v1, v2, rfl, hd, bw⟩;obtain ⟨oa, pa, rfl⟩ := aA0 hd.cells;obtain ⟨ob, pb, rfl⟩ := aA0 hd.pend;have hC := aA6 (heap_alloc_new w _) bw;have c0 := (aA1 hC 0).trans rfl;have c1 := (aA1 hC 1).trans rfl;have f0 := aA2 hC 0;have f1 := aA2 hC 1;have HC : Hid _ := hC;have HD : Hid _ := hd;have HB : Hid (Bw w w1) := ((Below.refl _ _).alloc (Nat.le_refl _) _).trans (bw.mono (by simp));have HS : Hid (w.heap.size ≤ (w.alloc (.cells #[.slice none 0 0, .slice none 0 0] 27)).heap.size) := by rw [Hid]; simp
 clear hC hd bw;go_wp2_with fail
 refine dL0 results97 ?_ ?_ HC.out HD.out ?_ ?_ HS.out HB.out (Nat.le_refl _) <;> rfl
theorem dU0 {W : World} {B g n c : Nat} {cs : Ts} (h : W.ownsRow B 9 1 (.slice (some ⟨g, 0, none⟩) n c) n (cs.map Value.string)) : W.rangeAt g 0 (cs.map Value.string) := fun j v hv => by
 obtain ⟨oa, cap, e, hl, hc⟩ := bP4 h
 cases e
 have hj : j < cs.length := by
  have := (List.getElem?_eq_some_iff.1 hv).1
  simpa using this
 obtain ⟨g', e, _, r⟩ := hc j (by omega)
 cases e
 rw [List.getElem?_map, aU9 cs j hj] at hv
 rw [Nat.zero_add, r]
 exact hv
theorem bT6 {cs : Ts} {ws : List (Int × ByteArray)} {n M : Nat} (h1 : ∀ i, i < n → (aA7 cs i).size ≤ M) (h2 : ∀ x ∈ ws, (x.2).size ≤ M) (f : Nat → Bool) : ∀ k, k ≤ ws.length → ∀ i, i < n → (aA7 (aI5 cs ws f k) i).size ≤ M
 | 0, _, i, hi => h1 i hi
 | k + 1, hk, i, hi => by
  rw [aI5]
  split
  ·rw [bI4]
   split
   · exact h2 _ (aJ1 ws k (by omega))
   · exact bT6 h1 h2 f k (by omega) i hi
  · exact bT6 h1 h2 f k (by omega) i hi
theorem bJ7 (o1 : Oa) (n1 c1 : Nat) (v2 : Value) (n2 : Nat) (ws : List (Int × ByteArray)) (B : Nat) (w : World) (h : w.ownsRow B 128 2 v2 n2 (aA4 ws)) (hn2 : n2 ≤ 2000000) (hno : ¬ dB8 n1 ws) (x : Int) :
  Calls prog 168 #[.agg #[.slice o1 n1 c1, v2], .int .i64 x] w fun e w' => aD5 ⟨#[]⟩ w e w' := by
 obtain ⟨o2, c2, rfl⟩ := aA0 h;have HP : Hid (∀ W, Bw w W → W.ownsRow B 128 2 (.slice o2 n2 c2) n2 (aA4 ws)) := fun W hb => aA8 h hb (fun g hg => aB0 h hg)
 have a0 := hid hno;clear h hno;go_enter func168, ntmps168;go_wp2_with fail
 refine (bC8 o1 n1 c1 _ n2 ws B _ (HP.out _ ((Below.refl _ _).alloc (Nat.le_refl _) _)) hn2).mono ?_;rintro e w3 ⟨b, rfl, hb, bw⟩
 obtain rfl : b = false := by
  cases b with
  | true => exact absurd (hb.1 rfl) a0.out
  | false => rfl
 have HB : Hid (Bw w w3) := ((Below.refl _ _).alloc (Nat.le_refl _) _).trans (bw.mono (by simp));clear bw hb;go_wp2_with fail
 go_ret;exact ⟨rfl, HB.out⟩
theorem cY3 {cs : Ts} {ws : List (Int × ByteArray)} (h : aR2 cs ws) (x : Int) (hx : 0 ≤ x ∧ x ≤ 19) : aA7 (aI5 cs ws (fun _ => true) ws.length) x.toNat = aL5 cs ws x := by
 obtain ⟨m, rfl⟩ : ∃ m : Nat, x = (m : Int) := ⟨x.toNat, by omega⟩;rw [dB9 h m (by omega)];exact dI7 h m (by omega) _ (Nat.le_refl _)
theorem bL9 (v1 v2 : Value) (cs : Ts) (n2 : Nat) (ws : List (Int × ByteArray)) (B : Nat) (w : World) (h : aJ3 w B v1 20 cs v2 n2 ws) (hn2 : n2 ≤ 2000000) (hok : aR2 cs ws) (hz1 : ∀ i, i < 20 → (aA7 cs i).size ≤ 1048576) (hz2 : ∀ x ∈ ws, (x.2).size ≤ 1048576) (x : Int) :
  Calls prog 168 #[.agg #[v1, v2], .int .i64 x] w fun e w' => aD5 (aL5 cs ws x) w e w' := by
 obtain ⟨o1, c1, rfl⟩ := aA0 h.cells;obtain ⟨o2, c2, rfl⟩ := aA0 h.pend;obtain ⟨g, rfl⟩ := aM6 h.cells (by omega);have HD : Hid (∀ W, Bw w W → aJ3 W B (.slice (some ⟨g, 0, none⟩) 20 c1) 20 cs (.slice o2 n2 c2) n2 ws) := fun W hb => ⟨aA8 h.cells hb (fun g hg => aB0 h.cells hg), aA8 h.pend hb (fun g hg => aB0 h.pend hg)⟩
 have a7 := hid hok;have b8 := hid hz1;have b9 := hid hz2;have c7 : Hid (ws.length = n2) := aV7 h.pend;have a8 : Hid (cs.length = 20) := hok.1;have c8 := underlying125;have c0 : (prog.info? 125).map (·.size) = some (cs.map Value.string).length := by rw [List.length_map, a8.out]; kernel_rfl
 have c9 := hid c0;clear h hok hz1 hz2;go_enter func168, ntmps168;go_wp2_with fail
 refine (bC9 _ _ 20 _ n2 ws B _ (HD.out _ ((Below.refl _ _).alloc (Nat.le_refl _) _)) (by omega) hn2).mono ?_;rintro e w3 ⟨b, rfl, hb, bw⟩;obtain rfl : b = true := hb.2 a7.out;have a4 : Bw w w3 := ((Below.refl _ _).alloc (Nat.le_refl _) _).trans (bw.mono (by simp));have b4 := aA6 (heap_alloc_new w _) bw;have a9 := hid b4;have b5 : Hid (∀ W, Below w3.heap.size w3 W → aJ3 W B (.slice (some ⟨g, 0, none⟩) 20 c1) 20 cs (.slice o2 n2 c2) n2 ws) := fun W hb => HD.out W (a4.trans (hb.mono a4.size))
 have a5 := hid a4;obtain ⟨q, hq⟩ := exq (w.heap.size);have HQ := hid hq.symm;rw [← hq] at a9;rw [← hq]
 have HK : Hid (∀ W, Below w3.heap.size w3 W → W.cell? ⟨q, 0, none⟩ = some (.slice (some ⟨g, 0, none⟩) 20 c1) ∧ W.cell? ⟨q, 1, none⟩ = some (.slice o2 n2 c2) ∧ W.rangeAt g 0 (cs.map Value.string)) := fun W hW =>
  ⟨(aA1 (aA6 a9.out hW) 0).trans rfl, (aA1 (aA6 a9.out hW) 1).trans rfl, dU0 (b5.out W hW).cells⟩
 clear hb a4 b4 bw hq HD;have d3 : ∀ W : World, (Instr.arrayAt 125 (.slice (some ⟨g, 0, none⟩) 20 c1)).run prog W = .ok (.pointer (some ⟨g, 0, none⟩)) W := fun W => by simp [Instr.arrayAt]
 obtain ⟨d0, d1, d2⟩ := HK.out _ (Below.refl _ _);go_wp2_with fail
 refine (bJ6 x _).mono ?_;rintro e w4 ⟨b, rfl, hb, bw⟩;have a3 : Hid (Below w3.heap.size w3 w4) := bw;have c3 : Hid (Bw w w4) := a5.out.trans (bw.mono a5.out.size);cases b
 ·have HX : Hid (¬ (0 ≤ x ∧ x ≤ 19)) := fun h => nomatch hb.2 h
  clear hb bw d0 d1 d2;go_wp2_with fail
  go_ret;exact ⟨by rw [cR7 (fun h => HX.out h.2)]; rfl, c3.out⟩
 have HX : Hid (0 ≤ x ∧ x ≤ 19) := hb.1 rfl;clear hb bw d0 d1 d2;obtain ⟨d0, d1, d2⟩ := HK.out _ a3.out;have c4 : Hid (∀ i, i < 20 → (aA7 (aI5 cs ws (fun _ => true) ws.length) i).size ≤ 1048576) := bT6 b8.out b9.out _ _ (Nat.le_refl _)
 have c5 : Hid ((aI5 cs ws (fun _ => true) ws.length).length = 20) := (aV8 _ _ _ _).trans a8.out
 have HE : Hid (aA7 (aI5 cs ws (fun _ => true) ws.length) x.toNat = aL5 cs ws x) := cY3 a7.out x HX.out
 have HZ : Hid ((aL5 cs ws x).size ≤ 281474976710656) := by
  rw [Hid, ← HE.out]
  have h1 := HX.out
  have := c4.out x.toNat (by omega)
  omega
 have d4 : ∀ W : World, (Instr.index 125 (.agg (aE1 (aI5 cs ws (fun _ => true) ws.length))) (.int .i64 x)).run prog W = .ok (.string (aL5 cs ws x)) W := fun W => by
  have h1 := HX.out
  have h2 := bH3 (aI5 cs ws (fun _ => true) ws.length) x.toNat (by rw [c5.out]; omega)
  rw [HE.out] at h2
  simp [Instr.index, asIntOf, part, h2, h1.1, show x < 20 by omega]
 go_upto_region 3 with fail
 go_region_held3 (fun W => W.cell? ⟨q, 0, none⟩ = some (.slice (some ⟨g, 0, none⟩) 20 c1) ∧ W.cell? ⟨q, 1, none⟩ = some (.slice o2 n2 c2) ∧ W.rangeAt g 0 (cs.map Value.string)) (first | assumption | go_keep) (first | (go_at_call 113; refine (cP6 cs a8.out o2 n2 c2 ws _ (aN6 (b5.out _ a3.out.drew).pend) hn2 a7.out.2.2).mono ?_; rintro e u1 ⟨rfl, b6⟩; have a6 := a3.out.drew.trans (b6.mono a3.out.size); obtain ⟨a0, a1, a2⟩ := HK.out u1 a6) | (go_at_call 194; refine (aF3 (aL5 cs ws x) _ HZ.out).mono ?_; rintro e u2 ⟨rfl, b7⟩; have b3 := a6.trans (b7.mono a6.size); obtain ⟨b0, b1, b2⟩ := HK.out u2 b3))
 have c6 : Hid (Bw w u2) := a5.out.trans (b3.mono a5.out.size);clear b3 b7 b0 b1 b2 b6 a6 a0 a1 a2 d0 d1 d2;go_wp2_with fail
 go_ret;exact ⟨rfl, c6.out⟩
theorem bA4 (v1 v2 : Value) (n1 : Nat) (cs : Ts) (n2 : Nat) (ws : List (Int × ByteArray)) (B : Nat) (w : World) (h : aJ3 w B v1 n1 cs v2 n2 ws) (_hn1 : n1 ≤ 2000000) (hn2 : n2 ≤ 2000000) (hz1 : ∀ i, i < n1 → (aA7 cs i).size ≤ 1048576) (hz2 : ∀ x ∈ ws, (x.2).size ≤ 1048576) (x : Int) :
  Calls prog 168 #[.agg #[v1, v2], .int .i64 x] w fun e w' => aD5 (aL5 cs ws x) w e w' := by
 have hl : cs.length = n1 := by have := h.cells.1; rw [List.length_map] at this; omega
 by_cases hok : aR2 cs ws
 ·obtain rfl : n1 = 20 := hl.symm.trans hok.1;exact bL9 v1 v2 cs n2 ws B w h hn2 hok hz1 hz2 x
 obtain ⟨o1, c1, rfl⟩ := aA0 h.cells;have a0 : ¬ dB8 n1 ws := fun hd => hok ⟨hl.trans hd.1, hd.2⟩
 rw [cR7 (fun h => hok h.1)]
 exact bJ7 o1 n1 c1 v2 n2 ws B w h.pend hn2 a0 x
theorem cP7 {cs : Ts} {ws : List (Int × ByteArray)} {n : Nat} (h1 : ∀ i, i < cs.length → (aA7 cs i).size ≤ n) (h2 : ∀ x ∈ ws, x.2.size ≤ n) (m : Nat) : ∀ k, k ≤ ws.length → (bF1 cs ws m k).size ≤ n := by
 intro k;induction k with
 | zero =>
  intro _;rw [bF1];by_cases hm : m < cs.length
  ·exact h1 m hm
  have e : aA7 cs m = ⟨#[]⟩ := by
   unfold aA7
   rw [List.getD_eq_getElem?_getD, List.getElem?_eq_none (by omega)]
   rfl
  rw [e];exact Nat.zero_le _
 | succ k ih =>
  intro hk
  rw [bF1]
  split
  ·exact h2 _ (aJ1 ws k (by omega))
  ·exact ih (by omega)
theorem bT7 {cs : Ts} {ws : List (Int × ByteArray)} {n : Nat} (h1 : ∀ i, i < cs.length → (aA7 cs i).size ≤ n) (h2 : ∀ x ∈ ws, x.2.size ≤ n) (x : Int) : (aL5 cs ws x).size ≤ n := by
 unfold aL5;split
 ·exact cP7 h1 h2 _ _ (Nat.le_refl _)
 exact Nat.zero_le _
theorem RecD.ban {s : ByteArray} {q : Int} {b : ByteArray} {ok : Bool} {k : Int} {a c : ByteArray} {t : Int} (h : RecD s q b ok) (hb : aI8 b k a c t) : aL9 s q b := by
 rcases h with ⟨_, h⟩ | ⟨_, rfl, _⟩
 ·exact h
 have h1 := cN4 k a c t;rw [hb.2] at h1;exact absurd h1 (by decide)
theorem RecD.noBan {s : ByteArray} {q : Int} {b : ByteArray} {ok : Bool} (h : RecD s q b ok) (hn : ∀ k a c t, ¬ aI8 b k a c t) : ∀ q b k a c t, aL9 s q b → ¬ aI8 b k a c t := fun q' b' k a c t hr hb => by
 rcases h with ⟨_, h⟩ | ⟨_, _, h⟩
 ·have e := (hr.uniq h).2
  subst e
  exact hn k a c t hb
 · exact h q' b' hr
theorem aG2.ne {s p : ByteArray} {ys : Ts} {st : Int} {fs : Fs} {b : ByteArray} {t : Int} (h : aG2 s p ys st fs b t) : s ≠ ⟨#[]⟩ := fun e => by
 have h1 := (bF4 h).1
 subst e
 have h2 := congrArg List.length h1
 simp [bs] at h2
theorem RecD.obj {s : ByteArray} {q : Int} {b : ByteArray} {ok : Bool} {p : ByteArray} {ys : Ts} {st : Int} {fs : Fs} {d : ByteArray} {t : Int} (h : RecD s q b ok) (hb : aG2 b p ys st fs d t) : aL9 s q b := by
 rcases h with ⟨_, h⟩ | ⟨_, rfl, _⟩
 ·exact h
 exact absurd rfl hb.ne
theorem RecD.noObj {s : ByteArray} {q : Int} {b : ByteArray} {ok : Bool} {x : Int} (h : RecD s q b ok) (hn : ∀ p ys st fs d t, ¬ aG2 b p ys st fs d t) : ∀ k, ¬ aO7 s x k := fun k ⟨b', hr, hb, _⟩ => by
 rcases h with ⟨_, h⟩ | ⟨_, _, h⟩
 ·have e := (hr.uniq h).2
  subst e
  exact hn _ _ _ _ _ _ hb
 · exact h _ b' hr
theorem RecD.lateObj {s : ByteArray} {q : Int} {b : ByteArray} {ok : Bool} {x : Int} {p : ByteArray} {ys : Ts} {st : Int} {fs : Fs} {d : ByteArray} {t : Int} (h : RecD s q b ok) (hb : aG2 b p ys st fs d t) (hq : ¬ q < 100000) : ∀ k, ¬ aO7 s x k := fun k ⟨b', hr, _, _, _, h5⟩ => by
 have e := (hr.uniq (h.obj hb)).1
 omega
theorem cK9 (v1 v2 : Value) (n1 : Nat) (cs : Ts) (n2 : Nat) (ws : List (Int × ByteArray)) (B : Nat) (w : World) (h : aJ3 w B v1 n1 cs v2 n2 ws) (hn1 : n1 ≤ 1048576) (hn2 : n2 ≤ 1048576) (hzc : ∀ i, i < n1 → (aA7 cs i).size ≤ 1048576) (hzw : ∀ x ∈ ws, x.2.size ≤ 1048576) (hT : aG9 w) (hLN : aH5 w) (hH : aN9 w) :
  Calls prog 76 #[.agg #[v1, v2]] w fun e w' => dM0 cs ws w e w' := by
 obtain ⟨i0, hi, f8, c5, f9⟩ := info_parts cN7;obtain ⟨o1, c1, rfl⟩ := aA0 h.cells;obtain ⟨o2, c2, rfl⟩ := aA0 h.pend;have HD : Hid (∀ W, Bw w W → aJ3 W B (.slice o1 n1 c1) n1 cs (.slice o2 n2 c2) n2 ws) := fun W hb => ⟨aA8 h.cells hb (fun g hg => aB0 h.cells hg), aA8 h.pend hb (fun g hg => aB0 h.pend hg)⟩
 have HZ : Hid (∀ x, (aL5 cs ws x).size ≤ 1048576) := bT7 (by rw [(bS9 h).1]; exact hzc) hzw;have g0 := hid hzc;have g1 := hid hzw;have f2 : Hid (∀ W, Bw w W → aG9 W) := fun W hb => hT.below hb
 have f3 : Hid (∀ W, Bw w W → aH5 W) := fun W hb => hLN.below hb hLN.lt
 have g2 : Hid (∀ W, Bw w W → aN9 W) := fun W hb => hH.below hb
 clear h hzc hzw hT hLN hH;have K0 := jnil w;go_enter func76, ntmps76;go_upto_region 1 with fail
 obtain ⟨q1, d8⟩ := exq (w.heap.size);obtain ⟨w1, c6⟩ := exq (w.alloc (.cells #[.slice o1 n1 c1, .slice o2 n2 c2] 27));have c5 := d8.symm;rw [← c6]; try rw [← d8];have g3 := hsa c6 c5;have bw := bal c6;have K1 := ja K0 c6 c5;clear bw c6 c5 K0;clear g3 d8;go_wp2_with fail
 go_loopw [2, 3, 10] (fun v m i wr => ∃ (j : Nat) (l : Bs) (um : Int) (oL : Oa) (pL : Nat), j ≤ 5 ∧ i = .int .i64 (j : Int) ∧ m = .int .i64 um ∧ v = .slice oL j pL ∧ Hid (l.length = j) ∧ Hid (Bw w wr ∧ wr.heap[q1]? = some (.cells #[.slice o1 n1 c1, .slice o2 n2 c2] 27)) ∧ Hid (wr.ownsRow w.heap.size 44 4 (.slice oL j pL) j (aB3 l)) ∧ Hid (aH3 cs ws l um)) (fun _ _ i _ => 5 - (intOf i).toNat)
 case atStart => exact ⟨0, [], 0, none, 0, by omega, rfl, rfl, rfl, (by show _ = _; rfl), ⟨K1.hb, (jb K1 0 rfl)⟩, ⟨rfl, .inl ⟨rfl, rfl⟩⟩, ⟨[], rfl, rfl, fun i hi => absurd hi (Nat.not_lt_zero _)⟩⟩
 case round =>
  obtain ⟨j, l, um, oL, pL, hj, rfl, rfl, rfl, a9, HW, d4, b0⟩ := hrel;by_cases hlt : (j : Int) < 5
  rotate_left
  ·have c7 := HW.out.1;have b7 := hid HW.out.2;have a0 : Hid (wr.ownsRow w.heap.size 44 4 (.slice oL j pL) j (aB3 l)) := d4.out;clear HW d4;go_wp2_with fail
   refine bodyPost_ret (v := .tuple #[.slice oL j pL, .int .i64 um]) (by simp [results, results76, go_sem]) rfl ?_;exact ⟨l, um, _, (by rw [a9.out]; omega), b0.out, (.inl (by rw [a9.out]; omega)), rfl, (by rw [a9.out]; exact a0.out), c7⟩
  have c7 := HW.out.1;have b7 := hid HW.out.2;have a0 : Hid (wr.ownsRow w.heap.size 44 4 (.slice oL j pL) j (aB3 l)) := d4.out;clear HW d4;have d9 := c2c b7.out;go_wp2_with fail
  refine (bA4 _ _ n1 cs n2 ws B _ (HD.out _ c7) (by omega) (by omega) g0.out g1.out (j : Int)).mono ?_;rintro e w3 ⟨rfl, bw⟩;obtain ⟨ut, e0⟩ : ∃ t, t = aL5 cs ws (j : Int) := ⟨_, rfl⟩;rw [← e0];have d5 := hid e0;clear e0;have c8 := hbt c7 bw;have c9 := hown a0 bw;have e1 := hblk b7 bw;clear c7 bw;clear d9;have K3 := jz K1 c8 (jzb e1.out (jzn _));go_wp2_with fail
  refine ((bA2 ut _ (by rw [d5.out]; exact Nat.le_trans (HZ.out _) (by decide)) (f2.out _ c8) (f3.out _ c8) (g2.out _ c8)).mono (fun e w' h => cI9.data h)).mono ?_
  rintro e w4 ⟨uq, ub, uo, rfl, e2, bw⟩
  have d0 : Hid (ub.size ≤ 2000) := by
   rcases e2 with h | h
   ·exact h.2.1.2.2
   ·rw [h.2.1]; exact Nat.zero_le _
  have e3 := hid e2;clear e2;have K4 := jw K3 bw;have d1 := hown c9 bw;clear c8 bw K3;go_wp2_with fail
  refine ((bT1 ub _ (by have := d0.out; omega) (f2.out _ K4.hb) (f3.out _ K4.hb)).mono (fun e w' h => cW3.data h)).mono ?_
  rintro e w5 ⟨a1, a2, a3, a4, uz, rfl, d6, bw⟩;have K5 := jw K4 bw;have d2 := hown d1 bw;clear bw K4;go_upto_region 7 with fail
  obtain ⟨q2, e4⟩ := exq (w5.heap.size);obtain ⟨w6, d3⟩ := exq (w5.alloc (.cells #[.int .i64 a1, .string a2, .string a3, .int .i64 a4] 44));have e5 := e4.symm;rw [← d3]; try rw [← e4];have g4 := hsa d3 e5;have bw := bal d3;have K6 := ja K5 d3 e5;have b5 := hown d2 bw;clear bw d3 e5 K5;clear g4 e4;cases uz
  ·have g5 : Hid (∀ k a b t, ¬ aI8 ub k a b t) := (by rcases d6 with h | h; exact absurd h.1 (by decide); exact h.2);clear d6;go_wp2_with fail
   refine bodyPost_ret (v := .tuple #[.slice oL j pL, .int .i64 um]) (by simp [results, results76, go_sem]) rfl ?_;have g6 := K6.hb;exact ⟨l, um, _, (by rw [a9.out]; omega), b0.out, (.inr (fun q b k a c t h => by rw [a9.out, ← d5.out] at h; exact e3.out.noBan g5.out q b k a c t h)), rfl, (by rw [a9.out]; exact b5.out), g6⟩
  have d7 : Hid (aI8 ub a1 a2 a3 a4) := (by rcases d6 with h | h; exact h.2; exact absurd h.1 (by decide));clear d6;have e6 := c4c (jb K6 0 rfl);have b8 : ∀ o, (w6.alloc o).cell? ⟨q2, 0, none⟩ = some (.int .i64 a1) := fun o => (aA1 (aA6 (jb K6 0 rfl) ((Below.refl _ _).alloc (Nat.le_refl _) o)) 0).trans rfl
  have b1 : ∀ o, (w6.alloc o).frozen? ⟨q2, 0, none⟩ = false := fun o => aA2 (aA6 (jb K6 0 rfl) ((Below.refl _ _).alloc (Nat.le_refl _) o)) 0
  have e7 := c4c (jb K6 0 rfl);have b9 : ∀ o, (w6.alloc o).cell? ⟨q2, 1, none⟩ = some (.string a2) := fun o => (aA1 (aA6 (jb K6 0 rfl) ((Below.refl _ _).alloc (Nat.le_refl _) o)) 1).trans rfl
  have b2 : ∀ o, (w6.alloc o).frozen? ⟨q2, 1, none⟩ = false := fun o => aA2 (aA6 (jb K6 0 rfl) ((Below.refl _ _).alloc (Nat.le_refl _) o)) 1
  have e8 := c4c (jb K6 0 rfl);have c0 : ∀ o, (w6.alloc o).cell? ⟨q2, 2, none⟩ = some (.string a3) := fun o => (aA1 (aA6 (jb K6 0 rfl) ((Below.refl _ _).alloc (Nat.le_refl _) o)) 2).trans rfl
  have b3 : ∀ o, (w6.alloc o).frozen? ⟨q2, 2, none⟩ = false := fun o => aA2 (aA6 (jb K6 0 rfl) ((Below.refl _ _).alloc (Nat.le_refl _) o)) 2
  have e9 := c4c (jb K6 0 rfl);have c3 : ∀ o, (w6.alloc o).cell? ⟨q2, 3, none⟩ = some (.int .i64 a4) := fun o => (aA1 (aA6 (jb K6 0 rfl) ((Below.refl _ _).alloc (Nat.le_refl _) o)) 3).trans rfl
  have b4 : ∀ o, (w6.alloc o).frozen? ⟨q2, 3, none⟩ = false := fun o => aA2 (aA6 (jb K6 0 rfl) ((Below.refl _ _).alloc (Nat.le_refl _) o)) 3
  have hown := b5.out;have f4 : j + 1 ≤ maxLen := by unfold maxLen; omega
  have f5 : (j + 1) * 48 ≤ 140737488355328 := by omega
  have d0 : ∀ o, w.heap.size ≤ (w6.alloc o).heap.size := fun o => by have := K6.hb.size; simp; omega
  go_wp2_with (at_builtin; refine wpList_append_own _ rfl _ _ 29 rfl w.heap.size 44 i0 (.agg #[.int .i64 0, .string ⟨#[]⟩, .string ⟨#[]⟩, .int .i64 0]) 4 48 underlying29 hi f8 c5 f9 rfl (by decide) _ _ _ rfl (hown.alloc _) ⟨w6.heap.size, 0, none⟩ 1 1 [.int .i64 a1, .string a2, .string a3, .int .i64 a4] rfl rfl (bG3 _ _ _ _ _ _) (by intro u hu; simp at hu; rcases hu with rfl | rfl | rfl | rfl <;> rfl) f4 f5 (d0 _) ?_)
  intro v1 w7 a5 a6 _;have bA : Below w6.heap.size w6 (w6.alloc (.cells #[.int .i64 a1, .string a2, .string a3, .int .i64 a4] 44)) := (Below.refl _ _).alloc (Nat.le_refl _) _;have b6 : ∀ g, (.slice oL j pL : Value).ownBlock = some g → w.heap.size ≤ g := fun g hg => aC8 hown hg
  clear e6 b8 b1 e7 b9 b2 e8 c0 b3 e9 c3 b4;have f0 : Bw w (w7) := (K6.hb.trans (bA.mono K6.hb.size)).grown a6 (d0 _) b6;obtain ⟨f6, f7, rfl⟩ := aA0 a5;have a7 := hid a5;have K7 := jz K6 f0 (jzx (jzb (jgA bA a6 hown (jb K6 1 rfl)) (jzn _)));clear hown f4 f5 d0 a5 a6 bA b6 K6;by_cases hc1 : uq < 100000
  rotate_left
  ·have f1 := hid hc1;have c4 : Hid ((l ++ [(a1, a2, a3, a4)]).length = j + 1) := by show _ = _; rw [List.length_append, a9.out]; rfl
   have a8 : Hid (aH3 cs ws (l ++ [(a1, a2, a3, a4)]) (um)) := by
    have h := b0.out.snoc (by rw [a9.out, ← d5.out]; exact e3.out.ban d7.out) d7.out
    rw [bC6, if_neg f1.out] at h
    exact h
   go_wp2_with fail
   go_roundw
   case rel => exact ⟨j + 1, l ++ [(a1, a2, a3, a4)], um, f6, f7, by omega, by go_num, rfl, rfl, c4, ⟨f0, (jb K7 0 rfl)⟩, (by show World.ownsRow _ _ _ _ _ _ _; rw [aQ2, aX4]; exact a7.out), a8⟩
   case measure => simp [intOf]; omega
  have f1 := hid hc1;have c4 : Hid ((l ++ [(a1, a2, a3, a4)]).length = j + 1) := by show _ = _; rw [List.length_append, a9.out]; rfl
  have a8 : Hid (aH3 cs ws (l ++ [(a1, a2, a3, a4)]) ((max um uq))) := by
   have h := b0.out.snoc (by rw [a9.out, ← d5.out]; exact e3.out.ban d7.out) d7.out
   rw [bC6, if_pos f1.out] at h
   exact h
  go_wp2_with fail
  go_roundw
  case rel => exact ⟨j + 1, l ++ [(a1, a2, a3, a4)], (max um uq), f6, f7, by omega, by go_num, rfl, rfl, c4, ⟨f0, (jb K7 0 rfl)⟩, (by show World.ownsRow _ _ _ _ _ _ _; rw [aQ2, aX4]; exact a7.out), a8⟩
  case measure => simp [intOf]; omega
end Go.Proofs.YtiobfnpmidjijaaGreatDoor
namespace Go.Proofs
open Go.Shelf
def Tryz.insK_ren : Go.Shelf.Ren := ⟨fun | 20 => 291 | n => n, fun | 24 => 52 | 22 => 28 | 3 => 3 | 25 => 211 | 4 => 4 | 0 => 0 | n => n, fun | n => n⟩
theorem Tryz.insK : Go.Proofs.SlLaysF0.n20 prog Tryz.insK_ren := {
  mixed := by kernel_rfl
  f20 := ⟨Tryz.f291.name, by decide, func291.trans (congrArg some (by kernel_rfl))⟩
  t0 := underlying0
  a0 := isAgg0
  z0 := sizeOf0
  v0 := zeroValue0
  t3 := underlying3
  a3 := isAgg3
  z3 := sizeOf3
  v3 := zeroValue3
  t4 := underlying4
  a4 := isAgg4
  z4 := sizeOf4
  v4 := zeroValue4
  t22 := underlying28
  a22 := isAgg28
  z22 := sizeOf28
  v22 := zeroValue28
  t25 := underlying211
  a25 := isAgg211
  z25 := sizeOf211
  v25 := zeroValue211 }
end Go.Proofs
namespace Go.Proofs
open Go.Shelf
def Tryz.sortK_ren : Go.Shelf.Ren := ⟨fun | 6 => 252 | 15 => 295 | 14 => 294 | 28 => 325 | 29 => 326 | 20 => 291 | 21 => 318 | 22 => 319 | 23 => 320 | 24 => 321 | 25 => 322 | 26 => 323 | 27 => 324 | 46 => 340 | 47 => 341 | 48 => 342 | 49 => 343 | 50 => 344 | 57 => 362 | n => n, fun | 22 => 28 | 24 => 52 | 25 => 211 | 3 => 3 | 39 => 301 | 0 => 0 | 53 => 362 | 55 => 364 | 4 => 4 | 46 => 356 | 45 => 355 | 50 => 246 | 5 => 5 | 9 => 9 | 66 => 374 | 70 => 378 | 76 => 385 | 77 => 386 | n => n, fun | n => n⟩
theorem Tryz.sortK : Go.Proofs.SlLaysF0.n6 prog Tryz.sortK_ren := {
  mixed := by kernel_rfl
  f6 := ⟨Tryz.f252.name, by decide, func252.trans (congrArg some (by kernel_rfl))⟩
  f14 := ⟨Tryz.f294.name, by decide, func294.trans (congrArg some (by kernel_rfl))⟩
  f15 := func295.trans (congrArg some (by kernel_rfl))
  f20 := ⟨Tryz.f291.name, by decide, func291.trans (congrArg some (by kernel_rfl))⟩
  f21 := ⟨Tryz.f318.name, by decide, func318.trans (congrArg some (by kernel_rfl))⟩
  f22 := ⟨Tryz.f319.name, by decide, func319.trans (congrArg some (by kernel_rfl))⟩
  f23 := ⟨Tryz.f320.name, by decide, func320.trans (congrArg some (by kernel_rfl))⟩
  f24 := ⟨Tryz.f321.name, by decide, func321.trans (congrArg some (by kernel_rfl))⟩
  f25 := ⟨Tryz.f322.name, by decide, func322.trans (congrArg some (by kernel_rfl))⟩
  f26 := ⟨Tryz.f323.name, by decide, func323.trans (congrArg some (by kernel_rfl))⟩
  f27 := ⟨Tryz.f324.name, by decide, func324.trans (congrArg some (by kernel_rfl))⟩
  f28 := func325.trans (congrArg some (by kernel_rfl))
  f29 := func326.trans (congrArg some (by kernel_rfl))
  f46 := ⟨Tryz.f340.name, by decide, func340.trans (congrArg some (by kernel_rfl))⟩
  f47 := func341.trans (congrArg some (by kernel_rfl))
  f48 := func342.trans (congrArg some (by kernel_rfl))
  f49 := ⟨Tryz.f343.name, by decide, func343.trans (congrArg some (by kernel_rfl))⟩
  f50 := ⟨Tryz.f344.name, by decide, func344.trans (congrArg some (by kernel_rfl))⟩
  f57 := ⟨Tryz.f362.name, by decide, func362.trans (congrArg some (by kernel_rfl))⟩
  t0 := underlying0
  a0 := isAgg0
  z0 := sizeOf0
  v0 := zeroValue0
  t3 := underlying3
  a3 := isAgg3
  z3 := sizeOf3
  v3 := zeroValue3
  t4 := underlying4
  a4 := isAgg4
  z4 := sizeOf4
  v4 := zeroValue4
  t5 := underlying5
  a5 := isAgg5
  z5 := sizeOf5
  v5 := zeroValue5
  t9 := underlying9
  a9 := isAgg9
  z9 := sizeOf9
  v9 := zeroValue9
  t22 := underlying28
  a22 := isAgg28
  z22 := sizeOf28
  v22 := zeroValue28
  t25 := underlying211
  a25 := isAgg211
  z25 := sizeOf211
  v25 := zeroValue211
  t39 := underlying301
  a39 := isAgg301
  z39 := sizeOf301
  v39 := zeroValue301
  t45 := underlying355
  a45 := isAgg355
  z45 := sizeOf355
  v45 := zeroValue355
  t46 := underlying356
  a46 := isAgg356
  z46 := sizeOf356
  v46 := zeroValue356
  t50 := underlying246
  a50 := isAgg246
  z50 := sizeOf246
  v50 := zeroValue246
  t53 := underlying362
  a53 := isAgg362
  z53 := sizeOf362
  v53 := zeroValue362
  t55 := underlying364
  a55 := isAgg364
  z55 := sizeOf364
  v55 := zeroValue364
  t66 := underlying374
  a66 := isAgg374
  z66 := sizeOf374
  v66 := zeroValue374
  t70 := underlying378
  a70 := isAgg378
  z70 := sizeOf378
  v70 := zeroValue378
  t76 := underlying385
  a76 := isAgg385
  z76 := sizeOf385
  v76 := zeroValue385
  t77 := underlying386
  a77 := isAgg386
  z77 := sizeOf386
  v77 := zeroValue386 }
def Tryz.cmpInt_ren : Go.Shelf.Ren := ⟨fun | 5 => 251 | 7 => 293 | n => n, fun | 22 => 3 | 3 => 3 | 4 => 4 | n => n, fun | n => n⟩
theorem Tryz.cmpInt : Go.Proofs.SlLaysC2.n5 prog Tryz.cmpInt_ren := {
  mixed := by kernel_rfl
  f5 := ⟨Tryz.f251.name, by decide, func251.trans (congrArg some (by kernel_rfl))⟩
  f7 := ⟨Tryz.f293.name, by decide, func293.trans (congrArg some (by kernel_rfl))⟩
  t3 := underlying3
  a3 := isAgg3
  z3 := sizeOf3
  v3 := zeroValue3
  t4 := underlying4
  a4 := isAgg4
  z4 := sizeOf4
  v4 := zeroValue4
  t22 := underlying3
  a22 := isAgg3
  z22 := sizeOf3
  v22 := zeroValue3 }
end Go.Proofs
namespace Go.Proofs.YtiobfnpmidjijaaGreatDoor
open Go.Proofs.Tryz
open Go.Shelf Go.RowKit Go.Sort
open Go.Lib hiding intOf
def kpE (x : ByteArray × (Oa × Nat × Nat) × (Oa × Nat × Nat) × Int × (Oa × Nat × Nat) × ByteArray × Int × Int × Int) : List Value := [.string x.1, .slice x.2.1.1 x.2.1.2.1 x.2.1.2.2, .slice x.2.2.1.1 x.2.2.1.2.1 x.2.2.1.2.2, .int .i64 x.2.2.2.1, .slice x.2.2.2.2.1.1 x.2.2.2.2.1.2.1 x.2.2.2.2.1.2.2, .string x.2.2.2.2.2.1, .int .i64 x.2.2.2.2.2.2.1, .int .i64 x.2.2.2.2.2.2.2.1, .int .i64 x.2.2.2.2.2.2.2.2]
theorem bJ8 (x : ByteArray × (Oa × Nat × Nat) × (Oa × Nat × Nat) × Int × (Oa × Nat × Nat) × ByteArray × Int × Int × Int) : (kpE x).length = 9 := rfl
theorem cT6 (x : ByteArray × (Oa × Nat × Nat) × (Oa × Nat × Nat) × Int × (Oa × Nat × Nat) × ByteArray × Int × Int × Int) (v : Value) (hv : v ∈ kpE x) : v.oneCell' = true := by
 simp only [kpE, List.mem_cons, List.not_mem_nil, or_false] at hv
 rcases hv with rfl | rfl | rfl | rfl | rfl | rfl | rfl | rfl | rfl <;> rfl
theorem dG4 (x y : ByteArray × (Oa × Nat × Nat) × (Oa × Nat × Nat) × Int × (Oa × Nat × Nat) × ByteArray × Int × Int × Int) : ltOf (fun x y : ByteArray × (Oa × Nat × Nat) × (Oa × Nat × Nat) × Int × (Oa × Nat × Nat) × ByteArray × Int × Int × Int => Lib.compareInt x.2.2.2.2.2.2.2.2 y.2.2.2.2.2.2.2.2) x y = decide (x.2.2.2.2.2.2.2.2 < y.2.2.2.2.2.2.2.2) := by
 unfold ltOf Lib.compareInt;by_cases h1 : x.2.2.2.2.2.2.2.2 < y.2.2.2.2.2.2.2.2
 ·simp [h1]
 by_cases h2 : y.2.2.2.2.2.2.2.2 < x.2.2.2.2.2.2.2.2 <;> simp [h1, h2]
theorem dU1 : SWO (ltOf fun x y : ByteArray × (Oa × Nat × Nat) × (Oa × Nat × Nat) × Int × (Oa × Nat × Nat) × ByteArray × Int × Int × Int => Lib.compareInt x.2.2.2.2.2.2.2.2 y.2.2.2.2.2.2.2.2) where
 irrefl x := by rw [dG4]; simp
 trans x y z h1 h2 := by rw [dG4] at *; simp at *; omega
 ntrans x y z h1 h2 := by rw [dG4] at *; simp at *; omega
theorem dG5 (x y : ByteArray × (Oa × Nat × Nat) × (Oa × Nat × Nat) × Int × (Oa × Nat × Nat) × ByteArray × Int × Int × Int) (W : World) : Calls prog 172 #[.agg #[.string x.1, .slice x.2.1.1 x.2.1.2.1 x.2.1.2.2, .slice x.2.2.1.1 x.2.2.1.2.1 x.2.2.1.2.2, .int .i64 x.2.2.2.1, .slice x.2.2.2.2.1.1 x.2.2.2.2.1.2.1 x.2.2.2.2.1.2.2, .string x.2.2.2.2.2.1, .int .i64 x.2.2.2.2.2.2.1, .int .i64 x.2.2.2.2.2.2.2.1, .int .i64 x.2.2.2.2.2.2.2.2], .agg #[.string y.1, .slice y.2.1.1 y.2.1.2.1 y.2.1.2.2, .slice y.2.2.1.1 y.2.2.1.2.1 y.2.2.1.2.2, .int .i64 y.2.2.2.1, .slice y.2.2.2.2.1.1 y.2.2.2.2.1.2.1 y.2.2.2.2.1.2.2, .string y.2.2.2.2.2.1, .int .i64 y.2.2.2.2.2.2.1, .int .i64 y.2.2.2.2.2.2.2.1, .int .i64 y.2.2.2.2.2.2.2.2]] W fun e w' => e = .returned (.int .i64 (Lib.compareInt x.2.2.2.2.2.2.2.2 y.2.2.2.2.2.2.2.2)) ∧ ∃ q os', w' = grow (W.drewN q) os' := by
 have a0 := fun W' => AnyG.cmp_Compare_int Tryz.cmpInt x.2.2.2.2.2.2.2.2 y.2.2.2.2.2.2.2.2 W'
 change ∀ W', Calls prog 251 _ _ _ at a0
 generalize Lib.compareInt x.2.2.2.2.2.2.2.2 y.2.2.2.2.2.2.2.2 = r at a0 ⊢;go_enter func172, ntmps172;go_wp2_with (go_at_call 251; refine (a0 _).mono ?_; rintro e w' ⟨rfl, rfl⟩)
 go_ret;exact ⟨rfl, 0, _, by rw [alloc_eq_grow, alloc_eq_grow, grow_grow]; rfl⟩
theorem dM1 (blk off size : Nat) (w : World) : CmpLays prog 172 #[] kpE 9 (fun x y => Lib.compareInt x.2.2.2.2.2.2.2.2 y.2.2.2.2.2.2.2.2) blk off size w :=
 fun _ _ _ _ x y => dG5 x y _
theorem cL0 (blk off cap : Nat) (d : Array (ByteArray × (Oa × Nat × Nat) × (Oa × Nat × Nat) × Int × (Oa × Nat × Nat) × ByteArray × Int × Int × Int)) (w : World) (hH : HoldsK kpE 9 w blk off d) (hblk : blk < w.heap.size) (hsz : d.size < 4611686018427387904) :
  Calls prog 252 #[.slice (some ⟨blk, off, none⟩) d.size cap, .func (.func 172) #[] #[]] w fun e w' => e = .returned (.tuple #[]) ∧ ∃ d' n os, PermIn 0 d.size d d' ∧ SortedIn (ltOf fun x y : ByteArray × (Oa × Nat × Nat) × (Oa × Nat × Nat) × Int × (Oa × Nat × Nat) × ByteArray × Int × Int × Int => Lib.compareInt x.2.2.2.2.2.2.2.2 y.2.2.2.2.2.2.2.2) 0 d.size d' ∧ w' = sortWorldK kpE 9 w blk off n d' os := by
 have eg : ∀ args w, (callFunc 172 args).run prog w = .ok (.enter 172 args) w := enters_of func172 (by kernel_rfl) rfl;have a0 := AnyQ.slices_SortFunc Tryz.sortK 9 isAgg52 sizeOf52 kpE bJ8 cT6 (fun x y => Lib.compareInt x.2.2.2.2.2.2.2.2 y.2.2.2.2.2.2.2.2) dU1 172 #[] blk off cap d w eg (dM1 blk off d.size w) hH hblk hsz
 change Calls prog 252 _ _ _ at a0
 exact a0
def slT : Value → Oa × Nat × Nat
 | .slice o n c => (o, n, c)
 | _ => (none, 0, 0)
def ksOf (x : KpD × Value × Value × Value) : ByteArray × (Oa × Nat × Nat) × (Oa × Nat × Nat) × Int × (Oa × Nat × Nat) × ByteArray × Int × Int × Int := (x.1.p, slT x.2.1, slT x.2.2.1, x.1.st, slT x.2.2.2, x.1.b, x.1.t, x.1.a, x.1.q)
theorem dU2 {kv : Ks} (h : aM4 kv) {x : KpD × Value × Value × Value} (hx : x ∈ kv) : kpE (ksOf x) = kpC x := by
 obtain ⟨y, v1, v2, v3⟩ := x;obtain ⟨o1, c1, o2, c2, o3, c3, e1, e2, e3⟩ := h _ hx;dsimp only at e1 e2 e3;subst e1 e2 e3;rfl
theorem bT8 {kv : Ks} (h : aM4 kv) : ∀ l : Ks, (∀ x ∈ l, x ∈ kv) → (l.map ksOf).flatMap kpE = l.flatMap kpC
 | [], _ => rfl
 | x :: l, hl => by rw [List.map_cons, List.flatMap_cons, List.flatMap_cons, dU2 h (hl x List.mem_cons_self), bT8 h l (fun y hy => hl y (List.mem_cons_of_mem _ hy))]
theorem dP6 : ∀ (l : Ks) (m : List (ByteArray × (Oa × Nat × Nat) × (Oa × Nat × Nat) × Int × (Oa × Nat × Nat) × ByteArray × Int × Int × Int)), m.Perm (l.map ksOf) → ∃ l' : Ks, l'.Perm l ∧ l'.map ksOf = m := fun l m h => by
 induction m generalizing l with
 | nil =>
  have e : l.map ksOf = [] := h.symm.eq_nil
  exact ⟨[], by rw [List.map_eq_nil_iff.1 e], rfl⟩
 | cons y m ih =>
  have hy : y ∈ l.map ksOf := h.mem_iff.1 List.mem_cons_self
  obtain ⟨x, hx, rfl⟩ := List.mem_map.1 hy
  obtain ⟨s, t, rfl⟩ := List.append_of_mem hx
  have h2 : (ksOf x :: m).Perm (ksOf x :: ((s ++ t).map ksOf)) := h.trans (by rw [List.map_append, List.map_cons, List.map_append]; exact List.perm_middle)
  obtain ⟨l', h3, h4⟩ := ih (s ++ t) ((List.perm_cons _).1 h2)
  exact ⟨x :: l', (h3.cons x).trans List.perm_middle.symm, by rw [List.map_cons, h4]⟩
theorem cL1 {α : Type} : ∀ (l m : List α), l.Nodup → (∀ y ∈ l, y ∈ m) → l.length ≤ m.length
 | [], _, _, _ => Nat.zero_le _
 | x :: l, m, h, hs => by
  obtain ⟨s, t, rfl⟩ := List.append_of_mem (hs x List.mem_cons_self)
  have h1 := List.nodup_cons.1 h
  have h2 := cL1 l (s ++ t) h1.2 (fun y hy => by
   have h3 := hs y (List.mem_cons_of_mem _ hy)
   rcases List.mem_append.1 h3 with h4 | h4
   · exact List.mem_append_left _ h4
   ·rcases List.mem_cons.1 h4 with h5 | h5
    · exact absurd (by rw [← h5]; exact hy) h1.1
    · exact List.mem_append_right _ h5)
  simp only [List.length_append, List.length_cons] at h2 ⊢
  omega
theorem cA3 {α : Type} [Inhabited α] (enc : α → List Value) (k : Nat) (k0 : 0 < k) (hk : ∀ x, (enc x).length = k) (d : Array α) : (flatK enc k d).toList = d.toList.flatMap enc := by
 apply List.ext_getElem?
 intro t;by_cases ht : t < d.size * k
 rotate_left
 ·rw [List.getElem?_eq_none (by simp [size_flatK]; omega), List.getElem?_eq_none (by rw [aS9 enc k hk]; simp; omega)]
 have hi : t / k < d.size := (Nat.div_lt_iff_lt_mul k0).2 ht;have hj : t % k < k := Nat.mod_lt _ k0;have e : t / k * k + t % k = t := by rw [Nat.mul_comm]; exact Nat.div_add_mod t k
 have h1 := bE7 enc k hk d.toList (t / k) (t % k) (by simpa using hi) hj;rw [e] at h1;have hs : t < (flatK enc k d).size := by rw [size_flatK]; exact ht
 have h2 := get_flatK enc k d t ht;rw [getElem!_pos _ t hs] at h2;rw [h1, Array.getElem?_toList, Array.getElem?_eq_getElem hs, h2, getElem!_pos d _ hi, List.getElem?_eq_getElem (by rw [hk]; exact hj), getElem!_pos (enc _) _ (by rw [hk]; exact hj)];rfl
theorem cA4 {α : Type} [Inhabited α] {enc : α → List Value} {k : Nat} (k0 : 0 < k) (hk : ∀ x, (enc x).length = k) {w : World} {base : Nat} {T : TypeId} {g n cap : Nat} {l : List α} (h : w.ownsRow base T k (.slice (some ⟨g, 0, none⟩) n cap) n (l.flatMap enc)) : HoldsK enc k w g 0 l.toArray := by
 intro j hj;have e := cA3 enc k k0 hk l.toArray
 have h1 : (l.flatMap enc)[j]? = some ((flatK enc k l.toArray)[j]!) := by
  rw [show l = l.toArray.toList from rfl, ← e, Array.getElem?_toList, Array.getElem?_eq_getElem hj, getElem!_pos _ j hj]
 have h2 := bA9 h j _ h1;rw [Nat.zero_add];exact h2
theorem bH5 {α : Type} [Inhabited α] {enc : α → List Value} {k : Nat} {w : World} {g m : Nat} {os : Array Obj} (d : Array α) : w.grownBy (sortWorldK enc k w g 0 m d os) (some g) := by
 unfold sortWorldK putRowK;refine ⟨rfl, rfl, rfl, by simp, fun k hk a0 => ?_⟩
 rw [heap_grow_old _ _ (by simpa using hk)];have : g ≠ k := fun e => a0 (by rw [e])
 simp [putRow, mapBlock, Sort.ahead, Array.getElem?_modify, this]
theorem bL0 {α : Type} [Inhabited α] {enc : α → List Value} {k : Nat} (k0 : 0 < k) (hk : ∀ x, (enc x).length = k) {w : World} {base : Nat} {T : TypeId} {g n cap m : Nat} {xs : List Value} {os : Array Obj} (h : w.ownsRow base T k (.slice (some ⟨g, 0, none⟩) n cap) n xs) (d : Array α) (hd : d.size = n) : (sortWorldK enc k w g 0 m d os).ownsRow base T k (.slice (some ⟨g, 0, none⟩) n cap) n (d.toList.flatMap enc) := by
 rcases h.2 with ⟨h0, _⟩ | ⟨g', a1, a0, hv, hb, hh, hn, hm, hs, a3⟩
 ·cases h0
 injection hv with e1 e2 e3
 cases e1
 subst e3;have a2 : g < w.heap.size := (blt hh);have a4 : n * k ≤ a0.size := by rw [hs]; exact Nat.mul_le_mul_right k hn
 refine ⟨by rw [aS9 enc k hk]; simp [hd], .inr ⟨g, cap, putCells id 0 (flatK enc k d) a0, rfl, hb, ?_, hn, hm, by simp [putCells, hs], ?_⟩⟩
 ·unfold sortWorldK putRowK;rw [heap_grow_old _ _ (by simpa using a2)];simp [putRow, mapBlock, Sort.ahead, Array.getElem?_modify, hh, onCells]
 rw [← cA3 enc k k0 hk d];apply List.ext_getElem?
 intro j;by_cases hj : j < n * k
 rotate_left
 ·rw [List.getElem?_take_eq_none (by omega), List.getElem?_eq_none (by simp [hd]; omega)]
 rw [List.getElem?_take_of_lt hj, Array.getElem?_toList, Array.getElem?_toList];have h1 : j < (flatK enc k d).size := by rw [size_flatK, hd]; exact hj
 rw [Array.getElem?_eq_getElem h1, ← getElem!_pos _ j h1];have h3 : j < d.size * k := by rw [hd]; exact hj
 simp [putCells, h3, show j < a0.size by omega]
theorem cY4 {w w' : World} {b r n : Nat} {D : DataW Value} {left : Lit → Bool} {cnt : Nat} {base : Nat} {T : TypeId} {z m : Nat} {v : Value} {c : List Value} (h : w.ranges prog 3 mpR b r n D left cnt) (hr : w.ownsRow base T z v m c) (hg : w.grownBy w' v.ownBlock) : w'.ranges prog 3 mpR b r n D left cnt := by
 have a3 := h.owns.lt;have a4 := h.lt;obtain ⟨es, a0, a1, a2, c0, h1, h2, h3, h4, h5, h6⟩ := h;refine ⟨es, a0, a1, a2, c0, (hg.block b a3 (fun e => ?_)).trans h1, h2, h3, h4, (hg.block r a4 (fun e => ?_)).trans h5, h6⟩
 ·obtain ⟨cs, fr, hq⟩ := cO5 hr e.symm;rw [h1] at hq;cases hq
 obtain ⟨cs, fr, hq⟩ := cO5 hr e.symm;rw [h5] at hq;cases hq
theorem dG6 {w : World} {b r n : Nat} {D : DataW Value} {left : Lit → Bool} {cnt : Nat} {base : Nat} {T : TypeId} {z m : Nat} {v : Value} {c : List Value} (h : w.ranges prog 3 mpR b r n D left cnt) (hr : w.ownsRow base T z v m c) : v.ownBlock ≠ some r := fun e => by
 obtain ⟨es, clock, since, seen, c0, _, _, _, _, h5, _⟩ := h
 obtain ⟨cs, fr, hq⟩ := cO5 hr e
 rw [h5] at hq
 cases hq
theorem dP7 {D : DataW Value} {kv : Ks} {a : Int} {v : Value} (hi : aW1 D kv) (hat : ∀ zd, D.atKey (.int .i64 a) zd = .held v) : ∃ x ∈ kv, x.1.a = a ∧ v = kpX x := by
 obtain ⟨x, hx, e⟩ := (hi.1 a).1 (Maps.has_true_of_atKey hat);have h1 := hi.2 x hx (.held v);rw [e, hat] at h1;injection h1 with h1
 exact ⟨x, hx, e, h1⟩
def dU3 (kv : Ks) (w : World) (e : Ending) (w' : World) : Prop := ∃ (kv' : Ks) (g c : Nat), e = .returned (.slice (some ⟨g, 0, none⟩) kv'.length c) ∧ kv'.Perm kv ∧ kv'.Pairwise (fun x y => x.1.q ≤ y.1.q) ∧ w'.ownsRow w.heap.size 52 9 (.slice (some ⟨g, 0, none⟩) kv'.length c) kv'.length (kv'.flatMap kpC) ∧ RowKit.Below w.heap.size w w'
theorem cP8 {kv acc : Ks} {d' : Array (ByteArray × (Oa × Nat × Nat) × (Oa × Nat × Nat) × Int × (Oa × Nat × Nat) × ByteArray × Int × Int × Int)} (hp : acc.Perm kv) (h1 : PermIn 0 (acc.map ksOf).toArray.size (acc.map ksOf).toArray d') (h2 : SortedIn (ltOf fun x y : ByteArray × (Oa × Nat × Nat) × (Oa × Nat × Nat) × Int × (Oa × Nat × Nat) × ByteArray × Int × Int × Int => Lib.compareInt x.2.2.2.2.2.2.2.2 y.2.2.2.2.2.2.2.2) 0 (acc.map ksOf).toArray.size d') : ∃ kv' : Ks, kv'.Perm kv ∧ kv'.map ksOf = d'.toList ∧ kv'.Pairwise (fun x y => x.1.q ≤ y.1.q) := by
 obtain ⟨hs, _, a0⟩ := h1;rw [Array.extract_eq_self_of_le (by rw [hs]; exact Nat.le_refl _), Array.extract_eq_self_of_le (Nat.le_refl _)] at a0;obtain ⟨l', h3, h4⟩ := dP6 acc d'.toList (by simpa using a0);refine ⟨l', h3.trans hp, h4, ?_⟩;rw [List.pairwise_iff_getElem];intro i j hi hj a2;have hl : l'.length = d'.size := by rw [← List.length_map (f := ksOf), h4]; simp
 have h5 := h2 i j (Nat.zero_le _) a2 (by rw [← hs]; omega);rw [dG4] at h5
 have e : ∀ k (hk : k < l'.length), d'[k]! = ksOf (l'[k]'hk) := fun k hk => by
  have a1 : k < d'.size := by omega
  rw [getElem!_pos d' k a1, ← Array.getElem_toList a1]
  simp only [← h4, List.getElem_map]
 rw [e i hi, e j hj] at h5;have h6 := of_decide_eq_false h5;unfold ksOf at h6;dsimp only at h6;omega
theorem dL1 (b n : Nat) (D : DataW Value) (kv : Ks) (w : World) (hown : aT4 w b n D) (hi : aW1 D kv) (ha : aM3 kv) (hsl : aM4 kv) (hn : n ≤ 1048576) (hkl : kv.length ≤ 1048576) :
  Calls prog 174 #[.map (some b)] w fun e w' => dU3 kv w e w' := by
 unfold aT4 at hown
 obtain ⟨i0, hif, hz0, hz1, hz2⟩ := info_parts bB5
 have hns : Maps.size D ≤ n := hown.size_le
 obtain ⟨m0, hm0⟩ := exq (Maps.size D)
 obtain ⟨M, hM⟩ : ∃ M, M = madeCells (Value.cells (.agg #[.string ⟨#[]⟩, .slice none 0 0, .slice none 0 0, .int .i64 0, .slice none 0 0, .string ⟨#[]⟩, .int .i64 0, .int .i64 0, .int .i64 0])) (((m0 : Nat) : Int).toNat * i0.size) := ⟨_, rfl⟩
 have hmk : ∀ W : World, (Instr.makeSlice 28 (.int .i64 0) (.int .i64 (m0 : Int))).run prog W = .ok (.slice (some ⟨W.heap.size, 0, none⟩) 0 m0) (W.alloc (.cells M 52)) := fun W => by
  have h := run_make (P := prog) W 28 52 i0 (.agg #[.string ⟨#[]⟩, .slice none 0 0, .slice none 0 0, .int .i64 0, .slice none 0 0, .string ⟨#[]⟩, .int .i64 0, .int .i64 0, .int .i64 0]) underlying28 hif hz0 .i64 .i64 0 (m0 : Int) (by omega) (by omega) (by rw [hz2]; omega) (by omega)
  rw [← hM] at h
  simpa using h
 have hmk2 : ∀ W : World, (Instr.makeSlice 28 (.int .i64 0) (.int .i64 ((Maps.size D : Nat) : Int))).run prog W = .ok (.slice (some ⟨W.heap.size, 0, none⟩) 0 m0) (W.alloc (.cells M 52)) := by rw [← hm0]; exact hmk
 have HMs : Hid (M.size = m0 * 9) := by show _ = _; rw [hM, size_madeCells, hz1]; simp
 have HSL := hid hsl
 have HAP := hid ha
 have HI := hid hi
 have HKL := hid hkl
 have hml : m0 ≤ 1048576 := by omega
 clear hsl ha hi hkl hM hns hm0
 go_enter func174, ntmps174
 go_upto_region 2 with (first | (at_len; refine wpList_len_own _ rfl _ 191 rfl 3 52 underlying191 mpR b n D rfl hown ?_) | fail)
 obtain ⟨g0, hg0⟩ := exq (w.heap.size)
 obtain ⟨w1, hw1⟩ := exq (w.alloc (.cells M 52))
 rw [← hw1, ← hg0]
 have bw1 : RowKit.Below w.heap.size w w1 := by rw [hw1]; exact (RowKit.Below.refl _ _).alloc (Nat.le_refl _) _
 have HO1 : Hid (w1.ownsRow w.heap.size 52 9 (.slice (some ⟨g0, 0, none⟩) 0 m0) 0 ([] : List Value)) := ⟨rfl, .inr ⟨g0, m0, M, rfl, by omega, by rw [hw1, hg0]; exact heap_alloc_new _ _, Nat.zero_le _, by unfold maxLen; omega, HMs.out, by simp⟩⟩
 have hown1 := bR6 hown bw1
 have HB1 : Hid (RowKit.Below w.heap.size w w1) := bw1
 obtain ⟨r, hr⟩ := exq (w1.heap.size)
 have HRG : Hid (w.heap.size ≤ r) := by show _ ≤ _; rw [hr]; exact bw1.size
 clear hw1 hg0 hmk hmk2 HMs hown bw1
 go_wp2_with (first
  | (at_range; refine wpList_range_own _ rfl _ 191 rfl 3 52 bY5 underlying191 mpR b n D rfl hown1 ?_; intro w0 hrg0 hg0 hs0; rw [← hr] at hrg0 ⊢; clear hr)
  | go_in)
 have HO0 : Hid (w0.ownsRow w.heap.size 52 9 (.slice (some ⟨g0, 0, none⟩) 0 m0) 0 ([] : List Value)) := aA9 HO1.out (fun g hg => hg0.block g (aB0 HO1.out hg) (by simp))
 have HB0 : Hid (RowKit.Below w.heap.size w w0) := HB1.out.grown (hg0.but (some r)) HB1.out.size (by intro k hk; cases hk; exact HRG.out)
 clear hg0 hs0 hown1 HO1 HB1
 go_frame
 go_loopw [3] (fun x3 wr => ∃ (left : Lit → Bool) (cnt : Nat) (acc : Ks) (gz pz : Nat), x3 = .slice (some ⟨gz, 0, none⟩) acc.length pz ∧ wr.ranges prog 3 mpR b r n D left cnt ∧ Hid (aX9 left kv acc) ∧ Hid (wr.ownsRow w.heap.size 52 9 (.slice (some ⟨gz, 0, none⟩) acc.length pz) acc.length (acc.flatMap kpC)) ∧ Hid (RowKit.Below w.heap.size w wr)) (fun _ wr => wr.rangeLeft b r)
 case atStart => exact ⟨_, _, [], g0, m0, rfl, hrg0, aX9.start HI.out, HO0, HB0⟩
 case round =>
  clear HO0 HB0 hrg0
  obtain ⟨left, cnt, acc, gz, pz, rfl, hrg, HT, HO, HB⟩ := hrel
  have hal : acc.length ≤ 1048576 := by
   have h1 : acc.length ≤ kv.length := cL1 acc kv HT.out.1.nodup (fun y hy => ((HT.out.2 y).1 hy).1)
   have h2 := HKL.out
   omega
  go_wp2_with (first
   | (at_next; refine wpList_next_ranges _ rfl _ rfl 3 bY5 mpR (Value.int .i64) (fun v : Value => v) (fun key kl h => by obtain ⟨x, e, _⟩ := Maps.keyOf_int_inv underlying3 h; exact ⟨x, e⟩) (fun v y _ => ⟨v, rfl⟩) b r n D left cnt rfl hrg ?_ ?_)
   | go_in)
  ·intro _ hl0
   have HP : Hid (acc.Perm kv) := HT.out.perm HAP.out hl0
   have HSA : Hid ((acc.map ksOf).flatMap kpE = acc.flatMap kpC) := bT8 HSL.out acc (fun x hx => HP.out.mem_iff.1 hx)
   have hH : HoldsK kpE 9 wr gz 0 (acc.map ksOf).toArray := cA4 (T := 52) (base := w.heap.size) (n := acc.length) (cap := pz) (by decide) bJ8 (by rw [HSA.out]; exact HO.out)
   have hgl : gz < wr.heap.size := aB0 HO.out rfl
   have hdz : (acc.map ksOf).toArray.size = acc.length := by simp
   have hcon := cL0 gz 0 pz (acc.map ksOf).toArray wr hH hgl (by rw [hdz]; omega)
   rw [hdz] at hcon
   clear hH hrg HT
   go_wp2_with fail
   refine hcon.mono ?_
   rintro e w5 ⟨rfl, d', mm, os, hp, hs, hw5⟩
   obtain ⟨kv', hk1, hk2, hk3⟩ := cP8 HP.out (by rw [hdz]; exact hp) (by rw [hdz]; exact hs)
   have hds : d'.size = acc.length := by rw [hp.1]; exact hdz
   have hkl' : kv'.length = acc.length := by rw [← List.length_map (f := ksOf), hk2]; simpa using hds
   have HO5 : Hid (w5.ownsRow w.heap.size 52 9 (.slice (some ⟨gz, 0, none⟩) acc.length pz) acc.length (kv'.flatMap kpC)) := by
    have h1 := bL0 (enc := kpE) (m := mm) (os := os) (by decide) bJ8 HO.out d' hds
    rw [← hw5, ← hk2, bT8 HSL.out kv' (fun x hx => hk1.mem_iff.1 hx)] at h1
    exact h1
   have HB5 : Hid (RowKit.Below w.heap.size w w5) := HB.out.grown (by rw [hw5]; exact bH5 d') HB.out.size (by intro k hk; cases hk; exact aC8 HO.out rfl)
   have HK : Hid (kv'.Perm kv ∧ kv'.Pairwise (fun x y => x.1.q ≤ y.1.q) ∧ kv'.length = acc.length) := ⟨hk1, hk3, hkl'⟩
   clear hp hs hw5 hk1 hk2 hk3 hkl' hds hcon HSA HP HO HB hdz
   go_wp2_with fail
   go_ret
   exact ⟨kv', gz, pz, by rw [HK.out.2.2]; rfl, HK.out.1, HK.out.2.1, by rw [HK.out.2.2]; exact HO5.out, HB5.out⟩
  ·intro xa c kl yd yp w1 cnt1 hkey hlx hR hat hrg1 hlt hg1 hs1 hen
   obtain ⟨xb, exb, ekl, _⟩ := Maps.keyOf_int_inv underlying3 hkey
   cases exb
   subst ekl
   have ey := dD8 hR
   obtain ⟨ey1, _⟩ := Prod.mk.inj ey
   subst ey1
   obtain ⟨x, hxm, ea, ec⟩ := dP7 HI.out hat
   subst ea ec
   obtain ⟨y, v1, v2, v3⟩ := x
   obtain ⟨o1, c1, o2, c2, o3, c3, e1, e2, e3⟩ := HSL.out _ hxm
   dsimp only at e1 e2 e3
   subst e1 e2 e3
   dsimp only at hkey hat hlx hrg1 hen ⊢
   unfold kpX at hen
   dsimp only at hen
   have HXM := hid hxm
   have HLX := hid hlx
   have HB1 : Hid (RowKit.Below w.heap.size w w1) := HB.out.grown hg1 HB.out.size (by intro k hk; cases hk; exact HRG.out)
   have HO1 : Hid (w1.ownsRow w.heap.size 52 9 (.slice (some ⟨gz, 0, none⟩) acc.length pz) acc.length (acc.flatMap kpC)) := aA9 HO.out (fun g hg => hg1.block g (aB0 HO.out hg) (fun e => dG6 hrg HO.out (by rw [hg, e])))
   clear hkey hlx hat hxm hR hg1 hs1 HO HB
   unfold kpX
   dsimp only
   go_upto_region 5 with fail
   obtain ⟨q2, hq2⟩ := exq (w1.heap.size)
   obtain ⟨w2, hw2⟩ := exq (w1.alloc (.cells #[.string y.p, .slice o1 y.xs.length c1, .slice o2 y.ys.length c2, .int .i64 y.st, .slice o3 y.fs.length c3, .string y.b, .int .i64 y.t, .int .i64 y.a, .int .i64 y.q] 52))
   rw [← hw2, ← hq2]
   have bw2 : RowKit.Below w1.heap.size w1 w2 := by rw [hw2]; exact (RowKit.Below.refl _ _).alloc (Nat.le_refl _) _
   have HX2 : Hid (w2.heap[q2]? = some (.cells #[.string y.p, .slice o1 y.xs.length c1, .slice o2 y.ys.length c2, .int .i64 y.st, .slice o3 y.fs.length c3, .string y.b, .int .i64 y.t, .int .i64 y.a, .int .i64 y.q] 52)) := by show _ = _; rw [hw2, hq2]; exact heap_alloc_new _ _
   have HO2 := hown HO1 bw2
   have hrg2 := aU4 hrg1 bw2
   have HB2 : Hid (RowKit.Below w.heap.size w w2) := HB1.out.trans (bw2.mono HB1.out.size)
   clear hw2 hq2 bw2 hrg1 HO1 HB1 hen
   have bw3 : RowKit.Below w2.heap.size w2 (w2.alloc (.cells #[.string y.p, .slice o1 y.xs.length c1, .slice o2 y.ys.length c2, .int .i64 y.st, .slice o3 y.fs.length c3, .string y.b, .int .i64 y.t, .int .i64 y.a, .int .i64 y.q] 52)) := (RowKit.Below.refl _ _).alloc (Nat.le_refl _) _
   have hown3 : (w2.alloc (.cells #[.string y.p, .slice o1 y.xs.length c1, .slice o2 y.ys.length c2, .int .i64 y.st, .slice o3 y.fs.length c3, .string y.b, .int .i64 y.t, .int .i64 y.a, .int .i64 y.q] 52)).ownsRow w.heap.size 52 9 (.slice (some ⟨gz, 0, none⟩) acc.length pz) acc.length (acc.flatMap kpC) := aA8 HO2.out bw3 (fun g hg => aB0 HO2.out hg)
   have hnews : ∀ j u, ([.string y.p, .slice o1 y.xs.length c1, .slice o2 y.ys.length c2, .int .i64 y.st, .slice o3 y.fs.length c3, .string y.b, .int .i64 y.t, .int .i64 y.a, .int .i64 y.q] : List Value)[j]? = some u → (w2.alloc (.cells #[.string y.p, .slice o1 y.xs.length c1, .slice o2 y.ys.length c2, .int .i64 y.st, .slice o3 y.fs.length c3, .string y.b, .int .i64 y.t, .int .i64 y.a, .int .i64 y.q] 52)).cell? ((⟨w2.heap.size, 0, none⟩ : Addr).add j) = some u := World.news_of_block (heap_alloc_new _ _)
   have h63 : acc.length + 1 ≤ maxLen := by unfold maxLen; omega
   have h47 : (acc.length + 1) * 136 ≤ 140737488355328 := by omega
   have hbs : w.heap.size ≤ (w2.alloc (.cells #[.string y.p, .slice o1 y.xs.length c1, .slice o2 y.ys.length c2, .int .i64 y.st, .slice o3 y.fs.length c3, .string y.b, .int .i64 y.t, .int .i64 y.a, .int .i64 y.q] 52)).heap.size := Nat.le_trans HB2.out.size bw3.size
   have c0 : w2.cell? ⟨q2, 0, none⟩ = some (.string y.p) := (aA1 HX2.out 0).trans rfl
   have c1' : w2.cell? ⟨q2, 1, none⟩ = some (.slice o1 y.xs.length c1) := (aA1 HX2.out 1).trans rfl
   have c2' : w2.cell? ⟨q2, 2, none⟩ = some (.slice o2 y.ys.length c2) := (aA1 HX2.out 2).trans rfl
   have c3' : w2.cell? ⟨q2, 3, none⟩ = some (.int .i64 y.st) := (aA1 HX2.out 3).trans rfl
   have c4 : w2.cell? ⟨q2, 4, none⟩ = some (.slice o3 y.fs.length c3) := (aA1 HX2.out 4).trans rfl
   have c5 : w2.cell? ⟨q2, 5, none⟩ = some (.string y.b) := (aA1 HX2.out 5).trans rfl
   have c6 : w2.cell? ⟨q2, 6, none⟩ = some (.int .i64 y.t) := (aA1 HX2.out 6).trans rfl
   have c7 : w2.cell? ⟨q2, 7, none⟩ = some (.int .i64 y.a) := (aA1 HX2.out 7).trans rfl
   have c8 : w2.cell? ⟨q2, 8, none⟩ = some (.int .i64 y.q) := (aA1 HX2.out 8).trans rfl
   go_wp2_with (at_builtin; refine wpList_append_lies _ rfl _ _ 28 rfl w.heap.size 52 i0 (.agg #[.string ⟨#[]⟩, .slice none 0 0, .slice none 0 0, .int .i64 0, .slice none 0 0, .string ⟨#[]⟩, .int .i64 0, .int .i64 0, .int .i64 0]) 9 136 underlying28 hif hz0 hz1 hz2 rfl (by decide) _ _ _ rfl hown3 ⟨w2.heap.size, 0, none⟩ 1 1 [.string y.p, .slice o1 y.xs.length c1, .slice o2 y.ys.length c2, .int .i64 y.st, .slice o3 y.fs.length c3, .string y.b, .int .i64 y.t, .int .i64 y.a, .int .i64 y.q] rfl rfl hnews (by intro u hu; simp only [List.mem_cons, List.not_mem_nil, or_false] at hu; rcases hu with rfl | rfl | rfl | rfl | rfl | rfl | rfl | rfl | rfl <;> rfl) (by decide) h63 h47 hbs _ rfl ?_)
   intro gL cpL w4 hown4 hgrow hloc hltg
   have hrg4 := cY4 (aU4 hrg2 bw3) hown3 hgrow
   have HB4 : Hid (RowKit.Below w.heap.size w w4) := (HB2.out.trans (bw3.mono HB2.out.size)).grown hgrow hbs (fun g hg => aC8 hown3 hg)
   have HO4 : Hid (w4.ownsRow w.heap.size 52 9 (.slice (some ⟨gL, 0, none⟩) (acc ++ [((y, .slice o1 y.xs.length c1, .slice o2 y.ys.length c2, .slice o3 y.fs.length c3) : KpD × Value × Value × Value)]).length cpL) (acc ++ [((y, .slice o1 y.xs.length c1, .slice o2 y.ys.length c2, .slice o3 y.fs.length c3) : KpD × Value × Value × Value)]).length ((acc ++ [((y, .slice o1 y.xs.length c1, .slice o2 y.ys.length c2, .slice o3 y.fs.length c3) : KpD × Value × Value × Value)]).flatMap kpC)) := by
    show World.ownsRow _ _ _ _ _ _ _
    rw [List.length_append, List.flatMap_append]
    exact hown4
   have HE4 : Hid (Value.slice (some ⟨gL, 0, none⟩) (acc.length + 1) cpL = .slice (some ⟨gL, 0, none⟩) (acc ++ [((y, .slice o1 y.xs.length c1, .slice o2 y.ys.length c2, .slice o3 y.fs.length c3) : KpD × Value × Value × Value)]).length cpL) := by show _ = _; rw [List.length_append]; rfl
   clear hown4 hgrow hloc hltg hown3 hnews h63 h47 hbs bw3 hrg2 HO2 HB2 HX2 c0 c1' c2' c3' c4 c5 c6 c7 c8
   go_wp2_with fail
   go_roundw
   case rel => exact ⟨_, cnt1, acc ++ [((y, .slice o1 y.xs.length c1, .slice o2 y.ys.length c2, .slice o3 y.fs.length c3) : KpD × Value × Value × Value)], gL, cpL, HE4.out, hrg4, HT.out.more HAP.out HXM.out HLX.out, HO4, HB4⟩
   case measure => rw [hrg4.left_eq, hrg.left_eq]; exact hlt
theorem cP9 (blk off cap : Nat) (d : Array (ByteArray × (Oa × Nat × Nat) × (Oa × Nat × Nat) × Int × (Oa × Nat × Nat) × ByteArray × Int × Int × Int)) (w : World) (hH : HoldsK kpE 9 w blk off d) (hblk : blk < w.heap.size) (hsz : d.size < 4611686018427387904) :
  Calls prog 291 #[.slice (some ⟨blk, off, none⟩) d.size cap, .int .i64 (0 : Int), .int .i64 (d.size : Int), .func (.func 172) #[] #[]] w fun e w' => e = .returned (.tuple #[]) ∧ ∃ n os, w' = sortWorldK kpE 9 w blk off n (Go.Sort.insertionSort (ltOf fun x y : ByteArray × (Oa × Nat × Nat) × (Oa × Nat × Nat) × Int × (Oa × Nat × Nat) × ByteArray × Int × Int × Int => Lib.compareInt x.2.2.2.2.2.2.2.2 y.2.2.2.2.2.2.2.2) d 0 d.size) os := by
 have eg : ∀ args w, (callFunc 172 args).run prog w = .ok (.enter 172 args) w := enters_of func172 (by kernel_rfl) rfl;have a0 := AnyQ.insertionSortCmpFunc Tryz.insK 9 isAgg52 sizeOf52 kpE bJ8 cT6 (fun x y => Lib.compareInt x.2.2.2.2.2.2.2.2 y.2.2.2.2.2.2.2.2) 172 #[] blk off cap 0 d.size d w eg (dM1 blk off d.size w) hH hblk (Nat.zero_le _) (Nat.le_refl _) hsz
 change Calls prog 291 _ _ _ at a0
 exact a0
theorem cY5 (blk off cap : Nat) (d : Array (ByteArray × (Oa × Nat × Nat) × (Oa × Nat × Nat) × Int × (Oa × Nat × Nat) × ByteArray × Int × Int × Int)) (w : World) (hH : HoldsK kpE 9 w blk off d) (hblk : blk < w.heap.size) (hsz : d.size ≤ 15) :
  Calls prog 250 #[.slice (some ⟨blk, off, none⟩) d.size cap, .int .i64 (d.size : Int), .func (.func 172) #[] #[]] w fun e w' => e = .returned (.tuple #[]) ∧ ∃ n os, w' = sortWorldK kpE 9 w blk off n (Go.Sort.insertionSort (ltOf fun x y : ByteArray × (Oa × Nat × Nat) × (Oa × Nat × Nat) × Int × (Oa × Nat × Nat) × ByteArray × Int × Int × Int => Lib.compareInt x.2.2.2.2.2.2.2.2 y.2.2.2.2.2.2.2.2) d 0 d.size) os := by
 obtain ⟨z, hz⟩ := exq d.size
 have HC : Hid (Calls prog 291 #[.slice (some ⟨blk, off, none⟩) z cap, .int .i64 (0 : Int), .int .i64 (z : Int), .func (.func 172) #[] #[]] w fun e w' => e = .returned (.tuple #[]) ∧ ∃ n os, w' = sortWorldK kpE 9 w blk off n (Go.Sort.insertionSort (ltOf fun x y : ByteArray × (Oa × Nat × Nat) × (Oa × Nat × Nat) × Int × (Oa × Nat × Nat) × ByteArray × Int × Int × Int => Lib.compareInt x.2.2.2.2.2.2.2.2 y.2.2.2.2.2.2.2.2) d 0 z) os) := by
  rw [hz]
  exact cP9 blk off cap d w hH hblk (by omega)
 have a0 : z ≤ 15 := by omega
 have a1 : ¬ (20 ≤ (z : Int)) := by omega
 have a2 : ¬ (20 < (z : Int)) := by omega
 rw [← hz];clear hH hblk hsz hz;go_enter func250, ntmps250;go_wp2_with fail
 go_loopw [7, 8] (fun a b wr => a = .int .i64 0 ∧ b = .int .i64 20 ∧ wr = w) (fun _ _ _ => 0)
 case atStart => exact ⟨rfl, rfl, rfl⟩
 case round =>
  obtain ⟨rfl, rfl, rfl⟩ := hrel;go_wp2_with fail
  refine HC.out.mono ?_;rintro e w1 ⟨rfl, h⟩;go_wp2_with fail
  go_loopw [6] (fun a wr => a = .int .i64 20 ∧ wr = w1) (fun _ _ => 0)
  case atStart => exact ⟨rfl, rfl⟩
  case round =>
   obtain ⟨rfl, rfl⟩ := hrel;go_wp2_with fail
   go_end0
   exact ⟨rfl, h⟩
theorem bV8 (blk off cap : Nat) (d : Array (ByteArray × (Oa × Nat × Nat) × (Oa × Nat × Nat) × Int × (Oa × Nat × Nat) × ByteArray × Int × Int × Int)) (w : World) (hH : HoldsK kpE 9 w blk off d) (hblk : blk < w.heap.size) (hsz : d.size ≤ 15) :
  Calls prog 171 #[.slice (some ⟨blk, off, none⟩) d.size cap, .func (.func 172) #[] #[]] w fun e w' => e = .returned (.tuple #[]) ∧ ∃ n os, w' = sortWorldK kpE 9 w blk off n (Go.Sort.insertionSort (ltOf fun x y : ByteArray × (Oa × Nat × Nat) × (Oa × Nat × Nat) × Int × (Oa × Nat × Nat) × ByteArray × Int × Int × Int => Lib.compareInt x.2.2.2.2.2.2.2.2 y.2.2.2.2.2.2.2.2) d 0 d.size) os := by
 obtain ⟨z, hz⟩ := exq d.size
 have HC : Hid (Calls prog 250 #[.slice (some ⟨blk, off, none⟩) z cap, .int .i64 (z : Int), .func (.func 172) #[] #[]] w fun e w' => e = .returned (.tuple #[]) ∧ ∃ n os, w' = sortWorldK kpE 9 w blk off n (Go.Sort.insertionSort (ltOf fun x y : ByteArray × (Oa × Nat × Nat) × (Oa × Nat × Nat) × Int × (Oa × Nat × Nat) × ByteArray × Int × Int × Int => Lib.compareInt x.2.2.2.2.2.2.2.2 y.2.2.2.2.2.2.2.2) d 0 z) os) := by
  rw [hz]
  exact cY5 blk off cap d w hH hblk hsz
 rw [← hz];clear hH hblk hsz hz;go_enter func171, ntmps171;go_wp2_with fail
 refine HC.out.mono ?_;rintro e w1 ⟨rfl, h⟩;go_wp2_with fail
 go_end0
 exact ⟨rfl, h⟩
theorem dU4 (x y : ByteArray × (Oa × Nat × Nat) × (Oa × Nat × Nat) × Int × (Oa × Nat × Nat) × ByteArray × Int × Int × Int) : (ltOf fun x y : ByteArray × (Oa × Nat × Nat) × (Oa × Nat × Nat) × Int × (Oa × Nat × Nat) × ByteArray × Int × Int × Int => Lib.compareInt x.2.2.2.2.2.2.2.2 y.2.2.2.2.2.2.2.2) x y = decide (x.2.2.2.2.2.2.2.2 < y.2.2.2.2.2.2.2.2) := dG4 x y
theorem cY6 (g n cap : Nat) (kv : Ks) (B : Nat) (w : World) (h : w.ownsRow B 52 9 (.slice (some ⟨g, 0, none⟩) n cap) n (kv.flatMap kpC)) (hn : kv.length = n) (hl : n ≤ 15) (hsl : aM4 kv) :
  Calls prog 171 #[.slice (some ⟨g, 0, none⟩) n cap, .func (.func 172) #[] #[]] w fun e w' => e = .returned (.tuple #[]) ∧ w'.ownsRow B 52 9 (.slice (some ⟨g, 0, none⟩) n cap) n ((aG3 (fun x : KpD × Value × Value × Value => x.1.q) kv).flatMap kpC) ∧ w.grownBy w' (some g) := by
 have hsa : (kv.map ksOf).flatMap kpE = kv.flatMap kpC := bT8 hsl kv (fun x hx => hx)
 have hH : HoldsK kpE 9 w g 0 (kv.map ksOf).toArray := cA4 (T := 52) (base := B) (n := n) (cap := cap) (by decide) bJ8 (by rw [hsa]; exact h);have a1 : (kv.map ksOf).toArray.size = n := by simp [hn]
 have a0 := bV8 g 0 cap (kv.map ksOf).toArray w hH (aB0 h rfl) (by rw [a1]; exact hl);rw [a1] at a0;refine a0.mono ?_;rintro e w' ⟨rfl, m, os, hw⟩
 have hs : (Go.Sort.insertionSort (ltOf fun x y : ByteArray × (Oa × Nat × Nat) × (Oa × Nat × Nat) × Int × (Oa × Nat × Nat) × ByteArray × Int × Int × Int => Lib.compareInt x.2.2.2.2.2.2.2.2 y.2.2.2.2.2.2.2.2) (kv.map ksOf).toArray 0 n).toList = (aG3 (fun x : KpD × Value × Value × Value => x.1.q) kv).map ksOf := by
  have h1 := bG8 (key := fun x : ByteArray × (Oa × Nat × Nat) × (Oa × Nat × Nat) × Int × (Oa × Nat × Nat) × ByteArray × Int × Int × Int => x.2.2.2.2.2.2.2.2) dU4 (kv.map ksOf).toArray
  rw [a1] at h1
  rw [h1, bZ0 (key := fun x : KpD × Value × Value × Value => x.1.q) (key2 := fun x : ByteArray × (Oa × Nat × Nat) × (Oa × Nat × Nat) × Int × (Oa × Nat × Nat) × ByteArray × Int × Int × Int => x.2.2.2.2.2.2.2.2) (f := ksOf) (fun x => rfl)]
 have a2 : (Go.Sort.insertionSort (ltOf fun x y : ByteArray × (Oa × Nat × Nat) × (Oa × Nat × Nat) × Int × (Oa × Nat × Nat) × ByteArray × Int × Int × Int => Lib.compareInt x.2.2.2.2.2.2.2.2 y.2.2.2.2.2.2.2.2) (kv.map ksOf).toArray 0 n).size = n := by
  rw [← Array.length_toList, hs, List.length_map, (aT6 _ kv).length_eq, hn]
 refine ⟨rfl, ?_, by rw [hw]; exact bH5 _⟩;have h2 := bL0 (enc := kpE) (m := m) (os := os) (by decide) bJ8 h _ a2;rw [← hw, hs, bT8 hsl _ (fun x hx => (aT6 _ kv).mem_iff.1 hx)] at h2
 exact h2
theorem cQ0 (w : World) : Calls prog 291 #[.slice none 0 0, .int .i64 (0 : Int), .int .i64 (0 : Int), .func (.func 172) #[] #[]] w fun e w' => e = .returned (.tuple #[]) ∧ w' = w := by
 go_enter func291, ntmps291;go_wp2_with fail
 go_loopw [8] (fun a wr => a = .int .i64 1 ∧ wr = w) (fun _ _ => 0)
 case atStart => exact ⟨rfl, rfl⟩
 case round =>
  obtain ⟨rfl, rfl⟩ := hrel;go_wp2_with fail
  go_end0
  exact ⟨rfl, rfl⟩
theorem cY7 (w : World) : Calls prog 250 #[.slice none 0 0, .int .i64 (0 : Int), .func (.func 172) #[] #[]] w fun e w' => e = .returned (.tuple #[]) ∧ w' = w := by
 go_enter func250, ntmps250;go_wp2_with fail
 go_loopw [7, 8] (fun a b wr => a = .int .i64 0 ∧ b = .int .i64 20 ∧ wr = w) (fun _ _ _ => 0)
 case atStart => exact ⟨rfl, rfl, rfl⟩
 case round =>
  obtain ⟨rfl, rfl, rfl⟩ := hrel;go_wp2_with fail
  refine (cQ0 _).mono ?_;rintro e w1 ⟨rfl, rfl⟩;go_wp2_with fail
  go_loopw [6] (fun a wr => a = .int .i64 20 ∧ wr = w1) (fun _ _ => 0)
  case atStart => exact ⟨rfl, rfl⟩
  case round =>
   obtain ⟨rfl, rfl⟩ := hrel;go_wp2_with fail
   go_end0
   exact ⟨rfl, rfl⟩
theorem bV9 (w : World) : Calls prog 171 #[.slice none 0 0, .func (.func 172) #[] #[]] w fun e w' => e = .returned (.tuple #[]) ∧ w' = w := by
 go_enter func171, ntmps171;go_wp2_with fail
 refine (cY7 _).mono ?_;rintro e w1 ⟨rfl, rfl⟩;go_wp2_with fail
 go_end0
 exact ⟨rfl, rfl⟩
theorem cQ1 (o : Oa) (n cap : Nat) (kv : Ks) (B : Nat) (w : World) (h : w.ownsRow B 52 9 (.slice o n cap) n (kv.flatMap kpC)) (hn : kv.length = n) (hl : n ≤ 15) (hsl : aM4 kv) :
  Calls prog 171 #[.slice o n cap, .func (.func 172) #[] #[]] w fun e w' => e = .returned (.tuple #[]) ∧ w'.ownsRow B 52 9 (.slice o n cap) n ((aG3 (fun x : KpD × Value × Value × Value => x.1.q) kv).flatMap kpC) ∧ w.grownBy w' (Value.slice o n cap).ownBlock := by
 rcases h.2 with ⟨h0, _⟩ | ⟨g, a0, a1, hv, _⟩
 ·injection h0 with e1 e2 e3
  subst e1 e2 e3;have ek : kv = [] := List.eq_nil_of_length_eq_zero hn;subst ek;refine (bV9 w).mono ?_;rintro e w' ⟨rfl, rfl⟩;exact ⟨rfl, h, World.grownBy.refl _ _⟩
 injection hv with e1 e2 e3
 subst e1;exact cY6 g n cap kv B w h hn hl hsl
end Go.Proofs.YtiobfnpmidjijaaGreatDoor
namespace Go.Proofs.YtiobfnpmidjijaaGreatDoor
open Go.Proofs.Tryz
open Go.RowKit
open Go.Lib hiding intOf
theorem bJ9 {w w' : World} {B B2 : Nat} {rs : List Rw} {T : TypeId} {z n : Nat} {v : Value} {c : List Value} (h : aB2 w B rs) (hr : w.ownsRow B2 T z v n c) (hT : ∀ r ∈ rs, T ≠ r.T) (hg : w.grownBy w' v.ownBlock) : aB2 w' B rs := h.same (fun r hr2 g hg2 => hg.block g (h.lt hr2 hg2) (fun e => aW9 hr (h.own r hr2) (hT r hr2) e.symm hg2))
theorem dG7 {T : TypeId} {kv : Ks} {x : KpD × Value × Value × Value} (h1 : T ≠ 9) (h5 : T ≠ 232) : ∀ r ∈ kv.flatMap kpR ++ kpR x, T ≠ r.T := fun r hr => by
 rcases List.mem_append.1 hr with hr | hr
 · exact aO9 h1 h5 r hr
 · exact aO9 (kv := [x]) h1 h5 r (by simpa using hr)
def dU5 (cs : Ts) (ws : List (Int × ByteArray)) (w : World) (e : Ending) (w' : World) : Prop := ∃ (kvs : Ks) (l0 : List KpD) (v : Value), e = .returned v ∧ w'.ownsRow w.heap.size 52 9 v kvs.length (kvs.flatMap kpC) ∧ aB2 w' w.heap.size (kvs.flatMap kpR) ∧ aN8 cs ws 15 l0 ∧ kvs.map (·.1) = aG3 (fun z : KpD => z.q) l0 ∧ aM4 kvs ∧ Below w.heap.size w w'
theorem bT9 (v1 v2 : Value) (n1 : Nat) (cs : List ByteArray) (n2 : Nat) (ws : List (Int × ByteArray)) (B : Nat) (w : World) (h : aJ3 w B v1 n1 cs v2 n2 ws) (hn1 : n1 ≤ 1048576) (hn2 : n2 ≤ 1048576) (hzc : ∀ i, i < n1 → (aA7 cs i).size ≤ 1048576) (hzw : ∀ x ∈ ws, x.2.size ≤ 1048576) (hT : aG9 w) (hLN : aH5 w) (hH : aN9 w) :
    Calls prog 77 #[.agg #[v1, v2]] w fun e w' => dU5 cs ws w e w' := by
  obtain ⟨i0, hi, hz0, hz1, hz2⟩ := info_parts bB5
  obtain ⟨o1, c1, rfl⟩ := aA0 h.cells
  obtain ⟨o2, c2, rfl⟩ := aA0 h.pend
  have HD : Hid (∀ W, Below w.heap.size w W → aJ3 W B (.slice o1 n1 c1) n1 cs (.slice o2 n2 c2) n2 ws) := fun W hb => ⟨aA8 h.cells hb (fun g hg => aB0 h.cells hg), aA8 h.pend hb (fun g hg => aB0 h.pend hg)⟩
  have HZ : Hid (∀ x, (aL5 cs ws x).size ≤ 1048576) := bT7 (by rw [(bS9 h).1]; exact hzc) hzw
  have HZ1 : Hid (∀ i, i < n1 → (aA7 cs i).size ≤ 1048576) := hzc
  have HZ2 : Hid (∀ x ∈ ws, x.2.size ≤ 1048576) := hzw
  have HTB : Hid (∀ W, Below w.heap.size w W → aG9 W) := fun W hb => hT.below hb
  have HLE : Hid (∀ W, Below w.heap.size w W → aH5 W) := fun W hb => hLN.below hb hLN.lt
  have HHD : Hid (∀ W, Below w.heap.size w W → aN9 W) := fun W hb => hH.below hb
  clear h hzc hzw hT hLN hH
  have hb0 : Below w.heap.size w w := Below.refl _ _
  go_enter func77, ntmps77
  go_upto_region 1 with fail
  obtain ⟨qv1, hqv1⟩ : ∃ q, q = (w).heap.size := ⟨_, rfl⟩
  obtain ⟨w1, hW1⟩ : ∃ W, W = (w).alloc (.cells #[.slice o1 n1 c1, .slice o2 n2 c2] 27) := ⟨_, rfl⟩
  have hz1 : (w).heap.size = qv1 := hqv1.symm
  first | rw [← hW1, ← hqv1] | rw [← hW1]
  have hs1 : w1.heap.size = qv1 + 1 := by rw [hW1, ← hz1]; simp
  have bw : Below (w).heap.size (w) w1 := by rw [hW1]; exact (Below.refl _ _).alloc (Nat.le_refl _) _
  have hb1 := hbt hb0 bw
  have HBv1_1 : Hid ((w1).heap[qv1]? = some (.cells #[.slice o1 n1 c1, .slice o2 n2 c2] 27)) := by show _ = _; rw [hW1, ← hz1]; exact heap_alloc_new _ _
  clear hb0 bw hW1 hz1
  clear hs1 hqv1
  go_wp2_with fail
  have HI0 : Hid (aB2 (w1) w.heap.size (([] : List (KpD × Value × Value × Value)).flatMap kpR)) := aB2.nil _ _
  go_loopw [3, 4] (fun al i wr => ∃ (j : Nat) (kva : List (KpD × Value × Value × Value)) (oA : Option Addr) (pA : Nat), (5 ≤ j ∧ j ≤ 20) ∧ i = .int .i64 (j : Int) ∧ al = .slice oA kva.length pA ∧ Hid (Below w.heap.size w wr ∧ (wr).heap[qv1]? = some (.cells #[.slice o1 n1 c1, .slice o2 n2 c2] 27) ∧ (wr).ownsRow w.heap.size 52 9 (.slice oA kva.length pA) kva.length (kva.flatMap kpC) ∧ aB2 wr w.heap.size (kva.flatMap kpR)) ∧ Hid (aM4 kva) ∧ Hid (aN8 cs ws (j - 5) (kva.map (·.1)))) (fun _ i _ => 20 - (intOf i).toNat)
  case atStart => exact ⟨5, [], none, 0, ⟨Nat.le_refl _, by decide⟩, rfl, rfl, ⟨hb1, HBv1_1.out, ⟨rfl, .inl ⟨rfl, rfl⟩⟩, HI0.out⟩, fun x hx => by simp at hx, rfl⟩
  case round =>
    clear HI0
    obtain ⟨j, kva, oA, pA, hj, rfl, rfl, HW, HSK, HRT⟩ := hrel
    have hkl : kva.length ≤ 15 := by have h1 := HRT.out.len; rw [List.length_map] at h1; omega
    by_cases hlt : (j : Int) < 20
    · have hb2 := HW.out.1
      have HBv1_2 : Hid ((wr).heap[qv1]? = some (.cells #[.slice o1 n1 c1, .slice o2 n2 c2] 27)) := HW.out.2.1
      have HOA_2 : Hid ((wr).ownsRow w.heap.size 52 9 (.slice oA kva.length pA) kva.length (kva.flatMap kpC)) := HW.out.2.2.1
      have EI_2 : Hid (aB2 (wr) w.heap.size (kva.flatMap kpR)) := HW.out.2.2.2
      have HNI : Hid (∀ r ∈ kva.flatMap kpR, 36 ≠ r.T) := aO9 (by decide) (by decide)
      clear HW hb1 HBv1_1
      have cv1_0 : (wr).cell? ⟨qv1, 0, none⟩ = some (.slice o1 n1 c1) := (aA1 HBv1_2.out 0).trans rfl
      have cv1_1 : (wr).cell? ⟨qv1, 1, none⟩ = some (.slice o2 n2 c2) := (aA1 HBv1_2.out 1).trans rfl
      go_wp2_with fail
      refine (bA4 _ _ n1 cs n2 ws B _ (HD.out _ hb2) (by omega) (by omega) HZ1.out HZ2.out (j : Int)).mono ?_
      rintro e w3 ⟨rfl, bw⟩
      obtain ⟨ut, hut⟩ : ∃ t, t = aL5 cs ws (j : Int) := ⟨_, rfl⟩
      rw [← hut]
      have HUT : Hid (ut = aL5 cs ws (j : Int)) := hut
      clear hut
      have hb3 := hbt hb2 bw
      have HM3 : Hid ((wr).heap.size ≤ (w3).heap.size) := bw.size
      have HOA_3 := hown HOA_2 bw
      have HBv1_3 := hblk HBv1_2 bw
      have EI_3 : Hid (aB2 (w3) w.heap.size (kva.flatMap kpR)) := EI_2.out.below bw
      clear hb2 HOA_2 HBv1_2 EI_2 bw
      clear cv1_0 cv1_1
      go_wp2_with fail
      refine ((bA2 ut _ (by rw [HUT.out]; exact Nat.le_trans (HZ.out _) (by decide)) (HTB.out _ hb3) (HLE.out _ hb3) (HHD.out _ hb3)).mono (fun e w' h => cI9.data h)).mono ?_
      rintro e w4 ⟨uq, ub, uo, rfl, hrd, bw⟩
      have HBS : Hid (ub.size ≤ 2000) := by
        rcases hrd with h | h
        · exact h.2.1.2.2
        · rw [h.2.1]; exact Nat.zero_le _
      have HRD : Hid (RecD ut uq ub uo) := hrd
      clear hrd
      have hb4 := hbt hb3 bw
      have HOA_4 := hown HOA_3 bw
      have HBv1_4 := hblk HBv1_3 bw
      have EI_4 : Hid (aB2 (w4) w.heap.size (kva.flatMap kpR)) := EI_3.out.below bw
      clear hb3 HOA_3 HBv1_3 EI_3 bw
      go_wp2_with fail
      refine ((bS5 ub _ (by have := HBS.out; omega) (HTB.out _ hb4) (HLE.out _ hb4)).mono (fun e w' h => cX6.data h)).mono ?_
      rintro e w5 ⟨up, uxs, uys, ust, ufs, ub2, utt, uz, va, vb, vc, rfl, hod, hor, bw⟩
      have hoj : ObjO w5 (w4).heap.size va uxs.length uxs vb uys.length uys vc ufs.length ufs := aH2 hor
      obtain ⟨oN, pN, rfl⟩ := aA0 hoj.names
      obtain ⟨oV, pV, rfl⟩ := aA0 hoj.vals
      obtain ⟨oF, pF, rfl⟩ := aA0 hoj.flds
      clear hoj
      have HIN2 : Hid (aB2 w5 w.heap.size (kva.flatMap kpR ++ kpR ((⟨up, uxs, uys, ust, ufs, ub2, utt, (j : Int), uq⟩ : KpD), Value.slice oN uxs.length pN, Value.slice oV uys.length pV, Value.slice oF ufs.length pF))) := EI_4.out.more bw hor (Nat.le_refl _) hb4.size
      clear hor
      have hb5 := hbt hb4 bw
      have HOA_5 := hown HOA_4 bw
      have HBv1_5 := hblk HBv1_4 bw
      have EI_5 : Hid (aB2 (w5) w.heap.size (kva.flatMap kpR)) := EI_4.out.below bw
      clear hb4 HOA_4 HBv1_4 EI_4 bw
      clear EI_5
      have EI_5 : Hid (aB2 (w5) w.heap.size (kva.flatMap kpR ++ kpR ((⟨up, uxs, uys, ust, ufs, ub2, utt, (j : Int), uq⟩ : KpD), Value.slice oN uxs.length pN, Value.slice oV uys.length pV, Value.slice oF ufs.length pF))) := HIN2.out
      clear HIN2
      go_upto_region 7 with fail
      obtain ⟨qv2, hqv2⟩ : ∃ q, q = (w5).heap.size := ⟨_, rfl⟩
      obtain ⟨w6, hW6⟩ : ∃ W, W = (w5).alloc (.cells #[.string up, .slice oN uxs.length pN, .slice oV uys.length pV, .int .i64 ust, .slice oF ufs.length pF, .string ub2, .int .i64 utt] 36) := ⟨_, rfl⟩
      have hz6 : (w5).heap.size = qv2 := hqv2.symm
      first | rw [← hW6, ← hqv2] | rw [← hW6]
      have hs6 : w6.heap.size = qv2 + 1 := by rw [hW6, ← hz6]; simp
      have bw : Below (w5).heap.size (w5) w6 := by rw [hW6]; exact (Below.refl _ _).alloc (Nat.le_refl _) _
      have hb6 := hbt hb5 bw
      have HOA_6 := hown HOA_5 bw
      have HBv1_6 := hblk HBv1_5 bw
      have EI_6 : Hid (aB2 (w6) w.heap.size (kva.flatMap kpR ++ kpR ((⟨up, uxs, uys, ust, ufs, ub2, utt, (j : Int), uq⟩ : KpD), Value.slice oN uxs.length pN, Value.slice oV uys.length pV, Value.slice oF ufs.length pF))) := EI_5.out.below bw
      have HBv2_6 : Hid ((w6).heap[qv2]? = some (.cells #[.string up, .slice oN uxs.length pN, .slice oV uys.length pV, .int .i64 ust, .slice oF ufs.length pF, .string ub2, .int .i64 utt] 36)) := by show _ = _; rw [hW6, ← hz6]; exact heap_alloc_new _ _
      clear hb5 HOA_5 HBv1_5 EI_5 bw hW6 hz6
      clear hs6 hqv2
      cases uz with
      | false =>
        have HNZ : Hid (∀ p ys st fs b t, ¬ aG2 ub p ys st fs b t) := (by rcases hod with h | h; exact absurd h.1 (by decide); exact h.2)
        clear hod
        have HNX : Hid (∀ k, ¬ aO7 ut (j : Int) k) := HRD.out.noObj HNZ.out
        have HRT2 : Hid (aN8 cs ws (j + 1 - 5) (kva.map (·.1))) := by
          have e : j + 1 - 5 = (j - 5) + 1 := by omega
          have e2 : ((5 + (j - 5) : Nat) : Int) = (j : Int) := by omega
          show aN8 _ _ _ _
          rw [e]
          refine ⟨kva.map (·.1), HRT.out, .inr ⟨?_, rfl⟩⟩
          rw [e2, ← HUT.out]
          exact HNX.out
        have HIZ : Hid (aB2 (w6) w.heap.size (kva.flatMap kpR)) := aB2.sub EI_6.out (List.sublist_append_left _ _)
        go_wp2_with fail
        go_roundw
        case rel => exact ⟨j + 1, kva, oA, pA, by omega, by go_num, rfl, ⟨hb6, HBv1_6.out, HOA_6.out, HIZ.out⟩, HSK, HRT2⟩
        case measure => simp [intOf]; omega
      | true =>
        have HUZ : Hid (aG2 ub up uys ust ufs ub2 utt ∧ uxs = aC1 ufs) := (by rcases hod with h | h; exact h.2; exact absurd h.1 (by decide))
        clear hod
        by_cases hc1 : uq < 100000
        · have HMO : Hid ((uq < 100000)) := hc1
          have cv2_0 : (w6).cell? ⟨qv2, 0, none⟩ = some (.string up) := (aA1 HBv2_6.out 0).trans rfl
          have cv2_1 : (w6).cell? ⟨qv2, 1, none⟩ = some (.slice oN uxs.length pN) := (aA1 HBv2_6.out 1).trans rfl
          have cv2_2 : (w6).cell? ⟨qv2, 2, none⟩ = some (.slice oV uys.length pV) := (aA1 HBv2_6.out 2).trans rfl
          have cv2_3 : (w6).cell? ⟨qv2, 3, none⟩ = some (.int .i64 ust) := (aA1 HBv2_6.out 3).trans rfl
          have cv2_4 : (w6).cell? ⟨qv2, 4, none⟩ = some (.slice oF ufs.length pF) := (aA1 HBv2_6.out 4).trans rfl
          have cv2_5 : (w6).cell? ⟨qv2, 5, none⟩ = some (.string ub2) := (aA1 HBv2_6.out 5).trans rfl
          have cv2_6 : (w6).cell? ⟨qv2, 6, none⟩ = some (.int .i64 utt) := (aA1 HBv2_6.out 6).trans rfl
          have bA : Below w6.heap.size w6 (w6.alloc (.cells #[.string up, .slice oN uxs.length pN, .slice oV uys.length pV, .int .i64 ust, .slice oF ufs.length pF, .string ub2, .int .i64 utt, .int .i64 (j : Int), .int .i64 uq] 52)) := (Below.refl _ _).alloc (Nat.le_refl _) _
          have hownA : (w6.alloc (.cells #[.string up, .slice oN uxs.length pN, .slice oV uys.length pV, .int .i64 ust, .slice oF ufs.length pF, .string ub2, .int .i64 utt, .int .i64 (j : Int), .int .i64 uq] 52)).ownsRow w.heap.size 52 9 (.slice oA kva.length pA) kva.length (kva.flatMap kpC) := aA8 HOA_6.out bA (fun g hg => aB0 HOA_6.out hg)
          have hnews : ∀ (jj : Nat) (u : Value), ([.string up, .slice oN uxs.length pN, .slice oV uys.length pV, .int .i64 ust, .slice oF ufs.length pF, .string ub2, .int .i64 utt, .int .i64 (j : Int), .int .i64 uq] : List Value)[jj]? = some u → (w6.alloc (.cells #[.string up, .slice oN uxs.length pN, .slice oV uys.length pV, .int .i64 ust, .slice oF ufs.length pF, .string ub2, .int .i64 utt, .int .i64 (j : Int), .int .i64 uq] 52)).cell? ((⟨w6.heap.size, 0, none⟩ : Addr).add jj) = some u := World.news_of_block (heap_alloc_new _ _)
          have h63 : kva.length + 1 ≤ maxLen := by unfold maxLen; omega
          have h47 : (kva.length + 1) * 136 ≤ 140737488355328 := by omega
          have hbs : w.heap.size ≤ (w6.alloc (.cells #[.string up, .slice oN uxs.length pN, .slice oV uys.length pV, .int .i64 ust, .slice oF ufs.length pF, .string ub2, .int .i64 utt, .int .i64 (j : Int), .int .i64 uq] 52)).heap.size := Nat.le_trans hb6.size bA.size
          go_wp2_with (at_builtin; refine wpList_append_lies _ rfl _ _ 28 rfl w.heap.size 52 i0 (.agg #[.string ⟨#[]⟩, .slice none 0 0, .slice none 0 0, .int .i64 0, .slice none 0 0, .string ⟨#[]⟩, .int .i64 0, .int .i64 0, .int .i64 0]) 9 136 underlying28 hi hz0 hz1 hz2 rfl (by decide) _ _ _ rfl hownA ⟨w6.heap.size, 0, none⟩ 1 1 [.string up, .slice oN uxs.length pN, .slice oV uys.length pV, .int .i64 ust, .slice oF ufs.length pF, .string ub2, .int .i64 utt, .int .i64 (j : Int), .int .i64 uq] rfl rfl hnews (by intro u hu; simp only [List.mem_cons, List.not_mem_nil, or_false] at hu; rcases hu with rfl | rfl | rfl | rfl | rfl | rfl | rfl | rfl | rfl <;> rfl) (by decide) h63 h47 hbs _ rfl ?_)
          intro gS cS w7 hown2 hgrow _ _
          clear cv2_0 cv2_1 cv2_2 cv2_3 cv2_4 cv2_5 cv2_6
          have hb7 : Below w.heap.size w (w7) := (hb6.trans (bA.mono hb6.size)).grown hgrow hbs (fun g hg => aC8 hownA hg)
          have HBv1_7 : Hid ((w7).heap[qv1]? = some (.cells #[.slice o1 n1 c1, .slice o2 n2 c2] 27)) := (hgrow.block _ (Nat.lt_of_lt_of_le (Array.getElem?_eq_some_iff.1 HBv1_6.out).1 bA.size) (fun e => aE8 HOA_6.out HBv1_6.out (by decide) _ e.symm rfl)).trans (aA6 HBv1_6.out bA)
          have HBv2_7 : Hid ((w7).heap[qv2]? = some (.cells #[.string up, .slice oN uxs.length pN, .slice oV uys.length pV, .int .i64 ust, .slice oF ufs.length pF, .string ub2, .int .i64 utt] 36)) := (hgrow.block _ (Nat.lt_of_lt_of_le (Array.getElem?_eq_some_iff.1 HBv2_6.out).1 bA.size) (fun e => aE8 HOA_6.out HBv2_6.out (by decide) _ e.symm rfl)).trans (aA6 HBv2_6.out bA)
          have EI_7 : Hid (aB2 (w7) w.heap.size (kva.flatMap kpR ++ kpR ((⟨up, uxs, uys, ust, ufs, ub2, utt, (j : Int), uq⟩ : KpD), Value.slice oN uxs.length pN, Value.slice oV uys.length pV, Value.slice oF ufs.length pF))) := bJ9 (EI_6.out.below bA) hownA (dG7 (by decide) (by decide)) hgrow
          obtain ⟨kvb, hkvb⟩ : ∃ l, l = kva ++ [((⟨up, uxs, uys, ust, ufs, ub2, utt, (j : Int), uq⟩ : KpD), Value.slice oN uxs.length pN, Value.slice oV uys.length pV, Value.slice oF ufs.length pF)] := ⟨_, rfl⟩
          have HKB : Hid (kvb = kva ++ [((⟨up, uxs, uys, ust, ufs, ub2, utt, (j : Int), uq⟩ : KpD), Value.slice oN uxs.length pN, Value.slice oV uys.length pV, Value.slice oF ufs.length pF)]) := hkvb
          have HE : Hid (kva.length + 1 = kvb.length) := by show _ = _; rw [hkvb, List.length_append]; rfl
          have HOA2_7 : Hid (w7.ownsRow w.heap.size 52 9 (.slice (some ⟨gS, 0, none⟩) kvb.length cS) kvb.length (kvb.flatMap kpC)) := by
            show World.ownsRow _ _ _ _ _ _ _
            rw [← HE.out, hkvb, List.flatMap_append]
            exact hown2
          rw [HE.out]
          clear hkvb hown2 hgrow bA hownA hnews h63 h47 hbs hb6 HOA_6 HBv1_6 HBv2_6 EI_6
          have HTE : Hid (aO7 (aL5 cs ws (j : Int)) (j : Int) (⟨up, uxs, uys, ust, ufs, ub2, utt, (j : Int), uq⟩ : KpD)) := ⟨ub, by rw [← HUT.out]; exact HRD.out.obj HUZ.out.1, HUZ.out.1, HUZ.out.2, rfl, HMO.out⟩
          have HRT2 : Hid (aN8 cs ws (j + 1 - 5) (kvb.map (·.1))) := by
            have e : j + 1 - 5 = (j - 5) + 1 := by omega
            have e2 : ((5 + (j - 5) : Nat) : Int) = (j : Int) := by omega
            show aN8 _ _ _ _
            rw [e]
            refine ⟨kva.map (·.1), HRT.out, .inl ⟨(⟨up, uxs, uys, ust, ufs, ub2, utt, (j : Int), uq⟩ : KpD), by rw [e2]; exact HTE.out, ?_⟩⟩
            rw [HKB.out, List.map_append]
            rfl
          have HIZ : Hid (aB2 (w7) w.heap.size (kvb.flatMap kpR)) := by
            show aB2 _ _ _
            rw [HKB.out, List.flatMap_append, List.flatMap_cons, List.flatMap_nil, List.append_nil]
            exact EI_7.out
          have HSK2 : Hid (aM4 kvb) := fun x hx => by
            rw [HKB.out] at hx
            rcases List.mem_append.1 hx with hx | hx
            · exact HSK.out x hx
            · rw [List.mem_singleton.1 hx]
              exact ⟨oN, pN, oV, pV, oF, pF, rfl, rfl, rfl⟩
          go_wp2_with fail
          go_roundw
          case rel => exact ⟨j + 1, kvb, some ⟨gS, 0, none⟩, cS, by omega, by go_num, rfl, ⟨hb7, HBv1_7.out, HOA2_7.out, HIZ.out⟩, HSK2, HRT2⟩
          case measure => simp [intOf]; omega
        · have HMO : Hid (¬ (uq < 100000)) := hc1
          have HNX : Hid (∀ k, ¬ aO7 ut (j : Int) k) := HRD.out.lateObj HUZ.out.1 HMO.out
          have HRT2 : Hid (aN8 cs ws (j + 1 - 5) (kva.map (·.1))) := by
            have e : j + 1 - 5 = (j - 5) + 1 := by omega
            have e2 : ((5 + (j - 5) : Nat) : Int) = (j : Int) := by omega
            show aN8 _ _ _ _
            rw [e]
            refine ⟨kva.map (·.1), HRT.out, .inr ⟨?_, rfl⟩⟩
            rw [e2, ← HUT.out]
            exact HNX.out
          have HIZ : Hid (aB2 (w6) w.heap.size (kva.flatMap kpR)) := aB2.sub EI_6.out (List.sublist_append_left _ _)
          go_wp2_with fail
          go_roundw
          case rel => exact ⟨j + 1, kva, oA, pA, by omega, by go_num, rfl, ⟨hb6, HBv1_6.out, HOA_6.out, HIZ.out⟩, HSK, HRT2⟩
          case measure => simp [intOf]; omega
    · have hb2 := HW.out.1
      have HBv1_2 : Hid ((wr).heap[qv1]? = some (.cells #[.slice o1 n1 c1, .slice o2 n2 c2] 27)) := HW.out.2.1
      have HOA_2 : Hid ((wr).ownsRow w.heap.size 52 9 (.slice oA kva.length pA) kva.length (kva.flatMap kpC)) := HW.out.2.2.1
      have EI_2 : Hid (aB2 (wr) w.heap.size (kva.flatMap kpR)) := HW.out.2.2.2
      have HNI : Hid (∀ r ∈ kva.flatMap kpR, 36 ≠ r.T) := aO9 (by decide) (by decide)
      clear HW hb1 HBv1_1
      go_wp2_with fail
      refine (cQ1 oA kva.length pA kva w.heap.size _ HOA_2.out rfl hkl HSK.out).mono ?_
      rintro e w3 ⟨rfl, hown2, hgrow⟩
      have hb3 : Below w.heap.size w (w3) := hb2.grown hgrow hb2.size (fun g hg => aC8 HOA_2.out hg)
      have HM3 : Hid ((wr).heap.size ≤ w3.heap.size) := hgrow.size
      have HBv1_3 : Hid ((w3).heap[qv1]? = some (.cells #[.slice o1 n1 c1, .slice o2 n2 c2] 27)) := (hgrow.block _ (Array.getElem?_eq_some_iff.1 HBv1_2.out).1 (fun e => aE8 HOA_2.out HBv1_2.out (by decide) _ e.symm rfl)).trans HBv1_2.out
      have EI_3 : Hid (aB2 (w3) w.heap.size (kva.flatMap kpR)) := bJ9 EI_2.out HOA_2.out (aO9 (by decide) (by decide)) hgrow
      have HOA_3 : Hid ((w3).ownsRow w.heap.size 52 9 (.slice oA kva.length pA) kva.length ((aG3 (fun x : KpD × Value × Value × Value => x.1.q) kva).flatMap kpC)) := hown2
      clear hown2 hgrow hb2 HOA_2 HBv1_2 EI_2
      go_wp2_with fail
      go_ret
      have HRT3 : Hid (aN8 cs ws 15 (kva.map (·.1))) := by
        have e : j - 5 = 15 := by omega
        have h := HRT.out
        rw [e] at h
        exact h
      obtain ⟨kvs, hkvs⟩ : ∃ l, l = aG3 (fun x : KpD × Value × Value × Value => x.1.q) kva := ⟨_, rfl⟩
      have HP : Hid (kvs.Perm kva) := by show List.Perm _ _; rw [hkvs]; exact aT6 _ kva
      have hlen : kvs.length = kva.length := HP.out.length_eq
      exact ⟨kvs, kva.map (·.1), .slice oA kva.length pA, rfl, by rw [hlen, hkvs]; exact HOA_3.out, EI_3.out.perm (HP.out.symm.flatMap_right kpR), HRT3.out, by rw [hkvs]; exact bZ0 (fun _ => rfl) kva, fun x hx => HSK.out x (HP.out.mem_iff.1 hx), hb3⟩
theorem bW0 (st : Int) (u : Value) (d : Tx) (k base : Nat) (gs : Fs) (w : World) (hu : aB4 w base u k gs) (hk : k ≤ 1999999) (hc2 : aU0 gs) (hd : d.size ≤ 281474976710656) :
  Calls prog 195 #[.agg #[.int .i64 st, u, .string d]] w fun e w' => ∃ v, e = .returned (.agg #[.int .i64 st, v, .string d]) ∧ w'.ownsRow w.heap.size 232 2 v gs.length (aE5 gs) ∧ Below w.heap.size w w' := by
 obtain ⟨ob, cb, rfl, _⟩ := hu.slice;have b5 : Hid (∀ W, Bw w W → aB4 W base (.slice ob k cb) k gs) := fun W h => hu.below h
 have b1 : Hid (gs.length = k) := hu.len;have b6 := hid hc2;have b7 := hid hd;clear hu hc2 hd;have K0 := jnil w;go_enter func195, ntmps195;go_upto_region 1 with fail
 obtain ⟨q1, a6⟩ := exq (w.heap.size);obtain ⟨w1, a3⟩ := exq (w.alloc (.cells #[.int .i64 st, .slice ob k cb, .string d] 34));have a7 := a6.symm;rw [← a3]; try rw [← a6];have b2 := hsa a3 a7;have bw := bal a3;have K1 := ja K0 a3 a7;clear bw a3 a7 K0;obtain ⟨q2, a8⟩ := exq (q1 + 1);obtain ⟨w2, a4⟩ := exq (w1.alloc (.cells #[.int .i64 0, .slice none 0 0, .string ⟨#[]⟩] 34));have a9 : w1.heap.size = q2 := by rw [a8]; exact b2
 rw [← a4]; try rw [← a8];have b8 := hsa a4 a9;have bw := bal a4;have K2 := ja K1 a4 a9;clear bw a4 a9 K1;clear b8 a8 b2 a6;go_upto_region 1 with fail
 refine wp_region_held_drew (S := fun W => W.heap[q1]? = some (.cells #[.int .i64 st, .slice ob k cb, .string d] 34)) (by kernel_rfl) (jb K2 1 rfl) (fun _ => ?_)
 obtain ⟨w3, hX⟩ := exq w2.drew;have bw := bdr hX;rw [← hX];have K3 := jw K2 bw;have a2 := (jb K3 1 rfl);clear bw hX K2;refine tkP 0 (.pointer (some ⟨q1, 0, none⟩)) 3 rfl rfl a2 ?_;go_frame;refine tkL 1 (.int .i64 st) 4 rfl rfl (Or.inl ⟨by rfl, by intro W hW; have a0 := hW; have y0 := c3c a0; go_simp⟩) a2 ?_;go_frame;refine tkP 2 (.pointer (some ⟨q1, 1, none⟩)) 5 rfl rfl a2 ?_;go_frame;refine tkL 3 (.slice ob k cb) 6 rfl rfl (Or.inl ⟨by rfl, by intro W hW; have a0 := hW; have y1 := c3c a0; go_simp⟩) a2 ?_;go_frame;refine tkP 5 (.pointer (some ⟨q1, 2, none⟩)) 8 rfl rfl a2 ?_;go_frame;refine tkL 6 (.string d) 9 rfl rfl (Or.inl ⟨by rfl, by intro W hW; have a0 := hW; have y2 := c3c a0; go_simp⟩) a2 ?_;go_frame;refine rd1 4 rfl (fun K hK => ?_)
 go_simp;refine (cV7 _ k base gs _ (b5.out _ K3.hb) (by omega) b6.out).mono ?_;rintro e w4 ⟨vv, rfl, a1, bw⟩;obtain ⟨oG, pG, rfl⟩ := aA0 a1;rw [b1.out] at a1 ⊢;have K4 := jj K3 (jcR (jN bw) a1 jhn);clear a1;clear bw K3;have b3 := (jb K4 2 rfl);refine hK.out _ _ b3 (fun _ => ?_)
 clear hK K a2;refine rd1 7 rfl (fun K hK => ?_)
 go_simp;refine (aF3 d _ b7.out).mono ?_;rintro e w5 ⟨rfl, bw⟩;have K5 := jw K4 bw;clear bw K4;have b0 := (jb K5 2 rfl);refine hK.out _ _ b0 (fun _ => ?_)
 clear hK K b3;refine tkP 8 (.agg #[.int .i64 st, .slice oG k pG, .string d]) 11 rfl rfl b0 ?_;go_frame;refine rd1 9 rfl (fun K hK => ?_)
 have b9 := c3f (jb K5 1 rfl);obtain ⟨w6, hY⟩ := exq ((((w5.setCell ⟨q2, 0, none⟩ (.int .i64 st)).setCell ⟨q2, 1, none⟩ (.slice oG k pG)).setCell ⟨q2, 2, none⟩ (.string d)));have HY := hsy hY;have K6 := jss K5 1 [(0, _), (1, _), (2, _)] hY;clear hY K5;go_simp;rw [HY.out];have b4 := (jb K6 2 rfl);refine hK.out _ _ b4 (fun _ => ?_)
 clear hK K HY b0 b9;clear b4;refine wdn ?_;go_wp2_with fail
 have a5 := c3c (jb K6 1 rfl);refine bodyPost_ret (v := .agg #[.int .i64 st, .slice oG k pG, .string d]) (by simp [results, results195, go_sem, a5]) rfl ?_;refine ⟨_, rfl, ?_, K6.hb⟩;rw [b1.out];exact (jo K6 0 rfl)
theorem bW1 (k : KpD) (v1 v2 v3 : Value) (w : World) (h : aQ9 w k v1 v2 v3) (hs : aH8 k) :
  Calls prog 93 #[.agg #[.string k.p, v1, v2, .int .i64 k.st, v3, .string k.b, .int .i64 k.t]] w fun e w' => ∃ u1 u2 u3, e = .returned (.agg #[.string k.p, u1, u2, .int .i64 k.st, u3, .string k.b, .int .i64 k.t]) ∧ ObjO w' w.heap.size u1 k.xs.length k.xs u2 k.ys.length k.ys u3 k.fs.length k.fs ∧ Below w.heap.size w w' := by
 obtain ⟨B, h⟩ := h;have ho : ObjO w B v1 k.xs.length k.xs v2 k.ys.length k.ys v3 k.fs.length k.fs := aH2 h;obtain ⟨o1, c1, rfl⟩ := aA0 ho.names;obtain ⟨o2, c2, rfl⟩ := aA0 ho.vals;obtain ⟨o3, c3, rfl⟩ := aA0 ho.flds;have c9 : Hid (∀ W, Bw w W → aC0 W o1 k.xs.length k.xs) := fun W hb => (aC2 ho.names).below hb
 have d0 : Hid (∀ W, Bw w W → aC0 W o2 k.ys.length k.ys) := fun W hb => (aC2 ho.vals).below hb
 have d1 : Hid (∀ W, Bw w W → aB4 W B (.slice o3 k.fs.length c3) k.fs.length k.fs) := fun W hb => (aB4.of_owns ho.flds).below hb
 have HS := hid hs;clear h ho hs;have K0 := jnil w;go_enter func93, ntmps93;go_upto_region 1 with fail
 obtain ⟨q1, a8⟩ := exq (w.heap.size);obtain ⟨w1, a5⟩ := exq (w.alloc (.cells #[.string k.p, .slice o1 k.xs.length c1, .slice o2 k.ys.length c2, .int .i64 k.st, .slice o3 k.fs.length c3, .string k.b, .int .i64 k.t] 36));have a9 := a8.symm;rw [← a5]; try rw [← a8];have c4 := hsa a5 a9;have bw := bal a5;have K1 := ja K0 a5 a9;clear bw a5 a9 K0;obtain ⟨q2, b0⟩ := exq (q1 + 1);obtain ⟨w2, a6⟩ := exq (w1.alloc (.cells #[.string ⟨#[]⟩, .slice none 0 0, .slice none 0 0, .int .i64 0, .slice none 0 0, .string ⟨#[]⟩, .int .i64 0] 36));have b1 : w1.heap.size = q2 := by rw [b0]; exact c4
 rw [← a6]; try rw [← b0];have d2 := hsa a6 b1;have bw := bal a6;have K2 := ja K1 a6 b1;clear bw a6 b1 K1;clear d2 b0 c4 a8;go_upto_region 1 with fail
 refine wp_region_held_drew (S := fun W => W.heap[q1]? = some (.cells #[.string k.p, .slice o1 k.xs.length c1, .slice o2 k.ys.length c2, .int .i64 k.st, .slice o3 k.fs.length c3, .string k.b, .int .i64 k.t] 36)) (by kernel_rfl) (jb K2 1 rfl) (fun _ => ?_)
 obtain ⟨w3, hX⟩ := exq w2.drew;have bw := bdr hX;rw [← hX];have K3 := jw K2 bw;have a3 := (jb K3 1 rfl);clear bw hX K2;refine tkP 0 (.pointer (some ⟨q1, 0, none⟩)) 3 rfl rfl a3 ?_;go_frame;refine tkL 1 (.string k.p) 4 rfl rfl (Or.inl ⟨by rfl, by intro W hW; have a0 := hW; have y0 := c7c a0; go_simp⟩) a3 ?_;go_frame;refine tkP 3 (.pointer (some ⟨q1, 1, none⟩)) 6 rfl rfl a3 ?_;go_frame;refine tkL 4 (.slice o1 k.xs.length c1) 7 rfl rfl (Or.inl ⟨by rfl, by intro W hW; have a0 := hW; have y1 := c7c a0; go_simp⟩) a3 ?_;go_frame;refine tkP 6 (.pointer (some ⟨q1, 2, none⟩)) 9 rfl rfl a3 ?_;go_frame;refine tkL 7 (.slice o2 k.ys.length c2) 10 rfl rfl (Or.inl ⟨by rfl, by intro W hW; have a0 := hW; have y2 := c7c a0; go_simp⟩) a3 ?_;go_frame;refine tkP 9 (.pointer (some ⟨q1, 3, none⟩)) 12 rfl rfl a3 ?_;go_frame;refine tkL 10 (.agg #[.int .i64 k.st, .slice o3 k.fs.length c3, .string k.b]) 13 rfl rfl (Or.inl ⟨by rfl, by intro W hW; have a0 := hW; have y3 := c7c a0; go_simp⟩) a3 ?_;go_frame;refine tkP 12 (.pointer (some ⟨q1, 6, none⟩)) 15 rfl rfl a3 ?_;go_frame;refine tkL 13 (.int .i64 k.t) 16 rfl rfl (Or.inl ⟨by rfl, by intro W hW; have a0 := hW; have y6 := c7c a0; go_simp⟩) a3 ?_;go_frame;refine rd1 2 rfl (fun K hK => ?_)
 go_simp;refine (aF3 k.p _ (by have := HS.out.1.1; omega)).mono ?_;rintro e w4 ⟨rfl, bw⟩;have K4 := jw K3 bw;clear bw K3;have c5 := (jb K4 1 rfl);refine hK.out _ _ c5 (fun _ => ?_)
 clear hK K a3;refine rd1 5 rfl (fun K hK => ?_)
 go_simp;refine (aL6 _ _ _ k.xs _ (c9.out _ K4.hb) (by have := HS.out.2.1.1; omega) HS.out.2.1.2).mono ?_;rintro e w5 ⟨va, rfl, a1, bw⟩;obtain ⟨b2, b3, rfl⟩ := aA0 a1;have K5 := jj K4 (jcR (jN bw) a1 jhn);have b4 := hhi a1;clear a1;clear bw K4;have c6 := (jb K5 2 rfl);refine hK.out _ _ c6 (fun _ => ?_)
 clear hK K c5;refine rd1 8 rfl (fun K hK => ?_)
 go_simp;refine (aL6 _ _ _ k.ys _ (d0.out _ K5.hb) (by have := HS.out.2.2.1.1; omega) HS.out.2.2.1.2).mono ?_;rintro e w6 ⟨va, rfl, a2, bw⟩;obtain ⟨b5, b6, rfl⟩ := aA0 a2;have K6 := jj K5 (jcR (jN bw) a2 jhn);have d3 := hsz bw;have b7 := hlo a2;clear a2;clear bw K5;have c7 := (jb K6 3 rfl);refine hK.out _ _ c7 (fun _ => ?_)
 clear hK K c6;refine rd1 11 rfl (fun K hK => ?_)
 go_simp;refine (bW0 k.st _ k.b _ B k.fs _ (d1.out _ K6.hb) (by have := HS.out.2.2.2.1; omega) (bY6 HS.out) (by have := HS.out.1.2; omega)).mono ?_;rintro e w7 ⟨va, rfl, a4, bw⟩;obtain ⟨b8, b9, rfl⟩ := aA0 a4;have K7 := jj K6 (jcR (jN bw) a4 jhn);clear a4;clear bw K6;have c0 := (jb K7 4 rfl);refine hK.out _ _ c0 (fun _ => ?_)
 clear hK K c7;refine tkP 14 (.agg #[.string k.p, .slice b2 k.xs.length b3, .slice b5 k.ys.length b6, .int .i64 k.st, .slice b8 k.fs.length b9, .string k.b, .int .i64 k.t]) 17 rfl rfl c0 ?_;go_frame;refine rd1 15 rfl (fun K hK => ?_)
 have d4 := c7f (jb K7 3 rfl);obtain ⟨w8, hY⟩ := exq ((((((((w7.setCell ⟨q2, 0, none⟩ (.string k.p)).setCell ⟨q2, 1, none⟩ (.slice b2 k.xs.length b3)).setCell ⟨q2, 2, none⟩ (.slice b5 k.ys.length b6)).setCell ⟨q2, 3, none⟩ (.int .i64 k.st)).setCell ⟨q2, 4, none⟩ (.slice b8 k.fs.length b9)).setCell ⟨q2, 5, none⟩ (.string k.b)).setCell ⟨q2, 6, none⟩ (.int .i64 k.t)));have HY := hsy hY;have K8 := jss K7 3 [(0, _), (1, _), (2, _), (3, _), (4, _), (5, _), (6, _)] hY;clear hY K7;go_simp;rw [HY.out];have c8 := (jb K8 4 rfl);refine hK.out _ _ c8 (fun _ => ?_)
 clear hK K HY c0 d4;clear c8;refine wdn ?_;go_wp2_with fail
 have a7 := c7c (jb K8 3 rfl);refine bodyPost_ret (v := .agg #[.string k.p, .slice b2 k.xs.length b3, .slice b5 k.ys.length b6, .int .i64 k.st, .slice b8 k.fs.length b9, .string k.b, .int .i64 k.t]) (by simp [results, results93, go_sem, a7]) rfl ?_;exact ⟨_, _, _, rfl, ⟨(jo K8 2 rfl), (jo K8 1 rfl), (jo K8 0 rfl), fun g hg e => by have h1 := b7.out g e; have h2 := b4.out g hg; have := d3.out; omega⟩, K8.hb⟩
theorem bM0 (x : Int) (w : World) :
  Calls prog 65 #[.int .i64 x] w fun e w' => aA5 (5 ≤ x ∧ x ≤ 19) w e w' := by
 have K0 := jnil w;go_enter func65, ntmps65;by_cases hc1 : 5 ≤ x
 rotate_left
 ·have H5 : Hid (¬ 5 ≤ x) := hc1;go_wp2_with fail
  go_ret;exact aA5.no (fun h => by have h5 := H5.out; omega) K0.hb
 have H5 : Hid (5 ≤ x) := hc1;go_wp2_with fail
 refine (bJ6 x _).mono ?_;rintro e w1 ⟨uc, rfl, a0, bw⟩;have K1 := jw K0 bw;clear bw K0;go_wp2_with fail
 go_ret;cases uc with
 | true => exact aA5.yes ⟨H5.out, (a0.1 rfl).2⟩ K1.hb
 | false => exact aA5.no (fun h => nomatch a0.2 ⟨by omega, h.2⟩) K1.hb
end Go.Proofs.YtiobfnpmidjijaaGreatDoor
