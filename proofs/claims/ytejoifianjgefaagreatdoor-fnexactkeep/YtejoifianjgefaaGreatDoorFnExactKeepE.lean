/- What the proof of FnExactKeep leans on: contracts of the program's and the specification's functions, and plain facts (part 5 of 12). -/
import Derived.Test.YtejoifianjgefaaGreatDoorFnExactKeepD
set_option maxHeartbeats 16000000
set_option maxRecDepth 100000
namespace Go.Proofs.YtejoifianjgefaaGreatDoor
open Go.Proofs.Tryz
open Go.RowKit
open Go.Lib hiding intOf
def cW1 (ws : List (Int × ByteArray)) : Prop := ∀ x ∈ ws, 0 ≤ x.1 ∧ x.1 ≤ 19
theorem cW2 : prog.eqGuardType prog.depth 206 = false := by kernel_rfl
theorem cW3 (xs ys : Ts) (hx : xs.length = 20) (hy : ys.length = 20) (w : World) :
  (Op.equalIn 10000 206 (.agg (aD4 xs)) (.agg (aD4 ys))).run prog w = .ok ((List.range' 0 20 1).all (fun i => (aA7 xs i).toList == (aA7 ys i).toList)) w := by
 rw [show (10000 : Nat) = 9999 + 1 from rfl, Op.equalIn];simp only [Sem.run_bind, run_underlying underlying206, Result.andThen_ok, sizeOf9, Std.Legacy.Range.forIn_eq_forIn_range', Std.Legacy.Range.size, Nat.sub_zero, Nat.add_sub_cancel, Nat.div_one]
 have hl : ∀ i ∈ List.range' 0 20 1, i < 20 := fun i hi => by simpa using (List.mem_range'_1.1 hi).2
 generalize List.range' 0 20 1 = l at hl ⊢;induction l with
 | nil => simp
 | cons i l ih =>
  have hi : i < 20 := hl i (by simp)
  have px : ∀ zs : Ts, zs.length = 20 → (part 9 (aD4 zs) (i * 1)).run prog w = .ok (.string (aA7 zs i)) w := fun zs hz => by
   simp [part, isAgg9, bH8 zs i (by omega)]
  have pe : (Op.equalIn 9999 9 (.string (aA7 xs i)) (.string (aA7 ys i))).run prog w = .ok ((aA7 xs i).toList == (aA7 ys i).toList) w := run_equalIn_string w 9998 9 _ _ underlying9
  simp only [List.forIn_cons, Sem.run_bind, px xs hx, px ys hy, pe, Result.andThen_ok, List.all_cons]
  cases hb : ((aA7 xs i).toList == (aA7 ys i).toList)
  ·simp
  ·simp only [Bool.not_true, Bool.false_eq_true, if_false, Sem.run_pure, Result.andThen_ok, Bool.true_and]
   exact ih fun j hj => hl j (by simp [hj])
theorem neqA (xs ys : Ts) (hx : xs.length = 20) (hy : ys.length = 20) (w : World) :
  (binOp .neq 206 (.agg (aD4 xs)) (.agg (aD4 ys))).run prog w = .ok (.bool (!((List.range' 0 20 1).all (fun i => (aA7 xs i).toList == (aA7 ys i).toList)))) w := by
 rw [run_neq_struct, cW3 xs ys hx hy];rfl
theorem cW4 (x : Int) (h : 0 ≤ x ∧ x ≤ 19) (w : World) : (binOp .neq 206 (.agg (aD4 (aM2 aN7 x ⟨#[120]⟩))) (.agg #[.string ⟨#[]⟩, .string ⟨#[]⟩, .string ⟨#[]⟩, .string ⟨#[]⟩, .string ⟨#[]⟩, .string ⟨#[]⟩, .string ⟨#[]⟩, .string ⟨#[]⟩, .string ⟨#[]⟩, .string ⟨#[]⟩, .string ⟨#[]⟩, .string ⟨#[]⟩, .string ⟨#[]⟩, .string ⟨#[]⟩, .string ⟨#[]⟩, .string ⟨#[]⟩, .string ⟨#[]⟩, .string ⟨#[]⟩, .string ⟨#[]⟩, .string ⟨#[]⟩])).run prog w = .ok (.bool true) w := by
 have h1 := neqA (aM2 aN7 x ⟨#[120]⟩) aN7 (bI0 _ _ _) rfl w;rw [bH9] at h1;rw [h1]
 have h2 : aA7 (aM2 aN7 x ⟨#[120]⟩) x.toNat = ⟨#[120]⟩ := by
  unfold aM2
  rw [if_pos ⟨h.1, by omega⟩, bB6, if_pos ⟨rfl, by rw [aV8]; omega⟩]
 have h3 : aA7 aN7 x.toNat = ⟨#[]⟩ := by
  unfold aA7 aN7
  rw [List.getD_eq_getElem?_getD, List.getElem?_replicate, if_pos (by omega)]
  rfl
 have h4 : ((List.range' 0 20 1).all (fun i => (aA7 (aM2 aN7 x ⟨#[120]⟩) i).toList == (aA7 aN7 i).toList)) = false := by
  rw [List.all_eq_false]
  refine ⟨x.toNat, List.mem_range'_1.2 ⟨by omega, by omega⟩, ?_⟩
  rw [h2, h3, ← beq_toListBytes]
  decide
 rw [h4];rfl
theorem cS9 (x : Int) (h : ¬ (0 ≤ x ∧ x ≤ 19)) (w : World) : (binOp .neq 206 (.agg (aD4 (aM2 aN7 x ⟨#[120]⟩))) (.agg #[.string ⟨#[]⟩, .string ⟨#[]⟩, .string ⟨#[]⟩, .string ⟨#[]⟩, .string ⟨#[]⟩, .string ⟨#[]⟩, .string ⟨#[]⟩, .string ⟨#[]⟩, .string ⟨#[]⟩, .string ⟨#[]⟩, .string ⟨#[]⟩, .string ⟨#[]⟩, .string ⟨#[]⟩, .string ⟨#[]⟩, .string ⟨#[]⟩, .string ⟨#[]⟩, .string ⟨#[]⟩, .string ⟨#[]⟩, .string ⟨#[]⟩, .string ⟨#[]⟩])).run prog w = .ok (.bool false) w := by
 have e : aM2 aN7 x ⟨#[120]⟩ = aN7 := by unfold aM2; rw [if_neg (fun h2 => h ⟨h2.1, by omega⟩)]
 have h1 := neqA aN7 aN7 rfl rfl w;rw [e];rw [bH9] at h1 ⊢;rw [h1]
 have h4 : ((List.range' 0 20 1).all (fun i => (aA7 aN7 i).toList == (aA7 aN7 i).toList)) = true := by
  rw [List.all_eq_true]
  exact fun i _ => by simp
 rw [h4];rfl
theorem bC0 (x : Int) (w : World) :
  Calls prog 187 #[.int .i64 x] w fun e w' => aA3 (0 ≤ x ∧ x ≤ 19) w e w' := by
 have a2 := cW2;by_cases h : 0 ≤ x ∧ x ≤ 19
 rotate_left
 ·have a1 := cS9 x h;have HH := hid h;clear h;go_enter func187, ntmps187;go_wp2_with fail
  refine (bQ1 aN7 rfl x ⟨#[120]⟩ _).mono ?_;rintro e w1 ⟨rfl, bw⟩;have a0 : Hid (Bw w w1) := bw;clear bw;go_wp2_with fail
  go_ret;exact aA3.no HH.out a0.out
 have a1 := cW4 x h;have HH := hid h;clear h;go_enter func187, ntmps187;go_wp2_with fail
 refine (bQ1 aN7 rfl x ⟨#[120]⟩ _).mono ?_;rintro e w1 ⟨rfl, bw⟩;have a0 : Hid (Bw w w1) := bw;clear bw;go_wp2_with fail
 go_ret;exact ⟨true, rfl, ⟨fun _ => HH.out, fun _ => rfl⟩, a0.out⟩
theorem bK5 (o : Oa) (n c : Nat) (ws : List (Int × ByteArray)) (w : World) (h : aP7 w o n ws) (hn : n ≤ 2000000) :
  Calls prog 136 #[.slice o n c] w fun e w' => aA3 (cW1 ws) w e w' := by
 have HW := hid h;clear h;go_enter func136, ntmps136;go_wp2_with fail
 go_loopw [7] (fun i wr => ∃ j : Nat, j ≤ n ∧ i = .int .i64 (j : Int) ∧ Hid (Bw w wr) ∧ Hid (∀ x ∈ ws.take j, 0 ≤ x.1 ∧ x.1 ≤ 19)) (fun i _ => n - (intOf i).toNat)
 case atStart => exact ⟨0, Nat.zero_le _, rfl, Below.refl _ _, fun x hx => by simp at hx⟩
 case round =>
  obtain ⟨j, hj, rfl, HB, HN⟩ := hrel;by_cases hlt : (j : Int) < (n : Int)
  rotate_left
  ·have a2 : Hid (cW1 ws) := fun x hx => HN.out x (by rw [List.take_of_length_le (by rw [HW.out.1]; omega)]; exact hx)
   clear HN;go_wp2_with fail
   go_ret;exact ⟨true, rfl, ⟨fun _ => a2.out, fun _ => rfl⟩, HB.out⟩
  have a0 : j < ws.length := by rw [HW.out.1]; omega
  obtain ⟨g, rfl, hg, r0, r1⟩ := (HW.out.below HB.out).2 j (by omega);obtain ⟨y, hy⟩ := exq (aC6 ws j);have HM : Hid (y ∈ ws) := by show _ ∈ _; rw [hy]; exact aI7 ws j a0
  have a3 : Hid (ws.take (j + 1) = ws.take j ++ [y]) := by show _ = _; rw [hy]; exact aQ5 ws j a0
  rw [← hy] at r0 r1;obtain ⟨y0, y1⟩ := y;simp only at r0 r1
  clear hy a0;go_wp2_with fail
  refine (bC0 y0 _).mono ?_;rintro e w4 ⟨b, rfl, hb, bw⟩;have a1 : Hid (Bw w w4) := (HB.out.alloc HB.out.size _).trans (bw.mono (Nat.le_trans HB.out.size (by simp)));clear bw r0 r1;cases b with
  | true =>
   have HY : Hid (0 ≤ y0 ∧ y0 ≤ 19) := hb.1 rfl;clear hb;go_wp2_with fail
   go_roundw
   case rel =>
    refine ⟨j + 1, by omega, by go_num, a1, fun x hx => ?_⟩
    rw [a3.out] at hx;rcases List.mem_append.1 hx with hx | hx
    ·exact HN.out x hx
    rw [List.mem_singleton.1 hx]; exact HY.out
   case measure => simp [intOf]; omega
  | false =>
   have HY : Hid (¬ (0 ≤ y0 ∧ y0 ≤ 19)) := fun h => nomatch hb.2 h
   clear hb;go_wp2_with fail
   go_ret;exact aA3.no (fun h => HY.out (h _ HM.out)) a1.out
theorem aD9 (o : Oa) (n c : Nat) (xs : Ts) (w : World) (h : aB8 w o n xs) (hn : n ≤ 2000000) (hz : ∀ i, i < n → (aA7 xs i).size ≤ 1048576) :
  Calls prog 147 #[.slice o n c] w fun e w' => ∃ v, e = .returned v ∧ w'.ownsRow w.heap.size 9 1 v n (xs.map Value.string) ∧ Below w.heap.size w w' := by
 obtain ⟨i0, hi, a7, a8, a9⟩ := info_parts bS3;obtain ⟨M, hM⟩ : ∃ M, M = madeCells (Value.string ⟨#[]⟩).cells (((n : Nat) : Int).toNat * i0.size) := ⟨_, rfl⟩
 have b5 : ∀ W : World, (Instr.makeSlice 22 (.int .i64 (n : Int)) (.int .i64 (n : Int))).run prog W = .ok (.slice (some ⟨W.heap.size, 0, none⟩) n n) (W.alloc (.cells M 9)) := fun W => by
  have h := run_make (P := prog) W 22 9 i0 (Value.string ⟨#[]⟩) underlying22 hi a7 .i64 .i64 (n : Int) (n : Int) (by omega) (by omega) (by rw [a9]; omega) (by omega)
  rw [← hM] at h
  simpa using h
 have b0 : M.size = n := by rw [hM, size_madeCells, a8]; simp
 have HA := hid h;have HZ := hid hz;have a3 : Hid (xs.length = n) := h.1;clear hM h hz;have HP : Hid (bG5 (w.alloc (.cells M 9)) w.heap.size n 0 xs) := ⟨M, heap_alloc_new w _, b0, fun i h => absurd h (by omega)⟩
 go_enter func147, ntmps147;go_wp2_with fail
 go_loopw [11] (fun i wr => ∃ k : Nat, k ≤ n ∧ i = .int .i64 (k : Int) ∧ Hid (bG5 wr w.heap.size n k xs) ∧ Hid (Bw w wr)) (fun i _ => n - (intOf i).toNat)
 case atStart => exact ⟨0, Nat.zero_le _, rfl, HP, (Below.refl _ _).alloc (Nat.le_refl _) _⟩
 case round =>
  obtain ⟨k, hk, rfl, a6, a0⟩ := hrel;by_cases hlt : k < n
  rotate_left
  ·obtain rfl : k = n := by omega
   go_wp2_with fail
   go_ret;exact ⟨_, rfl, (a6.out.row a3.out (Nat.le_refl _) (by unfold maxLen; omega)).owns, a0.out⟩
  have b1 : (k : Int) < (n : Int) := by omega
  obtain ⟨g, rfl, hg, r0⟩ := (HA.out.below a0.out).2 k hlt;obtain ⟨z, a1⟩ := exq (aA7 xs k);have b2 : Hid (z.size ≤ 281474976710656) := by rw [Hid, a1]; have := HZ.out k hlt; omega
  have b3 : Hid (aA7 xs k = z) := a1.symm;rw [← a1] at r0;clear a1;go_wp2_with fail
  refine (aI4 z _ b2.out).mono ?_;rintro e w1 ⟨rfl, bw⟩
  have a4 : bG5 w1 w.heap.size n k xs := by
   obtain ⟨a2, h1, h2, h3⟩ := a6.out
   exact ⟨a2, aA6 h1 bw, h2, h3⟩
  have b4 : Hid (Bw w w1) := a0.out.trans (bw.mono a0.out.size);have hput := a4.put hlt;rw [b3.out] at hput;have a5 := hid hput
  obtain ⟨u0, b6, f0⟩ : ∃ u, w1.cell? ⟨w.heap.size, k, none⟩ = some u ∧ w1.frozen? ⟨w.heap.size, k, none⟩ = false := by
   obtain ⟨a2, h1, h2, _⟩ := a4
   refine ⟨a2[k]'(by omega), ?_, by simp [World.frozen?, h1]⟩
   simp only [World.cell?, h1]
   simp [show k < a2.size by omega]
  clear bw a4 hput r0;go_wp2_with fail
  go_roundw
  case rel => exact ⟨k + 1, by omega, by go_num, a5, b4.out.setCell (Nat.le_refl _) _⟩
  case measure => simp [intOf]; omega
theorem aE0 (o : Oa) (n c : Nat) (ws : List (Int × ByteArray)) (w : World) (h : aP7 w o n ws) (hn : n ≤ 2000000) (hz : ∀ x ∈ ws, (x.2).size ≤ 1048576) :
  Calls prog 148 #[.slice o n c] w fun e w' => ∃ v, e = .returned v ∧ w'.ownsRow w.heap.size 155 2 v n (aA1 ws) ∧ Below w.heap.size w w' := by
 obtain ⟨i0, hi, b3, b4, b5⟩ := info_parts aV5;obtain ⟨M, hM⟩ : ∃ M, M = madeCells (Value.agg #[.int .i64 0, .string ⟨#[]⟩]).cells (((n : Nat) : Int).toNat * i0.size) := ⟨_, rfl⟩
 have c4 : ∀ W : World, (Instr.makeSlice 37 (.int .i64 (n : Int)) (.int .i64 (n : Int))).run prog W = .ok (.slice (some ⟨W.heap.size, 0, none⟩) n n) (W.alloc (.cells M 155)) := fun W => by
  have h := run_make (P := prog) W 37 155 i0 (Value.agg #[.int .i64 0, .string ⟨#[]⟩]) underlying37 hi b3 .i64 .i64 (n : Int) (n : Int) (by omega) (by omega) (by rw [b5]; omega) (by omega)
  rw [← hM] at h
  simpa using h
 have b6 : M.size = n * 2 := by rw [hM, size_madeCells, b4]; simp
 have HA := hid h;have HZ := hid hz;have a1 : Hid (ws.length = n) := h.1;clear hM h hz;have HP : Hid (aE2 (w.alloc (.cells M 155)) w.heap.size n 0 ws) := ⟨M, heap_alloc_new w _, b6, fun i h => absurd h (by omega)⟩
 go_enter func148, ntmps148;go_wp2_with fail
 go_loopw [11] (fun i wr => ∃ k : Nat, k ≤ n ∧ i = .int .i64 (k : Int) ∧ Hid (aE2 wr w.heap.size n k ws) ∧ Hid (Bw w wr)) (fun i _ => n - (intOf i).toNat)
 case atStart => exact ⟨0, Nat.zero_le _, rfl, HP, (Below.refl _ _).alloc (Nat.le_refl _) _⟩
 case round =>
  obtain ⟨k, hk, rfl, a2, a3⟩ := hrel;by_cases hlt : k < n
  rotate_left
  ·obtain rfl : k = n := by omega
   go_wp2_with fail
   go_ret;exact ⟨_, rfl, a2.out.owns a1.out (by unfold maxLen; omega) (Nat.le_refl _), a3.out⟩
  have b7 : (k : Int) < (n : Int) := by omega
  have a9 : k < ws.length := by rw [a1.out]; omega
  obtain ⟨g, rfl, hg, r0, r1⟩ := (HA.out.below a3.out).2 k hlt;obtain ⟨y, hy⟩ := exq (aC6 ws k);have b8 : Hid (y.2.size ≤ 281474976710656) := by rw [Hid, hy]; have := HZ.out _ (aI7 ws k a9); omega
  have HY : Hid (aC6 ws k = y) := hy.symm;rw [← hy] at r0 r1;obtain ⟨y0, y1⟩ := y;simp only at r0 r1
  clear hy a9;go_upto_region 5 with fail
  clear r0 r1;obtain ⟨q, hq⟩ := exq (wr.heap.size);obtain ⟨w1, a4⟩ := exq (wr.alloc (.cells #[.int .i64 y0, .string y1] 155));rw [← a4, ← hq];have a5 : Bw w w1 := by rw [a4]; exact a3.out.alloc a3.out.size _
  have hS : w1.heap[q]? = some (.cells #[.int .i64 y0, .string y1] 155) := by rw [a4, hq]; exact heap_alloc_new _ _
  have a6 : aE2 w1 w.heap.size n k ws := by rw [a4]; exact a2.out.below ((Below.refl _ _).alloc (Nat.le_refl _) _) a2.out.lt
  have HS := hid hS
  have HK : Hid (∀ W, Below w1.heap.size w1 W → (W.cell? ⟨q, 0, none⟩ = some (.int .i64 y0) ∧ W.cell? ⟨q, 1, none⟩ = some (.string y1)) ∧ aE2 W w.heap.size n k ws ∧ Bw w W) := fun W hW =>
   ⟨⟨(aA9 (aA6 hS hW) 0).trans rfl, (aA9 (aA6 hS hW) 1).trans rfl⟩, a6.below hW a6.lt, a5.trans (hW.mono a5.size)⟩
  have a7 : Hid (∀ (W : World) (a b : Value), (W.cell? ⟨q, 0, none⟩ = some (.int .i64 y0) ∧ W.cell? ⟨q, 1, none⟩ = some (.string y1)) → (((W.setCell ⟨w.heap.size, k * 2, none⟩ a).setCell ⟨w.heap.size, k * 2 + 1, none⟩ b).cell? ⟨q, 0, none⟩ = some (.int .i64 y0) ∧ ((W.setCell ⟨w.heap.size, k * 2, none⟩ a).setCell ⟨w.heap.size, k * 2 + 1, none⟩ b).cell? ⟨q, 1, none⟩ = some (.string y1))) := fun W a b h => by
   have b0 : q ≠ w.heap.size := by rw [hq]; exact Nat.ne_of_gt a2.out.lt
   have hh : ((W.setCell ⟨w.heap.size, k * 2, none⟩ a).setCell ⟨w.heap.size, k * 2 + 1, none⟩ b).heap[q]? = W.heap[q]? := (heap_setCell_other _ _ q _ b0).trans (heap_setCell_other _ _ q _ b0)
   exact ⟨(World.cell?_of_block hh).trans h.1, (World.cell?_of_block hh).trans h.2⟩
  clear hq a4 a5 hS a6 HS a2 a3;obtain ⟨c0, c1⟩ := (HK.out _ (Below.refl _ _)).1;go_region_held3 (fun W => W.cell? ⟨q, 0, none⟩ = some (.int .i64 y0) ∧ W.cell? ⟨q, 1, none⟩ = some (.string y1)) (first | assumption | exact a7.out _ _ _ ⟨e0, e1⟩ | go_keep) (first | (go_at_call 190; refine (aI4 y1 _ b8.out).mono ?_; rintro e u1 ⟨rfl, b1⟩; obtain ⟨⟨e0, e1⟩, a0, b2⟩ := HK.out u1 ((Below.refl _ _).drew.trans b1); obtain ⟨u2, b9⟩ := a0.cell (k * 2) (by omega); have f2 := a0.frozen (k * 2); obtain ⟨u3, c2⟩ := a0.cell (k * 2 + 1) (by omega); have f3 := a0.frozen (k * 2 + 1)))
  have hput := a0.put hlt;rw [HY.out] at hput;have a8 : Hid _ := hput;have c3 := hid b2;clear hput b2 a0 b1 e0 e1 c0 c1 b9 c2 f2 f3;go_wp2_with fail
  go_roundw
  case rel => exact ⟨k + 1, by omega, by go_num, a8, (c3.out.setCell (Nat.le_refl _) _).setCell (Nat.le_refl _) _⟩
  case measure => simp [intOf]; omega
theorem cP2 {w : World} {base n cap : Nat} {t : TypeId} {z : Nat} {oa : Oa} {l : List Value} (h : w.ownsRow base t z (.slice oa n cap) n l) : (oa = none ∧ cap = 0) ∨ ∃ g, oa = some ⟨g, 0, none⟩ := by
 rcases h.2 with ⟨e, _⟩ | ⟨g, a0, a1, e, _⟩
 ·cases e; exact .inl ⟨rfl, rfl⟩
 cases e; exact .inr ⟨g, rfl⟩
theorem cT0 {w : World} {base n cap : Nat} {t : TypeId} {z : Nat} {oa : Oa} {l : List Value} (h : w.ownsRow base t z (.slice oa n cap) n l) : n ≤ cap := by
 rcases h.2 with ⟨e, h0⟩ | ⟨g, a0, a1, e, _, _, h3, _⟩
 ·cases e; exact Nat.le_refl _
 cases e; exact h3
theorem cL4 {w : World} {base n cap : Nat} {t : TypeId} {z : Nat} {b : Addr} {l : List Value} (h : w.ownsRow base t z (.slice (some b) n cap) n l) (j : Nat) (u : Value) (hj : l[j]? = some u) : w.cell? (b.add j) = some u := by
 rcases h.2 with ⟨e, _⟩ | ⟨g, a0, a1, e, _, hg, _, _, _, ht⟩
 ·cases e
 cases e
 rw [Addr.add_lit, Nat.zero_add, cell_of_row w g j a1 t (0, 0) hg];rw [← ht, List.getElem?_take] at hj;split at hj
 ·simpa using hj
 cases hj
theorem bI1 {w : World} {base n cap : Nat} {oa : Oa} {l : Ts} (h : w.ownsRow base 9 1 (.slice oa n cap) n (l.map Value.string)) : aB8 w oa n l := by
 obtain ⟨a1, a0, e, h'⟩ := bG4 h;cases e
 exact h'
theorem bI2 (o : Oa) (n c m : Nat) (w : World) (ho : (o = none ∧ c = 0) ∨ ∃ g, o = some ⟨g, 0, none⟩) (hm : m ≤ c) :
  Calls prog 208 #[.slice o n c, .int .i64 (m : Int)] w fun e w' => e = .returned (.slice o m m) ∧ w' = w := by
 rcases ho with ⟨rfl, _⟩ | ⟨g, rfl⟩
 ·go_enter func208, ntmps208;go_wp2_with fail
  go_ret;exact ⟨rfl, rfl⟩
 go_enter func208, ntmps208;go_wp2_with fail
 go_ret;exact ⟨rfl, rfl⟩
theorem cG9 (l : Ts) (hl : l.length = 20) (hz : ∀ i, i < 20 → (aA7 l i).size ≤ 1048576) (w : World) :
  Calls prog 184 #[.agg (aD4 l)] w fun e w' => aX7 l [] w e w' := by
 have HL := hid hl;have HZ := hid hz;clear hl hz;go_enter func184, ntmps184;go_upto_region 1 with fail
 obtain ⟨w2, a1⟩ := exq ((w.alloc (.cells (aD4 l) 206)).alloc (.cells #[.slice none 0 0, .slice none 0 0] 39));rw [← a1];have a4 : Bw w w2 := by rw [a1]; exact ((Below.refl _ _).alloc (Nat.le_refl _) _).alloc (by simp) _
 have hA : w2.heap[w.heap.size]? = some (.cells (aD4 l) 206) := by rw [a1]; exact aJ7 (heap_alloc_new _ _) _
 have hC : w2.heap[w.heap.size + 1]? = some (.cells #[.slice none 0 0, .slice none 0 0] 39) := by rw [a1]; exact heap_alloc2_new _ _ _
 obtain ⟨q, hq⟩ := exq (w.heap.size);have HQ : Hid (w.heap.size = q) := hq.symm;rw [← hq] at hA hC;rw [← hq];have HA := hid hA;have HC := hid hC;have a3 := hid a4;clear a1 a4 hA hC hq;go_wp2_with fail
 refine (aD9 (some ⟨q, 0, none⟩) 20 20 l _ ⟨HL.out, fun i hi => ⟨q, rfl, (blt HA.out), (aA9 HA.out i).trans (bH8 l i (by rw [HL.out]; exact hi))⟩⟩ (by omega) HZ.out).mono ?_
 rintro e w3 ⟨v, rfl, ho, bw⟩;have a0 := aA6 HC.out bw;have a5 := hid a0;have c0 := (aA9 a0 0).trans rfl;have c1 := (aA9 a0 1).trans rfl;have f0 := aD3 a0 0;have f1 := aD3 a0 1;obtain ⟨o, p, rfl⟩ := aA0 ho;have HO := hid ho;have a7 : Hid (Bw w w3) := a3.out.trans (bw.mono a3.out.size);have a8 : Hid (w.heap.size ≤ w2.heap.size) := a3.out.size;clear a0 bw ho;go_wp2_with fail
 obtain ⟨w5, a2⟩ := exq ((w3.setCell ⟨q + 1, 0, none⟩ (.slice o 20 p)).setCell ⟨q + 1, 1, none⟩ (.slice none 0 0));rw [← a2]
 have h5 : w5.heap[q + 1]? = some (.cells #[.slice o 20 p, .slice none 0 0] 39) := by
  rw [a2]
  exact heap_setCell_same _ _ _ _ _ _ (heap_setCell_same _ _ _ _ _ _ a5.out)
 refine bodyPost_ret (v := .agg #[.slice o 20 p, .slice none 0 0]) (results_cell_row results184 _ _ (q + 1) 39 _ (0, 0) _ rfl h5 underlying39 rfl (by kernel_rfl)) rfl ⟨_, _, rfl, ⟨?_, World.ownsRow_nil _ _ _ _⟩, ?_⟩
 ·rw [HL.out, a2]
  exact aA4 (aF5 HO.out a8.out) (fun g hg => by
   have a6 : g ≠ q + 1 := aA8 HO.out a5.out (by decide) g hg
   rw [heap_setCell_other _ _ g _ a6, heap_setCell_other _ _ g _ a6])
 rw [a2];exact (a7.out.setCell (by rw [HQ.out]; exact Nat.le_succ _) _).setCell (by rw [HQ.out]; exact Nat.le_succ _) _
theorem bK6 (st : Int) (u : Value) (d : Tx) (k base : Nat) (gs : Fs) (w : World) (hu : aB2 w base u k gs) (hk : k ≤ 1999999) (hc2 : aR5 gs) (hd : d.size ≤ 281474976710656) :
  Calls prog 233 #[.agg #[.int .i64 st, u, .string d]] w fun e w' => ∃ v, e = .returned (.agg #[.int .i64 st, v, .string d]) ∧ w'.ownsRow w.heap.size 184 2 v gs.length (aE4 gs) ∧ Below w.heap.size w w' := by
 obtain ⟨ob, cb, rfl, _⟩ := hu.slice;have b5 : Hid (∀ W, Bw w W → aB2 W base (.slice ob k cb) k gs) := fun W h => hu.below h
 have b1 : Hid (gs.length = k) := hu.len;have b6 := hid hc2;have b7 := hid hd;clear hu hc2 hd;have K0 := jnil w;go_enter func233, ntmps233;go_upto_region 1 with fail
 obtain ⟨q1, a6⟩ := exq (w.heap.size);obtain ⟨w1, a3⟩ := exq (w.alloc (.cells #[.int .i64 st, .slice ob k cb, .string d] 49));have a7 := a6.symm;rw [← a3]; try rw [← a6];have b2 := hsa a3 a7;have bw := bal a3;have K1 := ja K0 a3 a7;clear bw a3 a7 K0;obtain ⟨q2, a8⟩ := exq (q1 + 1);obtain ⟨w2, a4⟩ := exq (w1.alloc (.cells #[.int .i64 0, .slice none 0 0, .string ⟨#[]⟩] 49));have a9 : w1.heap.size = q2 := by rw [a8]; exact b2
 rw [← a4]; try rw [← a8];have b8 := hsa a4 a9;have bw := bal a4;have K2 := ja K1 a4 a9;clear bw a4 a9 K1;clear b8 a8 b2 a6;go_upto_region 1 with fail
 refine wp_region_held_drew (S := fun W => W.heap[q1]? = some (.cells #[.int .i64 st, .slice ob k cb, .string d] 49)) (by kernel_rfl) (jb K2 1 rfl) (fun _ => ?_)
 obtain ⟨w3, hX⟩ := exq w2.drew;have bw := bdr hX;rw [← hX];have K3 := jw K2 bw;have a2 := (jb K3 1 rfl);clear bw hX K2;refine tkP 0 (.pointer (some ⟨q1, 0, none⟩)) 3 rfl rfl a2 ?_;go_frame;refine tkL 1 (.int .i64 st) 4 rfl rfl (Or.inl ⟨by rfl, by intro W hW; have a0 := hW; have y0 := c3c a0; go_simp⟩) a2 ?_;go_frame;refine tkP 2 (.pointer (some ⟨q1, 1, none⟩)) 5 rfl rfl a2 ?_;go_frame;refine tkL 3 (.slice ob k cb) 6 rfl rfl (Or.inl ⟨by rfl, by intro W hW; have a0 := hW; have y1 := c3c a0; go_simp⟩) a2 ?_;go_frame;refine tkP 5 (.pointer (some ⟨q1, 2, none⟩)) 8 rfl rfl a2 ?_;go_frame;refine tkL 6 (.string d) 9 rfl rfl (Or.inl ⟨by rfl, by intro W hW; have a0 := hW; have y2 := c3c a0; go_simp⟩) a2 ?_;go_frame;refine rd1 4 rfl (fun K hK => ?_)
 go_simp;refine (cG0 _ k base gs _ (b5.out _ K3.hb) (by omega) b6.out).mono ?_;rintro e w4 ⟨vv, rfl, a1, bw⟩;obtain ⟨oG, pG, rfl⟩ := aA0 a1;rw [b1.out] at a1 ⊢;have K4 := jj K3 (jcR (jN bw) a1 jhn);clear a1;clear bw K3;have b3 := (jb K4 2 rfl);refine hK.out _ _ b3 (fun _ => ?_)
 clear hK K a2;refine rd1 7 rfl (fun K hK => ?_)
 go_simp;refine (aI4 d _ b7.out).mono ?_;rintro e w5 ⟨rfl, bw⟩;have K5 := jw K4 bw;clear bw K4;have b0 := (jb K5 2 rfl);refine hK.out _ _ b0 (fun _ => ?_)
 clear hK K b3;refine tkP 8 (.agg #[.int .i64 st, .slice oG k pG, .string d]) 11 rfl rfl b0 ?_;go_frame;refine rd1 9 rfl (fun K hK => ?_)
 have b9 := c3f (jb K5 1 rfl);obtain ⟨w6, hY⟩ := exq ((((w5.setCell ⟨q2, 0, none⟩ (.int .i64 st)).setCell ⟨q2, 1, none⟩ (.slice oG k pG)).setCell ⟨q2, 2, none⟩ (.string d)));have HY := hsy hY;have K6 := jss K5 1 [(0, _), (1, _), (2, _)] hY;clear hY K5;go_simp;rw [HY.out];have b4 := (jb K6 2 rfl);refine hK.out _ _ b4 (fun _ => ?_)
 clear hK K HY b0 b9;clear b4;refine wdn ?_;go_wp2_with fail
 have a5 := c3c (jb K6 1 rfl);refine bodyPost_ret (v := .agg #[.int .i64 st, .slice oG k pG, .string d]) (by simp [results, results233, go_sem, a5]) rfl ?_;refine ⟨_, rfl, ?_, K6.hb⟩;rw [b1.out];exact (jo K6 0 rfl)
theorem bK7 (k : KpD) (v1 v2 v3 : Value) (w : World) (h : aI0 w k v1 v2 v3) (hs : aD6 k) :
  Calls prog 196 #[.agg #[.string k.p, v1, v2, .int .i64 k.st, v3, .string k.b, .int .i64 k.t]] w fun e w' => ∃ u1 u2 u3, e = .returned (.agg #[.string k.p, u1, u2, .int .i64 k.st, u3, .string k.b, .int .i64 k.t]) ∧ ObjO w' w.heap.size u1 k.xs.length k.xs u2 k.ys.length k.ys u3 k.fs.length k.fs ∧ Below w.heap.size w w' := by
 obtain ⟨B, h⟩ := h;have ho : ObjO w B v1 k.xs.length k.xs v2 k.ys.length k.ys v3 k.fs.length k.fs := aD7 h;obtain ⟨o1, c1, rfl⟩ := aA0 ho.names;obtain ⟨o2, c2, rfl⟩ := aA0 ho.vals;obtain ⟨o3, c3, rfl⟩ := aA0 ho.flds;have c9 : Hid (∀ W, Bw w W → aB8 W o1 k.xs.length k.xs) := fun W hb => (aC3 ho.names).below hb
 have d0 : Hid (∀ W, Bw w W → aB8 W o2 k.ys.length k.ys) := fun W hb => (aC3 ho.vals).below hb
 have d1 : Hid (∀ W, Bw w W → aB2 W B (.slice o3 k.fs.length c3) k.fs.length k.fs) := fun W hb => (aB2.of_owns ho.flds).below hb
 have HS := hid hs;clear h ho hs;have K0 := jnil w;go_enter func196, ntmps196;go_upto_region 1 with fail
 obtain ⟨q1, a8⟩ := exq (w.heap.size);obtain ⟨w1, a5⟩ := exq (w.alloc (.cells #[.string k.p, .slice o1 k.xs.length c1, .slice o2 k.ys.length c2, .int .i64 k.st, .slice o3 k.fs.length c3, .string k.b, .int .i64 k.t] 51));have a9 := a8.symm;rw [← a5]; try rw [← a8];have c4 := hsa a5 a9;have bw := bal a5;have K1 := ja K0 a5 a9;clear bw a5 a9 K0;obtain ⟨q2, b0⟩ := exq (q1 + 1);obtain ⟨w2, a6⟩ := exq (w1.alloc (.cells #[.string ⟨#[]⟩, .slice none 0 0, .slice none 0 0, .int .i64 0, .slice none 0 0, .string ⟨#[]⟩, .int .i64 0] 51));have b1 : w1.heap.size = q2 := by rw [b0]; exact c4
 rw [← a6]; try rw [← b0];have d2 := hsa a6 b1;have bw := bal a6;have K2 := ja K1 a6 b1;clear bw a6 b1 K1;clear d2 b0 c4 a8;go_upto_region 1 with fail
 refine wp_region_held_drew (S := fun W => W.heap[q1]? = some (.cells #[.string k.p, .slice o1 k.xs.length c1, .slice o2 k.ys.length c2, .int .i64 k.st, .slice o3 k.fs.length c3, .string k.b, .int .i64 k.t] 51)) (by kernel_rfl) (jb K2 1 rfl) (fun _ => ?_)
 obtain ⟨w3, hX⟩ := exq w2.drew;have bw := bdr hX;rw [← hX];have K3 := jw K2 bw;have a3 := (jb K3 1 rfl);clear bw hX K2;refine tkP 0 (.pointer (some ⟨q1, 0, none⟩)) 3 rfl rfl a3 ?_;go_frame;refine tkL 1 (.string k.p) 4 rfl rfl (Or.inl ⟨by rfl, by intro W hW; have a0 := hW; have y0 := c7c a0; go_simp⟩) a3 ?_;go_frame;refine tkP 3 (.pointer (some ⟨q1, 1, none⟩)) 6 rfl rfl a3 ?_;go_frame;refine tkL 4 (.slice o1 k.xs.length c1) 7 rfl rfl (Or.inl ⟨by rfl, by intro W hW; have a0 := hW; have y1 := c7c a0; go_simp⟩) a3 ?_;go_frame;refine tkP 6 (.pointer (some ⟨q1, 2, none⟩)) 9 rfl rfl a3 ?_;go_frame;refine tkL 7 (.slice o2 k.ys.length c2) 10 rfl rfl (Or.inl ⟨by rfl, by intro W hW; have a0 := hW; have y2 := c7c a0; go_simp⟩) a3 ?_;go_frame;refine tkP 9 (.pointer (some ⟨q1, 3, none⟩)) 12 rfl rfl a3 ?_;go_frame;refine tkL 10 (.agg #[.int .i64 k.st, .slice o3 k.fs.length c3, .string k.b]) 13 rfl rfl (Or.inl ⟨by rfl, by intro W hW; have a0 := hW; have y3 := c7c a0; go_simp⟩) a3 ?_;go_frame;refine tkP 12 (.pointer (some ⟨q1, 6, none⟩)) 15 rfl rfl a3 ?_;go_frame;refine tkL 13 (.int .i64 k.t) 16 rfl rfl (Or.inl ⟨by rfl, by intro W hW; have a0 := hW; have y6 := c7c a0; go_simp⟩) a3 ?_;go_frame;refine rd1 2 rfl (fun K hK => ?_)
 go_simp;refine (aI4 k.p _ (by have := HS.out.1.1; omega)).mono ?_;rintro e w4 ⟨rfl, bw⟩;have K4 := jw K3 bw;clear bw K3;have c5 := (jb K4 1 rfl);refine hK.out _ _ c5 (fun _ => ?_)
 clear hK K a3;refine rd1 5 rfl (fun K hK => ?_)
 go_simp;refine (aD9 _ _ _ k.xs _ (c9.out _ K4.hb) (by have := HS.out.2.1.1; omega) HS.out.2.1.2).mono ?_;rintro e w5 ⟨va, rfl, a1, bw⟩;obtain ⟨b2, b3, rfl⟩ := aA0 a1;have K5 := jj K4 (jcR (jN bw) a1 jhn);have b4 := hhi a1;clear a1;clear bw K4;have c6 := (jb K5 2 rfl);refine hK.out _ _ c6 (fun _ => ?_)
 clear hK K c5;refine rd1 8 rfl (fun K hK => ?_)
 go_simp;refine (aD9 _ _ _ k.ys _ (d0.out _ K5.hb) (by have := HS.out.2.2.1.1; omega) HS.out.2.2.1.2).mono ?_;rintro e w6 ⟨va, rfl, a2, bw⟩;obtain ⟨b5, b6, rfl⟩ := aA0 a2;have K6 := jj K5 (jcR (jN bw) a2 jhn);have d3 := hsz bw;have b7 := hlo a2;clear a2;clear bw K5;have c7 := (jb K6 3 rfl);refine hK.out _ _ c7 (fun _ => ?_)
 clear hK K c6;refine rd1 11 rfl (fun K hK => ?_)
 go_simp;refine (bK6 k.st _ k.b _ B k.fs _ (d1.out _ K6.hb) (by have := HS.out.2.2.2.1; omega) (aX0 HS.out) (by have := HS.out.1.2; omega)).mono ?_;rintro e w7 ⟨va, rfl, a4, bw⟩;obtain ⟨b8, b9, rfl⟩ := aA0 a4;have K7 := jj K6 (jcR (jN bw) a4 jhn);clear a4;clear bw K6;have c0 := (jb K7 4 rfl);refine hK.out _ _ c0 (fun _ => ?_)
 clear hK K c7;refine tkP 14 (.agg #[.string k.p, .slice b2 k.xs.length b3, .slice b5 k.ys.length b6, .int .i64 k.st, .slice b8 k.fs.length b9, .string k.b, .int .i64 k.t]) 17 rfl rfl c0 ?_;go_frame;refine rd1 15 rfl (fun K hK => ?_)
 have d4 := c7f (jb K7 3 rfl);obtain ⟨w8, hY⟩ := exq ((((((((w7.setCell ⟨q2, 0, none⟩ (.string k.p)).setCell ⟨q2, 1, none⟩ (.slice b2 k.xs.length b3)).setCell ⟨q2, 2, none⟩ (.slice b5 k.ys.length b6)).setCell ⟨q2, 3, none⟩ (.int .i64 k.st)).setCell ⟨q2, 4, none⟩ (.slice b8 k.fs.length b9)).setCell ⟨q2, 5, none⟩ (.string k.b)).setCell ⟨q2, 6, none⟩ (.int .i64 k.t)));have HY := hsy hY;have K8 := jss K7 3 [(0, _), (1, _), (2, _), (3, _), (4, _), (5, _), (6, _)] hY;clear hY K7;go_simp;rw [HY.out];have c8 := (jb K8 4 rfl);refine hK.out _ _ c8 (fun _ => ?_)
 clear hK K HY c0 d4;clear c8;refine wdn ?_;go_wp2_with fail
 have a7 := c7c (jb K8 3 rfl);refine bodyPost_ret (v := .agg #[.string k.p, .slice b2 k.xs.length b3, .slice b5 k.ys.length b6, .int .i64 k.st, .slice b8 k.fs.length b9, .string k.b, .int .i64 k.t]) (by simp [results, results196, go_sem, a7]) rfl ?_;exact ⟨_, _, _, rfl, ⟨(jo K8 2 rfl), (jo K8 1 rfl), (jo K8 0 rfl), fun g hg e => by have h1 := b7.out g e; have h2 := b4.out g hg; have := d3.out; omega⟩, K8.hb⟩
def kpX (x : KpD × Value × Value × Value) : Value := .agg #[.string x.1.p, x.2.1, x.2.2.1, .int .i64 x.1.st, x.2.2.2, .string x.1.b, .int .i64 x.1.t, .int .i64 x.1.a, .int .i64 x.1.q]
def mpR (v : Value) : Option (DataW Value × List MemPlace) := some (.held v, [])
theorem cL5 {v : Value} {y : DataW Value × List MemPlace} (h : mpR v = some y) : y = (.held v, []) := (Option.some.inj h).symm
def aG2 (kv : Ks) : Prop := kv.Pairwise (fun x y => x.1.a ≠ y.1.a)
def aM5 (D : DataW Value) (kv : Ks) : Prop := (∀ a : Int, Maps.has D (.int .i64 a) = true ↔ ∃ x ∈ kv, x.1.a = a) ∧ ∀ x ∈ kv, ∀ z, D.atKey (.int .i64 x.1.a) z = .held (kpX x)
theorem bM3 {a b : Int} (h : a ≠ b) : (Lit.int .i64 a) ≠ Lit.int .i64 b := fun e => h (by injection e)
theorem bQ2 (a b : Int) : (Lit.int .i64 a).sameKey (.int .i64 b) = decide (a = b) := by
 by_cases h : a = b
 ·subst h;rw [decide_eq_true rfl];simp [Lit.sameKey]
 rw [decide_eq_false h];exact Maps.sameKey_ne (bM3 h)
theorem aG2.eq {kv : Ks} (h : aG2 kv) : ∀ {x y : KpD × Value × Value × Value}, x ∈ kv → y ∈ kv → x.1.a = y.1.a → x = y := by
 unfold aG2 at h;induction kv with
 | nil => intro x y hx; simp at hx
 | cons z l ih =>
  intro x y hx hy e
  rw [List.pairwise_cons] at h
  rcases List.mem_cons.1 hx with hx | hx
  ·rcases List.mem_cons.1 hy with hy | hy
   ·rw [hx, hy]
   ·rw [hx] at e; exact absurd e (h.1 y hy)
  ·rcases List.mem_cons.1 hy with hy | hy
   ·rw [hy] at e; exact absurd e.symm (h.1 x hx)
   ·exact ih h.2 hx hy e
theorem aG2.sub {kv kv' : Ks} (h : aG2 kv) (hs : List.Sublist kv' kv) : aG2 kv' := List.Pairwise.sublist hs h
theorem aG2.nodup {kv : Ks} (h : aG2 kv) : kv.Nodup := List.Pairwise.imp (fun hne e => hne (by rw [e])) h
theorem aM5.nil : aM5 (.map []) [] := ⟨fun a => by simp [Maps.has], fun x hx => by simp at hx⟩
theorem aY8 {D : DataW Value} (hD : Maps.IsMap D) (a b : Int) (d : DataW Value) : Maps.has (D.put (.int .i64 b) d) (.int .i64 a) = (decide (a = b) || Maps.has D (.int .i64 a)) := by
 by_cases h : a = b
 rotate_left
 ·rw [Maps.has_put_other (bM3 h), decide_eq_false h];rfl
 subst h;rw [Maps.has_put_same hD (show WideAt.IsKeyLit (.int .i64 _) from trivial)];simp
theorem aM5.put {D : DataW Value} {kv : Ks} (h : aM5 D kv) (hD : Maps.IsMap D) (y : KpD × Value × Value × Value) (hy : ∀ x ∈ kv, x.1.a ≠ y.1.a) : aM5 (D.put (.int .i64 y.1.a) (.held (kpX y))) (kv ++ [y]) := by
 refine ⟨fun a => ?_, fun x hx z => ?_⟩
 ·rw [aY8 hD, Bool.or_eq_true, decide_eq_true_iff, h.1 a];constructor
  ·rintro (rfl | ⟨x, hx, e⟩)
   ·exact ⟨y, by simp, rfl⟩
   exact ⟨x, by simp [hx], e⟩
  rintro ⟨x, hx, e⟩;rcases List.mem_append.1 hx with hx | hx
  ·exact .inr ⟨x, hx, e⟩
  rw [List.mem_singleton.1 hx] at e;exact .inl e.symm
 rcases List.mem_append.1 hx with hx | hx
 ·rw [Maps.atKey_put_other (bM3 (hy x hx))];exact h.2 x hx z
 rw [List.mem_singleton.1 hx];exact Maps.atKey_put_same hD (show WideAt.IsKeyLit (.int .i64 _) from trivial) _ _
theorem aM5.over {D : DataW Value} {kv : Ks} (h : aM5 D kv) (hD : Maps.IsMap D) (y : KpD × Value × Value × Value) : aM5 (D.put (.int .i64 y.1.a) (.held (kpX y))) (kv.filter (fun x => !decide (x.1.a = y.1.a)) ++ [y]) := by
 refine ⟨fun a => ?_, fun x hx z => ?_⟩
 ·rw [aY8 hD, Bool.or_eq_true, decide_eq_true_iff, h.1 a];constructor
  ·rintro (rfl | ⟨x, hx, e⟩)
   ·exact ⟨y, by simp, rfl⟩
   by_cases e2 : a = y.1.a
   ·exact ⟨y, by simp, e2.symm⟩
   exact ⟨x, List.mem_append.2 (.inl (List.mem_filter.2 ⟨hx, by simp [e, e2]⟩)), e⟩
  rintro ⟨x, hx, e⟩;rcases List.mem_append.1 hx with hx | hx
  ·exact .inr ⟨x, (List.mem_filter.1 hx).1, e⟩
  rw [List.mem_singleton.1 hx] at e;exact .inl e.symm
 rcases List.mem_append.1 hx with hx | hx
 ·obtain ⟨h1, h2⟩ := List.mem_filter.1 hx;rw [Maps.atKey_put_other (bM3 (by simpa using h2))];exact h.2 x h1 z
 rw [List.mem_singleton.1 hx];exact Maps.atKey_put_same hD (show WideAt.IsKeyLit (.int .i64 _) from trivial) _ _
structure MapN (D : DataW Value) (kv : Ks) : Prop where
 tidy : Maps.Tidy D
 has : ∀ a : Int, Maps.has D (.int .i64 a) = true ↔ ∃ x ∈ kv, x.1.a = a
 le : Maps.size D ≤ kv.length
 eq : Maps.size D = kv.length ↔ aG2 kv
 is : aG2 kv → aM5 D kv
theorem MapN.nil : MapN (.map []) [] := ⟨Maps.tidy_empty, aM5.nil.1, Nat.le_refl _, ⟨fun _ => List.Pairwise.nil, fun _ => rfl⟩, fun _ => aM5.nil⟩
theorem aX1 {kv : Ks} {y : KpD × Value × Value × Value} : aG2 (kv ++ [y]) ↔ aG2 kv ∧ ∀ x ∈ kv, x.1.a ≠ y.1.a := by
 unfold aG2;rw [List.pairwise_append];simp
theorem MapN.put {D : DataW Value} {kv : Ks} (h : MapN D kv) (y : KpD × Value × Value × Value) : MapN (D.put (.int .i64 y.1.a) (.held (kpX y))) (kv ++ [y]) := by
 have hD := h.tidy.isMap;have hs := Maps.size_put (k := .int .i64 y.1.a) h.tidy (.held (kpX y));have a0 := h.le;refine ⟨h.tidy.put (show WideAt.IsKeyLit (.int .i64 _) from trivial) _, fun a => ?_, ?_, ?_, fun ha => ?_⟩
 ·rw [aY8 hD, Bool.or_eq_true, decide_eq_true_iff, h.has a];constructor
  ·rintro (rfl | ⟨x, hx, e⟩)
   ·exact ⟨y, by simp, rfl⟩
   exact ⟨x, by simp [hx], e⟩
  rintro ⟨x, hx, e⟩;rcases List.mem_append.1 hx with hx | hx
  ·exact .inr ⟨x, hx, e⟩
  rw [List.mem_singleton.1 hx] at e;exact .inl e.symm
 ·rw [hs, List.length_append, List.length_singleton];split <;> omega
 ·rw [hs, List.length_append, List.length_singleton, aX1, ← h.eq];by_cases e : Maps.has D (.int .i64 y.1.a) = true
  rotate_left
  ·rw [if_neg e];constructor
   ·intro h1; exact ⟨by omega, fun x hx ex => e ((h.has _).2 ⟨x, hx, ex⟩)⟩
   rintro ⟨h1, _⟩; omega
  rw [if_pos e];obtain ⟨x, hx, ex⟩ := (h.has _).1 e;constructor
  ·intro h1; omega
  rintro ⟨_, h2⟩; exact absurd ex (h2 x hx)
 obtain ⟨h1, h2⟩ := aX1.1 ha;exact (h.is h1).put hD y h2
def aN9 (G : KpD × Value × Value × Value → Bool) (D : DataW Value) (left : Lit → Bool) (kv : Ks) : Prop := aM5 D (kv.filter (fun y => left (.int .i64 y.1.a) || !G y))
theorem aN9.start {G : KpD × Value × Value × Value → Bool} {D : DataW Value} {kv : Ks} (h : aM5 D kv) : aN9 G D (Maps.has D) kv := by
 unfold aN9;rw [List.filter_eq_self.2 (fun y hy => by rw [(h.1 _).2 ⟨y, hy, rfl⟩]; rfl)]
 exact h
theorem aN9.at {G : KpD × Value × Value × Value → Bool} {D : DataW Value} {left : Lit → Bool} {kv : Ks} (h : aN9 G D left kv) {a : Int} {c : Value} (hat : ∀ z, D.atKey (.int .i64 a) z = .held c) : ∃ x ∈ kv, x.1.a = a ∧ c = kpX x := by
 obtain ⟨x, hx, e⟩ := (h.1 a).1 (Maps.has_true_of_atKey hat);refine ⟨x, (List.mem_filter.1 hx).1, e, ?_⟩;have h2 := h.2 x hx (.held c);rw [e, hat] at h2;injection h2
theorem aN9.strike {G : KpD × Value × Value × Value → Bool} {D : DataW Value} {left : Lit → Bool} {kv : Ks} (h : aN9 G D left kv) (ha : aG2 kv) {x : KpD × Value × Value × Value} (hx : x ∈ kv) (hG : G x = true) : aN9 G (D.del (.int .i64 x.1.a)) (fun z => left z && !z.sameKey (.int .i64 x.1.a)) kv := by
 have a0 : ∀ y, y ∈ kv.filter (fun y => (left (.int .i64 y.1.a) && !(Lit.int .i64 y.1.a).sameKey (.int .i64 x.1.a)) || !G y) ↔ y ∈ kv.filter (fun y => left (.int .i64 y.1.a) || !G y) ∧ y.1.a ≠ x.1.a := by
  intro y
  rw [List.mem_filter, List.mem_filter, bQ2]
  constructor
  ·rintro ⟨h1, h2⟩
   by_cases e : y.1.a = x.1.a
   ·have := ha.eq h1 hx e
    subst this
    simp [hG] at h2
   ·refine ⟨⟨h1, ?_⟩, e⟩
    rw [decide_eq_false e] at h2
    simpa using h2
  ·rintro ⟨⟨h1, h2⟩, e⟩
   refine ⟨h1, ?_⟩
   rw [decide_eq_false e]
   simpa using h2
 refine ⟨fun a => ?_, fun y hy z => ?_⟩
 ·by_cases e : a = x.1.a
  ·subst e;rw [Maps.has_del_same];constructor
   ·intro h; cases h
   rintro ⟨y, hy, e⟩; exact absurd e ((a0 y).1 hy).2
  rw [Maps.has_del_other (bM3 e), h.1 a];constructor
  ·rintro ⟨y, hy, rfl⟩; exact ⟨y, (a0 y).2 ⟨hy, e⟩, rfl⟩
  rintro ⟨y, hy, rfl⟩; exact ⟨y, ((a0 y).1 hy).1, rfl⟩
 obtain ⟨h1, h2⟩ := (a0 y).1 hy;rw [Maps.atKey_del_other (bM3 h2)];exact h.2 y h1 z
theorem aN9.stay {G : KpD × Value × Value × Value → Bool} {D : DataW Value} {left : Lit → Bool} {kv : Ks} (h : aN9 G D left kv) (ha : aG2 kv) {x : KpD × Value × Value × Value} (hx : x ∈ kv) (hG : G x = false) : aN9 G D (fun z => left z && !z.sameKey (.int .i64 x.1.a)) kv := by
 unfold aN9
 rw [List.filter_congr (q := fun y => left (.int .i64 y.1.a) || !G y) (fun y hy => by
  show (left (.int .i64 y.1.a) && !(Lit.int .i64 y.1.a).sameKey (.int .i64 x.1.a) || !G y) = _
  rw [bQ2]
  by_cases e : y.1.a = x.1.a
  ·have := ha.eq hy hx e
   subst this
   simp [hG]
  ·rw [decide_eq_false e]; simp)]
 exact h
theorem aN9.done {G : KpD × Value × Value × Value → Bool} {D : DataW Value} {left : Lit → Bool} {kv : Ks} (h : aN9 G D left kv) (hl : ∀ k, left k = false) : aM5 D (kv.filter (fun y => !G y)) := by
 unfold aN9 at h;rw [List.filter_congr (q := fun y => !G y) (fun y _ => by rw [hl]; rfl)] at h
 exact h
def aU6 (left : Lit → Bool) (kv acc : Ks) : Prop := aG2 acc ∧ ∀ y, y ∈ acc ↔ y ∈ kv ∧ left (.int .i64 y.1.a) = false
theorem aU6.start {D : DataW Value} {kv : Ks} (h : aM5 D kv) : aU6 (Maps.has D) kv [] := ⟨List.Pairwise.nil, fun y => by
 constructor
 · intro h; simp at h
 · rintro ⟨h1, h2⟩; rw [(h.1 _).2 ⟨y, h1, rfl⟩] at h2; cases h2⟩
theorem aU6.more {left : Lit → Bool} {kv acc : Ks} (h : aU6 left kv acc) (ha : aG2 kv) {x : KpD × Value × Value × Value} (hx : x ∈ kv) (hl : left (.int .i64 x.1.a) = true) : aU6 (fun z => left z && !z.sameKey (.int .i64 x.1.a)) kv (acc ++ [x]) := by
 refine ⟨aX1.2 ⟨h.1, fun y hy e => ?_⟩, fun y => ?_⟩
 ·have h2 := ((h.2 y).1 hy).2;rw [e, hl] at h2;cases h2
 show _ ↔ y ∈ kv ∧ (left (.int .i64 y.1.a) && !(Lit.int .i64 y.1.a).sameKey (.int .i64 x.1.a)) = false
 rw [List.mem_append, List.mem_singleton, h.2 y, bQ2];by_cases e : y.1.a = x.1.a
 rotate_left
 ·rw [decide_eq_false e];constructor
  ·rintro (h3 | h3)
   ·simpa using h3
   exact absurd (by rw [h3]) e
  intro h3; exact .inl (by simpa using h3)
 constructor
 ·intro _;refine ⟨?_, by simp [e]⟩;by_cases hy : y ∈ kv
  ·exact hy
  rename_i h3
  rcases h3 with h3 | h3
  ·exact absurd h3.1 hy
  rw [h3]; exact hx
 rintro ⟨h1, _⟩;exact .inr (ha.eq h1 hx e)
theorem aU6.perm {left : Lit → Bool} {kv acc : Ks} (h : aU6 left kv acc) (ha : aG2 kv) (hl : ∀ k, left k = false) : acc.Perm kv :=
 (List.perm_ext_iff_of_nodup h.1.nodup ha.nodup).2 (fun y => by rw [h.2 y, hl]; simp)
theorem bE3 {P : Program} {t k e : TypeId} (hu : P.underlying t = some (.map k e)) (n : Int) (w : World) : (Instr.makeMap t (some (.int .i64 n))).run P w = .ok (.map (some w.heap.size)) (w.alloc (.map #[] 0)) := by
 simp [Instr.makeMap, run_underlying hu, asInt, asIntOf, Result.andThen]
theorem aF0 {P : Program} {k : TypeId} {R : Value → Option (DataW Value × List MemPlace)} {w w' : World} {b n : Nat} {D : DataW Value} (h : w.ownsMap P k R b n D) (hb : Below w.heap.size w w') : w'.ownsMap P k R b n D := by
 have a1 := h.lt;obtain ⟨es, a0, h1, h2⟩ := h;exact ⟨es, a0, (hb.block b a1).trans h1, h2⟩
theorem aQ9 {P : Program} {k : TypeId} {R : Value → Option (DataW Value × List MemPlace)} {w w' : World} {b r n : Nat} {D : DataW Value} {left : Lit → Bool} {cnt : Nat} (h : w.ranges P k R b r n D left cnt) (hb : Below w.heap.size w w') : w'.ranges P k R b r n D left cnt := by
 have a3 := h.owns.lt;have a4 := h.lt;obtain ⟨es, a0, a1, a2, c0, h1, h2, h3, h4, h5, h6⟩ := h;exact ⟨es, a0, a1, a2, c0, (hb.block b a3).trans h1, h2, h3, h4, (hb.block r a4).trans h5, h6⟩
theorem aV9 {P : Program} {k : TypeId} {R : Value → Option (DataW Value × List MemPlace)} {w : World} {b n q : Nat} {D : DataW Value} {cs : Array Value} {T : TypeId} {fr : Nat × Nat} (h : w.ownsMap P k R b n D) (hq : w.heap[q]? = some (.cells cs T fr)) : b ≠ q := by
 obtain ⟨es, a0, h1, _⟩ := h;intro e;subst e;rw [h1] at hq;cases hq
theorem aW0 {P : Program} {k : TypeId} {R : Value → Option (DataW Value × List MemPlace)} {w w' : World} {b n q : Nat} {D : DataW Value} {cs : Array Value} {T : TypeId} {fr : Nat × Nat} (h : w.ownsMap P k R b n D) (hq : w.heap[q]? = some (.cells cs T fr)) (hg : w.grownBy w' (some b)) : w'.heap[q]? = some (.cells cs T fr) :=
 (hg.block q (blt hq) (fun e => aV9 h hq (Option.some.inj e).symm)).trans hq
theorem bQ3 {w : World} {base : Nat} {T : TypeId} {z n : Nat} {v : Value} {c : List Value} (h : w.ownsRow base T z v n c) {g : Nat} (hg : v.ownBlock = some g) : ∃ cs fr, w.heap[g]? = some (.cells cs T fr) := by
 rcases h.2 with ⟨e, _⟩ | ⟨g', a0, a1, e, _, h1, _⟩
 ·rw [e] at hg; cases hg
 rw [e] at hg;have e2 : some g' = some g := hg;rw [← Option.some.inj e2];exact ⟨_, _, h1⟩
theorem cL6 {P : Program} {k : TypeId} {R : Value → Option (DataW Value × List MemPlace)} {w w' : World} {b m : Nat} {D : DataW Value} {base : Nat} {T : TypeId} {z n : Nat} {v : Value} {c : List Value} (h : w.ownsMap P k R b m D) (hr : w.ownsRow base T z v n c) (hg : w.grownBy w' (some b)) : w'.ownsRow base T z v n c :=
 aA4 hr (fun g hgv => by
  obtain ⟨cs, fr, hq⟩ := bQ3 hr hgv
  exact (aW0 h hq hg).trans hq.symm)
theorem bI3 : Maps.Keyed prog 3 := Maps.int_keyed underlying3
theorem cR5 {a : Int} (h0 : 0 ≤ a) (h1 : a ≤ 1000) : keyOf prog 3 (.int .i64 a) = some (.int .i64 a) := Maps.keyOf_int_mk underlying3 (WalkArith.wf_i64 (by omega))
def aC0 (w : World) (b n : Nat) (D : DataW Value) : Prop := w.ownsMap prog 3 mpR b n D
def cT1 (kv : Ks) (w : World) (e : Ending) (w' : World) : Prop := ∃ (b n : Nat) (D : DataW Value), e = .returned (.map (some b)) ∧ n ≤ kv.length ∧ aC0 w' b n D ∧ MapN D kv ∧ w.heap.size ≤ b ∧ Below w.heap.size w w'
theorem aO1 (x : Int) (w : World) :
  Calls prog 161 #[.int .i64 x] w fun e w' => aA3 (5 ≤ x ∧ x ≤ 19) w e w' := by
 have K0 := jnil w;go_enter func161, ntmps161;by_cases hc1 : 5 ≤ x
 rotate_left
 ·have H5 : Hid (¬ 5 ≤ x) := hc1;go_wp2_with fail
  go_ret;exact aA3.no (fun h => by have h5 := H5.out; omega) K0.hb
 have H5 : Hid (5 ≤ x) := hc1;go_wp2_with fail
 refine (bC0 x _).mono ?_;rintro e w1 ⟨uc, rfl, a0, bw⟩;have K1 := jw K0 bw;clear bw K0;go_wp2_with fail
 go_ret;cases uc with
 | true => exact aA3.yes ⟨H5.out, (a0.1 rfl).2⟩ K1.hb
 | false => exact aA3.no (fun h => nomatch a0.2 ⟨by omega, h.2⟩) K1.hb
theorem bI4 (V : Value) (kv : Ks) (B : Nat) (w : World) (h : aB9 w B V kv) (hn : kv.length ≤ 1048576) (ha : ∀ x ∈ kv, 0 ≤ x.1.a ∧ x.1.a ≤ 1000) :
  Calls prog 165 #[V] w fun e w' => cT1 kv w e w' := by
 obtain ⟨o3, c3, e3⟩ := aA0 h.row;subst e3;obtain ⟨n3, d4⟩ := exq kv.length;rw [← d4] at h ⊢;obtain ⟨ks, f5⟩ := exq (kv.map (·.1));have g8 : Hid (kv.map (·.1) = ks) := f5.symm;have a6 : Hid (kv.length = n3) := d4.symm;have h1 : n3 ≤ 1048576 := by rw [d4]; exact hn
 have b8 : Hid (∀ W, Bw w W → aB9 W B (.slice o3 n3 c3) kv) := fun W hb => aB9.below h hb
 clear d4 f5 h hn;have f6 := hid ha;clear ha;have h2 : ∀ W : World, (Instr.makeMap 141 (some (.int .i64 (n3 : Int)))).run prog W = .ok (.map (some W.heap.size)) (W.alloc (.map #[] 0)) := fun W => bE3 underlying141 _ W
 have K0 := jnil w;go_enter func165, ntmps165;go_upto_region 2 with fail
 obtain ⟨qm1, a4⟩ := exq (w.heap.size);obtain ⟨w1, d5⟩ := exq (w.alloc (.map #[] 0));rw [← d5]; try rw [← a4];have bw := bal d5;have K1 := jw K0 bw;have b9 : Hid (w.heap.size ≤ qm1) := by show _ ≤ _; rw [a4]; exact K0.hb.size
 have a8 : Hid (aC0 w1 qm1 0 (.map [])) := by unfold aC0; show World.ownsMap _ _ _ _ _ _ _; rw [d5, a4]; exact World.ownsMap_made _ _ _ _
 clear bw d5 a4 K0;go_wp2_with fail
 go_loopw [11] (fun i wr => ∃ (j : Nat) (D : DataW Value), j ≤ n3 ∧ i = .int .i64 (j : Int) ∧ Hid (aC0 wr qm1 j D ∧ MapN D (kv.take j) ∧ Bw w (wr))) (fun i _ => n3 - (intOf i).toNat)
 case atStart => exact ⟨0, .map [], Nat.zero_le _, rfl, a8.out, by rw [List.take_zero]; exact MapN.nil, K1.hb⟩
 case round =>
  obtain ⟨j, D, hj, rfl, HW⟩ := hrel;by_cases hlt : (j : Int) < (n3 : Int)
  rotate_left
  ·have a1 := HW.out.2.2;have c9 := HW.out.2.1;have a9 : Hid (MapN D (kv.take j)) := c9;clear c9;have a2 : Hid (aC0 wr qm1 j D) := HW.out.1;clear HW;go_wp2_with fail
   go_ret
   have d7 : MapN D kv := by
    have h := a9.out
    rw [List.take_of_length_le (by rw [a6.out]; omega)] at h
    exact h
   exact ⟨qm1, j, D, rfl, by rw [a6.out]; omega, a2.out, d7, b9.out, a1⟩
  have a1 := HW.out.2.2;have c9 := HW.out.2.1;have a9 : Hid (MapN D (kv.take j)) := c9;clear c9;have a2 : Hid (aC0 wr qm1 j D) := HW.out.1;clear HW;obtain ⟨g3, p3, hV, _, _⟩ := (b8.out _ a1).look j (by rw [a6.out]; omega);rw [a6.out] at hV;injection hV with hV1 hV2 hV3
  subst hV1 hV3;clear hV2;obtain ⟨xX, d0⟩ := exq (kvAt kv j);have d1 : Hid (xX ∈ kv) := by show _ ∈ _; rw [d0]; exact aQ8 kv j (by rw [a6.out]; omega)
  have h3 : Hid (kpAt ks j = xX.1) := by show _ = _; rw [d0, ← g8.out]; exact (aL6 kv j (by rw [a6.out]; omega)).symm
  have d8 : Hid (kv.take (j + 1) = kv.take j ++ [xX]) := by show _ = _; rw [d0]; exact aN6 kv j (by rw [a6.out]; omega)
  have a5 : Hid (∀ W, Bw w W → KpAt W g3 j xX) := fun W hb => by
   obtain ⟨g', p', hV, _, hc⟩ := (b8.out W hb).look j (by rw [a6.out]; omega)
   injection hV with hV1 _ _
   cases hV1
   rw [d0]
   exact hc
  clear d0;obtain ⟨x, d9, e0, e1⟩ := xX;obtain ⟨b2, b3, hu⟩ := aA0 ((b8.out _ a1).names d1.out);have d2 : d9 = .slice b2 x.xs.length b3 := hu;subst d2;clear hu;obtain ⟨b4, b5, hu⟩ := aA0 ((b8.out _ a1).vals d1.out);have d2 : e0 = .slice b4 x.ys.length b5 := hu;subst d2;clear hu;obtain ⟨b6, b7, hu⟩ := aA0 ((b8.out _ a1).flds d1.out);have d2 : e1 = .slice b6 x.fs.length b7 := hu;subst d2;clear hu;have f7 := (a5.out _ a1).c0;have f8 := (a5.out _ a1).c1;have f9 := (a5.out _ a1).c2;have g0 := (a5.out _ a1).c3;have g1 := (a5.out _ a1).c4;have g2 := (a5.out _ a1).c5;have g4 := (a5.out _ a1).c6;have g5 := (a5.out _ a1).c7;have g6 := (a5.out _ a1).c8;dsimp only at f7 f8 f9 g0 g1 g2 g4 g5 g6;go_upto_region 5 with fail
  obtain ⟨q1, e2⟩ := exq (wr.heap.size);obtain ⟨w3, d3⟩ := exq (wr.alloc (.cells #[.string x.p, .slice b2 x.xs.length b3, .slice b4 x.ys.length b5, .int .i64 x.st, .slice b6 x.fs.length b7, .string x.b, .int .i64 x.t, .int .i64 x.a, .int .i64 x.q] 82));have e4 := e2.symm;rw [← d3]; try rw [← e2];have g9 := hsa d3 e4;have bw := bal d3;have d6 := hbt a1 bw;have b0 : Hid (aC0 w3 qm1 j (D)) := aF0 a2.out bw;have a0 := hnew d3 e4;clear a1 bw d3 e4;clear g9 e2;clear f7 f8 f9 g0 g1 g2 g4 g5 g6;have e5 := (k9c a0).1;have e6 := (k9c a0).2.1;have e7 := (k9c a0).2.2.1;have e8 := (k9c a0).2.2.2.1;have e9 := (k9c a0).2.2.2.2.1;have f0 := (k9c a0).2.2.2.2.2.1;have f1 := (k9c a0).2.2.2.2.2.2.1;have f2 := (k9c a0).2.2.2.2.2.2.2.1;have f3 := (k9c a0).2.2.2.2.2.2.2.2;have f4 := b0.out;have K3 := jz K1 d6 (jzn _);unfold aC0 at f4;go_wp2_with (first | (at_mapUpdate; refine wpList_mapUpdate_own _ rfl _ _ _ 141 rfl 3 82 bI3 underlying141 mpR qm1 (j) (D) rfl f4 (by unfold maxLen; omega) _ _ (.int .i64 x.a) rfl rfl (cR5 (f6.out _ d1.out).1 (f6.out _ d1.out).2) (.held (.agg #[.string x.p, .slice b2 x.xs.length b3, .slice b4 x.ys.length b5, .int .i64 x.st, .slice b6 x.fs.length b7, .string x.b, .int .i64 x.t, .int .i64 x.a, .int .i64 x.q])) [] rfl ?_) | go_in)
  intro w4 a7 a3;clear e5 e6 e7 e8 e9 f0 f1 f2 f3;have g7 : Bw w (w4) := d6.grown a3 d6.size (by intro g hg; cases hg; exact b9.out);have h4 := hid a3.size;have b1 : Hid (aC0 w4 qm1 (j + 1) (((D).put (.int .i64 x.a) (.held (.agg #[.string x.p, .slice b2 x.xs.length b3, .slice b4 x.ys.length b5, .int .i64 x.st, .slice b6 x.fs.length b7, .string x.b, .int .i64 x.t, .int .i64 x.a, .int .i64 x.q]))))) := a7;have K4 := jz K3 g7 (jzn _);clear a7 a3 f4 d6 K3
  have h0 : Hid (MapN (D.put (.int .i64 x.a) (.held (kpX (x, .slice b2 x.xs.length b3, .slice b4 x.ys.length b5, .slice b6 x.fs.length b7)))) (kv.take (j + 1))) := by
   show MapN _ _
   rw [d8.out]
   exact a9.out.put (x, .slice b2 x.xs.length b3, .slice b4 x.ys.length b5, .slice b6 x.fs.length b7)
  go_wp2_with fail
  go_roundw
  case rel => exact ⟨j + 1, _, by omega, by go_num, b1.out, h0.out, g7⟩
  case measure => simp [intOf]; omega
theorem aO8 (t : Int) (w : World) :
  Calls prog 168 #[.int .i64 t] w fun e w' => e = .returned (.bool (decide ((0 : Int) ≤ t ∧ t ≤ 1000000))) ∧ w' = w := by
 obtain ⟨D, hD⟩ : ∃ D, D = decide ((0 : Int) ≤ t ∧ t ≤ 1000000) := ⟨_, rfl⟩;rw [← hD];by_cases h1 : 0 ≤ t
 rotate_left
 ·have HD : Hid (D = false) := by show _ = _; rw [hD]; exact decide_eq_false (fun h => h1 h.1)
  clear hD;go_enter func168, ntmps168;go_wp2
  go_ret;exact ⟨by rw [HD.out]; rfl, rfl⟩
 by_cases h2 : t ≤ 1000000
 ·have HD : Hid (D = true) := by show _ = _; rw [hD]; exact decide_eq_true ⟨h1, h2⟩
  clear hD;go_enter func168, ntmps168;go_wp2
  go_ret;exact ⟨by rw [HD.out]; rfl, rfl⟩
 have HD : Hid (D = false) := by show _ = _; rw [hD]; exact decide_eq_false (fun h => h2 h.2)
 clear hD;go_enter func168, ntmps168;go_wp2
 go_ret;exact ⟨by rw [HD.out]; rfl, rfl⟩
theorem bV2 (oa : Oa) (m cm : Nat) (xs : Ts) (w : World) (hx : aB8 w oa m xs) (hm : m ≤ 2000000) (hsz : ∀ i, i < m → (aA7 xs i).size ≤ maxLen) :
  Calls prog 172 #[.slice oa m cm] w fun e w' => aA3 (∀ y ∈ xs, aM0 y) w e w' := by
 have HV : Hid (∀ W, Bw w W → aB8 W oa m xs) := fun W h => hx.below h
 have HL : Hid (xs.length = m) := hx.1;have HS := hid hsz;clear hx hsz;go_enter func172, ntmps172;go_wp2
 go_loopw [7] (fun i wr => ∃ j : Nat, j ≤ m ∧ i = .int .i64 (j : Int) ∧ Hid (Bw w wr) ∧ Hid (∀ x ∈ xs.take j, aM0 x)) (fun i _ => m - (intOf i).toNat)
 case atStart => exact ⟨0, Nat.zero_le _, rfl, Below.refl _ _, fun x hx => by simp at hx⟩
 case round =>
  obtain ⟨j, hj, rfl, HW, HN⟩ := hrel;by_cases hlt : (j : Int) < (m : Int)
  rotate_left
  ·have HA : Hid (∀ y ∈ xs, aM0 y) := by
    have h := HN.out
    rw [List.take_of_length_le (by rw [HL.out]; omega)] at h
    exact h
   clear HN;go_wp2_with fail
   go_ret;exact ⟨true, rfl, ⟨fun _ => HA.out, fun _ => rfl⟩, HW.out⟩
  have a2 : j < xs.length := by rw [HL.out]; omega
  obtain ⟨g, a4, hg, hc⟩ := (HV.out wr HW.out).2 j (by omega);subst a4;have hs := HS.out j (by omega);obtain ⟨x, a0⟩ := exq (aA7 xs j);rw [← a0] at hc hs;have HM : Hid (x ∈ xs) := by show _ ∈ _; rw [a0]; exact aM4 xs j a2
  have a5 : Hid (xs.take (j + 1) = xs.take j ++ [x]) := by show _ = _; rw [aK3 xs j a2, a0]
  clear a0 a2;go_wp2_with fail
  refine (aP1 x _ hs).mono ?_;rintro e a6 ⟨tx, rfl, a1, bw⟩;have a3 : Hid (Bw w a6) := HW.out.trans (bw.mono HW.out.size);clear bw hc HW;cases tx
  ·have HF : Hid (¬ ∀ y ∈ xs, aM0 y) := fun h => nomatch a1.2 (h x HM.out)
   clear a1 HN;go_wp2_with fail
   go_ret;exact aA3.no HF.out a3.out
  have a7 : Hid (∀ y ∈ xs.take (j + 1), aM0 y) := by
   intro y hy
   rw [a5.out] at hy
   rcases List.mem_append.1 hy with hy | hy
   ·exact HN.out y hy
   ·rw [List.mem_singleton.1 hy]; exact a1.1 rfl
  clear a1 HN;go_wp2_with fail
  go_roundw
  case rel => exact ⟨j + 1, by omega, by go_num, a3, a7⟩
  case measure => simp [intOf]; omega
theorem bC1 (oa ob : Oa) (m cm k ck : Nat) (xs ys : Ts) (w : World) (hx : aB8 w oa m xs) (hm : m ≤ 2000000) (hy : aB8 w ob k ys) (hk : k ≤ 2000000) :
  Calls prog 169 #[.slice oa m cm, .slice ob k ck] w fun e w' => e = .returned (.bool (decide (xs = ys))) ∧ Below w.heap.size w w' := by
 by_cases hmk : m = k
 rotate_left
 ·refine (Tryz.slices_Equal_string_lens oa ob m cm k ck w hmk).mono ?_;rintro e w1 ⟨rfl, rfl⟩;refine ⟨?_, Below.refl _ _⟩;rw [decide_eq_false (fun h => hmk (by rw [← hx.1, ← hy.1, h]))]
 subst hmk;by_cases h0 : m = 0
 ·subst h0;refine (Tryz.slices_Equal_string_empty oa ob cm 0 ck w (by omega)).mono ?_;rintro e w1 ⟨rfl, rfl⟩;refine ⟨?_, Below.refl _ _⟩;rw [List.length_eq_zero_iff.1 hx.1, List.length_eq_zero_iff.1 hy.1];simp
 obtain ⟨g, rfl, _, _⟩ := hx.2 0 (by omega);obtain ⟨q, rfl, _, _⟩ := hy.2 0 (by omega);refine (Tryz.slices_Equal_string g 0 m cm q 0 m ck xs ys w (by rw [hx.1]; exact Nat.le_refl _) (by rw [hy.1]; exact Nat.le_refl _) (by omega) (by omega) (fun j hj => ?_) (fun j hj => ?_)).mono ?_
 ·obtain ⟨g2, e2, _, h3⟩ := hx.2 j (by rw [← hx.1]; exact hj);cases e2
  rw [Nat.zero_add];exact h3
 ·obtain ⟨g2, e2, _, h3⟩ := hy.2 j (by rw [← hy.1]; exact hj);cases e2
  rw [Nat.zero_add];exact h3
 rintro e w1 ⟨rfl, n, rfl⟩;refine ⟨?_, ⟨rfl, rfl, rfl, Nat.le_refl _, fun _ _ => rfl⟩⟩
 rw [List.take_of_length_le (by rw [hx.1]; exact Nat.le_refl _), List.take_of_length_le (by rw [hy.1]; exact Nat.le_refl _)]
attribute [local go_sem] Oper.semAt_some
theorem bK8 (v : Value) (n base : Nat) (fs : Fs) (w : World) (hv : aB2 w base v n fs) (hn : n ≤ 1073741824) (hcp : aR5 fs) (hsz : (getV fs aE9).size ≤ 1048576) :
  Calls prog 170 #[v] w fun e w' => aY3 w.heap.size (bE0 fs) w e w' := by
 obtain ⟨s, hs⟩ := exq (getV fs aE9);have HS : Hid (getV fs aE9 = s) := hs.symm;have HE : Hid (bE0 fs = (aO3 s).map aK7) := by show _ = _; unfold bE0; rw [HS.out]
 rw [← hs] at hsz;have a2 := (bG3 s).1;clear hs;go_enter func170, ntmps170;go_wp2_with fail
 refine (bH3 v n base fs aE9 _ hv hn hcp).mono ?_;rintro e w1 ⟨rfl, b1⟩;rw [HS.out];clear hv;go_wp2_with fail
 refine (bO3 s _ hsz).mono ?_;rintro e w2 ⟨V, rfl, O, b2⟩;obtain ⟨xs, a3⟩ := exq (aO3 s);rw [← a3] at a2 O HE;obtain ⟨m, hm⟩ := exq xs.length;rw [← hm] at a2 O;have HM : Hid (xs.length = m) := hm.symm;have O := bS2 O b1.size;have b2 : Bw w w2 := b1.trans (b2.mono b1.size);clear a3 hm b1;rcases aQ4 O with ⟨oa, ca, rfl, h0, h1⟩ | ⟨g, cap, rfl, hp, r1⟩
 ·subst h0 h1;go_wp2_with fail
  refine wp_loop_rounds 1 ?_;rw [rounds_succ];go_wp2_with fail
  go_ret;exact aY3.of (by rw [HE.out]; rfl) rfl O b2
 clear O;have a5 : Hid (Bw w w2) := b2;have a6 : Hid (aF2 w.heap.size w2 g m cap (loTo xs 0)) := by show aF2 _ _ _ _ _ _; rw [bT3]; exact r1
 clear b2 r1;go_wp2_with fail
 go_loopw [17] (fun i wr => ∃ j : Nat, j ≤ m ∧ i = .int .i64 (j : Int) ∧ Hid (Bw w wr) ∧ Hid (aF2 w.heap.size wr g m cap (loTo xs j))) (fun i _ => m - (intOf i).toNat)
 case atStart => exact ⟨0, Nat.zero_le _, rfl, a5, a6⟩
 case round =>
  obtain ⟨j, hj, rfl, HB, HR⟩ := hrel;by_cases hlt : j < m
  rotate_left
  ·obtain rfl : j = m := by omega
   go_wp2_with fail
   go_ret;exact aY3.of (by rw [HE.out, bE9 xs j (by rw [HM.out]; exact Nat.le_refl _)]) (by rw [bE9 xs j (by rw [HM.out]; exact Nat.le_refl _), List.length_map, HM.out]) HR.out.owns HB.out
  have a7 : (j : Int) < (m : Int) := by omega
  obtain ⟨x, hx⟩ := exq (aA7 xs j);have hc := HR.out.cell j hlt;rw [cK4, ← hx] at hc;have a4 : Hid ((loTo xs j).set j (aK7 x) = loTo xs (j + 1)) := by show _ = _; rw [hx]; exact bT4 xs j (by rw [HM.out]; exact hlt)
  clear hx;go_wp2_with fail
  refine (bN8 x _).mono ?_;rintro e w3 ⟨rfl, a1⟩;have a0 := HR.out.below a1 HR.out.lt;have b0 := a0.cell j hlt;have b3 := a0.frozen j;have a8 : Hid (Bw w (w3.setCell ⟨g, j, none⟩ (.string (aK7 x)))) := (HB.out.trans (a1.mono HB.out.size)).setCell HR.out.base _
  have a9 : Hid (aF2 w.heap.size (w3.setCell ⟨g, j, none⟩ (.string (aK7 x))) g m cap (loTo xs (j + 1))) := by
   show aF2 _ _ _ _ _ _
   rw [← a4.out]
   exact a0.set j hlt _
  clear a1 a0 HB HR a4 hc;go_wp2_with fail
  go_roundw
  case rel => exact ⟨j + 1, by omega, by go_num, a8, a9⟩
  case measure => simp [intOf]; omega
theorem cA1 (oa : Oa) (m cm : Nat) (xs : Ts) (w : World) (hx : aB8 w oa m xs) (hm : m ≤ 2000000) (hsz : ∀ i, i < m → (aA7 xs i).size ≤ maxLen) :
  Calls prog 171 #[.slice oa m cm] w fun e w' => aA3 (aX8 xs) w e w' := by
 by_cases h4 : (4 : Int) < (m : Int)
 ·have HF : Hid (¬ aX8 xs) := fun h => by have := h.2; rw [hx.1] at this; omega
  clear hx hsz;go_enter func171, ntmps171;go_wp2_with fail
  go_ret;exact aA3.no HF.out (Below.refl _ _)
 have HX : Hid (∀ W, Bw w W → aB8 W oa m xs) := fun W h => hx.below h
 have HL : Hid (xs.length = m) := hx.1;have HS := hid hsz;clear hx hsz;go_enter func171, ntmps171;go_wp2_with fail
 go_loopw [10] (fun i wr => ∃ j : Nat, j ≤ m ∧ i = .int .i64 (j : Int) ∧ Bw w wr ∧ Hid (∀ x ∈ xs.take j, aL9 x)) (fun i _ => m - (intOf i).toNat)
 case atStart => exact ⟨0, Nat.zero_le _, rfl, Below.refl _ _, fun x hx => by simp at hx⟩
 case round =>
  obtain ⟨j, hj, rfl, a0, HN⟩ := hrel;by_cases hlt : (j : Int) < (m : Int)
  rotate_left
  ·have HQ : Hid (aX8 xs) := ⟨by
    have h := HN.out
    rw [List.take_of_length_le (by rw [HL.out]; omega)] at h
    exact h, by rw [HL.out]; omega⟩
   clear HN;go_wp2_with fail
   go_ret;exact ⟨true, rfl, ⟨fun _ => HQ.out, fun _ => rfl⟩, a0⟩
  have a2 : j < xs.length := by rw [HL.out]; omega
  obtain ⟨g, rfl, hg, hc⟩ := (HX.out wr a0).2 j (by omega);have hs := HS.out j (by omega);obtain ⟨x, a1⟩ := exq (aA7 xs j);rw [← a1] at hc hs;have HM : Hid (x ∈ xs) := by show _ ∈ _; rw [a1]; exact aM4 xs j a2
  have HT : Hid (xs.take (j + 1) = xs.take j ++ [x]) := by show _ = _; rw [aK3 xs j a2, a1]
  clear a1 a2;go_wp2_with fail
  refine (aO9 x _ hs).mono ?_;rintro e w1 ⟨t, rfl, ht, b1⟩;have a3 : Bw w w1 := a0.trans (b1.mono a0.size);clear b1 a0 hc;cases t
  ·have HF : Hid (¬ aX8 xs) := fun h => nomatch ht.2 (h.1 x HM.out)
   clear ht HN;go_wp2_with fail
   go_ret;exact aA3.no HF.out a3
  have a4 : Hid (∀ y ∈ xs.take (j + 1), aL9 y) := by
   intro y hy
   rw [HT.out] at hy
   rcases List.mem_append.1 hy with hy | hy
   ·exact HN.out y hy
   ·rw [List.mem_singleton.1 hy]; exact ht.1 rfl
  clear ht HN;go_wp2_with fail
  go_roundw
  case rel => exact ⟨j + 1, by omega, by go_num, a3, a4⟩
  case measure => simp [intOf]; omega
theorem cA2 (v : Value) (n base : Nat) (fs : Fs) (k : Nat) (w : World) (hv : aB2 w base v n fs) (hn : n ≤ 1073741824) (hk : k < n) (hs1 : (aC8 fs k).size ≤ maxLen) (hs2 : (aH1 fs k).size ≤ maxLen) :
  Calls prog 279 #[v, .int .i64 (k : Int)] w fun e w' => aA3 (bD7 fs k) w e w' := by
 have HV : Hid (∀ W, Bw w W → aB2 W base v n fs) := fun W h => hv.below h
 obtain ⟨oa, b8, rfl, a2⟩ := hv.slice;obtain ⟨g, rfl, a7⟩ := a2 k hk;have b6 : (k : Int) < (n : Int) := by omega
 have a8 := a7.name k hk;have a9 := a7.val k hk;obtain ⟨nm, b0⟩ := exq (aC8 fs k);obtain ⟨vl, b3⟩ := exq (aH1 fs k);have HO : Hid (bD7 fs k ↔ aL9 nm ∧ aM0 vl ∧ atF fs nm = k ∧ nm ≠ clen) := by rw [b0, b3]; exact Iff.rfl
 rw [← b0] at a8 hs1;rw [← b3] at a9 hs2;clear hv a2 a7 b0 b3;obtain ⟨r, hr⟩ := exq (w.heap.size);have h0 : (w.alloc (.cells #[.string nm, .string vl] 184)).heap.size = w.heap.size + 1 := by simp
 have a4 : Hid (Bw w (w.alloc (.cells #[.string nm, .string vl] 184)) ∧ w.heap.size ≤ (w.alloc (.cells #[.string nm, .string vl] 184)).heap.size) := ⟨(Below.refl _ w).alloc (Nat.le_refl _) _, by omega⟩
 have HR : Hid (∀ W, Below (w.alloc (.cells #[.string nm, .string vl] 184)).heap.size (w.alloc (.cells #[.string nm, .string vl] 184)) W → W.cell? ⟨r, 0, none⟩ = some (.string nm) ∧ W.cell? ⟨r, 1, none⟩ = some (.string vl)) := fun W h => by
  have hh : W.heap[r]? = some (.cells #[.string nm, .string vl] 184) := by rw [hr, h.block _ (by omega)]; exact heap_alloc_new w _
  exact ⟨by simp [World.cell?, hh], by simp [World.cell?, hh]⟩
 go_enter func279, ntmps279;go_wp2_with fail
 refine (aO9 nm _ hs1).mono ?_;rintro e w1 ⟨b1, rfl, a5, a1⟩;rw [← hr];have b4 : Bw w w1 := a4.out.1.trans (a1.mono a4.out.2);obtain ⟨d1, d2⟩ := HR.out w1 a1;clear h0;cases b1
 ·have HF : Hid (¬ bD7 fs k) := fun h => by have := a5.2 (HO.out.1 h).1; cases this
  clear a5 a8 a9 a1 hr;go_wp2_with fail
  go_ret;exact aA3.no HF.out b4
 have HT : Hid (aL9 nm) := a5.1 rfl;clear a5 a8 a9 hr;go_wp2_with fail
 refine (aP1 vl _ hs2).mono ?_;rintro e w2 ⟨b2, rfl, a6, b5⟩;have a0 := a1.trans (b5.mono a1.size);have a3 : Bw w w2 := a4.out.1.trans (a0.mono a4.out.2);obtain ⟨d3, d4⟩ := HR.out w2 a0;cases b2
 ·have HF : Hid (¬ bD7 fs k) := fun h => by have := a6.2 (HO.out.1 h).2.1; cases this
  clear a6 a1 b5 a0 b4 d1 d2;go_wp2_with fail
  go_ret;exact aA3.no HF.out a3
 have b7 : Hid (aM0 vl) := a6.1 rfl;clear a6 a1 b5 a0 b4 d1 d2;by_cases hcl : nm = clen
 ·have ht := (aH6 _ _).2 hcl;rw [aZ3] at ht;have HF : Hid (¬ bD7 fs k) := fun h => (HO.out.1 h).2.2.2 hcl
  clear hcl;go_wp2_with fail
  go_ret;exact aA3.no HF.out a3
 have ht := aF6 hcl;rw [aZ3] at ht;have HC := hid hcl;clear hcl;go_wp2_with fail
 refine (bH2 _ n base fs nm _ (HV.out w2 a3) hn).mono ?_;rintro e w3 ⟨rfl, rfl⟩;by_cases hat : atF fs nm = k
 ·have HY : Hid (bD7 fs k) := HO.out.2 ⟨HT.out, b7.out, hat, HC.out⟩;rw [hat];clear hat;go_wp2
  go_ret;exact aA3.yes HY.out a3
 have HF : Hid (¬ bD7 fs k) := fun h => hat (HO.out.1 h).2.2.1
 have b9 : ((atF fs nm : Int) == (k : Int)) = false := by rw [beq_eq_false_iff_ne]; omega
 clear hat;go_wp2
 go_ret;exact aA3.no HF.out a3
theorem cW5 (v : Value) (n base : Nat) (fs : Fs) (w : World) (hv : aB2 w base v n fs) (hn : n ≤ 1073741824) (hsz : ∀ i, i < n → (aC8 fs i).size ≤ maxLen ∧ (aH1 fs i).size ≤ maxLen) :
  Calls prog 263 #[v] w fun e w' => aA3 (aK5 fs) w e w' := by
 have hl := hv.len;have HV : Hid (∀ W, Bw w W → aB2 W base v n fs) := fun W h => hv.below h
 have HS := hid hsz;obtain ⟨oa, a9, rfl, a3⟩ := hv.slice;clear hv a3 hsz;by_cases h8 : (8 : Int) < (n : Int)
 ·have HF : Hid (¬ aK5 fs) := fun h => by have := h.1; omega
  go_enter func263, ntmps263;go_wp2
  go_ret;exact aA3.no HF.out (Below.refl _ _)
 go_enter func263, ntmps263;go_wp2
 go_loopw [9] (fun i wr => ∃ k : Nat, k ≤ n ∧ i = .int .i64 (k : Int) ∧ Hid (∀ j, j < k → bD7 fs j) ∧ Bw w wr) (fun i _ => n - (intOf i).toNat)
 case atStart => exact ⟨0, Nat.zero_le _, rfl, fun j h => absurd h (by omega), Below.refl _ _⟩
 case round =>
  obtain ⟨k, hk, rfl, a0, a1⟩ := hrel;by_cases hlt : k < n
  rotate_left
  ·have HF : Hid (aK5 fs) := ⟨by omega, fun i hi => a0.out i (by omega)⟩
   go_wp2
   go_ret;exact aA3.yes HF.out a1
  have a6 : (k : Int) < (n : Int) := by omega
  obtain ⟨a7, a8⟩ := HS.out k hlt;go_wp2_with fail
  refine (cA2 _ n base fs k _ (HV.out wr a1) hn hlt a7 a8).mono ?_;rintro e w1 ⟨b1, rfl, a2, a4⟩;have a5 : Bw w w1 := a1.trans (a4.mono a1.size);cases b1
  ·have HF : Hid (¬ aK5 fs) := fun h => by have := a2.2 (h.2 k (by omega)); cases this
   clear a2 a4;go_wp2
   go_ret;exact aA3.no HF.out a5
  have HY : Hid (bD7 fs k) := a2.1 rfl;clear a2 a4;go_wp2
  go_roundw
  case rel =>
   refine ⟨k + 1, by omega, by go_num, ?_, a5⟩;intro j hj;by_cases e : j = k
   ·subst e; exact HY.out
   exact a0.out j (by omega)
  case measure => simp [intOf]; omega
theorem cP3 (n : Int) : aT4 n ↔ (cls n ≠ 4 ∧ cls n ≠ 7) := by
 have := aM9 n;unfold aT4;constructor
 ·intro h; omega
 intro h; omega
theorem bM4 {n : Int} (h : aT4 n) : n < 128 := by unfold aT4 at h; omega
theorem bK9 (r : Int) (w : World) :
  Calls prog 201 #[.int .i32 r] w fun e w' => aA3 (aT4 r) w e w' := by
 have HP : Hid (aT4 r ↔ (cls r ≠ 4 ∧ cls r ≠ 7)) := cP3 r;go_enter func201, ntmps201;go_wp2_with fail
 refine (aH5 r _).mono ?_;rintro e w1 ⟨rfl, hb⟩;generalize cls r = c at HP ⊢;by_cases h4 : c = 4
 ·have HN : Hid (¬ aT4 r) := fun h => (HP.out.1 h).1 h4
  subst h4;go_wp2_with fail
  go_ret;exact aA3.no HN.out hb
 have h5 : (c != 4) = true := by rw [bne_iff_ne]; exact h4
 by_cases h7 : c = 7
 ·have HN : Hid (¬ aT4 r) := fun h => (HP.out.1 h).2 h7
  subst h7;go_wp2_with fail
  go_ret;exact aA3.no HN.out hb
 have h8 : (c != 7) = true := by rw [bne_iff_ne]; exact h7
 have HY : Hid (aT4 r) := HP.out.2 ⟨h4, h7⟩;go_wp2_with fail
 go_ret;exact aA3.yes HY.out hb
theorem bQ4 (s : Tx) (w : World) :
  Calls prog 200 #[.string s, .func (.func 201) #[] #[]] w fun e w' => aA3 (AllB aT4 s) w e w' := by
 go_enter func200, ntmps200;go_wp2
 go_loopw [6] (fun _ wr => ∃ pos : Nat, wr.heap[w.heap.size]? = some (.stringIter s pos) ∧ Bw w wr ∧ Hid (bK0 aT4 s pos)) (fun _ wr => s.size - wr.iterPos w.heap.size)
 case atStart => exact ⟨0, World.iter_heap _ _ _, (Below.refl _ _).alloc (Nat.le_refl _) _, aO5 _ _⟩
 case round =>
  obtain ⟨pos, hh, a2, a0⟩ := hrel;by_cases hp : pos < s.size
  rotate_left
  ·have a5 := fun ty => run_next_end_at (P := prog) wr w.heap.size s pos ty hh hp
   go_wp2
   go_ret;exact aA3.yes (aS0 a0.out hp) a2
  have a5 := fun ty => run_next_any_at (P := prog) wr w.heap.size s pos ty hh hp
  go_wp2_with (go_at_call 201; refine (bK9 _ _).mono ?_; rintro e w1 ⟨b, rfl, hbt, a3⟩)
  ·have a1 : b = false := by simpa using ‹(!b) = true›
   have a6 : ¬ aT4 ((Utf8.decode s pos).1 : Int) := fun h => by rw [hbt.2 h] at a1; cases a1
   go_ret;exact aA3.no (bX3 (fun _ => bM4) s pos hp a6) (aJ6 hh a2 a3).2
  have a1 : b = true := by simpa using ‹(!b) = false›
  obtain ⟨hv, a4⟩ := bX2 (fun _ => bM4) s pos hp (hbt.1 a1)
  rw [a4] at a3;obtain ⟨h1, h2⟩ := aJ6 hh a2 a3;exact ⟨⟨pos + 1, h1, h2, aO6 a0.out hp hv⟩, by rw [iterPos_of h1, iterPos_of hh]; omega⟩
theorem bC2 (s : Tx) (w : World) (hs : s.size ≤ maxLen) :
  Calls prog 167 #[.string s] w fun e w' => aA3 (aH9 s) w e w' := by
 unfold maxLen at hs;by_cases h1 : (1 : Int) ≤ (s.size : Int)
 rotate_left
 ·have HN : Hid (¬ aH9 s) := fun h => by obtain ⟨_, h5, _⟩ := h; omega
  have hd : decide ((1 : Int) ≤ (s.size : Int)) = false := by simpa using h1
  go_enter func167, ntmps167;go_wp2_with fail
  go_ret;exact aA3.no HN.out (Below.refl _ _)
 have h0 : 0 < s.size := by omega
 by_cases h2 : (s.size : Int) ≤ 60
 rotate_left
 ·have HN : Hid (¬ aH9 s) := fun h => by obtain ⟨_, _, h5, _⟩ := h; omega
  have hd : decide ((s.size : Int) ≤ 60) = false := by simpa using h2
  go_enter func167, ntmps167;go_wp2_with fail
  go_ret;exact aA3.no HN.out (Below.refl _ _)
 by_cases h3 : ((s[0]'h0).toNat : Int) = 47
 rotate_left
 ·have h4 : (((s[0]'h0).toNat : Int) == 47) = false := by rw [beq_eq_false_iff_ne]; exact h3
  have HN : Hid (¬ aH9 s) := fun h => by obtain ⟨_, _, _, _, h5⟩ := h; omega
  clear h3;go_enter func167, ntmps167;go_wp2_with fail
  go_ret;exact aA3.no HN.out (Below.refl _ _)
 have h4 : (((s[0]'h0).toNat : Int) == 47) = true := by rw [beq_iff_eq]; exact h3
 have H3 : Hid ((s[0]'h0).toNat = 47) := by show _ = _; omega
 clear h3;go_enter func167, ntmps167;go_wp2_with fail
 refine (bQ4 s _).mono ?_;rintro e w1 ⟨b, rfl, hbt, a0⟩;cases b
 ·have HN : Hid (¬ aH9 s) := fun h => by have := hbt.2 h.1; cases this
  clear hbt;go_wp2_with fail
  go_ret;exact aA3.no HN.out a0
 have HY : Hid (aH9 s) := ⟨hbt.1 rfl, by omega, by omega, h0, H3.out⟩;clear hbt;go_wp2_with fail
 go_ret;exact aA3.yes HY.out a0
def cP4 (fs : Fs) (b : Tx) : Prop := aK5 fs ∧ b.size ≤ 120
theorem cH0 (v : Value) (b : Tx) (n base : Nat) (fs : Fs) (w : World) (hv : aB2 w base v n fs) (hn : n ≤ 1073741824) (hsz : aK2 n fs) (hb : b.size ≤ maxLen) :
  Calls prog 234 #[.agg #[v, .string b]] w fun e w' => aA3 (cP4 fs b) w e w' := by
 obtain ⟨oa, a1, rfl, _⟩ := hv.slice;obtain ⟨r, hr⟩ := exq (w.heap.size)
 have HR : Hid (∀ W, Below (w.alloc (.cells #[.slice oa n a1, .string b] 235)).heap.size (w.alloc (.cells #[.slice oa n a1, .string b] 235)) W → (W.cell? ⟨r, 0, none⟩ = some (.slice oa n a1) ∧ W.cell? ⟨r, 1, none⟩ = some (.string b)) ∧ aB2 W base (.slice oa n a1) n fs ∧ Bw w W) := fun W h => by
  have hh := aT6 h
  rw [← hr] at hh
  exact ⟨⟨by simp [World.cell?, hh], by simp [World.cell?, hh]⟩, hv.below (aF8 h), aF8 h⟩
 obtain ⟨_, a3, _⟩ := HR.out _ (Below.refl _ _);unfold maxLen at hb;go_enter func234, ntmps234;go_wp2_with fail
 refine (cW5 _ n base fs _ a3 hn hsz).mono ?_;rintro e w1 ⟨b1, rfl, a2, a4⟩;rw [← hr];obtain ⟨⟨c0, c1⟩, _, a0⟩ := HR.out w1 a4;clear hv a3 hsz a4 hr;cases b1
 ·have HF : Hid (¬ cP4 fs b) := fun h => by have := a2.2 h.1; cases this
  clear a2;go_wp2_with fail
  go_ret;exact aA3.no HF.out a0
 have HT : Hid (aK5 fs) := a2.1 rfl;clear a2;by_cases h120 : (b.size : Int) ≤ 120
 ·have HY : Hid (cP4 fs b) := ⟨HT.out, by omega⟩;go_wp2_with fail
  go_ret;exact aA3.yes HY.out a0
 have HF : Hid (¬ cP4 fs b) := fun h => by have := h.2; omega
 have hd : decide ((b.size : Int) ≤ 120) = false := by simpa using h120
 go_wp2_with fail
 go_ret;exact aA3.no HF.out a0
theorem bM5 (st : Int) (v : Value) (b : Tx) (n base : Nat) (fs : Fs) (w : World) (hv : aB2 w base v n fs) (hn : n ≤ 1073741824) (hsz : aK2 n fs) (hb : b.size ≤ maxLen) :
  Calls prog 199 #[.agg #[v, .string b, .int .i64 st]] w fun e w' => aA3 (aM3 st fs b) w e w' := by
 obtain ⟨oa, a2, rfl, _⟩ := hv.slice;obtain ⟨r, hr⟩ := exq (w.heap.size)
 have HR : Hid (∀ W, Below (w.alloc (.cells #[.slice oa n a2, .string b, .int .i64 st] 237)).heap.size (w.alloc (.cells #[.slice oa n a2, .string b, .int .i64 st] 237)) W → (W.cell? ⟨r, 0, none⟩ = some (.slice oa n a2) ∧ W.cell? ⟨r, 1, none⟩ = some (.string b) ∧ W.cell? ⟨r, 2, none⟩ = some (.int .i64 st)) ∧ aB2 W base (.slice oa n a2) n fs ∧ Bw w W) := fun W h => by
  have hh := aT6 h
  rw [← hr] at hh
  exact ⟨⟨by simp [World.cell?, hh], by simp [World.cell?, hh], by simp [World.cell?, hh]⟩, hv.below (aF8 h), aF8 h⟩
 obtain ⟨_, a4, a0⟩ := HR.out _ (Below.refl _ _);have a6 := hid a4;have a7 := hid hsz;have a8 := hid hb;clear hv a4 hsz hb;by_cases h1 : 100 ≤ st
 rotate_left
 ·have HF : Hid (¬ aM3 st fs b) := fun h => h1 h.1.1
  have hd : decide (100 ≤ st) = false := by simpa using h1
  go_enter func199, ntmps199;go_wp2_with fail
  go_ret;exact aA3.no HF.out a0
 by_cases h2 : st ≤ 599
 rotate_left
 ·have HF : Hid (¬ aM3 st fs b) := fun h => h2 h.1.2
  have hd : decide (st ≤ 599) = false := by simpa using h2
  go_enter func199, ntmps199;go_wp2_with fail
  go_ret;exact aA3.no HF.out a0
 go_enter func199, ntmps199;go_wp2_with fail
 refine (cH0 _ b n base fs _ a6.out hn a7.out a8.out).mono ?_;rintro e w3 ⟨b2, rfl, a3, a5⟩;obtain ⟨_, _, a1⟩ := HR.out w3 a5;clear a5 a0;cases b2
 ·have HF : Hid (¬ aM3 st fs b) := fun h => by have := a3.2 h.2; cases this
  clear a3;go_wp2_with fail
  go_ret;exact aA3.no HF.out a1
 have HY : Hid (aM3 st fs b) := ⟨⟨h1, h2⟩, a3.1 rfl⟩;clear a3;go_wp2_with fail
 go_ret;exact aA3.yes HY.out a1
theorem bD4 (m : Int) (oa : Oa) (n cap : Nat) (b : Tx) (w : World) :
  Calls prog 198 #[.agg #[.int .i64 m, .slice oa n cap, .string b]] w fun e w' => e = .returned (.agg #[.slice oa n cap, .string b, .int .i64 m]) ∧ Below w.heap.size w w' := by
 go_enter func198, ntmps198;go_wp2
 exact bodyPost_ret (v := .agg #[.slice oa n cap, .string b, .int .i64 m]) (by simp [results, results198, go_sem]) rfl ⟨rfl, ((Below.refl _ _).alloc (Nat.le_refl _) _).alloc (by simp) _⟩
theorem bL0 (m : Int) (v : Value) (b : Tx) (n base : Nat) (fs : Fs) (w : World) (hv : aB2 w base v n fs) (hn : n ≤ 1073741824) (hsz : aK2 n fs) (hb : b.size ≤ maxLen) :
  Calls prog 166 #[.agg #[.int .i64 m, v, .string b]] w fun e w' => aA3 (aM3 m fs b) w e w' := by
 obtain ⟨oa, a2, rfl, _⟩ := hv.slice;have a1 : Bw w (w.alloc (.cells #[.int .i64 m, .slice oa n a2, .string b] 49)) := (Below.refl _ _).alloc (Nat.le_refl _) _;go_enter func166, ntmps166;go_wp2_with fail
 refine (bD4 m oa n a2 b _).mono ?_;rintro e w1 ⟨rfl, a3⟩;have a0 : Bw w w1 := a1.trans (a3.mono a1.size);have a4 := hv.below a0;clear a3 a1 hv;go_wp2_with fail
 refine (bM5 m _ b n base fs _ a4 hn hsz hb).mono ?_;rintro e w2 ⟨b1, rfl, kb, a5⟩;have a6 : Bw w w2 := a0.trans (a5.mono a0.size);have HK : Hid (b1 = true ↔ aM3 m fs b) := kb;clear a4 hsz hb a5 a0 kb;go_wp2_with fail
 go_ret;exact ⟨b1, rfl, HK.out, a6⟩
theorem aL7 (p : Tx) (o1 : Oa) (n1 c1 : Nat) (xs : Ts) (o2 : Oa) (n2 c2 : Nat) (ys : Ts) (st : Int) (v3 : Value) (n3 base : Nat) (fs : Fs) (b : Tx) (t : Int) (w : World) (h1 : aB8 w o1 n1 xs) (h2 : aB8 w o2 n2 ys) (h3 : aB2 w base v3 n3 fs) (hn1 : n1 ≤ 2000000) (hn2 : n2 ≤ 2000000) (hn3 : n3 ≤ 2000000) (hs1 : ∀ i, i < n1 → (aA7 xs i).size ≤ maxLen) (hs2 : ∀ i, i < n2 → (aA7 ys i).size ≤ maxLen) (hs3 : aK2 n3 fs) (hc : aR5 fs) (hp : p.size ≤ maxLen) (hx : b.size ≤ maxLen) (hg : (getV fs aE9).size ≤ 1048576) :
  Calls prog 107 #[.agg #[.string p, .slice o1 n1 c1, .slice o2 n2 c2, .int .i64 st, v3, .string b, .int .i64 t]] w fun e w' => aA3 (ObjP p xs ys st fs b t) w e w' := by
 obtain ⟨o3, c3, rfl, _⟩ := h3.slice;have c6 : Hid (∀ W, Bw w W → aB8 W o1 n1 xs) := fun W h => h1.below h
 have d2 : Hid (∀ W, Bw w W → aB8 W o2 n2 ys) := fun W h => h2.below h
 have c7 : Hid (∀ W, Bw w W → aB2 W base (.slice o3 n3 c3) n3 fs) := fun W h => h3.below h
 have c8 : Hid (xs.length = n1) := h1.1;have c9 : Hid (ys.length = n2) := h2.1;have d3 := hid hs1;have d4 := hid hs2;have d5 := hid hs3;have HC : Hid (aR5 fs) := hc;have d6 := hid hp;have HX := hid hx;have HG := hid hg;obtain ⟨vl, b3⟩ := exq (bE0 fs);have b4 : Hid (bE0 fs = vl) := b3.symm
 have d7 : Hid (vl.length ≤ 2000000) := by
  show _ ≤ _
  have e0 := bG3 (getV fs aE9)
  rw [b3]
  unfold bE0
  rw [List.length_map]
  omega
 clear h1 h2 h3 hs1 hs2 hs3 hc hp hx hg b3;have K0 := jnil w;go_enter func107, ntmps107;go_upto_region 1 with fail
 obtain ⟨q1, b5⟩ := exq (w.heap.size);obtain ⟨w1, a7⟩ := exq (w.alloc (.cells #[.string p, .slice o1 n1 c1, .slice o2 n2 c2, .int .i64 st, .slice o3 n3 c3, .string b, .int .i64 t] 51));have b6 := b5.symm;rw [← a7]; try rw [← b5];have hs1 := hsa a7 b6;have bw := bal a7;have K1 := ja K0 a7 b6;clear bw a7 b6 K0;clear hs1 b5;have b7 := c7c (jb K1 0 rfl);go_wp2_with fail
 refine (bL0 st _ b n3 base fs _ (c7.out _ K1.hb) (by omega) d5.out HX.out).mono ?_;rintro e w2 ⟨u1, rfl, a2, bw⟩;have K2 := jw K1 bw;clear bw K1;clear b7;cases u1
 ·have HF : Hid (¬ ObjP p xs ys st fs b t) := fun h => nomatch a2.2 h.1
  clear a2;go_wp2_with fail
  go_ret;exact aA3.no HF.out K2.hb
 have HR : Hid (aM3 st fs b) := a2.1 rfl;clear a2;have b8 := c7c (jb K2 0 rfl);go_wp2_with fail
 refine (bC2 p _ d6.out).mono ?_;rintro e w3 ⟨u2, rfl, a3, bw⟩;have K3 := jw K2 bw;clear bw K2;clear b8;cases u2
 ·have HF : Hid (¬ ObjP p xs ys st fs b t) := fun h => nomatch a3.2 h.2.1
  clear a3;go_wp2_with fail
  go_ret;exact aA3.no HF.out K3.hb
 have HP : Hid (aH9 p) := a3.1 rfl;clear a3;have b9 := c7c (jb K3 0 rfl);go_wp2_with fail
 refine (aO8 t _).mono ?_;rintro e w4 ⟨rfl, d0⟩;have bw : Below w3.heap.size (w3) w4 := by rw [d0]; exact Below.refl _ _
 clear d0;obtain ⟨u3, a8⟩ : ∃ u3, u3 = decide ((0 : Int) ≤ t ∧ t ≤ 1000000) := ⟨_, rfl⟩;rw [← a8];have K4 := jw K3 bw;clear bw K3;clear b9;cases u3
 ·have HF : Hid (¬ ObjP p xs ys st fs b t) := fun h => absurd h.2.2.1 (of_decide_eq_false a8.symm)
  clear a8;go_wp2_with fail
  go_ret;exact aA3.no HF.out K4.hb
 have HT : Hid (0 ≤ t ∧ t ≤ 1000000) := (show 0 ≤ t ∧ t ≤ 1000000 from of_decide_eq_true a8.symm);clear a8;go_upto_region 3 with fail
 refine wp_region_held_drew (S := fun W => W.heap[q1]? = some (.cells #[.string p, .slice o1 n1 c1, .slice o2 n2 c2, .int .i64 st, .slice o3 n3 c3, .string b, .int .i64 t] 51)) (by kernel_rfl) (jb K4 0 rfl) (fun _ => ?_)
 obtain ⟨w5, hX⟩ := exq w4.drew;have bw := bdr hX;rw [← hX];have K5 := jw K4 bw;have a6 := (jb K5 0 rfl);clear bw hX K4;refine tkP 0 (.pointer (some ⟨q1, 1, none⟩)) 20 rfl rfl a6 ?_;go_frame;refine tkL 1 (.slice o1 n1 c1) 21 rfl rfl (Or.inl ⟨by rfl, by intro W hW; have a0 := hW; have y1 := c7c a0; go_simp⟩) a6 ?_;go_frame;refine tkP 2 (.pointer (some ⟨q1, 3, none⟩)) 22 rfl rfl a6 (tkP 3 (.pointer (some ⟨q1, 4, none⟩)) 23 rfl rfl a6 ?_);go_frame;refine tkL 4 (.slice o3 n3 c3) 24 rfl rfl (Or.inl ⟨by rfl, by intro W hW; have a0 := hW; have y4 := c7c a0; go_simp⟩) a6 ?_;go_frame;refine rd1 5 rfl (fun K hK => ?_)
 go_simp;refine (bK8 _ n3 base fs _ (c7.out _ K5.hb) (by omega) HC.out HG.out).mono ?_;rintro e w6 ⟨vv, rfl, a4, bw⟩;obtain ⟨oY, pY, rfl⟩ := aA0 a4;rw [b4.out] at a4 ⊢;have K6 := jj K5 (jcR (jN bw) a4 jhn);clear a4;clear bw K5;have d1 := (jb K6 1 rfl);refine hK.out _ _ d1 (fun _ => ?_)
 clear hK K a6;refine rd1 6 rfl (fun K hK => ?_)
 go_simp;refine (bC1 _ _ _ _ _ _ xs vl _ (c6.out _ K6.hb) (by omega) (aC3 (jo K6 0 rfl)) d7.out).mono ?_;rintro e w7 ⟨rfl, bw⟩;obtain ⟨u5, a9⟩ := exq (decide (xs = vl));rw [← a9];have K7 := jw K6 bw;clear bw K6;have a1 := (jb K7 1 rfl);refine hK.out _ _ a1 (fun _ => ?_)
 clear hK K d1;refine tkP 7 (.bool u5) 27 rfl rfl a1 ?_;go_frame;cases u5
 ·have HF : Hid (¬ ObjP p xs ys st fs b t) := fun h => absurd (h.2.2.2.2.1.trans b4.out) (of_decide_eq_false a9.symm)
  clear a9;refine tkN 8 28 rfl rfl a1 (tkN 9 29 rfl rfl a1 (tkN 10 30 rfl rfl a1 ?_));go_frame;refine tkP 11 (.bool false) 31 rfl rfl a1 (tkP 12 (.bool false) 3 rfl rfl a1 ?_);go_frame;clear a1;refine wdn ?_;go_wp2_with fail
  go_ret;exact aA3.no HF.out K7.hb
 have HE : Hid (xs = vl) := (show xs = vl from of_decide_eq_true a9.symm);clear a9;refine tkP 8 (.pointer (some ⟨q1, 1, none⟩)) 28 rfl rfl a1 ?_;go_frame;refine tkL 9 (.slice o1 n1 c1) 29 rfl rfl (Or.inl ⟨by rfl, by intro W hW; have a0 := hW; have y1 := c7c a0; go_simp⟩) a1 ?_;go_frame;refine rd1 10 rfl (fun K hK => ?_)
 go_simp;refine (cA1 _ _ _ xs _ (c6.out _ K7.hb) (by omega) d3.out).mono ?_;rintro e w8 ⟨u4, rfl, a5, bw⟩;have K8 := jw K7 bw;clear bw K7;have b2 := (jb K8 1 rfl);refine hK.out _ _ b2 (fun _ => ?_)
 clear hK K a1;refine tkP 11 (.bool u4) 31 rfl rfl b2 (tkP 12 (.bool u4) 3 rfl rfl b2 ?_);go_frame;clear b2;refine wdn ?_;cases u4
 ·have HF : Hid (¬ ObjP p xs ys st fs b t) := fun h => nomatch a5.2 h.2.2.2.1
  clear a5;go_wp2_with fail
  go_ret;exact aA3.no HF.out K8.hb
 have d8 : Hid (aX8 xs) := a5.1 rfl;clear a5;by_cases hc1 : (n2 : Int) = (n1 : Int)
 rotate_left
 ·have c0 : ((n2 : Int) == (n1 : Int)) = false := by simpa using hc1
  have c4 : ((n2 : Int) != (n1 : Int)) = true := by simpa using hc1
  have HF : Hid (¬ ObjP p xs ys st fs b t) := fun h => by have h1 := h.2.2.2.2.2.1; have h2 := c8.out; have h3 := c9.out; omega
  have c5 := hid hc1;clear hc1;have b0 := c7c (jb K8 1 rfl);go_wp2_with fail
  go_ret;exact aA3.no HF.out K8.hb
 have c0 : ((n2 : Int) == (n1 : Int)) = true := by simpa using hc1
 have c4 : ((n2 : Int) != (n1 : Int)) = false := by simpa using hc1
 have d9 := hid hc1;have c5 := hid hc1;clear hc1;have b0 := c7c (jb K8 1 rfl);go_wp2_with fail
 refine (bV2 _ _ _ ys _ (d2.out _ K8.hb) (by omega) d4.out).mono ?_;rintro e w9 ⟨u6, rfl, b1, bw⟩;have K9 := jw K8 bw;clear bw K8;clear b0;go_wp2_with fail
 go_ret;exact ⟨u6, rfl, ⟨fun h => ⟨HR.out, HP.out, HT.out, d8.out, HE.out.trans b4.out.symm, by have h1 := c8.out; have h2 := c9.out; have h3 := d9.out; omega, b1.1 h⟩, fun h => b1.2 h.2.2.2.2.2.2⟩, K9.hb⟩
theorem bQ5 (a b : Tx) (t : Int) (w : World) :
  Calls prog 180 #[.agg #[.int .i64 1, .string a, .string b, .int .i64 t]] w fun e w' => e = .returned (.iface 244 (.agg #[.string a])) ∧ Below w.heap.size w w' := by
 have K0 := jnil w;go_enter func180, ntmps180;go_upto_region 1 with fail
 obtain ⟨q1, a1⟩ := exq (w.heap.size);obtain ⟨w1, a0⟩ := exq (w.alloc (.cells #[.int .i64 1, .string a, .string b, .int .i64 t] 62));have a2 := a1.symm;rw [← a0]; try rw [← a1];have a3 := hsa a0 a2;have bw := bal a0;have K1 := ja K0 a0 a2;clear bw a0 a2 K0;clear a3 a1;have a4 := c4c (jb K1 0 rfl);go_wp2_with fail
 go_ret;exact ⟨rfl, K1.hb⟩
theorem bQ6 (a b : Tx) (t : Int) (w : World) :
  Calls prog 180 #[.agg #[.int .i64 2, .string a, .string b, .int .i64 t]] w fun e w' => e = .returned (.iface 246 (.agg #[.string a])) ∧ Below w.heap.size w w' := by
 have K0 := jnil w;go_enter func180, ntmps180;go_upto_region 1 with fail
 obtain ⟨q1, a1⟩ := exq (w.heap.size);obtain ⟨w1, a0⟩ := exq (w.alloc (.cells #[.int .i64 2, .string a, .string b, .int .i64 t] 62));have a2 := a1.symm;rw [← a0]; try rw [← a1];have a3 := hsa a0 a2;have bw := bal a0;have K1 := ja K0 a0 a2;clear bw a0 a2 K0;clear a3 a1;have a4 := c4c (jb K1 0 rfl);go_wp2_with fail
 go_ret;exact ⟨rfl, K1.hb⟩
theorem cD5 (a b : Tx) (t : Int) (w : World) :
  Calls prog 180 #[.agg #[.int .i64 3, .string a, .string b, .int .i64 t]] w fun e w' => e = .returned (.iface 248 (.agg #[.string a, .string b])) ∧ Below w.heap.size w w' := by
 have K0 := jnil w;go_enter func180, ntmps180;go_upto_region 1 with fail
 obtain ⟨q1, a1⟩ := exq (w.heap.size);obtain ⟨w1, a0⟩ := exq (w.alloc (.cells #[.int .i64 3, .string a, .string b, .int .i64 t] 62));have a2 := a1.symm;rw [← a0]; try rw [← a1];have a3 := hsa a0 a2;have bw := bal a0;have K1 := ja K0 a0 a2;clear bw a0 a2 K0;clear a3 a1;have a4 := c4c (jb K1 0 rfl);go_wp2_with fail
 go_ret;exact ⟨rfl, K1.hb⟩
theorem cL7 (k : Int) (a b : Tx) (t : Int) (w : World) (h1 : ¬ k = 1) (h2 : ¬ k = 2) (h3 : ¬ k = 3) :
  Calls prog 180 #[.agg #[.int .i64 k, .string a, .string b, .int .i64 t]] w fun e w' => e = .returned .nilIface ∧ Below w.heap.size w w' := by
 have a5 : ((k : Int) == (1 : Int)) = false := by simpa using h1
 have a6 : ((k : Int) == (2 : Int)) = false := by simpa using h2
 have a7 : ((k : Int) == (3 : Int)) = false := by simpa using h3
 clear h1 h2 h3;have K0 := jnil w;go_enter func180, ntmps180;go_upto_region 1 with fail
 obtain ⟨q1, a1⟩ := exq (w.heap.size);obtain ⟨w1, a0⟩ := exq (w.alloc (.cells #[.int .i64 k, .string a, .string b, .int .i64 t] 62));have a2 := a1.symm;rw [← a0]; try rw [← a1];have a3 := hsa a0 a2;have bw := bal a0;have K1 := ja K0 a0 a2;clear bw a0 a2 K0;clear a3 a1;have a4 := c4c (jb K1 0 rfl);go_wp2_with fail
 go_ret;exact ⟨rfl, K1.hb⟩
theorem cL8 (a : Tx) (t : Int) (w : World) :
  Calls prog 181 #[.iface 244 (.agg #[.string a]), .int .i64 t] w fun e w' => e = .returned (.agg #[.int .i64 1, .string a, .string ⟨#[]⟩, .int .i64 t]) ∧ Below w.heap.size w w' := by
 have a8 : ∀ W : World, (Instr.typeAssert (.iface 244 (.agg #[.string a])) 201 244 true).run prog W = .ok (.tuple #[.agg #[.string a], .bool true]) W := fun _ => by kernel_rfl
 have a9 : ∀ W : World, (Instr.typeAssert (.iface 244 (.agg #[.string a])) 201 246 true).run prog W = .ok (.tuple #[.agg #[.string ⟨#[]⟩], .bool false]) W := fun _ => by kernel_rfl
 have b0 : ∀ W : World, (Instr.typeAssert (.iface 244 (.agg #[.string a])) 201 248 true).run prog W = .ok (.tuple #[.agg #[.string ⟨#[]⟩, .string ⟨#[]⟩], .bool false]) W := fun _ => by kernel_rfl
 have K0 := jnil w;go_enter func181, ntmps181;go_upto_region 1 with fail
 obtain ⟨q1, a3⟩ := exq (w.heap.size);obtain ⟨w1, a0⟩ := exq (w.alloc (.cells #[.int .i64 0, .string ⟨#[]⟩, .string ⟨#[]⟩, .int .i64 0] 62));have a4 := a3.symm;rw [← a0]; try rw [← a3];have b1 := hsa a0 a4;have bw := bal a0;have K1 := ja K0 a0 a4;clear bw a0 a4 K0;clear b1 a3;go_upto_region 4 with fail
 obtain ⟨q2, a5⟩ := exq (w1.heap.size);obtain ⟨w2, a1⟩ := exq (w1.alloc (.cells #[.string a] 244));have a6 := a5.symm;rw [← a1]; try rw [← a5];have b2 := hsa a1 a6;have bw := bal a1;have K2 := ja K1 a1 a6;clear bw a1 a6 K1;clear b2 a5;have b3 := c4f (jb K2 1 rfl);have b4 := c1c (jb K2 0 rfl);go_wp2_with fail
 obtain ⟨w6, a7⟩ := exq ((((w2.setCell ⟨q1, 0, none⟩ (.int .i64 1)).setCell ⟨q1, 1, none⟩ (.string a)).setCell ⟨q1, 2, none⟩ (.string ⟨#[]⟩)).setCell ⟨q1, 3, none⟩ (.int .i64 t));rw [← a7];have K6 := jss K2 1 [(0, _), (1, _), (2, _), (3, _)] a7;clear a7 K2;have a2 := c4c (jb K6 1 rfl);refine bodyPost_ret (v := .agg #[.int .i64 1, .string a, .string ⟨#[]⟩, .int .i64 t]) (by simp [results, results181, go_sem, a2]) rfl ?_;exact ⟨rfl, K6.hb⟩
theorem cL9 (a : Tx) (t : Int) (w : World) :
  Calls prog 181 #[.iface 246 (.agg #[.string a]), .int .i64 t] w fun e w' => e = .returned (.agg #[.int .i64 2, .string a, .string ⟨#[]⟩, .int .i64 t]) ∧ Below w.heap.size w w' := by
 have a8 : ∀ W : World, (Instr.typeAssert (.iface 246 (.agg #[.string a])) 201 244 true).run prog W = .ok (.tuple #[.agg #[.string ⟨#[]⟩], .bool false]) W := fun _ => by kernel_rfl
 have a9 : ∀ W : World, (Instr.typeAssert (.iface 246 (.agg #[.string a])) 201 246 true).run prog W = .ok (.tuple #[.agg #[.string a], .bool true]) W := fun _ => by kernel_rfl
 have b0 : ∀ W : World, (Instr.typeAssert (.iface 246 (.agg #[.string a])) 201 248 true).run prog W = .ok (.tuple #[.agg #[.string ⟨#[]⟩, .string ⟨#[]⟩], .bool false]) W := fun _ => by kernel_rfl
 have K0 := jnil w;go_enter func181, ntmps181;go_upto_region 1 with fail
 obtain ⟨q1, a3⟩ := exq (w.heap.size);obtain ⟨w1, a0⟩ := exq (w.alloc (.cells #[.int .i64 0, .string ⟨#[]⟩, .string ⟨#[]⟩, .int .i64 0] 62));have a4 := a3.symm;rw [← a0]; try rw [← a3];have b1 := hsa a0 a4;have bw := bal a0;have K1 := ja K0 a0 a4;clear bw a0 a4 K0;clear b1 a3;go_upto_region 7 with fail
 obtain ⟨q2, a5⟩ := exq (w1.heap.size);obtain ⟨w2, a1⟩ := exq (w1.alloc (.cells #[.string a] 246));have a6 := a5.symm;rw [← a1]; try rw [← a5];have b2 := hsa a1 a6;have bw := bal a1;have K2 := ja K1 a1 a6;clear bw a1 a6 K1;clear b2 a5;have b3 := c4f (jb K2 1 rfl);have b4 := c1c (jb K2 0 rfl);go_wp2_with fail
 obtain ⟨w6, a7⟩ := exq ((((w2.setCell ⟨q1, 0, none⟩ (.int .i64 2)).setCell ⟨q1, 1, none⟩ (.string a)).setCell ⟨q1, 2, none⟩ (.string ⟨#[]⟩)).setCell ⟨q1, 3, none⟩ (.int .i64 t));rw [← a7];have K6 := jss K2 1 [(0, _), (1, _), (2, _), (3, _)] a7;clear a7 K2;have a2 := c4c (jb K6 1 rfl);refine bodyPost_ret (v := .agg #[.int .i64 2, .string a, .string ⟨#[]⟩, .int .i64 t]) (by simp [results, results181, go_sem, a2]) rfl ?_;exact ⟨rfl, K6.hb⟩
theorem cT2 (a b : Tx) (t : Int) (w : World) :
  Calls prog 181 #[.iface 248 (.agg #[.string a, .string b]), .int .i64 t] w fun e w' => e = .returned (.agg #[.int .i64 3, .string a, .string b, .int .i64 t]) ∧ Below w.heap.size w w' := by
 have a8 : ∀ W : World, (Instr.typeAssert (.iface 248 (.agg #[.string a, .string b])) 201 244 true).run prog W = .ok (.tuple #[.agg #[.string ⟨#[]⟩], .bool false]) W := fun _ => by kernel_rfl
 have a9 : ∀ W : World, (Instr.typeAssert (.iface 248 (.agg #[.string a, .string b])) 201 246 true).run prog W = .ok (.tuple #[.agg #[.string ⟨#[]⟩], .bool false]) W := fun _ => by kernel_rfl
 have b0 : ∀ W : World, (Instr.typeAssert (.iface 248 (.agg #[.string a, .string b])) 201 248 true).run prog W = .ok (.tuple #[.agg #[.string a, .string b], .bool true]) W := fun _ => by kernel_rfl
 have K0 := jnil w;go_enter func181, ntmps181;go_upto_region 1 with fail
 obtain ⟨q1, a3⟩ := exq (w.heap.size);obtain ⟨w1, a0⟩ := exq (w.alloc (.cells #[.int .i64 0, .string ⟨#[]⟩, .string ⟨#[]⟩, .int .i64 0] 62));have a4 := a3.symm;rw [← a0]; try rw [← a3];have b1 := hsa a0 a4;have bw := bal a0;have K1 := ja K0 a0 a4;clear bw a0 a4 K0;clear b1 a3;go_upto_region 10 with fail
 obtain ⟨q2, a5⟩ := exq (w1.heap.size);obtain ⟨w2, a1⟩ := exq (w1.alloc (.cells #[.string a, .string b] 248));have a6 := a5.symm;rw [← a1]; try rw [← a5];have b2 := hsa a1 a6;have bw := bal a1;have K2 := ja K1 a1 a6;clear bw a1 a6 K1;clear b2 a5;have b3 := c4f (jb K2 1 rfl);have b4 := c2c (jb K2 0 rfl);go_wp2_with fail
 obtain ⟨w6, a7⟩ := exq ((((w2.setCell ⟨q1, 0, none⟩ (.int .i64 3)).setCell ⟨q1, 1, none⟩ (.string a)).setCell ⟨q1, 2, none⟩ (.string b)).setCell ⟨q1, 3, none⟩ (.int .i64 t));rw [← a7];have K6 := jss K2 1 [(0, _), (1, _), (2, _), (3, _)] a7;clear a7 K2;have a2 := c4c (jb K6 1 rfl);refine bodyPost_ret (v := .agg #[.int .i64 3, .string a, .string b, .int .i64 t]) (by simp [results, results181, go_sem, a2]) rfl ?_;exact ⟨rfl, K6.hb⟩
theorem cM0 (a : Tx) (w : World) (ha : a.size ≤ maxLen) :
  Calls prog 330 #[.agg #[.string a]] w fun e w' => aA3 (aH9 a) w e w' := by
 have a4 := hid ha;clear ha;have K0 := jnil w;go_enter func330, ntmps330;go_upto_region 1 with fail
 obtain ⟨q1, a1⟩ := exq (w.heap.size);obtain ⟨w1, a0⟩ := exq (w.alloc (.cells #[.string a] 244));have a2 := a1.symm;rw [← a0]; try rw [← a1];have a5 := hsa a0 a2;have bw := bal a0;have K1 := ja K0 a0 a2;clear bw a0 a2 K0;clear a5 a1;have a3 := c1c (jb K1 0 rfl);go_wp2_with fail
 refine (bC2 a _ a4.out).mono ?_;rintro e w2 ⟨u, rfl, a6, bw⟩;have K2 := jw K1 bw;clear bw K1;clear a3;go_wp2_with fail
 go_ret;exact ⟨u, rfl, a6, K2.hb⟩
theorem cM1 (a : Tx) (w : World) (ha : a.size ≤ maxLen) :
  Calls prog 332 #[.agg #[.string a]] w fun e w' => aA3 (aH9 a) w e w' := by
 have a4 := hid ha;clear ha;have K0 := jnil w;go_enter func332, ntmps332;go_upto_region 1 with fail
 obtain ⟨q1, a1⟩ := exq (w.heap.size);obtain ⟨w1, a0⟩ := exq (w.alloc (.cells #[.string a] 246));have a2 := a1.symm;rw [← a0]; try rw [← a1];have a5 := hsa a0 a2;have bw := bal a0;have K1 := ja K0 a0 a2;clear bw a0 a2 K0;clear a5 a1;have a3 := c1c (jb K1 0 rfl);go_wp2_with fail
 refine (bC2 a _ a4.out).mono ?_;rintro e w2 ⟨u, rfl, a6, bw⟩;have K2 := jw K1 bw;clear bw K1;clear a3;go_wp2_with fail
 go_ret;exact ⟨u, rfl, a6, K2.hb⟩
theorem cT3 (a b : Tx) (w : World) (ha : a.size ≤ maxLen) (hb : b.size ≤ maxLen) :
  Calls prog 334 #[.agg #[.string a, .string b]] w fun e w' => aA3 (aL9 a ∧ aM0 b) w e w' := by
 have a7 := hid ha;have a8 := hid hb;clear ha hb;have K0 := jnil w;go_enter func334, ntmps334;go_upto_region 1 with fail
 obtain ⟨q1, a2⟩ := exq (w.heap.size);obtain ⟨w1, a0⟩ := exq (w.alloc (.cells #[.string a, .string b] 248));have a3 := a2.symm;rw [← a0]; try rw [← a2];have a9 := hsa a0 a3;have bw := bal a0;have K1 := ja K0 a0 a3;clear bw a0 a3 K0;clear a9 a2;have a4 := c2c (jb K1 0 rfl);go_wp2_with fail
 refine (aO9 a _ a7.out).mono ?_;rintro e w2 ⟨u, rfl, a1, bw⟩;have K2 := jw K1 bw;clear bw K1;clear a4;cases u
 ·have HU : Hid (¬ aL9 a) := fun h => nomatch a1.2 h
  clear a1;go_wp2_with fail
  go_ret;exact ⟨false, rfl, ⟨fun h => (by cases h), fun h => absurd h.1 HU.out⟩, K2.hb⟩
 have HU : Hid (aL9 a) := a1.1 rfl;clear a1;have a5 := c2c (jb K2 0 rfl);go_wp2_with fail
 refine (aP1 b _ a8.out).mono ?_;rintro e w3 ⟨v, rfl, a6, bw⟩;have K3 := jw K2 bw;clear bw K2;clear a5;go_wp2_with fail
 go_ret;exact ⟨v, rfl, ⟨fun h => ⟨HU.out, a6.1 h⟩, fun h => a6.2 h.2⟩, K3.hb⟩
theorem cW6 (a : Tx) (p : Tx) (v1 v2 : Value) (st : Int) (v3 : Value) (d : Tx) (u : Int) (w : World) :
  Calls prog 329 #[.agg #[.string a], .agg #[.string p, v1, v2, .int .i64 st, v3, .string d, .int .i64 u]] w fun e w' => aA3 (p = a) w e w' := by
 have K0 := jnil w;go_enter func329, ntmps329;go_upto_region 1 with fail
 obtain ⟨q1, a2⟩ := exq (w.heap.size);obtain ⟨w1, a0⟩ := exq (w.alloc (.cells #[.string a] 244));have a3 := a2.symm;rw [← a0]; try rw [← a2];have a7 := hsa a0 a3;have bw := bal a0;have K1 := ja K0 a0 a3;clear bw a0 a3 K0;obtain ⟨q2, a4⟩ := exq (q1 + 1);obtain ⟨w2, a1⟩ := exq (w1.alloc (.cells #[.string p, v1, v2, .int .i64 st, v3, .string d, .int .i64 u] 51));have a5 : w1.heap.size = q2 := by rw [a4]; exact a7
 rw [← a1]; try rw [← a4];have a8 := hsa a1 a5;have bw := bal a1;have K2 := ja K1 a1 a5;clear bw a1 a5 K1;clear a8 a4 a7 a2;have a9 := c1c (jb K2 1 rfl);have b0 := c7c (jb K2 0 rfl);by_cases hc1 : p = a
 rotate_left
 ·have a6 : ((p).toList == (a).toList) = false := aF6 hc1;go_wp2_with fail
  go_ret;exact ⟨false, rfl, by simpa using hc1, K2.hb⟩
 have a6 : ((p).toList == (a).toList) = true := (aH6 _ _).2 hc1;go_wp2_with fail
 go_ret;exact ⟨true, rfl, by simpa using hc1, K2.hb⟩
theorem bQ7 (a p : Tx) : (bs a).isPrefixOf (bs p) = true ↔ bM0 a p := by
 rw [List.isPrefixOf_iff_prefix];constructor
 ·rintro ⟨r, h⟩; exact ⟨r, h.symm⟩
 rintro ⟨r, h⟩; exact ⟨r, h.symm⟩
theorem cW7 (a : Tx) (p : Tx) (v1 v2 : Value) (st : Int) (v3 : Value) (d : Tx) (u : Int) (w : World) (hp : p.size ≤ maxLen) :
  Calls prog 331 #[.agg #[.string a], .agg #[.string p, v1, v2, .int .i64 st, v3, .string d, .int .i64 u]] w fun e w' => aA3 (bM0 a p) w e w' := by
 have b3 := hid hp;clear hp;have K0 := jnil w;go_enter func331, ntmps331;go_upto_region 1 with fail
 obtain ⟨q1, a2⟩ := exq (w.heap.size);obtain ⟨w1, a0⟩ := exq (w.alloc (.cells #[.string a] 246));have a3 := a2.symm;rw [← a0]; try rw [← a2];have a9 := hsa a0 a3;have bw := bal a0;have K1 := ja K0 a0 a3;clear bw a0 a3 K0;obtain ⟨q2, a4⟩ := exq (q1 + 1);obtain ⟨w2, a1⟩ := exq (w1.alloc (.cells #[.string p, v1, v2, .int .i64 st, v3, .string d, .int .i64 u] 51));have a5 : w1.heap.size = q2 := by rw [a4]; exact a9
 rw [← a1]; try rw [← a4];have b1 := hsa a1 a5;have bw := bal a1;have K2 := ja K1 a1 a5;clear bw a1 a5 K1;clear b1 a4 a9 a2;have a6 := c1c (jb K2 1 rfl);have a7 := c7c (jb K2 0 rfl);go_wp2_with fail
 refine (Tryz.strings_HasPrefix p a _).mono ?_;rintro e w3 ⟨rfl, b0⟩;have bw : Below w2.heap.size (w2) w3 := by rw [b0]; exact Below.refl _ _
 clear b0;obtain ⟨u9, a8⟩ := exq (Lib.hasPrefix p.data.toList a.data.toList);rw [← a8];have b2 := hid a8;clear a8;have K3 := jw K2 bw;clear bw K2;clear a6 a7;go_wp2_with fail
 go_ret;exact ⟨u9, rfl, by rw [b2.out]; exact bQ7 a p, K3.hb⟩
theorem cW8 (a b : Tx) (p : Tx) (v1 v2 : Value) (st : Int) (v3 : Value) (d : Tx) (u : Int) (w : World) (n3 base : Nat) (fs : Fs) (h3 : aB2 w base v3 n3 fs) (hn3 : n3 ≤ 2000000) (hc : aR5 fs) :
    Calls prog 333 #[.agg #[.string a, .string b], .agg #[.string p, v1, v2, .int .i64 st, v3, .string d, .int .i64 u]] w fun e w' => aA3 (getB fs a = true ∧ getV fs a = b) w e w' := by
  have b5 : Hid (∀ W, Bw w W → aB2 W base v3 n3 fs) := fun W h => h3.below h
  have HC : Hid (aR5 fs) := hc;clear h3 hc;have K0 := jnil w;go_enter func333, ntmps333;go_upto_region 1 with fail
  obtain ⟨q1, a5⟩ := exq (w.heap.size);obtain ⟨w1, a0⟩ := exq (w.alloc (.cells #[.string a, .string b] 248));have a6 := a5.symm;rw [← a0]; try rw [← a5];have b4 := hsa a0 a6;have bw := bal a0;have K1 := ja K0 a0 a6;clear bw a0 a6 K0;obtain ⟨q2, a7⟩ := exq (q1 + 1);obtain ⟨w2, a1⟩ := exq (w1.alloc (.cells #[.string p, v1, v2, .int .i64 st, v3, .string d, .int .i64 u] 51));have a8 : w1.heap.size = q2 := by rw [a7]; exact b4
  rw [← a1]; try rw [← a7];have b6 := hsa a1 a8;have bw := bal a1;have K2 := ja K1 a1 a8;clear bw a1 a8 K1;clear b6 a7 b4 a5;have a9 := c2c (jb K2 1 rfl);have b0 := c7c (jb K2 0 rfl);go_wp2_with fail
  refine (bH3 _ n3 base fs a _ (b5.out _ K2.hb) (by omega) HC.out).mono ?_;rintro e w3 ⟨rfl, bw⟩;obtain ⟨gv, b1⟩ := exq (getV fs a);obtain ⟨ug, a2⟩ := exq (getB fs a);have b2 : Hid (getV fs a = gv) := b1.symm;rw [← b1, ← a2];clear b1;have K3 := jw K2 bw;clear bw K2;clear a9 b0;cases ug
  ·have a3 : Hid (¬ getB fs a = true) := (by show ¬ _; rw [← a2]; decide);clear a2;go_wp2_with fail
   go_ret;refine ⟨false, rfl, ?_, K3.hb⟩;have z1 := a3.out;have z2 := b2.out
   first
     | (have z3 := a4.out
        simp_all; done)
     | (simp_all; done)
  have a3 : Hid (getB fs a = true) := a2.symm;clear a2;have b7 := c2c (jb K3 1 rfl);by_cases hc1 : gv = b
  rotate_left
  ·have b3 : ((gv).toList == (b).toList) = false := aF6 hc1;have a4 := hid hc1;go_wp2_with fail
   go_ret;refine ⟨false, rfl, ?_, K3.hb⟩;have z1 := a3.out;have z2 := b2.out
   first
     | (have z3 := a4.out
        simp_all; done)
     | (simp_all; done)
  have b3 : ((gv).toList == (b).toList) = true := (aH6 _ _).2 hc1;have a4 : Hid (gv = b) := hc1;go_wp2_with fail
  go_ret;refine ⟨true, rfl, ?_, K3.hb⟩;have z1 := a3.out;have z2 := b2.out
  first
    | (have z3 := a4.out
       simp_all; done)
    | (simp_all; done)
theorem bA5 : prog.eqGuardType prog.depth 62 = false := by kernel_rfl
open Classical in
theorem cT4 (k k' : Int) (a a' b b' : Tx) (t t' : Int) (w : World) : (Op.equalIn 10000 62 (.agg #[.int .i64 k, .string a, .string b, .int .i64 t]) (.agg #[.int .i64 k', .string a', .string b', .int .i64 t'])).run prog w = .ok (decide (k = k' ∧ a = a' ∧ b = b' ∧ t = t')) w := by
 have u3 := underlying3;have a3 := isAgg3;have z3 := sizeOf3;have u9 := underlying9;have a9 := isAgg9;have z9 := sizeOf9;have hS : prog.underlying 62 = some (.struct (prog.fieldsOf 62)) := by kernel_rfl
 have hp : prog.stoodInHeld 62 = false := by kernel_rfl
 rw [show (10000 : Nat) = 9999 + 1 from rfl, run_equalIn_agg w 9999 62 _ _ hS hp];simp only [Program.fieldsOf, underlying62]
 have ea : ∀ x y : ByteArray, (x.toList == y.toList) = decide (x = y) := fun x y => by
  by_cases h : x = y
  ·rw [decide_eq_true h]; exact (aH6 _ _).2 h
  ·rw [decide_eq_false h]; exact aF6 h
 go_simp;by_cases h1 : k = k'
 rotate_left
 ·simp [h1]
 by_cases h2 : a = a'
 rotate_left
 ·simp [h1, h2]
 by_cases h3 : b = b'
 rotate_left
 ·simp [h1, h2, h3]
 by_cases h4 : t = t'
 ·simp [h1, h2, h3, h4]
 simp [h1, h2, h3, h4]
open Classical in
theorem bV3 (k k' : Int) (a a' b b' : Tx) (t t' : Int) (w : World) : (binOp .eql 62 (.agg #[.int .i64 k, .string a, .string b, .int .i64 t]) (.agg #[.int .i64 k', .string a', .string b', .int .i64 t'])).run prog w = .ok (.bool (decide (k = k' ∧ a = a' ∧ b = b' ∧ t = t'))) w := by
 rw [run_eql_struct, cT4];rfl
theorem bV4 (a : Tx) (t : Int) (w : World) (ha : a.size ≤ maxLen) :
  Calls prog 124 #[.agg #[.int .i64 1, .string a, .string ⟨#[]⟩, .int .i64 t]] w fun e w' => aA3 (BanP 1 a ⟨#[]⟩ t) w e w' := by
 classical
 have b6 := hid ha;have b8 : ∀ W : World, (binOp .neq 201 (.iface 244 (.agg #[.string a])) .nilIface).run prog W = .ok (.bool true) W := fun _ => by kernel_rfl
 have b9 : ∀ W : World, (nilAhead 157 244 (.agg #[.string a]) "loop.example/g00239/impl.right").run prog W = .ok (some false) W := fun _ => by kernel_rfl
 have c0 : ∀ W : World, (method 157 244 (.agg #[.string a]) "loop.example/g00239/impl.right").run prog W = .ok (330, .agg #[.string a]) W := fun _ => by kernel_rfl
 have c1 := bA5
 have c2 : ∀ W : World, (binOp .eql 62 (.agg #[.int .i64 1, .string a, .string ⟨#[]⟩, .int .i64 t]) (.agg #[.int .i64 1, .string a, .string ⟨#[]⟩, .int .i64 t])).run prog W = .ok (.bool true) W := fun W => by
  rw [bV3]
  first | (simp; done) | (have z := HB0.out; simp; exact fun e => z e.symm)
 clear ha;have K0 := jnil w;go_enter func124, ntmps124;go_upto_region 1 with fail
 obtain ⟨q1, b0⟩ := exq (w.heap.size);obtain ⟨w1, a4⟩ := exq (w.alloc (.cells #[.int .i64 1, .string a, .string ⟨#[]⟩, .int .i64 t] 62));have b1 := b0.symm;rw [← a4]; try rw [← b0];have b7 := hsa a4 b1;have bw := bal a4;have K1 := ja K0 a4 b1;clear bw a4 b1 K0;clear b7 b0;have b2 := c4c (jb K1 0 rfl);go_wp2_with fail
 refine (bQ5 a ⟨#[]⟩ t _).mono ?_;rintro e w2 ⟨rfl, bw⟩;have K2 := jw K1 bw;clear bw K1;clear b2;go_upto_region 2 with fail
 refine wp_region_held_drew (S := fun W => W.heap[q1]? = some (.cells #[.int .i64 1, .string a, .string ⟨#[]⟩, .int .i64 t] 62)) (by kernel_rfl) (jb K2 0 rfl) (fun _ => ?_)
 obtain ⟨w3, hX⟩ := exq w2.drew;have bw := bdr hX;rw [← hX];have K3 := jw K2 bw;have a5 := (jb K3 0 rfl);clear bw hX K2;refine tkP 0 (.iface 244 (.agg #[.string a])) 6 rfl rfl a5 (tkP 1 (.bool true) 7 rfl rfl a5 (tkP 2 (.bool true) 8 rfl rfl a5 ?_));go_frame;refine tkP 3 (.iface 244 (.agg #[.string a])) 9 rfl rfl a5 ?_;go_frame;refine rd1 4 rfl (fun K hK => ?_)
 go_simp;refine (cM0 a _ b6.out).mono ?_;rintro e w4 ⟨ur, rfl, a3, bw⟩;have K4 := jw K3 bw;clear bw K3;have a0 := (jb K4 0 rfl);refine hK.out _ _ a0 (fun _ => ?_)
 clear hK K a5;refine tkP 5 (.bool ur) 11 rfl rfl a0 (tkP 6 (.bool ur) 12 rfl rfl a0 ?_);go_frame;cases ur
 ·have a9 : Hid (¬ (aH9 a)) := fun h => nomatch a3.2 h
  clear a3;refine tkN 7 13 rfl rfl a0 (tkN 8 14 rfl rfl a0 (tkN 9 15 rfl rfl a0 ?_));go_frame;refine tkP 10 (.bool false) 16 rfl rfl a0 (tkP 11 (.bool false) 17 rfl rfl a0 (tkN 12 18 rfl rfl a0 ?_));go_frame;refine tkN 13 19 rfl rfl a0 (tkN 14 20 rfl rfl a0 (tkN 15 21 rfl rfl a0 ?_));go_frame;refine tkN 16 22 rfl rfl a0 (tkN 17 23 rfl rfl a0 (tkP 18 (.bool false) 24 rfl rfl a0 ?_));go_frame;refine tkP 19 (.bool false) 2 rfl rfl a0 ?_;go_frame;clear a0;refine wdn ?_;go_wp2_with fail
  go_ret;refine ⟨false, rfl, ?_, K4.hb⟩;have a6 := a9.out;unfold BanP;simp_all
 have a9 : Hid (aH9 a) := a3.1 rfl;clear a3;refine tkP 7 (.pointer (some ⟨q1, 3, none⟩)) 13 rfl rfl a0 ?_;go_frame;refine tkL 8 (.int .i64 t) 14 rfl rfl (Or.inl ⟨by rfl, by intro W hW; have a2 := hW; have y3 := c4c a2; go_simp⟩) a0 ?_;go_frame;refine rd1 9 rfl (fun K hK => ?_)
 go_simp;refine (aO8 t _).mono ?_;rintro e w5 ⟨rfl, b5⟩;have bw : Below w4.heap.size (w4) w5 := by rw [b5]; exact Below.refl _ _
 clear b5;obtain ⟨ut, a7⟩ : ∃ u, u = decide ((0 : Int) ≤ t ∧ t ≤ 1000000) := ⟨_, rfl⟩;rw [← a7];have K5 := jw K4 bw;clear bw K4;have a1 := (jb K5 0 rfl);refine hK.out _ _ a1 (fun _ => ?_)
 clear hK K a0;refine tkP 10 (.bool ut) 16 rfl rfl a1 (tkP 11 (.bool ut) 17 rfl rfl a1 ?_);go_frame;cases ut
 ·have b3 : Hid (¬ (0 ≤ t ∧ t ≤ 1000000)) := (show ¬ (0 ≤ t ∧ t ≤ 1000000) from of_decide_eq_false a7.symm);clear a7;refine tkN 12 18 rfl rfl a1 (tkN 13 19 rfl rfl a1 (tkN 14 20 rfl rfl a1 ?_));go_frame;refine tkN 15 21 rfl rfl a1 (tkN 16 22 rfl rfl a1 (tkN 17 23 rfl rfl a1 ?_));go_frame;refine tkP 18 (.bool false) 24 rfl rfl a1 (tkP 19 (.bool false) 2 rfl rfl a1 ?_);go_frame;clear a1;refine wdn ?_;go_wp2_with fail
  go_ret;refine ⟨false, rfl, ?_, K5.hb⟩;have a6 := a9.out;have b4 := b3.out;unfold BanP;simp_all
 have b3 : Hid (0 ≤ t ∧ t ≤ 1000000) := (show 0 ≤ t ∧ t ≤ 1000000 from of_decide_eq_true a7.symm);clear a7;refine tkP 12 (.iface 244 (.agg #[.string a])) 18 rfl rfl a1 (tkP 13 (.pointer (some ⟨q1, 3, none⟩)) 19 rfl rfl a1 ?_);go_frame;refine tkL 14 (.int .i64 t) 20 rfl rfl (Or.inl ⟨by rfl, by intro W hW; have a2 := hW; have y3 := c4c a2; go_simp⟩) a1 ?_;go_frame;refine tkL 16 (.agg #[.int .i64 1, .string a, .string ⟨#[]⟩, .int .i64 t]) 22 rfl rfl (Or.inl ⟨by rfl, by intro W hW; have a2 := hW; have y0 := c4c a2; go_simp⟩) a1 ?_;go_frame;refine rd1 15 rfl (fun K hK => ?_)
 go_simp;refine (cL8 a t _).mono ?_;rintro e w6 ⟨rfl, bw⟩;have K6 := jw K5 bw;clear bw K5;have a8 := (jb K6 0 rfl);refine hK.out _ _ a8 (fun _ => ?_)
 clear hK K a1;refine tkP 17 (.bool true) 23 rfl rfl a8 (tkP 18 (.bool true) 24 rfl rfl a8 (tkP 19 (.bool true) 2 rfl rfl a8 ?_));go_frame;clear a8;refine wdn ?_;go_wp2_with fail
 go_ret;refine ⟨true, rfl, ?_, K6.hb⟩;have a6 := a9.out;have b4 := b3.out;unfold BanP;simp_all
theorem bV5 (a b : Tx) (t : Int) (w : World) (ha : a.size ≤ maxLen) (hb0 : ¬ b = ⟨#[]⟩) :
  Calls prog 124 #[.agg #[.int .i64 1, .string a, .string b, .int .i64 t]] w fun e w' => aA3 (BanP 1 a b t) w e w' := by
 classical
 have b8 := hid ha;have a9 := hid hb0;have c0 : ∀ W : World, (binOp .neq 201 (.iface 244 (.agg #[.string a])) .nilIface).run prog W = .ok (.bool true) W := fun _ => by kernel_rfl
 have c1 : ∀ W : World, (nilAhead 157 244 (.agg #[.string a]) "loop.example/g00239/impl.right").run prog W = .ok (some false) W := fun _ => by kernel_rfl
 have c2 : ∀ W : World, (method 157 244 (.agg #[.string a]) "loop.example/g00239/impl.right").run prog W = .ok (330, .agg #[.string a]) W := fun _ => by kernel_rfl
 have c3 := bA5
 have c4 : ∀ W : World, (binOp .eql 62 (.agg #[.int .i64 1, .string a, .string ⟨#[]⟩, .int .i64 t]) (.agg #[.int .i64 1, .string a, .string b, .int .i64 t])).run prog W = .ok (.bool false) W := fun W => by
  rw [bV3]
  first | (simp; done) | (have z := a9.out; simp; exact fun e => z e.symm)
 clear ha hb0;have K0 := jnil w;go_enter func124, ntmps124;go_upto_region 1 with fail
 obtain ⟨q1, b1⟩ := exq (w.heap.size);obtain ⟨w1, a4⟩ := exq (w.alloc (.cells #[.int .i64 1, .string a, .string b, .int .i64 t] 62));have b2 := b1.symm;rw [← a4]; try rw [← b1];have b9 := hsa a4 b2;have bw := bal a4;have K1 := ja K0 a4 b2;clear bw a4 b2 K0;clear b9 b1;have b3 := c4c (jb K1 0 rfl);go_wp2_with fail
 refine (bQ5 a b t _).mono ?_;rintro e w2 ⟨rfl, bw⟩;have K2 := jw K1 bw;clear bw K1;clear b3;go_upto_region 2 with fail
 refine wp_region_held_drew (S := fun W => W.heap[q1]? = some (.cells #[.int .i64 1, .string a, .string b, .int .i64 t] 62)) (by kernel_rfl) (jb K2 0 rfl) (fun _ => ?_)
 obtain ⟨w3, hX⟩ := exq w2.drew;have bw := bdr hX;rw [← hX];have K3 := jw K2 bw;have a5 := (jb K3 0 rfl);clear bw hX K2;refine tkP 0 (.iface 244 (.agg #[.string a])) 6 rfl rfl a5 (tkP 1 (.bool true) 7 rfl rfl a5 (tkP 2 (.bool true) 8 rfl rfl a5 ?_));go_frame;refine tkP 3 (.iface 244 (.agg #[.string a])) 9 rfl rfl a5 ?_;go_frame;refine rd1 4 rfl (fun K hK => ?_)
 go_simp;refine (cM0 a _ b8.out).mono ?_;rintro e w4 ⟨ur, rfl, a3, bw⟩;have K4 := jw K3 bw;clear bw K3;have a0 := (jb K4 0 rfl);refine hK.out _ _ a0 (fun _ => ?_)
 clear hK K a5;refine tkP 5 (.bool ur) 11 rfl rfl a0 (tkP 6 (.bool ur) 12 rfl rfl a0 ?_);go_frame;cases ur
 ·have b0 : Hid (¬ (aH9 a)) := fun h => nomatch a3.2 h
  clear a3;refine tkN 7 13 rfl rfl a0 (tkN 8 14 rfl rfl a0 (tkN 9 15 rfl rfl a0 ?_));go_frame;refine tkP 10 (.bool false) 16 rfl rfl a0 (tkP 11 (.bool false) 17 rfl rfl a0 (tkN 12 18 rfl rfl a0 ?_));go_frame;refine tkN 13 19 rfl rfl a0 (tkN 14 20 rfl rfl a0 (tkN 15 21 rfl rfl a0 ?_));go_frame;refine tkN 16 22 rfl rfl a0 (tkN 17 23 rfl rfl a0 (tkP 18 (.bool false) 24 rfl rfl a0 ?_));go_frame;refine tkP 19 (.bool false) 2 rfl rfl a0 ?_;go_frame;clear a0;refine wdn ?_;go_wp2_with fail
  go_ret;refine ⟨false, rfl, ?_, K4.hb⟩;have a6 := b0.out;have b6 := a9.out;unfold BanP;simp_all
 have b0 : Hid (aH9 a) := a3.1 rfl;clear a3;refine tkP 7 (.pointer (some ⟨q1, 3, none⟩)) 13 rfl rfl a0 ?_;go_frame;refine tkL 8 (.int .i64 t) 14 rfl rfl (Or.inl ⟨by rfl, by intro W hW; have a2 := hW; have y3 := c4c a2; go_simp⟩) a0 ?_;go_frame;refine rd1 9 rfl (fun K hK => ?_)
 go_simp;refine (aO8 t _).mono ?_;rintro e w5 ⟨rfl, b7⟩;have bw : Below w4.heap.size (w4) w5 := by rw [b7]; exact Below.refl _ _
 clear b7;obtain ⟨ut, a7⟩ : ∃ u, u = decide ((0 : Int) ≤ t ∧ t ≤ 1000000) := ⟨_, rfl⟩;rw [← a7];have K5 := jw K4 bw;clear bw K4;have a1 := (jb K5 0 rfl);refine hK.out _ _ a1 (fun _ => ?_)
 clear hK K a0;refine tkP 10 (.bool ut) 16 rfl rfl a1 (tkP 11 (.bool ut) 17 rfl rfl a1 ?_);go_frame;cases ut
 ·have b4 : Hid (¬ (0 ≤ t ∧ t ≤ 1000000)) := (show ¬ (0 ≤ t ∧ t ≤ 1000000) from of_decide_eq_false a7.symm);clear a7;refine tkN 12 18 rfl rfl a1 (tkN 13 19 rfl rfl a1 (tkN 14 20 rfl rfl a1 ?_));go_frame;refine tkN 15 21 rfl rfl a1 (tkN 16 22 rfl rfl a1 (tkN 17 23 rfl rfl a1 ?_));go_frame;refine tkP 18 (.bool false) 24 rfl rfl a1 (tkP 19 (.bool false) 2 rfl rfl a1 ?_);go_frame;clear a1;refine wdn ?_;go_wp2_with fail
  go_ret;refine ⟨false, rfl, ?_, K5.hb⟩;have a6 := b0.out;have b5 := b4.out;have b6 := a9.out;unfold BanP;simp_all
 have b4 : Hid (0 ≤ t ∧ t ≤ 1000000) := (show 0 ≤ t ∧ t ≤ 1000000 from of_decide_eq_true a7.symm);clear a7;refine tkP 12 (.iface 244 (.agg #[.string a])) 18 rfl rfl a1 (tkP 13 (.pointer (some ⟨q1, 3, none⟩)) 19 rfl rfl a1 ?_);go_frame;refine tkL 14 (.int .i64 t) 20 rfl rfl (Or.inl ⟨by rfl, by intro W hW; have a2 := hW; have y3 := c4c a2; go_simp⟩) a1 ?_;go_frame;refine tkL 16 (.agg #[.int .i64 1, .string a, .string b, .int .i64 t]) 22 rfl rfl (Or.inl ⟨by rfl, by intro W hW; have a2 := hW; have y0 := c4c a2; go_simp⟩) a1 ?_;go_frame;refine rd1 15 rfl (fun K hK => ?_)
 go_simp;refine (cL8 a t _).mono ?_;rintro e w6 ⟨rfl, bw⟩;have K6 := jw K5 bw;clear bw K5;have a8 := (jb K6 0 rfl);refine hK.out _ _ a8 (fun _ => ?_)
 clear hK K a1;refine tkP 17 (.bool false) 23 rfl rfl a8 (tkP 18 (.bool false) 24 rfl rfl a8 (tkP 19 (.bool false) 2 rfl rfl a8 ?_));go_frame;clear a8;refine wdn ?_;go_wp2_with fail
 go_ret;refine ⟨false, rfl, ?_, K6.hb⟩;have a6 := b0.out;have b5 := b4.out;have b6 := a9.out;unfold BanP;simp_all
theorem bV6 (a : Tx) (t : Int) (w : World) (ha : a.size ≤ maxLen) :
  Calls prog 124 #[.agg #[.int .i64 2, .string a, .string ⟨#[]⟩, .int .i64 t]] w fun e w' => aA3 (BanP 2 a ⟨#[]⟩ t) w e w' := by
 classical
 have b6 := hid ha;have b8 : ∀ W : World, (binOp .neq 201 (.iface 246 (.agg #[.string a])) .nilIface).run prog W = .ok (.bool true) W := fun _ => by kernel_rfl
 have b9 : ∀ W : World, (nilAhead 157 246 (.agg #[.string a]) "loop.example/g00239/impl.right").run prog W = .ok (some false) W := fun _ => by kernel_rfl
 have c0 : ∀ W : World, (method 157 246 (.agg #[.string a]) "loop.example/g00239/impl.right").run prog W = .ok (332, .agg #[.string a]) W := fun _ => by kernel_rfl
 have c1 := bA5
 have c2 : ∀ W : World, (binOp .eql 62 (.agg #[.int .i64 2, .string a, .string ⟨#[]⟩, .int .i64 t]) (.agg #[.int .i64 2, .string a, .string ⟨#[]⟩, .int .i64 t])).run prog W = .ok (.bool true) W := fun W => by
  rw [bV3]
  first | (simp; done) | (have z := HB0.out; simp; exact fun e => z e.symm)
 clear ha;have K0 := jnil w;go_enter func124, ntmps124;go_upto_region 1 with fail
 obtain ⟨q1, b0⟩ := exq (w.heap.size);obtain ⟨w1, a4⟩ := exq (w.alloc (.cells #[.int .i64 2, .string a, .string ⟨#[]⟩, .int .i64 t] 62));have b1 := b0.symm;rw [← a4]; try rw [← b0];have b7 := hsa a4 b1;have bw := bal a4;have K1 := ja K0 a4 b1;clear bw a4 b1 K0;clear b7 b0;have b2 := c4c (jb K1 0 rfl);go_wp2_with fail
 refine (bQ6 a ⟨#[]⟩ t _).mono ?_;rintro e w2 ⟨rfl, bw⟩;have K2 := jw K1 bw;clear bw K1;clear b2;go_upto_region 2 with fail
 refine wp_region_held_drew (S := fun W => W.heap[q1]? = some (.cells #[.int .i64 2, .string a, .string ⟨#[]⟩, .int .i64 t] 62)) (by kernel_rfl) (jb K2 0 rfl) (fun _ => ?_)
 obtain ⟨w3, hX⟩ := exq w2.drew;have bw := bdr hX;rw [← hX];have K3 := jw K2 bw;have a5 := (jb K3 0 rfl);clear bw hX K2;refine tkP 0 (.iface 246 (.agg #[.string a])) 6 rfl rfl a5 (tkP 1 (.bool true) 7 rfl rfl a5 (tkP 2 (.bool true) 8 rfl rfl a5 ?_));go_frame;refine tkP 3 (.iface 246 (.agg #[.string a])) 9 rfl rfl a5 ?_;go_frame;refine rd1 4 rfl (fun K hK => ?_)
 go_simp;refine (cM1 a _ b6.out).mono ?_;rintro e w4 ⟨ur, rfl, a3, bw⟩;have K4 := jw K3 bw;clear bw K3;have a0 := (jb K4 0 rfl);refine hK.out _ _ a0 (fun _ => ?_)
 clear hK K a5;refine tkP 5 (.bool ur) 11 rfl rfl a0 (tkP 6 (.bool ur) 12 rfl rfl a0 ?_);go_frame;cases ur
 ·have a9 : Hid (¬ (aH9 a)) := fun h => nomatch a3.2 h
  clear a3;refine tkN 7 13 rfl rfl a0 (tkN 8 14 rfl rfl a0 (tkN 9 15 rfl rfl a0 ?_));go_frame;refine tkP 10 (.bool false) 16 rfl rfl a0 (tkP 11 (.bool false) 17 rfl rfl a0 (tkN 12 18 rfl rfl a0 ?_));go_frame;refine tkN 13 19 rfl rfl a0 (tkN 14 20 rfl rfl a0 (tkN 15 21 rfl rfl a0 ?_));go_frame;refine tkN 16 22 rfl rfl a0 (tkN 17 23 rfl rfl a0 (tkP 18 (.bool false) 24 rfl rfl a0 ?_));go_frame;refine tkP 19 (.bool false) 2 rfl rfl a0 ?_;go_frame;clear a0;refine wdn ?_;go_wp2_with fail
  go_ret;refine ⟨false, rfl, ?_, K4.hb⟩;have a6 := a9.out;unfold BanP;simp_all
 have a9 : Hid (aH9 a) := a3.1 rfl;clear a3;refine tkP 7 (.pointer (some ⟨q1, 3, none⟩)) 13 rfl rfl a0 ?_;go_frame;refine tkL 8 (.int .i64 t) 14 rfl rfl (Or.inl ⟨by rfl, by intro W hW; have a2 := hW; have y3 := c4c a2; go_simp⟩) a0 ?_;go_frame;refine rd1 9 rfl (fun K hK => ?_)
 go_simp;refine (aO8 t _).mono ?_;rintro e w5 ⟨rfl, b5⟩;have bw : Below w4.heap.size (w4) w5 := by rw [b5]; exact Below.refl _ _
 clear b5;obtain ⟨ut, a7⟩ : ∃ u, u = decide ((0 : Int) ≤ t ∧ t ≤ 1000000) := ⟨_, rfl⟩;rw [← a7];have K5 := jw K4 bw;clear bw K4;have a1 := (jb K5 0 rfl);refine hK.out _ _ a1 (fun _ => ?_)
 clear hK K a0;refine tkP 10 (.bool ut) 16 rfl rfl a1 (tkP 11 (.bool ut) 17 rfl rfl a1 ?_);go_frame;cases ut
 ·have b3 : Hid (¬ (0 ≤ t ∧ t ≤ 1000000)) := (show ¬ (0 ≤ t ∧ t ≤ 1000000) from of_decide_eq_false a7.symm);clear a7;refine tkN 12 18 rfl rfl a1 (tkN 13 19 rfl rfl a1 (tkN 14 20 rfl rfl a1 ?_));go_frame;refine tkN 15 21 rfl rfl a1 (tkN 16 22 rfl rfl a1 (tkN 17 23 rfl rfl a1 ?_));go_frame;refine tkP 18 (.bool false) 24 rfl rfl a1 (tkP 19 (.bool false) 2 rfl rfl a1 ?_);go_frame;clear a1;refine wdn ?_;go_wp2_with fail
  go_ret;refine ⟨false, rfl, ?_, K5.hb⟩;have a6 := a9.out;have b4 := b3.out;unfold BanP;simp_all
 have b3 : Hid (0 ≤ t ∧ t ≤ 1000000) := (show 0 ≤ t ∧ t ≤ 1000000 from of_decide_eq_true a7.symm);clear a7;refine tkP 12 (.iface 246 (.agg #[.string a])) 18 rfl rfl a1 (tkP 13 (.pointer (some ⟨q1, 3, none⟩)) 19 rfl rfl a1 ?_);go_frame;refine tkL 14 (.int .i64 t) 20 rfl rfl (Or.inl ⟨by rfl, by intro W hW; have a2 := hW; have y3 := c4c a2; go_simp⟩) a1 ?_;go_frame;refine tkL 16 (.agg #[.int .i64 2, .string a, .string ⟨#[]⟩, .int .i64 t]) 22 rfl rfl (Or.inl ⟨by rfl, by intro W hW; have a2 := hW; have y0 := c4c a2; go_simp⟩) a1 ?_;go_frame;refine rd1 15 rfl (fun K hK => ?_)
 go_simp;refine (cL9 a t _).mono ?_;rintro e w6 ⟨rfl, bw⟩;have K6 := jw K5 bw;clear bw K5;have a8 := (jb K6 0 rfl);refine hK.out _ _ a8 (fun _ => ?_)
 clear hK K a1;refine tkP 17 (.bool true) 23 rfl rfl a8 (tkP 18 (.bool true) 24 rfl rfl a8 (tkP 19 (.bool true) 2 rfl rfl a8 ?_));go_frame;clear a8;refine wdn ?_;go_wp2_with fail
 go_ret;refine ⟨true, rfl, ?_, K6.hb⟩;have a6 := a9.out;have b4 := b3.out;unfold BanP;simp_all
theorem bV7 (a b : Tx) (t : Int) (w : World) (ha : a.size ≤ maxLen) (hb0 : ¬ b = ⟨#[]⟩) :
  Calls prog 124 #[.agg #[.int .i64 2, .string a, .string b, .int .i64 t]] w fun e w' => aA3 (BanP 2 a b t) w e w' := by
 classical
 have b8 := hid ha;have a9 := hid hb0;have c0 : ∀ W : World, (binOp .neq 201 (.iface 246 (.agg #[.string a])) .nilIface).run prog W = .ok (.bool true) W := fun _ => by kernel_rfl
 have c1 : ∀ W : World, (nilAhead 157 246 (.agg #[.string a]) "loop.example/g00239/impl.right").run prog W = .ok (some false) W := fun _ => by kernel_rfl
 have c2 : ∀ W : World, (method 157 246 (.agg #[.string a]) "loop.example/g00239/impl.right").run prog W = .ok (332, .agg #[.string a]) W := fun _ => by kernel_rfl
 have c3 := bA5
 have c4 : ∀ W : World, (binOp .eql 62 (.agg #[.int .i64 2, .string a, .string ⟨#[]⟩, .int .i64 t]) (.agg #[.int .i64 2, .string a, .string b, .int .i64 t])).run prog W = .ok (.bool false) W := fun W => by
  rw [bV3]
  first | (simp; done) | (have z := a9.out; simp; exact fun e => z e.symm)
 clear ha hb0;have K0 := jnil w;go_enter func124, ntmps124;go_upto_region 1 with fail
 obtain ⟨q1, b1⟩ := exq (w.heap.size);obtain ⟨w1, a4⟩ := exq (w.alloc (.cells #[.int .i64 2, .string a, .string b, .int .i64 t] 62));have b2 := b1.symm;rw [← a4]; try rw [← b1];have b9 := hsa a4 b2;have bw := bal a4;have K1 := ja K0 a4 b2;clear bw a4 b2 K0;clear b9 b1;have b3 := c4c (jb K1 0 rfl);go_wp2_with fail
 refine (bQ6 a b t _).mono ?_;rintro e w2 ⟨rfl, bw⟩;have K2 := jw K1 bw;clear bw K1;clear b3;go_upto_region 2 with fail
 refine wp_region_held_drew (S := fun W => W.heap[q1]? = some (.cells #[.int .i64 2, .string a, .string b, .int .i64 t] 62)) (by kernel_rfl) (jb K2 0 rfl) (fun _ => ?_)
 obtain ⟨w3, hX⟩ := exq w2.drew;have bw := bdr hX;rw [← hX];have K3 := jw K2 bw;have a5 := (jb K3 0 rfl);clear bw hX K2;refine tkP 0 (.iface 246 (.agg #[.string a])) 6 rfl rfl a5 (tkP 1 (.bool true) 7 rfl rfl a5 (tkP 2 (.bool true) 8 rfl rfl a5 ?_));go_frame;refine tkP 3 (.iface 246 (.agg #[.string a])) 9 rfl rfl a5 ?_;go_frame;refine rd1 4 rfl (fun K hK => ?_)
 go_simp;refine (cM1 a _ b8.out).mono ?_;rintro e w4 ⟨ur, rfl, a3, bw⟩;have K4 := jw K3 bw;clear bw K3;have a0 := (jb K4 0 rfl);refine hK.out _ _ a0 (fun _ => ?_)
 clear hK K a5;refine tkP 5 (.bool ur) 11 rfl rfl a0 (tkP 6 (.bool ur) 12 rfl rfl a0 ?_);go_frame;cases ur
 ·have b0 : Hid (¬ (aH9 a)) := fun h => nomatch a3.2 h
  clear a3;refine tkN 7 13 rfl rfl a0 (tkN 8 14 rfl rfl a0 (tkN 9 15 rfl rfl a0 ?_));go_frame;refine tkP 10 (.bool false) 16 rfl rfl a0 (tkP 11 (.bool false) 17 rfl rfl a0 (tkN 12 18 rfl rfl a0 ?_));go_frame;refine tkN 13 19 rfl rfl a0 (tkN 14 20 rfl rfl a0 (tkN 15 21 rfl rfl a0 ?_));go_frame;refine tkN 16 22 rfl rfl a0 (tkN 17 23 rfl rfl a0 (tkP 18 (.bool false) 24 rfl rfl a0 ?_));go_frame;refine tkP 19 (.bool false) 2 rfl rfl a0 ?_;go_frame;clear a0;refine wdn ?_;go_wp2_with fail
  go_ret;refine ⟨false, rfl, ?_, K4.hb⟩;have a6 := b0.out;have b6 := a9.out;unfold BanP;simp_all
 have b0 : Hid (aH9 a) := a3.1 rfl;clear a3;refine tkP 7 (.pointer (some ⟨q1, 3, none⟩)) 13 rfl rfl a0 ?_;go_frame;refine tkL 8 (.int .i64 t) 14 rfl rfl (Or.inl ⟨by rfl, by intro W hW; have a2 := hW; have y3 := c4c a2; go_simp⟩) a0 ?_;go_frame;refine rd1 9 rfl (fun K hK => ?_)
 go_simp;refine (aO8 t _).mono ?_;rintro e w5 ⟨rfl, b7⟩;have bw : Below w4.heap.size (w4) w5 := by rw [b7]; exact Below.refl _ _
 clear b7;obtain ⟨ut, a7⟩ : ∃ u, u = decide ((0 : Int) ≤ t ∧ t ≤ 1000000) := ⟨_, rfl⟩;rw [← a7];have K5 := jw K4 bw;clear bw K4;have a1 := (jb K5 0 rfl);refine hK.out _ _ a1 (fun _ => ?_)
 clear hK K a0;refine tkP 10 (.bool ut) 16 rfl rfl a1 (tkP 11 (.bool ut) 17 rfl rfl a1 ?_);go_frame;cases ut
 ·have b4 : Hid (¬ (0 ≤ t ∧ t ≤ 1000000)) := (show ¬ (0 ≤ t ∧ t ≤ 1000000) from of_decide_eq_false a7.symm);clear a7;refine tkN 12 18 rfl rfl a1 (tkN 13 19 rfl rfl a1 (tkN 14 20 rfl rfl a1 ?_));go_frame;refine tkN 15 21 rfl rfl a1 (tkN 16 22 rfl rfl a1 (tkN 17 23 rfl rfl a1 ?_));go_frame;refine tkP 18 (.bool false) 24 rfl rfl a1 (tkP 19 (.bool false) 2 rfl rfl a1 ?_);go_frame;clear a1;refine wdn ?_;go_wp2_with fail
  go_ret;refine ⟨false, rfl, ?_, K5.hb⟩;have a6 := b0.out;have b5 := b4.out;have b6 := a9.out;unfold BanP;simp_all
 have b4 : Hid (0 ≤ t ∧ t ≤ 1000000) := (show 0 ≤ t ∧ t ≤ 1000000 from of_decide_eq_true a7.symm);clear a7;refine tkP 12 (.iface 246 (.agg #[.string a])) 18 rfl rfl a1 (tkP 13 (.pointer (some ⟨q1, 3, none⟩)) 19 rfl rfl a1 ?_);go_frame;refine tkL 14 (.int .i64 t) 20 rfl rfl (Or.inl ⟨by rfl, by intro W hW; have a2 := hW; have y3 := c4c a2; go_simp⟩) a1 ?_;go_frame;refine tkL 16 (.agg #[.int .i64 2, .string a, .string b, .int .i64 t]) 22 rfl rfl (Or.inl ⟨by rfl, by intro W hW; have a2 := hW; have y0 := c4c a2; go_simp⟩) a1 ?_;go_frame;refine rd1 15 rfl (fun K hK => ?_)
 go_simp;refine (cL9 a t _).mono ?_;rintro e w6 ⟨rfl, bw⟩;have K6 := jw K5 bw;clear bw K5;have a8 := (jb K6 0 rfl);refine hK.out _ _ a8 (fun _ => ?_)
 clear hK K a1;refine tkP 17 (.bool false) 23 rfl rfl a8 (tkP 18 (.bool false) 24 rfl rfl a8 (tkP 19 (.bool false) 2 rfl rfl a8 ?_));go_frame;clear a8;refine wdn ?_;go_wp2_with fail
 go_ret;refine ⟨false, rfl, ?_, K6.hb⟩;have a6 := b0.out;have b5 := b4.out;have b6 := a9.out;unfold BanP;simp_all
theorem cA3 (a b : Tx) (t : Int) (w : World) (ha : a.size ≤ maxLen) (hb : b.size ≤ maxLen) :
  Calls prog 124 #[.agg #[.int .i64 3, .string a, .string b, .int .i64 t]] w fun e w' => aA3 (BanP 3 a b t) w e w' := by
 classical
 have b6 := hid ha;have b7 := hid hb;have b9 : ∀ W : World, (binOp .neq 201 (.iface 248 (.agg #[.string a, .string b])) .nilIface).run prog W = .ok (.bool true) W := fun _ => by kernel_rfl
 have c0 : ∀ W : World, (nilAhead 157 248 (.agg #[.string a, .string b]) "loop.example/g00239/impl.right").run prog W = .ok (some false) W := fun _ => by kernel_rfl
 have c1 : ∀ W : World, (method 157 248 (.agg #[.string a, .string b]) "loop.example/g00239/impl.right").run prog W = .ok (334, .agg #[.string a, .string b]) W := fun _ => by kernel_rfl
 have c2 := bA5
 have c3 : ∀ W : World, (binOp .eql 62 (.agg #[.int .i64 3, .string a, .string b, .int .i64 t]) (.agg #[.int .i64 3, .string a, .string b, .int .i64 t])).run prog W = .ok (.bool true) W := fun W => by
  rw [bV3]
  first | (simp; done) | (have z := HB0.out; simp; exact fun e => z e.symm)
 clear ha hb;have K0 := jnil w;go_enter func124, ntmps124;go_upto_region 1 with fail
 obtain ⟨q1, b0⟩ := exq (w.heap.size);obtain ⟨w1, a4⟩ := exq (w.alloc (.cells #[.int .i64 3, .string a, .string b, .int .i64 t] 62));have b1 := b0.symm;rw [← a4]; try rw [← b0];have b8 := hsa a4 b1;have bw := bal a4;have K1 := ja K0 a4 b1;clear bw a4 b1 K0;clear b8 b0;have b2 := c4c (jb K1 0 rfl);go_wp2_with fail
 refine (cD5 a b t _).mono ?_;rintro e w2 ⟨rfl, bw⟩;have K2 := jw K1 bw;clear bw K1;clear b2;go_upto_region 2 with fail
 refine wp_region_held_drew (S := fun W => W.heap[q1]? = some (.cells #[.int .i64 3, .string a, .string b, .int .i64 t] 62)) (by kernel_rfl) (jb K2 0 rfl) (fun _ => ?_)
 obtain ⟨w3, hX⟩ := exq w2.drew;have bw := bdr hX;rw [← hX];have K3 := jw K2 bw;have a5 := (jb K3 0 rfl);clear bw hX K2;refine tkP 0 (.iface 248 (.agg #[.string a, .string b])) 6 rfl rfl a5 (tkP 1 (.bool true) 7 rfl rfl a5 (tkP 2 (.bool true) 8 rfl rfl a5 ?_));go_frame;refine tkP 3 (.iface 248 (.agg #[.string a, .string b])) 9 rfl rfl a5 ?_;go_frame;refine rd1 4 rfl (fun K hK => ?_)
 go_simp;refine (cT3 a b _ b6.out b7.out).mono ?_;rintro e w4 ⟨ur, rfl, a3, bw⟩;have K4 := jw K3 bw;clear bw K3;have a0 := (jb K4 0 rfl);refine hK.out _ _ a0 (fun _ => ?_)
 clear hK K a5;refine tkP 5 (.bool ur) 11 rfl rfl a0 (tkP 6 (.bool ur) 12 rfl rfl a0 ?_);go_frame;cases ur
 ·have a9 : Hid (¬ (aL9 a ∧ aM0 b)) := fun h => nomatch a3.2 h
  clear a3;refine tkN 7 13 rfl rfl a0 (tkN 8 14 rfl rfl a0 (tkN 9 15 rfl rfl a0 ?_));go_frame;refine tkP 10 (.bool false) 16 rfl rfl a0 (tkP 11 (.bool false) 17 rfl rfl a0 (tkN 12 18 rfl rfl a0 ?_));go_frame;refine tkN 13 19 rfl rfl a0 (tkN 14 20 rfl rfl a0 (tkN 15 21 rfl rfl a0 ?_));go_frame;refine tkN 16 22 rfl rfl a0 (tkN 17 23 rfl rfl a0 (tkP 18 (.bool false) 24 rfl rfl a0 ?_));go_frame;refine tkP 19 (.bool false) 2 rfl rfl a0 ?_;go_frame;clear a0;refine wdn ?_;go_wp2_with fail
  go_ret;refine ⟨false, rfl, ?_, K4.hb⟩;have a6 := a9.out;unfold BanP;simp_all
 have a9 : Hid (aL9 a ∧ aM0 b) := a3.1 rfl;clear a3;refine tkP 7 (.pointer (some ⟨q1, 3, none⟩)) 13 rfl rfl a0 ?_;go_frame;refine tkL 8 (.int .i64 t) 14 rfl rfl (Or.inl ⟨by rfl, by intro W hW; have a2 := hW; have y3 := c4c a2; go_simp⟩) a0 ?_;go_frame;refine rd1 9 rfl (fun K hK => ?_)
 go_simp;refine (aO8 t _).mono ?_;rintro e w5 ⟨rfl, b5⟩;have bw : Below w4.heap.size (w4) w5 := by rw [b5]; exact Below.refl _ _
 clear b5;obtain ⟨ut, a7⟩ : ∃ u, u = decide ((0 : Int) ≤ t ∧ t ≤ 1000000) := ⟨_, rfl⟩;rw [← a7];have K5 := jw K4 bw;clear bw K4;have a1 := (jb K5 0 rfl);refine hK.out _ _ a1 (fun _ => ?_)
 clear hK K a0;refine tkP 10 (.bool ut) 16 rfl rfl a1 (tkP 11 (.bool ut) 17 rfl rfl a1 ?_);go_frame;cases ut
 ·have b3 : Hid (¬ (0 ≤ t ∧ t ≤ 1000000)) := (show ¬ (0 ≤ t ∧ t ≤ 1000000) from of_decide_eq_false a7.symm);clear a7;refine tkN 12 18 rfl rfl a1 (tkN 13 19 rfl rfl a1 (tkN 14 20 rfl rfl a1 ?_));go_frame;refine tkN 15 21 rfl rfl a1 (tkN 16 22 rfl rfl a1 (tkN 17 23 rfl rfl a1 ?_));go_frame;refine tkP 18 (.bool false) 24 rfl rfl a1 (tkP 19 (.bool false) 2 rfl rfl a1 ?_);go_frame;clear a1;refine wdn ?_;go_wp2_with fail
  go_ret;refine ⟨false, rfl, ?_, K5.hb⟩;have a6 := a9.out;have b4 := b3.out;unfold BanP;simp_all
 have b3 : Hid (0 ≤ t ∧ t ≤ 1000000) := (show 0 ≤ t ∧ t ≤ 1000000 from of_decide_eq_true a7.symm);clear a7;refine tkP 12 (.iface 248 (.agg #[.string a, .string b])) 18 rfl rfl a1 (tkP 13 (.pointer (some ⟨q1, 3, none⟩)) 19 rfl rfl a1 ?_);go_frame;refine tkL 14 (.int .i64 t) 20 rfl rfl (Or.inl ⟨by rfl, by intro W hW; have a2 := hW; have y3 := c4c a2; go_simp⟩) a1 ?_;go_frame;refine tkL 16 (.agg #[.int .i64 3, .string a, .string b, .int .i64 t]) 22 rfl rfl (Or.inl ⟨by rfl, by intro W hW; have a2 := hW; have y0 := c4c a2; go_simp⟩) a1 ?_;go_frame;refine rd1 15 rfl (fun K hK => ?_)
 go_simp;refine (cT2 a b t _).mono ?_;rintro e w6 ⟨rfl, bw⟩;have K6 := jw K5 bw;clear bw K5;have a8 := (jb K6 0 rfl);refine hK.out _ _ a8 (fun _ => ?_)
 clear hK K a1;refine tkP 17 (.bool true) 23 rfl rfl a8 (tkP 18 (.bool true) 24 rfl rfl a8 (tkP 19 (.bool true) 2 rfl rfl a8 ?_));go_frame;clear a8;refine wdn ?_;go_wp2_with fail
 go_ret;refine ⟨true, rfl, ?_, K6.hb⟩;have a6 := a9.out;have b4 := b3.out;unfold BanP;simp_all
theorem bV8 (k : Int) (a b : Tx) (t : Int) (w : World) (h1 : ¬ k = 1) (h2 : ¬ k = 2) (h3 : ¬ k = 3) :
  Calls prog 124 #[.agg #[.int .i64 k, .string a, .string b, .int .i64 t]] w fun e w' => aA3 (BanP k a b t) w e w' := by
 have a5 : Hid (¬ k = 1) := h1;have a6 : Hid (¬ k = 2) := h2;have a7 : Hid (¬ k = 3) := h3;have a9 : ∀ W : World, (binOp .neq 201 .nilIface .nilIface).run prog W = .ok (.bool false) W := fun _ => by kernel_rfl
 clear h1 h2 h3;have K0 := jnil w;go_enter func124, ntmps124;go_upto_region 1 with fail
 obtain ⟨q1, a2⟩ := exq (w.heap.size);obtain ⟨w1, a1⟩ := exq (w.alloc (.cells #[.int .i64 k, .string a, .string b, .int .i64 t] 62));have a3 := a2.symm;rw [← a1]; try rw [← a2];have a8 := hsa a1 a3;have bw := bal a1;have K1 := ja K0 a1 a3;clear bw a1 a3 K0;clear a8 a2;have a4 := c4c (jb K1 0 rfl);go_wp2_with fail
 refine (cL7 k a b t _ a5.out a6.out a7.out).mono ?_;rintro e w2 ⟨rfl, bw⟩;have K2 := jw K1 bw;clear bw K1;clear a4;go_upto_region 2 with fail
 refine wp_region_held_drew (S := fun W => W.heap[q1]? = some (.cells #[.int .i64 k, .string a, .string b, .int .i64 t] 62)) (by kernel_rfl) (jb K2 0 rfl) (fun _ => ?_)
 obtain ⟨w3, hX⟩ := exq w2.drew;have bw := bdr hX;rw [← hX];have K3 := jw K2 bw;have a0 := (jb K3 0 rfl);clear bw hX K2;refine tkP 0 (.nilIface) 6 rfl rfl a0 (tkP 1 (.bool false) 7 rfl rfl a0 (tkP 2 (.bool false) 8 rfl rfl a0 ?_));go_frame;refine tkN 3 9 rfl rfl a0 (tkN 4 10 rfl rfl a0 (tkP 5 (.bool false) 11 rfl rfl a0 ?_));go_frame;refine tkP 6 (.bool false) 12 rfl rfl a0 (tkN 7 13 rfl rfl a0 (tkN 8 14 rfl rfl a0 ?_));go_frame;refine tkN 9 15 rfl rfl a0 (tkP 10 (.bool false) 16 rfl rfl a0 (tkP 11 (.bool false) 17 rfl rfl a0 ?_));go_frame;refine tkN 12 18 rfl rfl a0 (tkN 13 19 rfl rfl a0 (tkN 14 20 rfl rfl a0 ?_));go_frame;refine tkN 15 21 rfl rfl a0 (tkN 16 22 rfl rfl a0 (tkN 17 23 rfl rfl a0 ?_));go_frame;refine tkP 18 (.bool false) 24 rfl rfl a0 (tkP 19 (.bool false) 2 rfl rfl a0 ?_);go_frame;clear a0;refine wdn ?_;go_wp2_with fail
 go_ret;refine aA3.no ?_ K3.hb;intro h;rcases h.kinds with h | h | h
 ·exact a5.out h
 ·exact a6.out h
 exact a7.out h
theorem aL8 (k : Int) (a b : Tx) (t : Int) (w : World) (ha : a.size ≤ maxLen) (hb : b.size ≤ maxLen) :
  Calls prog 124 #[.agg #[.int .i64 k, .string a, .string b, .int .i64 t]] w fun e w' => aA3 (BanP k a b t) w e w' := by
 classical
 by_cases h1 : k = 1
 ·subst h1;by_cases h : b = ⟨#[]⟩
  rotate_left
  ·exact bV5 a b t w ha h
  subst h; exact bV4 a t w ha
 by_cases h2 : k = 2
 rotate_left
 ·by_cases h3 : k = 3
  rotate_left
  ·exact bV8 k a b t w h1 h2 h3
  subst h3; exact cA3 a b t w ha hb
 subst h2;by_cases h : b = ⟨#[]⟩
 rotate_left
 ·exact bV7 a b t w ha h
 subst h; exact bV6 a t w ha
end Go.Proofs.YtejoifianjgefaaGreatDoor
