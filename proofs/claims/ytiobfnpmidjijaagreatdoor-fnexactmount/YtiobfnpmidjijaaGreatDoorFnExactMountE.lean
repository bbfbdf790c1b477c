/- What the proof of FnExactMount leans on: contracts of the program's and the specification's functions, and plain facts (part 5 of 12). -/
import Derived.Test.YtiobfnpmidjijaaGreatDoorFnExactMountD
set_option maxHeartbeats 16000000
set_option maxRecDepth 100000
namespace Go.Proofs.YtiobfnpmidjijaaGreatDoor
open Go.Proofs.Tryz
open Go.RowKit
open Go.Lib hiding intOf
theorem bV0 (o1 : Oa) (n1 c1 : Nat) (v2 : Value) (n2 : Nat) (ws : List (Int × ByteArray)) (B : Nat) (w : World) (h : w.ownsRow B 128 2 v2 n2 (aA4 ws)) (hn2 : n2 ≤ 2000000) :
  Calls prog 68 #[.agg #[.slice o1 n1 c1, v2]] w fun e w' => aA5 (dB8 n1 ws) w e w' := by
 obtain ⟨oPx, pPx, rfl⟩ := aA0 h;have a2 := hid h;have b1 : Hid (ws.length = n2) := aV7 h;clear h;have K0 := jnil w;go_enter func68, ntmps68;go_upto_region 1 with fail
 obtain ⟨q1, b2⟩ := exq (w.heap.size);obtain ⟨w1, a6⟩ := exq (w.alloc (.cells #[.slice o1 n1 c1, .slice oPx n2 pPx] 27));have b3 := b2.symm;rw [← a6]; try rw [← b2];have c3 := hsa a6 b3;have bw := bal a6;have K1 := ja K0 a6 b3;have a3 := hown a2 bw;clear bw a6 b3 K0;clear c3 b2;go_wp2_with fail
 go_loopw [3] (fun i wr => ∃ j : Nat, j ≤ n2 ∧ i = .int .i64 (j : Int) ∧ Hid (Bw w (wr) ∧ wr.heap[q1]? = some (.cells #[.slice o1 n1 c1, .slice oPx n2 pPx] 27) ∧ wr.ownsRow B 128 2 (.slice oPx n2 pPx) n2 (aA4 ws)) ∧ Hid (∀ x ∈ ws.take j, 0 ≤ x.1 ∧ x.1 ≤ 19)) (fun i _ => n2 - (intOf i).toNat)
 case atStart => exact ⟨0, Nat.zero_le _, rfl, ⟨K1.hb, (jb K1 0 rfl), a3.out⟩, fun x hx => by simp at hx⟩
 case round =>
  obtain ⟨j, hj, rfl, HW, HN⟩ := hrel;by_cases hlt : (j : Int) < (n2 : Int)
  rotate_left
  ·have a5 := HW.out.1;have a1 := hid HW.out.2.1;have a0 : Hid (wr.ownsRow B 128 2 (.slice oPx n2 pPx) n2 (aA4 ws)) := HW.out.2.2;clear HW;have c4 : Hid (∀ x ∈ ws, 0 ≤ x.1 ∧ x.1 ≤ 19) := fun x hx => HN.out x (by rw [List.take_of_length_le (by rw [b1.out]; omega)]; exact hx)
   clear HN;have a7 := c2c a1.out;by_cases hc1 : (n1 : Int) = 20
   rotate_left
   ·have b4 : ((n1 : Int) == (20 : Int)) = false := by simpa using hc1
    have b5 : ((n1 : Int) != (20 : Int)) = true := by simpa using hc1
    have HE : Hid (¬ n1 = 20) := (by have := hc1; show ¬ _; omega);have b6 := hid hc1;clear hc1;have b7 := c2c a1.out;go_wp2_with fail
    go_ret;exact aA5.no (fun h => HE.out h.1) a5
   have b4 : ((n1 : Int) == (20 : Int)) = true := by simpa using hc1
   have b5 : ((n1 : Int) != (20 : Int)) = false := by simpa using hc1
   have HE : Hid (n1 = 20) := (by have := hc1; show _ = _; omega);have b6 := hid hc1;clear hc1;have b7 := c2c a1.out;by_cases hc2 : (n2 : Int) ≤ 16
   rotate_left
   ·have b8 : Hid (¬ n2 ≤ 16) := (by have := hc2; show ¬ _; omega);go_wp2_with fail
    go_ret;exact aA5.no (fun h => b8.out (by have := h.2.1; rw [b1.out] at this; exact this)) a5
   have b8 : Hid (n2 ≤ 16) := (by have := hc2; show _ ≤ _; omega);go_wp2_with fail
   go_ret;exact ⟨true, rfl, ⟨fun _ => ⟨HE.out, by rw [b1.out]; exact b8.out, c4.out⟩, fun _ => rfl⟩, a5⟩
  have a5 := HW.out.1;have a1 := hid HW.out.2.1;have a0 : Hid (wr.ownsRow B 128 2 (.slice oPx n2 pPx) n2 (aA4 ws)) := HW.out.2.2;clear HW;have b9 : j < ws.length := by rw [b1.out]; omega
  obtain ⟨g, rfl⟩ := aM6 a0.out (by omega);obtain ⟨y, hy⟩ := exq (aC6 ws j);have HM : Hid (y ∈ ws) := by show _ ∈ _; rw [hy]; exact aJ1 ws j b9
  have c5 : Hid (ws.take (j + 1) = ws.take j ++ [y]) := by show _ = _; rw [hy]; exact aU3 ws j b9
  have c6 : Hid (aC6 ws j = y) := hy.symm;clear hy b9;obtain ⟨y0, y1⟩ := y
  have a8 : Hid (∀ W : World, (W).ownsRow B 128 2 (.slice (some ⟨g, 0, none⟩) n2 pPx) n2 (aA4 ws) → (W.cell? ⟨g, j * 2, none⟩ = some (.int .i64 y0) ∧ W.cell? ⟨g, j * 2 + 1, none⟩ = some (.string y1))) := fun W h => by
   obtain ⟨g', hg, _, r0, r1⟩ := (aN6 h).2 j (by omega)
   cases hg
   rw [c6.out] at r0 r1
   exact ⟨r0, r1⟩
  obtain ⟨r0, r1⟩ := a8.out _ a0.out;have a7 := c2c a1.out;go_wp2_with fail
  refine (aU2 y0 0 19 _).mono ?_;rintro e w3 ⟨rfl, c2⟩;have bw : Below wr.heap.size (wr) w3 := by rw [c2]; exact Below.refl _ _
  clear c2;obtain ⟨uy, a9⟩ : ∃ u, u = decide ((0 : Int) ≤ y0 ∧ y0 ≤ 19) := ⟨_, rfl⟩;rw [← a9];have c0 := hbt a5 bw;have a4 := hown a0 bw;have b0 := hblk a1 bw;clear a5 bw;clear a7 r0 r1;have K3 := jz K1 c0 (jzb b0.out (jzn _));cases uy
  ·have c7 : Hid (¬ (0 ≤ y0 ∧ y0 ≤ 19)) := (show ¬ (0 ≤ y0 ∧ y0 ≤ 19) from of_decide_eq_false a9.symm);clear a9;go_wp2_with fail
   go_ret;exact aA5.no (fun h => c7.out (h.2.2 _ HM.out)) c0
  have HY : Hid (0 ≤ y0 ∧ y0 ≤ 19) := (show (0 ≤ y0 ∧ y0 ≤ 19) from of_decide_eq_true a9.symm);clear a9
  have c8 : Hid (∀ x ∈ ws.take (j + 1), 0 ≤ x.1 ∧ x.1 ≤ 19) := fun x hx => by
   rw [c5.out] at hx
   rcases List.mem_append.1 hx with hx | hx
   ·exact HN.out x hx
   ·rw [List.mem_singleton.1 hx]; exact HY.out
  go_wp2_with fail
  go_roundw
  case rel => exact ⟨j + 1, by omega, by go_num, ⟨c0, b0.out, a4.out⟩, c8⟩
  case measure => simp [intOf]; omega
theorem bC5 (v1 v2 : Value) (n1 : Nat) (cs : Ts) (n2 : Nat) (ws : List (Int × ByteArray)) (B : Nat) (w : World) (h : aJ3 w B v1 n1 cs v2 n2 ws) (_hn1 : n1 ≤ 2000000) (hn2 : n2 ≤ 2000000) :
  Calls prog 68 #[.agg #[v1, v2]] w fun e w' => aA5 (aR2 cs ws) w e w' := by
 obtain ⟨a0, a1, rfl⟩ := aA0 h.cells;have hl : cs.length = n1 := by have := h.cells.1; rw [List.length_map] at this; omega
 refine (bV0 a0 n1 a1 v2 n2 ws B w h.pend hn2).mono fun e w' hq => ?_
 show aA5 (dB8 cs.length ws) w e w'
 rw [hl];exact hq
theorem bR2 (w : World) :
  Calls prog 209 #[] w fun e w' => cI1 newC [] w e w' := by
 have b9 : ∀ W : World, (Instr.makeSlice 24 (.int .i64 20) (.int .i64 20)).run prog W = .ok (.slice (some ⟨W.heap.size, 0, none⟩) 20 20) (W.alloc (.cells #[.string ⟨#[]⟩, .string ⟨#[]⟩, .string ⟨#[]⟩, .string ⟨#[]⟩, .string ⟨#[]⟩, .string ⟨#[]⟩, .string ⟨#[]⟩, .string ⟨#[]⟩, .string ⟨#[]⟩, .string ⟨#[]⟩, .string ⟨#[]⟩, .string ⟨#[]⟩, .string ⟨#[]⟩, .string ⟨#[]⟩, .string ⟨#[]⟩, .string ⟨#[]⟩, .string ⟨#[]⟩, .string ⟨#[]⟩, .string ⟨#[]⟩, .string ⟨#[]⟩] 9)) := fun W => by
  obtain ⟨i0, hi, b2, a1, a0⟩ := info_parts bU4
  have h := run_make (P := prog) W 24 9 i0 (.string ⟨#[]⟩) underlying24 hi b2 .i64 .i64 20 20 (by omega) (by omega) (by rw [a0]; omega) (by omega)
  have hm : madeCells (Value.string ⟨#[]⟩).cells 20 = #[.string ⟨#[]⟩, .string ⟨#[]⟩, .string ⟨#[]⟩, .string ⟨#[]⟩, .string ⟨#[]⟩, .string ⟨#[]⟩, .string ⟨#[]⟩, .string ⟨#[]⟩, .string ⟨#[]⟩, .string ⟨#[]⟩, .string ⟨#[]⟩, .string ⟨#[]⟩, .string ⟨#[]⟩, .string ⟨#[]⟩, .string ⟨#[]⟩, .string ⟨#[]⟩, .string ⟨#[]⟩, .string ⟨#[]⟩, .string ⟨#[]⟩, .string ⟨#[]⟩] := by kernel_rfl
  rw [a1, show (Int.toNat 20 * 1) = 20 from rfl, hm] at h
  exact h
 have K0 := jnil w;go_enter func209, ntmps209;go_upto_region 1 with fail
 obtain ⟨q1, a7⟩ := exq (w.heap.size);obtain ⟨w1, a2⟩ := exq (w.alloc (.cells #[.slice none 0 0, .slice none 0 0] 27));have a1 := a7.symm;rw [← a2]; try rw [← a7];have b3 := hsa a2 a1;have bw := bal a2;have K1 := ja K0 a2 a1;clear bw a2 a1 K0;clear b3 a7;have b4 := c2c (jb K1 0 rfl);have a8 : ∀ o, (w1.alloc o).cell? ⟨q1, 0, none⟩ = some (.slice none 0 0) := fun o => (aA1 (aA6 (jb K1 0 rfl) ((Below.refl _ _).alloc (Nat.le_refl _) o)) 0).trans rfl
 have a5 : ∀ o, (w1.alloc o).frozen? ⟨q1, 0, none⟩ = false := fun o => aA2 (aA6 (jb K1 0 rfl) ((Below.refl _ _).alloc (Nat.le_refl _) o)) 0
 have b5 := c2f (jb K1 0 rfl);have a9 : ∀ o, (w1.alloc o).cell? ⟨q1, 1, none⟩ = some (.slice none 0 0) := fun o => (aA1 (aA6 (jb K1 0 rfl) ((Below.refl _ _).alloc (Nat.le_refl _) o)) 1).trans rfl
 have a6 : ∀ o, (w1.alloc o).frozen? ⟨q1, 1, none⟩ = false := fun o => aA2 (aA6 (jb K1 0 rfl) ((Below.refl _ _).alloc (Nat.le_refl _) o)) 1
 have b6 := jfr (jb K1 0 rfl);go_wp2_with fail
 obtain ⟨q2, b0⟩ := exq (w1.heap.size);obtain ⟨w2, a3⟩ := exq (w1.alloc (.cells #[.string ⟨#[]⟩, .string ⟨#[]⟩, .string ⟨#[]⟩, .string ⟨#[]⟩, .string ⟨#[]⟩, .string ⟨#[]⟩, .string ⟨#[]⟩, .string ⟨#[]⟩, .string ⟨#[]⟩, .string ⟨#[]⟩, .string ⟨#[]⟩, .string ⟨#[]⟩, .string ⟨#[]⟩, .string ⟨#[]⟩, .string ⟨#[]⟩, .string ⟨#[]⟩, .string ⟨#[]⟩, .string ⟨#[]⟩, .string ⟨#[]⟩, .string ⟨#[]⟩] 9));have a0 := b0.symm;rw [← a3]; try rw [← b0];have b7 := hsa a3 a0;have bw := bal a3;have K2 := ja K1 a3 a0;have b8 : Hid (w.heap.size ≤ q2) := by show _ ≤ _; rw [← a0]; exact K1.hb.size
 clear bw a3 a0 K1;obtain ⟨w4, b1⟩ := exq ((w2.setCell ⟨q1, 0, none⟩ (.slice (some ⟨q2, 0, none⟩) 20 20)).setCell ⟨q1, 1, none⟩ (.slice none 0 0));rw [← b1];have K4 := jss K2 1 [(0, _), (1, _)] b1;clear b1 K2;clear b7 b0;have a4 := c2c (jb K4 1 rfl);refine bodyPost_ret (v := .agg #[.slice (some ⟨q2, 0, none⟩) 20 20, .slice none 0 0]) (by simp [results, results209, go_sem, a4]) rfl ?_;exact ⟨_, _, rfl, ⟨⟨rfl, .inr ⟨_, 20, _, rfl, b8.out, (jb K4 0 rfl), Nat.le_refl _, by decide, rfl, rfl⟩⟩, World.ownsRow_nil _ _ _ _⟩, K4.hb⟩
theorem cO0 (v1 v2 : Value) (n1 : Nat) (cs : Ts) (n2 : Nat) (ws : List (Int × ByteArray)) (B : Nat) (w : World) (h : aJ3 w B v1 n1 cs v2 n2 ws) (hn1 : n1 ≤ 2000000) (hn2 : n2 ≤ 2000000) :
  Calls prog 112 #[.agg #[v1, v2]] w fun e w' => cI1 cs ws w e w' := by
 obtain ⟨h9, i0, e8, e9, f0⟩ := info_parts bU4;obtain ⟨i1, i2, f1, f2, f3⟩ := info_parts bP8;obtain ⟨d3, d4, rfl⟩ := aA0 h.cells;have f4 : Hid (w.ownsRow B 9 1 (.slice d3 n1 d4) n1 (cs.map Value.string)) := h.cells;have f5 : Hid (∀ g, (Value.ownBlock (.slice d3 n1 d4)) = some g → g < w.heap.size) := fun g hg => aB0 h.cells hg
 obtain ⟨d5, d6, rfl⟩ := aA0 h.pend;have f6 : Hid (w.ownsRow B 128 2 (.slice d5 n2 d6) n2 (aA4 ws)) := h.pend;have f7 : Hid (∀ g, (Value.ownBlock (.slice d5 n2 d6)) = some g → g < w.heap.size) := fun g hg => aB0 h.pend hg
 have i3 : Hid (cs.length = n1) := by have := h.cells.1; rw [List.length_map] at this; show _ = _; omega
 have i4 : Hid (ws.length = n2) := aV7 h.pend;clear h;have K0 := jnil w;go_enter func112, ntmps112;go_upto_region 1 with fail
 obtain ⟨q1, i5⟩ := exq (w.heap.size);obtain ⟨w1, h3⟩ := exq (w.alloc (.cells #[.slice d3 n1 d4, .slice d5 n2 d6] 27));have i6 := i5.symm;rw [← h3]; try rw [← i5];have j2 := hsa h3 i6;have bw := bal h3;have K1 := ja K0 h3 i6;have g6 := hsz bw;have f8 := hown f4 bw;have f9 := hown f6 bw;clear bw h3 i6 K0;obtain ⟨q2, i7⟩ := exq (q1 + 1);obtain ⟨w2, h4⟩ := exq (w1.alloc (.cells #[.slice none 0 0, .slice none 0 0] 27));have i8 : w1.heap.size = q2 := by rw [i7]; exact j2
 rw [← h4]; try rw [← i7];have j4 := hsa h4 i8;have bw := bal h4;have K2 := ja K1 h4 i8;have g7 := hsz bw;have g0 := hown f8 bw;have g1 := hown f9 bw;clear bw h4 i8 K1;clear j4 i7 j2 i5;go_upto_region 1 with fail
 refine wp_region_held_drew (S := fun W => W.heap[q1]? = some (.cells #[.slice d3 n1 d4, .slice d5 n2 d6] 27)) (by kernel_rfl) (jb K2 1 rfl) (fun _ => ?_)
 obtain ⟨w3, hX⟩ := exq w2.drew;have bw := bdr hX;rw [← hX];have K3 := jw K2 bw;have g8 := hsz bw;have d7 := hown g0 bw;have d8 := hown g1 bw;have g9 := (jb K3 1 rfl);clear bw hX K2;refine tkP 1 (.pointer (some ⟨q1, 0, none⟩)) 4 rfl rfl g9 ?_;go_frame;refine tkL 2 (.slice d3 n1 d4) 5 rfl rfl (Or.inl ⟨by rfl, by intro W hW; have g2 := hW; have y0 := c2c g2; go_simp⟩) g9 ?_;go_frame;refine tkP 5 (.pointer (some ⟨q1, 1, none⟩)) 8 rfl rfl g9 ?_;go_frame;refine tkL 6 (.slice d5 n2 d6) 9 rfl rfl (Or.inl ⟨by rfl, by intro W hW; have g2 := hW; have y1 := c2c g2; go_simp⟩) g9 ?_;go_frame;refine wpAnyH_ready (rs := [0, 4]) (by kernel_rfl) (by simp) ?_;refine AllReadyH.cons rfl (fun K hK => ?_) (AllReadyH.cons rfl (fun K hK => ?_) AllReadyH.nil)
 ·go_simp;have bw : Below w3.heap.size w3 (w3.alloc (.cells #[] 9)) := (Below.refl _ _).alloc (Nat.le_refl _) _;have d0 := aA6 (jb K3 1 rfl) bw;refine hK.out _ _ d0 (fun _ => ?_)
  clear hK K d0 bw g9;obtain ⟨q3, e5⟩ := exq (w3.heap.size);obtain ⟨w4, c2⟩ := exq ((w3.alloc (.cells #[] 9)));rw [← e5, ← c2];have bw := bal c2;have K4 := ja K3 c2 e5.symm;have g3 := hsz bw;have c0 := hown d7 bw;have c1 := hown d8 bw;have i9 : Hid (w.heap.size ≤ q3) := by show _ ≤ _; rw [e5]; exact K3.hb.size
  have h8 := (jb K4 2 rfl);have g4 : Hid (w3.heap.size ≤ q3) := by show _ ≤ _; omega
  clear bw c2 e5 K3;have a8 : Hid (w4.ownsRow w.heap.size 9 1 (.slice (some ⟨q3, 0, none⟩) 0 0) 0 []) := ⟨rfl, .inr ⟨_, 0, #[], rfl, i9.out, (jb K4 0 rfl), Nat.le_refl _, Nat.zero_le _, rfl, rfl⟩⟩;have d1 : Hid (∀ g, (Value.ownBlock (.slice (some ⟨q3, 0, none⟩) 0 0)) = some g → w3.heap.size ≤ g) := fun g hg => by simp [Value.ownBlock] at hg; have := g4.out; omega
  refine wpAnyH_ready (rs := [3, 4]) (by kernel_rfl) (by simp) ?_;refine AllReadyH.cons rfl (fun K hK => ?_) (AllReadyH.cons rfl (fun K hK => ?_) AllReadyH.nil)
  ·have c6 : 0 + n1 ≤ maxLen := by unfold maxLen; omega
   have c7 : (0 + n1) * 16 ≤ 140737488355328 := by omega
   refine aI7 (w := w4) (by rfl) _ _ _ (by rfl) w.heap.size 9 h9 (.string ⟨#[]⟩) 1 16 underlying24 i0 e8 e9 f0 rfl (by decide) _ _ _ (by rfl) a8.out _ _ _ (by rfl) (Src.texts c0.out) c6 c7 K4.hb.size ?_;intro v1 w5 a1 a0;rw [Nat.zero_add, List.nil_append] at a1;have j0 : Bw w (w5) := K4.hb.grown a0 K4.hb.size (fun g hg => aC8 a8.out hg)
   have h5 := hid a0.size;have b1 : Hid (w5.ownsRow B 9 1 (.slice d3 n1 d4) n1 (cs.map Value.string)) := aA9 c0.out (fun g hg => a0.block g (aB0 c0.out hg) (fun e => (fun e => by have h1 := d1.out g e; have h2 := f5.out g hg; have := g6.out; have := g7.out; have := g8.out; have := g3.out; omega) e.symm))
   have b2 : Hid (w5.ownsRow B 128 2 (.slice d5 n2 d6) n2 (aA4 ws)) := aA9 c1.out (fun g hg => a0.block g (aB0 c1.out hg) (fun e => (aD7 c1.out a8.out (by decide) g hg) e.symm))
   obtain ⟨a9, b0, rfl⟩ := aA0 a1;have d9 := hid a1;have K5 := jz K4 j0 (jzx (jzb (jgB a0 a8.out (jb K4 1 rfl)) (jzb (jgB a0 a8.out (jb K4 2 rfl)) (jzn _))));clear a1 a0 c6 c7 K4;simp only [Act.put, List.setIfInBounds_toArray]
   have h0 := (jb K5 1 rfl);refine hK.out _ _ h0 (fun _ => ?_)
   clear hK K h8;refine rd1 4 rfl (fun K hK => ?_)
   go_simp;have bw : Below w5.heap.size w5 (w5.alloc (.cells #[] 128)) := (Below.refl _ _).alloc (Nat.le_refl _) _;have d0 := aA6 (jb K5 1 rfl) bw;refine hK.out _ _ d0 (fun _ => ?_)
   clear hK K d0 bw h0;obtain ⟨q4, d2⟩ := exq (w5.heap.size);obtain ⟨w6, c2⟩ := exq ((w5.alloc (.cells #[] 128)));rw [← d2, ← c2];have bw := bal c2;have K6 := ja K5 c2 d2.symm;have j1 := hsz bw;have a5 := hown b1 bw;have a6 := hown b2 bw;have a7 := hown d9 bw;have h6 : Hid (w.heap.size ≤ q4) := by show _ ≤ _; rw [d2]; exact j0.size
   have g5 := (jb K6 2 rfl);have e0 : Hid (w5.heap.size ≤ q4) := by show _ ≤ _; omega
   clear j0 bw c2 d2 K5;have a2 : Hid (w6.ownsRow w.heap.size 128 2 (.slice (some ⟨q4, 0, none⟩) 0 0) 0 []) := ⟨rfl, .inr ⟨_, 0, #[], rfl, h6.out, (jb K6 0 rfl), Nat.le_refl _, Nat.zero_le _, rfl, rfl⟩⟩;have c8 : Hid (∀ g, (Value.ownBlock (.slice (some ⟨q4, 0, none⟩) 0 0)) = some g → w5.heap.size ≤ g) := fun g hg => by simp [Value.ownBlock] at hg; have := e0.out; omega
   refine rd1 7 rfl (fun K hK => ?_)
   have c6 : 0 + n2 ≤ maxLen := by unfold maxLen; omega
   have c7 : (0 + n2) * 24 ≤ 140737488355328 := by omega
   refine aI7 (w := w6) (by rfl) _ _ _ (by rfl) w.heap.size 128 i1 (.agg #[.int .i64 0, .string ⟨#[]⟩]) 2 24 underlying25 i2 f1 f2 f3 rfl (by decide) _ _ _ (by rfl) a2.out _ _ _ (by rfl) (Src.of_owns a6.out (aU8 _)) c6 c7 K6.hb.size ?_;intro v1 w7 a1 a0;rw [Nat.zero_add, List.nil_append] at a1;have e6 : Bw w (w7) := K6.hb.grown a0 K6.hb.size (fun g hg => aC8 a2.out hg)
   have j3 := hid a0.size;have c3 : Hid (w7.ownsRow B 9 1 (.slice d3 n1 d4) n1 (cs.map Value.string)) := aA9 a5.out (fun g hg => a0.block g (aB0 a5.out hg) (fun e => (aD7 a5.out a2.out (by decide) g hg) e.symm))
   have c4 : Hid (w7.ownsRow B 128 2 (.slice d5 n2 d6) n2 (aA4 ws)) := aA9 a6.out (fun g hg => a0.block g (aB0 a6.out hg) (fun e => (fun e => by have h1 := c8.out g e; have h2 := f7.out g hg; have := g6.out; have := g7.out; have := g8.out; have := g3.out; have := h5.out; have := j1.out; omega) e.symm))
   have b5 : Hid (w7.ownsRow w.heap.size 9 1 (.slice a9 n1 b0) n1 (cs.map Value.string)) := aA9 a7.out (fun g hg => a0.block g (aB0 a7.out hg) (fun e => (aD7 a7.out a2.out (by decide) g hg) e.symm))
   obtain ⟨b3, b4, rfl⟩ := aA0 a1;have b6 := hid a1;have K7 := jz K6 e6 (jzx (jzb (jgB a0 a2.out (jb K6 1 rfl)) (jzb (jgB a0 a2.out (jb K6 2 rfl)) (jzn _))));clear a1 a0 c6 c7 K6;simp only [Act.put]
   have e1 := (jb K7 1 rfl);refine hK.out _ _ e1 (fun _ => ?_)
   clear hK K g5;refine tkP 8 (.agg #[.slice a9 n1 b0, .slice b3 n2 b4]) 11 rfl rfl e1 ?_;simp only [Act.put]
   refine rd1 9 rfl (fun K hK => ?_)
   have h7 := c2f (jb K7 0 rfl);obtain ⟨w8, hY⟩ := exq (((w7.setCell ⟨q2, 0, none⟩ (.slice a9 n1 b0)).setCell ⟨q2, 1, none⟩ (.slice b3 n2 b4)));have HY := hsy hY;have K8 := jss K7 0 [(0, _), (1, _)] hY;have e2 := hid (jrr [(0, _), (1, _)] c3.out hY (jb K7 0 rfl));have e3 := hid (jrr [(0, _), (1, _)] c4.out hY (jb K7 0 rfl));have b7 := hid (jrr [(0, _), (1, _)] b5.out hY (jb K7 0 rfl));have b8 := hid (jrr [(0, _), (1, _)] b6.out hY (jb K7 0 rfl));clear hY e6 K7;go_simp;rw [HY.out];have e7 := (jb K8 1 rfl);refine hK.out _ _ e7 (fun _ => ?_)
   clear hK K HY e1 h7;clear e7;refine wdn ?_;go_wp2_with fail
   have c9 := c2c (jb K8 0 rfl);refine bodyPost_ret (v := .agg #[.slice a9 n1 b0, .slice b3 n2 b4]) (by simp [results, results112, go_sem, c9]) rfl ?_;exact ⟨_, _, rfl, ⟨by rw [i3.out]; exact b7.out, by rw [i4.out]; exact b8.out⟩, K8.hb⟩
  go_simp;have bw : Below w4.heap.size w4 (w4.alloc (.cells #[] 128)) := (Below.refl _ _).alloc (Nat.le_refl _) _;have d0 := aA6 (jb K4 2 rfl) bw;refine hK.out _ _ d0 (fun _ => ?_)
  clear hK K d0 bw h8;obtain ⟨q4, d2⟩ := exq (w4.heap.size);obtain ⟨w5, c2⟩ := exq ((w4.alloc (.cells #[] 128)));rw [← d2, ← c2];have bw := bal c2;have K5 := ja K4 c2 d2.symm;have h5 := hsz bw;have b1 := hown c0 bw;have b2 := hown c1 bw;have a3 := hown a8 bw;have h6 : Hid (w.heap.size ≤ q4) := by show _ ≤ _; rw [d2]; exact K4.hb.size
  have h0 := (jb K5 3 rfl);have e0 : Hid (w4.heap.size ≤ q4) := by show _ ≤ _; omega
  clear bw c2 d2 K4;have a4 : Hid (w5.ownsRow w.heap.size 128 2 (.slice (some ⟨q4, 0, none⟩) 0 0) 0 []) := ⟨rfl, .inr ⟨_, 0, #[], rfl, h6.out, (jb K5 0 rfl), Nat.le_refl _, Nat.zero_le _, rfl, rfl⟩⟩;have c8 : Hid (∀ g, (Value.ownBlock (.slice (some ⟨q4, 0, none⟩) 0 0)) = some g → w4.heap.size ≤ g) := fun g hg => by simp [Value.ownBlock] at hg; have := e0.out; omega
  refine rd1 3 rfl (fun K hK => ?_)
  have c6 : 0 + n1 ≤ maxLen := by unfold maxLen; omega
  have c7 : (0 + n1) * 16 ≤ 140737488355328 := by omega
  refine aI7 (w := w5) (by rfl) _ _ _ (by rfl) w.heap.size 9 h9 (.string ⟨#[]⟩) 1 16 underlying24 i0 e8 e9 f0 rfl (by decide) _ _ _ (by rfl) a3.out _ _ _ (by rfl) (Src.texts b1.out) c6 c7 K5.hb.size ?_;intro v1 w6 a1 a0;rw [Nat.zero_add, List.nil_append] at a1;have e4 : Bw w (w6) := K5.hb.grown a0 K5.hb.size (fun g hg => aC8 a3.out hg)
  have j1 := hid a0.size;have a5 : Hid (w6.ownsRow B 9 1 (.slice d3 n1 d4) n1 (cs.map Value.string)) := aA9 b1.out (fun g hg => a0.block g (aB0 b1.out hg) (fun e => (fun e => by have h1 := d1.out g e; have h2 := f5.out g hg; have := g6.out; have := g7.out; have := g8.out; have := g3.out; omega) e.symm))
  have a6 : Hid (w6.ownsRow B 128 2 (.slice d5 n2 d6) n2 (aA4 ws)) := aA9 b2.out (fun g hg => a0.block g (aB0 b2.out hg) (fun e => (aD7 b2.out a3.out (by decide) g hg) e.symm))
  have a2 : Hid (w6.ownsRow w.heap.size 128 2 (.slice (some ⟨q4, 0, none⟩) 0 0) 0 []) := aA9 a4.out (fun g hg => a0.block g (aB0 a4.out hg) (fun e => (aD7 a4.out a3.out (by decide) g hg) e.symm))
  obtain ⟨a9, b0, rfl⟩ := aA0 a1;have a7 := hid a1;have K6 := jz K5 e4 (jzx (jzx (jzb (jgB a0 a3.out (jb K5 2 rfl)) (jzb (jgB a0 a3.out (jb K5 3 rfl)) (jzn _)))));clear a1 a0 c6 c7 K5;simp only [Act.put, List.setIfInBounds_toArray]
  have g5 := (jb K6 1 rfl);refine hK.out _ _ g5 (fun _ => ?_)
  clear hK K h0;refine rd1 7 rfl (fun K hK => ?_)
  have c6 : 0 + n2 ≤ maxLen := by unfold maxLen; omega
  have c7 : (0 + n2) * 24 ≤ 140737488355328 := by omega
  refine aI7 (w := w6) (by rfl) _ _ _ (by rfl) w.heap.size 128 i1 (.agg #[.int .i64 0, .string ⟨#[]⟩]) 2 24 underlying25 i2 f1 f2 f3 rfl (by decide) _ _ _ (by rfl) a2.out _ _ _ (by rfl) (Src.of_owns a6.out (aU8 _)) c6 c7 e4.size ?_;intro v1 w7 a1 a0;rw [Nat.zero_add, List.nil_append] at a1;have e6 : Bw w (w7) := e4.grown a0 e4.size (fun g hg => aC8 a2.out hg)
  have j3 := hid a0.size;have c3 : Hid (w7.ownsRow B 9 1 (.slice d3 n1 d4) n1 (cs.map Value.string)) := aA9 a5.out (fun g hg => a0.block g (aB0 a5.out hg) (fun e => (aD7 a5.out a2.out (by decide) g hg) e.symm))
  have c4 : Hid (w7.ownsRow B 128 2 (.slice d5 n2 d6) n2 (aA4 ws)) := aA9 a6.out (fun g hg => a0.block g (aB0 a6.out hg) (fun e => (fun e => by have h1 := c8.out g e; have h2 := f7.out g hg; have := g6.out; have := g7.out; have := g8.out; have := g3.out; have := h5.out; omega) e.symm))
  have b5 : Hid (w7.ownsRow w.heap.size 9 1 (.slice a9 n1 b0) n1 (cs.map Value.string)) := aA9 a7.out (fun g hg => a0.block g (aB0 a7.out hg) (fun e => (aD7 a7.out a2.out (by decide) g hg) e.symm))
  obtain ⟨b3, b4, rfl⟩ := aA0 a1;have b6 := hid a1;have K7 := jz K6 e6 (jzb (jgB a0 a2.out (jb K6 0 rfl)) (jzb (jgB a0 a2.out (jb K6 1 rfl)) (jzn _)));clear e4 a1 a0 c6 c7 K6;simp only [Act.put]
  have e1 := (jb K7 1 rfl);refine hK.out _ _ e1 (fun _ => ?_)
  clear hK K g5;refine tkP 8 (.agg #[.slice a9 n1 b0, .slice b3 n2 b4]) 11 rfl rfl e1 ?_;simp only [Act.put]
  refine rd1 9 rfl (fun K hK => ?_)
  have h7 := c2f (jb K7 0 rfl);obtain ⟨w8, hY⟩ := exq (((w7.setCell ⟨q2, 0, none⟩ (.slice a9 n1 b0)).setCell ⟨q2, 1, none⟩ (.slice b3 n2 b4)));have HY := hsy hY;have K8 := jss K7 0 [(0, _), (1, _)] hY;have e2 := hid (jrr [(0, _), (1, _)] c3.out hY (jb K7 0 rfl));have e3 := hid (jrr [(0, _), (1, _)] c4.out hY (jb K7 0 rfl));have b7 := hid (jrr [(0, _), (1, _)] b5.out hY (jb K7 0 rfl));have b8 := hid (jrr [(0, _), (1, _)] b6.out hY (jb K7 0 rfl));clear hY e6 K7;go_simp;rw [HY.out];have e7 := (jb K8 1 rfl);refine hK.out _ _ e7 (fun _ => ?_)
  clear hK K HY e1 h7;clear e7;refine wdn ?_;go_wp2_with fail
  have c9 := c2c (jb K8 0 rfl);refine bodyPost_ret (v := .agg #[.slice a9 n1 b0, .slice b3 n2 b4]) (by simp [results, results112, go_sem, c9]) rfl ?_;exact ⟨_, _, rfl, ⟨by rw [i3.out]; exact b7.out, by rw [i4.out]; exact b8.out⟩, K8.hb⟩
 go_simp;have bw : Below w3.heap.size w3 (w3.alloc (.cells #[] 128)) := (Below.refl _ _).alloc (Nat.le_refl _) _;have d0 := aA6 (jb K3 1 rfl) bw;refine hK.out _ _ d0 (fun _ => ?_)
 clear hK K d0 bw g9;obtain ⟨q3, e5⟩ := exq (w3.heap.size);obtain ⟨w4, c2⟩ := exq ((w3.alloc (.cells #[] 128)));rw [← e5, ← c2];have bw := bal c2;have K4 := ja K3 c2 e5.symm;have g3 := hsz bw;have c0 := hown d7 bw;have c1 := hown d8 bw;have i9 : Hid (w.heap.size ≤ q3) := by show _ ≤ _; rw [e5]; exact K3.hb.size
 have h8 := (jb K4 2 rfl);have g4 : Hid (w3.heap.size ≤ q3) := by show _ ≤ _; omega
 clear bw c2 e5 K3;have a8 : Hid (w4.ownsRow w.heap.size 128 2 (.slice (some ⟨q3, 0, none⟩) 0 0) 0 []) := ⟨rfl, .inr ⟨_, 0, #[], rfl, i9.out, (jb K4 0 rfl), Nat.le_refl _, Nat.zero_le _, rfl, rfl⟩⟩;have d1 : Hid (∀ g, (Value.ownBlock (.slice (some ⟨q3, 0, none⟩) 0 0)) = some g → w3.heap.size ≤ g) := fun g hg => by simp [Value.ownBlock] at hg; have := g4.out; omega
 refine rd1 0 rfl (fun K hK => ?_)
 go_simp;have bw : Below w4.heap.size w4 (w4.alloc (.cells #[] 9)) := (Below.refl _ _).alloc (Nat.le_refl _) _;have d0 := aA6 (jb K4 2 rfl) bw;refine hK.out _ _ d0 (fun _ => ?_)
 clear hK K d0 bw h8;obtain ⟨q4, d2⟩ := exq (w4.heap.size);obtain ⟨w5, c2⟩ := exq ((w4.alloc (.cells #[] 9)));rw [← d2, ← c2];have bw := bal c2;have K5 := ja K4 c2 d2.symm;have h5 := hsz bw;have b1 := hown c0 bw;have b2 := hown c1 bw;have a3 := hown a8 bw;have h6 : Hid (w.heap.size ≤ q4) := by show _ ≤ _; rw [d2]; exact K4.hb.size
 have h0 := (jb K5 3 rfl);have e0 : Hid (w4.heap.size ≤ q4) := by show _ ≤ _; omega
 clear bw c2 d2 K4;have a4 : Hid (w5.ownsRow w.heap.size 9 1 (.slice (some ⟨q4, 0, none⟩) 0 0) 0 []) := ⟨rfl, .inr ⟨_, 0, #[], rfl, h6.out, (jb K5 0 rfl), Nat.le_refl _, Nat.zero_le _, rfl, rfl⟩⟩;have c8 : Hid (∀ g, (Value.ownBlock (.slice (some ⟨q4, 0, none⟩) 0 0)) = some g → w4.heap.size ≤ g) := fun g hg => by simp [Value.ownBlock] at hg; have := e0.out; omega
 refine rd1 3 rfl (fun K hK => ?_)
 have c6 : 0 + n1 ≤ maxLen := by unfold maxLen; omega
 have c7 : (0 + n1) * 16 ≤ 140737488355328 := by omega
 refine aI7 (w := w5) (by rfl) _ _ _ (by rfl) w.heap.size 9 h9 (.string ⟨#[]⟩) 1 16 underlying24 i0 e8 e9 f0 rfl (by decide) _ _ _ (by rfl) a4.out _ _ _ (by rfl) (Src.texts b1.out) c6 c7 K5.hb.size ?_;intro v1 w6 a1 a0;rw [Nat.zero_add, List.nil_append] at a1;have e4 : Bw w (w6) := K5.hb.grown a0 K5.hb.size (fun g hg => aC8 a4.out hg)
 have j1 := hid a0.size;have a5 : Hid (w6.ownsRow B 9 1 (.slice d3 n1 d4) n1 (cs.map Value.string)) := aA9 b1.out (fun g hg => a0.block g (aB0 b1.out hg) (fun e => (fun e => by have h1 := c8.out g e; have h2 := f5.out g hg; have := g6.out; have := g7.out; have := g8.out; have := g3.out; have := h5.out; omega) e.symm))
 have a6 : Hid (w6.ownsRow B 128 2 (.slice d5 n2 d6) n2 (aA4 ws)) := aA9 b2.out (fun g hg => a0.block g (aB0 b2.out hg) (fun e => (aD7 b2.out a4.out (by decide) g hg) e.symm))
 have b9 : Hid (w6.ownsRow w.heap.size 128 2 (.slice (some ⟨q3, 0, none⟩) 0 0) 0 []) := aA9 a3.out (fun g hg => a0.block g (aB0 a3.out hg) (fun e => (aD7 a3.out a4.out (by decide) g hg) e.symm))
 obtain ⟨b3, b4, rfl⟩ := aA0 a1;have c5 := hid a1;have K6 := jz K5 e4 (jzx (jzx (jzb (jgB a0 a4.out (jb K5 2 rfl)) (jzb (jgB a0 a4.out (jb K5 3 rfl)) (jzn _)))));clear a1 a0 c6 c7 K5;simp only [Act.put, List.setIfInBounds_toArray]
 have g5 := (jb K6 1 rfl);refine hK.out _ _ g5 (fun _ => ?_)
 clear hK K h0;refine rd1 7 rfl (fun K hK => ?_)
 have c6 : 0 + n2 ≤ maxLen := by unfold maxLen; omega
 have c7 : (0 + n2) * 24 ≤ 140737488355328 := by omega
 refine aI7 (w := w6) (by rfl) _ _ _ (by rfl) w.heap.size 128 i1 (.agg #[.int .i64 0, .string ⟨#[]⟩]) 2 24 underlying25 i2 f1 f2 f3 rfl (by decide) _ _ _ (by rfl) b9.out _ _ _ (by rfl) (Src.of_owns a6.out (aU8 _)) c6 c7 e4.size ?_;intro v1 w7 a1 a0;rw [Nat.zero_add, List.nil_append] at a1;have e6 : Bw w (w7) := e4.grown a0 e4.size (fun g hg => aC8 b9.out hg)
 have j3 := hid a0.size;have c3 : Hid (w7.ownsRow B 9 1 (.slice d3 n1 d4) n1 (cs.map Value.string)) := aA9 a5.out (fun g hg => a0.block g (aB0 a5.out hg) (fun e => (aD7 a5.out b9.out (by decide) g hg) e.symm))
 have c4 : Hid (w7.ownsRow B 128 2 (.slice d5 n2 d6) n2 (aA4 ws)) := aA9 a6.out (fun g hg => a0.block g (aB0 a6.out hg) (fun e => (fun e => by have h1 := d1.out g e; have h2 := f7.out g hg; have := g6.out; have := g7.out; have := g8.out; have := g3.out; omega) e.symm))
 have b6 : Hid (w7.ownsRow w.heap.size 9 1 (.slice b3 n1 b4) n1 (cs.map Value.string)) := aA9 c5.out (fun g hg => a0.block g (aB0 c5.out hg) (fun e => (aD7 c5.out b9.out (by decide) g hg) e.symm))
 obtain ⟨a9, b0, rfl⟩ := aA0 a1;have b5 := hid a1;have K7 := jz K6 e6 (jzb (jgB a0 b9.out (jb K6 0 rfl)) (jzb (jgB a0 b9.out (jb K6 1 rfl)) (jzn _)));clear e4 a1 a0 c6 c7 K6;simp only [Act.put]
 have e1 := (jb K7 1 rfl);refine hK.out _ _ e1 (fun _ => ?_)
 clear hK K g5;refine tkP 8 (.agg #[.slice b3 n1 b4, .slice a9 n2 b0]) 11 rfl rfl e1 ?_;simp only [Act.put]
 refine rd1 9 rfl (fun K hK => ?_)
 have h7 := c2f (jb K7 0 rfl);obtain ⟨w8, hY⟩ := exq (((w7.setCell ⟨q2, 0, none⟩ (.slice b3 n1 b4)).setCell ⟨q2, 1, none⟩ (.slice a9 n2 b0)));have HY := hsy hY;have K8 := jss K7 0 [(0, _), (1, _)] hY;have e2 := hid (jrr [(0, _), (1, _)] c3.out hY (jb K7 0 rfl));have e3 := hid (jrr [(0, _), (1, _)] c4.out hY (jb K7 0 rfl));have b8 := hid (jrr [(0, _), (1, _)] b6.out hY (jb K7 0 rfl));have b7 := hid (jrr [(0, _), (1, _)] b5.out hY (jb K7 0 rfl));clear hY e6 K7;go_simp;rw [HY.out];have e7 := (jb K8 1 rfl);refine hK.out _ _ e7 (fun _ => ?_)
 clear hK K HY e1 h7;clear e7;refine wdn ?_;go_wp2_with fail
 have c9 := c2c (jb K8 0 rfl);refine bodyPost_ret (v := .agg #[.slice b3 n1 b4, .slice a9 n2 b0]) (by simp [results, results112, go_sem, c9]) rfl ?_;exact ⟨_, _, rfl, ⟨by rw [i3.out]; exact b8.out, by rw [i4.out]; exact b7.out⟩, K8.hb⟩
theorem aZ4 (v1 v2 : Value) (n1 : Nat) (cs : Ts) (n2 : Nat) (ws : List (Int × ByteArray)) (B : Nat) (w : World) (h : aJ3 w B v1 n1 cs v2 n2 ws) (hn1 : n1 ≤ 2000000) (hn2 : n2 ≤ 2000000) (x : Int) :
  Calls prog 108 #[.agg #[v1, v2], .int .i64 x] w fun e w' => aD5 (aL5 cs ws x) w e w' := by
 obtain ⟨d0, pCx, rfl⟩ := aA0 h.cells;have a7 : Hid (w.ownsRow B 9 1 (.slice d0 n1 pCx) n1 (cs.map Value.string)) := h.cells;obtain ⟨oPx, pPx, rfl⟩ := aA0 h.pend;have a8 : Hid (w.ownsRow B 128 2 (.slice oPx n2 pPx) n2 (aA4 ws)) := h.pend;have d1 : Hid (cs.length = n1) := by have := h.cells.1; rw [List.length_map] at this; show _ = _; omega
 have d2 : Hid (ws.length = n2) := aV7 h.pend;clear h;have K0 := jnil w;go_enter func108, ntmps108;go_upto_region 1 with fail
 obtain ⟨q1, b7⟩ := exq (w.heap.size);obtain ⟨w1, b3⟩ := exq (w.alloc (.cells #[.slice d0 n1 pCx, .slice oPx n2 pPx] 27));have b8 := b7.symm;rw [← b3]; try rw [← b7];have d6 := hsa b3 b8;have bw := bal b3;have K1 := ja K0 b3 b8;have a3 := hown a7 bw;have a4 := hown a8 bw;clear bw b3 b8 K0;clear d6 b7;have a9 := c2c (jb K1 0 rfl);go_wp2_with fail
 refine (bC5 _ _ n1 cs n2 ws B _ ⟨a3.out, a4.out⟩ hn1 hn2).mono ?_;rintro e w2 ⟨uo, rfl, a6, bw⟩;have K2 := jw K1 bw;have b0 := hown a3 bw;have b1 := hown a4 bw;clear bw K1;clear a9;cases uo
 ·have d7 : Hid (¬ aR2 cs ws) := fun h => nomatch a6.2 h
  clear a6;go_wp2_with fail
  go_ret;exact ⟨by rw [cR7 (fun h => d7.out h.1)]; rfl, K2.hb⟩
 have d3 : Hid (aR2 cs ws) := a6.1 rfl;clear a6;go_wp2_with fail
 refine (aU2 x 0 19 _).mono ?_;rintro e w3 ⟨rfl, d4⟩;have bw : Below w2.heap.size (w2) w3 := by rw [d4]; exact Below.refl _ _
 clear d4;obtain ⟨ui, b4⟩ : ∃ u, u = decide ((0 : Int) ≤ x ∧ x ≤ 19) := ⟨_, rfl⟩;rw [← b4];have K3 := jw K2 bw;have a1 := hown b0 bw;have b2 := hown b1 bw;clear bw K2;cases ui
 ·have d8 : Hid (¬ (0 ≤ x ∧ x ≤ 19)) := (show ¬ (0 ≤ x ∧ x ≤ 19) from of_decide_eq_false b4.symm);clear b4;go_wp2_with fail
  go_ret;exact ⟨by rw [cR7 (fun h => d8.out h.2)]; rfl, K3.hb⟩
 have d5 : Hid (0 ≤ x ∧ x ≤ 19) := (show (0 ≤ x ∧ x ≤ 19) from of_decide_eq_true b4.symm);clear b4;obtain ⟨m, hm⟩ : ∃ m : Nat, x = (m : Int) := ⟨x.toNat, by have := d5.out; omega⟩;subst hm;have b9 : m ≤ 19 := by have := d5.out; omega
 have d9 := hid b9;have c0 : n1 = 20 := by rw [← d1.out]; exact d3.out.1
 obtain ⟨gC, rfl⟩ := aM6 a1.out (by omega);obtain ⟨rc, _⟩ := bD5 a1.out m (.string (aA7 cs m)) (by rw [List.getElem?_map, aU9 cs m (by rw [d1.out]; omega)]; rfl);obtain ⟨zt, c1⟩ := exq (bF1 cs ws m 0);have e0 := hid c1;rw [show aA7 cs m = zt from c1.symm] at rc;have e1 : (m : Int) < (n1 : Int) := by omega
 clear c1 c0;have a9 := c2c (jb K3 0 rfl);go_wp2_with fail
 clear rc a9;clear e1;go_loopw [5, 6] (fun o i wr => ∃ (j : Nat) (z : Tx), j ≤ n2 ∧ i = .int .i64 (j : Int) ∧ o = .string z ∧ Hid (Bw w (wr) ∧ wr.heap[q1]? = some (.cells #[.slice (some ⟨gC, 0, none⟩) n1 pCx, .slice oPx n2 pPx] 27) ∧ wr.ownsRow B 9 1 (.slice (some ⟨gC, 0, none⟩) n1 pCx) n1 (cs.map Value.string) ∧ wr.ownsRow B 128 2 (.slice oPx n2 pPx) n2 (aA4 ws)) ∧ Hid (z = bF1 cs ws m j)) (fun _ i _ => n2 - (intOf i).toNat)
 case atStart => exact ⟨0, zt, Nat.zero_le _, rfl, rfl, ⟨K3.hb, (jb K3 0 rfl), a1.out, b2.out⟩, e0⟩
 case round =>
  obtain ⟨j, z, hj, rfl, rfl, HW, HN⟩ := hrel;by_cases hlt : (j : Int) < (n2 : Int)
  rotate_left
  ·have b6 := HW.out.1;have a5 := hid HW.out.2.1;have a2 : Hid (wr.ownsRow B 9 1 (.slice (some ⟨gC, 0, none⟩) n1 pCx) n1 (cs.map Value.string)) := HW.out.2.2.1;have a0 : Hid (wr.ownsRow B 128 2 (.slice oPx n2 pPx) n2 (aA4 ws)) := HW.out.2.2.2;clear HW;have c2 := c2c a5.out;go_wp2_with fail
   go_ret;exact ⟨by rw [dB9 d3.out m d9.out, HN.out, d2.out, show j = n2 by omega]; rfl, b6⟩
  have b6 := HW.out.1;have a5 := hid HW.out.2.1;have a2 : Hid (wr.ownsRow B 9 1 (.slice (some ⟨gC, 0, none⟩) n1 pCx) n1 (cs.map Value.string)) := HW.out.2.2.1;have a0 : Hid (wr.ownsRow B 128 2 (.slice oPx n2 pPx) n2 (aA4 ws)) := HW.out.2.2.2;clear HW;have c3 : j < ws.length := by rw [d2.out]; omega
  obtain ⟨g, rfl⟩ := aM6 a0.out (by omega);obtain ⟨y, hy⟩ := exq (aC6 ws j);have HM : Hid (y ∈ ws) := by show _ ∈ _; rw [hy]; exact aJ1 ws j c3
  have e2 : Hid (ws.take (j + 1) = ws.take j ++ [y]) := by show _ = _; rw [hy]; exact aU3 ws j c3
  have c4 : Hid (aC6 ws j = y) := hy.symm;clear hy c3;obtain ⟨y0, y1⟩ := y
  have b5 : Hid (∀ W : World, (W).ownsRow B 128 2 (.slice (some ⟨g, 0, none⟩) n2 pPx) n2 (aA4 ws) → (W.cell? ⟨g, j * 2, none⟩ = some (.int .i64 y0) ∧ W.cell? ⟨g, j * 2 + 1, none⟩ = some (.string y1))) := fun W h => by
   obtain ⟨g', hg, _, r0, r1⟩ := (aN6 h).2 j (by omega)
   cases hg
   rw [c4.out] at r0 r1
   exact ⟨r0, r1⟩
  obtain ⟨r0, r1⟩ := b5.out _ a0.out;have c2 := c2c a5.out;by_cases hc1 : y0 = (m : Int)
  ·have c5 : ((y0 : Int) == (m : Int)) = true := by simpa using hc1
   have c6 : ((y0 : Int) != (m : Int)) = false := by simpa using hc1
   have c7 := hid hc1;have c8 := hid hc1;clear hc1
   have c9 : Hid (y1 = bF1 cs ws m (j + 1)) := by
    show _ = _
    rw [bF1, c4.out, if_pos c7.out]
   go_wp2_with fail
   go_roundw
   case rel => exact ⟨j + 1, _, by omega, by go_num, rfl, ⟨b6, a5.out, a2.out, a0.out⟩, c9⟩
   case measure => simp [intOf]; omega
  have c5 : ((y0 : Int) == (m : Int)) = false := by simpa using hc1
  have c6 : ((y0 : Int) != (m : Int)) = true := by simpa using hc1
  have c7 := hid hc1;have c8 := hid hc1;clear hc1
  have c9 : Hid (z = bF1 cs ws m (j + 1)) := by
   show _ = _
   rw [bF1, c4.out, if_neg c7.out]; exact HN.out
  go_wp2_with fail
  go_roundw
  case rel => exact ⟨j + 1, _, by omega, by go_num, rfl, ⟨b6, a5.out, a2.out, a0.out⟩, c9⟩
  case measure => simp [intOf]; omega
def dV0 (n : Nat) (w : World) (e : Ending) (w' : World) : Prop := e = .returned (.int .i64 (n : Int)) ∧ w' = w
theorem bsAt {s : ByteArray} {j : Nat} (h : j < s.size) : (bs s)[j]? = some (s[j]'h) := by
 unfold bs;exact aR7 s j h
theorem cO1 (s : Tx) (w : World) (hs : s.size ≤ maxLen) :
  Calls prog 149 #[.string s] w fun e w' => dV0 (sumP s) w e w' := by
 unfold maxLen at hs;go_enter func149, ntmps149;go_wp2
 go_loopw [3, 4, 5] (fun a b i wr => ∃ (k A B : Nat), k ≤ s.size ∧ i = .int .i64 (k : Int) ∧ a = .int .i64 (A : Int) ∧ b = .int .i64 (B : Int) ∧ A < 65521 ∧ B < 65521 ∧ wr = w ∧ Hid ((A, B) = sumL (1, 0) ((bs s).take k))) (fun _ _ i _ => s.size - (intOf i).toNat)
 case atStart => exact ⟨0, 1, 0, Nat.zero_le _, rfl, rfl, rfl, by omega, by omega, rfl, rfl⟩
 case round =>
  obtain ⟨k, A, B, hk, rfl, rfl, rfl, hA, hB, rfl, HS⟩ := hrel;by_cases hlt : (k : Int) < (s.size : Int)
  rotate_left
  ·have HE : Hid ((A, B) = sumL (1, 0) (bs s)) := by
    have h := HS.out
    rw [List.take_of_length_le (by rw [aC4]; omega)] at h
    exact h
   go_wp2
   go_ret;refine ⟨?_, rfl⟩;have h := HE.out;unfold sumP;rw [← h];simp
  have a0 : k < s.size := by omega
  have hx : (s[k]'a0).toNat < 256 := (s[k]'a0).toNat_lt
  have a1 : Hid ((bs s).take (k + 1) = (bs s).take k ++ [s[k]'a0]) := by
   rw [Hid, List.take_add_one, bsAt a0]
   rfl
  go_wp2
  go_roundw
  case rel =>
   refine ⟨k + 1, (A + (s[k]'a0).toNat) % 65521, (B + (A + (s[k]'a0).toNat) % 65521) % 65521, by omega, by simp, ?_, ?_, Nat.mod_lt _ (by decide), Nat.mod_lt _ (by decide), trivial, ?_⟩
   ·congr 1
   ·congr 1
   rw [Hid, a1.out, bQ8, ← HS.out]
  case measure => simp [intOf]; omega
def dgZ (m : Nat) : List UInt8 := if m = 0 then [] else Lib.decDigits m
theorem dO4 (m : Nat) (h : m ≠ 0) : dgZ m = dgZ (m / 10) ++ [UInt8.ofNat (48 + m % 10)] := by
 unfold dgZ;rw [if_neg h, Lib.decDigits];split
 ·rename_i h2
  rw [if_pos (show m / 10 = 0 by omega), Nat.mod_eq_of_lt h2];rfl
 rename_i h2
 rw [if_neg (show ¬ m / 10 = 0 by omega)]
theorem aX6 (n : Nat) (w : World) (hn : n ≤ 4293001440) :
  Calls prog 148 #[.int .i64 (n : Int)] w fun e w' => aD5 (decT n) w e w' := by
 by_cases h0 : n = 0
 ·subst h0;have HD : Hid (decT 0 = ⟨#[48]⟩) := by unfold decT; rw [Lib.decDigits_one (by decide)]; rfl
  go_enter func148, ntmps148;go_wp2
  go_ret;exact aD5.of HD.out.symm (Below.refl _ _)
 have a3 : ((n : Int) == 0) = false := by rw [beq_eq_false_iff_ne]; omega
 have a4 := cB1;go_enter func148, ntmps148;go_wp2
 go_loopw [0, 3] (fun a b wr => ∃ (f m : Nat) (out : Tx), a = .int .i64 (m : Int) ∧ b = .string out ∧ m ≤ 4293001440 ∧ f ≤ 10 ∧ out.size ≤ 10 - f ∧ Bw w wr ∧ Hid (m < 10 ^ f ∧ dgZ m ++ out.data.toList = Lib.decDigits n)) (fun a _ _ => (intOf a).toNat)
 case atStart => exact ⟨10, n, _, rfl, rfl, hn, Nat.le_refl _, Nat.le_refl _, Below.refl _ _, ⟨by omega, by simp [dgZ, h0]⟩⟩
 case round =>
  obtain ⟨f, m, out, rfl, rfl, hm, a5, hsz, a0, hd⟩ := hrel;by_cases hp : (0 : Int) < (m : Int)
  rotate_left
  ·have hT : Hid (out = decT n) := by
    obtain ⟨_, h⟩ := hd.out
    have e : m = 0 := by omega
    rw [e] at h
    exact aE3 (by rw [aZ2]; exact h)
   go_wp2
   go_ret;exact aD5.of hT.out a0
  have a1 : ∀ d : Int, (strOfNums [d]).size = 1 := fun d => strOfNums_size [d]
  go_wp2
  go_roundw
  case rel =>
   obtain ⟨hf, a2⟩ := hd.out;cases f with
   | zero => simp at hf; omega
   | succ f =>
    rw [Nat.pow_succ] at hf
    refine ⟨f, m / 10, strOfNums [48 + (m : Int) % 10] ++ out, by simp, rfl, by omega, by omega, ?_, a0.alloc a0.size _, by omega, ?_⟩
    ·rw [ByteArray.size_append, a1]; omega
    ·have e : (strOfNums [48 + (m : Int) % 10]).data.toList = [UInt8.ofNat (48 + m % 10)] := by
      rw [strOfNums_data]
      have : (48 + (m : Int) % 10).toNat = 48 + m % 10 := by omega
      simp only [List.map_cons, List.map_nil, this]
     rw [dO4 m (by omega), List.append_assoc] at a2
     rw [← a2, ByteArray.data_append, Array.toList_append, e]
  case measure => simp [intOf]; omega
theorem aX7 (n : Nat) (h : n ≤ 4293001440) : (decT n).size ≤ 10 := by
 have e : (decT n).size = (Lib.decDigits n).length := by rw [← aC4, aZ2]
 rw [e]
 have a0 : ∀ (f m : Nat), m < 10 ^ (f + 1) → (Lib.decDigits m).length ≤ f + 1 := by
  intro f
  induction f with
  | zero => intro m hm; rw [Lib.decDigits_one (by simpa using hm)]; exact Nat.le_refl _
  | succ f ih =>
   intro m hm
   rw [Lib.decDigits]
   split
   ·simp
   ·rw [List.length_append]
    have := ih (m / 10) (by rw [Nat.pow_succ] at hm; omega)
    simp only [List.length_cons, List.length_nil]
    omega
 exact a0 9 n (by omega)
theorem bR3 (seq : Nat) (b : Tx) (h1 : seq ≤ 100000) (h2 : b.size ≤ 2000) : (recR seq b).size ≤ 3000 := by
 unfold recR;rw [ByteArray.size_append, ByteArray.size_append, ByteArray.size_append, ByteArray.size_append];have e1 := aX7 seq (by omega);have e2 := aX7 b.size (by omega);have e3 : (⟨#[32]⟩ : Tx).size = 1 := rfl;have e4 : (⟨#[10]⟩ : Tx).size = 1 := rfl;omega
theorem bR4 (seq : Int) (b : ByteArray) (w : World) (hb : b.size ≤ 4000000) :
    Calls prog 51 #[.int .i64 seq, .string b] w fun e w' => aD5 (recI seq b) w e w' := by
  by_cases h1 : 1 ≤ seq ∧ seq ≤ 100000
  · by_cases h2 : b.size ≤ 2000
    · obtain ⟨q, rfl⟩ : ∃ q : Nat, seq = (q : Int) := ⟨seq.toNat, by omega⟩
      have hq : q ≤ 100000 := by omega
      have h3 : ¬ (2000 : Int) < (b.size : Int) := by omega
      have hin : decide ((1 : Int) ≤ (q : Int) ∧ (q : Int) ≤ 100000) = true := decide_eq_true h1
      have HR : Hid (recI (q : Int) b = recT q b) := bF8 ⟨h1.1, h1.2, h2⟩
      have HRS : Hid ((recR q b).size ≤ 3000) := bR3 q b hq h2
      clear h1
      go_enter func51, ntmps51
      go_wp2_with fail
      refine (aU2 _ _ _ _).mono ?_
      rintro e w1 ⟨rfl, rfl⟩
      rw [hin]
      clear hin
      go_wp2_with fail
      refine (aX6 q _ (by omega)).mono ?_
      rintro e w2 ⟨rfl, b2⟩
      have HB2 : Hid (Below w1.heap.size w1 w2) := b2
      have hz1 := aX7 q (by omega)
      have hz2 := aX7 b.size (by omega)
      clear b2
      go_wp2_with fail
      refine (aX6 b.size _ (by omega)).mono ?_
      rintro e w3 ⟨rfl, b3⟩
      have HB3 : Hid (Below w1.heap.size w1 w3) := HB2.out.trans (b3.mono HB2.out.size)
      clear b3 HB2
      go_wp2_with fail
      obtain ⟨R, hR⟩ : ∃ R, R = decT q ++ ⟨#[32]⟩ ++ decT b.size ++ ⟨#[10]⟩ ++ b := ⟨_, rfl⟩
      rw [← hR]
      have HRE : Hid (R = recR q b) := hR
      have hRz : R.size ≤ 3000 := by rw [HRE.out]; exact HRS.out
      clear hR
      refine (cO1 R _ (by unfold maxLen; omega)).mono ?_
      rintro e w4 ⟨rfl, hw4⟩
      rw [hw4]
      clear hw4 w4
      have hz3 := aX7 (sumP R) (cD0 R)
      go_wp2_with fail
      refine (aX6 (sumP R) _ (cD0 R)).mono ?_
      rintro e w4 ⟨rfl, b4⟩
      have HB4 : Hid (Below w1.heap.size w1 w4) := HB3.out.trans (b4.mono HB3.out.size)
      clear b4 HB3
      go_wp2_with fail
      go_ret
      exact aD5.of (by rw [HR.out, recT, ← HRE.out]) HB4.out
    · have h3 : (2000 : Int) < (b.size : Int) := by omega
      have hin : decide ((1 : Int) ≤ seq ∧ seq ≤ 100000) = true := decide_eq_true h1
      have HR : Hid (recI seq b = ⟨#[]⟩) := bQ9 (fun h => h2 h.2.2)
      clear h1
      go_enter func51, ntmps51
      go_wp2_with fail
      refine (aU2 _ _ _ _).mono ?_
      rintro e w1 ⟨rfl, rfl⟩
      rw [hin]
      clear hin
      go_wp2_with fail
      go_ret
      exact aD5.of HR.out.symm (Below.refl _ _)
  · have hin : decide ((1 : Int) ≤ seq ∧ seq ≤ 100000) = false := decide_eq_false h1
    have HR : Hid (recI seq b = ⟨#[]⟩) := bQ9 (fun h => h1 ⟨h.1, h.2.1⟩)
    clear h1
    go_enter func51, ntmps51
    go_wp2_with fail
    refine (aU2 _ _ _ _).mono ?_
    rintro e w1 ⟨rfl, rfl⟩
    rw [hin]
    clear hin
    go_wp2_with fail
    go_ret
    exact aD5.of HR.out.symm (Below.refl _ _)
def cI9 (s : Tx) (w : World) (e : Ending) (w' : World) : Prop :=
 Below w.heap.size w w' ∧ ((∃ q b, aL9 s q b ∧ e = .returned (.tuple #[.int .i64 q, .string b, .bool true])) ∨ ((∀ q b, ¬ aL9 s q b) ∧ e = .returned (.tuple #[.int .i64 0, .string ⟨#[]⟩, .bool false])))
theorem bI8 {s : ByteArray} {q : Int} {b : ByteArray} : (¬ s = ⟨#[]⟩ ∧ recI q b = s) ↔ aL9 s q b := by
 constructor
 ·rintro ⟨h1, h2⟩;by_cases h : RecP q b
  ·exact ⟨h, by rw [← bF8 h]; exact h2⟩
  rw [bQ9 h] at h2;exact absurd h2.symm h1
 rintro ⟨h1, h2⟩;exact ⟨fun e => dO2 q.toNat b (h2.trans e), by rw [bF8 h1]; exact h2⟩
def dD5 (s : Tx) (f : Nat) (w : World) (e : Ending) (w' : World) : Prop :=
 w' = w ∧ ((∃ i, dC4 s f i ∧ e = .returned (.tuple #[.string (s.extract f i), .int .i64 ((i + 1 : Nat) : Int)])) ∨ ((∀ j (h : j < s.size), f ≤ j → (s[j]'h).toNat ≠ 10) ∧ e = .returned (.tuple #[.string ⟨#[]⟩, .int .i64 (-1)])))
theorem aX8 (s : Tx) (f : Nat) (w : World) (hs : s.size ≤ 4000000) (hf : f ≤ s.size) :
  Calls prog 211 #[.string s, .int .i64 (f : Int)] w fun e w' => dD5 s f w e w' := by
 go_enter func211, ntmps211;go_wp2
 go_loopw [6] (fun i wr => ∃ j : Nat, j ≤ s.size ∧ f ≤ j ∧ i = .int .i64 (j : Int) ∧ wr = w ∧ Hid (∀ q (h : q < s.size), q < j → f ≤ q → (s[q]'h).toNat ≠ 10)) (fun i _ => s.size - (intOf i).toNat)
 case atStart => exact ⟨f, hf, Nat.le_refl _, rfl, rfl, fun q _ h1 h2 => absurd h1 (by omega)⟩
 case round =>
  obtain ⟨j, hj, a1, rfl, rfl, HN⟩ := hrel;by_cases hlt : j < s.size
  rotate_left
  ·have a0 : ¬ (j : Int) < (s.size : Int) := by omega
   have HF : Hid (∀ q (h : q < s.size), f ≤ q → (s[q]'h).toNat ≠ 10) := fun q h h2 => HN.out q h (by omega) h2
   clear HN;go_wp2
   exact bodyPost_ret (v := .tuple #[.string ⟨#[]⟩, .int .i64 (-1)]) (by simp [results, results211, go_sem]) rfl ⟨rfl, .inr ⟨HF.out, rfl⟩⟩
  have a0 : (j : Int) < (s.size : Int) := by omega
  by_cases hc : (s[j]'hlt).toNat = 10
  ·have t1 : (((s[j]'hlt).toNat : Int) == 10) = true := by rw [beq_iff_eq]; omega
   have HL : Hid (dC4 s f j) := ⟨hlt, a1, hc, fun q hq h => HN.out q (by omega) hq h⟩
   have a2 : (f : Int) ≤ (j : Int) := by omega
   clear hc HN;go_wp2
   exact bodyPost_ret (v := .tuple #[.string (s.extract f j), .int .i64 ((j + 1 : Nat) : Int)]) (by simp [results, results211, go_sem]) rfl ⟨rfl, .inl ⟨j, HL.out, rfl⟩⟩
  have t1 : (((s[j]'hlt).toNat : Int) == 10) = false := by rw [beq_eq_false_iff_ne]; omega
  have a3 : Hid (∀ q (h : q < s.size), q < j + 1 → f ≤ q → (s[q]'h).toNat ≠ 10) := fun q h h1 h2 => by
   by_cases e : q = j
   ·subst e; exact hc
   ·exact HN.out q h (by omega) h2
  clear hc HN;go_wp2
  go_roundw
  case rel => exact ⟨j + 1, by omega, by omega, by go_num, trivial, a3⟩
  case measure => simp [intOf]; omega
theorem bG1 {x : ByteArray} {n : Nat} (h : bs x = numL n) : x = aB7 n := aE3 (by rw [h, aY2])
theorem aP7 {n : Int} {m : Nat} {x : ByteArray} (hm : m ≤ 1000000) (hx : x = aB7 m) (h : aO1 x → n = valL x.data.toList) : n = (m : Int) := by
 have h1 := h (by rw [hx]; exact bQ1 _ hm);rw [hx, show (aB7 m).data.toList = numL m from rfl, aK3 _ hm] at h1;exact h1
theorem cO2 (n : Nat) (h : n ≤ 1000000) : decT n = aB7 n := by
 apply aE3
 rw [aZ2];show Lib.decDigits n = numL n
 unfold numL;rw [if_neg (by omega)];by_cases h0 : n = 0
 ·rw [if_pos h0, h0]; exact bC2
 rw [if_neg h0, dL7 8 n (by omega) h0]
def aZ5 (q : Nat) (b : Tx) : List UInt8 := Lib.decDigits (sumP (recR q b)) ++ 32 :: (Lib.decDigits q ++ 32 :: Lib.decDigits b.size)
theorem dD6 {s : ByteArray} {q : Int} {b : ByteArray} (h : aL9 s q b) : bs s = [] ++ (aZ5 q.toNat b ++ 10 :: bs b) := by
 rw [← h.2, bR0, cD1];unfold aZ5;simp
theorem cW2 (q : Nat) (b : Tx) : ∀ x ∈ aZ5 q b, x ≠ 10 := fun x hx => by
 unfold aZ5 at hx
 rcases List.mem_append.1 hx with h | h
 · exact (aT3 _ x h).2
 ·rcases List.mem_cons.1 h with h | h
  · rw [h]; decide
  ·rcases List.mem_append.1 h with h | h
   · exact (aT3 _ x h).2
   ·rcases List.mem_cons.1 h with h | h
    · rw [h]; decide
    · exact (aT3 _ x h).2
theorem bG2 (q : Nat) (b : Tx) : aG6 [] [] (aZ5 q b) = [Lib.decDigits (sumP (recR q b)), Lib.decDigits q, Lib.decDigits b.size] := by
 unfold aZ5;rw [aK0 _ _ (fun x hx => (aT3 _ x hx).1), aK0 _ _ (fun x hx => (aT3 _ x hx).1), bA5 _ (fun x hx => (aT3 _ x hx).1)]
 rfl
theorem aZ6 (s : Tx) (w : World) (hs : s.size ≤ 3000000) :
  Calls prog 107 #[.string s] w fun e w' => cI9 s w e w' := by
 go_enter func107, ntmps107;go_wp2_with fail
 refine (aX8 s 0 _ (by omega) (Nat.zero_le _)).mono ?_;rintro e w1 ⟨a6, hl⟩;rw [a6];clear a6 w1;rcases hl with ⟨i, hl, rfl⟩ | ⟨a7, rfl⟩
 ·have hi : i < s.size := hl.1;have HL := hid hl
  have a4 : Hid (∀ q b, aL9 s q b → i = (aZ5 q.toNat b).length ∧ bs (s.extract 0 i) = aZ5 q.toNat b) := fun q b h => by
   have h1 := cC9 (dD6 h) rfl (cW2 _ _) HL.out
   exact ⟨by simpa using h1.1, h1.2⟩
  obtain ⟨ln, a3⟩ := exq (s.extract 0 i);have a8 := hid a3.symm;have c8 : ln.size ≤ 3000000 := by rw [a3, ByteArray.size_extract]; omega
  rw [← a3];clear hl a3 HL;go_wp2_with fail
  refine (aL3 ln _ (by omega)).mono ?_;rintro e w2 ⟨vW, xs, rfl, a0, b5, bw, hwd⟩;obtain ⟨oW, cW, rfl⟩ := aA0 a0;have a1 : Hid (Bw w w2) := bw;have a5 := hid hwd;clear bw hwd;by_cases h3 : xs.length = 3
  rotate_left
  ·have c9 : ((xs.length : Int) != 3) = true := by rw [bne_iff_ne]; omega
   have a2 : Hid (∀ q b, ¬ aL9 s q b) := fun q b h => by
    have e := a5.out
    rw [← a8.out, (a4.out q b h).2, bG2] at e
    have e2 := congrArg List.length e
    simp at e2
    omega
   clear a0;go_wp2_with fail
   exact bodyPost_ret (v := .tuple #[.int .i64 0, .string ⟨#[]⟩, .bool false]) (by simp [results, results107, go_sem]) rfl ⟨a1.out, .inr ⟨a2.out, rfl⟩⟩
  obtain ⟨x0, x1, x2, rfl⟩ : ∃ x0 x1 x2, xs = [x0, x1, x2] := by
   match xs, h3 with
   | [a, b, c], _ => exact ⟨a, b, c, rfl⟩
  obtain ⟨oT, pT, eT, b6, a9⟩ := bP4 a0;cases eT
  obtain ⟨g, rfl, hg, r1⟩ := a9 1 (by simp);have b7 : w2.cell? ⟨g, 1, none⟩ = some (.string x1) := r1
  have b8 : Hid (∀ q b, aL9 s q b → x1 = decT q.toNat) := fun q b h => by
   have e := a5.out
   rw [← a8.out, (a4.out q b h).2, bG2] at e
   have e2 : Lib.decDigits q.toNat = bs x1 := (List.cons.inj (List.cons.inj e).2).1
   exact aE3 (by rw [← e2, aZ2])
  have b9 : x1.size ≤ 4000000 := by
   have hm : bs x1 ∈ aG6 [] [] (bs ln) := by rw [a5.out]; simp
   rcases aV5 _ _ _ _ hm with h | h
   ·simp at h
   ·rw [aC4, aC4] at h
    simp at h
    omega
  obtain ⟨z, hz⟩ := exq (s.extract (i + 1) s.size);have b0 := hid hz.symm;have d0 : z.size ≤ 3000000 := by rw [hz, ByteArray.size_extract]; omega
  have c0 : Hid (∀ q b, aL9 s q b → z = b) := fun q b h => by
   have h1 := a4.out q b h
   apply aE3
   rw [hz]
   have e := dD6 h
   rw [List.nil_append] at e
   rw [aE2, ← aC4 s, List.take_length, e, h1.1]
   simp
  clear r1 b6 a9 a0 hz;go_wp2_with fail
  refine (aI3 x1 _ (by unfold maxLen; omega)).mono ?_;rintro e w3 ⟨bn, n, rfl, b1, b2, c1, bw⟩;have HN : Hid (aO1 x1 → n = valL x1.data.toList) := fun h => b2 (b1.2 h)
  have b3 : Hid (Bw w w3) := a1.out.trans (bw.mono a1.out.size);have d1 := aN5 (s := s) (by omega);have c2 : Hid (¬ s = ⟨#[]⟩) := fun e => by rw [e] at hi; exact Nat.not_lt_zero i hi
  clear b1 b2 c1 bw b7;go_wp2_with fail
  rw [b0.out];refine (bR4 n z _ (by omega)).mono ?_;rintro e w4 ⟨rfl, bw⟩;have b4 : Hid (Bw w w4) := b3.out.trans (bw.mono b3.out.size);clear bw;obtain ⟨t, ht⟩ := exq (recI n z);have HT := hid ht;rw [← ht];clear ht;by_cases hts : t = s
  ·subst hts;have c3 : Hid (aL9 t n z) := bI8.1 ⟨c2.out, HT.out.symm⟩;go_upto_region 8 with fail
   have c4 : (0 : Int) ≤ (i : Int) + 1 := by omega
   have c5 : (i : Int) + 1 ≤ (t.size : Int) := by omega
   have c6 : ((i : Int) + 1).toNat = i + 1 := by omega
   go_region_held3 (fun _ => True) (trivial) (fail)
   rw [b0.out];clear c4 c5 c6;go_wp2_with fail
   exact bodyPost_ret (v := .tuple #[.int .i64 n, .string z, .bool true]) (by simp [results, results107, go_sem]) rfl ⟨b4.out.drew, .inl ⟨n, z, c3.out, rfl⟩⟩
  have c7 : (t.toList == s.toList) = false := aB8 hts;have d2 : (t == s) = false := by rw [beq_toListBytes]; exact c7
  have a2 : Hid (∀ q b, ¬ aL9 s q b) := fun q b h => by
   have e1 := b8.out q b h
   have e2 := c0.out q b h
   have h3 := h.1
   rw [cO2 _ (by have := h3.2.1; omega)] at e1
   have e4 := aP7 (by have := h3.2.1; omega) e1 HN.out
   have e5 : n = q := by have := h3.1; omega
   exact hts (by rw [HT.out, e5, e2]; exact (bI8.2 h).2)
  clear hts;go_wp2_with fail
  exact bodyPost_ret (v := .tuple #[.int .i64 0, .string ⟨#[]⟩, .bool false]) (by simp [results, results107, go_sem]) rfl ⟨b4.out, .inr ⟨a2.out, rfl⟩⟩
 have a2 : Hid (∀ q b, ¬ aL9 s q b) := fun q b h => bF3 (dD6 h) rfl a7
 clear a7;go_wp2_with fail
 refine (aL3 _ _ (by decide)).mono ?_;rintro e w2 ⟨vW, xs, rfl, a0, b5, bw, hwd⟩;obtain ⟨oW, cW, rfl⟩ := aA0 a0;have a1 : Hid (Bw w w2) := bw;clear bw hwd a0;go_wp2_with fail
 exact bodyPost_ret (v := .tuple #[.int .i64 0, .string ⟨#[]⟩, .bool false]) (by simp [results, results107, go_sem]) rfl ⟨a1.out, .inr ⟨a2.out, rfl⟩⟩
theorem aZ7 (k : Int) (a b : Tx) (t : Int) (w : World) (ha : a.size ≤ maxLen) (hb : b.size ≤ maxLen) :
  Calls prog 74 #[.agg #[.int .i64 k, .string a, .string b, .int .i64 t]] w fun e w' => bO7 (BanP k a b t) (banT k a b t) w e w' := by
 have b6 := hid ha;have b7 := hid hb;obtain ⟨tt, b5⟩ := exq (aD1 t);have a7 : Hid (aD1 t = tt) := b5.symm;clear ha hb b5;have K0 := jnil w;go_enter func74, ntmps74;go_upto_region 1 with fail
 obtain ⟨q1, b3⟩ := exq (w.heap.size);obtain ⟨w1, b2⟩ := exq (w.alloc (.cells #[.int .i64 k, .string a, .string b, .int .i64 t] 44));have b4 := b3.symm;rw [← b2]; try rw [← b3];have b8 := hsa b2 b4;have bw := bal b2;have K1 := ja K0 b2 b4;clear bw b2 b4 K0;clear b8 b3;have a6 := c4c (jb K1 0 rfl);go_wp2_with fail
 refine (bF5 k a b t _ b6.out b7.out).mono ?_;rintro e w2 ⟨ub, rfl, b1, bw⟩;have K2 := jw K1 bw;clear bw K1;clear a6;cases ub
 ·have HF : Hid (¬ BanP k a b t) := fun h => nomatch b1.2 h
  clear b1;go_wp2_with fail
  go_ret;exact ⟨⟨#[]⟩, rfl, fun h => absurd h HF.out, fun _ => rfl, K2.hb⟩
 have b0 : Hid (BanP k a b t) := b1.1 rfl;clear b1;have HT : Hid (0 ≤ t ∧ t ≤ 1000000) := b0.out.1;have za : a.size ≤ 60 := b0.out.a_size.1;have zb : b.size ≤ 60 := b0.out.a_size.2;have b9 : tt.size ≤ 8 := by rw [← a7.out, aC9 HT.out.1]; exact aD8 _
 rcases b0.out.kinds with rfl | rfl | rfl
 ·go_upto_region 3 with fail
  refine wp_region_held_drew (S := fun W => W.heap[q1]? = some (.cells #[.int .i64 1, .string a, .string b, .int .i64 t] 44)) (by kernel_rfl) (jb K2 0 rfl) (fun _ => ?_)
  obtain ⟨w3, hX⟩ := exq w2.drew;have bw := bdr hX;rw [← hX];have K3 := jw K2 bw;have a4 := (jb K3 0 rfl);clear bw hX K2;refine tkP 1 (.pointer (some ⟨q1, 0, none⟩)) 8 rfl rfl a4 ?_;go_frame;refine tkL 2 (.int .i64 1) 9 rfl rfl (Or.inl ⟨by rfl, by intro W hW; have a1 := hW; have y0 := c4c a1; go_simp⟩) a4 ?_;go_frame;refine tkP 7 (.pointer (some ⟨q1, 3, none⟩)) 14 rfl rfl a4 ?_;go_frame;refine tkL 8 (.int .i64 t) 15 rfl rfl (Or.inl ⟨by rfl, by intro W hW; have a1 := hW; have y3 := c4c a1; go_simp⟩) a4 ?_;go_frame;refine tkP 12 (.pointer (some ⟨q1, 1, none⟩)) 19 rfl rfl a4 ?_;go_frame;refine tkL 13 (.string a) 20 rfl rfl (Or.inl ⟨by rfl, by intro W hW; have a1 := hW; have y1 := c4c a1; go_simp⟩) a4 ?_;go_frame;refine wpAnyH_ready (rs := [0, 9]) (by kernel_rfl) (by simp) ?_;refine AllReadyH.cons rfl (fun K hK => ?_) (AllReadyH.cons rfl (fun K hK => ?_) AllReadyH.nil)
  ·go_simp;have bw : Below w3.heap.size w3 (w3.alloc (.cells #[.string ⟨#[]⟩, .string ⟨#[112, 97, 116, 104]⟩, .string ⟨#[98, 101, 108, 111, 119]⟩, .string ⟨#[102, 105, 101, 108, 100]⟩] 9)) := (Below.refl _ _).alloc (Nat.le_refl _) _;have a8 := aA6 (jb K3 0 rfl) bw;refine hK.out _ _ a8 (fun _ => ?_)
   clear hK K a8 bw a4;obtain ⟨q2, a5⟩ := exq (w3.heap.size);obtain ⟨w4, a2⟩ := exq ((w3.alloc (.cells #[.string ⟨#[]⟩, .string ⟨#[112, 97, 116, 104]⟩, .string ⟨#[98, 101, 108, 111, 119]⟩, .string ⟨#[102, 105, 101, 108, 100]⟩] 9)));rw [← a5, ← a2];have bw := bal a2;have K4 := ja K3 a2 a5.symm;have a3 := (jb K4 1 rfl);clear bw a2 a5 K3;refine tkP 3 (.pointer (some ⟨q2, 1, none⟩)) 10 rfl rfl a3 ?_;go_frame;refine wpAnyH_ready (rs := [4, 9]) (by kernel_rfl) (by simp) ?_;refine AllReadyH.cons rfl (fun K hK => ?_) (AllReadyH.cons rfl (fun K hK => ?_) AllReadyH.nil)
   ·have a9 := c4c (jb K4 0 rfl);go_simp;refine hK.out _ _ a3 (fun _ => ?_)
    clear hK K a9;refine tkL 5 (.string (⟨#[98, 97, 110, 32]⟩ ++ ⟨#[112, 97, 116, 104]⟩)) 12 rfl rfl (Or.inl ⟨by rfl, by intro W _; go_simp <;> omega⟩) a3 ?_;go_frame;refine tkL 6 (.string ((⟨#[98, 97, 110, 32]⟩ ++ ⟨#[112, 97, 116, 104]⟩) ++ ⟨#[32]⟩)) 13 rfl rfl (Or.inl ⟨by rfl, by intro W _; go_simp <;> omega⟩) a3 ?_;go_frame;refine rd1 9 rfl (fun K hK => ?_)
    go_simp;refine (aE0 t _ (by have := HT.out; omega) (by have := HT.out; omega)).mono ?_;rintro e w5 ⟨rfl, bw⟩;rw [a7.out];have K5 := jw K4 bw;clear bw K4;have a0 := (jb K5 1 rfl);refine hK.out _ _ a0 (fun _ => ?_)
    clear hK K a3;refine tkL 10 (.string (((⟨#[98, 97, 110, 32]⟩ ++ ⟨#[112, 97, 116, 104]⟩) ++ ⟨#[32]⟩) ++ tt)) 17 rfl rfl (Or.inl ⟨by rfl, by intro W _; go_simp <;> omega⟩) a0 ?_;go_frame;refine tkL 11 (.string ((((⟨#[98, 97, 110, 32]⟩ ++ ⟨#[112, 97, 116, 104]⟩) ++ ⟨#[32]⟩) ++ tt) ++ ⟨#[32]⟩)) 18 rfl rfl (Or.inl ⟨by rfl, by intro W _; go_simp <;> omega⟩) a0 ?_;go_frame;refine tkL 14 (.string (((((⟨#[98, 97, 110, 32]⟩ ++ ⟨#[112, 97, 116, 104]⟩) ++ ⟨#[32]⟩) ++ tt) ++ ⟨#[32]⟩) ++ a)) 21 rfl rfl (Or.inl ⟨by rfl, by intro W _; go_simp <;> omega⟩) a0 ?_;go_frame;refine tkP 15 (.string (((((⟨#[98, 97, 110, 32]⟩ ++ ⟨#[112, 97, 116, 104]⟩) ++ ⟨#[32]⟩) ++ tt) ++ ⟨#[32]⟩) ++ a)) 3 rfl rfl a0 ?_;go_frame;clear a0;refine wdn ?_;have a6 := c4c (jb K5 1 rfl);go_wp2_with fail
    go_ret;exact ⟨_, rfl, fun _ => by rw [← a7.out, aC9 HT.out.1]; rfl, fun h => absurd b0.out h, K5.hb⟩
   go_simp;refine (aE0 t _ (by have := HT.out; omega) (by have := HT.out; omega)).mono ?_;rintro e w5 ⟨rfl, bw⟩;rw [a7.out];have K5 := jw K4 bw;clear bw K4;have a0 := (jb K5 1 rfl);refine hK.out _ _ a0 (fun _ => ?_)
   clear hK K a3;refine rd1 4 rfl (fun K hK => ?_)
   have a9 := c4c (jb K5 0 rfl);go_simp;refine hK.out _ _ a0 (fun _ => ?_)
   clear hK K a9;refine tkL 5 (.string (⟨#[98, 97, 110, 32]⟩ ++ ⟨#[112, 97, 116, 104]⟩)) 12 rfl rfl (Or.inl ⟨by rfl, by intro W _; go_simp <;> omega⟩) a0 ?_;go_frame;refine tkL 6 (.string ((⟨#[98, 97, 110, 32]⟩ ++ ⟨#[112, 97, 116, 104]⟩) ++ ⟨#[32]⟩)) 13 rfl rfl (Or.inl ⟨by rfl, by intro W _; go_simp <;> omega⟩) a0 ?_;go_frame;refine tkL 10 (.string (((⟨#[98, 97, 110, 32]⟩ ++ ⟨#[112, 97, 116, 104]⟩) ++ ⟨#[32]⟩) ++ tt)) 17 rfl rfl (Or.inl ⟨by rfl, by intro W _; go_simp <;> omega⟩) a0 ?_;go_frame;refine tkL 11 (.string ((((⟨#[98, 97, 110, 32]⟩ ++ ⟨#[112, 97, 116, 104]⟩) ++ ⟨#[32]⟩) ++ tt) ++ ⟨#[32]⟩)) 18 rfl rfl (Or.inl ⟨by rfl, by intro W _; go_simp <;> omega⟩) a0 ?_;go_frame;refine tkL 14 (.string (((((⟨#[98, 97, 110, 32]⟩ ++ ⟨#[112, 97, 116, 104]⟩) ++ ⟨#[32]⟩) ++ tt) ++ ⟨#[32]⟩) ++ a)) 21 rfl rfl (Or.inl ⟨by rfl, by intro W _; go_simp <;> omega⟩) a0 ?_;go_frame;refine tkP 15 (.string (((((⟨#[98, 97, 110, 32]⟩ ++ ⟨#[112, 97, 116, 104]⟩) ++ ⟨#[32]⟩) ++ tt) ++ ⟨#[32]⟩) ++ a)) 3 rfl rfl a0 ?_;go_frame;clear a0;refine wdn ?_;have a6 := c4c (jb K5 1 rfl);go_wp2_with fail
   go_ret;exact ⟨_, rfl, fun _ => by rw [← a7.out, aC9 HT.out.1]; rfl, fun h => absurd b0.out h, K5.hb⟩
  go_simp;refine (aE0 t _ (by have := HT.out; omega) (by have := HT.out; omega)).mono ?_;rintro e w4 ⟨rfl, bw⟩;rw [a7.out];have K4 := jw K3 bw;clear bw K3;have a3 := (jb K4 0 rfl);refine hK.out _ _ a3 (fun _ => ?_)
  clear hK K a4;refine rd1 0 rfl (fun K hK => ?_)
  go_simp;have bw : Below w4.heap.size w4 (w4.alloc (.cells #[.string ⟨#[]⟩, .string ⟨#[112, 97, 116, 104]⟩, .string ⟨#[98, 101, 108, 111, 119]⟩, .string ⟨#[102, 105, 101, 108, 100]⟩] 9)) := (Below.refl _ _).alloc (Nat.le_refl _) _;have a8 := aA6 (jb K4 0 rfl) bw;refine hK.out _ _ a8 (fun _ => ?_)
  clear hK K a8 bw a3;obtain ⟨q2, a5⟩ := exq (w4.heap.size);obtain ⟨w5, a2⟩ := exq ((w4.alloc (.cells #[.string ⟨#[]⟩, .string ⟨#[112, 97, 116, 104]⟩, .string ⟨#[98, 101, 108, 111, 119]⟩, .string ⟨#[102, 105, 101, 108, 100]⟩] 9)));rw [← a5, ← a2];have bw := bal a2;have K5 := ja K4 a2 a5.symm;have a0 := (jb K5 1 rfl);clear bw a2 a5 K4;refine tkP 3 (.pointer (some ⟨q2, 1, none⟩)) 10 rfl rfl a0 ?_;go_frame;refine rd1 4 rfl (fun K hK => ?_)
  have a9 := c4c (jb K5 0 rfl);go_simp;refine hK.out _ _ a0 (fun _ => ?_)
  clear hK K a9;refine tkL 5 (.string (⟨#[98, 97, 110, 32]⟩ ++ ⟨#[112, 97, 116, 104]⟩)) 12 rfl rfl (Or.inl ⟨by rfl, by intro W _; go_simp <;> omega⟩) a0 ?_;go_frame;refine tkL 6 (.string ((⟨#[98, 97, 110, 32]⟩ ++ ⟨#[112, 97, 116, 104]⟩) ++ ⟨#[32]⟩)) 13 rfl rfl (Or.inl ⟨by rfl, by intro W _; go_simp <;> omega⟩) a0 ?_;go_frame;refine tkL 10 (.string (((⟨#[98, 97, 110, 32]⟩ ++ ⟨#[112, 97, 116, 104]⟩) ++ ⟨#[32]⟩) ++ tt)) 17 rfl rfl (Or.inl ⟨by rfl, by intro W _; go_simp <;> omega⟩) a0 ?_;go_frame;refine tkL 11 (.string ((((⟨#[98, 97, 110, 32]⟩ ++ ⟨#[112, 97, 116, 104]⟩) ++ ⟨#[32]⟩) ++ tt) ++ ⟨#[32]⟩)) 18 rfl rfl (Or.inl ⟨by rfl, by intro W _; go_simp <;> omega⟩) a0 ?_;go_frame;refine tkL 14 (.string (((((⟨#[98, 97, 110, 32]⟩ ++ ⟨#[112, 97, 116, 104]⟩) ++ ⟨#[32]⟩) ++ tt) ++ ⟨#[32]⟩) ++ a)) 21 rfl rfl (Or.inl ⟨by rfl, by intro W _; go_simp <;> omega⟩) a0 ?_;go_frame;refine tkP 15 (.string (((((⟨#[98, 97, 110, 32]⟩ ++ ⟨#[112, 97, 116, 104]⟩) ++ ⟨#[32]⟩) ++ tt) ++ ⟨#[32]⟩) ++ a)) 3 rfl rfl a0 ?_;go_frame;clear a0;refine wdn ?_;have a6 := c4c (jb K5 1 rfl);go_wp2_with fail
  go_ret;exact ⟨_, rfl, fun _ => by rw [← a7.out, aC9 HT.out.1]; rfl, fun h => absurd b0.out h, K5.hb⟩
 ·go_upto_region 3 with fail
  refine wp_region_held_drew (S := fun W => W.heap[q1]? = some (.cells #[.int .i64 2, .string a, .string b, .int .i64 t] 44)) (by kernel_rfl) (jb K2 0 rfl) (fun _ => ?_)
  obtain ⟨w3, hX⟩ := exq w2.drew;have bw := bdr hX;rw [← hX];have K3 := jw K2 bw;have a4 := (jb K3 0 rfl);clear bw hX K2;refine tkP 1 (.pointer (some ⟨q1, 0, none⟩)) 8 rfl rfl a4 ?_;go_frame;refine tkL 2 (.int .i64 2) 9 rfl rfl (Or.inl ⟨by rfl, by intro W hW; have a1 := hW; have y0 := c4c a1; go_simp⟩) a4 ?_;go_frame;refine tkP 7 (.pointer (some ⟨q1, 3, none⟩)) 14 rfl rfl a4 ?_;go_frame;refine tkL 8 (.int .i64 t) 15 rfl rfl (Or.inl ⟨by rfl, by intro W hW; have a1 := hW; have y3 := c4c a1; go_simp⟩) a4 ?_;go_frame;refine tkP 12 (.pointer (some ⟨q1, 1, none⟩)) 19 rfl rfl a4 ?_;go_frame;refine tkL 13 (.string a) 20 rfl rfl (Or.inl ⟨by rfl, by intro W hW; have a1 := hW; have y1 := c4c a1; go_simp⟩) a4 ?_;go_frame;refine wpAnyH_ready (rs := [0, 9]) (by kernel_rfl) (by simp) ?_;refine AllReadyH.cons rfl (fun K hK => ?_) (AllReadyH.cons rfl (fun K hK => ?_) AllReadyH.nil)
  ·go_simp;have bw : Below w3.heap.size w3 (w3.alloc (.cells #[.string ⟨#[]⟩, .string ⟨#[112, 97, 116, 104]⟩, .string ⟨#[98, 101, 108, 111, 119]⟩, .string ⟨#[102, 105, 101, 108, 100]⟩] 9)) := (Below.refl _ _).alloc (Nat.le_refl _) _;have a8 := aA6 (jb K3 0 rfl) bw;refine hK.out _ _ a8 (fun _ => ?_)
   clear hK K a8 bw a4;obtain ⟨q2, a5⟩ := exq (w3.heap.size);obtain ⟨w4, a2⟩ := exq ((w3.alloc (.cells #[.string ⟨#[]⟩, .string ⟨#[112, 97, 116, 104]⟩, .string ⟨#[98, 101, 108, 111, 119]⟩, .string ⟨#[102, 105, 101, 108, 100]⟩] 9)));rw [← a5, ← a2];have bw := bal a2;have K4 := ja K3 a2 a5.symm;have a3 := (jb K4 1 rfl);clear bw a2 a5 K3;refine tkP 3 (.pointer (some ⟨q2, 2, none⟩)) 10 rfl rfl a3 ?_;go_frame;refine wpAnyH_ready (rs := [4, 9]) (by kernel_rfl) (by simp) ?_;refine AllReadyH.cons rfl (fun K hK => ?_) (AllReadyH.cons rfl (fun K hK => ?_) AllReadyH.nil)
   ·have a9 := c4c (jb K4 0 rfl);go_simp;refine hK.out _ _ a3 (fun _ => ?_)
    clear hK K a9;refine tkL 5 (.string (⟨#[98, 97, 110, 32]⟩ ++ ⟨#[98, 101, 108, 111, 119]⟩)) 12 rfl rfl (Or.inl ⟨by rfl, by intro W _; go_simp <;> omega⟩) a3 ?_;go_frame;refine tkL 6 (.string ((⟨#[98, 97, 110, 32]⟩ ++ ⟨#[98, 101, 108, 111, 119]⟩) ++ ⟨#[32]⟩)) 13 rfl rfl (Or.inl ⟨by rfl, by intro W _; go_simp <;> omega⟩) a3 ?_;go_frame;refine rd1 9 rfl (fun K hK => ?_)
    go_simp;refine (aE0 t _ (by have := HT.out; omega) (by have := HT.out; omega)).mono ?_;rintro e w5 ⟨rfl, bw⟩;rw [a7.out];have K5 := jw K4 bw;clear bw K4;have a0 := (jb K5 1 rfl);refine hK.out _ _ a0 (fun _ => ?_)
    clear hK K a3;refine tkL 10 (.string (((⟨#[98, 97, 110, 32]⟩ ++ ⟨#[98, 101, 108, 111, 119]⟩) ++ ⟨#[32]⟩) ++ tt)) 17 rfl rfl (Or.inl ⟨by rfl, by intro W _; go_simp <;> omega⟩) a0 ?_;go_frame;refine tkL 11 (.string ((((⟨#[98, 97, 110, 32]⟩ ++ ⟨#[98, 101, 108, 111, 119]⟩) ++ ⟨#[32]⟩) ++ tt) ++ ⟨#[32]⟩)) 18 rfl rfl (Or.inl ⟨by rfl, by intro W _; go_simp <;> omega⟩) a0 ?_;go_frame;refine tkL 14 (.string (((((⟨#[98, 97, 110, 32]⟩ ++ ⟨#[98, 101, 108, 111, 119]⟩) ++ ⟨#[32]⟩) ++ tt) ++ ⟨#[32]⟩) ++ a)) 21 rfl rfl (Or.inl ⟨by rfl, by intro W _; go_simp <;> omega⟩) a0 ?_;go_frame;refine tkP 15 (.string (((((⟨#[98, 97, 110, 32]⟩ ++ ⟨#[98, 101, 108, 111, 119]⟩) ++ ⟨#[32]⟩) ++ tt) ++ ⟨#[32]⟩) ++ a)) 3 rfl rfl a0 ?_;go_frame;clear a0;refine wdn ?_;have a6 := c4c (jb K5 1 rfl);go_wp2_with fail
    go_ret;exact ⟨_, rfl, fun _ => by rw [← a7.out, aC9 HT.out.1]; rfl, fun h => absurd b0.out h, K5.hb⟩
   go_simp;refine (aE0 t _ (by have := HT.out; omega) (by have := HT.out; omega)).mono ?_;rintro e w5 ⟨rfl, bw⟩;rw [a7.out];have K5 := jw K4 bw;clear bw K4;have a0 := (jb K5 1 rfl);refine hK.out _ _ a0 (fun _ => ?_)
   clear hK K a3;refine rd1 4 rfl (fun K hK => ?_)
   have a9 := c4c (jb K5 0 rfl);go_simp;refine hK.out _ _ a0 (fun _ => ?_)
   clear hK K a9;refine tkL 5 (.string (⟨#[98, 97, 110, 32]⟩ ++ ⟨#[98, 101, 108, 111, 119]⟩)) 12 rfl rfl (Or.inl ⟨by rfl, by intro W _; go_simp <;> omega⟩) a0 ?_;go_frame;refine tkL 6 (.string ((⟨#[98, 97, 110, 32]⟩ ++ ⟨#[98, 101, 108, 111, 119]⟩) ++ ⟨#[32]⟩)) 13 rfl rfl (Or.inl ⟨by rfl, by intro W _; go_simp <;> omega⟩) a0 ?_;go_frame;refine tkL 10 (.string (((⟨#[98, 97, 110, 32]⟩ ++ ⟨#[98, 101, 108, 111, 119]⟩) ++ ⟨#[32]⟩) ++ tt)) 17 rfl rfl (Or.inl ⟨by rfl, by intro W _; go_simp <;> omega⟩) a0 ?_;go_frame;refine tkL 11 (.string ((((⟨#[98, 97, 110, 32]⟩ ++ ⟨#[98, 101, 108, 111, 119]⟩) ++ ⟨#[32]⟩) ++ tt) ++ ⟨#[32]⟩)) 18 rfl rfl (Or.inl ⟨by rfl, by intro W _; go_simp <;> omega⟩) a0 ?_;go_frame;refine tkL 14 (.string (((((⟨#[98, 97, 110, 32]⟩ ++ ⟨#[98, 101, 108, 111, 119]⟩) ++ ⟨#[32]⟩) ++ tt) ++ ⟨#[32]⟩) ++ a)) 21 rfl rfl (Or.inl ⟨by rfl, by intro W _; go_simp <;> omega⟩) a0 ?_;go_frame;refine tkP 15 (.string (((((⟨#[98, 97, 110, 32]⟩ ++ ⟨#[98, 101, 108, 111, 119]⟩) ++ ⟨#[32]⟩) ++ tt) ++ ⟨#[32]⟩) ++ a)) 3 rfl rfl a0 ?_;go_frame;clear a0;refine wdn ?_;have a6 := c4c (jb K5 1 rfl);go_wp2_with fail
   go_ret;exact ⟨_, rfl, fun _ => by rw [← a7.out, aC9 HT.out.1]; rfl, fun h => absurd b0.out h, K5.hb⟩
  go_simp;refine (aE0 t _ (by have := HT.out; omega) (by have := HT.out; omega)).mono ?_;rintro e w4 ⟨rfl, bw⟩;rw [a7.out];have K4 := jw K3 bw;clear bw K3;have a3 := (jb K4 0 rfl);refine hK.out _ _ a3 (fun _ => ?_)
  clear hK K a4;refine rd1 0 rfl (fun K hK => ?_)
  go_simp;have bw : Below w4.heap.size w4 (w4.alloc (.cells #[.string ⟨#[]⟩, .string ⟨#[112, 97, 116, 104]⟩, .string ⟨#[98, 101, 108, 111, 119]⟩, .string ⟨#[102, 105, 101, 108, 100]⟩] 9)) := (Below.refl _ _).alloc (Nat.le_refl _) _;have a8 := aA6 (jb K4 0 rfl) bw;refine hK.out _ _ a8 (fun _ => ?_)
  clear hK K a8 bw a3;obtain ⟨q2, a5⟩ := exq (w4.heap.size);obtain ⟨w5, a2⟩ := exq ((w4.alloc (.cells #[.string ⟨#[]⟩, .string ⟨#[112, 97, 116, 104]⟩, .string ⟨#[98, 101, 108, 111, 119]⟩, .string ⟨#[102, 105, 101, 108, 100]⟩] 9)));rw [← a5, ← a2];have bw := bal a2;have K5 := ja K4 a2 a5.symm;have a0 := (jb K5 1 rfl);clear bw a2 a5 K4;refine tkP 3 (.pointer (some ⟨q2, 2, none⟩)) 10 rfl rfl a0 ?_;go_frame;refine rd1 4 rfl (fun K hK => ?_)
  have a9 := c4c (jb K5 0 rfl);go_simp;refine hK.out _ _ a0 (fun _ => ?_)
  clear hK K a9;refine tkL 5 (.string (⟨#[98, 97, 110, 32]⟩ ++ ⟨#[98, 101, 108, 111, 119]⟩)) 12 rfl rfl (Or.inl ⟨by rfl, by intro W _; go_simp <;> omega⟩) a0 ?_;go_frame;refine tkL 6 (.string ((⟨#[98, 97, 110, 32]⟩ ++ ⟨#[98, 101, 108, 111, 119]⟩) ++ ⟨#[32]⟩)) 13 rfl rfl (Or.inl ⟨by rfl, by intro W _; go_simp <;> omega⟩) a0 ?_;go_frame;refine tkL 10 (.string (((⟨#[98, 97, 110, 32]⟩ ++ ⟨#[98, 101, 108, 111, 119]⟩) ++ ⟨#[32]⟩) ++ tt)) 17 rfl rfl (Or.inl ⟨by rfl, by intro W _; go_simp <;> omega⟩) a0 ?_;go_frame;refine tkL 11 (.string ((((⟨#[98, 97, 110, 32]⟩ ++ ⟨#[98, 101, 108, 111, 119]⟩) ++ ⟨#[32]⟩) ++ tt) ++ ⟨#[32]⟩)) 18 rfl rfl (Or.inl ⟨by rfl, by intro W _; go_simp <;> omega⟩) a0 ?_;go_frame;refine tkL 14 (.string (((((⟨#[98, 97, 110, 32]⟩ ++ ⟨#[98, 101, 108, 111, 119]⟩) ++ ⟨#[32]⟩) ++ tt) ++ ⟨#[32]⟩) ++ a)) 21 rfl rfl (Or.inl ⟨by rfl, by intro W _; go_simp <;> omega⟩) a0 ?_;go_frame;refine tkP 15 (.string (((((⟨#[98, 97, 110, 32]⟩ ++ ⟨#[98, 101, 108, 111, 119]⟩) ++ ⟨#[32]⟩) ++ tt) ++ ⟨#[32]⟩) ++ a)) 3 rfl rfl a0 ?_;go_frame;clear a0;refine wdn ?_;have a6 := c4c (jb K5 1 rfl);go_wp2_with fail
  go_ret;exact ⟨_, rfl, fun _ => by rw [← a7.out, aC9 HT.out.1]; rfl, fun h => absurd b0.out h, K5.hb⟩
 go_upto_region 3 with fail
 refine wp_region_held_drew (S := fun W => W.heap[q1]? = some (.cells #[.int .i64 3, .string a, .string b, .int .i64 t] 44)) (by kernel_rfl) (jb K2 0 rfl) (fun _ => ?_)
 obtain ⟨w3, hX⟩ := exq w2.drew;have bw := bdr hX;rw [← hX];have K3 := jw K2 bw;have a4 := (jb K3 0 rfl);clear bw hX K2;refine tkP 1 (.pointer (some ⟨q1, 0, none⟩)) 8 rfl rfl a4 ?_;go_frame;refine tkL 2 (.int .i64 3) 9 rfl rfl (Or.inl ⟨by rfl, by intro W hW; have a1 := hW; have y0 := c4c a1; go_simp⟩) a4 ?_;go_frame;refine tkP 7 (.pointer (some ⟨q1, 3, none⟩)) 14 rfl rfl a4 ?_;go_frame;refine tkL 8 (.int .i64 t) 15 rfl rfl (Or.inl ⟨by rfl, by intro W hW; have a1 := hW; have y3 := c4c a1; go_simp⟩) a4 ?_;go_frame;refine tkP 12 (.pointer (some ⟨q1, 1, none⟩)) 19 rfl rfl a4 ?_;go_frame;refine tkL 13 (.string a) 20 rfl rfl (Or.inl ⟨by rfl, by intro W hW; have a1 := hW; have y1 := c4c a1; go_simp⟩) a4 ?_;go_frame;refine wpAnyH_ready (rs := [0, 9]) (by kernel_rfl) (by simp) ?_;refine AllReadyH.cons rfl (fun K hK => ?_) (AllReadyH.cons rfl (fun K hK => ?_) AllReadyH.nil)
 ·go_simp;have bw : Below w3.heap.size w3 (w3.alloc (.cells #[.string ⟨#[]⟩, .string ⟨#[112, 97, 116, 104]⟩, .string ⟨#[98, 101, 108, 111, 119]⟩, .string ⟨#[102, 105, 101, 108, 100]⟩] 9)) := (Below.refl _ _).alloc (Nat.le_refl _) _;have a8 := aA6 (jb K3 0 rfl) bw;refine hK.out _ _ a8 (fun _ => ?_)
  clear hK K a8 bw a4;obtain ⟨q2, a5⟩ := exq (w3.heap.size);obtain ⟨w4, a2⟩ := exq ((w3.alloc (.cells #[.string ⟨#[]⟩, .string ⟨#[112, 97, 116, 104]⟩, .string ⟨#[98, 101, 108, 111, 119]⟩, .string ⟨#[102, 105, 101, 108, 100]⟩] 9)));rw [← a5, ← a2];have bw := bal a2;have K4 := ja K3 a2 a5.symm;have a3 := (jb K4 1 rfl);clear bw a2 a5 K3;refine tkP 3 (.pointer (some ⟨q2, 3, none⟩)) 10 rfl rfl a3 ?_;go_frame;refine wpAnyH_ready (rs := [4, 9]) (by kernel_rfl) (by simp) ?_;refine AllReadyH.cons rfl (fun K hK => ?_) (AllReadyH.cons rfl (fun K hK => ?_) AllReadyH.nil)
  ·have a9 := c4c (jb K4 0 rfl);go_simp;refine hK.out _ _ a3 (fun _ => ?_)
   clear hK K a9;refine tkL 5 (.string (⟨#[98, 97, 110, 32]⟩ ++ ⟨#[102, 105, 101, 108, 100]⟩)) 12 rfl rfl (Or.inl ⟨by rfl, by intro W _; go_simp <;> omega⟩) a3 ?_;go_frame;refine tkL 6 (.string ((⟨#[98, 97, 110, 32]⟩ ++ ⟨#[102, 105, 101, 108, 100]⟩) ++ ⟨#[32]⟩)) 13 rfl rfl (Or.inl ⟨by rfl, by intro W _; go_simp <;> omega⟩) a3 ?_;go_frame;refine rd1 9 rfl (fun K hK => ?_)
   go_simp;refine (aE0 t _ (by have := HT.out; omega) (by have := HT.out; omega)).mono ?_;rintro e w5 ⟨rfl, bw⟩;rw [a7.out];have K5 := jw K4 bw;clear bw K4;have a0 := (jb K5 1 rfl);refine hK.out _ _ a0 (fun _ => ?_)
   clear hK K a3;refine tkL 10 (.string (((⟨#[98, 97, 110, 32]⟩ ++ ⟨#[102, 105, 101, 108, 100]⟩) ++ ⟨#[32]⟩) ++ tt)) 17 rfl rfl (Or.inl ⟨by rfl, by intro W _; go_simp <;> omega⟩) a0 ?_;go_frame;refine tkL 11 (.string ((((⟨#[98, 97, 110, 32]⟩ ++ ⟨#[102, 105, 101, 108, 100]⟩) ++ ⟨#[32]⟩) ++ tt) ++ ⟨#[32]⟩)) 18 rfl rfl (Or.inl ⟨by rfl, by intro W _; go_simp <;> omega⟩) a0 ?_;go_frame;refine tkL 14 (.string (((((⟨#[98, 97, 110, 32]⟩ ++ ⟨#[102, 105, 101, 108, 100]⟩) ++ ⟨#[32]⟩) ++ tt) ++ ⟨#[32]⟩) ++ a)) 21 rfl rfl (Or.inl ⟨by rfl, by intro W _; go_simp <;> omega⟩) a0 ?_;go_frame;refine tkP 15 (.string (((((⟨#[98, 97, 110, 32]⟩ ++ ⟨#[102, 105, 101, 108, 100]⟩) ++ ⟨#[32]⟩) ++ tt) ++ ⟨#[32]⟩) ++ a)) 3 rfl rfl a0 ?_;go_frame;clear a0;refine wdn ?_;have a6 := c4c (jb K5 1 rfl);go_wp2_with fail
   go_ret;exact ⟨_, rfl, fun _ => by rw [← a7.out, aC9 HT.out.1]; rfl, fun h => absurd b0.out h, K5.hb⟩
  go_simp;refine (aE0 t _ (by have := HT.out; omega) (by have := HT.out; omega)).mono ?_;rintro e w5 ⟨rfl, bw⟩;rw [a7.out];have K5 := jw K4 bw;clear bw K4;have a0 := (jb K5 1 rfl);refine hK.out _ _ a0 (fun _ => ?_)
  clear hK K a3;refine rd1 4 rfl (fun K hK => ?_)
  have a9 := c4c (jb K5 0 rfl);go_simp;refine hK.out _ _ a0 (fun _ => ?_)
  clear hK K a9;refine tkL 5 (.string (⟨#[98, 97, 110, 32]⟩ ++ ⟨#[102, 105, 101, 108, 100]⟩)) 12 rfl rfl (Or.inl ⟨by rfl, by intro W _; go_simp <;> omega⟩) a0 ?_;go_frame;refine tkL 6 (.string ((⟨#[98, 97, 110, 32]⟩ ++ ⟨#[102, 105, 101, 108, 100]⟩) ++ ⟨#[32]⟩)) 13 rfl rfl (Or.inl ⟨by rfl, by intro W _; go_simp <;> omega⟩) a0 ?_;go_frame;refine tkL 10 (.string (((⟨#[98, 97, 110, 32]⟩ ++ ⟨#[102, 105, 101, 108, 100]⟩) ++ ⟨#[32]⟩) ++ tt)) 17 rfl rfl (Or.inl ⟨by rfl, by intro W _; go_simp <;> omega⟩) a0 ?_;go_frame;refine tkL 11 (.string ((((⟨#[98, 97, 110, 32]⟩ ++ ⟨#[102, 105, 101, 108, 100]⟩) ++ ⟨#[32]⟩) ++ tt) ++ ⟨#[32]⟩)) 18 rfl rfl (Or.inl ⟨by rfl, by intro W _; go_simp <;> omega⟩) a0 ?_;go_frame;refine tkL 14 (.string (((((⟨#[98, 97, 110, 32]⟩ ++ ⟨#[102, 105, 101, 108, 100]⟩) ++ ⟨#[32]⟩) ++ tt) ++ ⟨#[32]⟩) ++ a)) 21 rfl rfl (Or.inl ⟨by rfl, by intro W _; go_simp <;> omega⟩) a0 ?_;go_frame;refine tkP 15 (.string (((((⟨#[98, 97, 110, 32]⟩ ++ ⟨#[102, 105, 101, 108, 100]⟩) ++ ⟨#[32]⟩) ++ tt) ++ ⟨#[32]⟩) ++ a)) 3 rfl rfl a0 ?_;go_frame;clear a0;refine wdn ?_;have a6 := c4c (jb K5 1 rfl);go_wp2_with fail
  go_ret;exact ⟨_, rfl, fun _ => by rw [← a7.out, aC9 HT.out.1]; rfl, fun h => absurd b0.out h, K5.hb⟩
 go_simp;refine (aE0 t _ (by have := HT.out; omega) (by have := HT.out; omega)).mono ?_;rintro e w4 ⟨rfl, bw⟩;rw [a7.out];have K4 := jw K3 bw;clear bw K3;have a3 := (jb K4 0 rfl);refine hK.out _ _ a3 (fun _ => ?_)
 clear hK K a4;refine rd1 0 rfl (fun K hK => ?_)
 go_simp;have bw : Below w4.heap.size w4 (w4.alloc (.cells #[.string ⟨#[]⟩, .string ⟨#[112, 97, 116, 104]⟩, .string ⟨#[98, 101, 108, 111, 119]⟩, .string ⟨#[102, 105, 101, 108, 100]⟩] 9)) := (Below.refl _ _).alloc (Nat.le_refl _) _;have a8 := aA6 (jb K4 0 rfl) bw;refine hK.out _ _ a8 (fun _ => ?_)
 clear hK K a8 bw a3;obtain ⟨q2, a5⟩ := exq (w4.heap.size);obtain ⟨w5, a2⟩ := exq ((w4.alloc (.cells #[.string ⟨#[]⟩, .string ⟨#[112, 97, 116, 104]⟩, .string ⟨#[98, 101, 108, 111, 119]⟩, .string ⟨#[102, 105, 101, 108, 100]⟩] 9)));rw [← a5, ← a2];have bw := bal a2;have K5 := ja K4 a2 a5.symm;have a0 := (jb K5 1 rfl);clear bw a2 a5 K4;refine tkP 3 (.pointer (some ⟨q2, 3, none⟩)) 10 rfl rfl a0 ?_;go_frame;refine rd1 4 rfl (fun K hK => ?_)
 have a9 := c4c (jb K5 0 rfl);go_simp;refine hK.out _ _ a0 (fun _ => ?_)
 clear hK K a9;refine tkL 5 (.string (⟨#[98, 97, 110, 32]⟩ ++ ⟨#[102, 105, 101, 108, 100]⟩)) 12 rfl rfl (Or.inl ⟨by rfl, by intro W _; go_simp <;> omega⟩) a0 ?_;go_frame;refine tkL 6 (.string ((⟨#[98, 97, 110, 32]⟩ ++ ⟨#[102, 105, 101, 108, 100]⟩) ++ ⟨#[32]⟩)) 13 rfl rfl (Or.inl ⟨by rfl, by intro W _; go_simp <;> omega⟩) a0 ?_;go_frame;refine tkL 10 (.string (((⟨#[98, 97, 110, 32]⟩ ++ ⟨#[102, 105, 101, 108, 100]⟩) ++ ⟨#[32]⟩) ++ tt)) 17 rfl rfl (Or.inl ⟨by rfl, by intro W _; go_simp <;> omega⟩) a0 ?_;go_frame;refine tkL 11 (.string ((((⟨#[98, 97, 110, 32]⟩ ++ ⟨#[102, 105, 101, 108, 100]⟩) ++ ⟨#[32]⟩) ++ tt) ++ ⟨#[32]⟩)) 18 rfl rfl (Or.inl ⟨by rfl, by intro W _; go_simp <;> omega⟩) a0 ?_;go_frame;refine tkL 14 (.string (((((⟨#[98, 97, 110, 32]⟩ ++ ⟨#[102, 105, 101, 108, 100]⟩) ++ ⟨#[32]⟩) ++ tt) ++ ⟨#[32]⟩) ++ a)) 21 rfl rfl (Or.inl ⟨by rfl, by intro W _; go_simp <;> omega⟩) a0 ?_;go_frame;refine tkP 15 (.string (((((⟨#[98, 97, 110, 32]⟩ ++ ⟨#[102, 105, 101, 108, 100]⟩) ++ ⟨#[32]⟩) ++ tt) ++ ⟨#[32]⟩) ++ a)) 3 rfl rfl a0 ?_;go_frame;clear a0;refine wdn ?_;have a6 := c4c (jb K5 1 rfl);go_wp2_with fail
 go_ret;exact ⟨_, rfl, fun _ => by rw [← a7.out, aC9 HT.out.1]; rfl, fun h => absurd b0.out h, K5.hb⟩
def cW3 (s : Tx) (w : World) (e : Ending) (w' : World) : Prop :=
 Below w.heap.size w w' ∧ ((∃ (k : Int) (a b : Tx) (t : Int), e = .returned (.tuple #[.agg #[.int .i64 k, .string a, .string b, .int .i64 t], .bool true]) ∧ aI8 s k a b t) ∨ (e = .returned (.tuple #[.agg #[.int .i64 0, .string ⟨#[]⟩, .string ⟨#[]⟩, .int .i64 0], .bool false]) ∧ ∀ k a b t, ¬ aI8 s k a b t))
def kdTo (x : Tx) : Nat → Int
 | 0 => 0
 | j + 1 => if 1 ≤ j ∧ bkW (j : Int) = x then (j : Int) else kdTo x j
theorem dD7 {k : Int} (h : k = 1 ∨ k = 2 ∨ k = 3) : kdTo (bkW k) 4 = k := by
 rcases h with rfl | rfl | rfl <;> decide
theorem aJ0 {W : World} {g q i o : Nat} (v : Value) (h : g ≠ q) : (W.setCell ⟨q, o, none⟩ v).cell? ⟨g, i, none⟩ = W.cell? ⟨g, i, none⟩ := by
 unfold World.cell?;rw [heap_setCell_other _ _ _ _ h]
theorem dJ4 {s : ByteArray} {w w' : World} {e : Ending} (hs : s.size ≤ 3000000) (h : dD5 s 0 w e w') : w' = w ∧ ∃ (line : Tx) (x : Int), e = .returned (.tuple #[.string line, .int .i64 x]) ∧ line.size ≤ 3000000 ∧ ((x = -1 ∧ ∀ k a b t, aI8 s k a b t → bs s = aJ5 k a t ∧ (⟨#[]⟩ : Tx) = b) ∨ ∃ f : Nat, x = (f : Int) ∧ f ≤ s.size ∧ 1 ≤ s.size ∧ ∀ k a b t, aI8 s k a b t → bs line = aJ5 k a t ∧ s.extract f s.size = b) := by
 obtain ⟨h1, ⟨i, hl, rfl⟩ | ⟨a0, rfl⟩⟩ := h
 ·refine ⟨h1, _, _, rfl, ?_, .inr ⟨i + 1, rfl, hl.1, by have := hl.1; omega, fun k a b t h => ?_⟩⟩
  ·have h2 : (bs (s.extract 0 i)).length ≤ (bs s).length := by
    rw [aE2, List.length_drop, List.length_take]
    omega
   rw [aC4, aC4] at h2;omega
  rcases bQ2 h with ⟨hk, e1⟩ | ⟨hk, e1, e2⟩
  ·obtain ⟨e3, e4⟩ := cC9 (f := 0) e1 rfl (bB3 h.1).1 hl;refine ⟨e4, aE3 ?_⟩;rw [aE2, ← aC4 s, List.take_length, e1, e3];simp
  exfalso
  obtain ⟨hi, _, h3, _⟩ := hl;have h4 := cS2 hi;rw [e1] at h4;exact (bB3 h.1).1 _ (List.mem_of_getElem? h4) (UInt8.toNat_inj.1 h3)
 refine ⟨h1, _, _, rfl, by decide, .inl ⟨rfl, fun k a b t h => ?_⟩⟩
 rcases bQ2 h with ⟨hk, e1⟩ | ⟨hk, e1, e2⟩
 ·exact (bF3 e1 rfl a0).elim
 exact ⟨e1, e2.symm⟩
theorem bR5 (s : Tx) (w : World) (hs : s.size ≤ 3000000) :
  Calls prog 210 #[.string s] w fun e w' => cW3 s w e w' := by
 obtain ⟨R, hR⟩ := exq (w.heap.size);obtain ⟨q, hq⟩ := exq (w.heap.size + 1);have a3 : Hid (w.heap.size ≤ R) := by show _ ≤ _; omega
 have c6 : Hid (w.heap.size ≤ q) := by show _ ≤ _; omega
 have e5 : Hid (R ≠ q) := by show _ ≠ _; omega
 obtain ⟨W1, g0⟩ := exq (w.alloc (.cells #[.int .i64 0, .string ⟨#[]⟩, .string ⟨#[]⟩, .int .i64 0] 44));obtain ⟨W2, i3⟩ := exq (W1.alloc (.cells #[.int .i64 0, .string ⟨#[]⟩, .string ⟨#[]⟩, .int .i64 0] 44));have k4 : W1.heap.size = w.heap.size + 1 := by rw [g0]; simp
 have b1 : Bw w W1 := by rw [g0]; exact (Below.refl _ _).alloc (Nat.le_refl _) _
 have b2 : Below W1.heap.size W1 W2 := by rw [i3]; exact (Below.refl _ _).alloc (Nat.le_refl _) _
 have k5 : W1.heap[R]? = some (.cells #[.int .i64 0, .string ⟨#[]⟩, .string ⟨#[]⟩, .int .i64 0] 44) := by rw [g0, hR]; exact heap_alloc_new _ _
 have e0 : Hid (Bw w W2) := b1.trans (b2.mono b1.size);have e6 : Hid (W2.heap[R]? = some (.cells #[.int .i64 0, .string ⟨#[]⟩, .string ⟨#[]⟩, .int .i64 0] 44)) := aA6 k5 b2;have e7 : Hid (W2.heap[q]? = some (.cells #[.int .i64 0, .string ⟨#[]⟩, .string ⟨#[]⟩, .int .i64 0] 44)) := by show _ = _; rw [i3, hq, ← k4]; exact heap_alloc_new _ _
 have k6 : q = W1.heap.size := by omega
 clear b1 b2 k5 k4 hq;go_enter func210, ntmps210;go_upto_region 1 with fail
 rw [← g0, ← hR];clear g0 hR;go_wp2_with fail
 refine (aX8 s 0 _ (by omega) (Nat.zero_le _)).mono ?_;intro e w2 hlo;obtain ⟨rfl, e8, x, rfl, l0, hx⟩ := dJ4 hs hlo;clear hlo;go_upto_region 3 with fail
 rw [← i3, ← k6];clear i3 k6;rcases hx with ⟨rfl, f9⟩ | ⟨f, rfl, hf, l1, f9⟩
 ·by_cases h0 : s.size = 0
  ·have g1 : Hid (∀ k a b t, ¬ aI8 s k a b t) := fun k a b t h => by
    have h1 := cN4 k a b t
    rw [h.2] at h1
    omega
   have k7 : Hid (aG6 [] [] (bs s) = [[]]) := by
    show _ = _
    rw [show bs s = [] from List.length_eq_zero_iff.1 (by rw [aC4]; exact h0)]
    rfl
   have a0 := e6.out;have a5 := e0.out;go_wp2_with fail
   refine (aL3 s _ (by omega)).mono ?_;rintro e w5 ⟨vW, xs, rfl, a2, i4, bw, hwd⟩;obtain ⟨oW, cW, rfl⟩ := aA0 a2
   have k9 : xs.length = 1 := by
    have e := congrArg List.length (hwd.symm.trans k7.out)
    simpa using e
   have g3 : ((xs.length : Int) != 4) = true := by rw [bne_iff_ne]; omega
   have a0 := aA6 e6.out bw;have a5 := e0.out.trans (bw.mono e0.out.size);have c7 := g1;obtain ⟨c0, c1, c2, c3⟩ := c4c a0;have f0 := aA2 a0 0;have f1 := aA2 a0 1;have f2 := aA2 a0 2;have f3 := aA2 a0 3;obtain ⟨WE, a1⟩ := exq (((((w5.setCell ⟨R, 0, none⟩ (.int .i64 0)).setCell ⟨R, 1, none⟩ (.string ⟨#[]⟩)).setCell ⟨R, 2, none⟩ (.string ⟨#[]⟩)).setCell ⟨R, 3, none⟩ (.int .i64 0)));have a8 := hid a1.symm;have a9 : Hid (Bw w WE) := by show Below _ _ _; rw [a1]; exact (bsc (bsc (bsc (bsc a5 a3.out 0) a3.out 1) a3.out 2) a3.out 3)
   have a4 : WE.heap[R]? = some (.cells #[.int .i64 0, .string ⟨#[]⟩, .string ⟨#[]⟩, .int .i64 0] 44) := by rw [a1]; have h := (aA3 _ R 3 _ _ _ (.int .i64 0) (aA3 _ R 2 _ _ _ (.string ⟨#[]⟩) (aA3 _ R 1 _ _ _ (.string ⟨#[]⟩) (aA3 _ R 0 _ _ _ (.int .i64 0) a0)))); simpa using h
   obtain ⟨k0, k1, k2, k3⟩ := c4c a4;clear a1 a4 a0 a5;clear hwd k9 h0 a2 bw f9 e0 e6 e7 k7 g1;go_wp2_with fail
   simp only [a8.out]
   exact bodyPost_ret (v := .tuple #[.agg #[.int .i64 0, .string ⟨#[]⟩, .string ⟨#[]⟩, .int .i64 0], .bool false]) (by simp [results, results210, go_sem, k0, k1, k2, k3]) rfl ⟨a9.out, .inr ⟨rfl, c7.out⟩⟩
  have i6 : (⟨#[]⟩ : Tx).size ≤ 3000000 := by decide
  have i7 := hid h0;have g4 := hid f9;have e9 := e0;have g5 := e6;have g6 := e7;clear e0 e6 e7 f9 h0;go_wp2_with fail
  refine (aL3 s _ (by omega)).mono ?_;rintro e w5 ⟨vW, xs, rfl, a2, i4, bw, hwd⟩;obtain ⟨oW, cW, rfl⟩ := aA0 a2;have b4 : Hid (Bw w w5) := e9.out.trans (bw.mono e9.out.size);have c8 := hblk g5 bw;have b5 := hblk g6 bw
  have c9 : Hid (∀ k a b t, aI8 s k a b t → xs.map bs = [banL, bs (bkW k), numL t.toNat, bs a]) := fun k a b t h => by
   rw [← hwd, (g4.out k a b t h).1]
   exact (bB3 h.1).2
  have d4 : Hid (∀ x ∈ xs, x.size ≤ maxLen) := fun x hx => by
   have h1 : bs x ∈ aG6 [] [] (bs s) := by rw [hwd]; exact List.mem_map.2 ⟨x, hx, rfl⟩
   rcases aV5 _ _ _ _ h1 with h2 | h2
   ·simp at h2
   ·rw [aC4, aC4] at h2
    simp at h2
    unfold maxLen
    omega
  clear bw hwd e9 g5 g6;by_cases h4 : xs.length = 4
  rotate_left
  ·have g3 : ((xs.length : Int) != 4) = true := by rw [bne_iff_ne]; omega
   have a0 := c8.out;have a5 := b4.out
   have c7 : Hid (∀ k a b t, ¬ aI8 s k a b t) := fun k a b t h => h4 (by
    have e := congrArg List.length (c9.out k a b t h)
    simpa using e)
   obtain ⟨c0, c1, c2, c3⟩ := c4c a0;have f0 := aA2 a0 0;have f1 := aA2 a0 1;have f2 := aA2 a0 2;have f3 := aA2 a0 3;obtain ⟨WE, a1⟩ := exq (((((w5.setCell ⟨R, 0, none⟩ (.int .i64 0)).setCell ⟨R, 1, none⟩ (.string ⟨#[]⟩)).setCell ⟨R, 2, none⟩ (.string ⟨#[]⟩)).setCell ⟨R, 3, none⟩ (.int .i64 0)));have a8 := hid a1.symm;have a9 : Hid (Bw w WE) := by show Below _ _ _; rw [a1]; exact (bsc (bsc (bsc (bsc a5 a3.out 0) a3.out 1) a3.out 2) a3.out 3)
   have a4 : WE.heap[R]? = some (.cells #[.int .i64 0, .string ⟨#[]⟩, .string ⟨#[]⟩, .int .i64 0] 44) := by rw [a1]; have h := (aA3 _ R 3 _ _ _ (.int .i64 0) (aA3 _ R 2 _ _ _ (.string ⟨#[]⟩) (aA3 _ R 1 _ _ _ (.string ⟨#[]⟩) (aA3 _ R 0 _ _ _ (.int .i64 0) a0)))); simpa using h
   obtain ⟨k0, k1, k2, k3⟩ := c4c a4;clear a1 a4 a0 a5;clear h4 c8 b4 b5 c9 d4;go_wp2_with fail
   simp only [a8.out]
   exact bodyPost_ret (v := .tuple #[.agg #[.int .i64 0, .string ⟨#[]⟩, .string ⟨#[]⟩, .int .i64 0], .bool false]) (by simp [results, results210, go_sem, k0, k1, k2, k3]) rfl ⟨a9.out, .inr ⟨rfl, c7.out⟩⟩
  obtain ⟨x0, x1, x2, x3, rfl⟩ : ∃ x0 x1 x2 x3, xs = [x0, x1, x2, x3] := by
   match xs, h4 with
   | [a, b, c, d], _ => exact ⟨a, b, c, d, rfl⟩
  have g7 : Hid (∀ k a b t, aI8 s k a b t → x1 = bkW k ∧ x2 = aB7 t.toNat ∧ x3 = a) := fun k a b t h => by
   have e := c9.out k a b t h
   simp only [List.map_cons, List.map_nil, List.cons.injEq] at e
   exact ⟨aE3 e.2.1, bG1 e.2.2.1, aE3 e.2.2.2.1⟩
  have z2 : x2.size ≤ maxLen := d4.out _ (by simp);have z3 : x3.size ≤ maxLen := d4.out _ (by simp);obtain ⟨gW, i8, _⟩ := (aC2 a2).2 0 (by simp);subst i8
  have b6 : w5.cell? ⟨gW, 1, none⟩ = some (.string x1) ∧ w5.cell? ⟨gW, 2, none⟩ = some (.string x2) ∧ w5.cell? ⟨gW, 3, none⟩ = some (.string x3) := by
   have ht := aC2 a2
   refine ⟨?_, ?_, ?_⟩
   ·obtain ⟨g, e, _, hc⟩ := ht.2 1 (by simp)
    cases e; exact hc
   ·obtain ⟨g, e, _, hc⟩ := ht.2 2 (by simp)
    cases e; exact hc
   ·obtain ⟨g, e, _, hc⟩ := ht.2 3 (by simp)
    cases e; exact hc
  have f4 : Hid (gW < w5.heap.size) := World.block_lt_of_cell? _ _ b6.1;have g8 : ([x0, x1, x2, x3] : Ts).length = 4 := rfl;rw [g8];have g9 := aE8 a2 b5.out (by decide) gW rfl;have d5 : Hid (gW ≠ q) := g9;obtain ⟨g2, f5⟩ := exq (w5.heap.size);obtain ⟨W6, d6⟩ := exq (w5.alloc (.cells #[.string ⟨#[]⟩, .string ⟨#[112, 97, 116, 104]⟩, .string ⟨#[98, 101, 108, 111, 119]⟩, .string ⟨#[102, 105, 101, 108, 100]⟩] 9));have bA : Below w5.heap.size w5 W6 := by rw [d6]; exact (Below.refl _ _).alloc (Nat.le_refl _) _
  have i9 : Hid (g2 ≠ q ∧ w.heap.size ≤ q) := ⟨fun e => by have h1 := (blt b5.out); omega, c6.out⟩
  have H6 : Hid (Bw w W6 ∧ W6.heap[R]? = some (.cells #[.int .i64 0, .string ⟨#[]⟩, .string ⟨#[]⟩, .int .i64 0] 44) ∧ W6.heap[q]? = some (.cells #[.int .i64 0, .string ⟨#[]⟩, .string ⟨#[]⟩, .int .i64 0] 44) ∧ W6.heap[g2]? = some (.cells #[.string ⟨#[]⟩, .string ⟨#[112, 97, 116, 104]⟩, .string ⟨#[98, 101, 108, 111, 119]⟩, .string ⟨#[102, 105, 101, 108, 100]⟩] 9) ∧ W6.cell? ⟨gW, 1, none⟩ = some (.string x1) ∧ W6.cell? ⟨gW, 2, none⟩ = some (.string x2) ∧ W6.cell? ⟨gW, 3, none⟩ = some (.string x3)) := by
   refine ⟨b4.out.trans (bA.mono b4.out.size), aA6 c8.out bA, aA6 b5.out bA, by rw [d6, f5]; exact heap_alloc_new _ _, ?_, ?_, ?_⟩
   ·rw [bA.cell (p := ⟨gW, 1, none⟩) f4.out]; exact b6.1
   ·rw [bA.cell (p := ⟨gW, 2, none⟩) f4.out]; exact b6.2.1
   ·rw [bA.cell (p := ⟨gW, 3, none⟩) f4.out]; exact b6.2.2
  clear c9 d4 i4 h4 b6 a2 bA g8 g9;go_upto_region 10 with fail
  rw [← d6, ← f5];clear d6 f5 b4 c8 b5;go_wp2_with fail
  go_loopw [9] (fun i wr => ∃ j : Nat, 1 ≤ j ∧ j ≤ 4 ∧ i = .int .i64 (j : Int) ∧ Hid (Bw w wr ∧ wr.heap[R]? = some (.cells #[.int .i64 0, .string ⟨#[]⟩, .string ⟨#[]⟩, .int .i64 0] 44) ∧ wr.heap[q]? = some (.cells #[.int .i64 (kdTo x1 j), .string ⟨#[]⟩, .string ⟨#[]⟩, .int .i64 0] 44) ∧ wr.heap[g2]? = some (.cells #[.string ⟨#[]⟩, .string ⟨#[112, 97, 116, 104]⟩, .string ⟨#[98, 101, 108, 111, 119]⟩, .string ⟨#[102, 105, 101, 108, 100]⟩] 9) ∧ wr.cell? ⟨gW, 1, none⟩ = some (.string x1) ∧ wr.cell? ⟨gW, 2, none⟩ = some (.string x2) ∧ wr.cell? ⟨gW, 3, none⟩ = some (.string x3))) (fun i _ => 4 - (intOf i).toNat)
  case atStart => exact ⟨1, by omega, by omega, rfl, H6⟩
  case round =>
   obtain ⟨j, j0, hj, rfl, HW⟩ := hrel;by_cases hlt : (j : Int) < 4
   ·have cn : wr.cell? ⟨g2, j, none⟩ = some (.string (bkW (j : Int))) := by
     obtain rfl | rfl | rfl : j = 1 ∨ j = 2 ∨ j = 3 := by omega
     ·exact (aA1 HW.out.2.2.2.1 1).trans rfl
     ·exact (aA1 HW.out.2.2.2.1 2).trans rfl
     ·exact (aA1 HW.out.2.2.2.1 3).trans rfl
    have cw := HW.out.2.2.2.2.1;obtain ⟨bk, b7⟩ : ∃ x, x = bkW (j : Int) := ⟨_, rfl⟩;rw [← b7] at cn;obtain ⟨kd, b0⟩ := exq (kdTo x1 j);have HQ := (show Hid _ from HW.out.2.2.1);by_cases heq : bk = x1
    rotate_left
    ·have te := aB8 heq;have b8 : Hid (kdTo x1 (j + 1) = kdTo x1 j) := by show _ = _; rw [kdTo, if_neg (fun h => heq (by rw [b7]; exact h.2))]
     clear heq b7;go_wp2_with fail
     go_region_held3 (fun W => W.cell? ⟨g2, j, none⟩ = some (.string bk) ∧ W.cell? ⟨gW, 1, none⟩ = some (.string x1)) (first | assumption | go_keep) (fail)
     have f6 : Hid (Bw w wr.drew ∧ wr.drew.heap[R]? = some (.cells #[.int .i64 0, .string ⟨#[]⟩, .string ⟨#[]⟩, .int .i64 0] 44) ∧ wr.drew.heap[q]? = some (.cells #[.int .i64 (kdTo x1 (j + 1)), .string ⟨#[]⟩, .string ⟨#[]⟩, .int .i64 0] 44) ∧ wr.drew.heap[g2]? = some (.cells #[.string ⟨#[]⟩, .string ⟨#[112, 97, 116, 104]⟩, .string ⟨#[98, 101, 108, 111, 119]⟩, .string ⟨#[102, 105, 101, 108, 100]⟩] 9) ∧ wr.drew.cell? ⟨gW, 1, none⟩ = some (.string x1) ∧ wr.drew.cell? ⟨gW, 2, none⟩ = some (.string x2) ∧ wr.drew.cell? ⟨gW, 3, none⟩ = some (.string x3)) := by
      rw [b8.out]
      exact ⟨HW.out.1.drew, HW.out.2⟩
     clear HW HQ cn cw b0;go_wp2_with fail
     go_roundw
     case rel => exact ⟨j + 1, by omega, by omega, by go_num, f6⟩
     case measure => simp [intOf]; omega
    have te : (bk.toList == x1.toList) = true := (aD3 _ _).2 heq;have b8 : Hid (kdTo x1 (j + 1) = (j : Int)) := by show _ = _; rw [kdTo, if_pos ⟨j0, by rw [← b7]; exact heq⟩]
    clear heq b7;go_wp2_with fail
    go_region_held3 (fun W => W.cell? ⟨g2, j, none⟩ = some (.string bk) ∧ W.cell? ⟨gW, 1, none⟩ = some (.string x1)) (first | assumption | go_keep) (fail)
    have hW := HW.out;have d7 : wr.drew.heap[q]? = some (.cells #[.int .i64 (kdTo x1 j), .string ⟨#[]⟩, .string ⟨#[]⟩, .int .i64 0] 44) := hW.2.2.1;have cq := (c4c d7).1;have fq := aA2 d7 0
    have f6 : Hid (Bw w (wr.drew.setCell ⟨q, 0, none⟩ (.int .i64 (j : Int))) ∧ (wr.drew.setCell ⟨q, 0, none⟩ (.int .i64 (j : Int))).heap[R]? = some (.cells #[.int .i64 0, .string ⟨#[]⟩, .string ⟨#[]⟩, .int .i64 0] 44) ∧ (wr.drew.setCell ⟨q, 0, none⟩ (.int .i64 (j : Int))).heap[q]? = some (.cells #[.int .i64 (kdTo x1 (j + 1)), .string ⟨#[]⟩, .string ⟨#[]⟩, .int .i64 0] 44) ∧ (wr.drew.setCell ⟨q, 0, none⟩ (.int .i64 (j : Int))).heap[g2]? = some (.cells #[.string ⟨#[]⟩, .string ⟨#[112, 97, 116, 104]⟩, .string ⟨#[98, 101, 108, 111, 119]⟩, .string ⟨#[102, 105, 101, 108, 100]⟩] 9) ∧ (wr.drew.setCell ⟨q, 0, none⟩ (.int .i64 (j : Int))).cell? ⟨gW, 1, none⟩ = some (.string x1) ∧ (wr.drew.setCell ⟨q, 0, none⟩ (.int .i64 (j : Int))).cell? ⟨gW, 2, none⟩ = some (.string x2) ∧ (wr.drew.setCell ⟨q, 0, none⟩ (.int .i64 (j : Int))).cell? ⟨gW, 3, none⟩ = some (.string x3)) := by
     rw [b8.out]
     refine ⟨bsc hW.1.drew c6.out 0, by rw [heap_setCell_other _ _ _ _ e5.out]; exact hW.2.1, by have h := aA3 _ _ 0 _ _ _ (.int .i64 (j : Int)) d7; simpa using h, by rw [heap_setCell_other _ _ _ _ i9.out.1]; exact hW.2.2.2.1, ?_, ?_, ?_⟩
     ·rw [aJ0 _ d5.out]; exact hW.2.2.2.2.1
     ·rw [aJ0 _ d5.out]; exact hW.2.2.2.2.2.1
     ·rw [aJ0 _ d5.out]; exact hW.2.2.2.2.2.2
    clear hW d7 HW HQ cn cw b0;go_wp2_with fail
    go_roundw
    case rel => exact ⟨j + 1, by omega, by omega, by go_num, f6⟩
    case measure => simp [intOf]; omega
   obtain rfl : j = 4 := by omega
   obtain ⟨kd, b0⟩ := exq (kdTo x1 4)
   have b8 : Hid (∀ k a b t, aI8 s k a b t → kd = k) := fun k a b t h => by
    rw [b0, (g7.out k a b t h).1]
    exact dD7 h.1.kinds
   have hW := HW.out;rw [← b0] at hW;have HV := (show Hid _ from hW);clear HW b0 hW;have c2 := HV.out.2.2.2.2.2.1;go_wp2_with fail
   refine (aI3 x2 _ z2).mono ?_;rintro e w7 ⟨bo, t, rfl, h3, h5, j1, bw⟩;have j2 : Hid (aO1 x2 → t = valL x2.data.toList) := fun h => h5 (h3.2 h)
   have d8 := aA6 HV.out.2.2.1 bw;have c3 := (c4c d8).2.2.2;have f3 := aA2 d8 3;have gl : gW < wr.heap.size := World.block_lt_of_cell? _ _ c2;have cx : w7.cell? ⟨gW, 3, none⟩ = some (.string x3) := by rw [bw.cell (p := ⟨gW, 3, none⟩) gl]; exact HV.out.2.2.2.2.2.2
   obtain ⟨W8, b3⟩ := exq (w7.setCell ⟨q, 3, none⟩ (.int .i64 t));have b9 := hid b3.symm;have j3 : Hid (Bw w W8) := by show Below _ _ _; rw [b3]; exact bsc (HV.out.1.trans (bw.mono HV.out.1.size)) c6.out 3
   have j4 : Hid (W8.heap[R]? = some (.cells #[.int .i64 0, .string ⟨#[]⟩, .string ⟨#[]⟩, .int .i64 0] 44)) := by show _ = _; rw [b3, heap_setCell_other _ _ _ _ e5.out]; exact aA6 HV.out.2.1 bw
   have d9 : W8.heap[q]? = some (.cells #[.int .i64 kd, .string ⟨#[]⟩, .string ⟨#[]⟩, .int .i64 t] 44) := by rw [b3]; have h := aA3 _ _ 3 _ _ _ (.int .i64 t) d8; simpa using h
   have j5 : W8.cell? ⟨gW, 3, none⟩ = some (.string x3) := by rw [b3, aJ0 _ d5.out]; exact cx
   have c1 := (c4c d9).2.1;have f1 := aA2 d9 1;obtain ⟨W9, c4⟩ := exq (W8.setCell ⟨q, 1, none⟩ (.string x3));have c5 := hid c4.symm;have f7 : Hid (Bw w W9) := by show Below _ _ _; rw [c4]; exact bsc j3.out c6.out 1
   have h6 : Hid (W9.heap[R]? = some (.cells #[.int .i64 0, .string ⟨#[]⟩, .string ⟨#[]⟩, .int .i64 0] 44)) := by show _ = _; rw [c4, heap_setCell_other _ _ _ _ e5.out]; exact j4.out
   have f8 : Hid (W9.heap[q]? = some (.cells #[.int .i64 kd, .string x3, .string ⟨#[]⟩, .int .i64 t] 44)) := by show _ = _; rw [c4]; have h := aA3 _ _ 1 _ _ _ (.string x3) d9; simpa using h
   have j6 : Hid (∀ k a b u, aI8 s k a b u → kd = k ∧ x3 = a ∧ ⟨#[]⟩ = b ∧ t = u) := fun k a b u h => by
    obtain ⟨e1, e2, e3⟩ := g7.out k a b u h
    have hu := h.1.1
    have e4 := aP7 (by omega) e2 j2.out
    exact ⟨b8.out k a b u h, e3, (g4.out k a b u h).2, by omega⟩
   clear h3 h5 j1 bw d8 d9 b3 c4 c2 HV gl;go_upto_region 16 with fail
   rw [b9.out];clear c3 f3 cx b9;go_upto_region 17 with fail
   rw [c5.out];clear c1 f1 j5 c5;obtain ⟨d0, d1, d2, d3⟩ := c4c f8.out;go_wp2_with fail
   have a6 := aZ7 kd x3 ⟨#[]⟩ t W9 z3 (Nat.le_trans i6 (by unfold maxLen; decide));refine a6.mono ?_;clear a6;rintro e h7 ⟨u, rfl, h8, h9, bw⟩;have i0 := hid h8;have j7 := hid h9;have a0 := aA6 h6.out bw;have a5 := f7.out.trans (bw.mono f7.out.size);have a7 := aA6 f8.out bw;clear h8 h9 bw d0 d1 d2 d3 h6 f7 f8;by_cases hus : u = s
   rotate_left
   ·have c7 : Hid (∀ k a b t, ¬ aI8 s k a b t) := fun k a b t h => by
     obtain ⟨rfl, rfl, rfl, rfl⟩ := j6.out _ _ _ _ h
     exact hus ((i0.out h.1).trans h.2)
    have j8 := aB8 hus;obtain ⟨c0, c1, c2, c3⟩ := c4c a0;have f0 := aA2 a0 0;have f1 := aA2 a0 1;have f2 := aA2 a0 2;have f3 := aA2 a0 3;obtain ⟨WE, a1⟩ := exq (((((h7.setCell ⟨R, 0, none⟩ (.int .i64 0)).setCell ⟨R, 1, none⟩ (.string ⟨#[]⟩)).setCell ⟨R, 2, none⟩ (.string ⟨#[]⟩)).setCell ⟨R, 3, none⟩ (.int .i64 0)));have a8 := hid a1.symm;have a9 : Hid (Bw w WE) := by show Below _ _ _; rw [a1]; exact (bsc (bsc (bsc (bsc a5 a3.out 0) a3.out 1) a3.out 2) a3.out 3)
    have a4 : WE.heap[R]? = some (.cells #[.int .i64 0, .string ⟨#[]⟩, .string ⟨#[]⟩, .int .i64 0] 44) := by rw [a1]; have h := (aA3 _ R 3 _ _ _ (.int .i64 0) (aA3 _ R 2 _ _ _ (.string ⟨#[]⟩) (aA3 _ R 1 _ _ _ (.string ⟨#[]⟩) (aA3 _ R 0 _ _ _ (.int .i64 0) a0)))); simpa using h
    obtain ⟨k0, k1, k2, k3⟩ := c4c a4;clear a1 a4 a0 a5;clear hus a7;go_wp2_with fail
    simp only [a8.out]
    exact bodyPost_ret (v := .tuple #[.agg #[.int .i64 0, .string ⟨#[]⟩, .string ⟨#[]⟩, .int .i64 0], .bool false]) (by simp [results, results210, go_sem, k0, k1, k2, k3]) rfl ⟨a9.out, .inr ⟨rfl, c7.out⟩⟩
   have j9 : Hid (aI8 s kd x3 ⟨#[]⟩ t) := by
    by_cases hp : BanP kd x3 ⟨#[]⟩ t
    ·exact ⟨hp, by rw [← i0.out hp]; exact hus⟩
    ·exfalso
     have h1 := j7.out hp
     exact i7.out (by rw [← hus, h1]; rfl)
   have j8 : (u.toList == s.toList) = true := (aD3 _ _).2 hus;obtain ⟨d0, d1, d2, d3⟩ := c4c a7;obtain ⟨c0, c1, c2, c3⟩ := c4c a0;have f0 := aA2 a0 0;have f1 := aA2 a0 1;have f2 := aA2 a0 2;have f3 := aA2 a0 3;obtain ⟨WE, a1⟩ := exq (((((h7.setCell ⟨R, 0, none⟩ (.int .i64 kd)).setCell ⟨R, 1, none⟩ (.string x3)).setCell ⟨R, 2, none⟩ (.string ⟨#[]⟩)).setCell ⟨R, 3, none⟩ (.int .i64 t)));have a8 := hid a1.symm;have a9 : Hid (Bw w WE) := by show Below _ _ _; rw [a1]; exact (bsc (bsc (bsc (bsc a5 a3.out 0) a3.out 1) a3.out 2) a3.out 3)
   have a4 : WE.heap[R]? = some (.cells #[.int .i64 kd, .string x3, .string ⟨#[]⟩, .int .i64 t] 44) := by rw [a1]; have h := (aA3 _ R 3 _ _ _ (.int .i64 t) (aA3 _ R 2 _ _ _ (.string ⟨#[]⟩) (aA3 _ R 1 _ _ _ (.string x3) (aA3 _ R 0 _ _ _ (.int .i64 kd) a0)))); simpa using h
   obtain ⟨k0, k1, k2, k3⟩ := c4c a4;clear a1 a4 a0 a5;clear hus a7;go_wp2_with fail
   simp only [a8.out]
   exact bodyPost_ret (v := .tuple #[.agg #[.int .i64 kd, .string x3, .string ⟨#[]⟩, .int .i64 t], .bool true]) (by simp [results, results210, go_sem, k0, k1, k2, k3]) rfl ⟨a9.out, .inl ⟨kd, x3, ⟨#[]⟩, t, rfl, j9.out⟩⟩
 obtain ⟨BB, i5⟩ := exq (s.extract f s.size)
 have i6 : BB.size ≤ 3000000 := by
  have h1 : (bs BB).length ≤ (bs s).length := by
   rw [i5, aE2, List.length_drop, List.length_take]
   omega
  rw [aC4, aC4] at h1
  omega
 have i7 : Hid (¬ s.size = 0) := by show ¬ _; omega
 have g4 : Hid (∀ k a b t, aI8 s k a b t → bs e8 = aJ5 k a t ∧ BB = b) := by rw [i5]; exact f9
 have k8 := hid i5.symm;have l2 : (f : Int) ≤ (s.size : Int) := by omega
 have l3 : ¬ ((f : Int) < 0) := by omega
 have c2 := (c4c e7.out).2.2.1;have f2 := aA2 e7.out 2;obtain ⟨W4, i1⟩ := exq (W2.setCell ⟨q, 2, none⟩ (.string BB));have i2 := hid i1.symm;have e9 : Hid (Bw w W4) := by show Below _ _ _; rw [i1]; exact bsc e0.out c6.out 2
 have g5 : Hid (W4.heap[R]? = some (.cells #[.int .i64 0, .string ⟨#[]⟩, .string ⟨#[]⟩, .int .i64 0] 44)) := by show _ = _; rw [i1, heap_setCell_other _ _ _ _ e5.out]; exact e6.out
 have g6 : Hid (W4.heap[q]? = some (.cells #[.int .i64 0, .string ⟨#[]⟩, .string BB, .int .i64 0] 44)) := by show _ = _; rw [i1]; have h := aA3 _ _ 2 _ _ _ (.string BB) e7.out; simpa using h
 clear f9 i5 i1 e0 e6 e7;go_upto_region 6 with fail
 rw [k8.out, i2.out];clear c2 f2 i2 k8;go_wp2_with fail
 refine (aL3 e8 _ (by omega)).mono ?_;rintro e w5 ⟨vW, xs, rfl, a2, i4, bw, hwd⟩;obtain ⟨oW, cW, rfl⟩ := aA0 a2;have b4 : Hid (Bw w w5) := e9.out.trans (bw.mono e9.out.size);have c8 := hblk g5 bw;have b5 := hblk g6 bw
 have c9 : Hid (∀ k a b t, aI8 s k a b t → xs.map bs = [banL, bs (bkW k), numL t.toNat, bs a]) := fun k a b t h => by
  rw [← hwd, (g4.out k a b t h).1]
  exact (bB3 h.1).2
 have d4 : Hid (∀ x ∈ xs, x.size ≤ maxLen) := fun x hx => by
  have h1 : bs x ∈ aG6 [] [] (bs e8) := by rw [hwd]; exact List.mem_map.2 ⟨x, hx, rfl⟩
  rcases aV5 _ _ _ _ h1 with h2 | h2
  ·simp at h2
  ·rw [aC4, aC4] at h2
   simp at h2
   unfold maxLen
   omega
 clear bw hwd e9 g5 g6;by_cases h4 : xs.length = 4
 rotate_left
 ·have g3 : ((xs.length : Int) != 4) = true := by rw [bne_iff_ne]; omega
  have a0 := c8.out;have a5 := b4.out
  have c7 : Hid (∀ k a b t, ¬ aI8 s k a b t) := fun k a b t h => h4 (by
   have e := congrArg List.length (c9.out k a b t h)
   simpa using e)
  obtain ⟨c0, c1, c2, c3⟩ := c4c a0;have f0 := aA2 a0 0;have f1 := aA2 a0 1;have f2 := aA2 a0 2;have f3 := aA2 a0 3;obtain ⟨WE, a1⟩ := exq (((((w5.setCell ⟨R, 0, none⟩ (.int .i64 0)).setCell ⟨R, 1, none⟩ (.string ⟨#[]⟩)).setCell ⟨R, 2, none⟩ (.string ⟨#[]⟩)).setCell ⟨R, 3, none⟩ (.int .i64 0)));have a8 := hid a1.symm;have a9 : Hid (Bw w WE) := by show Below _ _ _; rw [a1]; exact (bsc (bsc (bsc (bsc a5 a3.out 0) a3.out 1) a3.out 2) a3.out 3)
  have a4 : WE.heap[R]? = some (.cells #[.int .i64 0, .string ⟨#[]⟩, .string ⟨#[]⟩, .int .i64 0] 44) := by rw [a1]; have h := (aA3 _ R 3 _ _ _ (.int .i64 0) (aA3 _ R 2 _ _ _ (.string ⟨#[]⟩) (aA3 _ R 1 _ _ _ (.string ⟨#[]⟩) (aA3 _ R 0 _ _ _ (.int .i64 0) a0)))); simpa using h
  obtain ⟨k0, k1, k2, k3⟩ := c4c a4;clear a1 a4 a0 a5;clear h4 c8 b4 b5 c9 d4;go_wp2_with fail
  simp only [a8.out]
  exact bodyPost_ret (v := .tuple #[.agg #[.int .i64 0, .string ⟨#[]⟩, .string ⟨#[]⟩, .int .i64 0], .bool false]) (by simp [results, results210, go_sem, k0, k1, k2, k3]) rfl ⟨a9.out, .inr ⟨rfl, c7.out⟩⟩
 obtain ⟨x0, x1, x2, x3, rfl⟩ : ∃ x0 x1 x2 x3, xs = [x0, x1, x2, x3] := by
  match xs, h4 with
  | [a, b, c, d], _ => exact ⟨a, b, c, d, rfl⟩
 have g7 : Hid (∀ k a b t, aI8 s k a b t → x1 = bkW k ∧ x2 = aB7 t.toNat ∧ x3 = a) := fun k a b t h => by
  have e := c9.out k a b t h
  simp only [List.map_cons, List.map_nil, List.cons.injEq] at e
  exact ⟨aE3 e.2.1, bG1 e.2.2.1, aE3 e.2.2.2.1⟩
 have z2 : x2.size ≤ maxLen := d4.out _ (by simp);have z3 : x3.size ≤ maxLen := d4.out _ (by simp);obtain ⟨gW, i8, _⟩ := (aC2 a2).2 0 (by simp);subst i8
 have b6 : w5.cell? ⟨gW, 1, none⟩ = some (.string x1) ∧ w5.cell? ⟨gW, 2, none⟩ = some (.string x2) ∧ w5.cell? ⟨gW, 3, none⟩ = some (.string x3) := by
  have ht := aC2 a2
  refine ⟨?_, ?_, ?_⟩
  ·obtain ⟨g, e, _, hc⟩ := ht.2 1 (by simp)
   cases e; exact hc
  ·obtain ⟨g, e, _, hc⟩ := ht.2 2 (by simp)
   cases e; exact hc
  ·obtain ⟨g, e, _, hc⟩ := ht.2 3 (by simp)
   cases e; exact hc
 have f4 : Hid (gW < w5.heap.size) := World.block_lt_of_cell? _ _ b6.1;have g8 : ([x0, x1, x2, x3] : Ts).length = 4 := rfl;rw [g8];have g9 := aE8 a2 b5.out (by decide) gW rfl;have d5 : Hid (gW ≠ q) := g9;obtain ⟨g2, f5⟩ := exq (w5.heap.size);obtain ⟨W6, d6⟩ := exq (w5.alloc (.cells #[.string ⟨#[]⟩, .string ⟨#[112, 97, 116, 104]⟩, .string ⟨#[98, 101, 108, 111, 119]⟩, .string ⟨#[102, 105, 101, 108, 100]⟩] 9));have bA : Below w5.heap.size w5 W6 := by rw [d6]; exact (Below.refl _ _).alloc (Nat.le_refl _) _
 have i9 : Hid (g2 ≠ q ∧ w.heap.size ≤ q) := ⟨fun e => by have h1 := (blt b5.out); omega, c6.out⟩
 have H6 : Hid (Bw w W6 ∧ W6.heap[R]? = some (.cells #[.int .i64 0, .string ⟨#[]⟩, .string ⟨#[]⟩, .int .i64 0] 44) ∧ W6.heap[q]? = some (.cells #[.int .i64 0, .string ⟨#[]⟩, .string BB, .int .i64 0] 44) ∧ W6.heap[g2]? = some (.cells #[.string ⟨#[]⟩, .string ⟨#[112, 97, 116, 104]⟩, .string ⟨#[98, 101, 108, 111, 119]⟩, .string ⟨#[102, 105, 101, 108, 100]⟩] 9) ∧ W6.cell? ⟨gW, 1, none⟩ = some (.string x1) ∧ W6.cell? ⟨gW, 2, none⟩ = some (.string x2) ∧ W6.cell? ⟨gW, 3, none⟩ = some (.string x3)) := by
  refine ⟨b4.out.trans (bA.mono b4.out.size), aA6 c8.out bA, aA6 b5.out bA, by rw [d6, f5]; exact heap_alloc_new _ _, ?_, ?_, ?_⟩
  ·rw [bA.cell (p := ⟨gW, 1, none⟩) f4.out]; exact b6.1
  ·rw [bA.cell (p := ⟨gW, 2, none⟩) f4.out]; exact b6.2.1
  ·rw [bA.cell (p := ⟨gW, 3, none⟩) f4.out]; exact b6.2.2
 clear c9 d4 i4 h4 b6 a2 bA g8 g9;go_upto_region 10 with fail
 rw [← d6, ← f5];clear d6 f5 b4 c8 b5;go_wp2_with fail
 go_loopw [9] (fun i wr => ∃ j : Nat, 1 ≤ j ∧ j ≤ 4 ∧ i = .int .i64 (j : Int) ∧ Hid (Bw w wr ∧ wr.heap[R]? = some (.cells #[.int .i64 0, .string ⟨#[]⟩, .string ⟨#[]⟩, .int .i64 0] 44) ∧ wr.heap[q]? = some (.cells #[.int .i64 (kdTo x1 j), .string ⟨#[]⟩, .string BB, .int .i64 0] 44) ∧ wr.heap[g2]? = some (.cells #[.string ⟨#[]⟩, .string ⟨#[112, 97, 116, 104]⟩, .string ⟨#[98, 101, 108, 111, 119]⟩, .string ⟨#[102, 105, 101, 108, 100]⟩] 9) ∧ wr.cell? ⟨gW, 1, none⟩ = some (.string x1) ∧ wr.cell? ⟨gW, 2, none⟩ = some (.string x2) ∧ wr.cell? ⟨gW, 3, none⟩ = some (.string x3))) (fun i _ => 4 - (intOf i).toNat)
 case atStart => exact ⟨1, by omega, by omega, rfl, H6⟩
 case round =>
  obtain ⟨j, j0, hj, rfl, HW⟩ := hrel;by_cases hlt : (j : Int) < 4
  ·have cn : wr.cell? ⟨g2, j, none⟩ = some (.string (bkW (j : Int))) := by
    obtain rfl | rfl | rfl : j = 1 ∨ j = 2 ∨ j = 3 := by omega
    ·exact (aA1 HW.out.2.2.2.1 1).trans rfl
    ·exact (aA1 HW.out.2.2.2.1 2).trans rfl
    ·exact (aA1 HW.out.2.2.2.1 3).trans rfl
   have cw := HW.out.2.2.2.2.1;obtain ⟨bk, b7⟩ : ∃ x, x = bkW (j : Int) := ⟨_, rfl⟩;rw [← b7] at cn;obtain ⟨kd, b0⟩ := exq (kdTo x1 j);have HQ := (show Hid _ from HW.out.2.2.1);by_cases heq : bk = x1
   rotate_left
   ·have te := aB8 heq;have b8 : Hid (kdTo x1 (j + 1) = kdTo x1 j) := by show _ = _; rw [kdTo, if_neg (fun h => heq (by rw [b7]; exact h.2))]
    clear heq b7;go_wp2_with fail
    go_region_held3 (fun W => W.cell? ⟨g2, j, none⟩ = some (.string bk) ∧ W.cell? ⟨gW, 1, none⟩ = some (.string x1)) (first | assumption | go_keep) (fail)
    have f6 : Hid (Bw w wr.drew ∧ wr.drew.heap[R]? = some (.cells #[.int .i64 0, .string ⟨#[]⟩, .string ⟨#[]⟩, .int .i64 0] 44) ∧ wr.drew.heap[q]? = some (.cells #[.int .i64 (kdTo x1 (j + 1)), .string ⟨#[]⟩, .string BB, .int .i64 0] 44) ∧ wr.drew.heap[g2]? = some (.cells #[.string ⟨#[]⟩, .string ⟨#[112, 97, 116, 104]⟩, .string ⟨#[98, 101, 108, 111, 119]⟩, .string ⟨#[102, 105, 101, 108, 100]⟩] 9) ∧ wr.drew.cell? ⟨gW, 1, none⟩ = some (.string x1) ∧ wr.drew.cell? ⟨gW, 2, none⟩ = some (.string x2) ∧ wr.drew.cell? ⟨gW, 3, none⟩ = some (.string x3)) := by
     rw [b8.out]
     exact ⟨HW.out.1.drew, HW.out.2⟩
    clear HW HQ cn cw b0;go_wp2_with fail
    go_roundw
    case rel => exact ⟨j + 1, by omega, by omega, by go_num, f6⟩
    case measure => simp [intOf]; omega
   have te : (bk.toList == x1.toList) = true := (aD3 _ _).2 heq;have b8 : Hid (kdTo x1 (j + 1) = (j : Int)) := by show _ = _; rw [kdTo, if_pos ⟨j0, by rw [← b7]; exact heq⟩]
   clear heq b7;go_wp2_with fail
   go_region_held3 (fun W => W.cell? ⟨g2, j, none⟩ = some (.string bk) ∧ W.cell? ⟨gW, 1, none⟩ = some (.string x1)) (first | assumption | go_keep) (fail)
   have hW := HW.out;have d7 : wr.drew.heap[q]? = some (.cells #[.int .i64 (kdTo x1 j), .string ⟨#[]⟩, .string BB, .int .i64 0] 44) := hW.2.2.1;have cq := (c4c d7).1;have fq := aA2 d7 0
   have f6 : Hid (Bw w (wr.drew.setCell ⟨q, 0, none⟩ (.int .i64 (j : Int))) ∧ (wr.drew.setCell ⟨q, 0, none⟩ (.int .i64 (j : Int))).heap[R]? = some (.cells #[.int .i64 0, .string ⟨#[]⟩, .string ⟨#[]⟩, .int .i64 0] 44) ∧ (wr.drew.setCell ⟨q, 0, none⟩ (.int .i64 (j : Int))).heap[q]? = some (.cells #[.int .i64 (kdTo x1 (j + 1)), .string ⟨#[]⟩, .string BB, .int .i64 0] 44) ∧ (wr.drew.setCell ⟨q, 0, none⟩ (.int .i64 (j : Int))).heap[g2]? = some (.cells #[.string ⟨#[]⟩, .string ⟨#[112, 97, 116, 104]⟩, .string ⟨#[98, 101, 108, 111, 119]⟩, .string ⟨#[102, 105, 101, 108, 100]⟩] 9) ∧ (wr.drew.setCell ⟨q, 0, none⟩ (.int .i64 (j : Int))).cell? ⟨gW, 1, none⟩ = some (.string x1) ∧ (wr.drew.setCell ⟨q, 0, none⟩ (.int .i64 (j : Int))).cell? ⟨gW, 2, none⟩ = some (.string x2) ∧ (wr.drew.setCell ⟨q, 0, none⟩ (.int .i64 (j : Int))).cell? ⟨gW, 3, none⟩ = some (.string x3)) := by
    rw [b8.out]
    refine ⟨bsc hW.1.drew c6.out 0, by rw [heap_setCell_other _ _ _ _ e5.out]; exact hW.2.1, by have h := aA3 _ _ 0 _ _ _ (.int .i64 (j : Int)) d7; simpa using h, by rw [heap_setCell_other _ _ _ _ i9.out.1]; exact hW.2.2.2.1, ?_, ?_, ?_⟩
    ·rw [aJ0 _ d5.out]; exact hW.2.2.2.2.1
    ·rw [aJ0 _ d5.out]; exact hW.2.2.2.2.2.1
    ·rw [aJ0 _ d5.out]; exact hW.2.2.2.2.2.2
   clear hW d7 HW HQ cn cw b0;go_wp2_with fail
   go_roundw
   case rel => exact ⟨j + 1, by omega, by omega, by go_num, f6⟩
   case measure => simp [intOf]; omega
  obtain rfl : j = 4 := by omega
  obtain ⟨kd, b0⟩ := exq (kdTo x1 4)
  have b8 : Hid (∀ k a b t, aI8 s k a b t → kd = k) := fun k a b t h => by
   rw [b0, (g7.out k a b t h).1]
   exact dD7 h.1.kinds
  have hW := HW.out;rw [← b0] at hW;have HV := (show Hid _ from hW);clear HW b0 hW;have c2 := HV.out.2.2.2.2.2.1;go_wp2_with fail
  refine (aI3 x2 _ z2).mono ?_;rintro e w7 ⟨bo, t, rfl, h3, h5, j1, bw⟩;have j2 : Hid (aO1 x2 → t = valL x2.data.toList) := fun h => h5 (h3.2 h)
  have d8 := aA6 HV.out.2.2.1 bw;have c3 := (c4c d8).2.2.2;have f3 := aA2 d8 3;have gl : gW < wr.heap.size := World.block_lt_of_cell? _ _ c2;have cx : w7.cell? ⟨gW, 3, none⟩ = some (.string x3) := by rw [bw.cell (p := ⟨gW, 3, none⟩) gl]; exact HV.out.2.2.2.2.2.2
  obtain ⟨W8, b3⟩ := exq (w7.setCell ⟨q, 3, none⟩ (.int .i64 t));have b9 := hid b3.symm;have j3 : Hid (Bw w W8) := by show Below _ _ _; rw [b3]; exact bsc (HV.out.1.trans (bw.mono HV.out.1.size)) c6.out 3
  have j4 : Hid (W8.heap[R]? = some (.cells #[.int .i64 0, .string ⟨#[]⟩, .string ⟨#[]⟩, .int .i64 0] 44)) := by show _ = _; rw [b3, heap_setCell_other _ _ _ _ e5.out]; exact aA6 HV.out.2.1 bw
  have d9 : W8.heap[q]? = some (.cells #[.int .i64 kd, .string ⟨#[]⟩, .string BB, .int .i64 t] 44) := by rw [b3]; have h := aA3 _ _ 3 _ _ _ (.int .i64 t) d8; simpa using h
  have j5 : W8.cell? ⟨gW, 3, none⟩ = some (.string x3) := by rw [b3, aJ0 _ d5.out]; exact cx
  have c1 := (c4c d9).2.1;have f1 := aA2 d9 1;obtain ⟨W9, c4⟩ := exq (W8.setCell ⟨q, 1, none⟩ (.string x3));have c5 := hid c4.symm;have f7 : Hid (Bw w W9) := by show Below _ _ _; rw [c4]; exact bsc j3.out c6.out 1
  have h6 : Hid (W9.heap[R]? = some (.cells #[.int .i64 0, .string ⟨#[]⟩, .string ⟨#[]⟩, .int .i64 0] 44)) := by show _ = _; rw [c4, heap_setCell_other _ _ _ _ e5.out]; exact j4.out
  have f8 : Hid (W9.heap[q]? = some (.cells #[.int .i64 kd, .string x3, .string BB, .int .i64 t] 44)) := by show _ = _; rw [c4]; have h := aA3 _ _ 1 _ _ _ (.string x3) d9; simpa using h
  have j6 : Hid (∀ k a b u, aI8 s k a b u → kd = k ∧ x3 = a ∧ BB = b ∧ t = u) := fun k a b u h => by
   obtain ⟨e1, e2, e3⟩ := g7.out k a b u h
   have hu := h.1.1
   have e4 := aP7 (by omega) e2 j2.out
   exact ⟨b8.out k a b u h, e3, (g4.out k a b u h).2, by omega⟩
  clear h3 h5 j1 bw d8 d9 b3 c4 c2 HV gl;go_upto_region 16 with fail
  rw [b9.out];clear c3 f3 cx b9;go_upto_region 17 with fail
  rw [c5.out];clear c1 f1 j5 c5;obtain ⟨d0, d1, d2, d3⟩ := c4c f8.out;go_wp2_with fail
  have a6 := aZ7 kd x3 BB t W9 z3 (Nat.le_trans i6 (by unfold maxLen; decide));refine a6.mono ?_;clear a6;rintro e h7 ⟨u, rfl, h8, h9, bw⟩;have i0 := hid h8;have j7 := hid h9;have a0 := aA6 h6.out bw;have a5 := f7.out.trans (bw.mono f7.out.size);have a7 := aA6 f8.out bw;clear h8 h9 bw d0 d1 d2 d3 h6 f7 f8;by_cases hus : u = s
  rotate_left
  ·have c7 : Hid (∀ k a b t, ¬ aI8 s k a b t) := fun k a b t h => by
    obtain ⟨rfl, rfl, rfl, rfl⟩ := j6.out _ _ _ _ h
    exact hus ((i0.out h.1).trans h.2)
   have j8 := aB8 hus;obtain ⟨c0, c1, c2, c3⟩ := c4c a0;have f0 := aA2 a0 0;have f1 := aA2 a0 1;have f2 := aA2 a0 2;have f3 := aA2 a0 3;obtain ⟨WE, a1⟩ := exq (((((h7.setCell ⟨R, 0, none⟩ (.int .i64 0)).setCell ⟨R, 1, none⟩ (.string ⟨#[]⟩)).setCell ⟨R, 2, none⟩ (.string ⟨#[]⟩)).setCell ⟨R, 3, none⟩ (.int .i64 0)));have a8 := hid a1.symm;have a9 : Hid (Bw w WE) := by show Below _ _ _; rw [a1]; exact (bsc (bsc (bsc (bsc a5 a3.out 0) a3.out 1) a3.out 2) a3.out 3)
   have a4 : WE.heap[R]? = some (.cells #[.int .i64 0, .string ⟨#[]⟩, .string ⟨#[]⟩, .int .i64 0] 44) := by rw [a1]; have h := (aA3 _ R 3 _ _ _ (.int .i64 0) (aA3 _ R 2 _ _ _ (.string ⟨#[]⟩) (aA3 _ R 1 _ _ _ (.string ⟨#[]⟩) (aA3 _ R 0 _ _ _ (.int .i64 0) a0)))); simpa using h
   obtain ⟨k0, k1, k2, k3⟩ := c4c a4;clear a1 a4 a0 a5;clear hus a7;go_wp2_with fail
   simp only [a8.out]
   exact bodyPost_ret (v := .tuple #[.agg #[.int .i64 0, .string ⟨#[]⟩, .string ⟨#[]⟩, .int .i64 0], .bool false]) (by simp [results, results210, go_sem, k0, k1, k2, k3]) rfl ⟨a9.out, .inr ⟨rfl, c7.out⟩⟩
  have j9 : Hid (aI8 s kd x3 BB t) := by
   by_cases hp : BanP kd x3 BB t
   ·exact ⟨hp, by rw [← i0.out hp]; exact hus⟩
   ·exfalso
    have h1 := j7.out hp
    exact i7.out (by rw [← hus, h1]; rfl)
  have j8 : (u.toList == s.toList) = true := (aD3 _ _).2 hus;obtain ⟨d0, d1, d2, d3⟩ := c4c a7;obtain ⟨c0, c1, c2, c3⟩ := c4c a0;have f0 := aA2 a0 0;have f1 := aA2 a0 1;have f2 := aA2 a0 2;have f3 := aA2 a0 3;obtain ⟨WE, a1⟩ := exq (((((h7.setCell ⟨R, 0, none⟩ (.int .i64 kd)).setCell ⟨R, 1, none⟩ (.string x3)).setCell ⟨R, 2, none⟩ (.string BB)).setCell ⟨R, 3, none⟩ (.int .i64 t)));have a8 := hid a1.symm;have a9 : Hid (Bw w WE) := by show Below _ _ _; rw [a1]; exact (bsc (bsc (bsc (bsc a5 a3.out 0) a3.out 1) a3.out 2) a3.out 3)
  have a4 : WE.heap[R]? = some (.cells #[.int .i64 kd, .string x3, .string BB, .int .i64 t] 44) := by rw [a1]; have h := (aA3 _ R 3 _ _ _ (.int .i64 t) (aA3 _ R 2 _ _ _ (.string BB) (aA3 _ R 1 _ _ _ (.string x3) (aA3 _ R 0 _ _ _ (.int .i64 kd) a0)))); simpa using h
  obtain ⟨k0, k1, k2, k3⟩ := c4c a4;clear a1 a4 a0 a5;clear hus a7;go_wp2_with fail
  simp only [a8.out]
  exact bodyPost_ret (v := .tuple #[.agg #[.int .i64 kd, .string x3, .string BB, .int .i64 t], .bool true]) (by simp [results, results210, go_sem, k0, k1, k2, k3]) rfl ⟨a9.out, .inl ⟨kd, x3, BB, t, rfl, j9.out⟩⟩
theorem bG3 (w : World) (a b c d : Value) (t : TypeId) : ∀ j u, [a, b, c, d][j]? = some u → (w.alloc (.cells #[a, b, c, d] t)).cell? ((⟨w.heap.size, 0, none⟩ : Addr).add j) = some u := by
 intro j u h
 have e : (⟨w.heap.size, 0, none⟩ : Addr).add j = ⟨w.heap.size, j, none⟩ := by
  unfold Addr.add; split <;> simp_all
 rw [e, World.cell?_alloc_new];match j, h with
 | 0, h => simpa using h
 | 1, h => simpa using h
 | 2, h => simpa using h
 | 3, h => simpa using h
 | k + 4, h => simp at h
def RecD (s : Tx) (q : Int) (b : Tx) (ok : Bool) : Prop := (ok = true ∧ aL9 s q b) ∨ (ok = false ∧ b = ⟨#[]⟩ ∧ ∀ q b, ¬ aL9 s q b)
theorem cI9.data {s : ByteArray} {w : World} {e : Ending} {w' : World} (h : cI9 s w e w') : ∃ (q : Int) (b : Tx) (ok : Bool), e = .returned (.tuple #[.int .i64 q, .string b, .bool ok]) ∧ RecD s q b ok ∧ Below w.heap.size w w' := by
 obtain ⟨hb, ⟨q, b, hr, rfl⟩ | ⟨hn, rfl⟩⟩ := h
 ·exact ⟨q, b, true, rfl, .inl ⟨rfl, hr⟩, hb⟩
 exact ⟨0, _, false, rfl, .inr ⟨rfl, rfl, hn⟩, hb⟩
def BanD (s : Tx) (k : Int) (a b : Tx) (t : Int) (ok : Bool) : Prop := (ok = true ∧ aI8 s k a b t) ∨ (ok = false ∧ ∀ k a b t, ¬ aI8 s k a b t)
theorem cW3.data {s : ByteArray} {w : World} {e : Ending} {w' : World} (h : cW3 s w e w') : ∃ (k : Int) (a b : Tx) (t : Int) (ok : Bool), e = .returned (.tuple #[.agg #[.int .i64 k, .string a, .string b, .int .i64 t], .bool ok]) ∧ BanD s k a b t ok ∧ Below w.heap.size w w' := by
 obtain ⟨hb, ⟨k, a, b, t, rfl, hr⟩ | ⟨rfl, hn⟩⟩ := h
 ·exact ⟨k, a, b, t, true, rfl, .inl ⟨rfl, hr⟩, hb⟩
 exact ⟨0, _, _, 0, false, rfl, .inr ⟨rfl, hn⟩, hb⟩
def bC6 (m q : Int) : Int := if q < 100000 then max m q else m
def aH3 (cs : Ts) (ws : List (Int × ByteArray)) (l : Bs) (m : Int) : Prop := ∃ qs : List Int, qs.length = l.length ∧ qs.foldl bC6 0 = m ∧ ∀ i, i < l.length → ∃ (q : Int) (b : Tx) (x : Int × ByteArray × ByteArray × Int), qs[i]? = some q ∧ l[i]? = some x ∧ aL9 (aL5 cs ws (i : Int)) q b ∧ aI8 b x.1 x.2.1 x.2.2.1 x.2.2.2
theorem aH3.snoc {cs : Ts} {ws : List (Int × ByteArray)} {l : Bs} {m : Int} {q : Int} {b : ByteArray} {k : Int} {a c : ByteArray} {t : Int} (h : aH3 cs ws l m) (hr : aL9 (aL5 cs ws (l.length : Int)) q b) (hb : aI8 b k a c t) : aH3 cs ws (l ++ [(k, a, c, t)]) (bC6 m q) := by
 obtain ⟨qs, h1, h2, h3⟩ := h;refine ⟨qs ++ [q], by simp [h1], by rw [List.foldl_append, h2]; rfl, fun i hi => ?_⟩
 rw [List.length_append, List.length_singleton] at hi;by_cases e : i < l.length
 rotate_left
 ·have e2 : i = l.length := by omega
  subst e2;exact ⟨q, b, (k, a, c, t), by rw [← h1]; simp, by simp, hr, hb⟩
 obtain ⟨q', b', x, e1, e2, r⟩ := h3 i e;exact ⟨q', b', x, by rw [List.getElem?_append_left (by omega)]; exact e1, by rw [List.getElem?_append_left e]; exact e2, r⟩
def aV0 (cs : Ts) (ws : List (Int × ByteArray)) (n : Nat) : Prop := n = 5 ∨ ∀ q b k a c t, aL9 (aL5 cs ws (n : Int)) q b → ¬ aI8 b k a c t
def dM0 (cs : Ts) (ws : List (Int × ByteArray)) (w : World) (e : Ending) (w' : World) : Prop :=
 ∃ (l : Bs) (m : Int) (v : Value), l.length ≤ 5 ∧ aH3 cs ws l m ∧ aV0 cs ws l.length ∧ e = .returned (.tuple #[v, .int .i64 m]) ∧ w'.ownsRow w.heap.size 44 4 v l.length (aB3 l) ∧ Below w.heap.size w w'
theorem cO3 (v1 v2 : Value) (n1 : Nat) (cs : Ts) (n2 : Nat) (ws : List (Int × ByteArray)) (B : Nat) (w : World) (h : aJ3 w B v1 n1 cs v2 n2 ws) (hn1 : n1 ≤ 2000000) (hn2 : n2 ≤ 2000000) (hz : ∀ x, (aL5 cs ws x).size ≤ 3000000) :
  Calls prog 106 #[.agg #[v1, v2]] w fun e w' => dM0 cs ws w e w' := by
 obtain ⟨i0, hi, g6, c7, c6⟩ := info_parts cN7;obtain ⟨o1, c1, rfl⟩ := aA0 h.cells;obtain ⟨o2, c2, rfl⟩ := aA0 h.pend;have HD : Hid (∀ W, Bw w W → aJ3 W B (.slice o1 n1 c1) n1 cs (.slice o2 n2 c2) n2 ws) := fun W hb => ⟨aA8 h.cells hb (fun g hg => aB0 h.cells hg), aA8 h.pend hb (fun g hg => aB0 h.pend hg)⟩
 have HZ := hid hz;clear h hz;have K0 := jnil w;go_enter func106, ntmps106;go_upto_region 1 with fail
 obtain ⟨q1, e1⟩ := exq (w.heap.size);obtain ⟨w1, c8⟩ := exq (w.alloc (.cells #[.slice o1 n1 c1, .slice o2 n2 c2] 27));have c7 := e1.symm;rw [← c8]; try rw [← e1];have g7 := hsa c8 c7;have bw := bal c8;have K1 := ja K0 c8 c7;clear bw c8 c7 K0;clear g7 e1;go_upto_region 2 with fail
 obtain ⟨q2, e3⟩ := exq (w1.heap.size);obtain ⟨w2, c9⟩ := exq (w1.alloc (.cells #[] 44));have c6 := e3.symm;rw [← c9]; try rw [← e3];have g8 := hsa c9 c6;have bw := bal c9;have K2 := ja K1 c9 c6;have f8 : Hid (w.heap.size ≤ q2) := by show _ ≤ _; rw [← c6]; exact K1.hb.size
 clear bw c9 c6 K1;clear g8 e3;have g9 := f8.out;have d0 : Hid (w2.ownsRow w.heap.size 44 4 (.slice (some ⟨q2, 0, none⟩) 0 0) 0 (aB3 [])) := ⟨rfl, .inr ⟨_, 0, #[], rfl, f8.out, (jb K2 0 rfl), Nat.le_refl _, Nat.zero_le _, rfl, rfl⟩⟩;clear g9;go_wp2_with fail
 go_loopw [4, 5, 6] (fun v m i wr => ∃ (j : Nat) (l : Bs) (um : Int) (oL : Oa) (pL : Nat), j ≤ 5 ∧ i = .int .i64 (j : Int) ∧ m = .int .i64 um ∧ v = .slice oL j pL ∧ Hid (l.length = j) ∧ Hid (Bw w wr ∧ wr.heap[q1]? = some (.cells #[.slice o1 n1 c1, .slice o2 n2 c2] 27)) ∧ Hid (wr.ownsRow w.heap.size 44 4 (.slice oL j pL) j (aB3 l)) ∧ Hid (aH3 cs ws l um)) (fun _ _ i _ => 5 - (intOf i).toNat)
 case atStart => exact ⟨0, [], 0, _, 0, by omega, rfl, rfl, rfl, (by show _ = _; rfl), ⟨K2.hb, (jb K2 1 rfl)⟩, d0.out, ⟨[], rfl, rfl, fun i hi => absurd hi (Nat.not_lt_zero _)⟩⟩
 case round =>
  obtain ⟨j, l, um, oL, pL, hj, rfl, rfl, rfl, a0, HW, d9, a1⟩ := hrel;by_cases hlt : (j : Int) < 5
  rotate_left
  ·have d1 := HW.out.1;have b7 := hid HW.out.2;have a2 : Hid (wr.ownsRow w.heap.size 44 4 (.slice oL j pL) j (aB3 l)) := d9.out;clear HW d9;go_wp2_with fail
   refine bodyPost_ret (v := .tuple #[.slice oL j pL, .int .i64 um]) (by simp [results, results106, go_sem]) rfl ?_;exact ⟨l, um, _, (by rw [a0.out]; omega), a1.out, (.inl (by rw [a0.out]; omega)), rfl, (by rw [a0.out]; exact a2.out), d1⟩
  have d1 := HW.out.1;have b7 := hid HW.out.2;have a2 : Hid (wr.ownsRow w.heap.size 44 4 (.slice oL j pL) j (aB3 l)) := d9.out;clear HW d9;have e4 := c2c b7.out;go_wp2_with fail
  refine (aZ4 _ _ n1 cs n2 ws B _ (HD.out _ d1) (by omega) (by omega) (j : Int)).mono ?_;rintro e w4 ⟨rfl, bw⟩;obtain ⟨ut, e5⟩ : ∃ t, t = aL5 cs ws (j : Int) := ⟨_, rfl⟩;rw [← e5];have d2 := hid e5;clear e5;have f9 := hbt d1 bw;have d3 := hown a2 bw;have e6 := hblk b7 bw;clear d1 bw;clear e4;have K4 := jz K2 f9 (jzx (jzb e6.out (jzn _)));go_wp2_with fail
  refine ((aZ6 ut _ (by rw [d2.out]; exact HZ.out _)).mono (fun e w' h => cI9.data h)).mono ?_
  rintro e w5 ⟨uq, ub, uo, rfl, d4, bw⟩
  have d5 : Hid (ub.size ≤ 2000) := by
   rcases d4 with h | h
   ·exact h.2.1.2.2
   ·rw [h.2.1]; exact Nat.zero_le _
  have K5 := jw K4 bw;have d6 := hown d3 bw;clear f9 bw K4;go_wp2_with fail
  refine ((bR5 ub _ (by have := d5.out; omega)).mono (fun e w' h => cW3.data h)).mono ?_
  rintro e w6 ⟨a3, a4, a5, a6, uz, rfl, e0, bw⟩;have K6 := jw K5 bw;have d7 := hown d6 bw;clear bw K5;go_upto_region 8 with fail
  obtain ⟨q3, e7⟩ := exq (w6.heap.size);obtain ⟨w7, d8⟩ := exq (w6.alloc (.cells #[.int .i64 a3, .string a4, .string a5, .int .i64 a6] 44));have e8 := e7.symm;rw [← d8]; try rw [← e7];have h0 := hsa d8 e8;have bw := bal d8;have K7 := ja K6 d8 e8;have a7 := hown d7 bw;clear bw d8 e8 K6;clear h0 e7;cases uo
  ·have h1 : Hid (∀ q b, ¬ aL9 ut q b) := (by rcases d4 with h | h; exact absurd h.1 (by decide); exact h.2.2);clear d4;go_wp2_with fail
   refine bodyPost_ret (v := .tuple #[.slice oL j pL, .int .i64 um]) (by simp [results, results106, go_sem]) rfl ?_;have e9 := K7.hb;exact ⟨l, um, _, (by rw [a0.out]; omega), a1.out, (.inr (fun q b k a c t h => by rw [a0.out, ← d2.out] at h; exact absurd h (h1.out q b))), rfl, (by rw [a0.out]; exact a7.out), e9⟩
  have f0 : Hid (aL9 ut uq ub) := (by rcases d4 with h | h; exact h.2; exact absurd h.1 (by decide));clear d4;cases uz
  ·have h2 : Hid (∀ k a b t, ¬ aI8 ub k a b t) := (by rcases e0 with h | h; exact absurd h.1 (by decide); exact h.2);clear e0;go_wp2_with fail
   refine bodyPost_ret (v := .tuple #[.slice oL j pL, .int .i64 um]) (by simp [results, results106, go_sem]) rfl ?_;have e9 := K7.hb;exact ⟨l, um, _, (by rw [a0.out]; omega), a1.out, (.inr (fun q b k a c t h => by rw [a0.out, ← d2.out] at h; have e2 := (h.uniq f0.out).2; subst e2; exact h2.out k a c t)), rfl, (by rw [a0.out]; exact a7.out), e9⟩
  have g0 : Hid (aI8 ub a3 a4 a5 a6) := (by rcases e0 with h | h; exact h.2; exact absurd h.1 (by decide));clear e0;have f1 := c4c (jb K7 0 rfl);have b8 : ∀ o, (w7.alloc o).cell? ⟨q3, 0, none⟩ = some (.int .i64 a3) := fun o => (aA1 (aA6 (jb K7 0 rfl) ((Below.refl _ _).alloc (Nat.le_refl _) o)) 0).trans rfl
  have b2 : ∀ o, (w7.alloc o).frozen? ⟨q3, 0, none⟩ = false := fun o => aA2 (aA6 (jb K7 0 rfl) ((Below.refl _ _).alloc (Nat.le_refl _) o)) 0
  have f2 := c4c (jb K7 0 rfl);have b9 : ∀ o, (w7.alloc o).cell? ⟨q3, 1, none⟩ = some (.string a4) := fun o => (aA1 (aA6 (jb K7 0 rfl) ((Below.refl _ _).alloc (Nat.le_refl _) o)) 1).trans rfl
  have b3 : ∀ o, (w7.alloc o).frozen? ⟨q3, 1, none⟩ = false := fun o => aA2 (aA6 (jb K7 0 rfl) ((Below.refl _ _).alloc (Nat.le_refl _) o)) 1
  have f3 := c4c (jb K7 0 rfl);have c0 : ∀ o, (w7.alloc o).cell? ⟨q3, 2, none⟩ = some (.string a5) := fun o => (aA1 (aA6 (jb K7 0 rfl) ((Below.refl _ _).alloc (Nat.le_refl _) o)) 2).trans rfl
  have b4 : ∀ o, (w7.alloc o).frozen? ⟨q3, 2, none⟩ = false := fun o => aA2 (aA6 (jb K7 0 rfl) ((Below.refl _ _).alloc (Nat.le_refl _) o)) 2
  have f4 := c4c (jb K7 0 rfl);have c3 : ∀ o, (w7.alloc o).cell? ⟨q3, 3, none⟩ = some (.int .i64 a6) := fun o => (aA1 (aA6 (jb K7 0 rfl) ((Below.refl _ _).alloc (Nat.le_refl _) o)) 3).trans rfl
  have b5 : ∀ o, (w7.alloc o).frozen? ⟨q3, 3, none⟩ = false := fun o => aA2 (aA6 (jb K7 0 rfl) ((Below.refl _ _).alloc (Nat.le_refl _) o)) 3
  have hown := a7.out;have g1 : j + 1 ≤ maxLen := by unfold maxLen; omega
  have g2 : (j + 1) * 48 ≤ 140737488355328 := by omega
  have d5 : ∀ o, w.heap.size ≤ (w7.alloc o).heap.size := fun o => by have := K7.hb.size; simp; omega
  go_wp2_with (at_builtin; refine wpList_append_own _ rfl _ _ 29 rfl w.heap.size 44 i0 (.agg #[.int .i64 0, .string ⟨#[]⟩, .string ⟨#[]⟩, .int .i64 0]) 4 48 underlying29 hi g6 c7 c6 rfl (by decide) _ _ _ rfl (hown.alloc _) ⟨w7.heap.size, 0, none⟩ 1 1 [.int .i64 a3, .string a4, .string a5, .int .i64 a6] rfl rfl (bG3 _ _ _ _ _ _) (by intro u hu; simp at hu; rcases hu with rfl | rfl | rfl | rfl <;> rfl) g1 g2 (d5 _) ?_)
  intro v1 w8 a8 a9 _;have bA : Below w7.heap.size w7 (w7.alloc (.cells #[.int .i64 a3, .string a4, .string a5, .int .i64 a6] 44)) := (Below.refl _ _).alloc (Nat.le_refl _) _;have b6 : ∀ g, (.slice oL j pL : Value).ownBlock = some g → w.heap.size ≤ g := fun g hg => aC8 hown hg
  clear f1 b8 b2 f2 b9 b3 f3 c0 b4 f4 c3 b5;have f5 : Bw w (w8) := (K7.hb.trans (bA.mono K7.hb.size)).grown a9 (d5 _) b6;obtain ⟨g3, g4, rfl⟩ := aA0 a8;have b0 := hid a8;have K8 := jz K7 f5 (jzx (jzb (jgA bA a9 hown (jb K7 1 rfl)) (jzn _)));clear hown g1 g2 d5 a8 a9 bA b6 K7;by_cases hc1 : uq < 100000
  rotate_left
  ·have f6 := hid hc1;have c4 : Hid ((l ++ [(a3, a4, a5, a6)]).length = j + 1) := by show _ = _; rw [List.length_append, a0.out]; rfl
   have b1 : Hid (aH3 cs ws (l ++ [(a3, a4, a5, a6)]) um) := by
    have h := a1.out.snoc (by rw [a0.out, ← d2.out]; exact f0.out) g0.out
    rw [bC6, if_neg f6.out] at h
    exact h
   go_wp2_with fail
   go_roundw
   case rel => exact ⟨j + 1, l ++ [(a3, a4, a5, a6)], _, g3, g4, by omega, by go_num, rfl, rfl, c4, ⟨f5, (jb K8 0 rfl)⟩, (by show World.ownsRow _ _ _ _ _ _ _; rw [aQ2, aX4]; exact b0.out), b1⟩
   case measure => simp [intOf]; omega
  have f6 := hid hc1;go_wp2_with fail
  refine (cI2 um uq _).mono ?_;rintro e w9 ⟨rfl, g5⟩;have bw : Below w8.heap.size (w8) w9 := by rw [g5]; exact Below.refl _ _
  clear g5;obtain ⟨uk, f7⟩ := exq (max um uq);rw [← f7];have h3 := hid f7;clear f7;have K9 := jw K8 bw;have c5 := hown b0 bw;clear f5 bw K8;have c4 : Hid ((l ++ [(a3, a4, a5, a6)]).length = j + 1) := by show _ = _; rw [List.length_append, a0.out]; rfl
  have b1 : Hid (aH3 cs ws (l ++ [(a3, a4, a5, a6)]) uk) := by
   have h := a1.out.snoc (by rw [a0.out, ← d2.out]; exact f0.out) g0.out
   rw [bC6, if_pos f6.out, ← h3.out] at h
   exact h
  go_wp2_with fail
  go_roundw
  case rel => exact ⟨j + 1, l ++ [(a3, a4, a5, a6)], _, g3, g4, by omega, by go_num, rfl, rfl, c4, ⟨K9.hb, (jb K9 0 rfl)⟩, (by show World.ownsRow _ _ _ _ _ _ _; rw [aQ2, aX4]; exact c5.out), b1⟩
  case measure => simp [intOf]; omega
def kpX (x : KpD × Value × Value × Value) : Value := .agg #[.string x.1.p, x.2.1, x.2.2.1, .int .i64 x.1.st, x.2.2.2, .string x.1.b, .int .i64 x.1.t, .int .i64 x.1.a, .int .i64 x.1.q]
def mpR (v : Value) : Option (DataW Value × List MemPlace) := some (.held v, [])
theorem dD8 {v : Value} {y : DataW Value × List MemPlace} (h : mpR v = some y) : y = (.held v, []) := (Option.some.inj h).symm
def aM3 (kv : Ks) : Prop := kv.Pairwise (fun x y => x.1.a ≠ y.1.a)
def aW1 (D : DataW Value) (kv : Ks) : Prop := (∀ a : Int, Maps.has D (.int .i64 a) = true ↔ ∃ x ∈ kv, x.1.a = a) ∧ ∀ x ∈ kv, ∀ z, D.atKey (.int .i64 x.1.a) z = .held (kpX x)
theorem cJ0 {a b : Int} (h : a ≠ b) : (Lit.int .i64 a) ≠ Lit.int .i64 b := fun e => h (by injection e)
theorem cD8 (a b : Int) : (Lit.int .i64 a).sameKey (.int .i64 b) = decide (a = b) := by
 by_cases h : a = b
 ·subst h;rw [decide_eq_true rfl];simp [Lit.sameKey]
 rw [decide_eq_false h];exact Maps.sameKey_ne (cJ0 h)
theorem aM3.eq {kv : Ks} (h : aM3 kv) : ∀ {x y : KpD × Value × Value × Value}, x ∈ kv → y ∈ kv → x.1.a = y.1.a → x = y := by
 unfold aM3 at h;induction kv with
 | nil => intro x y hx; simp at hx
 | cons z l ih =>
  intro x y hx hy e
  rw [List.pairwise_cons] at h
  rcases List.mem_cons.1 hx with hx | hx
  ·rcases List.mem_cons.1 hy with hy | hy
   ·rw [hx, hy]
   ·rw [hx] at e; exact absurd e (h.1 y hy)
  ·rcases List.mem_cons.1 hy with hy | hy
   ·rw [hy] at e; exact absurd e.symm (h.1 x hx)
   ·exact ih h.2 hx hy e
theorem aM3.sub {kv kv' : Ks} (h : aM3 kv) (hs : List.Sublist kv' kv) : aM3 kv' := List.Pairwise.sublist hs h
theorem aM3.nodup {kv : Ks} (h : aM3 kv) : kv.Nodup := List.Pairwise.imp (fun hne e => hne (by rw [e])) h
theorem aW1.nil : aW1 (.map []) [] := ⟨fun a => by simp [Maps.has], fun x hx => by simp at hx⟩
theorem cO4 {D : DataW Value} (hD : Maps.IsMap D) (a b : Int) (d : DataW Value) : Maps.has (D.put (.int .i64 b) d) (.int .i64 a) = (decide (a = b) || Maps.has D (.int .i64 a)) := by
 by_cases h : a = b
 rotate_left
 ·rw [Maps.has_put_other (cJ0 h), decide_eq_false h];rfl
 subst h;rw [Maps.has_put_same hD (show WideAt.IsKeyLit (.int .i64 _) from trivial)];simp
theorem aW1.put {D : DataW Value} {kv : Ks} (h : aW1 D kv) (hD : Maps.IsMap D) (y : KpD × Value × Value × Value) (hy : ∀ x ∈ kv, x.1.a ≠ y.1.a) : aW1 (D.put (.int .i64 y.1.a) (.held (kpX y))) (kv ++ [y]) := by
 refine ⟨fun a => ?_, fun x hx z => ?_⟩
 ·rw [cO4 hD, Bool.or_eq_true, decide_eq_true_iff, h.1 a];constructor
  ·rintro (rfl | ⟨x, hx, e⟩)
   ·exact ⟨y, by simp, rfl⟩
   exact ⟨x, by simp [hx], e⟩
  rintro ⟨x, hx, e⟩;rcases List.mem_append.1 hx with hx | hx
  ·exact .inr ⟨x, hx, e⟩
  rw [List.mem_singleton.1 hx] at e;exact .inl e.symm
 rcases List.mem_append.1 hx with hx | hx
 ·rw [Maps.atKey_put_other (cJ0 (hy x hx))];exact h.2 x hx z
 rw [List.mem_singleton.1 hx];exact Maps.atKey_put_same hD (show WideAt.IsKeyLit (.int .i64 _) from trivial) _ _
theorem cW4 {kv : Ks} {y : KpD × Value × Value × Value} : aM3 (kv ++ [y]) ↔ aM3 kv ∧ ∀ x ∈ kv, x.1.a ≠ y.1.a := by
 unfold aM3;rw [List.pairwise_append];simp
def aQ8 (G : KpD × Value × Value × Value → Bool) (D : DataW Value) (left : Lit → Bool) (kv : Ks) : Prop := aW1 D (kv.filter (fun y => left (.int .i64 y.1.a) || !G y))
theorem aQ8.start {G : KpD × Value × Value × Value → Bool} {D : DataW Value} {kv : Ks} (h : aW1 D kv) : aQ8 G D (Maps.has D) kv := by
 unfold aQ8;rw [List.filter_eq_self.2 (fun y hy => by rw [(h.1 _).2 ⟨y, hy, rfl⟩]; rfl)]
 exact h
theorem aQ8.at {G : KpD × Value × Value × Value → Bool} {D : DataW Value} {left : Lit → Bool} {kv : Ks} (h : aQ8 G D left kv) {a : Int} {c : Value} (hat : ∀ z, D.atKey (.int .i64 a) z = .held c) : ∃ x ∈ kv, x.1.a = a ∧ c = kpX x := by
 obtain ⟨x, hx, e⟩ := (h.1 a).1 (Maps.has_true_of_atKey hat);refine ⟨x, (List.mem_filter.1 hx).1, e, ?_⟩;have h2 := h.2 x hx (.held c);rw [e, hat] at h2;injection h2
theorem aQ8.strike {G : KpD × Value × Value × Value → Bool} {D : DataW Value} {left : Lit → Bool} {kv : Ks} (h : aQ8 G D left kv) (ha : aM3 kv) {x : KpD × Value × Value × Value} (hx : x ∈ kv) (hG : G x = true) : aQ8 G (D.del (.int .i64 x.1.a)) (fun z => left z && !z.sameKey (.int .i64 x.1.a)) kv := by
 have a0 : ∀ y, y ∈ kv.filter (fun y => (left (.int .i64 y.1.a) && !(Lit.int .i64 y.1.a).sameKey (.int .i64 x.1.a)) || !G y) ↔ y ∈ kv.filter (fun y => left (.int .i64 y.1.a) || !G y) ∧ y.1.a ≠ x.1.a := by
  intro y
  rw [List.mem_filter, List.mem_filter, cD8]
  constructor
  ·rintro ⟨h1, h2⟩
   by_cases e : y.1.a = x.1.a
   ·have := ha.eq h1 hx e
    subst this
    simp [hG] at h2
   ·refine ⟨⟨h1, ?_⟩, e⟩
    rw [decide_eq_false e] at h2
    simpa using h2
  ·rintro ⟨⟨h1, h2⟩, e⟩
   refine ⟨h1, ?_⟩
   rw [decide_eq_false e]
   simpa using h2
 refine ⟨fun a => ?_, fun y hy z => ?_⟩
 ·by_cases e : a = x.1.a
  ·subst e;rw [Maps.has_del_same];constructor
   ·intro h; cases h
   rintro ⟨y, hy, e⟩; exact absurd e ((a0 y).1 hy).2
  rw [Maps.has_del_other (cJ0 e), h.1 a];constructor
  ·rintro ⟨y, hy, rfl⟩; exact ⟨y, (a0 y).2 ⟨hy, e⟩, rfl⟩
  rintro ⟨y, hy, rfl⟩; exact ⟨y, ((a0 y).1 hy).1, rfl⟩
 obtain ⟨h1, h2⟩ := (a0 y).1 hy;rw [Maps.atKey_del_other (cJ0 h2)];exact h.2 y h1 z
theorem aQ8.stay {G : KpD × Value × Value × Value → Bool} {D : DataW Value} {left : Lit → Bool} {kv : Ks} (h : aQ8 G D left kv) (ha : aM3 kv) {x : KpD × Value × Value × Value} (hx : x ∈ kv) (hG : G x = false) : aQ8 G D (fun z => left z && !z.sameKey (.int .i64 x.1.a)) kv := by
 unfold aQ8
 rw [List.filter_congr (q := fun y => left (.int .i64 y.1.a) || !G y) (fun y hy => by
  show (left (.int .i64 y.1.a) && !(Lit.int .i64 y.1.a).sameKey (.int .i64 x.1.a) || !G y) = _
  rw [cD8]
  by_cases e : y.1.a = x.1.a
  ·have := ha.eq hy hx e
   subst this
   simp [hG]
  ·rw [decide_eq_false e]; simp)]
 exact h
theorem aQ8.done {G : KpD × Value × Value × Value → Bool} {D : DataW Value} {left : Lit → Bool} {kv : Ks} (h : aQ8 G D left kv) (hl : ∀ k, left k = false) : aW1 D (kv.filter (fun y => !G y)) := by
 unfold aQ8 at h;rw [List.filter_congr (q := fun y => !G y) (fun y _ => by rw [hl]; rfl)] at h
 exact h
def aX9 (left : Lit → Bool) (kv acc : Ks) : Prop := aM3 acc ∧ ∀ y, y ∈ acc ↔ y ∈ kv ∧ left (.int .i64 y.1.a) = false
theorem aX9.start {D : DataW Value} {kv : Ks} (h : aW1 D kv) : aX9 (Maps.has D) kv [] := ⟨List.Pairwise.nil, fun y => by
 constructor
 · intro h; simp at h
 · rintro ⟨h1, h2⟩; rw [(h.1 _).2 ⟨y, h1, rfl⟩] at h2; cases h2⟩
theorem aX9.more {left : Lit → Bool} {kv acc : Ks} (h : aX9 left kv acc) (ha : aM3 kv) {x : KpD × Value × Value × Value} (hx : x ∈ kv) (hl : left (.int .i64 x.1.a) = true) : aX9 (fun z => left z && !z.sameKey (.int .i64 x.1.a)) kv (acc ++ [x]) := by
 refine ⟨cW4.2 ⟨h.1, fun y hy e => ?_⟩, fun y => ?_⟩
 ·have h2 := ((h.2 y).1 hy).2;rw [e, hl] at h2;cases h2
 show _ ↔ y ∈ kv ∧ (left (.int .i64 y.1.a) && !(Lit.int .i64 y.1.a).sameKey (.int .i64 x.1.a)) = false
 rw [List.mem_append, List.mem_singleton, h.2 y, cD8];by_cases e : y.1.a = x.1.a
 rotate_left
 ·rw [decide_eq_false e];constructor
  ·rintro (h3 | h3)
   ·simpa using h3
   exact absurd (by rw [h3]) e
  intro h3; exact .inl (by simpa using h3)
 constructor
 ·intro _;refine ⟨?_, by simp [e]⟩;by_cases hy : y ∈ kv
  ·exact hy
  rename_i h3
  rcases h3 with h3 | h3
  ·exact absurd h3.1 hy
  rw [h3]; exact hx
 rintro ⟨h1, _⟩;exact .inr (ha.eq h1 hx e)
theorem aX9.perm {left : Lit → Bool} {kv acc : Ks} (h : aX9 left kv acc) (ha : aM3 kv) (hl : ∀ k, left k = false) : acc.Perm kv :=
 (List.perm_ext_iff_of_nodup h.1.nodup ha.nodup).2 (fun y => by rw [h.2 y, hl]; simp)
theorem bR6 {P : Program} {k : TypeId} {R : Value → Option (DataW Value × List MemPlace)} {w w' : World} {b n : Nat} {D : DataW Value} (h : w.ownsMap P k R b n D) (hb : Below w.heap.size w w') : w'.ownsMap P k R b n D := by
 have a1 := h.lt;obtain ⟨es, a0, h1, h2⟩ := h;exact ⟨es, a0, (hb.block b a1).trans h1, h2⟩
theorem aU4 {P : Program} {k : TypeId} {R : Value → Option (DataW Value × List MemPlace)} {w w' : World} {b r n : Nat} {D : DataW Value} {left : Lit → Bool} {cnt : Nat} (h : w.ranges P k R b r n D left cnt) (hb : Below w.heap.size w w') : w'.ranges P k R b r n D left cnt := by
 have a3 := h.owns.lt;have a4 := h.lt;obtain ⟨es, a0, a1, a2, c0, h1, h2, h3, h4, h5, h6⟩ := h;exact ⟨es, a0, a1, a2, c0, (hb.block b a3).trans h1, h2, h3, h4, (hb.block r a4).trans h5, h6⟩
theorem dS0 {P : Program} {k : TypeId} {R : Value → Option (DataW Value × List MemPlace)} {w : World} {b n q : Nat} {D : DataW Value} {cs : Array Value} {T : TypeId} {fr : Nat × Nat} (h : w.ownsMap P k R b n D) (hq : w.heap[q]? = some (.cells cs T fr)) : b ≠ q := by
 obtain ⟨es, a0, h1, _⟩ := h;intro e;subst e;rw [h1] at hq;cases hq
theorem dD9 {P : Program} {k : TypeId} {R : Value → Option (DataW Value × List MemPlace)} {w w' : World} {b n q : Nat} {D : DataW Value} {cs : Array Value} {T : TypeId} {fr : Nat × Nat} (h : w.ownsMap P k R b n D) (hq : w.heap[q]? = some (.cells cs T fr)) (hg : w.grownBy w' (some b)) : w'.heap[q]? = some (.cells cs T fr) :=
 (hg.block q (blt hq) (fun e => dS0 h hq (Option.some.inj e).symm)).trans hq
theorem cO5 {w : World} {base : Nat} {T : TypeId} {z n : Nat} {v : Value} {c : List Value} (h : w.ownsRow base T z v n c) {g : Nat} (hg : v.ownBlock = some g) : ∃ cs fr, w.heap[g]? = some (.cells cs T fr) := by
 rcases h.2 with ⟨e, _⟩ | ⟨g', a0, a1, e, _, h1, _⟩
 ·rw [e] at hg; cases hg
 rw [e] at hg;have e2 : some g' = some g := hg;rw [← Option.some.inj e2];exact ⟨_, _, h1⟩
theorem bY5 : Maps.Keyed prog 3 := Maps.int_keyed underlying3
theorem dS1 {a : Int} (h0 : 0 ≤ a) (h1 : a ≤ 1000) : keyOf prog 3 (.int .i64 a) = some (.int .i64 a) := Maps.keyOf_int_mk underlying3 (WalkArith.wf_i64 (by omega))
def aT4 (w : World) (b n : Nat) (D : DataW Value) : Prop := w.ownsMap prog 3 mpR b n D
def kvAt (kv : Ks) (i : Nat) : KpD × Value × Value × Value := kv.getD i (dR7, .slice none 0 0, .slice none 0 0, .slice none 0 0)
theorem bM8 (kv : Ks) (i : Nat) (h : i < kv.length) : kv[i]'h = kvAt kv i := by
 unfold kvAt;rw [List.getD_eq_getElem?_getD, List.getElem?_eq_getElem h];rfl
theorem cS6 (kv : Ks) (i : Nat) (h : i < kv.length) : kvAt kv i ∈ kv := by rw [← bM8 kv i h]; exact List.getElem_mem h
theorem cJ1 (kv : Ks) (i : Nat) (h : i < kv.length) : kv.take (i + 1) = kv.take i ++ [kvAt kv i] := by rw [← bM8 kv i h, List.take_succ_eq_append_getElem h]
theorem cS7 (kv : Ks) (i : Nat) (h : i < kv.length) : (kvAt kv i).1 = kpAt (kv.map (·.1)) i := by
 rw [← bM8 kv i h, ← dJ3 _ i (by rw [List.length_map]; exact h)];simp
def aQ9 (w : World) (k : KpD) (v1 v2 v3 : Value) : Prop := ∃ B, aB2 w B (kpR (k, v1, v2, v3))
theorem aQ9.below {w w' : World} {k : KpD} {v1 v2 v3 : Value} (h : aQ9 w k v1 v2 v3) (hb : Below w.heap.size w w') : aQ9 w' k v1 v2 v3 := by
 obtain ⟨B, h⟩ := h;exact ⟨B, h.below hb⟩
theorem aC5.read {w : World} {base : Nat} {V : Value} {kv : Ks} (h : aC5 w base V kv) {k : KpD} {v1 v2 v3 : Value} (hx : (k, v1, v2, v3) ∈ kv) : aQ9 w k v1 v2 v3 := ⟨base, h.obj hx⟩
theorem aC5.look {w : World} {base : Nat} {V : Value} {kv : Ks} (h : aC5 w base V kv) (i : Nat) (hi : i < kv.length) : ∃ g cap, V = .slice (some ⟨g, 0, none⟩) kv.length cap ∧ g < w.heap.size ∧ KpAt w g i (kvAt kv i) := by
 rw [← bM8 kv i hi];exact h.at i hi
theorem cJ2 {k : KpD} (h : aH8 k) (x : Tx) : (getV k.fs x).size ≤ 1048576 := by
 unfold getV;split
 ·rename_i hx
  have := cC0 k.fs k.fs.length (atF k.fs x) hx;have := h.2.2.2.2;omega
 decide
theorem bY6 {k : KpD} (h : aH8 k) : aU0 k.fs := fun i hi => by
 have := cC0 k.fs k.fs.length i hi
 have := h.2.2.2.2
 omega
theorem bY7 {k : KpD} (h : aH8 k) : aR0 k.fs.length k.fs := fun i hi => by
 have := cC0 k.fs k.fs.length i hi
 have := h.2.2.2.2
 unfold maxLen
 omega
theorem bB7 {xs : Ts} (h : ∀ i, i < xs.length → (aA7 xs i).size ≤ 1048576) : ∀ i, i < xs.length → (aA7 xs i).size ≤ maxLen := fun i hi => Nat.le_trans (h i hi) (by decide)
theorem cD9 (oa : Oa) (n cap : Nat) (l : Bs) (k : KpD) (v1 v2 v3 : Value) (w : World) (hl : BanA w oa n l) (hn : n ≤ 2000000) (hlz : ∀ x ∈ l, x.2.1.size ≤ maxLen ∧ x.2.2.1.size ≤ maxLen) (h : aQ9 w k v1 v2 v3) (hs : aH8 k) :
  Calls prog 54 #[.slice oa n cap, .agg #[.string k.p, v1, v2, .int .i64 k.st, v3, .string k.b, .int .i64 k.t]] w fun e w' => aA5 (AnyK l k) w e w' := by
 obtain ⟨B, h⟩ := h;have ho : ObjO w B v1 k.xs.length k.xs v2 k.ys.length k.ys v3 k.fs.length k.fs := aH2 h;obtain ⟨o1, c1, rfl⟩ := aA0 ho.names;obtain ⟨o2, c2, rfl⟩ := aA0 ho.vals;exact bQ7 oa n cap l k.p o1 _ c1 k.xs o2 _ c2 k.ys k.st v3 _ B k.fs k.b k.t w hl hn hlz (aC2 ho.names) (aC2 ho.vals) (aB4.of_owns ho.flds) (by have := hs.2.1.1; omega) (by have := hs.2.2.1.1; omega) (by have := hs.2.2.2.1; omega) (bB7 hs.2.1.2) (bB7 hs.2.2.1.2) (bY7 hs) (by have := hs.1.1; unfold maxLen; omega) (by have := hs.1.2; unfold maxLen; omega) (cJ2 hs _)
end Go.Proofs.YtiobfnpmidjijaaGreatDoor
