/- What the proof of FnExactKeep leans on: contracts of the program's and the specification's functions, and plain facts (part 11 of 12). -/
import Derived.Test.YtejoifianjgefaaGreatDoorFnExactKeepJ
set_option maxHeartbeats 16000000
set_option maxRecDepth 100000
namespace Go.Proofs.YtejoifianjgefaaGreatDoor
open Go.Proofs.Tryz
open Go.RowKit
open Go.Lib hiding intOf
theorem cQ6 {w : World} {b : Nat} {v1 v2 V VB : Value} {kv : Ks} {cs : Ts} {ws : List (Int × ByteArray)} {bl : Bs} (h : aA2 w b (aB4 v1 v2 V VB kv cs ws bl)) : w.ownsRow b 9 1 v1 cs.length (cs.map Value.string) := h.own ⟨9, 1, v1, cs.length, cs.map Value.string⟩ (by simp [aB4])
theorem cU8 {w : World} {b : Nat} {v1 v2 V VB : Value} {kv : Ks} {cs : Ts} {ws : List (Int × ByteArray)} {bl : Bs} (h : aA2 w b (aB4 v1 v2 V VB kv cs ws bl)) : w.ownsRow b 155 2 v2 ws.length (aA1 ws) := h.own ⟨155, 2, v2, ws.length, aA1 ws⟩ (by simp [aB4])
theorem bX1 (v1 v2 V VB : Value) (kv : Ks) (s : ShD) (B : Nat) (w : World) (h : aD8 w B v1 v2 V VB kv s) (hz : aG1 s) (o : KpD) (u1 u2 u3 : Value) (hro : aI0 w o u1 u2 u3) (hso0 : aD6 o) :
  Calls prog 8 #[.agg #[v1, v2, V, VB, .int .i64 s.nx, .int .i64 s.sq], .agg #[.string o.p, u1, u2, .int .i64 o.st, u3, .string o.b, .int .i64 o.t]] w fun e w' => cN1 s o w e w' := by
 classical
 obtain ⟨i0, hi, t2, q7, q8⟩ := info_parts bA2;obtain ⟨o1, c1, e1⟩ := aA0 h.disk.cells;obtain ⟨o2, c2, e2⟩ := aA0 h.disk.pend;obtain ⟨o3, c3, e3⟩ := aA0 h.kept.row;obtain ⟨o4, c4, e4⟩ := aA0 h.bans;subst e1 e2 e3 e4;obtain ⟨n1, z9⟩ := exq (s.cs.length);obtain ⟨n2, A0⟩ := exq (s.ws.length);obtain ⟨n3, v3⟩ := exq kv.length;obtain ⟨n4, A1⟩ := exq (s.bl.length);rw [← v3] at h ⊢;have E9 : Hid (s.cs.length = n1 ∧ s.ws.length = n2 ∧ kv.length = n3 ∧ s.bl.length = n4) := ⟨z9.symm, A0.symm, v3.symm, A1.symm⟩;have m3 : Hid (kv.map (·.1) = s.ks) := h.2;have HZ := hid hz;have F0 : n1 ≤ 1048576 := by rw [z9]; exact hz.c
 have F1 : n2 ≤ 1048576 := by rw [A0]; exact hz.w
 have F2 : n3 ≤ 1048576 := by rw [v3, ← List.length_map (f := (·.1)), h.2]; exact hz.k
 have F3 : n4 ≤ 1048576 := by rw [A1]; exact hz.b
 have s2 : Hid (∀ W, Bw w W → aD8 W B (.slice o1 s.cs.length c1) (.slice o2 s.ws.length c2) (.slice o3 n3 c3) (.slice o4 s.bl.length c4) kv s) := fun W hb => h.below hb
 have r4 : Hid (∀ W, Bw w W → aB9 W B (.slice o3 n3 c3) kv) := fun W hb => (h.below hb).kept
 have p0 : Hid (kv.length = n3) := v3.symm;clear z9 A0 v3 A1 h hz;obtain ⟨Bo, hro⟩ := hro;have z2 : ObjO w Bo u1 o.xs.length o.xs u2 o.ys.length o.ys u3 o.fs.length o.fs := aD7 hro;obtain ⟨a1, d1, e1⟩ := aA0 z2.names;obtain ⟨a2, d2, e2⟩ := aA0 z2.vals;obtain ⟨a3, d3, e3⟩ := aA0 z2.flds;subst e1 e2 e3;have t3 : Hid (∀ W, Bw w W → aI0 W o (.slice a1 o.xs.length d1) (.slice a2 o.ys.length d2) (.slice a3 o.fs.length d3)) := fun W hb => ⟨Bo, hro.below hb⟩
 have q9 := hid hso0;have F4 := HZ.out.b;clear hro z2 hso0;have K0 := jnil w;go_enter func8, ntmps8;go_upto_region 1 with fail
 obtain ⟨q1, A2⟩ := exq (w.heap.size);obtain ⟨w1, v4⟩ := exq (w.alloc (.cells #[.slice o1 s.cs.length c1, .slice o2 s.ws.length c2, .slice o3 n3 c3, .slice o4 s.bl.length c4, .int .i64 s.nx, .int .i64 s.sq] 43));have q7 := A2.symm;rw [← v4]; try rw [← A2];have D5 := hsa v4 q7;have bw := bal v4;have K1 := ja K0 v4 q7;clear bw v4 q7 K0;obtain ⟨q2, A3⟩ := exq (q1 + 1);obtain ⟨w2, v5⟩ := exq (w1.alloc (.cells #[.string o.p, .slice a1 o.xs.length d1, .slice a2 o.ys.length d2, .int .i64 o.st, .slice a3 o.fs.length d3, .string o.b, .int .i64 o.t] 51));have q8 : w1.heap.size = q2 := by rw [A3]; exact D5
 rw [← v5]; try rw [← A3];have D6 := hsa v5 q8;have bw := bal v5;have K2 := ja K1 v5 q8;clear bw v5 q8 K1;obtain ⟨q3, A4⟩ := exq (q2 + 1);obtain ⟨w3, v6⟩ := exq (w2.alloc (.cells #[.slice none 0 0, .slice none 0 0, .slice none 0 0, .slice none 0 0, .int .i64 0, .int .i64 0] 43));have A5 : w2.heap.size = q3 := by rw [A4]; exact D6
 rw [← v6]; try rw [← A4];have E3 := hsa v6 A5;have bw := bal v6;have K3 := ja K2 v6 A5;clear bw v6 A5 K2;clear E3 A4 D6 A3 D5 A2;have i4 := c6c (jb K3 2 rfl);go_wp2_with fail
 refine (bI7 _ _ _ _ kv s B _ (by have h := (s2.out _ K3.hb); exact h) HZ.out).mono ?_;rintro e w4 ⟨us, rfl, z3, bw⟩;have K4 := jw K3 bw;clear bw K3;clear i4;cases us
 ·have A6 : Hid (¬ (aJ4 s)) := fun h => nomatch z3.2 h
  clear z3;have l7 := c6f (jb K4 0 rfl);go_wp2_with fail
  obtain ⟨o5, s3⟩ := exq ((((((w4.setCell ⟨q3, 0, none⟩ (.slice none 0 0)).setCell ⟨q3, 1, none⟩ (.slice none 0 0)).setCell ⟨q3, 2, none⟩ (.slice none 0 0)).setCell ⟨q3, 3, none⟩ (.slice none 0 0)).setCell ⟨q3, 4, none⟩ (.int .i64 0)).setCell ⟨q3, 5, none⟩ (.int .i64 0));rw [← s3];have h5 := jss K4 0 [(0, _), (1, _), (2, _), (3, _), (4, _), (5, _)] s3;clear s3 K4;have b6 := c6c (jb h5 0 rfl);refine bodyPost_ret (v := .tuple #[.agg #[.slice none 0 0, .slice none 0 0, .slice none 0 0, .slice none 0 0, .int .i64 0, .int .i64 0], .bool false]) (by simp [results, results8, go_sem, b6]) rfl ?_;exact .inl ⟨A6.out, rfl, h5.hb⟩
 have h1 : Hid (aJ4 s) := z3.1 rfl;clear z3;have F5 := h1.out.2.2.2.1.1;have F6 := h1.out.2.2.2.1.2;have t4 : Hid (0 ≤ s.nx ∧ s.nx ≤ 1000) := by have h := h1.out.2.2.1; exact ⟨by omega, by omega⟩
 go_upto_region 3 with fail
 refine wp_region_held_drew (S := fun W => W.heap[q1]? = some (.cells #[.slice o1 s.cs.length c1, .slice o2 s.ws.length c2, .slice o3 n3 c3, .slice o4 s.bl.length c4, .int .i64 s.nx, .int .i64 s.sq] 43) ∧ W.heap[q2]? = some (.cells #[.string o.p, .slice a1 o.xs.length d1, .slice a2 o.ys.length d2, .int .i64 o.st, .slice a3 o.fs.length d3, .string o.b, .int .i64 o.t] 51)) (by kernel_rfl) ⟨(jb K4 2 rfl), (jb K4 1 rfl)⟩ (fun _ => ?_)
 obtain ⟨w5, hX⟩ := exq w4.drew;have bw := bdr hX;rw [← hX];have K5 := jw K4 bw;have z4 := And.intro (jb K5 2 rfl) (jb K5 1 rfl);clear bw hX K4;refine tkP 0 (.pointer (some ⟨q1, 5, none⟩)) 13 rfl rfl z4 ?_;go_frame;refine tkL 1 (.int .i64 s.sq) 14 rfl rfl (Or.inl ⟨by rfl, by intro W hW; obtain ⟨b5, f5⟩ := hW; have y5 := c6c b5; go_simp⟩) z4 ?_;go_frame;refine tkL 2 (.agg #[.string o.p, .slice a1 o.xs.length d1, .slice a2 o.ys.length d2, .int .i64 o.st, .slice a3 o.fs.length d3, .string o.b, .int .i64 o.t]) 15 rfl rfl (Or.inl ⟨by rfl, by intro W hW; obtain ⟨b5, f5⟩ := hW; have y0 := c7c f5; go_simp⟩) z4 ?_;go_frame;refine rd1 3 rfl (fun K hK => ?_)
 go_simp;refine (bR4 o _ _ _ _ (t3.out _ K5.hb) q9.out).mono ?_;rintro e w6 ⟨ut, rfl, D7, bw⟩;have r5 := hid D7;clear D7;have K6 := jw K5 bw;clear bw K5;have D8 := And.intro (jb K6 2 rfl) (jb K6 1 rfl);refine hK.out _ _ D8 (fun _ => ?_)
 clear hK K z4;refine rd1 4 rfl (fun K hK => ?_)
 go_simp;refine (bJ3 s.sq ut _ (by have := r5.out.sm; omega)).mono ?_;rintro e w7 ⟨rfl, bw⟩;obtain ⟨tt, A7⟩ := exq (recI s.sq ut);rw [← A7];have s4 := hid A7;clear A7;have K7 := jw K6 bw;clear bw K6;have A8 := And.intro (jb K7 2 rfl) (jb K7 1 rfl);refine hK.out _ _ A8 (fun _ => ?_)
 clear hK K D8;refine tkP 5 (.string tt) 6 rfl rfl A8 ?_;go_frame;clear A8;refine wdn ?_;have s5 := c7c (jb K7 1 rfl);go_wp2_with fail
 refine (aY7 o _ _ _ _ (t3.out _ K7.hb) q9.out).mono ?_;rintro e w8 ⟨uo, rfl, z5, bw⟩;have K8 := jw K7 bw;clear bw K7;clear s5;cases uo
 ·have A9 : Hid (¬ (ObjK o)) := fun h => nomatch z5.2 h
  clear z5;have i4 := c6c (jb K8 2 rfl);go_wp2_with fail
  refine (aQ2 _ _ _ _ kv s B _ (by have h := (s2.out _ K8.hb); exact h) HZ.out).mono ?_;rintro e w9 ⟨va, vb, vc, vd, d8, rfl, d0, bw⟩;obtain ⟨oC, pC, rfl⟩ := aA0 d0.disk.cells;obtain ⟨oP, pP, rfl⟩ := aA0 d0.disk.pend;obtain ⟨oK, pK, rfl⟩ := d0.kept.len;obtain ⟨oE, pE, rfl⟩ := aA0 d0.bans;have r0 : Hid (w.heap.size ≤ w8.heap.size) := K8.hb.size;have K9 := jw K8 bw;clear bw K8;have B0 : Hid (aA2 (w9) w.heap.size (aB4 (.slice oC s.cs.length pC) (.slice oP s.ws.length pP) (.slice oK d8.length pK) (.slice oE s.bl.length pE) d8 s.cs s.ws s.bl)) := d0.1.wide r0.out;have r6 : Hid (d8.map (·.1) = s.ks) := d0.2;clear d0;clear i4;have l7 := c6f (jb K9 0 rfl);go_wp2_with fail
  obtain ⟨z6, i5⟩ := exq ((((((w9.setCell ⟨q3, 0, none⟩ (.slice oC s.cs.length pC)).setCell ⟨q3, 1, none⟩ (.slice oP s.ws.length pP)).setCell ⟨q3, 2, none⟩ (.slice oK d8.length pK)).setCell ⟨q3, 3, none⟩ (.slice oE s.bl.length pE)).setCell ⟨q3, 4, none⟩ (.int .i64 s.nx)).setCell ⟨q3, 5, none⟩ (.int .i64 s.sq));rw [← i5];have h6 := jss K9 0 [(0, _), (1, _), (2, _), (3, _), (4, _), (5, _)] i5;have h7 := hid (jrs [(0, _), (1, _), (2, _), (3, _), (4, _), (5, _)] B0.out i5 (jb K9 0 rfl) (aC4 (by decide) (by decide) (by decide) (by decide) (by decide)));clear i5 K9;have b6 := c6c (jb h6 0 rfl);refine bodyPost_ret (v := .tuple #[.agg #[.slice oC s.cs.length pC, .slice oP s.ws.length pP, .slice oK d8.length pK, .slice oE s.bl.length pE, .int .i64 s.nx, .int .i64 s.sq], .bool false]) (by simp [results, results8, go_sem, b6]) rfl ?_;exact .inr ⟨s, false, _, _, _, _, d8, h1.out, .inl ⟨rfl, fun h => A9.out h.1, rfl⟩, rfl, ⟨h7.out, r6.out⟩, h6.hb⟩
 have h2 : Hid (ObjK o) := z5.1 rfl;clear z5;have B1 := c6c (jb K8 2 rfl);have s5 := c7c (jb K8 1 rfl);go_wp2_with fail
 refine (bQ0 _ _ _ s.bl o _ _ _ _ (aO4 (s2.out _ K8.hb).bans) (by omega) HZ.out.bm (t3.out _ K8.hb) q9.out).mono ?_;rintro e w9 ⟨uh, rfl, z7, bw⟩;have K9 := jw K8 bw;clear bw K8;clear B1 s5;cases uh
 rotate_left
 ·have B2 : Hid (AnyK s.bl o) := z7.1 rfl;clear z7;have i4 := c6c (jb K9 2 rfl);go_wp2_with fail
  refine (aQ2 _ _ _ _ kv s B _ (by have h := (s2.out _ K9.hb); exact h) HZ.out).mono ?_;rintro e o5 ⟨va, vb, vc, vd, d8, rfl, d0, bw⟩;obtain ⟨oC, pC, rfl⟩ := aA0 d0.disk.cells;obtain ⟨oP, pP, rfl⟩ := aA0 d0.disk.pend;obtain ⟨oK, pK, rfl⟩ := d0.kept.len;obtain ⟨oE, pE, rfl⟩ := aA0 d0.bans;have r0 : Hid (w.heap.size ≤ w9.heap.size) := K9.hb.size;have h5 := jw K9 bw;clear bw K9;have g1 : Hid (aA2 (o5) w.heap.size (aB4 (.slice oC s.cs.length pC) (.slice oP s.ws.length pP) (.slice oK d8.length pK) (.slice oE s.bl.length pE) d8 s.cs s.ws s.bl)) := d0.1.wide r0.out;have r6 : Hid (d8.map (·.1) = s.ks) := d0.2;clear d0;clear i4;have l7 := c6f (jb h5 0 rfl);go_wp2_with fail
  obtain ⟨v7, e5⟩ := exq ((((((o5.setCell ⟨q3, 0, none⟩ (.slice oC s.cs.length pC)).setCell ⟨q3, 1, none⟩ (.slice oP s.ws.length pP)).setCell ⟨q3, 2, none⟩ (.slice oK d8.length pK)).setCell ⟨q3, 3, none⟩ (.slice oE s.bl.length pE)).setCell ⟨q3, 4, none⟩ (.int .i64 s.nx)).setCell ⟨q3, 5, none⟩ (.int .i64 s.sq));rw [← e5];have h8 := jss h5 0 [(0, _), (1, _), (2, _), (3, _), (4, _), (5, _)] e5;have d9 := hid (jrs [(0, _), (1, _), (2, _), (3, _), (4, _), (5, _)] g1.out e5 (jb h5 0 rfl) (aC4 (by decide) (by decide) (by decide) (by decide) (by decide)));clear e5 h5;have b6 := c6c (jb h8 0 rfl);refine bodyPost_ret (v := .tuple #[.agg #[.slice oC s.cs.length pC, .slice oP s.ws.length pP, .slice oK d8.length pK, .slice oE s.bl.length pE, .int .i64 s.nx, .int .i64 s.sq], .bool false]) (by simp [results, results8, go_sem, b6]) rfl ?_;exact .inr ⟨s, false, _, _, _, _, d8, h1.out, .inl ⟨rfl, fun h => h.2.1 B2.out, rfl⟩, rfl, ⟨d9.out, r6.out⟩, h8.hb⟩
 have s6 : Hid (¬ (AnyK s.bl o)) := fun h => nomatch z7.2 h
 clear z7;by_cases hc1 : s.sq = 100000
 ·have B3 : ((s.sq : Int) == (100000 : Int)) = true := by simpa using hc1
  have B4 : ((s.sq : Int) != (100000 : Int)) = false := by simpa using hc1
  have v8 := hid hc1;have B5 := hid hc1;clear hc1;have h3 := c6c (jb K9 2 rfl);go_wp2_with fail
  refine (aQ2 _ _ _ _ kv s B _ (by have h := (s2.out _ K9.hb); exact h) HZ.out).mono ?_;rintro e o5 ⟨va, vb, vc, vd, d8, rfl, d0, bw⟩;obtain ⟨oC, pC, rfl⟩ := aA0 d0.disk.cells;obtain ⟨oP, pP, rfl⟩ := aA0 d0.disk.pend;obtain ⟨oK, pK, rfl⟩ := d0.kept.len;obtain ⟨oE, pE, rfl⟩ := aA0 d0.bans;have r0 : Hid (w.heap.size ≤ w9.heap.size) := K9.hb.size;have h5 := jw K9 bw;clear bw K9;have g1 : Hid (aA2 (o5) w.heap.size (aB4 (.slice oC s.cs.length pC) (.slice oP s.ws.length pP) (.slice oK d8.length pK) (.slice oE s.bl.length pE) d8 s.cs s.ws s.bl)) := d0.1.wide r0.out;have r6 : Hid (d8.map (·.1) = s.ks) := d0.2;clear d0;clear h3;have l7 := c6f (jb h5 0 rfl);go_wp2_with fail
  obtain ⟨v7, e5⟩ := exq ((((((o5.setCell ⟨q3, 0, none⟩ (.slice oC s.cs.length pC)).setCell ⟨q3, 1, none⟩ (.slice oP s.ws.length pP)).setCell ⟨q3, 2, none⟩ (.slice oK d8.length pK)).setCell ⟨q3, 3, none⟩ (.slice oE s.bl.length pE)).setCell ⟨q3, 4, none⟩ (.int .i64 s.nx)).setCell ⟨q3, 5, none⟩ (.int .i64 s.sq));rw [← e5];have h8 := jss h5 0 [(0, _), (1, _), (2, _), (3, _), (4, _), (5, _)] e5;have d9 := hid (jrs [(0, _), (1, _), (2, _), (3, _), (4, _), (5, _)] g1.out e5 (jb h5 0 rfl) (aC4 (by decide) (by decide) (by decide) (by decide) (by decide)));clear e5 h5;have b6 := c6c (jb h8 0 rfl);refine bodyPost_ret (v := .tuple #[.agg #[.slice oC s.cs.length pC, .slice oP s.ws.length pP, .slice oK d8.length pK, .slice oE s.bl.length pE, .int .i64 s.nx, .int .i64 s.sq], .bool false]) (by simp [results, results8, go_sem, b6]) rfl ?_;exact .inr ⟨s, false, _, _, _, _, d8, h1.out, .inl ⟨rfl, fun h => h.2.2.1 v8.out, rfl⟩, rfl, ⟨d9.out, r6.out⟩, h8.hb⟩
 have B3 : ((s.sq : Int) == (100000 : Int)) = false := by simpa using hc1
 have B4 : ((s.sq : Int) != (100000 : Int)) = true := by simpa using hc1
 have v8 := hid hc1;have B5 := hid hc1;clear hc1;have h3 := c6c (jb K9 2 rfl);by_cases hc2 : tt = ⟨#[]⟩
 ·have B6 : (tt).toList.isEmpty = true := aP4 (by rw [hc2]; rfl);have v9 := hid hc2;clear hc2;have i4 := c6c (jb K9 2 rfl);go_wp2_with fail
  refine (aQ2 _ _ _ _ kv s B _ (by have h := (s2.out _ K9.hb); exact h) HZ.out).mono ?_;rintro e o5 ⟨va, vb, vc, vd, d8, rfl, d0, bw⟩;obtain ⟨oC, pC, rfl⟩ := aA0 d0.disk.cells;obtain ⟨oP, pP, rfl⟩ := aA0 d0.disk.pend;obtain ⟨oK, pK, rfl⟩ := d0.kept.len;obtain ⟨oE, pE, rfl⟩ := aA0 d0.bans;have r0 : Hid (w.heap.size ≤ w9.heap.size) := K9.hb.size;have h5 := jw K9 bw;clear bw K9;have g1 : Hid (aA2 (o5) w.heap.size (aB4 (.slice oC s.cs.length pC) (.slice oP s.ws.length pP) (.slice oK d8.length pK) (.slice oE s.bl.length pE) d8 s.cs s.ws s.bl)) := d0.1.wide r0.out;have r6 : Hid (d8.map (·.1) = s.ks) := d0.2;clear d0;clear h3 i4;have l7 := c6f (jb h5 0 rfl);go_wp2_with fail
  obtain ⟨v7, e5⟩ := exq ((((((o5.setCell ⟨q3, 0, none⟩ (.slice oC s.cs.length pC)).setCell ⟨q3, 1, none⟩ (.slice oP s.ws.length pP)).setCell ⟨q3, 2, none⟩ (.slice oK d8.length pK)).setCell ⟨q3, 3, none⟩ (.slice oE s.bl.length pE)).setCell ⟨q3, 4, none⟩ (.int .i64 s.nx)).setCell ⟨q3, 5, none⟩ (.int .i64 s.sq));rw [← e5];have h8 := jss h5 0 [(0, _), (1, _), (2, _), (3, _), (4, _), (5, _)] e5;have d9 := hid (jrs [(0, _), (1, _), (2, _), (3, _), (4, _), (5, _)] g1.out e5 (jb h5 0 rfl) (aC4 (by decide) (by decide) (by decide) (by decide) (by decide)));clear e5 h5;have b6 := c6c (jb h8 0 rfl);refine bodyPost_ret (v := .tuple #[.agg #[.slice oC s.cs.length pC, .slice oP s.ws.length pP, .slice oK d8.length pK, .slice oE s.bl.length pE, .int .i64 s.nx, .int .i64 s.sq], .bool false]) (by simp [results, results8, go_sem, b6]) rfl ?_;exact .inr ⟨s, false, _, _, _, _, d8, h1.out, .inl ⟨rfl, fun h => h.2.2.2 (by rw [← r5.out.1 h2.out, ← s4.out]; exact v9.out), rfl⟩, rfl, ⟨d9.out, r6.out⟩, h8.hb⟩
 have B6 : (tt).toList.isEmpty = false := aW6 (Nat.pos_of_ne_zero (fun e => hc2 (aW8 e)))
 have v9 := hid hc2;clear hc2;have i4 := c6c (jb K9 2 rfl);go_wp2_with fail
 refine (aQ2 _ _ _ _ kv s B _ (by have h := (s2.out _ K9.hb); exact h) HZ.out).mono ?_;rintro e o5 ⟨va, vb, vc, vd, d8, rfl, d0, bw⟩;obtain ⟨oC, pC, rfl⟩ := aA0 d0.disk.cells;obtain ⟨oP, pP, rfl⟩ := aA0 d0.disk.pend;obtain ⟨oK, pK, rfl⟩ := d0.kept.len;obtain ⟨oE, pE, rfl⟩ := aA0 d0.bans;have r0 : Hid (w.heap.size ≤ w9.heap.size) := K9.hb.size;have h5 := jw K9 bw;clear bw K9;have g1 : Hid (aA2 (o5) w.heap.size (aB4 (.slice oC s.cs.length pC) (.slice oP s.ws.length pP) (.slice oK d8.length pK) (.slice oE s.bl.length pE) d8 s.cs s.ws s.bl)) := d0.1.wide r0.out;have r6 : Hid (d8.map (·.1) = s.ks) := d0.2;clear d0;clear h3 i4;go_upto_region 7 with fail
 obtain ⟨q4, B7⟩ := exq (o5.heap.size);obtain ⟨E4, p1⟩ := exq (o5.alloc (.cells #[.slice oC s.cs.length pC, .slice oP s.ws.length pP, .slice oK d8.length pK, .slice oE s.bl.length pE, .int .i64 s.nx, .int .i64 s.sq] 43));have s7 := B7.symm;rw [← p1]; try rw [← B7];have B8 := hsa p1 s7;have bw := bal p1;have z8 := ja h5 p1 s7;have x0 := hid (aA2.below g1.out bw);clear bw p1 s7 h5;clear B8 B7;have s8 := c6f (jb z8 0 rfl);go_upto_region 8 with fail
 obtain ⟨E5, r1⟩ := exq (E4.setCell ⟨q4, 2, none⟩ (.slice none 0 0));rw [← r1];have s9 := js z8 0 r1;have m4 := erS r1 x0 (jb z8 0 rfl) (aC4 (by decide) (by decide) (by decide) (by decide) (by decide));clear r1 z8;clear s8;go_wp2_with fail
 have D9 : Hid (aA2 (E5) w.heap.size (aB4 (.slice oC s.cs.length pC) (.slice oP s.ws.length pP) (.slice none 0 0) (.slice oE s.bl.length pE) [] s.cs s.ws s.bl)) := aJ3 (cI0 m4.out);clear m4;have m4 := D9;clear D9;go_loopw [8] (fun i wr => ∃ (j : Nat) (kvo : Ks) (oL : Oa) (cL : Nat), j ≤ n3 ∧ i = .int .i64 (j : Int) ∧ kvo.length ≤ j ∧ Hid (kvo.map (·.1) = (s.ks.take j).filter (fun k => decide (aT0 s o k))) ∧ Hid (Bw w wr ∧ wr.heap[q1]? = some (.cells #[.slice o1 s.cs.length c1, .slice o2 s.ws.length c2, .slice o3 n3 c3, .slice o4 s.bl.length c4, .int .i64 s.nx, .int .i64 s.sq] 43) ∧ wr.heap[q2]? = some (.cells #[.string o.p, .slice a1 o.xs.length d1, .slice a2 o.ys.length d2, .int .i64 o.st, .slice a3 o.fs.length d3, .string o.b, .int .i64 o.t] 51) ∧ wr.heap[q3]? = some (.cells #[.slice none 0 0, .slice none 0 0, .slice none 0 0, .slice none 0 0, .int .i64 0, .int .i64 0] 43) ∧ wr.heap[q4]? = some (.cells #[.slice oC s.cs.length pC, .slice oP s.ws.length pP, .slice oL kvo.length cL, .slice oE s.bl.length pE, .int .i64 s.nx, .int .i64 s.sq] 43) ∧ aA2 wr w.heap.size (aB4 (.slice oC s.cs.length pC) (.slice oP s.ws.length pP) (.slice oL kvo.length cL) (.slice oE s.bl.length pE) kvo s.cs s.ws s.bl))) (fun i _ => n3 - (intOf i).toNat)
 case atStart => exact ⟨0, [], none, 0, Nat.zero_le _, rfl, Nat.le_refl _, (by show _ = _; rfl), ⟨s9.hb, (jb s9 3 rfl), (jb s9 2 rfl), (jb s9 1 rfl), (jb s9 0 rfl), m4.out⟩⟩
 case round =>
  obtain ⟨j, kvo, oL, cL, hj, rfl, F7, t0, HW⟩ := hrel;by_cases hlt : (j : Int) < (n3 : Int)
  rotate_left
  ·have g0 := HW.out.1;have g2 := hid HW.out.2.1;have m5 := hid HW.out.2.2.1;have p2 := hid HW.out.2.2.2.1;have m6 := hid HW.out.2.2.2.2.1;have m7 : Hid (aA2 (wr) w.heap.size (aB4 (.slice oC s.cs.length pC) (.slice oP s.ws.length pP) (.slice oL kvo.length cL) (.slice oE s.bl.length pE) kvo s.cs s.ws s.bl)) := HW.out.2.2.2.2.2;clear HW;have t1 := c6c g2.out
   have f6 : Hid (kvo.map (·.1) = s.ks.filter (fun k => decide (aT0 s o k))) := by
    show _ = _
    rw [t0.out, List.take_of_length_le (by rw [← m3.out, List.length_map, p0.out]; omega)]
   clear t0;have l8 := c6c g2.out;have o6 := c6c m6.out;go_wp2_with fail
   refine (cI4 _ _ _ _ kvo s.cs s.ws s.bl s.nx s.sq s.nx tt w.heap.size _ m7.out g0.size HZ.out.c HZ.out.w).mono ?_;rintro e B9 ⟨va, vb, f2, f3, rfl, E0, hro, bw⟩;have C0 := hid E0;obtain ⟨l3, l4, rfl⟩ := aA0 (cQ6 hro);obtain ⟨l5, l6, rfl⟩ := aA0 (cU8 hro);clear E0;have i6 := hbt g0 bw;have j2 := hblk g2 bw;have j3 := hblk m5 bw;have m8 := hblk p2 bw;have b3 := hblk m6 bw;have h9 := hid (aA2.below m7.out bw);clear g0 bw;clear h9;have h9 : Hid (aA2 (B9) w.heap.size (aB4 (.slice l3 f2.length l4) (.slice l5 f3.length l6) (.slice oL kvo.length cL) (.slice oE s.bl.length pE) kvo f2 f3 s.bl)) := hro;clear hro;clear t1 l8 o6;have o6 := (k6c b3).1;have C1 := hfz b3 0;have C2 := (k6c b3).2.1;have C3 := hfz b3 1;have s8 := (k6c b3).2.2.1;have C4 := hfz b3 2;have C5 := (k6c b3).2.2.2.1;have C6 := hfz b3 3;have l9 := (k6c b3).2.2.2.2.1;have C7 := hfz b3 4;have m0 := (k6c b3).2.2.2.2.2;have C8 := hfz b3 5;have x1 := jz s9 i6 (jzb b3.out (jzb m8.out (jzb j3.out (jzb j2.out (jzn _)))));go_upto_region 14 with fail
   obtain ⟨z6, i5⟩ := exq (B9.setCell ⟨q4, 0, none⟩ (.slice l3 f2.length l4));rw [← i5];have h6 := js x1 0 i5;have h7 := erS i5 h9 b3 (aC4 (by decide) (by decide) (by decide) (by decide) (by decide));clear i6 i5 x1;obtain ⟨h0, r2⟩ := exq (((((z6.setCell ⟨q4, 1, none⟩ (.slice l5 f3.length l6)).setCell ⟨q4, 2, none⟩ (.slice oL kvo.length cL)).setCell ⟨q4, 3, none⟩ (.slice oE s.bl.length pE)).setCell ⟨q4, 4, none⟩ (.int .i64 s.nx)).setCell ⟨q4, 5, none⟩ (.int .i64 s.sq));rw [← r2];have f4 := jss h6 0 [(1, _), (2, _), (3, _), (4, _), (5, _)] r2;have g4 := hid (jrs [(1, _), (2, _), (3, _), (4, _), (5, _)] h7.out r2 (jb h6 0 rfl) (aC4 (by decide) (by decide) (by decide) (by decide) (by decide)));clear r2 h6;clear o6 C1 C2 C3 s8 C4 C5 C6 l9 C7 m0 C8;go_upto_region 14 with fail
   refine wp_region_held_drew (S := fun W => W.heap[q2]? = some (.cells #[.string o.p, .slice a1 o.xs.length d1, .slice a2 o.ys.length d2, .int .i64 o.st, .slice a3 o.fs.length d3, .string o.b, .int .i64 o.t] 51) ∧ W.heap[q1]? = some (.cells #[.slice o1 s.cs.length c1, .slice o2 s.ws.length c2, .slice o3 n3 c3, .slice o4 s.bl.length c4, .int .i64 s.nx, .int .i64 s.sq] 43)) (by kernel_rfl) ⟨(jb f4 2 rfl), (jb f4 3 rfl)⟩ (fun _ => ?_)
   obtain ⟨E1, hX⟩ := exq h0.drew;have bw := bdr hX;rw [← hX];have p4 := jw f4 bw;have m9 := hid (aA2.below g4.out bw);have i7 := And.intro (jb p4 2 rfl) (jb p4 3 rfl);clear bw hX f4;refine tkP 0 (.pointer (some ⟨q4, 2, none⟩)) 98 rfl rfl i7 ?_;go_frame;refine tkL 2 (.agg #[.string o.p, .slice a1 o.xs.length d1, .slice a2 o.ys.length d2, .int .i64 o.st, .slice a3 o.fs.length d3, .string o.b, .int .i64 o.t]) 100 rfl rfl (Or.inl ⟨by rfl, by intro W hW; obtain ⟨f5, b5⟩ := hW; have y0 := c7c f5; go_simp⟩) i7 ?_;go_frame;refine tkP 4 (.pointer (some ⟨q1, 4, none⟩)) 102 rfl rfl i7 ?_;go_frame;refine tkL 5 (.int .i64 s.nx) 103 rfl rfl (Or.inl ⟨by rfl, by intro W hW; obtain ⟨f5, b5⟩ := hW; have y4 := c6c b5; go_simp⟩) i7 ?_;go_frame;refine tkP 6 (.pointer (some ⟨q1, 5, none⟩)) 104 rfl rfl i7 ?_;go_frame;refine tkL 7 (.int .i64 s.sq) 105 rfl rfl (Or.inl ⟨by rfl, by intro W hW; obtain ⟨f5, b5⟩ := hW; have y5 := c6c b5; go_simp⟩) i7 ?_;go_frame;refine wpAnyH_ready (rs := [1, 3]) (by kernel_rfl) (by simp) ?_;refine AllReadyH.cons rfl (fun K hK => ?_) (AllReadyH.cons rfl (fun K hK => ?_) AllReadyH.nil)
   ·have p5 := c6c (jb p4 0 rfl);go_simp;refine hK.out _ _ i7 (fun _ => ?_)
    clear hK K p5;refine rd1 3 rfl (fun K hK => ?_)
    go_simp;refine (aM8 o.p _ o.xs _ o.ys o.st _ o.fs o.b o.t _ _ _ _ _ (aD7 (Classical.choose_spec (t3.out _ p4.hb))) (by have := q9.out.2.1.1; dsimp only; omega) (by have := q9.out.2.2.1.1; dsimp only; omega) (by have := q9.out.2.2.2.1; dsimp only; omega)).mono ?_;rintro e i1 ⟨va, vb, vc, rfl, f7, bw⟩;dsimp only at f7 ⊢;obtain ⟨a5, a6, rfl⟩ := aA0 f7.names;obtain ⟨a7, a8, rfl⟩ := aA0 f7.vals;obtain ⟨a9, b0, rfl⟩ := aA0 f7.flds;obtain ⟨bC, i8⟩ := exq (E1.heap.size);have p6 : Hid (aA2 i1 bC (kpR ((⟨o.p, o.xs, o.ys, o.st, o.fs, o.b, o.t, s.nx, s.sq⟩ : KpD), Value.slice a5 o.xs.length a6, Value.slice a7 o.ys.length a8, Value.slice a9 o.fs.length b0))) := by rw [i8]; exact aG5 (k := ⟨o.p, o.xs, o.ys, o.st, o.fs, o.b, o.t, s.nx, s.sq⟩) f7
    have e0 : Hid (∀ r ∈ aB4 (.slice l3 f2.length l4) (.slice l5 f3.length l6) (.slice oL kvo.length cL) (.slice oE s.bl.length pE) kvo f2 f3 s.bl, ∀ g, r.v.ownBlock = some g → g < bC) := fun r hr g hg => by rw [i8]; exact m9.out.lt hr hg
    have m1 : Hid (w.heap.size ≤ bC) := by rw [i8]; exact p4.hb.size
    clear f7 i8;have j1 := jw p4 bw;have n0 := hid (aA2.below m9.out bw);clear bw p4;have n5 : Hid (aA2 (i1) bC (kpR ((⟨o.p, o.xs, o.ys, o.st, o.fs, o.b, o.t, s.nx, s.sq⟩ : KpD), Value.slice a5 o.xs.length a6, Value.slice a7 o.ys.length a8, Value.slice a9 o.fs.length b0))) := p6.out;clear p6;have i9 := And.intro (jb j1 2 rfl) (jb j1 3 rfl);refine hK.out _ _ i9 (fun _ => ?_)
    clear hK K i7;refine tkP 8 (.agg #[.string o.p, .slice a5 o.xs.length a6, .slice a7 o.ys.length a8, .int .i64 o.st, .slice a9 o.fs.length b0, .string o.b, .int .i64 o.t, .int .i64 s.nx, .int .i64 s.sq]) 106 rfl rfl i9 ?_;go_frame;refine rd1 9 rfl (fun K hK => ?_)
    go_simp;have bw : Below i1.heap.size i1 (i1.alloc (.cells #[.string o.p, .slice a5 o.xs.length a6, .slice a7 o.ys.length a8, .int .i64 o.st, .slice a9 o.fs.length b0, .string o.b, .int .i64 o.t, .int .i64 s.nx, .int .i64 s.sq] 82)) := (Below.refl _ _).alloc (Nat.le_refl _) _;have j4 := And.intro (aA6 (jb j1 2 rfl) bw) (aA6 (jb j1 3 rfl) bw);refine hK.out _ _ j4 (fun _ => ?_)
    clear hK K j4 bw i9;obtain ⟨q5, g5⟩ := exq (i1.heap.size);obtain ⟨p7, e6⟩ := exq ((i1.alloc (.cells #[.string o.p, .slice a5 o.xs.length a6, .slice a7 o.ys.length a8, .int .i64 o.st, .slice a9 o.fs.length b0, .string o.b, .int .i64 o.t, .int .i64 s.nx, .int .i64 s.sq] 82)));rw [← g5, ← e6];have bw := bal e6;have d6 := ja j1 e6 g5.symm;have f8 := hid (aA2.below n0.out bw);have j5 := hid (aA2.below n5.out bw);have o7 := And.intro (jb d6 3 rfl) (jb d6 4 rfl);clear bw e6 g5 j1;refine rd1 10 rfl (fun K hK => ?_)
    have b7 : p7.ownsRow w.heap.size 82 9 (.slice oL kvo.length cL) kvo.length (kvo.flatMap kpC) := f8.out.own (aH2 (.slice oL kvo.length cL) kvo) (by simp [aB4, aC9]);have j6 : kvo.length + 1 ≤ maxLen := by unfold maxLen; omega
    have j7 : (kvo.length + 1) * 136 ≤ 140737488355328 := by omega
    have e7 := d6.hb;refine step_append_lies p7 (by rfl) _ _ 40 (by rfl) w.heap.size 82 i0 (.agg #[.string ⟨#[]⟩, .slice none 0 0, .slice none 0 0, .int .i64 0, .slice none 0 0, .string ⟨#[]⟩, .int .i64 0, .int .i64 0, .int .i64 0]) 9 136 underlying40 hi t2 q7 q8 rfl (by decide) _ _ _ (by rfl) b7 ⟨q5, 0, none⟩ 1 1 [.string o.p, .slice a5 o.xs.length a6, .slice a7 o.ys.length a8, .int .i64 o.st, .slice a9 o.fs.length b0, .string o.b, .int .i64 o.t, .int .i64 s.nx, .int .i64 s.sq] (by rfl) rfl (World.news_of_block (jb d6 0 rfl)) (by intro u hu; simp only [List.mem_cons, List.not_mem_nil, or_false] at hu; rcases hu with rfl | rfl | rfl | rfl | rfl | rfl | rfl | rfl | rfl <;> rfl) (by decide) j6 j7 e7.size _ rfl ?_;intro gL b9 n6 b4 a0 d4 g6;have j8 : Bw w (n6) := e7.grown a0 e7.size (fun g hg => aB7 b7 hg)
    have x2 := hid a0.size
    have HV : ∀ g, (Value.slice (some ⟨gL, 0, none⟩) (kvo.length + 1) b9).ownBlock = some g → (Value.slice oL kvo.length cL).ownBlock = some g ∨ p7.heap.size ≤ g := by
     intro g hg
     have e : some gL = some g := hg
     cases e
     rcases d4 with h | h
     ·exact .inl h
     ·exact .inr (by omega)
    have d5 : Hid (aA2 n6 w.heap.size (aB4 (.slice l3 f2.length l4) (.slice l5 f3.length l6) (.slice (some ⟨gL, 0, none⟩) (kvo.length + 1) b9) (.slice oE s.bl.length pE) (kvo ++ [((⟨o.p, o.xs, o.ys, o.st, o.fs, o.b, o.t, s.nx, s.sq⟩ : KpD), Value.slice a5 o.xs.length a6, Value.slice a7 o.ys.length a8, Value.slice a9 o.fs.length b0)]) f2 f3 s.bl)) := aJ2 f8.out j5.out e0.out m1.out a0 b4 HV;have j9 : Hid (aA2 (n6) w.heap.size (aB4 (.slice l3 f2.length l4) (.slice l5 f3.length l6) (.slice (some ⟨gL, 0, none⟩) (kvo.length + 1) b9) (.slice oE s.bl.length pE) (kvo ++ [((⟨o.p, o.xs, o.ys, o.st, o.fs, o.b, o.t, s.nx, s.sq⟩ : KpD), Value.slice a5 o.xs.length a6, Value.slice a7 o.ys.length a8, Value.slice a9 o.fs.length b0)]) f2 f3 s.bl)) := d5.out;have i2 := jz d6 j8 (jzx (jzb (jgB a0 b7 (jb d6 1 rfl)) (jzb (jgB a0 b7 (jb d6 2 rfl)) (jzb (jgB a0 b7 (jb d6 3 rfl)) (jzb (jgB a0 b7 (jb d6 4 rfl)) (jzn _))))));clear d5 HV b7 j6 j7 b4 a0 d4 g6 e0 m1 e7 d6;simp only [Act.put, List.setIfInBounds_toArray]
    have g7 := And.intro (jb i2 2 rfl) (jb i2 3 rfl);refine hK.out _ _ g7 (fun _ => ?_)
    clear hK K o7;refine tkP 11 (.pointer (some ⟨q4, 2, none⟩)) 109 rfl rfl g7 ?_;simp only [Act.put]
    refine rd1 12 rfl (fun K hK => ?_)
    have p8 := c6f (jb i2 0 rfl);obtain ⟨r7, hY⟩ := exq ((n6.setCell ⟨q4, 2, none⟩ (.slice (some ⟨gL, 0, none⟩) (kvo.length + 1) b9)));have HY := hsy hY;have k0 := jss i2 0 [(2, _)] hY;have k1 := hid (jrs [(2, _)] j9.out hY (jb i2 0 rfl) (aC4 (by decide) (by decide) (by decide) (by decide) (by decide)));clear hY j8 i2;go_simp;rw [HY.out];have k2 := And.intro (jb k0 2 rfl) (jb k0 3 rfl);refine hK.out _ _ k2 (fun _ => ?_)
    clear hK K HY g7 p8;clear k2;refine wdn ?_;have l8 := c6c (jb k0 3 rfl);go_wp2_with fail
    refine (aW3 s.nx _ t4.out.1 t4.out.2).mono ?_;rintro e r8 ⟨rfl, r9⟩;have bw : Below r7.heap.size (r7) r8 := by rw [r9]; exact Below.refl _ _
    clear r9;obtain ⟨na, p9⟩ := exq (aN5 s.nx);rw [← p9];have x3 := hid p9;clear p9;have n7 := jw k0 bw;have k3 := hid (aA2.below k1.out bw);clear bw k0;clear l8;have l9 := c6f (jb n7 0 rfl);go_upto_region 16 with fail
    obtain ⟨x4, e8⟩ := exq (r8.setCell ⟨q4, 4, none⟩ (.int .i64 na));rw [← e8];have k4 := js n7 0 e8;have k5 := erS e8 k3 (jb n7 0 rfl) (aC4 (by decide) (by decide) (by decide) (by decide) (by decide));clear e8 n7;clear l9;have h3 := c6c (jb k4 3 rfl);have m0 := c6f (jb k4 0 rfl);go_upto_region 17 with fail
    obtain ⟨x5, e9⟩ := exq (x4.setCell ⟨q4, 5, none⟩ (.int .i64 (s.sq + 1)));rw [← e9];have k6 := js k4 0 e9;have k7 := erS e9 k5 (jb k4 0 rfl) (aC4 (by decide) (by decide) (by decide) (by decide) (by decide));clear e9 k4;clear h3 m0;have l7 := c6f (jb k6 1 rfl);have o6 := c6c (jb k6 0 rfl);go_wp2_with fail
    obtain ⟨E2, f0⟩ := exq ((((((x5.setCell ⟨q3, 0, none⟩ (.slice l3 f2.length l4)).setCell ⟨q3, 1, none⟩ (.slice l5 f3.length l6)).setCell ⟨q3, 2, none⟩ (.slice (some ⟨gL, 0, none⟩) (kvo.length + 1) b9)).setCell ⟨q3, 3, none⟩ (.slice oE s.bl.length pE)).setCell ⟨q3, 4, none⟩ (.int .i64 na)).setCell ⟨q3, 5, none⟩ (.int .i64 (s.sq + 1)));rw [← f0];have s0 := jss k6 1 [(0, _), (1, _), (2, _), (3, _), (4, _), (5, _)] f0;have k8 := hid (jrs [(0, _), (1, _), (2, _), (3, _), (4, _), (5, _)] k7.out f0 (jb k6 1 rfl) (aC4 (by decide) (by decide) (by decide) (by decide) (by decide)));clear f0 k6;have b6 := c6c (jb s0 1 rfl);refine bodyPost_ret (v := .tuple #[.agg #[.slice l3 f2.length l4, .slice l5 f3.length l6, .slice (some ⟨gL, 0, none⟩) (kvo.length + 1) b9, .slice oE s.bl.length pE, .int .i64 na, .int .i64 (s.sq + 1)], .bool true]) (by simp [results, results8, go_sem, b6]) rfl ?_;refine .inr ⟨⟨f2, f3, s.ks.filter (fun k => decide (aT0 s o k)) ++ [⟨o.p, o.xs, o.ys, o.st, o.fs, o.b, o.t, s.nx, s.sq⟩], s.bl, na, s.sq + 1⟩, true, _, _, _, _, kvo ++ [((⟨o.p, o.xs, o.ys, o.st, o.fs, o.b, o.t, s.nx, s.sq⟩ : KpD), Value.slice a5 o.xs.length a6, Value.slice a7 o.ys.length a8, Value.slice a9 o.fs.length b0)], h1.out, .inr ⟨rfl, ⟨h2.out, s6.out, v8.out, ?_⟩, ?_⟩, rfl, ⟨?_, ?_⟩, s0.hb⟩
    ·rw [← r5.out.1 h2.out, ← s4.out]; exact v9.out
    ·refine ⟨?_, ?_, rfl, x3.out, rfl⟩
     ·rw [← r5.out.1 h2.out, ← s4.out]; exact C0.out
     show _ ++ _ = _ ++ _
     congr
    ·have hl : (kvo ++ [((⟨o.p, o.xs, o.ys, o.st, o.fs, o.b, o.t, s.nx, s.sq⟩ : KpD), Value.slice a5 o.xs.length a6, Value.slice a7 o.ys.length a8, Value.slice a9 o.fs.length b0)]).length = kvo.length + 1 := by simp
     exact k8.out
    rw [List.map_append, f6.out];rfl
   go_simp;refine (aM8 o.p _ o.xs _ o.ys o.st _ o.fs o.b o.t _ _ _ _ _ (aD7 (Classical.choose_spec (t3.out _ p4.hb))) (by have := q9.out.2.1.1; dsimp only; omega) (by have := q9.out.2.2.1.1; dsimp only; omega) (by have := q9.out.2.2.2.1; dsimp only; omega)).mono ?_;rintro e i1 ⟨va, vb, vc, rfl, f7, bw⟩;dsimp only at f7 ⊢;obtain ⟨a5, a6, rfl⟩ := aA0 f7.names;obtain ⟨a7, a8, rfl⟩ := aA0 f7.vals;obtain ⟨a9, b0, rfl⟩ := aA0 f7.flds;obtain ⟨bC, i8⟩ := exq (E1.heap.size);have p6 : Hid (aA2 i1 bC (kpR ((⟨o.p, o.xs, o.ys, o.st, o.fs, o.b, o.t, s.nx, s.sq⟩ : KpD), Value.slice a5 o.xs.length a6, Value.slice a7 o.ys.length a8, Value.slice a9 o.fs.length b0))) := by rw [i8]; exact aG5 (k := ⟨o.p, o.xs, o.ys, o.st, o.fs, o.b, o.t, s.nx, s.sq⟩) f7
   have e0 : Hid (∀ r ∈ aB4 (.slice l3 f2.length l4) (.slice l5 f3.length l6) (.slice oL kvo.length cL) (.slice oE s.bl.length pE) kvo f2 f3 s.bl, ∀ g, r.v.ownBlock = some g → g < bC) := fun r hr g hg => by rw [i8]; exact m9.out.lt hr hg
   have m1 : Hid (w.heap.size ≤ bC) := by rw [i8]; exact p4.hb.size
   clear f7 i8;have j1 := jw p4 bw;have n0 := hid (aA2.below m9.out bw);clear bw p4;have n5 : Hid (aA2 (i1) bC (kpR ((⟨o.p, o.xs, o.ys, o.st, o.fs, o.b, o.t, s.nx, s.sq⟩ : KpD), Value.slice a5 o.xs.length a6, Value.slice a7 o.ys.length a8, Value.slice a9 o.fs.length b0))) := p6.out;clear p6;have i9 := And.intro (jb j1 2 rfl) (jb j1 3 rfl);refine hK.out _ _ i9 (fun _ => ?_)
   clear hK K i7;refine tkP 8 (.agg #[.string o.p, .slice a5 o.xs.length a6, .slice a7 o.ys.length a8, .int .i64 o.st, .slice a9 o.fs.length b0, .string o.b, .int .i64 o.t, .int .i64 s.nx, .int .i64 s.sq]) 106 rfl rfl i9 ?_;go_frame;refine wpAnyH_ready (rs := [1, 9]) (by kernel_rfl) (by simp) ?_;refine AllReadyH.cons rfl (fun K hK => ?_) (AllReadyH.cons rfl (fun K hK => ?_) AllReadyH.nil)
   ·have p5 := c6c (jb j1 0 rfl);go_simp;refine hK.out _ _ i9 (fun _ => ?_)
    clear hK K p5;refine rd1 9 rfl (fun K hK => ?_)
    go_simp;have bw : Below i1.heap.size i1 (i1.alloc (.cells #[.string o.p, .slice a5 o.xs.length a6, .slice a7 o.ys.length a8, .int .i64 o.st, .slice a9 o.fs.length b0, .string o.b, .int .i64 o.t, .int .i64 s.nx, .int .i64 s.sq] 82)) := (Below.refl _ _).alloc (Nat.le_refl _) _;have j4 := And.intro (aA6 (jb j1 2 rfl) bw) (aA6 (jb j1 3 rfl) bw);refine hK.out _ _ j4 (fun _ => ?_)
    clear hK K j4 bw i9;obtain ⟨q5, g5⟩ := exq (i1.heap.size);obtain ⟨p7, e6⟩ := exq ((i1.alloc (.cells #[.string o.p, .slice a5 o.xs.length a6, .slice a7 o.ys.length a8, .int .i64 o.st, .slice a9 o.fs.length b0, .string o.b, .int .i64 o.t, .int .i64 s.nx, .int .i64 s.sq] 82)));rw [← g5, ← e6];have bw := bal e6;have d6 := ja j1 e6 g5.symm;have f8 := hid (aA2.below n0.out bw);have j5 := hid (aA2.below n5.out bw);have o7 := And.intro (jb d6 3 rfl) (jb d6 4 rfl);clear bw e6 g5 j1;refine rd1 10 rfl (fun K hK => ?_)
    have b7 : p7.ownsRow w.heap.size 82 9 (.slice oL kvo.length cL) kvo.length (kvo.flatMap kpC) := f8.out.own (aH2 (.slice oL kvo.length cL) kvo) (by simp [aB4, aC9]);have j6 : kvo.length + 1 ≤ maxLen := by unfold maxLen; omega
    have j7 : (kvo.length + 1) * 136 ≤ 140737488355328 := by omega
    have e7 := d6.hb;refine step_append_lies p7 (by rfl) _ _ 40 (by rfl) w.heap.size 82 i0 (.agg #[.string ⟨#[]⟩, .slice none 0 0, .slice none 0 0, .int .i64 0, .slice none 0 0, .string ⟨#[]⟩, .int .i64 0, .int .i64 0, .int .i64 0]) 9 136 underlying40 hi t2 q7 q8 rfl (by decide) _ _ _ (by rfl) b7 ⟨q5, 0, none⟩ 1 1 [.string o.p, .slice a5 o.xs.length a6, .slice a7 o.ys.length a8, .int .i64 o.st, .slice a9 o.fs.length b0, .string o.b, .int .i64 o.t, .int .i64 s.nx, .int .i64 s.sq] (by rfl) rfl (World.news_of_block (jb d6 0 rfl)) (by intro u hu; simp only [List.mem_cons, List.not_mem_nil, or_false] at hu; rcases hu with rfl | rfl | rfl | rfl | rfl | rfl | rfl | rfl | rfl <;> rfl) (by decide) j6 j7 e7.size _ rfl ?_;intro gL b9 n6 b4 a0 d4 g6;have j8 : Bw w (n6) := e7.grown a0 e7.size (fun g hg => aB7 b7 hg)
    have x2 := hid a0.size
    have HV : ∀ g, (Value.slice (some ⟨gL, 0, none⟩) (kvo.length + 1) b9).ownBlock = some g → (Value.slice oL kvo.length cL).ownBlock = some g ∨ p7.heap.size ≤ g := by
     intro g hg
     have e : some gL = some g := hg
     cases e
     rcases d4 with h | h
     ·exact .inl h
     ·exact .inr (by omega)
    have d5 : Hid (aA2 n6 w.heap.size (aB4 (.slice l3 f2.length l4) (.slice l5 f3.length l6) (.slice (some ⟨gL, 0, none⟩) (kvo.length + 1) b9) (.slice oE s.bl.length pE) (kvo ++ [((⟨o.p, o.xs, o.ys, o.st, o.fs, o.b, o.t, s.nx, s.sq⟩ : KpD), Value.slice a5 o.xs.length a6, Value.slice a7 o.ys.length a8, Value.slice a9 o.fs.length b0)]) f2 f3 s.bl)) := aJ2 f8.out j5.out e0.out m1.out a0 b4 HV;have j9 : Hid (aA2 (n6) w.heap.size (aB4 (.slice l3 f2.length l4) (.slice l5 f3.length l6) (.slice (some ⟨gL, 0, none⟩) (kvo.length + 1) b9) (.slice oE s.bl.length pE) (kvo ++ [((⟨o.p, o.xs, o.ys, o.st, o.fs, o.b, o.t, s.nx, s.sq⟩ : KpD), Value.slice a5 o.xs.length a6, Value.slice a7 o.ys.length a8, Value.slice a9 o.fs.length b0)]) f2 f3 s.bl)) := d5.out;have i2 := jz d6 j8 (jzx (jzb (jgB a0 b7 (jb d6 1 rfl)) (jzb (jgB a0 b7 (jb d6 2 rfl)) (jzb (jgB a0 b7 (jb d6 3 rfl)) (jzb (jgB a0 b7 (jb d6 4 rfl)) (jzn _))))));clear d5 HV b7 j6 j7 b4 a0 d4 g6 e0 m1 e7 d6;simp only [Act.put, List.setIfInBounds_toArray]
    have g7 := And.intro (jb i2 2 rfl) (jb i2 3 rfl);refine hK.out _ _ g7 (fun _ => ?_)
    clear hK K o7;refine tkP 11 (.pointer (some ⟨q4, 2, none⟩)) 109 rfl rfl g7 ?_;simp only [Act.put]
    refine rd1 12 rfl (fun K hK => ?_)
    have p8 := c6f (jb i2 0 rfl);obtain ⟨r7, hY⟩ := exq ((n6.setCell ⟨q4, 2, none⟩ (.slice (some ⟨gL, 0, none⟩) (kvo.length + 1) b9)));have HY := hsy hY;have k0 := jss i2 0 [(2, _)] hY;have k1 := hid (jrs [(2, _)] j9.out hY (jb i2 0 rfl) (aC4 (by decide) (by decide) (by decide) (by decide) (by decide)));clear hY j8 i2;go_simp;rw [HY.out];have k2 := And.intro (jb k0 2 rfl) (jb k0 3 rfl);refine hK.out _ _ k2 (fun _ => ?_)
    clear hK K HY g7 p8;clear k2;refine wdn ?_;have l8 := c6c (jb k0 3 rfl);go_wp2_with fail
    refine (aW3 s.nx _ t4.out.1 t4.out.2).mono ?_;rintro e r8 ⟨rfl, r9⟩;have bw : Below r7.heap.size (r7) r8 := by rw [r9]; exact Below.refl _ _
    clear r9;obtain ⟨na, p9⟩ := exq (aN5 s.nx);rw [← p9];have x3 := hid p9;clear p9;have n7 := jw k0 bw;have k3 := hid (aA2.below k1.out bw);clear bw k0;clear l8;have l9 := c6f (jb n7 0 rfl);go_upto_region 16 with fail
    obtain ⟨x4, e8⟩ := exq (r8.setCell ⟨q4, 4, none⟩ (.int .i64 na));rw [← e8];have k4 := js n7 0 e8;have k5 := erS e8 k3 (jb n7 0 rfl) (aC4 (by decide) (by decide) (by decide) (by decide) (by decide));clear e8 n7;clear l9;have h3 := c6c (jb k4 3 rfl);have m0 := c6f (jb k4 0 rfl);go_upto_region 17 with fail
    obtain ⟨x5, e9⟩ := exq (x4.setCell ⟨q4, 5, none⟩ (.int .i64 (s.sq + 1)));rw [← e9];have k6 := js k4 0 e9;have k7 := erS e9 k5 (jb k4 0 rfl) (aC4 (by decide) (by decide) (by decide) (by decide) (by decide));clear e9 k4;clear h3 m0;have l7 := c6f (jb k6 1 rfl);have o6 := c6c (jb k6 0 rfl);go_wp2_with fail
    obtain ⟨E2, f0⟩ := exq ((((((x5.setCell ⟨q3, 0, none⟩ (.slice l3 f2.length l4)).setCell ⟨q3, 1, none⟩ (.slice l5 f3.length l6)).setCell ⟨q3, 2, none⟩ (.slice (some ⟨gL, 0, none⟩) (kvo.length + 1) b9)).setCell ⟨q3, 3, none⟩ (.slice oE s.bl.length pE)).setCell ⟨q3, 4, none⟩ (.int .i64 na)).setCell ⟨q3, 5, none⟩ (.int .i64 (s.sq + 1)));rw [← f0];have s0 := jss k6 1 [(0, _), (1, _), (2, _), (3, _), (4, _), (5, _)] f0;have k8 := hid (jrs [(0, _), (1, _), (2, _), (3, _), (4, _), (5, _)] k7.out f0 (jb k6 1 rfl) (aC4 (by decide) (by decide) (by decide) (by decide) (by decide)));clear f0 k6;have b6 := c6c (jb s0 1 rfl);refine bodyPost_ret (v := .tuple #[.agg #[.slice l3 f2.length l4, .slice l5 f3.length l6, .slice (some ⟨gL, 0, none⟩) (kvo.length + 1) b9, .slice oE s.bl.length pE, .int .i64 na, .int .i64 (s.sq + 1)], .bool true]) (by simp [results, results8, go_sem, b6]) rfl ?_;refine .inr ⟨⟨f2, f3, s.ks.filter (fun k => decide (aT0 s o k)) ++ [⟨o.p, o.xs, o.ys, o.st, o.fs, o.b, o.t, s.nx, s.sq⟩], s.bl, na, s.sq + 1⟩, true, _, _, _, _, kvo ++ [((⟨o.p, o.xs, o.ys, o.st, o.fs, o.b, o.t, s.nx, s.sq⟩ : KpD), Value.slice a5 o.xs.length a6, Value.slice a7 o.ys.length a8, Value.slice a9 o.fs.length b0)], h1.out, .inr ⟨rfl, ⟨h2.out, s6.out, v8.out, ?_⟩, ?_⟩, rfl, ⟨?_, ?_⟩, s0.hb⟩
    ·rw [← r5.out.1 h2.out, ← s4.out]; exact v9.out
    ·refine ⟨?_, ?_, rfl, x3.out, rfl⟩
     ·rw [← r5.out.1 h2.out, ← s4.out]; exact C0.out
     show _ ++ _ = _ ++ _
     congr
    ·have hl : (kvo ++ [((⟨o.p, o.xs, o.ys, o.st, o.fs, o.b, o.t, s.nx, s.sq⟩ : KpD), Value.slice a5 o.xs.length a6, Value.slice a7 o.ys.length a8, Value.slice a9 o.fs.length b0)]).length = kvo.length + 1 := by simp
     exact k8.out
    rw [List.map_append, f6.out];rfl
   go_simp;have bw : Below i1.heap.size i1 (i1.alloc (.cells #[.string o.p, .slice a5 o.xs.length a6, .slice a7 o.ys.length a8, .int .i64 o.st, .slice a9 o.fs.length b0, .string o.b, .int .i64 o.t, .int .i64 s.nx, .int .i64 s.sq] 82)) := (Below.refl _ _).alloc (Nat.le_refl _) _;have j4 := And.intro (aA6 (jb j1 2 rfl) bw) (aA6 (jb j1 3 rfl) bw);refine hK.out _ _ j4 (fun _ => ?_)
   clear hK K j4 bw i9;obtain ⟨q5, g5⟩ := exq (i1.heap.size);obtain ⟨p7, e6⟩ := exq ((i1.alloc (.cells #[.string o.p, .slice a5 o.xs.length a6, .slice a7 o.ys.length a8, .int .i64 o.st, .slice a9 o.fs.length b0, .string o.b, .int .i64 o.t, .int .i64 s.nx, .int .i64 s.sq] 82)));rw [← g5, ← e6];have bw := bal e6;have d6 := ja j1 e6 g5.symm;have f8 := hid (aA2.below n0.out bw);have j5 := hid (aA2.below n5.out bw);have o7 := And.intro (jb d6 3 rfl) (jb d6 4 rfl);clear bw e6 g5 j1;refine rd1 1 rfl (fun K hK => ?_)
   have p5 := c6c (jb d6 1 rfl);go_simp;refine hK.out _ _ o7 (fun _ => ?_)
   clear hK K p5;refine rd1 10 rfl (fun K hK => ?_)
   have b7 : p7.ownsRow w.heap.size 82 9 (.slice oL kvo.length cL) kvo.length (kvo.flatMap kpC) := f8.out.own (aH2 (.slice oL kvo.length cL) kvo) (by simp [aB4, aC9]);have j6 : kvo.length + 1 ≤ maxLen := by unfold maxLen; omega
   have j7 : (kvo.length + 1) * 136 ≤ 140737488355328 := by omega
   have e7 := d6.hb;refine step_append_lies p7 (by rfl) _ _ 40 (by rfl) w.heap.size 82 i0 (.agg #[.string ⟨#[]⟩, .slice none 0 0, .slice none 0 0, .int .i64 0, .slice none 0 0, .string ⟨#[]⟩, .int .i64 0, .int .i64 0, .int .i64 0]) 9 136 underlying40 hi t2 q7 q8 rfl (by decide) _ _ _ (by rfl) b7 ⟨q5, 0, none⟩ 1 1 [.string o.p, .slice a5 o.xs.length a6, .slice a7 o.ys.length a8, .int .i64 o.st, .slice a9 o.fs.length b0, .string o.b, .int .i64 o.t, .int .i64 s.nx, .int .i64 s.sq] (by rfl) rfl (World.news_of_block (jb d6 0 rfl)) (by intro u hu; simp only [List.mem_cons, List.not_mem_nil, or_false] at hu; rcases hu with rfl | rfl | rfl | rfl | rfl | rfl | rfl | rfl | rfl <;> rfl) (by decide) j6 j7 e7.size _ rfl ?_;intro gL b9 n6 b4 a0 d4 g6;have j8 : Bw w (n6) := e7.grown a0 e7.size (fun g hg => aB7 b7 hg)
   have x2 := hid a0.size
   have HV : ∀ g, (Value.slice (some ⟨gL, 0, none⟩) (kvo.length + 1) b9).ownBlock = some g → (Value.slice oL kvo.length cL).ownBlock = some g ∨ p7.heap.size ≤ g := by
    intro g hg
    have e : some gL = some g := hg
    cases e
    rcases d4 with h | h
    ·exact .inl h
    ·exact .inr (by omega)
   have d5 : Hid (aA2 n6 w.heap.size (aB4 (.slice l3 f2.length l4) (.slice l5 f3.length l6) (.slice (some ⟨gL, 0, none⟩) (kvo.length + 1) b9) (.slice oE s.bl.length pE) (kvo ++ [((⟨o.p, o.xs, o.ys, o.st, o.fs, o.b, o.t, s.nx, s.sq⟩ : KpD), Value.slice a5 o.xs.length a6, Value.slice a7 o.ys.length a8, Value.slice a9 o.fs.length b0)]) f2 f3 s.bl)) := aJ2 f8.out j5.out e0.out m1.out a0 b4 HV;have j9 : Hid (aA2 (n6) w.heap.size (aB4 (.slice l3 f2.length l4) (.slice l5 f3.length l6) (.slice (some ⟨gL, 0, none⟩) (kvo.length + 1) b9) (.slice oE s.bl.length pE) (kvo ++ [((⟨o.p, o.xs, o.ys, o.st, o.fs, o.b, o.t, s.nx, s.sq⟩ : KpD), Value.slice a5 o.xs.length a6, Value.slice a7 o.ys.length a8, Value.slice a9 o.fs.length b0)]) f2 f3 s.bl)) := d5.out;have i2 := jz d6 j8 (jzx (jzb (jgB a0 b7 (jb d6 1 rfl)) (jzb (jgB a0 b7 (jb d6 2 rfl)) (jzb (jgB a0 b7 (jb d6 3 rfl)) (jzb (jgB a0 b7 (jb d6 4 rfl)) (jzn _))))));clear d5 HV b7 j6 j7 b4 a0 d4 g6 e0 m1 e7 d6;simp only [Act.put, List.setIfInBounds_toArray]
   have g7 := And.intro (jb i2 2 rfl) (jb i2 3 rfl);refine hK.out _ _ g7 (fun _ => ?_)
   clear hK K o7;refine tkP 11 (.pointer (some ⟨q4, 2, none⟩)) 109 rfl rfl g7 ?_;simp only [Act.put]
   refine rd1 12 rfl (fun K hK => ?_)
   have p8 := c6f (jb i2 0 rfl);obtain ⟨r7, hY⟩ := exq ((n6.setCell ⟨q4, 2, none⟩ (.slice (some ⟨gL, 0, none⟩) (kvo.length + 1) b9)));have HY := hsy hY;have k0 := jss i2 0 [(2, _)] hY;have k1 := hid (jrs [(2, _)] j9.out hY (jb i2 0 rfl) (aC4 (by decide) (by decide) (by decide) (by decide) (by decide)));clear hY j8 i2;go_simp;rw [HY.out];have k2 := And.intro (jb k0 2 rfl) (jb k0 3 rfl);refine hK.out _ _ k2 (fun _ => ?_)
   clear hK K HY g7 p8;clear k2;refine wdn ?_;have l8 := c6c (jb k0 3 rfl);go_wp2_with fail
   refine (aW3 s.nx _ t4.out.1 t4.out.2).mono ?_;rintro e r8 ⟨rfl, r9⟩;have bw : Below r7.heap.size (r7) r8 := by rw [r9]; exact Below.refl _ _
   clear r9;obtain ⟨na, p9⟩ := exq (aN5 s.nx);rw [← p9];have x3 := hid p9;clear p9;have n7 := jw k0 bw;have k3 := hid (aA2.below k1.out bw);clear bw k0;clear l8;have l9 := c6f (jb n7 0 rfl);go_upto_region 16 with fail
   obtain ⟨x4, e8⟩ := exq (r8.setCell ⟨q4, 4, none⟩ (.int .i64 na));rw [← e8];have k4 := js n7 0 e8;have k5 := erS e8 k3 (jb n7 0 rfl) (aC4 (by decide) (by decide) (by decide) (by decide) (by decide));clear e8 n7;clear l9;have h3 := c6c (jb k4 3 rfl);have m0 := c6f (jb k4 0 rfl);go_upto_region 17 with fail
   obtain ⟨x5, e9⟩ := exq (x4.setCell ⟨q4, 5, none⟩ (.int .i64 (s.sq + 1)));rw [← e9];have k6 := js k4 0 e9;have k7 := erS e9 k5 (jb k4 0 rfl) (aC4 (by decide) (by decide) (by decide) (by decide) (by decide));clear e9 k4;clear h3 m0;have l7 := c6f (jb k6 1 rfl);have o6 := c6c (jb k6 0 rfl);go_wp2_with fail
   obtain ⟨E2, f0⟩ := exq ((((((x5.setCell ⟨q3, 0, none⟩ (.slice l3 f2.length l4)).setCell ⟨q3, 1, none⟩ (.slice l5 f3.length l6)).setCell ⟨q3, 2, none⟩ (.slice (some ⟨gL, 0, none⟩) (kvo.length + 1) b9)).setCell ⟨q3, 3, none⟩ (.slice oE s.bl.length pE)).setCell ⟨q3, 4, none⟩ (.int .i64 na)).setCell ⟨q3, 5, none⟩ (.int .i64 (s.sq + 1)));rw [← f0];have s0 := jss k6 1 [(0, _), (1, _), (2, _), (3, _), (4, _), (5, _)] f0;have k8 := hid (jrs [(0, _), (1, _), (2, _), (3, _), (4, _), (5, _)] k7.out f0 (jb k6 1 rfl) (aC4 (by decide) (by decide) (by decide) (by decide) (by decide)));clear f0 k6;have b6 := c6c (jb s0 1 rfl);refine bodyPost_ret (v := .tuple #[.agg #[.slice l3 f2.length l4, .slice l5 f3.length l6, .slice (some ⟨gL, 0, none⟩) (kvo.length + 1) b9, .slice oE s.bl.length pE, .int .i64 na, .int .i64 (s.sq + 1)], .bool true]) (by simp [results, results8, go_sem, b6]) rfl ?_;refine .inr ⟨⟨f2, f3, s.ks.filter (fun k => decide (aT0 s o k)) ++ [⟨o.p, o.xs, o.ys, o.st, o.fs, o.b, o.t, s.nx, s.sq⟩], s.bl, na, s.sq + 1⟩, true, _, _, _, _, kvo ++ [((⟨o.p, o.xs, o.ys, o.st, o.fs, o.b, o.t, s.nx, s.sq⟩ : KpD), Value.slice a5 o.xs.length a6, Value.slice a7 o.ys.length a8, Value.slice a9 o.fs.length b0)], h1.out, .inr ⟨rfl, ⟨h2.out, s6.out, v8.out, ?_⟩, ?_⟩, rfl, ⟨?_, ?_⟩, s0.hb⟩
   ·rw [← r5.out.1 h2.out, ← s4.out]; exact v9.out
   ·refine ⟨?_, ?_, rfl, x3.out, rfl⟩
    ·rw [← r5.out.1 h2.out, ← s4.out]; exact C0.out
    show _ ++ _ = _ ++ _
    congr
   ·have hl : (kvo ++ [((⟨o.p, o.xs, o.ys, o.st, o.fs, o.b, o.t, s.nx, s.sq⟩ : KpD), Value.slice a5 o.xs.length a6, Value.slice a7 o.ys.length a8, Value.slice a9 o.fs.length b0)]).length = kvo.length + 1 := by simp
    exact k8.out
   rw [List.map_append, f6.out];rfl
  have g0 := HW.out.1;have g2 := hid HW.out.2.1;have m5 := hid HW.out.2.2.1;have p2 := hid HW.out.2.2.2.1;have m6 := hid HW.out.2.2.2.2.1;have m7 : Hid (aA2 (wr) w.heap.size (aB4 (.slice oC s.cs.length pC) (.slice oP s.ws.length pP) (.slice oL kvo.length cL) (.slice oE s.bl.length pE) kvo s.cs s.ws s.bl)) := HW.out.2.2.2.2.2;clear HW;obtain ⟨g3, p3, hV, _, _⟩ := (r4.out _ g0).look j (by rw [p0.out]; omega);rw [p0.out] at hV;injection hV with hV1 hV2 hV3
  subst hV1 hV3;clear hV2;obtain ⟨xX, x6⟩ := exq (kvAt kv j);have o8 : Hid (xX ∈ kv) := by show _ ∈ _; rw [x6]; exact aQ8 kv j (by rw [p0.out]; omega)
  have x7 : Hid (kpAt s.ks j = xX.1) := by show _ = _; rw [x6, ← m3.out]; exact (aL6 kv j (by rw [p0.out]; omega)).symm
  have E6 : Hid (kv.take (j + 1) = kv.take j ++ [xX]) := by show _ = _; rw [x6]; exact aN6 kv j (by rw [p0.out]; omega)
  have E7 : Hid (∀ W, Bw w W → KpAt W g3 j xX) := fun W hb => by
   obtain ⟨g', p', hV, _, hc⟩ := (r4.out W hb).look j (by rw [p0.out]; omega)
   injection hV with hV1 _ _
   cases hV1
   rw [x6]
   exact hc
  clear x6;obtain ⟨x, C9, D0, D1⟩ := xX;obtain ⟨t5, t6, hu⟩ := aA0 ((r4.out _ g0).names o8.out);have x8 : C9 = .slice t5 x.xs.length t6 := hu;subst x8;clear hu;obtain ⟨t7, t8, hu⟩ := aA0 ((r4.out _ g0).vals o8.out);have x8 : D0 = .slice t7 x.ys.length t8 := hu;subst x8;clear hu;obtain ⟨t9, v0, hu⟩ := aA0 ((r4.out _ g0).flds o8.out);have x8 : D1 = .slice t9 x.fs.length v0 := hu;subst x8;clear hu;have F8 : ¬ n3 ≤ j := by omega
  have c9 : Hid (∀ W, Bw w W → (W.cell? ⟨g3, j * 9, none⟩ = some (.string x.p) ∧ W.cell? ⟨g3, j * 9 + 1, none⟩ = some (.slice t5 x.xs.length t6) ∧ W.cell? ⟨g3, j * 9 + 2, none⟩ = some (.slice t7 x.ys.length t8) ∧ W.cell? ⟨g3, j * 9 + 3, none⟩ = some (.int .i64 x.st) ∧ W.cell? ⟨g3, j * 9 + 4, none⟩ = some (.slice t9 x.fs.length v0) ∧ W.cell? ⟨g3, j * 9 + 5, none⟩ = some (.string x.b) ∧ W.cell? ⟨g3, j * 9 + 6, none⟩ = some (.int .i64 x.t) ∧ W.cell? ⟨g3, j * 9 + 7, none⟩ = some (.int .i64 x.a) ∧ W.cell? ⟨g3, j * 9 + 8, none⟩ = some (.int .i64 x.q))) := fun W hb => by
   have c := E7.out W hb
   exact ⟨c.c0, c.c1, c.c2, c.c3, c.c4, c.c5, c.c6, c.c7, c.c8⟩
  have t1 := c6c g2.out;go_upto_region 11 with fail
  clear t1;refine wp_region_held_drew (S := fun W => W.heap[q1]? = some (.cells #[.slice o1 s.cs.length c1, .slice o2 s.ws.length c2, .slice (some ⟨g3, 0, none⟩) n3 c3, .slice o4 s.bl.length c4, .int .i64 s.nx, .int .i64 s.sq] 43) ∧ (W.cell? ⟨g3, j * 9, none⟩ = some (.string x.p) ∧ W.cell? ⟨g3, j * 9 + 1, none⟩ = some (.slice t5 x.xs.length t6) ∧ W.cell? ⟨g3, j * 9 + 2, none⟩ = some (.slice t7 x.ys.length t8) ∧ W.cell? ⟨g3, j * 9 + 3, none⟩ = some (.int .i64 x.st) ∧ W.cell? ⟨g3, j * 9 + 4, none⟩ = some (.slice t9 x.fs.length v0) ∧ W.cell? ⟨g3, j * 9 + 5, none⟩ = some (.string x.b) ∧ W.cell? ⟨g3, j * 9 + 6, none⟩ = some (.int .i64 x.t) ∧ W.cell? ⟨g3, j * 9 + 7, none⟩ = some (.int .i64 x.a) ∧ W.cell? ⟨g3, j * 9 + 8, none⟩ = some (.int .i64 x.q)) ∧ W.heap[q2]? = some (.cells #[.string o.p, .slice a1 o.xs.length d1, .slice a2 o.ys.length d2, .int .i64 o.st, .slice a3 o.fs.length d3, .string o.b, .int .i64 o.t] 51)) (by kernel_rfl) ⟨g2.out, (by first | exact c9.out _ g0 | exact c9.out _ g0.drew), m5.out⟩ (fun _ => ?_)
  obtain ⟨B9, hX⟩ := exq wr.drew;have bw := bdr hX;rw [← hX];have i6 := hbt g0 bw;have j2 := hblk g2 bw;have j3 := hblk m5 bw;have m8 := hblk p2 bw;have b3 := hblk m6 bw;have h9 := hid (aA2.below m7.out bw);have b1 := And.intro j2.out (And.intro (c9.out _ i6) j3.out);clear g0 bw hX;have x1 := jz s9 i6 (jzb b3.out (jzb m8.out (jzb j3.out (jzb j2.out (jzn _)))));refine tkP 0 (.pointer (some ⟨q1, 2, none⟩)) 48 rfl rfl b1 ?_;go_frame;refine tkL 1 (.slice (some ⟨g3, 0, none⟩) n3 c3) 49 rfl rfl (Or.inl ⟨by rfl, by intro W hW; obtain ⟨b5, a4, f5⟩ := hW; have y2 := c6c b5; go_simp⟩) b1 ?_;go_frame;refine tkP 2 (.int .i64 (j : Int)) 50 rfl rfl b1 (tkP 3 (.pointer (some ⟨g3, j * 9, none⟩)) 51 rfl rfl b1 (tkP 4 (.pointer (some ⟨g3, j * 9 + 7, none⟩)) 52 rfl rfl b1 ?_));go_frame;refine tkL 5 (.int .i64 x.a) 53 rfl rfl (Or.inl ⟨by rfl, by intro W hW; obtain ⟨b5, a4, f5⟩ := hW; have y7 := a4.2.2.2.2.2.2.2.1; go_simp⟩) b1 ?_;go_frame;refine tkP 6 (.pointer (some ⟨q1, 4, none⟩)) 54 rfl rfl b1 ?_;go_frame;refine tkL 7 (.int .i64 s.nx) 55 rfl rfl (Or.inl ⟨by rfl, by intro W hW; obtain ⟨b5, a4, f5⟩ := hW; have y4 := c6c b5; go_simp⟩) b1 ?_;go_frame;by_cases hc3 : x.a = s.nx
  ·have D2 : ((x.a : Int) == (s.nx : Int)) = true := by simpa using hc3
   have D3 : ((x.a : Int) != (s.nx : Int)) = false := by simpa using hc3
   have x9 := hid hc3;have D4 := hid hc3;clear hc3;refine tkP 8 (.bool false) 56 rfl rfl b1 (tkP 9 (.bool false) 57 rfl rfl b1 (tkN 10 58 rfl rfl b1 ?_));go_frame;refine tkN 11 59 rfl rfl b1 (tkN 12 60 rfl rfl b1 (tkN 13 61 rfl rfl b1 ?_));go_frame;refine tkN 14 62 rfl rfl b1 (tkN 15 63 rfl rfl b1 (tkN 16 64 rfl rfl b1 ?_));go_frame;refine tkN 17 65 rfl rfl b1 (tkN 18 66 rfl rfl b1 (tkP 19 (.bool false) 67 rfl rfl b1 ?_));go_frame;clear b1;refine wdn ?_;have b2 := aK0 s.ks j (by rw [← m3.out, List.length_map, p0.out]; omega);rw [x7.out] at b2
   have f6 : Hid (kvo.map (·.1) = (s.ks.take (j + 1)).filter (fun k => decide (aT0 s o k))) := by
    show _ = _
    rw [b2, List.filter_append, t0.out, List.filter_cons_of_neg (by rw [decide_eq_true_iff]; exact fun h => h.1 x9.out)]
    simp
   clear b2;go_wp2_with fail
   go_roundw
   case rel => exact ⟨j + 1, kvo, oL, cL, by omega, by go_num, by omega, f6, ⟨i6, j2.out, j3.out, m8.out, b3.out, h9.out⟩⟩
   case measure => simp [intOf]; omega
  have D2 : ((x.a : Int) == (s.nx : Int)) = false := by simpa using hc3
  have D3 : ((x.a : Int) != (s.nx : Int)) = true := by simpa using hc3
  have x9 := hid hc3;have D4 := hid hc3;clear hc3;refine tkP 8 (.bool true) 56 rfl rfl b1 (tkP 9 (.bool true) 57 rfl rfl b1 (tkP 10 (.pointer (some ⟨q1, 2, none⟩)) 58 rfl rfl b1 ?_));go_frame;refine tkL 11 (.slice (some ⟨g3, 0, none⟩) n3 c3) 59 rfl rfl (Or.inl ⟨by rfl, by intro W hW; obtain ⟨b5, a4, f5⟩ := hW; have y2 := c6c b5; go_simp⟩) b1 ?_;go_frame;refine tkP 12 (.int .i64 (j : Int)) 60 rfl rfl b1 (tkP 13 (.pointer (some ⟨g3, j * 9, none⟩)) 61 rfl rfl b1 (tkP 14 (.pointer (some ⟨g3, j * 9, none⟩)) 62 rfl rfl b1 ?_));go_frame;refine tkL 15 (.agg #[.string x.p, .slice t5 x.xs.length t6, .slice t7 x.ys.length t8, .int .i64 x.st, .slice t9 x.fs.length v0, .string x.b, .int .i64 x.t]) 63 rfl rfl (Or.inl ⟨by rfl, by intro W hW; obtain ⟨b5, a4, f5⟩ := hW; have y0 := a4.1; have y1 := a4.2.1; have y2 := a4.2.2.1; have y3 := a4.2.2.2.1; have y4 := a4.2.2.2.2.1; have y5 := a4.2.2.2.2.2.1; have y6 := a4.2.2.2.2.2.2.1; go_simp⟩) b1 ?_;go_frame;refine tkL 16 (.agg #[.string o.p, .slice a1 o.xs.length d1, .slice a2 o.ys.length d2, .int .i64 o.st, .slice a3 o.fs.length d3, .string o.b, .int .i64 o.t]) 64 rfl rfl (Or.inl ⟨by rfl, by intro W hW; obtain ⟨b5, a4, f5⟩ := hW; have y0 := c7c f5; go_simp⟩) b1 ?_;go_frame;refine rd1 17 rfl (fun K hK => ?_)
  go_simp;refine (cN0 x o _ _ _ _ _ _ _ ((r4.out _ i6).read o8.out) (HZ.out.kv m3.out o8.out) (t3.out _ i6)).mono ?_;rintro e z6 ⟨E8, rfl, r3, bw⟩;have h6 := jw x1 bw;have h7 := hid (aA2.below h9.out bw);clear i6 bw x1;have m2 := And.intro (jb h6 3 rfl) (And.intro (c9.out _ h6.hb) (jb h6 2 rfl));refine hK.out _ _ m2 (fun _ => ?_)
  clear hK K b1;cases E8
  rotate_left
  ·have y9 : Hid (bA1 x o) := r3.1 rfl;clear r3;refine tkP 18 (.bool false) 66 rfl rfl m2 (tkP 19 (.bool false) 67 rfl rfl m2 ?_);go_frame;clear m2;refine wdn ?_;have b2 := aK0 s.ks j (by rw [← m3.out, List.length_map, p0.out]; omega);rw [x7.out] at b2
   have f6 : Hid (kvo.map (·.1) = (s.ks.take (j + 1)).filter (fun k => decide (aT0 s o k))) := by
    show _ = _
    rw [b2, List.filter_append, t0.out, List.filter_cons_of_neg (by rw [decide_eq_true_iff]; exact fun h => h.2 y9.out)]
    simp
   clear b2;go_wp2_with fail
   go_roundw
   case rel => exact ⟨j + 1, kvo, oL, cL, by omega, by go_num, by omega, f6, ⟨h6.hb, (jb h6 3 rfl), (jb h6 2 rfl), (jb h6 1 rfl), (jb h6 0 rfl), h7.out⟩⟩
   case measure => simp [intOf]; omega
  have q0 : Hid (¬ (bA1 x o)) := fun h => nomatch r3.2 h
  clear r3;refine tkP 18 (.bool true) 66 rfl rfl m2 (tkP 19 (.bool true) 67 rfl rfl m2 ?_);go_frame;clear m2;refine wdn ?_;go_upto_region 12 with fail
  refine wp_region_held_drew (S := fun W => W.heap[q1]? = some (.cells #[.slice o1 s.cs.length c1, .slice o2 s.ws.length c2, .slice (some ⟨g3, 0, none⟩) n3 c3, .slice o4 s.bl.length c4, .int .i64 s.nx, .int .i64 s.sq] 43) ∧ (W.cell? ⟨g3, j * 9, none⟩ = some (.string x.p) ∧ W.cell? ⟨g3, j * 9 + 1, none⟩ = some (.slice t5 x.xs.length t6) ∧ W.cell? ⟨g3, j * 9 + 2, none⟩ = some (.slice t7 x.ys.length t8) ∧ W.cell? ⟨g3, j * 9 + 3, none⟩ = some (.int .i64 x.st) ∧ W.cell? ⟨g3, j * 9 + 4, none⟩ = some (.slice t9 x.fs.length v0) ∧ W.cell? ⟨g3, j * 9 + 5, none⟩ = some (.string x.b) ∧ W.cell? ⟨g3, j * 9 + 6, none⟩ = some (.int .i64 x.t) ∧ W.cell? ⟨g3, j * 9 + 7, none⟩ = some (.int .i64 x.a) ∧ W.cell? ⟨g3, j * 9 + 8, none⟩ = some (.int .i64 x.q))) (by kernel_rfl) ⟨(jb h6 3 rfl), (by first | exact c9.out _ h6.hb | exact c9.out _ h6.hb.drew)⟩ (fun _ => ?_)
  obtain ⟨v7, hX⟩ := exq z6.drew;have bw := bdr hX;rw [← hX];have h8 := jw h6 bw;have d9 := hid (aA2.below h7.out bw);have b8 := And.intro (jb h8 3 rfl) (c9.out _ h8.hb);clear bw hX h6;refine tkP 0 (.pointer (some ⟨q4, 2, none⟩)) 68 rfl rfl b8 (tkP 2 (.pointer (some ⟨q1, 2, none⟩)) 70 rfl rfl b8 ?_);go_frame;refine tkL 3 (.slice (some ⟨g3, 0, none⟩) n3 c3) 71 rfl rfl (Or.inl ⟨by rfl, by intro W hW; obtain ⟨b5, a4⟩ := hW; have y2 := c6c b5; go_simp⟩) b8 ?_;go_frame;refine tkP 4 (.int .i64 (j : Int)) 72 rfl rfl b8 (tkP 5 (.pointer (some ⟨g3, j * 9, none⟩)) 73 rfl rfl b8 (tkP 6 (.pointer (some ⟨g3, j * 9, none⟩)) 74 rfl rfl b8 ?_));go_frame;refine tkL 7 (.agg #[.string x.p, .slice t5 x.xs.length t6, .slice t7 x.ys.length t8, .int .i64 x.st, .slice t9 x.fs.length v0, .string x.b, .int .i64 x.t]) 75 rfl rfl (Or.inl ⟨by rfl, by intro W hW; obtain ⟨b5, a4⟩ := hW; have y0 := a4.1; have y1 := a4.2.1; have y2 := a4.2.2.1; have y3 := a4.2.2.2.1; have y4 := a4.2.2.2.2.1; have y5 := a4.2.2.2.2.2.1; have y6 := a4.2.2.2.2.2.2.1; go_simp⟩) b8 ?_;go_frame;refine tkP 9 (.pointer (some ⟨q1, 2, none⟩)) 77 rfl rfl b8 ?_;go_frame;refine tkL 10 (.slice (some ⟨g3, 0, none⟩) n3 c3) 78 rfl rfl (Or.inl ⟨by rfl, by intro W hW; obtain ⟨b5, a4⟩ := hW; have y2 := c6c b5; go_simp⟩) b8 ?_;go_frame;refine tkP 11 (.int .i64 (j : Int)) 79 rfl rfl b8 (tkP 12 (.pointer (some ⟨g3, j * 9, none⟩)) 80 rfl rfl b8 (tkP 13 (.pointer (some ⟨g3, j * 9 + 7, none⟩)) 81 rfl rfl b8 ?_));go_frame;refine tkL 14 (.int .i64 x.a) 82 rfl rfl (Or.inl ⟨by rfl, by intro W hW; obtain ⟨b5, a4⟩ := hW; have y7 := a4.2.2.2.2.2.2.2.1; go_simp⟩) b8 ?_;go_frame;refine tkP 15 (.pointer (some ⟨q1, 2, none⟩)) 83 rfl rfl b8 ?_;go_frame;refine tkL 16 (.slice (some ⟨g3, 0, none⟩) n3 c3) 84 rfl rfl (Or.inl ⟨by rfl, by intro W hW; obtain ⟨b5, a4⟩ := hW; have y2 := c6c b5; go_simp⟩) b8 ?_
  go_frame;refine tkP 17 (.int .i64 (j : Int)) 85 rfl rfl b8 (tkP 18 (.pointer (some ⟨g3, j * 9, none⟩)) 86 rfl rfl b8 (tkP 19 (.pointer (some ⟨g3, j * 9 + 8, none⟩)) 87 rfl rfl b8 ?_));go_frame;refine tkL 20 (.int .i64 x.q) 88 rfl rfl (Or.inl ⟨by rfl, by intro W hW; obtain ⟨b5, a4⟩ := hW; have y8 := a4.2.2.2.2.2.2.2.2; go_simp⟩) b8 ?_;go_frame;refine wpAnyH_ready (rs := [1, 8]) (by kernel_rfl) (by simp) ?_;refine AllReadyH.cons rfl (fun K hK => ?_) (AllReadyH.cons rfl (fun K hK => ?_) AllReadyH.nil)
  ·have p5 := c6c (jb h8 0 rfl);go_simp;refine hK.out _ _ b8 (fun _ => ?_)
   clear hK K p5;refine rd1 8 rfl (fun K hK => ?_)
   go_simp;refine (aM8 x.p _ x.xs _ x.ys x.st _ x.fs x.b x.t _ _ _ B _ (aD7 ((r4.out _ h8.hb).obj o8.out)) (by have := (HZ.out.kv m3.out o8.out).2.1.1; dsimp only at this ⊢; omega) (by have := (HZ.out.kv m3.out o8.out).2.2.1.1; dsimp only at this ⊢; omega) (by have := (HZ.out.kv m3.out o8.out).2.2.2.1; dsimp only at this ⊢; omega)).mono ?_;rintro e i3 ⟨va, vb, vc, rfl, f7, bw⟩;dsimp only at f7 ⊢;obtain ⟨a5, a6, rfl⟩ := aA0 f7.names;obtain ⟨a7, a8, rfl⟩ := aA0 f7.vals;obtain ⟨a9, b0, rfl⟩ := aA0 f7.flds;obtain ⟨bC, i8⟩ := exq (v7.heap.size);have p6 : Hid (aA2 i3 bC (kpR (x, Value.slice a5 x.xs.length a6, Value.slice a7 x.ys.length a8, Value.slice a9 x.fs.length b0))) := by rw [i8]; exact aG5 f7
   have e0 : Hid (∀ r ∈ aB4 (.slice oC s.cs.length pC) (.slice oP s.ws.length pP) (.slice oL kvo.length cL) (.slice oE s.bl.length pE) kvo s.cs s.ws s.bl, ∀ g, r.v.ownBlock = some g → g < bC) := fun r hr g hg => by rw [i8]; exact d9.out.lt hr hg
   have m1 : Hid (w.heap.size ≤ bC) := by rw [i8]; exact h8.hb.size
   clear f7 i8;have h4 := jw h8 bw;have n8 := hid (aA2.below d9.out bw);clear bw h8;have n9 : Hid (aA2 (i3) bC (kpR (x, Value.slice a5 x.xs.length a6, Value.slice a7 x.ys.length a8, Value.slice a9 x.fs.length b0))) := p6.out;clear p6;have j0 := And.intro (jb h4 3 rfl) (c9.out _ h4.hb);refine hK.out _ _ j0 (fun _ => ?_)
   clear hK K b8;refine tkP 21 (.agg #[.string x.p, .slice a5 x.xs.length a6, .slice a7 x.ys.length a8, .int .i64 x.st, .slice a9 x.fs.length b0, .string x.b, .int .i64 x.t, .int .i64 x.a, .int .i64 x.q]) 89 rfl rfl j0 ?_;go_frame;refine rd1 22 rfl (fun K hK => ?_)
   go_simp;have bw : Below i3.heap.size i3 (i3.alloc (.cells #[.string x.p, .slice a5 x.xs.length a6, .slice a7 x.ys.length a8, .int .i64 x.st, .slice a9 x.fs.length b0, .string x.b, .int .i64 x.t, .int .i64 x.a, .int .i64 x.q] 82)) := (Below.refl _ _).alloc (Nat.le_refl _) _;have j4 := And.intro (aA6 (jb h4 3 rfl) bw) (c9.out _ (h4.hb.trans (bw.mono h4.hb.size)));refine hK.out _ _ j4 (fun _ => ?_)
   clear hK K j4 bw j0;obtain ⟨q5, g5⟩ := exq (i3.heap.size);obtain ⟨q6, e6⟩ := exq ((i3.alloc (.cells #[.string x.p, .slice a5 x.xs.length a6, .slice a7 x.ys.length a8, .int .i64 x.st, .slice a9 x.fs.length b0, .string x.b, .int .i64 x.t, .int .i64 x.a, .int .i64 x.q] 82)));rw [← g5, ← e6];have bw := bal e6;have d7 := ja h4 e6 g5.symm;have f9 := hid (aA2.below n8.out bw);have k9 := hid (aA2.below n9.out bw);have o9 := And.intro (jb d7 4 rfl) (c9.out _ d7.hb);clear bw e6 g5 h4;refine rd1 23 rfl (fun K hK => ?_)
   have b7 : q6.ownsRow w.heap.size 82 9 (.slice oL kvo.length cL) kvo.length (kvo.flatMap kpC) := f9.out.own (aH2 (.slice oL kvo.length cL) kvo) (by simp [aB4, aC9]);have j6 : kvo.length + 1 ≤ maxLen := by unfold maxLen; omega
   have j7 : (kvo.length + 1) * 136 ≤ 140737488355328 := by omega
   have f1 := d7.hb;refine step_append_lies q6 (by rfl) _ _ 40 (by rfl) w.heap.size 82 i0 (.agg #[.string ⟨#[]⟩, .slice none 0 0, .slice none 0 0, .int .i64 0, .slice none 0 0, .string ⟨#[]⟩, .int .i64 0, .int .i64 0, .int .i64 0]) 9 136 underlying40 hi t2 q7 q8 rfl (by decide) _ _ _ (by rfl) b7 ⟨q5, 0, none⟩ 1 1 [.string x.p, .slice a5 x.xs.length a6, .slice a7 x.ys.length a8, .int .i64 x.st, .slice a9 x.fs.length b0, .string x.b, .int .i64 x.t, .int .i64 x.a, .int .i64 x.q] (by rfl) rfl (World.news_of_block (jb d7 0 rfl)) (by intro u hu; simp only [List.mem_cons, List.not_mem_nil, or_false] at hu; rcases hu with rfl | rfl | rfl | rfl | rfl | rfl | rfl | rfl | rfl <;> rfl) (by decide) j6 j7 f1.size _ rfl ?_;intro gL b9 o0 b4 a0 d4 g6;have g8 : Bw w (o0) := f1.grown a0 f1.size (fun g hg => aB7 b7 hg)
   have z0 := hid a0.size
   have HV : ∀ g, (Value.slice (some ⟨gL, 0, none⟩) (kvo.length + 1) b9).ownBlock = some g → (Value.slice oL kvo.length cL).ownBlock = some g ∨ q6.heap.size ≤ g := by
    intro g hg
    have e : some gL = some g := hg
    cases e
    rcases d4 with h | h
    ·exact .inl h
    ·exact .inr (by omega)
   have d5 : Hid (aA2 o0 w.heap.size (aB4 (.slice oC s.cs.length pC) (.slice oP s.ws.length pP) (.slice (some ⟨gL, 0, none⟩) (kvo.length + 1) b9) (.slice oE s.bl.length pE) (kvo ++ [(x, Value.slice a5 x.xs.length a6, Value.slice a7 x.ys.length a8, Value.slice a9 x.fs.length b0)]) s.cs s.ws s.bl)) := aJ2 f9.out k9.out e0.out m1.out a0 b4 HV;have l0 : Hid (aA2 (o0) w.heap.size (aB4 (.slice oC s.cs.length pC) (.slice oP s.ws.length pP) (.slice (some ⟨gL, 0, none⟩) (kvo.length + 1) b9) (.slice oE s.bl.length pE) (kvo ++ [(x, Value.slice a5 x.xs.length a6, Value.slice a7 x.ys.length a8, Value.slice a9 x.fs.length b0)]) s.cs s.ws s.bl)) := d5.out;have l1 := jz d7 g8 (jzx (jzb (jgB a0 b7 (jb d7 1 rfl)) (jzb (jgB a0 b7 (jb d7 2 rfl)) (jzb (jgB a0 b7 (jb d7 3 rfl)) (jzb (jgB a0 b7 (jb d7 4 rfl)) (jzn _))))));clear d5 HV b7 j6 j7 b4 a0 d4 g6 e0 m1 f1 d7;simp only [Act.put, List.setIfInBounds_toArray]
   have g9 := And.intro (jb l1 3 rfl) (c9.out _ g8);refine hK.out _ _ g9 (fun _ => ?_)
   clear hK K o9;refine tkP 24 (.pointer (some ⟨q4, 2, none⟩)) 92 rfl rfl g9 ?_;simp only [Act.put]
   refine rd1 25 rfl (fun K hK => ?_)
   have p8 := c6f (jb l1 0 rfl);obtain ⟨h0, hY⟩ := exq ((o0.setCell ⟨q4, 2, none⟩ (.slice (some ⟨gL, 0, none⟩) (kvo.length + 1) b9)));have HY := hsy hY;have f4 := jss l1 0 [(2, _)] hY;have g4 := hid (jrs [(2, _)] l0.out hY (jb l1 0 rfl) (aC4 (by decide) (by decide) (by decide) (by decide) (by decide)));clear hY g8 l1;go_simp;rw [HY.out];have l2 := And.intro (jb f4 3 rfl) (c9.out _ f4.hb);refine hK.out _ _ l2 (fun _ => ?_)
   clear hK K HY g9 p8;clear l2;refine wdn ?_;have b2 := aK0 s.ks j (by rw [← m3.out, List.length_map, p0.out]; omega);rw [x7.out] at b2
   have f6 : Hid ((kvo ++ [(x, Value.slice a5 x.xs.length a6, Value.slice a7 x.ys.length a8, Value.slice a9 x.fs.length b0)]).map (·.1) = (s.ks.take (j + 1)).filter (fun k => decide (aT0 s o k))) := by
    show _ = _
    rw [b2, List.filter_append, List.map_append, t0.out, List.filter_cons_of_pos (by exact decide_eq_true ⟨x9.out, q0.out⟩)]
    rfl
   clear b2;have s1 : Hid ((kvo ++ [(x, Value.slice a5 x.xs.length a6, Value.slice a7 x.ys.length a8, Value.slice a9 x.fs.length b0)]).length = kvo.length + 1) := by show _ = _; simp
   have z1 : Hid (Bw w h0 ∧ h0.heap[q1]? = some (.cells #[.slice o1 s.cs.length c1, .slice o2 s.ws.length c2, .slice (some ⟨g3, 0, none⟩) n3 c3, .slice o4 s.bl.length c4, .int .i64 s.nx, .int .i64 s.sq] 43) ∧ h0.heap[q2]? = some (.cells #[.string o.p, .slice a1 o.xs.length d1, .slice a2 o.ys.length d2, .int .i64 o.st, .slice a3 o.fs.length d3, .string o.b, .int .i64 o.t] 51) ∧ h0.heap[q3]? = some (.cells #[.slice none 0 0, .slice none 0 0, .slice none 0 0, .slice none 0 0, .int .i64 0, .int .i64 0] 43) ∧ h0.heap[q4]? = some (.cells #[.slice oC s.cs.length pC, .slice oP s.ws.length pP, .slice (some ⟨gL, 0, none⟩) ((kvo ++ [(x, Value.slice a5 x.xs.length a6, Value.slice a7 x.ys.length a8, Value.slice a9 x.fs.length b0)]).length) b9, .slice oE s.bl.length pE, .int .i64 s.nx, .int .i64 s.sq] 43) ∧ aA2 h0 w.heap.size (aB4 (.slice oC s.cs.length pC) (.slice oP s.ws.length pP) (.slice (some ⟨gL, 0, none⟩) ((kvo ++ [(x, Value.slice a5 x.xs.length a6, Value.slice a7 x.ys.length a8, Value.slice a9 x.fs.length b0)]).length) b9) (.slice oE s.bl.length pE) (kvo ++ [(x, Value.slice a5 x.xs.length a6, Value.slice a7 x.ys.length a8, Value.slice a9 x.fs.length b0)]) s.cs s.ws s.bl)) := by rw [s1.out]; exact ⟨f4.hb, (jb f4 3 rfl), (jb f4 2 rfl), (jb f4 1 rfl), (jb f4 0 rfl), g4.out⟩
   go_wp2_with fail
   go_roundw
   case rel => exact ⟨j + 1, kvo ++ [(x, Value.slice a5 x.xs.length a6, Value.slice a7 x.ys.length a8, Value.slice a9 x.fs.length b0)], some ⟨gL, 0, none⟩, b9, by omega, by go_num, by rw [s1.out]; omega, f6, z1⟩
   case measure => simp [intOf]; omega
  go_simp;refine (aM8 x.p _ x.xs _ x.ys x.st _ x.fs x.b x.t _ _ _ B _ (aD7 ((r4.out _ h8.hb).obj o8.out)) (by have := (HZ.out.kv m3.out o8.out).2.1.1; dsimp only at this ⊢; omega) (by have := (HZ.out.kv m3.out o8.out).2.2.1.1; dsimp only at this ⊢; omega) (by have := (HZ.out.kv m3.out o8.out).2.2.2.1; dsimp only at this ⊢; omega)).mono ?_;rintro e i3 ⟨va, vb, vc, rfl, f7, bw⟩;dsimp only at f7 ⊢;obtain ⟨a5, a6, rfl⟩ := aA0 f7.names;obtain ⟨a7, a8, rfl⟩ := aA0 f7.vals;obtain ⟨a9, b0, rfl⟩ := aA0 f7.flds;obtain ⟨bC, i8⟩ := exq (v7.heap.size);have p6 : Hid (aA2 i3 bC (kpR (x, Value.slice a5 x.xs.length a6, Value.slice a7 x.ys.length a8, Value.slice a9 x.fs.length b0))) := by rw [i8]; exact aG5 f7
  have e0 : Hid (∀ r ∈ aB4 (.slice oC s.cs.length pC) (.slice oP s.ws.length pP) (.slice oL kvo.length cL) (.slice oE s.bl.length pE) kvo s.cs s.ws s.bl, ∀ g, r.v.ownBlock = some g → g < bC) := fun r hr g hg => by rw [i8]; exact d9.out.lt hr hg
  have m1 : Hid (w.heap.size ≤ bC) := by rw [i8]; exact h8.hb.size
  clear f7 i8;have h4 := jw h8 bw;have n8 := hid (aA2.below d9.out bw);clear bw h8;have n9 : Hid (aA2 (i3) bC (kpR (x, Value.slice a5 x.xs.length a6, Value.slice a7 x.ys.length a8, Value.slice a9 x.fs.length b0))) := p6.out;clear p6;have j0 := And.intro (jb h4 3 rfl) (c9.out _ h4.hb);refine hK.out _ _ j0 (fun _ => ?_)
  clear hK K b8;refine tkP 21 (.agg #[.string x.p, .slice a5 x.xs.length a6, .slice a7 x.ys.length a8, .int .i64 x.st, .slice a9 x.fs.length b0, .string x.b, .int .i64 x.t, .int .i64 x.a, .int .i64 x.q]) 89 rfl rfl j0 ?_;go_frame;refine wpAnyH_ready (rs := [1, 22]) (by kernel_rfl) (by simp) ?_;refine AllReadyH.cons rfl (fun K hK => ?_) (AllReadyH.cons rfl (fun K hK => ?_) AllReadyH.nil)
  ·have p5 := c6c (jb h4 0 rfl);go_simp;refine hK.out _ _ j0 (fun _ => ?_)
   clear hK K p5;refine rd1 22 rfl (fun K hK => ?_)
   go_simp;have bw : Below i3.heap.size i3 (i3.alloc (.cells #[.string x.p, .slice a5 x.xs.length a6, .slice a7 x.ys.length a8, .int .i64 x.st, .slice a9 x.fs.length b0, .string x.b, .int .i64 x.t, .int .i64 x.a, .int .i64 x.q] 82)) := (Below.refl _ _).alloc (Nat.le_refl _) _;have j4 := And.intro (aA6 (jb h4 3 rfl) bw) (c9.out _ (h4.hb.trans (bw.mono h4.hb.size)));refine hK.out _ _ j4 (fun _ => ?_)
   clear hK K j4 bw j0;obtain ⟨q5, g5⟩ := exq (i3.heap.size);obtain ⟨q6, e6⟩ := exq ((i3.alloc (.cells #[.string x.p, .slice a5 x.xs.length a6, .slice a7 x.ys.length a8, .int .i64 x.st, .slice a9 x.fs.length b0, .string x.b, .int .i64 x.t, .int .i64 x.a, .int .i64 x.q] 82)));rw [← g5, ← e6];have bw := bal e6;have d7 := ja h4 e6 g5.symm;have f9 := hid (aA2.below n8.out bw);have k9 := hid (aA2.below n9.out bw);have o9 := And.intro (jb d7 4 rfl) (c9.out _ d7.hb);clear bw e6 g5 h4;refine rd1 23 rfl (fun K hK => ?_)
   have b7 : q6.ownsRow w.heap.size 82 9 (.slice oL kvo.length cL) kvo.length (kvo.flatMap kpC) := f9.out.own (aH2 (.slice oL kvo.length cL) kvo) (by simp [aB4, aC9]);have j6 : kvo.length + 1 ≤ maxLen := by unfold maxLen; omega
   have j7 : (kvo.length + 1) * 136 ≤ 140737488355328 := by omega
   have f1 := d7.hb;refine step_append_lies q6 (by rfl) _ _ 40 (by rfl) w.heap.size 82 i0 (.agg #[.string ⟨#[]⟩, .slice none 0 0, .slice none 0 0, .int .i64 0, .slice none 0 0, .string ⟨#[]⟩, .int .i64 0, .int .i64 0, .int .i64 0]) 9 136 underlying40 hi t2 q7 q8 rfl (by decide) _ _ _ (by rfl) b7 ⟨q5, 0, none⟩ 1 1 [.string x.p, .slice a5 x.xs.length a6, .slice a7 x.ys.length a8, .int .i64 x.st, .slice a9 x.fs.length b0, .string x.b, .int .i64 x.t, .int .i64 x.a, .int .i64 x.q] (by rfl) rfl (World.news_of_block (jb d7 0 rfl)) (by intro u hu; simp only [List.mem_cons, List.not_mem_nil, or_false] at hu; rcases hu with rfl | rfl | rfl | rfl | rfl | rfl | rfl | rfl | rfl <;> rfl) (by decide) j6 j7 f1.size _ rfl ?_;intro gL b9 o0 b4 a0 d4 g6;have g8 : Bw w (o0) := f1.grown a0 f1.size (fun g hg => aB7 b7 hg)
   have z0 := hid a0.size
   have HV : ∀ g, (Value.slice (some ⟨gL, 0, none⟩) (kvo.length + 1) b9).ownBlock = some g → (Value.slice oL kvo.length cL).ownBlock = some g ∨ q6.heap.size ≤ g := by
    intro g hg
    have e : some gL = some g := hg
    cases e
    rcases d4 with h | h
    ·exact .inl h
    ·exact .inr (by omega)
   have d5 : Hid (aA2 o0 w.heap.size (aB4 (.slice oC s.cs.length pC) (.slice oP s.ws.length pP) (.slice (some ⟨gL, 0, none⟩) (kvo.length + 1) b9) (.slice oE s.bl.length pE) (kvo ++ [(x, Value.slice a5 x.xs.length a6, Value.slice a7 x.ys.length a8, Value.slice a9 x.fs.length b0)]) s.cs s.ws s.bl)) := aJ2 f9.out k9.out e0.out m1.out a0 b4 HV;have l0 : Hid (aA2 (o0) w.heap.size (aB4 (.slice oC s.cs.length pC) (.slice oP s.ws.length pP) (.slice (some ⟨gL, 0, none⟩) (kvo.length + 1) b9) (.slice oE s.bl.length pE) (kvo ++ [(x, Value.slice a5 x.xs.length a6, Value.slice a7 x.ys.length a8, Value.slice a9 x.fs.length b0)]) s.cs s.ws s.bl)) := d5.out;have l1 := jz d7 g8 (jzx (jzb (jgB a0 b7 (jb d7 1 rfl)) (jzb (jgB a0 b7 (jb d7 2 rfl)) (jzb (jgB a0 b7 (jb d7 3 rfl)) (jzb (jgB a0 b7 (jb d7 4 rfl)) (jzn _))))));clear d5 HV b7 j6 j7 b4 a0 d4 g6 e0 m1 f1 d7;simp only [Act.put, List.setIfInBounds_toArray]
   have g9 := And.intro (jb l1 3 rfl) (c9.out _ g8);refine hK.out _ _ g9 (fun _ => ?_)
   clear hK K o9;refine tkP 24 (.pointer (some ⟨q4, 2, none⟩)) 92 rfl rfl g9 ?_;simp only [Act.put]
   refine rd1 25 rfl (fun K hK => ?_)
   have p8 := c6f (jb l1 0 rfl);obtain ⟨h0, hY⟩ := exq ((o0.setCell ⟨q4, 2, none⟩ (.slice (some ⟨gL, 0, none⟩) (kvo.length + 1) b9)));have HY := hsy hY;have f4 := jss l1 0 [(2, _)] hY;have g4 := hid (jrs [(2, _)] l0.out hY (jb l1 0 rfl) (aC4 (by decide) (by decide) (by decide) (by decide) (by decide)));clear hY g8 l1;go_simp;rw [HY.out];have l2 := And.intro (jb f4 3 rfl) (c9.out _ f4.hb);refine hK.out _ _ l2 (fun _ => ?_)
   clear hK K HY g9 p8;clear l2;refine wdn ?_;have b2 := aK0 s.ks j (by rw [← m3.out, List.length_map, p0.out]; omega);rw [x7.out] at b2
   have f6 : Hid ((kvo ++ [(x, Value.slice a5 x.xs.length a6, Value.slice a7 x.ys.length a8, Value.slice a9 x.fs.length b0)]).map (·.1) = (s.ks.take (j + 1)).filter (fun k => decide (aT0 s o k))) := by
    show _ = _
    rw [b2, List.filter_append, List.map_append, t0.out, List.filter_cons_of_pos (by exact decide_eq_true ⟨x9.out, q0.out⟩)]
    rfl
   clear b2;have s1 : Hid ((kvo ++ [(x, Value.slice a5 x.xs.length a6, Value.slice a7 x.ys.length a8, Value.slice a9 x.fs.length b0)]).length = kvo.length + 1) := by show _ = _; simp
   have z1 : Hid (Bw w h0 ∧ h0.heap[q1]? = some (.cells #[.slice o1 s.cs.length c1, .slice o2 s.ws.length c2, .slice (some ⟨g3, 0, none⟩) n3 c3, .slice o4 s.bl.length c4, .int .i64 s.nx, .int .i64 s.sq] 43) ∧ h0.heap[q2]? = some (.cells #[.string o.p, .slice a1 o.xs.length d1, .slice a2 o.ys.length d2, .int .i64 o.st, .slice a3 o.fs.length d3, .string o.b, .int .i64 o.t] 51) ∧ h0.heap[q3]? = some (.cells #[.slice none 0 0, .slice none 0 0, .slice none 0 0, .slice none 0 0, .int .i64 0, .int .i64 0] 43) ∧ h0.heap[q4]? = some (.cells #[.slice oC s.cs.length pC, .slice oP s.ws.length pP, .slice (some ⟨gL, 0, none⟩) ((kvo ++ [(x, Value.slice a5 x.xs.length a6, Value.slice a7 x.ys.length a8, Value.slice a9 x.fs.length b0)]).length) b9, .slice oE s.bl.length pE, .int .i64 s.nx, .int .i64 s.sq] 43) ∧ aA2 h0 w.heap.size (aB4 (.slice oC s.cs.length pC) (.slice oP s.ws.length pP) (.slice (some ⟨gL, 0, none⟩) ((kvo ++ [(x, Value.slice a5 x.xs.length a6, Value.slice a7 x.ys.length a8, Value.slice a9 x.fs.length b0)]).length) b9) (.slice oE s.bl.length pE) (kvo ++ [(x, Value.slice a5 x.xs.length a6, Value.slice a7 x.ys.length a8, Value.slice a9 x.fs.length b0)]) s.cs s.ws s.bl)) := by rw [s1.out]; exact ⟨f4.hb, (jb f4 3 rfl), (jb f4 2 rfl), (jb f4 1 rfl), (jb f4 0 rfl), g4.out⟩
   go_wp2_with fail
   go_roundw
   case rel => exact ⟨j + 1, kvo ++ [(x, Value.slice a5 x.xs.length a6, Value.slice a7 x.ys.length a8, Value.slice a9 x.fs.length b0)], some ⟨gL, 0, none⟩, b9, by omega, by go_num, by rw [s1.out]; omega, f6, z1⟩
   case measure => simp [intOf]; omega
  go_simp;have bw : Below i3.heap.size i3 (i3.alloc (.cells #[.string x.p, .slice a5 x.xs.length a6, .slice a7 x.ys.length a8, .int .i64 x.st, .slice a9 x.fs.length b0, .string x.b, .int .i64 x.t, .int .i64 x.a, .int .i64 x.q] 82)) := (Below.refl _ _).alloc (Nat.le_refl _) _;have j4 := And.intro (aA6 (jb h4 3 rfl) bw) (c9.out _ (h4.hb.trans (bw.mono h4.hb.size)));refine hK.out _ _ j4 (fun _ => ?_)
  clear hK K j4 bw j0;obtain ⟨q5, g5⟩ := exq (i3.heap.size);obtain ⟨q6, e6⟩ := exq ((i3.alloc (.cells #[.string x.p, .slice a5 x.xs.length a6, .slice a7 x.ys.length a8, .int .i64 x.st, .slice a9 x.fs.length b0, .string x.b, .int .i64 x.t, .int .i64 x.a, .int .i64 x.q] 82)));rw [← g5, ← e6];have bw := bal e6;have d7 := ja h4 e6 g5.symm;have f9 := hid (aA2.below n8.out bw);have k9 := hid (aA2.below n9.out bw);have o9 := And.intro (jb d7 4 rfl) (c9.out _ d7.hb);clear bw e6 g5 h4;refine rd1 1 rfl (fun K hK => ?_)
  have p5 := c6c (jb d7 1 rfl);go_simp;refine hK.out _ _ o9 (fun _ => ?_)
  clear hK K p5;refine rd1 23 rfl (fun K hK => ?_)
  have b7 : q6.ownsRow w.heap.size 82 9 (.slice oL kvo.length cL) kvo.length (kvo.flatMap kpC) := f9.out.own (aH2 (.slice oL kvo.length cL) kvo) (by simp [aB4, aC9]);have j6 : kvo.length + 1 ≤ maxLen := by unfold maxLen; omega
  have j7 : (kvo.length + 1) * 136 ≤ 140737488355328 := by omega
  have f1 := d7.hb;refine step_append_lies q6 (by rfl) _ _ 40 (by rfl) w.heap.size 82 i0 (.agg #[.string ⟨#[]⟩, .slice none 0 0, .slice none 0 0, .int .i64 0, .slice none 0 0, .string ⟨#[]⟩, .int .i64 0, .int .i64 0, .int .i64 0]) 9 136 underlying40 hi t2 q7 q8 rfl (by decide) _ _ _ (by rfl) b7 ⟨q5, 0, none⟩ 1 1 [.string x.p, .slice a5 x.xs.length a6, .slice a7 x.ys.length a8, .int .i64 x.st, .slice a9 x.fs.length b0, .string x.b, .int .i64 x.t, .int .i64 x.a, .int .i64 x.q] (by rfl) rfl (World.news_of_block (jb d7 0 rfl)) (by intro u hu; simp only [List.mem_cons, List.not_mem_nil, or_false] at hu; rcases hu with rfl | rfl | rfl | rfl | rfl | rfl | rfl | rfl | rfl <;> rfl) (by decide) j6 j7 f1.size _ rfl ?_;intro gL b9 o0 b4 a0 d4 g6;have g8 : Bw w (o0) := f1.grown a0 f1.size (fun g hg => aB7 b7 hg)
  have z0 := hid a0.size
  have HV : ∀ g, (Value.slice (some ⟨gL, 0, none⟩) (kvo.length + 1) b9).ownBlock = some g → (Value.slice oL kvo.length cL).ownBlock = some g ∨ q6.heap.size ≤ g := by
   intro g hg
   have e : some gL = some g := hg
   cases e
   rcases d4 with h | h
   ·exact .inl h
   ·exact .inr (by omega)
  have d5 : Hid (aA2 o0 w.heap.size (aB4 (.slice oC s.cs.length pC) (.slice oP s.ws.length pP) (.slice (some ⟨gL, 0, none⟩) (kvo.length + 1) b9) (.slice oE s.bl.length pE) (kvo ++ [(x, Value.slice a5 x.xs.length a6, Value.slice a7 x.ys.length a8, Value.slice a9 x.fs.length b0)]) s.cs s.ws s.bl)) := aJ2 f9.out k9.out e0.out m1.out a0 b4 HV;have l0 : Hid (aA2 (o0) w.heap.size (aB4 (.slice oC s.cs.length pC) (.slice oP s.ws.length pP) (.slice (some ⟨gL, 0, none⟩) (kvo.length + 1) b9) (.slice oE s.bl.length pE) (kvo ++ [(x, Value.slice a5 x.xs.length a6, Value.slice a7 x.ys.length a8, Value.slice a9 x.fs.length b0)]) s.cs s.ws s.bl)) := d5.out;have l1 := jz d7 g8 (jzx (jzb (jgB a0 b7 (jb d7 1 rfl)) (jzb (jgB a0 b7 (jb d7 2 rfl)) (jzb (jgB a0 b7 (jb d7 3 rfl)) (jzb (jgB a0 b7 (jb d7 4 rfl)) (jzn _))))));clear d5 HV b7 j6 j7 b4 a0 d4 g6 e0 m1 f1 d7;simp only [Act.put, List.setIfInBounds_toArray]
  have g9 := And.intro (jb l1 3 rfl) (c9.out _ g8);refine hK.out _ _ g9 (fun _ => ?_)
  clear hK K o9;refine tkP 24 (.pointer (some ⟨q4, 2, none⟩)) 92 rfl rfl g9 ?_;simp only [Act.put]
  refine rd1 25 rfl (fun K hK => ?_)
  have p8 := c6f (jb l1 0 rfl);obtain ⟨h0, hY⟩ := exq ((o0.setCell ⟨q4, 2, none⟩ (.slice (some ⟨gL, 0, none⟩) (kvo.length + 1) b9)));have HY := hsy hY;have f4 := jss l1 0 [(2, _)] hY;have g4 := hid (jrs [(2, _)] l0.out hY (jb l1 0 rfl) (aC4 (by decide) (by decide) (by decide) (by decide) (by decide)));clear hY g8 l1;go_simp;rw [HY.out];have l2 := And.intro (jb f4 3 rfl) (c9.out _ f4.hb);refine hK.out _ _ l2 (fun _ => ?_)
  clear hK K HY g9 p8;clear l2;refine wdn ?_;have b2 := aK0 s.ks j (by rw [← m3.out, List.length_map, p0.out]; omega);rw [x7.out] at b2
  have f6 : Hid ((kvo ++ [(x, Value.slice a5 x.xs.length a6, Value.slice a7 x.ys.length a8, Value.slice a9 x.fs.length b0)]).map (·.1) = (s.ks.take (j + 1)).filter (fun k => decide (aT0 s o k))) := by
   show _ = _
   rw [b2, List.filter_append, List.map_append, t0.out, List.filter_cons_of_pos (by exact decide_eq_true ⟨x9.out, q0.out⟩)]
   rfl
  clear b2;have s1 : Hid ((kvo ++ [(x, Value.slice a5 x.xs.length a6, Value.slice a7 x.ys.length a8, Value.slice a9 x.fs.length b0)]).length = kvo.length + 1) := by show _ = _; simp
  have z1 : Hid (Bw w h0 ∧ h0.heap[q1]? = some (.cells #[.slice o1 s.cs.length c1, .slice o2 s.ws.length c2, .slice (some ⟨g3, 0, none⟩) n3 c3, .slice o4 s.bl.length c4, .int .i64 s.nx, .int .i64 s.sq] 43) ∧ h0.heap[q2]? = some (.cells #[.string o.p, .slice a1 o.xs.length d1, .slice a2 o.ys.length d2, .int .i64 o.st, .slice a3 o.fs.length d3, .string o.b, .int .i64 o.t] 51) ∧ h0.heap[q3]? = some (.cells #[.slice none 0 0, .slice none 0 0, .slice none 0 0, .slice none 0 0, .int .i64 0, .int .i64 0] 43) ∧ h0.heap[q4]? = some (.cells #[.slice oC s.cs.length pC, .slice oP s.ws.length pP, .slice (some ⟨gL, 0, none⟩) ((kvo ++ [(x, Value.slice a5 x.xs.length a6, Value.slice a7 x.ys.length a8, Value.slice a9 x.fs.length b0)]).length) b9, .slice oE s.bl.length pE, .int .i64 s.nx, .int .i64 s.sq] 43) ∧ aA2 h0 w.heap.size (aB4 (.slice oC s.cs.length pC) (.slice oP s.ws.length pP) (.slice (some ⟨gL, 0, none⟩) ((kvo ++ [(x, Value.slice a5 x.xs.length a6, Value.slice a7 x.ys.length a8, Value.slice a9 x.fs.length b0)]).length) b9) (.slice oE s.bl.length pE) (kvo ++ [(x, Value.slice a5 x.xs.length a6, Value.slice a7 x.ys.length a8, Value.slice a9 x.fs.length b0)]) s.cs s.ws s.bl)) := by rw [s1.out]; exact ⟨f4.hb, (jb f4 3 rfl), (jb f4 2 rfl), (jb f4 1 rfl), (jb f4 0 rfl), g4.out⟩
  go_wp2_with fail
  go_roundw
  case rel => exact ⟨j + 1, kvo ++ [(x, Value.slice a5 x.xs.length a6, Value.slice a7 x.ys.length a8, Value.slice a9 x.fs.length b0)], some ⟨gL, 0, none⟩, b9, by omega, by go_num, by rw [s1.out]; omega, f6, z1⟩
  case measure => simp [intOf]; omega
def GotK (s : ShD) (o : KpD) (ok : Bool) (r : ShD) : Prop := (ok = false ∧ ¬ aJ4 s ∧ r = bE2) ∨ (aJ4 s ∧ ((ok = false ∧ ¬ aR1 s o ∧ r = s) ∨ (ok = true ∧ aR1 s o ∧ bN0 s o r)))
def StOk (r : ShD) (ok : Bool) (w : World) (e : Ending) (w' : World) : Prop := ∃ (va vb vc vd : Value) (kv : Ks), e = .returned (.tuple #[.agg #[va, vb, vc, vd, .int .i64 r.nx, .int .i64 r.sq], .bool ok]) ∧ aD8 w' w.heap.size va vb vc vd kv r ∧ Below w.heap.size w w'
theorem aR9.uniq {cs : Ts} {ws : List (Int × ByteArray)} {x : Int} {t : ByteArray} {c1 c2 : Ts} {w1 w2 : List (Int × ByteArray)} (h1 : aR9 cs ws x t c1 w1) (h2 : aR9 cs ws x t c2 w2) : c1 = c2 ∧ w1 = w2 := by
 unfold aR9 at h1 h2;split at h1
 ·rename_i h; rw [if_pos h] at h2; exact ⟨h1.1.trans h2.1.symm, h1.2.trans h2.2.symm⟩
 rename_i h; rw [if_neg h] at h2; exact ⟨h1.1.trans h2.1.symm, h1.2.trans h2.2.symm⟩
theorem aR9.small {cs : Ts} {ws : List (Int × ByteArray)} {x : Int} {t : ByteArray} {c1 : Ts} {w1 : List (Int × ByteArray)} (h1 : aR9 cs ws x t c1 w1) : c1.length ≤ cs.length ∧ w1.length ≤ ws.length + 1 := by
 unfold aR9 at h1;split at h1
 ·rw [h1.1, h1.2];exact ⟨Nat.le_trans (cD0 _ _) (bH0 _ _ _), Nat.le_trans (cD1 _ _ _ _) (by simp)⟩
 rw [h1.1, h1.2];exact ⟨cD0 _ _, cD1 _ _ _ _⟩
theorem bN0.uniq {s : ShD} {o : KpD} {r r' : ShD} (h : bN0 s o r) (h' : bN0 s o r') : r = r' := by
 obtain ⟨a1, a2, a3, a4, a5⟩ := h;obtain ⟨a0, a6, a7, b4, b5⟩ := h';obtain ⟨e1, e2⟩ := a1.uniq a0;cases r
 cases r'
 simp only at *
 subst e1 e2 a3 a7 a4 b4 a5 b5;rw [a2, a6]
theorem GotK.uniq {s : ShD} {o : KpD} {ok ok' : Bool} {r r' : ShD} (h : GotK s o ok r) (h' : GotK s o ok' r') : ok = ok' ∧ r = r' := by
 rcases h with ⟨h1, h2, h3⟩ | ⟨h1, ⟨h2, h3, h4⟩ | ⟨h2, h3, h4⟩⟩ <;> rcases h' with ⟨k1, k2, k3⟩ | ⟨k1, ⟨k2, k3, k4⟩ | ⟨k2, k3, k4⟩⟩
 ·exact ⟨h1.trans k1.symm, h3.trans k3.symm⟩
 ·exact absurd k1 h2
 ·exact absurd k1 h2
 ·exact absurd h1 k2
 ·exact ⟨h2.trans k2.symm, h4.trans k4.symm⟩
 ·exact absurd k3 h3
 ·exact absurd h1 k2
 ·exact absurd h3 k3
 exact ⟨h2.trans k2.symm, h4.uniq k4⟩
open Classical in
theorem GotK.ex (s : ShD) (o : KpD) : ∃ ok r, GotK s o ok r := by
 by_cases h : aJ4 s
 rotate_left
 ·exact ⟨false, bE2, .inl ⟨rfl, h, rfl⟩⟩
 by_cases h2 : aR1 s o
 rotate_left
 ·exact ⟨false, s, .inr ⟨h, .inl ⟨rfl, h2, rfl⟩⟩⟩
 by_cases h3 : s.ws.length = 16
 ·exact ⟨true, ⟨_, _, _, _, _, _⟩, .inr ⟨h, .inr ⟨rfl, h2, aR9.full h3, rfl, rfl, rfl, rfl⟩⟩⟩
 exact ⟨true, ⟨_, _, _, _, _, _⟩, .inr ⟨h, .inr ⟨rfl, h2, aR9.plain h3, rfl, rfl, rfl, rfl⟩⟩⟩
theorem cN1.got {s : ShD} {o : KpD} {ok : Bool} {r : ShD} (hg : GotK s o ok r) {w : World} {e : Ending} {w' : World} (h : cN1 s o w e w') : StOk r ok w e w' := by
 rcases h with ⟨h1, h2, h3⟩ | ⟨r', b, v1, v2, V, VB, kv, h1, h2, h3, h4, h5⟩
 ·obtain ⟨e1, e2⟩ := hg.uniq (show GotK s o false bE2 from .inl ⟨rfl, h1, rfl⟩);subst e1 e2;exact ⟨_, _, _, _, [], h2, bW9 _ _, h3⟩
 obtain ⟨e1, e2⟩ := hg.uniq (show GotK s o b r' from .inr ⟨h1, h2⟩);subst e1 e2;exact ⟨v1, v2, V, VB, kv, h3, h4, h5⟩
theorem bR6.got {s : ShD} {o : KpD} {ok : Bool} {r : ShD} (hg : GotK s o ok r) {w : World} {e : Ending} {w' : World} (h : bR6 s o w e w') : StOk r ok w e w' := by
 obtain ⟨a0, r', va, vb, vc, vd, kv, h1, h2, h3, h4⟩ := h;obtain ⟨e1, e2⟩ := hg.uniq (show GotK s o a0 r' from h2);subst e1 e2;exact ⟨va, vb, vc, vd, kv, h1, h3, h4⟩
theorem bN3 (p : KpD → Bool) : ∀ l : List KpD, wtK (l.filter p) ≤ wtK l
 | [] => Nat.le_refl _
 | x :: l => by
  have := bN3 p l
  rw [List.filter_cons]
  split
  · rw [wtK, wtK]; omega
  · rw [wtK]; omega
theorem GotK.lim {s : ShD} {o : KpD} {ok : Bool} {r : ShD} (hg : GotK s o ok r) (hs : aG1 s) (ho : aD6 o) (hw : wtK s.ks ≤ 1048576) : cG7 r := by
 have mk : ∀ r : ShD, r.ks.length ≤ 2000000 → r.cs.length ≤ 1048576 → r.ws.length ≤ 1048577 → wtK r.ks ≤ 1048577 + o.xs.length + o.ys.length + o.fs.length → r.bl.length ≤ 1048576 → (∀ k ∈ r.ks, k.xs.length ≤ 2000000 ∧ k.ys.length ≤ 2000000 ∧ k.fs.length ≤ 2000000) → cG7 r := by
  intro r h0 h1 h2 h3 h4 h5
  have a1 := ho.2.1.1
  have a2 := ho.2.2.1.1
  have a3 := ho.2.2.2.1
  refine ⟨by omega, by omega, by omega, by omega, h5, fun kv hk => ?_⟩
  have h6 := cD4 kv
  rw [hk] at h6
  omega
 have a0 : ∀ k : KpD, aD6 k → k.xs.length ≤ 2000000 ∧ k.ys.length ≤ 2000000 ∧ k.fs.length ≤ 2000000 := fun k hk => ⟨Nat.le_trans hk.2.1.1 (by decide), Nat.le_trans hk.2.2.1.1 (by decide), Nat.le_trans hk.2.2.2.1 (by decide)⟩
 rcases hg with ⟨_, _, rfl⟩ | ⟨_, ⟨_, _, rfl⟩ | ⟨_, _, hk⟩⟩
 ·exact mk _ (by decide) (by decide) (by decide) (Nat.zero_le _) (by decide) (fun k hk => by simp [bE2] at hk)
 ·exact mk _ (ltd hs.k) hs.c (ltd hs.w) (Nat.le_trans hw (by omega)) hs.b (fun k hk => a0 k (hs.ks k hk))
 obtain ⟨k1, k2, k3, k4, k5⟩ := hk;have h1 := k1.small;have hc := hs.c;have a4 := hs.w
 refine mk _ (by
  rw [k2, List.length_append, List.length_singleton]
  have h8 := List.length_filter_le (fun k => @decide (aT0 s o k) (Classical.propDecidable _)) s.ks
  have h9 := hs.k
  omega) (by omega) (by omega) ?_ (by rw [k3]; exact hs.b) ?_
 ·rw [k2, bP5];have := bN3 (fun k => @decide (aT0 s o k) (Classical.propDecidable _)) s.ks
  dsimp only;omega
 intro k hk;rw [k2] at hk;rcases List.mem_append.1 hk with hk | hk
 ·exact a0 k (hs.ks k (List.mem_filter.1 hk).1)
 rw [List.mem_singleton.1 hk];exact a0 o ho
theorem aW5 {W : World} {B1 B2 : Nat} {rs rs' : List Rw} (h : aA2 W B1 rs) (h' : aA2 W B2 rs') (ha : ∀ r ∈ rs, ∀ r' ∈ rs', ∀ g, r.v.ownBlock = some g → r'.v.ownBlock = some g → False) : aA2 W 0 (rs ++ rs') :=
 ⟨fun r hr => by
  rcases List.mem_append.1 hr with hr | hr
  · exact aF5 (h.own r hr) (Nat.zero_le _)
  · exact aF5 (h'.own r hr) (Nat.zero_le _), List.pairwise_append.2 ⟨h.apart, h'.apart, fun a hA b hB g h1 h2 => ha a hA b hB g h1 h2⟩⟩
end Go.Proofs.YtejoifianjgefaaGreatDoor
namespace Go.Proofs.YtejoifianjgefaaGreatDoor
open Go.Proofs.Tryz
open Go.RowKit Go.WideShapes
open Go.Lib hiding intOf
theorem cU9 {H : Type} {enc : TypeId × Value → H} {W : World} {r : Reach} {b0 : Nat} {v : Value} {d : DataW H} {ps : List MemPlace} (hval : Value.okWide prog W r b0 34 v) (h : DataW.Trod enc prog W 0 (fun _ => true) true 34 v d ps) :
  ∃ (p : Tx) (a1 : Oa) (n1 c1 : Nat) (xs : Ts) (a2 : Oa) (n2 c2 : Nat) (ys : Ts) (st : Int) (a3 : Oa) (n3 c3 : Nat) (fs : Fs) (b : Tx) (t : Int), v = .agg #[.string p, .slice a1 n1 c1, .slice a2 n2 c2, .int .i64 st, .slice a3 n3 c3, .string b, .int .i64 t] ∧ ArgT W W.heap.size a1 n1 xs ∧ ArgT W W.heap.size a2 n2 ys ∧ ArgF W W.heap.size a3 n3 fs ∧ n1 ≤ maxLen ∧ n2 ≤ maxLen ∧ n3 ≤ maxLen ∧ (∀ i, i < n1 → (aA7 xs i).size ≤ maxLen) ∧ (∀ i, i < n2 → (aA7 ys i).size ≤ maxLen) ∧ aK2 n3 fs ∧ p.size ≤ maxLen ∧ b.size ≤ maxLen := by
 obtain ⟨cs, rfl, hsz⟩ := okWide_struct underlying34 hval;obtain ⟨a5, hf⟩ := h;obtain ⟨ys, q, _, _, _, a6, hg⟩ := DataW.trod_struct underlying34 hf;have a7 : prog.cellsOf 34 = 7 := by kernel_rfl
 have a8 : prog.cellsOf 32 = 3 := by kernel_rfl
 have e3 : prog.cellsOf 3 = 1 := by kernel_rfl
 have e9 : prog.cellsOf 9 = 1 := by kernel_rfl
 have eL : prog.cellsOf 30 = 1 := by kernel_rfl
 have eS : prog.cellsOf 22 = 1 := by kernel_rfl
 rw [a7] at hsz;obtain ⟨l⟩ := cs
 obtain ⟨d0, d1, d2, d3, d4, d5, d6, rfl⟩ : ∃ d0 d1 d2 d3 d4 d5 d6, l = [d0, d1, d2, d3, d4, d5, d6] := by
  match l, hsz with
  | [d0, d1, d2, d3, d4, d5, d6], _ => exact ⟨d0, d1, d2, d3, d4, d5, d6, rfl⟩
 have g0 := hg 0 _ rfl;have g1 := hg 1 _ rfl;have g2 := hg 2 _ rfl;have g3 := hg 3 _ rfl;have g4 := hg 4 _ rfl;simp [Value.cells, e3, e9, eS, a8] at g0 g1 g2 g3 g4
 have b3 : ys.length = 5 := a6;rw [List.getElem?_eq_getElem (show 0 < ys.length by omega)] at g0;rw [List.getElem?_eq_getElem (show 1 < ys.length by omega)] at g1;rw [List.getElem?_eq_getElem (show 2 < ys.length by omega)] at g2;rw [List.getElem?_eq_getElem (show 3 < ys.length by omega)] at g3;rw [List.getElem?_eq_getElem (show 4 < ys.length by omega)] at g4;obtain ⟨zs, q2, _, _, _, a9, hk⟩ := DataW.trod_struct underlying32 g3;have k0 := hk 0 _ rfl;have k1 := hk 1 _ rfl;have k2 := hk 2 _ rfl;simp [e3, e9, eL] at k0 k1 k2
 have b4 : zs.length = 3 := a9;rw [List.getElem?_eq_getElem (show 0 < zs.length by omega)] at k0;rw [List.getElem?_eq_getElem (show 1 < zs.length by omega)] at k1;rw [List.getElem?_eq_getElem (show 2 < zs.length by omega)] at k2;obtain ⟨p, hp, _, b1⟩ := DataW.trod_string underlying9 g0;obtain ⟨t, ht, _, _⟩ := DataW.trod_int underlying3 g4;obtain ⟨st, a4, _, _⟩ := DataW.trod_int underlying3 k0;obtain ⟨b, hb, _, b2⟩ := DataW.trod_string underlying9 k2
 obtain ⟨a1, n1, c1, rfl⟩ : ∃ a n a0, d1 = .slice a n a0 := by
  rcases DataW.trod_slice underlying22 g1 with ⟨h, _⟩ | ⟨a, n, a0, _, _, _, _, h, _⟩
  ·exact ⟨none, 0, 0, by simpa using h⟩
  ·exact ⟨_, n, a0, by simpa using h⟩
 obtain ⟨a2, n2, c2, rfl⟩ : ∃ a n a0, d2 = .slice a n a0 := by
  rcases DataW.trod_slice underlying22 g2 with ⟨h, _⟩ | ⟨a, n, a0, _, _, _, _, h, _⟩
  ·exact ⟨none, 0, 0, by simpa using h⟩
  ·exact ⟨_, n, a0, by simpa using h⟩
 obtain ⟨a3, n3, c3, rfl⟩ : ∃ a n a0, d4 = .slice a n a0 := by
  rcases DataW.trod_slice underlying30 k1 with ⟨h, _⟩ | ⟨a, n, a0, _, _, _, _, h, _⟩
  ·exact ⟨none, 0, 0, by simpa using h⟩
  ·exact ⟨_, n, a0, by simpa using h⟩
 obtain ⟨xs, x1, x2, x3⟩ := aV3 g1;obtain ⟨ws, y1, y2, y3⟩ := aV3 g2;obtain ⟨fs, z1, z2, z3⟩ := bL9 k1;simp only [List.cons.injEq, and_true] at hp ht a4 hb
 subst hp ht a4 hb;exact ⟨p, a1, n1, c1, xs, a2, n2, c2, ws, st, a3, n3, c3, fs, b, t, rfl, x1, y1, z1, x2, y2, z2, x3, y3, z3, b1, b2⟩
theorem cQ7 {H : Type} {enc : TypeId × Value → H} {W : World} {fuel : Nat} {d0 d1 d2 d3 d4 d5 d6 : Value} {x : DataW H × List MemPlace} (hf : DataW.trod enc prog W 0 (fun _ => true) true fuel 34 [d0, d1, d2, d3, d4, d5, d6] = some x) :
  ∃ (p : Tx) (a1 : Oa) (n1 c1 : Nat) (xs : Ts) (a2 : Oa) (n2 c2 : Nat) (ys : Ts) (st : Int) (a3 : Oa) (n3 c3 : Nat) (fs : Fs) (b : Tx) (t : Int), (d0 = .string p ∧ d1 = .slice a1 n1 c1 ∧ d2 = .slice a2 n2 c2 ∧ d3 = .int .i64 st ∧ d4 = .slice a3 n3 c3 ∧ d5 = .string b ∧ d6 = .int .i64 t) ∧ ArgT W W.heap.size a1 n1 xs ∧ ArgT W W.heap.size a2 n2 ys ∧ ArgF W W.heap.size a3 n3 fs ∧ n1 ≤ maxLen ∧ n2 ≤ maxLen ∧ n3 ≤ maxLen ∧ (∀ i, i < n1 → (aA7 xs i).size ≤ maxLen) ∧ (∀ i, i < n2 → (aA7 ys i).size ≤ maxLen) ∧ aK2 n3 fs ∧ p.size ≤ maxLen ∧ b.size ≤ maxLen := by
 obtain ⟨ys, q, _, _, _, a5, hg⟩ := DataW.trod_struct underlying34 hf;have a6 : prog.cellsOf 32 = 3 := by kernel_rfl
 have e3 : prog.cellsOf 3 = 1 := by kernel_rfl
 have e9 : prog.cellsOf 9 = 1 := by kernel_rfl
 have eL : prog.cellsOf 30 = 1 := by kernel_rfl
 have eS : prog.cellsOf 22 = 1 := by kernel_rfl
 have g0 := hg 0 _ rfl;have g1 := hg 1 _ rfl;have g2 := hg 2 _ rfl;have g3 := hg 3 _ rfl;have g4 := hg 4 _ rfl;simp [e3, e9, eS, a6] at g0 g1 g2 g3 g4
 have b0 : ys.length = 5 := a5;rw [List.getElem?_eq_getElem (show 0 < ys.length by omega)] at g0;rw [List.getElem?_eq_getElem (show 1 < ys.length by omega)] at g1;rw [List.getElem?_eq_getElem (show 2 < ys.length by omega)] at g2;rw [List.getElem?_eq_getElem (show 3 < ys.length by omega)] at g3;rw [List.getElem?_eq_getElem (show 4 < ys.length by omega)] at g4;obtain ⟨zs, q2, _, _, _, a7, hk⟩ := DataW.trod_struct underlying32 g3;have k0 := hk 0 _ rfl;have k1 := hk 1 _ rfl;have k2 := hk 2 _ rfl;simp [e3, e9, eL] at k0 k1 k2
 have b1 : zs.length = 3 := a7;rw [List.getElem?_eq_getElem (show 0 < zs.length by omega)] at k0;rw [List.getElem?_eq_getElem (show 1 < zs.length by omega)] at k1;rw [List.getElem?_eq_getElem (show 2 < zs.length by omega)] at k2;obtain ⟨p, hp, _, a8⟩ := DataW.trod_string underlying9 g0;obtain ⟨t, ht, _, _⟩ := DataW.trod_int underlying3 g4;obtain ⟨st, a4, _, _⟩ := DataW.trod_int underlying3 k0;obtain ⟨b, hb, _, a9⟩ := DataW.trod_string underlying9 k2
 obtain ⟨a1, n1, c1, rfl⟩ : ∃ a n a0, d1 = .slice a n a0 := by
  rcases DataW.trod_slice underlying22 g1 with ⟨h, _⟩ | ⟨a, n, a0, _, _, _, _, h, _⟩
  ·exact ⟨none, 0, 0, by simpa using h⟩
  ·exact ⟨_, n, a0, by simpa using h⟩
 obtain ⟨a2, n2, c2, rfl⟩ : ∃ a n a0, d2 = .slice a n a0 := by
  rcases DataW.trod_slice underlying22 g2 with ⟨h, _⟩ | ⟨a, n, a0, _, _, _, _, h, _⟩
  ·exact ⟨none, 0, 0, by simpa using h⟩
  ·exact ⟨_, n, a0, by simpa using h⟩
 obtain ⟨a3, n3, c3, rfl⟩ : ∃ a n a0, d4 = .slice a n a0 := by
  rcases DataW.trod_slice underlying30 k1 with ⟨h, _⟩ | ⟨a, n, a0, _, _, _, _, h, _⟩
  ·exact ⟨none, 0, 0, by simpa using h⟩
  ·exact ⟨_, n, a0, by simpa using h⟩
 obtain ⟨xs, x1, x2, x3⟩ := aV3 g1;obtain ⟨ws, y1, y2, y3⟩ := aV3 g2;obtain ⟨fs, z1, z2, z3⟩ := bL9 k1;simp only [List.cons.injEq, and_true] at hp ht a4 hb
 subst hp ht a4 hb;exact ⟨p, a1, n1, c1, xs, a2, n2, c2, ws, st, a3, n3, c3, fs, b, t, ⟨rfl, rfl, rfl, rfl, rfl, rfl, rfl⟩, x1, y1, z1, x2, y2, z2, x3, y3, z3, a8, a9⟩
theorem cO0 {H : Type} {enc : TypeId × Value → H} {W : World} {fuel : Nat} {a : Oa} {n cap : Nat} {x : DataW H × List MemPlace} (h : DataW.trod enc prog W 0 (fun _ => true) true fuel 26 [.slice a n cap] = some x) :
  ∃ ks, aL5 W W.heap.size a n ks ∧ n ≤ maxLen ∧ ∀ k ∈ ks, bU9 k := by
 rcases Go.Deep.open_slice underlying26 h with ⟨a4, _⟩ | ⟨ad, c6, c, m, q, Dd, Pl, a4, _, hl, hm, b7, _, hx⟩
 ·simp at a4
  obtain ⟨rfl, rfl, rfl⟩ := a4;exact ⟨[], ⟨rfl, fun i hi => absurd hi (by omega)⟩, Nat.zero_le _, fun x hx => by simp at hx⟩
 simp at a4
 obtain ⟨rfl, rfl, rfl⟩ := a4;have c7 : m = cap := by simpa using b7
 have ce : prog.cellsOf 123 = 9 := by kernel_rfl
 have co : prog.cellsOf 34 = 7 := by kernel_rfl
 have ci : prog.cellsOf 3 = 1 := by kernel_rfl
 have a5 : ∀ i, i < n → ∃ y : KpD, (∃ (a1 : Oa) (n1 c1 : Nat) (a2 : Oa) (n2 c2 : Nat) (a3 : Oa) (n3 c3 : Nat), (W.cell? (ad.add (i * 9 + 0)) = some (.string y.p) ∧ W.cell? (ad.add (i * 9 + 1)) = some (.slice a1 n1 c1) ∧ W.cell? (ad.add (i * 9 + 2)) = some (.slice a2 n2 c2) ∧ W.cell? (ad.add (i * 9 + 3)) = some (.int .i64 y.st) ∧ W.cell? (ad.add (i * 9 + 4)) = some (.slice a3 n3 c3) ∧ W.cell? (ad.add (i * 9 + 5)) = some (.string y.b) ∧ W.cell? (ad.add (i * 9 + 6)) = some (.int .i64 y.t) ∧ W.cell? (ad.add (i * 9 + 7)) = some (.int .i64 y.a) ∧ W.cell? (ad.add (i * 9 + 8)) = some (.int .i64 y.q)) ∧ ArgT W W.heap.size a1 n1 y.xs ∧ ArgT W W.heap.size a2 n2 y.ys ∧ ArgF W W.heap.size a3 n3 y.fs) ∧ bU9 y := by
  intro i hi
  obtain ⟨b8, h1, h2⟩ := hx i (by omega)
  rw [ce] at h1
  obtain ⟨_, a6, a0⟩ := World.cells?_some h1
  obtain ⟨xs, k, hk, c8, _, b9, hf⟩ := DataW.trod_struct underlying123 h2
  match xs, b9, b8, a6 with
  | [x0, x1, x2], _, [v0, v1, v2, v3, v4, v5, v6, v7, v8], _ =>
   have g0 := hf 0 _ rfl
   have g1 := hf 1 _ rfl
   have g2 := hf 2 _ rfl
   simp [ci, co] at g0 g1 g2
   obtain ⟨p, a1, n1, c1, xs, a2, n2, c2, ys, st, a3, n3, c3, fs, b, t, ⟨rfl, rfl, rfl, rfl, rfl, rfl, rfl⟩, w1, w2, w3, m1, m2, m3, s1, s2, s3, s4, s5⟩ := cQ7 g0
   obtain ⟨ka, e1, _, _⟩ := DataW.trod_int underlying3 g1
   obtain ⟨kq, e2, _, _⟩ := DataW.trod_int underlying3 g2
   simp only [List.cons.injEq, and_true] at e1 e2
   subst e1 e2
   have a7 := a0 0 (by omega)
   have a8 := a0 1 (by omega)
   have a9 := a0 2 (by omega)
   have b0 := a0 3 (by omega)
   have b1 := a0 4 (by omega)
   have b2 := a0 5 (by omega)
   have b3 := a0 6 (by omega)
   have b4 := a0 7 (by omega)
   have b5 := a0 8 (by omega)
   rw [Go.Deep.add_add] at a7 a8 a9 b0 b1 b2 b3 b4 b5
   refine ⟨⟨p, xs, ys, st, fs, b, t, ka, kq⟩, ⟨a1, n1, c1, a2, n2, c2, a3, n3, c3, ⟨by simpa using a7, by simpa using a8, by simpa using a9, by simpa using b0, by simpa using b1, by simpa using b2, by simpa using b3, by simpa using b4, by simpa using b5⟩, w1, w2, w3⟩, ?_⟩
   unfold bU9
   show xs.length ≤ maxLen ∧ ys.length ≤ maxLen ∧ fs.length ≤ maxLen ∧ (∀ i, i < xs.length → (aA7 xs i).size ≤ maxLen) ∧ (∀ i, i < ys.length → (aA7 ys i).size ≤ maxLen) ∧ aK2 fs.length fs ∧ p.size ≤ maxLen ∧ b.size ≤ maxLen
   rw [w1.len, w2.len, w3.len]
   exact ⟨m1, m2, m3, s1, s2, s3, s4, s5⟩
 haveI : Inhabited KpD := ⟨cS5⟩
 obtain ⟨q, hq⟩ := Go.Deep.choose_lt a5
 have c0 : ∀ i, i < n → kpAt ((List.range n).map q) i = q i := fun i hi => by
  unfold kpAt
  rw [List.getD_eq_getElem?_getD, List.getElem?_map, List.getElem?_range hi]
  rfl
 refine ⟨(List.range n).map q, ⟨by simp, fun i hi => ?_⟩, by omega, fun x hx => ?_⟩
 ·obtain ⟨⟨a1, n1, c1, a2, n2, c2, a3, n3, c3, cc, w1, w2, w3⟩, _⟩ := hq i hi
  have b6 : ad.spot = none := by
   obtain ⟨⟨_, _, _, _, _, _, _, _, _, c3, _⟩, _⟩ := hq 0 (by omega)
   have := World.cell?_spot c3.1
   simpa [Addr.add] using this
  obtain ⟨b, c4, sp⟩ := ad;simp only at b6
  subst b6;simp only [aZ5] at cc
  rw [c0 i hi];have c5 := World.block_lt_of_cell? W _ cc.1;exact ⟨b, c4, rfl, c5, a1, n1, c1, a2, n2, c2, a3, n3, c3, ⟨by simpa [Nat.add_assoc] using cc.1, by simpa [Nat.add_assoc] using cc.2.1, by simpa [Nat.add_assoc] using cc.2.2.1, by simpa [Nat.add_assoc] using cc.2.2.2.1, by simpa [Nat.add_assoc] using cc.2.2.2.2.1, by simpa [Nat.add_assoc] using cc.2.2.2.2.2.1, by simpa [Nat.add_assoc] using cc.2.2.2.2.2.2.1, by simpa [Nat.add_assoc] using cc.2.2.2.2.2.2.2.1, by simpa [Nat.add_assoc] using cc.2.2.2.2.2.2.2.2⟩, w1, w2, w3⟩
 obtain ⟨i, hi, rfl⟩ := List.mem_map.1 hx;exact (hq i (List.mem_range.1 hi)).2
theorem cO1 {H : Type} {enc : TypeId × Value → H} {W : World} {r : Reach} {b0 : Nat} {v : Value} {d : DataW H} {ps : List MemPlace} (hval : Value.okWide prog W r b0 29 v) (h : DataW.Trod enc prog W 0 (fun _ => true) true 29 v d ps) :
  ∃ (a1 : Oa) (n1 c1 : Nat) (cs : Ts) (a2 : Oa) (n2 c2 : Nat) (ws : List (Int × ByteArray)) (a3 : Oa) (n3 c3 : Nat) (ks : List KpD) (a4 : Oa) (n4 c4 : Nat) (bl : Bs) (nx sq : Int), v = .agg #[.slice a1 n1 c1, .slice a2 n2 c2, .slice a3 n3 c3, .slice a4 n4 c4, .int .i64 nx, .int .i64 sq] ∧ ArgT W W.heap.size a1 n1 cs ∧ aG9 W W.heap.size a2 n2 ws ∧ aL5 W W.heap.size a3 n3 ks ∧ aQ6 W W.heap.size a4 n4 bl ∧ (n1 ≤ maxLen ∧ n2 ≤ maxLen ∧ n3 ≤ maxLen ∧ n4 ≤ maxLen ∧ (∀ i, i < n1 → (aA7 cs i).size ≤ maxLen) ∧ (∀ x ∈ ws, (x.2).size ≤ maxLen) ∧ (∀ k ∈ ks, bU9 k) ∧ ∀ x ∈ bl, (x.2.1).size ≤ maxLen ∧ (x.2.2.1).size ≤ maxLen) := by
 obtain ⟨cs, rfl, hsz⟩ := okWide_struct underlying29 hval;obtain ⟨a5, hf⟩ := h;obtain ⟨ys, q, _, _, _, a6, hg⟩ := DataW.trod_struct underlying29 hf;have a7 : prog.cellsOf 29 = 6 := by kernel_rfl
 have a8 : prog.cellsOf 25 = 2 := by kernel_rfl
 have e3 : prog.cellsOf 3 = 1 := by kernel_rfl
 have eK : prog.cellsOf 26 = 1 := by kernel_rfl
 have eB : prog.cellsOf 27 = 1 := by kernel_rfl
 have eS : prog.cellsOf 22 = 1 := by kernel_rfl
 have eW : prog.cellsOf 23 = 1 := by kernel_rfl
 rw [a7] at hsz;obtain ⟨l⟩ := cs
 obtain ⟨d0, d1, d2, d3, d4, d5, rfl⟩ : ∃ d0 d1 d2 d3 d4 d5, l = [d0, d1, d2, d3, d4, d5] := by
  match l, hsz with
  | [d0, d1, d2, d3, d4, d5], _ => exact ⟨d0, d1, d2, d3, d4, d5, rfl⟩
 have g0 := hg 0 _ rfl;have g1 := hg 1 _ rfl;have g2 := hg 2 _ rfl;have g3 := hg 3 _ rfl;have g4 := hg 4 _ rfl;simp [Value.cells, e3, eK, eB, a8] at g0 g1 g2 g3 g4
 have b4 : ys.length = 5 := a6;rw [List.getElem?_eq_getElem (show 0 < ys.length by omega)] at g0;rw [List.getElem?_eq_getElem (show 1 < ys.length by omega)] at g1;rw [List.getElem?_eq_getElem (show 2 < ys.length by omega)] at g2;rw [List.getElem?_eq_getElem (show 3 < ys.length by omega)] at g3;rw [List.getElem?_eq_getElem (show 4 < ys.length by omega)] at g4;obtain ⟨zs, q2, _, _, _, a9, hk⟩ := DataW.trod_struct underlying25 g0;have k0 := hk 0 _ rfl;have k1 := hk 1 _ rfl;simp [eS, eW] at k0 k1
 have b5 : zs.length = 2 := a9;rw [List.getElem?_eq_getElem (show 0 < zs.length by omega)] at k0;rw [List.getElem?_eq_getElem (show 1 < zs.length by omega)] at k1
 obtain ⟨a1, n1, c1, rfl⟩ : ∃ a n a0, d0 = .slice a n a0 := by
  rcases DataW.trod_slice underlying22 k0 with ⟨h, _⟩ | ⟨a, n, a0, _, _, _, _, h, _⟩
  ·exact ⟨none, 0, 0, by simpa using h⟩
  ·exact ⟨_, n, a0, by simpa using h⟩
 obtain ⟨a2, n2, c2, rfl⟩ : ∃ a n a0, d1 = .slice a n a0 := by
  rcases DataW.trod_slice underlying23 k1 with ⟨h, _⟩ | ⟨a, n, a0, _, _, _, _, h, _⟩
  ·exact ⟨none, 0, 0, by simpa using h⟩
  ·exact ⟨_, n, a0, by simpa using h⟩
 obtain ⟨a3, n3, c3, rfl⟩ : ∃ a n a0, d2 = .slice a n a0 := by
  rcases DataW.trod_slice underlying26 g1 with ⟨h, _⟩ | ⟨a, n, a0, _, _, _, _, h, _⟩
  ·exact ⟨none, 0, 0, by simpa using h⟩
  ·exact ⟨_, n, a0, by simpa using h⟩
 obtain ⟨a4, n4, c4, rfl⟩ : ∃ a n a0, d3 = .slice a n a0 := by
  rcases DataW.trod_slice underlying27 g2 with ⟨h, _⟩ | ⟨a, n, a0, _, _, _, _, h, _⟩
  ·exact ⟨none, 0, 0, by simpa using h⟩
  ·exact ⟨_, n, a0, by simpa using h⟩
 obtain ⟨nx, h4, _, _⟩ := DataW.trod_int underlying3 g3;obtain ⟨sq, h5, _, _⟩ := DataW.trod_int underlying3 g4;obtain ⟨xs, x1, x2, x3⟩ := aV3 k0;obtain ⟨ws, y1, y2, y3⟩ := cF6 k1;obtain ⟨ks, z1, z2, z3⟩ := cO0 g1;obtain ⟨bl, b1, b2, b3⟩ := cP1 g2;simp only [List.cons.injEq, and_true] at h4 h5
 subst h4 h5;exact ⟨a1, n1, c1, xs, a2, n2, c2, ws, a3, n3, c3, ks, a4, n4, c4, bl, nx, sq, rfl, x1, y1, z1, b1, x2, y2, z2, b2, x3, y3, z3, b3⟩
end Go.Proofs.YtejoifianjgefaaGreatDoor
