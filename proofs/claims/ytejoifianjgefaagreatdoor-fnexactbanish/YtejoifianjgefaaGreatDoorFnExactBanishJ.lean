/- What the proof of FnExactBanish leans on: contracts of the program's and the specification's functions, and plain facts (part 10 of 11). -/
import Derived.Test.YtejoifianjgefaaGreatDoorFnExactBanishI
set_option maxHeartbeats 16000000
set_option maxRecDepth 100000
namespace Go.Proofs.YtejoifianjgefaaGreatDoor
open Go.Proofs.Tryz
open Go.RowKit
open Go.Lib hiding intOf
def aJ1 (s : ShD) (x : Int × ByteArray × ByteArray × Int) : Prop := BanP x.1 x.2.1 x.2.2.1 x.2.2.2 ∧ s.bl.length ≠ 5 ∧ s.sq ≠ 100000
open Classical in
def aW6 (s : ShD) (x : Int × ByteArray × ByteArray × Int) (r : ShD) : Prop :=
 ∃ cs2 ws2, aN2 s.cs s.ws (s.bl.length : Int) (recI s.sq (banT x.1 x.2.1 x.2.2.1 x.2.2.2)) cs2 ws2 ∧ r.cs = aL5 cs2 ws2 (fun _ => true) ∧ r.ws = [] ∧ r.ks = s.ks.filter (fun k => decide (¬ AnyK (s.bl ++ [x]) k)) ∧ r.bl = s.bl ++ [x] ∧ r.nx = s.nx ∧ r.sq = s.sq + 1
def bQ0 (s : ShD) (x : Int × ByteArray × ByteArray × Int) (w : World) (e : Ending) (w' : World) : Prop :=
 (¬ aI5 s ∧ e = .returned (.tuple #[.agg #[.slice none 0 0, .slice none 0 0, .slice none 0 0, .slice none 0 0, .int .i64 0, .int .i64 0], .bool false]) ∧ Below w.heap.size w w') ∨
 ∃ (r : ShD) (b : Bool) (v1 v2 V VB : Value) (kv : Ks), aI5 s ∧ ((b = false ∧ ¬ aJ1 s x ∧ r = s) ∨ (b = true ∧ aJ1 s x ∧ aW6 s x r)) ∧ e = .returned (.tuple #[.agg #[v1, v2, V, VB, .int .i64 r.nx, .int .i64 r.sq], .bool b]) ∧ aD1 w' w.heap.size v1 v2 V VB kv r ∧ Below w.heap.size w w'
theorem bV1 {cs : Ts} {ws : List (Int × ByteArray)} {x : Int} {t : ByteArray} {cs2 : Ts} {ws2 : List (Int × ByteArray)} (h : aN2 cs ws x t cs2 ws2) : cs2.length ≤ cs.length ∧ ws2.length ≤ ws.length + 1 := by
 unfold aN2 at h;split at h
 ·obtain ⟨rfl, rfl⟩ := h;exact ⟨Nat.le_trans (bD9 _ _) (aP0 _ _ _), Nat.le_trans (bE0 _ _ _ _) (by simp)⟩
 obtain ⟨rfl, rfl⟩ := h;exact ⟨bD9 _ _, bE0 _ _ _ _⟩
theorem bV2 (l : Bs) (x : Int × ByteArray × ByteArray × Int) : aA5 (l ++ [x]) = aA5 l ++ [.int .i64 x.1, .string x.2.1, .string x.2.2.1, .int .i64 x.2.2.2] := by simp [aA5, aU4]
theorem cL9 {w : World} {b : Nat} {v1 v2 V VB : Value} {kv : Ks} {cs : Ts} {ws : List (Int × ByteArray)} {bl : Bs} (h : aA2 w b (aB2 v1 v2 V VB kv cs ws bl)) : w.ownsRow b 62 4 VB bl.length (aA5 bl) := h.own ⟨62, 4, VB, bl.length, aA5 bl⟩ (by simp [aB2])
theorem aS1 {w : World} {b : Nat} {v1 v2 V VB : Value} {kv : Ks} {cs : Ts} {ws : List (Int × ByteArray)} {bl : Bs} (h : aA2 w b (aB2 v1 v2 V VB kv cs ws bl)) : w.ownsRow b 9 1 v1 cs.length (cs.map Value.string) := h.own ⟨9, 1, v1, cs.length, cs.map Value.string⟩ (by simp [aB2])
theorem aW7 {w : World} {b : Nat} {v1 v2 V VB : Value} {kv : Ks} {cs : Ts} {ws : List (Int × ByteArray)} {bl : Bs} (h : aA2 w b (aB2 v1 v2 V VB kv cs ws bl)) : w.ownsRow b 155 2 v2 ws.length (aA1 ws) := h.own ⟨155, 2, v2, ws.length, aA1 ws⟩ (by simp [aB2])
theorem bK6 (v1 v2 V VB : Value) (kv : Ks) (s : ShD) (B : Nat) (w : World) (h : aD1 w B v1 v2 V VB kv s) (hz : aF7 s) (x0 : Int) (x1 x2 : Tx) (x3 : Int) (hx1 : x1.size ≤ maxLen) (hx2 : x2.size ≤ maxLen) :
  Calls prog 18 #[.agg #[v1, v2, V, VB, .int .i64 s.nx, .int .i64 s.sq], .agg #[.int .i64 x0, .string x1, .string x2, .int .i64 x3]] w fun e w' => bQ0 s (x0, x1, x2, x3) w e w' := by
 classical
 obtain ⟨i0, hi, D3, t6, t7⟩ := info_parts aY9;obtain ⟨I2, I3, D4, D5, D6⟩ := info_parts bG3;obtain ⟨o1, c1, e1⟩ := aA0 h.disk.cells;obtain ⟨o2, c2, e2⟩ := aA0 h.disk.pend;obtain ⟨o3, c3, e3⟩ := aA0 h.kept.row;obtain ⟨o4, c4, e4⟩ := aA0 h.bans;subst e1 e2 e3 e4;obtain ⟨n1, D7⟩ := exq (s.cs.length);obtain ⟨n2, D8⟩ := exq (s.ws.length);obtain ⟨n3, z9⟩ := exq kv.length;obtain ⟨n4, D9⟩ := exq (s.bl.length);rw [← z9] at h ⊢;have J0 : Hid (s.cs.length = n1 ∧ s.ws.length = n2 ∧ kv.length = n3 ∧ s.bl.length = n4) := ⟨D7.symm, D8.symm, z9.symm, D9.symm⟩;have m5 : Hid (kv.map (·.1) = s.ks) := h.2;have HZ := hid hz;have J1 : n1 ≤ 1048576 := by rw [D7]; exact hz.c
 have J2 : n2 ≤ 1048576 := by rw [D8]; exact hz.w
 have J3 : n3 ≤ 1048576 := by rw [z9, ← List.length_map (f := (·.1)), h.2]; exact hz.k
 have J4 : n4 ≤ 1048576 := by rw [D9]; exact hz.b
 have z0 : Hid (∀ W, Bw w W → aD1 W B (.slice o1 s.cs.length c1) (.slice o2 s.ws.length c2) (.slice o3 n3 c3) (.slice o4 s.bl.length c4) kv s) := fun W hb => h.below hb
 have s2 : Hid (∀ W, Bw w W → aB8 W B (.slice o3 n3 c3) kv) := fun W hb => (h.below hb).kept
 have n7 : Hid (kv.length = n3) := z9.symm;clear D7 D8 z9 D9 h hz;have s3 : Hid (x1.size ≤ maxLen ∧ x2.size ≤ maxLen) := ⟨hx1, hx2⟩
 have I4 : Hid (∀ y ∈ s.bl ++ [(x0, x1, x2, x3)], y.2.1.size ≤ maxLen ∧ y.2.2.1.size ≤ maxLen) := fun y hy => by
  rcases List.mem_append.1 hy with h | h
  ·exact HZ.out.bm y h
  ·rw [List.mem_singleton.1 h]; exact ⟨hx1, hx2⟩
 have J5 := HZ.out.b;clear hx1 hx2;have K0 := jnil w;go_enter func18, ntmps18;go_upto_region 1 with fail
 obtain ⟨q1, E0⟩ := exq (w.heap.size);obtain ⟨w1, A0⟩ := exq (w.alloc (.cells #[.slice o1 s.cs.length c1, .slice o2 s.ws.length c2, .slice o3 n3 c3, .slice o4 s.bl.length c4, .int .i64 s.nx, .int .i64 s.sq] 43));have t6 := E0.symm;rw [← A0]; try rw [← E0];have H0 := hsa A0 t6;have bw := bal A0;have K1 := ja K0 A0 t6;clear bw A0 t6 K0;obtain ⟨q2, E1⟩ := exq (q1 + 1);obtain ⟨w2, A1⟩ := exq (w1.alloc (.cells #[.int .i64 x0, .string x1, .string x2, .int .i64 x3] 62));have t7 : w1.heap.size = q2 := by rw [E1]; exact H0
 rw [← A1]; try rw [← E1];have H1 := hsa A1 t7;have bw := bal A1;have K2 := ja K1 A1 t7;clear bw A1 t7 K1;obtain ⟨q3, E2⟩ := exq (q2 + 1);obtain ⟨w3, A2⟩ := exq (w2.alloc (.cells #[.slice none 0 0, .slice none 0 0, .slice none 0 0, .slice none 0 0, .int .i64 0, .int .i64 0] 43));have C6 : w2.heap.size = q3 := by rw [E2]; exact H1
 rw [← A2]; try rw [← E2];have I5 := hsa A2 C6;have bw := bal A2;have K3 := ja K2 A2 C6;have A3 : Hid (q1 ≠ q3) := fun e => by have h1 := (Array.getElem?_eq_some_iff.1 (jb K2 1 rfl)).1; omega
 have I6 : Hid (w.heap.size ≤ q3) := by show _ ≤ _; rw [← C6]; exact K2.hb.size
 clear bw A2 C6 K2;clear I5 E2 H1 E1 H0 E0;have n8 := c6c (jb K3 2 rfl);go_wp2_with fail
 refine (bH7 _ _ _ _ kv s B _ (by have h := (z0.out _ K3.hb); exact h) HZ.out).mono ?_;rintro e w4 ⟨us, rfl, C7, bw⟩;have K4 := jw K3 bw;clear bw K3;clear n8;cases us
 ·have E3 : Hid (¬ (aI5 s)) := fun h => nomatch C7.2 h
  clear C7;have q0 := c6f (jb K4 0 rfl);go_wp2_with fail
  obtain ⟨i3, t8⟩ := exq ((((((w4.setCell ⟨q3, 0, none⟩ (.slice none 0 0)).setCell ⟨q3, 1, none⟩ (.slice none 0 0)).setCell ⟨q3, 2, none⟩ (.slice none 0 0)).setCell ⟨q3, 3, none⟩ (.slice none 0 0)).setCell ⟨q3, 4, none⟩ (.int .i64 0)).setCell ⟨q3, 5, none⟩ (.int .i64 0));rw [← t8];have b6 := jss K4 0 [(0, _), (1, _), (2, _), (3, _), (4, _), (5, _)] t8;clear t8 K4;have e6 := c6c (jb b6 0 rfl);refine bodyPost_ret (v := .tuple #[.agg #[.slice none 0 0, .slice none 0 0, .slice none 0 0, .slice none 0 0, .int .i64 0, .int .i64 0], .bool false]) (by simp [results, results18, go_sem, e6]) rfl ?_;exact .inl ⟨E3.out, rfl, b6.hb⟩
 have m6 : Hid (aI5 s) := C7.1 rfl;clear C7;have J6 := m6.out.2.2.2.1.1;have J7 := m6.out.2.2.2.1.2;have t9 := c4c (jb K4 1 rfl);go_wp2_with fail
 refine (aN4 x0 x1 x2 x3 _ s3.out.1 s3.out.2).mono ?_;rintro e w5 ⟨ub, rfl, C8, bw⟩;have K5 := jw K4 bw;clear bw K4;clear t9;cases ub
 ·have E4 : Hid (¬ (BanP x0 x1 x2 x3)) := fun h => nomatch C8.2 h
  clear C8;have n8 := c6c (jb K5 2 rfl);go_wp2_with fail
  refine (aP4 _ _ _ _ kv s B _ (by have h := (z0.out _ K5.hb); exact h) HZ.out).mono ?_;rintro e w6 ⟨va, vb, vc, vd, kvc, rfl, d2, bw⟩;obtain ⟨oC, pC, rfl⟩ := aA0 d2.disk.cells;obtain ⟨oP, pP, rfl⟩ := aA0 d2.disk.pend;obtain ⟨oK, pK, rfl⟩ := d2.kept.len;obtain ⟨oE, pE, rfl⟩ := aA0 d2.bans;have q4 : Hid (w.heap.size ≤ w5.heap.size) := K5.hb.size;have K6 := jw K5 bw;clear bw K5;have i2 : Hid (aA2 (w6) w.heap.size (aB2 (.slice oC s.cs.length pC) (.slice oP s.ws.length pP) (.slice oK kvc.length pK) (.slice oE s.bl.length pE) kvc s.cs s.ws s.bl)) := d2.1.wide q4.out;have v0 : Hid (kvc.map (·.1) = s.ks) := d2.2;clear d2;clear n8;have q0 := c6f (jb K6 0 rfl);go_wp2_with fail
  obtain ⟨q6, b3⟩ := exq ((((((w6.setCell ⟨q3, 0, none⟩ (.slice oC s.cs.length pC)).setCell ⟨q3, 1, none⟩ (.slice oP s.ws.length pP)).setCell ⟨q3, 2, none⟩ (.slice oK kvc.length pK)).setCell ⟨q3, 3, none⟩ (.slice oE s.bl.length pE)).setCell ⟨q3, 4, none⟩ (.int .i64 s.nx)).setCell ⟨q3, 5, none⟩ (.int .i64 s.sq));rw [← b3];have a9 := jss K6 0 [(0, _), (1, _), (2, _), (3, _), (4, _), (5, _)] b3;have a7 := hid (jrs [(0, _), (1, _), (2, _), (3, _), (4, _), (5, _)] i2.out b3 (jb K6 0 rfl) (aC1 (by decide) (by decide) (by decide) (by decide) (by decide)));clear b3 K6;have e6 := c6c (jb a9 0 rfl);refine bodyPost_ret (v := .tuple #[.agg #[.slice oC s.cs.length pC, .slice oP s.ws.length pP, .slice oK kvc.length pK, .slice oE s.bl.length pE, .int .i64 s.nx, .int .i64 s.sq], .bool false]) (by simp [results, results18, go_sem, e6]) rfl ?_;exact .inr ⟨s, false, _, _, _, _, kvc, m6.out, .inl ⟨rfl, fun h => E4.out h.1, rfl⟩, rfl, ⟨a7.out, v0.out⟩, a9.hb⟩
 have k2 : Hid (BanP x0 x1 x2 x3) := C8.1 rfl;clear C8;by_cases hc1 : (s.bl.length : Int) = 5
 ·have E5 : (((s.bl.length : Int) : Int) == (5 : Int)) = true := by simpa using hc1
  have E6 : (((s.bl.length : Int) : Int) != (5 : Int)) = false := by simpa using hc1
  have E7 : Hid ((s.bl.length = 5)) := (by have := hc1; show _ = _; omega);have E8 := hid hc1;clear hc1;have q7 := c6c (jb K5 2 rfl);go_wp2_with fail
  refine (aP4 _ _ _ _ kv s B _ (by have h := (z0.out _ K5.hb); exact h) HZ.out).mono ?_;rintro e w6 ⟨va, vb, vc, vd, kvc, rfl, d2, bw⟩;obtain ⟨oC, pC, rfl⟩ := aA0 d2.disk.cells;obtain ⟨oP, pP, rfl⟩ := aA0 d2.disk.pend;obtain ⟨oK, pK, rfl⟩ := d2.kept.len;obtain ⟨oE, pE, rfl⟩ := aA0 d2.bans;have q4 : Hid (w.heap.size ≤ w5.heap.size) := K5.hb.size;have K6 := jw K5 bw;clear bw K5;have i2 : Hid (aA2 (w6) w.heap.size (aB2 (.slice oC s.cs.length pC) (.slice oP s.ws.length pP) (.slice oK kvc.length pK) (.slice oE s.bl.length pE) kvc s.cs s.ws s.bl)) := d2.1.wide q4.out;have v0 : Hid (kvc.map (·.1) = s.ks) := d2.2;clear d2;clear q7;have q0 := c6f (jb K6 0 rfl);go_wp2_with fail
  obtain ⟨q6, b3⟩ := exq ((((((w6.setCell ⟨q3, 0, none⟩ (.slice oC s.cs.length pC)).setCell ⟨q3, 1, none⟩ (.slice oP s.ws.length pP)).setCell ⟨q3, 2, none⟩ (.slice oK kvc.length pK)).setCell ⟨q3, 3, none⟩ (.slice oE s.bl.length pE)).setCell ⟨q3, 4, none⟩ (.int .i64 s.nx)).setCell ⟨q3, 5, none⟩ (.int .i64 s.sq));rw [← b3];have a9 := jss K6 0 [(0, _), (1, _), (2, _), (3, _), (4, _), (5, _)] b3;have a7 := hid (jrs [(0, _), (1, _), (2, _), (3, _), (4, _), (5, _)] i2.out b3 (jb K6 0 rfl) (aC1 (by decide) (by decide) (by decide) (by decide) (by decide)));clear b3 K6;have e6 := c6c (jb a9 0 rfl);refine bodyPost_ret (v := .tuple #[.agg #[.slice oC s.cs.length pC, .slice oP s.ws.length pP, .slice oK kvc.length pK, .slice oE s.bl.length pE, .int .i64 s.nx, .int .i64 s.sq], .bool false]) (by simp [results, results18, go_sem, e6]) rfl ?_;exact .inr ⟨s, false, _, _, _, _, kvc, m6.out, .inl ⟨rfl, fun h => h.2.1 E7.out, rfl⟩, rfl, ⟨a7.out, v0.out⟩, a9.hb⟩
 have E5 : (((s.bl.length : Int) : Int) == (5 : Int)) = false := by simpa using hc1
 have E6 : (((s.bl.length : Int) : Int) != (5 : Int)) = true := by simpa using hc1
 have E7 : Hid (¬ (s.bl.length = 5)) := (by have := hc1; show ¬ _; omega);have E8 := hid hc1;clear hc1;have q7 := c6c (jb K5 2 rfl);by_cases hc2 : s.sq = 100000
 ·have E9 : ((s.sq : Int) == (100000 : Int)) = true := by simpa using hc2
  have F0 : ((s.sq : Int) != (100000 : Int)) = false := by simpa using hc2
  have F1 := hid hc2;have F2 := hid hc2;clear hc2;have n8 := c6c (jb K5 2 rfl);go_wp2_with fail
  refine (aP4 _ _ _ _ kv s B _ (by have h := (z0.out _ K5.hb); exact h) HZ.out).mono ?_;rintro e w6 ⟨va, vb, vc, vd, kvc, rfl, d2, bw⟩;obtain ⟨oC, pC, rfl⟩ := aA0 d2.disk.cells;obtain ⟨oP, pP, rfl⟩ := aA0 d2.disk.pend;obtain ⟨oK, pK, rfl⟩ := d2.kept.len;obtain ⟨oE, pE, rfl⟩ := aA0 d2.bans;have q4 : Hid (w.heap.size ≤ w5.heap.size) := K5.hb.size;have K6 := jw K5 bw;clear bw K5;have i2 : Hid (aA2 (w6) w.heap.size (aB2 (.slice oC s.cs.length pC) (.slice oP s.ws.length pP) (.slice oK kvc.length pK) (.slice oE s.bl.length pE) kvc s.cs s.ws s.bl)) := d2.1.wide q4.out;have v0 : Hid (kvc.map (·.1) = s.ks) := d2.2;clear d2;clear q7 n8;have q0 := c6f (jb K6 0 rfl);go_wp2_with fail
  obtain ⟨q6, b3⟩ := exq ((((((w6.setCell ⟨q3, 0, none⟩ (.slice oC s.cs.length pC)).setCell ⟨q3, 1, none⟩ (.slice oP s.ws.length pP)).setCell ⟨q3, 2, none⟩ (.slice oK kvc.length pK)).setCell ⟨q3, 3, none⟩ (.slice oE s.bl.length pE)).setCell ⟨q3, 4, none⟩ (.int .i64 s.nx)).setCell ⟨q3, 5, none⟩ (.int .i64 s.sq));rw [← b3];have a9 := jss K6 0 [(0, _), (1, _), (2, _), (3, _), (4, _), (5, _)] b3;have a7 := hid (jrs [(0, _), (1, _), (2, _), (3, _), (4, _), (5, _)] i2.out b3 (jb K6 0 rfl) (aC1 (by decide) (by decide) (by decide) (by decide) (by decide)));clear b3 K6;have e6 := c6c (jb a9 0 rfl);refine bodyPost_ret (v := .tuple #[.agg #[.slice oC s.cs.length pC, .slice oP s.ws.length pP, .slice oK kvc.length pK, .slice oE s.bl.length pE, .int .i64 s.nx, .int .i64 s.sq], .bool false]) (by simp [results, results18, go_sem, e6]) rfl ?_;exact .inr ⟨s, false, _, _, _, _, kvc, m6.out, .inl ⟨rfl, fun h => h.2.2 F1.out, rfl⟩, rfl, ⟨a7.out, v0.out⟩, a9.hb⟩
 have E9 : ((s.sq : Int) == (100000 : Int)) = false := by simpa using hc2
 have F0 : ((s.sq : Int) != (100000 : Int)) = true := by simpa using hc2
 have F1 := hid hc2;have F2 := hid hc2;clear hc2;go_upto_region 5 with fail
 clear q7;go_cut [6] (fun sx6 wx => ∃ (q : Nat) (cs2 : Ts) (ws2 : List (Int × ByteArray)) (kvc : Ks) (tt : Tx) (oC2 : Oa) (pC2 : Nat) (oP2 : Oa) (pP2 : Nat) (oK : Oa) (pK : Nat) (oE : Oa) (pE : Nat), sx6 = .pointer (some ⟨q, 0, none⟩) ∧ Hid (aN2 s.cs s.ws (s.bl.length : Int) tt cs2 ws2 ∧ tt = recI s.sq (banT x0 x1 x2 x3)) ∧ Hid (Bw w wx ∧ (wx).heap[q1]? = some (.cells #[.slice o1 s.cs.length c1, .slice o2 s.ws.length c2, .slice o3 n3 c3, .slice o4 s.bl.length c4, .int .i64 s.nx, .int .i64 s.sq] 43) ∧ (wx).heap[q2]? = some (.cells #[.int .i64 x0, .string x1, .string x2, .int .i64 x3] 62) ∧ (wx).heap[q3]? = some (.cells #[.slice none 0 0, .slice none 0 0, .slice none 0 0, .slice none 0 0, .int .i64 0, .int .i64 0] 43) ∧ wx.heap[q]? = some (.cells #[.slice oC2 cs2.length pC2, .slice oP2 ws2.length pP2, .slice oK kvc.length pK, .slice oE s.bl.length pE, .int .i64 s.nx, .int .i64 s.sq] 43) ∧ aA2 wx w.heap.size (aB2 (.slice oC2 cs2.length pC2) (.slice oP2 ws2.length pP2) (.slice oK kvc.length pK) (.slice oE s.bl.length pE) kvc cs2 ws2 s.bl) ∧ w.heap.size ≤ q ∧ q1 ≠ q ∧ q2 ≠ q ∧ q3 ≠ q))
 case first =>
  refine wp_region_held_drew (S := fun W => W.heap[q1]? = some (.cells #[.slice o1 s.cs.length c1, .slice o2 s.ws.length c2, .slice o3 n3 c3, .slice o4 s.bl.length c4, .int .i64 s.nx, .int .i64 s.sq] 43) ∧ W.heap[q2]? = some (.cells #[.int .i64 x0, .string x1, .string x2, .int .i64 x3] 62)) (by kernel_rfl) ⟨(jb K5 2 rfl), (jb K5 1 rfl)⟩ (fun _ => ?_)
  obtain ⟨w6, hX⟩ := exq w5.drew;have bw := bdr hX;rw [← hX];have K6 := jw K5 bw;have q8 := And.intro (jb K6 2 rfl) (jb K6 1 rfl);clear bw hX K5;refine tkL 0 (.agg #[.slice o1 s.cs.length c1, .slice o2 s.ws.length c2, .slice o3 n3 c3, .slice o4 s.bl.length c4, .int .i64 s.nx, .int .i64 s.sq]) 28 rfl rfl (Or.inl ⟨by rfl, by intro W hW; obtain ⟨d3, q9⟩ := hW; have y0 := c6c d3; go_simp⟩) q8 ?_;go_frame;refine tkP 2 (.pointer (some ⟨q1, 3, none⟩)) 30 rfl rfl q8 ?_;go_frame;refine tkL 3 (.slice o4 s.bl.length c4) 31 rfl rfl (Or.inl ⟨by rfl, by intro W hW; obtain ⟨d3, q9⟩ := hW; have y3 := c6c d3; go_simp⟩) q8 ?_;go_frame;refine tkP 4 (.int .i64 (s.bl.length : Int)) 32 rfl rfl q8 (tkP 5 (.pointer (some ⟨q1, 5, none⟩)) 33 rfl rfl q8 ?_);go_frame;refine tkL 6 (.int .i64 s.sq) 34 rfl rfl (Or.inl ⟨by rfl, by intro W hW; obtain ⟨d3, q9⟩ := hW; have y5 := c6c d3; go_simp⟩) q8 ?_;go_frame;refine tkL 7 (.agg #[.int .i64 x0, .string x1, .string x2, .int .i64 x3]) 35 rfl rfl (Or.inl ⟨by rfl, by intro W hW; obtain ⟨d3, q9⟩ := hW; have y0 := c4c q9; go_simp⟩) q8 ?_;go_frame;refine wpAnyH_ready (rs := [1, 11]) (by kernel_rfl) (by simp) ?_;refine AllReadyH.cons rfl (fun K hK => ?_) (AllReadyH.cons rfl (fun K hK => ?_) AllReadyH.nil)
  ·go_simp;refine (aP4 _ _ _ _ kv s B _ (by have h := (z0.out _ K6.hb); exact h) HZ.out).mono ?_;rintro e w7 ⟨va, vb, vc, vd, kvc, rfl, d2, bw⟩;obtain ⟨oC, pC, rfl⟩ := aA0 d2.disk.cells;obtain ⟨oP, pP, rfl⟩ := aA0 d2.disk.pend;obtain ⟨oK, pK, rfl⟩ := d2.kept.len;obtain ⟨oE, pE, rfl⟩ := aA0 d2.bans;have q4 : Hid (w.heap.size ≤ w6.heap.size) := K6.hb.size;have K7 := jw K6 bw;clear bw K6;have m7 : Hid (aA2 (w7) w.heap.size (aB2 (.slice oC s.cs.length pC) (.slice oP s.ws.length pP) (.slice oK kvc.length pK) (.slice oE s.bl.length pE) kvc s.cs s.ws s.bl)) := d2.1.wide q4.out;have v0 : Hid (kvc.map (·.1) = s.ks) := d2.2;clear d2;have A4 := And.intro (jb K7 2 rfl) (jb K7 1 rfl);refine hK.out _ _ A4 (fun _ => ?_)
   clear hK K q8;refine wpAnyH_ready (rs := [8, 11]) (by kernel_rfl) (by simp) ?_;refine AllReadyH.cons rfl (fun K hK => ?_) (AllReadyH.cons rfl (fun K hK => ?_) AllReadyH.nil)
   ·go_simp;refine (aP5 x0 x1 x2 x3 _ s3.out.1 s3.out.2).mono ?_;rintro e w8 ⟨ut, rfl, j6, n9, bw⟩;have r0 : Hid (ut = banT x0 x1 x2 x3) := j6 k2.out;clear j6 n9;have z1 : Hid (ut.size ≤ 4000000) := by show _ ≤ _; rw [r0.out]; exact Nat.le_trans (aV3 k2.out) (by decide)
    have K8 := jw K7 bw;have j7 := hid (aA2.below m7.out bw);clear bw K7;have s4 := And.intro (jb K8 2 rfl) (jb K8 1 rfl);refine hK.out _ _ s4 (fun _ => ?_)
    clear hK K A4;refine wpAnyH_ready (rs := [9, 11]) (by kernel_rfl) (by simp) ?_;refine AllReadyH.cons rfl (fun K hK => ?_) (AllReadyH.cons rfl (fun K hK => ?_) AllReadyH.nil)
    ·go_simp;refine (aK7 s.sq ut _ z1.out).mono ?_;rintro e w9 ⟨rfl, bw⟩;obtain ⟨tt, k3⟩ := exq (recI s.sq ut);rw [← k3];have p9 : Hid (tt = recI s.sq (banT x0 x1 x2 x3)) := by show _ = _; rw [k3, r0.out]
     clear k3;have K9 := jw K8 bw;have h2 := hid (aA2.below j7.out bw);clear bw K8;have o0 := And.intro (jb K9 2 rfl) (jb K9 1 rfl);refine hK.out _ _ o0 (fun _ => ?_)
     clear hK K s4;refine wpAnyH_ready (rs := [10, 11]) (by kernel_rfl) (by simp) ?_;refine AllReadyH.cons rfl (fun K hK => ?_) (AllReadyH.cons rfl (fun K hK => ?_) AllReadyH.nil)
     ·go_simp;refine (aS0 _ _ _ _ kvc s.cs s.ws s.bl s.nx s.sq (s.bl.length : Int) tt w.heap.size _ h2.out K9.hb.size HZ.out.c HZ.out.w).mono ?_;rintro e i3 ⟨va, vb, cs2, ws2, rfl, l1, g8, bw⟩;have m8 := hid l1;obtain ⟨oC2, pC2, rfl⟩ := aA0 (aS1 g8);obtain ⟨oP2, pP2, rfl⟩ := aA0 (aW7 g8);clear l1;have b6 := jw K9 bw;have a8 := hid (aA2.below h2.out bw);clear bw K9;clear a8;have a8 : Hid (aA2 (i3) w.heap.size (aB2 (.slice oC2 cs2.length pC2) (.slice oP2 ws2.length pP2) (.slice oK kvc.length pK) (.slice oE s.bl.length pE) kvc cs2 ws2 s.bl)) := g8;clear g8;have f8 := And.intro (jb b6 2 rfl) (jb b6 1 rfl);refine hK.out _ _ f8 (fun _ => ?_)
      clear hK K o0;refine rd1 11 rfl (fun K hK => ?_)
      go_simp;have bw : Below i3.heap.size i3 (i3.alloc (.cells #[.slice none 0 0, .slice none 0 0, .slice none 0 0, .slice none 0 0, .int .i64 0, .int .i64 0] 43)) := (Below.refl _ _).alloc (Nat.le_refl _) _;have h3 := And.intro (aA3 (jb b6 2 rfl) bw) (aA3 (jb b6 1 rfl) bw);refine hK.out _ _ h3 (fun _ => ?_)
      clear hK K h3 bw f8;obtain ⟨qN1, b1⟩ := exq (i3.heap.size);obtain ⟨k4, d4⟩ := exq ((i3.alloc (.cells #[.slice none 0 0, .slice none 0 0, .slice none 0 0, .slice none 0 0, .int .i64 0, .int .i64 0] 43)));rw [← b1, ← d4];have bw := bal d4;have d6 := ja b6 d4 b1.symm;have a6 := hid (aA2.below a8.out bw);have a2 : Hid (q1 ≠ qN1) := fun e => by have h1 := (Array.getElem?_eq_some_iff.1 (jb b6 2 rfl)).1; omega
      have b0 : Hid (q2 ≠ qN1) := fun e => by have h1 := (Array.getElem?_eq_some_iff.1 (jb b6 1 rfl)).1; omega
      have a0 : Hid (q3 ≠ qN1) := fun e => by have h1 := (Array.getElem?_eq_some_iff.1 (jb b6 0 rfl)).1; omega
      have d7 : Hid (w.heap.size ≤ qN1) := by show _ ≤ _; rw [b1]; exact b6.hb.size
      have f9 := And.intro (jb d6 3 rfl) (jb d6 2 rfl);clear bw d4 b1 b6;refine rd1 12 rfl (fun K hK => ?_)
      have r1 := c6f (jb d6 0 rfl);obtain ⟨q6, hY⟩ := exq (((((((k4.setCell ⟨qN1, 0, none⟩ (.slice oC2 cs2.length pC2)).setCell ⟨qN1, 1, none⟩ (.slice oP2 ws2.length pP2)).setCell ⟨qN1, 2, none⟩ (.slice oK kvc.length pK)).setCell ⟨qN1, 3, none⟩ (.slice oE s.bl.length pE)).setCell ⟨qN1, 4, none⟩ (.int .i64 s.nx)).setCell ⟨qN1, 5, none⟩ (.int .i64 s.sq)));have HY := hsy hY;have a9 := jss d6 0 [(0, _), (1, _), (2, _), (3, _), (4, _), (5, _)] hY;have a7 := hid (jrs [(0, _), (1, _), (2, _), (3, _), (4, _), (5, _)] a6.out hY (jb d6 0 rfl) (aC1 (by decide) (by decide) (by decide) (by decide) (by decide)));clear hY d6;go_simp;rw [HY.out];have e7 := And.intro (jb a9 3 rfl) (jb a9 2 rfl);refine hK.out _ _ e7 (fun _ => ?_)
      clear hK K HY f9 r1;clear e7;refine wdn ?_;go_wp2_with fail
      go_meet
      exact ⟨qN1, cs2, ws2, kvc, tt, oC2, pC2, oP2, pP2, oK, pK, oE, pE, rfl, ⟨m8.out, p9.out⟩, ⟨a9.hb, (jb a9 3 rfl), (jb a9 2 rfl), (jb a9 1 rfl), (jb a9 0 rfl), a7.out, d7.out, a2.out, b0.out, a0.out⟩⟩
     go_simp;have bw : Below w9.heap.size w9 (w9.alloc (.cells #[.slice none 0 0, .slice none 0 0, .slice none 0 0, .slice none 0 0, .int .i64 0, .int .i64 0] 43)) := (Below.refl _ _).alloc (Nat.le_refl _) _;have h3 := And.intro (aA3 (jb K9 2 rfl) bw) (aA3 (jb K9 1 rfl) bw);refine hK.out _ _ h3 (fun _ => ?_)
     clear hK K h3 bw o0;obtain ⟨qN1, b1⟩ := exq (w9.heap.size);obtain ⟨i3, d4⟩ := exq ((w9.alloc (.cells #[.slice none 0 0, .slice none 0 0, .slice none 0 0, .slice none 0 0, .int .i64 0, .int .i64 0] 43)));rw [← b1, ← d4];have bw := bal d4;have b6 := ja K9 d4 b1.symm;have a8 := hid (aA2.below h2.out bw);have a2 : Hid (q1 ≠ qN1) := fun e => by have h1 := (Array.getElem?_eq_some_iff.1 (jb K9 2 rfl)).1; omega
     have b0 : Hid (q2 ≠ qN1) := fun e => by have h1 := (Array.getElem?_eq_some_iff.1 (jb K9 1 rfl)).1; omega
     have a0 : Hid (q3 ≠ qN1) := fun e => by have h1 := (Array.getElem?_eq_some_iff.1 (jb K9 0 rfl)).1; omega
     have d7 : Hid (w.heap.size ≤ qN1) := by show _ ≤ _; rw [b1]; exact K9.hb.size
     have f8 := And.intro (jb b6 3 rfl) (jb b6 2 rfl);clear bw d4 b1 K9;refine rd1 10 rfl (fun K hK => ?_)
     go_simp;refine (aS0 _ _ _ _ kvc s.cs s.ws s.bl s.nx s.sq (s.bl.length : Int) tt w.heap.size _ a8.out b6.hb.size HZ.out.c HZ.out.w).mono ?_;rintro e k4 ⟨va, vb, cs2, ws2, rfl, l1, g8, bw⟩;have m8 := hid l1;obtain ⟨oC2, pC2, rfl⟩ := aA0 (aS1 g8);obtain ⟨oP2, pP2, rfl⟩ := aA0 (aW7 g8);clear l1;have d6 := jw b6 bw;have a6 := hid (aA2.below a8.out bw);clear bw b6;clear a6;have a6 : Hid (aA2 (k4) w.heap.size (aB2 (.slice oC2 cs2.length pC2) (.slice oP2 ws2.length pP2) (.slice oK kvc.length pK) (.slice oE s.bl.length pE) kvc cs2 ws2 s.bl)) := g8;clear g8;have f9 := And.intro (jb d6 3 rfl) (jb d6 2 rfl);refine hK.out _ _ f9 (fun _ => ?_)
     clear hK K f8;refine rd1 12 rfl (fun K hK => ?_)
     have r1 := c6f (jb d6 0 rfl);obtain ⟨q6, hY⟩ := exq (((((((k4.setCell ⟨qN1, 0, none⟩ (.slice oC2 cs2.length pC2)).setCell ⟨qN1, 1, none⟩ (.slice oP2 ws2.length pP2)).setCell ⟨qN1, 2, none⟩ (.slice oK kvc.length pK)).setCell ⟨qN1, 3, none⟩ (.slice oE s.bl.length pE)).setCell ⟨qN1, 4, none⟩ (.int .i64 s.nx)).setCell ⟨qN1, 5, none⟩ (.int .i64 s.sq)));have HY := hsy hY;have a9 := jss d6 0 [(0, _), (1, _), (2, _), (3, _), (4, _), (5, _)] hY;have a7 := hid (jrs [(0, _), (1, _), (2, _), (3, _), (4, _), (5, _)] a6.out hY (jb d6 0 rfl) (aC1 (by decide) (by decide) (by decide) (by decide) (by decide)));clear hY d6;go_simp;rw [HY.out];have e7 := And.intro (jb a9 3 rfl) (jb a9 2 rfl);refine hK.out _ _ e7 (fun _ => ?_)
     clear hK K HY f9 r1;clear e7;refine wdn ?_;go_wp2_with fail
     go_meet
     exact ⟨qN1, cs2, ws2, kvc, tt, oC2, pC2, oP2, pP2, oK, pK, oE, pE, rfl, ⟨m8.out, p9.out⟩, ⟨a9.hb, (jb a9 3 rfl), (jb a9 2 rfl), (jb a9 1 rfl), (jb a9 0 rfl), a7.out, d7.out, a2.out, b0.out, a0.out⟩⟩
    go_simp;have bw : Below w8.heap.size w8 (w8.alloc (.cells #[.slice none 0 0, .slice none 0 0, .slice none 0 0, .slice none 0 0, .int .i64 0, .int .i64 0] 43)) := (Below.refl _ _).alloc (Nat.le_refl _) _;have h3 := And.intro (aA3 (jb K8 2 rfl) bw) (aA3 (jb K8 1 rfl) bw);refine hK.out _ _ h3 (fun _ => ?_)
    clear hK K h3 bw s4;obtain ⟨qN1, b1⟩ := exq (w8.heap.size);obtain ⟨w9, d4⟩ := exq ((w8.alloc (.cells #[.slice none 0 0, .slice none 0 0, .slice none 0 0, .slice none 0 0, .int .i64 0, .int .i64 0] 43)));rw [← b1, ← d4];have bw := bal d4;have K9 := ja K8 d4 b1.symm;have h2 := hid (aA2.below j7.out bw);have a2 : Hid (q1 ≠ qN1) := fun e => by have h1 := (Array.getElem?_eq_some_iff.1 (jb K8 2 rfl)).1; omega
    have b0 : Hid (q2 ≠ qN1) := fun e => by have h1 := (Array.getElem?_eq_some_iff.1 (jb K8 1 rfl)).1; omega
    have a0 : Hid (q3 ≠ qN1) := fun e => by have h1 := (Array.getElem?_eq_some_iff.1 (jb K8 0 rfl)).1; omega
    have d7 : Hid (w.heap.size ≤ qN1) := by show _ ≤ _; rw [b1]; exact K8.hb.size
    have o0 := And.intro (jb K9 3 rfl) (jb K9 2 rfl);clear bw d4 b1 K8;refine rd1 9 rfl (fun K hK => ?_)
    go_simp;refine (aK7 s.sq ut _ z1.out).mono ?_;rintro e i3 ⟨rfl, bw⟩;obtain ⟨tt, k3⟩ := exq (recI s.sq ut);rw [← k3];have p9 : Hid (tt = recI s.sq (banT x0 x1 x2 x3)) := by show _ = _; rw [k3, r0.out]
    clear k3;have b6 := jw K9 bw;have a8 := hid (aA2.below h2.out bw);clear bw K9;have f8 := And.intro (jb b6 3 rfl) (jb b6 2 rfl);refine hK.out _ _ f8 (fun _ => ?_)
    clear hK K o0;refine rd1 10 rfl (fun K hK => ?_)
    go_simp;refine (aS0 _ _ _ _ kvc s.cs s.ws s.bl s.nx s.sq (s.bl.length : Int) tt w.heap.size _ a8.out b6.hb.size HZ.out.c HZ.out.w).mono ?_;rintro e k4 ⟨va, vb, cs2, ws2, rfl, l1, g8, bw⟩;have m8 := hid l1;obtain ⟨oC2, pC2, rfl⟩ := aA0 (aS1 g8);obtain ⟨oP2, pP2, rfl⟩ := aA0 (aW7 g8);clear l1;have d6 := jw b6 bw;have a6 := hid (aA2.below a8.out bw);clear bw b6;clear a6;have a6 : Hid (aA2 (k4) w.heap.size (aB2 (.slice oC2 cs2.length pC2) (.slice oP2 ws2.length pP2) (.slice oK kvc.length pK) (.slice oE s.bl.length pE) kvc cs2 ws2 s.bl)) := g8;clear g8;have f9 := And.intro (jb d6 3 rfl) (jb d6 2 rfl);refine hK.out _ _ f9 (fun _ => ?_)
    clear hK K f8;refine rd1 12 rfl (fun K hK => ?_)
    have r1 := c6f (jb d6 0 rfl);obtain ⟨q6, hY⟩ := exq (((((((k4.setCell ⟨qN1, 0, none⟩ (.slice oC2 cs2.length pC2)).setCell ⟨qN1, 1, none⟩ (.slice oP2 ws2.length pP2)).setCell ⟨qN1, 2, none⟩ (.slice oK kvc.length pK)).setCell ⟨qN1, 3, none⟩ (.slice oE s.bl.length pE)).setCell ⟨qN1, 4, none⟩ (.int .i64 s.nx)).setCell ⟨qN1, 5, none⟩ (.int .i64 s.sq)));have HY := hsy hY;have a9 := jss d6 0 [(0, _), (1, _), (2, _), (3, _), (4, _), (5, _)] hY;have a7 := hid (jrs [(0, _), (1, _), (2, _), (3, _), (4, _), (5, _)] a6.out hY (jb d6 0 rfl) (aC1 (by decide) (by decide) (by decide) (by decide) (by decide)));clear hY d6;go_simp;rw [HY.out];have e7 := And.intro (jb a9 3 rfl) (jb a9 2 rfl);refine hK.out _ _ e7 (fun _ => ?_)
    clear hK K HY f9 r1;clear e7;refine wdn ?_;go_wp2_with fail
    go_meet
    exact ⟨qN1, cs2, ws2, kvc, tt, oC2, pC2, oP2, pP2, oK, pK, oE, pE, rfl, ⟨m8.out, p9.out⟩, ⟨a9.hb, (jb a9 3 rfl), (jb a9 2 rfl), (jb a9 1 rfl), (jb a9 0 rfl), a7.out, d7.out, a2.out, b0.out, a0.out⟩⟩
   go_simp;have bw : Below w7.heap.size w7 (w7.alloc (.cells #[.slice none 0 0, .slice none 0 0, .slice none 0 0, .slice none 0 0, .int .i64 0, .int .i64 0] 43)) := (Below.refl _ _).alloc (Nat.le_refl _) _;have h3 := And.intro (aA3 (jb K7 2 rfl) bw) (aA3 (jb K7 1 rfl) bw);refine hK.out _ _ h3 (fun _ => ?_)
   clear hK K h3 bw A4;obtain ⟨qN1, b1⟩ := exq (w7.heap.size);obtain ⟨w8, d4⟩ := exq ((w7.alloc (.cells #[.slice none 0 0, .slice none 0 0, .slice none 0 0, .slice none 0 0, .int .i64 0, .int .i64 0] 43)));rw [← b1, ← d4];have bw := bal d4;have K8 := ja K7 d4 b1.symm;have j7 := hid (aA2.below m7.out bw);have a2 : Hid (q1 ≠ qN1) := fun e => by have h1 := (Array.getElem?_eq_some_iff.1 (jb K7 2 rfl)).1; omega
   have b0 : Hid (q2 ≠ qN1) := fun e => by have h1 := (Array.getElem?_eq_some_iff.1 (jb K7 1 rfl)).1; omega
   have a0 : Hid (q3 ≠ qN1) := fun e => by have h1 := (Array.getElem?_eq_some_iff.1 (jb K7 0 rfl)).1; omega
   have d7 : Hid (w.heap.size ≤ qN1) := by show _ ≤ _; rw [b1]; exact K7.hb.size
   have s4 := And.intro (jb K8 3 rfl) (jb K8 2 rfl);clear bw d4 b1 K7;refine rd1 8 rfl (fun K hK => ?_)
   go_simp;refine (aP5 x0 x1 x2 x3 _ s3.out.1 s3.out.2).mono ?_;rintro e w9 ⟨ut, rfl, j6, n9, bw⟩;have r0 : Hid (ut = banT x0 x1 x2 x3) := j6 k2.out;clear j6 n9;have z1 : Hid (ut.size ≤ 4000000) := by show _ ≤ _; rw [r0.out]; exact Nat.le_trans (aV3 k2.out) (by decide)
   have K9 := jw K8 bw;have h2 := hid (aA2.below j7.out bw);clear bw K8;have o0 := And.intro (jb K9 3 rfl) (jb K9 2 rfl);refine hK.out _ _ o0 (fun _ => ?_)
   clear hK K s4;refine rd1 9 rfl (fun K hK => ?_)
   go_simp;refine (aK7 s.sq ut _ z1.out).mono ?_;rintro e i3 ⟨rfl, bw⟩;obtain ⟨tt, k3⟩ := exq (recI s.sq ut);rw [← k3];have p9 : Hid (tt = recI s.sq (banT x0 x1 x2 x3)) := by show _ = _; rw [k3, r0.out]
   clear k3;have b6 := jw K9 bw;have a8 := hid (aA2.below h2.out bw);clear bw K9;have f8 := And.intro (jb b6 3 rfl) (jb b6 2 rfl);refine hK.out _ _ f8 (fun _ => ?_)
   clear hK K o0;refine rd1 10 rfl (fun K hK => ?_)
   go_simp;refine (aS0 _ _ _ _ kvc s.cs s.ws s.bl s.nx s.sq (s.bl.length : Int) tt w.heap.size _ a8.out b6.hb.size HZ.out.c HZ.out.w).mono ?_;rintro e k4 ⟨va, vb, cs2, ws2, rfl, l1, g8, bw⟩;have m8 := hid l1;obtain ⟨oC2, pC2, rfl⟩ := aA0 (aS1 g8);obtain ⟨oP2, pP2, rfl⟩ := aA0 (aW7 g8);clear l1;have d6 := jw b6 bw;have a6 := hid (aA2.below a8.out bw);clear bw b6;clear a6;have a6 : Hid (aA2 (k4) w.heap.size (aB2 (.slice oC2 cs2.length pC2) (.slice oP2 ws2.length pP2) (.slice oK kvc.length pK) (.slice oE s.bl.length pE) kvc cs2 ws2 s.bl)) := g8;clear g8;have f9 := And.intro (jb d6 3 rfl) (jb d6 2 rfl);refine hK.out _ _ f9 (fun _ => ?_)
   clear hK K f8;refine rd1 12 rfl (fun K hK => ?_)
   have r1 := c6f (jb d6 0 rfl);obtain ⟨q6, hY⟩ := exq (((((((k4.setCell ⟨qN1, 0, none⟩ (.slice oC2 cs2.length pC2)).setCell ⟨qN1, 1, none⟩ (.slice oP2 ws2.length pP2)).setCell ⟨qN1, 2, none⟩ (.slice oK kvc.length pK)).setCell ⟨qN1, 3, none⟩ (.slice oE s.bl.length pE)).setCell ⟨qN1, 4, none⟩ (.int .i64 s.nx)).setCell ⟨qN1, 5, none⟩ (.int .i64 s.sq)));have HY := hsy hY;have a9 := jss d6 0 [(0, _), (1, _), (2, _), (3, _), (4, _), (5, _)] hY;have a7 := hid (jrs [(0, _), (1, _), (2, _), (3, _), (4, _), (5, _)] a6.out hY (jb d6 0 rfl) (aC1 (by decide) (by decide) (by decide) (by decide) (by decide)));clear hY d6;go_simp;rw [HY.out];have e7 := And.intro (jb a9 3 rfl) (jb a9 2 rfl);refine hK.out _ _ e7 (fun _ => ?_)
   clear hK K HY f9 r1;clear e7;refine wdn ?_;go_wp2_with fail
   go_meet
   exact ⟨qN1, cs2, ws2, kvc, tt, oC2, pC2, oP2, pP2, oK, pK, oE, pE, rfl, ⟨m8.out, p9.out⟩, ⟨a9.hb, (jb a9 3 rfl), (jb a9 2 rfl), (jb a9 1 rfl), (jb a9 0 rfl), a7.out, d7.out, a2.out, b0.out, a0.out⟩⟩
  go_simp;have bw : Below w6.heap.size w6 (w6.alloc (.cells #[.slice none 0 0, .slice none 0 0, .slice none 0 0, .slice none 0 0, .int .i64 0, .int .i64 0] 43)) := (Below.refl _ _).alloc (Nat.le_refl _) _;have h3 := And.intro (aA3 (jb K6 2 rfl) bw) (aA3 (jb K6 1 rfl) bw);refine hK.out _ _ h3 (fun _ => ?_)
  clear hK K h3 bw q8;obtain ⟨qN1, b1⟩ := exq (w6.heap.size);obtain ⟨w7, d4⟩ := exq ((w6.alloc (.cells #[.slice none 0 0, .slice none 0 0, .slice none 0 0, .slice none 0 0, .int .i64 0, .int .i64 0] 43)));rw [← b1, ← d4];have bw := bal d4;have K7 := ja K6 d4 b1.symm;have a2 : Hid (q1 ≠ qN1) := fun e => by have h1 := (Array.getElem?_eq_some_iff.1 (jb K6 2 rfl)).1; omega
  have b0 : Hid (q2 ≠ qN1) := fun e => by have h1 := (Array.getElem?_eq_some_iff.1 (jb K6 1 rfl)).1; omega
  have a0 : Hid (q3 ≠ qN1) := fun e => by have h1 := (Array.getElem?_eq_some_iff.1 (jb K6 0 rfl)).1; omega
  have d7 : Hid (w.heap.size ≤ qN1) := by show _ ≤ _; rw [b1]; exact K6.hb.size
  have A4 := And.intro (jb K7 3 rfl) (jb K7 2 rfl);clear bw d4 b1 K6;refine rd1 1 rfl (fun K hK => ?_)
  go_simp;refine (aP4 _ _ _ _ kv s B _ (by have h := (z0.out _ K7.hb); exact h) HZ.out).mono ?_;rintro e w8 ⟨va, vb, vc, vd, kvc, rfl, d2, bw⟩;obtain ⟨oC, pC, rfl⟩ := aA0 d2.disk.cells;obtain ⟨oP, pP, rfl⟩ := aA0 d2.disk.pend;obtain ⟨oK, pK, rfl⟩ := d2.kept.len;obtain ⟨oE, pE, rfl⟩ := aA0 d2.bans;have q4 : Hid (w.heap.size ≤ w7.heap.size) := K7.hb.size;have K8 := jw K7 bw;clear bw K7;have j7 : Hid (aA2 (w8) w.heap.size (aB2 (.slice oC s.cs.length pC) (.slice oP s.ws.length pP) (.slice oK kvc.length pK) (.slice oE s.bl.length pE) kvc s.cs s.ws s.bl)) := d2.1.wide q4.out;have v0 : Hid (kvc.map (·.1) = s.ks) := d2.2;clear d2;have s4 := And.intro (jb K8 3 rfl) (jb K8 2 rfl);refine hK.out _ _ s4 (fun _ => ?_)
  clear hK K A4;refine rd1 8 rfl (fun K hK => ?_)
  go_simp;refine (aP5 x0 x1 x2 x3 _ s3.out.1 s3.out.2).mono ?_;rintro e w9 ⟨ut, rfl, j6, n9, bw⟩;have r0 : Hid (ut = banT x0 x1 x2 x3) := j6 k2.out;clear j6 n9;have z1 : Hid (ut.size ≤ 4000000) := by show _ ≤ _; rw [r0.out]; exact Nat.le_trans (aV3 k2.out) (by decide)
  have K9 := jw K8 bw;have h2 := hid (aA2.below j7.out bw);clear bw K8;have o0 := And.intro (jb K9 3 rfl) (jb K9 2 rfl);refine hK.out _ _ o0 (fun _ => ?_)
  clear hK K s4;refine rd1 9 rfl (fun K hK => ?_)
  go_simp;refine (aK7 s.sq ut _ z1.out).mono ?_;rintro e i3 ⟨rfl, bw⟩;obtain ⟨tt, k3⟩ := exq (recI s.sq ut);rw [← k3];have p9 : Hid (tt = recI s.sq (banT x0 x1 x2 x3)) := by show _ = _; rw [k3, r0.out]
  clear k3;have b6 := jw K9 bw;have a8 := hid (aA2.below h2.out bw);clear bw K9;have f8 := And.intro (jb b6 3 rfl) (jb b6 2 rfl);refine hK.out _ _ f8 (fun _ => ?_)
  clear hK K o0;refine rd1 10 rfl (fun K hK => ?_)
  go_simp;refine (aS0 _ _ _ _ kvc s.cs s.ws s.bl s.nx s.sq (s.bl.length : Int) tt w.heap.size _ a8.out b6.hb.size HZ.out.c HZ.out.w).mono ?_;rintro e k4 ⟨va, vb, cs2, ws2, rfl, l1, g8, bw⟩;have m8 := hid l1;obtain ⟨oC2, pC2, rfl⟩ := aA0 (aS1 g8);obtain ⟨oP2, pP2, rfl⟩ := aA0 (aW7 g8);clear l1;have d6 := jw b6 bw;have a6 := hid (aA2.below a8.out bw);clear bw b6;clear a6;have a6 : Hid (aA2 (k4) w.heap.size (aB2 (.slice oC2 cs2.length pC2) (.slice oP2 ws2.length pP2) (.slice oK kvc.length pK) (.slice oE s.bl.length pE) kvc cs2 ws2 s.bl)) := g8;clear g8;have f9 := And.intro (jb d6 3 rfl) (jb d6 2 rfl);refine hK.out _ _ f9 (fun _ => ?_)
  clear hK K f8;refine rd1 12 rfl (fun K hK => ?_)
  have r1 := c6f (jb d6 0 rfl);obtain ⟨q6, hY⟩ := exq (((((((k4.setCell ⟨qN1, 0, none⟩ (.slice oC2 cs2.length pC2)).setCell ⟨qN1, 1, none⟩ (.slice oP2 ws2.length pP2)).setCell ⟨qN1, 2, none⟩ (.slice oK kvc.length pK)).setCell ⟨qN1, 3, none⟩ (.slice oE s.bl.length pE)).setCell ⟨qN1, 4, none⟩ (.int .i64 s.nx)).setCell ⟨qN1, 5, none⟩ (.int .i64 s.sq)));have HY := hsy hY;have a9 := jss d6 0 [(0, _), (1, _), (2, _), (3, _), (4, _), (5, _)] hY;have a7 := hid (jrs [(0, _), (1, _), (2, _), (3, _), (4, _), (5, _)] a6.out hY (jb d6 0 rfl) (aC1 (by decide) (by decide) (by decide) (by decide) (by decide)));clear hY d6;go_simp;rw [HY.out];have e7 := And.intro (jb a9 3 rfl) (jb a9 2 rfl);refine hK.out _ _ e7 (fun _ => ?_)
  clear hK K HY f9 r1;clear e7;refine wdn ?_;go_wp2_with fail
  go_meet
  exact ⟨qN1, cs2, ws2, kvc, tt, oC2, pC2, oP2, pP2, oK, pK, oE, pE, rfl, ⟨m8.out, p9.out⟩, ⟨a9.hb, (jb a9 3 rfl), (jb a9 2 rfl), (jb a9 1 rfl), (jb a9 0 rfl), a7.out, d7.out, a2.out, b0.out, a0.out⟩⟩
 case rest =>
 obtain ⟨qN1, cs2, ws2, kvc, tt, oC2, pC2, oP2, pP2, oK, pK, oE, pE, A5, F3, HF⟩ := hcut;have m8 : Hid (aN2 s.cs s.ws (s.bl.length : Int) tt cs2 ws2) := F3.out.1;have p9 : Hid (tt = recI s.sq (banT x0 x1 x2 x3)) := F3.out.2;rw [A5];obtain ⟨w6, H2⟩ := exq wc;rw [← H2] at HF ⊢;clear A5 H2 F3;obtain ⟨H3, f0, f1, f2, g1, g2, g3, m0, m1, m2⟩ := HF.out;have F4 : Hid (w6.heap[q1]? = some (.cells #[.slice o1 s.cs.length c1, .slice o2 s.ws.length c2, .slice o3 n3 c3, .slice o4 s.bl.length c4, .int .i64 s.nx, .int .i64 s.sq] 43)) := f0;have a2 : Hid (q1 ≠ qN1) := m0;have F5 : Hid (w6.heap[q2]? = some (.cells #[.int .i64 x0, .string x1, .string x2, .int .i64 x3] 62)) := f1;have b0 : Hid (q2 ≠ qN1) := m1;have F6 : Hid (w6.heap[q3]? = some (.cells #[.slice none 0 0, .slice none 0 0, .slice none 0 0, .slice none 0 0, .int .i64 0, .int .i64 0] 43)) := f2;have a0 : Hid (q3 ≠ qN1) := m2;have o5 := hid g1;have i2 : Hid (aA2 (w6) w.heap.size (aB2 (.slice oC2 cs2.length pC2) (.slice oP2 ws2.length pP2) (.slice oK kvc.length pK) (.slice oE s.bl.length pE) kvc cs2 ws2 s.bl)) := g2;have d7 := hid g3;clear HF g1 g2 g3 f0 m0 f1 m1 f2 m2;have l2 := c6c o5.out;obtain ⟨cs3, A6⟩ := exq (aL5 cs2 ws2 (fun _ => true))
 obtain ⟨ws3, A7⟩ : ∃ l, l = ([] : List (Int × ByteArray)) := ⟨_, rfl⟩;have H4 := hid A6;have H5 := hid A7;clear A6 A7;go_wp2_with fail
 refine ((aZ5 _ _ _ cs2 _ ws2 w.heap.size _ ⟨aS1 i2.out, aW7 i2.out⟩ (by have := bV1 m8.out; have := HZ.out.c; omega) (by have := bV1 m8.out; have := HZ.out.w; omega)).mono (fun e w' h => (by rw [← H4.out, ← H5.out] at h; exact h : aU3 cs3 ws3 _ e w'))).mono ?_
 rintro e w7 ⟨va, vb, rfl, C9, bw⟩;obtain ⟨oC3, pC3, rfl⟩ := aA0 C9.cells;obtain ⟨oP3, pP3, rfl⟩ := aA0 C9.pend;have e8 : Hid (aA2 w7 w.heap.size (aB2 (.slice oC3 cs3.length pC3) (.slice oP3 ws3.length pP3) (.slice oK kvc.length pK) (.slice oE s.bl.length pE) kvc cs3 ws3 s.bl)) := aW5 i2.out bw C9 (Nat.le_refl _) H3.size;have F7 := hbt H3 bw;have A8 := hblk F4 bw;have A9 := hblk F5 bw;have B0 := hblk F6 bw;have g0 := hblk o5 bw;have m7 := hid (aA2.below i2.out bw);clear bw;clear m7;have m7 : Hid (aA2 (w7) w.heap.size (aB2 (.slice oC3 cs3.length pC3) (.slice oP3 ws3.length pP3) (.slice oK kvc.length pK) (.slice oE s.bl.length pE) kvc cs3 ws3 s.bl)) := e8.out;clear e8 C9;clear l2;have l2 := (k6c g0).1;have v3 := hfz g0 0;have B1 := (k6c g0).2.1;have v4 := hfz g0 1;have K7 := jz K5 F7 (jzb B0.out (jzb A9.out (jzb A8.out (jzn _))));go_upto_region 7 with fail
 obtain ⟨w8, s5⟩ := exq (w7.setCell ⟨qN1, 0, none⟩ (.slice oC3 cs3.length pC3));rw [← s5];have F8 := hbS s5 F7 d7;have B2 := hset s5 a2.out A8;have B3 := hset s5 b0.out A9;have B4 := hset s5 a0.out B0;have j7 := erS s5 m7 g0 (aC1 (by decide) (by decide) (by decide) (by decide) (by decide));have o6 := hid (jbs [(0, _)] g0.out s5);have K8 := jz K7 F8 (jzb B4.out (jzb B3.out (jzb B2.out (jzn _))));clear F7 s5 K7;obtain ⟨w9, s6⟩ := exq (w8.setCell ⟨qN1, 1, none⟩ (.slice oP3 ws3.length pP3));rw [← s6];have B5 := hbS s6 F8 d7;have r2 := hset s6 a2.out B2;have g4 := hset s6 b0.out B3;have r3 := hset s6 a0.out B4;have h2 := erS s6 j7 o6 (aC1 (by decide) (by decide) (by decide) (by decide) (by decide));have g5 := hid (jbs [(1, _)] o6.out s6);have K9 := jz K8 B5 (jzb r3.out (jzb g4.out (jzb r2.out (jzn _))));clear F8 s6 K8;clear l2 v3 B1 v4;have o7 := c6c g5.out;have v5 := hca g5 3 rfl;have r4 := hfa g5 3;have t9 := c4c g4.out;have v6 := hca g4 0 rfl;have r5 := hfa g4 0;have F9 := c4c g4.out;have v7 := hca g4 1 rfl;have r6 := hfa g4 1;have G0 := c4c g4.out;have v8 := hca g4 2 rfl;have r7 := hfa g4 2;have G1 := c4c g4.out;have v9 := hca g4 3 rfl;have r8 := hfa g4 3;have bA : Below w9.heap.size w9 (w9.alloc (.cells #[.int .i64 x0, .string x1, .string x2, .int .i64 x3] 62)) := (Below.refl _ _).alloc (Nat.le_refl _) _;have G2 : aA2 (w9.alloc (.cells #[.int .i64 x0, .string x1, .string x2, .int .i64 x3] 62)) w.heap.size (aB2 (.slice oC3 cs3.length pC3) (.slice oP3 ws3.length pP3) (.slice oK kvc.length pK) (.slice oE s.bl.length pE) kvc cs3 ws3 s.bl) := aA2.below h2.out bA;have g6 := cL9 G2;have o8 : s.bl.length + 1 ≤ maxLen := by unfold maxLen; omega
 have o9 : (s.bl.length + 1) * 48 ≤ 140737488355328 := by omega
 have G3 : w.heap.size ≤ (w9.alloc (.cells #[.int .i64 x0, .string x1, .string x2, .int .i64 x3] 62)).heap.size := Nat.le_trans B5.size bA.size;obtain ⟨HH, H6⟩ : ∃ H, (w9.alloc (.cells #[.int .i64 x0, .string x1, .string x2, .int .i64 x3] 62)).heap.size = H := ⟨_, rfl⟩;go_wp2_with (at_builtin; refine wpList_append_lies (w9.alloc (.cells #[.int .i64 x0, .string x1, .string x2, .int .i64 x3] 62)) rfl _ _ 41 rfl w.heap.size 62 I2 (.agg #[.int .i64 0, .string ⟨#[]⟩, .string ⟨#[]⟩, .int .i64 0]) 4 48 underlying41 I3 D4 D5 D6 rfl (by decide) _ _ _ rfl g6 ⟨w9.heap.size, 0, none⟩ 1 1 [.int .i64 x0, .string x1, .string x2, .int .i64 x3] rfl rfl (World.news_of_block (heap_alloc_new _ _)) (by intro u hu; simp only [List.mem_cons, List.not_mem_nil, or_false] at hu; rcases hu with rfl | rfl | rfl | rfl <;> rfl) (by decide) o8 o9 G3 HH H6 ?_)
 intro gB cB i3 d8 a1 h4 k5;have H7 : Bw w (w9.alloc (.cells #[.int .i64 x0, .string x1, .string x2, .int .i64 x3] 62)) := B5.trans (bA.mono B5.size);have x4 : Bw w (i3) := H7.grown a1 G3 (fun g hg => aB7 g6 hg)
 clear o7 v5 r4 t9 v6 r5 F9 v7 r6 G0 v8 r7 G1 v9 r8;have s7 : Hid (i3.heap[q1]? = some (.cells #[.slice o1 s.cs.length c1, .slice o2 s.ws.length c2, .slice o3 n3 c3, .slice o4 s.bl.length c4, .int .i64 s.nx, .int .i64 s.sq] 43)) := (a1.block _ (Nat.lt_of_lt_of_le (blt r2.out) bA.size) (fun e => aA9 g6 (aA3 r2.out bA) (by decide) _ e.symm rfl)).trans (aA3 r2.out bA)
 have s8 : Hid (i3.heap[q3]? = some (.cells #[.slice none 0 0, .slice none 0 0, .slice none 0 0, .slice none 0 0, .int .i64 0, .int .i64 0] 43)) := (a1.block _ (Nat.lt_of_lt_of_le (blt r3.out) bA.size) (fun e => aA9 g6 (aA3 r3.out bA) (by decide) _ e.symm rfl)).trans (aA3 r3.out bA)
 have i9 : Hid (i3.heap[qN1]? = some (.cells #[.slice oC3 cs3.length pC3, .slice oP3 ws3.length pP3, .slice oK kvc.length pK, .slice oE s.bl.length pE, .int .i64 s.nx, .int .i64 s.sq] 43)) := (a1.block _ (Nat.lt_of_lt_of_le (blt g5.out) bA.size) (fun e => aA9 g6 (aA3 g5.out bA) (by decide) _ e.symm rfl)).trans (aA3 g5.out bA)
 have HV : ∀ g, (Value.slice (some ⟨gB, 0, none⟩) (s.bl.length + 1) cB).ownBlock = some g → (Value.slice oE s.bl.length pE).ownBlock = some g ∨ (w9.alloc (.cells #[.int .i64 x0, .string x1, .string x2, .int .i64 x3] 62)).heap.size ≤ g := by
  intro g hg
  have e : some gB = some g := hg
  cases e
  rcases h4 with h | h
  ·exact .inl h
  ·exact .inr (by omega)
 have s9 : i3.ownsRow w.heap.size 62 4 (.slice (some ⟨gB, 0, none⟩) (s.bl.length + 1) cB) (s.bl ++ [(x0, x1, x2, x3)]).length (aA5 (s.bl ++ [(x0, x1, x2, x3)])) := by rw [bV2, List.length_append]; exact d8
 have e8 : Hid (aA2 i3 w.heap.size (aB2 (.slice oC3 cs3.length pC3) (.slice oP3 ws3.length pP3) (.slice oK kvc.length pK) (.slice (some ⟨gB, 0, none⟩) (s.bl.length + 1) cB) kvc cs3 ws3 (s.bl ++ [(x0, x1, x2, x3)]))) := cL1 G2 a1 s9 HV;have a8 : Hid (aA2 (i3) w.heap.size (aB2 (.slice oC3 cs3.length pC3) (.slice oP3 ws3.length pP3) (.slice oK kvc.length pK) (.slice (some ⟨gB, 0, none⟩) (s.bl.length + 1) cB) kvc cs3 ws3 (s.bl ++ [(x0, x1, x2, x3)]))) := e8.out;have b6 := jz K9 x4 (jzb s8.out (jzx (jzb s7.out (jzn _))));clear e8 HV g6 o8 o9 d8 s9 a1 h4 k5 G3 bA G2 H7 H6 B5 K9;have o7 := c6f i9.out;go_upto_region 8 with fail
 obtain ⟨k4, k6⟩ := exq (i3.setCell ⟨qN1, 3, none⟩ (.slice (some ⟨gB, 0, none⟩) (s.bl.length + 1) cB));rw [← k6];have x5 := hbS k6 x4 d7;have p0 := hset k6 a2.out s7;have t0 := hset k6 a0.out s8;have a6 := erS k6 a8 i9 (aC1 (by decide) (by decide) (by decide) (by decide) (by decide));have j0 := hid (jbs [(3, _)] i9.out k6);have d6 := jz b6 x5 (jzb t0.out (jzb p0.out (jzn _)));clear x4 k6 b6;clear o7;have B6 := c6f j0.out;have G4 := c6c p0.out;go_upto_region 9 with fail
 obtain ⟨q6, b3⟩ := exq (k4.setCell ⟨qN1, 5, none⟩ (.int .i64 (s.sq + 1)));rw [← b3];have x6 := hbS b3 x5 d7;have t1 := hset b3 a2.out p0;have t2 := hset b3 a0.out t0;have a7 := erS b3 a6 j0 (aC1 (by decide) (by decide) (by decide) (by decide) (by decide));have j1 := hid (jbs [(5, _)] j0.out b3);have a9 := jz d6 x6 (jzb t2.out (jzb t1.out (jzn _)));clear x5 b3 d6;clear B6 G4;have B7 := c6f j1.out;go_upto_region 10 with fail
 obtain ⟨I7, k7⟩ := exq (q6.setCell ⟨qN1, 2, none⟩ (.slice none 0 0));rw [← k7];have r9 := hbS k7 x6 d7;have t3 := hset k7 a2.out t1;have t4 := hset k7 a0.out t2;have l3 := erS k7 a7 j1 (aC1 (by decide) (by decide) (by decide) (by decide) (by decide));have s0 := hid (jbs [(2, _)] j1.out k7);have H8 := jz a9 r9 (jzb t4.out (jzb t3.out (jzn _)));clear x6 k7 a9;clear B7;go_wp2_with fail
 have H9 : Hid (aA2 (I7) w.heap.size (aB2 (.slice oC3 cs3.length pC3) (.slice oP3 ws3.length pP3) (.slice none 0 0) (.slice (some ⟨gB, 0, none⟩) (s.bl.length + 1) cB) [] cs3 ws3 (s.bl ++ [(x0, x1, x2, x3)]))) := aI4 (cG0 l3.out);clear l3;have l3 := H9;clear H9;go_loopw [7] (fun i wr => ∃ (j : Nat) (kvo : Ks) (oL : Oa) (cL : Nat), j ≤ n3 ∧ i = .int .i64 (j : Int) ∧ kvo.length ≤ j ∧ Hid (kvo.map (·.1) = (s.ks.take j).filter (fun k => decide (¬ AnyK (s.bl ++ [(x0, x1, x2, x3)]) k))) ∧ Hid (Bw w wr ∧ wr.heap[q1]? = some (.cells #[.slice o1 s.cs.length c1, .slice o2 s.ws.length c2, .slice o3 n3 c3, .slice o4 s.bl.length c4, .int .i64 s.nx, .int .i64 s.sq] 43) ∧ wr.heap[q3]? = some (.cells #[.slice none 0 0, .slice none 0 0, .slice none 0 0, .slice none 0 0, .int .i64 0, .int .i64 0] 43) ∧ wr.heap[qN1]? = some (.cells #[.slice oC3 cs3.length pC3, .slice oP3 ws3.length pP3, .slice oL kvo.length cL, .slice (some ⟨gB, 0, none⟩) (s.bl.length + 1) cB, .int .i64 s.nx, .int .i64 (s.sq + 1)] 43) ∧ aA2 wr w.heap.size (aB2 (.slice oC3 cs3.length pC3) (.slice oP3 ws3.length pP3) (.slice oL kvo.length cL) (.slice (some ⟨gB, 0, none⟩) (s.bl.length + 1) cB) kvo cs3 ws3 (s.bl ++ [(x0, x1, x2, x3)])))) (fun i _ => n3 - (intOf i).toNat)
 case atStart => exact ⟨0, [], none, 0, Nat.zero_le _, rfl, Nat.le_refl _, (by show _ = _; rfl), ⟨r9, t3.out, t4.out, s0.out, l3.out⟩⟩
 case round =>
  obtain ⟨j, kvo, oL, cL, hj, rfl, J8, z2, HW⟩ := hrel;by_cases hlt : (j : Int) < (n3 : Int)
  rotate_left
  ·have h5 := HW.out.1;have i4 := hid HW.out.2.1;have j8 := hid HW.out.2.2.1;have e9 := hid HW.out.2.2.2.1;have p1 : Hid (aA2 (wr) w.heap.size (aB2 (.slice oC3 cs3.length pC3) (.slice oP3 ws3.length pP3) (.slice oL kvo.length cL) (.slice (some ⟨gB, 0, none⟩) (s.bl.length + 1) cB) kvo cs3 ws3 (s.bl ++ [(x0, x1, x2, x3)]))) := HW.out.2.2.2.2;clear HW r9;have B8 := c6c i4.out
   have j2 : Hid (kvo.map (·.1) = s.ks.filter (fun k => decide (¬ AnyK (s.bl ++ [(x0, x1, x2, x3)]) k))) := by
    show _ = _
    rw [z2.out, List.take_of_length_le (by rw [← m5.out, List.length_map, n7.out]; omega)]
   clear z2;have l2 := c6c e9.out;have q0 := c6f j8.out;go_wp2_with fail
   obtain ⟨I0, k8⟩ := exq (wr.setCell ⟨q3, 0, none⟩ (.slice oC3 cs3.length pC3));rw [← k8];have k9 := hbS k8 h5 I6;have l4 := hset k8 A3.out i4;have g9 := hset k8 a0.out.symm e9;have l5 := erS k8 p1 j8 (aC1 (by decide) (by decide) (by decide) (by decide) (by decide));have l6 := hid (jbs [(0, _)] j8.out k8);clear h5 k8;have B9 := jz H8 k9 (jzb l6.out (jzb l4.out (jzn _)));obtain ⟨G5, p2⟩ := exq (I0.setCell ⟨q3, 1, none⟩ (.slice oP3 ws3.length pP3));rw [← p2];have l7 := js B9 0 p2;have f3 := hset p2 a0.out.symm g9;have l8 := erS p2 l5 l6 (aC1 (by decide) (by decide) (by decide) (by decide) (by decide));clear k9 p2 B9;obtain ⟨D0, p4⟩ := exq (G5.setCell ⟨q3, 2, none⟩ (.slice oL kvo.length cL));rw [← p4];have l9 := js l7 0 p4;have f4 := hset p4 a0.out.symm f3;have i5 := erS p4 l8 (jb l7 0 rfl) (aC1 (by decide) (by decide) (by decide) (by decide) (by decide));clear p4 l7;obtain ⟨i1, p5⟩ := exq (D0.setCell ⟨q3, 3, none⟩ (.slice (some ⟨gB, 0, none⟩) (s.bl.length + 1) cB));rw [← p5];have h0 := js l9 0 p5;have d5 := hset p5 a0.out.symm f4;have i6 := erS p5 i5 (jb l9 0 rfl) (aC1 (by decide) (by decide) (by decide) (by decide) (by decide));clear p5 l9;obtain ⟨m3, p6⟩ := exq (i1.setCell ⟨q3, 4, none⟩ (.int .i64 s.nx));rw [← p6];have e5 := js h0 0 p6;have a3 := hset p6 a0.out.symm d5;have e0 := erS p6 i6 (jb h0 0 rfl) (aC1 (by decide) (by decide) (by decide) (by decide) (by decide));clear p6 h0;obtain ⟨j3, m9⟩ := exq (m3.setCell ⟨q3, 5, none⟩ (.int .i64 (s.sq + 1)));rw [← m9];have i7 := js e5 0 m9;have x7 : Hid (m3.heap.size ≤ j3.heap.size) := by show _ ≤ _; rw [m9]; simp
   have a5 := hset m9 a0.out.symm a3;have h6 := erS m9 e0 (jb e5 0 rfl) (aC1 (by decide) (by decide) (by decide) (by decide) (by decide));clear m9 e5;have e6 := c6c (jb i7 0 rfl);refine bodyPost_ret (v := .tuple #[.agg #[.slice oC3 cs3.length pC3, .slice oP3 ws3.length pP3, .slice oL kvo.length cL, .slice (some ⟨gB, 0, none⟩) (s.bl.length + 1) cB, .int .i64 s.nx, .int .i64 (s.sq + 1)], .bool true]) (by simp [results, results18, go_sem, e6]) rfl ?_;refine .inr ⟨⟨cs3, ws3, s.ks.filter (fun k => decide (¬ AnyK (s.bl ++ [(x0, x1, x2, x3)]) k)), s.bl ++ [(x0, x1, x2, x3)], s.nx, s.sq + 1⟩, true, _, _, _, _, kvo, m6.out, .inr ⟨rfl, ⟨k2.out, E7.out, F1.out⟩, cs2, ws2, ?_, H4.out, H5.out, ?_, rfl, rfl, rfl⟩, rfl, ⟨h6.out, j2.out⟩, i7.hb⟩
   ·rw [← p9.out]; exact m8.out
   show List.filter _ _ = List.filter _ _
   congr
  have h5 := HW.out.1;have i4 := hid HW.out.2.1;have j8 := hid HW.out.2.2.1;have e9 := hid HW.out.2.2.2.1;have p1 : Hid (aA2 (wr) w.heap.size (aB2 (.slice oC3 cs3.length pC3) (.slice oP3 ws3.length pP3) (.slice oL kvo.length cL) (.slice (some ⟨gB, 0, none⟩) (s.bl.length + 1) cB) kvo cs3 ws3 (s.bl ++ [(x0, x1, x2, x3)]))) := HW.out.2.2.2.2;clear HW r9;obtain ⟨g3, p3, hV, _, _⟩ := (s2.out _ h5).look j (by rw [n7.out]; omega);rw [n7.out] at hV;injection hV with hV1 hV2 hV3
  subst hV1 hV3;clear hV2;obtain ⟨xX, C0⟩ := exq (kvAt kv j);have n0 : Hid (xX ∈ kv) := by show _ ∈ _; rw [C0]; exact aQ1 kv j (by rw [n7.out]; omega)
  have D1 : Hid (kpAt s.ks j = xX.1) := by show _ = _; rw [C0, ← m5.out]; exact (aK6 kv j (by rw [n7.out]; omega)).symm
  have I8 : Hid (kv.take (j + 1) = kv.take j ++ [xX]) := by show _ = _; rw [C0]; exact aM6 kv j (by rw [n7.out]; omega)
  have I9 : Hid (∀ W, Bw w W → KpAt W g3 j xX) := fun W hb => by
   obtain ⟨g', p', hV, _, hc⟩ := (s2.out W hb).look j (by rw [n7.out]; omega)
   injection hV with hV1 _ _
   cases hV1
   rw [C0]
   exact hc
  clear C0;obtain ⟨x, G6, G7, G8⟩ := xX;obtain ⟨z3, z4, hu⟩ := aA0 ((s2.out _ h5).names n0.out);have C1 : G6 = .slice z3 x.xs.length z4 := hu;subst C1;clear hu;obtain ⟨z5, z6, hu⟩ := aA0 ((s2.out _ h5).vals n0.out);have C1 : G7 = .slice z5 x.ys.length z6 := hu;subst C1;clear hu;obtain ⟨z7, z8, hu⟩ := aA0 ((s2.out _ h5).flds n0.out);have C1 : G8 = .slice z7 x.fs.length z8 := hu;subst C1;clear hu;have J9 : ¬ n3 ≤ j := by omega
  have b5 : Hid (∀ W, Bw w W → (W.cell? ⟨g3, j * 9, none⟩ = some (.string x.p) ∧ W.cell? ⟨g3, j * 9 + 1, none⟩ = some (.slice z3 x.xs.length z4) ∧ W.cell? ⟨g3, j * 9 + 2, none⟩ = some (.slice z5 x.ys.length z6) ∧ W.cell? ⟨g3, j * 9 + 3, none⟩ = some (.int .i64 x.st) ∧ W.cell? ⟨g3, j * 9 + 4, none⟩ = some (.slice z7 x.fs.length z8) ∧ W.cell? ⟨g3, j * 9 + 5, none⟩ = some (.string x.b) ∧ W.cell? ⟨g3, j * 9 + 6, none⟩ = some (.int .i64 x.t) ∧ W.cell? ⟨g3, j * 9 + 7, none⟩ = some (.int .i64 x.a) ∧ W.cell? ⟨g3, j * 9 + 8, none⟩ = some (.int .i64 x.q))) := fun W hb => by
   have c := I9.out W hb
   exact ⟨c.c0, c.c1, c.c2, c.c3, c.c4, c.c5, c.c6, c.c7, c.c8⟩
  have B8 := c6c i4.out;go_upto_region 13 with fail
  clear B8;refine wp_region_held_drew (S := fun W => W.heap[qN1]? = some (.cells #[.slice oC3 cs3.length pC3, .slice oP3 ws3.length pP3, .slice oL kvo.length cL, .slice (some ⟨gB, 0, none⟩) (s.bl.length + 1) cB, .int .i64 s.nx, .int .i64 (s.sq + 1)] 43) ∧ W.heap[q1]? = some (.cells #[.slice o1 s.cs.length c1, .slice o2 s.ws.length c2, .slice (some ⟨g3, 0, none⟩) n3 c3, .slice o4 s.bl.length c4, .int .i64 s.nx, .int .i64 s.sq] 43) ∧ (W.cell? ⟨g3, j * 9, none⟩ = some (.string x.p) ∧ W.cell? ⟨g3, j * 9 + 1, none⟩ = some (.slice z3 x.xs.length z4) ∧ W.cell? ⟨g3, j * 9 + 2, none⟩ = some (.slice z5 x.ys.length z6) ∧ W.cell? ⟨g3, j * 9 + 3, none⟩ = some (.int .i64 x.st) ∧ W.cell? ⟨g3, j * 9 + 4, none⟩ = some (.slice z7 x.fs.length z8) ∧ W.cell? ⟨g3, j * 9 + 5, none⟩ = some (.string x.b) ∧ W.cell? ⟨g3, j * 9 + 6, none⟩ = some (.int .i64 x.t) ∧ W.cell? ⟨g3, j * 9 + 7, none⟩ = some (.int .i64 x.a) ∧ W.cell? ⟨g3, j * 9 + 8, none⟩ = some (.int .i64 x.q))) (by kernel_rfl) ⟨e9.out, i4.out, (by first | exact b5.out _ h5 | exact b5.out _ h5.drew)⟩ (fun _ => ?_)
  obtain ⟨I0, hX⟩ := exq wr.drew;have bw := bdr hX;rw [← hX];have k9 := hbt h5 bw;have l4 := hblk i4 bw;have l6 := hblk j8 bw;have g9 := hblk e9 bw;have l5 := hid (aA2.below p1.out bw);have j4 := And.intro g9.out (And.intro l4.out (b5.out _ k9));clear h5 bw hX;have B9 := jz H8 k9 (jzb l6.out (jzb l4.out (jzn _)));refine tkP 0 (.pointer (some ⟨qN1, 3, none⟩)) 61 rfl rfl j4 ?_;go_frame;refine tkL 1 (.slice (some ⟨gB, 0, none⟩) (s.bl.length + 1) cB) 62 rfl rfl (Or.inl ⟨by rfl, by intro W hW; obtain ⟨x8, d3, a4⟩ := hW; have y3 := c6c x8; go_simp⟩) j4 ?_;go_frame;refine tkP 2 (.pointer (some ⟨q1, 2, none⟩)) 63 rfl rfl j4 ?_;go_frame;refine tkL 3 (.slice (some ⟨g3, 0, none⟩) n3 c3) 64 rfl rfl (Or.inl ⟨by rfl, by intro W hW; obtain ⟨x8, d3, a4⟩ := hW; have y2 := c6c d3; go_simp⟩) j4 ?_;go_frame;refine tkP 4 (.int .i64 (j : Int)) 65 rfl rfl j4 (tkP 5 (.pointer (some ⟨g3, j * 9, none⟩)) 66 rfl rfl j4 (tkP 6 (.pointer (some ⟨g3, j * 9, none⟩)) 67 rfl rfl j4 ?_));go_frame;refine tkL 7 (.agg #[.string x.p, .slice z3 x.xs.length z4, .slice z5 x.ys.length z6, .int .i64 x.st, .slice z7 x.fs.length z8, .string x.b, .int .i64 x.t]) 68 rfl rfl (Or.inl ⟨by rfl, by intro W hW; obtain ⟨x8, d3, a4⟩ := hW; have y0 := a4.1; have y1 := a4.2.1; have y2 := a4.2.2.1; have y3 := a4.2.2.2.1; have y4 := a4.2.2.2.2.1; have y5 := a4.2.2.2.2.2.1; have y6 := a4.2.2.2.2.2.2.1; go_simp⟩) j4 ?_;go_frame;refine rd1 8 rfl (fun K hK => ?_)
  go_simp;refine (bO6 _ _ _ (s.bl ++ [(x0, x1, x2, x3)]) x _ _ _ _ (by have hd := cL9 l5.out; rw [List.length_append] at hd; exact aN5 hd) (by omega) I4.out ((s2.out _ k9).read n0.out) (HZ.out.kv m5.out n0.out)).mono ?_;rintro e G5 ⟨uh, rfl, D2, bw⟩;have l7 := jw B9 bw;have f3 := hblk g9 bw;have l8 := hid (aA2.below l5.out bw);clear k9 bw B9;have p7 := And.intro f3.out (And.intro (jb l7 1 rfl) (b5.out _ l7.hb));refine hK.out _ _ p7 (fun _ => ?_)
  clear hK K j4;cases uh
  rotate_left
  ·have G9 : Hid (AnyK (s.bl ++ [(x0, x1, x2, x3)]) x) := D2.1 rfl;clear D2;refine tkP 9 (.bool false) 70 rfl rfl p7 ?_;go_frame;clear p7;refine wdn ?_;have b2 := aK4 s.ks j (by rw [← m5.out, List.length_map, n7.out]; omega);rw [D1.out] at b2
   have j2 : Hid (kvo.map (·.1) = (s.ks.take (j + 1)).filter (fun k => decide (¬ AnyK (s.bl ++ [(x0, x1, x2, x3)]) k))) := by
    show _ = _
    rw [b2, List.filter_append, z2.out, List.filter_cons_of_neg (by rw [decide_eq_true_iff]; exact fun h => h G9.out)]
    simp
   clear b2;go_wp2_with fail
   go_roundw
   case rel => exact ⟨j + 1, kvo, oL, cL, by omega, by go_num, by omega, j2, ⟨l7.hb, (jb l7 1 rfl), (jb l7 0 rfl), f3.out, l8.out⟩⟩
   case measure => simp [intOf]; omega
  have x9 : Hid (¬ (AnyK (s.bl ++ [(x0, x1, x2, x3)]) x)) := fun h => nomatch D2.2 h
  clear D2;refine tkP 9 (.bool true) 70 rfl rfl p7 ?_;go_frame;clear p7;refine wdn ?_;go_upto_region 14 with fail
  refine wp_region_held_drew (S := fun W => W.heap[q1]? = some (.cells #[.slice o1 s.cs.length c1, .slice o2 s.ws.length c2, .slice (some ⟨g3, 0, none⟩) n3 c3, .slice o4 s.bl.length c4, .int .i64 s.nx, .int .i64 s.sq] 43) ∧ (W.cell? ⟨g3, j * 9, none⟩ = some (.string x.p) ∧ W.cell? ⟨g3, j * 9 + 1, none⟩ = some (.slice z3 x.xs.length z4) ∧ W.cell? ⟨g3, j * 9 + 2, none⟩ = some (.slice z5 x.ys.length z6) ∧ W.cell? ⟨g3, j * 9 + 3, none⟩ = some (.int .i64 x.st) ∧ W.cell? ⟨g3, j * 9 + 4, none⟩ = some (.slice z7 x.fs.length z8) ∧ W.cell? ⟨g3, j * 9 + 5, none⟩ = some (.string x.b) ∧ W.cell? ⟨g3, j * 9 + 6, none⟩ = some (.int .i64 x.t) ∧ W.cell? ⟨g3, j * 9 + 7, none⟩ = some (.int .i64 x.a) ∧ W.cell? ⟨g3, j * 9 + 8, none⟩ = some (.int .i64 x.q))) (by kernel_rfl) ⟨(jb l7 1 rfl), (by first | exact b5.out _ l7.hb | exact b5.out _ l7.hb.drew)⟩ (fun _ => ?_)
  obtain ⟨D0, hX⟩ := exq G5.drew;have bw := bdr hX;rw [← hX];have l9 := jw l7 bw;have f4 := hblk f3 bw;have i5 := hid (aA2.below l8.out bw);have b4 := And.intro (jb l9 1 rfl) (b5.out _ l9.hb);clear bw hX l7;refine tkP 0 (.pointer (some ⟨qN1, 2, none⟩)) 71 rfl rfl b4 (tkP 2 (.pointer (some ⟨q1, 2, none⟩)) 73 rfl rfl b4 ?_);go_frame;refine tkL 3 (.slice (some ⟨g3, 0, none⟩) n3 c3) 74 rfl rfl (Or.inl ⟨by rfl, by intro W hW; obtain ⟨d3, a4⟩ := hW; have y2 := c6c d3; go_simp⟩) b4 ?_;go_frame;refine tkP 4 (.int .i64 (j : Int)) 75 rfl rfl b4 (tkP 5 (.pointer (some ⟨g3, j * 9, none⟩)) 76 rfl rfl b4 (tkP 6 (.pointer (some ⟨g3, j * 9, none⟩)) 77 rfl rfl b4 ?_));go_frame;refine tkL 7 (.agg #[.string x.p, .slice z3 x.xs.length z4, .slice z5 x.ys.length z6, .int .i64 x.st, .slice z7 x.fs.length z8, .string x.b, .int .i64 x.t]) 78 rfl rfl (Or.inl ⟨by rfl, by intro W hW; obtain ⟨d3, a4⟩ := hW; have y0 := a4.1; have y1 := a4.2.1; have y2 := a4.2.2.1; have y3 := a4.2.2.2.1; have y4 := a4.2.2.2.2.1; have y5 := a4.2.2.2.2.2.1; have y6 := a4.2.2.2.2.2.2.1; go_simp⟩) b4 ?_;go_frame;refine tkP 9 (.pointer (some ⟨q1, 2, none⟩)) 80 rfl rfl b4 ?_;go_frame;refine tkL 10 (.slice (some ⟨g3, 0, none⟩) n3 c3) 81 rfl rfl (Or.inl ⟨by rfl, by intro W hW; obtain ⟨d3, a4⟩ := hW; have y2 := c6c d3; go_simp⟩) b4 ?_;go_frame;refine tkP 11 (.int .i64 (j : Int)) 82 rfl rfl b4 (tkP 12 (.pointer (some ⟨g3, j * 9, none⟩)) 83 rfl rfl b4 (tkP 13 (.pointer (some ⟨g3, j * 9 + 7, none⟩)) 84 rfl rfl b4 ?_));go_frame;refine tkL 14 (.int .i64 x.a) 85 rfl rfl (Or.inl ⟨by rfl, by intro W hW; obtain ⟨d3, a4⟩ := hW; have y7 := a4.2.2.2.2.2.2.2.1; go_simp⟩) b4 ?_;go_frame;refine tkP 15 (.pointer (some ⟨q1, 2, none⟩)) 86 rfl rfl b4 ?_;go_frame;refine tkL 16 (.slice (some ⟨g3, 0, none⟩) n3 c3) 87 rfl rfl (Or.inl ⟨by rfl, by intro W hW; obtain ⟨d3, a4⟩ := hW; have y2 := c6c d3; go_simp⟩) b4 ?_
  go_frame;refine tkP 17 (.int .i64 (j : Int)) 88 rfl rfl b4 (tkP 18 (.pointer (some ⟨g3, j * 9, none⟩)) 89 rfl rfl b4 (tkP 19 (.pointer (some ⟨g3, j * 9 + 8, none⟩)) 90 rfl rfl b4 ?_));go_frame;refine tkL 20 (.int .i64 x.q) 91 rfl rfl (Or.inl ⟨by rfl, by intro W hW; obtain ⟨d3, a4⟩ := hW; have y8 := a4.2.2.2.2.2.2.2.2; go_simp⟩) b4 ?_;go_frame;refine wpAnyH_ready (rs := [1, 8]) (by kernel_rfl) (by simp) ?_;refine AllReadyH.cons rfl (fun K hK => ?_) (AllReadyH.cons rfl (fun K hK => ?_) AllReadyH.nil)
  ·have C2 := c6c f4.out;go_simp;refine hK.out _ _ b4 (fun _ => ?_)
   clear hK K C2;refine rd1 8 rfl (fun K hK => ?_)
   go_simp;refine (aU1 x.p _ x.xs _ x.ys x.st _ x.fs x.b x.t _ _ _ B _ (aH3 ((s2.out _ l9.hb).obj n0.out)) (by have := (HZ.out.kv m5.out n0.out).2.1.1; dsimp only at this ⊢; omega) (by have := (HZ.out.kv m5.out n0.out).2.2.1.1; dsimp only at this ⊢; omega) (by have := (HZ.out.kv m5.out n0.out).2.2.2.1; dsimp only at this ⊢; omega)).mono ?_;rintro e i1 ⟨va, vb, vc, rfl, n5, bw⟩;dsimp only at n5 ⊢;obtain ⟨b7, b8, rfl⟩ := aA0 n5.names;obtain ⟨b9, c9, rfl⟩ := aA0 n5.vals;obtain ⟨d0, d1, rfl⟩ := aA0 n5.flds;obtain ⟨bC, s1⟩ := exq (D0.heap.size);have C3 : Hid (aA2 i1 bC (kpR (x, Value.slice b7 x.xs.length b8, Value.slice b9 x.ys.length c9, Value.slice d0 x.fs.length d1))) := by rw [s1]; exact aR5 n5
   have l0 : Hid (∀ r ∈ aB2 (.slice oC3 cs3.length pC3) (.slice oP3 ws3.length pP3) (.slice oL kvo.length cL) (.slice (some ⟨gB, 0, none⟩) (s.bl.length + 1) cB) kvo cs3 ws3 (s.bl ++ [(x0, x1, x2, x3)]), ∀ g, r.v.ownBlock = some g → g < bC) := fun r hr g hg => by rw [s1]; exact i5.out.lt hr hg
   have y9 : Hid (w.heap.size ≤ bC) := by rw [s1]; exact l9.hb.size
   clear n5 s1;have h0 := jw l9 bw;have d5 := hblk f4 bw;have i6 := hid (aA2.below i5.out bw);clear bw l9;have m4 : Hid (aA2 (i1) bC (kpR (x, Value.slice b7 x.xs.length b8, Value.slice b9 x.ys.length c9, Value.slice d0 x.fs.length d1))) := C3.out;clear C3;have j5 := And.intro (jb h0 1 rfl) (b5.out _ h0.hb);refine hK.out _ _ j5 (fun _ => ?_)
   clear hK K b4;refine tkP 21 (.agg #[.string x.p, .slice b7 x.xs.length b8, .slice b9 x.ys.length c9, .int .i64 x.st, .slice d0 x.fs.length d1, .string x.b, .int .i64 x.t, .int .i64 x.a, .int .i64 x.q]) 92 rfl rfl j5 ?_;go_frame;refine rd1 22 rfl (fun K hK => ?_)
   go_simp;have bw : Below i1.heap.size i1 (i1.alloc (.cells #[.string x.p, .slice b7 x.xs.length b8, .slice b9 x.ys.length c9, .int .i64 x.st, .slice d0 x.fs.length d1, .string x.b, .int .i64 x.t, .int .i64 x.a, .int .i64 x.q] 82)) := (Below.refl _ _).alloc (Nat.le_refl _) _;have h3 := And.intro (aA3 (jb h0 1 rfl) bw) (b5.out _ (h0.hb.trans (bw.mono h0.hb.size)));refine hK.out _ _ h3 (fun _ => ?_)
   clear hK K h3 bw j5;obtain ⟨q5, p8⟩ := exq (i1.heap.size);obtain ⟨m3, d4⟩ := exq ((i1.alloc (.cells #[.string x.p, .slice b7 x.xs.length b8, .slice b9 x.ys.length c9, .int .i64 x.st, .slice d0 x.fs.length d1, .string x.b, .int .i64 x.t, .int .i64 x.a, .int .i64 x.q] 82)));rw [← p8, ← d4];have bw := bal d4;have e5 := ja h0 d4 p8.symm;have a3 := hblk d5 bw;have e0 := hid (aA2.below i6.out bw);have j9 := hid (aA2.below m4.out bw);have n6 := And.intro (jb e5 2 rfl) (b5.out _ e5.hb);clear bw d4 p8 h0;refine rd1 23 rfl (fun K hK => ?_)
   have g6 : m3.ownsRow w.heap.size 82 9 (.slice oL kvo.length cL) kvo.length (kvo.flatMap kpC) := e0.out.own (aH8 (.slice oL kvo.length cL) kvo) (by simp [aB2, aC5]);have o8 : kvo.length + 1 ≤ maxLen := by unfold maxLen; omega
   have o9 : (kvo.length + 1) * 136 ≤ 140737488355328 := by omega
   have f5 := e5.hb;refine step_append_lies m3 (by rfl) _ _ 40 (by rfl) w.heap.size 82 i0 (.agg #[.string ⟨#[]⟩, .slice none 0 0, .slice none 0 0, .int .i64 0, .slice none 0 0, .string ⟨#[]⟩, .int .i64 0, .int .i64 0, .int .i64 0]) 9 136 underlying40 hi D3 t6 t7 rfl (by decide) _ _ _ (by rfl) g6 ⟨q5, 0, none⟩ 1 1 [.string x.p, .slice b7 x.xs.length b8, .slice b9 x.ys.length c9, .int .i64 x.st, .slice d0 x.fs.length d1, .string x.b, .int .i64 x.t, .int .i64 x.a, .int .i64 x.q] (by rfl) rfl (World.news_of_block (jb e5 0 rfl)) (by intro u hu; simp only [List.mem_cons, List.not_mem_nil, or_false] at hu; rcases hu with rfl | rfl | rfl | rfl | rfl | rfl | rfl | rfl | rfl <;> rfl) (by decide) o8 o9 f5.size _ rfl ?_;intro gL h7 j3 d8 a1 h4 k5;have f6 : Bw w (j3) := f5.grown a1 f5.size (fun g hg => aB7 g6 hg)
   have x7 := hid a1.size;have a5 : Hid (j3.heap[qN1]? = some (.cells #[.slice oC3 cs3.length pC3, .slice oP3 ws3.length pP3, .slice oL kvo.length cL, .slice (some ⟨gB, 0, none⟩) (s.bl.length + 1) cB, .int .i64 s.nx, .int .i64 (s.sq + 1)] 43)) := (a1.block _ (blt a3.out) (fun e => aA9 g6 a3.out (by decide) _ e.symm rfl)).trans a3.out
   have HV : ∀ g, (Value.slice (some ⟨gL, 0, none⟩) (kvo.length + 1) h7).ownBlock = some g → (Value.slice oL kvo.length cL).ownBlock = some g ∨ m3.heap.size ≤ g := by
    intro g hg
    have e : some gL = some g := hg
    cases e
    rcases h4 with h | h
    ·exact .inl h
    ·exact .inr (by omega)
   have e8 : Hid (aA2 j3 w.heap.size (aB2 (.slice oC3 cs3.length pC3) (.slice oP3 ws3.length pP3) (.slice (some ⟨gL, 0, none⟩) (kvo.length + 1) h7) (.slice (some ⟨gB, 0, none⟩) (s.bl.length + 1) cB) (kvo ++ [(x, Value.slice b7 x.xs.length b8, Value.slice b9 x.ys.length c9, Value.slice d0 x.fs.length d1)]) cs3 ws3 (s.bl ++ [(x0, x1, x2, x3)]))) := aO0 e0.out j9.out l0.out y9.out a1 d8 HV;have h6 : Hid (aA2 (j3) w.heap.size (aB2 (.slice oC3 cs3.length pC3) (.slice oP3 ws3.length pP3) (.slice (some ⟨gL, 0, none⟩) (kvo.length + 1) h7) (.slice (some ⟨gB, 0, none⟩) (s.bl.length + 1) cB) (kvo ++ [(x, Value.slice b7 x.xs.length b8, Value.slice b9 x.ys.length c9, Value.slice d0 x.fs.length d1)]) cs3 ws3 (s.bl ++ [(x0, x1, x2, x3)]))) := e8.out;have i7 := jz e5 f6 (jzx (jzb (jgB a1 g6 (jb e5 1 rfl)) (jzb (jgB a1 g6 (jb e5 2 rfl)) (jzn _))));clear e8 HV g6 o8 o9 d8 a1 h4 k5 l0 y9 f5 e5;simp only [Act.put, List.setIfInBounds_toArray]
   have h8 := And.intro (jb i7 1 rfl) (b5.out _ f6);refine hK.out _ _ h8 (fun _ => ?_)
   clear hK K n6;refine tkP 24 (.pointer (some ⟨qN1, 2, none⟩)) 95 rfl rfl h8 ?_;simp only [Act.put]
   refine rd1 25 rfl (fun K hK => ?_)
   have C4 := c6f a5.out;obtain ⟨i8, hY⟩ := exq ((j3.setCell ⟨qN1, 2, none⟩ (.slice (some ⟨gL, 0, none⟩) (kvo.length + 1) h7)));have HY := hsy hY;have h9 : Bw w (i8) := by rw [hY]; exact (f6.setCell (p := ⟨qN1, 2, none⟩) d7.out _)
   have d9 := hid (jbo [(2, _)] (jb i7 1 rfl) hY a2.out);have g7 := hid (jbo [(2, _)] (jb i7 0 rfl) hY a0.out);have k0 := hid (jrs [(2, _)] h6.out hY a5.out (aC1 (by decide) (by decide) (by decide) (by decide) (by decide)));have f7 := hid (jbs [(2, _)] a5.out hY);have I1 := jz i7 h9 (jzb g7.out (jzb d9.out (jzn _)));clear hY f6 i7;go_simp;rw [HY.out];have k1 := And.intro d9.out (b5.out _ h9);refine hK.out _ _ k1 (fun _ => ?_)
   clear hK K HY h8 C4;clear k1;refine wdn ?_;have b2 := aK4 s.ks j (by rw [← m5.out, List.length_map, n7.out]; omega);rw [D1.out] at b2
   have j2 : Hid ((kvo ++ [(x, Value.slice b7 x.xs.length b8, Value.slice b9 x.ys.length c9, Value.slice d0 x.fs.length d1)]).map (·.1) = (s.ks.take (j + 1)).filter (fun k => decide (¬ AnyK (s.bl ++ [(x0, x1, x2, x3)]) k))) := by
    show _ = _
    rw [b2, List.filter_append, List.map_append, z2.out, List.filter_cons_of_pos (by exact decide_eq_true x9.out)]
    rfl
   clear b2;have t5 : Hid ((kvo ++ [(x, Value.slice b7 x.xs.length b8, Value.slice b9 x.ys.length c9, Value.slice d0 x.fs.length d1)]).length = kvo.length + 1) := by show _ = _; simp
   have C5 : Hid (Bw w i8 ∧ i8.heap[q1]? = some (.cells #[.slice o1 s.cs.length c1, .slice o2 s.ws.length c2, .slice (some ⟨g3, 0, none⟩) n3 c3, .slice o4 s.bl.length c4, .int .i64 s.nx, .int .i64 s.sq] 43) ∧ i8.heap[q3]? = some (.cells #[.slice none 0 0, .slice none 0 0, .slice none 0 0, .slice none 0 0, .int .i64 0, .int .i64 0] 43) ∧ i8.heap[qN1]? = some (.cells #[.slice oC3 cs3.length pC3, .slice oP3 ws3.length pP3, .slice (some ⟨gL, 0, none⟩) ((kvo ++ [(x, Value.slice b7 x.xs.length b8, Value.slice b9 x.ys.length c9, Value.slice d0 x.fs.length d1)]).length) h7, .slice (some ⟨gB, 0, none⟩) (s.bl.length + 1) cB, .int .i64 s.nx, .int .i64 (s.sq + 1)] 43) ∧ aA2 i8 w.heap.size (aB2 (.slice oC3 cs3.length pC3) (.slice oP3 ws3.length pP3) (.slice (some ⟨gL, 0, none⟩) ((kvo ++ [(x, Value.slice b7 x.xs.length b8, Value.slice b9 x.ys.length c9, Value.slice d0 x.fs.length d1)]).length) h7) (.slice (some ⟨gB, 0, none⟩) (s.bl.length + 1) cB) (kvo ++ [(x, Value.slice b7 x.xs.length b8, Value.slice b9 x.ys.length c9, Value.slice d0 x.fs.length d1)]) cs3 ws3 (s.bl ++ [(x0, x1, x2, x3)]))) := by rw [t5.out]; exact ⟨h9, d9.out, g7.out, f7.out, k0.out⟩
   go_wp2_with fail
   go_roundw
   case rel => exact ⟨j + 1, kvo ++ [(x, Value.slice b7 x.xs.length b8, Value.slice b9 x.ys.length c9, Value.slice d0 x.fs.length d1)], some ⟨gL, 0, none⟩, h7, by omega, by go_num, by rw [t5.out]; omega, j2, C5⟩
   case measure => simp [intOf]; omega
  go_simp;refine (aU1 x.p _ x.xs _ x.ys x.st _ x.fs x.b x.t _ _ _ B _ (aH3 ((s2.out _ l9.hb).obj n0.out)) (by have := (HZ.out.kv m5.out n0.out).2.1.1; dsimp only at this ⊢; omega) (by have := (HZ.out.kv m5.out n0.out).2.2.1.1; dsimp only at this ⊢; omega) (by have := (HZ.out.kv m5.out n0.out).2.2.2.1; dsimp only at this ⊢; omega)).mono ?_;rintro e i1 ⟨va, vb, vc, rfl, n5, bw⟩;dsimp only at n5 ⊢;obtain ⟨b7, b8, rfl⟩ := aA0 n5.names;obtain ⟨b9, c9, rfl⟩ := aA0 n5.vals;obtain ⟨d0, d1, rfl⟩ := aA0 n5.flds;obtain ⟨bC, s1⟩ := exq (D0.heap.size);have C3 : Hid (aA2 i1 bC (kpR (x, Value.slice b7 x.xs.length b8, Value.slice b9 x.ys.length c9, Value.slice d0 x.fs.length d1))) := by rw [s1]; exact aR5 n5
  have l0 : Hid (∀ r ∈ aB2 (.slice oC3 cs3.length pC3) (.slice oP3 ws3.length pP3) (.slice oL kvo.length cL) (.slice (some ⟨gB, 0, none⟩) (s.bl.length + 1) cB) kvo cs3 ws3 (s.bl ++ [(x0, x1, x2, x3)]), ∀ g, r.v.ownBlock = some g → g < bC) := fun r hr g hg => by rw [s1]; exact i5.out.lt hr hg
  have y9 : Hid (w.heap.size ≤ bC) := by rw [s1]; exact l9.hb.size
  clear n5 s1;have h0 := jw l9 bw;have d5 := hblk f4 bw;have i6 := hid (aA2.below i5.out bw);clear bw l9;have m4 : Hid (aA2 (i1) bC (kpR (x, Value.slice b7 x.xs.length b8, Value.slice b9 x.ys.length c9, Value.slice d0 x.fs.length d1))) := C3.out;clear C3;have j5 := And.intro (jb h0 1 rfl) (b5.out _ h0.hb);refine hK.out _ _ j5 (fun _ => ?_)
  clear hK K b4;refine tkP 21 (.agg #[.string x.p, .slice b7 x.xs.length b8, .slice b9 x.ys.length c9, .int .i64 x.st, .slice d0 x.fs.length d1, .string x.b, .int .i64 x.t, .int .i64 x.a, .int .i64 x.q]) 92 rfl rfl j5 ?_;go_frame;refine wpAnyH_ready (rs := [1, 22]) (by kernel_rfl) (by simp) ?_;refine AllReadyH.cons rfl (fun K hK => ?_) (AllReadyH.cons rfl (fun K hK => ?_) AllReadyH.nil)
  ·have C2 := c6c d5.out;go_simp;refine hK.out _ _ j5 (fun _ => ?_)
   clear hK K C2;refine rd1 22 rfl (fun K hK => ?_)
   go_simp;have bw : Below i1.heap.size i1 (i1.alloc (.cells #[.string x.p, .slice b7 x.xs.length b8, .slice b9 x.ys.length c9, .int .i64 x.st, .slice d0 x.fs.length d1, .string x.b, .int .i64 x.t, .int .i64 x.a, .int .i64 x.q] 82)) := (Below.refl _ _).alloc (Nat.le_refl _) _;have h3 := And.intro (aA3 (jb h0 1 rfl) bw) (b5.out _ (h0.hb.trans (bw.mono h0.hb.size)));refine hK.out _ _ h3 (fun _ => ?_)
   clear hK K h3 bw j5;obtain ⟨q5, p8⟩ := exq (i1.heap.size);obtain ⟨m3, d4⟩ := exq ((i1.alloc (.cells #[.string x.p, .slice b7 x.xs.length b8, .slice b9 x.ys.length c9, .int .i64 x.st, .slice d0 x.fs.length d1, .string x.b, .int .i64 x.t, .int .i64 x.a, .int .i64 x.q] 82)));rw [← p8, ← d4];have bw := bal d4;have e5 := ja h0 d4 p8.symm;have a3 := hblk d5 bw;have e0 := hid (aA2.below i6.out bw);have j9 := hid (aA2.below m4.out bw);have n6 := And.intro (jb e5 2 rfl) (b5.out _ e5.hb);clear bw d4 p8 h0;refine rd1 23 rfl (fun K hK => ?_)
   have g6 : m3.ownsRow w.heap.size 82 9 (.slice oL kvo.length cL) kvo.length (kvo.flatMap kpC) := e0.out.own (aH8 (.slice oL kvo.length cL) kvo) (by simp [aB2, aC5]);have o8 : kvo.length + 1 ≤ maxLen := by unfold maxLen; omega
   have o9 : (kvo.length + 1) * 136 ≤ 140737488355328 := by omega
   have f5 := e5.hb;refine step_append_lies m3 (by rfl) _ _ 40 (by rfl) w.heap.size 82 i0 (.agg #[.string ⟨#[]⟩, .slice none 0 0, .slice none 0 0, .int .i64 0, .slice none 0 0, .string ⟨#[]⟩, .int .i64 0, .int .i64 0, .int .i64 0]) 9 136 underlying40 hi D3 t6 t7 rfl (by decide) _ _ _ (by rfl) g6 ⟨q5, 0, none⟩ 1 1 [.string x.p, .slice b7 x.xs.length b8, .slice b9 x.ys.length c9, .int .i64 x.st, .slice d0 x.fs.length d1, .string x.b, .int .i64 x.t, .int .i64 x.a, .int .i64 x.q] (by rfl) rfl (World.news_of_block (jb e5 0 rfl)) (by intro u hu; simp only [List.mem_cons, List.not_mem_nil, or_false] at hu; rcases hu with rfl | rfl | rfl | rfl | rfl | rfl | rfl | rfl | rfl <;> rfl) (by decide) o8 o9 f5.size _ rfl ?_;intro gL h7 j3 d8 a1 h4 k5;have f6 : Bw w (j3) := f5.grown a1 f5.size (fun g hg => aB7 g6 hg)
   have x7 := hid a1.size;have a5 : Hid (j3.heap[qN1]? = some (.cells #[.slice oC3 cs3.length pC3, .slice oP3 ws3.length pP3, .slice oL kvo.length cL, .slice (some ⟨gB, 0, none⟩) (s.bl.length + 1) cB, .int .i64 s.nx, .int .i64 (s.sq + 1)] 43)) := (a1.block _ (blt a3.out) (fun e => aA9 g6 a3.out (by decide) _ e.symm rfl)).trans a3.out
   have HV : ∀ g, (Value.slice (some ⟨gL, 0, none⟩) (kvo.length + 1) h7).ownBlock = some g → (Value.slice oL kvo.length cL).ownBlock = some g ∨ m3.heap.size ≤ g := by
    intro g hg
    have e : some gL = some g := hg
    cases e
    rcases h4 with h | h
    ·exact .inl h
    ·exact .inr (by omega)
   have e8 : Hid (aA2 j3 w.heap.size (aB2 (.slice oC3 cs3.length pC3) (.slice oP3 ws3.length pP3) (.slice (some ⟨gL, 0, none⟩) (kvo.length + 1) h7) (.slice (some ⟨gB, 0, none⟩) (s.bl.length + 1) cB) (kvo ++ [(x, Value.slice b7 x.xs.length b8, Value.slice b9 x.ys.length c9, Value.slice d0 x.fs.length d1)]) cs3 ws3 (s.bl ++ [(x0, x1, x2, x3)]))) := aO0 e0.out j9.out l0.out y9.out a1 d8 HV;have h6 : Hid (aA2 (j3) w.heap.size (aB2 (.slice oC3 cs3.length pC3) (.slice oP3 ws3.length pP3) (.slice (some ⟨gL, 0, none⟩) (kvo.length + 1) h7) (.slice (some ⟨gB, 0, none⟩) (s.bl.length + 1) cB) (kvo ++ [(x, Value.slice b7 x.xs.length b8, Value.slice b9 x.ys.length c9, Value.slice d0 x.fs.length d1)]) cs3 ws3 (s.bl ++ [(x0, x1, x2, x3)]))) := e8.out;have i7 := jz e5 f6 (jzx (jzb (jgB a1 g6 (jb e5 1 rfl)) (jzb (jgB a1 g6 (jb e5 2 rfl)) (jzn _))));clear e8 HV g6 o8 o9 d8 a1 h4 k5 l0 y9 f5 e5;simp only [Act.put, List.setIfInBounds_toArray]
   have h8 := And.intro (jb i7 1 rfl) (b5.out _ f6);refine hK.out _ _ h8 (fun _ => ?_)
   clear hK K n6;refine tkP 24 (.pointer (some ⟨qN1, 2, none⟩)) 95 rfl rfl h8 ?_;simp only [Act.put]
   refine rd1 25 rfl (fun K hK => ?_)
   have C4 := c6f a5.out;obtain ⟨i8, hY⟩ := exq ((j3.setCell ⟨qN1, 2, none⟩ (.slice (some ⟨gL, 0, none⟩) (kvo.length + 1) h7)));have HY := hsy hY;have h9 : Bw w (i8) := by rw [hY]; exact (f6.setCell (p := ⟨qN1, 2, none⟩) d7.out _)
   have d9 := hid (jbo [(2, _)] (jb i7 1 rfl) hY a2.out);have g7 := hid (jbo [(2, _)] (jb i7 0 rfl) hY a0.out);have k0 := hid (jrs [(2, _)] h6.out hY a5.out (aC1 (by decide) (by decide) (by decide) (by decide) (by decide)));have f7 := hid (jbs [(2, _)] a5.out hY);have I1 := jz i7 h9 (jzb g7.out (jzb d9.out (jzn _)));clear hY f6 i7;go_simp;rw [HY.out];have k1 := And.intro d9.out (b5.out _ h9);refine hK.out _ _ k1 (fun _ => ?_)
   clear hK K HY h8 C4;clear k1;refine wdn ?_;have b2 := aK4 s.ks j (by rw [← m5.out, List.length_map, n7.out]; omega);rw [D1.out] at b2
   have j2 : Hid ((kvo ++ [(x, Value.slice b7 x.xs.length b8, Value.slice b9 x.ys.length c9, Value.slice d0 x.fs.length d1)]).map (·.1) = (s.ks.take (j + 1)).filter (fun k => decide (¬ AnyK (s.bl ++ [(x0, x1, x2, x3)]) k))) := by
    show _ = _
    rw [b2, List.filter_append, List.map_append, z2.out, List.filter_cons_of_pos (by exact decide_eq_true x9.out)]
    rfl
   clear b2;have t5 : Hid ((kvo ++ [(x, Value.slice b7 x.xs.length b8, Value.slice b9 x.ys.length c9, Value.slice d0 x.fs.length d1)]).length = kvo.length + 1) := by show _ = _; simp
   have C5 : Hid (Bw w i8 ∧ i8.heap[q1]? = some (.cells #[.slice o1 s.cs.length c1, .slice o2 s.ws.length c2, .slice (some ⟨g3, 0, none⟩) n3 c3, .slice o4 s.bl.length c4, .int .i64 s.nx, .int .i64 s.sq] 43) ∧ i8.heap[q3]? = some (.cells #[.slice none 0 0, .slice none 0 0, .slice none 0 0, .slice none 0 0, .int .i64 0, .int .i64 0] 43) ∧ i8.heap[qN1]? = some (.cells #[.slice oC3 cs3.length pC3, .slice oP3 ws3.length pP3, .slice (some ⟨gL, 0, none⟩) ((kvo ++ [(x, Value.slice b7 x.xs.length b8, Value.slice b9 x.ys.length c9, Value.slice d0 x.fs.length d1)]).length) h7, .slice (some ⟨gB, 0, none⟩) (s.bl.length + 1) cB, .int .i64 s.nx, .int .i64 (s.sq + 1)] 43) ∧ aA2 i8 w.heap.size (aB2 (.slice oC3 cs3.length pC3) (.slice oP3 ws3.length pP3) (.slice (some ⟨gL, 0, none⟩) ((kvo ++ [(x, Value.slice b7 x.xs.length b8, Value.slice b9 x.ys.length c9, Value.slice d0 x.fs.length d1)]).length) h7) (.slice (some ⟨gB, 0, none⟩) (s.bl.length + 1) cB) (kvo ++ [(x, Value.slice b7 x.xs.length b8, Value.slice b9 x.ys.length c9, Value.slice d0 x.fs.length d1)]) cs3 ws3 (s.bl ++ [(x0, x1, x2, x3)]))) := by rw [t5.out]; exact ⟨h9, d9.out, g7.out, f7.out, k0.out⟩
   go_wp2_with fail
   go_roundw
   case rel => exact ⟨j + 1, kvo ++ [(x, Value.slice b7 x.xs.length b8, Value.slice b9 x.ys.length c9, Value.slice d0 x.fs.length d1)], some ⟨gL, 0, none⟩, h7, by omega, by go_num, by rw [t5.out]; omega, j2, C5⟩
   case measure => simp [intOf]; omega
  go_simp;have bw : Below i1.heap.size i1 (i1.alloc (.cells #[.string x.p, .slice b7 x.xs.length b8, .slice b9 x.ys.length c9, .int .i64 x.st, .slice d0 x.fs.length d1, .string x.b, .int .i64 x.t, .int .i64 x.a, .int .i64 x.q] 82)) := (Below.refl _ _).alloc (Nat.le_refl _) _;have h3 := And.intro (aA3 (jb h0 1 rfl) bw) (b5.out _ (h0.hb.trans (bw.mono h0.hb.size)));refine hK.out _ _ h3 (fun _ => ?_)
  clear hK K h3 bw j5;obtain ⟨q5, p8⟩ := exq (i1.heap.size);obtain ⟨m3, d4⟩ := exq ((i1.alloc (.cells #[.string x.p, .slice b7 x.xs.length b8, .slice b9 x.ys.length c9, .int .i64 x.st, .slice d0 x.fs.length d1, .string x.b, .int .i64 x.t, .int .i64 x.a, .int .i64 x.q] 82)));rw [← p8, ← d4];have bw := bal d4;have e5 := ja h0 d4 p8.symm;have a3 := hblk d5 bw;have e0 := hid (aA2.below i6.out bw);have j9 := hid (aA2.below m4.out bw);have n6 := And.intro (jb e5 2 rfl) (b5.out _ e5.hb);clear bw d4 p8 h0;refine rd1 1 rfl (fun K hK => ?_)
  have C2 := c6c a3.out;go_simp;refine hK.out _ _ n6 (fun _ => ?_)
  clear hK K C2;refine rd1 23 rfl (fun K hK => ?_)
  have g6 : m3.ownsRow w.heap.size 82 9 (.slice oL kvo.length cL) kvo.length (kvo.flatMap kpC) := e0.out.own (aH8 (.slice oL kvo.length cL) kvo) (by simp [aB2, aC5]);have o8 : kvo.length + 1 ≤ maxLen := by unfold maxLen; omega
  have o9 : (kvo.length + 1) * 136 ≤ 140737488355328 := by omega
  have f5 := e5.hb;refine step_append_lies m3 (by rfl) _ _ 40 (by rfl) w.heap.size 82 i0 (.agg #[.string ⟨#[]⟩, .slice none 0 0, .slice none 0 0, .int .i64 0, .slice none 0 0, .string ⟨#[]⟩, .int .i64 0, .int .i64 0, .int .i64 0]) 9 136 underlying40 hi D3 t6 t7 rfl (by decide) _ _ _ (by rfl) g6 ⟨q5, 0, none⟩ 1 1 [.string x.p, .slice b7 x.xs.length b8, .slice b9 x.ys.length c9, .int .i64 x.st, .slice d0 x.fs.length d1, .string x.b, .int .i64 x.t, .int .i64 x.a, .int .i64 x.q] (by rfl) rfl (World.news_of_block (jb e5 0 rfl)) (by intro u hu; simp only [List.mem_cons, List.not_mem_nil, or_false] at hu; rcases hu with rfl | rfl | rfl | rfl | rfl | rfl | rfl | rfl | rfl <;> rfl) (by decide) o8 o9 f5.size _ rfl ?_;intro gL h7 j3 d8 a1 h4 k5;have f6 : Bw w (j3) := f5.grown a1 f5.size (fun g hg => aB7 g6 hg)
  have x7 := hid a1.size;have a5 : Hid (j3.heap[qN1]? = some (.cells #[.slice oC3 cs3.length pC3, .slice oP3 ws3.length pP3, .slice oL kvo.length cL, .slice (some ⟨gB, 0, none⟩) (s.bl.length + 1) cB, .int .i64 s.nx, .int .i64 (s.sq + 1)] 43)) := (a1.block _ (blt a3.out) (fun e => aA9 g6 a3.out (by decide) _ e.symm rfl)).trans a3.out
  have HV : ∀ g, (Value.slice (some ⟨gL, 0, none⟩) (kvo.length + 1) h7).ownBlock = some g → (Value.slice oL kvo.length cL).ownBlock = some g ∨ m3.heap.size ≤ g := by
   intro g hg
   have e : some gL = some g := hg
   cases e
   rcases h4 with h | h
   ·exact .inl h
   ·exact .inr (by omega)
  have e8 : Hid (aA2 j3 w.heap.size (aB2 (.slice oC3 cs3.length pC3) (.slice oP3 ws3.length pP3) (.slice (some ⟨gL, 0, none⟩) (kvo.length + 1) h7) (.slice (some ⟨gB, 0, none⟩) (s.bl.length + 1) cB) (kvo ++ [(x, Value.slice b7 x.xs.length b8, Value.slice b9 x.ys.length c9, Value.slice d0 x.fs.length d1)]) cs3 ws3 (s.bl ++ [(x0, x1, x2, x3)]))) := aO0 e0.out j9.out l0.out y9.out a1 d8 HV;have h6 : Hid (aA2 (j3) w.heap.size (aB2 (.slice oC3 cs3.length pC3) (.slice oP3 ws3.length pP3) (.slice (some ⟨gL, 0, none⟩) (kvo.length + 1) h7) (.slice (some ⟨gB, 0, none⟩) (s.bl.length + 1) cB) (kvo ++ [(x, Value.slice b7 x.xs.length b8, Value.slice b9 x.ys.length c9, Value.slice d0 x.fs.length d1)]) cs3 ws3 (s.bl ++ [(x0, x1, x2, x3)]))) := e8.out;have i7 := jz e5 f6 (jzx (jzb (jgB a1 g6 (jb e5 1 rfl)) (jzb (jgB a1 g6 (jb e5 2 rfl)) (jzn _))));clear e8 HV g6 o8 o9 d8 a1 h4 k5 l0 y9 f5 e5;simp only [Act.put, List.setIfInBounds_toArray]
  have h8 := And.intro (jb i7 1 rfl) (b5.out _ f6);refine hK.out _ _ h8 (fun _ => ?_)
  clear hK K n6;refine tkP 24 (.pointer (some ⟨qN1, 2, none⟩)) 95 rfl rfl h8 ?_;simp only [Act.put]
  refine rd1 25 rfl (fun K hK => ?_)
  have C4 := c6f a5.out;obtain ⟨i8, hY⟩ := exq ((j3.setCell ⟨qN1, 2, none⟩ (.slice (some ⟨gL, 0, none⟩) (kvo.length + 1) h7)));have HY := hsy hY;have h9 : Bw w (i8) := by rw [hY]; exact (f6.setCell (p := ⟨qN1, 2, none⟩) d7.out _)
  have d9 := hid (jbo [(2, _)] (jb i7 1 rfl) hY a2.out);have g7 := hid (jbo [(2, _)] (jb i7 0 rfl) hY a0.out);have k0 := hid (jrs [(2, _)] h6.out hY a5.out (aC1 (by decide) (by decide) (by decide) (by decide) (by decide)));have f7 := hid (jbs [(2, _)] a5.out hY);have I1 := jz i7 h9 (jzb g7.out (jzb d9.out (jzn _)));clear hY f6 i7;go_simp;rw [HY.out];have k1 := And.intro d9.out (b5.out _ h9);refine hK.out _ _ k1 (fun _ => ?_)
  clear hK K HY h8 C4;clear k1;refine wdn ?_;have b2 := aK4 s.ks j (by rw [← m5.out, List.length_map, n7.out]; omega);rw [D1.out] at b2
  have j2 : Hid ((kvo ++ [(x, Value.slice b7 x.xs.length b8, Value.slice b9 x.ys.length c9, Value.slice d0 x.fs.length d1)]).map (·.1) = (s.ks.take (j + 1)).filter (fun k => decide (¬ AnyK (s.bl ++ [(x0, x1, x2, x3)]) k))) := by
   show _ = _
   rw [b2, List.filter_append, List.map_append, z2.out, List.filter_cons_of_pos (by exact decide_eq_true x9.out)]
   rfl
  clear b2;have t5 : Hid ((kvo ++ [(x, Value.slice b7 x.xs.length b8, Value.slice b9 x.ys.length c9, Value.slice d0 x.fs.length d1)]).length = kvo.length + 1) := by show _ = _; simp
  have C5 : Hid (Bw w i8 ∧ i8.heap[q1]? = some (.cells #[.slice o1 s.cs.length c1, .slice o2 s.ws.length c2, .slice (some ⟨g3, 0, none⟩) n3 c3, .slice o4 s.bl.length c4, .int .i64 s.nx, .int .i64 s.sq] 43) ∧ i8.heap[q3]? = some (.cells #[.slice none 0 0, .slice none 0 0, .slice none 0 0, .slice none 0 0, .int .i64 0, .int .i64 0] 43) ∧ i8.heap[qN1]? = some (.cells #[.slice oC3 cs3.length pC3, .slice oP3 ws3.length pP3, .slice (some ⟨gL, 0, none⟩) ((kvo ++ [(x, Value.slice b7 x.xs.length b8, Value.slice b9 x.ys.length c9, Value.slice d0 x.fs.length d1)]).length) h7, .slice (some ⟨gB, 0, none⟩) (s.bl.length + 1) cB, .int .i64 s.nx, .int .i64 (s.sq + 1)] 43) ∧ aA2 i8 w.heap.size (aB2 (.slice oC3 cs3.length pC3) (.slice oP3 ws3.length pP3) (.slice (some ⟨gL, 0, none⟩) ((kvo ++ [(x, Value.slice b7 x.xs.length b8, Value.slice b9 x.ys.length c9, Value.slice d0 x.fs.length d1)]).length) h7) (.slice (some ⟨gB, 0, none⟩) (s.bl.length + 1) cB) (kvo ++ [(x, Value.slice b7 x.xs.length b8, Value.slice b9 x.ys.length c9, Value.slice d0 x.fs.length d1)]) cs3 ws3 (s.bl ++ [(x0, x1, x2, x3)]))) := by rw [t5.out]; exact ⟨h9, d9.out, g7.out, f7.out, k0.out⟩
  go_wp2_with fail
  go_roundw
  case rel => exact ⟨j + 1, kvo ++ [(x, Value.slice b7 x.xs.length b8, Value.slice b9 x.ys.length c9, Value.slice d0 x.fs.length d1)], some ⟨gL, 0, none⟩, h7, by omega, by go_num, by rw [t5.out]; omega, j2, C5⟩
  case measure => simp [intOf]; omega
theorem cH0 {s : ShD} (hP : aI5 s) : s.ks.Pairwise (fun x y => x.q < y.q) := by
 have a0 : ∀ i j, i < j → j < s.ks.length → (kpAt s.ks i).q < (kpAt s.ks j).q := by
  intro i j a1
  induction j with
  | zero => omega
  | succ j ih =>
   intro hj
   have h1 := (hP.2.2.2.2.2 (j + 1) hj).2.2.2.1 (by omega)
   rw [Nat.add_sub_cancel] at h1
   rcases Nat.lt_or_ge i j with h | h
   ·have := ih h (by omega); omega
   ·have : i = j := by omega
    subst this
    exact h1
 rw [List.pairwise_iff_getElem];intro i j hi hj a1;rw [aT4, aT4];exact a0 i j a1 hj
theorem cA2 {l l' : List KpD} (hl : l.Pairwise (fun x y => x.q < y.q)) (hp : l'.Perm l) (hs : l'.Pairwise (fun x y => x.q ≤ y.q)) : l' = l := by
 have a0 : ∀ a b : KpD, a ∈ l → b ∈ l → a.q = b.q → a = b := by
  intro a b ha hb e
  obtain ⟨i, hi, rfl⟩ := List.getElem_of_mem ha
  obtain ⟨j, hj, rfl⟩ := List.getElem_of_mem hb
  rw [List.pairwise_iff_getElem] at hl
  rcases Nat.lt_trichotomy i j with h | h | h
  ·have := hl i j hi hj h; omega
  ·subst h; rfl
  ·have := hl j i hj hi h; omega
 exact List.Perm.eq_of_pairwise (fun a b ha hb h1 h2 => a0 a b (hp.mem_iff.1 ha) hb (by omega)) hs (hl.imp (fun h => by omega)) hp
theorem cA3 {cs : Ts} {ws : List (Int × ByteArray)} (h1 : ∀ i, i < cs.length → (aA8 cs i).size ≤ 1048576) (h2 : ∀ x ∈ ws, x.2.size ≤ 1048576) : ∀ i, i < (aL5 cs ws (fun _ => true)).length → (aA8 (aL5 cs ws (fun _ => true)) i).size ≤ 1048576 := fun i hi => by
 have hl := aP0 cs ws (fun _ => true)
 have hic : i < cs.length := by omega
 unfold aL5 at hi ⊢
 split
 · exact aN0 _ h1 h2 _ _ (Nat.le_refl _) i hic
 ·rename_i h
  rw [if_neg h] at hi
  simp at hi
open Classical in
def bE3 (s : ShD) (kv : Ks) (x : Int × ByteArray × ByteArray × Int) (cs' : Ts) (ws' : List (Int × ByteArray)) (kv' : Ks) (bl' : Bs) (nx' sq' : Int) : Prop :=
 aJ1 s x ∧ cs' = aL5 (aU8 s.cs s.ws) (aV4 s.ws (s.bl.length : Int) (recI s.sq (banT x.1 x.2.1 x.2.2.1 x.2.2.2))) (fun _ => true) ∧ ws' = [] ∧ kv' = kv.filter (fun y => !decide (AnyK (s.bl ++ [x]) y.1)) ∧ bl' = s.bl ++ [x] ∧ nx' = s.nx ∧ sq' = s.sq + 1
open Classical in
theorem cA4 (q : Nat) (y0 : Int) (y1 y2 : Tx) (y3 : Int) (v1 v2 V VB : Value) (kv : Ks) (s : ShD) (B : Nat) (w : World) (hShO : aD1 w B v1 v2 V VB kv s) (hz : aF7 s) (hB : B ≤ w.heap.size) (hy1 : y1.size ≤ 1048576) (hy2 : y2.size ≤ 1048576) (hob : w.heap[q]? = some (.cells #[.int .i64 y0, .string y1, .string y2, .int .i64 y3] 62)) (hT : aL2 w) (hP : aI5 s) (c b n : Nat) (D : DataW Value) (W : World) (hb : Below w.heap.size w W) (hc : w.heap.size ≤ c) (hbb : w.heap.size ≤ b) (hq : W.heap[c]? = some (.cells #[v1, v2, V, cR7 VB, .int .i64 s.nx, .int .i64 s.sq, .map (some b)] 143)) (hko : aB9 W b n D) (hmi : aP2 D kv) (hn : n ≤ kv.length) :
  Calls prog 62 #[.pointer (some ⟨c, 0, none⟩), .pointer (some ⟨q, 0, none⟩)] W fun e w' => cL4 c b V B (bE3 s kv (y0, y1, y2, y3)) (¬ aJ1 s (y0, y1, y2, y3)) W e w' := by
 have hk := hShO.2;obtain ⟨ob, cb, c1⟩ := aA0 hShO.bans;subst c1;have c2 : kv.length = s.ks.length := by rw [← hk, List.length_map]
 have d0 := cG5 hP;have a1 : ∀ W', aC8 W W' c b → Below w.heap.size w W' := fun W' hg => aC8.belowB hb hg hb.size hc hbb
 have a8 : aF8 kv := bC6 hP hk;have a9 : aN1 kv := hShO.kept.slices;have b0 : ∀ x ∈ kv, aF9 x.1 := fun x hx => hz.kv hk hx
 have a3 : W.heap[q]? = some (.cells #[.int .i64 y0, .string y1, .string y2, .int .i64 y3] 62) := (hb.block _ (blt hob)).trans hob;have b5 := cG9 c b n D v1 v2 V ob s.bl.length cb kv s.cs s.ws s.bl s.nx s.sq y0 y1 y2 y3 B W hq hko hmi a8 a9 (fun W' hg x hx => (hShO.below (a1 W' hg)).kept.read hx) b0 (fun W' hg => (hShO.below (a1 W' hg)).bans) rfl hP.2.1 hz.bm (ltd hy1) (ltd hy2) (fun W' hg => (hShO.below (a1 W' hg)).disk) hP.1 hz.ct hz.wt hP.2.2.2.1.1 hP.2.2.2.1.2 (fun W' hg => hT.below (a1 W' hg))
 have q0 : W.cell? ⟨q, 0, none⟩ = some (.int .i64 y0) := (aB0 a3 0).trans rfl;have q1 : W.cell? ⟨q, 1, none⟩ = some (.string y1) := (aB0 a3 1).trans rfl;have q2 : W.cell? ⟨q, 2, none⟩ = some (.string y2) := (aB0 a3 2).trans rfl;have q3 : W.cell? ⟨q, 3, none⟩ = some (.int .i64 y3) := (aB0 a3 3).trans rfl
 have HK : Hid (Calls prog 63 #[.pointer (some ⟨c, 0, none⟩), .agg #[.int .i64 y0, .string y1, .string y2, .int .i64 y3]] W fun e w' => cL4 c b V B (bE3 s kv (y0, y1, y2, y3)) (¬ aJ1 s (y0, y1, y2, y3)) W e w') := b5.mono (by
  rintro e w' ⟨ok, u1, u2, b6, b7, D', b1, rfl, a2, a4, a5, hg, b2, c3⟩
  have b8 := a1 w' hg
  cases ok with
  | false =>
   obtain ⟨c4, e1, e2, e3, e4, e5⟩ := c3 rfl
   subst e1 e2 e3 e4 e5
   exact ⟨false, _, _, .slice ob s.bl.length cb, s.cs, s.ws, b1, s.bl, s.nx, s.sq, n, D', s.bl.length, rfl, a2, a4, a5, by omega, a8, a9, bU8 (hShO.1.below b8), ⟨hz.c, hz.w, by rw [List.length_map]; show _ ≤ _; omega, hz.b, hz.ct, hz.wt, fun k b3 => by
    obtain ⟨x, hx, rfl⟩ := List.mem_map.1 b3
    exact b0 x hx, hz.bt⟩, hg, (fun h => nomatch h), fun _ => c4⟩
  | true =>
   obtain ⟨c5, e1, ⟨b9, e2, c0⟩, ⟨oN, pN, e3, b4⟩, e4⟩ := b2 rfl
   subst e1 e3 e4
   have a0 : List.Sublist (kv.filter (fun x => !decide (AnyK (s.bl ++ [(y0, y1, y2, y3)]) x.1))) kv := List.filter_sublist
   refine ⟨true, u1, u2, .slice oN (s.bl.length + 1) pN, b9, [], kv.filter (fun x => !decide (AnyK (s.bl ++ [(y0, y1, y2, y3)]) x.1)), s.bl ++ [(y0, y1, y2, y3)], s.nx, _, n, D', pN, rfl, a2, a4, a5, by omega, a8.sub a0, a9.sub (fun x hx => a0.subset hx), ?_, ?_, hg, fun _ => ⟨c5, e2, rfl, rfl, rfl, rfl, rfl⟩, (fun h => nomatch h)⟩
   ·have h0 : aA2 w B ((kv.filter (fun x => !decide (AnyK (s.bl ++ [(y0, y1, y2, y3)]) x.1))).flatMap kpR) := (bU8 hShO.1).sub ((bP9 kpR a0).trans (List.sublist_append_right _ _))
    have a6 : w'.ownsRow W.heap.size 62 4 (.slice oN (s.bl.length + 1) pN) (s.bl ++ [(y0, y1, y2, y3)]).length (aA5 (s.bl ++ [(y0, y1, y2, y3)])) := by
     rw [List.length_append, List.length_singleton]
     exact b4
    have h2 := h0.more b8 (aK9 c0.cells c0.pend a6) hb.size (Nat.le_trans hB hb.size)
    exact h2.perm List.perm_append_comm
   ·have hcl : b9.length ≤ s.cs.length := by rw [e2]; exact Nat.le_trans (aP0 _ _ _) bI6
    refine ⟨Nat.le_trans hcl hz.c, Nat.zero_le _, ?_, ?_, ?_, (fun x hx => by simp at hx), ?_, ?_⟩
    ·rw [List.length_map]
     have := a0.length_le
     show _ ≤ _
     omega
    ·have := hP.2.1
     show (s.bl ++ [(y0, y1, y2, y3)]).length ≤ _
     rw [List.length_append, List.length_singleton]
     omega
    ·show ∀ i, _
     rw [e2]
     exact cA3 (bI7 hP.1 hz.ct hz.wt) (bI8 hz.wt (Nat.le_trans (bB7 _ _) (by decide)))
    ·intro k b3
     obtain ⟨x, hx, rfl⟩ := List.mem_map.1 b3
     exact b0 x (a0.subset hx)
    ·intro x hx
     rcases List.mem_append.1 hx with hx | hx
     ·exact hz.bt x hx
     ·rw [List.mem_singleton.1 hx]
      exact ⟨hy1, hy2⟩)
 clear b5 a3 hob hShO hz hT hq hko hmi hP hk a8 a9 b0 a1 hb;go_enter func62, ntmps62;go_wp2_with fail
 refine HK.out.mono ?_;rintro e w1 ⟨ok, u1, u2, b6, c6, c7, b1, c8, c9, b7, n', D', cX, rfl, a7⟩;go_wp2_with fail
 go_ret;exact ⟨ok, u1, u2, b6, c6, c7, b1, c8, c9, b7, n', D', cX, rfl, a7⟩
def aZ9 (s : ShD) (x : Int × ByteArray × ByteArray × Int) (w : World) (e : Ending) (w' : World) : Prop :=
 ∃ (ok : Bool) (r : ShD) (va vb vc vd : Value) (kvc : Ks), e = .returned (.tuple #[.agg #[va, vb, vc, vd, .int .i64 r.nx, .int .i64 r.sq], .bool ok]) ∧ ((ok = false ∧ ¬ aI5 s ∧ r = bD2) ∨ (aI5 s ∧ ((ok = false ∧ ¬ aJ1 s x ∧ r = s) ∨ (ok = true ∧ aJ1 s x ∧ aW6 s x r)))) ∧ aD1 w' w.heap.size va vb vc vd kvc r ∧ Below w.heap.size w w'
open Classical in
theorem bV3 {s : ShD} {kv : Ks} (hk : kv.map (·.1) = s.ks) {x : Int × ByteArray × ByteArray × Int} {w : World} {e : Ending} {w' : World} (h : bU7 s (bE3 s kv x) (¬ aJ1 s x) w e w') : aZ9 s x w e w' := by
 rcases h with ⟨h1, h2, h3⟩ | ⟨h1, h2, va, vb, vc, vd, a0, h3, h4, h5⟩ | ⟨h1, a5, a6, a7, a1, a8, a9, b0, va, vb, vc, vd, a0, a2, hp, hs, h3, h4, h5⟩
 ·exact ⟨false, bD2, _, _, _, _, [], h2, .inl ⟨rfl, h1, rfl⟩, bU9 _ _, h3⟩
 ·exact ⟨false, s, va, vb, vc, vd, a0, h3, .inr ⟨h1, .inl ⟨rfl, h2, rfl⟩⟩, h4, h5⟩
 obtain ⟨a3, e1, e2, e3, e4, e5, e6⟩ := a2;subst e1 e2 e3 e4 e5 e6
 have hf : (kv.filter (fun y => !decide (AnyK (s.bl ++ [x]) y.1))).map (·.1) = s.ks.filter (fun k => decide (¬ AnyK (s.bl ++ [x]) k)) := by
  rw [← hk, List.filter_map]
  congr 1
  apply List.filter_congr
  intro y _
  by_cases h2 : AnyK (s.bl ++ [x]) y.1 <;> simp [h2]
 have a4 : a1.map (·.1) = s.ks.filter (fun k => decide (¬ AnyK (s.bl ++ [x]) k)) := by
  refine cA2 ((cH0 h1).sublist List.filter_sublist) ?_ (List.pairwise_map.2 hs)
  rw [← hf]
  exact hp.map _
 refine ⟨true, ⟨aL5 (aU8 s.cs s.ws) (aV4 s.ws (s.bl.length : Int) (recI s.sq (banT x.1 x.2.1 x.2.2.1 x.2.2.2))) (fun _ => true), [], a1.map (·.1), s.bl ++ [x], s.nx, s.sq + 1⟩, va, vb, vc, vd, a0, h3, .inr ⟨h1, .inr ⟨rfl, a3, ?_⟩⟩, h4, h5⟩
 exact ⟨_, _, cR9 h1.1 (by have := h1.2.1; omega) _, rfl, rfl, a4, rfl, rfl, rfl⟩
theorem bK7 (y0 : Int) (y1 y2 : Tx) (y3 : Int) (v1 v2 V VB : Value) (kv : Ks) (s : ShD) (B : Nat) (w : World) (h : aD1 w B v1 v2 V VB kv s) (hz : aF7 s) (hB : B ≤ w.heap.size) (hy1 : y1.size ≤ 1048576) (hy2 : y2.size ≤ 1048576) (hT : aL2 w) :
  Calls prog 20 #[.agg #[v1, v2, V, VB, .int .i64 s.nx, .int .i64 s.sq], .agg #[.int .i64 y0, .string y1, .string y2, .int .i64 y3]] w fun e w' => aZ9 s (y0, y1, y2, y3) w e w' := by
 have c7 : Hid (∀ W, Bw w W → aD1 W B v1 v2 V VB kv s) := fun W hb => h.below hb
 have d2 : Hid (kv.map (·.1) = s.ks) := h.2;have HZ := hid hz;have c8 := hid hB;have d3 := hid hy1;have d4 := hid hy2;have d5 : Hid (aL2 w) := hT;clear h hz hB hy1 hy2 hT;have K0 := jnil w;go_enter func20, ntmps20;go_upto_region 1 with fail
 obtain ⟨q1, b1⟩ := exq (w.heap.size);obtain ⟨w1, a4⟩ := exq (w.alloc (.cells #[v1, v2, V, VB, .int .i64 s.nx, .int .i64 s.sq] 43));have b2 := b1.symm;rw [← a4]; try rw [← b1];have c9 := hsa a4 b2;have bw := bal a4;have K1 := ja K0 a4 b2;clear bw a4 b2 K0;obtain ⟨q2, b3⟩ := exq (q1 + 1);obtain ⟨w2, a5⟩ := exq (w1.alloc (.cells #[.int .i64 y0, .string y1, .string y2, .int .i64 y3] 62));have b4 : w1.heap.size = q2 := by rw [b3]; exact c9
 rw [← a5]; try rw [← b3];have d0 := hsa a5 b4;have bw := bal a5;have K2 := ja K1 a5 b4;clear bw a5 b4 K1;obtain ⟨q3, b5⟩ := exq (q2 + 1);obtain ⟨w3, a6⟩ := exq (w2.alloc (.cells #[.slice none 0 0, .slice none 0 0, .slice none 0 0, .slice none 0 0, .int .i64 0, .int .i64 0] 43));have b6 : w2.heap.size = q3 := by rw [b5]; exact d0
 rw [← a6]; try rw [← b5];have d6 := hsa a6 b6;have bw := bal a6;have K3 := ja K2 a6 b6;clear bw a6 b6 K2;clear d6 b5 d0 b3 c9 b1;have b7 := c6c (jb K3 2 rfl);have a7 := K3.hb.size;go_wp2_with fail
 refine ((cA1 62 q2 v1 v2 V VB kv s B _ (c7.out _ K3.hb) HZ.out (Nat.le_trans c8.out K3.hb.size) (bE3 s kv (y0, y1, y2, y3)) (¬ aJ1 s (y0, y1, y2, y3)) (enters_of func62 (by kernel_rfl) rfl) (cA4 q2 y0 y1 y2 y3 v1 v2 V VB kv s B _ (c7.out _ K3.hb) HZ.out (Nat.le_trans c8.out K3.hb.size) d3.out d4.out (jb K3 1 rfl) (d5.out.below K3.hb))).mono (fun e w' h => bV3 d2.out h)).mono ?_
 rintro e w4 ⟨ok, r, va, vb, vc, vd, a3, rfl, a1, a2, bw⟩;obtain ⟨b8, b9, d7⟩ := aA0 a2.disk.cells;obtain ⟨c0, c1, d8⟩ := aA0 a2.disk.pend;obtain ⟨c2, c3, d9⟩ := a2.kept.len;obtain ⟨c4, c5, e0⟩ := aA0 a2.bans;subst d7 d8 d9 e0;have K4 := jw K3 bw;clear bw K3;have c6 : Hid (aA2 (w4) w.heap.size (aB2 (.slice b8 r.cs.length b9) (.slice c0 r.ws.length c1) (.slice c2 a3.length c3) (.slice c4 r.bl.length c5) a3 r.cs r.ws r.bl)) := aA2.wide a2.1 a7;have e1 : Hid (a3.map (·.1) = r.ks) := a2.2;have a8 := hid a1;clear a2 a1 a7;clear b7;have e2 := c6f (jb K4 0 rfl);go_wp2_with fail
 obtain ⟨e3, a0⟩ := exq ((((((w4.setCell ⟨q3, 0, none⟩ (.slice b8 r.cs.length b9)).setCell ⟨q3, 1, none⟩ (.slice c0 r.ws.length c1)).setCell ⟨q3, 2, none⟩ (.slice c2 a3.length c3)).setCell ⟨q3, 3, none⟩ (.slice c4 r.bl.length c5)).setCell ⟨q3, 4, none⟩ (.int .i64 r.nx)).setCell ⟨q3, 5, none⟩ (.int .i64 r.sq));rw [← a0];have d1 := jss K4 0 [(0, _), (1, _), (2, _), (3, _), (4, _), (5, _)] a0;have a9 := hid (jrs [(0, _), (1, _), (2, _), (3, _), (4, _), (5, _)] c6.out a0 (jb K4 0 rfl) (aG1 43 (by decide) (by decide) (by decide) (by decide) (by decide)));clear a0 K4;have b0 := c6c (jb d1 0 rfl);refine bodyPost_ret (v := .tuple #[.agg #[.slice b8 r.cs.length b9, .slice c0 r.ws.length c1, .slice c2 a3.length c3, .slice c4 r.bl.length c5, .int .i64 r.nx, .int .i64 r.sq], .bool ok]) (by simp [results, results20, go_sem, b0]) rfl ?_;exact ⟨ok, r, _, _, _, _, a3, rfl, a8.out, ⟨a9.out, e1.out⟩, d1.hb⟩
def GotB (s : ShD) (x : Int × ByteArray × ByteArray × Int) (ok : Bool) (r : ShD) : Prop := (ok = false ∧ ¬ aI5 s ∧ r = bD2) ∨ (aI5 s ∧ ((ok = false ∧ ¬ aJ1 s x ∧ r = s) ∨ (ok = true ∧ aJ1 s x ∧ aW6 s x r)))
theorem aW6.uniq {s : ShD} {x : Int × ByteArray × ByteArray × Int} {r r' : ShD} (h : aW6 s x r) (h' : aW6 s x r') : r = r' := by
 obtain ⟨c1, w1, a1, a2, a3, a4, a5, a6, a7⟩ := h;obtain ⟨c2, w2, a0, a8, a9, b4, b5, b6, b7⟩ := h';obtain ⟨e1, e2⟩ := a1.uniq a0;subst e1 e2;cases r
 cases r'
 simp only at *
 subst a2 a8 a3 a9 a5 b5 a6 b6 a7 b7;rw [a4, b4]
theorem GotB.uniq {s : ShD} {x : Int × ByteArray × ByteArray × Int} {ok ok' : Bool} {r r' : ShD} (h : GotB s x ok r) (h' : GotB s x ok' r') : ok = ok' ∧ r = r' := by
 rcases h with ⟨h1, h2, h3⟩ | ⟨h1, ⟨h2, h3, h4⟩ | ⟨h2, h3, h4⟩⟩ <;> rcases h' with ⟨k1, k2, k3⟩ | ⟨k1, ⟨k2, k3, k4⟩ | ⟨k2, k3, k4⟩⟩
 ·exact ⟨h1.trans k1.symm, h3.trans k3.symm⟩
 ·exact absurd k1 h2
 ·exact absurd k1 h2
 ·exact absurd h1 k2
 ·exact ⟨h2.trans k2.symm, h4.trans k4.symm⟩
 ·exact absurd k3 h3
 ·exact absurd h1 k2
 ·exact absurd h3 k3
 exact ⟨h2.trans k2.symm, h4.uniq k4⟩
open Classical in
theorem GotB.ex (s : ShD) (x : Int × ByteArray × ByteArray × Int) : ∃ ok r, GotB s x ok r := by
 by_cases h : aI5 s
 rotate_left
 ·exact ⟨false, bD2, .inl ⟨rfl, h, rfl⟩⟩
 by_cases h2 : aJ1 s x
 rotate_left
 ·exact ⟨false, s, .inr ⟨h, .inl ⟨rfl, h2, rfl⟩⟩⟩
 by_cases h3 : s.ws.length = 16
 ·exact ⟨true, ⟨_, _, _, _, _, _⟩, .inr ⟨h, .inr ⟨rfl, h2, _, _, aN2.full h3, rfl, rfl, rfl, rfl, rfl, rfl⟩⟩⟩
 exact ⟨true, ⟨_, _, _, _, _, _⟩, .inr ⟨h, .inr ⟨rfl, h2, _, _, aN2.plain h3, rfl, rfl, rfl, rfl, rfl, rfl⟩⟩⟩
theorem bQ0.got {s : ShD} {x : Int × ByteArray × ByteArray × Int} {ok : Bool} {r : ShD} (hg : GotB s x ok r) {w : World} {e : Ending} {w' : World} (h : bQ0 s x w e w') : StOk r ok w e w' := by
 rcases h with ⟨h1, h2, h3⟩ | ⟨r', b, v1, v2, V, VB, kv, h1, h2, h3, h4, h5⟩
 ·obtain ⟨e1, e2⟩ := hg.uniq (show GotB s x false bD2 from .inl ⟨rfl, h1, rfl⟩);subst e1 e2;exact ⟨_, _, _, _, [], h2, bU9 _ _, h3⟩
 obtain ⟨e1, e2⟩ := hg.uniq (show GotB s x b r' from .inr ⟨h1, h2⟩);subst e1 e2;exact ⟨v1, v2, V, VB, kv, h3, h4, h5⟩
theorem aZ9.got {s : ShD} {x : Int × ByteArray × ByteArray × Int} {ok : Bool} {r : ShD} (hg : GotB s x ok r) {w : World} {e : Ending} {w' : World} (h : aZ9 s x w e w') : StOk r ok w e w' := by
 obtain ⟨a0, r', va, vb, vc, vd, kv, h1, h2, h3, h4⟩ := h;obtain ⟨e1, e2⟩ := hg.uniq (show GotB s x a0 r' from h2);subst e1 e2;exact ⟨va, vb, vc, vd, kv, h1, h3, h4⟩
theorem GotB.lim {s : ShD} {x : Int × ByteArray × ByteArray × Int} {ok : Bool} {r : ShD} (hg : GotB s x ok r) (hs : aF7 s) (hw : wtK s.ks ≤ 1048576) : cE6 r := by
 have mk : ∀ r : ShD, r.ks.length ≤ 2000000 → r.cs.length ≤ 1048576 → r.ws.length ≤ 1048576 → wtK r.ks ≤ 1048576 → r.bl.length ≤ 1048577 → (∀ k ∈ r.ks, k.xs.length ≤ 2000000 ∧ k.ys.length ≤ 2000000 ∧ k.fs.length ≤ 2000000) → cE6 r := by
  intro r h0 h1 h2 h3 h4 h5
  refine ⟨by omega, by omega, by omega, by omega, h5, fun kv hk => ?_⟩
  have h6 := cB4 kv
  rw [hk] at h6
  omega
 have a0 : ∀ k : KpD, aF9 k → k.xs.length ≤ 2000000 ∧ k.ys.length ≤ 2000000 ∧ k.fs.length ≤ 2000000 := fun k hk => ⟨Nat.le_trans hk.2.1.1 (by decide), Nat.le_trans hk.2.2.1.1 (by decide), Nat.le_trans hk.2.2.2.1 (by decide)⟩
 rcases hg with ⟨_, _, rfl⟩ | ⟨_, ⟨_, _, rfl⟩ | ⟨_, _, hk⟩⟩
 ·exact mk _ (by decide) (by decide) (by decide) (Nat.zero_le _) (by decide) (fun k hk => by simp [bD2] at hk)
 ·exact mk _ (ltd hs.k) hs.c hs.w hw (ltd hs.b) (fun k hk => a0 k (hs.ks k hk))
 obtain ⟨c2, w2, k1, k2, k3, k4, k5, k6, k7⟩ := hk;have h1 := k1.small;have hc := hs.c;have h3 := aP0 c2 w2 (fun _ => true)
 refine mk _ (by
  rw [k4]
  exact Nat.le_trans (List.length_filter_le _ _) (ltd hs.k)) (by rw [k2]; omega) (by rw [k3]; exact Nat.zero_le _) ?_ (by rw [k5, List.length_append, List.length_singleton]; have := hs.b; omega) ?_
 ·rw [k4];exact Nat.le_trans (bM1 _ _) hw
 intro k hk;rw [k4] at hk;exact a0 k (hs.ks k (List.mem_filter.1 hk).1)
end Go.Proofs.YtejoifianjgefaaGreatDoor
namespace Go.Proofs.YtejoifianjgefaaGreatDoor
open Go.Proofs.Tryz
open Go.RowKit Go.WideShapes
open Go.Lib hiding intOf
theorem cO3 {H : Type} {enc : TypeId × Value → H} {W : World} {fuel : Nat} {d0 d1 d2 d3 d4 d5 d6 : Value} {x : DataW H × List MemPlace} (hf : DataW.trod enc prog W 0 (fun _ => true) true fuel 34 [d0, d1, d2, d3, d4, d5, d6] = some x) :
  ∃ (p : Tx) (a1 : Oa) (n1 c1 : Nat) (xs : Ts) (a2 : Oa) (n2 c2 : Nat) (ys : Ts) (st : Int) (a3 : Oa) (n3 c3 : Nat) (fs : Fs) (b : Tx) (t : Int), (d0 = .string p ∧ d1 = .slice a1 n1 c1 ∧ d2 = .slice a2 n2 c2 ∧ d3 = .int .i64 st ∧ d4 = .slice a3 n3 c3 ∧ d5 = .string b ∧ d6 = .int .i64 t) ∧ ArgT W W.heap.size a1 n1 xs ∧ ArgT W W.heap.size a2 n2 ys ∧ ArgF W W.heap.size a3 n3 fs ∧ n1 ≤ maxLen ∧ n2 ≤ maxLen ∧ n3 ≤ maxLen ∧ (∀ i, i < n1 → (aA8 xs i).size ≤ maxLen) ∧ (∀ i, i < n2 → (aA8 ys i).size ≤ maxLen) ∧ aP6 n3 fs ∧ p.size ≤ maxLen ∧ b.size ≤ maxLen := by
 obtain ⟨ys, q, _, _, _, a5, hg⟩ := DataW.trod_struct underlying34 hf;have a6 : prog.cellsOf 32 = 3 := by kernel_rfl
 have e3 : prog.cellsOf 3 = 1 := by kernel_rfl
 have e9 : prog.cellsOf 9 = 1 := by kernel_rfl
 have eL : prog.cellsOf 30 = 1 := by kernel_rfl
 have eS : prog.cellsOf 22 = 1 := by kernel_rfl
 have g0 := hg 0 _ rfl;have g1 := hg 1 _ rfl;have g2 := hg 2 _ rfl;have g3 := hg 3 _ rfl;have g4 := hg 4 _ rfl;simp [e3, e9, eS, a6] at g0 g1 g2 g3 g4
 have b0 : ys.length = 5 := a5;rw [List.getElem?_eq_getElem (show 0 < ys.length by omega)] at g0;rw [List.getElem?_eq_getElem (show 1 < ys.length by omega)] at g1;rw [List.getElem?_eq_getElem (show 2 < ys.length by omega)] at g2;rw [List.getElem?_eq_getElem (show 3 < ys.length by omega)] at g3;rw [List.getElem?_eq_getElem (show 4 < ys.length by omega)] at g4;obtain ⟨zs, q2, _, _, _, a7, hk⟩ := DataW.trod_struct underlying32 g3;have k0 := hk 0 _ rfl;have k1 := hk 1 _ rfl;have k2 := hk 2 _ rfl;simp [e3, e9, eL] at k0 k1 k2
 have b1 : zs.length = 3 := a7;rw [List.getElem?_eq_getElem (show 0 < zs.length by omega)] at k0;rw [List.getElem?_eq_getElem (show 1 < zs.length by omega)] at k1;rw [List.getElem?_eq_getElem (show 2 < zs.length by omega)] at k2;obtain ⟨p, hp, _, a8⟩ := DataW.trod_string underlying9 g0;obtain ⟨t, ht, _, _⟩ := DataW.trod_int underlying3 g4;obtain ⟨st, a4, _, _⟩ := DataW.trod_int underlying3 k0;obtain ⟨b, hb, _, a9⟩ := DataW.trod_string underlying9 k2
 obtain ⟨a1, n1, c1, rfl⟩ : ∃ a n a0, d1 = .slice a n a0 := by
  rcases DataW.trod_slice underlying22 g1 with ⟨h, _⟩ | ⟨a, n, a0, _, _, _, _, h, _⟩
  ·exact ⟨none, 0, 0, by simpa using h⟩
  ·exact ⟨_, n, a0, by simpa using h⟩
 obtain ⟨a2, n2, c2, rfl⟩ : ∃ a n a0, d2 = .slice a n a0 := by
  rcases DataW.trod_slice underlying22 g2 with ⟨h, _⟩ | ⟨a, n, a0, _, _, _, _, h, _⟩
  ·exact ⟨none, 0, 0, by simpa using h⟩
  ·exact ⟨_, n, a0, by simpa using h⟩
 obtain ⟨a3, n3, c3, rfl⟩ : ∃ a n a0, d4 = .slice a n a0 := by
  rcases DataW.trod_slice underlying30 k1 with ⟨h, _⟩ | ⟨a, n, a0, _, _, _, _, h, _⟩
  ·exact ⟨none, 0, 0, by simpa using h⟩
  ·exact ⟨_, n, a0, by simpa using h⟩
 obtain ⟨xs, x1, x2, x3⟩ := bF6 g1;obtain ⟨ws, y1, y2, y3⟩ := bF6 g2;obtain ⟨fs, z1, z2, z3⟩ := cC9 k1;simp only [List.cons.injEq, and_true] at hp ht a4 hb
 subst hp ht a4 hb;exact ⟨p, a1, n1, c1, xs, a2, n2, c2, ws, st, a3, n3, c3, fs, b, t, ⟨rfl, rfl, rfl, rfl, rfl, rfl, rfl⟩, x1, y1, z1, x2, y2, z2, x3, y3, z3, a8, a9⟩
theorem cM0 {H : Type} {enc : TypeId × Value → H} {W : World} {fuel : Nat} {a : Oa} {n cap : Nat} {x : DataW H × List MemPlace} (h : DataW.trod enc prog W 0 (fun _ => true) true fuel 26 [.slice a n cap] = some x) :
  ∃ ks, aK5 W W.heap.size a n ks ∧ n ≤ maxLen ∧ ∀ k ∈ ks, bT0 k := by
 rcases Go.Deep.open_slice underlying26 h with ⟨a4, _⟩ | ⟨ad, c6, c, m, q, Dd, Pl, a4, _, hl, hm, b7, _, hx⟩
 ·simp at a4
  obtain ⟨rfl, rfl, rfl⟩ := a4;exact ⟨[], ⟨rfl, fun i hi => absurd hi (by omega)⟩, Nat.zero_le _, fun x hx => by simp at hx⟩
 simp at a4
 obtain ⟨rfl, rfl, rfl⟩ := a4;have c7 : m = cap := by simpa using b7
 have ce : prog.cellsOf 123 = 9 := by kernel_rfl
 have co : prog.cellsOf 34 = 7 := by kernel_rfl
 have ci : prog.cellsOf 3 = 1 := by kernel_rfl
 have a5 : ∀ i, i < n → ∃ y : KpD, (∃ (a1 : Oa) (n1 c1 : Nat) (a2 : Oa) (n2 c2 : Nat) (a3 : Oa) (n3 c3 : Nat), (W.cell? (ad.add (i * 9 + 0)) = some (.string y.p) ∧ W.cell? (ad.add (i * 9 + 1)) = some (.slice a1 n1 c1) ∧ W.cell? (ad.add (i * 9 + 2)) = some (.slice a2 n2 c2) ∧ W.cell? (ad.add (i * 9 + 3)) = some (.int .i64 y.st) ∧ W.cell? (ad.add (i * 9 + 4)) = some (.slice a3 n3 c3) ∧ W.cell? (ad.add (i * 9 + 5)) = some (.string y.b) ∧ W.cell? (ad.add (i * 9 + 6)) = some (.int .i64 y.t) ∧ W.cell? (ad.add (i * 9 + 7)) = some (.int .i64 y.a) ∧ W.cell? (ad.add (i * 9 + 8)) = some (.int .i64 y.q)) ∧ ArgT W W.heap.size a1 n1 y.xs ∧ ArgT W W.heap.size a2 n2 y.ys ∧ ArgF W W.heap.size a3 n3 y.fs) ∧ bT0 y := by
  intro i hi
  obtain ⟨b8, h1, h2⟩ := hx i (by omega)
  rw [ce] at h1
  obtain ⟨_, a6, a0⟩ := World.cells?_some h1
  obtain ⟨xs, k, hk, c8, _, b9, hf⟩ := DataW.trod_struct underlying123 h2
  match xs, b9, b8, a6 with
  | [x0, x1, x2], _, [v0, v1, v2, v3, v4, v5, v6, v7, v8], _ =>
   have g0 := hf 0 _ rfl
   have g1 := hf 1 _ rfl
   have g2 := hf 2 _ rfl
   simp [ci, co] at g0 g1 g2
   obtain ⟨p, a1, n1, c1, xs, a2, n2, c2, ys, st, a3, n3, c3, fs, b, t, ⟨rfl, rfl, rfl, rfl, rfl, rfl, rfl⟩, w1, w2, w3, m1, m2, m3, s1, s2, s3, s4, s5⟩ := cO3 g0
   obtain ⟨ka, e1, _, _⟩ := DataW.trod_int underlying3 g1
   obtain ⟨kq, e2, _, _⟩ := DataW.trod_int underlying3 g2
   simp only [List.cons.injEq, and_true] at e1 e2
   subst e1 e2
   have a7 := a0 0 (by omega)
   have a8 := a0 1 (by omega)
   have a9 := a0 2 (by omega)
   have b0 := a0 3 (by omega)
   have b1 := a0 4 (by omega)
   have b2 := a0 5 (by omega)
   have b3 := a0 6 (by omega)
   have b4 := a0 7 (by omega)
   have b5 := a0 8 (by omega)
   rw [Go.Deep.add_add] at a7 a8 a9 b0 b1 b2 b3 b4 b5
   refine ⟨⟨p, xs, ys, st, fs, b, t, ka, kq⟩, ⟨a1, n1, c1, a2, n2, c2, a3, n3, c3, ⟨by simpa using a7, by simpa using a8, by simpa using a9, by simpa using b0, by simpa using b1, by simpa using b2, by simpa using b3, by simpa using b4, by simpa using b5⟩, w1, w2, w3⟩, ?_⟩
   unfold bT0
   show xs.length ≤ maxLen ∧ ys.length ≤ maxLen ∧ fs.length ≤ maxLen ∧ (∀ i, i < xs.length → (aA8 xs i).size ≤ maxLen) ∧ (∀ i, i < ys.length → (aA8 ys i).size ≤ maxLen) ∧ aP6 fs.length fs ∧ p.size ≤ maxLen ∧ b.size ≤ maxLen
   rw [w1.len, w2.len, w3.len]
   exact ⟨m1, m2, m3, s1, s2, s3, s4, s5⟩
 haveI : Inhabited KpD := ⟨cQ1⟩
 obtain ⟨q, hq⟩ := Go.Deep.choose_lt a5
 have c0 : ∀ i, i < n → kpAt ((List.range n).map q) i = q i := fun i hi => by
  unfold kpAt
  rw [List.getD_eq_getElem?_getD, List.getElem?_map, List.getElem?_range hi]
  rfl
 refine ⟨(List.range n).map q, ⟨by simp, fun i hi => ?_⟩, by omega, fun x hx => ?_⟩
 ·obtain ⟨⟨a1, n1, c1, a2, n2, c2, a3, n3, c3, cc, w1, w2, w3⟩, _⟩ := hq i hi
  have b6 : ad.spot = none := by
   obtain ⟨⟨_, _, _, _, _, _, _, _, _, c3, _⟩, _⟩ := hq 0 (by omega)
   have := World.cell?_spot c3.1
   simpa [Addr.add] using this
  obtain ⟨b, c4, sp⟩ := ad;simp only at b6
  subst b6;simp only [aY3] at cc
  rw [c0 i hi];have c5 := World.block_lt_of_cell? W _ cc.1;exact ⟨b, c4, rfl, c5, a1, n1, c1, a2, n2, c2, a3, n3, c3, ⟨by simpa [Nat.add_assoc] using cc.1, by simpa [Nat.add_assoc] using cc.2.1, by simpa [Nat.add_assoc] using cc.2.2.1, by simpa [Nat.add_assoc] using cc.2.2.2.1, by simpa [Nat.add_assoc] using cc.2.2.2.2.1, by simpa [Nat.add_assoc] using cc.2.2.2.2.2.1, by simpa [Nat.add_assoc] using cc.2.2.2.2.2.2.1, by simpa [Nat.add_assoc] using cc.2.2.2.2.2.2.2.1, by simpa [Nat.add_assoc] using cc.2.2.2.2.2.2.2.2⟩, w1, w2, w3⟩
 obtain ⟨i, hi, rfl⟩ := List.mem_map.1 hx;exact (hq i (List.mem_range.1 hi)).2
theorem cM1 {H : Type} {enc : TypeId × Value → H} {W : World} {r : Reach} {b0 : Nat} {v : Value} {d : DataW H} {ps : List MemPlace} (hval : Value.okWide prog W r b0 29 v) (h : DataW.Trod enc prog W 0 (fun _ => true) true 29 v d ps) :
  ∃ (a1 : Oa) (n1 c1 : Nat) (cs : Ts) (a2 : Oa) (n2 c2 : Nat) (ws : List (Int × ByteArray)) (a3 : Oa) (n3 c3 : Nat) (ks : List KpD) (a4 : Oa) (n4 c4 : Nat) (bl : Bs) (nx sq : Int), v = .agg #[.slice a1 n1 c1, .slice a2 n2 c2, .slice a3 n3 c3, .slice a4 n4 c4, .int .i64 nx, .int .i64 sq] ∧ ArgT W W.heap.size a1 n1 cs ∧ aG4 W W.heap.size a2 n2 ws ∧ aK5 W W.heap.size a3 n3 ks ∧ aQ0 W W.heap.size a4 n4 bl ∧ (n1 ≤ maxLen ∧ n2 ≤ maxLen ∧ n3 ≤ maxLen ∧ n4 ≤ maxLen ∧ (∀ i, i < n1 → (aA8 cs i).size ≤ maxLen) ∧ (∀ x ∈ ws, (x.2).size ≤ maxLen) ∧ (∀ k ∈ ks, bT0 k) ∧ ∀ x ∈ bl, (x.2.1).size ≤ maxLen ∧ (x.2.2.1).size ≤ maxLen) := by
 obtain ⟨cs, rfl, hsz⟩ := okWide_struct underlying29 hval;obtain ⟨a5, hf⟩ := h;obtain ⟨ys, q, _, _, _, a6, hg⟩ := DataW.trod_struct underlying29 hf;have a7 : prog.cellsOf 29 = 6 := by kernel_rfl
 have a8 : prog.cellsOf 25 = 2 := by kernel_rfl
 have e3 : prog.cellsOf 3 = 1 := by kernel_rfl
 have eK : prog.cellsOf 26 = 1 := by kernel_rfl
 have eB : prog.cellsOf 27 = 1 := by kernel_rfl
 have eS : prog.cellsOf 22 = 1 := by kernel_rfl
 have eW : prog.cellsOf 23 = 1 := by kernel_rfl
 rw [a7] at hsz;obtain ⟨l⟩ := cs
 obtain ⟨d0, d1, d2, d3, d4, d5, rfl⟩ : ∃ d0 d1 d2 d3 d4 d5, l = [d0, d1, d2, d3, d4, d5] := by
  match l, hsz with
  | [d0, d1, d2, d3, d4, d5], _ => exact ⟨d0, d1, d2, d3, d4, d5, rfl⟩
 have g0 := hg 0 _ rfl;have g1 := hg 1 _ rfl;have g2 := hg 2 _ rfl;have g3 := hg 3 _ rfl;have g4 := hg 4 _ rfl;simp [Value.cells, e3, eK, eB, a8] at g0 g1 g2 g3 g4
 have b4 : ys.length = 5 := a6;rw [List.getElem?_eq_getElem (show 0 < ys.length by omega)] at g0;rw [List.getElem?_eq_getElem (show 1 < ys.length by omega)] at g1;rw [List.getElem?_eq_getElem (show 2 < ys.length by omega)] at g2;rw [List.getElem?_eq_getElem (show 3 < ys.length by omega)] at g3;rw [List.getElem?_eq_getElem (show 4 < ys.length by omega)] at g4;obtain ⟨zs, q2, _, _, _, a9, hk⟩ := DataW.trod_struct underlying25 g0;have k0 := hk 0 _ rfl;have k1 := hk 1 _ rfl;simp [eS, eW] at k0 k1
 have b5 : zs.length = 2 := a9;rw [List.getElem?_eq_getElem (show 0 < zs.length by omega)] at k0;rw [List.getElem?_eq_getElem (show 1 < zs.length by omega)] at k1
 obtain ⟨a1, n1, c1, rfl⟩ : ∃ a n a0, d0 = .slice a n a0 := by
  rcases DataW.trod_slice underlying22 k0 with ⟨h, _⟩ | ⟨a, n, a0, _, _, _, _, h, _⟩
  ·exact ⟨none, 0, 0, by simpa using h⟩
  ·exact ⟨_, n, a0, by simpa using h⟩
 obtain ⟨a2, n2, c2, rfl⟩ : ∃ a n a0, d1 = .slice a n a0 := by
  rcases DataW.trod_slice underlying23 k1 with ⟨h, _⟩ | ⟨a, n, a0, _, _, _, _, h, _⟩
  ·exact ⟨none, 0, 0, by simpa using h⟩
  ·exact ⟨_, n, a0, by simpa using h⟩
 obtain ⟨a3, n3, c3, rfl⟩ : ∃ a n a0, d2 = .slice a n a0 := by
  rcases DataW.trod_slice underlying26 g1 with ⟨h, _⟩ | ⟨a, n, a0, _, _, _, _, h, _⟩
  ·exact ⟨none, 0, 0, by simpa using h⟩
  ·exact ⟨_, n, a0, by simpa using h⟩
 obtain ⟨a4, n4, c4, rfl⟩ : ∃ a n a0, d3 = .slice a n a0 := by
  rcases DataW.trod_slice underlying27 g2 with ⟨h, _⟩ | ⟨a, n, a0, _, _, _, _, h, _⟩
  ·exact ⟨none, 0, 0, by simpa using h⟩
  ·exact ⟨_, n, a0, by simpa using h⟩
 obtain ⟨nx, h4, _, _⟩ := DataW.trod_int underlying3 g3;obtain ⟨sq, h5, _, _⟩ := DataW.trod_int underlying3 g4;obtain ⟨xs, x1, x2, x3⟩ := bF6 k0;obtain ⟨ws, y1, y2, y3⟩ := cD5 k1;obtain ⟨ks, z1, z2, z3⟩ := cM0 g1;obtain ⟨bl, b1, b2, b3⟩ := cN1 g2;simp only [List.cons.injEq, and_true] at h4 h5
 subst h4 h5;exact ⟨a1, n1, c1, xs, a2, n2, c2, ws, a3, n3, c3, ks, a4, n4, c4, bl, nx, sq, rfl, x1, y1, z1, b1, x2, y2, z2, b2, x3, y3, z3, b3⟩
end Go.Proofs.YtejoifianjgefaaGreatDoor
