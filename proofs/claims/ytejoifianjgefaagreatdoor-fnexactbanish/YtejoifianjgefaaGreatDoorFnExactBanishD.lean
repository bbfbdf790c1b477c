/- What the proof of FnExactBanish leans on: contracts of the program's and the specification's functions, and plain facts (part 4 of 11). -/
import Derived.Test.YtejoifianjgefaaGreatDoorFnExactBanishC
set_option maxHeartbeats 16000000
set_option maxRecDepth 100000
namespace Go.Proofs.YtejoifianjgefaaGreatDoor
open Go.Proofs.Tryz
open Go.RowKit
open Go.Lib hiding intOf
theorem cE2 (p : Tx) (a1 : Oa) (n1 c1 : Nat) (xs : Ts) (a2 : Oa) (n2 c2 : Nat) (ys : Ts) (st : Int) (a3 : Oa) (n3 c3 : Nat) (fs : Fs) (b : Tx) (t ka kq : Int) (B : Nat) (w : World) (h1 : ArgT w B a1 n1 xs) (h2 : ArgT w B a2 n2 ys) (h3 : ArgF w B a3 n3 fs) (hB : B ≤ w.heap.size) (hn1 : n1 ≤ 1048576) (hn2 : n2 ≤ 1048576) (hn3 : n3 ≤ 1048576) :
  Calls prog 101 #[.agg #[.string p, .slice a1 n1 c1, .slice a2 n2 c2, .int .i64 st, .slice a3 n3 c3, .string b, .int .i64 t, .int .i64 ka, .int .i64 kq]] w fun e w' => ∃ v1 v2 v3, e = .returned (.agg #[.string p, v1, v2, .int .i64 st, v3, .string b, .int .i64 t, .int .i64 ka, .int .i64 kq]) ∧ ObjO w' w.heap.size v1 n1 xs v2 n2 ys v3 n3 fs ∧ Below w.heap.size w w' := by
 have d6 := hid fun W (h : Bw w W) => h1.below (h.mono hB)
 have d7 := hid fun W (h : Bw w W) => h2.below (h.mono hB)
 have d8 := hid fun W (h : Bw w W) => h3.below (h.mono hB)
 have d9 : Hid (∀ W, Bw w W → B ≤ W.heap.size) := fun W h => Nat.le_trans hB h.size
 clear h1 h2 h3;have K0 := jnil w;go_enter func101, ntmps101;go_upto_region 1 with fail
 obtain ⟨q1, b9⟩ := exq (w.heap.size);obtain ⟨w1, b0⟩ := exq (w.alloc (.cells #[.string p, .slice a1 n1 c1, .slice a2 n2 c2, .int .i64 st, .slice a3 n3 c3, .string b, .int .i64 t, .int .i64 ka, .int .i64 kq] 123));have c0 := b9.symm;rw [← b0]; try rw [← b9];have d3 := hsa b0 c0;have bw := bal b0;have K1 := ja K0 b0 c0;clear bw b0 c0 K0;obtain ⟨q2, c4⟩ := exq (q1 + 1);obtain ⟨w2, b1⟩ := exq (w1.alloc (.cells #[.string ⟨#[]⟩, .slice none 0 0, .slice none 0 0, .int .i64 0, .slice none 0 0, .string ⟨#[]⟩, .int .i64 0, .int .i64 0, .int .i64 0] 82));have c5 : w1.heap.size = q2 := by rw [c4]; exact d3
 rw [← b1]; try rw [← c4];have e0 := hsa b1 c5;have bw := bal b1;have K2 := ja K1 b1 c5;clear bw b1 c5 K1;clear e0 c4 d3 b9;go_upto_region 2 with fail
 obtain ⟨q3, c6⟩ := exq (w2.heap.size);obtain ⟨w3, b2⟩ := exq (w2.alloc (.cells #[.string ⟨#[]⟩, .slice none 0 0, .slice none 0 0, .int .i64 0, .slice none 0 0, .string ⟨#[]⟩, .int .i64 0, .int .i64 0, .int .i64 0] 82));have c7 := c6.symm;rw [← b2]; try rw [← c6];have e1 := hsa b2 c7;have bw := bal b2;have K3 := ja K2 b2 c7;clear bw b2 c7 K2;clear e1 c6;have c8 := c9c (jb K3 2 rfl);go_wp2_with fail
 refine (cJ4 p a1 n1 c1 xs a2 n2 c2 ys st a3 n3 c3 fs b t B _ (d6.out _ K3.hb) (d7.out _ K3.hb) (d8.out _ K3.hb) (d9.out _ K3.hb) hn1 hn2 hn3).mono ?_;rintro e w4 ⟨e6, e7, e8, rfl, ⟨a4, a5, a0, d4⟩, bw⟩;obtain ⟨oN, pN, rfl⟩ := aA0 a4;obtain ⟨oV, pV, rfl⟩ := aA0 a5;obtain ⟨oF, pF, rfl⟩ := aA0 a0;have d5 : Hid (∀ j, (Value.slice oN n1 pN).ownBlock = some j → (Value.slice oV n2 pV).ownBlock ≠ some j) := d4;clear d4;have K4 := jj K3 (jcR (jcR (jcR (jN bw) a4 jhn) a5 (jhc (jap d5.out) jhn)) a0 (jhc (jty a0 a5) (jhc (jty a0 a4) jhn)));clear a4;clear a5;clear a0;clear bw K3;clear c8;have b3 := c9f (jb K4 3 rfl);go_upto_region 3 with fail
 obtain ⟨e2, a6⟩ := exq (((((((w4.setCell ⟨q3, 0, none⟩ (.string p)).setCell ⟨q3, 1, none⟩ (.slice oN n1 pN)).setCell ⟨q3, 2, none⟩ (.slice oV n2 pV)).setCell ⟨q3, 3, none⟩ (.int .i64 st)).setCell ⟨q3, 4, none⟩ (.slice oF n3 pF)).setCell ⟨q3, 5, none⟩ (.string b)).setCell ⟨q3, 6, none⟩ (.int .i64 t));rw [← a6];have b6 := jss K4 3 [(0, _), (1, _), (2, _), (3, _), (4, _), (5, _), (6, _)] a6;clear a6 K4;clear b3;have c9 := c9c (jb b6 5 rfl);have d0 := c9f (jb b6 3 rfl);go_upto_region 4 with fail
 obtain ⟨e3, a7⟩ := exq (e2.setCell ⟨q3, 7, none⟩ (.int .i64 ka));rw [← a7];have b7 := js b6 3 a7;clear a7 b6;clear c9 d0;have d1 := c9c (jb b7 5 rfl);have d2 := c9f (jb b7 3 rfl);go_upto_region 5 with fail
 obtain ⟨e4, a8⟩ := exq (e3.setCell ⟨q3, 8, none⟩ (.int .i64 kq));rw [← a8];have b8 := js b7 3 a8;clear a8 b7;clear d1 d2;have e5 := c9f (jb b8 4 rfl);have b3 := c9c (jb b8 3 rfl);go_wp2_with fail
 obtain ⟨e9, a9⟩ := exq (((((((((e4.setCell ⟨q2, 0, none⟩ (.string p)).setCell ⟨q2, 1, none⟩ (.slice oN n1 pN)).setCell ⟨q2, 2, none⟩ (.slice oV n2 pV)).setCell ⟨q2, 3, none⟩ (.int .i64 st)).setCell ⟨q2, 4, none⟩ (.slice oF n3 pF)).setCell ⟨q2, 5, none⟩ (.string b)).setCell ⟨q2, 6, none⟩ (.int .i64 t)).setCell ⟨q2, 7, none⟩ (.int .i64 ka)).setCell ⟨q2, 8, none⟩ (.int .i64 kq));rw [← a9];have b4 := jss b8 4 [(0, _), (1, _), (2, _), (3, _), (4, _), (5, _), (6, _), (7, _), (8, _)] a9;clear a9 b8;have b5 := c9c (jb b4 4 rfl);refine bodyPost_ret (v := .agg #[.string p, .slice oN n1 pN, .slice oV n2 pV, .int .i64 st, .slice oF n3 pF, .string b, .int .i64 t, .int .i64 ka, .int .i64 kq]) (by simp [results, results101, go_sem, b5]) rfl ?_;exact ⟨_, _, _, rfl, ⟨(jo b4 2 rfl), (jo b4 1 rfl), (jo b4 0 rfl), d5.out⟩, b4.hb⟩
theorem cE3 (L : Int) (hL0 : 0 ≤ L) (hL1 : L ≤ 1048576) (p : Tx) (a1 : Oa) (n1 c1 : Nat) (xs : Ts) (a2 : Oa) (n2 c2 : Nat) (ys : Ts) (st : Int) (a3 : Oa) (n3 c3 : Nat) (fs : Fs) (b : Tx) (t ka kq : Int) (B : Nat) (w : World) (h1 : ArgT w B a1 n1 xs) (h2 : ArgT w B a2 n2 ys) (h3 : ArgF w B a3 n3 fs) (hB : B ≤ w.heap.size) (hn1 : n1 ≤ maxLen) (hn2 : n2 ≤ maxLen) (hn3 : n3 ≤ maxLen) (hs1 : ∀ i, i < n1 → (aA8 xs i).size ≤ maxLen) (hs2 : ∀ i, i < n2 → (aA8 ys i).size ≤ maxLen) (hs3 : aP6 n3 fs) (hp : p.size ≤ maxLen) (hx : b.size ≤ maxLen) :
  Calls prog 85 #[.agg #[.string p, .slice a1 n1 c1, .slice a2 n2 c2, .int .i64 st, .slice a3 n3 c3, .string b, .int .i64 t, .int .i64 ka, .int .i64 kq], .int .i64 L] w fun e w' => cS8 L p n1 xs n2 ys n3 fs b w e w' := by
 have a8 := hid fun W (h : Bw w W) => h1.below (h.mono hB)
 have a9 := hid fun W (h : Bw w W) => h2.below (h.mono hB)
 have b0 := hid fun W (h : Bw w W) => h3.below (h.mono hB)
 have b1 : Hid (∀ W, Bw w W → B ≤ W.heap.size) := fun W h => Nat.le_trans hB h.size
 clear h1 h2 h3;have HQ : Hid (n1 ≤ maxLen ∧ n2 ≤ maxLen ∧ n3 ≤ maxLen ∧ (∀ i, i < n1 → (aA8 xs i).size ≤ maxLen) ∧ (∀ i, i < n2 → (aA8 ys i).size ≤ maxLen) ∧ aP6 n3 fs ∧ p.size ≤ maxLen ∧ b.size ≤ maxLen) := ⟨hn1, hn2, hn3, hs1, hs2, hs3, hp, hx⟩;clear hn1 hn2 hn3 hs1 hs2 hs3 hp hx;have K0 := jnil w;go_enter func85, ntmps85;go_upto_region 1 with fail
 obtain ⟨q1, a4⟩ := exq (w.heap.size);obtain ⟨w1, a0⟩ := exq (w.alloc (.cells #[.string p, .slice a1 n1 c1, .slice a2 n2 c2, .int .i64 st, .slice a3 n3 c3, .string b, .int .i64 t, .int .i64 ka, .int .i64 kq] 123));have a5 := a4.symm;rw [← a0]; try rw [← a4];have hs1 := hsa a0 a5;have bw := bal a0;have K1 := ja K0 a0 a5;clear bw a0 a5 K0;clear hs1 a4;have a6 := c9c (jb K1 0 rfl);go_wp2_with fail
 refine (cJ5 L (by omega) (by omega) p a1 n1 c1 xs a2 n2 c2 ys st a3 n3 c3 fs b t B _ (a8.out _ K1.hb) (a9.out _ K1.hb) (b0.out _ K1.hb) (b1.out _ K1.hb) HQ.out.1 HQ.out.2.1 HQ.out.2.2.1 HQ.out.2.2.2.1 HQ.out.2.2.2.2.1 HQ.out.2.2.2.2.2.1 HQ.out.2.2.2.2.2.2.1 HQ.out.2.2.2.2.2.2.2).mono ?_;rintro e w2 ⟨r1, rfl, b3, a7, bw⟩;have b2 := hid a7;clear a7;have K2 := jw K1 bw;clear bw K1;clear a6;by_cases hc1 : r1 < 0
 rotate_left
 ·go_wp2_with fail
  go_ret;exact ⟨r1, rfl, by omega, b2.out, K2.hb⟩
 go_wp2_with fail
 go_ret;exact ⟨-1, rfl, by omega, fun h => absurd h (by omega), K2.hb⟩
theorem cE4 (p : Tx) (n1 : Nat) (xs : Ts) (n2 : Nat) (ys : Ts) (st : Int) (n3 : Nat) (fs : Fs) (b : Tx) (t ka kq : Int) (v1 v2 v3 u1 u2 u3 : Value) (B1 B2 : Nat) (w : World) (hx : ObjO w B1 v1 n1 xs v2 n2 ys v3 n3 fs) (hy : ObjO w B2 u1 n1 xs u2 n2 ys u3 n3 fs) (hn1 : n1 ≤ 2000000) (hn2 : n2 ≤ 2000000) (hn3 : n3 ≤ 2000000) :
  Calls prog 114 #[.agg #[.string p, v1, v2, .int .i64 st, v3, .string b, .int .i64 t, .int .i64 ka, .int .i64 kq], .agg #[.string p, u1, u2, .int .i64 st, u3, .string b, .int .i64 t, .int .i64 ka, .int .i64 kq]] w fun e w' => e = .returned (.bool true) ∧ Below w.heap.size w w' := by
 obtain ⟨c0, c1, rfl⟩ := aA0 hx.names;obtain ⟨c2, c3, rfl⟩ := aA0 hx.vals;obtain ⟨d4, d5, rfl⟩ := aA0 hx.flds;have a0 : Hid (w.ownsRow B1 9 1 (.slice c0 n1 c1) n1 (xs.map Value.string)) := hx.names;have a1 : Hid (w.ownsRow B1 9 1 (.slice c2 n2 c3) n2 (ys.map Value.string)) := hx.vals;have a2 : Hid (w.ownsRow B1 184 2 (.slice d4 n3 d5) n3 (aF3 fs)) := hx.flds;have d9 : Hid (∀ j, (Value.slice c0 n1 c1).ownBlock = some j → (Value.slice c2 n2 c3).ownBlock ≠ some j) := hx.ne;clear hx;obtain ⟨c4, c5, rfl⟩ := aA0 hy.names;obtain ⟨c6, c7, rfl⟩ := aA0 hy.vals;obtain ⟨d6, d7, rfl⟩ := aA0 hy.flds;have a3 : Hid (w.ownsRow B2 9 1 (.slice c4 n1 c5) n1 (xs.map Value.string)) := hy.names;have a4 : Hid (w.ownsRow B2 9 1 (.slice c6 n2 c7) n2 (ys.map Value.string)) := hy.vals;have a5 : Hid (w.ownsRow B2 184 2 (.slice d6 n3 d7) n3 (aF3 fs)) := hy.flds;have e0 : Hid (∀ j, (Value.slice c4 n1 c5).ownBlock = some j → (Value.slice c6 n2 c7).ownBlock ≠ some j) := hy.ne;clear hy;have e4 : (ka != ka) = false := by simp
 have e5 : (kq != kq) = false := by simp
 have K0 := jnil w;go_enter func114, ntmps114;go_upto_region 1 with fail
 obtain ⟨q1, c8⟩ := exq (w.heap.size);obtain ⟨w1, b8⟩ := exq (w.alloc (.cells #[.string p, .slice c0 n1 c1, .slice c2 n2 c3, .int .i64 st, .slice d4 n3 d5, .string b, .int .i64 t, .int .i64 ka, .int .i64 kq] 82));have c9 := c8.symm;rw [← b8]; try rw [← c8];have d8 := hsa b8 c9;have bw := bal b8;have K1 := ja K0 b8 c9;have a6 := hown a0 bw;have a7 := hown a1 bw;have a8 := hown a2 bw;have a9 := hown a3 bw;have b0 := hown a4 bw;have b1 := hown a5 bw;clear bw b8 c9 K0;obtain ⟨q2, d0⟩ := exq (q1 + 1);obtain ⟨w2, b9⟩ := exq (w1.alloc (.cells #[.string p, .slice c4 n1 c5, .slice c6 n2 c7, .int .i64 st, .slice d6 n3 d7, .string b, .int .i64 t, .int .i64 ka, .int .i64 kq] 82));have d1 : w1.heap.size = q2 := by rw [d0]; exact d8
 rw [← b9]; try rw [← d0];have e1 := hsa b9 d1;have bw := bal b9;have K2 := ja K1 b9 d1;have b2 := hown a6 bw;have b3 := hown a7 bw;have b4 := hown a8 bw;have b5 := hown a9 bw;have b6 := hown b0 bw;have b7 := hown b1 bw;clear bw b9 d1 K1;clear e1 d0 d8 c8;have d2 := c9c (jb K2 1 rfl);have d3 := c9c (jb K2 0 rfl);go_wp2_with fail
 refine (cJ6 p n1 xs n2 ys st n3 fs b t _ _ _ _ _ _ _ _ _ ⟨b2.out, b3.out, b4.out, d9.out⟩ ⟨b5.out, b6.out, b7.out, e0.out⟩ hn1 hn2 hn3).mono ?_;rintro e w3 ⟨rfl, bw⟩;have K3 := jw K2 bw;clear bw K2;clear d2 d3;have e2 := c9c (jb K3 1 rfl);have e3 := c9c (jb K3 0 rfl);go_wp2_with fail
 go_ret;exact ⟨rfl, K3.hb⟩
def cV2 (w : World) (B b off i : Nat) (k : KpD) : Prop :=
 ∃ (a1 : Oa) (n1 c1 : Nat) (a2 : Oa) (n2 c2 : Nat) (a3 : Oa) (n3 c3 : Nat), (w.cell? ⟨b, off + i * 9, none⟩ = some (.string k.p) ∧ w.cell? ⟨b, off + i * 9 + 1, none⟩ = some (.slice a1 n1 c1) ∧ w.cell? ⟨b, off + i * 9 + 2, none⟩ = some (.slice a2 n2 c2) ∧ w.cell? ⟨b, off + i * 9 + 3, none⟩ = some (.int .i64 k.st) ∧ w.cell? ⟨b, off + i * 9 + 4, none⟩ = some (.slice a3 n3 c3) ∧ w.cell? ⟨b, off + i * 9 + 5, none⟩ = some (.string k.b) ∧ w.cell? ⟨b, off + i * 9 + 6, none⟩ = some (.int .i64 k.t) ∧ w.cell? ⟨b, off + i * 9 + 7, none⟩ = some (.int .i64 k.a) ∧ w.cell? ⟨b, off + i * 9 + 8, none⟩ = some (.int .i64 k.q)) ∧ ArgT w B a1 n1 k.xs ∧ ArgT w B a2 n2 k.ys ∧ ArgF w B a3 n3 k.fs
def aK5 (w : World) (B : Nat) (a : Oa) (n : Nat) (ks : List KpD) : Prop :=
 ks.length = n ∧ ∀ i, i < n → ∃ b off, a = some ⟨b, off, none⟩ ∧ b < B ∧ cV2 w B b off i (kpAt ks i)
theorem aK5.below {w w' : World} {B : Nat} {a : Oa} {n : Nat} {ks : List KpD} (h : aK5 w B a n ks) (hb : Below B w w') : aK5 w' B a n ks :=
 ⟨h.1, fun i hi => by
  obtain ⟨b, off, h1, h2, a1, n1, c1, a2, n2, c2, a3, n3, c3, ⟨r0, r1, r2, r3, r4, r5, r6, r7, r8⟩, g1, g2, g3⟩ := h.2 i hi
  exact ⟨b, off, h1, h2, a1, n1, c1, a2, n2, c2, a3, n3, c3, ⟨by rw [hb.cell (p := ⟨b, off + i * 9, none⟩) h2]; exact r0, by rw [hb.cell (p := ⟨b, off + i * 9 + 1, none⟩) h2]; exact r1, by rw [hb.cell (p := ⟨b, off + i * 9 + 2, none⟩) h2]; exact r2, by rw [hb.cell (p := ⟨b, off + i * 9 + 3, none⟩) h2]; exact r3, by rw [hb.cell (p := ⟨b, off + i * 9 + 4, none⟩) h2]; exact r4, by rw [hb.cell (p := ⟨b, off + i * 9 + 5, none⟩) h2]; exact r5, by rw [hb.cell (p := ⟨b, off + i * 9 + 6, none⟩) h2]; exact r6, by rw [hb.cell (p := ⟨b, off + i * 9 + 7, none⟩) h2]; exact r7, by rw [hb.cell (p := ⟨b, off + i * 9 + 8, none⟩) h2]; exact r8⟩, g1.below hb, g2.below hb, g3.below hb⟩⟩
def bT0 (k : KpD) : Prop := k.xs.length ≤ maxLen ∧ k.ys.length ≤ maxLen ∧ k.fs.length ≤ maxLen ∧ (∀ i, i < k.xs.length → (aA8 k.xs i).size ≤ maxLen) ∧ (∀ i, i < k.ys.length → (aA8 k.ys i).size ≤ maxLen) ∧ aP6 k.fs.length k.fs ∧ k.p.size ≤ maxLen ∧ k.b.size ≤ maxLen
def aF9 (k : KpD) : Prop := (k.p.size ≤ 1048576 ∧ k.b.size ≤ 1048576) ∧ (k.xs.length ≤ 1048576 ∧ ∀ i, i < k.xs.length → (aA8 k.xs i).size ≤ 1048576) ∧ (k.ys.length ≤ 1048576 ∧ ∀ i, i < k.ys.length → (aA8 k.ys i).size ≤ 1048576) ∧ k.fs.length ≤ 1048576 ∧ szTo k.fs k.fs.length ≤ 1048576
def wtK : List KpD → Nat
 | [] => 0
 | k :: r => 1 + k.xs.length + k.ys.length + k.fs.length + wtK r
theorem cB2 (k : KpD) : ∀ l : List KpD, wtK (l ++ [k]) = wtK l + (1 + k.xs.length + k.ys.length + k.fs.length)
 | [] => by simp [wtK]
 | x :: l => by rw [List.cons_append, wtK, cB2 k l, wtK]; omega
theorem aR5 {w : World} {B : Nat} {v1 v2 v3 : Value} {k : KpD} (h : ObjO w B v1 k.xs.length k.xs v2 k.ys.length k.ys v3 k.fs.length k.fs) : aA2 w B (kpR (k, v1, v2, v3)) := by
 refine ⟨fun r hr => ?_, ?_⟩
 ·simp only [kpR, List.mem_cons, List.not_mem_nil, or_false] at hr
  rcases hr with rfl | rfl | rfl
  ·exact h.names
  ·exact h.vals
  exact h.flds
 unfold kpR;refine List.pairwise_cons.2 ⟨fun r hr => ?_, List.pairwise_cons.2 ⟨fun r hr => ?_, List.pairwise_singleton _ _⟩⟩
 ·simp only [List.mem_cons, List.not_mem_nil, or_false] at hr
  rcases hr with rfl | rfl
  ·exact fun g hg => h.ne g hg
  exact fun g hg => bA8 h.names h.flds (by decide) hg
 rw [List.mem_singleton.1 hr];exact fun g hg => bA8 h.vals h.flds (by decide) hg
theorem aH3 {w : World} {B : Nat} {x : KpD × Value × Value × Value} (h : aA2 w B (kpR x)) : ObjO w B x.2.1 x.1.xs.length x.1.xs x.2.2.1 x.1.ys.length x.1.ys x.2.2.2 x.1.fs.length x.1.fs := by
 have hp := h.apart;unfold kpR at hp;exact ⟨h.own (kpN x) (by simp [kpR]), h.own (kpV x) (by simp [kpR]), h.own (kpF x) (by simp [kpR]), fun g hg => (List.pairwise_cons.1 hp).1 (kpV x) (by simp) g hg⟩
def cQ2 (L : Int) (ks : List KpD) (w : World) (e : Ending) (w' : World) : Prop :=
 ∃ r : Int, e = .returned (.int .i64 r) ∧ r ≤ L ∧ (0 ≤ r → r + (wtK ks : Int) ≤ L ∧ ∀ k ∈ ks, aF9 k) ∧ Below w.heap.size w w'
theorem bX6 (L : Int) (hL0 : 0 ≤ L) (hL1 : L ≤ 1048576) (B : Nat) (a : Oa) (n cap : Nat) (ks : List KpD) (w : World) (harg : aK5 w B a n ks) (hB : B ≤ w.heap.size) (hn : n ≤ maxLen) (hsz : ∀ k ∈ ks, bT0 k) :
  Calls prog 27 #[.slice a n cap, .int .i64 L] w fun e w' => cQ2 L ks w e w' := by
 unfold maxLen at hn;have HS := hid hsz;have a7 : Hid (ks.length = n) := harg.1;have HA : Hid (∀ W, Bw w W → aK5 W B a n ks) := fun W h => harg.below (h.mono hB)
 have b1 : Hid (∀ W, Bw w W → B ≤ W.heap.size) := fun W h => Nat.le_trans hB h.size
 clear hsz harg hB;by_cases c1 : L - (n : Int) < 0
 ·go_enter func27, ntmps27;go_wp2
  go_ret;exact ⟨-1, rfl, by omega, fun h => absurd h (by omega), Below.refl _ _⟩
 go_enter func27, ntmps27;go_wp2
 go_loopw [1, 5] (fun lf i wr => ∃ (k : Nat) (x : Int), k ≤ n ∧ i = .int .i64 (k : Int) ∧ lf = .int .i64 x ∧ 0 ≤ x ∧ x ≤ L ∧ Hid (x + (wtK (ks.take k) : Int) + ((n : Int) - (k : Int)) ≤ L ∧ ∀ y ∈ ks.take k, aF9 y) ∧ Hid (Bw w wr)) (fun _ i _ => n - (intOf i).toNat)
 case atStart => exact ⟨0, _, Nat.zero_le _, rfl, rfl, by omega, by omega, ⟨by simp [wtK], fun x hx => by simp at hx⟩, Below.refl _ _⟩
 case round =>
  obtain ⟨k, x, hk, rfl, rfl, b2, b5, HX, a0⟩ := hrel;by_cases hlt : k < n
  rotate_left
  ·have HF : Hid (x + (wtK ks : Int) ≤ L ∧ ∀ k ∈ ks, aF9 k) := by
    obtain ⟨m1, m2⟩ := HX.out
    rw [List.take_of_length_le (by rw [a7.out]; omega)] at m1 m2
    exact ⟨by omega, m2⟩
   go_wp2
   go_ret;exact ⟨x, rfl, by omega, fun _ => HF.out, a0.out⟩
  have b3 : (k : Int) < (n : Int) := by omega
  obtain ⟨b, b6, rfl, b7, a1, n1, c1, a2, n2, c2, a3, n3, c3, ⟨r0, r1, r2, r3, r4, r5, r6, r7, r8⟩, g1, g2, g3⟩ := (HA.out wr a0.out).2 k hlt;obtain ⟨y, hy⟩ := exq (kpAt ks k);have HM : Hid (y ∈ ks) := by show _ ∈ _; rw [hy]; exact cB1 ks k (by rw [a7.out]; exact hlt)
  have a9 : Hid (ks.take (k + 1) = ks.take k ++ [y]) := by show _ = _; rw [hy]; exact aK4 ks k (by rw [a7.out]; exact hlt)
  rw [← hy] at r0 r3 r5 r6 r7 r8 g1 g2 g3;have a4 := hid g1;have a5 := hid g2;have a6 := hid g3;clear hy g1 g2 g3;go_wp2_with fail
  refine (cE3 x b2 (by omega) y.p a1 n1 c1 y.xs a2 n2 c2 y.ys y.st a3 n3 c3 y.fs y.b y.t y.a y.q B _ a4.out a5.out a6.out (b1.out _ a0.out) (by rw [← a4.out.len]; exact (HS.out y HM.out).1) (by rw [← a5.out.len]; exact (HS.out y HM.out).2.1) (by rw [← a6.out.len]; exact (HS.out y HM.out).2.2.1) (by rw [← a4.out.len]; exact (HS.out y HM.out).2.2.2.1) (by rw [← a5.out.len]; exact (HS.out y HM.out).2.2.2.2.1) (by rw [← a6.out.len]; exact (HS.out y HM.out).2.2.2.2.2.1) (HS.out y HM.out).2.2.2.2.2.2.1 (HS.out y HM.out).2.2.2.2.2.2.2).mono ?_;rintro e w1 ⟨r, rfl, b8, a8, bw⟩;have b0 : Hid (Bw w w1) := a0.out.trans (bw.mono a0.out.size);clear r0 r1 r2 r3 r4 r5 r6 r7 r8 bw;by_cases d1 : r < 0
  ·clear a8;go_wp2
   go_ret;exact ⟨-1, rfl, by omega, fun h => absurd h (by omega), b0.out⟩
  have b4 : Hid (r + (wtK (ks.take (k + 1)) : Int) + ((n : Int) - ((k + 1 : Nat) : Int)) ≤ L ∧ ∀ y ∈ ks.take (k + 1), aF9 y) := by
   obtain ⟨q1, q2, q3, q4, q5, q6⟩ := a8 (by omega)
   obtain ⟨m1, m2⟩ := HX.out
   rw [← a4.out.len] at q1 q3
   rw [← a5.out.len] at q1 q4
   rw [← a6.out.len] at q1 q5 q6
   refine ⟨?_, fun z hz => ?_⟩
   ·rw [a9.out, cB2]
    omega
   ·rw [a9.out] at hz
    rcases List.mem_append.1 hz with hz | hz
    ·exact m2 z hz
    ·rw [List.mem_singleton.1 hz]; exact ⟨q2, q3, q4, q5, q6⟩
  clear a8;go_wp2
  go_roundw
  case rel => exact ⟨k + 1, r, by omega, by go_num, rfl, by omega, by omega, b4, b0⟩
  case measure => simp [intOf]; omega
theorem aY9 : (prog.info? 82).map (fun i => (i.zero, i.size, i.bytes)) = some (some (.agg #[.string ⟨#[]⟩, .slice none 0 0, .slice none 0 0, .int .i64 0, .slice none 0 0, .string ⟨#[]⟩, .int .i64 0, .int .i64 0, .int .i64 0]), 9, 136) := by kernel_rfl
def cO9 (ks : List KpD) (w : World) (e : Ending) (w' : World) : Prop := ∃ (V : Value) (kv : Ks), e = .returned V ∧ kv.map (·.1) = ks ∧ aB8 w' w.heap.size V kv ∧ Below w.heap.size w w'
theorem aB8.obj {w : World} {base : Nat} {V : Value} {kv : Ks} (h : aB8 w base V kv) {x : KpD × Value × Value × Value} (hx : x ∈ kv) : aA2 w base (kpR x) := by
 obtain ⟨s, t, e⟩ := List.append_of_mem hx;refine aA2.sub h ?_;unfold aC5;rw [e, List.flatMap_append, List.flatMap_cons];exact ((List.sublist_append_left _ _).trans (List.sublist_append_right _ _)).trans (List.sublist_cons_self _ _)
theorem bL3 {w : World} {g n base : Nat} {kv : Ks} (hp : aJ7 kpC 9 82 w g n kv) (hl : kv.length = n) (hm : n ≤ maxLen) (hb : base ≤ g) (hr : aA2 w (g + 1) (kv.flatMap kpR)) : aB8 w base (.slice (some ⟨g, 0, none⟩) n n) kv := by
 have a0 : (aH8 (.slice (some ⟨g, 0, none⟩) n n) kv).own w base := by
  have h := hp.owns aV1 (by decide) hl hm hb
  unfold Rw.own aH8
  rw [hl]
  exact h
 refine ⟨fun r h => ?_, List.pairwise_cons.2 ⟨fun r h g' h1 h2 => ?_, hr.apart⟩⟩
 ·rcases List.mem_cons.1 h with h | h
  ·rw [h]; exact a0
  exact aE0 (hr.own r h) (by omega)
 have e1 : some g = some g' := h1;have e2 := hr.ge h h2;have e3 := Option.some.inj e1;omega
theorem bX7 (B : Nat) (a : Oa) (n cap : Nat) (ks : List KpD) (w : World) (harg : aK5 w B a n ks) (hB : B ≤ w.heap.size) (hn : n ≤ 1048576) (hsm : ∀ k ∈ ks, k.xs.length ≤ 1048576 ∧ k.ys.length ≤ 1048576 ∧ k.fs.length ≤ 1048576) :
  Calls prog 41 #[.slice a n cap] w fun e w' => cO9 ks w e w' := by
 obtain ⟨i0, hi, b6, b7, b8⟩ := info_parts aY9;obtain ⟨M, hM⟩ : ∃ M, M = madeCells (Value.agg #[.string ⟨#[]⟩, .slice none 0 0, .slice none 0 0, .int .i64 0, .slice none 0 0, .string ⟨#[]⟩, .int .i64 0, .int .i64 0, .int .i64 0]).cells (((n : Nat) : Int).toNat * i0.size) := ⟨_, rfl⟩
 have c8 : ∀ W : World, (Instr.makeSlice 40 (.int .i64 (n : Int)) (.int .i64 (n : Int))).run prog W = .ok (.slice (some ⟨W.heap.size, 0, none⟩) n n) (W.alloc (.cells M 82)) := fun W => by
  have h := run_make (P := prog) W 40 82 i0 (.agg #[.string ⟨#[]⟩, .slice none 0 0, .slice none 0 0, .int .i64 0, .slice none 0 0, .string ⟨#[]⟩, .int .i64 0, .int .i64 0, .int .i64 0]) underlying40 hi b6 .i64 .i64 (n : Int) (n : Int) (by omega) (by omega) (by rw [b8]; omega) (by omega)
  rw [← hM] at h
  simpa using h
 have b4 : M.size = n * 9 := by rw [hM, size_madeCells, b7]; simp
 have a8 : Hid (ks.length = n) := harg.1;have a9 := hid hsm;have HA : Hid (∀ W, Bw w W → aK5 W B a n ks) := fun W h => harg.below (h.mono hB)
 have b9 : Hid (∀ W, Bw w W → B ≤ W.heap.size) := fun W h => Nat.le_trans hB h.size
 clear hM harg hsm hB;obtain ⟨g, hg⟩ := exq (w.heap.size);have HG : Hid (w.heap.size = g) := hg.symm;have HP : Hid (([] : Ks).length = 0 ∧ ([] : Ks).map (·.1) = ks.take 0 ∧ aJ7 kpC 9 82 (w.alloc (.cells M 82)) g n [] ∧ aA2 (w.alloc (.cells M 82)) (g + 1) (([] : Ks).flatMap kpR)) := ⟨rfl, by simp, ⟨M, by rw [hg]; exact heap_alloc_new w _, b4, fun i h => absurd h (by simp)⟩, aA2.nil _ _⟩
 have c0 : Hid (Bw w (w.alloc (.cells M 82))) := (Below.refl _ _).alloc (Nat.le_refl _) _;go_enter func41, ntmps41;go_wp2
 rw [HG.out];clear hg b4;go_loopw [4] (fun i wr => ∃ (k : Nat) (kv : Ks), k ≤ n ∧ i = .int .i64 (k : Int) ∧ Hid (kv.length = k ∧ kv.map (·.1) = ks.take k ∧ aJ7 kpC 9 82 wr g n kv ∧ aA2 wr (g + 1) (kv.flatMap kpR)) ∧ Hid (Bw w wr)) (fun i _ => n - (intOf i).toNat)
 case atStart => exact ⟨0, [], Nat.zero_le _, rfl, HP, c0⟩
 case round =>
  obtain ⟨k, kv, hk, rfl, b0, a6⟩ := hrel;by_cases hlt : k < n
  rotate_left
  ·obtain rfl : k = n := by omega
   obtain ⟨q1, q2, q3, q4⟩ := b0.out
   have HF : Hid (kv.map (·.1) = ks ∧ aB8 wr w.heap.size (.slice (some ⟨g, 0, none⟩) k k) kv) := by
    refine ⟨?_, bL3 q3 q1 (by unfold maxLen; omega) (by rw [HG.out]; exact Nat.le_refl _) q4⟩
    rw [q2, List.take_of_length_le (by rw [a8.out]; exact Nat.le_refl _)]
   clear q1 q2 q3 q4;go_wp2
   go_ret;exact ⟨_, kv, rfl, HF.out.1, HF.out.2, a6.out⟩
  have c4 : (k : Int) < (n : Int) := by omega
  obtain ⟨b, c9, rfl, d0, a1, n1, c1, a2, n2, c2, a3, n3, c3, ⟨r0, r1, r2, r3, r4, r5, r6, r7, r8⟩, g1, g2, g3⟩ := (HA.out wr a6.out).2 k hlt;obtain ⟨y, hy⟩ := exq (kpAt ks k);have HM : Hid (y ∈ ks) := by show _ ∈ _; rw [hy]; exact cB1 ks k (by rw [a8.out]; exact hlt)
  have c5 : Hid (ks.take (k + 1) = ks.take k ++ [y]) := by show _ = _; rw [hy]; exact aK4 ks k (by rw [a8.out]; exact hlt)
  rw [← hy] at r0 r3 r5 r6 r7 r8 g1 g2 g3;have b1 := hid g1;have b2 := hid g2;have b3 := hid g3;clear hy g1 g2 g3;go_wp2_with fail
  refine (cE2 y.p a1 n1 c1 y.xs a2 n2 c2 y.ys y.st a3 n3 c3 y.fs y.b y.t y.a y.q B _ b1.out b2.out b3.out (b9.out _ a6.out) (by rw [← b1.out.len]; exact (a9.out y HM.out).1) (by rw [← b2.out.len]; exact (a9.out y HM.out).2.1) (by rw [← b3.out.len]; exact (a9.out y HM.out).2.2)).mono ?_;rintro e w1 ⟨v1, v2, v3, rfl, a4, bw⟩;clear r0 r1 r2 r3 r4 r5 r6 r7 r8;obtain ⟨o1, p1, rfl⟩ := aA0 a4.names;obtain ⟨o2, p2, rfl⟩ := aA0 a4.vals;obtain ⟨o3, p3, rfl⟩ := aA0 a4.flds;obtain ⟨q1, q2, q3, q4⟩ := b0.out;have c6 : g < wr.heap.size := q3.lt;have c7 : Hid (Bw w w1) := a6.out.trans (bw.mono a6.out.size);have a0 := q3.below bw;obtain ⟨x, hx⟩ : ∃ x : KpD × Value × Value × Value, x = (y, .slice o1 n1 p1, .slice o2 n2 p2, .slice o3 n3 p3) := ⟨_, rfl⟩
  have hnew : aA2 w1 wr.heap.size (kpR x) := by
   rw [hx]
   apply aR5
   rw [b1.out.len, b2.out.len, b3.out.len]
   exact a4
  have a5 : aA2 w1 (g + 1) (kv.flatMap kpR ++ kpR x) := q4.more bw hnew (Nat.le_refl _) c6
  have a7 : Hid ((kv ++ [x]).length = k + 1 ∧ (kv ++ [x]).map (·.1) = ks.take (k + 1) ∧ aJ7 kpC 9 82 (setW w1 g (k * 9) (kpC x)) g n (kv ++ [x]) ∧ aA2 (setW w1 g (k * 9) (kpC x)) (g + 1) ((kv ++ [x]).flatMap kpR)) := by
   refine ⟨by rw [List.length_append, q1]; rfl, by rw [List.map_append, q2, c5.out, hx]; rfl, ?_, ?_⟩
   ·have h := a0.put aV1 x (by omega)
    rw [q1] at h
    exact h
   ·rw [List.flatMap_append]
    have h2 : aA2 (setW w1 g (k * 9) (kpC x)) (g + 1) (kv.flatMap kpR ++ kpR x) := a5.same (fun r hr j hj => aW1 g j (by have := a5.ge hr hj; omega) _ _ _)
    simpa using h2
  have b5 : Hid (Bw w (setW w1 g (k * 9) (kpC x))) := bA4 (by rw [HG.out]; exact Nat.le_refl _) _ _ _ _ c7.out;rw [hx] at a7 b5;obtain ⟨u0, d1⟩ := a0.cell (k * 9) (by omega);have f0 := a0.frozen (k * 9);obtain ⟨u1, d2⟩ := a0.cell (k * 9 + 1) (by omega);have f1 := a0.frozen (k * 9 + 1);obtain ⟨u2, d3⟩ := a0.cell (k * 9 + 2) (by omega);have f2 := a0.frozen (k * 9 + 2);obtain ⟨u3, d4⟩ := a0.cell (k * 9 + 3) (by omega);have f3 := a0.frozen (k * 9 + 3);obtain ⟨u4, d5⟩ := a0.cell (k * 9 + 4) (by omega);have f4 := a0.frozen (k * 9 + 4);obtain ⟨u5, d6⟩ := a0.cell (k * 9 + 5) (by omega);have f5 := a0.frozen (k * 9 + 5);obtain ⟨u6, d7⟩ := a0.cell (k * 9 + 6) (by omega);have f6 := a0.frozen (k * 9 + 6);obtain ⟨u7, d8⟩ := a0.cell (k * 9 + 7) (by omega);have f7 := a0.frozen (k * 9 + 7);obtain ⟨u8, d9⟩ := a0.cell (k * 9 + 8) (by omega);have f8 := a0.frozen (k * 9 + 8);clear a0 a5 hnew hx q1 q2 q3 q4 a4 bw b0;go_wp2
  go_roundw
  case rel => exact ⟨k + 1, _, by omega, by go_num, a7, b5⟩
  case measure => simp [intOf]; omega
theorem bX8 (V1 V2 : Value) (kv1 kv2 : Ks) (B1 B2 : Nat) (w : World) (he : kv1.map (·.1) = kv2.map (·.1)) (h1 : aB8 w B1 V1 kv1) (h2 : aB8 w B2 V2 kv2) (hn : kv1.length ≤ 2000000) (hs : ∀ x ∈ kv1, x.1.xs.length ≤ 2000000 ∧ x.1.ys.length ≤ 2000000 ∧ x.1.fs.length ≤ 2000000) :
  Calls prog 48 #[V1, V2] w fun e w' => e = .returned (.bool true) ∧ Below w.heap.size w w' := by
 have d1 : kv2.length = kv1.length := by have := congrArg List.length he; simpa using this.symm
 obtain ⟨n, d3⟩ := exq kv1.length;obtain ⟨o1, c1, e1⟩ := h1.len;obtain ⟨o2, c2, e2⟩ := h2.len;rw [← d3] at e1 hn;rw [d1, ← d3] at e2;subst e1 e2;have d4 : Hid (kv1.length = n) := d3.symm;have d5 : Hid (kv2.length = n) := d1.trans d3.symm;have HE := hid he;have HS := hid hs;have H1 : Hid (∀ W, Bw w W → aB8 W B1 (.slice o1 n c1) kv1) := fun W h => h1.below h
 have H2 : Hid (∀ W, Bw w W → aB8 W B2 (.slice o2 n c2) kv2) := fun W h => h2.below h
 clear h1 h2 d1 d3 he hs;go_enter func48, ntmps48;go_wp2
 go_loopw [5] (fun i wr => ∃ k : Nat, k ≤ n ∧ i = .int .i64 (k : Int) ∧ Hid (Bw w wr)) (fun i _ => n - (intOf i).toNat)
 case atStart => exact ⟨0, Nat.zero_le _, rfl, Below.refl _ _⟩
 case round =>
  obtain ⟨k, hk, rfl, d2⟩ := hrel;by_cases hlt : k < n
  rotate_left
  ·go_wp2
   go_ret;exact ⟨rfl, d2.out⟩
  have e0 : (k : Int) < (n : Int) := by omega
  obtain ⟨g1, e7, d8, c9, a9⟩ := (H1.out wr d2.out).at k (by rw [d4.out]; exact hlt);obtain ⟨g2, e8, d9, d0, b9⟩ := (H2.out wr d2.out).at k (by rw [d5.out]; exact hlt);obtain rfl : o1 = some ⟨g1, 0, none⟩ := (Value.slice.inj d8).1;obtain rfl : o2 = some ⟨g2, 0, none⟩ := (Value.slice.inj d9).1
  have d6 : (kv1[k]'(by rw [d4.out]; exact hlt)).1 = (kv2[k]'(by rw [d5.out]; exact hlt)).1 := by
   have h := congrArg (fun l : List KpD => l[k]?) HE.out
   simpa [List.getElem?_map, List.getElem?_eq_getElem (show k < kv1.length by rw [d4.out]; exact hlt), List.getElem?_eq_getElem (show k < kv2.length by rw [d5.out]; exact hlt)] using h
  have m1 : kv1[k]'(by rw [d4.out]; exact hlt) ∈ kv1 := List.getElem_mem _;have m2 : kv2[k]'(by rw [d5.out]; exact hlt) ∈ kv2 := List.getElem_mem _;generalize kv1[k]'(by rw [d4.out]; exact hlt) = x at a9 d6 m1;generalize kv2[k]'(by rw [d5.out]; exact hlt) = y at b9 d6 m2;obtain ⟨d, v1, v2, v3⟩ := x;obtain ⟨d', u1, u2, u3⟩ := y;obtain rfl : d = d' := d6;have e3 : Hid (∀ W, Below wr.heap.size wr W → ObjO W B1 v1 d.xs.length d.xs v2 d.ys.length d.ys v3 d.fs.length d.fs) := fun W h => aH3 (((H1.out wr d2.out).below h).obj m1)
  have e4 : Hid (∀ W, Below wr.heap.size wr W → ObjO W B2 u1 d.xs.length d.xs u2 d.ys.length d.ys u3 d.fs.length d.fs) := fun W h => aH3 (((H2.out wr d2.out).below h).obj m2)
  have d7 : Hid (d.xs.length ≤ 2000000 ∧ d.ys.length ≤ 2000000 ∧ d.fs.length ≤ 2000000) := HS.out _ m1;have a0 := a9.c0;have a1 := a9.c1;have a2 := a9.c2;have a3 := a9.c3;have a4 := a9.c4;have a5 := a9.c5;have a6 := a9.c6;have a7 := a9.c7;have a8 := a9.c8;have b0 := b9.c0;have b1 := b9.c1;have b2 := b9.c2;have b3 := b9.c3;have b4 := b9.c4;have b5 := b9.c5;have b6 := b9.c6;have b7 := b9.c7;have b8 := b9.c8;clear a9 b9 m1 m2 d8 d9
  have HA : Hid (∀ w0 w1, Below wr.heap.size wr w0 → Below w0.heap.size w0 w1 → (w1.cell? ⟨g1, k * 9, none⟩ = some (.string d.p) ∧ w1.cell? ⟨g1, k * 9 + 1, none⟩ = some (v1) ∧ w1.cell? ⟨g1, k * 9 + 2, none⟩ = some (v2) ∧ w1.cell? ⟨g1, k * 9 + 3, none⟩ = some (.int .i64 d.st) ∧ w1.cell? ⟨g1, k * 9 + 4, none⟩ = some (v3) ∧ w1.cell? ⟨g1, k * 9 + 5, none⟩ = some (.string d.b) ∧ w1.cell? ⟨g1, k * 9 + 6, none⟩ = some (.int .i64 d.t) ∧ w1.cell? ⟨g1, k * 9 + 7, none⟩ = some (.int .i64 d.a) ∧ w1.cell? ⟨g1, k * 9 + 8, none⟩ = some (.int .i64 d.q) ∧ w1.cell? ⟨g2, k * 9, none⟩ = some (.string d.p) ∧ w1.cell? ⟨g2, k * 9 + 1, none⟩ = some (u1) ∧ w1.cell? ⟨g2, k * 9 + 2, none⟩ = some (u2) ∧ w1.cell? ⟨g2, k * 9 + 3, none⟩ = some (.int .i64 d.st) ∧ w1.cell? ⟨g2, k * 9 + 4, none⟩ = some (u3) ∧ w1.cell? ⟨g2, k * 9 + 5, none⟩ = some (.string d.b) ∧ w1.cell? ⟨g2, k * 9 + 6, none⟩ = some (.int .i64 d.t) ∧ w1.cell? ⟨g2, k * 9 + 7, none⟩ = some (.int .i64 d.a) ∧ w1.cell? ⟨g2, k * 9 + 8, none⟩ = some (.int .i64 d.q)) ∧ Below wr.heap.size wr w1) := fun w0 w1 h h' => by
   have hx := h.trans (h'.mono h.size)
   exact ⟨⟨by rw [hx.cell (p := ⟨g1, k * 9, none⟩) c9]; exact a0, by rw [hx.cell (p := ⟨g1, k * 9 + 1, none⟩) c9]; exact a1, by rw [hx.cell (p := ⟨g1, k * 9 + 2, none⟩) c9]; exact a2, by rw [hx.cell (p := ⟨g1, k * 9 + 3, none⟩) c9]; exact a3, by rw [hx.cell (p := ⟨g1, k * 9 + 4, none⟩) c9]; exact a4, by rw [hx.cell (p := ⟨g1, k * 9 + 5, none⟩) c9]; exact a5, by rw [hx.cell (p := ⟨g1, k * 9 + 6, none⟩) c9]; exact a6, by rw [hx.cell (p := ⟨g1, k * 9 + 7, none⟩) c9]; exact a7, by rw [hx.cell (p := ⟨g1, k * 9 + 8, none⟩) c9]; exact a8, by rw [hx.cell (p := ⟨g2, k * 9, none⟩) d0]; exact b0, by rw [hx.cell (p := ⟨g2, k * 9 + 1, none⟩) d0]; exact b1, by rw [hx.cell (p := ⟨g2, k * 9 + 2, none⟩) d0]; exact b2, by rw [hx.cell (p := ⟨g2, k * 9 + 3, none⟩) d0]; exact b3, by rw [hx.cell (p := ⟨g2, k * 9 + 4, none⟩) d0]; exact b4, by rw [hx.cell (p := ⟨g2, k * 9 + 5, none⟩) d0]; exact b5, by rw [hx.cell (p := ⟨g2, k * 9 + 6, none⟩) d0]; exact b6, by rw [hx.cell (p := ⟨g2, k * 9 + 7, none⟩) d0]; exact b7, by rw [hx.cell (p := ⟨g2, k * 9 + 8, none⟩) d0]; exact b8⟩, hx⟩
  go_wp2
  go_region_held3 (fun w' => w'.cell? ⟨g1, k * 9, none⟩ = some (.string d.p) ∧ w'.cell? ⟨g1, k * 9 + 1, none⟩ = some (v1) ∧ w'.cell? ⟨g1, k * 9 + 2, none⟩ = some (v2) ∧ w'.cell? ⟨g1, k * 9 + 3, none⟩ = some (.int .i64 d.st) ∧ w'.cell? ⟨g1, k * 9 + 4, none⟩ = some (v3) ∧ w'.cell? ⟨g1, k * 9 + 5, none⟩ = some (.string d.b) ∧ w'.cell? ⟨g1, k * 9 + 6, none⟩ = some (.int .i64 d.t) ∧ w'.cell? ⟨g1, k * 9 + 7, none⟩ = some (.int .i64 d.a) ∧ w'.cell? ⟨g1, k * 9 + 8, none⟩ = some (.int .i64 d.q) ∧ w'.cell? ⟨g2, k * 9, none⟩ = some (.string d.p) ∧ w'.cell? ⟨g2, k * 9 + 1, none⟩ = some (u1) ∧ w'.cell? ⟨g2, k * 9 + 2, none⟩ = some (u2) ∧ w'.cell? ⟨g2, k * 9 + 3, none⟩ = some (.int .i64 d.st) ∧ w'.cell? ⟨g2, k * 9 + 4, none⟩ = some (u3) ∧ w'.cell? ⟨g2, k * 9 + 5, none⟩ = some (.string d.b) ∧ w'.cell? ⟨g2, k * 9 + 6, none⟩ = some (.int .i64 d.t) ∧ w'.cell? ⟨g2, k * 9 + 7, none⟩ = some (.int .i64 d.a) ∧ w'.cell? ⟨g2, k * 9 + 8, none⟩ = some (.int .i64 d.q)) (first | assumption | go_keep) (first | (go_at_call 114; refine (cE4 d.p d.xs.length d.xs d.ys.length d.ys d.st d.fs.length d.fs d.b d.t d.a d.q _ _ _ _ _ _ B1 B2 _ (e3.out _ ((Below.refl _ wr).drew)) (e4.out _ ((Below.refl _ wr).drew)) d7.out.1 d7.out.2.1 d7.out.2.2).mono ?_; rintro e w1 ⟨rfl, e5⟩; obtain ⟨e9, e6⟩ := HA.out _ w1 ((Below.refl _ wr).drew) e5))
  go_wp2
  go_roundw
  case rel => exact ⟨k + 1, by omega, by go_num, d2.out.trans (e6.mono d2.out.size)⟩
  case measure => simp [intOf]; omega
def FarR (rs : List Rw) (w W : World) : Prop := ∀ j, j < w.heap.size → (∀ r ∈ rs, r.v.ownBlock ≠ some j) → W.heap[j]? = w.heap[j]?
theorem aT5 {W : World} {base g n cap k : Nat} {pre post : Ks} {x : KpD × Value × Value × Value} (h : aB8 W base (.slice (some ⟨g, 0, none⟩) n cap) (pre ++ x :: post)) (hn : (pre ++ x :: post).length = n) (hk : pre.length = k) (j : Nat) (hj : j < 9) (u : Value) (hu : (kpC x)[j]? = some u) : W.cell? ⟨g, k * 9 + j, none⟩ = some u ∧ W.frozen? ⟨g, k * 9 + j, none⟩ = false := by
 have hr := h.row;rw [hn] at hr;refine aW2 hr (k * 9 + j) u ?_;rw [← hk, bD6 kpC 9 aV1 (pre ++ x :: post) pre.length j (by simp) hj];simpa using hu
theorem aR6 {W : World} {base g n cap k : Nat} {pre post : Ks} {x x' : KpD × Value × Value × Value} (h : aB8 W base (.slice (some ⟨g, 0, none⟩) n cap) (pre ++ x :: post)) (hn : (pre ++ x :: post).length = n) (hk : pre.length = k) (j : Nat) (hj : j < 9) (u : Value) (hc : kpC x' = (kpC x).set j u) (hr : kpR x' = kpR x) : aB8 (W.setCell ⟨g, k * 9 + j, none⟩ u) base (.slice (some ⟨g, 0, none⟩) n cap) (pre ++ x' :: post) := by
 have a0 := h.row;rw [hn] at a0;have h1 := cI4 a0 (k * 9 + j) u
 have e1 : ((pre ++ x :: post).flatMap kpC).set (k * 9 + j) u = (pre ++ x' :: post).flatMap kpC := by
  rw [List.flatMap_append, List.flatMap_cons, List.flatMap_append, List.flatMap_cons, List.set_append_right _ _ (by rw [aO5 kpC 9 aV1, hk]; omega), aO5 kpC 9 aV1, hk, Nat.add_sub_cancel_left, List.set_append_left _ _ (by rw [aV1]; exact hj), ← hc]
 rw [e1] at h1;have e2 : (pre ++ x' :: post).flatMap kpR = (pre ++ x :: post).flatMap kpR := by rw [List.flatMap_append, List.flatMap_cons, List.flatMap_append, List.flatMap_cons, hr]
 have hl : (pre ++ x' :: post).length = n := by rw [← hn]; simp
 have h2 : aA2 W base ([] ++ aH8 (.slice (some ⟨g, 0, none⟩) n cap) (pre ++ x :: post) :: (pre ++ x :: post).flatMap kpR) := h
 have hown : (aH8 (.slice (some ⟨g, 0, none⟩) n cap) (pre ++ x' :: post)).own (W.setCell ⟨g, k * 9 + j, none⟩ u) base := by
  unfold Rw.own aH8
  rw [hl]
  exact h1
 have h3 := h2.turn (r' := aH8 (.slice (some ⟨g, 0, none⟩) n cap) (pre ++ x' :: post)) rfl hown (fun j' _ a1 => heap_setCell_other _ _ j' _ (fun e => a1 (by rw [e]; rfl)))
 unfold aB8 aC5;rw [e2];exact h3
theorem bO2 {W W' : World} {base : Nat} {V : Value} {pre post : Ks} {x x' : KpD × Value × Value × Value} (h : aB8 W base V (pre ++ x :: post)) {r r' : Rw} {a b : List Rw} (ha : kpR x = a ++ r :: b) (hb : kpR x' = a ++ r' :: b) (hc : kpC x' = kpC x) (hv : r'.v = r.v) (ho : r'.own W' base) (hs : ∀ j, j < W.heap.size → r.v.ownBlock ≠ some j → W'.heap[j]? = W.heap[j]?) : aB8 W' base V (pre ++ x' :: post) := by
 have e1 : aC5 V (pre ++ x :: post) = (aH8 V (pre ++ x :: post) :: (pre.flatMap kpR ++ a)) ++ r :: (b ++ post.flatMap kpR) := by
  unfold aC5
  rw [List.flatMap_append, List.flatMap_cons, ha]
  simp
 have e2 : aC5 V (pre ++ x' :: post) = (aH8 V (pre ++ x :: post) :: (pre.flatMap kpR ++ a)) ++ r' :: (b ++ post.flatMap kpR) := by
  have e3 : aH8 V (pre ++ x' :: post) = aH8 V (pre ++ x :: post) := by
   unfold aH8
   rw [List.flatMap_append, List.flatMap_cons, List.flatMap_append, List.flatMap_cons, hc]
   simp
  unfold aC5
  rw [e3, List.flatMap_append, List.flatMap_cons, hb]
  simp
 have h1 : aA2 W base ((aH8 V (pre ++ x :: post) :: (pre.flatMap kpR ++ a)) ++ r :: (b ++ post.flatMap kpR)) := by rw [← e1]; exact h
 have h2 := h1.turn hv ho hs;unfold aB8;rw [e2];exact h2
def wm1 (d : KpD) : Nat := 6 + d.xs.length + d.ys.length + 2 * d.fs.length
def wms : Ks → Nat
 | [] => 0
 | x :: r => wm1 x.1 + wms r
theorem bO3 (x : KpD × Value × Value × Value) : ∀ l : Ks, wms (l ++ [x]) = wms l + wm1 x.1
 | [] => by simp [wms]
 | y :: l => by rw [List.cons_append, wms, bO3 x l, wms]; omega
theorem bB0 : ∀ (l m : Ks), wms (l ++ m) = wms l + wms m
 | [], m => by simp [wms]
 | y :: l, m => by rw [List.cons_append, wms, bB0 l m, wms]; omega
def mkD (k : Nat) (d : KpD) : KpD := ⟨aB1 k, mkT (k + 1) d.xs d.xs.length, mkT (k + 1 + d.xs.length) d.ys d.ys.length, ((k + 1 + d.xs.length + d.ys.length : Nat) : Int), mkG (k + 2 + d.xs.length + d.ys.length) d.fs d.fs.length, aB1 (k + 2 + d.xs.length + d.ys.length + 2 * d.fs.length), ((k + 3 + d.xs.length + d.ys.length + 2 * d.fs.length : Nat) : Int), ((k + 4 + d.xs.length + d.ys.length + 2 * d.fs.length : Nat) : Int), ((k + 5 + d.xs.length + d.ys.length + 2 * d.fs.length : Nat) : Int)⟩
def mkKs (k : Nat) : Ks → Ks
 | [] => []
 | x :: r => (mkD k x.1, x.2) :: mkKs (k + wm1 x.1) r
theorem aZ0 : ∀ (k : Nat) (l : Ks), (mkKs k l).length = l.length
 | _, [] => rfl
 | k, x :: r => by rw [mkKs, List.length_cons, aZ0 _ r, List.length_cons]
theorem bT1 (x : KpD × Value × Value × Value) : ∀ (k : Nat) (l : Ks), mkKs k (l ++ [x]) = mkKs k l ++ [(mkD (k + wms l) x.1, x.2)]
 | _, [] => by simp [mkKs, wms]
 | k, y :: l => by rw [List.cons_append, mkKs, bT1 x _ l, mkKs, wms]; simp [Nat.add_assoc]
theorem bO4 (V : Value) (kv : Ks) (base : Nat) (w : World) (h1 : aB8 w base V kv) (hb : base ≤ w.heap.size) (k0 : Nat) (hk0 : 1 ≤ k0) (hn : k0 + wms kv ≤ 99999998) (hm : kv.length ≤ 2000000) :
  Calls prog 52 #[V, .int .i64 (k0 : Int)] w fun e w' => e = .returned (.int .i64 ((k0 + wms kv : Nat) : Int)) ∧ aB8 w' base V (mkKs k0 kv) ∧ Below base w w' ∧ FarR (aC5 V kv) w w' := by
 obtain ⟨n, e9⟩ := exq kv.length;obtain ⟨oa, cap, e1⟩ := h1.len;rw [← e9] at e1 hm;subst e1;have e5 : Hid (kv.length = n) := e9.symm;have H1 := hid h1;obtain ⟨TW, f9⟩ := exq (wms kv);have j0 := hid f9;rw [← f9] at hn ⊢;clear h1 e9 f9;go_enter func52, ntmps52;go_wp2
 go_loopw [1, 5] (fun q i wr => ∃ (k K : Nat), k ≤ n ∧ i = .int .i64 (k : Int) ∧ q = .int .i64 (K : Int) ∧ 1 ≤ K ∧ Hid (K = k0 + wms (kv.take k)) ∧ Hid (Below base w wr) ∧ Hid (aB8 wr base (.slice oa n cap) (mkKs k0 (kv.take k) ++ kv.drop k)) ∧ Hid (FarR (aC5 (.slice oa n cap) kv) w wr)) (fun _ i _ => n - (intOf i).toNat)
 case atStart => exact ⟨0, k0, Nat.zero_le _, rfl, rfl, hk0, by simp [Hid, wms], Below.refl _ _, by simpa [Hid, mkKs] using H1.out, fun _ _ _ => rfl⟩
 case round =>
  obtain ⟨k, K, hk, rfl, rfl, g0, e6, e7, b3, j1⟩ := hrel;by_cases hlt : k < n
  rotate_left
  ·have HE : Hid (k0 + TW = K ∧ aB8 wr base (.slice oa n cap) (mkKs k0 kv)) := by
    have e1 := e6.out
    have e2 := b3.out
    rw [List.take_of_length_le (by rw [e5.out]; omega)] at e1 e2
    rw [List.drop_eq_nil_of_le (by rw [e5.out]; omega), List.append_nil] at e2
    exact ⟨by rw [j0.out, e1], e2⟩
   go_wp2
   go_ret;exact ⟨by rw [HE.out.1]; rfl, HE.out.2, e7.out, j1.out⟩
  have k3 : (k : Int) < (n : Int) := by omega
  have d4 : k < kv.length := by rw [e5.out]; exact hlt
  obtain ⟨x0, e8⟩ := exq (kv[k]'d4);have HX : Hid (x0 ∈ kv) := by show _ ∈ _; rw [e8]; exact List.getElem_mem d4
  have a6 : kv.drop k = x0 :: kv.drop (k + 1) := by rw [e8]; exact List.drop_eq_getElem_cons d4
  have a7 : kv.take (k + 1) = kv.take k ++ [x0] := by rw [e8]; exact List.take_succ_eq_append_getElem d4
  have k4 : wms kv = wms (kv.take k) + (wm1 x0.1 + wms (kv.drop (k + 1))) := by
   have e := bB0 (kv.take k) (kv.drop k)
   rw [List.take_append_drop, a6, wms] at e
   exact e
  have j2 : K + wm1 x0.1 ≤ 99999998 := by have := e6.out; have := j0.out; omega
  obtain ⟨a2, a9⟩ := exq (mkKs k0 (kv.take k));obtain ⟨a0, a5⟩ := exq (kv.drop (k + 1));have a3 : Hid (a2.length = k) := by show _ = _; rw [a9, aZ0, List.length_take, Nat.min_eq_left (Nat.le_of_lt d4)]
  have d6 : Hid (∀ y : KpD × Value × Value × Value, (a2 ++ y :: a0).length = n) := fun y => by rw [List.length_append, List.length_cons, a3.out, a5, List.length_drop, e5.out]; omega
  have g1 : Hid (k0 + wms (kv.take (k + 1)) = K + wm1 x0.1) := by show _ = _; have h := e6.out; rw [a7, bO3]; omega
  have g2 : Hid (mkKs k0 (kv.take (k + 1)) ++ kv.drop (k + 1) = a2 ++ (mkD K x0.1, x0.2) :: a0) := by show _ = _; rw [a7, bT1, ← e6.out, a9, a5]; simp
  have b0 : Hid (aB8 wr base (.slice oa n cap) (a2 ++ x0 :: a0)) := by
   have h := b3.out
   rw [a6, ← a9, ← a5] at h
   exact h
  obtain ⟨g, rfl⟩ := aJ0 (by have h := b0.out.row; rw [d6.out] at h; exact h) (by omega);have d5 : Hid (base ≤ g) := aB7 b0.out.row rfl;clear e8 a6 a7 k4 a9 a5 b3 d4;obtain ⟨x1, j3⟩ := exq x0;obtain ⟨d, v1, v2, v3⟩ := x1;have b6 : Hid (x0 = (d, v1, v2, v3)) := j3.symm;have a4 : ∀ {y : KpD × Value × Value × Value}, Hid ((a2 ++ y :: a0).length = n) := fun {y} => d6.out y
  have k5 : K + 6 + d.xs.length + d.ys.length + 2 * d.fs.length ≤ 99999998 := by have h : K + wm1 d ≤ 99999998 := (by have h := j2; rw [b6.out] at h; exact h); unfold wm1 at h; omega
  have k6 : Hid (aB8 wr base (.slice (some ⟨g, 0, none⟩) n cap) (a2 ++ ((⟨d.p, d.xs, d.ys, d.st, d.fs, d.b, d.t, d.a, d.q⟩ : KpD), v1, v2, v3) :: a0)) := by
   have h := b0.out
   rw [b6.out] at h
   exact h
  have g3 : Hid (kpN (d, v1, v2, v3) ∈ aC5 (.slice (some ⟨g, 0, none⟩) n cap) kv) := List.mem_cons_of_mem _ (List.mem_flatMap.2 ⟨(d, v1, v2, v3), (by have h := HX.out; rw [b6.out] at h; exact h), by simp [kpR]⟩);have g4 : Hid (kpV (d, v1, v2, v3) ∈ aC5 (.slice (some ⟨g, 0, none⟩) n cap) kv) := List.mem_cons_of_mem _ (List.mem_flatMap.2 ⟨(d, v1, v2, v3), (by have h := HX.out; rw [b6.out] at h; exact h), by simp [kpR]⟩);have g5 : Hid (kpF (d, v1, v2, v3) ∈ aC5 (.slice (some ⟨g, 0, none⟩) n cap) kv) := List.mem_cons_of_mem _ (List.mem_flatMap.2 ⟨(d, v1, v2, v3), (by have h := HX.out; rw [b6.out] at h; exact h), by simp [kpR]⟩);clear j3 j2 b0 HX;obtain ⟨K1, g0⟩ : ∃ m : Nat, m = K + 1 := ⟨_, rfl⟩;have k7 := hid g0;obtain ⟨K2, j4⟩ : ∃ m : Nat, m = K + 1 + d.xs.length := ⟨_, rfl⟩;have k8 := hid j4;obtain ⟨K3, j5⟩ : ∃ m : Nat, m = K + 1 + d.xs.length + d.ys.length := ⟨_, rfl⟩;have k9 := hid j5;obtain ⟨K4, j6⟩ : ∃ m : Nat, m = K + 2 + d.xs.length + d.ys.length := ⟨_, rfl⟩;have l0 := hid j6;obtain ⟨K5, j7⟩ : ∃ m : Nat, m = K + 2 + d.xs.length + d.ys.length + 2 * d.fs.length := ⟨_, rfl⟩;have l1 := hid j7;obtain ⟨K6, j8⟩ : ∃ m : Nat, m = K + 3 + d.xs.length + d.ys.length + 2 * d.fs.length := ⟨_, rfl⟩;have l2 := hid j8;obtain ⟨K7, j9⟩ : ∃ m : Nat, m = K + 4 + d.xs.length + d.ys.length + 2 * d.fs.length := ⟨_, rfl⟩;have l3 := hid j9;obtain ⟨K8, k1⟩ : ∃ m : Nat, m = K + 5 + d.xs.length + d.ys.length + 2 * d.fs.length := ⟨_, rfl⟩;have l4 := hid k1;obtain ⟨K9, k2⟩ : ∃ m : Nat, m = K + 6 + d.xs.length + d.ys.length + 2 * d.fs.length := ⟨_, rfl⟩;have l5 := hid k2;have E1 : Hid ((K : Int) + 1 = (K1 : Int)) := by show _ = _; omega
  have E2 : Hid ((K1 : Int) + (d.xs.length : Int) = (K2 : Int)) := by show _ = _; omega
  have E3 : Hid ((K2 : Int) + (d.ys.length : Int) = (K3 : Int)) := by show _ = _; omega
  have E4 : Hid ((K3 : Int) + 1 = (K4 : Int)) := by show _ = _; omega
  have E5 : Hid ((K4 : Int) + 2 * (d.fs.length : Int) = (K5 : Int)) := by show _ = _; omega
  have E6 : (K5 : Int) + 1 = (K6 : Int) := by omega
  have E7 : (K6 : Int) + 1 = (K7 : Int) := by omega
  have E8 : (K7 : Int) + 1 = (K8 : Int) := by omega
  have E9 : (K8 : Int) + 1 = (K9 : Int) := by omega
  have b1 : 1 ≤ K1 ∧ K1 + d.xs.length ≤ 99999998 := by omega
  have b2 : 1 ≤ K2 ∧ K2 + d.ys.length ≤ 99999998 := by omega
  have b4 : 1 ≤ K4 ∧ K4 + 2 * d.fs.length ≤ 99999999 := by omega
  have b5 : 1 ≤ K5 ∧ K5 ≤ 99999999 := by omega
  have b9 : 1 ≤ K9 := by omega
  have l7 : K3 ≤ 99999999 := by omega
  have l8 : K5 ≤ 99999999 := by omega
  have l9 : K6 ≤ 99999999 := by omega
  have m0 : K7 ≤ 99999999 := by omega
  have m1 : K8 ≤ 99999999 := by omega
  clear g0 j4 j5 j6 j7 j8 j9 k1 k2;go_wp2_with fail
  refine (aM3 K _ (by omega) (by omega)).mono ?_;rintro e u1 ⟨rfl, bw⟩;have d7 : Hid (aB8 u1 base (.slice (some ⟨g, 0, none⟩) n cap) (a2 ++ ((⟨d.p, d.xs, d.ys, d.st, d.fs, d.b, d.t, d.a, d.q⟩ : KpD), v1, v2, v3) :: a0)) := k6.out.below bw;have g6 : Hid (Below base w u1) := e7.out.trans (bw.mono (Nat.le_trans hb e7.out.size));have g7 : Hid (FarR (aC5 (.slice (some ⟨g, 0, none⟩) n cap) kv) w u1) := fun j hj a1 => (bw.block j (Nat.lt_of_lt_of_le hj e7.out.size)).trans (j1.out j hj a1)
  clear bw;obtain ⟨c0, f0⟩ := aT5 d7.out a4.out a3.out 0 (by decide) _ rfl;rw [Nat.add_zero] at c0 f0;have b7 : Hid (aB8 ((u1).setCell ⟨g, k * 9, none⟩ (.string (aB1 K))) base (.slice (some ⟨g, 0, none⟩) n cap) (a2 ++ ((⟨aB1 K, d.xs, d.ys, d.st, d.fs, d.b, d.t, d.a, d.q⟩ : KpD), v1, v2, v3) :: a0)) := aR6 d7.out a4.out a3.out 0 (by decide) _ rfl rfl;have b8 : Hid (Below base w ((u1).setCell ⟨g, k * 9, none⟩ (.string (aB1 K)))) := g6.out.setCell (p := ⟨g, k * 9, none⟩) d5.out _;have g8 : Hid (FarR (aC5 (.slice (some ⟨g, 0, none⟩) n cap) kv) w ((u1).setCell ⟨g, k * 9, none⟩ (.string (aB1 K)))) := fun j hj a1 => (heap_setCell_other _ _ j _ (fun e => a1 (aH8 (.slice (some ⟨g, 0, none⟩) n cap) kv) (by simp [aC5]) (by rw [e]; rfl))).trans (g7.out j hj a1)
  obtain ⟨c1, f1⟩ := aT5 b7.out a4.out a3.out 1 (by decide) _ rfl;go_wp2_with fail
  rw [E1.out];refine (aS8 v1 d.xs.length base d.xs _ (b7.out.names (x := ((⟨aB1 K, d.xs, d.ys, d.st, d.fs, d.b, d.t, d.a, d.q⟩ : KpD), v1, v2, v3)) (List.mem_append_right _ List.mem_cons_self)) (Nat.le_trans hb b8.out.size) K1 b1.1 b1.2).mono ?_;rintro e u2 ⟨rfl, mk, bm, a8⟩;have c9 : Hid (aB8 u2 base (.slice (some ⟨g, 0, none⟩) n cap) (a2 ++ ((⟨aB1 K, mkT K1 d.xs d.xs.length, d.ys, d.st, d.fs, d.b, d.t, d.a, d.q⟩ : KpD), v1, v2, v3) :: a0)) := bO2 (r := kpN ((⟨aB1 K, d.xs, d.ys, d.st, d.fs, d.b, d.t, d.a, d.q⟩ : KpD), v1, v2, v3)) (r' := kpN ((⟨aB1 K, mkT K1 d.xs d.xs.length, d.ys, d.st, d.fs, d.b, d.t, d.a, d.q⟩ : KpD), v1, v2, v3)) (a := []) (b := [kpV ((⟨aB1 K, mkT K1 d.xs d.xs.length, d.ys, d.st, d.fs, d.b, d.t, d.a, d.q⟩ : KpD), v1, v2, v3), kpF ((⟨aB1 K, mkT K1 d.xs d.xs.length, d.ys, d.st, d.fs, d.b, d.t, d.a, d.q⟩ : KpD), v1, v2, v3)]) b7.out rfl (by first | rfl | simp [kpR]) rfl rfl (by first | exact mk | (unfold Rw.own kpN; simp only [bF9]; exact mk)) a8;have d0 : Hid (Below base w u2) := b8.out.trans bm;have g9 : Hid (FarR (aC5 (.slice (some ⟨g, 0, none⟩) n cap) kv) w u2) := fun j hj a1 => (a8 j (Nat.lt_of_lt_of_le hj b8.out.size) (a1 (kpN (d, v1, v2, v3)) (g3.out))).trans (g8.out j hj a1)
  clear mk bm a8 c0 f0 c1 f1;rw [E2.out];obtain ⟨c2, f2⟩ := aT5 c9.out a4.out a3.out 2 (by decide) _ rfl;go_wp2_with fail
  refine (aS8 v2 d.ys.length base d.ys _ (c9.out.vals (x := ((⟨aB1 K, mkT K1 d.xs d.xs.length, d.ys, d.st, d.fs, d.b, d.t, d.a, d.q⟩ : KpD), v1, v2, v3)) (List.mem_append_right _ List.mem_cons_self)) (Nat.le_trans hb d0.out.size) K2 b2.1 b2.2).mono ?_;rintro e u3 ⟨rfl, mk, bm, a8⟩;have d8 : Hid (aB8 u3 base (.slice (some ⟨g, 0, none⟩) n cap) (a2 ++ ((⟨aB1 K, mkT K1 d.xs d.xs.length, mkT K2 d.ys d.ys.length, d.st, d.fs, d.b, d.t, d.a, d.q⟩ : KpD), v1, v2, v3) :: a0)) := bO2 (r := kpV ((⟨aB1 K, mkT K1 d.xs d.xs.length, d.ys, d.st, d.fs, d.b, d.t, d.a, d.q⟩ : KpD), v1, v2, v3)) (r' := kpV ((⟨aB1 K, mkT K1 d.xs d.xs.length, mkT K2 d.ys d.ys.length, d.st, d.fs, d.b, d.t, d.a, d.q⟩ : KpD), v1, v2, v3)) (a := [kpN ((⟨aB1 K, mkT K1 d.xs d.xs.length, mkT K2 d.ys d.ys.length, d.st, d.fs, d.b, d.t, d.a, d.q⟩ : KpD), v1, v2, v3)]) (b := [kpF ((⟨aB1 K, mkT K1 d.xs d.xs.length, mkT K2 d.ys d.ys.length, d.st, d.fs, d.b, d.t, d.a, d.q⟩ : KpD), v1, v2, v3)]) c9.out rfl (by first | rfl | simp [kpR]) rfl rfl (by first | exact mk | (unfold Rw.own kpV; simp only [bF9]; exact mk)) a8;have h0 : Hid (Below base w u3) := d0.out.trans bm;have h4 : Hid (FarR (aC5 (.slice (some ⟨g, 0, none⟩) n cap) kv) w u3) := fun j hj a1 => (a8 j (Nat.lt_of_lt_of_le hj d0.out.size) (a1 (kpV (d, v1, v2, v3)) (g4.out))).trans (g9.out j hj a1)
  clear mk bm a8 c2 f2;rw [E3.out];obtain ⟨c3, f3⟩ := aT5 d8.out a4.out a3.out 3 (by decide) _ rfl;have d1 : Hid (aB8 ((u3).setCell ⟨g, k * 9 + 3, none⟩ (.int .i64 (K3 : Int))) base (.slice (some ⟨g, 0, none⟩) n cap) (a2 ++ ((⟨aB1 K, mkT K1 d.xs d.xs.length, mkT K2 d.ys d.ys.length, (K3 : Int), d.fs, d.b, d.t, d.a, d.q⟩ : KpD), v1, v2, v3) :: a0)) := aR6 d8.out a4.out a3.out 3 (by decide) _ rfl rfl;have d2 : Hid (Below base w ((u3).setCell ⟨g, k * 9 + 3, none⟩ (.int .i64 (K3 : Int)))) := h0.out.setCell (p := ⟨g, k * 9 + 3, none⟩) d5.out _;have h5 : Hid (FarR (aC5 (.slice (some ⟨g, 0, none⟩) n cap) kv) w ((u3).setCell ⟨g, k * 9 + 3, none⟩ (.int .i64 (K3 : Int)))) := fun j hj a1 => (heap_setCell_other _ _ j _ (fun e => a1 (aH8 (.slice (some ⟨g, 0, none⟩) n cap) kv) (by simp [aC5]) (by rw [e]; rfl))).trans (h4.out j hj a1)
  obtain ⟨c4, f4⟩ := aT5 d1.out a4.out a3.out 4 (by decide) _ rfl;go_wp2_with fail
  rw [E4.out];refine (bR7 v3 d.fs.length base d.fs _ (d1.out.flds (x := ((⟨aB1 K, mkT K1 d.xs d.xs.length, mkT K2 d.ys d.ys.length, (K3 : Int), d.fs, d.b, d.t, d.a, d.q⟩ : KpD), v1, v2, v3)) (List.mem_append_right _ List.mem_cons_self)) (Nat.le_trans hb d2.out.size) K4 b4.1 b4.2).mono ?_;rintro e u4 ⟨rfl, mk, bm, a8⟩;have h6 : Hid (aB8 u4 base (.slice (some ⟨g, 0, none⟩) n cap) (a2 ++ ((⟨aB1 K, mkT K1 d.xs d.xs.length, mkT K2 d.ys d.ys.length, (K3 : Int), mkG K4 d.fs d.fs.length, d.b, d.t, d.a, d.q⟩ : KpD), v1, v2, v3) :: a0)) := bO2 (r := kpF ((⟨aB1 K, mkT K1 d.xs d.xs.length, mkT K2 d.ys d.ys.length, (K3 : Int), d.fs, d.b, d.t, d.a, d.q⟩ : KpD), v1, v2, v3)) (r' := kpF ((⟨aB1 K, mkT K1 d.xs d.xs.length, mkT K2 d.ys d.ys.length, (K3 : Int), mkG K4 d.fs d.fs.length, d.b, d.t, d.a, d.q⟩ : KpD), v1, v2, v3)) (a := [kpN ((⟨aB1 K, mkT K1 d.xs d.xs.length, mkT K2 d.ys d.ys.length, (K3 : Int), mkG K4 d.fs d.fs.length, d.b, d.t, d.a, d.q⟩ : KpD), v1, v2, v3), kpV ((⟨aB1 K, mkT K1 d.xs d.xs.length, mkT K2 d.ys d.ys.length, (K3 : Int), mkG K4 d.fs d.fs.length, d.b, d.t, d.a, d.q⟩ : KpD), v1, v2, v3)]) (b := []) d1.out rfl (by first | rfl | simp [kpR]) rfl rfl (by first | exact mk | (unfold Rw.own kpF; simp only [bN8]; exact mk)) a8;have d3 : Hid (Below base w u4) := d2.out.trans bm;have h7 : Hid (FarR (aC5 (.slice (some ⟨g, 0, none⟩) n cap) kv) w u4) := fun j hj a1 => (a8 j (Nat.lt_of_lt_of_le hj d2.out.size) (a1 (kpF (d, v1, v2, v3)) (g5.out))).trans (h5.out j hj a1)
  clear mk bm a8 c3 f3 c4 f4;rw [E5.out];go_wp2_with fail
  refine (aM3 K5 _ b5.1 b5.2).mono ?_;rintro e u5 ⟨rfl, bw⟩;have d9 : Hid (aB8 u5 base (.slice (some ⟨g, 0, none⟩) n cap) (a2 ++ ((⟨aB1 K, mkT K1 d.xs d.xs.length, mkT K2 d.ys d.ys.length, (K3 : Int), mkG K4 d.fs d.fs.length, d.b, d.t, d.a, d.q⟩ : KpD), v1, v2, v3) :: a0)) := h6.out.below bw;have h8 : Hid (Below base w u5) := d3.out.trans (bw.mono (Nat.le_trans hb d3.out.size));have h9 : Hid (FarR (aC5 (.slice (some ⟨g, 0, none⟩) n cap) kv) w u5) := fun j hj a1 => (bw.block j (Nat.lt_of_lt_of_le hj d3.out.size)).trans (h7.out j hj a1)
  clear bw;obtain ⟨c5, f5⟩ := aT5 d9.out a4.out a3.out 5 (by decide) _ rfl;have e0 : Hid (aB8 ((u5).setCell ⟨g, k * 9 + 5, none⟩ (.string (aB1 K5))) base (.slice (some ⟨g, 0, none⟩) n cap) (a2 ++ ((⟨aB1 K, mkT K1 d.xs d.xs.length, mkT K2 d.ys d.ys.length, (K3 : Int), mkG K4 d.fs d.fs.length, aB1 K5, d.t, d.a, d.q⟩ : KpD), v1, v2, v3) :: a0)) := aR6 d9.out a4.out a3.out 5 (by decide) _ rfl rfl;have i0 : Hid (Below base w ((u5).setCell ⟨g, k * 9 + 5, none⟩ (.string (aB1 K5)))) := h8.out.setCell (p := ⟨g, k * 9 + 5, none⟩) d5.out _;have i1 : Hid (FarR (aC5 (.slice (some ⟨g, 0, none⟩) n cap) kv) w ((u5).setCell ⟨g, k * 9 + 5, none⟩ (.string (aB1 K5)))) := fun j hj a1 => (heap_setCell_other _ _ j _ (fun e => a1 (aH8 (.slice (some ⟨g, 0, none⟩) n cap) kv) (by simp [aC5]) (by rw [e]; rfl))).trans (h9.out j hj a1)
  obtain ⟨c6, f6⟩ := aT5 e0.out a4.out a3.out 6 (by decide) _ rfl;have e3 : Hid (aB8 ((((u5).setCell ⟨g, k * 9 + 5, none⟩ (.string (aB1 K5)))).setCell ⟨g, k * 9 + 6, none⟩ (.int .i64 (K6 : Int))) base (.slice (some ⟨g, 0, none⟩) n cap) (a2 ++ ((⟨aB1 K, mkT K1 d.xs d.xs.length, mkT K2 d.ys d.ys.length, (K3 : Int), mkG K4 d.fs d.fs.length, aB1 K5, (K6 : Int), d.a, d.q⟩ : KpD), v1, v2, v3) :: a0)) := aR6 e0.out a4.out a3.out 6 (by decide) _ rfl rfl;have i2 : Hid (Below base w ((((u5).setCell ⟨g, k * 9 + 5, none⟩ (.string (aB1 K5)))).setCell ⟨g, k * 9 + 6, none⟩ (.int .i64 (K6 : Int)))) := i0.out.setCell (p := ⟨g, k * 9 + 6, none⟩) d5.out _;have i3 : Hid (FarR (aC5 (.slice (some ⟨g, 0, none⟩) n cap) kv) w ((((u5).setCell ⟨g, k * 9 + 5, none⟩ (.string (aB1 K5)))).setCell ⟨g, k * 9 + 6, none⟩ (.int .i64 (K6 : Int)))) := fun j hj a1 => (heap_setCell_other _ _ j _ (fun e => a1 (aH8 (.slice (some ⟨g, 0, none⟩) n cap) kv) (by simp [aC5]) (by rw [e]; rfl))).trans (i1.out j hj a1)
  obtain ⟨c7, f7⟩ := aT5 e3.out a4.out a3.out 7 (by decide) _ rfl;have e4 : Hid (aB8 ((((((u5).setCell ⟨g, k * 9 + 5, none⟩ (.string (aB1 K5)))).setCell ⟨g, k * 9 + 6, none⟩ (.int .i64 (K6 : Int)))).setCell ⟨g, k * 9 + 7, none⟩ (.int .i64 (K7 : Int))) base (.slice (some ⟨g, 0, none⟩) n cap) (a2 ++ ((⟨aB1 K, mkT K1 d.xs d.xs.length, mkT K2 d.ys d.ys.length, (K3 : Int), mkG K4 d.fs d.fs.length, aB1 K5, (K6 : Int), (K7 : Int), d.q⟩ : KpD), v1, v2, v3) :: a0)) := aR6 e3.out a4.out a3.out 7 (by decide) _ rfl rfl;have i4 : Hid (Below base w ((((((u5).setCell ⟨g, k * 9 + 5, none⟩ (.string (aB1 K5)))).setCell ⟨g, k * 9 + 6, none⟩ (.int .i64 (K6 : Int)))).setCell ⟨g, k * 9 + 7, none⟩ (.int .i64 (K7 : Int)))) := i2.out.setCell (p := ⟨g, k * 9 + 7, none⟩) d5.out _;have i5 : Hid (FarR (aC5 (.slice (some ⟨g, 0, none⟩) n cap) kv) w ((((((u5).setCell ⟨g, k * 9 + 5, none⟩ (.string (aB1 K5)))).setCell ⟨g, k * 9 + 6, none⟩ (.int .i64 (K6 : Int)))).setCell ⟨g, k * 9 + 7, none⟩ (.int .i64 (K7 : Int)))) := fun j hj a1 => (heap_setCell_other _ _ j _ (fun e => a1 (aH8 (.slice (some ⟨g, 0, none⟩) n cap) kv) (by simp [aC5]) (by rw [e]; rfl))).trans (i3.out j hj a1)
  obtain ⟨c8, f8⟩ := aT5 e4.out a4.out a3.out 8 (by decide) _ rfl;have i6 : Hid (aB8 ((((((((u5).setCell ⟨g, k * 9 + 5, none⟩ (.string (aB1 K5)))).setCell ⟨g, k * 9 + 6, none⟩ (.int .i64 (K6 : Int)))).setCell ⟨g, k * 9 + 7, none⟩ (.int .i64 (K7 : Int)))).setCell ⟨g, k * 9 + 8, none⟩ (.int .i64 (K8 : Int))) base (.slice (some ⟨g, 0, none⟩) n cap) (a2 ++ ((⟨aB1 K, mkT K1 d.xs d.xs.length, mkT K2 d.ys d.ys.length, (K3 : Int), mkG K4 d.fs d.fs.length, aB1 K5, (K6 : Int), (K7 : Int), (K8 : Int)⟩ : KpD), v1, v2, v3) :: a0)) := aR6 e4.out a4.out a3.out 8 (by decide) _ rfl rfl;have i7 : Hid (Below base w ((((((((u5).setCell ⟨g, k * 9 + 5, none⟩ (.string (aB1 K5)))).setCell ⟨g, k * 9 + 6, none⟩ (.int .i64 (K6 : Int)))).setCell ⟨g, k * 9 + 7, none⟩ (.int .i64 (K7 : Int)))).setCell ⟨g, k * 9 + 8, none⟩ (.int .i64 (K8 : Int)))) := i4.out.setCell (p := ⟨g, k * 9 + 8, none⟩) d5.out _;have i8 : Hid (FarR (aC5 (.slice (some ⟨g, 0, none⟩) n cap) kv) w ((((((((u5).setCell ⟨g, k * 9 + 5, none⟩ (.string (aB1 K5)))).setCell ⟨g, k * 9 + 6, none⟩ (.int .i64 (K6 : Int)))).setCell ⟨g, k * 9 + 7, none⟩ (.int .i64 (K7 : Int)))).setCell ⟨g, k * 9 + 8, none⟩ (.int .i64 (K8 : Int)))) := fun j hj a1 => (heap_setCell_other _ _ j _ (fun e => a1 (aH8 (.slice (some ⟨g, 0, none⟩) n cap) kv) (by simp [aC5]) (by rw [e]; rfl))).trans (i5.out j hj a1)
  have i9 : Hid ((mkD K x0.1, x0.2) = ((⟨aB1 K, mkT K1 d.xs d.xs.length, mkT K2 d.ys d.ys.length, (K3 : Int), mkG K4 d.fs d.fs.length, aB1 K5, (K6 : Int), (K7 : Int), (K8 : Int)⟩ : KpD), v1, v2, v3)) := by
   show _ = _
   rw [b6.out]
   unfold mkD
   rw [k7.out, k8.out, k9.out, l0.out, l1.out, l2.out, l3.out, l4.out]
  have l6 : Hid (K9 = k0 + wms (kv.take (k + 1))) := by
   have h1 : k0 + wms (kv.take (k + 1)) = K + wm1 d := by have h := g1.out; rw [b6.out] at h; exact h
   have h2 : wm1 d = 6 + d.xs.length + d.ys.length + 2 * d.fs.length := rfl
   have h3 := l5.out
   show _ = _
   omega
  go_wp2
  go_roundw
  case rel => exact ⟨k + 1, K9, by omega, by go_num, rfl, b9, l6, i7, by show aB8 _ _ _ _; rw [g2.out, i9.out]; exact i6.out, i8⟩
  case measure => simp [intOf]; omega
theorem cB3 : ∀ (l : Ks) (k0 k : Nat) (h : k < l.length), (mkKs k0 l)[k]? = some (mkD (k0 + wms (l.take k)) (l[k]'h).1, (l[k]'h).2)
 | [], _, k, h => absurd h (by simp)
 | x :: l, k0, 0, _ => by simp [mkKs, wms]
 | x :: l, k0, k + 1, h => by
  rw [mkKs, List.getElem?_cons_succ, cB3 l _ k (by simpa using h)]
  simp only [List.take_succ_cons, wms, List.getElem_cons_succ]
  rw [Nat.add_assoc]
theorem bO5 (V : Value) (kv : Ks) (base : Nat) (w : World) (k0 : Nat) (h1 : aB8 w base V (mkKs k0 kv)) (hk0 : 1 ≤ k0) (hn : k0 + wms kv ≤ 99999998) (hm : kv.length ≤ 2000000) :
  Calls prog 57 #[V, .int .i64 (k0 : Int)] w fun e w' => e = .returned (.int .i64 ((k0 + wms kv : Nat) : Int)) ∧ Below w.heap.size w w' := by
 obtain ⟨n, c9⟩ := exq kv.length;obtain ⟨oa, g4, e1⟩ := h1.len;rw [aZ0, ← c9] at e1;rw [← c9] at hm;subst e1;have f1 : Hid (kv.length = n) := c9.symm;have H1 : Hid (∀ W, Bw w W → aB8 W base (.slice oa n g4) (mkKs k0 kv)) := fun W h => h1.below h
 obtain ⟨TW, d1⟩ := exq (wms kv);have f2 := hid d1;rw [← d1] at hn ⊢;clear h1 c9 d1;go_enter func57, ntmps57;go_wp2
 go_loopw [1, 5] (fun q i wr => ∃ (k K : Nat), k ≤ n ∧ i = .int .i64 (k : Int) ∧ q = .int .i64 (K : Int) ∧ 1 ≤ K ∧ Hid (K = k0 + wms (kv.take k)) ∧ Hid (Bw w wr)) (fun _ i _ => n - (intOf i).toNat)
 case atStart => exact ⟨0, k0, Nat.zero_le _, rfl, rfl, hk0, by simp [Hid, wms], Below.refl _ _⟩
 case round =>
  obtain ⟨k, K, hk, rfl, rfl, d2, b0, b3⟩ := hrel;by_cases hlt : k < n
  rotate_left
  ·have HE : Hid (k0 + TW = K) := by
    have e1 := b0.out
    rw [List.take_of_length_le (by rw [f1.out]; omega)] at e1
    show _ = _
    rw [f2.out, e1]
   go_wp2
   go_ret;exact ⟨by rw [HE.out]; rfl, b3.out⟩
  have g5 : (k : Int) < (n : Int) := by omega
  have a9 : k < kv.length := by rw [f1.out]; exact hlt
  obtain ⟨x0, d0⟩ := exq (kv[k]'a9);have d3 : Hid ((mkKs k0 kv)[k]? = some (mkD K x0.1, x0.2)) := by show _ = _; rw [cB3 kv k0 k a9, ← b0.out, ← d0]
  have a6 : kv.drop k = x0 :: kv.drop (k + 1) := by rw [d0]; exact List.drop_eq_getElem_cons a9
  have a7 : kv.take (k + 1) = kv.take k ++ [x0] := by rw [d0]; exact List.take_succ_eq_append_getElem a9
  have g6 : wms kv = wms (kv.take k) + (wm1 x0.1 + wms (kv.drop (k + 1))) := by
   have e := bB0 (kv.take k) (kv.drop k)
   rw [List.take_append_drop, a6, wms] at e
   exact e
  have f3 : K + wm1 x0.1 ≤ 99999998 := by have := b0.out; have := f2.out; omega
  have d4 : Hid (k0 + wms (kv.take (k + 1)) = K + wm1 x0.1) := by show _ = _; have h := b0.out; rw [a7, bO3]; omega
  obtain ⟨g, i2, f4, _, _⟩ := (H1.out wr b3.out).at k (by rw [aZ0]; exact a9);obtain rfl : oa = some ⟨g, 0, none⟩ := (Value.slice.inj f4).1;clear d0 a6 a7 g6 f4;obtain ⟨d, v1, v2, v3⟩ := x0;have g7 : K + 6 + d.xs.length + d.ys.length + 2 * d.fs.length ≤ 99999998 := by have h : K + wm1 d ≤ 99999998 := f3; unfold wm1 at h; omega
  clear f3;obtain ⟨K1, d2⟩ : ∃ m : Nat, m = K + 1 := ⟨_, rfl⟩;have f5 := hid d2;obtain ⟨K2, f6⟩ : ∃ m : Nat, m = K + 1 + d.xs.length := ⟨_, rfl⟩;have g8 := hid f6;obtain ⟨K3, f7⟩ : ∃ m : Nat, m = K + 1 + d.xs.length + d.ys.length := ⟨_, rfl⟩;have g9 := hid f7;obtain ⟨K4, f8⟩ : ∃ m : Nat, m = K + 2 + d.xs.length + d.ys.length := ⟨_, rfl⟩;have h0 := hid f8;obtain ⟨K5, f9⟩ : ∃ m : Nat, m = K + 2 + d.xs.length + d.ys.length + 2 * d.fs.length := ⟨_, rfl⟩;have h4 := hid f9;obtain ⟨K6, g0⟩ : ∃ m : Nat, m = K + 3 + d.xs.length + d.ys.length + 2 * d.fs.length := ⟨_, rfl⟩;have h5 := hid g0;obtain ⟨K7, g1⟩ : ∃ m : Nat, m = K + 4 + d.xs.length + d.ys.length + 2 * d.fs.length := ⟨_, rfl⟩;have h6 := hid g1;obtain ⟨K8, g2⟩ : ∃ m : Nat, m = K + 5 + d.xs.length + d.ys.length + 2 * d.fs.length := ⟨_, rfl⟩;have h7 := hid g2;obtain ⟨K9, g3⟩ : ∃ m : Nat, m = K + 6 + d.xs.length + d.ys.length + 2 * d.fs.length := ⟨_, rfl⟩;have i3 := hid g3;have E1 : Hid ((K : Int) + 1 = (K1 : Int)) := by show _ = _; omega
  have E2 : Hid ((K1 : Int) + (d.xs.length : Int) = (K2 : Int)) := by show _ = _; omega
  have E3 : Hid ((K2 : Int) + (d.ys.length : Int) = (K3 : Int)) := by show _ = _; omega
  have E4 : Hid ((K3 : Int) + 1 = (K4 : Int)) := by show _ = _; omega
  have E5 : Hid ((K4 : Int) + 2 * (d.fs.length : Int) = (K5 : Int)) := by show _ = _; omega
  have E6 : (K5 : Int) + 1 = (K6 : Int) := by omega
  have E7 : (K6 : Int) + 1 = (K7 : Int) := by omega
  have E8 : (K7 : Int) + 1 = (K8 : Int) := by omega
  have E9 : (K8 : Int) + 1 = (K9 : Int) := by omega
  have b1 : 1 ≤ K1 ∧ K1 + d.xs.length ≤ 99999998 := by omega
  have b2 : 1 ≤ K2 ∧ K2 + d.ys.length ≤ 99999998 := by omega
  have b4 : 1 ≤ K4 ∧ K4 + 2 * d.fs.length ≤ 99999999 := by omega
  have b5 : 1 ≤ K5 ∧ K5 ≤ 99999999 := by omega
  have b9 : 1 ≤ K9 := by omega
  have i4 : K3 ≤ 99999999 := by omega
  have i5 : K5 ≤ 99999999 := by omega
  have i6 : K6 ≤ 99999999 := by omega
  have i7 : K7 ≤ 99999999 := by omega
  have i8 : K8 ≤ 99999999 := by omega
  have i9 : ¬ ((K2 : Int) < 0) := by omega
  have j0 : ¬ ((K3 : Int) < 0) := by omega
  have j1 : ¬ ((K5 : Int) < 0) := by omega
  have h8 : Hid (K9 = k0 + wms (kv.take (k + 1))) := by
   have h1 : k0 + wms (kv.take (k + 1)) = K + wm1 d := d4.out
   have h2 : wm1 d = 6 + d.xs.length + d.ys.length + 2 * d.fs.length := rfl
   show _ = _
   omega
  clear d2 f6 f7 f8 f9 g0 g1 g2 g3;have h9 : 1 ≤ K := by have h1 := f5.out; have h2 := b1.1; have h3 := b0.out; omega
  have HA : Hid (∀ w0 w1, Bw w w0 → Below w0.heap.size w0 w1 → (w1.cell? ⟨g, k * 9, none⟩ = some (.string (aB1 K)) ∧ w1.cell? ⟨g, k * 9 + 1, none⟩ = some (v1) ∧ w1.cell? ⟨g, k * 9 + 2, none⟩ = some (v2) ∧ w1.cell? ⟨g, k * 9 + 3, none⟩ = some (.int .i64 (K3 : Int)) ∧ w1.cell? ⟨g, k * 9 + 4, none⟩ = some (v3) ∧ w1.cell? ⟨g, k * 9 + 5, none⟩ = some (.string (aB1 K5)) ∧ w1.cell? ⟨g, k * 9 + 6, none⟩ = some (.int .i64 (K6 : Int)) ∧ w1.cell? ⟨g, k * 9 + 7, none⟩ = some (.int .i64 (K7 : Int)) ∧ w1.cell? ⟨g, k * 9 + 8, none⟩ = some (.int .i64 (K8 : Int))) ∧ (w1.ownsRow base 9 1 v1 d.xs.length ((mkT K1 d.xs d.xs.length).map Value.string) ∧ w1.ownsRow base 9 1 v2 d.ys.length ((mkT K2 d.ys d.ys.length).map Value.string) ∧ w1.ownsRow base 184 2 v3 d.fs.length (aF3 (mkG K4 d.fs d.fs.length))) ∧ Bw w w1) := fun w0 w1 h h' => by
   have hx := h.trans (h'.mono h.size)
   have a5 : k < (mkKs k0 kv).length := by rw [aZ0]; exact a9
   obtain ⟨g', cp, ev, _, a4⟩ := (H1.out w1 hx).at k a5
   obtain rfl : g = g' := by have e := (Value.slice.inj ev).1; cases e; rfl
   have ex : (mkKs k0 kv)[k]'a5 = (mkD K d, v1, v2, v3) := Option.some.inj ((List.getElem?_eq_getElem a5).symm.trans d3.out)
   have a8 : (mkD K d, v1, v2, v3) ∈ mkKs k0 kv := by rw [← ex]; exact List.getElem_mem a5
   have o1 := (H1.out w1 hx).names a8
   have o2 := (H1.out w1 hx).vals a8
   have o3 := (H1.out w1 hx).flds a8
   rw [ex] at a4
   unfold mkD at o1 o2 o3
   simp only [bF9, bN8] at o1 o2 o3
   refine ⟨⟨a4.c0, a4.c1, a4.c2, by rw [g9.out]; exact a4.c3, a4.c4, by rw [h4.out]; exact a4.c5, by rw [h5.out]; exact a4.c6, by rw [h6.out]; exact a4.c7, by rw [h7.out]; exact a4.c8⟩, ⟨by rw [f5.out]; exact o1, by rw [g8.out]; exact o2, by rw [h0.out]; exact o3⟩, hx⟩
  obtain ⟨⟨e0, e1, e2, e3, e4, e5, e6, e7, e8⟩, _, _⟩ := HA.out wr wr b3.out (Below.refl _ _);clear e0 e1 e2 e3 e4 e5 e6 e7 e8;obtain ⟨e0, _⟩ : wr.cell? ⟨g, k * 9, none⟩ = some (.string (aB1 K)) ∧ True := ⟨(HA.out _ wr b3.out (Below.refl _ _)).1.1, trivial⟩;go_wp2
  go_region_held3 (fun w' => w'.cell? ⟨g, k * 9, none⟩ = some (.string (aB1 K))) (first | assumption | go_keep) (first | (go_at_call 117; refine (aM3 K _ (by omega) (by omega)).mono ?_; rintro e u1 ⟨rfl, b6⟩; obtain ⟨⟨e0, e1, e2, e3, e4, e5, e6, e7, e8⟩, ⟨a0, a1, a2⟩, a3⟩ := HA.out _ u1 (b3.out).drew b6))
  have d5 : Hid (u1.ownsRow base 9 1 v1 d.xs.length ((mkT K1 d.xs d.xs.length).map Value.string) ∧ u1.ownsRow base 9 1 v2 d.ys.length ((mkT K2 d.ys d.ys.length).map Value.string) ∧ u1.ownsRow base 184 2 v3 d.fs.length (aF3 (mkG K4 d.fs d.fs.length))) := ⟨a0, a1, a2⟩;have d6 := hid a3;clear a3 b6 a0 a1 a2;go_wp2_with fail
  rw [E1.out];refine (aS9 v1 d.xs.length base (mkT K1 d.xs d.xs.length) _ d5.out.1 K1 b1.1 b1.2 (fun j hj => cI9 K1 d.xs j hj d.xs.length hj)).mono ?_
  rintro e u2 ⟨rfl, bw⟩;clear e0 e1 e2 e3 e4 e5 e6 e7 e8;obtain ⟨⟨e0, e1, e2, e3, e4, e5, e6, e7, e8⟩, ⟨a0, a1, a2⟩, a3⟩ := HA.out _ u2 d6.out bw;have d7 : Hid (u2.ownsRow base 9 1 v1 d.xs.length ((mkT K1 d.xs d.xs.length).map Value.string) ∧ u2.ownsRow base 9 1 v2 d.ys.length ((mkT K2 d.ys d.ys.length).map Value.string) ∧ u2.ownsRow base 184 2 v3 d.fs.length (aF3 (mkG K4 d.fs d.fs.length))) := ⟨a0, a1, a2⟩;have d8 := hid a3;clear a3 bw a0 a1 a2;rw [E2.out];go_wp2_with fail
  refine (aS9 v2 d.ys.length base (mkT K2 d.ys d.ys.length) _ d7.out.2.1 K2 b2.1 b2.2 (fun j hj => cI9 K2 d.ys j hj d.ys.length hj)).mono ?_
  rintro e u3 ⟨rfl, bw⟩;clear e0 e1 e2 e3 e4 e5 e6 e7 e8;obtain ⟨⟨e0, e1, e2, e3, e4, e5, e6, e7, e8⟩, ⟨a0, a1, a2⟩, a3⟩ := HA.out _ u3 d8.out bw;have d9 : Hid (u3.ownsRow base 9 1 v1 d.xs.length ((mkT K1 d.xs d.xs.length).map Value.string) ∧ u3.ownsRow base 9 1 v2 d.ys.length ((mkT K2 d.ys d.ys.length).map Value.string) ∧ u3.ownsRow base 184 2 v3 d.fs.length (aF3 (mkG K4 d.fs d.fs.length))) := ⟨a0, a1, a2⟩;have e9 := hid a3;clear a3 bw a0 a1 a2;rw [E3.out];go_wp2_with fail
  rw [E4.out];refine (bR8 v3 d.fs.length base (mkG K4 d.fs d.fs.length) _ d9.out.2.2 K4 b4.1 b4.2 (fun j hj => cS5 K4 d.fs j d.fs.length (Nat.le_refl _) hj)).mono ?_
  rintro e u4 ⟨rfl, bw⟩;clear e0 e1 e2 e3 e4 e5 e6 e7 e8;obtain ⟨⟨e0, e1, e2, e3, e4, e5, e6, e7, e8⟩, ⟨a0, a1, a2⟩, a3⟩ := HA.out _ u4 e9.out bw;have i0 : Hid (u4.ownsRow base 9 1 v1 d.xs.length ((mkT K1 d.xs d.xs.length).map Value.string) ∧ u4.ownsRow base 9 1 v2 d.ys.length ((mkT K2 d.ys d.ys.length).map Value.string) ∧ u4.ownsRow base 184 2 v3 d.fs.length (aF3 (mkG K4 d.fs d.fs.length))) := ⟨a0, a1, a2⟩;have b7 := hid a3;clear a3 bw a0 a1 a2;rw [E5.out];clear e0 e1 e2 e3 e4 e5 e6 e7 e8;obtain ⟨e5, _⟩ : u4.cell? ⟨g, k * 9 + 5, none⟩ = some (.string (aB1 K5)) ∧ True := ⟨(HA.out _ u4 b7.out (Below.refl _ _)).1.2.2.2.2.2.1, trivial⟩;go_wp2
  go_region_held3 (fun w' => w'.cell? ⟨g, k * 9 + 5, none⟩ = some (.string (aB1 K5))) (first | assumption | go_keep) (first | (go_at_call 117; refine (aM3 K5 _ b5.1 b5.2).mono ?_; rintro e u5 ⟨rfl, b8⟩; obtain ⟨⟨e0, e1, e2, e3, e4, e5, e6, e7, e8⟩, ⟨a0, a1, a2⟩, a3⟩ := HA.out _ u5 (b7.out).drew b8))
  have i1 : Hid (u5.ownsRow base 9 1 v1 d.xs.length ((mkT K1 d.xs d.xs.length).map Value.string) ∧ u5.ownsRow base 9 1 v2 d.ys.length ((mkT K2 d.ys d.ys.length).map Value.string) ∧ u5.ownsRow base 184 2 v3 d.fs.length (aF3 (mkG K4 d.fs d.fs.length))) := ⟨a0, a1, a2⟩;have f0 := hid a3;clear a3 b8 a0 a1 a2;go_wp2
  go_roundw
  case rel => exact ⟨k + 1, K9, by omega, by go_num, rfl, b9, h8, f0⟩
  case measure => simp [intOf]; omega
theorem aA2.other {W : World} {base q o : Nat} {rs : List Rw} {cs : Array Value} {T : TypeId} {fr : Nat × Nat} {u : Value} (h : aA2 W base rs) (hq : W.heap[q]? = some (.cells cs T fr)) (hT : ∀ r ∈ rs, T ≠ r.T) : aA2 (W.setCell ⟨q, o, none⟩ u) base rs :=
 h.same (fun r hr g hg => heap_setCell_other _ _ g _ (fun e => aH5 (h.own r hr) (hT r hr) hq (by have e' : g = q := e; rw [← e']; exact hg)))
theorem erS {W W' : World} {base q i : Nat} {v : Value} {rs : List Rw} {cs : Array Value} {T : TypeId} {fr : Nat × Nat} (hW : W' = W.setCell ⟨q, i, none⟩ v) (h : Hid (aA2 W base rs)) (hb : Hid (W.heap[q]? = some (.cells cs T fr))) (hT : ∀ r ∈ rs, T ≠ r.T) : Hid (aA2 W' base rs) := by show aA2 _ _ _; rw [hW]; exact aA2.other h.out hb.out hT
theorem bB1 {V : Value} {kv : Ks} {r : Rw} (h : r ∈ aC5 V kv) : r.T = 82 ∨ r.T = 9 ∨ r.T = 184 := by
 rcases List.mem_cons.1 h with h | h
 ·exact .inl (by rw [h]; rfl)
 obtain ⟨x, _, hx⟩ := List.mem_flatMap.1 h;simp only [kpR, List.mem_cons, List.not_mem_nil, or_false] at hx
 rcases hx with rfl | rfl | rfl
 ·exact .inr (.inl rfl)
 ·exact .inr (.inl rfl)
 exact .inr (.inr rfl)
theorem aV5 {W : World} {base : Nat} {v1 v2 : Value} {n1 n2 : Nat} {cs : Ts} {ws : List (Int × ByteArray)} (h : aD3 W base v1 n1 cs v2 n2 ws) : aA2 W base [(⟨9, 1, v1, n1, cs.map Value.string⟩ : Rw), (⟨155, 2, v2, n2, aA1 ws⟩ : Rw)] := by
 refine ⟨fun r hr => ?_, List.pairwise_cons.2 ⟨fun r hr => ?_, List.pairwise_singleton _ _⟩⟩
 ·simp only [List.mem_cons, List.not_mem_nil, or_false] at hr
  rcases hr with rfl | rfl
  ·exact h.cells
  exact h.pend
 rw [List.mem_singleton.1 hr];exact fun g hg => bA8 h.cells h.pend (by decide) hg
def aB2 (v1 v2 V VB : Value) (kv : Ks) (cs : Ts) (ws : List (Int × ByteArray)) (bl : Bs) : List Rw := ([(⟨9, 1, v1, cs.length, cs.map Value.string⟩ : Rw), (⟨155, 2, v2, ws.length, aA1 ws⟩ : Rw)] ++ aC5 V kv) ++ [(⟨62, 4, VB, bl.length, aA5 bl⟩ : Rw)]
def aD1 (w : World) (base : Nat) (v1 v2 V VB : Value) (kv : Ks) (s : ShD) : Prop := aA2 w base (aB2 v1 v2 V VB kv s.cs s.ws s.bl) ∧ kv.map (·.1) = s.ks
theorem aD1.disk {w : World} {base : Nat} {v1 v2 V VB : Value} {kv : Ks} {s : ShD} (h : aD1 w base v1 v2 V VB kv s) : aD3 w base v1 s.cs.length s.cs v2 s.ws.length s.ws := ⟨h.1.own (⟨9, 1, v1, s.cs.length, s.cs.map Value.string⟩ : Rw) (by simp [aB2]), h.1.own (⟨155, 2, v2, s.ws.length, aA1 s.ws⟩ : Rw) (by simp [aB2])⟩
theorem aD1.kept {w : World} {base : Nat} {v1 v2 V VB : Value} {kv : Ks} {s : ShD} (h : aD1 w base v1 v2 V VB kv s) : aB8 w base V kv := aA2.sub h.1 ((List.sublist_append_right _ _).trans (List.sublist_append_left _ _))
theorem aD1.bans {w : World} {base : Nat} {v1 v2 V VB : Value} {kv : Ks} {s : ShD} (h : aD1 w base v1 v2 V VB kv s) : w.ownsRow base 62 4 VB s.bl.length (aA5 s.bl) := h.1.own (⟨62, 4, VB, s.bl.length, aA5 s.bl⟩ : Rw) (by simp [aB2])
theorem aD1.below {w w' : World} {base : Nat} {v1 v2 V VB : Value} {kv : Ks} {s : ShD} (h : aD1 w base v1 v2 V VB kv s) (hb : Below w.heap.size w w') : aD1 w' base v1 v2 V VB kv s := ⟨h.1.below hb, h.2⟩
def bG7 (s : ShD) (w : World) (e : Ending) (w' : World) : Prop := ∃ (v1 v2 V VB : Value) (kv : Ks), e = .returned (.agg #[v1, v2, V, VB, .int .i64 s.nx, .int .i64 s.sq]) ∧ aD1 w' w.heap.size v1 v2 V VB kv s ∧ Below w.heap.size w w'
theorem bX9 (a1 : Oa) (n1 c1 : Nat) (cs : Ts) (a2 : Oa) (n2 c2 : Nat) (ws : List (Int × ByteArray)) (a3 : Oa) (n3 c3 : Nat) (ks : List KpD) (a4 : Oa) (n4 c4 : Nat) (bl : Bs) (nx sq : Int) (B : Nat) (w : World) (h1 : ArgT w B a1 n1 cs) (h2 : aG4 w B a2 n2 ws) (h3 : aK5 w B a3 n3 ks) (h4 : aQ0 w B a4 n4 bl) (hB : B ≤ w.heap.size) (hn1 : n1 ≤ 1048576) (hn2 : n2 ≤ 1048576) (hn3 : n3 ≤ 1048576) (hn4 : n4 ≤ 1048576) (hsm : ∀ k ∈ ks, k.xs.length ≤ 1048576 ∧ k.ys.length ≤ 1048576 ∧ k.fs.length ≤ 1048576) :
  Calls prog 9 #[.agg #[.slice a1 n1 c1, .slice a2 n2 c2, .slice a3 n3 c3, .slice a4 n4 c4, .int .i64 nx, .int .i64 sq]] w fun e w' => bG7 ⟨cs, ws, ks, bl, nx, sq⟩ w e w' := by
 have g0 := hid fun W (h : Bw w W) => h1.below (h.mono hB)
 have g1 := hid fun W (h : Bw w W) => h2.below (h.mono hB)
 have g2 := hid fun W (h : Bw w W) => h3.below (h.mono hB)
 have g3 := hid fun W (h : Bw w W) => h4.below (h.mono hB)
 have d5 : Hid (∀ W, Bw w W → B ≤ W.heap.size) := fun W h => Nat.le_trans hB h.size
 have HN : Hid (n1 ≤ 1048576 ∧ n2 ≤ 1048576 ∧ n3 ≤ 1048576 ∧ n4 ≤ 1048576) := ⟨hn1, hn2, hn3, hn4⟩;have g4 := hid hsm;have HL : Hid (cs.length = n1 ∧ ws.length = n2 ∧ ks.length = n3 ∧ bl.length = n4) := ⟨h1.len, h2.1, h3.1, h4.1⟩;clear h1 h2 h3 h4 hn1 hn2 hn3 hn4 hsm hB;have K0 := jnil w;go_enter func9, ntmps9;go_upto_region 1 with fail
 obtain ⟨q1, d6⟩ := exq (w.heap.size);obtain ⟨w1, b0⟩ := exq (w.alloc (.cells #[.slice a1 n1 c1, .slice a2 n2 c2, .slice a3 n3 c3, .slice a4 n4 c4, .int .i64 nx, .int .i64 sq] 29));have d7 := d6.symm;rw [← b0]; try rw [← d6];have f5 := hsa b0 d7;have bw := bal b0;have K1 := ja K0 b0 d7;clear bw b0 d7 K0;obtain ⟨q2, d8⟩ := exq (q1 + 1);obtain ⟨w2, b1⟩ := exq (w1.alloc (.cells #[.slice none 0 0, .slice none 0 0, .slice none 0 0, .slice none 0 0, .int .i64 0, .int .i64 0] 43));have d9 : w1.heap.size = q2 := by rw [d8]; exact f5
 rw [← b1]; try rw [← d8];have g5 := hsa b1 d9;have bw := bal b1;have K2 := ja K1 b1 d9;clear bw b1 d9 K1;clear g5 d8 f5 d6;go_upto_region 2 with fail
 obtain ⟨q3, e0⟩ := exq (w2.heap.size);obtain ⟨w3, b2⟩ := exq (w2.alloc (.cells #[.slice none 0 0, .slice none 0 0, .slice none 0 0, .slice none 0 0, .int .i64 0, .int .i64 0] 43));have e1 := e0.symm;rw [← b2]; try rw [← e0];have g6 := hsa b2 e1;have bw := bal b2;have K3 := ja K2 b2 e1;clear bw b2 e1 K2;clear g6 e0;have e2 := c6c (jb K3 2 rfl);go_wp2_with fail
 refine (cD6 a1 n1 c1 cs a2 n2 c2 ws B _ (g0.out _ K3.hb) (g1.out _ K3.hb) (d5.out _ K3.hb) HN.out.1 HN.out.2.1).mono ?_;rintro e w4 ⟨h6, h7, rfl, d1, bw⟩;obtain ⟨oC, pC, rfl⟩ := aA0 d1.cells;obtain ⟨oP, pP, rfl⟩ := aA0 d1.pend;have b3 : Hid (aA2 w4 w.heap.size ([(⟨9, 1, (.slice oC n1 pC), n1, cs.map Value.string⟩ : Rw), (⟨155, 2, (.slice oP n2 pP), n2, aA1 ws⟩ : Rw)])) := (aV5 d1).wide K3.hb.size
 have f6 : Hid (∀ r ∈ ([(⟨9, 1, (.slice oC n1 pC), n1, cs.map Value.string⟩ : Rw), (⟨155, 2, (.slice oP n2 pP), n2, aA1 ws⟩ : Rw)]), 43 ≠ r.T) := by
  intro r hr
  simp only [List.mem_cons, List.not_mem_nil, or_false] at hr
  rcases hr with rfl | rfl
  ·exact (by decide : (43 : TypeId) ≠ 9)
  ·exact (by decide : (43 : TypeId) ≠ 155)
 clear d1;have K4 := jw K3 bw;clear bw K3;have e3 : Hid (aA2 (w4) w.heap.size ([(⟨9, 1, (.slice oC n1 pC), n1, cs.map Value.string⟩ : Rw), (⟨155, 2, (.slice oP n2 pP), n2, aA1 ws⟩ : Rw)])) := b3.out;clear b3;clear e2;have b4 := c6f (jb K4 0 rfl);go_upto_region 3 with fail
 obtain ⟨w6, d2⟩ := exq ((w4.setCell ⟨q3, 0, none⟩ (.slice oC n1 pC)).setCell ⟨q3, 1, none⟩ (.slice oP n2 pP));rw [← d2];have K6 := jss K4 0 [(0, _), (1, _)] d2;have b5 := hid (jrs [(0, _), (1, _)] e3.out d2 (jb K4 0 rfl) f6.out);clear d2 K4;clear b4;have e4 := c6c (jb K6 2 rfl);go_wp2_with fail
 refine (bX7 B a3 n3 c3 ks _ (g2.out _ K6.hb) (d5.out _ K6.hb) HN.out.2.2.1 g4.out).mono ?_;rintro e w7 ⟨VK, kv, rfl, e5, e6, bw⟩;have g7 := hid e5;obtain ⟨oK, pK, f7⟩ := e6.len;rw [show kv.length = n3 from by rw [← HL.out.2.2.1, ← e5, List.length_map]] at f7;subst f7;have b6 : Hid (aA2 w7 w.heap.size ([(⟨9, 1, (.slice oC n1 pC), n1, cs.map Value.string⟩ : Rw), (⟨155, 2, (.slice oP n2 pP), n2, aA1 ws⟩ : Rw)] ++ aC5 (.slice oK n3 pK) kv)) := b5.out.more bw e6 (Nat.le_refl _) K6.hb.size
 have f8 : Hid (∀ r ∈ ([(⟨9, 1, (.slice oC n1 pC), n1, cs.map Value.string⟩ : Rw), (⟨155, 2, (.slice oP n2 pP), n2, aA1 ws⟩ : Rw)] ++ aC5 (.slice oK n3 pK) kv), 43 ≠ r.T) := by
  intro r hr
  rcases List.mem_append.1 hr with hr | hr
  ·exact f6.out r hr
  ·rcases bB1 hr with e | e | e <;> rw [e] <;> decide
 clear e5 e6;have K7 := jw K6 bw;have a8 := hid (b5.out.below bw);clear bw K6;clear a8;have a8 : Hid (aA2 (w7) w.heap.size ([(⟨9, 1, (.slice oC n1 pC), n1, cs.map Value.string⟩ : Rw), (⟨155, 2, (.slice oP n2 pP), n2, aA1 ws⟩ : Rw)] ++ aC5 (.slice oK n3 pK) kv)) := b6.out;clear b6;clear e4;have e7 := c6f (jb K7 0 rfl);go_upto_region 4 with fail
 obtain ⟨w8, d3⟩ := exq (w7.setCell ⟨q3, 2, none⟩ (.slice oK n3 pK));rw [← d3];have K8 := js K7 0 d3;have b7 := erS d3 a8 (jb K7 0 rfl) f8.out;clear d3 K7;clear e7;have e8 := c6c (jb K8 2 rfl);go_wp2_with fail
 refine (cE0 B a4 n4 c4 bl _ (g3.out _ K8.hb) (d5.out _ K8.hb) HN.out.2.2.2).mono ?_;rintro e w9 ⟨vb, rfl, e9, bw⟩;obtain ⟨oB, pB, rfl⟩ := aA0 e9;have b8 : Hid (aA2 w9 w.heap.size (([(⟨9, 1, (.slice oC n1 pC), n1, cs.map Value.string⟩ : Rw), (⟨155, 2, (.slice oP n2 pP), n2, aA1 ws⟩ : Rw)] ++ aC5 (.slice oK n3 pK) kv) ++ [(⟨62, 4, (.slice oB n4 pB), n4, aA5 bl⟩ : Rw)])) := b7.out.more bw (aA2.one (r := (⟨62, 4, (.slice oB n4 pB), n4, aA5 bl⟩ : Rw)) e9) (Nat.le_refl _) K8.hb.size
 have d4 : Hid (∀ r ∈ (([(⟨9, 1, (.slice oC n1 pC), n1, cs.map Value.string⟩ : Rw), (⟨155, 2, (.slice oP n2 pP), n2, aA1 ws⟩ : Rw)] ++ aC5 (.slice oK n3 pK) kv) ++ [(⟨62, 4, (.slice oB n4 pB), n4, aA5 bl⟩ : Rw)]), 43 ≠ r.T) := by
  intro r hr
  rcases List.mem_append.1 hr with hr | hr
  ·exact f8.out r hr
  ·rw [List.mem_singleton.1 hr]
   exact (by decide : (43 : TypeId) ≠ 62)
 clear e9;have K9 := jw K8 bw;have a9 := hid (b7.out.below bw);clear bw K8;clear a9;have a9 : Hid (aA2 (w9) w.heap.size (([(⟨9, 1, (.slice oC n1 pC), n1, cs.map Value.string⟩ : Rw), (⟨155, 2, (.slice oP n2 pP), n2, aA1 ws⟩ : Rw)] ++ aC5 (.slice oK n3 pK) kv) ++ [(⟨62, 4, (.slice oB n4 pB), n4, aA5 bl⟩ : Rw)])) := b8.out;clear b8;clear e8;have f0 := c6f (jb K9 0 rfl);go_upto_region 5 with fail
 obtain ⟨g8, a0⟩ := exq (w9.setCell ⟨q3, 3, none⟩ (.slice oB n4 pB));rw [← a0];have b9 := js K9 0 a0;have c0 := erS a0 a9 (jb K9 0 rfl) d4.out;clear a0 K9;clear f0;have f1 := c6c (jb b9 2 rfl);have f2 := c6f (jb b9 0 rfl);go_upto_region 6 with fail
 obtain ⟨g9, a5⟩ := exq (g8.setCell ⟨q3, 4, none⟩ (.int .i64 nx));rw [← a5];have c5 := js b9 0 a5;have c6 := erS a5 c0 (jb b9 0 rfl) d4.out;clear a5 b9;clear f1 f2;have f3 := c6c (jb c5 2 rfl);have f4 := c6f (jb c5 0 rfl);go_upto_region 7 with fail
 obtain ⟨h0, a6⟩ := exq (g9.setCell ⟨q3, 5, none⟩ (.int .i64 sq));rw [← a6];have c7 := js c5 0 a6;have c8 := erS a6 c6 (jb c5 0 rfl) d4.out;clear a6 c5;clear f3 f4;have h5 := c6f (jb c7 1 rfl);have b4 := c6c (jb c7 0 rfl);go_wp2_with fail
 obtain ⟨h8, a7⟩ := exq ((((((h0.setCell ⟨q2, 0, none⟩ (.slice oC n1 pC)).setCell ⟨q2, 1, none⟩ (.slice oP n2 pP)).setCell ⟨q2, 2, none⟩ (.slice oK n3 pK)).setCell ⟨q2, 3, none⟩ (.slice oB n4 pB)).setCell ⟨q2, 4, none⟩ (.int .i64 nx)).setCell ⟨q2, 5, none⟩ (.int .i64 sq));rw [← a7];have f9 := jss c7 1 [(0, _), (1, _), (2, _), (3, _), (4, _), (5, _)] a7;have c9 := hid (jrs [(0, _), (1, _), (2, _), (3, _), (4, _), (5, _)] c8.out a7 (jb c7 1 rfl) d4.out);clear a7 c7;have d0 := c6c (jb f9 1 rfl);refine bodyPost_ret (v := .agg #[.slice oC n1 pC, .slice oP n2 pP, .slice oK n3 pK, .slice oB n4 pB, .int .i64 nx, .int .i64 sq]) (by simp [results, results9, go_sem, d0]) rfl ?_;refine ⟨.slice oC n1 pC, .slice oP n2 pP, .slice oK n3 pK, .slice oB n4 pB, kv, rfl, ⟨?_, g7.out⟩, f9.hb⟩;have h := c9.out;unfold aB2;rw [HL.out.1, HL.out.2.1, HL.out.2.2.2];exact h
theorem cE5 (s : ShD) (n1 n2 n3 n4 : Nat) (oCx oPx oKx oBx oCy oPy oKy oBy : Oa) (pCx pPx pKx pBx pCy pPy pKy pBy : Nat) (kvx kvy : Ks) (Bx By : Nat) (w : World) (HL : Hid (s.cs.length = n1 ∧ s.ws.length = n2 ∧ s.bl.length = n4)) (HN : Hid (n1 ≤ 2000000 ∧ n2 ≤ 2000000 ∧ kvx.length ≤ 2000000 ∧ n4 ≤ 2000000)) (HSZ : Hid (∀ x ∈ kvx, x.1.xs.length ≤ 2000000 ∧ x.1.ys.length ≤ 2000000 ∧ x.1.fs.length ≤ 2000000)) (HKE : Hid (kvx.map (·.1) = kvy.map (·.1))) (Ex_0 : Hid (aD1 (w) Bx (.slice oCx n1 pCx) (.slice oPx n2 pPx) (.slice oKx n3 pKx) (.slice oBx n4 pBx) kvx s)) (Ey_0 : Hid (aD1 (w) By (.slice oCy n1 pCy) (.slice oPy n2 pPy) (.slice oKy n3 pKy) (.slice oBy n4 pBy) kvy s)) :
  Calls prog 12 #[.agg #[.slice oCx n1 pCx, .slice oPx n2 pPx, .slice oKx n3 pKx, .slice oBx n4 pBx, .int .i64 s.nx, .int .i64 s.sq], .agg #[.slice oCy n1 pCy, .slice oPy n2 pPy, .slice oKy n3 pKy, .slice oBy n4 pBy, .int .i64 s.nx, .int .i64 s.sq]] w fun e w' => e = .returned (.bool true) ∧ Below w.heap.size w w' := by
 have c6 : (s.nx != s.nx) = false := by simp
 have c7 : (s.sq != s.sq) = false := by simp
 have K0 := jnil w;go_enter func12, ntmps12;go_upto_region 1 with fail
 obtain ⟨q1, b0⟩ := exq (w.heap.size);obtain ⟨w1, a6⟩ := exq (w.alloc (.cells #[.slice oCx n1 pCx, .slice oPx n2 pPx, .slice oKx n3 pKx, .slice oBx n4 pBx, .int .i64 s.nx, .int .i64 s.sq] 43));have b1 := b0.symm;rw [← a6]; try rw [← b0];have c0 := hsa a6 b1;have bw := bal a6;have K1 := ja K0 a6 b1;have a7 := hid (Ex_0.out.below bw);have a8 := hid (Ey_0.out.below bw);clear Ex_0 Ey_0 bw a6 b1 K0;obtain ⟨q2, b2⟩ := exq (q1 + 1);obtain ⟨w2, a9⟩ := exq (w1.alloc (.cells #[.slice oCy n1 pCy, .slice oPy n2 pPy, .slice oKy n3 pKy, .slice oBy n4 pBy, .int .i64 s.nx, .int .i64 s.sq] 43));have b3 : w1.heap.size = q2 := by rw [b2]; exact c0
 rw [← a9]; try rw [← b2];have c1 := hsa a9 b3;have bw := bal a9;have K2 := ja K1 a9 b3;have a0 := hid (a7.out.below bw);have a1 := hid (a8.out.below bw);clear a7 a8 bw a9 b3 K1;clear c1 b2 c0 b0;have b4 := c6c (jb K2 1 rfl);have b5 := c6c (jb K2 0 rfl);go_wp2_with fail
 refine (cD7 n1 s.cs n2 s.ws _ _ _ _ Bx By _ (show aD3 _ Bx _ n1 s.cs _ n2 s.ws from by have h := a0.out.disk; rw [HL.out.1, HL.out.2.1] at h; exact h) (show aD3 _ By _ n1 s.cs _ n2 s.ws from by have h := a1.out.disk; rw [HL.out.1, HL.out.2.1] at h; exact h) HN.out.1 HN.out.2.1).mono ?_;rintro e w3 ⟨rfl, bw⟩;have K3 := jw K2 bw;have a2 := hid (a0.out.below bw);have a3 := hid (a1.out.below bw);clear a0 a1 bw K2;clear b4 b5;have b6 := c6c (jb K3 1 rfl);have b7 := c6c (jb K3 0 rfl);go_wp2_with fail
 refine (bX8 _ _ kvx kvy Bx By _ HKE.out a2.out.kept a3.out.kept HN.out.2.2.1 HSZ.out).mono ?_;rintro e w4 ⟨rfl, bw⟩;have K4 := jw K3 bw;have a4 := hid (a2.out.below bw);have a5 := hid (a3.out.below bw);clear a2 a3 bw K3;clear b6 b7;have b8 := c6c (jb K4 1 rfl);have b9 := c6c (jb K4 0 rfl);go_wp2_with fail
 refine (cE1 _ _ n4 _ _ s.bl _ (aN5 (show World.ownsRow _ Bx 62 4 _ n4 (aA5 s.bl) from by have h := a4.out.bans; rw [HL.out.2.2] at h; exact h)) (aN5 (show World.ownsRow _ By 62 4 _ n4 (aA5 s.bl) from by have h := a5.out.bans; rw [HL.out.2.2] at h; exact h)) HN.out.2.2.2).mono ?_;rintro e w5 ⟨rfl, bw⟩;have K5 := jw K4 bw;have c2 := hid (a4.out.below bw);have c3 := hid (a5.out.below bw);clear a4 a5 bw K4;clear b8 b9;have c4 := c6c (jb K5 1 rfl);have c5 := c6c (jb K5 0 rfl);go_wp2_with fail
 go_ret;exact ⟨rfl, K5.hb⟩
theorem aT6 (s : ShD) (v1 v2 V VB u1 u2 U UB : Value) (kvx kvy : Ks) (Bx By : Nat) (w : World) (hx : aD1 w Bx v1 v2 V VB kvx s) (hy : aD1 w By u1 u2 U UB kvy s) (h1 : s.cs.length ≤ 2000000) (h2 : s.ws.length ≤ 2000000) (h3 : s.ks.length ≤ 2000000) (h4 : s.bl.length ≤ 2000000) (hs : ∀ k ∈ s.ks, k.xs.length ≤ 2000000 ∧ k.ys.length ≤ 2000000 ∧ k.fs.length ≤ 2000000) :
  Calls prog 12 #[.agg #[v1, v2, V, VB, .int .i64 s.nx, .int .i64 s.sq], .agg #[u1, u2, U, UB, .int .i64 s.nx, .int .i64 s.sq]] w fun e w' => e = .returned (.bool true) ∧ Below w.heap.size w w' := by
 obtain ⟨a0, a1, rfl⟩ := aA0 hx.disk.cells;obtain ⟨a2, a3, rfl⟩ := aA0 hx.disk.pend;obtain ⟨a4, a5, rfl⟩ := aA0 hx.bans;obtain ⟨a6, a7, rfl⟩ := hx.kept.len;obtain ⟨a8, a9, rfl⟩ := aA0 hy.disk.cells;obtain ⟨b0, b1, rfl⟩ := aA0 hy.disk.pend;obtain ⟨b2, b3, rfl⟩ := aA0 hy.bans;obtain ⟨b4, b5, rfl⟩ := hy.kept.len;have e1 : kvx.length = s.ks.length := by rw [← hx.2, List.length_map]
 have e2 : kvy.length = s.ks.length := by rw [← hy.2, List.length_map]
 rw [e1] at hx ⊢;rw [e2] at hy ⊢;exact cE5 s _ _ _ _ a0 a2 a6 a4 a8 b0 b4 b2 a1 a3 a7 a5 a9 b1 b5 b3 kvx kvy Bx By w ⟨rfl, rfl, rfl⟩ ⟨h1, h2, by rw [e1]; exact h3, h4⟩ (fun x b6 => hs x.1 (by rw [← hx.2]; exact List.mem_map.2 ⟨x, b6, rfl⟩)) (hx.2.trans hy.2.symm) hx hy
def cQ3 (L : Int) (n1 : Nat) (cs : Ts) (n2 : Nat) (ws : List (Int × ByteArray)) (ks : List KpD) (n4 : Nat) (bl : Bs) (w : World) (e : Ending) (w' : World) : Prop :=
 ∃ r : Int, e = .returned (.int .i64 r) ∧ r ≤ L ∧ (0 ≤ r → r + (n1 : Int) + (n2 : Int) + (wtK ks : Int) + (n4 : Int) ≤ L ∧ (n1 ≤ 1048576 ∧ ∀ i, i < n1 → (aA8 cs i).size ≤ 1048576) ∧ (n2 ≤ 1048576 ∧ ∀ x ∈ ws, (x.2).size ≤ 1048576) ∧ (∀ k ∈ ks, aF9 k) ∧ (n4 ≤ 1048576 ∧ ∀ x ∈ bl, (x.2.1).size ≤ 1048576 ∧ (x.2.2.1).size ≤ 1048576)) ∧ Below w.heap.size w w'
theorem bY0 (L : Int) (hL0 : 0 ≤ L) (hL1 : L ≤ 1048576) (a1 : Oa) (n1 c1 : Nat) (cs : Ts) (a2 : Oa) (n2 c2 : Nat) (ws : List (Int × ByteArray)) (a3 : Oa) (n3 c3 : Nat) (ks : List KpD) (a4 : Oa) (n4 c4 : Nat) (bl : Bs) (nx sq : Int) (B : Nat) (w : World) (h1 : ArgT w B a1 n1 cs) (h2 : aG4 w B a2 n2 ws) (h3 : aK5 w B a3 n3 ks) (h4 : aQ0 w B a4 n4 bl) (hB : B ≤ w.heap.size) (hm : n1 ≤ maxLen ∧ n2 ≤ maxLen ∧ n3 ≤ maxLen ∧ n4 ≤ maxLen ∧ (∀ i, i < n1 → (aA8 cs i).size ≤ maxLen) ∧ (∀ x ∈ ws, (x.2).size ≤ maxLen) ∧ (∀ k ∈ ks, bT0 k) ∧ ∀ x ∈ bl, (x.2.1).size ≤ maxLen ∧ (x.2.2.1).size ≤ maxLen) :
  Calls prog 6 #[.agg #[.slice a1 n1 c1, .slice a2 n2 c2, .slice a3 n3 c3, .slice a4 n4 c4, .int .i64 nx, .int .i64 sq], .int .i64 L] w fun e w' => cQ3 L n1 cs n2 ws ks n4 bl w e w' := by
 have b7 := hid fun W (h : Bw w W) => h1.below (h.mono hB)
 have b8 := hid fun W (h : Bw w W) => h2.below (h.mono hB)
 have b9 := hid fun W (h : Bw w W) => h3.below (h.mono hB)
 have c0 := hid fun W (h : Bw w W) => h4.below (h.mono hB)
 have a5 : Hid (∀ W, Bw w W → B ≤ W.heap.size) := fun W h => Nat.le_trans hB h.size
 have HM := hid hm;clear h1 h2 h3 h4 hm hB;have K0 := jnil w;go_enter func6, ntmps6;go_upto_region 1 with fail
 obtain ⟨q1, a6⟩ := exq (w.heap.size);obtain ⟨w1, a0⟩ := exq (w.alloc (.cells #[.slice a1 n1 c1, .slice a2 n2 c2, .slice a3 n3 c3, .slice a4 n4 c4, .int .i64 nx, .int .i64 sq] 29));have a7 := a6.symm;rw [← a0]; try rw [← a6];have c5 := hsa a0 a7;have bw := bal a0;have K1 := ja K0 a0 a7;clear bw a0 a7 K0;clear c5 a6;have a8 := c6c (jb K1 0 rfl);go_wp2_with fail
 refine (bW9 L (by omega) (by omega) a1 n1 c1 cs a2 n2 c2 ws B _ (b7.out _ K1.hb) (b8.out _ K1.hb) (a5.out _ K1.hb) HM.out.1 HM.out.2.1 HM.out.2.2.2.2.1 HM.out.2.2.2.2.2.1).mono ?_;rintro e w2 ⟨r1, rfl, c6, a9, bw⟩;have K2 := jw K1 bw;clear bw K1;clear a8;by_cases hc1 : r1 < 0
 ·clear a9;go_wp2_with fail
  go_ret;exact ⟨-1, rfl, by omega, fun h => absurd h (by omega), K2.hb⟩
 have b0 : Hid _ := a9 (by omega);clear a9;have m1 := b0.out.1;have b1 := c6c (jb K2 0 rfl);go_wp2_with fail
 refine (bX6 r1 (by omega) (by omega) B a3 n3 c3 ks _ (b9.out _ K2.hb) (a5.out _ K2.hb) HM.out.2.2.1 HM.out.2.2.2.2.2.2.1).mono ?_;rintro e w3 ⟨r2, rfl, c7, b2, bw⟩;have K3 := jw K2 bw;clear bw K2;clear b1;by_cases hc2 : r2 < 0
 ·clear b2;go_wp2_with fail
  go_ret;exact ⟨-1, rfl, by omega, fun h => absurd h (by omega), K3.hb⟩
 have b5 : Hid _ := b2 (by omega);clear b2;have m2 := b5.out.1;have b3 := c6c (jb K3 0 rfl);go_wp2_with fail
 refine (bX4 r2 (by omega) (by omega) B a4 n4 c4 bl _ (c0.out _ K3.hb) (a5.out _ K3.hb) HM.out.2.2.2.1 HM.out.2.2.2.2.2.2.2).mono ?_;rintro e w4 ⟨r3, rfl, c8, b4, bw⟩;have K4 := jw K3 bw;clear bw K3;clear b3;by_cases hc3 : r3 < 0
 ·clear b4;go_wp2_with fail
  go_ret;exact ⟨-1, rfl, by omega, fun h => absurd h (by omega), K4.hb⟩
 have b6 : Hid _ := b4 (by omega);clear b4;have m3 := b6.out.1;go_wp2_with fail
 go_ret;exact ⟨r3, rfl, by omega, fun _ => ⟨by omega, b0.out.2.1, b0.out.2.2, b5.out.2, b6.out.2⟩, K4.hb⟩
theorem aA2.turns {w w' : World} {base : Nat} {pre xs xs' post : List Rw} (h : aA2 w base (pre ++ xs ++ post)) (hv : xs'.map (·.v) = xs.map (·.v)) (h' : aA2 w' base xs') (hs : ∀ g, g < w.heap.size → (∀ r ∈ xs, r.v.ownBlock ≠ some g) → w'.heap[g]? = w.heap[g]?) : aA2 w' base (pre ++ xs' ++ post) := by
 have hp := h.apart;rw [List.pairwise_append, List.pairwise_append] at hp;obtain ⟨⟨p1, _, p3⟩, p4, p5⟩ := hp
 have a1 : ∀ r' ∈ xs', ∃ r ∈ xs, r.v = r'.v := fun r' hr => by
  have hm : r'.v ∈ xs'.map (·.v) := List.mem_map.2 ⟨r', hr, rfl⟩
  rw [hv] at hm
  exact List.mem_map.1 hm
 have a2 : ∀ x, x ∈ pre ++ xs ++ post → (∀ r ∈ xs, x.ne r) → x.own w' base := fun x hx a0 => aA7 (h.own x hx) (fun g hg => hs g (h.lt hx hg) (fun r hr => a0 r hr g hg))
 have k1 : ∀ x ∈ pre, x.own w' base := fun x hx => a2 x (by simp [hx]) (fun r hr => p3 x hx r hr)
 have k3 : ∀ x ∈ post, x.own w' base := fun x hx => a2 x (by simp [hx]) (fun r hr => (p5 r (by simp [hr]) x hx).symm)
 refine ⟨fun x hx => ?_, ?_⟩
 ·rcases List.mem_append.1 hx with hx | hx
  ·rcases List.mem_append.1 hx with hx | hx
   ·exact k1 x hx
   exact h'.own x hx
  exact k3 x hx
 rw [List.pairwise_append, List.pairwise_append];refine ⟨⟨p1, h'.apart, fun a ha b hb => ?_⟩, p4, fun a ha b hb => ?_⟩
 ·obtain ⟨r, hr, e⟩ := a1 b hb;have a0 := p3 a ha r hr;unfold Rw.ne at a0 ⊢;rw [← e];exact a0
 rcases List.mem_append.1 ha with ha | ha
 ·exact p5 a (by simp [ha]) b hb
 obtain ⟨r, hr, e⟩ := a1 a ha;have a0 := p5 r (by simp [hr]) b hb;unfold Rw.ne at a0 ⊢;rw [← e];exact a0
theorem cS9 (V : Value) : ∀ (kv : Ks) (k : Nat), (aC5 V (mkKs k kv)).map (·.v) = (aC5 V kv).map (·.v) := by
 have a0 : ∀ (kv : Ks) (k : Nat), ((mkKs k kv).flatMap kpR).map (·.v) = (kv.flatMap kpR).map (·.v) := by
  intro kv
  induction kv with
  | nil => intro k; rfl
  | cons x r ih =>
   intro k
   rw [mkKs, List.flatMap_cons, List.flatMap_cons, List.map_append, List.map_append, ih]
   rfl
 intro kv k;unfold aC5;rw [List.map_cons, List.map_cons, a0];rfl
theorem bC4 (s : ShD) (n1 n2 n3 n4 : Nat) (oC oP oK oB : Oa) (pC pP pK pB : Nat) (kv : Ks) (B : Nat) (w : World) (hL1 : s.cs.length = n1) (hL2 : s.ws.length = n2) (hL3 : kv.length = n3) (hL4 : s.bl.length = n4) (HR : Hid (aA2 w B ([(⟨9, 1, (.slice oC n1 pC), n1, s.cs.map Value.string⟩ : Rw), (⟨155, 2, (.slice oP n2 pP), n2, aA1 s.ws⟩ : Rw)] ++ aC5 (.slice oK n3 pK) kv ++ [(⟨62, 4, (.slice oB n4 pB), n4, aA5 s.bl⟩ : Rw)]))) (hB : B ≤ w.heap.size) (k0 : Nat) (hk0 : 1 ≤ k0) (hk : k0 + n1 + 2 * n2 + wms kv + 4 * n4 ≤ 99999998) (hn3 : n3 ≤ 2000000) (K1 K2 K3 : Nat) (HK1 : Hid (K1 = k0 + n1 + 2 * n2)) (HK2 : Hid (K2 = K1 + wms kv)) (HK3 : Hid (K3 = K2 + 4 * n4)) :
  Calls prog 14 #[.agg #[(.slice oC n1 pC), (.slice oP n2 pP), (.slice oK n3 pK), (.slice oB n4 pB), .int .i64 s.nx, .int .i64 s.sq], .int .i64 (k0 : Int)] w fun e w' => e = .returned (.int .i64 (K3 : Int)) ∧ aA2 w' B ([(⟨9, 1, (.slice oC n1 pC), n1, (mkT k0 s.cs n1).map Value.string⟩ : Rw), (⟨155, 2, (.slice oP n2 pP), n2, aA1 (aE2 (k0 + n1) s.ws n2)⟩ : Rw)] ++ aC5 (.slice oK n3 pK) (mkKs K1 kv) ++ [(⟨62, 4, (.slice oB n4 pB), n4, aA5 (aL3 K2 s.bl n4)⟩ : Rw)]) ∧ Below B w w' ∧ FarR ([(⟨9, 1, (.slice oC n1 pC), n1, s.cs.map Value.string⟩ : Rw), (⟨155, 2, (.slice oP n2 pP), n2, aA1 s.ws⟩ : Rw)] ++ aC5 (.slice oK n3 pK) kv ++ [(⟨62, 4, (.slice oB n4 pB), n4, aA5 s.bl⟩ : Rw)]) w w' := by
 have d2 := hid hL1;have c5 := hid hL3;have b0 : k0 + n1 + 2 * n2 ≤ 99999998 := by omega
 have b1 : 1 ≤ K1 ∧ K1 + wms kv ≤ 99999998 := by have := HK1.out; omega
 have b2 : 1 ≤ K2 ∧ K2 + 4 * n4 ≤ 99999999 := by have := HK1.out; have := HK2.out; omega
 have E1 : Hid (((k0 + n1 + 2 * n2 : Nat) : Int) = (K1 : Int)) := by show _ = _; rw [HK1.out]
 have E2 : Hid (((K1 + wms kv : Nat) : Int) = (K2 : Int)) := by show _ = _; rw [HK2.out]
 have E3 : Hid ((K2 : Int) + 4 * (n4 : Int) = (K3 : Int)) := by show _ = _; rw [HK3.out]; simp
 clear hL1 hL2 hL3 hL4 hk;go_enter func14, ntmps14;go_upto_region 1 with fail
 obtain ⟨q, hq⟩ := exq (w.heap.size);obtain ⟨w1, a6⟩ := exq (w.alloc (.cells #[(.slice oC n1 pC), (.slice oP n2 pP), (.slice oK n3 pK), (.slice oB n4 pB), .int .i64 s.nx, .int .i64 s.sq] 43));rw [← a6, ← hq];have a2 : Hid (w1.heap[q]? = some (.cells #[(.slice oC n1 pC), (.slice oP n2 pP), (.slice oK n3 pK), (.slice oB n4 pB), .int .i64 s.nx, .int .i64 s.sq] 43)) := by show _ = _; rw [a6, hq]; exact heap_alloc_new _ _
 have a3 : Bw w w1 := by rw [a6]; exact (Below.refl _ _).alloc (Nat.le_refl _) _
 have a7 : Hid (aA2 w1 B ([] ++ [(⟨9, 1, (.slice oC n1 pC), n1, s.cs.map Value.string⟩ : Rw), (⟨155, 2, (.slice oP n2 pP), n2, aA1 s.ws⟩ : Rw)] ++ (aC5 (.slice oK n3 pK) kv ++ [(⟨62, 4, (.slice oB n4 pB), n4, aA5 s.bl⟩ : Rw)]))) := by
  have h := HR.out.below a3
  rw [List.append_assoc] at h
  exact h
 have a8 : Hid (Below B w w1) := a3.mono hB;have HQ : Hid (∀ r ∈ ([(⟨9, 1, (.slice oC n1 pC), n1, s.cs.map Value.string⟩ : Rw), (⟨155, 2, (.slice oP n2 pP), n2, aA1 s.ws⟩ : Rw)] ++ aC5 (.slice oK n3 pK) kv ++ [(⟨62, 4, (.slice oB n4 pB), n4, aA5 s.bl⟩ : Rw)]), r.v.ownBlock ≠ some q) := fun r hr e => by have h1 := HR.out.lt hr e; omega
 have c6 : Hid (∀ j, j < w.heap.size → w1.heap[j]? = w.heap[j]?) := fun j hj => a3.block j hj
 have a4 : B ≤ w1.heap.size := Nat.le_trans hB a3.size;have b7 : q < w1.heap.size := (blt a2.out);clear a6 a3 hq;have c0 : w1.cell? ⟨q, 0, none⟩ = some (.slice oC n1 pC) := (aB0 a2.out 0).trans rfl;have c1 : w1.cell? ⟨q, 1, none⟩ = some (.slice oP n2 pP) := (aB0 a2.out 1).trans rfl;go_wp2_with fail
 refine (bS1 n1 s.cs n2 s.ws (.slice oC n1 pC) (.slice oP n2 pP) B _ ⟨a7.out.own (⟨9, 1, (.slice oC n1 pC), n1, s.cs.map Value.string⟩ : Rw) (by simp), a7.out.own (⟨155, 2, (.slice oP n2 pP), n2, aA1 s.ws⟩ : Rw) (by simp)⟩ a4 k0 hk0 b0).mono ?_;rintro e w2 ⟨rfl, hd, bm, a0⟩
 have a9 : Hid (aA2 w2 B ([(⟨9, 1, (.slice oC n1 pC), n1, (mkT k0 s.cs n1).map Value.string⟩ : Rw), (⟨155, 2, (.slice oP n2 pP), n2, aA1 (aE2 (k0 + n1) s.ws n2)⟩ : Rw)] ++ aC5 (.slice oK n3 pK) kv ++ [(⟨62, 4, (.slice oB n4 pB), n4, aA5 s.bl⟩ : Rw)])) := by
  have h := a7.out.turns (xs' := [(⟨9, 1, (.slice oC n1 pC), n1, (mkT k0 s.cs n1).map Value.string⟩ : Rw), (⟨155, 2, (.slice oP n2 pP), n2, aA1 (aE2 (k0 + n1) s.ws n2)⟩ : Rw)]) rfl (aV5 hd) (fun g hg a1 => a0 g hg (a1 (⟨9, 1, (.slice oC n1 pC), n1, s.cs.map Value.string⟩ : Rw) (by simp)) (a1 (⟨155, 2, (.slice oP n2 pP), n2, aA1 s.ws⟩ : Rw) (by simp)))
  rw [List.append_assoc]
  exact h
 have b3 : Hid (w2.heap[q]? = some (.cells #[(.slice oC n1 pC), (.slice oP n2 pP), (.slice oK n3 pK), (.slice oB n4 pB), .int .i64 s.nx, .int .i64 s.sq] 43)) := (a0 q b7 (HQ.out (⟨9, 1, (.slice oC n1 pC), n1, s.cs.map Value.string⟩ : Rw) (by simp)) (HQ.out (⟨155, 2, (.slice oP n2 pP), n2, aA1 s.ws⟩ : Rw) (by simp))).trans a2.out;have b8 : Hid (Below B w w2) := a8.out.trans bm;have c7 : Hid (FarR ([(⟨9, 1, (.slice oC n1 pC), n1, s.cs.map Value.string⟩ : Rw), (⟨155, 2, (.slice oP n2 pP), n2, aA1 s.ws⟩ : Rw)] ++ aC5 (.slice oK n3 pK) kv ++ [(⟨62, 4, (.slice oB n4 pB), n4, aA5 s.bl⟩ : Rw)]) w w2) := fun j hj a1 => (a0 j (Nat.lt_of_lt_of_le hj a8.out.size) (a1 (⟨9, 1, (.slice oC n1 pC), n1, s.cs.map Value.string⟩ : Rw) (by simp)) (a1 (⟨155, 2, (.slice oP n2 pP), n2, aA1 s.ws⟩ : Rw) (by simp))).trans (c6.out j hj)
 have a5 : B ≤ w2.heap.size := Nat.le_trans a4 bm.size;have b4 : q < w2.heap.size := Nat.lt_of_lt_of_le b7 bm.size;clear hd bm a0 c0 c1 a2 a7 a8;rw [E1.out];have c2 : w2.cell? ⟨q, 2, none⟩ = some (.slice oK n3 pK) := (aB0 b3.out 2).trans rfl;go_wp2_with fail
 refine (bO4 (.slice oK n3 pK) kv B _ (aA2.sub a9.out ((List.sublist_append_right _ _).trans (List.sublist_append_left _ _))) a5 K1 b1.1 b1.2 (by rw [c5.out]; exact hn3)).mono ?_;rintro e w3 ⟨rfl, hd, bm, a0⟩;have b5 : Hid (aA2 w3 B ([(⟨9, 1, (.slice oC n1 pC), n1, (mkT k0 s.cs n1).map Value.string⟩ : Rw), (⟨155, 2, (.slice oP n2 pP), n2, aA1 (aE2 (k0 + n1) s.ws n2)⟩ : Rw)] ++ aC5 (.slice oK n3 pK) (mkKs K1 kv) ++ [(⟨62, 4, (.slice oB n4 pB), n4, aA5 s.bl⟩ : Rw)])) := a9.out.turns (cS9 _ kv K1) hd a0;have b9 : Hid (w3.heap[q]? = some (.cells #[(.slice oC n1 pC), (.slice oP n2 pP), (.slice oK n3 pK), (.slice oB n4 pB), .int .i64 s.nx, .int .i64 s.sq] 43)) := (a0 q b4 (fun r hr => HQ.out r (by simp [hr]))).trans b3.out
 have c4 : Hid (Below B w w3) := b8.out.trans bm;have c8 : Hid (FarR ([(⟨9, 1, (.slice oC n1 pC), n1, s.cs.map Value.string⟩ : Rw), (⟨155, 2, (.slice oP n2 pP), n2, aA1 s.ws⟩ : Rw)] ++ aC5 (.slice oK n3 pK) kv ++ [(⟨62, 4, (.slice oB n4 pB), n4, aA5 s.bl⟩ : Rw)]) w w3) := fun j hj a1 => (a0 j (Nat.lt_of_lt_of_le hj b8.out.size) (fun r hr => a1 r (by simp [hr]))).trans (c7.out j hj a1)
 have b6 : B ≤ w3.heap.size := Nat.le_trans a5 bm.size;clear hd bm a0 c2 b3 a9 ;rw [E2.out];have c3 : w3.cell? ⟨q, 3, none⟩ = some (.slice oB n4 pB) := (aB0 b9.out 3).trans rfl;go_wp2_with fail
 refine (bS8 oB n4 pB B s.bl _ (b5.out.own (⟨62, 4, (.slice oB n4 pB), n4, aA5 s.bl⟩ : Rw) (by simp)) b6 K2 b2.1 b2.2).mono ?_;rintro e w4 ⟨rfl, hd, bm, a0⟩
 have c9 : Hid (aA2 w4 B ([(⟨9, 1, (.slice oC n1 pC), n1, (mkT k0 s.cs n1).map Value.string⟩ : Rw), (⟨155, 2, (.slice oP n2 pP), n2, aA1 (aE2 (k0 + n1) s.ws n2)⟩ : Rw)] ++ aC5 (.slice oK n3 pK) (mkKs K1 kv) ++ [(⟨62, 4, (.slice oB n4 pB), n4, aA5 (aL3 K2 s.bl n4)⟩ : Rw)])) := by
  have h : aA2 w3 B (([(⟨9, 1, (.slice oC n1 pC), n1, (mkT k0 s.cs n1).map Value.string⟩ : Rw), (⟨155, 2, (.slice oP n2 pP), n2, aA1 (aE2 (k0 + n1) s.ws n2)⟩ : Rw)] ++ aC5 (.slice oK n3 pK) (mkKs K1 kv)) ++ [(⟨62, 4, (.slice oB n4 pB), n4, aA5 s.bl⟩ : Rw)] ++ []) := by rw [List.append_nil]; exact b5.out
  have h2 := h.turns (xs' := [(⟨62, 4, (.slice oB n4 pB), n4, aA5 (aL3 K2 s.bl n4)⟩ : Rw)]) rfl (aA2.one hd) (fun g hg a1 => a0 g hg (a1 (⟨62, 4, (.slice oB n4 pB), n4, aA5 s.bl⟩ : Rw) (by simp)))
  rw [List.append_nil] at h2
  exact h2
 have d0 : Hid (Below B w w4) := c4.out.trans bm;have d1 : Hid (FarR ([(⟨9, 1, (.slice oC n1 pC), n1, s.cs.map Value.string⟩ : Rw), (⟨155, 2, (.slice oP n2 pP), n2, aA1 s.ws⟩ : Rw)] ++ aC5 (.slice oK n3 pK) kv ++ [(⟨62, 4, (.slice oB n4 pB), n4, aA5 s.bl⟩ : Rw)]) w w4) := fun j hj a1 => (a0 j (Nat.lt_of_lt_of_le hj c4.out.size) (a1 (⟨62, 4, (.slice oB n4 pB), n4, aA5 s.bl⟩ : Rw) (by simp))).trans (c8.out j hj a1)
 clear hd bm a0 c3 b9 b5;rw [E3.out];go_wp2_with fail
 go_ret;exact ⟨rfl, c9.out, d0.out, d1.out⟩
theorem bC5 (s : ShD) (n1 n2 n3 n4 : Nat) (oC oP oK oB : Oa) (pC pP pK pB : Nat) (kv : Ks) (B : Nat) (w : World) (hL1 : s.cs.length = n1) (hL2 : s.ws.length = n2) (hL3 : kv.length = n3) (hL4 : s.bl.length = n4) (k0 K1 K2 K3 : Nat) (HR : Hid (aA2 w B ([(⟨9, 1, (.slice oC n1 pC), n1, (mkT k0 s.cs n1).map Value.string⟩ : Rw), (⟨155, 2, (.slice oP n2 pP), n2, aA1 (aE2 (k0 + n1) s.ws n2)⟩ : Rw)] ++ aC5 (.slice oK n3 pK) (mkKs K1 kv) ++ [(⟨62, 4, (.slice oB n4 pB), n4, aA5 (aL3 K2 s.bl n4)⟩ : Rw)]))) (hk0 : 1 ≤ k0) (hk : k0 + n1 + 2 * n2 + wms kv + 4 * n4 ≤ 99999998) (hn3 : n3 ≤ 2000000) (HK1 : Hid (K1 = k0 + n1 + 2 * n2)) (HK2 : Hid (K2 = K1 + wms kv)) (HK3 : Hid (K3 = K2 + 4 * n4)) :
  Calls prog 16 #[.agg #[(.slice oC n1 pC), (.slice oP n2 pP), (.slice oK n3 pK), (.slice oB n4 pB), .int .i64 s.nx, .int .i64 s.sq], .int .i64 (k0 : Int)] w fun e w' => e = .returned (.int .i64 (K3 : Int)) ∧ Below w.heap.size w w' := by
 have a9 := hid hL1;have b3 := hid hL2;have b4 := hid hL3;have b5 := hid hL4;have b0 : k0 + n1 + 2 * n2 ≤ 99999998 := by omega
 have b1 : 1 ≤ K1 ∧ K1 + wms kv ≤ 99999998 := by have := HK1.out; omega
 have b2 : 1 ≤ K2 ∧ K2 + 4 * n4 ≤ 99999999 := by have := HK1.out; have := HK2.out; omega
 have E1 : Hid (((k0 + n1 + 2 * n2 : Nat) : Int) = (K1 : Int)) := by show _ = _; rw [HK1.out]
 have E2 : Hid (((K1 + wms kv : Nat) : Int) = (K2 : Int)) := by show _ = _; rw [HK2.out]
 have E3 : Hid ((K2 : Int) + 4 * (n4 : Int) = (K3 : Int)) := by show _ = _; rw [HK3.out]; simp
 have p1 : ¬ ((K1 : Int) < 0) := by omega
 have p2 : ¬ ((K2 : Int) < 0) := by omega
 have p3 : ¬ ((K3 : Int) < 0) := by omega
 clear hL1 hL2 hL3 hL4 hk;go_enter func16, ntmps16;go_upto_region 1 with fail
 obtain ⟨q, hq⟩ := exq (w.heap.size);obtain ⟨w1, a0⟩ := exq (w.alloc (.cells #[(.slice oC n1 pC), (.slice oP n2 pP), (.slice oK n3 pK), (.slice oB n4 pB), .int .i64 s.nx, .int .i64 s.sq] 43));rw [← a0, ← hq];have a3 : Hid (w1.heap[q]? = some (.cells #[(.slice oC n1 pC), (.slice oP n2 pP), (.slice oK n3 pK), (.slice oB n4 pB), .int .i64 s.nx, .int .i64 s.sq] 43)) := by show _ = _; rw [a0, hq]; exact heap_alloc_new _ _
 have a7 : Bw w w1 := by rw [a0]; exact (Below.refl _ _).alloc (Nat.le_refl _) _
 have a1 : Hid (Bw w w1) := a7;have a2 : Hid (∀ W, Bw w W → aA2 W B ([(⟨9, 1, (.slice oC n1 pC), n1, (mkT k0 s.cs n1).map Value.string⟩ : Rw), (⟨155, 2, (.slice oP n2 pP), n2, aA1 (aE2 (k0 + n1) s.ws n2)⟩ : Rw)] ++ aC5 (.slice oK n3 pK) (mkKs K1 kv) ++ [(⟨62, 4, (.slice oB n4 pB), n4, aA5 (aL3 K2 s.bl n4)⟩ : Rw)])) := fun W h => HR.out.below h
 have a8 : Hid (∀ W, Below w1.heap.size w1 W → W.heap[q]? = some (.cells #[(.slice oC n1 pC), (.slice oP n2 pP), (.slice oK n3 pK), (.slice oB n4 pB), .int .i64 s.nx, .int .i64 s.sq] 43)) := fun W h => aA3 a3.out h
 clear a0 a7 hq;have c0 : w1.cell? ⟨q, 0, none⟩ = some (.slice oC n1 pC) := (aB0 a3.out 0).trans rfl;have c1 : w1.cell? ⟨q, 1, none⟩ = some (.slice oP n2 pP) := (aB0 a3.out 1).trans rfl;go_wp2_with fail
 refine (bS2 n1 (mkT k0 s.cs n1) n2 (aE2 (k0 + n1) s.ws n2) (.slice oC n1 pC) (.slice oP n2 pP) B _ ⟨(a2.out _ a1.out).own (⟨9, 1, (.slice oC n1 pC), n1, (mkT k0 s.cs n1).map Value.string⟩ : Rw) (by simp), (a2.out _ a1.out).own (⟨155, 2, (.slice oP n2 pP), n2, aA1 (aE2 (k0 + n1) s.ws n2)⟩ : Rw) (by simp)⟩ k0 hk0 b0 (fun j hj => cI9 k0 s.cs j (by rw [a9.out]; exact hj) n1 hj) (fun j hj => by rw [cD4 (k0 + n1) s.ws j n2 (by rw [b3.out]; exact Nat.le_refl _) hj]; exact ⟨rfl, rfl⟩)).mono ?_
 rintro e w2 ⟨rfl, bw⟩;have a4 : Hid (Below w1.heap.size w1 w2) := bw;have a5 : Hid (Bw w w2) := a1.out.trans (bw.mono a1.out.size);clear bw c0 c1;rw [E1.out];have c2 : w2.cell? ⟨q, 2, none⟩ = some (.slice oK n3 pK) := (aB0 (a8.out _ a4.out) 2).trans rfl;go_wp2_with fail
 refine (bO5 (.slice oK n3 pK) kv B _ K1 (aA2.sub (a2.out _ a5.out) ((List.sublist_append_right _ _).trans (List.sublist_append_left _ _))) b1.1 b1.2 (by rw [b4.out]; exact hn3)).mono ?_;rintro e w3 ⟨rfl, bw⟩;have b6 : Hid (Below w1.heap.size w1 w3) := a4.out.trans (bw.mono a4.out.size);have a6 : Hid (Bw w w3) := a5.out.trans (bw.mono a5.out.size);clear bw c2;rw [E2.out];have c3 : w3.cell? ⟨q, 3, none⟩ = some (.slice oB n4 pB) := (aB0 (a8.out _ b6.out) 3).trans rfl;go_wp2_with fail
 refine (bS9 oB n4 pB B (aL3 K2 s.bl n4) _ ((a2.out _ a6.out).own (⟨62, 4, (.slice oB n4 pB), n4, aA5 (aL3 K2 s.bl n4)⟩ : Rw) (by simp)) K2 b2.1 b2.2 (fun j hj => by rw [cN0 K2 s.bl j n4 (by rw [b5.out]; exact Nat.le_refl _) hj]; exact ⟨rfl, rfl, rfl, rfl⟩)).mono ?_
 rintro e w4 ⟨rfl, bw⟩;have b7 : Hid (Bw w w4) := a6.out.trans (bw.mono a6.out.size);clear bw c3;rw [E3.out];go_wp2_with fail
 go_ret;exact ⟨rfl, b7.out⟩
structure cE6 (s : ShD) : Prop where
 c : s.cs.length ≤ 2000000
 w : s.ws.length ≤ 2000000
 k : s.ks.length ≤ 2000000
 b : s.bl.length ≤ 2000000
 ks : ∀ k ∈ s.ks, k.xs.length ≤ 2000000 ∧ k.ys.length ≤ 2000000 ∧ k.fs.length ≤ 2000000
 m : ∀ kv : Ks, kv.map (·.1) = s.ks → 1 + s.cs.length + 2 * s.ws.length + wms kv + 4 * s.bl.length ≤ 99999998
theorem cE6.kl {s : ShD} (h : cE6 s) (kv : Ks) (hk : kv.map (·.1) = s.ks) : kv.length ≤ 2000000 := by
 have := h.k;rw [← hk, List.length_map] at this;exact this
def NoT (R : List Rw) : Prop := ∀ T : TypeId, T ≠ 9 → T ≠ 155 → T ≠ 82 → T ≠ 62 → T ≠ 184 → ∀ r ∈ R, T ≠ r.T
theorem aF2 {W : World} {b : Nat} {R : List Rw} {v1 v2 V VB : Value} {kv : Ks} {s : ShD} (hR : R = aB2 v1 v2 V VB kv s.cs s.ws s.bl) (h : aA2 W b R) (hk : kv.map (·.1) = s.ks) : aD1 W b v1 v2 V VB kv s := ⟨by rw [← hR]; exact h, hk⟩
theorem bT2 (T : TypeId) (h1 : T ≠ 9) (h2 : T ≠ 155) (h3 : T ≠ 82) (h4 : T ≠ 62) (h5 : T ≠ 184) {a b c : Rw} {V : Value} {kv : Ks} (ha : a.T = 9) (hb : b.T = 155) (hc : c.T = 62) : ∀ r ∈ [a, b] ++ aC5 V kv ++ [c], T ≠ r.T := by
 intro r hr;rcases List.mem_append.1 hr with hr | hr
 ·rcases List.mem_append.1 hr with hr | hr
  ·simp only [List.mem_cons, List.not_mem_nil, or_false] at hr
   rcases hr with rfl | rfl
   ·rw [ha]; exact h1
   rw [hb]; exact h2
  rcases bB1 hr with e | e | e <;> rw [e] <;> assumption
 rw [List.mem_singleton.1 hr, hc]; exact h4
theorem aG6 (T : TypeId) (h1 : T ≠ 9) (h2 : T ≠ 155) (h3 : T ≠ 82) (h4 : T ≠ 62) (h5 : T ≠ 184) {v1 v2 V VB : Value} {kv : Ks} {cs : Ts} {ws : List (Int × ByteArray)} {bl : Bs} : ∀ r ∈ aB2 v1 v2 V VB kv cs ws bl, T ≠ r.T := bT2 T h1 h2 h3 h4 h5 rfl rfl rfl
theorem cQ4 (T : TypeId) (h1 : T ≠ 9) (h2 : T ≠ 155) (h3 : T ≠ 82) (h4 : T ≠ 62) (h5 : T ≠ 184) {v1 v2 V VB : Value} {n1 n2 n4 : Nat} {c1 c2 c4 : List Value} {kv : Ks} : ∀ r ∈ [(⟨9, 1, v1, n1, c1⟩ : Rw), ⟨155, 2, v2, n2, c2⟩] ++ aC5 V kv ++ [⟨62, 4, VB, n4, c4⟩], T ≠ r.T := bT2 T h1 h2 h3 h4 h5 rfl rfl rfl
theorem cP0 : ∀ l : List KpD, l.length ≤ wtK l
 | [] => Nat.le_refl _
 | x :: l => by rw [wtK, List.length_cons]; have := cP0 l; omega
theorem cB4 : ∀ kv : Ks, wms kv ≤ 6 * wtK (kv.map (·.1))
 | [] => Nat.le_refl _
 | x :: l => by
  rw [wms, List.map_cons, wtK]
  have := cB4 l
  unfold wm1
  omega
def kvAt (kv : Ks) (i : Nat) : KpD × Value × Value × Value := kv.getD i (cQ1, .slice none 0 0, .slice none 0 0, .slice none 0 0)
theorem aT7 (kv : Ks) (i : Nat) (h : i < kv.length) : kv[i]'h = kvAt kv i := by
 unfold kvAt;rw [List.getD_eq_getElem?_getD, List.getElem?_eq_getElem h];rfl
theorem aQ1 (kv : Ks) (i : Nat) (h : i < kv.length) : kvAt kv i ∈ kv := by rw [← aT7 kv i h]; exact List.getElem_mem h
theorem aM6 (kv : Ks) (i : Nat) (h : i < kv.length) : kv.take (i + 1) = kv.take i ++ [kvAt kv i] := by rw [← aT7 kv i h, List.take_succ_eq_append_getElem h]
theorem aK6 (kv : Ks) (i : Nat) (h : i < kv.length) : (kvAt kv i).1 = kpAt (kv.map (·.1)) i := by
 rw [← aT7 kv i h, ← aT4 _ i (by rw [List.length_map]; exact h)];simp
def aR7 (w : World) (k : KpD) (v1 v2 v3 : Value) : Prop := ∃ B, aA2 w B (kpR (k, v1, v2, v3))
theorem aR7.below {w w' : World} {k : KpD} {v1 v2 v3 : Value} (h : aR7 w k v1 v2 v3) (hb : Below w.heap.size w w') : aR7 w' k v1 v2 v3 := by
 obtain ⟨B, h⟩ := h;exact ⟨B, h.below hb⟩
theorem aB8.read {w : World} {base : Nat} {V : Value} {kv : Ks} (h : aB8 w base V kv) {k : KpD} {v1 v2 v3 : Value} (hx : (k, v1, v2, v3) ∈ kv) : aR7 w k v1 v2 v3 := ⟨base, h.obj hx⟩
theorem aB8.look {w : World} {base : Nat} {V : Value} {kv : Ks} (h : aB8 w base V kv) (i : Nat) (hi : i < kv.length) : ∃ g cap, V = .slice (some ⟨g, 0, none⟩) kv.length cap ∧ g < w.heap.size ∧ KpAt w g i (kvAt kv i) := by
 rw [← aT7 kv i hi];exact h.at i hi
theorem aZ1 {k : KpD} (h : aF9 k) (x : Tx) : (getV k.fs x).size ≤ 1048576 := by
 unfold getV;split
 ·rename_i hx
  have := bN5 k.fs k.fs.length (atF k.fs x) hx;have := h.2.2.2.2;omega
 decide
theorem bB2 {k : KpD} (h : aF9 k) : aT2 k.fs := fun i hi => by
 have := bN5 k.fs k.fs.length i hi
 have := h.2.2.2.2
 omega
theorem aW4 {k : KpD} (h : aF9 k) : aP6 k.fs.length k.fs := fun i hi => by
 have := bN5 k.fs k.fs.length i hi
 have := h.2.2.2.2
 unfold maxLen
 omega
theorem aJ4 {xs : Ts} (h : ∀ i, i < xs.length → (aA8 xs i).size ≤ 1048576) : ∀ i, i < xs.length → (aA8 xs i).size ≤ maxLen := fun i hi => Nat.le_trans (h i hi) (by decide)
theorem bG8 (k : KpD) (v1 v2 v3 : Value) (w : World) (h : aR7 w k v1 v2 v3) (hs : aF9 k) :
  Calls prog 34 #[.agg #[.string k.p, v1, v2, .int .i64 k.st, v3, .string k.b, .int .i64 k.t]] w fun e w' => aA4 (ObjK k) w e w' := by
 obtain ⟨B, h⟩ := h;have ho : ObjO w B v1 k.xs.length k.xs v2 k.ys.length k.ys v3 k.fs.length k.fs := aH3 h;obtain ⟨o1, c1, rfl⟩ := aA0 ho.names;obtain ⟨o2, c2, rfl⟩ := aA0 ho.vals;exact aY8 k.p o1 _ c1 k.xs o2 _ c2 k.ys k.st v3 _ B k.fs k.b k.t w (aF1 ho.names) (aF1 ho.vals) (aB3.of_owns ho.flds) (by have := hs.2.1.1; omega) (by have := hs.2.2.1.1; omega) (by have := hs.2.2.2.1; omega) (aJ4 hs.2.1.2) (aJ4 hs.2.2.1.2) (aW4 hs) (by have := hs.1.1; unfold maxLen; omega) (by have := hs.1.2; unfold maxLen; omega) (aZ1 hs _)
theorem bO6 (oa : Oa) (n cap : Nat) (l : Bs) (k : KpD) (v1 v2 v3 : Value) (w : World) (hl : BanA w oa n l) (hn : n ≤ 2000000) (hlz : ∀ x ∈ l, x.2.1.size ≤ maxLen ∧ x.2.2.1.size ≤ maxLen) (h : aR7 w k v1 v2 v3) (hs : aF9 k) :
  Calls prog 35 #[.slice oa n cap, .agg #[.string k.p, v1, v2, .int .i64 k.st, v3, .string k.b, .int .i64 k.t]] w fun e w' => aA4 (AnyK l k) w e w' := by
 obtain ⟨B, h⟩ := h;have ho : ObjO w B v1 k.xs.length k.xs v2 k.ys.length k.ys v3 k.fs.length k.fs := aH3 h;obtain ⟨o1, c1, rfl⟩ := aA0 ho.names;obtain ⟨o2, c2, rfl⟩ := aA0 ho.vals;exact bG5 oa n cap l k.p o1 _ c1 k.xs o2 _ c2 k.ys k.st v3 _ B k.fs k.b k.t w hl hn hlz (aF1 ho.names) (aF1 ho.vals) (aB3.of_owns ho.flds) (by have := hs.2.1.1; omega) (by have := hs.2.2.1.1; omega) (by have := hs.2.2.2.1; omega) (aJ4 hs.2.1.2) (aJ4 hs.2.2.1.2) (aW4 hs) (by have := hs.1.1; unfold maxLen; omega) (by have := hs.1.2; unfold maxLen; omega) (aZ1 hs _)
def aD2 (l : Ts) : Array Value := (l.map Value.string).toArray
def aM7 : Ts := List.replicate 20 ⟨#[]⟩
def aL4 (l : Ts) (x : Int) (t : Tx) : Ts := if 0 ≤ x ∧ x < 20 then l.set x.toNat t else l
def cT0 (l : Ts) (w : World) (e : Ending) (w' : World) : Prop := e = .returned (.agg (aD2 l)) ∧ Below w.heap.size w w'
theorem aF6 (l : Ts) : (aD2 l).size = l.length := by simp [aD2]
theorem bG9 (l : Ts) (i : Nat) (h : i < l.length) : (aD2 l)[i]? = some (.string (aA8 l i)) := by
 unfold aD2;rw [List.getElem?_toArray, List.getElem?_map, aQ6 l i h];rfl
theorem cE7 (l : Ts) (i : Nat) (t : Tx) : (aD2 l).setIfInBounds i (.string t) = aD2 (l.set i t) := by
 unfold aD2;rw [List.setIfInBounds_toArray, List.map_set]
theorem aV6 : aM7.length = 20 := rfl
theorem bH0 : aD2 aM7 = #[.string ⟨#[]⟩, .string ⟨#[]⟩, .string ⟨#[]⟩, .string ⟨#[]⟩, .string ⟨#[]⟩, .string ⟨#[]⟩, .string ⟨#[]⟩, .string ⟨#[]⟩, .string ⟨#[]⟩, .string ⟨#[]⟩, .string ⟨#[]⟩, .string ⟨#[]⟩, .string ⟨#[]⟩, .string ⟨#[]⟩, .string ⟨#[]⟩, .string ⟨#[]⟩, .string ⟨#[]⟩, .string ⟨#[]⟩, .string ⟨#[]⟩, .string ⟨#[]⟩] := rfl
theorem bH1 (l : Ts) (x : Int) (t : Tx) : (aL4 l x t).length = l.length := by
 unfold aL4;split
 ·exact List.length_set
 rfl
theorem aZ2 {l : Ts} (h : l.length = 20) : (prog.info? 206).map (·.size) = some (aD2 l).size := by
 rw [aF6, h];kernel_rfl
theorem aR8 (l : Ts) : (aD2 l).all (·.oneCell') = true := by
 unfold aD2;rw [List.all_toArray, List.all_eq_true];intro v hv;obtain ⟨a, _, rfl⟩ := List.mem_map.1 hv;rfl
theorem aM8 {B : Nat} {a w : World} (h : Below B a w) (g : Nat) (cs : Array Value) (hg : B ≤ g) : Below B a (w.setRow g cs) :=
 h.trans ⟨rfl, rfl, rfl, by simp, fun k hk => setRow_other w g k cs (by omega)⟩
theorem new1 {w : World} {A B C : Obj} : (((w.alloc A).alloc B).alloc C).heap[w.heap.size]? = some A := aI8 (aI8 (heap_alloc_new w A) B) C
theorem new2 {w : World} {A B C : Obj} : (((w.alloc A).alloc B).alloc C).heap[w.heap.size + 1]? = some B := aI8 (heap_alloc2_new w A B) C
theorem new3 {w : World} {A B C : Obj} : (((w.alloc A).alloc B).alloc C).heap[w.heap.size + 1 + 1]? = some C := by
 have h := heap_alloc_new ((w.alloc A).alloc B) C;have e : ((w.alloc A).alloc B).heap.size = w.heap.size + 1 + 1 := by simp
 rwa [e] at h
theorem cJ7 {w : World} {A B C : Obj} : Below w.heap.size w (((w.alloc A).alloc B).alloc C) :=
 (((Below.refl _ _).alloc (Nat.le_refl _) _).alloc (by simp) _).alloc (by simp; omega) _
theorem bO7 (l : Ts) (hl : l.length = 20) (x : Int) (t : Tx) (w : World) :
  Calls prog 212 #[.agg (aD2 l), .agg #[.int .i64 x, .string t]] w fun e w' => cT0 (aL4 l x t) w e w' := by
 have HL := hid hl;have a0 : Hid ((aL4 l x t).length = 20) := (bH1 l x t).trans hl;clear hl;go_enter func212, ntmps212;go_upto_region 1 with fail
 obtain ⟨w3, a1⟩ := exq (((w.alloc (.cells (aD2 l) 206)).alloc (.cells #[.int .i64 x, .string t] 155)).alloc (.cells #[.string ⟨#[]⟩, .string ⟨#[]⟩, .string ⟨#[]⟩, .string ⟨#[]⟩, .string ⟨#[]⟩, .string ⟨#[]⟩, .string ⟨#[]⟩, .string ⟨#[]⟩, .string ⟨#[]⟩, .string ⟨#[]⟩, .string ⟨#[]⟩, .string ⟨#[]⟩, .string ⟨#[]⟩, .string ⟨#[]⟩, .string ⟨#[]⟩, .string ⟨#[]⟩, .string ⟨#[]⟩, .string ⟨#[]⟩, .string ⟨#[]⟩, .string ⟨#[]⟩] 206));rw [← a1];have a3 : Hid (Bw w w3) := by rw [a1]; exact cJ7
 have hA : w3.heap[w.heap.size]? = some (.cells (aD2 l) 206) := by rw [a1]; exact new1
 have hB : w3.heap[w.heap.size + 1]? = some (.cells #[.int .i64 x, .string t] 155) := by rw [a1]; exact new2
 have hC : w3.heap[w.heap.size + 1 + 1]? = some (.cells (aD2 aM7) 206) := by rw [a1]; exact new3
 obtain ⟨q, hq⟩ := exq (w.heap.size);have HQ : Hid (w.heap.size ≤ q) := by rw [hq]; exact Nat.le_refl _
 rw [← hq] at hA hB hC;rw [← hq];have HA := hid hA;have HC := hid hC;have c0 := (aB0 hB 0);have c1 := (aB0 hB 1);simp only [List.getElem?_toArray, List.getElem?_cons_zero, List.getElem?_cons_succ] at c0 c1
 clear a1 hA hB hC hq;by_cases h0 : 0 ≤ x
 rotate_left
 ·have HE : Hid (aL4 l x t = l) := by unfold aL4; rw [Hid, if_neg (fun h => h0 h.1)]
  go_upto_region 3 with fail
  clear c0 c1 h0;rw [← HE.out] at HA;go_wp2_with (first | refine wpList_load_row rfl 206 _ rfl q rfl 206 _ (0, 0) _ HA.out underlying206 rfl (aZ2 a0.out) ?_ | refine wpList_store_row rfl 206 _ _ rfl (q + 1 + 1) _ rfl rfl 206 _ HC.out (aZ2 a0.out) (by rw [aF6, aF6, a0.out, aV6]) (aR8 _) ?_)
  exact bodyPost_ret (v := .agg (aD2 (aL4 l x t))) (results_cell_row results212 _ _ (q + 1 + 1) 206 _ (0, 0) _ rfl (setRow_heap _ _ _ _ _ _ HC.out) underlying206 rfl (aZ2 a0.out)) rfl ⟨rfl, aM8 a3.out _ _ (Nat.le_trans HQ.out (by omega))⟩
 by_cases h1 : x < 20
 rotate_left
 ·have HE : Hid (aL4 l x t = l) := by unfold aL4; rw [Hid, if_neg (fun h => h1 h.2)]
  go_upto_region 3 with fail
  clear c0 c1 h0 h1;rw [← HE.out] at HA;go_wp2_with (first | refine wpList_load_row rfl 206 _ rfl q rfl 206 _ (0, 0) _ HA.out underlying206 rfl (aZ2 a0.out) ?_ | refine wpList_store_row rfl 206 _ _ rfl (q + 1 + 1) _ rfl rfl 206 _ HC.out (aZ2 a0.out) (by rw [aF6, aF6, a0.out, aV6]) (aR8 _) ?_)
  exact bodyPost_ret (v := .agg (aD2 (aL4 l x t))) (results_cell_row results212 _ _ (q + 1 + 1) 206 _ (0, 0) _ rfl (setRow_heap _ _ _ _ _ _ HC.out) underlying206 rfl (aZ2 a0.out)) rfl ⟨rfl, aM8 a3.out _ _ (Nat.le_trans HQ.out (by omega))⟩
 have HE : Hid (aL4 l x t = l.set x.toNat t) := by unfold aL4; rw [Hid, if_pos ⟨h0, h1⟩]
 have c2 : w3.cell? ⟨q, x.toNat, none⟩ = some (.string (aA8 l x.toNat)) := (aB0 HA.out _).trans (bG9 l _ (by rw [HL.out]; omega));have c3 := aC9 HA.out x.toNat;go_upto_region 3 with fail
 obtain ⟨w4, a2⟩ := exq (w3.setCell ⟨q, x.toNat, none⟩ (.string t));rw [← a2]
 have a5 : Hid (w4.heap[q]? = some (.cells (aD2 (aL4 l x t)) 206)) := by
  rw [Hid, a2, HE.out, ← cE7]
  exact heap_setCell_same w3 q _ _ 206 _ HA.out
 have a4 : Hid (w4.heap[q + 1 + 1]? = some (.cells (aD2 aM7) 206)) := by
  rw [Hid, a2, heap_setCell_other w3 _ _ _ (by simp; omega)]
  exact HC.out
 have a6 : Hid (Bw w w4) := by rw [a2]; exact a3.out.setCell HQ.out _
 clear a2 HA HC a3 c0 c1 c2 c3 h0 h1;go_wp2_with (first | refine wpList_load_row rfl 206 _ rfl q rfl 206 _ (0, 0) _ a5.out underlying206 rfl (aZ2 a0.out) ?_ | refine wpList_store_row rfl 206 _ _ rfl (q + 1 + 1) _ rfl rfl 206 _ a4.out (aZ2 a0.out) (by rw [aF6, aF6, a0.out, aV6]) (aR8 _) ?_)
 exact bodyPost_ret (v := .agg (aD2 (aL4 l x t))) (results_cell_row results212 _ _ (q + 1 + 1) 206 _ (0, 0) _ rfl (setRow_heap _ _ _ _ _ _ a4.out) underlying206 rfl (aZ2 a0.out)) rfl ⟨rfl, aM8 a6.out _ _ (Nat.le_trans HQ.out (by omega))⟩
theorem bY1 (l : Ts) (hl : l.length = 20) (o : Oa) (n c : Nat) (ws : List (Int × ByteArray)) (w : World) (h : aO7 w o n ws) (hn : n ≤ 2000000) (hok : ∀ x ∈ ws, 0 ≤ x.1 ∧ x.1 ≤ 19) :
  Calls prog 183 #[.agg (aD2 l), .slice o n c] w fun e w' => cT0 (aD8 l ws (fun _ => true) ws.length) w e w' := by
 have HL := hid hl;have HW := hid h;have a8 := hid hok;have a0 : Hid (∀ k, (aD8 l ws (fun _ => true) k).length = 20) := fun k => (aJ3 l ws _ k).trans hl
 clear hl h hok;go_enter func183, ntmps183;go_upto_region 1 with fail
 obtain ⟨w2, a1⟩ := exq ((w.alloc (.cells (aD2 l) 206)).alloc (.cells #[.string ⟨#[]⟩, .string ⟨#[]⟩, .string ⟨#[]⟩, .string ⟨#[]⟩, .string ⟨#[]⟩, .string ⟨#[]⟩, .string ⟨#[]⟩, .string ⟨#[]⟩, .string ⟨#[]⟩, .string ⟨#[]⟩, .string ⟨#[]⟩, .string ⟨#[]⟩, .string ⟨#[]⟩, .string ⟨#[]⟩, .string ⟨#[]⟩, .string ⟨#[]⟩, .string ⟨#[]⟩, .string ⟨#[]⟩, .string ⟨#[]⟩, .string ⟨#[]⟩] 206));rw [← a1];have a3 : Bw w w2 := by rw [a1]; exact ((Below.refl _ _).alloc (Nat.le_refl _) _).alloc (by simp) _
 have hA : w2.heap[w.heap.size]? = some (.cells (aD2 l) 206) := by rw [a1]; exact aI8 (heap_alloc_new _ _) _
 have hC : w2.heap[w.heap.size + 1]? = some (.cells (aD2 aM7) 206) := by rw [a1]; exact heap_alloc2_new _ _ _
 obtain ⟨q, hq⟩ := exq (w.heap.size);have HQ : Hid (w.heap.size = q) := hq.symm;rw [← hq] at hA hC;rw [← hq];have H0 : Hid (Bw w w2 ∧ w2.heap[q]? = some (.cells (aD2 l) 206) ∧ w2.heap[q + 1]? = some (.cells (aD2 aM7) 206)) := ⟨a3, hA, hC⟩;clear a1 a3 hA hC hq;go_wp2_with fail
 go_loopw [9] (fun i wr => ∃ j : Nat, j ≤ n ∧ i = .int .i64 (j : Int) ∧ Hid (Bw w wr ∧ wr.heap[q]? = some (.cells (aD2 (aD8 l ws (fun _ => true) j)) 206) ∧ wr.heap[q + 1]? = some (.cells (aD2 aM7) 206))) (fun i _ => n - (intOf i).toNat)
 case atStart => exact ⟨0, Nat.zero_le _, rfl, H0⟩
 case round =>
  obtain ⟨j, hj, rfl, H1⟩ := hrel;clear H0;by_cases hlt : (j : Int) < (n : Int)
  rotate_left
  ·obtain rfl : j = n := by omega
   have a2 : Hid (ws.length = j) := HW.out.1;go_upto_region 6 with fail
   go_wp2_with (first | refine wpList_load_row rfl 206 _ rfl q rfl 206 _ (0, 0) _ H1.out.2.1 underlying206 rfl (aZ2 (a0.out j)) ?_ | refine wpList_store_row rfl 206 _ _ rfl (q + 1) _ rfl rfl 206 _ H1.out.2.2 (aZ2 (a0.out j)) (by rw [aF6, aF6, (a0.out j), aV6]) (aR8 _) ?_)
   rw [a2.out];exact bodyPost_ret (v := .agg (aD2 (aD8 l ws (fun _ => true) j))) (results_cell_row results183 _ _ (q + 1) 206 _ (0, 0) _ rfl (setRow_heap _ _ _ _ _ _ H1.out.2.2) underlying206 rfl (aZ2 (a0.out j))) rfl ⟨rfl, aM8 H1.out.1 _ _ (Nat.le_trans (Nat.le_of_eq HQ.out) (by omega))⟩
  have a4 : j < ws.length := by rw [HW.out.1]; omega
  obtain ⟨g, rfl, hg, r0, r1⟩ := (HW.out.below (H1.out.1)).2 j (by omega);obtain ⟨y, hy⟩ := exq (aC2 ws j)
  have a2 : Hid (aD8 l ws (fun _ => true) (j + 1) = aL4 (aD8 l ws (fun _ => true) j) y.1 y.2) := by
   have hm := a8.out _ (aI0 ws j a4)
   rw [Hid, hy, aL4, if_pos ⟨hm.1, by omega⟩, aD8, if_pos rfl]
  rw [← hy] at r0 r1;obtain ⟨y0, y1⟩ := y;simp only at r0 r1
  clear hy a4;go_upto_region 4 with fail
  go_wp2_with (first | refine wpList_load_row rfl 206 _ rfl q rfl 206 _ (0, 0) _ (aI8 H1.out.2.1 _) underlying206 rfl (aZ2 (a0.out j)) ?_)
  refine (bO7 (aD8 l ws (fun _ => true) j) (a0.out j) y0 y1 _).mono ?_
  rintro e w4 ⟨rfl, bw⟩;have a5 := aA3 (aI8 H1.out.2.1 _) bw;have a9 : Hid (Bw w w4) := (H1.out.1.alloc H1.out.1.size _).trans (bw.mono (Nat.le_trans H1.out.1.size (by simp)));have b0 : Hid (w4.heap[q + 1]? = some (.cells (aD2 aM7) 206)) := aA3 (aI8 H1.out.2.2 _) bw;have a6 := hid a5;have a7 : Hid ((aL4 (aD8 l ws (fun _ => true) j) y0 y1).length = 20) := (bH1 _ _ _).trans (a0.out j)
  clear bw a5 H1 r0 r1;go_wp2_with (first | refine wpList_store_row rfl 206 _ _ rfl q _ rfl rfl 206 _ a6.out (aZ2 a7.out) (by rw [aF6, aF6, a7.out, (a0.out j)]) (aR8 _) ?_)
  have HE : Hid (Bw w (w4.setRow q (aD2 (aL4 (aD8 l ws (fun _ => true) j) y0 y1))) ∧ (w4.setRow q (aD2 (aL4 (aD8 l ws (fun _ => true) j) y0 y1))).heap[q]? = some (.cells (aD2 (aD8 l ws (fun _ => true) (j + 1))) 206) ∧ (w4.setRow q (aD2 (aL4 (aD8 l ws (fun _ => true) j) y0 y1))).heap[q + 1]? = some (.cells (aD2 aM7) 206)) := by
   refine ⟨aM8 a9.out _ _ (Nat.le_of_eq HQ.out), ?_, ?_⟩
   ·rw [a2.out]; exact setRow_heap _ _ _ _ _ _ a6.out
   ·rw [setRow_other _ _ _ _ (by omega)]; exact b0.out
  go_roundw
  case rel => exact ⟨j + 1, by omega, by go_num, HE⟩
  case measure => simp [intOf]; omega
def cT1 (ws : List (Int × ByteArray)) : Prop := ∀ x ∈ ws, 0 ≤ x.1 ∧ x.1 ≤ 19
theorem cT2 : prog.eqGuardType prog.depth 206 = false := by kernel_rfl
theorem cT3 (xs ys : Ts) (hx : xs.length = 20) (hy : ys.length = 20) (w : World) :
  (Op.equalIn 10000 206 (.agg (aD2 xs)) (.agg (aD2 ys))).run prog w = .ok ((List.range' 0 20 1).all (fun i => (aA8 xs i).toList == (aA8 ys i).toList)) w := by
 rw [show (10000 : Nat) = 9999 + 1 from rfl, Op.equalIn];simp only [Sem.run_bind, run_underlying underlying206, Result.andThen_ok, sizeOf9, Std.Legacy.Range.forIn_eq_forIn_range', Std.Legacy.Range.size, Nat.sub_zero, Nat.add_sub_cancel, Nat.div_one]
 have hl : ∀ i ∈ List.range' 0 20 1, i < 20 := fun i hi => by simpa using (List.mem_range'_1.1 hi).2
 generalize List.range' 0 20 1 = l at hl ⊢;induction l with
 | nil => simp
 | cons i l ih =>
  have hi : i < 20 := hl i (by simp)
  have px : ∀ zs : Ts, zs.length = 20 → (part 9 (aD2 zs) (i * 1)).run prog w = .ok (.string (aA8 zs i)) w := fun zs hz => by
   simp [part, isAgg9, bG9 zs i (by omega)]
  have pe : (Op.equalIn 9999 9 (.string (aA8 xs i)) (.string (aA8 ys i))).run prog w = .ok ((aA8 xs i).toList == (aA8 ys i).toList) w := run_equalIn_string w 9998 9 _ _ underlying9
  simp only [List.forIn_cons, Sem.run_bind, px xs hx, px ys hy, pe, Result.andThen_ok, List.all_cons]
  cases hb : ((aA8 xs i).toList == (aA8 ys i).toList)
  ·simp
  ·simp only [Bool.not_true, Bool.false_eq_true, if_false, Sem.run_pure, Result.andThen_ok, Bool.true_and]
   exact ih fun j hj => hl j (by simp [hj])
theorem neqA (xs ys : Ts) (hx : xs.length = 20) (hy : ys.length = 20) (w : World) :
  (binOp .neq 206 (.agg (aD2 xs)) (.agg (aD2 ys))).run prog w = .ok (.bool (!((List.range' 0 20 1).all (fun i => (aA8 xs i).toList == (aA8 ys i).toList)))) w := by
 rw [run_neq_struct, cT3 xs ys hx hy];rfl
theorem cT4 (x : Int) (h : 0 ≤ x ∧ x ≤ 19) (w : World) : (binOp .neq 206 (.agg (aD2 (aL4 aM7 x ⟨#[120]⟩))) (.agg #[.string ⟨#[]⟩, .string ⟨#[]⟩, .string ⟨#[]⟩, .string ⟨#[]⟩, .string ⟨#[]⟩, .string ⟨#[]⟩, .string ⟨#[]⟩, .string ⟨#[]⟩, .string ⟨#[]⟩, .string ⟨#[]⟩, .string ⟨#[]⟩, .string ⟨#[]⟩, .string ⟨#[]⟩, .string ⟨#[]⟩, .string ⟨#[]⟩, .string ⟨#[]⟩, .string ⟨#[]⟩, .string ⟨#[]⟩, .string ⟨#[]⟩, .string ⟨#[]⟩])).run prog w = .ok (.bool true) w := by
 have h1 := neqA (aL4 aM7 x ⟨#[120]⟩) aM7 (bH1 _ _ _) rfl w;rw [bH0] at h1;rw [h1]
 have h2 : aA8 (aL4 aM7 x ⟨#[120]⟩) x.toNat = ⟨#[120]⟩ := by
  unfold aL4
  rw [if_pos ⟨h.1, by omega⟩, bA9, if_pos ⟨rfl, by rw [aV6]; omega⟩]
 have h3 : aA8 aM7 x.toNat = ⟨#[]⟩ := by
  unfold aA8 aM7
  rw [List.getD_eq_getElem?_getD, List.getElem?_replicate, if_pos (by omega)]
  rfl
 have h4 : ((List.range' 0 20 1).all (fun i => (aA8 (aL4 aM7 x ⟨#[120]⟩) i).toList == (aA8 aM7 i).toList)) = false := by
  rw [List.all_eq_false]
  refine ⟨x.toNat, List.mem_range'_1.2 ⟨by omega, by omega⟩, ?_⟩
  rw [h2, h3, ← beq_toListBytes]
  decide
 rw [h4];rfl
theorem cQ5 (x : Int) (h : ¬ (0 ≤ x ∧ x ≤ 19)) (w : World) : (binOp .neq 206 (.agg (aD2 (aL4 aM7 x ⟨#[120]⟩))) (.agg #[.string ⟨#[]⟩, .string ⟨#[]⟩, .string ⟨#[]⟩, .string ⟨#[]⟩, .string ⟨#[]⟩, .string ⟨#[]⟩, .string ⟨#[]⟩, .string ⟨#[]⟩, .string ⟨#[]⟩, .string ⟨#[]⟩, .string ⟨#[]⟩, .string ⟨#[]⟩, .string ⟨#[]⟩, .string ⟨#[]⟩, .string ⟨#[]⟩, .string ⟨#[]⟩, .string ⟨#[]⟩, .string ⟨#[]⟩, .string ⟨#[]⟩, .string ⟨#[]⟩])).run prog w = .ok (.bool false) w := by
 have e : aL4 aM7 x ⟨#[120]⟩ = aM7 := by unfold aL4; rw [if_neg (fun h2 => h ⟨h2.1, by omega⟩)]
 have h1 := neqA aM7 aM7 rfl rfl w;rw [e];rw [bH0] at h1 ⊢;rw [h1]
 have h4 : ((List.range' 0 20 1).all (fun i => (aA8 aM7 i).toList == (aA8 aM7 i).toList)) = true := by
  rw [List.all_eq_true]
  exact fun i _ => by simp
 rw [h4];rfl
theorem bB3 (x : Int) (w : World) :
  Calls prog 187 #[.int .i64 x] w fun e w' => aA4 (0 ≤ x ∧ x ≤ 19) w e w' := by
 have a2 := cT2;by_cases h : 0 ≤ x ∧ x ≤ 19
 rotate_left
 ·have a1 := cQ5 x h;have HH := hid h;clear h;go_enter func187, ntmps187;go_wp2_with fail
  refine (bO7 aM7 rfl x ⟨#[120]⟩ _).mono ?_;rintro e w1 ⟨rfl, bw⟩;have a0 : Hid (Bw w w1) := bw;clear bw;go_wp2_with fail
  go_ret;exact aA4.no HH.out a0.out
 have a1 := cT4 x h;have HH := hid h;clear h;go_enter func187, ntmps187;go_wp2_with fail
 refine (bO7 aM7 rfl x ⟨#[120]⟩ _).mono ?_;rintro e w1 ⟨rfl, bw⟩;have a0 : Hid (Bw w w1) := bw;clear bw;go_wp2_with fail
 go_ret;exact ⟨true, rfl, ⟨fun _ => HH.out, fun _ => rfl⟩, a0.out⟩
theorem bJ6 (o : Oa) (n c : Nat) (ws : List (Int × ByteArray)) (w : World) (h : aO7 w o n ws) (hn : n ≤ 2000000) :
  Calls prog 136 #[.slice o n c] w fun e w' => aA4 (cT1 ws) w e w' := by
 have HW := hid h;clear h;go_enter func136, ntmps136;go_wp2_with fail
 go_loopw [7] (fun i wr => ∃ j : Nat, j ≤ n ∧ i = .int .i64 (j : Int) ∧ Hid (Bw w wr) ∧ Hid (∀ x ∈ ws.take j, 0 ≤ x.1 ∧ x.1 ≤ 19)) (fun i _ => n - (intOf i).toNat)
 case atStart => exact ⟨0, Nat.zero_le _, rfl, Below.refl _ _, fun x hx => by simp at hx⟩
 case round =>
  obtain ⟨j, hj, rfl, HB, HN⟩ := hrel;by_cases hlt : (j : Int) < (n : Int)
  rotate_left
  ·have a2 : Hid (cT1 ws) := fun x hx => HN.out x (by rw [List.take_of_length_le (by rw [HW.out.1]; omega)]; exact hx)
   clear HN;go_wp2_with fail
   go_ret;exact ⟨true, rfl, ⟨fun _ => a2.out, fun _ => rfl⟩, HB.out⟩
  have a0 : j < ws.length := by rw [HW.out.1]; omega
  obtain ⟨g, rfl, hg, r0, r1⟩ := (HW.out.below HB.out).2 j (by omega);obtain ⟨y, hy⟩ := exq (aC2 ws j);have HM : Hid (y ∈ ws) := by show _ ∈ _; rw [hy]; exact aI0 ws j a0
  have a3 : Hid (ws.take (j + 1) = ws.take j ++ [y]) := by show _ = _; rw [hy]; exact aP9 ws j a0
  rw [← hy] at r0 r1;obtain ⟨y0, y1⟩ := y;simp only at r0 r1
  clear hy a0;go_wp2_with fail
  refine (bB3 y0 _).mono ?_;rintro e w4 ⟨b, rfl, hb, bw⟩;have a1 : Hid (Bw w w4) := (HB.out.alloc HB.out.size _).trans (bw.mono (Nat.le_trans HB.out.size (by simp)));clear bw r0 r1;cases b with
  | true =>
   have HY : Hid (0 ≤ y0 ∧ y0 ≤ 19) := hb.1 rfl;clear hb;go_wp2_with fail
   go_roundw
   case rel =>
    refine ⟨j + 1, by omega, by go_num, a1, fun x hx => ?_⟩
    rw [a3.out] at hx;rcases List.mem_append.1 hx with hx | hx
    ·exact HN.out x hx
    rw [List.mem_singleton.1 hx]; exact HY.out
   case measure => simp [intOf]; omega
  | false =>
   have HY : Hid (¬ (0 ≤ y0 ∧ y0 ≤ 19)) := fun h => nomatch hb.2 h
   clear hb;go_wp2_with fail
   go_ret;exact aA4.no (fun h => HY.out (h _ HM.out)) a1.out
theorem aD4 (o : Oa) (n c : Nat) (xs : Ts) (w : World) (h : aC4 w o n xs) (hn : n ≤ 2000000) (hz : ∀ i, i < n → (aA8 xs i).size ≤ 1048576) :
  Calls prog 147 #[.slice o n c] w fun e w' => ∃ v, e = .returned v ∧ w'.ownsRow w.heap.size 9 1 v n (xs.map Value.string) ∧ Below w.heap.size w w' := by
 obtain ⟨i0, hi, a7, a8, a9⟩ := info_parts bQ7;obtain ⟨M, hM⟩ : ∃ M, M = madeCells (Value.string ⟨#[]⟩).cells (((n : Nat) : Int).toNat * i0.size) := ⟨_, rfl⟩
 have b5 : ∀ W : World, (Instr.makeSlice 22 (.int .i64 (n : Int)) (.int .i64 (n : Int))).run prog W = .ok (.slice (some ⟨W.heap.size, 0, none⟩) n n) (W.alloc (.cells M 9)) := fun W => by
  have h := run_make (P := prog) W 22 9 i0 (Value.string ⟨#[]⟩) underlying22 hi a7 .i64 .i64 (n : Int) (n : Int) (by omega) (by omega) (by rw [a9]; omega) (by omega)
  rw [← hM] at h
  simpa using h
 have b0 : M.size = n := by rw [hM, size_madeCells, a8]; simp
 have HA := hid h;have HZ := hid hz;have a3 : Hid (xs.length = n) := h.1;clear hM h hz;have HP : Hid (bF7 (w.alloc (.cells M 9)) w.heap.size n 0 xs) := ⟨M, heap_alloc_new w _, b0, fun i h => absurd h (by omega)⟩
 go_enter func147, ntmps147;go_wp2_with fail
 go_loopw [11] (fun i wr => ∃ k : Nat, k ≤ n ∧ i = .int .i64 (k : Int) ∧ Hid (bF7 wr w.heap.size n k xs) ∧ Hid (Bw w wr)) (fun i _ => n - (intOf i).toNat)
 case atStart => exact ⟨0, Nat.zero_le _, rfl, HP, (Below.refl _ _).alloc (Nat.le_refl _) _⟩
 case round =>
  obtain ⟨k, hk, rfl, a6, a0⟩ := hrel;by_cases hlt : k < n
  rotate_left
  ·obtain rfl : k = n := by omega
   go_wp2_with fail
   go_ret;exact ⟨_, rfl, (a6.out.row a3.out (Nat.le_refl _) (by unfold maxLen; omega)).owns, a0.out⟩
  have b1 : (k : Int) < (n : Int) := by omega
  obtain ⟨g, rfl, hg, r0⟩ := (HA.out.below a0.out).2 k hlt;obtain ⟨z, a1⟩ := exq (aA8 xs k);have b2 : Hid (z.size ≤ 281474976710656) := by rw [Hid, a1]; have := HZ.out k hlt; omega
  have b3 : Hid (aA8 xs k = z) := a1.symm;rw [← a1] at r0;clear a1;go_wp2_with fail
  refine (aH9 z _ b2.out).mono ?_;rintro e w1 ⟨rfl, bw⟩
  have a4 : bF7 w1 w.heap.size n k xs := by
   obtain ⟨a2, h1, h2, h3⟩ := a6.out
   exact ⟨a2, aA3 h1 bw, h2, h3⟩
  have b4 : Hid (Bw w w1) := a0.out.trans (bw.mono a0.out.size);have hput := a4.put hlt;rw [b3.out] at hput;have a5 := hid hput
  obtain ⟨u0, b6, f0⟩ : ∃ u, w1.cell? ⟨w.heap.size, k, none⟩ = some u ∧ w1.frozen? ⟨w.heap.size, k, none⟩ = false := by
   obtain ⟨a2, h1, h2, _⟩ := a4
   refine ⟨a2[k]'(by omega), ?_, by simp [World.frozen?, h1]⟩
   simp only [World.cell?, h1]
   simp [show k < a2.size by omega]
  clear bw a4 hput r0;go_wp2_with fail
  go_roundw
  case rel => exact ⟨k + 1, by omega, by go_num, a5, b4.out.setCell (Nat.le_refl _) _⟩
  case measure => simp [intOf]; omega
theorem aD5 (o : Oa) (n c : Nat) (ws : List (Int × ByteArray)) (w : World) (h : aO7 w o n ws) (hn : n ≤ 2000000) (hz : ∀ x ∈ ws, (x.2).size ≤ 1048576) :
  Calls prog 148 #[.slice o n c] w fun e w' => ∃ v, e = .returned v ∧ w'.ownsRow w.heap.size 155 2 v n (aA1 ws) ∧ Below w.heap.size w w' := by
 obtain ⟨i0, hi, b3, b4, b5⟩ := info_parts aV2;obtain ⟨M, hM⟩ : ∃ M, M = madeCells (Value.agg #[.int .i64 0, .string ⟨#[]⟩]).cells (((n : Nat) : Int).toNat * i0.size) := ⟨_, rfl⟩
 have c4 : ∀ W : World, (Instr.makeSlice 37 (.int .i64 (n : Int)) (.int .i64 (n : Int))).run prog W = .ok (.slice (some ⟨W.heap.size, 0, none⟩) n n) (W.alloc (.cells M 155)) := fun W => by
  have h := run_make (P := prog) W 37 155 i0 (Value.agg #[.int .i64 0, .string ⟨#[]⟩]) underlying37 hi b3 .i64 .i64 (n : Int) (n : Int) (by omega) (by omega) (by rw [b5]; omega) (by omega)
  rw [← hM] at h
  simpa using h
 have b6 : M.size = n * 2 := by rw [hM, size_madeCells, b4]; simp
 have HA := hid h;have HZ := hid hz;have a1 : Hid (ws.length = n) := h.1;clear hM h hz;have HP : Hid (aD7 (w.alloc (.cells M 155)) w.heap.size n 0 ws) := ⟨M, heap_alloc_new w _, b6, fun i h => absurd h (by omega)⟩
 go_enter func148, ntmps148;go_wp2_with fail
 go_loopw [11] (fun i wr => ∃ k : Nat, k ≤ n ∧ i = .int .i64 (k : Int) ∧ Hid (aD7 wr w.heap.size n k ws) ∧ Hid (Bw w wr)) (fun i _ => n - (intOf i).toNat)
 case atStart => exact ⟨0, Nat.zero_le _, rfl, HP, (Below.refl _ _).alloc (Nat.le_refl _) _⟩
 case round =>
  obtain ⟨k, hk, rfl, a2, a3⟩ := hrel;by_cases hlt : k < n
  rotate_left
  ·obtain rfl : k = n := by omega
   go_wp2_with fail
   go_ret;exact ⟨_, rfl, a2.out.owns a1.out (by unfold maxLen; omega) (Nat.le_refl _), a3.out⟩
  have b7 : (k : Int) < (n : Int) := by omega
  have a9 : k < ws.length := by rw [a1.out]; omega
  obtain ⟨g, rfl, hg, r0, r1⟩ := (HA.out.below a3.out).2 k hlt;obtain ⟨y, hy⟩ := exq (aC2 ws k);have b8 : Hid (y.2.size ≤ 281474976710656) := by rw [Hid, hy]; have := HZ.out _ (aI0 ws k a9); omega
  have HY : Hid (aC2 ws k = y) := hy.symm;rw [← hy] at r0 r1;obtain ⟨y0, y1⟩ := y;simp only at r0 r1
  clear hy a9;go_upto_region 5 with fail
  clear r0 r1;obtain ⟨q, hq⟩ := exq (wr.heap.size);obtain ⟨w1, a4⟩ := exq (wr.alloc (.cells #[.int .i64 y0, .string y1] 155));rw [← a4, ← hq];have a5 : Bw w w1 := by rw [a4]; exact a3.out.alloc a3.out.size _
  have hS : w1.heap[q]? = some (.cells #[.int .i64 y0, .string y1] 155) := by rw [a4, hq]; exact heap_alloc_new _ _
  have a6 : aD7 w1 w.heap.size n k ws := by rw [a4]; exact a2.out.below ((Below.refl _ _).alloc (Nat.le_refl _) _) a2.out.lt
  have HS := hid hS
  have HK : Hid (∀ W, Below w1.heap.size w1 W → (W.cell? ⟨q, 0, none⟩ = some (.int .i64 y0) ∧ W.cell? ⟨q, 1, none⟩ = some (.string y1)) ∧ aD7 W w.heap.size n k ws ∧ Bw w W) := fun W hW =>
   ⟨⟨(aB0 (aA3 hS hW) 0).trans rfl, (aB0 (aA3 hS hW) 1).trans rfl⟩, a6.below hW a6.lt, a5.trans (hW.mono a5.size)⟩
  have a7 : Hid (∀ (W : World) (a b : Value), (W.cell? ⟨q, 0, none⟩ = some (.int .i64 y0) ∧ W.cell? ⟨q, 1, none⟩ = some (.string y1)) → (((W.setCell ⟨w.heap.size, k * 2, none⟩ a).setCell ⟨w.heap.size, k * 2 + 1, none⟩ b).cell? ⟨q, 0, none⟩ = some (.int .i64 y0) ∧ ((W.setCell ⟨w.heap.size, k * 2, none⟩ a).setCell ⟨w.heap.size, k * 2 + 1, none⟩ b).cell? ⟨q, 1, none⟩ = some (.string y1))) := fun W a b h => by
   have b0 : q ≠ w.heap.size := by rw [hq]; exact Nat.ne_of_gt a2.out.lt
   have hh : ((W.setCell ⟨w.heap.size, k * 2, none⟩ a).setCell ⟨w.heap.size, k * 2 + 1, none⟩ b).heap[q]? = W.heap[q]? := (heap_setCell_other _ _ q _ b0).trans (heap_setCell_other _ _ q _ b0)
   exact ⟨(World.cell?_of_block hh).trans h.1, (World.cell?_of_block hh).trans h.2⟩
  clear hq a4 a5 hS a6 HS a2 a3;obtain ⟨c0, c1⟩ := (HK.out _ (Below.refl _ _)).1;go_region_held3 (fun W => W.cell? ⟨q, 0, none⟩ = some (.int .i64 y0) ∧ W.cell? ⟨q, 1, none⟩ = some (.string y1)) (first | assumption | exact a7.out _ _ _ ⟨e0, e1⟩ | go_keep) (first | (go_at_call 190; refine (aH9 y1 _ b8.out).mono ?_; rintro e u1 ⟨rfl, b1⟩; obtain ⟨⟨e0, e1⟩, a0, b2⟩ := HK.out u1 ((Below.refl _ _).drew.trans b1); obtain ⟨u2, b9⟩ := a0.cell (k * 2) (by omega); have f2 := a0.frozen (k * 2); obtain ⟨u3, c2⟩ := a0.cell (k * 2 + 1) (by omega); have f3 := a0.frozen (k * 2 + 1)))
  have hput := a0.put hlt;rw [HY.out] at hput;have a8 : Hid _ := hput;have c3 := hid b2;clear hput b2 a0 b1 e0 e1 c0 c1 b9 c2 f2 f3;go_wp2_with fail
  go_roundw
  case rel => exact ⟨k + 1, by omega, by go_num, a8, (c3.out.setCell (Nat.le_refl _) _).setCell (Nat.le_refl _) _⟩
  case measure => simp [intOf]; omega
theorem cN2 {w : World} {base n cap : Nat} {t : TypeId} {z : Nat} {oa : Oa} {l : List Value} (h : w.ownsRow base t z (.slice oa n cap) n l) : (oa = none ∧ cap = 0) ∨ ∃ g, oa = some ⟨g, 0, none⟩ := by
 rcases h.2 with ⟨e, _⟩ | ⟨g, a0, a1, e, _⟩
 ·cases e; exact .inl ⟨rfl, rfl⟩
 cases e; exact .inr ⟨g, rfl⟩
theorem cQ6 {w : World} {base n cap : Nat} {t : TypeId} {z : Nat} {oa : Oa} {l : List Value} (h : w.ownsRow base t z (.slice oa n cap) n l) : n ≤ cap := by
 rcases h.2 with ⟨e, h0⟩ | ⟨g, a0, a1, e, _, _, h3, _⟩
 ·cases e; exact Nat.le_refl _
 cases e; exact h3
theorem cJ8 {w : World} {base n cap : Nat} {t : TypeId} {z : Nat} {b : Addr} {l : List Value} (h : w.ownsRow base t z (.slice (some b) n cap) n l) (j : Nat) (u : Value) (hj : l[j]? = some u) : w.cell? (b.add j) = some u := by
 rcases h.2 with ⟨e, _⟩ | ⟨g, a0, a1, e, _, hg, _, _, _, ht⟩
 ·cases e
 cases e
 rw [Addr.add_lit, Nat.zero_add, cell_of_row w g j a1 t (0, 0) hg];rw [← ht, List.getElem?_take] at hj;split at hj
 ·simpa using hj
 cases hj
theorem bH2 {w : World} {base n cap : Nat} {oa : Oa} {l : Ts} (h : w.ownsRow base 9 1 (.slice oa n cap) n (l.map Value.string)) : aC4 w oa n l := by
 obtain ⟨a1, a0, e, h'⟩ := bF5 h;cases e
 exact h'
theorem bH3 (o : Oa) (n c m : Nat) (w : World) (ho : (o = none ∧ c = 0) ∨ ∃ g, o = some ⟨g, 0, none⟩) (hm : m ≤ c) :
  Calls prog 208 #[.slice o n c, .int .i64 (m : Int)] w fun e w' => e = .returned (.slice o m m) ∧ w' = w := by
 rcases ho with ⟨rfl, _⟩ | ⟨g, rfl⟩
 ·go_enter func208, ntmps208;go_wp2_with fail
  go_ret;exact ⟨rfl, rfl⟩
 go_enter func208, ntmps208;go_wp2_with fail
 go_ret;exact ⟨rfl, rfl⟩
theorem cE8 (l : Ts) (hl : l.length = 20) (hz : ∀ i, i < 20 → (aA8 l i).size ≤ 1048576) (w : World) :
  Calls prog 184 #[.agg (aD2 l)] w fun e w' => aU3 l [] w e w' := by
 have HL := hid hl;have HZ := hid hz;clear hl hz;go_enter func184, ntmps184;go_upto_region 1 with fail
 obtain ⟨w2, a1⟩ := exq ((w.alloc (.cells (aD2 l) 206)).alloc (.cells #[.slice none 0 0, .slice none 0 0] 39));rw [← a1];have a4 : Bw w w2 := by rw [a1]; exact ((Below.refl _ _).alloc (Nat.le_refl _) _).alloc (by simp) _
 have hA : w2.heap[w.heap.size]? = some (.cells (aD2 l) 206) := by rw [a1]; exact aI8 (heap_alloc_new _ _) _
 have hC : w2.heap[w.heap.size + 1]? = some (.cells #[.slice none 0 0, .slice none 0 0] 39) := by rw [a1]; exact heap_alloc2_new _ _ _
 obtain ⟨q, hq⟩ := exq (w.heap.size);have HQ : Hid (w.heap.size = q) := hq.symm;rw [← hq] at hA hC;rw [← hq];have HA := hid hA;have HC := hid hC;have a3 := hid a4;clear a1 a4 hA hC hq;go_wp2_with fail
 refine (aD4 (some ⟨q, 0, none⟩) 20 20 l _ ⟨HL.out, fun i hi => ⟨q, rfl, (blt HA.out), (aB0 HA.out i).trans (bG9 l i (by rw [HL.out]; exact hi))⟩⟩ (by omega) HZ.out).mono ?_
 rintro e w3 ⟨v, rfl, ho, bw⟩;have a0 := aA3 HC.out bw;have a5 := hid a0;have c0 := (aB0 a0 0).trans rfl;have c1 := (aB0 a0 1).trans rfl;have f0 := aC9 a0 0;have f1 := aC9 a0 1;obtain ⟨o, p, rfl⟩ := aA0 ho;have HO := hid ho;have a7 : Hid (Bw w w3) := a3.out.trans (bw.mono a3.out.size);have a8 : Hid (w.heap.size ≤ w2.heap.size) := a3.out.size;clear a0 bw ho;go_wp2_with fail
 obtain ⟨w5, a2⟩ := exq ((w3.setCell ⟨q + 1, 0, none⟩ (.slice o 20 p)).setCell ⟨q + 1, 1, none⟩ (.slice none 0 0));rw [← a2]
 have h5 : w5.heap[q + 1]? = some (.cells #[.slice o 20 p, .slice none 0 0] 39) := by
  rw [a2]
  exact heap_setCell_same _ _ _ _ _ _ (heap_setCell_same _ _ _ _ _ _ a5.out)
 refine bodyPost_ret (v := .agg #[.slice o 20 p, .slice none 0 0]) (results_cell_row results184 _ _ (q + 1) 39 _ (0, 0) _ rfl h5 underlying39 rfl (by kernel_rfl)) rfl ⟨_, _, rfl, ⟨?_, World.ownsRow_nil _ _ _ _⟩, ?_⟩
 ·rw [HL.out, a2]
  exact aA7 (aE0 HO.out a8.out) (fun g hg => by
   have a6 : g ≠ q + 1 := aA9 HO.out a5.out (by decide) g hg
   rw [heap_setCell_other _ _ g _ a6, heap_setCell_other _ _ g _ a6])
 rw [a2];exact (a7.out.setCell (by rw [HQ.out]; exact Nat.le_succ _) _).setCell (by rw [HQ.out]; exact Nat.le_succ _) _
end Go.Proofs.YtejoifianjgefaaGreatDoor
