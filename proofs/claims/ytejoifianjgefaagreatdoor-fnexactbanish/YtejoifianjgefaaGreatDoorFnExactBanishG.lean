/- What the proof of FnExactBanish leans on: contracts of the program's and the specification's functions, and plain facts (part 7 of 11). -/
import Derived.Test.YtejoifianjgefaaGreatDoorFnExactBanishF
set_option maxHeartbeats 16000000
set_option maxRecDepth 100000
namespace Go.Proofs.YtejoifianjgefaaGreatDoor
open Go.Proofs.Tryz
open Go.RowKit
open Go.Lib hiding intOf
def cK6 (bl : Bs) : Prop := bl.length ≤ 5 ∧ ∀ x ∈ bl, BanP x.1 x.2.1 x.2.2.1 x.2.2.2
def bK5 (ks : List KpD) (i : Nat) : Int := if i = 0 then 0 else (kpAt ks (i - 1)).q
theorem bL6 (ks : List KpD) (i : Nat) : bK5 ks (i + 1) = (kpAt ks i).q := by unfold bK5; rw [if_neg (by omega), Nat.add_sub_cancel]
def KpA (ks : List KpD) (sq : Int) (i : Nat) : Prop := ObjK (kpAt ks i) ∧ (5 ≤ (kpAt ks i).a ∧ (kpAt ks i).a ≤ 19) ∧ bK5 ks i < (kpAt ks i).q ∧ (kpAt ks i).q < sq
theorem cB8 {ks : List KpD} {sq : Int} {n : Nat} (h : ∀ m, m < n → KpA ks sq m) : ∀ i, i ≤ n → 0 ≤ bK5 ks i
 | 0, _ => by simp [bK5]
 | i + 1, hi => by
  have h1 := cB8 h i (by omega)
  have h2 := (h i (by omega)).2.2.1
  rw [bL6]
  omega
theorem cB9 {ks : List KpD} {sq : Int} {i : Nat} (h : KpOk ks sq i) : KpA ks sq i := by
 obtain ⟨h1, h2, h3, h4, _⟩ := h;refine ⟨h1, h2, ?_, by omega⟩;unfold bK5;split
 ·omega
 exact h4 (by omega)
theorem cU2 {ks : List KpD} {sq : Int} {n i : Nat} (h : ∀ m, m < n → KpA ks sq m) (hi : i < n) (ha : ∀ j, j < i → (kpAt ks j).a ≠ (kpAt ks i).a) : KpOk ks sq i := by
 obtain ⟨h1, h2, h3, h4⟩ := h i hi;have h5 := cB8 h i (by omega);refine ⟨h1, h2, by omega, fun h0 => ?_, ha⟩
 unfold bK5 at h3;rw [if_neg (by omega)] at h3;exact h3
theorem cC0 {kv : Ks} : aF8 kv ↔ ∀ i, i < kv.length → ∀ j, j < i → (kpAt (kv.map (·.1)) j).a ≠ (kpAt (kv.map (·.1)) i).a := by
 have e : ∀ i (hi : i < kv.length), kpAt (kv.map (·.1)) i = (kv[i]'hi).1 := fun i hi => by
  rw [← aT4 _ i (by rw [List.length_map]; exact hi)]
  simp
 unfold aF8;rw [List.pairwise_iff_getElem];constructor
 ·intro h i hi j hj;rw [e i hi, e j (by omega)];exact h j i (by omega) hi hj
 intro h i j hi hj a0;have h2 := h j hj i a0;rw [e j hj, e i hi] at h2;exact h2
theorem cF5 (V : Value) (kv : Ks) (sq : Int) (B : Nat) (w : World) (h : aB8 w B V kv) (hn : kv.length ≤ 1048576) (hs : ∀ x ∈ kv, aF9 x.1) :
  Calls prog 162 #[V, .int .i64 sq] w fun e w' => aA4 (∀ m, m < kv.length → KpOk (kv.map (·.1)) sq m) w e w' := by
 obtain ⟨o3, c3, e3⟩ := aA0 h.row;subst e3;obtain ⟨n3, c9⟩ := exq kv.length;rw [← c9] at h ⊢;obtain ⟨ks, f4⟩ := exq (kv.map (·.1));have a6 : Hid (kv.map (·.1) = ks) := f4.symm;have a2 : Hid (kv.length = n3) := c9.symm;have h7 : n3 ≤ 1048576 := by rw [c9]; exact hn
 have a7 : Hid (∀ W, Bw w W → aB8 W B (.slice o3 n3 c3) kv) := fun W hb => aB8.below h hb
 clear c9 f4 h hn;have h8 := hid hs;clear hs;have K0 := jnil w;go_enter func162, ntmps162;go_wp2_with fail
 go_loopw [5, 10] (fun l i wr => ∃ i' : Nat, i' ≤ n3 ∧ l = .int .i64 (bK5 ks i') ∧ i = .int .i64 (i' : Int) ∧ Hid (Bw w (wr)) ∧ Hid (∀ m, m < i' → KpA ks sq m)) (fun _ i _ => n3 - (intOf i).toNat)
 case atStart => exact ⟨0, Nat.zero_le _, rfl, rfl, K0.hb, fun m hm => absurd hm (by omega)⟩
 case round =>
  obtain ⟨i, hi, rfl, rfl, HW, HN⟩ := hrel;by_cases hlt : (i : Int) < (n3 : Int)
  rotate_left
  ·have a0 := HW.out;clear HW;have f5 : Hid (∀ m, m < n3 → KpA ks sq m) := fun m hm => HN.out m (by omega)
   have h9 : Hid (∀ x ∈ kv, 0 ≤ x.1.a ∧ x.1.a ≤ 1000) := fun x hx => by
    obtain ⟨j, hj, e⟩ := List.getElem_of_mem hx
    have h2 := (f5.out j (by rw [← a2.out]; exact hj)).2.1
    rw [← a6.out, ← aK6 kv j hj, ← aT7 kv j hj, e] at h2
    omega
   clear HN;go_wp2_with fail
   refine (bH5 _ kv B _ (a7.out _ a0) (by rw [a2.out]; exact h7) (fun x hx => h9.out x hx)).mono ?_
   rintro e w2 ⟨bM, nM, D, rfl, i7, f6, f7, i0, bw⟩;have a8 := hbt a0 bw;clear a0 bw;have a3 : Hid (aB9 w2 bM nM D) := f6;have f8 := hid f7;clear i0 f6 f7;have K2 := jz K0 a8 (jzn _);by_cases hc1 : (Maps.size (D) : Int) = (n3 : Int)
   rotate_left
   ·have d1 : (((Maps.size (D) : Int) : Int) == (n3 : Int)) = false := by simpa using hc1
    have d2 : (((Maps.size (D) : Int) : Int) != (n3 : Int)) = true := by simpa using hc1
    have d3 := hid hc1;have d4 := hid hc1;clear hc1;have b0 := a3.out;unfold aB9 at b0;go_wp2_with (first | (at_len; refine wpList_len_own _ rfl _ 141 rfl 3 82 underlying141 mpR bM nM (D) rfl b0 ?_) | go_in)
    go_ret;refine aA4.no (fun h => ?_) a8
    have hsz := d3.out;have ha : aF8 kv := cC0.2 (fun m hm => (h m (by rw [← a2.out]; exact hm)).2.2.2.2)
    have h2 := f8.out.eq.2 ha;rw [a2.out] at h2;omega
   have d1 : (((Maps.size (D) : Int) : Int) == (n3 : Int)) = true := by simpa using hc1
   have d2 : (((Maps.size (D) : Int) : Int) != (n3 : Int)) = false := by simpa using hc1
   have d3 := hid hc1;have d4 := hid hc1;clear hc1;have b0 := a3.out;unfold aB9 at b0;go_wp2_with (first | (at_len; refine wpList_len_own _ rfl _ 141 rfl 3 82 underlying141 mpR bM nM (D) rfl b0 ?_) | go_in)
   go_ret;refine aA4.yes (fun m hm => ?_) a8
   have ha : aF8 kv := f8.out.eq.1 (by have := d3.out; rw [a2.out]; omega);rw [cC0] at ha;rw [a6.out] at ha ⊢;exact cU2 (n := n3) f5.out hm (ha m (by rw [a2.out]; exact hm))
  have a0 := HW.out;clear HW;obtain ⟨g3, p3, hV, _, _⟩ := (a7.out _ a0).look i (by rw [a2.out]; omega);rw [a2.out] at hV;injection hV with hV1 hV2 hV3
  subst hV1 hV3;clear hV2;obtain ⟨xX, b1⟩ := exq (kvAt kv i);have b2 : Hid (xX ∈ kv) := by show _ ∈ _; rw [b1]; exact aQ1 kv i (by rw [a2.out]; omega)
  have a9 : Hid (kpAt ks i = xX.1) := by show _ = _; rw [b1, ← a6.out]; exact (aK6 kv i (by rw [a2.out]; omega)).symm
  have i1 : Hid (kv.take (i + 1) = kv.take i ++ [xX]) := by show _ = _; rw [b1]; exact aM6 kv i (by rw [a2.out]; omega)
  have a4 : Hid (∀ W, Bw w W → KpAt W g3 i xX) := fun W hb => by
   obtain ⟨g', p', hV, _, hc⟩ := (a7.out W hb).look i (by rw [a2.out]; omega)
   injection hV with hV1 _ _
   cases hV1
   rw [b1]
   exact hc
  clear b1;obtain ⟨x, d5, d6, d7⟩ := xX;obtain ⟨f9, g0, hu⟩ := aA0 ((a7.out _ a0).names b2.out);have b3 : d5 = .slice f9 x.xs.length g0 := hu;subst b3;clear hu;obtain ⟨g1, g2, hu⟩ := aA0 ((a7.out _ a0).vals b2.out);have b3 : d6 = .slice g1 x.ys.length g2 := hu;subst b3;clear hu;obtain ⟨g4, g5, hu⟩ := aA0 ((a7.out _ a0).flds b2.out);have b3 : d7 = .slice g4 x.fs.length g5 := hu;subst b3;clear hu;have g6 := (a4.out _ a0).c0;have g7 := (a4.out _ a0).c1;have g8 := (a4.out _ a0).c2;have g9 := (a4.out _ a0).c3;have h0 := (a4.out _ a0).c4;have h3 := (a4.out _ a0).c5;have h4 := (a4.out _ a0).c6;have h5 := (a4.out _ a0).c7;have h6 := (a4.out _ a0).c8;dsimp only at g6 g7 g8 g9 h0 h3 h4 h5 h6;go_upto_region 5 with fail
  obtain ⟨q1, d8⟩ := exq (wr.heap.size);obtain ⟨w2, b4⟩ := exq (wr.alloc (.cells #[.string x.p, .slice f9 x.xs.length g0, .slice g1 x.ys.length g2, .int .i64 x.st, .slice g4 x.fs.length g5, .string x.b, .int .i64 x.t, .int .i64 x.a, .int .i64 x.q] 82));have d9 := d8.symm;rw [← b4]; try rw [← d8];have i2 := hsa b4 d9;have bw := bal b4;have a8 := hbt a0 bw;have a1 := hnew b4 d9;clear a0 bw b4 d9;clear i2 d8;clear g6 g7 g8 g9 h0 h3 h4 h5 h6;have e0 := (k9c a1).1;have e1 := (k9c a1).2.1;have e2 := (k9c a1).2.2.1;have e4 := (k9c a1).2.2.2.1;have e5 := (k9c a1).2.2.2.2.1;have e6 := (k9c a1).2.2.2.2.2.1;have e7 := (k9c a1).2.2.2.2.2.2.1;have K2 := jz K0 a8 (jzn _);go_wp2_with fail
  refine (bY6 x _ _ _ _ ((a7.out _ a8).read b2.out) (h8.out _ b2.out)).mono ?_;rintro e w3 ⟨uo, rfl, d0, bw⟩;have K3 := jw K2 bw;have b5 := hblk a1 bw;clear a8 bw K2;clear e0 e1 e2 e4 e5 e6 e7;cases uo
  ·have e8 : Hid (¬ (ObjK x)) := fun h => nomatch d0.2 h
   clear d0;go_wp2_with fail
   go_ret;have i3 := K3.hb;exact aA4.no (fun h => by have hk := h i (by omega); rw [a6.out] at hk; have hA := cB9 hk; unfold KpA at hA; rw [a9.out] at hA; exact e8.out hA.1) i3
  have e9 : Hid (ObjK x) := d0.1 rfl;clear d0;have f0 := c9c b5.out;go_wp2_with fail
  refine (aU5 x.a _).mono ?_;rintro e w4 ⟨i4, rfl, a5, bw⟩;have K4 := jw K3 bw;have b6 := hblk b5 bw;clear bw K3;clear f0;cases i4
  ·have b7 : Hid (¬ (5 ≤ x.a ∧ x.a ≤ 19)) := fun h => nomatch a5.2 h
   clear a5;go_wp2_with fail
   go_ret;have b8 := K4.hb;exact aA4.no (fun h => by have hk := h i (by omega); rw [a6.out] at hk; have hA := cB9 hk; unfold KpA at hA; rw [a9.out] at hA; exact b7.out hA.2.1) b8
  have b9 : Hid (5 ≤ x.a ∧ x.a ≤ 19) := a5.1 rfl;clear a5;by_cases hc1 : x.q ≤ (bK5 ks i)
  ·have f1 := hid hc1;have f2 := c9c b6.out;go_wp2_with fail
   go_ret;have b8 := K4.hb;exact aA4.no (fun h => by have hk := h i (by omega); rw [a6.out] at hk; have hA := cB9 hk; unfold KpA at hA; rw [a9.out] at hA; have h2 := f1.out; omega) b8
  have f1 := hid hc1;have f2 := c9c b6.out;by_cases hc2 : sq ≤ x.q
  ·have f3 := hid hc2;go_wp2_with fail
   go_ret;have b8 := K4.hb;exact aA4.no (fun h => by have hk := h i (by omega); rw [a6.out] at hk; have hA := cB9 hk; unfold KpA at hA; rw [a9.out] at hA; have h2 := f3.out; omega) b8
  have f3 := hid hc2
  have i5 : Hid (∀ m, m < i + 1 → KpA ks sq m) := fun m hm => by
   by_cases e : m = i
   ·subst e
    unfold KpA
    rw [a9.out]
    have h1 := f1.out
    have h2 := f3.out
    exact ⟨e9.out, b9.out, by omega, by omega⟩
   ·exact HN.out m (by omega)
  have i6 : Hid (x.q = bK5 ks (i + 1)) := by show _ = _; rw [bL6, a9.out]
  go_wp2_with fail
  go_roundw
  case rel => exact ⟨i + 1, by omega, congrArg (Value.int .i64) i6.out, by go_num, K4.hb, i5⟩
  case measure => simp [intOf]; omega
theorem cF6 (VB : Value) (bl : Bs) (B : Nat) (w : World) (h : w.ownsRow B 62 4 VB bl.length (aA5 bl)) (hn : bl.length ≤ 1048576) (hz : ∀ x ∈ bl, x.2.1.size ≤ maxLen ∧ x.2.2.1.size ≤ maxLen) :
  Calls prog 163 #[VB] w fun e w' => aA4 (cK6 bl) w e w' := by
 obtain ⟨o4, c4, e4⟩ := aA0 h;subst e4;obtain ⟨n4, a4⟩ := exq bl.length;rw [← a4] at h ⊢;have a1 : Hid (bl.length = n4) := a4.symm;have c7 : n4 ≤ 1048576 := by rw [a4]; exact hn
 have b9 : Hid (∀ W, Bw w W → W.ownsRow B 62 4 (.slice o4 n4 c4) n4 (aA5 bl)) := fun W hb => aC0 h hb (fun g hg => aA6 h hg)
 have b6 := hid hz;clear a4 h hn hz;have K0 := jnil w;go_enter func163, ntmps163;go_wp2_with fail
 go_loopw [7] (fun i wr => ∃ j : Nat, j ≤ n4 ∧ i = .int .i64 (j : Int) ∧ Hid (Bw w (wr)) ∧ Hid (∀ x ∈ bl.take j, BanP x.1 x.2.1 x.2.2.1 x.2.2.2)) (fun i _ => n4 - (intOf i).toNat)
 case atStart => exact ⟨0, Nat.zero_le _, rfl, K0.hb, fun x hx => by simp at hx⟩
 case round =>
  obtain ⟨j, hj, rfl, HW, HN⟩ := hrel;by_cases hlt : (j : Int) < (n4 : Int)
  rotate_left
  ·have a2 := HW.out;clear HW;have c0 : Hid (∀ x ∈ bl, BanP x.1 x.2.1 x.2.2.1 x.2.2.2) := fun x hx => HN.out x (by rw [List.take_of_length_le (by rw [a1.out]; omega)]; exact hx)
   clear HN;by_cases hc1 : (n4 : Int) ≤ 5
   ·have a6 : Hid (n4 ≤ 5) := (by have := hc1; show _ ≤ _; omega);go_wp2_with fail
    go_ret;exact aA4.yes (⟨by rw [a1.out]; exact a6.out, c0.out⟩ : cK6 bl) a2
   have a6 : Hid (¬ n4 ≤ 5) := (by have := hc1; show ¬ _; omega);go_wp2_with fail
   go_ret;exact aA4.no (fun h => by have h1 : bl.length ≤ 5 := h.1; have h5 := a6.out; rw [a1.out] at h1; omega) a2
  have a2 := HW.out;clear HW;have a7 := b9.out _ a2;try rw [a1.out] at a7
  have b7 := aN5 a7;clear a7;obtain ⟨g4, c1, c2, r1, r2, r3, r4⟩ := b7.2 j (by first | omega | (rw [a1.out]; omega));clear b7;subst c1;obtain ⟨y, hy⟩ := exq (aF4 bl j);rw [← hy] at r1 r2 r3 r4;have HM : Hid (y ∈ bl) := by show _ ∈ _; rw [hy]; exact aR3 bl j (by rw [a1.out]; omega)
  have c3 : Hid (bl.take (j + 1) = bl.take j ++ [y]) := by show _ = _; rw [hy]; exact aR4 bl j (by rw [a1.out]; omega)
  clear hy c2;obtain ⟨y0, y1, y2, y3⟩ := y;dsimp only at r1 r2 r3 r4;go_upto_region 4 with fail
  obtain ⟨q1, a8⟩ := exq (wr.heap.size);obtain ⟨w2, a3⟩ := exq (wr.alloc (.cells #[.int .i64 y0, .string y1, .string y2, .int .i64 y3] 62));have a9 := a8.symm;rw [← a3]; try rw [← a8];have c5 := hsa a3 a9;have bw := bal a3;have b8 := hbt a2 bw;have a0 := hnew a3 a9;clear a2 bw a3 a9;clear c5 a8;clear r1 r2 r3 r4;have b0 := (k4c a0).1;have b1 := (k4c a0).2.1;have b2 := (k4c a0).2.2.1;have b3 := (k4c a0).2.2.2;have K2 := jz K0 b8 (jzn _);go_wp2_with fail
  refine (aH1 y0 y1 y2 y3 _ (b6.out _ HM.out).1 (b6.out _ HM.out).2).mono ?_;rintro e w3 ⟨ub, rfl, a5, bw⟩;have K3 := jw K2 bw;clear b8 bw K2;clear b0 b1 b2 b3;cases ub
  ·have b4 : Hid (¬ (BanP y0 y1 y2 y3)) := fun h => nomatch a5.2 h
   clear a5;go_wp2_with fail
   go_ret;exact aA4.no (fun h => b4.out ((show cK6 bl from h).2 _ HM.out)) K3.hb
  have b5 : Hid (BanP y0 y1 y2 y3) := a5.1 rfl;clear a5
  have c6 : Hid (∀ x ∈ bl.take (j + 1), BanP x.1 x.2.1 x.2.2.1 x.2.2.2) := fun x hx => by
   rw [c3.out] at hx
   rcases List.mem_append.1 hx with hx | hx
   ·exact HN.out x hx
   ·rw [List.mem_singleton.1 hx]; exact b5.out
  go_wp2_with fail
  go_roundw
  case rel => exact ⟨j + 1, by omega, by go_num, K3.hb, c6⟩
  case measure => simp [intOf]; omega
theorem bI0 (v1 v2 V VB : Value) (kv : Ks) (s : ShD) (B : Nat) (w : World) (h : aD1 w B v1 v2 V VB kv s) (hz : aF7 s) :
  Calls prog 103 #[.agg #[v1, v2, V, VB, .int .i64 s.nx, .int .i64 s.sq]] w fun e w' => aA4 (aI5 s) w e w' := by
 obtain ⟨o1, c1, e1⟩ := aA0 h.disk.cells;obtain ⟨o2, c2, e2⟩ := aA0 h.disk.pend;obtain ⟨o3, c3, e3⟩ := aA0 h.kept.row;obtain ⟨o4, c4, e4⟩ := aA0 h.bans;subst e1 e2 e3 e4;obtain ⟨n1, a8⟩ := exq (s.cs.length);obtain ⟨n2, a9⟩ := exq (s.ws.length);obtain ⟨n3, a1⟩ := exq kv.length;obtain ⟨n4, b0⟩ := exq (s.bl.length);rw [← a8, ← a9, ← a1, ← b0] at h ⊢;have d1 : Hid (s.cs.length = n1 ∧ s.ws.length = n2 ∧ kv.length = n3 ∧ s.bl.length = n4) := ⟨a8.symm, a9.symm, a1.symm, b0.symm⟩;have a2 : Hid (kv.map (·.1) = s.ks) := h.2;have HZ := hid hz;have d9 : n1 ≤ 1048576 := by rw [a8]; exact hz.c
 have e0 : n2 ≤ 1048576 := by rw [a9]; exact hz.w
 have d3 : n3 ≤ 1048576 := by rw [a1, ← List.length_map (f := (·.1)), h.2]; exact hz.k
 have e5 : n4 ≤ 1048576 := by rw [b0]; exact hz.b
 have d2 : Hid (∀ W, Bw w W → aD1 W B (.slice o1 n1 c1) (.slice o2 n2 c2) (.slice o3 n3 c3) (.slice o4 n4 c4) kv s) := fun W hb => h.below hb
 have d4 : Hid (∀ W, Bw w W → aB8 W B (.slice o3 n3 c3) kv) := fun W hb => (h.below hb).kept
 have d5 : Hid (kv.length = n3) := a1.symm;clear a8 a9 a1 b0 h hz;have K0 := jnil w;go_enter func103, ntmps103;go_upto_region 1 with fail
 obtain ⟨q1, b4⟩ := exq (w.heap.size);obtain ⟨w1, a3⟩ := exq (w.alloc (.cells #[.slice o1 n1 c1, .slice o2 n2 c2, .slice o3 n3 c3, .slice o4 n4 c4, .int .i64 s.nx, .int .i64 s.sq] 43));have b5 := b4.symm;rw [← a3]; try rw [← b4];have d6 := hsa a3 b5;have bw := bal a3;have K1 := ja K0 a3 b5;clear bw a3 b5 K0;clear d6 b4;have b6 := c6c (jb K1 0 rfl);go_wp2_with fail
 refine (aQ9 _ _ n1 s.cs n2 s.ws B _ (by have hd := (d2.out _ K1.hb).disk; rw [d1.out.1, d1.out.2.1] at hd; exact hd) (by omega) (by omega)).mono ?_;rintro e w2 ⟨ud, rfl, b1, bw⟩;have K2 := jw K1 bw;clear bw K1;clear b6;cases ud
 ·have b7 : Hid (¬ (aG5 s.cs s.ws)) := fun h => nomatch b1.2 h
  clear b1;go_wp2_with fail
  go_ret;exact aA4.no (fun h => b7.out h.1) K2.hb
 have b8 : Hid (aG5 s.cs s.ws) := b1.1 rfl;clear b1;have b9 := c6c (jb K2 0 rfl);go_wp2_with fail
 refine (aU5 s.nx _).mono ?_;rintro e w3 ⟨d7, rfl, a0, bw⟩;have K3 := jw K2 bw;clear bw K2;clear b9;cases d7
 ·have a4 : Hid (¬ (5 ≤ s.nx ∧ s.nx ≤ 19)) := fun h => nomatch a0.2 h
  clear a0;go_wp2_with fail
  go_ret;exact aA4.no (fun h => a4.out h.2.2.1) K3.hb
 have a5 : Hid (5 ≤ s.nx ∧ s.nx ≤ 19) := a0.1 rfl;clear a0;by_cases hc1 : s.sq < 1
 ·have c0 := hid hc1;have a6 := c6c (jb K3 0 rfl);go_wp2_with fail
  go_ret;exact aA4.no (fun h => by have h1 := c0.out; have h2 := h.2.2.2.1; omega) K3.hb
 have c0 := hid hc1;have a6 := c6c (jb K3 0 rfl);by_cases hc2 : 100000 < s.sq
 ·have c5 := hid hc2;go_wp2_with fail
  go_ret;exact aA4.no (fun h => by have h1 := c5.out; have h2 := h.2.2.2.1; omega) K3.hb
 have c5 := hid hc2;have c6 := c6c (jb K3 0 rfl);go_wp2_with fail
 refine (cF5 _ kv s.sq B _ (d4.out _ K3.hb) (by rw [d5.out]; exact d3) (fun x hx => HZ.out.kv a2.out hx)).mono ?_
 rintro e w4 ⟨uk, rfl, b2, bw⟩;have K4 := jw K3 bw;clear bw K3;clear a6 c6;cases uk
 ·have c7 : Hid (¬ (∀ m, m < kv.length → KpOk (kv.map (·.1)) s.sq m)) := fun h => nomatch b2.2 h
  clear b2;go_wp2_with fail
  go_ret;exact aA4.no (fun h => c7.out (fun m hm => by rw [a2.out]; exact h.2.2.2.2.2 m (by rw [← a2.out, List.length_map]; exact hm))) K4.hb
 have c8 : Hid (∀ m, m < kv.length → KpOk (kv.map (·.1)) s.sq m) := b2.1 rfl;clear b2;have c9 := c6c (jb K4 0 rfl);go_wp2_with fail
 refine (cF6 _ s.bl B _ (by have hd := (d2.out _ K4.hb).bans; exact hd) HZ.out.b HZ.out.bm).mono ?_;rintro e w5 ⟨ub, rfl, b3, bw⟩;have K5 := jw K4 bw;clear bw K4;clear c9;cases ub
 ·have d0 : Hid (¬ (cK6 s.bl)) := fun h => nomatch b3.2 h
  clear b3;go_wp2_with fail
  go_ret;exact aA4.no (fun h => d0.out ⟨h.2.1, h.2.2.2.2.1⟩) K5.hb
 have a7 : Hid (cK6 s.bl) := b3.1 rfl;clear b3;go_wp2_with fail
 go_ret;have d8 := K5.hb;exact aA4.yes ⟨b8.out, a7.out.1, a5.out, ⟨by have := c0.out; omega, by have := c5.out; omega⟩, a7.out.2, fun i hi => by have hk := c8.out; rw [a2.out] at hk; exact hk i (by rw [← a2.out, List.length_map] at hi; exact hi)⟩ d8
def bY8 (kv : Ks) : Prop := ∀ x ∈ kv, aF9 x.1
theorem bY8.kv2 {kv : Ks} (h : bY8 kv) {x : KpD × Value × Value × Value} (hx : x ∈ kv) : aF9 x.1 := h x hx
theorem aX2 (V : Value) (kv : Ks) (B : Nat) (w : World) (h : aB8 w B V kv) (hn : kv.length ≤ 1048576) (hsm : bY8 kv) :
  Calls prog 149 #[V] w fun e w' => cO9 (kv.map (·.1)) w e w' := by
 obtain ⟨o3, c3, e3⟩ := aA0 h.row;subst e3;obtain ⟨n3, e7⟩ := exq kv.length;rw [← e7] at h ⊢;obtain ⟨ks, h5⟩ := exq (kv.map (·.1));have e9 : Hid (kv.map (·.1) = ks) := h5.symm;have b4 : Hid (kv.length = n3) := e7.symm;have l1 : n3 ≤ 1048576 := by rw [e7]; exact hn
 have b7 : Hid (∀ W, Bw w W → aB8 W B (.slice o3 n3 c3) kv) := fun W hb => aB8.below h hb
 clear e7 h5 h hn;have j4 := hid hsm;obtain ⟨i0, hi, j5, j6, b9⟩ := info_parts aY9;obtain ⟨M, hM⟩ : ∃ M, M = madeCells (Value.agg #[.string ⟨#[]⟩, .slice none 0 0, .slice none 0 0, .int .i64 0, .slice none 0 0, .string ⟨#[]⟩, .int .i64 0, .int .i64 0, .int .i64 0]).cells (((n3 : Nat) : Int).toNat * i0.size) := ⟨_, rfl⟩
 have l2 : ∀ W : World, (Instr.makeSlice 40 (.int .i64 (n3 : Int)) (.int .i64 (n3 : Int))).run prog W = .ok (.slice (some ⟨W.heap.size, 0, none⟩) n3 n3) (W.alloc (.cells M 82)) := fun W => by
  have h := run_make (P := prog) W 40 82 i0 (.agg #[.string ⟨#[]⟩, .slice none 0 0, .slice none 0 0, .int .i64 0, .slice none 0 0, .string ⟨#[]⟩, .int .i64 0, .int .i64 0, .int .i64 0]) underlying40 hi j5 .i64 .i64 (n3 : Int) (n3 : Int) (by omega) (by omega) (by rw [b9]; omega) (by omega)
  rw [← hM] at h
  simpa using h
 have h6 : M.size = n3 * 9 := by rw [hM, size_madeCells, j6]; simp
 obtain ⟨g, hg⟩ := exq (w.heap.size);have HG : Hid (w.heap.size = g) := hg.symm;have j7 : Hid (w.heap.size ≤ g) := by show _ ≤ _; omega
 have h7 : Hid (([] : Ks).length = 0 ∧ ([] : Ks).map (·.1) = (kv.take 0).map (·.1) ∧ aJ7 kpC 9 82 (w.alloc (.cells M 82)) g n3 [] ∧ aA2 (w.alloc (.cells M 82)) (g + 1) (([] : Ks).flatMap kpR)) := ⟨rfl, by simp, ⟨M, by rw [hg]; exact heap_alloc_new w _, h6, fun i h => absurd h (by simp)⟩, aA2.nil _ _⟩
 have h8 : Hid (Bw w (w.alloc (.cells M 82))) := (Below.refl _ _).alloc (Nat.le_refl _) _;clear hM h6 hg hsm;have K0 := jnil w;go_enter func149, ntmps149;go_wp2_with fail
 rw [HG.out];go_loopw [11] (fun i wr => ∃ (k : Nat) (lv : Ks), k ≤ n3 ∧ i = .int .i64 (k : Int) ∧ Hid (lv.length = k ∧ lv.map (·.1) = (kv.take k).map (·.1) ∧ aJ7 kpC 9 82 wr g n3 lv ∧ aA2 wr (g + 1) (lv.flatMap kpR)) ∧ Hid (Bw w wr)) (fun i _ => n3 - (intOf i).toNat)
 case atStart => exact ⟨0, [], Nat.zero_le _, rfl, h7, h8⟩
 case round =>
  obtain ⟨k, lv, hk, rfl, b8, f9⟩ := hrel;by_cases hlt : k < n3
  rotate_left
  ·obtain rfl : k = n3 := by omega
   have g0 : ¬ (k : Int) < (k : Int) := by omega
   obtain ⟨q1, q2, q3, q4⟩ := b8.out
   have HF : Hid (lv.map (·.1) = ks ∧ aB8 wr w.heap.size (.slice (some ⟨g, 0, none⟩) k k) lv) := by
    refine ⟨?_, bL3 q3 q1 (by unfold maxLen; omega) (by rw [HG.out]; exact Nat.le_refl _) q4⟩
    rw [q2, List.take_of_length_le (by rw [b4.out]; exact Nat.le_refl _)]
    exact e9.out
   clear q1 q2 q3 q4;go_wp2
   go_ret;exact ⟨_, lv, rfl, HF.out.1.trans e9.out.symm, HF.out.2, f9.out⟩
  have g0 : (k : Int) < (n3 : Int) := by omega
  have l3 : ¬ n3 ≤ k := by omega
  have a3 := f9.out;have j8 : Hid (lv.length = k ∧ lv.map (·.1) = (kv.take k).map (·.1)) := ⟨b8.out.1, b8.out.2.1⟩;have c9 : Hid (aJ7 kpC 9 82 wr g n3 lv) := b8.out.2.2.1;have g1 : Hid (aA2 wr (g + 1) (lv.flatMap kpR)) := b8.out.2.2.2;clear b8 f9 h7 h8;obtain ⟨g3, p3, hV, _, _⟩ := (b7.out _ a3).look k (by rw [b4.out]; omega);rw [b4.out] at hV;injection hV with hV1 hV2 hV3
  subst hV1 hV3;clear hV2;obtain ⟨yX, d0⟩ := exq (kvAt kv k);have d1 : Hid (yX ∈ kv) := by show _ ∈ _; rw [d0]; exact aQ1 kv k (by rw [b4.out]; omega)
  have l4 : Hid (kpAt ks k = yX.1) := by show _ = _; rw [d0, ← e9.out]; exact (aK6 kv k (by rw [b4.out]; omega)).symm
  have g2 : Hid (kv.take (k + 1) = kv.take k ++ [yX]) := by show _ = _; rw [d0]; exact aM6 kv k (by rw [b4.out]; omega)
  have b2 : Hid (∀ W, Bw w W → KpAt W g3 k yX) := fun W hb => by
   obtain ⟨g', p', hV, _, hc⟩ := (b7.out W hb).look k (by rw [b4.out]; omega)
   injection hV with hV1 _ _
   cases hV1
   rw [d0]
   exact hc
  clear d0;obtain ⟨y, g4, g5, g6⟩ := yX;obtain ⟨d2, d3, hu⟩ := aA0 ((b7.out _ a3).names d1.out);have d4 : g4 = .slice d2 y.xs.length d3 := hu;subst d4;clear hu;obtain ⟨d5, d6, hu⟩ := aA0 ((b7.out _ a3).vals d1.out);have d4 : g5 = .slice d5 y.ys.length d6 := hu;subst d4;clear hu;obtain ⟨d7, d8, hu⟩ := aA0 ((b7.out _ a3).flds d1.out);have d4 : g6 = .slice d7 y.fs.length d8 := hu;subst d4;clear hu;have h9 := (b2.out _ a3).c0;have i1 := (b2.out _ a3).c1;have i2 := (b2.out _ a3).c2;have i3 := (b2.out _ a3).c3;have i4 := (b2.out _ a3).c4;have i5 := (b2.out _ a3).c5;have i6 := (b2.out _ a3).c6;have i7 := (b2.out _ a3).c7;have i8 := (b2.out _ a3).c8;dsimp only at h9 i1 i2 i3 i4 i5 i6 i7 i8;go_upto_region 5 with fail
  obtain ⟨b5, b6⟩ := exq (wr.heap.size);obtain ⟨w2, d9⟩ := exq (wr.alloc (.cells #[.string y.p, .slice d2 y.xs.length d3, .slice d5 y.ys.length d6, .int .i64 y.st, .slice d7 y.fs.length d8, .string y.b, .int .i64 y.t, .int .i64 y.a, .int .i64 y.q] 82));have b9 := b6.symm;rw [← d9]; try rw [← b6];have j9 := hsa d9 b9;have bw := bal d9;have i9 := hbt a3 bw;have g7 : Hid (aJ7 kpC 9 82 w2 g n3 lv) := aJ7.below c9.out bw;have g8 := hid (aA2.below g1.out bw);have e0 := hnew d9 b9;have k0 : Hid (b5 ≠ g) := fun e => by have h1 := c9.out.lt; omega
  clear a3 bw d9 b9;clear j9 b6;clear h9 i1 i2 i3 i4 i5 i6 i7 i8;have K2 := jz K0 i9 (jzn _);go_upto_region 5 with fail
  refine wp_region_held_drew (S := fun W => W.heap[b5]? = some (.cells #[.string y.p, .slice d2 y.xs.length d3, .slice d5 y.ys.length d6, .int .i64 y.st, .slice d7 y.fs.length d8, .string y.b, .int .i64 y.t, .int .i64 y.a, .int .i64 y.q] 82)) (by kernel_rfl) e0.out (fun _ => ?_)
  obtain ⟨w3, hX⟩ := exq w2.drew;have bw := bdr hX;rw [← hX];have K3 := jw K2 bw;have e1 := hblk e0 bw;have e2 : Hid (aJ7 kpC 9 82 w3 g n3 lv) := aJ7.below g7.out bw;have e4 := hid (aA2.below g8.out bw);have b3 := e1.out;clear i9 bw hX K2;refine tkP 0 (.slice (some ⟨g, 0, none⟩) n3 n3) 16 rfl rfl b3 (tkP 1 (.int .i64 (k : Int)) 17 rfl rfl b3 (tkP 2 (.pointer (some ⟨b5, 0, none⟩)) 18 rfl rfl b3 ?_));go_frame;refine tkL 3 (.agg #[.string y.p, .slice d2 y.xs.length d3, .slice d5 y.ys.length d6, .int .i64 y.st, .slice d7 y.fs.length d8, .string y.b, .int .i64 y.t]) 19 rfl rfl (Or.inl ⟨by rfl, by intro W hW; have b1 := hW; have y0 := c9c b1; go_simp⟩) b3 ?_;go_frame;refine tkP 5 (.pointer (some ⟨b5, 7, none⟩)) 21 rfl rfl b3 ?_;go_frame;refine tkL 6 (.int .i64 y.a) 22 rfl rfl (Or.inl ⟨by rfl, by intro W hW; have b1 := hW; have y7 := c9c b1; go_simp⟩) b3 ?_;go_frame;refine tkP 7 (.pointer (some ⟨b5, 8, none⟩)) 23 rfl rfl b3 ?_;go_frame;refine tkL 8 (.int .i64 y.q) 24 rfl rfl (Or.inl ⟨by rfl, by intro W hW; have b1 := hW; have y8 := c9c b1; go_simp⟩) b3 ?_;go_frame;refine rd1 4 rfl (fun K hK => ?_)
  go_simp;refine (bJ8 y _ _ _ _ ((b7.out _ K3.hb).read d1.out) (j4.out.kv2 d1.out)).mono ?_;rintro e w4 ⟨va, vb, vc, rfl, g9, bw⟩;obtain ⟨a1, a4, a2, j0⟩ := g9;obtain ⟨a7, a8, rfl⟩ := aA0 a1;obtain ⟨a5, a6, rfl⟩ := aA0 a4;obtain ⟨a9, b0, rfl⟩ := aA0 a2;have j1 : Hid (aA2 w4 (g + 1) (lv.flatMap kpR ++ kpR ((y, .slice a7 y.xs.length a8, .slice a5 y.ys.length a6, .slice a9 y.fs.length b0) : KpD × Value × Value × Value))) := e4.out.more bw (aR5 ⟨a1, a4, a2, j0⟩) (Nat.le_refl _) e2.out.lt;clear j0;have K4 := jj K3 (jcR (jcR (jN bw) a1 jhn) a2 (jhc (jty a2 a1) jhn));have e5 := hblk e1 bw;have a0 : Hid (aJ7 kpC 9 82 w4 g n3 lv) := aJ7.below e2.out bw;have k1 := hid (aA2.below e4.out bw);clear a1;have h0 : Hid (w4.ownsRow w.heap.size 9 1 (.slice a5 y.ys.length a6) y.ys.length (y.ys.map Value.string)) := aE0 a4 K3.hb.size;clear a4;clear a2;clear bw K3;have e8 := e5.out;refine hK.out _ _ e8 (fun _ => ?_)
  clear hK K b3;refine tkP 9 (.agg #[.string y.p, .slice a7 y.xs.length a8, .slice a5 y.ys.length a6, .int .i64 y.st, .slice a9 y.fs.length b0, .string y.b, .int .i64 y.t, .int .i64 y.a, .int .i64 y.q]) 25 rfl rfl e8 (tkP 10 (.pointer (some ⟨g, k * 9, none⟩)) 26 rfl rfl e8 ?_);go_frame;refine rd1 11 rfl (fun K hK => ?_)
  obtain ⟨u0, k2⟩ := a0.out.cell (k * 9) (by omega);have f0 := a0.out.frozen (k * 9);obtain ⟨u1, k3⟩ := a0.out.cell (k * 9 + 1) (by omega);have f1 := a0.out.frozen (k * 9 + 1);obtain ⟨u2, k4⟩ := a0.out.cell (k * 9 + 2) (by omega);have f2 := a0.out.frozen (k * 9 + 2);obtain ⟨u3, k5⟩ := a0.out.cell (k * 9 + 3) (by omega);have f3 := a0.out.frozen (k * 9 + 3);obtain ⟨u4, k6⟩ := a0.out.cell (k * 9 + 4) (by omega);have f4 := a0.out.frozen (k * 9 + 4);obtain ⟨u5, k7⟩ := a0.out.cell (k * 9 + 5) (by omega);have f5 := a0.out.frozen (k * 9 + 5);obtain ⟨u6, k8⟩ := a0.out.cell (k * 9 + 6) (by omega);have f6 := a0.out.frozen (k * 9 + 6);obtain ⟨u7, k9⟩ := a0.out.cell (k * 9 + 7) (by omega);have f7 := a0.out.frozen (k * 9 + 7);obtain ⟨u8, l0⟩ := a0.out.cell (k * 9 + 8) (by omega);have f8 := a0.out.frozen (k * 9 + 8);obtain ⟨w5, hY⟩ := exq ((((((((((w4.setCell ⟨g, k * 9, none⟩ (.string y.p)).setCell ⟨g, k * 9 + 1, none⟩ (.slice a7 y.xs.length a8)).setCell ⟨g, k * 9 + 2, none⟩ (.slice a5 y.ys.length a6)).setCell ⟨g, k * 9 + 3, none⟩ (.int .i64 y.st)).setCell ⟨g, k * 9 + 4, none⟩ (.slice a9 y.fs.length b0)).setCell ⟨g, k * 9 + 5, none⟩ (.string y.b)).setCell ⟨g, k * 9 + 6, none⟩ (.int .i64 y.t)).setCell ⟨g, k * 9 + 7, none⟩ (.int .i64 y.a)).setCell ⟨g, k * 9 + 8, none⟩ (.int .i64 y.q)));have HY := hsy hY;have hZ : w5 = setW w4 g (k * 9) (kpC ((y, .slice a7 y.xs.length a8, .slice a5 y.ys.length a6, .slice a9 y.fs.length b0) : KpD × Value × Value × Value)) := by rw [hY]; rfl
  have h3 : Hid ((lv ++ [((y, .slice a7 y.xs.length a8, .slice a5 y.ys.length a6, .slice a9 y.fs.length b0) : KpD × Value × Value × Value)]).length = k + 1 ∧ (lv ++ [((y, .slice a7 y.xs.length a8, .slice a5 y.ys.length a6, .slice a9 y.fs.length b0) : KpD × Value × Value × Value)]).map (·.1) = (kv.take (k + 1)).map (·.1) ∧ aJ7 kpC 9 82 w5 g n3 (lv ++ [((y, .slice a7 y.xs.length a8, .slice a5 y.ys.length a6, .slice a9 y.fs.length b0) : KpD × Value × Value × Value)]) ∧ aA2 w5 (g + 1) ((lv ++ [((y, .slice a7 y.xs.length a8, .slice a5 y.ys.length a6, .slice a9 y.fs.length b0) : KpD × Value × Value × Value)]).flatMap kpR)) := by
   obtain ⟨q1, q2⟩ := j8.out
   refine ⟨by rw [List.length_append, q1]; rfl, by rw [List.map_append, q2, g2.out, List.map_append]; rfl, ?_, ?_⟩
   ·have h := aJ7.put aV1 a0.out ((y, .slice a7 y.xs.length a8, .slice a5 y.ys.length a6, .slice a9 y.fs.length b0) : KpD × Value × Value × Value) (by omega)
    rw [q1] at h
    rw [hZ]
    exact h
   ·have e6 : aA2 w4 (g + 1) (lv.flatMap kpR ++ kpR ((y, .slice a7 y.xs.length a8, .slice a5 y.ys.length a6, .slice a9 y.fs.length b0) : KpD × Value × Value × Value)) := j1.out
    rw [List.flatMap_append, hZ]
    have h2 : aA2 (setW w4 g (k * 9) (kpC ((y, .slice a7 y.xs.length a8, .slice a5 y.ys.length a6, .slice a9 y.fs.length b0) : KpD × Value × Value × Value))) (g + 1) (lv.flatMap kpR ++ kpR ((y, .slice a7 y.xs.length a8, .slice a5 y.ys.length a6, .slice a9 y.fs.length b0) : KpD × Value × Value × Value)) := e6.same (fun r hr b hb => aW1 g b (by have := e6.ge hr hb; omega) _ _ _)
    simpa using h2
  have j2 : Bw w (w5) := by rw [hZ]; exact bA4 j7.out _ _ _ _ K4.hb
  have h4 : Hid (w5.heap[b5]? = some (.cells #[.string y.p, .slice d2 y.xs.length d3, .slice d5 y.ys.length d6, .int .i64 y.st, .slice d7 y.fs.length d8, .string y.b, .int .i64 y.t, .int .i64 y.a, .int .i64 y.q] 82)) := by show _ = _; rw [hZ, aW1 g b5 k0.out]; exact e5.out
  have K5 := jz K4 j2 (jzx (jzx (jzn _)));clear hY hZ j1 K4;go_simp;rw [HY.out];have j3 := h4.out;refine hK.out _ _ j3 (fun _ => ?_)
  clear hK K HY e8 k2 f0 k3 f1 k4 f2 k5 f3 k6 f4 k7 f5 k8 f6 k9 f7 l0 f8;clear j3;refine wdn ?_;go_wp2_with fail
  go_roundw
  case rel => exact ⟨k + 1, _, by omega, by go_num, h3, j2⟩
  case measure => simp [intOf]; omega
theorem aX3 (o4 : Oa) (n4 c4 : Nat) (l : Bs) (w : World) (h : BanA w o4 n4 l) (hn : n4 ≤ 1048576) (hz : ∀ x ∈ l, x.2.1.size ≤ 1048576 ∧ x.2.2.1.size ≤ 1048576) :
  Calls prog 150 #[.slice o4 n4 c4] w fun e w' => ∃ v, e = .returned v ∧ w'.ownsRow w.heap.size 62 4 v n4 (aA5 l) ∧ Below w.heap.size w w' := by
 have HA : Hid (∀ W, Bw w W → BanA W o4 n4 l) := fun W hb => h.below hb
 have c5 : Hid (l.length = n4) := h.1;have HZ := hid hz;obtain ⟨i0, hi, d4, d5, a4⟩ := info_parts bG3;obtain ⟨M, hM⟩ : ∃ M, M = madeCells (Value.agg #[.int .i64 0, .string ⟨#[]⟩, .string ⟨#[]⟩, .int .i64 0]).cells (((n4 : Nat) : Int).toNat * i0.size) := ⟨_, rfl⟩
 have e5 : ∀ W : World, (Instr.makeSlice 41 (.int .i64 (n4 : Int)) (.int .i64 (n4 : Int))).run prog W = .ok (.slice (some ⟨W.heap.size, 0, none⟩) n4 n4) (W.alloc (.cells M 62)) := fun W => by
  have h := run_make (P := prog) W 41 62 i0 (.agg #[.int .i64 0, .string ⟨#[]⟩, .string ⟨#[]⟩, .int .i64 0]) underlying41 hi d4 .i64 .i64 (n4 : Int) (n4 : Int) (by omega) (by omega) (by rw [a4]; omega) (by omega)
  rw [← hM] at h
  simpa using h
 have c6 : M.size = n4 * 4 := by rw [hM, size_madeCells, d5]; simp
 obtain ⟨g, hg⟩ := exq (w.heap.size);have HG : Hid (w.heap.size = g) := hg.symm;have a5 : Hid (w.heap.size ≤ g) := by show _ ≤ _; omega
 have c7 : Hid (aE6 (w.alloc (.cells M 62)) g n4 0 l) := ⟨M, by rw [hg]; exact heap_alloc_new w _, c6, fun i h => absurd h (by omega)⟩
 have c8 : Hid (Bw w (w.alloc (.cells M 62))) := (Below.refl _ _).alloc (Nat.le_refl _) _;clear hM c6 hg h hz;have K0 := jnil w;go_enter func150, ntmps150;go_wp2_with fail
 rw [HG.out];go_loopw [11] (fun i wr => ∃ k : Nat, k ≤ n4 ∧ i = .int .i64 (k : Int) ∧ Hid (aE6 wr g n4 k l) ∧ Hid (Bw w wr)) (fun i _ => n4 - (intOf i).toNat)
 case atStart => exact ⟨0, Nat.zero_le _, rfl, c7, c8⟩
 case round =>
  obtain ⟨k, hk, rfl, b6, b7⟩ := hrel;by_cases hlt : k < n4
  rotate_left
  ·obtain rfl : k = n4 := by omega
   have b8 : ¬ (k : Int) < (k : Int) := by omega
   have HF : Hid (wr.ownsRow w.heap.size 62 4 (.slice (some ⟨g, 0, none⟩) k k) k (aA5 l)) := b6.out.owns c5.out (by unfold maxLen; omega) a5.out;go_wp2
   go_ret;exact ⟨_, rfl, HF.out, b7.out⟩
  have b8 : (k : Int) < (n4 : Int) := by omega
  have b9 := b7.out;have a3 : Hid (aE6 wr g n4 k l) := b6.out;clear b6 b7 c7 c8;obtain ⟨g4, d6, d7, r1, r2, r3, r4⟩ := (HA.out _ b9).2 k hlt;subst d6;obtain ⟨y, hy⟩ := exq (aF4 l k);rw [← hy] at r1 r2 r3 r4;have d8 : Hid (aF4 l k = y) := hy.symm;have c9 : Hid (y ∈ l) := by show _ ∈ _; rw [hy]; exact aR3 l k (by rw [c5.out]; omega)
  clear hy d7;obtain ⟨y0, y1, y2, y3⟩ := y;dsimp only at r1 r2 r3 r4;have c0 : Hid (y1.size ≤ 281474976710656) := by have h := (HZ.out _ c9.out).1; dsimp only at h; show _ ≤ _; omega
  have c1 : Hid (y2.size ≤ 281474976710656) := by have h := (HZ.out _ c9.out).2; dsimp only at h; show _ ≤ _; omega
  go_upto_region 5 with fail
  obtain ⟨q1, c2⟩ := exq (wr.heap.size);obtain ⟨w2, a6⟩ := exq (wr.alloc (.cells #[.int .i64 y0, .string y1, .string y2, .int .i64 y3] 62));have a4 := c2.symm;rw [← a6]; try rw [← c2];have d9 := hsa a6 a4;have bw := bal a6;have d0 := hbt b9 bw;have a7 : Hid (aE6 w2 g n4 k l) := aE6.below a3.out bw a3.out.lt;have a8 := hnew a6 a4;have b4 : Hid (q1 ≠ g) := fun e => by have h1 := a3.out.lt; omega
  clear b9 bw a6 a4;clear d9 c2;clear r1 r2 r3 r4;have K2 := jz K0 d0 (jzn _);go_upto_region 5 with fail
  refine wp_region_held_drew (S := fun W => W.heap[q1]? = some (.cells #[.int .i64 y0, .string y1, .string y2, .int .i64 y3] 62)) (by kernel_rfl) a8.out (fun _ => ?_)
  obtain ⟨w3, hX⟩ := exq w2.drew;have bw := bdr hX;rw [← hX];have K3 := jw K2 bw;have a9 := hblk a8 bw;have b0 : Hid (aE6 w3 g n4 k l) := aE6.below a7.out bw a7.out.lt;have a2 := a9.out;clear d0 bw hX K2;refine tkP 0 (.slice (some ⟨g, 0, none⟩) n4 n4) 16 rfl rfl a2 (tkP 1 (.int .i64 (k : Int)) 17 rfl rfl a2 (tkP 2 (.pointer (some ⟨q1, 0, none⟩)) 18 rfl rfl a2 ?_));go_frame;refine tkL 3 (.int .i64 y0) 19 rfl rfl (Or.inl ⟨by rfl, by intro W hW; have a1 := hW; have y0 := c4c a1; go_simp⟩) a2 ?_;go_frame;refine tkP 4 (.pointer (some ⟨q1, 1, none⟩)) 20 rfl rfl a2 ?_;go_frame;refine tkL 5 (.string y1) 21 rfl rfl (Or.inl ⟨by rfl, by intro W hW; have a1 := hW; have y1 := c4c a1; go_simp⟩) a2 ?_;go_frame;refine tkP 7 (.pointer (some ⟨q1, 2, none⟩)) 23 rfl rfl a2 ?_;go_frame;refine tkL 8 (.string y2) 24 rfl rfl (Or.inl ⟨by rfl, by intro W hW; have a1 := hW; have y2 := c4c a1; go_simp⟩) a2 ?_;go_frame;refine tkP 10 (.pointer (some ⟨q1, 3, none⟩)) 26 rfl rfl a2 ?_;go_frame;refine tkL 11 (.int .i64 y3) 27 rfl rfl (Or.inl ⟨by rfl, by intro W hW; have a1 := hW; have y3 := c4c a1; go_simp⟩) a2 ?_;go_frame;refine rd1 6 rfl (fun K hK => ?_)
  go_simp;refine (aH9 y1 _ c0.out).mono ?_;rintro e w4 ⟨rfl, bw⟩;have K4 := jw K3 bw;have b1 := hblk a9 bw;have b2 : Hid (aE6 w4 g n4 k l) := aE6.below b0.out bw b0.out.lt;clear bw K3;have d1 := b1.out;refine hK.out _ _ d1 (fun _ => ?_)
  clear hK K a2;refine rd1 9 rfl (fun K hK => ?_)
  go_simp;refine (aH9 y2 _ c1.out).mono ?_;rintro e w5 ⟨rfl, bw⟩;have K5 := jw K4 bw;have b3 := hblk b1 bw;have a0 : Hid (aE6 w5 g n4 k l) := aE6.below b2.out bw b2.out.lt;clear bw K4;have b5 := b3.out;refine hK.out _ _ b5 (fun _ => ?_)
  clear hK K d1;refine tkP 12 (.agg #[.int .i64 y0, .string y1, .string y2, .int .i64 y3]) 28 rfl rfl b5 (tkP 13 (.pointer (some ⟨g, k * 4, none⟩)) 29 rfl rfl b5 ?_);go_frame;refine rd1 14 rfl (fun K hK => ?_)
  obtain ⟨u0, e0⟩ := a0.out.cell (k * 4) (by omega);have f0 := a0.out.frozen (k * 4);obtain ⟨u1, e1⟩ := a0.out.cell (k * 4 + 1) (by omega);have f1 := a0.out.frozen (k * 4 + 1);obtain ⟨u2, e2⟩ := a0.out.cell (k * 4 + 2) (by omega);have f2 := a0.out.frozen (k * 4 + 2);obtain ⟨u3, e3⟩ := a0.out.cell (k * 4 + 3) (by omega);have f3 := a0.out.frozen (k * 4 + 3);obtain ⟨w6, hY⟩ := exq (((((w5.setCell ⟨g, k * 4, none⟩ (.int .i64 y0)).setCell ⟨g, k * 4 + 1, none⟩ (.string y1)).setCell ⟨g, k * 4 + 2, none⟩ (.string y2)).setCell ⟨g, k * 4 + 3, none⟩ (.int .i64 y3)));have HY := hsy hY
  have e4 : Hid (aE6 w6 g n4 (k + 1) l) := by
   have h := a0.out.put hlt
   rw [d8.out] at h
   rw [hY]
   exact h
  have d2 : Bw w (w6) := by rw [hY]; exact ((((K5.hb.setCell (p := ⟨g, k * 4, none⟩) a5.out _).setCell (p := ⟨g, k * 4 + 1, none⟩) a5.out _).setCell (p := ⟨g, k * 4 + 2, none⟩) a5.out _).setCell (p := ⟨g, k * 4 + 3, none⟩) a5.out _)
  have c3 : Hid (w6.heap[q1]? = some (.cells #[.int .i64 y0, .string y1, .string y2, .int .i64 y3] 62)) := by show _ = _; rw [hY, heap_setCell_other _ _ _ _ b4.out, heap_setCell_other _ _ _ _ b4.out, heap_setCell_other _ _ _ _ b4.out, heap_setCell_other _ _ _ _ b4.out]; exact b3.out
  have K6 := jz K5 d2 (jzn _);clear hY K5;go_simp;rw [HY.out];have d3 := c3.out;refine hK.out _ _ d3 (fun _ => ?_)
  clear hK K HY b5 e0 f0 e1 f1 e2 f2 e3 f3;clear d3;refine wdn ?_;go_wp2_with fail
  go_roundw
  case rel => exact ⟨k + 1, by omega, by go_num, e4, d2⟩
  case measure => simp [intOf]; omega
theorem bI1 (v1 v2 V VB : Value) (kv : Ks) (s : ShD) (B : Nat) (w : World) (h : aD1 w B v1 v2 V VB kv s) (hz : aF7 s) :
  Calls prog 81 #[.agg #[v1, v2, V, VB, .int .i64 s.nx, .int .i64 s.sq]] w fun e w' => bG7 s w e w' := by
 obtain ⟨o1, c1, e1⟩ := aA0 h.disk.cells;obtain ⟨o2, c2, e2⟩ := aA0 h.disk.pend;obtain ⟨o3, c3, e3⟩ := aA0 h.kept.row;obtain ⟨o4, c4, e4⟩ := aA0 h.bans;subst e1 e2 e3 e4;obtain ⟨n1, f0⟩ := exq (s.cs.length);obtain ⟨n2, f1⟩ := exq (s.ws.length);obtain ⟨n3, d4⟩ := exq kv.length;obtain ⟨n4, f2⟩ := exq (s.bl.length);rw [← f0, ← f1, ← d4, ← f2] at h ⊢;have c7 : Hid (s.cs.length = n1 ∧ s.ws.length = n2 ∧ kv.length = n3 ∧ s.bl.length = n4) := ⟨f0.symm, f1.symm, d4.symm, f2.symm⟩;have g5 : Hid (kv.map (·.1) = s.ks) := h.2;have HZ := hid hz;have i2 : n1 ≤ 1048576 := by rw [f0]; exact hz.c
 have i3 : n2 ≤ 1048576 := by rw [f1]; exact hz.w
 have i4 : n3 ≤ 1048576 := by rw [d4, ← List.length_map (f := (·.1)), h.2]; exact hz.k
 have i5 : n4 ≤ 1048576 := by rw [f2]; exact hz.b
 have f4 : Hid (∀ W, Bw w W → aD1 W B (.slice o1 n1 c1) (.slice o2 n2 c2) (.slice o3 n3 c3) (.slice o4 n4 c4) kv s) := fun W hb => h.below hb
 have h5 : Hid (∀ W, Bw w W → aB8 W B (.slice o3 n3 c3) kv) := fun W hb => (h.below hb).kept
 have g6 : Hid (kv.length = n3) := d4.symm;clear f0 f1 d4 f2 h hz
 have g7 : Hid (∀ W, Bw w W → aC4 W o1 n1 s.cs) := fun W hb => by
  have h := (f4.out W hb).disk.cells
  rw [c7.out.1] at h
  exact aF1 h
 have f5 : Hid (∀ W, Bw w W → aO7 W o2 n2 s.ws) := fun W hb => by
  have h := (f4.out W hb).disk.pend
  rw [c7.out.2.1] at h
  exact aG0 h
 have h6 : Hid (∀ W, Bw w W → BanA W o4 n4 s.bl) := fun W hb => by
  have h := (f4.out W hb).bans
  rw [c7.out.2.2.2] at h
  exact aN5 h
 have K0 := jnil w;go_enter func81, ntmps81;go_upto_region 1 with fail
 obtain ⟨q1, f6⟩ := exq (w.heap.size);obtain ⟨w1, d5⟩ := exq (w.alloc (.cells #[.slice o1 n1 c1, .slice o2 n2 c2, .slice o3 n3 c3, .slice o4 n4 c4, .int .i64 s.nx, .int .i64 s.sq] 43));have f7 := f6.symm;rw [← d5]; try rw [← f6];have g8 := hsa d5 f7;have bw := bal d5;have K1 := ja K0 d5 f7;clear bw d5 f7 K0;obtain ⟨q2, f8⟩ := exq (q1 + 1);obtain ⟨w2, d6⟩ := exq (w1.alloc (.cells #[.slice none 0 0, .slice none 0 0, .slice none 0 0, .slice none 0 0, .int .i64 0, .int .i64 0] 43));have f9 : w1.heap.size = q2 := by rw [f8]; exact g8
 rw [← d6]; try rw [← f8];have h7 := hsa d6 f9;have bw := bal d6;have K2 := ja K1 d6 f9;clear bw d6 f9 K1;clear h7 f8 g8 f6;go_upto_region 1 with fail
 have b1 : Hid (∀ W, Below w2.heap.size w2 W → W.heap[q1]? = some (.cells #[.slice o1 n1 c1, .slice o2 n2 c2, .slice o3 n3 c3, .slice o4 n4 c4, .int .i64 s.nx, .int .i64 s.sq] 43)) := fun W h => aA3 (jb K2 1 rfl) h
 go_cut [3] (fun sx wx => ∃ (q : Nat) (oC : Oa) (pC : Nat) (oP : Oa) (pP : Nat), sx = .pointer (some ⟨q, 0, none⟩) ∧ Hid (Below w2.heap.size w2 wx ∧ wx.heap[q]? = some (.cells #[.slice oC n1 pC, .slice oP n2 pP] 39) ∧ w2.heap.size ≤ q ∧ (wx).ownsRow w2.heap.size 9 1 (.slice oC n1 pC) n1 (s.cs.map Value.string) ∧ (wx).ownsRow w2.heap.size 155 2 (.slice oP n2 pP) n2 (aA1 s.ws)))
 case first =>
  refine wp_region_held_drew (S := fun W => W.heap[q1]? = some (.cells #[.slice o1 n1 c1, .slice o2 n2 c2, .slice o3 n3 c3, .slice o4 n4 c4, .int .i64 s.nx, .int .i64 s.sq] 43)) (by kernel_rfl) (b1.out _ (Below.refl _ _).drew) (fun _ => ?_)
  obtain ⟨w3, hX⟩ := exq w2.drew;have bw := bdr hX;rw [← hX];have K3 := jw K2 bw;have a2 := hid bw;clear bw hX;refine tkP 0 (.pointer (some ⟨q1, 0, none⟩)) 4 rfl rfl (b1.out _ a2.out) ?_;go_frame;refine tkP 1 (.pointer (some ⟨q1, 0, none⟩)) 5 rfl rfl (b1.out _ a2.out) ?_;go_frame;refine tkL 2 (.slice o1 n1 c1) 6 rfl rfl (Or.inl ⟨by rfl, by intro W hW; have a5 := hW; have y0 := c6c a5; go_simp⟩) (b1.out _ a2.out) ?_;go_frame;refine tkP 4 (.pointer (some ⟨q1, 0, none⟩)) 8 rfl rfl (b1.out _ a2.out) ?_;go_frame;refine tkP 5 (.pointer (some ⟨q1, 1, none⟩)) 9 rfl rfl (b1.out _ a2.out) ?_;go_frame;refine tkL 6 (.slice o2 n2 c2) 10 rfl rfl (Or.inl ⟨by rfl, by intro W hW; have a5 := hW; have y1 := c6c a5; go_simp⟩) (b1.out _ a2.out) ?_;go_frame;refine wpAnyH_ready (rs := [3, 9]) (by kernel_rfl) (by simp) ?_;refine AllReadyH.cons rfl (fun K hK => ?_) (AllReadyH.cons rfl (fun K hK => ?_) AllReadyH.nil)
  ·go_simp;refine (aD4 _ n1 _ s.cs _ (g7.out _ K3.hb) (by omega) (fun i hi => HZ.out.ct i (by rw [c7.out.1]; exact hi))).mono ?_
   rintro e w4 ⟨va, rfl, a3, bw⟩;obtain ⟨oC, pC, rfl⟩ := aA0 a3;have K4 := jj K3 (jcR (jN bw) a3 jhn);have f3 : Hid (∀ g, (Value.ownBlock (.slice oC n1 pC)) = some g → w3.heap.size ≤ g) := fun g hg => aB7 a3 hg
   clear a3;clear K3;have a4 := hxt a2 bw;have b6 : Hid (w4.ownsRow w2.heap.size 9 1 (.slice oC n1 pC) n1 (s.cs.map Value.string)) := aI9 (jo K4 0 rfl) (fun g hg => Nat.le_trans a2.out.size (f3.out g hg))
   refine hK.out _ _ (b1.out _ a4.out) (fun _ => ?_)
   clear hK K bw a2;refine wpAnyH_ready (rs := [7, 9]) (by kernel_rfl) (by simp) ?_;refine AllReadyH.cons rfl (fun K hK => ?_) (AllReadyH.cons rfl (fun K hK => ?_) AllReadyH.nil)
   ·go_simp;refine (aD5 _ n2 _ s.ws _ (f5.out _ K4.hb) (by omega) HZ.out.wt).mono ?_;rintro e w5 ⟨va, rfl, a3, bw⟩;obtain ⟨oP, pP, rfl⟩ := aA0 a3;have K5 := jj K4 (jcR (jN bw) a3 jhn);have d3 : Hid (∀ g, (Value.ownBlock (.slice oP n2 pP)) = some g → w4.heap.size ≤ g) := fun g hg => aB7 a3 hg
    clear a3;clear K4;have a1 := hxt a4 bw;have a6 := hown b6 bw;have d0 : Hid (w5.ownsRow w2.heap.size 155 2 (.slice oP n2 pP) n2 (aA1 s.ws)) := aI9 (jo K5 0 rfl) (fun g hg => Nat.le_trans a4.out.size (d3.out g hg))
    refine hK.out _ _ (b1.out _ a1.out) (fun _ => ?_)
    clear hK K bw a4;refine tkP 8 (.agg #[.slice oC n1 pC, .slice oP n2 pP]) 12 rfl rfl (b1.out _ a1.out) ?_;go_frame;refine rd1 9 rfl (fun K hK => ?_)
    go_simp;have c8 : Hid (Below w2.heap.size w2 (w5.alloc (.cells #[.slice none 0 0, .slice none 0 0] 39))) := a1.out.alloc a1.out.size _;refine hK.out _ _ (b1.out _ c8.out) (fun _ => ?_)
    clear hK K c8;obtain ⟨pa, ho⟩ := exq (w5.heap.size);obtain ⟨w6, b5⟩ := exq (w5.alloc (.cells #[.slice none 0 0, .slice none 0 0] 39));rw [← ho, ← b5];have b7 : Hid (w2.heap.size ≤ pa) := by show _ ≤ _; rw [ho]; exact a1.out.size
    have bw := bal b5;have K6 := jw K5 bw;have b2 := hxt a1 bw;have a7 := hown a6 bw;have a8 := hown d0 bw;have a0 : Hid (w6.heap[pa]? = some (.cells #[.slice none 0 0, .slice none 0 0] 39)) := by show _ = _; rw [b5, ho]; exact heap_alloc_new _ _
    clear bw ho b5 a1 K5;refine rd1 10 rfl (fun K hK => ?_)
    have d1 := c2f a0.out;obtain ⟨w7, hY⟩ := exq (((w6.setCell ⟨pa, 0, none⟩ (.slice oC n1 pC)).setCell ⟨pa, 1, none⟩ (.slice oP n2 pP)));have HY := hsy hY;have b3 : Hid (Below w2.heap.size w2 w7) := by show Below _ _ _; rw [hY]; exact ((b2.out.setCell (p := ⟨pa, 0, none⟩) b7.out _).setCell (p := ⟨pa, 1, none⟩) b7.out _)
    have b4 := hid (jbs [(0, _), (1, _)] a0.out hY);have a9 := hid (jrr [(0, _), (1, _)] a7.out hY a0.out);have b0 := hid (jrr [(0, _), (1, _)] a8.out hY a0.out);clear hY;go_simp;rw [HY.out];refine hK.out _ _ (b1.out _ b3.out) (fun _ => ?_)
    clear hK K HY d1;refine wdn ?_;go_wp2_with fail
    go_meet
    exact ⟨pa, oC, pC, oP, pP, rfl, ⟨b3.out, b4.out, b7.out, a9.out, b0.out⟩⟩
   go_simp;have c8 : Hid (Below w2.heap.size w2 (w4.alloc (.cells #[.slice none 0 0, .slice none 0 0] 39))) := a4.out.alloc a4.out.size _;refine hK.out _ _ (b1.out _ c8.out) (fun _ => ?_)
   clear hK K c8;obtain ⟨pa, ho⟩ := exq (w4.heap.size);obtain ⟨w5, b5⟩ := exq (w4.alloc (.cells #[.slice none 0 0, .slice none 0 0] 39));rw [← ho, ← b5];have b7 : Hid (w2.heap.size ≤ pa) := by show _ ≤ _; rw [ho]; exact a4.out.size
   have bw := bal b5;have K5 := jw K4 bw;have a1 := hxt a4 bw;have a6 := hown b6 bw;have b8 : Hid (w5.heap[pa]? = some (.cells #[.slice none 0 0, .slice none 0 0] 39)) := by show _ = _; rw [b5, ho]; exact heap_alloc_new _ _
   clear bw ho b5 a4 K4;refine rd1 7 rfl (fun K hK => ?_)
   go_simp;refine (aD5 _ n2 _ s.ws _ (f5.out _ K5.hb) (by omega) HZ.out.wt).mono ?_;rintro e w6 ⟨va, rfl, a3, bw⟩;obtain ⟨oP, pP, rfl⟩ := aA0 a3;have K6 := jj K5 (jcR (jN bw) a3 jhn);have d3 : Hid (∀ g, (Value.ownBlock (.slice oP n2 pP)) = some g → w5.heap.size ≤ g) := fun g hg => aB7 a3 hg
   clear a3;clear K5;have b2 := hxt a1 bw;have a0 := hblk b8 bw;have a7 := hown a6 bw;have a8 : Hid (w6.ownsRow w2.heap.size 155 2 (.slice oP n2 pP) n2 (aA1 s.ws)) := aI9 (jo K6 0 rfl) (fun g hg => Nat.le_trans a1.out.size (d3.out g hg))
   refine hK.out _ _ (b1.out _ b2.out) (fun _ => ?_)
   clear hK K bw a1;refine tkP 8 (.agg #[.slice oC n1 pC, .slice oP n2 pP]) 12 rfl rfl (b1.out _ b2.out) ?_;go_frame;refine rd1 10 rfl (fun K hK => ?_)
   have d1 := c2f a0.out;obtain ⟨w7, hY⟩ := exq (((w6.setCell ⟨pa, 0, none⟩ (.slice oC n1 pC)).setCell ⟨pa, 1, none⟩ (.slice oP n2 pP)));have HY := hsy hY;have b3 : Hid (Below w2.heap.size w2 w7) := by show Below _ _ _; rw [hY]; exact ((b2.out.setCell (p := ⟨pa, 0, none⟩) b7.out _).setCell (p := ⟨pa, 1, none⟩) b7.out _)
   have b4 := hid (jbs [(0, _), (1, _)] a0.out hY);have a9 := hid (jrr [(0, _), (1, _)] a7.out hY a0.out);have b0 := hid (jrr [(0, _), (1, _)] a8.out hY a0.out);clear hY;go_simp;rw [HY.out];refine hK.out _ _ (b1.out _ b3.out) (fun _ => ?_)
   clear hK K HY d1;refine wdn ?_;go_wp2_with fail
   go_meet
   exact ⟨pa, oC, pC, oP, pP, rfl, ⟨b3.out, b4.out, b7.out, a9.out, b0.out⟩⟩
  go_simp;have c8 : Hid (Below w2.heap.size w2 (w3.alloc (.cells #[.slice none 0 0, .slice none 0 0] 39))) := a2.out.alloc a2.out.size _;refine hK.out _ _ (b1.out _ c8.out) (fun _ => ?_)
  clear hK K c8;obtain ⟨pa, ho⟩ := exq (w3.heap.size);obtain ⟨w4, b5⟩ := exq (w3.alloc (.cells #[.slice none 0 0, .slice none 0 0] 39));rw [← ho, ← b5];have b7 : Hid (w2.heap.size ≤ pa) := by show _ ≤ _; rw [ho]; exact a2.out.size
  have bw := bal b5;have K4 := jw K3 bw;have a4 := hxt a2 bw;have d7 : Hid (w4.heap[pa]? = some (.cells #[.slice none 0 0, .slice none 0 0] 39)) := by show _ = _; rw [b5, ho]; exact heap_alloc_new _ _
  clear bw ho b5 a2 K3;refine rd1 3 rfl (fun K hK => ?_)
  go_simp;refine (aD4 _ n1 _ s.cs _ (g7.out _ K4.hb) (by omega) (fun i hi => HZ.out.ct i (by rw [c7.out.1]; exact hi))).mono ?_
  rintro e w5 ⟨va, rfl, a3, bw⟩;obtain ⟨oC, pC, rfl⟩ := aA0 a3;have K5 := jj K4 (jcR (jN bw) a3 jhn);have f3 : Hid (∀ g, (Value.ownBlock (.slice oC n1 pC)) = some g → w4.heap.size ≤ g) := fun g hg => aB7 a3 hg
  clear a3;clear K4;have a1 := hxt a4 bw;have b8 := hblk d7 bw;have a6 : Hid (w5.ownsRow w2.heap.size 9 1 (.slice oC n1 pC) n1 (s.cs.map Value.string)) := aI9 (jo K5 0 rfl) (fun g hg => Nat.le_trans a4.out.size (f3.out g hg))
  refine hK.out _ _ (b1.out _ a1.out) (fun _ => ?_)
  clear hK K bw a4;refine rd1 7 rfl (fun K hK => ?_)
  go_simp;refine (aD5 _ n2 _ s.ws _ (f5.out _ K5.hb) (by omega) HZ.out.wt).mono ?_;rintro e w6 ⟨va, rfl, a3, bw⟩;obtain ⟨oP, pP, rfl⟩ := aA0 a3;have K6 := jj K5 (jcR (jN bw) a3 jhn);have d3 : Hid (∀ g, (Value.ownBlock (.slice oP n2 pP)) = some g → w5.heap.size ≤ g) := fun g hg => aB7 a3 hg
  clear a3;clear K5;have b2 := hxt a1 bw;have a0 := hblk b8 bw;have a7 := hown a6 bw;have a8 : Hid (w6.ownsRow w2.heap.size 155 2 (.slice oP n2 pP) n2 (aA1 s.ws)) := aI9 (jo K6 0 rfl) (fun g hg => Nat.le_trans a1.out.size (d3.out g hg))
  refine hK.out _ _ (b1.out _ b2.out) (fun _ => ?_)
  clear hK K bw a1;refine tkP 8 (.agg #[.slice oC n1 pC, .slice oP n2 pP]) 12 rfl rfl (b1.out _ b2.out) ?_;go_frame;refine rd1 10 rfl (fun K hK => ?_)
  have d1 := c2f a0.out;obtain ⟨w7, hY⟩ := exq (((w6.setCell ⟨pa, 0, none⟩ (.slice oC n1 pC)).setCell ⟨pa, 1, none⟩ (.slice oP n2 pP)));have HY := hsy hY;have b3 : Hid (Below w2.heap.size w2 w7) := by show Below _ _ _; rw [hY]; exact ((b2.out.setCell (p := ⟨pa, 0, none⟩) b7.out _).setCell (p := ⟨pa, 1, none⟩) b7.out _)
  have b4 := hid (jbs [(0, _), (1, _)] a0.out hY);have a9 := hid (jrr [(0, _), (1, _)] a7.out hY a0.out);have b0 := hid (jrr [(0, _), (1, _)] a8.out hY a0.out);clear hY;go_simp;rw [HY.out];refine hK.out _ _ (b1.out _ b3.out) (fun _ => ?_)
  clear hK K HY d1;refine wdn ?_;go_wp2_with fail
  go_meet
  exact ⟨pa, oC, pC, oP, pP, rfl, ⟨b3.out, b4.out, b7.out, a9.out, b0.out⟩⟩
 case rest =>
 obtain ⟨q3, oC, pC, oP, pP, g9, HF⟩ := hcut;rw [g9];obtain ⟨w3, h0⟩ := exq wc;rw [← h0] at HF ⊢;clear g9 h0 b1;obtain ⟨bw, c9, h8, c5, c6⟩ := HF.out;have d8 : Hid (q2 ≠ q3) := fun e => by have h1 := (Array.getElem?_eq_some_iff.1 (jb K2 0 rfl)).1; omega
 have K3 := jj K2 (jcR (jcR (jN bw) c5 jhn) c6 (jhc (jty c6 c5) jhn));have f3 := hlo c5;have d3 := hlo c6;have d9 := hid c9;clear bw c9 h8 HF c5 c6 K2;go_upto_region 2 with fail
 refine wp_region_held_drew (S := fun W => W.heap[q3]? = some (.cells #[.slice oC n1 pC, .slice oP n2 pP] 39) ∧ W.heap[q1]? = some (.cells #[.slice o1 n1 c1, .slice o2 n2 c2, .slice o3 n3 c3, .slice o4 n4 c4, .int .i64 s.nx, .int .i64 s.sq] 43)) (by kernel_rfl) ⟨d9.out, (jb K3 3 rfl)⟩ (fun _ => ?_)
 obtain ⟨w4, hX⟩ := exq w3.drew;have bw := bdr hX;rw [← hX];have K4 := jw K3 bw;have e0 := hblk d9 bw;have c0 := And.intro e0.out (jb K4 3 rfl);clear bw hX K3;refine tkL 0 (.agg #[.slice oC n1 pC, .slice oP n2 pP]) 13 rfl rfl (Or.inl ⟨by rfl, by intro W hW; obtain ⟨b9, a5⟩ := hW; have y0 := c2c b9; go_simp⟩) c0 ?_;go_frame;refine tkP 1 (.pointer (some ⟨q1, 2, none⟩)) 14 rfl rfl c0 ?_;go_frame;refine tkL 2 (.slice o3 n3 c3) 15 rfl rfl (Or.inl ⟨by rfl, by intro W hW; obtain ⟨b9, a5⟩ := hW; have y2 := c6c a5; go_simp⟩) c0 ?_;go_frame;refine tkP 4 (.pointer (some ⟨q1, 3, none⟩)) 17 rfl rfl c0 ?_;go_frame;refine tkL 5 (.slice o4 n4 c4) 18 rfl rfl (Or.inl ⟨by rfl, by intro W hW; obtain ⟨b9, a5⟩ := hW; have y3 := c6c a5; go_simp⟩) c0 ?_;go_frame;refine tkP 7 (.pointer (some ⟨q1, 4, none⟩)) 20 rfl rfl c0 ?_;go_frame;refine tkL 8 (.int .i64 s.nx) 21 rfl rfl (Or.inl ⟨by rfl, by intro W hW; obtain ⟨b9, a5⟩ := hW; have y4 := c6c a5; go_simp⟩) c0 ?_;go_frame;refine tkP 9 (.pointer (some ⟨q1, 5, none⟩)) 22 rfl rfl c0 ?_;go_frame;refine tkL 10 (.int .i64 s.sq) 23 rfl rfl (Or.inl ⟨by rfl, by intro W hW; obtain ⟨b9, a5⟩ := hW; have y5 := c6c a5; go_simp⟩) c0 ?_;go_frame;refine rd1 3 rfl (fun K hK => ?_)
 go_simp;refine (aX2 _ kv B _ (h5.out _ K4.hb) (by rw [g6.out]; omega) (fun x hx => HZ.out.kv g5.out hx)).mono ?_
 rintro e w5 ⟨VK, kw, rfl, g0, g1, bw⟩;have h9 : Hid (kw.map (·.1) = s.ks) := g0.trans g5.out;obtain ⟨oK, pK, h2⟩ := g1.len;rw [show kw.length = n3 from by rw [← g6.out, ← List.length_map (f := (·.1)), g0, List.length_map]] at h2;subst h2;have e5 : Hid (aA2 w5 w.heap.size ([(⟨9, 1, (.slice oC n1 pC), n1, s.cs.map Value.string⟩ : Rw), (⟨155, 2, (.slice oP n2 pP), n2, aA1 s.ws⟩ : Rw)] ++ aC5 (.slice oK n3 pK) kw)) := (aV5 ⟨(jo K4 1 rfl), (jo K4 0 rfl)⟩).more bw g1 (Nat.le_refl _) K4.hb.size
 have i0 : Hid (∀ r ∈ ([(⟨9, 1, (.slice oC n1 pC), n1, s.cs.map Value.string⟩ : Rw), (⟨155, 2, (.slice oP n2 pP), n2, aA1 s.ws⟩ : Rw)] ++ aC5 (.slice oK n3 pK) kw), 43 ≠ r.T) := by
  intro r hr
  rcases List.mem_append.1 hr with hr | hr
  ·simp only [List.mem_cons, List.not_mem_nil, or_false] at hr
   rcases hr with rfl | rfl
   ·exact (by decide : (43 : TypeId) ≠ 9)
   ·exact (by decide : (43 : TypeId) ≠ 155)
  ·rcases bB1 hr with e | e | e <;> rw [e] <;> decide
 clear g0 g1;have K5 := jw K4 bw;have e6 := hblk e0 bw;clear bw K4;have e7 := e5;clear e5;have h3 := And.intro e6.out (jb K5 3 rfl);refine hK.out _ _ h3 (fun _ => ?_)
 clear hK K c0;refine rd1 6 rfl (fun K hK => ?_)
 go_simp;refine (aX3 _ n4 _ s.bl _ (h6.out _ K5.hb) (by omega) HZ.out.bt).mono ?_;rintro e w6 ⟨va, rfl, a3, bw⟩;obtain ⟨oB, pB, rfl⟩ := aA0 a3;have e5 : Hid (aA2 w6 w.heap.size (([(⟨9, 1, (.slice oC n1 pC), n1, s.cs.map Value.string⟩ : Rw), (⟨155, 2, (.slice oP n2 pP), n2, aA1 s.ws⟩ : Rw)] ++ aC5 (.slice oK n3 pK) kw) ++ [(⟨62, 4, (.slice oB n4 pB), n4, aA5 s.bl⟩ : Rw)])) := e7.out.more bw (aA2.one (r := (⟨62, 4, (.slice oB n4 pB), n4, aA5 s.bl⟩ : Rw)) a3) (Nat.le_refl _) K5.hb.size
 have i1 : Hid (∀ r ∈ (([(⟨9, 1, (.slice oC n1 pC), n1, s.cs.map Value.string⟩ : Rw), (⟨155, 2, (.slice oP n2 pP), n2, aA1 s.ws⟩ : Rw)] ++ aC5 (.slice oK n3 pK) kw) ++ [(⟨62, 4, (.slice oB n4 pB), n4, aA5 s.bl⟩ : Rw)]), 43 ≠ r.T) := by
  intro r hr
  rcases List.mem_append.1 hr with hr | hr
  ·exact i0.out r hr
  ·rw [List.mem_singleton.1 hr]
   exact (by decide : (43 : TypeId) ≠ 62)
 clear a3;have K6 := jw K5 bw;have e8 := hblk e6 bw;have d2 := hid (e7.out.below bw);clear bw K5;clear d2;have d2 := e5;clear e5;have g2 := And.intro e8.out (jb K6 3 rfl);refine hK.out _ _ g2 (fun _ => ?_)
 clear hK K h3;refine tkP 11 (.agg #[.slice oC n1 pC, .slice oP n2 pP, .slice oK n3 pK, .slice oB n4 pB, .int .i64 s.nx, .int .i64 s.sq]) 24 rfl rfl g2 ?_;go_frame;refine rd1 12 rfl (fun K hK => ?_)
 have d1 := c6f (jb K6 2 rfl);obtain ⟨w7, hY⟩ := exq (((((((w6.setCell ⟨q2, 0, none⟩ (.slice oC n1 pC)).setCell ⟨q2, 1, none⟩ (.slice oP n2 pP)).setCell ⟨q2, 2, none⟩ (.slice oK n3 pK)).setCell ⟨q2, 3, none⟩ (.slice oB n4 pB)).setCell ⟨q2, 4, none⟩ (.int .i64 s.nx)).setCell ⟨q2, 5, none⟩ (.int .i64 s.sq)));have HY := hsy hY;have K7 := jss K6 2 [(0, _), (1, _), (2, _), (3, _), (4, _), (5, _)] hY;have g3 := hid (jbo [(0, _), (1, _), (2, _), (3, _), (4, _), (5, _)] e8.out hY d8.out.symm);have g4 := hid (jrs [(0, _), (1, _), (2, _), (3, _), (4, _), (5, _)] d2.out hY (jb K6 2 rfl) (i1.out));clear hY K6;go_simp;rw [HY.out];have h4 := And.intro g3.out (jb K7 3 rfl);refine hK.out _ _ h4 (fun _ => ?_)
 clear hK K HY g2 d1;clear h4;refine wdn ?_;go_wp2_with fail
 have e9 := c6c (jb K7 2 rfl);refine bodyPost_ret (v := .agg #[.slice oC n1 pC, .slice oP n2 pP, .slice oK n3 pK, .slice oB n4 pB, .int .i64 s.nx, .int .i64 s.sq]) (by simp [results, results81, go_sem, e9]) rfl ?_;refine ⟨.slice oC n1 pC, .slice oP n2 pP, .slice oK n3 pK, .slice oB n4 pB, kw, rfl, ⟨?_, h9.out⟩, K7.hb⟩;have h := g4.out;unfold aB2;rw [c7.out.1, c7.out.2.1, c7.out.2.2.2];exact h
theorem bI2 (q c b : Nat) (v1 v2 V : Value) (ob : Oa) (nb cb : Nat) (nx sq : Int) (bl : Bs) (k : KpD) (k1 k2 k3 : Value) (w : World) (hq : w.heap[q]? = some (.cells #[.pointer (some ⟨c, 0, none⟩)] 91)) (hc : w.heap[c]? = some (.cells #[v1, v2, V, .slice ob nb cb, .int .i64 nx, .int .i64 sq, .map (some b)] 143)) (hbn : BanA w ob nb bl) (hn : nb ≤ 1048577) (hlz : ∀ x ∈ bl, x.2.1.size ≤ maxLen ∧ x.2.2.1.size ≤ maxLen) (h : aR7 w k k1 k2 k3) (hs : aF9 k) :
  Calls prog 127 #[.agg #[.string k.p, k1, k2, .int .i64 k.st, k3, .string k.b, .int .i64 k.t, .int .i64 k.a, .int .i64 k.q], .pointer (some ⟨q, 0, none⟩)] w fun e w' => aA4 (AnyK bl k) w e w' := by
 obtain ⟨Bk, c0⟩ := h;have b3 : ObjO w Bk k1 k.xs.length k.xs k2 k.ys.length k.ys k3 k.fs.length k.fs := aH3 c0;obtain ⟨b4, b5, rfl⟩ := aA0 b3.names;obtain ⟨b6, b7, rfl⟩ := aA0 b3.vals;obtain ⟨b8, b9, rfl⟩ := aA0 b3.flds;have c4 : Hid (∀ W, Bw w W → aR7 W k (.slice b4 k.xs.length b5) (.slice b6 k.ys.length b7) (.slice b8 k.fs.length b9)) := fun W hb => aR7.below ⟨Bk, c0⟩ hb
 clear c0 b3;have a5 := hid hq;have a6 := hid hc;have c5 : Hid (∀ W, Bw w W → BanA W ob nb bl) := fun W hb => hbn.below hb
 have c6 := hid hlz;have HS := hid hs;clear hq hc hbn hlz hs;have K0 := jnil w;go_enter func127, ntmps127;go_upto_region 1 with fail
 obtain ⟨q1, c1⟩ := exq (w.heap.size);obtain ⟨w1, b2⟩ := exq (w.alloc (.cells #[.string k.p, .slice b4 k.xs.length b5, .slice b6 k.ys.length b7, .int .i64 k.st, .slice b8 k.fs.length b9, .string k.b, .int .i64 k.t, .int .i64 k.a, .int .i64 k.q] 82));have c2 := c1.symm;rw [← b2]; try rw [← c1];have c7 := hsa b2 c2;have bw := bal b2;have K1 := ja K0 b2 c2;have a0 := hblk a5 bw;have a1 := hblk a6 bw;clear bw b2 c2 K0;clear c7 c1;go_upto_region 1 with fail
 refine wp_region_held_drew (S := fun W => W.heap[q]? = some (.cells #[.pointer (some ⟨c, 0, none⟩)] 91) ∧ W.heap[c]? = some (.cells #[v1, v2, V, .slice ob nb cb, .int .i64 nx, .int .i64 sq, .map (some b)] 143) ∧ W.heap[q1]? = some (.cells #[.string k.p, .slice b4 k.xs.length b5, .slice b6 k.ys.length b7, .int .i64 k.st, .slice b8 k.fs.length b9, .string k.b, .int .i64 k.t, .int .i64 k.a, .int .i64 k.q] 82)) (by kernel_rfl) ⟨a0.out, a1.out, (jb K1 0 rfl)⟩ (fun _ => ?_)
 obtain ⟨w2, hX⟩ := exq w1.drew;have bw := bdr hX;rw [← hX];have K2 := jw K1 bw;have a2 := hblk a0 bw;have a3 := hblk a1 bw;have a4 := And.intro a2.out (And.intro a3.out (jb K2 0 rfl));clear bw hX K1;refine tkL 0 (.pointer (some ⟨c, 0, none⟩)) 4 rfl rfl (Or.inl ⟨by rfl, by intro W hW; obtain ⟨a7, a8, a9⟩ := hW; have y0 := c1c a7; go_simp⟩) a4 ?_;go_frame;refine tkP 1 (.pointer (some ⟨c, 0, none⟩)) 5 rfl rfl a4 (tkP 2 (.pointer (some ⟨c, 0, none⟩)) 6 rfl rfl a4 (tkP 3 (.pointer (some ⟨c, 3, none⟩)) 7 rfl rfl a4 ?_));go_frame;refine tkL 4 (.slice ob nb cb) 8 rfl rfl (Or.inl ⟨by rfl, by intro W hW; obtain ⟨a7, a8, a9⟩ := hW; have y3 := c7c a8; go_simp⟩) a4 ?_;go_frame;refine tkP 5 (.pointer (some ⟨q1, 0, none⟩)) 9 rfl rfl a4 ?_;go_frame;refine tkL 6 (.agg #[.string k.p, .slice b4 k.xs.length b5, .slice b6 k.ys.length b7, .int .i64 k.st, .slice b8 k.fs.length b9, .string k.b, .int .i64 k.t]) 10 rfl rfl (Or.inl ⟨by rfl, by intro W hW; obtain ⟨a7, a8, a9⟩ := hW; have y0 := c9c a9; go_simp⟩) a4 ?_;go_frame;refine rd1 7 rfl (fun K hK => ?_)
 go_simp;refine (bP4 ob nb cb bl k _ _ _ _ (c5.out _ K2.hb) (by omega) c6.out (c4.out _ K2.hb) HS.out).mono ?_;rintro e w3 ⟨ut, rfl, c8, bw⟩;have K3 := jw K2 bw;have b0 := hblk a2 bw;have b1 := hblk a3 bw;clear bw K2;have c3 := And.intro b0.out (And.intro b1.out (jb K3 0 rfl));refine hK.out _ _ c3 (fun _ => ?_)
 clear hK K a4;refine tkP 8 (.bool ut) 3 rfl rfl c3 ?_;go_frame;clear c3;refine wdn ?_;go_wp2_with fail
 go_ret;exact ⟨ut, rfl, c8, K3.hb⟩
def cV4 (n : Nat) (w : World) (e : Ending) (w' : World) : Prop := e = .returned (.int .i64 (n : Int)) ∧ w' = w
theorem bsAt {s : ByteArray} {j : Nat} (h : j < s.size) : (bs s)[j]? = some (s[j]'h) := by
 unfold bs;exact aS2 s j h
theorem bY9 (s : Tx) (w : World) (hs : s.size ≤ maxLen) :
  Calls prog 89 #[.string s] w fun e w' => cV4 (sumP s) w e w' := by
 unfold maxLen at hs;go_enter func89, ntmps89;go_wp2
 go_loopw [3, 4, 5] (fun a b i wr => ∃ (k A B : Nat), k ≤ s.size ∧ i = .int .i64 (k : Int) ∧ a = .int .i64 (A : Int) ∧ b = .int .i64 (B : Int) ∧ A < 65521 ∧ B < 65521 ∧ wr = w ∧ Hid ((A, B) = sumL (1, 0) ((bs s).take k))) (fun _ _ i _ => s.size - (intOf i).toNat)
 case atStart => exact ⟨0, 1, 0, Nat.zero_le _, rfl, rfl, rfl, by omega, by omega, rfl, rfl⟩
 case round =>
  obtain ⟨k, A, B, hk, rfl, rfl, rfl, hA, hB, rfl, HS⟩ := hrel;by_cases hlt : (k : Int) < (s.size : Int)
  rotate_left
  ·have HE : Hid ((A, B) = sumL (1, 0) (bs s)) := by
    have h := HS.out
    rw [List.take_of_length_le (by rw [aU9]; omega)] at h
    exact h
   go_wp2
   go_ret;refine ⟨?_, rfl⟩;have h := HE.out;unfold sumP;rw [← h];simp
  have a0 : k < s.size := by omega
  have hx : (s[k]'a0).toNat < 256 := (s[k]'a0).toNat_lt
  have a1 : Hid ((bs s).take (k + 1) = (bs s).take k ++ [s[k]'a0]) := by
   rw [Hid, List.take_add_one, bsAt a0]
   rfl
  go_wp2
  go_roundw
  case rel =>
   refine ⟨k + 1, (A + (s[k]'a0).toNat) % 65521, (B + (A + (s[k]'a0).toNat) % 65521) % 65521, by omega, by simp, ?_, ?_, Nat.mod_lt _ (by decide), Nat.mod_lt _ (by decide), trivial, ?_⟩
   ·congr 1
   ·congr 1
   rw [Hid, a1.out, bG6, ← HS.out]
  case measure => simp [intOf]; omega
def dgZ (m : Nat) : List UInt8 := if m = 0 then [] else Lib.decDigits m
theorem cR2 (m : Nat) (h : m ≠ 0) : dgZ m = dgZ (m / 10) ++ [UInt8.ofNat (48 + m % 10)] := by
 unfold dgZ;rw [if_neg h, Lib.decDigits];split
 ·rename_i h2
  rw [if_pos (show m / 10 = 0 by omega), Nat.mod_eq_of_lt h2];rfl
 rename_i h2
 rw [if_neg (show ¬ m / 10 = 0 by omega)]
theorem aT9 (n : Nat) (w : World) (hn : n ≤ 4293001440) :
  Calls prog 88 #[.int .i64 (n : Int)] w fun e w' => aD6 (decT n) w e w' := by
 by_cases h0 : n = 0
 ·subst h0;have HD : Hid (decT 0 = ⟨#[48]⟩) := by unfold decT; rw [Lib.decDigits_one (by decide)]; rfl
  go_enter func88, ntmps88;go_wp2
  go_ret;exact aD6.of HD.out.symm (Below.refl _ _)
 have a3 : ((n : Int) == 0) = false := by rw [beq_eq_false_iff_ne]; omega
 have a4 := bM5;go_enter func88, ntmps88;go_wp2
 go_loopw [0, 3] (fun a b wr => ∃ (f m : Nat) (out : Tx), a = .int .i64 (m : Int) ∧ b = .string out ∧ m ≤ 4293001440 ∧ f ≤ 10 ∧ out.size ≤ 10 - f ∧ Bw w wr ∧ Hid (m < 10 ^ f ∧ dgZ m ++ out.data.toList = Lib.decDigits n)) (fun a _ _ => (intOf a).toNat)
 case atStart => exact ⟨10, n, _, rfl, rfl, hn, Nat.le_refl _, Nat.le_refl _, Below.refl _ _, ⟨by omega, by simp [dgZ, h0]⟩⟩
 case round =>
  obtain ⟨f, m, out, rfl, rfl, hm, a5, hsz, a0, hd⟩ := hrel;by_cases hp : (0 : Int) < (m : Int)
  rotate_left
  ·have hT : Hid (out = decT n) := by
    obtain ⟨_, h⟩ := hd.out
    have e : m = 0 := by omega
    rw [e] at h
    exact cI2 (by rw [bX5]; exact h)
   go_wp2
   go_ret;exact aD6.of hT.out a0
  have a1 : ∀ d : Int, (strOfNums [d]).size = 1 := fun d => strOfNums_size [d]
  go_wp2
  go_roundw
  case rel =>
   obtain ⟨hf, a2⟩ := hd.out;cases f with
   | zero => simp at hf; omega
   | succ f =>
    rw [Nat.pow_succ] at hf
    refine ⟨f, m / 10, strOfNums [48 + (m : Int) % 10] ++ out, by simp, rfl, by omega, by omega, ?_, a0.alloc a0.size _, by omega, ?_⟩
    ·rw [ByteArray.size_append, a1]; omega
    ·have e : (strOfNums [48 + (m : Int) % 10]).data.toList = [UInt8.ofNat (48 + m % 10)] := by
      rw [strOfNums_data]
      have : (48 + (m : Int) % 10).toNat = 48 + m % 10 := by omega
      simp only [List.map_cons, List.map_nil, this]
     rw [cR2 m (by omega), List.append_assoc] at a2
     rw [← a2, ByteArray.data_append, Array.toList_append, e]
  case measure => simp [intOf]; omega
theorem aU0 (n : Nat) (h : n ≤ 4293001440) : (decT n).size ≤ 10 := by
 have e : (decT n).size = (Lib.decDigits n).length := by rw [← aU9, bX5]
 rw [e]
 have a0 : ∀ (f m : Nat), m < 10 ^ (f + 1) → (Lib.decDigits m).length ≤ f + 1 := by
  intro f
  induction f with
  | zero => intro m hm; rw [Lib.decDigits_one (by simpa using hm)]; exact Nat.le_refl _
  | succ f ih =>
   intro m hm
   rw [Lib.decDigits]
   split
   ·simp
   ·rw [List.length_append]
    have := ih (m / 10) (by rw [Nat.pow_succ] at hm; omega)
    simp only [List.length_cons, List.length_nil]
    omega
 exact a0 9 n (by omega)
theorem bI3 (seq : Nat) (b : Tx) (h1 : seq ≤ 100000) (h2 : b.size ≤ 2000) : (recR seq b).size ≤ 3000 := by
 unfold recR;rw [ByteArray.size_append, ByteArray.size_append, ByteArray.size_append, ByteArray.size_append];have e1 := aU0 seq (by omega);have e2 := aU0 b.size (by omega);have e3 : (⟨#[32]⟩ : Tx).size = 1 := rfl;have e4 : (⟨#[10]⟩ : Tx).size = 1 := rfl;omega
theorem aK7 (seq : Int) (b : ByteArray) (w : World) (hb : b.size ≤ 4000000) :
    Calls prog 32 #[.int .i64 seq, .string b] w fun e w' => aD6 (recI seq b) w e w' := by
  by_cases h1 : 1 ≤ seq ∧ seq ≤ 100000
  · by_cases h2 : b.size ≤ 2000
    · obtain ⟨q, rfl⟩ : ∃ q : Nat, seq = (q : Int) := ⟨seq.toNat, by omega⟩
      have hq : q ≤ 100000 := by omega
      have h3 : ¬ (2000 : Int) < (b.size : Int) := by omega
      have hin : decide ((1 : Int) ≤ (q : Int) ∧ (q : Int) ≤ 100000) = true := decide_eq_true h1
      have HR : Hid (recI (q : Int) b = recT q b) := bE1 ⟨h1.1, h1.2, h2⟩
      have HRS : Hid ((recR q b).size ≤ 3000) := bI3 q b hq h2
      clear h1
      go_enter func32, ntmps32
      go_wp2_with fail
      refine (aH6 _ _ _ _).mono ?_
      rintro e w1 ⟨rfl, rfl⟩
      rw [hin]
      clear hin
      go_wp2_with fail
      refine (aT9 q _ (by omega)).mono ?_
      rintro e w2 ⟨rfl, b2⟩
      have HB2 : Hid (Below w1.heap.size w1 w2) := b2
      have hz1 := aU0 q (by omega)
      have hz2 := aU0 b.size (by omega)
      clear b2
      go_wp2_with fail
      refine (aT9 b.size _ (by omega)).mono ?_
      rintro e w3 ⟨rfl, b3⟩
      have HB3 : Hid (Below w1.heap.size w1 w3) := HB2.out.trans (b3.mono HB2.out.size)
      clear b3 HB2
      go_wp2_with fail
      obtain ⟨R, hR⟩ : ∃ R, R = decT q ++ ⟨#[32]⟩ ++ decT b.size ++ ⟨#[10]⟩ ++ b := ⟨_, rfl⟩
      rw [← hR]
      have HRE : Hid (R = recR q b) := hR
      have hRz : R.size ≤ 3000 := by rw [HRE.out]; exact HRS.out
      clear hR
      refine (bY9 R _ (by unfold maxLen; omega)).mono ?_
      rintro e w4 ⟨rfl, hw4⟩
      rw [hw4]
      clear hw4 w4
      have hz3 := aU0 (sumP R) (bO0 R)
      go_wp2_with fail
      refine (aT9 (sumP R) _ (bO0 R)).mono ?_
      rintro e w4 ⟨rfl, b4⟩
      have HB4 : Hid (Below w1.heap.size w1 w4) := HB3.out.trans (b4.mono HB3.out.size)
      clear b4 HB3
      go_wp2_with fail
      go_ret
      exact aD6.of (by rw [HR.out, recT, ← HRE.out]) HB4.out
    · have h3 : (2000 : Int) < (b.size : Int) := by omega
      have hin : decide ((1 : Int) ≤ seq ∧ seq ≤ 100000) = true := decide_eq_true h1
      have HR : Hid (recI seq b = ⟨#[]⟩) := bO1 (fun h => h2 h.2.2)
      clear h1
      go_enter func32, ntmps32
      go_wp2_with fail
      refine (aH6 _ _ _ _).mono ?_
      rintro e w1 ⟨rfl, rfl⟩
      rw [hin]
      clear hin
      go_wp2_with fail
      go_ret
      exact aD6.of HR.out.symm (Below.refl _ _)
  · have hin : decide ((1 : Int) ≤ seq ∧ seq ≤ 100000) = false := decide_eq_false h1
    have HR : Hid (recI seq b = ⟨#[]⟩) := bO1 (fun h => h1 ⟨h.1, h.2.1⟩)
    clear h1
    go_enter func32, ntmps32
    go_wp2_with fail
    refine (aH6 _ _ _ _).mono ?_
    rintro e w1 ⟨rfl, rfl⟩
    rw [hin]
    clear hin
    go_wp2_with fail
    go_ret
    exact aD6.of HR.out.symm (Below.refl _ _)
def NatB (n : Nat) (w : World) (e : Ending) (w' : World) : Prop := e = .returned (.int .i64 (n : Int)) ∧ Below w.heap.size w w'
theorem bZ0 (s : Tx) (w : World) (hs : s.size ≤ maxLen) :
  Calls prog 241 #[.string s] w fun e w' => NatB (sumP s) w e w' := by
 unfold maxLen at hs;go_enter func241, ntmps241;go_wp2
 go_loopw [3, 4, 8] (fun a b i wr => ∃ (k A B : Nat), k ≤ s.size ∧ i = .int .i64 (k : Int) ∧ a = .int .i64 (A : Int) ∧ b = .int .i64 (B : Int) ∧ A < 65521 ∧ B < 65521 ∧ wr = w ∧ Hid ((A, B) = sumL (1, 0) ((bs s).take k))) (fun _ _ i _ => s.size - (intOf i).toNat)
 case atStart => exact ⟨0, 1, 0, Nat.zero_le _, rfl, rfl, rfl, by omega, by omega, rfl, rfl⟩
 case round =>
  obtain ⟨k, A, B, hk, rfl, rfl, rfl, hA, hB, rfl, HS⟩ := hrel;by_cases hlt : (k : Int) < (s.size : Int)
  rotate_left
  ·have HE : Hid ((A, B) = sumL (1, 0) (bs s)) := by
    have h := HS.out
    rw [List.take_of_length_le (by rw [aU9]; omega)] at h
    exact h
   go_wp2
   go_ret;refine ⟨?_, Below.refl _ _⟩;have h := HE.out;unfold sumP;rw [← h];simp
  have a0 : k < s.size := by omega
  have hx : (s[k]'a0).toNat < 256 := (s[k]'a0).toNat_lt
  have a1 : Hid ((bs s).take (k + 1) = (bs s).take k ++ [s[k]'a0]) := by
   rw [Hid, List.take_add_one, bsAt a0]
   rfl
  go_wp2
  go_roundw
  case rel =>
   refine ⟨k + 1, (A + (s[k]'a0).toNat) % 65521, (B + (A + (s[k]'a0).toNat) % 65521) % 65521, by omega, by simp, ?_, ?_, Nat.mod_lt _ (by decide), Nat.mod_lt _ (by decide), trivial, ?_⟩
   ·congr 1
   ·congr 1
   rw [Hid, a1.out, bG6, ← HS.out]
  case measure => simp [intOf]; omega
theorem cR3 (n : Nat) (h : n ≤ 1000000) : decT n = aI6 n := by
 apply cI2
 rw [bX5];show Lib.decDigits n = numL n
 unfold numL;rw [if_neg (by omega)];by_cases h0 : n = 0
 ·rw [if_pos h0, h0]; exact aX0
 rw [if_neg h0, cO8 8 n (by omega) h0]
theorem aR9 {w W : World} {q : Nat} {row : Option Nat} (h : w.grownBy W row) (hq : w.heap.size ≤ q) (o : Nat) (v : Value) : w.grownBy (W.setCell ⟨q, o, none⟩ v) row :=
 ⟨h.os, h.tape, h.output, by rw [World.size_setCell]; exact h.size, fun i hi hne => by rw [heap_setCell_other _ _ i _ (fun e => by have e2 : i = q := e; omega)]; exact h.block i hi hne⟩
theorem bZ1 (n : Nat) (w : World) (h : n ≤ 4293001440) (hT : aL2 w) :
  Calls prog 210 #[.int .i64 (n : Int)] w fun e w' => aD6 (decT n) w e w' := by
 refine (Tryz.strconv_Itoa (n : Int) (by omega) (by omega) w hT).mono ?_;rintro e w1 ⟨rfl, k, os, rfl⟩;refine ⟨?_, Lib.below_grow w.heap.size w (Nat.le_refl _) k os⟩;have e : Lib.itoa (n : Int) = Lib.decDigits n := by unfold Lib.itoa; rw [if_neg (by omega)]; simp
 rw [e];rfl
theorem bL7 (n : Nat) (w : World) (h : n ≤ 1000000) (hT : aL2 w) :
  Calls prog 176 #[.int .i64 (n : Int)] w fun e w' => aD6 (decT n) w e w' := by
 have e : aE7 (n : Int) = decT n := by unfold aE7; rw [if_neg (by omega), cR3 n h]; simp
 rw [← e];exact aJ9 (n : Int) w (by omega) (by omega) hT
theorem cK7 (q : Int) (b : Tx) (w : World) (h : RecP q b) :
  Calls prog 240 #[.agg #[.int .i64 q, .string b]] w fun e w' => e = .returned (.bool true) ∧ Below w.heap.size w w' := by
 obtain ⟨h1, h2, h3⟩ := h;have h4 : (b.size : Int) ≤ 2000 := by omega
 go_enter func240, ntmps240;go_wp2
 go_ret;exact ⟨rfl, (Below.refl _ _).alloc (Nat.le_refl _) _⟩
theorem cN7 (q : Int) (b : Tx) (w : World) (h : ¬ RecP q b) :
  Calls prog 240 #[.agg #[.int .i64 q, .string b]] w fun e w' => e = .returned (.bool false) ∧ Below w.heap.size w w' := by
 by_cases h1 : 1 ≤ q
 rotate_left
 ·clear h;go_enter func240, ntmps240;go_wp2
  go_ret;exact ⟨rfl, (Below.refl _ _).alloc (Nat.le_refl _) _⟩
 by_cases h2 : q ≤ 100000
 rotate_left
 ·clear h;go_enter func240, ntmps240;go_wp2
  go_ret;exact ⟨rfl, (Below.refl _ _).alloc (Nat.le_refl _) _⟩
 have h4 : ¬ (b.size : Int) ≤ 2000 := fun h3 => h ⟨h1, h2, by omega⟩
 clear h;go_enter func240, ntmps240;go_wp2
 go_ret;exact ⟨rfl, (Below.refl _ _).alloc (Nat.le_refl _) _⟩
theorem cF7 (q : Int) (b : Tx) (w : World) (h : ¬ RecP q b) :
  Calls prog 207 #[.agg #[.int .i64 q, .string b]] w fun e w' => aD6 (recI q b) w e w' := by
 have HP := hid h;clear h;have K0 := jnil w;go_enter func207, ntmps207;go_upto_region 1 with fail
 obtain ⟨q1, a1⟩ := exq (w.heap.size);obtain ⟨w1, a0⟩ := exq (w.alloc (.cells #[.int .i64 q, .string b] 212));have a2 := a1.symm;rw [← a0]; try rw [← a1];have a4 := hsa a0 a2;have bw := bal a0;have K1 := ja K0 a0 a2;clear bw a0 a2 K0;clear a4 a1;have a3 := c2c (jb K1 0 rfl);go_wp2_with fail
 refine (cN7 q b _ HP.out).mono ?_;rintro e w2 ⟨rfl, bw⟩;have K2 := jw K1 bw;clear bw K1;clear a3;go_wp2_with fail
 go_ret;exact aD6.of (bO1 HP.out).symm K2.hb
theorem bZ2 (q : Nat) (b : Tx) (w : World) (h : RecP (q : Int) b) (hT : aL2 w) :
  Calls prog 207 #[.agg #[.int .i64 (q : Int), .string b]] w fun e w' => aD6 (recI (q : Int) b) w e w' := by
 have HP := hid h;have hq : q ≤ 100000 := by have := h.2.1; omega
 have b8 : b.size ≤ 2000 := h.2.2;have a5 : Hid (∀ W, Bw w W → aL2 W) := fun W h => hT.below h
 obtain ⟨d1, a6⟩ := exq (decT q);have b4 : Hid (decT q = d1) := a6.symm;have z1 : d1.size ≤ 10 := by rw [a6]; exact aU0 _ (by omega)
 obtain ⟨d2, a7⟩ := exq (decT b.size);have b5 : Hid (decT b.size = d2) := a7.symm;have z2 : d2.size ≤ 10 := by rw [a7]; exact aU0 _ (by omega)
 clear h hT a6 a7;have K0 := jnil w;go_enter func207, ntmps207;go_upto_region 1 with fail
 obtain ⟨q1, a8⟩ := exq (w.heap.size);obtain ⟨w1, a3⟩ : ∃ W, W = w.alloc (.cells #[.int .i64 (q : Int), .string b] 212) := ⟨_, rfl⟩;have a9 := a8.symm;rw [← a3]; try rw [← a8];have b9 := hsa a3 a9;have bw := bal a3;have K1 := ja K0 a3 a9;clear bw a3 a9 K0;clear b9 a8;have b0 := c2c (jb K1 0 rfl);go_wp2_with fail
 refine (cK7 (q : Int) b _ HP.out).mono ?_;rintro e w2 ⟨rfl, bw⟩;have K2 := jw K1 bw;clear bw K1;clear b0;go_upto_region 3 with fail
 refine wp_region_held_drew (S := fun W => W.heap[q1]? = some (.cells #[.int .i64 (q : Int), .string b] 212)) (by kernel_rfl) (jb K2 0 rfl) (fun _ => ?_)
 obtain ⟨w3, hX⟩ := exq w2.drew;have bw := bdr hX;rw [← hX];have K3 := jw K2 bw;have a1 := (jb K3 0 rfl);clear bw hX K2;refine tkP 0 (.pointer (some ⟨q1, 0, none⟩)) 7 rfl rfl a1 ?_;go_frame;refine tkL 1 (.int .i64 (q : Int)) 8 rfl rfl (Or.inl ⟨by rfl, by intro W hW; have a0 := hW; have y0 := c2c a0; go_simp⟩) a1 ?_;go_frame;refine tkP 4 (.pointer (some ⟨q1, 1, none⟩)) 11 rfl rfl a1 ?_;go_frame;refine tkL 5 (.string b) 12 rfl rfl (Or.inl ⟨by rfl, by intro W hW; have a0 := hW; have y1 := c2c a0; go_simp⟩) a1 ?_;go_frame;refine tkP 6 (.int .i64 (b.size : Int)) 13 rfl rfl a1 (tkP 10 (.pointer (some ⟨q1, 1, none⟩)) 17 rfl rfl a1 ?_);go_frame;refine tkL 11 (.string b) 18 rfl rfl (Or.inl ⟨by rfl, by intro W hW; have a0 := hW; have y1 := c2c a0; go_simp⟩) a1 ?_;go_frame;refine rd1 2 rfl (fun K hK => ?_)
 go_simp;refine (bL7 q _ (by omega) (a5.out _ K3.hb)).mono ?_;rintro e w4 ⟨rfl, bw⟩;rw [b4.out];have K4 := jw K3 bw;clear bw K3;have b1 := (jb K4 0 rfl);refine hK.out _ _ b1 (fun _ => ?_)
 clear hK K a1;refine tkL 3 (.string (d1 ++ ⟨#[32]⟩)) 10 rfl rfl (Or.inl ⟨by rfl, by intro W _; go_simp <;> omega⟩) b1 ?_;go_frame;refine rd1 7 rfl (fun K hK => ?_)
 go_simp;refine (bL7 b.size _ (by omega) (a5.out _ K4.hb)).mono ?_;rintro e w5 ⟨rfl, bw⟩;rw [b5.out];have K5 := jw K4 bw;clear bw K4;have a2 := (jb K5 0 rfl);refine hK.out _ _ a2 (fun _ => ?_)
 clear hK K b1;refine tkL 8 (.string ((d1 ++ ⟨#[32]⟩) ++ d2)) 15 rfl rfl (Or.inl ⟨by rfl, by intro W _; go_simp <;> omega⟩) a2 ?_;go_frame;refine tkL 9 (.string (((d1 ++ ⟨#[32]⟩) ++ d2) ++ ⟨#[10]⟩)) 16 rfl rfl (Or.inl ⟨by rfl, by intro W _; go_simp <;> omega⟩) a2 ?_;go_frame;refine tkL 12 (.string ((((d1 ++ ⟨#[32]⟩) ++ d2) ++ ⟨#[10]⟩) ++ b)) 19 rfl rfl (Or.inl ⟨by rfl, by intro W _; go_simp <;> omega⟩) a2 ?_;go_frame;refine tkP 13 (.string ((((d1 ++ ⟨#[32]⟩) ++ d2) ++ ⟨#[10]⟩) ++ b)) 3 rfl rfl a2 ?_;go_frame;clear a2;refine wdn ?_;go_wp2_with fail
 obtain ⟨R, hR⟩ := exq (((((d1 ++ ⟨#[32]⟩) ++ d2) ++ ⟨#[10]⟩) ++ b));rw [← hR];have HR : Hid (R = recR q b) := by show _ = _; rw [hR]; unfold recR; rw [b4.out, b5.out]
 have c0 : R.size ≤ 3000 := by rw [HR.out]; exact bI3 q b hq b8
 clear hR;obtain ⟨sm, b2⟩ := exq (sumP R);have b6 : Hid (sumP R = sm) := b2.symm;have a4 : sm ≤ 4293001440 := by rw [b2]; exact bO0 _
 clear b2;obtain ⟨d3, b3⟩ := exq (decT sm);have b7 : Hid (decT sm = d3) := b3.symm;have z3 : d3.size ≤ 10 := by rw [b3]; exact aU0 _ a4
 clear b3;refine (bZ0 R _ (by unfold maxLen; omega)).mono ?_;rintro e w6 ⟨rfl, bw⟩;rw [b6.out];have K6 := jw K5 bw;clear bw K5;go_wp2_with fail
 refine (bZ1 sm _ a4 (a5.out _ K6.hb)).mono ?_;rintro e w7 ⟨rfl, bw⟩;rw [b7.out];have K7 := jw K6 bw;clear bw K6;go_wp2_with fail
 go_ret;refine aD6.of ?_ K7.hb;rw [bE1 HP.out];unfold recT;rw [Int.toNat_natCast, ← HR.out, b6.out, b7.out]
theorem bZ3 (q : Int) (b : Tx) (w : World) (hT : aL2 w) :
  Calls prog 207 #[.agg #[.int .i64 q, .string b]] w fun e w' => aD6 (recI q b) w e w' := by
 by_cases h : RecP q b
 rotate_left
 ·exact cF7 q b w h
 obtain ⟨n, rfl⟩ : ∃ n : Nat, q = (n : Int) := ⟨q.toNat, by have := h.1; omega⟩;exact bZ2 n b w h hT
theorem bI4 (seq : Int) (b : Tx) (w : World) (_hb : b.size ≤ 4000000) (hT : aL2 w) :
  Calls prog 173 #[.int .i64 seq, .string b] w fun e w' => aD6 (recI seq b) w e w' := by
 have HT : Hid (aL2 w) := hT;clear hT;go_enter func173, ntmps173;go_wp2_with fail
 refine (bZ3 seq b _ HT.out).mono ?_;rintro e w1 ⟨rfl, bw⟩;have HB : Hid (Bw w w1) := bw;clear bw;go_wp2_with fail
 go_ret;exact aD6.of rfl HB.out
theorem aE9 {w W : World} {c : Nat} (h : w.grownBy W (some c)) (o : Nat) (v : Value) : w.grownBy (W.setCell ⟨c, o, none⟩ v) (some c) :=
 h.andThen (row' := some c) ⟨rfl, rfl, rfl, by simp, fun i _ hne => heap_setCell_other _ _ i _ (fun e => hne (by rw [e]))⟩ (fun j hj => by cases hj; exact Or.inr rfl)
theorem aN0 {cs : Ts} {ws : List (Int × ByteArray)} (M : Nat) (h1 : ∀ i, i < cs.length → (aA8 cs i).size ≤ M) (h2 : ∀ x ∈ ws, x.2.size ≤ M) (f : Nat → Bool) : ∀ k, k ≤ ws.length → ∀ i, i < cs.length → (aA8 (aD8 cs ws f k) i).size ≤ M
 | 0, _, i, hi => h1 i hi
 | k + 1, hk, i, hi => by
  rw [aD8]
  split
  ·rw [bA9]
   split
   · exact h2 _ (aI0 ws k (by omega))
   · exact aN0 M h1 h2 f k (by omega) i hi
  · exact aN0 M h1 h2 f k (by omega) i hi
theorem bP6 (c b : Nat) (v1 v2 V VB : Value) (cs : Ts) (ws : List (Int × ByteArray)) (nx sq x : Int) (bd : Tx) (B : Nat) (w : World) (hq : w.heap[c]? = some (.cells #[v1, v2, V, VB, .int .i64 nx, .int .i64 sq, .map (some b)] 143)) (hd : aD3 w B v1 cs.length cs v2 ws.length ws) (hp : aG5 cs ws) (hz1 : ∀ i, i < cs.length → (aA8 cs i).size ≤ 1048576) (hz2 : ∀ x ∈ ws, x.2.size ≤ 1048576) (hx : 0 ≤ x ∧ x ≤ 19) (hbd : bd.size ≤ 4000000) (hrz : (recI sq bd).size ≤ 1048576) (hs1 : 1 ≤ sq) (hs2 : sq ≤ 100000) (hT : ∀ W, w.grownBy W (some c) → aL2 W) :
  Calls prog 111 #[.pointer (some ⟨c, 0, none⟩), .int .i64 x, .string bd] w fun e w' =>
   ((recI sq bd = ⟨#[]⟩ ∨ sq = 100000) ∧ e = .returned (.bool false) ∧ w'.heap[c]? = some (.cells #[v1, v2, V, VB, .int .i64 nx, .int .i64 sq, .map (some b)] 143) ∧ w.grownBy w' (some c)) ∨
   (¬ (recI sq bd = ⟨#[]⟩ ∨ sq = 100000) ∧ e = .returned (.bool true) ∧ ∃ u1 u2, w'.heap[c]? = some (.cells #[u1, u2, V, VB, .int .i64 nx, .int .i64 (sq + 1), .map (some b)] 143) ∧ aD3 w' w.heap.size u1 (aU8 cs ws).length (aU8 cs ws) u2 (aV4 ws x (recI sq bd)).length (aV4 ws x (recI sq bd)) ∧ w.grownBy w' (some c)) := by
 obtain ⟨oC, pC, e1⟩ := aA0 hd.cells;obtain ⟨oP, pP, e2⟩ := aA0 hd.pend;subst e1 e2;have j9 : Hid (w.ownsRow B 9 1 (.slice oC cs.length pC) cs.length (cs.map Value.string)) := hd.cells;have k0 : Hid (w.ownsRow B 155 2 (.slice oP ws.length pP) ws.length (aA1 ws)) := hd.pend;have d9 := hid hq;have j4 := hid hp;have p3 : cs.length ≤ 20 := by rw [hp.1]; exact Nat.le_refl _
 have p4 : ws.length ≤ 16 := hp.2.1;have l0 := hid hz1;have l1 := hid hz2;have HX := hid hx;have n7 := hid hbd;have HT := hid hT;obtain ⟨tx, l2⟩ := exq (recI sq bd);have j5 : Hid (recI sq bd = tx) := l2.symm;have n1 : Hid (tx.size ≤ 1048576) := by show _ ≤ _; rw [l2]; exact hrz
 have p5 : -9223372036854775808 ≤ sq + 1 ∧ sq + 1 ≤ 9223372036854775807 := by omega
 clear hd hq hp hz1 hz2 hx hbd hT l2 hrz;have l3 : w.grownBy w (some c) := World.grownBy.refl _ _;go_enter func111, ntmps111;have b1 := (k7c d9).2.2.2.2.2.1;go_wp2_with fail
 refine (bI4 sq bd _ n7.out (HT.out _ l3)).mono ?_;rintro e w1 ⟨rfl, bw⟩;rw [j5.out];have h2 : w.grownBy w1 (some c) := aH4 l3 (aF5 bw _);have d0 := hown j9 bw;have d1 := hown k0 bw;have a6 := hblk d9 bw;clear l3 bw;clear b1;by_cases hc1 : tx = ⟨#[]⟩
 ·have l4 : (tx).toList.isEmpty = true := aS3 (by rw [hc1]; rfl);have k7 := hid hc1;clear hc1;go_wp2_with fail
  go_ret;exact .inl ⟨.inl (j5.out.trans k7.out), rfl, a6.out, h2⟩
 have l4 : (tx).toList.isEmpty = false := bA0 (Nat.pos_of_ne_zero (fun e => hc1 (bA6 e)))
 have k7 := hid hc1;clear hc1;have b1 := (k7c a6).2.2.2.2.2.1;by_cases hc2 : sq = 100000
 ·have l5 : ((sq : Int) == (100000 : Int)) = true := by simpa using hc2
  have l6 : ((sq : Int) != (100000 : Int)) = false := by simpa using hc2
  have k8 := hid hc2;have l7 := hid hc2;clear hc2;go_wp2_with fail
  go_ret;exact .inl ⟨.inr k8.out, rfl, a6.out, h2⟩
 have l5 : ((sq : Int) == (100000 : Int)) = false := by simpa using hc2
 have l6 : ((sq : Int) != (100000 : Int)) = true := by simpa using hc2
 have k8 := hid hc2;have l7 := hid hc2;clear hc2;have a8 := (k7c a6).2.1;by_cases hc3 : (ws.length : Int) = 16
 ·have l8 : (((ws.length : Int) : Int) == (16 : Int)) = true := by simpa using hc3
  have l9 : (((ws.length : Int) : Int) != (16 : Int)) = false := by simpa using hc3
  have j6 : Hid ((ws.length = 16)) := (by have := hc3; show _ = _; omega);have m0 := hid hc3;clear hc3;have a7 := (k7c a6).1;obtain ⟨d8, h4⟩ := exq (aL5 cs ws (fun _ => true))
  obtain ⟨e0, h5⟩ : ∃ l, l = ([] : List (Int × ByteArray)) := ⟨_, rfl⟩;have k1 : Hid (d8 = aL5 cs ws (fun _ => true) ∧ e0 = []) := ⟨h4, h5⟩
  have n2 : Hid (aG5 d8 e0) := by show aG5 _ _; rw [h4, h5, aR2 j4.out]; exact bC2 j4.out _ _
  have p6 : d8.length ≤ 20 := by rw [n2.out.1]; exact Nat.le_refl _
  have p7 : e0.length ≤ 0 := by rw [h5]; exact Nat.le_refl _
  have n8 : Hid (∀ i, i < d8.length → (aA8 d8 i).size ≤ 1048576) := fun i hi => by rw [h4, aR2 j4.out]; exact aN0 _ l0.out l1.out _ _ (Nat.le_refl _) i (by rw [j4.out.1]; omega)
  clear h4 h5;go_wp2_with fail
  refine ((aZ7 _ _ _ cs _ ws _ _ ⟨d0.out, d1.out⟩ (by omega) (by omega) l0.out l1.out).mono (fun e w' h => (by rw [← k1.out.1, ← k1.out.2] at h; exact h : aU3 d8 e0 _ e w'))).mono ?_
  rintro e w2 ⟨va, vb, rfl, k2, bw⟩;obtain ⟨c4, c5⟩ := k2;obtain ⟨n9, o0, rfl⟩ := aA0 c4;obtain ⟨o1, o2, rfl⟩ := aA0 c5;have j7 : w.grownBy w2 (some c) := aH4 h2 (aF5 bw _);have o3 := hsz bw;have d2 := hown d0 bw;have d3 := hown d1 bw;have a2 := hblk a6 bw;have e3 := hwd c4 h2.size;clear c4;have e4 := hwd c5 h2.size;clear c5;clear h2 bw;clear b1 a8 a7;have a7 := (k7c a2).1;have b2 := hfz a2 0;have a8 := (k7c a2).2.1;have b3 := hfz a2 1;go_upto_region 6 with fail
  obtain ⟨w3, c6⟩ := exq (w2.setCell ⟨c, 0, none⟩ (.slice n9 d8.length o0));rw [← c6];have k3 : w.grownBy w3 (some c) := by rw [c6]; exact (aE9 j7 0 _)
  have o4 : Hid (w2.heap.size ≤ w3.heap.size) := by show _ ≤ _; rw [c6]; simp
  have c1 := aB5 c6 (aA9 d2.out a2.out (by decide)) d2;have c2 := aB5 c6 (aA9 d3.out a2.out (by decide)) d3;have e5 := aB5 c6 (aA9 e3.out a2.out (by decide)) e3;have e6 := aB5 c6 (aA9 e4.out a2.out (by decide)) e4;have a0 := hput c6 a2;clear j7 c6;obtain ⟨w4, b4⟩ := exq (w3.setCell ⟨c, 1, none⟩ (.slice o1 e0.length o2));rw [← b4];have i1 : w.grownBy w4 (some c) := by rw [b4]; exact (aE9 k3 1 _)
  have o5 : Hid (w3.heap.size ≤ w4.heap.size) := by show _ ≤ _; rw [b4]; simp
  have d4 := aB5 b4 (aA9 c1.out a0.out (by decide)) c1;have d5 := aB5 b4 (aA9 c2.out a0.out (by decide)) c2;have e7 := aB5 b4 (aA9 e5.out a0.out (by decide)) e5;have e8 := aB5 b4 (aA9 e6.out a0.out (by decide)) e6;have a4 := hput b4 a0;clear k3 b4;clear a7 b2 a8 b3;have a7 := (k7c a4).1;have a8 := (k7c a4).2.1;obtain ⟨b5, c7⟩ := exq d8;obtain ⟨b6, c8⟩ := exq (e0 ++ [(x, tx)]);have k4 : Hid (b5 = d8 ∧ b6 = e0 ++ [(x, tx)]) := ⟨c7, c8⟩;have i2 : Hid (putC d8 e0 = b5 ∧ putW d8 e0 x tx = b6 ∧ putB d8 e0 x = true) := by show _ ∧ _; rw [c7, c8]; exact bG0 n2.out (by omega) HX.out tx
  clear c7 c8;go_wp2_with fail
  refine ((aV9 _ _ _ d8 _ e0 _ _ ⟨e7.out, e8.out⟩ (by omega) (by omega) n8.out (fun x hx => by rw [k1.out.2] at hx; simp at hx) x tx n1.out).mono (fun e w' h => (by rw [i2.out.1, i2.out.2.1, i2.out.2.2] at h; exact h : aT1 b5 b6 true _ e w'))).mono ?_
  rintro e w5 ⟨va, vb, rfl, k2, bw⟩;obtain ⟨c4, c5⟩ := k2;obtain ⟨e9, f0, rfl⟩ := aA0 c4;obtain ⟨f1, f2, rfl⟩ := aA0 c5;have j8 : w.grownBy w5 (some c) := aH4 i1 (aF5 bw _);have o6 := hsz bw;have d6 := hown d4 bw;have d7 := hown d5 bw;have i3 := hown e7 bw;have i4 := hown e8 bw;have a3 := hblk a4 bw;have b7 := hwd c4 i1.size;have m1 : Hid (∀ g, (Value.ownBlock (.slice e9 b5.length f0)) = some g → w4.heap.size ≤ g) := fun g hg => aB7 c4 hg
  have m2 : Hid (∀ g, (Value.ownBlock (.slice e9 b5.length f0)) = some g → g < w5.heap.size) := fun g hg => aA6 c4 hg
  clear c4;have b8 := hwd c5 i1.size;have m3 : Hid (∀ g, (Value.ownBlock (.slice f1 b6.length f2)) = some g → w4.heap.size ≤ g) := fun g hg => aB7 c5 hg
  have m4 : Hid (∀ g, (Value.ownBlock (.slice f1 b6.length f2)) = some g → g < w5.heap.size) := fun g hg => aA6 c5 hg
  clear c5;clear i1 bw;clear a7 a8;go_upto_region 7 with fail
  obtain ⟨q1, i5⟩ := exq (w5.heap.size);obtain ⟨w6, c3⟩ := exq (w5.alloc (.cells #[.slice e9 b5.length f0, .slice f1 b6.length f2] 39));have k5 := i5.symm;rw [← c3]; try rw [← i5];have o7 := hsa c3 k5;have bw := bal c3;have k9 : w.grownBy w6 (some c) := aH4 j8 (aF5 bw _);have o8 := hsz bw;have f3 := hown d6 bw;have f4 := hown d7 bw;have f5 := hown i3 bw;have f6 := hown i4 bw;have b9 := hown b7 bw;have c0 := hown b8 bw;have a1 := hblk a3 bw;have a9 := hnq a3 k5;have h6 := hnew c3 k5;have o9 := hgg k5 j8.size;clear j8 bw c3 k5;clear o7 i5;have a7 := (k7c a1).1;have b2 := hfz a1 0;have a8 := (k7c a1).2.1;have b3 := hfz a1 1;have i6 := (k2c h6).1;have i7 := (k2c h6).2;go_upto_region 8 with fail
  obtain ⟨w7, f7⟩ := exq (w6.setCell ⟨c, 0, none⟩ (.slice e9 b5.length f0));rw [← f7];have n3 : w.grownBy w7 (some c) := by rw [f7]; exact (aE9 k9 0 _)
  have h7 := aB5 f7 (aA9 f3.out a1.out (by decide)) f3;have h8 := aB5 f7 (aA9 f4.out a1.out (by decide)) f4;have f8 := aB5 f7 (aA9 f5.out a1.out (by decide)) f5;have f9 := aB5 f7 (aA9 f6.out a1.out (by decide)) f6;have g0 := aB5 f7 (aA9 b9.out a1.out (by decide)) b9;have g1 := aB5 f7 (aA9 c0.out a1.out (by decide)) c0;have m5 := hset f7 a9.out.symm h6;have b0 := hput f7 a1;clear k9 f7;obtain ⟨w8, g2⟩ := exq (w7.setCell ⟨c, 1, none⟩ (.slice f1 b6.length f2));rw [← g2];have n4 : w.grownBy w8 (some c) := by rw [g2]; exact (aE9 n3 1 _)
  have h9 := aB5 g2 (aA9 h7.out b0.out (by decide)) h7;have i0 := aB5 g2 (aA9 h8.out b0.out (by decide)) h8;have g3 := aB5 g2 (aA9 f8.out b0.out (by decide)) f8;have g4 := aB5 g2 (aA9 f9.out b0.out (by decide)) f9;have g5 := aB5 g2 (aA9 g0.out b0.out (by decide)) g0;have g6 := aB5 g2 (aA9 g1.out b0.out (by decide)) g1;have m6 := hset g2 a9.out.symm m5;have a5 := hput g2 b0;clear n3 g2;clear a7 b2 a8 b3 i6 i7;have b1 := (k7c a5).2.2.2.2.2.1;have c9 := hfz a5 5;go_upto_region 9 with fail
  obtain ⟨w9, g7⟩ := exq (w8.setCell ⟨c, 5, none⟩ (.int .i64 (sq + 1)));rw [← g7];have p0 : w.grownBy w9 (some c) := by rw [g7]; exact (aE9 n4 5 _)
  have n5 := aB5 g7 (aA9 h9.out a5.out (by decide)) h9;have n6 := aB5 g7 (aA9 i0.out a5.out (by decide)) i0;have m7 := aB5 g7 (aA9 g3.out a5.out (by decide)) g3;have m8 := aB5 g7 (aA9 g4.out a5.out (by decide)) g4;have i8 := aB5 g7 (aA9 g5.out a5.out (by decide)) g5;have i9 := aB5 g7 (aA9 g6.out a5.out (by decide)) g6;have p1 := hset g7 a9.out.symm m6;have j0 := hput g7 a5;clear n4 g7;clear b1 c9;go_wp2_with fail
  go_ret;refine .inr ⟨fun h => h.elim (fun h => k7.out (j5.out.symm.trans h)) k8.out, rfl, .slice e9 b5.length f0, .slice f1 b6.length f2, ?_, ?_, p0⟩
  ·exact j0.out
  have ec : aU8 cs ws = b5 := by rw [k4.out.1]; rw [k1.out.1]; unfold aU8; rw [if_pos j6.out]
  have ew : aV4 ws x (recI sq bd) = b6 := by rw [k4.out.2]; rw [k1.out.2, j5.out]; unfold aV4; rw [if_pos j6.out]; rfl
  rw [ec, ew];exact ⟨i8.out, i9.out⟩
 have l8 : (((ws.length : Int) : Int) == (16 : Int)) = false := by simpa using hc3
 have l9 : (((ws.length : Int) : Int) != (16 : Int)) = true := by simpa using hc3
 have j6 : Hid (¬ (ws.length = 16)) := (by have := hc3; show ¬ _; omega);have m0 := hid hc3;clear hc3;have a7 := (k7c a6).1;obtain ⟨b5, c7⟩ := exq cs;obtain ⟨b6, c8⟩ := exq (ws ++ [(x, tx)]);have k4 : Hid (b5 = cs ∧ b6 = ws ++ [(x, tx)]) := ⟨c7, c8⟩;have i2 : Hid (putC cs ws = b5 ∧ putW cs ws x tx = b6 ∧ putB cs ws x = true) := by show _ ∧ _; rw [c7, c8]; exact bG0 j4.out (by have := j4.out.2.1; have := j6.out; omega) HX.out tx
 clear c7 c8;go_wp2_with fail
 refine ((aV9 _ _ _ cs _ ws _ _ ⟨d0.out, d1.out⟩ (by omega) (by omega) l0.out l1.out x tx n1.out).mono (fun e w' h => (by rw [i2.out.1, i2.out.2.1, i2.out.2.2] at h; exact h : aT1 b5 b6 true _ e w'))).mono ?_
 rintro e w2 ⟨va, vb, rfl, k2, bw⟩;obtain ⟨c4, c5⟩ := k2;obtain ⟨e9, f0, rfl⟩ := aA0 c4;obtain ⟨f1, f2, rfl⟩ := aA0 c5;have j7 : w.grownBy w2 (some c) := aH4 h2 (aF5 bw _);have o3 := hsz bw;have d2 := hown d0 bw;have d3 := hown d1 bw;have a2 := hblk a6 bw;have j1 := hwd c4 h2.size;have m1 : Hid (∀ g, (Value.ownBlock (.slice e9 b5.length f0)) = some g → w1.heap.size ≤ g) := fun g hg => aB7 c4 hg
 have m2 : Hid (∀ g, (Value.ownBlock (.slice e9 b5.length f0)) = some g → g < w2.heap.size) := fun g hg => aA6 c4 hg
 clear c4;have j2 := hwd c5 h2.size;have m3 : Hid (∀ g, (Value.ownBlock (.slice f1 b6.length f2)) = some g → w1.heap.size ≤ g) := fun g hg => aB7 c5 hg
 have m4 : Hid (∀ g, (Value.ownBlock (.slice f1 b6.length f2)) = some g → g < w2.heap.size) := fun g hg => aA6 c5 hg
 clear c5;clear h2 bw;clear b1 a8 a7;go_upto_region 7 with fail
 obtain ⟨q1, i5⟩ := exq (w2.heap.size);obtain ⟨w3, c6⟩ := exq (w2.alloc (.cells #[.slice e9 b5.length f0, .slice f1 b6.length f2] 39));have k6 := i5.symm;rw [← c6]; try rw [← i5];have p2 := hsa c6 k6;have bw := bal c6;have k3 : w.grownBy w3 (some c) := aH4 j7 (aF5 bw _);have o4 := hsz bw;have c1 := hown d2 bw;have c2 := hown d3 bw;have g8 := hown j1 bw;have g9 := hown j2 bw;have a0 := hblk a2 bw;have a9 := hnq a2 k6;have j3 := hnew c6 k6;have o9 := hgg k6 j7.size;clear j7 bw c6 k6;clear p2 i5;have a7 := (k7c a0).1;have b2 := hfz a0 0;have a8 := (k7c a0).2.1;have b3 := hfz a0 1;have i6 := (k2c j3).1;have i7 := (k2c j3).2;go_upto_region 8 with fail
 obtain ⟨w4, b4⟩ := exq (w3.setCell ⟨c, 0, none⟩ (.slice e9 b5.length f0));rw [← b4];have i1 : w.grownBy w4 (some c) := by rw [b4]; exact (aE9 k3 0 _)
 have o5 : Hid (w3.heap.size ≤ w4.heap.size) := by show _ ≤ _; rw [b4]; simp
 have d4 := aB5 b4 (aA9 c1.out a0.out (by decide)) c1;have d5 := aB5 b4 (aA9 c2.out a0.out (by decide)) c2;have h0 := aB5 b4 (aA9 g8.out a0.out (by decide)) g8;have h1 := aB5 b4 (aA9 g9.out a0.out (by decide)) g9;have m9 := hset b4 a9.out.symm j3;have a4 := hput b4 a0;clear k3 b4;obtain ⟨w5, h3⟩ := exq (w4.setCell ⟨c, 1, none⟩ (.slice f1 b6.length f2));rw [← h3];have j8 : w.grownBy w5 (some c) := by rw [h3]; exact (aE9 i1 1 _)
 have o6 : Hid (w4.heap.size ≤ w5.heap.size) := by show _ ≤ _; rw [h3]; simp
 have d6 := aB5 h3 (aA9 d4.out a4.out (by decide)) d4;have d7 := aB5 h3 (aA9 d5.out a4.out (by decide)) d5;have b7 := aB5 h3 (aA9 h0.out a4.out (by decide)) h0;have b8 := aB5 h3 (aA9 h1.out a4.out (by decide)) h1;have n0 := hset h3 a9.out.symm m9;have a3 := hput h3 a4;clear i1 h3;clear a7 b2 a8 b3 i6 i7;have b1 := (k7c a3).2.2.2.2.2.1;have c9 := hfz a3 5;go_upto_region 9 with fail
 obtain ⟨w6, c3⟩ := exq (w5.setCell ⟨c, 5, none⟩ (.int .i64 (sq + 1)));rw [← c3];have k9 : w.grownBy w6 (some c) := by rw [c3]; exact (aE9 j8 5 _)
 have o8 : Hid (w5.heap.size ≤ w6.heap.size) := by show _ ≤ _; rw [c3]; simp
 have f3 := aB5 c3 (aA9 d6.out a3.out (by decide)) d6;have f4 := aB5 c3 (aA9 d7.out a3.out (by decide)) d7;have b9 := aB5 c3 (aA9 b7.out a3.out (by decide)) b7;have c0 := aB5 c3 (aA9 b8.out a3.out (by decide)) b8;have h6 := hset c3 a9.out.symm n0;have a1 := hput c3 a3;clear j8 c3;clear b1 c9;go_wp2_with fail
 go_ret;refine .inr ⟨fun h => h.elim (fun h => k7.out (j5.out.symm.trans h)) k8.out, rfl, .slice e9 b5.length f0, .slice f1 b6.length f2, ?_, ?_, k9⟩
 ·exact a1.out
 have ec : aU8 cs ws = b5 := by rw [k4.out.1]; unfold aU8; rw [if_neg j6.out]
 have ew : aV4 ws x (recI sq bd) = b6 := by rw [k4.out.2]; rw [j5.out]; unfold aV4; rw [if_neg j6.out]
 rw [ec, ew];exact ⟨b9.out, c0.out⟩
structure aC8 (w W : World) (c b : Nat) : Prop where
 os : W.os = w.os
 tape : W.tape = w.tape
 output : W.output = w.output
 size : w.heap.size ≤ W.heap.size
 block : ∀ j, j < w.heap.size → j ≠ c → j ≠ b → W.heap[j]? = w.heap[j]?
theorem aC8.refl (w : World) (c b : Nat) : aC8 w w c b := ⟨rfl, rfl, rfl, Nat.le_refl _, fun _ _ _ _ => rfl⟩
theorem aC8.below {w W W' : World} {c b : Nat} (h : aC8 w W c b) (hb : Below W.heap.size W W') : aC8 w W' c b := ⟨hb.os.trans h.os, hb.tape.trans h.tape, hb.output.trans h.output, Nat.le_trans h.size hb.size, fun j hj h1 h2 => (hb.block j (Nat.lt_of_lt_of_le hj h.size)).trans (h.block j hj h1 h2)⟩
theorem aC8.one {w W W' : World} {c b : Nat} (h : aC8 w W c b) (hg : W.grownBy W' (some c)) : aC8 w W' c b := ⟨hg.os.trans h.os, hg.tape.trans h.tape, hg.output.trans h.output, Nat.le_trans h.size hg.size, fun j hj h1 h2 => (hg.block j (Nat.lt_of_lt_of_le hj h.size) (fun e => h1 (Option.some.inj e))).trans (h.block j hj h1 h2)⟩
theorem aC8.two {w W W' : World} {c b : Nat} (h : aC8 w W c b) (hg : W.grownBy W' (some b)) : aC8 w W' c b := ⟨hg.os.trans h.os, hg.tape.trans h.tape, hg.output.trans h.output, Nat.le_trans h.size hg.size, fun j hj h1 h2 => (hg.block j (Nat.lt_of_lt_of_le hj h.size) (fun e => h2 (Option.some.inj e))).trans (h.block j hj h1 h2)⟩
theorem aC8.set {w W : World} {c b : Nat} (h : aC8 w W c b) {q : Nat} (hq : q = c ∨ w.heap.size ≤ q) (o : Nat) (v : Value) : aC8 w (W.setCell ⟨q, o, none⟩ v) c b := ⟨h.os, h.tape, h.output, by rw [World.size_setCell]; exact h.size, fun j hj h1 h2 => (heap_setCell_other _ _ j _ (fun e => by have e2 : j = q := e; rcases hq with h3 | h3 <;> omega)).trans (h.block j hj h1 h2)⟩
def cR4 (c b : Nat) (v1 v2 V VB : Value) (cs : Ts) (ws : List (Int × ByteArray)) (nx sq x : Int) (bd : Tx) (B : Nat) (w : World) (e : Ending) (w' : World) : Prop := ∃ (ok : Bool) (u1 u2 : Value) (cs' : Ts) (ws' : List (Int × ByteArray)) (sq' : Int) (B' : Nat), e = .returned (.bool ok) ∧ w'.heap[c]? = some (.cells #[u1, u2, V, VB, .int .i64 nx, .int .i64 sq', .map (some b)] 143) ∧ aD3 w' B' u1 cs'.length cs' u2 ws'.length ws' ∧ w.grownBy w' (some c) ∧ (ok = true → ¬ (recI sq bd = ⟨#[]⟩ ∨ sq = 100000) ∧ cs' = aU8 cs ws ∧ ws' = aV4 ws x (recI sq bd) ∧ sq' = sq + 1 ∧ B' = w.heap.size) ∧ (ok = false → (recI sq bd = ⟨#[]⟩ ∨ sq = 100000) ∧ u1 = v1 ∧ u2 = v2 ∧ cs' = cs ∧ ws' = ws ∧ sq' = sq ∧ B' = B)
theorem cK8 (c b : Nat) (v1 v2 V VB : Value) (cs : Ts) (ws : List (Int × ByteArray)) (nx sq x : Int) (bd : Tx) (B : Nat) (w : World) (hq : w.heap[c]? = some (.cells #[v1, v2, V, VB, .int .i64 nx, .int .i64 sq, .map (some b)] 143)) (hd : aD3 w B v1 cs.length cs v2 ws.length ws) (hp : aG5 cs ws) (hz1 : ∀ i, i < cs.length → (aA8 cs i).size ≤ 1048576) (hz2 : ∀ x ∈ ws, x.2.size ≤ 1048576) (hx : 0 ≤ x ∧ x ≤ 19) (hbd : bd.size ≤ 4000000) (hrz : (recI sq bd).size ≤ 1048576) (hs1 : 1 ≤ sq) (hs2 : sq ≤ 100000) (hT : ∀ W, w.grownBy W (some c) → aL2 W) :
  Calls prog 111 #[.pointer (some ⟨c, 0, none⟩), .int .i64 x, .string bd] w fun e w' => cR4 c b v1 v2 V VB cs ws nx sq x bd B w e w' := by
 refine (bP6 c b v1 v2 V VB cs ws nx sq x bd B w hq hd hp hz1 hz2 hx hbd hrz hs1 hs2 hT).mono ?_;rintro e w' (⟨h1, h2, h3, h4⟩ | ⟨h1, h2, u1, u2, h3, h4, h5⟩)
 ·refine ⟨false, v1, v2, cs, ws, sq, B, h2, h3, ⟨?_, ?_⟩, h4, (fun h => nomatch h), fun _ => ⟨h1, rfl, rfl, rfl, rfl, rfl, rfl⟩⟩
  ·exact aA7 hd.cells (fun g hg => h4.block g (aA6 hd.cells hg) (fun e => aH5 hd.cells (by decide : (143 : TypeId) ≠ 9) hq (by rw [hg, e])))
  exact aA7 hd.pend (fun g hg => h4.block g (aA6 hd.pend hg) (fun e => aH5 hd.pend (by decide : (143 : TypeId) ≠ 155) hq (by rw [hg, e])))
 exact ⟨true, u1, u2, _, _, sq + 1, w.heap.size, h2, h3, h4, h5, fun _ => ⟨h1, rfl, rfl, rfl, rfl⟩, (fun h => nomatch h)⟩
def aN1 (kv : Ks) : Prop := ∀ x ∈ kv, ∃ o1 c1 o2 c2 o3 c3, x.2.1 = .slice o1 x.1.xs.length c1 ∧ x.2.2.1 = .slice o2 x.1.ys.length c2 ∧ x.2.2.2 = .slice o3 x.1.fs.length c3
theorem aB8.slices {w : World} {B : Nat} {V : Value} {kv : Ks} (h : aB8 w B V kv) : aN1 kv := fun x hx => by
 obtain ⟨o1, c1, e1⟩ := aA0 (h.names hx)
 obtain ⟨o2, c2, e2⟩ := aA0 (h.vals hx)
 obtain ⟨o3, c3, e3⟩ := aA0 (h.flds hx)
 exact ⟨o1, c1, o2, c2, o3, c3, e1, e2, e3⟩
theorem aN1.sub {kv kv' : Ks} (h : aN1 kv) (hs : ∀ x ∈ kv', x ∈ kv) : aN1 kv' := fun x hx => h x (hs x hx)
theorem bL8 (f : FuncId) (q b n : Nat) (D : DataW Value) (kv : Ks) (G : KpD × Value × Value × Value → Bool) (w : World) (hown : aB9 w b n D) (hi : aP2 D kv) (ha : aF8 kv) (hsl : aN1 kv) (hcf : ∀ (args : Array Value) (W : World), (callFunc f args).run prog W = .ok (.enter f args) W)
  (hf : ∀ W, w.grownBy W (some b) → ∀ x ∈ kv, Calls prog f #[kpX x, .pointer (some ⟨q, 0, none⟩)] W fun e w' => e = .returned (.bool (G x)) ∧ Below W.heap.size W w') :
  Calls prog 108 #[.map (some b), .func (.func f) #[] #[.pointer (some ⟨q, 0, none⟩)]] w fun e w' => e = .returned (.tuple #[]) ∧ (∃ D', aB9 w' b n D' ∧ aP2 D' (kv.filter (fun y => !G y))) ∧ w.grownBy w' (some b) := by
 unfold aB9 at hown;have c5 := hid hf;have c6 := hid hsl;have b7 := hid ha;have HI := hid hi;clear hf hsl ha hi;go_enter func108, ntmps108
 go_wp2_with (first
  | (at_range; refine wpList_range_own _ rfl _ 141 rfl 3 82 bL4 underlying141 mpR b n D rfl hown ?_; intro w0 b0 c7 d4)
  | go_in)
 go_frame;go_loopw [8] (fun _ wr => ∃ (left : Lit → Bool) (cnt : Nat) (D1 : DataW Value), wr.ranges prog 3 mpR b w.heap.size n D1 left cnt ∧ Hid (aM9 G D1 left kv) ∧ w.grownBy wr (some b)) (fun _ wr => wr.rangeLeft b w.heap.size)
 case atStart => exact ⟨_, _, D, b0, aM9.start HI.out, c7.but _⟩
 case round =>
  obtain ⟨left, cnt, D1, a7, HF, b8⟩ := hrel
  go_wp2_with (first
   | (at_next; refine wpList_next_ranges _ rfl _ rfl 3 bL4 mpR (Value.int .i64) (fun v : Value => v) (fun d5 kl h => by obtain ⟨x, e, _⟩ := Maps.keyOf_int_inv underlying3 h; exact ⟨x, e⟩) (fun v y _ => ⟨v, rfl⟩) b w.heap.size n D1 left cnt rfl a7 ?_ ?_)
   | go_in)
  ·intro _ c8;go_wp2
   go_end0
   exact ⟨rfl, ⟨D1, a7.owns, HF.out.done c8⟩, b8⟩
  intro xa c kl yd yp w1 b1 a0 b2 hR b3 a1 c9 b9 d0 a8;have a4 := b8.andThen b9 (fun j hj => by cases hj; exact Or.inl (Nat.le_refl _))
  obtain ⟨xb, d1, d2, _⟩ := Maps.keyOf_int_inv underlying3 a0;cases d1
  subst d2;have ey := cJ9 hR;obtain ⟨d3, _⟩ := Prod.mk.inj ey;subst d3;obtain ⟨x, a9, ea, ec⟩ := HF.out.at b3;subst ea ec;obtain ⟨y, v1, v2, v3⟩ := x;obtain ⟨o1, c1, o2, c2, o3, c3, e1, e2, e3⟩ := c6.out _ a9;dsimp only at e1 e2 e3;subst e1 e2 e3;dsimp only at a0 b3 b2 a1 a8 ⊢;unfold kpX at a8;dsimp only at a8;have c0 := hid a9;have d6 := hid b2;have b4 := hid a0;obtain ⟨g, hG⟩ := exq (G (y, .slice o1 y.xs.length c1, .slice o2 y.ys.length c2, .slice o3 y.fs.length c3));have HG := hid hG;have HC : Hid (∀ W, w.grownBy W (some b) → Calls prog f #[.agg #[.string y.p, .slice o1 y.xs.length c1, .slice o2 y.ys.length c2, .int .i64 y.st, .slice o3 y.fs.length c3, .string y.b, .int .i64 y.t, .int .i64 y.a, .int .i64 y.q], .pointer (some ⟨q, 0, none⟩)] W fun e w' => e = .returned (.bool g) ∧ Below W.heap.size W w') := fun W hW => by rw [hG]; exact c5.out W hW _ a9
  have c4 : Hid (Below w1.heap.size w1 (w1.alloc (.cells #[.string y.p, .slice o1 y.xs.length c1, .slice o2 y.ys.length c2, .int .i64 y.st, .slice o3 y.fs.length c3, .string y.b, .int .i64 y.t, .int .i64 y.a, .int .i64 y.q] 82))) := (Below.refl _ _).alloc (Nat.le_refl _) _;have b5 : Hid (w.grownBy (w1.alloc (.cells #[.string y.p, .slice o1 y.xs.length c1, .slice o2 y.ys.length c2, .int .i64 y.st, .slice o3 y.fs.length c3, .string y.b, .int .i64 y.t, .int .i64 y.a, .int .i64 y.q] 82)) (some b)) := a4.andThen (World.grownBy_alloc w1 _ none) (fun j hj => by cases hj)
  clear hG a0 b2 b3 a9 hR;unfold kpX;dsimp only;go_wp2_with fail
  refine (HC.out _ b5.out).mono ?_;rintro e w2 ⟨rfl, bw⟩;have a2 := aQ2 (aQ2 a1 c4.out) bw;have a5 : w.grownBy w2 (some b) := b5.out.andThen (aF5 bw none) (fun j hj => by cases hj)
  clear a1 bw c4 b5 a4 a8 b9 d0 HC;cases g with
  | true =>
   go_wp2_with (first
    | (at_delete; refine wpList_delete_ranges _ rfl _ _ 141 3 rfl 82 bL4 underlying141 mpR b w.heap.size n _ _ _ rfl a2 _ _ rfl b4.out ?_; intro w3 b6 a3 d7 a6; go_frame)
    | go_in)
   rw [Maps.strike_twice] at a3;go_roundw
   case rel => exact ⟨_, b6, _, a3, HF.out.strike b7.out c0.out HG.out.symm, a5.andThen a6.grown (fun j hj => by cases hj; exact Or.inr rfl)⟩
   case measure => rw [a3.left_eq, a7.left_eq]; omega
  | false =>
   go_wp2_with fail
   go_roundw
   case rel => exact ⟨_, b1, D1, a2, HF.out.stay b7.out c0.out HG.out.symm, a5⟩
   case measure => rw [a2.left_eq, a7.left_eq]; exact c9
end Go.Proofs.YtejoifianjgefaaGreatDoor
namespace Go.Proofs
open Go.Shelf
def Tryz.sortK_ren : Go.Shelf.Ren := ⟨fun | 6 => 195 | 15 => 232 | 14 => 231 | 28 => 260 | 29 => 261 | 20 => 228 | 21 => 253 | 22 => 254 | 23 => 255 | 24 => 256 | 25 => 257 | 26 => 258 | 27 => 259 | 46 => 273 | 47 => 274 | 48 => 275 | 49 => 276 | 50 => 277 | 57 => 294 | n => n, fun | 22 => 40 | 24 => 82 | 25 => 169 | 3 => 3 | 39 => 267 | 0 => 0 | 53 => 298 | 55 => 300 | 4 => 4 | 46 => 292 | 45 => 291 | 50 => 162 | 5 => 5 | 9 => 9 | 66 => 307 | 70 => 311 | 76 => 320 | 77 => 321 | n => n, fun | n => n⟩
theorem Tryz.sortK : Go.Proofs.SlLaysF0.n6 prog Tryz.sortK_ren := {
  mixed := by kernel_rfl
  f6 := ⟨Tryz.f195.name, by decide, func195.trans (congrArg some (by kernel_rfl))⟩
  f14 := ⟨Tryz.f231.name, by decide, func231.trans (congrArg some (by kernel_rfl))⟩
  f15 := func232.trans (congrArg some (by kernel_rfl))
  f20 := ⟨Tryz.f228.name, by decide, func228.trans (congrArg some (by kernel_rfl))⟩
  f21 := ⟨Tryz.f253.name, by decide, func253.trans (congrArg some (by kernel_rfl))⟩
  f22 := ⟨Tryz.f254.name, by decide, func254.trans (congrArg some (by kernel_rfl))⟩
  f23 := ⟨Tryz.f255.name, by decide, func255.trans (congrArg some (by kernel_rfl))⟩
  f24 := ⟨Tryz.f256.name, by decide, func256.trans (congrArg some (by kernel_rfl))⟩
  f25 := ⟨Tryz.f257.name, by decide, func257.trans (congrArg some (by kernel_rfl))⟩
  f26 := ⟨Tryz.f258.name, by decide, func258.trans (congrArg some (by kernel_rfl))⟩
  f27 := ⟨Tryz.f259.name, by decide, func259.trans (congrArg some (by kernel_rfl))⟩
  f28 := func260.trans (congrArg some (by kernel_rfl))
  f29 := func261.trans (congrArg some (by kernel_rfl))
  f46 := ⟨Tryz.f273.name, by decide, func273.trans (congrArg some (by kernel_rfl))⟩
  f47 := func274.trans (congrArg some (by kernel_rfl))
  f48 := func275.trans (congrArg some (by kernel_rfl))
  f49 := ⟨Tryz.f276.name, by decide, func276.trans (congrArg some (by kernel_rfl))⟩
  f50 := ⟨Tryz.f277.name, by decide, func277.trans (congrArg some (by kernel_rfl))⟩
  f57 := ⟨Tryz.f294.name, by decide, func294.trans (congrArg some (by kernel_rfl))⟩
  t0 := underlying0
  a0 := isAgg0
  z0 := sizeOf0
  v0 := zeroValue0
  t3 := underlying3
  a3 := isAgg3
  z3 := sizeOf3
  v3 := zeroValue3
  t4 := underlying4
  a4 := isAgg4
  z4 := sizeOf4
  v4 := zeroValue4
  t5 := underlying5
  a5 := isAgg5
  z5 := sizeOf5
  v5 := zeroValue5
  t9 := underlying9
  a9 := isAgg9
  z9 := sizeOf9
  v9 := zeroValue9
  t22 := underlying40
  a22 := isAgg40
  z22 := sizeOf40
  v22 := zeroValue40
  t25 := underlying169
  a25 := isAgg169
  z25 := sizeOf169
  v25 := zeroValue169
  t39 := underlying267
  a39 := isAgg267
  z39 := sizeOf267
  v39 := zeroValue267
  t45 := underlying291
  a45 := isAgg291
  z45 := sizeOf291
  v45 := zeroValue291
  t46 := underlying292
  a46 := isAgg292
  z46 := sizeOf292
  v46 := zeroValue292
  t50 := underlying162
  a50 := isAgg162
  z50 := sizeOf162
  v50 := zeroValue162
  t53 := underlying298
  a53 := isAgg298
  z53 := sizeOf298
  v53 := zeroValue298
  t55 := underlying300
  a55 := isAgg300
  z55 := sizeOf300
  v55 := zeroValue300
  t66 := underlying307
  a66 := isAgg307
  z66 := sizeOf307
  v66 := zeroValue307
  t70 := underlying311
  a70 := isAgg311
  z70 := sizeOf311
  v70 := zeroValue311
  t76 := underlying320
  a76 := isAgg320
  z76 := sizeOf320
  v76 := zeroValue320
  t77 := underlying321
  a77 := isAgg321
  z77 := sizeOf321
  v77 := zeroValue321 }
def Tryz.cmpInt_ren : Go.Shelf.Ren := ⟨fun | 5 => 194 | 7 => 230 | n => n, fun | 22 => 3 | 3 => 3 | 4 => 4 | n => n, fun | n => n⟩
theorem Tryz.cmpInt : Go.Proofs.SlLaysC2.n5 prog Tryz.cmpInt_ren := {
  mixed := by kernel_rfl
  f5 := ⟨Tryz.f194.name, by decide, func194.trans (congrArg some (by kernel_rfl))⟩
  f7 := ⟨Tryz.f230.name, by decide, func230.trans (congrArg some (by kernel_rfl))⟩
  t3 := underlying3
  a3 := isAgg3
  z3 := sizeOf3
  v3 := zeroValue3
  t4 := underlying4
  a4 := isAgg4
  z4 := sizeOf4
  v4 := zeroValue4
  t22 := underlying3
  a22 := isAgg3
  z22 := sizeOf3
  v22 := zeroValue3 }
end Go.Proofs
namespace Go.Proofs.YtejoifianjgefaaGreatDoor
open Go.Proofs.Tryz
open Go.Shelf Go.RowKit Go.Sort
open Go.Lib hiding intOf
def kpE (x : ByteArray × (Oa × Nat × Nat) × (Oa × Nat × Nat) × Int × (Oa × Nat × Nat) × ByteArray × Int × Int × Int) : List Value := [.string x.1, .slice x.2.1.1 x.2.1.2.1 x.2.1.2.2, .slice x.2.2.1.1 x.2.2.1.2.1 x.2.2.1.2.2, .int .i64 x.2.2.2.1, .slice x.2.2.2.2.1.1 x.2.2.2.2.1.2.1 x.2.2.2.2.1.2.2, .string x.2.2.2.2.2.1, .int .i64 x.2.2.2.2.2.2.1, .int .i64 x.2.2.2.2.2.2.2.1, .int .i64 x.2.2.2.2.2.2.2.2]
theorem bZ4 (x : ByteArray × (Oa × Nat × Nat) × (Oa × Nat × Nat) × Int × (Oa × Nat × Nat) × ByteArray × Int × Int × Int) : (kpE x).length = 9 := rfl
theorem cN8 (x : ByteArray × (Oa × Nat × Nat) × (Oa × Nat × Nat) × Int × (Oa × Nat × Nat) × ByteArray × Int × Int × Int) (v : Value) (hv : v ∈ kpE x) : v.oneCell' = true := by
 simp only [kpE, List.mem_cons, List.not_mem_nil, or_false] at hv
 rcases hv with rfl | rfl | rfl | rfl | rfl | rfl | rfl | rfl | rfl <;> rfl
theorem cN9 (x y : ByteArray × (Oa × Nat × Nat) × (Oa × Nat × Nat) × Int × (Oa × Nat × Nat) × ByteArray × Int × Int × Int) : ltOf (fun x y : ByteArray × (Oa × Nat × Nat) × (Oa × Nat × Nat) × Int × (Oa × Nat × Nat) × ByteArray × Int × Int × Int => Lib.compareInt x.2.2.2.2.2.2.2.2 y.2.2.2.2.2.2.2.2) x y = decide (x.2.2.2.2.2.2.2.2 < y.2.2.2.2.2.2.2.2) := by
 unfold ltOf Lib.compareInt;by_cases h1 : x.2.2.2.2.2.2.2.2 < y.2.2.2.2.2.2.2.2
 ·simp [h1]
 by_cases h2 : y.2.2.2.2.2.2.2.2 < x.2.2.2.2.2.2.2.2 <;> simp [h1, h2]
theorem cU3 : SWO (ltOf fun x y : ByteArray × (Oa × Nat × Nat) × (Oa × Nat × Nat) × Int × (Oa × Nat × Nat) × ByteArray × Int × Int × Int => Lib.compareInt x.2.2.2.2.2.2.2.2 y.2.2.2.2.2.2.2.2) where
 irrefl x := by rw [cN9]; simp
 trans x y z h1 h2 := by rw [cN9] at *; simp at *; omega
 ntrans x y z h1 h2 := by rw [cN9] at *; simp at *; omega
theorem cK9 (x y : ByteArray × (Oa × Nat × Nat) × (Oa × Nat × Nat) × Int × (Oa × Nat × Nat) × ByteArray × Int × Int × Int) (W : World) : Calls prog 143 #[.agg #[.string x.1, .slice x.2.1.1 x.2.1.2.1 x.2.1.2.2, .slice x.2.2.1.1 x.2.2.1.2.1 x.2.2.1.2.2, .int .i64 x.2.2.2.1, .slice x.2.2.2.2.1.1 x.2.2.2.2.1.2.1 x.2.2.2.2.1.2.2, .string x.2.2.2.2.2.1, .int .i64 x.2.2.2.2.2.2.1, .int .i64 x.2.2.2.2.2.2.2.1, .int .i64 x.2.2.2.2.2.2.2.2], .agg #[.string y.1, .slice y.2.1.1 y.2.1.2.1 y.2.1.2.2, .slice y.2.2.1.1 y.2.2.1.2.1 y.2.2.1.2.2, .int .i64 y.2.2.2.1, .slice y.2.2.2.2.1.1 y.2.2.2.2.1.2.1 y.2.2.2.2.1.2.2, .string y.2.2.2.2.2.1, .int .i64 y.2.2.2.2.2.2.1, .int .i64 y.2.2.2.2.2.2.2.1, .int .i64 y.2.2.2.2.2.2.2.2]] W fun e w' => e = .returned (.int .i64 (Lib.compareInt x.2.2.2.2.2.2.2.2 y.2.2.2.2.2.2.2.2)) ∧ ∃ q os', w' = grow (W.drewN q) os' := by
 have a0 := fun W' => AnyG.cmp_Compare_int Tryz.cmpInt x.2.2.2.2.2.2.2.2 y.2.2.2.2.2.2.2.2 W'
 change ∀ W', Calls prog 194 _ _ _ at a0
 generalize Lib.compareInt x.2.2.2.2.2.2.2.2 y.2.2.2.2.2.2.2.2 = r at a0 ⊢;go_enter func143, ntmps143;go_wp2_with (go_at_call 194; refine (a0 _).mono ?_; rintro e w' ⟨rfl, rfl⟩)
 go_ret;exact ⟨rfl, 0, _, by rw [alloc_eq_grow, alloc_eq_grow, grow_grow]; rfl⟩
theorem cU4 (blk off size : Nat) (w : World) : CmpLays prog 143 #[] kpE 9 (fun x y => Lib.compareInt x.2.2.2.2.2.2.2.2 y.2.2.2.2.2.2.2.2) blk off size w :=
 fun _ _ _ _ x y => cK9 x y _
theorem bU4 (blk off cap : Nat) (d : Array (ByteArray × (Oa × Nat × Nat) × (Oa × Nat × Nat) × Int × (Oa × Nat × Nat) × ByteArray × Int × Int × Int)) (w : World) (hH : HoldsK kpE 9 w blk off d) (hblk : blk < w.heap.size) (hsz : d.size < 4611686018427387904) :
  Calls prog 195 #[.slice (some ⟨blk, off, none⟩) d.size cap, .func (.func 143) #[] #[]] w fun e w' => e = .returned (.tuple #[]) ∧ ∃ d' n os, PermIn 0 d.size d d' ∧ SortedIn (ltOf fun x y : ByteArray × (Oa × Nat × Nat) × (Oa × Nat × Nat) × Int × (Oa × Nat × Nat) × ByteArray × Int × Int × Int => Lib.compareInt x.2.2.2.2.2.2.2.2 y.2.2.2.2.2.2.2.2) 0 d.size d' ∧ w' = sortWorldK kpE 9 w blk off n d' os := by
 have eg : ∀ args w, (callFunc 143 args).run prog w = .ok (.enter 143 args) w := enters_of func143 (by kernel_rfl) rfl;have a0 := AnyQ.slices_SortFunc Tryz.sortK 9 isAgg82 sizeOf82 kpE bZ4 cN8 (fun x y => Lib.compareInt x.2.2.2.2.2.2.2.2 y.2.2.2.2.2.2.2.2) cU3 143 #[] blk off cap d w eg (cU4 blk off d.size w) hH hblk hsz
 change Calls prog 195 _ _ _ at a0
 exact a0
def slT : Value → Oa × Nat × Nat
 | .slice o n c => (o, n, c)
 | _ => (none, 0, 0)
def ksOf (x : KpD × Value × Value × Value) : ByteArray × (Oa × Nat × Nat) × (Oa × Nat × Nat) × Int × (Oa × Nat × Nat) × ByteArray × Int × Int × Int := (x.1.p, slT x.2.1, slT x.2.2.1, x.1.st, slT x.2.2.2, x.1.b, x.1.t, x.1.a, x.1.q)
theorem cU5 {kv : Ks} (h : aN1 kv) {x : KpD × Value × Value × Value} (hx : x ∈ kv) : kpE (ksOf x) = kpC x := by
 obtain ⟨y, v1, v2, v3⟩ := x;obtain ⟨o1, c1, o2, c2, o3, c3, e1, e2, e3⟩ := h _ hx;dsimp only at e1 e2 e3;subst e1 e2 e3;rfl
theorem bZ5 {kv : Ks} (h : aN1 kv) : ∀ l : Ks, (∀ x ∈ l, x ∈ kv) → (l.map ksOf).flatMap kpE = l.flatMap kpC
 | [], _ => rfl
 | x :: l, hl => by rw [List.map_cons, List.flatMap_cons, List.flatMap_cons, cU5 h (hl x List.mem_cons_self), bZ5 h l (fun y hy => hl y (List.mem_cons_of_mem _ hy))]
theorem cR5 : ∀ (l : Ks) (m : List (ByteArray × (Oa × Nat × Nat) × (Oa × Nat × Nat) × Int × (Oa × Nat × Nat) × ByteArray × Int × Int × Int)), m.Perm (l.map ksOf) → ∃ l' : Ks, l'.Perm l ∧ l'.map ksOf = m := fun l m h => by
 induction m generalizing l with
 | nil =>
  have e : l.map ksOf = [] := h.symm.eq_nil
  exact ⟨[], by rw [List.map_eq_nil_iff.1 e], rfl⟩
 | cons y m ih =>
  have hy : y ∈ l.map ksOf := h.mem_iff.1 List.mem_cons_self
  obtain ⟨x, hx, rfl⟩ := List.mem_map.1 hy
  obtain ⟨s, t, rfl⟩ := List.append_of_mem hx
  have h2 : (ksOf x :: m).Perm (ksOf x :: ((s ++ t).map ksOf)) := h.trans (by rw [List.map_append, List.map_cons, List.map_append]; exact List.perm_middle)
  obtain ⟨l', h3, h4⟩ := ih (s ++ t) ((List.perm_cons _).1 h2)
  exact ⟨x :: l', (h3.cons x).trans List.perm_middle.symm, by rw [List.map_cons, h4]⟩
theorem bU5 {α : Type} : ∀ (l m : List α), l.Nodup → (∀ y ∈ l, y ∈ m) → l.length ≤ m.length
 | [], _, _, _ => Nat.zero_le _
 | x :: l, m, h, hs => by
  obtain ⟨s, t, rfl⟩ := List.append_of_mem (hs x List.mem_cons_self)
  have h1 := List.nodup_cons.1 h
  have h2 := bU5 l (s ++ t) h1.2 (fun y hy => by
   have h3 := hs y (List.mem_cons_of_mem _ hy)
   rcases List.mem_append.1 h3 with h4 | h4
   · exact List.mem_append_left _ h4
   ·rcases List.mem_cons.1 h4 with h5 | h5
    · exact absurd (by rw [← h5]; exact hy) h1.1
    · exact List.mem_append_right _ h5)
  simp only [List.length_append, List.length_cons] at h2 ⊢
  omega
theorem bL9 {α : Type} [Inhabited α] (enc : α → List Value) (k : Nat) (k0 : 0 < k) (hk : ∀ x, (enc x).length = k) (d : Array α) : (flatK enc k d).toList = d.toList.flatMap enc := by
 apply List.ext_getElem?
 intro t;by_cases ht : t < d.size * k
 rotate_left
 ·rw [List.getElem?_eq_none (by simp [size_flatK]; omega), List.getElem?_eq_none (by rw [aO5 enc k hk]; simp; omega)]
 have hi : t / k < d.size := (Nat.div_lt_iff_lt_mul k0).2 ht;have hj : t % k < k := Nat.mod_lt _ k0;have e : t / k * k + t % k = t := by rw [Nat.mul_comm]; exact Nat.div_add_mod t k
 have h1 := bD6 enc k hk d.toList (t / k) (t % k) (by simpa using hi) hj;rw [e] at h1;have hs : t < (flatK enc k d).size := by rw [size_flatK]; exact ht
 have h2 := get_flatK enc k d t ht;rw [getElem!_pos _ t hs] at h2;rw [h1, Array.getElem?_toList, Array.getElem?_eq_getElem hs, h2, getElem!_pos d _ hi, List.getElem?_eq_getElem (by rw [hk]; exact hj), getElem!_pos (enc _) _ (by rw [hk]; exact hj)];rfl
theorem cF8 {α : Type} [Inhabited α] {enc : α → List Value} {k : Nat} (k0 : 0 < k) (hk : ∀ x, (enc x).length = k) {w : World} {base : Nat} {T : TypeId} {g n cap : Nat} {l : List α} (h : w.ownsRow base T k (.slice (some ⟨g, 0, none⟩) n cap) n (l.flatMap enc)) : HoldsK enc k w g 0 l.toArray := by
 intro j hj;have e := bL9 enc k k0 hk l.toArray
 have h1 : (l.flatMap enc)[j]? = some ((flatK enc k l.toArray)[j]!) := by
  rw [show l = l.toArray.toList from rfl, ← e, Array.getElem?_toList, Array.getElem?_eq_getElem hj, getElem!_pos _ j hj]
 have h2 := aW2 h j _ h1;rw [Nat.zero_add];exact h2
theorem bP7 {α : Type} [Inhabited α] {enc : α → List Value} {k : Nat} {w : World} {g m : Nat} {os : Array Obj} (d : Array α) : w.grownBy (sortWorldK enc k w g 0 m d os) (some g) := by
 unfold sortWorldK putRowK;refine ⟨rfl, rfl, rfl, by simp, fun k hk a0 => ?_⟩
 rw [heap_grow_old _ _ (by simpa using hk)];have : g ≠ k := fun e => a0 (by rw [e])
 simp [putRow, mapBlock, Sort.ahead, Array.getElem?_modify, this]
theorem bU6 {α : Type} [Inhabited α] {enc : α → List Value} {k : Nat} (k0 : 0 < k) (hk : ∀ x, (enc x).length = k) {w : World} {base : Nat} {T : TypeId} {g n cap m : Nat} {xs : List Value} {os : Array Obj} (h : w.ownsRow base T k (.slice (some ⟨g, 0, none⟩) n cap) n xs) (d : Array α) (hd : d.size = n) : (sortWorldK enc k w g 0 m d os).ownsRow base T k (.slice (some ⟨g, 0, none⟩) n cap) n (d.toList.flatMap enc) := by
 rcases h.2 with ⟨h0, _⟩ | ⟨g', a1, a0, hv, hb, hh, hn, hm, hs, a3⟩
 ·cases h0
 injection hv with e1 e2 e3
 cases e1
 subst e3;have a2 : g < w.heap.size := (blt hh);have a4 : n * k ≤ a0.size := by rw [hs]; exact Nat.mul_le_mul_right k hn
 refine ⟨by rw [aO5 enc k hk]; simp [hd], .inr ⟨g, cap, putCells id 0 (flatK enc k d) a0, rfl, hb, ?_, hn, hm, by simp [putCells, hs], ?_⟩⟩
 ·unfold sortWorldK putRowK;rw [heap_grow_old _ _ (by simpa using a2)];simp [putRow, mapBlock, Sort.ahead, Array.getElem?_modify, hh, onCells]
 rw [← bL9 enc k k0 hk d];apply List.ext_getElem?
 intro j;by_cases hj : j < n * k
 rotate_left
 ·rw [List.getElem?_take_eq_none (by omega), List.getElem?_eq_none (by simp [hd]; omega)]
 rw [List.getElem?_take_of_lt hj, Array.getElem?_toList, Array.getElem?_toList];have h1 : j < (flatK enc k d).size := by rw [size_flatK, hd]; exact hj
 rw [Array.getElem?_eq_getElem h1, ← getElem!_pos _ j h1];have h3 : j < d.size * k := by rw [hd]; exact hj
 simp [putCells, h3, show j < a0.size by omega]
theorem cF9 {w w' : World} {b r n : Nat} {D : DataW Value} {left : Lit → Bool} {cnt : Nat} {base : Nat} {T : TypeId} {z m : Nat} {v : Value} {c : List Value} (h : w.ranges prog 3 mpR b r n D left cnt) (hr : w.ownsRow base T z v m c) (hg : w.grownBy w' v.ownBlock) : w'.ranges prog 3 mpR b r n D left cnt := by
 have a3 := h.owns.lt;have a4 := h.lt;obtain ⟨es, a0, a1, a2, c0, h1, h2, h3, h4, h5, h6⟩ := h;refine ⟨es, a0, a1, a2, c0, (hg.block b a3 (fun e => ?_)).trans h1, h2, h3, h4, (hg.block r a4 (fun e => ?_)).trans h5, h6⟩
 ·obtain ⟨cs, fr, hq⟩ := bO9 hr e.symm;rw [h1] at hq;cases hq
 obtain ⟨cs, fr, hq⟩ := bO9 hr e.symm;rw [h5] at hq;cases hq
theorem cL0 {w : World} {b r n : Nat} {D : DataW Value} {left : Lit → Bool} {cnt : Nat} {base : Nat} {T : TypeId} {z m : Nat} {v : Value} {c : List Value} (h : w.ranges prog 3 mpR b r n D left cnt) (hr : w.ownsRow base T z v m c) : v.ownBlock ≠ some r := fun e => by
 obtain ⟨es, clock, since, seen, c0, _, _, _, _, h5, _⟩ := h
 obtain ⟨cs, fr, hq⟩ := bO9 hr e
 rw [h5] at hq
 cases hq
theorem cR6 {D : DataW Value} {kv : Ks} {a : Int} {v : Value} (hi : aP2 D kv) (hat : ∀ zd, D.atKey (.int .i64 a) zd = .held v) : ∃ x ∈ kv, x.1.a = a ∧ v = kpX x := by
 obtain ⟨x, hx, e⟩ := (hi.1 a).1 (Maps.has_true_of_atKey hat);have h1 := hi.2 x hx (.held v);rw [e, hat] at h1;injection h1 with h1
 exact ⟨x, hx, e, h1⟩
def cU6 (kv : Ks) (w : World) (e : Ending) (w' : World) : Prop := ∃ (kv' : Ks) (g c : Nat), e = .returned (.slice (some ⟨g, 0, none⟩) kv'.length c) ∧ kv'.Perm kv ∧ kv'.Pairwise (fun x y => x.1.q ≤ y.1.q) ∧ w'.ownsRow w.heap.size 82 9 (.slice (some ⟨g, 0, none⟩) kv'.length c) kv'.length (kv'.flatMap kpC) ∧ RowKit.Below w.heap.size w w'
theorem bZ6 {kv acc : Ks} {d' : Array (ByteArray × (Oa × Nat × Nat) × (Oa × Nat × Nat) × Int × (Oa × Nat × Nat) × ByteArray × Int × Int × Int)} (hp : acc.Perm kv) (h1 : PermIn 0 (acc.map ksOf).toArray.size (acc.map ksOf).toArray d') (h2 : SortedIn (ltOf fun x y : ByteArray × (Oa × Nat × Nat) × (Oa × Nat × Nat) × Int × (Oa × Nat × Nat) × ByteArray × Int × Int × Int => Lib.compareInt x.2.2.2.2.2.2.2.2 y.2.2.2.2.2.2.2.2) 0 (acc.map ksOf).toArray.size d') : ∃ kv' : Ks, kv'.Perm kv ∧ kv'.map ksOf = d'.toList ∧ kv'.Pairwise (fun x y => x.1.q ≤ y.1.q) := by
 obtain ⟨hs, _, a0⟩ := h1;rw [Array.extract_eq_self_of_le (by rw [hs]; exact Nat.le_refl _), Array.extract_eq_self_of_le (Nat.le_refl _)] at a0;obtain ⟨l', h3, h4⟩ := cR5 acc d'.toList (by simpa using a0);refine ⟨l', h3.trans hp, h4, ?_⟩;rw [List.pairwise_iff_getElem];intro i j hi hj a2;have hl : l'.length = d'.size := by rw [← List.length_map (f := ksOf), h4]; simp
 have h5 := h2 i j (Nat.zero_le _) a2 (by rw [← hs]; omega);rw [cN9] at h5
 have e : ∀ k (hk : k < l'.length), d'[k]! = ksOf (l'[k]'hk) := fun k hk => by
  have a1 : k < d'.size := by omega
  rw [getElem!_pos d' k a1, ← Array.getElem_toList a1]
  simp only [← h4, List.getElem_map]
 rw [e i hi, e j hj] at h5;have h6 := of_decide_eq_false h5;unfold ksOf at h6;dsimp only at h6;omega
theorem cO0 (b n : Nat) (D : DataW Value) (kv : Ks) (w : World) (hown : aB9 w b n D) (hi : aP2 D kv) (ha : aF8 kv) (hsl : aN1 kv) (hn : n ≤ 1048576) (hkl : kv.length ≤ 1048576) :
  Calls prog 146 #[.map (some b)] w fun e w' => cU6 kv w e w' := by
 unfold aB9 at hown
 obtain ⟨i0, hif, hz0, hz1, hz2⟩ := info_parts aY9
 have hns : Maps.size D ≤ n := hown.size_le
 obtain ⟨m0, hm0⟩ := exq (Maps.size D)
 obtain ⟨M, hM⟩ : ∃ M, M = madeCells (Value.cells (.agg #[.string ⟨#[]⟩, .slice none 0 0, .slice none 0 0, .int .i64 0, .slice none 0 0, .string ⟨#[]⟩, .int .i64 0, .int .i64 0, .int .i64 0])) (((m0 : Nat) : Int).toNat * i0.size) := ⟨_, rfl⟩
 have hmk : ∀ W : World, (Instr.makeSlice 40 (.int .i64 0) (.int .i64 (m0 : Int))).run prog W = .ok (.slice (some ⟨W.heap.size, 0, none⟩) 0 m0) (W.alloc (.cells M 82)) := fun W => by
  have h := run_make (P := prog) W 40 82 i0 (.agg #[.string ⟨#[]⟩, .slice none 0 0, .slice none 0 0, .int .i64 0, .slice none 0 0, .string ⟨#[]⟩, .int .i64 0, .int .i64 0, .int .i64 0]) underlying40 hif hz0 .i64 .i64 0 (m0 : Int) (by omega) (by omega) (by rw [hz2]; omega) (by omega)
  rw [← hM] at h
  simpa using h
 have hmk2 : ∀ W : World, (Instr.makeSlice 40 (.int .i64 0) (.int .i64 ((Maps.size D : Nat) : Int))).run prog W = .ok (.slice (some ⟨W.heap.size, 0, none⟩) 0 m0) (W.alloc (.cells M 82)) := by rw [← hm0]; exact hmk
 have HMs : Hid (M.size = m0 * 9) := by show _ = _; rw [hM, size_madeCells, hz1]; simp
 have HSL := hid hsl
 have HAP := hid ha
 have HI := hid hi
 have HKL := hid hkl
 have hml : m0 ≤ 1048576 := by omega
 clear hsl ha hi hkl hM hns hm0
 go_enter func146, ntmps146
 go_upto_region 2 with (first | (at_len; refine wpList_len_own _ rfl _ 141 rfl 3 82 underlying141 mpR b n D rfl hown ?_) | fail)
 obtain ⟨g0, hg0⟩ := exq (w.heap.size)
 obtain ⟨w1, hw1⟩ := exq (w.alloc (.cells M 82))
 rw [← hw1, ← hg0]
 have bw1 : RowKit.Below w.heap.size w w1 := by rw [hw1]; exact (RowKit.Below.refl _ _).alloc (Nat.le_refl _) _
 have HO1 : Hid (w1.ownsRow w.heap.size 82 9 (.slice (some ⟨g0, 0, none⟩) 0 m0) 0 ([] : List Value)) := ⟨rfl, .inr ⟨g0, m0, M, rfl, by omega, by rw [hw1, hg0]; exact heap_alloc_new _ _, Nat.zero_le _, by unfold maxLen; omega, HMs.out, by simp⟩⟩
 have hown1 := aE4 hown bw1
 have HB1 : Hid (RowKit.Below w.heap.size w w1) := bw1
 obtain ⟨r, hr⟩ := exq (w1.heap.size)
 have HRG : Hid (w.heap.size ≤ r) := by show _ ≤ _; rw [hr]; exact bw1.size
 clear hw1 hg0 hmk hmk2 HMs hown bw1
 go_wp2_with (first
  | (at_range; refine wpList_range_own _ rfl _ 141 rfl 3 82 bL4 underlying141 mpR b n D rfl hown1 ?_; intro w0 hrg0 hg0 hs0; rw [← hr] at hrg0 ⊢; clear hr)
  | go_in)
 have HO0 : Hid (w0.ownsRow w.heap.size 82 9 (.slice (some ⟨g0, 0, none⟩) 0 m0) 0 ([] : List Value)) := aA7 HO1.out (fun g hg => hg0.block g (aA6 HO1.out hg) (by simp))
 have HB0 : Hid (RowKit.Below w.heap.size w w0) := HB1.out.grown (hg0.but (some r)) HB1.out.size (by intro k hk; cases hk; exact HRG.out)
 clear hg0 hs0 hown1 HO1 HB1
 go_frame
 go_loopw [3] (fun x3 wr => ∃ (left : Lit → Bool) (cnt : Nat) (acc : Ks) (gz pz : Nat), x3 = .slice (some ⟨gz, 0, none⟩) acc.length pz ∧ wr.ranges prog 3 mpR b r n D left cnt ∧ Hid (aT8 left kv acc) ∧ Hid (wr.ownsRow w.heap.size 82 9 (.slice (some ⟨gz, 0, none⟩) acc.length pz) acc.length (acc.flatMap kpC)) ∧ Hid (RowKit.Below w.heap.size w wr)) (fun _ wr => wr.rangeLeft b r)
 case atStart => exact ⟨_, _, [], g0, m0, rfl, hrg0, aT8.start HI.out, HO0, HB0⟩
 case round =>
  clear HO0 HB0 hrg0
  obtain ⟨left, cnt, acc, gz, pz, rfl, hrg, HT, HO, HB⟩ := hrel
  have hal : acc.length ≤ 1048576 := by
   have h1 : acc.length ≤ kv.length := bU5 acc kv HT.out.1.nodup (fun y hy => ((HT.out.2 y).1 hy).1)
   have h2 := HKL.out
   omega
  go_wp2_with (first
   | (at_next; refine wpList_next_ranges _ rfl _ rfl 3 bL4 mpR (Value.int .i64) (fun v : Value => v) (fun key kl h => by obtain ⟨x, e, _⟩ := Maps.keyOf_int_inv underlying3 h; exact ⟨x, e⟩) (fun v y _ => ⟨v, rfl⟩) b r n D left cnt rfl hrg ?_ ?_)
   | go_in)
  ·intro _ hl0
   have HP : Hid (acc.Perm kv) := HT.out.perm HAP.out hl0
   have HSA : Hid ((acc.map ksOf).flatMap kpE = acc.flatMap kpC) := bZ5 HSL.out acc (fun x hx => HP.out.mem_iff.1 hx)
   have hH : HoldsK kpE 9 wr gz 0 (acc.map ksOf).toArray := cF8 (T := 82) (base := w.heap.size) (n := acc.length) (cap := pz) (by decide) bZ4 (by rw [HSA.out]; exact HO.out)
   have hgl : gz < wr.heap.size := aA6 HO.out rfl
   have hdz : (acc.map ksOf).toArray.size = acc.length := by simp
   have hcon := bU4 gz 0 pz (acc.map ksOf).toArray wr hH hgl (by rw [hdz]; omega)
   rw [hdz] at hcon
   clear hH hrg HT
   go_wp2_with fail
   refine hcon.mono ?_
   rintro e w5 ⟨rfl, d', mm, os, hp, hs, hw5⟩
   obtain ⟨kv', hk1, hk2, hk3⟩ := bZ6 HP.out (by rw [hdz]; exact hp) (by rw [hdz]; exact hs)
   have hds : d'.size = acc.length := by rw [hp.1]; exact hdz
   have hkl' : kv'.length = acc.length := by rw [← List.length_map (f := ksOf), hk2]; simpa using hds
   have HO5 : Hid (w5.ownsRow w.heap.size 82 9 (.slice (some ⟨gz, 0, none⟩) acc.length pz) acc.length (kv'.flatMap kpC)) := by
    have h1 := bU6 (enc := kpE) (m := mm) (os := os) (by decide) bZ4 HO.out d' hds
    rw [← hw5, ← hk2, bZ5 HSL.out kv' (fun x hx => hk1.mem_iff.1 hx)] at h1
    exact h1
   have HB5 : Hid (RowKit.Below w.heap.size w w5) := HB.out.grown (by rw [hw5]; exact bP7 d') HB.out.size (by intro k hk; cases hk; exact aB7 HO.out rfl)
   have HK : Hid (kv'.Perm kv ∧ kv'.Pairwise (fun x y => x.1.q ≤ y.1.q) ∧ kv'.length = acc.length) := ⟨hk1, hk3, hkl'⟩
   clear hp hs hw5 hk1 hk2 hk3 hkl' hds hcon HSA HP HO HB hdz
   go_wp2_with fail
   go_ret
   exact ⟨kv', gz, pz, by rw [HK.out.2.2]; rfl, HK.out.1, HK.out.2.1, by rw [HK.out.2.2]; exact HO5.out, HB5.out⟩
  ·intro xa c kl yd yp w1 cnt1 hkey hlx hR hat hrg1 hlt hg1 hs1 hen
   obtain ⟨xb, exb, ekl, _⟩ := Maps.keyOf_int_inv underlying3 hkey
   cases exb
   subst ekl
   have ey := cJ9 hR
   obtain ⟨ey1, _⟩ := Prod.mk.inj ey
   subst ey1
   obtain ⟨x, hxm, ea, ec⟩ := cR6 HI.out hat
   subst ea ec
   obtain ⟨y, v1, v2, v3⟩ := x
   obtain ⟨o1, c1, o2, c2, o3, c3, e1, e2, e3⟩ := HSL.out _ hxm
   dsimp only at e1 e2 e3
   subst e1 e2 e3
   dsimp only at hkey hat hlx hrg1 hen ⊢
   unfold kpX at hen
   dsimp only at hen
   have HXM := hid hxm
   have HLX := hid hlx
   have HB1 : Hid (RowKit.Below w.heap.size w w1) := HB.out.grown hg1 HB.out.size (by intro k hk; cases hk; exact HRG.out)
   have HO1 : Hid (w1.ownsRow w.heap.size 82 9 (.slice (some ⟨gz, 0, none⟩) acc.length pz) acc.length (acc.flatMap kpC)) := aA7 HO.out (fun g hg => hg1.block g (aA6 HO.out hg) (fun e => cL0 hrg HO.out (by rw [hg, e])))
   clear hkey hlx hat hxm hR hg1 hs1 HO HB
   unfold kpX
   dsimp only
   go_upto_region 5 with fail
   obtain ⟨q2, hq2⟩ := exq (w1.heap.size)
   obtain ⟨w2, hw2⟩ := exq (w1.alloc (.cells #[.string y.p, .slice o1 y.xs.length c1, .slice o2 y.ys.length c2, .int .i64 y.st, .slice o3 y.fs.length c3, .string y.b, .int .i64 y.t, .int .i64 y.a, .int .i64 y.q] 82))
   rw [← hw2, ← hq2]
   have bw2 : RowKit.Below w1.heap.size w1 w2 := by rw [hw2]; exact (RowKit.Below.refl _ _).alloc (Nat.le_refl _) _
   have HX2 : Hid (w2.heap[q2]? = some (.cells #[.string y.p, .slice o1 y.xs.length c1, .slice o2 y.ys.length c2, .int .i64 y.st, .slice o3 y.fs.length c3, .string y.b, .int .i64 y.t, .int .i64 y.a, .int .i64 y.q] 82)) := by show _ = _; rw [hw2, hq2]; exact heap_alloc_new _ _
   have HO2 := hown HO1 bw2
   have hrg2 := aQ2 hrg1 bw2
   have HB2 : Hid (RowKit.Below w.heap.size w w2) := HB1.out.trans (bw2.mono HB1.out.size)
   clear hw2 hq2 bw2 hrg1 HO1 HB1 hen
   have bw3 : RowKit.Below w2.heap.size w2 (w2.alloc (.cells #[.string y.p, .slice o1 y.xs.length c1, .slice o2 y.ys.length c2, .int .i64 y.st, .slice o3 y.fs.length c3, .string y.b, .int .i64 y.t, .int .i64 y.a, .int .i64 y.q] 82)) := (RowKit.Below.refl _ _).alloc (Nat.le_refl _) _
   have hown3 : (w2.alloc (.cells #[.string y.p, .slice o1 y.xs.length c1, .slice o2 y.ys.length c2, .int .i64 y.st, .slice o3 y.fs.length c3, .string y.b, .int .i64 y.t, .int .i64 y.a, .int .i64 y.q] 82)).ownsRow w.heap.size 82 9 (.slice (some ⟨gz, 0, none⟩) acc.length pz) acc.length (acc.flatMap kpC) := aC0 HO2.out bw3 (fun g hg => aA6 HO2.out hg)
   have hnews : ∀ j u, ([.string y.p, .slice o1 y.xs.length c1, .slice o2 y.ys.length c2, .int .i64 y.st, .slice o3 y.fs.length c3, .string y.b, .int .i64 y.t, .int .i64 y.a, .int .i64 y.q] : List Value)[j]? = some u → (w2.alloc (.cells #[.string y.p, .slice o1 y.xs.length c1, .slice o2 y.ys.length c2, .int .i64 y.st, .slice o3 y.fs.length c3, .string y.b, .int .i64 y.t, .int .i64 y.a, .int .i64 y.q] 82)).cell? ((⟨w2.heap.size, 0, none⟩ : Addr).add j) = some u := World.news_of_block (heap_alloc_new _ _)
   have h63 : acc.length + 1 ≤ maxLen := by unfold maxLen; omega
   have h47 : (acc.length + 1) * 136 ≤ 140737488355328 := by omega
   have hbs : w.heap.size ≤ (w2.alloc (.cells #[.string y.p, .slice o1 y.xs.length c1, .slice o2 y.ys.length c2, .int .i64 y.st, .slice o3 y.fs.length c3, .string y.b, .int .i64 y.t, .int .i64 y.a, .int .i64 y.q] 82)).heap.size := Nat.le_trans HB2.out.size bw3.size
   have c0 : w2.cell? ⟨q2, 0, none⟩ = some (.string y.p) := (aB0 HX2.out 0).trans rfl
   have c1' : w2.cell? ⟨q2, 1, none⟩ = some (.slice o1 y.xs.length c1) := (aB0 HX2.out 1).trans rfl
   have c2' : w2.cell? ⟨q2, 2, none⟩ = some (.slice o2 y.ys.length c2) := (aB0 HX2.out 2).trans rfl
   have c3' : w2.cell? ⟨q2, 3, none⟩ = some (.int .i64 y.st) := (aB0 HX2.out 3).trans rfl
   have c4 : w2.cell? ⟨q2, 4, none⟩ = some (.slice o3 y.fs.length c3) := (aB0 HX2.out 4).trans rfl
   have c5 : w2.cell? ⟨q2, 5, none⟩ = some (.string y.b) := (aB0 HX2.out 5).trans rfl
   have c6 : w2.cell? ⟨q2, 6, none⟩ = some (.int .i64 y.t) := (aB0 HX2.out 6).trans rfl
   have c7 : w2.cell? ⟨q2, 7, none⟩ = some (.int .i64 y.a) := (aB0 HX2.out 7).trans rfl
   have c8 : w2.cell? ⟨q2, 8, none⟩ = some (.int .i64 y.q) := (aB0 HX2.out 8).trans rfl
   go_wp2_with (at_builtin; refine wpList_append_lies _ rfl _ _ 40 rfl w.heap.size 82 i0 (.agg #[.string ⟨#[]⟩, .slice none 0 0, .slice none 0 0, .int .i64 0, .slice none 0 0, .string ⟨#[]⟩, .int .i64 0, .int .i64 0, .int .i64 0]) 9 136 underlying40 hif hz0 hz1 hz2 rfl (by decide) _ _ _ rfl hown3 ⟨w2.heap.size, 0, none⟩ 1 1 [.string y.p, .slice o1 y.xs.length c1, .slice o2 y.ys.length c2, .int .i64 y.st, .slice o3 y.fs.length c3, .string y.b, .int .i64 y.t, .int .i64 y.a, .int .i64 y.q] rfl rfl hnews (by intro u hu; simp only [List.mem_cons, List.not_mem_nil, or_false] at hu; rcases hu with rfl | rfl | rfl | rfl | rfl | rfl | rfl | rfl | rfl <;> rfl) (by decide) h63 h47 hbs _ rfl ?_)
   intro gL cpL w4 hown4 hgrow hloc hltg
   have hrg4 := cF9 (aQ2 hrg2 bw3) hown3 hgrow
   have HB4 : Hid (RowKit.Below w.heap.size w w4) := (HB2.out.trans (bw3.mono HB2.out.size)).grown hgrow hbs (fun g hg => aB7 hown3 hg)
   have HO4 : Hid (w4.ownsRow w.heap.size 82 9 (.slice (some ⟨gL, 0, none⟩) (acc ++ [((y, .slice o1 y.xs.length c1, .slice o2 y.ys.length c2, .slice o3 y.fs.length c3) : KpD × Value × Value × Value)]).length cpL) (acc ++ [((y, .slice o1 y.xs.length c1, .slice o2 y.ys.length c2, .slice o3 y.fs.length c3) : KpD × Value × Value × Value)]).length ((acc ++ [((y, .slice o1 y.xs.length c1, .slice o2 y.ys.length c2, .slice o3 y.fs.length c3) : KpD × Value × Value × Value)]).flatMap kpC)) := by
    show World.ownsRow _ _ _ _ _ _ _
    rw [List.length_append, List.flatMap_append]
    exact hown4
   have HE4 : Hid (Value.slice (some ⟨gL, 0, none⟩) (acc.length + 1) cpL = .slice (some ⟨gL, 0, none⟩) (acc ++ [((y, .slice o1 y.xs.length c1, .slice o2 y.ys.length c2, .slice o3 y.fs.length c3) : KpD × Value × Value × Value)]).length cpL) := by show _ = _; rw [List.length_append]; rfl
   clear hown4 hgrow hloc hltg hown3 hnews h63 h47 hbs bw3 hrg2 HO2 HB2 HX2 c0 c1' c2' c3' c4 c5 c6 c7 c8
   go_wp2_with fail
   go_roundw
   case rel => exact ⟨_, cnt1, acc ++ [((y, .slice o1 y.xs.length c1, .slice o2 y.ys.length c2, .slice o3 y.fs.length c3) : KpD × Value × Value × Value)], gL, cpL, HE4.out, hrg4, HT.out.more HAP.out HXM.out HLX.out, HO4, HB4⟩
   case measure => rw [hrg4.left_eq, hrg.left_eq]; exact hlt
end Go.Proofs.YtejoifianjgefaaGreatDoor
namespace Go.Proofs.YtejoifianjgefaaGreatDoor
open Go.Proofs.Tryz
open Go.RowKit
open Go.Lib hiding intOf
theorem aO0 {w W : World} {base B : Nat} {v1 v2 V V' VB : Value} {kv : Ks} {cs : Ts} {ws : List (Int × ByteArray)} {bl : Bs} {x : KpD × Value × Value × Value} (h : aA2 w base (aB2 v1 v2 V VB kv cs ws bl)) (hx : aA2 w B (kpR x)) (hold : ∀ r ∈ aB2 v1 v2 V VB kv cs ws bl, ∀ g, r.v.ownBlock = some g → g < B) (hB : base ≤ B)
  (hg : w.grownBy W V.ownBlock) (hrow : W.ownsRow base 82 9 V' (kv.length + 1) (kv.flatMap kpC ++ kpC x)) (hv : ∀ g, V'.ownBlock = some g → V.ownBlock = some g ∨ w.heap.size ≤ g) : aA2 W base (aB2 v1 v2 V' VB (kv ++ [x]) cs ws bl) := by
 have h1 : aA2 w base (aB2 v1 v2 V VB kv cs ws bl ++ kpR x) := by
  refine ⟨fun r hr => ?_, List.pairwise_append.2 ⟨h.apart, hx.apart, fun a ha b hb g a4 a5 => ?_⟩⟩
  ·rcases List.mem_append.1 hr with hr | hr
   ·exact h.own r hr
   ·exact aE0 (hx.own r hr) hB
  ·have e1 := hold a ha g a4
   have e2 := hx.ge hb a5
   omega
 obtain ⟨a0, a1⟩ : ∃ a0, a0 = [(⟨9, 1, v1, cs.length, cs.map Value.string⟩ : Rw), ⟨155, 2, v2, ws.length, aA1 ws⟩] := ⟨_, rfl⟩;obtain ⟨bn, a3⟩ : ∃ bn, bn = (⟨62, 4, VB, bl.length, aA5 bl⟩ : Rw) := ⟨_, rfl⟩
 have e0 : aB2 v1 v2 V VB kv cs ws bl = a0 ++ aH8 V kv :: (kv.flatMap kpR ++ [bn]) := by
  rw [a1, a3]
  simp [aB2, aC5]
 rw [e0] at h1
 have h2 : aA2 w base (a0 ++ aH8 V kv :: (kv.flatMap kpR ++ (kpR x ++ [bn]))) := by
  refine h1.perm ?_
  rw [List.append_assoc, List.cons_append, List.append_assoc]
  exact (List.perm_append_left_iff _).2 (List.Perm.cons _ ((List.perm_append_left_iff _).2 List.perm_append_comm))
 have a2 : (aH8 V' (kv ++ [x])).own W base := by
  unfold Rw.own aH8
  simpa using hrow
 have h3 := h2.grow hg a2 hv
 have e1 : aB2 v1 v2 V' VB (kv ++ [x]) cs ws bl = a0 ++ aH8 V' (kv ++ [x]) :: (kv.flatMap kpR ++ (kpR x ++ [bn])) := by
  rw [a1, a3]
  simp [aB2, aC5]
 rw [e1];exact h3
def aK8 (v1 v2 VB : Value) (cs : Ts) (ws : List (Int × ByteArray)) (bl : Bs) : List Rw := [(⟨9, 1, v1, cs.length, cs.map Value.string⟩ : Rw), ⟨155, 2, v2, ws.length, aA1 ws⟩, ⟨62, 4, VB, bl.length, aA5 bl⟩]
theorem aI4 {w : World} {base : Nat} {v1 v2 VB : Value} {cs : Ts} {ws : List (Int × ByteArray)} {bl : Bs} (h : aA2 w base (aK8 v1 v2 VB cs ws bl)) : aA2 w base (aB2 v1 v2 (.slice none 0 0) VB [] cs ws bl) := by
 have h1 : aA2 w base (aK8 v1 v2 VB cs ws bl ++ [⟨82, 9, .slice none 0 0, 0, []⟩]) := by
  refine ⟨fun r hr => ?_, List.pairwise_append.2 ⟨h.apart, List.pairwise_singleton _ _, fun a _ b hb g _ a0 => ?_⟩⟩
  ·rcases List.mem_append.1 hr with hr | hr
   ·exact h.own r hr
   ·rw [List.mem_singleton.1 hr]
    exact World.ownsRow_nil _ _ _ _
  ·rw [List.mem_singleton.1 hb] at a0
   cases a0
 refine h1.perm ?_;unfold aK8 aB2;show List.Perm ([_, _] ++ [_] ++ [_]) ([_, _] ++ [_] ++ [_])
 rw [List.append_assoc, List.append_assoc];exact (List.perm_append_left_iff _).2 List.perm_append_comm
theorem cG0 {w : World} {base : Nat} {v1 v2 V VB : Value} {kv : Ks} {cs : Ts} {ws : List (Int × ByteArray)} {bl : Bs} (h : aA2 w base (aB2 v1 v2 V VB kv cs ws bl)) : aA2 w base (aK8 v1 v2 VB cs ws bl) := by
 refine aA2.sub h ?_;unfold aK8 aB2;show List.Sublist ([_, _] ++ [_]) _
 exact List.Sublist.append (List.sublist_append_left _ _) (List.Sublist.refl _)
theorem aW5 {w W : World} {base B : Nat} {v1 v2 u1 u2 V VB : Value} {kv : Ks} {cs cs2 : Ts} {ws ws2 : List (Int × ByteArray)} {bl : Bs} (h : aA2 w base (aB2 v1 v2 V VB kv cs ws bl)) (hb : Below w.heap.size w W) (hd : aD3 W B u1 cs2.length cs2 u2 ws2.length ws2) (hB : w.heap.size ≤ B) (hB2 : base ≤ B) : aA2 W base (aB2 u1 u2 V VB kv cs2 ws2 bl) := by
 have h1 : aA2 w base (aC5 V kv ++ [(⟨62, 4, VB, bl.length, aA5 bl⟩ : Rw)]) := by
  refine aA2.sub h ?_
  unfold aB2
  rw [List.append_assoc]
  exact List.sublist_append_right _ _
 have h2 := h1.more hb (aV5 hd) hB hB2;refine h2.perm (List.perm_append_comm.trans (List.Perm.of_eq ?_));unfold aB2;simp
theorem cL1 {w W : World} {base : Nat} {v1 v2 V VB VB' : Value} {kv : Ks} {cs : Ts} {ws : List (Int × ByteArray)} {bl bl2 : Bs} (h : aA2 w base (aB2 v1 v2 V VB kv cs ws bl)) (hg : w.grownBy W VB.ownBlock) (hrow : W.ownsRow base 62 4 VB' bl2.length (aA5 bl2)) (hv : ∀ g, VB'.ownBlock = some g → VB.ownBlock = some g ∨ w.heap.size ≤ g) : aA2 W base (aB2 v1 v2 V VB' kv cs ws bl2) := by
 have h1 : aA2 w base (([(⟨9, 1, v1, cs.length, cs.map Value.string⟩ : Rw), ⟨155, 2, v2, ws.length, aA1 ws⟩] ++ aC5 V kv) ++ (⟨62, 4, VB, bl.length, aA5 bl⟩ : Rw) :: []) := h;exact h1.grow (r' := ⟨62, 4, VB', bl2.length, aA5 bl2⟩) hg hrow hv
end Go.Proofs.YtejoifianjgefaaGreatDoor
