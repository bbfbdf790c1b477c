/- What the proof of FnExactBanish leans on: contracts of the program's and the specification's functions, and plain facts (part 9 of 11). -/
import Derived.Test.YtejoifianjgefaaGreatDoorFnExactBanishH
set_option maxHeartbeats 16000000
set_option maxRecDepth 100000
namespace Go.Proofs.YtejoifianjgefaaGreatDoor
open Go.Proofs.Tryz
open Go.RowKit
open Go.Lib hiding intOf
def capV : Value → Nat → Value
 | .slice o n _, c => .slice o n c
 | v, _ => v
theorem bI5 (v1 v2 V VB : Value) (kv : Ks) (s : ShD) (B : Nat) (w : World) (h : aD1 w B v1 v2 V VB kv s) (hz : aF7 s) (cX : Nat) :
  Calls prog 81 #[.agg #[v1, v2, V, capV VB cX, .int .i64 s.nx, .int .i64 s.sq]] w fun e w' => bG7 s w e w' := by
 obtain ⟨o1, c1, e1⟩ := aA0 h.disk.cells;obtain ⟨o2, c2, e2⟩ := aA0 h.disk.pend;obtain ⟨o3, c3, e3⟩ := aA0 h.kept.row;obtain ⟨o4, c4, e4⟩ := aA0 h.bans;subst e1 e2 e3 e4;obtain ⟨n1, f0⟩ := exq (s.cs.length);obtain ⟨n2, f1⟩ := exq (s.ws.length);obtain ⟨n3, d4⟩ := exq kv.length;obtain ⟨n4, f2⟩ := exq (s.bl.length);rw [← f0, ← f1, ← d4, ← f2] at h ⊢;have c7 : Hid (s.cs.length = n1 ∧ s.ws.length = n2 ∧ kv.length = n3 ∧ s.bl.length = n4) := ⟨f0.symm, f1.symm, d4.symm, f2.symm⟩;have g5 : Hid (kv.map (·.1) = s.ks) := h.2;have HZ := hid hz;have i2 : n1 ≤ 1048576 := by rw [f0]; exact hz.c
 have i3 : n2 ≤ 1048576 := by rw [f1]; exact hz.w
 have i4 : n3 ≤ 1048576 := by rw [d4, ← List.length_map (f := (·.1)), h.2]; exact hz.k
 have i5 : n4 ≤ 1048576 := by rw [f2]; exact hz.b
 have f4 : Hid (∀ W, Bw w W → aD1 W B (.slice o1 n1 c1) (.slice o2 n2 c2) (.slice o3 n3 c3) (.slice o4 n4 c4) kv s) := fun W hb => h.below hb
 have h5 : Hid (∀ W, Bw w W → aB8 W B (.slice o3 n3 c3) kv) := fun W hb => (h.below hb).kept
 have g6 : Hid (kv.length = n3) := d4.symm;clear f0 f1 d4 f2 h hz
 have g7 : Hid (∀ W, Bw w W → aC4 W o1 n1 s.cs) := fun W hb => by
  have h := (f4.out W hb).disk.cells
  rw [c7.out.1] at h
  exact aF1 h
 have f5 : Hid (∀ W, Bw w W → aO7 W o2 n2 s.ws) := fun W hb => by
  have h := (f4.out W hb).disk.pend
  rw [c7.out.2.1] at h
  exact aG0 h
 have h6 : Hid (∀ W, Bw w W → BanA W o4 n4 s.bl) := fun W hb => by
  have h := (f4.out W hb).bans
  rw [c7.out.2.2.2] at h
  exact aN5 h
 dsimp only [capV];have K0 := jnil w;go_enter func81, ntmps81;go_upto_region 1 with fail
 obtain ⟨q1, f6⟩ := exq (w.heap.size);obtain ⟨w1, d5⟩ := exq (w.alloc (.cells #[.slice o1 n1 c1, .slice o2 n2 c2, .slice o3 n3 c3, .slice o4 n4 cX, .int .i64 s.nx, .int .i64 s.sq] 43));have f7 := f6.symm;rw [← d5]; try rw [← f6];have g8 := hsa d5 f7;have bw := bal d5;have K1 := ja K0 d5 f7;clear bw d5 f7 K0;obtain ⟨q2, f8⟩ := exq (q1 + 1);obtain ⟨w2, d6⟩ := exq (w1.alloc (.cells #[.slice none 0 0, .slice none 0 0, .slice none 0 0, .slice none 0 0, .int .i64 0, .int .i64 0] 43));have f9 : w1.heap.size = q2 := by rw [f8]; exact g8
 rw [← d6]; try rw [← f8];have h7 := hsa d6 f9;have bw := bal d6;have K2 := ja K1 d6 f9;clear bw d6 f9 K1;clear h7 f8 g8 f6;go_upto_region 1 with fail
 have b1 : Hid (∀ W, Below w2.heap.size w2 W → W.heap[q1]? = some (.cells #[.slice o1 n1 c1, .slice o2 n2 c2, .slice o3 n3 c3, .slice o4 n4 cX, .int .i64 s.nx, .int .i64 s.sq] 43)) := fun W h => aA3 (jb K2 1 rfl) h
 go_cut [3] (fun sx wx => ∃ (q : Nat) (oC : Oa) (pC : Nat) (oP : Oa) (pP : Nat), sx = .pointer (some ⟨q, 0, none⟩) ∧ Hid (Below w2.heap.size w2 wx ∧ wx.heap[q]? = some (.cells #[.slice oC n1 pC, .slice oP n2 pP] 39) ∧ w2.heap.size ≤ q ∧ (wx).ownsRow w2.heap.size 9 1 (.slice oC n1 pC) n1 (s.cs.map Value.string) ∧ (wx).ownsRow w2.heap.size 155 2 (.slice oP n2 pP) n2 (aA1 s.ws)))
 case first =>
  refine wp_region_held_drew (S := fun W => W.heap[q1]? = some (.cells #[.slice o1 n1 c1, .slice o2 n2 c2, .slice o3 n3 c3, .slice o4 n4 cX, .int .i64 s.nx, .int .i64 s.sq] 43)) (by kernel_rfl) (b1.out _ (Below.refl _ _).drew) (fun _ => ?_)
  obtain ⟨w3, hX⟩ := exq w2.drew;have bw := bdr hX;rw [← hX];have K3 := jw K2 bw;have a2 := hid bw;clear bw hX;refine tkP 0 (.pointer (some ⟨q1, 0, none⟩)) 4 rfl rfl (b1.out _ a2.out) ?_;go_frame;refine tkP 1 (.pointer (some ⟨q1, 0, none⟩)) 5 rfl rfl (b1.out _ a2.out) ?_;go_frame;refine tkL 2 (.slice o1 n1 c1) 6 rfl rfl (Or.inl ⟨by rfl, by intro W hW; have a5 := hW; have y0 := c6c a5; go_simp⟩) (b1.out _ a2.out) ?_;go_frame;refine tkP 4 (.pointer (some ⟨q1, 0, none⟩)) 8 rfl rfl (b1.out _ a2.out) ?_;go_frame;refine tkP 5 (.pointer (some ⟨q1, 1, none⟩)) 9 rfl rfl (b1.out _ a2.out) ?_;go_frame;refine tkL 6 (.slice o2 n2 c2) 10 rfl rfl (Or.inl ⟨by rfl, by intro W hW; have a5 := hW; have y1 := c6c a5; go_simp⟩) (b1.out _ a2.out) ?_;go_frame;refine wpAnyH_ready (rs := [3, 9]) (by kernel_rfl) (by simp) ?_;refine AllReadyH.cons rfl (fun K hK => ?_) (AllReadyH.cons rfl (fun K hK => ?_) AllReadyH.nil)
  ·go_simp;refine (aD4 _ n1 _ s.cs _ (g7.out _ K3.hb) (by omega) (fun i hi => HZ.out.ct i (by rw [c7.out.1]; exact hi))).mono ?_
   rintro e w4 ⟨va, rfl, a3, bw⟩;obtain ⟨oC, pC, rfl⟩ := aA0 a3;have K4 := jj K3 (jcR (jN bw) a3 jhn);have f3 : Hid (∀ g, (Value.ownBlock (.slice oC n1 pC)) = some g → w3.heap.size ≤ g) := fun g hg => aB7 a3 hg
   clear a3;clear K3;have a4 := hxt a2 bw;have b6 : Hid (w4.ownsRow w2.heap.size 9 1 (.slice oC n1 pC) n1 (s.cs.map Value.string)) := aI9 (jo K4 0 rfl) (fun g hg => Nat.le_trans a2.out.size (f3.out g hg))
   refine hK.out _ _ (b1.out _ a4.out) (fun _ => ?_)
   clear hK K bw a2;refine wpAnyH_ready (rs := [7, 9]) (by kernel_rfl) (by simp) ?_;refine AllReadyH.cons rfl (fun K hK => ?_) (AllReadyH.cons rfl (fun K hK => ?_) AllReadyH.nil)
   ·go_simp;refine (aD5 _ n2 _ s.ws _ (f5.out _ K4.hb) (by omega) HZ.out.wt).mono ?_;rintro e w5 ⟨va, rfl, a3, bw⟩;obtain ⟨oP, pP, rfl⟩ := aA0 a3;have K5 := jj K4 (jcR (jN bw) a3 jhn);have d3 : Hid (∀ g, (Value.ownBlock (.slice oP n2 pP)) = some g → w4.heap.size ≤ g) := fun g hg => aB7 a3 hg
    clear a3;clear K4;have a1 := hxt a4 bw;have a6 := hown b6 bw;have d0 : Hid (w5.ownsRow w2.heap.size 155 2 (.slice oP n2 pP) n2 (aA1 s.ws)) := aI9 (jo K5 0 rfl) (fun g hg => Nat.le_trans a4.out.size (d3.out g hg))
    refine hK.out _ _ (b1.out _ a1.out) (fun _ => ?_)
    clear hK K bw a4;refine tkP 8 (.agg #[.slice oC n1 pC, .slice oP n2 pP]) 12 rfl rfl (b1.out _ a1.out) ?_;go_frame;refine rd1 9 rfl (fun K hK => ?_)
    go_simp;have c8 : Hid (Below w2.heap.size w2 (w5.alloc (.cells #[.slice none 0 0, .slice none 0 0] 39))) := a1.out.alloc a1.out.size _;refine hK.out _ _ (b1.out _ c8.out) (fun _ => ?_)
    clear hK K c8;obtain ⟨pa, ho⟩ := exq (w5.heap.size);obtain ⟨w6, b5⟩ := exq (w5.alloc (.cells #[.slice none 0 0, .slice none 0 0] 39));rw [← ho, ← b5];have b7 : Hid (w2.heap.size ≤ pa) := by show _ ≤ _; rw [ho]; exact a1.out.size
    have bw := bal b5;have K6 := jw K5 bw;have b2 := hxt a1 bw;have a7 := hown a6 bw;have a8 := hown d0 bw;have a0 : Hid (w6.heap[pa]? = some (.cells #[.slice none 0 0, .slice none 0 0] 39)) := by show _ = _; rw [b5, ho]; exact heap_alloc_new _ _
    clear bw ho b5 a1 K5;refine rd1 10 rfl (fun K hK => ?_)
    have d1 := c2f a0.out;obtain ⟨w7, hY⟩ := exq (((w6.setCell ⟨pa, 0, none⟩ (.slice oC n1 pC)).setCell ⟨pa, 1, none⟩ (.slice oP n2 pP)));have HY := hsy hY;have b3 : Hid (Below w2.heap.size w2 w7) := by show Below _ _ _; rw [hY]; exact ((b2.out.setCell (p := ⟨pa, 0, none⟩) b7.out _).setCell (p := ⟨pa, 1, none⟩) b7.out _)
    have b4 := hid (jbs [(0, _), (1, _)] a0.out hY);have a9 := hid (jrr [(0, _), (1, _)] a7.out hY a0.out);have b0 := hid (jrr [(0, _), (1, _)] a8.out hY a0.out);clear hY;go_simp;rw [HY.out];refine hK.out _ _ (b1.out _ b3.out) (fun _ => ?_)
    clear hK K HY d1;refine wdn ?_;go_wp2_with fail
    go_meet
    exact ⟨pa, oC, pC, oP, pP, rfl, ⟨b3.out, b4.out, b7.out, a9.out, b0.out⟩⟩
   go_simp;have c8 : Hid (Below w2.heap.size w2 (w4.alloc (.cells #[.slice none 0 0, .slice none 0 0] 39))) := a4.out.alloc a4.out.size _;refine hK.out _ _ (b1.out _ c8.out) (fun _ => ?_)
   clear hK K c8;obtain ⟨pa, ho⟩ := exq (w4.heap.size);obtain ⟨w5, b5⟩ := exq (w4.alloc (.cells #[.slice none 0 0, .slice none 0 0] 39));rw [← ho, ← b5];have b7 : Hid (w2.heap.size ≤ pa) := by show _ ≤ _; rw [ho]; exact a4.out.size
   have bw := bal b5;have K5 := jw K4 bw;have a1 := hxt a4 bw;have a6 := hown b6 bw;have b8 : Hid (w5.heap[pa]? = some (.cells #[.slice none 0 0, .slice none 0 0] 39)) := by show _ = _; rw [b5, ho]; exact heap_alloc_new _ _
   clear bw ho b5 a4 K4;refine rd1 7 rfl (fun K hK => ?_)
   go_simp;refine (aD5 _ n2 _ s.ws _ (f5.out _ K5.hb) (by omega) HZ.out.wt).mono ?_;rintro e w6 ⟨va, rfl, a3, bw⟩;obtain ⟨oP, pP, rfl⟩ := aA0 a3;have K6 := jj K5 (jcR (jN bw) a3 jhn);have d3 : Hid (∀ g, (Value.ownBlock (.slice oP n2 pP)) = some g → w5.heap.size ≤ g) := fun g hg => aB7 a3 hg
   clear a3;clear K5;have b2 := hxt a1 bw;have a0 := hblk b8 bw;have a7 := hown a6 bw;have a8 : Hid (w6.ownsRow w2.heap.size 155 2 (.slice oP n2 pP) n2 (aA1 s.ws)) := aI9 (jo K6 0 rfl) (fun g hg => Nat.le_trans a1.out.size (d3.out g hg))
   refine hK.out _ _ (b1.out _ b2.out) (fun _ => ?_)
   clear hK K bw a1;refine tkP 8 (.agg #[.slice oC n1 pC, .slice oP n2 pP]) 12 rfl rfl (b1.out _ b2.out) ?_;go_frame;refine rd1 10 rfl (fun K hK => ?_)
   have d1 := c2f a0.out;obtain ⟨w7, hY⟩ := exq (((w6.setCell ⟨pa, 0, none⟩ (.slice oC n1 pC)).setCell ⟨pa, 1, none⟩ (.slice oP n2 pP)));have HY := hsy hY;have b3 : Hid (Below w2.heap.size w2 w7) := by show Below _ _ _; rw [hY]; exact ((b2.out.setCell (p := ⟨pa, 0, none⟩) b7.out _).setCell (p := ⟨pa, 1, none⟩) b7.out _)
   have b4 := hid (jbs [(0, _), (1, _)] a0.out hY);have a9 := hid (jrr [(0, _), (1, _)] a7.out hY a0.out);have b0 := hid (jrr [(0, _), (1, _)] a8.out hY a0.out);clear hY;go_simp;rw [HY.out];refine hK.out _ _ (b1.out _ b3.out) (fun _ => ?_)
   clear hK K HY d1;refine wdn ?_;go_wp2_with fail
   go_meet
   exact ⟨pa, oC, pC, oP, pP, rfl, ⟨b3.out, b4.out, b7.out, a9.out, b0.out⟩⟩
  go_simp;have c8 : Hid (Below w2.heap.size w2 (w3.alloc (.cells #[.slice none 0 0, .slice none 0 0] 39))) := a2.out.alloc a2.out.size _;refine hK.out _ _ (b1.out _ c8.out) (fun _ => ?_)
  clear hK K c8;obtain ⟨pa, ho⟩ := exq (w3.heap.size);obtain ⟨w4, b5⟩ := exq (w3.alloc (.cells #[.slice none 0 0, .slice none 0 0] 39));rw [← ho, ← b5];have b7 : Hid (w2.heap.size ≤ pa) := by show _ ≤ _; rw [ho]; exact a2.out.size
  have bw := bal b5;have K4 := jw K3 bw;have a4 := hxt a2 bw;have d7 : Hid (w4.heap[pa]? = some (.cells #[.slice none 0 0, .slice none 0 0] 39)) := by show _ = _; rw [b5, ho]; exact heap_alloc_new _ _
  clear bw ho b5 a2 K3;refine rd1 3 rfl (fun K hK => ?_)
  go_simp;refine (aD4 _ n1 _ s.cs _ (g7.out _ K4.hb) (by omega) (fun i hi => HZ.out.ct i (by rw [c7.out.1]; exact hi))).mono ?_
  rintro e w5 ⟨va, rfl, a3, bw⟩;obtain ⟨oC, pC, rfl⟩ := aA0 a3;have K5 := jj K4 (jcR (jN bw) a3 jhn);have f3 : Hid (∀ g, (Value.ownBlock (.slice oC n1 pC)) = some g → w4.heap.size ≤ g) := fun g hg => aB7 a3 hg
  clear a3;clear K4;have a1 := hxt a4 bw;have b8 := hblk d7 bw;have a6 : Hid (w5.ownsRow w2.heap.size 9 1 (.slice oC n1 pC) n1 (s.cs.map Value.string)) := aI9 (jo K5 0 rfl) (fun g hg => Nat.le_trans a4.out.size (f3.out g hg))
  refine hK.out _ _ (b1.out _ a1.out) (fun _ => ?_)
  clear hK K bw a4;refine rd1 7 rfl (fun K hK => ?_)
  go_simp;refine (aD5 _ n2 _ s.ws _ (f5.out _ K5.hb) (by omega) HZ.out.wt).mono ?_;rintro e w6 ⟨va, rfl, a3, bw⟩;obtain ⟨oP, pP, rfl⟩ := aA0 a3;have K6 := jj K5 (jcR (jN bw) a3 jhn);have d3 : Hid (∀ g, (Value.ownBlock (.slice oP n2 pP)) = some g → w5.heap.size ≤ g) := fun g hg => aB7 a3 hg
  clear a3;clear K5;have b2 := hxt a1 bw;have a0 := hblk b8 bw;have a7 := hown a6 bw;have a8 : Hid (w6.ownsRow w2.heap.size 155 2 (.slice oP n2 pP) n2 (aA1 s.ws)) := aI9 (jo K6 0 rfl) (fun g hg => Nat.le_trans a1.out.size (d3.out g hg))
  refine hK.out _ _ (b1.out _ b2.out) (fun _ => ?_)
  clear hK K bw a1;refine tkP 8 (.agg #[.slice oC n1 pC, .slice oP n2 pP]) 12 rfl rfl (b1.out _ b2.out) ?_;go_frame;refine rd1 10 rfl (fun K hK => ?_)
  have d1 := c2f a0.out;obtain ⟨w7, hY⟩ := exq (((w6.setCell ⟨pa, 0, none⟩ (.slice oC n1 pC)).setCell ⟨pa, 1, none⟩ (.slice oP n2 pP)));have HY := hsy hY;have b3 : Hid (Below w2.heap.size w2 w7) := by show Below _ _ _; rw [hY]; exact ((b2.out.setCell (p := ⟨pa, 0, none⟩) b7.out _).setCell (p := ⟨pa, 1, none⟩) b7.out _)
  have b4 := hid (jbs [(0, _), (1, _)] a0.out hY);have a9 := hid (jrr [(0, _), (1, _)] a7.out hY a0.out);have b0 := hid (jrr [(0, _), (1, _)] a8.out hY a0.out);clear hY;go_simp;rw [HY.out];refine hK.out _ _ (b1.out _ b3.out) (fun _ => ?_)
  clear hK K HY d1;refine wdn ?_;go_wp2_with fail
  go_meet
  exact ⟨pa, oC, pC, oP, pP, rfl, ⟨b3.out, b4.out, b7.out, a9.out, b0.out⟩⟩
 case rest =>
 obtain ⟨q3, oC, pC, oP, pP, g9, HF⟩ := hcut;rw [g9];obtain ⟨w3, h0⟩ := exq wc;rw [← h0] at HF ⊢;clear g9 h0 b1;obtain ⟨bw, c9, h8, c5, c6⟩ := HF.out;have d8 : Hid (q2 ≠ q3) := fun e => by have h1 := (Array.getElem?_eq_some_iff.1 (jb K2 0 rfl)).1; omega
 have K3 := jj K2 (jcR (jcR (jN bw) c5 jhn) c6 (jhc (jty c6 c5) jhn));have f3 := hlo c5;have d3 := hlo c6;have d9 := hid c9;clear bw c9 h8 HF c5 c6 K2;go_upto_region 2 with fail
 refine wp_region_held_drew (S := fun W => W.heap[q3]? = some (.cells #[.slice oC n1 pC, .slice oP n2 pP] 39) ∧ W.heap[q1]? = some (.cells #[.slice o1 n1 c1, .slice o2 n2 c2, .slice o3 n3 c3, .slice o4 n4 cX, .int .i64 s.nx, .int .i64 s.sq] 43)) (by kernel_rfl) ⟨d9.out, (jb K3 3 rfl)⟩ (fun _ => ?_)
 obtain ⟨w4, hX⟩ := exq w3.drew;have bw := bdr hX;rw [← hX];have K4 := jw K3 bw;have e0 := hblk d9 bw;have c0 := And.intro e0.out (jb K4 3 rfl);clear bw hX K3;refine tkL 0 (.agg #[.slice oC n1 pC, .slice oP n2 pP]) 13 rfl rfl (Or.inl ⟨by rfl, by intro W hW; obtain ⟨b9, a5⟩ := hW; have y0 := c2c b9; go_simp⟩) c0 ?_;go_frame;refine tkP 1 (.pointer (some ⟨q1, 2, none⟩)) 14 rfl rfl c0 ?_;go_frame;refine tkL 2 (.slice o3 n3 c3) 15 rfl rfl (Or.inl ⟨by rfl, by intro W hW; obtain ⟨b9, a5⟩ := hW; have y2 := c6c a5; go_simp⟩) c0 ?_;go_frame;refine tkP 4 (.pointer (some ⟨q1, 3, none⟩)) 17 rfl rfl c0 ?_;go_frame;refine tkL 5 (.slice o4 n4 cX) 18 rfl rfl (Or.inl ⟨by rfl, by intro W hW; obtain ⟨b9, a5⟩ := hW; have y3 := c6c a5; go_simp⟩) c0 ?_;go_frame;refine tkP 7 (.pointer (some ⟨q1, 4, none⟩)) 20 rfl rfl c0 ?_;go_frame;refine tkL 8 (.int .i64 s.nx) 21 rfl rfl (Or.inl ⟨by rfl, by intro W hW; obtain ⟨b9, a5⟩ := hW; have y4 := c6c a5; go_simp⟩) c0 ?_;go_frame;refine tkP 9 (.pointer (some ⟨q1, 5, none⟩)) 22 rfl rfl c0 ?_;go_frame;refine tkL 10 (.int .i64 s.sq) 23 rfl rfl (Or.inl ⟨by rfl, by intro W hW; obtain ⟨b9, a5⟩ := hW; have y5 := c6c a5; go_simp⟩) c0 ?_;go_frame;refine rd1 3 rfl (fun K hK => ?_)
 go_simp;refine (aX2 _ kv B _ (h5.out _ K4.hb) (by rw [g6.out]; omega) (fun x hx => HZ.out.kv g5.out hx)).mono ?_
 rintro e w5 ⟨VK, kw, rfl, g0, g1, bw⟩;have h9 : Hid (kw.map (·.1) = s.ks) := g0.trans g5.out;obtain ⟨oK, pK, h2⟩ := g1.len;rw [show kw.length = n3 from by rw [← g6.out, ← List.length_map (f := (·.1)), g0, List.length_map]] at h2;subst h2;have e5 : Hid (aA2 w5 w.heap.size ([(⟨9, 1, (.slice oC n1 pC), n1, s.cs.map Value.string⟩ : Rw), (⟨155, 2, (.slice oP n2 pP), n2, aA1 s.ws⟩ : Rw)] ++ aC5 (.slice oK n3 pK) kw)) := (aV5 ⟨(jo K4 1 rfl), (jo K4 0 rfl)⟩).more bw g1 (Nat.le_refl _) K4.hb.size
 have i0 : Hid (∀ r ∈ ([(⟨9, 1, (.slice oC n1 pC), n1, s.cs.map Value.string⟩ : Rw), (⟨155, 2, (.slice oP n2 pP), n2, aA1 s.ws⟩ : Rw)] ++ aC5 (.slice oK n3 pK) kw), 43 ≠ r.T) := by
  intro r hr
  rcases List.mem_append.1 hr with hr | hr
  ·simp only [List.mem_cons, List.not_mem_nil, or_false] at hr
   rcases hr with rfl | rfl
   ·exact (by decide : (43 : TypeId) ≠ 9)
   ·exact (by decide : (43 : TypeId) ≠ 155)
  ·rcases bB1 hr with e | e | e <;> rw [e] <;> decide
 clear g0 g1;have K5 := jw K4 bw;have e6 := hblk e0 bw;clear bw K4;have e7 := e5;clear e5;have h3 := And.intro e6.out (jb K5 3 rfl);refine hK.out _ _ h3 (fun _ => ?_)
 clear hK K c0;refine rd1 6 rfl (fun K hK => ?_)
 go_simp;refine (aX3 _ n4 _ s.bl _ (h6.out _ K5.hb) (by omega) HZ.out.bt).mono ?_;rintro e w6 ⟨va, rfl, a3, bw⟩;obtain ⟨oB, pB, rfl⟩ := aA0 a3;have e5 : Hid (aA2 w6 w.heap.size (([(⟨9, 1, (.slice oC n1 pC), n1, s.cs.map Value.string⟩ : Rw), (⟨155, 2, (.slice oP n2 pP), n2, aA1 s.ws⟩ : Rw)] ++ aC5 (.slice oK n3 pK) kw) ++ [(⟨62, 4, (.slice oB n4 pB), n4, aA5 s.bl⟩ : Rw)])) := e7.out.more bw (aA2.one (r := (⟨62, 4, (.slice oB n4 pB), n4, aA5 s.bl⟩ : Rw)) a3) (Nat.le_refl _) K5.hb.size
 have i1 : Hid (∀ r ∈ (([(⟨9, 1, (.slice oC n1 pC), n1, s.cs.map Value.string⟩ : Rw), (⟨155, 2, (.slice oP n2 pP), n2, aA1 s.ws⟩ : Rw)] ++ aC5 (.slice oK n3 pK) kw) ++ [(⟨62, 4, (.slice oB n4 pB), n4, aA5 s.bl⟩ : Rw)]), 43 ≠ r.T) := by
  intro r hr
  rcases List.mem_append.1 hr with hr | hr
  ·exact i0.out r hr
  ·rw [List.mem_singleton.1 hr]
   exact (by decide : (43 : TypeId) ≠ 62)
 clear a3;have K6 := jw K5 bw;have e8 := hblk e6 bw;have d2 := hid (e7.out.below bw);clear bw K5;clear d2;have d2 := e5;clear e5;have g2 := And.intro e8.out (jb K6 3 rfl);refine hK.out _ _ g2 (fun _ => ?_)
 clear hK K h3;refine tkP 11 (.agg #[.slice oC n1 pC, .slice oP n2 pP, .slice oK n3 pK, .slice oB n4 pB, .int .i64 s.nx, .int .i64 s.sq]) 24 rfl rfl g2 ?_;go_frame;refine rd1 12 rfl (fun K hK => ?_)
 have d1 := c6f (jb K6 2 rfl);obtain ⟨w7, hY⟩ := exq (((((((w6.setCell ⟨q2, 0, none⟩ (.slice oC n1 pC)).setCell ⟨q2, 1, none⟩ (.slice oP n2 pP)).setCell ⟨q2, 2, none⟩ (.slice oK n3 pK)).setCell ⟨q2, 3, none⟩ (.slice oB n4 pB)).setCell ⟨q2, 4, none⟩ (.int .i64 s.nx)).setCell ⟨q2, 5, none⟩ (.int .i64 s.sq)));have HY := hsy hY;have K7 := jss K6 2 [(0, _), (1, _), (2, _), (3, _), (4, _), (5, _)] hY;have g3 := hid (jbo [(0, _), (1, _), (2, _), (3, _), (4, _), (5, _)] e8.out hY d8.out.symm);have g4 := hid (jrs [(0, _), (1, _), (2, _), (3, _), (4, _), (5, _)] d2.out hY (jb K6 2 rfl) (i1.out));clear hY K6;go_simp;rw [HY.out];have h4 := And.intro g3.out (jb K7 3 rfl);refine hK.out _ _ h4 (fun _ => ?_)
 clear hK K HY g2 d1;clear h4;refine wdn ?_;go_wp2_with fail
 have e9 := c6c (jb K7 2 rfl);refine bodyPost_ret (v := .agg #[.slice oC n1 pC, .slice oP n2 pP, .slice oK n3 pK, .slice oB n4 pB, .int .i64 s.nx, .int .i64 s.sq]) (by simp [results, results81, go_sem, e9]) rfl ?_;refine ⟨.slice oC n1 pC, .slice oP n2 pP, .slice oK n3 pK, .slice oB n4 pB, kw, rfl, ⟨?_, h9.out⟩, K7.hb⟩;have h := g4.out;unfold aB2;rw [c7.out.1, c7.out.2.1, c7.out.2.2.2];exact h
theorem cG4 (c b n : Nat) (D : DataW Value) (v1 v2 V VB : Value) (kv : Ks) (cs : Ts) (ws : List (Int × ByteArray)) (bl : Bs) (nx sq : Int) (B : Nat) (w : World) (cX : Nat) (hq : w.heap[c]? = some (.cells #[v1, v2, V, capV VB cX, .int .i64 nx, .int .i64 sq, .map (some b)] 143)) (hko : aB9 w b n D) (hmi : aP2 D kv) (hap : aF8 kv) (hsl : aN1 kv) (hn : n ≤ 1048576) (hr : aA2 w B (aK8 v1 v2 VB cs ws bl ++ kv.flatMap kpR)) (hB : B ≤ w.heap.size) (hz : aF7 ⟨cs, ws, kv.map (·.1), bl, nx, sq⟩) :
  Calls prog 106 #[.pointer (some ⟨c, 0, none⟩)] w fun e w' => cO1 c kv cs ws bl nx sq w e w' := by
 have a8 := hid hq;have c8 : Hid (aB9 w b n D) := hko;have h0 : Hid (aA2 w B (aK8 v1 v2 VB cs ws bl ++ kv.flatMap kpR)) := hr;have j6 := hid hmi;have j7 := hid hap;have j8 := hid hsl;have HZ := hid hz;have j9 : kv.length ≤ 1048576 := by have h1 := hz.k; dsimp only at h1; rw [List.length_map] at h1; exact h1
 have k0 := hid hB;have l7 : Hid (NoTy (aK8 v1 v2 VB cs ws bl ++ kv.flatMap kpR)) := cC1;have k1 : Hid (∀ (gL pL : Nat) (a6 : Ks), NoTy (aB2 v1 v2 (.slice (some ⟨gL, 0, none⟩) a6.length pL) VB a6 cs ws bl)) := fun gL pL a6 => aG1
 clear hq hko hr hmi hap hsl hz hB;have h2 : w.grownBy w (some c) := World.grownBy.refl _ _;go_enter func106, ntmps106;go_upto_region 1 with fail
 obtain ⟨q1, h3⟩ := exq (w.heap.size);obtain ⟨w1, f0⟩ := exq (w.alloc (.cells #[.slice none 0 0, .slice none 0 0, .slice none 0 0, .slice none 0 0, .int .i64 0, .int .i64 0] 43));have f1 := h3.symm;rw [← f0]; try rw [← h3];have k2 := hsa f0 f1;have bw := bal f0;have h4 : w.grownBy w1 (some c) := aH4 h2 (aF5 bw _);have a9 := hblk a8 bw;have b0 : Hid (aB9 w1 b n (D)) := aE4 c8.out bw;have f2 := hid (h0.out.below bw);have a0 := hnq a8 f1;have h5 := hnew f0 f1;have e9 := hgg f1 h2.size;clear h2 bw f0 f1;clear k2 h3;have f3 := (k7c a9).2.2.2.2.2.2;go_wp2_with fail
 refine (cO0 b n D kv _ b0.out j6.out j7.out j8.out hn j9).mono ?_;rintro e w2 ⟨a6, gL, pL, rfl, hp, f4, hown, bw⟩;have HP : Hid (a6.Perm kv ∧ a6.Pairwise (fun x y => x.1.q ≤ y.1.q)) := ⟨hp, f4⟩
 have i8 : Hid (aA2 w2 B (aB2 v1 v2 (.slice (some ⟨gL, 0, none⟩) a6.length pL) VB a6 cs ws bl)) := cL2 f2.out bw hp hown (Nat.le_trans k0.out h4.size);clear hp f4 hown;have i9 : w.grownBy w2 (some c) := aH4 h4 (aF5 bw _);have a3 := hblk a9 bw;have h6 := hblk h5 bw;have b1 : Hid (aB9 w2 b n (D)) := aE4 b0.out bw;have c9 := hid (f2.out.below bw);clear h4 bw;clear c9;have c9 := i8;clear i8;clear f3;have b2 := (k7c a3).2.2.1;have d0 := hfz a3 2;go_upto_region 2 with fail
 obtain ⟨w3, d1⟩ := exq (w2.setCell ⟨c, 2, none⟩ (.slice (some ⟨gL, 0, none⟩) a6.length pL));rw [← d1];have h7 : w.grownBy w3 (some c) := by rw [d1]; exact (aE9 i9 2 _)
 have h8 := hset d1 a0.out.symm h6;have d2 : Hid (aB9 w3 b n (D)) := by show aB9 _ _ _ _; rw [d1]; exact World.ownsMap.setCell b1.out (aQ3 b1.out a3.out) _
 have f5 : Hid (aA2 (w3) B (aB2 v1 v2 (.slice (some ⟨gL, 0, none⟩) a6.length pL) VB a6 cs ws bl)) := by show aA2 _ _ _; rw [d1]; exact aA2.other c9.out a3.out (k1.out gL pL a6 143 (by decide) (by decide) (by decide) (by decide) (by decide))
 have a1 := hput d1 a3;clear i9 d1;clear b2 d0;have f6 := (k7c a1).1;have f7 := (k7c a1).2.1;have b2 := (k7c a1).2.2.1;have f8 := (k7c a1).2.2.2.1;have f9 := (k7c a1).2.2.2.2.1;have g0 := (k7c a1).2.2.2.2.2.1;have k3 : Hid (w.heap.size ≤ w3.heap.size) := h7.size;go_wp2_with fail
 refine (bI5 v1 v2 (.slice (some ⟨gL, 0, none⟩) a6.length pL) VB a6 (⟨cs, ws, a6.map (·.1), bl, nx, sq⟩ : ShD) B _ ⟨f5.out, rfl⟩ (cG2 HZ.out HP.out.1) cX).mono ?_;rintro e w4 ⟨va, vb, vc, vd, a5, rfl, c7, bw⟩;obtain ⟨b9, c0, rfl⟩ := aA0 c7.disk.cells;obtain ⟨c1, c2, rfl⟩ := aA0 c7.disk.pend;obtain ⟨c3, c4, rfl⟩ := c7.kept.len;obtain ⟨c5, c6, rfl⟩ := aA0 c7.bans;dsimp only at c7 ⊢;have j0 : w.grownBy w4 (some c) := aH4 h7 (aF5 bw _);have d3 := hblk a1 bw;have a2 := hblk h8 bw;have b3 : Hid (aB9 w4 b n (D)) := aE4 d2.out bw;have h9 := hid (f5.out.below bw);clear h7 bw;clear h9;have i0 : Hid (aA2 w4 w.heap.size (aB2 (.slice b9 cs.length c0) (.slice c1 ws.length c2) (.slice c3 a5.length c4) (.slice c5 bl.length c6) a5 cs ws bl)) := aA2.wide c7.1 k3.out;have k4 : Hid (a5.map (·.1) = a6.map (·.1)) := c7.2;clear c7;clear f6 f7 b2 f8 f9 g0;have k5 := (k6c a2).1;have k6 := hfz a2 0;have k7 := (k6c a2).2.1;have k8 := hfz a2 1;have k9 := (k6c a2).2.2.1;have l0 := hfz a2 2;have l1 := (k6c a2).2.2.2.1;have l2 := hfz a2 3;have l3 := (k6c a2).2.2.2.2.1;have l4 := hfz a2 4;have l5 := (k6c a2).2.2.2.2.2;have l6 := hfz a2 5;go_wp2_with fail
 obtain ⟨w5, d4⟩ := exq (w4.setCell ⟨q1, 0, none⟩ (.slice b9 cs.length c0));rw [← d4];have j1 : w.grownBy w5 (some c) := by rw [d4]; exact (aR9 j0 e9.out 0 _)
 have d5 := hset d4 a0.out d3;have b4 : Hid (aB9 w5 b n (D)) := by show aB9 _ _ _ _; rw [d4]; exact World.ownsMap.setCell b3.out (aQ3 b3.out a2.out) _
 have i1 : Hid (aA2 (w5) w.heap.size (aB2 (.slice b9 cs.length c0) (.slice c1 ws.length c2) (.slice c3 a5.length c4) (.slice c5 bl.length c6) a5 cs ws bl)) := by show aA2 _ _ _; rw [d4]; exact aA2.other i0.out a2.out (aG1 43 (by decide) (by decide) (by decide) (by decide) (by decide))
 have d6 := hput d4 a2;clear j0 d4;obtain ⟨w6, d7⟩ := exq (w5.setCell ⟨q1, 1, none⟩ (.slice c1 ws.length c2));rw [← d7];have j2 : w.grownBy w6 (some c) := by rw [d7]; exact (aR9 j1 e9.out 1 _)
 have d8 := hset d7 a0.out d5;have b5 : Hid (aB9 w6 b n (D)) := by show aB9 _ _ _ _; rw [d7]; exact World.ownsMap.setCell b4.out (aQ3 b4.out d6.out) _
 have i2 : Hid (aA2 (w6) w.heap.size (aB2 (.slice b9 cs.length c0) (.slice c1 ws.length c2) (.slice c3 a5.length c4) (.slice c5 bl.length c6) a5 cs ws bl)) := by show aA2 _ _ _; rw [d7]; exact aA2.other i1.out d6.out (aG1 43 (by decide) (by decide) (by decide) (by decide) (by decide))
 have d9 := hput d7 d6;clear j1 d7;obtain ⟨w7, e0⟩ := exq (w6.setCell ⟨q1, 2, none⟩ (.slice c3 a5.length c4));rw [← e0];have j3 : w.grownBy w7 (some c) := by rw [e0]; exact (aR9 j2 e9.out 2 _)
 have e1 := hset e0 a0.out d8;have b6 : Hid (aB9 w7 b n (D)) := by show aB9 _ _ _ _; rw [e0]; exact World.ownsMap.setCell b5.out (aQ3 b5.out d9.out) _
 have i3 : Hid (aA2 (w7) w.heap.size (aB2 (.slice b9 cs.length c0) (.slice c1 ws.length c2) (.slice c3 a5.length c4) (.slice c5 bl.length c6) a5 cs ws bl)) := by show aA2 _ _ _; rw [e0]; exact aA2.other i2.out d9.out (aG1 43 (by decide) (by decide) (by decide) (by decide) (by decide))
 have e2 := hput e0 d9;clear j2 e0;obtain ⟨w8, e3⟩ := exq (w7.setCell ⟨q1, 3, none⟩ (.slice c5 bl.length c6));rw [← e3];have j4 : w.grownBy w8 (some c) := by rw [e3]; exact (aR9 j3 e9.out 3 _)
 have e4 := hset e3 a0.out e1;have b7 : Hid (aB9 w8 b n (D)) := by show aB9 _ _ _ _; rw [e3]; exact World.ownsMap.setCell b6.out (aQ3 b6.out e2.out) _
 have i4 : Hid (aA2 (w8) w.heap.size (aB2 (.slice b9 cs.length c0) (.slice c1 ws.length c2) (.slice c3 a5.length c4) (.slice c5 bl.length c6) a5 cs ws bl)) := by show aA2 _ _ _; rw [e3]; exact aA2.other i3.out e2.out (aG1 43 (by decide) (by decide) (by decide) (by decide) (by decide))
 have e5 := hput e3 e2;clear j3 e3;obtain ⟨w9, e6⟩ := exq (w8.setCell ⟨q1, 4, none⟩ (.int .i64 nx));rw [← e6];have j5 : w.grownBy w9 (some c) := by rw [e6]; exact (aR9 j4 e9.out 4 _)
 have e7 := hset e6 a0.out e4;have b8 : Hid (aB9 w9 b n (D)) := by show aB9 _ _ _ _; rw [e6]; exact World.ownsMap.setCell b7.out (aQ3 b7.out e5.out) _
 have i5 : Hid (aA2 (w9) w.heap.size (aB2 (.slice b9 cs.length c0) (.slice c1 ws.length c2) (.slice c3 a5.length c4) (.slice c5 bl.length c6) a5 cs ws bl)) := by show aA2 _ _ _; rw [e6]; exact aA2.other i4.out e5.out (aG1 43 (by decide) (by decide) (by decide) (by decide) (by decide))
 have e8 := hput e6 e5;clear j4 e6;obtain ⟨i6, a7⟩ := exq (w9.setCell ⟨q1, 5, none⟩ (.int .i64 sq));rw [← a7];have i7 : w.grownBy i6 (some c) := by rw [a7]; exact (aR9 j5 e9.out 5 _)
 have g8 := hset a7 a0.out e7;have g9 : Hid (aB9 i6 b n (D)) := by show aB9 _ _ _ _; rw [a7]; exact World.ownsMap.setCell b8.out (aQ3 b8.out e8.out) _
 have g1 : Hid (aA2 (i6) w.heap.size (aB2 (.slice b9 cs.length c0) (.slice c1 ws.length c2) (.slice c3 a5.length c4) (.slice c5 bl.length c6) a5 cs ws bl)) := by show aA2 _ _ _; rw [a7]; exact aA2.other i5.out e8.out (aG1 43 (by decide) (by decide) (by decide) (by decide) (by decide))
 have a4 := hput a7 e8;clear j5 a7;have g2 := (k6c a4).1;have g3 := (k6c a4).2.1;have g4 := (k6c a4).2.2.1;have g5 := (k6c a4).2.2.2.1;have g6 := (k6c a4).2.2.2.2.1;have g7 := (k6c a4).2.2.2.2.2;refine bodyPost_ret (v := .agg #[.slice b9 cs.length c0, .slice c1 ws.length c2, .slice c3 a5.length c4, .slice c5 bl.length c6, .int .i64 nx, .int .i64 sq]) (by simp [results, results106, go_sem, g2, g3, g4, g5, g6, g7]) rfl ?_;exact ⟨a6, _, _, _, _, a5, HP.out.1, HP.out.2, rfl, ⟨g1.out, k4.out⟩, i7⟩
theorem aC8.belowB {w W W' : World} {c b B : Nat} (hb : Below B w W) (h : aC8 W W' c b) (hB : B ≤ W.heap.size) (hc : B ≤ c) (hbb : B ≤ b) : Below B w W' := hb.trans ⟨h.os, h.tape, h.output, h.size, fun j hj => h.block j (by omega) (by omega) (by omega)⟩
theorem aC8.blk {w w' : World} {c b q : Nat} {cs : Array Value} {T : TypeId} (h : aC8 w w' c b) (hq : w.heap[q]? = some (.cells cs T)) (hc : q ≠ c) (hb : q ≠ b) : w'.heap[q]? = some (.cells cs T) := (h.block q (blt hq) hc hb).trans hq
theorem aI1 {w : World} {q o : Nat} {cs : Array Value} {T : TypeId} {v : Value} (h : w.heap[q]? = some (.cells cs T)) (hv : cs[o]? = some v) : w.setCell ⟨q, o, none⟩ v = w := by
  have hh : (w.setCell ⟨q, o, none⟩ v).heap = w.heap := by
    apply Array.ext_getElem?
    intro j
    by_cases e : j = q
    · subst e
      rw [aD0 w j o cs T _ v h, h]
      congr 2
      apply Array.ext_getElem?
      intro i
      rw [Array.getElem?_setIfInBounds]
      by_cases e2 : o = i
      · subst e2
        rw [if_pos rfl, if_pos (Array.getElem?_eq_some_iff.1 hv).1, hv]
      · rw [if_neg e2]
    · exact heap_setCell_other _ _ _ _ e
  cases w
  simp only [World.setCell] at hh ⊢
  congr 1
theorem aW0 {P : Program} {f : Func} {t t' : Array Value} {R : Ending → World → Prop} (h : results f t = results f t') : ∀ (ds : List Deferred) (u : FrameMode) (w : World), Leaves P f t R ds u w → Leaves P f t' R ds u w
 | [], .returning, w, hl => by
  obtain ⟨v, h1, h2⟩ := hl
  exact ⟨v, by rw [← h]; exact h1, h2⟩
 | [], .panicking chain, w, hl => hl
 | [], .run, w, hl => hl
 | d :: ds, u, w, hl => by
  obtain ⟨hu, fv, cap, g, args, h1, h2, h3⟩ := hl
  refine ⟨hu, fv, cap, g, args, h1, h2, h3.mono ?_⟩
  intro e u' w' h4
  cases e with
  | returned v => exact aW0 h ds _ w' h4
  | panicked chain => exact aW0 h ds _ w' h4
  | outgrown => exact h4
theorem bZ9 (t : Array Value) (i : Nat) (v : Value) (h4 : i ≠ 4) (h5 : i ≠ 5) : results Tryz.f45 (t.setIfInBounds i v) = results Tryz.f45 t := by
 have g : ∀ j, i ≠ j → (t.setIfInBounds i v).getD j undef = t.getD j undef := fun j hj => by
  rw [Array.getD_eq_getD_getElem?, Array.getD_eq_getD_getElem?, Array.getElem?_setIfInBounds_ne hj]
 unfold results;rw [show (Tryz.f45).results = #[.cell 4 43, .cell 5 4] from rfl];simp only [List.mapM_toArray, List.mapM_cons, List.mapM_nil, g 4 h4, g 5 h5]
theorem bM0 {R : Ending → World → Prop} {c : List PanicEntry} {a : Act} {w : World} {i : Nat} {v : Value} (h4 : i ≠ 4) (h5 : i ≠ 5) (h : bodyPostD prog Tryz.f45 R (.panic c) (a.put (some i) v) w) : bodyPostD prog Tryz.f45 R (.panic c) a w :=
 aW0 (bZ9 _ i v h4 h5) _ _ _ h
def cL4 (c b : Nat) (V : Value) (B : Nat) (Pl : Ts → List (Int × ByteArray) → Ks → Bs → Int → Int → Prop) (Fl : Prop) (w : World) (e : Ending) (w' : World) : Prop :=
 ∃ (ok : Bool) (u1 u2 VB' : Value) (cs' : Ts) (ws' : List (Int × ByteArray)) (kv' : Ks) (bl' : Bs) (nx' sq' : Int) (n' : Nat) (D' : DataW Value) (cX : Nat), e = .returned (.bool ok) ∧ w'.heap[c]? = some (.cells #[u1, u2, V, capV VB' cX, .int .i64 nx', .int .i64 sq', .map (some b)] 143) ∧ aB9 w' b n' D' ∧ aP2 D' kv' ∧ n' ≤ 1048576 ∧ aF8 kv' ∧ aN1 kv' ∧ aA2 w' B (aK8 u1 u2 VB' cs' ws' bl' ++ kv'.flatMap kpR) ∧ aF7 ⟨cs', ws', kv'.map (·.1), bl', nx', sq'⟩ ∧ aC8 w w' c b ∧ (ok = true → Pl cs' ws' kv' bl' nx' sq') ∧ (ok = false → Fl)
def bU7 (s : ShD) (Pl : Ts → List (Int × ByteArray) → Ks → Bs → Int → Int → Prop) (Fl : Prop) (w : World) (e : Ending) (w' : World) : Prop :=
 (¬ aI5 s ∧ e = .returned (.tuple #[.agg #[.slice none 0 0, .slice none 0 0, .slice none 0 0, .slice none 0 0, .int .i64 0, .int .i64 0], .bool false]) ∧ Below w.heap.size w w') ∨
 (aI5 s ∧ Fl ∧ ∃ va vb vc vd kvc, e = .returned (.tuple #[.agg #[va, vb, vc, vd, .int .i64 s.nx, .int .i64 s.sq], .bool false]) ∧ aD1 w' w.heap.size va vb vc vd kvc s ∧ Below w.heap.size w w') ∨
 (aI5 s ∧ ∃ (cs' : Ts) (ws' : List (Int × ByteArray)) (kv' kvt : Ks) (bl' : Bs) (nx' sq' : Int) (va vb vc vd : Value) (kvc : Ks), Pl cs' ws' kv' bl' nx' sq' ∧ kvt.Perm kv' ∧ kvt.Pairwise (fun x y => x.1.q ≤ y.1.q) ∧ e = .returned (.tuple #[.agg #[va, vb, vc, vd, .int .i64 nx', .int .i64 sq'], .bool true]) ∧ aD1 w' w.heap.size va vb vc vd kvc ⟨cs', ws', kvt.map (·.1), bl', nx', sq'⟩ ∧ Below w.heap.size w w')
theorem cG5 {s : ShD} (h : aI5 s) : s.ks.length ≤ 100000 := by
 have hq : ∀ i, i < s.ks.length → (i : Int) + 1 ≤ (kpAt s.ks i).q := by
  intro i
  induction i with
  | zero => intro hi; have := (h.2.2.2.2.2 0 hi).2.2.1.1; omega
  | succ i ih =>
   intro hi
   have h1 := ih (by omega)
   have h2 := (h.2.2.2.2.2 (i + 1) hi).2.2.2.1 (by omega)
   rw [Nat.add_sub_cancel] at h2
   omega
 rcases Nat.lt_or_ge 100000 s.ks.length with hl | hl
 ·have h1 := hq (s.ks.length - 1) (by omega);have h2 := (h.2.2.2.2.2 (s.ks.length - 1) (by omega)).2.2.1.2;have h3 := h.2.2.2.1.2;omega
 exact hl
theorem bC6 {s : ShD} {kv : Ks} (h : aI5 s) (hk : kv.map (·.1) = s.ks) : aF8 kv := by
 have hl : kv.length = s.ks.length := by rw [← hk, List.length_map]
 unfold aF8;rw [List.pairwise_iff_getElem];intro i j hi hj a0;have h1 := (h.2.2.2.2.2 j (by omega)).2.2.2.2 i a0;rw [← hk, ← aK6 kv i hi, ← aK6 kv j hj, ← aT7 kv i hi, ← aT7 kv j hj] at h1;exact h1
theorem cA0 {s : ShD} {kv : Ks} (h : aI5 s) (hk : kv.map (·.1) = s.ks) : ∀ x ∈ kv, 0 ≤ x.1.a ∧ x.1.a ≤ 1000 := fun x hx => by
 obtain ⟨i, hi, e⟩ := List.getElem_of_mem (show x.1 ∈ s.ks by rw [← hk]; exact List.mem_map.2 ⟨x, hx, rfl⟩)
 rw [aT4] at e
 have := (h.2.2.2.2.2 i hi).2.1
 rw [e] at this
 omega
theorem cL5 (qd qs qa : Nat) (u : FrameMode) (w : World) (h : w.heap[qd]? = some (.cells #[.bool true] 4)) :
  CallsD prog 104 #[.pointer (some ⟨qd, 0, none⟩), .pointer (some ⟨qs, 0, none⟩), .pointer (some ⟨qa, 0, none⟩)] u w fun e u' w' => u' = u ∧ (e = .returned (.tuple #[]) ∧ w' = w) := by
 have c0 : w.cell? ⟨qd, 0, none⟩ = some (.bool true) := (aB0 h 0).trans rfl;clear h;go_enter_d func104, ntmps104
 go_wp2_with fail
 go_end0
 exact ⟨rfl, rfl⟩
theorem cL6 (qd qs c : Nat) (x0 x1 x2 x3 x4 x5 : Value) (u : FrameMode) (v1 v2 V VB : Value) (kv : List (KpD × Value × Value × Value)) (s : ShD) (B : Nat) (w : World) (h : aD1 w B v1 v2 V VB kv s) (hz : aF7 s) (hd : w.heap[qd]? = some (.cells #[.bool false] 4)) (hs : w.heap[qs]? = some (.cells #[v1, v2, V, VB, .int .i64 s.nx, .int .i64 s.sq] 43)) (ha : w.heap[c]? = some (.cells #[x0, x1, x2, x3, x4, x5] 43)) (h1 : qd ≠ qs) (h2 : qd ≠ c) (h3 : qs ≠ c) :
    CallsD prog 104 #[.pointer (some ⟨qd, 0, none⟩), .pointer (some ⟨qs, 0, none⟩), .pointer (some ⟨c, 0, none⟩)] u w fun e u' w' => u' = u ∧ ∃ va vb vc vd kvc, e = .returned (.tuple #[]) ∧ w'.heap[c]? = some (.cells #[va, vb, vc, vd, .int .i64 s.nx, .int .i64 s.sq] 43) ∧ aD1 w' w.heap.size va vb vc vd kvc s ∧ w.grownBy w' (some c) := by
  have HBd_0 : Hid (w.heap[qd]? = some (.cells #[.bool false] 4)) := hd
  have HBs_0 : Hid (w.heap[qs]? = some (.cells #[v1, v2, V, VB, .int .i64 s.nx, .int .i64 s.sq] 43)) := hs
  have HBa_0 : Hid (w.heap[c]? = some (.cells #[x0, x1, x2, x3, x4, x5] 43)) := ha
  have HSO : Hid (aD1 w B v1 v2 V VB kv s) := h
  have HZ : Hid (aF7 s) := hz
  have HNds : Hid (qd ≠ qs) := h1
  have HNda : Hid (qd ≠ c) := h2
  have HNsa : Hid (qs ≠ c) := h3
  clear hd hs ha h hz h1 h2 h3
  have hb0 : w.grownBy w (some c) := World.grownBy.refl _ _
  go_enter_d func104, ntmps104
  have cd_0 : (w).cell? ⟨qd, 0, none⟩ = some (.bool false) := (aB0 HBd_0.out 0).trans rfl
  have cs_0 : (w).cell? ⟨qs, 0, none⟩ = some (v1) := (aB0 HBs_0.out 0).trans rfl
  have cs_1 : (w).cell? ⟨qs, 1, none⟩ = some (v2) := (aB0 HBs_0.out 1).trans rfl
  have cs_2 : (w).cell? ⟨qs, 2, none⟩ = some (V) := (aB0 HBs_0.out 2).trans rfl
  have cs_3 : (w).cell? ⟨qs, 3, none⟩ = some (VB) := (aB0 HBs_0.out 3).trans rfl
  have cs_4 : (w).cell? ⟨qs, 4, none⟩ = some (.int .i64 s.nx) := (aB0 HBs_0.out 4).trans rfl
  have cs_5 : (w).cell? ⟨qs, 5, none⟩ = some (.int .i64 s.sq) := (aB0 HBs_0.out 5).trans rfl
  go_wp2_with fail
  refine (bI1 v1 v2 V VB kv s B _ HSO.out HZ.out).mono ?_
  rintro e w1 ⟨va, vb, vc, vd, kvc, rfl, hso, bw⟩
  obtain ⟨oCc, pCc, rfl⟩ := aA0 hso.disk.cells
  obtain ⟨oPc, pPc, rfl⟩ := aA0 hso.disk.pend
  obtain ⟨oKc, pKc, rfl⟩ := hso.kept.len
  obtain ⟨oBc, pBc, rfl⟩ := aA0 hso.bans
  dsimp only at hso ⊢
  have hb1 : w.grownBy w1 (some c) := aH4 hb0 (aF5 bw _)
  have HM1 : Hid ((w).heap.size ≤ (w1).heap.size) := bw.size
  have HBd_1 : Hid ((w1).heap[qd]? = some (.cells #[.bool false] 4)) := aA3 HBd_0.out bw
  have HBs_1 : Hid ((w1).heap[qs]? = some (.cells #[v1, v2, V, VB, .int .i64 s.nx, .int .i64 s.sq] 43)) := aA3 HBs_0.out bw
  have HBa_1 : Hid ((w1).heap[c]? = some (.cells #[x0, x1, x2, x3, x4, x5] 43)) := aA3 HBa_0.out bw
  clear hb0 HBd_0 HBs_0 HBa_0 bw
  have EN_1 : Hid (aA2 (w1) w.heap.size (aB2 (.slice oCc s.cs.length pCc) (.slice oPc s.ws.length pPc) (.slice oKc kvc.length pKc) (.slice oBc s.bl.length pBc) kvc s.cs s.ws s.bl)) := hso.1
  have HKC : Hid (kvc.map (·.1) = s.ks) := hso.2
  clear hso
  clear cd_0 cs_0 cs_1 cs_2 cs_3 cs_4 cs_5
  have ca_0 : (w1).cell? ⟨c, 0, none⟩ = some (x0) := (aB0 HBa_1.out 0).trans rfl
  have fca_0 : (w1).frozen? ⟨c, 0, none⟩ = false := aC9 HBa_1.out 0
  have ca_1 : (w1).cell? ⟨c, 1, none⟩ = some (x1) := (aB0 HBa_1.out 1).trans rfl
  have fca_1 : (w1).frozen? ⟨c, 1, none⟩ = false := aC9 HBa_1.out 1
  have ca_2 : (w1).cell? ⟨c, 2, none⟩ = some (x2) := (aB0 HBa_1.out 2).trans rfl
  have fca_2 : (w1).frozen? ⟨c, 2, none⟩ = false := aC9 HBa_1.out 2
  have ca_3 : (w1).cell? ⟨c, 3, none⟩ = some (x3) := (aB0 HBa_1.out 3).trans rfl
  have fca_3 : (w1).frozen? ⟨c, 3, none⟩ = false := aC9 HBa_1.out 3
  have ca_4 : (w1).cell? ⟨c, 4, none⟩ = some (x4) := (aB0 HBa_1.out 4).trans rfl
  have fca_4 : (w1).frozen? ⟨c, 4, none⟩ = false := aC9 HBa_1.out 4
  have ca_5 : (w1).cell? ⟨c, 5, none⟩ = some (x5) := (aB0 HBa_1.out 5).trans rfl
  have fca_5 : (w1).frozen? ⟨c, 5, none⟩ = false := aC9 HBa_1.out 5
  go_wp2_with fail
  obtain ⟨w2, hW2⟩ : ∃ W, W = (w1).setCell ⟨c, 0, none⟩ (.slice oCc s.cs.length pCc) := ⟨_, rfl⟩
  rw [← hW2]
  have hb2 : w.grownBy w2 (some c) := by rw [hW2]; exact (aE9 hb1 0 _)
  have HM2 : Hid ((w1).heap.size ≤ w2.heap.size) := by show _ ≤ _; rw [hW2]; simp
  have HBd_2 : Hid ((w2).heap[qd]? = some (.cells #[.bool false] 4)) := by show _ = _; rw [hW2, heap_setCell_other _ _ _ _ HNda.out]; exact HBd_1.out
  have HBs_2 : Hid ((w2).heap[qs]? = some (.cells #[v1, v2, V, VB, .int .i64 s.nx, .int .i64 s.sq] 43)) := by show _ = _; rw [hW2, heap_setCell_other _ _ _ _ HNsa.out]; exact HBs_1.out
  have EN_2 : Hid (aA2 (w2) w.heap.size (aB2 (.slice oCc s.cs.length pCc) (.slice oPc s.ws.length pPc) (.slice oKc kvc.length pKc) (.slice oBc s.bl.length pBc) kvc s.cs s.ws s.bl)) := by show aA2 _ _ _; rw [hW2]; exact aA2.other EN_1.out HBa_1.out (aG1 43 (by decide) (by decide) (by decide) (by decide) (by decide))
  have HBa_2 : Hid ((w2).heap[c]? = some (.cells #[.slice oCc s.cs.length pCc, x1, x2, x3, x4, x5] 43)) := by show _ = _; rw [hW2]; have h := aD0 _ _ 0 _ _ _ (.slice oCc s.cs.length pCc) HBa_1.out; simpa using h
  clear hb1 HBd_1 HBs_1 HBa_1 EN_1 hW2
  obtain ⟨w3, hW3⟩ : ∃ W, W = (w2).setCell ⟨c, 1, none⟩ (.slice oPc s.ws.length pPc) := ⟨_, rfl⟩
  rw [← hW3]
  have hb3 : w.grownBy w3 (some c) := by rw [hW3]; exact (aE9 hb2 1 _)
  have HM3 : Hid ((w2).heap.size ≤ w3.heap.size) := by show _ ≤ _; rw [hW3]; simp
  have HBd_3 : Hid ((w3).heap[qd]? = some (.cells #[.bool false] 4)) := by show _ = _; rw [hW3, heap_setCell_other _ _ _ _ HNda.out]; exact HBd_2.out
  have HBs_3 : Hid ((w3).heap[qs]? = some (.cells #[v1, v2, V, VB, .int .i64 s.nx, .int .i64 s.sq] 43)) := by show _ = _; rw [hW3, heap_setCell_other _ _ _ _ HNsa.out]; exact HBs_2.out
  have EN_3 : Hid (aA2 (w3) w.heap.size (aB2 (.slice oCc s.cs.length pCc) (.slice oPc s.ws.length pPc) (.slice oKc kvc.length pKc) (.slice oBc s.bl.length pBc) kvc s.cs s.ws s.bl)) := by show aA2 _ _ _; rw [hW3]; exact aA2.other EN_2.out HBa_2.out (aG1 43 (by decide) (by decide) (by decide) (by decide) (by decide))
  have HBa_3 : Hid ((w3).heap[c]? = some (.cells #[.slice oCc s.cs.length pCc, .slice oPc s.ws.length pPc, x2, x3, x4, x5] 43)) := by show _ = _; rw [hW3]; have h := aD0 _ _ 1 _ _ _ (.slice oPc s.ws.length pPc) HBa_2.out; simpa using h
  clear hb2 HBd_2 HBs_2 HBa_2 EN_2 hW3
  obtain ⟨w4, hW4⟩ : ∃ W, W = (w3).setCell ⟨c, 2, none⟩ (.slice oKc kvc.length pKc) := ⟨_, rfl⟩
  rw [← hW4]
  have hb4 : w.grownBy w4 (some c) := by rw [hW4]; exact (aE9 hb3 2 _)
  have HM4 : Hid ((w3).heap.size ≤ w4.heap.size) := by show _ ≤ _; rw [hW4]; simp
  have HBd_4 : Hid ((w4).heap[qd]? = some (.cells #[.bool false] 4)) := by show _ = _; rw [hW4, heap_setCell_other _ _ _ _ HNda.out]; exact HBd_3.out
  have HBs_4 : Hid ((w4).heap[qs]? = some (.cells #[v1, v2, V, VB, .int .i64 s.nx, .int .i64 s.sq] 43)) := by show _ = _; rw [hW4, heap_setCell_other _ _ _ _ HNsa.out]; exact HBs_3.out
  have EN_4 : Hid (aA2 (w4) w.heap.size (aB2 (.slice oCc s.cs.length pCc) (.slice oPc s.ws.length pPc) (.slice oKc kvc.length pKc) (.slice oBc s.bl.length pBc) kvc s.cs s.ws s.bl)) := by show aA2 _ _ _; rw [hW4]; exact aA2.other EN_3.out HBa_3.out (aG1 43 (by decide) (by decide) (by decide) (by decide) (by decide))
  have HBa_4 : Hid ((w4).heap[c]? = some (.cells #[.slice oCc s.cs.length pCc, .slice oPc s.ws.length pPc, .slice oKc kvc.length pKc, x3, x4, x5] 43)) := by show _ = _; rw [hW4]; have h := aD0 _ _ 2 _ _ _ (.slice oKc kvc.length pKc) HBa_3.out; simpa using h
  clear hb3 HBd_3 HBs_3 HBa_3 EN_3 hW4
  obtain ⟨w5, hW5⟩ : ∃ W, W = (w4).setCell ⟨c, 3, none⟩ (.slice oBc s.bl.length pBc) := ⟨_, rfl⟩
  rw [← hW5]
  have hb5 : w.grownBy w5 (some c) := by rw [hW5]; exact (aE9 hb4 3 _)
  have HM5 : Hid ((w4).heap.size ≤ w5.heap.size) := by show _ ≤ _; rw [hW5]; simp
  have HBd_5 : Hid ((w5).heap[qd]? = some (.cells #[.bool false] 4)) := by show _ = _; rw [hW5, heap_setCell_other _ _ _ _ HNda.out]; exact HBd_4.out
  have HBs_5 : Hid ((w5).heap[qs]? = some (.cells #[v1, v2, V, VB, .int .i64 s.nx, .int .i64 s.sq] 43)) := by show _ = _; rw [hW5, heap_setCell_other _ _ _ _ HNsa.out]; exact HBs_4.out
  have EN_5 : Hid (aA2 (w5) w.heap.size (aB2 (.slice oCc s.cs.length pCc) (.slice oPc s.ws.length pPc) (.slice oKc kvc.length pKc) (.slice oBc s.bl.length pBc) kvc s.cs s.ws s.bl)) := by show aA2 _ _ _; rw [hW5]; exact aA2.other EN_4.out HBa_4.out (aG1 43 (by decide) (by decide) (by decide) (by decide) (by decide))
  have HBa_5 : Hid ((w5).heap[c]? = some (.cells #[.slice oCc s.cs.length pCc, .slice oPc s.ws.length pPc, .slice oKc kvc.length pKc, .slice oBc s.bl.length pBc, x4, x5] 43)) := by show _ = _; rw [hW5]; have h := aD0 _ _ 3 _ _ _ (.slice oBc s.bl.length pBc) HBa_4.out; simpa using h
  clear hb4 HBd_4 HBs_4 HBa_4 EN_4 hW5
  obtain ⟨w6, hW6⟩ : ∃ W, W = (w5).setCell ⟨c, 4, none⟩ (.int .i64 s.nx) := ⟨_, rfl⟩
  rw [← hW6]
  have hb6 : w.grownBy w6 (some c) := by rw [hW6]; exact (aE9 hb5 4 _)
  have HM6 : Hid ((w5).heap.size ≤ w6.heap.size) := by show _ ≤ _; rw [hW6]; simp
  have HBd_6 : Hid ((w6).heap[qd]? = some (.cells #[.bool false] 4)) := by show _ = _; rw [hW6, heap_setCell_other _ _ _ _ HNda.out]; exact HBd_5.out
  have HBs_6 : Hid ((w6).heap[qs]? = some (.cells #[v1, v2, V, VB, .int .i64 s.nx, .int .i64 s.sq] 43)) := by show _ = _; rw [hW6, heap_setCell_other _ _ _ _ HNsa.out]; exact HBs_5.out
  have EN_6 : Hid (aA2 (w6) w.heap.size (aB2 (.slice oCc s.cs.length pCc) (.slice oPc s.ws.length pPc) (.slice oKc kvc.length pKc) (.slice oBc s.bl.length pBc) kvc s.cs s.ws s.bl)) := by show aA2 _ _ _; rw [hW6]; exact aA2.other EN_5.out HBa_5.out (aG1 43 (by decide) (by decide) (by decide) (by decide) (by decide))
  have HBa_6 : Hid ((w6).heap[c]? = some (.cells #[.slice oCc s.cs.length pCc, .slice oPc s.ws.length pPc, .slice oKc kvc.length pKc, .slice oBc s.bl.length pBc, .int .i64 s.nx, x5] 43)) := by show _ = _; rw [hW6]; have h := aD0 _ _ 4 _ _ _ (.int .i64 s.nx) HBa_5.out; simpa using h
  clear hb5 HBd_5 HBs_5 HBa_5 EN_5 hW6
  obtain ⟨w7, hW7⟩ : ∃ W, W = (w6).setCell ⟨c, 5, none⟩ (.int .i64 s.sq) := ⟨_, rfl⟩
  rw [← hW7]
  have hb7 : w.grownBy w7 (some c) := by rw [hW7]; exact (aE9 hb6 5 _)
  have HM7 : Hid ((w6).heap.size ≤ w7.heap.size) := by show _ ≤ _; rw [hW7]; simp
  have HBd_7 : Hid ((w7).heap[qd]? = some (.cells #[.bool false] 4)) := by show _ = _; rw [hW7, heap_setCell_other _ _ _ _ HNda.out]; exact HBd_6.out
  have HBs_7 : Hid ((w7).heap[qs]? = some (.cells #[v1, v2, V, VB, .int .i64 s.nx, .int .i64 s.sq] 43)) := by show _ = _; rw [hW7, heap_setCell_other _ _ _ _ HNsa.out]; exact HBs_6.out
  have EN_7 : Hid (aA2 (w7) w.heap.size (aB2 (.slice oCc s.cs.length pCc) (.slice oPc s.ws.length pPc) (.slice oKc kvc.length pKc) (.slice oBc s.bl.length pBc) kvc s.cs s.ws s.bl)) := by show aA2 _ _ _; rw [hW7]; exact aA2.other EN_6.out HBa_6.out (aG1 43 (by decide) (by decide) (by decide) (by decide) (by decide))
  have HBa_7 : Hid ((w7).heap[c]? = some (.cells #[.slice oCc s.cs.length pCc, .slice oPc s.ws.length pPc, .slice oKc kvc.length pKc, .slice oBc s.bl.length pBc, .int .i64 s.nx, .int .i64 s.sq] 43)) := by show _ = _; rw [hW7]; have h := aD0 _ _ 5 _ _ _ (.int .i64 s.sq) HBa_6.out; simpa using h
  clear hb6 HBd_6 HBs_6 HBa_6 EN_6 hW7
  go_end0
  exact ⟨_, _, _, _, kvc, rfl, HBa_7.out, ⟨EN_7.out, HKC.out⟩, hb7⟩
theorem cA1 (f : FuncId) (q : Nat) (v1 v2 V VB : Value) (kv : Ks) (s : ShD) (B : Nat) (w : World) (h : aD1 w B v1 v2 V VB kv s) (hz : aF7 s) (hB : B ≤ w.heap.size) (Pl : Ts → List (Int × ByteArray) → Ks → Bs → Int → Int → Prop) (Fl : Prop) (hcf : ∀ (args : Array Value) (W : World), (callFunc f args).run prog W = .ok (.enter f args) W)
  (hst : aI5 s → ∀ (c b n : Nat) (D : DataW Value) (W : World), Below w.heap.size w W → w.heap.size ≤ c → w.heap.size ≤ b → W.heap[c]? = some (.cells #[v1, v2, V, cR7 VB, .int .i64 s.nx, .int .i64 s.sq, .map (some b)] 143) → aB9 W b n D → aP2 D kv → n ≤ kv.length → Calls prog f #[.pointer (some ⟨c, 0, none⟩), .pointer (some ⟨q, 0, none⟩)] W fun e w' => cL4 c b V B Pl Fl W e w') :
  Calls prog 45 #[.agg #[v1, v2, V, VB, .int .i64 s.nx, .int .i64 s.sq], .func (.func f) #[] #[.pointer (some ⟨q, 0, none⟩)]] w fun e w' => bU7 s Pl Fl w e w' := by
 have g0 : Hid (∀ W, Bw w W → aD1 W B v1 v2 V VB kv s) := fun W hb => h.below hb
 have HZ := hid hz;have i7 : Hid (kv.map (·.1) = s.ks) := h.2;have l7 := hid hB;have l8 := hid hst;clear h hz hB hst;have K0 := jnil w;go_enter_defers func45, ntmps45
 go_upto_region 1 with fail
 obtain ⟨q1, g1⟩ := exq (w.heap.size);obtain ⟨w1, d1⟩ := exq (w.alloc (.cells #[v1, v2, V, VB, .int .i64 s.nx, .int .i64 s.sq] 43));have g2 := g1.symm;rw [← d1]; try rw [← g1];have i8 := hsa d1 g2;have bw := bal d1;have K1 := ja K0 d1 g2;clear bw d1 g2 K0;obtain ⟨q2, g3⟩ := exq (q1 + 1);obtain ⟨w2, d2⟩ := exq (w1.alloc (.cells #[.slice none 0 0, .slice none 0 0, .slice none 0 0, .slice none 0 0, .int .i64 0, .int .i64 0] 43));have b5 : w1.heap.size = q2 := by rw [g3]; exact i8
 rw [← d2]; try rw [← g3];have d3 := hsa d2 b5;have bw := bal d2;have K2 := ja K1 d2 b5;have d4 : Hid (q1 ≠ q2) := fun e => by have h1 := (Array.getElem?_eq_some_iff.1 (jb K1 0 rfl)).1; omega
 have l9 : Hid (w.heap.size ≤ q2) := by show _ ≤ _; rw [← b5]; exact K1.hb.size
 clear bw d2 b5 K1;obtain ⟨q3, g4⟩ := exq (q2 + 1);obtain ⟨w3, d5⟩ := exq (w2.alloc (.cells #[.bool false] 4));have g5 : w2.heap.size = q3 := by rw [g4]; exact d3
 rw [← d5]; try rw [← g4];have m0 := hsa d5 g5;have bw := bal d5;have K3 := ja K2 d5 g5;have d6 : Hid (q1 ≠ q3) := fun e => by have h1 := (Array.getElem?_eq_some_iff.1 (jb K2 1 rfl)).1; omega
 have b1 : Hid (q2 ≠ q3) := fun e => by have h1 := (Array.getElem?_eq_some_iff.1 (jb K2 0 rfl)).1; omega
 clear bw d5 g5 K2;clear m0 g4 d3 g3 i8 g1;have b6 := c6c (jb K3 2 rfl);go_wp2_with fail
 refine (bI0 v1 v2 V VB kv s B _ (g0.out _ K3.hb) HZ.out).mono ?_;rintro e w4 ⟨us, rfl, f8, bw⟩;have K4 := jw K3 bw;clear bw K3;clear b6;cases us
 ·have g6 : Hid (¬ (aI5 s)) := fun h => nomatch f8.2 h
  clear f8;have g7 := c6f (jb K4 1 rfl);have b7 := c1f (jb K4 0 rfl);have m7 : w4.setCell ⟨q2, 0, none⟩ (.slice none 0 0) = w4 := aI1 (jb K4 1 rfl) rfl;have m8 : w4.setCell ⟨q2, 1, none⟩ (.slice none 0 0) = w4 := aI1 (jb K4 1 rfl) rfl;have m9 : w4.setCell ⟨q2, 2, none⟩ (.slice none 0 0) = w4 := aI1 (jb K4 1 rfl) rfl;have n0 : w4.setCell ⟨q2, 3, none⟩ (.slice none 0 0) = w4 := aI1 (jb K4 1 rfl) rfl;have n1 : w4.setCell ⟨q2, 4, none⟩ (.int .i64 0) = w4 := aI1 (jb K4 1 rfl) rfl;have n3 : w4.setCell ⟨q2, 5, none⟩ (.int .i64 0) = w4 := aI1 (jb K4 1 rfl) rfl;have n4 : w4.setCell ⟨q3, 0, none⟩ (.bool false) = w4 := aI1 (jb K4 0 rfl) rfl;go_wp2_with fail
  clear g7 b7;have d7 := (aB0 (jb K4 1 rfl) 0).trans rfl;have d8 := (aB0 (jb K4 1 rfl) 1).trans rfl;have d9 := (aB0 (jb K4 1 rfl) 2).trans rfl;have e0 := (aB0 (jb K4 1 rfl) 3).trans rfl;have e1 := (aB0 (jb K4 1 rfl) 4).trans rfl;have e2 := (aB0 (jb K4 1 rfl) 5).trans rfl;have e3 := (aB0 (jb K4 0 rfl) 0).trans rfl;refine ⟨.tuple #[.agg #[.slice none 0 0, .slice none 0 0, .slice none 0 0, .slice none 0 0, .int .i64 0, .int .i64 0], .bool false], ?_, .inl ⟨g6.out, rfl, K4.hb⟩⟩;simp [results, results45, go_sem, d7, d8, d9, e0, e1, e2, e3]
 have a4 : Hid (aI5 s) := f8.1 rfl;clear f8;have b6 := c6c (jb K4 2 rfl);go_wp2_with fail
 refine (cG1 v1 v2 V VB kv s B _ (g0.out _ K4.hb) HZ.out (cA0 a4.out i7.out)).mono ?_;rintro e w5 ⟨c, b, n, D, rfl, a0, i9, j0, j1, b2, j2, bw⟩;have a5 : Hid (q1 ≠ c) := fun e => by have h1 := (Array.getElem?_eq_some_iff.1 (jb K4 2 rfl)).1; omega
 have e4 : Hid (q1 ≠ b) := fun e => by have h1 := (Array.getElem?_eq_some_iff.1 (jb K4 2 rfl)).1; omega
 have a6 : Hid (q2 ≠ c) := fun e => by have h1 := (Array.getElem?_eq_some_iff.1 (jb K4 1 rfl)).1; omega
 have e5 : Hid (q2 ≠ b) := fun e => by have h1 := (Array.getElem?_eq_some_iff.1 (jb K4 1 rfl)).1; omega
 have a2 : Hid (q3 ≠ c) := fun e => by have h1 := (Array.getElem?_eq_some_iff.1 (jb K4 0 rfl)).1; omega
 have e6 : Hid (q3 ≠ b) := fun e => by have h1 := (Array.getElem?_eq_some_iff.1 (jb K4 0 rfl)).1; omega
 have b8 := K4.hb.size;have K5 := jw K4 bw;have b9 := hid a0;have c0 : Hid (w.heap.size ≤ c) := Nat.le_trans b8 b2;have j3 : Hid (w.heap.size ≤ b) := Nat.le_trans b8 j2;have c1 : Hid (aB9 w5 b n (D)) := i9;have j4 : Hid (aP2 D kv) := j0.is (bC6 a4.out i7.out);have j5 := hid j1;clear a0 i9 j0 j1 b2 j2 b8 bw K4;clear b6;go_wp2_with fail
 refine (l8.out a4.out c b n D _ K5.hb c0.out j3.out b9.out c1.out j4.out j5.out).mono ?_;rintro e w6 ⟨ok, u1, u2, g8, c2, c3, e7, c4, g9, h0, n2, D2, cX, rfl, a0, j6, j7, j8, j9, d3, k0, b5, c5, e8, k1⟩;have k2 : Bw w (w6) := aC8.belowB K5.hb c5 K5.hb.size c0.out j3.out;have h2 : Hid (w6.heap[q1]? = some (.cells #[v1, v2, V, VB, .int .i64 s.nx, .int .i64 s.sq] 43)) := c5.blk (jb K5 2 rfl) a5.out e4.out;have h3 : Hid (w6.heap[q2]? = some (.cells #[.slice none 0 0, .slice none 0 0, .slice none 0 0, .slice none 0 0, .int .i64 0, .int .i64 0] 43)) := c5.blk (jb K5 1 rfl) a6.out e5.out;have a8 : Hid (w6.heap[q3]? = some (.cells #[.bool false] 4)) := c5.blk (jb K5 0 rfl) a2.out e6.out;have c6 := hid a0;have a3 : Hid (aB9 w6 b n2 (D2)) := j6;have h4 := hid j7;have m1 := hid j8;have h5 := hid j9;have h6 := hid d3;have m2 := hid b5;have h7 := hid e8;have m3 := hid k1;have m4 : Hid (NoTy (aK8 u1 u2 g8 c2 c3 c4 ++ e7.flatMap kpR)) := cC1;have h8 : Hid (aA2 (w6) B (aK8 u1 u2 g8 c2 c3 c4 ++ e7.flatMap kpR)) := k0;have K6 := jz K5 k2 (jzb a8.out (jzb h3.out (jzb h2.out (jzn _))));clear a0 j6 j7 j8 j9 d3 k0 b5 c5 e8 k1 j4 j5 K5;have b7 := c1f a8.out;go_upto_region 6 with fail
 obtain ⟨w7, d0⟩ := exq (w6.setCell ⟨q3, 0, none⟩ (.bool ok));rw [← d0];have K7 := js K6 0 d0;have c7 := hset d0 a2.out.symm c6;have a9 : Hid (aB9 w7 b n2 (D2)) := by show aB9 _ _ _ _; rw [d0]; exact World.ownsMap.setCell a3.out (aQ3 a3.out a8.out) _
 have h9 := erS d0 h8 a8 (m4.out 4 (by decide) (by decide) (by decide) (by decide) (by decide));clear k2 d0 K6;clear b7;go_upto_region 6 with fail
 refine wp_region_held_drew (S := fun W => W.heap[q3]? = some (.cells #[.bool ok] 4)) (by kernel_rfl) (jb K7 0 rfl) (fun _ => ?_)
 obtain ⟨w8, hX⟩ := exq w7.drew;have bw := bdr hX;rw [← hX];have K8 := jw K7 bw;have c8 := hblk c7 bw;have b0 : Hid (aB9 w8 b n2 (D2)) := aE4 a9.out bw;have i0 := hid (h9.out.below bw);have i1 := (jb K8 0 rfl);clear bw hX K7;refine bC3 (i := 0) (v := .pointer (some ⟨c, 0, none⟩)) (some 17) rfl rfl (by kernel_rfl) (by kernel_rfl) (by kernel_rfl) (fun _ _ _ h => bM0 (by decide) (by decide) h) (Or.inl ⟨by rfl, by intro W _; go_simp⟩) i1 ?_
 go_frame;refine bC3 (i := 2) (v := .bool ok) (some 19) rfl rfl (by kernel_rfl) (by kernel_rfl) (by kernel_rfl) (fun _ _ _ h => bM0 (by decide) (by decide) h) (Or.inl ⟨by rfl, by intro W hW; have i2 := hW; have y0 := c1c i2; go_simp⟩) i1 ?_
 go_frame;refine rd1 1 rfl (fun K hK => ?_)
 go_simp;refine (cG4 c b n2 D2 u1 u2 V g8 e7 c2 c3 c4 g9 h0 B _ cX c8.out b0.out h4.out h5.out h6.out m1.out i0.out (Nat.le_trans l7.out K8.hb.size) m2.out).mono ?_;rintro e w9 ⟨f9, va, vb, vc, vd, e9, b3, b4, rfl, a7, b2⟩;obtain ⟨k3, k4, rfl⟩ := aA0 a7.disk.cells;obtain ⟨k5, k6, rfl⟩ := aA0 a7.disk.pend;obtain ⟨k7, k8, rfl⟩ := a7.kept.len;obtain ⟨k9, l0, rfl⟩ := aA0 a7.bans;dsimp only at a7 ⊢;have f0 : Bw w (w9) := K8.hb.grown b2 K8.hb.size (by intro g hg; cases hg; exact c0.out);have i3 : Hid (w9.heap[q1]? = some (.cells #[v1, v2, V, VB, .int .i64 s.nx, .int .i64 s.sq] 43)) := (b2.block _ (Array.getElem?_eq_some_iff.1 (jb K8 2 rfl)).1 (fun e => a5.out (Option.some.inj e))).trans (jb K8 2 rfl)
 have c9 : Hid (w9.heap[q2]? = some (.cells #[.slice none 0 0, .slice none 0 0, .slice none 0 0, .slice none 0 0, .int .i64 0, .int .i64 0] 43)) := (b2.block _ (Array.getElem?_eq_some_iff.1 (jb K8 1 rfl)).1 (fun e => a6.out (Option.some.inj e))).trans (jb K8 1 rfl)
 have f1 : Hid (w9.heap[q3]? = some (.cells #[.bool ok] 4)) := (b2.block _ (Array.getElem?_eq_some_iff.1 (jb K8 0 rfl)).1 (fun e => a2.out (Option.some.inj e))).trans (jb K8 0 rfl)
 have i4 : Hid (aA2 (w9) w.heap.size (aB2 (.slice k3 c2.length k4) (.slice k5 c3.length k6) (.slice k7 e9.length k8) (.slice k9 c4.length l0) e9 c2 c3 c4)) := aA2.wide a7.1 K8.hb.size;have m5 : Hid (e9.map (·.1) = f9.map (·.1)) := a7.2;have l1 : Hid (f9.Perm e7 ∧ f9.Pairwise (fun x y => x.1.q ≤ y.1.q)) := ⟨b3, b4⟩
 have K9 := jz K8 f0 (jzb f1.out (jzb c9.out (jzb i3.out (jzn _))));clear a7 b2 b3 b4 K8;have l2 := f1.out;refine hK.out _ _ l2 (fun _ => ?_)
 clear hK K i1;refine rd1 3 rfl (fun K hK => ?_)
 have i5 := c6f c9.out;obtain ⟨m6, hY⟩ := exq (((((((w9.setCell ⟨q2, 0, none⟩ (.slice k3 c2.length k4)).setCell ⟨q2, 1, none⟩ (.slice k5 c3.length k6)).setCell ⟨q2, 2, none⟩ (.slice k7 e9.length k8)).setCell ⟨q2, 3, none⟩ (.slice k9 c4.length l0)).setCell ⟨q2, 4, none⟩ (.int .i64 g9)).setCell ⟨q2, 5, none⟩ (.int .i64 h0)));have HY := hsy hY;have f2 := jss K9 1 [(0, _), (1, _), (2, _), (3, _), (4, _), (5, _)] hY;have f3 := hid (jrs [(0, _), (1, _), (2, _), (3, _), (4, _), (5, _)] i4.out hY c9.out (aG1 43 (by decide) (by decide) (by decide) (by decide) (by decide)));clear hY f0 K9;go_simp;rw [HY.out];have f4 := (jb f2 0 rfl);refine hK.out _ _ f4 (fun _ => ?_)
 clear hK K HY l2 i5;refine rd1 4 rfl (fun K hK => ?_)
 have i5 := c1f (jb f2 0 rfl);obtain ⟨n5, hY⟩ := exq ((m6.setCell ⟨q3, 0, none⟩ (.bool ok)));have HY := hsy hY;have a1 := jss f2 0 [(0, _)] hY;have f5 := hid (jrs [(0, _)] f3.out hY (jb f2 0 rfl) (aG1 4 (by decide) (by decide) (by decide) (by decide) (by decide)));clear hY f2;go_simp;rw [HY.out];have f6 := (jb a1 0 rfl);refine hK.out _ _ f6 (fun _ => ?_)
 clear hK K HY f4 i5;clear f6;refine wdn ?_;go_wp2_with fail
 refine leaves_cons (f := 104) (args := #[.pointer (some ⟨q3, 0, none⟩), .pointer (some ⟨q1, 0, none⟩), .pointer (some ⟨q2, 0, none⟩)]) (by simp) (by simp [go_sem]) ?_;cases ok with
 | true =>
  refine (cL5 q3 q1 q2 _ _ (jb a1 0 rfl)).mono ?_;rintro e u' w9 ⟨rfl, rfl, rfl⟩;have d7 := (aB0 (jb a1 1 rfl) 0).trans rfl;have d8 := (aB0 (jb a1 1 rfl) 1).trans rfl;have d9 := (aB0 (jb a1 1 rfl) 2).trans rfl;have e0 := (aB0 (jb a1 1 rfl) 3).trans rfl;have e1 := (aB0 (jb a1 1 rfl) 4).trans rfl;have e2 := (aB0 (jb a1 1 rfl) 5).trans rfl;have e3 := (aB0 (jb a1 0 rfl) 0).trans rfl;simp [Leaves, settle, results, results45, go_sem, d7, d8, d9, e0, e1, e2, e3]
  exact .inr (.inr ⟨a4.out, c2, c3, e7, f9, c4, g9, h0, _, _, _, _, e9, h7.out (by first | rfl | trivial), l1.out.1, l1.out.2, rfl, ⟨f5.out, m5.out⟩, a1.hb⟩)
 | false =>
  refine (cL6 q3 q1 q2 _ _ _ _ _ _ _ v1 v2 V VB kv s B _ (g0.out _ a1.hb) HZ.out (jb a1 0 rfl) (jb a1 2 rfl) (jb a1 1 rfl) d6.out.symm b1.out.symm d4.out).mono ?_;rintro e u' w9 ⟨rfl, l3, l4, l5, l6, f7, rfl, a0, a7, hg⟩;have d7 := (aB0 a0 0).trans rfl;have d8 := (aB0 a0 1).trans rfl;have d9 := (aB0 a0 2).trans rfl;have e0 := (aB0 a0 3).trans rfl;have e1 := (aB0 a0 4).trans rfl;have e2 := (aB0 a0 5).trans rfl;have e3 : w9.cell? ⟨q3, 0, none⟩ = some (.bool false) := (aB0 ((hg.block _ (Array.getElem?_eq_some_iff.1 (jb a1 0 rfl)).1 (fun e => b1.out.symm (Option.some.inj e))).trans (jb a1 0 rfl)) 0).trans rfl
  have f0 : Bw w w9 := a1.hb.grown hg a1.hb.size (by intro g c5; cases c5; exact l9.out);have i6 : aD1 w9 w.heap.size l3 l4 l5 l6 f7 s := ⟨aA2.wide a7.1 a1.hb.size, a7.2⟩;have K9 := jz a1 f0 (jzx (jzx (jzx (jzn _))));simp [Leaves, settle, results, results45, go_sem, d7, d8, d9, e0, e1, e2, e3]
  exact .inr (.inl ⟨a4.out, m3.out (by first | rfl | trivial), l3, l4, l5, l6, f7, rfl, i6, f0⟩)
theorem bP9 {α β : Type} (f : α → List β) : ∀ {l l' : List α}, List.Sublist l l' → List.Sublist (l.flatMap f) (l'.flatMap f)
 | _, _, .slnil => List.Sublist.refl _
 | _, _, .cons a h => by rw [List.flatMap_cons]; exact (bP9 f h).trans (List.sublist_append_right _ _)
 | _, _, .cons_cons a h => by rw [List.flatMap_cons, List.flatMap_cons]; exact (List.Sublist.refl _).append (bP9 f h)
theorem bU8 {w : World} {B : Nat} {v1 v2 V VB : Value} {kv : Ks} {cs : Ts} {ws : List (Int × ByteArray)} {bl : Bs} (h : aA2 w B (aB2 v1 v2 V VB kv cs ws bl)) : aA2 w B (aK8 v1 v2 VB cs ws bl ++ kv.flatMap kpR) := (h.perm bP8.symm).sub (List.sublist_append_left _ _)
theorem bI6 {cs : Ts} {ws : List (Int × ByteArray)} : (aU8 cs ws).length ≤ cs.length := by
 unfold aU8;split
 ·exact aP0 _ _ _
 exact Nat.le_refl _
theorem bI7 {cs : Ts} {ws : List (Int × ByteArray)} (hp : aG5 cs ws) (h1 : ∀ i, i < cs.length → (aA8 cs i).size ≤ 1048576) (h2 : ∀ x ∈ ws, x.2.size ≤ 1048576) : ∀ i, i < (aU8 cs ws).length → (aA8 (aU8 cs ws) i).size ≤ 1048576 := fun i hi => by
 have hl := bI6 (cs := cs) (ws := ws)
 unfold aU8
 split
 ·rw [aR2 hp]
  exact aN0 _ h1 h2 _ _ (Nat.le_refl _) i (by omega)
 · exact h1 i (by omega)
theorem cL7 {ws : List (Int × ByteArray)} {x : Int} {t : ByteArray} (h : ws.length ≤ 16) : (aV4 ws x t).length ≤ 17 := by
 unfold aV4;split
 ·simp
 rw [List.length_append, List.length_singleton]; omega
theorem bI8 {ws : List (Int × ByteArray)} {x : Int} {t : ByteArray} (h2 : ∀ y ∈ ws, y.2.size ≤ 1048576) (ht : t.size ≤ 1048576) : ∀ y ∈ aV4 ws x t, y.2.size ≤ 1048576 := fun y hy => by
 unfold aV4 at hy
 split at hy
 · rw [List.mem_singleton.1 hy]; exact ht
 ·rcases List.mem_append.1 hy with hy | hy
  · exact h2 y hy
  · rw [List.mem_singleton.1 hy]; exact ht
theorem cR9 {cs : Ts} {ws : List (Int × ByteArray)} (hp : aG5 cs ws) {x : Int} (hx : 0 ≤ x ∧ x ≤ 19) (t : Tx) : aN2 cs ws x t (aU8 cs ws) (aV4 ws x t) := by
 unfold aN2 aU8 aV4;by_cases h : ws.length = 16
 rotate_left
 ·rw [if_neg h, if_neg h, if_neg h];obtain ⟨e1, e2, _⟩ := bG0 hp (by have := hp.2.1; omega) hx t;exact ⟨e1.symm, e2.symm⟩
 rw [if_pos h, if_pos h, if_pos h];have hq : aG5 (aL5 cs ws (fun _ => true)) [] := by rw [aR2 hp]; exact bC2 hp _ _
 obtain ⟨e1, e2, _⟩ := bG0 hq (by decide) hx t;exact ⟨e1.symm, e2.symm⟩
theorem bU9 (W : World) (B : Nat) : aD1 W B (.slice none 0 0) (.slice none 0 0) (.slice none 0 0) (.slice none 0 0) [] bD2 := by
 refine ⟨⟨fun r hr => ?_, ?_⟩, rfl⟩
 ·simp only [aB2, aC5, aH8, bD2, List.cons_append, List.nil_append, List.flatMap_nil, List.mem_cons, List.not_mem_nil, or_false] at hr
  rcases hr with rfl | rfl | rfl | rfl <;> exact World.ownsRow_nil _ _ _ _
 have hn : ∀ r ∈ aB2 (.slice none 0 0) (.slice none 0 0) (.slice none 0 0) (.slice none 0 0) [] bD2.cs bD2.ws bD2.bl, r.v.ownBlock = none := fun r hr => by
  simp only [aB2, aC5, aH8, bD2, List.cons_append, List.nil_append, List.flatMap_nil, List.mem_cons, List.not_mem_nil, or_false] at hr
  rcases hr with rfl | rfl | rfl | rfl <;> rfl
 rw [List.pairwise_iff_getElem];intro i j hi hj _ g h1 _;rw [hn _ (List.getElem_mem hi)] at h1;cases h1
def StOk (r : ShD) (ok : Bool) (w : World) (e : Ending) (w' : World) : Prop := ∃ (va vb vc vd : Value) (kv : Ks), e = .returned (.tuple #[.agg #[va, vb, vc, vd, .int .i64 r.nx, .int .i64 r.sq], .bool ok]) ∧ aD1 w' w.heap.size va vb vc vd kv r ∧ Below w.heap.size w w'
theorem aN2.uniq {cs : Ts} {ws : List (Int × ByteArray)} {x : Int} {t : ByteArray} {c1 c2 : Ts} {w1 w2 : List (Int × ByteArray)} (h1 : aN2 cs ws x t c1 w1) (h2 : aN2 cs ws x t c2 w2) : c1 = c2 ∧ w1 = w2 := by
 unfold aN2 at h1 h2;split at h1
 ·rename_i h; rw [if_pos h] at h2; exact ⟨h1.1.trans h2.1.symm, h1.2.trans h2.2.symm⟩
 rename_i h; rw [if_neg h] at h2; exact ⟨h1.1.trans h2.1.symm, h1.2.trans h2.2.symm⟩
theorem aN2.small {cs : Ts} {ws : List (Int × ByteArray)} {x : Int} {t : ByteArray} {c1 : Ts} {w1 : List (Int × ByteArray)} (h1 : aN2 cs ws x t c1 w1) : c1.length ≤ cs.length ∧ w1.length ≤ ws.length + 1 := by
 unfold aN2 at h1;split at h1
 ·rw [h1.1, h1.2];exact ⟨Nat.le_trans (bD9 _ _) (aP0 _ _ _), Nat.le_trans (bE0 _ _ _ _) (by simp)⟩
 rw [h1.1, h1.2];exact ⟨bD9 _ _, bE0 _ _ _ _⟩
theorem bM1 (p : KpD → Bool) : ∀ l : List KpD, wtK (l.filter p) ≤ wtK l
 | [] => Nat.le_refl _
 | x :: l => by
  have := bM1 p l
  rw [List.filter_cons]
  split
  · rw [wtK, wtK]; omega
  · rw [wtK]; omega
theorem cG6 (w : World) :
  Calls prog 182 #[.int .i64 1] w fun e w' => e = .returned (.string ⟨#[112, 97, 116, 104]⟩) ∧ Below w.heap.size w w' := by
 have a0 : Bw w w := Below.refl _ _;go_enter func182, ntmps182;go_wp2_with fail
 go_ret;exact ⟨rfl, a0⟩
theorem cG7 (w : World) :
  Calls prog 182 #[.int .i64 2] w fun e w' => e = .returned (.string ⟨#[98, 101, 108, 111, 119]⟩) ∧ Below w.heap.size w w' := by
 have a0 : Bw w w := Below.refl _ _;go_enter func182, ntmps182;go_wp2_with fail
 go_ret;exact ⟨rfl, a0⟩
theorem cG8 (w : World) :
  Calls prog 182 #[.int .i64 3] w fun e w' => e = .returned (.string ⟨#[102, 105, 101, 108, 100]⟩) ∧ Below w.heap.size w w' := by
 have a0 : Bw w w := Below.refl _ _;go_enter func182, ntmps182;go_wp2_with fail
 go_ret;exact ⟨rfl, a0⟩
theorem bI9 (k : Int) (a b : Tx) (t : Int) (w : World) (ha : a.size ≤ maxLen) (hb : b.size ≤ maxLen) (hT : aL2 w) :
  Calls prog 125 #[.agg #[.int .i64 k, .string a, .string b, .int .i64 t]] w fun e w' => cO7 (BanP k a b t) (banT k a b t) w e w' := by
 have b3 := hid ha;have b4 := hid hb;have a9 : Hid (∀ W, Bw w W → aL2 W) := fun W h => hT.below h
 obtain ⟨tt, b2⟩ := exq (aE7 t);have a6 : Hid (aE7 t = tt) := b2.symm;clear ha hb b2 hT;have K0 := jnil w;go_enter func125, ntmps125;go_upto_region 1 with fail
 obtain ⟨q1, b0⟩ := exq (w.heap.size);obtain ⟨w1, a8⟩ := exq (w.alloc (.cells #[.int .i64 k, .string a, .string b, .int .i64 t] 62));have b1 := b0.symm;rw [← a8]; try rw [← b0];have b5 := hsa a8 b1;have bw := bal a8;have K1 := ja K0 a8 b1;clear bw a8 b1 K0;clear b5 b0;have a4 := c4c (jb K1 0 rfl);go_wp2_with fail
 refine (aH1 k a b t _ b3.out b4.out).mono ?_;rintro e w2 ⟨ub, rfl, a5, bw⟩;have K2 := jw K1 bw;clear bw K1;clear a4;cases ub
 ·have HF : Hid (¬ BanP k a b t) := fun h => nomatch a5.2 h
  clear a5;go_wp2_with fail
  go_ret;exact ⟨⟨#[]⟩, rfl, fun h => absurd h HF.out, fun _ => rfl, K2.hb⟩
 have a7 : Hid (BanP k a b t) := a5.1 rfl;clear a5;have HT : Hid (0 ≤ t ∧ t ≤ 1000000) := a7.out.1;have za : a.size ≤ 60 := a7.out.a_size.1;have zb : b.size ≤ 60 := a7.out.a_size.2;have b6 : tt.size ≤ 8 := by rw [← a6.out, aE3 HT.out.1]; exact aV0 _
 rcases a7.out.kinds with rfl | rfl | rfl
 ·go_upto_region 3 with fail
  refine wp_region_held_drew (S := fun W => W.heap[q1]? = some (.cells #[.int .i64 1, .string a, .string b, .int .i64 t] 62)) (by kernel_rfl) (jb K2 0 rfl) (fun _ => ?_)
  obtain ⟨w3, hX⟩ := exq w2.drew;have bw := bdr hX;rw [← hX];have K3 := jw K2 bw;have a1 := (jb K3 0 rfl);clear bw hX K2;refine tkP 0 (.pointer (some ⟨q1, 0, none⟩)) 7 rfl rfl a1 ?_;go_frame;refine tkL 1 (.int .i64 1) 8 rfl rfl (Or.inl ⟨by rfl, by intro W hW; have a0 := hW; have y0 := c4c a0; go_simp⟩) a1 ?_;go_frame;refine tkP 5 (.pointer (some ⟨q1, 3, none⟩)) 12 rfl rfl a1 ?_;go_frame;refine tkL 6 (.int .i64 t) 13 rfl rfl (Or.inl ⟨by rfl, by intro W hW; have a0 := hW; have y3 := c4c a0; go_simp⟩) a1 ?_;go_frame;refine tkP 10 (.pointer (some ⟨q1, 1, none⟩)) 17 rfl rfl a1 ?_;go_frame;refine tkL 11 (.string a) 18 rfl rfl (Or.inl ⟨by rfl, by intro W hW; have a0 := hW; have y1 := c4c a0; go_simp⟩) a1 ?_;go_frame;refine rd1 2 rfl (fun K hK => ?_)
  go_simp;refine (cG6 _).mono ?_;rintro e w4 ⟨rfl, bw⟩;have K4 := jw K3 bw;clear bw K3;have a3 := (jb K4 0 rfl);refine hK.out _ _ a3 (fun _ => ?_)
  clear hK K a1;refine tkL 3 (.string (⟨#[98, 97, 110, 32]⟩ ++ ⟨#[112, 97, 116, 104]⟩)) 10 rfl rfl (Or.inl ⟨by rfl, by intro W _; go_simp <;> omega⟩) a3 ?_;go_frame;refine tkL 4 (.string ((⟨#[98, 97, 110, 32]⟩ ++ ⟨#[112, 97, 116, 104]⟩) ++ ⟨#[32]⟩)) 11 rfl rfl (Or.inl ⟨by rfl, by intro W _; go_simp <;> omega⟩) a3 ?_;go_frame;refine rd1 7 rfl (fun K hK => ?_)
  go_simp;refine (aJ9 t _ (by have := HT.out; omega) (by have := HT.out; omega) (a9.out _ K4.hb)).mono ?_;rintro e w5 ⟨rfl, bw⟩;rw [a6.out];have K5 := jw K4 bw;clear bw K4;have a2 := (jb K5 0 rfl);refine hK.out _ _ a2 (fun _ => ?_)
  clear hK K a3;refine tkL 8 (.string (((⟨#[98, 97, 110, 32]⟩ ++ ⟨#[112, 97, 116, 104]⟩) ++ ⟨#[32]⟩) ++ tt)) 15 rfl rfl (Or.inl ⟨by rfl, by intro W _; go_simp <;> omega⟩) a2 ?_;go_frame;refine tkL 9 (.string ((((⟨#[98, 97, 110, 32]⟩ ++ ⟨#[112, 97, 116, 104]⟩) ++ ⟨#[32]⟩) ++ tt) ++ ⟨#[32]⟩)) 16 rfl rfl (Or.inl ⟨by rfl, by intro W _; go_simp <;> omega⟩) a2 ?_;go_frame;refine tkL 12 (.string (((((⟨#[98, 97, 110, 32]⟩ ++ ⟨#[112, 97, 116, 104]⟩) ++ ⟨#[32]⟩) ++ tt) ++ ⟨#[32]⟩) ++ a)) 19 rfl rfl (Or.inl ⟨by rfl, by intro W _; go_simp <;> omega⟩) a2 ?_;go_frame;refine tkP 13 (.string (((((⟨#[98, 97, 110, 32]⟩ ++ ⟨#[112, 97, 116, 104]⟩) ++ ⟨#[32]⟩) ++ tt) ++ ⟨#[32]⟩) ++ a)) 3 rfl rfl a2 ?_;go_frame;clear a2;refine wdn ?_;have a4 := c4c (jb K5 0 rfl);go_wp2_with fail
  go_ret;exact ⟨_, rfl, fun _ => by rw [← a6.out, aE3 HT.out.1]; first | rfl | (unfold banT banH; simp [bkW, banW, ByteArray.append_assoc]; done), fun h => absurd a7.out h, K5.hb⟩
 ·go_upto_region 3 with fail
  refine wp_region_held_drew (S := fun W => W.heap[q1]? = some (.cells #[.int .i64 2, .string a, .string b, .int .i64 t] 62)) (by kernel_rfl) (jb K2 0 rfl) (fun _ => ?_)
  obtain ⟨w3, hX⟩ := exq w2.drew;have bw := bdr hX;rw [← hX];have K3 := jw K2 bw;have a1 := (jb K3 0 rfl);clear bw hX K2;refine tkP 0 (.pointer (some ⟨q1, 0, none⟩)) 7 rfl rfl a1 ?_;go_frame;refine tkL 1 (.int .i64 2) 8 rfl rfl (Or.inl ⟨by rfl, by intro W hW; have a0 := hW; have y0 := c4c a0; go_simp⟩) a1 ?_;go_frame;refine tkP 5 (.pointer (some ⟨q1, 3, none⟩)) 12 rfl rfl a1 ?_;go_frame;refine tkL 6 (.int .i64 t) 13 rfl rfl (Or.inl ⟨by rfl, by intro W hW; have a0 := hW; have y3 := c4c a0; go_simp⟩) a1 ?_;go_frame;refine tkP 10 (.pointer (some ⟨q1, 1, none⟩)) 17 rfl rfl a1 ?_;go_frame;refine tkL 11 (.string a) 18 rfl rfl (Or.inl ⟨by rfl, by intro W hW; have a0 := hW; have y1 := c4c a0; go_simp⟩) a1 ?_;go_frame;refine rd1 2 rfl (fun K hK => ?_)
  go_simp;refine (cG7 _).mono ?_;rintro e w4 ⟨rfl, bw⟩;have K4 := jw K3 bw;clear bw K3;have a3 := (jb K4 0 rfl);refine hK.out _ _ a3 (fun _ => ?_)
  clear hK K a1;refine tkL 3 (.string (⟨#[98, 97, 110, 32]⟩ ++ ⟨#[98, 101, 108, 111, 119]⟩)) 10 rfl rfl (Or.inl ⟨by rfl, by intro W _; go_simp <;> omega⟩) a3 ?_;go_frame;refine tkL 4 (.string ((⟨#[98, 97, 110, 32]⟩ ++ ⟨#[98, 101, 108, 111, 119]⟩) ++ ⟨#[32]⟩)) 11 rfl rfl (Or.inl ⟨by rfl, by intro W _; go_simp <;> omega⟩) a3 ?_;go_frame;refine rd1 7 rfl (fun K hK => ?_)
  go_simp;refine (aJ9 t _ (by have := HT.out; omega) (by have := HT.out; omega) (a9.out _ K4.hb)).mono ?_;rintro e w5 ⟨rfl, bw⟩;rw [a6.out];have K5 := jw K4 bw;clear bw K4;have a2 := (jb K5 0 rfl);refine hK.out _ _ a2 (fun _ => ?_)
  clear hK K a3;refine tkL 8 (.string (((⟨#[98, 97, 110, 32]⟩ ++ ⟨#[98, 101, 108, 111, 119]⟩) ++ ⟨#[32]⟩) ++ tt)) 15 rfl rfl (Or.inl ⟨by rfl, by intro W _; go_simp <;> omega⟩) a2 ?_;go_frame;refine tkL 9 (.string ((((⟨#[98, 97, 110, 32]⟩ ++ ⟨#[98, 101, 108, 111, 119]⟩) ++ ⟨#[32]⟩) ++ tt) ++ ⟨#[32]⟩)) 16 rfl rfl (Or.inl ⟨by rfl, by intro W _; go_simp <;> omega⟩) a2 ?_;go_frame;refine tkL 12 (.string (((((⟨#[98, 97, 110, 32]⟩ ++ ⟨#[98, 101, 108, 111, 119]⟩) ++ ⟨#[32]⟩) ++ tt) ++ ⟨#[32]⟩) ++ a)) 19 rfl rfl (Or.inl ⟨by rfl, by intro W _; go_simp <;> omega⟩) a2 ?_;go_frame;refine tkP 13 (.string (((((⟨#[98, 97, 110, 32]⟩ ++ ⟨#[98, 101, 108, 111, 119]⟩) ++ ⟨#[32]⟩) ++ tt) ++ ⟨#[32]⟩) ++ a)) 3 rfl rfl a2 ?_;go_frame;clear a2;refine wdn ?_;have a4 := c4c (jb K5 0 rfl);go_wp2_with fail
  go_ret;exact ⟨_, rfl, fun _ => by rw [← a6.out, aE3 HT.out.1]; first | rfl | (unfold banT banH; simp [bkW, banW, ByteArray.append_assoc]; done), fun h => absurd a7.out h, K5.hb⟩
 go_upto_region 3 with fail
 refine wp_region_held_drew (S := fun W => W.heap[q1]? = some (.cells #[.int .i64 3, .string a, .string b, .int .i64 t] 62)) (by kernel_rfl) (jb K2 0 rfl) (fun _ => ?_)
 obtain ⟨w3, hX⟩ := exq w2.drew;have bw := bdr hX;rw [← hX];have K3 := jw K2 bw;have a1 := (jb K3 0 rfl);clear bw hX K2;refine tkP 0 (.pointer (some ⟨q1, 0, none⟩)) 7 rfl rfl a1 ?_;go_frame;refine tkL 1 (.int .i64 3) 8 rfl rfl (Or.inl ⟨by rfl, by intro W hW; have a0 := hW; have y0 := c4c a0; go_simp⟩) a1 ?_;go_frame;refine tkP 5 (.pointer (some ⟨q1, 3, none⟩)) 12 rfl rfl a1 ?_;go_frame;refine tkL 6 (.int .i64 t) 13 rfl rfl (Or.inl ⟨by rfl, by intro W hW; have a0 := hW; have y3 := c4c a0; go_simp⟩) a1 ?_;go_frame;refine tkP 10 (.pointer (some ⟨q1, 1, none⟩)) 17 rfl rfl a1 ?_;go_frame;refine tkL 11 (.string a) 18 rfl rfl (Or.inl ⟨by rfl, by intro W hW; have a0 := hW; have y1 := c4c a0; go_simp⟩) a1 ?_;go_frame;refine rd1 2 rfl (fun K hK => ?_)
 go_simp;refine (cG8 _).mono ?_;rintro e w4 ⟨rfl, bw⟩;have K4 := jw K3 bw;clear bw K3;have a3 := (jb K4 0 rfl);refine hK.out _ _ a3 (fun _ => ?_)
 clear hK K a1;refine tkL 3 (.string (⟨#[98, 97, 110, 32]⟩ ++ ⟨#[102, 105, 101, 108, 100]⟩)) 10 rfl rfl (Or.inl ⟨by rfl, by intro W _; go_simp <;> omega⟩) a3 ?_;go_frame;refine tkL 4 (.string ((⟨#[98, 97, 110, 32]⟩ ++ ⟨#[102, 105, 101, 108, 100]⟩) ++ ⟨#[32]⟩)) 11 rfl rfl (Or.inl ⟨by rfl, by intro W _; go_simp <;> omega⟩) a3 ?_;go_frame;refine rd1 7 rfl (fun K hK => ?_)
 go_simp;refine (aJ9 t _ (by have := HT.out; omega) (by have := HT.out; omega) (a9.out _ K4.hb)).mono ?_;rintro e w5 ⟨rfl, bw⟩;rw [a6.out];have K5 := jw K4 bw;clear bw K4;have a2 := (jb K5 0 rfl);refine hK.out _ _ a2 (fun _ => ?_)
 clear hK K a3;refine tkL 8 (.string (((⟨#[98, 97, 110, 32]⟩ ++ ⟨#[102, 105, 101, 108, 100]⟩) ++ ⟨#[32]⟩) ++ tt)) 15 rfl rfl (Or.inl ⟨by rfl, by intro W _; go_simp <;> omega⟩) a2 ?_;go_frame;refine tkL 9 (.string ((((⟨#[98, 97, 110, 32]⟩ ++ ⟨#[102, 105, 101, 108, 100]⟩) ++ ⟨#[32]⟩) ++ tt) ++ ⟨#[32]⟩)) 16 rfl rfl (Or.inl ⟨by rfl, by intro W _; go_simp <;> omega⟩) a2 ?_;go_frame;refine tkL 12 (.string (((((⟨#[98, 97, 110, 32]⟩ ++ ⟨#[102, 105, 101, 108, 100]⟩) ++ ⟨#[32]⟩) ++ tt) ++ ⟨#[32]⟩) ++ a)) 19 rfl rfl (Or.inl ⟨by rfl, by intro W _; go_simp <;> omega⟩) a2 ?_;go_frame;refine tkP 13 (.string (((((⟨#[98, 97, 110, 32]⟩ ++ ⟨#[102, 105, 101, 108, 100]⟩) ++ ⟨#[32]⟩) ++ tt) ++ ⟨#[32]⟩) ++ a)) 3 rfl rfl a2 ?_;go_frame;clear a2;refine wdn ?_;have a4 := c4c (jb K5 0 rfl);go_wp2_with fail
 go_ret;exact ⟨_, rfl, fun _ => by rw [← a6.out, aE3 HT.out.1]; first | rfl | (unfold banT banH; simp [bkW, banW, ByteArray.append_assoc]; done), fun h => absurd a7.out h, K5.hb⟩
theorem cO2 {q k : Int} {a b : ByteArray} {t : Int} (h : BanP k a b t) (h1 : 1 ≤ q) (h2 : q ≤ 100000) : recI q (banT k a b t) ≠ ⟨#[]⟩ := by
 have hs := aV3 h;have hp := cP8 k a b t;have hR : RecP q (banT k a b t) := by unfold RecP; omega
 rw [bE1 hR];intro e;have h3 := congrArg ByteArray.size e;unfold recT at h3;rw [ByteArray.size_append, ByteArray.size_append] at h3;have e1 : (⟨#[32]⟩ : Tx).size = 1 := rfl;have e2 : (⟨#[]⟩ : Tx).size = 0 := rfl;omega
theorem aZ8 (l : Bs) (x : Int × ByteArray × ByteArray × Int) : aA5 (l ++ [x]) = aA5 l ++ [.int .i64 x.1, .string x.2.1, .string x.2.2.1, .int .i64 x.2.2.2] := by simp [aA5, aU4]
theorem bC7 {l : Bs} {n : Nat} (h : (aA5 l).length = n * 4) (_ : l.length = n) : (aA5 l).length = n * 4 := h
theorem bV0 {w : World} {B : Nat} {o : Oa} {n p : Nat} {l : Bs} {x : Int × ByteArray × ByteArray × Int} (h : w.ownsRow B 62 4 (.slice o (n + 1) p) (n + 1) (aA5 (l ++ [x]))) (hl : l.length = n) : BanA w o (n + 1) (l ++ [x]) := by
 have e : n + 1 = (l ++ [x]).length := by rw [List.length_append, List.length_singleton, hl]
 rw [e] at h ⊢;exact aN5 h
theorem aU6 {P : Program} {ops : Array Oper} {o : Oper} {a : Act} {K : Act → World → Prop} {Q : Exit → Act → World → Prop} {E : Prop} (hgd : o.guard = none) (w : World) (s x : Operand) (t : TypeId) (hop : o.op = Op.call { callee := Callee.builtin Builtin.append, args := #[s, x], argTypes := #[t, t] })
  (e : TypeId) (i : TypeInfo) (z : Value) (size bytes : Nat) (h1 : P.underlying t = some (.slice e)) (h2 : P.info? e = some i) (h3 : i.zero = some z) (h4 : i.size = size) (h5 : i.bytes = bytes) (h6 : z.cells.size = size) (h7 : 0 < size)
  (ao : Oa) (n cap : Nat) (olds : List Value) (hs : a.eval s = .slice ao n cap) (hnone : ao = none → n = 0 ∧ cap = 0) (hlo : olds.length = n * size) (holds : ∀ b, ao = some b → ∀ j u, olds[j]? = some u → w.cell? (b.add j) = some u)
  (ad : Addr) (m c : Nat) (news : List Value) (hx : a.eval x = .slice (some ad) m c) (hn : news.length = m * size) (hc : ∀ j u, news[j]? = some u → w.cell? (ad.add j) = some u) (h1c : ∀ u ∈ news, u.oneCell' = true)
  (hfull : cap < n + m) (b1 : n + m ≤ maxLen) (b2 : (n + m) * bytes ≤ 140737488355328)
  (hK : ∀ v' w', w'.ownsRow w.heap.size e size v' (n + m) (olds ++ news) → w.grownBy w' none → K (a.put o.dst v') w') : if Region.wanted o (yielded ops a.tmps) = true then Oper.wp P o a w K Q else E := by
 have hw : Region.wanted o (yielded ops a.tmps) = true := by simp [Region.wanted, hgd]
 rw [if_pos hw];cases ao with
 | some b =>
  obtain ⟨v', w', a0, r1, r2⟩ := run_append_arg_grows (P := P) w t o.type e i z size bytes h1 h2 h3 h4 h5 h6 h7 b n cap olds hlo (holds b rfl) ad m c news hn hc hfull b1 b2
  unfold Oper.wp
  simp [execOp, hop, resolve, invoke, builtin, hs, hx, a0, Result.andThen]
  exact hK v' w' r1 r2
 | none =>
  obtain ⟨rfl, rfl⟩ := hnone rfl;obtain rfl : olds = [] := List.eq_nil_of_length_eq_zero (by simpa using hlo);obtain ⟨v', w', a0, r1, r2, _⟩ := run_append_own (P := P) w w.heap.size t o.type e i z size bytes h1 h2 h3 h4 h5 h6 h7 (.slice none 0 0) 0 [] (World.ownsRow_nil w _ e size) ad m c news hn hc h1c b1 b2 (Nat.le_refl _);unfold Oper.wp;simp [execOp, hop, resolve, invoke, builtin, hs, hx, a0, Result.andThen]
  exact hK v' w' r1 r2
open Classical in
def cL8 (c b n : Nat) (v1 v2 V : Value) (ob : Oa) (nb : Nat) (kv : Ks) (cs : Ts) (ws : List (Int × ByteArray)) (bl : Bs) (nx sq y0 : Int) (y1 y2 : Tx) (y3 : Int) (w : World) (e : Ending) (w' : World) : Prop :=
 ∃ (ok : Bool) (u1 u2 VB' : Value) (sq' : Int) (D' : DataW Value) (kv' : Ks), e = .returned (.bool ok) ∧ w'.heap[c]? = some (.cells #[u1, u2, V, VB', .int .i64 nx, .int .i64 sq', .map (some b)] 143) ∧ aB9 w' b n D' ∧ aP2 D' kv' ∧ aC8 w w' c b ∧
  (ok = true → (BanP y0 y1 y2 y3 ∧ nb ≠ 5 ∧ sq ≠ 100000) ∧ sq' = sq + 1 ∧ (∃ csf, csf = aL5 (aU8 cs ws) (aV4 ws (nb : Int) (recI sq (banT y0 y1 y2 y3))) (fun _ => true) ∧ aD3 w' w.heap.size u1 csf.length csf u2 0 []) ∧ (∃ oN pN, VB' = .slice oN (nb + 1) pN ∧ w'.ownsRow w.heap.size 62 4 (.slice oN (nb + 1) pN) (nb + 1) (aA5 (bl ++ [(y0, y1, y2, y3)]))) ∧ kv' = kv.filter (fun x => !decide (AnyK (bl ++ [(y0, y1, y2, y3)]) x.1))) ∧
  (ok = false → ¬ (BanP y0 y1 y2 y3 ∧ nb ≠ 5 ∧ sq ≠ 100000) ∧ u1 = v1 ∧ u2 = v2 ∧ VB' = .slice ob nb nb ∧ sq' = sq ∧ kv' = kv)
open Classical in
theorem cG9 (c b n : Nat) (D : DataW Value) (v1 v2 V : Value) (ob : Oa) (nb cb : Nat) (kv : Ks) (cs : Ts) (ws : List (Int × ByteArray)) (bl : Bs) (nx sq : Int) (y0 : Int) (y1 y2 : Tx) (y3 : Int) (B : Nat) (w : World) (hq : w.heap[c]? = some (.cells #[v1, v2, V, .slice ob nb nb, .int .i64 nx, .int .i64 sq, .map (some b)] 143)) (hko : aB9 w b n D) (hmi : aP2 D kv) (hap : aF8 kv) (hsl : aN1 kv) (hkr : ∀ W, aC8 w W c b → ∀ x ∈ kv, aR7 W x.1 x.2.1 x.2.2.1 x.2.2.2) (hks : ∀ x ∈ kv, aF9 x.1) (hbr : ∀ W, aC8 w W c b → W.ownsRow B 62 4 (.slice ob nb cb) nb (aA5 bl)) (hlb : bl.length = nb) (hnb : nb ≤ 5) (hlz : ∀ x ∈ bl, x.2.1.size ≤ maxLen ∧ x.2.2.1.size ≤ maxLen) (hy1 : y1.size ≤ maxLen) (hy2 : y2.size ≤ maxLen) (hd : ∀ W, aC8 w W c b → aD3 W B v1 cs.length cs v2 ws.length ws) (hp : aG5 cs ws) (hz1 : ∀ i, i < cs.length → (aA8 cs i).size ≤ 1048576) (hz2 : ∀ x ∈ ws, x.2.size ≤ 1048576) (hs1 : 1 ≤ sq) (hs2 : sq ≤ 100000) (hT : ∀ W, aC8 w W c b → aL2 W) :
  Calls prog 63 #[.pointer (some ⟨c, 0, none⟩), .agg #[.int .i64 y0, .string y1, .string y2, .int .i64 y3]] w fun e w' => cL8 c b n v1 v2 V ob nb kv cs ws bl nx sq y0 y1 y2 y3 w e w' := by
 have f5 := hid hq;have i8 : Hid (aB9 w b n D) := hko;have k6 := hid hmi;have s1 := hid hap;have s2 := hid hsl;have s3 := hid hkr;have s4 := hid hks;have s5 : Hid ((aA5 bl).length = nb * 4 ∧ True) := ⟨(hbr w (aC8.refl _ _ _)).1, trivial⟩
 have s6 : Hid (∀ W, aC8 w W c b → ∀ g, ob = some g → ∀ j u, (aA5 bl)[j]? = some u → W.cell? (g.add j) = some u) := fun W hg g v9 j u hu => by
  subst v9
  have h := hbr W hg
  rcases h.2 with ⟨e, _⟩ | ⟨g', x0, x1, e, _⟩
  ·cases e
  ·injection e with e1 _ _
   injection e1 with e2
   subst e2
   have h2 := (aW2 h j u hu).1
   rw [show (⟨g', 0, none⟩ : Addr).add j = ⟨g', j, none⟩ by unfold Addr.add; split <;> simp_all]
   exact h2
 have s7 : Hid (ob = none → nb = 0 ∧ nb = 0) := fun e => by
  subst e
  rcases (hbr w (aC8.refl _ _ _)).2 with ⟨e1, e2⟩ | ⟨g', x0, x1, e1, _⟩
  ·exact ⟨e2, e2⟩
  ·cases e1
 have n8 := hid hlb
 have k7 : Hid (∀ x ∈ bl ++ [(y0, y1, y2, y3)], x.2.1.size ≤ maxLen ∧ x.2.2.1.size ≤ maxLen) := fun x hx => by
  rcases List.mem_append.1 hx with hx | hx
  ·exact hlz x hx
  ·rw [List.mem_singleton.1 hx]; exact ⟨hy1, hy2⟩
 have s8 := hid hy1;have s9 := hid hy2;have x2 := hid hd;have n9 := hid hp;have t0 := hid hz1;have o6 := hid hz2;have k8 := hid hT;clear hz1 hz2;obtain ⟨i0, hi, t1, hz1, hz2⟩ := info_parts bG3;clear hq hko hmi hap hsl hkr hks hbr hlb hlz hy1 hy2 hd hp hT;have t2 : aC8 w w c b := aC8.refl _ _ _;go_enter func63, ntmps63;go_upto_region 1 with fail
 obtain ⟨q1, o7⟩ := exq (w.heap.size);obtain ⟨w1, k9⟩ := exq (w.alloc (.cells #[.pointer (some ⟨c, 0, none⟩)] 91));have hz1 := o7.symm;rw [← k9]; try rw [← o7];have hs1 := hsa k9 hz1;have bw := bal k9;have t3 : aC8 w (w1) c b := t2.below bw;have f6 := hblk f5 bw;have i9 : Hid (aB9 w1 b n (D)) := aE4 i8.out bw;have b4 := hnq f5 hz1;have o8 := hnew k9 hz1;clear t2 bw k9 hz1;obtain ⟨q2, o9⟩ := exq (q1 + 1);obtain ⟨w2, l0⟩ := exq (w1.alloc (.cells #[.int .i64 y0, .string y1, .string y2, .int .i64 y3] 62));have hz2 : w1.heap.size = q2 := by rw [o9]; exact hs1
 rw [← l0]; try rw [← o9];have hs2 := hsa l0 hz2;have bw := bal l0;have t4 : aC8 w (w2) c b := t3.below bw;have f7 := hblk f6 bw;have j0 := hblk o8 bw;have j1 : Hid (aB9 w2 b n (D)) := aE4 i9.out bw;have b5 := hnq f6 hz2;have l1 := hnew l0 hz2;clear t3 bw l0 hz2;clear hs2 o9 hs1 o7;have l2 := (k7c f7).2.2.2.1;have f8 := k1c j0;go_upto_region 2 with fail
 clear l2 f8;refine wp_region_held_drew (S := fun W => W.heap[q2]? = some (.cells #[.int .i64 y0, .string y1, .string y2, .int .i64 y3] 62) ∧ W.heap[q1]? = some (.cells #[.pointer (some ⟨c, 0, none⟩)] 91)) (by kernel_rfl) ⟨l1.out, j0.out⟩ (fun _ => ?_)
 obtain ⟨w3, hX⟩ := exq w2.drew;have bw := bdr hX;rw [← hX];have t5 : aC8 w (w3) c b := t4.below bw;have j2 := hblk f7 bw;have l3 := hblk j0 bw;have l4 := hblk l1 bw;have j3 : Hid (aB9 w3 b n (D)) := aE4 j1.out bw;have t6 := And.intro l4.out l3.out;clear t4 bw hX;refine tkL 0 (.agg #[.int .i64 y0, .string y1, .string y2, .int .i64 y3]) 12 rfl rfl (Or.inl ⟨by rfl, by intro W hW; obtain ⟨c9, b2⟩ := hW; have y0 := c4c c9; go_simp⟩) t6 ?_;go_frame;refine rd1 1 rfl (fun K hK => ?_)
 go_simp;refine (aH1 y0 y1 y2 y3 _ s8.out s9.out).mono ?_;rintro e w4 ⟨uk, rfl, o0, bw⟩;have l5 : aC8 w (w4) c b := t5.below bw;have e4 := hblk j2 bw;have l6 := hblk l3 bw;have l7 := hblk l4 bw;have e5 : Hid (aB9 w4 b n (D)) := aE4 j3.out bw;clear t5 bw;have a7 := And.intro l7.out l6.out;refine hK.out _ _ a7 (fun _ => ?_)
 clear hK K t6;cases uk
 ·have p0 : Hid (¬ (BanP y0 y1 y2 y3)) := fun h => nomatch o0.2 h
  clear o0;refine tkP 2 (.bool true) 14 rfl rfl a7 (tkP 3 (.bool true) 15 rfl rfl a7 (tkN 4 16 rfl rfl a7 ?_));go_frame;refine tkN 5 17 rfl rfl a7 (tkP 6 (.bool true) 18 rfl rfl a7 (tkP 7 (.bool true) 19 rfl rfl a7 ?_));go_frame;refine tkN 8 20 rfl rfl a7 (tkN 9 21 rfl rfl a7 (tkN 10 22 rfl rfl a7 ?_));go_frame;refine tkN 11 23 rfl rfl a7 (tkN 12 24 rfl rfl a7 (tkN 13 25 rfl rfl a7 ?_));go_frame;refine tkP 14 (.bool true) 26 rfl rfl a7 ?_;go_frame;clear a7;refine wdn ?_;go_wp2_with fail
  go_ret;exact ⟨false, v1, v2, _, sq, D, kv, rfl, e4.out, e5.out, k6.out, l5, (fun h => nomatch h), fun _ => ⟨fun h => p0.out h.1, rfl, rfl, rfl, rfl, rfl⟩⟩
 have f9 : Hid (BanP y0 y1 y2 y3) := o0.1 rfl;clear o0;refine tkP 2 (.bool false) 14 rfl rfl a7 (tkP 3 (.bool false) 15 rfl rfl a7 (tkP 4 (.int .i64 (nb : Int)) 16 rfl rfl a7 ?_));go_frame;by_cases g0 : (nb : Int) = 5
 ·have p1 : ((nb : Int) == (5 : Int)) = true := by simpa using g0
  have p2 : ((nb : Int) != (5 : Int)) = false := by simpa using g0
  have H5 : Hid ((nb = 5)) := (by have := g0; show _ = _; omega);have p3 := hid g0;clear g0;refine tkP 5 (.bool true) 17 rfl rfl a7 (tkP 6 (.bool true) 18 rfl rfl a7 (tkP 7 (.bool true) 19 rfl rfl a7 ?_));go_frame;refine tkN 8 20 rfl rfl a7 (tkN 9 21 rfl rfl a7 (tkN 10 22 rfl rfl a7 ?_));go_frame;refine tkN 11 23 rfl rfl a7 (tkN 12 24 rfl rfl a7 (tkN 13 25 rfl rfl a7 ?_));go_frame;refine tkP 14 (.bool true) 26 rfl rfl a7 ?_;go_frame;clear a7;refine wdn ?_;go_wp2_with fail
  go_ret;exact ⟨false, v1, v2, _, sq, D, kv, rfl, e4.out, e5.out, k6.out, l5, (fun h => nomatch h), fun _ => ⟨fun h => h.2.1 H5.out, rfl, rfl, rfl, rfl, rfl⟩⟩
 have p1 : ((nb : Int) == (5 : Int)) = false := by simpa using g0
 have p2 : ((nb : Int) != (5 : Int)) = true := by simpa using g0
 have H5 : Hid (¬ (nb = 5)) := (by have := g0; show ¬ _; omega);have p3 := hid g0;clear g0;refine tkP 5 (.bool false) 17 rfl rfl a7 (tkP 6 (.bool false) 18 rfl rfl a7 (tkP 7 (.bool false) 19 rfl rfl a7 ?_));go_frame;refine tkL 8 (.pointer (some ⟨c, 0, none⟩)) 20 rfl rfl (Or.inl ⟨by rfl, by intro W hW; obtain ⟨c9, b2⟩ := hW; have y0 := c1c b2; go_simp⟩) a7 ?_;go_frame;refine tkP 9 (.int .i64 (nb : Int)) 21 rfl rfl a7 ?_;go_frame;refine tkL 10 (.agg #[.int .i64 y0, .string y1, .string y2, .int .i64 y3]) 22 rfl rfl (Or.inl ⟨by rfl, by intro W hW; obtain ⟨c9, b2⟩ := hW; have y0 := c4c c9; go_simp⟩) a7 ?_;go_frame;refine rd1 11 rfl (fun K hK => ?_)
 go_simp;refine (bI9 y0 y1 y2 y3 _ s8.out s9.out (k8.out _ l5)).mono ?_;rintro e w5 ⟨ub, rfl, l8, p4, bw⟩;have o1 : Hid (ub = banT y0 y1 y2 y3) := l8 f9.out;have x3 : Hid (ub.size ≤ 200) := by show _ ≤ _; rw [o1.out]; exact aV3 f9.out
 clear l8 p4;have o2 : aC8 w (w5) c b := l5.below bw;have g1 := hblk e4 bw;have j4 := hblk l6 bw;have j5 := hblk l7 bw;have j6 : Hid (aB9 w5 b n (D)) := aE4 e5.out bw;clear l5 bw;have t7 := And.intro j5.out j4.out;refine hK.out _ _ t7 (fun _ => ?_)
 clear hK K a7;refine rd1 12 rfl (fun K hK => ?_)
 go_simp;have t8 : 0 ≤ (nb : Int) ∧ (nb : Int) ≤ 19 := by omega
 refine (cK8 c b v1 v2 V (.slice ob nb nb) cs ws nx sq (nb : Int) ub B _ g1.out (x2.out _ o2) n9.out t0.out o6.out t8 (by have := x3.out; omega) (Nat.le_trans (bB7 _ _) (by decide)) hs1 hs2 (fun W hg => k8.out _ (o2.one hg))).mono ?_
 rintro e w6 ⟨ok, u1, u2, e3, e6, j7, B1, rfl, i4, h7, a0, l9, t9⟩;obtain ⟨p5, p6, rfl⟩ := aA0 h7.cells;obtain ⟨p7, p8, rfl⟩ := aA0 h7.pend;clear t8;have p9 : aC8 w (w6) c b := o2.one a0;have y6 := hid a0.size;have j8 : Hid (w6.heap[q1]? = some (.cells #[.pointer (some ⟨c, 0, none⟩)] 91)) := (a0.block _ (blt j4.out) (fun e => b4.out.symm (Option.some.inj e))).trans j4.out
 have m0 : Hid (w6.heap[q2]? = some (.cells #[.int .i64 y0, .string y1, .string y2, .int .i64 y3] 62)) := (a0.block _ (blt j5.out) (fun e => b5.out.symm (Option.some.inj e))).trans j5.out
 have g2 := hid i4;have g3 : Hid (aB9 w6 b n D) := cL3 j6.out g1.out a0;have m1 := hid l9;have v0 := hid t9;clear i4 a0 l9 t9 o2;have q0 : Hid (aD3 w6 B1 (.slice p5 e3.length p6) e3.length e3 (.slice p7 e6.length p8) e6.length e6) := h7;clear h7;have j9 := And.intro m0.out j8.out;refine hK.out _ _ j9 (fun _ => ?_)
 clear hK K t7;cases ok
 ·refine tkP 13 (.bool true) 25 rfl rfl j9 (tkP 14 (.bool true) 26 rfl rfl j9 ?_);go_frame;clear j9;refine wdn ?_;go_wp2_with fail
  go_ret;have HE := v0.out (by first | rfl | trivial);exact ⟨false, _, _, _, j7, D, kv, rfl, g2.out, g3.out, k6.out, p9, (fun h => nomatch h), fun _ => ⟨fun h => HE.1.elim (fun e => cO2 f9.out hs1 hs2 (by rw [← o1.out]; exact e)) h.2.2, HE.2.1, HE.2.2.1, rfl, HE.2.2.2.2.2.1, rfl⟩⟩
 have HE := m1.out (by first | rfl | trivial);obtain ⟨v3, o3, o4, v4, x4⟩ := HE;have v5 := hid v3;have o5 : Hid (e3 = aU8 cs ws ∧ e6 = aV4 ws (nb : Int) (recI sq ub)) := ⟨o3, o4⟩;have v6 := hid v4;have g0 : e3.length ≤ 20 := by rw [o3]; have h1 := bI6 (cs := cs) (ws := ws); have h2 := n9.out.1; omega
 have y7 : e6.length ≤ 17 := by rw [o4]; exact cL7 n9.out.2.1
 have x5 : Hid (∀ i, i < e3.length → (aA8 e3 i).size ≤ 1048576) := by show ∀ _, _; rw [o3]; exact bI7 n9.out t0.out o6.out
 have x6 : Hid (∀ x ∈ e6, x.2.size ≤ 1048576) := by show ∀ _, _; rw [o4]; exact bI8 o6.out (Nat.le_trans (bB7 _ _) (by decide))
 clear v3 o3 o4 v4 x4 m1 v0;refine tkP 13 (.bool false) 25 rfl rfl j9 (tkP 14 (.bool false) 26 rfl rfl j9 ?_);go_frame;clear j9;refine wdn ?_;go_upto_region 4 with fail
 refine wp_region_held_drew (S := fun W => W.heap[q1]? = some (.cells #[.pointer (some ⟨c, 0, none⟩)] 91)) (by kernel_rfl) j8.out (fun _ => ?_)
 obtain ⟨w7, hX⟩ := exq w6.drew;have bw := bdr hX;rw [← hX];have q4 : aC8 w (w7) c b := p9.below bw;have e7 := hblk g2 bw;have m2 := hblk j8 bw;have q5 := hblk m0 bw;have k0 : Hid (aB9 w7 b n (D)) := aE4 g3.out bw;have m3 : Hid (aD3 w7 B1 (.slice p5 e3.length p6) e3.length e3 (.slice p7 e6.length p8) e6.length e6) := q0.out.below2 bw;have k1 := m2.out;clear p9 bw hX;refine tkL 0 (.pointer (some ⟨c, 0, none⟩)) 27 rfl rfl (Or.inl ⟨by rfl, by intro W hW; have b2 := hW; have y0 := c1c b2; go_simp⟩) k1 ?_;go_frame;refine tkL 1 (.pointer (some ⟨c, 0, none⟩)) 28 rfl rfl (Or.inl ⟨by rfl, by intro W hW; have b2 := hW; have y0 := c1c b2; go_simp⟩) k1 ?_;go_frame;refine tkP 2 (.pointer (some ⟨c, 0, none⟩)) 29 rfl rfl k1 (tkP 3 (.pointer (some ⟨c, 0, none⟩)) 30 rfl rfl k1 (tkP 4 (.pointer (some ⟨c, 0, none⟩)) 31 rfl rfl k1 ?_));go_frame;refine rd1 5 rfl (fun K hK => ?_)
 have q6 := (k7c e7).1;have q7 := (k7c e7).2.1;go_simp;refine hK.out _ _ k1 (fun _ => ?_)
 clear hK K q6 q7;refine rd1 6 rfl (fun K hK => ?_)
 go_simp;obtain ⟨a3, m4⟩ := exq (aL5 e3 e6 (fun _ => true))
 obtain ⟨a4, m5⟩ : ∃ l, l = ([] : List (Int × ByteArray)) := ⟨_, rfl⟩;have k5 : Hid (a3 = aL5 e3 e6 (fun _ => true) ∧ a4 = []) := ⟨m4, m5⟩
 clear m4 m5;have c3 := q4.size;refine ((aZ7 _ _ _ e3 _ e6 _ _ m3.out (by omega) (by omega) x5.out x6.out).mono (fun e w' h => (by rw [← k5.out.1, ← k5.out.2] at h; exact h : aU3 a3 a4 _ e w'))).mono ?_
 rintro e w8 ⟨va, vb, rfl, h7, bw⟩;obtain ⟨oF, pF, rfl⟩ := aA0 h7.cells;obtain ⟨oG, pG, rfl⟩ := aA0 h7.pend;have v7 : aC8 w (w8) c b := q4.below bw;have a8 := hblk e7 bw;have m6 := hblk m2 bw;have q8 := hblk q5 bw;have g4 : Hid (aB9 w8 b n (D)) := aE4 k0.out bw;have q9 : Hid (aD3 w8 B1 (.slice p5 e3.length p6) e3.length e3 (.slice p7 e6.length p8) e6.length e6) := m3.out.below2 bw;clear q4 bw;clear q9;have r0 : Hid (aD3 w8 w.heap.size (.slice oF a3.length pF) a3.length a3 (.slice oG a4.length pG) a4.length a4) := ⟨aE0 h7.cells c3, aE0 h7.pend c3⟩;clear h7 c3;have m7 := m6.out;refine hK.out _ _ m7 (fun _ => ?_)
 clear hK K k1;refine tkP 7 (.pointer (some ⟨c, 0, none⟩)) 34 rfl rfl m7 (tkP 8 (.pointer (some ⟨c, 0, none⟩)) 35 rfl rfl m7 (tkP 9 (.pointer (some ⟨c, 0, none⟩)) 36 rfl rfl m7 ?_));go_frame;refine rd1 10 rfl (fun K hK => ?_)
 have x7 := (k7c a8).1;have x8 := hfz a8 0;have x9 := (k7c a8).2.1;have y4 := hfz a8 1;obtain ⟨w9, i5⟩ := exq (w8.setCell ⟨c, 0, none⟩ (.slice oF a3.length pF));have v8 : aC8 w (w9) c b := by rw [i5]; exact (v7.set (.inl rfl) 0 _)
 have r1 := hset i5 b4.out.symm m6;have r2 := hset i5 b5.out.symm q8;have g5 : Hid (aB9 w9 b n (D)) := by show aB9 _ _ _ _; rw [i5]; exact World.ownsMap.setCell g4.out (aQ3 g4.out a8.out) _
 have r3 : Hid (aD3 w9 w.heap.size (.slice oF a3.length pF) a3.length a3 (.slice oG a4.length pG) a4.length a4) := by show aD3 _ _ _ _ _ _ _ _; rw [i5]; exact bE2 r0.out a8.out (by decide) (by decide)
 have e8 := hput i5 a8;obtain ⟨m8, d0⟩ := exq (w9.setCell ⟨c, 1, none⟩ (.slice oG a4.length pG));have m9 : aC8 w (m8) c b := by rw [d0]; exact (v8.set (.inl rfl) 1 _)
 have g6 := hset d0 b4.out.symm r1;have i6 := hset d0 b5.out.symm r2;have h8 : Hid (aB9 m8 b n (D)) := by show aB9 _ _ _ _; rw [d0]; exact World.ownsMap.setCell g5.out (aQ3 g5.out e8.out) _
 have n0 : Hid (aD3 m8 w.heap.size (.slice oF a3.length pF) a3.length a3 (.slice oG a4.length pG) a4.length a4) := by show aD3 _ _ _ _ _ _ _ _; rw [d0]; exact bE2 r3.out e8.out (by decide) (by decide)
 have h9 := hput d0 e8;have HY : Hid (((w8.setCell ⟨c, 0, none⟩ (.slice oF a3.length pF)).setCell ⟨c, 1, none⟩ (.slice oG a4.length pG)) = m8) := by show _ = _; rw [d0, i5]
 clear d0 i5 v7 v8;go_simp;rw [HY.out];have n1 := g6.out;refine hK.out _ _ n1 (fun _ => ?_)
 clear hK K HY m7 x7 x8 x9 y4;clear n1;refine wdn ?_;go_upto_region 5 with fail
 refine wp_region_held_drew (S := fun W => W.heap[q1]? = some (.cells #[.pointer (some ⟨c, 0, none⟩)] 91) ∧ W.heap[q2]? = some (.cells #[.int .i64 y0, .string y1, .string y2, .int .i64 y3] 62)) (by kernel_rfl) ⟨g6.out, i6.out⟩ (fun _ => ?_)
 obtain ⟨d1, hX⟩ := exq m8.drew;have bw := bdr hX;rw [← hX];have f3 : aC8 w (d1) c b := m9.below bw;have a9 := hblk h9 bw;have b6 := hblk g6 bw;have b7 := hblk i6 bw;have f2 : Hid (aB9 d1 b n (D)) := aE4 h8.out bw;have i7 : Hid (aD3 d1 w.heap.size (.slice oF a3.length pF) a3.length a3 (.slice oG a4.length pG) a4.length a4) := n0.out.below2 bw;have c4 := And.intro b6.out b7.out;clear m9 bw hX;refine tkL 0 (.pointer (some ⟨c, 0, none⟩)) 37 rfl rfl (Or.inl ⟨by rfl, by intro W hW; obtain ⟨b2, c9⟩ := hW; have y0 := c1c b2; go_simp⟩) c4 ?_;go_frame;refine tkL 1 (.pointer (some ⟨c, 0, none⟩)) 38 rfl rfl (Or.inl ⟨by rfl, by intro W hW; obtain ⟨b2, c9⟩ := hW; have y0 := c1c b2; go_simp⟩) c4 ?_;go_frame;refine tkP 2 (.pointer (some ⟨c, 0, none⟩)) 39 rfl rfl c4 (tkP 3 (.pointer (some ⟨c, 0, none⟩)) 40 rfl rfl c4 (tkP 4 (.pointer (some ⟨c, 3, none⟩)) 41 rfl rfl c4 ?_));go_frame;refine tkL 6 (.agg #[.int .i64 y0, .string y1, .string y2, .int .i64 y3]) 43 rfl rfl (Or.inl ⟨by rfl, by intro W hW; obtain ⟨b2, c9⟩ := hW; have y0 := c4c c9; go_simp⟩) c4 ?_;go_frame;refine wpAnyH_ready (rs := [5, 7]) (by kernel_rfl) (by simp) ?_;refine AllReadyH.cons rfl (fun K hK => ?_) (AllReadyH.cons rfl (fun K hK => ?_) AllReadyH.nil)
 ·have r4 := (k7c a9).2.2.2.1;go_simp;refine hK.out _ _ c4 (fun _ => ?_)
  clear hK K r4;refine rd1 7 rfl (fun K hK => ?_)
  go_simp;have bw : Below d1.heap.size d1 (d1.alloc (.cells #[.int .i64 y0, .string y1, .string y2, .int .i64 y3] 62)) := (Below.refl _ _).alloc (Nat.le_refl _) _;have n2 : (d1.alloc (.cells #[.int .i64 y0, .string y1, .string y2, .int .i64 y3] 62)).heap[q1]? = some (.cells #[.pointer (some ⟨c, 0, none⟩)] 91) ∧ (d1.alloc (.cells #[.int .i64 y0, .string y1, .string y2, .int .i64 y3] 62)).heap[q2]? = some (.cells #[.int .i64 y0, .string y1, .string y2, .int .i64 y3] 62) := ⟨aA3 b6.out bw, aA3 b7.out bw⟩;refine hK.out _ _ n2 (fun _ => ?_)
  clear hK K n2 bw c4;obtain ⟨q3, i1⟩ := exq (d1.heap.size);obtain ⟨d2, i2⟩ := exq ((d1.alloc (.cells #[.int .i64 y0, .string y1, .string y2, .int .i64 y3] 62)));rw [← i1, ← i2];have bw := bal i2;have c5 : aC8 w (d2) c b := f3.below bw;have r5 := hsz bw;have b3 := hblk a9 bw;have d3 := hblk b6 bw;have d4 := hblk b7 bw;have c6 : Hid (aB9 d2 b n (D)) := aE4 f2.out bw;have g7 : Hid (aD3 d2 w.heap.size (.slice oF a3.length pF) a3.length a3 (.slice oG a4.length pG) a4.length a4) := i7.out.below2 bw;have k2 : Hid (c ≠ q3) := fun e => by have h1 := (blt a9.out); omega
  have n3 : Hid (q1 ≠ q3) := fun e => by have h1 := (blt b6.out); omega
  have n4 : Hid (q2 ≠ q3) := fun e => by have h1 := (blt b7.out); omega
  have d5 : Hid (d2.heap[q3]? = some (.cells #[.int .i64 y0, .string y1, .string y2, .int .i64 y3] 62)) := by show _ = _; rw [i2, i1]; exact heap_alloc_new _ _
  have y5 : Hid (w.heap.size ≤ q3) := by show _ ≤ _; rw [i1]; exact f3.size
  have i3 := And.intro d3.out d4.out;clear f3 bw i2 i1;refine rd1 8 rfl (fun K hK => ?_)
  refine aU6 (by rfl) d2 _ _ 41 (by rfl) 62 i0 (.agg #[.int .i64 0, .string ⟨#[]⟩, .string ⟨#[]⟩, .int .i64 0]) 4 48 underlying41 hi t1 hz1 hz2 rfl (by decide) ob nb nb (aA5 bl) (by rfl) s7.out (bC7 s5.out.1 n8.out) (s6.out _ c5) ⟨q3, 0, none⟩ 1 1 [.int .i64 y0, .string y1, .string y2, .int .i64 y3] (by rfl) rfl (World.news_of_block d5.out) (by intro u hu; simp only [List.mem_cons, List.not_mem_nil, or_false] at hu; rcases hu with rfl | rfl | rfl | rfl <;> rfl) (by omega) (by unfold maxLen; omega) (by omega) ?_;intro vn c7 b8 a0;obtain ⟨oN, pN, rfl⟩ := aA0 b8;have bw : Below d2.heap.size (d2) c7 := ⟨a0.os, a0.tape, a0.output, a0.size, fun j hj => a0.block j hj (by simp)⟩
  have c3 : w.heap.size ≤ d2.heap.size := c5.size;have d6 : c7.ownsRow w.heap.size 62 4 (.slice oN (nb + 1) pN) (nb + 1) (aA5 (bl ++ [(y0, y1, y2, y3)])) := by rw [aZ8]; exact aE0 b8 c3
  have g8 : aC8 w (c7) c b := c5.below bw;have r6 := hsz bw;have a2 := hblk b3 bw;have d7 := hblk d3 bw;have d8 := hblk d4 bw;have n5 := hblk d5 bw;have b0 : Hid (aB9 c7 b n (D)) := aE4 c6.out bw;have g9 : Hid (aD3 c7 w.heap.size (.slice oF a3.length pF) a3.length a3 (.slice oG a4.length pG) a4.length a4) := g7.out.below2 bw;have b9 : Hid (World.ownsRow c7 w.heap.size 62 4 (.slice oN (nb + 1) pN) (nb + 1) (aA5 (bl ++ [(y0, y1, y2, y3)]))) := d6;clear b8 d6 a0 bw c3 c5;simp only [Act.put, List.setIfInBounds_toArray]
  have c0 := And.intro d7.out d8.out;refine hK.out _ _ c0 (fun _ => ?_)
  clear hK K i3;refine tkP 9 (.pointer (some ⟨c, 0, none⟩)) 46 rfl rfl c0 ?_;simp only [Act.put]
  refine tkP 10 (.pointer (some ⟨c, 0, none⟩)) 47 rfl rfl c0 ?_;simp only [Act.put]
  refine tkP 11 (.pointer (some ⟨c, 3, none⟩)) 48 rfl rfl c0 ?_;simp only [Act.put]
  refine rd1 12 rfl (fun K hK => ?_)
  have r7 := (k7c a2).2.2.2.1;have r8 := hfz a2 3;obtain ⟨f4, a5⟩ := exq (c7.setCell ⟨c, 3, none⟩ (.slice oN (nb + 1) pN));have e9 : aC8 w (f4) c b := by rw [a5]; exact (g8.set (.inl rfl) 3 _)
  have r9 : Hid (c7.heap.size ≤ f4.heap.size) := by show _ ≤ _; rw [a5]; simp
  have b1 := hset a5 b4.out.symm d7;have d9 := hset a5 b5.out.symm d8;have a1 : Hid (aB9 f4 b n (D)) := by show aB9 _ _ _ _; rw [a5]; exact World.ownsMap.setCell b0.out (aQ3 b0.out a2.out) _
  have e0 : Hid (aD3 f4 w.heap.size (.slice oF a3.length pF) a3.length a3 (.slice oG a4.length pG) a4.length a4) := by show aD3 _ _ _ _ _ _ _ _; rw [a5]; exact bE2 g9.out a2.out (by decide) (by decide)
  have c1 : Hid (World.ownsRow f4 w.heap.size 62 4 (.slice oN (nb + 1) pN) (nb + 1) (aA5 (bl ++ [(y0, y1, y2, y3)]))) := by show World.ownsRow _ _ _ _ _ _ _; rw [a5]; exact aA7 b9.out (fun g hg => heap_setCell_other _ _ g _ (fun e => aH5 b9.out (by decide) a2.out (by rw [hg, e])))
  have a6 := hput a5 a2;have HY : Hid ((c7.setCell ⟨c, 3, none⟩ (.slice oN (nb + 1) pN)) = f4) := by show _ = _; rw [a5]
  clear a5 g8;go_simp;rw [HY.out];have h0 := And.intro b1.out d9.out;refine hK.out _ _ h0 (fun _ => ?_)
  clear hK K HY c0 r7 r8;clear h0;refine wdn ?_;have h3 := (k7c a6).2.2.2.2.2.2;have f8 := k1c b1;go_wp2_with fail
  refine (bL8 127 q1 b n D kv (fun x => decide (AnyK (bl ++ [(y0, y1, y2, y3)]) x.1)) _ a1.out k6.out s1.out s2.out (enters_of func127 (by kernel_rfl) rfl) (fun W hg x hx => cC2 (bI2 q1 c b (.slice oF a3.length pF) (.slice oG a4.length pG) V oN (nb + 1) pN nx j7 (bl ++ [(y0, y1, y2, y3)]) x.1 x.2.1 x.2.2.1 x.2.2.2 W (aP3 a1.out b1.out hg) (aP3 a1.out a6.out hg) (bV0 (aV7 a1.out c1.out hg) n8.out) (by omega) k7.out (s3.out W (e9.two hg) x hx) (s4.out x hx)))).mono ?_
  rintro e f0 ⟨rfl, ⟨D1, h4, h5⟩, a0⟩;have k3 : aC8 w (f0) c b := e9.two a0;have s0 := hid a0.size;have c8 : Hid (f0.heap[c]? = some (.cells #[.slice oF a3.length pF, .slice oG a4.length pG, V, .slice oN (nb + 1) pN, .int .i64 nx, .int .i64 j7, .map (some b)] 143)) := aP3 a1.out a6.out a0;have n6 : Hid (f0.heap[q1]? = some (.cells #[.pointer (some ⟨c, 0, none⟩)] 91)) := aP3 a1.out b1.out a0;have n7 : Hid (f0.heap[q2]? = some (.cells #[.int .i64 y0, .string y1, .string y2, .int .i64 y3] 62)) := aP3 a1.out d9.out a0;have c2 : Hid (aB9 f0 b n D1) := h4;have k4 := hid h5;have h6 : Hid (aD3 f0 w.heap.size (.slice oF a3.length pF) a3.length a3 (.slice oG a4.length pG) a4.length a4) := ⟨aV7 a1.out e0.out.cells a0, aV7 a1.out e0.out.pend a0⟩;have f1 : Hid (World.ownsRow f0 w.heap.size 62 4 (.slice oN (nb + 1) pN) (nb + 1) (aA5 (bl ++ [(y0, y1, y2, y3)]))) := aV7 a1.out c1.out a0;clear h4 h5 a0 e9;clear h3 f8;go_wp2_with fail
  go_ret;refine ⟨true, _, _, _, j7, D1, _, rfl, c8.out, c2.out, k4.out, k3, fun _ => ⟨⟨f9.out, H5.out, fun e => v5.out (.inr e)⟩, v6.out, ⟨a3, ?_, ?_⟩, ⟨oN, pN, rfl, f1.out⟩, rfl⟩, (fun h => nomatch h)⟩
  ·rw [k5.out.1, o5.out.1, o5.out.2, o1.out]
  have h := h6.out;have e2 := k5.out.2;rw [e2] at h ⊢;exact h
 go_simp;have bw : Below d1.heap.size d1 (d1.alloc (.cells #[.int .i64 y0, .string y1, .string y2, .int .i64 y3] 62)) := (Below.refl _ _).alloc (Nat.le_refl _) _;have n2 : (d1.alloc (.cells #[.int .i64 y0, .string y1, .string y2, .int .i64 y3] 62)).heap[q1]? = some (.cells #[.pointer (some ⟨c, 0, none⟩)] 91) ∧ (d1.alloc (.cells #[.int .i64 y0, .string y1, .string y2, .int .i64 y3] 62)).heap[q2]? = some (.cells #[.int .i64 y0, .string y1, .string y2, .int .i64 y3] 62) := ⟨aA3 b6.out bw, aA3 b7.out bw⟩;refine hK.out _ _ n2 (fun _ => ?_)
 clear hK K n2 bw c4;obtain ⟨q3, i1⟩ := exq (d1.heap.size);obtain ⟨d2, i2⟩ := exq ((d1.alloc (.cells #[.int .i64 y0, .string y1, .string y2, .int .i64 y3] 62)));rw [← i1, ← i2];have bw := bal i2;have c5 : aC8 w (d2) c b := f3.below bw;have r5 := hsz bw;have b3 := hblk a9 bw;have d3 := hblk b6 bw;have d4 := hblk b7 bw;have c6 : Hid (aB9 d2 b n (D)) := aE4 f2.out bw;have g7 : Hid (aD3 d2 w.heap.size (.slice oF a3.length pF) a3.length a3 (.slice oG a4.length pG) a4.length a4) := i7.out.below2 bw;have k2 : Hid (c ≠ q3) := fun e => by have h1 := (blt a9.out); omega
 have n3 : Hid (q1 ≠ q3) := fun e => by have h1 := (blt b6.out); omega
 have n4 : Hid (q2 ≠ q3) := fun e => by have h1 := (blt b7.out); omega
 have d5 : Hid (d2.heap[q3]? = some (.cells #[.int .i64 y0, .string y1, .string y2, .int .i64 y3] 62)) := by show _ = _; rw [i2, i1]; exact heap_alloc_new _ _
 have y5 : Hid (w.heap.size ≤ q3) := by show _ ≤ _; rw [i1]; exact f3.size
 have i3 := And.intro d3.out d4.out;clear f3 bw i2 i1;refine rd1 5 rfl (fun K hK => ?_)
 have r4 := (k7c b3).2.2.2.1;go_simp;refine hK.out _ _ i3 (fun _ => ?_)
 clear hK K r4;refine rd1 8 rfl (fun K hK => ?_)
 refine aU6 (by rfl) d2 _ _ 41 (by rfl) 62 i0 (.agg #[.int .i64 0, .string ⟨#[]⟩, .string ⟨#[]⟩, .int .i64 0]) 4 48 underlying41 hi t1 hz1 hz2 rfl (by decide) ob nb nb (aA5 bl) (by rfl) s7.out (bC7 s5.out.1 n8.out) (s6.out _ c5) ⟨q3, 0, none⟩ 1 1 [.int .i64 y0, .string y1, .string y2, .int .i64 y3] (by rfl) rfl (World.news_of_block d5.out) (by intro u hu; simp only [List.mem_cons, List.not_mem_nil, or_false] at hu; rcases hu with rfl | rfl | rfl | rfl <;> rfl) (by omega) (by unfold maxLen; omega) (by omega) ?_;intro vn c7 b8 a0;obtain ⟨oN, pN, rfl⟩ := aA0 b8;have bw : Below d2.heap.size (d2) c7 := ⟨a0.os, a0.tape, a0.output, a0.size, fun j hj => a0.block j hj (by simp)⟩
 have c3 : w.heap.size ≤ d2.heap.size := c5.size;have d6 : c7.ownsRow w.heap.size 62 4 (.slice oN (nb + 1) pN) (nb + 1) (aA5 (bl ++ [(y0, y1, y2, y3)])) := by rw [aZ8]; exact aE0 b8 c3
 have g8 : aC8 w (c7) c b := c5.below bw;have r6 := hsz bw;have a2 := hblk b3 bw;have d7 := hblk d3 bw;have d8 := hblk d4 bw;have n5 := hblk d5 bw;have b0 : Hid (aB9 c7 b n (D)) := aE4 c6.out bw;have g9 : Hid (aD3 c7 w.heap.size (.slice oF a3.length pF) a3.length a3 (.slice oG a4.length pG) a4.length a4) := g7.out.below2 bw;have b9 : Hid (World.ownsRow c7 w.heap.size 62 4 (.slice oN (nb + 1) pN) (nb + 1) (aA5 (bl ++ [(y0, y1, y2, y3)]))) := d6;clear b8 d6 a0 bw c3 c5;simp only [Act.put, List.setIfInBounds_toArray]
 have c0 := And.intro d7.out d8.out;refine hK.out _ _ c0 (fun _ => ?_)
 clear hK K i3;refine tkP 9 (.pointer (some ⟨c, 0, none⟩)) 46 rfl rfl c0 ?_;simp only [Act.put]
 refine tkP 10 (.pointer (some ⟨c, 0, none⟩)) 47 rfl rfl c0 ?_;simp only [Act.put]
 refine tkP 11 (.pointer (some ⟨c, 3, none⟩)) 48 rfl rfl c0 ?_;simp only [Act.put]
 refine rd1 12 rfl (fun K hK => ?_)
 have r7 := (k7c a2).2.2.2.1;have r8 := hfz a2 3;obtain ⟨f4, a5⟩ := exq (c7.setCell ⟨c, 3, none⟩ (.slice oN (nb + 1) pN));have e9 : aC8 w (f4) c b := by rw [a5]; exact (g8.set (.inl rfl) 3 _)
 have r9 : Hid (c7.heap.size ≤ f4.heap.size) := by show _ ≤ _; rw [a5]; simp
 have b1 := hset a5 b4.out.symm d7;have d9 := hset a5 b5.out.symm d8;have a1 : Hid (aB9 f4 b n (D)) := by show aB9 _ _ _ _; rw [a5]; exact World.ownsMap.setCell b0.out (aQ3 b0.out a2.out) _
 have e0 : Hid (aD3 f4 w.heap.size (.slice oF a3.length pF) a3.length a3 (.slice oG a4.length pG) a4.length a4) := by show aD3 _ _ _ _ _ _ _ _; rw [a5]; exact bE2 g9.out a2.out (by decide) (by decide)
 have c1 : Hid (World.ownsRow f4 w.heap.size 62 4 (.slice oN (nb + 1) pN) (nb + 1) (aA5 (bl ++ [(y0, y1, y2, y3)]))) := by show World.ownsRow _ _ _ _ _ _ _; rw [a5]; exact aA7 b9.out (fun g hg => heap_setCell_other _ _ g _ (fun e => aH5 b9.out (by decide) a2.out (by rw [hg, e])))
 have a6 := hput a5 a2;have HY : Hid ((c7.setCell ⟨c, 3, none⟩ (.slice oN (nb + 1) pN)) = f4) := by show _ = _; rw [a5]
 clear a5 g8;go_simp;rw [HY.out];have h0 := And.intro b1.out d9.out;refine hK.out _ _ h0 (fun _ => ?_)
 clear hK K HY c0 r7 r8;clear h0;refine wdn ?_;have h3 := (k7c a6).2.2.2.2.2.2;have f8 := k1c b1;go_wp2_with fail
 refine (bL8 127 q1 b n D kv (fun x => decide (AnyK (bl ++ [(y0, y1, y2, y3)]) x.1)) _ a1.out k6.out s1.out s2.out (enters_of func127 (by kernel_rfl) rfl) (fun W hg x hx => cC2 (bI2 q1 c b (.slice oF a3.length pF) (.slice oG a4.length pG) V oN (nb + 1) pN nx j7 (bl ++ [(y0, y1, y2, y3)]) x.1 x.2.1 x.2.2.1 x.2.2.2 W (aP3 a1.out b1.out hg) (aP3 a1.out a6.out hg) (bV0 (aV7 a1.out c1.out hg) n8.out) (by omega) k7.out (s3.out W (e9.two hg) x hx) (s4.out x hx)))).mono ?_
 rintro e f0 ⟨rfl, ⟨D1, h4, h5⟩, a0⟩;have k3 : aC8 w (f0) c b := e9.two a0;have s0 := hid a0.size;have c8 : Hid (f0.heap[c]? = some (.cells #[.slice oF a3.length pF, .slice oG a4.length pG, V, .slice oN (nb + 1) pN, .int .i64 nx, .int .i64 j7, .map (some b)] 143)) := aP3 a1.out a6.out a0;have n6 : Hid (f0.heap[q1]? = some (.cells #[.pointer (some ⟨c, 0, none⟩)] 91)) := aP3 a1.out b1.out a0;have n7 : Hid (f0.heap[q2]? = some (.cells #[.int .i64 y0, .string y1, .string y2, .int .i64 y3] 62)) := aP3 a1.out d9.out a0;have c2 : Hid (aB9 f0 b n D1) := h4;have k4 := hid h5;have h6 : Hid (aD3 f0 w.heap.size (.slice oF a3.length pF) a3.length a3 (.slice oG a4.length pG) a4.length a4) := ⟨aV7 a1.out e0.out.cells a0, aV7 a1.out e0.out.pend a0⟩;have f1 : Hid (World.ownsRow f0 w.heap.size 62 4 (.slice oN (nb + 1) pN) (nb + 1) (aA5 (bl ++ [(y0, y1, y2, y3)]))) := aV7 a1.out c1.out a0;clear h4 h5 a0 e9;clear h3 f8;go_wp2_with fail
 go_ret;refine ⟨true, _, _, _, j7, D1, _, rfl, c8.out, c2.out, k4.out, k3, fun _ => ⟨⟨f9.out, H5.out, fun e => v5.out (.inr e)⟩, v6.out, ⟨a3, ?_, ?_⟩, ⟨oN, pN, rfl, f1.out⟩, rfl⟩, (fun h => nomatch h)⟩
 ·rw [k5.out.1, o5.out.1, o5.out.2, o1.out]
 have h := h6.out;have e2 := k5.out.2;rw [e2] at h ⊢;exact h
theorem aP5 (k : Int) (a b : Tx) (t : Int) (w : World) (ha : a.size ≤ maxLen) (hb : b.size ≤ maxLen) :
  Calls prog 60 #[.agg #[.int .i64 k, .string a, .string b, .int .i64 t]] w fun e w' => cO7 (BanP k a b t) (banT k a b t) w e w' := by
 have b6 := hid ha;have b7 := hid hb;obtain ⟨tt, b5⟩ := exq (aE7 t);have a7 : Hid (aE7 t = tt) := b5.symm;clear ha hb b5;have K0 := jnil w;go_enter func60, ntmps60;go_upto_region 1 with fail
 obtain ⟨q1, b3⟩ := exq (w.heap.size);obtain ⟨w1, b2⟩ := exq (w.alloc (.cells #[.int .i64 k, .string a, .string b, .int .i64 t] 62));have b4 := b3.symm;rw [← b2]; try rw [← b3];have b8 := hsa b2 b4;have bw := bal b2;have K1 := ja K0 b2 b4;clear bw b2 b4 K0;clear b8 b3;have a6 := c4c (jb K1 0 rfl);go_wp2_with fail
 refine (aN4 k a b t _ b6.out b7.out).mono ?_;rintro e w2 ⟨ub, rfl, b1, bw⟩;have K2 := jw K1 bw;clear bw K1;clear a6;cases ub
 ·have HF : Hid (¬ BanP k a b t) := fun h => nomatch b1.2 h
  clear b1;go_wp2_with fail
  go_ret;exact ⟨⟨#[]⟩, rfl, fun h => absurd h HF.out, fun _ => rfl, K2.hb⟩
 have b0 : Hid (BanP k a b t) := b1.1 rfl;clear b1;have HT : Hid (0 ≤ t ∧ t ≤ 1000000) := b0.out.1;have za : a.size ≤ 60 := b0.out.a_size.1;have zb : b.size ≤ 60 := b0.out.a_size.2;have b9 : tt.size ≤ 8 := by rw [← a7.out, aE3 HT.out.1]; exact aV0 _
 rcases b0.out.kinds with rfl | rfl | rfl
 ·go_upto_region 3 with fail
  refine wp_region_held_drew (S := fun W => W.heap[q1]? = some (.cells #[.int .i64 1, .string a, .string b, .int .i64 t] 62)) (by kernel_rfl) (jb K2 0 rfl) (fun _ => ?_)
  obtain ⟨w3, hX⟩ := exq w2.drew;have bw := bdr hX;rw [← hX];have K3 := jw K2 bw;have a4 := (jb K3 0 rfl);clear bw hX K2;refine tkP 1 (.pointer (some ⟨q1, 0, none⟩)) 8 rfl rfl a4 ?_;go_frame;refine tkL 2 (.int .i64 1) 9 rfl rfl (Or.inl ⟨by rfl, by intro W hW; have a1 := hW; have y0 := c4c a1; go_simp⟩) a4 ?_;go_frame;refine tkP 7 (.pointer (some ⟨q1, 3, none⟩)) 14 rfl rfl a4 ?_;go_frame;refine tkL 8 (.int .i64 t) 15 rfl rfl (Or.inl ⟨by rfl, by intro W hW; have a1 := hW; have y3 := c4c a1; go_simp⟩) a4 ?_;go_frame;refine tkP 12 (.pointer (some ⟨q1, 1, none⟩)) 19 rfl rfl a4 ?_;go_frame;refine tkL 13 (.string a) 20 rfl rfl (Or.inl ⟨by rfl, by intro W hW; have a1 := hW; have y1 := c4c a1; go_simp⟩) a4 ?_;go_frame;refine wpAnyH_ready (rs := [0, 9]) (by kernel_rfl) (by simp) ?_;refine AllReadyH.cons rfl (fun K hK => ?_) (AllReadyH.cons rfl (fun K hK => ?_) AllReadyH.nil)
  ·go_simp;have bw : Below w3.heap.size w3 (w3.alloc (.cells #[.string ⟨#[]⟩, .string ⟨#[112, 97, 116, 104]⟩, .string ⟨#[98, 101, 108, 111, 119]⟩, .string ⟨#[102, 105, 101, 108, 100]⟩] 9)) := (Below.refl _ _).alloc (Nat.le_refl _) _;have a8 := aA3 (jb K3 0 rfl) bw;refine hK.out _ _ a8 (fun _ => ?_)
   clear hK K a8 bw a4;obtain ⟨q2, a5⟩ := exq (w3.heap.size);obtain ⟨w4, a2⟩ := exq ((w3.alloc (.cells #[.string ⟨#[]⟩, .string ⟨#[112, 97, 116, 104]⟩, .string ⟨#[98, 101, 108, 111, 119]⟩, .string ⟨#[102, 105, 101, 108, 100]⟩] 9)));rw [← a5, ← a2];have bw := bal a2;have K4 := ja K3 a2 a5.symm;have a3 := (jb K4 1 rfl);clear bw a2 a5 K3;refine tkP 3 (.pointer (some ⟨q2, 1, none⟩)) 10 rfl rfl a3 ?_;go_frame;refine wpAnyH_ready (rs := [4, 9]) (by kernel_rfl) (by simp) ?_;refine AllReadyH.cons rfl (fun K hK => ?_) (AllReadyH.cons rfl (fun K hK => ?_) AllReadyH.nil)
   ·have a9 := c4c (jb K4 0 rfl);go_simp;refine hK.out _ _ a3 (fun _ => ?_)
    clear hK K a9;refine tkL 5 (.string (⟨#[98, 97, 110, 32]⟩ ++ ⟨#[112, 97, 116, 104]⟩)) 12 rfl rfl (Or.inl ⟨by rfl, by intro W _; go_simp <;> omega⟩) a3 ?_;go_frame;refine tkL 6 (.string ((⟨#[98, 97, 110, 32]⟩ ++ ⟨#[112, 97, 116, 104]⟩) ++ ⟨#[32]⟩)) 13 rfl rfl (Or.inl ⟨by rfl, by intro W _; go_simp <;> omega⟩) a3 ?_;go_frame;refine rd1 9 rfl (fun K hK => ?_)
    go_simp;refine (aE1 t _ (by have := HT.out; omega) (by have := HT.out; omega)).mono ?_;rintro e w5 ⟨rfl, bw⟩;rw [a7.out];have K5 := jw K4 bw;clear bw K4;have a0 := (jb K5 1 rfl);refine hK.out _ _ a0 (fun _ => ?_)
    clear hK K a3;refine tkL 10 (.string (((⟨#[98, 97, 110, 32]⟩ ++ ⟨#[112, 97, 116, 104]⟩) ++ ⟨#[32]⟩) ++ tt)) 17 rfl rfl (Or.inl ⟨by rfl, by intro W _; go_simp <;> omega⟩) a0 ?_;go_frame;refine tkL 11 (.string ((((⟨#[98, 97, 110, 32]⟩ ++ ⟨#[112, 97, 116, 104]⟩) ++ ⟨#[32]⟩) ++ tt) ++ ⟨#[32]⟩)) 18 rfl rfl (Or.inl ⟨by rfl, by intro W _; go_simp <;> omega⟩) a0 ?_;go_frame;refine tkL 14 (.string (((((⟨#[98, 97, 110, 32]⟩ ++ ⟨#[112, 97, 116, 104]⟩) ++ ⟨#[32]⟩) ++ tt) ++ ⟨#[32]⟩) ++ a)) 21 rfl rfl (Or.inl ⟨by rfl, by intro W _; go_simp <;> omega⟩) a0 ?_;go_frame;refine tkP 15 (.string (((((⟨#[98, 97, 110, 32]⟩ ++ ⟨#[112, 97, 116, 104]⟩) ++ ⟨#[32]⟩) ++ tt) ++ ⟨#[32]⟩) ++ a)) 3 rfl rfl a0 ?_;go_frame;clear a0;refine wdn ?_;have a6 := c4c (jb K5 1 rfl);go_wp2_with fail
    go_ret;exact ⟨_, rfl, fun _ => by rw [← a7.out, aE3 HT.out.1]; rfl, fun h => absurd b0.out h, K5.hb⟩
   go_simp;refine (aE1 t _ (by have := HT.out; omega) (by have := HT.out; omega)).mono ?_;rintro e w5 ⟨rfl, bw⟩;rw [a7.out];have K5 := jw K4 bw;clear bw K4;have a0 := (jb K5 1 rfl);refine hK.out _ _ a0 (fun _ => ?_)
   clear hK K a3;refine rd1 4 rfl (fun K hK => ?_)
   have a9 := c4c (jb K5 0 rfl);go_simp;refine hK.out _ _ a0 (fun _ => ?_)
   clear hK K a9;refine tkL 5 (.string (⟨#[98, 97, 110, 32]⟩ ++ ⟨#[112, 97, 116, 104]⟩)) 12 rfl rfl (Or.inl ⟨by rfl, by intro W _; go_simp <;> omega⟩) a0 ?_;go_frame;refine tkL 6 (.string ((⟨#[98, 97, 110, 32]⟩ ++ ⟨#[112, 97, 116, 104]⟩) ++ ⟨#[32]⟩)) 13 rfl rfl (Or.inl ⟨by rfl, by intro W _; go_simp <;> omega⟩) a0 ?_;go_frame;refine tkL 10 (.string (((⟨#[98, 97, 110, 32]⟩ ++ ⟨#[112, 97, 116, 104]⟩) ++ ⟨#[32]⟩) ++ tt)) 17 rfl rfl (Or.inl ⟨by rfl, by intro W _; go_simp <;> omega⟩) a0 ?_;go_frame;refine tkL 11 (.string ((((⟨#[98, 97, 110, 32]⟩ ++ ⟨#[112, 97, 116, 104]⟩) ++ ⟨#[32]⟩) ++ tt) ++ ⟨#[32]⟩)) 18 rfl rfl (Or.inl ⟨by rfl, by intro W _; go_simp <;> omega⟩) a0 ?_;go_frame;refine tkL 14 (.string (((((⟨#[98, 97, 110, 32]⟩ ++ ⟨#[112, 97, 116, 104]⟩) ++ ⟨#[32]⟩) ++ tt) ++ ⟨#[32]⟩) ++ a)) 21 rfl rfl (Or.inl ⟨by rfl, by intro W _; go_simp <;> omega⟩) a0 ?_;go_frame;refine tkP 15 (.string (((((⟨#[98, 97, 110, 32]⟩ ++ ⟨#[112, 97, 116, 104]⟩) ++ ⟨#[32]⟩) ++ tt) ++ ⟨#[32]⟩) ++ a)) 3 rfl rfl a0 ?_;go_frame;clear a0;refine wdn ?_;have a6 := c4c (jb K5 1 rfl);go_wp2_with fail
   go_ret;exact ⟨_, rfl, fun _ => by rw [← a7.out, aE3 HT.out.1]; rfl, fun h => absurd b0.out h, K5.hb⟩
  go_simp;refine (aE1 t _ (by have := HT.out; omega) (by have := HT.out; omega)).mono ?_;rintro e w4 ⟨rfl, bw⟩;rw [a7.out];have K4 := jw K3 bw;clear bw K3;have a3 := (jb K4 0 rfl);refine hK.out _ _ a3 (fun _ => ?_)
  clear hK K a4;refine rd1 0 rfl (fun K hK => ?_)
  go_simp;have bw : Below w4.heap.size w4 (w4.alloc (.cells #[.string ⟨#[]⟩, .string ⟨#[112, 97, 116, 104]⟩, .string ⟨#[98, 101, 108, 111, 119]⟩, .string ⟨#[102, 105, 101, 108, 100]⟩] 9)) := (Below.refl _ _).alloc (Nat.le_refl _) _;have a8 := aA3 (jb K4 0 rfl) bw;refine hK.out _ _ a8 (fun _ => ?_)
  clear hK K a8 bw a3;obtain ⟨q2, a5⟩ := exq (w4.heap.size);obtain ⟨w5, a2⟩ := exq ((w4.alloc (.cells #[.string ⟨#[]⟩, .string ⟨#[112, 97, 116, 104]⟩, .string ⟨#[98, 101, 108, 111, 119]⟩, .string ⟨#[102, 105, 101, 108, 100]⟩] 9)));rw [← a5, ← a2];have bw := bal a2;have K5 := ja K4 a2 a5.symm;have a0 := (jb K5 1 rfl);clear bw a2 a5 K4;refine tkP 3 (.pointer (some ⟨q2, 1, none⟩)) 10 rfl rfl a0 ?_;go_frame;refine rd1 4 rfl (fun K hK => ?_)
  have a9 := c4c (jb K5 0 rfl);go_simp;refine hK.out _ _ a0 (fun _ => ?_)
  clear hK K a9;refine tkL 5 (.string (⟨#[98, 97, 110, 32]⟩ ++ ⟨#[112, 97, 116, 104]⟩)) 12 rfl rfl (Or.inl ⟨by rfl, by intro W _; go_simp <;> omega⟩) a0 ?_;go_frame;refine tkL 6 (.string ((⟨#[98, 97, 110, 32]⟩ ++ ⟨#[112, 97, 116, 104]⟩) ++ ⟨#[32]⟩)) 13 rfl rfl (Or.inl ⟨by rfl, by intro W _; go_simp <;> omega⟩) a0 ?_;go_frame;refine tkL 10 (.string (((⟨#[98, 97, 110, 32]⟩ ++ ⟨#[112, 97, 116, 104]⟩) ++ ⟨#[32]⟩) ++ tt)) 17 rfl rfl (Or.inl ⟨by rfl, by intro W _; go_simp <;> omega⟩) a0 ?_;go_frame;refine tkL 11 (.string ((((⟨#[98, 97, 110, 32]⟩ ++ ⟨#[112, 97, 116, 104]⟩) ++ ⟨#[32]⟩) ++ tt) ++ ⟨#[32]⟩)) 18 rfl rfl (Or.inl ⟨by rfl, by intro W _; go_simp <;> omega⟩) a0 ?_;go_frame;refine tkL 14 (.string (((((⟨#[98, 97, 110, 32]⟩ ++ ⟨#[112, 97, 116, 104]⟩) ++ ⟨#[32]⟩) ++ tt) ++ ⟨#[32]⟩) ++ a)) 21 rfl rfl (Or.inl ⟨by rfl, by intro W _; go_simp <;> omega⟩) a0 ?_;go_frame;refine tkP 15 (.string (((((⟨#[98, 97, 110, 32]⟩ ++ ⟨#[112, 97, 116, 104]⟩) ++ ⟨#[32]⟩) ++ tt) ++ ⟨#[32]⟩) ++ a)) 3 rfl rfl a0 ?_;go_frame;clear a0;refine wdn ?_;have a6 := c4c (jb K5 1 rfl);go_wp2_with fail
  go_ret;exact ⟨_, rfl, fun _ => by rw [← a7.out, aE3 HT.out.1]; rfl, fun h => absurd b0.out h, K5.hb⟩
 ·go_upto_region 3 with fail
  refine wp_region_held_drew (S := fun W => W.heap[q1]? = some (.cells #[.int .i64 2, .string a, .string b, .int .i64 t] 62)) (by kernel_rfl) (jb K2 0 rfl) (fun _ => ?_)
  obtain ⟨w3, hX⟩ := exq w2.drew;have bw := bdr hX;rw [← hX];have K3 := jw K2 bw;have a4 := (jb K3 0 rfl);clear bw hX K2;refine tkP 1 (.pointer (some ⟨q1, 0, none⟩)) 8 rfl rfl a4 ?_;go_frame;refine tkL 2 (.int .i64 2) 9 rfl rfl (Or.inl ⟨by rfl, by intro W hW; have a1 := hW; have y0 := c4c a1; go_simp⟩) a4 ?_;go_frame;refine tkP 7 (.pointer (some ⟨q1, 3, none⟩)) 14 rfl rfl a4 ?_;go_frame;refine tkL 8 (.int .i64 t) 15 rfl rfl (Or.inl ⟨by rfl, by intro W hW; have a1 := hW; have y3 := c4c a1; go_simp⟩) a4 ?_;go_frame;refine tkP 12 (.pointer (some ⟨q1, 1, none⟩)) 19 rfl rfl a4 ?_;go_frame;refine tkL 13 (.string a) 20 rfl rfl (Or.inl ⟨by rfl, by intro W hW; have a1 := hW; have y1 := c4c a1; go_simp⟩) a4 ?_;go_frame;refine wpAnyH_ready (rs := [0, 9]) (by kernel_rfl) (by simp) ?_;refine AllReadyH.cons rfl (fun K hK => ?_) (AllReadyH.cons rfl (fun K hK => ?_) AllReadyH.nil)
  ·go_simp;have bw : Below w3.heap.size w3 (w3.alloc (.cells #[.string ⟨#[]⟩, .string ⟨#[112, 97, 116, 104]⟩, .string ⟨#[98, 101, 108, 111, 119]⟩, .string ⟨#[102, 105, 101, 108, 100]⟩] 9)) := (Below.refl _ _).alloc (Nat.le_refl _) _;have a8 := aA3 (jb K3 0 rfl) bw;refine hK.out _ _ a8 (fun _ => ?_)
   clear hK K a8 bw a4;obtain ⟨q2, a5⟩ := exq (w3.heap.size);obtain ⟨w4, a2⟩ := exq ((w3.alloc (.cells #[.string ⟨#[]⟩, .string ⟨#[112, 97, 116, 104]⟩, .string ⟨#[98, 101, 108, 111, 119]⟩, .string ⟨#[102, 105, 101, 108, 100]⟩] 9)));rw [← a5, ← a2];have bw := bal a2;have K4 := ja K3 a2 a5.symm;have a3 := (jb K4 1 rfl);clear bw a2 a5 K3;refine tkP 3 (.pointer (some ⟨q2, 2, none⟩)) 10 rfl rfl a3 ?_;go_frame;refine wpAnyH_ready (rs := [4, 9]) (by kernel_rfl) (by simp) ?_;refine AllReadyH.cons rfl (fun K hK => ?_) (AllReadyH.cons rfl (fun K hK => ?_) AllReadyH.nil)
   ·have a9 := c4c (jb K4 0 rfl);go_simp;refine hK.out _ _ a3 (fun _ => ?_)
    clear hK K a9;refine tkL 5 (.string (⟨#[98, 97, 110, 32]⟩ ++ ⟨#[98, 101, 108, 111, 119]⟩)) 12 rfl rfl (Or.inl ⟨by rfl, by intro W _; go_simp <;> omega⟩) a3 ?_;go_frame;refine tkL 6 (.string ((⟨#[98, 97, 110, 32]⟩ ++ ⟨#[98, 101, 108, 111, 119]⟩) ++ ⟨#[32]⟩)) 13 rfl rfl (Or.inl ⟨by rfl, by intro W _; go_simp <;> omega⟩) a3 ?_;go_frame;refine rd1 9 rfl (fun K hK => ?_)
    go_simp;refine (aE1 t _ (by have := HT.out; omega) (by have := HT.out; omega)).mono ?_;rintro e w5 ⟨rfl, bw⟩;rw [a7.out];have K5 := jw K4 bw;clear bw K4;have a0 := (jb K5 1 rfl);refine hK.out _ _ a0 (fun _ => ?_)
    clear hK K a3;refine tkL 10 (.string (((⟨#[98, 97, 110, 32]⟩ ++ ⟨#[98, 101, 108, 111, 119]⟩) ++ ⟨#[32]⟩) ++ tt)) 17 rfl rfl (Or.inl ⟨by rfl, by intro W _; go_simp <;> omega⟩) a0 ?_;go_frame;refine tkL 11 (.string ((((⟨#[98, 97, 110, 32]⟩ ++ ⟨#[98, 101, 108, 111, 119]⟩) ++ ⟨#[32]⟩) ++ tt) ++ ⟨#[32]⟩)) 18 rfl rfl (Or.inl ⟨by rfl, by intro W _; go_simp <;> omega⟩) a0 ?_;go_frame;refine tkL 14 (.string (((((⟨#[98, 97, 110, 32]⟩ ++ ⟨#[98, 101, 108, 111, 119]⟩) ++ ⟨#[32]⟩) ++ tt) ++ ⟨#[32]⟩) ++ a)) 21 rfl rfl (Or.inl ⟨by rfl, by intro W _; go_simp <;> omega⟩) a0 ?_;go_frame;refine tkP 15 (.string (((((⟨#[98, 97, 110, 32]⟩ ++ ⟨#[98, 101, 108, 111, 119]⟩) ++ ⟨#[32]⟩) ++ tt) ++ ⟨#[32]⟩) ++ a)) 3 rfl rfl a0 ?_;go_frame;clear a0;refine wdn ?_;have a6 := c4c (jb K5 1 rfl);go_wp2_with fail
    go_ret;exact ⟨_, rfl, fun _ => by rw [← a7.out, aE3 HT.out.1]; rfl, fun h => absurd b0.out h, K5.hb⟩
   go_simp;refine (aE1 t _ (by have := HT.out; omega) (by have := HT.out; omega)).mono ?_;rintro e w5 ⟨rfl, bw⟩;rw [a7.out];have K5 := jw K4 bw;clear bw K4;have a0 := (jb K5 1 rfl);refine hK.out _ _ a0 (fun _ => ?_)
   clear hK K a3;refine rd1 4 rfl (fun K hK => ?_)
   have a9 := c4c (jb K5 0 rfl);go_simp;refine hK.out _ _ a0 (fun _ => ?_)
   clear hK K a9;refine tkL 5 (.string (⟨#[98, 97, 110, 32]⟩ ++ ⟨#[98, 101, 108, 111, 119]⟩)) 12 rfl rfl (Or.inl ⟨by rfl, by intro W _; go_simp <;> omega⟩) a0 ?_;go_frame;refine tkL 6 (.string ((⟨#[98, 97, 110, 32]⟩ ++ ⟨#[98, 101, 108, 111, 119]⟩) ++ ⟨#[32]⟩)) 13 rfl rfl (Or.inl ⟨by rfl, by intro W _; go_simp <;> omega⟩) a0 ?_;go_frame;refine tkL 10 (.string (((⟨#[98, 97, 110, 32]⟩ ++ ⟨#[98, 101, 108, 111, 119]⟩) ++ ⟨#[32]⟩) ++ tt)) 17 rfl rfl (Or.inl ⟨by rfl, by intro W _; go_simp <;> omega⟩) a0 ?_;go_frame;refine tkL 11 (.string ((((⟨#[98, 97, 110, 32]⟩ ++ ⟨#[98, 101, 108, 111, 119]⟩) ++ ⟨#[32]⟩) ++ tt) ++ ⟨#[32]⟩)) 18 rfl rfl (Or.inl ⟨by rfl, by intro W _; go_simp <;> omega⟩) a0 ?_;go_frame;refine tkL 14 (.string (((((⟨#[98, 97, 110, 32]⟩ ++ ⟨#[98, 101, 108, 111, 119]⟩) ++ ⟨#[32]⟩) ++ tt) ++ ⟨#[32]⟩) ++ a)) 21 rfl rfl (Or.inl ⟨by rfl, by intro W _; go_simp <;> omega⟩) a0 ?_;go_frame;refine tkP 15 (.string (((((⟨#[98, 97, 110, 32]⟩ ++ ⟨#[98, 101, 108, 111, 119]⟩) ++ ⟨#[32]⟩) ++ tt) ++ ⟨#[32]⟩) ++ a)) 3 rfl rfl a0 ?_;go_frame;clear a0;refine wdn ?_;have a6 := c4c (jb K5 1 rfl);go_wp2_with fail
   go_ret;exact ⟨_, rfl, fun _ => by rw [← a7.out, aE3 HT.out.1]; rfl, fun h => absurd b0.out h, K5.hb⟩
  go_simp;refine (aE1 t _ (by have := HT.out; omega) (by have := HT.out; omega)).mono ?_;rintro e w4 ⟨rfl, bw⟩;rw [a7.out];have K4 := jw K3 bw;clear bw K3;have a3 := (jb K4 0 rfl);refine hK.out _ _ a3 (fun _ => ?_)
  clear hK K a4;refine rd1 0 rfl (fun K hK => ?_)
  go_simp;have bw : Below w4.heap.size w4 (w4.alloc (.cells #[.string ⟨#[]⟩, .string ⟨#[112, 97, 116, 104]⟩, .string ⟨#[98, 101, 108, 111, 119]⟩, .string ⟨#[102, 105, 101, 108, 100]⟩] 9)) := (Below.refl _ _).alloc (Nat.le_refl _) _;have a8 := aA3 (jb K4 0 rfl) bw;refine hK.out _ _ a8 (fun _ => ?_)
  clear hK K a8 bw a3;obtain ⟨q2, a5⟩ := exq (w4.heap.size);obtain ⟨w5, a2⟩ := exq ((w4.alloc (.cells #[.string ⟨#[]⟩, .string ⟨#[112, 97, 116, 104]⟩, .string ⟨#[98, 101, 108, 111, 119]⟩, .string ⟨#[102, 105, 101, 108, 100]⟩] 9)));rw [← a5, ← a2];have bw := bal a2;have K5 := ja K4 a2 a5.symm;have a0 := (jb K5 1 rfl);clear bw a2 a5 K4;refine tkP 3 (.pointer (some ⟨q2, 2, none⟩)) 10 rfl rfl a0 ?_;go_frame;refine rd1 4 rfl (fun K hK => ?_)
  have a9 := c4c (jb K5 0 rfl);go_simp;refine hK.out _ _ a0 (fun _ => ?_)
  clear hK K a9;refine tkL 5 (.string (⟨#[98, 97, 110, 32]⟩ ++ ⟨#[98, 101, 108, 111, 119]⟩)) 12 rfl rfl (Or.inl ⟨by rfl, by intro W _; go_simp <;> omega⟩) a0 ?_;go_frame;refine tkL 6 (.string ((⟨#[98, 97, 110, 32]⟩ ++ ⟨#[98, 101, 108, 111, 119]⟩) ++ ⟨#[32]⟩)) 13 rfl rfl (Or.inl ⟨by rfl, by intro W _; go_simp <;> omega⟩) a0 ?_;go_frame;refine tkL 10 (.string (((⟨#[98, 97, 110, 32]⟩ ++ ⟨#[98, 101, 108, 111, 119]⟩) ++ ⟨#[32]⟩) ++ tt)) 17 rfl rfl (Or.inl ⟨by rfl, by intro W _; go_simp <;> omega⟩) a0 ?_;go_frame;refine tkL 11 (.string ((((⟨#[98, 97, 110, 32]⟩ ++ ⟨#[98, 101, 108, 111, 119]⟩) ++ ⟨#[32]⟩) ++ tt) ++ ⟨#[32]⟩)) 18 rfl rfl (Or.inl ⟨by rfl, by intro W _; go_simp <;> omega⟩) a0 ?_;go_frame;refine tkL 14 (.string (((((⟨#[98, 97, 110, 32]⟩ ++ ⟨#[98, 101, 108, 111, 119]⟩) ++ ⟨#[32]⟩) ++ tt) ++ ⟨#[32]⟩) ++ a)) 21 rfl rfl (Or.inl ⟨by rfl, by intro W _; go_simp <;> omega⟩) a0 ?_;go_frame;refine tkP 15 (.string (((((⟨#[98, 97, 110, 32]⟩ ++ ⟨#[98, 101, 108, 111, 119]⟩) ++ ⟨#[32]⟩) ++ tt) ++ ⟨#[32]⟩) ++ a)) 3 rfl rfl a0 ?_;go_frame;clear a0;refine wdn ?_;have a6 := c4c (jb K5 1 rfl);go_wp2_with fail
  go_ret;exact ⟨_, rfl, fun _ => by rw [← a7.out, aE3 HT.out.1]; rfl, fun h => absurd b0.out h, K5.hb⟩
 go_upto_region 3 with fail
 refine wp_region_held_drew (S := fun W => W.heap[q1]? = some (.cells #[.int .i64 3, .string a, .string b, .int .i64 t] 62)) (by kernel_rfl) (jb K2 0 rfl) (fun _ => ?_)
 obtain ⟨w3, hX⟩ := exq w2.drew;have bw := bdr hX;rw [← hX];have K3 := jw K2 bw;have a4 := (jb K3 0 rfl);clear bw hX K2;refine tkP 1 (.pointer (some ⟨q1, 0, none⟩)) 8 rfl rfl a4 ?_;go_frame;refine tkL 2 (.int .i64 3) 9 rfl rfl (Or.inl ⟨by rfl, by intro W hW; have a1 := hW; have y0 := c4c a1; go_simp⟩) a4 ?_;go_frame;refine tkP 7 (.pointer (some ⟨q1, 3, none⟩)) 14 rfl rfl a4 ?_;go_frame;refine tkL 8 (.int .i64 t) 15 rfl rfl (Or.inl ⟨by rfl, by intro W hW; have a1 := hW; have y3 := c4c a1; go_simp⟩) a4 ?_;go_frame;refine tkP 12 (.pointer (some ⟨q1, 1, none⟩)) 19 rfl rfl a4 ?_;go_frame;refine tkL 13 (.string a) 20 rfl rfl (Or.inl ⟨by rfl, by intro W hW; have a1 := hW; have y1 := c4c a1; go_simp⟩) a4 ?_;go_frame;refine wpAnyH_ready (rs := [0, 9]) (by kernel_rfl) (by simp) ?_;refine AllReadyH.cons rfl (fun K hK => ?_) (AllReadyH.cons rfl (fun K hK => ?_) AllReadyH.nil)
 ·go_simp;have bw : Below w3.heap.size w3 (w3.alloc (.cells #[.string ⟨#[]⟩, .string ⟨#[112, 97, 116, 104]⟩, .string ⟨#[98, 101, 108, 111, 119]⟩, .string ⟨#[102, 105, 101, 108, 100]⟩] 9)) := (Below.refl _ _).alloc (Nat.le_refl _) _;have a8 := aA3 (jb K3 0 rfl) bw;refine hK.out _ _ a8 (fun _ => ?_)
  clear hK K a8 bw a4;obtain ⟨q2, a5⟩ := exq (w3.heap.size);obtain ⟨w4, a2⟩ := exq ((w3.alloc (.cells #[.string ⟨#[]⟩, .string ⟨#[112, 97, 116, 104]⟩, .string ⟨#[98, 101, 108, 111, 119]⟩, .string ⟨#[102, 105, 101, 108, 100]⟩] 9)));rw [← a5, ← a2];have bw := bal a2;have K4 := ja K3 a2 a5.symm;have a3 := (jb K4 1 rfl);clear bw a2 a5 K3;refine tkP 3 (.pointer (some ⟨q2, 3, none⟩)) 10 rfl rfl a3 ?_;go_frame;refine wpAnyH_ready (rs := [4, 9]) (by kernel_rfl) (by simp) ?_;refine AllReadyH.cons rfl (fun K hK => ?_) (AllReadyH.cons rfl (fun K hK => ?_) AllReadyH.nil)
  ·have a9 := c4c (jb K4 0 rfl);go_simp;refine hK.out _ _ a3 (fun _ => ?_)
   clear hK K a9;refine tkL 5 (.string (⟨#[98, 97, 110, 32]⟩ ++ ⟨#[102, 105, 101, 108, 100]⟩)) 12 rfl rfl (Or.inl ⟨by rfl, by intro W _; go_simp <;> omega⟩) a3 ?_;go_frame;refine tkL 6 (.string ((⟨#[98, 97, 110, 32]⟩ ++ ⟨#[102, 105, 101, 108, 100]⟩) ++ ⟨#[32]⟩)) 13 rfl rfl (Or.inl ⟨by rfl, by intro W _; go_simp <;> omega⟩) a3 ?_;go_frame;refine rd1 9 rfl (fun K hK => ?_)
   go_simp;refine (aE1 t _ (by have := HT.out; omega) (by have := HT.out; omega)).mono ?_;rintro e w5 ⟨rfl, bw⟩;rw [a7.out];have K5 := jw K4 bw;clear bw K4;have a0 := (jb K5 1 rfl);refine hK.out _ _ a0 (fun _ => ?_)
   clear hK K a3;refine tkL 10 (.string (((⟨#[98, 97, 110, 32]⟩ ++ ⟨#[102, 105, 101, 108, 100]⟩) ++ ⟨#[32]⟩) ++ tt)) 17 rfl rfl (Or.inl ⟨by rfl, by intro W _; go_simp <;> omega⟩) a0 ?_;go_frame;refine tkL 11 (.string ((((⟨#[98, 97, 110, 32]⟩ ++ ⟨#[102, 105, 101, 108, 100]⟩) ++ ⟨#[32]⟩) ++ tt) ++ ⟨#[32]⟩)) 18 rfl rfl (Or.inl ⟨by rfl, by intro W _; go_simp <;> omega⟩) a0 ?_;go_frame;refine tkL 14 (.string (((((⟨#[98, 97, 110, 32]⟩ ++ ⟨#[102, 105, 101, 108, 100]⟩) ++ ⟨#[32]⟩) ++ tt) ++ ⟨#[32]⟩) ++ a)) 21 rfl rfl (Or.inl ⟨by rfl, by intro W _; go_simp <;> omega⟩) a0 ?_;go_frame;refine tkP 15 (.string (((((⟨#[98, 97, 110, 32]⟩ ++ ⟨#[102, 105, 101, 108, 100]⟩) ++ ⟨#[32]⟩) ++ tt) ++ ⟨#[32]⟩) ++ a)) 3 rfl rfl a0 ?_;go_frame;clear a0;refine wdn ?_;have a6 := c4c (jb K5 1 rfl);go_wp2_with fail
   go_ret;exact ⟨_, rfl, fun _ => by rw [← a7.out, aE3 HT.out.1]; rfl, fun h => absurd b0.out h, K5.hb⟩
  go_simp;refine (aE1 t _ (by have := HT.out; omega) (by have := HT.out; omega)).mono ?_;rintro e w5 ⟨rfl, bw⟩;rw [a7.out];have K5 := jw K4 bw;clear bw K4;have a0 := (jb K5 1 rfl);refine hK.out _ _ a0 (fun _ => ?_)
  clear hK K a3;refine rd1 4 rfl (fun K hK => ?_)
  have a9 := c4c (jb K5 0 rfl);go_simp;refine hK.out _ _ a0 (fun _ => ?_)
  clear hK K a9;refine tkL 5 (.string (⟨#[98, 97, 110, 32]⟩ ++ ⟨#[102, 105, 101, 108, 100]⟩)) 12 rfl rfl (Or.inl ⟨by rfl, by intro W _; go_simp <;> omega⟩) a0 ?_;go_frame;refine tkL 6 (.string ((⟨#[98, 97, 110, 32]⟩ ++ ⟨#[102, 105, 101, 108, 100]⟩) ++ ⟨#[32]⟩)) 13 rfl rfl (Or.inl ⟨by rfl, by intro W _; go_simp <;> omega⟩) a0 ?_;go_frame;refine tkL 10 (.string (((⟨#[98, 97, 110, 32]⟩ ++ ⟨#[102, 105, 101, 108, 100]⟩) ++ ⟨#[32]⟩) ++ tt)) 17 rfl rfl (Or.inl ⟨by rfl, by intro W _; go_simp <;> omega⟩) a0 ?_;go_frame;refine tkL 11 (.string ((((⟨#[98, 97, 110, 32]⟩ ++ ⟨#[102, 105, 101, 108, 100]⟩) ++ ⟨#[32]⟩) ++ tt) ++ ⟨#[32]⟩)) 18 rfl rfl (Or.inl ⟨by rfl, by intro W _; go_simp <;> omega⟩) a0 ?_;go_frame;refine tkL 14 (.string (((((⟨#[98, 97, 110, 32]⟩ ++ ⟨#[102, 105, 101, 108, 100]⟩) ++ ⟨#[32]⟩) ++ tt) ++ ⟨#[32]⟩) ++ a)) 21 rfl rfl (Or.inl ⟨by rfl, by intro W _; go_simp <;> omega⟩) a0 ?_;go_frame;refine tkP 15 (.string (((((⟨#[98, 97, 110, 32]⟩ ++ ⟨#[102, 105, 101, 108, 100]⟩) ++ ⟨#[32]⟩) ++ tt) ++ ⟨#[32]⟩) ++ a)) 3 rfl rfl a0 ?_;go_frame;clear a0;refine wdn ?_;have a6 := c4c (jb K5 1 rfl);go_wp2_with fail
  go_ret;exact ⟨_, rfl, fun _ => by rw [← a7.out, aE3 HT.out.1]; rfl, fun h => absurd b0.out h, K5.hb⟩
 go_simp;refine (aE1 t _ (by have := HT.out; omega) (by have := HT.out; omega)).mono ?_;rintro e w4 ⟨rfl, bw⟩;rw [a7.out];have K4 := jw K3 bw;clear bw K3;have a3 := (jb K4 0 rfl);refine hK.out _ _ a3 (fun _ => ?_)
 clear hK K a4;refine rd1 0 rfl (fun K hK => ?_)
 go_simp;have bw : Below w4.heap.size w4 (w4.alloc (.cells #[.string ⟨#[]⟩, .string ⟨#[112, 97, 116, 104]⟩, .string ⟨#[98, 101, 108, 111, 119]⟩, .string ⟨#[102, 105, 101, 108, 100]⟩] 9)) := (Below.refl _ _).alloc (Nat.le_refl _) _;have a8 := aA3 (jb K4 0 rfl) bw;refine hK.out _ _ a8 (fun _ => ?_)
 clear hK K a8 bw a3;obtain ⟨q2, a5⟩ := exq (w4.heap.size);obtain ⟨w5, a2⟩ := exq ((w4.alloc (.cells #[.string ⟨#[]⟩, .string ⟨#[112, 97, 116, 104]⟩, .string ⟨#[98, 101, 108, 111, 119]⟩, .string ⟨#[102, 105, 101, 108, 100]⟩] 9)));rw [← a5, ← a2];have bw := bal a2;have K5 := ja K4 a2 a5.symm;have a0 := (jb K5 1 rfl);clear bw a2 a5 K4;refine tkP 3 (.pointer (some ⟨q2, 3, none⟩)) 10 rfl rfl a0 ?_;go_frame;refine rd1 4 rfl (fun K hK => ?_)
 have a9 := c4c (jb K5 0 rfl);go_simp;refine hK.out _ _ a0 (fun _ => ?_)
 clear hK K a9;refine tkL 5 (.string (⟨#[98, 97, 110, 32]⟩ ++ ⟨#[102, 105, 101, 108, 100]⟩)) 12 rfl rfl (Or.inl ⟨by rfl, by intro W _; go_simp <;> omega⟩) a0 ?_;go_frame;refine tkL 6 (.string ((⟨#[98, 97, 110, 32]⟩ ++ ⟨#[102, 105, 101, 108, 100]⟩) ++ ⟨#[32]⟩)) 13 rfl rfl (Or.inl ⟨by rfl, by intro W _; go_simp <;> omega⟩) a0 ?_;go_frame;refine tkL 10 (.string (((⟨#[98, 97, 110, 32]⟩ ++ ⟨#[102, 105, 101, 108, 100]⟩) ++ ⟨#[32]⟩) ++ tt)) 17 rfl rfl (Or.inl ⟨by rfl, by intro W _; go_simp <;> omega⟩) a0 ?_;go_frame;refine tkL 11 (.string ((((⟨#[98, 97, 110, 32]⟩ ++ ⟨#[102, 105, 101, 108, 100]⟩) ++ ⟨#[32]⟩) ++ tt) ++ ⟨#[32]⟩)) 18 rfl rfl (Or.inl ⟨by rfl, by intro W _; go_simp <;> omega⟩) a0 ?_;go_frame;refine tkL 14 (.string (((((⟨#[98, 97, 110, 32]⟩ ++ ⟨#[102, 105, 101, 108, 100]⟩) ++ ⟨#[32]⟩) ++ tt) ++ ⟨#[32]⟩) ++ a)) 21 rfl rfl (Or.inl ⟨by rfl, by intro W _; go_simp <;> omega⟩) a0 ?_;go_frame;refine tkP 15 (.string (((((⟨#[98, 97, 110, 32]⟩ ++ ⟨#[102, 105, 101, 108, 100]⟩) ++ ⟨#[32]⟩) ++ tt) ++ ⟨#[32]⟩) ++ a)) 3 rfl rfl a0 ?_;go_frame;clear a0;refine wdn ?_;have a6 := c4c (jb K5 1 rfl);go_wp2_with fail
 go_ret;exact ⟨_, rfl, fun _ => by rw [← a7.out, aE3 HT.out.1]; rfl, fun h => absurd b0.out h, K5.hb⟩
end Go.Proofs.YtejoifianjgefaaGreatDoor
